/-
  FnMaps answers true at every list of bytes, and its argument reads as it did; the listed tables of the library lie as the program's text lays them. No other condition.
-/
import Derived.Test.YtkegdhgcebbmgabDoorReadI
import Derived.Test.YtkegdhgcebbmgabDoorTrip
import Derived.Test.YtkegdhgcebbmgabDoorDrawMaps
import Derived.Test.YtkegdhgcebbmgabDoorSameMap
import Derived.Test.YtkegdhgcebbmgabDoorBytesArg
import Derived.Test.YtkegdhgcebbmgabDoorShelf
import Derived.Test.YtkegdhgcebbmgabDoorPost
import Derived.Test.YtkegdhgcebbmgabDoorTie
import Derived.Test.YtkegdhgcebbmgabDoorCards
import Derived.LaidMore
import Derived.Lay
import Derived.SevenTiedAt
import Derived.Stop.Joined
import Derived.Stop.LaidErr
import Derived.MakeChecks
import Derived.ChangeSame
import Derived.Deep.Strs
import Derived.ChangeMaps
namespace Go.Proofs.YtkegdhgcebbmgabDoor
open Go.ChangeShapes Go.WideShapes Go.ChangeAt Go.RowKit Go.Deep

theorem join_said : JoinSaid := fun bk o c xs sep w => Tryd.strings_Join bk o c xs sep w

theorem readP_len' (s : ByteArray) (h : s.size ≤ 1048576) : (readP s).length ≤ 1048577 := by
  have := words_count s
  unfold readP
  split
  · simp
  · split
    · rw [pairsW_len]
      omega
    · simp
theorem readP_fits (s : ByteArray) (h : s.size ≤ 1048576) : Fits (readP s) := by
  unfold readP
  split
  · intro p hp
    cases hp
  · split
    · exact pairsW_fits fun x hx => by have := words_size x hx; unfold maxLen; omega
    · intro p hp
      cases hp
theorem cb_at {w w' : World} {A : Option Addr} {n : Nat} (h : CB w w.heap.size A n) (hb : Below w.heap.size w w') : CB w' w'.heap.size A n := by
  have h := h.grown (grown_of_below (r := none) hb) (Nat.le_refl _) (by simp)
  rcases h with h | ⟨b, off, e, hb', hx⟩
  · exact .inl h
  · exact .inr ⟨b, off, e, Nat.lt_of_lt_of_le hb' hb.size, hx⟩

set_option maxHeartbeats 4000000 in
set_option maxRecDepth 200000 in
theorem fnMaps_walk (HJ : JoinSaid) (A : Option Addr) (n c : Nat) (w : World) (hc : CB w w.heap.size A n) (hn : n ≤ maxLen) (hm : MaxC w) :
    Calls Tryd.prog 4 #[.slice A n c] w fun e w' => e = .returned (.bool true) ∧ Below w.heap.size w w' := by
  have HC := hid hc
  have HM : Hid (∀ W : World, Below w.heap.size w W → MaxC W) := fun W h => hm.below h
  clear hc hm
  unfold maxLen at hn
  go_enter Tryd.func4, Tryd.ntmps4
  go_wp2_with fail
  refine (big_any A n c _).mono ?_
  rintro e w0 ⟨rfl, rfl⟩
  by_cases hbig : (1048576 : Int) < (n : Int)
  · go_wp2_with fail
    go_ret
    exact ⟨rfl, Below.refl _ _⟩
  go_wp2_with fail
  refine (drawMapText_any A n c _ HC.out (by omega)).mono ?_
  rintro e w1 ⟨A1, c1, ps, rfl, ho1, hs1, hl1, hb1⟩
  have HO1 := hid ho1
  have HF1 := hid hs1.fits
  have HB1 := hid hb1
  have HN1 : Hid (ps.length ≤ maxLen) := by show _ ≤ 2 ^ 63 - 1; omega
  clear ho1 hs1 hb1
  have hz := @mapT_size ps
  go_wp2_with fail
  refine (impl_MapText HJ A1 c1 ps _ HO1.out.rp HF1.out HN1.out).mono ?_
  rintro e w2 ⟨rfl, hb2⟩
  have HB2 := hid (HB1.out.trans (hb2.mono HB1.out.size))
  have R2 := hid (HO1.out.below hb2)
  clear hb2
  have hss : ((mapT ps).toList == (mapT ps).toList) = true := by simp
  have hmm : (mapB ps != mapB ps) = false := by simp
  have hrm := impl_ReadMap (mapT ps) w2 (by omega) (HM.out _ HB2.out)
  cases hmb : mapB ps
  · have HMB := hid hmb
    have HRM := hid hrm
    clear hrm hmb
    go_wp2_with fail
    refine HRM.out.mono ?_
    rintro e w3 ⟨A3, c3, rfl, ho3, hb3⟩
    have HB3 := hid (HB2.out.trans (hb3.mono HB2.out.size))
    have O3 := hid ho3
    have R3 := hid (R2.out.below hb3)
    clear ho3 hb3
    go_wp2_with fail
    refine (drawKeyOk_any A n c _ (cb_at HC.out HB3.out) (by omega)).mono ?_
    rintro e w4 ⟨k, rfl, hkz, hb4⟩
    have HB4 := hid (HB3.out.trans (hb4.mono HB3.out.size))
    have O4 := hid (O3.out.below hb4)
    have R4 := hid (R3.out.below hb4)
    clear hb4
    have hkm : k.size ≤ maxLen := by unfold maxLen; omega
    have HKM := hid hkm
    clear hkm
    have hkk : (keyB k != keyB k) = false := by simp
    go_wp2_with fail
    refine (spec_MapText A1 c1 ps _ _ R4.out.rp HF1.out HN1.out).mono ?_
    rintro e w5a ⟨rfl, hd5⟩
    have HB5a := hid (HB4.out.trans (hd5.below _))
    have O5a := hid (O4.out.below (hd5.below _))
    have R5a := hid (R4.out.below (hd5.below _))
    clear hd5
    go_wp2_with (first
      | (go_at_call 15; refine (impl_KeyOk k _ HKM.out).mono ?_; rintro e w' ⟨rfl, rfl⟩)
      | (go_at_call 16; refine (spec_KeyOk k _ HKM.out).mono ?_; rintro e w' ⟨rfl, rfl⟩))
    refine (impl_MapOk A1 c1 ps _ R5a.out.rp HF1.out HN1.out).mono ?_
    rintro e w5b ⟨rfl, hb5b⟩
    have HB5b := hid (HB5a.out.trans (hb5b.mono HB5a.out.size))
    have O5b := hid (O5a.out.below hb5b)
    have R5b := hid (R5a.out.below hb5b)
    clear hb5b
    go_wp2_with fail
    refine (spec_MapOk A1 c1 ps _ _ R5b.out.rp HF1.out HN1.out).mono ?_
    rintro e w5c ⟨rfl, hd5c⟩
    have HB5c := hid (HB5b.out.trans (hd5c.below _))
    have O5c := hid (O5b.out.below (hd5c.below _))
    have R5c := hid (R5b.out.below (hd5c.below _))
    clear hd5c
    go_wp2_with fail
    refine (impl_MapOk A1 c1 ps _ R5c.out.rp HF1.out HN1.out).mono ?_
    rintro e w5d ⟨rfl, hb5d⟩
    have HB5d := hid (HB5c.out.trans (hb5d.mono HB5c.out.size))
    have O5d := hid (O5c.out.below hb5d)
    have R5d := hid (R5c.out.below hb5d)
    clear hb5d
    rw [HMB.out]
    have HB5 := HB5d
    go_wp2_with fail
    refine (drawReadMap_any A n c _ (cb_at HC.out HB5.out) (by omega)).mono ?_
    rintro e w6 ⟨t, rfl, htz, hb6⟩
    have HB6 := hid (HB5.out.trans (hb6.mono HB5.out.size))
    clear hb6
    have htz2 : t.size ≤ 1048576 := by omega
    have HPL := hid (readP_len' t htz2)
    have HFT := hid (readP_fits t htz2)
    go_wp2_with fail
    refine (impl_ReadMap t _ htz2 (HM.out _ HB6.out)).mono ?_
    rintro e w7 ⟨A7, c7, rfl, ho7, hb7⟩
    have HB7 := hid (HB6.out.trans (hb7.mono HB6.out.size))
    have HO7 := hid ho7
    clear ho7 hb7
    go_wp2_with fail
    refine (spec_ReadMap t _ htz2).mono ?_
    rintro e w8 ⟨A8, c8, rfl, ho8, hb8⟩
    have HB8 := hid (HB7.out.trans (hb8.mono HB7.out.size))
    have HO8 := hid (HO7.out.below hb8)
    clear ho8 hb8
    have HML : Hid ((readP t).length ≤ maxLen) := by have := HPL.out; show _ ≤ 2 ^ 63 - 1; omega
    cases hr : readB t
    · go_wp2_with fail
      go_ret
      exact ⟨rfl, HB8.out⟩
    · obtain ⟨hT, hQ⟩ := text_back hr
      have g5 := eqS_true hT
      have HQ := hid hQ
      clear hT hQ
      go_wp2_with fail
      refine (impl_MapText HJ A7 c7 (readP t) _ HO8.out.rp HFT.out HML.out).mono ?_
      rintro e w9 ⟨rfl, hb9⟩
      have HB9 := hid (HB8.out.trans (hb9.mono HB8.out.size))
      have HO9 := hid (HO8.out.below hb9)
      clear hb9
      go_wp2_with fail
      refine (impl_MapOk A7 c7 (readP t) _ HO9.out.rp HFT.out HML.out).mono ?_
      rintro e w10 ⟨rfl, hb10⟩
      have HB10 := hid (HB9.out.trans (hb10.mono HB9.out.size))
      clear hb10
      rw [HQ.out]
      go_wp2_with fail
      go_ret
      exact ⟨rfl, HB10.out⟩
  · obtain ⟨hB, hP⟩ := map_back hmb
    rw [hB, hP] at hrm
    have HMB := hid hmb
    have HRM := hid hrm
    clear hrm hmb hB hP
    go_wp2_with fail
    refine HRM.out.mono ?_
    rintro e w3 ⟨A3, c3, rfl, ho3, hb3⟩
    have HB3 := hid (HB2.out.trans (hb3.mono HB2.out.size))
    have O3 := hid ho3
    have R3 := hid (R2.out.below hb3)
    clear ho3 hb3
    go_wp2_with fail
    refine (drawKeyOk_any A n c _ (cb_at HC.out HB3.out) (by omega)).mono ?_
    rintro e w4 ⟨k, rfl, hkz, hb4⟩
    have HB4 := hid (HB3.out.trans (hb4.mono HB3.out.size))
    have O4 := hid (O3.out.below hb4)
    have R4 := hid (R3.out.below hb4)
    clear hb4
    have hkm : k.size ≤ maxLen := by unfold maxLen; omega
    have HKM := hid hkm
    clear hkm
    have hkk : (keyB k != keyB k) = false := by simp
    go_wp2_with fail
    refine (spec_MapText A1 c1 ps _ _ R4.out.rp HF1.out HN1.out).mono ?_
    rintro e w5a ⟨rfl, hd5⟩
    have HB5a := hid (HB4.out.trans (hd5.below _))
    have O5a := hid (O4.out.below (hd5.below _))
    have R5a := hid (R4.out.below (hd5.below _))
    clear hd5
    go_wp2_with (first
      | (go_at_call 15; refine (impl_KeyOk k _ HKM.out).mono ?_; rintro e w' ⟨rfl, rfl⟩)
      | (go_at_call 16; refine (spec_KeyOk k _ HKM.out).mono ?_; rintro e w' ⟨rfl, rfl⟩))
    refine (impl_MapOk A1 c1 ps _ R5a.out.rp HF1.out HN1.out).mono ?_
    rintro e w5b ⟨rfl, hb5b⟩
    have HB5b := hid (HB5a.out.trans (hb5b.mono HB5a.out.size))
    have O5b := hid (O5a.out.below hb5b)
    have R5b := hid (R5a.out.below hb5b)
    clear hb5b
    go_wp2_with fail
    refine (spec_MapOk A1 c1 ps _ _ R5b.out.rp HF1.out HN1.out).mono ?_
    rintro e w5c ⟨rfl, hd5c⟩
    have HB5c := hid (HB5b.out.trans (hd5c.below _))
    have O5c := hid (O5b.out.below (hd5c.below _))
    have R5c := hid (R5b.out.below (hd5c.below _))
    clear hd5c
    go_wp2_with fail
    refine (impl_MapOk A1 c1 ps _ R5c.out.rp HF1.out HN1.out).mono ?_
    rintro e w5d ⟨rfl, hb5d⟩
    have HB5d := hid (HB5c.out.trans (hb5d.mono HB5c.out.size))
    have O5d := hid (O5c.out.below hb5d)
    have R5d := hid (R5c.out.below hb5d)
    clear hb5d
    rw [HMB.out]
    have hsame : decide (ps = ps) = true := by simp
    go_wp2_with fail
    refine (sameMap_any A3 A1 c3 c1 ps ps _ _ O5d.out.rp R5d.out.rp HN1.out).mono ?_
    rintro e w5 ⟨rfl, hd5e⟩
    have HB5 := hid (HB5d.out.trans (hd5e.below _))
    clear hd5e
    go_wp2_with fail
    refine (drawReadMap_any A n c _ (cb_at HC.out HB5.out) (by omega)).mono ?_
    rintro e w6 ⟨t, rfl, htz, hb6⟩
    have HB6 := hid (HB5.out.trans (hb6.mono HB5.out.size))
    clear hb6
    have htz2 : t.size ≤ 1048576 := by omega
    have HPL := hid (readP_len' t htz2)
    have HFT := hid (readP_fits t htz2)
    go_wp2_with fail
    refine (impl_ReadMap t _ htz2 (HM.out _ HB6.out)).mono ?_
    rintro e w7 ⟨A7, c7, rfl, ho7, hb7⟩
    have HB7 := hid (HB6.out.trans (hb7.mono HB6.out.size))
    have HO7 := hid ho7
    clear ho7 hb7
    go_wp2_with fail
    refine (spec_ReadMap t _ htz2).mono ?_
    rintro e w8 ⟨A8, c8, rfl, ho8, hb8⟩
    have HB8 := hid (HB7.out.trans (hb8.mono HB7.out.size))
    have HO8 := hid (HO7.out.below hb8)
    clear ho8 hb8
    have HML : Hid ((readP t).length ≤ maxLen) := by have := HPL.out; show _ ≤ 2 ^ 63 - 1; omega
    cases hr : readB t
    · go_wp2_with fail
      go_ret
      exact ⟨rfl, HB8.out⟩
    · obtain ⟨hT, hQ⟩ := text_back hr
      have g5 := eqS_true hT
      have HQ := hid hQ
      clear hT hQ
      go_wp2_with fail
      refine (impl_MapText HJ A7 c7 (readP t) _ HO8.out.rp HFT.out HML.out).mono ?_
      rintro e w9 ⟨rfl, hb9⟩
      have HB9 := hid (HB8.out.trans (hb9.mono HB8.out.size))
      have HO9 := hid (HO8.out.below hb9)
      clear hb9
      go_wp2_with fail
      refine (impl_MapOk A7 c7 (readP t) _ HO9.out.rp HFT.out HML.out).mono ?_
      rintro e w10 ⟨rfl, hb10⟩
      have HB10 := hid (HB9.out.trans (hb10.mono HB9.out.size))
      clear hb10
      rw [HQ.out]
      go_wp2_with fail
      go_ret
      exact ⟨rfl, HB10.out⟩

abbrev laid2 : List (String × DataW Unit) := [("unicode/utf8.acceptRanges", Rows.laid_unicode_utf8_acceptRanges), ("unicode/utf8.first", Rows.laid_unicode_utf8_first)]
/-- The wrap, with a condition of the row's own and with the world's shape. -/
theorem handed_and_shaped {H : Type} {enc : TypeId × Value → H} {a : Assume} {C : Checked} {os : Os} {f : FuncId} {fn : Func} {s : ChangeSpec} {conds : List PathCond} {apart fresh handsOn again : Bool} {X : World → Array Value → Prop}
    (hX : ∀ (w w' : World) (args : Array Value), w.heap = w'.heap → X w args → X w' args)
    (own : ownKnob C.prog.godebug = none) (started : os.Started) (noInit : C.prog.inits.idxOf? f = none) (hfn : C.prog.funcs[f]? = some fn)
    (witness : ∃ (w : World) (tape : Tape) (i : Input), w.os = os ∧ (w.forCall tape i).Shaped C.prog ∧ i.vars = [] ∧ Input.okWide C.prog (w.forCall tape i) .any w.heap.size f i ∧
      ((s.pre enc C.prog fn conds apart (w.forCall tape i).memory i.args ∧ X (w.forCall tape i).memory i.args) ∧ sizedMet enc C.prog fn (OpenSpec.ofChange s) apart (w.forCall tape i).memory i.args) ∧ a.holds C.prog (lone (Frame.enter C.prog f i.args .normal) [] (w.forCall tape i)))
    (contract : ∀ (W : World) (base : Nat) (args : Array Value) (ds gs : List (DataW H)) (before : List MemPlace),
      (∀ (j : Nat) t v, fn.params[j]? = some t → args[j]? = some v → Value.okWide C.prog W .any base t v) →
      DataW.Whole enc C.prog fn.params.toList s.vars apart W args.toList ds gs before → X W args → W.ShapedOpen C.prog →
      Calls C.prog f args W fun e W' => ∃ v, e = .returned v ∧ s.post enc C.prog fn apart fresh handsOn again W args v W') :
    ReturnsInHanded a C os f .any (fun w args => (s.pre enc C.prog fn conds apart w args ∧ X w args) ∧ sizedMet enc C.prog fn (OpenSpec.ofChange s) apart w args) (s.post enc C.prog fn apart fresh handsOn again) := by
  refine returnsInHanded_of_calls own started noInit witness ?_
  intro w tape i _ hsh _ hok hpre hholds
  obtain ⟨_, _, _, fn', hfn', _, _, _, _, hval⟩ := hok
  obtain rfl : fn' = fn := Option.some.inj (hfn'.symm.trans hfn)
  obtain ⟨⟨⟨ds, gs, before, hw, hc⟩, hx⟩, hz⟩ := hpre
  refine (contract (w.forCall tape i) w.heap.size i.args ds gs before hval (DataW.Whole.of_heap (w' := w.forCall tape i) (by rfl) hw) (hX _ _ _ (by rfl) hx) hsh).mono fun e W' ⟨v, he, hp⟩ => ?_
  subst he
  exact ChangeSpec.post_blind hp

set_option maxRecDepth 100000 in
theorem maps_lifted (os : Os) (started : os.Started) (H : Type) (enc : TypeId × Value → H) :
    ReturnsInHanded {} Tryd.checked os 4 .any (fun w args => (Rows.fnMapsSpec.pre enc Tryd.prog Tryd.f4 [] false w args ∧ laidMetH Tryd.prog laid2 w) ∧ sizedMet enc Tryd.prog Tryd.f4 (OpenSpec.ofChange Rows.fnMapsSpec) false w args)
      (Rows.fnMapsSpec.post enc Tryd.prog Tryd.f4 false true false false) := by
  refine handed_and_shaped (C := Tryd.checked) (X := fun w _ => laidMetH Tryd.prog laid2 w) (fun _ _ _ hh h => h.of_heap hh) own started (by kernel_rfl) Tryd.func4
    (ChangeSpec.witness_shaped (enc := enc) (C := Tryd.checked) (os := os) (X := fun w _ => laidMetH Tryd.prog laid2 w) false (World.laidAll Tryd.prog os laid2) #[.slice none 0 0] 8 (World.laidAll_os _ _ _)
      (World.shaped_of_ZipB (by kernel_rfl) (by kernel_rfl)) (by kernel_rfl) (by kernel_rfl) (by kernel_rfl)
      (by rw [MakeChecks.laidMetH_plain _ _ _ (by kernel_rfl)]; exact laidMet_laidAll _ (by kernel_rfl) (by kernel_rfl))) ?_
  intro W base args ds gs before hval0 hW _ hS
  have hval : ∀ (j : Nat) t v, Tryd.f4.params[j]? = some t → args[j]? = some v → Value.okWide Tryd.prog W .any base t v := hval0
  have hW' := hW
  obtain ⟨p, q, hA0, hV, rfl, hfz, hnd⟩ := hW
  have hA : DataW.TrodAll enc Tryd.prog W 0 (fun _ => true) true Tryd.f4.params.toList args.toList ds p := hA0
  rw [Tryd.params4] at hA hval
  obtain ⟨v0, vs0, d0, ds0, p0, q0, hargs, rfl, rfl, h0, r0⟩ := trodAll_cons hA
  obtain ⟨rfl, rfl, rfl⟩ := trodAll_nil r0
  obtain rfl : args = #[v0] := by cases args; simp_all
  clear hargs
  obtain ⟨A0, n0, c0, rfl, cb0, nn0⟩ := open_code (hval 0 22 v0 rfl rfl) h0
  refine (fnMaps_walk join_said A0 n0 c0 W cb0 nn0 (maxC_of_shape hS)).mono fun e W' ⟨he, hw⟩ => ?_
  subst he
  exact ⟨_, rfl, law_post (tb := 4) laidOut (by kernel_rfl) rfl hW' Tryd.underlying4 (by kernel_rfl) (fun gs' e => by subst e; rfl) hw⟩

theorem maps_holds : Rows.FnMapsSaid :=
  OpenClaim.holds_of_wide 4 Tryd.f4 rfl rfl rfl rfl rfl rfl rfl ⟨rfl, rfl, rfl, rfl, rfl⟩ rfl rfl rfl rfl rfl (by kernel_rfl) Tryd.func4 (by kernel_rfl)
    (of_decide_eq_true (by kernel_rfl)) (by unfold Func.isWrapper; rw [if_neg (of_decide_eq_false (by kernel_rfl))]; exact ⟨rfl, rfl⟩)
    (fun os started H enc _ => maps_lifted os started H enc)

theorem maps_card : Rows.FnMapsCardSaid :=
  Claim7.holds_tied_plain_at .later [] [.data, .pinned] true Rows.fnMapsCard.stood.harness false
    maps_holds (fun _ h => by cases h) (by kernel_rfl) (fun _ h => by cases h) fnMaps_row_tie rfl ⟨rfl, rfl⟩ (by kernel_rfl) rfl
    (fun f fn hf hfn => by
      obtain rfl : f = 4 := Option.some.inj ((show Tryd.prog.funcNamed "loop.example/g00573/laws.FnMaps" = some 4 by kernel_rfl).symm.trans hf) |>.symm
      obtain rfl : fn = Tryd.f4 := (Option.some.inj (Tryd.func4.symm.trans hfn)).symm
      exact ⟨by kernel_rfl, fun j t ht => by
        rw [Tryd.params4] at ht
        have hm : t ∈ [22] := by simpa using Array.mem_of_getElem? ht
        have hall : ([22].all fun u => !Tryd.prog.wantsStandIn u) = true := by kernel_rfl
        exact (show Tryd.prog.wantsStandIn t = false by simpa using List.all_eq_true.1 hall t hm)⟩)
    (by kernel_rfl)
end Go.Proofs.YtkegdhgcebbmgabDoor
