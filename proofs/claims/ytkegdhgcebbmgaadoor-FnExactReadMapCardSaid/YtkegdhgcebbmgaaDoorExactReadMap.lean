/-
  FnExactReadMap answers true at every text, and its argument reads as it did; the listed tables of the library lie as the program's text lays them. No other condition.
-/
import Derived.Test.YtkegdhgcebbmgaaDoorReadI
import Derived.Test.YtkegdhgcebbmgaaDoorMadeKit
import Derived.Test.YtkegdhgcebbmgaaDoorPost
import Derived.Test.YtkegdhgcebbmgaaDoorTie
import Derived.Test.YtkegdhgcebbmgaaDoorCards
import Derived.LaidMore
import Derived.Lay
import Derived.SevenTiedAt
import Derived.Stop.Joined
import Derived.Stop.LaidErr
import Derived.MakeChecks
import Derived.ChangeSame
import Derived.Deep.Strs
import Derived.ChangeMaps
namespace Go.Proofs.YtkegdhgcebbmgaaDoor
open Go.ChangeShapes Go.WideShapes Go.ChangeAt Go.RowKit Go.Deep

theorem readP_len (s : ByteArray) (h : s.size ≤ 1048576) : (readP s).length ≤ 1048577 := by
  have := words_count s
  unfold readP
  split
  · simp
  · split
    · rw [pairsW_len]
      omega
    · simp

set_option maxHeartbeats 4000000 in
set_option maxRecDepth 100000 in
theorem exactReadMap_walk (s : ByteArray) (w : World) (s_s : s.size ≤ maxLen) (hm : MaxC w) :
    Calls Tryd.prog 3 #[.string s] w fun e w' => e = .returned (.bool true) ∧ Below w.heap.size w w' := by
  have HM : Hid (∀ W : World, Below w.heap.size w W → MaxC W) := fun W h => hm.below h
  clear hm
  unfold maxLen at s_s
  go_enter Tryd.func3, Tryd.ntmps3
  by_cases big_s : 1048576 < s.size
  · go_wp2_with fail
    go_ret
    exact ⟨rfl, Below.refl _ _⟩
  have hs : s.size ≤ 1048576 := by omega
  have HL := hid (readP_len s hs)
  go_wp2_with fail
  refine (spec_ReadMap s _ hs).mono ?_
  rintro e w3 ⟨A3, c3, rfl, ho3, hb3⟩
  have R3 := hid ho3.rp
  clear ho3
  go_wp2_with fail
  refine (impl_ReadMap s _ hs (HM.out _ hb3)).mono ?_
  rintro e w5 ⟨A5, c5, rfl, ho5, hw5⟩
  have hb5 := hb3.trans (hw5.mono hb3.size)
  have HO5 := hid ho5
  have R5 := hid (R3.out.below hw5)
  clear ho5
  have ht : decide (readP s = readP s) = true := by simp
  have hbb : (readB s != readB s) = false := by simp
  have hml : (readP s).length ≤ maxLen := by have := HL.out; unfold maxLen; omega
  have HML := hid hml
  clear hml
  go_wp2_with fail
  refine (eqPairS_any A5 A3 c5 c3 (readP s) (readP s) _ HO5.out.rp (R5.out.more hw5.size) HML.out).mono ?_
  rintro e w10 ⟨rfl, hw10⟩
  have hb10 := hb5.trans (hw10.mono hb5.size)
  have G10 := hid (HO5.out.below hw10)
  have R10 := hid (R5.out.below (hw10.mono hw5.size))
  have S11 := hw5.size
  have S12 := hw10.size
  go_wp2_with fail
  refine (markPairS_any _ A5 c5 (readP s) 1 _ G10.out (Nat.le_trans HL.out (by omega)) (by omega)).mono ?_
  rintro e w11 ⟨rfl, ho11, hg11⟩
  have R11 := hid (R10.out.grown_hi hg11 (by omega) (fun k hk => (HO5.out.size k hk).1))
  have hb11 := hb10.grown hg11 hb10.size (fun k hk => Nat.le_trans hb3.size (HO5.out.size k hk).1)
  have S13 := hg11.size
  have M11 : Hid (OwnP w11 w3.heap.size A5 c5 (marksL (readP s).length 1)) := by
    unfold Hid OwnP
    rw [marksL_len]
    exact ho11
  clear ho11
  go_wp2_with fail
  refine (heldPairS_any A5 c5 (readP s).length 1 _ M11.out.rp (Nat.le_trans HL.out (by omega)) (by omega)).mono ?_
  rintro e w12 ⟨rfl, hw12⟩
  have hb12 := hb11.trans (hw12.mono hb11.size)
  have M12 := hid (M11.out.below hw12)
  have R12 := hid (R11.out.below (hw12.mono (by omega)))
  have S14 := hw12.size
  go_wp2_with fail
  refine (impl_ReadMap s _ hs (HM.out _ hb12)).mono ?_
  rintro e w14 ⟨A14, c14, rfl, ho14, hw14⟩
  have hb14 := hb12.trans (hw14.mono hb12.size)
  have HO14 := hid ho14
  clear ho14
  have M14 := hid (M12.out.below hw14)
  have R14 := hid (R12.out.below (hw14.mono (by omega)))
  have S16 := hw14.size
  go_wp2_with fail
  refine (eqPairS_any A14 A3 c14 c3 (readP s) (readP s) _ HO14.out.rp (R14.out.more (by omega)) HML.out).mono ?_
  rintro e w15 ⟨rfl, hw15⟩
  have hb15 := hb14.trans (hw15.mono hb14.size)
  have M15 := hid (M14.out.below hw15)
  go_wp2_with fail
  refine (heldPairS_any A5 c5 (readP s).length 1 _ M15.out.rp (Nat.le_trans HL.out (by omega)) (by omega)).mono ?_
  rintro e w16 ⟨rfl, hw16⟩
  have hb16 := hb15.trans (hw16.mono hb15.size)
  go_wp2_with fail
  go_ret
  exact ⟨rfl, hb16⟩

abbrev laid2 : List (String × DataW Unit) := [("unicode/utf8.acceptRanges", Rows.laid_unicode_utf8_acceptRanges), ("unicode/utf8.first", Rows.laid_unicode_utf8_first)]
/-- The wrap, with a condition of the row's own and with the world's shape. -/
theorem handed_and_shaped {H : Type} {enc : TypeId × Value → H} {a : Assume} {C : Checked} {os : Os} {f : FuncId} {fn : Func} {s : ChangeSpec} {conds : List PathCond} {apart fresh handsOn again : Bool} {X : World → Array Value → Prop}
    (hX : ∀ (w w' : World) (args : Array Value), w.heap = w'.heap → X w args → X w' args)
    (own : ownKnob C.prog.godebug = none) (started : os.Started) (noInit : C.prog.inits.idxOf? f = none) (hfn : C.prog.funcs[f]? = some fn)
    (witness : ∃ (w : World) (tape : Tape) (i : Input), w.os = os ∧ (w.forCall tape i).Shaped C.prog ∧ i.vars = [] ∧ Input.okWide C.prog (w.forCall tape i) .any w.heap.size f i ∧
      ((s.pre enc C.prog fn conds apart (w.forCall tape i).memory i.args ∧ X (w.forCall tape i).memory i.args) ∧ sizedMet enc C.prog fn (OpenSpec.ofChange s) apart (w.forCall tape i).memory i.args) ∧ a.holds C.prog (lone (Frame.enter C.prog f i.args .normal) [] (w.forCall tape i)))
    (contract : ∀ (W : World) (base : Nat) (args : Array Value) (ds gs : List (DataW H)) (before : List MemPlace),
      (∀ (j : Nat) t v, fn.params[j]? = some t → args[j]? = some v → Value.okWide C.prog W .any base t v) →
      DataW.Whole enc C.prog fn.params.toList s.vars apart W args.toList ds gs before → X W args → W.ShapedOpen C.prog →
      Calls C.prog f args W fun e W' => ∃ v, e = .returned v ∧ s.post enc C.prog fn apart fresh handsOn again W args v W') :
    ReturnsInHanded a C os f .any (fun w args => (s.pre enc C.prog fn conds apart w args ∧ X w args) ∧ sizedMet enc C.prog fn (OpenSpec.ofChange s) apart w args) (s.post enc C.prog fn apart fresh handsOn again) := by
  refine returnsInHanded_of_calls own started noInit witness ?_
  intro w tape i _ hsh _ hok hpre hholds
  obtain ⟨_, _, _, fn', hfn', _, _, _, _, hval⟩ := hok
  obtain rfl : fn' = fn := Option.some.inj (hfn'.symm.trans hfn)
  obtain ⟨⟨⟨ds, gs, before, hw, hc⟩, hx⟩, hz⟩ := hpre
  refine (contract (w.forCall tape i) w.heap.size i.args ds gs before hval (DataW.Whole.of_heap (w' := w.forCall tape i) (by rfl) hw) (hX _ _ _ (by rfl) hx) hsh).mono fun e W' ⟨v, he, hp⟩ => ?_
  subst he
  exact ChangeSpec.post_blind hp

set_option maxRecDepth 100000 in
theorem exactReadMap_lifted (os : Os) (started : os.Started) (H : Type) (enc : TypeId × Value → H) :
    ReturnsInHanded {} Tryd.checked os 3 .any (fun w args => (Rows.fnExactReadMapSpec.pre enc Tryd.prog Tryd.f3 [] false w args ∧ laidMetH Tryd.prog laid2 w) ∧ sizedMet enc Tryd.prog Tryd.f3 (OpenSpec.ofChange Rows.fnExactReadMapSpec) false w args)
      (Rows.fnExactReadMapSpec.post enc Tryd.prog Tryd.f3 false true false false) := by
  refine handed_and_shaped (C := Tryd.checked) (X := fun w _ => laidMetH Tryd.prog laid2 w) (fun _ _ _ hh h => h.of_heap hh) own started (by kernel_rfl) Tryd.func3
    (ChangeSpec.witness_shaped (enc := enc) (C := Tryd.checked) (os := os) (X := fun w _ => laidMetH Tryd.prog laid2 w) false (World.laidAll Tryd.prog os laid2) #[.string ⟨#[]⟩] 8 (World.laidAll_os _ _ _)
      (World.shaped_of_ZipB (by kernel_rfl) (by kernel_rfl)) (by kernel_rfl) (by kernel_rfl) (by kernel_rfl)
      (by rw [MakeChecks.laidMetH_plain _ _ _ (by kernel_rfl)]; exact laidMet_laidAll _ (by kernel_rfl) (by kernel_rfl))) ?_
  intro W base args ds gs before hval0 hW _ hS
  have hval : ∀ (j : Nat) t v, Tryd.f3.params[j]? = some t → args[j]? = some v → Value.okWide Tryd.prog W .any base t v := hval0
  have hW' := hW
  obtain ⟨p, q, hA0, hV, rfl, hfz, hnd⟩ := hW
  have hA : DataW.TrodAll enc Tryd.prog W 0 (fun _ => true) true Tryd.f3.params.toList args.toList ds p := hA0
  rw [Tryd.params3] at hA hval
  obtain ⟨v0, vs0, d0, ds0, p0, q0, hargs, rfl, rfl, h0, r0⟩ := trodAll_cons hA
  obtain ⟨rfl, rfl, rfl⟩ := trodAll_nil r0
  obtain rfl : args = #[v0] := by cases args; simp_all
  clear hargs
  obtain ⟨s, rfl, rfl, rfl, w0⟩ := Go.ChangeMaps.open_string Tryd.underlying9 (hval 0 9 v0 rfl rfl) h0
  refine (exactReadMap_walk s W w0 (maxC_of_shape hS)).mono fun e W' ⟨he, hw⟩ => ?_
  subst he
  exact ⟨_, rfl, law_post (tb := 4) laidOut (by kernel_rfl) rfl hW' Tryd.underlying4 (by kernel_rfl) (fun gs' e => by subst e; rfl) hw⟩

theorem exactReadMap_holds : Rows.FnExactReadMapSaid :=
  OpenClaim.holds_of_wide 3 Tryd.f3 rfl rfl rfl rfl rfl rfl rfl ⟨rfl, rfl, rfl, rfl, rfl⟩ rfl rfl rfl rfl rfl (by kernel_rfl) Tryd.func3 (by kernel_rfl)
    (of_decide_eq_true (by kernel_rfl)) (by unfold Func.isWrapper; rw [if_neg (of_decide_eq_false (by kernel_rfl))]; exact ⟨rfl, rfl⟩)
    (fun os started H enc _ => exactReadMap_lifted os started H enc)

theorem exactReadMap_card : Rows.FnExactReadMapCardSaid :=
  Claim7.holds_tied_plain_at .later [] [.data, .pinned] true Rows.fnExactReadMapCard.stood.harness false
    exactReadMap_holds (fun _ h => by cases h) (by kernel_rfl) (fun _ h => by cases h) fnExactReadMap_row_tie rfl ⟨rfl, rfl⟩ (by kernel_rfl) rfl
    (fun f fn hf hfn => by
      obtain rfl : f = 3 := Option.some.inj ((show Tryd.prog.funcNamed "loop.example/g00573/laws.FnExactReadMap" = some 3 by kernel_rfl).symm.trans hf) |>.symm
      obtain rfl : fn = Tryd.f3 := (Option.some.inj (Tryd.func3.symm.trans hfn)).symm
      exact ⟨by kernel_rfl, fun j t ht => by
        rw [Tryd.params3] at ht
        have hm : t ∈ [9] := by simpa using Array.mem_of_getElem? ht
        have hall : ([9].all fun u => !Tryd.prog.wantsStandIn u) = true := by kernel_rfl
        exact (show Tryd.prog.wantsStandIn t = false by simpa using List.all_eq_true.1 hall t hm)⟩)
    (by kernel_rfl)
end Go.Proofs.YtkegdhgcebbmgaaDoor
