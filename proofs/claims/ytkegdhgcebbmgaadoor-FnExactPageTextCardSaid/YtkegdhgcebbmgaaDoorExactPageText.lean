/-
  FnExactPageText answers true at every page, and its argument reads as it did; the listed tables of the library lie as the program's text lays them. No other condition.
-/
import Derived.Test.YtkegdhgcebbmgaaDoorPageTI
import Derived.Test.YtkegdhgcebbmgaaDoorLaidTab
import Derived.Test.YtkegdhgcebbmgaaDoorCards
import Derived.Test.YtkegdhgcebbmgaaDoorOpenPage
import Derived.Test.YtkegdhgcebbmgaaDoorPageKit
import Derived.ChangeSame
import Derived.Deep.Strs
namespace Go.Proofs.YtkegdhgcebbmgaaDoor
open Go.ChangeShapes Go.WideShapes Go.ChangeAt Go.RowKit Go.Deep

set_option maxHeartbeats 4000000 in
set_option maxRecDepth 100000 in
theorem exactPageText_walk (id : Int) (A : Option Addr) (c : Nat) (ps : PS) (K : Option Addr) (d : Nat) (ks : List Int) (w : World) (hr : RP w w.heap.size A ps) (hf : Fits ps) (hn : ps.length ≤ maxLen) (hk : RI w w.heap.size K ks) (hm : ks.length ≤ maxLen) (ht : Tab w) :
    Calls Tryd.prog 4 #[.agg #[.int .i64 id, .slice A ps.length c, .slice K ks.length d]] w fun e w' => e = .returned (.bool true) ∧ Below w.heap.size w w' := by
  have hb0 : Below w.heap.size w (w.alloc (.cells #[.int .i64 id, .slice A ps.length c, .slice K ks.length d] 31)) := (Below.refl _ _).alloc (Nat.le_refl _) _
  have hx0 := Row3.lit w 31 (.int .i64 id) (.slice A ps.length c) (.slice K ks.length d)
  have HB0 := hid hb0
  have HX := hid hx0
  have HR := hid ((hr.below hb0).more hb0.size)
  have HK := hid ((hk.below hb0).more hb0.size)
  have HF := hid hf
  have HN := hid hn
  have HM := hid hm
  have HT : Hid (∀ W : World, Below w.heap.size w W → Tab W) := fun W h => ht.below h
  clear hr hf hn hk hm hb0 hx0 ht
  go_enter Tryd.func4, Tryd.ntmps4
  go_wp2_with fail
  generalize hg : w.alloc (.cells #[.int .i64 id, .slice A ps.length c, .slice K ks.length d] 31) = w0 at *
  refine (szPage_any id A c ps K d ks 1048576 _ HR.out HF.out HN.out HM.out (by omega) (by omega)).mono ?_
  rintro e w1 ⟨r, rfl, hr3, hb1⟩
  have X1 := hid (HX.out.below hb1)
  have HB1 := hid hb1
  have HZ := hid hr3
  clear hr3 hb1
  have x0 := X1.out.c0
  have x1 := X1.out.c1
  have x2 := X1.out.c2
  by_cases hneg : r < 0
  · go_wp2_with fail
    go_ret
    exact ⟨rfl, HB0.out.trans (HB1.out.mono HB0.out.size)⟩
  have hz := HZ.out (by omega)
  have hps : ps.length ≤ 1048576 := by omega
  have hks : ks.length ≤ 1048576 := by omega
  go_wp2_with fail
  refine (toPage_any id A c ps K d ks _ ((HR.out.below HB1.out).more HB1.out.size) hps ((HK.out.below HB1.out).more HB1.out.size) hks).mono ?_
  rintro e w2 ⟨A2, c2, K2, d2, rfl, hp2, hi2, hd2, hm2, hb2⟩
  have X2 := hid (X1.out.below hb2)
  have HB2 := hid (HB1.out.trans (hb2.mono HB1.out.size))
  have HP2 := hid hp2
  have HI2 := hid hi2
  clear hp2 hi2 hb2 x0 x1 x2
  go_wp2_with fail
  refine (spec_PageText id A2 c2 ps K2 d2 ks _ HP2.out.rp HF.out HN.out HI2.out.ri hd2 hm2).mono ?_
  rintro e w3 ⟨rfl, hb3⟩
  have X3 := hid (X2.out.below hb3)
  have HB3 := hid (HB2.out.trans (hb3.mono HB2.out.size))
  clear hb3
  have x0 := X3.out.c0
  have x1 := X3.out.c1
  have x2 := X3.out.c2
  go_wp2_with fail
  refine (toPage_any id A c ps K d ks _ ((HR.out.below HB3.out).more HB3.out.size) hps ((HK.out.below HB3.out).more HB3.out.size) hks).mono ?_
  rintro e w4 ⟨A4, c4, K4, d4, rfl, hp4, hi4, hd4, hm4, hb4⟩
  have hb5 : Below w4.heap.size w4 (w4.alloc (.cells #[.int .i64 id, .slice A4 ps.length c4, .slice K4 ks.length d4] 35)) := (Below.refl _ _).alloc (Nat.le_refl _) _
  have hy5 := Row3.lit w4 35 (.int .i64 id) (.slice A4 ps.length c4) (.slice K4 ks.length d4)
  have HB4 := hid (HB3.out.trans (hb4.mono HB3.out.size))
  have HB5 := hid (HB4.out.trans (hb5.mono HB4.out.size))
  have X5 := hid ((X3.out.below hb4).below hb5)
  have Y5 := hid hy5
  have HP5 := hid (hp4.below hb5)
  have HI5 := hid (hi4.below hb5)
  clear hp4 hi4 hb4 hb5 hy5 x0 x1 x2
  have hss : ((pageT id ps ks).toList == (pageT id ps ks).toList) = true := by simp
  go_wp2_with fail
  generalize hg5 : w4.alloc (.cells #[.int .i64 id, .slice A4 ps.length c4, .slice K4 ks.length d4] 35) = w5 at *
  refine (impl_PageText id A4 c4 ps K4 d4 ks _ HP5.out.rp HF.out HN.out HI5.out.ri hd4 hm4 (HT.out _ (HB0.out.trans (HB5.out.mono HB0.out.size)))).mono ?_
  rintro e w6 ⟨rfl, hb6⟩
  have X6 := hid (X5.out.below hb6)
  have Y6 := hid (Y5.out.below hb6)
  have HP6 := hid (HP5.out.below hb6)
  have HI6 := hid (HI5.out.below hb6)
  have HB6 := hid (HB5.out.trans (hb6.mono HB5.out.size))
  have HR6 := hid ((HR.out.below HB6.out).more HB6.out.size)
  have HK6 := hid ((HK.out.below HB6.out).more HB6.out.size)
  clear hb6
  have x0 := X6.out.c0
  have x1 := X6.out.c1
  have x2 := X6.out.c2
  have y0 := Y6.out.c0
  have y1 := Y6.out.c1
  have y2 := Y6.out.c2
  go_wp2_with fail
  go_region_held3 (fun w' => w'.cell? ⟨w.heap.size, 0, none⟩ = some (.int .i64 id) ∧ w'.cell? ⟨w.heap.size, 1, none⟩ = some (.slice A ps.length c) ∧ w'.cell? ⟨w.heap.size, 2, none⟩ = some (.slice K ks.length d) ∧
      w'.cell? ⟨w4.heap.size, 0, none⟩ = some (.int .i64 id) ∧ w'.cell? ⟨w4.heap.size, 1, none⟩ = some (.slice A4 ps.length c4) ∧ w'.cell? ⟨w4.heap.size, 2, none⟩ = some (.slice K4 ks.length d4)) (go_keep)
    (first
      | (go_at_call 13; refine (toPage_any id A c ps K d ks _ ((HR.out.below HB6.out.drew).more HB6.out.drew.size) hps ((HK.out.below HB6.out.drew).more HB6.out.drew.size) hks).mono ?_; rintro e w7 ⟨A7, c7, K7, d7, rfl, hp7, hi7, hd7, hm7, hb7⟩; have X7 := hid ((X6.out.below (Below.refl _ _).drew).below hb7); have Y7 := hid ((Y6.out.below (Below.refl _ _).drew).below hb7); have HP7 := hid hp7; have HI7 := hid hi7; have HQ7 := hid ((HP6.out.below (Below.refl _ _).drew).below hb7); have HJ7 := hid ((HI6.out.below (Below.refl _ _).drew).below hb7); have HB7 := hid (HB6.out.drew.trans (hb7.mono HB6.out.drew.size)); clear hp7 hi7 hb7; have x70 := X7.out.c0; have x71 := X7.out.c1; have x72 := X7.out.c2; have y70 := Y7.out.c0; have y71 := Y7.out.c1; have y72 := Y7.out.c2)
      | (go_at_call 15; refine (eqPage_any id A4 c4 ps K4 d4 ks A7 c7 K7 d7 _ HQ7.out.rp HN.out HJ7.out.ri HM.out HP7.out.rp HI7.out.ri).mono ?_; rintro e w8 ⟨rfl, hb8⟩; have X8 := hid (X7.out.below hb8); have Y8 := hid (Y7.out.below hb8); have HB8 := hid (HB7.out.trans (hb8.mono HB7.out.size)); clear hb8; have x80 := X8.out.c0; have x81 := X8.out.c1; have x82 := X8.out.c2; have y80 := Y8.out.c0; have y81 := Y8.out.c1; have y82 := Y8.out.c2)
      | (go_at_call 15; refine (eqPage_any id A4 c4 ps K4 d4 ks A7 c7 K7 d7 _ (HQ7.out.below (Below.refl _ _).drew).rp HN.out (HJ7.out.below (Below.refl _ _).drew).ri HM.out (HP7.out.below (Below.refl _ _).drew).rp (HI7.out.below (Below.refl _ _).drew).ri).mono ?_; rintro e w8 ⟨rfl, hb8⟩; have X8 := hid ((X7.out.below (Below.refl _ _).drew).below hb8); have Y8 := hid ((Y7.out.below (Below.refl _ _).drew).below hb8); have HB8 := hid (HB7.out.drew.trans (hb8.mono HB7.out.drew.size)); clear hb8; have x80 := X8.out.c0; have x81 := X8.out.c1; have x82 := X8.out.c2; have y80 := Y8.out.c0; have y81 := Y8.out.c1; have y82 := Y8.out.c2))
  go_wp2_with fail
  go_ret
  exact ⟨rfl, HB0.out.trans (HB8.out.mono HB0.out.size)⟩

set_option maxRecDepth 100000 in
theorem exactPageText_lifted (os : Os) (started : os.Started) (H : Type) (enc : TypeId × Value → H) :
    ReturnsInHanded {} Tryd.checked os 4 .any (fun w args => (Rows.fnExactPageTextSpec.pre enc Tryd.prog Tryd.f4 [] false w args ∧ laidMetH Tryd.prog laid3 w) ∧ sizedMet enc Tryd.prog Tryd.f4 (OpenSpec.ofChange Rows.fnExactPageTextSpec) false w args)
      (Rows.fnExactPageTextSpec.post enc Tryd.prog Tryd.f4 false true false false) := by
  refine returnsInHanded_of_change_and (C := Tryd.checked) (X := fun w _ => laidMetH Tryd.prog laid3 w) (fun _ _ _ hh h => h.of_heap hh) own started (by kernel_rfl) Tryd.func4
    (ChangeSpec.witness_shaped (enc := enc) (C := Tryd.checked) (os := os) (X := fun w _ => laidMetH Tryd.prog laid3 w) false (World.doorLaid Tryd.prog 400 os) #[.agg #[.int .i64 0, .slice none 0 0, .slice none 0 0]] 8 rfl (World.shaped_of_RefB (by kernel_rfl) (by kernel_rfl)) (by kernel_rfl) (by kernel_rfl) (by kernel_rfl) (door_met3 os _)) ?_
  intro W base args ds gs before hval0 hW _ _ hL _
  have hval : ∀ (j : Nat) t v, Tryd.f4.params[j]? = some t → args[j]? = some v → Value.okWide Tryd.prog W .any base t v := hval0
  have hW' := hW
  obtain ⟨p, q, hA0, hV, rfl, hfz, hnd⟩ := hW
  have hA : DataW.TrodAll enc Tryd.prog W 0 (fun _ => true) true Tryd.f4.params.toList args.toList ds p := hA0
  rw [Tryd.params4] at hA hval
  obtain ⟨v0, vs0, d0, ds0, p0, q0, hargs, rfl, rfl, h0, r0⟩ := trodAll_cons hA
  obtain ⟨rfl, rfl, rfl⟩ := trodAll_nil r0
  obtain rfl : args = #[v0] := by cases args; simp_all
  clear hargs
  obtain ⟨id0, A0, c0, ps, K0, e0, ks, rfl, rr0, f0, n0, ri0, m0⟩ := open_page (hval 0 31 v0 rfl rfl) h0
  refine (exactPageText_walk id0 A0 c0 ps K0 e0 ks W rr0 f0 n0 ri0 m0 (tab_of_laid hL)).mono fun e W' ⟨he, hw⟩ => ?_
  subst he
  exact ⟨_, rfl, law_post (tb := 4) laidOut (by kernel_rfl) rfl hW' Tryd.underlying4 (by kernel_rfl) (fun gs' e => by subst e; rfl) hw⟩

theorem exactPageText_holds : Rows.FnExactPageTextSaid :=
  OpenClaim.holds_of_wide 4 Tryd.f4 rfl rfl rfl rfl rfl rfl rfl ⟨rfl, rfl, rfl, rfl, rfl⟩ rfl rfl rfl rfl rfl (by kernel_rfl) Tryd.func4 (by kernel_rfl)
    (of_decide_eq_true (by kernel_rfl)) (by unfold Func.isWrapper; rw [if_neg (of_decide_eq_false (by kernel_rfl))]; exact ⟨rfl, rfl⟩)
    (fun os started H enc _ => exactPageText_lifted os started H enc)

theorem exactPageText_card : Rows.FnExactPageTextCardSaid :=
  Claim7.holds_tied_plain_at .later [] [.data, .data, .data] true Rows.fnExactPageTextCard.stood.harness false
    exactPageText_holds (fun _ h => by cases h) (by kernel_rfl) (fun _ h => by cases h) fnExactPageText_row_tie rfl ⟨rfl, rfl⟩ (by kernel_rfl) rfl
    (fun f fn hf hfn => by
      obtain rfl : f = 4 := Option.some.inj ((show Tryd.prog.funcNamed "loop.example/g00573/laws.FnExactPageText" = some 4 by kernel_rfl).symm.trans hf) |>.symm
      obtain rfl : fn = Tryd.f4 := (Option.some.inj (Tryd.func4.symm.trans hfn)).symm
      exact ⟨by kernel_rfl, fun j t ht => by
        rw [Tryd.params4] at ht
        have hm : t ∈ [31] := by simpa using Array.mem_of_getElem? ht
        have hall : ([31].all fun u => !Tryd.prog.wantsStandIn u) = true := by kernel_rfl
        exact (show Tryd.prog.wantsStandIn t = false by simpa using List.all_eq_true.1 hall t hm)⟩)
    (by kernel_rfl)
end Go.Proofs.YtkegdhgcebbmgaaDoor
