/-
  FnExactSuperText answers true at every argument, and its argument reads as it did; the listed tables of the library lie as the program's text lays them. No other condition.
-/
import Derived.Test.YtkegdhgcebbmgaaDoorSuperI
import Derived.Test.YtkegdhgcebbmgaaDoorLaidTab
import Derived.Test.YtkegdhgcebbmgaaDoorCards
import Derived.Test.YtkegdhgcebbmgaaDoorRow3
import Derived.ChangeSame
import Derived.Deep.Strs
namespace Go.Proofs.YtkegdhgcebbmgaaDoor
open Go.ChangeShapes Go.WideShapes Go.ChangeAt Go.RowKit Go.Deep

set_option maxHeartbeats 1000000 in
set_option maxRecDepth 100000 in
theorem toSuper_any (g r x : Int) (w : World) :
    Calls Tryd.prog 17 #[.agg #[.int .i64 g, .int .i64 r, .int .i64 x]] w fun e w' => e = .returned (.agg #[.int .i64 g, .int .i64 r, .int .i64 x]) ∧ Below w.heap.size w w' := by
  go_enter Tryd.func17, Tryd.ntmps17
  go_wp2
  exact bodyPost_ret (v := .agg #[.int .i64 g, .int .i64 r, .int .i64 x]) (by simp [results, Tryd.results17, go_sem]) rfl ⟨rfl, below3 (Below.refl _ _) (Nat.le_refl _)⟩

set_option maxHeartbeats 1000000 in
set_option maxRecDepth 100000 in
theorem exactSuperText_walk (g r x : Int) (w : World) (hx : -9223372036854775808 ≤ x) (hx2 : x ≤ 9223372036854775807) (ht : Tab w) :
    Calls Tryd.prog 5 #[.agg #[.int .i64 g, .int .i64 r, .int .i64 x]] w fun e w' => e = .returned (.bool true) ∧ Below w.heap.size w w' := by
  have hb0 : Below w.heap.size w (w.alloc (.cells #[.int .i64 g, .int .i64 r, .int .i64 x] 40)) := (Below.refl _ _).alloc (Nat.le_refl _) _
  have hr0 := Row3.lit w 40 (.int .i64 g) (.int .i64 r) (.int .i64 x)
  have HB0 := hid hb0
  have HR := hid hr0
  have HT : Hid (∀ W : World, Below w.heap.size w W → Tab W) := fun W h => ht.below h
  have HXX : Hid (-9223372036854775808 ≤ x ∧ x ≤ 9223372036854775807) := ⟨hx, hx2⟩
  clear hb0 hr0 ht hx hx2
  go_enter Tryd.func5, Tryd.ntmps5
  go_wp2_with fail
  refine (toSuper_any g r x _).mono ?_
  rintro e w1 ⟨rfl, hb1⟩
  have HB1 := hid (HB0.out.trans (hb1.mono HB0.out.size))
  have HR1 := hid (HR.out.below hb1)
  clear hb1
  go_wp2_with fail
  refine (spec_SuperText g r x _ HXX.out.1 HXX.out.2).mono ?_
  rintro e w2 ⟨rfl, hb2⟩
  have HB2 := hid (HB1.out.trans (hb2.mono HB1.out.size))
  have HR2 := hid (HR1.out.below hb2)
  clear hb2
  have x0 := HR2.out.c0
  have x1 := HR2.out.c1
  have x2 := HR2.out.c2
  go_wp2_with fail
  refine (toSuper_any g r x _).mono ?_
  rintro e w3 ⟨rfl, hb3⟩
  have HB3 := hid (HB2.out.trans (hb3.mono HB2.out.size))
  clear hb3 x0 x1 x2
  go_wp2_with fail
  refine (impl_SuperText g r x _ (HT.out _ HB3.out)).mono ?_
  rintro e w4 ⟨rfl, hb4⟩
  have HB4 := hid (HB3.out.trans (hb4.mono HB3.out.size))
  clear hb4
  have hss : ((superT g r x).toList == (superT g r x).toList) = true := by simp
  go_wp2_with fail
  go_ret
  exact ⟨rfl, HB4.out⟩

set_option maxRecDepth 100000 in
theorem open_super {H : Type} {enc : TypeId × Value → H} {W : World} {base : Nat} {v : Value} {d : DataW H} {p : List MemPlace}
    (hval : Value.okWide Tryd.prog W .any base 40 v) (h : DataW.Trod enc Tryd.prog W 0 (fun _ => true) true 40 v d p) :
    ∃ g r x : Int, v = .agg #[.int .i64 g, .int .i64 r, .int .i64 x] ∧ -9223372036854775808 ≤ x ∧ x ≤ 9223372036854775807 := by
  obtain ⟨cs, rfl, hcs⟩ := okWide_struct Tryd.underlying40 hval
  obtain ⟨fuel, hf⟩ := h
  have hC : Tryd.prog.cellsOf 40 = 3 := by kernel_rfl
  have hI : Tryd.prog.cellsOf 2 = 1 := by kernel_rfl
  rw [hC] at hcs
  obtain ⟨y0, y1, y2, n, _, hl, h0, h1, h2⟩ := trod_struct3 Tryd.underlying40 hf
  simp only [hI] at h0 h1 h2
  obtain ⟨l⟩ := cs
  match l, hcs with
  | [c0, c1, c2], _ =>
    obtain ⟨a, e0, _⟩ := DataW.trod_int Tryd.underlying2 h0
    obtain ⟨b, e1, _⟩ := DataW.trod_int Tryd.underlying2 h1
    obtain ⟨c, e2, hw⟩ := DataW.trod_int Tryd.underlying2 h2
    have e0' : c0 = .int .i64 a := by simpa [Value.cells] using e0
    have e1' : c1 = .int .i64 b := by simpa [Value.cells] using e1
    have e2' : c2 = .int .i64 c := by simpa [Value.cells] using e2
    subst e0' e1' e2'
    have hwf := hw.2
    simp only [Lit.wf, Bool.and_eq_true, decide_eq_true_eq] at hwf
    have m1 : IntKind.i64.min = -9223372036854775808 := rfl
    have m2 : IntKind.i64.max = 9223372036854775807 := rfl
    rw [m1, m2] at hwf
    refine ⟨a, b, c, rfl, ?_, ?_⟩
    · omega
    · omega

set_option maxRecDepth 100000 in
theorem exactSuperText_lifted (os : Os) (started : os.Started) (H : Type) (enc : TypeId × Value → H) :
    ReturnsInHanded {} Tryd.checked os 5 .any (fun w args => (Rows.fnExactSuperTextSpec.pre enc Tryd.prog Tryd.f5 [] false w args ∧ laidMetH Tryd.prog laid3 w) ∧ sizedMet enc Tryd.prog Tryd.f5 (OpenSpec.ofChange Rows.fnExactSuperTextSpec) false w args)
      (Rows.fnExactSuperTextSpec.post enc Tryd.prog Tryd.f5 false true false false) := by
  refine returnsInHanded_of_change_and (C := Tryd.checked) (X := fun w _ => laidMetH Tryd.prog laid3 w) (fun _ _ _ hh h => h.of_heap hh) own started (by kernel_rfl) Tryd.func5
    (ChangeSpec.witness_shaped (enc := enc) (C := Tryd.checked) (os := os) (X := fun w _ => laidMetH Tryd.prog laid3 w) false (World.doorLaid Tryd.prog 400 os) #[.agg #[.int .i64 0, .int .i64 0, .int .i64 0]] 8 rfl (World.shaped_of_RefB (by kernel_rfl) (by kernel_rfl)) (by kernel_rfl) (by kernel_rfl) (by kernel_rfl) (door_met3 os _)) ?_
  intro W base args ds gs before hval0 hW _ _ hL _
  have hval : ∀ (j : Nat) t v, Tryd.f5.params[j]? = some t → args[j]? = some v → Value.okWide Tryd.prog W .any base t v := hval0
  have hW' := hW
  obtain ⟨p, q, hA0, hV, rfl, hfz, hnd⟩ := hW
  have hA : DataW.TrodAll enc Tryd.prog W 0 (fun _ => true) true Tryd.f5.params.toList args.toList ds p := hA0
  rw [Tryd.params5] at hA hval
  obtain ⟨v0, vs0, d0, ds0, p0, q0, hargs, rfl, rfl, h0, r0⟩ := trodAll_cons hA
  obtain ⟨rfl, rfl, rfl⟩ := trodAll_nil r0
  obtain rfl : args = #[v0] := by cases args; simp_all
  clear hargs
  obtain ⟨g, r, x, rfl, hx1, hx2⟩ := open_super (hval 0 40 v0 rfl rfl) h0
  refine (exactSuperText_walk g r x W hx1 hx2 (tab_of_laid hL)).mono fun e W' ⟨he, hw⟩ => ?_
  subst he
  exact ⟨_, rfl, law_post (tb := 4) laidOut (by kernel_rfl) rfl hW' Tryd.underlying4 (by kernel_rfl) (fun gs' e => by subst e; rfl) hw⟩

theorem exactSuperText_holds : Rows.FnExactSuperTextSaid :=
  OpenClaim.holds_of_wide 5 Tryd.f5 rfl rfl rfl rfl rfl rfl rfl ⟨rfl, rfl, rfl, rfl, rfl⟩ rfl rfl rfl rfl rfl (by kernel_rfl) Tryd.func5 (by kernel_rfl)
    (of_decide_eq_true (by kernel_rfl)) (by unfold Func.isWrapper; rw [if_neg (of_decide_eq_false (by kernel_rfl))]; exact ⟨rfl, rfl⟩)
    (fun os started H enc _ => exactSuperText_lifted os started H enc)

theorem exactSuperText_card : Rows.FnExactSuperTextCardSaid :=
  Claim7.holds_tied_plain_at .later [] [.data, .data, .data] true Rows.fnExactSuperTextCard.stood.harness false
    exactSuperText_holds (fun _ h => by cases h) (by kernel_rfl) (fun _ h => by cases h) fnExactSuperText_row_tie rfl ⟨rfl, rfl⟩ (by kernel_rfl) rfl
    (fun f fn hf hfn => by
      obtain rfl : f = 5 := Option.some.inj ((show Tryd.prog.funcNamed "loop.example/g00573/laws.FnExactSuperText" = some 5 by kernel_rfl).symm.trans hf) |>.symm
      obtain rfl : fn = Tryd.f5 := (Option.some.inj (Tryd.func5.symm.trans hfn)).symm
      exact ⟨by kernel_rfl, fun j t ht => by
        rw [Tryd.params5] at ht
        have hm : t ∈ [40] := by simpa using Array.mem_of_getElem? ht
        have hall : ([40].all fun u => !Tryd.prog.wantsStandIn u) = true := by kernel_rfl
        exact (show Tryd.prog.wantsStandIn t = false by simpa using List.all_eq_true.1 hall t hm)⟩)
    (by kernel_rfl)
end Go.Proofs.YtkegdhgcebbmgaaDoor
