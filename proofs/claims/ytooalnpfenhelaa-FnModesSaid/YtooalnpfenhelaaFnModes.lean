/-
  FnModes answers true at every list of bytes, and its argument reads as it did. No condition.
-/
import Derived.Test.YtooalnpfenhelaaDrawMode
import Derived.Test.YtooalnpfenhelaaModes
import Derived.Test.YtooalnpfenhelaaBytesArg
namespace Go.Proofs.Ytooalnpfenhelaa
open Go.ChangeShapes Go.WideShapes Go.ChangeAt Go.RowKit

theorem bigL_any (A : Option Addr) (n c : Nat) (w : World) :
    Calls Try.prog 19 #[.slice A n c] w fun e w' => e = .returned (.bool (decide ((1048576 : Int) < (n : Int)))) ∧ w = w' := by
  go_enter Try.func19, Try.ntmps19
  go_wp2_with fail
  go_ret
  exact ⟨rfl, rfl⟩
theorem bothF_pos {a b : Int} (h : 0 < bothF a b) : modeB a = true ∧ modeB b = true ∧ bothF a b = joinB a b := by
  unfold bothF at h ⊢
  cases ha : modeB a <;> cases hb : modeB b <;> simp [ha, hb] at h ⊢
theorem bothF_ge (a b : Int) : 0 ≤ bothF a b := by
  unfold bothF
  cases ha : modeB a <;> cases hb : modeB b <;> simp
  have := joinB_mode ha hb
  rw [modeB_iff] at this
  omega

set_option maxHeartbeats 4000000 in
theorem fnModes_walk (A : Option Addr) (n c : Nat) (w : World) (hc : CB w w.heap.size A n) (hn : n ≤ maxLen) :
    Calls Try.prog 5 #[.slice A n c] w fun e w' => e = .returned (.bool true) ∧ Below w.heap.size w w' := by
  have HC := hid hc
  clear hc
  unfold maxLen at hn
  go_enter Try.func5, Try.ntmps5
  go_wp2_with fail
  refine (bigL_any A n c _).mono ?_
  rintro e w0 ⟨rfl, rfl⟩
  by_cases hbig : (1048576 : Int) < (n : Int)
  · go_wp2_with fail
    go_ret
    exact ⟨rfl, Below.refl _ _⟩
  go_wp2_with fail
  refine (drawFit_any A n c _ HC.out (by omega)).mono ?_
  rintro e w1 ⟨a, b, rfl, hb1⟩
  have HB1 := hid hb1
  have HC1 := hid (HC.out.keep (w' := w1) fun p hp => hb1.cell hp)
  clear hb1
  have hcb : CB w1 w1.heap.size A n := by
    rcases HC1.out with h | ⟨b, off, e, hb, hx⟩
    · exact .inl h
    · exact .inr ⟨b, off, e, Nat.lt_of_lt_of_le hb HB1.out.size, hx⟩
  have HCB := hid hcb
  clear hcb
  go_wp2_with fail
  refine (drawBoth_any A n c _ HCB.out (by omega)).mono ?_
  rintro e w2 ⟨x, y, rfl, hb2⟩
  have HB2 := hid (HB1.out.trans (hb2.mono HB1.out.size))
  clear hb2
  have FBA : ∀ W : World, Calls Try.prog 16 #[.int .i64 b, .int .i64 a] W fun e w' => e = .returned (.bool (fitF a b)) ∧ Below W.heap.size W w' := fun W => by
    have := impl_Fit b a W
    rwa [fitF_symm b a] at this
  have BYX : ∀ W : World, Calls Try.prog 18 #[.int .i64 y, .int .i64 x] W fun e w' => e = .returned (.int .i64 (bothF x y)) ∧ Below W.heap.size W w' := fun W => by
    have := impl_Both y x W
    rwa [bothF_comm y x] at this
  have f1 : (fitF a b != fitF a b) = false := by simp
  have f2 : (bothF x y != bothF x y) = false := by simp
  have f3 : (fitF a b != fitF b a) = false := by rw [fitF_symm]; simp
  have f4 : (bothF x y != bothF y x) = false := by rw [bothF_comm]; simp
  go_wp2_with (first
    | (go_at_call 16; (with_reducible refine (impl_Fit a b w2).mono ?_); rintro e w3 ⟨rfl, hb3⟩; have HB3 := hid (HB2.out.trans (hb3.mono HB2.out.size)); clear hb3)
    | (go_at_call 15; refine (spec_Fit a b _).mono ?_; rintro e w' ⟨rfl, rfl⟩)
    | (go_at_call 18; (with_reducible refine (impl_Both x y w3).mono ?_); rintro e w4 ⟨rfl, hb4⟩; have HB4 := hid (HB3.out.trans (hb4.mono HB3.out.size)); clear hb4)
    | (go_at_call 17; refine (spec_Both x y _).mono ?_; rintro e w' ⟨rfl, rfl⟩)
    | (go_at_call 16; (with_reducible refine (impl_Fit a b w4).mono ?_); rintro e w5 ⟨rfl, hb5⟩; have HB5 := hid (HB4.out.trans (hb5.mono HB4.out.size)); clear hb5)
    | (go_at_call 16; (with_reducible refine (FBA w5).mono ?_); rintro e w6 ⟨rfl, hb6⟩; have HB6 := hid (HB5.out.trans (hb6.mono HB5.out.size)); clear hb6)
    | (go_at_call 18; (with_reducible refine (impl_Both x y w6).mono ?_); rintro e w7 ⟨rfl, hb7⟩; have HB7 := hid (HB6.out.trans (hb7.mono HB6.out.size)); clear hb7)
    | (go_at_call 18; (with_reducible refine (BYX w7).mono ?_); rintro e w8 ⟨rfl, hb8⟩; have HB8 := hid (HB7.out.trans (hb8.mono HB7.out.size)); clear hb8)
    | (go_at_call 18; (with_reducible refine (impl_Both a b w8).mono ?_); rintro e w9 ⟨rfl, hb9⟩; have HB9 := hid (HB8.out.trans (hb9.mono HB8.out.size)); clear hb9))
  clear f1 f2 f3 f4 FBA BYX
  have hge := bothF_ge a b
  by_cases hpos : 0 < bothF a b
  · have HP := hid (bothF_pos hpos)
    have HN : Hid (modeB (bothF a b) = true) := by rw [Hid, HP.out.2.2]; exact joinB_mode HP.out.1 HP.out.2.1
    have HFIT : Hid (∀ m : Int, modeB m = true → fitF (bothF a b) m = true → fitF a m = true ∧ fitF b m = true) := by
      intro m hm hf
      have hab := HP.out
      rw [hab.2.2] at hf
      have hj := joinB_mode hab.1 hab.2.1
      simp only [fitF, hj, hm, hab.1, hab.2.1, Bool.true_and] at hf ⊢
      exact fit_join hab.1 hab.2.1 hm hf
    have HJ : Hid (bothF (bothF a b) a = bothF a b) := by
      have hab := HP.out
      have hj := joinB_mode hab.1 hab.2.1
      rw [hab.2.2, Hid, bothF, hj, hab.1, Bool.true_and, if_pos rfl, join_join hab.1 hab.2.1]
    have HS : Hid (bothF a a = a) := by rw [Hid, bothF, HP.out.1, Bool.true_and, if_pos rfl, joinB_self]
    generalize hv : bothF a b = v at *
    go_loopw [8] (fun i wr => ∃ m : Nat, 1 ≤ m ∧ m ≤ 5 ∧ i = .int .i64 (m : Int) ∧ Below w.heap.size w wr) (fun i _ => 5 - (intOf i).toNat)
    case atStart => exact ⟨1, Nat.le_refl _, by omega, rfl, HB9.out⟩
    case round =>
      obtain ⟨m, hm1, hm2, rfl, hbw⟩ := hrel
      have HD := hid hbw
      clear hbw
      by_cases hlt : m ≤ 4
      · have hmm : modeB (m : Int) = true := by rw [modeB_iff]; omega
        cases hf : fitF v (m : Int)
        · go_wp2_with (first
            | (go_at_call 16; refine (impl_Fit v _ wr).mono ?_; rintro e w3 ⟨rfl, hb3⟩; have HD3 := hid (HD.out.trans (hb3.mono HD.out.size)); clear hb3))
          go_roundw
          case rel => exact ⟨m + 1, by omega, by omega, by go_num, HD3.out⟩
          case measure => simp [intOf]; omega
        · have hfa := (HFIT.out _ hmm hf).1
          have hfb := (HFIT.out _ hmm hf).2
          go_wp2_with (first
            | (go_at_call 16; (with_reducible refine (impl_Fit v _ wr).mono ?_); rintro e w3 ⟨rfl, hb3⟩; have HD3 := hid (HD.out.trans (hb3.mono HD.out.size)); clear hb3)
            | (go_at_call 16; (with_reducible refine (impl_Fit a _ w3).mono ?_); rintro e w4 ⟨rfl, hb4⟩; have HD4 := hid (HD3.out.trans (hb4.mono HD3.out.size)); clear hb4)
            | (go_at_call 16; (with_reducible refine (impl_Fit b _ w4).mono ?_); rintro e w5 ⟨rfl, hb5⟩; have HD5 := hid (HD4.out.trans (hb5.mono HD4.out.size)); clear hb5))
          go_roundw
          case rel => exact ⟨m + 1, by omega, by omega, by go_num, HD5.out⟩
          case measure => simp [intOf]; omega
      · obtain rfl : m = 5 := by omega
        have g1 : (bothF v a == v) = true := eqI_true HJ.out
        have g2 : (bothF a a == a) = true := eqI_true HS.out
        have g3 : (v == 0) = false := eqI_false (by omega)
        go_wp2_with (first
          | (go_at_call 18; (with_reducible refine (impl_Both v a wr).mono ?_); rintro e w3 ⟨rfl, hb3⟩; have HD3 := hid (HD.out.trans (hb3.mono HD.out.size)); clear hb3)
          | (go_at_call 18; (with_reducible refine (impl_Both a a w3).mono ?_); rintro e w4 ⟨rfl, hb4⟩; have HD4 := hid (HD3.out.trans (hb4.mono HD3.out.size)); clear hb4))
        go_ret
        exact ⟨rfl, HD4.out⟩
  · have hv : bothF a b = 0 := by omega
    have HV := hid hv
    rw [hv]
    clear hv hpos hge
    go_loopw [8] (fun i wr => i = .int .i64 1 ∧ wr = w9) (fun i _ => 0)
    case atStart => exact ⟨rfl, rfl⟩
    case round =>
      obtain ⟨rfl, rfl⟩ := hrel
      go_wp2_with fail
      go_ret
      exact ⟨rfl, HB9.out⟩
set_option maxRecDepth 100000 in
theorem modes_lifted (os : Os) (started : os.Started) (H : Type) (enc : TypeId × Value → H) :
    ReturnsInHanded {} Try.checked os 5 .any (Rows.fnModesSpec.pre6 enc Try.prog Try.f5 Rows.fnModesRow.domain false) (Rows.fnModesSpec.post enc Try.prog Try.f5 false true false false) := by
  refine returnsInHanded_of_change (C := Try.checked) own started (by kernel_rfl) Try.func5
    (ChangeSpec.witness6 (enc := enc) (C := Try.checked) false ⟨#[], #[.slice none 0 0], []⟩ 8 (by kernel_rfl) (by kernel_rfl) (by kernel_rfl) (by kernel_rfl)) ?_
  intro W base args ds gs before hval hW _ _
  have hW' := hW
  obtain ⟨p, q, hA0, hV, rfl, hfz, hnd⟩ := hW
  have hA : DataW.TrodAll enc Try.prog W 0 (fun _ => true) true Try.f5.params.toList args.toList ds p := hA0
  rw [Try.params5] at hA hval
  obtain ⟨v0, vs0, d0, ds0, p0, q0, hargs, rfl, rfl, h0, r0⟩ := trodAll_cons hA
  obtain ⟨rfl, rfl, rfl⟩ := trodAll_nil r0
  obtain rfl : args = #[v0] := by cases args; simp_all
  clear hargs
  obtain ⟨A0, n0, c0, rfl, cb0, nn0⟩ := open_code (hval 0 24 v0 rfl rfl) h0
  refine (fnModes_walk A0 n0 c0 W cb0 nn0).mono fun e W' ⟨he, hw⟩ => ?_
  subst he
  exact ⟨_, rfl, law_post (tb := 4) laidOut (by kernel_rfl) rfl hW' Try.underlying4 (by kernel_rfl) (fun gs' e => by subst e; rfl) hw⟩

theorem modes_holds : Rows.FnModesSaid :=
  OpenClaim.holds_of_wide 5 Try.f5 rfl rfl rfl rfl rfl rfl rfl ⟨rfl, rfl, rfl, rfl, rfl⟩ rfl rfl rfl rfl rfl (by kernel_rfl) Try.func5 (by kernel_rfl)
    (of_decide_eq_true (by kernel_rfl)) (by unfold Func.isWrapper; rw [if_neg (of_decide_eq_false (by kernel_rfl))]; exact ⟨rfl, rfl⟩)
    (fun os started H enc _ => modes_lifted os started H enc)
end Go.Proofs.Ytooalnpfenhelaa
