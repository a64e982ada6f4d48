/-
  DeltaOk of both.
-/
import Derived.Test.YtoipcjdpfbgghabChgPlace
import Derived.Test.YtoipcjdpfbgghabMapOkI
import Derived.Lib.QuietBelow
import Derived.BigQuiet
namespace Go.Proofs.Ytoipcjdpfbgghab
open Go.RowKit

set_option maxHeartbeats 1000000 in
theorem spec_l4Change (x : CD) (w : World) (hs : x.1.size ≤ maxLen ∧ x.2.1.size ≤ maxLen) :
    Calls Try.prog 58 #[.agg #[.string x.1, .string x.2.1, .bool x.2.2]] w fun e w' => e = .returned (.bool (changeB x)) ∧ Below w.heap.size w w' := by
  have HB : Hid (∀ o : Obj, Below w.heap.size w (w.alloc o)) := fun o => (Below.refl _ _).alloc (Nat.le_refl _) o
  obtain ⟨k, v, g⟩ := x
  have HS := hid hs
  clear hs
  simp only at HS
  cases g
  · have HE : Hid (changeB (k, v, false) = (keyB k && keyB v)) := chg_put
    cases h1 : keyB k
    · rw [h1] at HE
      go_enter Try.func58, Try.ntmps58
      go_wp2_with (go_at_call 68; refine (spec_KeyOk k _ HS.out.1).mono ?_; rintro e w' ⟨rfl, rfl⟩)
      go_ret
      exact ⟨ret_bool HE.out.symm, HB.out _⟩
    · rw [h1] at HE
      go_enter Try.func58, Try.ntmps58
      go_wp2_with (first
        | (go_at_call 68; (with_reducible refine (spec_KeyOk k _ HS.out.1).mono ?_); rintro e w' ⟨rfl, rfl⟩)
        | (go_at_call 68; (with_reducible refine (spec_KeyOk v _ HS.out.2).mono ?_); rintro e w' ⟨rfl, rfl⟩))
      go_ret
      exact ⟨ret_bool HE.out.symm, HB.out _⟩
  · have HE : Hid (changeB (k, v, true) = (keyB k && decide (v.size = 0))) := chg_gone
    cases h1 : keyB k
    · rw [h1] at HE
      go_enter Try.func58, Try.ntmps58
      go_wp2_with (go_at_call 68; refine (spec_KeyOk k _ HS.out.1).mono ?_; rintro e w' ⟨rfl, rfl⟩)
      go_ret
      exact ⟨ret_bool HE.out.symm, HB.out _⟩
    · rw [h1] at HE
      by_cases h2 : v.size = 0
      · have e3 := eqE_true h2
        rw [decide_eq_true h2] at HE
        clear h2
        go_enter Try.func58, Try.ntmps58
        go_wp2_with (go_at_call 68; refine (spec_KeyOk k _ HS.out.1).mono ?_; rintro e w' ⟨rfl, rfl⟩)
        go_ret
        exact ⟨ret_bool HE.out.symm, HB.out _⟩
      · have e3 := eqE_false h2
        rw [decide_eq_false h2] at HE
        clear h2
        go_enter Try.func58, Try.ntmps58
        go_wp2_with (go_at_call 68; refine (spec_KeyOk k _ HS.out.1).mono ?_; rintro e w' ⟨rfl, rfl⟩)
        go_ret
        exact ⟨ret_bool HE.out.symm, HB.out _⟩

set_option maxHeartbeats 1000000 in
theorem impl_changeOk (x : CD) (w : World) (hs : x.1.size ≤ maxLen ∧ x.2.1.size ≤ maxLen) :
    Calls Try.prog 56 #[.agg #[.string x.1, .string x.2.1, .bool x.2.2]] w fun e w' => e = .returned (.bool (changeB x)) ∧ Below w.heap.size w w' := by
  have HB : Hid (∀ o : Obj, Below w.heap.size w (w.alloc o)) := fun o => (Below.refl _ _).alloc (Nat.le_refl _) o
  obtain ⟨k, v, g⟩ := x
  have HS := hid hs
  clear hs
  simp only at HS
  cases g
  · have HE : Hid (changeB (k, v, false) = (keyB k && keyB v)) := chg_put
    cases h1 : keyB k
    · rw [h1] at HE
      go_enter Try.func56, Try.ntmps56
      go_wp2_with (go_at_call 69; refine (impl_KeyOk k _ HS.out.1).mono ?_; rintro e w' ⟨rfl, rfl⟩)
      go_ret
      exact ⟨ret_bool HE.out.symm, HB.out _⟩
    · rw [h1] at HE
      go_enter Try.func56, Try.ntmps56
      go_wp2_with (first
        | (go_at_call 69; (with_reducible refine (impl_KeyOk k _ HS.out.1).mono ?_); rintro e w' ⟨rfl, rfl⟩)
        | (go_at_call 69; (with_reducible refine (impl_KeyOk v _ HS.out.2).mono ?_); rintro e w' ⟨rfl, rfl⟩))
      go_ret
      exact ⟨ret_bool HE.out.symm, HB.out _⟩
  · have HE : Hid (changeB (k, v, true) = (keyB k && decide (v.size = 0))) := chg_gone
    cases h1 : keyB k
    · rw [h1] at HE
      go_enter Try.func56, Try.ntmps56
      go_wp2_with (go_at_call 69; refine (impl_KeyOk k _ HS.out.1).mono ?_; rintro e w' ⟨rfl, rfl⟩)
      go_ret
      exact ⟨ret_bool HE.out.symm, HB.out _⟩
    · rw [h1] at HE
      by_cases h2 : v.size = 0
      · have e3 := eqE_true h2
        rw [decide_eq_true h2] at HE
        clear h2
        go_enter Try.func56, Try.ntmps56
        go_wp2_with (go_at_call 69; refine (impl_KeyOk k _ HS.out.1).mono ?_; rintro e w' ⟨rfl, rfl⟩)
        go_ret
        exact ⟨ret_bool HE.out.symm, HB.out _⟩
      · have e3 := eqE_false h2
        rw [decide_eq_false h2] at HE
        clear h2
        go_enter Try.func56, Try.ntmps56
        go_wp2_with (go_at_call 69; refine (impl_KeyOk k _ HS.out.1).mono ?_; rintro e w' ⟨rfl, rfl⟩)
        go_ret
        exact ⟨ret_bool HE.out.symm, HB.out _⟩

set_option maxHeartbeats 4000000 in
set_option maxRecDepth 100000 in
theorem spec_l6Delta (A : Option Addr) (c : Nat) (ls : CS) (w : World) (hr : RC w w.heap.size A ls) (hf : FitsC ls) (hn : ls.length ≤ maxLen) :
    Calls Try.prog 40 #[.slice A ls.length c] w fun e w' => e = .returned (.bool (deltaW ls)) ∧ Below w.heap.size w w' := by
  unfold maxLen at hn
  have HR := hid hr
  have HF := hid hf
  clear hr hf
  go_enter Try.func40, Try.ntmps40
  go_wp2_with fail
  go_loopw [3] (fun i wr => ∃ k : Nat, k ≤ ls.length ∧ i = .int .i64 k ∧ chgTo ls k ∧ risesToC ls k ∧ Below w.heap.size w wr) (fun i _ => ls.length - (intOf i).toNat)
  case atStart => exact ⟨0, Nat.zero_le _, rfl, chgTo_zero ls, risesToC_zero ls, Below.refl _ w⟩
  case round =>
    obtain ⟨k, hk, rfl, hks, hrs, hbw⟩ := hrel
    have HD := hid hbw
    by_cases hlt : k < ls.length
    · obtain ⟨b, off, rfl, hb, hc⟩ : ∃ b off, A = some ⟨b, off, none⟩ ∧ b < w.heap.size ∧ ∀ i (hi : i < ls.length), wr.cell? ⟨b, off + i * 3, none⟩ = some (.string ls[i].1) ∧ wr.cell? ⟨b, off + i * 3 + 1, none⟩ = some (.string ls[i].2.1) ∧ wr.cell? ⟨b, off + i * 3 + 2, none⟩ = some (.bool ls[i].2.2) := by
        rcases HR.out.below hbw with rfl | ⟨b, off, e, hb, hc⟩
        · simp at hlt
        · exact ⟨b, off, e, hb, fun i hi => hc i _ (List.getElem?_eq_getElem hi)⟩
      have HFK := hid (HF.out.get hlt)
      have HBC := hid (@deltaW_chg ls k hlt)
      have HBR := hid (@deltaW_rises ls k hlt)
      have HK := hid (chgTo_succ hks hlt)
      have HRS := hid (risesToC_succ hrs hlt)
      have x0 := cell_regrown (hc k hlt).1
      have x1 := cell_regrown (hc k hlt).2.1
      have x2 := cell_regrown (hc k hlt).2.2
      have HC := hid hc
      have e5 : (0 : Int) ≤ (k : Int) := by omega
      have e6 : (k : Int) < (ls.length : Int) := by omega
      have cL : ∀ dq os, Calls Try.prog 58 #[.agg #[.string ls[k].1, .string ls[k].2.1, .bool ls[k].2.2]] (Go.Sort.grow (redrawn wr dq) os) fun e w'' => e = .returned (.bool (changeB ls[k])) ∧ ∃ p : Regrown, w'' = Go.Sort.grow (redrawn wr p.d) p.os := fun dq os => Calls.regrown_of (spec_l4Change ls[k] _ HFK.out)
      clear hks hrs hbw hc
      cases h1 : changeB ls[k]
      · rw [h1] at cL
        go_wp2_with fail
        refine wp_region_quiet_below (by kernel_rfl) (by kernel_rfl) ?_
        repeat (go_big_quiet_step (exact cL _ _))
        refine wpQuiet_nil ?_
        intro _ hw'
        obtain ⟨⟨dq, osq⟩, hw''⟩ := hw'
        subst hw''
        go_wp2_with fail
        go_ret
        exact ⟨ret_bool (HBC.out h1).symm, HD.out.trans ((below_regrown wr dq osq).mono HD.out.size)⟩
      · rw [h1] at cL
        by_cases h0 : 0 < k
        · have x3 := cell_regrown (HC.out (k - 1) (by omega)).1
          have h0' : decide (0 < k) = true := by simpa using h0
          have h0'' : decide ((0 : Int) < (k : Int)) = true := by simpa using h0
          have e1 : IntKind.i64.wrap ((k : Int) - 1) = (k : Int) - 1 := IntWalk.i64_in _ (by omega)
          have e2 : (0 : Int) ≤ (k : Int) - 1 := by omega
          have e3 : (k : Int) - 1 < (ls.length : Int) := by omega
          have e4 : ((k : Int) - 1).toNat = k - 1 := by omega
          have e7 : (1 : Int) ≤ (k : Int) := by omega
          cases h3 : ltS ls[k - 1].1 ls[k].1
          · have h4 : Op.bytesLess ls[k - 1].1.toList ls[k].1.toList = false := h3
            go_wp2_with fail
            refine wp_region_quiet_below (by kernel_rfl) (by kernel_rfl) ?_
            repeat (go_big_quiet_step (exact cL _ _))
            refine wpQuiet_nil ?_
            intro _ hw'
            obtain ⟨⟨dq, osq⟩, hw''⟩ := hw'
            subst hw''
            go_wp2_with fail
            go_ret
            exact ⟨ret_bool (HBR.out h0 h3).symm, HD.out.trans ((below_regrown wr dq osq).mono HD.out.size)⟩
          · have h4 : Op.bytesLess ls[k - 1].1.toList ls[k].1.toList = true := h3
            go_wp2_with fail
            refine wp_region_quiet_below (by kernel_rfl) (by kernel_rfl) ?_
            repeat (go_big_quiet_step (exact cL _ _))
            refine wpQuiet_nil ?_
            intro _ hw'
            obtain ⟨⟨dq, osq⟩, hw''⟩ := hw'
            subst hw''
            go_wp2_with fail
            go_roundw
            case rel => exact ⟨k + 1, by omega, by go_num, HK.out h1, HRS.out (fun _ => h3), HD.out.trans ((below_regrown wr dq osq).mono HD.out.size)⟩
            case measure => simp [intOf]; omega
        · have h0' : decide (0 < k) = false := by simpa using h0
          have h0'' : decide ((0 : Int) < (k : Int)) = false := by simpa using h0
          go_wp2_with fail
          refine wp_region_quiet_below (by kernel_rfl) (by kernel_rfl) ?_
          repeat (go_big_quiet_step (exact cL _ _))
          refine wpQuiet_nil ?_
          intro _ hw'
          obtain ⟨⟨dq, osq⟩, hw''⟩ := hw'
          subst hw''
          go_wp2_with fail
          go_roundw
          case rel => exact ⟨k + 1, by omega, by go_num, HK.out h1, HRS.out (fun h => absurd h h0), HD.out.trans ((below_regrown wr dq osq).mono HD.out.size)⟩
          case measure => simp [intOf]; omega
    · obtain rfl : k = ls.length := by omega
      have HE := hid (deltaW_end hks hrs)
      clear hks hrs hbw
      go_wp2_with fail
      go_ret
      exact ⟨ret_bool HE.out.symm, HD.out⟩

theorem spec_DeltaOk (A : Option Addr) (c : Nat) (ls : CS) (w : World) (hr : RC w w.heap.size A ls) (hf : FitsC ls) (hn : ls.length ≤ maxLen) :
    Calls Try.prog 15 #[.slice A ls.length c] w fun e w' => e = .returned (.bool (deltaB ls)) ∧ Below w.heap.size w w' := by
  have hn' := hn
  unfold maxLen at hn'
  have HR := hid hr
  have HF := hid hf
  have HN := hid hn
  clear hr hf hn
  by_cases h : ls.length ≤ 60
  · have HM := hid (deltaB_W h)
    go_enter Try.func15, Try.ntmps15
    go_wp2_with (go_at_call 40; refine (spec_l6Delta A c ls _ HR.out HF.out HN.out).mono ?_; rintro e w' ⟨rfl, hw⟩)
    go_ret
    exact ⟨ret_bool HM.out.symm, hw⟩
  · have HM := hid (deltaB_long (l := ls) (by omega))
    go_enter Try.func15, Try.ntmps15
    go_wp2_with fail
    go_ret
    exact ⟨ret_bool HM.out.symm, Below.refl _ _⟩

set_option maxHeartbeats 2000000 in
theorem impl_changesOk (A : Option Addr) (c : Nat) (ls : CS) (w : World) (hr : RC w w.heap.size A ls) (hf : FitsC ls) (hn : ls.length ≤ maxLen) :
    Calls Try.prog 39 #[.slice A ls.length c] w fun e w' => e = .returned (.bool (deltaB ls)) ∧ Below w.heap.size w w' := by
  have hn' := hn
  unfold maxLen at hn'
  have HR := hid hr
  have HN := hid hn
  have HF := hid hf
  clear hn hr hf
  go_enter Try.func39, Try.ntmps39
  go_wp2_with fail
  go_loopw [7] (fun i wr => ∃ k : Nat, k ≤ ls.length ∧ i = .int .i64 k ∧ chgTo ls k ∧ Below w.heap.size w wr) (fun i _ => ls.length - (intOf i).toNat)
  case atStart => exact ⟨0, Nat.zero_le _, rfl, chgTo_zero ls, Below.refl _ w⟩
  case round =>
    obtain ⟨k, hk, rfl, hks, hbw⟩ := hrel
    by_cases hlt : k < ls.length
    · obtain ⟨b, off, rfl, hb, hc1, hc2, hc3⟩ := (HR.out.below hbw).at_ hlt
      have HFK := hid (HF.out.get hlt)
      have HB := hid (@deltaB_chg ls k hlt)
      have HK := hid (chgTo_succ hks hlt)
      have HD := hid hbw
      clear hbw hks
      cases h1 : changeB ls[k]
      · go_wp2_with (go_at_call 56; refine (impl_changeOk ls[k] _ HFK.out).mono ?_; rintro e w' ⟨rfl, hw'⟩; have HW := hid ((HD.out.alloc HD.out.size _).trans (hw'.mono (by have := HD.out.size; simp; omega))); clear hw')
        go_ret
        exact ⟨ret_bool (HB.out h1).symm, HW.out⟩
      · go_wp2_with (go_at_call 56; refine (impl_changeOk ls[k] _ HFK.out).mono ?_; rintro e w' ⟨rfl, hw'⟩; have HW := hid ((HD.out.alloc HD.out.size _).trans (hw'.mono (by have := HD.out.size; simp; omega))); clear hw')
        go_roundw
        case rel => exact ⟨k + 1, by omega, by go_num, HK.out h1, HW.out⟩
        case measure => simp [intOf]; omega
    · obtain rfl : k = ls.length := by omega
      have HD := hid hbw
      have HA := hid hks
      have HR2 := hid ((HR.out.below hbw).more hbw.size)
      clear hks hbw
      by_cases hl : ls.length ≤ 60
      · have HE := hid (deltaB_all HA.out hl)
        go_wp2_with (go_at_call 57; refine (risesC_any A c ls _ HR2.out HN.out).mono ?_; rintro e w' ⟨rfl, hbw'⟩)
        go_ret
        exact ⟨ret_bool HE.out.symm, HD.out.trans (hbw'.mono HD.out.size)⟩
      · have HE := hid (deltaB_long (l := ls) (by omega))
        go_wp2_with fail
        go_ret
        exact ⟨ret_bool HE.out.symm, HD.out⟩

theorem impl_DeltaOk (A : Option Addr) (c : Nat) (ls : CS) (w : World) (hr : RC w w.heap.size A ls) (hf : FitsC ls) (hn : ls.length ≤ maxLen) :
    Calls Try.prog 14 #[.slice A ls.length c] w fun e w' => e = .returned (.bool (deltaB ls)) ∧ Below w.heap.size w w' := by
  have HR := hid hr
  have HF := hid hf
  have HN := hid hn
  clear hr hf hn
  go_enter Try.func14, Try.ntmps14
  go_wp2_with (go_at_call 39; refine (impl_changesOk A c ls _ HR.out HF.out HN.out).mono ?_; rintro e w' ⟨rfl, hw⟩)
  go_ret
  exact ⟨rfl, hw⟩
end Go.Proofs.Ytoipcjdpfbgghab
