/-
  The laws' own helpers.
-/
import Derived.Test.YtoipcjdpfbgghabDrawsB
import Derived.Test.YtoipcjdpfbgghabPairEq
namespace Go.Proofs.Ytoipcjdpfbgghab
open Go.RowKit

theorem big_any (A : Option Addr) (n c : Nat) (w : World) :
    Calls Try.prog 8 #[.slice A n c] w fun e w' => e = .returned (.bool (decide ((1048576 : Int) < (n : Int)))) ∧ w = w' := by
  go_enter Try.func8, Try.ntmps8
  go_wp2_with fail
  go_ret
  exact ⟨rfl, rfl⟩

def sameTo' (ps qs : PS) (k : Nat) : Prop := ∀ (i : Nat) (h : i < ps.length) (h' : i < qs.length), i < k → ps[i] = qs[i]

theorem same_succ' {ps qs : PS} {k : Nat} (h : sameTo' ps qs k) (hk : k < ps.length) (hk' : k < qs.length) (he : ps[k] = qs[k]) : sameTo' ps qs (k + 1) := by
  intro i hi hi' hlt
  by_cases e : i = k
  · subst e
    exact he
  · exact h i hi hi' (by omega)

set_option maxHeartbeats 1000000 in
theorem sameMap_any (A A' : Option Addr) (c c' : Nat) (ps qs : PS) (B : Nat) (w : World) (hr : RP w B A ps) (hr' : RP w B A' qs) (hn : ps.length ≤ maxLen) :
    Calls Try.prog 17 #[.slice A ps.length c, .slice A' qs.length c'] w fun e w' => e = .returned (.bool (decide (ps = qs))) ∧ Drawn w w' := by
  unfold maxLen at hn
  by_cases g : ps.length = qs.length
  · have g0 : ((ps.length : Int) != (qs.length : Int)) = false := by simp [g]
    have G := hid g
    clear g
    go_enter Try.func17, Try.ntmps17
    go_wp2_with fail
    go_loopw [5] (fun i wr => ∃ k : Nat, k ≤ ps.length ∧ i = .int .i64 k ∧ sameTo' ps qs k ∧ Drawn w wr) (fun i _ => ps.length - (intOf i).toNat)
    case atStart => exact ⟨0, Nat.zero_le _, rfl, fun i h h' hi => absurd hi (by omega), Drawn.refl w⟩
    case round =>
      obtain ⟨k, hk, rfl, hst, hbw⟩ := hrel
      by_cases hlt : k < ps.length
      · have hlt' : k < qs.length := by have := G.out; omega
        obtain ⟨b, off, rfl, hb, hc1, hc2⟩ := (hr.below (hbw.below _)).at_ hlt
        obtain ⟨b', off', rfl, hb', hc3, hc4⟩ := (hr'.below (hbw.below _)).at_ hlt'
        have HST := hid hst
        have HD := hid hbw
        clear hst hbw hr hr'
        have e5 : (0 : Int) ≤ (k : Int) := by omega
        have e6 : (k : Int) < (ps.length : Int) := by omega
        have e7 : (k : Int) < (qs.length : Int) := by omega
        have hq := neqPair ps[k] qs[k]
        have hm := pairGuard
        by_cases he : ps[k] = qs[k]
        · have h3 : decide (ps[k] = qs[k]) = true := by simp [he]
          have HE := hid he
          clear he
          rw [h3] at hq
          clear h3
          go_wp2_with fail
          go_quiet (fail)
          go_wp2_with fail
          go_roundw
          case rel => exact ⟨k + 1, by omega, by go_num, same_succ' HST.out hlt hlt' HE.out, HD.out.drewN _⟩
          case measure => simp [intOf]; omega
        · have h3 : decide (ps[k] = qs[k]) = false := by simp [he]
          have HE := hid he
          clear he
          rw [h3] at hq
          clear h3
          go_wp2_with fail
          go_quiet (fail)
          go_wp2_with fail
          go_ret
          refine ⟨ret_bool ?_, HD.out.drewN _⟩
          rw [eq_comm, decide_eq_false_iff_not]
          intro e
          exact HE.out (by simp only [e])
      · obtain rfl : k = ps.length := by omega
        have HE : Hid (decide (ps = qs) = true) := by
          rw [Hid, decide_eq_true_eq]
          exact List.ext_getElem G.out fun i h1 h2 => hst i h1 h2 h1
        have HD := hid hbw
        clear hst hbw hr hr'
        go_wp2_with fail
        go_ret
        exact ⟨ret_bool HE.out.symm, HD.out⟩
  · have g0 : ((ps.length : Int) != (qs.length : Int)) = true := by simp; omega
    have HN : Hid (decide (ps = qs) = false) := by
      rw [Hid, decide_eq_false_iff_not]
      rintro rfl
      exact g rfl
    clear g hr hr'
    go_enter Try.func17, Try.ntmps17
    go_wp2_with fail
    go_ret
    exact ⟨ret_bool HN.out.symm, Drawn.refl _⟩
end Go.Proofs.Ytoipcjdpfbgghab
