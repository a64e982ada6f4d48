/-
  What the exact laws go through: sizes, copies, comparisons of pairs.
-/
import Derived.Test.YtaiehccpefjbfaaOwn
namespace Go.Proofs.Ytaiehccpefjbfaa
open Go.RowKit

/-! ### sizes -/
def SzPost1 (p : BB) (l : Int) (w : World) (e : Ending) (w' : World) : Prop :=
  ∃ r : Int, e = .returned (.int .i64 r) ∧ -1 ≤ r ∧ r ≤ l ∧ (0 ≤ r → (p.1.size : Int) ≤ l ∧ (p.2.size : Int) ≤ l) ∧ Below w.heap.size w w'

set_option maxHeartbeats 400000 in
theorem szPair_any (p : BB) (l : Int) (w : World) (h0 : 0 ≤ l) (h1 : l ≤ 1048576) (hs : p.1.size ≤ maxLen) (ht : p.2.size ≤ maxLen) :
    Calls Try.prog 144 #[.agg #[.string p.1, .string p.2], .int .i64 l] w (SzPost1 p l w) := by
  unfold maxLen at hs ht
  have hb : ∀ o : Obj, Below w.heap.size w (w.alloc o) := fun o => (Below.refl _ _).alloc (Nat.le_refl _) o
  have HB := hid hb
  clear hb
  by_cases g1 : l - (p.1.size : Int) < 0
  · go_enter Try.func144, Try.ntmps144
    go_wp2_with fail
    go_ret
    exact ⟨-1, rfl, by omega, by omega, fun h => by omega, HB.out _⟩
  · by_cases g2 : l - (p.1.size : Int) - (p.2.size : Int) < 0
    · go_enter Try.func144, Try.ntmps144
      go_wp2_with fail
      go_ret
      exact ⟨-1, rfl, by omega, by omega, fun h => by omega, HB.out _⟩
    · go_enter Try.func144, Try.ntmps144
      go_wp2_with fail
      go_ret
      exact ⟨_, rfl, by omega, by omega, fun h => by omega, HB.out _⟩

def Small (ps : PS) (l : Int) : Prop := ∀ p ∈ ps, (p.1.size : Int) ≤ l ∧ (p.2.size : Int) ≤ l
def smallTo (ps : PS) (l : Int) (k : Nat) : Prop := ∀ (i : Nat) (h : i < ps.length), i < k → (ps[i].1.size : Int) ≤ l ∧ (ps[i].2.size : Int) ≤ l
theorem smallTo_succ {ps : PS} {l m : Int} {k : Nat} (h : smallTo ps l k) (hk : k < ps.length) (hm : m ≤ l) (he : (ps[k].1.size : Int) ≤ m ∧ (ps[k].2.size : Int) ≤ m) : smallTo ps l (k + 1) := by
  intro i hi hlt
  by_cases e : i = k
  · subst e
    omega
  · exact h i hi (by omega)
theorem smallTo_end {ps : PS} {l : Int} (h : smallTo ps l ps.length) : Small ps l := by
  intro p hp
  obtain ⟨i, hi, rfl⟩ := List.getElem_of_mem hp
  exact h i hi hi
def SzPost (ps : PS) (l : Int) (w : World) (e : Ending) (w' : World) : Prop :=
  ∃ r : Int, e = .returned (.int .i64 r) ∧ -1 ≤ r ∧ r ≤ l ∧ (0 ≤ r → (ps.length : Int) ≤ l ∧ Small ps l) ∧ Below w.heap.size w w'

set_option maxHeartbeats 1000000 in
theorem szPairS_any (A : Option Addr) (c : Nat) (ps : PS) (l : Int) (w : World) (hr : RP w w.heap.size A ps) (hf : Fits ps) (hn : ps.length ≤ maxLen) (h0 : 0 ≤ l) (h1 : l ≤ 1048576) :
    Calls Try.prog 124 #[.slice A ps.length c, .int .i64 l] w (SzPost ps l w) := by
  unfold maxLen at hn
  by_cases g : l - (ps.length : Int) < 0
  · clear hr hf
    go_enter Try.func124, Try.ntmps124
    go_wp2_with fail
    go_ret
    exact ⟨-1, rfl, by omega, by omega, fun h => by omega, Below.refl _ _⟩
  · go_enter Try.func124, Try.ntmps124
    go_wp2_with fail
    go_loopw [1, 5] (fun q i wr => ∃ (m : Int) (k : Nat), 0 ≤ m ∧ m ≤ l ∧ k ≤ ps.length ∧ q = .int .i64 m ∧ i = .int .i64 k ∧ smallTo ps l k ∧ Below w.heap.size w wr) (fun _ i _ => ps.length - (intOf i).toNat)
    case atStart => exact ⟨_, 0, by omega, by omega, Nat.zero_le _, rfl, rfl, fun i h hi => absurd hi (by omega), Below.refl _ w⟩
    case round =>
      obtain ⟨m, k, hm0, hm1, hk, rfl, rfl, hst, hbw⟩ := hrel
      by_cases hlt : k < ps.length
      · obtain ⟨b, off, rfl, hb, hc1, hc2⟩ := (hr.below hbw).at_ hlt
        have HF := hid (hf.get hlt)
        have HS := hid (@smallTo_succ ps l m k hst hlt)
        have HD := hid hbw
        clear hst hbw hr hf
        go_wp2_with (go_at_call 144; refine (szPair_any ps[k] m _ hm0 (by omega) HF.out.1 HF.out.2).mono ?_; rintro e w' ⟨r, rfl, hr1, hr2, hr3, hw⟩; have HR := hid hr3; clear hr3)
        · go_ret
          exact ⟨-1, rfl, by omega, by omega, fun h => by omega, HD.out.trans (hw.mono HD.out.size)⟩
        · refine ⟨⟨r, k + 1, by omega, by omega, by omega, rfl, by go_num, HS.out (by omega) (HR.out (by omega)), HD.out.trans (hw.mono HD.out.size)⟩, by simp [intOf]; omega⟩
      · obtain rfl : k = ps.length := by omega
        have HS := hid (smallTo_end hst)
        have HD := hid hbw
        clear hst hbw hr hf
        go_wp2_with fail
        go_ret
        exact ⟨m, rfl, by omega, by omega, fun h => ⟨by omega, HS.out⟩, HD.out⟩

/-! ### comparisons -/
theorem eqPair_any (p q : BB) (w : World) :
    Calls Try.prog 157 #[.agg #[.string p.1, .string p.2], .agg #[.string q.1, .string q.2]] w fun e w' => e = .returned (.bool (decide (p = q))) ∧ w' = (w.alloc (.cells #[.string p.1, .string p.2] 172)).alloc (.cells #[.string q.1, .string q.2] 172) := by
  by_cases h1 : p.1 = q.1
  · by_cases h2 : p.2 = q.2
    · have HE : Hid (decide (p = q) = true) := by simp [Hid, Prod.ext_iff, h1, h2]
      have g1 := eqS_true h1
      have g2 := eqS_true h2
      clear h1 h2
      go_enter Try.func157, Try.ntmps157
      go_wp2
      go_ret
      exact ⟨ret_bool HE.out.symm, rfl⟩
    · have HE : Hid (decide (p = q) = false) := by simp [Hid, Prod.ext_iff, h2]
      have g1 := eqS_true h1
      have g2 := eqS_false h2
      clear h1 h2
      go_enter Try.func157, Try.ntmps157
      go_wp2
      go_ret
      exact ⟨ret_bool HE.out.symm, rfl⟩
  · have HE : Hid (decide (p = q) = false) := by simp [Hid, Prod.ext_iff, h1]
    have g1 := eqS_false h1
    clear h1
    go_enter Try.func157, Try.ntmps157
    go_wp2
    go_ret
    exact ⟨ret_bool HE.out.symm, rfl⟩

def sameTo (ps qs : PS) (k : Nat) : Prop := ∀ (i : Nat) (h : i < ps.length) (h' : i < qs.length), i < k → ps[i] = qs[i]
theorem sameTo_succ {ps qs : PS} {k : Nat} (h : sameTo ps qs k) (hk : k < ps.length) (hk' : k < qs.length) (he : ps[k] = qs[k]) : sameTo ps qs (k + 1) := by
  intro i hi hi' hlt
  by_cases e : i = k
  · subst e
    exact he
  · exact h i hi hi' (by omega)
theorem sameTo_end {ps qs : PS} (h : sameTo ps qs ps.length) (hl : ps.length = qs.length) : ps = qs :=
  List.ext_getElem hl fun i h1 h2 => h i h1 h2 h1
theorem same_no {ps qs : PS} {k : Nat} (hk : k < ps.length) (hk' : k < qs.length) (he : ps[k] ≠ qs[k]) : decide (ps = qs) = false := by
  rw [decide_eq_false_iff_not]
  rintro rfl
  exact he rfl
theorem same_len {ps qs : PS} (h : ps.length ≠ qs.length) : decide (ps = qs) = false := by
  rw [decide_eq_false_iff_not]
  rintro rfl
  exact h rfl

set_option maxHeartbeats 1000000 in
theorem eqPairS_any (A A' : Option Addr) (c c' : Nat) (ps qs : PS) (w : World) (hr : RP w w.heap.size A ps) (hr' : RP w w.heap.size A' qs) (hn : ps.length ≤ maxLen) :
    Calls Try.prog 138 #[.slice A ps.length c, .slice A' qs.length c'] w fun e w' => e = .returned (.bool (decide (ps = qs))) ∧ Below w.heap.size w w' := by
  unfold maxLen at hn
  by_cases g : ps.length = qs.length
  · have g0 : ((ps.length : Int) != (qs.length : Int)) = false := by simp [g]
    have G := hid g
    clear g
    go_enter Try.func138, Try.ntmps138
    go_wp2_with fail
    go_loopw [5] (fun i wr => ∃ k : Nat, k ≤ ps.length ∧ i = .int .i64 k ∧ sameTo ps qs k ∧ Below w.heap.size w wr) (fun i _ => ps.length - (intOf i).toNat)
    case atStart => exact ⟨0, Nat.zero_le _, rfl, fun i h h' hi => absurd hi (by omega), Below.refl _ w⟩
    case round =>
      obtain ⟨k, hk, rfl, hst, hbw⟩ := hrel
      by_cases hlt : k < ps.length
      · have hlt' : k < qs.length := by have := G.out; omega
        obtain ⟨b, off, rfl, hb, hc1, hc2⟩ := (hr.below hbw).at_ hlt
        obtain ⟨b', off', rfl, hb', hc3, hc4⟩ := (hr'.below hbw).at_ hlt'
        have HS := hid (sameTo_succ hst hlt hlt')
        have HN := hid (@same_no ps qs k hlt hlt')
        have HD := hid hbw
        clear hst hbw hr hr'
        have e5 : (0 : Int) ≤ (k : Int) := by omega
        have e6 : (k : Int) < (ps.length : Int) := by omega
        have e7 : (k : Int) < (qs.length : Int) := by omega
        by_cases he : ps[k] = qs[k]
        · have h3 : decide (ps[k] = qs[k]) = true := by simp [he]
          have HE := hid he
          clear he
          go_wp2_with fail
          go_region_held3 (fun w' => w'.cell? ⟨b, off + k * 2, none⟩ = some (.string ps[k].1) ∧ w'.cell? ⟨b, off + k * 2 + 1, none⟩ = some (.string ps[k].2) ∧ w'.cell? ⟨b', off' + k * 2, none⟩ = some (.string qs[k].1) ∧ w'.cell? ⟨b', off' + k * 2 + 1, none⟩ = some (.string qs[k].2)) (go_keep)
            (first | (go_at_call 157; refine (eqPair_any ps[k] qs[k] _).mono ?_; rintro e w' ⟨rfl, rfl⟩))
          go_wp2_with fail
          go_roundw
          case rel => exact ⟨k + 1, by omega, by go_num, HS.out HE.out, below2 HD.out HD.out.size⟩
          case measure => simp [intOf]; omega
        · have h3 : decide (ps[k] = qs[k]) = false := by simp [he]
          have HE := hid he
          clear he
          go_wp2_with fail
          go_region_held3 (fun w' => w'.cell? ⟨b, off + k * 2, none⟩ = some (.string ps[k].1) ∧ w'.cell? ⟨b, off + k * 2 + 1, none⟩ = some (.string ps[k].2) ∧ w'.cell? ⟨b', off' + k * 2, none⟩ = some (.string qs[k].1) ∧ w'.cell? ⟨b', off' + k * 2 + 1, none⟩ = some (.string qs[k].2)) (go_keep)
            (first | (go_at_call 157; refine (eqPair_any ps[k] qs[k] _).mono ?_; rintro e w' ⟨rfl, rfl⟩))
          go_wp2_with fail
          go_ret
          exact ⟨ret_bool (HN.out HE.out).symm, below2 HD.out HD.out.size⟩
      · obtain rfl : k = ps.length := by omega
        have HE : Hid (decide (ps = qs) = true) := by
          rw [Hid, decide_eq_true_eq]
          exact sameTo_end hst G.out
        have HD := hid hbw
        clear hst hbw hr hr'
        go_wp2_with fail
        go_ret
        exact ⟨ret_bool HE.out.symm, HD.out⟩
  · have g0 : ((ps.length : Int) != (qs.length : Int)) = true := by simp; omega
    have HN := hid (same_len g)
    clear g hr hr'
    go_enter Try.func138, Try.ntmps138
    go_wp2_with fail
    go_ret
    exact ⟨ret_bool HN.out.symm, Below.refl _ _⟩
end Go.Proofs.Ytaiehccpefjbfaa
