/-
  Marks in holds and locks: how the exact laws write into locks, and look whether it held.
-/
import Derived.Test.YtepgcflkgicpiaaHeld
import Derived.Test.YtepgcflkgicpiaaNodeMarks
import Derived.Test.YtepgcflkgicpiaaLockOwn
namespace Go.Proofs.Ytepgcflkgicpiaa
open Go.RowKit

/-- Holds that are marks. -/
def marksH : Nat → Nat → HS
  | 0, _ => []
  | n + 1, k => (((k : Nat) : Int), mtxt (k + 1), ((k + 2 : Nat) : Int)) :: marksH n (k + 3)
theorem marksH_len : ∀ n k : Nat, (marksH n k).length = n
  | 0, _ => rfl
  | n + 1, k => by simp [marksH, marksH_len n]
theorem marksH_get : ∀ (n k i : Nat) (h : i < (marksH n k).length), (marksH n k)[i] = (((k + 3 * i : Nat) : Int), mtxt (k + 3 * i + 1), ((k + 3 * i + 2 : Nat) : Int))
  | 0, _, _, h => by simp [marksH] at h
  | n + 1, k, 0, _ => rfl
  | n + 1, k, i + 1, h => by
    have := marksH_get n (k + 3) i (by simpa [marksH] using h)
    simp only [marksH, List.getElem_cons_succ, this]
    rw [show k + 3 * (i + 1) = k + 3 + 3 * i by omega]
def hmark (k0 j : Nat) : Value := if j % 3 = 1 then .string (mtxt (k0 + j)) else .int .i64 ((k0 + j : Nat) : Int)
theorem hmark_0 (k j : Nat) : hmark k (j * 3) = .int .i64 ((k + j * 3 : Nat) : Int) := by unfold hmark; rw [if_neg (by omega)]
theorem hmark_1 (k j : Nat) : hmark k (j * 3 + 1) = .string (mtxt (k + (j * 3 + 1))) := by unfold hmark; rw [if_pos (by omega)]
theorem hmark_2 (k j : Nat) : hmark k (j * 3 + 2) = .int .i64 ((k + (j * 3 + 2) : Nat) : Int) := by unfold hmark; rw [if_neg (by omega)]

/-- A row of whose cells m are marked. -/
def MarkedH (wr : World) (B g c n k0 m : Nat) : Prop :=
  ∃ xs, wr.ownsRow B 48 3 (.slice (some ⟨g, 0, none⟩) n c) n xs ∧ ∀ j, j < m → j < n * 3 → xs[j]? = some (hmark k0 j)
theorem MarkedH.grown {wr w' : World} {B g c n k0 m : Nat} (h : MarkedH wr B g c n k0 m) (hb : Below wr.heap.size wr w') : MarkedH w' B g c n k0 m := by
  obtain ⟨xs, ho, hx⟩ := h
  exact ⟨xs, ho.kept (below_grown hb) (.inr (by simp [Value.ownBlock])), hx⟩
theorem MarkedH.cell {wr : World} {B g c n k0 m : Nat} (h : MarkedH wr B g c n k0 m) {j : Nat} (hj : j < n * 3) : ∃ u, wr.cell? ⟨g, j, none⟩ = some u := by
  obtain ⟨xs, ho, hx⟩ := h
  have hl := ho.1
  exact ⟨_, (ho.cellAt j hj).trans (List.getElem?_eq_getElem (by omega))⟩
theorem MarkedH.frozen {wr : World} {B g c n k0 m : Nat} (h : MarkedH wr B g c n k0 m) (j : Nat) : wr.frozen? ⟨g, j, none⟩ = false := by
  obtain ⟨xs, ho, hx⟩ := h
  exact ho.frozenAt j
theorem MarkedH.store {wr : World} {B g c n k0 m : Nat} (h : MarkedH wr B g c n k0 m) (hm : m < n * 3) {v : Value} (hv : v = hmark k0 m) : MarkedH (wr.setCell ⟨g, m, none⟩ v) B g c n k0 (m + 1) := by
  subst hv
  obtain ⟨xs, ho, hx⟩ := h
  have hl := ho.1
  refine ⟨_, (ho.stored m (hmark k0 m)).1, fun j hj hn => ?_⟩
  by_cases e : j = m
  · subst e
    rw [List.getElem?_set_self (by omega)]
  · rw [List.getElem?_set_ne (by omega)]
    exact hx j (by omega) hn
theorem MarkedH.end_ {wr : World} {B g c n k0 : Nat} (h : MarkedH wr B g c n k0 (n * 3)) : wr.ownsRow B 48 3 (.slice (some ⟨g, 0, none⟩) n c) n (hcells (marksH n k0)) := by
  obtain ⟨xs, ho, hx⟩ := h
  have hl := ho.1
  have : xs = hcells (marksH n k0) := hcells_ext _ _ (by rw [hl, marksH_len]) fun i p hp => by
    obtain ⟨hi, rfl⟩ := List.getElem?_eq_some_iff.1 hp
    rw [marksH_get]
    rw [marksH_len] at hi
    refine ⟨?_, ?_, ?_⟩
    · rw [hx _ (by omega) (by omega), hmark_0, show k0 + i * 3 = k0 + 3 * i by omega]
    · rw [hx _ (by omega) (by omega), hmark_1, show k0 + (i * 3 + 1) = k0 + 3 * i + 1 by omega]
    · rw [hx _ (by omega) (by omega), hmark_2, show k0 + (i * 3 + 2) = k0 + 3 * i + 2 by omega]
  rwa [this] at ho

/-- What markHoldS leaves. -/
def MarkHPost (B : Nat) (A : Option Addr) (c n k : Nat) (w : World) (e : Ending) (w' : World) : Prop :=
  e = .returned (.int .i64 ((k + 3 * n : Nat) : Int)) ∧ OwnH w' B A c (marksH n k) ∧ w.grownBy w' (Value.ownBlock (.slice A n c))
theorem ownH_of {w : World} {B n c : Nat} {A : Option Addr} {hs : HS} (hl : hs.length = n) (h : w.ownsRow B 48 3 (.slice A n c) n (hcells hs)) : OwnH w B A c hs := by
  subst hl; exact h

set_option maxHeartbeats 1000000 in
set_option maxRecDepth 100000 in
theorem markHoldS_any (B : Nat) (A : Option Addr) (c : Nat) (ps : HS) (k : Nat) (w : World) (ho : OwnH w B A c ps) (hn : ps.length ≤ 2000000) (hk : k ≤ 10000000000000) :
    Calls Try.prog 83 #[.slice A ps.length c, .int .i64 (k : Int)] w (MarkHPost B A c ps.length k w) := by
  rcases ho.2 with ⟨hv, h0⟩ | ⟨g, cap, cur, hv, hg, hh, hnc, _⟩
  · injection hv with e1 e2 e3
    subst e1 e3
    obtain rfl : ps = [] := List.eq_nil_of_length_eq_zero h0
    clear h0 e2 ho
    go_enter Try.func83, Try.ntmps83
    go_wp2_with fail
    go_loopw [1, 5] (fun q i wr => i = .int .i64 0 ∧ q = .int .i64 (k : Int) ∧ wr = w) (fun _ _ _ => 0)
    case atStart => exact ⟨rfl, rfl, rfl⟩
    case round =>
      obtain ⟨rfl, rfl, rfl⟩ := hrel
      go_wp2_with fail
      go_ret
      exact ⟨rfl, World.ownsRow_nil _ _ _ _, ⟨rfl, rfl, rfl, Nat.le_refl _, fun _ _ _ => rfl⟩⟩
  · injection hv with e1 e2 e3
    subst e1 e3
    have hM : MarkedH w B g c ps.length k 0 := ⟨_, ho, fun j hj => absurd hj (by omega)⟩
    have HM := hid hM
    clear hM ho hh e2 hg
    generalize ps.length = n at *
    go_enter Try.func83, Try.ntmps83
    go_wp2_with fail
    go_loopw [1, 5] (fun q i wr => ∃ j m : Nat, j ≤ n ∧ m = k + 3 * j ∧ i = .int .i64 (j : Int) ∧ q = .int .i64 (m : Int) ∧ MarkedH wr B g c n k (j * 3) ∧ w.grownBy wr (some g)) (fun _ i _ => n - (intOf i).toNat)
    case atStart => exact ⟨0, k, Nat.zero_le _, rfl, rfl, rfl, HM.out, ⟨rfl, rfl, rfl, Nat.le_refl _, fun _ _ _ => rfl⟩⟩
    case round =>
      obtain ⟨j, m, hj, hm, rfl, rfl, hmk, hgr⟩ := hrel
      have HK := hid hmk
      have HG := hid hgr
      have HE := hid hm
      have hmb : m ≤ 10000006001000 := by omega
      clear hmk hgr hm
      by_cases hlt : j < n
      · have f0 := HK.out.frozen (j * 3)
        obtain ⟨u0, hu0⟩ := HK.out.cell (j := j * 3) (by omega)
        have HST0 : Hid (MarkedH (wr.setCell ⟨g, j * 3, none⟩ (.int .i64 (m : Int))) B g c n k (j * 3 + 1)) := HK.out.store (by omega) (by rw [hmark_0]; congr 1; have := HE.out; omega)
        go_wp2_with (first
          | (go_at_call 116; refine (markText_at _ (m + 1) _ (by omega) (by omega)).mono ?_; rintro e w1 ⟨rfl, hw1⟩; have HK1 := hid (HST0.out.grown hw1); have f1 := HK1.out.frozen (j * 3 + 1); have f2 := HK1.out.frozen (j * 3 + 2); obtain ⟨u1, hu1⟩ := HK1.out.cell (j := j * 3 + 1) (by omega); obtain ⟨u2, hu2⟩ := HK1.out.cell (j := j * 3 + 2) (by omega); have HG1 := hid (grown_trans (grown_trans HG.out (grown_set wr g (j * 3) _)) (grown_below hw1)); clear hw1 f0 hu0))
        refine ⟨⟨j + 1, m + 3, by omega, by have := HE.out; omega, by go_num, by go_num, by rw [show (j + 1) * 3 = j * 3 + 2 + 1 by omega]; exact (HK1.out.store (show j * 3 + 1 < n * 3 by omega) (by rw [hmark_1, show k + (j * 3 + 1) = m + 1 from by have := HE.out; omega])).store (by omega) (by rw [hmark_2]; congr 1; have := HE.out; omega), grown_trans (grown_trans HG1.out (grown_set w1 g (j * 3 + 1) _)) (grown_set _ g (j * 3 + 2) _)⟩, by simp [intOf]; omega⟩
      · obtain rfl : j = n := by omega
        go_wp2_with fail
        go_ret
        exact ⟨ret_int (by have := HE.out; omega), ownH_of (marksH_len _ _) HK.out.end_, HG.out⟩

set_option maxHeartbeats 1000000 in
set_option maxRecDepth 100000 in
theorem heldHoldS_any (A : Option Addr) (c n k : Nat) (w : World) (hr : RH w w.heap.size A (marksH n k)) (hn : n ≤ 2000000) (hk : k ≤ 10000000000000) :
    Calls Try.prog 84 #[.slice A n c, .int .i64 (k : Int)] w fun e w' => e = .returned (.int .i64 ((k + 3 * n : Nat) : Int)) ∧ Below w.heap.size w w' := by
  have HR := hid hr
  clear hr
  go_enter Try.func84, Try.ntmps84
  go_wp2_with fail
  go_loopw [1, 5] (fun q i wr => ∃ j m : Nat, j ≤ n ∧ m = k + 3 * j ∧ i = .int .i64 (j : Int) ∧ q = .int .i64 (m : Int) ∧ Below w.heap.size w wr) (fun _ i _ => n - (intOf i).toNat)
  case atStart => exact ⟨0, k, Nat.zero_le _, rfl, rfl, rfl, Below.refl _ _⟩
  case round =>
    obtain ⟨j, m, hj, hm, rfl, rfl, hbw⟩ := hrel
    have hmb : m ≤ 10000006001000 := by omega
    by_cases hlt : j < n
    · obtain ⟨b, off, rfl, hb, hc1, hc2, hc3⟩ := (HR.out.below hbw).at_ (k := j) (by rw [marksH_len]; exact hlt)
      rw [marksH_get] at hc1 hc2 hc3
      simp only [← hm] at hc1 hc2 hc3
      have HD := hid hbw
      have HE := hid hm
      have HW2 : Hid (∀ w2 : World, Below w.heap.size w w2 → w2.cell? ⟨b, off + j * 3 + 1, none⟩ = some (.string (mtxt (m + 1)))) := fun w2 h2 => (h2.cell (p := ⟨b, off + j * 3 + 1, none⟩) hb).trans ((hbw.cell (p := ⟨b, off + j * 3 + 1, none⟩) hb).symm.trans hc2)
      have HW3 : Hid (∀ w2 : World, Below w.heap.size w w2 → w2.cell? ⟨b, off + j * 3 + 2, none⟩ = some (.int .i64 ((m : Int) + 2))) := fun w2 h2 => (h2.cell (p := ⟨b, off + j * 3 + 2, none⟩) hb).trans ((hbw.cell (p := ⟨b, off + j * 3 + 2, none⟩) hb).symm.trans (hc3.trans (by congr 2)))
      clear hbw hm hc2 hc3
      have e5 : (0 : Int) ≤ (j : Int) := by omega
      have e6 : (j : Int) < (n : Int) := by omega
      have hself2 : ((mtxt (m + 1)).toList == (mtxt (m + 1)).toList) = true := by simp
      have hi1 : ((m : Int) != (m : Int)) = false := by simp
      have hi2 : ((m : Int) + 2 != (m : Int) + 2) = false := by simp
      have hi3 : ((m : Int) + 2 != (m : Int) + 1 + 1) = false := by simp; omega
      go_wp2_with fail
      have hc2 := HW2.out wr HD.out
      clear hc1
      go_region_held3 (fun w' => w'.cell? ⟨b, off + j * 3 + 1, none⟩ = some (.string (mtxt (m + 1)))) (go_keep)
        (first | (go_at_call 116; refine (markText_at _ (m + 1) _ (by omega) (by omega)).mono ?_; rintro e w1 ⟨rfl, hw1⟩; have hk1 : w1.cell? ⟨b, off + j * 3 + 1, none⟩ = some (.string (mtxt (m + 1))) := (hw1.cell (p := ⟨b, off + j * 3 + 1, none⟩) (by have := HD.out.size; simp; omega)).trans (by first | exact hc2 | go_simp); have HB1 := hid (HD.out.drew.trans (hw1.mono HD.out.size)); clear hw1))
      have hc3 := HW3.out w1 HB1.out
      clear hk1 hc2
      have hc3b := HW3.out _ (HB1.out.drew)
      go_wp2_with fail
      go_roundw
      case rel => exact ⟨j + 1, m + 3, by omega, by have := HE.out; omega, by go_num, by go_num, HB1.out⟩
      case measure => simp [intOf]; omega
    · obtain rfl : j = n := by omega
      have HE := hid hm
      have HD := hid hbw
      clear hbw hm
      go_wp2_with fail
      go_ret
      exact ⟨ret_int (by have := HE.out; omega), HD.out⟩
end Go.Proofs.Ytepgcflkgicpiaa
