/-
  Marks in edges; comparison of edges.
-/
import Derived.Test.YtepgcflkgicpiaaHoldMarks
import Derived.Test.YtepgcflkgicpiaaEdgeMem
namespace Go.Proofs.Ytepgcflkgicpiaa
open Go.RowKit

/-- Edges that are marks. -/
def marksE : Nat → Nat → ES
  | 0, _ => []
  | n + 1, k => (((k : Nat) : Int), ((k + 1 : Nat) : Int)) :: marksE n (k + 2)
theorem marksE_len : ∀ n k : Nat, (marksE n k).length = n
  | 0, _ => rfl
  | n + 1, k => by simp [marksE, marksE_len n]
theorem marksE_get : ∀ (n k i : Nat) (h : i < (marksE n k).length), (marksE n k)[i] = (((k + 2 * i : Nat) : Int), ((k + 2 * i + 1 : Nat) : Int))
  | 0, _, _, h => by simp [marksE] at h
  | n + 1, k, 0, _ => rfl
  | n + 1, k, i + 1, h => by
    have := marksE_get n (k + 2) i (by simpa [marksE] using h)
    simp only [marksE, List.getElem_cons_succ, this]
    rw [show k + 2 * (i + 1) = k + 2 + 2 * i by omega]
/-- A row of whose cells m are marked. -/
def MarkedE (wr : World) (B g c n k0 m : Nat) : Prop :=
  ∃ xs, wr.ownsRow B 59 2 (.slice (some ⟨g, 0, none⟩) n c) n xs ∧ ∀ j, j < m → j < n * 2 → xs[j]? = some (.int .i64 ((k0 + j : Nat) : Int))
theorem MarkedE.cell {wr : World} {B g c n k0 m : Nat} (h : MarkedE wr B g c n k0 m) {j : Nat} (hj : j < n * 2) : ∃ u, wr.cell? ⟨g, j, none⟩ = some u := by
  obtain ⟨xs, ho, hx⟩ := h
  have hl := ho.1
  exact ⟨_, (ho.cellAt j hj).trans (List.getElem?_eq_getElem (by omega))⟩
theorem MarkedE.frozen {wr : World} {B g c n k0 m : Nat} (h : MarkedE wr B g c n k0 m) (j : Nat) : wr.frozen? ⟨g, j, none⟩ = false := by
  obtain ⟨xs, ho, hx⟩ := h
  exact ho.frozenAt j
theorem MarkedE.store {wr : World} {B g c n k0 m : Nat} (h : MarkedE wr B g c n k0 m) (hm : m < n * 2) {v : Value} (hv : v = .int .i64 ((k0 + m : Nat) : Int)) : MarkedE (wr.setCell ⟨g, m, none⟩ v) B g c n k0 (m + 1) := by
  subst hv
  obtain ⟨xs, ho, hx⟩ := h
  have hl := ho.1
  refine ⟨_, (ho.stored m (.int .i64 ((k0 + m : Nat) : Int))).1, fun j hj hn => ?_⟩
  by_cases e : j = m
  · subst e
    rw [List.getElem?_set_self (by omega)]
  · rw [List.getElem?_set_ne (by omega)]
    exact hx j (by omega) hn
theorem MarkedE.end_ {wr : World} {B g c n k0 : Nat} (h : MarkedE wr B g c n k0 (n * 2)) : wr.ownsRow B 59 2 (.slice (some ⟨g, 0, none⟩) n c) n (ecells (marksE n k0)) := by
  obtain ⟨xs, ho, hx⟩ := h
  have hl := ho.1
  have : xs = ecells (marksE n k0) := ecells_ext _ _ (by rw [hl, marksE_len]) fun i p hp => by
    obtain ⟨hi, rfl⟩ := List.getElem?_eq_some_iff.1 hp
    rw [marksE_get]
    rw [marksE_len] at hi
    refine ⟨?_, ?_⟩
    · rw [hx _ (by omega) (by omega), show k0 + i * 2 = k0 + 2 * i by omega]
    · rw [hx _ (by omega) (by omega), show k0 + (i * 2 + 1) = k0 + 2 * i + 1 by omega]
  rwa [this] at ho
/-- What markEdgeS leaves. -/
def MarkEPost (B : Nat) (A : Option Addr) (c n k : Nat) (w : World) (e : Ending) (w' : World) : Prop :=
  e = .returned (.int .i64 ((k + 2 * n : Nat) : Int)) ∧ OwnE w' B A c (marksE n k) ∧ w.grownBy w' (Value.ownBlock (.slice A n c))
theorem ownE_of {w : World} {B n c : Nat} {A : Option Addr} {hs : ES} (hl : hs.length = n) (h : w.ownsRow B 59 2 (.slice A n c) n (ecells hs)) : OwnE w B A c hs := by
  subst hl; exact h

set_option maxHeartbeats 1000000 in
set_option maxRecDepth 100000 in
theorem markEdgeS_any (B : Nat) (A : Option Addr) (c : Nat) (ps : ES) (k : Nat) (w : World) (ho : OwnE w B A c ps) (hn : ps.length ≤ 2000000) (hk : k ≤ 10000000000000) :
    Calls Try.prog 28 #[.slice A ps.length c, .int .i64 (k : Int)] w (MarkEPost B A c ps.length k w) := by
  rcases ho.2 with ⟨hv, h0⟩ | ⟨g, cap, cur, hv, hg, hh, hnc, _⟩
  · injection hv with e1 e2 e3
    subst e1 e3
    obtain rfl : ps = [] := List.eq_nil_of_length_eq_zero h0
    clear h0 e2 ho
    go_enter Try.func28, Try.ntmps28
    go_wp2_with fail
    go_loopw [1, 5] (fun q i wr => i = .int .i64 0 ∧ q = .int .i64 (k : Int) ∧ wr = w) (fun _ _ _ => 0)
    case atStart => exact ⟨rfl, rfl, rfl⟩
    case round =>
      obtain ⟨rfl, rfl, rfl⟩ := hrel
      go_wp2_with fail
      go_ret
      exact ⟨rfl, World.ownsRow_nil _ _ _ _, ⟨rfl, rfl, rfl, Nat.le_refl _, fun _ _ _ => rfl⟩⟩
  · injection hv with e1 e2 e3
    subst e1 e3
    have hM : MarkedE w B g c ps.length k 0 := ⟨_, ho, fun j hj => absurd hj (by omega)⟩
    have HM := hid hM
    clear hM ho hh e2 hg
    generalize ps.length = n at *
    go_enter Try.func28, Try.ntmps28
    go_wp2_with fail
    go_loopw [1, 5] (fun q i wr => ∃ j m : Nat, j ≤ n ∧ m = k + 2 * j ∧ i = .int .i64 (j : Int) ∧ q = .int .i64 (m : Int) ∧ MarkedE wr B g c n k (j * 2) ∧ w.grownBy wr (some g)) (fun _ i _ => n - (intOf i).toNat)
    case atStart => exact ⟨0, k, Nat.zero_le _, rfl, rfl, rfl, HM.out, ⟨rfl, rfl, rfl, Nat.le_refl _, fun _ _ _ => rfl⟩⟩
    case round =>
      obtain ⟨j, m, hj, hm, rfl, rfl, hmk, hgr⟩ := hrel
      have HK := hid hmk
      have HG := hid hgr
      have HE := hid hm
      have hmb : m ≤ 10000006001000 := by omega
      clear hmk hgr hm
      by_cases hlt : j < n
      · have f0 := HK.out.frozen (j * 2)
        have f1 := HK.out.frozen (j * 2 + 1)
        obtain ⟨u0, hu0⟩ := HK.out.cell (j := j * 2) (by omega)
        obtain ⟨u1, hu1⟩ := HK.out.cell (j := j * 2 + 1) (by omega)
        go_wp2_with fail
        refine ⟨⟨j + 1, m + 2, by omega, by have := HE.out; omega, by go_num, by go_num, by rw [show (j + 1) * 2 = j * 2 + 1 + 1 by omega]; exact (HK.out.store (show j * 2 < n * 2 by omega) (by congr 1; have := HE.out; omega)).store (by omega) (by congr 1; have := HE.out; omega), grown_trans (grown_trans HG.out (grown_set wr g (j * 2) _)) (grown_set _ g (j * 2 + 1) _)⟩, by simp [intOf]; omega⟩
      · obtain rfl : j = n := by omega
        go_wp2_with fail
        go_ret
        exact ⟨ret_int (by have := HE.out; omega), ownE_of (marksE_len _ _) HK.out.end_, HG.out⟩

set_option maxHeartbeats 1000000 in
set_option maxRecDepth 100000 in
theorem heldEdgeS_any (A : Option Addr) (c n k : Nat) (w : World) (hr : RE w w.heap.size A (marksE n k)) (hn : n ≤ 2000000) (hk : k ≤ 10000000000000) :
    Calls Try.prog 29 #[.slice A n c, .int .i64 (k : Int)] w fun e w' => e = .returned (.int .i64 ((k + 2 * n : Nat) : Int)) ∧ Below w.heap.size w w' := by
  have HR := hid hr
  clear hr
  go_enter Try.func29, Try.ntmps29
  go_wp2_with fail
  go_loopw [1, 5] (fun q i wr => ∃ j m : Nat, j ≤ n ∧ m = k + 2 * j ∧ i = .int .i64 (j : Int) ∧ q = .int .i64 (m : Int) ∧ Below w.heap.size w wr) (fun _ i _ => n - (intOf i).toNat)
  case atStart => exact ⟨0, k, Nat.zero_le _, rfl, rfl, rfl, Below.refl _ _⟩
  case round =>
    obtain ⟨j, m, hj, hm, rfl, rfl, hbw⟩ := hrel
    have hmb : m ≤ 10000006001000 := by omega
    by_cases hlt : j < n
    · obtain ⟨b, off, rfl, hb, hc1, hc2⟩ := (HR.out.below hbw).at_ (k := j) (by rw [marksE_len]; exact hlt)
      rw [marksE_get] at hc1 hc2
      simp only [← hm] at hc1 hc2
      have hc3 : wr.cell? ⟨b, off + j * 2 + 1, none⟩ = some (.int .i64 ((m : Int) + 1)) := hc2.trans (by congr 2)
      have HD := hid hbw
      have HE := hid hm
      clear hbw hm hc2
      have e5 : (0 : Int) ≤ (j : Int) := by omega
      have e6 : (j : Int) < (n : Int) := by omega
      have hi1 : ((m : Int) != (m : Int)) = false := by simp
      have hi2 : ((m : Int) + 1 != (m : Int) + 1) = false := by simp
      go_wp2_with fail
      go_roundw
      case rel => exact ⟨j + 1, m + 2, by omega, by have := HE.out; omega, by go_num, by go_num, HD.out⟩
      case measure => simp [intOf]; omega
    · obtain rfl : j = n := by omega
      have HE := hid hm
      have HD := hid hbw
      clear hbw hm
      go_wp2_with fail
      go_ret
      exact ⟨ret_int (by have := HE.out; omega), HD.out⟩

theorem eqEdge_same (x : ED) (w : World) :
    Calls Try.prog 87 #[.agg #[.int .i64 x.1, .int .i64 x.2], .agg #[.int .i64 x.1, .int .i64 x.2]] w fun e w' => e = .returned (.bool true) ∧ w' = (w.alloc (.cells #[.int .i64 x.1, .int .i64 x.2] 59)).alloc (.cells #[.int .i64 x.1, .int .i64 x.2] 59) := by
  have g2 : (x.1 != x.1) = false := by simp
  have g3 : (x.2 != x.2) = false := by simp
  go_enter Try.func87, Try.ntmps87
  go_wp2
  go_ret
  exact ⟨rfl, rfl⟩

set_option maxHeartbeats 1000000 in
theorem eqEdgeS_same (A A' : Option Addr) (c c' : Nat) (hs : ES) (w : World) (hr : RE w w.heap.size A hs) (hr' : RE w w.heap.size A' hs) (hn : hs.length ≤ maxLen) :
    Calls Try.prog 27 #[.slice A hs.length c, .slice A' hs.length c'] w fun e w' => e = .returned (.bool true) ∧ Below w.heap.size w w' := by
  unfold maxLen at hn
  have g0 : ((hs.length : Int) != (hs.length : Int)) = false := by simp
  go_enter Try.func27, Try.ntmps27
  go_wp2_with fail
  go_loopw [5] (fun i wr => ∃ k : Nat, k ≤ hs.length ∧ i = .int .i64 k ∧ Below w.heap.size w wr) (fun i _ => hs.length - (intOf i).toNat)
  case atStart => exact ⟨0, Nat.zero_le _, rfl, Below.refl _ w⟩
  case round =>
    obtain ⟨k, hk, rfl, hbw⟩ := hrel
    by_cases hlt : k < hs.length
    · obtain ⟨b, off, rfl, hb, hc1, hc2⟩ := (hr.below hbw).at_ hlt
      obtain ⟨b', off', rfl, hb', hc4, hc5⟩ := (hr'.below hbw).at_ hlt
      have HD := hid hbw
      clear hbw hr hr'
      have e5 : (0 : Int) ≤ (k : Int) := by omega
      have e6 : (k : Int) < (hs.length : Int) := by omega
      go_wp2_with fail
      go_region_held3 (fun w' => w'.cell? ⟨b, off + k * 2, none⟩ = some (.int .i64 hs[k].1) ∧ w'.cell? ⟨b, off + k * 2 + 1, none⟩ = some (.int .i64 hs[k].2) ∧ w'.cell? ⟨b', off' + k * 2, none⟩ = some (.int .i64 hs[k].1) ∧ w'.cell? ⟨b', off' + k * 2 + 1, none⟩ = some (.int .i64 hs[k].2)) (go_keep)
        (first | (go_at_call 87; refine (eqEdge_same hs[k] _).mono ?_; rintro e w' ⟨rfl, rfl⟩))
      go_wp2_with fail
      go_roundw
      case rel => exact ⟨k + 1, by omega, by go_num, below2 HD.out HD.out.size⟩
      case measure => simp [intOf]; omega
    · obtain rfl : k = hs.length := by omega
      have HD := hid hbw
      clear hbw hr hr'
      go_wp2_with fail
      go_ret
      exact ⟨rfl, HD.out⟩
end Go.Proofs.Ytepgcflkgicpiaa
