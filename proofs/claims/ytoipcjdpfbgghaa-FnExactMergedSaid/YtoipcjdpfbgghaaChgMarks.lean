/-
  Marks in changes.
-/
import Derived.Test.YtoipcjdpfbgghaaMarks
import Derived.Test.YtoipcjdpfbgghaaNodeMarks
import Derived.Test.YtoipcjdpfbgghaaChgKit
namespace Go.Proofs.Ytoipcjdpfbgghaa
open Go.RowKit

/-- Changes that are marks. -/
def marksC : Nat → Nat → CS
  | 0, _ => []
  | n + 1, k => (mtxt k, mtxt (k + 1), decide ((k + 2) % 3 = 0)) :: marksC n (k + 3)
theorem marksC_len : ∀ n k : Nat, (marksC n k).length = n
  | 0, _ => rfl
  | n + 1, k => by simp [marksC, marksC_len n]
theorem marksC_get : ∀ (n k i : Nat) (h : i < (marksC n k).length), (marksC n k)[i] = (mtxt (k + 3 * i), mtxt (k + 3 * i + 1), decide ((k + 3 * i + 2) % 3 = 0))
  | 0, _, _, h => by simp [marksC] at h
  | n + 1, k, 0, _ => rfl
  | n + 1, k, i + 1, h => by
    have := marksC_get n (k + 3) i (by simpa [marksC] using h)
    simp only [marksC, List.getElem_cons_succ, this]
    rw [show k + 3 * (i + 1) = k + 3 + 3 * i by omega]
def cmark (k0 j : Nat) : Value := if j % 3 = 2 then .bool (decide ((k0 + j) % 3 = 0)) else .string (mtxt (k0 + j))
theorem cmark_0 (k j : Nat) : cmark k (j * 3) = .string (mtxt (k + j * 3)) := by unfold cmark; rw [if_neg (by omega)]
theorem cmark_1 (k j : Nat) : cmark k (j * 3 + 1) = .string (mtxt (k + (j * 3 + 1))) := by unfold cmark; rw [if_neg (by omega)]
theorem cmark_2 (k j : Nat) : cmark k (j * 3 + 2) = .bool (decide ((k + (j * 3 + 2)) % 3 = 0)) := by unfold cmark; rw [if_pos (by omega)]

/-- A row of whose cells m are marked. -/
def MarkedC (wr : World) (B g c n k0 m : Nat) : Prop :=
  ∃ xs, wr.ownsRow B 77 3 (.slice (some ⟨g, 0, none⟩) n c) n xs ∧ ∀ j, j < m → j < n * 3 → xs[j]? = some (cmark k0 j)
theorem MarkedC.grown {wr w' : World} {B g c n k0 m : Nat} (h : MarkedC wr B g c n k0 m) (hb : Below wr.heap.size wr w') : MarkedC w' B g c n k0 m := by
  obtain ⟨xs, ho, hx⟩ := h
  exact ⟨xs, ho.kept (below_grown hb) (.inr (by simp [Value.ownBlock])), hx⟩
theorem MarkedC.cell {wr : World} {B g c n k0 m : Nat} (h : MarkedC wr B g c n k0 m) {j : Nat} (hj : j < n * 3) : ∃ u, wr.cell? ⟨g, j, none⟩ = some u := by
  obtain ⟨xs, ho, hx⟩ := h
  have hl := ho.1
  exact ⟨_, (ho.cellAt j hj).trans (List.getElem?_eq_getElem (by omega))⟩
theorem MarkedC.frozen {wr : World} {B g c n k0 m : Nat} (h : MarkedC wr B g c n k0 m) (j : Nat) : wr.frozen? ⟨g, j, none⟩ = false := by
  obtain ⟨xs, ho, hx⟩ := h
  exact ho.frozenAt j
theorem MarkedC.store {wr : World} {B g c n k0 m : Nat} (h : MarkedC wr B g c n k0 m) (hm : m < n * 3) {v : Value} (hv : v = cmark k0 m) : MarkedC (wr.setCell ⟨g, m, none⟩ v) B g c n k0 (m + 1) := by
  subst hv
  obtain ⟨xs, ho, hx⟩ := h
  have hl := ho.1
  refine ⟨_, (ho.stored m (cmark k0 m)).1, fun j hj hn => ?_⟩
  by_cases e : j = m
  · subst e
    rw [List.getElem?_set_self (by omega)]
  · rw [List.getElem?_set_ne (by omega)]
    exact hx j (by omega) hn
theorem MarkedC.end_ {wr : World} {B g c n k0 : Nat} (h : MarkedC wr B g c n k0 (n * 3)) : wr.ownsRow B 77 3 (.slice (some ⟨g, 0, none⟩) n c) n (ccells (marksC n k0)) := by
  obtain ⟨xs, ho, hx⟩ := h
  have hl := ho.1
  have : xs = ccells (marksC n k0) := ccells_ext _ _ (by rw [hl, marksC_len]) fun i p hp => by
    obtain ⟨hi, rfl⟩ := List.getElem?_eq_some_iff.1 hp
    rw [marksC_get]
    rw [marksC_len] at hi
    refine ⟨?_, ?_, ?_⟩
    · rw [hx _ (by omega) (by omega), cmark_0, show k0 + i * 3 = k0 + 3 * i by omega]
    · rw [hx _ (by omega) (by omega), cmark_1, show k0 + (i * 3 + 1) = k0 + 3 * i + 1 by omega]
    · rw [hx _ (by omega) (by omega), cmark_2, show k0 + (i * 3 + 2) = k0 + 3 * i + 2 by omega]
  rwa [this] at ho

theorem mod3 (m : Nat) : (((m : Int) + 1 + 1) % 3 == 0) = decide ((m + 2) % 3 = 0) := by
  rw [Bool.eq_iff_iff, beq_iff_eq, decide_eq_true_eq]
  omega
/-- What markChangeS leaves. -/
def MarkCPost (B : Nat) (A : Option Addr) (c n k : Nat) (w : World) (e : Ending) (w' : World) : Prop :=
  e = .returned (.int .i64 ((k + 3 * n : Nat) : Int)) ∧ OwnC w' B A c (marksC n k) ∧ w.grownBy w' (Value.ownBlock (.slice A n c))
theorem ownC_of {w : World} {B n c : Nat} {A : Option Addr} {hs : CS} (hl : hs.length = n) (h : w.ownsRow B 77 3 (.slice A n c) n (ccells hs)) : OwnC w B A c hs := by
  subst hl; exact h

set_option maxHeartbeats 1000000 in
set_option maxRecDepth 100000 in
theorem markChangeS_any (B : Nat) (A : Option Addr) (c : Nat) (ps : CS) (k : Nat) (w : World) (ho : OwnC w B A c ps) (hn : ps.length ≤ 2000000) (hk : k ≤ 10000000000000) :
    Calls Try.prog 26 #[.slice A ps.length c, .int .i64 (k : Int)] w (MarkCPost B A c ps.length k w) := by
  rcases ho.2 with ⟨hv, h0⟩ | ⟨g, cap, cur, hv, hg, hh, hnc, _⟩
  · injection hv with e1 e2 e3
    subst e1 e3
    obtain rfl : ps = [] := List.eq_nil_of_length_eq_zero h0
    clear h0 e2 ho
    go_enter Try.func26, Try.ntmps26
    go_wp2_with fail
    go_loopw [1, 5] (fun q i wr => i = .int .i64 0 ∧ q = .int .i64 (k : Int) ∧ wr = w) (fun _ _ _ => 0)
    case atStart => exact ⟨rfl, rfl, rfl⟩
    case round =>
      obtain ⟨rfl, rfl, rfl⟩ := hrel
      go_wp2_with fail
      go_ret
      exact ⟨rfl, World.ownsRow_nil _ _ _ _, ⟨rfl, rfl, rfl, Nat.le_refl _, fun _ _ _ => rfl⟩⟩
  · injection hv with e1 e2 e3
    subst e1 e3
    have hM : MarkedC w B g c ps.length k 0 := ⟨_, ho, fun j hj => absurd hj (by omega)⟩
    have HM := hid hM
    clear hM ho hh e2 hg
    generalize ps.length = n at *
    go_enter Try.func26, Try.ntmps26
    go_wp2_with fail
    go_loopw [1, 5] (fun q i wr => ∃ j m : Nat, j ≤ n ∧ m = k + 3 * j ∧ i = .int .i64 (j : Int) ∧ q = .int .i64 (m : Int) ∧ MarkedC wr B g c n k (j * 3) ∧ w.grownBy wr (some g)) (fun _ i _ => n - (intOf i).toNat)
    case atStart => exact ⟨0, k, Nat.zero_le _, rfl, rfl, rfl, HM.out, ⟨rfl, rfl, rfl, Nat.le_refl _, fun _ _ _ => rfl⟩⟩
    case round =>
      obtain ⟨j, m, hj, hm, rfl, rfl, hmk, hgr⟩ := hrel
      have HK := hid hmk
      have HG := hid hgr
      have HE := hid hm
      have hmb : m ≤ 10000006001000 := by omega
      clear hmk hgr hm
      by_cases hlt : j < n
      · go_wp2_with (first
          | (go_at_call 71; (with_reducible refine (markText_at _ m _ rfl (by omega)).mono ?_); rintro e w1 ⟨rfl, hw1⟩; have HK1 := hid (HK.out.grown hw1); have f1 := HK1.out.frozen (j * 3); obtain ⟨u1, hu1⟩ := HK1.out.cell (j := j * 3) (by omega); have HG1 := hid (grown_trans HG.out (grown_below hw1)); clear hw1)
          | (go_at_call 71; refine (markText_at _ (m + 1) _ (by omega) (by omega)).mono ?_; rintro e w2 ⟨rfl, hw2⟩; have hst := HK1.out.store (v := .string (mtxt m)) (show j * 3 < n * 3 by omega) (by rw [cmark_0, show k + j * 3 = m from by have := HE.out; omega]); have HK2 := hid (hst.grown hw2); have HG2 := hid (grown_trans (grown_trans HG1.out (grown_set w1 g (j * 3) _)) (grown_below hw2)); have f2 := HK2.out.frozen (j * 3 + 1); obtain ⟨u2, hu2⟩ := HK2.out.cell (j := j * 3 + 1) (by omega); have f3 := HK2.out.frozen (j * 3 + 2); obtain ⟨u3, hu3⟩ := HK2.out.cell (j := j * 3 + 2) (by omega); clear hw2 hst))
        have hst := HK2.out.store (v := .string (mtxt (m + 1))) (show j * 3 + 1 < n * 3 by omega) (by rw [cmark_1, show k + (j * 3 + 1) = m + 1 from by have := HE.out; omega])
        have hst2 : MarkedC ((w2.setCell ⟨g, j * 3 + 1, none⟩ (.string (mtxt (m + 1)))).setCell ⟨g, j * 3 + 2, none⟩ (.bool (((m : Int) + 1 + 1) % 3 == 0))) B g c n k (j * 3 + 1 + 1 + 1) := hst.store (by omega) (by rw [show j * 3 + 1 + 1 = j * 3 + 2 by omega, cmark_2, show k + (j * 3 + 2) = m + 2 from by have := HE.out; omega, mod3 m])
        refine ⟨⟨j + 1, m + 3, by omega, by have := HE.out; omega, by go_num, by go_num, by rw [show (j + 1) * 3 = j * 3 + 1 + 1 + 1 by omega]; exact hst2, grown_trans (grown_trans HG2.out (grown_set w2 g (j * 3 + 1) _)) (grown_set _ g (j * 3 + 2) _)⟩, by simp [intOf]; omega⟩
      · obtain rfl : j = n := by omega
        go_wp2_with fail
        go_ret
        exact ⟨ret_int (by have := HE.out; omega), ownC_of (marksC_len _ _) HK.out.end_, HG.out⟩

set_option maxHeartbeats 1000000 in
set_option maxRecDepth 100000 in
theorem heldChangeS_any (A : Option Addr) (c n k : Nat) (w : World) (hr : RC w w.heap.size A (marksC n k)) (hn : n ≤ 2000000) (hk : k ≤ 10000000000000) :
    Calls Try.prog 27 #[.slice A n c, .int .i64 (k : Int)] w fun e w' => e = .returned (.int .i64 ((k + 3 * n : Nat) : Int)) ∧ Below w.heap.size w w' := by
  have HR := hid hr
  clear hr
  go_enter Try.func27, Try.ntmps27
  go_wp2_with fail
  go_loopw [1, 5] (fun q i wr => ∃ j m : Nat, j ≤ n ∧ m = k + 3 * j ∧ i = .int .i64 (j : Int) ∧ q = .int .i64 (m : Int) ∧ Below w.heap.size w wr) (fun _ i _ => n - (intOf i).toNat)
  case atStart => exact ⟨0, k, Nat.zero_le _, rfl, rfl, rfl, Below.refl _ _⟩
  case round =>
    obtain ⟨j, m, hj, hm, rfl, rfl, hbw⟩ := hrel
    have hmb : m ≤ 10000006001000 := by omega
    by_cases hlt : j < n
    · obtain ⟨b, off, rfl, hb, hc1, hc2, hc3⟩ := (HR.out.below hbw).at_ (k := j) (by rw [marksC_len]; exact hlt)
      rw [marksC_get] at hc1 hc2 hc3
      simp only [← hm] at hc1 hc2 hc3
      have HD := hid hbw
      have HE := hid hm
      have HW2 : Hid (∀ w2 : World, Below w.heap.size w w2 → w2.cell? ⟨b, off + j * 3 + 1, none⟩ = some (.string (mtxt (m + 1)))) := fun w2 h2 => (h2.cell (p := ⟨b, off + j * 3 + 1, none⟩) hb).trans ((hbw.cell (p := ⟨b, off + j * 3 + 1, none⟩) hb).symm.trans hc2)
      have HW3 : Hid (∀ w2 : World, Below w.heap.size w w2 → w2.cell? ⟨b, off + j * 3 + 2, none⟩ = some (.bool (((m : Int) + 1 + 1) % 3 == 0))) := by
        rw [← mod3 m] at hc3
        exact fun w2 h2 => (h2.cell (p := ⟨b, off + j * 3 + 2, none⟩) hb).trans ((hbw.cell (p := ⟨b, off + j * 3 + 2, none⟩) hb).symm.trans hc3)
      clear hbw hm hc2 hc3
      have e5 : (0 : Int) ≤ (j : Int) := by omega
      have e6 : (j : Int) < (n : Int) := by omega
      have hself : ((mtxt m).toList == (mtxt m).toList) = true := by simp
      have hself3 : ((((m : Int) + 1 + 1) % 3 == 0) != (((m : Int) + 1 + 1) % 3 == 0)) = false := by simp
      have hself2 : ((mtxt (m + 1)).toList == (mtxt (m + 1)).toList) = true := by simp
      go_wp2_with fail
      go_region_held3 (fun w' => w'.cell? ⟨b, off + j * 3, none⟩ = some (.string (mtxt m))) (go_keep)
        (first | (go_at_call 71; refine (markText_at _ m _ rfl (by omega)).mono ?_; rintro e w1 ⟨rfl, hw1⟩; have hk1 : w1.cell? ⟨b, off + j * 3, none⟩ = some (.string (mtxt m)) := (hw1.cell (p := ⟨b, off + j * 3, none⟩) (by have := HD.out.size; simp; omega)).trans (by first | exact hc1 | go_simp); have HB1 := hid (HD.out.drew.trans (hw1.mono HD.out.size)); clear hw1))
      have hc3 := HW2.out w1 HB1.out
      clear hk1 hc1
      go_wp2_with fail
      go_region_held3 (fun w' => w'.cell? ⟨b, off + j * 3 + 1, none⟩ = some (.string (mtxt (m + 1)))) (go_keep)
        (first | (go_at_call 71; refine (markText_at _ (m + 1) _ (by omega) (by omega)).mono ?_; rintro e w3 ⟨rfl, hw3⟩; have hk3 : w3.cell? ⟨b, off + j * 3 + 1, none⟩ = some (.string (mtxt (m + 1))) := (hw3.cell (p := ⟨b, off + j * 3 + 1, none⟩) (by have := HB1.out.size; simp; omega)).trans (by first | exact hc3 | go_simp); have HB3 := hid (HB1.out.drew.trans (hw3.mono HB1.out.size)); clear hw3))
      have hc5 := HW3.out w3 HB3.out
      have hc6 := HW3.out _ HB3.out.drew
      clear hk3 hc3
      go_wp2_with fail
      refine ⟨⟨j + 1, m + 3, by omega, by have := HE.out; omega, by go_num, by go_num, HB3.out⟩, by simp [intOf]; omega⟩
    · obtain rfl : j = n := by omega
      have HE := hid hm
      have HD := hid hbw
      clear hbw hm
      go_wp2_with fail
      go_ret
      exact ⟨ret_int (by have := HE.out; omega), HD.out⟩
end Go.Proofs.Ytoipcjdpfbgghaa
