/-
  Marks in ops (tools/mkdop.py).
-/
import Derived.Test.YtaiehccpefjbfaaMarks
import Derived.Test.YtaiehccpefjbfaaNodeMarks
import Derived.Test.YtaiehccpefjbfaaDopKit
namespace Go.Proofs.Ytaiehccpefjbfaa
open Go.RowKit

/-- Ops that are marks. -/
def marksD : Nat → Nat → DS
  | 0, _ => []
  | n + 1, k => ((k : Int), mtxt (k + 1), mtxt (k + 2), mtxt (k + 3)) :: marksD n (k + 4)
theorem marksD_len : ∀ n k : Nat, (marksD n k).length = n
  | 0, _ => rfl
  | n + 1, k => by simp [marksD, marksD_len n]
theorem marksD_get : ∀ (n k i : Nat) (h : i < (marksD n k).length), (marksD n k)[i] = (((k + 4 * i : Nat) : Int), mtxt (k + 4 * i + 1), mtxt (k + 4 * i + 2), mtxt (k + 4 * i + 3))
  | 0, _, _, h => by simp [marksD] at h
  | n + 1, k, 0, _ => rfl
  | n + 1, k, i + 1, h => by
    have := marksD_get n (k + 4) i (by simpa [marksD] using h)
    simp only [marksD, List.getElem_cons_succ, this]
    rw [show k + 4 * (i + 1) = k + 4 + 4 * i by omega]
def dmark (k0 j : Nat) : Value := if j % 4 = 0 then .int .i64 ((k0 + j : Nat) : Int) else .string (mtxt (k0 + j))
theorem dmark_0 (k j : Nat) : dmark k (j * 4) = .int .i64 ((k + j * 4 : Nat) : Int) := by unfold dmark; rw [if_pos (by omega)]
theorem dmark_1 (k j : Nat) : dmark k (j * 4 + 1) = .string (mtxt (k + (j * 4 + 1))) := by unfold dmark; rw [if_neg (by omega)]
theorem dmark_2 (k j : Nat) : dmark k (j * 4 + 2) = .string (mtxt (k + (j * 4 + 2))) := by unfold dmark; rw [if_neg (by omega)]
theorem dmark_3 (k j : Nat) : dmark k (j * 4 + 3) = .string (mtxt (k + (j * 4 + 3))) := by unfold dmark; rw [if_neg (by omega)]

/-- A row of whose cells m are marked. -/
def MarkedD (wr : World) (B g c n k0 m : Nat) : Prop :=
  ∃ xs, wr.ownsRow B 37 4 (.slice (some ⟨g, 0, none⟩) n c) n xs ∧ ∀ j, j < m → j < n * 4 → xs[j]? = some (dmark k0 j)
theorem MarkedD.grown {wr w' : World} {B g c n k0 m : Nat} (h : MarkedD wr B g c n k0 m) (hb : Below wr.heap.size wr w') : MarkedD w' B g c n k0 m := by
  obtain ⟨xs, ho, hx⟩ := h
  exact ⟨xs, ho.kept (below_grown hb) (.inr (by simp [Value.ownBlock])), hx⟩
theorem MarkedD.cell {wr : World} {B g c n k0 m : Nat} (h : MarkedD wr B g c n k0 m) {j : Nat} (hj : j < n * 4) : ∃ u, wr.cell? ⟨g, j, none⟩ = some u := by
  obtain ⟨xs, ho, hx⟩ := h
  have hl := ho.1
  exact ⟨_, (ho.cellAt j hj).trans (List.getElem?_eq_getElem (by omega))⟩
theorem MarkedD.frozen {wr : World} {B g c n k0 m : Nat} (h : MarkedD wr B g c n k0 m) (j : Nat) : wr.frozen? ⟨g, j, none⟩ = false := by
  obtain ⟨xs, ho, hx⟩ := h
  exact ho.frozenAt j
theorem MarkedD.store {wr : World} {B g c n k0 m : Nat} (h : MarkedD wr B g c n k0 m) (hm : m < n * 4) {v : Value} (hv : v = dmark k0 m) : MarkedD (wr.setCell ⟨g, m, none⟩ v) B g c n k0 (m + 1) := by
  subst hv
  obtain ⟨xs, ho, hx⟩ := h
  have hl := ho.1
  refine ⟨_, (ho.stored m (dmark k0 m)).1, fun j hj hn => ?_⟩
  by_cases e : j = m
  · subst e
    rw [List.getElem?_set_self (by omega)]
  · rw [List.getElem?_set_ne (by omega)]
    exact hx j (by omega) hn
theorem MarkedD.end_ {wr : World} {B g c n k0 : Nat} (h : MarkedD wr B g c n k0 (n * 4)) : wr.ownsRow B 37 4 (.slice (some ⟨g, 0, none⟩) n c) n (dcells (marksD n k0)) := by
  obtain ⟨xs, ho, hx⟩ := h
  have hl := ho.1
  have : xs = dcells (marksD n k0) := dcells_ext _ _ (by rw [hl, marksD_len]) fun i p hp => by
    obtain ⟨hi, rfl⟩ := List.getElem?_eq_some_iff.1 hp
    rw [marksD_get]
    rw [marksD_len] at hi
    refine ⟨?_, ?_, ?_, ?_⟩
    · rw [hx _ (by omega) (by omega), dmark_0, show k0 + i * 4 = k0 + 4 * i by omega]
    · rw [hx _ (by omega) (by omega), dmark_1, show k0 + (i * 4 + 1) = k0 + 4 * i + 1 by omega]
    · rw [hx _ (by omega) (by omega), dmark_2, show k0 + (i * 4 + 2) = k0 + 4 * i + 2 by omega]
    · rw [hx _ (by omega) (by omega), dmark_3, show k0 + (i * 4 + 3) = k0 + 4 * i + 3 by omega]
  rwa [this] at ho

/-- What markDOpS leaves. -/
def MarkDPost (B : Nat) (A : Option Addr) (c n k : Nat) (w : World) (e : Ending) (w' : World) : Prop :=
  e = .returned (.int .i64 ((k + 4 * n : Nat) : Int)) ∧ OwnD w' B A c (marksD n k) ∧ w.grownBy w' (Value.ownBlock (.slice A n c))
theorem ownD_of {w : World} {B n c : Nat} {A : Option Addr} {hs : DS} (hl : hs.length = n) (h : w.ownsRow B 37 4 (.slice A n c) n (dcells hs)) : OwnD w B A c hs := by
  subst hl; exact h

set_option maxHeartbeats 1000000 in
set_option maxRecDepth 100000 in
theorem markDOpS_any (B : Nat) (A : Option Addr) (c : Nat) (ps : DS) (k : Nat) (w : World) (ho : OwnD w B A c ps) (hn : ps.length ≤ 2000000) (hk : k ≤ 10000000000000) :
    Calls Try.prog 57 #[.slice A ps.length c, .int .i64 (k : Int)] w (MarkDPost B A c ps.length k w) := by
  rcases ho.2 with ⟨hv, h0⟩ | ⟨g, cap, cur, hv, hg, hh, hnc, _⟩
  · injection hv with e1 e2 e3
    subst e1 e3
    obtain rfl : ps = [] := List.eq_nil_of_length_eq_zero h0
    clear h0 e2 ho
    go_enter Try.func57, Try.ntmps57
    go_wp2_with fail
    go_loopw [1, 5] (fun q i wr => i = .int .i64 0 ∧ q = .int .i64 (k : Int) ∧ wr = w) (fun _ _ _ => 0)
    case atStart => exact ⟨rfl, rfl, rfl⟩
    case round =>
      obtain ⟨rfl, rfl, rfl⟩ := hrel
      go_wp2_with fail
      go_ret
      exact ⟨rfl, World.ownsRow_nil _ _ _ _, ⟨rfl, rfl, rfl, Nat.le_refl _, fun _ _ _ => rfl⟩⟩
  · injection hv with e1 e2 e3
    subst e1 e3
    have hM : MarkedD w B g c ps.length k 0 := ⟨_, ho, fun j hj => absurd hj (by omega)⟩
    have HM := hid hM
    clear hM ho hh e2 hg
    generalize ps.length = n at *
    go_enter Try.func57, Try.ntmps57
    go_wp2_with fail
    go_loopw [1, 5] (fun q i wr => ∃ j m : Nat, j ≤ n ∧ m = k + 4 * j ∧ i = .int .i64 (j : Int) ∧ q = .int .i64 (m : Int) ∧ MarkedD wr B g c n k (j * 4) ∧ w.grownBy wr (some g)) (fun _ i _ => n - (intOf i).toNat)
    case atStart => exact ⟨0, k, Nat.zero_le _, rfl, rfl, rfl, HM.out, ⟨rfl, rfl, rfl, Nat.le_refl _, fun _ _ _ => rfl⟩⟩
    case round =>
      obtain ⟨j, m, hj, hm, rfl, rfl, hmk, hgr⟩ := hrel
      have HK := hid hmk
      have HG := hid hgr
      have HE := hid hm
      have hmb : m ≤ 10000008001000 := by omega
      clear hmk hgr hm
      by_cases hlt : j < n
      · have f0 := HK.out.frozen (j * 4)
        obtain ⟨u0, hu0⟩ := HK.out.cell (j := j * 4) (by omega)
        have HST0 : Hid (MarkedD (wr.setCell ⟨g, j * 4, none⟩ (.int .i64 (m : Int))) B g c n k (j * 4 + 1)) := HK.out.store (by omega) (by rw [dmark_0]; congr 1; have := HE.out; omega)
        go_wp2_with (first
          | (go_at_call 110; (with_reducible refine (markText_at _ (m + 1) _ (by omega) (by omega)).mono ?_); rintro e w1 ⟨rfl, hw1⟩; have HK1 := hid (HST0.out.grown hw1); have f1 := HK1.out.frozen (j * 4 + 1); obtain ⟨u1, hu1⟩ := HK1.out.cell (j := j * 4 + 1) (by omega); have HG1 := hid (grown_trans (grown_trans HG.out (grown_set wr g (j * 4) _)) (grown_below hw1)); clear hw1 f0 hu0)
          | (go_at_call 110; (with_reducible refine (markText_at _ (m + 2) _ (by omega) (by omega)).mono ?_); rintro e w2 ⟨rfl, hw2⟩; have HK2 := hid ((HK1.out.store (v := .string (mtxt (m + 1))) (show j * 4 + 1 < n * 4 by omega) (by rw [dmark_1, show k + (j * 4 + 1) = m + 1 from by have := HE.out; omega])).grown hw2); have f2 := HK2.out.frozen (j * 4 + 2); obtain ⟨u2, hu2⟩ := HK2.out.cell (j := j * 4 + 2) (by omega); have HG2 := hid (grown_trans (grown_trans HG1.out (grown_set w1 g (j * 4 + 1) _)) (grown_below hw2)); clear hw2 f1 hu1)
          | (go_at_call 110; refine (markText_at _ (m + 3) _ (by omega) (by omega)).mono ?_; rintro e w3 ⟨rfl, hw3⟩; have HK3 := hid ((HK2.out.store (v := .string (mtxt (m + 2))) (show j * 4 + 1 + 1 < n * 4 by omega) (by rw [show j * 4 + 1 + 1 = j * 4 + 2 by omega, dmark_2, show k + (j * 4 + 2) = m + 2 from by have := HE.out; omega])).grown hw3); have f3 := HK3.out.frozen (j * 4 + 3); obtain ⟨u3, hu3⟩ := HK3.out.cell (j := j * 4 + 3) (by omega); have HG3 := hid (grown_trans (grown_trans HG2.out (grown_set w2 g (j * 4 + 2) _)) (grown_below hw3)); clear hw3 f2 hu2))
        refine ⟨⟨j + 1, m + 4, by omega, by have := HE.out; omega, by go_num, by go_num, by rw [show (j + 1) * 4 = j * 4 + 1 + 1 + 1 + 1 by omega]; exact HK3.out.store (v := .string (mtxt (m + 3))) (by omega) (by rw [show j * 4 + 1 + 1 + 1 = j * 4 + 3 by omega, dmark_3, show k + (j * 4 + 3) = m + 3 from by have := HE.out; omega]), grown_trans HG3.out (grown_set w3 g (j * 4 + 3) _)⟩, by simp [intOf]; omega⟩
      · obtain rfl : j = n := by omega
        go_wp2_with fail
        go_ret
        exact ⟨ret_int (by have := HE.out; omega), ownD_of (marksD_len _ _) HK.out.end_, HG.out⟩

set_option maxHeartbeats 1000000 in
set_option maxRecDepth 100000 in
theorem heldDOpS_any (A : Option Addr) (c n k : Nat) (w : World) (hr : RD w w.heap.size A (marksD n k)) (hn : n ≤ 2000000) (hk : k ≤ 10000000000000) :
    Calls Try.prog 59 #[.slice A n c, .int .i64 (k : Int)] w fun e w' => e = .returned (.int .i64 ((k + 4 * n : Nat) : Int)) ∧ Below w.heap.size w w' := by
  have HR := hid hr
  clear hr
  go_enter Try.func59, Try.ntmps59
  go_wp2_with fail
  go_loopw [1, 5] (fun q i wr => ∃ j m : Nat, j ≤ n ∧ m = k + 4 * j ∧ i = .int .i64 (j : Int) ∧ q = .int .i64 (m : Int) ∧ Below w.heap.size w wr) (fun _ i _ => n - (intOf i).toNat)
  case atStart => exact ⟨0, k, Nat.zero_le _, rfl, rfl, rfl, Below.refl _ _⟩
  case round =>
    obtain ⟨j, m, hj, hm, rfl, rfl, hbw⟩ := hrel
    have hmb : m ≤ 10000008001000 := by omega
    by_cases hlt : j < n
    · obtain ⟨b, off, rfl, hb, hc1, hc2, hc3, hc4⟩ := (HR.out.below hbw).at_ (k := j) (by rw [marksD_len]; exact hlt)
      rw [marksD_get] at hc1 hc2 hc3 hc4
      simp only [← hm] at hc1 hc2 hc3 hc4
      have HD := hid hbw
      have HE := hid hm
      have HW1 : Hid (∀ w2 : World, Below w.heap.size w w2 → w2.cell? ⟨b, off + j * 4 + 1, none⟩ = some (.string (mtxt (m + 1)))) := fun w2 h2 => (h2.cell (p := ⟨b, off + j * 4 + 1, none⟩) hb).trans ((hbw.cell (p := ⟨b, off + j * 4 + 1, none⟩) hb).symm.trans hc2)
      have HW2 : Hid (∀ w2 : World, Below w.heap.size w w2 → w2.cell? ⟨b, off + j * 4 + 2, none⟩ = some (.string (mtxt (m + 2)))) := fun w2 h2 => (h2.cell (p := ⟨b, off + j * 4 + 2, none⟩) hb).trans ((hbw.cell (p := ⟨b, off + j * 4 + 2, none⟩) hb).symm.trans hc3)
      have HW3 : Hid (∀ w2 : World, Below w.heap.size w w2 → w2.cell? ⟨b, off + j * 4 + 3, none⟩ = some (.string (mtxt (m + 3)))) := fun w2 h2 => (h2.cell (p := ⟨b, off + j * 4 + 3, none⟩) hb).trans ((hbw.cell (p := ⟨b, off + j * 4 + 3, none⟩) hb).symm.trans hc4)
      clear hbw hm hc2 hc3 hc4
      have e5 : (0 : Int) ≤ (j : Int) := by omega
      have e6 : (j : Int) < (n : Int) := by omega
      have hself1 : ((mtxt (m + 1)).toList == (mtxt (m + 1)).toList) = true := by simp
      have hself2 : ((mtxt (m + 2)).toList == (mtxt (m + 2)).toList) = true := by simp
      have hself3 : ((mtxt (m + 3)).toList == (mtxt (m + 3)).toList) = true := by simp
      have hi1 : ((m : Int) != (m : Int)) = false := by simp
      go_wp2_with fail
      have hx1 := HW1.out wr HD.out
      clear hc1
      go_region_held3 (fun w' => w'.cell? ⟨b, off + j * 4 + 1, none⟩ = some (.string (mtxt (m + 1)))) (go_keep)
        (first | (go_at_call 110; refine (markText_at _ (m + 1) _ (by omega) (by omega)).mono ?_; rintro e w1 ⟨rfl, hw1⟩; have hk1 : w1.cell? ⟨b, off + j * 4 + 1, none⟩ = some (.string (mtxt (m + 1))) := (hw1.cell (p := ⟨b, off + j * 4 + 1, none⟩) (by have := HD.out.size; simp; omega)).trans (by first | exact hx1 | go_simp); have HB1 := hid (HD.out.drew.trans (hw1.mono HD.out.size)); clear hw1))
      have hx2 := HW2.out w1 HB1.out
      clear hk1 hx1
      go_wp2_with fail
      go_region_held3 (fun w' => w'.cell? ⟨b, off + j * 4 + 2, none⟩ = some (.string (mtxt (m + 2)))) (go_keep)
        (first | (go_at_call 110; refine (markText_at _ (m + 2) _ (by omega) (by omega)).mono ?_; rintro e w3 ⟨rfl, hw3⟩; have hk2 : w3.cell? ⟨b, off + j * 4 + 2, none⟩ = some (.string (mtxt (m + 2))) := (hw3.cell (p := ⟨b, off + j * 4 + 2, none⟩) (by have := HB1.out.size; simp; omega)).trans (by first | exact hx2 | go_simp); have HB3 := hid (HB1.out.drew.trans (hw3.mono HB1.out.size)); clear hw3))
      have hx3 := HW3.out w3 HB3.out
      clear hk2 hx2
      go_wp2_with fail
      go_region_held3 (fun w' => w'.cell? ⟨b, off + j * 4 + 3, none⟩ = some (.string (mtxt (m + 3)))) (go_keep)
        (first | (go_at_call 110; refine (markText_at _ (m + 3) _ (by omega) (by omega)).mono ?_; rintro e w5 ⟨rfl, hw5⟩; have hk3 : w5.cell? ⟨b, off + j * 4 + 3, none⟩ = some (.string (mtxt (m + 3))) := (hw5.cell (p := ⟨b, off + j * 4 + 3, none⟩) (by have := HB3.out.size; simp; omega)).trans (by first | exact hx3 | go_simp); have HB5 := hid (HB3.out.drew.trans (hw5.mono HB3.out.size)); clear hw5))
      clear hk3 hx3
      go_wp2_with fail
      refine ⟨⟨j + 1, m + 4, by omega, by have := HE.out; omega, by go_num, by go_num, HB5.out⟩, by simp [intOf]; omega⟩
    · obtain rfl : j = n := by omega
      have HE := hid hm
      have HD := hid hbw
      clear hbw hm
      go_wp2_with fail
      go_ret
      exact ⟨ret_int (by have := HE.out; omega), HD.out⟩
end Go.Proofs.Ytaiehccpefjbfaa
