/-
  Marks in changes.
-/
import Derived.Test.YtoipcjdpfbgghabMarks
import Derived.Test.YtoipcjdpfbgghabNodeMarks
import Derived.Test.YtoipcjdpfbgghabChgKit
namespace Go.Proofs.Ytoipcjdpfbgghab
open Go.RowKit

/-- Changes that are marks. -/
def marksC : Nat → Nat → CS
  | 0, _ => []
  | n + 1, k => (mtxt k, mtxt (k + 1), decide ((k + 2) % 3 = 0)) :: marksC n (k + 3)
theorem marksC_len : ∀ n k : Nat, (marksC n k).length = n
  | 0, _ => rfl
  | n + 1, k => by simp [marksC, marksC_len n]
theorem marksC_get : ∀ (n k i : Nat) (h : i < (marksC n k).length), (marksC n k)[i] = (mtxt (k + 3 * i), mtxt (k + 3 * i + 1), decide ((k + 3 * i + 2) % 3 = 0))
  | 0, _, _, h => by simp [marksC] at h
  | n + 1, k, 0, _ => rfl
  | n + 1, k, i + 1, h => by
    have := marksC_get n (k + 3) i (by simpa [marksC] using h)
    simp only [marksC, List.getElem_cons_succ, this]
    rw [show k + 3 * (i + 1) = k + 3 + 3 * i by omega]
def cmark (k0 j : Nat) : Value := if j % 3 = 2 then .bool (decide ((k0 + j) % 3 = 0)) else .string (mtxt (k0 + j))
theorem cmark_0 (k j : Nat) : cmark k (j * 3) = .string (mtxt (k + j * 3)) := by unfold cmark; rw [if_neg (by omega)]
theorem cmark_1 (k j : Nat) : cmark k (j * 3 + 1) = .string (mtxt (k + (j * 3 + 1))) := by unfold cmark; rw [if_neg (by omega)]
theorem cmark_2 (k j : Nat) : cmark k (j * 3 + 2) = .bool (decide ((k + (j * 3 + 2)) % 3 = 0)) := by unfold cmark; rw [if_pos (by omega)]

/-- A row of whose cells m are marked. -/
def MarkedC (wr : World) (B g c n k0 m : Nat) : Prop :=
  ∃ xs, wr.ownsRow B 62 3 (.slice (some ⟨g, 0, none⟩) n c) n xs ∧ ∀ j, j < m → j < n * 3 → xs[j]? = some (cmark k0 j)
theorem MarkedC.grown {wr w' : World} {B g c n k0 m : Nat} (h : MarkedC wr B g c n k0 m) (hb : Below wr.heap.size wr w') : MarkedC w' B g c n k0 m := by
  obtain ⟨xs, ho, hx⟩ := h
  exact ⟨xs, ho.kept (below_grown hb) (.inr (by simp [Value.ownBlock])), hx⟩
theorem MarkedC.cell {wr : World} {B g c n k0 m : Nat} (h : MarkedC wr B g c n k0 m) {j : Nat} (hj : j < n * 3) : ∃ u, wr.cell? ⟨g, j, none⟩ = some u := by
  obtain ⟨xs, ho, hx⟩ := h
  have hl := ho.1
  exact ⟨_, (ho.cellAt j hj).trans (List.getElem?_eq_getElem (by omega))⟩
theorem MarkedC.frozen {wr : World} {B g c n k0 m : Nat} (h : MarkedC wr B g c n k0 m) (j : Nat) : wr.frozen? ⟨g, j, none⟩ = false := by
  obtain ⟨xs, ho, hx⟩ := h
  exact ho.frozenAt j
theorem MarkedC.store {wr : World} {B g c n k0 m : Nat} (h : MarkedC wr B g c n k0 m) (hm : m < n * 3) {v : Value} (hv : v = cmark k0 m) : MarkedC (wr.setCell ⟨g, m, none⟩ v) B g c n k0 (m + 1) := by
  subst hv
  obtain ⟨xs, ho, hx⟩ := h
  have hl := ho.1
  refine ⟨_, (ho.stored m (cmark k0 m)).1, fun j hj hn => ?_⟩
  by_cases e : j = m
  · subst e
    rw [List.getElem?_set_self (by omega)]
  · rw [List.getElem?_set_ne (by omega)]
    exact hx j (by omega) hn
theorem MarkedC.end_ {wr : World} {B g c n k0 : Nat} (h : MarkedC wr B g c n k0 (n * 3)) : wr.ownsRow B 62 3 (.slice (some ⟨g, 0, none⟩) n c) n (ccells (marksC n k0)) := by
  obtain ⟨xs, ho, hx⟩ := h
  have hl := ho.1
  have : xs = ccells (marksC n k0) := ccells_ext _ _ (by rw [hl, marksC_len]) fun i p hp => by
    obtain ⟨hi, rfl⟩ := List.getElem?_eq_some_iff.1 hp
    rw [marksC_get]
    rw [marksC_len] at hi
    refine ⟨?_, ?_, ?_⟩
    · rw [hx _ (by omega) (by omega), cmark_0, show k0 + i * 3 = k0 + 3 * i by omega]
    · rw [hx _ (by omega) (by omega), cmark_1, show k0 + (i * 3 + 1) = k0 + 3 * i + 1 by omega]
    · rw [hx _ (by omega) (by omega), cmark_2, show k0 + (i * 3 + 2) = k0 + 3 * i + 2 by omega]
  rwa [this] at ho

theorem mod3 (m : Nat) : (((m : Int) + 1 + 1) % 3 == 0) = decide ((m + 2) % 3 = 0) := by
  rw [Bool.eq_iff_iff, beq_iff_eq, decide_eq_true_eq]
  omega
/-- What markChangeS leaves. -/
def MarkCPost (B : Nat) (A : Option Addr) (c n k : Nat) (w : World) (e : Ending) (w' : World) : Prop :=
  e = .returned (.int .i64 ((k + 3 * n : Nat) : Int)) ∧ OwnC w' B A c (marksC n k) ∧ w.grownBy w' (Value.ownBlock (.slice A n c))
theorem ownC_of {w : World} {B n c : Nat} {A : Option Addr} {hs : CS} (hl : hs.length = n) (h : w.ownsRow B 62 3 (.slice A n c) n (ccells hs)) : OwnC w B A c hs := by
  subst hl; exact h

end Go.Proofs.Ytoipcjdpfbgghab
