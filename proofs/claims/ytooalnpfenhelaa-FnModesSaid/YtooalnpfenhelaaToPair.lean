/-
  Copies of pairs, as the exact laws make them.
-/
import Derived.Test.YtooalnpfenhelaaLawKit
namespace Go.Proofs.Ytooalnpfenhelaa
open Go.RowKit

theorem below3 {B : Nat} {w wr : World} {o o' o'' : Obj} (h : Below B w wr) (hB : B ≤ wr.heap.size) : Below B w (((wr.alloc o).alloc o').alloc o'') :=
  ((h.alloc hB o).alloc (by simp; omega) o').alloc (by simp; omega) o''

theorem pcells_ext : ∀ (ps : PS) (xs : List Value), xs.length = ps.length * 2 → (∀ (i : Nat) (p : BB), ps[i]? = some p → xs[i * 2]? = some (.string p.1) ∧ xs[i * 2 + 1]? = some (.string p.2)) → xs = pcells ps
  | [], xs, hl, _ => List.eq_nil_of_length_eq_zero (by simpa using hl)
  | p :: r, xs, hl, h => by
    match xs, hl with
    | a :: b :: t, hl =>
      have h0 := h 0 p rfl
      simp only [Nat.zero_mul, List.getElem?_cons_zero, Option.some.injEq, Nat.zero_add, List.getElem?_cons_succ] at h0
      rw [h0.1, h0.2, pcells]
      congr 2
      refine pcells_ext r t (by simp at hl ⊢; omega) fun i q hq => ?_
      have := h (i + 1) q (by simpa using hq)
      rw [show (i + 1) * 2 = i * 2 + 1 + 1 by omega] at this
      simpa using this
    | [a], hl => simp at hl; omega
    | [], hl => simp at hl
end Go.Proofs.Ytooalnpfenhelaa
