/-
  Blocks of three cells that a call made.
-/
import Derived.Test.YtepgcflkgicpiaaInts
namespace Go.Proofs.Ytepgcflkgicpiaa
open Go.RowKit

/-- A block of three cells, made by the call. -/
def Row3 (w : World) (g : Nat) (t : TypeId) (a b c : Value) : Prop := w.ownsRow g t 1 (.slice (some ⟨g, 0, none⟩) 3 3) 3 [a, b, c]
section
variable {w w' : World} {g : Nat} {t : TypeId} {a b c : Value}
theorem Row3.lit (w : World) (t : TypeId) (a b c : Value) : Row3 (w.alloc (.cells #[a, b, c] t)) w.heap.size t a b c :=
  World.ownsRow_lit w #[a, b, c] 3 (Nat.le_refl _) (by unfold maxLen; omega) rfl
theorem Row3.below (h : Row3 w g t a b c) (hb : Below w.heap.size w w') : Row3 w' g t a b c := h.kept (below_grown hb) (.inr (by simp [Value.ownBlock]))
theorem Row3.c0 (h : Row3 w g t a b c) : w.cell? ⟨g, 0, none⟩ = some a := h.cellAt 0 (by omega)
theorem Row3.c1 (h : Row3 w g t a b c) : w.cell? ⟨g, 1, none⟩ = some b := h.cellAt 1 (by omega)
theorem Row3.c2 (h : Row3 w g t a b c) : w.cell? ⟨g, 2, none⟩ = some c := h.cellAt 2 (by omega)
theorem Row3.fz (h : Row3 w g t a b c) (j : Nat) : w.frozen? ⟨g, j, none⟩ = false := h.frozenAt j
theorem Row3.s0 (h : Row3 w g t a b c) (v : Value) : Row3 (w.setCell ⟨g, 0, none⟩ v) g t v b c := (h.stored 0 v).1
theorem Row3.s1 (h : Row3 w g t a b c) (v : Value) : Row3 (w.setCell ⟨g, 1, none⟩ v) g t a v c := (h.stored 1 v).1
theorem Row3.s2 (h : Row3 w g t a b c) (v : Value) : Row3 (w.setCell ⟨g, 2, none⟩ v) g t a b v := (h.stored 2 v).1
theorem Row3.other (h : Row3 w g t a b c) {g' : Nat} {t' : TypeId} {a' b' c' : Value} (h' : Row3 w g' t' a' b' c') (hne : g ≠ g') (j : Nat) (v : Value) : Row3 (w.setCell ⟨g', j, none⟩ v) g t a b c :=
  h.kept (h'.stored j v).2 (.inr (by simp [Value.ownBlock]; omega))
end
theorem rows_three (w : World) (o : Obj) (t : TypeId) (a b c a' b' c' : Value) :
    Row3 (((w.alloc o).alloc (.cells #[a, b, c] t)).alloc (.cells #[a', b', c'] t)) (w.heap.size + 1) t a b c ∧ Row3 (((w.alloc o).alloc (.cells #[a, b, c] t)).alloc (.cells #[a', b', c'] t)) (w.heap.size + 1 + 1) t a' b' c' ∧
      Below w.heap.size w (((w.alloc o).alloc (.cells #[a, b, c] t)).alloc (.cells #[a', b', c'] t)) := by
  have h1 := Row3.lit (w.alloc o) t a b c
  have h2 := Row3.lit ((w.alloc o).alloc (.cells #[a, b, c] t)) t a' b' c'
  simp only [World.size_alloc] at h1 h2
  exact ⟨h1.below ((Below.refl _ _).alloc (Nat.le_refl _) _), h2, below3 (Below.refl _ _) (Nat.le_refl _)⟩
theorem world_post {P : Program} {F : Func} {post : Ending → World → Prop} {x : Exit} {a : Act} {S : World → Prop} (wx : World) (h : S wx) (k : ∀ wq, S wq → bodyPost P F post x a wq) : bodyPost P F post x a wx := k wx h
end Go.Proofs.Ytepgcflkgicpiaa
