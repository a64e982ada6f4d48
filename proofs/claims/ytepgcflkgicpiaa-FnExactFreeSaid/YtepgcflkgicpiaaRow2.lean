/-
  Blocks of two cells that a call made.
-/
import Derived.Test.YtepgcflkgicpiaaOwnMore
namespace Go.Proofs.Ytepgcflkgicpiaa
open Go.RowKit

/-- A block of two cells, made by the call. -/
def Row2 (w : World) (g : Nat) (t : TypeId) (a b : Value) : Prop := w.ownsRow g t 1 (.slice (some ⟨g, 0, none⟩) 2 2) 2 [a, b]
section
variable {w w' : World} {g : Nat} {t : TypeId} {a b : Value}
theorem Row2.lit (w : World) (t : TypeId) (a b : Value) : Row2 (w.alloc (.cells #[a, b] t)) w.heap.size t a b :=
  World.ownsRow_lit w #[a, b] 2 (Nat.le_refl _) (by unfold maxLen; omega) rfl
theorem Row2.below (h : Row2 w g t a b) (hb : Below w.heap.size w w') : Row2 w' g t a b := h.kept (below_grown hb) (.inr (by simp [Value.ownBlock]))
theorem Row2.c0 (h : Row2 w g t a b) : w.cell? ⟨g, 0, none⟩ = some a := h.cellAt 0 (by omega)
theorem Row2.c1 (h : Row2 w g t a b) : w.cell? ⟨g, 1, none⟩ = some b := h.cellAt 1 (by omega)
theorem Row2.fz (h : Row2 w g t a b) (j : Nat) : w.frozen? ⟨g, j, none⟩ = false := h.frozenAt j
theorem Row2.s0 (h : Row2 w g t a b) (v : Value) : Row2 (w.setCell ⟨g, 0, none⟩ v) g t v b := (h.stored 0 v).1
theorem Row2.s1 (h : Row2 w g t a b) (v : Value) : Row2 (w.setCell ⟨g, 1, none⟩ v) g t a v := (h.stored 1 v).1
theorem Row2.other (h : Row2 w g t a b) {g' : Nat} {t' : TypeId} {a' b' : Value} (h' : Row2 w g' t' a' b') (hne : g ≠ g') (j : Nat) (v : Value) : Row2 (w.setCell ⟨g', j, none⟩ v) g t a b :=
  h.kept (h'.stored j v).2 (.inr (by simp [Value.ownBlock]; omega))
theorem Row2.lt (h : Row2 w g t a b) : g < w.heap.size := (World.ownsRow.lt h g rfl).2
theorem OwnP.set2 {B c : Nat} {A : Option Addr} {ps : PS} (h : OwnP w B A c ps) (h' : Row2 w g t a b) (hg : g < B) (j : Nat) (v : Value) : OwnP (w.setCell ⟨g, j, none⟩ v) B A c ps := by
  refine h.kept (h'.stored j v).2 ?_
  rcases h.2 with ⟨hv, _⟩ | ⟨g2, cap, cur, hv, hb, _⟩
  · left
    rw [hv]; rfl
  · right
    rw [hv]
    simp [Value.ownBlock]
    omega
theorem OwnI.set2 {B c : Nat} {A : Option Addr} {ps : List Int} (h : OwnI w B A c ps) (h' : Row2 w g t a b) (hg : g < B) (j : Nat) (v : Value) : OwnI (w.setCell ⟨g, j, none⟩ v) B A c ps := by
  refine h.kept (h'.stored j v).2 ?_
  rcases h.2 with ⟨hv, _⟩ | ⟨g2, cap, cur, hv, hb, _⟩
  · left
    rw [hv]; rfl
  · right
    rw [hv]
    simp [Value.ownBlock]
    omega
end
theorem rows_two (w : World) (o : Obj) (t : TypeId) (a b a' b' : Value) :
    Row2 (((w.alloc o).alloc (.cells #[a, b] t)).alloc (.cells #[a', b'] t)) (w.heap.size + 1) t a b ∧ Row2 (((w.alloc o).alloc (.cells #[a, b] t)).alloc (.cells #[a', b'] t)) (w.heap.size + 1 + 1) t a' b' ∧
      Below w.heap.size w (((w.alloc o).alloc (.cells #[a, b] t)).alloc (.cells #[a', b'] t)) := by
  have h1 := Row2.lit (w.alloc o) t a b
  have h2 := Row2.lit ((w.alloc o).alloc (.cells #[a, b] t)) t a' b'
  simp only [World.size_alloc] at h1 h2
  exact ⟨h1.below ((Below.refl _ _).alloc (Nat.le_refl _) _), h2, below3 (Below.refl _ _) (Nat.le_refl _)⟩
end Go.Proofs.Ytepgcflkgicpiaa
