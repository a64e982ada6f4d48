/-
  Blocks of three cells that a call made.
  Rows that a call made: what they are worth elsewhere.
  Blocks of two cells that a call made.
-/
import Derived.Test.YtaiehccpefjbfaaInts
namespace Go.Proofs.Ytaiehccpefjbfaa
open Go.RowKit

/-- A block of three cells, made by the call. -/
def Row3 (w : World) (g : Nat) (t : TypeId) (a b c : Value) : Prop := w.ownsRow g t 1 (.slice (some ⟨g, 0, none⟩) 3 3) 3 [a, b, c]
section
variable {w w' : World} {g : Nat} {t : TypeId} {a b c : Value}
theorem Row3.lit (w : World) (t : TypeId) (a b c : Value) : Row3 (w.alloc (.cells #[a, b, c] t)) w.heap.size t a b c :=
  World.ownsRow_lit w #[a, b, c] 3 (Nat.le_refl _) (by unfold maxLen; omega) rfl
theorem Row3.below (h : Row3 w g t a b c) (hb : Below w.heap.size w w') : Row3 w' g t a b c := h.kept (below_grown hb) (.inr (by simp [Value.ownBlock]))
theorem Row3.c0 (h : Row3 w g t a b c) : w.cell? ⟨g, 0, none⟩ = some a := h.cellAt 0 (by omega)
theorem Row3.c1 (h : Row3 w g t a b c) : w.cell? ⟨g, 1, none⟩ = some b := h.cellAt 1 (by omega)
theorem Row3.c2 (h : Row3 w g t a b c) : w.cell? ⟨g, 2, none⟩ = some c := h.cellAt 2 (by omega)
theorem Row3.fz (h : Row3 w g t a b c) (j : Nat) : w.frozen? ⟨g, j, none⟩ = false := h.frozenAt j
theorem Row3.s0 (h : Row3 w g t a b c) (v : Value) : Row3 (w.setCell ⟨g, 0, none⟩ v) g t v b c := (h.stored 0 v).1
theorem Row3.s1 (h : Row3 w g t a b c) (v : Value) : Row3 (w.setCell ⟨g, 1, none⟩ v) g t a v c := (h.stored 1 v).1
theorem Row3.s2 (h : Row3 w g t a b c) (v : Value) : Row3 (w.setCell ⟨g, 2, none⟩ v) g t a b v := (h.stored 2 v).1
theorem Row3.other (h : Row3 w g t a b c) {g' : Nat} {t' : TypeId} {a' b' c' : Value} (h' : Row3 w g' t' a' b' c') (hne : g ≠ g') (j : Nat) (v : Value) : Row3 (w.setCell ⟨g', j, none⟩ v) g t a b c :=
  h.kept (h'.stored j v).2 (.inr (by simp [Value.ownBlock]; omega))
end
theorem rows_three (w : World) (o : Obj) (t : TypeId) (a b c a' b' c' : Value) :
    Row3 (((w.alloc o).alloc (.cells #[a, b, c] t)).alloc (.cells #[a', b', c'] t)) (w.heap.size + 1) t a b c ∧ Row3 (((w.alloc o).alloc (.cells #[a, b, c] t)).alloc (.cells #[a', b', c'] t)) (w.heap.size + 1 + 1) t a' b' c' ∧
      Below w.heap.size w (((w.alloc o).alloc (.cells #[a, b, c] t)).alloc (.cells #[a', b', c'] t)) := by
  have h1 := Row3.lit (w.alloc o) t a b c
  have h2 := Row3.lit ((w.alloc o).alloc (.cells #[a, b, c] t)) t a' b' c'
  simp only [World.size_alloc] at h1 h2
  exact ⟨h1.below ((Below.refl _ _).alloc (Nat.le_refl _) _), h2, below3 (Below.refl _ _) (Nat.le_refl _)⟩
theorem world_post {P : Program} {F : Func} {post : Ending → World → Prop} {x : Exit} {a : Act} {S : World → Prop} (wx : World) (h : S wx) (k : ∀ wq, S wq → bodyPost P F post x a wq) : bodyPost P F post x a wx := k wx h
end Go.Proofs.Ytaiehccpefjbfaa
namespace Go.Proofs.Ytaiehccpefjbfaa
open Go.RowKit

theorem OwnI.cap {w : World} {B : Nat} {K : Option Addr} {d : Nat} {ks : List Int} (h : OwnI w B K d ks) : ks.length ≤ d ∧ d ≤ maxLen := by
  rcases h.2 with ⟨hv, hn⟩ | ⟨g, cap, cur, hv, _, _, h1, h2, _⟩
  · injection hv with _ _ hd
    exact ⟨by omega, by omega⟩
  · injection hv with _ _ hd
    exact ⟨by omega, by omega⟩
theorem OwnP.mono' {w : World} {B B' c : Nat} {A : Option Addr} {ps : PS} (h : OwnP w B A c ps) (hB : B' ≤ B) : OwnP w B' A c ps := by
  refine ⟨h.1, ?_⟩
  rcases h.2 with hn | ⟨g, cap, cur, hv, hb, rest⟩
  · exact .inl hn
  · exact .inr ⟨g, cap, cur, hv, by omega, rest⟩
theorem OwnI.mono {w : World} {B B' c : Nat} {A : Option Addr} {ps : List Int} (h : OwnI w B A c ps) (hB : B' ≤ B) : OwnI w B' A c ps := by
  refine ⟨h.1, ?_⟩
  rcases h.2 with hn | ⟨g, cap, cur, hv, hb, rest⟩
  · exact .inl hn
  · exact .inr ⟨g, cap, cur, hv, by omega, rest⟩
end Go.Proofs.Ytaiehccpefjbfaa
namespace Go.Proofs.Ytaiehccpefjbfaa
open Go.RowKit

/-- A block of two cells, made by the call. -/
def Row2 (w : World) (g : Nat) (t : TypeId) (a b : Value) : Prop := w.ownsRow g t 1 (.slice (some ⟨g, 0, none⟩) 2 2) 2 [a, b]
section
variable {w w' : World} {g : Nat} {t : TypeId} {a b : Value}
theorem Row2.lit (w : World) (t : TypeId) (a b : Value) : Row2 (w.alloc (.cells #[a, b] t)) w.heap.size t a b :=
  World.ownsRow_lit w #[a, b] 2 (Nat.le_refl _) (by unfold maxLen; omega) rfl
theorem Row2.below (h : Row2 w g t a b) (hb : Below w.heap.size w w') : Row2 w' g t a b := h.kept (below_grown hb) (.inr (by simp [Value.ownBlock]))
theorem Row2.c0 (h : Row2 w g t a b) : w.cell? ⟨g, 0, none⟩ = some a := h.cellAt 0 (by omega)
theorem Row2.c1 (h : Row2 w g t a b) : w.cell? ⟨g, 1, none⟩ = some b := h.cellAt 1 (by omega)
theorem Row2.fz (h : Row2 w g t a b) (j : Nat) : w.frozen? ⟨g, j, none⟩ = false := h.frozenAt j
theorem Row2.s0 (h : Row2 w g t a b) (v : Value) : Row2 (w.setCell ⟨g, 0, none⟩ v) g t v b := (h.stored 0 v).1
theorem Row2.s1 (h : Row2 w g t a b) (v : Value) : Row2 (w.setCell ⟨g, 1, none⟩ v) g t a v := (h.stored 1 v).1
theorem Row2.other (h : Row2 w g t a b) {g' : Nat} {t' : TypeId} {a' b' : Value} (h' : Row2 w g' t' a' b') (hne : g ≠ g') (j : Nat) (v : Value) : Row2 (w.setCell ⟨g', j, none⟩ v) g t a b :=
  h.kept (h'.stored j v).2 (.inr (by simp [Value.ownBlock]; omega))
theorem Row2.lt (h : Row2 w g t a b) : g < w.heap.size := (World.ownsRow.lt h g rfl).2
theorem OwnP.set2 {B c : Nat} {A : Option Addr} {ps : PS} (h : OwnP w B A c ps) (h' : Row2 w g t a b) (hg : g < B) (j : Nat) (v : Value) : OwnP (w.setCell ⟨g, j, none⟩ v) B A c ps := by
  refine h.kept (h'.stored j v).2 ?_
  rcases h.2 with ⟨hv, _⟩ | ⟨g2, cap, cur, hv, hb, _⟩
  · left
    rw [hv]; rfl
  · right
    rw [hv]
    simp [Value.ownBlock]
    omega
theorem OwnI.set2 {B c : Nat} {A : Option Addr} {ps : List Int} (h : OwnI w B A c ps) (h' : Row2 w g t a b) (hg : g < B) (j : Nat) (v : Value) : OwnI (w.setCell ⟨g, j, none⟩ v) B A c ps := by
  refine h.kept (h'.stored j v).2 ?_
  rcases h.2 with ⟨hv, _⟩ | ⟨g2, cap, cur, hv, hb, _⟩
  · left
    rw [hv]; rfl
  · right
    rw [hv]
    simp [Value.ownBlock]
    omega
end
theorem rows_two (w : World) (o : Obj) (t : TypeId) (a b a' b' : Value) :
    Row2 (((w.alloc o).alloc (.cells #[a, b] t)).alloc (.cells #[a', b'] t)) (w.heap.size + 1) t a b ∧ Row2 (((w.alloc o).alloc (.cells #[a, b] t)).alloc (.cells #[a', b'] t)) (w.heap.size + 1 + 1) t a' b' ∧
      Below w.heap.size w (((w.alloc o).alloc (.cells #[a, b] t)).alloc (.cells #[a', b'] t)) := by
  have h1 := Row2.lit (w.alloc o) t a b
  have h2 := Row2.lit ((w.alloc o).alloc (.cells #[a, b] t)) t a' b'
  simp only [World.size_alloc] at h1 h2
  exact ⟨h1.below ((Below.refl _ _).alloc (Nat.le_refl _) _), h2, below3 (Below.refl _ _) (Nat.le_refl _)⟩
end Go.Proofs.Ytaiehccpefjbfaa
