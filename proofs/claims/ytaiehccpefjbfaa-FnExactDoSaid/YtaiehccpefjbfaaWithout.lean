/-
  The program's without, Put, Drop, Range; the model's: contracts.
-/
import Derived.Test.YtaiehccpefjbfaaWith
import Derived.Test.YtaiehccpefjbfaaSpecPut
namespace Go.Proofs.Ytaiehccpefjbfaa
open Go.RowKit

theorem RS.two (w : World) (B : Nat) (T' : TypeId) (A1 A3 : Option Addr) (c1 c3 n1 n3 : Nat) (l1 l3 : PS) (h1 : RP w B A1 l1) (h3 : RP w B A3 l3) (e1 : n1 = l1.length) (e3 : n3 = l3.length) (hB : B ≤ w.heap.size) :
    RS (w.alloc (.cells #[.slice A1 n1 c1, .slice A3 n3 c3] T')) (w.heap.size + 1) (some ⟨w.heap.size, 0, none⟩) [⟨A1, c1, l1⟩, ⟨A3, c3, l3⟩] := by
  subst e1 e3
  have b1 : Below w.heap.size w (w.alloc (.cells #[.slice A1 l1.length c1, .slice A3 l3.length c3] T')) := (Below.refl _ _).alloc (Nat.le_refl _) _
  have hb : (w.alloc (.cells #[.slice A1 l1.length c1, .slice A3 l3.length c3] T')).heap[w.heap.size]? = some (.cells #[.slice A1 l1.length c1, .slice A3 l3.length c3] T' (0, 0)) := heap_alloc_new w _
  refine .inr ⟨w.heap.size, 0, rfl, by omega, fun i s hs => ?_⟩
  match i, hs with
  | 0, hs =>
    simp only [List.getElem?_cons_zero, Option.some.injEq] at hs
    subst hs
    exact ⟨by rw [cell_of_row _ _ _ _ _ _ hb]; rfl, ((h1.more hB).below b1).more (by omega)⟩
  | 1, hs =>
    simp only [List.getElem?_cons_succ, List.getElem?_cons_zero, Option.some.injEq] at hs
    subst hs
    exact ⟨by rw [cell_of_row _ _ _ _ _ _ hb]; rfl, ((h3.more hB).below b1).more (by omega)⟩
  | i + 2, hs => simp at hs

/-- Pairs that the call made, and whether. -/
def Made2 (w : World) (L : PS) (b : Bool) (e : Ending) (w' : World) : Prop := ∃ A c, e = .returned (.tuple #[.slice A L.length c, .bool b]) ∧ OwnP w' w.heap.size A c L ∧ Below w.heap.size w w'
theorem Made2.no {w w' : World} {L : PS} {b : Bool} (hL : L = []) (hb : b = false) (h : Below w.heap.size w w') : Made2 w L b (.returned (.tuple #[.slice none 0 0, .bool false])) w' := by
  subst hL hb
  exact ⟨none, 0, rfl, OwnP.nil_ _ _, h⟩

end Go.Proofs.Ytaiehccpefjbfaa
