/-
  Holds that are drawn.
-/
import Derived.Test.YtjdmaoegfpgfjaaDrawMode
import Derived.Test.YtjdmaoegfpgfjaaFreeS3
import Derived.Test.YtjdmaoegfpgfjaaDrawLF
import Derived.Deep.CutRange
namespace Go.Proofs.Ytjdmaoegfpgfjaa
open Go.RowKit

theorem Bl.al {w w1 : World} (h : Below w.heap.size w w1) {o : Obj} : Below w.heap.size w (w1.alloc o) := h.alloc h.size _
theorem Bl.dr {w w1 : World} (h : Below w.heap.size w w1) : Below w.heap.size w w1.drew := h.drew
theorem grown_cellR {w w' : World} {g gx j : Nat} {v : Value} (h : w.grownBy w' (some g)) (hx : w.heap.size ≤ gx) : w.grownBy (w'.setCell ⟨gx, j, none⟩ v) (some g) :=
  ⟨h.os, h.tape, h.output, by simpa using h.size, fun k hk hne => (heap_setCell_other w' ⟨gx, j, none⟩ k v (fun e => by simp at e; omega)).trans (h.block k hk hne)⟩
theorem Rd.set {w : World} {B g gx j : Nat} {v : Value} (h : Rd w B g) (hx : gx ≠ g) (hB : B ≤ gx) : Rd (w.setCell ⟨gx, j, none⟩ v) B g := by
  obtain ⟨A, n, c, p, h1, h2, hh, hc, hB0⟩ := h
  exact ⟨A, n, c, p, h1, h2, (heap_setCell_other w ⟨gx, j, none⟩ g v (fun e => hx (by simp at e; omega))).trans hh, hc.keep fun q hq => World.cell?_of_block (heap_setCell_other w ⟨gx, j, none⟩ q.block v (fun e => by simp at e; omega)), hB0⟩

def keyT : Nat → ByteArray
  | 0 => ⟨#[]⟩
  | 1 => ⟨#[97]⟩
  | _ => ⟨#[98]⟩
theorem keyT_size (v : Nat) : (keyT v).size ≤ 1 := by
  unfold keyT
  split <;> decide
/-- The three keys stand in block gt, that is not the reader. -/
def TbAt (w : World) (g gt : Nat) : Prop := gt ≠ g ∧ ∃ T, w.heap[gt]? = some (.cells #[.string ⟨#[]⟩, .string ⟨#[97]⟩, .string ⟨#[98]⟩] T (0, 0))
theorem TbAt.new {w : World} {T : TypeId} {g gt : Nat} (e : gt = w.heap.size) (hg : g < w.heap.size) : TbAt (w.alloc (.cells #[.string ⟨#[]⟩, .string ⟨#[97]⟩, .string ⟨#[98]⟩] T)) g gt := by
  subst e
  exact ⟨by omega, T, heap_alloc_new w _⟩
theorem TbAt.below {w w' : World} {g gt : Nat} (h : TbAt w g gt) (hb : Below w.heap.size w w') : TbAt w' g gt := by
  obtain ⟨h1, T, h2⟩ := h
  exact ⟨h1, T, (hb.block gt (Array.getElem?_eq_some_iff.1 h2).1).trans h2⟩
theorem TbAt.grown {w w' : World} {g gt : Nat} (h : TbAt w g gt) (hg : w.grownBy w' (some g)) : TbAt w' g gt := by
  obtain ⟨h1, T, h2⟩ := h
  exact ⟨h1, T, (hg.block gt (Array.getElem?_eq_some_iff.1 h2).1 (fun e => h1 (by injection e))).trans h2⟩
theorem TbAt.lt {w : World} {g gt : Nat} (h : TbAt w g gt) : gt < w.heap.size := by
  obtain ⟨h1, T, h2⟩ := h
  exact (Array.getElem?_eq_some_iff.1 h2).1
theorem TbAt.at_ {w : World} {g gt v : Nat} (h : TbAt w g gt) (hv : v < 3) : w.cell? ⟨gt, v, none⟩ = some (.string (keyT v)) := by
  obtain ⟨h1, T, h2⟩ := h
  rw [cell_of_row _ _ _ _ _ _ h2]
  match v, hv with
  | 0, _ => rfl
  | 1, _ => rfl
  | 2, _ => rfl

theorem Bl.of {w a w' : World} {r : Option Nat} (_ : a.grownBy w' r) (h : Below w.heap.size w a) : Below w.heap.size w a := h
theorem drew_size (w : World) : w.heap.size = w.drew.heap.size := rfl
theorem drew_size1 (w : World) : w.heap.size + 1 = w.drew.heap.size + 1 := rfl
theorem lt_drew {w : World} {g : Nat} (h : g < w.heap.size) : g < w.drew.heap.size := h
theorem TbAt.new1 {w : World} {o : Obj} {T : TypeId} {g gt : Nat} (e : gt = w.heap.size + 1) (hg : g < w.heap.size) : TbAt ((w.alloc o).alloc (.cells #[.string ⟨#[]⟩, .string ⟨#[97]⟩, .string ⟨#[98]⟩] T)) g gt :=
  TbAt.new (by simp [e]) (by simp; omega)
theorem undrew {w w' : World} {r : Option Nat} (h : w.drew.grownBy w' r) : w.grownBy w' r := ⟨h.os, h.tape, h.output, h.size, h.block⟩
theorem Bl.ofB {w a w' : World} {n : Nat} (_ : Below n a w') (h : Below w.heap.size w a) : Below w.heap.size w a := h
theorem row2_new {w w' : World} {t : TypeId} {a b : Value} {g gx : Nat} (hg : (w.alloc (.cells #[a, b] t)).grownBy w' (some g)) (e : gx = w.heap.size) (hlt : g < w.heap.size) : Row2 w' gx t a b := by
  subst e
  exact (Row2.lit w t a b).far hg (by rintro k hk; injection hk with hk; omega)
theorem row3_lit0 {w w' : World} {t : TypeId} {a b c : Value} {g gx : Nat} (hg : (w.alloc (.cells #[a, b, c] t)).grownBy w' (some g)) (e : gx = w.heap.size) (hlt : g < w.heap.size) : Row3 w' gx t a b c := by
  subst e
  exact (Row3.lit w t a b c).farR hg (by rintro k hk; injection hk with hk; omega)
theorem row3_lit1 {w w' : World} {o : Obj} {t : TypeId} {a b c : Value} {g gx : Nat} (hg : ((w.alloc o).alloc (.cells #[a, b, c] t)).grownBy w' (some g)) (e : gx = w.heap.size + 1) (hlt : g < w.heap.size) : Row3 w' gx t a b c := by
  subst e
  have h := Row3.lit (w.alloc o) t a b c
  rw [World.size_alloc] at h
  exact h.farR hg (by rintro k hk; injection hk with hk; omega)
theorem row3_lit2 {w w' : World} {o : Obj} {t : TypeId} {a b c : Value} {g gx : Nat} (hg : ((w.alloc (.cells #[a, b, c] t)).alloc o).grownBy w' (some g)) (e : gx = w.heap.size) (hlt : g < w.heap.size) : Row3 w' gx t a b c := by
  subst e
  exact ((Row3.lit w t a b c).below (Bl.al (Below.refl _ _))).farR hg (by rintro k hk; injection hk with hk; omega)
theorem tb_walk (v : Nat) : ∀ h, ([.string ⟨#[]⟩, .string ⟨#[97]⟩, .string ⟨#[98]⟩] : List Value)[v]'h = .string (keyT v) := fun h => by
  match v, h with
  | 0, _ => rfl
  | 1, _ => rfl
  | 2, _ => rfl

/-- A call on the reader g that answers a hold. -/
def HoldD (B g : Nat) (w : World) (e : Ending) (w' : World) : Prop := ∃ x : HD, e = .returned (.agg #[.int .i64 x.1, .string x.2.1, .int .i64 x.2.2]) ∧ x.2.1.size ≤ 1 ∧ Rd w' B g ∧ w.grownBy w' (some g)

end Go.Proofs.Ytjdmaoegfpgfjaa
