/-
  The program's with, without: contracts.
-/
import Derived.Test.YtaiehccpefjbfaaConcat
import Derived.Test.YtaiehccpefjbfaaListsOk
namespace Go.Proofs.Ytaiehccpefjbfaa
open Go.RowKit

/-- A slice of a form that Go can bear. -/
def VS (A : Option Addr) (c n : Nat) : Prop := (A = none ∧ c = 0 ∧ n = 0) ∨ ∃ g off, A = some ⟨g, off, none⟩ ∧ n ≤ c ∧ c ≤ maxLen
theorem OwnP.vs {w : World} {B c : Nat} {A : Option Addr} {ps : PS} (h : OwnP w B A c ps) : VS A c ps.length := by
  rcases h.2 with ⟨hv, hn⟩ | ⟨g, cap, cur, hv, _, _, hnc, hcm, _⟩
  · injection hv with e1 e2 e3
    exact .inl ⟨e1, e3, hn⟩
  · injection hv with e1 e2 e3
    subst e3
    exact .inr ⟨g, 0, e1, hnc, hcm⟩
theorem RP.take {w : World} {B : Nat} {A : Option Addr} {ps : PS} (h : RP w B A ps) (i : Nat) : RP w B A (ps.take i) := by
  rcases h with rfl | ⟨b, off, e, hb, hc⟩
  · left; simp
  · exact .inr ⟨b, off, e, hb, fun j p hj => hc j p (by
      rw [List.getElem?_take] at hj
      split at hj
      · exact hj
      · cases hj)⟩

theorem RP.drop {w : World} {B g off : Nat} {ps : PS} (h : RP w B (some ⟨g, off, none⟩) ps) (i : Nat) : RP w B (some ⟨g, off + i * 2, none⟩) (ps.drop i) := by
  rcases h with rfl | ⟨b, o, e, hb, hc⟩
  · left; simp
  · injection e with e
    injection e with e1 e2
    subst e1 e2
    refine .inr ⟨g, off + i * 2, rfl, hb, fun j p hj => ?_⟩
    rw [List.getElem?_drop] at hj
    have := hc _ p hj
    rw [show off + i * 2 + j * 2 = off + (i + j) * 2 by omega]
    exact this
theorem RP.drop' {w : World} {B g off off' : Nat} {ps : PS} {i : Nat} (h : RP w B (some ⟨g, off, none⟩) ps) (e : off' = off + i * 2) : RP w B (some ⟨g, off', none⟩) (ps.drop i) := by
  subst e
  exact h.drop i
theorem RP.any {w : World} {B : Nat} (A : Option Addr) {ps : PS} (h : ps = []) : RP w B A ps := .inl h

theorem RS.three (w : World) (B : Nat) (T T' : TypeId) (p : BB) (A1 A3 : Option Addr) (c1 c3 n1 n3 : Nat) (l1 l3 : PS) (h1 : RP w B A1 l1) (h3 : RP w B A3 l3) (e1 : n1 = l1.length) (e3 : n3 = l3.length) (hB : B ≤ w.heap.size) :
    RS ((w.alloc (.cells #[.string p.1, .string p.2] T)).alloc (.cells #[.slice A1 n1 c1, .slice (some ⟨w.heap.size, 0, none⟩) 1 1, .slice A3 n3 c3] T')) (w.heap.size + 1 + 1) (some ⟨w.heap.size + 1, 0, none⟩)
      [⟨A1, c1, l1⟩, ⟨some ⟨w.heap.size, 0, none⟩, 1, [p]⟩, ⟨A3, c3, l3⟩] := by
  subst e1 e3
  have b1 : Below w.heap.size w (w.alloc (.cells #[.string p.1, .string p.2] T)) := (Below.refl _ _).alloc (Nat.le_refl _) _
  have b2 : Below (w.heap.size + 1) (w.alloc (.cells #[.string p.1, .string p.2] T)) ((w.alloc (.cells #[.string p.1, .string p.2] T)).alloc (.cells #[.slice A1 l1.length c1, .slice (some ⟨w.heap.size, 0, none⟩) 1 1, .slice A3 l3.length c3] T')) := (Below.refl _ _).alloc (by simp) _
  have hb : ((w.alloc (.cells #[.string p.1, .string p.2] T)).alloc (.cells #[.slice A1 l1.length c1, .slice (some ⟨w.heap.size, 0, none⟩) 1 1, .slice A3 l3.length c3] T')).heap[w.heap.size + 1]? = some (.cells #[.slice A1 l1.length c1, .slice (some ⟨w.heap.size, 0, none⟩) 1 1, .slice A3 l3.length c3] T' (0, 0)) := by
    have := heap_alloc_new (w.alloc (.cells #[.string p.1, .string p.2] T)) (.cells #[.slice A1 l1.length c1, .slice (some ⟨w.heap.size, 0, none⟩) 1 1, .slice A3 l3.length c3] T')
    simpa using this
  refine .inr ⟨w.heap.size + 1, 0, rfl, by omega, fun i s hs => ?_⟩
  match i, hs with
  | 0, hs =>
    simp only [List.getElem?_cons_zero, Option.some.injEq] at hs
    subst hs
    refine ⟨by rw [cell_of_row _ _ _ _ _ _ hb]; rfl, ((h1.more hB).below b1).below (b2.mono (by omega)) |>.more (by omega)⟩
  | 1, hs =>
    simp only [List.getElem?_cons_succ, List.getElem?_cons_zero, Option.some.injEq] at hs
    subst hs
    refine ⟨by rw [cell_of_row _ _ _ _ _ _ hb]; rfl, ((RP.new w p T).below b2).more (by omega)⟩
  | 2, hs =>
    simp only [List.getElem?_cons_succ, List.getElem?_cons_zero, Option.some.injEq] at hs
    subst hs
    refine ⟨by rw [cell_of_row _ _ _ _ _ _ hb]; rfl, ((h3.more hB).below b1).below (b2.mono (by omega)) |>.more (by omega)⟩
  | i + 3, hs => simp at hs

theorem RS.more {w : World} {B B' : Nat} {A : Option Addr} {L : List SE} (h : RS w B A L) (hB : B ≤ B') : RS w B' A L := by
  rcases h with rfl | ⟨b, off, e, hb, hc⟩
  · exact .inl rfl
  · exact .inr ⟨b, off, e, by omega, fun i s hs => ⟨(hc i s hs).1, (hc i s hs).2.more hB⟩⟩
theorem OwnP.mono {w : World} {B B' c : Nat} {A : Option Addr} {ps : PS} (h : OwnP w B A c ps) (hB : B' ≤ B) : OwnP w B' A c ps := by
  refine ⟨h.1, ?_⟩
  rcases h.2 with hn | ⟨g, cap, cur, hv, hb, r⟩
  · exact .inl hn
  · exact .inr ⟨g, cap, cur, hv, by omega, r⟩

/-- What Concat of three, the middle one made on the spot, gives. -/
def Joined (w2 : World) (L : PS) (e : Ending) (w' : World) : Prop := ∃ A c, e = .returned (.slice A L.length c) ∧ OwnP w' w2.heap.size A c L ∧ Below w2.heap.size w2 w'
theorem below_two {w w2 : World} {o o' : Obj} (h : Below ((w.alloc o).alloc o').heap.size ((w.alloc o).alloc o') w2) : Below w.heap.size w w2 :=
  (((Below.refl _ _).alloc (Nat.le_refl _) o).alloc (by simp) o').trans (h.mono (by simp; omega))

theorem place_nil (x : ByteArray) (w : World) :
    Calls Try.prog 153 #[.slice none 0 0, .string x] w fun e w' => e = .returned (.tuple #[.int .i64 0, .bool false]) ∧ Below w.heap.size w w' :=
  place_any none 0 [] x w (.inl rfl) (Nat.zero_le _) rfl

end Go.Proofs.Ytaiehccpefjbfaa
