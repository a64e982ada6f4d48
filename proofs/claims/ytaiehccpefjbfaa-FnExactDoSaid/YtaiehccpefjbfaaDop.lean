/-
  Ops of a disk as lists: their cells, where they lie. Plain (tools/mkdop.py).
-/
import Derived.Test.YtaiehccpefjbfaaPlain
import Derived.ArgAppend
namespace Go.Proofs.Ytaiehccpefjbfaa
open Go.RowKit

/-- An op: its kind, its name, what it is then, its data. -/
abbrev DD := Int × ByteArray × ByteArray × ByteArray
abbrev DS := List DD
def dval (x : DD) : Value := .agg #[.int .i64 x.1, .string x.2.1, .string x.2.2.1, .string x.2.2.2]
def dcells : DS → List Value
  | [] => []
  | x :: r => .int .i64 x.1 :: .string x.2.1 :: .string x.2.2.1 :: .string x.2.2.2 :: dcells r
theorem dcells_length : ∀ hs : DS, (dcells hs).length = hs.length * 4
  | [] => rfl
  | x :: r => by simp [dcells, dcells_length r]; omega
theorem dcells_append : ∀ hs gs : DS, dcells (hs ++ gs) = dcells hs ++ dcells gs
  | [], _ => rfl
  | x :: r, gs => by simp [dcells, dcells_append r gs]
theorem dcells_kind : ∀ (hs : DS) (i : Nat) (x : DD), hs[i]? = some x → (dcells hs)[i * 4]? = some (.int .i64 x.1)
  | [], _, _, h => by simp at h
  | y :: r, 0, x, h => by simp at h; subst h; rfl
  | y :: r, i + 1, x, h => by
    simp only [List.getElem?_cons_succ] at h
    rw [show (i + 1) * 4 = (i * 4) + 1 + 1 + 1 + 1 by omega]
    simpa [dcells] using dcells_kind r i x h
theorem dcells_name : ∀ (hs : DS) (i : Nat) (x : DD), hs[i]? = some x → (dcells hs)[i * 4 + 1]? = some (.string x.2.1)
  | [], _, _, h => by simp at h
  | y :: r, 0, x, h => by simp at h; subst h; rfl
  | y :: r, i + 1, x, h => by
    simp only [List.getElem?_cons_succ] at h
    rw [show (i + 1) * 4 + 1 = (i * 4 + 1) + 1 + 1 + 1 + 1 by omega]
    simpa [dcells] using dcells_name r i x h
theorem dcells_to : ∀ (hs : DS) (i : Nat) (x : DD), hs[i]? = some x → (dcells hs)[i * 4 + 2]? = some (.string x.2.2.1)
  | [], _, _, h => by simp at h
  | y :: r, 0, x, h => by simp at h; subst h; rfl
  | y :: r, i + 1, x, h => by
    simp only [List.getElem?_cons_succ] at h
    rw [show (i + 1) * 4 + 2 = (i * 4 + 2) + 1 + 1 + 1 + 1 by omega]
    simpa [dcells] using dcells_to r i x h
theorem dcells_data : ∀ (hs : DS) (i : Nat) (x : DD), hs[i]? = some x → (dcells hs)[i * 4 + 3]? = some (.string x.2.2.2)
  | [], _, _, h => by simp at h
  | y :: r, 0, x, h => by simp at h; subst h; rfl
  | y :: r, i + 1, x, h => by
    simp only [List.getElem?_cons_succ] at h
    rw [show (i + 1) * 4 + 3 = (i * 4 + 3) + 1 + 1 + 1 + 1 by omega]
    simpa [dcells] using dcells_data r i x h
theorem dcells_one : ∀ (hs : DS), ∀ u ∈ dcells hs, u.oneCell' = true
  | [], _, h => by simp [dcells] at h
  | x :: r, u, h => by
    simp only [dcells, List.mem_cons] at h
    rcases h with rfl | rfl | rfl | rfl | h
    · rfl
    · rfl
    · rfl
    · rfl
    · exact dcells_one r u h

/-- The slice at A, below block B, has these ops. -/
def RD (w : World) (B : Nat) (A : Option Addr) (hs : DS) : Prop :=
  hs = [] ∨ ∃ b off, A = some ⟨b, off, none⟩ ∧ b < B ∧ ∀ (i : Nat) (x : DD), hs[i]? = some x →
    w.cell? ⟨b, off + i * 4, none⟩ = some (.int .i64 x.1) ∧ w.cell? ⟨b, off + i * 4 + 1, none⟩ = some (.string x.2.1) ∧ w.cell? ⟨b, off + i * 4 + 2, none⟩ = some (.string x.2.2.1) ∧ w.cell? ⟨b, off + i * 4 + 3, none⟩ = some (.string x.2.2.2)

section
variable {w w' : World} {B B' : Nat} {A : Option Addr} {hs : DS}
theorem RD.at_ {k : Nat} (h : RD w B A hs) (hk : k < hs.length) :
    ∃ b off, A = some ⟨b, off, none⟩ ∧ b < B ∧ w.cell? ⟨b, off + k * 4, none⟩ = some (.int .i64 hs[k].1) ∧ w.cell? ⟨b, off + k * 4 + 1, none⟩ = some (.string hs[k].2.1) ∧ w.cell? ⟨b, off + k * 4 + 2, none⟩ = some (.string hs[k].2.2.1) ∧ w.cell? ⟨b, off + k * 4 + 3, none⟩ = some (.string hs[k].2.2.2) := by
  rcases h with rfl | ⟨b, off, e, hb, hc⟩
  · simp at hk
  · exact ⟨b, off, e, hb, hc k _ (List.getElem?_eq_getElem hk)⟩
theorem RD.keep (h : RD w B A hs) (hk : ∀ p : Addr, p.block < B → w'.cell? p = w.cell? p) : RD w' B A hs := by
  rcases h with rfl | ⟨b, off, e, hb, hc⟩
  · exact .inl rfl
  · exact .inr ⟨b, off, e, hb, fun i p hp => by rw [hk _ hb, hk _ hb, hk _ hb, hk _ hb]; exact hc i p hp⟩
theorem RD.more (h : RD w B A hs) (hB : B ≤ B') : RD w B' A hs := by
  rcases h with rfl | ⟨b, off, e, hb, hc⟩
  · exact .inl rfl
  · exact .inr ⟨b, off, e, by omega, hc⟩
theorem RD.below (h : RD w B A hs) (hb : Below B w w') : RD w' B A hs := h.keep fun _ hp => hb.cell hp
theorem RD.of_own {base : Nat} {e : TypeId} {n c : Nat} (h : w.ownsRow base e 4 (.slice A n c) n (dcells hs)) : RD w w.heap.size A hs := by
  rcases h.2 with ⟨hv, hn⟩ | ⟨g, cap, cur, hv, _, hh, _⟩
  · left
    have := h.1
    rw [dcells_length] at this
    exact List.eq_nil_of_length_eq_zero (by omega)
  · right
    injection hv with hA
    subst hA
    refine ⟨g, 0, rfl, (Array.getElem?_eq_some_iff.1 hh).1, fun i p hp => ?_⟩
    have h1 := h.cells (g := g) rfl _ _ (dcells_kind hs i p hp)
    have h2 := h.cells (g := g) rfl _ _ (dcells_name hs i p hp)
    have h3 := h.cells (g := g) rfl _ _ (dcells_to hs i p hp)
    have h4 := h.cells (g := g) rfl _ _ (dcells_data hs i p hp)
    rw [Addr.add_lit] at h1 h2 h3 h4
    exact ⟨h1, by rw [Nat.add_assoc]; exact h2, by rw [Nat.add_assoc]; exact h3, by rw [Nat.add_assoc]; exact h4⟩
end

/-- Texts of these are no longer than any slice. -/
def FitsD (hs : DS) : Prop := ∀ x ∈ hs, x.2.1.size ≤ maxLen ∧ x.2.2.1.size ≤ maxLen ∧ x.2.2.2.size ≤ maxLen
theorem FitsD.get {hs : DS} (h : FitsD hs) {k : Nat} (hk : k < hs.length) : hs[k].2.1.size ≤ maxLen ∧ hs[k].2.2.1.size ≤ maxLen ∧ hs[k].2.2.2.size ≤ maxLen := h _ (List.getElem_mem hk)
theorem RD.nilA {w : World} {B : Nat} (A : Option Addr) {hs : DS} (h : hs = []) : RD w B A hs := .inl h
end Go.Proofs.Ytaiehccpefjbfaa
