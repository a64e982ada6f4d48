/-
  Changes as lists: their cells, where they lie. Plain.
-/
import Derived.Test.YtaiehccpefjbfaaPlain
import Derived.ArgAppend
namespace Go.Proofs.Ytaiehccpefjbfaa
open Go.RowKit

/-- A change: its key, its value, whether it is gone. -/
abbrev CD := ByteArray × ByteArray × Bool
abbrev CS := List CD
/-- The change as a value. -/
def cval (x : CD) : Value := .agg #[.string x.1, .string x.2.1, .bool x.2.2]
def ccells : CS → List Value
  | [] => []
  | x :: r => .string x.1 :: .string x.2.1 :: .bool x.2.2 :: ccells r
theorem ccells_length : ∀ hs : CS, (ccells hs).length = hs.length * 3
  | [] => rfl
  | x :: r => by simp [ccells, ccells_length r]; omega
theorem ccells_append : ∀ hs gs : CS, ccells (hs ++ gs) = ccells hs ++ ccells gs
  | [], _ => rfl
  | x :: r, gs => by simp [ccells, ccells_append r gs]
theorem ccells_key : ∀ (hs : CS) (i : Nat) (x : CD), hs[i]? = some x → (ccells hs)[i * 3]? = some (.string x.1)
  | [], _, _, h => by simp at h
  | y :: r, 0, x, h => by simp at h; subst h; rfl
  | y :: r, i + 1, x, h => by
    simp only [List.getElem?_cons_succ] at h
    rw [show (i + 1) * 3 = i * 3 + 1 + 1 + 1 by omega]
    simpa [ccells] using ccells_key r i x h
theorem ccells_val : ∀ (hs : CS) (i : Nat) (x : CD), hs[i]? = some x → (ccells hs)[i * 3 + 1]? = some (.string x.2.1)
  | [], _, _, h => by simp at h
  | y :: r, 0, x, h => by simp at h; subst h; rfl
  | y :: r, i + 1, x, h => by
    simp only [List.getElem?_cons_succ] at h
    rw [show (i + 1) * 3 + 1 = (i * 3 + 1) + 1 + 1 + 1 by omega]
    simpa [ccells] using ccells_val r i x h
theorem ccells_gone : ∀ (hs : CS) (i : Nat) (x : CD), hs[i]? = some x → (ccells hs)[i * 3 + 2]? = some (.bool x.2.2)
  | [], _, _, h => by simp at h
  | y :: r, 0, x, h => by simp at h; subst h; rfl
  | y :: r, i + 1, x, h => by
    simp only [List.getElem?_cons_succ] at h
    rw [show (i + 1) * 3 + 2 = (i * 3 + 2) + 1 + 1 + 1 by omega]
    simpa [ccells] using ccells_gone r i x h
theorem ccells_one : ∀ (hs : CS), ∀ u ∈ ccells hs, u.oneCell' = true
  | [], _, h => by simp [ccells] at h
  | x :: r, u, h => by
    simp only [ccells, List.mem_cons] at h
    rcases h with rfl | rfl | rfl | h
    · rfl
    · rfl
    · rfl
    · exact ccells_one r u h

/-- The slice at A, below block B, changes these changes. -/
def RC (w : World) (B : Nat) (A : Option Addr) (hs : CS) : Prop :=
  hs = [] ∨ ∃ b off, A = some ⟨b, off, none⟩ ∧ b < B ∧ ∀ (i : Nat) (x : CD), hs[i]? = some x →
    w.cell? ⟨b, off + i * 3, none⟩ = some (.string x.1) ∧ w.cell? ⟨b, off + i * 3 + 1, none⟩ = some (.string x.2.1) ∧ w.cell? ⟨b, off + i * 3 + 2, none⟩ = some (.bool x.2.2)

section
variable {w w' : World} {B B' : Nat} {A : Option Addr} {hs : CS}
theorem RC.at_ {k : Nat} (h : RC w B A hs) (hk : k < hs.length) :
    ∃ b off, A = some ⟨b, off, none⟩ ∧ b < B ∧ w.cell? ⟨b, off + k * 3, none⟩ = some (.string hs[k].1) ∧ w.cell? ⟨b, off + k * 3 + 1, none⟩ = some (.string hs[k].2.1) ∧ w.cell? ⟨b, off + k * 3 + 2, none⟩ = some (.bool hs[k].2.2) := by
  rcases h with rfl | ⟨b, off, e, hb, hc⟩
  · simp at hk
  · exact ⟨b, off, e, hb, hc k _ (List.getElem?_eq_getElem hk)⟩
theorem RC.keep (h : RC w B A hs) (hk : ∀ p : Addr, p.block < B → w'.cell? p = w.cell? p) : RC w' B A hs := by
  rcases h with rfl | ⟨b, off, e, hb, hc⟩
  · exact .inl rfl
  · exact .inr ⟨b, off, e, hb, fun i p hp => by rw [hk _ hb, hk _ hb, hk _ hb]; exact hc i p hp⟩
theorem RC.more (h : RC w B A hs) (hB : B ≤ B') : RC w B' A hs := by
  rcases h with rfl | ⟨b, off, e, hb, hc⟩
  · exact .inl rfl
  · exact .inr ⟨b, off, e, by omega, hc⟩
theorem RC.below (h : RC w B A hs) (hb : Below B w w') : RC w' B A hs := h.keep fun _ hp => hb.cell hp
theorem RC.take {n : Nat} (h : RC w B A hs) : RC w B A (hs.take n) := by
  rcases h with rfl | ⟨b, off, e, hb, hc⟩
  · exact .inl (by simp)
  · refine .inr ⟨b, off, e, hb, fun i p hp => hc i p ?_⟩
    rw [List.getElem?_take] at hp
    split at hp
    · exact hp
    · cases hp
theorem RC.of_own {base : Nat} {e : TypeId} {n c : Nat} (h : w.ownsRow base e 3 (.slice A n c) n (ccells hs)) : RC w w.heap.size A hs := by
  rcases h.2 with ⟨hv, hn⟩ | ⟨g, cap, cur, hv, _, hh, _⟩
  · left
    have := h.1
    rw [ccells_length] at this
    exact List.eq_nil_of_length_eq_zero (by omega)
  · right
    injection hv with hA
    subst hA
    refine ⟨g, 0, rfl, (Array.getElem?_eq_some_iff.1 hh).1, fun i p hp => ?_⟩
    have h1 := h.cells (g := g) rfl _ _ (ccells_key hs i p hp)
    have h2 := h.cells (g := g) rfl _ _ (ccells_val hs i p hp)
    have h3 := h.cells (g := g) rfl _ _ (ccells_gone hs i p hp)
    rw [Addr.add_lit] at h1 h2 h3
    exact ⟨h1, by rw [Nat.add_assoc]; exact h2, by rw [Nat.add_assoc]; exact h3⟩
end

/-- Texts of these are no longer than any slice. -/
def FitsC (hs : CS) : Prop := ∀ x ∈ hs, x.1.size ≤ maxLen ∧ x.2.1.size ≤ maxLen
theorem FitsC.get {hs : CS} (h : FitsC hs) {k : Nat} (hk : k < hs.length) : hs[k].1.size ≤ maxLen ∧ hs[k].2.1.size ≤ maxLen := h _ (List.getElem_mem hk)
theorem FitsC.take {hs : CS} (h : FitsC hs) (n : Nat) : FitsC (hs.take n) := fun x hx => h x (List.mem_of_mem_take hx)
/-- A part of a row, from k on. -/
theorem RC.drop {w : World} {B : Nat} {b off : Nat} {hs : CS} (h : RC w B (some ⟨b, off, none⟩) hs) (k : Nat) : RC w B (some ⟨b, off + k * 3, none⟩) (hs.drop k) := by
  rcases h with rfl | ⟨b', off', e, hb, hc⟩
  · exact .inl (by simp)
  · injection e with e
    injection e with e1 e2
    subst e1 e2
    refine .inr ⟨b, off + k * 3, rfl, hb, fun i p hp => ?_⟩
    rw [List.getElem?_drop] at hp
    have := hc (k + i) p hp
    rw [show off + k * 3 + i * 3 = off + (k + i) * 3 by omega]
    exact this
theorem RC.nilA {w : World} {B : Nat} (A : Option Addr) {hs : CS} (h : hs = []) : RC w B A hs := .inl h
end Go.Proofs.Ytaiehccpefjbfaa
