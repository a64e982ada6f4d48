/-
  Slices of holds as lists. Plain facts.
-/
import Derived.Test.YtepgcflkgicpiaaMem
namespace Go.Proofs.Ytepgcflkgicpiaa
open Go.RowKit

/-- A hold: whose, of what key, in which mode. -/
abbrev HD := Int × ByteArray × Int
abbrev HS := List HD
/-- The hold as a value. -/
def hval (x : HD) : Value := .agg #[.int .i64 x.1, .string x.2.1, .int .i64 x.2.2]
def hcells : HS → List Value
  | [] => []
  | x :: r => .int .i64 x.1 :: .string x.2.1 :: .int .i64 x.2.2 :: hcells r
theorem hcells_length : ∀ hs : HS, (hcells hs).length = hs.length * 3
  | [] => rfl
  | x :: r => by simp [hcells, hcells_length r]; omega
theorem hcells_append : ∀ hs gs : HS, hcells (hs ++ gs) = hcells hs ++ hcells gs
  | [], _ => rfl
  | x :: r, gs => by simp [hcells, hcells_append r gs]
theorem hcells_txn : ∀ (hs : HS) (i : Nat) (x : HD), hs[i]? = some x → (hcells hs)[i * 3]? = some (.int .i64 x.1)
  | [], _, _, h => by simp at h
  | y :: r, 0, x, h => by simp at h; subst h; rfl
  | y :: r, i + 1, x, h => by
    simp only [List.getElem?_cons_succ] at h
    rw [show (i + 1) * 3 = i * 3 + 1 + 1 + 1 by omega]
    simpa [hcells] using hcells_txn r i x h
theorem hcells_key : ∀ (hs : HS) (i : Nat) (x : HD), hs[i]? = some x → (hcells hs)[i * 3 + 1]? = some (.string x.2.1)
  | [], _, _, h => by simp at h
  | y :: r, 0, x, h => by simp at h; subst h; rfl
  | y :: r, i + 1, x, h => by
    simp only [List.getElem?_cons_succ] at h
    rw [show (i + 1) * 3 + 1 = (i * 3 + 1) + 1 + 1 + 1 by omega]
    simpa [hcells] using hcells_key r i x h
theorem hcells_mode : ∀ (hs : HS) (i : Nat) (x : HD), hs[i]? = some x → (hcells hs)[i * 3 + 2]? = some (.int .i64 x.2.2)
  | [], _, _, h => by simp at h
  | y :: r, 0, x, h => by simp at h; subst h; rfl
  | y :: r, i + 1, x, h => by
    simp only [List.getElem?_cons_succ] at h
    rw [show (i + 1) * 3 + 2 = (i * 3 + 2) + 1 + 1 + 1 by omega]
    simpa [hcells] using hcells_mode r i x h
theorem hcells_one : ∀ (hs : HS), ∀ u ∈ hcells hs, u.oneCell' = true
  | [], _, h => by simp [hcells] at h
  | x :: r, u, h => by
    simp only [hcells, List.mem_cons] at h
    rcases h with rfl | rfl | rfl | h
    · rfl
    · rfl
    · rfl
    · exact hcells_one r u h

/-- The slice at A, below block B, holds these holds. -/
def RH (w : World) (B : Nat) (A : Option Addr) (hs : HS) : Prop :=
  hs = [] ∨ ∃ b off, A = some ⟨b, off, none⟩ ∧ b < B ∧ ∀ (i : Nat) (x : HD), hs[i]? = some x →
    w.cell? ⟨b, off + i * 3, none⟩ = some (.int .i64 x.1) ∧ w.cell? ⟨b, off + i * 3 + 1, none⟩ = some (.string x.2.1) ∧ w.cell? ⟨b, off + i * 3 + 2, none⟩ = some (.int .i64 x.2.2)

section
variable {w w' : World} {B B' : Nat} {A : Option Addr} {hs : HS}
theorem RH.at_ {k : Nat} (h : RH w B A hs) (hk : k < hs.length) :
    ∃ b off, A = some ⟨b, off, none⟩ ∧ b < B ∧ w.cell? ⟨b, off + k * 3, none⟩ = some (.int .i64 hs[k].1) ∧ w.cell? ⟨b, off + k * 3 + 1, none⟩ = some (.string hs[k].2.1) ∧ w.cell? ⟨b, off + k * 3 + 2, none⟩ = some (.int .i64 hs[k].2.2) := by
  rcases h with rfl | ⟨b, off, e, hb, hc⟩
  · simp at hk
  · exact ⟨b, off, e, hb, hc k _ (List.getElem?_eq_getElem hk)⟩
theorem RH.keep (h : RH w B A hs) (hk : ∀ p : Addr, p.block < B → w'.cell? p = w.cell? p) : RH w' B A hs := by
  rcases h with rfl | ⟨b, off, e, hb, hc⟩
  · exact .inl rfl
  · exact .inr ⟨b, off, e, hb, fun i p hp => by rw [hk _ hb, hk _ hb, hk _ hb]; exact hc i p hp⟩
theorem RH.more (h : RH w B A hs) (hB : B ≤ B') : RH w B' A hs := by
  rcases h with rfl | ⟨b, off, e, hb, hc⟩
  · exact .inl rfl
  · exact .inr ⟨b, off, e, by omega, hc⟩
theorem RH.below (h : RH w B A hs) (hb : Below B w w') : RH w' B A hs := h.keep fun _ hp => hb.cell hp
theorem RH.take {n : Nat} (h : RH w B A hs) : RH w B A (hs.take n) := by
  rcases h with rfl | ⟨b, off, e, hb, hc⟩
  · exact .inl (by simp)
  · refine .inr ⟨b, off, e, hb, fun i p hp => hc i p ?_⟩
    rw [List.getElem?_take] at hp
    split at hp
    · exact hp
    · cases hp
theorem RH.of_own {base : Nat} {e : TypeId} {n c : Nat} (h : w.ownsRow base e 3 (.slice A n c) n (hcells hs)) : RH w w.heap.size A hs := by
  rcases h.2 with ⟨hv, hn⟩ | ⟨g, cap, cur, hv, _, hh, _⟩
  · left
    have := h.1
    rw [hcells_length] at this
    exact List.eq_nil_of_length_eq_zero (by omega)
  · right
    injection hv with hA
    subst hA
    refine ⟨g, 0, rfl, (Array.getElem?_eq_some_iff.1 hh).1, fun i p hp => ?_⟩
    have h1 := h.cells (g := g) rfl _ _ (hcells_txn hs i p hp)
    have h2 := h.cells (g := g) rfl _ _ (hcells_key hs i p hp)
    have h3 := h.cells (g := g) rfl _ _ (hcells_mode hs i p hp)
    rw [Addr.add_lit] at h1 h2 h3
    exact ⟨h1, by rw [Nat.add_assoc]; exact h2, by rw [Nat.add_assoc]; exact h3⟩
end

/-- Keys of these are no longer than any slice. -/
def FitsH (hs : HS) : Prop := ∀ x ∈ hs, x.2.1.size ≤ maxLen
theorem FitsH.get {hs : HS} (h : FitsH hs) {k : Nat} (hk : k < hs.length) : hs[k].2.1.size ≤ maxLen := h _ (List.getElem_mem hk)
theorem FitsH.take {hs : HS} (h : FitsH hs) (n : Nat) : FitsH (hs.take n) := fun x hx => h x (List.mem_of_mem_take hx)
end Go.Proofs.Ytepgcflkgicpiaa
