/-
  Slices of holds as lists. Plain facts.
  Locks: modes, holds, who keeps whom out. Plain facts.
  Locks: what may be held, what is had, who is woken. Plain facts.
  Who waits for whom, as lists. Plain facts.
  Who waits for itself; what one that asks is told. Plain facts.
  A row of numbers that loses its head: where it lies, and append to it.
-/
import Derived.Test.YtjdmaoegfpgfjaaPlain
import Derived.ArgAppend
namespace Go.Proofs.Ytjdmaoegfpgfjaa
open Go.RowKit

/-- A hold: whose, of what key, in which mode. -/
abbrev HD := Int × ByteArray × Int
abbrev HS := List HD
/-- The hold as a value. -/
def hval (x : HD) : Value := .agg #[.int .i64 x.1, .string x.2.1, .int .i64 x.2.2]
def hcells : HS → List Value
  | [] => []
  | x :: r => .int .i64 x.1 :: .string x.2.1 :: .int .i64 x.2.2 :: hcells r
theorem hcells_length : ∀ hs : HS, (hcells hs).length = hs.length * 3
  | [] => rfl
  | x :: r => by simp [hcells, hcells_length r]; omega
theorem hcells_append : ∀ hs gs : HS, hcells (hs ++ gs) = hcells hs ++ hcells gs
  | [], _ => rfl
  | x :: r, gs => by simp [hcells, hcells_append r gs]
theorem hcells_txn : ∀ (hs : HS) (i : Nat) (x : HD), hs[i]? = some x → (hcells hs)[i * 3]? = some (.int .i64 x.1)
  | [], _, _, h => by simp at h
  | y :: r, 0, x, h => by simp at h; subst h; rfl
  | y :: r, i + 1, x, h => by
    simp only [List.getElem?_cons_succ] at h
    rw [show (i + 1) * 3 = i * 3 + 1 + 1 + 1 by omega]
    simpa [hcells] using hcells_txn r i x h
theorem hcells_key : ∀ (hs : HS) (i : Nat) (x : HD), hs[i]? = some x → (hcells hs)[i * 3 + 1]? = some (.string x.2.1)
  | [], _, _, h => by simp at h
  | y :: r, 0, x, h => by simp at h; subst h; rfl
  | y :: r, i + 1, x, h => by
    simp only [List.getElem?_cons_succ] at h
    rw [show (i + 1) * 3 + 1 = (i * 3 + 1) + 1 + 1 + 1 by omega]
    simpa [hcells] using hcells_key r i x h
theorem hcells_mode : ∀ (hs : HS) (i : Nat) (x : HD), hs[i]? = some x → (hcells hs)[i * 3 + 2]? = some (.int .i64 x.2.2)
  | [], _, _, h => by simp at h
  | y :: r, 0, x, h => by simp at h; subst h; rfl
  | y :: r, i + 1, x, h => by
    simp only [List.getElem?_cons_succ] at h
    rw [show (i + 1) * 3 + 2 = (i * 3 + 2) + 1 + 1 + 1 by omega]
    simpa [hcells] using hcells_mode r i x h
theorem hcells_one : ∀ (hs : HS), ∀ u ∈ hcells hs, u.oneCell' = true
  | [], _, h => by simp [hcells] at h
  | x :: r, u, h => by
    simp only [hcells, List.mem_cons] at h
    rcases h with rfl | rfl | rfl | h
    · rfl
    · rfl
    · rfl
    · exact hcells_one r u h

/-- The slice at A, below block B, holds these holds. -/
def RH (w : World) (B : Nat) (A : Option Addr) (hs : HS) : Prop :=
  hs = [] ∨ ∃ b off, A = some ⟨b, off, none⟩ ∧ b < B ∧ ∀ (i : Nat) (x : HD), hs[i]? = some x →
    w.cell? ⟨b, off + i * 3, none⟩ = some (.int .i64 x.1) ∧ w.cell? ⟨b, off + i * 3 + 1, none⟩ = some (.string x.2.1) ∧ w.cell? ⟨b, off + i * 3 + 2, none⟩ = some (.int .i64 x.2.2)

section
variable {w w' : World} {B B' : Nat} {A : Option Addr} {hs : HS}
theorem RH.at_ {k : Nat} (h : RH w B A hs) (hk : k < hs.length) :
    ∃ b off, A = some ⟨b, off, none⟩ ∧ b < B ∧ w.cell? ⟨b, off + k * 3, none⟩ = some (.int .i64 hs[k].1) ∧ w.cell? ⟨b, off + k * 3 + 1, none⟩ = some (.string hs[k].2.1) ∧ w.cell? ⟨b, off + k * 3 + 2, none⟩ = some (.int .i64 hs[k].2.2) := by
  rcases h with rfl | ⟨b, off, e, hb, hc⟩
  · simp at hk
  · exact ⟨b, off, e, hb, hc k _ (List.getElem?_eq_getElem hk)⟩
theorem RH.keep (h : RH w B A hs) (hk : ∀ p : Addr, p.block < B → w'.cell? p = w.cell? p) : RH w' B A hs := by
  rcases h with rfl | ⟨b, off, e, hb, hc⟩
  · exact .inl rfl
  · exact .inr ⟨b, off, e, hb, fun i p hp => by rw [hk _ hb, hk _ hb, hk _ hb]; exact hc i p hp⟩
theorem RH.more (h : RH w B A hs) (hB : B ≤ B') : RH w B' A hs := by
  rcases h with rfl | ⟨b, off, e, hb, hc⟩
  · exact .inl rfl
  · exact .inr ⟨b, off, e, by omega, hc⟩
theorem RH.below (h : RH w B A hs) (hb : Below B w w') : RH w' B A hs := h.keep fun _ hp => hb.cell hp
theorem RH.take {n : Nat} (h : RH w B A hs) : RH w B A (hs.take n) := by
  rcases h with rfl | ⟨b, off, e, hb, hc⟩
  · exact .inl (by simp)
  · refine .inr ⟨b, off, e, hb, fun i p hp => hc i p ?_⟩
    rw [List.getElem?_take] at hp
    split at hp
    · exact hp
    · cases hp
theorem RH.of_own {base : Nat} {e : TypeId} {n c : Nat} (h : w.ownsRow base e 3 (.slice A n c) n (hcells hs)) : RH w w.heap.size A hs := by
  rcases h.2 with ⟨hv, hn⟩ | ⟨g, cap, cur, hv, _, hh, _⟩
  · left
    have := h.1
    rw [hcells_length] at this
    exact List.eq_nil_of_length_eq_zero (by omega)
  · right
    injection hv with hA
    subst hA
    refine ⟨g, 0, rfl, (Array.getElem?_eq_some_iff.1 hh).1, fun i p hp => ?_⟩
    have h1 := h.cells (g := g) rfl _ _ (hcells_txn hs i p hp)
    have h2 := h.cells (g := g) rfl _ _ (hcells_key hs i p hp)
    have h3 := h.cells (g := g) rfl _ _ (hcells_mode hs i p hp)
    rw [Addr.add_lit] at h1 h2 h3
    exact ⟨h1, by rw [Nat.add_assoc]; exact h2, by rw [Nat.add_assoc]; exact h3⟩
end

/-- Keys of these are no longer than any slice. -/
def FitsH (hs : HS) : Prop := ∀ x ∈ hs, x.2.1.size ≤ maxLen
theorem FitsH.get {hs : HS} (h : FitsH hs) {k : Nat} (hk : k < hs.length) : hs[k].2.1.size ≤ maxLen := h _ (List.getElem_mem hk)
theorem FitsH.take {hs : HS} (h : FitsH hs) (n : Nat) : FitsH (hs.take n) := fun x hx => h x (List.mem_of_mem_take hx)
end Go.Proofs.Ytjdmaoegfpgfjaa
namespace Go.Proofs.Ytjdmaoegfpgfjaa

def modeB (m : Int) : Bool := decide (1 ≤ m) && decide (m ≤ 4)
/-- Two modes fit, taken as modes. -/
def fitB (a b : Int) : Bool := if a = 4 ∨ b = 4 then false else if a = 3 then decide (b ≠ 2) else if b = 3 then decide (a ≠ 2) else true
/-- What Fit answers. -/
def fitF (a b : Int) : Bool := modeB a && (modeB b && fitB a b)
/-- Two modes together, taken as modes. -/
def joinB (a b : Int) : Int := if (a = 2 ∧ b = 3) ∨ (a = 3 ∧ b = 2) then 4 else max a b
/-- What Both answers. -/
def bothF (a b : Int) : Int := if modeB a && modeB b then joinB a b else 0
theorem modeB_iff {m : Int} : modeB m = true ↔ 1 ≤ m ∧ m ≤ 4 := by simp [modeB]
theorem modeB_cases {m : Int} (h : modeB m = true) : m = 1 ∨ m = 2 ∨ m = 3 ∨ m = 4 := by
  rw [modeB_iff] at h
  omega
theorem fitB_symm (a b : Int) : fitB a b = fitB b a := by
  unfold fitB
  by_cases h1 : a = 4 <;> by_cases h2 : b = 4 <;> by_cases h3 : a = 3 <;> by_cases h4 : b = 3 <;> simp [h1, h2, h3, h4]
theorem fitF_symm (a b : Int) : fitF a b = fitF b a := by
  unfold fitF
  rw [fitB_symm a b]
  cases modeB a <;> cases modeB b <;> rfl
theorem joinB_comm (a b : Int) : joinB a b = joinB b a := by
  unfold joinB
  split <;> split <;> omega
theorem bothF_comm (a b : Int) : bothF a b = bothF b a := by
  unfold bothF
  rw [joinB_comm a b]
  cases modeB a <;> cases modeB b <;> rfl
theorem joinB_mode {a b : Int} (ha : modeB a = true) (hb : modeB b = true) : modeB (joinB a b) = true := by
  rw [modeB_iff] at *
  unfold joinB
  split <;> omega
theorem joinB_self {a : Int} : joinB a a = a := by
  unfold joinB
  split <;> omega
/-- What fits both together fits each. -/
theorem fit_join {a b m : Int} (ha : modeB a = true) (hb : modeB b = true) (hm : modeB m = true) (h : fitB (joinB a b) m = true) : fitB a m = true ∧ fitB b m = true := by
  rcases modeB_cases ha with rfl | rfl | rfl | rfl <;> rcases modeB_cases hb with rfl | rfl | rfl | rfl <;> rcases modeB_cases hm with rfl | rfl | rfl | rfl <;> revert h <;> decide
theorem join_join {a b : Int} (ha : modeB a = true) (hb : modeB b = true) : joinB (joinB a b) a = joinB a b := by
  rcases modeB_cases ha with rfl | rfl | rfl | rfl <;> rcases modeB_cases hb with rfl | rfl | rfl | rfl <;> decide

/-- A right hold. -/
def holdB (x : HD) : Bool := decide (1 ≤ x.1) && (decide (x.1 ≤ 1000) && (modeB x.2.2 && (decide (x.2.1.size = 0) || keyB x.2.1)))
/-- Two of one key that may not both be held. -/
def clashB (y x : HD) : Bool := decide (y.2.1 = x.2.1) && (decide (y.1 = x.1) || !fitB y.2.2 x.2.2)
/-- h, that is held, leaves no room for x of another one. -/
def keepsB (h x : HD) : Bool := decide (h.2.1 = x.2.1) && (!decide (h.1 = x.1) && !fitF h.2.2 x.2.2)
def ownB (h x : HD) : Bool := decide (h.1 = x.1) && decide (h.2.1 = x.2.1)
def heldAt (hs : HS) (k : Nat) (x : HD) : Bool := holdB x && !(hs.take k).any fun y => clashB y x
def lineAt (hs : HS) (k : Nat) (x : HD) : Bool := holdB x && !(hs.take k).any fun y => decide (y.1 = x.1)
/-- Held ones as they must be. -/
def heldsB (hs : HS) : Bool := (List.range hs.length).all fun i => heldAt hs i (hs.getD i (0, ⟨#[]⟩, 0))
def linesB (hs : HS) : Bool := (List.range hs.length).all fun i => lineAt hs i (hs.getD i (0, ⟨#[]⟩, 0))
/-- What LocksOk answers. -/
def locksB (h l : HS) : Bool := heldsB h && (linesB l && (decide (h.length ≤ 100) && decide (l.length ≤ 20)))
theorem getD_hold {hs : HS} {k : Nat} (hk : k < hs.length) {d : HD} : hs.getD k d = hs[k] := by simp [hk]
theorem heldsB_iff {hs : HS} : heldsB hs = true ↔ ∀ (i : Nat) (h : i < hs.length), heldAt hs i hs[i] = true := by
  rw [heldsB, List.all_eq_true]
  constructor
  · intro h i hi
    have := h i (List.mem_range.2 hi)
    rwa [getD_hold hi] at this
  · intro h i hi
    have hi' := List.mem_range.1 hi
    rw [getD_hold hi']
    exact h i hi'
theorem linesB_iff {hs : HS} : linesB hs = true ↔ ∀ (i : Nat) (h : i < hs.length), lineAt hs i hs[i] = true := by
  rw [linesB, List.all_eq_true]
  constructor
  · intro h i hi
    have := h i (List.mem_range.2 hi)
    rwa [getD_hold hi] at this
  · intro h i hi
    have hi' := List.mem_range.1 hi
    rw [getD_hold hi']
    exact h i hi'
theorem heldAt_iff {hs : HS} {k : Nat} {x : HD} : heldAt hs k x = true ↔ holdB x = true ∧ ∀ (i : Nat) (h : i < hs.length), i < k → clashB hs[i] x = false := by
  simp only [heldAt, Bool.and_eq_true, Bool.not_eq_true', List.any_eq_false]
  constructor
  · rintro ⟨h1, h2⟩
    refine ⟨h1, fun i hi hik => ?_⟩
    have := h2 hs[i] (List.mem_iff_getElem.2 ⟨i, by rw [List.length_take]; omega, by simp⟩)
    simpa using this
  · rintro ⟨h1, h2⟩
    refine ⟨h1, fun y hy => ?_⟩
    obtain ⟨i, hi, rfl⟩ := List.getElem_of_mem hy
    rw [List.length_take] at hi
    rw [List.getElem_take, h2 i (by omega) (by omega)]
    simp
theorem lineAt_iff {hs : HS} {k : Nat} {x : HD} : lineAt hs k x = true ↔ holdB x = true ∧ ∀ (i : Nat) (h : i < hs.length), i < k → hs[i].1 ≠ x.1 := by
  simp only [lineAt, Bool.and_eq_true, Bool.not_eq_true', List.any_eq_false]
  constructor
  · rintro ⟨h1, h2⟩
    refine ⟨h1, fun i hi hik => ?_⟩
    have := h2 hs[i] (List.mem_iff_getElem.2 ⟨i, by rw [List.length_take]; omega, by simp⟩)
    simpa using this
  · rintro ⟨h1, h2⟩
    refine ⟨h1, fun y hy => ?_⟩
    obtain ⟨i, hi, rfl⟩ := List.getElem_of_mem hy
    rw [List.length_take] at hi
    rw [List.getElem_take]
    simpa using h2 i (by omega) (by omega)
theorem holdB_mode {x : HD} (h : holdB x = true) : modeB x.2.2 = true := by
  simp only [holdB, Bool.and_eq_true] at h
  exact h.2.2.1
theorem locksB_iff {h l : HS} : locksB h l = true ↔ heldsB h = true ∧ linesB l = true ∧ h.length ≤ 100 ∧ l.length ≤ 20 := by
  simp [locksB]

/-- What the program asks of the held ones. -/
def heldPB (hs : HS) : Bool := (List.range hs.length).all fun i => holdB (hs.getD i (0, ⟨#[]⟩, 0)) && (!((hs.take i).any fun h => ownB h (hs.getD i (0, ⟨#[]⟩, 0))) && !(hs.any fun h => keepsB h (hs.getD i (0, ⟨#[]⟩, 0))))
theorem heldPB_iff {hs : HS} : heldPB hs = true ↔ ∀ (i : Nat) (h : i < hs.length), holdB hs[i] = true ∧ ((hs.take i).any fun y => ownB y hs[i]) = false ∧ (hs.any fun y => keepsB y hs[i]) = false := by
  rw [heldPB, List.all_eq_true]
  constructor
  · intro h i hi
    have := h i (List.mem_range.2 hi)
    rw [getD_hold hi] at this
    simpa only [Bool.and_eq_true, Bool.not_eq_true'] using this
  · intro h i hi
    have hi' := List.mem_range.1 hi
    rw [getD_hold hi']
    simpa only [Bool.and_eq_true, Bool.not_eq_true'] using h i hi'
theorem any_take_iff {hs : HS} {k : Nat} {p : HD → Bool} : ((hs.take k).any p) = false ↔ ∀ (i : Nat) (h : i < hs.length), i < k → p hs[i] = false := by
  rw [List.any_eq_false]
  constructor
  · intro h i hi hik
    have := h hs[i] (List.mem_iff_getElem.2 ⟨i, by rw [List.length_take]; omega, by simp⟩)
    simpa using this
  · intro h y hy
    obtain ⟨i, hi, rfl⟩ := List.getElem_of_mem hy
    rw [List.length_take] at hi
    rw [List.getElem_take, h i (by omega) (by omega)]
    simp
theorem any_iff {hs : HS} {p : HD → Bool} : (hs.any p) = false ↔ ∀ (i : Nat) (h : i < hs.length), p hs[i] = false := by
  have := any_take_iff (hs := hs) (k := hs.length) (p := p)
  rw [List.take_length] at this
  rw [this]
  exact ⟨fun h i hi => h i hi hi, fun h i hi _ => h i hi⟩
/-- Both ask the same. -/
theorem heldPB_eq (hs : HS) : heldPB hs = heldsB hs := by
  rw [Bool.eq_iff_iff, heldPB_iff, heldsB_iff]
  constructor
  · intro h i hi
    rw [heldAt_iff]
    refine ⟨(h i hi).1, fun k hk hki => ?_⟩
    have h1 := any_take_iff.1 (h i hi).2.1 k hk hki
    have h2 := any_iff.1 (h i hi).2.2 k hk
    have m1 := holdB_mode (h i hi).1
    have m2 := holdB_mode (h k hk).1
    simp only [ownB, keepsB, clashB, fitF, m1, m2, Bool.true_and] at h1 h2 ⊢
    cases hc : decide (hs[k].2.1 = hs[i].2.1)
    · rfl
    · rw [hc] at h1 h2
      simp only [Bool.and_true, Bool.true_and] at h1 h2 ⊢
      rw [h1] at h2 ⊢
      simpa using h2
  · intro h i hi
    have hh : ∀ (k : Nat) (hk : k < hs.length), holdB hs[k] = true ∧ ∀ (j : Nat) (hj : j < hs.length), j < k → clashB hs[j] hs[k] = false := fun k hk => heldAt_iff.1 (h k hk)
    have hm : ∀ (k : Nat) (hk : k < hs.length), modeB hs[k].2.2 = true := fun k hk => holdB_mode (hh k hk).1
    refine ⟨(hh i hi).1, any_take_iff.2 fun k hk hki => ?_, any_iff.2 fun k hk => ?_⟩
    · have := (hh i hi).2 k hk hki
      simp only [ownB, clashB] at this ⊢
      cases hc : decide (hs[k].2.1 = hs[i].2.1)
      · simp
      · rw [hc] at this
        simp only [Bool.true_and, Bool.or_eq_false_iff] at this
        simp [this.1]
    · simp only [keepsB, fitF, hm k hk, hm i hi, Bool.true_and]
      rcases Nat.lt_trichotomy k i with hlt | rfl | hlt
      · have := (hh i hi).2 k hk hlt
        simp only [clashB] at this
        cases hc : decide (hs[k].2.1 = hs[i].2.1)
        · rfl
        · rw [hc] at this
          simp only [Bool.true_and, Bool.or_eq_false_iff] at this
          simp only [this.1, this.2, Bool.and_false]
      · simp
      · have := (hh k hk).2 i hi hlt
        simp only [clashB] at this
        cases hc : decide (hs[k].2.1 = hs[i].2.1)
        · rfl
        · have hc' : decide (hs[i].2.1 = hs[k].2.1) = true := by simpa using (of_decide_eq_true hc).symm
          rw [hc'] at this
          simp only [Bool.true_and, Bool.or_eq_false_iff] at this
          rw [fitB_symm, this.2]
          simp
end Go.Proofs.Ytjdmaoegfpgfjaa
namespace Go.Proofs.Ytjdmaoegfpgfjaa

/-- May x be held beside these, behind those of the line? -/
def mayB (held ahead : HS) (x : HD) : Bool := !(held.any fun h => keepsB h x) && (held.any (fun h => ownB h x) || !(ahead.any fun y => decide (y.2.1 = x.2.1)))
/-- With x in the place of what its own one has of the key, or else behind all. -/
def giveL (held : HS) (x : HD) : HS := if held.any (fun h => ownB h x) then held.map (fun h => if ownB h x then x else h) else held ++ [x]
def goneL (hs : HS) (t : Int) : HS := hs.filter fun x => !decide (x.1 = t)
def cutAt (l : HS) (i : Nat) : HS := l.take i ++ l.drop (i + 1)
/-- The first place of the line, from k on, that may be had: how many more. -/
def firstF (held line : HS) : Nat → Nat → Option Nat
  | _, 0 => none
  | k, f + 1 => if mayB held (line.take k) (line.getD k (0, ⟨#[]⟩, 0)) then some k else firstF held line (k + 1) f
def firstL (held line : HS) : Option Nat := firstF held line 0 line.length
/-- All that are woken. -/
def wakeF : Nat → HS → HS → List Int → HS × HS × List Int
  | 0, h, l, w => (h, l, w)
  | f + 1, h, l, w => match firstL h l with
    | none => (h, l, w)
    | some i => wakeF f (giveL h (l.getD i (0, ⟨#[]⟩, 0))) (cutAt l i) (w ++ [(l.getD i (0, ⟨#[]⟩, 0)).1])
/-- What Free answers for right locks. -/
def freeL (h l : HS) (t : Int) : HS × HS × List Int := wakeF (goneL l t).length (goneL h t) (goneL l t) []
/-- What Free answers. -/
def freeR (h l : HS) (t : Int) : HS × HS × List Int := if locksB h l then freeL h l t else ([], [], [])

theorem firstF_none {held line : HS} : ∀ (f k : Nat), firstF held line k f = none ↔ ∀ j, k ≤ j → j < k + f → mayB held (line.take j) (line.getD j (0, ⟨#[]⟩, 0)) = false
  | 0, k => by simp [firstF]; intro j h1 h2; omega
  | f + 1, k => by
    rw [firstF]
    cases hm : mayB held (line.take k) (line.getD k (0, ⟨#[]⟩, 0))
    · simp only [Bool.false_eq_true, if_false]
      rw [firstF_none f (k + 1)]
      constructor
      · intro h j h1 h2
        by_cases e : j = k
        · subst e; exact hm
        · exact h j (by omega) (by omega)
      · intro h j h1 h2
        exact h j (by omega) (by omega)
    · simp only [if_true]
      constructor
      · intro h; cases h
      · intro h
        have := h k (Nat.le_refl _) (by omega)
        rw [hm] at this
        cases this
theorem firstF_some {held line : HS} : ∀ (f k i : Nat), k ≤ i → i < k + f → (∀ j, k ≤ j → j < i → mayB held (line.take j) (line.getD j (0, ⟨#[]⟩, 0)) = false) → mayB held (line.take i) (line.getD i (0, ⟨#[]⟩, 0)) = true → firstF held line k f = some i
  | 0, k, i, h1, h2, _, _ => by omega
  | f + 1, k, i, h1, h2, hb, hi => by
    rw [firstF]
    by_cases e : k = i
    · subst e
      rw [hi, if_pos rfl]
    · rw [hb k (Nat.le_refl _) (by omega), if_neg (by simp)]
      exact firstF_some f (k + 1) i (by omega) (by omega) (fun j h3 h4 => hb j (by omega) h4) hi
/-- The line has been gone through up to k, and none may be had. -/
def noneMay (held line : HS) (k : Nat) : Prop := ∀ j, j < k → mayB held (line.take j) (line.getD j (0, ⟨#[]⟩, 0)) = false
theorem noneMay_zero (held line : HS) : noneMay held line 0 := fun j h => absurd h (by omega)
theorem noneMay_succ {held line : HS} {k : Nat} (h : noneMay held line k) (hk : k < line.length) (hm : mayB held (line.take k) line[k] = false) : noneMay held line (k + 1) := by
  intro j hj
  by_cases e : j = k
  · subst e
    rw [getD_hold hk]
    exact hm
  · exact h j (by omega)
theorem firstL_none {held line : HS} (h : noneMay held line line.length) : firstL held line = none := (firstF_none _ _).2 fun j _ hj => h j (by omega)
theorem firstL_at {held line : HS} {k : Nat} (h : noneMay held line k) (hk : k < line.length) (hm : mayB held (line.take k) line[k] = true) : firstL held line = some k :=
  firstF_some _ _ _ (Nat.zero_le _) (by omega) (fun j _ hj => h j hj) (by rw [getD_hold hk]; exact hm)
theorem firstL_lt {held line : HS} {i : Nat} (h : firstL held line = some i) : i < line.length := by
  have : ∀ (f k i : Nat), firstF held line k f = some i → i < k + f := by
    intro f
    induction f with
    | zero => intro k i h; simp [firstF] at h
    | succ f ih =>
      intro k i h
      rw [firstF] at h
      split at h
      · simp only [Option.some.injEq] at h
        omega
      · have := ih _ _ h
        omega
  have := this _ _ _ h
  omega
theorem cutAt_length {l : HS} {i : Nat} (h : i < l.length) : (cutAt l i).length = l.length - 1 := by
  simp [cutAt]
  omega
theorem cutAt_mem {l : HS} {i : Nat} {x : HD} (h : x ∈ cutAt l i) : x ∈ l := by
  rcases List.mem_append.1 h with h | h
  · exact List.mem_of_mem_take h
  · exact List.mem_of_mem_drop h

/-- All are right holds. -/
def HoldsB (hs : HS) : Prop := ∀ x ∈ hs, holdB x = true
theorem HoldsB.at_ {hs : HS} (h : HoldsB hs) {k : Nat} (hk : k < hs.length) : holdB hs[k] = true := h _ (List.getElem_mem hk)
theorem HoldsB.cut {l : HS} (h : HoldsB l) (i : Nat) : HoldsB (cutAt l i) := fun x hx => h x (cutAt_mem hx)
theorem HoldsB.gone {l : HS} (h : HoldsB l) (t : Int) : HoldsB (goneL l t) := fun x hx => h x (List.mem_filter.1 hx).1
theorem HoldsB.take {l : HS} (h : HoldsB l) (n : Nat) : HoldsB (l.take n) := fun x hx => h x (List.mem_of_mem_take hx)
theorem HoldsB.give {l : HS} (h : HoldsB l) {x : HD} (hx : holdB x = true) : HoldsB (giveL l x) := by
  intro y hy
  unfold giveL at hy
  split at hy
  · obtain ⟨z, hz, e⟩ := List.mem_map.1 hy
    split at e
    · rw [← e]; exact hx
    · rw [← e]; exact h z hz
  · rcases List.mem_append.1 hy with hy | hy
    · exact h y hy
    · rw [List.mem_singleton.1 hy]; exact hx
theorem HoldsB.fits {hs : HS} (h : HoldsB hs) : FitsH hs := by
  intro x hx
  have := h x hx
  simp only [holdB, Bool.and_eq_true, Bool.or_eq_true, decide_eq_true_eq] at this
  unfold maxLen
  rcases this.2.2.2 with h0 | h0
  · omega
  · have := keyB_size h0
    omega
/-- No two of one Txn and one key. -/
def Uniq (hs : HS) : Prop := hs.Pairwise fun a b => ownB a b = false
theorem ownB_symm (a b : HD) : ownB a b = ownB b a := by
  unfold ownB
  rw [decide_eq_decide.2 (show a.1 = b.1 ↔ b.1 = a.1 from eq_comm), decide_eq_decide.2 (show a.2.1 = b.2.1 ↔ b.2.1 = a.2.1 from eq_comm)]
theorem ownB_iff {a b : HD} : ownB a b = true ↔ a.1 = b.1 ∧ a.2.1 = b.2.1 := by simp [ownB]
theorem Uniq.gone {hs : HS} (h : Uniq hs) (t : Int) : Uniq (goneL hs t) := List.Pairwise.filter _ h
theorem heldsB_holds {hs : HS} (h : heldsB hs = true) : HoldsB hs := by
  intro x hx
  obtain ⟨i, hi, rfl⟩ := List.getElem_of_mem hx
  exact (heldAt_iff.1 (heldsB_iff.1 h i hi)).1
theorem linesB_holds {hs : HS} (h : linesB hs = true) : HoldsB hs := by
  intro x hx
  obtain ⟨i, hi, rfl⟩ := List.getElem_of_mem hx
  exact (lineAt_iff.1 (linesB_iff.1 h i hi)).1
theorem heldsB_uniq {hs : HS} (h : heldsB hs = true) : Uniq hs := by
  rw [Uniq, List.pairwise_iff_getElem]
  intro i j hi hj hij
  have := (heldAt_iff.1 (heldsB_iff.1 h j hj)).2 i hi hij
  rw [Bool.eq_false_iff]
  intro ho
  have ho := ownB_iff.1 ho
  simp [clashB, ho.1, ho.2] at this
theorem Uniq.give {hs : HS} (h : Uniq hs) (x : HD) : Uniq (giveL hs x) := by
  unfold giveL
  split
  · rename_i ha
    rw [Uniq, List.pairwise_map]
    refine List.Pairwise.imp ?_ h
    intro a b hab
    have key : ∀ {a b : HD}, ownB a b = false → ownB a x = true → ownB b x = true → False := by
      intro a b h1 h2 h3
      have h2 := ownB_iff.1 h2
      have h3 := ownB_iff.1 h3
      rw [Bool.eq_false_iff] at h1
      exact h1 (ownB_iff.2 ⟨h2.1.trans h3.1.symm, h2.2.trans h3.2.symm⟩)
    split
    · rename_i h1
      split
      · rename_i h2
        exact (key hab h1 h2).elim
      · rename_i h2
        rw [ownB_symm]
        simpa using h2
    · rename_i h1
      split
      · simpa using h1
      · exact hab
  · rename_i ha
    rw [Uniq, List.pairwise_append]
    refine ⟨h, List.pairwise_singleton _ _, fun a h1 b h2 => ?_⟩
    rw [List.mem_singleton.1 h2]
    rw [Bool.eq_false_iff]
    intro ho
    exact ha (List.any_eq_true.2 ⟨a, h1, ho⟩)
theorem giveL_length (hs : HS) (x : HD) : (giveL hs x).length ≤ hs.length + 1 := by
  unfold giveL
  split <;> simp
/-- In the first place of its own it is all of its own. -/
theorem give_set {hs : HS} (h : Uniq hs) {x : HD} {i : Nat} (hi : i < hs.length) (ho : ownB hs[i] x = true) : giveL hs x = hs.set i x := by
  rw [giveL, if_pos (List.any_eq_true.2 ⟨_, List.getElem_mem hi, ho⟩)]
  refine List.ext_getElem (by simp) fun j h1 h2 => ?_
  simp only [List.getElem_map, List.getElem_set]
  by_cases e : i = j
  · subst e
    rw [if_pos ho, if_pos rfl]
  · rw [if_neg e]
    rw [if_neg]
    intro hj
    have hj0 : j < hs.length := by simpa using h1
    have a1 := ownB_iff.1 ho
    have a2 := ownB_iff.1 hj
    have := List.pairwise_iff_getElem.1 h
    rcases Nat.lt_or_gt_of_ne e with hlt | hlt
    · have := this i j hi hj0 hlt
      rw [Bool.eq_false_iff] at this
      exact this (ownB_iff.2 ⟨a1.1.trans a2.1.symm, a1.2.trans a2.2.symm⟩)
    · have := this j i hj0 hi hlt
      rw [Bool.eq_false_iff] at this
      exact this (ownB_iff.2 ⟨a2.1.trans a1.1.symm, a2.2.trans a1.2.symm⟩)
theorem give_new {hs : HS} {x : HD} (h : (hs.any fun h => ownB h x) = false) : giveL hs x = hs ++ [x] := by
  rw [giveL, h]
  rfl
end Go.Proofs.Ytjdmaoegfpgfjaa
namespace Go.Proofs.Ytjdmaoegfpgfjaa
open Go.RowKit

/-- Edges: who waits, and for whom. -/
abbrev ED := Int × Int
abbrev ES := List ED
def ltE (y x : ED) : Bool := decide (y.1 < x.1) || (decide (y.1 = x.1) && decide (y.2 < x.2))
theorem ltE_iff {y x : ED} : ltE y x = true ↔ y.1 < x.1 ∨ (y.1 = x.1 ∧ y.2 < x.2) := by simp [ltE]
theorem ltE_no {y x : ED} : ltE y x = false ↔ ¬ (y.1 < x.1 ∨ (y.1 = x.1 ∧ y.2 < x.2)) := by rw [← ltE_iff]; simp
/-- Rising edges with one more. -/
def insE : ES → ED → ES
  | [], x => [x]
  | y :: r, x => if ltE y x then y :: insE r x else if y = x then y :: r else x :: y :: r
theorem insE_stop : ∀ (l : ES) (x : ED) (at_ : Nat), at_ ≤ l.length → (∀ (i : Nat) (h : i < l.length), i < at_ → ltE l[i] x = true) → (∀ h : at_ < l.length, ltE l[at_] x = false) →
    insE l x = if l[at_]? = some x then l else l.take at_ ++ x :: l.drop at_
  | [], x, at_, h, _, _ => by
    have : at_ = 0 := by simpa using h
    subst this
    simp [insE]
  | y :: r, x, 0, _, _, h3 => by
    have h := h3 (by simp)
    simp only [List.getElem_cons_zero] at h
    rw [insE, h]
    by_cases e : y = x <;> simp [e]
  | y :: r, x, k + 1, h1, h2, h3 => by
    have h := h2 0 (by simp) (by omega)
    simp only [List.getElem_cons_zero] at h
    rw [insE, h, if_pos rfl, insE_stop r x k (by simpa using h1) (fun i hi hk => by have := h2 (i + 1) (by simpa using hi) (by omega); simpa using this) (fun hk => by have := h3 (by simpa using hk); simpa using this)]
    simp only [List.getElem?_cons_succ, List.take_succ_cons, List.drop_succ_cons, List.cons_append]
    split <;> rfl
theorem insE_len (l : ES) (x : ED) : (insE l x).length ≤ l.length + 1 := by
  induction l with
  | nil => simp [insE]
  | cons y r ih =>
    rw [insE]
    split
    · simp; exact ih
    · split <;> simp
theorem mem_insE {l : ES} {x z : ED} : z ∈ insE l x ↔ z = x ∨ z ∈ l := by
  induction l with
  | nil => simp [insE]
  | cons y r ih =>
    rw [insE]
    split
    · simp [ih]
      constructor
      · rintro (h | h | h) <;> simp [h]
      · rintro (h | h | h) <;> simp [h]
    · split
      · rename_i h
        subst h
        simp
      · simp
def RisesE (l : ES) : Prop := l.Pairwise fun a b => ltE a b = true
theorem insE_rises {l : ES} (h : RisesE l) (x : ED) : RisesE (insE l x) := by
  induction l with
  | nil => simp [insE, RisesE]
  | cons y r ih =>
    unfold RisesE at h ih ⊢
    rw [List.pairwise_cons] at h
    rw [insE]
    split
    · rename_i hlt
      rw [List.pairwise_cons]
      refine ⟨fun z hz => ?_, ih h.2⟩
      rcases mem_insE.1 hz with rfl | hz
      · exact hlt
      · exact h.1 z hz
    · split
      · rw [List.pairwise_cons]; exact h
      · rename_i h1 h2
        rw [List.pairwise_cons]
        have hx : ltE x y = true := by
          rw [ltE_iff]
          rw [ltE_iff] at h1
          by_cases e : y.1 = x.1
          · have : y.2 ≠ x.2 := fun e2 => h2 (Prod.ext e e2)
            omega
          · omega
        refine ⟨fun z hz => ?_, List.pairwise_cons.2 h⟩
        rcases List.mem_cons.1 hz with rfl | hz
        · exact hx
        · have := h.1 z hz
          rw [ltE_iff] at *
          omega
/-- All of them, each once, rising. -/
def setE (raw : ES) : ES := raw.foldl insE []
theorem setE_snoc (raw : ES) (x : ED) : setE (raw ++ [x]) = insE (setE raw) x := by simp [setE]
theorem foldE_mem : ∀ (raw l : ES) (z : ED), z ∈ raw.foldl insE l ↔ z ∈ raw ∨ z ∈ l
  | [], l, z => by simp
  | x :: r, l, z => by
    rw [List.foldl_cons, foldE_mem r, mem_insE]
    simp only [List.mem_cons]
    constructor
    · rintro (h | h | h) <;> simp [h]
    · rintro ((h | h) | h) <;> simp [h]
theorem foldE_rises : ∀ (raw l : ES), RisesE l → RisesE (raw.foldl insE l)
  | [], _, h => h
  | x :: r, _, h => foldE_rises r _ (insE_rises h x)
theorem setE_mem {raw : ES} {z : ED} : z ∈ setE raw ↔ z ∈ raw := by rw [setE, foldE_mem]; simp
theorem setE_rises (raw : ES) : RisesE (setE raw) := foldE_rises raw [] List.Pairwise.nil
theorem setE_len (raw : ES) : (setE raw).length ≤ raw.length := by
  have : ∀ (raw l : ES), (raw.foldl insE l).length ≤ raw.length + l.length := by
    intro raw
    induction raw with
    | nil => simp
    | cons x r ih =>
      intro l
      have h1 := ih (insE l x)
      have h2 := insE_len l x
      simp only [List.foldl_cons, List.length_cons]
      omega
  have h := this raw []
  rw [List.length_nil, Nat.add_zero] at h
  exact h
/-- What rises is settled by what is in it. -/
theorem rises_unique : ∀ {a b : ES}, RisesE a → RisesE b → (∀ z, z ∈ a ↔ z ∈ b) → a = b
  | [], [], _, _, _ => rfl
  | [], y :: s, _, _, h => by have := (h y).2 (by simp); simp at this
  | x :: r, [], _, _, h => by have := (h x).1 (by simp); simp at this
  | x :: r, y :: s, h1, h2, h => by
    unfold RisesE at h1 h2
    rw [List.pairwise_cons] at h1 h2
    have hxy : x = y := by
      have a1 := (h x).1 (by simp)
      have a2 := (h y).2 (by simp)
      rcases List.mem_cons.1 a1 with e | a1
      · exact e
      rcases List.mem_cons.1 a2 with e | a2
      · exact e.symm
      have b1 := h2.1 x a1
      have b2 := h1.1 y a2
      rw [ltE_iff] at b1 b2
      omega
    subst hxy
    congr 1
    refine rises_unique h1.2 h2.2 fun z => ?_
    have hz := h z
    simp only [List.mem_cons] at hz
    constructor
    · intro hm
      rcases hz.1 (.inr hm) with rfl | h3
      · have := h1.1 z hm
        rw [ltE_iff] at this
        omega
      · exact h3
    · intro hm
      rcases hz.2 (.inr hm) with rfl | h3
      · have := h2.1 z hm
        rw [ltE_iff] at this
        omega
      · exact h3
/-- One of each of those that stand side by side. -/
def dedE : ES → ES
  | [] => []
  | x :: r => x :: (go x r)
where go : ED → ES → ES
  | _, [] => []
  | x, y :: r => if x = y then go x r else y :: go y r
theorem dedE_go_mem : ∀ (r : ES) (x z : ED), z ∈ dedE.go x r → z ∈ r
  | [], _, _, h => by simp [dedE.go] at h
  | y :: r, x, z, h => by
    rw [dedE.go] at h
    split at h
    · exact List.mem_cons_of_mem _ (dedE_go_mem r x z h)
    · rcases List.mem_cons.1 h with rfl | h
      · simp
      · exact List.mem_cons_of_mem _ (dedE_go_mem r y z h)
theorem dedE_go_has : ∀ (r : ES) (x z : ED), z ∈ r → z = x ∨ z ∈ dedE.go x r
  | [], _, _, h => by simp at h
  | y :: r, x, z, h => by
    rw [dedE.go]
    split
    · rename_i e
      subst e
      rcases List.mem_cons.1 h with rfl | h
      · exact .inl rfl
      · exact dedE_go_has r x z h
    · rcases List.mem_cons.1 h with rfl | h
      · right; simp
      · rcases dedE_go_has r y z h with rfl | h
        · right; simp
        · right; exact List.mem_cons_of_mem _ h
def UpE (l : ES) : Prop := l.Pairwise fun a b => ltE b a = false
theorem dedE_go_rises : ∀ (r : ES) (x : ED), UpE (x :: r) → RisesE (x :: dedE.go x r)
  | [], x, _ => by simp [dedE.go, RisesE]
  | y :: r, x, h => by
    unfold UpE at h
    rw [List.pairwise_cons] at h
    rw [dedE.go]
    split
    · rename_i e
      subst e
      exact dedE_go_rises r x h.2
    · rename_i hne
      have ih := dedE_go_rises r y h.2
      unfold RisesE at ih ⊢
      have hxy : ltE x y = true := by
        have := h.1 y (by simp)
        rw [ltE_no] at this
        rw [ltE_iff]
        by_cases e : x.1 = y.1
        · have : x.2 ≠ y.2 := fun e2 => hne (Prod.ext e e2)
          omega
        · omega
      rw [List.pairwise_cons]
      refine ⟨fun z hz => ?_, ih⟩
      rcases List.mem_cons.1 hz with rfl | hz
      · exact hxy
      · have := (List.pairwise_cons.1 ih).1 z hz
        rw [ltE_iff] at *
        omega
/-- Sorted, and one of each: the same. -/
theorem ded_set {raw s : ES} (hm : ∀ z, z ∈ s ↔ z ∈ raw) (hs : UpE s) : dedE s = setE raw := by
  refine rises_unique ?_ (setE_rises raw) fun z => ?_
  · cases s with
    | nil => exact List.Pairwise.nil
    | cons x r => exact dedE_go_rises r x hs
  · rw [setE_mem, ← hm]
    cases s with
    | nil => simp [dedE]
    | cons x r =>
      simp only [dedE, List.mem_cons]
      constructor
      · rintro (h | h)
        · exact .inl h
        · exact .inr (dedE_go_mem r x z h)
      · rintro (h | h)
        · exact .inl h
        · exact dedE_go_has r x z h
theorem dedE_len (s : ES) : (dedE s).length ≤ s.length := by
  have : ∀ (r : ES) (x : ED), (dedE.go x r).length ≤ r.length := by
    intro r
    induction r with
    | nil => intro x; simp [dedE.go]
    | cons y r ih =>
      intro x
      rw [dedE.go]
      split
      · have := ih x; simp; omega
      · have := ih y; simp; omega
  cases s with
  | nil => simp [dedE]
  | cons x r => have := this r x; simp [dedE]; omega

/-! ### the edges as they are found -/
def heldE (h : HS) (x : HD) : ES := (h.filter fun y => keepsB y x).map fun y => (x.1, y.1)
def aheadE (a : HS) (x : HD) : ES := (a.filter fun y => decide (y.2.1 = x.2.1)).map fun y => (x.1, y.1)
def lineE (h a : HS) (x : HD) : ES := if h.any (fun y => ownB y x) then [] else aheadE a x
def rawE (h l : HS) : Nat → ES
  | 0 => []
  | k + 1 => rawE h l k ++ match l[k]? with
    | some x => heldE h x ++ lineE h (l.take k) x
    | none => []
theorem rawE_succ {h l : HS} {k : Nat} (hk : k < l.length) : rawE h l (k + 1) = rawE h l k ++ (heldE h l[k] ++ lineE h (l.take k) l[k]) := by
  rw [rawE, List.getElem?_eq_getElem hk]
theorem take_snoc {α : Type} {l : List α} {m : Nat} (h : m < l.length) : l.take (m + 1) = l.take m ++ [l[m]] := List.take_succ_eq_append_getElem h
theorem heldE_yes {h : HS} {x : HD} {m : Nat} (hm : m < h.length) (e : keepsB h[m] x = true) : heldE (h.take (m + 1)) x = heldE (h.take m) x ++ [(x.1, h[m].1)] := by
  rw [take_snoc hm, heldE, heldE, List.filter_append, List.map_append]
  simp [e]
theorem heldE_no {h : HS} {x : HD} {m : Nat} (hm : m < h.length) (e : keepsB h[m] x = false) : heldE (h.take (m + 1)) x = heldE (h.take m) x := by
  rw [take_snoc hm, heldE, heldE, List.filter_append, List.map_append]
  simp [e]
theorem aheadE_yes {a : HS} {x : HD} {m : Nat} (hm : m < a.length) (e : a[m].2.1 = x.2.1) : aheadE (a.take (m + 1)) x = aheadE (a.take m) x ++ [(x.1, a[m].1)] := by
  rw [take_snoc hm, aheadE, aheadE, List.filter_append, List.map_append]
  simp [e]
theorem aheadE_no {a : HS} {x : HD} {m : Nat} (hm : m < a.length) (e : a[m].2.1 ≠ x.2.1) : aheadE (a.take (m + 1)) x = aheadE (a.take m) x := by
  rw [take_snoc hm, aheadE, aheadE, List.filter_append, List.map_append]
  simp [e]
theorem lineE_own {h a : HS} {x : HD} (e : (h.any fun y => ownB y x) = true) : lineE h a x = [] := by rw [lineE, e]; rfl
theorem lineE_not {h a : HS} {x : HD} (e : (h.any fun y => ownB y x) = false) : lineE h a x = aheadE a x := by rw [lineE, e]; rfl
theorem heldE_len (h : HS) (x : HD) : (heldE h x).length ≤ h.length := by rw [heldE, List.length_map]; exact List.length_filter_le _ _
theorem aheadE_len (a : HS) (x : HD) : (aheadE a x).length ≤ a.length := by rw [aheadE, List.length_map]; exact List.length_filter_le _ _
theorem lineE_len (h a : HS) (x : HD) : (lineE h a x).length ≤ a.length := by
  rw [lineE]
  split
  · simp
  · exact aheadE_len a x
theorem rawE_len (h l : HS) : ∀ k, k ≤ l.length → (rawE h l k).length ≤ k * (h.length + l.length)
  | 0, _ => by simp [rawE]
  | k + 1, hk => by
    rw [rawE_succ (by omega), List.length_append, List.length_append]
    have h1 := rawE_len h l k (by omega)
    have h2 := heldE_len h l[k]
    have h3 := lineE_len h (l.take k) l[k]
    have h4 : (l.take k).length ≤ l.length := by rw [List.length_take]; omega
    have h5 : (k + 1) * (h.length + l.length) = k * (h.length + l.length) + (h.length + l.length) := by rw [Nat.add_mul, Nat.one_mul]
    omega
/-- Who waits for whom. -/
def edgesL (h l : HS) : ES := setE (rawE h l l.length)
end Go.Proofs.Ytjdmaoegfpgfjaa
namespace Go.Proofs.Ytjdmaoegfpgfjaa
open Go.RowKit

/-- One edge, seen from a: none when it leads back to t. -/
def stepR (t a : Int) (r : Option (List Int)) (e : ED) : Option (List Int) := match r with
  | none => none
  | some r => if e.1 = a then (if e.2 = t then none else if e.2 ∈ r then some r else some (r ++ [e.2])) else some r
def scanR (t a : Int) (r : List Int) (es : ES) : Option (List Int) := es.foldl (stepR t a) (some r)
theorem scanR_snoc (t a : Int) (r : List Int) (es : ES) (e : ED) : scanR t a r (es ++ [e]) = stepR t a (scanR t a r es) e := by simp [scanR]
theorem scanR_take {t a : Int} {r : List Int} {es : ES} {k : Nat} (hk : k < es.length) : scanR t a r (es.take (k + 1)) = stepR t a (scanR t a r (es.take k)) es[k] := by
  rw [List.take_succ_eq_append_getElem hk, scanR_snoc]
theorem stepR_none (t a : Int) (es : ES) : es.foldl (stepR t a) none = none := by
  induction es with
  | nil => rfl
  | cons e es ih => exact ih
theorem scanR_found {t a : Int} {r : List Int} {es : ES} {k : Nat} (h : scanR t a r (es.take k) = none) : scanR t a r es = none := by
  rw [← List.take_append_drop k es, scanR, List.foldl_append]
  rw [scanR] at h
  rw [h, stepR_none]
/-- From the i-th on that was reached. -/
def roundF (es : ES) (t : Int) : Nat → Nat → List Int → Bool
  | 0, _, _ => false
  | f + 1, i, r => match r[i]? with
    | none => false
    | some a => match scanR t a r es with
      | none => true
      | some r' => roundF es t f (i + 1) r'
/-- Does t wait for itself? -/
def roundB (es : ES) (t : Int) : Bool := roundF es t (es.length + 2) 0 [t]

/-- What was reached: t first, each once, none but t and those that edges lead to. -/
structure Reach (es : ES) (t : Int) (r : List Int) : Prop where
  hd : ∃ s, r = t :: s ∧ t ∉ s
  nd : r.Nodup
  sub : ∀ x ∈ r, x = t ∨ x ∈ es.map (·.2)
theorem nodup_len {α : Type} [DecidableEq α] : ∀ {l m : List α}, l.Nodup → (∀ x ∈ l, x ∈ m) → l.length ≤ m.length
  | [], _, _, _ => Nat.zero_le _
  | x :: l, m, h, hs => by
    rw [List.nodup_cons] at h
    have h1 : l.length ≤ (m.erase x).length := nodup_len h.2 fun y hy => by
      have hne : y ≠ x := fun e => h.1 (by rw [← e]; exact hy)
      rw [List.mem_erase_of_ne hne]
      exact hs y (List.mem_cons_of_mem _ hy)
    rw [List.length_erase_of_mem (hs x (by simp))] at h1
    have : 0 < m.length := List.length_pos_of_mem (hs x (by simp))
    rw [List.length_cons]
    omega
theorem Reach.len {es : ES} {t : Int} {r : List Int} (h : Reach es t r) : r.length ≤ es.length + 1 := by
  have := nodup_len (m := t :: es.map (·.2)) h.nd fun x hx => by
    rcases h.sub x hx with rfl | hx
    · simp
    · exact List.mem_cons_of_mem _ hx
  simpa using this
theorem Reach.start (es : ES) (t : Int) : Reach es t [t] := ⟨⟨[], rfl, by simp⟩, by simp, fun x hx => by simp at hx; exact .inl hx⟩
theorem Reach.step {es : ES} {t a : Int} {r r' : List Int} {e : ED} (h : Reach es t r) (he : e ∈ es) (hs : stepR t a (some r) e = some r') : Reach es t r' := by
  simp only [stepR] at hs
  split at hs
  · split at hs
    · cases hs
    · split at hs
      · injection hs with hs; exact hs ▸ h
      · rename_i h2 h3
        injection hs with hs
        subst hs
        obtain ⟨⟨s, rfl, hts⟩, hnd, hsub⟩ := h
        refine ⟨⟨s ++ [e.2], rfl, ?_⟩, ?_, fun x hx => ?_⟩
        · simp only [List.mem_append, List.mem_singleton, not_or]
          exact ⟨hts, fun e' => h2 e'.symm⟩
        · rw [List.nodup_append]
          refine ⟨hnd, by simp, fun x hx y hy => ?_⟩
          simp only [List.mem_singleton] at hy
          subst hy
          exact fun e' => h3 (e' ▸ hx)
        · rcases List.mem_append.1 hx with hx | hx
          · exact hsub x hx
          · simp only [List.mem_singleton] at hx
            exact .inr (List.mem_map.2 ⟨e, he, hx.symm⟩)
  · injection hs with hs; exact hs ▸ h
theorem stepR_pre {t a : Int} {r r' : List Int} {e : ED} (hs : stepR t a (some r) e = some r') : ∃ s, r' = r ++ s := by
  simp only [stepR] at hs
  split at hs
  · split at hs
    · cases hs
    · split at hs
      · injection hs with hs; exact ⟨[], by simp [hs]⟩
      · injection hs with hs; exact ⟨_, hs.symm⟩
  · injection hs with hs; exact ⟨[], by simp [hs]⟩
theorem stepR_len {t a : Int} {r r' : List Int} {e : ED} (hs : stepR t a (some r) e = some r') : r.length ≤ r'.length ∧ r'.length ≤ r.length + 1 := by
  simp only [stepR] at hs
  split at hs
  · split at hs
    · cases hs
    · split at hs
      · injection hs with hs; subst hs; omega
      · injection hs with hs; subst hs; simp
  · injection hs with hs; subst hs; omega
/-- In a scan. -/
structure Scan (es : ES) (t a : Int) (r0 : List Int) (k : Nat) (r : List Int) : Prop where
  re : Reach es t r
  is_ : scanR t a r0 (es.take k) = some r
  pre : ∃ s, r = r0 ++ s
theorem Scan.start {es : ES} {t : Int} {r : List Int} (h : Reach es t r) (a : Int) : Scan es t a r 0 r := ⟨h, by simp [scanR], [], by simp⟩
theorem Scan.next {es : ES} {t a : Int} {r0 r r' : List Int} {k : Nat} (h : Scan es t a r0 k r) (hk : k < es.length) (hs : stepR t a (some r) es[k] = some r') : Scan es t a r0 (k + 1) r' :=
  ⟨h.re.step (List.getElem_mem hk) hs, by rw [scanR_take hk, h.is_, hs], by
    obtain ⟨s, e⟩ := h.pre
    obtain ⟨s', e'⟩ := stepR_pre hs
    exact ⟨s ++ s', by rw [e', e, List.append_assoc]⟩⟩
theorem Scan.ge {es : ES} {t a : Int} {r0 r : List Int} {k : Nat} (h : Scan es t a r0 k r) : r0.length ≤ r.length := by
  obtain ⟨s, e⟩ := h.pre
  rw [e, List.length_append]
  omega
theorem Scan.at_ {es : ES} {t a : Int} {r0 r : List Int} {k i : Nat} (h : Scan es t a r0 k r) (hi : i < r0.length) : r[i]? = some r0[i] := by
  obtain ⟨s, e⟩ := h.pre
  rw [e, List.getElem?_append_left hi, List.getElem?_eq_getElem hi]
theorem Scan.skip {es : ES} {t a : Int} {r0 r : List Int} {k : Nat} (h : Scan es t a r0 k r) (hk : k < es.length) (h1 : es[k].1 ≠ a) : Scan es t a r0 (k + 1) r := h.next hk (by simp [stepR, h1])
theorem Scan.old {es : ES} {t a : Int} {r0 r : List Int} {k : Nat} (h : Scan es t a r0 k r) (hk : k < es.length) (h1 : es[k].1 = a) (h2 : es[k].2 ≠ t) (h3 : es[k].2 ∈ r) : Scan es t a r0 (k + 1) r := h.next hk (by simp [stepR, h1, h2, h3])
theorem Scan.new {es : ES} {t a : Int} {r0 r : List Int} {k : Nat} (h : Scan es t a r0 k r) (hk : k < es.length) (h1 : es[k].1 = a) (h2 : es[k].2 ≠ t) (h3 : es[k].2 ∉ r) : Scan es t a r0 (k + 1) (r ++ [es[k].2]) := h.next hk (by simp [stepR, h1, h2, h3])
theorem Scan.found {es : ES} {t a : Int} {r0 r : List Int} {k : Nat} (h : Scan es t a r0 k r) (hk : k < es.length) (h1 : es[k].1 = a) (h2 : es[k].2 = t) : scanR t a r0 es = none :=
  scanR_found (k := k + 1) (by rw [scanR_take hk, h.is_]; simp [stepR, h1, h2])
theorem Scan.end_ {es : ES} {t a : Int} {r0 r : List Int} (h : Scan es t a r0 es.length r) : scanR t a r0 es = some r := by
  have := h.is_
  rwa [List.take_length] at this
/-- In the rounds. -/
structure Rnd (es : ES) (t : Int) (i : Nat) (r : List Int) : Prop where
  re : Reach es t r
  le : i ≤ r.length
  run : ∃ f, es.length + 2 ≤ f + i ∧ roundF es t f i r = roundB es t
theorem Rnd.start (es : ES) (t : Int) : Rnd es t 0 [t] := ⟨Reach.start es t, Nat.zero_le _, es.length + 2, by omega, rfl⟩
theorem Rnd.found {es : ES} {t : Int} {i : Nat} {r : List Int} (h : Rnd es t i r) (hi : i < r.length) (hs : scanR t r[i] r es = none) : roundB es t = true := by
  obtain ⟨f, hf, hr⟩ := h.run
  have := h.re.len
  cases f with
  | zero => omega
  | succ f =>
    rw [roundF, List.getElem?_eq_getElem hi] at hr
    simp only [hs] at hr
    exact hr.symm
theorem Rnd.next {es : ES} {t : Int} {i : Nat} {r r' : List Int} (h : Rnd es t i r) (hi : i < r.length) (hs : Scan es t r[i] r es.length r') : Rnd es t (i + 1) r' := by
  obtain ⟨f, hf, hr⟩ := h.run
  have := h.re.len
  cases f with
  | zero => omega
  | succ f =>
    rw [roundF, List.getElem?_eq_getElem hi] at hr
    simp only [hs.end_] at hr
    exact ⟨hs.re, by have := hs.ge; omega, f, by omega, hr⟩
theorem Rnd.done {es : ES} {t : Int} {i : Nat} {r : List Int} (h : Rnd es t i r) (hi : r.length ≤ i) : roundB es t = false := by
  obtain ⟨f, hf, hr⟩ := h.run
  have := h.re.len
  have := h.le
  cases f with
  | zero => omega
  | succ f =>
    rw [roundF, List.getElem?_eq_none hi] at hr
    exact hr.symm

/-! ### what one that asks is told -/
/-- The mode that is wanted, with what one has. -/
def wholeM (h : HS) (x : HD) : Int := match h.find? (fun y => ownB y x) with
  | some y => joinB y.2.2 x.2.2
  | none => x.2.2
def wholeH (h : HS) (x : HD) : HD := (x.1, x.2.1, wholeM h x)
def askL (h l : HS) (x : HD) : HS × HS × Int :=
  if mayB h l x then (giveL h x, l, 1) else if roundB (edgesL h (l ++ [x])) x.1 then (h, l, 3) else (h, l ++ [x], 2)
def askOk (h l : HS) (x : HD) : Bool := locksB h l && (holdB x && (!(l.any fun y => decide (y.1 = x.1)) && (decide (h.length < 100) && decide (l.length < 20))))
def askR (h l : HS) (x : HD) : HS × HS × Int := if askOk h l x then askL h l (wholeH h x) else ([], [], 4)
theorem wholeM_none {h : HS} {x : HD} (e : (h.any fun y => ownB y x) = false) : wholeM h x = x.2.2 := by
  have : h.find? (fun y => ownB y x) = none := List.find?_eq_none.2 fun y hy => by
    have := List.any_eq_false.1 e y hy
    simpa using this
  rw [wholeM, this]
theorem wholeM_at {h : HS} {x : HD} {k : Nat} (hk : k < h.length) (he : ownB h[k] x = true) (hn : ∀ (j : Nat) (hj : j < h.length), j < k → ownB h[j] x = false) : wholeM h x = joinB h[k].2.2 x.2.2 := by
  have : h.find? (fun y => ownB y x) = some h[k] := List.find?_eq_some_iff_getElem.2 ⟨he, k, hk, rfl, fun j hj => by
    rw [hn j (by omega) hj]
    rfl⟩
  rw [wholeM, this]
theorem wholeM_mode {h : HS} {x : HD} (hh : HoldsB h) (hx : holdB x = true) : modeB (wholeM h x) = true := by
  unfold wholeM
  split
  · rename_i y hy
    exact joinB_mode (holdB_mode (hh y (List.mem_of_find?_eq_some hy))) (holdB_mode hx)
  · exact holdB_mode hx
theorem wholeH_ok {h : HS} {x : HD} (hh : HoldsB h) (hx : holdB x = true) : holdB (wholeH h x) = true := by
  have hm := wholeM_mode hh hx
  simp only [holdB, Bool.and_eq_true] at hx ⊢
  exact ⟨hx.1, hx.2.1, hm, hx.2.2.2⟩
theorem ownB_whole (h : HS) (x y : HD) : ownB y (wholeH h x) = ownB y x := rfl
/-- What one has already in the mode that it wants it may have. -/
theorem may_mine {h l : HS} {x : HD} (hh : heldsB h = true) {y : HD} (hy : y ∈ h) (he : ownB y x = true) (hm : y.2.2 = x.2.2) : mayB h l x = true := by
  obtain ⟨k, hk, rfl⟩ := List.getElem_of_mem hy
  have h1 := (heldPB_iff.1 (by rw [heldPB_eq]; exact hh) k hk).2.2
  have he' := ownB_iff.1 he
  have e : h[k] = x := Prod.ext he'.1 (Prod.ext he'.2 hm)
  rw [e] at h1
  have h2 : (h.any fun y => ownB y x) = true := List.any_eq_true.2 ⟨_, List.getElem_mem hk, he⟩
  rw [mayB, h1, h2]
  rfl
theorem askOk_iff {h l : HS} {x : HD} : askOk h l x = true ↔ locksB h l = true ∧ holdB x = true ∧ (l.any fun y => decide (y.1 = x.1)) = false ∧ h.length < 100 ∧ l.length < 20 := by
  simp only [askOk, Bool.and_eq_true, Bool.not_eq_true', decide_eq_true_eq]
end Go.Proofs.Ytjdmaoegfpgfjaa
namespace Go.Proofs.Ytjdmaoegfpgfjaa
open Go.RowKit

def qcells (xs : List Int) : List Value := xs.map (.int .i64 ·)
theorem qcells_len (xs : List Int) : (qcells xs).length = xs.length := by simp [qcells]
/-- The row at place o of block g, in room for c. -/
def QI (T : TypeId) (w : World) (B g o c : Nat) (xs : List Int) : Prop :=
  ∃ C pre, pre.length = o ∧ o + c ≤ C ∧ xs.length ≤ c ∧ w.ownsRow B T 1 (.slice (some ⟨g, 0, none⟩) (o + xs.length) C) (o + xs.length) (qcells (pre ++ xs))
section
variable {T : TypeId} {w w' : World} {B g o c : Nat} {xs : List Int}
theorem QI.le (h : QI T w B g o c xs) : xs.length ≤ c := by
  obtain ⟨C, pre, h1, h2, h3, h4⟩ := h
  exact h3
theorem QI.lt (h : QI T w B g o c xs) : B ≤ g ∧ g < w.heap.size := by
  obtain ⟨C, pre, h1, h2, h3, h4⟩ := h
  exact World.ownsRow.lt h4 g rfl
theorem QI.of_own {A : Option Addr} (h : w.ownsRow B T 1 (.slice A xs.length c) xs.length (qcells xs)) (hA : A = some ⟨g, 0, none⟩) (hc : xs.length ≤ c) : QI T w B g 0 c xs := by
  subst hA
  exact ⟨c, [], rfl, by omega, hc, by simpa using h⟩
theorem QI.stay (h : QI T w B g o c xs) (hk : w'.heap[g]? = w.heap[g]?) : QI T w' B g o c xs := by
  obtain ⟨C, pre, h1, h2, h3, h4, h5⟩ := h
  refine ⟨C, pre, h1, h2, h3, h4, ?_⟩
  rcases h5 with ⟨hv, _⟩ | ⟨q, cap, cur, hv, hq, hh, r⟩
  · cases hv
  · injection hv with e1 e2 e3
    injection e1 with e1
    injection e1 with e1
    subst e1 e3
    exact .inr ⟨_, _, cur, rfl, hq, by rw [hk]; exact hh, r⟩
theorem QI.below (h : QI T w B g o c xs) (hb : Below w.heap.size w w') : QI T w' B g o c xs := h.stay (hb.block g h.lt.2)
theorem QI.far {row : Option Nat} (h : QI T w B g o c xs) (hg : w.grownBy w' row) (hne : some g ≠ row) : QI T w' B g o c xs := h.stay (hg.block g h.lt.2 hne)
theorem QI.cells (h : QI T w B g o c xs) (i : Nat) (x : Int) (hx : xs[i]? = some x) : w.cell? ⟨g, o + i, none⟩ = some (.int .i64 x) := by
  obtain ⟨C, pre, h1, h2, h3, h4⟩ := h
  have := h4.cells (g := g) rfl (o + i) (.int .i64 x) (by
    rw [qcells, List.getElem?_map, List.getElem?_append_right (by omega), show o + i - pre.length = i by omega, hx]
    rfl)
  rwa [Addr.add_lit, Nat.zero_add] at this
theorem own_room {n C k : Nat} {cs : List Value} (h : w.ownsRow B T 1 (.slice (some ⟨g, 0, none⟩) n C) n cs) (hk : n < k) (hC : k ≤ C) (hk1 : k = n + 1) : ∃ u, w.ownsRow B T 1 (.slice (some ⟨g, 0, none⟩) k C) k (cs ++ [u]) := by
  obtain ⟨h1, h2⟩ := h
  rcases h2 with ⟨hv, _⟩ | ⟨q, cap, cur, hv, hq, hh, hn, hm, hs, ht⟩
  · cases hv
  · injection hv with e1 e2 e3
    injection e1 with e1
    injection e1 with e1
    subst e1 e3
    have hlt : n < cur.toList.length := by simp only [Array.length_toList]; omega
    refine ⟨cur.toList[n], by simp [h1, hk1], .inr ⟨_, _, cur, rfl, hq, hh, hC, hm, hs, ?_⟩⟩
    subst hk1
    rw [Nat.mul_one] at ht ⊢
    rw [List.take_succ_eq_append_getElem hlt, ht]
/-- Without its first one. -/
theorem QI.pop {x : Int} (h : QI T w B g o c (x :: xs)) : QI T w B g (o + 1) (c - 1) xs := by
  obtain ⟨C, pre, h1, h2, h3, h4⟩ := h
  rw [List.length_cons] at h3
  refine ⟨C, pre ++ [x], by simp [h1], by omega, by omega, ?_⟩
  have e : pre ++ [x] ++ xs = pre ++ x :: xs := by simp
  rw [e]
  have e2 : o + (x :: xs).length = o + 1 + xs.length := by simp; omega
  rwa [e2] at h4
/-- The last one gone, at the end of the room. -/
theorem QI.pop1 {x : Int} (h : QI T w B g o 1 (x :: xs)) : xs = [] ∧ QI T w B g o 0 [] := by
  have hl := h.le
  rw [List.length_cons] at hl
  have hx : xs = [] := List.eq_nil_of_length_eq_zero (by omega)
  subst hx
  refine ⟨rfl, ?_⟩
  obtain ⟨C, pre, h1, h2, h3, h4, h5⟩ := h
  refine ⟨C, pre, h1, by omega, by simp, by simp [qcells_len, h1], ?_⟩
  rcases h5 with ⟨hv, _⟩ | ⟨q, cap, cur, hv, hq, hh, hn, hm, hs, ht⟩
  · cases hv
  · injection hv with e1 e2 e3
    injection e1 with e1
    injection e1 with e1
    subst e1 e3
    refine .inr ⟨_, _, cur, rfl, hq, hh, by simp; omega, hm, hs, ?_⟩
    simp only [List.length_nil, Nat.add_zero, Nat.mul_one, List.append_nil]
    have ht' := congrArg (List.take o) ht
    rw [List.take_take] at ht'
    rw [show min o ((o + [x].length) * 1) = o by simp] at ht'
    rw [ht', qcells, qcells, List.map_append, List.take_left' (by simp [h1])]
end

/-- One more behind it. -/
theorem wpList_append_qi {P : Program} (w : World) {ops : Array Oper} {rest : List Oper} {o : Oper} {a : Act} {Q : Exit → Act → World → Prop}
    (hgd : o.guard = none) (s x : Operand) (t : TypeId) (ho : o.op = Op.call { callee := Callee.builtin Builtin.append, args := #[s, x], argTypes := #[t, t] })
    (T : TypeId) (i : TypeInfo) (ht : P.underlying t = some (.slice T)) (hi : P.info? T = some i) (hz : i.zero = some (.int .i64 0)) (hsize : i.size = 1) (hby : i.bytes = 8)
    (B g q n c : Nat) (xs : List Int) (v : Int) (hs : a.eval s = .slice (some ⟨g, q, none⟩) n c) (hn : n = xs.length) (hown : QI T w B g q c xs)
    (ad : Addr) (m k : Nat) (hx : a.eval x = .slice (some ad) m k) (hm : m = 1) (hc : w.cell? ad = some (.int .i64 v)) (hB : B ≤ w.heap.size) (hlen : xs.length ≤ 4000000)
    (h : ∀ g' q' c' w', QI T w' B g' q' c' (xs ++ [v]) → w.grownBy w' (some g) → (g' = g ∨ w.heap.size ≤ g') → wpList P ops Q rest (a.put o.dst (.slice (some ⟨g', q', none⟩) (n + 1) c')) w') :
    wpList P ops Q (o :: rest) a w := by
  subst hn hm
  have hB1 := hB
  have hle := hown.le
  have hlt := hown.lt
  have hcell := hown.cells
  obtain ⟨C, pre, h1, h2, h3, h4⟩ := hown
  have had : ∀ j u, [Value.int .i64 v][j]? = some u → w.cell? (ad.add j) = some u := by
    intro j u hj
    cases j with
    | zero =>
      simp only [List.getElem?_cons_zero, Option.some.injEq] at hj
      subst hj
      have : ad.add 0 = ad := by unfold Addr.add; split <;> simp_all
      rw [this, hc]
    | succ j => simp at hj
  refine wpList_append_arg w hgd s x t ho T i (.int .i64 0) 1 8 ht hi hz hsize hby rfl (by omega) g q xs.length c (qcells xs) hs (by simp [qcells]) (fun j u hj => ?_) ad 1 k [.int .i64 v] hx rfl had (by simp [Value.oneCell']) (fun hr j hj => ?_) (by unfold maxLen; omega) (by omega) (fun hr => ?_) (fun hg v' w' ho' hgr => ?_)
  · rw [qcells, List.getElem?_map] at hj
    cases hxj : xs[j]? with
    | none => rw [hxj] at hj; cases hj
    | some y =>
      rw [hxj] at hj
      injection hj with hj
      subst hj
      exact hcell j y hxj
  · simp only [List.length_singleton] at hj
    obtain rfl : j = 0 := by omega
    obtain ⟨u, hu⟩ := own_room h4 (k := q + xs.length + 1) (by omega) (by omega) rfl
    rw [show q + xs.length * 1 + 0 = q + xs.length by omega]
    refine ⟨?_, hu.frozenAt _⟩
    rw [hu.cellAt (q + xs.length) (by omega), List.getElem?_append_right (by rw [qcells_len, List.length_append, h1]; omega)]
    rw [qcells_len, List.length_append, h1]
    simp
  · obtain ⟨u, hu⟩ := own_room h4 (k := q + xs.length + 1) (by omega) (by omega) rfl
    obtain ⟨s1, s2⟩ := hu.stored (q + xs.length) (.int .i64 v)
    rw [show q + xs.length * 1 = q + xs.length by omega]
    have e : w.setCells g (q + xs.length) [.int .i64 v] = w.setCell ⟨g, q + xs.length, none⟩ (.int .i64 v) := rfl
    rw [e]
    refine h g q c _ ⟨C, pre, h1, h2, by simp; omega, ?_⟩ s2 (.inl rfl)
    have el : q + (xs ++ [v]).length = q + xs.length + 1 := by simp; omega
    have ec : (qcells (pre ++ xs) ++ [u]).set (q + xs.length) (.int .i64 v) = qcells (pre ++ (xs ++ [v])) := by
      rw [List.set_append_right _ _ (by rw [qcells_len, List.length_append, h1]; omega), qcells_len, List.length_append, h1]
      simp [qcells]
    rw [el, ← ec]
    exact s1
  · rcases ho'.2 with ⟨hv, hn⟩ | ⟨q', cap', cur', hv, hq', hh', hn', hm', hs', ht'⟩
    · omega
    · subst hv
      have el : (xs ++ [v]).length = xs.length + 1 := by simp
      refine h q' 0 cap' w' ⟨cap', [], rfl, by omega, by rw [el]; omega, ?_⟩ ⟨hgr.os, hgr.tape, hgr.output, hgr.size, fun k hk _ => hgr.block k hk (by simp)⟩ (.inr hq')
      rw [Nat.zero_add, el, List.nil_append]
      have e2 : qcells xs ++ [.int .i64 v] = qcells (xs ++ [v]) := by simp [qcells]
      rw [← e2]
      exact ⟨ho'.1, .inr ⟨_, _, cur', rfl, by omega, hh', hn', hm', hs', ht'⟩⟩
end Go.Proofs.Ytjdmaoegfpgfjaa
