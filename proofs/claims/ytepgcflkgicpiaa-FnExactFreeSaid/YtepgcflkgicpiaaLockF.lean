/-
  Locks: modes, holds, who keeps whom out. Plain facts.
-/
import Derived.Test.YtepgcflkgicpiaaLockMem
namespace Go.Proofs.Ytepgcflkgicpiaa

def modeB (m : Int) : Bool := decide (1 ≤ m) && decide (m ≤ 4)
/-- Two modes fit, taken as modes. -/
def fitB (a b : Int) : Bool := if a = 4 ∨ b = 4 then false else if a = 3 then decide (b ≠ 2) else if b = 3 then decide (a ≠ 2) else true
/-- What Fit answers. -/
def fitF (a b : Int) : Bool := modeB a && (modeB b && fitB a b)
/-- Two modes together, taken as modes. -/
def joinB (a b : Int) : Int := if (a = 2 ∧ b = 3) ∨ (a = 3 ∧ b = 2) then 4 else max a b
/-- What Both answers. -/
def bothF (a b : Int) : Int := if modeB a && modeB b then joinB a b else 0
theorem modeB_iff {m : Int} : modeB m = true ↔ 1 ≤ m ∧ m ≤ 4 := by simp [modeB]
theorem modeB_cases {m : Int} (h : modeB m = true) : m = 1 ∨ m = 2 ∨ m = 3 ∨ m = 4 := by
  rw [modeB_iff] at h
  omega
theorem fitB_symm (a b : Int) : fitB a b = fitB b a := by
  unfold fitB
  by_cases h1 : a = 4 <;> by_cases h2 : b = 4 <;> by_cases h3 : a = 3 <;> by_cases h4 : b = 3 <;> simp [h1, h2, h3, h4]
theorem fitF_symm (a b : Int) : fitF a b = fitF b a := by
  unfold fitF
  rw [fitB_symm a b]
  cases modeB a <;> cases modeB b <;> rfl
theorem joinB_comm (a b : Int) : joinB a b = joinB b a := by
  unfold joinB
  split <;> split <;> omega
theorem bothF_comm (a b : Int) : bothF a b = bothF b a := by
  unfold bothF
  rw [joinB_comm a b]
  cases modeB a <;> cases modeB b <;> rfl
theorem joinB_mode {a b : Int} (ha : modeB a = true) (hb : modeB b = true) : modeB (joinB a b) = true := by
  rw [modeB_iff] at *
  unfold joinB
  split <;> omega
theorem joinB_self {a : Int} : joinB a a = a := by
  unfold joinB
  split <;> omega
/-- What fits both together fits each. -/
theorem fit_join {a b m : Int} (ha : modeB a = true) (hb : modeB b = true) (hm : modeB m = true) (h : fitB (joinB a b) m = true) : fitB a m = true ∧ fitB b m = true := by
  rcases modeB_cases ha with rfl | rfl | rfl | rfl <;> rcases modeB_cases hb with rfl | rfl | rfl | rfl <;> rcases modeB_cases hm with rfl | rfl | rfl | rfl <;> revert h <;> decide
theorem join_join {a b : Int} (ha : modeB a = true) (hb : modeB b = true) : joinB (joinB a b) a = joinB a b := by
  rcases modeB_cases ha with rfl | rfl | rfl | rfl <;> rcases modeB_cases hb with rfl | rfl | rfl | rfl <;> decide

/-- A right hold. -/
def holdB (x : HD) : Bool := decide (1 ≤ x.1) && (decide (x.1 ≤ 1000) && (modeB x.2.2 && (decide (x.2.1.size = 0) || keyB x.2.1)))
/-- Two of one key that may not both be held. -/
def clashB (y x : HD) : Bool := decide (y.2.1 = x.2.1) && (decide (y.1 = x.1) || !fitB y.2.2 x.2.2)
/-- h, that is held, leaves no room for x of another one. -/
def keepsB (h x : HD) : Bool := decide (h.2.1 = x.2.1) && (!decide (h.1 = x.1) && !fitF h.2.2 x.2.2)
def ownB (h x : HD) : Bool := decide (h.1 = x.1) && decide (h.2.1 = x.2.1)
def heldAt (hs : HS) (k : Nat) (x : HD) : Bool := holdB x && !(hs.take k).any fun y => clashB y x
def lineAt (hs : HS) (k : Nat) (x : HD) : Bool := holdB x && !(hs.take k).any fun y => decide (y.1 = x.1)
/-- Held ones as they must be. -/
def heldsB (hs : HS) : Bool := (List.range hs.length).all fun i => heldAt hs i (hs.getD i (0, ⟨#[]⟩, 0))
def linesB (hs : HS) : Bool := (List.range hs.length).all fun i => lineAt hs i (hs.getD i (0, ⟨#[]⟩, 0))
/-- What LocksOk answers. -/
def locksB (h l : HS) : Bool := heldsB h && (linesB l && (decide (h.length ≤ 100) && decide (l.length ≤ 20)))
theorem getD_hold {hs : HS} {k : Nat} (hk : k < hs.length) {d : HD} : hs.getD k d = hs[k] := by simp [hk]
theorem heldsB_iff {hs : HS} : heldsB hs = true ↔ ∀ (i : Nat) (h : i < hs.length), heldAt hs i hs[i] = true := by
  rw [heldsB, List.all_eq_true]
  constructor
  · intro h i hi
    have := h i (List.mem_range.2 hi)
    rwa [getD_hold hi] at this
  · intro h i hi
    have hi' := List.mem_range.1 hi
    rw [getD_hold hi']
    exact h i hi'
theorem linesB_iff {hs : HS} : linesB hs = true ↔ ∀ (i : Nat) (h : i < hs.length), lineAt hs i hs[i] = true := by
  rw [linesB, List.all_eq_true]
  constructor
  · intro h i hi
    have := h i (List.mem_range.2 hi)
    rwa [getD_hold hi] at this
  · intro h i hi
    have hi' := List.mem_range.1 hi
    rw [getD_hold hi']
    exact h i hi'
theorem heldAt_iff {hs : HS} {k : Nat} {x : HD} : heldAt hs k x = true ↔ holdB x = true ∧ ∀ (i : Nat) (h : i < hs.length), i < k → clashB hs[i] x = false := by
  simp only [heldAt, Bool.and_eq_true, Bool.not_eq_true', List.any_eq_false]
  constructor
  · rintro ⟨h1, h2⟩
    refine ⟨h1, fun i hi hik => ?_⟩
    have := h2 hs[i] (List.mem_iff_getElem.2 ⟨i, by rw [List.length_take]; omega, by simp⟩)
    simpa using this
  · rintro ⟨h1, h2⟩
    refine ⟨h1, fun y hy => ?_⟩
    obtain ⟨i, hi, rfl⟩ := List.getElem_of_mem hy
    rw [List.length_take] at hi
    rw [List.getElem_take, h2 i (by omega) (by omega)]
    simp
theorem lineAt_iff {hs : HS} {k : Nat} {x : HD} : lineAt hs k x = true ↔ holdB x = true ∧ ∀ (i : Nat) (h : i < hs.length), i < k → hs[i].1 ≠ x.1 := by
  simp only [lineAt, Bool.and_eq_true, Bool.not_eq_true', List.any_eq_false]
  constructor
  · rintro ⟨h1, h2⟩
    refine ⟨h1, fun i hi hik => ?_⟩
    have := h2 hs[i] (List.mem_iff_getElem.2 ⟨i, by rw [List.length_take]; omega, by simp⟩)
    simpa using this
  · rintro ⟨h1, h2⟩
    refine ⟨h1, fun y hy => ?_⟩
    obtain ⟨i, hi, rfl⟩ := List.getElem_of_mem hy
    rw [List.length_take] at hi
    rw [List.getElem_take]
    simpa using h2 i (by omega) (by omega)
theorem holdB_mode {x : HD} (h : holdB x = true) : modeB x.2.2 = true := by
  simp only [holdB, Bool.and_eq_true] at h
  exact h.2.2.1
theorem locksB_iff {h l : HS} : locksB h l = true ↔ heldsB h = true ∧ linesB l = true ∧ h.length ≤ 100 ∧ l.length ≤ 20 := by
  simp [locksB]

/-- What the program asks of the held ones. -/
def heldPB (hs : HS) : Bool := (List.range hs.length).all fun i => holdB (hs.getD i (0, ⟨#[]⟩, 0)) && (!((hs.take i).any fun h => ownB h (hs.getD i (0, ⟨#[]⟩, 0))) && !(hs.any fun h => keepsB h (hs.getD i (0, ⟨#[]⟩, 0))))
theorem heldPB_iff {hs : HS} : heldPB hs = true ↔ ∀ (i : Nat) (h : i < hs.length), holdB hs[i] = true ∧ ((hs.take i).any fun y => ownB y hs[i]) = false ∧ (hs.any fun y => keepsB y hs[i]) = false := by
  rw [heldPB, List.all_eq_true]
  constructor
  · intro h i hi
    have := h i (List.mem_range.2 hi)
    rw [getD_hold hi] at this
    simpa only [Bool.and_eq_true, Bool.not_eq_true'] using this
  · intro h i hi
    have hi' := List.mem_range.1 hi
    rw [getD_hold hi']
    simpa only [Bool.and_eq_true, Bool.not_eq_true'] using h i hi'
theorem any_take_iff {hs : HS} {k : Nat} {p : HD → Bool} : ((hs.take k).any p) = false ↔ ∀ (i : Nat) (h : i < hs.length), i < k → p hs[i] = false := by
  rw [List.any_eq_false]
  constructor
  · intro h i hi hik
    have := h hs[i] (List.mem_iff_getElem.2 ⟨i, by rw [List.length_take]; omega, by simp⟩)
    simpa using this
  · intro h y hy
    obtain ⟨i, hi, rfl⟩ := List.getElem_of_mem hy
    rw [List.length_take] at hi
    rw [List.getElem_take, h i (by omega) (by omega)]
    simp
theorem any_iff {hs : HS} {p : HD → Bool} : (hs.any p) = false ↔ ∀ (i : Nat) (h : i < hs.length), p hs[i] = false := by
  have := any_take_iff (hs := hs) (k := hs.length) (p := p)
  rw [List.take_length] at this
  rw [this]
  exact ⟨fun h i hi => h i hi hi, fun h i hi _ => h i hi⟩
/-- Both ask the same. -/
theorem heldPB_eq (hs : HS) : heldPB hs = heldsB hs := by
  rw [Bool.eq_iff_iff, heldPB_iff, heldsB_iff]
  constructor
  · intro h i hi
    rw [heldAt_iff]
    refine ⟨(h i hi).1, fun k hk hki => ?_⟩
    have h1 := any_take_iff.1 (h i hi).2.1 k hk hki
    have h2 := any_iff.1 (h i hi).2.2 k hk
    have m1 := holdB_mode (h i hi).1
    have m2 := holdB_mode (h k hk).1
    simp only [ownB, keepsB, clashB, fitF, m1, m2, Bool.true_and] at h1 h2 ⊢
    cases hc : decide (hs[k].2.1 = hs[i].2.1)
    · rfl
    · rw [hc] at h1 h2
      simp only [Bool.and_true, Bool.true_and] at h1 h2 ⊢
      rw [h1] at h2 ⊢
      simpa using h2
  · intro h i hi
    have hh : ∀ (k : Nat) (hk : k < hs.length), holdB hs[k] = true ∧ ∀ (j : Nat) (hj : j < hs.length), j < k → clashB hs[j] hs[k] = false := fun k hk => heldAt_iff.1 (h k hk)
    have hm : ∀ (k : Nat) (hk : k < hs.length), modeB hs[k].2.2 = true := fun k hk => holdB_mode (hh k hk).1
    refine ⟨(hh i hi).1, any_take_iff.2 fun k hk hki => ?_, any_iff.2 fun k hk => ?_⟩
    · have := (hh i hi).2 k hk hki
      simp only [ownB, clashB] at this ⊢
      cases hc : decide (hs[k].2.1 = hs[i].2.1)
      · simp
      · rw [hc] at this
        simp only [Bool.true_and, Bool.or_eq_false_iff] at this
        simp [this.1]
    · simp only [keepsB, fitF, hm k hk, hm i hi, Bool.true_and]
      rcases Nat.lt_trichotomy k i with hlt | rfl | hlt
      · have := (hh i hi).2 k hk hlt
        simp only [clashB] at this
        cases hc : decide (hs[k].2.1 = hs[i].2.1)
        · rfl
        · rw [hc] at this
          simp only [Bool.true_and, Bool.or_eq_false_iff] at this
          simp only [this.1, this.2, Bool.and_false]
      · simp
      · have := (hh k hk).2 i hi hlt
        simp only [clashB] at this
        cases hc : decide (hs[k].2.1 = hs[i].2.1)
        · rfl
        · have hc' : decide (hs[i].2.1 = hs[k].2.1) = true := by simpa using (of_decide_eq_true hc).symm
          rw [hc'] at this
          simp only [Bool.true_and, Bool.or_eq_false_iff] at this
          rw [fitB_symm, this.2]
          simp
end Go.Proofs.Ytepgcflkgicpiaa
