/-
  Locks: what may be held, what is had, who is woken. Plain facts.
-/
import Derived.Test.YtepgcflkgicpiaaLockF
namespace Go.Proofs.Ytepgcflkgicpiaa

/-- May x be held beside these, behind those of the line? -/
def mayB (held ahead : HS) (x : HD) : Bool := !(held.any fun h => keepsB h x) && (held.any (fun h => ownB h x) || !(ahead.any fun y => decide (y.2.1 = x.2.1)))
/-- With x in the place of what its own one has of the key, or else behind all. -/
def giveL (held : HS) (x : HD) : HS := if held.any (fun h => ownB h x) then held.map (fun h => if ownB h x then x else h) else held ++ [x]
def goneL (hs : HS) (t : Int) : HS := hs.filter fun x => !decide (x.1 = t)
def cutAt (l : HS) (i : Nat) : HS := l.take i ++ l.drop (i + 1)
/-- The first place of the line, from k on, that may be had: how many more. -/
def firstF (held line : HS) : Nat → Nat → Option Nat
  | _, 0 => none
  | k, f + 1 => if mayB held (line.take k) (line.getD k (0, ⟨#[]⟩, 0)) then some k else firstF held line (k + 1) f
def firstL (held line : HS) : Option Nat := firstF held line 0 line.length
/-- All that are woken. -/
def wakeF : Nat → HS → HS → List Int → HS × HS × List Int
  | 0, h, l, w => (h, l, w)
  | f + 1, h, l, w => match firstL h l with
    | none => (h, l, w)
    | some i => wakeF f (giveL h (l.getD i (0, ⟨#[]⟩, 0))) (cutAt l i) (w ++ [(l.getD i (0, ⟨#[]⟩, 0)).1])
/-- What Free answers for right locks. -/
def freeL (h l : HS) (t : Int) : HS × HS × List Int := wakeF (goneL l t).length (goneL h t) (goneL l t) []

theorem firstF_none {held line : HS} : ∀ (f k : Nat), firstF held line k f = none ↔ ∀ j, k ≤ j → j < k + f → mayB held (line.take j) (line.getD j (0, ⟨#[]⟩, 0)) = false
  | 0, k => by simp [firstF]; intro j h1 h2; omega
  | f + 1, k => by
    rw [firstF]
    cases hm : mayB held (line.take k) (line.getD k (0, ⟨#[]⟩, 0))
    · simp only [Bool.false_eq_true, if_false]
      rw [firstF_none f (k + 1)]
      constructor
      · intro h j h1 h2
        by_cases e : j = k
        · subst e; exact hm
        · exact h j (by omega) (by omega)
      · intro h j h1 h2
        exact h j (by omega) (by omega)
    · simp only [if_true]
      constructor
      · intro h; cases h
      · intro h
        have := h k (Nat.le_refl _) (by omega)
        rw [hm] at this
        cases this
theorem firstF_some {held line : HS} : ∀ (f k i : Nat), k ≤ i → i < k + f → (∀ j, k ≤ j → j < i → mayB held (line.take j) (line.getD j (0, ⟨#[]⟩, 0)) = false) → mayB held (line.take i) (line.getD i (0, ⟨#[]⟩, 0)) = true → firstF held line k f = some i
  | 0, k, i, h1, h2, _, _ => by omega
  | f + 1, k, i, h1, h2, hb, hi => by
    rw [firstF]
    by_cases e : k = i
    · subst e
      rw [hi, if_pos rfl]
    · rw [hb k (Nat.le_refl _) (by omega), if_neg (by simp)]
      exact firstF_some f (k + 1) i (by omega) (by omega) (fun j h3 h4 => hb j (by omega) h4) hi
/-- The line has been gone through up to k, and none may be had. -/
def noneMay (held line : HS) (k : Nat) : Prop := ∀ j, j < k → mayB held (line.take j) (line.getD j (0, ⟨#[]⟩, 0)) = false
theorem noneMay_zero (held line : HS) : noneMay held line 0 := fun j h => absurd h (by omega)
theorem noneMay_succ {held line : HS} {k : Nat} (h : noneMay held line k) (hk : k < line.length) (hm : mayB held (line.take k) line[k] = false) : noneMay held line (k + 1) := by
  intro j hj
  by_cases e : j = k
  · subst e
    rw [getD_hold hk]
    exact hm
  · exact h j (by omega)
theorem firstL_none {held line : HS} (h : noneMay held line line.length) : firstL held line = none := (firstF_none _ _).2 fun j _ hj => h j (by omega)
theorem firstL_at {held line : HS} {k : Nat} (h : noneMay held line k) (hk : k < line.length) (hm : mayB held (line.take k) line[k] = true) : firstL held line = some k :=
  firstF_some _ _ _ (Nat.zero_le _) (by omega) (fun j _ hj => h j hj) (by rw [getD_hold hk]; exact hm)
theorem firstL_lt {held line : HS} {i : Nat} (h : firstL held line = some i) : i < line.length := by
  have : ∀ (f k i : Nat), firstF held line k f = some i → i < k + f := by
    intro f
    induction f with
    | zero => intro k i h; simp [firstF] at h
    | succ f ih =>
      intro k i h
      rw [firstF] at h
      split at h
      · simp only [Option.some.injEq] at h
        omega
      · have := ih _ _ h
        omega
  have := this _ _ _ h
  omega
theorem cutAt_length {l : HS} {i : Nat} (h : i < l.length) : (cutAt l i).length = l.length - 1 := by
  simp [cutAt]
  omega
theorem cutAt_mem {l : HS} {i : Nat} {x : HD} (h : x ∈ cutAt l i) : x ∈ l := by
  rcases List.mem_append.1 h with h | h
  · exact List.mem_of_mem_take h
  · exact List.mem_of_mem_drop h

/-- All are right holds. -/
def HoldsB (hs : HS) : Prop := ∀ x ∈ hs, holdB x = true
theorem HoldsB.at_ {hs : HS} (h : HoldsB hs) {k : Nat} (hk : k < hs.length) : holdB hs[k] = true := h _ (List.getElem_mem hk)
theorem HoldsB.cut {l : HS} (h : HoldsB l) (i : Nat) : HoldsB (cutAt l i) := fun x hx => h x (cutAt_mem hx)
theorem HoldsB.gone {l : HS} (h : HoldsB l) (t : Int) : HoldsB (goneL l t) := fun x hx => h x (List.mem_filter.1 hx).1
theorem HoldsB.take {l : HS} (h : HoldsB l) (n : Nat) : HoldsB (l.take n) := fun x hx => h x (List.mem_of_mem_take hx)
theorem HoldsB.give {l : HS} (h : HoldsB l) {x : HD} (hx : holdB x = true) : HoldsB (giveL l x) := by
  intro y hy
  unfold giveL at hy
  split at hy
  · obtain ⟨z, hz, e⟩ := List.mem_map.1 hy
    split at e
    · rw [← e]; exact hx
    · rw [← e]; exact h z hz
  · rcases List.mem_append.1 hy with hy | hy
    · exact h y hy
    · rw [List.mem_singleton.1 hy]; exact hx
theorem HoldsB.fits {hs : HS} (h : HoldsB hs) : FitsH hs := by
  intro x hx
  have := h x hx
  simp only [holdB, Bool.and_eq_true, Bool.or_eq_true, decide_eq_true_eq] at this
  unfold maxLen
  rcases this.2.2.2 with h0 | h0
  · omega
  · have := keyB_size h0
    omega
/-- No two of one Txn and one key. -/
def Uniq (hs : HS) : Prop := hs.Pairwise fun a b => ownB a b = false
theorem ownB_symm (a b : HD) : ownB a b = ownB b a := by
  unfold ownB
  rw [decide_eq_decide.2 (show a.1 = b.1 ↔ b.1 = a.1 from eq_comm), decide_eq_decide.2 (show a.2.1 = b.2.1 ↔ b.2.1 = a.2.1 from eq_comm)]
theorem ownB_iff {a b : HD} : ownB a b = true ↔ a.1 = b.1 ∧ a.2.1 = b.2.1 := by simp [ownB]
theorem Uniq.gone {hs : HS} (h : Uniq hs) (t : Int) : Uniq (goneL hs t) := List.Pairwise.filter _ h
theorem heldsB_holds {hs : HS} (h : heldsB hs = true) : HoldsB hs := by
  intro x hx
  obtain ⟨i, hi, rfl⟩ := List.getElem_of_mem hx
  exact (heldAt_iff.1 (heldsB_iff.1 h i hi)).1
theorem linesB_holds {hs : HS} (h : linesB hs = true) : HoldsB hs := by
  intro x hx
  obtain ⟨i, hi, rfl⟩ := List.getElem_of_mem hx
  exact (lineAt_iff.1 (linesB_iff.1 h i hi)).1
theorem heldsB_uniq {hs : HS} (h : heldsB hs = true) : Uniq hs := by
  rw [Uniq, List.pairwise_iff_getElem]
  intro i j hi hj hij
  have := (heldAt_iff.1 (heldsB_iff.1 h j hj)).2 i hi hij
  rw [Bool.eq_false_iff]
  intro ho
  have ho := ownB_iff.1 ho
  simp [clashB, ho.1, ho.2] at this
theorem Uniq.give {hs : HS} (h : Uniq hs) (x : HD) : Uniq (giveL hs x) := by
  unfold giveL
  split
  · rename_i ha
    rw [Uniq, List.pairwise_map]
    refine List.Pairwise.imp ?_ h
    intro a b hab
    have key : ∀ {a b : HD}, ownB a b = false → ownB a x = true → ownB b x = true → False := by
      intro a b h1 h2 h3
      have h2 := ownB_iff.1 h2
      have h3 := ownB_iff.1 h3
      rw [Bool.eq_false_iff] at h1
      exact h1 (ownB_iff.2 ⟨h2.1.trans h3.1.symm, h2.2.trans h3.2.symm⟩)
    split
    · rename_i h1
      split
      · rename_i h2
        exact (key hab h1 h2).elim
      · rename_i h2
        rw [ownB_symm]
        simpa using h2
    · rename_i h1
      split
      · simpa using h1
      · exact hab
  · rename_i ha
    rw [Uniq, List.pairwise_append]
    refine ⟨h, List.pairwise_singleton _ _, fun a h1 b h2 => ?_⟩
    rw [List.mem_singleton.1 h2]
    rw [Bool.eq_false_iff]
    intro ho
    exact ha (List.any_eq_true.2 ⟨a, h1, ho⟩)
theorem giveL_length (hs : HS) (x : HD) : (giveL hs x).length ≤ hs.length + 1 := by
  unfold giveL
  split <;> simp
/-- In the first place of its own it is all of its own. -/
theorem give_set {hs : HS} (h : Uniq hs) {x : HD} {i : Nat} (hi : i < hs.length) (ho : ownB hs[i] x = true) : giveL hs x = hs.set i x := by
  rw [giveL, if_pos (List.any_eq_true.2 ⟨_, List.getElem_mem hi, ho⟩)]
  refine List.ext_getElem (by simp) fun j h1 h2 => ?_
  simp only [List.getElem_map, List.getElem_set]
  by_cases e : i = j
  · subst e
    rw [if_pos ho, if_pos rfl]
  · rw [if_neg e]
    rw [if_neg]
    intro hj
    have hj0 : j < hs.length := by simpa using h1
    have a1 := ownB_iff.1 ho
    have a2 := ownB_iff.1 hj
    have := List.pairwise_iff_getElem.1 h
    rcases Nat.lt_or_gt_of_ne e with hlt | hlt
    · have := this i j hi hj0 hlt
      rw [Bool.eq_false_iff] at this
      exact this (ownB_iff.2 ⟨a1.1.trans a2.1.symm, a1.2.trans a2.2.symm⟩)
    · have := this j i hj0 hi hlt
      rw [Bool.eq_false_iff] at this
      exact this (ownB_iff.2 ⟨a2.1.trans a1.1.symm, a2.2.trans a1.2.symm⟩)
theorem give_new {hs : HS} {x : HD} (h : (hs.any fun h => ownB h x) = false) : giveL hs x = hs ++ [x] := by
  rw [giveL, h]
  rfl
end Go.Proofs.Ytepgcflkgicpiaa
