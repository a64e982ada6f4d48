/-
  A right map stays right: plain facts.
-/
import Derived.Test.YtaiehccpefjbfaaLists
namespace Go.Proofs.Ytaiehccpefjbfaa

def Rises (ps : PS) : Prop := ps.Pairwise fun p q => ltS p.1 q.1 = true
theorem rises_pw {ps : PS} : risesB ps = true ↔ Rises ps := by
  rw [Rises, List.pairwise_iff_getElem]
  constructor
  · intro h i j hi hj hij
    exact rises_lt h j i hij hj
  · intro h
    exact (rises_iff ps).2 fun i hi => h i (i + 1) (by omega) hi (by omega)
theorem putL_rises {ps : PS} (hs : risesB ps = true) (k v : ByteArray) : risesB (putL ps k v) = true := by
  have hs' := rises_pw.1 hs
  rw [rises_pw, putL, Rises, List.pairwise_append, List.pairwise_cons]
  have hb : ∀ q ∈ (ps.dropWhile fun p => ltS p.1 k).filter (fun p => decide (p.1 ≠ k)), ltS k q.1 = true := by
    intro q hq
    obtain ⟨h1, h2⟩ := List.mem_filter.1 hq
    rw [dropWhile_cnt] at h1
    obtain ⟨i, hi, rfl⟩ := List.getElem_of_mem h1
    rw [List.getElem_drop] at h2 ⊢
    simp only [List.length_drop] at hi
    exact ltS_of_not (cnt_behind hs k _ (by omega) (by omega)) (by simpa using h2)
  have ha : ∀ p ∈ ps.takeWhile fun p => ltS p.1 k, ltS p.1 k = true := by
    intro p hp
    rw [takeWhile_cnt] at hp
    obtain ⟨i, hi, rfl⟩ := List.getElem_of_mem hp
    rw [List.getElem_take]
    simp only [List.length_take] at hi
    exact cnt_ahead ps k i (by omega) (by omega)
  refine ⟨List.Pairwise.sublist (List.takeWhile_sublist _) hs', ⟨hb, List.Pairwise.sublist (List.filter_sublist.trans (List.dropWhile_sublist _)) hs'⟩, fun p hp q hq => ?_⟩
  rcases List.mem_cons.1 hq with rfl | hq
  · exact ha p hp
  · exact ltS_trans (ha p hp) (hb q hq)
theorem putL_mem {ps : PS} {k v : ByteArray} {p : BB} (h : p ∈ putL ps k v) : p ∈ ps ∨ p = (k, v) := by
  rw [putL, List.mem_append, List.mem_cons] at h
  rcases h with h | h | h
  · exact .inl ((List.takeWhile_sublist _).subset h)
  · exact .inr h
  · exact .inl ((List.dropWhile_sublist _).subset (List.mem_filter.1 h).1)
theorem putL_map {ps : PS} {k v : ByteArray} (hm : mapB ps = true) (hk : keyB k = true) (hv : keyB v = true) : mapB (putL ps k v) = decide ((putL ps k v).length ≤ 60) := by
  obtain ⟨_, h2, h3⟩ := mapB_iff.1 hm
  have h4 : (putL ps k v).all pairB = true := by
    rw [List.all_eq_true]
    intro p hp
    rcases putL_mem hp with h | rfl
    · exact h2 p h
    · simp [pairB, hk, hv]
  rw [mapB, h4, putL_rises h3]
  simp
theorem sub_map {ps qs : PS} (h : List.Sublist qs ps) (hm : mapB ps = true) : mapB qs = true := by
  obtain ⟨h1, h2, h3⟩ := mapB_iff.1 hm
  exact mapB_iff.2 ⟨Nat.le_trans h.length_le h1, fun p hp => h2 p (h.subset hp), rises_pw.2 (List.Pairwise.sublist h (rises_pw.1 h3))⟩
theorem dropL_map {ps : PS} (k : ByteArray) (hm : mapB ps = true) : mapB (dropL ps k) = true := sub_map List.filter_sublist hm
theorem rangeL_map {ps : PS} (lo hi : ByteArray) (hm : mapB ps = true) : mapB (rangeL ps lo hi) = true := sub_map List.filter_sublist hm
theorem putL_len_le (ps : PS) (k v : ByteArray) : (putL ps k v).length ≤ ps.length + 1 := by
  have h := List.takeWhile_append_dropWhile (p := fun p : BB => ltS p.1 k) (l := ps)
  have h1 := congrArg List.length h
  rw [List.length_append] at h1
  rw [putL, List.length_append, List.length_cons]
  refine Nat.le_trans (Nat.add_le_add_left (Nat.succ_le_succ (List.length_filter_le _ _)) _) ?_
  omega

/-- What Put answers. -/
def putB (ps : PS) (k v : ByteArray) : Bool := mapB ps && (keyB k && (keyB v && decide ((putL ps k v).length ≤ 60)))
def putR (ps : PS) (k v : ByteArray) : PS := if putB ps k v then putL ps k v else []
/-- What Drop answers. -/
def dropR (ps : PS) (k : ByteArray) : PS := if mapB ps && hasK ps k then dropL ps k else []
/-- What Range answers. -/
def rangeR (ps : PS) (lo hi : ByteArray) : PS := if mapB ps then rangeL ps lo hi else []
end Go.Proofs.Ytaiehccpefjbfaa
