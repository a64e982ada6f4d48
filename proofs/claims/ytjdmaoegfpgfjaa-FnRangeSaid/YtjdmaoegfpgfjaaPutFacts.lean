/-
  What is put is got, all else as it was: plain facts.
-/
import Derived.Test.YtjdmaoegfpgfjaaPutDrop
namespace Go.Proofs.Ytjdmaoegfpgfjaa

theorem rises_uniq {L : PS} (hs : risesB L = true) {p q : BB} (hp : p ∈ L) (hq : q ∈ L) (e : p.1 = q.1) : p = q := by
  obtain ⟨i, hi, rfl⟩ := List.getElem_of_mem hp
  obtain ⟨j, hj, rfl⟩ := List.getElem_of_mem hq
  rcases Nat.lt_trichotomy i j with h | h | h
  · exact absurd e (ltS_ne (rises_lt hs j i h hj))
  · subst h; rfl
  · exact absurd e.symm (ltS_ne (rises_lt hs i j h hi))
theorem val_mem {L : PS} (hs : risesB L = true) {p : BB} (hp : p ∈ L) : hasK L p.1 = true ∧ valOf L p.1 = p.2 := by
  have h1 : hasK L p.1 = true := by
    rw [hasK, List.any_eq_true]
    exact ⟨p, hp, by simp⟩
  refine ⟨h1, ?_⟩
  obtain ⟨h, e⟩ := (hasK_iff hs p.1).1 h1
  rw [valOf_at h e, rises_uniq hs (List.getElem_mem h) hp e]
theorem get_mem {L : PS} (hm : mapB L = true) {p : BB} (hp : p ∈ L) : getB L p.1 = true ∧ getV L p.1 = p.2 := by
  have := val_mem (mapB_iff.1 hm).2.2 hp
  simp [getB, getV, hm, this.1, this.2]
theorem put_mem (ps : PS) (k v : ByteArray) : (k, v) ∈ putL ps k v := by simp [putL]
theorem put_keep {ps : PS} {k v : ByteArray} {p : BB} (hp : p ∈ ps) (hne : p.1 ≠ k) : p ∈ putL ps k v := by
  have h := List.takeWhile_append_dropWhile (p := fun p : BB => ltS p.1 k) (l := ps)
  rw [← h, List.mem_append] at hp
  rw [putL, List.mem_append, List.mem_cons]
  rcases hp with hp | hp
  · exact .inl hp
  · exact .inr (.inr (List.mem_filter.2 ⟨hp, by simpa using hne⟩))
theorem put_get {ps : PS} {k v : ByteArray} (hm : mapB (putL ps k v) = true) {p : BB} (hp : p ∈ ps) : getB (putL ps k v) p.1 = true ∧ (p.1 ≠ k → getV (putL ps k v) p.1 = p.2) := by
  by_cases e : p.1 = k
  · have := get_mem hm (put_mem ps k v)
    rw [e]
    exact ⟨this.1, fun h => absurd rfl h⟩
  · have := get_mem hm (put_keep (v := v) hp e)
    exact ⟨this.1, fun _ => this.2⟩
theorem put_again {ps : PS} {k v : ByteArray} (hm : mapB (putL ps k v) = true) : putL (putL ps k v) k v = putL ps k v := by
  have hs := (mapB_iff.1 hm).2.2
  obtain ⟨hk, hv⟩ := val_mem hs (put_mem ps k v)
  obtain ⟨h, e⟩ := (hasK_iff hs k).1 hk
  have hc : (putL ps k v)[cnt (putL ps k v) k] = (k, v) := rises_uniq hs (List.getElem_mem h) (put_mem ps k v) e
  rw [sorted_put hs, hk, if_pos rfl]
  conv => rhs; rw [← List.take_append_drop (cnt (putL ps k v) k) (putL ps k v), List.drop_eq_getElem_cons h, hc]
  rfl
theorem put_len {ps : PS} (hs : risesB ps = true) (k v : ByteArray) : (putL ps k v).length = if hasK ps k then ps.length else ps.length + 1 := by
  rw [sorted_put hs]
  have hcl := cnt_le ps k
  cases h : hasK ps k
  · simp
    omega
  · have := ((hasK_iff hs k).1 h).1
    simp
    omega
end Go.Proofs.Ytjdmaoegfpgfjaa
