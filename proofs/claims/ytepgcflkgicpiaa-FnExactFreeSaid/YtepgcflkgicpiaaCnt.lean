/-
  Places in a list whose keys rise. Plain facts.
-/
import Derived.Test.YtepgcflkgicpiaaMem
namespace Go.Proofs.Ytepgcflkgicpiaa
/-- How many keys stand ahead of x. -/
def cnt (ps : PS) (x : ByteArray) : Nat := (ps.takeWhile fun p => ltS p.1 x).length
def hasK (ps : PS) (x : ByteArray) : Bool := ps.any fun p => decide (p.1 = x)
theorem cnt_le (ps : PS) (x : ByteArray) : cnt ps x ≤ ps.length := (List.takeWhile_sublist _).length_le
theorem cnt_eq : ∀ (ps : PS) (x : ByteArray) (a : Nat), a ≤ ps.length → (∀ i (h : i < ps.length), i < a → ltS ps[i].1 x = true) → (∀ i (h : i < ps.length), a ≤ i → ltS ps[i].1 x = false) → cnt ps x = a
  | [], _, a, ha, _, _ => by simp at ha; subst ha; rfl
  | p :: r, x, 0, _, _, h2 => by
    have := h2 0 (by simp) (Nat.le_refl _)
    simp only [List.getElem_cons_zero] at this
    simp [cnt, this]
  | p :: r, x, a + 1, ha, h1, h2 => by
    have h0 := h1 0 (by simp) (by omega)
    simp only [List.getElem_cons_zero] at h0
    have := cnt_eq r x a (by simpa using ha) (fun i h hi => h1 (i + 1) (by simpa using h) (by omega)) (fun i h hi => h2 (i + 1) (by simpa using h) (by omega))
    simp only [cnt] at this
    simp [cnt, h0, this]
theorem cnt_ahead : ∀ (ps : PS) (x : ByteArray) (i : Nat) (h : i < ps.length), i < cnt ps x → ltS ps[i].1 x = true
  | [], _, _, h, _ => by simp at h
  | p :: r, x, i, h, hi => by
    simp only [cnt, List.takeWhile_cons] at hi
    split at hi
    · cases i with
      | zero => assumption
      | succ i => simpa using cnt_ahead r x i (by simpa using h) (by simpa [cnt] using hi)
    · simp at hi
theorem cnt_at : ∀ (ps : PS) (x : ByteArray) (h : cnt ps x < ps.length), ltS (ps[cnt ps x]).1 x = false
  | [], _, h => by simp at h
  | p :: r, x, h => by
    cases hp : ltS p.1 x
    · have e : cnt (p :: r) x = 0 := by simp [cnt, hp]
      simp only [e, List.getElem_cons_zero]
      exact hp
    · have e : cnt (p :: r) x = cnt r x + 1 := by simp [cnt, hp]
      simp only [e, List.getElem_cons_succ]
      exact cnt_at r x (by rw [e] at h; simpa using h)
theorem cnt_behind {ps : PS} (hs : risesB ps = true) (x : ByteArray) (i : Nat) (h : i < ps.length) (hi : cnt ps x ≤ i) : ltS ps[i].1 x = false := by
  have h0 := cnt_at ps x (by omega)
  by_cases e : cnt ps x = i
  · subst e
    exact h0
  · rw [Bool.eq_false_iff]
    intro h'
    have := ltS_trans (rises_lt hs i (cnt ps x) (by omega) h) h'
    rw [h0] at this
    cases this
theorem hasK_iff {ps : PS} (hs : risesB ps = true) (x : ByteArray) : hasK ps x = true ↔ ∃ h : cnt ps x < ps.length, (ps[cnt ps x]).1 = x := by
  rw [hasK, List.any_eq_true]
  constructor
  · rintro ⟨p, hp, e⟩
    obtain ⟨i, hi, rfl⟩ := List.getElem_of_mem hp
    have e : ps[i].1 = x := by simpa using e
    have hc : cnt ps x = i := by
      subst e
      refine cnt_eq ps _ i (by omega) (fun j h hj => rises_lt hs i j hj hi) (fun j h hj => ?_)
      by_cases e : i = j
      · subst e
        exact ltS_irrefl _
      · exact ltS_asymm (rises_lt hs j i (by omega) h)
    subst hc
    exact ⟨hi, e⟩
  · rintro ⟨h, e⟩
    exact ⟨_, List.getElem_mem h, by simp [e]⟩
theorem hasK_end {ps : PS} (hs : risesB ps = true) {x : ByteArray} (h : ¬ cnt ps x < ps.length) : hasK ps x = false := by
  rw [Bool.eq_false_iff]
  intro h'
  exact h ((hasK_iff hs x).1 h').1
theorem hasK_no {ps : PS} (hs : risesB ps = true) {x : ByteArray} (h : cnt ps x < ps.length) (hne : (ps[cnt ps x]).1 ≠ x) : hasK ps x = false := by
  rw [Bool.eq_false_iff]
  intro h'
  exact hne ((hasK_iff hs x).1 h').2
theorem hasK_yes {ps : PS} (hs : risesB ps = true) {x : ByteArray} (h : cnt ps x < ps.length) (he : (ps[cnt ps x]).1 = x) : hasK ps x = true := (hasK_iff hs x).2 ⟨h, he⟩
theorem rises_not {ps : PS} (hs : risesB ps = true) {x : ByteArray} {m : Nat} (hm : m < ps.length) (h : ltS ps[m].1 x = false) : ∀ i (hi : i < ps.length), m ≤ i → ltS ps[i].1 x = false := by
  intro i hi hle
  by_cases e : m = i
  · subst e
    exact h
  · rw [Bool.eq_false_iff]
    intro h'
    have := ltS_trans (rises_lt hs i m (by omega) hi) h'
    rw [h] at this
    cases this
theorem rises_yes {ps : PS} (hs : risesB ps = true) {x : ByteArray} {m : Nat} (hm : m < ps.length) (h : ltS ps[m].1 x = true) : ∀ i (hi : i < ps.length), i < m + 1 → ltS ps[i].1 x = true := by
  intro i hi hle
  by_cases e : m = i
  · subst e
    exact h
  · exact ltS_trans (rises_lt hs m i (by omega) hm) h


theorem eqS_true {a b : ByteArray} (h : a = b) : (a.toList == b.toList) = true := by subst h; simp
theorem eqS_false {a b : ByteArray} (h : a ≠ b) : (a.toList == b.toList) = false := by
  rw [beq_eq_false_iff_ne]
  exact fun e => h (toList_inj e)
end Go.Proofs.Ytepgcflkgicpiaa
