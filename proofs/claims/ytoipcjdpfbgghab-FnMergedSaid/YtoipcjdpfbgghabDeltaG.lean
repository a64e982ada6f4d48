/-
  What changes lead to: to and back, one behind the other, merged with itself. Plain facts.
-/
import Derived.Test.YtoipcjdpfbgghabDeltaF
namespace Go.Proofs.Ytoipcjdpfbgghab

theorem prises_ext {l r : PS} (hl : Rises l) (hr : Rises r) (h : ∀ x, x ∈ l ↔ x ∈ r) : l = r := by
  induction l generalizing r with
  | nil =>
    cases r with
    | nil => rfl
    | cons y r => exact absurd ((h y).2 (by simp)) (by simp)
  | cons x l ih =>
    cases r with
    | nil => exact absurd ((h x).1 (by simp)) (by simp)
    | cons y r =>
      obtain ⟨a1, a2⟩ := List.pairwise_cons.1 hl
      obtain ⟨b1, b2⟩ := List.pairwise_cons.1 hr
      have e : x = y := by
        rcases List.mem_cons.1 ((h x).1 (by simp)) with e | hx
        · exact e
        · rcases List.mem_cons.1 ((h y).2 (by simp)) with e | hy
          · exact e.symm
          · have := ltS_trans (a1 y hy) (b1 x hx)
            rw [ltS_irrefl] at this
            cases this
      subst e
      congr 1
      refine ih a2 b2 fun z => ?_
      constructor
      · intro hz
        rcases List.mem_cons.1 ((h z).1 (List.mem_cons_of_mem _ hz)) with e | h'
        · subst e
          have := a1 z hz
          rw [ltS_irrefl] at this
          cases this
        · exact h'
      · intro hz
        rcases List.mem_cons.1 ((h z).2 (List.mem_cons_of_mem _ hz)) with e | h'
        · subst e
          have := b1 z hz
          rw [ltS_irrefl] at this
          cases this
        · exact h'
theorem prises_one {a : PS} (ha : Rises a) {p q : BB} (hp : p ∈ a) (hq : q ∈ a) (e : p.1 = q.1) : p = q := by
  obtain ⟨i, hi, rfl⟩ := List.getElem_of_mem hp
  obtain ⟨j, hj, rfl⟩ := List.getElem_of_mem hq
  have hs := rises_pw.2 ha
  rcases Nat.lt_trichotomy i j with h' | h' | h'
  · exact absurd e (ltS_ne (rises_lt hs j i h' hj))
  · simp only [h']
  · exact absurd e.symm (ltS_ne (rises_lt hs i j h' hi))
theorem hasK_mem {a : PS} {k : ByteArray} : hasK a k = true ↔ ∃ p ∈ a, p.1 = k := by simp [hasK, List.any_eq_true]
theorem hasK_not {a : PS} {k : ByteArray} (h : hasK a k = false) {p : BB} (hp : p ∈ a) : p.1 ≠ k := by
  intro e
  have : hasK a k = true := hasK_mem.2 ⟨p, hp, e⟩
  rw [h] at this
  cases this
theorem dropWhileP {m : PS} {k : ByteArray} {p : BB} (h : p ∈ m.takeWhile fun p => ltS p.1 k) : p.1 ≠ k := by
  induction m with
  | nil => simp at h
  | cons q r ih =>
    rw [List.takeWhile_cons] at h
    split at h
    · rename_i hq
      rcases List.mem_cons.1 h with rfl | h
      · exact ltS_ne hq
      · exact ih h
    · simp at h
theorem mem_putL {m : PS} {k v : ByteArray} {p : BB} : p ∈ putL m k v ↔ p = (k, v) ∨ (p ∈ m ∧ p.1 ≠ k) := by
  have h := List.takeWhile_append_dropWhile (p := fun p : BB => ltS p.1 k) (l := m)
  rw [putL, List.mem_append, List.mem_cons, List.mem_filter]
  constructor
  · rintro (h1 | h1 | ⟨h1, h2⟩)
    · exact .inr ⟨by rw [← h, List.mem_append]; exact .inl h1, dropWhileP h1⟩
    · exact .inl h1
    · exact .inr ⟨by rw [← h, List.mem_append]; exact .inr h1, by simpa using h2⟩
  · rintro (h1 | ⟨h1, h2⟩)
    · exact .inr (.inl h1)
    · rw [← h, List.mem_append] at h1
      rcases h1 with h1 | h1
      · exact .inl h1
      · exact .inr (.inr ⟨h1, by simpa using h2⟩)
theorem mem_stepL {m : PS} {x : CD} {p : BB} : p ∈ stepL m x ↔ (x.2.2 = false ∧ p = (x.1, x.2.1)) ∨ (p ∈ m ∧ p.1 ≠ x.1) := by
  unfold stepL
  split
  · rename_i hx
    rw [dropL, List.mem_filter]
    simp [hx]
  · rename_i hx
    rw [mem_putL]
    simp [hx]
theorem mem_applyL {l : CS} (hl : CRises l) {m : PS} (hs : risesB m = true) (p : BB) : p ∈ applyL m l ↔ (∃ x ∈ l, x.2.2 = false ∧ p = (x.1, x.2.1)) ∨ (p ∈ m ∧ ∀ x ∈ l, x.1 ≠ p.1) := by
  induction l generalizing m with
  | nil => simp [applyL]
  | cons y l ih =>
    obtain ⟨b1, b2⟩ := List.pairwise_cons.1 hl
    have e : applyL m (y :: l) = applyL (stepL m y) l := rfl
    rw [e, ih b2 (stepL_rises hs y), mem_stepL]
    constructor
    · rintro (⟨x, hx, h1, h2⟩ | ⟨⟨h1, rfl⟩ | ⟨h1, h2⟩, h3⟩)
      · exact .inl ⟨x, List.mem_cons_of_mem _ hx, h1, h2⟩
      · exact .inl ⟨y, by simp, h1, rfl⟩
      · refine .inr ⟨h1, fun x hx => ?_⟩
        rcases List.mem_cons.1 hx with rfl | hx
        · exact fun e => h2 e.symm
        · exact h3 x hx
    · rintro (⟨x, hx, h1, rfl⟩ | ⟨h1, h2⟩)
      · rcases List.mem_cons.1 hx with rfl | hx
        · exact .inr ⟨.inl ⟨h1, rfl⟩, fun z hz e => ltS_ne (b1 z hz) e.symm⟩
        · exact .inl ⟨x, hx, h1, rfl⟩
      · exact .inr ⟨.inr ⟨h1, fun e => h2 y (by simp) e.symm⟩, fun x hx => h2 x (List.mem_cons_of_mem _ hx)⟩

/-! ### What makes one of another one -/
theorem putsL_iff {a b : PS} (ha : risesB a = true) (x : CD) : x ∈ putsL a b ↔ ∃ q ∈ b, q ∉ a ∧ x = putOf q := by
  rw [putsL, List.mem_map]
  constructor
  · rintro ⟨q, hq, rfl⟩
    obtain ⟨h1, h2⟩ := List.mem_filter.1 hq
    refine ⟨q, h1, fun h => ?_, rfl⟩
    rw [← there_iff ha q] at h2
    have : (a.any fun z => decide (z = q)) = true := List.any_eq_true.2 ⟨q, h, by simp⟩
    rw [this] at h2
    cases h2
  · rintro ⟨q, h1, h2, rfl⟩
    refine ⟨q, List.mem_filter.2 ⟨h1, ?_⟩, rfl⟩
    rw [← there_iff ha q]
    have : (a.any fun z => decide (z = q)) = false := by
      rw [List.any_eq_false]
      intro z hz
      simp only [decide_eq_true_eq]
      rintro rfl
      exact h2 hz
    rw [this]
    rfl
theorem goneL_iff (a b : PS) (x : CD) : x ∈ goneL a b ↔ ∃ q ∈ a, hasK b q.1 = false ∧ x = goneOf q := by
  rw [goneL, List.mem_map]
  constructor
  · rintro ⟨q, hq, rfl⟩
    obtain ⟨h1, h2⟩ := List.mem_filter.1 hq
    exact ⟨q, h1, by simpa using h2, rfl⟩
  · rintro ⟨q, h1, h2, rfl⟩
    exact ⟨q, List.mem_filter.2 ⟨h1, by simpa using h2⟩, rfl⟩
theorem deltaL_iff {a b : PS} (ha : risesB a = true) (hb : risesB b = true) (x : CD) : x ∈ deltaL a b ↔ (∃ q ∈ b, q ∉ a ∧ x = putOf q) ∨ (∃ q ∈ a, hasK b q.1 = false ∧ x = goneOf q) := by
  rw [deltaL, mem_ovl (goneL_rises ha b) (putsL_rises hb a), putsL_iff ha, goneL_iff]
  constructor
  · rintro (h | ⟨h, _⟩)
    · exact .inl h
    · exact .inr h
  · rintro (h | h)
    · exact .inl h
    · refine .inr ⟨h, fun y hy => ?_⟩
      obtain ⟨q, _, h2, rfl⟩ := h
      obtain ⟨r, hr, _, rfl⟩ := (putsL_iff ha y).1 hy
      exact hasK_not h2 hr
theorem apply_delta {a b : PS} (ha : risesB a = true) (hb : risesB b = true) : applyL a (deltaL a b) = b := by
  refine prises_ext (rises_pw.1 (applyL_rises ha _)) (rises_pw.1 hb) fun p => ?_
  rw [mem_applyL (deltaL_rises ha hb) ha]
  constructor
  · rintro (⟨x, hx, h1, rfl⟩ | ⟨h1, h2⟩)
    · rcases (deltaL_iff ha hb x).1 hx with ⟨q, h3, _, rfl⟩ | ⟨q, _, _, rfl⟩
      · exact h3
      · cases h1
    · cases hk : hasK b p.1
      · exact absurd rfl (h2 (goneOf p) ((deltaL_iff ha hb _).2 (.inr ⟨p, h1, hk, rfl⟩)))
      · obtain ⟨q, hq, e⟩ := hasK_mem.1 hk
        by_cases hqa : q ∈ a
        · rw [prises_one (rises_pw.1 ha) h1 hqa e.symm]
          exact hq
        · exact absurd e (h2 (putOf q) ((deltaL_iff ha hb _).2 (.inl ⟨q, hq, hqa, rfl⟩)))
  · intro hp
    by_cases hpa : p ∈ a
    · refine .inr ⟨hpa, fun x hx e => ?_⟩
      rcases (deltaL_iff ha hb x).1 hx with ⟨q, h3, h4, rfl⟩ | ⟨q, _, h4, rfl⟩
      · have e : q.1 = p.1 := e
        rw [prises_one (rises_pw.1 hb) h3 hp e] at h4
        exact h4 hpa
      · exact hasK_not h4 hp e.symm
    · exact .inl ⟨putOf p, (deltaL_iff ha hb _).2 (.inl ⟨p, hp, hpa, rfl⟩), rfl, rfl⟩
theorem delta_none {a : PS} (ha : risesB a = true) : deltaL a a = [] := by
  rw [List.eq_nil_iff_forall_not_mem]
  intro x hx
  rcases (deltaL_iff ha ha x).1 hx with ⟨q, h3, h4, _⟩ | ⟨q, h3, h4, _⟩
  · exact h4 h3
  · exact hasK_not h4 h3 rfl
def keyOf (x : CD) : CD := (x.1, ⟨#[]⟩, false)
theorem delta_keys {a b : PS} (ha : risesB a = true) (hb : risesB b = true) {x : CD} (hx : x ∈ deltaL a b) : ∃ y ∈ deltaL b a, keyOf y = keyOf x := by
  rcases (deltaL_iff ha hb x).1 hx with ⟨q, h3, h4, rfl⟩ | ⟨q, h3, h4, rfl⟩
  · cases hk : hasK a q.1
    · exact ⟨goneOf q, (deltaL_iff hb ha _).2 (.inr ⟨q, h3, hk, rfl⟩), rfl⟩
    · obtain ⟨p, hp, e⟩ := hasK_mem.1 hk
      refine ⟨putOf p, (deltaL_iff hb ha _).2 (.inl ⟨p, hp, fun h => ?_, rfl⟩), by simp [keyOf, putOf, e]⟩
      rw [prises_one (rises_pw.1 hb) h h3 e] at hp
      exact h4 hp
  · exact ⟨putOf q, (deltaL_iff hb ha _).2 (.inl ⟨q, h3, fun h => hasK_not h4 h rfl, rfl⟩), rfl⟩
theorem delta_same_len {a b : PS} (ha : risesB a = true) (hb : risesB b = true) : (deltaL b a).length = (deltaL a b).length := by
  have h : (deltaL b a).map keyOf = (deltaL a b).map keyOf := by
    refine crises_ext (List.pairwise_map.2 (deltaL_rises hb ha)) (List.pairwise_map.2 (deltaL_rises ha hb)) fun z => ?_
    rw [List.mem_map, List.mem_map]
    constructor
    · rintro ⟨x, hx, rfl⟩
      exact delta_keys hb ha hx
    · rintro ⟨x, hx, rfl⟩
      exact delta_keys ha hb hx
  simpa using congrArg List.length h

/-! ### One behind the other -/
theorem apply_ovl {m : PS} {a b : CS} (hm : risesB m = true) (ha : CRises a) (hb : CRises b) : applyL (applyL m a) b = applyL m (ovl a b) := by
  refine prises_ext (rises_pw.1 (applyL_rises (applyL_rises hm _) _)) (rises_pw.1 (applyL_rises hm _)) fun p => ?_
  rw [mem_applyL hb (applyL_rises hm _), mem_applyL ha hm, mem_applyL (ovl_rises ha hb) hm]
  constructor
  · rintro (⟨x, hx, h1, rfl⟩ | ⟨⟨x, hx, h1, rfl⟩ | ⟨h1, h2⟩, h3⟩)
    · exact .inl ⟨x, (mem_ovl ha hb x).2 (.inl hx), h1, rfl⟩
    · exact .inl ⟨x, (mem_ovl ha hb x).2 (.inr ⟨hx, h3⟩), h1, rfl⟩
    · refine .inr ⟨h1, fun x hx => ?_⟩
      rcases (mem_ovl ha hb x).1 hx with hx | ⟨hx, _⟩
      · exact h3 x hx
      · exact h2 x hx
  · rintro (⟨x, hx, h1, rfl⟩ | ⟨h1, h2⟩)
    · rcases (mem_ovl ha hb x).1 hx with hx | ⟨hx, h3⟩
      · exact .inl ⟨x, hx, h1, rfl⟩
      · exact .inr ⟨.inl ⟨x, hx, h1, rfl⟩, h3⟩
    · have hB : ∀ x ∈ b, x.1 ≠ p.1 := fun x hx => h2 x ((mem_ovl ha hb x).2 (.inl hx))
      refine .inr ⟨.inr ⟨h1, fun x hx e => ?_⟩, hB⟩
      exact h2 x ((mem_ovl ha hb x).2 (.inr ⟨hx, fun y hy => by rw [e]; exact hB y hy⟩)) e
theorem ovl_same {a : CS} : ovl a a = a := by
  induction a with
  | nil => rw [ovl_nil]
  | cons x a ih => rw [ovl_eq rfl, ih]
/-- Changed again it stays. -/
theorem apply_again {m : PS} {l : CS} (hm : risesB m = true) (hl : CRises l) : applyL (applyL m l) l = applyL m l := by rw [apply_ovl hm hl hl, ovl_same]

/-! ### Merged with itself -/
theorem hasC_mem {l : CS} {x : CD} (h : x ∈ l) : hasC l x.1 = true := by
  rw [hasC_any, List.any_eq_true]
  exact ⟨x, h, by simp⟩
theorem findC_mem {l : CS} (hs : CRises l) {x : CD} (h : x ∈ l) : findC l x.1 = x := by
  induction l with
  | nil => simp at h
  | cons y l ih =>
    obtain ⟨a1, a2⟩ := List.pairwise_cons.1 hs
    rcases List.mem_cons.1 h with rfl | h
    · simp [findC]
    · have e : decide (y.1 = x.1) = false := by simpa using ltS_ne (a1 x h)
      have := ih a2 h
      rw [findC, List.find?_cons, e]
      exact this
theorem more_same (l : CS) : moreL l l = [] := by
  rw [moreL, List.filter_eq_nil_iff]
  intro x hx
  rw [hasC_mem hx]
  simp
theorem unlike_same {l : CS} (hs : CRises l) : unlikeL l l = [] := by
  rw [unlikeL, List.map_eq_nil_iff, List.filter_eq_nil_iff]
  intro x hx
  rw [findC_mem hs hx]
  simp
theorem more_none (x : CS) : moreL x [] = [] := rfl
theorem unlike_none (x : CS) : unlikeL x [] = [] := rfl
theorem more_all (y : CS) : moreL [] y = y := by
  rw [moreL, List.filter_eq_self]
  intro x _
  rw [hasC_any]
  rfl
theorem unlike_all (y : CS) : unlikeL [] y = [] := by
  rw [unlikeL, List.map_eq_nil_iff, List.filter_eq_nil_iff]
  intro x _
  rw [hasC_any]
  simp
theorem merge_same {m a : PS} (hm : risesB m = true) (ha : risesB a = true) : mergeL m a a = a ∧ mergeU m a a = [] := by
  rw [mergeL, mergeU, more_same, unlike_same (deltaL_rises hm ha)]
  exact ⟨rfl, rfl⟩
theorem merge_left {m a : PS} (hm : risesB m = true) : mergeL m a m = a ∧ mergeU m a m = [] := by
  rw [mergeL, mergeU, delta_none hm]
  exact ⟨rfl, rfl⟩
theorem merge_right {m a : PS} (hm : risesB m = true) (ha : risesB a = true) : mergeL m m a = a ∧ mergeU m m a = [] := by
  rw [mergeL, mergeU, delta_none hm, more_all, unlike_all]
  exact ⟨apply_delta hm ha, rfl⟩
end Go.Proofs.Ytoipcjdpfbgghab
