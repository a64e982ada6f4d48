import Derived.Test.YtcjbjfhndjpmcaaPk28
/-
  Rising lists that have the same pairs are the same; what that says of maps. Plain facts.
-/
namespace Go.Proofs.Ytcjbjfhndjpmcaa

theorem rises_tail {p : BB} {r : PS} (h : risesB (p :: r) = true) : risesB r = true ∧ ∀ q ∈ r, ltS p.1 q.1 = true := by
  have h1 := rises_pw.1 h
  unfold Rises at h1
  rw [List.pairwise_cons] at h1
  exact ⟨rises_pw.2 h1.2, h1.1⟩
theorem rises_ext : ∀ {ps qs : PS}, risesB ps = true → risesB qs = true → (∀ x, x ∈ ps ↔ x ∈ qs) → ps = qs
  | [], [], _, _, _ => rfl
  | [], q :: _, _, _, h => absurd ((h q).2 (by simp)) (by simp)
  | p :: _, [], _, _, h => absurd ((h p).1 (by simp)) (by simp)
  | p :: r, q :: s, h1, h2, h => by
    obtain ⟨hr, hp⟩ := rises_tail h1
    obtain ⟨hs, hq⟩ := rises_tail h2
    have e : p = q := by
      rcases List.mem_cons.1 ((h p).1 (by simp)) with e | e
      · exact e
      · rcases List.mem_cons.1 ((h q).2 (by simp)) with e' | e'
        · exact e'.symm
        · have a := hq p e
          have b := hp q e'
          rw [ltS_asymm a] at b
          cases b
    subst e
    have : r = s := rises_ext hr hs fun x => by
      constructor
      · intro hx
        rcases List.mem_cons.1 ((h x).1 (by simp [hx])) with e | e
        · subst e
          have := hp x hx
          rw [ltS_irrefl] at this
          cases this
        · exact e
      · intro hx
        rcases List.mem_cons.1 ((h x).2 (by simp [hx])) with e | e
        · subst e
          have := hq x hx
          rw [ltS_irrefl] at this
          cases this
        · exact e
    rw [this]

theorem mem_takeWhile {l : PS} {q : BB → Bool} {x : BB} (h : x ∈ l.takeWhile q) : q x = true := by
  induction l with
  | nil => simp at h
  | cons a r ih =>
    rw [List.takeWhile_cons] at h
    split at h
    · rcases List.mem_cons.1 h with rfl | h
      · assumption
      · exact ih h
    · simp at h
theorem mem_putL {ps : PS} {k v : ByteArray} {p : BB} : p ∈ putL ps k v ↔ p = (k, v) ∨ (p ∈ ps ∧ p.1 ≠ k) := by
  have hsplit : ∀ x : BB, x ∈ ps ↔ x ∈ ps.takeWhile (fun p => ltS p.1 k) ∨ x ∈ ps.dropWhile (fun p => ltS p.1 k) := by
    intro x
    rw [← List.mem_append, List.takeWhile_append_dropWhile]
  unfold putL
  simp only [List.mem_append, List.mem_cons, List.mem_filter, decide_eq_true_eq]
  constructor
  · rintro (h | h | ⟨h1, h2⟩)
    · exact .inr ⟨(hsplit p).2 (.inl h), ltS_ne (mem_takeWhile h)⟩
    · exact .inl h
    · exact .inr ⟨(hsplit p).2 (.inr h1), h2⟩
  · rintro (h | ⟨h1, h2⟩)
    · exact .inr (.inl h)
    · rcases (hsplit p).1 h1 with h | h
      · exact .inl h
      · exact .inr (.inr ⟨h, h2⟩)
theorem mem_dropL {ps : PS} {k : ByteArray} {p : BB} : p ∈ dropL ps k ↔ p ∈ ps ∧ p.1 ≠ k := by
  unfold dropL
  simp [List.mem_filter]
theorem hasK_mem {ps : PS} {k : ByteArray} : hasK ps k = true ↔ ∃ p ∈ ps, p.1 = k := by
  simp [hasK, List.any_eq_true]
theorem hasK_not {ps : PS} {k : ByteArray} : hasK ps k = false ↔ ∀ p ∈ ps, p.1 ≠ k := by
  rw [Bool.eq_false_iff, ne_eq, hasK_mem]
  exact ⟨fun h p hp e => h ⟨p, hp, e⟩, fun h ⟨p, hp, e⟩ => h p hp e⟩

theorem drop_has (ps : PS) (k : ByteArray) : hasK (dropL ps k) k = false := hasK_not.2 fun _ hp => (mem_dropL.1 hp).2
/-- What was dropped and is put back. -/
theorem put_back {ps : PS} {k : ByteArray} (hm : mapB ps = true) (hk : hasK ps k = true) : putL (dropL ps k) k (valOf ps k) = ps := by
  have hs := (mapB_iff.1 hm).2.2
  obtain ⟨q, hq, he⟩ := hasK_mem.1 hk
  have hv := (val_mem hs hq).2
  rw [he] at hv
  refine rises_ext (putL_rises (mapB_iff.1 (dropL_map k hm)).2.2 _ _) hs fun x => ?_
  rw [mem_putL, mem_dropL, hv]
  constructor
  · rintro (rfl | ⟨h, _⟩)
    · rw [← he]; exact hq
    · exact h.1
  · intro hx
    by_cases e : x.1 = k
    · left
      have := rises_uniq hs hx hq (e.trans he.symm)
      rw [this, ← he]
    · exact .inr ⟨⟨hx, e⟩, e⟩
theorem key_in {ps : PS} {k : ByteArray} (hm : mapB ps = true) (hk : hasK ps k = true) : keyB k = true ∧ keyB (valOf ps k) = true := by
  obtain ⟨q, hq, he⟩ := hasK_mem.1 hk
  have hv := (val_mem (mapB_iff.1 hm).2.2 hq).2
  have := (mapB_iff.1 hm).2.1 q hq
  simp only [pairB, Bool.and_eq_true] at this
  rw [he] at hv
  rw [hv, ← he]
  exact this
/-- The put that takes a drop back is taken. -/
theorem put_back_yes {ps : PS} {k : ByteArray} (hm : mapB ps = true) (hk : hasK ps k = true) : putB (dropL ps k) k (valOf ps k) = true ∧ putR (dropL ps k) k (valOf ps k) = ps := by
  have h : putB (dropL ps k) k (valOf ps k) = true := by
    rw [putB, dropL_map k hm, (key_in hm hk).1, (key_in hm hk).2, put_back hm hk]
    simpa using (mapB_iff.1 hm).1
  exact ⟨h, by rw [putR, h, if_pos rfl, put_back hm hk]⟩

/-- Two puts of unlike keys. -/
theorem put_put {ps : PS} (hs : risesB ps = true) {k v l u : ByteArray} (hne : k ≠ l) : putL (putL ps k v) l u = putL (putL ps l u) k v := by
  refine rises_ext (putL_rises (putL_rises hs _ _) _ _) (putL_rises (putL_rises hs _ _) _ _) fun x => ?_
  simp only [mem_putL]
  constructor
  · rintro (rfl | ⟨rfl | ⟨h1, h2⟩, h3⟩)
    · exact .inr ⟨.inl rfl, fun e => hne e.symm⟩
    · exact .inl rfl
    · exact .inr ⟨.inr ⟨h1, h3⟩, h2⟩
  · rintro (rfl | ⟨rfl | ⟨h1, h2⟩, h3⟩)
    · exact .inr ⟨.inl rfl, hne⟩
    · exact .inl rfl
    · exact .inr ⟨.inr ⟨h1, h3⟩, h2⟩
theorem put_hasK {ps : PS} {k v l : ByteArray} (hne : k ≠ l) : hasK (putL ps k v) l = hasK ps l := by
  rw [Bool.eq_iff_iff, hasK_mem, hasK_mem]
  constructor
  · rintro ⟨p, hp, e⟩
    rcases mem_putL.1 hp with rfl | ⟨h, _⟩
    · exact absurd e hne
    · exact ⟨p, h, e⟩
  · rintro ⟨p, hp, e⟩
    exact ⟨p, mem_putL.2 (.inr ⟨hp, fun h => hne (h.symm.trans e)⟩), e⟩
theorem others_flag {ps : PS} {k v l u : ByteArray} (hp : putB ps k v = true) (hne : k ≠ l) : putB (putL ps k v) l u = (putB ps l u && putB (putR ps l u) k v) ∧ (putB (putL ps k v) l u = true → putR (putL ps k v) l u = putR (putR ps l u) k v) := by
  have hpp := hp
  simp only [putB, Bool.and_eq_true, decide_eq_true_eq] at hpp
  obtain ⟨hm, hk, hv, hl⟩ := hpp
  have hs := (mapB_iff.1 hm).2.2
  have hmL : mapB (putL ps k v) = true := by
    rw [putL_map hm hk hv]
    simpa using hl
  cases hkl : keyB l
  · have h1 : putB (putL ps k v) l u = false := by simp [putB, hkl]
    have h2 : putB ps l u = false := by simp [putB, hkl]
    rw [h1, h2]
    exact ⟨rfl, fun h => by cases h⟩
  · cases hku : keyB u
    · have h1 : putB (putL ps k v) l u = false := by simp [putB, hku]
      have h2 : putB ps l u = false := by simp [putB, hku]
      rw [h1, h2]
      exact ⟨rfl, fun h => by cases h⟩
    · have e1 := put_len (mapB_iff.1 hmL).2.2 l u
      have e2 := put_len hs l u
      have e3 := put_len hs k v
      rw [put_hasK hne] at e1
      have hc := put_put hs (v := v) (u := u) hne
      by_cases h60 : (putL ps l u).length ≤ 60
      · have h2 : putB ps l u = true := by simp [putB, hm, hkl, hku, h60]
        have hR : putR ps l u = putL ps l u := by rw [putR, h2, if_pos rfl]
        have hmR : mapB (putL ps l u) = true := by
          rw [putL_map hm hkl hku]
          simpa using h60
        have h3 : putB (putR ps l u) k v = decide ((putL (putL ps l u) k v).length ≤ 60) := by rw [hR]; simp [putB, hmR, hk, hv]
        have h1 : putB (putL ps k v) l u = decide ((putL (putL ps k v) l u).length ≤ 60) := by simp [putB, hmL, hkl, hku]
        rw [h1, h2, h3, hc]
        refine ⟨by simp, fun h => ?_⟩
        rw [putR, h1, hc, h, if_pos rfl, hR, putR, ← hR, h3, h, if_pos rfl, hR]
      · have h2 : putB ps l u = false := by simp [putB, h60]
        have h1 : putB (putL ps k v) l u = false := by
          have : ¬ (putL (putL ps k v) l u).length ≤ 60 := by
            rw [e1]
            rw [e2] at h60
            split at h60 <;> rename_i hh
            · rw [if_pos hh, e3]; split <;> omega
            · rw [if_neg hh, e3]; split <;> omega
          simp [putB, this]
        rw [h1, h2]
        exact ⟨rfl, fun h => by cases h⟩

/-! ### ranges -/
theorem cnt_mono {ps : PS} (hs : risesB ps = true) {a b : ByteArray} (h : ltS b a = false) : cnt ps a ≤ cnt ps b := by
  by_cases hle : cnt ps a ≤ cnt ps b
  · exact hle
  · have h1 := cnt_le ps a
    have h2 := cnt_ahead ps a (cnt ps b) (by omega) (by omega)
    have h3 := cnt_behind hs b (cnt ps b) (by omega) (Nat.le_refl _)
    by_cases e : b = (ps[cnt ps b]'(by omega)).1
    · rw [← e, h] at h2
      cases h2
    · have h4 := ltS_of_not h3 (Ne.symm e)
      have h5 := ltS_trans h4 h2
      rw [h] at h5
      cases h5
theorem ltS_empty {a e : ByteArray} (h : e.size = 0) : ltS a e = false := by
  have : e.toList = [] := by
    rw [ByteArray.toList_eq]
    have : e.data.size = 0 := h
    have h2 : e.data = #[] := Array.eq_empty_of_size_eq_zero this
    rw [h2]
  rw [ltS, this]
  cases a.toList <;> rfl
theorem cnt_empty {ps : PS} (e : ByteArray) (h : e.size = 0) : cnt ps e = 0 := by
  by_cases h0 : cnt ps e = 0
  · exact h0
  · have h1 := cnt_le ps e
    have := cnt_ahead ps e 0 (by omega) (by omega)
    rw [ltS_empty h] at this
    cases this
theorem take_drop_glue {α : Type} (l : List α) {a b c : Nat} (h1 : a ≤ b) (h2 : b ≤ c) : (l.drop a).take (b - a) ++ (l.drop b).take (c - b) = (l.drop a).take (c - a) := by
  rw [show c - a = (b - a) + (c - b) by omega, List.take_add, List.drop_drop, show a + (b - a) = b by omega]
/-- Two ranges that meet. -/
theorem range_glue {ps : PS} (hs : risesB ps = true) {lo mid hi : ByteArray} (hm : mid.size ≠ 0) (h1 : ltS mid lo = false) (h2 : hi.size = 0 ∨ ltS hi mid = false) : rangeL ps lo mid ++ rangeL ps mid hi = rangeL ps lo hi := by
  have t1 : toR ps mid = cnt ps mid := by rw [toR, if_neg hm]
  have t2 : cnt ps mid ≤ toR ps hi := by
    rw [toR]
    split
    · exact cnt_le _ _
    · rename_i h
      rcases h2 with h2 | h2
      · exact absurd h2 h
      · exact cnt_mono hs h2
  rw [sorted_range hs, sorted_range hs, sorted_range hs, t1]
  exact take_drop_glue ps (cnt_mono hs h1) t2
theorem range_all {ps : PS} (e e' : ByteArray) (h : e.size = 0) (h' : e'.size = 0) : rangeL ps e e' = ps := by
  rw [rangeL, List.filter_eq_self]
  intro p _
  simp [inR, ltS_empty h, h']
theorem rangeL_at {ps : PS} {lo hi : ByteArray} {k : Nat} (hk : k < ps.length) (h : inR lo hi ps[k] = true) : ∃ hl : (rangeL (ps.take k) lo hi).length < (rangeL ps lo hi).length, (rangeL ps lo hi)[(rangeL (ps.take k) lo hi).length] = ps[k] := by
  have e : ps = ps.take k ++ ps[k] :: ps.drop (k + 1) := by
    rw [List.getElem_cons_drop, List.take_append_drop]
  have e2 : rangeL ps lo hi = rangeL (ps.take k) lo hi ++ ps[k] :: rangeL (ps.drop (k + 1)) lo hi := by
    conv => lhs; rw [e, rangeL, List.filter_append, List.filter_cons, h]
    rfl
  have hl : (rangeL (ps.take k) lo hi).length < (rangeL ps lo hi).length := by rw [e2]; simp
  refine ⟨hl, ?_⟩
  simp only [e2]
  simp
end Go.Proofs.Ytcjbjfhndjpmcaa
