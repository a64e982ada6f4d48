import Derived.Test.YtcjbjfhndjpmcaaPk00
import Derived.Test.YtcjbjfhndjpmcaaPk14
/-
  A map with a pair more, without a key, cut to a range: as lists. Plain facts.
-/
namespace Go.Proofs.Ytcjbjfhndjpmcaa

/-- With that pair, whatever the key had. -/
def putL (ps : PS) (k v : ByteArray) : PS := (ps.takeWhile fun p => ltS p.1 k) ++ (k, v) :: (ps.dropWhile fun p => ltS p.1 k).filter fun p => decide (p.1 ≠ k)
/-- Without that key. -/
def dropL (ps : PS) (k : ByteArray) : PS := ps.filter fun p => decide (p.1 ≠ k)
def inR (lo hi : ByteArray) (p : BB) : Bool := !ltS p.1 lo && (decide (hi.size = 0) || ltS p.1 hi)
/-- Those not ahead of lo and, unless that is empty, ahead of hi. -/
def rangeL (ps : PS) (lo hi : ByteArray) : PS := ps.filter (inR lo hi)

def putStep (k v : ByteArray) (s : PS × Bool) (p : BB) : PS × Bool :=
  (if p.1 = k then (if s.2 = false ∧ ltS p.1 k = false then s.1 ++ [(k, v)] else s.1) else (if s.2 = false ∧ ltS p.1 k = false then s.1 ++ [(k, v)] else s.1) ++ [p],
    if s.2 = false ∧ ltS p.1 k = false then true else s.2)
def putTo (ps : PS) (k v : ByteArray) (i : Nat) : PS × Bool := (ps.take i).foldl (putStep k v) ([], false)
theorem putTo_zero (ps : PS) (k v : ByteArray) : putTo ps k v 0 = ([], false) := rfl
theorem putTo_succ {ps : PS} {i : Nat} (k v : ByteArray) (h : i < ps.length) : putTo ps k v (i + 1) = putStep k v (putTo ps k v i) ps[i] := by
  rw [putTo, putTo, List.take_succ_eq_append_getElem h, List.foldl_append]
  rfl
theorem putStep_len (k v : ByteArray) (s : PS × Bool) (p : BB) : (putStep k v s p).1.length ≤ s.1.length + 2 := by
  unfold putStep
  split <;> split <;> simp
theorem putTo_len (ps : PS) (k v : ByteArray) (i : Nat) : (putTo ps k v i).1.length ≤ 2 * ps.length := by
  rw [putTo]
  have : ∀ (l : PS) (s : PS × Bool), (l.foldl (putStep k v) s).1.length ≤ s.1.length + 2 * l.length := by
    intro l
    induction l with
    | nil => intro s; simp
    | cons p r ih =>
      intro s
      have h1 := ih (putStep k v s p)
      have h2 := putStep_len k v s p
      simp only [List.foldl_cons, List.length_cons]
      omega
  have h := this (ps.take i) ([], false)
  have := List.length_take_le i ps
  simp only [List.length_nil] at h
  have h2 : (ps.take i).length ≤ ps.length := by rw [List.length_take]; omega
  omega
theorem fold_done (k v : ByteArray) : ∀ (ps acc : PS), ps.foldl (putStep k v) (acc, true) = (acc ++ ps.filter (fun p => decide (p.1 ≠ k)), true)
  | [], acc => by simp
  | p :: r, acc => by
    by_cases e : p.1 = k
    · simp [putStep, e, fold_done k v r]
    · simp [putStep, e, fold_done k v r]
theorem fold_not (k v : ByteArray) : ∀ (ps acc : PS), (if (ps.foldl (putStep k v) (acc, false)).2 then (ps.foldl (putStep k v) (acc, false)).1 else (ps.foldl (putStep k v) (acc, false)).1 ++ [(k, v)]) = acc ++ putL ps k v
  | [], acc => by simp [putL]
  | p :: r, acc => by
    cases hp : ltS p.1 k
    · by_cases e : p.1 = k
      · have hs : putStep k v (acc, false) p = (acc ++ [(k, v)], true) := by simp [putStep, e, ltS_irrefl]
        rw [List.foldl_cons, hs, fold_done]
        rw [e] at hp
        simp [putL, e, hp]
      · have hs : putStep k v (acc, false) p = (acc ++ [(k, v)] ++ [p], true) := by simp [putStep, e, hp]
        rw [List.foldl_cons, hs, fold_done]
        simp [putL, hp, e]
    · have e : p.1 ≠ k := ltS_ne hp
      have hs : putStep k v (acc, false) p = (acc ++ [p], false) := by simp [putStep, e, hp]
      rw [List.foldl_cons, hs, fold_not k v r]
      simp [putL, hp]
theorem putTo_end (ps : PS) (k v : ByteArray) : (if (putTo ps k v ps.length).2 then (putTo ps k v ps.length).1 else (putTo ps k v ps.length).1 ++ [(k, v)]) = putL ps k v := by
  have := fold_not k v ps []
  simpa [putTo] using this

theorem dropL_succ {ps : PS} {i : Nat} (k : ByteArray) (h : i < ps.length) : dropL (ps.take (i + 1)) k = if ps[i].1 = k then dropL (ps.take i) k else dropL (ps.take i) k ++ [ps[i]] := by
  rw [dropL, List.take_succ_eq_append_getElem h, List.filter_append]
  by_cases e : ps[i].1 = k <;> simp [e, dropL]
theorem rangeL_succ {ps : PS} {i : Nat} (lo hi : ByteArray) (h : i < ps.length) : rangeL (ps.take (i + 1)) lo hi = if inR lo hi ps[i] then rangeL (ps.take i) lo hi ++ [ps[i]] else rangeL (ps.take i) lo hi := by
  rw [rangeL, List.take_succ_eq_append_getElem h, List.filter_append]
  cases e : inR lo hi ps[i] <;> simp [e, rangeL]
theorem dropL_len (ps : PS) (k : ByteArray) : (dropL ps k).length ≤ ps.length := List.length_filter_le _ _
theorem rangeL_len (ps : PS) (lo hi : ByteArray) : (rangeL ps lo hi).length ≤ ps.length := List.length_filter_le _ _

theorem takeWhile_cnt (ps : PS) (k : ByteArray) : (ps.takeWhile fun p => ltS p.1 k) = ps.take (cnt ps k) := by
  have h := List.takeWhile_append_dropWhile (p := fun p : BB => ltS p.1 k) (l := ps)
  have t := List.take_left (l₁ := ps.takeWhile fun p : BB => ltS p.1 k) (l₂ := ps.dropWhile fun p : BB => ltS p.1 k)
  rw [h] at t
  exact t.symm
theorem dropWhile_cnt (ps : PS) (k : ByteArray) : (ps.dropWhile fun p => ltS p.1 k) = ps.drop (cnt ps k) := by
  have h := List.takeWhile_append_dropWhile (p := fun p : BB => ltS p.1 k) (l := ps)
  have t := List.drop_left (l₁ := ps.takeWhile fun p : BB => ltS p.1 k) (l₂ := ps.dropWhile fun p : BB => ltS p.1 k)
  rw [h] at t
  exact t.symm
theorem behind_ne {ps : PS} (hs : risesB ps = true) (k : ByteArray) (i : Nat) (h : i < ps.length) (hi : cnt ps k < i) : ps[i].1 ≠ k := by
  intro e
  have h0 := cnt_behind hs k (cnt ps k) (by omega) (Nat.le_refl _)
  have h1 := rises_lt hs i (cnt ps k) hi h
  rw [e, h0] at h1
  cases h1
theorem filter_all {l : PS} {q : BB → Bool} (h : ∀ i (hi : i < l.length), q l[i] = true) : l.filter q = l := by
  rw [List.filter_eq_self]
  intro p hp
  obtain ⟨i, hi, rfl⟩ := List.getElem_of_mem hp
  exact h i hi
theorem filter_behind {ps : PS} (hs : risesB ps = true) (k : ByteArray) : (ps.drop (cnt ps k + 1)).filter (fun p => decide (p.1 ≠ k)) = ps.drop (cnt ps k + 1) := by
  refine filter_all fun i hi => ?_
  simp only [List.length_drop] at hi
  rw [List.getElem_drop]
  simpa using behind_ne hs k _ (by omega) (by omega)
theorem filter_at {ps : PS} (hs : risesB ps = true) (k : ByteArray) : (ps.drop (cnt ps k)).filter (fun p => decide (p.1 ≠ k)) = ps.drop (if hasK ps k then cnt ps k + 1 else cnt ps k) := by
  by_cases hl : cnt ps k < ps.length
  · rw [List.drop_eq_getElem_cons hl, List.filter_cons, filter_behind hs]
    by_cases e : (ps[cnt ps k]).1 = k
    · rw [hasK_yes hs hl e]
      simp [e]
    · rw [hasK_no hs hl e]
      simp [e]
  · rw [hasK_end hs hl, List.drop_eq_nil_of_le (by omega)]
    simp
    omega
theorem sorted_put {ps : PS} (hs : risesB ps = true) (k v : ByteArray) : putL ps k v = ps.take (cnt ps k) ++ ([(k, v)] ++ ps.drop (if hasK ps k then cnt ps k + 1 else cnt ps k)) := by
  rw [putL, takeWhile_cnt, dropWhile_cnt, filter_at hs]
  rfl
theorem sorted_drop {ps : PS} (hs : risesB ps = true) (k : ByteArray) (hk : hasK ps k = true) : dropL ps k = ps.take (cnt ps k) ++ ps.drop (cnt ps k + 1) := by
  have h1 := filter_at hs k
  rw [hk, if_pos rfl] at h1
  have h0 : (ps.take (cnt ps k)).filter (fun p => decide (p.1 ≠ k)) = ps.take (cnt ps k) := by
    refine filter_all fun i hi => ?_
    simp only [List.length_take] at hi
    rw [List.getElem_take]
    simpa using ltS_ne (cnt_ahead ps k i (by omega) (by omega))
  rw [dropL, ← List.take_append_drop (cnt ps k) ps, List.filter_append, List.take_append_drop, h0, h1]
theorem filter_interval {q : BB → Bool} : ∀ (l : PS) (a b : Nat), (∀ i (h : i < l.length), q l[i] = decide (a ≤ i ∧ i < b)) → l.filter q = (l.drop a).take (b - a)
  | [], a, b, _ => by simp
  | x :: r, 0, b, h => by
    have h0 := h 0 (by simp)
    simp only [List.getElem_cons_zero, Nat.le_refl, true_and] at h0
    have ih := filter_interval (q := q) r 0 (b - 1) fun i hi => by
      have := h (i + 1) (by simpa using hi)
      simp only [List.getElem_cons_succ] at this
      rw [this]
      exact decide_eq_decide.2 (by omega)
    rw [List.filter_cons, h0, ih]
    cases b with
    | zero => simp
    | succ b => simp
  | x :: r, a + 1, b, h => by
    have h0 := h 0 (by simp)
    simp only [List.getElem_cons_zero] at h0
    have ih := filter_interval (q := q) r a (b - 1) fun i hi => by
      have := h (i + 1) (by simpa using hi)
      simp only [List.getElem_cons_succ] at this
      rw [this]
      exact decide_eq_decide.2 (by omega)
    rw [List.filter_cons, h0, ih]
    simp only [Nat.le_zero_eq, Nat.add_eq_zero_iff, Nat.one_ne_zero, and_false, false_and, decide_false, List.drop_succ_cons]
    rw [show b - 1 - a = b - (a + 1) by omega]
    rfl
/-- Where a range ends. -/
def toR (ps : PS) (hi : ByteArray) : Nat := if hi.size = 0 then ps.length else cnt ps hi
theorem toR_le (ps : PS) (hi : ByteArray) : toR ps hi ≤ ps.length := by
  unfold toR
  split
  · exact Nat.le_refl _
  · exact cnt_le _ _
theorem sorted_range {ps : PS} (hs : risesB ps = true) (lo hi : ByteArray) : rangeL ps lo hi = (ps.drop (cnt ps lo)).take (toR ps hi - cnt ps lo) := by
  refine filter_interval ps _ _ fun i h => ?_
  have h1 : ltS ps[i].1 lo = decide (i < cnt ps lo) := by
    by_cases e : i < cnt ps lo
    · rw [cnt_ahead ps lo i h e]; simp [e]
    · rw [cnt_behind hs lo i h (by omega)]; simp [e]
  have h2 : (decide (hi.size = 0) || ltS ps[i].1 hi) = decide (i < toR ps hi) := by
    unfold toR
    by_cases e0 : hi.size = 0
    · simp [e0, h]
    · by_cases e : i < cnt ps hi
      · rw [cnt_ahead ps hi i h e]; simp [e0, e]
      · rw [cnt_behind hs hi i h (by omega)]; simp [e0, e]
  rw [inR, h1, h2, Bool.eq_iff_iff]
  simp only [Bool.and_eq_true, Bool.not_eq_true', decide_eq_true_eq, decide_eq_false_iff_not]
  omega
theorem sorted_range_none {ps : PS} (hs : risesB ps = true) (lo hi : ByteArray) (h : toR ps hi ≤ cnt ps lo) : rangeL ps lo hi = [] := by
  rw [sorted_range hs, show toR ps hi - cnt ps lo = 0 by omega]
  rfl
end Go.Proofs.Ytcjbjfhndjpmcaa
/-
  A right map stays right: plain facts.
-/
namespace Go.Proofs.Ytcjbjfhndjpmcaa

def Rises (ps : PS) : Prop := ps.Pairwise fun p q => ltS p.1 q.1 = true
theorem rises_pw {ps : PS} : risesB ps = true ↔ Rises ps := by
  rw [Rises, List.pairwise_iff_getElem]
  constructor
  · intro h i j hi hj hij
    exact rises_lt h j i hij hj
  · intro h
    exact (rises_iff ps).2 fun i hi => h i (i + 1) (by omega) hi (by omega)
theorem putL_rises {ps : PS} (hs : risesB ps = true) (k v : ByteArray) : risesB (putL ps k v) = true := by
  have hs' := rises_pw.1 hs
  rw [rises_pw, putL, Rises, List.pairwise_append, List.pairwise_cons]
  have hb : ∀ q ∈ (ps.dropWhile fun p => ltS p.1 k).filter (fun p => decide (p.1 ≠ k)), ltS k q.1 = true := by
    intro q hq
    obtain ⟨h1, h2⟩ := List.mem_filter.1 hq
    rw [dropWhile_cnt] at h1
    obtain ⟨i, hi, rfl⟩ := List.getElem_of_mem h1
    rw [List.getElem_drop] at h2 ⊢
    simp only [List.length_drop] at hi
    exact ltS_of_not (cnt_behind hs k _ (by omega) (by omega)) (by simpa using h2)
  have ha : ∀ p ∈ ps.takeWhile fun p => ltS p.1 k, ltS p.1 k = true := by
    intro p hp
    rw [takeWhile_cnt] at hp
    obtain ⟨i, hi, rfl⟩ := List.getElem_of_mem hp
    rw [List.getElem_take]
    simp only [List.length_take] at hi
    exact cnt_ahead ps k i (by omega) (by omega)
  refine ⟨List.Pairwise.sublist (List.takeWhile_sublist _) hs', ⟨hb, List.Pairwise.sublist (List.filter_sublist.trans (List.dropWhile_sublist _)) hs'⟩, fun p hp q hq => ?_⟩
  rcases List.mem_cons.1 hq with rfl | hq
  · exact ha p hp
  · exact ltS_trans (ha p hp) (hb q hq)
theorem putL_mem {ps : PS} {k v : ByteArray} {p : BB} (h : p ∈ putL ps k v) : p ∈ ps ∨ p = (k, v) := by
  rw [putL, List.mem_append, List.mem_cons] at h
  rcases h with h | h | h
  · exact .inl ((List.takeWhile_sublist _).subset h)
  · exact .inr h
  · exact .inl ((List.dropWhile_sublist _).subset (List.mem_filter.1 h).1)
theorem putL_map {ps : PS} {k v : ByteArray} (hm : mapB ps = true) (hk : keyB k = true) (hv : keyB v = true) : mapB (putL ps k v) = decide ((putL ps k v).length ≤ 60) := by
  obtain ⟨_, h2, h3⟩ := mapB_iff.1 hm
  have h4 : (putL ps k v).all pairB = true := by
    rw [List.all_eq_true]
    intro p hp
    rcases putL_mem hp with h | rfl
    · exact h2 p h
    · simp [pairB, hk, hv]
  rw [mapB, h4, putL_rises h3]
  simp
theorem sub_map {ps qs : PS} (h : List.Sublist qs ps) (hm : mapB ps = true) : mapB qs = true := by
  obtain ⟨h1, h2, h3⟩ := mapB_iff.1 hm
  exact mapB_iff.2 ⟨Nat.le_trans h.length_le h1, fun p hp => h2 p (h.subset hp), rises_pw.2 (List.Pairwise.sublist h (rises_pw.1 h3))⟩
theorem dropL_map {ps : PS} (k : ByteArray) (hm : mapB ps = true) : mapB (dropL ps k) = true := sub_map List.filter_sublist hm
theorem rangeL_map {ps : PS} (lo hi : ByteArray) (hm : mapB ps = true) : mapB (rangeL ps lo hi) = true := sub_map List.filter_sublist hm
theorem putL_len_le (ps : PS) (k v : ByteArray) : (putL ps k v).length ≤ ps.length + 1 := by
  have h := List.takeWhile_append_dropWhile (p := fun p : BB => ltS p.1 k) (l := ps)
  have h1 := congrArg List.length h
  rw [List.length_append] at h1
  rw [putL, List.length_append, List.length_cons]
  refine Nat.le_trans (Nat.add_le_add_left (Nat.succ_le_succ (List.length_filter_le _ _)) _) ?_
  omega

/-- What Put answers. -/
def putB (ps : PS) (k v : ByteArray) : Bool := mapB ps && (keyB k && (keyB v && decide ((putL ps k v).length ≤ 60)))
def putR (ps : PS) (k v : ByteArray) : PS := if putB ps k v then putL ps k v else []
/-- What Drop answers. -/
def dropR (ps : PS) (k : ByteArray) : PS := if mapB ps && hasK ps k then dropL ps k else []
/-- What Range answers. -/
def rangeR (ps : PS) (lo hi : ByteArray) : PS := if mapB ps then rangeL ps lo hi else []
end Go.Proofs.Ytcjbjfhndjpmcaa
