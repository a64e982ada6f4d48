import Derived.Test.YtcjbjfhndjpmcaaPk14
import Derived.Test.YtcjbjfhndjpmcaaPk15
/-
  What makes one map of another one, as lists of changes. Plain facts.
-/
namespace Go.Proofs.Ytcjbjfhndjpmcaa

def keyC (x : CD) : BB := (x.1, x.2.1)
/-- The keys of changes, as those of pairs. -/
def kps (l : CS) : PS := l.map keyC
theorem kps_len (l : CS) : (kps l).length = l.length := by simp [kps]
theorem kps_get {l : CS} {i : Nat} (h : i < l.length) : (kps l)[i]'(by rw [kps_len]; exact h) = (l[i].1, l[i].2.1) := by simp [kps, keyC]
theorem kps_key {l : CS} {i : Nat} (h : i < (kps l).length) : ((kps l)[i]).1 = (l[i]'(by rw [← kps_len]; exact h)).1 := by simp [kps, keyC]
def risesC (l : CS) : Bool := risesB (kps l)
def CRises (l : CS) : Prop := l.Pairwise fun p q => ltS p.1 q.1 = true
theorem risesC_pw {l : CS} : risesC l = true ↔ CRises l := by
  rw [risesC, rises_pw, Rises, kps, List.pairwise_map]
  rfl
def changeB (x : CD) : Bool := keyB x.1 && (if x.2.2 then decide (x.2.1.size = 0) else keyB x.2.1)
/-- What DeltaOk answers. -/
def deltaB (l : CS) : Bool := decide (l.length ≤ 60) && (l.all changeB && risesC l)
theorem deltaB_iff {l : CS} : deltaB l = true ↔ l.length ≤ 60 ∧ (∀ x ∈ l, changeB x = true) ∧ CRises l := by
  simp [deltaB, List.all_eq_true, risesC_pw]

/-- With one more change, in the place of another one of its key. -/
def writeL (l : CS) (x : CD) : CS := (l.takeWhile fun p => ltS p.1 x.1) ++ x :: (l.dropWhile fun p => ltS p.1 x.1).filter fun p => decide (p.1 ≠ x.1)
def writeStep (x : CD) (s : CS × Bool) (p : CD) : CS × Bool :=
  (if p.1 = x.1 then (if s.2 = false ∧ ltS p.1 x.1 = false then s.1 ++ [x] else s.1) else (if s.2 = false ∧ ltS p.1 x.1 = false then s.1 ++ [x] else s.1) ++ [p],
    if s.2 = false ∧ ltS p.1 x.1 = false then true else s.2)
def writeTo (l : CS) (x : CD) (i : Nat) : CS × Bool := (l.take i).foldl (writeStep x) ([], false)
theorem writeTo_zero (l : CS) (x : CD) : writeTo l x 0 = ([], false) := rfl
theorem writeTo_succ {l : CS} {i : Nat} (x : CD) (h : i < l.length) : writeTo l x (i + 1) = writeStep x (writeTo l x i) l[i] := by
  rw [writeTo, writeTo, List.take_succ_eq_append_getElem h, List.foldl_append]
  rfl
theorem writeStep_len (x : CD) (s : CS × Bool) (p : CD) : (writeStep x s p).1.length ≤ s.1.length + 2 := by
  unfold writeStep
  split <;> split <;> simp
theorem writeTo_len (l : CS) (x : CD) (i : Nat) : (writeTo l x i).1.length ≤ 2 * l.length := by
  rw [writeTo]
  have : ∀ (l : CS) (s : CS × Bool), (l.foldl (writeStep x) s).1.length ≤ s.1.length + 2 * l.length := by
    intro l
    induction l with
    | nil => intro s; simp
    | cons p r ih =>
      intro s
      have h1 := ih (writeStep x s p)
      have h2 := writeStep_len x s p
      simp only [List.foldl_cons, List.length_cons]
      omega
  have h := this (l.take i) ([], false)
  simp only [List.length_nil] at h
  have h2 : (l.take i).length ≤ l.length := by rw [List.length_take]; omega
  omega
theorem wfold_done (x : CD) : ∀ (l acc : CS), l.foldl (writeStep x) (acc, true) = (acc ++ l.filter (fun p => decide (p.1 ≠ x.1)), true)
  | [], acc => by simp
  | p :: r, acc => by
    by_cases e : p.1 = x.1
    · simp [writeStep, e, wfold_done x r]
    · simp [writeStep, e, wfold_done x r]
theorem wfold_not (x : CD) : ∀ (l acc : CS), (if (l.foldl (writeStep x) (acc, false)).2 then (l.foldl (writeStep x) (acc, false)).1 else (l.foldl (writeStep x) (acc, false)).1 ++ [x]) = acc ++ writeL l x
  | [], acc => by simp [writeL]
  | p :: r, acc => by
    cases hp : ltS p.1 x.1
    · by_cases e : p.1 = x.1
      · have hs : writeStep x (acc, false) p = (acc ++ [x], true) := by simp [writeStep, e, ltS_irrefl]
        rw [List.foldl_cons, hs, wfold_done]
        rw [e] at hp
        simp [writeL, e, hp]
      · have hs : writeStep x (acc, false) p = (acc ++ [x] ++ [p], true) := by simp [writeStep, e, hp]
        rw [List.foldl_cons, hs, wfold_done]
        simp [writeL, hp, e]
    · have e : p.1 ≠ x.1 := ltS_ne hp
      have hs : writeStep x (acc, false) p = (acc ++ [p], false) := by simp [writeStep, e, hp]
      rw [List.foldl_cons, hs, wfold_not x r]
      simp [writeL, hp]
theorem writeTo_end (l : CS) (x : CD) : (if (writeTo l x l.length).2 then (writeTo l x l.length).1 else (writeTo l x l.length).1 ++ [x]) = writeL l x := by
  have := wfold_not x l []
  simpa [writeTo] using this
theorem writeL_len (l : CS) (x : CD) : (writeL l x).length ≤ l.length + 1 := by
  have h := List.takeWhile_append_dropWhile (p := fun p : CD => ltS p.1 x.1) (l := l)
  have h1 := congrArg List.length h
  rw [List.length_append] at h1
  rw [writeL, List.length_append, List.length_cons]
  refine Nat.le_trans (Nat.add_le_add_left (Nat.succ_le_succ (List.length_filter_le _ _)) _) ?_
  omega
theorem takeWhile_lt {l : CS} {k : ByteArray} {p : CD} (h : p ∈ l.takeWhile fun p => ltS p.1 k) : ltS p.1 k = true := by
  induction l with
  | nil => simp at h
  | cons q r ih =>
    rw [List.takeWhile_cons] at h
    split at h
    · rcases List.mem_cons.1 h with rfl | h
      · assumption
      · exact ih h
    · simp at h
theorem dropWhile_ge {l : CS} (hs : CRises l) {k : ByteArray} {p : CD} (h : p ∈ l.dropWhile fun p => ltS p.1 k) : ltS p.1 k = false := by
  induction l with
  | nil => simp at h
  | cons q r ih =>
    have h1 := List.pairwise_cons.1 hs
    rw [List.dropWhile_cons] at h
    split at h
    · exact ih h1.2 h
    · rename_i hq
      have hq : ltS q.1 k = false := by simpa using hq
      rcases List.mem_cons.1 h with rfl | h
      · exact hq
      · rw [Bool.eq_false_iff]
        intro hp
        have := ltS_trans (h1.1 p h) hp
        rw [hq] at this
        cases this
theorem mem_writeL {l : CS} {x p : CD} : p ∈ writeL l x ↔ p = x ∨ (p ∈ l ∧ p.1 ≠ x.1) := by
  have h := List.takeWhile_append_dropWhile (p := fun p : CD => ltS p.1 x.1) (l := l)
  rw [writeL, List.mem_append, List.mem_cons, List.mem_filter]
  constructor
  · rintro (h1 | h1 | ⟨h1, h2⟩)
    · exact .inr ⟨by rw [← h, List.mem_append]; exact .inl h1, ltS_ne (takeWhile_lt h1)⟩
    · exact .inl h1
    · exact .inr ⟨by rw [← h, List.mem_append]; exact .inr h1, by simpa using h2⟩
  · rintro (h1 | ⟨h1, h2⟩)
    · exact .inr (.inl h1)
    · rw [← h, List.mem_append] at h1
      rcases h1 with h1 | h1
      · exact .inl h1
      · exact .inr (.inr ⟨h1, by simpa using h2⟩)
theorem writeL_rises {l : CS} (hs : CRises l) (x : CD) : CRises (writeL l x) := by
  rw [writeL, CRises, List.pairwise_append, List.pairwise_cons]
  have hb : ∀ q ∈ (l.dropWhile fun p => ltS p.1 x.1).filter (fun p => decide (p.1 ≠ x.1)), ltS x.1 q.1 = true := by
    intro q hq
    obtain ⟨h1, h2⟩ := List.mem_filter.1 hq
    exact ltS_of_not (dropWhile_ge hs h1) (by simpa using h2)
  refine ⟨List.Pairwise.sublist (List.takeWhile_sublist _) hs, ⟨hb, List.Pairwise.sublist (List.filter_sublist.trans (List.dropWhile_sublist _)) hs⟩, fun p hp q hq => ?_⟩
  rcases List.mem_cons.1 hq with rfl | hq
  · exact takeWhile_lt hp
  · exact ltS_trans (takeWhile_lt hp) (hb q hq)

/-- Two lists that rise and have the same are the same. -/
theorem crises_ext {l r : CS} (hl : CRises l) (hr : CRises r) (h : ∀ x, x ∈ l ↔ x ∈ r) : l = r := by
  induction l generalizing r with
  | nil =>
    cases r with
    | nil => rfl
    | cons y r => exact absurd ((h y).2 (by simp)) (by simp)
  | cons x l ih =>
    cases r with
    | nil => exact absurd ((h x).1 (by simp)) (by simp)
    | cons y r =>
      obtain ⟨a1, a2⟩ := List.pairwise_cons.1 hl
      obtain ⟨b1, b2⟩ := List.pairwise_cons.1 hr
      have e : x = y := by
        rcases List.mem_cons.1 ((h x).1 (by simp)) with e | hx
        · exact e
        · rcases List.mem_cons.1 ((h y).2 (by simp)) with e | hy
          · exact e.symm
          · have := ltS_trans (a1 y hy) (b1 x hx)
            rw [ltS_irrefl] at this
            cases this
      subst e
      congr 1
      refine ih a2 b2 fun z => ?_
      constructor
      · intro hz
        rcases List.mem_cons.1 ((h z).1 (List.mem_cons_of_mem _ hz)) with e | h'
        · subst e
          have := a1 z hz
          rw [ltS_irrefl] at this
          cases this
        · exact h'
      · intro hz
        rcases List.mem_cons.1 ((h z).2 (List.mem_cons_of_mem _ hz)) with e | h'
        · subst e
          have := b1 z hz
          rw [ltS_irrefl] at this
          cases this
        · exact h'

/-- Those of b, and those of a whose key b has not, as the program puts them together. -/
def ovl : CS → CS → CS
  | [], b => b
  | a, [] => a
  | x :: a, y :: b => if ltS x.1 y.1 then x :: ovl a (y :: b) else if x.1 = y.1 then y :: ovl a b else y :: ovl (x :: a) b
termination_by a b => a.length + b.length
theorem ovl_nil (b : CS) : ovl [] b = b := by cases b <;> simp [ovl]
theorem ovl_nil' (a : CS) : ovl a [] = a := by cases a <;> simp [ovl]
theorem ovl_lt {x y : CD} {a b : CS} (h : ltS x.1 y.1 = true) : ovl (x :: a) (y :: b) = x :: ovl a (y :: b) := by rw [ovl, if_pos h]
theorem ovl_eq {x y : CD} {a b : CS} (h : x.1 = y.1) : ovl (x :: a) (y :: b) = y :: ovl a b := by
  rw [ovl, if_neg, if_pos h]
  rw [h, ltS_irrefl]
  simp
theorem ovl_gt {x y : CD} {a b : CS} (h : ltS x.1 y.1 = false) (h' : x.1 ≠ y.1) : ovl (x :: a) (y :: b) = y :: ovl (x :: a) b := by
  rw [ovl, if_neg (by rw [h]; simp), if_neg h']
theorem ovl_len (a b : CS) : (ovl a b).length ≤ a.length + b.length := by
  fun_induction ovl a b <;> simp_all <;> omega
theorem mem_ovl {a b : CS} (ha : CRises a) (hb : CRises b) (z : CD) : z ∈ ovl a b ↔ z ∈ b ∨ (z ∈ a ∧ ∀ y ∈ b, y.1 ≠ z.1) := by
  fun_induction ovl a b with
  | case1 b => simp
  | case2 a h => simp
  | case3 x a y b h ih =>
    obtain ⟨a1, a2⟩ := List.pairwise_cons.1 ha
    obtain ⟨b1, b2⟩ := List.pairwise_cons.1 hb
    have hx : ∀ w ∈ y :: b, w.1 ≠ x.1 := by
      intro w hw
      rcases List.mem_cons.1 hw with rfl | hw
      · exact (ltS_ne h).symm
      · exact (ltS_ne (ltS_trans h (b1 w hw))).symm
    rw [List.mem_cons, ih a2 hb, List.mem_cons (a := z) (b := x)]
    constructor
    · rintro (rfl | h1 | ⟨h1, h2⟩)
      · exact .inr ⟨.inl rfl, hx⟩
      · exact .inl h1
      · exact .inr ⟨.inr h1, h2⟩
    · rintro (h1 | ⟨rfl | h1, h2⟩)
      · exact .inr (.inl h1)
      · exact .inl rfl
      · exact .inr (.inr ⟨h1, h2⟩)
  | case4 x a y b h h' ih =>
    obtain ⟨a1, a2⟩ := List.pairwise_cons.1 ha
    obtain ⟨b1, b2⟩ := List.pairwise_cons.1 hb
    rw [List.mem_cons, ih a2 b2, List.mem_cons (a := z) (b := x), List.mem_cons (a := z) (b := y)]
    constructor
    · rintro (rfl | h1 | ⟨h1, h2⟩)
      · exact .inl (.inl rfl)
      · exact .inl (.inr h1)
      · refine .inr ⟨.inr h1, fun w hw => ?_⟩
        rcases List.mem_cons.1 hw with rfl | hw
        · rw [← h']
          exact ltS_ne (a1 z h1)
        · exact h2 w hw
    · rintro ((rfl | h1) | ⟨rfl | h1, h2⟩)
      · exact .inl rfl
      · exact .inr (.inl h1)
      · exact absurd h'.symm (h2 y (by simp))
      · exact .inr (.inr ⟨h1, fun w hw => h2 w (by simp [hw])⟩)
  | case5 x a y b h h' ih =>
    have h : ltS x.1 y.1 = false := by simpa using h
    obtain ⟨a1, a2⟩ := List.pairwise_cons.1 ha
    obtain ⟨b1, b2⟩ := List.pairwise_cons.1 hb
    have hy := ltS_of_not h h'
    have hy2 : ∀ w ∈ x :: a, y.1 ≠ w.1 := by
      intro w hw
      rcases List.mem_cons.1 hw with rfl | hw
      · exact ltS_ne hy
      · exact ltS_ne (ltS_trans hy (a1 w hw))
    rw [List.mem_cons, ih ha b2, List.mem_cons (a := z) (b := y)]
    constructor
    · rintro (rfl | h1 | ⟨h1, h2⟩)
      · exact .inl (.inl rfl)
      · exact .inl (.inr h1)
      · refine .inr ⟨h1, fun w hw => ?_⟩
        rcases List.mem_cons.1 hw with rfl | hw
        · exact hy2 z h1
        · exact h2 w hw
    · rintro ((rfl | h1) | ⟨h1, h2⟩)
      · exact .inl rfl
      · exact .inr (.inl h1)
      · exact .inr (.inr ⟨h1, fun w hw => h2 w (by simp [hw])⟩)
theorem ovl_rises {a b : CS} (ha : CRises a) (hb : CRises b) : CRises (ovl a b) := by
  fun_induction ovl a b with
  | case1 b => exact hb
  | case2 a h => exact ha
  | case3 x a y b h ih =>
    obtain ⟨a1, a2⟩ := List.pairwise_cons.1 ha
    obtain ⟨b1, b2⟩ := List.pairwise_cons.1 hb
    refine List.pairwise_cons.2 ⟨fun z hz => ?_, ih a2 hb⟩
    rcases (mem_ovl a2 hb z).1 hz with h1 | ⟨h1, _⟩
    · rcases List.mem_cons.1 h1 with rfl | h1
      · exact h
      · exact ltS_trans h (b1 z h1)
    · exact a1 z h1
  | case4 x a y b h h' ih =>
    obtain ⟨a1, a2⟩ := List.pairwise_cons.1 ha
    obtain ⟨b1, b2⟩ := List.pairwise_cons.1 hb
    refine List.pairwise_cons.2 ⟨fun z hz => ?_, ih a2 b2⟩
    rcases (mem_ovl a2 b2 z).1 hz with h1 | ⟨h1, _⟩
    · exact b1 z h1
    · rw [← h']
      exact a1 z h1
  | case5 x a y b h h' ih =>
    have h : ltS x.1 y.1 = false := by simpa using h
    obtain ⟨a1, a2⟩ := List.pairwise_cons.1 ha
    obtain ⟨b1, b2⟩ := List.pairwise_cons.1 hb
    have hy := ltS_of_not h h'
    refine List.pairwise_cons.2 ⟨fun z hz => ?_, ih ha b2⟩
    rcases (mem_ovl ha b2 z).1 hz with h1 | ⟨h1, _⟩
    · exact b1 z h1
    · rcases List.mem_cons.1 h1 with rfl | h1
      · exact hy
      · exact ltS_trans hy (a1 z h1)
/-- The model writes one behind the other. -/
def writeAll (a b : CS) : CS := b.foldl writeL a
theorem writeAll_rises {a : CS} (ha : CRises a) : ∀ b : CS, CRises (writeAll a b) := by
  intro b
  induction b generalizing a with
  | nil => exact ha
  | cons y b ih => exact ih (writeL_rises ha y)
theorem mem_writeAll {a b : CS} (hb : CRises b) (z : CD) : z ∈ writeAll a b ↔ z ∈ b ∨ (z ∈ a ∧ ∀ y ∈ b, y.1 ≠ z.1) := by
  induction b generalizing a with
  | nil => simp [writeAll]
  | cons y b ih =>
    obtain ⟨b1, b2⟩ := List.pairwise_cons.1 hb
    have e : writeAll a (y :: b) = writeAll (writeL a y) b := rfl
    rw [e, ih b2, mem_writeL, List.mem_cons]
    constructor
    · rintro (h | ⟨rfl | ⟨h1, h2⟩, h3⟩)
      · exact .inl (.inr h)
      · exact .inl (.inl rfl)
      · refine .inr ⟨h1, fun w hw => ?_⟩
        rcases List.mem_cons.1 hw with rfl | hw
        · exact h2.symm
        · exact h3 w hw
    · rintro ((rfl | h) | ⟨h1, h2⟩)
      · exact .inr ⟨.inl rfl, fun w hw => (ltS_ne (b1 w hw)).symm⟩
      · exact .inl h
      · exact .inr ⟨.inr ⟨h1, (h2 y (by simp)).symm⟩, fun w hw => h2 w (by simp [hw])⟩
theorem writeAll_ovl {a b : CS} (ha : CRises a) (hb : CRises b) : writeAll a b = ovl a b :=
  crises_ext (writeAll_rises ha b) (ovl_rises ha hb) fun z => by rw [mem_writeAll hb, mem_ovl ha hb]
theorem writeAll_len (a b : CS) : (writeAll a b).length ≤ a.length + b.length := by
  induction b generalizing a with
  | nil => simp [writeAll]
  | cons y b ih =>
    have e : writeAll a (y :: b) = writeAll (writeL a y) b := rfl
    have := ih (writeL a y)
    have := writeL_len a y
    rw [e, List.length_cons]
    omega

/-! ### What makes b of a -/
def goneOf (p : BB) : CD := (p.1, ⟨#[]⟩, true)
def putOf (p : BB) : CD := (p.1, p.2, false)
def goneL (a b : PS) : CS := (a.filter fun p => !hasK b p.1).map goneOf
def putsL (a b : PS) : CS := (b.filter fun p => !(hasK a p.1 && decide (valOf a p.1 = p.2))).map putOf
def deltaL (a b : PS) : CS := ovl (goneL a b) (putsL a b)
theorem goneL_rises {a : PS} (ha : risesB a = true) (b : PS) : CRises (goneL a b) := by
  rw [goneL, CRises, List.pairwise_map]
  exact List.Pairwise.sublist List.filter_sublist (rises_pw.1 ha)
theorem putsL_rises {b : PS} (hb : risesB b = true) (a : PS) : CRises (putsL a b) := by
  rw [putsL, CRises, List.pairwise_map]
  exact List.Pairwise.sublist List.filter_sublist (rises_pw.1 hb)
theorem goneL_len (a b : PS) : (goneL a b).length ≤ a.length := by
  rw [goneL, List.length_map]
  exact List.length_filter_le _ _
theorem putsL_len (a b : PS) : (putsL a b).length ≤ b.length := by
  rw [putsL, List.length_map]
  exact List.length_filter_le _ _
theorem deltaL_len (a b : PS) : (deltaL a b).length ≤ a.length + b.length := by
  have h1 := ovl_len (goneL a b) (putsL a b)
  have h2 := goneL_len a b
  have h3 := putsL_len a b
  rw [deltaL]
  omega
theorem deltaL_rises {a b : PS} (ha : risesB a = true) (hb : risesB b = true) : CRises (deltaL a b) := ovl_rises (goneL_rises ha b) (putsL_rises hb a)
theorem deltaL_mem {a b : PS} (ha : risesB a = true) (hb : risesB b = true) {x : CD} (h : x ∈ deltaL a b) : (∃ p ∈ a, x = goneOf p) ∨ (∃ p ∈ b, x = putOf p) := by
  rcases (mem_ovl (goneL_rises ha b) (putsL_rises hb a) x).1 h with h | ⟨h, _⟩
  · right
    obtain ⟨p, hp, rfl⟩ := List.mem_map.1 h
    exact ⟨p, (List.mem_filter.1 hp).1, rfl⟩
  · left
    obtain ⟨p, hp, rfl⟩ := List.mem_map.1 h
    exact ⟨p, (List.mem_filter.1 hp).1, rfl⟩
theorem deltaL_right {a b : PS} (ha : mapB a = true) (hb : mapB b = true) : ∀ x ∈ deltaL a b, changeB x = true := by
  obtain ⟨_, a2, a3⟩ := mapB_iff.1 ha
  obtain ⟨_, b2, b3⟩ := mapB_iff.1 hb
  intro x hx
  rcases deltaL_mem a3 b3 hx with ⟨p, hp, rfl⟩ | ⟨p, hp, rfl⟩
  · have := a2 p hp
    simp only [pairB, Bool.and_eq_true] at this
    have e : (goneOf p).2.1.size = 0 := rfl
    simp [changeB, goneOf, this.1]
    rfl
  · have := b2 p hp
    simp only [pairB, Bool.and_eq_true] at this
    simp [changeB, putOf, this.1, this.2]
/-- Whether it is a delta is asked by its length alone. -/
theorem deltaL_ok {a b : PS} (ha : mapB a = true) (hb : mapB b = true) : deltaB (deltaL a b) = decide ((deltaL a b).length ≤ 60) := by
  have h1 : (deltaL a b).all changeB = true := List.all_eq_true.2 (deltaL_right ha hb)
  have h2 : risesC (deltaL a b) = true := risesC_pw.2 (deltaL_rises (mapB_iff.1 ha).2.2 (mapB_iff.1 hb).2.2)
  rw [deltaB, h1, h2]
  simp
/-- The model's way. -/
theorem delta_model {a b : PS} (ha : risesB a = true) (hb : risesB b = true) : writeAll (writeAll [] (goneL a b)) (putsL a b) = deltaL a b := by
  rw [writeAll_ovl List.Pairwise.nil (goneL_rises ha b), ovl_nil, writeAll_ovl (goneL_rises ha b) (putsL_rises hb a)]
  rfl
theorem goneL_succ {a : PS} {i : Nat} (b : PS) (h : i < a.length) : goneL (a.take (i + 1)) b = if hasK b a[i].1 then goneL (a.take i) b else goneL (a.take i) b ++ [goneOf a[i]] := by
  rw [goneL, List.take_succ_eq_append_getElem h, List.filter_append, List.map_append]
  cases e : hasK b a[i].1 <;> simp only [List.filter_cons, List.filter_nil, e] <;> simp [goneL]
theorem putsL_succ {b : PS} {i : Nat} (a : PS) (h : i < b.length) : putsL a (b.take (i + 1)) = if hasK a b[i].1 && decide (valOf a b[i].1 = b[i].2) then putsL a (b.take i) else putsL a (b.take i) ++ [putOf b[i]] := by
  rw [putsL, List.take_succ_eq_append_getElem h, List.filter_append, List.map_append]
  cases e : hasK a b[i].1 && decide (valOf a b[i].1 = b[i].2) <;> simp only [List.filter_cons, List.filter_nil, e] <;> simp [putsL]
theorem writeAll_snoc (a b : CS) (x : CD) : writeAll a (b ++ [x]) = writeL (writeAll a b) x := by
  simp [writeAll]
/-- A pair is there just when its key has its value. -/
theorem there_iff {a : PS} (ha : risesB a = true) (p : BB) : (a.any fun q => decide (q = p)) = (hasK a p.1 && decide (valOf a p.1 = p.2)) := by
  have h0 : (a.any fun q => decide (q = p)) = true ↔ p ∈ a := by simp
  rw [Bool.eq_iff_iff, h0, Bool.and_eq_true, decide_eq_true_eq]
  constructor
  · intro hp
    have h1 : hasK a p.1 = true := by
      rw [hasK, List.any_eq_true]
      exact ⟨p, hp, by simp⟩
    obtain ⟨h, e⟩ := (hasK_iff ha p.1).1 h1
    refine ⟨h1, ?_⟩
    rw [valOf_at h e]
    have hm := List.getElem_mem h
    have : a[cnt a p.1] = p := by
      obtain ⟨i, hi, rfl⟩ := List.getElem_of_mem hp
      rcases Nat.lt_trichotomy (cnt a a[i].1) i with h' | h' | h'
      · exact absurd e (ltS_ne (rises_lt ha i _ h' hi))
      · simp only [h']
      · exact absurd e.symm (ltS_ne (rises_lt ha _ i h' h))
    rw [this]
  · rintro ⟨h1, h2⟩
    obtain ⟨h, e⟩ := (hasK_iff ha p.1).1 h1
    rw [valOf_at h e] at h2
    have : a[cnt a p.1] = p := Prod.ext e h2
    rw [← this]
    exact List.getElem_mem h

/-! ### A map behind changes -/
def stepL (m : PS) (x : CD) : PS := if x.2.2 then dropL m x.1 else putL m x.1 x.2.1
def applyL (m : PS) (l : CS) : PS := l.foldl stepL m
theorem applyL_succ {l : CS} {i : Nat} (m : PS) (h : i < l.length) : applyL m (l.take (i + 1)) = stepL (applyL m (l.take i)) l[i] := by
  rw [applyL, List.take_succ_eq_append_getElem h, List.foldl_append]
  rfl
theorem stepL_rises {m : PS} (hm : risesB m = true) (x : CD) : risesB (stepL m x) = true := by
  unfold stepL
  split
  · exact rises_pw.2 (List.Pairwise.sublist List.filter_sublist (rises_pw.1 hm))
  · exact putL_rises hm _ _
theorem applyL_rises {m : PS} (hm : risesB m = true) : ∀ l : CS, risesB (applyL m l) = true := by
  intro l
  induction l generalizing m with
  | nil => exact hm
  | cons x l ih => exact ih (stepL_rises hm x)
theorem stepL_len (m : PS) (x : CD) : (stepL m x).length ≤ m.length + 1 := by
  unfold stepL
  split
  · exact Nat.le_succ_of_le (dropL_len _ _)
  · exact putL_len_le _ _ _
theorem applyL_len (m : PS) (l : CS) : (applyL m l).length ≤ m.length + l.length := by
  induction l generalizing m with
  | nil => simp [applyL]
  | cons x l ih =>
    have e : applyL m (x :: l) = applyL (stepL m x) l := rfl
    have := ih (stepL m x)
    have := stepL_len m x
    rw [e, List.length_cons]
    omega
theorem stepL_right {m : PS} (hm : ∀ p ∈ m, pairB p = true) {x : CD} (hx : changeB x = true) : ∀ p ∈ stepL m x, pairB p = true := by
  intro p hp
  unfold stepL at hp
  split at hp
  · exact hm p (List.mem_filter.1 hp).1
  · rename_i h
    rcases putL_mem hp with h1 | rfl
    · exact hm p h1
    · simp only [changeB, h, Bool.and_eq_true] at hx
      simp [pairB, hx.1]
      simpa using hx.2
theorem applyL_right {m : PS} {l : CS} (hm : ∀ p ∈ m, pairB p = true) (hl : ∀ x ∈ l, changeB x = true) : ∀ p ∈ applyL m l, pairB p = true := by
  induction l generalizing m with
  | nil => exact hm
  | cons x l ih => exact ih (stepL_right hm (hl x (by simp))) fun y hy => hl y (by simp [hy])
/-- Whether it is a map is asked by its length alone. -/
theorem applyL_ok {m : PS} {l : CS} (hm : mapB m = true) (hl : ∀ x ∈ l, changeB x = true) : mapB (applyL m l) = decide ((applyL m l).length ≤ 60) := by
  obtain ⟨_, h2, h3⟩ := mapB_iff.1 hm
  have h4 : (applyL m l).all pairB = true := List.all_eq_true.2 (applyL_right h2 hl)
  rw [mapB, h4, applyL_rises h3]
  simp
/-- What is dropped and is not there leaves all. -/
theorem dropL_none {m : PS} {k : ByteArray} (h : hasK m k = false) : dropL m k = m := by
  rw [dropL, List.filter_eq_self]
  intro p hp
  have := List.any_eq_false.1 h p hp
  simpa using this

/-! ### Changes that are joined -/
theorem ovl_right {a b : CS} (ha : deltaB a = true) (hb : deltaB b = true) : deltaB (ovl a b) = decide ((ovl a b).length ≤ 60) := by
  obtain ⟨_, a2, a3⟩ := deltaB_iff.1 ha
  obtain ⟨_, b2, b3⟩ := deltaB_iff.1 hb
  have h1 : (ovl a b).all changeB = true := by
    rw [List.all_eq_true]
    intro x hx
    rcases (mem_ovl a3 b3 x).1 hx with h | ⟨h, _⟩
    · exact b2 x h
    · exact a2 x h
  rw [deltaB, h1, risesC_pw.2 (ovl_rises a3 b3)]
  simp

/-! ### What two made of one -/
def hasC (l : CS) (k : ByteArray) : Bool := hasK (kps l) k
def cntC (l : CS) (k : ByteArray) : Nat := cnt (kps l) k
/-- The change of a key, where there is one. -/
def findC (l : CS) (k : ByteArray) : CD := match l.find? (fun p => decide (p.1 = k)) with | some p => p | none => (⟨#[]⟩, ⟨#[]⟩, false)
theorem hasC_any (l : CS) (k : ByteArray) : hasC l k = l.any fun p => decide (p.1 = k) := by
  rw [hasC, hasK, kps, List.any_map]
  rfl
theorem findC_at {l : CS} {k : ByteArray} (h : cntC l k < l.length) (he : (l[cntC l k]).1 = k) : findC l k = l[cntC l k] := by
  have : l.find? (fun p => decide (p.1 = k)) = some l[cntC l k] := by
    rw [List.find?_eq_some_iff_getElem]
    refine ⟨by simpa using he, _, h, rfl, fun j hj => ?_⟩
    have h2 := cnt_ahead (kps l) k j (by rw [kps_len]; exact Nat.lt_trans hj h) hj
    rw [kps_key] at h2
    simpa using ltS_ne h2
  simp [findC, this]
theorem hasC_iff {l : CS} (hs : CRises l) (k : ByteArray) : hasC l k = true ↔ ∃ h : cntC l k < l.length, (l[cntC l k]).1 = k := by
  rw [hasC, hasK_iff (risesC_pw.2 hs)]
  constructor
  · rintro ⟨h, e⟩
    rw [kps_key] at e
    exact ⟨by rw [← kps_len]; exact h, e⟩
  · rintro ⟨h, e⟩
    refine ⟨by rw [kps_len]; exact h, ?_⟩
    rw [kps_key]
    exact e
/-- Ahead of i no key is k. -/
def noneToC (l : CS) (k : ByteArray) (i : Nat) : Prop := ∀ (j : Nat) (h : j < l.length), j < i → l[j].1 ≠ k
theorem noneToC_succ {l : CS} {x : ByteArray} {k : Nat} (h : noneToC l x k) (hk : k < l.length) (he : l[k].1 ≠ x) : noneToC l x (k + 1) := by
  intro i hi hlt
  by_cases e : i = k
  · subst e
    exact he
  · exact h i hi (by omega)
theorem noneToC_end {l : CS} {x : ByteArray} (h : noneToC l x l.length) : hasC l x = false ∧ findC l x = (⟨#[]⟩, ⟨#[]⟩, false) := by
  have h1 : hasC l x = false := by
    rw [hasC_any, List.any_eq_false]
    intro p hp
    obtain ⟨i, hi, rfl⟩ := List.getElem_of_mem hp
    simpa using h i hi hi
  refine ⟨h1, ?_⟩
  have : l.find? (fun p => decide (p.1 = x)) = none := by
    rw [List.find?_eq_none]
    intro p hp
    obtain ⟨i, hi, rfl⟩ := List.getElem_of_mem hp
    simpa using h i hi hi
  simp [findC, this]
theorem noneToC_val {l : CS} {x : ByteArray} {k : Nat} (h : noneToC l x k) (hk : k < l.length) (he : l[k].1 = x) : findC l x = l[k] ∧ hasC l x = true := by
  have : l.find? (fun p => decide (p.1 = x)) = some l[k] := by
    rw [List.find?_eq_some_iff_getElem]
    refine ⟨by simpa using he, _, hk, rfl, fun j hj => ?_⟩
    simpa using h j (by omega) hj
  refine ⟨by simp [findC, this], ?_⟩
  rw [hasC_any, List.any_eq_true]
  exact ⟨_, List.getElem_mem hk, by simpa using he⟩
/-- Those of y whose key x has not. -/
def moreL (x y : CS) : CS := y.filter fun p => !hasC x p.1
/-- The keys of which x has an unlike one. -/
def unlikeL (x y : CS) : List ByteArray := (y.filter fun p => hasC x p.1 && !decide (findC x p.1 = p)).map fun p => p.1
theorem moreL_succ {y : CS} {i : Nat} (x : CS) (h : i < y.length) : moreL x (y.take (i + 1)) = if hasC x y[i].1 then moreL x (y.take i) else moreL x (y.take i) ++ [y[i]] := by
  rw [moreL, List.take_succ_eq_append_getElem h, List.filter_append]
  cases e : hasC x y[i].1 <;> simp only [List.filter_cons, List.filter_nil, e] <;> simp [moreL]
theorem unlikeL_succ {y : CS} {i : Nat} (x : CS) (h : i < y.length) : unlikeL x (y.take (i + 1)) = if hasC x y[i].1 && !decide (findC x y[i].1 = y[i]) then unlikeL x (y.take i) ++ [y[i].1] else unlikeL x (y.take i) := by
  rw [unlikeL, List.take_succ_eq_append_getElem h, List.filter_append, List.map_append]
  cases e : hasC x y[i].1 && !decide (findC x y[i].1 = y[i]) <;> simp only [List.filter_cons, List.filter_nil, e] <;> simp [unlikeL]
theorem moreL_len (x y : CS) : (moreL x y).length ≤ y.length := List.length_filter_le _ _
theorem unlikeL_len (x y : CS) : (unlikeL x y).length ≤ y.length := by
  rw [unlikeL, List.length_map]
  exact List.length_filter_le _ _
theorem applyL_snoc (m : PS) (l : CS) (x : CD) : applyL m (l ++ [x]) = stepL (applyL m l) x := by simp [applyL]
/-- What Merged answers. -/
def mergeL (m a b : PS) : PS := applyL a (moreL (deltaL m a) (deltaL m b))
def mergeU (m a b : PS) : List ByteArray := unlikeL (deltaL m a) (deltaL m b)
def mergeB (m a b : PS) : Bool := mapB m && (mapB a && (mapB b && decide ((mergeL m a b).length ≤ 60)))
theorem mergeL_ok {m a b : PS} (hm : mapB m = true) (ha : mapB a = true) (hb : mapB b = true) : mapB (mergeL m a b) = decide ((mergeL m a b).length ≤ 60) :=
  applyL_ok ha fun x hx => deltaL_right hm hb x (List.mem_filter.1 hx).1
/-- What the others answer. -/
def deltaOfB (a b : PS) : Bool := mapB a && (mapB b && decide ((deltaL a b).length ≤ 60))
def deltaOfL (a b : PS) : CS := if deltaOfB a b then deltaL a b else []
def changedB (m : PS) (l : CS) : Bool := mapB m && (deltaB l && decide ((applyL m l).length ≤ 60))
def changedL (m : PS) (l : CS) : PS := if changedB m l then applyL m l else []
def joinedB (a b : CS) : Bool := deltaB a && (deltaB b && decide ((ovl a b).length ≤ 60))
def joinedL (a b : CS) : CS := if joinedB a b then ovl a b else []

/-! ### Places in changes whose keys rise -/
theorem risesC_iff {l : CS} : risesC l = true ↔ ∀ i (h : i + 1 < l.length), ltS (l[i]'(by omega)).1 (l[i + 1]).1 = true := by
  rw [risesC, rises_iff]
  constructor
  · intro h i hi
    have := h i (by rw [kps_len]; exact hi)
    rwa [kps_key, kps_key] at this
  · intro h i hi
    rw [kps_key, kps_key]
    exact h i (by rw [kps_len] at hi; exact hi)
def risesToC (l : CS) (k : Nat) : Prop := ∀ (i : Nat) (h : i + 1 < l.length), i + 1 < k → ltS (l[i]'(by omega)).1 (l[i + 1]).1 = true
theorem risesToC_zero (l : CS) : risesToC l 0 := fun i _ h => absurd h (by omega)
theorem risesToC_one (l : CS) : risesToC l 1 := fun i _ h => absurd h (by omega)
theorem risesToC_succ {l : CS} {k : Nat} (h : risesToC l k) (hk : k < l.length) (h1 : ∀ h0 : 0 < k, ltS (l[k - 1]'(by omega)).1 l[k].1 = true) : risesToC l (k + 1) := by
  intro i hi hlt
  by_cases e : i + 1 = k
  · subst e
    exact h1 (by omega)
  · exact h i hi (by omega)
theorem risesC_bad {l : CS} {k : Nat} (hk : k < l.length) (h0 : 0 < k) (h : ltS (l[k - 1]'(by omega)).1 l[k].1 = false) : risesC l = false := by
  rw [Bool.eq_false_iff]
  intro h'
  have := risesC_iff.1 h' (k - 1) (by omega)
  simp only [show k - 1 + 1 = k by omega] at this
  rw [h] at this
  cases this
theorem risesC_ended {l : CS} {k : Nat} (h : risesToC l k) (hk : l.length ≤ k) : risesC l = true := risesC_iff.2 fun i hi => h i hi (by omega)
theorem cntC_le (l : CS) (x : ByteArray) : cntC l x ≤ l.length := by
  have := cnt_le (kps l) x
  rwa [kps_len] at this
theorem cntC_eq (l : CS) (x : ByteArray) (a : Nat) (ha : a ≤ l.length) (h1 : ∀ i (h : i < l.length), i < a → ltS l[i].1 x = true) (h2 : ∀ i (h : i < l.length), a ≤ i → ltS l[i].1 x = false) : cntC l x = a :=
  cnt_eq (kps l) x a (by rw [kps_len]; exact ha) (fun i h hi => by rw [kps_key]; exact h1 i (by rw [← kps_len]; exact h) hi) (fun i h hi => by rw [kps_key]; exact h2 i (by rw [← kps_len]; exact h) hi)
theorem risesC_not {l : CS} (hs : risesC l = true) {x : ByteArray} {m : Nat} (hm : m < l.length) (h : ltS l[m].1 x = false) : ∀ i (hi : i < l.length), m ≤ i → ltS l[i].1 x = false := by
  intro i hi hle
  have := rises_not (ps := kps l) hs (x := x) (m := m) (by rw [kps_len]; exact hm) (by rw [kps_key]; exact h) i (by rw [kps_len]; exact hi) hle
  rwa [kps_key] at this
theorem risesC_yes {l : CS} (hs : risesC l = true) {x : ByteArray} {m : Nat} (hm : m < l.length) (h : ltS l[m].1 x = true) : ∀ i (hi : i < l.length), i < m + 1 → ltS l[i].1 x = true := by
  intro i hi hle
  have := rises_yes (ps := kps l) hs (x := x) (m := m) (by rw [kps_len]; exact hm) (by rw [kps_key]; exact h) i (by rw [kps_len]; exact hi) hle
  rwa [kps_key] at this
theorem hasC_yes {l : CS} (hs : risesC l = true) {x : ByteArray} (h : cntC l x < l.length) (he : (l[cntC l x]).1 = x) : hasC l x = true := (hasC_iff (risesC_pw.1 hs) x).2 ⟨h, he⟩
theorem hasC_no {l : CS} (hs : risesC l = true) {x : ByteArray} (h : cntC l x < l.length) (hne : (l[cntC l x]).1 ≠ x) : hasC l x = false := by
  rw [Bool.eq_false_iff]
  intro h'
  exact hne ((hasC_iff (risesC_pw.1 hs) x).1 h').2
theorem hasC_end {l : CS} (hs : risesC l = true) {x : ByteArray} (h : ¬ cntC l x < l.length) : hasC l x = false := by
  rw [Bool.eq_false_iff]
  intro h'
  exact h ((hasC_iff (risesC_pw.1 hs) x).1 h').1
theorem wr_old {x : CD} {s : CS × Bool} {p : CD} (h : s.2 = true) (he : p.1 = x.1) : writeStep x s p = (s.1, true) := by simp [writeStep, h, he]
theorem wr_app {x : CD} {s : CS × Bool} {p : CD} (h : s.2 = true) (he : p.1 ≠ x.1) : writeStep x s p = (s.1 ++ [p], true) := by simp [writeStep, h, he]
theorem wr_low {x : CD} {s : CS × Bool} {p : CD} (h : s.2 = false) (hl : ltS p.1 x.1 = true) : writeStep x s p = (s.1 ++ [p], false) := by simp [writeStep, h, hl, ltS_ne hl]
theorem wr_new {x : CD} {s : CS × Bool} {p : CD} (h : s.2 = false) (he : p.1 = x.1) : writeStep x s p = (s.1 ++ [x], true) := by simp [writeStep, h, he, ltS_irrefl]
theorem wr_two {x : CD} {s : CS × Bool} {p : CD} (h : s.2 = false) (hl : ltS p.1 x.1 = false) (he : p.1 ≠ x.1) : writeStep x s p = (s.1 ++ [x] ++ [p], true) := by simp [writeStep, h, hl, he]

/-! ### Right changes up to k -/
def deltaW (l : CS) : Bool := l.all changeB && risesC l
theorem deltaB_W {l : CS} (h : l.length ≤ 60) : deltaB l = deltaW l := by simp [deltaB, deltaW, h]
theorem deltaB_long {l : CS} (h : 60 < l.length) : deltaB l = false := by simp [deltaB]; omega
def chgTo (l : CS) (k : Nat) : Prop := ∀ (i : Nat) (h : i < l.length), i < k → changeB l[i] = true
theorem chgTo_zero (l : CS) : chgTo l 0 := fun i _ h => absurd h (by omega)
theorem chgTo_succ {l : CS} {k : Nat} (h : chgTo l k) (hk : k < l.length) (h1 : changeB l[k] = true) : chgTo l (k + 1) := by
  intro i hi hlt
  by_cases e : i = k
  · subst e; exact h1
  · exact h i hi (by omega)
theorem chgTo_all {l : CS} (h : chgTo l l.length) : l.all changeB = true := by
  rw [List.all_eq_true]
  intro p hp
  obtain ⟨i, hi, rfl⟩ := List.getElem_of_mem hp
  exact h i hi hi
theorem chg_bad {l : CS} {k : Nat} (hk : k < l.length) (h : changeB l[k] = false) : l.all changeB = false := by
  rw [Bool.eq_false_iff]
  intro h'
  have := List.all_eq_true.1 h' l[k] (List.getElem_mem hk)
  rw [h] at this
  cases this
theorem deltaW_chg {l : CS} {k : Nat} (hk : k < l.length) (h : changeB l[k] = false) : deltaW l = false := by rw [deltaW, chg_bad hk h]; rfl
theorem deltaW_rises {l : CS} {k : Nat} (hk : k < l.length) (h0 : 0 < k) (h : ltS (l[k - 1]'(by omega)).1 l[k].1 = false) : deltaW l = false := by
  rw [deltaW, risesC_bad hk h0 h, Bool.and_false]
theorem deltaW_end {l : CS} (h : chgTo l l.length) (h' : risesToC l l.length) : deltaW l = true := by
  rw [deltaW, chgTo_all h, risesC_ended h' (Nat.le_refl _)]; rfl
theorem deltaB_chg {l : CS} {k : Nat} (hk : k < l.length) (h : changeB l[k] = false) : deltaB l = false := by
  rw [deltaB, chg_bad hk h]; simp
theorem deltaB_all {l : CS} (h : chgTo l l.length) (hl : l.length ≤ 60) : deltaB l = risesC l := by
  rw [deltaB, chgTo_all h]; simp [hl]
theorem chg_gone {k v : ByteArray} : changeB (k, v, true) = (keyB k && decide (v.size = 0)) := rfl
theorem chg_put {k v : ByteArray} : changeB (k, v, false) = (keyB k && keyB v) := rfl
end Go.Proofs.Ytcjbjfhndjpmcaa
