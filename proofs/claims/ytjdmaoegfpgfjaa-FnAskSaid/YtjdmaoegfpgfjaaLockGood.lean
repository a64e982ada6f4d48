/-
  What asking and freeing keep. Plain facts.
-/
import Derived.Test.YtjdmaoegfpgfjaaLockMem
namespace Go.Proofs.Ytjdmaoegfpgfjaa
open Go.RowKit

def NoClash (hs : HS) : Prop := hs.Pairwise fun y x => clashB y x = false
def OneEach (hs : HS) : Prop := hs.Pairwise fun y x => y.1 ≠ x.1
theorem heldsB_iff2 {hs : HS} : heldsB hs = true ↔ HoldsB hs ∧ NoClash hs := by
  rw [heldsB_iff]
  constructor
  · intro h
    refine ⟨fun x hx => ?_, ?_⟩
    · obtain ⟨i, hi, rfl⟩ := List.getElem_of_mem hx
      exact (heldAt_iff.1 (h i hi)).1
    · rw [NoClash, List.pairwise_iff_getElem]
      intro i j hi hj hlt
      exact (heldAt_iff.1 (h j hj)).2 i hi hlt
  · rintro ⟨h1, h2⟩ i hi
    rw [NoClash, List.pairwise_iff_getElem] at h2
    exact heldAt_iff.2 ⟨h1.at_ hi, fun j hj hlt => h2 j i hj hi hlt⟩
theorem linesB_iff2 {hs : HS} : linesB hs = true ↔ HoldsB hs ∧ OneEach hs := by
  rw [linesB_iff]
  constructor
  · intro h
    refine ⟨fun x hx => ?_, ?_⟩
    · obtain ⟨i, hi, rfl⟩ := List.getElem_of_mem hx
      exact (lineAt_iff.1 (h i hi)).1
    · rw [OneEach, List.pairwise_iff_getElem]
      intro i j hi hj hlt
      exact (lineAt_iff.1 (h j hj)).2 i hi hlt
  · rintro ⟨h1, h2⟩ i hi
    rw [OneEach, List.pairwise_iff_getElem] at h2
    exact lineAt_iff.2 ⟨h1.at_ hi, fun j hj hlt => h2 j i hj hi hlt⟩
theorem clashB_symm (a b : HD) : clashB a b = clashB b a := by
  unfold clashB
  rw [fitB_symm a.2.2 b.2.2]
  by_cases h1 : a.2.1 = b.2.1 <;> by_cases h2 : a.1 = b.1
  · simp [h1, h2]
  · simp [h1, h2, Ne.symm h2]
  · simp [h1, Ne.symm h1]
  · simp [h1, Ne.symm h1]
theorem no_clash {y x : HD} (hy : modeB y.2.2 = true) (hx : modeB x.2.2 = true) (hk : keepsB y x = false) (ho : ownB y x = false) : clashB y x = false := by
  simp only [keepsB, ownB, clashB, fitF, hy, hx, Bool.true_and] at *
  by_cases h1 : y.2.1 = x.2.1
  · by_cases h2 : y.1 = x.1
    · simp [h1, h2] at ho
    · simp [h1, h2] at hk ⊢
      exact hk
  · simp [h1]
theorem mayB_keeps {h a : HS} {x : HD} (hm : mayB h a x = true) : ∀ y ∈ h, keepsB y x = false := by
  rw [mayB, Bool.and_eq_true, Bool.not_eq_true'] at hm
  intro y hy
  have := List.any_eq_false.1 hm.1 y hy
  simpa using this
theorem clash_own {y z x : HD} (hz : ownB z x = true) (hc : clashB y z = false) : ownB y x = false := by
  rw [ownB_iff] at hz
  cases ho : ownB y x
  · rfl
  · rw [ownB_iff] at ho
    have e1 : y.1 = z.1 := ho.1.trans hz.1.symm
    have e2 : y.2.1 = z.2.1 := ho.2.trans hz.2.symm
    simp [clashB, e1, e2] at hc
theorem NoClash.uniq {hs : HS} (h : NoClash hs) : Uniq hs := h.imp fun {a b} hc => by
  have := clash_own (x := b) (ownB_iff.2 ⟨rfl, rfl⟩) hc
  exact this
theorem NoClash.give {hs : HS} (h : NoClash hs) (hh : HoldsB hs) {a : HS} {x : HD} (hx : modeB x.2.2 = true) (hm : mayB hs a x = true) : NoClash (giveL hs x) := by
  have hk := mayB_keeps hm
  cases ho : hs.any fun y => ownB y x
  · rw [give_new ho, NoClash, List.pairwise_append]
    refine ⟨h, List.pairwise_singleton _ _, fun y hy z hz => ?_⟩
    simp only [List.mem_singleton] at hz
    subst hz
    have hoy := List.any_eq_false.1 ho y hy
    exact no_clash (holdB_mode (hh y hy)) hx (hk y hy) (by simpa using hoy)
  · obtain ⟨z, hz, hzo⟩ := List.any_eq_true.1 ho
    obtain ⟨i, hi, rfl⟩ := List.getElem_of_mem hz
    have hall : ∀ (j : Nat) (hj : j < hs.length), j ≠ i → clashB hs[j] x = false := by
      intro j hj hne
      have h' := h
      rw [NoClash, List.pairwise_iff_getElem] at h'
      have hc : clashB hs[j] hs[i] = false := by
        rcases Nat.lt_or_gt_of_ne hne with hlt | hlt
        · exact h' j i hj hi hlt
        · rw [clashB_symm]; exact h' i j hi hj hlt
      exact no_clash (holdB_mode (hh.at_ hj)) hx (hk _ (List.getElem_mem hj)) (clash_own hzo hc)
    rw [give_set h.uniq hi hzo, NoClash, List.pairwise_iff_getElem]
    intro j k hj hk' hlt
    rw [List.length_set] at hj hk'
    rw [List.getElem_set, List.getElem_set]
    by_cases e1 : i = j
    · rw [if_pos e1, if_neg (by omega), clashB_symm]
      exact hall k hk' (by omega)
    · rw [if_neg e1]
      by_cases e2 : i = k
      · rw [if_pos e2]
        exact hall j hj (by omega)
      · rw [if_neg e2]
        rw [NoClash, List.pairwise_iff_getElem] at h
        exact h j k hj hk' hlt
theorem cutAt_sub (l : HS) (i : Nat) : (cutAt l i).Sublist l := by
  have h1 : (l.take i ++ l.drop (i + 1)).Sublist (l.take i ++ l.drop i) := (List.append_sublist_append_left _).2 (by
    rw [show l.drop (i + 1) = (l.drop i).drop 1 by rw [List.drop_drop]]
    exact List.drop_sublist _ _)
  rwa [List.take_append_drop] at h1
theorem NoClash.gone {hs : HS} (h : NoClash hs) (t : Int) : NoClash (goneL hs t) := List.Pairwise.filter _ h
theorem OneEach.gone {hs : HS} (h : OneEach hs) (t : Int) : OneEach (goneL hs t) := List.Pairwise.filter _ h
theorem OneEach.cut {hs : HS} (h : OneEach hs) (i : Nat) : OneEach (cutAt hs i) := List.Pairwise.sublist (cutAt_sub hs i) h
/-- Locks as they must be, of whatever length. -/
structure Good (h l : HS) : Prop where
  hh : HoldsB h
  hl : HoldsB l
  nc : NoClash h
  oe : OneEach l
theorem good_of {h l : HS} (p : locksB h l = true) : Good h l := by
  obtain ⟨h1, h2, _⟩ := locksB_iff.1 p
  obtain ⟨a, b⟩ := heldsB_iff2.1 h1
  obtain ⟨c, d⟩ := linesB_iff2.1 h2
  exact ⟨a, c, b, d⟩
theorem Good.locks {h l : HS} (p : Good h l) (h1 : h.length ≤ 100) (h2 : l.length ≤ 20) : locksB h l = true := locksB_iff.2 ⟨heldsB_iff2.2 ⟨p.hh, p.nc⟩, linesB_iff2.2 ⟨p.hl, p.oe⟩, h1, h2⟩
theorem Good.gone {h l : HS} (p : Good h l) (t : Int) : Good (goneL h t) (goneL l t) := ⟨p.hh.gone t, p.hl.gone t, p.nc.gone t, p.oe.gone t⟩
theorem Good.step {h l : HS} (p : Good h l) {i : Nat} (hi : i < l.length) (hm : mayB h (l.take i) l[i] = true) : Good (giveL h l[i]) (cutAt l i) :=
  ⟨p.hh.give (p.hl.at_ hi), p.hl.cut i, p.nc.give p.hh (holdB_mode (p.hl.at_ hi)) hm, p.oe.cut i⟩
theorem firstL_may {h l : HS} {i : Nat} (e : firstL h l = some i) : ∃ hi : i < l.length, mayB h (l.take i) l[i] = true := by
  have hi := firstL_lt e
  refine ⟨hi, ?_⟩
  have : ∀ (f k i : Nat), firstF h l k f = some i → mayB h (l.take i) (l.getD i (0, ⟨#[]⟩, 0)) = true := by
    intro f
    induction f with
    | zero => intro k i e; simp [firstF] at e
    | succ f ih =>
      intro k i e
      rw [firstF] at e
      split at e
      · rename_i hm
        injection e with e
        subst e
        exact hm
      · exact ih _ _ e
  have h1 := this _ _ _ e
  rwa [getD_hold hi] at h1
theorem give_keeps {h : HS} {x y : HD} (hy : y ∈ h) : ∃ z ∈ giveL h x, z.1 = y.1 ∧ z.2.1 = y.2.1 := by
  rw [giveL]
  split
  · refine ⟨_, List.mem_map.2 ⟨y, hy, rfl⟩, ?_⟩
    split
    · rename_i ho
      have := ownB_iff.1 ho
      exact ⟨this.1.symm, this.2.symm⟩
    · exact ⟨rfl, rfl⟩
  · exact ⟨y, List.mem_append_left _ hy, rfl, rfl⟩
theorem give_mem {h : HS} {x z : HD} (hz : z ∈ giveL h x) : z ∈ h ∨ z = x := by
  rw [giveL] at hz
  split at hz
  · obtain ⟨y, hy, e⟩ := List.mem_map.1 hz
    split at e
    · exact .inr e.symm
    · exact .inl (e ▸ hy)
  · rcases List.mem_append.1 hz with hz | hz
    · exact .inl hz
    · exact .inr (by simpa using hz)
/-- What waking keeps. -/
structure Woke (h l : HS) (ws : List Int) (r : HS × HS × List Int) : Prop where
  good : Good r.1 r.2.1
  none_ : firstL r.1 r.2.1 = none
  mem : ∀ z ∈ r.1, z ∈ h ∨ z ∈ l
  line : r.2.1.Sublist l
  kept : ∀ y ∈ h, ∃ z ∈ r.1, z.1 = y.1 ∧ z.2.1 = y.2.1
  total : r.1.length + r.2.1.length ≤ h.length + l.length
  told : ∀ t ∈ r.2.2, t ∈ ws ∨ ∃ x ∈ l, x.1 = t
  gone : ∀ t ∈ r.2.2, t ∈ ws ∨ ∀ x ∈ r.2.1, x.1 ≠ t
theorem oneEach_at {l : HS} (h : OneEach l) {i : Nat} (hi : i < l.length) : ∀ x ∈ cutAt l i, x.1 ≠ l[i].1 := by
  intro x hx
  rw [OneEach, List.pairwise_iff_getElem] at h
  rcases List.mem_append.1 hx with hx | hx
  · obtain ⟨j, hj, rfl⟩ := List.getElem_of_mem hx
    rw [List.length_take] at hj
    rw [List.getElem_take]
    exact h j i (by omega) hi (by omega)
  · obtain ⟨j, hj, rfl⟩ := List.getElem_of_mem hx
    rw [List.length_drop] at hj
    rw [List.getElem_drop]
    exact Ne.symm (h i (i + 1 + j) hi (by omega) (by omega))
theorem wake_ok : ∀ (f : Nat) (h l : HS) (ws : List Int), Good h l → l.length ≤ f → Woke h l ws (wakeF f h l ws)
  | 0, h, l, ws, g, hf => by
    have : l = [] := List.eq_nil_of_length_eq_zero (by omega)
    subst this
    exact ⟨g, rfl, fun z hz => .inl hz, List.Sublist.refl _, fun y hy => ⟨y, hy, rfl, rfl⟩, Nat.le_refl _, fun t ht => .inl ht, fun t ht => .inl ht⟩
  | f + 1, h, l, ws, g, hf => by
    rw [wakeF]
    cases e : firstL h l with
    | none => exact ⟨g, e, fun z hz => .inl hz, List.Sublist.refl _, fun y hy => ⟨y, hy, rfl, rfl⟩, Nat.le_refl _, fun t ht => .inl ht, fun t ht => .inl ht⟩
    | some i =>
      obtain ⟨hi, hm⟩ := firstL_may e
      have hd : l.getD i (0, ⟨#[]⟩, 0) = l[i] := getD_hold hi
      simp only [hd]
      have hcl := cutAt_length hi
      have ih := wake_ok f (giveL h l[i]) (cutAt l i) (ws ++ [l[i].1]) (g.step hi hm) (by omega)
      refine ⟨ih.good, ih.none_, fun z hz => ?_, ih.line.trans (cutAt_sub l i), fun y hy => ?_, ?_, fun t ht => ?_, fun t ht => ?_⟩
      · rcases ih.mem z hz with hz | hz
        · rcases give_mem hz with hz | rfl
          · exact .inl hz
          · exact .inr (List.getElem_mem hi)
        · exact .inr ((cutAt_sub l i).subset hz)
      · obtain ⟨z, hz, e1, e2⟩ := give_keeps (x := l[i]) hy
        obtain ⟨z', hz', e1', e2'⟩ := ih.kept z hz
        exact ⟨z', hz', e1'.trans e1, e2'.trans e2⟩
      · have h1 := ih.total
        have h2 := giveL_length h l[i]
        omega
      · rcases ih.told t ht with h1 | ⟨x, hx, e1⟩
        · rcases List.mem_append.1 h1 with h1 | h1
          · exact .inl h1
          · simp only [List.mem_singleton] at h1
            exact .inr ⟨_, List.getElem_mem hi, h1.symm⟩
        · exact .inr ⟨x, (cutAt_sub l i).subset hx, e1⟩
      · rcases ih.gone t ht with h1 | h1
        · rcases List.mem_append.1 h1 with h1 | h1
          · exact .inl h1
          · simp only [List.mem_singleton] at h1
            subst h1
            exact .inr fun x hx => oneEach_at g.oe hi x (ih.line.subset hx)
        · exact .inr h1
theorem free_woke {h l : HS} (p : locksB h l = true) (t : Int) : Woke (goneL h t) (goneL l t) [] (freeL h l t) := wake_ok _ _ _ _ ((good_of p).gone t) (Nat.le_refl _)
theorem gone_mem {hs : HS} {t : Int} {x : HD} : x ∈ goneL hs t ↔ x ∈ hs ∧ x.1 ≠ t := by
  rw [goneL, List.mem_filter]
  simp
theorem goneL_le (h : HS) (t : Int) : (goneL h t).length ≤ h.length := List.length_filter_le _ _
theorem free_total {h l : HS} (p : locksB h l = true) (t : Int) : (freeL h l t).1.length + (freeL h l t).2.1.length ≤ h.length + l.length ∧ (freeL h l t).2.1.length ≤ l.length := by
  have h1 := (free_woke p t).total
  have h2 := (free_woke p t).line.length_le
  have h3 := goneL_le h t
  have h4 := goneL_le l t
  omega
/-- Of few locks it leaves right ones. -/
theorem free_ok {h l : HS} (p : locksB h l = true) (t : Int) (hs : h.length + l.length ≤ 100) : locksB (freeL h l t).1 (freeL h l t).2.1 = true := by
  have h1 := free_total p t
  have h2 := (locksB_iff.1 p).2.2.2
  exact (free_woke p t).good.locks (by omega) (by omega)
theorem free_held {h l : HS} (p : locksB h l = true) (t : Int) : ∀ z ∈ (freeL h l t).1, z.1 ≠ t := fun z hz => by
  rcases (free_woke p t).mem z hz with hz | hz
  · exact (gone_mem.1 hz).2
  · exact (gone_mem.1 hz).2
theorem free_line {h l : HS} (p : locksB h l = true) (t : Int) : ∀ z ∈ (freeL h l t).2.1, z.1 ≠ t ∧ z.1 ∉ (freeL h l t).2.2 := fun z hz =>
  ⟨(gone_mem.1 ((free_woke p t).line.subset hz)).2, fun hm => by
    rcases (free_woke p t).gone _ hm with h1 | h1
    · simp at h1
    · exact h1 z hz rfl⟩
theorem free_kept {h l : HS} (p : locksB h l = true) (t : Int) : ∀ x ∈ h, x.1 ≠ t → ∃ z ∈ (freeL h l t).1, z.1 = x.1 ∧ z.2.1 = x.2.1 := fun x hx hne => (free_woke p t).kept x (gone_mem.2 ⟨hx, hne⟩)
theorem gone_same {hs : HS} {t : Int} (h : ∀ z ∈ hs, z.1 ≠ t) : goneL hs t = hs := List.filter_eq_self.2 fun x hx => by simp [h x hx]
/-- Freed twice: the same as once. -/
theorem free_twice {h l : HS} (p : locksB h l = true) (t : Int) (hs : h.length + l.length ≤ 100) : freeR (freeL h l t).1 (freeL h l t).2.1 t = ((freeL h l t).1, (freeL h l t).2.1, []) := by
  rw [freeR, if_pos (free_ok p t hs), freeL, gone_same (free_held p t), gone_same fun z hz => (free_line p t z hz).1]
  cases hn : (freeL h l t).2.1.length with
  | zero => rw [wakeF]
  | succ f => rw [wakeF, (free_woke p t).none_]
/-- Each that still waits waits for one that holds or stands ahead. -/
theorem free_waits {h l : HS} (p : locksB h l = true) (t : Int) {i : Nat} (hi : i < (freeL h l t).2.1.length) :
    (((freeL h l t).1.any fun y => keepsB y (freeL h l t).2.1[i]) = true) ∨ (((freeL h l t).2.1.take i).any fun y => decide (y.2.1 = (freeL h l t).2.1[i].2.1)) = true := by
  have h1 := (firstF_none (freeL h l t).2.1.length 0).1 (free_woke p t).none_ i (Nat.zero_le _) (by omega)
  rw [getD_hold hi, mayB] at h1
  cases e1 : (freeL h l t).1.any fun y => keepsB y (freeL h l t).2.1[i]
  · right
    rw [e1] at h1
    cases e2 : ((freeL h l t).2.1.take i).any fun y => decide (y.2.1 = (freeL h l t).2.1[i].2.1)
    · rw [e2] at h1
      simp at h1
    · rfl
  · exact .inl rfl
/-! ### asking -/
theorem ask_good {h l : HS} {x : HD} (p : askOk h l x = true) : Good (askL h l (wholeH h x)).1 (askL h l (wholeH h x)).2.1 := by
  obtain ⟨p1, p2, p3, p4, p5⟩ := askOk_iff.1 p
  have g := good_of p1
  have hx := wholeH_ok g.hh p2
  rw [askL]
  split
  · rename_i hm
    exact ⟨g.hh.give hx, g.hl, g.nc.give g.hh (holdB_mode hx) hm, g.oe⟩
  · split
    · exact g
    · refine ⟨g.hh, fun y hy => ?_, g.nc, ?_⟩
      · rcases List.mem_append.1 hy with hy | hy
        · exact g.hl y hy
        · rw [List.mem_singleton] at hy
          exact hy ▸ hx
      · rw [OneEach, List.pairwise_append]
        refine ⟨g.oe, List.pairwise_singleton _ _, fun y hy z hz => ?_⟩
        rw [List.mem_singleton] at hz
        subst hz
        have := List.any_eq_false.1 p3 y hy
        simp only [decide_eq_true_eq] at this
        exact this
theorem ask_total (h l : HS) (x : HD) : (askL h l x).1.length + (askL h l x).2.1.length ≤ h.length + l.length + 1 := by
  rw [askL]
  split
  · have := giveL_length h x
    show (giveL h x).length + l.length ≤ _
    omega
  · split
    · show h.length + l.length ≤ _
      omega
    · simp; omega
theorem askR_len (h l : HS) (x : HD) : (askR h l x).1.length ≤ 1000 ∧ (askR h l x).2.1.length ≤ 1000 := by
  rw [askR]
  split
  · rename_i p
    obtain ⟨p1, p2, p3, p4, p5⟩ := askOk_iff.1 p
    have := ask_total h l (wholeH h x)
    omega
  · simp
end Go.Proofs.Ytjdmaoegfpgfjaa
