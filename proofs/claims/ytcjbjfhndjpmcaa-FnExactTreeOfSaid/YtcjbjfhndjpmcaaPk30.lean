import Derived.Test.YtcjbjfhndjpmcaaPk22
import Derived.Test.YtcjbjfhndjpmcaaPk29
/-
  A right tree stays right, and has the pairs that a map has: plain facts.
-/
namespace Go.Proofs.Ytcjbjfhndjpmcaa

/-! ### lists -/
theorem putL_ahead {A X : PS} {k v : ByteArray} (h : ∀ p ∈ A, ltS p.1 k = true) : putL (A ++ X) k v = A ++ putL X k v := by
  have h1 : (A ++ X).takeWhile (fun p => ltS p.1 k) = A ++ X.takeWhile (fun p => ltS p.1 k) := List.takeWhile_append_of_pos h
  have h2 : (A ++ X).dropWhile (fun p => ltS p.1 k) = X.dropWhile (fun p => ltS p.1 k) := List.dropWhile_append_of_pos h
  simp only [putL, h1, h2, List.append_assoc]
theorem gt_facts {C : PS} {k : ByteArray} (h : ∀ p ∈ C, ltS k p.1 = true) : (C.takeWhile (fun p => ltS p.1 k)) = [] ∧ C.dropWhile (fun p => ltS p.1 k) = C ∧ C.filter (fun p => decide (p.1 ≠ k)) = C := by
  have hf : C.filter (fun p => decide (p.1 ≠ k)) = C := List.filter_eq_self.2 fun p hp => by
    have := ltS_ne (h p hp)
    simpa using fun e => this e.symm
  cases C with
  | nil => exact ⟨rfl, rfl, rfl⟩
  | cons c r =>
    have hc := ltS_asymm (h c (by simp))
    exact ⟨by simp [hc], by simp [hc], hf⟩
theorem putL_behind {B C : PS} {k v : ByteArray} (h : ∀ p ∈ C, ltS k p.1 = true) : putL (B ++ C) k v = putL B k v ++ C := by
  obtain ⟨h1, h2, h3⟩ := gt_facts h
  simp only [putL]
  by_cases hb : ∀ p ∈ B, ltS p.1 k = true
  · rw [List.takeWhile_append_of_pos hb, List.dropWhile_append_of_pos hb, h1, h2, h3]
    have e1 : B.takeWhile (fun p => ltS p.1 k) = B := by
      have := List.takeWhile_append_of_pos (l₂ := []) hb
      simpa using this
    have e2 : B.dropWhile (fun p => ltS p.1 k) = [] := by
      have := List.dropWhile_append_of_pos (l₂ := []) hb
      simpa using this
    rw [e1, e2]
    simp
  · have e1 : (B ++ C).takeWhile (fun p => ltS p.1 k) = B.takeWhile (fun p => ltS p.1 k) := by
      rw [List.takeWhile_append]
      split
      · rename_i hl
        exfalso
        apply hb
        intro p hp
        have hs : B.takeWhile (fun p => ltS p.1 k) = B := (List.takeWhile_sublist _).eq_of_length hl
        rw [← hs] at hp
        exact mem_takeWhile hp
      · rfl
    have e2 : (B ++ C).dropWhile (fun p => ltS p.1 k) = B.dropWhile (fun p => ltS p.1 k) ++ C := by
      have x1 := List.takeWhile_append_dropWhile (p := fun p : BB => ltS p.1 k) (l := B ++ C)
      have x2 := List.takeWhile_append_dropWhile (p := fun p : BB => ltS p.1 k) (l := B)
      rw [e1] at x1
      have x3 : B.takeWhile (fun p => ltS p.1 k) ++ (B ++ C).dropWhile (fun p => ltS p.1 k) = B.takeWhile (fun p => ltS p.1 k) ++ (B.dropWhile (fun p => ltS p.1 k) ++ C) := by
        rw [x1, ← List.append_assoc, x2]
      exact List.append_cancel_left x3
    rw [e1, e2, List.filter_append, h3]
    simp
theorem dropL_ahead {A X : PS} {k : ByteArray} (h : ∀ p ∈ A, ltS p.1 k = true) : dropL (A ++ X) k = A ++ dropL X k := by
  simp only [dropL, List.filter_append]
  congr 1
  exact List.filter_eq_self.2 fun p hp => by simpa using ltS_ne (h p hp)
theorem dropL_behind {B C : PS} {k : ByteArray} (h : ∀ p ∈ C, ltS k p.1 = true) : dropL (B ++ C) k = dropL B k ++ C := by
  simp only [dropL, List.filter_append]
  congr 1
  exact (gt_facts h).2.2
theorem rises_app {A B : PS} (h : risesB (A ++ B) = true) : risesB A = true ∧ risesB B = true ∧ ∀ p ∈ A, ∀ q ∈ B, ltS p.1 q.1 = true := by
  have h1 := rises_pw.1 h
  unfold Rises at h1
  rw [List.pairwise_append] at h1
  exact ⟨rises_pw.2 h1.1, rises_pw.2 h1.2.1, h1.2.2⟩
theorem allK_cons (t : BT) (r : List BT) : allK (t :: r) = allT t ++ allK r := rfl
theorem allK_mem {ks : List BT} {p : BB} : p ∈ allK ks ↔ ∃ t ∈ ks, p ∈ allT t := by
  induction ks with
  | nil => simp [allK]
  | cons t r ih => simp [allK, ih]
/-- The pairs of kids, cut at one of them. -/
theorem allK_cut {ks : List BT} {i : Nat} (h : i < ks.length) : allK ks = allK (ks.take i) ++ (allT ks[i] ++ allK (ks.drop (i + 1))) := by
  conv => lhs; rw [← List.take_append_drop i ks, List.drop_eq_getElem_cons h]
  rw [allK_append, allK_cons]
/-- What stands ahead of the way is ahead of the key; what stands behind it is behind. -/
theorem way_parts {n : Nat} {ks : List BT} {k : ByteArray} (hg : ∀ x ∈ ks, Fine n false x) (hr : risesB (allK ks) = true) (h0 : 0 < ks.length) :
    (∀ p ∈ allK (ks.take (wayT ks k)), ltS p.1 k = true) ∧ (∀ p ∈ allK (ks.drop (wayT ks k + 1)), ltS k p.1 = true) := by
  have hlt := wayT_lt k h0
  have hgd : ∀ i (h : i < ks.length), ks.getD i nilT = ks[i] := fun i h => by simp [h]
  constructor
  · intro p hp
    by_cases hz : wayT ks k = 0
    · rw [hz] at hp
      simp [allK] at hp
    · have h1 := wayD_at ks k (ks.length - 1) hz
      change ltS k (leastT (ks.getD (wayT ks k) nilT)) = false at h1
      rw [hgd _ hlt] at h1
      obtain ⟨v, r, e⟩ := least_head n ks[wayT ks k] (hg _ (List.getElem_mem hlt))
      rw [allK_cut hlt] at hr
      have h2 := (rises_app hr).2.2 p hp (leastT ks[wayT ks k], v) (by rw [e]; simp)
      by_cases he : leastT ks[wayT ks k] = k
      · rw [he] at h2; exact h2
      · exact ltS_trans h2 (ltS_of_not h1 (fun e => he e.symm))
  · intro p hp
    obtain ⟨t, ht, hpt⟩ := allK_mem.1 hp
    obtain ⟨j, hj, rfl⟩ := List.getElem_of_mem ht
    rw [List.length_drop] at hj
    rw [List.getElem_drop] at hpt
    have hj2 : wayT ks k + 1 + j < ks.length := by omega
    have h1 := wayD_behind ks k (ks.length - 1) (wayT ks k + 1 + j) (by show wayT ks k < _; omega) (by omega)
    rw [hgd _ hj2] at h1
    obtain ⟨v, r, e⟩ := least_head n ks[wayT ks k + 1 + j] (hg _ (List.getElem_mem hj2))
    rw [e] at hpt
    rcases List.mem_cons.1 hpt with rfl | hpr
    · exact h1
    · rw [allK_cut hj2] at hr
      have h2 := (rises_app (rises_app hr).2.1).1
      rw [e] at h2
      exact ltS_trans h1 ((rises_tail h2).2 p hpr)

/-! ### put -/
/-- A tree that may have one too many at the first node. -/
def OverT (n : Nat) (b : Bool) (t : BT) : Prop :=
  match n with
  | 0 => t.ks = [] ∧ t.ps.length ≤ 5 ∧ 1 ≤ t.ps.length ∧ (b = true ∨ 2 ≤ t.ps.length)
  | n + 1 => t.ps = [] ∧ 2 ≤ t.ks.length ∧ t.ks.length ≤ 5 ∧ ∀ x ∈ t.ks, Fine n false x
theorem OverT.good {n : Nat} {b : Bool} {t : BT} (h : OverT n b t) (hs : sizeT t ≤ 4) : Fine n b t := by
  cases n with
  | zero => exact ⟨h.1, by unfold sizeT at hs; omega, h.2.2.2⟩
  | succ n => exact ⟨h.1, h.2.1, by unfold sizeT at hs; omega, h.2.2.2⟩
theorem split_good {n : Nat} {b : Bool} {t : BT} (h : OverT n b t) : (∀ x ∈ splitL t, sizeT t ≤ 4 → Fine n b x) ∧ (∀ x ∈ splitL t, ¬ sizeT t ≤ 4 → Fine n false x) ∧ allK (splitL t) = allT t ∧ 1 ≤ (splitL t).length ∧ (splitL t).length ≤ 2 ∧ (¬ sizeT t ≤ 4 → (splitL t).length = 2) := by
  unfold splitL
  by_cases hs : sizeT t ≤ 4
  · rw [if_pos hs]
    refine ⟨fun x hx _ => ?_, fun _ _ h => absurd hs h, by simp [allK], by simp, by simp, fun h => absurd hs h⟩
    have : x = t := by simpa using hx
    subst this
    exact h.good hs
  · rw [if_neg hs]
    cases t with
    | node ps ks =>
    cases n with
    | zero =>
      obtain ⟨h1, h2, h3, h4⟩ := h
      simp only [BT.ps, BT.ks] at *
      subst h1
      simp only [sizeT, BT.ps, BT.ks, List.length_nil, Nat.add_zero] at hs ⊢
      have h5 : ps.length = 5 := by omega
      have h6 : (ps.length + 1) / 2 = 3 := by omega
      rw [h6]
      refine ⟨fun _ _ h => absurd h hs, fun x hx _ => ?_, by simp [allK, allT], by simp, by simp, fun _ => by simp⟩
      rcases List.mem_cons.1 hx with rfl | hx
      · exact ⟨by simp [BT.ks], by simp [BT.ps]; omega, .inr (by simp [BT.ps]; omega)⟩
      · have : x = .node (ps.drop 3) (List.drop 3 []) := by simpa using hx
        subst this
        exact ⟨by simp [BT.ks], by simp [BT.ps]; omega, .inr (by simp [BT.ps]; omega)⟩
    | succ n =>
      obtain ⟨h1, h2, h3, h4⟩ := h
      simp only [BT.ps, BT.ks] at *
      subst h1
      simp only [sizeT, BT.ps, BT.ks, List.length_nil, Nat.zero_add] at hs ⊢
      have h5 : ks.length = 5 := by omega
      have h6 : (ks.length + 1) / 2 = 3 := by omega
      rw [h6]
      refine ⟨fun _ _ h => absurd h hs, fun x hx _ => ?_, ?_, by simp, by simp, fun _ => by simp⟩
      · rcases List.mem_cons.1 hx with rfl | hx
        · exact ⟨by simp [BT.ps], by simp [BT.ks]; omega, by simp [BT.ks]; omega, fun y hy => h4 y (List.mem_of_mem_take hy)⟩
        · have : x = .node (List.drop 3 []) (ks.drop 3) := by simpa using hx
          subst this
          exact ⟨by simp [BT.ps], by simp [BT.ks]; omega, by simp [BT.ks]; omega, fun y hy => h4 y (List.mem_of_mem_drop hy)⟩
      · have := allK_append (ks.take 3) (ks.drop 3)
        rw [List.take_append_drop] at this
        simp [allK, allT, this]
theorem putL_len1 {ps : PS} (hs : risesB ps = true) (k v : ByteArray) : ps.length ≤ (putL ps k v).length ∧ (putL ps k v).length ≤ ps.length + 1 ∧ 1 ≤ (putL ps k v).length := by
  have h := put_len hs k v
  refine ⟨by rw [h]; split <;> omega, by rw [h]; split <;> omega, ?_⟩
  have := List.length_pos_of_mem (put_mem ps k v)
  omega
theorem put_over (k v : ByteArray) : ∀ (n : Nat) (b : Bool) (t : BT), Fine n b t → risesB (allT t) = true → OverT n b (putT k v t) ∧ allT (putT k v t) = putL (allT t) k v ∧ sizeT t ≤ sizeT (putT k v t)
  | 0, b, .node ps ks, h, hr => by
    obtain ⟨h1, h2, h3⟩ := h
    simp only [BT.ps, BT.ks] at h1 h2 h3
    subst h1
    simp only [allT, allK, List.append_nil] at hr
    have hl := putL_len1 hr k v
    rw [putT_leaf]
    refine ⟨⟨rfl, by simp [BT.ps]; omega, hl.2.2, h3.imp id (fun h => by simp [BT.ps]; omega)⟩, by simp [allT, allK], by simp [sizeT, BT.ps, BT.ks]; omega⟩
  | n + 1, b, .node ps ks, h, hr => by
    obtain ⟨h1, h2, h3, h4⟩ := h
    simp only [BT.ps, BT.ks] at h1 h2 h3 h4
    subst h1
    simp only [allT, List.nil_append] at hr
    have h0 : 0 < ks.length := by omega
    have hlt := wayT_lt k h0
    rw [putT_node k v [] h0]
    obtain ⟨w1, w2⟩ := way_parts (k := k) h4 hr h0
    have hcut := allK_cut hlt
    have hr2 := hr
    rw [hcut] at hr2
    have hri : risesB (allT ks[wayT ks k]) = true := (rises_app (rises_app hr2).2.1).1
    obtain ⟨i1, i2, i3⟩ := put_over k v n false ks[wayT ks k] (h4 _ (List.getElem_mem hlt)) hri
    obtain ⟨s0, s1, s2, s3, s4, s5⟩ := split_good i1
    refine ⟨⟨rfl, ?_, ?_, fun x hx => ?_⟩, ?_, ?_⟩
    · simp [BT.ks]; omega
    · simp [BT.ks]; omega
    · simp only [BT.ks, List.mem_append] at hx
      rcases hx with hx | hx | hx
      · exact h4 x (List.mem_of_mem_take hx)
      · by_cases hs : sizeT (putT k v ks[wayT ks k]) ≤ 4
        · exact s0 x hx hs
        · exact s1 x hx hs
      · exact h4 x (List.mem_of_mem_drop hx)
    · simp only [allT, List.nil_append]
      rw [allK_append, allK_append, s2, i2, hcut, putL_ahead w1, putL_behind w2]
    · simp [sizeT, BT.ps, BT.ks]; omega
theorem putA_good {k v : ByteArray} {n : Nat} {t : BT} (h : Fine n true t) (hr : risesB (allT t) = true) : (∃ m, Fine m true (putA k v t)) ∧ allT (putA k v t) = putL (allT t) k v := by
  obtain ⟨i1, i2, _⟩ := put_over k v n true t h hr
  obtain ⟨s0, s1, s2, s3, s4, s5⟩ := split_good i1
  unfold putA
  by_cases hs : sizeT (putT k v t) ≤ 4
  · rw [if_pos hs]
    exact ⟨⟨n, i1.good hs⟩, i2⟩
  · rw [if_neg hs]
    refine ⟨⟨n + 1, rfl, ?_, ?_, fun x hx => ?_⟩, ?_⟩
    · have := s5 hs
      simp only [BT.ks]; omega
    · simp only [BT.ks]; omega
    · exact s1 x hx hs
    · simp only [allT, List.nil_append]
      rw [s2, i2]

/-! ### drop -/
/-- A tree that may have one too few at the first node. -/
def Low (n : Nat) (t : BT) : Prop :=
  match n with
  | 0 => t.ks = [] ∧ t.ps.length ≤ 4
  | n + 1 => t.ps = [] ∧ 1 ≤ t.ks.length ∧ t.ks.length ≤ 4 ∧ ∀ x ∈ t.ks, Fine n false x
theorem Low.good {n : Nat} {t : BT} (h : Low n t) (hs : 2 ≤ sizeT t) : Fine n false t := by
  cases n with
  | zero =>
    obtain ⟨h1, h2⟩ := h
    exact ⟨h1, h2, .inr (by simpa [sizeT, h1] using hs)⟩
  | succ n =>
    obtain ⟨h1, h2, h3, h4⟩ := h
    exact ⟨h1, by simpa [sizeT, h1] using hs, h3, h4⟩
theorem Fine.low {n : Nat} {b : Bool} {t : BT} (h : Fine n b t) : Low n t := by
  cases n with
  | zero => exact ⟨h.1, h.2.1⟩
  | succ n => exact ⟨h.1, by have := h.2.1; omega, h.2.2.1, h.2.2.2⟩
theorem allT_eq (t : BT) : allT t = t.ps ++ allK t.ks := by cases t; rfl
theorem sizeT_low {n : Nat} {t : BT} (h : Low n t) : sizeT t = if n = 0 then t.ps.length else t.ks.length := by
  cases n with
  | zero => simp [sizeT, h.1]
  | succ n => simp [sizeT, h.1]
/-- Two of one kind joined, and cut again. -/
theorem join_low {n : Nat} {a b : BT} (ha : Low n a) (hb : Low n b) (m : Nat) (hm : m ≤ 4) (hm2 : 2 ≤ m) (ht : m + 2 ≤ sizeT a + sizeT b) (ht2 : sizeT a + sizeT b ≤ m + 4) :
    Fine n false (shareA a b m) ∧ Fine n false (shareB a b m) ∧ allT (shareA a b m) ++ allT (shareB a b m) = allT a ++ allT b := by
  obtain ⟨ap, ak⟩ := a
  obtain ⟨bp, bk⟩ := b
  cases n with
  | zero =>
    obtain ⟨a1, a2⟩ := ha
    obtain ⟨b1, b2⟩ := hb
    simp only [BT.ps, BT.ks] at a1 a2 b1 b2
    subst a1 b1
    simp only [sizeT, BT.ps, BT.ks, List.length_nil, Nat.add_zero] at ht ht2
    refine ⟨⟨by simp [shareA, BT.ks], by simp [shareA, BT.ps]; omega, .inr (by simp [shareA, BT.ps]; omega)⟩, ⟨by simp [shareB, BT.ks], by simp [shareB, BT.ps]; omega, .inr (by simp [shareB, BT.ps]; omega)⟩, ?_⟩
    simp only [allT, shareA, shareB, BT.ps, BT.ks, List.append_nil, List.take_nil, List.drop_nil, allK]
    exact List.take_append_drop _ _
  | succ n =>
    obtain ⟨a1, a2, a3, a4⟩ := ha
    obtain ⟨b1, b2, b3, b4⟩ := hb
    simp only [BT.ps, BT.ks] at a1 a2 a3 a4 b1 b2 b3 b4
    subst a1 b1
    simp only [sizeT, BT.ps, BT.ks, List.length_nil, Nat.zero_add] at ht ht2
    have hmem : ∀ x ∈ ak ++ bk, Fine n false x := fun x hx => (List.mem_append.1 hx).elim (a4 x) (b4 x)
    refine ⟨⟨by simp [shareA, BT.ps], by simp [shareA, BT.ks]; omega, by simp [shareA, BT.ks]; omega, fun x hx => hmem x (List.mem_of_mem_take hx)⟩,
      ⟨by simp [shareB, BT.ps], by simp [shareB, BT.ks]; omega, by simp [shareB, BT.ks]; omega, fun x hx => hmem x (List.mem_of_mem_drop hx)⟩, ?_⟩
    have := allK_append ((ak ++ bk).take m) ((ak ++ bk).drop m)
    rw [List.take_append_drop, allK_append] at this
    simp only [allT, shareA, shareB, BT.ps, BT.ks, List.append_nil, List.take_nil, List.drop_nil, List.nil_append]
    exact this.symm
theorem one_low {n : Nat} {a b : BT} (ha : Low n a) (hb : Low n b) (ht : 2 ≤ sizeT a + sizeT b) (ht2 : sizeT a + sizeT b ≤ 4) :
    Fine n false (.node (a.ps ++ b.ps) (a.ks ++ b.ks)) ∧ allT (.node (a.ps ++ b.ps) (a.ks ++ b.ks)) = allT a ++ allT b := by
  obtain ⟨ap, ak⟩ := a
  obtain ⟨bp, bk⟩ := b
  cases n with
  | zero =>
    obtain ⟨a1, a2⟩ := ha
    obtain ⟨b1, b2⟩ := hb
    simp only [BT.ps, BT.ks] at a1 a2 b1 b2
    subst a1 b1
    simp only [sizeT, BT.ps, BT.ks, List.length_nil, Nat.add_zero] at ht ht2
    refine ⟨⟨by simp [BT.ks], by simp [BT.ps]; omega, .inr (by simp [BT.ps]; omega)⟩, by simp [allT, allK, BT.ps, BT.ks]⟩
  | succ n =>
    obtain ⟨a1, a2, a3, a4⟩ := ha
    obtain ⟨b1, b2, b3, b4⟩ := hb
    simp only [BT.ps, BT.ks] at a1 a2 a3 a4 b1 b2 b3 b4
    subst a1 b1
    simp only [sizeT, BT.ps, BT.ks, List.length_nil, Nat.zero_add] at ht ht2
    exact ⟨⟨by simp [BT.ps], by simp [BT.ks]; omega, by simp [BT.ks]; omega, fun x hx => (List.mem_append.1 hx).elim (a4 x) (b4 x)⟩, by simp [allT, allK_append, BT.ps, BT.ks]⟩
theorem cut2 {l : List BT} {j : Nat} (h : j + 1 < l.length) : allK l = allK (l.take j) ++ (allT (l.getD j nilT) ++ (allT (l.getD (j + 1) nilT) ++ allK (l.drop (j + 2)))) := by
  rw [allK_cut (i := j) (by omega), allK_cut (ks := l.drop (j + 1)) (i := 0) (by simp; omega)]
  simp only [List.take_zero, allK, List.nil_append, List.getElem_drop, Nat.add_zero, List.drop_drop]
  have e1 : l.getD j nilT = l[j] := by simp [show j < l.length by omega]
  have e2 : l.getD (j + 1) nilT = l[j + 1] := by simp [h]
  rw [e1, e2]
/-- The kids are mended. -/
theorem mend_good {n : Nat} {l : List BT} {i : Nat} (h2 : 2 ≤ l.length) (h4 : l.length ≤ 4) (hi : i < l.length) (hlow : Low n (l.getD i nilT)) (h1 : 1 ≤ sizeT (l.getD i nilT)) (hg : ∀ j, j < l.length → j ≠ i → Fine n false (l.getD j nilT)) :
    (∀ x ∈ mendL l i, Fine n false x) ∧ allK (mendL l i) = allK l ∧ 1 ≤ (mendL l i).length ∧ (mendL l i).length ≤ 4 ∧ l.length ≤ (mendL l i).length + 1 := by
  have hmem : ∀ x ∈ l, ∃ j, j < l.length ∧ x = l.getD j nilT := fun x hx => by
    obtain ⟨j, hj, rfl⟩ := List.getElem_of_mem hx
    exact ⟨j, hj, by simp [hj]⟩
  have htake : ∀ m, m ≤ i → ∀ x ∈ l.take m, Fine n false x := fun m hm x hx => by
    obtain ⟨j, hj, rfl⟩ := List.getElem_of_mem hx
    rw [List.length_take] at hj
    have := hg j (by omega) (by omega)
    simpa [show j < l.length by omega] using this
  have hdrop : ∀ m, i < m → ∀ x ∈ l.drop m, Fine n false x := fun m hm x hx => by
    obtain ⟨j, hj, rfl⟩ := List.getElem_of_mem hx
    rw [List.length_drop] at hj
    have := hg (m + j) (by omega) (by omega)
    rw [List.getElem_drop]
    simpa [show m + j < l.length by omega] using this
  unfold mendL
  by_cases c1 : 2 ≤ sizeT (l.getD i nilT)
  · rw [if_pos c1]
    refine ⟨fun x hx => ?_, rfl, by omega, h4, by omega⟩
    obtain ⟨j, hj, rfl⟩ := hmem x hx
    by_cases e : j = i
    · subst e; exact hlow.good c1
    · exact hg j hj e
  · rw [if_neg c1]
    by_cases c2 : 0 < i ∧ 2 < sizeT (l.getD (i - 1) nilT)
    · rw [if_pos c2]
      have hga := hg (i - 1) (by omega) (by omega)
      have hsa := hga.size
      obtain ⟨a1, a2, a3⟩ := join_low hga.low hlow (sizeT (l.getD (i - 1) nilT) - 1) (by omega) (by omega) (by omega) (by omega)
      have hc := cut2 (l := l) (j := i - 1) (by omega)
      rw [show i - 1 + 1 = i by omega, show i - 1 + 2 = i + 1 by omega] at hc
      refine ⟨fun x hx => ?_, ?_, by simp; omega, by simp; omega, by simp; omega⟩
      · simp only [List.mem_append, List.mem_cons] at hx
        rcases hx with hx | rfl | rfl | hx
        · exact htake _ (by omega) x hx
        · exact a1
        · exact a2
        · exact hdrop _ (by omega) x hx
      · rw [allK_append, allK_cons, allK_cons, hc, ← List.append_assoc (allT (shareA _ _ _)), a3]
        simp only [List.append_assoc]
    · rw [if_neg c2]
      by_cases c3 : i + 1 < l.length ∧ 2 < sizeT (l.getD (i + 1) nilT)
      · rw [if_pos c3]
        have hgb := hg (i + 1) (by omega) (by omega)
        have hsb := hgb.size
        obtain ⟨a1, a2, a3⟩ := join_low hlow hgb.low (sizeT (l.getD i nilT) + 1) (by omega) (by omega) (by omega) (by omega)
        have hc := cut2 (l := l) (j := i) (by omega)
        refine ⟨fun x hx => ?_, ?_, by simp; omega, by simp; omega, by simp; omega⟩
        · simp only [List.mem_append, List.mem_cons] at hx
          rcases hx with hx | rfl | rfl | hx
          · exact htake _ (by omega) x hx
          · exact a1
          · exact a2
          · exact hdrop _ (by omega) x hx
        · rw [allK_append, allK_cons, allK_cons, hc, ← List.append_assoc (allT (shareA _ _ _)), a3]
          simp only [List.append_assoc]
      · rw [if_neg c3]
        have hj : i - 1 + 1 < l.length := by omega
        have hl1 : Low n (l.getD (i - 1) nilT) ∧ Low n (l.getD (i - 1 + 1) nilT) ∧ 2 ≤ sizeT (l.getD (i - 1) nilT) + sizeT (l.getD (i - 1 + 1) nilT) ∧ sizeT (l.getD (i - 1) nilT) + sizeT (l.getD (i - 1 + 1) nilT) ≤ 4 := by
          by_cases e : i = 0
          · subst e
            have hgb := hg 1 (by omega) (by omega)
            have hsb := hgb.size
            have hsb2 := hsb.2 rfl
            have h3 : ¬ 2 < sizeT (l.getD 1 nilT) := fun h => c3 ⟨by omega, h⟩
            show Low n (l.getD 0 nilT) ∧ Low n (l.getD 1 nilT) ∧ 2 ≤ sizeT (l.getD 0 nilT) + sizeT (l.getD 1 nilT) ∧ sizeT (l.getD 0 nilT) + sizeT (l.getD 1 nilT) ≤ 4
            exact ⟨hlow, hgb.low, by omega, by omega⟩
          · have hga := hg (i - 1) (by omega) (by omega)
            have hsa := hga.size
            have hsa2 := hsa.2 rfl
            have h3 : ¬ 2 < sizeT (l.getD (i - 1) nilT) := fun h => c2 ⟨by omega, h⟩
            have e2 : i - 1 + 1 = i := by omega
            rw [e2]
            exact ⟨hga.low, hlow, by omega, by omega⟩
        obtain ⟨x1, x2, x3, x4⟩ := hl1
        obtain ⟨a1, a3⟩ := one_low x1 x2 x3 x4
        have hc := cut2 (l := l) (j := i - 1) hj
        refine ⟨fun x hx => ?_, ?_, by simp; omega, by simp; omega, by simp; omega⟩
        · simp only [List.mem_append, List.mem_cons] at hx
          rcases hx with hx | rfl | hx
          · exact htake _ (by omega) x hx
          · exact a1
          · exact hdrop _ (by omega) x hx
        · rw [allK_append, allK_cons, hc, a3]
          simp only [List.append_assoc]
theorem hasK_app {A B : PS} {k : ByteArray} : hasK (A ++ B) k = (hasK A k || hasK B k) := by simp [hasK]
theorem dropL_one {ps : PS} (hs : risesB ps = true) (k : ByteArray) : (dropL ps k).length ≤ ps.length ∧ ps.length ≤ (dropL ps k).length + 1 := by
  refine ⟨dropL_len ps k, ?_⟩
  by_cases h : hasK ps k = true
  · have h1 := sorted_drop hs k h
    obtain ⟨hc, _⟩ := (hasK_iff hs k).1 h
    rw [h1]
    simp
    omega
  · have h' : hasK ps k = false := by simpa using h
    have : dropL ps k = ps := List.filter_eq_self.2 fun p hp => by simpa using hasK_not.1 h' p hp
    rw [this]
    omega
theorem drop_low (k : ByteArray) : ∀ (n : Nat) (b : Bool) (t : BT), Fine n b t → risesB (allT t) = true → Low n (dropT k t) ∧ allT (dropT k t) = dropL (allT t) k ∧ sizeT t ≤ sizeT (dropT k t) + 1 ∧ (0 < n → 1 ≤ sizeT (dropT k t))
  | 0, b, .node ps ks, h, hr => by
    obtain ⟨h1, h2, h3⟩ := h
    simp only [BT.ps, BT.ks] at h1 h2 h3
    subst h1
    simp only [allT, allK, List.append_nil] at hr
    have hl := dropL_one hr k
    rw [dropT_leaf]
    refine ⟨⟨rfl, by simp [BT.ps]; omega⟩, by simp [allT, allK], by simp [sizeT, BT.ps, BT.ks]; omega, by omega⟩
  | n + 1, b, .node ps ks, h, hr => by
    obtain ⟨h1, h2, h3, h4⟩ := h
    simp only [BT.ps, BT.ks] at h1 h2 h3 h4
    subst h1
    simp only [allT, List.nil_append] at hr
    have h0 : 0 < ks.length := by omega
    have hlt := wayT_lt k h0
    rw [dropT_node k [] h0]
    obtain ⟨w1, w2⟩ := way_parts (k := k) h4 hr h0
    have hcut := allK_cut hlt
    have hr2 := hr
    rw [hcut] at hr2
    have hri : risesB (allT ks[wayT ks k]) = true := (rises_app (rises_app hr2).2.1).1
    have hgi := h4 _ (List.getElem_mem hlt)
    obtain ⟨i1, i2, i3, i4⟩ := drop_low k n false ks[wayT ks k] hgi hri
    have hsz := hgi.size.2 rfl
    have hll : (ks.take (wayT ks k) ++ (dropT k ks[wayT ks k] :: ks.drop (wayT ks k + 1))).length = ks.length := by simp; omega
    have hat : (ks.take (wayT ks k) ++ (dropT k ks[wayT ks k] :: ks.drop (wayT ks k + 1))).getD (wayT ks k) nilT = dropT k ks[wayT ks k] := by
      rw [List.getD_eq_getElem?_getD, List.getElem?_append_right (by simp; omega)]
      simp [Nat.min_eq_left (Nat.le_of_lt hlt)]
    have hoth : ∀ j, j < ks.length → j ≠ wayT ks k → (ks.take (wayT ks k) ++ (dropT k ks[wayT ks k] :: ks.drop (wayT ks k + 1))).getD j nilT ∈ ks := fun j hj hne => by
      rw [List.getD_eq_getElem?_getD]
      by_cases hj2 : j < wayT ks k
      · rw [List.getElem?_append_left (by simp; omega), List.getElem?_take, if_pos hj2, List.getElem?_eq_getElem hj]
        exact List.getElem_mem hj
      · rw [List.getElem?_append_right (by simp; omega), List.length_take, Nat.min_eq_left (by omega)]
        obtain ⟨m, hm⟩ : ∃ m, j - wayT ks k = m + 1 := ⟨j - wayT ks k - 1, by omega⟩
        rw [hm, List.getElem?_cons_succ, List.getElem?_drop, List.getElem?_eq_getElem (by omega)]
        exact List.getElem_mem _
    obtain ⟨m1, m2, m3, m4, m5⟩ := mend_good (n := n) (l := ks.take (wayT ks k) ++ (dropT k ks[wayT ks k] :: ks.drop (wayT ks k + 1))) (i := wayT ks k) (by rw [hll]; exact h2) (by rw [hll]; exact h3) (by rw [hll]; exact hlt)
      (by rw [hat]; exact i1) (by rw [hat]; omega) (fun j hj hne => h4 _ (hoth j (by rw [hll] at hj; exact hj) hne))
    refine ⟨⟨rfl, m3, m4, m1⟩, ?_, ?_, fun _ => ?_⟩
    · simp only [allT, List.nil_append]
      rw [m2, allK_append, allK_cons, i2, hcut, dropL_ahead w1, dropL_behind w2]
    · rw [hll] at m5
      simpa [sizeT, BT.ps, BT.ks] using m5
    · simpa [sizeT, BT.ps, BT.ks] using m3
theorem dropA_good {k : ByteArray} {n : Nat} {t : BT} (h : Fine n true t) (hr : risesB (allT t) = true) : (∃ m, Fine m true (dropA k t)) ∧ allT (dropA k t) = dropL (allT t) k := by
  obtain ⟨i1, i2, i3, i4⟩ := drop_low k n true t h hr
  unfold dropA
  cases n with
  | zero =>
    have : ¬ (dropT k t).ks.length = 1 := by rw [i1.1]; simp
    rw [if_neg this]
    exact ⟨⟨0, i1.1, i1.2, .inl rfl⟩, i2⟩
  | succ n =>
    obtain ⟨h1, h2, h3, h4⟩ := i1
    by_cases e : (dropT k t).ks.length = 1
    · rw [if_pos e]
      obtain ⟨x, hx⟩ : ∃ x, (dropT k t).ks = [x] := List.length_eq_one_iff.1 e
      rw [allT_eq, h1, hx] at i2
      rw [hx] at h4 ⊢
      exact ⟨⟨n, (h4 x (by simp)).top⟩, by simpa [allK] using i2⟩
    · rw [if_neg e]
      exact ⟨⟨n + 1, h1, by omega, h3, h4⟩, i2⟩
/-- Whether the key is there is told where the way ends. -/
def wayLeaf (k : ByteArray) : Nat → BT → PS
  | 0, t => t.ps
  | n + 1, t => wayLeaf k n (t.ks.getD (wayT t.ks k) nilT)
theorem leaf_has (k : ByteArray) : ∀ (n : Nat) (b : Bool) (t : BT), Fine n b t → risesB (allT t) = true → hasK (wayLeaf k n t) k = hasK (allT t) k
  | 0, b, .node ps ks, h, hr => by
    obtain ⟨h1, h2, h3⟩ := h
    simp only [BT.ks] at h1
    subst h1
    simp [wayLeaf, BT.ps, allT, allK]
  | n + 1, b, .node ps ks, h, hr => by
    obtain ⟨h1, h2, h3, h4⟩ := h
    simp only [BT.ps, BT.ks] at h1 h2 h3 h4
    subst h1
    simp only [allT, List.nil_append] at hr ⊢
    have h0 : 0 < ks.length := by omega
    have hlt := wayT_lt k h0
    obtain ⟨w1, w2⟩ := way_parts (k := k) h4 hr h0
    have hcut := allK_cut hlt
    have hr2 := hr
    rw [hcut] at hr2
    have hri : risesB (allT ks[wayT ks k]) = true := (rises_app (rises_app hr2).2.1).1
    have ih := leaf_has k n false ks[wayT ks k] (h4 _ (List.getElem_mem hlt)) hri
    have e : ks.getD (wayT ks k) nilT = ks[wayT ks k] := by simp [hlt]
    simp only [wayLeaf, BT.ks]
    rw [e, ih, hcut, hasK_app, hasK_app, hasK_not.2 (fun p hp => ltS_ne (w1 p hp)), hasK_not.2 (fun p hp => (ltS_ne (w2 p hp)).symm)]
    simp
end Go.Proofs.Ytcjbjfhndjpmcaa
