import Derived.Test.YtcjbjfhndjpmcaaPk30
/-
  A tree laid as a list is that tree when it is read; what is made of a map is right; how many nodes there are: plain facts.
-/
namespace Go.Proofs.Ytcjbjfhndjpmcaa

/-! ### laid and read -/
mutual
theorem layT_len : ∀ (t : BT) (n : Nat), (layT t n).length = szT t
  | .node ps ks, n => by
    simp only [layT, szT, List.length_cons, layK_len ks (n + 1)]
theorem layK_len : ∀ (ks : List BT) (n : Nat), (layK ks n).length = szK ks
  | [], _ => rfl
  | t :: r, n => by
    simp only [layK, szK, List.length_append, layT_len t n, layK_len r (n + szT t)]
end
/-- From a place on a list has these. -/
def AtN (ns : List ND) (n : Nat) (l : List ND) : Prop := ∃ a c, ns = a ++ (l ++ c) ∧ a.length = n
theorem AtN.left {ns l l' : List ND} {n : Nat} (h : AtN ns n (l ++ l')) : AtN ns n l := by
  obtain ⟨a, c, rfl, e⟩ := h
  exact ⟨a, l' ++ c, by simp, e⟩
theorem AtN.right {ns l l' : List ND} {n m : Nat} (h : AtN ns n (l ++ l')) (hm : m = n + l.length) : AtN ns m l' := by
  obtain ⟨a, c, rfl, e⟩ := h
  exact ⟨a ++ l, c, by simp, by simp [e, hm]⟩
theorem AtN.head {ns r : List ND} {n : Nat} {x : ND} (h : AtN ns n (x :: r)) : ns[n]? = some x ∧ n < ns.length := by
  obtain ⟨a, c, rfl, rfl⟩ := h
  simp
theorem kids_lay {ns : List ND} {g : Nat → Option (BT × Nat)} : ∀ (ks : List BT) (n : Nat), AtN ns n (layK ks n) → (∀ t ∈ ks, ∀ m, AtN ns m (layT t m) → g m = some (t, m + szT t)) → kidsBy g ns.length (kidsAt n ks) n = some (ks, n + szK ks)
  | [], n, _, _ => rfl
  | t :: r, n, h, hg => by
    simp only [layK] at h
    have h1 := h.left
    have h2 := h.right (m := n + szT t) (by rw [layT_len])
    have hlt : n < ns.length := by
      cases t with
      | node ps ks => exact (AtN.head h1).2
    have ht := hg t (by simp) n h1
    have ih := kids_lay r (n + szT t) h2 (fun x hx => hg x (by simp [hx]))
    simp only [kidsAt, kidsBy]
    rw [if_pos ⟨trivial, hlt⟩, ht]
    simp only [ih, szK]
    rw [Nat.add_assoc]
theorem parse_lay {ns : List ND} : ∀ (f : Nat) (t : BT) (n : Nat), szT t ≤ f → AtN ns n (layT t n) → parse ns f n = some (t, n + szT t)
  | 0, t, n, h, _ => by have := szT_pos t; omega
  | f + 1, .node ps ks, n, h, ha => by
    simp only [layT] at ha
    have hh := ha.head
    have hk : AtN ns (n + 1) (layK ks (n + 1)) := AtN.right (l := [(ps, kidsAt (n + 1) ks)]) ha rfl
    have hsz : szK ks ≤ f := by simp only [szT] at h; omega
    have hz : ∀ (ks : List BT), szK ks ≤ f → ∀ t ∈ ks, szT t ≤ f := by
      intro ks hks t ht
      obtain ⟨k, hlt, rfl⟩ := List.getElem_of_mem ht
      have := szK_at hlt
      omega
    have ih := kids_lay (g := parse ns f) ks (n + 1) hk (fun t ht m hm => parse_lay f t m (hz ks hsz t ht) hm)
    simp only [parse, hh.1, ih, szT]
    congr 2
    omega
theorem treeOf_lay (t : BT) : treeOf (layT t 0) = some t := by
  have h := parse_lay (ns := layT t 0) (layT t 0).length t 0 (by rw [layT_len]; exact Nat.le_refl _) ⟨[], [], by simp, rfl⟩
  unfold treeOf
  rw [h]
  simp [layT_len]
theorem treeB_lay (t : BT) : treeB (layT t 0) = (decide (szT t ≤ 100) && rightT t) := by
  have := szT_pos t
  simp [treeB, treeOf_lay, layT_len, this]
theorem pairsOf_lay {t : BT} (h : treeB (layT t 0) = true) : pairsOf (layT t 0) = allT t := by
  simp [pairsOf, h, treeOf_lay]

/-! ### how many -/
theorem good_sz : ∀ (n : Nat) (b : Bool) (t : BT), Fine n b t → (b = false ∨ 0 < n) → szT t + 1 ≤ (allT t).length
  | 0, b, .node ps ks, h, hb => by
    obtain ⟨h1, h2, h3⟩ := h
    simp only [BT.ks, BT.ps] at h1 h2 h3
    subst h1
    simp only [szT, szK, allT, allK, List.append_nil]
    rcases h3 with h3 | h3
    · rcases hb with hb | hb
      · rw [hb] at h3; cases h3
      · omega
    · omega
  | n + 1, b, .node ps ks, h, _ => by
    obtain ⟨h1, h2, h3, h4⟩ := h
    simp only [BT.ks, BT.ps] at h1 h2 h3 h4
    subst h1
    have hk : ∀ ks : List BT, (∀ x ∈ ks, Fine n false x) → szK ks + ks.length ≤ (allK ks).length := by
      intro ks
      induction ks with
      | nil => intro _; simp [szK, allK]
      | cons t r ih =>
        intro hx
        have a1 := good_sz n false t (hx t (by simp)) (.inl rfl)
        have a2 := ih (fun x h => hx x (by simp [h]))
        simp only [szK, allK, List.length_append, List.length_cons]
        omega
    have := hk ks h4
    simp only [szT, allT, List.nil_append]
    omega
/-- No more nodes than pairs, but for the empty one. -/
theorem good_few {n : Nat} {b : Bool} {t : BT} (h : Fine n b t) : szT t ≤ (allT t).length + 1 := by
  by_cases e : 0 < n
  · have := good_sz n b t h (.inr e)
    omega
  · have : n = 0 := by omega
    subst this
    cases t with
    | node ps ks =>
    have h1 := h.1
    simp only [BT.ks] at h1
    subst h1
    simp [szT, szK]

/-! ### made of a map -/
theorem cutL_parts {α : Type} : ∀ (m : Nat) (l : List α), l.length ≤ m → (2 ≤ l.length → ∀ g ∈ cutL l, 2 ≤ g.length ∧ g.length ≤ 4) ∧ (cutL l).flatten = l := by
  intro m
  induction m with
  | zero =>
    intro l h
    have : l = [] := List.eq_nil_of_length_eq_zero (by omega)
    subst this
    exact ⟨fun h => by simp at h, rfl⟩
  | succ m ih =>
    intro l h
    by_cases hl : 0 < l.length
    · have hn := partN_pos hl
      have hle := partN_le l.length
      have hd : (l.drop (partN l.length)).length = l.length - partN l.length := List.length_drop
      obtain ⟨h1, h2⟩ := ih (l.drop (partN l.length)) (by omega)
      rw [cutL_cons hl]
      refine ⟨fun h2l g hg => ?_, by rw [List.flatten_cons, h2, List.take_append_drop]⟩
      have hp : 2 ≤ partN l.length ∧ (l.length - partN l.length = 0 ∨ 2 ≤ l.length - partN l.length) := by
        unfold partN
        split <;> omega
      rcases List.mem_cons.1 hg with rfl | hg
      · rw [List.length_take]
        omega
      · by_cases e : l.length - partN l.length = 0
        · have : l.drop (partN l.length) = [] := List.eq_nil_of_length_eq_zero (by omega)
          rw [this] at hg
          simp [cutL_nil] at hg
        · exact h1 (by omega) g hg
    · have : l = [] := List.eq_nil_of_length_eq_zero (by omega)
      subst this
      exact ⟨fun h => by simp at h, rfl⟩
theorem allK_flat (L : List (List BT)) : allK (L.map fun g => .node [] g) = allK L.flatten := by
  induction L with
  | nil => rfl
  | cons g r ih => simp [allK, allT, allK_append, ih]
theorem allK_leaves (L : List PS) : allK (L.map fun g => .node g []) = L.flatten := by
  induction L with
  | nil => rfl
  | cons g r ih => simp [allK, allT, ih]
theorem group_good {n : Nat} {ts : List BT} (h : ∀ x ∈ ts, Fine n false x) (h2 : 2 ≤ ts.length) : (∀ x ∈ groupT ts, Fine (n + 1) false x) ∧ allK (groupT ts) = allK ts := by
  obtain ⟨c1, c2⟩ := cutL_parts ts.length ts (Nat.le_refl _)
  refine ⟨fun x hx => ?_, by rw [groupT, allK_flat, c2]⟩
  obtain ⟨g, hg, rfl⟩ := List.mem_map.1 hx
  obtain ⟨a1, a2⟩ := c1 h2 g hg
  refine ⟨rfl, a1, a2, fun y hy => h y ?_⟩
  rw [← c2]
  exact List.mem_flatten.2 ⟨g, hg, hy⟩
theorem over_good : ∀ (f n : Nat) (ts : List BT), 1 ≤ ts.length → ts.length ≤ f + 1 → (∀ x ∈ ts, Fine n (decide (ts.length = 1)) x) → (∃ m, Fine m true (overT f ts)) ∧ allT (overT f ts) = allK ts
  | _, _, [], h, _, _ => by simp at h
  | f, n, [t], _, _, hg => by
    have h1 := hg t (by simp)
    have e : overT f [t] = t := by cases f <;> rfl
    rw [e]
    exact ⟨⟨n, h1.top⟩, by simp [allK]⟩
  | 0, n, t :: u :: r, _, h, _ => by simp at h
  | f + 1, n, t :: u :: r, h0, h, hg => by
    have hg2 : ∀ x ∈ t :: u :: r, Fine n false x := fun x hx => by
      have := hg x hx
      simpa using this
    obtain ⟨g1, g2⟩ := group_good hg2 (by simp)
    have hl := groupT_len (t :: u :: r)
    have hp := groupT_pos (ts := t :: u :: r) (by simp)
    have e : overT (f + 1) (t :: u :: r) = overT f (groupT (t :: u :: r)) := rfl
    obtain ⟨a1, a2⟩ := over_good f (n + 1) (groupT (t :: u :: r)) hp (by simp only [List.length_cons] at hl h ⊢; omega) (fun x hx => by
      by_cases e : (groupT (t :: u :: r)).length = 1
      · simp only [e, decide_true]
        exact (g1 x hx).top
      · simp only [e, decide_false]
        exact g1 x hx)
    rw [e]
    exact ⟨a1, a2.trans g2⟩
theorem make_good (ps : PS) : (∃ m, Fine m true (makeT ps)) ∧ allT (makeT ps) = ps := by
  unfold makeT
  obtain ⟨c1, c2⟩ := cutL_parts ps.length ps (Nat.le_refl _)
  have hall : allK (leavesT ps) = ps := by rw [leavesT, allK_leaves, c2]
  by_cases h0 : ps.length = 0
  · have : ps = [] := List.eq_nil_of_length_eq_zero h0
    subst this
    exact ⟨⟨0, rfl, by simp [BT.ps, overT, leavesT, cutL_nil], .inl rfl⟩, rfl⟩
  · have hl := leavesT_len ps
    have h1 : 1 ≤ (leavesT ps).length := by
      rw [leavesT, List.length_map, cutL_cons (by omega)]
      simp
    have hov := over_good ps.length 0 (leavesT ps) h1 (by omega) (fun x hx => by
      obtain ⟨g, hg, rfl⟩ := List.mem_map.1 hx
      by_cases h2 : 2 ≤ ps.length
      · obtain ⟨a1, a2⟩ := c1 h2 g hg
        exact ⟨rfl, a2, .inr a1⟩
      · have hone : ps.length = 1 := by omega
        have e1 : cutL ps = [ps] := by
          have hp : partN ps.length = 1 := by rw [hone]; rfl
          rw [cutL_cons (by omega), hp, List.take_of_length_le (by omega), List.drop_eq_nil_iff.2 (by omega), cutL_nil]
        rw [e1] at hg
        have : g = ps := by simpa using hg
        subst this
        exact ⟨rfl, by simp only [BT.ps]; omega, .inl (by simp [leavesT, e1])⟩)
    exact ⟨hov.1, hov.2.trans hall⟩

/-! ### fewer nodes when a key goes -/
theorem szK_append : ∀ a b : List BT, szK (a ++ b) = szK a + szK b
  | [], b => by simp [szK]
  | t :: r, b => by simp only [List.cons_append, szK, szK_append r b, Nat.add_assoc]
theorem szK_cut {ks : List BT} {i : Nat} (h : i < ks.length) : szK ks = szK (ks.take i) + (szT ks[i] + szK (ks.drop (i + 1))) := by
  conv => lhs; rw [← List.take_append_drop i ks, List.drop_eq_getElem_cons h]
  rw [szK_append]
  rfl
theorem szT_eq (t : BT) : szT t = szK t.ks + 1 := by cases t; rfl
theorem szK_cut2 {l : List BT} {j : Nat} (h : j + 1 < l.length) : szK l = szK (l.take j) + (szT (l.getD j nilT) + (szT (l.getD (j + 1) nilT) + szK (l.drop (j + 2)))) := by
  rw [szK_cut (i := j) (by omega), szK_cut (ks := l.drop (j + 1)) (i := 0) (by simp; omega)]
  simp only [List.take_zero, szK, Nat.zero_add, List.getElem_drop, Nat.add_zero, List.drop_drop]
  have e1 : l.getD j nilT = l[j] := by simp [show j < l.length by omega]
  have e2 : l.getD (j + 1) nilT = l[j + 1] := by simp [h]
  rw [e1, e2]
theorem share_sz (a b : BT) (m : Nat) : szT (shareA a b m) + szT (shareB a b m) = szT a + szT b := by
  obtain ⟨ap, ak⟩ := a
  obtain ⟨bp, bk⟩ := b
  have h := szK_append ((ak ++ bk).take m) ((ak ++ bk).drop m)
  rw [List.take_append_drop, szK_append] at h
  simp only [szT, shareA, shareB, BT.ks]
  omega
theorem mend_sz {l : List BT} {i : Nat} (hi : i < l.length) (h2 : 2 ≤ l.length) : szK (mendL l i) ≤ szK l := by
  unfold mendL
  by_cases c1 : 2 ≤ sizeT (l.getD i nilT)
  · rw [if_pos c1]
    exact Nat.le_refl _
  · rw [if_neg c1]
    by_cases c2 : 0 < i ∧ 2 < sizeT (l.getD (i - 1) nilT)
    · rw [if_pos c2]
      have hc := szK_cut2 (l := l) (j := i - 1) (by omega)
      rw [show i - 1 + 1 = i by omega, show i - 1 + 2 = i + 1 by omega] at hc
      have hs := share_sz (l.getD (i - 1) nilT) (l.getD i nilT) (sizeT (l.getD (i - 1) nilT) - 1)
      rw [szK_append]
      simp only [szK]
      omega
    · rw [if_neg c2]
      by_cases c3 : i + 1 < l.length ∧ 2 < sizeT (l.getD (i + 1) nilT)
      · rw [if_pos c3]
        have hc := szK_cut2 (l := l) (j := i) (by omega)
        have hs := share_sz (l.getD i nilT) (l.getD (i + 1) nilT) (sizeT (l.getD i nilT) + 1)
        rw [szK_append]
        simp only [szK]
        omega
      · rw [if_neg c3]
        have hc := szK_cut2 (l := l) (j := i - 1) (by omega)
        rw [szK_append]
        simp only [szK]
        have e1 := szT_eq (l.getD (i - 1) nilT)
        have e2 := szT_eq (l.getD (i - 1 + 1) nilT)
        simp only [szT, szK_append]
        omega
theorem drop_sz (k : ByteArray) : ∀ (n : Nat) (b : Bool) (t : BT), Fine n b t → szT (dropT k t) ≤ szT t
  | 0, b, .node ps ks, h => by
    have h1 := h.1
    simp only [BT.ks] at h1
    subst h1
    rw [dropT_leaf]
    exact Nat.le_refl _
  | n + 1, b, .node ps ks, h => by
    obtain ⟨h1, h2, h3, h4⟩ := h
    simp only [BT.ks, BT.ps] at h1 h2 h3 h4
    have h0 : 0 < ks.length := by omega
    have hlt := wayT_lt k h0
    have ih := drop_sz k n false ks[wayT ks k] (h4 _ (List.getElem_mem hlt))
    rw [dropT_node k ps h0]
    have hll : (ks.take (wayT ks k) ++ (dropT k ks[wayT ks k] :: ks.drop (wayT ks k + 1))).length = ks.length := by simp; omega
    have hm := mend_sz (l := ks.take (wayT ks k) ++ (dropT k ks[wayT ks k] :: ks.drop (wayT ks k + 1))) (i := wayT ks k) (by rw [hll]; exact hlt) (by rw [hll]; exact h2)
    rw [szK_append] at hm
    simp only [szK] at hm
    have hc := szK_cut hlt
    simp only [szT]
    omega
theorem dropA_sz {k : ByteArray} {n : Nat} {b : Bool} {t : BT} (h : Fine n b t) : szT (dropA k t) ≤ szT t := by
  have h1 := drop_sz k n b t h
  unfold dropA
  by_cases e : (dropT k t).ks.length = 1
  · rw [if_pos e]
    obtain ⟨x, hx⟩ : ∃ x, (dropT k t).ks = [x] := List.length_eq_one_iff.1 e
    have := szT_eq (dropT k t)
    rw [hx] at this ⊢
    simp [szK] at this ⊢
    omega
  · rw [if_neg e]
    exact h1
end Go.Proofs.Ytcjbjfhndjpmcaa
