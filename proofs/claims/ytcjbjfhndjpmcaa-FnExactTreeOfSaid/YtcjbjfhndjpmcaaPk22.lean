import Derived.Test.YtcjbjfhndjpmcaaPk02
import Derived.Test.YtcjbjfhndjpmcaaPk15
import Derived.Test.YtcjbjfhndjpmcaaPk21
/-
  A tree made of a right map: plain facts. Imports nothing of the program.
-/
namespace Go.Proofs.Ytcjbjfhndjpmcaa

/-- How many go into the next part. -/
def partN (m : Nat) : Nat := if m = 5 then 3 else min 4 m
theorem partN_le (m : Nat) : partN m ≤ m ∧ partN m ≤ 4 := by
  unfold partN
  split <;> omega
theorem partN_pos {m : Nat} (h : 0 < m) : 0 < partN m := by
  unfold partN
  split <;> omega
/-- A list cut into parts of four; where one would be left alone, the part ahead has one less. -/
def cutF {α : Type} : Nat → List α → List (List α)
  | 0, _ => []
  | f + 1, l => if l = [] then [] else l.take (partN l.length) :: cutF f (l.drop (partN l.length))
def cutL {α : Type} (l : List α) : List (List α) := cutF l.length l
theorem cutF_fuel {α : Type} : ∀ (m : Nat) (l : List α) (f f' : Nat), l.length ≤ m → l.length ≤ f → l.length ≤ f' → cutF f l = cutF f' l := by
  intro m
  induction m with
  | zero =>
    intro l f f' h _ _
    have : l = [] := List.eq_nil_of_length_eq_zero (by omega)
    subst this
    cases f <;> cases f' <;> simp [cutF]
  | succ m ih =>
    intro l f f' h h1 h2
    by_cases hl : l = []
    · subst hl
      cases f <;> cases f' <;> simp [cutF]
    · have hp := List.length_pos_iff.2 hl
      obtain ⟨q, rfl⟩ : ∃ q, f = q + 1 := ⟨f - 1, by omega⟩
      obtain ⟨q', rfl⟩ : ∃ q', f' = q' + 1 := ⟨f' - 1, by omega⟩
      have hn := partN_pos hp
      rw [cutF, cutF, if_neg hl, if_neg hl, ih (l.drop (partN l.length)) q q' (by rw [List.length_drop]; omega) (by rw [List.length_drop]; omega) (by rw [List.length_drop]; omega)]
theorem cutL_nil {α : Type} : cutL ([] : List α) = [] := rfl
theorem cutL_cons {α : Type} {l : List α} (h : 0 < l.length) : cutL l = l.take (partN l.length) :: cutL (l.drop (partN l.length)) := by
  have hl : l ≠ [] := List.length_pos_iff.1 h
  have hn := partN_pos h
  unfold cutL
  obtain ⟨q, hq⟩ : ∃ q, l.length = q + 1 := ⟨l.length - 1, by omega⟩
  rw [hq, cutF, if_neg hl, ← hq, cutF_fuel q (l.drop (partN l.length)) q _ (by rw [List.length_drop]; omega) (by rw [List.length_drop]; omega) (Nat.le_refl _)]
/-- Fewer parts than elements, where there are two or more. -/
theorem cutL_len {α : Type} : ∀ (m : Nat) (l : List α), l.length ≤ m → (cutL l).length * 2 ≤ l.length + 1 ∧ ((cutL l).length = 0 → l = []) := by
  intro m
  induction m with
  | zero =>
    intro l h
    have : l = [] := List.eq_nil_of_length_eq_zero (by omega)
    subst this
    exact ⟨by simp [cutL_nil], fun _ => rfl⟩
  | succ m ih =>
    intro l h
    by_cases hl : 0 < l.length
    · have hn := partN_pos hl
      have h1 := ih (l.drop (partN l.length)) (by rw [List.length_drop]; omega)
      have h2 := partN_le l.length
      rw [cutL_cons hl, List.length_cons]
      refine ⟨?_, fun e => by omega⟩
      rw [List.length_drop] at h1
      by_cases h5 : l.length = 5
      · have : partN l.length = 3 := by rw [h5]; rfl
        omega
      · by_cases h4 : 4 < l.length
        · have : partN l.length = 4 := by unfold partN; rw [if_neg h5]; omega
          by_cases h6 : l.length - 4 = 0
          · omega
          · omega
        · have : partN l.length = l.length := by unfold partN; rw [if_neg h5]; omega
          have h0 : (cutL (l.drop (partN l.length))).length = 0 := by
            rw [this, List.drop_length]
            rfl
          rw [h0]
          omega
    · have : l = [] := List.eq_nil_of_length_eq_zero (by omega)
      subst this
      exact ⟨by simp [cutL_nil], fun _ => rfl⟩
def leavesT (ps : PS) : List BT := (cutL ps).map fun g => .node g []
def groupT (ts : List BT) : List BT := (cutL ts).map fun g => .node [] g
/-- The tree over a level. -/
def overT : Nat → List BT → BT
  | _, [] => .node [] []
  | _, [t] => t
  | 0, t :: _ => t
  | f + 1, ts => overT f (groupT ts)
/-- What TreeOf makes of a right map. -/
def makeT (ps : PS) : BT := overT ps.length (leavesT ps)
theorem groupT_len (ts : List BT) : (groupT ts).length * 2 ≤ ts.length + 1 := by
  rw [groupT, List.length_map]
  exact (cutL_len ts.length ts (Nat.le_refl _)).1
theorem leavesT_len (ps : PS) : (leavesT ps).length * 2 ≤ ps.length + 1 := by
  rw [leavesT, List.length_map]
  exact (cutL_len ps.length ps (Nat.le_refl _)).1
theorem groupT_pos {ts : List BT} (h : 0 < ts.length) : 0 < (groupT ts).length := by
  rw [groupT, List.length_map, cutL_cons h]
  simp
end Go.Proofs.Ytcjbjfhndjpmcaa
/-
  A pair put into a tree, a key dropped out of one, a tree laid as a list: plain definitions, and what is right of them. Imports nothing of the program of its own.
-/
namespace Go.Proofs.Ytcjbjfhndjpmcaa

mutual
/-- The least key: that of the first pair. -/
def leastT : BT → ByteArray
  | .node ps ks => match leastK ks with
    | some k => k
    | none => match ps with
      | [] => ⟨#[]⟩
      | p :: _ => p.1
def leastK : List BT → Option ByteArray
  | [] => none
  | t :: _ => some (leastT t)
end
def nilT : BT := .node [] []
/-- The kid in which a key belongs, of the first ones. -/
def wayD (ks : List BT) (k : ByteArray) : Nat → Nat
  | 0 => 0
  | i + 1 => if ltS k (leastT (ks.getD (i + 1) nilT)) then wayD ks k i else i + 1
def wayT (ks : List BT) (k : ByteArray) : Nat := wayD ks k (ks.length - 1)
def sizeT (t : BT) : Nat := t.ps.length + t.ks.length
/-- What two neighbours have together, given anew. -/
def shareA (a b : BT) (n : Nat) : BT := .node ((a.ps ++ b.ps).take n) ((a.ks ++ b.ks).take n)
def shareB (a b : BT) (n : Nat) : BT := .node ((a.ps ++ b.ps).drop n) ((a.ks ++ b.ks).drop n)
/-- One tree, or, when it is too full, two. -/
def splitL (t : BT) : List BT := if sizeT t ≤ 4 then [t] else [.node (t.ps.take ((sizeT t + 1) / 2)) (t.ks.take ((sizeT t + 1) / 2)), .node (t.ps.drop ((sizeT t + 1) / 2)) (t.ks.drop ((sizeT t + 1) / 2))]
mutual
def putT (k v : ByteArray) : BT → BT
  | .node ps ks => if ks.isEmpty then .node (putL ps k v) [] else .node ps (putK k v ks (wayT ks k))
def putK (k v : ByteArray) : List BT → Nat → List BT
  | [], _ => []
  | t :: r, 0 => splitL (putT k v t) ++ r
  | t :: r, i + 1 => t :: putK k v r i
end
/-- With one pair more. -/
def putA (k v : ByteArray) (t : BT) : BT := if sizeT (putT k v t) ≤ 4 then putT k v t else .node [] (splitL (putT k v t))
/-- The kids, when the one at a place may have too few. -/
def mendL (l : List BT) (i : Nat) : List BT :=
  if 2 ≤ sizeT (l.getD i nilT) then l
  else if 0 < i ∧ 2 < sizeT (l.getD (i - 1) nilT) then l.take (i - 1) ++ (shareA (l.getD (i - 1) nilT) (l.getD i nilT) (sizeT (l.getD (i - 1) nilT) - 1) :: shareB (l.getD (i - 1) nilT) (l.getD i nilT) (sizeT (l.getD (i - 1) nilT) - 1) :: l.drop (i + 1))
  else if i + 1 < l.length ∧ 2 < sizeT (l.getD (i + 1) nilT) then l.take i ++ (shareA (l.getD i nilT) (l.getD (i + 1) nilT) (sizeT (l.getD i nilT) + 1) :: shareB (l.getD i nilT) (l.getD (i + 1) nilT) (sizeT (l.getD i nilT) + 1) :: l.drop (i + 2))
  else l.take (i - 1) ++ (.node ((l.getD (i - 1) nilT).ps ++ (l.getD (i - 1 + 1) nilT).ps) ((l.getD (i - 1) nilT).ks ++ (l.getD (i - 1 + 1) nilT).ks) :: l.drop (i - 1 + 2))
mutual
def dropT (k : ByteArray) : BT → BT
  | .node ps ks => if ks.isEmpty then .node (dropL ps k) [] else .node ps (mendL (dropK k ks (wayT ks k)) (wayT ks k))
def dropK (k : ByteArray) : List BT → Nat → List BT
  | [], _ => []
  | t :: r, 0 => dropT k t :: r
  | t :: r, i + 1 => t :: dropK k r i
end
/-- Without a key. -/
def dropA (k : ByteArray) (t : BT) : BT := if (dropT k t).ks.length = 1 then (dropT k t).ks.getD 0 nilT else dropT k t
/-- Where the kids stand, when the first one stands at n. -/
def kidsAt : Nat → List BT → List Int
  | _, [] => []
  | n, t :: r => (n : Int) :: kidsAt (n + szT t) r
mutual
/-- The nodes of a tree, each ahead of its kids, when the first one stands at n. -/
def layT : BT → Nat → List ND
  | .node ps ks, n => (ps, kidsAt (n + 1) ks) :: layK ks (n + 1)
def layK : List BT → Nat → List ND
  | [], _ => []
  | t :: r, n => layT t n ++ layK r (n + szT t)
end

/-! ### what is right -/
/-- A right tree of so many levels below the first one. -/
def Fine : Nat → Bool → BT → Prop
  | 0, top, t => t.ks = [] ∧ t.ps.length ≤ 4 ∧ (top = true ∨ 2 ≤ t.ps.length)
  | n + 1, _, t => t.ps = [] ∧ 2 ≤ t.ks.length ∧ t.ks.length ≤ 4 ∧ ∀ x ∈ t.ks, Fine n false x
theorem Fine.top {n : Nat} {b : Bool} {t : BT} (h : Fine n b t) : Fine n true t := by
  cases n with
  | zero => exact ⟨h.1, h.2.1, .inl rfl⟩
  | succ n => exact h
theorem fullK_mem {ks : List BT} : fullK ks = true ↔ ∀ x ∈ ks, fullT x false = true := by
  rw [fullK_at]
  constructor
  · intro h x hx
    obtain ⟨k, hk, rfl⟩ := List.getElem_of_mem hx
    exact h k hk
  · intro h k hk
    exact h _ (List.getElem_mem hk)
theorem deepOf_succ {l : List Nat} {n : Nat} : deepOf l = n + 2 ↔ l ≠ [] ∧ ∀ m ∈ l, m = n + 1 := by
  cases l with
  | nil => simp [deepOf]
  | cons a r =>
    simp only [deepOf]
    constructor
    · intro h
      split at h
      · rename_i hc
        have ha : a = n + 1 := by omega
        subst ha
        refine ⟨by simp, fun m hm => ?_⟩
        rcases List.mem_cons.1 hm with rfl | hm
        · rfl
        · simpa using (List.all_eq_true.1 hc.2 m hm)
      · omega
    · rintro ⟨_, h⟩
      have ha := h a (by simp)
      subst ha
      rw [if_pos ⟨by omega, List.all_eq_true.2 fun m hm => by simpa using h m (by simp [hm])⟩]
theorem deepOf_one {l : List Nat} : deepOf l = 1 ↔ l = [] := by
  cases l with
  | nil => simp [deepOf]
  | cons a r =>
    simp only [deepOf]
    constructor
    · intro h
      split at h
      · omega
      · omega
    · intro h
      cases h
theorem good_iff : ∀ (n : Nat) (b : Bool) (t : BT), Fine n b t ↔ fullT t b = true ∧ deepT t = n + 1
  | 0, b, .node ps ks => by
    simp only [Fine, BT.ps, BT.ks, fullT, deepT, deepK_map, Nat.zero_add, deepOf_one, List.map_eq_nil_iff, Bool.and_eq_true, fillB, decide_eq_true_eq, Bool.not_eq_true', Bool.or_eq_true, Bool.and_eq_false_iff, decide_eq_false_iff_not]
    constructor
    · rintro ⟨rfl, h1, h2⟩
      exact ⟨⟨⟨.inr (by simp), by simp; omega, by simp, by simpa using h2⟩, by simp [fullK]⟩, rfl⟩
    · rintro ⟨⟨⟨h1, h2, h3, h4⟩, h5⟩, rfl⟩
      exact ⟨rfl, by simpa using h2, by simpa using h4⟩
  | n + 1, b, .node ps ks => by
    have ih := good_iff n false
    simp only [Fine, BT.ps, BT.ks, fullT, deepT, deepK_map, deepOf_succ, fullK_mem, Bool.and_eq_true, fillB, decide_eq_true_eq, Bool.not_eq_true', Bool.or_eq_true, Bool.and_eq_false_iff, decide_eq_false_iff_not, List.mem_map, forall_exists_index, and_imp, forall_apply_eq_imp_iff₂]
    constructor
    · rintro ⟨rfl, h1, h2, h3⟩
      refine ⟨⟨⟨.inl (by simp), by simp; omega, by omega, .inr (by simp; omega)⟩, fun x hx => ((ih x).1 (h3 x hx)).1⟩, ?_, fun x hx => ((ih x).1 (h3 x hx)).2⟩
      intro e
      have := congrArg List.length e
      simp at this
      simp [this] at h1
    · rintro ⟨⟨⟨h1, h2, h3, h4⟩, h5⟩, h6, h7⟩
      have hk : 0 < ks.length := List.length_pos_iff.2 (fun e => h6 (by simp [e]))
      have hp : ps = [] := by
        rcases h1 with h1 | h1
        · exact List.eq_nil_of_length_eq_zero (by omega)
        · omega
      refine ⟨hp, by omega, by omega, fun x hx => (ih x).2 ⟨h5 x hx, h7 x hx⟩⟩
theorem right_good {t : BT} : rightT t = true ↔ (∃ n, Fine n true t) ∧ pairsB (allT t) = true := by
  simp only [rightT, Bool.and_eq_true, decide_eq_true_eq]
  constructor
  · rintro ⟨h1, h2, h3⟩
    exact ⟨⟨deepT t - 1, (good_iff _ _ _).2 ⟨h1, by omega⟩⟩, h3⟩
  · rintro ⟨⟨n, h⟩, h3⟩
    have := (good_iff _ _ _).1 h
    exact ⟨this.1, by omega, h3⟩
theorem Fine.deep {n : Nat} {b : Bool} {t : BT} (h : Fine n b t) : deepT t = n + 1 := ((good_iff _ _ _).1 h).2
theorem Fine.kid {n : Nat} {b : Bool} {ps : PS} {ks : List BT} (h : Fine n b (.node ps ks)) {k : Nat} (hk : k < ks.length) : ∃ m, n = m + 1 ∧ Fine m false ks[k] := by
  cases n with
  | zero => have := h.1; simp only [BT.ks] at this; subst this; simp at hk
  | succ m => exact ⟨m, rfl, h.2.2.2 _ (List.getElem_mem hk)⟩
/-- Pairs or kids, not both. -/
theorem Fine.kind {n : Nat} {b : Bool} {t : BT} (h : Fine n b t) : (n = 0 ∧ t.ks = []) ∨ (0 < n ∧ t.ps = [] ∧ 2 ≤ t.ks.length) := by
  cases n with
  | zero => exact .inl ⟨rfl, h.1⟩
  | succ n => exact .inr ⟨by omega, h.1, h.2.1⟩
theorem Fine.size {n : Nat} {b : Bool} {t : BT} (h : Fine n b t) : sizeT t ≤ 4 ∧ (b = false → 2 ≤ sizeT t) := by
  cases n with
  | zero =>
    obtain ⟨h1, h2, h3⟩ := h
    simp only [sizeT, h1, List.length_nil]
    refine ⟨by omega, fun hb => ?_⟩
    rcases h3 with h3 | h3
    · rw [hb] at h3; cases h3
    · omega
  | succ n =>
    obtain ⟨h1, h2, h3, _⟩ := h
    simp only [sizeT, h1, List.length_nil]
    exact ⟨by omega, fun _ => by omega⟩
theorem leastT_node (ps : PS) (ks : List BT) : leastT (.node ps ks) = match ks with
    | t :: _ => leastT t
    | [] => match ps with
      | [] => ⟨#[]⟩
      | p :: _ => p.1 := by
  cases ks <;> simp [leastT, leastK]
/-- The least key is that of the first pair. -/
theorem least_head : ∀ (n : Nat) (t : BT), Fine n false t → ∃ v r, allT t = (leastT t, v) :: r
  | 0, .node ps ks, h => by
    obtain ⟨h1, h2, h3⟩ := h
    simp only [BT.ks, BT.ps] at h1 h2 h3
    subst h1
    cases ps with
    | nil => simp at h3
    | cons p r => exact ⟨p.2, r, by simp [allT, allK, leastT_node]⟩
  | n + 1, .node ps ks, h => by
    obtain ⟨h1, h2, h3, h4⟩ := h
    simp only [BT.ks, BT.ps] at h1 h2 h3 h4
    subst h1
    cases ks with
    | nil => simp at h2
    | cons t r =>
      obtain ⟨v, q, e⟩ := least_head n t (h4 t (by simp))
      exact ⟨v, q ++ allK r, by simp [allT, allK, leastT_node, e]⟩

/-! ### the way -/
theorem wayD_le (ks : List BT) (k : ByteArray) : ∀ i, wayD ks k i ≤ i
  | 0 => Nat.le_refl _
  | i + 1 => by
    simp only [wayD]
    split
    · have := wayD_le ks k i; omega
    · omega
theorem wayT_lt {ks : List BT} (k : ByteArray) (h : 0 < ks.length) : wayT ks k < ks.length := by
  have := wayD_le ks k (ks.length - 1)
  unfold wayT
  omega
theorem wayD_at (ks : List BT) (k : ByteArray) : ∀ i, wayD ks k i ≠ 0 → ltS k (leastT (ks.getD (wayD ks k i) nilT)) = false
  | 0, h => absurd rfl h
  | i + 1, h => by
    simp only [wayD] at h ⊢
    split at h
    · rename_i hc
      rw [if_pos hc]
      exact wayD_at ks k i h
    · rename_i hc
      rw [if_neg hc]
      simpa using hc
theorem wayD_behind (ks : List BT) (k : ByteArray) : ∀ i j, wayD ks k i < j → j ≤ i → ltS k (leastT (ks.getD j nilT)) = true
  | 0, j, h1, h2 => by omega
  | i + 1, j, h1, h2 => by
    simp only [wayD] at h1
    split at h1
    · rename_i hc
      by_cases e : j = i + 1
      · subst e; exact hc
      · exact wayD_behind ks k i j h1 (by omega)
    · omega
/-! ### kids -/
theorem putK_eq (k v : ByteArray) : ∀ (ks : List BT) (i : Nat) (h : i < ks.length), putK k v ks i = ks.take i ++ (splitL (putT k v ks[i]) ++ ks.drop (i + 1))
  | t :: r, 0, _ => by simp [putK]
  | t :: r, i + 1, h => by
    have := putK_eq k v r i (by simpa using h)
    simp [putK, this]
theorem dropK_eq (k : ByteArray) : ∀ (ks : List BT) (i : Nat) (h : i < ks.length), dropK k ks i = ks.take i ++ (dropT k ks[i] :: ks.drop (i + 1))
  | t :: r, 0, _ => by simp [dropK]
  | t :: r, i + 1, h => by
    have := dropK_eq k r i (by simpa using h)
    simp [dropK, this]
theorem putT_leaf (k v : ByteArray) (ps : PS) : putT k v (.node ps []) = .node (putL ps k v) [] := by simp [putT]
theorem putT_node (k v : ByteArray) (ps : PS) {ks : List BT} (h : 0 < ks.length) : putT k v (.node ps ks) = .node ps (ks.take (wayT ks k) ++ (splitL (putT k v (ks[wayT ks k]'(wayT_lt k h))) ++ ks.drop (wayT ks k + 1))) := by
  have he : ks.isEmpty = false := by cases ks with | nil => simp at h | cons _ _ => rfl
  rw [putT, he, putK_eq k v ks _ (wayT_lt k h)]
  rfl
theorem dropT_leaf (k : ByteArray) (ps : PS) : dropT k (.node ps []) = .node (dropL ps k) [] := by simp [dropT]
theorem dropT_node (k : ByteArray) (ps : PS) {ks : List BT} (h : 0 < ks.length) : dropT k (.node ps ks) = .node ps (mendL (ks.take (wayT ks k) ++ (dropT k (ks[wayT ks k]'(wayT_lt k h)) :: ks.drop (wayT ks k + 1))) (wayT ks k)) := by
  have he : ks.isEmpty = false := by cases ks with | nil => simp at h | cons _ _ => rfl
  rw [dropT, he, dropK_eq k ks _ (wayT_lt k h)]
  rfl
end Go.Proofs.Ytcjbjfhndjpmcaa
