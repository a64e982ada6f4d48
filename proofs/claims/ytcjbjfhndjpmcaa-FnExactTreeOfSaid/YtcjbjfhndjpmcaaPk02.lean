import Derived.Test.YtcjbjfhndjpmcaaPk01
/-
  Trees of pairs, and how a list of nodes is one: plain facts.
-/
namespace Go.Proofs.Ytcjbjfhndjpmcaa

/-- A tree: pairs, or kids. -/
inductive BT where
  | node (ps : PS) (ks : List BT) : BT
def BT.ps : BT → PS
  | .node ps _ => ps
def BT.ks : BT → List BT
  | .node _ ks => ks

mutual
/-- All pairs, in order. -/
def allT : BT → PS
  | .node ps ks => ps ++ allK ks
def allK : List BT → PS
  | [] => []
  | t :: r => allT t ++ allK r
end
mutual
/-- How many nodes. -/
def szT : BT → Nat
  | .node _ ks => szK ks + 1
def szK : List BT → Nat
  | [] => 0
  | t :: r => szT t + szK r
end
theorem allK_append : ∀ a b : List BT, allK (a ++ b) = allK a ++ allK b
  | [], _ => rfl
  | t :: r, b => by simp only [List.cons_append, allK, allK_append r b, List.append_assoc]
theorem allK_take {ks : List BT} {k : Nat} (h : k < ks.length) : allK (ks.take (k + 1)) = allK (ks.take k) ++ allT ks[k] := by
  rw [List.take_succ_eq_append_getElem h, allK_append]
  simp [allK]
theorem szK_at : ∀ {ks : List BT} {k : Nat} (h : k < ks.length), szT ks[k] ≤ szK ks
  | t :: r, 0, _ => by simp [szK]
  | t :: r, k + 1, h => by
    have := szK_at (ks := r) (k := k) (by simpa using h)
    simp only [List.getElem_cons_succ, szK]
    omega
theorem szT_pos : ∀ t : BT, 1 ≤ szT t
  | .node _ _ => by simp [szT]
theorem sz_kid {ps : PS} {ks : List BT} {k : Nat} (h : k < ks.length) : szT ks[k] + 1 ≤ szT (.node ps ks) := by
  have := szK_at h
  simp only [szT]
  omega
theorem sz_kid? {ps : PS} {ks : List BT} {k : Nat} {t : BT} (h : ks[k]? = some t) : szT t + 1 ≤ szT (.node ps ks) := by
  obtain ⟨hk, rfl⟩ := List.getElem?_eq_some_iff.1 h
  exact sz_kid hk
theorem allK_at : ∀ {ks : List BT} {k : Nat} (h : k < ks.length), (allT ks[k]).length ≤ (allK ks).length
  | t :: r, 0, _ => by simp [allK]
  | t :: r, k + 1, h => by
    have := allK_at (ks := r) (k := k) (by simpa using h)
    simp only [List.getElem_cons_succ, allK, List.length_append]
    omega
theorem allK_take_le (ks : List BT) (k : Nat) : (allK (ks.take k)).length ≤ (allK ks).length := by
  have : allK ks = allK (ks.take k) ++ allK (ks.drop k) := by rw [← allK_append, List.take_append_drop]
  rw [this, List.length_append]
  omega

/-! ### depth -/
/-- 0: not alike. -/
def deepOf : List Nat → Nat
  | [] => 1
  | n :: r => if n ≠ 0 ∧ r.all (fun m => decide (m = n)) = true then n + 1 else 0
mutual
/-- How deep all stand that have no kids; 0: not alike. -/
def deepT : BT → Nat
  | .node _ ks => deepOf (deepK ks)
def deepK : List BT → List Nat
  | [] => []
  | t :: r => deepT t :: deepK r
end
theorem deepK_map : ∀ ks : List BT, deepK ks = ks.map deepT
  | [] => rfl
  | t :: r => by simp only [deepK, List.map_cons, deepK_map r]
/-- How many nodes stand one below the other, by way of the first kids. -/
def highOf : List Nat → Nat
  | [] => 1
  | n :: _ => n + 1
mutual
def highT : BT → Nat
  | .node _ ks => highOf (highK ks)
def highK : List BT → List Nat
  | [] => []
  | t :: r => highT t :: highK r
end
theorem deep_sz : ∀ (n : Nat) (t : BT), szT t ≤ n → deepT t ≤ szT t ∧ highT t ≤ szT t ∧ 1 ≤ highT t
  | 0, t, h => by have := szT_pos t; omega
  | n + 1, .node ps [], _ => by simp [deepT, deepK, deepOf, highT, highK, highOf, szT, szK]
  | n + 1, .node ps (t :: r), h => by
    have h' : szT t ≤ n := by simp only [szT, szK] at h; omega
    obtain ⟨h1, h2, h3⟩ := deep_sz n t h'
    simp only [deepT, deepK, deepOf, highT, highK, highOf, szT, szK]
    refine ⟨?_, by omega, by omega⟩
    split <;> omega
theorem high_deep : ∀ (n : Nat) (t : BT), szT t ≤ n → deepT t ≠ 0 → highT t = deepT t
  | 0, t, h, _ => by have := szT_pos t; omega
  | n + 1, .node ps [], _, _ => by simp [deepT, deepK, deepOf, highT, highK, highOf]
  | n + 1, .node ps (t :: r), h, hd => by
    have h' : szT t ≤ n := by simp only [szT, szK] at h; omega
    simp only [deepT, deepK, deepOf] at hd
    split at hd
    · rename_i hc
      have := high_deep n t h' hc.1
      simp only [deepT, deepK, deepOf, highT, highK, highOf, if_pos hc, this]
    · exact absurd rfl hd

/-! ### right nodes -/
/-- Has a node what it may have? -/
def fillB (top : Bool) (np nk : Nat) : Bool := !(decide (0 < np) && decide (0 < nk)) && (decide (np + nk ≤ 4) && (!decide (nk = 1) && (top || decide (2 ≤ np + nk))))
mutual
def fullT : BT → Bool → Bool
  | .node ps ks, top => fillB top ps.length ks.length && fullK ks
def fullK : List BT → Bool
  | [] => true
  | t :: r => fullT t false && fullK r
end
theorem fullK_at : ∀ {ks : List BT}, fullK ks = true ↔ ∀ (k : Nat) (h : k < ks.length), fullT ks[k] false = true
  | [] => by simp [fullK]
  | t :: r => by
    simp only [fullK, Bool.and_eq_true, fullK_at (ks := r)]
    constructor
    · rintro ⟨h1, h2⟩ k hk
      cases k with
      | zero => exact h1
      | succ k => exact h2 k (by simpa using hk)
    · intro h
      exact ⟨h 0 (by simp), fun k hk => h (k + 1) (by simpa using hk)⟩
mutual
/-- Every node is well filled, and all that have no kids stand just so deep. -/
def belowT : BT → Bool → Int → Bool
  | .node ps ks, top, lv => fillB top ps.length ks.length && (if ks.length = 0 then decide (lv = 1) else belowK ks (lv - 1))
def belowK : List BT → Int → Bool
  | [], _ => true
  | t :: r, lv => belowT t false lv && belowK r lv
end
theorem belowK_at : ∀ {ks : List BT} {lv : Int}, belowK ks lv = true ↔ ∀ (k : Nat) (h : k < ks.length), belowT ks[k] false lv = true
  | [], _ => by simp [belowK]
  | t :: r, lv => by
    simp only [belowK, Bool.and_eq_true, belowK_at (ks := r)]
    constructor
    · rintro ⟨h1, h2⟩ k hk
      cases k with
      | zero => exact h1
      | succ k => exact h2 k (by simpa using hk)
    · intro h
      exact ⟨h 0 (by simp), fun k hk => h (k + 1) (by simpa using hk)⟩
theorem below_full : ∀ (n : Nat) (t : BT), szT t ≤ n → ∀ (top : Bool) (lv : Int), belowT t top lv = (fullT t top && decide (deepT t ≠ 0 ∧ (deepT t : Int) = lv))
  | 0, t, h, _, _ => by have := szT_pos t; omega
  | n + 1, .node ps ks, h, top, lv => by
    have hk : ∀ (k : Nat) (hk : k < ks.length) (lv : Int), belowT ks[k] false lv = (fullT ks[k] false && decide (deepT ks[k] ≠ 0 ∧ (deepT ks[k] : Int) = lv)) := fun k hk lv =>
      below_full n ks[k] (by have := sz_kid (ps := ps) hk; omega) false lv
    have hK : ∀ lv : Int, belowK ks lv = (fullK ks && ks.all fun t => decide (deepT t ≠ 0 ∧ (deepT t : Int) = lv)) := by
      intro lv
      rw [Bool.eq_iff_iff, belowK_at, Bool.and_eq_true, fullK_at, List.all_eq_true]
      constructor
      · intro hx
        refine ⟨fun k hk' => ?_, fun t ht => ?_⟩
        · have := hx k hk'
          rw [hk k hk', Bool.and_eq_true] at this
          exact this.1
        · obtain ⟨k, hk', rfl⟩ := List.getElem_of_mem ht
          have := hx k hk'
          rw [hk k hk', Bool.and_eq_true] at this
          exact this.2
      · rintro ⟨h1, h2⟩ k hk'
        rw [hk k hk', Bool.and_eq_true]
        exact ⟨h1 k hk', h2 _ (List.getElem_mem hk')⟩
    simp only [belowT, fullT, deepT, deepK_map, Bool.and_assoc]
    congr 1
    cases ks with
    | nil =>
      simp only [List.length_nil, if_pos, fullK, List.map_nil, deepOf, Bool.true_and]
      by_cases e : lv = 1
      · subst e; simp
      · have : ¬ ((1 : Nat) : Int) = lv := by omega
        simp [e]
        omega
    | cons t r =>
      rw [if_neg (by simp), hK]
      congr 1
      simp only [List.all_cons, List.map_cons, deepOf]
      rw [Bool.eq_iff_iff, Bool.and_eq_true, decide_eq_true_eq, List.all_eq_true, decide_eq_true_eq]
      simp only [decide_eq_true_eq, List.all_map, List.all_eq_true, Function.comp]
      constructor
      · rintro ⟨⟨h1, h2⟩, h3⟩
        rw [if_pos ⟨h1, fun x hx => by have := (h3 x hx).2; omega⟩]
        omega
      · rintro ⟨h1, h2⟩
        split at h1
        · rename_i hc
          rw [if_pos hc] at h2
          refine ⟨⟨hc.1, by omega⟩, fun x hx => ?_⟩
          have := hc.2 x hx
          omega
        · exact absurd rfl h1
theorem shape_full (t : BT) : belowT t true (highT t : Int) = (fullT t true && decide (deepT t ≠ 0)) := by
  rw [below_full _ t (Nat.le_refl _)]
  congr 1
  by_cases h : deepT t = 0
  · simp [h]
  · have := high_deep _ t (Nat.le_refl _) h
    simp [h, this]

/-! ### a list of nodes -/
/-- A node of a list: pairs, and the places of its kids. -/
abbrev ND := PS × List Int
def kidsBy (f : Nat → Option (BT × Nat)) (len : Nat) : List Int → Nat → Option (List BT × Nat)
  | [], n => some ([], n)
  | p :: r, n =>
    if p = (n : Int) ∧ n < len then
      match f n with
      | none => none
      | some (t, m) =>
        match kidsBy f len r m with
        | none => none
        | some (ts, e) => some (t :: ts, e)
    else none
/-- The tree at a place of a list, and where it ends. -/
def parse (ns : List ND) : Nat → Nat → Option (BT × Nat)
  | 0, _ => none
  | f + 1, at_ =>
    match ns[at_]? with
    | none => none
    | some nd =>
      match kidsBy (parse ns f) ns.length nd.2 (at_ + 1) with
      | none => none
      | some (ts, e) => some (.node nd.1 ts, e)
/-- One kid more. -/
def kidStep (f : Nat → Option (BT × Nat)) (len : Nat) (p : Int) : Option (List BT × Nat) → Option (List BT × Nat)
  | none => none
  | some (ts, m) =>
    if p = (m : Int) ∧ m < len then
      match f m with
      | none => none
      | some (t, e) => some (ts ++ [t], e)
    else none
theorem kidsBy_append (f : Nat → Option (BT × Nat)) (len : Nat) : ∀ (a b : List Int) (n : Nat), kidsBy f len (a ++ b) n =
    match kidsBy f len a n with
    | none => none
    | some (ts, m) => match kidsBy f len b m with
      | none => none
      | some (us, e) => some (ts ++ us, e)
  | [], b, n => by
    simp only [List.nil_append, kidsBy]
    cases kidsBy f len b n with
    | none => rfl
    | some x => rfl
  | p :: r, b, n => by
    simp only [List.cons_append, kidsBy]
    split
    · cases hf : f n with
      | none => rfl
      | some x =>
        obtain ⟨t, m⟩ := x
        simp only [kidsBy_append f len r b m]
        cases kidsBy f len r m with
        | none => rfl
        | some y =>
          obtain ⟨ts, m2⟩ := y
          simp only
          cases kidsBy f len b m2 with
          | none => rfl
          | some z => rfl
    · rfl
theorem kidsBy_snoc (f : Nat → Option (BT × Nat)) (len : Nat) (a : List Int) (p : Int) (n : Nat) : kidsBy f len (a ++ [p]) n = kidStep f len p (kidsBy f len a n) := by
  rw [kidsBy_append]
  cases kidsBy f len a n with
  | none => rfl
  | some x =>
    obtain ⟨ts, m⟩ := x
    simp only [kidStep, kidsBy]
    by_cases hc : p = (m : Int) ∧ m < len
    · rw [if_pos hc, if_pos hc]
      cases f m with
      | none => rfl
      | some y => rfl
    · rw [if_neg hc, if_neg hc]
theorem kidsBy_take {f : Nat → Option (BT × Nat)} {len : Nat} {ks : List Int} {k n : Nat} (h : k < ks.length) : kidsBy f len (ks.take (k + 1)) n = kidStep f len ks[k] (kidsBy f len (ks.take k) n) := by
  rw [List.take_succ_eq_append_getElem h, kidsBy_snoc]
/-- What fails early fails. -/
theorem kidsBy_none {f : Nat → Option (BT × Nat)} {len : Nat} {ks : List Int} {k n : Nat} (h : kidsBy f len (ks.take k) n = none) : kidsBy f len ks n = none := by
  rw [← List.take_append_drop k ks, kidsBy_append, h]
/-- What holds at all holds at each. -/
theorem kidsBy_at {f : Nat → Option (BT × Nat)} {len : Nat} : ∀ {ks : List Int} {n : Nat} {ts : List BT} {e : Nat}, kidsBy f len ks n = some (ts, e) →
    ts.length = ks.length ∧ ∀ (k : Nat) (h : k < ks.length) (h' : k < ts.length), ∃ m m', kidsBy f len (ks.take k) n = some (ts.take k, m) ∧ ks[k] = (m : Int) ∧ m < len ∧ f m = some (ts[k], m') := by
  intro ks n ts e h
  have hlen : ∀ (ks : List Int) (n : Nat) (ts : List BT) (e : Nat), kidsBy f len ks n = some (ts, e) → ts.length = ks.length := by
    intro ks
    induction ks with
    | nil => intro n ts e h; simp only [kidsBy, Option.some.injEq, Prod.mk.injEq] at h; rw [← h.1]; rfl
    | cons p r ih =>
      intro n ts e h
      simp only [kidsBy] at h
      split at h
      · split at h
        · cases h
        · split at h
          · cases h
          · rename_i hr
            simp only [Option.some.injEq, Prod.mk.injEq] at h
            rw [← h.1]
            simp only [List.length_cons, ih _ _ _ hr]
      · cases h
  refine ⟨hlen _ _ _ _ h, fun k hk hk' => ?_⟩
  have h1 := h
  rw [← List.take_append_drop k ks, kidsBy_append] at h1
  cases h2 : kidsBy f len (ks.take k) n with
  | none => rw [h2] at h1; cases h1
  | some x =>
    obtain ⟨us, m⟩ := x
    rw [h2] at h1
    have hul := hlen _ _ _ _ h2
    rw [List.length_take, Nat.min_eq_left (by omega)] at hul
    rw [List.drop_eq_getElem_cons hk] at h1
    simp only [kidsBy] at h1
    by_cases hc : ks[k] = (m : Int) ∧ m < len
    · rw [if_pos hc] at h1
      cases hf : f m with
      | none => rw [hf] at h1; cases h1
      | some y =>
        obtain ⟨t, m'⟩ := y
        rw [hf] at h1
        simp only at h1
        cases hr : kidsBy f len (ks.drop (k + 1)) m' with
        | none => rw [hr] at h1; cases h1
        | some z =>
          obtain ⟨vs, e'⟩ := z
          rw [hr] at h1
          simp only [Option.some.injEq, Prod.mk.injEq] at h1
          have e1 : ts.take k = us := by
            rw [← h1.1, List.take_append_of_le_length (by omega), List.take_of_length_le (by omega)]
          have e2 : ts[k]? = some t := by
            rw [← h1.1, List.getElem?_append_right (by omega), hul, Nat.sub_self]
            rfl
          rw [List.getElem?_eq_getElem hk', Option.some.injEq] at e2
          exact ⟨m, m', by rw [e1], hc.1, hc.2, by rw [e2]; exact hf⟩
    · rw [if_neg hc] at h1
      cases h1

/-- How many pairs the first nodes have. -/
def sumP (ns : List ND) (k : Nat) : Nat := ((ns.take k).map fun nd => nd.1.length).sum
theorem sumP_succ {ns : List ND} {k : Nat} (h : k < ns.length) : sumP ns (k + 1) = sumP ns k + ns[k].1.length := by
  rw [sumP, List.take_succ_eq_append_getElem h, List.map_append, List.sum_append]
  simp [sumP]
theorem sumP_le (ns : List ND) (k : Nat) : sumP ns k ≤ sumP ns ns.length := by
  rw [sumP, sumP, List.take_length]
  conv => rhs; rw [← List.take_append_drop k ns, List.map_append, List.sum_append]
  omega
/-- What a tree of a list is. -/
def Parsed (ns : List ND) (at_ : Nat) (t : BT) (e : Nat) : Prop := at_ < e ∧ e ≤ ns.length ∧ (allT t).length + sumP ns at_ = sumP ns e ∧ szT t + at_ = e ∧ ∀ p ∈ allT t, ∃ nd ∈ ns, p ∈ nd.1
theorem parse_kids {ns : List ND} {g : Nat → Option (BT × Nat)} (hg : ∀ n t e, g n = some (t, e) → Parsed ns n t e) :
    ∀ (ks : List Int) (n : Nat) (ts : List BT) (e : Nat), n ≤ ns.length → kidsBy g ns.length ks n = some (ts, e) → n ≤ e ∧ e ≤ ns.length ∧ (allK ts).length + sumP ns n = sumP ns e ∧ szK ts + n = e ∧ ∀ p ∈ allK ts, ∃ nd ∈ ns, p ∈ nd.1
  | [], n, ts, e, hn, h => by
    simp only [kidsBy, Option.some.injEq, Prod.mk.injEq] at h
    obtain ⟨rfl, rfl⟩ := h
    exact ⟨Nat.le_refl _, hn, by simp [allK], by simp [szK], fun p hp => by simp [allK] at hp⟩
  | p :: r, n, ts, e, hn, h => by
    simp only [kidsBy] at h
    split at h
    · split at h
      · cases h
      · rename_i t m hf
        split at h
        · cases h
        · rename_i us e' hr
          simp only [Option.some.injEq, Prod.mk.injEq] at h
          obtain ⟨rfl, rfl⟩ := h
          obtain ⟨a1, a2, a3, a4, a5⟩ := hg _ _ _ hf
          obtain ⟨b1, b2, b3, b4, b5⟩ := parse_kids hg r m us e' a2 hr
          refine ⟨by omega, b2, ?_, by simp only [szK]; omega, fun p hp => ?_⟩
          · simp only [allK, List.length_append]
            omega
          · simp only [allK, List.mem_append] at hp
            rcases hp with hp | hp
            · exact a5 p hp
            · exact b5 p hp
    · cases h
theorem parse_facts (ns : List ND) : ∀ (f n : Nat) (t : BT) (e : Nat), parse ns f n = some (t, e) → Parsed ns n t e
  | 0, _, _, _, h => by simp [parse] at h
  | f + 1, n, t, e, h => by
    simp only [parse] at h
    split at h
    · cases h
    · rename_i nd hnd
      split at h
      · cases h
      · rename_i ts e' hk
        simp only [Option.some.injEq, Prod.mk.injEq] at h
        obtain ⟨rfl, rfl⟩ := h
        obtain ⟨hlt, hx⟩ := List.getElem?_eq_some_iff.1 hnd
        obtain ⟨b1, b2, b3, b4, b5⟩ := parse_kids (parse_facts ns f) nd.2 (n + 1) ts e' (by omega) hk
        have hs := sumP_succ hlt
        rw [hx] at hs
        refine ⟨by omega, b2, ?_, by simp only [szT]; omega, fun p hp => ?_⟩
        · simp only [allT, List.length_append]
          omega
        · simp only [allT, List.mem_append] at hp
          rcases hp with hp | hp
          · exact ⟨nd, hx ▸ List.getElem_mem hlt, hp⟩
          · exact b5 p hp
theorem parse_node {ns : List ND} {f n : Nat} (h : n < ns.length) : parse ns (f + 1) n = match kidsBy (parse ns f) ns.length ns[n].2 (n + 1) with
    | none => none
    | some (ts, e) => some (.node ns[n].1 ts, e) := by
  simp only [parse, List.getElem?_eq_getElem h]
theorem parse_yes {ns : List ND} {f n : Nat} (h : n < ns.length) {ts : List BT} {e : Nat} (hk : kidsBy (parse ns f) ns.length ns[n].2 (n + 1) = some (ts, e)) : parse ns (f + 1) n = some (.node ns[n].1 ts, e) := by
  rw [parse_node h, hk]
theorem parse_no {ns : List ND} {f n : Nat} (h : n < ns.length) (hk : kidsBy (parse ns f) ns.length ns[n].2 (n + 1) = none) : parse ns (f + 1) n = none := by
  rw [parse_node h, hk]
theorem kid_yes {f : Nat → Option (BT × Nat)} {len : Nat} {ks : List Int} {k n : Nat} (h : k < ks.length) {ts : List BT} {m : Nat} (hk : kidsBy f len (ks.take k) n = some (ts, m)) (h1 : ks[k] = (m : Int)) (h2 : m < len) {t : BT} {e : Nat} (hf : f m = some (t, e)) :
    kidsBy f len (ks.take (k + 1)) n = some (ts ++ [t], e) := by
  rw [kidsBy_take h, hk]
  simp only [kidStep]
  rw [if_pos ⟨h1, h2⟩, hf]
theorem kid_no1 {f : Nat → Option (BT × Nat)} {len : Nat} {ks : List Int} {k n : Nat} (h : k < ks.length) {ts : List BT} {m : Nat} (hk : kidsBy f len (ks.take k) n = some (ts, m)) (h1 : ¬ (ks[k] = (m : Int) ∧ m < len)) :
    kidsBy f len ks n = none := by
  refine kidsBy_none (k := k + 1) ?_
  rw [kidsBy_take h, hk]
  simp only [kidStep]
  rw [if_neg h1]
theorem kid_no2 {f : Nat → Option (BT × Nat)} {len : Nat} {ks : List Int} {k n : Nat} (h : k < ks.length) {ts : List BT} {m : Nat} (hk : kidsBy f len (ks.take k) n = some (ts, m)) (hf : f m = none) :
    kidsBy f len ks n = none := by
  refine kidsBy_none (k := k + 1) ?_
  rw [kidsBy_take h, hk]
  simp only [kidStep]
  split
  · rw [hf]
  · rfl

mutual
/-- No node has very many pairs. -/
def smT : BT → Prop
  | .node ps ks => ps.length ≤ 1048576 ∧ smK ks
def smK : List BT → Prop
  | [] => True
  | t :: r => smT t ∧ smK r
end
theorem smK_at : ∀ {ks : List BT}, smK ks → ∀ (k : Nat) (h : k < ks.length), smT ks[k]
  | [], _, _, h => by simp at h
  | t :: r, hs, 0, _ => by simp only [smK] at hs; exact hs.1
  | t :: r, hs, k + 1, h => by simp only [smK] at hs; exact smK_at hs.2 k (by simpa using h)
theorem sm_kids {g : Nat → Option (BT × Nat)} {len : Nat} (hg : ∀ n t e, g n = some (t, e) → smT t) : ∀ (ks : List Int) (n : Nat) (ts : List BT) (e : Nat), kidsBy g len ks n = some (ts, e) → smK ts
  | [], n, ts, e, h => by
    simp only [kidsBy, Option.some.injEq, Prod.mk.injEq] at h
    obtain ⟨rfl, rfl⟩ := h
    simp [smK]
  | p :: r, n, ts, e, h => by
    simp only [kidsBy] at h
    split at h
    · split at h
      · cases h
      · rename_i t m hf
        split at h
        · cases h
        · rename_i us e' hr
          simp only [Option.some.injEq, Prod.mk.injEq] at h
          obtain ⟨rfl, rfl⟩ := h
          simp only [smK]
          exact ⟨hg _ _ _ hf, sm_kids hg r m us e' hr⟩
    · cases h
theorem parse_sm {ns : List ND} (hs : ∀ (k : Nat) (h : k < ns.length), ns[k].1.length ≤ 1048576) : ∀ (f n : Nat) (t : BT) (e : Nat), parse ns f n = some (t, e) → smT t
  | 0, _, _, _, h => by simp [parse] at h
  | f + 1, n, t, e, h => by
    simp only [parse] at h
    split at h
    · cases h
    · rename_i nd hnd
      split at h
      · cases h
      · rename_i ts e' hk
        simp only [Option.some.injEq, Prod.mk.injEq] at h
        obtain ⟨rfl, rfl⟩ := h
        obtain ⟨hlt, hx⟩ := List.getElem?_eq_some_iff.1 hnd
        simp only [smT]
        refine ⟨hx ▸ hs n hlt, sm_kids (parse_sm hs f) nd.2 (n + 1) ts e' hk⟩
/-- A tree of well filled nodes has no more than four pairs for each. -/
theorem full_len : ∀ (n : Nat) (t : BT) (top : Bool), szT t ≤ n → fullT t top = true → (allT t).length ≤ 4 * szT t
  | 0, t, _, h, _ => by have := szT_pos t; omega
  | n + 1, .node ps ks, top, h, hf => by
    have hK : ∀ ks : List BT, szK ks ≤ n → fullK ks = true → (allK ks).length ≤ 4 * szK ks := by
      intro ks
      induction ks with
      | nil => intro _ _; simp [allK]
      | cons t r ih =>
        intro hz hf
        simp only [szK] at hz
        simp only [fullK, Bool.and_eq_true] at hf
        have h1 := full_len n t false (by omega) hf.1
        have h2 := ih (by omega) hf.2
        simp only [allK, List.length_append, szK]
        omega
    simp only [fullT, fillB, Bool.and_eq_true, decide_eq_true_eq] at hf
    have := hK ks (by simp only [szT] at h; omega) hf.2
    simp only [allT, List.length_append, szT]
    omega

/-- The tree of a list, where it is one. -/
def treeOf (ns : List ND) : Option BT :=
  match parse ns ns.length 0 with
  | none => none
  | some (t, e) => if e = ns.length then some t else none
def rightT (t : BT) : Bool := fullT t true && (decide (deepT t ≠ 0) && pairsB (allT t))
/-- What TreeOk answers. -/
def treeB (ns : List ND) : Bool :=
  decide (1 ≤ ns.length) && (decide (ns.length ≤ 100) && (match treeOf ns with
    | none => false
    | some t => rightT t))
/-- The tree of a right list. -/
theorem treeB_yes {ns : List ND} (h : treeB ns = true) : ∃ t, treeOf ns = some t ∧ rightT t = true ∧ 1 ≤ ns.length ∧ ns.length ≤ 100 := by
  simp only [treeB, Bool.and_eq_true, decide_eq_true_eq] at h
  obtain ⟨h1, h2, h3⟩ := h
  cases ht : treeOf ns with
  | none => rw [ht] at h3; cases h3
  | some t => rw [ht] at h3; exact ⟨t, rfl, h3, h1, h2⟩
theorem treeOf_some {ns : List ND} {t : BT} (h : treeOf ns = some t) : parse ns ns.length 0 = some (t, ns.length) := by
  unfold treeOf at h
  split at h
  · cases h
  · split at h
    · rename_i hp he
      cases h
      rw [hp, he]
    · cases h
/-- All pairs of a right list of nodes; none of another. -/
def pairsOf (ns : List ND) : PS := if treeB ns then (match treeOf ns with | none => [] | some t => allT t) else []
end Go.Proofs.Ytcjbjfhndjpmcaa
