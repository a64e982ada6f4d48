/-
  What the edges keep: who stands in them, and that asking and granting close no round. Plain facts.
-/
import Derived.Test.YtjdmaoegfpgfjaaLockGood
namespace Go.Proofs.Ytjdmaoegfpgfjaa
open Go.RowKit

theorem rawE_mem {h l : HS} {z : ED} : ∀ {k : Nat}, k ≤ l.length → (z ∈ rawE h l k ↔ ∃ (i : Nat) (hi : i < l.length), i < k ∧ (z ∈ heldE h l[i] ∨ z ∈ lineE h (l.take i) l[i]))
  | 0, _ => by simp [rawE]
  | k + 1, hk => by
    rw [rawE_succ (by omega), List.mem_append, rawE_mem (by omega), List.mem_append]
    constructor
    · rintro (⟨i, hi, hik, hz⟩ | hz)
      · exact ⟨i, hi, by omega, hz⟩
      · exact ⟨k, by omega, by omega, hz⟩
    · rintro ⟨i, hi, hik, hz⟩
      by_cases e : i = k
      · subst e
        exact .inr hz
      · exact .inl ⟨i, hi, by omega, hz⟩
theorem edge_mem {h l : HS} {z : ED} : z ∈ edgesL h l ↔ ∃ (i : Nat) (hi : i < l.length), z ∈ heldE h l[i] ∨ z ∈ lineE h (l.take i) l[i] := by
  rw [edgesL, setE_mem, rawE_mem (Nat.le_refl _)]
  constructor
  · rintro ⟨i, hi, _, hz⟩
    exact ⟨i, hi, hz⟩
  · rintro ⟨i, hi, hz⟩
    exact ⟨i, hi, hi, hz⟩
theorem heldE_mem {h : HS} {x : HD} {z : ED} : z ∈ heldE h x ↔ ∃ y ∈ h, keepsB y x = true ∧ z = (x.1, y.1) := by
  rw [heldE, List.mem_map]
  constructor
  · rintro ⟨y, hy, e⟩
    rw [List.mem_filter] at hy
    exact ⟨y, hy.1, hy.2, e.symm⟩
  · rintro ⟨y, hy, hk, e⟩
    exact ⟨y, List.mem_filter.2 ⟨hy, hk⟩, e.symm⟩
theorem lineE_mem {h a : HS} {x : HD} {z : ED} : z ∈ lineE h a x ↔ (h.any fun y => ownB y x) = false ∧ ∃ y ∈ a, y.2.1 = x.2.1 ∧ z = (x.1, y.1) := by
  rw [lineE]
  cases hx : h.any fun y => ownB y x
  · rw [if_neg (by simp), aheadE, List.mem_map]
    constructor
    · rintro ⟨y, hy, e⟩
      rw [List.mem_filter, decide_eq_true_eq] at hy
      exact ⟨rfl, y, hy.1, hy.2, e.symm⟩
    · rintro ⟨_, y, hy, hk, e⟩
      exact ⟨y, List.mem_filter.2 ⟨hy, decide_eq_true hk⟩, e.symm⟩
  · simp
/-- Who waits stands in the line. -/
theorem edge_stands {h l : HS} {z : ED} (hz : z ∈ edgesL h l) : ∃ x ∈ l, x.1 = z.1 := by
  obtain ⟨i, hi, hz | hz⟩ := edge_mem.1 hz
  · obtain ⟨y, _, _, rfl⟩ := heldE_mem.1 hz
    exact ⟨_, List.getElem_mem hi, rfl⟩
  · obtain ⟨_, y, _, _, rfl⟩ := lineE_mem.1 hz
    exact ⟨_, List.getElem_mem hi, rfl⟩
/-- Nobody waits for itself alone. -/
theorem edge_ne {h l : HS} (ho : OneEach l) {z : ED} (hz : z ∈ edgesL h l) : z.1 ≠ z.2 := by
  obtain ⟨i, hi, hz | hz⟩ := edge_mem.1 hz
  · obtain ⟨y, _, hk, rfl⟩ := heldE_mem.1 hz
    intro e
    have e' : y.1 = l[i].1 := e.symm
    simp [keepsB, e'] at hk
  · obtain ⟨_, y, hy, _, rfl⟩ := lineE_mem.1 hz
    obtain ⟨j, hj, rfl⟩ := List.getElem_of_mem hy
    rw [List.length_take] at hj
    rw [List.getElem_take]
    rw [OneEach, List.pairwise_iff_getElem] at ho
    exact Ne.symm (ho j i (by omega) hi (by omega))
theorem edge_rise {h l : HS} {i : Nat} (hi : i + 1 < (edgesL h l).length) : ltE (edgesL h l)[i] (edgesL h l)[i + 1] = true := by
  have := setE_rises (rawE h l l.length)
  rw [RisesE, List.pairwise_iff_getElem] at this
  have h2 : i + 1 < (setE (rawE h l l.length)).length := hi
  exact this i (i + 1) (by omega) h2 (by omega)

/-! ### rounds -/
/-- From a one comes to b by the edges. -/
inductive Way (es : ES) : Int → Int → Prop where
  | one {a b : Int} : (a, b) ∈ es → Way es a b
  | more {a b c : Int} : (a, b) ∈ es → Way es b c → Way es a c
theorem Way.trans {es : ES} {a b c : Int} (h : Way es a b) (h' : Way es b c) : Way es a c := by
  induction h with
  | one e => exact .more e h'
  | more e _ ih => exact .more e (ih h')
theorem Way.first {es : ES} {a b : Int} (h : Way es a b) : ∃ c, (a, c) ∈ es := by
  cases h with
  | one e => exact ⟨_, e⟩
  | more e _ => exact ⟨_, e⟩
def Round (es : ES) : Prop := ∃ a, Way es a a
/-- A way that does not come by t is a way by the edges that do not leave t. -/
theorem Way.split {es es' : ES} {t : Int} (hs : ∀ z ∈ es', z.1 ≠ t → z ∈ es ∨ z.2 = t) {a b : Int} (h : Way es' a b) : Way es a b ∨ a = t ∨ b = t ∨ (Way es' a t ∧ Way es' t b) := by
  induction h with
  | @one a b e =>
    by_cases ha : a = t
    · exact .inr (.inl ha)
    · rcases hs _ e ha with h1 | h1
      · exact .inl (.one h1)
      · exact .inr (.inr (.inl h1))
  | @more a b c e h ih =>
    by_cases ha : a = t
    · exact .inr (.inl ha)
    by_cases hb : b = t
    · subst hb
      exact .inr (.inr (.inr ⟨.one e, h⟩))
    rcases ih with h1 | h1 | h1 | ⟨h1, h2⟩
    · rcases hs _ e ha with h3 | h3
      · exact .inl (.more h3 h1)
      · exact absurd h3 hb
    · exact absurd h1 hb
    · exact .inr (.inr (.inl h1))
    · exact .inr (.inr (.inr ⟨.more e h1, h2⟩))
/-- New edges all touch t, and t does not come back to itself: no new round. -/
theorem no_round {es es' : ES} {t : Int} (hs : ∀ z ∈ es', z.1 ≠ t → z ∈ es ∨ z.2 = t) (hn : ¬ Round es) (ht : ¬ Way es' t t) : ¬ Round es' := by
  rintro ⟨a, h⟩
  rcases h.split hs with h1 | h1 | h1 | ⟨h1, h2⟩
  · exact hn ⟨a, h1⟩
  · subst h1; exact ht h
  · subst h1; exact ht h
  · exact ht (h2.trans h1)

/-! ### what roundB says -/
theorem scan_all {t a : Int} : ∀ (es : ES) (r r' : List Int), scanR t a r es = some r' → (∃ s, r' = r ++ s) ∧ ∀ e ∈ es, e.1 = a → e.2 ≠ t ∧ e.2 ∈ r'
  | [], r, r', h => by
    simp [scanR] at h
    exact ⟨⟨[], by simp [h]⟩, fun e he => by simp at he⟩
  | e :: es, r, r', h => by
    rw [scanR, List.foldl_cons] at h
    cases hs : stepR t a (some r) e with
    | none => rw [hs, stepR_none] at h; cases h
    | some r1 =>
      rw [hs] at h
      obtain ⟨⟨s, e1⟩, h2⟩ := scan_all es r1 r' h
      obtain ⟨s', e2⟩ := stepR_pre hs
      refine ⟨⟨s' ++ s, by rw [e1, e2, List.append_assoc]⟩, fun x hx hxa => ?_⟩
      rcases List.mem_cons.1 hx with rfl | hx
      · simp only [stepR, hxa, if_true] at hs
        split at hs
        · cases hs
        · rename_i hne
          refine ⟨hne, ?_⟩
          split at hs
          · rename_i hm
            injection hs with hs
            rw [e1, ← hs]
            exact List.mem_append_left _ hm
          · injection hs with hs
            rw [e1, ← hs]
            simp
      · exact h2 x hx hxa
def Shut (es : ES) (t : Int) (r : List Int) : Prop := ∀ x ∈ r, ∀ e ∈ es, e.1 = x → e.2 ≠ t ∧ e.2 ∈ r
theorem roundF_shut {es : ES} {t : Int} : ∀ (f i : Nat) (r : List Int), Reach es t r → i ≤ r.length → es.length + 2 ≤ f + i → (∀ (j : Nat) (hj : j < r.length), j < i → ∀ e ∈ es, e.1 = r[j] → e.2 ≠ t ∧ e.2 ∈ r) → roundF es t f i r = false → ∃ r', (∃ s, r' = r ++ s) ∧ Shut es t r'
  | 0, i, r, hr, hi, hf, _, _ => by
    have := hr.len
    omega
  | f + 1, i, r, hr, hi, hf, hinv, h => by
    rw [roundF] at h
    by_cases hlt : i < r.length
    · rw [List.getElem?_eq_getElem hlt] at h
      cases hs : scanR t r[i] r es with
      | none => simp [hs] at h
      | some r1 =>
        simp only [hs] at h
        obtain ⟨⟨s, e1⟩, h2⟩ := scan_all es r r1 hs
        have hre : Reach es t r1 := by
          have : ∀ (k : Nat), k ≤ es.length → ∀ rk, scanR t r[i] r (es.take k) = some rk → Reach es t rk := by
            intro k
            induction k with
            | zero => intro _ rk hk; simp [scanR] at hk; exact hk ▸ hr
            | succ k ih =>
              intro hk rk hsk
              rw [scanR_take (by omega)] at hsk
              cases hp : scanR t r[i] r (es.take k) with
              | none => rw [hp] at hsk; cases hsk
              | some rp =>
                rw [hp] at hsk
                exact (ih (by omega) rp hp).step (List.getElem_mem (by omega)) hsk
          exact this es.length (Nat.le_refl _) r1 (by rw [List.take_length]; exact hs)
        obtain ⟨r', ⟨s', e2⟩, h3⟩ := roundF_shut f (i + 1) r1 hre (by rw [e1, List.length_append]; omega) (by omega) (fun j hj hji e he hej => by
          by_cases hjr : j < r.length
          · have hg : r1[j] = r[j] := by simp [e1, hjr]
            rw [hg] at hej
            by_cases hjj : j = i
            · subst hjj
              exact h2 e he hej
            · have h4 := hinv j hjr (by omega) e he hej
              exact ⟨h4.1, by rw [e1]; exact List.mem_append_left _ h4.2⟩
          · omega) h
        exact ⟨r', ⟨s ++ s', by rw [e2, e1, List.append_assoc]⟩, h3⟩
    · refine ⟨r, ⟨[], by simp⟩, fun x hx e he hex => ?_⟩
      obtain ⟨j, hj, rfl⟩ := List.getElem_of_mem hx
      exact hinv j hj (by omega) e he hex
theorem Shut.way {es : ES} {t : Int} {r : List Int} (h : Shut es t r) {a b : Int} (hw : Way es a b) : a ∈ r → b ∈ r ∧ b ≠ t := by
  induction hw with
  | one e => exact fun ha => ⟨(h _ ha _ e rfl).2, (h _ ha _ e rfl).1⟩
  | more e _ ih => exact fun ha => ih (h _ ha _ e rfl).2
/-- Who does not come back to itself, as the programs find it, does not. -/
theorem no_way {es : ES} {t : Int} (h : roundB es t = false) : ¬ Way es t t := by
  obtain ⟨r', ⟨s, e⟩, hs⟩ := roundF_shut (es.length + 2) 0 [t] (Reach.start es t) (Nat.zero_le _) (by omega) (fun j hj hj0 => absurd hj0 (by omega)) h
  intro hw
  exact (hs.way hw (by rw [e]; simp)).2 rfl
/-- One that waits now: no new round where it does not wait for itself. -/
theorem wait_round {h l : HS} {x : HD} (hn : ¬ Round (edgesL h l)) (hb : roundB (edgesL h (l ++ [x])) x.1 = false) : ¬ Round (edgesL h (l ++ [x])) := by
  refine no_round (t := x.1) (fun z hz hne => ?_) hn (no_way hb)
  left
  obtain ⟨i, hi, hz'⟩ := edge_mem.1 hz
  by_cases hlt : i < l.length
  · have e1 : (l ++ [x])[i] = l[i] := by simp [hlt]
    have e2 : (l ++ [x]).take i = l.take i := List.take_append_of_le_length (by omega)
    rw [e1, e2] at hz'
    exact edge_mem.2 ⟨i, hlt, hz'⟩
  · have hi' : i = l.length := by simp at hi; omega
    subst hi'
    have e1 : (l ++ [x])[l.length] = x := by simp
    rw [e1] at hz'
    rcases hz' with hz' | hz'
    · obtain ⟨y, _, _, rfl⟩ := heldE_mem.1 hz'
      exact absurd rfl hne
    · obtain ⟨_, y, _, _, rfl⟩ := lineE_mem.1 hz'
      exact absurd rfl hne
theorem way_stands {h l : HS} {a b : Int} (hw : Way (edgesL h l) a b) : ∃ y ∈ l, y.1 = a := by
  obtain ⟨c, hc⟩ := hw.first
  exact edge_stands hc
/-- One that is let in waits for nobody: no new round. -/
theorem give_round {h l : HS} {x : HD} (hn : ¬ Round (edgesL h l)) (hx : ∀ y ∈ l, y.1 ≠ x.1) : ¬ Round (edgesL (giveL h x) l) := by
  refine no_round (t := x.1) (fun z hz _ => ?_) hn (fun hw => by
    obtain ⟨y, hy, e⟩ := way_stands hw
    exact hx y hy e)
  obtain ⟨i, hi, hz' | hz'⟩ := edge_mem.1 hz
  · obtain ⟨y, hy, hk, rfl⟩ := heldE_mem.1 hz'
    rcases give_mem hy with hy | rfl
    · exact .inl (edge_mem.2 ⟨i, hi, .inl (heldE_mem.2 ⟨y, hy, hk, rfl⟩)⟩)
    · exact .inr rfl
  · obtain ⟨ho, y, hy, hk, rfl⟩ := lineE_mem.1 hz'
    refine .inl (edge_mem.2 ⟨i, hi, .inr (lineE_mem.2 ⟨?_, y, hy, hk, rfl⟩)⟩)
    rw [List.any_eq_false]
    intro q hq ho'
    obtain ⟨q', hq', e1, e2⟩ := give_keeps (x := x) hq
    have h1 := List.any_eq_false.1 ho q' hq'
    refine h1 ?_
    rw [ownB_iff] at ho' ⊢
    exact ⟨e1.trans ho'.1, e2.trans ho'.2⟩
/-- Whatever one that asks is told: no new round. -/
theorem ask_round {h l : HS} {x : HD} (p : askOk h l x = true) (hn : ¬ Round (edgesL h l)) : ¬ Round (edgesL (askR h l x).1 (askR h l x).2.1) := by
  obtain ⟨p1, p2, p3, p4, p5⟩ := askOk_iff.1 p
  have hx : ∀ y ∈ l, y.1 ≠ (wholeH h x).1 := fun y hy => by
    have := List.any_eq_false.1 p3 y hy
    simp only [decide_eq_true_eq] at this
    exact this
  rw [askR, if_pos p, askL]
  split
  · exact give_round hn hx
  · split
    · exact hn
    · rename_i hr
      exact wait_round hn (by simpa using hr)
theorem ask_locks {h l : HS} {x : HD} (p : askOk h l x = true) : locksB (askR h l x).1 (askR h l x).2.1 = true := by
  obtain ⟨p1, p2, p3, p4, p5⟩ := askOk_iff.1 p
  have g := ask_good p
  have e : askR h l x = askL h l (wholeH h x) := by rw [askR, if_pos p]
  rw [e]
  have hl : (askL h l (wholeH h x)).1.length ≤ h.length + 1 ∧ (askL h l (wholeH h x)).2.1.length ≤ l.length + 1 := by
    rw [askL]
    split
    · have := giveL_length h (wholeH h x)
      exact ⟨this, Nat.le_succ _⟩
    · split
      · exact ⟨Nat.le_succ _, Nat.le_succ _⟩
      · exact ⟨Nat.le_succ _, by simp⟩
  exact g.locks (by omega) (by omega)
theorem join_more {a b : Int} (ha : modeB a = true) (hb : modeB b = true) : joinB (joinB a b) b = joinB a b := by
  rw [joinB_comm a b]
  exact join_join hb ha
theorem whole_more {h : HS} {x : HD} (hh : HoldsB h) (hx : holdB x = true) : joinB (wholeM h x) x.2.2 = wholeM h x := by
  unfold wholeM
  split
  · rename_i y hy
    exact join_more (holdB_mode (hh y (List.mem_of_find?_eq_some hy))) (holdB_mode hx)
  · exact joinB_self
/-- One that is let in holds it, in a way that is no less than was asked. -/
theorem got_holds {h l : HS} {x : HD} (p : askOk h l x = true) : ∃ z ∈ giveL h (wholeH h x), z.1 = x.1 ∧ z.2.1 = x.2.1 ∧ bothF z.2.2 x.2.2 = z.2.2 := by
  obtain ⟨p1, p2, p3, p4, p5⟩ := askOk_iff.1 p
  have g := good_of p1
  have hm := wholeM_mode g.hh p2
  refine ⟨wholeH h x, ?_, rfl, rfl, ?_⟩
  · rw [giveL]
    split
    · rename_i ho
      obtain ⟨y, hy, e⟩ := List.any_eq_true.1 ho
      refine List.mem_map.2 ⟨y, hy, ?_⟩
      rw [if_pos e]
    · simp
  · show bothF (wholeM h x) x.2.2 = wholeM h x
    rw [bothF, hm, holdB_mode p2]
    exact whole_more g.hh p2

/-! ### the laws' own question for a round -/
def stepL (a : Int) (r : List Int) (e : ED) : List Int := if e.1 = a ∧ e.2 ∉ r then r ++ [e.2] else r
def scanL (a : Int) (r : List Int) (es : ES) : List Int := es.foldl (stepL a) r
def seekF (es : ES) (A : Int) : Nat → Nat → List Int → Bool
  | 0, _, _ => false
  | f + 1, k, r => match r[k]? with
    | none => false
    | some a => if a = A then true else seekF es A f (k + 1) (scanL a r es)
def seekB (es : ES) (e : ED) : Bool := seekF es e.1 (es.length + 2) 0 [e.2]
/-- What round answers. -/
def roundL (es : ES) : Bool := es.any fun e => seekB es e
structure Seen (es : ES) (b : Int) (r : List Int) : Prop where
  nd : r.Nodup
  sub : ∀ x ∈ r, x = b ∨ x ∈ es.map (·.2)
  way : ∀ x ∈ r, x = b ∨ Way es b x
theorem Seen.start (es : ES) (b : Int) : Seen es b [b] := ⟨by simp, fun x hx => by simp at hx; exact .inl hx, fun x hx => by simp at hx; exact .inl hx⟩
theorem Seen.len {es : ES} {b : Int} {r : List Int} (h : Seen es b r) : r.length ≤ es.length + 1 := by
  have := nodup_len (m := b :: es.map (·.2)) h.nd fun x hx => by
    rcases h.sub x hx with rfl | hx
    · simp
    · exact List.mem_cons_of_mem _ hx
  simpa using this
theorem Seen.step {es : ES} {a b : Int} {r : List Int} {e : ED} (h : Seen es b r) (ha : a ∈ r) (he : e ∈ es) : Seen es b (stepL a r e) := by
  unfold stepL
  split
  · rename_i hc
    refine ⟨?_, fun x hx => ?_, fun x hx => ?_⟩
    · rw [List.nodup_append]
      refine ⟨h.nd, by simp, fun x hx y hy => ?_⟩
      simp only [List.mem_singleton] at hy
      subst hy
      exact fun e' => hc.2 (e' ▸ hx)
    · rcases List.mem_append.1 hx with hx | hx
      · exact h.sub x hx
      · simp only [List.mem_singleton] at hx
        exact .inr (List.mem_map.2 ⟨e, he, hx.symm⟩)
    · rcases List.mem_append.1 hx with hx | hx
      · exact h.way x hx
      · simp only [List.mem_singleton] at hx
        subst hx
        right
        have hee : (a, e.2) ∈ es := by rw [← hc.1]; exact he
        rcases h.way a ha with h1 | h1
        · rw [h1] at hee
          exact .one hee
        · exact h1.trans (.one hee)
  · exact h
theorem stepL_pre (a : Int) (r : List Int) (e : ED) : ∃ s, stepL a r e = r ++ s := by
  unfold stepL
  split
  · exact ⟨_, rfl⟩
  · exact ⟨[], by simp⟩
theorem scanL_seen {es : ES} {a b : Int} : ∀ (l : ES) (r : List Int), (∀ e ∈ l, e ∈ es) → Seen es b r → a ∈ r → Seen es b (scanL a r l) ∧ (∃ s, scanL a r l = r ++ s) ∧ ∀ e ∈ l, e.1 = a → e.2 ∈ scanL a r l
  | [], r, _, h, _ => ⟨h, ⟨[], by simp [scanL]⟩, fun e he => by simp at he⟩
  | e :: l, r, hl, h, ha => by
    obtain ⟨s, hs⟩ := stepL_pre a r e
    have ha' : a ∈ stepL a r e := by rw [hs]; exact List.mem_append_left _ ha
    obtain ⟨h1, ⟨s', h2⟩, h3⟩ := scanL_seen l (stepL a r e) (fun q hq => hl q (List.mem_cons_of_mem _ hq)) (h.step ha (hl e (by simp))) ha'
    have e1 : scanL a r (e :: l) = scanL a (stepL a r e) l := rfl
    rw [e1]
    refine ⟨h1, ⟨s ++ s', by rw [h2, hs, List.append_assoc]⟩, fun q hq hqa => ?_⟩
    rcases List.mem_cons.1 hq with rfl | hq
    · rw [h2]
      refine List.mem_append_left _ ?_
      unfold stepL
      split
      · simp
      · rename_i hc
        by_cases hm : q.2 ∈ r
        · exact hm
        · exact absurd ⟨hqa, hm⟩ hc
    · exact h3 q hq hqa
theorem seekF_true {es : ES} {A b : Int} : ∀ (f k : Nat) (r : List Int), Seen es b r → seekF es A f k r = true → A = b ∨ Way es b A
  | 0, _, _, _, h => by simp [seekF] at h
  | f + 1, k, r, hr, h => by
    rw [seekF] at h
    by_cases hk : k < r.length
    · rw [List.getElem?_eq_getElem hk] at h
      simp only at h
      by_cases ha : r[k] = A
      · exact ha ▸ hr.way _ (List.getElem_mem hk)
      · rw [if_neg ha] at h
        exact seekF_true f (k + 1) _ (scanL_seen es r (fun _ h => h) hr (List.getElem_mem hk)).1 h
    · rw [List.getElem?_eq_none (by omega)] at h
      cases h
theorem seekF_false {es : ES} {A b : Int} : ∀ (f k : Nat) (r : List Int), Seen es b r → k ≤ r.length → es.length + 2 ≤ f + k → (∀ (j : Nat) (hj : j < r.length), j < k → r[j] ≠ A ∧ ∀ e ∈ es, e.1 = r[j] → e.2 ∈ r) → seekF es A f k r = false → ∃ r', (∃ s, r' = r ++ s) ∧ ∀ x ∈ r', x ≠ A ∧ ∀ e ∈ es, e.1 = x → e.2 ∈ r'
  | 0, k, r, hr, hk, hf, _, _ => by
    have := hr.len
    omega
  | f + 1, k, r, hr, hk, hf, hinv, h => by
    rw [seekF] at h
    by_cases hlt : k < r.length
    · rw [List.getElem?_eq_getElem hlt] at h
      simp only at h
      by_cases ha : r[k] = A
      · rw [if_pos ha] at h; cases h
      · rw [if_neg ha] at h
        obtain ⟨h1, ⟨s, h2⟩, h3⟩ := scanL_seen es r (fun _ h => h) hr (List.getElem_mem hlt)
        obtain ⟨r', ⟨s', e2⟩, h4⟩ := seekF_false f (k + 1) (scanL r[k] r es) h1 (by rw [h2, List.length_append]; omega) (by omega) (fun j hj hjk => by
          have hjr : j < r.length := by omega
          have hg : (scanL r[k] r es)[j] = r[j] := by simp [h2, hjr]
          rw [hg]
          by_cases hjj : j = k
          · subst hjj
            exact ⟨ha, fun e he hej => h3 e he hej⟩
          · have h5 := hinv j hjr (by omega)
            exact ⟨h5.1, fun e he hej => by rw [h2]; exact List.mem_append_left _ (h5.2 e he hej)⟩) h
        exact ⟨r', ⟨s ++ s', by rw [e2, h2, List.append_assoc]⟩, h4⟩
    · refine ⟨r, ⟨[], by simp⟩, fun x hx => ?_⟩
      obtain ⟨j, hj, rfl⟩ := List.getElem_of_mem hx
      exact hinv j hj (by omega)
theorem roundL_true {es : ES} (h : roundL es = true) : Round es := by
  obtain ⟨e, he, h1⟩ := List.any_eq_true.1 h
  rcases seekF_true _ _ _ (Seen.start es e.2) h1 with h2 | h2
  · refine ⟨e.1, .one ?_⟩
    have q : (e.1, e.2) ∈ es := he
    rw [← h2] at q
    exact q
  · exact ⟨e.1, .more (show (e.1, e.2) ∈ es from he) h2⟩
theorem roundL_false {es : ES} (h : roundL es = false) : ¬ Round es := by
  rintro ⟨a, hw⟩
  have key : ∀ b, (a, b) ∈ es → (b = a ∨ Way es b a) → False := by
    intro b hb hway
    have h1 := List.any_eq_false.1 h (a, b) hb
    have h2 : seekB es (a, b) = false := by simpa using h1
    obtain ⟨r', ⟨s, e⟩, hs⟩ := seekF_false _ _ _ (Seen.start es b) (Nat.zero_le _) (by omega) (fun j hj hj0 => absurd hj0 (by omega)) h2
    have hbm : b ∈ r' := by rw [e]; simp
    have hc : ∀ {p q : Int}, Way es p q → p ∈ r' → q ∈ r' := by
      intro p q hpq
      induction hpq with
      | one e' => exact fun hp => (hs _ hp).2 _ e' rfl
      | more e' _ ih => exact fun hp => ih ((hs _ hp).2 _ e' rfl)
    rcases hway with rfl | hway
    · exact (hs _ hbm).1 rfl
    · exact (hs _ (hc hway hbm)).1 rfl
  cases hw with
  | one e => exact key _ e (.inl rfl)
  | more e h' => exact key _ e (.inr h')
theorem roundL_no {es : ES} (h : ¬ Round es) : roundL es = false := by
  cases hr : roundL es
  · rfl
  · exact absurd (roundL_true hr) h
end Go.Proofs.Ytjdmaoegfpgfjaa
