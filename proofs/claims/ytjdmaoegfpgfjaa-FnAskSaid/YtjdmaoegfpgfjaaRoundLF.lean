/-
  The laws' own question for a round, step by step. Plain facts.
-/
import Derived.Test.YtjdmaoegfpgfjaaEdgeGood
namespace Go.Proofs.Ytjdmaoegfpgfjaa

/-- So far no edge leads back to itself. -/
def noSeek (es : ES) (k : Nat) : Prop := ∀ (i : Nat) (h : i < es.length), i < k → seekB es es[i] = false
theorem noSeek_succ {es : ES} {k : Nat} (h : noSeek es k) (hk : k < es.length) (h1 : seekB es es[k] = false) : noSeek es (k + 1) := by
  intro i hi hlt
  by_cases e : i = k
  · subst e; exact h1
  · exact h i hi (by omega)
theorem noSeek_end {es : ES} (h : noSeek es es.length) : roundL es = false := by
  rw [roundL, List.any_eq_false]
  intro e he
  obtain ⟨i, hi, rfl⟩ := List.getElem_of_mem he
  simp [h i hi hi]
theorem seek_yes {es : ES} {e : ED} (he : e ∈ es) (h : seekB es e = true) : roundL es = true := List.any_eq_true.2 ⟨e, he, h⟩
/-- What is seen from e, up to place k. -/
structure SkL (es : ES) (e : ED) (k : Nat) (r : List Int) : Prop where
  he : e ∈ es
  seen : Seen es e.2 r
  eq : seekF es e.1 (es.length + 2 - k) k r = seekB es e
  le : k ≤ r.length
theorem SkL.start {es : ES} {e : ED} (he : e ∈ es) : SkL es e 0 [e.2] := ⟨he, Seen.start es e.2, rfl, by simp⟩
theorem SkL.len {es : ES} {e : ED} {k : Nat} {r : List Int} (h : SkL es e k r) : r.length ≤ es.length + 1 := h.seen.len
theorem SkL.fuel {es : ES} {e : ED} {k : Nat} {r : List Int} (h : SkL es e k r) : ∃ f, es.length + 2 - k = f + 1 ∧ es.length + 2 - (k + 1) = f := by
  have := h.len
  have := h.le
  exact ⟨es.length + 1 - k, by omega, by omega⟩
theorem SkL.hit {es : ES} {e : ED} {k : Nat} {r : List Int} (h : SkL es e k r) (hk : k < r.length) (ha : r[k] = e.1) : seekB es e = true := by
  obtain ⟨f, h1, _⟩ := h.fuel
  rw [← h.eq, h1, seekF, List.getElem?_eq_getElem hk]
  simp [ha]
theorem SkL.done {es : ES} {e : ED} {k : Nat} {r : List Int} (h : SkL es e k r) (hk : r.length ≤ k) : seekB es e = false := by
  obtain ⟨f, h1, _⟩ := h.fuel
  rw [← h.eq, h1, seekF, List.getElem?_eq_none hk]
/-- What is seen from e, the place k being looked at, the edges up to j. -/
structure ScL (es : ES) (e : ED) (k : Nat) (r : List Int) (j : Nat) (r' : List Int) : Prop where
  base : SkL es e k r
  hk : k < r.length
  ne : r[k] ≠ e.1
  eq : r' = scanL r[k] r (es.take j)
theorem ScL.start {es : ES} {e : ED} {k : Nat} {r : List Int} (h : SkL es e k r) (hk : k < r.length) (ne : r[k] ≠ e.1) : ScL es e k r 0 r := ⟨h, hk, ne, rfl⟩
theorem ScL.facts {es : ES} {e : ED} {k j : Nat} {r r' : List Int} (h : ScL es e k r j r') : Seen es e.2 r' ∧ ∃ s, r' = r ++ s := by
  have hk := h.hk
  obtain ⟨h1, h2, _⟩ := scanL_seen (a := r[k]) (b := e.2) (es.take j) r (fun q hq => List.mem_of_mem_take hq) h.base.seen (List.getElem_mem hk)
  rw [h.eq]
  exact ⟨h1, h2⟩
theorem ScL.len {es : ES} {e : ED} {k j : Nat} {r r' : List Int} (h : ScL es e k r j r') : r'.length ≤ es.length + 1 := h.facts.1.len
theorem ScL.lt {es : ES} {e : ED} {k j : Nat} {r r' : List Int} (h : ScL es e k r j r') : k < r'.length := by
  obtain ⟨_, s, e'⟩ := h.facts
  have := h.hk
  rw [e', List.length_append]
  omega
theorem ScL.at_ {es : ES} {e : ED} {k j : Nat} {r r' : List Int} (h : ScL es e k r j r') (hk : k < r'.length) : r'[k] = r[k]'h.hk := by
  obtain ⟨_, s, e'⟩ := h.facts
  subst e'
  exact List.getElem_append_left h.hk
theorem ScL.step {es : ES} {e : ED} {k j : Nat} {r r' : List Int} (h : ScL es e k r j r') (hj : j < es.length) : ScL es e k r (j + 1) (stepL (r[k]'h.hk) r' es[j]) := by
  have e' := h.eq
  refine ⟨h.base, h.hk, h.ne, ?_⟩
  have e2 : scanL (r[k]'h.hk) r (es.take (j + 1)) = stepL (r[k]'h.hk) (scanL (r[k]'h.hk) r (es.take j)) es[j] := by
    rw [List.take_succ_eq_append_getElem hj, scanL, scanL, List.foldl_append]
    rfl
  rw [e2]
  exact congrArg (fun q => stepL (r[k]'h.hk) q es[j]) e'
theorem ScL.next {es : ES} {e : ED} {k : Nat} {r r' : List Int} (h : ScL es e k r es.length r') : SkL es e (k + 1) r' := by
  obtain ⟨f, h1, h2⟩ := h.base.fuel
  have hk := h.hk
  have hr : r' = scanL r[k] r es := by rw [h.eq, List.take_length]
  refine ⟨h.base.he, h.facts.1, ?_, h.lt⟩
  rw [← h.base.eq, h1, h2, seekF, List.getElem?_eq_getElem hk]
  simp only [if_neg h.ne]
  rw [hr]
theorem stepL_new {a : Int} {r : List Int} {e : ED} (h1 : e.1 = a) (h2 : e.2 ∉ r) : stepL a r e = r ++ [e.2] := by rw [stepL, if_pos ⟨h1, h2⟩]
theorem stepL_old {a : Int} {r : List Int} {e : ED} (h2 : e.2 ∈ r) : stepL a r e = r := by rw [stepL, if_neg fun h => h.2 h2]
theorem stepL_skip {a : Int} {r : List Int} {e : ED} (h1 : e.1 ≠ a) : stepL a r e = r := by rw [stepL, if_neg fun h => h1 h.1]
end Go.Proofs.Ytjdmaoegfpgfjaa
