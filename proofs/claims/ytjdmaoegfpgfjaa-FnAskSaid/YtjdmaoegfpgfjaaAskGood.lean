/-
  What Ask answers, case by case. Plain facts.
-/
import Derived.Test.YtjdmaoegfpgfjaaEdgeGood
namespace Go.Proofs.Ytjdmaoegfpgfjaa

def waitsQ (h l : HS) : ES := if locksB h l then edgesL h l else []
theorem edges_waits {h l : HS} (p : locksB h l = true) : waitsQ h l = edgesL h l := by rw [waitsQ, if_pos p]
/-- Of locks that may be asked: what comes of it. -/
theorem ask_facts (h l : HS) (x : HD) : ((askR h l x).1 = [] ∧ (askR h l x).2.1 = [] ∧ (askR h l x).2.2 = 4) ∨
    ((askR h l x).2.2 ≠ 4 ∧ locksB (askR h l x).1 (askR h l x).2.1 = true ∧ (roundL (waitsQ h l) = false → roundL (waitsQ (askR h l x).1 (askR h l x).2.1) = false) ∧
      ((askR h l x = (h, l, 3)) ∨ (∃ m, askR h l x = (h, l ++ [(x.1, x.2.1, m)], 2)) ∨
        (∃ g, askR h l x = (g, l, 1) ∧ ∃ z ∈ g, z.1 = x.1 ∧ z.2.1 = x.2.1 ∧ bothF z.2.2 x.2.2 = z.2.2))) := by
  cases ha : askOk h l x
  · left
    rw [askR, ha]
    exact ⟨rfl, rfl, rfl⟩
  · right
    have hlk : locksB h l = true := (askOk_iff.1 ha).1
    have hal := ask_locks ha
    have hr : roundL (waitsQ h l) = false → roundL (waitsQ (askR h l x).1 (askR h l x).2.1) = false := fun e => by
      rw [edges_waits hlk] at e
      rw [edges_waits hal]
      exact roundL_no (ask_round ha (roundL_false e))
    have he : askR h l x = askL h l (wholeH h x) := by rw [askR, if_pos ha]
    have h3 : (askR h l x = (h, l, 3)) ∨ (∃ m, askR h l x = (h, l ++ [(x.1, x.2.1, m)], 2)) ∨ (∃ g, askR h l x = (g, l, 1) ∧ ∃ z ∈ g, z.1 = x.1 ∧ z.2.1 = x.2.1 ∧ bothF z.2.2 x.2.2 = z.2.2) := by
      rw [he, askL]
      split
      · exact .inr (.inr ⟨_, rfl, got_holds ha⟩)
      · split
        · exact .inl rfl
        · exact .inr (.inl ⟨_, rfl⟩)
    refine ⟨?_, hal, hr, h3⟩
    rcases h3 with e | ⟨m, e⟩ | ⟨g, e, _⟩ <;> rw [e] <;> simp
end Go.Proofs.Ytjdmaoegfpgfjaa
