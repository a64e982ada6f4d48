/-
  The text of a map: plain facts.
-/
import Derived.Test.YtooalnpfenhelabDoorMem
import Derived.Lib.Join
namespace Go.Proofs.YtooalnpfenhelabDoor
open Go.RowKit

/-- A pair as a word. -/
def wB (p : BB) : ByteArray := p.1 ++ ⟨#[61]⟩ ++ p.2
def wordsL (ps : PS) : List (List UInt8) := ps.map fun p => (wB p).data.toList
/-- Pairs as words, a blank between two. -/
def textB (ps : PS) : ByteArray := ⟨(Lib.join (wordsL ps) [32]).toArray⟩
/-- What MapText answers. -/
def mapT (ps : PS) : ByteArray := if mapB ps then textB ps else ⟨#[]⟩

theorem app_list (a b : ByteArray) : (a ++ b).data.toList = a.data.toList ++ b.data.toList := by
  rw [ByteArray.data_append, Array.toList_append]
theorem ext_list {a b : ByteArray} (h : a.data.toList = b.data.toList) : a = b := by
  cases a; cases b
  simpa using Array.toList_inj.1 h
theorem join_snoc (sep x : List UInt8) : ∀ xs : List (List UInt8), xs ≠ [] → Lib.join (xs ++ [x]) sep = Lib.join xs sep ++ (sep ++ x)
  | [], h => absurd rfl h
  | y :: r, _ => by
    rw [List.cons_append, Lib.join_cons, Lib.join_cons, Lib.joinTail, Lib.joinTail, List.map_append, List.flatten_append]
    simp
theorem words_snoc {ps : PS} {k : Nat} (h : k < ps.length) : wordsL (ps.take (k + 1)) = wordsL (ps.take k) ++ [(wB ps[k]).data.toList] := by
  rw [wordsL, List.take_succ_eq_append_getElem h, List.map_append]
  rfl
theorem text_first {ps : PS} (h : 0 < ps.length) {s : ByteArray} (hs : s.data.toList = Lib.join (wordsL (ps.take 0)) [32]) : (s ++ ps[0].1 ++ ⟨#[61]⟩ ++ ps[0].2).data.toList = Lib.join (wordsL (ps.take (0 + 1))) [32] := by
  have h0 : s.data.toList = [] := hs
  rw [words_snoc h]
  show _ = Lib.join [(wB ps[0]).data.toList] [32]
  rw [Lib.join_one, wB]
  simp only [app_list, h0, List.nil_append]
theorem text_next {ps : PS} {k : Nat} (h : k < ps.length) (hk : 0 < k) {s : ByteArray} (hs : s.data.toList = Lib.join (wordsL (ps.take k)) [32]) : (s ++ ⟨#[32]⟩ ++ ps[k].1 ++ ⟨#[61]⟩ ++ ps[k].2).data.toList = Lib.join (wordsL (ps.take (k + 1))) [32] := by
  rw [words_snoc h, join_snoc _ _ _ (by
    intro e
    have := congrArg List.length e
    simp only [wordsL, List.length_map, List.length_take, List.length_nil] at this
    omega), ← hs, wB]
  simp only [app_list, List.append_assoc]
theorem join_len : ∀ (ps : PS), (∀ p ∈ ps, pairB p = true) → (Lib.join (wordsL ps) [32]).length ≤ 14 * ps.length
  | [], _ => by simp [wordsL, Lib.join_nil]
  | p :: r, h => by
    have hp := h p (by simp)
    simp only [pairB, Bool.and_eq_true] at hp
    have h1 := keyB_small hp.1
    have h2 := keyB_small hp.2
    have hw : ((wB p).data.toList).length = p.1.size + 1 + p.2.size := by
      rw [wB]
      simp only [app_list, List.length_append, Array.length_toList]
      rfl
    have ht : ∀ r : PS, (∀ p ∈ r, pairB p = true) → (Lib.joinTail [32] (wordsL r)).length ≤ 14 * r.length := by
      intro r
      induction r with
      | nil => intro _; simp [wordsL, Lib.joinTail]
      | cons q r ih =>
        intro h
        have hq := h q (by simp)
        simp only [pairB, Bool.and_eq_true] at hq
        have h1 := keyB_small hq.1
        have h2 := keyB_small hq.2
        have hw : ((wB q).data.toList).length = q.1.size + 1 + q.2.size := by
          rw [wB]
          simp only [app_list, List.length_append, Array.length_toList]
          rfl
        have := ih fun p hp => h p (by simp [hp])
        simp only [wordsL, List.map_cons, Lib.joinTail, List.flatten_cons, List.length_append, List.length_cons, List.length_nil] at this ⊢
        rw [hw]
        omega
    have := ht r fun p hp => h p (by simp [hp])
    rw [wordsL, List.map_cons, Lib.join_cons, List.length_append, hw, List.length_cons]
    rw [wordsL] at this
    omega
end Go.Proofs.YtooalnpfenhelabDoor
