/-
  Plain facts of locks that are drawn.
-/
import Derived.Test.YtjdmaoegfpgfjaaLockGood
import Derived.Test.YtjdmaoegfpgfjaaEdgeGood
namespace Go.Proofs.Ytjdmaoegfpgfjaa

theorem holdB_key {x : HD} (h : holdB x = true) : x.2.1.size ≤ 6 := by
  simp only [holdB, Bool.and_eq_true, Bool.or_eq_true, decide_eq_true_eq] at h
  rcases h.2.2.2 with h | h
  · omega
  · exact keyB_small h
theorem locks_fits {h l : HS} (p : locksB h l = true) : FitsH h ∧ FitsH l := by
  obtain ⟨h1, h2, _, _⟩ := locksB_iff.1 p
  exact ⟨fun x hx => by have := holdB_key (heldsB_holds h1 x hx); unfold maxLen; omega, fun x hx => by have := holdB_key (linesB_holds h2 x hx); unfold maxLen; omega⟩
/-- Right locks, so many at most. -/
structure DLocks (h l : HS) (n : Nat) : Prop where
  ok : locksB h l = true
  total : h.length + l.length ≤ n
theorem DLocks.nil (n : Nat) : DLocks [] [] n := ⟨by decide, Nat.zero_le _⟩
theorem DLocks.more {h l : HS} {n m : Nat} (p : DLocks h l n) (hm : n ≤ m) : DLocks h l m := ⟨p.ok, Nat.le_trans p.total hm⟩
theorem DLocks.ask {h l : HS} {x : HD} {n : Nat} (p : DLocks h l n) (e : (askR h l x).2.2 ≠ 4) : DLocks (askR h l x).1 (askR h l x).2.1 (n + 1) := by
  cases ha : askOk h l x
  · rw [askR, ha] at e
    exact absurd rfl e
  · refine ⟨ask_locks ha, ?_⟩
    rw [askR, if_pos ha]
    have := ask_total h l (wholeH h x)
    have := p.total
    omega
theorem DLocks.free {h l : HS} {n : Nat} (p : DLocks h l n) (hn : n ≤ 100) (t : Int) : DLocks (freeR h l t).1 (freeR h l t).2.1 n := by
  have hf : freeR h l t = freeL h l t := by rw [freeR, if_pos p.ok]
  rw [hf]
  have := p.total
  have := (free_total p.ok t).1
  exact ⟨free_ok p.ok t (by omega), by omega⟩
theorem DLocks.fits {h l : HS} {n : Nat} (p : DLocks h l n) : FitsH h ∧ FitsH l := locks_fits p.ok
theorem FitsH.snoc {h : HS} {x : HD} (p : FitsH h) (hx : x.2.1.size ≤ maxLen) : FitsH (h ++ [x]) := fun y hy => by
  rcases List.mem_append.1 hy with hy | hy
  · exact p y hy
  · rw [List.mem_singleton] at hy
    exact hy ▸ hx
end Go.Proofs.Ytjdmaoegfpgfjaa
