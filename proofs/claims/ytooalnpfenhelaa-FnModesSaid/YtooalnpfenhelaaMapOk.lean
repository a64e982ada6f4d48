/-
  The two programs' MapOk: contracts.
-/
import Derived.Test.YtooalnpfenhelaaKeys
import Derived.Test.YtooalnpfenhelaaMem
import Derived.BigQuiet
import Derived.Deep.QuietTactic
import Derived.OwnWalk
import Derived.Outline
import Derived.Deep.RegionHeld3
namespace Go.Proofs.Ytooalnpfenhelaa
open Go.RowKit

theorem quiet_eq {P : Program} {f : FuncId} {args : Array Value} {w : World} {n : Nat} {v : Value}
    (h : Calls P f args (w.drewN n) fun e w' => e = .returned v ∧ w.drewN n = w') : Calls P f args (w.drewN n) fun e w'' => e = .returned v ∧ ∃ m, w'' = w.drewN m :=
  h.mono fun _ _ ⟨he, hm⟩ => ⟨he, n, hm.symm⟩

/-- All texts are of a length that Go can bear. -/
def Fits (ps : PS) : Prop := ∀ p ∈ ps, p.1.size ≤ maxLen ∧ p.2.size ≤ maxLen
theorem Fits.get {ps : PS} (h : Fits ps) {k : Nat} (hk : k < ps.length) : ps[k].1.size ≤ maxLen ∧ ps[k].2.size ≤ maxLen := h _ (List.getElem_mem hk)

def Drawn (w : World) (w' : World) : Prop := ∃ m, w' = w.drewN m
theorem Drawn.refl (w : World) : Drawn w w := ⟨0, rfl⟩
theorem Drawn.drewN {w w' : World} (h : Drawn w w') (n : Nat) : Drawn w (w'.drewN n) := by
  obtain ⟨m, rfl⟩ := h
  exact ⟨m + n, World.drewN_drewN _ _ _⟩
theorem Drawn.below {w w' : World} (h : Drawn w w') (B : Nat) : Below B w w' := by
  obtain ⟨m, rfl⟩ := h
  exact ⟨rfl, rfl, rfl, Nat.le_refl _, fun _ _ => rfl⟩

/-- What l1Pairs answers. -/
def pairsB (ps : PS) : Bool := ps.all pairB && risesB ps
theorem pairsB_keys {ps : PS} {k : Nat} (hk : k < ps.length) (h : keyB ps[k].1 = false ∨ keyB ps[k].2 = false) : pairsB ps = false := by
  rw [pairsB, keys_bad hk h]; rfl
theorem pairsB_rises {ps : PS} {k : Nat} (hk : k < ps.length) (h0 : 0 < k) (h : ltS (ps[k - 1]'(by omega)).1 ps[k].1 = false) : pairsB ps = false := by
  rw [pairsB, rises_bad hk h0 h, Bool.and_false]
theorem pairsB_end {ps : PS} (h : keysTo ps ps.length) (h' : risesTo ps ps.length) : pairsB ps = true := by
  rw [pairsB, List.all_eq_true.2 (keysTo_end h), risesTo_end h']; rfl

theorem mapB_of {ps : PS} (h : ps.length ≤ 60) : mapB ps = pairsB ps := by simp [mapB, pairsB, h]

end Go.Proofs.Ytooalnpfenhelaa
