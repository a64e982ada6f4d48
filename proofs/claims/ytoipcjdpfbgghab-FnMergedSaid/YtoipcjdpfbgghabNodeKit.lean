/-
  What the exact laws on trees go through: sizes, copies, comparisons of nodes.
-/
import Derived.Test.YtoipcjdpfbgghabRow3
import Derived.Test.YtoipcjdpfbgghabTreeMem
namespace Go.Proofs.Ytoipcjdpfbgghab
open Go.RowKit

/-- Nodes that Go can bear. -/
def FitsN (ns : List ND) : Prop := ∀ nd ∈ ns, Fits nd.1 ∧ nd.1.length ≤ maxLen ∧ nd.2.length ≤ maxLen
theorem FitsN.get {ns : List ND} (h : FitsN ns) {k : Nat} (hk : k < ns.length) : Fits ns[k].1 ∧ ns[k].1.length ≤ maxLen ∧ ns[k].2.length ≤ maxLen := h _ (List.getElem_mem hk)
/-- Nodes of which no one has much. -/
def SmallN (ns : List ND) : Prop := ∀ (k : Nat) (h : k < ns.length), ns[k].1.length ≤ 1048576 ∧ ns[k].2.length ≤ 1048576

def smallToN (ns : List ND) (k : Nat) : Prop := ∀ (i : Nat) (h : i < ns.length), i < k → ns[i].1.length ≤ 1048576 ∧ ns[i].2.length ≤ 1048576
theorem smallToN_succ {ns : List ND} {m : Int} {k : Nat} (h : smallToN ns k) (hk : k < ns.length) (hm : m ≤ 1048576) (he : (ns[k].1.length : Int) ≤ m ∧ (ns[k].2.length : Int) ≤ m) : smallToN ns (k + 1) := by
  intro i hi hlt
  by_cases e : i = k
  · subst e
    omega
  · exact h i hi (by omega)
def SzPostN (ns : List ND) (l : Int) (w : World) (e : Ending) (w' : World) : Prop :=
  ∃ r : Int, e = .returned (.int .i64 r) ∧ -1 ≤ r ∧ r ≤ l ∧ (0 ≤ r → (ns.length : Int) ≤ l ∧ SmallN ns) ∧ Below w.heap.size w w'

/-- A node of the call's own. -/
def MadeNode (w : World) (B : Nat) (ps : PS) (ks : List Int) (e : Ending) (w' : World) : Prop :=
  ∃ A c K d, e = .returned (.agg #[.slice A ps.length c, .slice K ks.length d]) ∧ OwnP w' B A c ps ∧ OwnI w' B K d ks ∧ Below w.heap.size w w'

theorem own_set {w : World} {B : Nat} {e : TypeId} {size n : Nat} {v : Value} {xs : List Value} (h : w.ownsRow B e size v n xs) {g j : Nat} (hg : g < B) (u : Value) : (w.setCell ⟨g, j, none⟩ u).ownsRow B e size v n xs :=
  ownsRow_setCell_below h (a := ⟨g, j, none⟩) hg u
/-! ### comparisons, of nodes that are alike -/
end Go.Proofs.Ytoipcjdpfbgghab
