/-
  A page that came in, opened.
-/
import Derived.Test.YtooalnpfenhelaaOpen
import Derived.Test.YtooalnpfenhelaaInts
import Derived.Deep.Strs
import Derived.ChangeSlices
namespace Go.Proofs.Ytooalnpfenhelaa
open Go.ChangeShapes Go.WideShapes Go.ChangeAt Go.RowKit Go.Deep
theorem int64Cells : Try.prog.cellsOf 2 = 1 := by kernel_rfl

set_option maxRecDepth 100000 in
theorem open_ints_at {H : Type} {enc : TypeId × Value → H} {W : World} {fuel : Nat} {v : Value} {x : DataW H × List MemPlace}
    (hf : DataW.trod enc Try.prog W 0 (fun _ => true) true fuel 48 [v] = some x) :
    ∃ (K : Option Addr) (d : Nat) (ks : List Int), v = .slice K ks.length d ∧ RI W W.heap.size K ks ∧ ks.length ≤ maxLen := by
  rcases open_ints Try.underlying48 Try.underlying2 int64Cells hf with ⟨h0, _⟩ | ⟨a, len, cap, zs, h0, _, hl, hm, hzl, _, hc, _⟩
  · simp only [List.cons.injEq, and_true] at h0
    exact ⟨none, 0, [], h0, .inl rfl, Nat.zero_le _⟩
  · simp only [List.cons.injEq, and_true] at h0
    simp only [if_true] at hzl
    refine ⟨some a, cap, zs.take len, by rw [h0, List.length_take, hzl, Nat.min_eq_left hl], ?_, by rw [List.length_take]; omega⟩
    by_cases h00 : len = 0
    · left
      simp [h00]
    · right
      obtain ⟨b, off, spot⟩ := a
      have h1 := hc 0 (by omega)
      have hspot : spot = none := by simpa [Addr.add] using World.cell?_spot h1
      subst hspot
      refine ⟨b, off, rfl, ?_, fun i x hx => ?_⟩
      · have := World.block_lt_of_cell? W _ h1
        simpa [Addr.add] using this
      · have hlt := (List.getElem?_eq_some_iff.1 hx).1
        rw [List.length_take] at hlt
        have h2 := hc i (by omega)
        rw [Addr.add_lit] at h2
        rw [List.getElem?_take_of_lt (by omega)] at hx
        rw [h2, List.getD_eq_getElem?_getD, hx]
        rfl

end Go.Proofs.Ytooalnpfenhelaa
