/-
  A slice of nodes that came in, opened.
-/
import Derived.Test.YtaiehccpefjbfabOpenPage
import Derived.Test.YtaiehccpefjbfabImplTop
namespace Go.Proofs.Ytaiehccpefjbfab
open Go.ChangeShapes Go.WideShapes Go.ChangeAt Go.RowKit Go.Deep

theorem lawNodeCells : Try.prog.cellsOf 51 = 2 := by kernel_rfl
theorem pairSCells : Try.prog.cellsOf 48 = 1 := by kernel_rfl
theorem intSCells : Try.prog.cellsOf 49 = 1 := by kernel_rfl

set_option maxRecDepth 100000 in
theorem open_nodes {H : Type} {enc : TypeId × Value → H} {W : World} {base : Nat} {v : Value} {d : DataW H} {p : List MemPlace}
    (hval : Value.okWide Try.prog W .any base 22 v) (h : DataW.Trod enc Try.prog W 0 (fun _ => true) true 22 v d p) :
    ∃ (A : Option Addr) (c : Nat) (ns : List ND), v = .slice A ns.length c ∧ RN W W.heap.size A ns ∧ FitsN ns ∧ ns.length ≤ maxLen := by
  obtain ⟨a0, len0, cap0, rfl⟩ := okWide_slice Try.underlying22 hval
  obtain ⟨fuel, hf⟩ := h
  rcases open_slice Try.underlying22 (cs := [.slice a0 len0 cap0]) (by simpa [Value.cells] using hf) with ⟨h0, _⟩ | ⟨a, len, cap, m, n, D, Pl, h0, _, hl, hm, hmm, _, hi⟩
  · simp only [List.cons.injEq, and_true] at h0
    refine ⟨none, 0, [], h0, .inl rfl, fun p hp => by simp at hp, Nat.zero_le _⟩
  · simp only [List.cons.injEq, and_true] at h0
    have hcell : ∀ i, i < len → ∃ x : (Option Addr × Nat × PS) × (Option Addr × Nat × List Int), W.cell? (a.add (i * 2)) = some (.slice x.1.1 x.1.2.2.length x.1.2.1) ∧ W.cell? (a.add (i * 2 + 1)) = some (.slice x.2.1 x.2.2.2.length x.2.2.1) ∧
        (RP W W.heap.size x.1.1 x.1.2.2 ∧ Fits x.1.2.2 ∧ x.1.2.2.length ≤ maxLen) ∧ (RI W W.heap.size x.2.1 x.2.2.2 ∧ x.2.2.2.length ≤ maxLen) := by
      intro i hlt
      obtain ⟨cs, hc, ht⟩ := hi i (by rw [hmm, if_pos rfl]; omega)
      rw [lawNodeCells] at hc
      obtain ⟨_, hcl, hat⟩ := World.cells?_some hc
      obtain ⟨y0, y1, n', _, _, h1, h2⟩ := trod_struct2 Try.underlying51 ht
      match cs, hcl with
      | [c0, c1], _ =>
        simp only [pairSCells, intSCells] at h1 h2
        obtain ⟨A, c, ps, e0, r0, f0, n0⟩ := open_pairs_at (v := c0) (by simpa using h1)
        obtain ⟨K, d, ks, e1, r1, n1⟩ := open_ints_at (v := c1) (by simpa using h2)
        refine ⟨((A, c, ps), (K, d, ks)), ?_, ?_, ⟨r0, f0, n0⟩, ⟨r1, n1⟩⟩
        · have := hat 0 (by omega)
          simpa [Go.Deep.add_add, e0] using this
        · have := hat 1 (by omega)
          simpa [Go.Deep.add_add, e1] using this
    obtain ⟨f, hf'⟩ := choose_lt hcell
    refine ⟨some a, cap, (List.range len).map fun i => ((f i).1.2.2, (f i).2.2.2), by simpa using h0, ?_, ?_, ?_⟩
    · by_cases h0 : len = 0
      · left
        simp [h0]
      · right
        obtain ⟨b, off, spot⟩ := a
        have h00 := (hf' 0 (by omega)).1
        have hspot : spot = none := by simpa [Addr.add] using World.cell?_spot h00
        subst hspot
        refine ⟨b, off, fun i => (f i).1.1, fun i => (f i).2.1, fun i => (f i).1.2.1, fun i => (f i).2.2.1, rfl, ?_, fun i nd hn => ?_⟩
        · have := World.block_lt_of_cell? W _ h00
          simpa [Addr.add] using this
        · have hlt : i < len := by have := (List.getElem?_eq_some_iff.1 hn).1; simpa using this
          have hn' : ((f i).1.2.2, (f i).2.2.2) = nd := by simpa [hlt] using hn
          obtain ⟨h1, h2, h3, h4⟩ := hf' i hlt
          rw [Addr.add_lit] at h1 h2
          subst hn'
          exact ⟨h1, by rw [Nat.add_assoc]; exact h2, h3.1, h4.1⟩
    · intro nd hn
      obtain ⟨i, hi', rfl⟩ := List.mem_map.1 hn
      have := hf' i (by simpa using hi')
      exact ⟨this.2.2.1.2.1, this.2.2.1.2.2, this.2.2.2.2⟩
    · simp
      omega
end Go.Proofs.Ytaiehccpefjbfab
