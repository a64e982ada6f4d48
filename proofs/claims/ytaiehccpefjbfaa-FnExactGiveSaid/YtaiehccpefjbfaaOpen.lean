/-
  A slice of pairs that came in, opened.
-/
import Derived.Test.YtaiehccpefjbfaaToPair
import Derived.Test.YtaiehccpefjbfaaPost
import Derived.Deep.Slices
import Derived.Deep.Fields
import Derived.ChangeSame
namespace Go.Proofs.Ytaiehccpefjbfaa
open Go.ChangeShapes Go.WideShapes Go.ChangeAt Go.RowKit Go.Deep

theorem lawPairCells : Try.prog.cellsOf 202 = 2 := by kernel_rfl
theorem stringCells : Try.prog.cellsOf 9 = 1 := by kernel_rfl

set_option maxRecDepth 100000 in
theorem open_pairs {H : Type} {enc : TypeId × Value → H} {W : World} {base : Nat} {v : Value} {d : DataW H} {p : List MemPlace}
    (hval : Value.okWide Try.prog W .any base 120 v) (h : DataW.Trod enc Try.prog W 0 (fun _ => true) true 120 v d p) :
    ∃ (A : Option Addr) (c : Nat) (ps : PS), v = .slice A ps.length c ∧ RP W W.heap.size A ps ∧ Fits ps ∧ ps.length ≤ maxLen := by
  obtain ⟨a0, len0, cap0, rfl⟩ := okWide_slice Try.underlying120 hval
  obtain ⟨fuel, hf⟩ := h
  rcases open_slice Try.underlying120 (cs := [.slice a0 len0 cap0]) (by simpa [Value.cells] using hf) with ⟨h0, _⟩ | ⟨a, len, cap, m, n, D, Pl, h0, _, hl, hm, hmm, _, hi⟩
  · simp only [List.cons.injEq, and_true] at h0
    refine ⟨none, 0, [], h0, .inl rfl, fun p hp => by simp at hp, Nat.zero_le _⟩
  · simp only [List.cons.injEq, and_true] at h0
    have hcell : ∀ i, i < len → ∃ p : BB, W.cell? (a.add (i * 2)) = some (.string p.1) ∧ W.cell? (a.add (i * 2 + 1)) = some (.string p.2) ∧ p.1.size ≤ maxLen ∧ p.2.size ≤ maxLen := by
      intro i hlt
      obtain ⟨cs, hc, ht⟩ := hi i (by rw [hmm, if_pos rfl]; omega)
      rw [lawPairCells] at hc
      obtain ⟨_, hcl, hat⟩ := World.cells?_some hc
      obtain ⟨y0, y1, n', _, _, h1, h2⟩ := trod_struct2 Try.underlying202 ht
      match cs, hcl with
      | [c0, c1], _ =>
        simp only [stringCells] at h1 h2
        obtain ⟨s0, e0, _, z0⟩ := DataW.trod_string Try.underlying9 h1
        obtain ⟨s1, e1, _, z1⟩ := DataW.trod_string Try.underlying9 h2
        simp at e0 e1
        subst e0 e1
        refine ⟨(s0, s1), ?_, ?_, z0, z1⟩
        · have := hat 0 (by omega)
          simpa [Go.Deep.add_add] using this
        · have := hat 1 (by omega)
          simpa [Go.Deep.add_add] using this
    obtain ⟨f, hf'⟩ := choose_lt hcell
    refine ⟨some a, cap, (List.range len).map f, by simpa using h0, ?_, ?_, ?_⟩
    · by_cases h0 : len = 0
      · left
        simp [h0]
      · right
        obtain ⟨b, off, spot⟩ := a
        have h00 := (hf' 0 (by omega)).1
        have hspot : spot = none := by simpa [Addr.add] using World.cell?_spot h00
        subst hspot
        refine ⟨b, off, rfl, ?_, fun i p hp => ?_⟩
        · have := World.block_lt_of_cell? W _ h00
          simpa [Addr.add] using this
        · have hlt : i < len := by have := (List.getElem?_eq_some_iff.1 hp).1; simpa using this
          have hp' : f i = p := by simpa [hlt] using hp
          obtain ⟨h1, h2, _⟩ := hf' i hlt
          rw [Addr.add_lit] at h1 h2
          subst hp'
          exact ⟨h1, by rw [Nat.add_assoc]; exact h2⟩
    · intro p hp
      obtain ⟨i, hi', rfl⟩ := List.mem_map.1 hp
      have := hf' i (by simpa using hi')
      exact ⟨this.2.2.1, this.2.2.2⟩
    · simp
      omega
end Go.Proofs.Ytaiehccpefjbfaa
