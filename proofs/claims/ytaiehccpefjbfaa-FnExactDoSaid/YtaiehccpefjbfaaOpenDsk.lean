/-
  Ops, files and disks that come in as arguments (tools/mkdop.py).
-/
import Derived.Test.YtaiehccpefjbfaaOpen
import Derived.Test.YtaiehccpefjbfaaDop
import Derived.Test.YtaiehccpefjbfaaFlC
import Derived.Test.YtaiehccpefjbfaaDskKit
import Derived.Deep.Strs
import Derived.Lib.SmallJoins
import Derived.ChangeSlices
namespace Go.Proofs.Ytaiehccpefjbfaa
open Go.ChangeShapes Go.WideShapes Go.ChangeAt Go.RowKit Go.Deep Go.Joins

theorem lawInt64Cells : Try.prog.cellsOf 2 = 1 := by kernel_rfl
theorem lawDopCells : Try.prog.cellsOf 27 = 4 := by kernel_rfl

set_option maxRecDepth 100000 in
theorem open_dops_at {H : Type} {enc : TypeId × Value → H} {W : World} {fuel : Nat} {v : Value} {x : DataW H × List MemPlace}
    (hf : DataW.trod enc Try.prog W 0 (fun _ => true) true fuel 23 [v] = some x) :
    ∃ (A : Option Addr) (c : Nat) (hs : DS), v = .slice A hs.length c ∧ RD W W.heap.size A hs ∧ FitsD hs ∧ hs.length ≤ maxLen := by
  rcases open_slice Try.underlying23 hf with ⟨h0, _⟩ | ⟨a, len, cap, m, n, D, Pl, h0, _, hl, hm, hmm, _, hi⟩
  · simp only [List.cons.injEq, and_true] at h0
    refine ⟨none, 0, [], h0, .inl rfl, fun p hp => by simp at hp, Nat.zero_le _⟩
  · simp only [List.cons.injEq, and_true] at h0
    have hcell : ∀ i, i < len → ∃ p : DD, W.cell? (a.add (i * 4)) = some (.int .i64 p.1) ∧ W.cell? (a.add (i * 4 + 1)) = some (.string p.2.1) ∧ W.cell? (a.add (i * 4 + 2)) = some (.string p.2.2.1) ∧ W.cell? (a.add (i * 4 + 3)) = some (.string p.2.2.2) ∧ p.2.1.size ≤ maxLen ∧ p.2.2.1.size ≤ maxLen ∧ p.2.2.2.size ≤ maxLen := by
      intro i hlt
      obtain ⟨cs, hc, ht⟩ := hi i (by rw [hmm, if_pos rfl]; omega)
      rw [lawDopCells] at hc
      obtain ⟨_, hcl, hat⟩ := World.cells?_some hc
      obtain ⟨y0, y1, y2, y3, n', _, _, h1, h2, h3, h4⟩ := trod_struct4 Try.underlying27 ht
      match cs, hcl with
      | [c0, c1, c2, c3], _ =>
        simp only [stringCells, lawInt64Cells] at h1 h2 h3 h4
        obtain ⟨s0, e0, _⟩ := DataW.trod_int Try.underlying2 h1
        obtain ⟨s1, e1, _, z1⟩ := DataW.trod_string Try.underlying9 h2
        obtain ⟨s2, e2, _, z2⟩ := DataW.trod_string Try.underlying9 h3
        obtain ⟨s3, e3, _, z3⟩ := DataW.trod_string Try.underlying9 h4
        simp at e0 e1 e2 e3
        subst e0 e1 e2 e3
        refine ⟨(s0, s1, s2, s3), ?_, ?_, ?_, ?_, z1, z2, z3⟩
        · have := hat 0 (by omega)
          simpa [Go.Deep.add_add] using this
        · have := hat 1 (by omega)
          simpa [Go.Deep.add_add] using this
        · have := hat 2 (by omega)
          simpa [Go.Deep.add_add] using this
        · have := hat 3 (by omega)
          simpa [Go.Deep.add_add] using this
    obtain ⟨f, hf'⟩ := choose_lt hcell
    refine ⟨some a, cap, (List.range len).map f, by simpa using h0, ?_, ?_, ?_⟩
    · by_cases h0 : len = 0
      · left
        simp [h0]
      · right
        obtain ⟨b, off, spot⟩ := a
        have h00 := (hf' 0 (by omega)).1
        have hspot : spot = none := by simpa [Addr.add] using World.cell?_spot h00
        subst hspot
        refine ⟨b, off, rfl, ?_, fun i p hp => ?_⟩
        · have := World.block_lt_of_cell? W _ h00
          simpa [Addr.add] using this
        · have hlt : i < len := by have := (List.getElem?_eq_some_iff.1 hp).1; simpa using this
          have hp' : f i = p := by simpa [hlt] using hp
          obtain ⟨h1, h2, h3, h4, _⟩ := hf' i hlt
          rw [Addr.add_lit] at h1 h2 h3 h4
          subst hp'
          exact ⟨h1, by rw [Nat.add_assoc]; exact h2, by rw [Nat.add_assoc]; exact h3, by rw [Nat.add_assoc]; exact h4⟩
    · intro p hp
      obtain ⟨i, hi', rfl⟩ := List.mem_map.1 hp
      exact (hf' i (by simpa using hi')).2.2.2.2
    · simp
      omega

set_option maxRecDepth 100000 in
theorem open_files_at {H : Type} {enc : TypeId × Value → H} {W : World} {fuel : Nat} {v : Value} {x : DataW H × List MemPlace}
    (hf : DataW.trod enc Try.prog W 0 (fun _ => true) true fuel 22 [v] = some x) :
    ∃ (A : Option Addr) (c : Nat) (ps : PS), v = .slice A ps.length c ∧ RP W W.heap.size A ps ∧ Fits ps ∧ ps.length ≤ maxLen := by
  rcases open_slice Try.underlying22 hf with ⟨h0, _⟩ | ⟨a, len, cap, m, n, D, Pl, h0, _, hl, hm, hmm, _, hi⟩
  · simp only [List.cons.injEq, and_true] at h0
    refine ⟨none, 0, [], h0, .inl rfl, fun p hp => by simp at hp, Nat.zero_le _⟩
  · simp only [List.cons.injEq, and_true] at h0
    have hcell : ∀ i, i < len → ∃ p : BB, W.cell? (a.add (i * 2)) = some (.string p.1) ∧ W.cell? (a.add (i * 2 + 1)) = some (.string p.2) ∧ p.1.size ≤ maxLen ∧ p.2.size ≤ maxLen := by
      intro i hlt
      obtain ⟨cs, hc, ht⟩ := hi i (by rw [hmm, if_pos rfl]; omega)
      rw [lawPairCellsF] at hc
      obtain ⟨_, hcl, hat⟩ := World.cells?_some hc
      obtain ⟨y0, y1, n', _, _, h1, h2⟩ := trod_struct2 Try.underlying136 ht
      match cs, hcl with
      | [c0, c1], _ =>
        simp only [stringCells] at h1 h2
        obtain ⟨s0, e0, _, z0⟩ := DataW.trod_string Try.underlying9 h1
        obtain ⟨s1, e1, _, z1⟩ := DataW.trod_string Try.underlying9 h2
        simp at e0 e1
        subst e0 e1
        refine ⟨(s0, s1), ?_, ?_, z0, z1⟩
        · have := hat 0 (by omega)
          simpa [Go.Deep.add_add] using this
        · have := hat 1 (by omega)
          simpa [Go.Deep.add_add] using this
    obtain ⟨f, hf'⟩ := choose_lt hcell
    refine ⟨some a, cap, (List.range len).map f, by simpa using h0, ?_, ?_, ?_⟩
    · by_cases h0 : len = 0
      · left
        simp [h0]
      · right
        obtain ⟨b, off, spot⟩ := a
        have h00 := (hf' 0 (by omega)).1
        have hspot : spot = none := by simpa [Addr.add] using World.cell?_spot h00
        subst hspot
        refine ⟨b, off, rfl, ?_, fun i p hp => ?_⟩
        · have := World.block_lt_of_cell? W _ h00
          simpa [Addr.add] using this
        · have hlt : i < len := by have := (List.getElem?_eq_some_iff.1 hp).1; simpa using this
          have hp' : f i = p := by simpa [hlt] using hp
          obtain ⟨h1, h2, _⟩ := hf' i hlt
          rw [Addr.add_lit] at h1 h2
          subst hp'
          exact ⟨h1, by rw [Nat.add_assoc]; exact h2⟩
    · intro p hp
      obtain ⟨i, hi', rfl⟩ := List.mem_map.1 hp
      have := hf' i (by simpa using hi')
      exact ⟨this.2.2.1, this.2.2.2⟩
    · simp
      omega

set_option maxRecDepth 100000 in
theorem open_disk {H : Type} {enc : TypeId × Value → H} {W : World} {base : Nat} {v : Value} {dd : DataW H} {p : List MemPlace}
    (hval : Value.okWide Try.prog W .any base 25 v) (h : DataW.Trod enc Try.prog W 0 (fun _ => true) true 25 v dd p) :
    ∃ (V : DV) (D : DK), v = .agg #[.slice V.A D.live.length V.c, .slice V.K D.safe.length V.d, .slice V.O D.ops.length V.o] ∧ RK W W.heap.size V D ∧ FitsK D ∧ LenK D maxLen := by
  obtain ⟨cs, rfl, hcs⟩ := okWide_struct Try.underlying25 hval
  obtain ⟨fuel, hf⟩ := h
  have hC : Try.prog.cellsOf 25 = 3 := by kernel_rfl
  have hP : Try.prog.cellsOf 22 = 1 := by kernel_rfl
  have hQ : Try.prog.cellsOf 23 = 1 := by kernel_rfl
  rw [hC] at hcs
  obtain ⟨y0, y1, y2, n, _, hl, h0, h1, h2⟩ := trod_struct3 Try.underlying25 hf
  simp only [hP, hQ] at h0 h1 h2
  obtain ⟨l⟩ := cs
  match l, hcs with
  | [c0, c1, c2], _ =>
    obtain ⟨A, c, ps, e1, r1, f1, n1⟩ := open_files_at (v := c0) (by simpa [Value.cells] using h0)
    obtain ⟨K, d, qs, e2, r2, f2, n2⟩ := open_files_at (v := c1) (by simpa [Value.cells] using h1)
    obtain ⟨O, o, os, e3, r3, f3, n3⟩ := open_dops_at (v := c2) (by simpa [Value.cells] using h2)
    subst e1 e2 e3
    exact ⟨⟨A, c, K, d, O, o⟩, ⟨ps, qs, os⟩, rfl, ⟨r1, r2, r3⟩, ⟨f1, f2, f3⟩, n1, n2, n3⟩

set_option maxRecDepth 100000 in
theorem open_dop {H : Type} {enc : TypeId × Value → H} {W : World} {base : Nat} {v : Value} {dd : DataW H} {p : List MemPlace}
    (hval : Value.okWide Try.prog W .any base 27 v) (h : DataW.Trod enc Try.prog W 0 (fun _ => true) true 27 v dd p) :
    ∃ x : DD, v = .agg #[.int .i64 x.1, .string x.2.1, .string x.2.2.1, .string x.2.2.2] ∧ SmallX x maxLen := by
  obtain ⟨cs, rfl, hcs⟩ := okWide_struct Try.underlying27 hval
  obtain ⟨fuel, hf⟩ := h
  rw [lawDopCells] at hcs
  obtain ⟨y0, y1, y2, y3, n, _, hl, h0, h1, h2, h3⟩ := trod_struct4 Try.underlying27 hf
  simp only [lawInt64Cells, stringCells] at h0 h1 h2 h3
  obtain ⟨l⟩ := cs
  match l, hcs with
  | [c0, c1, c2, c3], _ =>
    obtain ⟨s0, e0, _⟩ := DataW.trod_int Try.underlying2 h0
    obtain ⟨s1, e1, _, z1⟩ := DataW.trod_string Try.underlying9 h1
    obtain ⟨s2, e2, _, z2⟩ := DataW.trod_string Try.underlying9 h2
    obtain ⟨s3, e3, _, z3⟩ := DataW.trod_string Try.underlying9 h3
    have e0' : c0 = .int .i64 s0 := by simpa [Value.cells] using e0
    have e1' : c1 = .string s1 := by simpa [Value.cells] using e1
    have e2' : c2 = .string s2 := by simpa [Value.cells] using e2
    have e3' : c3 = .string s3 := by simpa [Value.cells] using e3
    subst e0' e1' e2' e3'
    exact ⟨(s0, s1, s2, s3), rfl, z1, z2, z3⟩
end Go.Proofs.Ytaiehccpefjbfaa
