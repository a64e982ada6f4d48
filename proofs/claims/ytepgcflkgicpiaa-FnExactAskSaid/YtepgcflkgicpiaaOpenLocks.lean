/-
  Locks and holds that come in as arguments.
-/
import Derived.Test.YtepgcflkgicpiaaOpen
import Derived.Test.YtepgcflkgicpiaaOpenPage
import Derived.Test.YtepgcflkgicpiaaLockMem
import Derived.Deep.Strs
import Derived.ChangeSlices
namespace Go.Proofs.Ytepgcflkgicpiaa
open Go.ChangeShapes Go.WideShapes Go.ChangeAt Go.RowKit Go.Deep

theorem lawHoldCells : Try.prog.cellsOf 44 = 3 := by kernel_rfl

set_option maxRecDepth 100000 in
theorem open_holds_at {H : Type} {enc : TypeId × Value → H} {W : World} {fuel : Nat} {v : Value} {x : DataW H × List MemPlace}
    (hf : DataW.trod enc Try.prog W 0 (fun _ => true) true fuel 22 [v] = some x) :
    ∃ (A : Option Addr) (c : Nat) (hs : HS), v = .slice A hs.length c ∧ RH W W.heap.size A hs ∧ FitsH hs ∧ hs.length ≤ maxLen := by
  rcases open_slice Try.underlying22 hf with ⟨h0, _⟩ | ⟨a, len, cap, m, n, D, Pl, h0, _, hl, hm, hmm, _, hi⟩
  · simp only [List.cons.injEq, and_true] at h0
    refine ⟨none, 0, [], h0, .inl rfl, fun p hp => by simp at hp, Nat.zero_le _⟩
  · simp only [List.cons.injEq, and_true] at h0
    have hcell : ∀ i, i < len → ∃ p : HD, W.cell? (a.add (i * 3)) = some (.int .i64 p.1) ∧ W.cell? (a.add (i * 3 + 1)) = some (.string p.2.1) ∧ W.cell? (a.add (i * 3 + 2)) = some (.int .i64 p.2.2) ∧ p.2.1.size ≤ maxLen := by
      intro i hlt
      obtain ⟨cs, hc, ht⟩ := hi i (by rw [hmm, if_pos rfl]; omega)
      rw [lawHoldCells] at hc
      obtain ⟨_, hcl, hat⟩ := World.cells?_some hc
      obtain ⟨y0, y1, y2, n', _, _, h1, h2, h3⟩ := trod_struct3 Try.underlying44 ht
      match cs, hcl with
      | [c0, c1, c2], _ =>
        simp only [stringCells, int64Cells] at h1 h2 h3
        obtain ⟨s0, e0, _⟩ := DataW.trod_int Try.underlying2 h1
        obtain ⟨s1, e1, _, z1⟩ := DataW.trod_string Try.underlying9 h2
        obtain ⟨s2, e2, _⟩ := DataW.trod_int Try.underlying2 h3
        simp at e0 e1 e2
        subst e0 e1 e2
        refine ⟨(s0, s1, s2), ?_, ?_, ?_, z1⟩
        · have := hat 0 (by omega)
          simpa [Go.Deep.add_add] using this
        · have := hat 1 (by omega)
          simpa [Go.Deep.add_add] using this
        · have := hat 2 (by omega)
          simpa [Go.Deep.add_add] using this
    obtain ⟨f, hf'⟩ := choose_lt hcell
    refine ⟨some a, cap, (List.range len).map f, by simpa using h0, ?_, ?_, ?_⟩
    · by_cases h0 : len = 0
      · left
        simp [h0]
      · right
        obtain ⟨b, off, spot⟩ := a
        have h00 := (hf' 0 (by omega)).1
        have hspot : spot = none := by simpa [Addr.add] using World.cell?_spot h00
        subst hspot
        refine ⟨b, off, rfl, ?_, fun i p hp => ?_⟩
        · have := World.block_lt_of_cell? W _ h00
          simpa [Addr.add] using this
        · have hlt : i < len := by have := (List.getElem?_eq_some_iff.1 hp).1; simpa using this
          have hp' : f i = p := by simpa [hlt] using hp
          obtain ⟨h1, h2, h3, _⟩ := hf' i hlt
          rw [Addr.add_lit] at h1 h2 h3
          subst hp'
          exact ⟨h1, by rw [Nat.add_assoc]; exact h2, by rw [Nat.add_assoc]; exact h3⟩
    · intro p hp
      obtain ⟨i, hi', rfl⟩ := List.mem_map.1 hp
      exact (hf' i (by simpa using hi')).2.2.2
    · simp
      omega

set_option maxRecDepth 100000 in
theorem open_locks {H : Type} {enc : TypeId × Value → H} {W : World} {base : Nat} {v : Value} {dd : DataW H} {p : List MemPlace}
    (hval : Value.okWide Try.prog W .any base 24 v) (h : DataW.Trod enc Try.prog W 0 (fun _ => true) true 24 v dd p) :
    ∃ (A : Option Addr) (c : Nat) (hs : HS) (K : Option Addr) (d : Nat) (ls : HS), v = .agg #[.slice A hs.length c, .slice K ls.length d] ∧ RH W W.heap.size A hs ∧ FitsH hs ∧ hs.length ≤ maxLen ∧ RH W W.heap.size K ls ∧ FitsH ls ∧ ls.length ≤ maxLen := by
  obtain ⟨cs, rfl, hcs⟩ := okWide_struct Try.underlying24 hval
  obtain ⟨fuel, hf⟩ := h
  have hC : Try.prog.cellsOf 24 = 2 := by kernel_rfl
  have hP : Try.prog.cellsOf 22 = 1 := by kernel_rfl
  rw [hC] at hcs
  obtain ⟨y0, y1, n, _, hl, h0, h1⟩ := trod_struct2 Try.underlying24 hf
  simp only [hP] at h0 h1
  obtain ⟨l⟩ := cs
  match l, hcs with
  | [c0, c1], _ =>
    obtain ⟨A, c, hs, e1, r1, f1, n1⟩ := open_holds_at (v := c0) (by simpa [Value.cells] using h0)
    obtain ⟨K, d, ls, e2, r2, f2, n2⟩ := open_holds_at (v := c1) (by simpa [Value.cells] using h1)
    subst e1 e2
    exact ⟨A, c, hs, K, d, ls, rfl, r1, f1, n1, r2, f2, n2⟩

set_option maxRecDepth 100000 in
theorem open_hold {H : Type} {enc : TypeId × Value → H} {W : World} {base : Nat} {v : Value} {dd : DataW H} {p : List MemPlace}
    (hval : Value.okWide Try.prog W .any base 44 v) (h : DataW.Trod enc Try.prog W 0 (fun _ => true) true 44 v dd p) :
    ∃ x : HD, v = .agg #[.int .i64 x.1, .string x.2.1, .int .i64 x.2.2] ∧ x.2.1.size ≤ maxLen := by
  obtain ⟨cs, rfl, hcs⟩ := okWide_struct Try.underlying44 hval
  obtain ⟨fuel, hf⟩ := h
  rw [lawHoldCells] at hcs
  obtain ⟨y0, y1, y2, n, _, hl, h0, h1, h2⟩ := trod_struct3 Try.underlying44 hf
  simp only [int64Cells, stringCells] at h0 h1 h2
  obtain ⟨l⟩ := cs
  match l, hcs with
  | [c0, c1, c2], _ =>
    obtain ⟨s0, e0, _⟩ := DataW.trod_int Try.underlying2 h0
    obtain ⟨s1, e1, _, z1⟩ := DataW.trod_string Try.underlying9 h1
    obtain ⟨s2, e2, _⟩ := DataW.trod_int Try.underlying2 h2
    have e0' : c0 = .int .i64 s0 := by simpa [Value.cells] using e0
    have e1' : c1 = .string s1 := by simpa [Value.cells] using e1
    have e2' : c2 = .int .i64 s2 := by simpa [Value.cells] using e2
    subst e0' e1' e2'
    exact ⟨(s0, s1, s2), rfl, z1⟩
end Go.Proofs.Ytepgcflkgicpiaa
