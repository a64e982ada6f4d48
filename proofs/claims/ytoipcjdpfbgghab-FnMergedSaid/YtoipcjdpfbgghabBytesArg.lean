/-
  A slice of bytes that came in, opened.
-/
import Derived.Test.YtoipcjdpfbgghabRd
import Derived.Test.YtoipcjdpfbgghabPost
import Derived.Deep.Slices
import Derived.ChangeSame
namespace Go.Proofs.Ytoipcjdpfbgghab
open Go.ChangeShapes Go.WideShapes Go.ChangeAt Go.RowKit Go.Deep

theorem byteCells1 : Try.prog.cellsOf 5 = 1 := by kernel_rfl

set_option maxRecDepth 100000 in
theorem open_code {H : Type} {enc : TypeId × Value → H} {W : World} {base : Nat} {v : Value} {d : DataW H} {p : List MemPlace}
    (hval : Value.okWide Try.prog W .any base 22 v) (h : DataW.Trod enc Try.prog W 0 (fun _ => true) true 22 v d p) :
    ∃ (A : Option Addr) (n c : Nat), v = .slice A n c ∧ CB W W.heap.size A n ∧ n ≤ maxLen := by
  obtain ⟨a0, len0, cap0, rfl⟩ := okWide_slice Try.underlying22 hval
  obtain ⟨fuel, hf⟩ := h
  rcases open_slice Try.underlying22 (cs := [.slice a0 len0 cap0]) (by simpa [Value.cells] using hf) with ⟨h0, _⟩ | ⟨a, len, cap, m, n, D, Pl, h0, _, hl, hm, hmm, _, hi⟩
  · simp only [List.cons.injEq, and_true] at h0
    exact ⟨none, 0, 0, h0, .inl rfl, Nat.zero_le _⟩
  · simp only [List.cons.injEq, and_true] at h0
    refine ⟨some a, len, cap, h0, ?_, Nat.le_trans hl hm⟩
    by_cases hz : len = 0
    · exact .inl hz
    · right
      have hcell : ∀ i, i < len → ∃ u : Nat, u ≤ 255 ∧ W.cell? (a.add i) = some (.int .u8 (u : Int)) := by
        intro i hlt
        obtain ⟨cs, hc, ht⟩ := hi i (by rw [hmm, if_pos rfl]; omega)
        rw [byteCells1] at hc
        obtain ⟨_, hcl, hat⟩ := World.cells?_some hc
        match cs, hcl with
        | [c0], _ =>
          obtain ⟨z, e0, _, wz⟩ := DataW.trod_int Try.underlying5 ht
          simp at e0
          subst e0
          have hb : 0 ≤ z ∧ z ≤ 255 := by simpa [Lit.wf, IntKind.min, IntKind.max, IntKind.signed, IntKind.bits] using wz
          refine ⟨z.toNat, by omega, ?_⟩
          have := hat 0 (by omega)
          rw [Int.toNat_of_nonneg hb.1]
          simpa [Go.Deep.add_add] using this
      obtain ⟨b, off, spot⟩ := a
      obtain ⟨u0, _, h00⟩ := hcell 0 (by omega)
      have hspot : spot = none := by simpa [Addr.add] using World.cell?_spot h00
      subst hspot
      refine ⟨b, off, rfl, ?_, fun i hi' => ?_⟩
      · have := World.block_lt_of_cell? W _ h00
        simpa [Addr.add] using this
      · obtain ⟨u, h1, h2⟩ := hcell i hi'
        rw [Addr.add_lit] at h2
        exact ⟨u, h1, h2⟩
end Go.Proofs.Ytoipcjdpfbgghab
