/-
  append to a slice of pairs of the call's own.
-/
import Derived.Test.YtaiehccpefjbfaaOwn
import Derived.Maps.AppendAt
namespace Go.Proofs.Ytaiehccpefjbfaa
open Go.RowKit

theorem ret_slice {A : Option Addr} {n m c : Nat} (h : n = m) : Ending.returned (.slice A n c) = .returned (.slice A m c) := by rw [h]

theorem OwnP.size {w : World} {B c : Nat} {A : Option Addr} {ps : PS} (h : OwnP w B A c ps) : ∀ k, Value.ownBlock (.slice A ps.length c) = some k → B ≤ k ∧ k < w.heap.size := World.ownsRow.lt h

theorem OwnP.made {w : World} {B : Nat} (hB : B ≤ w.heap.size) (cs : Array Value) (c : Nat) (hs : cs.size = c * 2) (hc : c ≤ maxLen) : OwnP (w.alloc (.cells cs 172)) B (some ⟨w.heap.size, 0, none⟩) c [] :=
  World.ownsRow_made w cs c hB hc hs
theorem OwnP.nil_ (w : World) (B : Nat) : OwnP w B none 0 [] := World.ownsRow_nil w B _ _

theorem RP.new (w : World) (p : BB) (T : TypeId) : RP (w.alloc (.cells #[.string p.1, .string p.2] T)) (w.heap.size + 1) (some ⟨w.heap.size, 0, none⟩) [p] := by
  refine .inr ⟨w.heap.size, 0, rfl, by omega, fun i q hq => ?_⟩
  have hb : (w.alloc (.cells #[.string p.1, .string p.2] T)).heap[w.heap.size]? = some (.cells #[.string p.1, .string p.2] T (0, 0)) := heap_alloc_new w _
  cases i with
  | zero =>
    simp only [List.getElem?_cons_zero, Option.some.injEq] at hq
    subst hq
    constructor
    · rw [cell_of_row _ _ _ _ _ _ hb]; rfl
    · rw [cell_of_row _ _ _ _ _ _ hb]; rfl
  | succ i => simp at hq

theorem run_append_rp {P : Program} (w : World) (t ty : TypeId) (i : TypeInfo) (ht : P.underlying t = some (.slice 172)) (hi : P.info? 172 = some i)
    (hz : i.zero = some (.agg #[.string ⟨#[]⟩, .string ⟨#[]⟩])) (hsize : i.size = 2) (hby : i.bytes = 32)
    (B : Nat) (A0 : Option Addr) (c0 : Nat) (qs : PS) (hown : OwnP w B A0 c0 qs) (B' : Nat) (A : Option Addr) (c : Nat) (ps : PS) (hr : RP w B' A ps)
    (hlen : qs.length + ps.length ≤ 4000000) (hbase : B ≤ w.heap.size) :
    ∃ A' c' w', (Builtin.append_ #[t, t] ty #[.slice A0 qs.length c0, .slice A ps.length c]).run P w = .ok (.slice A' (qs ++ ps).length c') w' ∧ OwnP w' B A' c' (qs ++ ps) ∧ Below B w w' := by
  rcases A with _ | ad
  · have h0 : ps = [] := by
      rcases hr with h | ⟨b, off, e, _⟩
      · exact h
      · cases e
    subst h0
    refine ⟨A0, c0, w, ?_, by simpa using hown, Below.refl _ _⟩
    rcases hown.2 with ⟨hv, hn⟩ | ⟨g, cap, cur, hv, _, _, hnc, _⟩
    · injection hv with e1 e2 e3
      subst e1 e3
      simp [Builtin.append_, run_underlying ht, sizeOf, typeInfo, hi, Builtin.lenOf, Builtin.firstCells, hn]
    · injection hv with e1 e2 e3
      subst e1 e3
      simp [Builtin.append_, run_underlying ht, sizeOf, typeInfo, hi, Builtin.lenOf, Builtin.firstCells, hnc, storeCells]
  · have hcells : ∀ j u, (pcells ps)[j]? = some u → w.cell? (ad.add j) = some u := by
      intro j u hu
      rcases hr with rfl | ⟨b, off, e, hb, hc⟩
      · simp [pcells] at hu
      · injection e with e
        subst e
        rw [Addr.add_lit]
        have hj : j < ps.length * 2 := by
          have := (List.getElem?_eq_some_iff.1 hu).1
          rwa [pcells_length] at this
        have hd : j = (j / 2) * 2 ∨ j = (j / 2) * 2 + 1 := by omega
        have hl : j / 2 < ps.length := by omega
        have hp := List.getElem?_eq_getElem hl
        rcases hd with hd | hd
        · have hk := pcells_key ps _ _ hp
          rw [← hd, hu] at hk
          rw [Option.some.inj hk]
          have := (hc _ _ hp).1
          rwa [← hd] at this
        · have hk := pcells_val ps _ _ hp
          rw [← hd, hu] at hk
          rw [Option.some.inj hk]
          have := (hc _ _ hp).2
          rw [Nat.add_assoc] at this
          rwa [← hd] at this
    obtain ⟨v', w', hrun, h2, h3, _, _⟩ := run_append_own_at (P := P) w B t ty 172 i _ 2 32 ht hi hz hsize hby rfl (by omega) (.slice A0 qs.length c0) qs.length (pcells qs) hown ad ps.length c (pcells ps) (pcells_length ps) hcells (pcells_one ps) (by unfold maxLen; omega) (by omega) hbase
    have hb : Below B w w' := (Below.refl _ _).grown h3 hbase (fun k hk => (hown.size k hk).1)
    rw [← pcells_append] at h2
    rcases h2.2 with ⟨rfl, hn⟩ | ⟨g, cap, cur, rfl, r⟩
    · have e1 : qs = [] := List.eq_nil_of_length_eq_zero (by omega)
      have e2 : ps = [] := List.eq_nil_of_length_eq_zero (by omega)
      subst e1 e2
      exact ⟨none, 0, w', hrun, h2, hb⟩
    · rw [← List.length_append] at h2 hrun
      exact ⟨_, _, w', hrun, h2, hb⟩

theorem wpList_append_rp {P : Program} (w : World) {ops : Array Oper} {rest : List Oper} {o : Oper} {a : Act} {Q : Exit → Act → World → Prop} (hgd : o.guard = none) (s x : Operand) (t : TypeId)
    (ho : o.op = .call { callee := .builtin .append, args := #[s, x], argTypes := #[t, t] })
    (i : TypeInfo) (ht : P.underlying t = some (.slice 172)) (hi : P.info? 172 = some i)
    (hz : i.zero = some (.agg #[.string ⟨#[]⟩, .string ⟨#[]⟩])) (hsize : i.size = 2) (hby : i.bytes = 32)
    (B : Nat) (A0 : Option Addr) (n0 c0 : Nat) (qs : PS) (hs : a.eval s = .slice A0 n0 c0) (hn0 : n0 = qs.length) (hown : OwnP w B A0 c0 qs)
    (B' : Nat) (A : Option Addr) (n c : Nat) (ps : PS) (hx : a.eval x = .slice A n c) (hn : n = ps.length) (hr : RP w B' A ps)
    (hlen : qs.length + ps.length ≤ 4000000) (hbase : B ≤ w.heap.size)
    (h : ∀ A' n' c' w', n' = (qs ++ ps).length → OwnP w' B A' c' (qs ++ ps) → Below B w w' → wpList P ops Q rest (a.put o.dst (.slice A' n' c')) w') : wpList P ops Q (o :: rest) a w := by
  subst hn0 hn
  refine wpList_plain hgd fun K hK => ?_
  obtain ⟨A', c', w', hrun, h2, h3⟩ := run_append_rp (P := P) w t o.type i ht hi hz hsize hby B A0 c0 qs hown B' A c ps hr hlen hbase
  unfold Oper.wp execOp
  simp only [ho, resolve, invoke, builtin, Sem.run_bind, Sem.run_pure, Result.andThen_ok, List.map_toArray, List.map_cons, List.map_nil, hs, hx, hrun]
  exact hK _ _ (h A' _ c' w' rfl h2 h3)
end Go.Proofs.Ytaiehccpefjbfaa
