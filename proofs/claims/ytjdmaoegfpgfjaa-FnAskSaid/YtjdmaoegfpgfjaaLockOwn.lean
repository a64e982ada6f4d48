/-
  Rows of holds of the call's own: append.
-/
import Derived.Test.YtjdmaoegfpgfjaaLockKit
import Derived.Test.YtjdmaoegfpgfjaaLockMem
import Derived.Maps.AppendAt
namespace Go.Proofs.Ytjdmaoegfpgfjaa
open Go.RowKit

theorem OwnH.size {w : World} {B c : Nat} {A : Option Addr} {hs : HS} (h : OwnH w B A c hs) : ∀ k, Value.ownBlock (.slice A hs.length c) = some k → B ≤ k ∧ k < w.heap.size := World.ownsRow.lt h
theorem OwnH.made {w : World} {B : Nat} (hB : B ≤ w.heap.size) (cs : Array Value) (c : Nat) (hs : cs.size = c * 3) (hc : c ≤ maxLen) : OwnH (w.alloc (.cells cs 49)) B (some ⟨w.heap.size, 0, none⟩) c [] :=
  World.ownsRow_made w cs c hB hc hs
theorem OwnH.nil_ (w : World) (B : Nat) : OwnH w B none 0 [] := World.ownsRow_nil w B _ _
/-- It is as it was, where its block is. -/
theorem OwnH.stay {w w' : World} {B c : Nat} {A : Option Addr} {hs : HS} (h : OwnH w B A c hs) (hk : ∀ k, Value.ownBlock (.slice A hs.length c) = some k → w'.heap[k]? = w.heap[k]?) : OwnH w' B A c hs := by
  obtain ⟨h1, h2⟩ := h
  refine ⟨h1, ?_⟩
  rcases h2 with h2 | ⟨g, cap, cur, hv, hg, hh, r⟩
  · exact Or.inl h2
  · rw [hv] at hk
    exact Or.inr ⟨g, cap, cur, hv, hg, by rw [hk g rfl]; exact hh, r⟩
theorem OwnH.keepG {w w' : World} {B c : Nat} {A : Option Addr} {hs : HS} {row : Option Nat} (h : OwnH w B A c hs) (hg : w.grownBy w' row) (hne : ∀ k, Value.ownBlock (.slice A hs.length c) = some k → some k ≠ row) : OwnH w' B A c hs :=
  h.stay fun k hk => hg.block k (h.size k hk).2 (hne k hk)
/-- Rows of two types lie in two blocks. -/
theorem own_ne {w : World} {B B' s s' n n' : Nat} {e e' : TypeId} {v v' : Value} {xs xs' : List Value} (hne : e ≠ e') (h : w.ownsRow B e s v n xs) (h' : w.ownsRow B' e' s' v' n' xs') : ∀ k, v.ownBlock = some k → v'.ownBlock ≠ some k := by
  intro k h1 h2
  rcases h.2 with ⟨hv, _⟩ | ⟨g, cap, cur, hv, _, hh, _⟩
  · subst hv; cases h1
  rcases h'.2 with ⟨hv', _⟩ | ⟨g', cap', cur', hv', _, hh', _⟩
  · subst hv'; cases h2
  subst hv hv'
  injection h1 with h1
  injection h2 with h2
  subst h1
  have h2' : g' = g := h2
  subst h2'
  rw [hh] at hh'
  injection hh' with hh'
  injection hh' with _ hh'
  exact hne hh'

/-- What an append leaves. -/
structure AppH (w : World) (B : Nat) (A0 : Option Addr) (n0 c0 : Nat) (rs : HS) (A' : Option Addr) (c' : Nat) (w' : World) : Prop where
  own : OwnH w' B A' c' rs
  grown : w.grownBy w' (Value.ownBlock (.slice A0 n0 c0))
  at_ : Value.ownBlock (.slice A' rs.length c') = Value.ownBlock (.slice A0 n0 c0) ∨ Value.ownBlock (.slice A' rs.length c') = some w.heap.size
theorem AppH.below {w w' : World} {B n0 c0 c' : Nat} {A0 A' : Option Addr} {qs rs : HS} (h : AppH w B A0 n0 c0 rs A' c' w') (ho : OwnH w B A0 c0 qs) (hn : n0 = qs.length) (hB : B ≤ w.heap.size) : Below B w w' := by
  subst hn
  exact (Below.refl _ _).grown h.grown hB (fun k hk => (ho.size k hk).1)

theorem run_append_rh {P : Program} (w : World) (t ty : TypeId) (i : TypeInfo) (ht : P.underlying t = some (.slice 49)) (hi : P.info? 49 = some i)
    (hz : i.zero = some (.agg #[.int .i64 0, .string ⟨#[]⟩, .int .i64 0])) (hsize : i.size = 3) (hby : i.bytes = 32)
    (B : Nat) (A0 : Option Addr) (c0 : Nat) (qs : HS) (hown : OwnH w B A0 c0 qs) (B' : Nat) (A : Option Addr) (c : Nat) (ps : HS) (hr : RH w B' A ps)
    (hlen : qs.length + ps.length ≤ 4000000) (hbase : B ≤ w.heap.size) :
    ∃ A' c' w', (Builtin.append_ #[t, t] ty #[.slice A0 qs.length c0, .slice A ps.length c]).run P w = .ok (.slice A' (qs ++ ps).length c') w' ∧ AppH w B A0 qs.length c0 (qs ++ ps) A' c' w' := by
  rcases A with _ | ad
  · have h0 : ps = [] := by
      rcases hr with h | ⟨b, off, e, _⟩
      · exact h
      · cases e
    subst h0
    refine ⟨A0, c0, w, ?_, by simpa using hown, ⟨rfl, rfl, rfl, Nat.le_refl _, fun _ _ _ => rfl⟩, .inl (by simp)⟩
    rcases hown.2 with ⟨hv, hn⟩ | ⟨g, cap, cur, hv, _, _, hnc, _⟩
    · injection hv with e1 e2 e3
      subst e1 e3
      simp [Builtin.append_, run_underlying ht, sizeOf, typeInfo, hi, Builtin.lenOf, Builtin.firstCells, hn]
    · injection hv with e1 e2 e3
      subst e1 e3
      simp [Builtin.append_, run_underlying ht, sizeOf, typeInfo, hi, Builtin.lenOf, Builtin.firstCells, hnc, storeCells]
  · have hcells : ∀ j u, (hcells ps)[j]? = some u → w.cell? (ad.add j) = some u := by
      intro j u hu
      rcases hr with rfl | ⟨b, off, e, hb, hc⟩
      · simp [hcells] at hu
      · injection e with e
        subst e
        rw [Addr.add_lit]
        have hj : j < ps.length * 3 := by
          have := (List.getElem?_eq_some_iff.1 hu).1
          rwa [hcells_length] at this
        have hl : j / 3 < ps.length := by omega
        have hp := List.getElem?_eq_getElem hl
        have hd : j = (j / 3) * 3 ∨ j = (j / 3) * 3 + 1 ∨ j = (j / 3) * 3 + 2 := by omega
        obtain ⟨c0, c1, c2⟩ := hc _ _ hp
        rcases hd with hd | hd | hd
        · have hk := hcells_txn ps _ _ hp
          rw [← hd, hu] at hk
          rw [Option.some.inj hk]
          rwa [← hd] at c0
        · have hk := hcells_key ps _ _ hp
          rw [← hd, hu] at hk
          rw [Option.some.inj hk]
          rw [Nat.add_assoc] at c1
          rwa [← hd] at c1
        · have hk := hcells_mode ps _ _ hp
          rw [← hd, hu] at hk
          rw [Option.some.inj hk]
          rw [Nat.add_assoc] at c2
          rwa [← hd] at c2
    obtain ⟨v', w', hrun, h2, h3, _, h5⟩ := run_append_own_at (P := P) w B t ty 49 i _ 3 32 ht hi hz hsize hby rfl (by omega) (.slice A0 qs.length c0) qs.length (Go.Proofs.Ytjdmaoegfpgfjaa.hcells qs) hown ad ps.length c (Go.Proofs.Ytjdmaoegfpgfjaa.hcells ps) (hcells_length ps) hcells (hcells_one ps) (by unfold maxLen; omega) (by omega) hbase
    rw [← hcells_append] at h2
    rcases h2.2 with ⟨rfl, hn⟩ | ⟨g, cap, cur, rfl, r⟩
    · have e1 : qs = [] := List.eq_nil_of_length_eq_zero (by omega)
      have e2 : ps = [] := List.eq_nil_of_length_eq_zero (by omega)
      subst e1 e2
      exact ⟨none, 0, w', hrun, h2, h3, h5⟩
    · rw [← List.length_append] at h2 hrun h5
      exact ⟨_, _, w', hrun, h2, h3, h5⟩

theorem wpList_append_rh {P : Program} (w : World) {ops : Array Oper} {rest : List Oper} {o : Oper} {a : Act} {Q : Exit → Act → World → Prop} (hgd : o.guard = none) (s x : Operand) (t : TypeId)
    (ho : o.op = .call { callee := .builtin .append, args := #[s, x], argTypes := #[t, t] })
    (i : TypeInfo) (ht : P.underlying t = some (.slice 49)) (hi : P.info? 49 = some i)
    (hz : i.zero = some (.agg #[.int .i64 0, .string ⟨#[]⟩, .int .i64 0])) (hsize : i.size = 3) (hby : i.bytes = 32)
    (B : Nat) (A0 : Option Addr) (n0 c0 : Nat) (qs : HS) (hs : a.eval s = .slice A0 n0 c0) (hn0 : n0 = qs.length) (hown : OwnH w B A0 c0 qs)
    (B' : Nat) (A : Option Addr) (n c : Nat) (ps : HS) (hx : a.eval x = .slice A n c) (hn : n = ps.length) (hr : RH w B' A ps)
    (hlen : qs.length + ps.length ≤ 4000000) (hbase : B ≤ w.heap.size)
    (h : ∀ A' n' c' w', n' = (qs ++ ps).length → AppH w B A0 n0 c0 (qs ++ ps) A' c' w' → wpList P ops Q rest (a.put o.dst (.slice A' n' c')) w') : wpList P ops Q (o :: rest) a w := by
  subst hn0 hn
  refine wpList_plain hgd fun K hK => ?_
  obtain ⟨A', c', w', hrun, h2⟩ := run_append_rh (P := P) w t o.type i ht hi hz hsize hby B A0 c0 qs hown B' A c ps hr hlen hbase
  unfold Oper.wp execOp
  simp only [ho, resolve, invoke, builtin, Sem.run_bind, Sem.run_pure, Result.andThen_ok, List.map_toArray, List.map_cons, List.map_nil, hs, hx, hrun]
  exact hK _ _ (h A' _ c' w' rfl h2)
theorem step_append_rh {P : Program} (w : World) {ops : Array Oper} {o : Oper} {a : Act} {K : Act → World → Prop} {Q : Exit → Act → World → Prop} {E : Prop} (hgd : o.guard = none) (s x : Operand) (t : TypeId)
    (ho : o.op = .call { callee := .builtin .append, args := #[s, x], argTypes := #[t, t] })
    (i : TypeInfo) (ht : P.underlying t = some (.slice 49)) (hi : P.info? 49 = some i)
    (hz : i.zero = some (.agg #[.int .i64 0, .string ⟨#[]⟩, .int .i64 0])) (hsize : i.size = 3) (hby : i.bytes = 32)
    (B : Nat) (A0 : Option Addr) (n0 c0 : Nat) (qs : HS) (hs : a.eval s = .slice A0 n0 c0) (hn0 : n0 = qs.length) (hown : OwnH w B A0 c0 qs)
    (B' : Nat) (A : Option Addr) (n c : Nat) (ps : HS) (hx : a.eval x = .slice A n c) (hn : n = ps.length) (hr : RH w B' A ps)
    (hlen : qs.length + ps.length ≤ 4000000) (hbase : B ≤ w.heap.size)
    (h : ∀ A' n' c' w', n' = (qs ++ ps).length → AppH w B A0 n0 c0 (qs ++ ps) A' c' w' → K (a.put o.dst (.slice A' n' c')) w') :
    if Region.wanted o (yielded ops a.tmps) = true then Oper.wp P o a w K Q else E := by
  have hw : Region.wanted o (yielded ops a.tmps) = true := by simp [Region.wanted, hgd]
  rw [if_pos hw]
  subst hn0 hn
  obtain ⟨A', c', w', hrun, h2⟩ := run_append_rh (P := P) w t o.type i ht hi hz hsize hby B A0 c0 qs hown B' A c ps hr hlen hbase
  unfold Oper.wp execOp
  simp only [ho, resolve, invoke, builtin, Sem.run_bind, Sem.run_pure, Result.andThen_ok, List.map_toArray, List.map_cons, List.map_nil, hs, hx, hrun]
  exact h A' _ c' w' rfl h2
/-- One hold in a block. -/
theorem RH.new (w : World) (x : HD) (T : TypeId) : RH (w.alloc (.cells #[.int .i64 x.1, .string x.2.1, .int .i64 x.2.2] T)) (w.heap.size + 1) (some ⟨w.heap.size, 0, none⟩) [x] := by
  refine .inr ⟨w.heap.size, 0, rfl, by omega, fun i q hq => ?_⟩
  have hb : (w.alloc (.cells #[.int .i64 x.1, .string x.2.1, .int .i64 x.2.2] T)).heap[w.heap.size]? = some (.cells #[.int .i64 x.1, .string x.2.1, .int .i64 x.2.2] T (0, 0)) := heap_alloc_new w _
  cases i with
  | zero =>
    simp only [List.getElem?_cons_zero, Option.some.injEq] at hq
    subst hq
    refine ⟨?_, ?_, ?_⟩
    · rw [cell_of_row _ _ _ _ _ _ hb]; rfl
    · rw [cell_of_row _ _ _ _ _ _ hb]; rfl
    · rw [cell_of_row _ _ _ _ _ _ hb]; rfl
  | succ i => simp at hq
/-- A part of a row, from k on. -/
theorem RH.drop {w : World} {B : Nat} {b off : Nat} {hs : HS} (h : RH w B (some ⟨b, off, none⟩) hs) (k : Nat) : RH w B (some ⟨b, off + k * 3, none⟩) (hs.drop k) := by
  rcases h with rfl | ⟨b', off', e, hb, hc⟩
  · exact .inl (by simp)
  · injection e with e
    injection e with e1 e2
    subst e1 e2
    refine .inr ⟨b, off + k * 3, rfl, hb, fun i p hp => ?_⟩
    rw [List.getElem?_drop] at hp
    have := hc (k + i) p hp
    rw [show off + k * 3 + i * 3 = off + (k + i) * 3 by omega]
    exact this
end Go.Proofs.Ytjdmaoegfpgfjaa
