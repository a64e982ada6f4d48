/-
  What the exact laws of changes go through: rows of their own, append, sizes, copies, comparisons.
-/
import Derived.Test.YtaiehccpefjbfaaToPair
import Derived.Test.YtaiehccpefjbfaaRow3
import Derived.Test.YtaiehccpefjbfaaChg
import Derived.Maps.AppendAt
namespace Go.Proofs.Ytaiehccpefjbfaa
open Go.RowKit

theorem chgInfo : (Try.prog.info? 129).map (fun i => (i.zero, i.size, i.bytes)) = some (some (.agg #[.string ⟨#[]⟩, .string ⟨#[]⟩, .bool false]), 3, 40) := by kernel_rfl

/-- A slice of changes of the call's own. -/
def OwnC (w : World) (B : Nat) (A : Option Addr) (c : Nat) (hs : CS) : Prop := w.ownsRow B 129 3 (.slice A hs.length c) hs.length (ccells hs)
theorem OwnC.rh {w : World} {B c : Nat} {A : Option Addr} {hs : CS} (h : OwnC w B A c hs) : RC w w.heap.size A hs := RC.of_own h
theorem OwnC.below {w w' : World} {B c : Nat} {A : Option Addr} {hs : CS} (h : OwnC w B A c hs) (hb : Below w.heap.size w w') : OwnC w' B A c hs := h.kept (below_grown hb) (by
  cases hv : Value.ownBlock (.slice A hs.length c) <;> simp)
theorem OwnC.mono {w : World} {B B' c : Nat} {A : Option Addr} {hs : CS} (h : OwnC w B A c hs) (hB : B' ≤ B) : OwnC w B' A c hs := by
  refine ⟨h.1, ?_⟩
  rcases h.2 with hn | ⟨g, cap, cur, hv, hb, rest⟩
  · exact .inl hn
  · exact .inr ⟨g, cap, cur, hv, by omega, rest⟩
theorem OwnC.cap {w : World} {B : Nat} {K : Option Addr} {d : Nat} {ks : CS} (h : OwnC w B K d ks) : ks.length ≤ d ∧ d ≤ maxLen := by
  rcases h.2 with ⟨hv, hn⟩ | ⟨g, cap, cur, hv, _, _, h1, h2, _⟩
  · injection hv with _ _ hd
    exact ⟨by omega, by omega⟩
  · injection hv with _ _ hd
    exact ⟨by omega, by omega⟩
def MadeC (w : World) (B : Nat) (hs : CS) (e : Ending) (w' : World) : Prop := ∃ A c, e = .returned (.slice A hs.length c) ∧ OwnC w' B A c hs ∧ Below w.heap.size w w'

theorem OwnC.size {w : World} {B c : Nat} {A : Option Addr} {hs : CS} (h : OwnC w B A c hs) : ∀ k, Value.ownBlock (.slice A hs.length c) = some k → B ≤ k ∧ k < w.heap.size := World.ownsRow.lt h
theorem OwnC.made {w : World} {B : Nat} (hB : B ≤ w.heap.size) (cs : Array Value) (c : Nat) (hs : cs.size = c * 3) (hc : c ≤ maxLen) : OwnC (w.alloc (.cells cs 129)) B (some ⟨w.heap.size, 0, none⟩) c [] :=
  World.ownsRow_made w cs c hB hc hs
theorem OwnC.nil_ (w : World) (B : Nat) : OwnC w B none 0 [] := World.ownsRow_nil w B _ _
/-- It is as it was, where its block is. -/
theorem OwnC.stay {w w' : World} {B c : Nat} {A : Option Addr} {hs : CS} (h : OwnC w B A c hs) (hk : ∀ k, Value.ownBlock (.slice A hs.length c) = some k → w'.heap[k]? = w.heap[k]?) : OwnC w' B A c hs := by
  obtain ⟨h1, h2⟩ := h
  refine ⟨h1, ?_⟩
  rcases h2 with h2 | ⟨g, cap, cur, hv, hg, hh, r⟩
  · exact Or.inl h2
  · rw [hv] at hk
    exact Or.inr ⟨g, cap, cur, hv, hg, by rw [hk g rfl]; exact hh, r⟩
theorem OwnC.keepG {w w' : World} {B c : Nat} {A : Option Addr} {hs : CS} {row : Option Nat} (h : OwnC w B A c hs) (hg : w.grownBy w' row) (hne : ∀ k, Value.ownBlock (.slice A hs.length c) = some k → some k ≠ row) : OwnC w' B A c hs :=
  h.stay fun k hk => hg.block k (h.size k hk).2 (hne k hk)
/-- What an append leaves. -/
structure AppC (w : World) (B : Nat) (A0 : Option Addr) (n0 c0 : Nat) (rs : CS) (A' : Option Addr) (c' : Nat) (w' : World) : Prop where
  own : OwnC w' B A' c' rs
  grown : w.grownBy w' (Value.ownBlock (.slice A0 n0 c0))
  at_ : Value.ownBlock (.slice A' rs.length c') = Value.ownBlock (.slice A0 n0 c0) ∨ Value.ownBlock (.slice A' rs.length c') = some w.heap.size
theorem AppC.below {w w' : World} {B n0 c0 c' : Nat} {A0 A' : Option Addr} {qs rs : CS} (h : AppC w B A0 n0 c0 rs A' c' w') (ho : OwnC w B A0 c0 qs) (hn : n0 = qs.length) (hB : B ≤ w.heap.size) : Below B w w' := by
  subst hn
  exact (Below.refl _ _).grown h.grown hB (fun k hk => (ho.size k hk).1)

theorem run_append_rc {P : Program} (w : World) (t ty : TypeId) (i : TypeInfo) (ht : P.underlying t = some (.slice 129)) (hi : P.info? 129 = some i)
    (hz : i.zero = some (.agg #[.string ⟨#[]⟩, .string ⟨#[]⟩, .bool false])) (hsize : i.size = 3) (hby : i.bytes = 40)
    (B : Nat) (A0 : Option Addr) (c0 : Nat) (qs : CS) (hown : OwnC w B A0 c0 qs) (B' : Nat) (A : Option Addr) (c : Nat) (ps : CS) (hr : RC w B' A ps)
    (hlen : qs.length + ps.length ≤ 4000000) (hbase : B ≤ w.heap.size) :
    ∃ A' c' w', (Builtin.append_ #[t, t] ty #[.slice A0 qs.length c0, .slice A ps.length c]).run P w = .ok (.slice A' (qs ++ ps).length c') w' ∧ AppC w B A0 qs.length c0 (qs ++ ps) A' c' w' := by
  rcases A with _ | ad
  · have h0 : ps = [] := by
      rcases hr with h | ⟨b, off, e, _⟩
      · exact h
      · cases e
    subst h0
    refine ⟨A0, c0, w, ?_, by simpa using hown, ⟨rfl, rfl, rfl, Nat.le_refl _, fun _ _ _ => rfl⟩, .inl (by simp)⟩
    rcases hown.2 with ⟨hv, hn⟩ | ⟨g, cap, cur, hv, _, _, hnc, _⟩
    · injection hv with e1 e2 e3
      subst e1 e3
      simp [Builtin.append_, run_underlying ht, sizeOf, typeInfo, hi, Builtin.lenOf, Builtin.firstCells, hn]
    · injection hv with e1 e2 e3
      subst e1 e3
      simp [Builtin.append_, run_underlying ht, sizeOf, typeInfo, hi, Builtin.lenOf, Builtin.firstCells, hnc, storeCells]
  · have ccells : ∀ j u, (ccells ps)[j]? = some u → w.cell? (ad.add j) = some u := by
      intro j u hu
      rcases hr with rfl | ⟨b, off, e, hb, hc⟩
      · simp [ccells] at hu
      · injection e with e
        subst e
        rw [Addr.add_lit]
        have hj : j < ps.length * 3 := by
          have := (List.getElem?_eq_some_iff.1 hu).1
          rwa [ccells_length] at this
        have hl : j / 3 < ps.length := by omega
        have hp := List.getElem?_eq_getElem hl
        have hd : j = (j / 3) * 3 ∨ j = (j / 3) * 3 + 1 ∨ j = (j / 3) * 3 + 2 := by omega
        obtain ⟨c0, c1, c2⟩ := hc _ _ hp
        rcases hd with hd | hd | hd
        · have hk := ccells_key ps _ _ hp
          rw [← hd, hu] at hk
          rw [Option.some.inj hk]
          rwa [← hd] at c0
        · have hk := ccells_val ps _ _ hp
          rw [← hd, hu] at hk
          rw [Option.some.inj hk]
          rw [Nat.add_assoc] at c1
          rwa [← hd] at c1
        · have hk := ccells_gone ps _ _ hp
          rw [← hd, hu] at hk
          rw [Option.some.inj hk]
          rw [Nat.add_assoc] at c2
          rwa [← hd] at c2
    obtain ⟨v', w', hrun, h2, h3, _, h5⟩ := run_append_own_at (P := P) w B t ty 129 i _ 3 40 ht hi hz hsize hby rfl (by omega) (.slice A0 qs.length c0) qs.length (Go.Proofs.Ytaiehccpefjbfaa.ccells qs) hown ad ps.length c (Go.Proofs.Ytaiehccpefjbfaa.ccells ps) (ccells_length ps) ccells (ccells_one ps) (by unfold maxLen; omega) (by omega) hbase
    rw [← ccells_append] at h2
    rcases h2.2 with ⟨rfl, hn⟩ | ⟨g, cap, cur, rfl, r⟩
    · have e1 : qs = [] := List.eq_nil_of_length_eq_zero (by omega)
      have e2 : ps = [] := List.eq_nil_of_length_eq_zero (by omega)
      subst e1 e2
      exact ⟨none, 0, w', hrun, h2, h3, h5⟩
    · rw [← List.length_append] at h2 hrun h5
      exact ⟨_, _, w', hrun, h2, h3, h5⟩

theorem wpList_append_rc {P : Program} (w : World) {ops : Array Oper} {rest : List Oper} {o : Oper} {a : Act} {Q : Exit → Act → World → Prop} (hgd : o.guard = none) (s x : Operand) (t : TypeId)
    (ho : o.op = .call { callee := .builtin .append, args := #[s, x], argTypes := #[t, t] })
    (i : TypeInfo) (ht : P.underlying t = some (.slice 129)) (hi : P.info? 129 = some i)
    (hz : i.zero = some (.agg #[.string ⟨#[]⟩, .string ⟨#[]⟩, .bool false])) (hsize : i.size = 3) (hby : i.bytes = 40)
    (B : Nat) (A0 : Option Addr) (n0 c0 : Nat) (qs : CS) (hs : a.eval s = .slice A0 n0 c0) (hn0 : n0 = qs.length) (hown : OwnC w B A0 c0 qs)
    (B' : Nat) (A : Option Addr) (n c : Nat) (ps : CS) (hx : a.eval x = .slice A n c) (hn : n = ps.length) (hr : RC w B' A ps)
    (hlen : qs.length + ps.length ≤ 4000000) (hbase : B ≤ w.heap.size)
    (h : ∀ A' n' c' w', n' = (qs ++ ps).length → AppC w B A0 n0 c0 (qs ++ ps) A' c' w' → wpList P ops Q rest (a.put o.dst (.slice A' n' c')) w') : wpList P ops Q (o :: rest) a w := by
  subst hn0 hn
  refine wpList_plain hgd fun K hK => ?_
  obtain ⟨A', c', w', hrun, h2⟩ := run_append_rc (P := P) w t o.type i ht hi hz hsize hby B A0 c0 qs hown B' A c ps hr hlen hbase
  unfold Oper.wp execOp
  simp only [ho, resolve, invoke, builtin, Sem.run_bind, Sem.run_pure, Result.andThen_ok, List.map_toArray, List.map_cons, List.map_nil, hs, hx, hrun]
  exact hK _ _ (h A' _ c' w' rfl h2)
theorem step_append_rc {P : Program} (w : World) {ops : Array Oper} {o : Oper} {a : Act} {K : Act → World → Prop} {Q : Exit → Act → World → Prop} {E : Prop} (hgd : o.guard = none) (s x : Operand) (t : TypeId)
    (ho : o.op = .call { callee := .builtin .append, args := #[s, x], argTypes := #[t, t] })
    (i : TypeInfo) (ht : P.underlying t = some (.slice 129)) (hi : P.info? 129 = some i)
    (hz : i.zero = some (.agg #[.string ⟨#[]⟩, .string ⟨#[]⟩, .bool false])) (hsize : i.size = 3) (hby : i.bytes = 40)
    (B : Nat) (A0 : Option Addr) (n0 c0 : Nat) (qs : CS) (hs : a.eval s = .slice A0 n0 c0) (hn0 : n0 = qs.length) (hown : OwnC w B A0 c0 qs)
    (B' : Nat) (A : Option Addr) (n c : Nat) (ps : CS) (hx : a.eval x = .slice A n c) (hn : n = ps.length) (hr : RC w B' A ps)
    (hlen : qs.length + ps.length ≤ 4000000) (hbase : B ≤ w.heap.size)
    (h : ∀ A' n' c' w', n' = (qs ++ ps).length → AppC w B A0 n0 c0 (qs ++ ps) A' c' w' → K (a.put o.dst (.slice A' n' c')) w') :
    if Region.wanted o (yielded ops a.tmps) = true then Oper.wp P o a w K Q else E := by
  have hw : Region.wanted o (yielded ops a.tmps) = true := by simp [Region.wanted, hgd]
  rw [if_pos hw]
  subst hn0 hn
  obtain ⟨A', c', w', hrun, h2⟩ := run_append_rc (P := P) w t o.type i ht hi hz hsize hby B A0 c0 qs hown B' A c ps hr hlen hbase
  unfold Oper.wp execOp
  simp only [ho, resolve, invoke, builtin, Sem.run_bind, Sem.run_pure, Result.andThen_ok, List.map_toArray, List.map_cons, List.map_nil, hs, hx, hrun]
  exact h A' _ c' w' rfl h2
/-- One change in a block. -/
theorem RC.new (w : World) (x : CD) (T : TypeId) : RC (w.alloc (.cells #[.string x.1, .string x.2.1, .bool x.2.2] T)) (w.heap.size + 1) (some ⟨w.heap.size, 0, none⟩) [x] := by
  refine .inr ⟨w.heap.size, 0, rfl, by omega, fun i q hq => ?_⟩
  have hb : (w.alloc (.cells #[.string x.1, .string x.2.1, .bool x.2.2] T)).heap[w.heap.size]? = some (.cells #[.string x.1, .string x.2.1, .bool x.2.2] T (0, 0)) := heap_alloc_new w _
  cases i with
  | zero =>
    simp only [List.getElem?_cons_zero, Option.some.injEq] at hq
    subst hq
    refine ⟨?_, ?_, ?_⟩
    · rw [cell_of_row _ _ _ _ _ _ hb]; rfl
    · rw [cell_of_row _ _ _ _ _ _ hb]; rfl
    · rw [cell_of_row _ _ _ _ _ _ hb]; rfl
  | succ i => simp at hq
/-! ### sizes -/
def SzC1 (x : CD) (l : Int) (w : World) (e : Ending) (w' : World) : Prop :=
  ∃ r : Int, e = .returned (.int .i64 r) ∧ -1 ≤ r ∧ r ≤ l ∧ (0 ≤ r → (x.1.size : Int) ≤ l ∧ (x.2.1.size : Int) ≤ l) ∧ Below w.heap.size w w'
def SmallC (hs : CS) (l : Int) : Prop := ∀ x ∈ hs, (x.2.1.size : Int) ≤ l
def SzPostC (hs : CS) (l : Int) (w : World) (e : Ending) (w' : World) : Prop :=
  ∃ r : Int, e = .returned (.int .i64 r) ∧ -1 ≤ r ∧ r ≤ l ∧ (0 ≤ r → (hs.length : Int) ≤ l) ∧ Below w.heap.size w w'

/-! ### copies -/
def FilledC (wr : World) (g : Nat) (hs : CS) (k : Nat) : Prop :=
  ∃ xs, wr.ownsRow g 129 3 (.slice (some ⟨g, 0, none⟩) hs.length hs.length) hs.length xs ∧ ∀ (i : Nat) (x : CD), hs[i]? = some x → i < k → xs[i * 3]? = some (.string x.1) ∧ xs[i * 3 + 1]? = some (.string x.2.1) ∧ xs[i * 3 + 2]? = some (.bool x.2.2)
theorem FilledC.start {wr : World} {g : Nat} {hs : CS} {xs : List Value} (h : wr.ownsRow g 129 3 (.slice (some ⟨g, 0, none⟩) hs.length hs.length) hs.length xs) : FilledC wr g hs 0 :=
  ⟨xs, h, fun i x _ hi => absurd hi (by omega)⟩
theorem ccells_ext : ∀ (hs : CS) (xs : List Value), xs.length = hs.length * 3 → (∀ (i : Nat) (x : CD), hs[i]? = some x → xs[i * 3]? = some (.string x.1) ∧ xs[i * 3 + 1]? = some (.string x.2.1) ∧ xs[i * 3 + 2]? = some (.bool x.2.2)) → xs = ccells hs
  | [], xs, hl, _ => List.eq_nil_of_length_eq_zero (by simpa using hl)
  | p :: r, xs, hl, h => by
    match xs, hl with
    | a :: b :: c :: t, hl =>
      have h0 := h 0 p rfl
      simp only [Nat.zero_mul, List.getElem?_cons_zero, Option.some.injEq, Nat.zero_add, List.getElem?_cons_succ] at h0
      rw [h0.1, h0.2.1, h0.2.2, ccells]
      congr 3
      refine ccells_ext r t (by simp at hl ⊢; omega) fun i q hq => ?_
      have := h (i + 1) q (by simpa using hq)
      rw [show (i + 1) * 3 = i * 3 + 1 + 1 + 1 by omega] at this
      simpa using this
    | [a, b], hl => simp at hl; omega
    | [a], hl => simp at hl; omega
    | [], hl => simp at hl
theorem FilledC.end_ {wr : World} {g : Nat} {hs : CS} (h : FilledC wr g hs hs.length) : wr.ownsRow g 129 3 (.slice (some ⟨g, 0, none⟩) hs.length hs.length) hs.length (ccells hs) := by
  obtain ⟨xs, ho, hx⟩ := h
  have : xs = ccells hs := ccells_ext hs xs ho.1 fun i p hp => hx i p hp (List.getElem?_eq_some_iff.1 hp).1
  rwa [this] at ho
theorem FilledC.cells {wr : World} {g : Nat} {hs : CS} {k : Nat} (h : FilledC wr g hs k) (hk : k < hs.length) : ∃ u v x, wr.cell? ⟨g, k * 3, none⟩ = some u ∧ wr.cell? ⟨g, k * 3 + 1, none⟩ = some v ∧ wr.cell? ⟨g, k * 3 + 2, none⟩ = some x := by
  obtain ⟨xs, ho, hx⟩ := h
  have hl := ho.1
  refine ⟨_, _, _, (ho.cellAt (k * 3) (by omega)).trans (List.getElem?_eq_getElem (by omega)), (ho.cellAt (k * 3 + 1) (by omega)).trans (List.getElem?_eq_getElem (by omega)), (ho.cellAt (k * 3 + 2) (by omega)).trans (List.getElem?_eq_getElem (by omega))⟩
theorem FilledC.frozen {wr : World} {g : Nat} {hs : CS} {k : Nat} (h : FilledC wr g hs k) (j : Nat) : wr.frozen? ⟨g, j, none⟩ = false := by
  obtain ⟨xs, ho, hx⟩ := h
  exact ho.frozenAt j
theorem FilledC.grown {wr w' : World} {g : Nat} {hs : CS} {k : Nat} (h : FilledC wr g hs k) (hg : wr.grownBy w' none) : FilledC w' g hs k := by
  obtain ⟨xs, ho, hx⟩ := h
  exact ⟨xs, ho.kept hg (.inr (by simp [Value.ownBlock])), hx⟩
theorem FilledC.store {wr : World} {g : Nat} {hs : CS} {k : Nat} (h : FilledC wr g hs k) (hk : k < hs.length) : FilledC (((wr.setCell ⟨g, k * 3, none⟩ (.string hs[k].1)).setCell ⟨g, k * 3 + 1, none⟩ (.string hs[k].2.1)).setCell ⟨g, k * 3 + 2, none⟩ (.bool hs[k].2.2)) g hs (k + 1) := by
  obtain ⟨xs, ho, hx⟩ := h
  have hl := ho.1
  refine ⟨_, (((ho.stored (k * 3) (.string hs[k].1)).1.stored (k * 3 + 1) (.string hs[k].2.1)).1.stored (k * 3 + 2) (.bool hs[k].2.2)).1, fun i p hp hi => ?_⟩
  by_cases e : i = k
  · subst e
    have hp' : hs[i] = p := by rw [List.getElem?_eq_getElem hk] at hp; exact Option.some.inj hp
    subst hp'
    refine ⟨?_, ?_, ?_⟩
    · rw [List.getElem?_set_ne (by omega), List.getElem?_set_ne (by omega), List.getElem?_set_self (by omega)]
    · rw [List.getElem?_set_ne (by omega), List.getElem?_set_self (by simp; omega)]
    · rw [List.getElem?_set_self (by simp; omega)]
  · obtain ⟨h1, h2, h3⟩ := hx i p hp (by omega)
    refine ⟨?_, ?_, ?_⟩ <;> rw [List.getElem?_set_ne (by omega), List.getElem?_set_ne (by omega), List.getElem?_set_ne (by omega)] <;> assumption

/-! ### comparisons, of changes that are alike -/
end Go.Proofs.Ytaiehccpefjbfaa
