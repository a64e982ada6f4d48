/-
  Rows of edges: comparison of two, one in the place of another, the first of them, cells that are cleared; slices.Compact.
-/
import Derived.Test.YtjdmaoegfpgfjaaEdgeMem
import Derived.Test.YtjdmaoegfpgfjaaLockSet
import Derived.Test.YtjdmaoegfpgfjaaLockFns
import Derived.Laws.StructEq
namespace Go.Proofs.Ytjdmaoegfpgfjaa
open Go.RowKit

theorem edgeFields : Try.prog.underlying 56 = some (.struct (Try.prog.fieldsOf 56)) := by kernel_rfl
theorem edgeHeld : Try.prog.stoodInHeld 56 = false := by kernel_rfl
theorem edgeGuard : Try.prog.eqGuardType Try.prog.depth 56 = false := by kernel_rfl
theorem eqEdgeV (p q : ED) (w : World) :
    (binOp .eql 56 (.agg #[.int .i64 p.1, .int .i64 p.2]) (.agg #[.int .i64 q.1, .int .i64 q.2])).run Try.prog w = .ok (.bool (decide (p = q))) w := by
  have u9 := Try.underlying2
  have a9 := Try.isAgg2
  have z9 := Try.sizeOf2
  rw [run_eql_struct, show (10000 : Nat) = 9999 + 1 from rfl, run_equalIn_agg w 9999 56 _ _ edgeFields edgeHeld]
  simp only [Program.fieldsOf, Try.underlying56]
  by_cases h1 : p.1 = q.1
  · by_cases h2 : p.2 = q.2
    · have g1 := eqI_true h1
      have g2 := eqI_true h2
      have e : decide (p = q) = true := by simp [Prod.ext_iff, h1, h2]
      rw [e]
      clear h1 h2 e
      go_simp
    · have g1 := eqI_true h1
      have g2 := eqI_false h2
      have e : decide (p = q) = false := by simp [Prod.ext_iff, h2]
      rw [e]
      clear h1 h2 e
      go_simp
  · have g1 := eqI_false h1
    have e : decide (p = q) = false := by simp [Prod.ext_iff, h1]
    rw [e]
    clear h1 e
    go_simp
theorem neEdgeV (p q : ED) (w : World) :
    (binOp .neq 56 (.agg #[.int .i64 p.1, .int .i64 p.2]) (.agg #[.int .i64 q.1, .int .i64 q.2])).run Try.prog w = .ok (.bool (!decide (p = q))) w := by
  have u9 := Try.underlying2
  have a9 := Try.isAgg2
  have z9 := Try.sizeOf2
  rw [run_neq_struct, show (10000 : Nat) = 9999 + 1 from rfl, run_equalIn_agg w 9999 56 _ _ edgeFields edgeHeld]
  simp only [Program.fieldsOf, Try.underlying56]
  by_cases h1 : p.1 = q.1
  · by_cases h2 : p.2 = q.2
    · have g1 := eqI_true h1
      have g2 := eqI_true h2
      have e : decide (p = q) = true := by simp [Prod.ext_iff, h1, h2]
      rw [e]
      clear h1 h2 e
      go_simp
    · have g1 := eqI_true h1
      have g2 := eqI_false h2
      have e : decide (p = q) = false := by simp [Prod.ext_iff, h2]
      rw [e]
      clear h1 h2 e
      go_simp
  · have g1 := eqI_false h1
    have e : decide (p = q) = false := by simp [Prod.ext_iff, h1]
    rw [e]
    clear h1 e
    go_simp

theorem ecells_take : ∀ (es : ES) (k : Nat), (ecells es).take (k * 2) = ecells (es.take k)
  | [], k => by simp [ecells]
  | x :: r, 0 => by simp [ecells]
  | x :: r, k + 1 => by
    rw [show (k + 1) * 2 = k * 2 + 1 + 1 by omega]
    simp only [ecells, List.take_succ_cons]
    rw [ecells_take r k]
theorem ecells_drop : ∀ (es : ES) (k : Nat), (ecells es).drop (k * 2) = ecells (es.drop k)
  | [], k => by simp [ecells]
  | x :: r, 0 => by simp
  | x :: r, k + 1 => by
    rw [show (k + 1) * 2 = k * 2 + 1 + 1 by omega]
    simp only [ecells, List.drop_succ_cons]
    rw [ecells_drop r k]
theorem ecells_set (es : ES) (k : Nat) (x : ED) (hk : k < es.length) : spliceL (ecells es) (k * 2) [.int .i64 x.1, .int .i64 x.2] = ecells (es.set k x) := by
  unfold spliceL
  rw [ecells_take, show k * 2 + [Value.int IntKind.i64 x.1, Value.int IntKind.i64 x.2].length = (k + 1) * 2 by simp; omega, ecells_drop, List.set_eq_take_append_cons_drop, if_pos hk, ecells_append]
  simp [ecells]
theorem setCells_two (w : World) (g o : Nat) (a b : Value) : w.setCells g o [a, b] = (w.setCell ⟨g, o, none⟩ a).setCell ⟨g, o + 1, none⟩ b := rfl
theorem OwnE.put {w : World} {B g c : Nat} {es : ES} (h : OwnE w B (some ⟨g, 0, none⟩) c es) {k : Nat} (hk : k < es.length) (x : ED) :
    OwnE ((w.setCell ⟨g, k * 2, none⟩ (.int .i64 x.1)).setCell ⟨g, k * 2 + 1, none⟩ (.int .i64 x.2)) B (some ⟨g, 0, none⟩) c (es.set k x) ∧
    w.grownBy ((w.setCell ⟨g, k * 2, none⟩ (.int .i64 x.1)).setCell ⟨g, k * 2 + 1, none⟩ (.int .i64 x.2)) (some g) := by
  obtain ⟨h1, h2⟩ := own_setCells [.int .i64 x.1, .int .i64 x.2] (k * 2) w (ecells es) h (by simp; omega)
  rw [ecells_set es k x hk, setCells_two] at h1
  rw [setCells_two] at h2
  unfold OwnE
  rw [List.length_set]
  exact ⟨h1, h2⟩
theorem OwnE.cut {w : World} {B g c : Nat} {es : ES} (h : OwnE w B (some ⟨g, 0, none⟩) c es) {k : Nat} (hk : k ≤ es.length) : OwnE w B (some ⟨g, 0, none⟩) c (es.take k) := by
  have := own_cut h hk
  rw [ecells_take] at this
  unfold OwnE
  rw [List.length_take, Nat.min_eq_left hk]
  exact this
theorem OwnE.frozenE {w : World} {B g c : Nat} {es : ES} (h : OwnE w B (some ⟨g, 0, none⟩) c es) (j : Nat) : w.frozen? ⟨g, j, none⟩ = false := World.ownsRow.frozenAt h j

theorem edgeZero : ∀ w, (zeroValue 56).run Try.prog w = .ok (.agg #[.int .i64 0, .int .i64 0]) w := by
  intro w
  obtain ⟨i, hi, hz, _⟩ := info_parts edgeInfo
  simp [zeroValue, typeInfo, hi, hz, go_sem]
def zeroE (n : Nat) : List Value := (Builtin.zeroCells (Value.agg #[.int .i64 0, .int .i64 0]).cells n).toList
theorem run_clear_edge {P : Program} (w : World) (t e ty : TypeId) (ht : P.underlying t = some (.slice e)) (hv : ∀ w, (zeroValue e).run P w = .ok (.agg #[.int .i64 0, .int .i64 0]) w) (b o n c : Nat) (hn : 0 < n)
    (hc : ∀ j, j < (zeroE n).length → (w.cell? ⟨b, o + j, none⟩).isSome = true) (hf : ∀ j, j < (zeroE n).length → w.frozen? ⟨b, o + j, none⟩ = false) (h1 : ∀ v ∈ zeroE n, v.oneCell' = true) :
    (Builtin.clear_ #[t] ty #[.slice (some ⟨b, o, none⟩) n c]).run P w = .ok (.tuple #[]) (w.setCells b o (zeroE n)) := by
  have hst := run_storeCells_cells (P := P) b o (zeroE n) 0 w (by simpa using hc) (by simpa using hf) h1
  simp only [Nat.add_zero] at hst
  obtain ⟨m, rfl⟩ : ∃ m, n = m + 1 := ⟨n - 1, by omega⟩
  unfold zeroE at hst ⊢
  simp [Builtin.clear_, run_underlying ht, hv, hst]
theorem zeroE_length (n : Nat) : (zeroE n).length = n * 2 := by
  simp [zeroE, Builtin.zeroCells, Value.cells]
theorem zeroE_one (n : Nat) : ∀ v ∈ zeroE n, v.oneCell' = true := by
  intro v hv
  unfold zeroE Builtin.zeroCells at hv
  rw [Array.toList_map] at hv
  obtain ⟨i, _, rfl⟩ := List.mem_map.1 hv
  have h3 : i % 2 = 0 ∨ i % 2 = 1 := by omega
  show (#[Value.int IntKind.i64 0, Value.int IntKind.i64 0][i % 2]!).oneCell' = true
  rcases h3 with e | e <;> rw [e] <;> rfl
/-- What the clearing of a tail leaves. -/
theorem OwnE.swept {w : World} {B g c : Nat} {cur : ES} {n i : Nat} (h : OwnE w B (some ⟨g, 0, none⟩) c cur) (hn : cur.length = n) (hi : i < n) :
    OwnE (w.setCells g (i * 2) (zeroE (n - i))) B (some ⟨g, 0, none⟩) c (cur.take i) ∧ w.grownBy (w.setCells g (i * 2) (zeroE (n - i))) (some g) ∧ (∀ j, j < (zeroE (n - i)).length → (w.cell? ⟨g, i * 2 + j, none⟩).isSome = true) ∧ (∀ j, j < (zeroE (n - i)).length → w.frozen? ⟨g, i * 2 + j, none⟩ = false) := by
  subst hn
  have hz := zeroE_length (cur.length - i)
  obtain ⟨h1, h2⟩ := own_setCells (zeroE (cur.length - i)) (i * 2) w (ecells cur) h (by rw [hz]; omega)
  have h3 := own_cut h1 (k := i) (by omega)
  have e : (spliceL (ecells cur) (i * 2) (zeroE (cur.length - i))).take (i * 2) = ecells (cur.take i) := by
    unfold spliceL
    have hl : ((ecells cur).take (i * 2)).length = i * 2 := by rw [List.length_take, ecells_length]; omega
    rw [List.append_assoc, List.take_append_of_le_length (by omega), List.take_take, Nat.min_self, ecells_take]
  rw [e] at h3
  refine ⟨?_, h2, fun j hj => ?_, fun j _ => World.ownsRow.frozenAt h _⟩
  · unfold OwnE
    rw [List.length_take, Nat.min_eq_left (by omega)]
    exact h3
  · have hl := h.1
    rw [World.ownsRow.cellAt h (i * 2 + j) (by omega), List.getElem?_eq_getElem (by omega)]
    rfl

/-! ### slices.Compact -/
def lastE : ED → ES → ED
  | x, [] => x
  | _, y :: r => lastE y r
theorem dedGo_snoc : ∀ (r : ES) (x y : ED), dedE.go x (r ++ [y]) = dedE.go x r ++ if lastE x r = y then [] else [y]
  | [], x, y => by
    simp only [List.nil_append, dedE.go, lastE]
    by_cases e : x = y <;> simp [e]
  | z :: r, x, y => by
    simp only [List.cons_append, dedE.go, lastE]
    by_cases e : x = z
    · subst e
      rw [if_pos rfl, if_pos rfl, dedGo_snoc r x y]
      by_cases e : lastE x r = y <;> simp [e]
    · rw [if_neg e, if_neg e, dedGo_snoc r z y]
      rfl
theorem lastE_get : ∀ (r : ES) (x : ED) (k : Nat) (h : k < (x :: r).length), k = r.length → lastE x r = (x :: r)[k]
  | [], x, k, h, e => by
    obtain rfl : k = 0 := by simpa using e
    rfl
  | y :: r, x, k, h, e => by
    obtain ⟨m, rfl⟩ : ∃ m, k = m + 1 := ⟨k - 1, by simp at e; omega⟩
    rw [lastE, lastE_get r y m (by simpa using h) (by simpa using e)]
    rfl
theorem ded_snoc {es : ES} {j : Nat} (h0 : 0 < j) (hj : j < es.length) : dedE (es.take (j + 1)) = dedE (es.take j) ++ if es[j - 1] = es[j] then [] else [es[j]] := by
  rw [take_snoc hj]
  have hl : (es.take j).length = j := by rw [List.length_take]; omega
  cases ht : es.take j with
  | nil => rw [ht] at hl; simp at hl; omega
  | cons x r =>
    rw [ht] at hl
    simp only [List.length_cons] at hl
    have hlast : lastE x r = es[j - 1] := by
      rw [lastE_get r x (j - 1) (by simp; omega) (by omega)]
      have : (es.take j)[j - 1]? = es[j - 1]? := by rw [List.getElem?_take, if_pos (by omega)]
      rw [ht, List.getElem?_eq_getElem (by simp; omega), List.getElem?_eq_getElem (by omega)] at this
      exact Option.some.inj this
    simp only [List.cons_append, dedE]
    rw [dedGo_snoc, hlast]
/-- What holds in the inner loop: k of them kept, j looked at. -/
structure CpIn (es cur : ES) (k j : Nat) : Prop where
  len : cur.length = es.length
  k1 : 1 ≤ k
  kj : k + 1 ≤ j
  jn : j ≤ es.length
  done : cur.take k = dedE (es.take j)
  rest : ∀ (i : Nat) (h : i < es.length), j ≤ i + 1 → cur[i]? = some es[i]
theorem CpIn.start {es : ES} {k : Nat} (h0 : 0 < k) (hk : k < es.length) (hd : dedE (es.take k) = es.take k) (he : es[k - 1] = es[k]) : CpIn es es k (k + 1) :=
  ⟨rfl, h0, Nat.le_refl _, hk, by rw [ded_snoc h0 hk, if_pos he, List.append_nil, hd], fun i h _ => List.getElem?_eq_getElem h⟩
theorem CpIn.same {es cur : ES} {k j : Nat} (h : CpIn es cur k j) (hj : j < es.length) (he : es[j - 1]? = some es[j]) : CpIn es cur k (j + 1) := by
  have h1 := h.kj
  have h2 := h.k1
  refine ⟨h.len, h.k1, by omega, hj, ?_, fun i hi hij => h.rest i hi (by omega)⟩
  rw [List.getElem?_eq_getElem (by omega)] at he
  rw [ded_snoc (by omega) hj, if_pos (Option.some.inj he), List.append_nil]
  exact h.done
theorem CpIn.keep {es cur : ES} {k j : Nat} (h : CpIn es cur k j) (hj : j < es.length) (he : es[j - 1]? ≠ some es[j]) : CpIn es (cur.set k es[j]) (k + 1) (j + 1) := by
  have h1 := h.kj
  have h2 := h.k1
  have hl := h.len
  refine ⟨by rw [List.length_set]; exact hl, by omega, by omega, hj, ?_, fun i hi hij => ?_⟩
  · rw [List.getElem?_eq_getElem (by omega)] at he
    rw [ded_snoc (by omega) hj, if_neg (fun e => he (by rw [e])), ← h.done, take_snoc (by rw [List.length_set]; omega), List.take_set_of_le (Nat.le_refl _)]
    simp
  · rw [List.getElem?_set_ne (by omega)]
    exact h.rest i hi (by omega)
end Go.Proofs.Ytjdmaoegfpgfjaa
