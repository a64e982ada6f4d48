/-
  Rows of the call's own: cells that are set one behind the other, rows that are cut, cells that are cleared.
-/
import Derived.Test.YtjdmaoegfpgfjaaLockOwn
import Derived.Laws.IdiomCopy
namespace Go.Proofs.Ytjdmaoegfpgfjaa
open Go.RowKit

/-- xs with vs from place o on. -/
def spliceL (xs : List Value) (o : Nat) (vs : List Value) : List Value := xs.take o ++ vs ++ xs.drop (o + vs.length)
theorem splice_nil (xs : List Value) (o : Nat) : spliceL xs o [] = xs := by simp [spliceL]
theorem splice_cons {xs : List Value} {o : Nat} (v : Value) (vs : List Value) (h : o < xs.length) : spliceL (xs.set o v) (o + 1) vs = spliceL xs o (v :: vs) := by
  unfold spliceL
  rw [List.take_set, List.take_succ_eq_append_getElem h, List.drop_set_of_lt (by omega)]
  have : (xs.take o ++ [xs[o]]).set o v = xs.take o ++ [v] := by
    rw [List.set_append_right _ _ (by rw [List.length_take]; omega)]
    have : o - (xs.take o).length = 0 := by rw [List.length_take]; omega
    rw [this]
    rfl
  rw [this, List.length_cons, show o + 1 + vs.length = o + (vs.length + 1) by omega]
  simp
theorem own_setCells {B size n cap g : Nat} {e : TypeId} : ∀ (vs : List Value) (o : Nat) (w : World) (xs : List Value), w.ownsRow B e size (.slice (some ⟨g, 0, none⟩) n cap) n xs → o + vs.length ≤ n * size →
    (w.setCells g o vs).ownsRow B e size (.slice (some ⟨g, 0, none⟩) n cap) n (spliceL xs o vs) ∧ w.grownBy (w.setCells g o vs) (some g)
  | [], o, w, xs, h, _ => by
    rw [splice_nil]
    exact ⟨h, ⟨rfl, rfl, rfl, Nat.le_refl _, fun _ _ _ => rfl⟩⟩
  | v :: vs, o, w, xs, h, hl => by
    have hx := h.1
    simp only [List.length_cons] at hl
    obtain ⟨h1, h2⟩ := h.stored o v
    obtain ⟨h3, h4⟩ := own_setCells vs (o + 1) _ _ h1 (by omega)
    rw [splice_cons v vs (by omega)] at h3
    exact ⟨h3, ⟨h4.os.trans h2.os, h4.tape.trans h2.tape, h4.output.trans h2.output, Nat.le_trans h2.size h4.size, fun k hk hne => (h4.block k (Nat.lt_of_lt_of_le hk h2.size) hne).trans (h2.block k hk hne)⟩⟩
/-- Its first k. -/
theorem own_cut {w : World} {B size n cap g k : Nat} {e : TypeId} {xs : List Value} (h : w.ownsRow B e size (.slice (some ⟨g, 0, none⟩) n cap) n xs) (hk : k ≤ n) : w.ownsRow B e size (.slice (some ⟨g, 0, none⟩) k cap) k (xs.take (k * size)) := by
  have hx := h.1
  have hm : k * size ≤ n * size := Nat.mul_le_mul_right _ hk
  refine ⟨by rw [List.length_take]; omega, ?_⟩
  rcases h.2 with ⟨hv, _⟩ | ⟨q, cap', cur, hv, hq, hh, h1, h2, h3, h4⟩
  · cases hv
  · injection hv with e1 e2 e3
    injection e1 with e1
    injection e1 with e1
    subst e1 e3
    refine .inr ⟨_, _, cur, rfl, hq, hh, by omega, h2, h3, ?_⟩
    rw [← h4, List.take_take, Nat.min_eq_left hm]
theorem hcells_take : ∀ (hs : HS) (k : Nat), (hcells hs).take (k * 3) = hcells (hs.take k)
  | [], k => by simp [hcells]
  | x :: r, 0 => by simp [hcells]
  | x :: r, k + 1 => by
    rw [show (k + 1) * 3 = k * 3 + 1 + 1 + 1 by omega]
    simp only [hcells, List.take_succ_cons]
    rw [hcells_take r k]
theorem hcells_drop : ∀ (hs : HS) (k : Nat), (hcells hs).drop (k * 3) = hcells (hs.drop k)
  | [], k => by simp [hcells]
  | x :: r, 0 => by simp
  | x :: r, k + 1 => by
    rw [show (k + 1) * 3 = k * 3 + 1 + 1 + 1 by omega]
    simp only [hcells, List.drop_succ_cons]
    rw [hcells_drop r k]
/-- One hold in the place of another. -/
theorem hcells_set (hs : HS) (k : Nat) (x : HD) (hk : k < hs.length) : spliceL (hcells hs) (k * 3) [.int .i64 x.1, .string x.2.1, .int .i64 x.2.2] = hcells (hs.set k x) := by
  unfold spliceL
  rw [hcells_take, show k * 3 + [Value.int IntKind.i64 x.1, Value.string x.2.1, Value.int IntKind.i64 x.2.2].length = (k + 1) * 3 by simp; omega, hcells_drop, List.set_eq_take_append_cons_drop, if_pos hk, hcells_append]
  simp [hcells]
theorem setCells_three (w : World) (g o : Nat) (a b c : Value) : w.setCells g o [a, b, c] = ((w.setCell ⟨g, o, none⟩ a).setCell ⟨g, o + 1, none⟩ b).setCell ⟨g, o + 2, none⟩ c := rfl
theorem OwnH.put {w : World} {B g c : Nat} {hs : HS} (h : OwnH w B (some ⟨g, 0, none⟩) c hs) {k : Nat} (hk : k < hs.length) (x : HD) :
    OwnH (((w.setCell ⟨g, k * 3, none⟩ (.int .i64 x.1)).setCell ⟨g, k * 3 + 1, none⟩ (.string x.2.1)).setCell ⟨g, k * 3 + 2, none⟩ (.int .i64 x.2.2)) B (some ⟨g, 0, none⟩) c (hs.set k x) ∧
    w.grownBy (((w.setCell ⟨g, k * 3, none⟩ (.int .i64 x.1)).setCell ⟨g, k * 3 + 1, none⟩ (.string x.2.1)).setCell ⟨g, k * 3 + 2, none⟩ (.int .i64 x.2.2)) (some g) := by
  obtain ⟨h1, h2⟩ := own_setCells [.int .i64 x.1, .string x.2.1, .int .i64 x.2.2] (k * 3) w (hcells hs) h (by simp; omega)
  rw [hcells_set hs k x hk, setCells_three] at h1
  rw [setCells_three] at h2
  unfold OwnH
  rw [List.length_set]
  exact ⟨h1, h2⟩
/-- The first k of them, behind a change of what is behind. -/
theorem OwnH.cut {w : World} {B g c : Nat} {hs : HS} (h : OwnH w B (some ⟨g, 0, none⟩) c hs) {k : Nat} (hk : k ≤ hs.length) : OwnH w B (some ⟨g, 0, none⟩) c (hs.take k) := by
  have := own_cut h hk
  rw [hcells_take] at this
  unfold OwnH
  rw [List.length_take, Nat.min_eq_left hk]
  exact this

/-- 'clear(s)' at holds, n > 0 of them. -/
def zeroH (n : Nat) : List Value := (Builtin.zeroCells (Value.agg #[.int .i64 0, .string ⟨#[]⟩, .int .i64 0]).cells n).toList
theorem run_clear_hold {P : Program} (w : World) (t e ty : TypeId) (ht : P.underlying t = some (.slice e)) (hv : ∀ w, (zeroValue e).run P w = .ok (.agg #[.int .i64 0, .string ⟨#[]⟩, .int .i64 0]) w) (b o n c : Nat) (hn : 0 < n)
    (hc : ∀ j, j < (zeroH n).length → (w.cell? ⟨b, o + j, none⟩).isSome = true) (hf : ∀ j, j < (zeroH n).length → w.frozen? ⟨b, o + j, none⟩ = false) (h1 : ∀ v ∈ zeroH n, v.oneCell' = true) :
    (Builtin.clear_ #[t] ty #[.slice (some ⟨b, o, none⟩) n c]).run P w = .ok (.tuple #[]) (w.setCells b o (zeroH n)) := by
  have hst := run_storeCells_cells (P := P) b o (zeroH n) 0 w (by simpa using hc) (by simpa using hf) h1
  simp only [Nat.add_zero] at hst
  obtain ⟨m, rfl⟩ : ∃ m, n = m + 1 := ⟨n - 1, by omega⟩
  unfold zeroH at hst ⊢
  simp [Builtin.clear_, run_underlying ht, hv, hst]
theorem zeroH_length (n : Nat) : (zeroH n).length = n * 3 := by
  simp [zeroH, Builtin.zeroCells, Value.cells]
theorem zeroH_one (n : Nat) : ∀ v ∈ zeroH n, v.oneCell' = true := by
  intro v hv
  unfold zeroH Builtin.zeroCells at hv
  rw [Array.toList_map] at hv
  obtain ⟨i, _, rfl⟩ := List.mem_map.1 hv
  have h3 : i % 3 = 0 ∨ i % 3 = 1 ∨ i % 3 = 2 := by omega
  show (#[Value.int IntKind.i64 0, Value.string ⟨#[]⟩, Value.int IntKind.i64 0][i % 3]!).oneCell' = true
  rcases h3 with e | e | e <;> rw [e] <;> rfl
end Go.Proofs.Ytjdmaoegfpgfjaa
