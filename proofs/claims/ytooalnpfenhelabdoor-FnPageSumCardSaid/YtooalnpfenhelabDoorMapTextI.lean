/-
  The program's MapText, over the shelf's strings.Join.
-/
import Derived.Test.YtooalnpfenhelabDoorMapText
namespace Go.Proofs.YtooalnpfenhelabDoor
open Go.RowKit

theorem stringInfo : (Tryd.prog.info? 9).map (fun i => (i.zero, i.size, i.bytes)) = some (some (.string ⟨#[]⟩), 1, 16) := by kernel_rfl

/-- A row of words, filled up to k. -/
def FilledS (wr : World) (g : Nat) (ws : List ByteArray) (k : Nat) : Prop :=
  ∃ xs, wr.ownsRow g 9 1 (.slice (some ⟨g, 0, none⟩) ws.length ws.length) ws.length xs ∧ ∀ (i : Nat) (s : ByteArray), ws[i]? = some s → i < k → xs[i]? = some (.string s)
theorem FilledS.cell {wr : World} {g : Nat} {ws : List ByteArray} {k : Nat} (h : FilledS wr g ws k) (hk : k < ws.length) : ∃ u, wr.cell? ⟨g, k, none⟩ = some u := by
  obtain ⟨xs, ho, hx⟩ := h
  have hl := ho.1
  exact ⟨_, (ho.cellAt k (by omega)).trans (List.getElem?_eq_getElem (by omega))⟩
theorem FilledS.frozen {wr : World} {g : Nat} {ws : List ByteArray} {k : Nat} (h : FilledS wr g ws k) (j : Nat) : wr.frozen? ⟨g, j, none⟩ = false := by
  obtain ⟨xs, ho, hx⟩ := h
  exact ho.frozenAt j
theorem FilledS.grown {wr w' : World} {g : Nat} {ws : List ByteArray} {k : Nat} (h : FilledS wr g ws k) (hb : Below wr.heap.size wr w') : FilledS w' g ws k := by
  obtain ⟨xs, ho, hx⟩ := h
  exact ⟨xs, ho.kept (below_grown hb) (.inr (by simp [Value.ownBlock])), hx⟩
theorem FilledS.store {wr : World} {g : Nat} {ws : List ByteArray} {k : Nat} (h : FilledS wr g ws k) (hk : k < ws.length) : FilledS (wr.setCell ⟨g, k, none⟩ (.string ws[k])) g ws (k + 1) := by
  obtain ⟨xs, ho, hx⟩ := h
  have hl := ho.1
  refine ⟨_, (ho.stored k (.string ws[k])).1, fun i s hs hi => ?_⟩
  by_cases e : i = k
  · subst e
    have : ws[i] = s := by rw [List.getElem?_eq_getElem hk] at hs; exact Option.some.inj hs
    rw [this, List.getElem?_set_self (by omega)]
  · rw [List.getElem?_set_ne (by omega)]
    exact hx i s hs (by omega)
theorem FilledS.cells {wr : World} {g : Nat} {ws : List ByteArray} (h : FilledS wr g ws ws.length) : g < wr.heap.size ∧ ∀ (j : Nat) (s : ByteArray), ws[j]? = some s → wr.cell? ⟨g, 0 + j, none⟩ = some (.string s) := by
  obtain ⟨xs, ho, hx⟩ := h
  refine ⟨(ho.lt g rfl).2, fun j s hs => ?_⟩
  have h1 := hx j s hs (List.getElem?_eq_some_iff.1 hs).1
  have h2 := ho.cells (g := g) rfl j _ h1
  rwa [Addr.add_lit] at h2

def wordsB (ps : PS) : List ByteArray := ps.map wB
theorem wordsB_len (ps : PS) : (wordsB ps).length = ps.length := by simp [wordsB]
theorem wordsB_at {ps : PS} {k : Nat} (h : k < ps.length) : (wordsB ps)[k]'(by rw [wordsB_len]; exact h) = ps[k].1 ++ ⟨#[61]⟩ ++ ps[k].2 := by simp [wordsB, wB]

/-- What strings.Join does: proved on the shelf, at any program. -/
def JoinSaid : Prop := ∀ (bk o c : Nat) (xs : List ByteArray) (sep : ByteArray) (w : World), (∀ (j : Nat) (x : ByteArray), xs[j]? = some x → w.cell? ⟨bk, o + j, none⟩ = some (.string x)) → bk < w.heap.size → xs.length ≤ 140737488355328 → xs.length ≤ c →
  (Lib.join (xs.map (·.data.toList)) sep.data.toList).length ≤ 140737488355328 →
  Calls Tryd.prog 50 #[.slice (some ⟨bk, o, none⟩) xs.length c, .string sep] w fun e w' => e = .returned (.string ⟨(Lib.join (xs.map (·.data.toList)) sep.data.toList).toArray⟩) ∧ Below w.heap.size w w'

theorem wordsB_list (ps : PS) : (wordsB ps).map (·.data.toList) = wordsL ps := by simp [wordsB, wordsL]

theorem allocs2 (v : World) (o o' : Obj) : Below v.heap.size v ((v.alloc o).alloc o') := ((Below.refl _ _).alloc (Nat.le_refl _) o).alloc (by simp) o'

theorem pairText_any (p : BB) (w : World) (h1 : p.1.size ≤ 6) (h2 : p.2.size ≤ 6) :
    Calls Tryd.prog 22 #[.agg #[.string p.1, .string p.2]] w fun e w' => e = .returned (.string (p.1 ++ ⟨#[61]⟩ ++ p.2)) ∧ w' = w.alloc (.cells #[.string p.1, .string p.2] 45) := by
  go_enter Tryd.func22, Tryd.ntmps22
  go_wp2_with fail
  go_ret
  exact ⟨rfl, rfl⟩

end Go.Proofs.YtooalnpfenhelabDoor
