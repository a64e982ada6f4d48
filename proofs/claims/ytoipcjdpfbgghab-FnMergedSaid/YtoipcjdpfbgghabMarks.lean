/-
  Marks: how the exact laws write into what they were given, and look whether it held.
  heldPairS at pairs that are marks.
-/
import Derived.Test.YtoipcjdpfbgghabToPair
import Derived.Laws.BytesString
namespace Go.Proofs.Ytoipcjdpfbgghab
open Go.RowKit

/-- The digits of j, ahead of s. -/
def mtail : Nat → Nat → ByteArray → ByteArray
  | 0, _, s => s
  | f + 1, j, s => if j = 0 then s else mtail f (j / 10) (⟨#[48 + UInt8.ofNat (j % 10)]⟩ ++ s)
/-- What markText answers. -/
def mtxt (n : Nat) : ByteArray := if n = 0 then ⟨#[109, 48]⟩ else ⟨#[109]⟩ ++ mtail n n ⟨#[]⟩
theorem mtail_zero (f : Nat) (s : ByteArray) : mtail f 0 s = s := by cases f <;> rfl

theorem conv_one (W : World) (d : Int) :
    (convert 22 9 (.slice (some ⟨W.heap.size, 0, none⟩) 1 1)).run Try.prog (W.alloc (.cells #[.int .u8 d] 5)) = .ok (.string ⟨#[UInt8.ofNat d.toNat]⟩) (W.alloc (.cells #[.int .u8 d] 5)) := by
  rw [run_convert_bytes_string _ _ _ 5 _ _ _ Try.underlying22 Try.underlying5 Try.underlying9]
  have hb : (W.alloc (.cells #[.int .u8 d] 5)).heap[W.heap.size]? = some (.cells #[.int .u8 d] 5 (0, 0)) := heap_alloc_new W _
  have hf := run_firstCells_some (P := Try.prog) (W.alloc (.cells #[.int .u8 d] 5)) 1 1 ⟨W.heap.size, 0, none⟩ 1 1 [.int .u8 d] rfl (fun j u hj => by
    rw [Addr.add_lit, cell_of_row _ _ _ _ _ _ hb]
    cases j with
    | zero => simpa using hj
    | succ j => simp at hj)
  have hl : (loadCells ⟨W.heap.size, 0, none⟩ 1).run Try.prog (W.alloc (.cells #[.int .u8 d] 5)) = .ok ([d].map (Value.int .u8)).toArray (W.alloc (.cells #[.int .u8 d] 5)) := hf
  rw [run_bytesToString _ _ _ _ [d] hl]
  rfl

/-- Pairs that are marks, from k on. -/
def marksL : Nat → Nat → PS
  | 0, _ => []
  | n + 1, k => (mtxt k, mtxt (k + 1)) :: marksL n (k + 2)
theorem marksL_len : ∀ n k : Nat, (marksL n k).length = n
  | 0, _ => rfl
  | n + 1, k => by simp [marksL, marksL_len n]
theorem marksL_get : ∀ (n k i : Nat) (h : i < (marksL n k).length), (marksL n k)[i] = (mtxt (k + 2 * i), mtxt (k + 2 * i + 1))
  | 0, _, _, h => by simp [marksL] at h
  | n + 1, k, 0, _ => rfl
  | n + 1, k, i + 1, h => by
    have := marksL_get n (k + 2) i (by simpa [marksL] using h)
    simp only [marksL, List.getElem_cons_succ, this]
    rw [show k + 2 * (i + 1) = k + 2 + 2 * i by omega]

/-- A row of whose cells m are marked. -/
def Marked (wr : World) (B g c n k0 m : Nat) : Prop :=
  ∃ xs, wr.ownsRow B 48 2 (.slice (some ⟨g, 0, none⟩) n c) n xs ∧ ∀ j, j < m → j < n * 2 → xs[j]? = some (.string (mtxt (k0 + j)))
theorem Marked.grown {wr w' : World} {B g c n k0 m : Nat} (h : Marked wr B g c n k0 m) (hb : Below wr.heap.size wr w') : Marked w' B g c n k0 m := by
  obtain ⟨xs, ho, hx⟩ := h
  exact ⟨xs, ho.kept (below_grown hb) (.inr (by simp [Value.ownBlock])), hx⟩
theorem Marked.cell {wr : World} {B g c n k0 m : Nat} (h : Marked wr B g c n k0 m) {j : Nat} (hj : j < n * 2) : ∃ u, wr.cell? ⟨g, j, none⟩ = some u := by
  obtain ⟨xs, ho, hx⟩ := h
  have hl := ho.1
  exact ⟨_, (ho.cellAt j hj).trans (List.getElem?_eq_getElem (by omega))⟩
theorem Marked.frozen {wr : World} {B g c n k0 m : Nat} (h : Marked wr B g c n k0 m) (j : Nat) : wr.frozen? ⟨g, j, none⟩ = false := by
  obtain ⟨xs, ho, hx⟩ := h
  exact ho.frozenAt j
theorem Marked.store {wr : World} {B g c n k0 m : Nat} (h : Marked wr B g c n k0 m) (hm : m < n * 2) : Marked (wr.setCell ⟨g, m, none⟩ (.string (mtxt (k0 + m)))) B g c n k0 (m + 1) := by
  obtain ⟨xs, ho, hx⟩ := h
  have hl := ho.1
  refine ⟨_, (ho.stored m (.string (mtxt (k0 + m)))).1, fun j hj hn => ?_⟩
  by_cases e : j = m
  · subst e
    rw [List.getElem?_set_self (by omega)]
  · rw [List.getElem?_set_ne (by omega)]
    exact hx j (by omega) hn
theorem Marked.end_ {wr : World} {B g c n k0 : Nat} (h : Marked wr B g c n k0 (n * 2)) : wr.ownsRow B 48 2 (.slice (some ⟨g, 0, none⟩) n c) n (pcells (marksL n k0)) := by
  obtain ⟨xs, ho, hx⟩ := h
  have hl := ho.1
  have : xs = pcells (marksL n k0) := pcells_ext _ _ (by rw [hl, marksL_len]) fun i p hp => by
    obtain ⟨hi, rfl⟩ := List.getElem?_eq_some_iff.1 hp
    rw [marksL_get]
    rw [marksL_len] at hi
    refine ⟨?_, ?_⟩
    · rw [hx _ (by omega) (by omega), show k0 + i * 2 = k0 + 2 * i by omega]
    · rw [hx _ (by omega) (by omega), show k0 + (i * 2 + 1) = k0 + 2 * i + 1 by omega]
  rwa [this] at ho
theorem grown_trans {a b c : World} {r : Option Nat} (h : a.grownBy b r) (h' : b.grownBy c r) : a.grownBy c r :=
  ⟨h'.os.trans h.os, h'.tape.trans h.tape, h'.output.trans h.output, Nat.le_trans h.size h'.size, fun k hk hr => (h'.block k (Nat.lt_of_lt_of_le hk h.size) hr).trans (h.block k hk hr)⟩
theorem grown_below {b c : World} {r : Option Nat} (h : Below b.heap.size b c) : b.grownBy c r := ⟨h.os, h.tape, h.output, h.size, fun k hk _ => h.block k hk⟩
theorem grown_set (w : World) (g j : Nat) (u : Value) : w.grownBy (w.setCell ⟨g, j, none⟩ u) (some g) :=
  ⟨rfl, rfl, rfl, by simp, fun k _ hk => heap_setCell_other w ⟨g, j, none⟩ k u (fun e => hk (by simp [e]))⟩

/-- What markPairS leaves. -/
def MarkPost (B : Nat) (A : Option Addr) (c n k : Nat) (w : World) (e : Ending) (w' : World) : Prop :=
  e = .returned (.int .i64 ((k + 2 * n : Nat) : Int)) ∧ w'.ownsRow B 48 2 (.slice A n c) n (pcells (marksL n k)) ∧ w.grownBy w' (Value.ownBlock (.slice A n c))

end Go.Proofs.Ytoipcjdpfbgghab
namespace Go.Proofs.Ytoipcjdpfbgghab
open Go.RowKit
end Go.Proofs.Ytoipcjdpfbgghab
