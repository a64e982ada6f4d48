/-
  Copies of pairs, as the exact laws make them.
-/
import Derived.Test.YtaiehccpefjbfaaLawKit
namespace Go.Proofs.Ytaiehccpefjbfaa
open Go.RowKit

theorem below3 {B : Nat} {w wr : World} {o o' o'' : Obj} (h : Below B w wr) (hB : B ≤ wr.heap.size) : Below B w (((wr.alloc o).alloc o').alloc o'') :=
  ((h.alloc hB o).alloc (by simp; omega) o').alloc (by simp; omega) o''

set_option maxHeartbeats 400000 in
theorem toPair_any (p : BB) (w : World) :
    Calls Try.prog 149 #[.agg #[.string p.1, .string p.2]] w fun e w' => e = .returned (.agg #[.string p.1, .string p.2]) ∧ Below w.heap.size w w' := by
  go_enter Try.func149, Try.ntmps149
  go_wp2
  exact bodyPost_ret (v := .agg #[.string p.1, .string p.2]) (by simp [results, Try.results149, go_sem]) rfl ⟨rfl, below3 (Below.refl _ _) (Nat.le_refl _)⟩

/-- The new row, filled up to k. -/
def Filled (wr : World) (g : Nat) (ps : PS) (k : Nat) : Prop :=
  ∃ xs, wr.ownsRow g 172 2 (.slice (some ⟨g, 0, none⟩) ps.length ps.length) ps.length xs ∧ ∀ (i : Nat) (p : BB), ps[i]? = some p → i < k → xs[i * 2]? = some (.string p.1) ∧ xs[i * 2 + 1]? = some (.string p.2)
theorem Filled.start {wr : World} {g : Nat} {ps : PS} {xs : List Value} (h : wr.ownsRow g 172 2 (.slice (some ⟨g, 0, none⟩) ps.length ps.length) ps.length xs) : Filled wr g ps 0 :=
  ⟨xs, h, fun i p _ hi => absurd hi (by omega)⟩
theorem pcells_ext : ∀ (ps : PS) (xs : List Value), xs.length = ps.length * 2 → (∀ (i : Nat) (p : BB), ps[i]? = some p → xs[i * 2]? = some (.string p.1) ∧ xs[i * 2 + 1]? = some (.string p.2)) → xs = pcells ps
  | [], xs, hl, _ => List.eq_nil_of_length_eq_zero (by simpa using hl)
  | p :: r, xs, hl, h => by
    match xs, hl with
    | a :: b :: t, hl =>
      have h0 := h 0 p rfl
      simp only [Nat.zero_mul, List.getElem?_cons_zero, Option.some.injEq, Nat.zero_add, List.getElem?_cons_succ] at h0
      rw [h0.1, h0.2, pcells]
      congr 2
      refine pcells_ext r t (by simp at hl ⊢; omega) fun i q hq => ?_
      have := h (i + 1) q (by simpa using hq)
      rw [show (i + 1) * 2 = i * 2 + 1 + 1 by omega] at this
      simpa using this
    | [a], hl => simp at hl; omega
    | [], hl => simp at hl
theorem Filled.end_ {wr : World} {g : Nat} {ps : PS} (h : Filled wr g ps ps.length) : wr.ownsRow g 172 2 (.slice (some ⟨g, 0, none⟩) ps.length ps.length) ps.length (pcells ps) := by
  obtain ⟨xs, ho, hx⟩ := h
  have : xs = pcells ps := pcells_ext ps xs ho.1 fun i p hp => hx i p hp (List.getElem?_eq_some_iff.1 hp).1
  rwa [this] at ho
theorem Filled.cells {wr : World} {g : Nat} {ps : PS} {k : Nat} (h : Filled wr g ps k) (hk : k < ps.length) : ∃ u v, wr.cell? ⟨g, k * 2, none⟩ = some u ∧ wr.cell? ⟨g, k * 2 + 1, none⟩ = some v := by
  obtain ⟨xs, ho, hx⟩ := h
  have hl := ho.1
  refine ⟨_, _, (ho.cellAt (k * 2) (by omega)).trans (List.getElem?_eq_getElem (by omega)), (ho.cellAt (k * 2 + 1) (by omega)).trans (List.getElem?_eq_getElem (by omega))⟩
theorem Filled.frozen {wr : World} {g : Nat} {ps : PS} {k : Nat} (h : Filled wr g ps k) (j : Nat) : wr.frozen? ⟨g, j, none⟩ = false := by
  obtain ⟨xs, ho, hx⟩ := h
  exact ho.frozenAt j
theorem Filled.grown {wr w' : World} {g : Nat} {ps : PS} {k : Nat} (h : Filled wr g ps k) (hg : wr.grownBy w' none) : Filled w' g ps k := by
  obtain ⟨xs, ho, hx⟩ := h
  exact ⟨xs, ho.kept hg (.inr (by simp [Value.ownBlock])), hx⟩
theorem Filled.store {wr : World} {g : Nat} {ps : PS} {k : Nat} (h : Filled wr g ps k) (hk : k < ps.length) : Filled ((wr.setCell ⟨g, k * 2, none⟩ (.string ps[k].1)).setCell ⟨g, k * 2 + 1, none⟩ (.string ps[k].2)) g ps (k + 1) := by
  obtain ⟨xs, ho, hx⟩ := h
  have hl := ho.1
  refine ⟨_, ((ho.stored (k * 2) (.string ps[k].1)).1.stored (k * 2 + 1) (.string ps[k].2)).1, fun i p hp hi => ?_⟩
  by_cases e : i = k
  · subst e
    have hp' : ps[i] = p := by rw [List.getElem?_eq_getElem hk] at hp; exact Option.some.inj hp
    subst hp'
    constructor
    · rw [List.getElem?_set_ne (by omega), List.getElem?_set_self (by omega)]
    · rw [List.getElem?_set_self (by simp; omega)]
  · obtain ⟨h1, h2⟩ := hx i p hp (by omega)
    rw [List.getElem?_set_ne (by omega), List.getElem?_set_ne (by omega), List.getElem?_set_ne (by omega), List.getElem?_set_ne (by omega)]
    exact ⟨h1, h2⟩

set_option maxHeartbeats 1000000 in
theorem toPairS_any (A : Option Addr) (c : Nat) (ps : PS) (w : World) (hr : RP w w.heap.size A ps) (hn : ps.length ≤ 1048576) :
    Calls Try.prog 132 #[.slice A ps.length c] w (Made w w.heap.size ps) := by
  obtain ⟨i0, hi, hz0, hz1, hz2⟩ := info_parts pairInfo
  go_enter Try.func132, Try.ntmps132
  go_wp2_with (at_make; refine wpList_make_full _ rfl _ _ 125 rfl w.heap.size 172 i0 _ 2 Try.underlying125 hi hz0 hz1 _ _ _ _ ps.length rfl rfl rfl rfl (by rw [hz2]; omega) (by unfold maxLen; omega) (Nat.le_refl _) ?_; intro w1 hown1 hg1)
  have hb1 : Below w.heap.size w w1 := (Below.refl _ _).grown hg1 (Nat.le_refl _) (by simp)
  have HO := hid hown1
  have HB := hid hb1
  clear hown1 hg1 hb1
  go_wp2_with fail
  go_loopw [4] (fun i wr => ∃ k : Nat, k ≤ ps.length ∧ i = .int .i64 k ∧ Filled wr w.heap.size ps k ∧ Below w.heap.size w wr) (fun i _ => ps.length - (intOf i).toNat)
  case atStart => exact ⟨0, Nat.zero_le _, rfl, Filled.start HO.out, HB.out⟩
  case round =>
    obtain ⟨k, hk, rfl, hfl, hbw⟩ := hrel
    by_cases hlt : k < ps.length
    · obtain ⟨b, off, rfl, hb, hc1, hc2⟩ := (hr.below hbw).at_ hlt
      have HF := hid hfl
      have HD := hid hbw
      clear hfl hbw hr
      go_wp2_with (go_at_call 149; refine (toPair_any ps[k] _).mono ?_; rintro e w' ⟨rfl, hw⟩; have HF2 := hid (HF.out.grown (below_grown hw)); obtain ⟨u, v, hu, hv⟩ := HF2.out.cells hlt; have f1 := HF2.out.frozen (k * 2); have f2 := HF2.out.frozen (k * 2 + 1))
      refine ⟨⟨k + 1, by omega, by go_num, HF2.out.store hlt, ?_⟩, by simp [intOf]; omega⟩
      exact ((HD.out.trans (hw.mono HD.out.size)).setCell (by simp) _).setCell (by simp) _
    · obtain rfl : k = ps.length := by omega
      have HF := hid hfl
      have HD := hid hbw
      clear hfl hbw hr
      go_wp2_with fail
      go_ret
      exact ⟨_, _, rfl, HF.out.end_, HD.out⟩
end Go.Proofs.Ytaiehccpefjbfaa
