/-
  SnapsNew of both, and what its law goes through.
-/
import Derived.Test.YtaiehccpefjbfaaShNew
import Derived.RangeFuncSeq
namespace Go.Proofs.Ytaiehccpefjbfaa
open Go.RowKit

abbrev snV (g : Nat) : Value := .agg #[.slice (some ⟨g, 0, none⟩) 1 1, .int .i64 1, .int .i64 1, .int .i64 2, .slice none 0 0]
/-- A new store of one bare page, nothing taken. -/
def NewSn (w : World) (e : Ending) (w' : World) : Prop := ∃ g, e = .returned (snV g) ∧ w.heap.size ≤ g ∧ Bare w' g ∧ Below w.heap.size w w'
/-- A block of five cells. -/
def Five (w : World) (b : Nat) (t : TypeId) (x0 x1 x2 x3 x4 : Value) : Prop := w.heap[b]? = some (.cells #[x0, x1, x2, x3, x4] t (0, 0))
section
variable {w : World} {b : Nat} {t : TypeId} {x0 x1 x2 x3 x4 : Value}
theorem Five.c0 (h : Five w b t x0 x1 x2 x3 x4) : w.cell? ⟨b, 0, none⟩ = some x0 := by simp [World.cell?, show w.heap[b]? = _ from h]
theorem Five.c1 (h : Five w b t x0 x1 x2 x3 x4) : w.cell? ⟨b, 1, none⟩ = some x1 := by simp [World.cell?, show w.heap[b]? = _ from h]
theorem Five.c2 (h : Five w b t x0 x1 x2 x3 x4) : w.cell? ⟨b, 2, none⟩ = some x2 := by simp [World.cell?, show w.heap[b]? = _ from h]
theorem Five.c3 (h : Five w b t x0 x1 x2 x3 x4) : w.cell? ⟨b, 3, none⟩ = some x3 := by simp [World.cell?, show w.heap[b]? = _ from h]
theorem Five.c4 (h : Five w b t x0 x1 x2 x3 x4) : w.cell? ⟨b, 4, none⟩ = some x4 := by simp [World.cell?, show w.heap[b]? = _ from h]
theorem Five.fz (h : Five w b t x0 x1 x2 x3 x4) (j : Nat) : w.frozen? ⟨b, j, none⟩ = false := by simp [World.frozen?, show w.heap[b]? = _ from h]
theorem Five.s0 (h : Five w b t x0 x1 x2 x3 x4) (u : Value) : Five (w.setCell ⟨b, 0, none⟩ u) b t u x1 x2 x3 x4 := by
  show (w.heap.modify b _)[b]? = _
  rw [Array.getElem?_modify, if_pos rfl, show w.heap[b]? = _ from h]
  rfl
theorem Five.s1 (h : Five w b t x0 x1 x2 x3 x4) (u : Value) : Five (w.setCell ⟨b, 1, none⟩ u) b t x0 u x2 x3 x4 := by
  show (w.heap.modify b _)[b]? = _
  rw [Array.getElem?_modify, if_pos rfl, show w.heap[b]? = _ from h]
  rfl
theorem Five.s2 (h : Five w b t x0 x1 x2 x3 x4) (u : Value) : Five (w.setCell ⟨b, 2, none⟩ u) b t x0 x1 u x3 x4 := by
  show (w.heap.modify b _)[b]? = _
  rw [Array.getElem?_modify, if_pos rfl, show w.heap[b]? = _ from h]
  rfl
theorem Five.s3 (h : Five w b t x0 x1 x2 x3 x4) (u : Value) : Five (w.setCell ⟨b, 3, none⟩ u) b t x0 x1 x2 u x4 := by
  show (w.heap.modify b _)[b]? = _
  rw [Array.getElem?_modify, if_pos rfl, show w.heap[b]? = _ from h]
  rfl
theorem Five.s4 (h : Five w b t x0 x1 x2 x3 x4) (u : Value) : Five (w.setCell ⟨b, 4, none⟩ u) b t x0 x1 x2 x3 u := by
  show (w.heap.modify b _)[b]? = _
  rw [Array.getElem?_modify, if_pos rfl, show w.heap[b]? = _ from h]
  rfl
end
/-- A block with such a one. -/
def Row5 (w : World) (b g : Nat) : Prop := w.ownsRow b 68 1 (.slice (some ⟨b, 0, none⟩) 5 5) 5 [.slice (some ⟨g, 0, none⟩) 1 1, .int .i64 1, .int .i64 1, .int .i64 2, .slice none 0 0]
theorem Row5.lit (w : World) (g : Nat) : Row5 (w.alloc (.cells #[.slice (some ⟨g, 0, none⟩) 1 1, .int .i64 1, .int .i64 1, .int .i64 2, .slice none 0 0] 68)) w.heap.size g :=
  World.ownsRow_lit w #[.slice (some ⟨g, 0, none⟩) 1 1, .int .i64 1, .int .i64 1, .int .i64 2, .slice none 0 0] 5 (Nat.le_refl _) (by unfold maxLen; omega) rfl
section
variable {w w' : World} {b g : Nat}
theorem Row5.below (h : Row5 w b g) (hb : Below w.heap.size w w') : Row5 w' b g := h.kept (below_grown hb) (.inr (by simp [Value.ownBlock]))
theorem Row5.grown (h : Row5 w b g) {k : Nat} (hg : w.grownBy w' (some k)) (hne : b ≠ k) : Row5 w' b g := h.kept hg (.inr (by simp [Value.ownBlock]; omega))
theorem Row5.c0 (h : Row5 w b g) : w.cell? ⟨b, 0, none⟩ = some (.slice (some ⟨g, 0, none⟩) 1 1) := h.cellAt 0 (by omega)
theorem Row5.c1 (h : Row5 w b g) : w.cell? ⟨b, 1, none⟩ = some (.int .i64 1) := h.cellAt 1 (by omega)
theorem Row5.c2 (h : Row5 w b g) : w.cell? ⟨b, 2, none⟩ = some (.int .i64 1) := h.cellAt 2 (by omega)
theorem Row5.c3 (h : Row5 w b g) : w.cell? ⟨b, 3, none⟩ = some (.int .i64 2) := h.cellAt 3 (by omega)
theorem Row5.c4 (h : Row5 w b g) : w.cell? ⟨b, 4, none⟩ = some (.slice none 0 0) := h.cellAt 4 (by omega)
theorem Row5.lt (h : Row5 w b g) : b < w.heap.size := (World.ownsRow.lt h b rfl).2
theorem Bare.away (h : Bare w g) (x j : Nat) (hne : g ≠ x) (u : Value) : Bare (w.setCell ⟨x, j, none⟩ u) g := h.grown ⟨rfl, rfl, rfl, (KeepsWalks.setCell w _ u).size, fun k _ hk => Below.heap_setCell _ _ _ k (fun e => hk (by rw [e]))⟩ hne
end

set_option maxHeartbeats 1000000 in
theorem impl_SnapsNew (w : World) : Calls Try.prog 36 #[] w (NewSn w) := by
  have HB0 : Hid (Below w.heap.size w (w.alloc (.cells #[.slice none 0 0, .int .i64 0, .int .i64 0, .int .i64 0, .slice none 0 0] 68))) := (Below.refl _ _).alloc (Nat.le_refl _) _
  go_enter Try.func36, Try.ntmps36
  go_wp2_with fail
  refine (impl_ShadowNew _).mono ?_
  rintro e w1 ⟨g, rfl, hg, hp, hb⟩
  have hx : w1.heap[w.heap.size]? = some (.cells #[.slice none 0 0, .int .i64 0, .int .i64 0, .int .i64 0, .slice none 0 0] 68 (0, 0)) := (hb.block _ (by simp)).trans (heap_alloc_new w _)
  have ha : Below w1.heap.size w1 (w1.alloc (.cells #[.slice (some ⟨g, 0, none⟩) 1 1, .int .i64 1, .int .i64 1, .int .i64 2] 112)) := (Below.refl _ _).alloc (Nat.le_refl _) _
  have HX := hid ((ha.block _ (lt_of_block hx)).trans hx)
  have HP := hid (hp.below ha)
  have HB := hid (HB0.out.trans ((hb.trans (ha.mono hb.size)).mono HB0.out.size))
  have HG := hid hg
  have HR := hid (Row4.lit w1 g)
  have HLT := hid (lt_of_block hx)
  clear hx hp hb hg ha
  have a0 := HR.out.c0
  have a1 := HR.out.c1
  have a2 := HR.out.c2
  have a3 := HR.out.c3
  have hne : w.heap.size ≠ w1.heap.size := by have := HLT.out; omega
  have HF : Hid (Five _ w.heap.size 68 (.slice none 0 0) (.int .i64 0) (.int .i64 0) (.int .i64 0) (.slice none 0 0)) := HX.out
  have f0 := HF.out.c0
  have f1 := HF.out.c1
  have f2 := HF.out.c2
  have f3 := HF.out.c3
  have f4 := HF.out.c4
  have z0 := HF.out.fz 0
  have z1 := HF.out.fz 1
  have z2 := HF.out.fz 2
  have z3 := HF.out.fz 3
  have z4 := HF.out.fz 4
  have HH : Hid (w.heap.size + 1 ≤ g) := by have := HG.out; simp at this; exact this
  go_wp2_with fail
  generalize hq1 : w1.alloc (.cells #[.slice (some ⟨g, 0, none⟩) 1 1, .int .i64 1, .int .i64 1, .int .i64 2] 112) = v1 at *
  have k := ((((HF.out.s0 (.slice (some ⟨g, 0, none⟩) 1 1)).s1 (.int .i64 1)).s2 (.int .i64 1)).s3 (.int .i64 2)).s4 (.slice none 0 0)
  have k0 := k.c0
  have k1 := k.c1
  have k2 := k.c2
  have k3 := k.c3
  have k4 := k.c4
  refine bodyPost_ret (v := snV g) (by simp [results, Try.results36, go_sem, k0, k1, k2, k3, k4]) rfl ⟨g, rfl, by have := HH.out; omega, ?_, ?_⟩
  · exact (((((HP.out.away w.heap.size 0 (by have := HH.out; omega) _).away w.heap.size 1 (by have := HH.out; omega) _).away w.heap.size 2 (by have := HH.out; omega) _).away w.heap.size 3 (by have := HH.out; omega) _).away w.heap.size 4 (by have := HH.out; omega) _)
  · exact ((((HB.out.setCell (p := ⟨w.heap.size, 0, none⟩) (Nat.le_refl _) _).setCell (p := ⟨w.heap.size, 1, none⟩) (Nat.le_refl _) _).setCell (p := ⟨w.heap.size, 2, none⟩) (Nat.le_refl _) _).setCell (p := ⟨w.heap.size, 3, none⟩) (Nat.le_refl _) _).setCell (p := ⟨w.heap.size, 4, none⟩) (Nat.le_refl _) _

set_option maxHeartbeats 1000000 in
theorem spec_SnapsNew (w : World) : Calls Try.prog 35 #[] w (NewSn w) := by
  have HB0 : Hid (Below w.heap.size w (w.alloc (.cells #[.slice none 0 0, .int .i64 0, .int .i64 0, .int .i64 0, .slice none 0 0] 68))) := (Below.refl _ _).alloc (Nat.le_refl _) _
  go_enter Try.func35, Try.ntmps35
  go_wp2_with fail
  refine (spec_ShadowNew _).mono ?_
  rintro e w1 ⟨g, rfl, hg, hp, hb⟩
  have hx : w1.heap[w.heap.size]? = some (.cells #[.slice none 0 0, .int .i64 0, .int .i64 0, .int .i64 0, .slice none 0 0] 68 (0, 0)) := (hb.block _ (by simp)).trans (heap_alloc_new w _)
  have ha : Below w1.heap.size w1 (w1.alloc (.cells #[.slice (some ⟨g, 0, none⟩) 1 1, .int .i64 1, .int .i64 1, .int .i64 2] 112)) := (Below.refl _ _).alloc (Nat.le_refl _) _
  have HX := hid ((ha.block _ (lt_of_block hx)).trans hx)
  have HP := hid (hp.below ha)
  have HB := hid (HB0.out.trans ((hb.trans (ha.mono hb.size)).mono HB0.out.size))
  have HG := hid hg
  have HR := hid (Row4.lit w1 g)
  have HLT := hid (lt_of_block hx)
  clear hx hp hb hg ha
  have a0 := HR.out.c0
  have a1 := HR.out.c1
  have a2 := HR.out.c2
  have a3 := HR.out.c3
  have hne : w.heap.size ≠ w1.heap.size := by have := HLT.out; omega
  have HF : Hid (Five _ w.heap.size 68 (.slice none 0 0) (.int .i64 0) (.int .i64 0) (.int .i64 0) (.slice none 0 0)) := HX.out
  have f0 := HF.out.c0
  have f1 := HF.out.c1
  have f2 := HF.out.c2
  have f3 := HF.out.c3
  have f4 := HF.out.c4
  have z0 := HF.out.fz 0
  have z1 := HF.out.fz 1
  have z2 := HF.out.fz 2
  have z3 := HF.out.fz 3
  have z4 := HF.out.fz 4
  have HH : Hid (w.heap.size + 1 ≤ g) := by have := HG.out; simp at this; exact this
  go_wp2_with fail
  generalize hq1 : w1.alloc (.cells #[.slice (some ⟨g, 0, none⟩) 1 1, .int .i64 1, .int .i64 1, .int .i64 2] 112) = v1 at *
  have k := ((((HF.out.s0 (.slice (some ⟨g, 0, none⟩) 1 1)).s1 (.int .i64 1)).s2 (.int .i64 1)).s3 (.int .i64 2)).s4 (.slice none 0 0)
  have k0 := k.c0
  have k1 := k.c1
  have k2 := k.c2
  have k3 := k.c3
  have k4 := k.c4
  refine bodyPost_ret (v := snV g) (by simp [results, Try.results35, go_sem, k0, k1, k2, k3, k4]) rfl ⟨g, rfl, by have := HH.out; omega, ?_, ?_⟩
  · exact (((((HP.out.away w.heap.size 0 (by have := HH.out; omega) _).away w.heap.size 1 (by have := HH.out; omega) _).away w.heap.size 2 (by have := HH.out; omega) _).away w.heap.size 3 (by have := HH.out; omega) _).away w.heap.size 4 (by have := HH.out; omega) _)
  · exact ((((HB.out.setCell (p := ⟨w.heap.size, 0, none⟩) (Nat.le_refl _) _).setCell (p := ⟨w.heap.size, 1, none⟩) (Nat.le_refl _) _).setCell (p := ⟨w.heap.size, 2, none⟩) (Nat.le_refl _) _).setCell (p := ⟨w.heap.size, 3, none⟩) (Nat.le_refl _) _).setCell (p := ⟨w.heap.size, 4, none⟩) (Nat.le_refl _) _

set_option maxHeartbeats 1000000 in
theorem eqSnapS_nil (w : World) :
    Calls Try.prog 82 #[.slice none 0 0, .slice none 0 0] w fun e w' => e = .returned (.bool true) ∧ w = w' := by
  go_enter Try.func82, Try.ntmps82
  go_wp2_with fail
  go_loop [5] (fun i => i = .int .i64 0) (fun _ => 0)
  case atStart => rfl
  case round =>
    obtain rfl := hrel
    go_wp2_with fail
    go_ret
    exact ⟨rfl, rfl⟩

set_option maxHeartbeats 1000000 in
theorem markSnapS_nil (k : Int) (w : World) :
    Calls Try.prog 84 #[.slice none 0 0, .int .i64 k] w fun e w' => e = .returned (.int .i64 k) ∧ w = w' := by
  go_enter Try.func84, Try.ntmps84
  go_wp2_with fail
  go_loop [1, 5] (fun q i => i = .int .i64 0 ∧ q = .int .i64 k) (fun _ _ => 0)
  case atStart => exact ⟨rfl, rfl⟩
  case round =>
    obtain ⟨rfl, rfl⟩ := hrel
    go_wp2_with fail
    go_ret
    exact ⟨rfl, rfl⟩

set_option maxHeartbeats 1000000 in
theorem heldSnapS_nil (k : Int) (w : World) :
    Calls Try.prog 86 #[.slice none 0 0, .int .i64 k] w fun e w' => e = .returned (.int .i64 k) ∧ w = w' := by
  go_enter Try.func86, Try.ntmps86
  go_wp2_with fail
  go_loop [1, 5] (fun q i => i = .int .i64 0 ∧ q = .int .i64 k) (fun _ _ => 0)
  case atStart => exact ⟨rfl, rfl⟩
  case round =>
    obtain ⟨rfl, rfl⟩ := hrel
    go_wp2_with fail
    go_ret
    exact ⟨rfl, rfl⟩

set_option maxHeartbeats 1000000 in
theorem eqSnaps_new (g g' : Nat) (w : World) (h : Bare w g) (h' : Bare w g') :
    Calls Try.prog 37 #[snV g, snV g'] w fun e w' => e = .returned (.bool true) ∧ Below w.heap.size w w' := by
  have HB : Hid (∀ o o' : Obj, Below w.heap.size w ((w.alloc o).alloc o')) := fun o o' => ((Below.refl _ _).alloc (Nat.le_refl _) o).alloc (by simp) o'
  have H := hid h
  have H' := hid h'
  clear h h'
  go_enter Try.func37, Try.ntmps37
  go_wp2_with fail
  refine (eqPageS_bare g g' _ (H.out.below (HB.out _ _)) (H'.out.below (HB.out _ _))).mono ?_
  rintro e w1 ⟨rfl, hb1⟩
  have HB1 := hid ((HB.out _ _).trans (hb1.mono (HB.out _ _).size))
  have a1 : w1.cell? ⟨w.heap.size, 1, none⟩ = some (.int .i64 1) := (hb1.cell (p := ⟨w.heap.size, 1, none⟩) (by simp; omega)).trans (by go_simp)
  have a2 : w1.cell? ⟨w.heap.size, 2, none⟩ = some (.int .i64 1) := (hb1.cell (p := ⟨w.heap.size, 2, none⟩) (by simp; omega)).trans (by go_simp)
  have a3 : w1.cell? ⟨w.heap.size, 3, none⟩ = some (.int .i64 2) := (hb1.cell (p := ⟨w.heap.size, 3, none⟩) (by simp; omega)).trans (by go_simp)
  have a4 : w1.cell? ⟨w.heap.size, 4, none⟩ = some (.slice none 0 0) := (hb1.cell (p := ⟨w.heap.size, 4, none⟩) (by simp; omega)).trans (by go_simp)
  have b1 : w1.cell? ⟨w.heap.size + 1, 1, none⟩ = some (.int .i64 1) := (hb1.cell (p := ⟨w.heap.size + 1, 1, none⟩) (by simp)).trans (by go_simp)
  have b2 : w1.cell? ⟨w.heap.size + 1, 2, none⟩ = some (.int .i64 1) := (hb1.cell (p := ⟨w.heap.size + 1, 2, none⟩) (by simp)).trans (by go_simp)
  have b3 : w1.cell? ⟨w.heap.size + 1, 3, none⟩ = some (.int .i64 2) := (hb1.cell (p := ⟨w.heap.size + 1, 3, none⟩) (by simp)).trans (by go_simp)
  have b4 : w1.cell? ⟨w.heap.size + 1, 4, none⟩ = some (.slice none 0 0) := (hb1.cell (p := ⟨w.heap.size + 1, 4, none⟩) (by simp)).trans (by go_simp)
  have HLT : Hid (w.heap.size + 1 < w1.heap.size) := by have := hb1.size; simp at this; rw [Hid]; omega
  clear hb1
  go_wp2_with fail
  refine (eqSuper_new _).mono ?_
  rintro e w2 ⟨rfl, hb2⟩
  have HB2 := hid (HB1.out.trans (hb2.mono HB1.out.size))
  have c4 := (hb2.cell (p := ⟨w.heap.size, 4, none⟩) (by have := HLT.out; simp; omega)).trans a4
  have d4 := (hb2.cell (p := ⟨w.heap.size + 1, 4, none⟩) (by have := HLT.out; simp; omega)).trans b4
  clear hb2 a1 a2 a3 a4 b1 b2 b3 b4
  go_wp2_with fail
  refine (eqSnapS_nil _).mono ?_
  rintro e w3 ⟨rfl, rfl⟩
  go_wp2_with fail
  go_ret
  exact ⟨rfl, HB2.out⟩
theorem markSnaps_new (g : Nat) (w : World) (h : Bare w g) :
    Calls Try.prog 38 #[snV g, .int .i64 1] w fun e w' => e = .returned (.int .i64 2) ∧ Bare w' g ∧ w.grownBy w' (some g) := by
  have H := hid h
  have HB : Hid (∀ o : Obj, Below w.heap.size w (w.alloc o)) := fun o => (Below.refl _ _).alloc (Nat.le_refl _) o
  have HG : Hid (∀ o : Obj, w.grownBy ((w.alloc o).setCell ⟨g, 0, none⟩ (.int .i64 1)) (some g)) := fun o =>
    have h1 : w.grownBy (w.alloc o) (some g) := ⟨(HB.out o).os, (HB.out o).tape, (HB.out o).output, (HB.out o).size, fun k hk _ => (HB.out o).block k hk⟩
    have h2 : (w.alloc o).grownBy ((w.alloc o).setCell ⟨g, 0, none⟩ (.int .i64 1)) (some g) := ((H.out.below (HB.out o)).stored 0 (.int .i64 1)).2
    ⟨h2.os.trans h1.os, h2.tape.trans h1.tape, h2.output.trans h1.output, Nat.le_trans h1.size h2.size, fun k hk hr => (h2.block k (Nat.lt_of_lt_of_le hk h1.size) hr).trans (h1.block k hk hr)⟩
  have hlt := h.lt
  clear h
  go_enter Try.func38, Try.ntmps38
  go_wp2_with fail
  refine (markPageS_bare g _ (H.out.below (HB.out _))).mono ?_
  rintro e w1 ⟨rfl, hw1⟩
  have HX : Hid (Bare w1 g ∧ w.grownBy w1 (some g)) := by
    rw [hw1]
    exact ⟨Row3.s0 (H.out.below (HB.out _)) _, HG.out _⟩
  have a4 : w1.cell? ⟨w.heap.size, 4, none⟩ = some (.slice none 0 0) := by
    rw [hw1]
    exact (World.cell?_of_block (a := ⟨w.heap.size, 4, none⟩) (Below.heap_setCell _ ⟨g, 0, none⟩ _ w.heap.size (by show w.heap.size ≠ g; omega))).trans (by go_simp)
  clear hw1
  go_wp2_with fail
  refine (markSnapS_nil _ _).mono ?_
  rintro e w2 ⟨rfl, rfl⟩
  go_wp2_with fail
  go_ret
  exact ⟨rfl, HX.out⟩
theorem heldSnaps_new (g : Nat) (w : World) (h : Bare w g) :
    Calls Try.prog 39 #[snV g, .int .i64 1] w fun e w' => e = .returned (.int .i64 2) ∧ Below w.heap.size w w' := by
  have H := hid h
  have HB : Hid (∀ o : Obj, Below w.heap.size w (w.alloc o)) := fun o => (Below.refl _ _).alloc (Nat.le_refl _) o
  clear h
  go_enter Try.func39, Try.ntmps39
  go_wp2_with fail
  refine (heldPageS_bare g _ (H.out.below (HB.out _))).mono ?_
  rintro e w1 ⟨rfl, hw1⟩
  have HX : Hid (Below w.heap.size w w1) := by
    rw [hw1]
    exact HB.out _
  have a4 : w1.cell? ⟨w.heap.size, 4, none⟩ = some (.slice none 0 0) := by
    rw [hw1]
    go_simp
  clear hw1
  go_wp2_with fail
  refine (heldSnapS_nil _ _).mono ?_
  rintro e w2 ⟨rfl, rfl⟩
  go_wp2_with fail
  go_ret
  exact ⟨rfl, HX.out⟩
end Go.Proofs.Ytaiehccpefjbfaa
