/-
  Do: what it answers; the model's l10Act and Do: contracts (tools/mkdska.py).
-/
import Derived.Test.YtaiehccpefjbfaaDskN
import Derived.Deep.CutRange
namespace Go.Proofs.Ytaiehccpefjbfaa
open Go.RowKit Go.Shelf

/-! ### plain -/
def actC (D : DK) (x : DD) : Int := if formB x then (if (onD D.live x).2 then (if decide (D.ops.length < 200) && fitB (onD D.live x).1 then 0 else 4) else 3) else 2
def actD (D : DK) (x : DD) : DK := if actC D x = 0 then ⟨(onD D.live x).1, D.safe, D.ops ++ [x]⟩ else D
def doC (D : DK) (x : DD) : Int := if diskD D then actC D x else 1
def doR (D : DK) (x : DD) : DK := if diskD D then actD D x else ⟨[], [], []⟩
theorem act_form {D : DK} {x : DD} (h : formB x = false) : actC D x = 2 ∧ actD D x = D := by simp [actD, actC, h]
theorem act_none {D : DK} {x : DD} (h : formB x = true) (h2 : (onD D.live x).2 = false) : actC D x = 3 ∧ actD D x = D := by simp [actD, actC, h, h2]
theorem act_full {D : DK} {x : DD} (h : formB x = true) (h2 : (onD D.live x).2 = true) (h3 : D.ops.length < 200 → fitB (onD D.live x).1 = false) : actC D x = 4 ∧ actD D x = D := by
  have : (decide (D.ops.length < 200) && fitB (onD D.live x).1) = false := by
    by_cases h4 : D.ops.length < 200
    · simp [h3 h4]
    · simp [h4]
  simp [actD, actC, h, h2, this]
theorem act_ok {D : DK} {x : DD} (h : formB x = true) (h2 : (onD D.live x).2 = true) (h3 : D.ops.length < 200) (h4 : fitB (onD D.live x).1 = true) : actC D x = 0 ∧ actD D x = ⟨(onD D.live x).1, D.safe, D.ops ++ [x]⟩ := by
  have : (decide (D.ops.length < 200) && fitB (onD D.live x).1) = true := by simp [h3, h4]
  simp [actD, actC, h, h2, this]
theorem actD_len {D : DK} {x : DD} (h : LenK D 400) : LenK (actD D x) 401 := by
  unfold actD
  split
  · have := onD_len D.live x
    obtain ⟨h1, h2, h3⟩ := h
    exact ⟨by show (onD D.live x).1.length ≤ 401; omega, by show D.safe.length ≤ 401; omega, by simp; omega⟩
  · exact h.more (by decide)
theorem LenK.sub {D : DK} {n : Nat} (h : LenK D n) : D.live.length ≤ n ∧ D.safe.length ≤ n ∧ D.ops.length ≤ n := h
/-- An op in a block of four cells. -/
def Opc (w : World) (g : Nat) (x : DD) : Prop := g < w.heap.size ∧ w.cell? ⟨g, 0, none⟩ = some (.int .i64 x.1) ∧ w.cell? ⟨g, 1, none⟩ = some (.string x.2.1) ∧ w.cell? ⟨g, 2, none⟩ = some (.string x.2.2.1) ∧ w.cell? ⟨g, 3, none⟩ = some (.string x.2.2.2)
theorem Opc.below {w w' : World} {g : Nat} {x : DD} (h : Opc w g x) (hb : Below w.heap.size w w') : Opc w' g x := by
  obtain ⟨h0, h1, h2, h3, h4⟩ := h
  exact ⟨Nat.lt_of_lt_of_le h0 hb.size, (hb.cell (p := ⟨g, _, none⟩) h0).trans h1, (hb.cell (p := ⟨g, _, none⟩) h0).trans h2, (hb.cell (p := ⟨g, _, none⟩) h0).trans h3, (hb.cell (p := ⟨g, _, none⟩) h0).trans h4⟩
theorem Opc.lit (w : World) (x : DD) (T : TypeId) : Opc (w.alloc (.cells #[.int .i64 x.1, .string x.2.1, .string x.2.2.1, .string x.2.2.2] T)) w.heap.size x := by
  have hb : (w.alloc (.cells #[.int .i64 x.1, .string x.2.1, .string x.2.2.1, .string x.2.2.2] T)).heap[w.heap.size]? = some (.cells #[.int .i64 x.1, .string x.2.1, .string x.2.2.1, .string x.2.2.2] T (0, 0)) := heap_alloc_new w _
  refine ⟨by simp, ?_, ?_, ?_, ?_⟩ <;> (rw [cell_of_row _ _ _ _ _ _ hb]; rfl)
/-- A disk of the call's own, and a code. -/
def MadeKC (w : World) (B : Nat) (D : DK) (c : Int) (e : Ending) (w' : World) : Prop :=
  ∃ V : DV, e = .returned (.tuple #[.agg #[.slice V.A D.live.length V.c, .slice V.K D.safe.length V.d, .slice V.O D.ops.length V.o], .int .i64 c]) ∧ OwnK w' B V D ∧ Below w.heap.size w w'
theorem three_boxes (w : World) (V : DV) (D : DK) (x : DD) :
    Row3 (((w.alloc (.cells #[.slice V.A D.live.length V.c, .slice V.K D.safe.length V.d, .slice V.O D.ops.length V.o] 33)).alloc (.cells #[.int .i64 x.1, .string x.2.1, .string x.2.2.1, .string x.2.2.2] 37)).alloc (.cells #[.slice none 0 0, .slice none 0 0, .slice none 0 0] 33)) w.heap.size 33 (.slice V.A D.live.length V.c) (.slice V.K D.safe.length V.d) (.slice V.O D.ops.length V.o) ∧
    Opc (((w.alloc (.cells #[.slice V.A D.live.length V.c, .slice V.K D.safe.length V.d, .slice V.O D.ops.length V.o] 33)).alloc (.cells #[.int .i64 x.1, .string x.2.1, .string x.2.2.1, .string x.2.2.2] 37)).alloc (.cells #[.slice none 0 0, .slice none 0 0, .slice none 0 0] 33)) (w.heap.size + 1) x ∧
    Row3 (((w.alloc (.cells #[.slice V.A D.live.length V.c, .slice V.K D.safe.length V.d, .slice V.O D.ops.length V.o] 33)).alloc (.cells #[.int .i64 x.1, .string x.2.1, .string x.2.2.1, .string x.2.2.2] 37)).alloc (.cells #[.slice none 0 0, .slice none 0 0, .slice none 0 0] 33)) (w.heap.size + 2) 33 (.slice none 0 0) (.slice none 0 0) (.slice none 0 0) ∧
    Below w.heap.size w (((w.alloc (.cells #[.slice V.A D.live.length V.c, .slice V.K D.safe.length V.d, .slice V.O D.ops.length V.o] 33)).alloc (.cells #[.int .i64 x.1, .string x.2.1, .string x.2.2.1, .string x.2.2.2] 37)).alloc (.cells #[.slice none 0 0, .slice none 0 0, .slice none 0 0] 33)) := by
  have h0 := Row3.lit w 33 (.slice V.A D.live.length V.c) (.slice V.K D.safe.length V.d) (.slice V.O D.ops.length V.o)
  have h1 := Opc.lit (w.alloc (.cells #[.slice V.A D.live.length V.c, .slice V.K D.safe.length V.d, .slice V.O D.ops.length V.o] 33)) x 37
  have h2 := Row3.lit ((w.alloc (.cells #[.slice V.A D.live.length V.c, .slice V.K D.safe.length V.d, .slice V.O D.ops.length V.o] 33)).alloc (.cells #[.int .i64 x.1, .string x.2.1, .string x.2.2.1, .string x.2.2.2] 37)) 33 (.slice none 0 0) (.slice none 0 0) (.slice none 0 0)
  simp only [World.size_alloc] at h1 h2
  exact ⟨(h0.below (bl_alloc (Below.refl _ _))).below (bl_alloc (Below.refl _ _)), h1.below (bl_alloc (Below.refl _ _)), h2, bl_alloc (bl_alloc (bl_alloc (Below.refl _ _)))⟩

set_option maxHeartbeats 16000000 in
set_option maxRecDepth 100000 in
theorem spec_l10Act (V : DV) (D : DK) (x : DD) (w : World) (hr : RK w w.heap.size V D) (hd : diskD D = true) (hx : SmallX x 4000000) :
    Calls Try.prog 48 #[.agg #[.slice V.A D.live.length V.c, .slice V.K D.safe.length V.d, .slice V.O D.ops.length V.o], .agg #[.int .i64 x.1, .string x.2.1, .string x.2.2.1, .string x.2.2.2]] w (MadeKC w w.heap.size (actD D x) (actC D x)) := by
  obtain ⟨h0, h1, h2, hb⟩ := three_boxes w V D x
  have X := hid h0
  have OP := hid h1
  have Y := hid h2
  have HYL := hid h2.lt
  have HB := hid hb
  have HR := hid ((hr.below hb).more hb.size)
  have HLN := hid ((diskD_len hd).more (by decide : 200 ≤ 1000))
  have HFL := hid (diskB_live hd)
  have hln := (fitB_iff.1 (filesB_iff.1 (diskB_live hd)).1).1
  have hop := (diskD_len hd).2.2
  have HSM := hid (filesB_small (diskB_live hd))
  have HX := hid hx
  have HOS := hid (onD_small (filesB_small (diskB_live hd)) hx)
  have hol := onD_len D.live x
  clear hr h0 h1 h2 hb hx
  have HFORM := hid (fun wa => spec_l10Form x wa ⟨Nat.le_trans HX.out.1 (by decide), Nat.le_trans HX.out.2.1 (by decide), Nat.le_trans HX.out.2.2 (by decide)⟩)
  cases g1 : formB x
  · have HE := hid (act_form (D := D) g1)
    go_enter Try.func48, Try.ntmps48
    have b0 := X.out.c0
    have b1 := X.out.c1
    have b2 := X.out.c2
    obtain ⟨_, o0, o1, o2, o3⟩ := OP.out
    go_wp2_with fail
    clear b0 b1 b2 o0 o1 o2 o3
    generalize hgq : ((w.alloc (.cells #[.slice V.A D.live.length V.c, .slice V.K D.safe.length V.d, .slice V.O D.ops.length V.o] 33)).alloc (.cells #[.int .i64 x.1, .string x.2.1, .string x.2.2.1, .string x.2.2.2] 37)).alloc (.cells #[.slice none 0 0, .slice none 0 0, .slice none 0 0] 33) = w0 at *
    clear hgq
    refine (HFORM.out _).mono ?_
    rintro e w1 ⟨rfl, hb1⟩
    have HB1 := hid hb1
    clear hb1
    rw [g1]
    have X1 := hid (X.out.below HB1.out)
    have OP1 := hid (OP.out.below HB1.out)
    have b0 := X1.out.c0
    have b1 := X1.out.c1
    have b2 := X1.out.c2
    obtain ⟨_, o0, o1, o2, o3⟩ := OP1.out
    go_wp2_with fail
    clear b0 b1 b2 o0 o1 o2 o3
    refine (spec_l10Copy V D _ ((HR.out.below HB1.out).more HB1.out.size) HLN.out).mono ?_
    rintro e w2 ⟨V9, rfl, ho9, hb9⟩
    have HOK := hid ho9
    have HBF := hid (HB1.out.trans (hb9.mono HB1.out.size))
    have Y9 := hid (Y.out.below HBF.out)
    have HY2 : Hid (w.heap.size + 2 < w1.heap.size) := Nat.lt_of_lt_of_le HYL.out HB1.out.size
    have HW2 : Hid (w.heap.size ≤ w1.heap.size) := Nat.le_trans HB.out.size HB1.out.size
    clear ho9 hb9
    have z0 := Y9.out.c0
    have z1 := Y9.out.c1
    have z2 := Y9.out.c2
    have k0 := Y9.out.fz 0
    have k1 := Y9.out.fz 1
    have k2 := Y9.out.fz 2
    go_wp2_with fail
    refine world_post (S := fun wq => Row3 wq (w.heap.size + 2) 33 (.slice V9.A D.live.length V9.c) (.slice V9.K D.safe.length V9.d) (.slice V9.O D.ops.length V9.o) ∧ OwnK wq w.heap.size V9 D ∧ Below w.heap.size w wq) _
      ⟨((Y9.out.s0 _).s1 _).s2 _, (HOK.out.stored Y9.out HY2.out).mono HW2.out,
        (((HB.out.trans (HBF.out.mono HB.out.size)).setCell (p := ⟨w.heap.size + 2, 0, none⟩) (by simp) _).setCell (p := ⟨w.heap.size + 2, 1, none⟩) (by simp) _).setCell (p := ⟨w.heap.size + 2, 2, none⟩) (by simp) _⟩ ?_
    clear z0 z1 z2 k0 k1 k2
    intro wq ⟨hq, hp, hbq⟩
    have q0 := hq.c0
    have q1 := hq.c1
    have q2 := hq.c2
    rw [HE.out.1, HE.out.2]
    exact bodyPost_ret (v := .tuple #[.agg #[(.slice V9.A D.live.length V9.c), (.slice V9.K D.safe.length V9.d), (.slice V9.O D.ops.length V9.o)], .int .i64 2]) (by simp [results, Try.results48, go_sem, q0, q1, q2]) rfl ⟨V9, rfl, hp, hbq⟩
  cases g2 : (onD D.live x).2
  · have HE := hid (act_none g1 g2)
    go_enter Try.func48, Try.ntmps48
    have b0 := X.out.c0
    have b1 := X.out.c1
    have b2 := X.out.c2
    obtain ⟨_, o0, o1, o2, o3⟩ := OP.out
    go_wp2_with fail
    clear b0 b1 b2 o0 o1 o2 o3
    generalize hgq : ((w.alloc (.cells #[.slice V.A D.live.length V.c, .slice V.K D.safe.length V.d, .slice V.O D.ops.length V.o] 33)).alloc (.cells #[.int .i64 x.1, .string x.2.1, .string x.2.2.1, .string x.2.2.2] 37)).alloc (.cells #[.slice none 0 0, .slice none 0 0, .slice none 0 0] 33) = w0 at *
    clear hgq
    refine (HFORM.out _).mono ?_
    rintro e w1 ⟨rfl, hb1⟩
    have HB1 := hid hb1
    clear hb1
    rw [g1]
    have X1 := hid (X.out.below HB1.out)
    have OP1 := hid (OP.out.below HB1.out)
    have b0 := X1.out.c0
    have b1 := X1.out.c1
    have b2 := X1.out.c2
    obtain ⟨_, o0, o1, o2, o3⟩ := OP1.out
    go_wp2_with fail
    clear b0 b1 b2 o0 o1 o2 o3
    refine (spec_l10Do V.A V.c D.live x _ ((HR.out.1.below HB1.out).more HB1.out.size) (by omega) (HSM.out.more (by decide)) ⟨Nat.le_trans HX.out.1 (by decide), Nat.le_trans HX.out.2.1 (by decide), Nat.le_trans HX.out.2.2 (by decide)⟩).mono ?_
    rintro e w2 ⟨A2, c2, rfl, ho2, hb2⟩
    have HO2 := hid ho2
    have HB2 := hid (HB1.out.trans (hb2.mono HB1.out.size))
    have HSZ2 := hid hb2.size
    clear ho2 hb2
    rw [g2]
    have X2 := hid (X.out.below HB2.out)
    have OP2 := hid (OP.out.below HB2.out)
    have b0 := X2.out.c0
    have b1 := X2.out.c1
    have b2 := X2.out.c2
    obtain ⟨_, o0, o1, o2, o3⟩ := OP2.out
    go_wp2_with fail
    clear b0 b1 b2 o0 o1 o2 o3
    refine (spec_l10Copy V D _ ((HR.out.below HB2.out).more HB2.out.size) HLN.out).mono ?_
    rintro e w3 ⟨V9, rfl, ho9, hb9⟩
    have HOK := hid ho9
    have HBF := hid (HB2.out.trans (hb9.mono HB2.out.size))
    have Y9 := hid (Y.out.below HBF.out)
    have HY2 : Hid (w.heap.size + 2 < w2.heap.size) := Nat.lt_of_lt_of_le HYL.out HB2.out.size
    have HW2 : Hid (w.heap.size ≤ w2.heap.size) := Nat.le_trans HB.out.size HB2.out.size
    clear ho9 hb9
    have z0 := Y9.out.c0
    have z1 := Y9.out.c1
    have z2 := Y9.out.c2
    have k0 := Y9.out.fz 0
    have k1 := Y9.out.fz 1
    have k2 := Y9.out.fz 2
    go_wp2_with fail
    refine world_post (S := fun wq => Row3 wq (w.heap.size + 2) 33 (.slice V9.A D.live.length V9.c) (.slice V9.K D.safe.length V9.d) (.slice V9.O D.ops.length V9.o) ∧ OwnK wq w.heap.size V9 D ∧ Below w.heap.size w wq) _
      ⟨((Y9.out.s0 _).s1 _).s2 _, (HOK.out.stored Y9.out HY2.out).mono HW2.out,
        (((HB.out.trans (HBF.out.mono HB.out.size)).setCell (p := ⟨w.heap.size + 2, 0, none⟩) (by simp) _).setCell (p := ⟨w.heap.size + 2, 1, none⟩) (by simp) _).setCell (p := ⟨w.heap.size + 2, 2, none⟩) (by simp) _⟩ ?_
    clear z0 z1 z2 k0 k1 k2
    intro wq ⟨hq, hp, hbq⟩
    have q0 := hq.c0
    have q1 := hq.c1
    have q2 := hq.c2
    rw [HE.out.1, HE.out.2]
    exact bodyPost_ret (v := .tuple #[.agg #[(.slice V9.A D.live.length V9.c), (.slice V9.K D.safe.length V9.d), (.slice V9.O D.ops.length V9.o)], .int .i64 3]) (by simp [results, Try.results48, go_sem, q0, q1, q2]) rfl ⟨V9, rfl, hp, hbq⟩
  by_cases g3 : D.ops.length = 200
  · have HE := hid (act_full g1 g2 (fun h => absurd h (by omega)))
    have g3' : ((D.ops.length : Int) == 200) = true := by simp [g3]
    clear g3
    go_enter Try.func48, Try.ntmps48
    have b0 := X.out.c0
    have b1 := X.out.c1
    have b2 := X.out.c2
    obtain ⟨_, o0, o1, o2, o3⟩ := OP.out
    go_wp2_with fail
    clear b0 b1 b2 o0 o1 o2 o3
    generalize hgq : ((w.alloc (.cells #[.slice V.A D.live.length V.c, .slice V.K D.safe.length V.d, .slice V.O D.ops.length V.o] 33)).alloc (.cells #[.int .i64 x.1, .string x.2.1, .string x.2.2.1, .string x.2.2.2] 37)).alloc (.cells #[.slice none 0 0, .slice none 0 0, .slice none 0 0] 33) = w0 at *
    clear hgq
    refine (HFORM.out _).mono ?_
    rintro e w1 ⟨rfl, hb1⟩
    have HB1 := hid hb1
    clear hb1
    rw [g1]
    have X1 := hid (X.out.below HB1.out)
    have OP1 := hid (OP.out.below HB1.out)
    have b0 := X1.out.c0
    have b1 := X1.out.c1
    have b2 := X1.out.c2
    obtain ⟨_, o0, o1, o2, o3⟩ := OP1.out
    go_wp2_with fail
    clear b0 b1 b2 o0 o1 o2 o3
    refine (spec_l10Do V.A V.c D.live x _ ((HR.out.1.below HB1.out).more HB1.out.size) (by omega) (HSM.out.more (by decide)) ⟨Nat.le_trans HX.out.1 (by decide), Nat.le_trans HX.out.2.1 (by decide), Nat.le_trans HX.out.2.2 (by decide)⟩).mono ?_
    rintro e w2 ⟨A2, c2, rfl, ho2, hb2⟩
    have HO2 := hid ho2
    have HB2 := hid (HB1.out.trans (hb2.mono HB1.out.size))
    have HSZ2 := hid hb2.size
    clear ho2 hb2
    rw [g2]
    have X2 := hid (X.out.below HB2.out)
    have OP2 := hid (OP.out.below HB2.out)
    have b0 := X2.out.c0
    have b1 := X2.out.c1
    have b2 := X2.out.c2
    obtain ⟨_, o0, o1, o2, o3⟩ := OP2.out
    go_wp2_with fail
    clear b0 b1 b2 o0 o1 o2 o3
    refine (spec_l10Copy V D _ ((HR.out.below HB2.out).more HB2.out.size) HLN.out).mono ?_
    rintro e w3 ⟨V9, rfl, ho9, hb9⟩
    have HOK := hid ho9
    have HBF := hid (HB2.out.trans (hb9.mono HB2.out.size))
    have Y9 := hid (Y.out.below HBF.out)
    have HY2 : Hid (w.heap.size + 2 < w2.heap.size) := Nat.lt_of_lt_of_le HYL.out HB2.out.size
    have HW2 : Hid (w.heap.size ≤ w2.heap.size) := Nat.le_trans HB.out.size HB2.out.size
    clear ho9 hb9
    have z0 := Y9.out.c0
    have z1 := Y9.out.c1
    have z2 := Y9.out.c2
    have k0 := Y9.out.fz 0
    have k1 := Y9.out.fz 1
    have k2 := Y9.out.fz 2
    go_wp2_with fail
    refine world_post (S := fun wq => Row3 wq (w.heap.size + 2) 33 (.slice V9.A D.live.length V9.c) (.slice V9.K D.safe.length V9.d) (.slice V9.O D.ops.length V9.o) ∧ OwnK wq w.heap.size V9 D ∧ Below w.heap.size w wq) _
      ⟨((Y9.out.s0 _).s1 _).s2 _, (HOK.out.stored Y9.out HY2.out).mono HW2.out,
        (((HB.out.trans (HBF.out.mono HB.out.size)).setCell (p := ⟨w.heap.size + 2, 0, none⟩) (by simp) _).setCell (p := ⟨w.heap.size + 2, 1, none⟩) (by simp) _).setCell (p := ⟨w.heap.size + 2, 2, none⟩) (by simp) _⟩ ?_
    clear z0 z1 z2 k0 k1 k2
    intro wq ⟨hq, hp, hbq⟩
    have q0 := hq.c0
    have q1 := hq.c1
    have q2 := hq.c2
    rw [HE.out.1, HE.out.2]
    exact bodyPost_ret (v := .tuple #[.agg #[(.slice V9.A D.live.length V9.c), (.slice V9.K D.safe.length V9.d), (.slice V9.O D.ops.length V9.o)], .int .i64 4]) (by simp [results, Try.results48, go_sem, q0, q1, q2]) rfl ⟨V9, rfl, hp, hbq⟩
  have g3' : ((D.ops.length : Int) == 200) = false := by simp; omega
  have HFI := hid (onD_files HFL.out g1)
  cases g4 : filesB (onD D.live x).1
  · have HE := hid (act_full g1 g2 (fun _ => by rw [← HFI.out]; exact g4))
    clear g3
    go_enter Try.func48, Try.ntmps48
    have b0 := X.out.c0
    have b1 := X.out.c1
    have b2 := X.out.c2
    obtain ⟨_, o0, o1, o2, o3⟩ := OP.out
    go_wp2_with fail
    clear b0 b1 b2 o0 o1 o2 o3
    generalize hgq : ((w.alloc (.cells #[.slice V.A D.live.length V.c, .slice V.K D.safe.length V.d, .slice V.O D.ops.length V.o] 33)).alloc (.cells #[.int .i64 x.1, .string x.2.1, .string x.2.2.1, .string x.2.2.2] 37)).alloc (.cells #[.slice none 0 0, .slice none 0 0, .slice none 0 0] 33) = w0 at *
    clear hgq
    refine (HFORM.out _).mono ?_
    rintro e w1 ⟨rfl, hb1⟩
    have HB1 := hid hb1
    clear hb1
    rw [g1]
    have X1 := hid (X.out.below HB1.out)
    have OP1 := hid (OP.out.below HB1.out)
    have b0 := X1.out.c0
    have b1 := X1.out.c1
    have b2 := X1.out.c2
    obtain ⟨_, o0, o1, o2, o3⟩ := OP1.out
    go_wp2_with fail
    clear b0 b1 b2 o0 o1 o2 o3
    refine (spec_l10Do V.A V.c D.live x _ ((HR.out.1.below HB1.out).more HB1.out.size) (by omega) (HSM.out.more (by decide)) ⟨Nat.le_trans HX.out.1 (by decide), Nat.le_trans HX.out.2.1 (by decide), Nat.le_trans HX.out.2.2 (by decide)⟩).mono ?_
    rintro e w2 ⟨A2, c2, rfl, ho2, hb2⟩
    have HO2 := hid ho2
    have HB2 := hid (HB1.out.trans (hb2.mono HB1.out.size))
    have HSZ2 := hid hb2.size
    clear ho2 hb2
    rw [g2]
    have X2 := hid (X.out.below HB2.out)
    have OP2 := hid (OP.out.below HB2.out)
    have b0 := X2.out.c0
    have b1 := X2.out.c1
    have b2 := X2.out.c2
    obtain ⟨_, o0, o1, o2, o3⟩ := OP2.out
    go_wp2_with fail
    clear b0 b1 b2 o0 o1 o2 o3
    refine (spec_l10Files A2 c2 (onD D.live x).1 w2.heap.size _ HO2.out.rp (HOS.out.more (by decide)) (by unfold maxLen; omega)).mono ?_
    rintro e w3 ⟨rfl, hd3⟩
    have HB23 := hid (hd3.below w2.heap.size)
    have HB3 := hid (HB2.out.trans (HB23.out.mono HB2.out.size))
    have HO3 := hid (HO2.out.below HB23.out)
    clear hd3
    rw [g4]
    have X3 := hid (X.out.below HB3.out)
    have OP3 := hid (OP.out.below HB3.out)
    have b0 := X3.out.c0
    have b1 := X3.out.c1
    have b2 := X3.out.c2
    obtain ⟨_, o0, o1, o2, o3⟩ := OP3.out
    go_wp2_with fail
    clear b0 b1 b2 o0 o1 o2 o3
    refine (spec_l10Copy V D _ ((HR.out.below HB3.out).more HB3.out.size) HLN.out).mono ?_
    rintro e w4 ⟨V9, rfl, ho9, hb9⟩
    have HOK := hid ho9
    have HBF := hid (HB3.out.trans (hb9.mono HB3.out.size))
    have Y9 := hid (Y.out.below HBF.out)
    have HY2 : Hid (w.heap.size + 2 < w3.heap.size) := Nat.lt_of_lt_of_le HYL.out HB3.out.size
    have HW2 : Hid (w.heap.size ≤ w3.heap.size) := Nat.le_trans HB.out.size HB3.out.size
    clear ho9 hb9
    have z0 := Y9.out.c0
    have z1 := Y9.out.c1
    have z2 := Y9.out.c2
    have k0 := Y9.out.fz 0
    have k1 := Y9.out.fz 1
    have k2 := Y9.out.fz 2
    go_wp2_with fail
    refine world_post (S := fun wq => Row3 wq (w.heap.size + 2) 33 (.slice V9.A D.live.length V9.c) (.slice V9.K D.safe.length V9.d) (.slice V9.O D.ops.length V9.o) ∧ OwnK wq w.heap.size V9 D ∧ Below w.heap.size w wq) _
      ⟨((Y9.out.s0 _).s1 _).s2 _, (HOK.out.stored Y9.out HY2.out).mono HW2.out,
        (((HB.out.trans (HBF.out.mono HB.out.size)).setCell (p := ⟨w.heap.size + 2, 0, none⟩) (by simp) _).setCell (p := ⟨w.heap.size + 2, 1, none⟩) (by simp) _).setCell (p := ⟨w.heap.size + 2, 2, none⟩) (by simp) _⟩ ?_
    clear z0 z1 z2 k0 k1 k2
    intro wq ⟨hq, hp, hbq⟩
    have q0 := hq.c0
    have q1 := hq.c1
    have q2 := hq.c2
    rw [HE.out.1, HE.out.2]
    exact bodyPost_ret (v := .tuple #[.agg #[(.slice V9.A D.live.length V9.c), (.slice V9.K D.safe.length V9.d), (.slice V9.O D.ops.length V9.o)], .int .i64 4]) (by simp [results, Try.results48, go_sem, q0, q1, q2]) rfl ⟨V9, rfl, hp, hbq⟩
  · have HE := hid (act_ok g1 g2 (by omega) (by rw [← HFI.out]; exact g4))
    clear g3
    obtain ⟨j0, hj0, hy0, hy1, hy2⟩ := info_parts dopInfo
    go_enter Try.func48, Try.ntmps48
    have b0 := X.out.c0
    have b1 := X.out.c1
    have b2 := X.out.c2
    obtain ⟨_, o0, o1, o2, o3⟩ := OP.out
    go_wp2_with fail
    clear b0 b1 b2 o0 o1 o2 o3
    generalize hgq : ((w.alloc (.cells #[.slice V.A D.live.length V.c, .slice V.K D.safe.length V.d, .slice V.O D.ops.length V.o] 33)).alloc (.cells #[.int .i64 x.1, .string x.2.1, .string x.2.2.1, .string x.2.2.2] 37)).alloc (.cells #[.slice none 0 0, .slice none 0 0, .slice none 0 0] 33) = w0 at *
    clear hgq
    refine (HFORM.out _).mono ?_
    rintro e w1 ⟨rfl, hb1⟩
    have HB1 := hid hb1
    clear hb1
    rw [g1]
    have X1 := hid (X.out.below HB1.out)
    have OP1 := hid (OP.out.below HB1.out)
    have b0 := X1.out.c0
    have b1 := X1.out.c1
    have b2 := X1.out.c2
    obtain ⟨_, o0, o1, o2, o3⟩ := OP1.out
    go_wp2_with fail
    clear b0 b1 b2 o0 o1 o2 o3
    refine (spec_l10Do V.A V.c D.live x _ ((HR.out.1.below HB1.out).more HB1.out.size) (by omega) (HSM.out.more (by decide)) ⟨Nat.le_trans HX.out.1 (by decide), Nat.le_trans HX.out.2.1 (by decide), Nat.le_trans HX.out.2.2 (by decide)⟩).mono ?_
    rintro e w2 ⟨A2, c2, rfl, ho2, hb2⟩
    have HO2 := hid ho2
    have HB2 := hid (HB1.out.trans (hb2.mono HB1.out.size))
    have HSZ2 := hid hb2.size
    clear ho2 hb2
    rw [g2]
    have X2 := hid (X.out.below HB2.out)
    have OP2 := hid (OP.out.below HB2.out)
    have b0 := X2.out.c0
    have b1 := X2.out.c1
    have b2 := X2.out.c2
    obtain ⟨_, o0, o1, o2, o3⟩ := OP2.out
    go_wp2_with fail
    clear b0 b1 b2 o0 o1 o2 o3
    refine (spec_l10Files A2 c2 (onD D.live x).1 w2.heap.size _ HO2.out.rp (HOS.out.more (by decide)) (by unfold maxLen; omega)).mono ?_
    rintro e w3 ⟨rfl, hd3⟩
    have HB23 := hid (hd3.below w2.heap.size)
    have HB3 := hid (HB2.out.trans (HB23.out.mono HB2.out.size))
    have HO3 := hid (HO2.out.below HB23.out)
    clear hd3
    rw [g4]
    have X3 := hid (X.out.below HB3.out)
    have OP3 := hid (OP.out.below HB3.out)
    have b0 := X3.out.c0
    have b1 := X3.out.c1
    have b2 := X3.out.c2
    obtain ⟨_, o0, o1, o2, o3⟩ := OP3.out
    go_wp2_with fail
    clear b0 b1 b2 o0 o1 o2 o3
    refine (spec_l10Copy V D _ ((HR.out.below HB3.out).more HB3.out.size) HLN.out).mono ?_
    rintro e w4 ⟨V4, rfl, ho4, hb4⟩
    have HK4 := hid ho4
    have HB4 := hid (HB3.out.trans (hb4.mono HB3.out.size))
    have HO4 := hid (HO3.out.below hb4)
    have HSZ4 := hid hb4.size
    clear ho4 hb4
    have X4 := hid (X.out.below HB4.out)
    have OP4 := hid (OP.out.below HB4.out)
    have Y4 := hid (Y.out.below HB4.out)
    obtain ⟨_, o0, o1, o2, o3⟩ := OP4.out
    go_upto_region 10 with fail
    clear o0 o1 o2 o3
    have T0 := Row3.lit w4 33 (.slice A2 (onD D.live x).1.length c2) (.slice V4.K D.safe.length V4.d) (.slice V4.O D.ops.length V4.o)
    have hbt : Below w4.heap.size w4 (w4.alloc (.cells #[.slice A2 (onD D.live x).1.length c2, .slice V4.K D.safe.length V4.d, .slice V4.O D.ops.length V4.o] 33)) := bl_alloc (Below.refl _ _)
    generalize hgq : w4.alloc (.cells #[.slice A2 (onD D.live x).1.length c2, .slice V4.K D.safe.length V4.d, .slice V4.O D.ops.length V4.o] 33) = w5 at *
    clear hgq
    have HBT := hid hbt
    have TR := hid T0
    have HO5 := hid (HO4.out.below hbt)
    have HK5 := hid (HK4.out.below hbt)
    have X5 := hid (X4.out.below hbt)
    have OP5 := hid (OP4.out.below hbt)
    have Y5 := hid (Y4.out.below hbt)
    have HB5 := hid (HB4.out.trans (hbt.mono HB4.out.size))
    have hT4 : w4.heap.size < w5.heap.size := T0.lt
    have hszA : w1.heap.size ≤ w2.heap.size := HSZ2.out
    have hszB : w2.heap.size ≤ w3.heap.size := HB23.out.size
    have hszC : w3.heap.size ≤ w4.heap.size := HSZ4.out
    have hszD : w0.heap.size ≤ w1.heap.size := HB1.out.size
    clear T0 hbt
    have nb1 : ¬ (w.heap.size + 1 + 1 = w4.heap.size) := by have := HYL.out; omega
    have nb2 : ¬ (w4.heap.size = w.heap.size + 1 + 1) := by have := HYL.out; omega
    obtain ⟨_, o0, o1, o2, o3⟩ := OP5.out
    have t2 := TR.out.c2
    have HK5a := hid (HK5.out.below (bl_alloc (o := .cells #[.int .i64 x.1, .string x.2.1, .string x.2.2.1, .string x.2.2.2] 37) (Below.refl w5.heap.size w5)))
    have HO5a := hid (HO5.out.below (bl_alloc (o := .cells #[.int .i64 x.1, .string x.2.1, .string x.2.2.1, .string x.2.2.2] 37) (Below.refl w5.heap.size w5)))
    have TR5a := hid (TR.out.below (bl_alloc (o := .cells #[.int .i64 x.1, .string x.2.1, .string x.2.2.1, .string x.2.2.2] 37) (Below.refl w5.heap.size w5)))
    have Y5a := hid (Y5.out.below (bl_alloc (o := .cells #[.int .i64 x.1, .string x.2.1, .string x.2.2.1, .string x.2.2.2] 37) (Below.refl w5.heap.size w5)))
    have HB5a := hid (bl_alloc (o := .cells #[.int .i64 x.1, .string x.2.1, .string x.2.2.1, .string x.2.2.2] 37) HB5.out)
    go_wp2_with (at_builtin; refine wpList_append_rd _ rfl _ _ _ rfl j0 Try.underlying31 hj0 hy0 hy1 hy2 w3.heap.size V4.O D.ops.length V4.o D.ops rfl rfl HK5a.out.po _ _ _ _ [x] rfl rfl (RD.new w5 x _) (by simp; omega) (by simp; omega) ?_; intro A6 n6 c6 w6 hn6 hap6; have HE6 : Hid (n6 = (D.ops ++ [x]).length) := hn6; have HAP := hid hap6; have T6 := hid (own_turned3 TR5a.out (turned_of hap6.grown) (fun e => by have := (World.ownsRow.lt HK4.out.po _ e).2; omega)); have Y6 := hid (own_turned3 Y5a.out (turned_of hap6.grown) (fun e => by have := (World.ownsRow.lt HK4.out.po _ e).1; have := HYL.out; omega)); have HO6 := hid (own_turned HO5a.out (turned_of hap6.grown) (fun q hq e => own_neD (by decide) HO5a.out HK5a.out.po q hq e)); have HS6 := hid (own_turned HK5a.out.ps (turned_of hap6.grown) (fun q hq e => own_neD (by decide) HK5a.out.ps HK5a.out.po q hq e)); have HB6 := hid (TurnW.below HB5a.out (turned_of hap6.grown) HB5a.out.size (fun q e => by have := (World.ownsRow.lt HK4.out.po _ e).1; omega)); clear hn6 hap6; have t60 := T6.out.c0; have t61 := T6.out.c1; have t62 := T6.out.c2; have f62 := T6.out.fz 2; have y60 := Y6.out.c0; have y61 := Y6.out.c1; have y62 := Y6.out.c2; have k60 := Y6.out.fz 0; have k61 := Y6.out.fz 1; have k62 := Y6.out.fz 2)
    have TW := turned_of (T6.out.stored 2 (.slice A6 n6 c6)).2
    have Y9 : Hid (Row3 (w6.setCell ⟨w4.heap.size, 2, none⟩ (.slice A6 n6 c6)) (w.heap.size + 2) 33 (.slice none 0 0) (.slice none 0 0) (.slice none 0 0)) := own_turned3 Y6.out TW (fun e => by have := HYL.out; simp at e; omega)
    have HOK : Hid (OwnK (w6.setCell ⟨w4.heap.size, 2, none⟩ (.slice A6 n6 c6)) w1.heap.size ⟨A2, c2, V4.K, V4.d, A6, c6⟩ ⟨(onD D.live x).1, D.safe, D.ops ++ [x]⟩) :=
      ⟨own_turned HO6.out TW (fun q hq e => by have := (World.ownsRow.lt HO4.out _ hq).2; simp at e; omega), own_mono (own_turned HS6.out TW (fun q hq e => by have := (World.ownsRow.lt HK4.out.ps _ hq).2; simp at e; omega)) (by omega), own_mono (own_turned HAP.out.own TW (fun q hq e => by
          simp at e
          rcases HAP.out.at_ with h | h
          · rw [hq] at h
            have := (World.ownsRow.lt HK4.out.po _ h.symm).2
            omega
          · rw [hq] at h
            simp at h
            omega)) (by omega),
        fun q h1 h2 => by have := (World.ownsRow.lt HO2.out q h1).2; have := (World.ownsRow.lt HK4.out.ps q h2).1; omega⟩
    have HBF := hid (HB6.out.setCell (p := ⟨w4.heap.size, 2, none⟩) (by show w0.heap.size ≤ w4.heap.size; omega) (.slice A6 n6 c6))
    have HY2 : Hid (w.heap.size + 2 < w1.heap.size) := Nat.lt_of_lt_of_le HYL.out hszD
    have HW2 : Hid (w.heap.size ≤ w1.heap.size) := Nat.le_trans HB.out.size hszD
    clear TW
    refine world_post (S := fun wq => Row3 wq (w.heap.size + 2) 33 (.slice A2 (onD D.live x).1.length c2) (.slice V4.K D.safe.length V4.d) (.slice A6 n6 c6) ∧ OwnK wq w.heap.size ⟨A2, c2, V4.K, V4.d, A6, c6⟩ ⟨(onD D.live x).1, D.safe, D.ops ++ [x]⟩ ∧ Below w.heap.size w wq) _
      ⟨((Y9.out.s0 _).s1 _).s2 _, (HOK.out.stored Y9.out HY2.out).mono HW2.out,
        (((HB.out.trans (HBF.out.mono HB.out.size)).setCell (p := ⟨w.heap.size + 2, 0, none⟩) (by simp) _).setCell (p := ⟨w.heap.size + 2, 1, none⟩) (by simp) _).setCell (p := ⟨w.heap.size + 2, 2, none⟩) (by simp) _⟩ ?_
    clear t60 t61 t62 f62 y60 y61 y62 k60 k61 k62
    intro wq ⟨hq, hp, hbq⟩
    have q0 := hq.c0
    have q1 := hq.c1
    have q2 := hq.c2
    rw [HE.out.1, HE.out.2]
    exact bodyPost_ret (v := .tuple #[.agg #[(.slice A2 (onD D.live x).1.length c2), (.slice V4.K D.safe.length V4.d), (.slice A6 n6 c6)], .int .i64 0]) (by simp [results, Try.results48, go_sem, q0, q1, q2]) rfl ⟨⟨A2, c2, V4.K, V4.d, A6, c6⟩, by rw [HE6.out], hp, hbq⟩
end Go.Proofs.Ytaiehccpefjbfaa
