/-
  Do, the model's and the program's: contracts (tools/mkdskd.py).
  Small facts for the law of Do (tools/gendo.py).
-/
import Derived.Test.YtaiehccpefjbfaaDskB
namespace Go.Proofs.Ytaiehccpefjbfaa
open Go.RowKit Go.Shelf

theorem doR_len (D : DK) (x : DD) : LenK (doR D x) 1000 := by
  unfold doR
  split
  · rename_i h
    exact (actD_len ((diskD_len h).more (by decide))).more (by decide)
  · exact ⟨Nat.zero_le _, Nat.zero_le _, Nat.zero_le _⟩

set_option maxHeartbeats 16000000 in
set_option maxRecDepth 100000 in
theorem spec_Do (V : DV) (D : DK) (x : DD) (w : World) (hr : RK w w.heap.size V D) (hn : LenK D 2000000) (hs : SmallK D 4000000) (hx : SmallX x 4000000) :
    Calls Try.prog 12 #[.agg #[.slice V.A D.live.length V.c, .slice V.K D.safe.length V.d, .slice V.O D.ops.length V.o], .agg #[.int .i64 x.1, .string x.2.1, .string x.2.2.1, .string x.2.2.2]] w (MadeKC w w.heap.size (doR D x) (doC D x)) := by
  obtain ⟨h0, h1, h2, hb⟩ := three_boxes w V D x
  have X := hid h0
  have OP := hid h1
  have Y := hid h2
  have HYL := hid h2.lt
  have HB := hid hb
  have HR := hid ((hr.below hb).more hb.size)
  have HN := hid hn
  have HS := hid hs
  have HX := hid hx
  clear hr hn hs hx h0 h1 h2 hb
  cases hd : diskD D
  · have HE : Hid (doC D x = 1 ∧ doR D x = ⟨[], [], []⟩) := by simp [Hid, doC, doR, hd]
    go_enter Try.func12, Try.ntmps12
    have b0 := X.out.c0
    have b1 := X.out.c1
    have b2 := X.out.c2
    obtain ⟨_, o0, o1, o2, o3⟩ := OP.out
    go_wp2_with fail
    clear b0 b1 b2 o0 o1 o2 o3
    generalize hgq : ((w.alloc (.cells #[.slice V.A D.live.length V.c, .slice V.K D.safe.length V.d, .slice V.O D.ops.length V.o] 33)).alloc (.cells #[.int .i64 x.1, .string x.2.1, .string x.2.2.1, .string x.2.2.2] 37)).alloc (.cells #[.slice none 0 0, .slice none 0 0, .slice none 0 0] 33) = w0 at *
    clear hgq
    refine (spec_DiskOk V D _ HR.out HN.out HS.out).mono ?_
    rintro e w1 ⟨rfl, hb⟩
    have HB1 := hid hb
    clear hb
    have X1 := hid (X.out.below HB1.out)
    have OP1 := hid (OP.out.below HB1.out)
    have Y9 := hid (Y.out.below HB1.out)
    have HR1 := hid ((HR.out.below HB1.out).more HB1.out.size)
    have z0 := Y9.out.c0
    have z1 := Y9.out.c1
    have z2 := Y9.out.c2
    have k0 := Y9.out.fz 0
    have k1 := Y9.out.fz 1
    have k2 := Y9.out.fz 2
    go_wp2_with fail
    refine world_post (S := fun wq => Row3 wq (w.heap.size + 2) 33 (.slice none 0 0) (.slice none 0 0) (.slice none 0 0) ∧ OwnK wq w.heap.size ⟨none, 0, none, 0, none, 0⟩ ⟨[], [], []⟩ ∧ Below w.heap.size w wq) _
      ⟨((Y9.out.s0 _).s1 _).s2 _, OwnK.nil_ _ _,
        (((HB.out.trans (HB1.out.mono HB.out.size)).setCell (p := ⟨w.heap.size + 2, 0, none⟩) (by simp) _).setCell (p := ⟨w.heap.size + 2, 1, none⟩) (by simp) _).setCell (p := ⟨w.heap.size + 2, 2, none⟩) (by simp) _⟩ ?_
    clear z0 z1 z2 k0 k1 k2
    intro wq ⟨hq, hp, hbq⟩
    have q0 := hq.c0
    have q1 := hq.c1
    have q2 := hq.c2
    rw [HE.out.1, HE.out.2]
    exact bodyPost_ret (v := .tuple #[.agg #[(.slice none 0 0), (.slice none 0 0), (.slice none 0 0)], .int .i64 1]) (by simp [results, Try.results12, go_sem, q0, q1, q2]) rfl ⟨⟨none, 0, none, 0, none, 0⟩, rfl, hp, hbq⟩
  · have HE : Hid (doC D x = actC D x ∧ doR D x = actD D x) := by simp [Hid, doC, doR, hd]
    go_enter Try.func12, Try.ntmps12
    have b0 := X.out.c0
    have b1 := X.out.c1
    have b2 := X.out.c2
    obtain ⟨_, o0, o1, o2, o3⟩ := OP.out
    go_wp2_with fail
    clear b0 b1 b2 o0 o1 o2 o3
    generalize hgq : ((w.alloc (.cells #[.slice V.A D.live.length V.c, .slice V.K D.safe.length V.d, .slice V.O D.ops.length V.o] 33)).alloc (.cells #[.int .i64 x.1, .string x.2.1, .string x.2.2.1, .string x.2.2.2] 37)).alloc (.cells #[.slice none 0 0, .slice none 0 0, .slice none 0 0] 33) = w0 at *
    clear hgq
    refine (spec_DiskOk V D _ HR.out HN.out HS.out).mono ?_
    rintro e w1 ⟨rfl, hb⟩
    have HB1 := hid hb
    clear hb
    have X1 := hid (X.out.below HB1.out)
    have OP1 := hid (OP.out.below HB1.out)
    have Y9 := hid (Y.out.below HB1.out)
    have HR1 := hid ((HR.out.below HB1.out).more HB1.out.size)
    have b0 := X1.out.c0
    have b1 := X1.out.c1
    have b2 := X1.out.c2
    obtain ⟨_, o0, o1, o2, o3⟩ := OP1.out
    go_wp2_with fail
    clear b0 b1 b2 o0 o1 o2 o3
    refine (spec_l10Act V D x _ HR1.out hd HX.out).mono ?_
    rintro e w2 ⟨V2, rfl, ho2, hb2⟩
    have HOK := hid ho2
    have HBF := hid (HB1.out.trans (hb2.mono HB1.out.size))
    have Y2 := hid (Y9.out.below hb2)
    have HY2 : Hid (w.heap.size + 2 < w1.heap.size) := Nat.lt_of_lt_of_le HYL.out HB1.out.size
    have HW2 : Hid (w.heap.size ≤ w1.heap.size) := Nat.le_trans HB.out.size HB1.out.size
    clear ho2 hb2
    have z0 := Y2.out.c0
    have z1 := Y2.out.c1
    have z2 := Y2.out.c2
    have k0 := Y2.out.fz 0
    have k1 := Y2.out.fz 1
    have k2 := Y2.out.fz 2
    go_wp2_with fail
    refine world_post (S := fun wq => Row3 wq (w.heap.size + 2) 33 (.slice V2.A (actD D x).live.length V2.c) (.slice V2.K (actD D x).safe.length V2.d) (.slice V2.O (actD D x).ops.length V2.o) ∧ OwnK wq w.heap.size V2 (actD D x) ∧ Below w.heap.size w wq) _
      ⟨((Y2.out.s0 _).s1 _).s2 _, (HOK.out.stored Y2.out HY2.out).mono HW2.out,
        (((HB.out.trans (HBF.out.mono HB.out.size)).setCell (p := ⟨w.heap.size + 2, 0, none⟩) (by simp) _).setCell (p := ⟨w.heap.size + 2, 1, none⟩) (by simp) _).setCell (p := ⟨w.heap.size + 2, 2, none⟩) (by simp) _⟩ ?_
    clear z0 z1 z2 k0 k1 k2
    intro wq ⟨hq, hp, hbq⟩
    have q0 := hq.c0
    have q1 := hq.c1
    have q2 := hq.c2
    rw [HE.out.1, HE.out.2]
    exact bodyPost_ret (v := .tuple #[.agg #[(.slice V2.A (actD D x).live.length V2.c), (.slice V2.K (actD D x).safe.length V2.d), (.slice V2.O (actD D x).ops.length V2.o)], .int .i64 (actC D x)]) (by simp [results, Try.results12, go_sem, q0, q1, q2]) rfl ⟨V2, rfl, hp, hbq⟩
set_option maxHeartbeats 16000000 in
set_option maxRecDepth 100000 in
theorem impl_Do (V : DV) (D : DK) (x : DD) (w : World) (hr : RK w w.heap.size V D) (hv : VSK V D) (hn : LenK D 2000000) (hs : SmallK D 4000000) (hx : SmallX x 4000000) :
    Calls Try.prog 15 #[.agg #[.slice V.A D.live.length V.c, .slice V.K D.safe.length V.d, .slice V.O D.ops.length V.o], .agg #[.int .i64 x.1, .string x.2.1, .string x.2.2.1, .string x.2.2.2]] w (MadeKC w w.heap.size (doR D x) (doC D x)) := by
  obtain ⟨h0, h1, h2, hb⟩ := three_boxes w V D x
  have X := hid h0
  have OP := hid h1
  have Y := hid h2
  have HYL := hid h2.lt
  have HB := hid hb
  have HR := hid ((hr.below hb).more hb.size)
  have HN := hid hn
  have HS := hid hs
  have HX := hid hx
  have HV := hid hv
  clear hv
  clear hr hn hs hx h0 h1 h2 hb
  cases hd : diskD D
  · have HE : Hid (doC D x = 1 ∧ doR D x = ⟨[], [], []⟩) := by simp [Hid, doC, doR, hd]
    go_enter Try.func15, Try.ntmps15
    have b0 := X.out.c0
    have b1 := X.out.c1
    have b2 := X.out.c2
    obtain ⟨_, o0, o1, o2, o3⟩ := OP.out
    go_wp2_with fail
    clear b0 b1 b2 o0 o1 o2 o3
    generalize hgq : ((w.alloc (.cells #[.slice V.A D.live.length V.c, .slice V.K D.safe.length V.d, .slice V.O D.ops.length V.o] 33)).alloc (.cells #[.int .i64 x.1, .string x.2.1, .string x.2.2.1, .string x.2.2.2] 37)).alloc (.cells #[.slice none 0 0, .slice none 0 0, .slice none 0 0] 33) = w0 at *
    clear hgq
    refine (impl_DiskOk V D _ HR.out HV.out HN.out HS.out).mono ?_
    rintro e w1 ⟨rfl, hb⟩
    have HB1 := hid hb
    clear hb
    have X1 := hid (X.out.below HB1.out)
    have OP1 := hid (OP.out.below HB1.out)
    have Y9 := hid (Y.out.below HB1.out)
    have HR1 := hid ((HR.out.below HB1.out).more HB1.out.size)
    have z0 := Y9.out.c0
    have z1 := Y9.out.c1
    have z2 := Y9.out.c2
    have k0 := Y9.out.fz 0
    have k1 := Y9.out.fz 1
    have k2 := Y9.out.fz 2
    go_wp2_with fail
    refine world_post (S := fun wq => Row3 wq (w.heap.size + 2) 33 (.slice none 0 0) (.slice none 0 0) (.slice none 0 0) ∧ OwnK wq w.heap.size ⟨none, 0, none, 0, none, 0⟩ ⟨[], [], []⟩ ∧ Below w.heap.size w wq) _
      ⟨((Y9.out.s0 _).s1 _).s2 _, OwnK.nil_ _ _,
        (((HB.out.trans (HB1.out.mono HB.out.size)).setCell (p := ⟨w.heap.size + 2, 0, none⟩) (by simp) _).setCell (p := ⟨w.heap.size + 2, 1, none⟩) (by simp) _).setCell (p := ⟨w.heap.size + 2, 2, none⟩) (by simp) _⟩ ?_
    clear z0 z1 z2 k0 k1 k2
    intro wq ⟨hq, hp, hbq⟩
    have q0 := hq.c0
    have q1 := hq.c1
    have q2 := hq.c2
    rw [HE.out.1, HE.out.2]
    exact bodyPost_ret (v := .tuple #[.agg #[(.slice none 0 0), (.slice none 0 0), (.slice none 0 0)], .int .i64 1]) (by simp [results, Try.results15, go_sem, q0, q1, q2]) rfl ⟨⟨none, 0, none, 0, none, 0⟩, rfl, hp, hbq⟩
  · have HE : Hid (doC D x = actC D x ∧ doR D x = actD D x) := by simp [Hid, doC, doR, hd]
    have HLA := hid ((actD_len (x := x) ((diskD_len hd).more (by decide))).more (by decide : 401 ≤ 1000))
    go_enter Try.func15, Try.ntmps15
    have b0 := X.out.c0
    have b1 := X.out.c1
    have b2 := X.out.c2
    obtain ⟨_, o0, o1, o2, o3⟩ := OP.out
    go_wp2_with fail
    clear b0 b1 b2 o0 o1 o2 o3
    generalize hgq : ((w.alloc (.cells #[.slice V.A D.live.length V.c, .slice V.K D.safe.length V.d, .slice V.O D.ops.length V.o] 33)).alloc (.cells #[.int .i64 x.1, .string x.2.1, .string x.2.2.1, .string x.2.2.2] 37)).alloc (.cells #[.slice none 0 0, .slice none 0 0, .slice none 0 0] 33) = w0 at *
    clear hgq
    refine (impl_DiskOk V D _ HR.out HV.out HN.out HS.out).mono ?_
    rintro e w1 ⟨rfl, hb⟩
    have HB1 := hid hb
    clear hb
    have X1 := hid (X.out.below HB1.out)
    have OP1 := hid (OP.out.below HB1.out)
    have Y9 := hid (Y.out.below HB1.out)
    have HR1 := hid ((HR.out.below HB1.out).more HB1.out.size)
    have b0 := X1.out.c0
    have b1 := X1.out.c1
    have b2 := X1.out.c2
    obtain ⟨_, o0, o1, o2, o3⟩ := OP1.out
    go_wp2_with fail
    clear b0 b1 b2 o0 o1 o2 o3
    refine (impl_doneOn V D x _ HR1.out HV.out ((diskD_len hd).more (by decide)) (diskB_live hd) HX.out).mono ?_
    rintro e w2 ⟨V2, rfl, hr2, _, hb2⟩
    have hba : Below w2.heap.size w2 (w2.alloc (.cells #[(.slice V2.A (actD D x).live.length V2.c), (.slice V2.K (actD D x).safe.length V2.d), (.slice V2.O (actD D x).ops.length V2.o)] 33)) := bl_alloc (Below.refl _ _)
    have HR2 := hid ((hr2.below hba).more hba.size)
    have HB2 := hid (HB1.out.trans ((hb2.trans (hba.mono hb2.size)).mono HB1.out.size))
    have Y2 := hid ((Y9.out.below hb2).below hba)
    clear hr2 hb2 hba
    go_wp2_with fail
    refine (impl_ownDisk V2 (actD D x) _ HR2.out HLA.out).mono ?_
    rintro e w3 ⟨V3, rfl, ho3, hb3⟩
    have HOK := hid ho3
    have HBF := hid (HB2.out.trans (hb3.mono HB2.out.size))
    have Y3 := hid (Y2.out.below hb3)
    have HY2 := hid Y2.out.lt
    have HW2 := hid (Nat.le_trans HB.out.size HB2.out.size)
    clear ho3 hb3
    have z0 := Y3.out.c0
    have z1 := Y3.out.c1
    have z2 := Y3.out.c2
    have k0 := Y3.out.fz 0
    have k1 := Y3.out.fz 1
    have k2 := Y3.out.fz 2
    go_wp2_with fail
    refine world_post (S := fun wq => Row3 wq (w.heap.size + 2) 33 (.slice V3.A (actD D x).live.length V3.c) (.slice V3.K (actD D x).safe.length V3.d) (.slice V3.O (actD D x).ops.length V3.o) ∧ OwnK wq w.heap.size V3 (actD D x) ∧ Below w.heap.size w wq) _
      ⟨((Y3.out.s0 _).s1 _).s2 _, (HOK.out.stored Y3.out HY2.out).mono HW2.out,
        (((HB.out.trans (HBF.out.mono HB.out.size)).setCell (p := ⟨w.heap.size + 2, 0, none⟩) (by simp) _).setCell (p := ⟨w.heap.size + 2, 1, none⟩) (by simp) _).setCell (p := ⟨w.heap.size + 2, 2, none⟩) (by simp) _⟩ ?_
    clear z0 z1 z2 k0 k1 k2
    intro wq ⟨hq, hp, hbq⟩
    have q0 := hq.c0
    have q1 := hq.c1
    have q2 := hq.c2
    rw [HE.out.1, HE.out.2]
    exact bodyPost_ret (v := .tuple #[.agg #[(.slice V3.A (actD D x).live.length V3.c), (.slice V3.K (actD D x).safe.length V3.d), (.slice V3.O (actD D x).ops.length V3.o)], .int .i64 (actC D x)]) (by simp [results, Try.results15, go_sem, q0, q1, q2]) rfl ⟨V3, rfl, hp, hbq⟩
end Go.Proofs.Ytaiehccpefjbfaa
namespace Go.Proofs.Ytaiehccpefjbfaa
open Go.RowKit
theorem row_apart {w : World} {B g : Nat} {e t : TypeId} {size n : Nat} {v a b c : Value} {xs : List Value} (h : w.ownsRow B e size v n xs) (h' : Row3 w g t a b c) (hne : e ≠ t) : v.ownBlock ≠ some g := by
  rcases h.2 with ⟨rfl, _⟩ | ⟨g', cap, cur, rfl, _, hh, _⟩
  · simp [Value.ownBlock]
  · intro e'
    obtain rfl : g' = g := by simpa [Value.ownBlock] using e'
    rcases h'.2 with ⟨hv, _⟩ | ⟨g2, cap2, cur2, hv, _, hh2, _⟩
    · cases hv
    · injection hv with hA
      injection hA with hA
      injection hA with hA
      subst hA
      rw [hh] at hh2
      injection hh2 with h1
      injection h1 with _ h2
      exact hne h2
theorem OwnK.apart {w : World} {B g : Nat} {V : DV} {D : DK} {a b c : Value} (h : OwnK w B V D) (h' : Row3 w g 33 a b c) : ¬ V.has D g := by
  rintro (hq | hq | hq)
  · exact row_apart h.pl h' (by decide) hq
  · exact row_apart h.ps h' (by decide) hq
  · exact row_apart h.po h' (by decide) hq
theorem OwnK.one {w : World} {B g j : Nat} {V : DV} {D : DK} {a b c : Value} (h : OwnK w B V D) (h' : Row3 w g 33 a b c) (u : Value) : OwnK (w.setCell ⟨g, j, none⟩ u) B V D :=
  ⟨ownsRow_setCell_other h.pl (a := ⟨g, j, none⟩) (row_apart h.pl h' (by decide)) u, ownsRow_setCell_other h.ps (a := ⟨g, j, none⟩) (row_apart h.ps h' (by decide)) u, ownsRow_setCell_other h.po (a := ⟨g, j, none⟩) (row_apart h.po h' (by decide)) u, h.ne⟩
theorem OwnK.three {w : World} {B g : Nat} {V : DV} {D : DK} {a b c : Value} (h : OwnK w B V D) (h' : Row3 w g 33 a b c) (x y z : Value) : OwnK (((w.setCell ⟨g, 0, none⟩ x).setCell ⟨g, 1, none⟩ y).setCell ⟨g, 2, none⟩ z) B V D :=
  ((h.one h' x).one (h'.s0 x) y).one ((h'.s0 x).s1 y) z
end Go.Proofs.Ytaiehccpefjbfaa
