/-
  A hold that is drawn.
-/
import Derived.Test.YtjdmaoegfpgfjaaDrawL
namespace Go.Proofs.Ytjdmaoegfpgfjaa
open Go.RowKit

/-- What the drawn hold's region leaves: its block, the reader. -/
def HoldRel (B g : Nat) (w1 : World) (sx : Value) (wc : World) : Prop := ∃ (gx : Nat) (t m : Int) (v : Nat), sx = .pointer (some ⟨gx, 0, none⟩) ∧ Row3 wc gx 49 (.int .i64 t) (.string (keyT v)) (.int .i64 m) ∧ Rd wc B g ∧ w1.grownBy wc (some g) ∧ w1.heap.size ≤ gx
theorem HoldRel.al {B g : Nat} {w1 wc : World} {sx : Value} {o : Obj} (h : HoldRel B g w1 sx wc) : HoldRel B g w1 sx (wc.alloc o) := by
  obtain ⟨gx, t, m, v, e, h1, h2, h3, h4⟩ := h
  exact ⟨gx, t, m, v, e, h1.below (Bl.al (Below.refl _ _)), h2.below (Bl.al (Below.refl _ _)), grown_trans' h3 (grown_of_below (Bl.al (Below.refl _ _))), h4⟩
theorem HoldRel.lit {B g v : Nat} {t m : Int} {w1 wd : World} (h2 : Rd wd B g) (h3 : w1.grownBy wd (some g)) : HoldRel B g w1 (.pointer (some ⟨wd.heap.size, 0, none⟩)) (wd.alloc (.cells #[.int .i64 t, .string (keyT v), .int .i64 m] 49)) :=
  ⟨wd.heap.size, t, m, v, rfl, Row3.lit wd _ _ _ _, h2.below (Bl.al (Below.refl _ _)), grown_trans' h3 (grown_of_below (Bl.al (Below.refl _ _))), h3.size⟩
theorem HoldRel.lit1 {B g v : Nat} {t m : Int} {w1 wd : World} {o : Obj} (h2 : Rd wd B g) (h3 : w1.grownBy wd (some g)) : HoldRel B g w1 (.pointer (some ⟨wd.heap.size + 1, 0, none⟩)) ((wd.alloc o).alloc (.cells #[.int .i64 t, .string (keyT v), .int .i64 m] 49)) := by
  have h := HoldRel.lit (v := v) (t := t) (m := m) (wd := wd.alloc o) (h2.below (Bl.al (Below.refl _ _))) (grown_trans' h3 (grown_of_below (Bl.al (Below.refl _ _))))
  rw [World.size_alloc] at h
  exact h
theorem HoldRel.set {B g v gx : Nat} {t m : Int} {a b c : Value} {w1 wd : World} (hx : Row3 wd gx 49 a b c) (hgx : w1.heap.size ≤ gx) (hg : g < w1.heap.size) (h2 : Rd wd B g) (h3 : w1.grownBy wd (some g)) :
    HoldRel B g w1 (.pointer (some ⟨gx, 0, none⟩)) (((wd.setCell ⟨gx, 0, none⟩ (.int .i64 t)).setCell ⟨gx, 1, none⟩ (.string (keyT v))).setCell ⟨gx, 2, none⟩ (.int .i64 m)) := by
  have hB := h2.lt.2
  exact ⟨gx, t, m, v, rfl, ((hx.s0 _).s1 _).s2 _, ((h2.set (by omega) (by omega)).set (by omega) (by omega)).set (by omega) (by omega), grown_cellR (grown_cellR (grown_cellR h3 hgx) hgx) hgx, hgx⟩

set_option maxHeartbeats 40000000 in
set_option maxRecDepth 100000 in
theorem hold_any (B g : Nat) (w : World) (h : Rd w B g) :
    Calls Try.prog 94 #[.pointer (some ⟨g, 0, none⟩)] w (HoldD B g w) := by
  have r0 := Row3.lit w 49 (.int .i64 0) (.string ⟨#[]⟩) (.int .i64 0)
  have hba : Below w.heap.size w (w.alloc (.cells #[.int .i64 0, .string ⟨#[]⟩, .int .i64 0] 49)) := (Below.refl _ _).alloc (Nat.le_refl _) _
  have hlt := h.lt
  have R1 := hid r0
  have HR1 := hid (h.below hba)
  have HB1 := hid hba
  have LG := hid (show g < w.heap.size from hlt.1)
  have LB := hid (show B ≤ g from hlt.2)
  clear h r0 hba hlt
  go_enter Try.func94, Try.ntmps94
  go_wp2_with fail
  rename_i K0 hK0
  generalize hw1 : w.alloc (.cells #[.int .i64 0, .string ⟨#[]⟩, .int .i64 0] 49) = w1 at *
  clear hw1
  have LG1 : Hid (g < w1.heap.size) := Nat.lt_of_lt_of_le LG.out HB1.out.size
  go_cut [3] from 4 to 15 (fun sx wc => HoldRel B g w1 sx wc)
  case first =>
    clear hK0
    have tk1 : Hid (1 = 1) := rfl
    have tk2 : Hid (2 = 2) := rfl
    have tk3 : Hid (3 = 3) := rfl
    go_region_with
      (first
        | (clear tk1; go_at_call 72; refine (below_any B g 4 _ (HR1.out.below (by repeat (first | exact Below.refl _ _ | refine Bl.al ?_ | refine Bl.dr ?_))) (by omega) (by omega)).mono ?_; rintro e wa ⟨va, hva, rfl, hr, hg0⟩; have hg := undrew hg0; clear hg0; have HRa := hid hr; have HC := Bl.of (w := w1) hg (by repeat (first | exact Below.refl _ _ | refine Bl.al ?_ | refine Bl.dr ?_)); have HSa : Hid (w1.heap.size ≤ wa.heap.size) := Nat.le_trans HC.size hg.size; have LGa : Hid (g < wa.heap.size) := Nat.lt_of_lt_of_le LG1.out HSa.out; have HGa := hid (grown_trans' (grown_of_below HC) hg); (try (with_reducible have TBa := hid (show TbAt wa g w1.heap.size from by first | exact (TbAt.new (w := w1) rfl LG1.out).grown hg | exact ((TbAt.new (w := w1) rfl LG1.out).below (Bl.al (Below.refl _ _))).grown hg))); (try (with_reducible have TBa := hid (show TbAt wa g (w1.heap.size + 1) from by exact (TbAt.new1 (w := w1) rfl LG1.out).grown hg))); (try (with_reducible have XRa := hid (show Row3 wa w1.heap.size 49 (.int .i64 0) (.string ⟨#[]⟩) (.int .i64 0) from by first | exact row3_lit0 (w := w1) hg rfl LG1.out | exact row3_lit2 (w := w1) hg rfl LG1.out))); (try (with_reducible have XRa := hid (show Row3 wa (w1.heap.size + 1) 49 (.int .i64 0) (.string ⟨#[]⟩) (.int .i64 0) from by exact row3_lit1 (w := w1) hg rfl LG1.out))); clear hr hg HC)
        | (clear tk2; go_at_call 72; refine (below_any B g 3 _ (HRa.out.below (by repeat (first | exact Below.refl _ _ | refine Bl.al ?_ | refine Bl.dr ?_))) (by omega) (by omega)).mono ?_; rintro e wb ⟨vb, hvb, rfl, hr, hg⟩; have HRb := hid hr; have HC := Bl.of (w := wa) hg (by repeat (first | exact Below.refl _ _ | refine Bl.al ?_ | refine Bl.dr ?_)); have HSb : Hid (wa.heap.size ≤ wb.heap.size) := Nat.le_trans HC.size hg.size; have LGb : Hid (g < wb.heap.size) := Nat.lt_of_lt_of_le LGa.out HSb.out; have HGb := hid (grown_trans' HGa.out (grown_trans' (grown_of_below HC) hg)); (try (have TBb := hid ((TBa.out.below HC).grown hg))); (try (have XRb := hid ((XRa.out.below HC).farR hg (by rintro k hk; injection hk with hk; have := LG1.out; have := HSa.out; omega)))); (try (with_reducible have TBb := hid (show TbAt wb g wa.heap.size from by first | exact (TbAt.new (w := wa) rfl LGa.out).grown hg | exact ((TbAt.new (w := wa) rfl LGa.out).below (Bl.al (Below.refl _ _))).grown hg))); (try (with_reducible have TBb := hid (show TbAt wb g (wa.heap.size + 1) from by exact (TbAt.new1 (w := wa) rfl LGa.out).grown hg))); (try (with_reducible have XRb := hid (show Row3 wb wa.heap.size 49 (.int .i64 0) (.string ⟨#[]⟩) (.int .i64 0) from by first | exact row3_lit0 (w := wa) hg rfl LGa.out | exact row3_lit2 (w := wa) hg rfl LGa.out))); (try (with_reducible have XRb := hid (show Row3 wb (wa.heap.size + 1) 49 (.int .i64 0) (.string ⟨#[]⟩) (.int .i64 0) from by exact row3_lit1 (w := wa) hg rfl LGa.out))); have e1 : (0 : Int) ≤ (vb : Int) := (by omega); have e2 : (vb : Int) < 3 := (by omega); have hT := tb_walk vb; (try (have tcb := TBb.out.at_ hvb)); (try (have ltb := TBb.out.lt)); clear hr hg HC)
        | (clear tk3; go_at_call 72; refine (below_any B g 4 _ (HRb.out.below (by repeat (first | exact Below.refl _ _ | refine Bl.al ?_ | refine Bl.dr ?_))) (by omega) (by omega)).mono ?_; rintro e wd ⟨vd, hvd, rfl, hr, hg⟩; have HRd := hid hr; have HC := Bl.of (w := wb) hg (by repeat (first | exact Below.refl _ _ | refine Bl.al ?_ | refine Bl.dr ?_)); have HSd : Hid (wb.heap.size ≤ wd.heap.size) := Nat.le_trans HC.size hg.size; have LGd : Hid (g < wd.heap.size) := Nat.lt_of_lt_of_le LGb.out HSd.out; have HGd := hid (grown_trans' HGb.out (grown_trans' (grown_of_below HC) hg)); (try (have TBd := hid ((TBb.out.below HC).grown hg))); (try (have XRd := hid ((XRb.out.below HC).farR hg (by rintro k hk; injection hk with hk; have := LG1.out; have := HSa.out; have := HSb.out; omega)))); (try (with_reducible have TBd := hid (show TbAt wd g wb.heap.size from by first | exact (TbAt.new (w := wb) rfl LGb.out).grown hg | exact ((TbAt.new (w := wb) rfl LGb.out).below (Bl.al (Below.refl _ _))).grown hg))); (try (with_reducible have TBd := hid (show TbAt wd g (wb.heap.size + 1) from by exact (TbAt.new1 (w := wb) rfl LGb.out).grown hg))); (try (with_reducible have XRd := hid (show Row3 wd wb.heap.size 49 (.int .i64 0) (.string ⟨#[]⟩) (.int .i64 0) from by first | exact row3_lit0 (w := wb) hg rfl LGb.out | exact row3_lit2 (w := wb) hg rfl LGb.out))); (try (with_reducible have XRd := hid (show Row3 wd (wb.heap.size + 1) 49 (.int .i64 0) (.string ⟨#[]⟩) (.int .i64 0) from by exact row3_lit1 (w := wb) hg rfl LGb.out))); (try (have tcd := TBd.out.at_ hvb)); (try (have ltd := TBd.out.lt)); (try (have ltx := (World.ownsRow.lt XRd.out _ rfl).2)); (try (have x0 := XRd.out.c0)); (try (have x1 := XRd.out.c1)); (try (have x2 := XRd.out.c2)); (try (have y0 := XRd.out.fz 0)); (try (have y1 := XRd.out.fz 1)); (try (have y2 := XRd.out.fz 2)); clear hr hg HC))
    all_goals
      go_wp2_with fail
      go_meet
      case rel => first
        | with_reducible exact HoldRel.lit HRd.out HGd.out
        | with_reducible exact HoldRel.set XRd.out (by have := HSa.out; have := HSb.out; omega) LG1.out HRd.out HGd.out
        | with_reducible exact (HoldRel.lit HRd.out HGd.out).al
        | with_reducible exact HoldRel.lit1 HRd.out HGd.out
        | with_reducible exact (HoldRel.set XRd.out (by have := HSa.out; have := HSb.out; omega) LG1.out HRd.out HGd.out).al
  obtain ⟨gx, t, m, v, rfl, hx, hr, hg, hgx⟩ := hcut
  obtain ⟨w2, rfl⟩ : ∃ w2, w2 = wc := ⟨_, rfl⟩
  have L0 : Hid (w.heap.size < w1.heap.size) := (World.ownsRow.lt R1.out _ rfl).2
  have LW : Hid (g ≠ w.heap.size) := by have := LG.out; unfold Hid; omega
  have R2 := hid (R1.out.farR hg (by rintro k hk; injection hk with hk; have := LG.out; omega))
  have X2 := hid hx
  have HR2 := hid hr
  have HG2 := hid (grown_trans' (grown_of_below HB1.out) hg)
  have GX := hid hgx
  clear hx hr hg hgx
  go_wp2_with fail
  refine (once_any B g 40 _ HR2.out (by omega) (by omega)).mono ?_
  rintro e w3 ⟨b, rfl, hr3, hg3⟩
  have R3 := hid (R2.out.farR hg3 (by rintro k hk; injection hk with hk; have := LG.out; omega))
  have X3 := hid (X2.out.farR hg3 (by rintro k hk; injection hk with hk; have := LG1.out; have := GX.out; omega))
  have HR3 := hid hr3
  have HG3 := hid (grown_trans' HG2.out hg3)
  clear hr3 hg3
  cases b
  case false =>
    have x0 := X3.out.c0
    have x1 := X3.out.c1
    have x2 := X3.out.c2
    have z0 := R3.out.c0
    have z1 := R3.out.c1
    have z2 := R3.out.c2
    have k0 := R3.out.fz 0
    have k1 := R3.out.fz 1
    have k2 := R3.out.fz 2
    go_wp2_with fail
    refine world_post (S := fun wq => Row3 wq w.heap.size 49 (.int .i64 t) (.string (keyT v)) (.int .i64 m) ∧ Rd wq B g ∧ w.grownBy wq (some g)) _
      ⟨((R3.out.s0 _).s1 _).s2 _, ((HR3.out.set (by have := LW.out; omega) (by have := LG.out; have := LB.out; omega)).set (by have := LW.out; omega) (by have := LG.out; have := LB.out; omega)).set (by have := LW.out; omega) (by have := LG.out; have := LB.out; omega), grown_cellR (grown_cellR (grown_cellR HG3.out (Nat.le_refl _)) (Nat.le_refl _)) (Nat.le_refl _)⟩ ?_
    clear x0 x1 x2 z0 z1 z2 k0 k1 k2
    intro wq ⟨hq, hqr, hqg⟩
    have q0 := hq.c0
    have q1 := hq.c1
    have q2 := hq.c2
    exact bodyPost_ret (v := .agg #[.int .i64 t, .string (keyT v), .int .i64 m]) (by simp [results, Try.results94, go_sem, q0, q1, q2]) rfl ⟨(t, keyT v, m), rfl, keyT_size v, hqr, hqg⟩
  case true =>
    go_wp2_with fail
    refine (off_any B g 1 4 _ HR3.out (by omega) (by omega) (by omega)).mono ?_
    rintro e w4 ⟨m4, rfl, hr4, hg4⟩
    have R4 := hid (R3.out.farR hg4 (by rintro k hk; injection hk with hk; have := LG.out; omega))
    have X4 := hid (X3.out.farR hg4 (by rintro k hk; injection hk with hk; have := LG1.out; have := GX.out; omega))
    have HR4 := hid hr4
    have HG4 := hid (grown_trans' HG3.out hg4)
    clear hr4 hg4
    have R5 := hid (R4.out.other X4.out (by have := L0.out; have := GX.out; omega) 2 (.int .i64 m4))
    have X5 := hid (X4.out.s2 (.int .i64 m4))
    have HR5 := hid (HR4.out.set (gx := gx) (j := 2) (v := .int .i64 m4) (by have := LG1.out; have := GX.out; omega) (by have := LG1.out; have := GX.out; have := LB.out; omega))
    have HG5 := hid (grown_cellR (gx := gx) (j := 2) (v := .int .i64 m4) HG4.out (by have := L0.out; have := GX.out; omega))
    have x0 := X4.out.c0
    have x1 := X4.out.c1
    have x2 := X4.out.c2
    have kx := X4.out.fz 2
    have z0 := R4.out.c0
    have z1 := R4.out.c1
    have z2 := R4.out.c2
    have k0 := R4.out.fz 0
    have k1 := R4.out.fz 1
    have k2 := R4.out.fz 2
    have ne1 : ¬ gx = w.heap.size := by have := L0.out; have := GX.out; omega
    have ne2 : ¬ w.heap.size = gx := by have := L0.out; have := GX.out; omega
    go_wp2_with fail
    refine world_post (S := fun wq => Row3 wq w.heap.size 49 (.int .i64 t) (.string (keyT v)) (.int .i64 m4) ∧ Rd wq B g ∧ w.grownBy wq (some g)) _
      ⟨((R5.out.s0 _).s1 _).s2 _, ((HR5.out.set (by have := LW.out; omega) (by have := LG.out; have := LB.out; omega)).set (by have := LW.out; omega) (by have := LG.out; have := LB.out; omega)).set (by have := LW.out; omega) (by have := LG.out; have := LB.out; omega), grown_cellR (grown_cellR (grown_cellR HG5.out (Nat.le_refl _)) (Nat.le_refl _)) (Nat.le_refl _)⟩ ?_
    clear x0 x1 x2 kx z0 z1 z2 k0 k1 k2
    intro wq ⟨hq, hqr, hqg⟩
    have q0 := hq.c0
    have q1 := hq.c1
    have q2 := hq.c2
    exact bodyPost_ret (v := .agg #[.int .i64 t, .string (keyT v), .int .i64 m4]) (by simp [results, Try.results94, go_sem, q0, q1, q2]) rfl ⟨(t, keyT v, m4), rfl, keyT_size v, hqr, hqg⟩
end Go.Proofs.Ytjdmaoegfpgfjaa
