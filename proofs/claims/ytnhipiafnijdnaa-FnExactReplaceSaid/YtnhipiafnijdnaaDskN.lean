/-
  Sync, the model's and the program's: contracts (tools/mkdskn.py).
-/
import Derived.Test.YtnhipiafnijdnaaDskE
namespace Go.Proofs.Ytnhipiafnijdnaa
open Go.RowKit Go.Shelf

theorem OwnK.nil_ (w : World) (B : Nat) : OwnK w B ⟨none, 0, none, 0, none, 0⟩ ⟨[], [], []⟩ := ⟨OwnPF.nil_ _ _, OwnPF.nil_ _ _, OwnD.nil_ _ _, fun _ h _ => by cases h⟩
def syncR (D : DK) : DK := if diskD D then ⟨D.live, D.live, []⟩ else ⟨[], [], []⟩
theorem diskD_len {D : DK} (h : diskD D = true) : LenK D 200 := by
  have h1 := diskB_iff.1 h
  have h2 := (fitB_iff.1 (filesB_iff.1 (diskB_live h)).1).1
  have h3 := (fitB_iff.1 (filesB_iff.1 h1.1).1).1
  exact ⟨by omega, by omega, h1.2.1⟩

theorem syncR_len (D : DK) : LenK (syncR D) 1000 := by
  unfold syncR
  split
  · rename_i h
    have := (diskD_len h).1
    exact ⟨Nat.le_trans this (by decide), Nat.le_trans this (by decide), Nat.zero_le _⟩
  · exact ⟨Nat.zero_le _, Nat.zero_le _, Nat.zero_le _⟩

set_option maxHeartbeats 16000000 in
set_option maxRecDepth 100000 in
theorem spec_Sync (V : DV) (D : DK) (w : World) (hr : RK w w.heap.size V D) (hn : LenK D 2000000) (hs : SmallK D 4000000) :
    Calls Try.prog 22 #[.agg #[.slice V.A D.live.length V.c, .slice V.K D.safe.length V.d, .slice V.O D.ops.length V.o]] w (MadeK w w.heap.size (syncR D)) := by
  have h0 := (Row3.lit w 31 (.slice V.A D.live.length V.c) (.slice V.K D.safe.length V.d) (.slice V.O D.ops.length V.o)).below ((Below.refl _ _).alloc (Nat.le_refl _) (.cells #[.slice none 0 0, .slice none 0 0, .slice none 0 0] 31))
  have h1 := Row3.lit (w.alloc (.cells #[.slice V.A D.live.length V.c, .slice V.K D.safe.length V.d, .slice V.O D.ops.length V.o] 31)) 31 (.slice none 0 0) (.slice none 0 0) (.slice none 0 0)
  rw [World.size_alloc] at h1
  have hb := ((Below.refl w.heap.size w).alloc (Nat.le_refl _) (.cells #[.slice V.A D.live.length V.c, .slice V.K D.safe.length V.d, .slice V.O D.ops.length V.o] 31)).alloc (by simp) (.cells #[.slice none 0 0, .slice none 0 0, .slice none 0 0] 31)
  have XV := hid h0
  have YV := hid h1
  have HBV := hid hb
  have HRV := hid ((hr.below hb).more hb.size)
  have HN := hid hn
  have HS := hid hs
  clear hr hn hs h0 h1 hb
  cases hd : diskD D
  · have HE : Hid (syncR D = ⟨[], [], []⟩) := by simp [Hid, syncR, hd]
    go_enter Try.func22, Try.ntmps22
    have c0 := XV.out.c0
    have c1 := XV.out.c1
    have c2 := XV.out.c2
    go_wp2_with fail
    clear c0 c1 c2
    generalize hgq : (w.alloc (.cells #[.slice V.A D.live.length V.c, .slice V.K D.safe.length V.d, .slice V.O D.ops.length V.o] 31)).alloc (.cells #[.slice none 0 0, .slice none 0 0, .slice none 0 0] 31) = v0 at *
    clear hgq
    refine (spec_DiskOk V D _ HRV.out HN.out HS.out).mono ?_
    rintro e w0 ⟨rfl, hb⟩
    have HB := hid (HBV.out.trans (hb.mono HBV.out.size))
    have X := hid (XV.out.below hb)
    have Y := hid (YV.out.below hb)
    have HYL := hid (Y.out.lt)
    have HR := hid ((HRV.out.below hb).more hb.size)
    clear hb
    have z0 := Y.out.c0
    have z1 := Y.out.c1
    have z2 := Y.out.c2
    have k0 := Y.out.fz 0
    have k1 := Y.out.fz 1
    have k2 := Y.out.fz 2
    go_wp2_with fail
    refine world_post (S := fun wq => Row3 wq (w.heap.size + 1) 31 (.slice none 0 0) (.slice none 0 0) (.slice none 0 0) ∧ OwnK wq w.heap.size ⟨none, 0, none, 0, none, 0⟩ ⟨[], [], []⟩ ∧ Below w.heap.size w wq) _
      ⟨((Y.out.s0 _).s1 _).s2 _, OwnK.nil_ _ _,
        ((HB.out.setCell (p := ⟨w.heap.size + 1, 0, none⟩) (by simp) _).setCell (p := ⟨w.heap.size + 1, 1, none⟩) (by simp) _).setCell (p := ⟨w.heap.size + 1, 2, none⟩) (by simp) _⟩ ?_
    clear z0 z1 z2 k0 k1 k2
    intro wq ⟨hq, hp, hbq⟩
    have q0 := hq.c0
    have q1 := hq.c1
    have q2 := hq.c2
    rw [HE.out]
    exact bodyPost_ret (v := .agg #[(.slice none 0 0), (.slice none 0 0), (.slice none 0 0)]) (by simp [results, Try.results22, go_sem, q0, q1, q2]) rfl ⟨⟨none, 0, none, 0, none, 0⟩, rfl, hp, hbq⟩
  · have HE : Hid (syncR D = ⟨D.live, D.live, []⟩) := by simp [Hid, syncR, hd]
    have hn1 := (diskD_len hd).1
    go_enter Try.func22, Try.ntmps22
    have c0 := XV.out.c0
    have c1 := XV.out.c1
    have c2 := XV.out.c2
    go_wp2_with fail
    clear c0 c1 c2
    generalize hgq : (w.alloc (.cells #[.slice V.A D.live.length V.c, .slice V.K D.safe.length V.d, .slice V.O D.ops.length V.o] 31)).alloc (.cells #[.slice none 0 0, .slice none 0 0, .slice none 0 0] 31) = v0 at *
    clear hgq
    refine (spec_DiskOk V D _ HRV.out HN.out HS.out).mono ?_
    rintro e w0 ⟨rfl, hb⟩
    have HB := hid (HBV.out.trans (hb.mono HBV.out.size))
    have X := hid (XV.out.below hb)
    have Y := hid (YV.out.below hb)
    have HYL := hid (Y.out.lt)
    have HR := hid ((HRV.out.below hb).more hb.size)
    clear hb
    obtain ⟨i0, hi0, hz0, hz1, hz2⟩ := info_parts pairInfoF
    have HBF0 := hid (Below.refl w0.heap.size w0)
    have BR0 := hid (Below.refl w0.heap.size w0)
    have hlt0 : w.heap.size < w0.heap.size := X.out.lt
    have b0 := X.out.c0
    have b1 := X.out.c1
    have b2 := X.out.c2
    have tk1 : Hid (1 = 1) := rfl
    have tk2 : Hid (1 = 1) := rfl
    have tk3 : Hid (1 = 1) := rfl
    go_wp2_with fail
    go_region_held3 (fun w' => w'.cell? ⟨w.heap.size, 0, none⟩ = some (.slice V.A D.live.length V.c) ∧ w'.cell? ⟨w.heap.size, 1, none⟩ = some (.slice V.K D.safe.length V.d) ∧ w'.cell? ⟨w.heap.size, 2, none⟩ = some (.slice V.O D.ops.length V.o)) (first | (go_keep; done) | (refine ⟨(Below.cell (p := ⟨w.heap.size, 0, none⟩) ?_ hlt2).trans b20, (Below.cell (p := ⟨w.heap.size, 1, none⟩) ?_ hlt2).trans b21, (Below.cell (p := ⟨w.heap.size, 2, none⟩) ?_ hlt2).trans b22⟩ <;> (repeat (first | with_reducible exact BR2.out | with_reducible apply bl_alloc | with_reducible apply bl_drew)) <;> done) | (refine ⟨(Below.cell (p := ⟨w.heap.size, 0, none⟩) ?_ hlt1).trans b10, (Below.cell (p := ⟨w.heap.size, 1, none⟩) ?_ hlt1).trans b11, (Below.cell (p := ⟨w.heap.size, 2, none⟩) ?_ hlt1).trans b12⟩ <;> (repeat (first | with_reducible exact BR1.out | with_reducible apply bl_alloc | with_reducible apply bl_drew)) <;> done) | (refine ⟨(Below.cell (p := ⟨w.heap.size, 0, none⟩) ?_ hlt0).trans b0, (Below.cell (p := ⟨w.heap.size, 1, none⟩) ?_ hlt0).trans b1, (Below.cell (p := ⟨w.heap.size, 2, none⟩) ?_ hlt0).trans b2⟩ <;> (repeat (first | with_reducible exact BR0.out | with_reducible apply bl_alloc | with_reducible apply bl_drew)) <;> done))
      (first
        | (clear tk1; refine step_append_rf _ (by rfl) _ _ _ (by rfl) i0 Try.underlying28 hi0 hz0 hz1 hz2 w0.heap.size _ 0 0 [] (by rfl) rfl ?_ w0.heap.size V.A D.live.length V.c D.live (by rfl) rfl ?_ (by simp; omega) ?_ ?_; exact own_emp (by repeat (first | (with_reducible refine emp_new ?_; first | (simp; done) | (simp; omega)) | with_reducible apply emp_alloc | with_reducible apply emp_drew)) (by first | omega | (simp; done) | (simp; omega)); exact HR.out.1.below (by repeat (first | with_reducible exact HBF0.out | with_reducible apply bl_alloc | with_reducible apply bl_drew)); exact Below.size (by repeat (first | with_reducible exact HBF0.out | with_reducible apply bl_alloc | with_reducible apply bl_drew)); intro A1 n1 c1 w1 hn1 hap1; have hq1 := cpF hap1 (by repeat (first | (with_reducible refine emp_new ?_; first | (simp; done) | (simp; omega)) | with_reducible apply emp_alloc | with_reducible apply emp_drew)) (by first | omega | (simp; done) | (simp; omega)) (by repeat (first | with_reducible exact HBF0.out | with_reducible apply bl_alloc | with_reducible apply bl_drew)); have HO1 := hid hq1.1; have HC1 := hid hq1.2; have hsz1 := hq1.2.below.size; have hle1 := hq1.2.le; (try simp at hle1); have BR1 := hid (Below.refl w1.heap.size w1); have hlt1 : w.heap.size < w1.heap.size := (by omega); have e1 : n1 = D.live.length := hn1; subst e1; clear hap1 hn1 hq1; have b10 := (X.out.below HC1.out.below).c0; have b11 := (X.out.below HC1.out.below).c1; have b12 := (X.out.below HC1.out.below).c2)
        | (have hck := HC1; clear hck; clear tk2; refine step_append_rf _ (by rfl) _ _ _ (by rfl) i0 Try.underlying28 hi0 hz0 hz1 hz2 w0.heap.size _ 0 0 [] (by rfl) rfl ?_ w0.heap.size V.A D.live.length V.c D.live (by rfl) rfl ?_ (by simp; omega) ?_ ?_; exact own_emp (by repeat (first | (with_reducible refine emp_new ?_; first | (simp; done) | (simp; omega)) | with_reducible apply emp_alloc | with_reducible apply emp_drew | (with_reducible refine HC1.out.emp _ _ ?_ (by first | omega | (simp; done) | (simp; omega))))) (by first | omega | (simp; done) | (simp; omega)); exact HR.out.1.below (by repeat (first | with_reducible exact HC1.out.below | with_reducible apply bl_alloc | with_reducible apply bl_drew)); exact Below.size (by repeat (first | with_reducible exact HC1.out.below | with_reducible apply bl_alloc | with_reducible apply bl_drew)); intro A2 n2 c2 w2 hn2 hap2; have hq2 := cpF hap2 (by repeat (first | (with_reducible refine emp_new ?_; first | (simp; done) | (simp; omega)) | with_reducible apply emp_alloc | with_reducible apply emp_drew | (with_reducible refine HC1.out.emp _ _ ?_ (by first | omega | (simp; done) | (simp; omega))))) (by first | omega | (simp; done) | (simp; omega)) (by repeat (first | with_reducible exact HC1.out.below | with_reducible apply bl_alloc | with_reducible apply bl_drew)); have HO2 := hid hq2.1; have HC2 := hid hq2.2; have hsz2 := hq2.2.below.size; have hle2 := hq2.2.le; (try simp at hle2); have BR2 := hid (Below.refl w2.heap.size w2); have hlt2 : w.heap.size < w2.heap.size := (by omega); have e2 : n2 = D.live.length := hn2; subst e2; clear hap2 hn2 hq2; have b20 := (X.out.below HC2.out.below).c0; have b21 := (X.out.below HC2.out.below).c1; have b22 := (X.out.below HC2.out.below).c2; have Y9 := hid (Y.out.below HC2.out.below); have z0 := Y9.out.c0; have z1 := Y9.out.c1; have z2 := Y9.out.c2; have k0 := Y9.out.fz 0; have k1 := Y9.out.fz 1; have k2 := Y9.out.fz 2))
    all_goals
      have P12 := HC2.out.row _ _ _ _ _ _ _ (own_below HO1.out (by repeat (first | with_reducible exact BR1.out | with_reducible apply bl_alloc | with_reducible apply bl_drew))) (fun k hk => by have h1 := HC1.out.at_ k hk; (try simp at h1); omega)
      have HOK : Hid (OwnK w2 w0.heap.size ⟨A1, c1, A2, c2, none, 0⟩ ⟨D.live, D.live, []⟩) := ⟨P12, HO2.out, OwnD.nil_ _ _, fun q h1 h2 => by have h3 := HC1.out.at_ q h1; have h4 := HC2.out.at_ q h2; (try simp at h3 h4); omega⟩
      have HBF := hid HC2.out.below
      clear P12
      go_wp2_with fail
      refine world_post (S := fun wq => Row3 wq (w.heap.size + 1) 31 (.slice A1 D.live.length c1) (.slice A2 D.live.length c2) (.slice none 0 0) ∧ OwnK wq w.heap.size ⟨A1, c1, A2, c2, none, 0⟩ ⟨D.live, D.live, []⟩ ∧ Below w.heap.size w wq) _
        ⟨((Y9.out.s0 _).s1 _).s2 _, (HOK.out.stored Y9.out HYL.out).mono HB.out.size,
          (((HB.out.trans (HBF.out.mono HB.out.size)).setCell (p := ⟨w.heap.size + 1, 0, none⟩) (by simp) _).setCell (p := ⟨w.heap.size + 1, 1, none⟩) (by simp) _).setCell (p := ⟨w.heap.size + 1, 2, none⟩) (by simp) _⟩ ?_
      clear b0 b1 b2 b10 b11 b12 b20 b21 b22 z0 z1 z2 k0 k1 k2
      intro wq ⟨hq, hp, hbq⟩
      have q0 := hq.c0
      have q1 := hq.c1
      have q2 := hq.c2
      rw [HE.out]
      exact bodyPost_ret (v := .agg #[(.slice A1 D.live.length c1), (.slice A2 D.live.length c2), (.slice none 0 0)]) (by simp [results, Try.results22, go_sem, q0, q1, q2]) rfl ⟨⟨A1, c1, A2, c2, none, 0⟩, rfl, hp, hbq⟩

/-! ### the program's -/
set_option maxHeartbeats 2000000 in
theorem impl_syncOf (V : DV) (D : DK) (w : World) :
    Calls Try.prog 75 #[.agg #[.slice V.A D.live.length V.c, .slice V.K D.safe.length V.d, .slice V.O D.ops.length V.o]] w fun e w' => e = .returned (.agg #[.slice V.A D.live.length V.c, .slice V.A D.live.length V.c, .slice none 0 0]) ∧ Below w.heap.size w w' := by
  have h0 := (Row3.lit w 31 (.slice V.A D.live.length V.c) (.slice V.K D.safe.length V.d) (.slice V.O D.ops.length V.o)).below ((Below.refl _ _).alloc (Nat.le_refl _) (.cells #[.slice none 0 0, .slice none 0 0, .slice none 0 0] 31))
  have h1 := Row3.lit (w.alloc (.cells #[.slice V.A D.live.length V.c, .slice V.K D.safe.length V.d, .slice V.O D.ops.length V.o] 31)) 31 (.slice none 0 0) (.slice none 0 0) (.slice none 0 0)
  rw [World.size_alloc] at h1
  have hb := ((Below.refl w.heap.size w).alloc (Nat.le_refl _) (.cells #[.slice V.A D.live.length V.c, .slice V.K D.safe.length V.d, .slice V.O D.ops.length V.o] 31)).alloc (by simp) (.cells #[.slice none 0 0, .slice none 0 0, .slice none 0 0] 31)
  have HB := hid hb
  clear h0 h1 hb
  go_enter Try.func75, Try.ntmps75
  go_wp2_with fail
  exact bodyPost_ret (v := .agg #[.slice V.A D.live.length V.c, .slice V.A D.live.length V.c, .slice none 0 0]) (by simp [results, Try.results75, go_sem]) rfl ⟨rfl, by
    first
    | exact ((Below.refl w.heap.size w).alloc (Nat.le_refl _) _).alloc (by simp) _
    | exact ((HB.out.setCell (p := ⟨w.heap.size + 1, 0, none⟩) (by simp) _).setCell (p := ⟨w.heap.size + 1, 1, none⟩) (by simp) _).setCell (p := ⟨w.heap.size + 1, 2, none⟩) (by simp) _⟩

set_option maxHeartbeats 16000000 in
set_option maxRecDepth 100000 in
theorem impl_Sync (V : DV) (D : DK) (w : World) (hr : RK w w.heap.size V D) (hv : VSK V D) (hn : LenK D 2000000) (hs : SmallK D 4000000) :
    Calls Try.prog 23 #[.agg #[.slice V.A D.live.length V.c, .slice V.K D.safe.length V.d, .slice V.O D.ops.length V.o]] w (MadeK w w.heap.size (syncR D)) := by
  have h0 := (Row3.lit w 31 (.slice V.A D.live.length V.c) (.slice V.K D.safe.length V.d) (.slice V.O D.ops.length V.o)).below ((Below.refl _ _).alloc (Nat.le_refl _) (.cells #[.slice none 0 0, .slice none 0 0, .slice none 0 0] 31))
  have h1 := Row3.lit (w.alloc (.cells #[.slice V.A D.live.length V.c, .slice V.K D.safe.length V.d, .slice V.O D.ops.length V.o] 31)) 31 (.slice none 0 0) (.slice none 0 0) (.slice none 0 0)
  rw [World.size_alloc] at h1
  have hb := ((Below.refl w.heap.size w).alloc (Nat.le_refl _) (.cells #[.slice V.A D.live.length V.c, .slice V.K D.safe.length V.d, .slice V.O D.ops.length V.o] 31)).alloc (by simp) (.cells #[.slice none 0 0, .slice none 0 0, .slice none 0 0] 31)
  have XV := hid h0
  have YV := hid h1
  have HBV := hid hb
  have HRV := hid ((hr.below hb).more hb.size)
  have HN := hid hn
  have HS := hid hs
  have HV := hid hv
  clear hr hn hs h0 h1 hb hv
  cases hd : diskD D
  · have HE : Hid (syncR D = ⟨[], [], []⟩) := by simp [Hid, syncR, hd]
    go_enter Try.func23, Try.ntmps23
    have c0 := XV.out.c0
    have c1 := XV.out.c1
    have c2 := XV.out.c2
    go_wp2_with fail
    clear c0 c1 c2
    generalize hgq : (w.alloc (.cells #[.slice V.A D.live.length V.c, .slice V.K D.safe.length V.d, .slice V.O D.ops.length V.o] 31)).alloc (.cells #[.slice none 0 0, .slice none 0 0, .slice none 0 0] 31) = v0 at *
    clear hgq
    refine (impl_DiskOk V D _ HRV.out HV.out HN.out HS.out).mono ?_
    rintro e w0 ⟨rfl, hb⟩
    have HB := hid (HBV.out.trans (hb.mono HBV.out.size))
    have X := hid (XV.out.below hb)
    have Y := hid (YV.out.below hb)
    have HYL := hid (Y.out.lt)
    have HR := hid ((HRV.out.below hb).more hb.size)
    clear hb
    have z0 := Y.out.c0
    have z1 := Y.out.c1
    have z2 := Y.out.c2
    have k0 := Y.out.fz 0
    have k1 := Y.out.fz 1
    have k2 := Y.out.fz 2
    go_wp2_with fail
    refine world_post (S := fun wq => Row3 wq (w.heap.size + 1) 31 (.slice none 0 0) (.slice none 0 0) (.slice none 0 0) ∧ OwnK wq w.heap.size ⟨none, 0, none, 0, none, 0⟩ ⟨[], [], []⟩ ∧ Below w.heap.size w wq) _
      ⟨((Y.out.s0 _).s1 _).s2 _, OwnK.nil_ _ _,
        ((HB.out.setCell (p := ⟨w.heap.size + 1, 0, none⟩) (by simp) _).setCell (p := ⟨w.heap.size + 1, 1, none⟩) (by simp) _).setCell (p := ⟨w.heap.size + 1, 2, none⟩) (by simp) _⟩ ?_
    clear z0 z1 z2 k0 k1 k2
    intro wq ⟨hq, hp, hbq⟩
    have q0 := hq.c0
    have q1 := hq.c1
    have q2 := hq.c2
    rw [HE.out]
    exact bodyPost_ret (v := .agg #[(.slice none 0 0), (.slice none 0 0), (.slice none 0 0)]) (by simp [results, Try.results23, go_sem, q0, q1, q2]) rfl ⟨⟨none, 0, none, 0, none, 0⟩, rfl, hp, hbq⟩
  · have HE : Hid (syncR D = ⟨D.live, D.live, []⟩) := by simp [Hid, syncR, hd]
    have HL := hid (diskD_len hd)
    go_enter Try.func23, Try.ntmps23
    have c0 := XV.out.c0
    have c1 := XV.out.c1
    have c2 := XV.out.c2
    go_wp2_with fail
    clear c0 c1 c2
    generalize hgq : (w.alloc (.cells #[.slice V.A D.live.length V.c, .slice V.K D.safe.length V.d, .slice V.O D.ops.length V.o] 31)).alloc (.cells #[.slice none 0 0, .slice none 0 0, .slice none 0 0] 31) = v0 at *
    clear hgq
    refine (impl_DiskOk V D _ HRV.out HV.out HN.out HS.out).mono ?_
    rintro e w0 ⟨rfl, hb⟩
    have HB := hid (HBV.out.trans (hb.mono HBV.out.size))
    have X := hid (XV.out.below hb)
    have Y := hid (YV.out.below hb)
    have HYL := hid (Y.out.lt)
    have HR := hid ((HRV.out.below hb).more hb.size)
    clear hb
    have b0 := X.out.c0
    have b1 := X.out.c1
    have b2 := X.out.c2
    go_wp2_with fail
    clear b0 b1 b2
    refine (impl_syncOf V D _).mono ?_
    rintro e w1 ⟨rfl, hb1⟩
    have HB1 := hid hb1
    have HR1 := hid ((HR.out.1.below hb1).more hb1.size)
    clear hb1
    go_wp2_with fail
    refine (impl_ownDisk ⟨V.A, V.c, V.A, V.c, none, 0⟩ ⟨D.live, D.live, []⟩ _ ⟨HR1.out, HR1.out, .inl rfl⟩ ⟨Nat.le_trans HL.out.1 (by decide), Nat.le_trans HL.out.1 (by decide), Nat.zero_le _⟩).mono ?_
    rintro e w2 ⟨V2, rfl, ho2, hb2⟩
    have HB2 := hid (HB1.out.trans (hb2.mono HB1.out.size))
    have Y9 := hid (Y.out.below HB2.out)
    have HOK := hid ho2
    have HYL2 : Hid (w.heap.size + 1 < w1.heap.size) := Nat.lt_of_lt_of_le HYL.out HB1.out.size
    have HLE2 : Hid (w.heap.size ≤ w1.heap.size) := Nat.le_trans HB.out.size HB1.out.size
    clear ho2 hb2
    have z0 := Y9.out.c0
    have z1 := Y9.out.c1
    have z2 := Y9.out.c2
    have k0 := Y9.out.fz 0
    have k1 := Y9.out.fz 1
    have k2 := Y9.out.fz 2
    go_wp2_with fail
    refine world_post (S := fun wq => Row3 wq (w.heap.size + 1) 31 (.slice V2.A D.live.length V2.c) (.slice V2.K D.live.length V2.d) (.slice V2.O 0 V2.o) ∧ OwnK wq w.heap.size V2 ⟨D.live, D.live, []⟩ ∧ Below w.heap.size w wq) _
      ⟨((Y9.out.s0 _).s1 _).s2 _, (HOK.out.stored Y9.out HYL2.out).mono HLE2.out,
        (((HB.out.trans (HB2.out.mono HB.out.size)).setCell (p := ⟨w.heap.size + 1, 0, none⟩) (by simp) _).setCell (p := ⟨w.heap.size + 1, 1, none⟩) (by simp) _).setCell (p := ⟨w.heap.size + 1, 2, none⟩) (by simp) _⟩ ?_
    clear z0 z1 z2 k0 k1 k2
    intro wq ⟨hq, hp, hbq⟩
    have q0 := hq.c0
    have q1 := hq.c1
    have q2 := hq.c2
    rw [HE.out]
    exact bodyPost_ret (v := .agg #[(.slice V2.A D.live.length V2.c), (.slice V2.K D.live.length V2.d), (.slice V2.O 0 V2.o)]) (by simp [results, Try.results23, go_sem, q0, q1, q2]) rfl ⟨V2, rfl, hp, hbq⟩
end Go.Proofs.Ytnhipiafnijdnaa
