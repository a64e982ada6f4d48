import Derived.Test.YtcjbjfhndjpmcaaPk33
/-
  The program's refill: a kid that has too little is helped out.
-/
namespace Go.Proofs.Ytcjbjfhndjpmcaa
open Go.RowKit

/-- Two kids share anew: what the whole is then. -/
theorem share_step {w w' : World} {R R' : Nat → Prop} {x y1 y2 z1 z2 : OH} {c d kb J : Nat} {A : Option Addr} {ps : PS} {L : List OH} (hA : NodeA w R x.g A c ps (some ⟨kb, 0, none⟩) d (L.take J ++ ([y1, y2] ++ L.drop (J + 2)))) (hS : ∀ b, nodeS x.g (some ⟨kb, 0, none⟩) d (L.take J ++ ([y1, y2] ++ L.drop (J + 2))) b → x.S b)
    (hs : Step w R [y1, y2] w' R' [z1, z2]) (h1 : z1.g = y1.g) (h2 : z2.g = y2.g) {ks : List BT} {a b : BT} (hL : L.map OH.t = ks) (ha : z1.t = a) (hb : z2.t = b) : Put1 w R x (.node ps (ks.take J ++ (a :: b :: ks.drop (J + 2)))) (.returned (.tuple #[])) w' := by
  refine ⟨rfl, R', ⟨x.g, nodeS x.g (some ⟨kb, 0, none⟩) d (L.take J ++ ([z1, z2] ++ L.drop (J + 2))), .node ps ((L.take J ++ ([z1, z2] ++ L.drop (J + 2))).map OH.t)⟩, rfl, ?_, hA.step (x := x) rfl hS hs (by simp [h1, h2])⟩
  rw [← hL]
  simp [ha, hb]
theorem step_pre {w w1 w' : World} {R R' : Nat → Prop} {x : OH} {t : BT} {e : Ending} (hs : Step w R [x] w1 R' [x]) (h : Put1 w1 R' x t e w') : Put1 w R x t e w' := by
  obtain ⟨he, R2, x', hg, ht, hst⟩ := h
  exact ⟨he, R2, x', hg, ht, hs.trans hst⟩
theorem one_lt {w : World} {R : Nat → Prop} {A : List OH} {y z : OH} {C : List OH} (h : FO w R (A ++ ([y, z] ++ C))) : FO w R [y, z] := h.sub ((List.sublist_append_left [y, z] _).trans (List.sublist_append_right _ _))

/-- What size says of one kid, wherever something was made since. -/
theorem kid_size {w : World} {R : Nat → Prop} {g c d : Nat} {A K : Option Addr} {ps : PS} {L : List OH} {ks : List BT} (hA : NodeA w R g A c ps K d L) (hL : L.map OH.t = ks) {i : Nat} (hi : i < L.length) (hi' : i < ks.length) (hz : sizeT ks[i] ≤ 50) (W : World) (hW : Below w.heap.size w W) :
    Calls Try.prog 120 #[.pointer (some ⟨L[i].g, 0, none⟩)] W fun e w' => e = .returned (.int .i64 ((ks[i].ps.length : Int) + (ks[i].ks.length : Int))) ∧ Drawn W w' := by
  obtain ⟨A3, c3, K3, d3, o0, o1⟩ := size_at (Step.below (hA.fo.sub (M := [L[i]]) (List.singleton_sublist.2 (List.getElem_mem hi))) hW).fo
  rw [kid_t hL hi hi'] at o0 o1
  unfold sizeT at hz
  exact impl_size L[i].g ks[i].ps.length ks[i].ks.length c3 d3 A3 K3 W o0 o1 (by omega) (by omega)

set_option maxHeartbeats 4000000 in
set_option maxRecDepth 100000 in
theorem refill_ahead (x : OH) (R : Nat → Prop) (w : World) (ps : PS) (ks : List BT) (J : Nat) (hf : FO w R [x]) (ht : x.t = .node ps ks) (h4 : ks.length ≤ 100) (hz : ∀ i (h : i < ks.length), sizeT ks[i] ≤ 20) (hI : J + 1 < ks.length) (hbig : 2 < sizeT (ks[J]'(by omega))) :
    Calls Try.prog 146 #[ptr x.g, .int .i64 ((J : Int) + 1)] w (Put1 w R x (.node ps (ks.take J ++ (shareA (ks[J]'(by omega)) ks[J + 1] (sizeT (ks[J]'(by omega)) - 1) :: shareB (ks[J]'(by omega)) ks[J + 1] (sizeT (ks[J]'(by omega)) - 1) :: ks.drop (J + 2))))) := by
  obtain ⟨A, c, K, d, L, hL, hA, hS⟩ := hf.node ht
  have hll : L.length = ks.length := by rw [← hL, List.length_map]
  have HF := hid hf
  have HL := hid hL
  have HNA := hid hA
  obtain ⟨kb, rfl⟩ := row_at hA.row (by omega)
  have RX := Row2.of_heap hA.heap
  have x1 := RX.c1
  have HRX := hid RX
  have hl4 : L.length ≤ 100 := by omega
  have hIL : J + 1 < L.length := by omega
  have HA : Hid (NodeA w R x.g A c ps (some ⟨kb, 0, none⟩) d (L.take J ++ ([L[J]'(by omega), L[J + 1]] ++ L.drop (J + 2)))) := by rw [pair_cut L hIL]; exact hA
  have HSN : Hid (∀ b, nodeS x.g (some ⟨kb, 0, none⟩) d (L.take J ++ ([L[J]'(by omega), L[J + 1]] ++ L.drop (J + 2))) b → x.S b) := by rw [pair_cut L hIL]; exact hS
  have ht1 := kid_t hL (i := J) (by omega) (by omega)
  have ht2 := kid_t hL (i := J + 1) (by omega) hI
  have r1 := ohc_at hA.row (i := J) (by omega)
  have r2 := ohc_at hA.row hIL
  have hza := hz J (by omega)
  have hzb := hz (J + 1) hI
  generalize hy1 : L[J]'(by omega) = y1 at *
  generalize hy2 : L[J + 1] = y2 at *
  generalize ha : ks[J]'(by omega) = ta at *
  generalize hb : ks[J + 1] = tb at *
  have HTA := hid ht1
  have HTB := hid ht2
  have HZA := hid hza
  have HZB := hid hzb
  have S0 : FO w R [y1, y2] := HA.out.fo.sub ((List.sublist_append_left [y1, y2] _).trans (List.sublist_append_right _ _))
  have HS0 := hid S0
  obtain ⟨A1, c1, K1, d1, p0, p1⟩ := size_at (S0.sub (M := [y1]) (by simp))
  rw [HTA.out] at p0 p1
  obtain ⟨A2, c2, K2, d2, q0, q1⟩ := size_at (S0.sub (M := [y2]) (by simp))
  rw [HTB.out] at q0 q1
  have hwd : ∀ n, Below w.heap.size w (w.drewN n) := fun n => ((Drawn.refl w).drewN n).below _
  have HWD := hid hwd
  have e1 : (0 : Int) ≤ (J : Int) := by omega
  have e2 : (J : Int) < (L.length : Int) := by omega
  have e3 : (J : Int) + 1 < (L.length : Int) := by omega
  have e4 : (0 : Int) ≤ (J : Int) + 1 := by omega
  have e5 : ((J : Int) + 1).toNat = J + 1 := by omega
  have w1i : IntKind.i64.wrap ((J : Int) + 1) = (J : Int) + 1 := by rw [IntKind.wrap_i64]; omega
  have tk1 : Hid (1 = 1) := rfl
  have tk2 : Hid (1 = 1) := rfl
  have HBL := hid (Below.refl w.heap.size w)
  have hsz := hbig
  unfold sizeT at hsz hza hzb
  have z1 : ta.ps.length ≤ 50 ∧ ta.ks.length ≤ 50 := by omega
  obtain ⟨z1, z2⟩ := z1
  have e6 : (2 : Int) < (ta.ps.length : Int) + (ta.ks.length : Int) := by omega
  have e7 : (0 : Int) < (J : Int) + 1 := by omega
  have w2i : IntKind.i64.wrap ((J : Int) + 1 - 1) = (J : Int) := by rw [IntKind.wrap_i64]; omega
  have w3i : (J : Int) + 1 - 1 = (J : Int) := by omega
  have w4i : IntKind.i64.wrap (J : Int) = (J : Int) := by rw [IntKind.wrap_i64]; omega
  have w5i : IntKind.i64.wrap ((ta.ps.length : Int) + (ta.ks.length : Int) - 1) = (ta.ps.length : Int) + (ta.ks.length : Int) - 1 := by rw [IntKind.wrap_i64]; omega
  have HNN : Hid ((ta.ps.length : Int) + (ta.ks.length : Int) - 1 = ((sizeT ta - 1 : Nat) : Int)) := by unfold Hid sizeT; omega
  have HSIZE : Hid (∀ W, Below w.heap.size w W → Calls Try.prog 120 #[.pointer (some ⟨y1.g, 0, none⟩)] W fun e w' => e = .returned (.int .i64 ((ta.ps.length : Int) + (ta.ks.length : Int))) ∧ Drawn W w') := fun W hW => by
    obtain ⟨A3, c3, K3, d3, o0, o1⟩ := size_at ((Step.below HS0.out hW).fo.sub (M := [y1]) (by simp))
    rw [HTA.out] at o0 o1
    exact impl_size y1.g ta.ps.length ta.ks.length c3 d3 A3 K3 W o0 o1 (by omega) (by omega)
  unfold ptr at r1 r2 ⊢
  have r1o := hid r1
  have r2o := hid r2
  clear hy1 hy2 ha hb ht1 ht2 hL hf hA hS hll hwd RX ht hza hzb hz hsz hbig S0 p0 p1 q0 q1
  go_enter Try.func146, Try.ntmps146
  go_wp2_with fail
  refine (HSIZE.out _ HBL.out).mono ?_
  rintro e w1 ⟨rfl, hd⟩
  have hb1 := hd.below w.heap.size
  have HB1 := hid hb1
  have x1' := (HRX.out.below hb1).c1
  have hkb := HNA.out.ownlt (k := kb) rfl
  have r1' := (hb1.cell (p := ⟨kb, J, none⟩) hkb).trans r1
  have r2' := (hb1.cell (p := ⟨kb, J + 1, none⟩) hkb).trans r2
  clear hd hb1 x1 r1 r2
  go_wp2_with fail
  go_region_law
    (first
      | (clear tk1; go_simp; go_at_call 120; refine (HSIZE.out _ (by first | exact HB1.out | exact HB1.out.drew)).mono ?_; rintro e w2 ⟨rfl, hd⟩; have HB2 : Hid (Below w.heap.size w w2) := (by first | exact HB1.out.trans (hd.below _) | exact HB1.out.drew.trans (hd.below _)); clear hd; have x2' := (HRX.out.below HB2.out).c1; have r12' := (HB2.out.cell (p := ⟨kb, J, none⟩) hkb).trans r1o.out; have r22' := (HB2.out.cell (p := ⟨kb, J + 1, none⟩) hkb).trans r2o.out)
      | (clear tk2; go_simp; go_at_call 143; rw [HNN.out]; refine (impl_share y1 y2 R (sizeT ta - 1) _ (by first | exact (Step.below HS0.out HB2.out).fo | exact (Step.below HS0.out HB2.out.drew).fo) (by rw [HTA.out, HTB.out]; have := HZA.out; have := HZB.out; omega)).mono ?_; rintro e w4 ⟨rfl, R4, z1, z2, hg1, hg2, ht1, ht2, hst⟩; have HST : Hid (Step w R [y1, y2] w4 R4 [z1, z2]) := (by first | exact (Step.below HS0.out HB2.out).trans hst | exact (Step.below HS0.out HB2.out.drew).trans hst); have HG1 := hid hg1; have HG2 := hid hg2; have HT1 := hid ht1; have HT2 := hid ht2; clear hst hg1 hg2 ht1 ht2))
  all_goals
    have HFIN := hid (share_step HA.out HSN.out HST.out HG1.out HG2.out HL.out HT1.out HT2.out)
    go_wp2_with fail
    go_end0
    have h := HFIN.out
    rw [HTA.out, HTB.out] at h
    exact h
set_option maxHeartbeats 4000000 in
set_option maxRecDepth 100000 in
theorem refill_next0 (x : OH) (R : Nat → Prop) (w : World) (ps : PS) (ks : List BT) (hf : FO w R [x]) (ht : x.t = .node ps ks) (h4 : ks.length ≤ 100) (hz : ∀ i (h : i < ks.length), sizeT ks[i] ≤ 20) (hI : 1 < ks.length) (hbig : 2 < sizeT ks[1]) :
    Calls Try.prog 146 #[ptr x.g, .int .i64 0] w (Put1 w R x (.node ps (ks.take 0 ++ (shareA (ks[0]'(by omega)) ks[1] (sizeT (ks[0]'(by omega)) + 1) :: shareB (ks[0]'(by omega)) ks[1] (sizeT (ks[0]'(by omega)) + 1) :: ks.drop (2))))) := by
  obtain ⟨A, c, K, d, L, hL, hA, hS⟩ := hf.node ht
  have hll : L.length = ks.length := by rw [← hL, List.length_map]
  have HF := hid hf
  have HL := hid hL
  have HNA := hid hA
  obtain ⟨kb, rfl⟩ := row_at hA.row (by omega)
  have RX := Row2.of_heap hA.heap
  have x1 := RX.c1
  have HRX := hid RX
  have hl4 : L.length ≤ 100 := by omega
  have hIL : 1 < L.length := by omega
  have HA : Hid (NodeA w R x.g A c ps (some ⟨kb, 0, none⟩) d (L.take 0 ++ ([L[0]'(by omega), L[1]] ++ L.drop (2)))) := by rw [pair_cut L hIL]; exact hA
  have HSN : Hid (∀ b, nodeS x.g (some ⟨kb, 0, none⟩) d (L.take 0 ++ ([L[0]'(by omega), L[1]] ++ L.drop (2))) b → x.S b) := by rw [pair_cut L hIL]; exact hS
  have ht1 := kid_t hL (i := 0) (by omega) (by omega)
  have ht2 := kid_t hL (i := 1) (by omega) hI
  have r1 := ohc_at hA.row (i := 0) (by omega)
  have r2 := ohc_at hA.row hIL
  have hza := hz 0 (by omega)
  have hzb := hz (1) hI
  generalize hy1 : L[0]'(by omega) = y1 at *
  generalize hy2 : L[1] = y2 at *
  generalize ha : ks[0]'(by omega) = ta at *
  generalize hb : ks[1] = tb at *
  have HTA := hid ht1
  have HTB := hid ht2
  have HZA := hid hza
  have HZB := hid hzb
  have S0 : FO w R [y1, y2] := HA.out.fo.sub ((List.sublist_append_left [y1, y2] _).trans (List.sublist_append_right _ _))
  have HS0 := hid S0
  obtain ⟨A1, c1, K1, d1, p0, p1⟩ := size_at (S0.sub (M := [y1]) (by simp))
  rw [HTA.out] at p0 p1
  obtain ⟨A2, c2, K2, d2, q0, q1⟩ := size_at (S0.sub (M := [y2]) (by simp))
  rw [HTB.out] at q0 q1
  have hwd : ∀ n, Below w.heap.size w (w.drewN n) := fun n => ((Drawn.refl w).drewN n).below _
  have HWD := hid hwd
  have e2 : (0 : Int) < (L.length : Int) := by omega
  have e2n : 0 < L.length := by omega
  have e3 : (1 : Int) < (L.length : Int) := by omega
  have e3n : 1 < L.length := by omega
  have wrap1 : IntKind.i64.wrap 1 = 1 := by rw [IntKind.wrap_i64]; omega
  have tk1 : Hid (1 = 1) := rfl
  have tk2 : Hid (1 = 1) := rfl
  have HBL := hid (Below.refl w.heap.size w)
  have hsz := hbig
  unfold sizeT at hsz hza hzb
  have e6 : (2 : Int) < (tb.ps.length : Int) + (tb.ks.length : Int) := by omega
  have HSIZE : Hid (∀ W, Below w.heap.size w W → Calls Try.prog 120 #[.pointer (some ⟨y1.g, 0, none⟩)] W fun e w' => e = .returned (.int .i64 ((ta.ps.length : Int) + (ta.ks.length : Int))) ∧ Drawn W w') := fun W hW => by
    obtain ⟨A3, c3, K3, d3, o0, o1⟩ := size_at ((Step.below HS0.out hW).fo.sub (M := [y1]) (by simp))
    rw [HTA.out] at o0 o1
    exact impl_size y1.g ta.ps.length ta.ks.length c3 d3 A3 K3 W o0 o1 (by omega) (by omega)
  have HSIZE2 : Hid (∀ W, Below w.heap.size w W → Calls Try.prog 120 #[.pointer (some ⟨y2.g, 0, none⟩)] W fun e w' => e = .returned (.int .i64 ((tb.ps.length : Int) + (tb.ks.length : Int))) ∧ Drawn W w') := fun W hW => by
    obtain ⟨A3, c3, K3, d3, o0, o1⟩ := size_at ((Step.below HS0.out hW).fo.sub (M := [y2]) (by simp))
    rw [HTB.out] at o0 o1
    exact impl_size y2.g tb.ps.length tb.ks.length c3 d3 A3 K3 W o0 o1 (by omega) (by omega)
  have HNN : Hid ((ta.ps.length : Int) + (ta.ks.length : Int) + 1 = ((sizeT ta + 1 : Nat) : Int)) := by unfold Hid sizeT; omega
  have z1 : ta.ps.length ≤ 50 ∧ ta.ks.length ≤ 50 := by omega
  obtain ⟨z1, z2⟩ := z1
  have w5i : IntKind.i64.wrap ((ta.ps.length : Int) + (ta.ks.length : Int) + 1) = (ta.ps.length : Int) + (ta.ks.length : Int) + 1 := by rw [IntKind.wrap_i64]; omega
  unfold ptr at r1 r2 ⊢
  have r1o := hid r1
  have r2o := hid r2
  clear hy1 hy2 ha hb ht1 ht2 hL hf hA hS hll hwd RX ht hza hzb hz hsz hbig S0 p0 p1 q0 q1
  go_enter Try.func146, Try.ntmps146
  go_wp2_with fail
  have HB0 := HBL
  refine (HSIZE2.out _ HB0.out).mono ?_
  rintro e w1 ⟨rfl, hd⟩
  have HB1 := hid (HB0.out.trans (hd.below w.heap.size))
  have hkb := HNA.out.ownlt (k := kb) rfl
  have x1' := (HRX.out.below HB1.out).c1
  have r1' := (HB1.out.cell (p := ⟨kb, 0, none⟩) hkb).trans r1o.out
  have r2' := (HB1.out.cell (p := ⟨kb, 1, none⟩) hkb).trans r2o.out
  clear hd x1 r1 r2
  go_wp2_with fail
  go_region_law
    (first
      | (clear tk1; go_simp; go_at_call 120; refine (HSIZE.out _ (by first | exact HB1.out | exact HB1.out.drew)).mono ?_; rintro e w2 ⟨rfl, hd⟩; have HB2 : Hid (Below w.heap.size w w2) := (by first | exact HB1.out.trans (hd.below _) | exact HB1.out.drew.trans (hd.below _)); clear hd; have x2' := (HRX.out.below HB2.out).c1; have r12' := (HB2.out.cell (p := ⟨kb, 0, none⟩) hkb).trans r1o.out; have r22' := (HB2.out.cell (p := ⟨kb, 1, none⟩) hkb).trans r2o.out)
      | (clear tk2; go_simp; go_at_call 143; rw [HNN.out]; refine (impl_share y1 y2 R (sizeT ta + 1) _ (by first | exact (Step.below HS0.out HB2.out).fo | exact (Step.below HS0.out HB2.out.drew).fo) (by rw [HTA.out, HTB.out]; have := HZA.out; have := HZB.out; omega)).mono ?_; rintro e w4 ⟨rfl, R4, z1, z2, hg1, hg2, ht1, ht2, hst⟩; have HST : Hid (Step w R [y1, y2] w4 R4 [z1, z2]) := (by first | exact (Step.below HS0.out HB2.out).trans hst | exact (Step.below HS0.out HB2.out.drew).trans hst); have HG1 := hid hg1; have HG2 := hid hg2; have HT1 := hid ht1; have HT2 := hid ht2; clear hst hg1 hg2 ht1 ht2))
  all_goals
    have HFIN := hid (share_step HA.out HSN.out HST.out HG1.out HG2.out HL.out HT1.out HT2.out)
    go_wp2_with fail
    go_end0
    have h := HFIN.out
    rw [HTA.out, HTB.out] at h
    exact h

set_option maxHeartbeats 4000000 in
set_option maxRecDepth 100000 in
theorem refill_next1 (x : OH) (R : Nat → Prop) (w : World) (ps : PS) (ks : List BT) (J : Nat) (hf : FO w R [x]) (ht : x.t = .node ps ks) (h4 : ks.length ≤ 100) (hz : ∀ i (h : i < ks.length), sizeT ks[i] ≤ 20) (hI : J + 1 < ks.length) (hbig : 2 < sizeT ks[J + 1]) (Q : Nat) (hJ : J = Q + 1) (hsm : sizeT (ks[Q]'(by omega)) ≤ 2) :
    Calls Try.prog 146 #[ptr x.g, .int .i64 ((Q : Int) + 1)] w (Put1 w R x (.node ps (ks.take J ++ (shareA (ks[J]'(by omega)) ks[J + 1] (sizeT (ks[J]'(by omega)) + 1) :: shareB (ks[J]'(by omega)) ks[J + 1] (sizeT (ks[J]'(by omega)) + 1) :: ks.drop (J + 2))))) := by
  obtain ⟨A, c, K, d, L, hL, hA, hS⟩ := hf.node ht
  have hll : L.length = ks.length := by rw [← hL, List.length_map]
  have HF := hid hf
  have HL := hid hL
  have HNA := hid hA
  obtain ⟨kb, rfl⟩ := row_at hA.row (by omega)
  have RX := Row2.of_heap hA.heap
  have x1 := RX.c1
  have HRX := hid RX
  have hl4 : L.length ≤ 100 := by omega
  have hIL : J + 1 < L.length := by omega
  have hQL : Q < L.length := by omega
  have HQ := hid (kid_size hA hL hQL (by omega) (by have := hz Q (by omega); omega))
  have rq := ohc_at hA.row hQL
  have hsmq : (ks[Q]'(by omega)).ps.length + (ks[Q]'(by omega)).ks.length ≤ 2 := hsm
  generalize hyq : L[Q] = yq at *
  generalize hkq : ks[Q]'(by omega) = tq at *
  have eq6 : ¬ (2 : Int) < (tq.ps.length : Int) + (tq.ks.length : Int) := by omega
  have HA : Hid (NodeA w R x.g A c ps (some ⟨kb, 0, none⟩) d (L.take J ++ ([L[J]'(by omega), L[J + 1]] ++ L.drop (J + 2)))) := by rw [pair_cut L hIL]; exact hA
  have HSN : Hid (∀ b, nodeS x.g (some ⟨kb, 0, none⟩) d (L.take J ++ ([L[J]'(by omega), L[J + 1]] ++ L.drop (J + 2))) b → x.S b) := by rw [pair_cut L hIL]; exact hS
  have ht1 := kid_t hL (i := J) (by omega) (by omega)
  have ht2 := kid_t hL (i := J + 1) (by omega) hI
  have r1 := ohc_at hA.row (i := J) (by omega)
  have r2 := ohc_at hA.row hIL
  have hza := hz J (by omega)
  have hzb := hz (J + 1) hI
  generalize hy1 : L[J]'(by omega) = y1 at *
  generalize hy2 : L[J + 1] = y2 at *
  generalize ha : ks[J]'(by omega) = ta at *
  generalize hb : ks[J + 1] = tb at *
  have HTA := hid ht1
  have HTB := hid ht2
  have HZA := hid hza
  have HZB := hid hzb
  have S0 : FO w R [y1, y2] := HA.out.fo.sub ((List.sublist_append_left [y1, y2] _).trans (List.sublist_append_right _ _))
  have HS0 := hid S0
  obtain ⟨A1, c1, K1, d1, p0, p1⟩ := size_at (S0.sub (M := [y1]) (by simp))
  rw [HTA.out] at p0 p1
  obtain ⟨A2, c2, K2, d2, q0, q1⟩ := size_at (S0.sub (M := [y2]) (by simp))
  rw [HTB.out] at q0 q1
  have hwd : ∀ n, Below w.heap.size w (w.drewN n) := fun n => ((Drawn.refl w).drewN n).below _
  have HWD := hid hwd
  have e1 : (0 : Int) ≤ (J : Int) := by omega
  have e2 : (J : Int) < (L.length : Int) := by omega
  have e3 : (J : Int) + 1 < (L.length : Int) := by omega
  have e4 : (0 : Int) ≤ (J : Int) + 1 := by omega
  have e5 : ((J : Int) + 1).toNat = J + 1 := by omega
  have w1i : IntKind.i64.wrap ((J : Int) + 1) = (J : Int) + 1 := by rw [IntKind.wrap_i64]; omega
  have tk1 : Hid (1 = 1) := rfl
  have tk2 : Hid (1 = 1) := rfl
  have HBL := hid (Below.refl w.heap.size w)
  have hsz := hbig
  unfold sizeT at hsz hza hzb
  have e6 : (2 : Int) < (tb.ps.length : Int) + (tb.ks.length : Int) := by omega
  have HSIZE : Hid (∀ W, Below w.heap.size w W → Calls Try.prog 120 #[.pointer (some ⟨y1.g, 0, none⟩)] W fun e w' => e = .returned (.int .i64 ((ta.ps.length : Int) + (ta.ks.length : Int))) ∧ Drawn W w') := fun W hW => by
    obtain ⟨A3, c3, K3, d3, o0, o1⟩ := size_at ((Step.below HS0.out hW).fo.sub (M := [y1]) (by simp))
    rw [HTA.out] at o0 o1
    exact impl_size y1.g ta.ps.length ta.ks.length c3 d3 A3 K3 W o0 o1 (by omega) (by omega)
  have HSIZE2 : Hid (∀ W, Below w.heap.size w W → Calls Try.prog 120 #[.pointer (some ⟨y2.g, 0, none⟩)] W fun e w' => e = .returned (.int .i64 ((tb.ps.length : Int) + (tb.ks.length : Int))) ∧ Drawn W w') := fun W hW => by
    obtain ⟨A3, c3, K3, d3, o0, o1⟩ := size_at ((Step.below HS0.out hW).fo.sub (M := [y2]) (by simp))
    rw [HTB.out] at o0 o1
    exact impl_size y2.g tb.ps.length tb.ks.length c3 d3 A3 K3 W o0 o1 (by omega) (by omega)
  have HNN : Hid ((ta.ps.length : Int) + (ta.ks.length : Int) + 1 = ((sizeT ta + 1 : Nat) : Int)) := by unfold Hid sizeT; omega
  have z1 : ta.ps.length ≤ 50 ∧ ta.ks.length ≤ 50 := by omega
  obtain ⟨z1, z2⟩ := z1
  have w5i : IntKind.i64.wrap ((ta.ps.length : Int) + (ta.ks.length : Int) + 1) = (ta.ps.length : Int) + (ta.ks.length : Int) + 1 := by rw [IntKind.wrap_i64]; omega
  have e7 : (0 : Int) < (Q : Int) + 1 := by omega
  have w2i : IntKind.i64.wrap ((Q : Int) + 1 - 1) = (Q : Int) := by rw [IntKind.wrap_i64]; omega
  have w3i : (Q : Int) + 1 - 1 = (Q : Int) := by omega
  have w4i : IntKind.i64.wrap (Q : Int) = (Q : Int) := by rw [IntKind.wrap_i64]; omega
  have w6i : IntKind.i64.wrap ((Q : Int) + 1 + 1) = (Q : Int) + 1 + 1 := by rw [IntKind.wrap_i64]; omega
  have w7i : IntKind.i64.wrap ((Q : Int) + 2) = (Q : Int) + 2 := by rw [IntKind.wrap_i64]; omega
  have w8i : ((Q : Int) + 2).toNat = Q + 2 := by omega
  have e8 : (0 : Int) ≤ (Q : Int) := by omega
  have e9 : (Q : Int) < (L.length : Int) := by omega
  have e10 : (Q : Int) + 1 < (L.length : Int) := by omega
  have e11 : (Q : Int) + 2 < (L.length : Int) := by omega
  have e12 : (0 : Int) ≤ (Q : Int) + 2 := by omega
  have e13 : (0 : Int) ≤ (Q : Int) + 1 := by omega
  have e14 : ((Q : Int) + 1).toNat = Q + 1 := by omega
  have e15 : (0 : Int) ≤ (Q : Int) + 1 + 1 := by omega
  have e16 : ((Q : Int) + 1 + 1).toNat = Q + 1 + 1 := by omega
  have e17 : (Q : Int) + 1 + 1 < (L.length : Int) := by omega
  clear e1 e2 e3 e4 e5 w1i
  unfold ptr at r1 r2 rq ⊢
  subst hJ
  have r1o := hid r1
  have r2o := hid r2
  have rqo := hid rq
  clear hyq hkq hsm hsmq hQL hy1 hy2 ha hb ht1 ht2 hL hf hA hS hll hwd RX ht hza hzb hz hsz hbig S0 p0 p1 q0 q1
  go_enter Try.func146, Try.ntmps146
  go_wp2_with fail
  refine (HQ.out _ HBL.out).mono ?_
  rintro e w0 ⟨rfl, hd⟩
  have HB0 := hid (hd.below w.heap.size)
  have x0' := (HRX.out.below HB0.out).c1
  have r10' := (HB0.out.cell (p := ⟨kb, Q + 1, none⟩) (HNA.out.ownlt (k := kb) rfl)).trans r1o.out
  have r20' := (HB0.out.cell (p := ⟨kb, Q + 1 + 1, none⟩) (HNA.out.ownlt (k := kb) rfl)).trans r2o.out
  clear hd x1 r1 r2 rq
  go_wp2_with fail
  refine (HSIZE2.out _ HB0.out).mono ?_
  rintro e w1 ⟨rfl, hd⟩
  have HB1 := hid (HB0.out.trans (hd.below w.heap.size))
  have hkb := HNA.out.ownlt (k := kb) rfl
  have x1' := (HRX.out.below HB1.out).c1
  have r1' := (HB1.out.cell (p := ⟨kb, Q + 1, none⟩) hkb).trans r1o.out
  have r2' := (HB1.out.cell (p := ⟨kb, Q + 1 + 1, none⟩) hkb).trans r2o.out
  clear hd x0' r10' r20'
  go_wp2_with fail
  go_region_law
    (first
      | (clear tk1; go_simp; go_at_call 120; refine (HSIZE.out _ (by first | exact HB1.out | exact HB1.out.drew)).mono ?_; rintro e w2 ⟨rfl, hd⟩; have HB2 : Hid (Below w.heap.size w w2) := (by first | exact HB1.out.trans (hd.below _) | exact HB1.out.drew.trans (hd.below _)); clear hd; have x2' := (HRX.out.below HB2.out).c1; have r12' := (HB2.out.cell (p := ⟨kb, Q + 1, none⟩) hkb).trans r1o.out; have r22' := (HB2.out.cell (p := ⟨kb, Q + 1 + 1, none⟩) hkb).trans r2o.out)
      | (clear tk2; go_simp; go_at_call 143; rw [HNN.out]; refine (impl_share y1 y2 R (sizeT ta + 1) _ (by first | exact (Step.below HS0.out HB2.out).fo | exact (Step.below HS0.out HB2.out.drew).fo) (by rw [HTA.out, HTB.out]; have := HZA.out; have := HZB.out; omega)).mono ?_; rintro e w4 ⟨rfl, R4, z1, z2, hg1, hg2, ht1, ht2, hst⟩; have HST : Hid (Step w R [y1, y2] w4 R4 [z1, z2]) := (by first | exact (Step.below HS0.out HB2.out).trans hst | exact (Step.below HS0.out HB2.out.drew).trans hst); have HG1 := hid hg1; have HG2 := hid hg2; have HT1 := hid ht1; have HT2 := hid ht2; clear hst hg1 hg2 ht1 ht2))
  all_goals
    have HFIN := hid (share_step HA.out HSN.out HST.out HG1.out HG2.out HL.out HT1.out HT2.out)
    go_wp2_with fail
    go_end0
    have h := HFIN.out
    rw [HTA.out, HTB.out] at h
    exact h

set_option maxHeartbeats 4000000 in
set_option maxRecDepth 100000 in
theorem refill_join0 (x : OH) (R : Nat → Prop) (w : World) (ps : PS) (ks : List BT) (hf : FO w R [x]) (ht : x.t = .node ps ks) (h4 : ks.length ≤ 100) (hz : ∀ i (h : i < ks.length), sizeT ks[i] ≤ 20) (hI : 1 < ks.length) (hsm : sizeT (ks[1]'(by omega)) ≤ 2) :
    Calls Try.prog 146 #[ptr x.g, .int .i64 0] w (Put1 w R x (.node ps (ks.take 0 ++ (.node ((ks[0]'(by omega)).ps ++ (ks[1]'(by omega)).ps) ((ks[0]'(by omega)).ks ++ (ks[1]'(by omega)).ks) :: ks.drop 2)))) := by
  obtain ⟨A, c, K, d, L, hL, hA, hS⟩ := hf.node ht
  have hll : L.length = ks.length := by rw [← hL, List.length_map]
  have HF := hid hf
  have HL := hid hL
  have HNA := hid hA
  obtain ⟨kb, rfl⟩ := row_at hA.row (by omega)
  have RX := Row2.of_heap hA.heap
  have x1 := RX.c1
  have HRX := hid RX
  have hl4 : L.length ≤ 100 := by omega
  have hIL : 1 < L.length := by omega
  have HJN : Hid (∀ (W : World), Below w.heap.size w W → Calls Try.prog 166 #[.pointer (some ⟨x.g, 0, none⟩), .int .i64 0] W (Put1 w R x (.node ps (ks.take 0 ++ (.node ((ks[0]'(by omega)).ps ++ (ks[1]'(by omega)).ps) ((ks[0]'(by omega)).ks ++ (ks[1]'(by omega)).ks) :: ks.drop 2))))) := fun W hW => (impl_join 0 x R W ps ks (Step.below HF.out hW).fo ht hI h4 (by have h1 := hz 0 (by omega); have h2 := hz (1) (by omega); show sizeT (ks[0]'(by omega)) + sizeT (ks[1]'(by omega)) ≤ 50; omega)).mono fun e w' h => step_pre (Step.below HF.out hW) h
  have rk := ohc_at hA.row (i := 0) (by omega)
  generalize hgk : (L[0]'(by omega)).g = gk at *
  clear hgk
  have HQ1 := hid (kid_size hA hL (i := 1) (by omega) (by omega) (by have := hz (1) (by omega); omega))
  have r1 := ohc_at hA.row (i := 1) (by omega)
  have sm1 : (ks[1]'(by omega)).ps.length + (ks[1]'(by omega)).ks.length ≤ 2 := hsm
  generalize hy1 : L[1]'(by omega) = y1 at *
  generalize ht1 : ks[1]'(by omega) = t1 at *
  have ee1 : ¬ (2 : Int) < (t1.ps.length : Int) + (t1.ks.length : Int) := by omega
  have z1 : t1.ps.length ≤ 50 := by omega
  have zz1 : t1.ks.length ≤ 50 := by omega
  have e2 : (0 : Int) < (L.length : Int) := by omega
  have e2n : 0 < L.length := by omega
  have e3 : (1 : Int) < (L.length : Int) := by omega
  have e3n : 1 < L.length := by omega
  have wrap1 : IntKind.i64.wrap 1 = 1 := by rw [IntKind.wrap_i64]; omega
  unfold ptr at rk r1 ⊢
  have ro1 := hid r1
  have hkb := HNA.out.ownlt (k := kb) rfl
  have HBL := hid (Below.refl w.heap.size w)
  generalize hg0 : ks[0]'(by omega) = tz at *
  clear hg0 hL hf hA hS hll RX ht hz hy1 ht1 sm1 hsm
  go_enter Try.func146, Try.ntmps146
  go_wp2_with fail
  refine (HQ1.out _ HBL.out).mono ?_
  rintro e v1 ⟨rfl, hd⟩
  have HB1 := hid (HBL.out.trans (hd.below w.heap.size))
  have x2' := (HRX.out.below HB1.out).c1
  clear hd x1 rk r1
  go_wp2_with fail
  refine (HJN.out _ HB1.out).mono ?_
  rintro e w9 h
  obtain ⟨he, hrest⟩ := h
  subst he
  have HFIN := hid hrest
  clear hrest x2'
  go_wp2_with fail
  go_end0
  exact ⟨rfl, HFIN.out⟩

set_option maxHeartbeats 4000000 in
set_option maxRecDepth 100000 in
theorem refill_join1a (x : OH) (R : Nat → Prop) (w : World) (ps : PS) (ks : List BT) (hf : FO w R [x]) (ht : x.t = .node ps ks) (h4 : ks.length ≤ 100) (hz : ∀ i (h : i < ks.length), sizeT ks[i] ≤ 20) (Q : Nat) (hI : Q + 1 < ks.length) (hsm : sizeT (ks[Q]'(by omega)) ≤ 2) (hlast : ks.length ≤ Q + 2) :
    Calls Try.prog 146 #[ptr x.g, .int .i64 ((Q : Int) + 1)] w (Put1 w R x (.node ps (ks.take Q ++ (.node ((ks[Q]'(by omega)).ps ++ (ks[Q + 1]'(by omega)).ps) ((ks[Q]'(by omega)).ks ++ (ks[Q + 1]'(by omega)).ks) :: ks.drop (Q + 2))))) := by
  obtain ⟨A, c, K, d, L, hL, hA, hS⟩ := hf.node ht
  have hll : L.length = ks.length := by rw [← hL, List.length_map]
  have HF := hid hf
  have HL := hid hL
  have HNA := hid hA
  obtain ⟨kb, rfl⟩ := row_at hA.row (by omega)
  have RX := Row2.of_heap hA.heap
  have x1 := RX.c1
  have HRX := hid RX
  have hl4 : L.length ≤ 100 := by omega
  have hIL : Q + 1 < L.length := by omega
  have HJN : Hid (∀ (W : World), Below w.heap.size w W → Calls Try.prog 166 #[.pointer (some ⟨x.g, 0, none⟩), .int .i64 (Q : Int)] W (Put1 w R x (.node ps (ks.take Q ++ (.node ((ks[Q]'(by omega)).ps ++ (ks[Q + 1]'(by omega)).ps) ((ks[Q]'(by omega)).ks ++ (ks[Q + 1]'(by omega)).ks) :: ks.drop (Q + 2)))))) := fun W hW => (impl_join Q x R W ps ks (Step.below HF.out hW).fo ht hI h4 (by have h1 := hz Q (by omega); have h2 := hz (Q + 1) (by omega); show sizeT (ks[Q]'(by omega)) + sizeT (ks[Q + 1]'(by omega)) ≤ 50; omega)).mono fun e w' h => step_pre (Step.below HF.out hW) h
  have rk := ohc_at hA.row (i := Q + 1) (by omega)
  generalize hgk : (L[Q + 1]'(by omega)).g = gk at *
  clear hgk
  have HQ1 := hid (kid_size hA hL (i := Q) (by omega) (by omega) (by have := hz (Q) (by omega); omega))
  have r1 := ohc_at hA.row (i := Q) (by omega)
  have sm1 : (ks[Q]'(by omega)).ps.length + (ks[Q]'(by omega)).ks.length ≤ 2 := hsm
  generalize hy1 : L[Q]'(by omega) = y1 at *
  generalize ht1 : ks[Q]'(by omega) = t1 at *
  have ee1 : ¬ (2 : Int) < (t1.ps.length : Int) + (t1.ks.length : Int) := by omega
  have z1 : t1.ps.length ≤ 50 := by omega
  have zz1 : t1.ks.length ≤ 50 := by omega
  have e7 : (0 : Int) < (Q : Int) + 1 := by omega
  have w2i : IntKind.i64.wrap ((Q : Int) + 1 - 1) = (Q : Int) := by rw [IntKind.wrap_i64]; omega
  have w3i : (Q : Int) + 1 - 1 = (Q : Int) := by omega
  have w4i : IntKind.i64.wrap (Q : Int) = (Q : Int) := by rw [IntKind.wrap_i64]; omega
  have w6i : IntKind.i64.wrap ((Q : Int) + 1 + 1) = (Q : Int) + 1 + 1 := by rw [IntKind.wrap_i64]; omega
  have e8 : (0 : Int) ≤ (Q : Int) := by omega
  have e9 : (Q : Int) < (L.length : Int) := by omega
  have e10 : (Q : Int) + 1 < (L.length : Int) := by omega
  have e13 : (0 : Int) ≤ (Q : Int) + 1 := by omega
  have e14 : ((Q : Int) + 1).toNat = Q + 1 := by omega
  have e15 : (0 : Int) ≤ (Q : Int) + 1 + 1 := by omega
  have e16 : ((Q : Int) + 1 + 1).toNat = Q + 1 + 1 := by omega
  have e17 : ¬ (Q : Int) + 1 + 1 < (L.length : Int) := by omega
  unfold ptr at rk r1 ⊢
  have ro1 := hid r1
  have hkb := HNA.out.ownlt (k := kb) rfl
  have HBL := hid (Below.refl w.heap.size w)
  generalize hg0 : ks[Q + 1]'(by omega) = tz at *
  clear hg0 hL hf hA hS hll RX ht hz hy1 ht1 sm1 hsm
  go_enter Try.func146, Try.ntmps146
  go_wp2_with fail
  refine (HQ1.out _ HBL.out).mono ?_
  rintro e v1 ⟨rfl, hd⟩
  have HB1 := hid (HBL.out.trans (hd.below w.heap.size))
  have x2' := (HRX.out.below HB1.out).c1
  clear hd x1 rk r1
  go_wp2_with fail
  refine (HJN.out _ HB1.out).mono ?_
  rintro e w9 h
  obtain ⟨he, hrest⟩ := h
  subst he
  have HFIN := hid hrest
  clear hrest x2'
  go_wp2_with fail
  go_end0
  exact ⟨rfl, HFIN.out⟩

set_option maxHeartbeats 4000000 in
set_option maxRecDepth 100000 in
theorem refill_join1b (x : OH) (R : Nat → Prop) (w : World) (ps : PS) (ks : List BT) (hf : FO w R [x]) (ht : x.t = .node ps ks) (h4 : ks.length ≤ 100) (hz : ∀ i (h : i < ks.length), sizeT ks[i] ≤ 20) (Q : Nat) (hI : Q + 1 < ks.length) (hsm : sizeT (ks[Q]'(by omega)) ≤ 2) (hI2 : Q + 2 < ks.length) (hsm2 : sizeT (ks[Q + 2]'(by omega)) ≤ 2) :
    Calls Try.prog 146 #[ptr x.g, .int .i64 ((Q : Int) + 1)] w (Put1 w R x (.node ps (ks.take Q ++ (.node ((ks[Q]'(by omega)).ps ++ (ks[Q + 1]'(by omega)).ps) ((ks[Q]'(by omega)).ks ++ (ks[Q + 1]'(by omega)).ks) :: ks.drop (Q + 2))))) := by
  obtain ⟨A, c, K, d, L, hL, hA, hS⟩ := hf.node ht
  have hll : L.length = ks.length := by rw [← hL, List.length_map]
  have HF := hid hf
  have HL := hid hL
  have HNA := hid hA
  obtain ⟨kb, rfl⟩ := row_at hA.row (by omega)
  have RX := Row2.of_heap hA.heap
  have x1 := RX.c1
  have HRX := hid RX
  have hl4 : L.length ≤ 100 := by omega
  have hIL : Q + 1 < L.length := by omega
  have HJN : Hid (∀ (W : World), Below w.heap.size w W → Calls Try.prog 166 #[.pointer (some ⟨x.g, 0, none⟩), .int .i64 (Q : Int)] W (Put1 w R x (.node ps (ks.take Q ++ (.node ((ks[Q]'(by omega)).ps ++ (ks[Q + 1]'(by omega)).ps) ((ks[Q]'(by omega)).ks ++ (ks[Q + 1]'(by omega)).ks) :: ks.drop (Q + 2)))))) := fun W hW => (impl_join Q x R W ps ks (Step.below HF.out hW).fo ht hI h4 (by have h1 := hz Q (by omega); have h2 := hz (Q + 1) (by omega); show sizeT (ks[Q]'(by omega)) + sizeT (ks[Q + 1]'(by omega)) ≤ 50; omega)).mono fun e w' h => step_pre (Step.below HF.out hW) h
  have rk := ohc_at hA.row (i := Q + 1) (by omega)
  generalize hgk : (L[Q + 1]'(by omega)).g = gk at *
  clear hgk
  have HQ1 := hid (kid_size hA hL (i := Q) (by omega) (by omega) (by have := hz (Q) (by omega); omega))
  have r1 := ohc_at hA.row (i := Q) (by omega)
  have sm1 : (ks[Q]'(by omega)).ps.length + (ks[Q]'(by omega)).ks.length ≤ 2 := hsm
  generalize hy1 : L[Q]'(by omega) = y1 at *
  generalize ht1 : ks[Q]'(by omega) = t1 at *
  have ee1 : ¬ (2 : Int) < (t1.ps.length : Int) + (t1.ks.length : Int) := by omega
  have z1 : t1.ps.length ≤ 50 := by omega
  have zz1 : t1.ks.length ≤ 50 := by omega
  have HQ2 := hid (kid_size hA hL (i := Q + 2) (by omega) (by omega) (by have := hz (Q + 2) (by omega); omega))
  have r2 := ohc_at hA.row (i := Q + 2) (by omega)
  have sm2 : (ks[Q + 2]'(by omega)).ps.length + (ks[Q + 2]'(by omega)).ks.length ≤ 2 := hsm2
  generalize hy2 : L[Q + 2]'(by omega) = y2 at *
  generalize ht2 : ks[Q + 2]'(by omega) = t2 at *
  have ee2 : ¬ (2 : Int) < (t2.ps.length : Int) + (t2.ks.length : Int) := by omega
  have z2 : t2.ps.length ≤ 50 := by omega
  have zz2 : t2.ks.length ≤ 50 := by omega
  have e7 : (0 : Int) < (Q : Int) + 1 := by omega
  have w2i : IntKind.i64.wrap ((Q : Int) + 1 - 1) = (Q : Int) := by rw [IntKind.wrap_i64]; omega
  have w3i : (Q : Int) + 1 - 1 = (Q : Int) := by omega
  have w4i : IntKind.i64.wrap (Q : Int) = (Q : Int) := by rw [IntKind.wrap_i64]; omega
  have w6i : IntKind.i64.wrap ((Q : Int) + 1 + 1) = (Q : Int) + 1 + 1 := by rw [IntKind.wrap_i64]; omega
  have e8 : (0 : Int) ≤ (Q : Int) := by omega
  have e9 : (Q : Int) < (L.length : Int) := by omega
  have e10 : (Q : Int) + 1 < (L.length : Int) := by omega
  have e13 : (0 : Int) ≤ (Q : Int) + 1 := by omega
  have e14 : ((Q : Int) + 1).toNat = Q + 1 := by omega
  have e15 : (0 : Int) ≤ (Q : Int) + 1 + 1 := by omega
  have e16 : ((Q : Int) + 1 + 1).toNat = Q + 1 + 1 := by omega
  have e17 : (Q : Int) + 1 + 1 < (L.length : Int) := by omega
  unfold ptr at rk r1 r2 ⊢
  have ro1 := hid r1
  have ro2 := hid r2
  have hkb := HNA.out.ownlt (k := kb) rfl
  have HBL := hid (Below.refl w.heap.size w)
  generalize hg0 : ks[Q + 1]'(by omega) = tz at *
  clear hg0 hL hf hA hS hll RX ht hz hy1 ht1 sm1 hy2 ht2 sm2 hsm hsm2
  go_enter Try.func146, Try.ntmps146
  go_wp2_with fail
  refine (HQ1.out _ HBL.out).mono ?_
  rintro e v1 ⟨rfl, hd⟩
  have HB1 := hid (HBL.out.trans (hd.below w.heap.size))
  have x2' := (HRX.out.below HB1.out).c1
  have rr := (HB1.out.cell (p := ⟨kb, Q + 2, none⟩) hkb).trans ro2.out
  clear hd x1 rk r1 r2
  go_wp2_with fail
  refine (HQ2.out _ HB1.out).mono ?_
  rintro e v2 ⟨rfl, hd⟩
  have HB2 := hid (HB1.out.trans (hd.below w.heap.size))
  have x3' := (HRX.out.below HB2.out).c1
  clear hd
  go_wp2_with fail
  refine (HJN.out _ HB2.out).mono ?_
  rintro e w9 h
  obtain ⟨he, hrest⟩ := h
  subst he
  have HFIN := hid hrest
  clear hrest x3'
  go_wp2_with fail
  go_end0
  exact ⟨rfl, HFIN.out⟩

theorem impl_refill (I : Nat) (x : OH) (R : Nat → Prop) (w : World) (ps : PS) (ks : List BT) (hf : FO w R [x]) (ht : x.t = .node ps ks) (h4 : ks.length ≤ 100) (h2 : 2 ≤ ks.length) (hz : ∀ i (h : i < ks.length), sizeT ks[i] ≤ 20) (hI : I < ks.length) (hlow : sizeT ks[I] < 2) :
    Calls Try.prog 146 #[ptr x.g, .int .i64 I] w (Put1 w R x (.node ps (mendL ks I))) := by
  have hlow' : ¬ 2 ≤ sizeT (ks.getD I nilT) := by rw [getD_at hI]; omega
  rw [mendL, if_neg hlow']
  cases I with
  | zero =>
    rw [if_neg (by simp)]
    have h1 : 1 < ks.length := by omega
    by_cases hb : 2 < sizeT ks[1]
    · rw [if_pos ⟨by omega, by rw [getD_at (i := 0 + 1) h1]; exact hb⟩, getD_at (i := 0) (by omega), getD_at (i := 0 + 1) h1]
      exact refill_next0 x R w ps ks hf ht h4 hz h1 hb
    · rw [if_neg (fun h => hb (by have := h.2; rwa [getD_at (i := 0 + 1) h1] at this))]
      show Calls _ _ #[ptr x.g, .int .i64 0] w (Put1 w R x (.node ps (ks.take 0 ++ (.node ((ks.getD 0 nilT).ps ++ (ks.getD 1 nilT).ps) ((ks.getD 0 nilT).ks ++ (ks.getD 1 nilT).ks) :: ks.drop 2))))
      rw [getD_at (i := 0) (by omega), getD_at h1]
      exact refill_join0 x R w ps ks hf ht h4 hz h1 (by omega)
  | succ Q =>
    have e : ((Q + 1 : Nat) : Int) = (Q : Int) + 1 := by omega
    rw [e]
    simp only [Nat.add_sub_cancel]
    have hQ : Q < ks.length := by omega
    by_cases ha : 2 < sizeT ks[Q]
    · rw [if_pos ⟨by omega, by rw [getD_at hQ]; exact ha⟩, getD_at hQ, getD_at hI]
      exact refill_ahead x R w ps ks Q hf ht h4 hz hI ha
    · rw [if_neg (fun h => ha (by have := h.2; rwa [getD_at hQ] at this))]
      by_cases hl : Q + 1 + 1 < ks.length
      · by_cases hb : 2 < sizeT ks[Q + 1 + 1]
        · rw [if_pos ⟨hl, by rw [getD_at hl]; exact hb⟩, getD_at hI, getD_at hl]
          exact refill_next1 x R w ps ks (Q + 1) hf ht h4 hz hl hb Q rfl (by omega)
        · rw [if_neg (fun h => hb (by have := h.2; rwa [getD_at hl] at this)), getD_at hQ, getD_at hI]
          exact refill_join1b x R w ps ks hf ht h4 hz Q hI (by omega) hl (by show sizeT ks[Q + 1 + 1] ≤ 2; omega)
      · rw [if_neg (fun h => hl h.1), getD_at hQ, getD_at hI]
        exact refill_join1a x R w ps ks hf ht h4 hz Q hI (by omega) (by omega)
end Go.Proofs.Ytcjbjfhndjpmcaa
