/-
  FnExactAsk answers true at all locks and all that is asked, and its arguments read as they did. No condition.
-/
import Derived.Test.YtepgcflkgicpiaaHoldMarks
import Derived.Test.YtepgcflkgicpiaaAskI
import Derived.Test.YtepgcflkgicpiaaLockGood
import Derived.Test.YtepgcflkgicpiaaLawKit
import Derived.Test.YtepgcflkgicpiaaPost
import Derived.Test.YtepgcflkgicpiaaOpen
import Derived.Test.YtepgcflkgicpiaaOpenLocks
namespace Go.Proofs.Ytepgcflkgicpiaa
open Go.ChangeShapes Go.WideShapes Go.ChangeAt Go.RowKit

set_option maxHeartbeats 16000000 in
set_option maxRecDepth 100000 in
theorem exactAsk_walk (A : Option Addr) (c : Nat) (h : HS) (K : Option Addr) (d : Nat) (l : HS) (x : HD) (w : World) (hr : RH w w.heap.size A h) (hf : FitsH h) (hn : h.length ≤ maxLen) (hk : RH w w.heap.size K l) (hg : FitsH l) (hm : l.length ≤ maxLen) (hx : x.2.1.size ≤ maxLen) :
    Calls Try.prog 5 #[.agg #[.slice A h.length c, .slice K l.length d], .agg #[.int .i64 x.1, .string x.2.1, .int .i64 x.2.2]] w fun e w' => e = .returned (.bool true) ∧ Below w.heap.size w w' := by
  have HLEN := hid (askR_len h l x)
  have hb0 : Below w.heap.size w ((w.alloc (.cells #[.slice A h.length c, .slice K l.length d] 24)).alloc (.cells #[.int .i64 x.1, .string x.2.1, .int .i64 x.2.2] 44)) := ((Below.refl _ _).alloc (Nat.le_refl _) _).alloc (by simp) _
  have hx0 := (Row2.lit w 24 (.slice A h.length c) (.slice K l.length d)).below ((Below.refl _ _).alloc (Nat.le_refl _) (.cells #[.int .i64 x.1, .string x.2.1, .int .i64 x.2.2] 44))
  have hh0 := Row3.lit (w.alloc (.cells #[.slice A h.length c, .slice K l.length d] 24)) 44 (.int .i64 x.1) (.string x.2.1) (.int .i64 x.2.2)
  rw [World.size_alloc] at hh0
  have HB0 := hid hb0
  have X := hid hx0
  have XH := hid hh0
  have HR := hid ((hr.below hb0).more hb0.size)
  have HK := hid ((hk.below hb0).more hb0.size)
  have HF := hid hf
  have HG := hid hg
  have HN := hid hn
  have HM := hid hm
  have HXS := hid hx
  clear hr hf hn hk hm hg hx hb0 hx0 hh0
  go_enter Try.func5, Try.ntmps5
  go_wp2_with fail
  generalize hgq : (w.alloc (.cells #[.slice A h.length c, .slice K l.length d] 24)).alloc (.cells #[.int .i64 x.1, .string x.2.1, .int .i64 x.2.2] 44) = w0 at *
  clear hgq
  refine (szLocks_any A c h K d l 1048576 _ HR.out HF.out HN.out HK.out HG.out HM.out (by omega) (by omega)).mono ?_
  rintro e w1 ⟨r, rfl, _, hru, hr3, hb⟩
  have C0_1 := hid (hb)
  have hs1 : w0.heap.size ≤ w1.heap.size := hb.size
  have HZ := hid hr3
  have HRU := hid hru
  clear hr3 hb hru
  by_cases hneg : r < 0
  · have b0a := Row2.c0 (X.out.below C0_1.out)
    have b0b := Row2.c1 (X.out.below C0_1.out)
    go_wp2_with fail
    go_ret
    exact ⟨rfl, HB0.out.trans (C0_1.out.mono HB0.out.size)⟩
  have hz := HZ.out (by omega)
  have hps : h.length ≤ 1048576 := by have := HRU.out; omega
  have hks : l.length ≤ 1048576 := by have := HRU.out; omega
  have h0a := Row3.c0 (XH.out.below C0_1.out)
  have h0b := Row3.c1 (XH.out.below C0_1.out)
  have h0c := Row3.c2 (XH.out.below C0_1.out)
  have b0a := Row2.c0 (X.out.below C0_1.out)
  have b0b := Row2.c1 (X.out.below C0_1.out)
  go_wp2_with fail
  clear b0a b0b
  refine (szHold_any x r _ (by omega) HRU.out HXS.out).mono ?_
  rintro e w2 ⟨r2, rfl, _, _, _, hb⟩
  have C0_2 := hid (C0_1.out.trans (hb.mono C0_1.out.size))
  have hs2 : w1.heap.size ≤ w2.heap.size := hb.size
  clear hb h0a h0b h0c
  by_cases hneg2 : r2 < 0
  · have b0a := Row2.c0 (X.out.below C0_2.out)
    have b0b := Row2.c1 (X.out.below C0_2.out)
    go_wp2_with fail
    go_ret
    exact ⟨rfl, HB0.out.trans (C0_2.out.mono HB0.out.size)⟩
  have b0a := Row2.c0 (X.out.below C0_2.out)
  have b0b := Row2.c1 (X.out.below C0_2.out)
  go_wp2_with fail
  clear b0a b0b
  have XK := hid (X.out.below C0_2.out)
  have XHK := hid (XH.out.below C0_2.out)
  have HRF : Hid (∀ W, Below w2.heap.size w2 W → RH W W.heap.size A h) := fun W hb => (((HR.out.below C0_2.out).more C0_2.out.size).below hb).more hb.size
  have HKF : Hid (∀ W, Below w2.heap.size w2 W → RH W W.heap.size K l) := fun W hb => (((HK.out.below C0_2.out).more C0_2.out.size).below hb).more hb.size
  go_cut [6, 7] from 26 to 33 (fun sg sk wc => ∃ (gq : Nat) (A3 : Option Addr) (c3 : Nat) (K3 : Option Addr) (d3 : Nat), sg = .pointer (some ⟨gq, 0, none⟩) ∧ sk = .int .i64 (askR h l x).2.2 ∧ Hid (Row2 wc gq 28 (.slice A3 (askR h l x).1.length c3) (.slice K3 (askR h l x).2.1.length d3)) ∧ Hid (OwnH wc w2.heap.size A3 c3 (askR h l x).1) ∧ Hid (OwnH wc w2.heap.size K3 d3 (askR h l x).2.1) ∧ Hid (∀ k, Value.ownBlock (.slice A3 (askR h l x).1.length c3) = some k → Value.ownBlock (.slice K3 (askR h l x).2.1.length d3) ≠ some k) ∧ Hid (w2.heap.size ≤ gq) ∧ Hid (Below w2.heap.size w2 wc))
  case first =>
    have LA := hid (XK.out.lt)
    have LB := hid ((World.ownsRow.lt XHK.out (w.heap.size + 1) rfl).2)
    have tk1 : Hid (1 = 1) := rfl
    have tk2 : Hid (2 = 2) := rfl
    have tk3 : Hid (3 = 3) := rfl
    have y0a := XK.out.c0
    have y0b := XK.out.c1
    have y0c := XHK.out.c0
    have y0d := XHK.out.c1
    have y0e := XHK.out.c2
    go_region_held3 (fun w' => w'.cell? ⟨w.heap.size, 0, none⟩ = some (.slice A h.length c) ∧ w'.cell? ⟨w.heap.size, 1, none⟩ = some (.slice K l.length d) ∧ w'.cell? ⟨w.heap.size + 1, 0, none⟩ = some (.int .i64 x.1) ∧ w'.cell? ⟨w.heap.size + 1, 1, none⟩ = some (.string x.2.1) ∧ w'.cell? ⟨w.heap.size + 1, 2, none⟩ = some (.int .i64 x.2.2)) (go_keep)
      (first
        | (clear tk1; go_at_call 17; refine (toLocks_any A c h K d l _ (by first | exact HRF.out _ (Below.refl w2.heap.size w2) | exact HRF.out _ (Below.refl w2.heap.size w2).drew | exact HRF.out _ ((Below.refl w2.heap.size w2).alloc (Nat.le_refl _) _) | exact HRF.out _ ((Below.refl w2.heap.size w2).drew.alloc (Nat.le_refl _) _) | exact HRF.out _ ((Below.refl w2.heap.size w2).alloc (Nat.le_refl _) _).drew) hps (by first | exact HKF.out _ (Below.refl w2.heap.size w2) | exact HKF.out _ (Below.refl w2.heap.size w2).drew | exact HKF.out _ ((Below.refl w2.heap.size w2).alloc (Nat.le_refl _) _) | exact HKF.out _ ((Below.refl w2.heap.size w2).drew.alloc (Nat.le_refl _) _) | exact HKF.out _ ((Below.refl w2.heap.size w2).alloc (Nat.le_refl _) _).drew) hks).mono ?_; rintro e wa ⟨Aa, ca, Ka, da, Ba, rfl, hp, hi, _, _, hb⟩; have HBa : Hid (Below w2.heap.size w2 wa) := (by first | exact (Below.refl w2.heap.size w2).trans (hb.mono (Below.refl w2.heap.size w2).size) | exact (Below.refl w2.heap.size w2).drew.trans (hb.mono (Below.refl w2.heap.size w2).drew.size) | exact ((Below.refl w2.heap.size w2).alloc (Nat.le_refl _) _).trans (hb.mono ((Below.refl w2.heap.size w2).alloc (Nat.le_refl _) _).size) | exact ((Below.refl w2.heap.size w2).drew.alloc (Nat.le_refl _) _).trans (hb.mono ((Below.refl w2.heap.size w2).drew.alloc (Nat.le_refl _) _).size) | exact ((Below.refl w2.heap.size w2).alloc (Nat.le_refl _) _).drew.trans (hb.mono ((Below.refl w2.heap.size w2).alloc (Nat.le_refl _) _).drew.size)); have HCa := hid hp.cap; have HCb := hid hi.cap; have HPa := hid hp.rh; have HIa := hid hi.rh; have yaa := (XK.out.below HBa.out).c0; have yab := (XK.out.below HBa.out).c1; have yac := (XHK.out.below HBa.out).c0; have yad := (XHK.out.below HBa.out).c1; have yae := (XHK.out.below HBa.out).c2; (try (have ZBa : Hid (Row2 wa w2.heap.size 28 (.slice none 0 0) (.slice none 0 0)) := (by first | exact (Row2.lit w2 28 (.slice none 0 0) (.slice none 0 0)).below hb | exact (Row2.lit w2 28 (.slice none 0 0) (.slice none 0 0)).below ((Below.refl _ _).drew.trans hb) | exact (Row2.lit w2.drew 28 (.slice none 0 0) (.slice none 0 0)).below hb | exact (Row2.lit w2.drew 28 (.slice none 0 0) (.slice none 0 0)).below ((Below.refl _ _).drew.trans hb)))); clear hp hi hb)
        | (clear tk2; go_at_call 32; refine (toHold_any x _).mono ?_; rintro e wb ⟨rfl, hb⟩; have HBab : Hid (Below wa.heap.size wa wb) := (by first | exact (Below.refl wa.heap.size wa).trans (hb.mono (Below.refl wa.heap.size wa).size) | exact (Below.refl wa.heap.size wa).drew.trans (hb.mono (Below.refl wa.heap.size wa).drew.size) | exact ((Below.refl wa.heap.size wa).alloc (Nat.le_refl _) _).trans (hb.mono ((Below.refl wa.heap.size wa).alloc (Nat.le_refl _) _).size) | exact ((Below.refl wa.heap.size wa).drew.alloc (Nat.le_refl _) _).trans (hb.mono ((Below.refl wa.heap.size wa).drew.alloc (Nat.le_refl _) _).size) | exact ((Below.refl wa.heap.size wa).alloc (Nat.le_refl _) _).drew.trans (hb.mono ((Below.refl wa.heap.size wa).alloc (Nat.le_refl _) _).drew.size)); have HBb := hid (HBa.out.trans (HBab.out.mono HBa.out.size)); have HPb := hid ((HPa.out.below HBab.out).more HBab.out.size); have HIb := hid ((HIa.out.below HBab.out).more HBab.out.size); have yba := (XK.out.below HBb.out).c0; have ybb := (XK.out.below HBb.out).c1; have ybc := (XHK.out.below HBb.out).c0; have ybd := (XHK.out.below HBb.out).c1; have ybe := (XHK.out.below HBb.out).c2; (try (have ZBb := hid (ZBa.out.below HBab.out))); (try (have ZBb : Hid (Row2 wb wa.heap.size 28 (.slice none 0 0) (.slice none 0 0)) := (by first | exact (Row2.lit wa 28 (.slice none 0 0) (.slice none 0 0)).below hb | exact (Row2.lit wa 28 (.slice none 0 0) (.slice none 0 0)).below ((Below.refl _ _).drew.trans hb) | exact (Row2.lit wa.drew 28 (.slice none 0 0) (.slice none 0 0)).below hb | exact (Row2.lit wa.drew 28 (.slice none 0 0) (.slice none 0 0)).below ((Below.refl _ _).drew.trans hb)))); clear hb)
        | (clear tk3; go_at_call 31; refine (spec_Ask Aa ca h Ka da l x _ (by first | exact (HPb.out.below (Below.refl wb.heap.size wb)).more (Below.refl wb.heap.size wb).size | exact (HPb.out.below (Below.refl wb.heap.size wb).drew).more (Below.refl wb.heap.size wb).drew.size | exact (HPb.out.below ((Below.refl wb.heap.size wb).alloc (Nat.le_refl _) _)).more ((Below.refl wb.heap.size wb).alloc (Nat.le_refl _) _).size | exact (HPb.out.below ((Below.refl wb.heap.size wb).drew.alloc (Nat.le_refl _) _)).more ((Below.refl wb.heap.size wb).drew.alloc (Nat.le_refl _) _).size | exact (HPb.out.below ((Below.refl wb.heap.size wb).alloc (Nat.le_refl _) _).drew).more ((Below.refl wb.heap.size wb).alloc (Nat.le_refl _) _).drew.size) HF.out HN.out (by first | exact (HIb.out.below (Below.refl wb.heap.size wb)).more (Below.refl wb.heap.size wb).size | exact (HIb.out.below (Below.refl wb.heap.size wb).drew).more (Below.refl wb.heap.size wb).drew.size | exact (HIb.out.below ((Below.refl wb.heap.size wb).alloc (Nat.le_refl _) _)).more ((Below.refl wb.heap.size wb).alloc (Nat.le_refl _) _).size | exact (HIb.out.below ((Below.refl wb.heap.size wb).drew.alloc (Nat.le_refl _) _)).more ((Below.refl wb.heap.size wb).drew.alloc (Nat.le_refl _) _).size | exact (HIb.out.below ((Below.refl wb.heap.size wb).alloc (Nat.le_refl _) _).drew).more ((Below.refl wb.heap.size wb).alloc (Nat.le_refl _) _).drew.size) HG.out HM.out HXS.out).mono ?_; rintro e wd ⟨A3, c3, K3, d3, rfl, hA, hK, hne, hb⟩; have HBbd : Hid (Below wb.heap.size wb wd) := (by first | exact (Below.refl wb.heap.size wb).trans (hb.mono (Below.refl wb.heap.size wb).size) | exact (Below.refl wb.heap.size wb).drew.trans (hb.mono (Below.refl wb.heap.size wb).drew.size) | exact ((Below.refl wb.heap.size wb).alloc (Nat.le_refl _) _).trans (hb.mono ((Below.refl wb.heap.size wb).alloc (Nat.le_refl _) _).size) | exact ((Below.refl wb.heap.size wb).drew.alloc (Nat.le_refl _) _).trans (hb.mono ((Below.refl wb.heap.size wb).drew.alloc (Nat.le_refl _) _).size) | exact ((Below.refl wb.heap.size wb).alloc (Nat.le_refl _) _).drew.trans (hb.mono ((Below.refl wb.heap.size wb).alloc (Nat.le_refl _) _).drew.size)); have HBd := hid (HBb.out.trans (HBbd.out.mono HBb.out.size)); have HA3 : Hid (OwnH wd w2.heap.size A3 c3 (askR h l x).1) := (by first | exact hA.mono (Nat.le_trans HBb.out.size (Below.refl wb.heap.size wb).size) | exact hA.mono (Nat.le_trans HBb.out.size (Below.refl wb.heap.size wb).drew.size) | exact hA.mono (Nat.le_trans HBb.out.size ((Below.refl wb.heap.size wb).alloc (Nat.le_refl _) _).size) | exact hA.mono (Nat.le_trans HBb.out.size ((Below.refl wb.heap.size wb).drew.alloc (Nat.le_refl _) _).size) | exact hA.mono (Nat.le_trans HBb.out.size ((Below.refl wb.heap.size wb).alloc (Nat.le_refl _) _).drew.size)); have HK3 : Hid (OwnH wd w2.heap.size K3 d3 (askR h l x).2.1) := (by first | exact hK.mono (Nat.le_trans HBb.out.size (Below.refl wb.heap.size wb).size) | exact hK.mono (Nat.le_trans HBb.out.size (Below.refl wb.heap.size wb).drew.size) | exact hK.mono (Nat.le_trans HBb.out.size ((Below.refl wb.heap.size wb).alloc (Nat.le_refl _) _).size) | exact hK.mono (Nat.le_trans HBb.out.size ((Below.refl wb.heap.size wb).drew.alloc (Nat.le_refl _) _).size) | exact hK.mono (Nat.le_trans HBb.out.size ((Below.refl wb.heap.size wb).alloc (Nat.le_refl _) _).drew.size)); have HNE := hid hne; have yda := (XK.out.below HBd.out).c0; have ydb := (XK.out.below HBd.out).c1; have ydc := (XHK.out.below HBd.out).c0; have ydd := (XHK.out.below HBd.out).c1; have yde := (XHK.out.below HBd.out).c2; (try (have ZBd := hid (ZBb.out.below HBbd.out))); (try (have ZBd : Hid (Row2 wd wb.heap.size 28 (.slice none 0 0) (.slice none 0 0)) := (by first | exact (Row2.lit wb 28 (.slice none 0 0) (.slice none 0 0)).below hb | exact (Row2.lit wb 28 (.slice none 0 0) (.slice none 0 0)).below ((Below.refl _ _).drew.trans hb) | exact (Row2.lit wb.drew 28 (.slice none 0 0) (.slice none 0 0)).below hb | exact (Row2.lit wb.drew 28 (.slice none 0 0) (.slice none 0 0)).below ((Below.refl _ _).drew.trans hb)))); (try (have zd0 := ZBd.out.c0; have zd1 := ZBd.out.c1; have kd0 := ZBd.out.fz 0; have kd1 := ZBd.out.fz 1)); have m1 : ¬ w.heap.size = w2.heap.size := (by have := LA.out; omega); have m1x : ¬ w2.heap.size = w.heap.size := (by have := LA.out; omega); have m2 : ¬ w.heap.size + 1 = w2.heap.size := (by have := LB.out; omega); have m2x : ¬ w2.heap.size = w.heap.size + 1 := (by have := LB.out; omega); have m3 : ¬ w.heap.size = wa.heap.size := (by have := HBa.out.size; have := LA.out; omega); have m3x : ¬ wa.heap.size = w.heap.size := (by have := HBa.out.size; have := LA.out; omega); have m4 : ¬ w.heap.size + 1 = wa.heap.size := (by have := HBa.out.size; have := LB.out; omega); have m4x : ¬ wa.heap.size = w.heap.size + 1 := (by have := HBa.out.size; have := LB.out; omega); have m5 : ¬ w.heap.size = wb.heap.size := (by have := HBb.out.size; have := LA.out; omega); have m5x : ¬ wb.heap.size = w.heap.size := (by have := HBb.out.size; have := LA.out; omega); have m6 : ¬ w.heap.size + 1 = wb.heap.size := (by have := HBb.out.size; have := LB.out; omega); have m6x : ¬ wb.heap.size = w.heap.size + 1 := (by have := HBb.out.size; have := LB.out; omega); clear hA hK hne hb)
      )
    all_goals
      go_wp2_with fail
      go_meet
      case rel => first
        | exact ⟨_, A3, c3, K3, d3, rfl, rfl, (ZBd.out.s0 _).s1 _, HA3.out.two ZBd.out _ _, HK3.out.two ZBd.out _ _, HNE.out, (by first | exact Nat.le_refl _ | exact HBa.out.size | exact HBb.out.size), (HBd.out.setCell (by first | exact Nat.le_refl _ | exact HBa.out.size | exact HBb.out.size) _).setCell (by first | exact Nat.le_refl _ | exact HBa.out.size | exact HBb.out.size) _⟩
        | exact ⟨_, A3, c3, K3, d3, rfl, rfl, Row2.lit wd _ _ _, HA3.out.below ((Below.refl _ _).alloc (Nat.le_refl _) _), HK3.out.below ((Below.refl _ _).alloc (Nat.le_refl _) _), HNE.out, HBd.out.size, HBd.out.alloc HBd.out.size _⟩
  obtain ⟨g3, A3, c3, K3, d3, rfl, rfl, hz, hp, hi, hne, hge, hb⟩ := hcut
  obtain ⟨w3, rfl⟩ : ∃ w3, w3 = wc := ⟨_, rfl⟩
  have C0_3 := hid (C0_2.out.trans (hb.out.mono C0_2.out.size))
  have hs3 : w2.heap.size ≤ w3.heap.size := hb.out.size
  have Z := hid hz.out
  have G3a := hid hp.out
  have G3b := hid hi.out
  have G3n := hid hne.out
  have GE3 := hid hge.out
  clear hz hp hi hne hge hb XK XHK HRF HKF
  have b0a := Row2.c0 (X.out.below C0_3.out)
  have b0b := Row2.c1 (X.out.below C0_3.out)
  go_wp2_with fail
  clear b0a b0b
  refine (toLocks_any A c h K d l _ ((HR.out.below C0_3.out).more C0_3.out.size) hps ((HK.out.below C0_3.out).more C0_3.out.size) hks).mono ?_
  rintro e w4 ⟨A4, c4, K4, d4, B4, rfl, hp, hi, hBB, hlt, hb⟩
  have C0_4 := hid (C0_3.out.trans (hb.mono C0_3.out.size))
  have C3_4 := hid (hb)
  have hs4 : w3.heap.size ≤ w4.heap.size := hb.size
  have P4 := hid hp
  have I4 := hid hi
  have BB4 := hid hBB
  have LT4 := hid hlt
  clear hp hi hBB hlt hb
  have hbq : Below w4.heap.size w4 (w4.alloc (.cells #[.slice A4 h.length c4, .slice K4 l.length d4] 28)) := (Below.refl _ _).alloc (Nat.le_refl _) _
  have hyq := Row2.lit w4 28 (.slice A4 h.length c4) (.slice K4 l.length d4)
  have b0a := Row2.c0 (X.out.below C0_4.out)
  have b0b := Row2.c1 (X.out.below C0_4.out)
  have d0a := Row2.c0 (Row2.below (X.out.below C0_4.out) hbq)
  have d0b := Row2.c1 (Row2.below (X.out.below C0_4.out) hbq)
  go_wp2_with fail
  clear b0a b0b
  clear d0a d0b
  generalize hgq : w4.alloc (.cells #[.slice A4 h.length c4, .slice K4 l.length d4] 28) = w5 at *
  clear hgq
  have C0_5 := hid (C0_4.out.trans (hbq.mono C0_4.out.size))
  have C3_5 := hid (C3_4.out.trans (hbq.mono C3_4.out.size))
  have C4_5 := hid (hbq)
  have hs5 : w4.heap.size ≤ w5.heap.size := hbq.size
  have Y := hid hyq
  clear hyq hbq
  have b0a := Row2.c0 (X.out.below C0_5.out)
  have b0b := Row2.c1 (X.out.below C0_5.out)
  go_wp2_with fail
  clear b0a b0b
  have XK := hid (X.out.below C0_5.out)
  have XHK := hid (XH.out.below C0_5.out)
  have HRF : Hid (∀ W, Below w5.heap.size w5 W → RH W W.heap.size A h) := fun W hb => (((HR.out.below C0_5.out).more C0_5.out.size).below hb).more hb.size
  have HKF : Hid (∀ W, Below w5.heap.size w5 W → RH W W.heap.size K l) := fun W hb => (((HK.out.below C0_5.out).more C0_5.out.size).below hb).more hb.size
  have YK := hid Y.out
  have PK := hid (P4.out.below C4_5.out)
  have IK := hid (I4.out.below C4_5.out)
  go_cut [9, 10] from 36 to 42 (fun sg sk wc => ∃ (gq : Nat) (A3 : Option Addr) (c3 : Nat) (K3 : Option Addr) (d3 : Nat), sg = .pointer (some ⟨gq, 0, none⟩) ∧ sk = .int .i64 (askR h l x).2.2 ∧ Hid (Row2 wc gq 28 (.slice A3 (askR h l x).1.length c3) (.slice K3 (askR h l x).2.1.length d3)) ∧ Hid (OwnH wc w5.heap.size A3 c3 (askR h l x).1) ∧ Hid (OwnH wc w5.heap.size K3 d3 (askR h l x).2.1) ∧ Hid (∀ k, Value.ownBlock (.slice A3 (askR h l x).1.length c3) = some k → Value.ownBlock (.slice K3 (askR h l x).2.1.length d3) ≠ some k) ∧ Hid (w5.heap.size ≤ gq) ∧ Hid (Below w5.heap.size w5 wc))
  case first =>
    have LA := hid (YK.out.lt)
    have LB := hid ((World.ownsRow.lt XHK.out (w.heap.size + 1) rfl).2)
    have tk1 : Hid (1 = 1) := rfl
    have tk2 : Hid (2 = 2) := rfl
    have tk3 : Hid (3 = 3) := rfl
    have y0a := YK.out.c0
    have y0b := YK.out.c1
    have y0c := XHK.out.c0
    have y0d := XHK.out.c1
    have y0e := XHK.out.c2
    go_region_held3 (fun w' => w'.cell? ⟨w4.heap.size, 0, none⟩ = some (.slice A4 h.length c4) ∧ w'.cell? ⟨w4.heap.size, 1, none⟩ = some (.slice K4 l.length d4) ∧ w'.cell? ⟨w.heap.size + 1, 0, none⟩ = some (.int .i64 x.1) ∧ w'.cell? ⟨w.heap.size + 1, 1, none⟩ = some (.string x.2.1) ∧ w'.cell? ⟨w.heap.size + 1, 2, none⟩ = some (.int .i64 x.2.2)) (go_keep)
      (first
        | (clear tk2; go_at_call 32; refine (toHold_any x _).mono ?_; rintro e wb ⟨rfl, hb⟩; have HBab : Hid (Below w5.heap.size w5 wb) := (by first | exact (Below.refl w5.heap.size w5).trans (hb.mono (Below.refl w5.heap.size w5).size) | exact (Below.refl w5.heap.size w5).drew.trans (hb.mono (Below.refl w5.heap.size w5).drew.size) | exact ((Below.refl w5.heap.size w5).alloc (Nat.le_refl _) _).trans (hb.mono ((Below.refl w5.heap.size w5).alloc (Nat.le_refl _) _).size) | exact ((Below.refl w5.heap.size w5).drew.alloc (Nat.le_refl _) _).trans (hb.mono ((Below.refl w5.heap.size w5).drew.alloc (Nat.le_refl _) _).size) | exact ((Below.refl w5.heap.size w5).alloc (Nat.le_refl _) _).drew.trans (hb.mono ((Below.refl w5.heap.size w5).alloc (Nat.le_refl _) _).drew.size)); have HBb := hid HBab.out; have HPb := hid ((PK.out.below HBab.out).rh); have HIb := hid ((IK.out.below HBab.out).rh); have HCa := hid PK.out.cap; have HCb := hid IK.out.cap; have yba := (YK.out.below HBb.out).c0; have ybb := (YK.out.below HBb.out).c1; have ybc := (XHK.out.below HBb.out).c0; have ybd := (XHK.out.below HBb.out).c1; have ybe := (XHK.out.below HBb.out).c2; (try (have ZBb : Hid (Row2 wb w5.heap.size 28 (.slice none 0 0) (.slice none 0 0)) := (by first | exact (Row2.lit w5 28 (.slice none 0 0) (.slice none 0 0)).below hb | exact (Row2.lit w5 28 (.slice none 0 0) (.slice none 0 0)).below ((Below.refl _ _).drew.trans hb) | exact (Row2.lit w5.drew 28 (.slice none 0 0) (.slice none 0 0)).below hb | exact (Row2.lit w5.drew 28 (.slice none 0 0) (.slice none 0 0)).below ((Below.refl _ _).drew.trans hb)))); clear hb)
        | (clear tk3; go_at_call 33; refine (impl_Ask A4 c4 h K4 d4 l x _ (by first | exact (HPb.out.below (Below.refl wb.heap.size wb)).more (Below.refl wb.heap.size wb).size | exact (HPb.out.below (Below.refl wb.heap.size wb).drew).more (Below.refl wb.heap.size wb).drew.size | exact (HPb.out.below ((Below.refl wb.heap.size wb).alloc (Nat.le_refl _) _)).more ((Below.refl wb.heap.size wb).alloc (Nat.le_refl _) _).size | exact (HPb.out.below ((Below.refl wb.heap.size wb).drew.alloc (Nat.le_refl _) _)).more ((Below.refl wb.heap.size wb).drew.alloc (Nat.le_refl _) _).size | exact (HPb.out.below ((Below.refl wb.heap.size wb).alloc (Nat.le_refl _) _).drew).more ((Below.refl wb.heap.size wb).alloc (Nat.le_refl _) _).drew.size) HF.out HCa.out.1 HCa.out.2 (by first | exact (HIb.out.below (Below.refl wb.heap.size wb)).more (Below.refl wb.heap.size wb).size | exact (HIb.out.below (Below.refl wb.heap.size wb).drew).more (Below.refl wb.heap.size wb).drew.size | exact (HIb.out.below ((Below.refl wb.heap.size wb).alloc (Nat.le_refl _) _)).more ((Below.refl wb.heap.size wb).alloc (Nat.le_refl _) _).size | exact (HIb.out.below ((Below.refl wb.heap.size wb).drew.alloc (Nat.le_refl _) _)).more ((Below.refl wb.heap.size wb).drew.alloc (Nat.le_refl _) _).size | exact (HIb.out.below ((Below.refl wb.heap.size wb).alloc (Nat.le_refl _) _).drew).more ((Below.refl wb.heap.size wb).alloc (Nat.le_refl _) _).drew.size) HG.out HCb.out.1 HCb.out.2 HXS.out).mono ?_; rintro e wd ⟨A3, c3, K3, d3, rfl, hA, hK, hne, hb⟩; have HBbd : Hid (Below wb.heap.size wb wd) := (by first | exact (Below.refl wb.heap.size wb).trans (hb.mono (Below.refl wb.heap.size wb).size) | exact (Below.refl wb.heap.size wb).drew.trans (hb.mono (Below.refl wb.heap.size wb).drew.size) | exact ((Below.refl wb.heap.size wb).alloc (Nat.le_refl _) _).trans (hb.mono ((Below.refl wb.heap.size wb).alloc (Nat.le_refl _) _).size) | exact ((Below.refl wb.heap.size wb).drew.alloc (Nat.le_refl _) _).trans (hb.mono ((Below.refl wb.heap.size wb).drew.alloc (Nat.le_refl _) _).size) | exact ((Below.refl wb.heap.size wb).alloc (Nat.le_refl _) _).drew.trans (hb.mono ((Below.refl wb.heap.size wb).alloc (Nat.le_refl _) _).drew.size)); have HBd := hid (HBb.out.trans (HBbd.out.mono HBb.out.size)); have HA3 : Hid (OwnH wd w5.heap.size A3 c3 (askR h l x).1) := (by first | exact hA.mono (Nat.le_trans HBb.out.size (Below.refl wb.heap.size wb).size) | exact hA.mono (Nat.le_trans HBb.out.size (Below.refl wb.heap.size wb).drew.size) | exact hA.mono (Nat.le_trans HBb.out.size ((Below.refl wb.heap.size wb).alloc (Nat.le_refl _) _).size) | exact hA.mono (Nat.le_trans HBb.out.size ((Below.refl wb.heap.size wb).drew.alloc (Nat.le_refl _) _).size) | exact hA.mono (Nat.le_trans HBb.out.size ((Below.refl wb.heap.size wb).alloc (Nat.le_refl _) _).drew.size)); have HK3 : Hid (OwnH wd w5.heap.size K3 d3 (askR h l x).2.1) := (by first | exact hK.mono (Nat.le_trans HBb.out.size (Below.refl wb.heap.size wb).size) | exact hK.mono (Nat.le_trans HBb.out.size (Below.refl wb.heap.size wb).drew.size) | exact hK.mono (Nat.le_trans HBb.out.size ((Below.refl wb.heap.size wb).alloc (Nat.le_refl _) _).size) | exact hK.mono (Nat.le_trans HBb.out.size ((Below.refl wb.heap.size wb).drew.alloc (Nat.le_refl _) _).size) | exact hK.mono (Nat.le_trans HBb.out.size ((Below.refl wb.heap.size wb).alloc (Nat.le_refl _) _).drew.size)); have HNE := hid hne; have yda := (YK.out.below HBd.out).c0; have ydb := (YK.out.below HBd.out).c1; have ydc := (XHK.out.below HBd.out).c0; have ydd := (XHK.out.below HBd.out).c1; have yde := (XHK.out.below HBd.out).c2; (try (have ZBd := hid (ZBb.out.below HBbd.out))); (try (have ZBd : Hid (Row2 wd wb.heap.size 28 (.slice none 0 0) (.slice none 0 0)) := (by first | exact (Row2.lit wb 28 (.slice none 0 0) (.slice none 0 0)).below hb | exact (Row2.lit wb 28 (.slice none 0 0) (.slice none 0 0)).below ((Below.refl _ _).drew.trans hb) | exact (Row2.lit wb.drew 28 (.slice none 0 0) (.slice none 0 0)).below hb | exact (Row2.lit wb.drew 28 (.slice none 0 0) (.slice none 0 0)).below ((Below.refl _ _).drew.trans hb)))); (try (have zd0 := ZBd.out.c0; have zd1 := ZBd.out.c1; have kd0 := ZBd.out.fz 0; have kd1 := ZBd.out.fz 1)); have m1 : ¬ w4.heap.size = w5.heap.size := (by have := LA.out; omega); have m1x : ¬ w5.heap.size = w4.heap.size := (by have := LA.out; omega); have m2 : ¬ w.heap.size + 1 = w5.heap.size := (by have := LB.out; omega); have m2x : ¬ w5.heap.size = w.heap.size + 1 := (by have := LB.out; omega); have m3 : ¬ w4.heap.size = wb.heap.size := (by have := HBb.out.size; have := LA.out; omega); have m3x : ¬ wb.heap.size = w4.heap.size := (by have := HBb.out.size; have := LA.out; omega); have m4 : ¬ w.heap.size + 1 = wb.heap.size := (by have := HBb.out.size; have := LB.out; omega); have m4x : ¬ wb.heap.size = w.heap.size + 1 := (by have := HBb.out.size; have := LB.out; omega); clear hA hK hne hb)
      )
    all_goals
      go_wp2_with fail
      go_meet
      case rel => first
        | exact ⟨_, A3, c3, K3, d3, rfl, rfl, (ZBd.out.s0 _).s1 _, HA3.out.two ZBd.out _ _, HK3.out.two ZBd.out _ _, HNE.out, (by first | exact Nat.le_refl _ | exact HBa.out.size | exact HBb.out.size), (HBd.out.setCell (by first | exact Nat.le_refl _ | exact HBa.out.size | exact HBb.out.size) _).setCell (by first | exact Nat.le_refl _ | exact HBa.out.size | exact HBb.out.size) _⟩
        | exact ⟨_, A3, c3, K3, d3, rfl, rfl, Row2.lit wd _ _ _, HA3.out.below ((Below.refl _ _).alloc (Nat.le_refl _) _), HK3.out.below ((Below.refl _ _).alloc (Nat.le_refl _) _), HNE.out, HBd.out.size, HBd.out.alloc HBd.out.size _⟩
  obtain ⟨g6, A6, c6, K6, d6, rfl, rfl, hz, hp, hi, hne, hge, hb⟩ := hcut
  obtain ⟨w6, rfl⟩ : ∃ w6, w6 = wc := ⟨_, rfl⟩
  have C0_6 := hid (C0_5.out.trans (hb.out.mono C0_5.out.size))
  have C3_6 := hid (C3_5.out.trans (hb.out.mono C3_5.out.size))
  have C4_6 := hid (C4_5.out.trans (hb.out.mono C4_5.out.size))
  have C5_6 := hid (hb.out)
  have hs6 : w5.heap.size ≤ w6.heap.size := hb.out.size
  have GB := hid hz.out
  have G6a := hid hp.out
  have G6b := hid hi.out
  have G6n := hid hne.out
  have GE6 := hid hge.out
  clear hz hp hi hne hge hb XK XHK HRF HKF YK PK IK
  have zz0 := Row2.c0 (Z.out.below C3_6.out)
  have zz1 := Row2.c1 (Z.out.below C3_6.out)
  have gg0 := Row2.c0 GB.out
  have gg1 := Row2.c1 GB.out
  have ek : ((askR h l x).2.2 != (askR h l x).2.2) = false := by simp
  go_wp2_with fail
  refine (eqLocks_same A6 c6 (askR h l x).1 K6 d6 (askR h l x).2.1 A3 c3 K3 d3 _ G6a.out.rh (by have := HLEN.out; unfold maxLen; omega) G6b.out.rh (by have := HLEN.out; unfold maxLen; omega) (G3a.out.below C3_6.out).rh (G3b.out.below C3_6.out).rh).mono ?_
  rintro e w7 ⟨rfl, hb⟩
  have C0_7 := hid (C0_6.out.trans (hb.mono C0_6.out.size))
  have C3_7 := hid (C3_6.out.trans (hb.mono C3_6.out.size))
  have C4_7 := hid (C4_6.out.trans (hb.mono C4_6.out.size))
  have C5_7 := hid (C5_6.out.trans (hb.mono C5_6.out.size))
  have C6_7 := hid (hb)
  have hs7 : w6.heap.size ≤ w7.heap.size := hb.size
  clear hb zz0 zz1 gg0 gg1
  have X6 := hid (X.out.below C0_7.out)
  have Y6 := hid (Y.out.below C5_7.out)
  have HB6 := hid C0_7.out
  have HP6 := hid (P4.out.below C4_7.out)
  have HI6 := hid (I4.out.below C4_7.out)
  have c1 : ∀ dq os, Calls Try.prog 17 #[.agg #[.slice A h.length c, .slice K l.length d]] (Go.Sort.grow (redrawn w7 dq) os) (MadeLk (Go.Sort.grow (redrawn w7 dq) os) (Go.Sort.grow (redrawn w7 dq) os).heap.size h l) := fun dq os => toLocks_any A c h K d l _ ((HR.out.below (HB6.out.trans ((below_regrown w7 dq os).mono HB6.out.size))).more (HB6.out.trans ((below_regrown w7 dq os).mono HB6.out.size)).size) hps ((HK.out.below (HB6.out.trans ((below_regrown w7 dq os).mono HB6.out.size))).more (HB6.out.trans ((below_regrown w7 dq os).mono HB6.out.size)).size) hks
  have b0a := Row2.c0 (X.out.below C0_7.out)
  have b0b := Row2.c1 (X.out.below C0_7.out)
  have b1a := Row2.c0 (Y.out.below C5_7.out)
  have b1b := Row2.c1 (Y.out.below C5_7.out)
  go_wp2_with fail
  go_region_held3 (fun w' => w'.cell? ⟨w.heap.size, 0, none⟩ = some (.slice A h.length c) ∧ w'.cell? ⟨w.heap.size, 1, none⟩ = some (.slice K l.length d) ∧
      w'.cell? ⟨w4.heap.size, 0, none⟩ = some (.slice A4 h.length c4) ∧ w'.cell? ⟨w4.heap.size, 1, none⟩ = some (.slice K4 l.length d4)) (go_keep)
    (first
      | (go_at_call 17; refine (toLocks_any A c h K d l _ ((HR.out.below HB6.out.drew).more HB6.out.drew.size) hps ((HK.out.below HB6.out.drew).more HB6.out.drew.size) hks).mono ?_; rintro e w107 ⟨Aq, cq, Kq, dq, Bq, rfl, hp7, hi7, _, _, hb7⟩; have X7 := hid ((X6.out.below (Below.refl _ _).drew).below hb7); have Y7 := hid ((Y6.out.below (Below.refl _ _).drew).below hb7); have HP7 := hid hp7; have HI7 := hid hi7; have HQ7 := hid ((HP6.out.below (Below.refl _ _).drew).below hb7); have HJ7 := hid ((HI6.out.below (Below.refl _ _).drew).below hb7); have hbr := (Below.refl w7.heap.size w7).drew.trans hb7; have HB7 := hid hbr; clear hp7 hi7 hb7 hbr; have x70 := X7.out.c0; have x71 := X7.out.c1; have y70 := Y7.out.c0; have y71 := Y7.out.c1)
      | (go_at_call 19; refine (eqLocks_same A4 c4 h K4 d4 l Aq cq Kq dq _ HQ7.out.rh HN.out HJ7.out.rh HM.out HP7.out.rh HI7.out.rh).mono ?_; rintro e w8 ⟨rfl, hb8⟩; have X8 := hid (X7.out.below hb8); have Y8 := hid (Y7.out.below hb8); have HB8 := hid (HB7.out.trans (hb8.mono HB7.out.size)); clear hb8; have x80 := X8.out.c0; have x81 := X8.out.c1; have y80 := Y8.out.c0; have y81 := Y8.out.c1)
      | (go_at_call 19; refine (eqLocks_same A4 c4 h K4 d4 l Aq cq Kq dq _ (HQ7.out.below (Below.refl _ _).drew).rh HN.out (HJ7.out.below (Below.refl _ _).drew).rh HM.out (HP7.out.below (Below.refl _ _).drew).rh (HI7.out.below (Below.refl _ _).drew).rh).mono ?_; rintro e w8 ⟨rfl, hb8⟩; have X8 := hid ((X7.out.below (Below.refl _ _).drew).below hb8); have Y8 := hid ((Y7.out.below (Below.refl _ _).drew).below hb8); have HB8 := hid (HB7.out.drew.trans (hb8.mono HB7.out.size)); clear hb8; have x80 := X8.out.c0; have x81 := X8.out.c1; have y80 := Y8.out.c0; have y81 := Y8.out.c1))
  have hbr := HB8.out
  clear x70 x71 y70 y71 x80 x81 y80 y81 c1
  clear b0a b0b b1a b1b
  have C0_8 := hid (C0_7.out.trans (hbr.mono C0_7.out.size))
  have C3_8 := hid (C3_7.out.trans (hbr.mono C3_7.out.size))
  have C4_8 := hid (C4_7.out.trans (hbr.mono C4_7.out.size))
  have C5_8 := hid (C5_7.out.trans (hbr.mono C5_7.out.size))
  have C6_8 := hid (C6_7.out.trans (hbr.mono C6_7.out.size))
  have hs8 : w7.heap.size ≤ w8.heap.size := hbr.size
  clear hbr
  have XA5 := hid P4.out.size
  have XK5 := hid I4.out.size
  have bb5 := BB4.out
  clear ek
  have ek : ((askR h l x).2.2 != (askR h l x).2.2) = false := by simp
  have b0a := Row2.c0 (Y.out.below C5_8.out)
  have b0b := Row2.c1 (Y.out.below C5_8.out)
  go_wp2_with fail
  clear b0a b0b
  refine (markLocks_any w3.heap.size A4 c4 h K4 d4 l 1 _ (P4.out.below C4_8.out) (OwnH.mono (I4.out.below C4_8.out) BB4.out) (fun q h1 h2 => by have := LT4.out q h1; have := (XK5.out q h2).1; omega) (by omega) (by omega) (by omega)).mono ?_
  rintro e w9 ⟨rfl, _, _, hg⟩
  have GA := hid G6a.out.size
  have GK := hid G6b.out.size
  have N9a := hid (OwnH.keep2 (G6a.out.below C6_8.out) hg (fun q hq e => by have := (GA.out q hq).1; have := (XA5.out q e.symm).2; omega) (fun q hq e => by have := (GA.out q hq).1; have := (XK5.out q e.symm).2; omega))
  have N9b := hid (OwnH.keep2 (G6b.out.below C6_8.out) hg (fun q hq e => by have := (GK.out q hq).1; have := (XA5.out q e.symm).2; omega) (fun q hq e => by have := (GK.out q hq).1; have := (XK5.out q e.symm).2; omega))
  have N9g := hid (show Row2 w9 _ _ _ _ from own_keep2 (GB.out.below C6_8.out) hg (fun q hq e => by cases hq; have h1 := (XA5.out _ e.symm).2; have h2 := GE6.out; try simp only at h1; omega) (fun q hq e => by cases hq; have h1 := (XK5.out _ e.symm).2; have h2 := GE6.out; try simp only at h1; omega))
  have hs9 : w8.heap.size ≤ w9.heap.size := hg.size
  have C0_9 := hid (Grown2.below C0_8.out (hg) C0_8.out.size (fun q hq => by have := XA5.out q hq; omega) (fun q hq => by have := XK5.out q hq; omega))
  have C3_9 := hid (Grown2.below C3_8.out (hg) C3_8.out.size (fun q hq => by have := XA5.out q hq; omega) (fun q hq => by have := XK5.out q hq; omega))
  clear hg
  have zz0 := Row2.c0 (Z.out.below C3_9.out)
  have zz1 := Row2.c1 (Z.out.below C3_9.out)
  have gg0 := Row2.c0 N9g.out
  have gg1 := Row2.c1 N9g.out
  have ek : ((askR h l x).2.2 != (askR h l x).2.2) = false := by simp
  go_wp2_with fail
  refine (eqLocks_same A6 c6 (askR h l x).1 K6 d6 (askR h l x).2.1 A3 c3 K3 d3 _ N9a.out.rh (by have := HLEN.out; unfold maxLen; omega) N9b.out.rh (by have := HLEN.out; unfold maxLen; omega) (G3a.out.below C3_9.out).rh (G3b.out.below C3_9.out).rh).mono ?_
  rintro e w10 ⟨rfl, hb⟩
  have C0_10 := hid (C0_9.out.trans (hb.mono C0_9.out.size))
  have C3_10 := hid (C3_9.out.trans (hb.mono C3_9.out.size))
  have C9_10 := hid (hb)
  have hs10 : w9.heap.size ≤ w10.heap.size := hb.size
  clear hb zz0 zz1 gg0 gg1
  have b0a := Row2.c0 (N9g.out.below C9_10.out)
  have b0b := Row2.c1 (N9g.out.below C9_10.out)
  go_wp2_with fail
  clear b0a b0b
  refine (markLocks_any w5.heap.size A6 c6 (askR h l x).1 K6 d6 (askR h l x).2.1 1 _ (N9a.out.below C9_10.out) (N9b.out.below C9_10.out) G6n.out (by have := HLEN.out; omega) (by have := HLEN.out; omega) (by omega)).mono ?_
  rintro e w11 ⟨rfl, hoa, hob, hg⟩
  have M11a := hid hoa
  have M11b := hid hob
  have M11g := hid (show Row2 w11 _ _ _ _ from own_keep2 (N9g.out.below C9_10.out) hg (fun q hq e => own_ne (by decide) (N9g.out.below C9_10.out) (N9a.out.below C9_10.out) q hq e.symm) (fun q hq e => own_ne (by decide) (N9g.out.below C9_10.out) (N9b.out.below C9_10.out) q hq e.symm))
  have hs11 : w10.heap.size ≤ w11.heap.size := hg.size
  have C0_11 := hid (Grown2.below C0_10.out (hg) C0_10.out.size (fun q hq => by have := GA.out q hq; omega) (fun q hq => by have := GK.out q hq; omega))
  have C3_11 := hid (Grown2.below C3_10.out (hg) C3_10.out.size (fun q hq => by have := GA.out q hq; omega) (fun q hq => by have := GK.out q hq; omega))
  clear hg hoa hob
  have q1 : ¬ (((1 + 3 * (askR h l x).1.length + 3 * (askR h l x).2.1.length : Nat) : Nat) : Int) < 0 := by omega
  have q3 : ((((1 + 3 * (askR h l x).1.length + 3 * (askR h l x).2.1.length : Nat) : Nat) : Int) != (((1 + 3 * (askR h l x).1.length + 3 * (askR h l x).2.1.length : Nat) : Nat) : Int)) = false := by simp
  have b0a := Row2.c0 M11g.out
  have b0b := Row2.c1 M11g.out
  go_wp2_with fail
  clear b0a b0b
  refine (heldLocks_any A6 c6 (askR h l x).1.length K6 d6 (askR h l x).2.1.length 1 _ M11a.out.rh M11b.out.rh (by have := HLEN.out; omega) (by have := HLEN.out; omega) (by omega)).mono ?_
  rintro e w12 ⟨rfl, hb⟩
  have C0_12 := hid (C0_11.out.trans (hb.mono C0_11.out.size))
  have C3_12 := hid (C3_11.out.trans (hb.mono C3_11.out.size))
  have C11_12 := hid (hb)
  have hs12 : w11.heap.size ≤ w12.heap.size := hb.size
  clear hb
  go_wp2_with fail
  have XK := hid (X.out.below C0_12.out)
  have XHK := hid (XH.out.below C0_12.out)
  have HRF : Hid (∀ W, Below w12.heap.size w12 W → RH W W.heap.size A h) := fun W hb => (((HR.out.below C0_12.out).more C0_12.out.size).below hb).more hb.size
  have HKF : Hid (∀ W, Below w12.heap.size w12 W → RH W W.heap.size K l) := fun W hb => (((HK.out.below C0_12.out).more C0_12.out.size).below hb).more hb.size
  go_cut [14, 15] from 84 to 91 (fun sg sk wc => ∃ (gq : Nat) (A3 : Option Addr) (c3 : Nat) (K3 : Option Addr) (d3 : Nat), sg = .pointer (some ⟨gq, 0, none⟩) ∧ sk = .int .i64 (askR h l x).2.2 ∧ Hid (Row2 wc gq 28 (.slice A3 (askR h l x).1.length c3) (.slice K3 (askR h l x).2.1.length d3)) ∧ Hid (OwnH wc w12.heap.size A3 c3 (askR h l x).1) ∧ Hid (OwnH wc w12.heap.size K3 d3 (askR h l x).2.1) ∧ Hid (∀ k, Value.ownBlock (.slice A3 (askR h l x).1.length c3) = some k → Value.ownBlock (.slice K3 (askR h l x).2.1.length d3) ≠ some k) ∧ Hid (w12.heap.size ≤ gq) ∧ Hid (Below w12.heap.size w12 wc))
  case first =>
    have LA := hid (XK.out.lt)
    have LB := hid ((World.ownsRow.lt XHK.out (w.heap.size + 1) rfl).2)
    have tk1 : Hid (1 = 1) := rfl
    have tk2 : Hid (2 = 2) := rfl
    have tk3 : Hid (3 = 3) := rfl
    have y0a := XK.out.c0
    have y0b := XK.out.c1
    have y0c := XHK.out.c0
    have y0d := XHK.out.c1
    have y0e := XHK.out.c2
    go_region_held3 (fun w' => w'.cell? ⟨w.heap.size, 0, none⟩ = some (.slice A h.length c) ∧ w'.cell? ⟨w.heap.size, 1, none⟩ = some (.slice K l.length d) ∧ w'.cell? ⟨w.heap.size + 1, 0, none⟩ = some (.int .i64 x.1) ∧ w'.cell? ⟨w.heap.size + 1, 1, none⟩ = some (.string x.2.1) ∧ w'.cell? ⟨w.heap.size + 1, 2, none⟩ = some (.int .i64 x.2.2)) (go_keep)
      (first
        | (clear tk1; go_at_call 17; refine (toLocks_any A c h K d l _ (by first | exact HRF.out _ (Below.refl w12.heap.size w12) | exact HRF.out _ (Below.refl w12.heap.size w12).drew | exact HRF.out _ ((Below.refl w12.heap.size w12).alloc (Nat.le_refl _) _) | exact HRF.out _ ((Below.refl w12.heap.size w12).drew.alloc (Nat.le_refl _) _) | exact HRF.out _ ((Below.refl w12.heap.size w12).alloc (Nat.le_refl _) _).drew) hps (by first | exact HKF.out _ (Below.refl w12.heap.size w12) | exact HKF.out _ (Below.refl w12.heap.size w12).drew | exact HKF.out _ ((Below.refl w12.heap.size w12).alloc (Nat.le_refl _) _) | exact HKF.out _ ((Below.refl w12.heap.size w12).drew.alloc (Nat.le_refl _) _) | exact HKF.out _ ((Below.refl w12.heap.size w12).alloc (Nat.le_refl _) _).drew) hks).mono ?_; rintro e wa ⟨Aa, ca, Ka, da, Ba, rfl, hp, hi, _, _, hb⟩; have HBa : Hid (Below w12.heap.size w12 wa) := (by first | exact (Below.refl w12.heap.size w12).trans (hb.mono (Below.refl w12.heap.size w12).size) | exact (Below.refl w12.heap.size w12).drew.trans (hb.mono (Below.refl w12.heap.size w12).drew.size) | exact ((Below.refl w12.heap.size w12).alloc (Nat.le_refl _) _).trans (hb.mono ((Below.refl w12.heap.size w12).alloc (Nat.le_refl _) _).size) | exact ((Below.refl w12.heap.size w12).drew.alloc (Nat.le_refl _) _).trans (hb.mono ((Below.refl w12.heap.size w12).drew.alloc (Nat.le_refl _) _).size) | exact ((Below.refl w12.heap.size w12).alloc (Nat.le_refl _) _).drew.trans (hb.mono ((Below.refl w12.heap.size w12).alloc (Nat.le_refl _) _).drew.size)); have HCa := hid hp.cap; have HCb := hid hi.cap; have HPa := hid hp.rh; have HIa := hid hi.rh; have yaa := (XK.out.below HBa.out).c0; have yab := (XK.out.below HBa.out).c1; have yac := (XHK.out.below HBa.out).c0; have yad := (XHK.out.below HBa.out).c1; have yae := (XHK.out.below HBa.out).c2; (try (have ZBa : Hid (Row2 wa w12.heap.size 28 (.slice none 0 0) (.slice none 0 0)) := (by first | exact (Row2.lit w12 28 (.slice none 0 0) (.slice none 0 0)).below hb | exact (Row2.lit w12 28 (.slice none 0 0) (.slice none 0 0)).below ((Below.refl _ _).drew.trans hb) | exact (Row2.lit w12.drew 28 (.slice none 0 0) (.slice none 0 0)).below hb | exact (Row2.lit w12.drew 28 (.slice none 0 0) (.slice none 0 0)).below ((Below.refl _ _).drew.trans hb)))); clear hp hi hb)
        | (clear tk2; go_at_call 32; refine (toHold_any x _).mono ?_; rintro e wb ⟨rfl, hb⟩; have HBab : Hid (Below wa.heap.size wa wb) := (by first | exact (Below.refl wa.heap.size wa).trans (hb.mono (Below.refl wa.heap.size wa).size) | exact (Below.refl wa.heap.size wa).drew.trans (hb.mono (Below.refl wa.heap.size wa).drew.size) | exact ((Below.refl wa.heap.size wa).alloc (Nat.le_refl _) _).trans (hb.mono ((Below.refl wa.heap.size wa).alloc (Nat.le_refl _) _).size) | exact ((Below.refl wa.heap.size wa).drew.alloc (Nat.le_refl _) _).trans (hb.mono ((Below.refl wa.heap.size wa).drew.alloc (Nat.le_refl _) _).size) | exact ((Below.refl wa.heap.size wa).alloc (Nat.le_refl _) _).drew.trans (hb.mono ((Below.refl wa.heap.size wa).alloc (Nat.le_refl _) _).drew.size)); have HBb := hid (HBa.out.trans (HBab.out.mono HBa.out.size)); have HPb := hid ((HPa.out.below HBab.out).more HBab.out.size); have HIb := hid ((HIa.out.below HBab.out).more HBab.out.size); have yba := (XK.out.below HBb.out).c0; have ybb := (XK.out.below HBb.out).c1; have ybc := (XHK.out.below HBb.out).c0; have ybd := (XHK.out.below HBb.out).c1; have ybe := (XHK.out.below HBb.out).c2; (try (have ZBb := hid (ZBa.out.below HBab.out))); (try (have ZBb : Hid (Row2 wb wa.heap.size 28 (.slice none 0 0) (.slice none 0 0)) := (by first | exact (Row2.lit wa 28 (.slice none 0 0) (.slice none 0 0)).below hb | exact (Row2.lit wa 28 (.slice none 0 0) (.slice none 0 0)).below ((Below.refl _ _).drew.trans hb) | exact (Row2.lit wa.drew 28 (.slice none 0 0) (.slice none 0 0)).below hb | exact (Row2.lit wa.drew 28 (.slice none 0 0) (.slice none 0 0)).below ((Below.refl _ _).drew.trans hb)))); clear hb)
        | (clear tk3; go_at_call 33; refine (impl_Ask Aa ca h Ka da l x _ (by first | exact (HPb.out.below (Below.refl wb.heap.size wb)).more (Below.refl wb.heap.size wb).size | exact (HPb.out.below (Below.refl wb.heap.size wb).drew).more (Below.refl wb.heap.size wb).drew.size | exact (HPb.out.below ((Below.refl wb.heap.size wb).alloc (Nat.le_refl _) _)).more ((Below.refl wb.heap.size wb).alloc (Nat.le_refl _) _).size | exact (HPb.out.below ((Below.refl wb.heap.size wb).drew.alloc (Nat.le_refl _) _)).more ((Below.refl wb.heap.size wb).drew.alloc (Nat.le_refl _) _).size | exact (HPb.out.below ((Below.refl wb.heap.size wb).alloc (Nat.le_refl _) _).drew).more ((Below.refl wb.heap.size wb).alloc (Nat.le_refl _) _).drew.size) HF.out HCa.out.1 HCa.out.2 (by first | exact (HIb.out.below (Below.refl wb.heap.size wb)).more (Below.refl wb.heap.size wb).size | exact (HIb.out.below (Below.refl wb.heap.size wb).drew).more (Below.refl wb.heap.size wb).drew.size | exact (HIb.out.below ((Below.refl wb.heap.size wb).alloc (Nat.le_refl _) _)).more ((Below.refl wb.heap.size wb).alloc (Nat.le_refl _) _).size | exact (HIb.out.below ((Below.refl wb.heap.size wb).drew.alloc (Nat.le_refl _) _)).more ((Below.refl wb.heap.size wb).drew.alloc (Nat.le_refl _) _).size | exact (HIb.out.below ((Below.refl wb.heap.size wb).alloc (Nat.le_refl _) _).drew).more ((Below.refl wb.heap.size wb).alloc (Nat.le_refl _) _).drew.size) HG.out HCb.out.1 HCb.out.2 HXS.out).mono ?_; rintro e wd ⟨A3, c3, K3, d3, rfl, hA, hK, hne, hb⟩; have HBbd : Hid (Below wb.heap.size wb wd) := (by first | exact (Below.refl wb.heap.size wb).trans (hb.mono (Below.refl wb.heap.size wb).size) | exact (Below.refl wb.heap.size wb).drew.trans (hb.mono (Below.refl wb.heap.size wb).drew.size) | exact ((Below.refl wb.heap.size wb).alloc (Nat.le_refl _) _).trans (hb.mono ((Below.refl wb.heap.size wb).alloc (Nat.le_refl _) _).size) | exact ((Below.refl wb.heap.size wb).drew.alloc (Nat.le_refl _) _).trans (hb.mono ((Below.refl wb.heap.size wb).drew.alloc (Nat.le_refl _) _).size) | exact ((Below.refl wb.heap.size wb).alloc (Nat.le_refl _) _).drew.trans (hb.mono ((Below.refl wb.heap.size wb).alloc (Nat.le_refl _) _).drew.size)); have HBd := hid (HBb.out.trans (HBbd.out.mono HBb.out.size)); have HA3 : Hid (OwnH wd w12.heap.size A3 c3 (askR h l x).1) := (by first | exact hA.mono (Nat.le_trans HBb.out.size (Below.refl wb.heap.size wb).size) | exact hA.mono (Nat.le_trans HBb.out.size (Below.refl wb.heap.size wb).drew.size) | exact hA.mono (Nat.le_trans HBb.out.size ((Below.refl wb.heap.size wb).alloc (Nat.le_refl _) _).size) | exact hA.mono (Nat.le_trans HBb.out.size ((Below.refl wb.heap.size wb).drew.alloc (Nat.le_refl _) _).size) | exact hA.mono (Nat.le_trans HBb.out.size ((Below.refl wb.heap.size wb).alloc (Nat.le_refl _) _).drew.size)); have HK3 : Hid (OwnH wd w12.heap.size K3 d3 (askR h l x).2.1) := (by first | exact hK.mono (Nat.le_trans HBb.out.size (Below.refl wb.heap.size wb).size) | exact hK.mono (Nat.le_trans HBb.out.size (Below.refl wb.heap.size wb).drew.size) | exact hK.mono (Nat.le_trans HBb.out.size ((Below.refl wb.heap.size wb).alloc (Nat.le_refl _) _).size) | exact hK.mono (Nat.le_trans HBb.out.size ((Below.refl wb.heap.size wb).drew.alloc (Nat.le_refl _) _).size) | exact hK.mono (Nat.le_trans HBb.out.size ((Below.refl wb.heap.size wb).alloc (Nat.le_refl _) _).drew.size)); have HNE := hid hne; have yda := (XK.out.below HBd.out).c0; have ydb := (XK.out.below HBd.out).c1; have ydc := (XHK.out.below HBd.out).c0; have ydd := (XHK.out.below HBd.out).c1; have yde := (XHK.out.below HBd.out).c2; (try (have ZBd := hid (ZBb.out.below HBbd.out))); (try (have ZBd : Hid (Row2 wd wb.heap.size 28 (.slice none 0 0) (.slice none 0 0)) := (by first | exact (Row2.lit wb 28 (.slice none 0 0) (.slice none 0 0)).below hb | exact (Row2.lit wb 28 (.slice none 0 0) (.slice none 0 0)).below ((Below.refl _ _).drew.trans hb) | exact (Row2.lit wb.drew 28 (.slice none 0 0) (.slice none 0 0)).below hb | exact (Row2.lit wb.drew 28 (.slice none 0 0) (.slice none 0 0)).below ((Below.refl _ _).drew.trans hb)))); (try (have zd0 := ZBd.out.c0; have zd1 := ZBd.out.c1; have kd0 := ZBd.out.fz 0; have kd1 := ZBd.out.fz 1)); have m1 : ¬ w.heap.size = w12.heap.size := (by have := LA.out; omega); have m1x : ¬ w12.heap.size = w.heap.size := (by have := LA.out; omega); have m2 : ¬ w.heap.size + 1 = w12.heap.size := (by have := LB.out; omega); have m2x : ¬ w12.heap.size = w.heap.size + 1 := (by have := LB.out; omega); have m3 : ¬ w.heap.size = wa.heap.size := (by have := HBa.out.size; have := LA.out; omega); have m3x : ¬ wa.heap.size = w.heap.size := (by have := HBa.out.size; have := LA.out; omega); have m4 : ¬ w.heap.size + 1 = wa.heap.size := (by have := HBa.out.size; have := LB.out; omega); have m4x : ¬ wa.heap.size = w.heap.size + 1 := (by have := HBa.out.size; have := LB.out; omega); have m5 : ¬ w.heap.size = wb.heap.size := (by have := HBb.out.size; have := LA.out; omega); have m5x : ¬ wb.heap.size = w.heap.size := (by have := HBb.out.size; have := LA.out; omega); have m6 : ¬ w.heap.size + 1 = wb.heap.size := (by have := HBb.out.size; have := LB.out; omega); have m6x : ¬ wb.heap.size = w.heap.size + 1 := (by have := HBb.out.size; have := LB.out; omega); clear hA hK hne hb)
      )
    all_goals
      go_wp2_with fail
      go_meet
      case rel => first
        | exact ⟨_, A3, c3, K3, d3, rfl, rfl, (ZBd.out.s0 _).s1 _, HA3.out.two ZBd.out _ _, HK3.out.two ZBd.out _ _, HNE.out, (by first | exact Nat.le_refl _ | exact HBa.out.size | exact HBb.out.size), (HBd.out.setCell (by first | exact Nat.le_refl _ | exact HBa.out.size | exact HBb.out.size) _).setCell (by first | exact Nat.le_refl _ | exact HBa.out.size | exact HBb.out.size) _⟩
        | exact ⟨_, A3, c3, K3, d3, rfl, rfl, Row2.lit wd _ _ _, HA3.out.below ((Below.refl _ _).alloc (Nat.le_refl _) _), HK3.out.below ((Below.refl _ _).alloc (Nat.le_refl _) _), HNE.out, HBd.out.size, HBd.out.alloc HBd.out.size _⟩
  obtain ⟨g20, A20, c20, K20, d20, rfl, rfl, hz, hp, hi, hne, hge, hb⟩ := hcut
  obtain ⟨w13, rfl⟩ : ∃ w13, w13 = wc := ⟨_, rfl⟩
  have C0_13 := hid (C0_12.out.trans (hb.out.mono C0_12.out.size))
  have C3_13 := hid (C3_12.out.trans (hb.out.mono C3_12.out.size))
  have C11_13 := hid (C11_12.out.trans (hb.out.mono C11_12.out.size))
  have hs13 : w12.heap.size ≤ w13.heap.size := hb.out.size
  have HB22 := hid hz.out
  have G20a := hid hp.out
  have G20b := hid hi.out
  have G20n := hid hne.out
  have GE20 := hid hge.out
  clear hz hp hi hne hge hb XK XHK HRF HKF
  have zz0 := Row2.c0 (Z.out.below C3_13.out)
  have zz1 := Row2.c1 (Z.out.below C3_13.out)
  have gg0 := Row2.c0 HB22.out
  have gg1 := Row2.c1 HB22.out
  have ek : ((askR h l x).2.2 != (askR h l x).2.2) = false := by simp
  go_wp2_with fail
  refine (eqLocks_same A20 c20 (askR h l x).1 K20 d20 (askR h l x).2.1 A3 c3 K3 d3 _ G20a.out.rh (by have := HLEN.out; unfold maxLen; omega) G20b.out.rh (by have := HLEN.out; unfold maxLen; omega) (G3a.out.below C3_13.out).rh (G3b.out.below C3_13.out).rh).mono ?_
  rintro e w14 ⟨rfl, hb⟩
  have C0_14 := hid (C0_13.out.trans (hb.mono C0_13.out.size))
  have C3_14 := hid (C3_13.out.trans (hb.mono C3_13.out.size))
  have C11_14 := hid (C11_13.out.trans (hb.mono C11_13.out.size))
  have C13_14 := hid (hb)
  have hs14 : w13.heap.size ≤ w14.heap.size := hb.size
  clear hb zz0 zz1 gg0 gg1
  have b0a := Row2.c0 (M11g.out.below C11_14.out)
  have b0b := Row2.c1 (M11g.out.below C11_14.out)
  go_wp2_with fail
  clear b0a b0b
  refine (heldLocks_any A6 c6 (askR h l x).1.length K6 d6 (askR h l x).2.1.length 1 _ (M11a.out.below C11_14.out).rh (M11b.out.below C11_14.out).rh (by have := HLEN.out; omega) (by have := HLEN.out; omega) (by omega)).mono ?_
  rintro e w15 ⟨rfl, hb⟩
  have C0_15 := hid (C0_14.out.trans (hb.mono C0_14.out.size))
  have C3_15 := hid (C3_14.out.trans (hb.mono C3_14.out.size))
  have C11_15 := hid (C11_14.out.trans (hb.mono C11_14.out.size))
  have C13_15 := hid (C13_14.out.trans (hb.mono C13_14.out.size))
  have hs15 : w14.heap.size ≤ w15.heap.size := hb.size
  clear hb
  go_wp2_with fail
  go_ret
  exact ⟨rfl, HB0.out.trans (C0_15.out.mono HB0.out.size)⟩

set_option maxRecDepth 100000 in
theorem exactAsk_lifted (os : Os) (started : os.Started) (H : Type) (enc : TypeId × Value → H) :
    ReturnsInHanded {} Try.checked os 5 .any (Rows.fnExactAskSpec.pre6 enc Try.prog Try.f5 Rows.fnExactAskRow.domain false) (Rows.fnExactAskSpec.post enc Try.prog Try.f5 false true false false) := by
  refine returnsInHanded_of_change (C := Try.checked) own started (by kernel_rfl) Try.func5
    (ChangeSpec.witness6 (enc := enc) (C := Try.checked) false ⟨#[], #[.agg #[.slice none 0 0, .slice none 0 0], .agg #[.int .i64 0, .string ⟨#[]⟩, .int .i64 0]], []⟩ 8 (by kernel_rfl) (by kernel_rfl) (by kernel_rfl) (by kernel_rfl)) ?_
  intro W base args ds gs before hval hW _ _
  have hW' := hW
  obtain ⟨p, q, hA0, hV, rfl, hfz, hnd⟩ := hW
  have hA : DataW.TrodAll enc Try.prog W 0 (fun _ => true) true Try.f5.params.toList args.toList ds p := hA0
  rw [Try.params5] at hA hval
  obtain ⟨v0, vs0, d0, ds0, p0, q0, hargs, rfl, rfl, h0, r0⟩ := trodAll_cons hA
  obtain ⟨v1, vs1, d1, ds1, p1, q1, rfl, rfl, rfl, h1, r1⟩ := trodAll_cons r0
  obtain ⟨rfl, rfl, rfl⟩ := trodAll_nil r1
  obtain rfl : args = #[v0, v1] := by cases args; simp_all
  clear hargs
  obtain ⟨A0, c0, h, K0, e0, l, rfl, rr0, f0, n0, ri0, g0, m0⟩ := open_locks (hval 0 24 v0 rfl rfl) h0
  obtain ⟨x, rfl, z1⟩ := open_hold (hval 1 44 v1 rfl rfl) h1
  refine (exactAsk_walk A0 c0 h K0 e0 l x W rr0 f0 n0 ri0 g0 m0 z1).mono fun e W' ⟨he, hw⟩ => ?_
  subst he
  exact ⟨_, rfl, law_post (tb := 4) laidOut (by kernel_rfl) rfl hW' Try.underlying4 (by kernel_rfl) (fun gs' e => by subst e; rfl) hw⟩

theorem exactAsk_holds : Rows.FnExactAskSaid :=
  OpenClaim.holds_of_wide 5 Try.f5 rfl rfl rfl rfl rfl rfl rfl ⟨rfl, rfl, rfl, rfl, rfl⟩ rfl rfl rfl rfl rfl (by kernel_rfl) Try.func5 (by kernel_rfl)
    (of_decide_eq_true (by kernel_rfl)) (by unfold Func.isWrapper; rw [if_neg (of_decide_eq_false (by kernel_rfl))]; exact ⟨rfl, rfl⟩)
    (fun os started H enc _ => exactAsk_lifted os started H enc)
end Go.Proofs.Ytepgcflkgicpiaa
