/-
  FnAsk: the walk.
-/
import Derived.Test.YtjdmaoegfpgfjaaLkLaw
import Derived.Test.YtjdmaoegfpgfjaaDrawAk
import Derived.Test.YtjdmaoegfpgfjaaAskI
import Derived.Test.YtjdmaoegfpgfjaaAskGood
import Derived.Test.YtjdmaoegfpgfjaaRoundLW
namespace Go.Proofs.Ytjdmaoegfpgfjaa
open Go.ChangeShapes Go.WideShapes Go.ChangeAt Go.RowKit

set_option maxHeartbeats 32000000 in
set_option maxRecDepth 200000 in
theorem ask_walk (A : Option Addr) (n c : Nat) (w : World) (hc : CB w w.heap.size A n) (hn : n ≤ maxLen) :
    Calls Try.prog 10 #[.slice A n c] w fun e w' => e = .returned (.bool true) ∧ Below w.heap.size w w' := by
  have HC := hid hc
  clear hc
  unfold maxLen at hn
  go_enter Try.func10, Try.ntmps10
  go_wp2_with fail
  refine (bigK_any A n c _).mono ?_
  rintro e w0 ⟨rfl, rfl⟩
  by_cases hbig : (1048576 : Int) < (n : Int)
  · go_wp2_with fail
    go_ret
    exact ⟨rfl, Below.refl _ _⟩
  go_wp2_with fail
  refine (drawAsk_any A n c _ HC.out (by omega)).mono ?_
  rintro e w1 ⟨A1, c1, h, K1, d1, l, x, rfl, ho1, hl1, hf1, hg1, ht1, hx1, hb1⟩
  have hvb : Below w1.heap.size w1 ((w1.alloc (.cells #[.slice A1 h.length c1, .slice K1 l.length d1] 39)).alloc (.cells #[.int .i64 x.1, .string x.2.1, .int .i64 x.2.2] 49)) := Bl.al (Bl.al (Below.refl _ _))
  have V := hid ((Row2.lit w1 39 (.slice A1 h.length c1) (.slice K1 l.length d1)).below (Bl.al (Below.refl _ _) (o := .cells #[.int .i64 x.1, .string x.2.1, .int .i64 x.2.2] 49)))
  have x0 := Row3.lit (w1.alloc (.cells #[.slice A1 h.length c1, .slice K1 l.length d1] 39)) 49 (.int .i64 x.1) (.string x.2.1) (.int .i64 x.2.2)
  rw [World.size_alloc] at x0
  have X := hid x0
  have RA := hid (ho1.below hvb).rh
  have RK := hid (hl1.below hvb).rh
  have CA := hid ho1.cap
  have CK := hid hl1.cap
  have HF := hid hf1
  have HG := hid hg1
  have hh10 : h.length ≤ 10 := by omega
  have hl10 : l.length ≤ 10 := by omega
  have HXS : Hid (x.2.1.size ≤ maxLen) := by unfold Hid maxLen; omega
  have HB2 := hid (hb1.trans (hvb.mono hb1.size))
  have HH := hid (Nat.le_trans ho1.cap.1 ho1.cap.2)
  have HL := hid (Nat.le_trans hl1.cap.1 hl1.cap.2)
  have HFACT := hid (ask_facts h l x)
  have HLEN := hid (askR_len h l x)
  have HIA : Hid (∀ W : World, RH W W.heap.size A1 h → RH W W.heap.size K1 l → Calls Try.prog 38 #[.agg #[.slice A1 h.length c1, .slice K1 l.length d1], .agg #[.int .i64 x.1, .string x.2.1, .int .i64 x.2.2]] W (MadeAs W (askR h l x))) := fun W h1 h2 => impl_Ask A1 c1 h K1 d1 l x W h1 HF.out CA.out.1 CA.out.2 h2 HG.out CK.out.1 CK.out.2 HXS.out
  have HSA : Hid (∀ W : World, RH W W.heap.size A1 h → RH W W.heap.size K1 l → Calls Try.prog 39 #[.agg #[.slice A1 h.length c1, .slice K1 l.length d1], .agg #[.int .i64 x.1, .string x.2.1, .int .i64 x.2.2]] W (MadeAs W (askR h l x))) := fun W h1 h2 => spec_Ask A1 c1 h K1 d1 l x W h1 HF.out HH.out h2 HG.out HL.out HXS.out
  obtain ⟨Qh, Ql, Qc, hQ⟩ : ∃ a b c, askR h l x = (a, b, c) := ⟨_, _, _, rfl⟩
  rw [hQ] at HIA HSA HFACT HLEN
  clear hQ x0
  clear ho1 hl1 hf1 hg1 ht1 hx1 hb1 hvb hbig
  go_wp2_with fail
  generalize hw2 : (w1.alloc (.cells #[.slice A1 h.length c1, .slice K1 l.length d1] 39)).alloc (.cells #[.int .i64 x.1, .string x.2.1, .int .i64 x.2.2] 49) = w2 at *
  clear hw2
  refine (HIA.out w2 RA.out RK.out).mono ?_
  rintro e w3 ⟨A3, c3, K3, d3, rfl, hA3, hK3, _, hb3⟩
  dsimp only at hA3 hK3 ⊢
  have hnb : Below w3.heap.size w3 (w3.alloc (.cells #[.slice A3 Qh.length c3, .slice K3 Ql.length d3] 39)) := Bl.al (Below.refl _ _)
  have N := hid (Row2.lit w3 39 (.slice A3 Qh.length c3) (.slice K3 Ql.length d3))
  have NA := hid (hA3.below hnb).rh
  have NK := hid (hK3.below hnb).rh
  have LA := hid hA3.cap
  have LB := hid hK3.cap
  have LA2 := hid (Nat.le_trans hA3.cap.1 hA3.cap.2)
  have LB2 := hid (Nat.le_trans hK3.cap.1 hK3.cap.2)
  have C2_4 := hid (hb3.trans (hnb.mono hb3.size))
  have HB4 := hid (HB2.out.trans (C2_4.out.mono HB2.out.size))
  have v0a := (V.out.below hb3).c0
  have v1a := (V.out.below hb3).c1
  have v0b := (V.out.below C2_4.out).c0
  have v1b := (V.out.below C2_4.out).c1
  have x0a := (X.out.below hb3).c0
  have x1a := (X.out.below hb3).c1
  have x2a := (X.out.below hb3).c2
  have x0b := (X.out.below C2_4.out).c0
  have x1b := (X.out.below C2_4.out).c1
  have x2b := (X.out.below C2_4.out).c2
  clear hA3 hK3 hb3 hnb
  go_wp2_with fail
  clear v0a v1a v0b v1b x0a x1a x2a x0b x1b x2b
  generalize hw4 : w3.alloc (.cells #[.slice A3 Qh.length c3, .slice K3 Ql.length d3] 39) = w4 at *
  clear hw4
  refine (HSA.out w4 ((RA.out.below C2_4.out).more C2_4.out.size) ((RK.out.below C2_4.out).more C2_4.out.size)).mono ?_
  rintro e w5 ⟨A5, c5, K5, d5, rfl, hA5, hK5, _, hb5⟩
  dsimp only at hA5 hK5 ⊢
  have hmb : Below w5.heap.size w5 (w5.alloc (.cells #[.slice A5 Qh.length c5, .slice K5 Ql.length d5] 39)) := Bl.al (Below.refl _ _)
  have M := hid (Row2.lit w5 39 (.slice A5 Qh.length c5) (.slice K5 Ql.length d5))
  have MA := hid (hA5.below hmb).rh
  have MK := hid (hK5.below hmb).rh
  have C4_6 := hid (hb5.trans (hmb.mono hb5.size))
  have C2_6 := hid (C2_4.out.trans (C4_6.out.mono C2_4.out.size))
  have HB6 := hid (HB4.out.trans (C4_6.out.mono HB4.out.size))
  have HC6 : Hid (CB (w5.alloc (.cells #[.slice A5 Qh.length c5, .slice K5 Ql.length d5] 39)) (w5.alloc (.cells #[.slice A5 Qh.length c5, .slice K5 Ql.length d5] 39)).heap.size A n) := by
    rcases HC.out.keep fun p hp => HB6.out.cell hp with q | ⟨b, off, e, hb, hx⟩
    · exact .inl q
    · exact .inr ⟨b, off, e, Nat.lt_of_lt_of_le hb HB6.out.size, hx⟩
  clear hA5 hK5 hb5 hmb
  go_wp2_with fail
  generalize hw6 : w5.alloc (.cells #[.slice A5 Qh.length c5, .slice K5 Ql.length d5] 39) = w6 at *
  clear hw6
  refine (drawLocksOk_any A n c w6 HC6.out (by omega)).mono ?_
  rintro e w7 ⟨A7, c7, hy, K7, d7, ly, rfl, hA7, hK7, hf7, hg7, ht7, hb7⟩
  have hyb : Below w7.heap.size w7 (w7.alloc (.cells #[.slice A7 hy.length c7, .slice K7 ly.length d7] 39)) := Bl.al (Below.refl _ _)
  have Y := hid (Row2.lit w7 39 (.slice A7 hy.length c7) (.slice K7 ly.length d7))
  have YA := hid (hA7.below hyb).rh
  have YK := hid (hK7.below hyb).rh
  have PA := hid hA7.cap
  have PK := hid hK7.cap
  have PA2 := hid (Nat.le_trans hA7.cap.1 hA7.cap.2)
  have PK2 := hid (Nat.le_trans hK7.cap.1 hK7.cap.2)
  have HF7 := hid hf7
  have HG7 := hid hg7
  have C6_9 := hid (hb7.trans (hyb.mono hb7.size))
  have C4_9 := hid (C4_6.out.trans (C6_9.out.mono C4_6.out.size))
  have C2_9 := hid (C2_6.out.trans (C6_9.out.mono C2_6.out.size))
  have HB9 := hid (HB6.out.trans (C6_9.out.mono HB6.out.size))
  clear hA7 hK7 hf7 hg7 ht7 hb7 hyb
  go_wp2_with fail
  generalize hw9 : w7.alloc (.cells #[.slice A7 hy.length c7, .slice K7 ly.length d7] 39) = w9 at *
  clear hw9
  have V9 := hid (V.out.below C2_9.out)
  have X9 := hid (X.out.below C2_9.out)
  have N9 := hid (N.out.below C4_9.out)
  have M9 := hid (M.out.below C6_9.out)
  have RA9 := hid ((RA.out.below C2_9.out).more C2_9.out.size)
  have RK9 := hid ((RK.out.below C2_9.out).more C2_9.out.size)
  have NA9 := hid ((NA.out.below C4_9.out).more C4_9.out.size)
  have NK9 := hid ((NK.out.below C4_9.out).more C4_9.out.size)
  have MA9 := hid ((MA.out.below C6_9.out).more C6_9.out.size)
  have MK9 := hid ((MK.out.below C6_9.out).more C6_9.out.size)
  clear C2_4 C4_6 C2_6 C6_9 C4_9 C2_9 HB4 HB6 V X N M RA RK NA NK MA MK HIA HSA HC6 HC
  have n0 := cell_regrown N9.out.c0
  have n1 := cell_regrown N9.out.c1
  have m0 := cell_regrown M9.out.c0
  have m1 := cell_regrown M9.out.c1
  have y0 := cell_regrown Y.out.c0
  have y1 := cell_regrown Y.out.c1
  have cN : ∀ (dd : Nat) (os : Array Obj), Calls Try.prog 28 #[.agg #[.slice A3 Qh.length c3, .slice K3 Ql.length d3], .agg #[.slice A5 Qh.length c5, .slice K5 Ql.length d5]] (Go.Sort.grow (redrawn w9 dd) os) fun e w'' => e = .returned (.bool true) ∧ ∃ p : Regrown, w'' = Go.Sort.grow (redrawn w9 p.d) p.os := fun dd os =>
    have hb := below_regrown w9 dd os
    Calls.regrown_of (sameLocks_same A3 c3 Qh K3 d3 Ql A5 c5 K5 d5 _ ((NA9.out.below hb).more hb.size) LA2.out ((NK9.out.below hb).more hb.size) LB2.out ((MA9.out.below hb).more hb.size) ((MK9.out.below hb).more hb.size))
  have cI : ∀ (dd : Nat) (os : Array Obj), Calls Try.prog 33 #[.agg #[.slice A7 hy.length c7, .slice K7 ly.length d7]] (Go.Sort.grow (redrawn w9 dd) os) fun e w'' => e = .returned (.bool (locksB hy ly)) ∧ ∃ p : Regrown, w'' = Go.Sort.grow (redrawn w9 p.d) p.os := fun dd os =>
    have hb := below_regrown w9 dd os
    Calls.regrown_of (impl_LocksOk A7 c7 hy K7 d7 ly _ ((YA.out.below hb).more hb.size) HF7.out PA.out.1 PA.out.2 ((YK.out.below hb).more hb.size) HG7.out PK.out.1 PK.out.2)
  have cS : ∀ (dd : Nat) (os : Array Obj), Calls Try.prog 30 #[.agg #[.slice A7 hy.length c7, .slice K7 ly.length d7]] (Go.Sort.grow (redrawn w9 dd) os) fun e w'' => e = .returned (.bool (locksB hy ly)) ∧ ∃ p : Regrown, w'' = Go.Sort.grow (redrawn w9 p.d) p.os := fun dd os =>
    have hb := below_regrown w9 dd os
    Calls.regrown_of (spec_LocksOk A7 c7 hy K7 d7 ly _ ((YA.out.below hb).more hb.size) HF7.out PA2.out ((YK.out.below hb).more hb.size) HG7.out PK2.out)
  obtain ⟨bq, hbq⟩ : ∃ b, locksB hy ly = b := ⟨_, rfl⟩
  rw [hbq] at cI cS
  have HBQ := hid hbq
  clear hbq
  have g1 : (Qc != Qc) = false := by simp
  have g2 : (Qc == Qc) = true := by simp
  have g3 : (bq != bq) = false := by simp
  have g4 : (bq == bq) = true := by simp
  rcases HFACT.out with hcase | ⟨hne, hok, hrd, hwhich⟩
  · obtain ⟨e1, e2, e3⟩ := hcase
    try dsimp only at e1 e2 e3
    have g5 : (Qc == 4) = true := by simp [e3]
    have g6 : Qc = 4 := e3
    clear e1 e2 e3
    refine wp_region_quiet_below (by kernel_rfl) (by kernel_rfl) ?_
    repeat (go_big_quiet_step (first | exact cN _ _ | exact cI _ _ | exact cS _ _))
    refine wpQuiet_nil ?_
    intro _ hw'
    obtain ⟨⟨dq, osq⟩, hw''⟩ := hw'
    subst hw''
    have HD10 : Hid (Below w9.heap.size w9 (Go.Sort.grow (redrawn w9 dq) osq)) := below_regrown w9 dq osq
    generalize hw10 : Go.Sort.grow (redrawn w9 dq) osq = w10 at *
    clear hw10 n0 n1 m0 m1 y0 y1 cN cI cS
    have n0 := cell_regrown (N9.out.below HD10.out).c0
    have n1 := cell_regrown (N9.out.below HD10.out).c1
    have m0 := cell_regrown (M9.out.below HD10.out).c0
    have m1 := cell_regrown (M9.out.below HD10.out).c1
    have y0 := cell_regrown (Y.out.below HD10.out).c0
    have y1 := cell_regrown (Y.out.below HD10.out).c1
    have cN : ∀ (dd : Nat) (os : Array Obj), Calls Try.prog 28 #[.agg #[.slice A3 Qh.length c3, .slice K3 Ql.length d3], .agg #[.slice A5 Qh.length c5, .slice K5 Ql.length d5]] (Go.Sort.grow (redrawn w10 dd) os) fun e w'' => e = .returned (.bool true) ∧ ∃ p : Regrown, w'' = Go.Sort.grow (redrawn w10 p.d) p.os := fun dd os =>
      have hb := HD10.out.trans ((below_regrown w10 dd os).mono HD10.out.size)
      Calls.regrown_of (sameLocks_same A3 c3 Qh K3 d3 Ql A5 c5 K5 d5 _ ((NA9.out.below hb).more hb.size) LA2.out ((NK9.out.below hb).more hb.size) LB2.out ((MA9.out.below hb).more hb.size) ((MK9.out.below hb).more hb.size))
    have cI : ∀ (dd : Nat) (os : Array Obj), Calls Try.prog 33 #[.agg #[.slice A7 hy.length c7, .slice K7 ly.length d7]] (Go.Sort.grow (redrawn w10 dd) os) fun e w'' => e = .returned (.bool bq) ∧ ∃ p : Regrown, w'' = Go.Sort.grow (redrawn w10 p.d) p.os := fun dd os => by
      have hb := HD10.out.trans ((below_regrown w10 dd os).mono HD10.out.size)
      have := Calls.regrown_of (impl_LocksOk A7 c7 hy K7 d7 ly _ ((YA.out.below hb).more hb.size) HF7.out PA.out.1 PA.out.2 ((YK.out.below hb).more hb.size) HG7.out PK.out.1 PK.out.2)
      rwa [HBQ.out] at this
    have cS : ∀ (dd : Nat) (os : Array Obj), Calls Try.prog 30 #[.agg #[.slice A7 hy.length c7, .slice K7 ly.length d7]] (Go.Sort.grow (redrawn w10 dd) os) fun e w'' => e = .returned (.bool bq) ∧ ∃ p : Regrown, w'' = Go.Sort.grow (redrawn w10 p.d) p.os := fun dd os => by
      have hb := HD10.out.trans ((below_regrown w10 dd os).mono HD10.out.size)
      have := Calls.regrown_of (spec_LocksOk A7 c7 hy K7 d7 ly _ ((YA.out.below hb).more hb.size) HF7.out PA2.out ((YK.out.below hb).more hb.size) HG7.out PK2.out)
      rwa [HBQ.out] at this
    go_wp2_with fail
    refine wp_region_quiet_below (by kernel_rfl) (by kernel_rfl) ?_
    repeat (go_big_quiet_step (first | exact cN _ _ | exact cI _ _ | exact cS _ _))
    refine wpQuiet_nil ?_
    intro _ hw'
    obtain ⟨⟨dr, osr⟩, hw''⟩ := hw'
    subst hw''
    go_wp2_with fail
    go_ret
    exact ⟨rfl, HB9.out.trans ((HD10.out.trans ((below_regrown w10 dr osr).mono HD10.out.size)).mono HB9.out.size)⟩
  · try dsimp only at hne hok hrd hwhich
    have HOK := hid hok
    have HRD := hid hrd
    have HWH := hid hwhich
    have g5 : (Qc == 4) = false := by simp [hne]
    have g6 : ¬ Qc = 4 := hne
    clear hne hok hrd hwhich
    refine wp_region_quiet_below (by kernel_rfl) (by kernel_rfl) ?_
    repeat (go_big_quiet_step (first | exact cN _ _ | exact cI _ _ | exact cS _ _))
    refine wpQuiet_nil ?_
    intro _ hw'
    obtain ⟨⟨dq, osq⟩, hw''⟩ := hw'
    subst hw''
    have HD10 : Hid (Below w9.heap.size w9 (Go.Sort.grow (redrawn w9 dq) osq)) := below_regrown w9 dq osq
    generalize hw10 : Go.Sort.grow (redrawn w9 dq) osq = w10 at *
    clear hw10 n0 n1 m0 m1 y0 y1 cN cI cS M9 MA9 MK9 Y YA YK PA PK PA2 PK2 HF7 HG7 HBQ g1 g2 g3 g4
    have HFQ := hid (locks_fits HOK.out)
    have n0 := (N9.out.below HD10.out).c0
    have n1 := (N9.out.below HD10.out).c1
    go_upto_region 9 with fail
    go_cut [82] from 69 to 81 (fun sb wc => sb = .bool false ∧ Hid (Below w9.heap.size w9 wc))
    case first =>
      have g7 := HOK.out
      go_wp2_with fail
      refine (impl_LocksOk A3 c3 Qh K3 d3 Ql w10 ((NA9.out.below HD10.out).more HD10.out.size) HFQ.out.1 LA.out.1 LA.out.2 ((NK9.out.below HD10.out).more HD10.out.size) HFQ.out.2 LB.out.1 LB.out.2).mono ?_
      rintro e w11 ⟨rfl, hb11⟩
      have D11 := hid (HD10.out.trans (hb11.mono HD10.out.size))
      clear hb11 n0 n1
      have v0 := (V9.out.below D11.out).c0
      have v1 := (V9.out.below D11.out).c1
      go_wp2_with fail
      refine (impl_WaitsFor A1 c1 h K1 d1 l w11 ((RA9.out.below D11.out).more D11.out.size) HF.out CA.out.1 CA.out.2 ((RK9.out.below D11.out).more D11.out.size) HG.out CK.out.1 CK.out.2).mono ?_
      rintro e w12 ⟨A8, c8, rfl, hE, hb12⟩
      have D12 := hid (D11.out.trans (hb12.mono D11.out.size))
      have RE8 := hid hE.re
      have hlen8 : (waitsR h l).length ≤ 30000 := waitsR_len h l
      have HLEN8 := hid hlen8
      clear hE hb12 v0 v1 hlen8
      go_wp2_with fail
      refine (round_any A8 c8 (waitsR h l) w12 RE8.out HLEN8.out).mono ?_
      rintro e w13 ⟨rfl, hb13⟩
      have D13 := hid (D12.out.trans (hb13.mono D12.out.size))
      clear hb13
      have n0 := (N9.out.below D13.out).c0
      have n1 := (N9.out.below D13.out).c1
      cases hrl : roundL (waitsR h l)
      case true =>
        go_wp2_with fail
        go_meet
        case rel => exact ⟨rfl, D13.out⟩
      case false =>
        have g8 := HRD.out hrl
        go_wp2_with fail
        refine (impl_WaitsFor A3 c3 Qh K3 d3 Ql w13 ((NA9.out.below D13.out).more D13.out.size) HFQ.out.1 LA.out.1 LA.out.2 ((NK9.out.below D13.out).more D13.out.size) HFQ.out.2 LB.out.1 LB.out.2).mono ?_
        rintro e w14 ⟨A9, c9, rfl, hE, hb14⟩
        have D14 := hid (D13.out.trans (hb14.mono D13.out.size))
        have RE9 := hid hE.re
        have HLEN9 : Hid ((waitsR Qh Ql).length ≤ 30000) := waitsR_len Qh Ql
        clear hE hb14 n0 n1
        go_wp2_with fail
        refine (round_any A9 c9 (waitsR Qh Ql) w14 RE9.out HLEN9.out).mono ?_
        rintro e w15 ⟨rfl, hb15⟩
        have D15 := hid (D14.out.trans (hb15.mono D14.out.size))
        clear hb15
        have g9 : roundL (waitsR Qh Ql) = false := g8
        clear g8
        go_wp2_with fail
        go_meet
        case rel => exact ⟨rfl, D15.out⟩
    obtain ⟨wd, rfl⟩ : ∃ wd, wd = wc := ⟨_, rfl⟩
    obtain ⟨rfl, HD⟩ := hcut
    clear n0 n1
    have ND := hid (N9.out.below HD.out)
    have VD := hid (V9.out.below HD.out)
    have XD := hid (X9.out.below HD.out)
    have NAD := hid ((NA9.out.below HD.out).more HD.out.size)
    have NKD := hid ((NK9.out.below HD.out).more HD.out.size)
    have RAD := hid ((RA9.out.below HD.out).more HD.out.size)
    have RKD := hid ((RK9.out.below HD.out).more HD.out.size)
    rcases HWH.out with e | ⟨m, e⟩ | ⟨g, e, hz⟩
    · obtain ⟨rfl, rfl, rfl⟩ : Qh = h ∧ Ql = l ∧ Qc = 3 := by simpa using e
      clear e
      have n0 := ND.out.c0
      have n1 := ND.out.c1
      have v0 := VD.out.c0
      have v1 := VD.out.c1
      go_wp2_with fail
      refine (sameLocks_same A3 c3 Qh K3 d3 Ql A1 c1 K1 d1 wd NAD.out LA2.out NKD.out LB2.out RAD.out RKD.out).mono ?_
      rintro e we ⟨rfl, hbe⟩
      have HE := hid (HB9.out.trans ((HD.out.trans (hbe.mono HD.out.size)).mono HB9.out.size))
      clear hbe
      go_wp2_with fail
      go_ret
      exact ⟨rfl, HE.out⟩
    · obtain ⟨rfl, rfl, rfl⟩ : Qh = h ∧ Ql = l ++ [(x.1, x.2.1, m)] ∧ Qc = 2 := by simpa using e
      clear e
      have n0 := ND.out.c0
      have n1 := ND.out.c1
      go_wp2_with fail
      clear n0 n1
      have n0 := cell_regrown ND.out.c0
      have n1 := cell_regrown ND.out.c1
      have v0 := cell_regrown VD.out.c0
      have v1 := cell_regrown VD.out.c1
      have x0 := cell_regrown XD.out.c0
      have x1 := cell_regrown XD.out.c1
      obtain ⟨nb, no, hK, hnb, hd1, hd2, hd3⟩ := NKD.out.at_ (k := l.length) (by simp)
      subst hK
      simp only [List.getElem_append_right (Nat.le_refl _), Nat.sub_self, List.getElem_cons_zero] at hd1 hd2
      have d1' := cell_regrown hd1
      have d2' := cell_regrown hd2
      have hlb := LB.out.1
      rw [List.length_append, List.length_singleton] at hlb
      have i1 : (0 : Int) ≤ (l.length : Int) := by omega
      have i2 : (l.length : Int) < (l.length : Int) + 1 := by omega
      have i3 : (l.length : Int) ≤ (d3 : Int) := by omega
      have i4 : l.length ≤ d3 := by omega
      have hcp := LB.out.2
      unfold maxLen at hcp
      have i5 : (l.length : Int) + 1 ≤ (d3 : Int) := by omega
      have i6 : l.length + 1 ≤ d3 := by omega
      have i7 : ¬ d3 = 0 := by omega
      have i8 : (0 : Int) ≤ (d3 : Int) := by omega
      have g7 : ((l.length : Int) == (l.length : Int)) = true := by simp
      have g8 : (x.1 == x.1) = true := by simp
      have g9 := eqS_true (rfl : x.2.1 = x.2.1)
      have cH : ∀ (dd : Nat) (os : Array Obj), Calls Try.prog 42 #[.slice A3 Qh.length c3, .slice A1 Qh.length c1] (Go.Sort.grow (redrawn wd dd) os) fun e w'' => e = .returned (.bool true) ∧ ∃ p : Regrown, w'' = Go.Sort.grow (redrawn wd p.d) p.os := fun dd os =>
        have hb := below_regrown wd dd os
        Calls.regrown_of (sameHolds_same A3 A1 c3 c1 Qh _ ((NAD.out.below hb).more hb.size) ((RAD.out.below hb).more hb.size) LA2.out)
      have cL : ∀ (dd : Nat) (os : Array Obj), Calls Try.prog 42 #[.slice (some ⟨nb, no, none⟩) l.length d3, .slice K1 l.length d1] (Go.Sort.grow (redrawn wd dd) os) fun e w'' => e = .returned (.bool true) ∧ ∃ p : Regrown, w'' = Go.Sort.grow (redrawn wd p.d) p.os := fun dd os =>
        have hb := below_regrown wd dd os
        have ht : RH (Go.Sort.grow (redrawn wd dd) os) (Go.Sort.grow (redrawn wd dd) os).heap.size (some ⟨nb, no, none⟩) l := by
          have := ((NKD.out.below hb).more hb.size).take (n := l.length)
          rwa [List.take_left] at this
        Calls.regrown_of (sameHolds_same (some ⟨nb, no, none⟩) K1 d3 d1 l _ ht ((RKD.out.below hb).more hb.size) HL.out)
      clear hd1 hd2 hd3
      refine wp_region_quiet_below (by kernel_rfl) (by kernel_rfl) ?_
      repeat (go_big_quiet_step (first | with_reducible exact cH _ _ | with_reducible exact cL _ _))
      refine wpQuiet_nil ?_
      intro _ hw'
      obtain ⟨⟨dr, osr⟩, hw''⟩ := hw'
      subst hw''
      go_wp2_with fail
      go_ret
      exact ⟨rfl, HB9.out.trans ((HD.out.trans ((below_regrown wd dr osr).mono HD.out.size)).mono HB9.out.size)⟩
    · obtain ⟨rfl, rfl, rfl⟩ : Qh = g ∧ Ql = l ∧ Qc = 1 := by simpa using e
      clear e
      have HZ := hid hz
      clear hz
      have hq1 : Qh.length ≤ 1000 := HLEN.out.1
      go_wp2_with fail
      have n0 := ND.out.c0
      have n1 := ND.out.c1
      go_loopw [11, 12] (fun sv iv wr => ∃ (i : Nat) (st : Bool), i ≤ Qh.length ∧ iv = .int .i64 (i : Int) ∧ sv = .bool st ∧ Hid (st = ((Qh.take i).any fun z => decide (z.1 = x.1) && (decide (z.2.1 = x.2.1) && decide (bothF z.2.2 x.2.2 = z.2.2)))) ∧ Hid (Below wd.heap.size wd wr)) (fun _ iv _ => Qh.length - (intOf iv).toNat)
      case atStart => exact ⟨0, false, Nat.zero_le _, rfl, rfl, rfl, Below.refl _ _⟩
      case round =>
        obtain ⟨i, st, hi, rfl, rfl, HST, HB⟩ := hrel
        clear n0 n1
        have n0 := (ND.out.below HB.out).c0
        have n1 := (ND.out.below HB.out).c1
        by_cases hlt : i < Qh.length
        · obtain ⟨nb, no, hK, hnb, hd1, hd2, hd3⟩ := ((NAD.out.below HB.out).more HB.out.size).at_ hlt
          subst hK
          have i1 : (0 : Int) ≤ (i : Int) := by omega
          have i2 : (i : Int) < (Qh.length : Int) := by omega
          have HTS := hid (any_take_succ hlt (fun z : Int × ByteArray × Int => decide (z.1 = x.1) && (decide (z.2.1 = x.2.1) && decide (bothF z.2.2 x.2.2 = z.2.2))))
          go_wp2_with fail
          clear n0 n1
          have n0 := cell_regrown (ND.out.below HB.out).c0
          have n1 := cell_regrown (ND.out.below HB.out).c1
          have x0 := cell_regrown (XD.out.below HB.out).c0
          have x1 := cell_regrown (XD.out.below HB.out).c1
          have x2 := cell_regrown (XD.out.below HB.out).c2
          have d1' := cell_regrown hd1
          have d2' := cell_regrown hd2
          have d3' := cell_regrown hd3
          have cB : ∀ (dd : Nat) (os : Array Obj), Calls Try.prog 43 #[.int .i64 Qh[i].2.2, .int .i64 x.2.2] (Go.Sort.grow (redrawn wr dd) os) fun e w'' => e = .returned (.int .i64 (bothF Qh[i].2.2 x.2.2)) ∧ ∃ p : Regrown, w'' = Go.Sort.grow (redrawn wr p.d) p.os := fun dd os => Calls.regrown_of (impl_Both Qh[i].2.2 x.2.2 _)
          clear hd1 hd2 hd3
          have key : ∀ (sb : Bool), sb = (st || (decide (Qh[i].1 = x.1) && (decide (Qh[i].2.1 = x.2.1) && decide (bothF Qh[i].2.2 x.2.2 = Qh[i].2.2)))) → sb = ((Qh.take (i + 1)).any fun z => decide (z.1 = x.1) && (decide (z.2.1 = x.2.1) && decide (bothF z.2.2 x.2.2 = z.2.2))) := fun sb e => by rw [HTS.out, ← HST.out]; exact e
          have KEY := hid key
          clear key
          cases st
          case true =>
            refine wp_region_quiet_below (by kernel_rfl) (by kernel_rfl) ?_
            repeat (go_big_quiet_step (first | exact cB _ _))
            refine wpQuiet_nil ?_
            intro _ hw'
            obtain ⟨⟨dr, osr⟩, hw''⟩ := hw'
            subst hw''
            go_wp2_with fail
            go_roundw
            case rel => exact ⟨i + 1, _, by omega, by go_num, rfl, KEY.out _ rfl, HB.out.trans ((below_regrown wr dr osr).mono HB.out.size)⟩
            case measure => simp [intOf]; omega
          case false =>
            by_cases h1 : Qh[i].1 = x.1
            case neg =>
              have g1 := eqI_false h1
              have HX := hid (KEY.out false (by simp [h1]))
              clear h1
              refine wp_region_quiet_below (by kernel_rfl) (by kernel_rfl) ?_
              repeat (go_big_quiet_step (first | exact cB _ _))
              refine wpQuiet_nil ?_
              intro _ hw'
              obtain ⟨⟨dr, osr⟩, hw''⟩ := hw'
              subst hw''
              go_wp2_with fail
              go_roundw
              case rel => exact ⟨i + 1, _, by omega, by go_num, rfl, HX.out, HB.out.trans ((below_regrown wr dr osr).mono HB.out.size)⟩
              case measure => simp [intOf]; omega
            case pos =>
              have g1 := eqI_true h1
              by_cases h2 : Qh[i].2.1 = x.2.1
              case neg =>
                have g2 := eqS_false h2
                have HX := hid (KEY.out false (by simp [h2]))
                clear h1 h2
                refine wp_region_quiet_below (by kernel_rfl) (by kernel_rfl) ?_
                repeat (go_big_quiet_step (first | exact cB _ _))
                refine wpQuiet_nil ?_
                intro _ hw'
                obtain ⟨⟨dr, osr⟩, hw''⟩ := hw'
                subst hw''
                go_wp2_with fail
                go_roundw
                case rel => exact ⟨i + 1, _, by omega, by go_num, rfl, HX.out, HB.out.trans ((below_regrown wr dr osr).mono HB.out.size)⟩
                case measure => simp [intOf]; omega
              case pos =>
                have g2 := eqS_true h2
                have HX := hid (KEY.out (bothF Qh[i].2.2 x.2.2 == Qh[i].2.2) (by rw [show (bothF Qh[i].2.2 x.2.2 == Qh[i].2.2) = decide (bothF Qh[i].2.2 x.2.2 = Qh[i].2.2) from rfl]; simp [h1, h2]))
                clear h1 h2
                refine wp_region_quiet_below (by kernel_rfl) (by kernel_rfl) ?_
                repeat (go_big_quiet_step (first | exact cB _ _))
                refine wpQuiet_nil ?_
                intro _ hw'
                obtain ⟨⟨dr, osr⟩, hw''⟩ := hw'
                subst hw''
                go_wp2_with fail
                go_roundw
                case rel => exact ⟨i + 1, _, by omega, by go_num, rfl, HX.out, HB.out.trans ((below_regrown wr dr osr).mono HB.out.size)⟩
                case measure => simp [intOf]; omega
        · obtain rfl : i = Qh.length := by omega
          have hst : st = true := by
            rw [HST.out, List.take_length]
            obtain ⟨z, hz, z1, z2, z3⟩ := HZ.out
            exact List.any_eq_true.2 ⟨z, hz, by simp [z1, z2, z3]⟩
          subst hst
          have v0 := (VD.out.below HB.out).c0
          have v1 := (VD.out.below HB.out).c1
          go_wp2_with fail
          refine (sameHolds_same K3 K1 d3 d1 Ql wr ((NKD.out.below HB.out).more HB.out.size) ((RKD.out.below HB.out).more HB.out.size) HL.out).mono ?_
          rintro e we ⟨rfl, hbe⟩
          have HE := hid (HB9.out.trans ((HD.out.trans ((HB.out.trans (hbe.mono HB.out.size)).mono HD.out.size)).mono HB9.out.size))
          clear hbe
          go_wp2_with fail
          go_ret
          exact ⟨rfl, HE.out⟩
end Go.Proofs.Ytjdmaoegfpgfjaa
