/-
  FnExactGive answers true at all bits and ids, and its arguments read as they did. No condition.
-/
import Derived.Test.YtaiehccpefjbfaaGiveS
import Derived.Test.YtaiehccpefjbfaaBitMarks
import Derived.Test.YtaiehccpefjbfaaLawKit
import Derived.Test.YtaiehccpefjbfaaPost
import Derived.Test.YtaiehccpefjbfaaOpen
namespace Go.Proofs.Ytaiehccpefjbfaa
open Go.ChangeShapes Go.WideShapes Go.ChangeAt Go.RowKit

theorem OwnB.kept_lo {w w' : World} {B c m c5 : Nat} {A A5 : Option Addr} {xs : List Bool} (h : OwnB w B A c xs) (hg : w.grownBy w' (Value.ownBlock (.slice A5 m c5))) (hlt : ∀ k, Value.ownBlock (.slice A5 m c5) = some k → k < B) : OwnB w' B A c xs := by
  refine h.kept hg ?_
  rcases h.2 with ⟨hv, _⟩ | ⟨g2, cap, cur, hv, hb, _⟩
  · left
    rw [hv]; rfl
  · right
    rw [hv]
    intro e
    have := hlt g2 e.symm
    omega
theorem Row2.kept_lo {w w' : World} {g m c5 : Nat} {A5 : Option Addr} {t : TypeId} {a b : Value} (h : Row2 w g t a b) (hg : w.grownBy w' (Value.ownBlock (.slice A5 m c5))) (hlt : ∀ k, Value.ownBlock (.slice A5 m c5) = some k → k ≠ g) : Row2 w' g t a b := by
  refine h.kept hg (.inr ?_)
  intro e
  exact hlt g e.symm rfl

set_option maxHeartbeats 16000000 in
set_option maxRecDepth 100000 in
theorem give_walk (n : Int) (A : Option Addr) (c : Nat) (xs : List Bool) (id : Int) (w : World) (hr : RB w w.heap.size A xs) (hn : xs.length ≤ maxLen) (rn : Int) (rl : List Bool) (rb : Bool) (hl : rl.length ≤ 1048577)
    (hS : ∀ A c W, RB W W.heap.size A xs → Calls Try.prog 31 #[.agg #[.int .i64 n, .slice A xs.length c], .int .i64 id] W (MadeBB W rn rl rb))
    (hI : ∀ A c W, RB W W.heap.size A xs → Calls Try.prog 32 #[.agg #[.int .i64 n, .slice A xs.length c], .int .i64 id] W (MadeBB W rn rl rb)) :
    Calls Try.prog 7 #[.agg #[.int .i64 n, .slice A xs.length c], .int .i64 id] w fun e w' => e = .returned (.bool true) ∧ Below w.heap.size w w' := by
  have hb0 : Below w.heap.size w (w.alloc (.cells #[.int .i64 n, .slice A xs.length c] 51)) := (Below.refl _ _).alloc (Nat.le_refl _) _
  have hx0 := Row2.lit w 51 (.int .i64 n) (.slice A xs.length c)
  have HB0 := hid hb0
  have X := hid hx0
  have HR := hid ((hr.below hb0).more hb0.size)
  have HN := hid hn
  have HS := hid hS
  have HI := hid hI
  have HLR := hid hl
  clear hr hn hb0 hx0 hS hI hl
  go_enter Try.func7, Try.ntmps7
  go_wp2_with fail
  generalize hgq : w.alloc (.cells #[.int .i64 n, .slice A xs.length c] 51) = w0 at *
  clear hgq
  refine (szBits_any n A c xs 1048576 _ HN.out (by omega) (by omega)).mono ?_
  rintro e w1 ⟨⟨r, rfl, _, _, hr3⟩, hb⟩
  have C0_1 := hid (hb)
  have hs1 : w0.heap.size ≤ w1.heap.size := hb.size
  have HZ := hid hr3
  clear hr3 hb
  by_cases hneg : r < 0
  · have b0_0 := Row2.c0 (X.out.below C0_1.out)
    have b0_1 := Row2.c1 (X.out.below C0_1.out)
    go_wp2_with fail
    go_ret
    exact ⟨rfl, HB0.out.trans (C0_1.out.mono HB0.out.size)⟩
  have hxl : xs.length ≤ 1048576 := by have := HZ.out (by omega); omega
  have b0_0 := Row2.c0 (X.out.below C0_1.out)
  have b0_1 := Row2.c1 (X.out.below C0_1.out)
  go_wp2_with fail
  clear b0_0 b0_1
  refine (toBits_any n A c xs _ ((HR.out.below C0_1.out).more C0_1.out.size) hxl).mono ?_
  rintro e w2 ⟨A2, c2, rfl, ho, hb⟩
  have C0_2 := hid (C0_1.out.trans (hb.mono C0_1.out.size))
  have hs2 : w1.heap.size ≤ w2.heap.size := hb.size
  have P2 := hid ho
  clear ho hb
  have b0_0 := Row2.c0 (X.out.below C0_2.out)
  have b0_1 := Row2.c1 (X.out.below C0_2.out)
  go_wp2_with fail
  clear b0_0 b0_1
  refine (HS.out A2 c2 _ P2.out.rb).mono ?_
  rintro e w3 ⟨A3, c3, rfl, ho, hb⟩
  have C0_3 := hid (C0_2.out.trans (hb.mono C0_2.out.size))
  have C2_3 := hid (hb)
  have hs3 : w2.heap.size ≤ w3.heap.size := hb.size
  have P3 := hid ho
  clear ho hb
  have hbq : Below w3.heap.size w3 (w3.alloc (.cells #[.int .i64 rn, .slice A3 rl.length c3] 54)) := (Below.refl _ _).alloc (Nat.le_refl _) _
  have hyq := Row2.lit w3 54 (.int .i64 rn) (.slice A3 rl.length c3)
  have b0_0 := Row2.c0 (X.out.below C0_3.out)
  have b0_1 := Row2.c1 (X.out.below C0_3.out)
  have d0_0 := Row2.c0 (Row2.below (X.out.below C0_3.out) hbq)
  have d0_1 := Row2.c1 (Row2.below (X.out.below C0_3.out) hbq)
  go_wp2_with fail
  clear b0_0 b0_1
  clear d0_0 d0_1
  generalize hgq : w3.alloc (.cells #[.int .i64 rn, .slice A3 rl.length c3] 54) = w4 at *
  clear hgq
  have C0_4 := hid (C0_3.out.trans (hbq.mono C0_3.out.size))
  have C2_4 := hid (C2_3.out.trans (hbq.mono C2_3.out.size))
  have C3_4 := hid (hbq)
  have hs4 : w3.heap.size ≤ w4.heap.size := hbq.size
  have Z := hid hyq
  clear hyq hbq
  refine (toBits_any n A c xs _ ((HR.out.below C0_4.out).more C0_4.out.size) hxl).mono ?_
  rintro e w5 ⟨A5, c5, rfl, ho, hb⟩
  have C0_5 := hid (C0_4.out.trans (hb.mono C0_4.out.size))
  have C2_5 := hid (C2_4.out.trans (hb.mono C2_4.out.size))
  have C3_5 := hid (C3_4.out.trans (hb.mono C3_4.out.size))
  have C4_5 := hid (hb)
  have hs5 : w4.heap.size ≤ w5.heap.size := hb.size
  have P5 := hid ho
  clear ho hb
  have hbq : Below w5.heap.size w5 (w5.alloc (.cells #[.int .i64 n, .slice A5 xs.length c5] 54)) := (Below.refl _ _).alloc (Nat.le_refl _) _
  have hyq := Row2.lit w5 54 (.int .i64 n) (.slice A5 xs.length c5)
  have b0_0 := Row2.c0 (X.out.below C0_5.out)
  have b0_1 := Row2.c1 (X.out.below C0_5.out)
  have b1_0 := Row2.c0 (Z.out.below C4_5.out)
  have b1_1 := Row2.c1 (Z.out.below C4_5.out)
  have d0_0 := Row2.c0 (Row2.below (X.out.below C0_5.out) hbq)
  have d0_1 := Row2.c1 (Row2.below (X.out.below C0_5.out) hbq)
  have d1_0 := Row2.c0 (Row2.below (Z.out.below C4_5.out) hbq)
  have d1_1 := Row2.c1 (Row2.below (Z.out.below C4_5.out) hbq)
  go_wp2_with fail
  clear b0_0 b0_1 b1_0 b1_1
  clear d0_0 d0_1 d1_0 d1_1
  generalize hgq : w5.alloc (.cells #[.int .i64 n, .slice A5 xs.length c5] 54) = w6 at *
  clear hgq
  have C0_6 := hid (C0_5.out.trans (hbq.mono C0_5.out.size))
  have C2_6 := hid (C2_5.out.trans (hbq.mono C2_5.out.size))
  have C3_6 := hid (C3_5.out.trans (hbq.mono C3_5.out.size))
  have C4_6 := hid (C4_5.out.trans (hbq.mono C4_5.out.size))
  have C5_6 := hid (hbq)
  have hs6 : w5.heap.size ≤ w6.heap.size := hbq.size
  have Y := hid hyq
  clear hyq hbq
  refine (HI.out A5 c5 _ (P5.out.below C5_6.out).rb).mono ?_
  rintro e w7 ⟨A7, c7, rfl, ho, hb⟩
  have C0_7 := hid (C0_6.out.trans (hb.mono C0_6.out.size))
  have C2_7 := hid (C2_6.out.trans (hb.mono C2_6.out.size))
  have C3_7 := hid (C3_6.out.trans (hb.mono C3_6.out.size))
  have C4_7 := hid (C4_6.out.trans (hb.mono C4_6.out.size))
  have C5_7 := hid (C5_6.out.trans (hb.mono C5_6.out.size))
  have C6_7 := hid (hb)
  have hs7 : w6.heap.size ≤ w7.heap.size := hb.size
  have P7 := hid ho
  clear ho hb
  have hbq : Below w7.heap.size w7 (w7.alloc (.cells #[.int .i64 rn, .slice A7 rl.length c7] 54)) := (Below.refl _ _).alloc (Nat.le_refl _) _
  have hyq := Row2.lit w7 54 (.int .i64 rn) (.slice A7 rl.length c7)
  have b0_0 := Row2.c0 (X.out.below C0_7.out)
  have b0_1 := Row2.c1 (X.out.below C0_7.out)
  have b1_0 := Row2.c0 (Z.out.below C4_7.out)
  have b1_1 := Row2.c1 (Z.out.below C4_7.out)
  have b2_0 := Row2.c0 (Y.out.below C6_7.out)
  have b2_1 := Row2.c1 (Y.out.below C6_7.out)
  have d0_0 := Row2.c0 (Row2.below (X.out.below C0_7.out) hbq)
  have d0_1 := Row2.c1 (Row2.below (X.out.below C0_7.out) hbq)
  have d1_0 := Row2.c0 (Row2.below (Z.out.below C4_7.out) hbq)
  have d1_1 := Row2.c1 (Row2.below (Z.out.below C4_7.out) hbq)
  have d2_0 := Row2.c0 (Row2.below (Y.out.below C6_7.out) hbq)
  have d2_1 := Row2.c1 (Row2.below (Y.out.below C6_7.out) hbq)
  go_wp2_with fail
  clear b0_0 b0_1 b1_0 b1_1 b2_0 b2_1
  clear d0_0 d0_1 d1_0 d1_1 d2_0 d2_1
  generalize hgq : w7.alloc (.cells #[.int .i64 rn, .slice A7 rl.length c7] 54) = w8 at *
  clear hgq
  have C0_8 := hid (C0_7.out.trans (hbq.mono C0_7.out.size))
  have C2_8 := hid (C2_7.out.trans (hbq.mono C2_7.out.size))
  have C3_8 := hid (C3_7.out.trans (hbq.mono C3_7.out.size))
  have C4_8 := hid (C4_7.out.trans (hbq.mono C4_7.out.size))
  have C5_8 := hid (C5_7.out.trans (hbq.mono C5_7.out.size))
  have C6_8 := hid (C6_7.out.trans (hbq.mono C6_7.out.size))
  have C7_8 := hid (hbq)
  have hs8 : w7.heap.size ≤ w8.heap.size := hbq.size
  have GB := hid hyq
  clear hyq hbq
  have hcc : (rb != rb) = false := by simp
  refine (eqBits_same rn A7 c7 rl A3 c3 _ (P7.out.below C7_8.out).rb (Nat.le_trans HLR.out (by unfold maxLen; omega)) (P3.out.below C3_8.out).rb).mono ?_
  rintro e w9 ⟨rfl, hb⟩
  have C0_9 := hid (C0_8.out.trans (hb.mono C0_8.out.size))
  have C2_9 := hid (C2_8.out.trans (hb.mono C2_8.out.size))
  have C3_9 := hid (C3_8.out.trans (hb.mono C3_8.out.size))
  have C4_9 := hid (C4_8.out.trans (hb.mono C4_8.out.size))
  have C5_9 := hid (C5_8.out.trans (hb.mono C5_8.out.size))
  have C6_9 := hid (C6_8.out.trans (hb.mono C6_8.out.size))
  have C7_9 := hid (C7_8.out.trans (hb.mono C7_8.out.size))
  have C8_9 := hid (hb)
  have hs9 : w8.heap.size ≤ w9.heap.size := hb.size
  clear hb
  have X6 := hid (X.out.below C0_9.out)
  have Y6 := hid (Y.out.below C6_9.out)
  have HB6 := hid C0_9.out
  have HP6 := hid (P5.out.below C5_9.out)
  have b0_0 := Row2.c0 (X.out.below C0_9.out)
  have b0_1 := Row2.c1 (X.out.below C0_9.out)
  have b1_0 := Row2.c0 (Z.out.below C4_9.out)
  have b1_1 := Row2.c1 (Z.out.below C4_9.out)
  have b2_0 := Row2.c0 (Y.out.below C6_9.out)
  have b2_1 := Row2.c1 (Y.out.below C6_9.out)
  have b3_0 := Row2.c0 (GB.out.below C8_9.out)
  have b3_1 := Row2.c1 (GB.out.below C8_9.out)
  go_wp2_with fail
  go_region_held3 (fun w' => w'.cell? ⟨w.heap.size, 0, none⟩ = some (.int .i64 n) ∧ w'.cell? ⟨w.heap.size, 1, none⟩ = some (.slice A xs.length c) ∧
      w'.cell? ⟨w5.heap.size, 0, none⟩ = some (.int .i64 n) ∧ w'.cell? ⟨w5.heap.size, 1, none⟩ = some (.slice A5 xs.length c5)) (go_keep)
    (first
      | (go_at_call 26; refine (toBits_any n A c xs _ ((HR.out.below HB6.out.drew).more HB6.out.drew.size) hxl).mono ?_; rintro e w109 ⟨Aq, cq, rfl, hp7, hb7⟩; have X7 := hid ((X6.out.below (Below.refl _ _).drew).below hb7); have Y7 := hid ((Y6.out.below (Below.refl _ _).drew).below hb7); have HP7 := hid hp7; have HQ7 := hid ((HP6.out.below (Below.refl _ _).drew).below hb7); have hbr := (Below.refl w9.heap.size w9).drew.trans hb7; have HB7 := hid hbr; clear hp7 hb7 hbr; have x70 := X7.out.c0; have x71 := X7.out.c1; have y70 := Y7.out.c0; have y71 := Y7.out.c1)
      | (go_at_call 28; refine (eqBits_same n A5 c5 xs Aq cq _ HQ7.out.rb HN.out HP7.out.rb).mono ?_; rintro e w10 ⟨rfl, hb8⟩; have X8 := hid (X7.out.below hb8); have Y8 := hid (Y7.out.below hb8); have HB8 := hid (HB7.out.trans (hb8.mono HB7.out.size)); clear hb8; have x80 := X8.out.c0; have x81 := X8.out.c1; have y80 := Y8.out.c0; have y81 := Y8.out.c1)
      | (go_at_call 28; refine (eqBits_same n A5 c5 xs Aq cq _ (HQ7.out.below (Below.refl _ _).drew).rb HN.out (HP7.out.below (Below.refl _ _).drew).rb).mono ?_; rintro e w10 ⟨rfl, hb8⟩; have X8 := hid ((X7.out.below (Below.refl _ _).drew).below hb8); have Y8 := hid ((Y7.out.below (Below.refl _ _).drew).below hb8); have HB8 := hid (HB7.out.drew.trans (hb8.mono HB7.out.size)); clear hb8; have x80 := X8.out.c0; have x81 := X8.out.c1; have y80 := Y8.out.c0; have y81 := Y8.out.c1))
  have hbr := HB8.out
  clear x70 x71 y70 y71 x80 x81 y80 y81
  clear b0_0 b0_1 b1_0 b1_1 b2_0 b2_1 b3_0 b3_1
  have C0_10 := hid (C0_9.out.trans (hbr.mono C0_9.out.size))
  have C2_10 := hid (C2_9.out.trans (hbr.mono C2_9.out.size))
  have C3_10 := hid (C3_9.out.trans (hbr.mono C3_9.out.size))
  have C4_10 := hid (C4_9.out.trans (hbr.mono C4_9.out.size))
  have C5_10 := hid (C5_9.out.trans (hbr.mono C5_9.out.size))
  have C6_10 := hid (C6_9.out.trans (hbr.mono C6_9.out.size))
  have C7_10 := hid (C7_9.out.trans (hbr.mono C7_9.out.size))
  have C8_10 := hid (C8_9.out.trans (hbr.mono C8_9.out.size))
  have hs10 : w9.heap.size ≤ w10.heap.size := hbr.size
  clear hbr
  have XA := hid (fun q (hq : Value.ownBlock (.slice A5 xs.length c5) = some q) => World.ownsRow.lt P5.out q hq)
  have b0_0 := Row2.c0 (X.out.below C0_10.out)
  have b0_1 := Row2.c1 (X.out.below C0_10.out)
  have b1_0 := Row2.c0 (Z.out.below C4_10.out)
  have b1_1 := Row2.c1 (Z.out.below C4_10.out)
  have b2_0 := Row2.c0 (Y.out.below C6_10.out)
  have b2_1 := Row2.c1 (Y.out.below C6_10.out)
  have b3_0 := Row2.c0 (GB.out.below C8_10.out)
  have b3_1 := Row2.c1 (GB.out.below C8_10.out)
  go_wp2_with fail
  clear b0_0 b0_1 b1_0 b1_1 b2_0 b2_1 b3_0 b3_1
  refine (markBits_any n w4.heap.size A5 c5 xs 1 _ (P5.out.below C5_10.out) (by omega) (by omega)).mono ?_
  rintro e w11 ⟨rfl, _, hg⟩
  have N11 := hid (OwnB.kept_lo (P7.out.below C7_10.out) hg (fun q hq => by have := XA.out q hq; omega))
  have NG11 := hid (Row2.kept_lo (GB.out.below C8_10.out) hg (fun q hq e => by have := XA.out q hq; omega))
  have GA := hid (fun q (hq : Value.ownBlock (.slice A7 rl.length c7) = some q) => World.ownsRow.lt P7.out q hq)
  have hs11 : w10.heap.size ≤ w11.heap.size := hg.size
  have C0_11 := hid (Below.grown C0_10.out hg C0_10.out.size (fun q hq => by have := XA.out q hq; omega))
  have C3_11 := hid (Below.grown C3_10.out hg C3_10.out.size (fun q hq => by have := XA.out q hq; omega))
  have C4_11 := hid (Below.grown C4_10.out hg C4_10.out.size (fun q hq => by have := XA.out q hq; omega))
  clear hg
  have qk : ¬ ((1 + xs.length : Nat) : Int) < 0 := by omega
  have b0_0 := Row2.c0 (X.out.below C0_11.out)
  have b0_1 := Row2.c1 (X.out.below C0_11.out)
  have b1_0 := Row2.c0 (Z.out.below C4_11.out)
  have b1_1 := Row2.c1 (Z.out.below C4_11.out)
  have b2_0 := Row2.c0 NG11.out
  have b2_1 := Row2.c1 NG11.out
  go_wp2_with fail
  clear b0_0 b0_1 b1_0 b1_1 b2_0 b2_1
  refine (eqBits_same rn A7 c7 rl A3 c3 _ N11.out.rb (Nat.le_trans HLR.out (by unfold maxLen; omega)) (P3.out.below C3_11.out).rb).mono ?_
  rintro e w12 ⟨rfl, hb⟩
  have C0_12 := hid (C0_11.out.trans (hb.mono C0_11.out.size))
  have C3_12 := hid (C3_11.out.trans (hb.mono C3_11.out.size))
  have C4_12 := hid (C4_11.out.trans (hb.mono C4_11.out.size))
  have C11_12 := hid (hb)
  have hs12 : w11.heap.size ≤ w12.heap.size := hb.size
  clear hb
  have b0_0 := Row2.c0 (X.out.below C0_12.out)
  have b0_1 := Row2.c1 (X.out.below C0_12.out)
  have b1_0 := Row2.c0 (Z.out.below C4_12.out)
  have b1_1 := Row2.c1 (Z.out.below C4_12.out)
  have b2_0 := Row2.c0 (NG11.out.below C11_12.out)
  have b2_1 := Row2.c1 (NG11.out.below C11_12.out)
  go_wp2_with fail
  clear b0_0 b0_1 b1_0 b1_1 b2_0 b2_1
  refine (markBits_any rn w6.heap.size A7 c7 rl 1 _ (N11.out.below C11_12.out) (Nat.le_trans HLR.out (by omega)) (by omega)).mono ?_
  rintro e w13 ⟨rfl, ho, hg⟩
  have M13 := hid (RB.of_own ho)
  have MG13 := hid (Row2.kept_lo (NG11.out.below C11_12.out) hg (fun q hq e => by have := GA.out q hq; omega))
  have hs13 : w12.heap.size ≤ w13.heap.size := hg.size
  have C0_13 := hid (Below.grown C0_12.out hg C0_12.out.size (fun q hq => by have := GA.out q hq; omega))
  have C3_13 := hid (Below.grown C3_12.out hg C3_12.out.size (fun q hq => by have := GA.out q hq; omega))
  have C4_13 := hid (Below.grown C4_12.out hg C4_12.out.size (fun q hq => by have := GA.out q hq; omega))
  clear hg ho
  have q1 : ¬ ((1 + rl.length : Nat) : Int) < 0 := by omega
  have q3 : (((1 + rl.length : Nat) : Int) != ((1 + rl.length : Nat) : Int)) = false := by simp
  have b0_0 := Row2.c0 (X.out.below C0_13.out)
  have b0_1 := Row2.c1 (X.out.below C0_13.out)
  have b1_0 := Row2.c0 (Z.out.below C4_13.out)
  have b1_1 := Row2.c1 (Z.out.below C4_13.out)
  have b2_0 := Row2.c0 MG13.out
  have b2_1 := Row2.c1 MG13.out
  go_wp2_with fail
  clear b0_0 b0_1 b1_0 b1_1 b2_0 b2_1
  refine (heldBits_any rn A7 c7 rl.length 1 _ M13.out (Nat.le_trans HLR.out (by omega)) (by omega)).mono ?_
  rintro e w14 ⟨rfl, hb⟩
  have C0_14 := hid (C0_13.out.trans (hb.mono C0_13.out.size))
  have C3_14 := hid (C3_13.out.trans (hb.mono C3_13.out.size))
  have C4_14 := hid (C4_13.out.trans (hb.mono C4_13.out.size))
  have C13_14 := hid (hb)
  have hs14 : w13.heap.size ≤ w14.heap.size := hb.size
  clear hb
  have b0_0 := Row2.c0 (X.out.below C0_14.out)
  have b0_1 := Row2.c1 (X.out.below C0_14.out)
  have b1_0 := Row2.c0 (Z.out.below C4_14.out)
  have b1_1 := Row2.c1 (Z.out.below C4_14.out)
  have b2_0 := Row2.c0 (MG13.out.below C13_14.out)
  have b2_1 := Row2.c1 (MG13.out.below C13_14.out)
  go_wp2_with fail
  clear b0_0 b0_1 b1_0 b1_1 b2_0 b2_1
  refine (toBits_any n A c xs _ ((HR.out.below C0_14.out).more C0_14.out.size) hxl).mono ?_
  rintro e w15 ⟨A20, c20, rfl, ho, hb⟩
  have C0_15 := hid (C0_14.out.trans (hb.mono C0_14.out.size))
  have C3_15 := hid (C3_14.out.trans (hb.mono C3_14.out.size))
  have C4_15 := hid (C4_14.out.trans (hb.mono C4_14.out.size))
  have C13_15 := hid (C13_14.out.trans (hb.mono C13_14.out.size))
  have hs15 : w14.heap.size ≤ w15.heap.size := hb.size
  have P20 := hid ho
  clear ho hb
  have b0_0 := Row2.c0 (X.out.below C0_15.out)
  have b0_1 := Row2.c1 (X.out.below C0_15.out)
  have b1_0 := Row2.c0 (Z.out.below C4_15.out)
  have b1_1 := Row2.c1 (Z.out.below C4_15.out)
  have b2_0 := Row2.c0 (MG13.out.below C13_15.out)
  have b2_1 := Row2.c1 (MG13.out.below C13_15.out)
  go_wp2_with fail
  clear b0_0 b0_1 b1_0 b1_1 b2_0 b2_1
  refine (HI.out A20 c20 _ P20.out.rb).mono ?_
  rintro e w16 ⟨A21, c21, rfl, ho, hb⟩
  have C0_16 := hid (C0_15.out.trans (hb.mono C0_15.out.size))
  have C3_16 := hid (C3_15.out.trans (hb.mono C3_15.out.size))
  have C4_16 := hid (C4_15.out.trans (hb.mono C4_15.out.size))
  have C13_16 := hid (C13_15.out.trans (hb.mono C13_15.out.size))
  have C15_16 := hid (hb)
  have hs16 : w15.heap.size ≤ w16.heap.size := hb.size
  have P21 := hid ho
  clear ho hb
  have hbq : Below w16.heap.size w16 (w16.alloc (.cells #[.int .i64 rn, .slice A21 rl.length c21] 54)) := (Below.refl _ _).alloc (Nat.le_refl _) _
  have hyq := Row2.lit w16 54 (.int .i64 rn) (.slice A21 rl.length c21)
  have b0_0 := Row2.c0 (X.out.below C0_16.out)
  have b0_1 := Row2.c1 (X.out.below C0_16.out)
  have b1_0 := Row2.c0 (Z.out.below C4_16.out)
  have b1_1 := Row2.c1 (Z.out.below C4_16.out)
  have b2_0 := Row2.c0 (MG13.out.below C13_16.out)
  have b2_1 := Row2.c1 (MG13.out.below C13_16.out)
  have d0_0 := Row2.c0 (Row2.below (X.out.below C0_16.out) hbq)
  have d0_1 := Row2.c1 (Row2.below (X.out.below C0_16.out) hbq)
  have d1_0 := Row2.c0 (Row2.below (Z.out.below C4_16.out) hbq)
  have d1_1 := Row2.c1 (Row2.below (Z.out.below C4_16.out) hbq)
  have d2_0 := Row2.c0 (Row2.below (MG13.out.below C13_16.out) hbq)
  have d2_1 := Row2.c1 (Row2.below (MG13.out.below C13_16.out) hbq)
  go_wp2_with fail
  clear b0_0 b0_1 b1_0 b1_1 b2_0 b2_1
  clear d0_0 d0_1 d1_0 d1_1 d2_0 d2_1
  generalize hgq : w16.alloc (.cells #[.int .i64 rn, .slice A21 rl.length c21] 54) = w17 at *
  clear hgq
  have C0_17 := hid (C0_16.out.trans (hbq.mono C0_16.out.size))
  have C3_17 := hid (C3_16.out.trans (hbq.mono C3_16.out.size))
  have C4_17 := hid (C4_16.out.trans (hbq.mono C4_16.out.size))
  have C13_17 := hid (C13_16.out.trans (hbq.mono C13_16.out.size))
  have C15_17 := hid (C15_16.out.trans (hbq.mono C15_16.out.size))
  have C16_17 := hid (hbq)
  have hs17 : w16.heap.size ≤ w17.heap.size := hbq.size
  have HB22 := hid hyq
  clear hyq hbq
  refine (eqBits_same rn A21 c21 rl A3 c3 _ (P21.out.below C16_17.out).rb (Nat.le_trans HLR.out (by unfold maxLen; omega)) (P3.out.below C3_17.out).rb).mono ?_
  rintro e w18 ⟨rfl, hb⟩
  have C0_18 := hid (C0_17.out.trans (hb.mono C0_17.out.size))
  have C3_18 := hid (C3_17.out.trans (hb.mono C3_17.out.size))
  have C4_18 := hid (C4_17.out.trans (hb.mono C4_17.out.size))
  have C13_18 := hid (C13_17.out.trans (hb.mono C13_17.out.size))
  have C15_18 := hid (C15_17.out.trans (hb.mono C15_17.out.size))
  have C16_18 := hid (C16_17.out.trans (hb.mono C16_17.out.size))
  have C17_18 := hid (hb)
  have hs18 : w17.heap.size ≤ w18.heap.size := hb.size
  clear hb
  have b0_0 := Row2.c0 (X.out.below C0_18.out)
  have b0_1 := Row2.c1 (X.out.below C0_18.out)
  have b1_0 := Row2.c0 (Z.out.below C4_18.out)
  have b1_1 := Row2.c1 (Z.out.below C4_18.out)
  have b2_0 := Row2.c0 (MG13.out.below C13_18.out)
  have b2_1 := Row2.c1 (MG13.out.below C13_18.out)
  have b3_0 := Row2.c0 (HB22.out.below C17_18.out)
  have b3_1 := Row2.c1 (HB22.out.below C17_18.out)
  go_wp2_with fail
  clear b0_0 b0_1 b1_0 b1_1 b2_0 b2_1 b3_0 b3_1
  refine (heldBits_any rn A7 c7 rl.length 1 _ ((M13.out.below C13_18.out).more C13_18.out.size) (Nat.le_trans HLR.out (by omega)) (by omega)).mono ?_
  rintro e w19 ⟨rfl, hb⟩
  have C0_19 := hid (C0_18.out.trans (hb.mono C0_18.out.size))
  have C3_19 := hid (C3_18.out.trans (hb.mono C3_18.out.size))
  have C4_19 := hid (C4_18.out.trans (hb.mono C4_18.out.size))
  have C13_19 := hid (C13_18.out.trans (hb.mono C13_18.out.size))
  have C15_19 := hid (C15_18.out.trans (hb.mono C15_18.out.size))
  have C16_19 := hid (C16_18.out.trans (hb.mono C16_18.out.size))
  have C17_19 := hid (C17_18.out.trans (hb.mono C17_18.out.size))
  have hs19 : w18.heap.size ≤ w19.heap.size := hb.size
  clear hb
  have b0_0 := Row2.c0 (X.out.below C0_19.out)
  have b0_1 := Row2.c1 (X.out.below C0_19.out)
  have b1_0 := Row2.c0 (Z.out.below C4_19.out)
  have b1_1 := Row2.c1 (Z.out.below C4_19.out)
  have b2_0 := Row2.c0 (MG13.out.below C13_19.out)
  have b2_1 := Row2.c1 (MG13.out.below C13_19.out)
  have b3_0 := Row2.c0 (HB22.out.below C17_19.out)
  have b3_1 := Row2.c1 (HB22.out.below C17_19.out)
  go_wp2_with fail
  go_ret
  exact ⟨rfl, HB0.out.trans (C0_19.out.mono HB0.out.size)⟩

theorem exactGive_walk (n : Int) (A : Option Addr) (c : Nat) (xs : List Bool) (id : Int) (w : World) (hr : RB w w.heap.size A xs) (hn : xs.length ≤ maxLen) :
    Calls Try.prog 7 #[.agg #[.int .i64 n, .slice A xs.length c], .int .i64 id] w fun e w' => e = .returned (.bool true) ∧ Below w.heap.size w w' := by
  cases hg : giveB n xs id with
  | false => exact give_walk n A c xs id w hr hn 0 [] false (by simp) (fun A c W h => spec_Give_no n A c xs id W h hg) (fun A c W h => impl_Give_no n A c xs id W h hg)
  | true =>
    have hB : bitsB n xs = true := by
      rw [giveB] at hg
      cases h : bitsB n xs with
      | true => rfl
      | false => rw [h] at hg; simp at hg
    have hl : xs.length ≤ 200 := by have := of_decide_eq_true hB; omega
    exact give_walk n A c xs id w hr hn n (xs.set (id.toNat - 1) false) true (by rw [List.length_set]; omega) (fun A c W h => spec_Give_yes n A c xs id W h hg) (fun A c W h => impl_Give_yes n A c xs id W h hg)

set_option maxRecDepth 100000 in
theorem exactGive_lifted (os : Os) (started : os.Started) (H : Type) (enc : TypeId × Value → H) :
    ReturnsInHanded {} Try.checked os 7 .any (Rows.fnExactGiveSpec.pre6 enc Try.prog Try.f7 Rows.fnExactGiveRow.domain false) (Rows.fnExactGiveSpec.post enc Try.prog Try.f7 false true false false) := by
  refine returnsInHanded_of_change (C := Try.checked) own started (by kernel_rfl) Try.func7
    (ChangeSpec.witness6 (enc := enc) (C := Try.checked) false ⟨#[], #[.agg #[.int .i64 0, .slice none 0 0], .int .i64 0], []⟩ 8 (by kernel_rfl) (by kernel_rfl) (by kernel_rfl) (by kernel_rfl)) ?_
  intro W base args ds gs before hval hW _ _
  have hW' := hW
  obtain ⟨p, q, hA0, hV, rfl, hfz, hnd⟩ := hW
  have hA : DataW.TrodAll enc Try.prog W 0 (fun _ => true) true Try.f7.params.toList args.toList ds p := hA0
  rw [Try.params7] at hA hval
  obtain ⟨v0, vs0, d0, ds0, p0, q0, hargs, rfl, rfl, h0, r0⟩ := trodAll_cons hA
  obtain ⟨v1, vs1, d1, ds1, p1, q1, rfl, rfl, rfl, h1, r1⟩ := trodAll_cons r0
  obtain ⟨rfl, rfl, rfl⟩ := trodAll_nil r1
  obtain rfl : args = #[v0, v1] := by cases args; simp_all
  clear hargs
  obtain ⟨n0, A0, c0, xs0, rfl, rr0, n1⟩ := open_bits (hval 0 51 v0 rfl rfl) h0
  obtain ⟨id, rfl, rfl, rfl, w1⟩ := Go.ChangeShapes.open_int Try.underlying2 (hval 1 2 v1 rfl rfl) h1
  refine (exactGive_walk n0 A0 c0 xs0 id W rr0 n1).mono fun e W' ⟨he, hw⟩ => ?_
  subst he
  exact ⟨_, rfl, law_post (tb := 4) laidOut (by kernel_rfl) rfl hW' Try.underlying4 (by kernel_rfl) (fun gs' e => by subst e; rfl) hw⟩

theorem exactGive_holds : Rows.FnExactGiveSaid :=
  OpenClaim.holds_of_wide 7 Try.f7 rfl rfl rfl rfl rfl rfl rfl ⟨rfl, rfl, rfl, rfl, rfl⟩ rfl rfl rfl rfl rfl (by kernel_rfl) Try.func7 (by kernel_rfl)
    (of_decide_eq_true (by kernel_rfl)) (by unfold Func.isWrapper; rw [if_neg (of_decide_eq_false (by kernel_rfl))]; exact ⟨rfl, rfl⟩)
    (fun os started H enc _ => exactGive_lifted os started H enc)
end Go.Proofs.Ytaiehccpefjbfaa
