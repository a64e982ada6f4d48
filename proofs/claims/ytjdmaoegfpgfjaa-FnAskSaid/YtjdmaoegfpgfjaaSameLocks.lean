/-
  The drawn laws' own comparisons: locks, numbers; at equal lists they say yes.
-/
import Derived.Test.YtjdmaoegfpgfjaaLockKit
import Derived.Test.YtjdmaoegfpgfjaaPageOk
import Derived.Laws.StructEq
import Derived.BigQuiet
namespace Go.Proofs.Ytjdmaoegfpgfjaa
open Go.RowKit

theorem holdFields : Try.prog.underlying 49 = some (.struct (Try.prog.fieldsOf 49)) := by kernel_rfl
theorem holdHeld : Try.prog.stoodInHeld 49 = false := by kernel_rfl
theorem holdGuard : Try.prog.eqGuardType Try.prog.depth 49 = false := by kernel_rfl
theorem neHoldV (p : HD) (w : World) :
    (binOp .neq 49 (.agg #[.int .i64 p.1, .string p.2.1, .int .i64 p.2.2]) (.agg #[.int .i64 p.1, .string p.2.1, .int .i64 p.2.2])).run Try.prog w = .ok (.bool false) w := by
  have u9 := Try.underlying2
  have a9 := Try.isAgg2
  have z9 := Try.sizeOf2
  have u8 := Try.underlying9
  have a8 := Try.isAgg9
  have z8 := Try.sizeOf9
  rw [run_neq_struct, show (10000 : Nat) = 9999 + 1 from rfl, run_equalIn_agg w 9999 49 _ _ holdFields holdHeld]
  simp only [Program.fieldsOf, Try.underlying49]
  have g1 := eqI_true (rfl : p.1 = p.1)
  have g2 := eqI_true (rfl : p.2.2 = p.2.2)
  have g3 := eqS_true (rfl : p.2.1 = p.2.1)
  go_simp

set_option maxHeartbeats 1000000 in
theorem sameHolds_same (A A' : Option Addr) (c c' : Nat) (hs : HS) (w : World) (hr : RH w w.heap.size A hs) (hr' : RH w w.heap.size A' hs) (hn : hs.length ≤ maxLen) :
    Calls Try.prog 42 #[.slice A hs.length c, .slice A' hs.length c'] w fun e w' => e = .returned (.bool true) ∧ Below w.heap.size w w' := by
  unfold maxLen at hn
  have g0 : ((hs.length : Int) != (hs.length : Int)) = false := by simp
  have HR := hid hr
  have HR' := hid hr'
  clear hr hr'
  go_enter Try.func42, Try.ntmps42
  go_wp2_with fail
  go_loopw [5] (fun i wr => ∃ k : Nat, k ≤ hs.length ∧ i = .int .i64 (k : Int) ∧ Drawn w wr) (fun i _ => hs.length - (intOf i).toNat)
  case atStart => exact ⟨0, Nat.zero_le _, rfl, Drawn.refl w⟩
  case round =>
    obtain ⟨k, hk, rfl, hdr⟩ := hrel
    have HD := hid hdr
    by_cases hlt : k < hs.length
    · obtain ⟨b, off, rfl, hb, hc1, hc2, hc3⟩ := (HR.out.below (hdr.below _)).at_ hlt
      obtain ⟨b', off', rfl, hb', hd1, hd2, hd3⟩ := (HR'.out.below (hdr.below _)).at_ hlt
      have e5 : (0 : Int) ≤ (k : Int) := by omega
      have e6 : (k : Int) < (hs.length : Int) := by omega
      have hq := neHoldV hs[k]
      have hm := holdGuard
      clear hdr
      go_wp2_with fail
      go_quiet (fail)
      go_wp2_with fail
      go_roundw
      case rel => exact ⟨k + 1, by omega, by go_num, HD.out.drewN _⟩
      case measure => simp [intOf]; omega
    · obtain rfl : k = hs.length := by omega
      clear hdr
      go_wp2_with fail
      go_ret
      exact ⟨rfl, HD.out.below _⟩

set_option maxHeartbeats 1000000 in
theorem sameInts_same (A A' : Option Addr) (c c' : Nat) (xs : List Int) (B : Nat) (w : World) (hr : RI w B A xs) (hr' : RI w B A' xs) (hn : xs.length ≤ maxLen) :
    Calls Try.prog 29 #[.slice A xs.length c, .slice A' xs.length c'] w fun e w' => e = .returned (.bool true) ∧ Drawn w w' := by
  unfold maxLen at hn
  have g0 : ((xs.length : Int) != (xs.length : Int)) = false := by simp
  have HR := hid hr
  have HR' := hid hr'
  clear hr hr'
  go_enter Try.func29, Try.ntmps29
  go_wp2_with fail
  go_loopw [5] (fun i wr => ∃ k : Nat, k ≤ xs.length ∧ i = .int .i64 (k : Int) ∧ Drawn w wr) (fun i _ => xs.length - (intOf i).toNat)
  case atStart => exact ⟨0, Nat.zero_le _, rfl, Drawn.refl w⟩
  case round =>
    obtain ⟨k, hk, rfl, hdr⟩ := hrel
    have HD := hid hdr
    by_cases hlt : k < xs.length
    · obtain ⟨b, off, rfl, hb, hc1⟩ := (HR.out.below (hdr.below _)).at_ hlt
      obtain ⟨b', off', rfl, hb', hd1⟩ := (HR'.out.below (hdr.below _)).at_ hlt
      have e5 : (0 : Int) ≤ (k : Int) := by omega
      have e6 : (k : Int) < (xs.length : Int) := by omega
      have h3 : (xs[k] != xs[k]) = false := by simp
      clear hdr
      go_wp2_with fail
      go_quiet (fail)
      go_wp2_with fail
      go_roundw
      case rel => exact ⟨k + 1, by omega, by go_num, HD.out.drewN _⟩
      case measure => simp [intOf]; omega
    · obtain rfl : k = xs.length := by omega
      clear hdr
      go_wp2_with fail
      go_ret
      exact ⟨rfl, HD.out⟩

set_option maxHeartbeats 1000000 in
theorem sameLocks_same (A : Option Addr) (c : Nat) (h : HS) (K : Option Addr) (d : Nat) (l : HS) (A' : Option Addr) (c' : Nat) (K' : Option Addr) (d' : Nat) (w : World)
    (hr : RH w w.heap.size A h) (hn : h.length ≤ maxLen) (hk : RH w w.heap.size K l) (hm : l.length ≤ maxLen) (hr' : RH w w.heap.size A' h) (hk' : RH w w.heap.size K' l) :
    Calls Try.prog 28 #[.agg #[.slice A h.length c, .slice K l.length d], .agg #[.slice A' h.length c', .slice K' l.length d']] w fun e w' => e = .returned (.bool true) ∧ Below w.heap.size w w' := by
  have hb0 : Below w.heap.size w ((w.alloc (.cells #[.slice A h.length c, .slice K l.length d] 39)).alloc (.cells #[.slice A' h.length c', .slice K' l.length d'] 39)) := ((Below.refl _ _).alloc (Nat.le_refl _) _).alloc (by simp) _
  have a0 := (Row2.lit w 39 (.slice A h.length c) (.slice K l.length d)).below ((Below.refl _ _).alloc (Nat.le_refl _) (.cells #[.slice A' h.length c', .slice K' l.length d'] 39))
  have a1 := Row2.lit (w.alloc (.cells #[.slice A h.length c, .slice K l.length d] 39)) 39 (.slice A' h.length c') (.slice K' l.length d')
  rw [World.size_alloc] at a1
  have HB0 := hid hb0
  have P := hid a0
  have Q := hid a1
  have HR := hid ((hr.below hb0).more hb0.size)
  have HK := hid ((hk.below hb0).more hb0.size)
  have HR' := hid ((hr'.below hb0).more hb0.size)
  have HK' := hid ((hk'.below hb0).more hb0.size)
  have HN := hid hn
  have HM := hid hm
  clear hr hk hr' hk' hn hm hb0 a0 a1
  go_enter Try.func28, Try.ntmps28
  go_wp2_with fail
  generalize hw0 : (w.alloc (.cells #[.slice A h.length c, .slice K l.length d] 39)).alloc (.cells #[.slice A' h.length c', .slice K' l.length d'] 39) = w0 at *
  clear hw0
  refine (sameHolds_same A A' c c' h w0 HR.out HR'.out HN.out).mono ?_
  rintro e w1 ⟨rfl, hb1⟩
  have HB1 := hid hb1
  have p1 := (P.out.below HB1.out).c1
  have q1 := (Q.out.below HB1.out).c1
  clear hb1
  go_wp2_with fail
  refine (sameHolds_same K K' d d' l w1 ((HK.out.below HB1.out).more HB1.out.size) ((HK'.out.below HB1.out).more HB1.out.size) HM.out).mono ?_
  rintro e w2 ⟨rfl, hb2⟩
  have HB2 := hid (HB1.out.trans (hb2.mono HB1.out.size))
  clear hb2
  go_wp2_with fail
  go_ret
  exact ⟨rfl, HB0.out.trans (HB2.out.mono HB0.out.size)⟩
end Go.Proofs.Ytjdmaoegfpgfjaa
