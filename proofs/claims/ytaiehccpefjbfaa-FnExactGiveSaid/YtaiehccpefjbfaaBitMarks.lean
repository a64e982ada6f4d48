/-
  Marks in bits: markBits, heldBits.
-/
import Derived.Test.YtaiehccpefjbfaaBoolMarks
namespace Go.Proofs.Ytaiehccpefjbfaa
open Go.RowKit

set_option maxHeartbeats 1000000 in
theorem markBits_any (n : Int) (B : Nat) (A : Option Addr) (c : Nat) (xs : List Bool) (k : Nat) (w : World) (ho : OwnB w B A c xs) (hn : xs.length ≤ 2000000) (hk : k ≤ 10000000000000) :
    Calls Try.prog 33 #[.agg #[.int .i64 n, .slice A xs.length c], .int .i64 (k : Int)] w (MarkBPost B A c xs.length k w) := by
  have b0 : Below w.heap.size w (w.alloc (.cells #[.int .i64 n, .slice A xs.length c] 54)) := (Below.refl _ _).alloc (Nat.le_refl _) _
  have HM := hid (markBoolS_any B A c xs k (w.alloc (.cells #[.int .i64 n, .slice A xs.length c] 54)) (ho.below b0) hn hk)
  have HG : Hid (w.grownBy (w.alloc (.cells #[.int .i64 n, .slice A xs.length c] 54)) (Value.ownBlock (.slice A xs.length c))) := ⟨b0.os, b0.tape, b0.output, b0.size, fun q hq _ => b0.block q hq⟩
  clear ho b0
  go_enter Try.func33, Try.ntmps33
  go_wp2_with fail
  refine HM.out.mono ?_
  rintro e w1 ⟨rfl, ho1, hg1⟩
  have HO := hid ho1
  have HG1 := hid (grown_trans HG.out hg1)
  clear ho1 hg1
  go_wp2_with fail
  go_ret
  exact ⟨rfl, HO.out, HG1.out⟩

set_option maxHeartbeats 1000000 in
theorem heldBits_any (n : Int) (A : Option Addr) (c m k : Nat) (w : World) (hr : RB w w.heap.size A (marksB m k)) (hn : m ≤ 2000000) (hk : k ≤ 10000000000000) :
    Calls Try.prog 34 #[.agg #[.int .i64 n, .slice A m c], .int .i64 (k : Int)] w fun e w' => e = .returned (.int .i64 ((k + m : Nat) : Int)) ∧ Below w.heap.size w w' := by
  have b0 : Below w.heap.size w (w.alloc (.cells #[.int .i64 n, .slice A m c] 54)) := (Below.refl _ _).alloc (Nat.le_refl _) _
  have HH := hid (heldBoolS_any A c m k w.heap.size (w.alloc (.cells #[.int .i64 n, .slice A m c] 54)) (hr.below b0) hn hk)
  have B0 := hid b0
  have hz : ¬ ((k + m : Nat) : Int) < 0 := by omega
  clear hr b0
  go_enter Try.func34, Try.ntmps34
  go_wp2_with fail
  refine HH.out.mono ?_
  rintro e w1 ⟨rfl, hd⟩
  have HD := hid (B0.out.trans (hd.below _))
  clear hd
  go_wp2_with fail
  go_ret
  exact ⟨rfl, HD.out⟩
end Go.Proofs.Ytaiehccpefjbfaa
