/-
  The program's words of bits: OnesCount64, bitOf, with, bitsIn, count, Count.
-/
import Derived.Test.YtaiehccpefjbfaaBits
import Derived.Test.YtaiehccpefjbfaaPop
import Derived.Laws.BitsAllLaws
import Derived.Laws.Bits128
namespace Go.Proofs.Ytaiehccpefjbfaa
open Go.RowKit

theorem and_u64 (a m : Nat) (ha : a < 18446744073709551616) (hm : m < 18446744073709551616) : bits .and .u64 (a : Int) (m : Int) = ((a &&& m : Nat) : Int) := u64_and_nat a m ha hm
theorem wrap_u64_nat (a : Nat) (ha : a < 18446744073709551616) : IntKind.u64.wrap (a : Int) = (a : Int) := by
  rw [IntKind.wrap_u64]
  omega

set_option maxHeartbeats 1000000 in
theorem ones64 (x : Nat) (w : World) (hx : x < 18446744073709551616) :
    Calls Try.prog 117 #[.int .u64 (x : Int)] w fun e w' => e = .returned (.int .i64 (pop64 x : Int)) ∧ w = w' := by
  obtain ⟨p1, q1⟩ : ∃ p, p = (x / 2 &&& 6148914691236517205) := ⟨_, rfl⟩
  obtain ⟨p2, q2⟩ : ∃ p, p = (x &&& 6148914691236517205) := ⟨_, rfl⟩
  have l1 : p1 ≤ 6148914691236517205 := by rw [q1]; exact Nat.and_le_right
  have l2 : p2 ≤ 6148914691236517205 := by rw [q2]; exact Nat.and_le_right
  have a1 : bits .and .u64 ((x : Int) / 2) 6148914691236517205 = (p1 : Int) := by
    rw [q1]
    have := and_u64 (x / 2) 6148914691236517205 (by omega) (by omega)
    simpa using this
  have a2 : bits .and .u64 (x : Int) 6148914691236517205 = (p2 : Int) := by
    rw [q2]
    have := and_u64 x 6148914691236517205 (by omega) (by omega)
    simpa using this
  obtain ⟨y, q3⟩ : ∃ y, y = p1 + p2 := ⟨_, rfl⟩
  have b1 : IntKind.u64.wrap ((p1 : Int) + (p2 : Int)) = (y : Int) := by
    rw [q3]
    have := wrap_u64_nat (p1 + p2) (by omega)
    simpa using this
  have ly : y ≤ 12297829382473034410 := by omega
  obtain ⟨p4, q4⟩ : ∃ p, p = (y / 4 &&& 3689348814741910323) := ⟨_, rfl⟩
  obtain ⟨p5, q5⟩ : ∃ p, p = (y &&& 3689348814741910323) := ⟨_, rfl⟩
  have l4 : p4 ≤ 3689348814741910323 := by rw [q4]; exact Nat.and_le_right
  have l5 : p5 ≤ 3689348814741910323 := by rw [q5]; exact Nat.and_le_right
  have a4 : bits .and .u64 ((y : Int) / 4) 3689348814741910323 = (p4 : Int) := by
    rw [q4]
    have := and_u64 (y / 4) 3689348814741910323 (by omega) (by omega)
    simpa using this
  have a5 : bits .and .u64 (y : Int) 3689348814741910323 = (p5 : Int) := by
    rw [q5]
    have := and_u64 y 3689348814741910323 (by omega) (by omega)
    simpa using this
  obtain ⟨z, q6⟩ : ∃ z, z = p4 + p5 := ⟨_, rfl⟩
  have b2 : IntKind.u64.wrap ((p4 : Int) + (p5 : Int)) = (z : Int) := by
    rw [q6]
    have := wrap_u64_nat (p4 + p5) (by omega)
    simpa using this
  have lz : z ≤ 7378697629483820646 := by omega
  obtain ⟨v, q7⟩ : ∃ v, v = z / 16 + z := ⟨_, rfl⟩
  have b3 : IntKind.u64.wrap ((z : Int) / 16 + (z : Int)) = (v : Int) := by
    rw [q7]
    have := wrap_u64_nat (z / 16 + z) (by omega)
    simpa using this
  obtain ⟨u, q8⟩ : ∃ u, u = (v &&& 1085102592571150095) := ⟨_, rfl⟩
  have lu : u ≤ 1085102592571150095 := by rw [q8]; exact Nat.and_le_right
  have a8 : bits .and .u64 (v : Int) 1085102592571150095 = (u : Int) := by
    rw [q8]
    have := and_u64 v 1085102592571150095 (by omega) (by omega)
    simpa using this
  obtain ⟨a, q9⟩ : ∃ a, a = u + u / 256 := ⟨_, rfl⟩
  have b4 : IntKind.u64.wrap ((u : Int) + (u : Int) / 256) = (a : Int) := by
    rw [q9]
    have := wrap_u64_nat (u + u / 256) (by omega)
    simpa using this
  obtain ⟨b, q10⟩ : ∃ b, b = a + a / 65536 := ⟨_, rfl⟩
  have b5 : IntKind.u64.wrap ((a : Int) + (a : Int) / 65536) = (b : Int) := by
    rw [q10]
    have := wrap_u64_nat (a + a / 65536) (by omega)
    simpa using this
  obtain ⟨c, q11⟩ : ∃ c, c = b + b / 4294967296 := ⟨_, rfl⟩
  have b6 : IntKind.u64.wrap ((b : Int) + (b : Int) / 4294967296) = (c : Int) := by
    rw [q11]
    have := wrap_u64_nat (b + b / 4294967296) (by omega)
    simpa using this
  have lc : c < 9223372036854775808 := by omega
  have HE : Hid (pop64 x = c % 128) := by
    simp only [Hid, pop64, sw3, sw2, sw1]
    rw [← q1, ← q2, ← q3, ← q4, ← q5, ← q6, ← q7, ← q8, ← q9, ← q10, ← q11]
  clear q1 q2 q3 q4 q5 q6 q7 q8 q9 q10 q11
  have a9 : bits .and .i64 (c : Int) 127 = ((c % 128 : Nat) : Int) := by rw [i64_and127]; omega
  go_enter Try.func117, Try.ntmps117
  go_wp2_with fail
  rw [HE.out]
  go_ret
  exact ⟨rfl, rfl⟩

theorem bitOf_any (i : Nat) (w : World) (h1 : i < 256) :
    Calls Try.prog 118 #[.int .i64 ((i : Int) + 1)] w fun e w' => e = .returned (.tuple #[.int .i64 ((i / 64 : Nat) : Int), .int .u64 ((2 ^ (i % 64) : Nat) : Int)]) ∧ w' = w.drew := by
  have e1 : (i : Int) + 1 - 1 = (i : Int) := by omega
  have e2 : Int.tdiv (i : Int) 64 = ((i / 64 : Nat) : Int) := by rw [Int.tdiv_eq_ediv_of_nonneg (by omega)]; omega
  have e3 : Int.tmod (i : Int) 64 = ((i % 64 : Nat) : Int) := by rw [Int.tmod_eq_emod_of_nonneg (by omega)]; omega
  have hp : 2 ^ (i % 64) < 18446744073709551616 := Nat.pow_lt_pow_right (a := 2) (n := 64) (by omega) (Nat.mod_lt _ (by omega))
  have e4 : IntKind.u64.wrap ((2 : Int) ^ (i % 64)) = ((2 ^ (i % 64) : Nat) : Int) := by
    have := wrap_u64_nat (2 ^ (i % 64)) hp
    rw [← this]
    simp
  have HE := hid e4
  clear e4
  go_enter Try.func118, Try.ntmps118
  go_wp2_with fail
  go_region
  rw [HE.out]
  go_wp2_with fail
  exact bodyPost_ret (v := .tuple #[.int .i64 ((i / 64 : Nat) : Int), .int .u64 ((2 ^ (i % 64) : Nat) : Int)]) (by simp [results, Try.results118, go_sem]) rfl ⟨rfl, rfl⟩

def wordsV (f : Nat → Nat) : Value := .agg #[.int .u64 (f 0 : Int), .int .u64 (f 1 : Int), .int .u64 (f 2 : Int), .int .u64 (f 3 : Int)]
def orF (f : Nat → Nat) (i : Nat) : Nat → Nat := fun k => if k = i / 64 then f k ||| 2 ^ (i % 64) else f k

set_option maxHeartbeats 1000000 in
theorem bitWith_any (f : Nat → Nat) (i : Nat) (w : World) (hf : ∀ k, f k < 18446744073709551616) (h1 : i < 256) :
    Calls Try.prog 116 #[wordsV f, .int .i64 ((i : Int) + 1)] w fun e w' => e = .returned (wordsV (orF f i)) ∧ Below w.heap.size w w' := by
  have hp : 2 ^ (i % 64) < 18446744073709551616 := Nat.pow_lt_pow_right (a := 2) (n := 64) (by omega) (Nat.mod_lt _ (by omega))
  have ho : ∀ k, bits .or .u64 (f k : Int) ((2 ^ (i % 64) : Nat) : Int) = ((f k ||| 2 ^ (i % 64) : Nat) : Int) := fun k => u64_or_nat (f k) (2 ^ (i % 64)) (hf k) hp
  have HO := hid ho
  clear ho
  unfold wordsV
  go_enter Try.func116, Try.ntmps116
  go_wp2_with fail
  refine (bitOf_any i _ h1).mono ?_
  rintro e w1 ⟨rfl, rfl⟩
  generalize hb : 2 ^ (i % 64) = b at *
  have hj : i / 64 = 0 ∨ i / 64 = 1 ∨ i / 64 = 2 ∨ i / 64 = 3 := by omega
  have HB : Hid (∀ o o' : Obj, Below w.heap.size w ((w.alloc o).alloc o').drew) := fun o o' => (((Below.refl _ _).alloc (Nat.le_refl _) o).alloc (by simp) o').drew
  rcases hj with hj | hj | hj | hj
  · have h0 := HO.out 0
    have HF : Hid ((.agg #[.int .u64 ((f 0 ||| b : Nat) : Int), .int .u64 (f 1 : Int), .int .u64 (f 2 : Int), .int .u64 (f 3 : Int)] : Value) = .agg #[.int .u64 (orF f i 0 : Int), .int .u64 (orF f i 1 : Int), .int .u64 (orF f i 2 : Int), .int .u64 (orF f i 3 : Int)]) := by
      unfold orF
      rw [hj, hb]
      rfl
    rw [hj]
    go_wp2_with fail
    refine bodyPost_ret (v := .agg #[.int .u64 ((f 0 ||| b : Nat) : Int), .int .u64 (f 1 : Int), .int .u64 (f 2 : Int), .int .u64 (f 3 : Int)]) (by simp [results, Try.results116, go_sem]) rfl ⟨by rw [HF.out], HB.out _ _⟩
  · have h0 := HO.out 1
    have HF : Hid ((.agg #[.int .u64 (f 0 : Int), .int .u64 ((f 1 ||| b : Nat) : Int), .int .u64 (f 2 : Int), .int .u64 (f 3 : Int)] : Value) = .agg #[.int .u64 (orF f i 0 : Int), .int .u64 (orF f i 1 : Int), .int .u64 (orF f i 2 : Int), .int .u64 (orF f i 3 : Int)]) := by
      unfold orF
      rw [hj, hb]
      rfl
    rw [hj]
    go_wp2_with fail
    refine bodyPost_ret (v := .agg #[.int .u64 (f 0 : Int), .int .u64 ((f 1 ||| b : Nat) : Int), .int .u64 (f 2 : Int), .int .u64 (f 3 : Int)]) (by simp [results, Try.results116, go_sem]) rfl ⟨by rw [HF.out], HB.out _ _⟩
  · have h0 := HO.out 2
    have HF : Hid ((.agg #[.int .u64 (f 0 : Int), .int .u64 (f 1 : Int), .int .u64 ((f 2 ||| b : Nat) : Int), .int .u64 (f 3 : Int)] : Value) = .agg #[.int .u64 (orF f i 0 : Int), .int .u64 (orF f i 1 : Int), .int .u64 (orF f i 2 : Int), .int .u64 (orF f i 3 : Int)]) := by
      unfold orF
      rw [hj, hb]
      rfl
    rw [hj]
    go_wp2_with fail
    refine bodyPost_ret (v := .agg #[.int .u64 (f 0 : Int), .int .u64 (f 1 : Int), .int .u64 ((f 2 ||| b : Nat) : Int), .int .u64 (f 3 : Int)]) (by simp [results, Try.results116, go_sem]) rfl ⟨by rw [HF.out], HB.out _ _⟩
  · have h0 := HO.out 3
    have HF : Hid ((.agg #[.int .u64 (f 0 : Int), .int .u64 (f 1 : Int), .int .u64 (f 2 : Int), .int .u64 ((f 3 ||| b : Nat) : Int)] : Value) = .agg #[.int .u64 (orF f i 0 : Int), .int .u64 (orF f i 1 : Int), .int .u64 (orF f i 2 : Int), .int .u64 (orF f i 3 : Int)]) := by
      unfold orF
      rw [hj, hb]
      rfl
    rw [hj]
    go_wp2_with fail
    refine bodyPost_ret (v := .agg #[.int .u64 (f 0 : Int), .int .u64 (f 1 : Int), .int .u64 (f 2 : Int), .int .u64 ((f 3 ||| b : Nat) : Int)]) (by simp [results, Try.results116, go_sem]) rfl ⟨by rw [HF.out], HB.out _ _⟩


/-- A block of four words. -/
def RowQ (w : World) (g : Nat) (a b c d : Value) : Prop := w.ownsRow g 104 1 (.slice (some ⟨g, 0, none⟩) 4 4) 4 [a, b, c, d]
section
variable {w w' : World} {g : Nat} {a b c d : Value}
theorem RowQ.lit (w : World) (a b c d : Value) : RowQ (w.alloc (.cells #[a, b, c, d] 104)) w.heap.size a b c d :=
  World.ownsRow_lit w #[a, b, c, d] 4 (Nat.le_refl _) (by unfold maxLen; omega) rfl
theorem RowQ.below (h : RowQ w g a b c d) (hb : Below w.heap.size w w') : RowQ w' g a b c d := h.kept (below_grown hb) (.inr (by simp [Value.ownBlock]))
theorem RowQ.c0 (h : RowQ w g a b c d) : w.cell? ⟨g, 0, none⟩ = some a := h.cellAt 0 (by omega)
theorem RowQ.c1 (h : RowQ w g a b c d) : w.cell? ⟨g, 1, none⟩ = some b := h.cellAt 1 (by omega)
theorem RowQ.c2 (h : RowQ w g a b c d) : w.cell? ⟨g, 2, none⟩ = some c := h.cellAt 2 (by omega)
theorem RowQ.c3 (h : RowQ w g a b c d) : w.cell? ⟨g, 3, none⟩ = some d := h.cellAt 3 (by omega)
theorem RowQ.fz (h : RowQ w g a b c d) (j : Nat) : w.frozen? ⟨g, j, none⟩ = false := h.frozenAt j
theorem RowQ.s0 (h : RowQ w g a b c d) (v : Value) : RowQ (w.setCell ⟨g, 0, none⟩ v) g v b c d := (h.stored 0 v).1
theorem RowQ.s1 (h : RowQ w g a b c d) (v : Value) : RowQ (w.setCell ⟨g, 1, none⟩ v) g a v c d := (h.stored 1 v).1
theorem RowQ.s2 (h : RowQ w g a b c d) (v : Value) : RowQ (w.setCell ⟨g, 2, none⟩ v) g a b v d := (h.stored 2 v).1
theorem RowQ.s3 (h : RowQ w g a b c d) (v : Value) : RowQ (w.setCell ⟨g, 3, none⟩ v) g a b c v := (h.stored 3 v).1
theorem RowQ.other (h : RowQ w g a b c d) {g' : Nat} {a' b' c' d' : Value} (h' : RowQ w g' a' b' c' d') (hne : g ≠ g') (j : Nat) (v : Value) : RowQ (w.setCell ⟨g', j, none⟩ v) g a b c d :=
  h.kept (h'.stored j v).2 (.inr (by simp [Value.ownBlock]; omega))
theorem RowQ.put (h : RowQ w g a b c d) (a' b' c' d' : Value) : RowQ ((((w.setCell ⟨g, 0, none⟩ a').setCell ⟨g, 1, none⟩ b').setCell ⟨g, 2, none⟩ c').setCell ⟨g, 3, none⟩ d') g a' b' c' d' :=
  (((h.s0 a').s1 b').s2 c').s3 d'
theorem RowQ.others (h : RowQ w g a b c d) {g' : Nat} {a1 b1 c1 d1 : Value} (h' : RowQ w g' a1 b1 c1 d1) (hne : g ≠ g') (a' b' c' d' : Value) : RowQ ((((w.setCell ⟨g', 0, none⟩ a').setCell ⟨g', 1, none⟩ b').setCell ⟨g', 2, none⟩ c').setCell ⟨g', 3, none⟩ d') g a b c d :=
  (((h.other h' hne 0 a').other (h'.s0 a') hne 1 b').other ((h'.s0 a').s1 b') hne 2 c').other (((h'.s0 a').s1 b').s2 c') hne 3 d'
end
theorem below_put {w w' : World} {B g : Nat} (h : Below B w w') (hg : B ≤ g) (a b c d : Value) : Below B w ((((w'.setCell ⟨g, 0, none⟩ a).setCell ⟨g, 1, none⟩ b).setCell ⟨g, 2, none⟩ c).setCell ⟨g, 3, none⟩ d) :=
  (((h.setCell (p := ⟨g, 0, none⟩) hg a).setCell (p := ⟨g, 1, none⟩) hg b).setCell (p := ⟨g, 2, none⟩) hg c).setCell (p := ⟨g, 3, none⟩) hg d
def RowF (w : World) (g : Nat) (f : Nat → Nat) : Prop := RowQ w g (.int .u64 (f 0 : Int)) (.int .u64 (f 1 : Int)) (.int .u64 (f 2 : Int)) (.int .u64 (f 3 : Int))
theorem orF_bwd {xs : List Bool} {k : Nat} (h : xs.getD k false = true) : orF (bwd xs k) k = bwd xs (k + 1) := by
  funext j
  unfold orF
  by_cases e : j = k / 64
  · rw [if_pos e, e, bwd_set xs k h]
  · rw [if_neg e, bwd_other xs k j e]
theorem bwd_skip {xs : List Bool} {k : Nat} (h : xs.getD k false = false) : bwd xs k = bwd xs (k + 1) := by
  funext j
  rw [bwd_not xs k j h]

set_option maxHeartbeats 4000000 in
theorem bitsIn_any (n : Int) (A : Option Addr) (c : Nat) (xs : List Bool) (w : World) (hr : RB w w.heap.size A xs) (hB : bitsB n xs = true) :
    Calls Try.prog 70 #[.agg #[.int .i64 n, .slice A xs.length c]] w fun e w' => e = .returned (.tuple #[wordsV (bwd xs xs.length), .bool true]) ∧ Below w.heap.size w w' := by
  have hn : xs.length ≤ 200 := by
    have := of_decide_eq_true hB
    omega
  have z1 := RowQ.lit (w.alloc (.cells #[.int .i64 n, .slice A xs.length c] 54)) (.int .u64 0) (.int .u64 0) (.int .u64 0) (.int .u64 0)
  have z2 := RowQ.lit ((w.alloc (.cells #[.int .i64 n, .slice A xs.length c] 54)).alloc (.cells #[.int .u64 0, .int .u64 0, .int .u64 0, .int .u64 0] 104)) (.int .u64 0) (.int .u64 0) (.int .u64 0) (.int .u64 0)
  have z3 := z1.below ((Below.refl _ _).alloc (Nat.le_refl _) (.cells #[.int .u64 0, .int .u64 0, .int .u64 0, .int .u64 0] 104))
  have y0 := Row2.lit w 54 (.int .i64 n) (.slice A xs.length c)
  have y1 := (y0.below ((Below.refl _ _).alloc (Nat.le_refl _) (.cells #[.int .u64 0, .int .u64 0, .int .u64 0, .int .u64 0] 104))).below ((Below.refl _ _).alloc (Nat.le_refl _) (.cells #[.int .u64 0, .int .u64 0, .int .u64 0, .int .u64 0] 104))
  have b0 : Below w.heap.size w (((w.alloc (.cells #[.int .i64 n, .slice A xs.length c] 54)).alloc (.cells #[.int .u64 0, .int .u64 0, .int .u64 0, .int .u64 0] 104)).alloc (.cells #[.int .u64 0, .int .u64 0, .int .u64 0, .int .u64 0] 104)) := below3 (Below.refl _ _) (Nat.le_refl _)
  simp only [World.size_alloc] at z1 z2 z3 y1
  have Z2 := hid z2
  have Z3 := hid z3
  have Y1 := hid y1
  have B0 := hid b0
  have HR := hid hr
  have hxs : ∀ k (h : k < xs.length), xs.getD k false = xs[k] := fun k h => by simp [List.getD, h]
  have HX := hid hxs
  clear hxs hr z1 z2 z3 y0 y1 b0
  go_enter Try.func70, Try.ntmps70
  go_wp2_with fail
  refine (impl_BitsOk n A c xs _).mono ?_
  rintro e w1 ⟨rfl, hb1⟩
  rw [hB]
  have hs1 : w.heap.size + 3 ≤ w1.heap.size := by have := hb1.size; simpa using this
  have B1 := hid (B0.out.trans (hb1.mono B0.out.size))
  have R2 := hid (Z2.out.below hb1)
  have R1 := hid (Z3.out.below hb1)
  have Y2 := hid (Y1.out.below hb1)
  have y0 := Y2.out.c0
  have y1 := Y2.out.c1
  clear hb1
  go_wp2_with fail
  clear y0 y1
  go_loopw [14] (fun i wr => ∃ k : Nat, k ≤ xs.length ∧ i = .int .i64 k ∧ RowF wr (w.heap.size + 1 + 1) (bwd xs k) ∧ RowQ wr (w.heap.size + 1) (.int .u64 0) (.int .u64 0) (.int .u64 0) (.int .u64 0) ∧ w.heap.size + 3 ≤ wr.heap.size ∧ Below w.heap.size w wr) (fun i _ => xs.length - (intOf i).toNat)
  case atStart =>
    refine ⟨0, Nat.zero_le _, rfl, ?_, R1.out, hs1, B1.out⟩
    unfold RowF
    rw [bwd_zero, bwd_zero, bwd_zero, bwd_zero]
    exact R2.out
  case round =>
    obtain ⟨k, hk, rfl, hrf, hrz, hsz, hbw⟩ := hrel
    by_cases hlt : k < xs.length
    · obtain ⟨b, off, rfl, hb, hc1⟩ := (HR.out.below hbw).at_ hlt
      have RF := hid hrf
      have RZ := hid hrz
      have HD := hid hbw
      have hg := HX.out k hlt
      by_cases ht : xs[k] = true
      · rw [ht] at hg hc1
        have HG := hid (orF_bwd hg)
        have f0 := RowQ.c0 hrf
        have f1 := RowQ.c1 hrf
        have f2 := RowQ.c2 hrf
        have f3 := RowQ.c3 hrf
        clear hg ht hrf hrz hbw
        go_wp2_with fail
        refine (bitWith_any (bwd xs k) k wr (fun j => bwd_lt xs k j) (by omega)).mono ?_
        rintro e w2 ⟨rfl, hb2⟩
        rw [HG.out]
        have hs2 := hb2.size
        have RF2 := hid (RowQ.below RF.out hb2)
        have RZ2 := hid (RowQ.below RZ.out hb2)
        have HD2 := hid (HD.out.trans (hb2.mono HD.out.size))
        clear hb2 f0 f1 f2 f3
        have f0 := RowQ.c0 RF2.out
        have f1 := RowQ.c1 RF2.out
        have f2 := RowQ.c2 RF2.out
        have f3 := RowQ.c3 RF2.out
        have g0 := RowQ.fz RF2.out 0
        have g1 := RowQ.fz RF2.out 1
        have g2 := RowQ.fz RF2.out 2
        have g3 := RowQ.fz RF2.out 3
        unfold wordsV
        go_wp2_with fail
        clear f0 f1 f2 f3 g0 g1 g2 g3
        refine ⟨⟨k + 1, by omega, by go_num, RowQ.put RF2.out _ _ _ _, RowQ.others RZ2.out RF2.out (by omega) _ _ _ _, by simp; omega, below_put HD2.out (by omega) _ _ _ _⟩, by simp [intOf]; omega⟩
      · have hf : xs[k] = false := by simpa using ht
        rw [hf] at hg hc1
        have HG := hid (bwd_skip hg)
        clear hg ht hrf hrz hbw
        go_wp2_with fail
        refine ⟨⟨k + 1, by omega, by go_num, by rw [← HG.out]; exact RF.out, RZ.out, hsz, HD.out⟩, by simp [intOf]; omega⟩
    · obtain rfl : k = xs.length := by omega
      have RF := hid hrf
      have RZ := hid hrz
      have HD := hid hbw
      have f0 := RowQ.c0 hrf
      have f1 := RowQ.c1 hrf
      have f2 := RowQ.c2 hrf
      have f3 := RowQ.c3 hrf
      have g0 := RowQ.fz hrz 0
      have g1 := RowQ.fz hrz 1
      have g2 := RowQ.fz hrz 2
      have g3 := RowQ.fz hrz 3
      have e0 := RowQ.c0 hrz
      have e1 := RowQ.c1 hrz
      have e2 := RowQ.c2 hrz
      have e3 := RowQ.c3 hrz
      clear hrf hrz hbw
      go_wp2_with fail
      refine world_post (S := fun wq => RowF wq (w.heap.size + 1) (bwd xs xs.length) ∧ Below w.heap.size w wq) _ ⟨RowQ.put RZ.out _ _ _ _, below_put HD.out (by omega) _ _ _ _⟩ ?_
      clear f0 f1 f2 f3 g0 g1 g2 g3 e0 e1 e2 e3
      intro wq ⟨hq, hb⟩
      have q0 := RowQ.c0 hq
      have q1 := RowQ.c1 hq
      have q2 := RowQ.c2 hq
      have q3 := RowQ.c3 hq
      exact bodyPost_ret (v := .tuple #[wordsV (bwd xs xs.length), .bool true]) (by simp [results, Try.results70, go_sem, q0, q1, q2, q3, wordsV]) rfl ⟨rfl, hb⟩

theorem bitsIn_no (n : Int) (A : Option Addr) (c : Nat) (xs : List Bool) (w : World) (hB : bitsB n xs = false) :
    Calls Try.prog 70 #[.agg #[.int .i64 n, .slice A xs.length c]] w fun e w' => e = .returned (.tuple #[wordsV (bwd xs 0), .bool false]) ∧ Below w.heap.size w w' := by
  have z1 := RowQ.lit (w.alloc (.cells #[.int .i64 n, .slice A xs.length c] 54)) (.int .u64 0) (.int .u64 0) (.int .u64 0) (.int .u64 0)
  have z2 := RowQ.lit ((w.alloc (.cells #[.int .i64 n, .slice A xs.length c] 54)).alloc (.cells #[.int .u64 0, .int .u64 0, .int .u64 0, .int .u64 0] 104)) (.int .u64 0) (.int .u64 0) (.int .u64 0) (.int .u64 0)
  have z3 := z1.below ((Below.refl _ _).alloc (Nat.le_refl _) (.cells #[.int .u64 0, .int .u64 0, .int .u64 0, .int .u64 0] 104))
  have b0 : Below w.heap.size w (((w.alloc (.cells #[.int .i64 n, .slice A xs.length c] 54)).alloc (.cells #[.int .u64 0, .int .u64 0, .int .u64 0, .int .u64 0] 104)).alloc (.cells #[.int .u64 0, .int .u64 0, .int .u64 0, .int .u64 0] 104)) := below3 (Below.refl _ _) (Nat.le_refl _)
  simp only [World.size_alloc] at z1 z2 z3
  have Z2 := hid z2
  have Z3 := hid z3
  have B0 := hid b0
  clear z1 z2 z3 b0
  go_enter Try.func70, Try.ntmps70
  go_wp2_with fail
  refine (impl_BitsOk n A c xs _).mono ?_
  rintro e w1 ⟨rfl, hb1⟩
  rw [hB]
  have B1 := hid (B0.out.trans (hb1.mono B0.out.size))
  have R2 := hid (Z2.out.below hb1)
  have R1 := hid (Z3.out.below hb1)
  clear hb1
  have f0 := RowQ.c0 R2.out
  have f1 := RowQ.c1 R2.out
  have f2 := RowQ.c2 R2.out
  have f3 := RowQ.c3 R2.out
  have g0 := RowQ.fz R1.out 0
  have g1 := RowQ.fz R1.out 1
  have g2 := RowQ.fz R1.out 2
  have g3 := RowQ.fz R1.out 3
  have e0 := RowQ.c0 R1.out
  have e1 := RowQ.c1 R1.out
  have e2 := RowQ.c2 R1.out
  have e3 := RowQ.c3 R1.out
  go_wp2_with fail
  refine world_post (S := fun wq => RowQ wq (w.heap.size + 1) (.int .u64 0) (.int .u64 0) (.int .u64 0) (.int .u64 0) ∧ Below w.heap.size w wq) _ ⟨RowQ.put R1.out _ _ _ _, below_put B1.out (by omega) _ _ _ _⟩ ?_
  clear f0 f1 f2 f3 g0 g1 g2 g3 e0 e1 e2 e3
  intro wq ⟨hq, hb⟩
  have q0 := RowQ.c0 hq
  have q1 := RowQ.c1 hq
  have q2 := RowQ.c2 hq
  have q3 := RowQ.c3 hq
  exact bodyPost_ret (v := .tuple #[wordsV (bwd xs 0), .bool false]) (by simp [results, Try.results70, go_sem, q0, q1, q2, q3, wordsV, bwd_zero]) rfl ⟨rfl, hb⟩

def usedF (xs : List Bool) : Nat → Bool := fun i => xs.getD i false
def lenB (n : Int) (xs : List Bool) : Nat := if bitsB n xs then xs.length else 0
theorem lenB_le (n : Int) (xs : List Bool) : lenB n xs ≤ 200 := by
  unfold lenB
  by_cases h : bitsB n xs = true
  · rw [if_pos h]
    have := of_decide_eq_true h
    omega
  · rw [if_neg h]; omega
theorem bitsIn_all (n : Int) (A : Option Addr) (c : Nat) (xs : List Bool) (w : World) (hr : RB w w.heap.size A xs) :
    Calls Try.prog 70 #[.agg #[.int .i64 n, .slice A xs.length c]] w fun e w' => e = .returned (.tuple #[wordsV (bwd xs (lenB n xs)), .bool (bitsB n xs)]) ∧ Below w.heap.size w w' := by
  cases h : bitsB n xs with
  | true => rw [lenB, if_pos h]; exact bitsIn_any n A c xs w hr h
  | false => rw [lenB, if_neg (by simp [h])]; exact bitsIn_no n A c xs w h

def sumW (C : Nat → Nat) : Nat → Nat
  | 0 => 0
  | k + 1 => sumW C k + C k

set_option maxHeartbeats 2000000 in
theorem count_gen (W C : Nat → Nat) (w : World) (hp : ∀ k w, Calls Try.prog 117 #[.int .u64 (W k : Int)] w fun e w' => e = .returned (.int .i64 (C k : Int)) ∧ w = w') (hc : ∀ k, C k ≤ 64) :
    Calls Try.prog 71 #[wordsV W] w fun e w' => e = .returned (.int .i64 (sumW C 4 : Int)) ∧ Below w.heap.size w w' := by
  have HP := hid hp
  have HL : Hid (∀ k, sumW C k ≤ 64 * k) := fun k => by
    induction k with
    | zero => exact Nat.le_refl _
    | succ k ih =>
      have := hc k
      rw [sumW]
      omega
  have HC := hid hc
  have HS : Hid (∀ k, sumW C (k + 1) = sumW C k + C k) := fun k => rfl
  have HB : Hid (∀ o : Obj, Below w.heap.size w (w.alloc o)) := fun o => (Below.refl _ _).alloc (Nat.le_refl _) o
  clear hp hc
  unfold wordsV
  have i0 : ∀ w, (Instr.index 104 (.agg #[.int .u64 (W 0 : Int), .int .u64 (W 1 : Int), .int .u64 (W 2 : Int), .int .u64 (W 3 : Int)]) (.int .i64 0)).run Try.prog w = .ok (.int .u64 (W 0 : Int)) w := fun _ => by kernel_rfl
  have i1 : ∀ w, (Instr.index 104 (.agg #[.int .u64 (W 0 : Int), .int .u64 (W 1 : Int), .int .u64 (W 2 : Int), .int .u64 (W 3 : Int)]) (.int .i64 1)).run Try.prog w = .ok (.int .u64 (W 1 : Int)) w := fun _ => by kernel_rfl
  have i2 : ∀ w, (Instr.index 104 (.agg #[.int .u64 (W 0 : Int), .int .u64 (W 1 : Int), .int .u64 (W 2 : Int), .int .u64 (W 3 : Int)]) (.int .i64 2)).run Try.prog w = .ok (.int .u64 (W 2 : Int)) w := fun _ => by kernel_rfl
  have i3 : ∀ w, (Instr.index 104 (.agg #[.int .u64 (W 0 : Int), .int .u64 (W 1 : Int), .int .u64 (W 2 : Int), .int .u64 (W 3 : Int)]) (.int .i64 3)).run Try.prog w = .ok (.int .u64 (W 3 : Int)) w := fun _ => by kernel_rfl
  go_enter Try.func71, Try.ntmps71
  go_wp2_with fail
  have HB0 := hid (HB.out (.cells #[.int .u64 (W 0 : Int), .int .u64 (W 1 : Int), .int .u64 (W 2 : Int), .int .u64 (W 3 : Int)] 104))
  go_loopw [3, 7] (fun m i wr => ∃ k : Nat, k ≤ 4 ∧ i = .int .i64 k ∧ m = .int .i64 (sumW C k : Int) ∧ Below w.heap.size w wr) (fun _ i _ => 4 - (intOf i).toNat)
  case atStart => exact ⟨0, by omega, rfl, rfl, HB0.out⟩
  case round =>
    obtain ⟨k, hk, rfl, rfl, hbw⟩ := hrel
    have HD := hid hbw
    clear hbw
    have hc := HL.out k
    have h64 := HC.out k
    have HSk := hid (HS.out k)
    obtain ⟨s, hs⟩ : ∃ s, s = sumW C k := ⟨_, rfl⟩
    obtain ⟨q, hq⟩ : ∃ q, q = C k := ⟨_, rfl⟩
    rw [← hs] at hc HSk ⊢
    rw [← hq] at h64 HSk
    by_cases hlt : k < 4
    · have HPk : Hid (∀ w, Calls Try.prog 117 #[.int .u64 (W k : Int)] w fun e w' => e = .returned (.int .i64 (q : Int)) ∧ w = w') := fun w => by rw [hq]; exact HP.out k w
      have HQ := hid hs
      clear hs hq
      have hkk : k = 0 ∨ k = 1 ∨ k = 2 ∨ k = 3 := by omega
      rcases hkk with rfl | rfl | rfl | rfl
      · go_wp2_with fail
        refine (HPk.out _).mono ?_
        rintro e w2 ⟨rfl, rfl⟩
        go_wp2_with fail
        refine ⟨⟨1, by omega, by go_num, by rw [HSk.out]; go_num, HD.out⟩, by simp [intOf]⟩
      · go_wp2_with fail
        refine (HPk.out _).mono ?_
        rintro e w2 ⟨rfl, rfl⟩
        go_wp2_with fail
        refine ⟨⟨2, by omega, by go_num, by rw [HSk.out]; go_num, HD.out⟩, by simp [intOf]⟩
      · go_wp2_with fail
        refine (HPk.out _).mono ?_
        rintro e w2 ⟨rfl, rfl⟩
        go_wp2_with fail
        refine ⟨⟨3, by omega, by go_num, by rw [HSk.out]; go_num, HD.out⟩, by simp [intOf]⟩
      · go_wp2_with fail
        refine (HPk.out _).mono ?_
        rintro e w2 ⟨rfl, rfl⟩
        go_wp2_with fail
        refine ⟨⟨4, by omega, by go_num, by rw [HSk.out]; go_num, HD.out⟩, by simp [intOf]⟩
    · obtain rfl : k = 4 := by omega
      rw [hs]
      clear hs hq
      go_wp2_with fail
      go_ret
      exact ⟨rfl, HD.out⟩
theorem count_any (xs : List Bool) (n : Nat) (w : World) (h : n ≤ 256) :
    Calls Try.prog 71 #[wordsV (bwd xs n)] w fun e w' => e = .returned (.int .i64 (bcnt n (usedF xs) : Int)) ∧ Below w.heap.size w w' := by
  have h1 := count_gen (bwd xs n) (fun k => bcnt 64 (bitF xs n k)) w (fun k w => by
    have := ones64 (bwd xs n k) w (bwd_lt xs n k)
    rw [bwd, pop64_val] at this
    exact this) (fun k => bcnt_le 64 _)
  have h2 : sumW (fun k => bcnt 64 (bitF xs n k)) 4 = bcnt n (usedF xs) := by
    have := bcnt_words xs n h
    simp only [sumW, Nat.zero_add]
    exact this
  rw [h2] at h1
  exact h1
end Go.Proofs.Ytaiehccpefjbfaa
