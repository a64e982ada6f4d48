/-
  SumOf of both: contracts.
-/
import Derived.Test.YtooalnpfenhelabDoorKeys
import Derived.Test.YtooalnpfenhelabDoorCrc
import Derived.Laws.BitsAllLaws
namespace Go.Proofs.YtooalnpfenhelabDoor
open Go.RowKit

theorem ret_i64 {a b : Int} (h : a = b) : Ending.returned (.int .i64 a) = .returned (.int .i64 b) := by rw [h]

theorem and1_odd {x : Nat} (hx : x < 4294967296) (h : x % 2 = 1) : bits .and .u32 (x : Int) 1 = 1 := by
  have := u32_and_nat x 1 hx (by omega)
  rw [and_1, h] at this
  exact this
theorem and1_even {x : Nat} (hx : x < 4294967296) (h : ¬ x % 2 = 1) : bits .and .u32 (x : Int) 1 = 0 := by
  have := u32_and_nat x 1 hx (by omega)
  rw [and_1, show x % 2 = 0 by omega] at this
  exact this
theorem and15_nat {x : Nat} (hx : x < 4294967296) : bits .and .u32 (x : Int) 15 = ((x % 16 : Nat) : Int) := by
  have := u32_and_nat x 15 hx (by omega)
  rw [and_15] at this
  exact this
theorem half_xor {x : Nat} (hx : x < 4294967296) (h : x % 2 = 1) : bits .xor .u32 ((x : Int) / 2) 3988292384 = (cstep x : Int) := by
  have := u32_xor_nat (x / 2) 3988292384 (by omega) (by omega)
  rw [cstep_odd h]
  exact this
theorem half_even {x : Nat} (h : ¬ x % 2 = 1) : (x : Int) / 2 = (cstep x : Int) := by
  rw [cstep_even h]
  rfl
theorem xor_end {x : Nat} (hx : x < 4294967296) : bits .xor .u32 (x : Int) 4294967295 = ((x ^^^ 4294967295 : Nat) : Int) := u32_xor_nat x 4294967295 hx (by omega)
theorem nib_xor {x : Nat} (hx : x < 4294967296) : bits .xor .u32 ((x : Int) / 16) (csteps 4 (x % 16) : Int) = (csteps 4 x : Int) := by
  have := u32_xor_nat (x / 16) (csteps 4 (x % 16)) (by omega) (csteps_lt (by omega) 4)
  rw [nibble x]
  exact this

set_option maxHeartbeats 1000000 in
theorem spec_l3Sum (s : ByteArray) (w : World) (hs : s.size ≤ 10000) :
    Calls Tryd.prog 55 #[.string s] w fun e w' => e = .returned (.int .i64 (crcB s)) ∧ w = w' := by
  go_enter Tryd.func55, Tryd.ntmps55
  go_wp2_with fail
  go_loop [3, 4] (fun c i => ∃ k : Nat, k ≤ s.size ∧ i = .int .i64 k ∧ c = .int .u32 (crcAt s k)) (fun _ i => s.size - (intOf i).toNat)
  case atStart => exact ⟨0, Nat.zero_le _, rfl, rfl⟩
  case round =>
    obtain ⟨k, hk, rfl, rfl⟩ := hrel
    have hx := crcAt_lt s k
    by_cases hlt : k < s.size
    · have hx1 : bits .xor .u32 (crcAt s k : Int) ((s[k].toNat : Int) % 4294967296) = ((crcAt s k ^^^ s[k].toNat : Nat) : Int) := by
        rw [Int.emod_eq_of_lt (by omega) (by have := u8_lt s[k]; omega)]
        exact u32_xor_nat (crcAt s k) s[k].toNat hx (u8_lt _)
      have hx2 := xor_lt32 hx (u8_lt s[k])
      have HS := hid (crcAt_succ hlt)
      generalize crcAt s k ^^^ s[k].toNat = x0 at hx1 hx2 HS
      go_wp2_with fail
      go_loop [3, 5] (fun c j => ∃ m : Nat, m ≤ 8 ∧ j = .int .i64 m ∧ c = .int .u32 (csteps m x0)) (fun _ j => 8 - (intOf j).toNat)
      case atStart => exact ⟨0, Nat.zero_le _, rfl, rfl⟩
      case round =>
        obtain ⟨m, hm, rfl, rfl⟩ := hrel
        have hy := csteps_lt hx2 m
        by_cases hlt8 : m < 8
        · by_cases ho : csteps m x0 % 2 = 1
          · have h1 := and1_odd hy ho
            have h2 := half_xor hy ho
            clear ho
            go_wp2_with fail
            go_round
            case rel => exact ⟨m + 1, by omega, by go_num, rfl⟩
            case measure => simp [intOf]; omega
          · have h1 := and1_even hy ho
            have h2 := half_even ho
            clear ho
            go_wp2_with fail
            go_round
            case rel => exact ⟨m + 1, by omega, by go_num, rfl⟩
            case measure => simp [intOf]; omega
        · obtain rfl : m = 8 := by omega
          go_wp2_with fail
          go_round
          case rel => exact ⟨k + 1, by omega, by go_num, by rw [HS.out]⟩
          case measure => simp [intOf]; omega
    · obtain rfl : k = s.size := by omega
      have h1 := xor_end hx
      have h2 := xor_lt32 hx (by omega : 4294967295 < 4294967296)
      have HE := hid (crcAt_end s)
      go_wp2_with fail
      go_ret
      exact ⟨ret_i64 (by rw [HE.out]), rfl⟩

theorem below_up {w w' : World} (h : Below w.heap.size w w') : w.grownBy w' none := ⟨h.os, h.tape, h.output, h.size, fun k hk _ => h.block k hk⟩
theorem world_post {P : Program} {F : Func} {post : Ending → World → Prop} {x : Exit} {a : Act} {S : World → Prop} (wx : World) (h : S wx) (k : ∀ wq, S wq → bodyPost P F post x a wq) : bodyPost P F post x a wx := k wx h
/-- The table of four bits. -/
def stepsL : List Value := [Value.int .u32 (csteps 4 0 : Nat), Value.int .u32 (csteps 4 1 : Nat), Value.int .u32 (csteps 4 2 : Nat), Value.int .u32 (csteps 4 3 : Nat), Value.int .u32 (csteps 4 4 : Nat), Value.int .u32 (csteps 4 5 : Nat), Value.int .u32 (csteps 4 6 : Nat), Value.int .u32 (csteps 4 7 : Nat), Value.int .u32 (csteps 4 8 : Nat), Value.int .u32 (csteps 4 9 : Nat), Value.int .u32 (csteps 4 10 : Nat), Value.int .u32 (csteps 4 11 : Nat), Value.int .u32 (csteps 4 12 : Nat), Value.int .u32 (csteps 4 13 : Nat), Value.int .u32 (csteps 4 14 : Nat), Value.int .u32 (csteps 4 15 : Nat)]
theorem stepsL_at : ∀ i, i < 16 → stepsL[i]? = some (.int .u32 (csteps 4 i : Nat))
  | 0, _ => rfl
  | 1, _ => rfl
  | 2, _ => rfl
  | 3, _ => rfl
  | 4, _ => rfl
  | 5, _ => rfl
  | 6, _ => rfl
  | 7, _ => rfl
  | 8, _ => rfl
  | 9, _ => rfl
  | 10, _ => rfl
  | 11, _ => rfl
  | 12, _ => rfl
  | 13, _ => rfl
  | 14, _ => rfl
  | 15, _ => rfl
  | i + 16, h => absurd h (by omega)
/-- A row of 16, right up to k. -/
def StepsTo (wr : World) (g : Nat) (k : Nat) : Prop :=
  ∃ xs, wr.ownsRow g 50 1 (.slice (some ⟨g, 0, none⟩) 16 16) 16 xs ∧ ∀ i, i < k → xs[i]? = some (.int .u32 (csteps 4 i))
theorem StepsTo.cell {wr : World} {g k : Nat} (h : StepsTo wr g k) (i : Nat) (hi : i < k) (h16 : i < 16) : wr.cell? ⟨g, i, none⟩ = some (.int .u32 (csteps 4 i)) := by
  obtain ⟨xs, ho, hx⟩ := h
  rw [ho.cellAt i (by omega), hx i hi]
theorem StepsTo.some {wr : World} {g k : Nat} (h : StepsTo wr g k) (i : Nat) (h16 : i < 16) : ∃ u, wr.cell? ⟨g, i, none⟩ = some u := by
  obtain ⟨xs, ho, hx⟩ := h
  have := ho.1
  exact ⟨_, (ho.cellAt i (by omega)).trans (List.getElem?_eq_getElem (by omega))⟩
theorem StepsTo.frozen {wr : World} {g k : Nat} (h : StepsTo wr g k) (i : Nat) : wr.frozen? ⟨g, i, none⟩ = false := by
  obtain ⟨xs, ho, hx⟩ := h
  exact ho.frozenAt i
theorem StepsTo.other {wr : World} {g k g' : Nat} (h : StepsTo wr g k) (j : Nat) (u : Value) (hne : g ≠ g') {m : Nat} (h' : StepsTo wr g' m) : StepsTo (wr.setCell ⟨g', j, none⟩ u) g k := by
  obtain ⟨xs, ho, hx⟩ := h
  obtain ⟨ys, ho', _⟩ := h'
  exact ⟨xs, ho.kept (ho'.stored j u).2 (.inr (by simp [Value.ownBlock]; omega)), hx⟩
theorem StepsTo.store {wr : World} {g k : Nat} (h : StepsTo wr g k) (h16 : k < 16) : StepsTo (wr.setCell ⟨g, k, none⟩ (.int .u32 (csteps 4 k))) g (k + 1) := by
  obtain ⟨xs, ho, hx⟩ := h
  have hl := ho.1
  refine ⟨_, (ho.stored k _).1, fun i hi => ?_⟩
  by_cases e : i = k
  · subst e
    rw [List.getElem?_set_self (by omega)]
  · rw [List.getElem?_set_ne (by omega)]
    exact hx i (by omega)

set_option maxHeartbeats 1000000 in
theorem impl_sumSteps (w : World) :
    Calls Tryd.prog 27 #[] w fun e w' => e = .returned (.agg #[Value.int .u32 (csteps 4 0 : Nat), Value.int .u32 (csteps 4 1 : Nat), Value.int .u32 (csteps 4 2 : Nat), Value.int .u32 (csteps 4 3 : Nat), Value.int .u32 (csteps 4 4 : Nat), Value.int .u32 (csteps 4 5 : Nat), Value.int .u32 (csteps 4 6 : Nat), Value.int .u32 (csteps 4 7 : Nat), Value.int .u32 (csteps 4 8 : Nat), Value.int .u32 (csteps 4 9 : Nat), Value.int .u32 (csteps 4 10 : Nat), Value.int .u32 (csteps 4 11 : Nat), Value.int .u32 (csteps 4 12 : Nat), Value.int .u32 (csteps 4 13 : Nat), Value.int .u32 (csteps 4 14 : Nat), Value.int .u32 (csteps 4 15 : Nat)]) ∧ Below w.heap.size w w' := by
  have H0 : Hid (∀ (r : Obj) (cs : Array Value), cs.size = 16 → StepsTo ((w.alloc r).alloc (.cells cs 50)) (w.heap.size + 1) 0) := by
    intro r cs h
    have := World.ownsRow_lit (e := 50) (size := 1) (base := w.heap.size + 1) (w.alloc r) cs 16 (by simp) (by unfold maxLen; omega) (by omega)
    simp only [World.size_alloc] at this
    exact ⟨_, this, fun i hi => absurd hi (by omega)⟩
  have H1 : Hid (∀ (cs : Array Value) (r : Obj), cs.size = 16 → StepsTo ((w.alloc (.cells cs 50)).alloc r) w.heap.size 0) := by
    intro cs r h
    have := World.ownsRow_lit (e := 50) (size := 1) (base := w.heap.size) w cs 16 (Nat.le_refl _) (by unfold maxLen; omega) (by omega)
    exact ⟨_, this.kept (below_up ((Below.refl _ _).alloc (Nat.le_refl _) r)) (.inr (by simp [Value.ownBlock])), fun i hi => absurd hi (by omega)⟩
  have HB : Hid (∀ (r o : Obj), Below w.heap.size w ((w.alloc r).alloc o)) := fun r o => ((Below.refl _ _).alloc (Nat.le_refl _) r).alloc (by simp) o
  go_enter Tryd.func27, Tryd.ntmps27
  go_wp2_with fail
  go_loopw [5] (fun i wr => ∃ k : Nat, k ≤ 16 ∧ i = .int .i64 k ∧ StepsTo wr (w.heap.size + 1) k ∧ StepsTo wr w.heap.size 0 ∧ Below w.heap.size w wr) (fun i _ => 16 - (intOf i).toNat)
  case atStart => exact ⟨0, Nat.zero_le _, rfl, H0.out _ _ rfl, H1.out _ _ rfl, HB.out _ _⟩
  case round =>
    obtain ⟨k, hk, rfl, hst, hrs, hbw⟩ := hrel
    have HR := hid hrs
    by_cases hlt : k < 16
    · have HT := hid hst
      have HD := hid hbw
      obtain ⟨u, hu⟩ := hst.some k hlt
      have f1 := hst.frozen k
      clear hst hrs hbw
      go_wp2_with fail
      go_loopw [3, 10] (fun c j wq => ∃ m : Nat, m ≤ 4 ∧ j = .int .i64 m ∧ c = .int .u32 (csteps m k : Nat) ∧ wq = wr) (fun _ j _ => 4 - (intOf j).toNat)
      case atStart => exact ⟨0, Nat.zero_le _, rfl, by simp [csteps], rfl⟩
      case round =>
        obtain ⟨m, hm, rfl, rfl, rfl⟩ := hrel
        have hy := csteps_lt (x := k) (by omega) m
        by_cases hlt8 : m < 4
        · by_cases ho : csteps m k % 2 = 1
          · have h1 := and1_odd hy ho
            have h2 := half_xor hy ho
            clear ho
            go_wp2_with fail
            go_roundw
            case rel => exact ⟨m + 1, by omega, by go_num, rfl, by trivial⟩
            case measure => simp [intOf]; omega
          · have h1 := and1_even hy ho
            have h2 := half_even ho
            clear ho
            go_wp2_with fail
            go_roundw
            case rel => exact ⟨m + 1, by omega, by go_num, rfl, by trivial⟩
            case measure => simp [intOf]; omega
        · obtain rfl : m = 4 := by omega
          go_wp2_with fail
          go_roundw
          case rel => exact ⟨k + 1, by omega, by go_num, HT.out.store hlt, HR.out.other _ _ (by omega) HT.out, HD.out.setCell (by simp) _⟩
          case measure => simp [intOf]; omega
    · obtain rfl : k = 16 := by omega
      have HT := hid hst
      have HD := hid hbw
      have c0 := hst.cell 0 (by omega) (by omega)
      have c1 := hst.cell 1 (by omega) (by omega)
      have c2 := hst.cell 2 (by omega) (by omega)
      have c3 := hst.cell 3 (by omega) (by omega)
      have c4 := hst.cell 4 (by omega) (by omega)
      have c5 := hst.cell 5 (by omega) (by omega)
      have c6 := hst.cell 6 (by omega) (by omega)
      have c7 := hst.cell 7 (by omega) (by omega)
      have c8 := hst.cell 8 (by omega) (by omega)
      have c9 := hst.cell 9 (by omega) (by omega)
      have c10 := hst.cell 10 (by omega) (by omega)
      have c11 := hst.cell 11 (by omega) (by omega)
      have c12 := hst.cell 12 (by omega) (by omega)
      have c13 := hst.cell 13 (by omega) (by omega)
      have c14 := hst.cell 14 (by omega) (by omega)
      have c15 := hst.cell 15 (by omega) (by omega)
      obtain ⟨v0, d0⟩ := hrs.some 0 (by omega)
      have f0 := hrs.frozen 0
      obtain ⟨v1, d1⟩ := hrs.some 1 (by omega)
      have f1 := hrs.frozen 1
      obtain ⟨v2, d2⟩ := hrs.some 2 (by omega)
      have f2 := hrs.frozen 2
      obtain ⟨v3, d3⟩ := hrs.some 3 (by omega)
      have f3 := hrs.frozen 3
      obtain ⟨v4, d4⟩ := hrs.some 4 (by omega)
      have f4 := hrs.frozen 4
      obtain ⟨v5, d5⟩ := hrs.some 5 (by omega)
      have f5 := hrs.frozen 5
      obtain ⟨v6, d6⟩ := hrs.some 6 (by omega)
      have f6 := hrs.frozen 6
      obtain ⟨v7, d7⟩ := hrs.some 7 (by omega)
      have f7 := hrs.frozen 7
      obtain ⟨v8, d8⟩ := hrs.some 8 (by omega)
      have f8 := hrs.frozen 8
      obtain ⟨v9, d9⟩ := hrs.some 9 (by omega)
      have f9 := hrs.frozen 9
      obtain ⟨v10, d10⟩ := hrs.some 10 (by omega)
      have f10 := hrs.frozen 10
      obtain ⟨v11, d11⟩ := hrs.some 11 (by omega)
      have f11 := hrs.frozen 11
      obtain ⟨v12, d12⟩ := hrs.some 12 (by omega)
      have f12 := hrs.frozen 12
      obtain ⟨v13, d13⟩ := hrs.some 13 (by omega)
      have f13 := hrs.frozen 13
      obtain ⟨v14, d14⟩ := hrs.some 14 (by omega)
      have f14 := hrs.frozen 14
      obtain ⟨v15, d15⟩ := hrs.some 15 (by omega)
      have f15 := hrs.frozen 15
      clear hst hrs hbw
      go_wp2_with fail
      refine world_post (S := fun wq => StepsTo wq w.heap.size 16 ∧ Below w.heap.size w wq) _ ⟨((((((((((((((((HR.out.store (k := 0) (by omega)).store (k := 1) (by omega)).store (k := 2) (by omega)).store (k := 3) (by omega)).store (k := 4) (by omega)).store (k := 5) (by omega)).store (k := 6) (by omega)).store (k := 7) (by omega)).store (k := 8) (by omega)).store (k := 9) (by omega)).store (k := 10) (by omega)).store (k := 11) (by omega)).store (k := 12) (by omega)).store (k := 13) (by omega)).store (k := 14) (by omega)).store (k := 15) (by omega)), (Below.setCell (p := ⟨w.heap.size, 15, none⟩) (Below.setCell (p := ⟨w.heap.size, 14, none⟩) (Below.setCell (p := ⟨w.heap.size, 13, none⟩) (Below.setCell (p := ⟨w.heap.size, 12, none⟩) (Below.setCell (p := ⟨w.heap.size, 11, none⟩) (Below.setCell (p := ⟨w.heap.size, 10, none⟩) (Below.setCell (p := ⟨w.heap.size, 9, none⟩) (Below.setCell (p := ⟨w.heap.size, 8, none⟩) (Below.setCell (p := ⟨w.heap.size, 7, none⟩) (Below.setCell (p := ⟨w.heap.size, 6, none⟩) (Below.setCell (p := ⟨w.heap.size, 5, none⟩) (Below.setCell (p := ⟨w.heap.size, 4, none⟩) (Below.setCell (p := ⟨w.heap.size, 3, none⟩) (Below.setCell (p := ⟨w.heap.size, 2, none⟩) (Below.setCell (p := ⟨w.heap.size, 1, none⟩) (Below.setCell (p := ⟨w.heap.size, 0, none⟩) HD.out (Nat.le_refl _) _) (Nat.le_refl _) _) (Nat.le_refl _) _) (Nat.le_refl _) _) (Nat.le_refl _) _) (Nat.le_refl _) _) (Nat.le_refl _) _) (Nat.le_refl _) _) (Nat.le_refl _) _) (Nat.le_refl _) _) (Nat.le_refl _) _) (Nat.le_refl _) _) (Nat.le_refl _) _) (Nat.le_refl _) _) (Nat.le_refl _) _) (Nat.le_refl _) _)⟩ ?_
      intro wq ⟨hq, hbq⟩
      have q0 := hq.cell 0 (by omega) (by omega)
      have q1 := hq.cell 1 (by omega) (by omega)
      have q2 := hq.cell 2 (by omega) (by omega)
      have q3 := hq.cell 3 (by omega) (by omega)
      have q4 := hq.cell 4 (by omega) (by omega)
      have q5 := hq.cell 5 (by omega) (by omega)
      have q6 := hq.cell 6 (by omega) (by omega)
      have q7 := hq.cell 7 (by omega) (by omega)
      have q8 := hq.cell 8 (by omega) (by omega)
      have q9 := hq.cell 9 (by omega) (by omega)
      have q10 := hq.cell 10 (by omega) (by omega)
      have q11 := hq.cell 11 (by omega) (by omega)
      have q12 := hq.cell 12 (by omega) (by omega)
      have q13 := hq.cell 13 (by omega) (by omega)
      have q14 := hq.cell 14 (by omega) (by omega)
      have q15 := hq.cell 15 (by omega) (by omega)
      exact bodyPost_ret (v := .agg #[Value.int .u32 (csteps 4 0 : Nat), Value.int .u32 (csteps 4 1 : Nat), Value.int .u32 (csteps 4 2 : Nat), Value.int .u32 (csteps 4 3 : Nat), Value.int .u32 (csteps 4 4 : Nat), Value.int .u32 (csteps 4 5 : Nat), Value.int .u32 (csteps 4 6 : Nat), Value.int .u32 (csteps 4 7 : Nat), Value.int .u32 (csteps 4 8 : Nat), Value.int .u32 (csteps 4 9 : Nat), Value.int .u32 (csteps 4 10 : Nat), Value.int .u32 (csteps 4 11 : Nat), Value.int .u32 (csteps 4 12 : Nat), Value.int .u32 (csteps 4 13 : Nat), Value.int .u32 (csteps 4 14 : Nat), Value.int .u32 (csteps 4 15 : Nat)]) (by simp [results, Tryd.results27, go_sem, q0, q1, q2, q3, q4, q5, q6, q7, q8, q9, q10, q11, q12, q13, q14, q15]) rfl ⟨rfl, hbq⟩

set_option maxHeartbeats 1000000 in
theorem impl_SumOf (s : ByteArray) (w : World) (hs : s.size ≤ maxLen) :
    Calls Tryd.prog 10 #[.string s] w fun e w' => e = .returned (.int .i64 (sumV s)) ∧ Below w.heap.size w w' := by
  unfold maxLen at hs
  by_cases h : 10000 < s.size
  · have HE : Hid (sumV s = -1) := by simp [Hid, sumV, h]
    go_enter Tryd.func10, Tryd.ntmps10
    go_wp2_with fail
    go_ret
    exact ⟨ret_i64 HE.out.symm, Below.refl _ _⟩
  · have HE : Hid (sumV s = crcB s) := by simp [Hid, sumV, h]
    have HK : Hid (∀ (w1 : World) (j : Nat), j < 16 → (w1.alloc (.cells stepsL.toArray 50)).cell? ⟨w1.heap.size, j, none⟩ = some (.int .u32 (csteps 4 j : Nat))) := by
      intro w1 j hj
      have := World.ownsRow_lit (e := 50) (size := 1) (base := w1.heap.size) w1 stepsL.toArray 16 (Nat.le_refl _) (by unfold maxLen; omega) rfl
      rw [this.cellAt j (by omega)]
      exact stepsL_at j hj
    have hb : ∀ (w1 : World) (o : Obj), Below w.heap.size w w1 → Below w.heap.size w (w1.alloc o) := fun w1 o h => h.alloc h.size o
    have HB := hid hb
    clear hb
    go_enter Tryd.func10, Tryd.ntmps10
    go_wp2_with (go_at_call 27; refine (impl_sumSteps _).mono ?_; rintro e w1 ⟨rfl, hw1⟩; have HW := hid hw1; clear hw1)
    have HC := HK.out w1
    unfold stepsL at HC
    have HC2 := hid HC
    clear HC
    go_loop [4, 12] (fun c i => ∃ k : Nat, k ≤ s.size ∧ i = .int .i64 k ∧ c = .int .u32 (crcAt s k : Nat)) (fun _ i => s.size - (intOf i).toNat)
    case atStart => exact ⟨0, Nat.zero_le _, rfl, rfl⟩
    case round =>
      obtain ⟨k, hk, rfl, rfl⟩ := hrel
      have hx := crcAt_lt s k
      by_cases hlt : k < s.size
      · have hx1 : bits .xor .u32 (crcAt s k : Int) ((s[k].toNat : Int) % 4294967296) = ((crcAt s k ^^^ s[k].toNat : Nat) : Int) := by
          rw [Int.emod_eq_of_lt (by omega) (by have := u8_lt s[k]; omega)]
          exact u32_xor_nat (crcAt s k) s[k].toNat hx (u8_lt _)
        have hx2 := xor_lt32 hx (u8_lt s[k])
        have HS := hid ((crcAt_succ hlt).trans (csteps8 _))
        generalize crcAt s k ^^^ s[k].toNat = x0 at hx1 hx2 HS
        have hn0 := nib_xor hx2
        have ha0 := and15_nat hx2
        have hc0 := HC2.out (x0 % 16) (by omega)
        have hx3 := csteps_lt hx2 4
        generalize hz : csteps 4 x0 = x1 at hn0 HS hx3
        have hn1 := nib_xor hx3
        have ha1 := and15_nat hx3
        have hc1 := HC2.out (x1 % 16) (by omega)
        have hx4 := csteps_lt hx3 4
        clear hz
        go_wp2_with fail
        go_round
        case rel => exact ⟨k + 1, by omega, by go_num, by rw [HS.out]⟩
        case measure => simp [intOf]; omega
      · obtain rfl : k = s.size := by omega
        have h1 : bits .xor .u32 IntKind.u32.max (crcAt s s.size : Int) = ((crcAt s s.size ^^^ 4294967295 : Nat) : Int) := by
          have := u32_xor_nat 4294967295 (crcAt s s.size) (by omega) hx
          rw [Nat.xor_comm] at this
          exact this
        have h2 := xor_lt32 hx (by omega : 4294967295 < 4294967296)
        have HE2 := hid (crcAt_end s)
        go_wp2_with fail
        go_ret
        exact ⟨ret_i64 (by rw [HE.out, HE2.out]; unfold wrap64; omega), HB.out _ _ HW.out⟩
end Go.Proofs.YtooalnpfenhelabDoor
