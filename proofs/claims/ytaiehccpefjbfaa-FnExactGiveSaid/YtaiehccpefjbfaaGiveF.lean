/-
  Give of the program: contract.
-/
import Derived.Test.YtaiehccpefjbfaaGiveI
import Derived.Deep.CutRange
namespace Go.Proofs.Ytaiehccpefjbfaa
open Go.RowKit

def giveB (n : Int) (xs : List Bool) (id : Int) : Bool := bitsB n xs && decide (1 ≤ id ∧ id ≤ n) && xs.getD (id.toNat - 1) false
def giveL (n : Int) (xs : List Bool) (id : Int) : List Bool := if giveB n xs id then xs.set (id.toNat - 1) false else []
def giveN (n : Int) (xs : List Bool) (id : Int) : Int := if giveB n xs id then n else 0
/-- Bits of the call's own, and a word whether there are any. -/
def MadeBB (w : World) (n : Int) (xs : List Bool) (b : Bool) (e : Ending) (w' : World) : Prop := ∃ A c, e = .returned (.tuple #[.agg #[.int .i64 n, .slice A xs.length c], .bool b]) ∧ OwnB w' w.heap.size A c xs ∧ Below w.heap.size w w'
theorem OwnB.nil (w : World) (B : Nat) : OwnB w B none 0 [] := ⟨rfl, .inl ⟨rfl, rfl⟩⟩

set_option maxHeartbeats 2000000 in
theorem impl_Give_no (n : Int) (A : Option Addr) (c : Nat) (xs : List Bool) (id : Int) (w : World) (hr : RB w w.heap.size A xs) (hg : giveB n xs id = false) :
    Calls Try.prog 32 #[.agg #[.int .i64 n, .slice A xs.length c], .int .i64 id] w (MadeBB w 0 [] false) := by
  have y0 := Row2.lit w 54 (.int .i64 n) (.slice A xs.length c)
  have y1 := y0.below ((Below.refl _ _).alloc (Nat.le_refl _) (.cells #[.int .i64 0, .slice none 0 0] 54))
  have z1 := Row2.lit (w.alloc (.cells #[.int .i64 n, .slice A xs.length c] 54)) 54 (.int .i64 0) (.slice none 0 0)
  have b1 : Below w.heap.size w ((w.alloc (.cells #[.int .i64 n, .slice A xs.length c] 54)).alloc (.cells #[.int .i64 0, .slice none 0 0] 54)) := ((Below.refl _ _).alloc (Nat.le_refl _) _).alloc (by simp) _
  have hbi := bitsIn_all n A c xs ((w.alloc (.cells #[.int .i64 n, .slice A xs.length c] 54)).alloc (.cells #[.int .i64 0, .slice none 0 0] 54)) ((hr.below b1).more b1.size)
  simp only [World.size_alloc] at z1
  obtain ⟨W, hW⟩ : ∃ W, W = bwd xs (lenB n xs) := ⟨_, rfl⟩
  have HI := hid hbi
  rw [← hW] at HI
  have Y1 := hid y1
  have Z1 := hid z1
  have B1 := hid b1
  have HWL : Hid (∀ k, W k < 18446744073709551616) := fun k => by rw [hW]; exact bwd_lt _ _ _
  have HWH : Hid (bitsB n xs = true → ∀ i, i < xs.length → hasF W i = xs.getD i false) := fun h i hi => by
    rw [hW, lenB, if_pos h]
    exact hasF_bwd xs _ i hi
  have HG := hid hg
  have HWV : Hid (wordsV W = .agg #[.int .u64 (W 0 : Int), .int .u64 (W 1 : Int), .int .u64 (W 2 : Int), .int .u64 (W 3 : Int)]) := rfl
  rw [HWV.out] at HI
  clear hW hbi y0 y1 z1 b1 hr hg
  go_enter Try.func32, Try.ntmps32
  go_wp2_with fail
  refine HI.out.mono ?_
  rintro e w1 ⟨rfl, hb1⟩
  have hs1 : w.heap.size + 2 ≤ w1.heap.size := by have := hb1.size; simpa using this
  have m1 : ¬ w.heap.size = w1.heap.size := by omega
  have m2 : ¬ w1.heap.size = w.heap.size := by omega
  have m3 : ¬ w.heap.size + 1 = w1.heap.size := by omega
  have m4 : ¬ w1.heap.size = w.heap.size + 1 := by omega
  have Y2 := hid ((Y1.out.below hb1).below ((Below.refl _ _).alloc (Nat.le_refl _) (.cells #[.int .u64 (W 0 : Int), .int .u64 (W 1 : Int), .int .u64 (W 2 : Int), .int .u64 (W 3 : Int)] 104)))
  have Z2 := hid ((Z1.out.below hb1).below ((Below.refl _ _).alloc (Nat.le_refl _) (.cells #[.int .u64 (W 0 : Int), .int .u64 (W 1 : Int), .int .u64 (W 2 : Int), .int .u64 (W 3 : Int)] 104)))
  have B2 := hid ((B1.out.trans (hb1.mono B1.out.size)).alloc (by omega) (.cells #[.int .u64 (W 0 : Int), .int .u64 (W 1 : Int), .int .u64 (W 2 : Int), .int .u64 (W 3 : Int)] 104))
  have hlt2 : w.heap.size + 2 ≤ (w1.alloc (.cells #[.int .u64 (W 0 : Int), .int .u64 (W 1 : Int), .int .u64 (W 2 : Int), .int .u64 (W 3 : Int)] 104)).heap.size := by simp; omega
  have q0 := RowQ.lit w1 (.int .u64 (W 0 : Int)) (.int .u64 (W 1 : Int)) (.int .u64 (W 2 : Int)) (.int .u64 (W 3 : Int))
  have Q2 := hid q0
  clear hb1 q0 m1 m2 m3 m4
  go_upto_region 2 with fail
  generalize hgq : w1.alloc (.cells #[.int .u64 (W 0 : Int), .int .u64 (W 1 : Int), .int .u64 (W 2 : Int), .int .u64 (W 3 : Int)] 104) = w2 at *
  clear hgq
  have x0 := Y2.out.c0
  have e0 := Z2.out.c0
  have e1 := Z2.out.c1
  have g0 := Z2.out.fz 0
  have g1 := Z2.out.fz 1
  have q0 := Q2.out.c0
  have q1 := Q2.out.c1
  have q2 := Q2.out.c2
  have q3 := Q2.out.c3
  by_cases hB : bitsB n xs = true
  · by_cases h1 : id < 1
    · rw [hB]
      clear hB
      go_wp2_with fail
      refine world_post (S := fun wq => Row2 wq (w.heap.size + 1) 54 (.int .i64 0) (.slice none 0 0) ∧ Below w.heap.size w wq) _ ⟨(Z2.out.s0 _).s1 _, (B2.out.setCell (p := ⟨w.heap.size + 1, 0, none⟩) (by simp) _).setCell (p := ⟨w.heap.size + 1, 1, none⟩) (by simp) _⟩ ?_
      clear e0 e1 g0 g1 x0 q0 q1 q2 q3
      intro wq ⟨hq, hb⟩
      have s0 := hq.c0
      have s1 := hq.c1
      exact bodyPost_ret (v := .tuple #[.agg #[.int .i64 0, .slice none 0 0], .bool false]) (by simp [results, Try.results32, go_sem, s0, s1]) rfl ⟨none, 0, rfl, OwnB.nil _ _, hb⟩
    · by_cases h2 : n < id
      · rw [hB]
        clear hB
        go_wp2_with fail
        refine world_post (S := fun wq => Row2 wq (w.heap.size + 1) 54 (.int .i64 0) (.slice none 0 0) ∧ Below w.heap.size w wq) _ ⟨(Z2.out.s0 _).s1 _, (B2.out.setCell (p := ⟨w.heap.size + 1, 0, none⟩) (by simp) _).setCell (p := ⟨w.heap.size + 1, 1, none⟩) (by simp) _⟩ ?_
        clear e0 e1 g0 g1 x0 q0 q1 q2 q3
        intro wq ⟨hq, hb⟩
        have s0 := hq.c0
        have s1 := hq.c1
        exact bodyPost_ret (v := .tuple #[.agg #[.int .i64 0, .slice none 0 0], .bool false]) (by simp [results, Try.results32, go_sem, s0, s1]) rfl ⟨none, 0, rfl, OwnB.nil _ _, hb⟩
      · have hh := HWH.out hB
        have hlen : (xs.length : Int) = n ∧ n ≤ 200 := by have := of_decide_eq_true hB; omega
        obtain ⟨i, rfl⟩ : ∃ i : Nat, id = (i : Int) + 1 := ⟨(id - 1).toNat, by omega⟩
        have hi : i < xs.length := by omega
        have hf : hasF W i = false := by
          rw [hh i hi]
          have h := HG.out
          rw [giveB, hB, decide_eq_true (by omega), Bool.true_and, Bool.true_and] at h
          rwa [show ((i : Int) + 1).toNat - 1 = i by omega] at h
        have hc := fun w0 => has_any W i w0 HWL.out (by omega)
        rw [hf, HWV.out] at hc
        have HC := hid hc
        rw [hB]
        clear hB hh hf hc
        go_wp2_with fail
        refine (HC.out _).mono ?_
        rintro e w3 ⟨rfl, hb3⟩
        clear e0 e1 g0 g1
        have e0 := (Z2.out.below hb3).c0
        have e1 := (Z2.out.below hb3).c1
        have g0 := (Z2.out.below hb3).fz 0
        have g1 := (Z2.out.below hb3).fz 1
        have Z3 := hid (Z2.out.below hb3)
        have B3 := hid (B2.out.trans (hb3.mono B2.out.size))
        clear hb3
        go_wp2_with fail
        refine world_post (S := fun wq => Row2 wq (w.heap.size + 1) 54 (.int .i64 0) (.slice none 0 0) ∧ Below w.heap.size w wq) _ ⟨(Z3.out.s0 _).s1 _, (B3.out.setCell (p := ⟨w.heap.size + 1, 0, none⟩) (by simp) _).setCell (p := ⟨w.heap.size + 1, 1, none⟩) (by simp) _⟩ ?_
        clear e0 e1 g0 g1 x0 q0 q1 q2 q3
        intro wq ⟨hq, hb⟩
        have s0 := hq.c0
        have s1 := hq.c1
        exact bodyPost_ret (v := .tuple #[.agg #[.int .i64 0, .slice none 0 0], .bool false]) (by simp [results, Try.results32, go_sem, s0, s1]) rfl ⟨none, 0, rfl, OwnB.nil _ _, hb⟩
  · rw [(by simpa using hB : bitsB n xs = false)]
    clear hB
    go_wp2_with fail
    refine world_post (S := fun wq => Row2 wq (w.heap.size + 1) 54 (.int .i64 0) (.slice none 0 0) ∧ Below w.heap.size w wq) _ ⟨(Z2.out.s0 _).s1 _, (B2.out.setCell (p := ⟨w.heap.size + 1, 0, none⟩) (by simp) _).setCell (p := ⟨w.heap.size + 1, 1, none⟩) (by simp) _⟩ ?_
    clear e0 e1 g0 g1 x0 q0 q1 q2 q3
    intro wq ⟨hq, hb⟩
    have s0 := hq.c0
    have s1 := hq.c1
    exact bodyPost_ret (v := .tuple #[.agg #[.int .i64 0, .slice none 0 0], .bool false]) (by simp [results, Try.results32, go_sem, s0, s1]) rfl ⟨none, 0, rfl, OwnB.nil _ _, hb⟩

set_option maxHeartbeats 2000000 in
theorem impl_Give_yes (n : Int) (A : Option Addr) (c : Nat) (xs : List Bool) (id : Int) (w : World) (hr : RB w w.heap.size A xs) (hg : giveB n xs id = true) :
    Calls Try.prog 32 #[.agg #[.int .i64 n, .slice A xs.length c], .int .i64 id] w (MadeBB w n (xs.set (id.toNat - 1) false) true) := by
  have y0 := Row2.lit w 54 (.int .i64 n) (.slice A xs.length c)
  have y1 := y0.below ((Below.refl _ _).alloc (Nat.le_refl _) (.cells #[.int .i64 0, .slice none 0 0] 54))
  have z1 := Row2.lit (w.alloc (.cells #[.int .i64 n, .slice A xs.length c] 54)) 54 (.int .i64 0) (.slice none 0 0)
  have b1 : Below w.heap.size w ((w.alloc (.cells #[.int .i64 n, .slice A xs.length c] 54)).alloc (.cells #[.int .i64 0, .slice none 0 0] 54)) := ((Below.refl _ _).alloc (Nat.le_refl _) _).alloc (by simp) _
  have hbi := bitsIn_all n A c xs ((w.alloc (.cells #[.int .i64 n, .slice A xs.length c] 54)).alloc (.cells #[.int .i64 0, .slice none 0 0] 54)) ((hr.below b1).more b1.size)
  simp only [World.size_alloc] at z1
  obtain ⟨W, hW⟩ : ∃ W, W = bwd xs (lenB n xs) := ⟨_, rfl⟩
  have HI := hid hbi
  rw [← hW] at HI
  have Y1 := hid y1
  have Z1 := hid z1
  have B1 := hid b1
  have HWL : Hid (∀ k, W k < 18446744073709551616) := fun k => by rw [hW]; exact bwd_lt _ _ _
  have HWH : Hid (bitsB n xs = true → ∀ i, i < xs.length → hasF W i = xs.getD i false) := fun h i hi => by
    rw [hW, lenB, if_pos h]
    exact hasF_bwd xs _ i hi
  have HWV : Hid (wordsV W = .agg #[.int .u64 (W 0 : Int), .int .u64 (W 1 : Int), .int .u64 (W 2 : Int), .int .u64 (W 3 : Int)]) := rfl
  rw [HWV.out] at HI
  have hB : bitsB n xs = true := by
    rw [giveB] at hg
    cases h : bitsB n xs with
    | true => rfl
    | false => rw [h] at hg; simp at hg
  have hid2 : 1 ≤ id ∧ id ≤ n := by
    rw [giveB, hB] at hg
    by_cases h : 1 ≤ id ∧ id ≤ n
    · exact h
    · rw [decide_eq_false h] at hg; simp at hg
  have hlen : (xs.length : Int) = n ∧ n ≤ 200 := by have := of_decide_eq_true hB; omega
  obtain ⟨i, rfl⟩ : ∃ i : Nat, id = (i : Int) + 1 := ⟨(id - 1).toNat, by omega⟩
  have hi : i < xs.length := by omega
  have hti : ((i : Int) + 1).toNat - 1 = i := by omega
  have hf : hasF W i = true := by
    rw [HWH.out hB i hi]
    rw [giveB, hB, decide_eq_true hid2, Bool.true_and, Bool.true_and, hti] at hg
    exact hg
  rw [hti]
  obtain ⟨ys, hys⟩ : ∃ ys, ys = xs.set i false := ⟨_, rfl⟩
  have hyl : ys.length = xs.length := by rw [hys, List.length_set]
  have hyf : ys = flagsL (clrF W i) ys.length := by
    rw [hyl, hys, ← flags_clr, hW, lenB, if_pos hB]
  obtain ⟨V, hV⟩ : ∃ V, V = clrF W i := ⟨_, rfl⟩
  have HVL : Hid (∀ k, V k < 18446744073709551616) := fun k => by rw [hV]; exact clrF_lt HWL.out i k
  have HVV : Hid (wordsV V = .agg #[.int .u64 (V 0 : Int), .int .u64 (V 1 : Int), .int .u64 (V 2 : Int), .int .u64 (V 3 : Int)]) := rfl
  have hc1 := fun w0 => has_any W i w0 HWL.out (by omega)
  have hc2 := fun w0 => bitWithout_any W i w0 HWL.out (by omega)
  have hc3 := fun w0 => flags_any V ys w0 HVL.out (by rw [hV]; exact hyf) (by omega)
  rw [hf, HWV.out] at hc1
  rw [← hV, HWV.out, HVV.out] at hc2
  rw [HVV.out, hyl, hlen.1] at hc3
  have HC1 := hid hc1
  have HC2 := hid hc2
  have HC3 := hid hc3
  rw [← hys]
  have HYL := hid hyl
  rw [hB] at HI
  clear hc1 hc2 hc3 hV hyf hys hyl hf hti hW hB hbi y0 y1 z1 b1 hr hg
  go_enter Try.func32, Try.ntmps32
  go_wp2_with fail
  refine HI.out.mono ?_
  rintro e w1 ⟨rfl, hb1⟩
  have hs1 : w.heap.size + 2 ≤ w1.heap.size := by have := hb1.size; simpa using this
  have m1 : ¬ w.heap.size = w1.heap.size := by omega
  have m2 : ¬ w1.heap.size = w.heap.size := by omega
  have m3 : ¬ w.heap.size + 1 = w1.heap.size := by omega
  have m4 : ¬ w1.heap.size = w.heap.size + 1 := by omega
  have Y2 := hid ((Y1.out.below hb1).below ((Below.refl _ _).alloc (Nat.le_refl _) (.cells #[.int .u64 (W 0 : Int), .int .u64 (W 1 : Int), .int .u64 (W 2 : Int), .int .u64 (W 3 : Int)] 104)))
  have Z2 := hid ((Z1.out.below hb1).below ((Below.refl _ _).alloc (Nat.le_refl _) (.cells #[.int .u64 (W 0 : Int), .int .u64 (W 1 : Int), .int .u64 (W 2 : Int), .int .u64 (W 3 : Int)] 104)))
  have B2 := hid ((B1.out.trans (hb1.mono B1.out.size)).alloc (by omega) (.cells #[.int .u64 (W 0 : Int), .int .u64 (W 1 : Int), .int .u64 (W 2 : Int), .int .u64 (W 3 : Int)] 104))
  have hlt2 : w.heap.size + 2 ≤ (w1.alloc (.cells #[.int .u64 (W 0 : Int), .int .u64 (W 1 : Int), .int .u64 (W 2 : Int), .int .u64 (W 3 : Int)] 104)).heap.size := by simp; omega
  have q0 := RowQ.lit w1 (.int .u64 (W 0 : Int)) (.int .u64 (W 1 : Int)) (.int .u64 (W 2 : Int)) (.int .u64 (W 3 : Int))
  have Q2 := hid q0
  clear hb1 q0 m1 m2 m3 m4
  go_upto_region 2 with fail
  generalize hgq : w1.alloc (.cells #[.int .u64 (W 0 : Int), .int .u64 (W 1 : Int), .int .u64 (W 2 : Int), .int .u64 (W 3 : Int)] 104) = w2 at *
  clear hgq
  have x0 := Y2.out.c0
  have e0 := Z2.out.c0
  have e1 := Z2.out.c1
  have g0 := Z2.out.fz 0
  have g1 := Z2.out.fz 1
  have q0 := Q2.out.c0
  have q1 := Q2.out.c1
  have q2 := Q2.out.c2
  have q3 := Q2.out.c3
  go_wp2_with fail
  refine (HC1.out _).mono ?_
  rintro e w3 ⟨rfl, hb3⟩
  clear e0 e1 g0 g1 x0 q0 q1 q2 q3
  have hs3 := hb3.size
  have Y3 := hid (Y2.out.below hb3)
  have Z3 := hid (Z2.out.below hb3)
  have Q3 := hid (Q2.out.below hb3)
  have B3 := hid (B2.out.trans (hb3.mono B2.out.size))
  clear hb3
  have x0 := Y3.out.c0
  have q0 := Q3.out.c0
  have q1 := Q3.out.c1
  have q2 := Q3.out.c2
  have q3 := Q3.out.c3
  go_wp2_with fail
  go_region_with (first
    | (go_at_call 74; refine (HC2.out _).mono ?_; rintro e w4 ⟨rfl, hb4⟩; have HB4 : Hid (Below w3.heap.size w3 w4) := (by first | exact hb4 | exact (Below.refl w3.heap.size w3).drew.trans hb4 | exact (Below.refl w3.heap.size w3).drew.drew.trans hb4); clear hb4; have x4 := (Y3.out.below HB4.out).c0)
    | (go_at_call 75; refine (HC3.out _).mono ?_; rintro e w5 ⟨A5, c5, rfl, ho5, hb5⟩; rw [HYL.out]; have HO5 := hid ho5; have HB5 : Hid (Below w4.heap.size w4 w5) := (by first | exact hb5 | exact (Below.refl w4.heap.size w4).drew.trans hb5 | exact (Below.refl w4.heap.size w4).drew.drew.trans hb5); clear ho5 hb5; have x5 := ((Y3.out.below HB4.out).below HB5.out).c0; have e50 := ((Z3.out.below HB4.out).below HB5.out).c0; have e51 := ((Z3.out.below HB4.out).below HB5.out).c1; have f50 := ((Z3.out.below HB4.out).below HB5.out).fz 0; have f51 := ((Z3.out.below HB4.out).below HB5.out).fz 1))
  all_goals
    have hs4 := HB4.out.size
    have hs5 := HB5.out.size
    have Z5 := hid ((Z3.out.below HB4.out).below HB5.out)
    have B5 := hid ((B3.out.trans (HB4.out.mono B3.out.size)).trans (HB5.out.mono (by omega)))
    have O5 := hid (HO5.out.mono (by first | (simp; omega) | omega : w.heap.size + 2 ≤ _))
    go_wp2_with fail
    refine world_post (S := fun wq => Row2 wq (w.heap.size + 1) 54 (.int .i64 n) (.slice A5 xs.length c5) ∧ OwnB wq w.heap.size A5 c5 ys ∧ Below w.heap.size w wq) _ ⟨(Z5.out.s0 _).s1 _, ((O5.out.set2 Z5.out (by omega) 0 _).set2 (Z5.out.s0 _) (by omega) 1 _).mono (by omega), (B5.out.setCell (p := ⟨w.heap.size + 1, 0, none⟩) (by simp) _).setCell (p := ⟨w.heap.size + 1, 1, none⟩) (by simp) _⟩ ?_
    clear x5 e50 e51 f50 f51 x4 x0 q0 q1 q2 q3
    intro wq ⟨hq, hp, hb⟩
    have s0 := hq.c0
    have s1 := hq.c1
    exact bodyPost_ret (v := .tuple #[.agg #[.int .i64 n, .slice A5 xs.length c5], .bool true]) (by simp [results, Try.results32, go_sem, s0, s1]) rfl ⟨A5, c5, by rw [HYL.out], hp, hb⟩
end Go.Proofs.Ytaiehccpefjbfaa
