/-
  The model's Give (tools/mkgives.py).
-/
import Derived.Test.YtaiehccpefjbfaaGiveF
import Derived.Test.YtaiehccpefjbfaaBoolApp
namespace Go.Proofs.Ytaiehccpefjbfaa
open Go.RowKit

set_option maxHeartbeats 4000000 in
theorem spec_Give_no (n : Int) (A : Option Addr) (c : Nat) (xs : List Bool) (id : Int) (w : World) (hr : RB w w.heap.size A xs) (hg : giveB n xs id = false) :
    Calls Try.prog 31 #[.agg #[.int .i64 n, .slice A xs.length c], .int .i64 id] w (MadeBB w 0 [] false) := by
  have y0 := (Row2.lit w 54 (.int .i64 n) (.slice A xs.length c)).below ((Below.refl _ _).alloc (Nat.le_refl _) (.cells #[.int .i64 0, .slice none 0 0] 54))
  have z1 := Row2.lit (w.alloc (.cells #[.int .i64 n, .slice A xs.length c] 54)) 54 (.int .i64 0) (.slice none 0 0)
  have b1 : Below w.heap.size w ((w.alloc (.cells #[.int .i64 n, .slice A xs.length c] 54)).alloc (.cells #[.int .i64 0, .slice none 0 0] 54)) := ((Below.refl _ _).alloc (Nat.le_refl _) _).alloc (by simp) _
  have hs0 : ((w.alloc (.cells #[.int .i64 n, .slice A xs.length c] 54)).alloc (.cells #[.int .i64 0, .slice none 0 0] 54)).heap.size ≥ w.heap.size + 2 := by simp
  rw [World.size_alloc] at z1
  have X := hid y0
  have Z := hid z1
  have B1 := hid b1
  have HR := hid ((hr.below b1).more b1.size)
  have HG := hid hg
  clear hr y0 z1 b1 hg
  go_enter Try.func31, Try.ntmps31
  go_wp2_with fail
  generalize hgq : (w.alloc (.cells #[.int .i64 n, .slice A xs.length c] 54)).alloc (.cells #[.int .i64 0, .slice none 0 0] 54) = w0 at *
  clear hgq
  refine (spec_BitsOk n A c xs _).mono ?_
  rintro e w1 ⟨rfl, hb1⟩
  have hs1 : w.heap.size + 2 ≤ w1.heap.size := by have := hb1.size; omega
  have X1 := hid (X.out.below hb1)
  have Z1 := hid (Z.out.below hb1)
  have B2 := hid (B1.out.trans (hb1.mono (by omega)))
  have HR1 := hid ((HR.out.below hb1).more hb1.size)
  clear hb1
  have x0 := X1.out.c0
  have x1 := X1.out.c1
  have z0 := Z1.out.c0
  have z1 := Z1.out.c1
  have k0 := Z1.out.fz 0
  have k1 := Z1.out.fz 1
  by_cases hB : bitsB n xs = true
  · have hlen : (xs.length : Int) = n ∧ n ≤ 200 := by have := of_decide_eq_true hB; omega
    by_cases h1 : 1 ≤ id ∧ id ≤ n
    · have hd : decide (1 ≤ id ∧ id ≤ n) = true := decide_eq_true h1
      obtain ⟨i, rfl⟩ : ∃ i : Nat, id = (i : Int) + 1 := ⟨(id - 1).toNat, by omega⟩
      have hi : i < xs.length := by omega
      have hf : xs[i] = false := by
        have h := HG.out
        rw [giveB, hB, hd, Bool.true_and, Bool.true_and, show ((i : Int) + 1).toNat - 1 = i by omega, List.getD_eq_getElem?_getD, List.getElem?_eq_getElem hi, Option.getD_some] at h
        exact h
      obtain ⟨b, off, rfl, hb, hc1⟩ := HR1.out.at_ hi
      rw [hf] at hc1
      have e1 : (i : Int) + 1 - 1 = (i : Int) := by omega
      have HL := hid (l1In_bits ((i : Int) + 1) 1 n w1)
      rw [hd] at HL
      rw [hB]
      clear hB hf h1 hd
      go_wp2_with fail
      refine HL.out.mono ?_
      rintro e w4 ⟨rfl, rfl⟩
      go_wp2_with fail
      refine world_post (S := fun wq => Row2 wq (w.heap.size + 1) 54 (.int .i64 0) (.slice none 0 0) ∧ Below w.heap.size w wq) _ ⟨(Z1.out.s0 _).s1 _, (B2.out.setCell (p := ⟨w.heap.size + 1, 0, none⟩) (by simp) _).setCell (p := ⟨w.heap.size + 1, 1, none⟩) (by simp) _⟩ ?_
      clear x0 x1 z0 z1 k0 k1
      intro wq ⟨hq, hb⟩
      have s0 := hq.c0
      have s1 := hq.c1
      exact bodyPost_ret (v := .tuple #[.agg #[.int .i64 0, .slice none 0 0], .bool false]) (by simp [results, Try.results31, go_sem, s0, s1]) rfl ⟨none, 0, rfl, OwnB.nil _ _, hb⟩
    · have hd : decide (1 ≤ id ∧ id ≤ n) = false := decide_eq_false h1
      have HL := hid (l1In_bits id 1 n w1)
      rw [hd] at HL
      rw [hB]
      clear hB h1 hd
      go_wp2_with fail
      refine HL.out.mono ?_
      rintro e w4 ⟨rfl, rfl⟩
      go_wp2_with fail
      refine world_post (S := fun wq => Row2 wq (w.heap.size + 1) 54 (.int .i64 0) (.slice none 0 0) ∧ Below w.heap.size w wq) _ ⟨(Z1.out.s0 _).s1 _, (B2.out.setCell (p := ⟨w.heap.size + 1, 0, none⟩) (by simp) _).setCell (p := ⟨w.heap.size + 1, 1, none⟩) (by simp) _⟩ ?_
      clear x0 x1 z0 z1 k0 k1
      intro wq ⟨hq, hb⟩
      have s0 := hq.c0
      have s1 := hq.c1
      exact bodyPost_ret (v := .tuple #[.agg #[.int .i64 0, .slice none 0 0], .bool false]) (by simp [results, Try.results31, go_sem, s0, s1]) rfl ⟨none, 0, rfl, OwnB.nil _ _, hb⟩
  · rw [(by simpa using hB : bitsB n xs = false)]
    clear hB
    go_wp2_with fail
    refine world_post (S := fun wq => Row2 wq (w.heap.size + 1) 54 (.int .i64 0) (.slice none 0 0) ∧ Below w.heap.size w wq) _ ⟨(Z1.out.s0 _).s1 _, (B2.out.setCell (p := ⟨w.heap.size + 1, 0, none⟩) (by simp) _).setCell (p := ⟨w.heap.size + 1, 1, none⟩) (by simp) _⟩ ?_
    clear x0 x1 z0 z1 k0 k1
    intro wq ⟨hq, hb⟩
    have s0 := hq.c0
    have s1 := hq.c1
    exact bodyPost_ret (v := .tuple #[.agg #[.int .i64 0, .slice none 0 0], .bool false]) (by simp [results, Try.results31, go_sem, s0, s1]) rfl ⟨none, 0, rfl, OwnB.nil _ _, hb⟩

set_option maxHeartbeats 4000000 in
theorem spec_Give_yes (n : Int) (A : Option Addr) (c : Nat) (xs : List Bool) (id : Int) (w : World) (hr : RB w w.heap.size A xs) (hg : giveB n xs id = true) :
    Calls Try.prog 31 #[.agg #[.int .i64 n, .slice A xs.length c], .int .i64 id] w (MadeBB w n (xs.set (id.toNat - 1) false) true) := by
  have y0 := (Row2.lit w 54 (.int .i64 n) (.slice A xs.length c)).below ((Below.refl _ _).alloc (Nat.le_refl _) (.cells #[.int .i64 0, .slice none 0 0] 54))
  have z1 := Row2.lit (w.alloc (.cells #[.int .i64 n, .slice A xs.length c] 54)) 54 (.int .i64 0) (.slice none 0 0)
  have b1 : Below w.heap.size w ((w.alloc (.cells #[.int .i64 n, .slice A xs.length c] 54)).alloc (.cells #[.int .i64 0, .slice none 0 0] 54)) := ((Below.refl _ _).alloc (Nat.le_refl _) _).alloc (by simp) _
  have hs0 : ((w.alloc (.cells #[.int .i64 n, .slice A xs.length c] 54)).alloc (.cells #[.int .i64 0, .slice none 0 0] 54)).heap.size ≥ w.heap.size + 2 := by simp
  rw [World.size_alloc] at z1
  have X := hid y0
  have Z := hid z1
  have B1 := hid b1
  have HR := hid ((hr.below b1).more b1.size)
  have HG := hid hg
  clear hr y0 z1 b1 hg
  go_enter Try.func31, Try.ntmps31
  go_wp2_with fail
  generalize hgq : (w.alloc (.cells #[.int .i64 n, .slice A xs.length c] 54)).alloc (.cells #[.int .i64 0, .slice none 0 0] 54) = w0 at *
  clear hgq
  refine (spec_BitsOk n A c xs _).mono ?_
  rintro e w1 ⟨rfl, hb1⟩
  have hs1 : w.heap.size + 2 ≤ w1.heap.size := by have := hb1.size; omega
  have X1 := hid (X.out.below hb1)
  have Z1 := hid (Z.out.below hb1)
  have B2 := hid (B1.out.trans (hb1.mono (by omega)))
  have HR1 := hid ((HR.out.below hb1).more hb1.size)
  clear hb1
  have x0 := X1.out.c0
  have x1 := X1.out.c1
  have z0 := Z1.out.c0
  have z1 := Z1.out.c1
  have k0 := Z1.out.fz 0
  have k1 := Z1.out.fz 1
  have hg := HG.out
  have hB : bitsB n xs = true := by
    rw [giveB] at hg
    cases h : bitsB n xs with
    | true => rfl
    | false => rw [h] at hg; simp at hg
  have h1 : 1 ≤ id ∧ id ≤ n := by
    rw [giveB, hB] at hg
    by_cases h : 1 ≤ id ∧ id ≤ n
    · exact h
    · rw [decide_eq_false h] at hg; simp at hg
  have hlen : (xs.length : Int) = n ∧ n ≤ 200 := by have := of_decide_eq_true hB; omega
  have hd : decide (1 ≤ id ∧ id ≤ n) = true := decide_eq_true h1
  obtain ⟨i, rfl⟩ : ∃ i : Nat, id = (i : Int) + 1 := ⟨(id - 1).toNat, by omega⟩
  have hi : i < xs.length := by omega
  have hti : ((i : Int) + 1).toNat - 1 = i := by omega
  have hf : xs[i] = true := by
    rw [giveB, hB, hd, Bool.true_and, Bool.true_and, hti, List.getD_eq_getElem?_getD, List.getElem?_eq_getElem hi, Option.getD_some] at hg
    exact hg
  have HT := hid hti
  have HC := hid (spec_l12Copy n A c xs w1 HR1.out (by omega))
  obtain ⟨b, off, rfl, hb, hc1⟩ := HR1.out.at_ hi
  rw [hf] at hc1
  have e1 : (i : Int) + 1 - 1 = (i : Int) := by omega
  have HL := hid (l1In_bits ((i : Int) + 1) 1 n w1)
  rw [hd] at HL
  rw [hB]
  clear hB hf h1 hd hg hti
  go_wp2_with fail
  refine HL.out.mono ?_
  rintro e w4 ⟨rfl, rfl⟩
  go_wp2_with fail
  refine HC.out.mono ?_
  rintro e w5 ⟨A5, c5, rfl, ho5, hb5⟩
  have hs5 := hb5.size
  rcases ho5.2 with ⟨hv, h0⟩ | ⟨g, cap, cur, hv, hgg, hh, hnc, _⟩
  · omega
  · injection hv with v1 v2 v3
    subst v1 v3
    have hg5 : g < w5.heap.size := (World.ownsRow.lt ho5 g rfl).2
    have hb6 : Below w5.heap.size w5 (w5.alloc (.cells #[.int .i64 n, .slice (some ⟨g, 0, none⟩) xs.length c5] 54)) := (Below.refl _ _).alloc (Nat.le_refl _) _
    have hy6 := Row2.lit w5 54 (.int .i64 n) (.slice (some ⟨g, 0, none⟩) xs.length c5)
    have Y6 := hid hy6
    have HO6 := hid (OwnB.below ho5 hb6)
    have Z6 := hid ((Z1.out.below hb5).below hb6)
    have B6 := hid ((B2.out.trans (hb5.mono (by omega))).trans (hb6.mono (by omega)))
    clear x0 x1 z0 z1 k0 k1 ho5 hb5 hb6 hy6 hh v2
    go_upto_region 4 with fail
    have hs6 : w5.heap.size < (w5.alloc (.cells #[.int .i64 n, .slice (some ⟨g, 0, none⟩) xs.length c5] 54)).heap.size := by simp
    generalize hgq : w5.alloc (.cells #[.int .i64 n, .slice (some ⟨g, 0, none⟩) xs.length c5] 54) = w6 at *
    clear hgq
    have y1 := Y6.out.c1
    have hcl : ∃ u, w6.cell? ⟨g, i, none⟩ = some u := ⟨_, (World.ownsRow.cellAt HO6.out i (by omega)).trans (List.getElem?_eq_getElem (by rw [bcells_length]; omega))⟩
    obtain ⟨u, hu⟩ := hcl
    have fu := World.ownsRow.frozenAt HO6.out i
    have Y7 : Hid (Row2 (w6.setCell ⟨g, i, none⟩ (.bool false)) w5.heap.size 54 (.int .i64 n) (.slice (some ⟨g, 0, none⟩) xs.length c5)) := Y6.out.kept (World.ownsRow.stored HO6.out i (.bool false)).2 (.inr (by simp [Value.ownBlock]; omega))
    have Z7 : Hid (Row2 (w6.setCell ⟨g, i, none⟩ (.bool false)) (w.heap.size + 1) 54 (.int .i64 0) (.slice none 0 0)) := Z6.out.kept (World.ownsRow.stored HO6.out i (.bool false)).2 (.inr (by simp [Value.ownBlock]; omega))
    have hst := (World.ownsRow.stored HO6.out i (.bool false)).1
    have O7 : Hid (OwnB (w6.setCell ⟨g, i, none⟩ (.bool false)) w1.heap.size (some ⟨g, 0, none⟩) c5 (xs.set i false)) := by
      have e : bcells (xs.set i false) = (bcells xs).set i (.bool false) := by simp [bcells, List.map_set]
      have h := hst
      rw [← e] at h
      rw [Hid, OwnB, List.length_set]
      exact h
    have B7 := hid (B6.out.setCell (p := ⟨g, i, none⟩) (by simp; omega) (.bool false))
    have hs7 : w5.heap.size < (w6.setCell ⟨g, i, none⟩ (.bool false)).heap.size := by simp; omega
    clear hst
    go_upto_region 5 with fail
    generalize hgq : w6.setCell ⟨g, i, none⟩ (.bool false) = w7 at *
    clear hgq y1 hu fu
    have y0 := Y7.out.c0
    have y1 := Y7.out.c1
    have z0 := Z7.out.c0
    have z1 := Z7.out.c1
    have k0 := Z7.out.fz 0
    have k1 := Z7.out.fz 1
    go_wp2_with fail
    refine world_post (S := fun wq => Row2 wq (w.heap.size + 1) 54 (.int .i64 n) (.slice (some ⟨g, 0, none⟩) xs.length c5) ∧ OwnB wq w.heap.size (some ⟨g, 0, none⟩) c5 (xs.set i false) ∧ Below w.heap.size w wq) _ ⟨(Z7.out.s0 _).s1 _, ((O7.out.set2 Z7.out (by omega) 0 _).set2 (Z7.out.s0 _) (by omega) 1 _).mono (by omega), (B7.out.setCell (p := ⟨w.heap.size + 1, 0, none⟩) (by simp) _).setCell (p := ⟨w.heap.size + 1, 1, none⟩) (by simp) _⟩ ?_
    clear y0 y1 z0 z1 k0 k1
    intro wq ⟨hq, hp, hb⟩
    have s0 := hq.c0
    have s1 := hq.c1
    exact bodyPost_ret (v := .tuple #[.agg #[.int .i64 n, .slice (some ⟨g, 0, none⟩) xs.length c5], .bool true]) (by simp [results, Try.results31, go_sem, s0, s1]) rfl ⟨some ⟨g, 0, none⟩, c5, by rw [HT.out, List.length_set], by rw [HT.out]; exact hp, hb⟩
end Go.Proofs.Ytaiehccpefjbfaa
