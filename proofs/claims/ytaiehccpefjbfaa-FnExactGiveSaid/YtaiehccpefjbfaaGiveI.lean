/-
  The program's words of bits: has, without, flags.
-/
import Derived.Test.YtaiehccpefjbfaaPopI
import Derived.Test.YtaiehccpefjbfaaPopH
namespace Go.Proofs.Ytaiehccpefjbfaa
open Go.RowKit

set_option maxHeartbeats 1000000 in
theorem has_any (f : Nat → Nat) (i : Nat) (w : World) (hf : ∀ k, f k < 18446744073709551616) (h1 : i < 256) :
    Calls Try.prog 73 #[wordsV f, .int .i64 ((i : Int) + 1)] w fun e w' => e = .returned (.bool (hasF f i)) ∧ Below w.heap.size w w' := by
  have hp : 2 ^ (i % 64) < 18446744073709551616 := Nat.pow_lt_pow_right (a := 2) (n := 64) (by omega) (Nat.mod_lt _ (by omega))
  have ho : ∀ k, bits .and .u64 (f k : Int) ((2 ^ (i % 64) : Nat) : Int) = ((f k &&& 2 ^ (i % 64) : Nat) : Int) := fun k => u64_and_nat (f k) (2 ^ (i % 64)) (hf k) hp
  have HO := hid ho
  have HA : Hid (∀ k, ((f k &&& 2 ^ (i % 64) : Nat) : Int) = 0 ↔ (f k).testBit (i % 64) = false) := fun k => by
    rw [← and_bit]
    omega
  clear ho
  unfold wordsV
  go_enter Try.func73, Try.ntmps73
  go_wp2_with fail
  refine (bitOf_any i _ h1).mono ?_
  rintro e w1 ⟨rfl, rfl⟩
  generalize hb : 2 ^ (i % 64) = b at *
  have hj : i / 64 = 0 ∨ i / 64 = 1 ∨ i / 64 = 2 ∨ i / 64 = 3 := by omega
  have HB : Hid (∀ o : Obj, Below w.heap.size w (w.alloc o).drew) := fun o => ((Below.refl _ _).alloc (Nat.le_refl _) o).drew
  rcases hj with hj | hj | hj | hj
  · have h0 := HO.out 0
    have ha := HA.out 0
    have HF : Hid (hasF f i = (f 0).testBit (i % 64)) := by unfold hasF; rw [hj]; rfl
    rw [hj]
    cases ht : (f 0).testBit (i % 64) with
    | false =>
      have hz := ha.2 ht
      rw [ht] at HF
      clear ha ht
      go_wp2_with fail
      go_ret
      exact ⟨ret_bool (by rw [HF.out]), HB.out _⟩
    | true =>
      have hz : ¬ ((f 0 &&& b : Nat) : Int) = 0 := fun h => by
        have := ha.1 h
        rw [ht] at this
        cases this
      have hz2 : (((f 0 &&& b : Nat) : Int) != 0) = true := by simpa using hz
      rw [ht] at HF
      clear ha ht
      go_wp2_with fail
      go_ret
      exact ⟨ret_bool (by rw [HF.out]), HB.out _⟩
  · have h0 := HO.out 1
    have ha := HA.out 1
    have HF : Hid (hasF f i = (f 1).testBit (i % 64)) := by unfold hasF; rw [hj]; rfl
    rw [hj]
    cases ht : (f 1).testBit (i % 64) with
    | false =>
      have hz := ha.2 ht
      rw [ht] at HF
      clear ha ht
      go_wp2_with fail
      go_ret
      exact ⟨ret_bool (by rw [HF.out]), HB.out _⟩
    | true =>
      have hz : ¬ ((f 1 &&& b : Nat) : Int) = 0 := fun h => by
        have := ha.1 h
        rw [ht] at this
        cases this
      have hz2 : (((f 1 &&& b : Nat) : Int) != 0) = true := by simpa using hz
      rw [ht] at HF
      clear ha ht
      go_wp2_with fail
      go_ret
      exact ⟨ret_bool (by rw [HF.out]), HB.out _⟩
  · have h0 := HO.out 2
    have ha := HA.out 2
    have HF : Hid (hasF f i = (f 2).testBit (i % 64)) := by unfold hasF; rw [hj]; rfl
    rw [hj]
    cases ht : (f 2).testBit (i % 64) with
    | false =>
      have hz := ha.2 ht
      rw [ht] at HF
      clear ha ht
      go_wp2_with fail
      go_ret
      exact ⟨ret_bool (by rw [HF.out]), HB.out _⟩
    | true =>
      have hz : ¬ ((f 2 &&& b : Nat) : Int) = 0 := fun h => by
        have := ha.1 h
        rw [ht] at this
        cases this
      have hz2 : (((f 2 &&& b : Nat) : Int) != 0) = true := by simpa using hz
      rw [ht] at HF
      clear ha ht
      go_wp2_with fail
      go_ret
      exact ⟨ret_bool (by rw [HF.out]), HB.out _⟩
  · have h0 := HO.out 3
    have ha := HA.out 3
    have HF : Hid (hasF f i = (f 3).testBit (i % 64)) := by unfold hasF; rw [hj]; rfl
    rw [hj]
    cases ht : (f 3).testBit (i % 64) with
    | false =>
      have hz := ha.2 ht
      rw [ht] at HF
      clear ha ht
      go_wp2_with fail
      go_ret
      exact ⟨ret_bool (by rw [HF.out]), HB.out _⟩
    | true =>
      have hz : ¬ ((f 3 &&& b : Nat) : Int) = 0 := fun h => by
        have := ha.1 h
        rw [ht] at this
        cases this
      have hz2 : (((f 3 &&& b : Nat) : Int) != 0) = true := by simpa using hz
      rw [ht] at HF
      clear ha ht
      go_wp2_with fail
      go_ret
      exact ⟨ret_bool (by rw [HF.out]), HB.out _⟩

set_option maxHeartbeats 1000000 in
theorem bitWithout_any (f : Nat → Nat) (i : Nat) (w : World) (hf : ∀ k, f k < 18446744073709551616) (h1 : i < 256) :
    Calls Try.prog 74 #[wordsV f, .int .i64 ((i : Int) + 1)] w fun e w' => e = .returned (wordsV (clrF f i)) ∧ Below w.heap.size w w' := by
  have hp : 2 ^ (i % 64) < 18446744073709551616 := Nat.pow_lt_pow_right (a := 2) (n := 64) (by omega) (Nat.mod_lt _ (by omega))
  have ho : ∀ k, bits .andNot .u64 (f k : Int) ((2 ^ (i % 64) : Nat) : Int) = ((f k &&& (18446744073709551615 - 2 ^ (i % 64)) : Nat) : Int) := fun k => u64_andNot_nat (f k) (2 ^ (i % 64)) (hf k) hp
  have HO := hid ho
  clear ho
  unfold wordsV
  go_enter Try.func74, Try.ntmps74
  go_wp2_with fail
  refine (bitOf_any i _ h1).mono ?_
  rintro e w1 ⟨rfl, rfl⟩
  generalize hb : 2 ^ (i % 64) = b at *
  have hj : i / 64 = 0 ∨ i / 64 = 1 ∨ i / 64 = 2 ∨ i / 64 = 3 := by omega
  have HB : Hid (∀ o o' : Obj, Below w.heap.size w ((w.alloc o).alloc o').drew) := fun o o' => (((Below.refl _ _).alloc (Nat.le_refl _) o).alloc (by simp) o').drew
  rcases hj with hj | hj | hj | hj
  · obtain ⟨q, hq⟩ : ∃ q, q = (f 0 &&& (18446744073709551615 - b)) := ⟨_, rfl⟩
    have h0 := HO.out 0
    rw [← hq] at h0
    have HF : Hid ((.agg #[.int .u64 ((q : Nat) : Int), .int .u64 (f 1 : Int), .int .u64 (f 2 : Int), .int .u64 (f 3 : Int)] : Value) = .agg #[.int .u64 (clrF f i 0 : Int), .int .u64 (clrF f i 1 : Int), .int .u64 (clrF f i 2 : Int), .int .u64 (clrF f i 3 : Int)]) := by
      unfold clrF
      rw [hj, hb, hq]
      rfl
    clear hq
    rw [hj]
    go_wp2_with fail
    refine bodyPost_ret (v := .agg #[.int .u64 ((q : Nat) : Int), .int .u64 (f 1 : Int), .int .u64 (f 2 : Int), .int .u64 (f 3 : Int)]) (by simp [results, Try.results74, go_sem]) rfl ⟨by rw [HF.out], HB.out _ _⟩
  · obtain ⟨q, hq⟩ : ∃ q, q = (f 1 &&& (18446744073709551615 - b)) := ⟨_, rfl⟩
    have h0 := HO.out 1
    rw [← hq] at h0
    have HF : Hid ((.agg #[.int .u64 (f 0 : Int), .int .u64 ((q : Nat) : Int), .int .u64 (f 2 : Int), .int .u64 (f 3 : Int)] : Value) = .agg #[.int .u64 (clrF f i 0 : Int), .int .u64 (clrF f i 1 : Int), .int .u64 (clrF f i 2 : Int), .int .u64 (clrF f i 3 : Int)]) := by
      unfold clrF
      rw [hj, hb, hq]
      rfl
    clear hq
    rw [hj]
    go_wp2_with fail
    refine bodyPost_ret (v := .agg #[.int .u64 (f 0 : Int), .int .u64 ((q : Nat) : Int), .int .u64 (f 2 : Int), .int .u64 (f 3 : Int)]) (by simp [results, Try.results74, go_sem]) rfl ⟨by rw [HF.out], HB.out _ _⟩
  · obtain ⟨q, hq⟩ : ∃ q, q = (f 2 &&& (18446744073709551615 - b)) := ⟨_, rfl⟩
    have h0 := HO.out 2
    rw [← hq] at h0
    have HF : Hid ((.agg #[.int .u64 (f 0 : Int), .int .u64 (f 1 : Int), .int .u64 ((q : Nat) : Int), .int .u64 (f 3 : Int)] : Value) = .agg #[.int .u64 (clrF f i 0 : Int), .int .u64 (clrF f i 1 : Int), .int .u64 (clrF f i 2 : Int), .int .u64 (clrF f i 3 : Int)]) := by
      unfold clrF
      rw [hj, hb, hq]
      rfl
    clear hq
    rw [hj]
    go_wp2_with fail
    refine bodyPost_ret (v := .agg #[.int .u64 (f 0 : Int), .int .u64 (f 1 : Int), .int .u64 ((q : Nat) : Int), .int .u64 (f 3 : Int)]) (by simp [results, Try.results74, go_sem]) rfl ⟨by rw [HF.out], HB.out _ _⟩
  · obtain ⟨q, hq⟩ : ∃ q, q = (f 3 &&& (18446744073709551615 - b)) := ⟨_, rfl⟩
    have h0 := HO.out 3
    rw [← hq] at h0
    have HF : Hid ((.agg #[.int .u64 (f 0 : Int), .int .u64 (f 1 : Int), .int .u64 (f 2 : Int), .int .u64 ((q : Nat) : Int)] : Value) = .agg #[.int .u64 (clrF f i 0 : Int), .int .u64 (clrF f i 1 : Int), .int .u64 (clrF f i 2 : Int), .int .u64 (clrF f i 3 : Int)]) := by
      unfold clrF
      rw [hj, hb, hq]
      rfl
    clear hq
    rw [hj]
    go_wp2_with fail
    refine bodyPost_ret (v := .agg #[.int .u64 (f 0 : Int), .int .u64 (f 1 : Int), .int .u64 (f 2 : Int), .int .u64 ((q : Nat) : Int)]) (by simp [results, Try.results74, go_sem]) rfl ⟨by rw [HF.out], HB.out _ _⟩

theorem FilledB.below {w w' : World} {g : Nat} {xs : List Bool} {k : Nat} (h : FilledB w g xs k) (hb : Below w.heap.size w w') : FilledB w' g xs k := by
  obtain ⟨cs, ho, hx⟩ := h
  exact ⟨cs, ho.kept (below_grown hb) (.inr (by simp [Value.ownBlock])), hx⟩
theorem Row2.farB {w : World} {g g' : Nat} {t : TypeId} {a b : Value} {xs : List Bool} {k : Nat} (h : Row2 w g t a b) (h' : FilledB w g' xs k) (hne : g ≠ g') (j : Nat) (v : Value) : Row2 (w.setCell ⟨g', j, none⟩ v) g t a b := by
  obtain ⟨cs, ho, _⟩ := h'
  exact h.kept (ho.stored j v).2 (.inr (by simp [Value.ownBlock]; omega))
theorem RowQ.farB {w : World} {g g' : Nat} {a b c d : Value} {xs : List Bool} {k : Nat} (h : RowQ w g a b c d) (h' : FilledB w g' xs k) (hne : g ≠ g') (j : Nat) (v : Value) : RowQ (w.setCell ⟨g', j, none⟩ v) g a b c d := by
  obtain ⟨cs, ho, _⟩ := h'
  exact h.kept (ho.stored j v).2 (.inr (by simp [Value.ownBlock]; omega))
theorem FilledB.far2 {w : World} {g g' : Nat} {t : TypeId} {a b : Value} {xs : List Bool} {k : Nat} (h : FilledB w g xs k) (h' : Row2 w g' t a b) (hne : g ≠ g') (j : Nat) (v : Value) : FilledB (w.setCell ⟨g', j, none⟩ v) g xs k := by
  obtain ⟨cs, ho, hx⟩ := h
  exact ⟨cs, ho.kept (h'.stored j v).2 (.inr (by simp [Value.ownBlock]; omega)), hx⟩

set_option maxHeartbeats 8000000 in
theorem flags_any (f : Nat → Nat) (xs : List Bool) (w : World) (hf : ∀ k, f k < 18446744073709551616) (hx : xs = flagsL f xs.length) (hn : xs.length ≤ 200) :
    Calls Try.prog 75 #[wordsV f, .int .i64 (xs.length : Int)] w (MadeBits w (xs.length : Int) xs) := by
  obtain ⟨i0, hi, hz0, hz1, hz2⟩ := info_parts boolInfo
  have HX : Hid (∀ k (h : k < xs.length) W, Calls Try.prog 73 #[wordsV f, .int .i64 ((k : Int) + 1)] W fun e w' => e = .returned (.bool xs[k]) ∧ Below W.heap.size W w') := fun k h W => by
    have e : xs[k] = hasF f k := by
      have h2 : k < (flagsL f xs.length).length := by rw [← hx]; exact h
      have := flagsL_get f xs.length k h2
      rw [← this]
      congr 1
    rw [e]
    exact has_any f k W hf (by omega)
  have q1 := RowQ.lit w (.int .u64 (f 0 : Int)) (.int .u64 (f 1 : Int)) (.int .u64 (f 2 : Int)) (.int .u64 (f 3 : Int))
  have q2 := Row2.lit (w.alloc (.cells #[.int .u64 (f 0 : Int), .int .u64 (f 1 : Int), .int .u64 (f 2 : Int), .int .u64 (f 3 : Int)] 104)) 54 (.int .i64 0) (.slice none 0 0)
  have q3 := q1.below ((Below.refl _ _).alloc (Nat.le_refl _) (.cells #[.int .i64 0, .slice none 0 0] 54))
  have b3 : Below w.heap.size w ((w.alloc (.cells #[.int .u64 (f 0 : Int), .int .u64 (f 1 : Int), .int .u64 (f 2 : Int), .int .u64 (f 3 : Int)] 104)).alloc (.cells #[.int .i64 0, .slice none 0 0] 54)) := ((Below.refl _ _).alloc (Nat.le_refl _) _).alloc (by simp) _
  simp only [World.size_alloc] at q2
  have Q2 := hid q2
  have Q3 := hid q3
  have B3 := hid b3
  clear hx hf q1 q2 q3 b3
  unfold wordsV at HX ⊢
  go_enter Try.func75, Try.ntmps75
  go_wp2_with (at_make; refine wpList_make_full _ rfl _ _ 49 rfl (w.heap.size + 1 + 1) 4 i0 _ 1 Try.underlying49 hi hz0 hz1 _ _ _ _ xs.length rfl rfl rfl rfl (by rw [hz2]; omega) (by unfold maxLen; omega) (by simp) ?_; intro w1 hown1 hg1; have P3 := hid ((Below.refl (World.heap _).size _).grown hg1 (Nat.le_refl _) (by simp)); have O3 := hid hown1; clear hown1 hg1)
  simp only [World.size_alloc] at O3
  have hs1 : w.heap.size + 3 ≤ w1.heap.size := by
    have : w.heap.size + 1 + 1 < w1.heap.size := (World.ownsRow.lt O3.out _ rfl).2
    omega
  have hb5 : Below w1.heap.size w1 (w1.alloc (.cells #[.int .i64 (xs.length : Int), .slice (some ⟨w.heap.size + 1 + 1, 0, none⟩) xs.length xs.length] 54)) := (Below.refl _ _).alloc (Nat.le_refl _) _
  have hy5 := Row2.lit w1 54 (.int .i64 (xs.length : Int)) (.slice (some ⟨w.heap.size + 1 + 1, 0, none⟩) xs.length xs.length)
  have Y5 := hid hy5
  have Q25 := hid ((Q2.out.below P3.out).below hb5)
  have Q35 := hid ((Q3.out.below P3.out).below hb5)
  have B5 := hid ((B3.out.trans (P3.out.mono B3.out.size)).trans (hb5.mono (by omega)))
  have F5 : Hid (FilledB (w1.alloc (.cells #[.int .i64 (xs.length : Int), .slice (some ⟨w.heap.size + 1 + 1, 0, none⟩) xs.length xs.length] 54)) (w.heap.size + 1 + 1) xs 0) := FilledB.below ⟨_, O3.out, fun i s _ h => absurd h (by omega)⟩ hb5
  clear hb5 hy5
  go_loopw [14] (fun i wr => ∃ k : Nat, k ≤ xs.length ∧ i = .int .i64 k ∧ FilledB wr (w.heap.size + 1 + 1) xs k ∧ Row2 wr w1.heap.size 54 (.int .i64 (xs.length : Int)) (.slice (some ⟨w.heap.size + 1 + 1, 0, none⟩) xs.length xs.length) ∧ RowQ wr w.heap.size (.int .u64 (f 0 : Int)) (.int .u64 (f 1 : Int)) (.int .u64 (f 2 : Int)) (.int .u64 (f 3 : Int)) ∧ Row2 wr (w.heap.size + 1) 54 (.int .i64 0) (.slice none 0 0) ∧ w1.heap.size < wr.heap.size ∧ Below w.heap.size w wr) (fun i _ => xs.length - (intOf i).toNat)
  case atStart => exact ⟨0, Nat.zero_le _, rfl, F5.out, Y5.out, Q35.out, Q25.out, by simp, B5.out⟩
  case round =>
    obtain ⟨k, hk, rfl, hfl, hy, hq, hz, hsz, hbw⟩ := hrel
    have FL := hid hfl
    have YR := hid hy
    have QR := hid hq
    have ZR := hid hz
    have HD := hid hbw
    by_cases hlt : k < xs.length
    · have wk : IntKind.i64.wrap ((k : Int) + 1) = (k : Int) + 1 := IntWalk.i64_in _ (by omega)
      have cB := hid (HX.out k hlt)
      rw [← wk] at cB
      clear wk
      have y1 := hy.c1
      have q0 := hq.c0
      have q1 := hq.c1
      have q2 := hq.c2
      have q3 := hq.c3
      clear hfl hy hq hz hbw
      go_wp2_with fail
      go_region_with (first | (go_at_call 73; refine (cB.out _).mono ?_; rintro e wa ⟨rfl, hba⟩; have HBA : Hid (Below wr.heap.size wr wa) := (by first | exact hba | exact (Below.refl wr.heap.size wr).drew.trans hba | exact (Below.refl wr.heap.size wr).drew.drew.trans hba); clear hba; have y2 := (YR.out.below HBA.out).c1; obtain ⟨u, hu⟩ := (FL.out.below HBA.out).cell hlt; have fu := (FL.out.below HBA.out).frozen k))
      all_goals
        have FA := hid (FL.out.below HBA.out)
        have YA := hid (YR.out.below HBA.out)
        have QA := hid (QR.out.below HBA.out)
        have ZA := hid (ZR.out.below HBA.out)
        have HDA := hid (HD.out.trans (HBA.out.mono HD.out.size))
        have hsa := HBA.out.size
        go_wp2_with fail
        refine ⟨⟨k + 1, by omega, by go_num, FA.out.store hlt, YA.out.farB FA.out (by omega) _ _, QA.out.farB FA.out (by omega) _ _, ZA.out.farB FA.out (by omega) _ _, by simp; omega, HDA.out.setCell (by simp; omega) _⟩, by simp [intOf]; omega⟩
    · obtain rfl : k = xs.length := by omega
      have y0 := hy.c0
      have y1 := hy.c1
      have g0 := hz.fz 0
      have g1 := hz.fz 1
      have e0 := hz.c0
      have e1 := hz.c1
      clear hfl hy hq hz hbw
      go_wp2_with fail
      refine world_post (S := fun wq => Row2 wq (w.heap.size + 1) 54 (.int .i64 (xs.length : Int)) (.slice (some ⟨w.heap.size + 1 + 1, 0, none⟩) xs.length xs.length) ∧ FilledB wq (w.heap.size + 1 + 1) xs xs.length ∧ Below w.heap.size w wq) _ ⟨(ZR.out.s0 _).s1 _, (FL.out.far2 ZR.out (by omega) 0 _).far2 (ZR.out.s0 _) (by omega) 1 _, (HD.out.setCell (p := ⟨w.heap.size + 1, 0, none⟩) (by simp) _).setCell (p := ⟨w.heap.size + 1, 1, none⟩) (by simp) _⟩ ?_
      clear y0 y1 g0 g1 e0 e1
      intro wq ⟨hq, hp, hb⟩
      have q0 := hq.c0
      have q1 := hq.c1
      exact bodyPost_ret (v := .agg #[.int .i64 (xs.length : Int), .slice (some ⟨w.heap.size + 1 + 1, 0, none⟩) xs.length xs.length]) (by simp [results, Try.results75, go_sem, q0, q1]) rfl ⟨_, _, rfl, OwnB.mono hp.end_ (by omega), hb⟩
end Go.Proofs.Ytaiehccpefjbfaa
