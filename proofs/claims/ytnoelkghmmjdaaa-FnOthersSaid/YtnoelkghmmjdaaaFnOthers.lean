/-
  FnOthers: the walk.
-/
import Derived.Test.YtnoelkghmmjdaaaSameMap
import Derived.Test.YtnoelkghmmjdaaaMemFacts
import Derived.Test.YtnoelkghmmjdaaaDrawsB
namespace Go.Proofs.Ytnoelkghmmjdaaa
open Go.RowKit

theorem putR_len (ps : PS) (k v : ByteArray) : (putR ps k v).length ≤ ps.length + 1 := by
  unfold putR
  split
  · exact putL_len_le ps k v
  · simp
theorem putR_fits {ps : PS} {k v : ByteArray} (h : Fits ps) (hk : k.size ≤ maxLen) (hv : v.size ≤ maxLen) : Fits (putR ps k v) := by
  unfold putR
  split
  · exact h.put hk hv
  · exact fun p hp => by simp at hp

set_option maxHeartbeats 8000000 in
set_option maxRecDepth 200000 in
theorem fnOthers_walk (A : Option Addr) (n c : Nat) (w : World) (hc : CB w w.heap.size A n) (hn : n ≤ maxLen) :
    Calls Try.prog 6 #[.slice A n c] w fun e w' => e = .returned (.bool true) ∧ Below w.heap.size w w' := by
  have HC := hid hc
  clear hc
  unfold maxLen at hn
  go_enter Try.func6, Try.ntmps6
  go_wp2_with fail
  refine (big_any A n c _).mono ?_
  rintro e w0 ⟨rfl, rfl⟩
  by_cases hbig : (1048576 : Int) < (n : Int)
  · go_wp2_with fail
    go_ret
    exact ⟨rfl, Below.refl _ _⟩
  go_wp2_with fail
  refine (drawPut_any A n c _ HC.out (by omega)).mono ?_
  rintro e w1 ⟨A1, c1, ps, k, v, rfl, ho1, hs1, hl1, hk1, hv1, hb1⟩
  have HO1 := hid ho1
  have HF1 := hid hs1.fits
  have hkz : k.size ≤ maxLen := by unfold maxLen; omega
  have hvz : v.size ≤ maxLen := by unfold maxLen; omega
  have HKZ := hid hkz
  have HVZ := hid hvz
  have HC1 : Hid (CB w1 w1.heap.size A n) := by
    have h := HC.out.grown (grown_of_below (r := none) hb1) (Nat.le_refl _) (by simp)
    rcases h with h | ⟨b, off, e, hb', hx⟩
    · exact .inl h
    · exact .inr ⟨b, off, e, Nat.lt_of_lt_of_le hb' hb1.size, hx⟩
  clear ho1 hs1 hkz hvz
  go_wp2_with fail
  refine (drawTreeOf_any A n c _ HC1.out (by omega)).mono ?_
  rintro e w2 ⟨A2, c2, qs, rfl, ho2, hs2, hl2, hw2⟩
  have hb2 := hb1.trans (hw2.mono hb1.size)
  have HQ2 := hid ho2
  have HS2 := hid hs2
  have R2 := hid (HO1.out.below hw2)
  clear ho2 hs2 hw2
  go_wp2_with fail
  refine (impl_Put A1 c1 ps k v _ R2.out.rp R2.out.vs HF1.out (by omega) HKZ.out HVZ.out).mono ?_
  rintro e w3 ⟨A3, c3, rfl, ho3, hw3⟩
  have hb3 := hb2.trans (hw3.mono hb2.size)
  have HO3 := hid ho3
  have R3 := hid (R2.out.below hw3)
  have Q3 := hid (HQ2.out.below hw3)
  clear ho3 hw3
  go_wp2_with fail
  refine (spec_Put A1 c1 ps k v _ R3.out.rp HF1.out (by omega) HKZ.out HVZ.out).mono ?_
  rintro e w4 ⟨A4, c4, rfl, ho4, hw4⟩
  have HB4 := hid (hb3.trans (hw4.mono hb3.size))
  have N4 := hid (HO3.out.below hw4)
  have R4 := hid (R3.out.below hw4)
  have Q4 := hid (Q3.out.below hw4)
  clear ho4 hw4 hb1 hb2 hb3
  cases hp : putB ps k v
  · go_wp2_with fail
    go_ret
    exact ⟨rfl, HB4.out⟩
  · by_cases h0 : qs.length = 0
    · have g0 : ((qs.length : Int) == 0) = true := by rw [h0]; rfl
      have H0 := hid h0
      clear h0
      go_wp2_with fail
      go_ret
      exact ⟨rfl, HB4.out⟩
    · have g0 : ((qs.length : Int) == 0) = false := by simp; intro h; exact h0 (by simp [h])
      have hlt : 0 < qs.length := by omega
      obtain ⟨b, off, rfl, hb, hc1, hc2⟩ := Q4.out.rp.at_ hlt
      have HZ := hid (HS2.out _ (List.getElem_mem hlt))
      simp only [Nat.zero_mul, Nat.add_zero] at hc1 hc2
      have f1 : (0 : Int) < (qs.length : Int) := by omega
      clear h0
      by_cases he : qs[0].1 = k
      · have g1 := eqS_true he
        clear he
        go_wp2_with fail
        go_ret
        exact ⟨rfl, HB4.out⟩
      · have g1 := eqS_false he
        have hlz : qs[0].1.size ≤ maxLen := by have := HZ.out.1; unfold maxLen; omega
        have huz : qs[0].2.size ≤ maxLen := by have := HZ.out.2; unfold maxLen; omega
        have HLZ := hid hlz
        have HUZ := hid huz
        have hfl := others_flag (l := qs[0].1) (u := qs[0].2) hp (fun e => he e.symm)
        rw [← putR_yes hp] at hfl
        have HFL := hid hfl
        have hA := putR_len ps k v
        have HFA := hid (putR_fits (k := k) (v := v) HF1.out HKZ.out HVZ.out)
        have hB := putR_len ps qs[0].1 qs[0].2
        have HFB := hid (putR_fits (k := qs[0].1) (v := qs[0].2) HF1.out HLZ.out HUZ.out)
        have hBB := putR_len (putR ps k v) qs[0].1 qs[0].2
        have HBB : Hid ((putR (putR ps k v) qs[0].1 qs[0].2).length ≤ maxLen) := by show _ ≤ 2 ^ 63 - 1; omega
        have HW4 : Hid (∀ w' : World, Below w4.heap.size w4 w' → w'.cell? ⟨b, off, none⟩ = some (.string qs[0].1) ∧ w'.cell? ⟨b, off + 1, none⟩ = some (.string qs[0].2)) := fun w' h => ⟨(h.cell (p := ⟨b, off, none⟩) hb).trans hc1, (h.cell (p := ⟨b, off + 1, none⟩) hb).trans hc2⟩
        clear he hfl hlz huz hBB
        go_wp2_with fail
        go_region_held3 (fun w' => w'.cell? ⟨b, off, none⟩ = some (.string qs[0].1) ∧ w'.cell? ⟨b, off + 1, none⟩ = some (.string qs[0].2)) (go_keep)
          (first
            | (go_at_call 17; refine (impl_Put A3 c3 (putR ps k v) qs[0].1 qs[0].2 _ (N4.out.below (Below.refl _ _).drew).rp N4.out.vs HFA.out (by omega) HLZ.out HUZ.out).mono ?_; rintro e w5 ⟨A5, c5, rfl, ho5, hw5⟩; have W5 := hid ((Below.refl w4.heap.size w4).drew.trans hw5); have hd1 := (HW4.out w5 W5.out).1; have hd2 := (HW4.out w5 W5.out).2; have O5 := hid ho5; have R5 := hid (R4.out.below W5.out); clear ho5 hw5))
        clear hc1 hc2
        go_wp2_with fail
        go_region_held3 (fun w' => w'.cell? ⟨b, off, none⟩ = some (.string qs[0].1) ∧ w'.cell? ⟨b, off + 1, none⟩ = some (.string qs[0].2)) (go_keep)
          (first
            | (go_at_call 17; refine (impl_Put A1 c1 ps qs[0].1 qs[0].2 _ (R5.out.below (Below.refl _ _).drew).rp R5.out.vs HF1.out (by omega) HLZ.out HUZ.out).mono ?_; rintro e w6 ⟨A6, c6, rfl, ho6, hw6⟩; have V6 := hid ((Below.refl w5.heap.size w5).drew.trans hw6); have W6 := hid (W5.out.trans (V6.out.mono W5.out.size)); have hd3 := (HW4.out w6 W6.out).1; have hd4 := (HW4.out w6 W6.out).2; have P6 := hid ho6; have O6 := hid (O5.out.below V6.out); clear ho6 hw6))
        clear hd1 hd2 hd3 hd4
        go_wp2_with fail
        refine (impl_Put A6 c6 (putR ps qs[0].1 qs[0].2) k v _ P6.out.rp P6.out.vs HFB.out (by omega) HKZ.out HVZ.out).mono ?_
        rintro e w7 ⟨A7, c7, rfl, ho7, hw7⟩
        have W7 := hid (W6.out.trans (hw7.mono W6.out.size))
        have P7 := hid ho7
        have O7 := hid (O6.out.below hw7)
        have HB7 := hid (HB4.out.trans (W7.out.mono HB4.out.size))
        clear ho7 hw7
        have h1 := HFL.out.1
        cases h2 : putB ps qs[0].1 qs[0].2
        · rw [h2, Bool.false_and] at h1
          rw [h1]
          go_wp2_with fail
          go_ret
          exact ⟨rfl, HB7.out⟩
        · cases h3 : putB (putR ps qs[0].1 qs[0].2) k v
          · rw [h2, h3, Bool.true_and] at h1
            rw [h1]
            go_wp2_with fail
            go_ret
            exact ⟨rfl, HB7.out⟩
          · rw [h2, h3, Bool.true_and] at h1
            have HEQ := hid (HFL.out.2 h1)
            rw [h1]
            have ht : decide (putR (putR ps k v) qs[0].1 qs[0].2 = putR (putR ps qs[0].1 qs[0].2) k v) = true := by simpa using HEQ.out
            go_wp2_with fail
            refine (sameMap_any A5 A7 c5 c7 _ _ _ _ O7.out.rp P7.out.rp HBB.out).mono ?_
            rintro e w8 ⟨rfl, hw8⟩
            have HB8 := hid (HB7.out.trans (hw8.below _))
            clear hw8
            go_wp2_with fail
            go_ret
            exact ⟨rfl, HB8.out⟩
end Go.Proofs.Ytnoelkghmmjdaaa
