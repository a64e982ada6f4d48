/-
  FnMapPieces: the walk.
-/
import Derived.Test.YtjdmaoegfpgfjaaSameMap
import Derived.Test.YtjdmaoegfpgfjaaMemFacts
import Derived.Test.YtjdmaoegfpgfjaaDrawsB
import Derived.Test.YtjdmaoegfpgfjaaRange
namespace Go.Proofs.Ytjdmaoegfpgfjaa
open Go.RowKit

abbrev midB : ByteArray := ⟨#[102]⟩
theorem midB_list : midB.toList = [102] := by rw [ByteArray.toList_eq]
theorem rangeR_len (ps : PS) (lo hi : ByteArray) : (rangeR ps lo hi).length ≤ ps.length := by
  unfold rangeR
  split
  · exact rangeL_len ps lo hi
  · simp

set_option maxHeartbeats 3000000 in
set_option maxRecDepth 200000 in
theorem fnMapPieces_walk (A : Option Addr) (n c : Nat) (w : World) (hc : CB w w.heap.size A n) (hn : n ≤ maxLen) :
    Calls Try.prog 5 #[.slice A n c] w fun e w' => e = .returned (.bool true) ∧ Below w.heap.size w w' := by
  have HC := hid hc
  clear hc
  obtain ⟨i0, hi0, hz0, hz1, hz2⟩ := info_parts pairInfo
  unfold maxLen at hn
  go_enter Try.func5, Try.ntmps5
  go_wp2_with fail
  refine (big_any A n c _).mono ?_
  rintro e w0 ⟨rfl, rfl⟩
  by_cases hbig : (1048576 : Int) < (n : Int)
  · go_wp2_with fail
    go_ret
    exact ⟨rfl, Below.refl _ _⟩
  go_wp2_with fail
  refine (drawRange_any A n c _ HC.out (by omega)).mono ?_
  rintro e w1 ⟨A1, c1, ps, lo, hi, rfl, ho1, hs1, hl1, hk1, hv1, hb1⟩
  have HO1 := hid ho1
  have HF1 := hid hs1.fits
  have HB1 := hid hb1
  clear ho1 hs1 hb1
  go_wp2_with fail
  refine (impl_Range A1 c1 ps lo hi _ HO1.out.rp HO1.out.vs HF1.out (by omega)).mono ?_
  rintro e w2 ⟨A2, c2, rfl, ho2, hw2⟩
  have HB2 := hid (HB1.out.trans (hw2.mono HB1.out.size))
  have N2 := hid ho2
  have R2 := hid (HO1.out.below hw2)
  clear ho2 hw2
  go_wp2_with fail
  refine (spec_Range A1 c1 ps lo hi _ R2.out.rp HF1.out (by omega)).mono ?_
  rintro e w3 ⟨A3, c3, rfl, ho3, hw3⟩
  have HB3 := hid (HB2.out.trans (hw3.mono HB2.out.size))
  have O3 := hid ho3
  have N3 := hid (N2.out.below hw3)
  have R3 := hid (R2.out.below hw3)
  clear ho3 hw3
  have hrl := rangeR_len ps lo hi
  have HLEN : Hid ((rangeR ps lo hi).length ≤ maxLen) := by show _ ≤ 2 ^ 63 - 1; omega
  have HPL : Hid (ps.length ≤ maxLen) := by show _ ≤ 2 ^ 63 - 1; omega
  have ht : decide (rangeR ps lo hi = rangeR ps lo hi) = true := by simp
  go_wp2_with fail
  refine (sameMap_any A2 A3 c2 c3 (rangeR ps lo hi) (rangeR ps lo hi) _ _ N3.out.rp O3.out.rp HLEN.out).mono ?_
  rintro e w4 ⟨rfl, hw4⟩
  have HB4 := hid (HB3.out.trans (hw4.below _))
  have N4 := hid (N3.out.below (hw4.below _))
  have R4 := hid (R3.out.below (hw4.below _))
  clear hw4
  go_wp2_with fail
  refine (spec_MapOk A1 c1 ps _ _ R4.out.rp HF1.out HPL.out).mono ?_
  rintro e w5 ⟨rfl, hw5⟩
  have HB5 := hid (HB4.out.trans (hw5.below _))
  have N5 := hid (N4.out.below (hw5.below _))
  have R5 := hid (R4.out.below (hw5.below _))
  clear hw5
  cases hm : mapB ps
  · go_wp2_with fail
    refine (spec_Range A1 c1 ps lo hi _ R5.out.rp HF1.out (by omega)).mono ?_
    rintro e w6 ⟨A6, c6, rfl, ho6, hw6⟩
    have HB6 := hid (HB5.out.trans (hw6.mono HB5.out.size))
    have O6 := hid ho6
    have N6 := hid (N5.out.below hw6)
    clear ho6 hw6
    go_wp2_with fail
    refine (sameMap_any A2 A6 c2 c6 (rangeR ps lo hi) (rangeR ps lo hi) _ _ N6.out.rp O6.out.rp HLEN.out).mono ?_
    rintro e w7 ⟨rfl, hw7⟩
    have HB7 := hid (HB6.out.trans (hw7.below _))
    clear hw7
    go_wp2_with fail
    go_ret
    exact ⟨rfl, HB7.out⟩
  · have HRR : Hid (∀ a b, rangeR ps a b = rangeL ps a b) := fun a b => by rw [rangeR, hm, if_pos rfl]
    have HS := hid (mapB_iff.1 hm).2.2
    have P5 := hid R5.out.rp
    have Q5 := hid N5.out.rp
    have U5 : Hid (∀ o : Obj, Below w5.heap.size w5 (w5.alloc o)) := fun o => (Below.refl _ _).alloc (Nat.le_refl _) o
    clear hm
    cases h1 : ltS midB lo
    · have q1 : Op.bytesLess [102] lo.toList = false := by rw [← midB_list]; exact h1
      have q1' : Op.bytesLess (ByteArray.toList ⟨#[102]⟩) lo.toList = false := h1
      have fin : Hid (hi.size = 0 ∨ ltS hi midB = false → rangeR ps lo midB ++ rangeR ps midB hi = rangeR ps lo hi) := by
        intro h
        rw [HRR.out, HRR.out, HRR.out]
        exact range_glue HS.out (by decide) h1 h
      by_cases h2 : hi.size = 0
      · have g2 : (hi.toList != []) = false := by rw [empty_yes h2]; rfl
        have g3 := empty_yes h2
        have HE := hid (fin.out (.inl h2))
        clear h2 h1
        go_wp2_with fail
        refine (impl_Range A1 c1 ps lo midB _ ((P5.out.below (U5.out _)).more (U5.out _).size) R5.out.vs HF1.out (by omega)).mono ?_
        rintro e w6 ⟨A6, c6, rfl, ho6, hw6⟩
        have X6 := hid ho6
        have E6 := hid ((OwnP.made (w := w5) (Nat.le_refl _) #[] 0 rfl (Nat.zero_le _)).below hw6)
        have U6 := hid ((U5.out _).trans (hw6.mono (U5.out _).size))
        clear ho6 hw6
        go_wp2_with (at_builtin; refine wpList_append_rp _ rfl _ _ _ rfl i0 Try.underlying24 hi0 hz0 hz1 hz2 w5.heap.size _ _ _ [] rfl rfl E6.out _ _ _ _ (rangeR ps lo midB) rfl rfl X6.out.rp (by have := rangeR_len ps lo midB; simp; omega) (by have := U6.out.size; omega) ?_; intro A7 n7 c7 w7 hn7 hown7 hbw7; have HN7 := hid hn7; have X7 := hid hown7; have U7 := hid (U6.out.trans hbw7); clear hn7 hown7 hbw7)
        go_wp2_with fail
        refine (impl_Range A1 c1 ps midB hi _ ((P5.out.below U7.out).more U7.out.size) R5.out.vs HF1.out (by omega)).mono ?_
        rintro e w8 ⟨A8, c8, rfl, ho8, hw8⟩
        have Y8 := hid ho8
        have X8 := hid (X7.out.below hw8)
        have U8 := hid (U7.out.trans (hw8.mono U7.out.size))
        clear ho8 hw8
        go_wp2_with (at_builtin; refine wpList_append_rp _ rfl _ _ _ rfl i0 Try.underlying24 hi0 hz0 hz1 hz2 w5.heap.size A7 n7 c7 ([] ++ rangeR ps lo midB) rfl HN7.out X8.out _ _ _ _ (rangeR ps midB hi) rfl rfl Y8.out.rp (by have := rangeR_len ps lo midB; have := rangeR_len ps midB hi; simp; omega) (by have := U8.out.size; omega) ?_; intro A9 n9 c9 w9 hn9 hown9 hbw9; have HN9 := hid hn9; have X9 := hid hown9; have U9 := hid (U8.out.trans hbw9); clear hn9 hown9 hbw9)
        have ht2 : decide ([] ++ rangeR ps lo midB ++ rangeR ps midB hi = rangeR ps lo hi) = true := by simpa using HE.out
        have HL9 : Hid (([] ++ rangeR ps lo midB ++ rangeR ps midB hi).length ≤ maxLen) := by
          have h1 := rangeR_len ps lo midB
          have h2 := rangeR_len ps midB hi
          show _ ≤ 2 ^ 63 - 1
          simp
          omega
        have hsm := sameMap_any A9 A2 c9 c2 _ (rangeR ps lo hi) _ _ X9.out.rp ((Q5.out.below U9.out).more U9.out.size) HL9.out
        rw [ht2, ← HN9.out] at hsm
        have HSM := hid hsm
        clear hsm ht2
        go_wp2_with fail
        refine HSM.out.mono ?_
        rintro e w10 ⟨rfl, hw10⟩
        have HB10 := hid (HB5.out.trans ((U9.out.trans (hw10.below _)).mono HB5.out.size))
        clear hw10
        go_wp2_with fail
        go_ret
        exact ⟨rfl, HB10.out⟩
      · have g2 : (hi.toList != []) = true := by
          have := empty_no h2
          cases hx : hi.toList with
          | nil => rw [hx] at this; cases this
          | cons a r => rfl
        have g4 := empty_no h2
        cases h3 : ltS hi midB
        · have HE := hid (fin.out (.inr h3))
          by_cases h4 : midB = hi
          · have g5 : Op.bytesLess [102] hi.toList = false := by rw [← h4, midB_list]; rfl
            have g6 : (([102] : List UInt8) == hi.toList) = true := by rw [← h4, midB_list]; rfl
            clear h1 h2 h3 h4
            go_wp2_with fail
            refine (impl_Range A1 c1 ps lo midB _ ((P5.out.below (U5.out _)).more (U5.out _).size) R5.out.vs HF1.out (by omega)).mono ?_
            rintro e w6 ⟨A6, c6, rfl, ho6, hw6⟩
            have X6 := hid ho6
            have E6 := hid ((OwnP.made (w := w5) (Nat.le_refl _) #[] 0 rfl (Nat.zero_le _)).below hw6)
            have U6 := hid ((U5.out _).trans (hw6.mono (U5.out _).size))
            clear ho6 hw6
            go_wp2_with (at_builtin; refine wpList_append_rp _ rfl _ _ _ rfl i0 Try.underlying24 hi0 hz0 hz1 hz2 w5.heap.size _ _ _ [] rfl rfl E6.out _ _ _ _ (rangeR ps lo midB) rfl rfl X6.out.rp (by have := rangeR_len ps lo midB; simp; omega) (by have := U6.out.size; omega) ?_; intro A7 n7 c7 w7 hn7 hown7 hbw7; have HN7 := hid hn7; have X7 := hid hown7; have U7 := hid (U6.out.trans hbw7); clear hn7 hown7 hbw7)
            go_wp2_with fail
            refine (impl_Range A1 c1 ps midB hi _ ((P5.out.below U7.out).more U7.out.size) R5.out.vs HF1.out (by omega)).mono ?_
            rintro e w8 ⟨A8, c8, rfl, ho8, hw8⟩
            have Y8 := hid ho8
            have X8 := hid (X7.out.below hw8)
            have U8 := hid (U7.out.trans (hw8.mono U7.out.size))
            clear ho8 hw8
            go_wp2_with (at_builtin; refine wpList_append_rp _ rfl _ _ _ rfl i0 Try.underlying24 hi0 hz0 hz1 hz2 w5.heap.size A7 n7 c7 ([] ++ rangeR ps lo midB) rfl HN7.out X8.out _ _ _ _ (rangeR ps midB hi) rfl rfl Y8.out.rp (by have := rangeR_len ps lo midB; have := rangeR_len ps midB hi; simp; omega) (by have := U8.out.size; omega) ?_; intro A9 n9 c9 w9 hn9 hown9 hbw9; have HN9 := hid hn9; have X9 := hid hown9; have U9 := hid (U8.out.trans hbw9); clear hn9 hown9 hbw9)
            have ht2 : decide ([] ++ rangeR ps lo midB ++ rangeR ps midB hi = rangeR ps lo hi) = true := by simpa using HE.out
            have HL9 : Hid (([] ++ rangeR ps lo midB ++ rangeR ps midB hi).length ≤ maxLen) := by
              have h1 := rangeR_len ps lo midB
              have h2 := rangeR_len ps midB hi
              show _ ≤ 2 ^ 63 - 1
              simp
              omega
            have hsm := sameMap_any A9 A2 c9 c2 _ (rangeR ps lo hi) _ _ X9.out.rp ((Q5.out.below U9.out).more U9.out.size) HL9.out
            rw [ht2, ← HN9.out] at hsm
            have HSM := hid hsm
            clear hsm ht2
            go_wp2_with fail
            refine HSM.out.mono ?_
            rintro e w10 ⟨rfl, hw10⟩
            have HB10 := hid (HB5.out.trans ((U9.out.trans (hw10.below _)).mono HB5.out.size))
            clear hw10
            go_wp2_with fail
            go_ret
            exact ⟨rfl, HB10.out⟩
          · have g5 : Op.bytesLess [102] hi.toList = true := by rw [← midB_list]; exact ltS_of_not h3 (Ne.symm h4)
            clear h1 h2 h3 h4
            go_wp2_with fail
            refine (impl_Range A1 c1 ps lo midB _ ((P5.out.below (U5.out _)).more (U5.out _).size) R5.out.vs HF1.out (by omega)).mono ?_
            rintro e w6 ⟨A6, c6, rfl, ho6, hw6⟩
            have X6 := hid ho6
            have E6 := hid ((OwnP.made (w := w5) (Nat.le_refl _) #[] 0 rfl (Nat.zero_le _)).below hw6)
            have U6 := hid ((U5.out _).trans (hw6.mono (U5.out _).size))
            clear ho6 hw6
            go_wp2_with (at_builtin; refine wpList_append_rp _ rfl _ _ _ rfl i0 Try.underlying24 hi0 hz0 hz1 hz2 w5.heap.size _ _ _ [] rfl rfl E6.out _ _ _ _ (rangeR ps lo midB) rfl rfl X6.out.rp (by have := rangeR_len ps lo midB; simp; omega) (by have := U6.out.size; omega) ?_; intro A7 n7 c7 w7 hn7 hown7 hbw7; have HN7 := hid hn7; have X7 := hid hown7; have U7 := hid (U6.out.trans hbw7); clear hn7 hown7 hbw7)
            go_wp2_with fail
            refine (impl_Range A1 c1 ps midB hi _ ((P5.out.below U7.out).more U7.out.size) R5.out.vs HF1.out (by omega)).mono ?_
            rintro e w8 ⟨A8, c8, rfl, ho8, hw8⟩
            have Y8 := hid ho8
            have X8 := hid (X7.out.below hw8)
            have U8 := hid (U7.out.trans (hw8.mono U7.out.size))
            clear ho8 hw8
            go_wp2_with (at_builtin; refine wpList_append_rp _ rfl _ _ _ rfl i0 Try.underlying24 hi0 hz0 hz1 hz2 w5.heap.size A7 n7 c7 ([] ++ rangeR ps lo midB) rfl HN7.out X8.out _ _ _ _ (rangeR ps midB hi) rfl rfl Y8.out.rp (by have := rangeR_len ps lo midB; have := rangeR_len ps midB hi; simp; omega) (by have := U8.out.size; omega) ?_; intro A9 n9 c9 w9 hn9 hown9 hbw9; have HN9 := hid hn9; have X9 := hid hown9; have U9 := hid (U8.out.trans hbw9); clear hn9 hown9 hbw9)
            have ht2 : decide ([] ++ rangeR ps lo midB ++ rangeR ps midB hi = rangeR ps lo hi) = true := by simpa using HE.out
            have HL9 : Hid (([] ++ rangeR ps lo midB ++ rangeR ps midB hi).length ≤ maxLen) := by
              have h1 := rangeR_len ps lo midB
              have h2 := rangeR_len ps midB hi
              show _ ≤ 2 ^ 63 - 1
              simp
              omega
            have hsm := sameMap_any A9 A2 c9 c2 _ (rangeR ps lo hi) _ _ X9.out.rp ((Q5.out.below U9.out).more U9.out.size) HL9.out
            rw [ht2, ← HN9.out] at hsm
            have HSM := hid hsm
            clear hsm ht2
            go_wp2_with fail
            refine HSM.out.mono ?_
            rintro e w10 ⟨rfl, hw10⟩
            have HB10 := hid (HB5.out.trans ((U9.out.trans (hw10.below _)).mono HB5.out.size))
            clear hw10
            go_wp2_with fail
            go_ret
            exact ⟨rfl, HB10.out⟩
        · have g5 : Op.bytesLess [102] hi.toList = false := by rw [← midB_list]; exact ltS_asymm h3
          have g6 : (([102] : List UInt8) == hi.toList) = false := by
            rw [← midB_list]
            exact eqS_false (fun e => ltS_ne h3 e.symm)
          clear h1 h2 h3
          go_wp2_with fail
          go_ret
          exact ⟨rfl, HB5.out⟩
    · have q1 : Op.bytesLess [102] lo.toList = true := by rw [← midB_list]; exact h1
      have q1' : Op.bytesLess (ByteArray.toList ⟨#[102]⟩) lo.toList = true := h1
      go_wp2_with fail
      go_ret
      exact ⟨rfl, HB5.out⟩
end Go.Proofs.Ytjdmaoegfpgfjaa
