/-
  The model's questions about files and ops: contracts.
-/
import Derived.Test.YtaiehccpefjbfaaDskF
import Derived.Test.YtaiehccpefjbfaaFlC
import Derived.Test.YtaiehccpefjbfaaDopConcat
namespace Go.Proofs.Ytaiehccpefjbfaa
open Go.RowKit

theorem spec_l10Name (s : ByteArray) (w : World) (hs : s.size ≤ maxLen) :
    Calls Try.prog 114 #[.string s] w fun e w' => e = .returned (.bool (nameB s)) ∧ w = w' := by
  unfold maxLen at hs
  by_cases h1 : 1 ≤ s.size
  · by_cases h2 : s.size ≤ 100
    · have HE : Hid (nameB s = true) := by simp [Hid, nameB, h1, h2]
      go_enter Try.func114, Try.ntmps114
      go_wp2_with fail
      go_ret
      exact ⟨ret_bool (by first | exact HE.out.symm | (rw [HE.out]; simp; omega) | (simp; omega)), rfl⟩
    · have HE : Hid (nameB s = false) := by simp [Hid, nameB, h2]
      go_enter Try.func114, Try.ntmps114
      go_wp2_with fail
      go_ret
      exact ⟨ret_bool (by first | exact HE.out.symm | (rw [HE.out]; simp; omega) | (simp; omega)), rfl⟩
  · have HE : Hid (nameB s = false) := by simp [Hid, nameB, h1]
    go_enter Try.func114, Try.ntmps114
    go_wp2_with fail
    go_ret
    exact ⟨ret_bool (by first | exact HE.out.symm | (rw [HE.out]; simp; omega) | (simp; omega)), rfl⟩

/-! ### files -/
def namesTo (ps : PS) (k : Nat) : Prop := ∀ (i : Nat) (h : i < ps.length), i < k → nameB ps[i].1 = true
theorem namesTo_zero (ps : PS) : namesTo ps 0 := fun i _ h => absurd h (by omega)
theorem namesTo_succ {ps : PS} {k : Nat} (h : namesTo ps k) (hk : k < ps.length) (h1 : nameB ps[k].1 = true) : namesTo ps (k + 1) := by
  intro i hi hik
  by_cases e : i = k
  · subst e; exact h1
  · exact h i hi (by omega)
theorem filesB_name {ps : PS} {k : Nat} (hk : k < ps.length) (h : nameB ps[k].1 = false) : filesB ps = false := by
  cases hf : filesB ps
  · rfl
  · have := (filesB_iff.1 hf).2.2 _ (List.getElem_mem hk)
    rw [h] at this
    cases this
theorem filesB_bad {ps : PS} {k : Nat} (hk : k < ps.length) (h0 : 0 < k) (h : ltS (ps[k - 1]'(by omega)).1 ps[k].1 = false) : filesB ps = false := by
  cases hf : filesB ps
  · rfl
  · have := rises_bad hk h0 h
    rw [(filesB_iff.1 hf).2.1] at this
    cases this
theorem filesB_long {ps : PS} (h : ¬ ps.length ≤ 60) : filesB ps = false := by simp [filesB, fitB, h]
theorem filesB_end {ps : PS} (hl : ps.length ≤ 60) (h : namesTo ps ps.length) (h' : risesTo ps ps.length) : filesB ps = decide (bytesL ps ≤ 200000) := by
  have h1 : risesB ps = true := risesTo_end h'
  have h2 : (ps.all fun p => nameB p.1) = true := List.all_eq_true.2 fun p hp => by
    obtain ⟨i, hi, rfl⟩ := List.getElem_of_mem hp
    exact h i hi hi
  simp [filesB, fitB, hl, h1, h2]
theorem bytesL_bound {ps : PS} {B : Nat} (h : SmallP ps B) : bytesL ps ≤ ps.length * B := by
  induction ps with
  | nil => simp [bytesL]
  | cons p r ih =>
    have h1 := ih fun q hq => h q (List.mem_cons_of_mem _ hq)
    have h2 := (h p List.mem_cons_self).2
    unfold bytesL at h1 ⊢
    simp only [List.map_cons, List.sum_cons, List.length_cons, Nat.add_mul]
    omega
theorem nat_leb (a : Nat) : decide ((a : Int) ≤ 200000) = decide (a ≤ 200000) := by
  apply dec_eq
  omega

set_option maxHeartbeats 1000000 in
theorem spec_l10Files (A : Option Addr) (c : Nat) (ps : PS) (B : Nat) (w : World) (hr : RP w B A ps) (hf : SmallP ps 1000000000) (hn : ps.length ≤ maxLen) :
    Calls Try.prog 62 #[.slice A ps.length c] w fun e w' => e = .returned (.bool (filesB ps)) ∧ Drawn w w' := by
  unfold maxLen at hn
  by_cases hl : ps.length ≤ 60
  · have HTOT : Hid (∀ k, bytesL (ps.take k) ≤ 60000000000) := fun k => by
      have h1 := bytesL_take ps k
      have h2 := bytesL_bound hf
      have h3 : ps.length * 1000000000 ≤ 60 * 1000000000 := Nat.mul_le_mul_right _ hl
      omega
    have HEND := hid (filesB_end hl)
    go_enter Try.func62, Try.ntmps62
    go_wp2_with fail
    go_loopw [3, 4] (fun q i wr => ∃ (k m : Nat), k ≤ ps.length ∧ i = .int .i64 k ∧ q = .int .i64 m ∧ m = bytesL (ps.take k) ∧ namesTo ps k ∧ risesTo ps k ∧ Drawn w wr) (fun _ i _ => ps.length - (intOf i).toNat)
    case atStart => exact ⟨0, 0, Nat.zero_le _, rfl, rfl, rfl, namesTo_zero ps, risesTo_zero ps, Drawn.refl w⟩
    case round =>
      obtain ⟨k, m, hk, rfl, rfl, hm, hks, hrs, hdr⟩ := hrel
      have hmb : m ≤ 60000000000 := by have := HTOT.out k; omega
      by_cases hlt : k < ps.length
      · obtain ⟨b, off, rfl, hb, hc⟩ : ∃ b off, A = some ⟨b, off, none⟩ ∧ b < B ∧ ∀ i (hi : i < ps.length), wr.cell? ⟨b, off + i * 2, none⟩ = some (.string ps[i].1) ∧ wr.cell? ⟨b, off + i * 2 + 1, none⟩ = some (.string ps[i].2) := by
          rcases hr with rfl | ⟨b, off, e, hb, hc⟩
          · simp at hlt
          · obtain ⟨m, rfl⟩ := hdr
            exact ⟨b, off, e, hb, fun i hi => hc i _ (List.getElem?_eq_getElem hi)⟩
        have hc1 := (hc k hlt).1
        have hc2 := (hc k hlt).2
        have hsz := (hf.get hlt).2
        have HF1 : Hid (ps[k].1.size ≤ maxLen) := by have := (hf.get hlt).1; unfold Hid maxLen; omega
        have HB := hid (@filesB_name ps k hlt)
        have HK := hid (namesTo_succ hks hlt)
        have HR := hid (risesTo_succ hrs hlt)
        have HD := hid hdr
        have HC := hid hc
        have HRB := hid (@filesB_bad ps k hlt)
        have HM : Hid (m + ps[k].2.size = bytesL (ps.take (k + 1))) := by rw [Hid, bytesL_succ hlt, hm]
        clear hdr hrs hks hc hr hf hm
        cases h1 : nameB ps[k].1
        · go_wp2_with fail
          go_quiet ((go_at_call 114; exact quiet_eq (spec_l10Name _ _ HF1.out)))
          go_wp2_with fail
          go_ret
          exact ⟨ret_bool (HB.out h1).symm, HD.out.drewN _⟩
        · by_cases h0 : 0 < k
          · have hp := (HC.out (k - 1) (by omega)).1
            have h0' : decide (0 < k) = true := by simpa using h0
            cases h3 : ltS ps[k - 1].1 ps[k].1
            · have HRB2 := hid (HRB.out h0 h3)
              by_cases he : ps[k].1 = ps[k - 1].1
              · have h5 := eqS_true he
                clear he
                go_wp2_with fail
                go_quiet ((go_at_call 114; exact quiet_eq (spec_l10Name _ _ HF1.out)))
                go_wp2_with fail
                go_ret
                exact ⟨ret_bool (by rw [HRB2.out]), HD.out.drewN _⟩
              · have h5 : Op.bytesLess ps[k].1.toList ps[k - 1].1.toList = true := ltS_of_not h3 (fun e => he e.symm)
                clear he
                go_wp2_with fail
                go_quiet ((go_at_call 114; exact quiet_eq (spec_l10Name _ _ HF1.out)))
                go_wp2_with fail
                go_ret
                exact ⟨ret_bool (by rw [HRB2.out]), HD.out.drewN _⟩
            · have h5 : Op.bytesLess ps[k].1.toList ps[k - 1].1.toList = false := ltS_asymm h3
              have h6 := eqS_false (fun e => ltS_ne h3 e.symm : ps[k].1 ≠ ps[k - 1].1)
              go_wp2_with fail
              go_quiet ((go_at_call 114; exact quiet_eq (spec_l10Name _ _ HF1.out)))
              go_wp2_with fail
              exact ⟨⟨k + 1, _, by omega, by go_num, by go_num, HM.out, HK.out h1, HR.out (fun _ => h3), HD.out.drewN _⟩, by simp [intOf]; omega⟩
          · have h0' : decide (0 < k) = false := by simpa using h0
            go_wp2_with fail
            go_quiet ((go_at_call 114; exact quiet_eq (spec_l10Name _ _ HF1.out)))
            go_wp2_with fail
            exact ⟨⟨k + 1, _, by omega, by go_num, by go_num, HM.out, HK.out h1, HR.out (fun h => absurd h h0), HD.out.drewN _⟩, by simp [intOf]; omega⟩
      · obtain rfl : k = ps.length := by omega
        have HE := hid (HEND.out hks hrs)
        have HD := hid hdr
        have HM : Hid (m = bytesL ps) := by rw [Hid, hm, List.take_length]
        clear hks hrs hdr hr hm
        go_wp2_with fail
        go_ret
        exact ⟨ret_bool (by rw [HE.out, ← HM.out, ← nat_leb]), HD.out⟩
  · have HM := hid (filesB_long hl)
    clear hr hf
    go_enter Try.func62, Try.ntmps62
    go_wp2_with fail
    go_ret
    exact ⟨ret_bool HM.out.symm, Drawn.refl _⟩

/-! ### one op -/
theorem spec_l1In_op (n : Int) (w : World) :
    Calls Try.prog 60 #[.int .i64 n, .int .i64 1, .int .i64 3] w fun e w' => e = .returned (.bool (decide (1 ≤ n ∧ n ≤ 3))) ∧ w = w' := by
  by_cases h1 : 1 ≤ n
  · by_cases h2 : n ≤ 3
    · have HE : Hid (decide (1 ≤ n ∧ n ≤ 3) = true) := by simp [Hid, h1, h2]
      go_enter Try.func60, Try.ntmps60
      go_wp2_with fail
      go_ret
      exact ⟨ret_bool (by first | exact HE.out.symm | (rw [HE.out]; simp; omega) | (simp; omega)), rfl⟩
    · have HE : Hid (decide (1 ≤ n ∧ n ≤ 3) = false) := by simp [Hid, h2]
      go_enter Try.func60, Try.ntmps60
      go_wp2_with fail
      go_ret
      exact ⟨ret_bool (by first | exact HE.out.symm | (rw [HE.out]; simp; omega) | (simp; omega)), rfl⟩
  · have HE : Hid (decide (1 ≤ n ∧ n ≤ 3) = false) := by simp [Hid, h1]
    go_enter Try.func60, Try.ntmps60
    go_wp2_with fail
    go_ret
    exact ⟨ret_bool (by first | exact HE.out.symm | (rw [HE.out]; simp; omega) | (simp; omega)), rfl⟩
end Go.Proofs.Ytaiehccpefjbfaa
