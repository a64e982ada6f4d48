/-
  The program's questions about files and ops: contracts.
-/
import Derived.Test.YtaiehccpefjbfaaDskS
import Derived.Test.YtaiehccpefjbfaaDskKit
import Derived.Handy
import Derived.Shelf.Abstract
import Derived.Lib.QuietBelow
namespace Go.Proofs.Ytaiehccpefjbfaa
open Go.RowKit Go.Shelf

theorem impl_nameOk (s : ByteArray) (w : World) (hs : s.size ≤ maxLen) :
    Calls Try.prog 142 #[.string s] w fun e w' => e = .returned (.bool (nameB s)) ∧ w = w' := by
  unfold maxLen at hs
  by_cases h1 : 1 ≤ s.size
  · by_cases h2 : s.size ≤ 100
    · have HE : Hid (nameB s = true) := by simp [Hid, nameB, h1, h2]
      go_enter Try.func142, Try.ntmps142
      go_wp2_with fail
      go_ret
      exact ⟨ret_bool (by first | exact HE.out.symm | (rw [HE.out]; simp; omega) | (simp; omega)), rfl⟩
    · have HE : Hid (nameB s = false) := by simp [Hid, nameB, h2]
      go_enter Try.func142, Try.ntmps142
      go_wp2_with fail
      go_ret
      exact ⟨ret_bool (by first | exact HE.out.symm | (rw [HE.out]; simp; omega) | (simp; omega)), rfl⟩
  · have HE : Hid (nameB s = false) := by simp [Hid, nameB, h1]
    go_enter Try.func142, Try.ntmps142
    go_wp2_with fail
    go_ret
    exact ⟨ret_bool (by first | exact HE.out.symm | (rw [HE.out]; simp; omega) | (simp; omega)), rfl⟩

/-! ### files -/
theorem fitB_long {ps : PS} (h : ¬ ps.length ≤ 60) : fitB ps = false := by simp [fitB, h]
set_option maxHeartbeats 1000000 in
theorem impl_filesFit (A : Option Addr) (c : Nat) (ps : PS) (w : World) (hr : RP w w.heap.size A ps) (hf : SmallP ps 1000000000) (hn : ps.length ≤ maxLen) :
    Calls Try.prog 65 #[.slice A ps.length c] w fun e w' => e = .returned (.bool (fitB ps)) ∧ Below w.heap.size w w' := by
  unfold maxLen at hn
  by_cases hl : ps.length ≤ 60
  · have HTOT : Hid (∀ k, bytesL (ps.take k) ≤ 60000000000) := fun k => by
      have h1 := bytesL_take ps k
      have h2 := bytesL_bound hf
      have h3 : ps.length * 1000000000 ≤ 60 * 1000000000 := Nat.mul_le_mul_right _ hl
      omega
    have HEND : Hid (fitB ps = decide (bytesL ps ≤ 200000)) := by simp [Hid, fitB, hl]
    go_enter Try.func65, Try.ntmps65
    go_wp2_with fail
    go_loopw [3, 11] (fun q i wr => ∃ (k m : Nat), k ≤ ps.length ∧ i = .int .i64 k ∧ q = .int .i64 m ∧ m = bytesL (ps.take k) ∧ Below w.heap.size w wr) (fun _ i _ => ps.length - (intOf i).toNat)
    case atStart => exact ⟨0, 0, Nat.zero_le _, rfl, rfl, rfl, Below.refl _ w⟩
    case round =>
      obtain ⟨k, m, hk, rfl, rfl, hm, hbw⟩ := hrel
      have hmb : m ≤ 60000000000 := by have := HTOT.out k; omega
      by_cases hlt : k < ps.length
      · obtain ⟨b, off, rfl, hb, hc1, hc2⟩ := (hr.below hbw).at_ hlt
        have hsz := (hf.get hlt).2
        have HD := hid hbw
        have HM : Hid (m + ps[k].2.size = bytesL (ps.take (k + 1))) := by rw [Hid, bytesL_succ hlt, hm]
        clear hbw hr hf hm
        go_wp2_with fail
        exact ⟨⟨k + 1, _, by omega, by go_num, by go_num, HM.out, HD.out.alloc HD.out.size _⟩, by simp [intOf]; omega⟩
      · obtain rfl : k = ps.length := by omega
        have HD := hid hbw
        have HM : Hid (m = bytesL ps) := by rw [Hid, hm, List.take_length]
        clear hbw hr hm
        go_wp2_with fail
        go_ret
        exact ⟨ret_bool (by rw [HEND.out, ← HM.out, ← nat_leb]), HD.out⟩
  · have HM := hid (fitB_long hl)
    clear hr hf
    go_enter Try.func65, Try.ntmps65
    go_wp2_with fail
    go_ret
    exact ⟨ret_bool HM.out.symm, Below.refl _ _⟩

/-- A file whose name is none. -/
def badP (p : BB) : Bool := !nameB p.1
theorem bad_any (p : BB) (w : World) (hs : p.1.size ≤ maxLen) :
    Calls Try.prog 141 #[.agg #[.string p.1, .string p.2]] w fun e w' => e = .returned (.bool (badP p)) ∧ Below w.heap.size w w' := by
  have HS := hid hs
  clear hs
  go_enter Try.func141, Try.ntmps141
  go_wp2_with (go_at_call 142; refine (impl_nameOk p.1 _ HS.out).mono ?_; rintro e w' ⟨rfl, rfl⟩)
  go_ret
  exact ⟨rfl, (Below.refl _ _).alloc (Nat.le_refl _) _⟩
def noneP (ps : PS) (p : BB → Bool) (k : Nat) : Prop := ∀ (i : Nat) (h : i < ps.length), i < k → p ps[i] = false
theorem noneP_succ {ps : PS} {p : BB → Bool} {k : Nat} (h : noneP ps p k) (hk : k < ps.length) (he : p ps[k] = false) : noneP ps p (k + 1) := by
  intro i hi hlt
  by_cases e : i = k
  · subst e
    exact he
  · exact h i hi (by omega)
theorem noneP_end {ps : PS} {p : BB → Bool} (h : noneP ps p ps.length) : ps.any p = false := List.any_eq_false.2 fun x hx => by
  obtain ⟨i, hi, rfl⟩ := List.getElem_of_mem hx
  rw [h i hi hi]
  simp
set_option maxHeartbeats 1000000 in
theorem indexBad_any (A : Option Addr) (c : Nat) (ps : PS) (w : World) (hr : RP w w.heap.size A ps) (hf : SmallP ps 1000000000) (hn : ps.length ≤ maxLen) :
    Calls Try.prog 158 #[.slice A ps.length c, .func (.func 141) #[] #[]] w fun e w' => ∃ r : Int, e = .returned (.int .i64 r) ∧ decide (0 ≤ r) = ps.any badP ∧ Below w.heap.size w w' := by
  unfold maxLen at hn
  have HR := hid hr
  have HF : Hid (∀ (k : Nat) (h : k < ps.length), ps[k].1.size ≤ maxLen) := fun k h => by have := (hf.get h).1; unfold maxLen; omega
  clear hr hf
  go_enter Try.func158, Try.ntmps158
  go_wp2_with fail
  go_loopw [8] (fun i wr => ∃ k : Nat, k ≤ ps.length ∧ i = .int .i64 k ∧ noneP ps badP k ∧ Below w.heap.size w wr) (fun i _ => ps.length - (intOf i).toNat)
  case atStart => exact ⟨0, Nat.zero_le _, rfl, fun i h hi => absurd hi (by omega), Below.refl _ _⟩
  case round =>
    obtain ⟨k, hk, rfl, hnt, hbw⟩ := hrel
    by_cases hlt : k < ps.length
    · obtain ⟨b, off, rfl, hb, hc1, hc2⟩ := (HR.out.below hbw).at_ hlt
      have HC := hid (bad_any ps[k] wr (HF.out k hlt))
      have HD := hid hbw
      have HS := hid (noneP_succ hnt hlt)
      have HY : Hid (badP ps[k] = true → ps.any badP = true) := fun e => List.any_eq_true.2 ⟨_, List.getElem_mem hlt, e⟩
      clear hbw hnt
      cases he : badP ps[k]
      · go_wp2_with (go_at_call 141; refine HC.out.mono ?_; rintro e w2 ⟨rfl, hb2⟩; rw [he])
        go_roundw
        case rel => exact ⟨k + 1, by omega, by go_num, HS.out he, HD.out.trans (hb2.mono HD.out.size)⟩
        case measure => simp [intOf]; omega
      · go_wp2_with (go_at_call 141; refine HC.out.mono ?_; rintro e w2 ⟨rfl, hb2⟩; rw [he])
        go_ret
        exact ⟨_, rfl, by rw [HY.out he]; simp, HD.out.trans (hb2.mono HD.out.size)⟩
    · obtain rfl : k = ps.length := by omega
      have HE := hid (noneP_end hnt)
      have HD := hid hbw
      clear hbw hnt
      go_wp2_with fail
      go_ret
      exact ⟨_, rfl, by rw [HE.out]; rfl, HD.out⟩
theorem containsBad_any (A : Option Addr) (c : Nat) (ps : PS) (w : World) (hr : RP w w.heap.size A ps) (hf : SmallP ps 1000000000) (hn : ps.length ≤ maxLen) :
    Calls Try.prog 140 #[.slice A ps.length c, .func (.func 141) #[] #[]] w fun e w' => e = .returned (.bool (ps.any badP)) ∧ Below w.heap.size w w' := by
  have HR := hid hr
  have HN := hid hn
  have HF := hid hf
  clear hr hn hf
  go_enter Try.func140, Try.ntmps140
  go_wp2_with fail
  refine (indexBad_any A c ps _ HR.out HF.out HN.out).mono ?_
  rintro e w' ⟨r, rfl, hr, hb1⟩
  have HQ := hid hr
  clear hr
  go_wp2_with fail
  go_ret
  exact ⟨ret_bool HQ.out, hb1⟩
theorem all_bad (ps : PS) : (ps.all fun p => nameB p.1) = !ps.any badP := by
  rw [List.all_eq_not_any_not]
  rfl
set_option maxHeartbeats 1000000 in
theorem impl_filesOk (A : Option Addr) (c : Nat) (ps : PS) (w : World) (hr : RP w w.heap.size A ps) (hf : SmallP ps 1000000000) (hn : ps.length ≤ maxLen) :
    Calls Try.prog 101 #[.slice A ps.length c] w fun e w' => e = .returned (.bool (filesB ps)) ∧ Below w.heap.size w w' := by
  have HR := hid hr
  have HN := hid hn
  have HF := hid hf
  have HE := hid (all_bad ps)
  clear hr hn hf
  cases h1 : fitB ps
  · have HB : Hid (filesB ps = false) := by simp [Hid, filesB, h1]
    go_enter Try.func101, Try.ntmps101
    go_wp2_with (go_at_call 65; refine (impl_filesFit A c ps _ HR.out HF.out HN.out).mono ?_; rintro e w1 ⟨rfl, hb1⟩; have HB1 := hid hb1; clear hb1)
    go_ret
    exact ⟨ret_bool HB.out.symm, HB1.out⟩
  · cases h2 : risesB ps
    · have HB : Hid (filesB ps = false) := by simp [Hid, filesB, h2]
      go_enter Try.func101, Try.ntmps101
      go_wp2_with (first
        | (go_at_call 65; refine (impl_filesFit A c ps _ HR.out HF.out HN.out).mono ?_; rintro e w1 ⟨rfl, hb1⟩; have HB1 := hid hb1; clear hb1)
        | (go_at_call 139; refine (rises_anyF A c ps _ ((HR.out.below HB1.out).more HB1.out.size) HN.out).mono ?_; rintro e w2 ⟨rfl, hb2⟩; have HB2 := hid (HB1.out.trans (hb2.mono HB1.out.size)); clear hb2))
      go_ret
      exact ⟨ret_bool HB.out.symm, HB2.out⟩
    · have HB : Hid (filesB ps = !ps.any badP) := by rw [Hid, filesB, h1, h2, HE.out]; simp
      go_enter Try.func101, Try.ntmps101
      go_wp2_with (first
        | (go_at_call 65; refine (impl_filesFit A c ps _ HR.out HF.out HN.out).mono ?_; rintro e w1 ⟨rfl, hb1⟩; have HB1 := hid hb1; clear hb1)
        | (go_at_call 139; refine (rises_anyF A c ps _ ((HR.out.below HB1.out).more HB1.out.size) HN.out).mono ?_; rintro e w2 ⟨rfl, hb2⟩; have HB2 := hid (HB1.out.trans (hb2.mono HB1.out.size)); clear hb2)
        | (go_at_call 140; refine (containsBad_any A c ps _ ((HR.out.below HB2.out).more HB2.out.size) HF.out HN.out).mono ?_; rintro e w3 ⟨rfl, hb3⟩; have HB3 := hid (HB2.out.trans (hb3.mono HB2.out.size)); clear hb3))
      go_ret
      exact ⟨ret_bool HB.out.symm, HB3.out⟩

/-! ### files held against each other -/
set_option maxHeartbeats 1000000 in
theorem equalF_any (A A' : Option Addr) (c c' : Nat) (ps qs : PS) (w : World) (hr : RP w w.heap.size A ps) (hr' : RP w w.heap.size A' qs) (hn : ps.length ≤ maxLen) :
    Calls Try.prog 103 #[.slice A ps.length c, .slice A' qs.length c'] w fun e w' => e = .returned (.bool (decide (ps = qs))) ∧ Drawn w w' := by
  unfold maxLen at hn
  by_cases g : ps.length = qs.length
  · have g0 : ((ps.length : Int) != (qs.length : Int)) = false := by simp [g]
    have HG := hid g
    clear g
    go_enter Try.func103, Try.ntmps103
    go_wp2_with fail
    go_loopw [13] (fun i wr => ∃ k : Nat, k ≤ ps.length ∧ i = .int .i64 k ∧ sameTo ps qs k ∧ Drawn w wr) (fun i _ => ps.length - (intOf i).toNat)
    case atStart => exact ⟨0, Nat.zero_le _, rfl, fun i h h' hi => absurd hi (by omega), Drawn.refl w⟩
    case round =>
      obtain ⟨k, hk, rfl, hst, hbw⟩ := hrel
      by_cases hlt : k < ps.length
      · have hlt2 : k < qs.length := by have := HG.out; omega
        obtain ⟨b, off, rfl, hb, hc1, hc2⟩ := (hr.below (hbw.below _)).at_ hlt
        obtain ⟨b', off', rfl, hb', hc3, hc4⟩ := (hr'.below (hbw.below _)).at_ hlt2
        have HD := hid hbw
        have HS := hid hst
        clear hbw hr hr' hst
        have e5 : (0 : Int) ≤ (k : Int) := by omega
        have e6 : (k : Int) < (ps.length : Int) := by omega
        have e7 : (k : Int) < (qs.length : Int) := by omega
        have hq := neqPairF ps[k] qs[k]
        have hm := pairGuardF
        by_cases he : ps[k] = qs[k]
        · have h3 : decide (ps[k] = qs[k]) = true := by simp [he]
          have HE := hid he
          clear he
          rw [h3] at hq
          clear h3
          go_wp2_with fail
          go_quiet (fail)
          go_wp2_with fail
          go_roundw
          case rel => exact ⟨k + 1, by omega, by go_num, sameTo_succ HS.out hlt hlt2 HE.out, HD.out.drewN _⟩
          case measure => simp [intOf]; omega
        · have h3 : decide (ps[k] = qs[k]) = false := by simp [he]
          have HE := hid he
          clear he
          rw [h3] at hq
          clear h3
          go_wp2_with fail
          go_quiet (fail)
          go_wp2_with fail
          go_ret
          exact ⟨ret_bool (by rw [same_no hlt hlt2 HE.out]), HD.out.drewN _⟩
      · obtain rfl : k = ps.length := by omega
        have HS := hid (sameTo_end hst HG.out)
        have HD := hid hbw
        clear hbw hr hr' hst
        go_wp2_with fail
        go_ret
        exact ⟨ret_bool (by rw [decide_eq_true HS.out]), HD.out⟩
  · have g0 : ((ps.length : Int) != (qs.length : Int)) = true := by simp; omega
    have HE : Hid (decide (ps = qs) = false) := by
      rw [Hid, decide_eq_false_iff_not]
      exact fun e => g (by rw [e])
    clear g hr hr'
    go_enter Try.func103, Try.ntmps103
    go_wp2_with fail
    go_ret
    exact ⟨ret_bool HE.out.symm, Drawn.refl _⟩

end Go.Proofs.Ytaiehccpefjbfaa
