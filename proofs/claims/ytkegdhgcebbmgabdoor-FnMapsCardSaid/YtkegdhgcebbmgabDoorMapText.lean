/-
  MapText of both: contracts.
-/
import Derived.Test.YtkegdhgcebbmgabDoorMapOkI
import Derived.Test.YtkegdhgcebbmgabDoorText
import Derived.Test.YtkegdhgcebbmgabDoorToPair
namespace Go.Proofs.YtkegdhgcebbmgabDoor
open Go.RowKit

theorem ret_str {a b : ByteArray} (h : a = b) : Ending.returned (.string a) = .returned (.string b) := by rw [h]

set_option maxHeartbeats 1000000 in
theorem spec_l1Text (A : Option Addr) (c : Nat) (ps : PS) (B : Nat) (w : World) (hr : RP w B A ps) (hp : ∀ p ∈ ps, pairB p = true) (hn : ps.length ≤ 60) :
    Calls Tryd.prog 39 #[.slice A ps.length c] w fun e w' => e = .returned (.string (textB ps)) ∧ Drawn w w' := by
  have HP := hid hp
  clear hp
  go_enter Tryd.func39, Tryd.ntmps39
  go_wp2_with fail
  go_loopw [3, 4] (fun t i wr => ∃ (k : Nat) (s : ByteArray), k ≤ ps.length ∧ i = .int .i64 k ∧ t = .string s ∧ s.size ≤ 14 * k ∧ Hid (s.data.toList = Lib.join (wordsL (ps.take k)) [32]) ∧ Drawn w wr) (fun _ i _ => ps.length - (intOf i).toNat)
  case atStart => exact ⟨0, _, Nat.zero_le _, rfl, rfl, Nat.le_refl _, rfl, Drawn.refl w⟩
  case round =>
    obtain ⟨k, s, hk, rfl, rfl, hsz, HT, hdr⟩ := hrel
    by_cases hlt : k < ps.length
    · obtain ⟨b, off, rfl, hb, hc1, hc2⟩ : ∃ b off, A = some ⟨b, off, none⟩ ∧ b < B ∧ wr.cell? ⟨b, off + k * 2, none⟩ = some (.string ps[k].1) ∧ wr.cell? ⟨b, off + k * 2 + 1, none⟩ = some (.string ps[k].2) := by
        obtain ⟨m, rfl⟩ := hdr
        exact RP.at_ (w := w) hr hlt
      have hq := HP.out ps[k] (List.getElem_mem hlt)
      simp only [pairB, Bool.and_eq_true] at hq
      have hz1 := keyB_small hq.1
      have hz2 := keyB_small hq.2
      have HD := hid hdr
      clear hq hdr hr
      have e5 : (0 : Int) ≤ (k : Int) := by omega
      have e6 : (k : Int) < (ps.length : Int) := by omega
      by_cases h0 : 0 < k
      · have HN := hid (text_next hlt h0 HT.out)
        go_wp2_with fail
        go_quiet (fail)
        go_wp2_with fail
        go_roundw
        case rel => exact ⟨k + 1, _, by omega, by go_num, rfl, by simp only [ByteArray.size_append]; show _ + 1 + _ + 1 + _ ≤ _; omega, HN.out, HD.out.drewN _⟩
        case measure => simp [intOf]; omega
      · obtain rfl : k = 0 := by omega
        have HN := hid (text_first hlt HT.out)
        simp only [Nat.zero_mul, Nat.add_zero] at hc1 hc2
        clear e5 e6
        have e7 : (0 : Int) < (ps.length : Int) := by omega
        go_wp2_with fail
        go_quiet (fail)
        go_wp2_with fail
        go_roundw
        case rel => exact ⟨0 + 1, _, by omega, by go_num, rfl, by simp only [ByteArray.size_append]; show _ + _ + 1 + _ ≤ _; omega, HN.out, HD.out.drewN _⟩
        case measure => simp [intOf]; omega
    · obtain rfl : k = ps.length := by omega
      have HE : Hid (s = textB ps) := by
        have h := HT.out
        rw [List.take_length] at h
        exact ext_list h
      have HD := hid hdr
      clear hdr hr HT
      go_wp2_with fail
      go_ret
      exact ⟨ret_str HE.out, HD.out⟩

theorem spec_MapText (A : Option Addr) (c : Nat) (ps : PS) (B : Nat) (w : World) (hr : RP w B A ps) (hf : Fits ps) (hn : ps.length ≤ maxLen) :
    Calls Tryd.prog 14 #[.slice A ps.length c] w fun e w' => e = .returned (.string (mapT ps)) ∧ Drawn w w' := by
  have HR := hid hr
  have HF := hid hf
  have HN := hid hn
  clear hr hf hn
  cases hm : mapB ps
  · have HG : Hid (mapT ps = ⟨#[]⟩) := by simp [Hid, mapT, hm]
    go_enter Tryd.func14, Tryd.ntmps14
    go_wp2_with (go_at_call 18; refine (spec_MapOk A c ps B _ HR.out HF.out HN.out).mono ?_; rintro e w' ⟨rfl, hw⟩)
    go_ret
    exact ⟨ret_str HG.out.symm, hw⟩
  · have HG : Hid (mapT ps = textB ps) := by simp [Hid, mapT, hm]
    have HP := hid (mapB_iff.1 hm).2.1
    have hl := (mapB_iff.1 hm).1
    go_enter Tryd.func14, Tryd.ntmps14
    go_wp2_with (first
      | (go_at_call 18; refine (spec_MapOk A c ps B _ HR.out HF.out HN.out).mono ?_; rintro e w' ⟨rfl, hw⟩)
      | (go_at_call 39; refine (spec_l1Text A c ps B _ (HR.out.below (hw.below _)) HP.out hl).mono ?_; rintro e w2 ⟨rfl, hw2⟩))
    go_ret
    refine ⟨ret_str HG.out.symm, ?_⟩
    obtain ⟨m, rfl⟩ := hw
    obtain ⟨m2, rfl⟩ := hw2
    exact ⟨m + m2, World.drewN_drewN _ _ _⟩
end Go.Proofs.YtkegdhgcebbmgabDoor
