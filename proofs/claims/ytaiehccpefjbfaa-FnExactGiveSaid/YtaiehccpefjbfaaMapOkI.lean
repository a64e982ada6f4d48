/-
  The program's MapOk and Get; the model's Get.
-/
import Derived.Test.YtaiehccpefjbfaaPlace
namespace Go.Proofs.Ytaiehccpefjbfaa
open Go.RowKit

theorem pairsB_keysTo {ps : PS} (h : keysTo ps ps.length) : pairsB ps = risesB ps := by
  rw [pairsB, List.all_eq_true.2 (keysTo_end h)]; simp
theorem pairsB_iff {ps : PS} : pairsB ps = true ↔ (∀ p ∈ ps, pairB p = true) ∧ risesB ps = true := by
  simp [pairsB, List.all_eq_true]
theorem mapB_keys {ps : PS} {k : Nat} (hk : k < ps.length) (h : keyB ps[k].1 = false ∨ keyB ps[k].2 = false) : mapB ps = false := by
  rw [mapB, keys_bad hk h]; simp
theorem mapB_end {ps : PS} (h : keysTo ps ps.length) (hl : ps.length ≤ 60) : mapB ps = risesB ps := by
  rw [mapB, List.all_eq_true.2 (keysTo_end h)]; simp [hl]

set_option maxHeartbeats 1000000 in
theorem impl_pairsOk (A : Option Addr) (c : Nat) (ps : PS) (w : World) (hr : RP w w.heap.size A ps) (hf : Fits ps) (hn : ps.length ≤ maxLen) :
    Calls Try.prog 152 #[.slice A ps.length c] w fun e w' => e = .returned (.bool (pairsB ps)) ∧ Below w.heap.size w w' := by
  have hn' := hn
  unfold maxLen at hn'
  have HR := hid hr
  have HN := hid hn
  clear hn
  go_enter Try.func152, Try.ntmps152
  go_wp2_with fail
  go_loopw [7] (fun i wr => ∃ k : Nat, k ≤ ps.length ∧ i = .int .i64 k ∧ keysTo ps k ∧ Below w.heap.size w wr) (fun i _ => ps.length - (intOf i).toNat)
  case atStart => exact ⟨0, Nat.zero_le _, rfl, keysTo_zero ps, Below.refl _ w⟩
  case round =>
    obtain ⟨k, hk, rfl, hks, hbw⟩ := hrel
    by_cases hlt : k < ps.length
    · obtain ⟨b, off, rfl, hb, hc1, hc2⟩ := (hr.below hbw).at_ hlt
      have HF := hid (hf.get hlt)
      have HB := hid (@pairsB_keys ps k hlt)
      have HK := hid (keysTo_succ hks hlt)
      have HD := hid hbw
      clear hbw hks hr hf
      have HZ : Hid (∀ o : Obj, Below w.heap.size w (wr.alloc o)) := fun o => HD.out.alloc HD.out.size o
      cases h1 : keyB ps[k].1
      · go_wp2_with (go_at_call 165; refine (impl_KeyOk _ _ HF.out.1).mono ?_; rintro e w' ⟨rfl, rfl⟩)
        go_ret
        exact ⟨ret_bool (HB.out (.inl h1)).symm, HZ.out _⟩
      · cases h2 : keyB ps[k].2
        · go_wp2_with (go_at_call 165; first | ((with_reducible refine (impl_KeyOk _ _ HF.out.1).mono ?_); rintro e w' ⟨rfl, rfl⟩) | ((with_reducible refine (impl_KeyOk _ _ HF.out.2).mono ?_); rintro e w' ⟨rfl, rfl⟩))
          go_ret
          exact ⟨ret_bool (HB.out (.inr h2)).symm, HZ.out _⟩
        · go_wp2_with (go_at_call 165; first | ((with_reducible refine (impl_KeyOk _ _ HF.out.1).mono ?_); rintro e w' ⟨rfl, rfl⟩) | ((with_reducible refine (impl_KeyOk _ _ HF.out.2).mono ?_); rintro e w' ⟨rfl, rfl⟩))
          go_roundw
          case rel => exact ⟨k + 1, by omega, by go_num, HK.out h1 h2, HZ.out _⟩
          case measure => simp [intOf]; omega
    · obtain rfl : k = ps.length := by omega
      have HE := hid (pairsB_keysTo hks)
      have HD := hid hbw
      have HR2 := hid ((hr.below hbw).more hbw.size)
      clear hks hbw hr hf
      go_wp2_with (go_at_call 166; refine (rises_any A c ps _ HR2.out HN.out).mono ?_; rintro e w' ⟨rfl, hbw'⟩)
      go_ret
      exact ⟨ret_bool HE.out.symm, HD.out.trans (hbw'.mono HD.out.size)⟩

/-- What Get answers. -/
def getV (ps : PS) (x : ByteArray) : ByteArray := if mapB ps then valOf ps x else ⟨#[]⟩
def getB (ps : PS) (x : ByteArray) : Bool := mapB ps && hasK ps x
theorem ret_sb {s s' : ByteArray} {b b' : Bool} (h : s = s') (h' : b = b') : Ending.returned (.tuple #[.string s, .bool b]) = .returned (.tuple #[.string s', .bool b']) := by rw [h, h']

set_option maxHeartbeats 1000000 in
theorem spec_l1Get (A : Option Addr) (c : Nat) (ps : PS) (x : ByteArray) (B : Nat) (w : World) (hr : RP w B A ps) (hn : ps.length ≤ maxLen) :
    Calls Try.prog 126 #[.slice A ps.length c, .string x] w fun e w' => e = .returned (.tuple #[.string (valOf ps x), .bool (hasK ps x)]) ∧ w = w' := by
  unfold maxLen at hn
  go_enter Try.func126, Try.ntmps126
  go_wp2_with fail
  go_loop [6] (fun i => ∃ k : Nat, k ≤ ps.length ∧ i = .int .i64 k ∧ noneTo ps x k) (fun i => ps.length - (intOf i).toNat)
  case atStart => exact ⟨0, Nat.zero_le _, rfl, fun i h hi => absurd hi (by omega)⟩
  case round =>
    obtain ⟨k, hk, rfl, hnt⟩ := hrel
    by_cases hlt : k < ps.length
    · obtain ⟨b, off, rfl, hb, hc1, hc2⟩ := hr.at_ hlt
      have HS := hid (noneTo_succ hnt hlt)
      have HV := hid (noneTo_val hnt hlt)
      clear hnt hr
      by_cases he : ps[k].1 = x
      · have h1 := eqS_true he
        have HE := hid he
        clear he
        go_wp2_with fail
        go_ret2
        exact ⟨ret_sb (HV.out HE.out).1.symm (HV.out HE.out).2.symm, rfl⟩
      · have h1 := eqS_false he
        have HE := hid he
        clear he
        go_wp2_with fail
        go_round
        case rel => exact ⟨k + 1, by omega, by go_num, HS.out HE.out⟩
        case measure => simp [intOf]; omega
    · obtain rfl : k = ps.length := by omega
      have HE := hid (noneTo_end hnt)
      clear hnt hr
      go_wp2_with fail
      go_ret2
      exact ⟨ret_sb (valOf_none HE.out).symm HE.out.symm, rfl⟩

set_option maxHeartbeats 1000000 in
theorem impl_valueIn (A : Option Addr) (c : Nat) (ps : PS) (x : ByteArray) (w : World) (hr : RP w w.heap.size A ps) (hn : ps.length ≤ 100000) (hs : risesB ps = true) :
    Calls Try.prog 134 #[.slice A ps.length c, .string x] w fun e w' => e = .returned (.tuple #[.string (valOf ps x), .bool (hasK ps x)]) ∧ Below w.heap.size w w' := by
  have HR := hid hr
  have HS := hid hs
  have HN := hid hn
  clear hr hs hn
  cases hh : hasK ps x
  · have HV := hid (valOf_none hh)
    go_enter Try.func134, Try.ntmps134
    go_wp2_with (first
      | (go_at_call 153; refine (place_any A c ps x _ HR.out HN.out HS.out).mono ?_; rintro e w2 ⟨rfl, hw2⟩))
    go_ret2
    exact ⟨ret_sb HV.out.symm rfl, hw2⟩
  · obtain ⟨hlt, he⟩ := (hasK_iff HS.out x).1 hh
    have HV := hid (valOf_at hlt he)
    have HL := hid he
    clear he
    obtain ⟨b, off, rfl, hb, hc1, hc2⟩ := HR.out.at_ hlt
    go_enter Try.func134, Try.ntmps134
    go_wp2_with (first
      | (go_at_call 153; refine (place_any _ c ps x _ HR.out HN.out HS.out).mono ?_; rintro e w2 ⟨rfl, hw2⟩; have hc3 := (hw2.cell (p := ⟨b, off + cnt ps x * 2 + 1, none⟩) hb).trans hc2))
    go_ret2
    exact ⟨ret_sb HV.out.symm rfl, hw2⟩

end Go.Proofs.Ytaiehccpefjbfaa
