/-
  The model's Put, Drop, Range: contracts.
-/
import Derived.Test.YtaiehccpefjbfabAppend
import Derived.Test.YtaiehccpefjbfabLists
namespace Go.Proofs.Ytaiehccpefjbfab
open Go.RowKit


theorem put_old {k v : ByteArray} {s : PS × Bool} {p : BB} (h : s.2 = true) (he : p.1 = k) : putStep k v s p = (s.1, true) := by simp [putStep, h, he]
theorem put_app {k v : ByteArray} {s : PS × Bool} {p : BB} (h : s.2 = true) (he : p.1 ≠ k) : putStep k v s p = (s.1 ++ [p], true) := by simp [putStep, h, he]
theorem put_low {k v : ByteArray} {s : PS × Bool} {p : BB} (h : s.2 = false) (hl : ltS p.1 k = true) : putStep k v s p = (s.1 ++ [p], false) := by simp [putStep, h, hl, ltS_ne hl]
theorem put_new {k v : ByteArray} {s : PS × Bool} {p : BB} (h : s.2 = false) (he : p.1 = k) : putStep k v s p = (s.1 ++ [(k, v)], true) := by simp [putStep, h, he, ltS_irrefl]
theorem put_two {k v : ByteArray} {s : PS × Bool} {p : BB} (h : s.2 = false) (hl : ltS p.1 k = false) (he : p.1 ≠ k) : putStep k v s p = (s.1 ++ [(k, v)] ++ [p], true) := by simp [putStep, h, hl, he]

theorem empty_yes {s : ByteArray} (h : s.size = 0) : s.toList = [] := by
  rw [ByteArray.toList_eq]
  exact List.eq_nil_of_length_eq_zero h
theorem empty_no {s : ByteArray} (h : s.size ≠ 0) : s.toList.isEmpty = false := by
  rw [ByteArray.toList_eq, List.isEmpty_eq_false_iff]
  intro e
  exact h (by have := congrArg List.length e; simpa using this)

set_option maxHeartbeats 1000000 in
theorem spec_l1Range (A : Option Addr) (c : Nat) (ps : PS) (lo hi : ByteArray) (w : World) (hr : RP w w.heap.size A ps) (hn : ps.length ≤ 1048576) :
    Calls Try.prog 45 #[.slice A ps.length c, .string lo, .string hi] w (Made w w.heap.size (rangeL ps lo hi)) := by
  obtain ⟨i0, hi0, hz0, hz1, hz2⟩ := info_parts pairInfo
  go_enter Try.func45, Try.ntmps45
  go_wp2_with fail
  go_loopw [7, 8] (fun v i wr => ∃ (k : Nat) (n : Nat) (A' : Option Addr) (c' : Nat), k ≤ ps.length ∧ i = .int .i64 k ∧ v = .slice A' n c' ∧ n = (rangeL (ps.take k) lo hi).length ∧ OwnP wr w.heap.size A' c' (rangeL (ps.take k) lo hi) ∧ Below w.heap.size w wr) (fun _ i _ => ps.length - (intOf i).toNat)
  case atStart => exact ⟨0, 0, _, _, Nat.zero_le _, rfl, rfl, rfl, OwnP.made (Nat.le_refl _) _ 0 rfl (Nat.zero_le _), (Below.refl _ _).alloc (Nat.le_refl _) _⟩
  case round =>
    obtain ⟨k, n, A', c', hk, rfl, rfl, hn', hown, hbw⟩ := hrel
    by_cases hlt : k < ps.length
    · obtain ⟨b, off, rfl, hb, hc1, hc2⟩ := (hr.below hbw).at_ hlt
      have HO := hid hown
      have HD := hid hbw
      have HS := hid (rangeL_succ lo hi hlt)
      have HL := hid (rangeL_len (ps.take k) lo hi)
      have HL2 := hid (List.length_take_le k ps)
      have HN := hid hn'
      clear hown hbw hr hn'
      cases h1 : ltS ps[k].1 lo
      · have g1 : Op.bytesLess ps[k].1.toList lo.toList = false := h1
        by_cases h2 : hi.size = 0
        · have g2 := empty_yes h2
          have HY : Hid (inR lo hi ps[k] = true) := by simp [Hid, inR, h1, h2]
          clear h1 h2
          go_wp2_with (at_builtin; refine wpList_append_rp _ rfl _ _ _ rfl i0 Try.underlying36 hi0 hz0 hz1 hz2 w.heap.size A' n c' (rangeL (ps.take k) lo hi) rfl HN.out (HO.out.below ((Below.refl _ _).alloc (Nat.le_refl _) _)) _ _ _ _ [ps[k]] rfl rfl (RP.new _ ps[k] _) (by have := HL.out; have := HL2.out; simp; omega) (by have := HD.out.size; simp; omega) ?_; intro A2 n2 c2 w2 hn2 hown2 hbw2; have HN2 := hid hn2; have HO2 := hid hown2; have HB2 := hid hbw2; clear hn2 hown2 hbw2)
          go_roundw
          case rel => exact ⟨k + 1, _, _, _, by omega, by go_num, rfl, by rw [HS.out, if_pos HY.out]; exact HN2.out, by rw [HS.out, if_pos HY.out]; exact HO2.out, (HD.out.alloc HD.out.size _).trans HB2.out⟩
          case measure => simp [intOf]; omega
        · have g2 := empty_no h2
          cases h3 : ltS ps[k].1 hi
          · have g3 : Op.bytesLess ps[k].1.toList hi.toList = false := h3
            have HY : Hid (inR lo hi ps[k] = false) := by simp [Hid, inR, h1, h2, h3]
            clear h1 h2 h3
            go_wp2_with fail
            go_roundw
            case rel => exact ⟨k + 1, _, _, _, by omega, by go_num, rfl, by rw [HS.out, if_neg (by simp [HY.out])]; exact HN.out, by rw [HS.out, if_neg (by simp [HY.out])]; exact HO.out, HD.out⟩
            case measure => simp [intOf]; omega
          · have g3 : Op.bytesLess ps[k].1.toList hi.toList = true := h3
            have HY : Hid (inR lo hi ps[k] = true) := by simp [Hid, inR, h1, h3]
            clear h1 h2 h3
            go_wp2_with (at_builtin; refine wpList_append_rp _ rfl _ _ _ rfl i0 Try.underlying36 hi0 hz0 hz1 hz2 w.heap.size A' n c' (rangeL (ps.take k) lo hi) rfl HN.out (HO.out.below ((Below.refl _ _).alloc (Nat.le_refl _) _)) _ _ _ _ [ps[k]] rfl rfl (RP.new _ ps[k] _) (by have := HL.out; have := HL2.out; simp; omega) (by have := HD.out.size; simp; omega) ?_; intro A2 n2 c2 w2 hn2 hown2 hbw2; have HN2 := hid hn2; have HO2 := hid hown2; have HB2 := hid hbw2; clear hn2 hown2 hbw2)
            go_roundw
            case rel => exact ⟨k + 1, _, _, _, by omega, by go_num, rfl, by rw [HS.out, if_pos HY.out]; exact HN2.out, by rw [HS.out, if_pos HY.out]; exact HO2.out, (HD.out.alloc HD.out.size _).trans HB2.out⟩
            case measure => simp [intOf]; omega
      · have g1 : Op.bytesLess ps[k].1.toList lo.toList = true := h1
        have HY : Hid (inR lo hi ps[k] = false) := by simp [Hid, inR, h1]
        clear h1
        go_wp2_with fail
        go_roundw
        case rel => exact ⟨k + 1, _, _, _, by omega, by go_num, rfl, by rw [HS.out, if_neg (by simp [HY.out])]; exact HN.out, by rw [HS.out, if_neg (by simp [HY.out])]; exact HO.out, HD.out⟩
        case measure => simp [intOf]; omega
    · obtain rfl : k = ps.length := by omega
      have HO := hid hown
      have HD := hid hbw
      have HN := hid hn'
      clear hown hbw hr hn'
      go_wp2_with fail
      go_ret
      rw [List.take_length] at HO HN
      exact ⟨_, _, ret_slice HN.out, HO.out, HD.out⟩
end Go.Proofs.Ytaiehccpefjbfab
