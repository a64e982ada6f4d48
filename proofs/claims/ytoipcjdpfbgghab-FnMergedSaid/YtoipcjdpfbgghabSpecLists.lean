/-
  The model's Put, Drop, Range: contracts.
-/
import Derived.Test.YtoipcjdpfbgghabAppend
import Derived.Test.YtoipcjdpfbgghabLists
namespace Go.Proofs.Ytoipcjdpfbgghab
open Go.RowKit


theorem put_old {k v : ByteArray} {s : PS × Bool} {p : BB} (h : s.2 = true) (he : p.1 = k) : putStep k v s p = (s.1, true) := by simp [putStep, h, he]
theorem put_app {k v : ByteArray} {s : PS × Bool} {p : BB} (h : s.2 = true) (he : p.1 ≠ k) : putStep k v s p = (s.1 ++ [p], true) := by simp [putStep, h, he]
theorem put_low {k v : ByteArray} {s : PS × Bool} {p : BB} (h : s.2 = false) (hl : ltS p.1 k = true) : putStep k v s p = (s.1 ++ [p], false) := by simp [putStep, h, hl, ltS_ne hl]
theorem put_new {k v : ByteArray} {s : PS × Bool} {p : BB} (h : s.2 = false) (he : p.1 = k) : putStep k v s p = (s.1 ++ [(k, v)], true) := by simp [putStep, h, he, ltS_irrefl]
theorem put_two {k v : ByteArray} {s : PS × Bool} {p : BB} (h : s.2 = false) (hl : ltS p.1 k = false) (he : p.1 ≠ k) : putStep k v s p = (s.1 ++ [(k, v)] ++ [p], true) := by simp [putStep, h, hl, he]

set_option maxHeartbeats 1000000 in
theorem spec_l1Drop (A : Option Addr) (c : Nat) (ps : PS) (x : ByteArray) (w : World) (hr : RP w w.heap.size A ps) (hn : ps.length ≤ 1048576) :
    Calls Try.prog 64 #[.slice A ps.length c, .string x] w (Made w w.heap.size (dropL ps x)) := by
  obtain ⟨i0, hi0, hz0, hz1, hz2⟩ := info_parts pairInfo
  go_enter Try.func64, Try.ntmps64
  go_wp2_with fail
  go_loopw [5, 6] (fun v i wr => ∃ (k : Nat) (n : Nat) (A' : Option Addr) (c' : Nat), k ≤ ps.length ∧ i = .int .i64 k ∧ v = .slice A' n c' ∧ n = (dropL (ps.take k) x).length ∧ OwnP wr w.heap.size A' c' (dropL (ps.take k) x) ∧ Below w.heap.size w wr) (fun _ i _ => ps.length - (intOf i).toNat)
  case atStart => exact ⟨0, 0, _, _, Nat.zero_le _, rfl, rfl, rfl, OwnP.made (Nat.le_refl _) _ 0 rfl (Nat.zero_le _), (Below.refl _ _).alloc (Nat.le_refl _) _⟩
  case round =>
    obtain ⟨k, n, A', c', hk, rfl, rfl, hn', hown, hbw⟩ := hrel
    by_cases hlt : k < ps.length
    · obtain ⟨b, off, rfl, hb, hc1, hc2⟩ := (hr.below hbw).at_ hlt
      have HO := hid hown
      have HD := hid hbw
      have HS := hid (dropL_succ x hlt)
      have HL := hid (dropL_len (ps.take k) x)
      have HL2 := hid (List.length_take_le k ps)
      have HN := hid hn'
      clear hown hbw hr hn'
      by_cases he : ps[k].1 = x
      · have h1 := eqS_true he
        have HE := hid he
        clear he
        go_wp2_with fail
        go_roundw
        case rel => exact ⟨k + 1, _, _, _, by omega, by go_num, rfl, by rw [HS.out, if_pos HE.out]; exact HN.out, by rw [HS.out, if_pos HE.out]; exact HO.out, HD.out⟩
        case measure => simp [intOf]; omega
      · have h1 := eqS_false he
        have HE := hid he
        clear he
        go_wp2_with (at_builtin; refine wpList_append_rp _ rfl _ _ _ rfl i0 Try.underlying24 hi0 hz0 hz1 hz2 w.heap.size A' n c' (dropL (ps.take k) x) rfl HN.out (HO.out.below ((Below.refl _ _).alloc (Nat.le_refl _) _)) _ _ _ _ [ps[k]] rfl rfl (RP.new wr ps[k] _) (by have := HL.out; have := HL2.out; simp; omega) (by have := HD.out.size; simp; omega) ?_; intro A2 n2 c2 w2 hn2 hown2 hbw2; have HN2 := hid hn2; have HO2 := hid hown2; have HB2 := hid hbw2; clear hn2 hown2 hbw2)
        go_roundw
        case rel => exact ⟨k + 1, _, _, _, by omega, by go_num, rfl, by rw [HS.out, if_neg HE.out]; exact HN2.out, by rw [HS.out, if_neg HE.out]; exact HO2.out, (HD.out.alloc HD.out.size _).trans HB2.out⟩
        case measure => simp [intOf]; omega
    · obtain rfl : k = ps.length := by omega
      have HO := hid hown
      have HD := hid hbw
      have HN := hid hn'
      clear hown hbw hr hn'
      go_wp2_with fail
      go_ret
      rw [List.take_length] at HO HN
      exact ⟨_, _, ret_slice HN.out, HO.out, HD.out⟩

theorem empty_yes {s : ByteArray} (h : s.size = 0) : s.toList = [] := by
  rw [ByteArray.toList_eq]
  exact List.eq_nil_of_length_eq_zero h
theorem empty_no {s : ByteArray} (h : s.size ≠ 0) : s.toList.isEmpty = false := by
  rw [ByteArray.toList_eq, List.isEmpty_eq_false_iff]
  intro e
  exact h (by have := congrArg List.length e; simpa using this)

end Go.Proofs.Ytoipcjdpfbgghab
