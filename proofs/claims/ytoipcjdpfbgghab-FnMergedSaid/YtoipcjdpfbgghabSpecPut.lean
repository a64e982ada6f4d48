/-
  The model's Put: contracts.
-/
import Derived.Test.YtoipcjdpfbgghabSpecLists
namespace Go.Proofs.Ytoipcjdpfbgghab
open Go.RowKit

set_option maxHeartbeats 2000000 in
theorem spec_l1Put (A : Option Addr) (c : Nat) (ps : PS) (x v : ByteArray) (w : World) (hr : RP w w.heap.size A ps) (hn : ps.length ≤ 1048576) :
    Calls Try.prog 65 #[.slice A ps.length c, .string x, .string v] w (Made w w.heap.size (putL ps x v)) := by
  obtain ⟨i0, hi0, hz0, hz1, hz2⟩ := info_parts pairInfo
  go_enter Try.func65, Try.ntmps65
  go_wp2_with fail
  go_loopw [7, 8, 9] (fun q d i wr => ∃ (k : Nat) (n : Nat) (A' : Option Addr) (c' : Nat) (dn : Bool), k ≤ ps.length ∧ i = .int .i64 k ∧ q = .slice A' n c' ∧ d = .bool dn ∧ n = (putTo ps x v k).1.length ∧ OwnP wr w.heap.size A' c' (putTo ps x v k).1 ∧ (putTo ps x v k).2 = dn ∧ Below w.heap.size w wr) (fun _ _ i _ => ps.length - (intOf i).toNat)
  case atStart => exact ⟨0, 0, _, _, false, Nat.zero_le _, rfl, rfl, rfl, rfl, OwnP.made (Nat.le_refl _) _ 0 rfl (Nat.zero_le _), rfl, (Below.refl _ _).alloc (Nat.le_refl _) _⟩
  case round =>
    obtain ⟨k, n, A', c', dn, hk, rfl, rfl, rfl, hn', hown, hdn, hbw⟩ := hrel
    by_cases hlt : k < ps.length
    · obtain ⟨b, off, rfl, hb, hc1, hc2⟩ := (hr.below hbw).at_ hlt
      have HO := hid hown
      have HD := hid hbw
      have HC1 := hid ((HD.out.cell (p := ⟨b, off + k * 2, none⟩) hb).symm.trans hc1)
      have HC2 := hid ((HD.out.cell (p := ⟨b, off + k * 2 + 1, none⟩) hb).symm.trans hc2)
      have HS := hid (putTo_succ x v hlt)
      have HL := hid (putTo_len ps x v k)
      have HN := hid hn'
      have HT := hid hdn
      clear hown hbw hr hn' hdn
      cases dn
      · cases h1 : ltS ps[k].1 x
        · have g1 : Op.bytesLess ps[k].1.toList x.toList = false := h1
          have H1 := hid h1
          clear h1
          by_cases he : ps[k].1 = x
          · have g2 := eqS_true he
            have HE := hid he
            clear he
            go_wp2_with (at_builtin; refine wpList_append_rp _ rfl _ _ _ rfl i0 Try.underlying24 hi0 hz0 hz1 hz2 w.heap.size A' n c' (putTo ps x v k).1 rfl HN.out (HO.out.below ((Below.refl _ _).alloc (Nat.le_refl _) _)) _ _ _ _ [(x, v)] rfl rfl (RP.new _ (x, v) _) (by have := HL.out; simp; omega) (by have := HD.out.size; simp; omega) ?_; intro A2 n2 c2 w2 hn2 hown2 hbw2; have HN2 := hid hn2; have HO2 := hid hown2; have HB2 := hid hbw2; clear hn2 hown2 hbw2; have hc3 := (((HD.out.alloc HD.out.size _).trans HB2.out).cell (p := ⟨b, off + k * 2, none⟩) hb).trans HC1.out; have hc4 := (((HD.out.alloc HD.out.size _).trans HB2.out).cell (p := ⟨b, off + k * 2 + 1, none⟩) hb).trans HC2.out)
            go_roundw
            case rel => exact ⟨k + 1, _, _, _, _, by omega, by go_num, rfl, rfl, by rw [HS.out, put_new HT.out HE.out]; exact HN2.out, by rw [HS.out, put_new HT.out HE.out]; exact HO2.out, by rw [HS.out, put_new HT.out HE.out], (HD.out.alloc HD.out.size _).trans HB2.out⟩
            case measure => simp [intOf]; omega
          · have g2 := eqS_false he
            have HE := hid he
            clear he
            go_wp2_with (first | (at_builtin; refine wpList_append_rp _ rfl _ _ _ rfl i0 Try.underlying24 hi0 hz0 hz1 hz2 w.heap.size A' n c' (putTo ps x v k).1 rfl HN.out (HO.out.below ((Below.refl _ _).alloc (Nat.le_refl _) _)) _ _ _ _ [(x, v)] rfl rfl (RP.new _ (x, v) _) (by have := HL.out; simp; omega) (by have := HD.out.size; simp; omega) ?_; intro A2 n2 c2 w2 hn2 hown2 hbw2; have HN2 := hid hn2; have HO2 := hid hown2; have HB2 := hid hbw2; clear hn2 hown2 hbw2; have hc3 := (((HD.out.alloc HD.out.size _).trans HB2.out).cell (p := ⟨b, off + k * 2, none⟩) hb).trans HC1.out; have hc4 := (((HD.out.alloc HD.out.size _).trans HB2.out).cell (p := ⟨b, off + k * 2 + 1, none⟩) hb).trans HC2.out) | (at_builtin; refine wpList_append_rp _ rfl _ _ _ rfl i0 Try.underlying24 hi0 hz0 hz1 hz2 w.heap.size A2 n2 c2 ((putTo ps x v k).1 ++ [(x, v)]) rfl HN2.out (HO2.out.below ((Below.refl _ _).alloc (Nat.le_refl _) _)) _ _ _ _ [ps[k]] rfl rfl (RP.new _ ps[k] _) (by have := HL.out; simp; omega) (by have := HD.out.size; have := HB2.out.size; simp at this ⊢; omega) ?_; intro A3 n3 c3 w3 hn3 hown3 hbw3; have HN3 := hid hn3; have HO3 := hid hown3; have HB3 := hid hbw3; clear hn3 hown3 hbw3))
            go_roundw
            case rel => exact ⟨k + 1, _, _, _, _, by omega, by go_num, rfl, rfl, by rw [HS.out, put_two HT.out H1.out HE.out]; exact HN3.out, by rw [HS.out, put_two HT.out H1.out HE.out]; exact HO3.out, by rw [HS.out, put_two HT.out H1.out HE.out], ((((HD.out.alloc HD.out.size _).trans HB2.out).alloc (by have := HD.out.size; have := HB2.out.size; simp at this ⊢; omega) _).trans HB3.out)⟩
            case measure => simp [intOf]; omega
        · have g1 : Op.bytesLess ps[k].1.toList x.toList = true := h1
          have g2 := eqS_false (ltS_ne h1)
          have H1 := hid h1
          clear h1
          go_wp2_with (at_builtin; refine wpList_append_rp _ rfl _ _ _ rfl i0 Try.underlying24 hi0 hz0 hz1 hz2 w.heap.size A' n c' (putTo ps x v k).1 rfl HN.out (HO.out.below ((Below.refl _ _).alloc (Nat.le_refl _) _)) _ _ _ _ [ps[k]] rfl rfl (RP.new _ ps[k] _) (by have := HL.out; simp; omega) (by have := HD.out.size; simp; omega) ?_; intro A2 n2 c2 w2 hn2 hown2 hbw2; have HN2 := hid hn2; have HO2 := hid hown2; have HB2 := hid hbw2; clear hn2 hown2 hbw2)
          go_roundw
          case rel => exact ⟨k + 1, _, _, _, _, by omega, by go_num, rfl, rfl, by rw [HS.out, put_low HT.out H1.out]; exact HN2.out, by rw [HS.out, put_low HT.out H1.out]; exact HO2.out, by rw [HS.out, put_low HT.out H1.out], (HD.out.alloc HD.out.size _).trans HB2.out⟩
          case measure => simp [intOf]; omega
      · by_cases he : ps[k].1 = x
        · have g2 := eqS_true he
          have HE := hid he
          clear he
          go_wp2_with fail
          go_roundw
          case rel => exact ⟨k + 1, _, _, _, _, by omega, by go_num, rfl, rfl, by rw [HS.out, put_old HT.out HE.out]; exact HN.out, by rw [HS.out, put_old HT.out HE.out]; exact HO.out, by rw [HS.out, put_old HT.out HE.out], HD.out⟩
          case measure => simp [intOf]; omega
        · have g2 := eqS_false he
          have HE := hid he
          clear he
          go_wp2_with (at_builtin; refine wpList_append_rp _ rfl _ _ _ rfl i0 Try.underlying24 hi0 hz0 hz1 hz2 w.heap.size A' n c' (putTo ps x v k).1 rfl HN.out (HO.out.below ((Below.refl _ _).alloc (Nat.le_refl _) _)) _ _ _ _ [ps[k]] rfl rfl (RP.new _ ps[k] _) (by have := HL.out; simp; omega) (by have := HD.out.size; simp; omega) ?_; intro A2 n2 c2 w2 hn2 hown2 hbw2; have HN2 := hid hn2; have HO2 := hid hown2; have HB2 := hid hbw2; clear hn2 hown2 hbw2)
          go_roundw
          case rel => exact ⟨k + 1, _, _, _, _, by omega, by go_num, rfl, rfl, by rw [HS.out, put_app HT.out HE.out]; exact HN2.out, by rw [HS.out, put_app HT.out HE.out]; exact HO2.out, by rw [HS.out, put_app HT.out HE.out], (HD.out.alloc HD.out.size _).trans HB2.out⟩
          case measure => simp [intOf]; omega
    · obtain rfl : k = ps.length := by omega
      have HO := hid hown
      have HD := hid hbw
      have HN := hid hn'
      have HP := hid (putTo_end ps x v)
      have HL := hid (putTo_len ps x v ps.length)
      have HT := hid hdn
      clear hown hbw hr hn' hdn
      cases dn
      · go_wp2_with (at_builtin; refine wpList_append_rp _ rfl _ _ _ rfl i0 Try.underlying24 hi0 hz0 hz1 hz2 w.heap.size A' n c' (putTo ps x v ps.length).1 rfl HN.out (HO.out.below ((Below.refl _ _).alloc (Nat.le_refl _) _)) _ _ _ _ [(x, v)] rfl rfl (RP.new _ (x, v) _) (by have := HL.out; simp; omega) (by have := HD.out.size; simp; omega) ?_; intro A2 n2 c2 w2 hn2 hown2 hbw2; have HN2 := hid hn2; have HO2 := hid hown2; have HB2 := hid hbw2; clear hn2 hown2 hbw2)
        go_ret
        have e := HP.out
        rw [HT.out, if_neg (by simp)] at e
        rw [← e]
        exact ⟨_, _, ret_slice HN2.out, HO2.out, (HD.out.alloc HD.out.size _).trans HB2.out⟩
      · go_wp2_with fail
        go_ret
        have e := HP.out
        rw [HT.out, if_pos rfl] at e
        rw [← e]
        exact ⟨_, _, ret_slice HN.out, HO.out, HD.out⟩
end Go.Proofs.Ytoipcjdpfbgghab
