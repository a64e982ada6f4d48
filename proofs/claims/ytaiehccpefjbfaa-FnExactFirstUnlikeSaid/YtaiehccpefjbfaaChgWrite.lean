/-
  The model's way to write a change among others.
-/
import Derived.Test.YtaiehccpefjbfaaChgKit
import Derived.Test.YtaiehccpefjbfaaDeltaF
import Derived.Test.YtaiehccpefjbfaaAppend
namespace Go.Proofs.Ytaiehccpefjbfaa
open Go.RowKit

theorem bdN {B : Nat} {w wr : World} (h : Below B w wr) (n : Nat) : Below B w (wr.drewN n) := ⟨h.os, h.tape, h.output, h.size, h.block⟩
theorem bdA (wr : World) (n : Nat) (o : Obj) : Below wr.heap.size wr ((wr.drewN n).alloc o) := (bdN (Below.refl _ wr) n).alloc (Nat.le_refl _) o
theorem bdA2 (wr : World) (n m : Nat) (o : Obj) : Below wr.heap.size wr (((wr.drewN n).drewN m).alloc o) := (bdN (bdN (Below.refl _ wr) n) m).alloc (Nat.le_refl _) o
set_option maxHeartbeats 4000000 in
set_option maxRecDepth 100000 in
theorem spec_l6Write (A : Option Addr) (c : Nat) (ps : CS) (x : CD) (w : World) (hr : RC w w.heap.size A ps) (hn : ps.length ≤ 1048576) :
    Calls Try.prog 127 #[.slice A ps.length c, .agg #[.string x.1, .string x.2.1, .bool x.2.2]] w (MadeC w w.heap.size (writeL ps x)) := by
  obtain ⟨i0, hi0, hz0, hz1, hz2⟩ := info_parts chgInfo
  go_enter Try.func127, Try.ntmps127
  have HX : Hid (∀ wr : World, Below (w.heap.size + 1) (w.alloc (.cells #[.string x.1, .string x.2.1, .bool x.2.2] 129)) wr → wr.cell? ⟨w.heap.size, 0, none⟩ = some (.string x.1) ∧ wr.cell? ⟨w.heap.size, 1, none⟩ = some (.string x.2.1) ∧ wr.cell? ⟨w.heap.size, 2, none⟩ = some (.bool x.2.2)) := by
    intro wr h
    refine ⟨(h.cell (p := ⟨w.heap.size, 0, none⟩) (Nat.lt_succ_self _)).trans (by go_simp), (h.cell (p := ⟨w.heap.size, 1, none⟩) (Nat.lt_succ_self _)).trans (by go_simp), (h.cell (p := ⟨w.heap.size, 2, none⟩) (Nat.lt_succ_self _)).trans (by go_simp)⟩
  have HBW : Hid (∀ wr : World, Below (w.heap.size + 1) (w.alloc (.cells #[.string x.1, .string x.2.1, .bool x.2.2] 129)) wr → Below w.heap.size w wr) := fun wr h => ((Below.refl _ _).alloc (Nat.le_refl _) _).trans (h.mono (by omega))
  have HSZ : Hid (∀ wr : World, Below (w.heap.size + 1) (w.alloc (.cells #[.string x.1, .string x.2.1, .bool x.2.2] 129)) wr → w.heap.size + 1 ≤ wr.heap.size) := fun wr h => by have := h.size; simpa using this
  go_wp2_with fail
  go_loopw [5, 6, 7] (fun q d i wr => ∃ (k : Nat) (n : Nat) (A' : Option Addr) (c' : Nat) (dn : Bool), k ≤ ps.length ∧ i = .int .i64 k ∧ q = .slice A' n c' ∧ d = .bool dn ∧ n = (writeTo ps x k).1.length ∧ OwnC wr (w.heap.size + 1) A' c' (writeTo ps x k).1 ∧ (writeTo ps x k).2 = dn ∧ Below (w.heap.size + 1) (w.alloc (.cells #[.string x.1, .string x.2.1, .bool x.2.2] 129)) wr) (fun _ _ i _ => ps.length - (intOf i).toNat)
  case atStart => exact ⟨0, 0, _, _, false, Nat.zero_le _, rfl, rfl, rfl, rfl, (by have h0 := OwnC.made (w := w.alloc (.cells #[.string x.1, .string x.2.1, .bool x.2.2] 129)) (B := w.heap.size + 1) (by rw [World.size_alloc]; exact Nat.le_refl _) #[] 0 rfl (Nat.zero_le _); rwa [World.size_alloc] at h0), rfl, (Below.refl _ _).alloc (by rw [World.size_alloc]; exact Nat.le_refl _) _⟩
  case round =>
    obtain ⟨k, n, A', c', dn, hk, rfl, rfl, rfl, hn', hown, hdn, hbw⟩ := hrel
    by_cases hlt : k < ps.length
    · obtain ⟨b, off, rfl, hb, hc1, hc2, hc2b⟩ := (hr.below (HBW.out _ hbw)).at_ hlt
      have HO := hid hown
      have HD := hid hbw
      have HZ := hid (HSZ.out _ hbw)
      obtain ⟨hx1, hx2, hx3⟩ := HX.out _ hbw
      have HC1 := hid ((HD.out.cell (p := ⟨b, off + k * 3, none⟩) (by simp; omega)).symm.trans hc1)
      have HC2 := hid ((HD.out.cell (p := ⟨b, off + k * 3 + 1, none⟩) (by simp; omega)).symm.trans hc2)
      have HC2b := hid ((HD.out.cell (p := ⟨b, off + k * 3 + 2, none⟩) (by simp; omega)).symm.trans hc2b)
      have HS := hid (writeTo_succ x hlt)
      have HL := hid (writeTo_len ps x k)
      have HN := hid hn'
      have HT := hid hdn
      clear hown hbw hr hn' hdn
      cases dn
      · cases h1 : ltS ps[k].1 x.1
        · have g1 : Op.bytesLess ps[k].1.toList x.1.toList = false := h1
          have H1 := hid h1
          clear h1
          by_cases he : ps[k].1 = x.1
          · have g2 := eqS_true he
            have HE := hid he
            clear he
            go_wp2_with fail
            go_quiet (fail)
            go_wp2_with (at_builtin; refine wpList_append_rc _ rfl _ _ _ rfl i0 Try.underlying123 hi0 hz0 hz1 hz2 (w.heap.size + 1) A' n c' (writeTo ps x k).1 rfl HN.out (HO.out.below (by first | exact bdA _ _ _ | exact bdA2 _ _ _ _ | exact (Below.refl _ _).alloc (Nat.le_refl _) _)) _ _ _ _ [x] rfl rfl (RC.new _ x _) (by have := HL.out; simp; omega) (by have := HZ.out; simp; omega) ?_; intro A2 n2 c2 w2 hn2 happ2; have hown2 := happ2.own; have hbw2 := happ2.below (by first | exact HO.out.below (by first | exact bdA _ _ _ | exact bdA2 _ _ _ _ | exact (Below.refl _ _).alloc (Nat.le_refl _) _) | exact HO2.out.below (by first | exact bdA _ _ _ | exact (Below.refl _ _).alloc (Nat.le_refl _) _)) (by first | exact HN.out | exact HN2.out) (by first | (have := HZ.out; simp; omega) | (have := HZ.out; have := HB2.out.size; simp at this ⊢; omega)); clear happ2; have HN2 := hid hn2; have HO2 := hid hown2; have HB2 := hid hbw2; have HBB := hid (show Below (w.heap.size + 1) (w.alloc (.cells #[.string x.1, .string x.2.1, .bool x.2.2] 129)) w2 by first | exact ((bdN HD.out _).alloc HZ.out _).trans HB2.out | exact ((bdN (bdN HD.out _) _).alloc HZ.out _).trans HB2.out | exact (HD.out.alloc HZ.out _).trans HB2.out); clear hn2 hown2 hbw2; obtain ⟨hx4, hx5, hx6⟩ := HX.out _ (HBB.out); have hc3 := ((HBB.out).cell (p := ⟨b, off + k * 3, none⟩) (by simp; omega)).trans HC1.out; have hc4 := ((HBB.out).cell (p := ⟨b, off + k * 3 + 1, none⟩) (by simp; omega)).trans HC2.out; have hc5 := ((HBB.out).cell (p := ⟨b, off + k * 3 + 2, none⟩) (by simp; omega)).trans HC2b.out)
            go_quiet (fail)
            go_wp2_with fail
            go_roundw
            case rel => exact ⟨k + 1, _, _, _, _, by omega, by go_num, rfl, rfl, by rw [HS.out, wr_new HT.out HE.out]; exact HN2.out, by rw [HS.out, wr_new HT.out HE.out]; exact HO2.out, by rw [HS.out, wr_new HT.out HE.out], bdN HBB.out _⟩
            case measure => simp [intOf]; omega
          · have g2 := eqS_false he
            have HE := hid he
            clear he
            go_wp2_with fail
            go_quiet (fail)
            go_wp2_with (at_builtin; refine wpList_append_rc _ rfl _ _ _ rfl i0 Try.underlying123 hi0 hz0 hz1 hz2 (w.heap.size + 1) A' n c' (writeTo ps x k).1 rfl HN.out (HO.out.below (by first | exact bdA _ _ _ | exact bdA2 _ _ _ _ | exact (Below.refl _ _).alloc (Nat.le_refl _) _)) _ _ _ _ [x] rfl rfl (RC.new _ x _) (by have := HL.out; simp; omega) (by have := HZ.out; simp; omega) ?_; intro A2 n2 c2 w2 hn2 happ2; have hown2 := happ2.own; have hbw2 := happ2.below (by first | exact HO.out.below (by first | exact bdA _ _ _ | exact bdA2 _ _ _ _ | exact (Below.refl _ _).alloc (Nat.le_refl _) _) | exact HO2.out.below (by first | exact bdA _ _ _ | exact (Below.refl _ _).alloc (Nat.le_refl _) _)) (by first | exact HN.out | exact HN2.out) (by first | (have := HZ.out; simp; omega) | (have := HZ.out; have := HB2.out.size; simp at this ⊢; omega)); clear happ2; have HN2 := hid hn2; have HO2 := hid hown2; have HB2 := hid hbw2; have HBB := hid (show Below (w.heap.size + 1) (w.alloc (.cells #[.string x.1, .string x.2.1, .bool x.2.2] 129)) w2 by first | exact ((bdN HD.out _).alloc HZ.out _).trans HB2.out | exact ((bdN (bdN HD.out _) _).alloc HZ.out _).trans HB2.out | exact (HD.out.alloc HZ.out _).trans HB2.out); clear hn2 hown2 hbw2; obtain ⟨hx4, hx5, hx6⟩ := HX.out _ (HBB.out); have hc3 := ((HBB.out).cell (p := ⟨b, off + k * 3, none⟩) (by simp; omega)).trans HC1.out; have hc4 := ((HBB.out).cell (p := ⟨b, off + k * 3 + 1, none⟩) (by simp; omega)).trans HC2.out; have hc5 := ((HBB.out).cell (p := ⟨b, off + k * 3 + 2, none⟩) (by simp; omega)).trans HC2b.out)
            go_quiet (fail)
            go_wp2_with (at_builtin; refine wpList_append_rc _ rfl _ _ _ rfl i0 Try.underlying123 hi0 hz0 hz1 hz2 (w.heap.size + 1) A2 n2 c2 ((writeTo ps x k).1 ++ [x]) rfl HN2.out (HO2.out.below (by first | exact bdA _ _ _ | exact (Below.refl _ _).alloc (Nat.le_refl _) _)) _ _ _ _ [ps[k]] rfl rfl (RC.new _ ps[k] _) (by have := HL.out; simp; omega) (by have := HZ.out; have := HB2.out.size; simp at this ⊢; omega) ?_; intro A3 n3 c3 w3 hn3 happ3; have hown3 := happ3.own; have hbw3 := happ3.below (by first | exact HO.out.below (by first | exact bdA _ _ _ | exact bdA2 _ _ _ _ | exact (Below.refl _ _).alloc (Nat.le_refl _) _) | exact HO2.out.below (by first | exact bdA _ _ _ | exact (Below.refl _ _).alloc (Nat.le_refl _) _)) (by first | exact HN.out | exact HN2.out) (by first | (have := HZ.out; simp; omega) | (have := HZ.out; have := HB2.out.size; simp at this ⊢; omega)); clear happ3; have HN3 := hid hn3; have HO3 := hid hown3; have HB3 := hid hbw3; clear hn3 hown3 hbw3)
            go_roundw
            case rel => exact ⟨k + 1, _, _, _, _, by omega, by go_num, rfl, rfl, by rw [HS.out, wr_two HT.out H1.out HE.out]; exact HN3.out, by rw [HS.out, wr_two HT.out H1.out HE.out]; exact HO3.out, by rw [HS.out, wr_two HT.out H1.out HE.out], (bdN HBB.out _).alloc (by have := HZ.out; have := HB2.out.size; simp at this ⊢; omega) _ |>.trans HB3.out⟩
            case measure => simp [intOf]; omega
        · have g1 : Op.bytesLess ps[k].1.toList x.1.toList = true := h1
          have g2 := eqS_false (ltS_ne h1)
          have H1 := hid h1
          clear h1
          go_wp2_with fail
          go_quiet (fail)
          go_wp2_with fail
          go_quiet (fail)
          go_wp2_with (at_builtin; refine wpList_append_rc _ rfl _ _ _ rfl i0 Try.underlying123 hi0 hz0 hz1 hz2 (w.heap.size + 1) A' n c' (writeTo ps x k).1 rfl HN.out (HO.out.below (by first | exact bdA _ _ _ | exact bdA2 _ _ _ _ | exact (Below.refl _ _).alloc (Nat.le_refl _) _)) _ _ _ _ [ps[k]] rfl rfl (RC.new _ ps[k] _) (by have := HL.out; simp; omega) (by have := HZ.out; simp; omega) ?_; intro A2 n2 c2 w2 hn2 happ2; have hown2 := happ2.own; have hbw2 := happ2.below (by first | exact HO.out.below (by first | exact bdA _ _ _ | exact bdA2 _ _ _ _ | exact (Below.refl _ _).alloc (Nat.le_refl _) _) | exact HO2.out.below (by first | exact bdA _ _ _ | exact (Below.refl _ _).alloc (Nat.le_refl _) _)) (by first | exact HN.out | exact HN2.out) (by first | (have := HZ.out; simp; omega) | (have := HZ.out; have := HB2.out.size; simp at this ⊢; omega)); clear happ2; have HN2 := hid hn2; have HO2 := hid hown2; have HB2 := hid hbw2; have HBB := hid (show Below (w.heap.size + 1) (w.alloc (.cells #[.string x.1, .string x.2.1, .bool x.2.2] 129)) w2 by first | exact ((bdN HD.out _).alloc HZ.out _).trans HB2.out | exact ((bdN (bdN HD.out _) _).alloc HZ.out _).trans HB2.out | exact (HD.out.alloc HZ.out _).trans HB2.out); clear hn2 hown2 hbw2)
          go_roundw
          case rel => exact ⟨k + 1, _, _, _, _, by omega, by go_num, rfl, rfl, by rw [HS.out, wr_low HT.out H1.out]; exact HN2.out, by rw [HS.out, wr_low HT.out H1.out]; exact HO2.out, by rw [HS.out, wr_low HT.out H1.out], HBB.out⟩
          case measure => simp [intOf]; omega
      · by_cases he : ps[k].1 = x.1
        · have g2 := eqS_true he
          have HE := hid he
          clear he
          go_wp2_with fail
          go_quiet (fail)
          go_wp2_with fail
          go_quiet (fail)
          go_wp2_with fail
          go_roundw
          case rel => exact ⟨k + 1, _, _, _, _, by omega, by go_num, rfl, rfl, by rw [HS.out, wr_old HT.out HE.out]; exact HN.out, by rw [HS.out, wr_old HT.out HE.out]; exact HO.out, by rw [HS.out, wr_old HT.out HE.out], (by first | exact bdN HD.out _ | exact bdN (bdN HD.out _) _ | exact HD.out)⟩
          case measure => simp [intOf]; omega
        · have g2 := eqS_false he
          have HE := hid he
          clear he
          go_wp2_with fail
          go_quiet (fail)
          go_wp2_with fail
          go_quiet (fail)
          go_wp2_with (at_builtin; refine wpList_append_rc _ rfl _ _ _ rfl i0 Try.underlying123 hi0 hz0 hz1 hz2 (w.heap.size + 1) A' n c' (writeTo ps x k).1 rfl HN.out (HO.out.below (by first | exact bdA _ _ _ | exact bdA2 _ _ _ _ | exact (Below.refl _ _).alloc (Nat.le_refl _) _)) _ _ _ _ [ps[k]] rfl rfl (RC.new _ ps[k] _) (by have := HL.out; simp; omega) (by have := HZ.out; simp; omega) ?_; intro A2 n2 c2 w2 hn2 happ2; have hown2 := happ2.own; have hbw2 := happ2.below (by first | exact HO.out.below (by first | exact bdA _ _ _ | exact bdA2 _ _ _ _ | exact (Below.refl _ _).alloc (Nat.le_refl _) _) | exact HO2.out.below (by first | exact bdA _ _ _ | exact (Below.refl _ _).alloc (Nat.le_refl _) _)) (by first | exact HN.out | exact HN2.out) (by first | (have := HZ.out; simp; omega) | (have := HZ.out; have := HB2.out.size; simp at this ⊢; omega)); clear happ2; have HN2 := hid hn2; have HO2 := hid hown2; have HB2 := hid hbw2; have HBB := hid (show Below (w.heap.size + 1) (w.alloc (.cells #[.string x.1, .string x.2.1, .bool x.2.2] 129)) w2 by first | exact ((bdN HD.out _).alloc HZ.out _).trans HB2.out | exact ((bdN (bdN HD.out _) _).alloc HZ.out _).trans HB2.out | exact (HD.out.alloc HZ.out _).trans HB2.out); clear hn2 hown2 hbw2)
          go_roundw
          case rel => exact ⟨k + 1, _, _, _, _, by omega, by go_num, rfl, rfl, by rw [HS.out, wr_app HT.out HE.out]; exact HN2.out, by rw [HS.out, wr_app HT.out HE.out]; exact HO2.out, by rw [HS.out, wr_app HT.out HE.out], HBB.out⟩
          case measure => simp [intOf]; omega
    · obtain rfl : k = ps.length := by omega
      have HO := hid hown
      have HD := hid hbw
      have HZ := hid (HSZ.out _ hbw)
      obtain ⟨hx1, hx2, hx3⟩ := HX.out _ hbw
      have HN := hid hn'
      have HP := hid (writeTo_end ps x)
      have HL := hid (writeTo_len ps x ps.length)
      have HT := hid hdn
      clear hown hbw hr hn' hdn
      cases dn
      · go_wp2_with (at_builtin; refine wpList_append_rc _ rfl _ _ _ rfl i0 Try.underlying123 hi0 hz0 hz1 hz2 (w.heap.size + 1) A' n c' (writeTo ps x ps.length).1 rfl HN.out (HO.out.below (by first | exact bdA _ _ _ | exact bdA2 _ _ _ _ | exact (Below.refl _ _).alloc (Nat.le_refl _) _)) _ _ _ _ [x] rfl rfl (RC.new _ x _) (by have := HL.out; simp; omega) (by have := HZ.out; simp; omega) ?_; intro A2 n2 c2 w2 hn2 happ2; have hown2 := happ2.own; have hbw2 := happ2.below (by first | exact HO.out.below (by first | exact bdA _ _ _ | exact bdA2 _ _ _ _ | exact (Below.refl _ _).alloc (Nat.le_refl _) _) | exact HO2.out.below (by first | exact bdA _ _ _ | exact (Below.refl _ _).alloc (Nat.le_refl _) _)) (by first | exact HN.out | exact HN2.out) (by first | (have := HZ.out; simp; omega) | (have := HZ.out; have := HB2.out.size; simp at this ⊢; omega)); clear happ2; have HN2 := hid hn2; have HO2 := hid hown2; have HB2 := hid hbw2; have HBB := hid (show Below (w.heap.size + 1) (w.alloc (.cells #[.string x.1, .string x.2.1, .bool x.2.2] 129)) w2 by first | exact ((bdN HD.out _).alloc HZ.out _).trans HB2.out | exact ((bdN (bdN HD.out _) _).alloc HZ.out _).trans HB2.out | exact (HD.out.alloc HZ.out _).trans HB2.out); clear hn2 hown2 hbw2)
        go_ret
        have e := HP.out
        rw [HT.out, if_neg (by simp)] at e
        rw [← e]
        exact ⟨_, _, ret_slice HN2.out, HO2.out.mono (by omega), HBW.out _ (HBB.out)⟩
      · go_wp2_with fail
        go_ret
        have e := HP.out
        rw [HT.out, if_pos rfl] at e
        rw [← e]
        exact ⟨_, _, ret_slice HN.out, HO.out.mono (by omega), HBW.out _ HD.out⟩
end Go.Proofs.Ytaiehccpefjbfaa
