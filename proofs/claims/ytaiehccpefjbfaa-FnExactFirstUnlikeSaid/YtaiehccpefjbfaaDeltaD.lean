/-
  What makes one map of another one, in both.
-/
import Derived.Test.YtaiehccpefjbfaaPairEq
import Derived.Test.YtaiehccpefjbfaaDeltaOk
import Derived.Test.YtaiehccpefjbfaaChgWrite
import Derived.Test.YtaiehccpefjbfaaChgConcat
import Derived.Test.YtaiehccpefjbfaaWith
namespace Go.Proofs.Ytaiehccpefjbfaa
open Go.RowKit

def MadeC2 (w : World) (L : CS) (b : Bool) (e : Ending) (w' : World) : Prop := ∃ A c, e = .returned (.tuple #[.slice A L.length c, .bool b]) ∧ OwnC w' w.heap.size A c L ∧ Below w.heap.size w w'
theorem MadeC2.no {w w' : World} {L : CS} {b : Bool} (hL : L = []) (hb : b = false) (h : Below w.heap.size w w') : MadeC2 w L b (.returned (.tuple #[.slice none 0 0, .bool false])) w' := by
  subst hL hb
  exact ⟨none, 0, rfl, OwnC.nil_ _ _, h⟩
theorem MadeC2.yes {w w' : World} {L L' : CS} {b : Bool} {A : Option Addr} {c : Nat} (hL : L = L') (hb : b = true) (ho : OwnC w' w.heap.size A c L') (h : Below w.heap.size w w') : MadeC2 w L b (.returned (.tuple #[.slice A L'.length c, .bool true])) w' := by
  subst hL hb
  exact ⟨A, c, rfl, ho, h⟩
theorem small_gone (a b : PS) (k : Nat) : (writeAll [] (goneL (a.take k) b)).length ≤ a.length := by
  have h1 := writeAll_len [] (goneL (a.take k) b)
  have h2 := goneL_len (a.take k) b
  have h3 : (a.take k).length ≤ a.length := by rw [List.length_take]; omega
  simp only [List.length_nil] at h1
  omega
theorem small_puts (G : CS) (a b : PS) (k : Nat) : (writeAll G (putsL a (b.take k))).length ≤ G.length + b.length := by
  have h1 := writeAll_len G (putsL a (b.take k))
  have h2 := putsL_len a (b.take k)
  have h3 : (b.take k).length ≤ b.length := by rw [List.length_take]; omega
  omega

set_option maxHeartbeats 4000000 in
set_option maxRecDepth 100000 in
theorem spec_l9Of (A : Option Addr) (c : Nat) (a : PS) (K : Option Addr) (d : Nat) (b : PS) (w : World) (hr : RP w w.heap.size A a) (hk : RP w w.heap.size K b) (ha : a.length ≤ 1000) (hb : b.length ≤ 1000) (sa : risesB a = true) (sb : risesB b = true) :
    Calls Try.prog 88 #[.slice A a.length c, .slice K b.length d] w (MadeC w w.heap.size (deltaL a b)) := by
  obtain ⟨i0, hi0, hz0, hz1, hz2⟩ := info_parts chgInfo
  have HR := hid hr
  have HK := hid hk
  have HM := hid (delta_model sa sb)
  clear hr hk sa sb
  go_enter Try.func88, Try.ntmps88
  go_wp2_with fail
  go_loopw [5, 6] (fun q i wr => ∃ (k n : Nat) (A' : Option Addr) (c' : Nat), k ≤ a.length ∧ i = .int .i64 k ∧ q = .slice A' n c' ∧ Hid (n = (writeAll [] (goneL (a.take k) b)).length) ∧ Hid (OwnC wr w.heap.size A' c' (writeAll [] (goneL (a.take k) b))) ∧ Hid (Below w.heap.size w wr)) (fun _ i _ => a.length - (intOf i).toNat)
  case atStart => exact ⟨0, 0, _, _, Nat.zero_le _, rfl, rfl, rfl, OwnC.made (Nat.le_refl _) #[] 0 rfl (Nat.zero_le _), (Below.refl _ _).alloc (Nat.le_refl _) _⟩
  case round =>
    obtain ⟨k, n, A', c', hk, rfl, rfl, HN', HP, HD⟩ := hrel
    by_cases hlt : k < a.length
    · obtain ⟨g, off, rfl, hgb, hc1, hc2⟩ := (HR.out.below HD.out).at_ hlt
      have HRK := hid ((HK.out.below HD.out).more HD.out.size)
      have HS := hid (goneL_succ b hlt)
      have HSM := hid (small_gone a b k)
      have e5 : (0 : Int) ≤ (k : Int) := by omega
      have e6 : (k : Int) < (a.length : Int) := by omega
      have en := HN'.out
      subst en
      cases hh : hasK b a[k].1
      · have HP2 : Hid (writeAll [] (goneL (a.take (k + 1)) b) = writeL (writeAll [] (goneL (a.take k) b)) (goneOf a[k])) := by rw [Hid, HS.out, hh, if_neg (by simp), writeAll_snoc]
        generalize writeAll [] (goneL (a.take k) b) = P at *
        go_wp2_with (first
          | (go_at_call 126; refine (spec_l1Get K d b a[k].1 _ _ HRK.out (by unfold maxLen; omega)).mono ?_; rw [hh]; rintro e w4 ⟨rfl, rfl⟩)
          | (go_at_call 127; refine (spec_l6Write A' c' P (a[k].1, ⟨#[]⟩, true) _ HP.out.rh (by have := HSM.out; omega)).mono ?_; rintro e w5 ⟨A5, c5, rfl, ho5, hb5⟩; have HO5 := hid ho5; have HB5 := hid hb5; clear ho5 hb5))
        go_roundw
        case rel => exact ⟨k + 1, _, _, _, by omega, by go_num, rfl, (by rw [HP2.out]; rfl), (by rw [HP2.out]; exact HO5.out.mono HD.out.size), HD.out.trans (HB5.out.mono HD.out.size)⟩
        case measure => simp [intOf]; omega
      · have HP2 : Hid (writeAll [] (goneL (a.take (k + 1)) b) = writeAll [] (goneL (a.take k) b)) := by rw [Hid, HS.out, hh, if_pos rfl]
        go_wp2_with (first
          | (go_at_call 126; refine (spec_l1Get K d b a[k].1 _ _ HRK.out (by unfold maxLen; omega)).mono ?_; rw [hh]; rintro e w4 ⟨rfl, rfl⟩))
        go_roundw
        case rel => exact ⟨k + 1, _, _, _, by omega, by go_num, rfl, (by rw [HP2.out]; rfl), (by rw [HP2.out]; exact HP.out), HD.out⟩
        case measure => simp [intOf]; omega
    · obtain rfl : k = a.length := by omega
      rw [List.take_length] at HN' HP
      have en := HN'.out
      subst en
      have HGS : Hid ((writeAll [] (goneL a b)).length ≤ a.length) := by
        have := small_gone a b a.length
        rwa [List.take_length] at this
      generalize hG : writeAll [] (goneL a b) = G at *
      go_wp2_with fail
      go_loopw [5, 9] (fun q i wr => ∃ (k n : Nat) (A' : Option Addr) (c' : Nat), k ≤ b.length ∧ i = .int .i64 k ∧ q = .slice A' n c' ∧ Hid (n = (writeAll G (putsL a (b.take k))).length) ∧ Hid (OwnC wr w.heap.size A' c' (writeAll G (putsL a (b.take k)))) ∧ Hid (Below w.heap.size w wr)) (fun _ i _ => b.length - (intOf i).toNat)
      case atStart => exact ⟨0, _, _, _, Nat.zero_le _, rfl, rfl, rfl, HP.out, HD.out⟩
      case round =>
        obtain ⟨k, n, A', c', hk, rfl, rfl, HN', HP, HD⟩ := hrel
        by_cases hlt : k < b.length
        · obtain ⟨g, off, rfl, hgb, hc1, hc2⟩ := (HK.out.below HD.out).at_ hlt
          have HRA := hid ((HR.out.below HD.out).more HD.out.size)
          have HS := hid (putsL_succ a hlt)
          have HSM := hid (small_puts G a b k)
          have e5 : (0 : Int) ≤ (k : Int) := by omega
          have e6 : (k : Int) < (b.length : Int) := by omega
          have en := HN'.out
          subst en
          cases hh : hasK a b[k].1
          · have HP2 : Hid (writeAll G (putsL a (b.take (k + 1))) = writeL (writeAll G (putsL a (b.take k))) (putOf b[k])) := by rw [Hid, HS.out, hh, if_neg (by simp), writeAll_snoc]
            generalize writeAll G (putsL a (b.take k)) = P at *
            go_wp2_with (first
              | (go_at_call 126; refine (spec_l1Get _ _ a b[k].1 _ _ HRA.out (by unfold maxLen; omega)).mono ?_; rw [hh]; rintro e w4 ⟨rfl, rfl⟩))
            go_region_held3 (fun w' => w'.cell? ⟨g, off + k * 2, none⟩ = some (.string b[k].1) ∧ w'.cell? ⟨g, off + k * 2 + 1, none⟩ = some (.string b[k].2)) (go_keep)
              (first | (go_at_call 127; refine (spec_l6Write A' c' P (b[k].1, b[k].2, false) _ (by first | exact HP.out.rh | exact (HP.out.below (Below.refl _ _).drew).rh) (by have := HSM.out; have := HGS.out; omega)).mono ?_; rintro e w5 ⟨A5, c5, rfl, ho5, hb5⟩; have hc4 : w5.cell? ⟨g, off + k * 2, none⟩ = some (.string b[k].1) := (hb5.cell (p := ⟨g, off + k * 2, none⟩) (by have := HD.out.size; simp; omega)).trans (by first | exact hc1 | go_simp); have hc5 : w5.cell? ⟨g, off + k * 2 + 1, none⟩ = some (.string b[k].2) := (hb5.cell (p := ⟨g, off + k * 2 + 1, none⟩) (by have := HD.out.size; simp; omega)).trans (by first | exact hc2 | go_simp); have HO5 := hid ho5; have HB5 := hid (show Below wr.heap.size wr w5 by first | exact hb5 | exact (Below.refl _ _).drew.trans hb5); clear ho5 hb5))
            go_wp2_with fail
            go_roundw
            case rel => exact ⟨k + 1, _, _, _, by omega, by go_num, rfl, (by rw [HP2.out]; rfl), (by rw [HP2.out]; exact HO5.out.mono (by have := HD.out.size; simp; omega)), HD.out.trans (HB5.out.mono HD.out.size)⟩
            case measure => simp [intOf]; omega
          · by_cases he : valOf a b[k].1 = b[k].2
            · have g3 : ((valOf a b[k].1).toList != b[k].2.toList) = false := by simp [he]
              have g4 := eqS_true he
              have HP2 : Hid (writeAll G (putsL a (b.take (k + 1))) = writeAll G (putsL a (b.take k))) := by rw [Hid, HS.out, hh, if_pos (by simp [he])]
              clear he
              go_wp2_with (first
                | (go_at_call 126; refine (spec_l1Get _ _ a b[k].1 _ _ HRA.out (by unfold maxLen; omega)).mono ?_; rw [hh]; rintro e w4 ⟨rfl, rfl⟩))
              go_roundw
              case rel => exact ⟨k + 1, _, _, _, by omega, by go_num, rfl, (by rw [HP2.out]; rfl), (by rw [HP2.out]; exact HP.out), HD.out⟩
              case measure => simp [intOf]; omega
            · have g3 : ((valOf a b[k].1).toList != b[k].2.toList) = true := by
                rw [bne, eqS_false he]; rfl
              have g4 := eqS_false he
              have HP2 : Hid (writeAll G (putsL a (b.take (k + 1))) = writeL (writeAll G (putsL a (b.take k))) (putOf b[k])) := by rw [Hid, HS.out, hh, if_neg (by simp [he]), writeAll_snoc]
              clear he
              generalize writeAll G (putsL a (b.take k)) = P at *
              go_wp2_with (first
                | (go_at_call 126; refine (spec_l1Get _ _ a b[k].1 _ _ HRA.out (by unfold maxLen; omega)).mono ?_; rw [hh]; rintro e w4 ⟨rfl, rfl⟩))
              go_region_held3 (fun w' => w'.cell? ⟨g, off + k * 2, none⟩ = some (.string b[k].1) ∧ w'.cell? ⟨g, off + k * 2 + 1, none⟩ = some (.string b[k].2)) (go_keep)
                (first | (go_at_call 127; refine (spec_l6Write A' c' P (b[k].1, b[k].2, false) _ (by first | exact HP.out.rh | exact (HP.out.below (Below.refl _ _).drew).rh) (by have := HSM.out; have := HGS.out; omega)).mono ?_; rintro e w5 ⟨A5, c5, rfl, ho5, hb5⟩; have hc4 : w5.cell? ⟨g, off + k * 2, none⟩ = some (.string b[k].1) := (hb5.cell (p := ⟨g, off + k * 2, none⟩) (by have := HD.out.size; simp; omega)).trans (by first | exact hc1 | go_simp); have hc5 : w5.cell? ⟨g, off + k * 2 + 1, none⟩ = some (.string b[k].2) := (hb5.cell (p := ⟨g, off + k * 2 + 1, none⟩) (by have := HD.out.size; simp; omega)).trans (by first | exact hc2 | go_simp); have HO5 := hid ho5; have HB5 := hid (show Below wr.heap.size wr w5 by first | exact hb5 | exact (Below.refl _ _).drew.trans hb5); clear ho5 hb5))
              go_wp2_with fail
              go_roundw
              case rel => exact ⟨k + 1, _, _, _, by omega, by go_num, rfl, (by rw [HP2.out]; rfl), (by rw [HP2.out]; exact HO5.out.mono (by have := HD.out.size; simp; omega)), HD.out.trans (HB5.out.mono HD.out.size)⟩
              case measure => simp [intOf]; omega
        · obtain rfl : k = b.length := by omega
          rw [List.take_length] at HN' HP
          have en := HN'.out
          subst en
          have HE := hid HM.out
          go_wp2_with fail
          go_ret
          rw [HE.out] at HP ⊢
          exact ⟨A', c', rfl, HP.out, HD.out⟩

theorem deltaOfB_a {a b : PS} (h : mapB a = false) : deltaOfB a b = false := by simp [deltaOfB, h]
theorem deltaOfB_b {a b : PS} (h : mapB b = false) : deltaOfB a b = false := by simp [deltaOfB, h]
theorem deltaOfB_n {a b : PS} (h : ¬ (deltaL a b).length ≤ 60) : deltaOfB a b = false := by simp [deltaOfB, h]
theorem deltaOfB_y {a b : PS} (h1 : mapB a = true) (h2 : mapB b = true) (h : (deltaL a b).length ≤ 60) : deltaOfB a b = true := by simp [deltaOfB, h1, h2, h]
theorem deltaOfL_y {a b : PS} (h : deltaOfB a b = true) : deltaOfL a b = deltaL a b := by simp [deltaOfL, h]
theorem deltaOfL_n {a b : PS} (h : deltaOfB a b = false) : deltaOfL a b = [] := by simp [deltaOfL, h]
theorem fits_delta {a b : PS} (h1 : mapB a = true) (h2 : mapB b = true) : FitsC (deltaL a b) := by
  intro x hx
  have := deltaL_right h1 h2 x hx
  simp only [changeB, Bool.and_eq_true] at this
  have k := keyB_small this.1
  have v : x.2.1.size ≤ 6 := by
    have h2 := this.2
    split at h2
    · have := of_decide_eq_true h2
      omega
    · exact keyB_small h2
  unfold maxLen
  omega
theorem len_delta {a b : PS} (h1 : mapB a = true) (h2 : mapB b = true) : (deltaL a b).length ≤ 120 := by
  have := deltaL_len a b
  have := (mapB_iff.1 h1).1
  have := (mapB_iff.1 h2).1
  omega
end Go.Proofs.Ytaiehccpefjbfaa
