/-
  PageOk of both: contracts (their own bodies).
-/
import Derived.Test.YtooalnpfenhelabDoorPageOk
namespace Go.Proofs.YtooalnpfenhelabDoor
open Go.RowKit

theorem drawn_below {w wr : World} (h : Drawn w wr) {B : Nat} : Below B w wr := h.below B

set_option maxHeartbeats 2000000 in
theorem spec_PageOk (id : Int) (A : Option Addr) (c : Nat) (ps : PS) (K : Option Addr) (d : Nat) (ks : List Int) (w : World) (hr : RP w w.heap.size A ps) (hf : Fits ps) (hn : ps.length ≤ maxLen) (hk : RI w w.heap.size K ks) (hd : ks.length ≤ d) (hm : d ≤ maxLen) :
    Calls Tryd.prog 24 #[.agg #[.int .i64 id, .slice A ps.length c, .slice K ks.length d]] w fun e w' => e = .returned (.bool (pageB id ps ks)) ∧ Below w.heap.size w w' := by
  have hm' := hm
  unfold maxLen at hm'
  have HR := hid hr
  have HF := hid hf
  have HN := hid hn
  have HK := hid hk
  have HB : Hid (∀ o : Obj, Below w.heap.size w (w.alloc o)) := fun o => (Below.refl _ _).alloc (Nat.le_refl _) o
  clear hr hf hn hk
  go_enter Tryd.func24, Tryd.ntmps24
  go_wp2_with fail
  go_loopw [3] (fun i wr => ∃ k : Nat, k ≤ ks.length ∧ i = .int .i64 k ∧ kidsTo id ks k ∧ Drawn (w.alloc (.cells #[.int .i64 id, .slice A ps.length c, .slice K ks.length d] 27)) wr) (fun i _ => ks.length - (intOf i).toNat)
  case atStart => exact ⟨0, Nat.zero_le _, rfl, kidsTo_zero _ _, Drawn.refl _⟩
  case round =>
    obtain ⟨k, hkl, rfl, hks, hdr⟩ := hrel
    have HD := hid hdr
    have HKR := hid (HK.out.below ((HB.out _).trans (hdr.below _)))
    have HRP := hid (HR.out.below ((HB.out _).trans (hdr.below _)))
    have hx0 : wr.cell? ⟨w.heap.size, 0, none⟩ = some (.int .i64 id) := by
      obtain ⟨m, rfl⟩ := hdr
      go_simp
    have hx1 : wr.cell? ⟨w.heap.size, 1, none⟩ = some (.slice A ps.length c) := by
      obtain ⟨m, rfl⟩ := hdr
      go_simp
    have hx2 : wr.cell? ⟨w.heap.size, 2, none⟩ = some (.slice K ks.length d) := by
      obtain ⟨m, rfl⟩ := hdr
      go_simp
    clear hdr
    by_cases hlt : k < ks.length
    · obtain ⟨b, off, rfl, hb, hc1⟩ := HKR.out.at_ hlt
      have HS := hid (kidsTo_succ hks hlt)
      have HX := hid (@kids_bad id ks k hlt)
      have HT := hid (HKR.out.take (n := k))
      have e5 : (0 : Int) ≤ (k : Int) := by omega
      have e6 : (k : Int) < (ks.length : Int) := by omega
      have e7 : (k : Int) ≤ (d : Int) := by omega
      have e8 : k ≤ d := by omega
      have htl : (ks.take k).length = k := by simp; omega
      have HL : Hid (∀ W : World, RI W w.heap.size (some ⟨b, off, none⟩) (ks.take k) → Calls Tryd.prog 52 #[.slice (some ⟨b, off, none⟩) k d, .int .i64 ks[k]] W fun e w' => e = .returned (.bool (decide (ks[k] ∈ ks.take k))) ∧ W = w') := by
        intro W h
        have := spec_l1Has (some ⟨b, off, none⟩) d (ks.take k) ks[k] _ W h (by unfold maxLen; omega)
        rwa [htl] at this
      clear hks htl
      cases h1 : idB ks[k]
      · go_wp2_with fail
        go_quiet (first
          | (go_at_call 51; exact quiet_eq (spec_idIn _ _))
          | (go_at_call 52; exact quiet_eq (HL.out _ HT.out)))
        go_wp2_with fail
        go_ret
        exact ⟨ret_bool (pageB_kids (HX.out (.inl h1))).symm, (HB.out _).trans (drawn_below (HD.out.drewN _))⟩
      · cases h2 : decide (ks[k] ∈ ks.take k)
        · by_cases h3 : ks[k] = id
          · have g3 := eqI_true h3
            have H3 := hid h3
            clear h3
            go_wp2_with fail
            go_quiet (first
              | (go_at_call 51; exact quiet_eq (spec_idIn _ _))
              | (go_at_call 52; exact quiet_eq (HL.out _ HT.out)))
            go_wp2_with fail
            go_ret
            exact ⟨ret_bool (pageB_kids (HX.out (.inr (.inr H3.out)))).symm, (HB.out _).trans (drawn_below (HD.out.drewN _))⟩
          · have g3 := eqI_false h3
            have H3 := hid h3
            clear h3
            go_wp2_with fail
            go_quiet (first
              | (go_at_call 51; exact quiet_eq (spec_idIn _ _))
              | (go_at_call 52; exact quiet_eq (HL.out _ HT.out)))
            go_wp2_with fail
            go_roundw
            case rel => exact ⟨k + 1, by omega, by go_num, HS.out h1 h2 H3.out, HD.out.drewN _⟩
            case measure => simp [intOf]; omega
        · go_wp2_with fail
          go_quiet (first
            | (go_at_call 51; exact quiet_eq (spec_idIn _ _))
            | (go_at_call 52; exact quiet_eq (HL.out _ HT.out)))
          go_wp2_with fail
          go_ret
          exact ⟨ret_bool (pageB_kids (HX.out (.inr (.inl h2)))).symm, (HB.out _).trans (drawn_below (HD.out.drewN _))⟩
    · obtain rfl : k = ks.length := by omega
      have HE := hid (kidsTo_end hks)
      clear hks
      cases hi : idB id
      · go_wp2_with (first
          | (go_at_call 51; refine (spec_idIn _ _).mono ?_; rintro e w' ⟨rfl, rfl⟩)
          | (go_at_call 53; refine (spec_l1Pairs A c ps _ _ HRP.out HF.out HN.out).mono ?_; rintro e w9 ⟨rfl, m9, rfl⟩))
        go_ret
        exact ⟨ret_bool (by simp [pageB, HE.out, hi]), (HB.out _).trans (drawn_below HD.out)⟩
      · cases hp : pairsB ps
        · go_wp2_with (first
            | (go_at_call 51; refine (spec_idIn _ _).mono ?_; rintro e w' ⟨rfl, rfl⟩)
            | (go_at_call 53; refine (spec_l1Pairs A c ps _ _ HRP.out HF.out HN.out).mono ?_; rintro e w9 ⟨rfl, m9, rfl⟩))
          go_ret
          exact ⟨ret_bool (by simp [pageB, HE.out, hi, hp]), (HB.out _).trans ((drawn_below HD.out).trans (drawn_below ⟨m9, rfl⟩))⟩
        · by_cases h4 : ps.length ≤ 4
          · by_cases h5 : ks.length ≤ 4
            · by_cases h6 : ks.length = 1
              · have g6 : ((ks.length : Int) != 1) = false := neI_false (by omega)
                have H6 := hid h6
                clear h6
                go_wp2_with (first
                  | (go_at_call 51; refine (spec_idIn _ _).mono ?_; rintro e w' ⟨rfl, rfl⟩)
                  | (go_at_call 53; refine (spec_l1Pairs A c ps _ _ HRP.out HF.out HN.out).mono ?_; rintro e w9 ⟨rfl, m9, rfl⟩))
                go_ret
                exact ⟨ret_bool (by simp [pageB, HE.out, hi, hp, h4, H6.out]), (HB.out _).trans ((drawn_below HD.out).trans (drawn_below ⟨m9, rfl⟩))⟩
              · have g6 : ((ks.length : Int) != 1) = true := neI_true (by omega)
                have H6 := hid h6
                clear h6
                by_cases h7 : ks.length = 0
                · have g7 : ((ks.length : Int) == 0) = true := eqI_true (by omega)
                  have H7 := hid h7
                  clear h7
                  go_wp2_with (first
                    | (go_at_call 51; refine (spec_idIn _ _).mono ?_; rintro e w' ⟨rfl, rfl⟩)
                    | (go_at_call 53; refine (spec_l1Pairs A c ps _ _ HRP.out HF.out HN.out).mono ?_; rintro e w9 ⟨rfl, m9, rfl⟩))
                  go_ret
                  exact ⟨ret_bool (by simp [pageB, HE.out, hi, hp, h4, H7.out]), (HB.out _).trans ((drawn_below HD.out).trans (drawn_below ⟨m9, rfl⟩))⟩
                · have g7 : ((ks.length : Int) == 0) = false := eqI_false (by omega)
                  have H7 := hid h7
                  clear h7
                  by_cases h8 : ps.length = 0
                  · have g8 : ((ps.length : Int) == 0) = true := eqI_true (by omega)
                    have H8 := hid h8
                    clear h8
                    go_wp2_with (first
                      | (go_at_call 51; refine (spec_idIn _ _).mono ?_; rintro e w' ⟨rfl, rfl⟩)
                      | (go_at_call 53; refine (spec_l1Pairs A c ps _ _ HRP.out HF.out HN.out).mono ?_; rintro e w9 ⟨rfl, m9, rfl⟩))
                    go_ret
                    exact ⟨ret_bool (by simp [pageB, HE.out, hi, hp, h5, H6.out, H7.out, H8.out]), (HB.out _).trans ((drawn_below HD.out).trans (drawn_below ⟨m9, rfl⟩))⟩
                  · have g8 : ((ps.length : Int) == 0) = false := eqI_false (by omega)
                    have H8 := hid h8
                    clear h8
                    go_wp2_with (first
                      | (go_at_call 51; refine (spec_idIn _ _).mono ?_; rintro e w' ⟨rfl, rfl⟩)
                      | (go_at_call 53; refine (spec_l1Pairs A c ps _ _ HRP.out HF.out HN.out).mono ?_; rintro e w9 ⟨rfl, m9, rfl⟩))
                    go_ret
                    exact ⟨ret_bool (by simp [pageB, HE.out, hi, hp, h4, h5, H6.out, H7.out, H8.out]), (HB.out _).trans ((drawn_below HD.out).trans (drawn_below ⟨m9, rfl⟩))⟩
            · go_wp2_with (first
                | (go_at_call 51; refine (spec_idIn _ _).mono ?_; rintro e w' ⟨rfl, rfl⟩)
                | (go_at_call 53; refine (spec_l1Pairs A c ps _ _ HRP.out HF.out HN.out).mono ?_; rintro e w9 ⟨rfl, m9, rfl⟩))
              go_ret
              exact ⟨ret_bool (by simp [pageB, HE.out, hi, hp, h4, h5]), (HB.out _).trans ((drawn_below HD.out).trans (drawn_below ⟨m9, rfl⟩))⟩
          · go_wp2_with (first
              | (go_at_call 51; refine (spec_idIn _ _).mono ?_; rintro e w' ⟨rfl, rfl⟩)
              | (go_at_call 53; refine (spec_l1Pairs A c ps _ _ HRP.out HF.out HN.out).mono ?_; rintro e w9 ⟨rfl, m9, rfl⟩))
            go_ret
            exact ⟨ret_bool (by simp [pageB, HE.out, hi, hp, h4]), (HB.out _).trans ((drawn_below HD.out).trans (drawn_below ⟨m9, rfl⟩))⟩

set_option maxHeartbeats 2000000 in
theorem impl_kidsOk (id : Int) (A : Option Addr) (n c : Nat) (K : Option Addr) (d : Nat) (ks : List Int) (w : World) (hk : RI w w.heap.size K ks) (hd : ks.length ≤ d) (hm : d ≤ maxLen) :
    Calls Tryd.prog 48 #[.agg #[.int .i64 id, .slice A n c, .slice K ks.length d]] w fun e w' => e = .returned (.bool (decide (2 ≤ ks.length ∧ ks.length ≤ 4) && kidsB id ks)) ∧ Below w.heap.size w w' := by
  have hm' := hm
  unfold maxLen at hm'
  have HK := hid hk
  have HB : Hid (∀ o : Obj, Below w.heap.size w (w.alloc o)) := fun o => (Below.refl _ _).alloc (Nat.le_refl _) o
  clear hk
  by_cases h2 : 2 ≤ ks.length
  · by_cases h4 : ks.length ≤ 4
    · have HE : Hid (decide (2 ≤ ks.length ∧ ks.length ≤ 4) = true) := by simp [Hid, h2, h4]
      go_enter Tryd.func48, Tryd.ntmps48
      go_wp2_with fail
      go_loop [18] (fun i => ∃ k : Nat, k ≤ ks.length ∧ i = .int .i64 k ∧ kidsTo id ks k) (fun i => ks.length - (intOf i).toNat)
      case atStart => exact ⟨0, Nat.zero_le _, rfl, kidsTo_zero _ _⟩
      case round =>
        obtain ⟨k, hkl, rfl, hks⟩ := hrel
        by_cases hlt : k < ks.length
        · obtain ⟨b, off, rfl, hb, hc1⟩ := HK.out.at_ hlt
          have HS := hid (kidsTo_succ hks hlt)
          have HX := hid (@kids_bad id ks k hlt)
          have HT := hid ((HK.out.below (HB.out (.cells #[.int .i64 id, .slice A n c, .slice (some ⟨b, off, none⟩) ks.length d] 27))).take (n := k))
          have htl : (ks.take k).length = k := by simp; omega
          have HL : Hid (∀ W : World, RI W w.heap.size (some ⟨b, off, none⟩) (ks.take k) → Calls Tryd.prog 73 #[.slice (some ⟨b, off, none⟩) k d, .int .i64 ks[k]] W fun e w' => e = .returned (.bool (decide (ks[k] ∈ ks.take k))) ∧ W = w') := by
            intro W h
            have := contains_any (some ⟨b, off, none⟩) d (ks.take k) ks[k] _ W h (by unfold maxLen; omega)
            rwa [htl] at this
          clear hks htl
          cases h1 : idB ks[k]
          · go_wp2_with (first
              | (go_at_call 46; refine (impl_idOk _ _).mono ?_; rintro e w' ⟨rfl, rfl⟩))
            go_ret
            exact ⟨ret_bool (by rw [HX.out (.inl h1)]; simp), HB.out _⟩
          · by_cases h3 : ks[k] = id
            · have g3 := eqI_true h3
              have H3 := hid h3
              clear h3
              go_wp2_with (first
                | (go_at_call 46; refine (impl_idOk _ _).mono ?_; rintro e w' ⟨rfl, rfl⟩))
              go_ret
              exact ⟨ret_bool (by rw [HX.out (.inr (.inr H3.out))]; simp), HB.out _⟩
            · have g3 := eqI_false h3
              have H3 := hid h3
              clear h3
              cases h5 : decide (ks[k] ∈ ks.take k)
              · go_wp2_with (first
                  | (go_at_call 46; refine (impl_idOk _ _).mono ?_; rintro e w' ⟨rfl, rfl⟩)
                  | (go_at_call 73; refine (HL.out _ HT.out).mono ?_; rintro e w' ⟨rfl, rfl⟩))
                go_round
                case rel => exact ⟨k + 1, by omega, by go_num, HS.out h1 h5 H3.out⟩
                case measure => simp [intOf]; omega
              · go_wp2_with (first
                  | (go_at_call 46; refine (impl_idOk _ _).mono ?_; rintro e w' ⟨rfl, rfl⟩)
                  | (go_at_call 73; refine (HL.out _ HT.out).mono ?_; rintro e w' ⟨rfl, rfl⟩))
                go_ret
                exact ⟨ret_bool (by rw [HX.out (.inr (.inl h5))]; simp), HB.out _⟩
        · obtain rfl : k = ks.length := by omega
          have HZ := hid (kidsTo_end hks)
          clear hks
          go_wp2_with fail
          go_ret
          exact ⟨ret_bool (by first | exact HZ.out.symm | (rw [HE.out, HZ.out]; rfl)), HB.out _⟩
    · have HE : Hid (decide (2 ≤ ks.length ∧ ks.length ≤ 4) = false) := by simp [Hid, h4]
      go_enter Tryd.func48, Tryd.ntmps48
      go_wp2_with fail
      go_ret
      exact ⟨ret_bool (by first | rfl | (rw [HE.out]; rfl)), HB.out _⟩
  · have HE : Hid (decide (2 ≤ ks.length ∧ ks.length ≤ 4) = false) := by simp [Hid, h2]
    go_enter Tryd.func48, Tryd.ntmps48
    go_wp2_with fail
    go_ret
    exact ⟨ret_bool (by first | rfl | (rw [HE.out]; rfl)), HB.out _⟩

theorem pageB_id {id : Int} {ps : PS} {ks : List Int} (h : idB id = false) : pageB id ps ks = false := by simp [pageB, h]
theorem pageB_leaf {id : Int} {ps : PS} {ks : List Int} (h : idB id = true) (hk : ks.length = 0) : pageB id ps ks = (decide (ps.length ≤ 4) && pairsB ps) := by
  obtain rfl := List.eq_nil_of_length_eq_zero hk
  simp [pageB, h, kidsB, Bool.and_comm]
theorem pageB_inner {id : Int} {ps : PS} {ks : List Int} (h : idB id = true) (hk : ks.length ≠ 0) : pageB id ps ks = (decide (ps.length = 0) && (decide (2 ≤ ks.length ∧ ks.length ≤ 4) && kidsB id ks)) := by
  by_cases hp : ps.length = 0
  · obtain rfl := List.eq_nil_of_length_eq_zero hp
    have e : decide (2 ≤ ks.length ∧ ks.length ≤ 4) = (decide (ks.length ≤ 4) && !decide (ks.length = 1)) := by
      by_cases h1 : ks.length = 1 <;> by_cases h4 : ks.length ≤ 4 <;> simp [h1, h4]
      omega
    rw [e]
    simp [pageB, h, pairsB, risesB, Bool.and_comm]
  · simp [pageB, h, hp, hk]

set_option maxHeartbeats 2000000 in
theorem impl_PageOk (id : Int) (A : Option Addr) (c : Nat) (ps : PS) (K : Option Addr) (d : Nat) (ks : List Int) (w : World) (hr : RP w w.heap.size A ps) (hf : Fits ps) (hn : ps.length ≤ maxLen) (hk : RI w w.heap.size K ks) (hd : ks.length ≤ d) (hm : d ≤ maxLen) :
    Calls Tryd.prog 20 #[.agg #[.int .i64 id, .slice A ps.length c, .slice K ks.length d]] w fun e w' => e = .returned (.bool (pageB id ps ks)) ∧ Below w.heap.size w w' := by
  have hn' := hn
  have hm' := hm
  unfold maxLen at hn' hm'
  have HB : Hid (∀ o : Obj, Below w.heap.size w (w.alloc o)) := fun o => (Below.refl _ _).alloc (Nat.le_refl _) o
  have HR := hid ((hr.below (HB.out (.cells #[.int .i64 id, .slice A ps.length c, .slice K ks.length d] 27))).more (HB.out (.cells #[.int .i64 id, .slice A ps.length c, .slice K ks.length d] 27)).size)
  have HK := hid ((hk.below (HB.out (.cells #[.int .i64 id, .slice A ps.length c, .slice K ks.length d] 27))).more (HB.out (.cells #[.int .i64 id, .slice A ps.length c, .slice K ks.length d] 27)).size)
  have HF := hid hf
  have HN := hid hn
  clear hr hf hn hk
  cases hi : idB id
  · have HE := hid (@pageB_id id ps ks hi)
    go_enter Tryd.func20, Tryd.ntmps20
    go_wp2_with (first
      | (go_at_call 46; refine (impl_idOk _ _).mono ?_; rintro e w' ⟨rfl, rfl⟩))
    go_ret
    exact ⟨ret_bool HE.out.symm, HB.out _⟩
  · by_cases hk0 : ks.length = 0
    · have HE := hid (@pageB_leaf id ps ks hi hk0)
      have g0 : ((ks.length : Int) == 0) = true := eqI_true (by omega)
      clear hk0
      by_cases h4 : ps.length ≤ 4
      · go_enter Tryd.func20, Tryd.ntmps20
        go_wp2_with (first
          | (go_at_call 46; refine (impl_idOk _ _).mono ?_; rintro e w' ⟨rfl, rfl⟩)
          | (go_at_call 47; refine (impl_pairsOk A c ps _ HR.out HF.out HN.out).mono ?_; rintro e w9 ⟨rfl, hw9⟩))
        go_ret
        exact ⟨ret_bool (by rw [HE.out]; simp [h4]), (HB.out _).trans (hw9.mono (HB.out _).size)⟩
      · go_enter Tryd.func20, Tryd.ntmps20
        go_wp2_with (first
          | (go_at_call 46; refine (impl_idOk _ _).mono ?_; rintro e w' ⟨rfl, rfl⟩))
        go_ret
        exact ⟨ret_bool (by rw [HE.out]; simp [h4]), HB.out _⟩
    · have HE := hid (@pageB_inner id ps ks hi hk0)
      have g0 : ((ks.length : Int) == 0) = false := eqI_false (by omega)
      clear hk0
      by_cases h0 : ps.length = 0
      · have g1 : ((ps.length : Int) == 0) = true := eqI_true (by omega)
        have H0 := hid h0
        clear h0
        go_enter Tryd.func20, Tryd.ntmps20
        go_wp2_with (first
          | (go_at_call 46; refine (impl_idOk _ _).mono ?_; rintro e w' ⟨rfl, rfl⟩)
          | (go_at_call 48; refine (impl_kidsOk id A _ c K d ks _ HK.out hd hm).mono ?_; rintro e w9 ⟨rfl, hw9⟩))
        go_ret
        exact ⟨ret_bool (by rw [HE.out]; simp [H0.out]), (HB.out _).trans (hw9.mono (HB.out _).size)⟩
      · have g1 : ((ps.length : Int) == 0) = false := eqI_false (by omega)
        have H0 := hid h0
        clear h0
        go_enter Tryd.func20, Tryd.ntmps20
        go_wp2_with (first
          | (go_at_call 46; refine (impl_idOk _ _).mono ?_; rintro e w' ⟨rfl, rfl⟩))
        go_ret
        exact ⟨ret_bool (by rw [HE.out]; simp [H0.out]), HB.out _⟩
end Go.Proofs.YtooalnpfenhelabDoor
