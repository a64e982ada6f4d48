/-
  LocksOk of both.
-/
import Derived.Test.YtjdmaoegfpgfjaaLockFns
namespace Go.Proofs.Ytjdmaoegfpgfjaa
open Go.RowKit Go.Shelf

def heldTo (hs : HS) (k : Nat) : Prop := ∀ (i : Nat) (h : i < hs.length), i < k → heldAt hs i hs[i] = true
def lineTo (hs : HS) (k : Nat) : Prop := ∀ (i : Nat) (h : i < hs.length), i < k → lineAt hs i hs[i] = true
def heldPTo (hs : HS) (k : Nat) : Prop := ∀ (i : Nat) (h : i < hs.length), i < k → holdB hs[i] = true ∧ ((hs.take i).any fun y => ownB y hs[i]) = false ∧ (hs.any fun y => keepsB y hs[i]) = false
theorem heldTo_succ {hs : HS} {k : Nat} (h : heldTo hs k) (hk : k < hs.length) (h1 : heldAt hs k hs[k] = true) : heldTo hs (k + 1) := by
  intro i hi hlt
  by_cases e : i = k
  · subst e; exact h1
  · exact h i hi (by omega)
theorem lineTo_succ {hs : HS} {k : Nat} (h : lineTo hs k) (hk : k < hs.length) (h1 : lineAt hs k hs[k] = true) : lineTo hs (k + 1) := by
  intro i hi hlt
  by_cases e : i = k
  · subst e; exact h1
  · exact h i hi (by omega)
theorem heldPTo_succ {hs : HS} {k : Nat} (h : heldPTo hs k) (hk : k < hs.length) (h1 : holdB hs[k] = true) (h2 : ((hs.take k).any fun y => ownB y hs[k]) = false) (h3 : (hs.any fun y => keepsB y hs[k]) = false) : heldPTo hs (k + 1) := by
  intro i hi hlt
  by_cases e : i = k
  · subst e; exact ⟨h1, h2, h3⟩
  · exact h i hi (by omega)
theorem heldTo_end {hs : HS} (h : heldTo hs hs.length) : heldsB hs = true := heldsB_iff.2 fun i hi => h i hi hi
theorem lineTo_end {hs : HS} (h : lineTo hs hs.length) : linesB hs = true := linesB_iff.2 fun i hi => h i hi hi
theorem heldPTo_end {hs : HS} (h : heldPTo hs hs.length) : heldsB hs = true := by
  rw [← heldPB_eq]
  exact heldPB_iff.2 fun i hi => h i hi hi
theorem held_no {hs : HS} {k : Nat} (hk : k < hs.length) (h : heldAt hs k hs[k] = false) (l : HS) : locksB hs l = false := by
  rw [Bool.eq_false_iff]
  intro h'
  have := heldsB_iff.1 (locksB_iff.1 h').1 k hk
  rw [h] at this
  cases this
theorem line_no {l : HS} {k : Nat} (hk : k < l.length) (h : lineAt l k l[k] = false) (hs : HS) : locksB hs l = false := by
  rw [Bool.eq_false_iff]
  intro h'
  have := linesB_iff.1 (locksB_iff.1 h').2.1 k hk
  rw [h] at this
  cases this
theorem heldP_no {hs : HS} {k : Nat} (hk : k < hs.length) (h : holdB hs[k] = false ∨ ((hs.take k).any fun y => ownB y hs[k]) = true ∨ (hs.any fun y => keepsB y hs[k]) = true) (l : HS) : locksB hs l = false := by
  rw [Bool.eq_false_iff]
  intro h'
  have h2 := (locksB_iff.1 h').1
  rw [← heldPB_eq] at h2
  have := heldPB_iff.1 h2 k hk
  rcases h with h | h | h
  · rw [h] at this; cases this.1
  · rw [h] at this; cases this.2.1
  · rw [h] at this; cases this.2.2
theorem heldAt_hold {hs : HS} {k : Nat} {x : HD} (h : holdB x = false) : heldAt hs k x = false := by simp [heldAt, h]
theorem lineAt_hold {hs : HS} {k : Nat} {x : HD} (h : holdB x = false) : lineAt hs k x = false := by simp [lineAt, h]
def noClash (hs : HS) (x : HD) (k : Nat) : Prop := ∀ (i : Nat) (h : i < hs.length), i < k → clashB hs[i] x = false
theorem noClash_succ {hs : HS} {x : HD} {k : Nat} (h : noClash hs x k) (hk : k < hs.length) (h1 : clashB hs[k] x = false) : noClash hs x (k + 1) := by
  intro i hi hlt
  by_cases e : i = k
  · subst e; exact h1
  · exact h i hi (by omega)
theorem clash_at {hs : HS} {k j : Nat} (hk : k < hs.length) (hj : j < k) (h : clashB (hs[j]'(by omega)) hs[k] = true) : heldAt hs k hs[k] = false := by
  rw [Bool.eq_false_iff]
  intro h'
  have := (heldAt_iff.1 h').2 j (by omega) hj
  rw [h] at this
  cases this
def noTxn (hs : HS) (t : Int) (k : Nat) : Prop := ∀ (i : Nat) (h : i < hs.length), i < k → hs[i].1 ≠ t
theorem noTxn_succ {hs : HS} {t : Int} {k : Nat} (h : noTxn hs t k) (hk : k < hs.length) (h1 : hs[k].1 ≠ t) : noTxn hs t (k + 1) := by
  intro i hi hlt
  by_cases e : i = k
  · subst e; exact h1
  · exact h i hi (by omega)
theorem txn_at {hs : HS} {k j : Nat} (hk : k < hs.length) (hj : j < k) (h : (hs[j]'(by omega)).1 = hs[k].1) : lineAt hs k hs[k] = false := by
  rw [Bool.eq_false_iff]
  intro h'
  exact (lineAt_iff.1 h').2 j (by omega) hj h
theorem clash1 {y x : HD} (e : y.2.1 ≠ x.2.1) : clashB y x = false := by simp [clashB, e]
theorem clash2 {y x : HD} (e : y.2.1 = x.2.1) (e2 : y.1 = x.1) : clashB y x = true := by simp [clashB, e, e2]
theorem clash3 {y x : HD} (e : y.2.1 = x.2.1) (e2 : y.1 ≠ x.1) : clashB y x = !fitB y.2.2 x.2.2 := by simp [clashB, e, e2]

theorem Below.drewN_ {B : Nat} {a w : World} (h : Below B a w) (q : Nat) : Below B a (w.drewN q) := ⟨h.os, h.tape, h.output, h.size, h.block⟩
/-- A world in which the two cells of the locks lie. -/
def LkCells (w : World) (A : Option Addr) (n c : Nat) (K : Option Addr) (m d : Nat) (W : World) : Prop := W.cell? ⟨w.heap.size, 0, none⟩ = some (.slice A n c) ∧ W.cell? ⟨w.heap.size, 1, none⟩ = some (.slice K m d)
theorem lkCells_new (w : World) (A : Option Addr) (n c : Nat) (K : Option Addr) (m d : Nat) : LkCells w A n c K m d (w.alloc (.cells #[.slice A n c, .slice K m d] 39)) := by
  have h := Row2.lit w 39 (.slice A n c) (.slice K m d)
  exact ⟨h.c0, h.c1⟩
theorem LkCells.below {w : World} {A : Option Addr} {n c : Nat} {K : Option Addr} {m d : Nat} {W W' : World} (h : LkCells w A n c K m d W) (hlt : w.heap.size < W.heap.size) (hb : Below W.heap.size W W') : LkCells w A n c K m d W' :=
  ⟨(hb.cell (p := ⟨w.heap.size, 0, none⟩) hlt).trans h.1, (hb.cell (p := ⟨w.heap.size, 1, none⟩) hlt).trans h.2⟩

set_option maxHeartbeats 8000000 in
theorem spec_LocksOk (A : Option Addr) (c : Nat) (h : HS) (K : Option Addr) (d : Nat) (l : HS) (w : World) (hr : RH w w.heap.size A h) (hf : FitsH h) (hn : h.length ≤ maxLen) (hr' : RH w w.heap.size K l) (hf' : FitsH l) (hn' : l.length ≤ maxLen) :
    Calls Try.prog 30 #[.agg #[.slice A h.length c, .slice K l.length d]] w fun e w' => e = .returned (.bool (locksB h l)) ∧ Below w.heap.size w w' := by
  unfold maxLen at hn hn'
  have hb1 : Below w.heap.size w (w.alloc (.cells #[.slice A h.length c, .slice K l.length d] 39)) := (Below.refl _ _).alloc (Nat.le_refl _) _
  have HB1 := hid hb1
  have HR := hid ((hr.below hb1).more hb1.size)
  have HR2 := hid ((hr'.below hb1).more hb1.size)
  have HF := hid hf
  have HF2 := hid hf'
  have hlt1 : w.heap.size < (w.alloc (.cells #[.slice A h.length c, .slice K l.length d] 39)).heap.size := by simp
  have HY : Hid (∀ W : World, Below (w.alloc (.cells #[.slice A h.length c, .slice K l.length d] 39)).heap.size (w.alloc (.cells #[.slice A h.length c, .slice K l.length d] 39)) W → LkCells w A h.length c K l.length d W) := fun W hW => (lkCells_new w A h.length c K l.length d).below hlt1 hW
  clear hr hr' hf hf' hb1
  go_enter Try.func30, Try.ntmps30
  go_wp2_with fail
  generalize hw1 : w.alloc (.cells #[.slice A h.length c, .slice K l.length d] 39) = w1 at *
  go_loopw [3] (fun i wr => ∃ k : Nat, k ≤ h.length ∧ i = .int .i64 k ∧ heldTo h k ∧ Below w1.heap.size w1 wr) (fun i _ => h.length - (intOf i).toNat)
  case atStart => exact ⟨0, Nat.zero_le _, rfl, fun i hi hk => absurd hk (by omega), Below.refl _ _⟩
  case round =>
    obtain ⟨k, hk, rfl, hht, hbw⟩ := hrel
    have HD := hid hbw
    have y0 := (HY.out _ hbw).1
    have y1 := (HY.out _ hbw).2
    by_cases hlt : k < h.length
    · obtain ⟨b, off, rfl, hb, hc1, hc2, hc3⟩ := (HR.out.below hbw).at_ hlt
      have HS := hid (heldTo_succ hht hlt)
      have HFK := hid (HF.out.get hlt)
      have HNO := hid (fun hx => held_no hlt hx l)
      have X5 := hid (Row3.lit wr 49 (.int .i64 h[k].1) (.string h[k].2.1) (.int .i64 h[k].2.2))
      have HB5 := hid (hbw.alloc hbw.size (.cells #[.int .i64 h[k].1, .string h[k].2.1, .int .i64 h[k].2.2] 49))
      have e5 : (0 : Int) ≤ (k : Int) := by omega
      have e6 : (k : Int) < (h.length : Int) := by omega
      have hxb : wr.heap.size < (wr.alloc (.cells #[.int .i64 h[k].1, .string h[k].2.1, .int .i64 h[k].2.2] 49)).heap.size := by simp
      clear hbw hht
      go_wp2_with fail
      refine (spec_l5Hold h[k] _ HFK.out).mono ?_
      rintro e w6 ⟨rfl, hb6⟩
      have X6 := hid (X5.out.below hb6)
      have HB6 := hid (HB5.out.trans (hb6.mono HB5.out.size))
      have hx6 := Nat.lt_of_lt_of_le hxb hb6.size
      clear hb6 y0 y1 hc1 hc2 hc3
      cases hh : holdB h[k]
      · go_wp2_with fail
        go_ret
        exact ⟨ret_bool (HNO.out (heldAt_hold hh)).symm, HB1.out.trans (HB6.out.mono HB1.out.size)⟩
      · obtain ⟨wo, rfl⟩ : ∃ wo : World, wo = wr := ⟨_, rfl⟩
        go_wp2_with fail
        go_loopw [5] (fun i wr => ∃ j : Nat, j ≤ k ∧ i = .int .i64 j ∧ noClash h h[k] j ∧ Below w6.heap.size w6 wr) (fun i _ => k - (intOf i).toNat)
        case atStart => exact ⟨0, Nat.zero_le _, rfl, fun i hi hk => absurd hk (by omega), Below.refl _ _⟩
        case round =>
          obtain ⟨j, hj, rfl, hct, hbw⟩ := hrel
          have HD7 := hid hbw
          have HB7 := hid (HB6.out.trans (hbw.mono HB6.out.size))
          have y0 := (HY.out _ HB7.out).1
          have y1 := (HY.out _ HB7.out).2
          have x0 := (hbw.cell (p := ⟨wo.heap.size, 0, none⟩) hx6).trans X6.out.c0
          have x1 := (hbw.cell (p := ⟨wo.heap.size, 1, none⟩) hx6).trans X6.out.c1
          have x2 := (hbw.cell (p := ⟨wo.heap.size, 2, none⟩) hx6).trans X6.out.c2
          have hxw := Nat.lt_of_lt_of_le hx6 hbw.size
          by_cases hjk : j < k
          · obtain ⟨b', off', e', hb', hc1, hc2, hc3⟩ := (HR.out.below HB7.out).at_ (k := j) (by omega)
            injection e' with e'
            injection e' with e1 e2
            subst e1 e2
            have HC := hid (noClash_succ hct (by omega))
            have HAT := hid (fun hx => held_no hlt (clash_at hlt hjk hx) l)
            have HB8 := hid (HD7.out.alloc HD7.out.size (.cells #[.int .i64 (h[j]'(by omega)).1, .string (h[j]'(by omega)).2.1, .int .i64 (h[j]'(by omega)).2.2] 49))
            have HB9 := hid (HB7.out.alloc HB7.out.size (.cells #[.int .i64 (h[j]'(by omega)).1, .string (h[j]'(by omega)).2.1, .int .i64 (h[j]'(by omega)).2.2] 49))
            have e7 : (0 : Int) ≤ (j : Int) := by omega
            have e8 : (j : Int) < (h.length : Int) := by omega
            have e9 : (j : Int) < (k : Int) := by omega
            clear hbw hct
            generalize hy : h[j]'(by omega) = y at *
            by_cases h1 : y.2.1 = h[k].2.1
            · by_cases h2 : y.1 = h[k].1
              · have HE := hid (HAT.out (clash2 h1 h2))
                have g1 := eqS_true h1
                have g2 := eqI_true h2
                clear h1 h2
                go_wp2_with fail
                go_ret
                exact ⟨ret_bool HE.out.symm, HB1.out.trans (HB9.out.mono HB1.out.size)⟩
              · have HE := hid (clash3 h1 h2)
                have g1 := eqS_true h1
                have g2 := eqI_false h2
                clear h1 h2
                cases hfit : fitB y.2.2 h[k].2.2
                · rw [hfit] at HE
                  go_wp2_with (go_at_call 85; refine (spec_l5Fit _ _ _).mono ?_; rintro e w' ⟨rfl, rfl⟩)
                  go_ret
                  exact ⟨ret_bool (HAT.out HE.out).symm, HB1.out.trans (HB9.out.mono HB1.out.size)⟩
                · rw [hfit] at HE
                  go_wp2_with (go_at_call 85; refine (spec_l5Fit _ _ _).mono ?_; rintro e w' ⟨rfl, rfl⟩)
                  go_roundw
                  case rel => exact ⟨j + 1, by omega, by go_num, HC.out HE.out, HB8.out⟩
                  case measure => simp [intOf]; omega
            · have HE := hid (clash1 h1)
              have g1 := eqS_false h1
              clear h1
              go_wp2_with fail
              go_roundw
              case rel => exact ⟨j + 1, by omega, by go_num, HC.out HE.out, HB8.out⟩
              case measure => simp [intOf]; omega
          · obtain rfl : j = k := by omega
            have HE := hid (heldAt_iff.2 ⟨hh, hct⟩)
            clear hbw hct
            go_wp2_with fail
            go_roundw
            case rel => exact ⟨j + 1, by omega, by go_num, HS.out HE.out, HB7.out⟩
            case measure => simp [intOf]; omega
    · obtain rfl : k = h.length := by omega
      have HH := hid (heldTo_end hht)
      clear hbw hht
      clear y0 y1
      obtain ⟨wa, rfl⟩ : ∃ wa : World, wa = wr := ⟨_, rfl⟩
      have ya0 := (HY.out _ HD.out).1
      have ya1 := (HY.out _ HD.out).2
      go_wp2_with fail
      clear ya0 ya1
      go_loopw [7] (fun i wr => ∃ k : Nat, k ≤ l.length ∧ i = .int .i64 k ∧ lineTo l k ∧ Below w1.heap.size w1 wr) (fun i _ => l.length - (intOf i).toNat)
      case atStart => exact ⟨0, Nat.zero_le _, rfl, fun i hi hk => absurd hk (by omega), HD.out⟩
      case round =>
        obtain ⟨k, hk, rfl, hht, hbw⟩ := hrel
        have HD3 := hid hbw
        have y0 := (HY.out _ hbw).1
        have y1 := (HY.out _ hbw).2
        by_cases hlt : k < l.length
        · obtain ⟨b, off, rfl, hb, hc1, hc2, hc3⟩ := (HR2.out.below hbw).at_ hlt
          have HS := hid (lineTo_succ hht hlt)
          have HFK := hid (HF2.out.get hlt)
          have HNO := hid (fun hx => line_no hlt hx h)
          have e5 : (0 : Int) ≤ (k : Int) := by omega
          have e6 : (k : Int) < (l.length : Int) := by omega
          clear hbw hht
          go_wp2_with fail
          refine (spec_l5Hold l[k] _ HFK.out).mono ?_
          rintro e w6 ⟨rfl, hb6⟩
          have HB6 := hid (HD3.out.trans (hb6.mono HD3.out.size))
          clear hb6 y0 y1 hc1 hc2 hc3
          cases hh : holdB l[k]
          · go_wp2_with fail
            go_ret
            exact ⟨ret_bool (HNO.out (lineAt_hold hh)).symm, HB1.out.trans (HB6.out.mono HB1.out.size)⟩
          · obtain ⟨wo, rfl⟩ : ∃ wo : World, wo = wr := ⟨_, rfl⟩
            go_wp2_with fail
            go_loopw [8] (fun i wr => ∃ j : Nat, j ≤ k ∧ i = .int .i64 j ∧ noTxn l l[k].1 j ∧ Below w1.heap.size w1 wr) (fun i _ => k - (intOf i).toNat)
            case atStart => exact ⟨0, Nat.zero_le _, rfl, fun i hi hk => absurd hk (by omega), HB6.out⟩
            case round =>
              obtain ⟨j, hj, rfl, hct, hbw⟩ := hrel
              have HB7 := hid hbw
              have y0 := (HY.out _ hbw).1
              have y1 := (HY.out _ hbw).2
              by_cases hjk : j < k
              · obtain ⟨b', off', e', hb', hc1, hc2, hc3⟩ := (HR2.out.below hbw).at_ (k := j) (by omega)
                injection e' with e'
                injection e' with e1 e2
                subst e1 e2
                obtain ⟨b', off', e', hb', hc4, hc5, hc6⟩ := (HR2.out.below hbw).at_ (k := k) hlt
                injection e' with e'
                injection e' with e1 e2
                subst e1 e2
                have HC := hid (noTxn_succ hct (by omega))
                have HAT := hid (fun hx => line_no hlt (txn_at hlt hjk hx) h)
                have e7 : (0 : Int) ≤ (j : Int) := by omega
                have e8 : (j : Int) < (l.length : Int) := by omega
                have e9 : (j : Int) < (k : Int) := by omega
                clear hbw hct
                generalize hy : l[j]'(by omega) = y at *
                by_cases h2 : y.1 = l[k].1
                · have HE := hid (HAT.out h2)
                  have g2 := eqI_true h2
                  clear h2
                  go_wp2_with fail
                  go_quiet (fail)
                  go_wp2_with fail
                  go_ret
                  exact ⟨ret_bool HE.out.symm, HB1.out.trans (((Below.drewN_ HB7.out _)).mono HB1.out.size)⟩
                · have HE := hid h2
                  have g2 := eqI_false h2
                  clear h2
                  go_wp2_with fail
                  go_quiet (fail)
                  go_wp2_with fail
                  go_roundw
                  case rel => exact ⟨j + 1, by omega, by go_num, HC.out HE.out, Below.drewN_ HB7.out _⟩
                  case measure => simp [intOf]; omega
              · obtain rfl : j = k := by omega
                have HE := hid (lineAt_iff.2 ⟨hh, hct⟩)
                clear hbw hct
                go_wp2_with fail
                go_roundw
                case rel => exact ⟨j + 1, by omega, by go_num, HS.out HE.out, HB7.out⟩
                case measure => simp [intOf]; omega
        · obtain rfl : k = l.length := by omega
          have HL := hid (lineTo_end hht)
          clear hbw hht
          by_cases h1 : h.length ≤ 100
          · have HE : Hid (locksB h l = decide ((l.length : Int) ≤ 20)) := by
              rw [Hid, locksB, HH.out, HL.out, decide_eq_true h1, Bool.true_and, Bool.true_and, Bool.true_and]
              exact decide_eq_decide.2 (by omega)
            go_wp2_with fail
            go_ret
            exact ⟨ret_bool HE.out.symm, HB1.out.trans (HD3.out.mono HB1.out.size)⟩
          · have HE : Hid (locksB h l = false) := by simp [Hid, locksB, h1]
            go_wp2_with fail
            go_ret
            exact ⟨ret_bool HE.out.symm, HB1.out.trans (HD3.out.mono HB1.out.size)⟩

/-! ### the program's -/
theorem own_no {hs : HS} {x : HD} (e : (hs.any fun h => ownB h x) = false) : idxV hs (fun h => ownB h x) = -1 := idxV_miss e
theorem own_yes {hs : HS} {x : HD} (e : (hs.any fun h => ownB h x) = true) : ∃ i : Nat, ∃ hi : i < hs.length, idxV hs (fun h => ownB h x) = (i : Int) ∧ ownB hs[i] x = true := by
  rcases idxV_spec hs (fun h => ownB h x) with ⟨_, h⟩ | ⟨i, hi, h1, h⟩
  · rw [h] at e; cases e
  · exact ⟨i, hi, h1, h⟩

set_option maxHeartbeats 8000000 in
theorem impl_LocksOk (A : Option Addr) (c : Nat) (h : HS) (K : Option Addr) (d : Nat) (l : HS) (w : World) (hr : RH w w.heap.size A h) (hf : FitsH h) (hn : h.length ≤ c) (hm : c ≤ maxLen) (hr' : RH w w.heap.size K l) (hf' : FitsH l) (hn' : l.length ≤ d) (hm' : d ≤ maxLen) :
    Calls Try.prog 33 #[.agg #[.slice A h.length c, .slice K l.length d]] w fun e w' => e = .returned (.bool (locksB h l)) ∧ Below w.heap.size w w' := by
  unfold maxLen at hm hm'
  have hb1 : Below w.heap.size w (w.alloc (.cells #[.slice A h.length c, .slice K l.length d] 39)) := (Below.refl _ _).alloc (Nat.le_refl _) _
  have HB1 := hid hb1
  have HR := hid ((hr.below hb1).more hb1.size)
  have HR2 := hid ((hr'.below hb1).more hb1.size)
  have HF := hid hf
  have HF2 := hid hf'
  have hlt1 : w.heap.size < (w.alloc (.cells #[.slice A h.length c, .slice K l.length d] 39)).heap.size := by simp
  have HY : Hid (∀ W : World, Below (w.alloc (.cells #[.slice A h.length c, .slice K l.length d] 39)).heap.size (w.alloc (.cells #[.slice A h.length c, .slice K l.length d] 39)) W → LkCells w A h.length c K l.length d W) := fun W hW => (lkCells_new w A h.length c K l.length d).below hlt1 hW
  clear hr hr' hf hf' hb1
  by_cases h100 : h.length ≤ 100
  case neg =>
    have HE : Hid (locksB h l = false) := by simp [Hid, locksB, h100]
    go_enter Try.func33, Try.ntmps33
    go_wp2_with fail
    go_ret
    exact ⟨ret_bool HE.out.symm, HB1.out⟩
  by_cases h20 : l.length ≤ 20
  case neg =>
    have HE : Hid (locksB h l = false) := by simp [Hid, locksB, h20]
    go_enter Try.func33, Try.ntmps33
    go_wp2_with fail
    go_ret
    exact ⟨ret_bool HE.out.symm, HB1.out⟩
  go_enter Try.func33, Try.ntmps33
  go_wp2_with fail
  generalize hw1 : w.alloc (.cells #[.slice A h.length c, .slice K l.length d] 39) = w1 at *
  go_loopw [20] (fun i wr => ∃ k : Nat, k ≤ h.length ∧ i = .int .i64 k ∧ heldPTo h k ∧ Below w1.heap.size w1 wr) (fun i _ => h.length - (intOf i).toNat)
  case atStart => exact ⟨0, Nat.zero_le _, rfl, fun i hi hk => absurd hk (by omega), Below.refl _ _⟩
  case round =>
    obtain ⟨k, hk, rfl, hht, hbw⟩ := hrel
    have HD := hid hbw
    have y0 := (HY.out _ hbw).1
    have y1 := (HY.out _ hbw).2
    by_cases hlt : k < h.length
    · obtain ⟨b, off, rfl, hb, hc1, hc2, hc3⟩ := (HR.out.below hbw).at_ hlt
      have HS := hid (heldPTo_succ hht hlt)
      have HFK := hid (HF.out.get hlt)
      have HNO := hid (fun hx => heldP_no hlt hx l)
      have hx5 := Row3.lit wr 49 (.int .i64 h[k].1) (.string h[k].2.1) (.int .i64 h[k].2.2)
      have hb5 := hbw.alloc hbw.size (.cells #[.int .i64 h[k].1, .string h[k].2.1, .int .i64 h[k].2.2] 49)
      have X5 := hid hx5
      have HB5 := hid hb5
      have e5 : (0 : Int) ≤ (k : Int) := by omega
      have e6 : (k : Int) < (h.length : Int) := by omega
      have e7 : (k : Int) ≤ (c : Int) := by omega
      have e8 : k ≤ c := by omega
      have e9 : (h.length : Int) ≤ (c : Int) := by omega
      have htl : (h.take k).length = k := by simp; omega
      have HOW : Hid (∀ W : World, Below w1.heap.size w1 W → Calls Try.prog 89 #[.slice (some ⟨b, off, none⟩) k c, .agg #[.int .i64 h[k].1, .string h[k].2.1, .int .i64 h[k].2.2]] W fun e w' => e = .returned (.int .i64 (idxV (h.take k) (fun y => ownB y h[k]))) ∧ Below W.heap.size W w') := by
        intro W hW
        have := impl_placeOfOwn (some ⟨b, off, none⟩) c (h.take k) h[k] W (((HR.out.below hW).more hW.size).take) (HF.out.take k) (by unfold maxLen; omega)
        rwa [htl] at this
      have HKEEP : Hid (∀ W : World, Below w1.heap.size w1 W → Calls Try.prog 90 #[.slice (some ⟨b, off, none⟩) h.length c, .agg #[.int .i64 h[k].1, .string h[k].2.1, .int .i64 h[k].2.2]] W fun e w' => e = .returned (.bool (h.any fun y => keepsB y h[k])) ∧ Below W.heap.size W w') :=
        fun W hW => impl_anyKeepsOut (some ⟨b, off, none⟩) c h h[k] W ((HR.out.below hW).more hW.size) HF.out (by unfold maxLen; omega)
      clear hbw hht hx5 hb5 htl
      go_wp2_with fail
      generalize hg5 : wr.alloc (.cells #[.int .i64 h[k].1, .string h[k].2.1, .int .i64 h[k].2.2] 49) = w5 at *
      clear y0 y1 hc1 hc2 hc3
      have cH : ∀ dq os, Calls Try.prog 88 #[.agg #[.int .i64 h[k].1, .string h[k].2.1, .int .i64 h[k].2.2]] (Go.Sort.grow (redrawn w5 dq) os) fun e w'' => e = .returned (.bool (holdB h[k])) ∧ ∃ p : Regrown, w'' = Go.Sort.grow (redrawn w5 p.d) p.os := fun dq os => Calls.regrown_of (impl_holdOk h[k] _ HFK.out)
      have cO : ∀ dq os, Calls Try.prog 89 #[.slice (some ⟨b, off, none⟩) k c, .agg #[.int .i64 h[k].1, .string h[k].2.1, .int .i64 h[k].2.2]] (Go.Sort.grow (redrawn w5 dq) os) fun e w'' => e = .returned (.int .i64 (idxV (h.take k) (fun y => ownB y h[k]))) ∧ ∃ p : Regrown, w'' = Go.Sort.grow (redrawn w5 p.d) p.os := fun dq os => Calls.regrown_of (HOW.out _ (HB5.out.trans ((below_regrown w5 dq os).mono HB5.out.size)))
      have cK : ∀ dq os, Calls Try.prog 90 #[.slice (some ⟨b, off, none⟩) h.length c, .agg #[.int .i64 h[k].1, .string h[k].2.1, .int .i64 h[k].2.2]] (Go.Sort.grow (redrawn w5 dq) os) fun e w'' => e = .returned (.bool (h.any fun y => keepsB y h[k])) ∧ ∃ p : Regrown, w'' = Go.Sort.grow (redrawn w5 p.d) p.os := fun dq os => Calls.regrown_of (HKEEP.out _ (HB5.out.trans ((below_regrown w5 dq os).mono HB5.out.size)))
      have x0 := cell_regrown X5.out.c0
      have x1 := cell_regrown X5.out.c1
      have x2 := cell_regrown X5.out.c2
      have y0 := cell_regrown (HY.out _ HB5.out).1
      have y1 := cell_regrown (HY.out _ HB5.out).2
      cases hh : holdB h[k]
      case false =>
        rw [hh] at cH
        refine wp_region_quiet_below (by kernel_rfl) (by kernel_rfl) ?_
        repeat (go_big_quiet_step (first | exact cH _ _ | exact cO _ _ | exact cK _ _))
        refine wpQuiet_nil ?_
        intro _ hw'
        obtain ⟨⟨dq, osq⟩, hw''⟩ := hw'
        subst hw''
        go_wp2_with fail
        go_ret
        exact ⟨ret_bool (HNO.out (.inl hh)).symm, HB1.out.trans ((HB5.out.trans ((below_regrown w5 dq osq).mono HB5.out.size)).mono HB1.out.size)⟩
      case true =>
        rw [hh] at cH
        cases ho : (h.take k).any fun y => ownB y h[k]
        case true =>
          obtain ⟨ri, _, hri, _⟩ := own_yes ho
          rw [hri] at cO
          have er : (0 : Int) ≤ (ri : Int) := by omega
          refine wp_region_quiet_below (by kernel_rfl) (by kernel_rfl) ?_
          repeat (go_big_quiet_step (first | exact cH _ _ | exact cO _ _ | exact cK _ _))
          refine wpQuiet_nil ?_
          intro _ hw'
          obtain ⟨⟨dq, osq⟩, hw''⟩ := hw'
          subst hw''
          go_wp2_with fail
          go_ret
          exact ⟨ret_bool (HNO.out (.inr (.inl ho))).symm, HB1.out.trans ((HB5.out.trans ((below_regrown w5 dq osq).mono HB5.out.size)).mono HB1.out.size)⟩
        case false =>
          rw [own_no ho] at cO
          cases hq : h.any fun y => keepsB y h[k]
          case true =>
            rw [hq] at cK
            refine wp_region_quiet_below (by kernel_rfl) (by kernel_rfl) ?_
            repeat (go_big_quiet_step (first | exact cH _ _ | exact cO _ _ | exact cK _ _))
            refine wpQuiet_nil ?_
            intro _ hw'
            obtain ⟨⟨dq, osq⟩, hw''⟩ := hw'
            subst hw''
            go_wp2_with fail
            go_ret
            exact ⟨ret_bool (HNO.out (.inr (.inr hq))).symm, HB1.out.trans ((HB5.out.trans ((below_regrown w5 dq osq).mono HB5.out.size)).mono HB1.out.size)⟩
          case false =>
            rw [hq] at cK
            refine wp_region_quiet_below (by kernel_rfl) (by kernel_rfl) ?_
            repeat (go_big_quiet_step (first | exact cH _ _ | exact cO _ _ | exact cK _ _))
            refine wpQuiet_nil ?_
            intro _ hw'
            obtain ⟨⟨dq, osq⟩, hw''⟩ := hw'
            subst hw''
            go_wp2_with fail
            go_roundw
            case rel => exact ⟨k + 1, by omega, by go_num, HS.out hh ho hq, HB5.out.trans ((below_regrown w5 dq osq).mono HB5.out.size)⟩
            case measure => simp [intOf]; omega
    · obtain rfl : k = h.length := by omega
      have HH := hid (heldPTo_end hht)
      clear hbw hht y0 y1
      obtain ⟨wa, rfl⟩ : ∃ wa : World, wa = wr := ⟨_, rfl⟩
      have ya0 := (HY.out _ HD.out).1
      have ya1 := (HY.out _ HD.out).2
      go_wp2_with fail
      clear ya0 ya1
      go_loopw [47] (fun i wr => ∃ k : Nat, k ≤ l.length ∧ i = .int .i64 k ∧ lineTo l k ∧ Below w1.heap.size w1 wr) (fun i _ => l.length - (intOf i).toNat)
      case atStart => exact ⟨0, Nat.zero_le _, rfl, fun i hi hk => absurd hk (by omega), HD.out⟩
      case round =>
        obtain ⟨k, hk, rfl, hht, hbw⟩ := hrel
        have HD3 := hid hbw
        have y0 := (HY.out _ hbw).1
        have y1 := (HY.out _ hbw).2
        by_cases hlt : k < l.length
        · obtain ⟨b, off, rfl, hb, hc1, hc2, hc3⟩ := (HR2.out.below hbw).at_ hlt
          have HS := hid (lineTo_succ hht hlt)
          have HFK := hid (HF2.out.get hlt)
          have HNO := hid (fun hx => line_no hlt hx h)
          have hx5 := Row3.lit wr 49 (.int .i64 l[k].1) (.string l[k].2.1) (.int .i64 l[k].2.2)
          have hb5 := hbw.alloc hbw.size (.cells #[.int .i64 l[k].1, .string l[k].2.1, .int .i64 l[k].2.2] 49)
          have X5 := hid hx5
          have HB5 := hid hb5
          have e5 : (0 : Int) ≤ (k : Int) := by omega
          have e6 : (k : Int) < (l.length : Int) := by omega
          have e7 : (k : Int) ≤ (d : Int) := by omega
          have e8 : k ≤ d := by omega
          have e9 : (l.length : Int) ≤ (d : Int) := by omega
          have htl : (l.take k).length = k := by simp; omega
          have HTX : Hid (∀ W : World, Below w1.heap.size w1 W → Calls Try.prog 91 #[.slice (some ⟨b, off, none⟩) k d, .int .i64 l[k].1] W fun e w' => e = .returned (.bool ((l.take k).any fun y => decide (y.1 = l[k].1))) ∧ Below W.heap.size W w') := by
            intro W hW
            have := impl_hasTxn (some ⟨b, off, none⟩) d (l.take k) l[k].1 W (((HR2.out.below hW).more hW.size).take) (HF2.out.take k) (by unfold maxLen; omega)
            rwa [htl] at this
          clear hbw hht hx5 hb5 htl
          go_wp2_with fail
          generalize hg5 : wr.alloc (.cells #[.int .i64 l[k].1, .string l[k].2.1, .int .i64 l[k].2.2] 49) = w5 at *
          clear y0 y1 hc1 hc2 hc3
          have cH : ∀ dq os, Calls Try.prog 88 #[.agg #[.int .i64 l[k].1, .string l[k].2.1, .int .i64 l[k].2.2]] (Go.Sort.grow (redrawn w5 dq) os) fun e w'' => e = .returned (.bool (holdB l[k])) ∧ ∃ p : Regrown, w'' = Go.Sort.grow (redrawn w5 p.d) p.os := fun dq os => Calls.regrown_of (impl_holdOk l[k] _ HFK.out)
          have cT : ∀ dq os, Calls Try.prog 91 #[.slice (some ⟨b, off, none⟩) k d, .int .i64 l[k].1] (Go.Sort.grow (redrawn w5 dq) os) fun e w'' => e = .returned (.bool ((l.take k).any fun y => decide (y.1 = l[k].1))) ∧ ∃ p : Regrown, w'' = Go.Sort.grow (redrawn w5 p.d) p.os := fun dq os => Calls.regrown_of (HTX.out _ (HB5.out.trans ((below_regrown w5 dq os).mono HB5.out.size)))
          have x0 := cell_regrown X5.out.c0
          have x1 := cell_regrown X5.out.c1
          have x2 := cell_regrown X5.out.c2
          have y0 := cell_regrown (HY.out _ HB5.out).1
          have y1 := cell_regrown (HY.out _ HB5.out).2
          cases hh : holdB l[k]
          case false =>
            rw [hh] at cH
            refine wp_region_quiet_below (by kernel_rfl) (by kernel_rfl) ?_
            repeat (go_big_quiet_step (first | exact cH _ _ | exact cT _ _))
            refine wpQuiet_nil ?_
            intro _ hw'
            obtain ⟨⟨dq, osq⟩, hw''⟩ := hw'
            subst hw''
            go_wp2_with fail
            go_ret
            exact ⟨ret_bool (HNO.out (lineAt_hold hh)).symm, HB1.out.trans ((HB5.out.trans ((below_regrown w5 dq osq).mono HB5.out.size)).mono HB1.out.size)⟩
          case true =>
            rw [hh] at cH
            cases ho : (l.take k).any fun y => decide (y.1 = l[k].1)
            case true =>
              rw [ho] at cT
              have HLA : Hid (lineAt l k l[k] = false) := by simp only [Hid, lineAt, hh, ho]; rfl
              refine wp_region_quiet_below (by kernel_rfl) (by kernel_rfl) ?_
              repeat (go_big_quiet_step (first | exact cH _ _ | exact cT _ _))
              refine wpQuiet_nil ?_
              intro _ hw'
              obtain ⟨⟨dq, osq⟩, hw''⟩ := hw'
              subst hw''
              go_wp2_with fail
              go_ret
              exact ⟨ret_bool (HNO.out HLA.out).symm, HB1.out.trans ((HB5.out.trans ((below_regrown w5 dq osq).mono HB5.out.size)).mono HB1.out.size)⟩
            case false =>
              rw [ho] at cT
              have HLA : Hid (lineAt l k l[k] = true) := by simp only [Hid, lineAt, hh, ho]; rfl
              refine wp_region_quiet_below (by kernel_rfl) (by kernel_rfl) ?_
              repeat (go_big_quiet_step (first | exact cH _ _ | exact cT _ _))
              refine wpQuiet_nil ?_
              intro _ hw'
              obtain ⟨⟨dq, osq⟩, hw''⟩ := hw'
              subst hw''
              go_wp2_with fail
              go_roundw
              case rel => exact ⟨k + 1, by omega, by go_num, HS.out HLA.out, HB5.out.trans ((below_regrown w5 dq osq).mono HB5.out.size)⟩
              case measure => simp [intOf]; omega
        · obtain rfl : k = l.length := by omega
          have HL := hid (lineTo_end hht)
          clear hbw hht
          have HE : Hid (locksB h l = true) := locksB_iff.2 ⟨HH.out, HL.out, h100, h20⟩
          go_wp2_with fail
          go_ret
          exact ⟨ret_bool HE.out.symm, HB1.out.trans (HD3.out.mono HB1.out.size)⟩
end Go.Proofs.Ytjdmaoegfpgfjaa
