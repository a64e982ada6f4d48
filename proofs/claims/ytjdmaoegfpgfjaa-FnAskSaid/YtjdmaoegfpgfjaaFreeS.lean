/-
  The model's Free: what it asks.
-/
import Derived.Test.YtjdmaoegfpgfjaaLockOwn
import Derived.Test.YtjdmaoegfpgfjaaLocksOk
namespace Go.Proofs.Ytjdmaoegfpgfjaa
open Go.RowKit

/-- What one has of a key. -/
def mineV (hs : HS) (x : HD) : Int := match hs.find? (fun h => ownB h x) with
  | some h => h.2.2
  | none => 0
theorem mineV_none {hs : HS} {x : HD} (h : (hs.any fun h => ownB h x) = false) : mineV hs x = 0 := by
  have : hs.find? (fun h => ownB h x) = none := List.find?_eq_none.2 fun y hy => by
    have := List.any_eq_false.1 h y hy
    simpa using this
  rw [mineV, this]
theorem mineV_some {hs : HS} {x : HD} (hh : HoldsB hs) (h : (hs.any fun h => ownB h x) = true) : 0 < mineV hs x := by
  cases hf : hs.find? (fun h => ownB h x) with
  | none =>
    have h2 := List.find?_eq_none.1 hf
    obtain ⟨y, hy, e⟩ := List.any_eq_true.1 h
    exact absurd e (h2 y hy)
  | some y =>
    have := holdB_mode (hh y (List.mem_of_find?_eq_some hf))
    rw [modeB_iff] at this
    rw [mineV, hf]
    show 0 < y.2.2
    omega
theorem mineV_hit {hs : HS} {x : HD} {k : Nat} (h : noneH hs (fun h => ownB h x) k) (hk : k < hs.length) (he : ownB hs[k] x = true) : mineV hs x = hs[k].2.2 := by
  have : hs.find? (fun h => ownB h x) = some hs[k] := List.find?_eq_some_iff_getElem.2 ⟨he, k, hk, rfl, fun j hj => by
    have := h j (by omega) hj
    simp only at this
    rw [this]
    rfl⟩
  rw [mineV, this]

set_option maxHeartbeats 4000000 in
theorem spec_l5Mine (A : Option Addr) (c : Nat) (h : HS) (K : Option Addr) (m d : Nat) (x : HD) (w : World) (hr : RH w w.heap.size A h) (hn : h.length ≤ maxLen) :
    Calls Try.prog 156 #[.agg #[.slice A h.length c, .slice K m d], .int .i64 x.1, .string x.2.1] w fun e w' => e = .returned (.int .i64 (mineV h x)) ∧ Below w.heap.size w w' := by
  unfold maxLen at hn
  have hb1 : Below w.heap.size w (w.alloc (.cells #[.slice A h.length c, .slice K m d] 39)) := (Below.refl _ _).alloc (Nat.le_refl _) _
  have hx := Row2.lit w 39 (.slice A h.length c) (.slice K m d)
  have HB1 := hid hb1
  have HR := hid ((hr.below hb1).more hb1.size)
  have y0 := hx.c0
  have Y0 := hid y0
  clear hr hb1 hx y0
  go_enter Try.func156, Try.ntmps156
  go_wp2_with fail
  generalize hw1 : w.alloc (.cells #[.slice A h.length c, .slice K m d] 39) = w1 at *
  have y0 := Y0.out
  go_loop [7] (fun i => ∃ k : Nat, k ≤ h.length ∧ i = .int .i64 k ∧ noneH h (fun h => ownB h x) k) (fun i => h.length - (intOf i).toNat)
  case atStart => exact ⟨0, Nat.zero_le _, rfl, fun i hi hk => absurd hk (by omega)⟩
  case round =>
    obtain ⟨k, hk, rfl, hnt⟩ := hrel
    by_cases hlt : k < h.length
    · obtain ⟨b, off, rfl, hb, hc1, hc2, hc3⟩ := HR.out.at_ hlt
      have HS := hid (noneH_succ hnt hlt)
      have HI := hid (mineV_hit hnt hlt)
      have e5 : (0 : Int) ≤ (k : Int) := by omega
      have e6 : (k : Int) < (h.length : Int) := by omega
      clear hnt
      by_cases h1 : h[k].1 = x.1
      · by_cases h2 : h[k].2.1 = x.2.1
        · have HE := hid (HI.out (ownB_iff.2 ⟨h1, h2⟩))
          have g1 := eqI_true h1
          have g2 := eqS_true h2
          clear h1 h2
          go_wp2_with fail
          go_ret
          exact ⟨ret_int HE.out.symm, HB1.out⟩
        · have HE := hid (HS.out (own_iff2 h2))
          have g1 := eqI_true h1
          have g2 := eqS_false h2
          clear h1 h2
          go_wp2_with fail
          go_round
          case rel => exact ⟨k + 1, by omega, by go_num, HE.out⟩
          case measure => simp [intOf]; omega
      · have HE := hid (HS.out (own_iff1 h1))
        have g1 := eqI_false h1
        clear h1
        go_wp2_with fail
        go_round
        case rel => exact ⟨k + 1, by omega, by go_num, HE.out⟩
        case measure => simp [intOf]; omega
    · obtain rfl : k = h.length := by omega
      have HE := hid (mineV_none (noneH_end hnt))
      clear hnt
      go_wp2_with fail
      go_ret
      exact ⟨ret_int HE.out.symm, HB1.out⟩

theorem drawn_b {w wr : World} (h : Drawn w wr) {B : Nat} : Below B w wr := h.below B
theorem keeps_fit {h x : HD} (hm : modeB h.2.2 = true) (hx : modeB x.2.2 = true) (e : h.2.1 = x.2.1) (e2 : h.1 ≠ x.1) : keepsB h x = !fitB h.2.2 x.2.2 := by
  rw [keeps3 e e2, fitF, hm, hx]
  rfl
set_option maxHeartbeats 4000000 in
theorem spec_l5Free (A : Option Addr) (c : Nat) (h : HS) (K : Option Addr) (m d : Nat) (x : HD) (w : World) (hr : RH w w.heap.size A h) (hn : h.length ≤ maxLen) (hh : HoldsB h) (hx : modeB x.2.2 = true) :
    Calls Try.prog 193 #[.agg #[.slice A h.length c, .slice K m d], .agg #[.int .i64 x.1, .string x.2.1, .int .i64 x.2.2]] w fun e w' => e = .returned (.bool (!(h.any fun h => keepsB h x))) ∧ Below w.heap.size w w' := by
  unfold maxLen at hn
  have hb1 : Below w.heap.size w ((w.alloc (.cells #[.slice A h.length c, .slice K m d] 39)).alloc (.cells #[.int .i64 x.1, .string x.2.1, .int .i64 x.2.2] 49)) := ((Below.refl _ _).alloc (Nat.le_refl _) _).alloc (by simp) _
  have hy := (Row2.lit w 39 (.slice A h.length c) (.slice K m d)).below ((Below.refl _ _).alloc (Nat.le_refl _) (.cells #[.int .i64 x.1, .string x.2.1, .int .i64 x.2.2] 49))
  have hz := Row3.lit (w.alloc (.cells #[.slice A h.length c, .slice K m d] 39)) 49 (.int .i64 x.1) (.string x.2.1) (.int .i64 x.2.2)
  have HB1 := hid hb1
  have HR := hid ((hr.below hb1).more hb1.size)
  have y0 := hy.c0
  have x0 := hz.c0
  have x1 := hz.c1
  have x2 := hz.c2
  simp only [World.size_alloc] at x0 x1 x2
  have Y0 := hid y0
  have X0 := hid x0
  have X1 := hid x1
  have X2 := hid x2
  have HH := hid hh
  clear hr hb1 hy hz y0 x0 x1 x2 hh
  go_enter Try.func193, Try.ntmps193
  go_wp2_with fail
  generalize hw1 : (w.alloc (.cells #[.slice A h.length c, .slice K m d] 39)).alloc (.cells #[.int .i64 x.1, .string x.2.1, .int .i64 x.2.2] 49) = w1 at *
  clear hw1
  go_loopw [5] (fun i wr => ∃ k : Nat, k ≤ h.length ∧ i = .int .i64 k ∧ noneH h (fun h => keepsB h x) k ∧ Drawn w1 wr) (fun i _ => h.length - (intOf i).toNat)
  case atStart => exact ⟨0, Nat.zero_le _, rfl, fun i hi hk => absurd hk (by omega), Drawn.refl _⟩
  case round =>
    obtain ⟨k, hk, rfl, hnt, hdr⟩ := hrel
    have HD := hid hdr
    have y0 : wr.cell? ⟨w.heap.size, 0, none⟩ = some (.slice A h.length c) := by
      obtain ⟨q, rfl⟩ := hdr
      exact Y0.out
    have x0 : wr.cell? ⟨w.heap.size + 1, 0, none⟩ = some (.int .i64 x.1) := by
      obtain ⟨q, rfl⟩ := hdr
      exact X0.out
    have x1 : wr.cell? ⟨w.heap.size + 1, 1, none⟩ = some (.string x.2.1) := by
      obtain ⟨q, rfl⟩ := hdr
      exact X1.out
    have x2 : wr.cell? ⟨w.heap.size + 1, 2, none⟩ = some (.int .i64 x.2.2) := by
      obtain ⟨q, rfl⟩ := hdr
      exact X2.out
    have HRW := hid (HR.out.below (hdr.below _))
    clear hdr
    by_cases hlt : k < h.length
    · obtain ⟨b, off, rfl, hb, hc1, hc2, hc3⟩ := HRW.out.at_ hlt
      have HS := hid (noneH_succ hnt hlt)
      have HM := hid (holdB_mode (HH.out.at_ hlt))
      have e5 : (0 : Int) ≤ (k : Int) := by omega
      have e6 : (k : Int) < (h.length : Int) := by omega
      clear hnt
      by_cases h1 : h[k].2.1 = x.2.1
      · by_cases h2 : h[k].1 = x.1
        · have HE := hid (HS.out (keeps2 h2))
          have g1 := eqS_true h1
          have g2 := neI_false h2
          clear h1 h2
          go_wp2_with fail
          go_quiet (fail)
          go_wp2_with fail
          go_roundw
          case rel => exact ⟨k + 1, by omega, by go_num, HE.out, HD.out.drewN _⟩
          case measure => simp [intOf]; omega
        · have HE := hid (keeps_fit HM.out hx h1 h2)
          have g1 := eqS_true h1
          have g2 := neI_true h2
          clear h1 h2
          cases hf : fitB h[k].2.2 x.2.2
          · have HAN : Hid ((h.any fun h => keepsB h x) = true) := by
              rw [hf] at HE
              exact List.any_eq_true.2 ⟨_, List.getElem_mem hlt, HE.out⟩
            go_wp2_with fail
            go_quiet (first | (go_at_call 85; exact quiet_eq (spec_l5Fit _ _ _)))
            go_wp2_with fail
            go_ret
            exact ⟨ret_bool (by rw [HAN.out]; rfl), HB1.out.trans (Below.drewN_ (drawn_b HD.out) _)⟩
          · rw [hf] at HE
            go_wp2_with fail
            go_quiet (first | (go_at_call 85; exact quiet_eq (spec_l5Fit _ _ _)))
            go_wp2_with fail
            go_roundw
            case rel => exact ⟨k + 1, by omega, by go_num, HS.out HE.out, HD.out.drewN _⟩
            case measure => simp [intOf]; omega
      · have HE := hid (HS.out (keeps1 h1))
        have g1 := eqS_false h1
        clear h1
        go_wp2_with fail
        go_quiet (fail)
        go_wp2_with fail
        go_roundw
        case rel => exact ⟨k + 1, by omega, by go_num, HE.out, HD.out.drewN _⟩
        case measure => simp [intOf]; omega
    · obtain rfl : k = h.length := by omega
      have HE := hid (noneH_end hnt)
      clear hnt
      go_wp2_with fail
      go_ret
      exact ⟨ret_bool (by rw [HE.out]; rfl), HB1.out.trans (drawn_b HD.out)⟩
end Go.Proofs.Ytjdmaoegfpgfjaa
