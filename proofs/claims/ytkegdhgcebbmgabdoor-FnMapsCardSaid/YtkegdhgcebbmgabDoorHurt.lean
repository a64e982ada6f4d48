/-
  A drawn text that is hurt; DrawMapText, DrawKeyOk, DrawReadMap: what they give.
-/
import Derived.Test.YtkegdhgcebbmgabDoorBent
import Derived.Test.YtkegdhgcebbmgabDoorDrawsB
import Derived.Test.YtkegdhgcebbmgabDoorMapText
namespace Go.Proofs.YtkegdhgcebbmgabDoor
open Go.RowKit

/-- A text that is not long, of a reader's. -/
def LongT (B g : Nat) (w : World) (e : Ending) (w' : World) : Prop := ∃ s : ByteArray, s.size ≤ 5000 ∧ e = .returned (.string s) ∧ Rd w' B g ∧ w.grownBy w' (some g)

theorem hurt_tbl3 : ∀ v, v < 3 → ∃ s : ByteArray, s.size ≤ 7 ∧ ∀ (W : World) (T : TypeId), (W.alloc (.cells #[.string ⟨#[97]⟩, .string ⟨#[10]⟩, .string ⟨#[32]⟩] T)).cell? ⟨W.heap.size, v, none⟩ = some (.string s) := by
  intro v hv
  match v, hv with
  | 0, _ => exact ⟨⟨#[97]⟩, by decide, fun W T => by rw [cell_of_row _ _ _ _ _ _ (heap_alloc_new W _)]; rfl⟩
  | 1, _ => exact ⟨⟨#[10]⟩, by decide, fun W T => by rw [cell_of_row _ _ _ _ _ _ (heap_alloc_new W _)]; rfl⟩
  | 2, _ => exact ⟨⟨#[32]⟩, by decide, fun W T => by rw [cell_of_row _ _ _ _ _ _ (heap_alloc_new W _)]; rfl⟩
  | n + 3, h => exact absurd h (by omega)
theorem hurt_tbl6 : ∀ v, v < 6 → ∃ s : ByteArray, s.size ≤ 7 ∧ ∀ (W : World) (T : TypeId), (W.alloc (.cells #[.string ⟨#[97]⟩, .string ⟨#[61]⟩, .string ⟨#[32]⟩, .string ⟨#[49]⟩, .string ⟨#[10]⟩, .string ⟨#[48]⟩] T)).cell? ⟨W.heap.size, v, none⟩ = some (.string s) := by
  intro v hv
  match v, hv with
  | 0, _ => exact ⟨⟨#[97]⟩, by decide, fun W T => by rw [cell_of_row _ _ _ _ _ _ (heap_alloc_new W _)]; rfl⟩
  | 1, _ => exact ⟨⟨#[61]⟩, by decide, fun W T => by rw [cell_of_row _ _ _ _ _ _ (heap_alloc_new W _)]; rfl⟩
  | 2, _ => exact ⟨⟨#[32]⟩, by decide, fun W T => by rw [cell_of_row _ _ _ _ _ _ (heap_alloc_new W _)]; rfl⟩
  | 3, _ => exact ⟨⟨#[49]⟩, by decide, fun W T => by rw [cell_of_row _ _ _ _ _ _ (heap_alloc_new W _)]; rfl⟩
  | 4, _ => exact ⟨⟨#[10]⟩, by decide, fun W T => by rw [cell_of_row _ _ _ _ _ _ (heap_alloc_new W _)]; rfl⟩
  | 5, _ => exact ⟨⟨#[48]⟩, by decide, fun W T => by rw [cell_of_row _ _ _ _ _ _ (heap_alloc_new W _)]; rfl⟩
  | n + 6, h => exact absurd h (by omega)

set_option maxHeartbeats 3000000 in
set_option maxRecDepth 100000 in
theorem hurt_any (B g : Nat) (s : ByteArray) (w : World) (h : Rd w B g) (hs : s.size ≤ 2000) :
    Calls Tryd.prog 44 #[.pointer (some ⟨g, 0, none⟩), .string s] w (LongT B g w) := by
  have HR := hid h
  clear h
  go_enter Tryd.func44, Tryd.ntmps44
  go_wp2_with fail
  refine (below_any B g 6 _ HR.out (by omega) (by omega)).mono ?_
  rintro e w1 ⟨v, hv, rfl, hr1, hg1⟩
  have HR1 := hid hr1
  have HG1 := hid hg1
  clear hr1 hg1
  by_cases h1 : v = 1
  · have g1 : ((v : Int) == 1) = true := by simp [h1]
    have hb : Calls Tryd.prog 37 #[.pointer (some ⟨g, 0, none⟩), .int .i64 ((s.size : Int) + 1)] w1 (Num B g (s.size + 1) w1) := below_any B g (s.size + 1) w1 HR1.out (by omega) (by omega)
    have HB := hid hb
    clear hb h1
    go_wp2_with fail
    refine HB.out.mono ?_
    rintro e w2 ⟨v2, hv2, rfl, hr2, hg2⟩
    have HR2 := hid hr2
    have HG2 := hid hg2
    clear hr2 hg2
    have e1 : (0 : Int) ≤ (v2 : Int) := by omega
    have e2 : (v2 : Int) ≤ (s.size : Int) := by omega
    go_wp2_with fail
    go_ret
    exact ⟨_, by simp only [ByteArray.size_extract]; omega, rfl, HR2.out, grown_trans' HG1.out HG2.out⟩
  · have g1 : ((v : Int) == 1) = false := by rw [beq_eq_false_iff_ne]; omega
    by_cases h2 : v = 2
    · have g2 : ((v : Int) == 2) = true := by simp [h2]
      clear h1 h2
      by_cases h0 : 0 < s.size
      · have g3 : decide ((0 : Int) < (s.size : Int)) = true := by rw [decide_eq_true_eq]; omega
        go_wp2_with fail
        refine (below_any B g s.size w1 HR1.out (by omega) (by omega)).mono ?_
        rintro e w2 ⟨v2, hv2, rfl, hr2, hg2⟩
        have HR2 := hid hr2
        have HG2 := hid (grown_trans' HG1.out hg2)
        clear hr2 hg2
        have HT : Hid (∀ (W W' : World) (g v : Nat) (T : TypeId), (W.alloc (.cells #[.string ⟨#[97]⟩, .string ⟨#[61]⟩, .string ⟨#[32]⟩, .string ⟨#[49]⟩, .string ⟨#[10]⟩, .string ⟨#[48]⟩] T)).grownBy W' (some g) → g < W.heap.size → v < 6 → ∃ s : ByteArray, s.size ≤ 7 ∧ W'.cell? ⟨W.heap.size, v, none⟩ = some (.string s)) :=
          fun W W' g v T h1 h2 h3 => tbl_cell h1 h2 (by simpa using h3) (by rfl)
        have HT2 := hid hurt_tbl6
        have e1 : (0 : Int) ≤ (v2 : Int) := by omega
        have e2 : (v2 : Int) ≤ (s.size : Int) := by omega
        have e3 : (0 : Int) ≤ (v2 : Int) + 1 := by omega
        have e4 : (v2 : Int) + 1 ≤ (s.size : Int) := by omega
        have w1' : wrap64 ((v2 : Int) + 1) = (v2 : Int) + 1 := by unfold wrap64; omega
        have w2' : IntKind.i64.wrap ((v2 : Int) + 1) = (v2 : Int) + 1 := IntWalk.i64_in _ (by omega)
        have e5 : v2 + 1 ≤ s.size := by omega
        have e6 : ((v2 : Int) + 1).toNat = v2 + 1 := by omega
        have e7 : ¬ ((s.size : Int) < (v2 : Int) + 1) := by omega
        have e8 : ¬ ((v2 : Int) + 1 < 0) := by omega
        have z1 : (s.extract 0 v2).size ≤ 2000 := by simp only [ByteArray.size_extract]; omega
        have z2 : (s.extract (v2 + 1) s.size).size ≤ 2000 := by simp only [ByteArray.size_extract]; omega
        go_wp2_with fail
        go_region_with (first
          | (go_at_call 37; refine (below_any B g 6 _ (HR2.out.below (Below.refl _ _).drew) (by omega) (by omega)).mono ?_; rintro e w4 ⟨v4, hv4, rfl, hr4, hg4⟩; have f1 : (0 : Int) ≤ (v4 : Int) := (by omega); have f2 : (v4 : Int) < 6 := (by omega); have HG4 := hid (grown_trans' HG2.out (grown_trans' (grown_of_below (Below.refl w2.heap.size w2).drew) hg4)); have HR4 := hid hr4; clear hr4 hg4; obtain ⟨t, hts, hcell2⟩ := HT2.out v4 hv4; have hcell3 := hcell2 w4)
          | (go_at_call 37; refine (below_any B g 6 _ ((HR2.out.below (Below.refl _ _).drew).below ((Below.refl _ _).alloc (Nat.le_refl _) _)) (by omega) (by omega)).mono ?_; rintro e w4 ⟨v4, hv4, rfl, hr4, hg4⟩; have f1 : (0 : Int) ≤ (v4 : Int) := (by omega); have f2 : (v4 : Int) < 6 := (by omega); have HG4 := hid (grown_trans' HG2.out (grown_trans' (grown_of_below ((Below.refl w2.heap.size w2).drew.alloc (Nat.le_refl _) _)) hg4)); have HR4 := hid hr4; obtain ⟨t, hts, hcell⟩ := HT.out _ w4 g v4 _ hg4 (HR2.out.below (Below.refl _ _).drew).lt.1 hv4; have hcell2 : w4.cell? ⟨w2.heap.size, v4, none⟩ = some (.string t) := hcell; clear hr4 hg4))
        all_goals
          go_wp2_with fail
          go_ret
          first
            | exact ⟨_, by simp only [ByteArray.size_append]; omega, rfl, HR4.out, HG4.out⟩
            | exact ⟨_, by simp only [ByteArray.size_append]; omega, rfl, HR4.out.below ((Below.refl _ _).alloc (Nat.le_refl _) _), grown_trans' HG4.out (grown_of_below ((Below.refl _ _).alloc (Nat.le_refl _) _))⟩
      · have g3 : decide ((0 : Int) < (s.size : Int)) = false := by rw [decide_eq_false_iff_not]; omega
        go_wp2_with fail
        go_ret
        exact ⟨_, by omega, rfl, HR1.out, HG1.out⟩
    · have g2 : ((v : Int) == 2) = false := by rw [beq_eq_false_iff_ne]; omega
      by_cases h3 : v = 3
      · have g3 : ((v : Int) == 3) = true := by simp [h3]
        clear h1 h2 h3
        go_wp2_with fail
        refine (below_any B g 3 _ (HR1.out.below ((Below.refl _ _).alloc (Nat.le_refl _) _)) (by omega) (by omega)).mono ?_
        rintro e w2 ⟨v2, hv2, rfl, hr2, hg2⟩
        obtain ⟨t, hts, hcell⟩ := tbl_cell hg2 HR1.out.lt.1 (by simpa using hv2) (by rfl)
        have HR2 := hid hr2
        have HG2 := hid (grown_trans' (grown_of_below ((Below.refl w1.heap.size w1).alloc (Nat.le_refl _) _)) hg2)
        clear hr2 hg2
        have e1 : (0 : Int) ≤ (v2 : Int) := by omega
        have e2 : (v2 : Int) < 3 := by omega
        go_wp2_with fail
        go_ret
        exact ⟨_, by simp only [ByteArray.size_append]; omega, rfl, HR2.out, grown_trans' HG1.out HG2.out⟩
      · have g3 : ((v : Int) == 3) = false := by rw [beq_eq_false_iff_ne]; omega
        clear h1 h2 h3
        go_wp2_with fail
        go_ret
        exact ⟨_, by omega, rfl, HR1.out, HG1.out⟩
end Go.Proofs.YtkegdhgcebbmgabDoor
