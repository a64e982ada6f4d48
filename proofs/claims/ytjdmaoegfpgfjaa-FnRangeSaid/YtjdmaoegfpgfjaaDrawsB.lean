/-
  DrawDrop, DrawRange, DrawTreeOf: what they give.
-/
import Derived.Test.YtjdmaoegfpgfjaaDraws
namespace Go.Proofs.Ytjdmaoegfpgfjaa
open Go.RowKit

theorem RP.key {w : World} {B b off : Nat} {ps : PS} (h : RP w B (some ⟨b, off, none⟩) ps) {k : Nat} (hk : k < ps.length) : w.cell? ⟨b, off + k * 2, none⟩ = some (.string ps[k].1) := by
  obtain ⟨b', off', e, _, h1, _⟩ := h.at_ hk
  injection e with e
  injection e with e1 e2 e3
  subst e1 e2
  exact h1
theorem RP.val {w : World} {B b off : Nat} {ps : PS} (h : RP w B (some ⟨b, off, none⟩) ps) {k : Nat} (hk : k < ps.length) : w.cell? ⟨b, off + k * 2 + 1, none⟩ = some (.string ps[k].2) := by
  obtain ⟨b', off', e, _, _, h1⟩ := h.at_ hk
  injection e with e
  injection e with e1 e2 e3
  subst e1 e2
  exact h1
theorem rd_start {w w1 : World} {A : Option Addr} {n c : Nat} (hc : CB w w.heap.size A n) (hn : n ≤ 1048576) (hw1 : w1 = w.alloc (.cells #[.slice A n c, .int .i64 0] 164)) :
    Rd w1 w.heap.size w.heap.size ∧ Below w.heap.size w w1 ∧ CB w1 w1.heap.size A n := by
  subst hw1
  have hb : Below w.heap.size w (w.alloc (.cells #[.slice A n c, .int .i64 0] 164)) := (Below.refl _ _).alloc (Nat.le_refl _) _
  refine ⟨Rd.new c hc hn (Nat.le_refl _), hb, ?_⟩
  have h := hc.grown (grown_of_below (r := none) hb) (Nat.le_refl _) (by simp)
  rcases h with h | ⟨b, off, e, hb', hx⟩
  · exact .inl h
  · exact .inr ⟨b, off, e, Nat.lt_of_lt_of_le hb' hb.size, hx⟩

/-- Pairs and the ends of a range that are drawn. -/
def RangeD (w : World) (e : Ending) (w' : World) : Prop := ∃ A c ps lo hi, e = .returned (.tuple #[.slice A ps.length c, .string lo, .string hi]) ∧ OwnP w' w.heap.size A c ps ∧ SmallP ps ∧ ps.length ≤ 60 ∧ lo.size ≤ 7 ∧ hi.size ≤ 7 ∧ Below w.heap.size w w'

set_option maxHeartbeats 2000000 in
theorem drawRange_any (A : Option Addr) (n c : Nat) (w : World) (hc : CB w w.heap.size A n) (hn : n ≤ 1048576) :
    Calls Try.prog 22 #[.slice A n c] w (RangeD w) := by
  have HC := hid hc
  clear hc
  go_enter Try.func22, Try.ntmps22
  go_wp2_with fail
  refine (open_any A n c _).mono ?_
  rintro e w1 ⟨rfl, hw1⟩
  obtain ⟨hr1, hb1, hc1⟩ := rd_start HC.out hn hw1
  have HR1 := hid hr1
  have HB1 := hid hb1
  have HC1 := hid hc1
  clear hw1 hr1 hb1 hc1
  have hsz1 : w.heap.size < w1.heap.size := HR1.out.lt.1
  go_wp2_with fail
  refine (drawGet_any A n c _ HC1.out hn).mono ?_
  rintro e w2 ⟨A2, c2, ps2, k, rfl, ho2, hs2, hl2, hk2, hb2⟩
  have HO2 := hid ho2
  have HS2 := hid hs2
  have HR2 := hid (HR1.out.below hb2)
  have HB2 := hid (HB1.out.trans (hb2.mono HB1.out.size))
  clear ho2 hs2 hb2
  go_wp2_with fail
  refine (once_any w.heap.size w.heap.size 3 _ HR2.out (by omega) (by omega)).mono ?_
  rintro e w3 ⟨b, rfl, hr3, hg3⟩
  have HR3 := hid hr3
  have HO3 := hid (HO2.out.keep_g hg3 hsz1)
  have HB3 := hid (HB2.out.grown hg3 HB2.out.size (by simp))
  clear hr3 hg3
  cases b
  · have HT : Hid (∀ (W W' : World) (g v : Nat) (T : TypeId), (W.alloc (.cells #[.string ⟨#[]⟩, .string ⟨#[102]⟩, .string ⟨#[122]⟩] T)).grownBy W' (some g) → g < W.heap.size → v < 3 → ∃ s : ByteArray, s.size ≤ 7 ∧ W'.cell? ⟨W.heap.size, v, none⟩ = some (.string s)) :=
      fun W W' g v T h1 h2 h3 => tbl_cell h1 h2 (by simpa using h3) (by rfl)
    have HT2 : Hid (∀ v, v < 3 → ∃ s : ByteArray, s.size ≤ 7 ∧ (#[Value.string ⟨#[]⟩, .string ⟨#[102]⟩, .string ⟨#[122]⟩] : Array Value)[v]? = some (.string s) ∧ ∀ (W : World) (T : TypeId), (W.alloc (.cells #[.string ⟨#[]⟩, .string ⟨#[102]⟩, .string ⟨#[122]⟩] T)).cell? ⟨W.heap.size, v, none⟩ = some (.string s)) := by
      intro v hv
      match v, hv with
      | 0, _ => exact ⟨_, by decide, rfl, fun W T => by rw [cell_of_row _ _ _ _ _ _ (heap_alloc_new W _)]; rfl⟩
      | 1, _ => exact ⟨_, by decide, rfl, fun W T => by rw [cell_of_row _ _ _ _ _ _ (heap_alloc_new W _)]; rfl⟩
      | 2, _ => exact ⟨_, by decide, rfl, fun W T => by rw [cell_of_row _ _ _ _ _ _ (heap_alloc_new W _)]; rfl⟩
      | n + 3, h => exact absurd h (by omega)
    go_wp2_with fail
    go_region_with (first
      | (go_at_call 72; refine (below_any w.heap.size w.heap.size 3 _ (HR3.out.below (Below.refl _ _).drew) (by omega) (by omega)).mono ?_; rintro e w4 ⟨v, hv, rfl, hr4, hg4⟩; have e1 : (0 : Int) ≤ (v : Int) := (by omega); have e2 : (v : Int) < 3 := (by omega); have HO4 := hid ((HO3.out.below (Below.refl _ _).drew).keep_g hg4 hsz1); have HB4 := hid (HB3.out.drew.grown hg4 HB3.out.drew.size (by simp)); have HR4 := hid hr4; clear hr4 hg4; obtain ⟨s, hs, hcell, hcell2⟩ := HT2.out v hv; have hcell3 := hcell2 w4)
      | (go_at_call 72; refine (below_any w.heap.size w.heap.size 3 _ ((HR3.out.below (Below.refl _ _).drew).below ((Below.refl _ _).alloc (Nat.le_refl _) _)) (by omega) (by omega)).mono ?_; rintro e w4 ⟨v, hv, rfl, hr4, hg4⟩; have e1 : (0 : Int) ≤ (v : Int) := (by omega); have e2 : (v : Int) < 3 := (by omega); have HO4 := hid (((HO3.out.below (Below.refl _ _).drew).below ((Below.refl _ _).alloc (Nat.le_refl _) _)).keep_g hg4 hsz1); have HB4 := hid ((HB3.out.drew.alloc HB3.out.drew.size _).grown hg4 (HB3.out.drew.alloc HB3.out.drew.size _).size (by simp)); have HR4 := hid hr4; obtain ⟨s, hs, hcell⟩ := HT.out _ w4 w.heap.size v _ hg4 (HR3.out.below (Below.refl _ _).drew).lt.1 hv; have hcell2 : w4.cell? ⟨w3.heap.size, v, none⟩ = some (.string s) := hcell; clear hr4 hg4))
    all_goals
      go_wp2_with fail
      go_ret3
      first
        | exact ⟨A2, c2, ps2, k, s, rfl, HO4.out.mono (Nat.le_of_lt hsz1), HS2.out, hl2, hk2, hs, HB4.out⟩
        | exact ⟨A2, c2, ps2, k, s, rfl, (HO4.out.below ((Below.refl _ _).alloc (Nat.le_refl _) _)).mono (Nat.le_of_lt hsz1), HS2.out, hl2, hk2, hs, HB4.out.alloc HB4.out.size _⟩
  · go_wp2_with fail
    go_ret3
    exact ⟨A2, c2, ps2, _, k, rfl, HO3.out.mono (Nat.le_of_lt hsz1), HS2.out, hl2, by decide, hk2, HB3.out⟩

/-- Pairs that are drawn. -/
def OfD (w : World) (e : Ending) (w' : World) : Prop := ∃ A c ps, e = .returned (.slice A ps.length c) ∧ OwnP w' w.heap.size A c ps ∧ SmallP ps ∧ ps.length ≤ 60 ∧ Below w.heap.size w w'

set_option maxHeartbeats 2000000 in
theorem drawTreeOf_any (A : Option Addr) (n c : Nat) (w : World) (hc : CB w w.heap.size A n) (hn : n ≤ 1048576) :
    Calls Try.prog 54 #[.slice A n c] w (OfD w) := by
  have HC := hid hc
  clear hc
  go_enter Try.func54, Try.ntmps54
  go_wp2_with fail
  refine (open_any A n c _).mono ?_
  rintro e w1 ⟨rfl, hw1⟩
  obtain ⟨hr1, hb1, _⟩ := rd_start HC.out hn hw1
  have HR1 := hid hr1
  have HB1 := hid hb1
  clear hw1 hr1 hb1
  go_wp2_with fail
  refine (pairs_any w.heap.size w.heap.size 16 _ HR1.out (by omega)).mono ?_
  rintro e w2 ⟨A2, c2, ps2, rfl, ho2, hm2, hr2, hg2⟩
  have HO2 := hid ho2
  have HM2 := hid hm2
  have HR2 := hid hr2
  have HK2 := hid (KB.of_grown hg2 (Nat.le_refl _))
  have hsz1 : w.heap.size < w1.heap.size := HR1.out.lt.1
  clear ho2 hm2 hr2 hg2
  go_wp2_with fail
  refine (bent_any w.heap.size w1.heap.size w.heap.size A2 c2 ps2 _ HR2.out HO2.out hsz1 HM2.out HK2.out.size).mono ?_
  rintro e w3 ⟨A3, c3, ps3, rfl, ho3, hs3, hl3, hr3, hk3⟩
  have HO3 := hid ho3
  have HS3 := hid hs3
  have HK3 := hid (HK2.out.trans hk3)
  clear ho3 hs3 hr3 hk3
  go_wp2_with fail
  go_ret
  exact ⟨A3, c3, ps3, rfl, HO3.out.mono (Nat.le_of_lt hsz1), HS3.out, hl3, HB1.out.trans (⟨HK3.out.os, HK3.out.tape, HK3.out.output, HK3.out.size, fun i hi => HK3.out.block i (by omega) (by omega)⟩)⟩
end Go.Proofs.Ytjdmaoegfpgfjaa
