/-
  DrawMapText, DrawKeyOk, DrawReadMap: what they give.
-/
import Derived.Test.YtkegdhgcebbmgabDoorHurt
namespace Go.Proofs.YtkegdhgcebbmgabDoor
open Go.RowKit

theorem mapT_size {ps : PS} : (mapT ps).size ≤ 840 := by
  unfold mapT
  split
  · rename_i hm
    have h := mapB_iff.1 hm
    have h1 := join_len ps h.2.1
    have h2 : (textB ps).size = (Lib.join (wordsL ps) [32]).length := by
      show (Lib.join (wordsL ps) [32]).toArray.size = _
      simp
    omega
  · show 0 ≤ 840
    omega

/-- Pairs that are drawn. -/
def OfM (w : World) (e : Ending) (w' : World) : Prop := ∃ A c ps, e = .returned (.slice A ps.length c) ∧ OwnP w' w.heap.size A c ps ∧ SmallP ps ∧ ps.length ≤ 60 ∧ Below w.heap.size w w'
/-- A text that is drawn. -/
def OfT (n : Nat) (w : World) (e : Ending) (w' : World) : Prop := ∃ s : ByteArray, e = .returned (.string s) ∧ s.size ≤ n ∧ Below w.heap.size w w'

set_option maxHeartbeats 2000000 in
theorem drawMapOk_any (A : Option Addr) (n c : Nat) (w : World) (hc : CB w w.heap.size A n) (hn : n ≤ 1048576) :
    Calls Tryd.prog 31 #[.slice A n c] w (OfM w) := by
  have HC := hid hc
  clear hc
  go_enter Tryd.func31, Tryd.ntmps31
  go_wp2_with fail
  refine (open_any A n c _).mono ?_
  rintro e w1 ⟨rfl, hw1⟩
  obtain ⟨hr1, hb1, _⟩ := rd_start HC.out hn hw1
  have HR1 := hid hr1
  have HB1 := hid hb1
  clear hw1 hr1 hb1
  have hsz1 : w.heap.size < w1.heap.size := HR1.out.lt.1
  go_wp2_with fail
  refine (pairs_any w.heap.size w.heap.size 9 _ HR1.out (by omega)).mono ?_
  rintro e w2 ⟨A2, c2, ps2, rfl, ho2, hm2, hr2, hg2⟩
  have HR2 := hid hr2
  have HO2 := hid ho2
  have HM2 := hid hm2
  have hs2 := hg2.size
  have HB2 := hid (HB1.out.grown hg2 HB1.out.size (by simp))
  clear ho2 hm2 hr2 hg2
  go_wp2_with fail
  refine (bent_any w.heap.size w1.heap.size w.heap.size A2 c2 ps2 _ HR2.out HO2.out hsz1 HM2.out hs2).mono ?_
  rintro e w3 ⟨A3, c3, ps3, rfl, ho3, hs3, hl3, hr3, hk3⟩
  have HO3 := hid ho3
  have HS3 := hid hs3
  have HB3 := hid (HB2.out.trans (⟨hk3.os, hk3.tape, hk3.output, hk3.size, fun i hi => hk3.block i (by omega) (by omega)⟩ : Below w.heap.size w2 w3))
  clear ho3 hs3 hr3 hk3
  go_wp2_with fail
  go_ret
  exact ⟨A3, c3, ps3, rfl, HO3.out.mono (Nat.le_of_lt hsz1), HS3.out, hl3, HB3.out⟩

theorem drawMapText_any (A : Option Addr) (n c : Nat) (w : World) (hc : CB w w.heap.size A n) (hn : n ≤ 1048576) :
    Calls Tryd.prog 10 #[.slice A n c] w (OfM w) := by
  have HC := hid hc
  clear hc
  go_enter Tryd.func10, Tryd.ntmps10
  go_wp2_with fail
  refine (drawMapOk_any A n c _ HC.out hn).mono ?_
  rintro e w1 ⟨A1, c1, ps1, rfl, ho1, hs1, hl1, hb1⟩
  have HO1 := hid ho1
  have HS1 := hid hs1
  have HB1 := hid hb1
  clear ho1 hs1 hb1
  go_wp2_with fail
  go_ret
  exact ⟨A1, c1, ps1, rfl, HO1.out, HS1.out, hl1, HB1.out⟩

set_option maxHeartbeats 2000000 in
theorem drawKeyOk_any (A : Option Addr) (n c : Nat) (w : World) (hc : CB w w.heap.size A n) (hn : n ≤ 1048576) :
    Calls Tryd.prog 13 #[.slice A n c] w (OfT 7 w) := by
  have HC := hid hc
  clear hc
  go_enter Tryd.func13, Tryd.ntmps13
  go_wp2_with fail
  refine (open_any A n c _).mono ?_
  rintro e w1 ⟨rfl, hw1⟩
  obtain ⟨hr1, hb1, _⟩ := rd_start HC.out hn hw1
  have HR1 := hid hr1
  have HB1 := hid hb1
  clear hw1 hr1 hb1
  go_wp2_with fail
  refine (once_any w.heap.size w.heap.size 3 _ HR1.out (by omega) (by omega)).mono ?_
  rintro e w2 ⟨b, rfl, hr2, hg2⟩
  have HR2 := hid hr2
  have HB2 := hid (HB1.out.grown hg2 HB1.out.size (by simp))
  clear hr2 hg2
  cases b
  · go_wp2_with fail
    refine (key_any w.heap.size w.heap.size _ HR2.out).mono ?_
    rintro e w3 ⟨t, hts, rfl, hr3, hg3⟩
    have HB3 := hid (HB2.out.grown hg3 HB2.out.size (by simp))
    clear hr3 hg3
    go_wp2_with fail
    go_ret
    exact ⟨t, rfl, hts, HB3.out⟩
  · go_wp2_with fail
    refine (below_any w.heap.size w.heap.size 8 _ (HR2.out.below ((Below.refl _ _).alloc (Nat.le_refl _) _)) (by omega) (by omega)).mono ?_
    rintro e w3 ⟨v, hv, rfl, hr3, hg3⟩
    obtain ⟨s, hs, hcell⟩ := tbl_cell hg3 HR2.out.lt.1 (by simpa using hv) (by rfl)
    have HB3 := hid ((HB2.out.alloc HB2.out.size _).grown hg3 (HB2.out.alloc HB2.out.size _).size (by simp))
    clear hr3 hg3
    have e1 : (0 : Int) ≤ (v : Int) := by omega
    have e2 : (v : Int) < 8 := by omega
    go_wp2_with fail
    go_ret
    exact ⟨s, rfl, hs, HB3.out⟩

set_option maxHeartbeats 2000000 in
theorem drawReadMap_any (A : Option Addr) (n c : Nat) (w : World) (hc : CB w w.heap.size A n) (hn : n ≤ 1048576) :
    Calls Tryd.prog 20 #[.slice A n c] w (OfT 5000 w) := by
  have HC := hid hc
  clear hc
  go_enter Tryd.func20, Tryd.ntmps20
  go_wp2_with fail
  refine (open_any A n c _).mono ?_
  rintro e w1 ⟨rfl, hw1⟩
  obtain ⟨hr1, hb1, _⟩ := rd_start HC.out hn hw1
  have HR1 := hid hr1
  have HB1 := hid hb1
  clear hw1 hr1 hb1
  go_wp2_with fail
  refine (pairs_any w.heap.size w.heap.size 6 _ HR1.out (by omega)).mono ?_
  rintro e w2 ⟨A2, c2, ps2, rfl, ho2, hm2, hr2, hg2⟩
  have HR2 := hid hr2
  have HO2 := hid ho2
  have HF2 := hid (small_map hm2)
  have hl2 := (mapB_iff.1 hm2).1
  have HB2 := hid (HB1.out.grown hg2 HB1.out.size (by simp))
  clear ho2 hm2 hr2 hg2
  go_wp2_with fail
  refine (spec_MapText A2 c2 ps2 _ _ HO2.out.rp HF2.out.fits (by unfold maxLen; omega)).mono ?_
  rintro e w3 ⟨rfl, hd3⟩
  have HR3 := hid (HR2.out.below (hd3.below _))
  have HB3 := hid (HB2.out.trans (hd3.below _))
  clear hd3
  have hz := @mapT_size ps2
  go_wp2_with fail
  refine (once_any w.heap.size w.heap.size 2 _ HR3.out (by omega) (by omega)).mono ?_
  rintro e w4 ⟨b, rfl, hr4, hg4⟩
  have HR4 := hid hr4
  have HB4 := hid (HB3.out.grown hg4 HB3.out.size (by simp))
  clear hr4 hg4
  cases b
  · go_wp2_with fail
    refine (hurt_any w.heap.size w.heap.size (mapT ps2) _ HR4.out (by omega)).mono ?_
    rintro e w5 ⟨t, hts, rfl, hr5, hg5⟩
    have HB5 := hid (HB4.out.grown hg5 HB4.out.size (by simp))
    clear hr5 hg5
    go_wp2_with fail
    go_ret
    exact ⟨t, rfl, hts, HB5.out⟩
  · go_wp2_with fail
    go_ret
    exact ⟨_, rfl, by omega, HB4.out⟩
end Go.Proofs.YtkegdhgcebbmgabDoor
