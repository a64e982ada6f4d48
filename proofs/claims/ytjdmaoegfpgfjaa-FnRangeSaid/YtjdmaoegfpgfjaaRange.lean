/-
  Range of both: contracts.
-/
import Derived.Test.YtjdmaoegfpgfjaaPutDrop
import Derived.Lib.SliceRun
namespace Go.Proofs.Ytjdmaoegfpgfjaa
open Go.RowKit

theorem Made.of {w w' : World} {L L' : PS} {A : Option Addr} {c : Nat} (hL : L = L') (ho : OwnP w' w.heap.size A c L') (h : Below w.heap.size w w') : Made w w.heap.size L (.returned (.slice A L'.length c)) w' := by
  subst hL
  exact ⟨A, c, rfl, ho, h⟩

theorem Made.of_n {w w' : World} {L L' : PS} {A : Option Addr} {n c : Nat} (hL : L = L') (hn : n = L'.length) (ho : OwnP w' w.heap.size A c L') (h : Below w.heap.size w w') : Made w w.heap.size L (.returned (.slice A n c)) w' := by
  subst hn
  exact Made.of hL ho h

set_option maxHeartbeats 1000000 in
theorem clone_any (g off n c : Nat) (ps : PS) (w : World) (hr : RP w w.heap.size (some ⟨g, off, none⟩) ps) (hn : n = ps.length) (hl : ps.length ≤ 1000) :
    Calls Try.prog 133 #[.slice (some ⟨g, off, none⟩) n c] w (Made w w.heap.size ps) := by
  obtain ⟨i0, hi0, hz0, hz1, hz2⟩ := info_parts pairInfo
  have HR := hid hr
  have HN := hid hn
  clear hr hn
  have qT : ∀ (w : World) (a : Option Addr) (n c n' c' : Nat), (binOp .eql 24 (.slice a n c) (.slice none n' c')).run Try.prog w = .ok (.bool a.isNone) w := fun w a n c n' c' => Lib.run_eql_slice_nil w _ _ a n c n' c' Try.underlying24
  go_enter Try.func133, Try.ntmps133
  go_wp2_with (at_builtin; refine wpList_append_rp _ rfl _ _ _ rfl i0 Try.underlying24 hi0 hz0 hz1 hz2 w.heap.size _ 0 0 [] rfl rfl (OwnP.made (Nat.le_refl _) #[] 0 rfl (Nat.zero_le _)) _ _ _ _ ps rfl HN.out (HR.out.below ((Below.refl _ _).alloc (Nat.le_refl _) _)) (by simp; omega) (by simp) ?_; intro A2 n2 c2 w2 hn2 hown2 hbw2; have HN2 := hid hn2; have HO2 := hid hown2; have HB2 := hid hbw2; clear hn2 hown2 hbw2)
  go_ret
  exact ⟨A2, c2, ret_slice HN2.out, HO2.out, ((Below.refl _ _).alloc (Nat.le_refl _) _).trans HB2.out⟩

set_option maxHeartbeats 1000000 in
theorem spec_Range (A : Option Addr) (c : Nat) (ps : PS) (lo hi : ByteArray) (w : World) (hr : RP w w.heap.size A ps) (hf : Fits ps) (hn : ps.length ≤ 1048576) :
    Calls Try.prog 15 #[.slice A ps.length c, .string lo, .string hi] w (Made w w.heap.size (rangeR ps lo hi)) := by
  have hml : ps.length ≤ maxLen := by unfold maxLen; omega
  have HR := hid hr
  have HF := hid hf
  have HM := hid hml
  clear hr hf hml
  cases h1 : mapB ps
  · have HB : Hid (rangeR ps lo hi = []) := by simp [Hid, rangeR, h1]
    go_enter Try.func15, Try.ntmps15
    go_wp2_with (go_at_call 24; refine (spec_MapOk A c ps _ _ HR.out HF.out HM.out).mono ?_; rintro e w2 ⟨rfl, hw2⟩; have HW := hid (hw2.below w.heap.size); clear hw2)
    go_ret
    exact Made.of HB.out (OwnP.made HW.out.size #[] 0 rfl (Nat.zero_le _)) (HW.out.alloc HW.out.size _)
  · have HB : Hid (rangeR ps lo hi = rangeL ps lo hi) := by simp [Hid, rangeR, h1]
    go_enter Try.func15, Try.ntmps15
    go_wp2_with (first
      | (go_at_call 24; refine (spec_MapOk A c ps _ _ HR.out HF.out HM.out).mono ?_; rintro e w2 ⟨rfl, hw2⟩; have HW := hid (hw2.below w.heap.size); clear hw2)
      | (go_at_call 63; refine (spec_l1Range A c ps lo hi _ ((HR.out.below HW.out).more HW.out.size) hn).mono ?_; rintro e w4 ⟨A4, c4, rfl, ho4, hb4⟩; have HO4 := hid ho4; have HB4 := hid hb4; clear ho4 hb4))
    go_ret
    exact Made.of HB.out (HO4.out.mono HW.out.size) (HW.out.trans (HB4.out.mono HW.out.size))

set_option maxHeartbeats 2000000 in
theorem impl_within (A : Option Addr) (c : Nat) (ps : PS) (lo hi : ByteArray) (w : World) (hr : RP w w.heap.size A ps) (hvs : VS A c ps.length) (hl60 : ps.length ≤ 1000) (h1 : risesB ps = true) :
    Calls Try.prog 66 #[.slice A ps.length c, .string lo, .string hi] w (Made w w.heap.size (rangeL ps lo hi)) := by
  have HR := hid hr
  have HV := hid hvs
  clear hr hvs
  have HS : Hid (risesB ps = true) := h1
  have HSR := hid (sorted_range HS.out lo hi)
  have HSN := hid (sorted_range_none HS.out lo hi)
  have ht := toR_le ps hi
  have hcl := cnt_le ps lo
  have HLN : Hid (∀ b : Nat, toR ps hi = b → b - cnt ps lo = ((ps.drop (cnt ps lo)).take (toR ps hi - cnt ps lo)).length) := by
    intro b hb
    subst hb
    simp
    omega
  by_cases hhi : hi.size = 0
  · have g2 := empty_yes hhi
    have HT : Hid (toR ps hi = ps.length) := by simp [Hid, toR, hhi]
    clear hhi
    by_cases hle : ps.length ≤ cnt ps lo
    · go_enter Try.func66, Try.ntmps66
      go_wp2_with (first
        | (go_at_call 132; (with_reducible refine (place_any A c ps lo _ HR.out (by omega) HS.out).mono ?_); rintro e w3 ⟨rfl, hw3⟩))
      go_ret
      exact Made.of ((HSN.out (by rw [HT.out]; exact hle))) (OwnP.nil_ _ _) hw3
    · rcases HV.out with ⟨_, _, h0⟩ | ⟨g, off, rfl, hnc, hcm⟩
      · omega
      · unfold maxLen at hcm
        go_enter Try.func66, Try.ntmps66
        go_wp2_with (first
          | (go_at_call 132; (with_reducible refine (place_any _ c ps lo _ HR.out (by omega) HS.out).mono ?_); rintro e w3 ⟨rfl, hw3⟩; have HW3 := hid hw3; clear hw3)
          | (go_at_call 133; refine (clone_any g _ _ _ ((ps.drop (cnt ps lo)).take (toR ps hi - cnt ps lo)) _ (((HR.out.below HW3.out).more HW3.out.size).drop _ |>.take _) (HLN.out _ HT.out) (by simp; omega)).mono ?_; rintro e w4 ⟨A4, c4, rfl, ho4, hb4⟩; have HO4 := hid ho4; have HB4 := hid hb4; clear ho4 hb4))
        go_ret
        exact Made.of_n HSR.out (HLN.out _ rfl) (HO4.out.mono HW3.out.size) (HW3.out.trans (HB4.out.mono HW3.out.size))
  · have g2 := empty_no hhi
    have HT : Hid (toR ps hi = cnt ps hi) := by simp [Hid, toR, hhi]
    have hch := cnt_le ps hi
    clear hhi
    by_cases hle : cnt ps hi ≤ cnt ps lo
    · go_enter Try.func66, Try.ntmps66
      go_wp2_with (first
        | (go_at_call 132; (with_reducible refine (place_any A c ps lo _ HR.out (by omega) HS.out).mono ?_); rintro e w3 ⟨rfl, hw3⟩; have HW3 := hid hw3; clear hw3)
        | (go_at_call 132; (with_reducible refine (place_any A c ps hi _ ((HR.out.below HW3.out).more HW3.out.size) (by omega) HS.out).mono ?_); rintro e w5 ⟨rfl, hw5⟩; have HW5 := hid (HW3.out.trans (hw5.mono HW3.out.size)); clear hw5))
      go_ret
      exact Made.of ((HSN.out (by rw [HT.out]; exact hle))) (OwnP.nil_ _ _) HW5.out
    · rcases HV.out with ⟨_, _, h0⟩ | ⟨g, off, rfl, hnc, hcm⟩
      · omega
      · unfold maxLen at hcm
        go_enter Try.func66, Try.ntmps66
        go_wp2_with (first
          | (go_at_call 132; (with_reducible refine (place_any _ c ps lo _ HR.out (by omega) HS.out).mono ?_); rintro e w3 ⟨rfl, hw3⟩; have HW3 := hid hw3; clear hw3)
          | (go_at_call 132; (with_reducible refine (place_any _ c ps hi _ ((HR.out.below HW3.out).more HW3.out.size) (by omega) HS.out).mono ?_); rintro e w5 ⟨rfl, hw5⟩; have HW5 := hid (HW3.out.trans (hw5.mono HW3.out.size)); clear hw5)
          | (go_at_call 133; refine (clone_any g _ _ _ ((ps.drop (cnt ps lo)).take (toR ps hi - cnt ps lo)) _ (((HR.out.below HW5.out).more HW5.out.size).drop _ |>.take _) (HLN.out _ HT.out) (by simp; omega)).mono ?_; rintro e w4 ⟨A4, c4, rfl, ho4, hb4⟩; have HO4 := hid ho4; have HB4 := hid hb4; clear ho4 hb4))
        go_ret
        exact Made.of_n HSR.out (HLN.out _ rfl) (HO4.out.mono HW5.out.size) (HW5.out.trans (HB4.out.mono HW5.out.size))

set_option maxHeartbeats 1000000 in
theorem impl_Range (A : Option Addr) (c : Nat) (ps : PS) (lo hi : ByteArray) (w : World) (hr : RP w w.heap.size A ps) (hvs : VS A c ps.length) (hf : Fits ps) (hn : ps.length ≤ 1048576) :
    Calls Try.prog 17 #[.slice A ps.length c, .string lo, .string hi] w (Made w w.heap.size (rangeR ps lo hi)) := by
  have hml : ps.length ≤ maxLen := by unfold maxLen; omega
  have HR := hid hr
  have HF := hid hf
  have HM := hid hml
  have HV := hid hvs
  clear hr hf hml hvs
  cases h1 : mapB ps
  · have HB : Hid (rangeR ps lo hi = []) := by simp [Hid, rangeR, h1]
    go_enter Try.func17, Try.ntmps17
    go_wp2_with (go_at_call 65; refine (impl_MapOk A c ps _ HR.out HF.out HM.out).mono ?_; rintro e w2 ⟨rfl, hw2⟩)
    go_ret
    exact Made.of HB.out (OwnP.nil_ _ _) hw2
  have HB : Hid (rangeR ps lo hi = rangeL ps lo hi) := by simp [Hid, rangeR, h1]
  have HS : Hid (risesB ps = true) := (mapB_iff.1 h1).2.2
  have hl60 : ps.length ≤ 60 := (mapB_iff.1 h1).1
  go_enter Try.func17, Try.ntmps17
  go_wp2_with fail
  refine (impl_MapOk A c ps _ HR.out HF.out HM.out).mono ?_
  rintro e w2 ⟨rfl, hw2⟩
  have HW2 := hid hw2
  clear hw2
  go_wp2_with fail
  refine (impl_within A c ps lo hi _ ((HR.out.below HW2.out).more HW2.out.size) HV.out (by omega) HS.out).mono ?_
  rintro e w4 ⟨A4, c4, rfl, ho4, hb4⟩
  have HO4 := hid ho4
  have HB4 := hid hb4
  clear ho4 hb4
  go_wp2_with fail
  go_ret
  exact Made.of HB.out (HO4.out.mono HW2.out.size) (HW2.out.trans (HB4.out.mono HW2.out.size))
end Go.Proofs.Ytjdmaoegfpgfjaa
