/-
  The model's edges: one more edge, in its place.
  The model's edges and WaitsFor.
  The model's WaitsFor.
-/
import Derived.Test.YtjdmaoegfpgfjaaEdgeSet
import Derived.Test.YtjdmaoegfpgfjaaFreeS2
import Derived.BigQuiet
import Derived.Test.YtjdmaoegfpgfjaaFreeS
import Derived.Test.YtjdmaoegfpgfjaaEdgeI
namespace Go.Proofs.Ytjdmaoegfpgfjaa
open Go.RowKit

/-- Edges that are read. -/
def ReadE (w : World) (es : ES) (e : Ending) (w' : World) : Prop :=
  ∃ b off c, e = .returned (.slice (some ⟨b, off, none⟩) es.length c) ∧ RE w' w'.heap.size (some ⟨b, off, none⟩) es ∧ es.length ≤ c ∧ c ≤ maxLen ∧ Below w.heap.size w w'
theorem ownE_some {w : World} {B c : Nat} {A : Option Addr} {es : ES} (h : OwnE w B A c es) (hn : 0 < es.length) : ∃ g, A = some ⟨g, 0, none⟩ := by
  rcases h.2 with ⟨hv, hz⟩ | ⟨g, cap, cur, hv, _⟩
  · omega
  · injection hv with e
    exact ⟨g, e⟩
theorem insE_at {es : ES} {x : ED} {k : Nat} (hk : k ≤ es.length) (h1 : ∀ (i : Nat) (h : i < es.length), i < k → ltE es[i] x = true) (h2 : ∀ h : k < es.length, ltE es[k] x = false) (h3 : es[k]? ≠ some x) : (([] ++ es.take k) ++ [x]) ++ es.drop k = insE es x := by
  rw [insE_stop es x k hk h1 h2, if_neg h3]
  simp
theorem insE_has {es : ES} {x : ED} {k : Nat} (hk : k < es.length) (h1 : ∀ (i : Nat) (h : i < es.length), i < k → ltE es[i] x = true) (h2 : es[k] = x) : es = insE es x := by
  have h3 : ltE es[k] x = false := by rw [h2, ltE_no]; omega
  rw [insE_stop es x k (by omega) h1 (fun _ => h3), if_pos (by rw [List.getElem?_eq_getElem hk, h2])]
theorem ltTo_succ {es : ES} {x : ED} {k : Nat} (h : ∀ (i : Nat) (h : i < es.length), i < k → ltE es[i] x = true) (hk : k < es.length) (he : ltE es[k] x = true) : ∀ (i : Nat) (h : i < es.length), i < k + 1 → ltE es[i] x = true := by
  intro i hi hlt
  by_cases e : i = k
  · subst e; exact he
  · exact h i hi (by omega)

set_option maxHeartbeats 8000000 in
set_option maxRecDepth 100000 in
theorem spec_l5Edge (b off c : Nat) (es : ES) (x : ED) (w : World) (hr : RE w w.heap.size (some ⟨b, off, none⟩) es) (hn : es.length ≤ 100000) (hc : es.length ≤ c) (hc2 : c ≤ maxLen) :
    Calls Try.prog 155 #[.slice (some ⟨b, off, none⟩) es.length c, .agg #[.int .i64 x.1, .int .i64 x.2]] w (ReadE w (insE es x)) := by
  obtain ⟨i0, hi0, hz0, hz1, hz2⟩ := info_parts edgeInfo
  unfold maxLen at hc2
  have hb1 : Below w.heap.size w (w.alloc (.cells #[.int .i64 x.1, .int .i64 x.2] 56)) := (Below.refl _ _).alloc (Nat.le_refl _) _
  have X := hid (Row2.lit w 56 (.int .i64 x.1) (.int .i64 x.2))
  have HB1 := hid hb1
  have HR := hid ((hr.below hb1).more hb1.size)
  have HS1 : Hid ((w.alloc (.cells #[.int .i64 x.1, .int .i64 x.2] 56)).heap.size = w.heap.size + 1) := by rw [Hid]; simp
  clear hr hb1
  go_enter Try.func155, Try.ntmps155
  go_wp2_with fail
  generalize hw1 : w.alloc (.cells #[.int .i64 x.1, .int .i64 x.2] 56) = w1 at *
  clear hw1
  go_loopw [5] (fun i wr => ∃ k : Nat, k ≤ es.length ∧ i = .int .i64 (k : Int) ∧ Hid (∀ (i : Nat) (h : i < es.length), i < k → ltE es[i] x = true) ∧ Drawn w1 wr) (fun i _ => es.length - (intOf i).toNat)
  case atStart => exact ⟨0, Nat.zero_le _, rfl, fun i _ h => absurd h (by omega), Drawn.refl _⟩
  case round =>
    obtain ⟨k, hk, rfl, HLT, hdr⟩ := hrel
    have HDR := hid hdr
    have HX := hid (X.out.below (hdr.below _))
    have HRW := hid (HR.out.below (hdr.below _))
    have x0 := HX.out.c0
    have x1 := HX.out.c1
    clear hdr
    by_cases hlt : k < es.length
    · obtain ⟨_, _, ea, hb, hc1, hc3⟩ := HRW.out.at_ hlt
      injection ea with ea
      injection ea with ea1 ea2
      subst ea1 ea2
      have e5 : (0 : Int) ≤ (k : Int) := by omega
      have e6 : (k : Int) < (es.length : Int) := by omega
      have HSTEP := hid (ltTo_succ HLT.out hlt)
      have hq := eqEdgeV es[k] x
      have hm := edgeGuard
      by_cases h1 : es[k].1 < x.1
      · have HE := hid (HSTEP.out (ltE_iff.2 (.inl h1)))
        have hd1 : decide (es[k].1 < x.1) = true := decide_eq_true h1
        go_wp2_with fail
        go_quiet (fail)
        go_wp2_with fail
        go_roundw
        case rel => exact ⟨k + 1, by omega, by go_num, HE.out, HDR.out.drewN _⟩
        case measure => simp [intOf]; omega
      have hd1 : decide (es[k].1 < x.1) = false := decide_eq_false h1
      by_cases h2' : es[k].1 = x.1
      · have g1 := eqI_true h2'
        have H2 := hid h2'
        clear h2'
        by_cases h3 : es[k].2 < x.2
        · have HE := hid (HSTEP.out (ltE_iff.2 (.inr ⟨H2.out, h3⟩)))
          have hd3 : decide (es[k].2 < x.2) = true := decide_eq_true h3
          go_wp2_with fail
          go_quiet (fail)
          go_wp2_with fail
          go_roundw
          case rel => exact ⟨k + 1, by omega, by go_num, HE.out, HDR.out.drewN _⟩
          case measure => simp [intOf]; omega
        have HNO : Hid (ltE es[k] x = false) := by have := H2.out; rw [Hid, ltE_no]; omega
        have hd3 : decide (es[k].2 < x.2) = false := decide_eq_false h3
        by_cases h4 : es[k].2 = x.2
        · have hxe : es[k] = x := Prod.ext H2.out h4
          have HIN := hid (insE_has hlt HLT.out hxe)
          have h5 : decide (es[k] = x) = true := by simp [hxe]
          rw [h5] at hq
          clear h4 h5 hxe
          go_wp2_with fail
          go_quiet (fail)
          go_wp2_with fail
          go_quiet (fail)
          go_wp2_with fail
          go_ret
          rw [← HIN.out]
          exact ⟨b, off, c, rfl, (show RE _ _ _ _ from HRW.out.more (by have := (HDR.out.below w1.heap.size).size; exact this)), hc, by unfold maxLen; exact hc2, HB1.out.trans (((HDR.out.drewN _).drewN _).below _)⟩
        · have h5 : es[k] ≠ x := fun e => h4 (by rw [e])
          have HI3 := hid (insE_at (x := x) hk HLT.out (fun _ => HNO.out) (by rw [List.getElem?_eq_getElem hlt]; intro e; exact h5 (Option.some.inj e)))
          have h6 : decide (es[k] = x) = false := by simp [h5]
          rw [h6] at hq
          clear h4 h5 h6
          go_wp2_with fail
          go_quiet (fail)
          obtain ⟨n1, hn1⟩ : ∃ n1, n1 = nq := ⟨_, rfl⟩
          subst hn1
          go_wp2_with fail
          go_quiet (fail)
          have HW2 : Hid (Below w1.heap.size w1 ((wr.drewN n1).drewN nq)) := ((HDR.out.drewN n1).drewN nq).below _
          generalize hwq : (wr.drewN n1).drewN nq = w2 at *
          clear hwq
          have HX2 := hid (X.out.below HW2.out)
          have HR2 := hid (HR.out.below HW2.out)
          have HB2 := hid (HB1.out.trans (HW2.out.mono HB1.out.size))
          have BA := hid ((Below.refl w2.heap.size w2).alloc (Nat.le_refl _) (.cells #[] 56))
          have N8 := hid (OwnE.made (w := w2) (B := w2.heap.size) (Nat.le_refl _) #[] 0 rfl (Nat.zero_le _))
          have HX3 := hid (HX2.out.below BA.out)
          have HR3 := hid (HR2.out.below (BA.out.mono HW2.out.size))
          have HS2 := hid HW2.out.size
          have HTL : Hid ((([] : ES)).length + (es.take k).length ≤ 4000000) := by rw [Hid, List.length_take]; simp; omega
          have HTK : Hid (k = (es.take k).length) := by rw [Hid, List.length_take]; omega
          have HTL2 : Hid (([] ++ es.take k).length + [x].length ≤ 4000000) := by rw [Hid, List.nil_append, List.length_take, List.length_singleton]; omega
          have HTL3 : Hid ((([] ++ es.take k) ++ [x]).length + (es.drop k).length ≤ 4000000) := by rw [Hid, List.length_append, List.nil_append, List.length_take, List.length_drop, List.length_singleton]; omega
          have HDL : Hid (es.length - k = (es.drop k).length) := by rw [Hid, List.length_drop]
          have HS9 : Hid (∀ W : World, Below w2.heap.size w2 W → RE W w1.heap.size (some ⟨b, off + k * 2, none⟩) (es.drop k)) := fun W hW => (HR2.out.below (hW.mono HS2.out)).drop k
          have tk1 : Hid (1 = 1) := rfl
          have tk2 : Hid (1 = 1) := rfl
          have tk3 : Hid (1 = 1) := rfl
          have e7 : (0 : Int) ≤ (k : Int) := by omega
          have e8 : k ≤ c := by omega
          have x30 := HX3.out.c0
          have x31 := HX3.out.c1
          clear x0 x1
          go_wp2_with (first
            | (clear tk1; at_builtin; refine wpList_append_re (w2.alloc (.cells #[] 56)) rfl _ _ _ rfl i0 Try.underlying53 hi0 hz0 hz1 hz2 w2.heap.size (some ⟨w2.heap.size, 0, none⟩) 0 0 [] rfl rfl N8.out w1.heap.size (some ⟨b, off, none⟩) k c (es.take k) rfl HTK.out HR3.out.take HTL.out BA.out.size ?_; intro A9 n9 c9 w9 hn9 hap9; have HN9 := hid hn9; have hb9 := hap9.below N8.out rfl BA.out.size; have HAP9 := hid hap9; have HB9 := hid (BA.out.trans hb9); have HX9 := hid (HX2.out.below HB9.out); have x90 := HX9.out.c0; have x91 := HX9.out.c1; have BA9 := hid ((Below.refl w9.heap.size w9).alloc (Nat.le_refl _) (.cells #[.int .i64 x.1, .int .i64 x.2] 56)); clear hn9 hap9 hb9)
            | (clear tk2; at_builtin; refine wpList_append_re (w9.alloc (.cells #[.int .i64 x.1, .int .i64 x.2] 56)) rfl _ _ _ rfl i0 Try.underlying53 hi0 hz0 hz1 hz2 w2.heap.size A9 n9 c9 ([] ++ es.take k) rfl HN9.out (HAP9.out.own.below BA9.out) (w9.heap.size + 1) (some ⟨w9.heap.size, 0, none⟩) 1 1 [x] rfl rfl (RE.new w9 x 56) HTL2.out (Nat.le_trans HB9.out.size BA9.out.size) ?_; intro A10 n10 c10 w10 hn10 hap10; have HN10 := hid hn10; have hb10 := hap10.below (HAP9.out.own.below BA9.out) HN9.out (Nat.le_trans HB9.out.size BA9.out.size); have HAP10 := hid hap10; have HB10 := hid ((HB9.out.trans (BA9.out.mono HB9.out.size)).trans hb10); clear hn10 hap10 hb10)
            | (clear tk3; at_builtin; refine wpList_append_re w10 rfl _ _ _ rfl i0 Try.underlying53 hi0 hz0 hz1 hz2 w2.heap.size A10 n10 c10 (([] ++ es.take k) ++ [x]) rfl HN10.out HAP10.out.own w1.heap.size (some ⟨b, off + k * 2, none⟩) (es.length - k) (c - k) (es.drop k) rfl HDL.out (HS9.out _ HB10.out) HTL3.out HB10.out.size ?_; intro A11 n11 c11 w11 hn11 hap11; have HN11 := hid hn11; have hb11 := hap11.below HAP10.out.own HN10.out HB10.out.size; have HAP11 := hid hap11; have HB11 := hid (HB10.out.trans hb11); clear hn11 hap11 hb11))
          go_ret
          rw [← HI3.out]
          obtain ⟨g11, rfl⟩ := ownE_some HAP11.out.own (by rw [List.length_append, List.length_append, List.length_singleton]; omega)
          exact ⟨g11, 0, c11, by rw [HN11.out]; rfl, HAP11.out.own.re, HAP11.out.own.cap.1, HAP11.out.own.cap.2, HB2.out.trans (HB11.out.mono HB2.out.size)⟩
      · have h2 := h2'
        clear h2'
        have g1 := eqI_false h2
        have HNO : Hid (ltE es[k] x = false) := by rw [Hid, ltE_no]; omega
        have h5 : es[k] ≠ x := fun e => h2 (by rw [e])
        have HI3 := hid (insE_at (x := x) hk HLT.out (fun _ => HNO.out) (by rw [List.getElem?_eq_getElem hlt]; intro e; exact h5 (Option.some.inj e)))
        have h6 : decide (es[k] = x) = false := by simp [h5]
        rw [h6] at hq
        clear h5 h6
        go_wp2_with fail
        go_quiet (fail)
        obtain ⟨n1, hn1⟩ : ∃ n1, n1 = nq := ⟨_, rfl⟩
        subst hn1
        go_wp2_with fail
        go_quiet (fail)
        have HW2 : Hid (Below w1.heap.size w1 ((wr.drewN n1).drewN nq)) := ((HDR.out.drewN n1).drewN nq).below _
        generalize hwq : (wr.drewN n1).drewN nq = w2 at *
        clear hwq
        have HX2 := hid (X.out.below HW2.out)
        have HR2 := hid (HR.out.below HW2.out)
        have HB2 := hid (HB1.out.trans (HW2.out.mono HB1.out.size))
        have BA := hid ((Below.refl w2.heap.size w2).alloc (Nat.le_refl _) (.cells #[] 56))
        have N8 := hid (OwnE.made (w := w2) (B := w2.heap.size) (Nat.le_refl _) #[] 0 rfl (Nat.zero_le _))
        have HX3 := hid (HX2.out.below BA.out)
        have HR3 := hid (HR2.out.below (BA.out.mono HW2.out.size))
        have HS2 := hid HW2.out.size
        have HTL : Hid ((([] : ES)).length + (es.take k).length ≤ 4000000) := by rw [Hid, List.length_take]; simp; omega
        have HTK : Hid (k = (es.take k).length) := by rw [Hid, List.length_take]; omega
        have HTL2 : Hid (([] ++ es.take k).length + [x].length ≤ 4000000) := by rw [Hid, List.nil_append, List.length_take, List.length_singleton]; omega
        have HTL3 : Hid ((([] ++ es.take k) ++ [x]).length + (es.drop k).length ≤ 4000000) := by rw [Hid, List.length_append, List.nil_append, List.length_take, List.length_drop, List.length_singleton]; omega
        have HDL : Hid (es.length - k = (es.drop k).length) := by rw [Hid, List.length_drop]
        have HS9 : Hid (∀ W : World, Below w2.heap.size w2 W → RE W w1.heap.size (some ⟨b, off + k * 2, none⟩) (es.drop k)) := fun W hW => (HR2.out.below (hW.mono HS2.out)).drop k
        have tk1 : Hid (1 = 1) := rfl
        have tk2 : Hid (1 = 1) := rfl
        have tk3 : Hid (1 = 1) := rfl
        have e7 : (0 : Int) ≤ (k : Int) := by omega
        have e8 : k ≤ c := by omega
        have x30 := HX3.out.c0
        have x31 := HX3.out.c1
        clear x0 x1
        go_wp2_with (first
          | (clear tk1; at_builtin; refine wpList_append_re (w2.alloc (.cells #[] 56)) rfl _ _ _ rfl i0 Try.underlying53 hi0 hz0 hz1 hz2 w2.heap.size (some ⟨w2.heap.size, 0, none⟩) 0 0 [] rfl rfl N8.out w1.heap.size (some ⟨b, off, none⟩) k c (es.take k) rfl HTK.out HR3.out.take HTL.out BA.out.size ?_; intro A9 n9 c9 w9 hn9 hap9; have HN9 := hid hn9; have hb9 := hap9.below N8.out rfl BA.out.size; have HAP9 := hid hap9; have HB9 := hid (BA.out.trans hb9); have HX9 := hid (HX2.out.below HB9.out); have x90 := HX9.out.c0; have x91 := HX9.out.c1; have BA9 := hid ((Below.refl w9.heap.size w9).alloc (Nat.le_refl _) (.cells #[.int .i64 x.1, .int .i64 x.2] 56)); clear hn9 hap9 hb9)
          | (clear tk2; at_builtin; refine wpList_append_re (w9.alloc (.cells #[.int .i64 x.1, .int .i64 x.2] 56)) rfl _ _ _ rfl i0 Try.underlying53 hi0 hz0 hz1 hz2 w2.heap.size A9 n9 c9 ([] ++ es.take k) rfl HN9.out (HAP9.out.own.below BA9.out) (w9.heap.size + 1) (some ⟨w9.heap.size, 0, none⟩) 1 1 [x] rfl rfl (RE.new w9 x 56) HTL2.out (Nat.le_trans HB9.out.size BA9.out.size) ?_; intro A10 n10 c10 w10 hn10 hap10; have HN10 := hid hn10; have hb10 := hap10.below (HAP9.out.own.below BA9.out) HN9.out (Nat.le_trans HB9.out.size BA9.out.size); have HAP10 := hid hap10; have HB10 := hid ((HB9.out.trans (BA9.out.mono HB9.out.size)).trans hb10); clear hn10 hap10 hb10)
          | (clear tk3; at_builtin; refine wpList_append_re w10 rfl _ _ _ rfl i0 Try.underlying53 hi0 hz0 hz1 hz2 w2.heap.size A10 n10 c10 (([] ++ es.take k) ++ [x]) rfl HN10.out HAP10.out.own w1.heap.size (some ⟨b, off + k * 2, none⟩) (es.length - k) (c - k) (es.drop k) rfl HDL.out (HS9.out _ HB10.out) HTL3.out HB10.out.size ?_; intro A11 n11 c11 w11 hn11 hap11; have HN11 := hid hn11; have hb11 := hap11.below HAP10.out.own HN10.out HB10.out.size; have HAP11 := hid hap11; have HB11 := hid (HB10.out.trans hb11); clear hn11 hap11 hb11))
        go_ret
        rw [← HI3.out]
        obtain ⟨g11, rfl⟩ := ownE_some HAP11.out.own (by rw [List.length_append, List.length_append, List.length_singleton]; omega)
        exact ⟨g11, 0, c11, by rw [HN11.out]; rfl, HAP11.out.own.re, HAP11.out.own.cap.1, HAP11.out.own.cap.2, HB2.out.trans (HB11.out.mono HB2.out.size)⟩
    · obtain rfl : k = es.length := by omega
      have HI3 := hid (insE_at (x := x) hk HLT.out (fun h => absurd h (by omega)) (by rw [List.getElem?_eq_none (Nat.le_refl _)]; simp))
      by_cases hcc : c = es.length
      · subst hcc
        go_wp2_with fail
        go_quiet (fail)
        obtain ⟨n1, hn1⟩ : ∃ n1, n1 = nq := ⟨_, rfl⟩
        subst hn1
        go_wp2_with fail
        go_quiet (fail)
        have HW2 : Hid (Below w1.heap.size w1 ((wr.drewN n1).drewN nq)) := ((HDR.out.drewN n1).drewN nq).below _
        generalize hwq : (wr.drewN n1).drewN nq = w2 at *
        clear hwq
        have HX2 := hid (X.out.below HW2.out)
        have HR2 := hid (HR.out.below HW2.out)
        have HB2 := hid (HB1.out.trans (HW2.out.mono HB1.out.size))
        have BA := hid ((Below.refl w2.heap.size w2).alloc (Nat.le_refl _) (.cells #[] 56))
        have N8 := hid (OwnE.made (w := w2) (B := w2.heap.size) (Nat.le_refl _) #[] 0 rfl (Nat.zero_le _))
        have HX3 := hid (HX2.out.below BA.out)
        have HR3 := hid (HR2.out.below (BA.out.mono HW2.out.size))
        have HS2 := hid HW2.out.size
        have HTL : Hid ((([] : ES)).length + (es.take es.length).length ≤ 4000000) := by rw [Hid, List.length_take]; simp; omega
        have HTK : Hid (es.length = (es.take es.length).length) := by rw [Hid, List.length_take]; omega
        have HTL2 : Hid (([] ++ es.take es.length).length + [x].length ≤ 4000000) := by rw [Hid, List.nil_append, List.length_take, List.length_singleton]; omega
        have HTL3 : Hid ((([] ++ es.take es.length) ++ [x]).length + (es.drop es.length).length ≤ 4000000) := by rw [Hid, List.length_append, List.nil_append, List.length_take, List.length_drop, List.length_singleton]; omega
        have HDL : Hid (0 = (es.drop es.length).length) := by rw [Hid, List.length_drop]; omega
        have HS9 : Hid (∀ W : World, Below w2.heap.size w2 W → RE W w1.heap.size (some ⟨b, off + es.length * 2, none⟩) (es.drop es.length)) := fun W hW => (HR2.out.below (hW.mono HS2.out)).drop es.length
        have tk1 : Hid (1 = 1) := rfl
        have tk2 : Hid (1 = 1) := rfl
        have tk3 : Hid (1 = 1) := rfl
        have e7 : (0 : Int) ≤ (es.length : Int) := by omega
        have e8 : es.length ≤ es.length := by omega
        have x30 := HX3.out.c0
        have x31 := HX3.out.c1
        clear x0 x1
        go_wp2_with (first
          | (clear tk1; at_builtin; refine wpList_append_re (w2.alloc (.cells #[] 56)) rfl _ _ _ rfl i0 Try.underlying53 hi0 hz0 hz1 hz2 w2.heap.size (some ⟨w2.heap.size, 0, none⟩) 0 0 [] rfl rfl N8.out w1.heap.size (some ⟨b, off, none⟩) es.length es.length (es.take es.length) rfl HTK.out HR3.out.take HTL.out BA.out.size ?_; intro A9 n9 c9 w9 hn9 hap9; have HN9 := hid hn9; have hb9 := hap9.below N8.out rfl BA.out.size; have HAP9 := hid hap9; have HB9 := hid (BA.out.trans hb9); have HX9 := hid (HX2.out.below HB9.out); have x90 := HX9.out.c0; have x91 := HX9.out.c1; have BA9 := hid ((Below.refl w9.heap.size w9).alloc (Nat.le_refl _) (.cells #[.int .i64 x.1, .int .i64 x.2] 56)); clear hn9 hap9 hb9)
          | (clear tk2; at_builtin; refine wpList_append_re (w9.alloc (.cells #[.int .i64 x.1, .int .i64 x.2] 56)) rfl _ _ _ rfl i0 Try.underlying53 hi0 hz0 hz1 hz2 w2.heap.size A9 n9 c9 ([] ++ es.take es.length) rfl HN9.out (HAP9.out.own.below BA9.out) (w9.heap.size + 1) (some ⟨w9.heap.size, 0, none⟩) 1 1 [x] rfl rfl (RE.new w9 x 56) HTL2.out (Nat.le_trans HB9.out.size BA9.out.size) ?_; intro A10 n10 c10 w10 hn10 hap10; have HN10 := hid hn10; have hb10 := hap10.below (HAP9.out.own.below BA9.out) HN9.out (Nat.le_trans HB9.out.size BA9.out.size); have HAP10 := hid hap10; have HB10 := hid ((HB9.out.trans (BA9.out.mono HB9.out.size)).trans hb10); clear hn10 hap10 hb10)
          | (clear tk3; at_builtin; refine wpList_append_re w10 rfl _ _ _ rfl i0 Try.underlying53 hi0 hz0 hz1 hz2 w2.heap.size A10 n10 c10 (([] ++ es.take es.length) ++ [x]) rfl HN10.out HAP10.out.own 0 _ _ _ (es.drop es.length) rfl HDL.out (.inl (by simp)) HTL3.out HB10.out.size ?_; intro A11 n11 c11 w11 hn11 hap11; have HN11 := hid hn11; have hb11 := hap11.below HAP10.out.own HN10.out HB10.out.size; have HAP11 := hid hap11; have HB11 := hid (HB10.out.trans hb11); clear hn11 hap11 hb11))
        go_ret
        rw [← HI3.out]
        obtain ⟨g11, rfl⟩ := ownE_some HAP11.out.own (by rw [List.length_append, List.length_append, List.length_singleton]; omega)
        exact ⟨g11, 0, c11, by rw [HN11.out]; rfl, HAP11.out.own.re, HAP11.out.own.cap.1, HAP11.out.own.cap.2, HB2.out.trans (HB11.out.mono HB2.out.size)⟩
      · have hc5 : es.length < c := by omega
        go_wp2_with fail
        go_quiet (fail)
        obtain ⟨n1, hn1⟩ : ∃ n1, n1 = nq := ⟨_, rfl⟩
        subst hn1
        go_wp2_with fail
        go_quiet (fail)
        have HW2 : Hid (Below w1.heap.size w1 ((wr.drewN n1).drewN nq)) := ((HDR.out.drewN n1).drewN nq).below _
        generalize hwq : (wr.drewN n1).drewN nq = w2 at *
        clear hwq
        have HX2 := hid (X.out.below HW2.out)
        have HR2 := hid (HR.out.below HW2.out)
        have HB2 := hid (HB1.out.trans (HW2.out.mono HB1.out.size))
        have BA := hid ((Below.refl w2.heap.size w2).alloc (Nat.le_refl _) (.cells #[] 56))
        have N8 := hid (OwnE.made (w := w2) (B := w2.heap.size) (Nat.le_refl _) #[] 0 rfl (Nat.zero_le _))
        have HX3 := hid (HX2.out.below BA.out)
        have HR3 := hid (HR2.out.below (BA.out.mono HW2.out.size))
        have HS2 := hid HW2.out.size
        have HTL : Hid ((([] : ES)).length + (es.take es.length).length ≤ 4000000) := by rw [Hid, List.length_take]; simp; omega
        have HTK : Hid (es.length = (es.take es.length).length) := by rw [Hid, List.length_take]; omega
        have HTL2 : Hid (([] ++ es.take es.length).length + [x].length ≤ 4000000) := by rw [Hid, List.nil_append, List.length_take, List.length_singleton]; omega
        have HTL3 : Hid ((([] ++ es.take es.length) ++ [x]).length + (es.drop es.length).length ≤ 4000000) := by rw [Hid, List.length_append, List.nil_append, List.length_take, List.length_drop, List.length_singleton]; omega
        have HDL : Hid (0 = (es.drop es.length).length) := by rw [Hid, List.length_drop]; omega
        have HS9 : Hid (∀ W : World, Below w2.heap.size w2 W → RE W w1.heap.size (some ⟨b, off + es.length * 2, none⟩) (es.drop es.length)) := fun W hW => (HR2.out.below (hW.mono HS2.out)).drop es.length
        have tk1 : Hid (1 = 1) := rfl
        have tk2 : Hid (1 = 1) := rfl
        have tk3 : Hid (1 = 1) := rfl
        have e7 : (0 : Int) ≤ (es.length : Int) := by omega
        have e8 : es.length ≤ c := by omega
        have x30 := HX3.out.c0
        have x31 := HX3.out.c1
        clear x0 x1
        go_wp2_with (first
          | (clear tk1; at_builtin; refine wpList_append_re (w2.alloc (.cells #[] 56)) rfl _ _ _ rfl i0 Try.underlying53 hi0 hz0 hz1 hz2 w2.heap.size (some ⟨w2.heap.size, 0, none⟩) 0 0 [] rfl rfl N8.out w1.heap.size (some ⟨b, off, none⟩) es.length c (es.take es.length) rfl HTK.out HR3.out.take HTL.out BA.out.size ?_; intro A9 n9 c9 w9 hn9 hap9; have HN9 := hid hn9; have hb9 := hap9.below N8.out rfl BA.out.size; have HAP9 := hid hap9; have HB9 := hid (BA.out.trans hb9); have HX9 := hid (HX2.out.below HB9.out); have x90 := HX9.out.c0; have x91 := HX9.out.c1; have BA9 := hid ((Below.refl w9.heap.size w9).alloc (Nat.le_refl _) (.cells #[.int .i64 x.1, .int .i64 x.2] 56)); clear hn9 hap9 hb9)
          | (clear tk2; at_builtin; refine wpList_append_re (w9.alloc (.cells #[.int .i64 x.1, .int .i64 x.2] 56)) rfl _ _ _ rfl i0 Try.underlying53 hi0 hz0 hz1 hz2 w2.heap.size A9 n9 c9 ([] ++ es.take es.length) rfl HN9.out (HAP9.out.own.below BA9.out) (w9.heap.size + 1) (some ⟨w9.heap.size, 0, none⟩) 1 1 [x] rfl rfl (RE.new w9 x 56) HTL2.out (Nat.le_trans HB9.out.size BA9.out.size) ?_; intro A10 n10 c10 w10 hn10 hap10; have HN10 := hid hn10; have hb10 := hap10.below (HAP9.out.own.below BA9.out) HN9.out (Nat.le_trans HB9.out.size BA9.out.size); have HAP10 := hid hap10; have HB10 := hid ((HB9.out.trans (BA9.out.mono HB9.out.size)).trans hb10); clear hn10 hap10 hb10)
          | (clear tk3; at_builtin; refine wpList_append_re w10 rfl _ _ _ rfl i0 Try.underlying53 hi0 hz0 hz1 hz2 w2.heap.size A10 n10 c10 (([] ++ es.take es.length) ++ [x]) rfl HN10.out HAP10.out.own 0 _ _ _ (es.drop es.length) rfl HDL.out (.inl (by simp)) HTL3.out HB10.out.size ?_; intro A11 n11 c11 w11 hn11 hap11; have HN11 := hid hn11; have hb11 := hap11.below HAP10.out.own HN10.out HB10.out.size; have HAP11 := hid hap11; have HB11 := hid (HB10.out.trans hb11); clear hn11 hap11 hb11))
        go_ret
        rw [← HI3.out]
        obtain ⟨g11, rfl⟩ := ownE_some HAP11.out.own (by rw [List.length_append, List.length_append, List.length_singleton]; omega)
        exact ⟨g11, 0, c11, by rw [HN11.out]; rfl, HAP11.out.own.re, HAP11.out.own.cap.1, HAP11.out.own.cap.2, HB2.out.trans (HB11.out.mono HB2.out.size)⟩
end Go.Proofs.Ytjdmaoegfpgfjaa
namespace Go.Proofs.Ytjdmaoegfpgfjaa
open Go.RowKit

theorem takeE_zero_h (h : HS) (x : HD) (r : ES) : r ++ heldE (h.take 0) x = r := by rw [show heldE (h.take 0) x = [] from rfl, List.append_nil]
theorem takeE_zero_a (h l : HS) (x : HD) (r : ES) : r ++ (heldE h x ++ aheadE (l.take 0) x) = r ++ heldE h x := by rw [show aheadE (l.take 0) x = [] from rfl, List.append_nil]
def RO (w : World) (b off c n : Nat) (L : ES) : Prop := RE w w.heap.size (some ⟨b, off, none⟩) L ∧ n = L.length ∧ n ≤ c ∧ c ≤ maxLen
theorem RO.below {w w' : World} {b off c n : Nat} {L : ES} (h : RO w b off c n L) (hb : Below w.heap.size w w') : RO w' b off c n L := ⟨(h.1.below hb).more hb.size, h.2⟩

set_option maxHeartbeats 1000000 in
theorem spec_l5Edge' (b off c n : Nat) (es : ES) (x : ED) (w : World) (hr : RO w b off c n es) (hn : es.length ≤ 100000) :
    Calls Try.prog 155 #[.slice (some ⟨b, off, none⟩) n c, .agg #[.int .i64 x.1, .int .i64 x.2]] w (fun e w' => ∃ b' off' c' n', e = .returned (.slice (some ⟨b', off', none⟩) n' c') ∧ RO w' b' off' c' n' (insE es x) ∧ Below w.heap.size w w') := by
  obtain ⟨h1, rfl, h3, h4⟩ := hr
  exact (spec_l5Edge b off c es x w h1 hn h3 h4).mono fun e w' ⟨b', off', c', he, g1, g2, g3, g4⟩ => ⟨b', off', c', _, he, ⟨g1, rfl, g2, g3⟩, g4⟩

set_option maxHeartbeats 8000000 in
set_option maxRecDepth 100000 in
theorem spec_l5Edges (A : Option Addr) (c : Nat) (h : HS) (K : Option Addr) (d : Nat) (l : HS) (w : World) (hr : RH w w.heap.size A h) (hh : HoldsB h) (hn : h.length ≤ 200) (hr' : RH w w.heap.size K l) (hh' : HoldsB l) (hn' : l.length ≤ 100) :
    Calls Try.prog 93 #[.agg #[.slice A h.length c, .slice K l.length d]] w (ReadE w (edgesL h l)) := by
  have HRL : Hid (∀ k, k ≤ l.length → (rawE h l k).length ≤ 30000) := fun k hk => by
    have h1 := rawE_len h l k hk
    have h2 : k * (h.length + l.length) ≤ 100 * 300 := Nat.mul_le_mul (by omega) (by omega)
    omega
  have hb1 : Below w.heap.size w (w.alloc (.cells #[.slice A h.length c, .slice K l.length d] 39)) := (Below.refl _ _).alloc (Nat.le_refl _) _
  have hx0 := (Row2.lit w 39 (.slice A h.length c) (.slice K l.length d)).below ((Below.refl _ _).alloc (Nat.le_refl _) (.cells #[] 56))
  have hb2 := hb1.alloc hb1.size (.cells #[] 56)
  have X := hid hx0
  have HB1 := hid hb2
  have HR := hid hr
  have HR2 := hid hr'
  have HH := hid hh
  have HH2 := hid hh'
  have HO0 := hid (OwnE.made (w := w.alloc (.cells #[.slice A h.length c, .slice K l.length d] 39)) (B := 0) (Nat.zero_le _) #[] 0 rfl (Nat.zero_le _))
  have HSZ : Hid ((w.alloc (.cells #[.slice A h.length c, .slice K l.length d] 39)).heap.size = w.heap.size + 1) := by rw [Hid]; simp
  rw [HSZ.out] at HO0
  clear hr hr' hh hh' hb1 hb2 hx0 HSZ
  go_enter Try.func93, Try.ntmps93
  go_wp2_with fail
  generalize hw1 : (w.alloc (.cells #[.slice A h.length c, .slice K l.length d] 39)).alloc (.cells #[] 56) = w1 at *
  clear hw1
  go_loopw [3, 4] (fun i3 i4 wr => ∃ (k b off co n : Nat), k ≤ l.length ∧ i3 = .slice (some ⟨b, off, none⟩) n co ∧ i4 = .int .i64 (k : Int) ∧ Hid (RO wr b off co n (setE (rawE h l k))) ∧ Hid (Row2 wr w.heap.size 39 (.slice A h.length c) (.slice K l.length d)) ∧ Hid (Below w.heap.size w wr)) (fun _ i _ => l.length - (intOf i).toNat)
  case atStart => exact ⟨0, w.heap.size + 1, 0, 0, 0, Nat.zero_le _, rfl, rfl, ⟨HO0.out.re, rfl, Nat.le_refl _, Nat.zero_le _⟩, X.out, HB1.out⟩
  case round =>
    obtain ⟨k, b, off, co, n, hk, rfl, rfl, HO, HX, HB⟩ := hrel
    have x0 := HX.out.c0
    have x1 := HX.out.c1
    by_cases hlt : k < l.length
    · obtain ⟨kb, ko, rfl, hkb, hc1, hc2, hc3⟩ := (HR2.out.below HB.out).at_ hlt
      have Z := hid (Row3.lit wr 49 (.int .i64 l[k].1) (.string l[k].2.1) (.int .i64 l[k].2.2))
      have BA := hid ((Below.refl wr.heap.size wr).alloc (Nat.le_refl _) (.cells #[.int .i64 l[k].1, .string l[k].2.1, .int .i64 l[k].2.2] 49))
      have HO2 := hid (HO.out.below BA.out)
      have HX2 := hid (HX.out.below BA.out)
      have HB2 := hid (HB.out.trans (BA.out.mono HB.out.size))
      have HMX := hid (holdB_mode (HH2.out.at_ hlt))
      have e5 : (0 : Int) ≤ (k : Int) := by omega
      have e6 : (k : Int) < (l.length : Int) := by omega
      go_wp2_with fail
      generalize hw2 : wr.alloc (.cells #[.int .i64 l[k].1, .string l[k].2.1, .int .i64 l[k].2.2] 49) = w2 at *
      clear hw2 x0 x1 hc1 hc2 hc3
      generalize hgz : wr.heap.size = gz at *
      have HRK := hid (HRL.out k hk)
      have HL2 : Hid ((heldE h l[k]).length ≤ 200) := by have := heldE_len h l[k]; rw [Hid]; omega
      have HL3 : Hid (∀ m, (heldE (h.take m) l[k]).length ≤ 200) := fun m => by have := heldE_len (h.take m) l[k]; rw [List.length_take] at this; omega
      have HL4 : Hid (∀ m, (aheadE (l.take m) l[k]).length ≤ 100) := fun m => by have := aheadE_len (l.take m) l[k]; rw [List.length_take] at this; omega
      clear HO HX HB
      go_loopw [3, 6] (fun i3 i6 wq => ∃ (m b off co n : Nat), m ≤ h.length ∧ i3 = .slice (some ⟨b, off, none⟩) n co ∧ i6 = .int .i64 (m : Int) ∧ Hid (RO wq b off co n (setE (rawE h l k ++ heldE (h.take m) l[k]))) ∧ Hid (Row2 wq w.heap.size 39 (.slice A h.length c) (.slice (some ⟨kb, ko, none⟩) l.length d)) ∧ Hid (Row3 wq gz 49 (.int .i64 l[k].1) (.string l[k].2.1) (.int .i64 l[k].2.2)) ∧ Hid (Below w.heap.size w wq)) (fun _ i _ => h.length - (intOf i).toNat)
      case atStart => exact ⟨0, b, off, co, n, Nat.zero_le _, rfl, rfl, by rw [takeE_zero_h]; exact HO2.out, HX2.out, Z.out, HB2.out⟩
      case round =>
        obtain ⟨m, b2, off2, co2, n2, hm, rfl, rfl, HO3, HX3, HZ3, HB3⟩ := hrel
        have x0 := HX3.out.c0
        have x1 := HX3.out.c1
        by_cases hlm : m < h.length
        · obtain ⟨hb, ho, rfl, hhb, hc1, hc2, hc3⟩ := (HR.out.below HB3.out).at_ hlm
          have Y := hid (Row3.lit wr 49 (.int .i64 h[m].1) (.string h[m].2.1) (.int .i64 h[m].2.2))
          have BA2 := hid ((Below.refl wr.heap.size wr).alloc (Nat.le_refl _) (.cells #[.int .i64 h[m].1, .string h[m].2.1, .int .i64 h[m].2.2] 49))
          have HO4 := hid (HO3.out.below BA2.out)
          have HX4 := hid (HX3.out.below BA2.out)
          have HZ4 := hid (HZ3.out.below BA2.out)
          have HB4 := hid (HB3.out.trans (BA2.out.mono HB3.out.size))
          have z0 := HZ4.out.c0
          have z1 := HZ4.out.c1
          have z2 := HZ4.out.c2
          have y0 := Y.out.c0
          have y1 := Y.out.c1
          have y2 := Y.out.c2
          have HM := hid (holdB_mode (HH.out.at_ hlm))
          have e7 : (0 : Int) ≤ (m : Int) := by omega
          have e8 : (m : Int) < (h.length : Int) := by omega
          by_cases hk1 : h[m].2.1 = l[k].2.1
          · by_cases hk2 : h[m].1 = l[k].1
            · have HKB := hid (keeps2 (h := h[m]) (x := l[k]) hk2)
              have HEQ : Hid (heldE (h.take (m + 1)) l[k] = heldE (h.take m) l[k]) := heldE_no hlm HKB.out
              have g1 := eqS_true hk1
              have g2 := neI_false hk2
              clear hk1 hk2
              go_wp2_with fail
              go_roundw
              case rel => exact ⟨m + 1, b2, off2, co2, n2, by omega, rfl, by go_num, by rw [HEQ.out]; exact HO4.out, HX4.out, HZ4.out, HB4.out⟩
              case measure => simp [intOf]; omega
            · have HKB := hid (keeps_fit HM.out HMX.out hk1 hk2)
              have g1 := eqS_true hk1
              have g2 := neI_true hk2
              clear hk1 hk2
              cases hf : fitB h[m].2.2 l[k].2.2
              case true =>
                rw [hf] at HKB
                have HEQ : Hid (heldE (h.take (m + 1)) l[k] = heldE (h.take m) l[k]) := heldE_no hlm HKB.out
                go_wp2_with (go_at_call 85; refine (spec_l5Fit _ _ _).mono ?_; rintro e w' ⟨rfl, rfl⟩; rw [hf])
                go_roundw
                case rel => exact ⟨m + 1, b2, off2, co2, n2, by omega, rfl, by go_num, by rw [HEQ.out]; exact HO4.out, HX4.out, HZ4.out, HB4.out⟩
                case measure => simp [intOf]; omega
              case false =>
                rw [hf] at HKB
                have HEQ : Hid (setE (rawE h l k ++ heldE (h.take (m + 1)) l[k]) = insE (setE (rawE h l k ++ heldE (h.take m) l[k])) (l[k].1, h[m].1)) := by rw [Hid, heldE_yes hlm HKB.out, ← List.append_assoc, setE_snoc]
                have HLA : Hid ((setE (rawE h l k ++ heldE (h.take m) l[k])).length ≤ 100000) := by have := HL3.out m; have := HRK.out; have := setE_len (rawE h l k ++ heldE (h.take m) l[k]); rw [List.length_append] at this; rw [Hid]; omega
                go_wp2_with (first
                  | (go_at_call 85; refine (spec_l5Fit _ _ _).mono ?_; rintro e w' ⟨rfl, rfl⟩; rw [hf])
                  | (go_at_call 155; refine (spec_l5Edge' b2 off2 co2 n2 _ (l[k].1, h[m].1) _ HO4.out HLA.out).mono ?_; rintro e w5 ⟨b5, off5, c5, n5, rfl, ho5, hb5⟩; have HO5 := hid ho5; have HB5 := hid hb5; clear ho5 hb5))
                go_roundw
                case rel => exact ⟨m + 1, b5, off5, c5, n5, by omega, rfl, by go_num, by rw [HEQ.out]; exact HO5.out, HX4.out.below HB5.out, HZ4.out.below HB5.out, HB4.out.trans (HB5.out.mono HB4.out.size)⟩
                case measure => simp [intOf]; omega
          · have HKB := hid (keeps1 (h := h[m]) (x := l[k]) hk1)
            have HEQ : Hid (heldE (h.take (m + 1)) l[k] = heldE (h.take m) l[k]) := heldE_no hlm HKB.out
            have g1 := eqS_false hk1
            clear hk1
            go_wp2_with fail
            go_roundw
            case rel => exact ⟨m + 1, b2, off2, co2, n2, by omega, rfl, by go_num, by rw [HEQ.out]; exact HO4.out, HX4.out, HZ4.out, HB4.out⟩
            case measure => simp [intOf]; omega
        · obtain rfl : m = h.length := by omega
          rw [List.take_length] at HO3
          have HMN := hid (fun (W : World) (hb : Below wr.heap.size wr W) => spec_l5Mine A c h (some ⟨kb, ko, none⟩) l.length d l[k] W ((HR.out.below (HB3.out.trans (hb.mono HB3.out.size))).more (HB3.out.trans (hb.mono HB3.out.size)).size) (by unfold maxLen; omega))
          cases hany : h.any fun y => ownB y l[k]
          case true =>
            have HEQ : Hid (rawE h l (k + 1) = rawE h l k ++ heldE h l[k]) := by rw [Hid, rawE_succ hlt, lineE_own hany, List.append_nil]
            have hmp := mineV_some HH.out hany
            have hmp2 : (mineV h l[k] == 0) = false := by simp; omega
            have HMP := hid hmp2
            clear hmp hmp2
            go_wp2_with fail
            clear x0 x1
            go_loopw [3, 8] (fun i3 i8 wq => i3 = .slice (some ⟨b2, off2, none⟩) n2 co2 ∧ i8 = .int .i64 0 ∧ wq = wr) (fun _ _ _ => 0)
            case atStart => exact ⟨rfl, rfl, rfl⟩
            case round =>
              obtain ⟨rfl, rfl, rfl⟩ := hrel
              have x0 := HX3.out.c0
              have x1 := HX3.out.c1
              have z0 := HZ3.out.c0
              have z1 := HZ3.out.c1
              by_cases hk0 : (0 : Int) < (k : Int)
              · go_wp2_with (go_at_call 156; refine (HMN.out _ (Below.refl _ _)).mono ?_; rintro e w5 ⟨rfl, hb5⟩; have HB5 := hid hb5; have hmp := HMP.out; clear hb5)
                go_roundw
                case rel => exact ⟨k + 1, b2, off2, co2, n2, by omega, rfl, by go_num, by rw [HEQ.out]; exact HO3.out.below HB5.out, HX3.out.below HB5.out, HB3.out.trans (HB5.out.mono HB3.out.size)⟩
                case measure => simp [intOf]; omega
              · go_wp2_with fail
                go_roundw
                case rel => exact ⟨k + 1, b2, off2, co2, n2, by omega, rfl, by go_num, by rw [HEQ.out]; exact HO3.out, HX3.out, HB3.out⟩
                case measure => simp [intOf]; omega
          case false =>
            have HEQ : Hid (rawE h l (k + 1) = rawE h l k ++ (heldE h l[k] ++ aheadE (l.take k) l[k])) := by rw [Hid, rawE_succ hlt, lineE_not hany]
            have HM0 : Hid (mineV h l[k] = 0) := mineV_none hany
            go_wp2_with fail
            clear x0 x1
            go_loopw [3, 8] (fun i3 i8 wq => ∃ (m b off co n : Nat), m ≤ k ∧ i3 = .slice (some ⟨b, off, none⟩) n co ∧ i8 = .int .i64 (m : Int) ∧ Hid (RO wq b off co n (setE (rawE h l k ++ (heldE h l[k] ++ aheadE (l.take m) l[k])))) ∧ Hid (Row2 wq w.heap.size 39 (.slice A h.length c) (.slice (some ⟨kb, ko, none⟩) l.length d)) ∧ Hid (Row3 wq gz 49 (.int .i64 l[k].1) (.string l[k].2.1) (.int .i64 l[k].2.2)) ∧ Hid (Below w.heap.size w wq)) (fun _ i _ => k - (intOf i).toNat)
            case atStart => exact ⟨0, b2, off2, co2, n2, Nat.zero_le _, rfl, rfl, by rw [takeE_zero_a]; exact HO3.out, HX3.out, HZ3.out, HB3.out⟩
            case round =>
              obtain ⟨m, b6, off6, co6, n6, hm6, rfl, rfl, HO6, HX6, HZ6, HB6⟩ := hrel
              have x0 := HX6.out.c0
              have x1 := HX6.out.c1
              have z0 := HZ6.out.c0
              have z1 := HZ6.out.c1
              by_cases hlm : m < k
              · have hlm2 : (m : Int) < (k : Int) := by omega
                have hml : m < l.length := by omega
                have HMN6 := hid (spec_l5Mine A c h (some ⟨kb, ko, none⟩) l.length d l[k] wr ((HR.out.below HB6.out).more HB6.out.size) (by unfold maxLen; omega))
                rw [HM0.out] at HMN6
                go_wp2_with (go_at_call 156; refine HMN6.out.mono ?_; rintro e w5 ⟨rfl, hb5⟩; have HB5 := hid hb5; clear hb5)
                have HO7 := hid (HO6.out.below HB5.out)
                have HX7 := hid (HX6.out.below HB5.out)
                have HZ7 := hid (HZ6.out.below HB5.out)
                have HB7 := hid (HB6.out.trans (HB5.out.mono HB6.out.size))
                obtain ⟨_, _, ek, hhb, hc1, hc2, hc3⟩ := (HR2.out.below HB7.out).at_ hml
                injection ek with ek
                injection ek with ek1 ek2
                subst ek1 ek2
                clear x0 x1 z0 z1
                have x1 := HX7.out.c1
                have z1 := HZ7.out.c1
                have e7 : (0 : Int) ≤ (m : Int) := by omega
                have e8 : (m : Int) < (l.length : Int) := by omega
                by_cases hkey : l[m].2.1 = l[k].2.1
                · have g2 := eqS_true hkey
                  have HEQ2 : Hid (setE (rawE h l k ++ (heldE h l[k] ++ aheadE (l.take (m + 1)) l[k])) = insE (setE (rawE h l k ++ (heldE h l[k] ++ aheadE (l.take m) l[k]))) (l[k].1, l[m].1)) := by rw [Hid, aheadE_yes hml hkey, ← List.append_assoc, ← List.append_assoc, setE_snoc, List.append_assoc]
                  have HLA : Hid ((setE (rawE h l k ++ (heldE h l[k] ++ aheadE (l.take m) l[k]))).length ≤ 100000) := by have := HL2.out; have := HL4.out m; have := HRK.out; have := setE_len (rawE h l k ++ (heldE h l[k] ++ aheadE (l.take m) l[k])); rw [List.length_append, List.length_append] at this; rw [Hid]; omega
                  clear hkey
                  go_wp2_with fail
                  go_quiet (fail)
                  go_wp2_with fail
                  have HQ : Hid (Below w5.heap.size w5 (w5.drewN nq)) := ⟨rfl, rfl, rfl, Nat.le_refl _, fun _ _ => rfl⟩
                  have c1 : (w5.drewN nq).cell? ⟨kb, ko + m * 3, none⟩ = some (.int .i64 l[m].1) := hc1
                  generalize hw6 : w5.drewN nq = w6 at *
                  clear hw6 hc1 hc2 hc3 x1 z1
                  have HO8 := hid (HO7.out.below HQ.out)
                  have HX8 := hid (HX7.out.below HQ.out)
                  have HZ8 := hid (HZ7.out.below HQ.out)
                  have HB8 := hid (HB7.out.trans (HQ.out.mono HB7.out.size))
                  have x1 := HX8.out.c1
                  have z0 := HZ8.out.c0
                  go_region_held3 (fun w' => w'.cell? ⟨gz, 0, none⟩ = some (.int .i64 l[k].1) ∧ w'.cell? ⟨w.heap.size, 1, none⟩ = some (.slice (some ⟨kb, ko, none⟩) l.length d) ∧ w'.cell? ⟨kb, ko + m * 3, none⟩ = some (.int .i64 l[m].1)) (go_keep)
                    (first
                      | (go_at_call 155; refine (spec_l5Edge' b6 off6 co6 n6 _ (l[k].1, l[m].1) _ (HO8.out.below (Below.refl _ _).drew) HLA.out).mono ?_; rintro e w7 ⟨b7, off7, c7, n7, rfl, ho7, hb7⟩; have HO9 := hid ho7; have HB9 := hid ((Below.refl w6.heap.size w6).drew.trans hb7); have k1 : w7.cell? ⟨gz, 0, none⟩ = some (.int .i64 l[k].1) := (HB9.out.cell (p := ⟨gz, 0, none⟩) (block_lt_of_cell z0)).trans z0; have k2 : w7.cell? ⟨w.heap.size, 1, none⟩ = some (.slice (some ⟨kb, ko, none⟩) l.length d) := (HB9.out.cell (p := ⟨w.heap.size, 1, none⟩) (block_lt_of_cell x1)).trans x1; have k3 : w7.cell? ⟨kb, ko + m * 3, none⟩ = some (.int .i64 l[m].1) := (HB9.out.cell (p := ⟨kb, ko + m * 3, none⟩) (block_lt_of_cell c1)).trans c1; clear ho7 hb7))
                  go_wp2_with fail
                  go_roundw
                  case rel => exact ⟨m + 1, b7, off7, c7, n7, by omega, rfl, by go_num, by rw [HEQ2.out]; exact HO9.out, HX8.out.below HB9.out, HZ8.out.below HB9.out, HB8.out.trans (HB9.out.mono HB8.out.size)⟩
                  case measure => simp [intOf]; omega
                · have g2 := eqS_false hkey
                  have HEQ2 : Hid (aheadE (l.take (m + 1)) l[k] = aheadE (l.take m) l[k]) := aheadE_no hml hkey
                  clear hkey
                  go_wp2_with fail
                  go_quiet (fail)
                  go_wp2_with fail
                  have HQ : Hid (Below w5.heap.size w5 (w5.drewN nq)) := ⟨rfl, rfl, rfl, Nat.le_refl _, fun _ _ => rfl⟩
                  go_roundw
                  case rel => exact ⟨m + 1, b6, off6, co6, n6, by omega, rfl, by go_num, by rw [HEQ2.out]; exact HO7.out.below HQ.out, HX7.out.below HQ.out, HZ7.out.below HQ.out, HB7.out.trans (HQ.out.mono HB7.out.size)⟩
                  case measure => simp [intOf]; omega
              · obtain rfl : m = k := by omega
                go_wp2_with fail
                go_roundw
                case rel => exact ⟨m + 1, b6, off6, co6, n6, by omega, rfl, by go_num, by rw [HEQ.out]; exact HO6.out, HX6.out, HB6.out⟩
                case measure => simp [intOf]; omega
    · obtain rfl : k = l.length := by omega
      go_wp2_with fail
      go_ret
      obtain ⟨g1, rfl, g3, g4⟩ := HO.out
      exact ⟨b, off, co, rfl, g1, g3, g4, HB.out⟩
end Go.Proofs.Ytjdmaoegfpgfjaa
namespace Go.Proofs.Ytjdmaoegfpgfjaa
open Go.RowKit

theorem waitsR_len (h l : HS) : (waitsR h l).length ≤ 30000 := by
  unfold waitsR
  split
  · rename_i hlk
    have hL := locksB_iff.1 hlk
    have h1 := rawE_len h l l.length (Nat.le_refl _)
    have h2 := setE_len (rawE h l l.length)
    have h3 : l.length * (h.length + l.length) ≤ 20 * 120 := Nat.mul_le_mul hL.2.2.2 (by omega)
    unfold edgesL
    omega
  · simp

set_option maxHeartbeats 2000000 in
set_option maxRecDepth 100000 in
theorem spec_WaitsFor (A : Option Addr) (c : Nat) (h : HS) (K : Option Addr) (d : Nat) (l : HS) (w : World) (hr : RH w w.heap.size A h) (hf : FitsH h) (hn : h.length ≤ maxLen) (hr' : RH w w.heap.size K l) (hf' : FitsH l) (hn' : l.length ≤ maxLen) :
    Calls Try.prog 36 #[.agg #[.slice A h.length c, .slice K l.length d]] w (ReadE w (waitsR h l)) := by
  have hb1 : Below w.heap.size w (w.alloc (.cells #[.slice A h.length c, .slice K l.length d] 39)) := (Below.refl _ _).alloc (Nat.le_refl _) _
  have X := hid (Row2.lit w 39 (.slice A h.length c) (.slice K l.length d))
  have HB1 := hid hb1
  have HR := hid ((hr.below hb1).more hb1.size)
  have HR2 := hid ((hr'.below hb1).more hb1.size)
  have HF := hid hf
  have HF2 := hid hf'
  have HN := hid hn
  have HN2 := hid hn'
  clear hr hr' hf hf' hn hn' hb1
  go_enter Try.func36, Try.ntmps36
  go_wp2_with fail
  generalize hw1 : w.alloc (.cells #[.slice A h.length c, .slice K l.length d] 39) = w1 at *
  clear hw1
  refine (spec_LocksOk A c h K d l _ HR.out HF.out HN.out HR2.out HF2.out HN2.out).mono ?_
  rintro e w2 ⟨rfl, hb2⟩
  have X2 := hid (X.out.below hb2)
  have HB2 := hid (HB1.out.trans (hb2.mono HB1.out.size))
  have HRb := hid ((HR.out.below hb2).more hb2.size)
  have HR2b := hid ((HR2.out.below hb2).more hb2.size)
  clear hb2
  have y0 := X2.out.c0
  have y1 := X2.out.c1
  cases hlk : locksB h l
  case false =>
    have HE : Hid (waitsR h l = []) := by rw [Hid, waitsR, hlk]; rfl
    have HBA := hid ((Below.refl w2.heap.size w2).alloc (Nat.le_refl _) (.cells #[] 56))
    go_wp2_with fail
    go_ret
    rw [HE.out]
    exact ⟨w2.heap.size, 0, 0, rfl, .inl rfl, Nat.le_refl _, Nat.zero_le _, HB2.out.trans (HBA.out.mono HB2.out.size)⟩
  case true =>
    have HE : Hid (waitsR h l = edgesL h l) := by rw [Hid, waitsR, hlk]; rfl
    have HL := hid (locksB_iff.1 hlk)
    have h1 : Hid (h.length ≤ 200) := by have := HL.out.2.2.1; rw [Hid]; omega
    have h2 : Hid (l.length ≤ 100) := by have := HL.out.2.2.2; rw [Hid]; omega
    go_wp2_with fail
    refine (spec_l5Edges A c h K d l w2 HRb.out (heldsB_holds HL.out.1) h1.out HR2b.out (linesB_holds HL.out.2.1) h2.out).mono ?_
    rintro e w3 ⟨b3, o3, c3, rfl, ho3, hc3, hc4, hb3⟩
    have HO3 := hid ho3
    have HC3 := hid hc3
    have HC4 := hid hc4
    have HB3 := hid (HB2.out.trans (hb3.mono HB2.out.size))
    clear ho3 hb3 y0 y1 hc3 hc4
    go_wp2_with fail
    go_ret
    rw [HE.out]
    exact ⟨b3, o3, c3, rfl, HO3.out, HC3.out, HC4.out, HB3.out⟩
end Go.Proofs.Ytjdmaoegfpgfjaa
