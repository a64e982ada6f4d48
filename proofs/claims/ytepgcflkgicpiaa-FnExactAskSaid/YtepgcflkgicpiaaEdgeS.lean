/-
  The model's edges: one more edge, in its place.
-/
import Derived.Test.YtepgcflkgicpiaaEdgeSet
import Derived.Test.YtepgcflkgicpiaaFreeS2
import Derived.BigQuiet
namespace Go.Proofs.Ytepgcflkgicpiaa
open Go.RowKit

/-- Edges that are read. -/
def ReadE (w : World) (es : ES) (e : Ending) (w' : World) : Prop :=
  ∃ b off c, e = .returned (.slice (some ⟨b, off, none⟩) es.length c) ∧ RE w' w'.heap.size (some ⟨b, off, none⟩) es ∧ es.length ≤ c ∧ c ≤ maxLen ∧ Below w.heap.size w w'
theorem ownE_some {w : World} {B c : Nat} {A : Option Addr} {es : ES} (h : OwnE w B A c es) (hn : 0 < es.length) : ∃ g, A = some ⟨g, 0, none⟩ := by
  rcases h.2 with ⟨hv, hz⟩ | ⟨g, cap, cur, hv, _⟩
  · omega
  · injection hv with e
    exact ⟨g, e⟩
theorem insE_at {es : ES} {x : ED} {k : Nat} (hk : k ≤ es.length) (h1 : ∀ (i : Nat) (h : i < es.length), i < k → ltE es[i] x = true) (h2 : ∀ h : k < es.length, ltE es[k] x = false) (h3 : es[k]? ≠ some x) : (([] ++ es.take k) ++ [x]) ++ es.drop k = insE es x := by
  rw [insE_stop es x k hk h1 h2, if_neg h3]
  simp
theorem insE_has {es : ES} {x : ED} {k : Nat} (hk : k < es.length) (h1 : ∀ (i : Nat) (h : i < es.length), i < k → ltE es[i] x = true) (h2 : es[k] = x) : es = insE es x := by
  have h3 : ltE es[k] x = false := by rw [h2, ltE_no]; omega
  rw [insE_stop es x k (by omega) h1 (fun _ => h3), if_pos (by rw [List.getElem?_eq_getElem hk, h2])]
theorem ltTo_succ {es : ES} {x : ED} {k : Nat} (h : ∀ (i : Nat) (h : i < es.length), i < k → ltE es[i] x = true) (hk : k < es.length) (he : ltE es[k] x = true) : ∀ (i : Nat) (h : i < es.length), i < k + 1 → ltE es[i] x = true := by
  intro i hi hlt
  by_cases e : i = k
  · subst e; exact he
  · exact h i hi (by omega)

set_option maxHeartbeats 8000000 in
set_option maxRecDepth 100000 in
theorem spec_l5Edge (b off c : Nat) (es : ES) (x : ED) (w : World) (hr : RE w w.heap.size (some ⟨b, off, none⟩) es) (hn : es.length ≤ 100000) (hc : es.length ≤ c) (hc2 : c ≤ maxLen) :
    Calls Try.prog 136 #[.slice (some ⟨b, off, none⟩) es.length c, .agg #[.int .i64 x.1, .int .i64 x.2]] w (ReadE w (insE es x)) := by
  obtain ⟨i0, hi0, hz0, hz1, hz2⟩ := info_parts edgeInfo
  unfold maxLen at hc2
  have hb1 : Below w.heap.size w (w.alloc (.cells #[.int .i64 x.1, .int .i64 x.2] 59)) := (Below.refl _ _).alloc (Nat.le_refl _) _
  have X := hid (Row2.lit w 59 (.int .i64 x.1) (.int .i64 x.2))
  have HB1 := hid hb1
  have HR := hid ((hr.below hb1).more hb1.size)
  have HS1 : Hid ((w.alloc (.cells #[.int .i64 x.1, .int .i64 x.2] 59)).heap.size = w.heap.size + 1) := by rw [Hid]; simp
  clear hr hb1
  go_enter Try.func136, Try.ntmps136
  go_wp2_with fail
  generalize hw1 : w.alloc (.cells #[.int .i64 x.1, .int .i64 x.2] 59) = w1 at *
  clear hw1
  go_loopw [5] (fun i wr => ∃ k : Nat, k ≤ es.length ∧ i = .int .i64 (k : Int) ∧ Hid (∀ (i : Nat) (h : i < es.length), i < k → ltE es[i] x = true) ∧ Drawn w1 wr) (fun i _ => es.length - (intOf i).toNat)
  case atStart => exact ⟨0, Nat.zero_le _, rfl, fun i _ h => absurd h (by omega), Drawn.refl _⟩
  case round =>
    obtain ⟨k, hk, rfl, HLT, hdr⟩ := hrel
    have HDR := hid hdr
    have HX := hid (X.out.below (hdr.below _))
    have HRW := hid (HR.out.below (hdr.below _))
    have x0 := HX.out.c0
    have x1 := HX.out.c1
    clear hdr
    by_cases hlt : k < es.length
    · obtain ⟨_, _, ea, hb, hc1, hc3⟩ := HRW.out.at_ hlt
      injection ea with ea
      injection ea with ea1 ea2
      subst ea1 ea2
      have e5 : (0 : Int) ≤ (k : Int) := by omega
      have e6 : (k : Int) < (es.length : Int) := by omega
      have HSTEP := hid (ltTo_succ HLT.out hlt)
      have hq := eqEdgeV es[k] x
      have hm := edgeGuard
      by_cases h1 : es[k].1 < x.1
      · have HE := hid (HSTEP.out (ltE_iff.2 (.inl h1)))
        have hd1 : decide (es[k].1 < x.1) = true := decide_eq_true h1
        go_wp2_with fail
        go_quiet (fail)
        go_wp2_with fail
        go_roundw
        case rel => exact ⟨k + 1, by omega, by go_num, HE.out, HDR.out.drewN _⟩
        case measure => simp [intOf]; omega
      have hd1 : decide (es[k].1 < x.1) = false := decide_eq_false h1
      by_cases h2' : es[k].1 = x.1
      · have g1 := eqI_true h2'
        have H2 := hid h2'
        clear h2'
        by_cases h3 : es[k].2 < x.2
        · have HE := hid (HSTEP.out (ltE_iff.2 (.inr ⟨H2.out, h3⟩)))
          have hd3 : decide (es[k].2 < x.2) = true := decide_eq_true h3
          go_wp2_with fail
          go_quiet (fail)
          go_wp2_with fail
          go_roundw
          case rel => exact ⟨k + 1, by omega, by go_num, HE.out, HDR.out.drewN _⟩
          case measure => simp [intOf]; omega
        have HNO : Hid (ltE es[k] x = false) := by have := H2.out; rw [Hid, ltE_no]; omega
        have hd3 : decide (es[k].2 < x.2) = false := decide_eq_false h3
        by_cases h4 : es[k].2 = x.2
        · have hxe : es[k] = x := Prod.ext H2.out h4
          have HIN := hid (insE_has hlt HLT.out hxe)
          have h5 : decide (es[k] = x) = true := by simp [hxe]
          rw [h5] at hq
          clear h4 h5 hxe
          go_wp2_with fail
          go_quiet (fail)
          go_wp2_with fail
          go_quiet (fail)
          go_wp2_with fail
          go_ret
          rw [← HIN.out]
          exact ⟨b, off, c, rfl, (show RE _ _ _ _ from HRW.out.more (by have := (HDR.out.below w1.heap.size).size; exact this)), hc, by unfold maxLen; exact hc2, HB1.out.trans (((HDR.out.drewN _).drewN _).below _)⟩
        · have h5 : es[k] ≠ x := fun e => h4 (by rw [e])
          have HI3 := hid (insE_at (x := x) hk HLT.out (fun _ => HNO.out) (by rw [List.getElem?_eq_getElem hlt]; intro e; exact h5 (Option.some.inj e)))
          have h6 : decide (es[k] = x) = false := by simp [h5]
          rw [h6] at hq
          clear h4 h5 h6
          go_wp2_with fail
          go_quiet (fail)
          obtain ⟨n1, hn1⟩ : ∃ n1, n1 = nq := ⟨_, rfl⟩
          subst hn1
          go_wp2_with fail
          go_quiet (fail)
          have HW2 : Hid (Below w1.heap.size w1 ((wr.drewN n1).drewN nq)) := ((HDR.out.drewN n1).drewN nq).below _
          generalize hwq : (wr.drewN n1).drewN nq = w2 at *
          clear hwq
          have HX2 := hid (X.out.below HW2.out)
          have HR2 := hid (HR.out.below HW2.out)
          have HB2 := hid (HB1.out.trans (HW2.out.mono HB1.out.size))
          have BA := hid ((Below.refl w2.heap.size w2).alloc (Nat.le_refl _) (.cells #[] 59))
          have N8 := hid (OwnE.made (w := w2) (B := w2.heap.size) (Nat.le_refl _) #[] 0 rfl (Nat.zero_le _))
          have HX3 := hid (HX2.out.below BA.out)
          have HR3 := hid (HR2.out.below (BA.out.mono HW2.out.size))
          have HS2 := hid HW2.out.size
          have HTL : Hid ((([] : ES)).length + (es.take k).length ≤ 4000000) := by rw [Hid, List.length_take]; simp; omega
          have HTK : Hid (k = (es.take k).length) := by rw [Hid, List.length_take]; omega
          have HTL2 : Hid (([] ++ es.take k).length + [x].length ≤ 4000000) := by rw [Hid, List.nil_append, List.length_take, List.length_singleton]; omega
          have HTL3 : Hid ((([] ++ es.take k) ++ [x]).length + (es.drop k).length ≤ 4000000) := by rw [Hid, List.length_append, List.nil_append, List.length_take, List.length_drop, List.length_singleton]; omega
          have HDL : Hid (es.length - k = (es.drop k).length) := by rw [Hid, List.length_drop]
          have HS9 : Hid (∀ W : World, Below w2.heap.size w2 W → RE W w1.heap.size (some ⟨b, off + k * 2, none⟩) (es.drop k)) := fun W hW => (HR2.out.below (hW.mono HS2.out)).drop k
          have tk1 : Hid (1 = 1) := rfl
          have tk2 : Hid (1 = 1) := rfl
          have tk3 : Hid (1 = 1) := rfl
          have e7 : (0 : Int) ≤ (k : Int) := by omega
          have e8 : k ≤ c := by omega
          have x30 := HX3.out.c0
          have x31 := HX3.out.c1
          clear x0 x1
          go_wp2_with (first
            | (clear tk1; at_builtin; refine wpList_append_re (w2.alloc (.cells #[] 59)) rfl _ _ _ rfl i0 Try.underlying38 hi0 hz0 hz1 hz2 w2.heap.size (some ⟨w2.heap.size, 0, none⟩) 0 0 [] rfl rfl N8.out w1.heap.size (some ⟨b, off, none⟩) k c (es.take k) rfl HTK.out HR3.out.take HTL.out BA.out.size ?_; intro A9 n9 c9 w9 hn9 hap9; have HN9 := hid hn9; have hb9 := hap9.below N8.out rfl BA.out.size; have HAP9 := hid hap9; have HB9 := hid (BA.out.trans hb9); have HX9 := hid (HX2.out.below HB9.out); have x90 := HX9.out.c0; have x91 := HX9.out.c1; have BA9 := hid ((Below.refl w9.heap.size w9).alloc (Nat.le_refl _) (.cells #[.int .i64 x.1, .int .i64 x.2] 59)); clear hn9 hap9 hb9)
            | (clear tk2; at_builtin; refine wpList_append_re (w9.alloc (.cells #[.int .i64 x.1, .int .i64 x.2] 59)) rfl _ _ _ rfl i0 Try.underlying38 hi0 hz0 hz1 hz2 w2.heap.size A9 n9 c9 ([] ++ es.take k) rfl HN9.out (HAP9.out.own.below BA9.out) (w9.heap.size + 1) (some ⟨w9.heap.size, 0, none⟩) 1 1 [x] rfl rfl (RE.new w9 x 59) HTL2.out (Nat.le_trans HB9.out.size BA9.out.size) ?_; intro A10 n10 c10 w10 hn10 hap10; have HN10 := hid hn10; have hb10 := hap10.below (HAP9.out.own.below BA9.out) HN9.out (Nat.le_trans HB9.out.size BA9.out.size); have HAP10 := hid hap10; have HB10 := hid ((HB9.out.trans (BA9.out.mono HB9.out.size)).trans hb10); clear hn10 hap10 hb10)
            | (clear tk3; at_builtin; refine wpList_append_re w10 rfl _ _ _ rfl i0 Try.underlying38 hi0 hz0 hz1 hz2 w2.heap.size A10 n10 c10 (([] ++ es.take k) ++ [x]) rfl HN10.out HAP10.out.own w1.heap.size (some ⟨b, off + k * 2, none⟩) (es.length - k) (c - k) (es.drop k) rfl HDL.out (HS9.out _ HB10.out) HTL3.out HB10.out.size ?_; intro A11 n11 c11 w11 hn11 hap11; have HN11 := hid hn11; have hb11 := hap11.below HAP10.out.own HN10.out HB10.out.size; have HAP11 := hid hap11; have HB11 := hid (HB10.out.trans hb11); clear hn11 hap11 hb11))
          go_ret
          rw [← HI3.out]
          obtain ⟨g11, rfl⟩ := ownE_some HAP11.out.own (by rw [List.length_append, List.length_append, List.length_singleton]; omega)
          exact ⟨g11, 0, c11, by rw [HN11.out]; rfl, HAP11.out.own.re, HAP11.out.own.cap.1, HAP11.out.own.cap.2, HB2.out.trans (HB11.out.mono HB2.out.size)⟩
      · have h2 := h2'
        clear h2'
        have g1 := eqI_false h2
        have HNO : Hid (ltE es[k] x = false) := by rw [Hid, ltE_no]; omega
        have h5 : es[k] ≠ x := fun e => h2 (by rw [e])
        have HI3 := hid (insE_at (x := x) hk HLT.out (fun _ => HNO.out) (by rw [List.getElem?_eq_getElem hlt]; intro e; exact h5 (Option.some.inj e)))
        have h6 : decide (es[k] = x) = false := by simp [h5]
        rw [h6] at hq
        clear h5 h6
        go_wp2_with fail
        go_quiet (fail)
        obtain ⟨n1, hn1⟩ : ∃ n1, n1 = nq := ⟨_, rfl⟩
        subst hn1
        go_wp2_with fail
        go_quiet (fail)
        have HW2 : Hid (Below w1.heap.size w1 ((wr.drewN n1).drewN nq)) := ((HDR.out.drewN n1).drewN nq).below _
        generalize hwq : (wr.drewN n1).drewN nq = w2 at *
        clear hwq
        have HX2 := hid (X.out.below HW2.out)
        have HR2 := hid (HR.out.below HW2.out)
        have HB2 := hid (HB1.out.trans (HW2.out.mono HB1.out.size))
        have BA := hid ((Below.refl w2.heap.size w2).alloc (Nat.le_refl _) (.cells #[] 59))
        have N8 := hid (OwnE.made (w := w2) (B := w2.heap.size) (Nat.le_refl _) #[] 0 rfl (Nat.zero_le _))
        have HX3 := hid (HX2.out.below BA.out)
        have HR3 := hid (HR2.out.below (BA.out.mono HW2.out.size))
        have HS2 := hid HW2.out.size
        have HTL : Hid ((([] : ES)).length + (es.take k).length ≤ 4000000) := by rw [Hid, List.length_take]; simp; omega
        have HTK : Hid (k = (es.take k).length) := by rw [Hid, List.length_take]; omega
        have HTL2 : Hid (([] ++ es.take k).length + [x].length ≤ 4000000) := by rw [Hid, List.nil_append, List.length_take, List.length_singleton]; omega
        have HTL3 : Hid ((([] ++ es.take k) ++ [x]).length + (es.drop k).length ≤ 4000000) := by rw [Hid, List.length_append, List.nil_append, List.length_take, List.length_drop, List.length_singleton]; omega
        have HDL : Hid (es.length - k = (es.drop k).length) := by rw [Hid, List.length_drop]
        have HS9 : Hid (∀ W : World, Below w2.heap.size w2 W → RE W w1.heap.size (some ⟨b, off + k * 2, none⟩) (es.drop k)) := fun W hW => (HR2.out.below (hW.mono HS2.out)).drop k
        have tk1 : Hid (1 = 1) := rfl
        have tk2 : Hid (1 = 1) := rfl
        have tk3 : Hid (1 = 1) := rfl
        have e7 : (0 : Int) ≤ (k : Int) := by omega
        have e8 : k ≤ c := by omega
        have x30 := HX3.out.c0
        have x31 := HX3.out.c1
        clear x0 x1
        go_wp2_with (first
          | (clear tk1; at_builtin; refine wpList_append_re (w2.alloc (.cells #[] 59)) rfl _ _ _ rfl i0 Try.underlying38 hi0 hz0 hz1 hz2 w2.heap.size (some ⟨w2.heap.size, 0, none⟩) 0 0 [] rfl rfl N8.out w1.heap.size (some ⟨b, off, none⟩) k c (es.take k) rfl HTK.out HR3.out.take HTL.out BA.out.size ?_; intro A9 n9 c9 w9 hn9 hap9; have HN9 := hid hn9; have hb9 := hap9.below N8.out rfl BA.out.size; have HAP9 := hid hap9; have HB9 := hid (BA.out.trans hb9); have HX9 := hid (HX2.out.below HB9.out); have x90 := HX9.out.c0; have x91 := HX9.out.c1; have BA9 := hid ((Below.refl w9.heap.size w9).alloc (Nat.le_refl _) (.cells #[.int .i64 x.1, .int .i64 x.2] 59)); clear hn9 hap9 hb9)
          | (clear tk2; at_builtin; refine wpList_append_re (w9.alloc (.cells #[.int .i64 x.1, .int .i64 x.2] 59)) rfl _ _ _ rfl i0 Try.underlying38 hi0 hz0 hz1 hz2 w2.heap.size A9 n9 c9 ([] ++ es.take k) rfl HN9.out (HAP9.out.own.below BA9.out) (w9.heap.size + 1) (some ⟨w9.heap.size, 0, none⟩) 1 1 [x] rfl rfl (RE.new w9 x 59) HTL2.out (Nat.le_trans HB9.out.size BA9.out.size) ?_; intro A10 n10 c10 w10 hn10 hap10; have HN10 := hid hn10; have hb10 := hap10.below (HAP9.out.own.below BA9.out) HN9.out (Nat.le_trans HB9.out.size BA9.out.size); have HAP10 := hid hap10; have HB10 := hid ((HB9.out.trans (BA9.out.mono HB9.out.size)).trans hb10); clear hn10 hap10 hb10)
          | (clear tk3; at_builtin; refine wpList_append_re w10 rfl _ _ _ rfl i0 Try.underlying38 hi0 hz0 hz1 hz2 w2.heap.size A10 n10 c10 (([] ++ es.take k) ++ [x]) rfl HN10.out HAP10.out.own w1.heap.size (some ⟨b, off + k * 2, none⟩) (es.length - k) (c - k) (es.drop k) rfl HDL.out (HS9.out _ HB10.out) HTL3.out HB10.out.size ?_; intro A11 n11 c11 w11 hn11 hap11; have HN11 := hid hn11; have hb11 := hap11.below HAP10.out.own HN10.out HB10.out.size; have HAP11 := hid hap11; have HB11 := hid (HB10.out.trans hb11); clear hn11 hap11 hb11))
        go_ret
        rw [← HI3.out]
        obtain ⟨g11, rfl⟩ := ownE_some HAP11.out.own (by rw [List.length_append, List.length_append, List.length_singleton]; omega)
        exact ⟨g11, 0, c11, by rw [HN11.out]; rfl, HAP11.out.own.re, HAP11.out.own.cap.1, HAP11.out.own.cap.2, HB2.out.trans (HB11.out.mono HB2.out.size)⟩
    · obtain rfl : k = es.length := by omega
      have HI3 := hid (insE_at (x := x) hk HLT.out (fun h => absurd h (by omega)) (by rw [List.getElem?_eq_none (Nat.le_refl _)]; simp))
      by_cases hcc : c = es.length
      · subst hcc
        go_wp2_with fail
        go_quiet (fail)
        obtain ⟨n1, hn1⟩ : ∃ n1, n1 = nq := ⟨_, rfl⟩
        subst hn1
        go_wp2_with fail
        go_quiet (fail)
        have HW2 : Hid (Below w1.heap.size w1 ((wr.drewN n1).drewN nq)) := ((HDR.out.drewN n1).drewN nq).below _
        generalize hwq : (wr.drewN n1).drewN nq = w2 at *
        clear hwq
        have HX2 := hid (X.out.below HW2.out)
        have HR2 := hid (HR.out.below HW2.out)
        have HB2 := hid (HB1.out.trans (HW2.out.mono HB1.out.size))
        have BA := hid ((Below.refl w2.heap.size w2).alloc (Nat.le_refl _) (.cells #[] 59))
        have N8 := hid (OwnE.made (w := w2) (B := w2.heap.size) (Nat.le_refl _) #[] 0 rfl (Nat.zero_le _))
        have HX3 := hid (HX2.out.below BA.out)
        have HR3 := hid (HR2.out.below (BA.out.mono HW2.out.size))
        have HS2 := hid HW2.out.size
        have HTL : Hid ((([] : ES)).length + (es.take es.length).length ≤ 4000000) := by rw [Hid, List.length_take]; simp; omega
        have HTK : Hid (es.length = (es.take es.length).length) := by rw [Hid, List.length_take]; omega
        have HTL2 : Hid (([] ++ es.take es.length).length + [x].length ≤ 4000000) := by rw [Hid, List.nil_append, List.length_take, List.length_singleton]; omega
        have HTL3 : Hid ((([] ++ es.take es.length) ++ [x]).length + (es.drop es.length).length ≤ 4000000) := by rw [Hid, List.length_append, List.nil_append, List.length_take, List.length_drop, List.length_singleton]; omega
        have HDL : Hid (0 = (es.drop es.length).length) := by rw [Hid, List.length_drop]; omega
        have HS9 : Hid (∀ W : World, Below w2.heap.size w2 W → RE W w1.heap.size (some ⟨b, off + es.length * 2, none⟩) (es.drop es.length)) := fun W hW => (HR2.out.below (hW.mono HS2.out)).drop es.length
        have tk1 : Hid (1 = 1) := rfl
        have tk2 : Hid (1 = 1) := rfl
        have tk3 : Hid (1 = 1) := rfl
        have e7 : (0 : Int) ≤ (es.length : Int) := by omega
        have e8 : es.length ≤ es.length := by omega
        have x30 := HX3.out.c0
        have x31 := HX3.out.c1
        clear x0 x1
        go_wp2_with (first
          | (clear tk1; at_builtin; refine wpList_append_re (w2.alloc (.cells #[] 59)) rfl _ _ _ rfl i0 Try.underlying38 hi0 hz0 hz1 hz2 w2.heap.size (some ⟨w2.heap.size, 0, none⟩) 0 0 [] rfl rfl N8.out w1.heap.size (some ⟨b, off, none⟩) es.length es.length (es.take es.length) rfl HTK.out HR3.out.take HTL.out BA.out.size ?_; intro A9 n9 c9 w9 hn9 hap9; have HN9 := hid hn9; have hb9 := hap9.below N8.out rfl BA.out.size; have HAP9 := hid hap9; have HB9 := hid (BA.out.trans hb9); have HX9 := hid (HX2.out.below HB9.out); have x90 := HX9.out.c0; have x91 := HX9.out.c1; have BA9 := hid ((Below.refl w9.heap.size w9).alloc (Nat.le_refl _) (.cells #[.int .i64 x.1, .int .i64 x.2] 59)); clear hn9 hap9 hb9)
          | (clear tk2; at_builtin; refine wpList_append_re (w9.alloc (.cells #[.int .i64 x.1, .int .i64 x.2] 59)) rfl _ _ _ rfl i0 Try.underlying38 hi0 hz0 hz1 hz2 w2.heap.size A9 n9 c9 ([] ++ es.take es.length) rfl HN9.out (HAP9.out.own.below BA9.out) (w9.heap.size + 1) (some ⟨w9.heap.size, 0, none⟩) 1 1 [x] rfl rfl (RE.new w9 x 59) HTL2.out (Nat.le_trans HB9.out.size BA9.out.size) ?_; intro A10 n10 c10 w10 hn10 hap10; have HN10 := hid hn10; have hb10 := hap10.below (HAP9.out.own.below BA9.out) HN9.out (Nat.le_trans HB9.out.size BA9.out.size); have HAP10 := hid hap10; have HB10 := hid ((HB9.out.trans (BA9.out.mono HB9.out.size)).trans hb10); clear hn10 hap10 hb10)
          | (clear tk3; at_builtin; refine wpList_append_re w10 rfl _ _ _ rfl i0 Try.underlying38 hi0 hz0 hz1 hz2 w2.heap.size A10 n10 c10 (([] ++ es.take es.length) ++ [x]) rfl HN10.out HAP10.out.own 0 _ _ _ (es.drop es.length) rfl HDL.out (.inl (by simp)) HTL3.out HB10.out.size ?_; intro A11 n11 c11 w11 hn11 hap11; have HN11 := hid hn11; have hb11 := hap11.below HAP10.out.own HN10.out HB10.out.size; have HAP11 := hid hap11; have HB11 := hid (HB10.out.trans hb11); clear hn11 hap11 hb11))
        go_ret
        rw [← HI3.out]
        obtain ⟨g11, rfl⟩ := ownE_some HAP11.out.own (by rw [List.length_append, List.length_append, List.length_singleton]; omega)
        exact ⟨g11, 0, c11, by rw [HN11.out]; rfl, HAP11.out.own.re, HAP11.out.own.cap.1, HAP11.out.own.cap.2, HB2.out.trans (HB11.out.mono HB2.out.size)⟩
      · have hc5 : es.length < c := by omega
        go_wp2_with fail
        go_quiet (fail)
        obtain ⟨n1, hn1⟩ : ∃ n1, n1 = nq := ⟨_, rfl⟩
        subst hn1
        go_wp2_with fail
        go_quiet (fail)
        have HW2 : Hid (Below w1.heap.size w1 ((wr.drewN n1).drewN nq)) := ((HDR.out.drewN n1).drewN nq).below _
        generalize hwq : (wr.drewN n1).drewN nq = w2 at *
        clear hwq
        have HX2 := hid (X.out.below HW2.out)
        have HR2 := hid (HR.out.below HW2.out)
        have HB2 := hid (HB1.out.trans (HW2.out.mono HB1.out.size))
        have BA := hid ((Below.refl w2.heap.size w2).alloc (Nat.le_refl _) (.cells #[] 59))
        have N8 := hid (OwnE.made (w := w2) (B := w2.heap.size) (Nat.le_refl _) #[] 0 rfl (Nat.zero_le _))
        have HX3 := hid (HX2.out.below BA.out)
        have HR3 := hid (HR2.out.below (BA.out.mono HW2.out.size))
        have HS2 := hid HW2.out.size
        have HTL : Hid ((([] : ES)).length + (es.take es.length).length ≤ 4000000) := by rw [Hid, List.length_take]; simp; omega
        have HTK : Hid (es.length = (es.take es.length).length) := by rw [Hid, List.length_take]; omega
        have HTL2 : Hid (([] ++ es.take es.length).length + [x].length ≤ 4000000) := by rw [Hid, List.nil_append, List.length_take, List.length_singleton]; omega
        have HTL3 : Hid ((([] ++ es.take es.length) ++ [x]).length + (es.drop es.length).length ≤ 4000000) := by rw [Hid, List.length_append, List.nil_append, List.length_take, List.length_drop, List.length_singleton]; omega
        have HDL : Hid (0 = (es.drop es.length).length) := by rw [Hid, List.length_drop]; omega
        have HS9 : Hid (∀ W : World, Below w2.heap.size w2 W → RE W w1.heap.size (some ⟨b, off + es.length * 2, none⟩) (es.drop es.length)) := fun W hW => (HR2.out.below (hW.mono HS2.out)).drop es.length
        have tk1 : Hid (1 = 1) := rfl
        have tk2 : Hid (1 = 1) := rfl
        have tk3 : Hid (1 = 1) := rfl
        have e7 : (0 : Int) ≤ (es.length : Int) := by omega
        have e8 : es.length ≤ c := by omega
        have x30 := HX3.out.c0
        have x31 := HX3.out.c1
        clear x0 x1
        go_wp2_with (first
          | (clear tk1; at_builtin; refine wpList_append_re (w2.alloc (.cells #[] 59)) rfl _ _ _ rfl i0 Try.underlying38 hi0 hz0 hz1 hz2 w2.heap.size (some ⟨w2.heap.size, 0, none⟩) 0 0 [] rfl rfl N8.out w1.heap.size (some ⟨b, off, none⟩) es.length c (es.take es.length) rfl HTK.out HR3.out.take HTL.out BA.out.size ?_; intro A9 n9 c9 w9 hn9 hap9; have HN9 := hid hn9; have hb9 := hap9.below N8.out rfl BA.out.size; have HAP9 := hid hap9; have HB9 := hid (BA.out.trans hb9); have HX9 := hid (HX2.out.below HB9.out); have x90 := HX9.out.c0; have x91 := HX9.out.c1; have BA9 := hid ((Below.refl w9.heap.size w9).alloc (Nat.le_refl _) (.cells #[.int .i64 x.1, .int .i64 x.2] 59)); clear hn9 hap9 hb9)
          | (clear tk2; at_builtin; refine wpList_append_re (w9.alloc (.cells #[.int .i64 x.1, .int .i64 x.2] 59)) rfl _ _ _ rfl i0 Try.underlying38 hi0 hz0 hz1 hz2 w2.heap.size A9 n9 c9 ([] ++ es.take es.length) rfl HN9.out (HAP9.out.own.below BA9.out) (w9.heap.size + 1) (some ⟨w9.heap.size, 0, none⟩) 1 1 [x] rfl rfl (RE.new w9 x 59) HTL2.out (Nat.le_trans HB9.out.size BA9.out.size) ?_; intro A10 n10 c10 w10 hn10 hap10; have HN10 := hid hn10; have hb10 := hap10.below (HAP9.out.own.below BA9.out) HN9.out (Nat.le_trans HB9.out.size BA9.out.size); have HAP10 := hid hap10; have HB10 := hid ((HB9.out.trans (BA9.out.mono HB9.out.size)).trans hb10); clear hn10 hap10 hb10)
          | (clear tk3; at_builtin; refine wpList_append_re w10 rfl _ _ _ rfl i0 Try.underlying38 hi0 hz0 hz1 hz2 w2.heap.size A10 n10 c10 (([] ++ es.take es.length) ++ [x]) rfl HN10.out HAP10.out.own 0 _ _ _ (es.drop es.length) rfl HDL.out (.inl (by simp)) HTL3.out HB10.out.size ?_; intro A11 n11 c11 w11 hn11 hap11; have HN11 := hid hn11; have hb11 := hap11.below HAP10.out.own HN10.out HB10.out.size; have HAP11 := hid hap11; have HB11 := hid (HB10.out.trans hb11); clear hn11 hap11 hb11))
        go_ret
        rw [← HI3.out]
        obtain ⟨g11, rfl⟩ := ownE_some HAP11.out.own (by rw [List.length_append, List.length_append, List.length_singleton]; omega)
        exact ⟨g11, 0, c11, by rw [HN11.out]; rfl, HAP11.out.own.re, HAP11.out.own.cap.1, HAP11.out.own.cap.2, HB2.out.trans (HB11.out.mono HB2.out.size)⟩
end Go.Proofs.Ytepgcflkgicpiaa
