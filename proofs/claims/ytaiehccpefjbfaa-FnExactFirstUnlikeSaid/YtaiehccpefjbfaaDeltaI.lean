/-
  The program's way to put changes over changes; what makes one map of another one.
-/
import Derived.Test.YtaiehccpefjbfaaDeltaD
import Derived.Scope
import Derived.ScopeJumps
import Derived.WalkMore
import Derived.Deep.RegionLaw
namespace Go.Proofs.Ytaiehccpefjbfaa
open Go.RowKit

def lenV : Value → Nat | .slice _ n _ => n | _ => 0
/-- A part of changes that are read: where it lies, nil let in. -/
def Part (w : World) (B : Nat) (A : Option Addr) (n c : Nat) (xs : CS) : Prop := n = xs.length ∧ RC w B A xs ∧ VS A c n
theorem Part.below {w w' : World} {B : Nat} {A : Option Addr} {n c : Nat} {xs : CS} (h : Part w B A n c xs) (hb : Below B w w') : Part w' B A n c xs := ⟨h.1, h.2.1.below hb, h.2.2⟩
/-- What holds between two rounds. -/
structure Over (w : World) (a b : CS) (wr : World) (A1 : Option Addr) (n1 c1 : Nat) (K1 : Option Addr) (m1 d1 : Nat) (L1 : Option Addr) (l1 e1 : Nat) (xs ys acc : CS) : Prop where
  x : Part wr w.heap.size A1 n1 c1 xs
  y : Part wr w.heap.size K1 m1 d1 ys
  n : l1 = acc.length
  own : OwnC wr w.heap.size L1 e1 acc
  all : acc ++ ovl xs ys = ovl a b
  small : acc.length + xs.length + ys.length ≤ 2000
  keep : Below w.heap.size w wr
def OverAt (w : World) (a b : CS) (x y z : Value) (wr : World) : Prop := ∃ (xs ys acc : CS) (A1 K1 L1 : Option Addr) (n1 c1 m1 d1 l1 e1 : Nat), x = .slice A1 n1 c1 ∧ y = .slice K1 m1 d1 ∧ z = .slice L1 l1 e1 ∧ Over w a b wr A1 n1 c1 K1 m1 d1 L1 l1 e1 xs ys acc
theorem Over.at_ {w : World} {a b : CS} {wr : World} {A1 : Option Addr} {n1 c1 : Nat} {K1 : Option Addr} {m1 d1 : Nat} {L1 : Option Addr} {l1 e1 : Nat} {xs ys acc : CS} (h : Over w a b wr A1 n1 c1 K1 m1 d1 L1 l1 e1 xs ys acc) : OverAt w a b (.slice A1 n1 c1) (.slice K1 m1 d1) (.slice L1 l1 e1) wr :=
  ⟨_, _, _, _, _, _, _, _, _, _, _, _, rfl, rfl, rfl, h⟩
/-- The first one of a part. -/
theorem Part.head {w : World} {B : Nat} {A : Option Addr} {n c : Nat} {xs : CS} (h : Part w B A n c xs) (h0 : n ≠ 0) : ∃ x r b off, xs = x :: r ∧ A = some ⟨b, off, none⟩ ∧ b < B ∧ n = r.length + 1 ∧ n ≤ c ∧ c ≤ maxLen ∧
    w.cell? ⟨b, off, none⟩ = some (.string x.1) ∧ w.cell? ⟨b, off + 1, none⟩ = some (.string x.2.1) ∧ w.cell? ⟨b, off + 2, none⟩ = some (.bool x.2.2) ∧
    Part w B (some ⟨b, off + 3, none⟩) (n - 1) (c - 1) r ∧ (c = 1 → Part w B (some ⟨b, off, none⟩) (n - 1) (c - 1) r) := by
  obtain ⟨hn, hr, hv⟩ := h
  cases xs with
  | nil => exact absurd hn (by simpa using h0)
  | cons x r =>
    rcases hr with hr | ⟨b, off, rfl, hb, hc⟩
    · cases hr
    · have h1 := hc 0 x rfl
      simp only [Nat.zero_mul, Nat.add_zero] at h1
      have hd : RC w B (some ⟨b, off + 3, none⟩) r := by
        have := RC.drop (w := w) (B := B) (b := b) (off := off) (hs := x :: r) (.inr ⟨b, off, rfl, hb, hc⟩) 1
        simpa using this
      rcases hv with ⟨hv, _⟩ | ⟨g, o, hv, h3, h4⟩
      · cases hv
      · have hl : n = r.length + 1 := by simpa using hn
        refine ⟨x, r, b, off, rfl, rfl, hb, hl, h3, h4, h1.1, h1.2.1, h1.2.2, ⟨by omega, hd, .inr ⟨b, off + 3, rfl, by omega, by omega⟩⟩, fun h5 => ⟨by omega, .inl (List.eq_nil_of_length_eq_zero (by omega)), .inr ⟨b, off, rfl, by omega, by omega⟩⟩⟩
theorem RSC.three (w : World) (B : Nat) (T' : TypeId) (A1 A2 A3 : Option Addr) (c1 c2 c3 n1 n2 n3 : Nat) (l1 l2 l3 : CS) (h1 : RC w B A1 l1) (h2 : RC w B A2 l2) (h3 : RC w B A3 l3) (e1 : n1 = l1.length) (e2 : n2 = l2.length) (e3 : n3 = l3.length) (hB : B ≤ w.heap.size) :
    RSC (w.alloc (.cells #[.slice A1 n1 c1, .slice A2 n2 c2, .slice A3 n3 c3] T')) (w.heap.size + 1) (some ⟨w.heap.size, 0, none⟩) [⟨A1, c1, l1⟩, ⟨A2, c2, l2⟩, ⟨A3, c3, l3⟩] := by
  subst e1 e2 e3
  have b1 : Below w.heap.size w (w.alloc (.cells #[.slice A1 l1.length c1, .slice A2 l2.length c2, .slice A3 l3.length c3] T')) := (Below.refl _ _).alloc (Nat.le_refl _) _
  have hb := heap_alloc_new w (.cells #[.slice A1 l1.length c1, .slice A2 l2.length c2, .slice A3 l3.length c3] T')
  refine .inr ⟨w.heap.size, 0, rfl, by omega, fun i s hs => ?_⟩
  match i, hs with
  | 0, hs =>
    simp only [List.getElem?_cons_zero, Option.some.injEq] at hs
    subst hs
    refine ⟨by rw [cell_of_row _ _ _ _ _ _ hb]; rfl, ((h1.more hB).below b1).more (by omega)⟩
  | 1, hs =>
    simp only [List.getElem?_cons_succ, List.getElem?_cons_zero, Option.some.injEq] at hs
    subst hs
    refine ⟨by rw [cell_of_row _ _ _ _ _ _ hb]; rfl, ((h2.more hB).below b1).more (by omega)⟩
  | 2, hs =>
    simp only [List.getElem?_cons_succ, List.getElem?_cons_zero, Option.some.injEq] at hs
    subst hs
    refine ⟨by rw [cell_of_row _ _ _ _ _ _ hb]; rfl, ((h3.more hB).below b1).more (by omega)⟩
  | i + 3, hs => simp at hs
theorem own_part {w : World} {B c : Nat} {A : Option Addr} {hs : CS} (h : OwnC w B A c hs) : VS A c hs.length := by
  rcases h.2 with ⟨hv, hn⟩ | ⟨g, cap, cur, hv, _, _, h1, h2, _⟩
  · injection hv with e1 e2 e3
    exact .inl ⟨e1, e3, hn⟩
  · injection hv with e1 e2 e3
    exact .inr ⟨g, 0, e1, by omega, by omega⟩
theorem eqN_true {n : Nat} (h : n = 0) : ((n : Int) == 0) = true := by subst h; rfl
theorem eqN_false {n : Nat} (h : n ≠ 0) : ((n : Int) == 0) = false := by rw [beq_eq_false_iff_ne]; omega

set_option maxHeartbeats 8000000 in
set_option maxRecDepth 100000 in
theorem impl_overlaid (A : Option Addr) (c : Nat) (a : CS) (K : Option Addr) (d : Nat) (b : CS) (w : World) (ha : Part w w.heap.size A a.length c a) (hb : Part w w.heap.size K b.length d b) (hla : a.length ≤ 1000) (hlb : b.length ≤ 1000) :
    Calls Try.prog 136 #[.slice A a.length c, .slice K b.length d] w (MadeC w w.heap.size (ovl a b)) := by
  obtain ⟨i0, hi0, hz0, hz1, hz2⟩ := info_parts chgInfo
  have HA := hid ha
  have HB := hid hb
  clear ha hb
  go_enter Try.func136, Try.ntmps136
  go_wp2_with fail
  refine wp_scope_jumps 0 (fun a' w' => ∃ (xs ys acc : CS) (A1 K1 L1 : Option Addr) (n1 c1 m1 d1 l1 e1 : Nat) (u2 u3 u4 u6 u7 u8 u9 u10 u11 u12 u13 u14 u15 u16 u17 u18 u19 u20 u21 u22 u23 u24 u25 u26 u27 u28 u29 u30 u31 u32 u33 u34 u35 u36 u37 u38 u39 u40 u41 u42 u43 u44 u45 u46 u47 u48 u49 u50 u51 u52 u53 u54 u55 u56 u57 : Value), a' = { tmps := #[.slice A1 n1 c1, .slice K1 m1 d1, u2, u3, u4, .slice L1 l1 e1, u6, u7, u8, u9, u10, u11, u12, u13, u14, u15, u16, u17, u18, u19, u20, u21, u22, u23, u24, u25, u26, u27, u28, u29, u30, u31, u32, u33, u34, u35, u36, u37, u38, u39, u40, u41, u42, u43, u44, u45, u46, u47, u48, u49, u50, u51, u52, u53, u54, u55, u56, u57], defers := [] } ∧ Over w a b w' A1 n1 c1 K1 m1 d1 L1 l1 e1 xs ys acc ∧ Hid (acc ++ (xs ++ ys) = ovl a b)) (fun _ _ => 0) rfl ?_ ?_
  · go_wp2_with fail
    go_step3
    go_wp2_with fail
    go_loopw [0, 1, 5] (fun x y z wr => OverAt w a b x y z wr) (fun x y _ _ => lenV x + lenV y)
    case atStart => exact Over.at_ (xs := a) (ys := b) (acc := []) ⟨HA.out, HB.out, rfl, OwnC.nil_ _ _, rfl, by simp; omega, Below.refl _ _⟩
    case round =>
      obtain ⟨xs, ys, acc, A1, K1, L1, n1, c1, m1, d1, l1, e1, rfl, rfl, rfl, hov⟩ := hrel
      have HOV := hid hov
      clear hov
      by_cases hx : n1 = 0
      · have g1 := eqN_true hx
        have HX : Hid (acc ++ (xs ++ ys) = ovl a b) := by
          have : xs = [] := List.eq_nil_of_length_eq_zero (HOV.out.x.1.symm.trans hx)
          rw [Hid, this, List.nil_append, ← HOV.out.all, this, ovl_nil]
        go_wp2_with fail
        go_step3
        refine ⟨rfl, ⟨xs, ys, acc, A1, K1, L1, n1, c1, m1, d1, l1, e1, _, _, _, _, _, _, _, _, _, _, _, _, _, _, _, _, _, _, _, _, _, _, _, _, _, _, _, _, _, _, _, _, _, _, _, _, _, _, _, _, _, _, _, _, _, _, _, _, _, _, _, _, _, _, _, rfl, HOV.out, HX.out⟩⟩
      · have g1 := eqN_false hx
        by_cases hy : m1 = 0
        · have g2 := eqN_true hy
          have HX : Hid (acc ++ (xs ++ ys) = ovl a b) := by
            have : ys = [] := List.eq_nil_of_length_eq_zero (HOV.out.y.1.symm.trans hy)
            rw [Hid, this, List.append_nil, ← HOV.out.all, this, ovl_nil']
          go_wp2_with fail
          go_step3
          refine ⟨rfl, ⟨xs, ys, acc, A1, K1, L1, n1, c1, m1, d1, l1, e1, _, _, _, _, _, _, _, _, _, _, _, _, _, _, _, _, _, _, _, _, _, _, _, _, _, _, _, _, _, _, _, _, _, _, _, _, _, _, _, _, _, _, _, _, _, _, _, _, _, _, _, _, _, _, _, rfl, HOV.out, HX.out⟩⟩
        · have g2 := eqN_false hy
          obtain ⟨x, xr, bx, ox, rfl, rfl, hbx, hnx, hcx, hmx, x0, x1, x2, px, px1⟩ := HOV.out.x.head hx
          obtain ⟨y, yr, by_, oy, rfl, rfl, hby, hny, hcy, hmy, y0, y1, y2, py, py1⟩ := HOV.out.y.head hy
          have PX := hid px
          have PX1 := hid px1
          have PY := hid py
          have PY1 := hid py1
          have HN := hid HOV.out.n
          have HOW := hid HOV.out.own
          have HSM := hid HOV.out.small
          have HKP := hid HOV.out.keep
          have HALL := hid HOV.out.all
          have hsz := HOV.out.keep.size
          have HLX := hid hnx
          have HLY := hid hny
          clear px px1 py py1 hnx hny
          unfold maxLen at hmx hmy
          have k1 : (0 : Int) < (n1 : Int) := by omega
          have k2 : (0 : Int) < (m1 : Int) := by omega
          have k3 : 0 < n1 := by omega
          have k4 : 0 < m1 := by omega
          have k5 : (1 : Int) ≤ (n1 : Int) := by omega
          have k6 : (1 : Int) ≤ (m1 : Int) := by omega
          have k7 : (n1 : Int) ≤ (c1 : Int) := by omega
          have k8 : (m1 : Int) ≤ (d1 : Int) := by omega
          have k9 : (1 : Int) ≤ (c1 : Int) := by omega
          have k10 : (1 : Int) ≤ (d1 : Int) := by omega
          have k11 : 1 ≤ n1 := by omega
          have k12 : 1 ≤ m1 := by omega
          have k13 : 1 ≤ c1 := by omega
          have k14 : 1 ≤ d1 := by omega
          rcases ltS_total x.1 y.1 with hxy | hxy | hxy
          · have h1 : Op.bytesLess x.1.toList y.1.toList = true := hxy
            have HNX : Hid (acc ++ [x] ++ ovl xr (y :: yr) = ovl a b) := by rw [Hid, ← HALL.out, ovl_lt hxy]; simp
            go_wp2_with fail
            go_quiet (fail)
            go_wp2_with fail
            by_cases hc1 : c1 = 1
            · go_region_law (refine step_append_rc _ (by rfl) _ _ _ (by rfl) i0 Try.underlying123 hi0 hz0 hz1 hz2 w.heap.size L1 l1 e1 acc (by rfl) HN.out (HOW.out.below (by first | exact bdA _ _ _ | exact bdA2 _ _ _ _)) (wr.heap.size + 1) (some ⟨wr.heap.size, 0, none⟩) 1 1 [x] (by rfl) rfl (RC.new _ x _) (by have := HSM.out; simp at this ⊢; omega) (by simp; omega) ?_; intro A' n' c' w7 hn7 hap7; have HN7 := hid hn7; have HO7 := hid hap7.own; have HB7 := hid (show Below w.heap.size wr w7 from Below.trans (by first | exact (bdA _ _ _).mono hsz | exact (bdA2 _ _ _ _).mono hsz) (hap7.below (HOW.out.below (by first | exact bdA _ _ _ | exact bdA2 _ _ _ _)) HN.out (by simp; omega))); clear hn7 hap7)
              all_goals
                go_wp2_with fail
                go_simp
                exact ⟨⟨_, _, _, Over.at_ (xs := xr) (ys := y :: yr) (acc := acc ++ [x]) ⟨(by have := PX1.out hc1; rw [hc1] at this; exact this.below HB7.out), (HOV.out.y.below HB7.out), HN7.out, HO7.out, HNX.out, (by have := HSM.out; simp at this ⊢; omega), HKP.out.trans HB7.out⟩, rfl, rfl, rfl⟩, by simp only [lenV]; omega⟩
            · go_region_law (refine step_append_rc _ (by rfl) _ _ _ (by rfl) i0 Try.underlying123 hi0 hz0 hz1 hz2 w.heap.size L1 l1 e1 acc (by rfl) HN.out (HOW.out.below (by first | exact bdA _ _ _ | exact bdA2 _ _ _ _)) (wr.heap.size + 1) (some ⟨wr.heap.size, 0, none⟩) 1 1 [x] (by rfl) rfl (RC.new _ x _) (by have := HSM.out; simp at this ⊢; omega) (by simp; omega) ?_; intro A' n' c' w7 hn7 hap7; have HN7 := hid hn7; have HO7 := hid hap7.own; have HB7 := hid (show Below w.heap.size wr w7 from Below.trans (by first | exact (bdA _ _ _).mono hsz | exact (bdA2 _ _ _ _).mono hsz) (hap7.below (HOW.out.below (by first | exact bdA _ _ _ | exact bdA2 _ _ _ _)) HN.out (by simp; omega))); clear hn7 hap7)
              all_goals
                go_wp2_with fail
                go_simp
                exact ⟨⟨_, _, _, Over.at_ (xs := xr) (ys := y :: yr) (acc := acc ++ [x]) ⟨(PX.out.below HB7.out), (HOV.out.y.below HB7.out), HN7.out, HO7.out, HNX.out, (by have := HSM.out; simp at this ⊢; omega), HKP.out.trans HB7.out⟩, rfl, rfl, rfl⟩, by simp only [lenV]; omega⟩
          · have h1 : Op.bytesLess x.1.toList y.1.toList = false := by rw [hxy]; exact bytesLess_irrefl _
            have h2 := eqS_true hxy
            have HNX : Hid (acc ++ [y] ++ ovl xr yr = ovl a b) := by rw [Hid, ← HALL.out, ovl_eq hxy]; simp
            clear hxy
            by_cases hc1 : c1 = 1
            · by_cases hd1 : d1 = 1
              · go_wp2_with fail
                go_quiet (fail)
                go_wp2_with fail
                go_quiet (fail)
                go_wp2_with fail
                go_region_law (refine step_append_rc _ (by rfl) _ _ _ (by rfl) i0 Try.underlying123 hi0 hz0 hz1 hz2 w.heap.size L1 l1 e1 acc (by rfl) HN.out (HOW.out.below (by first | exact bdA _ _ _ | exact bdA2 _ _ _ _)) (wr.heap.size + 1) (some ⟨wr.heap.size, 0, none⟩) 1 1 [y] (by rfl) rfl (RC.new _ y _) (by have := HSM.out; simp at this ⊢; omega) (by simp; omega) ?_; intro A' n' c' w7 hn7 hap7; have HN7 := hid hn7; have HO7 := hid hap7.own; have HB7 := hid (show Below w.heap.size wr w7 from Below.trans (by first | exact (bdA _ _ _).mono hsz | exact (bdA2 _ _ _ _).mono hsz) (hap7.below (HOW.out.below (by first | exact bdA _ _ _ | exact bdA2 _ _ _ _)) HN.out (by simp; omega))); clear hn7 hap7)
                all_goals
                  go_wp2_with fail
                  go_simp
                  exact ⟨⟨_, _, _, Over.at_ (xs := xr) (ys := yr) (acc := acc ++ [y]) ⟨(by have := PX1.out hc1; rw [hc1] at this; exact this.below HB7.out), (by have := PY1.out hd1; rw [hd1] at this; exact this.below HB7.out), HN7.out, HO7.out, HNX.out, (by have := HSM.out; simp at this ⊢; omega), HKP.out.trans HB7.out⟩, rfl, rfl, rfl⟩, by simp only [lenV]; omega⟩
              · go_wp2_with fail
                go_quiet (fail)
                go_wp2_with fail
                go_quiet (fail)
                go_wp2_with fail
                go_region_law (refine step_append_rc _ (by rfl) _ _ _ (by rfl) i0 Try.underlying123 hi0 hz0 hz1 hz2 w.heap.size L1 l1 e1 acc (by rfl) HN.out (HOW.out.below (by first | exact bdA _ _ _ | exact bdA2 _ _ _ _)) (wr.heap.size + 1) (some ⟨wr.heap.size, 0, none⟩) 1 1 [y] (by rfl) rfl (RC.new _ y _) (by have := HSM.out; simp at this ⊢; omega) (by simp; omega) ?_; intro A' n' c' w7 hn7 hap7; have HN7 := hid hn7; have HO7 := hid hap7.own; have HB7 := hid (show Below w.heap.size wr w7 from Below.trans (by first | exact (bdA _ _ _).mono hsz | exact (bdA2 _ _ _ _).mono hsz) (hap7.below (HOW.out.below (by first | exact bdA _ _ _ | exact bdA2 _ _ _ _)) HN.out (by simp; omega))); clear hn7 hap7)
                all_goals
                  go_wp2_with fail
                  go_simp
                  exact ⟨⟨_, _, _, Over.at_ (xs := xr) (ys := yr) (acc := acc ++ [y]) ⟨(by have := PX1.out hc1; rw [hc1] at this; exact this.below HB7.out), (PY.out.below HB7.out), HN7.out, HO7.out, HNX.out, (by have := HSM.out; simp at this ⊢; omega), HKP.out.trans HB7.out⟩, rfl, rfl, rfl⟩, by simp only [lenV]; omega⟩
            · by_cases hd1 : d1 = 1
              · go_wp2_with fail
                go_quiet (fail)
                go_wp2_with fail
                go_quiet (fail)
                go_wp2_with fail
                go_region_law (refine step_append_rc _ (by rfl) _ _ _ (by rfl) i0 Try.underlying123 hi0 hz0 hz1 hz2 w.heap.size L1 l1 e1 acc (by rfl) HN.out (HOW.out.below (by first | exact bdA _ _ _ | exact bdA2 _ _ _ _)) (wr.heap.size + 1) (some ⟨wr.heap.size, 0, none⟩) 1 1 [y] (by rfl) rfl (RC.new _ y _) (by have := HSM.out; simp at this ⊢; omega) (by simp; omega) ?_; intro A' n' c' w7 hn7 hap7; have HN7 := hid hn7; have HO7 := hid hap7.own; have HB7 := hid (show Below w.heap.size wr w7 from Below.trans (by first | exact (bdA _ _ _).mono hsz | exact (bdA2 _ _ _ _).mono hsz) (hap7.below (HOW.out.below (by first | exact bdA _ _ _ | exact bdA2 _ _ _ _)) HN.out (by simp; omega))); clear hn7 hap7)
                all_goals
                  go_wp2_with fail
                  go_simp
                  exact ⟨⟨_, _, _, Over.at_ (xs := xr) (ys := yr) (acc := acc ++ [y]) ⟨(PX.out.below HB7.out), (by have := PY1.out hd1; rw [hd1] at this; exact this.below HB7.out), HN7.out, HO7.out, HNX.out, (by have := HSM.out; simp at this ⊢; omega), HKP.out.trans HB7.out⟩, rfl, rfl, rfl⟩, by simp only [lenV]; omega⟩
              · go_wp2_with fail
                go_quiet (fail)
                go_wp2_with fail
                go_quiet (fail)
                go_wp2_with fail
                go_region_law (refine step_append_rc _ (by rfl) _ _ _ (by rfl) i0 Try.underlying123 hi0 hz0 hz1 hz2 w.heap.size L1 l1 e1 acc (by rfl) HN.out (HOW.out.below (by first | exact bdA _ _ _ | exact bdA2 _ _ _ _)) (wr.heap.size + 1) (some ⟨wr.heap.size, 0, none⟩) 1 1 [y] (by rfl) rfl (RC.new _ y _) (by have := HSM.out; simp at this ⊢; omega) (by simp; omega) ?_; intro A' n' c' w7 hn7 hap7; have HN7 := hid hn7; have HO7 := hid hap7.own; have HB7 := hid (show Below w.heap.size wr w7 from Below.trans (by first | exact (bdA _ _ _).mono hsz | exact (bdA2 _ _ _ _).mono hsz) (hap7.below (HOW.out.below (by first | exact bdA _ _ _ | exact bdA2 _ _ _ _)) HN.out (by simp; omega))); clear hn7 hap7)
                all_goals
                  go_wp2_with fail
                  go_simp
                  exact ⟨⟨_, _, _, Over.at_ (xs := xr) (ys := yr) (acc := acc ++ [y]) ⟨(PX.out.below HB7.out), (PY.out.below HB7.out), HN7.out, HO7.out, HNX.out, (by have := HSM.out; simp at this ⊢; omega), HKP.out.trans HB7.out⟩, rfl, rfl, rfl⟩, by simp only [lenV]; omega⟩
          · have h1 : Op.bytesLess x.1.toList y.1.toList = false := ltS_asymm hxy
            have h2 := eqS_false (ltS_ne hxy).symm
            have HNX : Hid (acc ++ [y] ++ ovl (x :: xr) yr = ovl a b) := by rw [Hid, ← HALL.out, ovl_gt (ltS_asymm hxy) (ltS_ne hxy).symm]; simp
            clear hxy
            by_cases hd1 : d1 = 1
            · go_wp2_with fail
              go_quiet (fail)
              go_wp2_with fail
              go_quiet (fail)
              go_wp2_with fail
              go_region_law (refine step_append_rc _ (by rfl) _ _ _ (by rfl) i0 Try.underlying123 hi0 hz0 hz1 hz2 w.heap.size L1 l1 e1 acc (by rfl) HN.out (HOW.out.below (by first | exact bdA _ _ _ | exact bdA2 _ _ _ _)) (wr.heap.size + 1) (some ⟨wr.heap.size, 0, none⟩) 1 1 [y] (by rfl) rfl (RC.new _ y _) (by have := HSM.out; simp at this ⊢; omega) (by simp; omega) ?_; intro A' n' c' w7 hn7 hap7; have HN7 := hid hn7; have HO7 := hid hap7.own; have HB7 := hid (show Below w.heap.size wr w7 from Below.trans (by first | exact (bdA _ _ _).mono hsz | exact (bdA2 _ _ _ _).mono hsz) (hap7.below (HOW.out.below (by first | exact bdA _ _ _ | exact bdA2 _ _ _ _)) HN.out (by simp; omega))); clear hn7 hap7)
              all_goals
                go_wp2_with fail
                go_simp
                exact ⟨⟨_, _, _, Over.at_ (xs := x :: xr) (ys := yr) (acc := acc ++ [y]) ⟨(HOV.out.x.below HB7.out), (by have := PY1.out hd1; rw [hd1] at this; exact this.below HB7.out), HN7.out, HO7.out, HNX.out, (by have := HSM.out; simp at this ⊢; omega), HKP.out.trans HB7.out⟩, rfl, rfl, rfl⟩, by simp only [lenV]; omega⟩
            · go_wp2_with fail
              go_quiet (fail)
              go_wp2_with fail
              go_quiet (fail)
              go_wp2_with fail
              go_region_law (refine step_append_rc _ (by rfl) _ _ _ (by rfl) i0 Try.underlying123 hi0 hz0 hz1 hz2 w.heap.size L1 l1 e1 acc (by rfl) HN.out (HOW.out.below (by first | exact bdA _ _ _ | exact bdA2 _ _ _ _)) (wr.heap.size + 1) (some ⟨wr.heap.size, 0, none⟩) 1 1 [y] (by rfl) rfl (RC.new _ y _) (by have := HSM.out; simp at this ⊢; omega) (by simp; omega) ?_; intro A' n' c' w7 hn7 hap7; have HN7 := hid hn7; have HO7 := hid hap7.own; have HB7 := hid (show Below w.heap.size wr w7 from Below.trans (by first | exact (bdA _ _ _).mono hsz | exact (bdA2 _ _ _ _).mono hsz) (hap7.below (HOW.out.below (by first | exact bdA _ _ _ | exact bdA2 _ _ _ _)) HN.out (by simp; omega))); clear hn7 hap7)
              all_goals
                go_wp2_with fail
                go_simp
                exact ⟨⟨_, _, _, Over.at_ (xs := x :: xr) (ys := yr) (acc := acc ++ [y]) ⟨(HOV.out.x.below HB7.out), (PY.out.below HB7.out), HN7.out, HO7.out, HNX.out, (by have := HSM.out; simp at this ⊢; omega), HKP.out.trans HB7.out⟩, rfl, rfl, rfl⟩, by simp only [lenV]; omega⟩
  · rintro a' w' ⟨xs, ys, acc, A1, K1, L1, n1, c1, m1, d1, l1, e1, u2, u3, u4, u6, u7, u8, u9, u10, u11, u12, u13, u14, u15, u16, u17, u18, u19, u20, u21, u22, u23, u24, u25, u26, u27, u28, u29, u30, u31, u32, u33, u34, u35, u36, u37, u38, u39, u40, u41, u42, u43, u44, u45, u46, u47, u48, u49, u50, u51, u52, u53, u54, u55, u56, u57, rfl, hov, hall⟩
    have HOV := hid hov
    have HL := hid hall
    have h3 := RSC.three w' w'.heap.size 123 L1 A1 K1 e1 c1 d1 l1 n1 m1 acc xs ys (OwnC.rh hov.own) (RC.more hov.x.2.1 hov.keep.size) (RC.more hov.y.2.1 hov.keep.size) hov.n hov.x.1 hov.y.1 (Nat.le_refl _)
    have H3 := hid h3
    have HSM := hid hov.small
    have HKP := hid hov.keep
    have HBA := hid ((Below.refl w'.heap.size w').alloc (Nat.le_refl _) (.cells #[.slice L1 l1 e1, .slice A1 n1 c1, .slice K1 m1 d1] 123))
    clear h3 hov hall
    have HN : Hid (totC [⟨L1, e1, acc⟩, ⟨A1, c1, xs⟩, ⟨K1, d1, ys⟩] ≤ 100000) := by
      have := HSM.out
      simp [Hid, totC]
      omega
    have HE : Hid (List.flatMap SC.ps [⟨L1, e1, acc⟩, ⟨A1, c1, xs⟩, ⟨K1, d1, ys⟩] = ovl a b) := by
      rw [Hid, ← HL.out]
      simp
    go_wp2_with fail
    refine (concatC_any _ 3 [⟨L1, e1, acc⟩, ⟨A1, c1, xs⟩, ⟨K1, d1, ys⟩] _ (by rw [World.size_alloc]; exact H3.out) HN.out (by simp)).mono ?_
    rintro e w5 ⟨A5, c5, rfl, ho5, hb5⟩
    have HO5 := hid ho5
    have HB5 := hid (HBA.out.trans (hb5.mono HBA.out.size))
    clear ho5 hb5
    rw [HE.out] at HO5 ⊢
    go_wp2_with fail
    simp only [Exit.jump]
    go_ret
    exact ⟨A5, c5, rfl, HO5.out.mono (Nat.le_trans HKP.out.size HBA.out.size), HKP.out.trans (HB5.out.mono HKP.out.size)⟩
end Go.Proofs.Ytaiehccpefjbfaa
