import Derived.Test.YtcjbjfhndjpmcaaPk23
import Derived.Deep.RegionHeld3
import Derived.Deep.CutRange
import Derived.Lib.QuietBelow
/-
  Lists cut in two: splitAt.
-/
namespace Go.Proofs.Ytcjbjfhndjpmcaa
open Go.RowKit

/-- Two rows of pairs of the call's own, apart. -/
def TwoP (w : World) (a b : PS) (e : Ending) (w' : World) : Prop := ∃ A1 m1 c1 A2 m2 c2, e = .returned (.tuple #[.slice A1 m1 c1, .slice A2 m2 c2]) ∧ Hid (m1 = a.length) ∧ Hid (m2 = b.length) ∧ OwnP w' w.heap.size A1 c1 a ∧ OwnP w' w.heap.size A2 c2 b ∧
  (∀ k, Value.ownBlock (.slice A1 a.length c1) = some k → Value.ownBlock (.slice A2 b.length c2) ≠ some k) ∧ Below w.heap.size w w'

theorem twoP_end {w w1 w2 : World} {A1 A2 : Option Addr} {n1 n2 c1 c2 : Nat} {a b : PS} (h1 : OwnP w1 w.heap.size A1 c1 a) (hb1 : Below w.heap.size w w1) (h2 : OwnP w2 w1.heap.size A2 c2 b) (hb2 : Below w1.heap.size w1 w2) (e1 : n1 = a.length) (e2 : n2 = b.length) :
    TwoP w a b (.returned (.tuple #[.slice A1 n1 c1, .slice A2 n2 c2])) w2 := by
  subst e1 e2
  exact ⟨A1, _, c1, A2, _, c2, rfl, rfl, rfl, h1.below hb2, h2.mono' hb1.size, fun k hk hk2 => by have := (h1.size k hk).2; have := (h2.size k hk2).1; omega, hb1.trans (hb2.mono hb1.size)⟩
theorem cloneTake {A : Option Addr} {c : Nat} {ps : PS} {n : Nat} (hn : n ≤ ps.length) (hl : ps.length ≤ 900) (hv : VS A c ps.length) (W : World) (hr : RP W W.heap.size A ps) :
    Calls Try.prog 111 #[.slice A n c] W (Made W W.heap.size (ps.take n)) := by
  have e : (ps.take n).length = n := by rw [List.length_take]; omega
  have h := clone_all A c (ps.take n) W (hr.take n) (by
    rw [e]
    rcases hv with ⟨h1, h2, h3⟩ | ⟨g, off, h1, h2, h3⟩
    · exact .inl ⟨h1, h2, by omega⟩
    · exact .inr ⟨g, off, h1, by omega, h3⟩) (by omega)
  rw [e] at h
  exact h
theorem cloneDrop {A : Option Addr} {g off m k : Nat} {ps : PS} {n : Nat} (hl : ps.length ≤ 900) (hm : m = ps.length - n) (hk : m ≤ k) (hk2 : k ≤ maxLen) (hA : A = some ⟨g, off + n * 2, none⟩ ∨ (m = 0 ∧ A = some ⟨g, off, none⟩)) (W : World) (hr : RP W W.heap.size (some ⟨g, off, none⟩) ps) :
    Calls Try.prog 111 #[.slice A m k] W (Made W W.heap.size (ps.drop n)) := by
  have e : (ps.drop n).length = m := by rw [List.length_drop, hm]
  rcases hA with rfl | ⟨h0, rfl⟩
  · have h := clone_all (some ⟨g, off + n * 2, none⟩) k (ps.drop n) W (hr.drop n) (by
      rw [e]
      exact .inr ⟨g, _, rfl, hk, hk2⟩) (by omega)
    rw [e] at h
    exact h
  · have h := clone_all (some ⟨g, off, none⟩) k (ps.drop n) W (.inl (List.eq_nil_of_length_eq_zero (by omega))) (by
      rw [e]
      exact .inr ⟨g, _, rfl, hk, hk2⟩) (by omega)
    rw [e] at h
    exact h

set_option maxHeartbeats 2000000 in
set_option maxRecDepth 100000 in
theorem splitP (A : Option Addr) (c n : Nat) (ps : PS) (w : World) (hr : RP w w.heap.size A ps) (hv : VS A c ps.length) (hl : ps.length ≤ 900) (hn : n ≤ ps.length) :
    Calls Try.prog 160 #[.slice A ps.length c, .int .i64 n] w (TwoP w (ps.take n) (ps.drop n)) := by
  have e1 : (n : Int) ≤ (ps.length : Int) := by omega
  have C1 := hid (cloneTake hn hl hv)
  have HR := hid hr
  have tk1 : Hid (1 = 1) := rfl
  have tk2 : Hid (1 = 1) := rfl
  rcases hv with ⟨rfl, rfl, h0⟩ | ⟨g, off, rfl, hnc, hc⟩
  · obtain rfl : ps = [] := List.eq_nil_of_length_eq_zero h0
    obtain rfl : n = 0 := by simpa using hn
    clear hr h0 hn hl
    have C2 := hid (fun (W : World) => clone_all none 0 [] W (.inl rfl) (.inl ⟨rfl, rfl, rfl⟩) (by simp))
    go_enter Try.func160, Try.ntmps160
    go_wp2_with fail
    go_region_held3 (fun _ => True) (trivial)
      (first
        | (clear tk1; go_at_call 111; refine (C2.out _).mono ?_; rintro e w1 ⟨A1, c1, rfl, ho, hb⟩; have HO1 := hid ho; have HB1 : Hid (Below w.heap.size w w1) := (by first | exact hb | exact (Below.refl w.heap.size w).drew.trans hb); clear ho hb)
        | (clear tk2; go_at_call 111; refine (C2.out _).mono ?_; rintro e w2 ⟨A2, c2, rfl, ho, hb⟩; have HO2 : Hid (OwnP w2 w1.heap.size A2 c2 []) := ho; have HB2 : Hid (Below w1.heap.size w1 w2) := (by first | exact hb | exact (Below.refl w1.heap.size w1).drew.trans hb); clear ho hb))
    go_wp2_with fail
    go_ret2
    exact twoP_end (a := []) (b := []) HO1.out HB1.out HO2.out HB2.out rfl rfl
  · unfold maxLen at hc
    have e2 : (n : Int) ≤ (c : Int) := by omega
    have e3 : n ≤ ps.length := hn
    by_cases hcn : c = n
    · subst hcn
      have hle : ps.length = c := by omega
      have C2 := hid (fun (W : World) => cloneDrop (A := some ⟨g, off, none⟩) (m := 0) (k := 0) (n := c) hl (by omega) (by omega) (by unfold maxLen; omega) (.inr ⟨by omega, rfl⟩) W (ps := ps) (g := g) (off := off))
      clear hle
      clear hr
      go_enter Try.func160, Try.ntmps160
      go_wp2_with fail
      go_region_held3 (fun _ => True) (trivial)
        (first
          | (clear tk1; go_at_call 111; refine (C1.out _ (by first | exact HR.out | exact HR.out.below (Below.refl _ _).drew)).mono ?_; rintro e w1 ⟨A1, c1, rfl, ho, hb⟩; have HO1 := hid ho; have HB1 : Hid (Below w.heap.size w w1) := (by first | exact hb | exact (Below.refl w.heap.size w).drew.trans hb); clear ho hb; have HR1 := hid ((HR.out.below HB1.out).more HB1.out.size))
          | (clear tk2; go_at_call 111; refine (C2.out _ (by first | exact HR1.out | exact HR1.out.below (Below.refl _ _).drew)).mono ?_; rintro e w2 ⟨A2, c2, rfl, ho, hb⟩; have HO2 := hid ho; have HB2 : Hid (Below w1.heap.size w1 w2) := (by first | exact hb | exact (Below.refl w1.heap.size w1).drew.trans hb); clear ho hb))
      go_wp2_with fail
      go_ret2
      exact twoP_end HO1.out HB1.out HO2.out HB2.out (by simp; try omega) (by simp; try omega)
    · have C2 := hid (fun (W : World) => cloneDrop (A := some ⟨g, off + n * 2, none⟩) (k := c - n) (n := n) hl rfl (by omega) (by unfold maxLen; omega) (.inl rfl) W (ps := ps) (g := g) (off := off))
      clear hr
      go_enter Try.func160, Try.ntmps160
      go_wp2_with fail
      go_region_held3 (fun _ => True) (trivial)
        (first
          | (clear tk1; go_at_call 111; refine (C1.out _ (by first | exact HR.out | exact HR.out.below (Below.refl _ _).drew)).mono ?_; rintro e w1 ⟨A1, c1, rfl, ho, hb⟩; have HO1 := hid ho; have HB1 : Hid (Below w.heap.size w w1) := (by first | exact hb | exact (Below.refl w.heap.size w).drew.trans hb); clear ho hb; have HR1 := hid ((HR.out.below HB1.out).more HB1.out.size))
          | (clear tk2; go_at_call 111; refine (C2.out _ (by first | exact HR1.out | exact HR1.out.below (Below.refl _ _).drew)).mono ?_; rintro e w2 ⟨A2, c2, rfl, ho, hb⟩; have HO2 := hid ho; have HB2 : Hid (Below w1.heap.size w1 w2) := (by first | exact hb | exact (Below.refl w1.heap.size w1).drew.trans hb); clear ho hb))
      go_wp2_with fail
      go_ret2
      exact twoP_end HO1.out HB1.out HO2.out HB2.out (by simp; try omega) (by simp; try omega)
/-! more than there is -/
set_option maxHeartbeats 2000000 in
set_option maxRecDepth 100000 in
theorem splitP_big (A : Option Addr) (c n : Nat) (ps : PS) (w : World) (hr : RP w w.heap.size A ps) (hv : VS A c ps.length) (hl : ps.length ≤ 900) (hn : ps.length < n) :
    Calls Try.prog 160 #[.slice A ps.length c, .int .i64 n] w (TwoP w (ps.take ps.length) (ps.drop ps.length)) := by
  have e1 : ¬ (n : Int) ≤ (ps.length : Int) := by omega
  have e9 : ¬ n ≤ ps.length := by omega
  have C1 := hid (cloneTake (n := ps.length) (Nat.le_refl _) hl hv)
  have HR := hid hr
  have tk1 : Hid (1 = 1) := rfl
  have tk2 : Hid (1 = 1) := rfl
  rcases hv with ⟨rfl, rfl, h0⟩ | ⟨g, off, rfl, hnc, hc⟩
  · obtain rfl : ps = [] := List.eq_nil_of_length_eq_zero h0
    have e8 : ¬ (n : Int) ≤ 0 := by simp at hn; omega
    have e7 : ¬ n = 0 := by simp at hn; omega
    clear hr h0 hn hl e1 e9
    have C2 := hid (fun (W : World) => clone_all none 0 [] W (.inl rfl) (.inl ⟨rfl, rfl, rfl⟩) (by simp))
    go_enter Try.func160, Try.ntmps160
    go_wp2_with fail
    go_region_held3 (fun _ => True) (trivial)
      (first
        | (clear tk1; go_at_call 111; refine (C2.out _).mono ?_; rintro e w1 ⟨A1, c1, rfl, ho, hb⟩; have HO1 := hid ho; have HB1 : Hid (Below w.heap.size w w1) := (by first | exact hb | exact (Below.refl w.heap.size w).drew.trans hb); clear ho hb)
        | (clear tk2; go_at_call 111; refine (C2.out _).mono ?_; rintro e w2 ⟨A2, c2, rfl, ho, hb⟩; have HO2 : Hid (OwnP w2 w1.heap.size A2 c2 []) := ho; have HB2 : Hid (Below w1.heap.size w1 w2) := (by first | exact hb | exact (Below.refl w1.heap.size w1).drew.trans hb); clear ho hb))
    go_wp2_with fail
    go_ret2
    exact twoP_end (a := []) (b := []) HO1.out HB1.out HO2.out HB2.out rfl rfl
  · unfold maxLen at hc
    have e2 : (ps.length : Int) ≤ (c : Int) := by omega
    by_cases hcn : c = ps.length
    · subst hcn
      have C2 := hid (fun (W : World) => cloneDrop (A := some ⟨g, off, none⟩) (m := 0) (k := 0) (n := ps.length) hl (by omega) (by omega) (by unfold maxLen; omega) (.inr ⟨by omega, rfl⟩) W (ps := ps) (g := g) (off := off))
      clear hr
      go_enter Try.func160, Try.ntmps160
      go_wp2_with fail
      go_region_held3 (fun _ => True) (trivial)
        (first
          | (clear tk1; go_at_call 111; refine (C1.out _ (by first | exact HR.out | exact HR.out.below (Below.refl _ _).drew)).mono ?_; rintro e w1 ⟨A1, c1, rfl, ho, hb⟩; have HO1 := hid ho; have HB1 : Hid (Below w.heap.size w w1) := (by first | exact hb | exact (Below.refl w.heap.size w).drew.trans hb); clear ho hb; have HR1 := hid ((HR.out.below HB1.out).more HB1.out.size))
          | (clear tk2; go_at_call 111; refine (C2.out _ (by first | exact HR1.out | exact HR1.out.below (Below.refl _ _).drew)).mono ?_; rintro e w2 ⟨A2, c2, rfl, ho, hb⟩; have HO2 := hid ho; have HB2 : Hid (Below w1.heap.size w1 w2) := (by first | exact hb | exact (Below.refl w1.heap.size w1).drew.trans hb); clear ho hb))
      go_wp2_with fail
      go_ret2
      exact twoP_end HO1.out HB1.out HO2.out HB2.out (by simp; try omega) (by simp; try omega)
    · have C2 := hid (fun (W : World) => cloneDrop (A := some ⟨g, off + ps.length * 2, none⟩) (m := 0) (k := c - ps.length) (n := ps.length) hl (by omega) (by omega) (by unfold maxLen; omega) (.inl rfl) W (ps := ps) (g := g) (off := off))
      clear hr
      go_enter Try.func160, Try.ntmps160
      go_wp2_with fail
      go_region_held3 (fun _ => True) (trivial)
        (first
          | (clear tk1; go_at_call 111; refine (C1.out _ (by first | exact HR.out | exact HR.out.below (Below.refl _ _).drew)).mono ?_; rintro e w1 ⟨A1, c1, rfl, ho, hb⟩; have HO1 := hid ho; have HB1 : Hid (Below w.heap.size w w1) := (by first | exact hb | exact (Below.refl w.heap.size w).drew.trans hb); clear ho hb; have HR1 := hid ((HR.out.below HB1.out).more HB1.out.size))
          | (clear tk2; go_at_call 111; refine (C2.out _ (by first | exact HR1.out | exact HR1.out.below (Below.refl _ _).drew)).mono ?_; rintro e w2 ⟨A2, c2, rfl, ho, hb⟩; have HO2 := hid ho; have HB2 : Hid (Below w1.heap.size w1 w2) := (by first | exact hb | exact (Below.refl w1.heap.size w1).drew.trans hb); clear ho hb))
      go_wp2_with fail
      go_ret2
      exact twoP_end HO1.out HB1.out HO2.out HB2.out (by simp; try omega) (by simp; try omega)
/-- Two rows of pointers of the call's own, apart. -/
def TwoQ (w : World) (a b : List Nat) (e : Ending) (w' : World) : Prop := ∃ A1 m1 c1 A2 m2 c2, e = .returned (.tuple #[.slice A1 m1 c1, .slice A2 m2 c2]) ∧ Hid (m1 = a.length) ∧ Hid (m2 = b.length) ∧ OwnQ w' w.heap.size A1 c1 a ∧ OwnQ w' w.heap.size A2 c2 b ∧
  (∀ k, Value.ownBlock (.slice A1 a.length c1) = some k → Value.ownBlock (.slice A2 b.length c2) ≠ some k) ∧ Below w.heap.size w w'

theorem twoQ_end {w w1 w2 : World} {A1 A2 : Option Addr} {n1 n2 c1 c2 : Nat} {a b : List Nat} (h1 : OwnQ w1 w.heap.size A1 c1 a) (hb1 : Below w.heap.size w w1) (h2 : OwnQ w2 w1.heap.size A2 c2 b) (hb2 : Below w1.heap.size w1 w2) (e1 : n1 = a.length) (e2 : n2 = b.length) :
    TwoQ w a b (.returned (.tuple #[.slice A1 n1 c1, .slice A2 n2 c2])) w2 := by
  subst e1 e2
  exact ⟨A1, _, c1, A2, _, c2, rfl, rfl, rfl, h1.below hb2, h2.mono hb1.size, fun k hk hk2 => by have := (h1.size k hk).2; have := (h2.size k hk2).1; omega, hb1.trans (hb2.mono hb1.size)⟩
theorem cloneTakeQ {A : Option Addr} {c : Nat} {ps : List Nat} {n : Nat} (hn : n ≤ ps.length) (hl : ps.length ≤ 900) (hv : VS A c ps.length) (W : World) (hr : RQ W W.heap.size A ps) :
    Calls Try.prog 134 #[.slice A n c] W (MadeQ W W.heap.size (ps.take n)) := by
  have e : (ps.take n).length = n := by rw [List.length_take]; omega
  have h := clone_allQ A c (ps.take n) W (hr.take n) (by
    rw [e]
    rcases hv with ⟨h1, h2, h3⟩ | ⟨g, off, h1, h2, h3⟩
    · exact .inl ⟨h1, h2, by omega⟩
    · exact .inr ⟨g, off, h1, by omega, h3⟩) (by omega)
  rw [e] at h
  exact h
theorem cloneDropQ {A : Option Addr} {g off m k : Nat} {ps : List Nat} {n : Nat} (hl : ps.length ≤ 900) (hm : m = ps.length - n) (hk : m ≤ k) (hk2 : k ≤ maxLen) (hA : A = some ⟨g, off + n, none⟩ ∨ (m = 0 ∧ A = some ⟨g, off, none⟩)) (W : World) (hr : RQ W W.heap.size (some ⟨g, off, none⟩) ps) :
    Calls Try.prog 134 #[.slice A m k] W (MadeQ W W.heap.size (ps.drop n)) := by
  have e : (ps.drop n).length = m := by rw [List.length_drop, hm]
  rcases hA with rfl | ⟨h0, rfl⟩
  · have h := clone_allQ (some ⟨g, off + n, none⟩) k (ps.drop n) W (hr.drop n) (by
      rw [e]
      exact .inr ⟨g, _, rfl, hk, hk2⟩) (by omega)
    rw [e] at h
    exact h
  · have h := clone_allQ (some ⟨g, off, none⟩) k (ps.drop n) W (.inl (List.eq_nil_of_length_eq_zero (by omega))) (by
      rw [e]
      exact .inr ⟨g, _, rfl, hk, hk2⟩) (by omega)
    rw [e] at h
    exact h

set_option maxHeartbeats 2000000 in
set_option maxRecDepth 100000 in
theorem splitQ (A : Option Addr) (c n : Nat) (ps : List Nat) (w : World) (hr : RQ w w.heap.size A ps) (hv : VS A c ps.length) (hl : ps.length ≤ 900) (hn : n ≤ ps.length) :
    Calls Try.prog 162 #[.slice A ps.length c, .int .i64 n] w (TwoQ w (ps.take n) (ps.drop n)) := by
  have e1 : (n : Int) ≤ (ps.length : Int) := by omega
  have C1 := hid (cloneTakeQ hn hl hv)
  have HR := hid hr
  have tk1 : Hid (1 = 1) := rfl
  have tk2 : Hid (1 = 1) := rfl
  rcases hv with ⟨rfl, rfl, h0⟩ | ⟨g, off, rfl, hnc, hc⟩
  · obtain rfl : ps = [] := List.eq_nil_of_length_eq_zero h0
    obtain rfl : n = 0 := by simpa using hn
    clear hr h0 hn hl
    have C2 := hid (fun (W : World) => clone_allQ none 0 [] W (.inl rfl) (.inl ⟨rfl, rfl, rfl⟩) (by simp))
    go_enter Try.func162, Try.ntmps162
    go_wp2_with fail
    go_region_held3 (fun _ => True) (trivial)
      (first
        | (clear tk1; go_at_call 134; refine (C2.out _).mono ?_; rintro e w1 ⟨A1, c1, rfl, ho, hb⟩; have HO1 := hid ho; have HB1 : Hid (Below w.heap.size w w1) := (by first | exact hb | exact (Below.refl w.heap.size w).drew.trans hb); clear ho hb)
        | (clear tk2; go_at_call 134; refine (C2.out _).mono ?_; rintro e w2 ⟨A2, c2, rfl, ho, hb⟩; have HO2 : Hid (OwnQ w2 w1.heap.size A2 c2 []) := ho; have HB2 : Hid (Below w1.heap.size w1 w2) := (by first | exact hb | exact (Below.refl w1.heap.size w1).drew.trans hb); clear ho hb))
    go_wp2_with fail
    go_ret2
    exact twoQ_end (a := []) (b := []) HO1.out HB1.out HO2.out HB2.out rfl rfl
  · unfold maxLen at hc
    have e2 : (n : Int) ≤ (c : Int) := by omega
    have e3 : n ≤ ps.length := hn
    by_cases hcn : c = n
    · subst hcn
      have hle : ps.length = c := by omega
      have C2 := hid (fun (W : World) => cloneDropQ (A := some ⟨g, off, none⟩) (m := 0) (k := 0) (n := c) hl (by omega) (by omega) (by unfold maxLen; omega) (.inr ⟨by omega, rfl⟩) W (ps := ps) (g := g) (off := off))
      clear hle
      clear hr
      go_enter Try.func162, Try.ntmps162
      go_wp2_with fail
      go_region_held3 (fun _ => True) (trivial)
        (first
          | (clear tk1; go_at_call 134; refine (C1.out _ (by first | exact HR.out | exact HR.out.below (Below.refl _ _).drew)).mono ?_; rintro e w1 ⟨A1, c1, rfl, ho, hb⟩; have HO1 := hid ho; have HB1 : Hid (Below w.heap.size w w1) := (by first | exact hb | exact (Below.refl w.heap.size w).drew.trans hb); clear ho hb; have HR1 := hid ((HR.out.below HB1.out).more HB1.out.size))
          | (clear tk2; go_at_call 134; refine (C2.out _ (by first | exact HR1.out | exact HR1.out.below (Below.refl _ _).drew)).mono ?_; rintro e w2 ⟨A2, c2, rfl, ho, hb⟩; have HO2 := hid ho; have HB2 : Hid (Below w1.heap.size w1 w2) := (by first | exact hb | exact (Below.refl w1.heap.size w1).drew.trans hb); clear ho hb))
      go_wp2_with fail
      go_ret2
      exact twoQ_end HO1.out HB1.out HO2.out HB2.out (by simp; try omega) (by simp; try omega)
    · have C2 := hid (fun (W : World) => cloneDropQ (A := some ⟨g, off + n, none⟩) (k := c - n) (n := n) hl rfl (by omega) (by unfold maxLen; omega) (.inl rfl) W (ps := ps) (g := g) (off := off))
      clear hr
      go_enter Try.func162, Try.ntmps162
      go_wp2_with fail
      go_region_held3 (fun _ => True) (trivial)
        (first
          | (clear tk1; go_at_call 134; refine (C1.out _ (by first | exact HR.out | exact HR.out.below (Below.refl _ _).drew)).mono ?_; rintro e w1 ⟨A1, c1, rfl, ho, hb⟩; have HO1 := hid ho; have HB1 : Hid (Below w.heap.size w w1) := (by first | exact hb | exact (Below.refl w.heap.size w).drew.trans hb); clear ho hb; have HR1 := hid ((HR.out.below HB1.out).more HB1.out.size))
          | (clear tk2; go_at_call 134; refine (C2.out _ (by first | exact HR1.out | exact HR1.out.below (Below.refl _ _).drew)).mono ?_; rintro e w2 ⟨A2, c2, rfl, ho, hb⟩; have HO2 := hid ho; have HB2 : Hid (Below w1.heap.size w1 w2) := (by first | exact hb | exact (Below.refl w1.heap.size w1).drew.trans hb); clear ho hb))
      go_wp2_with fail
      go_ret2
      exact twoQ_end HO1.out HB1.out HO2.out HB2.out (by simp; try omega) (by simp; try omega)
/-! more than there is -/
set_option maxHeartbeats 2000000 in
set_option maxRecDepth 100000 in
theorem splitQ_big (A : Option Addr) (c n : Nat) (ps : List Nat) (w : World) (hr : RQ w w.heap.size A ps) (hv : VS A c ps.length) (hl : ps.length ≤ 900) (hn : ps.length < n) :
    Calls Try.prog 162 #[.slice A ps.length c, .int .i64 n] w (TwoQ w (ps.take ps.length) (ps.drop ps.length)) := by
  have e1 : ¬ (n : Int) ≤ (ps.length : Int) := by omega
  have e9 : ¬ n ≤ ps.length := by omega
  have C1 := hid (cloneTakeQ (n := ps.length) (Nat.le_refl _) hl hv)
  have HR := hid hr
  have tk1 : Hid (1 = 1) := rfl
  have tk2 : Hid (1 = 1) := rfl
  rcases hv with ⟨rfl, rfl, h0⟩ | ⟨g, off, rfl, hnc, hc⟩
  · obtain rfl : ps = [] := List.eq_nil_of_length_eq_zero h0
    have e8 : ¬ (n : Int) ≤ 0 := by simp at hn; omega
    have e7 : ¬ n = 0 := by simp at hn; omega
    clear hr h0 hn hl e1 e9
    have C2 := hid (fun (W : World) => clone_allQ none 0 [] W (.inl rfl) (.inl ⟨rfl, rfl, rfl⟩) (by simp))
    go_enter Try.func162, Try.ntmps162
    go_wp2_with fail
    go_region_held3 (fun _ => True) (trivial)
      (first
        | (clear tk1; go_at_call 134; refine (C2.out _).mono ?_; rintro e w1 ⟨A1, c1, rfl, ho, hb⟩; have HO1 := hid ho; have HB1 : Hid (Below w.heap.size w w1) := (by first | exact hb | exact (Below.refl w.heap.size w).drew.trans hb); clear ho hb)
        | (clear tk2; go_at_call 134; refine (C2.out _).mono ?_; rintro e w2 ⟨A2, c2, rfl, ho, hb⟩; have HO2 : Hid (OwnQ w2 w1.heap.size A2 c2 []) := ho; have HB2 : Hid (Below w1.heap.size w1 w2) := (by first | exact hb | exact (Below.refl w1.heap.size w1).drew.trans hb); clear ho hb))
    go_wp2_with fail
    go_ret2
    exact twoQ_end (a := []) (b := []) HO1.out HB1.out HO2.out HB2.out rfl rfl
  · unfold maxLen at hc
    have e2 : (ps.length : Int) ≤ (c : Int) := by omega
    by_cases hcn : c = ps.length
    · subst hcn
      have C2 := hid (fun (W : World) => cloneDropQ (A := some ⟨g, off, none⟩) (m := 0) (k := 0) (n := ps.length) hl (by omega) (by omega) (by unfold maxLen; omega) (.inr ⟨by omega, rfl⟩) W (ps := ps) (g := g) (off := off))
      clear hr
      go_enter Try.func162, Try.ntmps162
      go_wp2_with fail
      go_region_held3 (fun _ => True) (trivial)
        (first
          | (clear tk1; go_at_call 134; refine (C1.out _ (by first | exact HR.out | exact HR.out.below (Below.refl _ _).drew)).mono ?_; rintro e w1 ⟨A1, c1, rfl, ho, hb⟩; have HO1 := hid ho; have HB1 : Hid (Below w.heap.size w w1) := (by first | exact hb | exact (Below.refl w.heap.size w).drew.trans hb); clear ho hb; have HR1 := hid ((HR.out.below HB1.out).more HB1.out.size))
          | (clear tk2; go_at_call 134; refine (C2.out _ (by first | exact HR1.out | exact HR1.out.below (Below.refl _ _).drew)).mono ?_; rintro e w2 ⟨A2, c2, rfl, ho, hb⟩; have HO2 := hid ho; have HB2 : Hid (Below w1.heap.size w1 w2) := (by first | exact hb | exact (Below.refl w1.heap.size w1).drew.trans hb); clear ho hb))
      go_wp2_with fail
      go_ret2
      exact twoQ_end HO1.out HB1.out HO2.out HB2.out (by simp; try omega) (by simp; try omega)
    · have C2 := hid (fun (W : World) => cloneDropQ (A := some ⟨g, off + ps.length, none⟩) (m := 0) (k := c - ps.length) (n := ps.length) hl (by omega) (by omega) (by unfold maxLen; omega) (.inl rfl) W (ps := ps) (g := g) (off := off))
      clear hr
      go_enter Try.func162, Try.ntmps162
      go_wp2_with fail
      go_region_held3 (fun _ => True) (trivial)
        (first
          | (clear tk1; go_at_call 134; refine (C1.out _ (by first | exact HR.out | exact HR.out.below (Below.refl _ _).drew)).mono ?_; rintro e w1 ⟨A1, c1, rfl, ho, hb⟩; have HO1 := hid ho; have HB1 : Hid (Below w.heap.size w w1) := (by first | exact hb | exact (Below.refl w.heap.size w).drew.trans hb); clear ho hb; have HR1 := hid ((HR.out.below HB1.out).more HB1.out.size))
          | (clear tk2; go_at_call 134; refine (C2.out _ (by first | exact HR1.out | exact HR1.out.below (Below.refl _ _).drew)).mono ?_; rintro e w2 ⟨A2, c2, rfl, ho, hb⟩; have HO2 := hid ho; have HB2 : Hid (Below w1.heap.size w1 w2) := (by first | exact hb | exact (Below.refl w1.heap.size w1).drew.trans hb); clear ho hb))
      go_wp2_with fail
      go_ret2
      exact twoQ_end HO1.out HB1.out HO2.out HB2.out (by simp; try omega) (by simp; try omega)
theorem splitP_any (A : Option Addr) (c n : Nat) (ps : PS) (w : World) (hr : RP w w.heap.size A ps) (hv : VS A c ps.length) (hl : ps.length ≤ 900) :
    Calls Try.prog 160 #[.slice A ps.length c, .int .i64 n] w (TwoP w (ps.take n) (ps.drop n)) := by
  by_cases h : n ≤ ps.length
  · exact splitP A c n ps w hr hv hl h
  · have h1 := splitP_big A c n ps w hr hv hl (by omega)
    rw [List.take_length, List.drop_length] at h1
    rw [List.take_of_length_le (by omega), List.drop_eq_nil_iff.2 (by omega)]
    exact h1
theorem splitQ_any (A : Option Addr) (c n : Nat) (ps : List Nat) (w : World) (hr : RQ w w.heap.size A ps) (hv : VS A c ps.length) (hl : ps.length ≤ 900) :
    Calls Try.prog 162 #[.slice A ps.length c, .int .i64 n] w (TwoQ w (ps.take n) (ps.drop n)) := by
  by_cases h : n ≤ ps.length
  · exact splitQ A c n ps w hr hv hl h
  · have h1 := splitQ_big A c n ps w hr hv hl (by omega)
    rw [List.take_length, List.drop_length] at h1
    rw [List.take_of_length_le (by omega), List.drop_eq_nil_iff.2 (by omega)]
    exact h1
end Go.Proofs.Ytcjbjfhndjpmcaa
