/-
  The program's place: a binary search by keys.
-/
import Derived.Test.YtaiehccpefjbfaaRises
import Derived.Test.YtaiehccpefjbfaaPlain
namespace Go.Proofs.Ytaiehccpefjbfaa
open Go.RowKit

theorem le60 {n : Nat} (h : n ≤ 900) : n ≤ 100000 := by omega

def cmpS (a b : ByteArray) : Int := if ltS a b then -1 else if ltS b a then 1 else 0
theorem cmpS_lt {a b : ByteArray} (h : ltS a b = true) : cmpS a b = -1 := by simp [cmpS, h]
theorem cmpS_eq (a : ByteArray) : cmpS a a = 0 := by simp [cmpS, ltS_irrefl]
theorem cmpS_gt {a b : ByteArray} (h : ltS b a = true) : cmpS a b = 1 := by simp [cmpS, h, ltS_asymm h]
theorem cmpS_not {a b : ByteArray} (h : ltS a b = false) : cmpS a b = 0 ∨ cmpS a b = 1 := by
  by_cases e : a = b
  · subst e
    exact .inl (cmpS_eq _)
  · exact .inr (cmpS_gt (ltS_of_not h e))
theorem ret_int {k : IntKind} {a b : Int} (h : a = b) : Ending.returned (.int k a) = .returned (.int k b) := by rw [h]

theorem compare_any (a b : ByteArray) (w : World) :
    Calls Try.prog 169 #[.string a, .string b] w fun e w' => e = .returned (.int .i64 (cmpS a b)) ∧ w = w' := by
  rcases ltS_total a b with h | rfl | h
  · have h1 : Op.bytesLess a.toList b.toList = true := h
    have HE := hid (cmpS_lt h)
    clear h
    go_enter Try.func169, Try.ntmps169
    go_wp2
    go_ret
    exact ⟨ret_int HE.out.symm, rfl⟩
  · have h1 : Op.bytesLess a.toList a.toList = false := bytesLess_irrefl _
    have HE := hid (cmpS_eq a)
    go_enter Try.func169, Try.ntmps169
    go_wp2
    go_ret
    exact ⟨ret_int HE.out.symm, rfl⟩
  · have h1 : Op.bytesLess a.toList b.toList = false := ltS_asymm h
    have h2 : (a.toList == b.toList) = false := by
      rw [beq_eq_false_iff_ne]
      exact fun e => ltS_ne h (toList_inj e.symm)
    have HE := hid (cmpS_gt h)
    clear h
    go_enter Try.func169, Try.ntmps169
    go_wp2
    go_ret
    exact ⟨ret_int HE.out.symm, rfl⟩

theorem place1_any (k v x : ByteArray) (c : Int) (hc : Hid (cmpS k x = c)) (w : World) :
    Calls Try.prog 168 #[.agg #[.string k, .string v], .string x] w fun e w' => e = .returned (.int .i64 c) ∧ Below w.heap.size w w' := by
  have hm := method_sortKey
  simp only [slash_def, String.reduceAppend, String.reduceSingleton] at hm
  go_enter Try.func168, Try.ntmps168
  go_wp2_with (first
    | (go_at_call 192; refine (sortKey_any k v _).mono ?_; rintro e w' ⟨rfl, rfl⟩)
    | (go_at_call 169; refine (compare_any k x _).mono ?_; rintro e w' ⟨rfl, rfl⟩))
  go_ret
  exact ⟨ret_int hc.out, below2 (n := 0) (Below.refl _ _) (Nat.le_refl _)⟩

theorem ret_2 {i i' : Int} {b b' : Bool} (h : i = i') (h' : b = b') : Ending.returned (.tuple #[.int .i64 i, .bool b]) = .returned (.tuple #[.int .i64 i', .bool b']) := by rw [h, h']

set_option maxHeartbeats 1000000 in
theorem search_any (A : Option Addr) (c : Nat) (ps : PS) (x : ByteArray) (w : World) (hr : RP w w.heap.size A ps) (hn : ps.length ≤ 100000) (hs : risesB ps = true) :
    Calls Try.prog 167 #[.slice A ps.length c, .string x, .func (.func 168) #[] #[]] w fun e w' => e = .returned (.tuple #[.int .i64 (cnt ps x), .bool (hasK ps x)]) ∧ Below w.heap.size w w' := by
  have HS := hid hs
  clear hs
  go_enter Try.func167, Try.ntmps167
  go_wp2_with fail
  go_loopw [9, 10] (fun i j wr => ∃ a b : Nat, a ≤ b ∧ b ≤ ps.length ∧ i = .int .i64 a ∧ j = .int .i64 b ∧ Hid (∀ i (h : i < ps.length), i < a → ltS ps[i].1 x = true) ∧ Hid (∀ i (h : i < ps.length), b ≤ i → ltS ps[i].1 x = false) ∧ Below w.heap.size w wr) (fun i j _ => (intOf j).toNat - (intOf i).toNat)
  case atStart => exact ⟨0, _, Nat.zero_le _, Nat.le_refl _, rfl, rfl, fun i h hi => absurd hi (by omega), fun i h hi => absurd hi (by omega), Below.refl _ w⟩
  case round =>
    obtain ⟨a, b, hab, hb, rfl, rfl, H1, H2, hbw⟩ := hrel
    by_cases hlt : a < b
    · have hm : (a + b) / 2 < ps.length := by omega
      obtain ⟨bk, off, rfl, hbk, hc1, hc2⟩ := (hr.below hbw).at_ hm
      have HD := hid hbw
      clear hbw hr
      have e1 : (((a : Int) + (b : Int)) / 2).toNat = (a + b) / 2 := by omega
      have e2 : (0 : Int) ≤ ((a : Int) + (b : Int)) / 2 := by omega
      have e3 : ((a : Int) + (b : Int)) / 2 < (ps.length : Int) := by omega
      cases h3 : ltS ps[(a + b) / 2].1 x
      · have HY := hid (rises_not HS.out hm h3)
        rcases cmpS_not h3 with HC | HC
        all_goals
          have HC := hid HC
          clear h3
          go_wp2_with (go_at_call 168; refine (place1_any _ _ _ _ HC _).mono ?_; rintro e w' ⟨rfl, hbw'⟩)
          refine ⟨⟨a, (a + b) / 2, by omega, by omega, rfl, by go_num, H1, HY, HD.out.trans (hbw'.mono HD.out.size)⟩, by simp [intOf]; omega⟩
      · have HY := hid (rises_yes HS.out hm h3)
        have HC := hid (cmpS_lt h3)
        clear h3
        go_wp2_with (go_at_call 168; refine (place1_any _ _ _ _ HC _).mono ?_; rintro e w' ⟨rfl, hbw'⟩)
        refine ⟨⟨(a + b) / 2 + 1, b, by omega, by omega, by go_num, rfl, HY, H2, HD.out.trans (hbw'.mono HD.out.size)⟩, by simp [intOf]; omega⟩
    · obtain rfl : a = b := by omega
      have HC := hid (cnt_eq ps x a hb H1.out H2.out)
      clear H1
      by_cases hl : a < ps.length
      · obtain ⟨bk, off, rfl, hbk, hc1, hc2⟩ := (hr.below hbw).at_ hl
        have HD := hid hbw
        have HN := hid (H2.out a hl (Nat.le_refl _))
        clear hbw hr H2
        by_cases he : ps[a].1 = x
        · have HH := hid (hasK_yes (x := x) HS.out (by rw [HC.out]; exact hl) (by simp only [HC.out]; exact he))
          have HZ : Hid (cmpS ps[a].1 x = 0) := by
            subst he
            exact cmpS_eq _
          clear he
          go_wp2_with (go_at_call 168; refine (place1_any _ _ _ _ HZ _).mono ?_; rintro e w' ⟨rfl, hbw'⟩)
          go_ret2
          exact ⟨ret_2 (by rw [HC.out]) (by rw [HH.out]), HD.out.trans (hbw'.mono HD.out.size)⟩
        · have HH := hid (hasK_no (x := x) HS.out (by rw [HC.out]; exact hl) (by simp only [HC.out]; exact he))
          have HZ : Hid (cmpS ps[a].1 x = 1) := cmpS_gt (ltS_of_not HN.out he)
          clear he
          go_wp2_with (go_at_call 168; refine (place1_any _ _ _ _ HZ _).mono ?_; rintro e w' ⟨rfl, hbw'⟩)
          go_ret2
          exact ⟨ret_2 (by rw [HC.out]) (by rw [HH.out]), HD.out.trans (hbw'.mono HD.out.size)⟩
      · have HH := hid (hasK_end (x := x) HS.out (by rw [HC.out]; exact hl))
        have HD := hid hbw
        clear hbw hr H2
        go_wp2_with fail
        go_ret2
        exact ⟨ret_2 (by rw [HC.out]) (by rw [HH.out]), HD.out⟩

theorem place_any (A : Option Addr) (c : Nat) (ps : PS) (x : ByteArray) (w : World) (hr : RP w w.heap.size A ps) (hn : ps.length ≤ 100000) (hs : risesB ps = true) :
    Calls Try.prog 153 #[.slice A ps.length c, .string x] w fun e w' => e = .returned (.tuple #[.int .i64 (cnt ps x), .bool (hasK ps x)]) ∧ Below w.heap.size w w' := by
  have HS := hid hs
  have HR := hid hr
  clear hs hr
  go_enter Try.func153, Try.ntmps153
  go_wp2_with (go_at_call 167; refine (search_any A c ps x _ HR.out hn HS.out).mono ?_; rintro e w' ⟨rfl, hbw⟩)
  go_ret2
  exact ⟨rfl, hbw⟩
end Go.Proofs.Ytaiehccpefjbfaa
