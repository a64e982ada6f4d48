import Derived.Test.YtcjbjfhndjpmcaaPk01
import Derived.Test.YtcjbjfhndjpmcaaPk00
import Derived.Test.YtcjbjfhndjpmcaaPk02
/-
  The program's MapOk: keys that rise, asked through an interface of the project's own.
-/
namespace Go.Proofs.Ytcjbjfhndjpmcaa
open Go.RowKit

def slash (a b : String) : String := a ++ (String.singleton (Char.ofNat 47) ++ b)
theorem slash_def (a b : String) : slash a b = a ++ (String.singleton (Char.ofNat 47) ++ b) := rfl
theorem method_sortKey (f : Nat) (k v : ByteArray) (w : World) : (method (f + 1) 57 (.agg #[.string k, .string v]) (slash "loop.example" (slash "g00573" "impl.sortKey"))).run Try.prog w = .ok (189, .agg #[.string k, .string v]) w := by
  kernel_rfl

theorem sortKey_any (k v : ByteArray) (w : World) :
    Calls Try.prog 189 #[.agg #[.string k, .string v]] w fun e w' => e = .returned (.string k) ∧ w' = w.alloc (.cells #[.string k, .string v] 57) := by
  go_enter Try.func189, Try.ntmps189
  go_wp2
  go_ret
  exact ⟨rfl, rfl⟩

theorem below2 {B : Nat} {w wr : World} {o o' : Obj} {n : Nat} (h : Below B w wr) (hB : B ≤ wr.heap.size) : Below B w (((wr.alloc o).alloc o').drewN n) := by
  have h2 := (h.alloc hB o).alloc (by simp; omega) o'
  exact ⟨h2.os, h2.tape, h2.output, h2.size, h2.block⟩

theorem risesB_ended {ps : PS} {k : Nat} (h : risesTo ps k) (hk : ps.length ≤ k) : risesB ps = true :=
  (rises_iff ps).2 fun i hi => h i hi (by omega)

set_option maxHeartbeats 1000000 in
theorem rises_any (A : Option Addr) (c : Nat) (ps : PS) (w : World) (hr : RP w w.heap.size A ps) (hn : ps.length ≤ maxLen) :
    Calls Try.prog 133 #[.slice A ps.length c] w fun e w' => e = .returned (.bool (risesB ps)) ∧ Below w.heap.size w w' := by
  unfold maxLen at hn
  have hm := method_sortKey
  simp only [slash_def, String.reduceAppend, String.reduceSingleton] at hm
  go_enter Try.func133, Try.ntmps133
  go_wp2_with fail
  go_loopw [3] (fun i wr => ∃ k : Nat, 1 ≤ k ∧ (k ≤ ps.length ∨ k = 1) ∧ i = .int .i64 k ∧ risesTo ps k ∧ Below w.heap.size w wr) (fun i _ => ps.length - (intOf i).toNat)
  case atStart => exact ⟨1, by omega, by omega, rfl, risesTo_one ps, Below.refl _ w⟩
  case round =>
    obtain ⟨k, hk1, hk, rfl, hrs, hbw⟩ := hrel
    by_cases hlt : k < ps.length
    · obtain ⟨b, off, rfl, hb, hc⟩ : ∃ b off, A = some ⟨b, off, none⟩ ∧ b < w.heap.size ∧ ∀ i (hi : i < ps.length), wr.cell? ⟨b, off + i * 2, none⟩ = some (.string ps[i].1) ∧ wr.cell? ⟨b, off + i * 2 + 1, none⟩ = some (.string ps[i].2) := by
        rcases hr.below hbw with rfl | ⟨b, off, e, hb, hc⟩
        · simp at hlt
        · exact ⟨b, off, e, hb, fun i hi => hc i _ (List.getElem?_eq_getElem hi)⟩
      have hc1 := (hc k hlt).1
      have hc2 := (hc k hlt).2
      have hc3 := (hc (k - 1) (by omega)).1
      have hc4 := (hc (k - 1) (by omega)).2
      have HR := hid (risesTo_succ hrs hlt)
      have HD := hid hbw
      have HRB := hid (@rises_bad ps k hlt)
      clear hbw hrs hc hr
      have e1 : IntKind.i64.wrap ((k : Int) - 1) = (k : Int) - 1 := IntWalk.i64_in _ (by omega)
      have e2 : (0 : Int) ≤ (k : Int) - 1 := by omega
      have e3 : (k : Int) - 1 < (ps.length : Int) := by omega
      have e4 : ((k : Int) - 1).toNat = k - 1 := by omega
      have e7 : (1 : Int) ≤ (k : Int) := by omega
      have e8 : 0 < k := by omega
      have e9 : (k : Int) - 1 ≤ (ps.length : Int) - 1 := by omega
      have e10 : (k : Int) < (ps.length : Int) + 1 := by omega
      have e11 : (k : Int) ≤ (ps.length : Int) := by omega
      have e12 : ¬ ((k : Int) - 1 < 0) := by omega
      have e13 : ¬ ((k : Int) < 1) := by omega
      have e14 : ¬ ((ps.length : Int) ≤ (k : Int) - 1) := by omega
      have e15 : k - 1 < ps.length := by omega
      have e5 : (0 : Int) ≤ (k : Int) := by omega
      have e6 : (k : Int) < (ps.length : Int) := by omega
      cases h3 : ltS ps[k - 1].1 ps[k].1
      · have h4 : Op.bytesLess ps[k - 1].1.toList ps[k].1.toList = false := h3
        go_wp2_with fail
        go_region_held3 (fun w' => w'.cell? ⟨b, off + (k - 1) * 2, none⟩ = some (.string ps[k - 1].1) ∧ w'.cell? ⟨b, off + (k - 1) * 2 + 1, none⟩ = some (.string ps[k - 1].2) ∧ w'.cell? ⟨b, off + k * 2, none⟩ = some (.string ps[k].1) ∧ w'.cell? ⟨b, off + k * 2 + 1, none⟩ = some (.string ps[k].2)) (go_keep)
          (first | (go_at_call 189; refine (sortKey_any _ _ _).mono ?_; rintro e w' ⟨rfl, rfl⟩))
        go_wp2_with fail
        go_ret
        exact ⟨ret_bool (HRB.out (by omega) h3).symm, below2 HD.out HD.out.size⟩
      · have h4 : Op.bytesLess ps[k - 1].1.toList ps[k].1.toList = true := h3
        go_wp2_with fail
        go_region_held3 (fun w' => w'.cell? ⟨b, off + (k - 1) * 2, none⟩ = some (.string ps[k - 1].1) ∧ w'.cell? ⟨b, off + (k - 1) * 2 + 1, none⟩ = some (.string ps[k - 1].2) ∧ w'.cell? ⟨b, off + k * 2, none⟩ = some (.string ps[k].1) ∧ w'.cell? ⟨b, off + k * 2 + 1, none⟩ = some (.string ps[k].2)) (go_keep)
          (first | (go_at_call 189; refine (sortKey_any _ _ _).mono ?_; rintro e w' ⟨rfl, rfl⟩))
        go_wp2_with fail
        go_roundw
        case rel => exact ⟨k + 1, by omega, by omega, by go_num, HR.out (fun _ => h3), below2 HD.out HD.out.size⟩
        case measure => simp [intOf]; omega
    · have HE := hid (risesB_ended hrs (by omega))
      have HD := hid hbw
      clear hrs hbw hr
      go_wp2_with fail
      go_ret
      exact ⟨ret_bool HE.out.symm, HD.out⟩
end Go.Proofs.Ytcjbjfhndjpmcaa
/-
  The program's place: a binary search by keys.
-/
namespace Go.Proofs.Ytcjbjfhndjpmcaa
open Go.RowKit

theorem le60 {n : Nat} (h : n ≤ 900) : n ≤ 100000 := by omega

def cmpS (a b : ByteArray) : Int := if ltS a b then -1 else if ltS b a then 1 else 0
theorem cmpS_lt {a b : ByteArray} (h : ltS a b = true) : cmpS a b = -1 := by simp [cmpS, h]
theorem cmpS_eq (a : ByteArray) : cmpS a a = 0 := by simp [cmpS, ltS_irrefl]
theorem cmpS_gt {a b : ByteArray} (h : ltS b a = true) : cmpS a b = 1 := by simp [cmpS, h, ltS_asymm h]
theorem cmpS_not {a b : ByteArray} (h : ltS a b = false) : cmpS a b = 0 ∨ cmpS a b = 1 := by
  by_cases e : a = b
  · subst e
    exact .inl (cmpS_eq _)
  · exact .inr (cmpS_gt (ltS_of_not h e))
theorem ret_int {k : IntKind} {a b : Int} (h : a = b) : Ending.returned (.int k a) = .returned (.int k b) := by rw [h]

theorem compare_any (a b : ByteArray) (w : World) :
    Calls Try.prog 151 #[.string a, .string b] w fun e w' => e = .returned (.int .i64 (cmpS a b)) ∧ w = w' := by
  rcases ltS_total a b with h | rfl | h
  · have h1 : Op.bytesLess a.toList b.toList = true := h
    have HE := hid (cmpS_lt h)
    clear h
    go_enter Try.func151, Try.ntmps151
    go_wp2
    go_ret
    exact ⟨ret_int HE.out.symm, rfl⟩
  · have h1 : Op.bytesLess a.toList a.toList = false := bytesLess_irrefl _
    have HE := hid (cmpS_eq a)
    go_enter Try.func151, Try.ntmps151
    go_wp2
    go_ret
    exact ⟨ret_int HE.out.symm, rfl⟩
  · have h1 : Op.bytesLess a.toList b.toList = false := ltS_asymm h
    have h2 : (a.toList == b.toList) = false := by
      rw [beq_eq_false_iff_ne]
      exact fun e => ltS_ne h (toList_inj e.symm)
    have HE := hid (cmpS_gt h)
    clear h
    go_enter Try.func151, Try.ntmps151
    go_wp2
    go_ret
    exact ⟨ret_int HE.out.symm, rfl⟩

theorem place1_any (k v x : ByteArray) (c : Int) (hc : Hid (cmpS k x = c)) (w : World) :
    Calls Try.prog 150 #[.agg #[.string k, .string v], .string x] w fun e w' => e = .returned (.int .i64 c) ∧ Below w.heap.size w w' := by
  have hm := method_sortKey
  simp only [slash_def, String.reduceAppend, String.reduceSingleton] at hm
  go_enter Try.func150, Try.ntmps150
  go_wp2_with (first
    | (go_at_call 189; refine (sortKey_any k v _).mono ?_; rintro e w' ⟨rfl, rfl⟩)
    | (go_at_call 151; refine (compare_any k x _).mono ?_; rintro e w' ⟨rfl, rfl⟩))
  go_ret
  exact ⟨ret_int hc.out, below2 (n := 0) (Below.refl _ _) (Nat.le_refl _)⟩

theorem ret_2 {i i' : Int} {b b' : Bool} (h : i = i') (h' : b = b') : Ending.returned (.tuple #[.int .i64 i, .bool b]) = .returned (.tuple #[.int .i64 i', .bool b']) := by rw [h, h']

set_option maxHeartbeats 1000000 in
theorem search_any (A : Option Addr) (c : Nat) (ps : PS) (x : ByteArray) (w : World) (hr : RP w w.heap.size A ps) (hn : ps.length ≤ 100000) (hs : risesB ps = true) :
    Calls Try.prog 149 #[.slice A ps.length c, .string x, .func (.func 150) #[] #[]] w fun e w' => e = .returned (.tuple #[.int .i64 (cnt ps x), .bool (hasK ps x)]) ∧ Below w.heap.size w w' := by
  have HS := hid hs
  clear hs
  go_enter Try.func149, Try.ntmps149
  go_wp2_with fail
  go_loopw [9, 10] (fun i j wr => ∃ a b : Nat, a ≤ b ∧ b ≤ ps.length ∧ i = .int .i64 a ∧ j = .int .i64 b ∧ Hid (∀ i (h : i < ps.length), i < a → ltS ps[i].1 x = true) ∧ Hid (∀ i (h : i < ps.length), b ≤ i → ltS ps[i].1 x = false) ∧ Below w.heap.size w wr) (fun i j _ => (intOf j).toNat - (intOf i).toNat)
  case atStart => exact ⟨0, _, Nat.zero_le _, Nat.le_refl _, rfl, rfl, fun i h hi => absurd hi (by omega), fun i h hi => absurd hi (by omega), Below.refl _ w⟩
  case round =>
    obtain ⟨a, b, hab, hb, rfl, rfl, H1, H2, hbw⟩ := hrel
    by_cases hlt : a < b
    · have hm : (a + b) / 2 < ps.length := by omega
      obtain ⟨bk, off, rfl, hbk, hc1, hc2⟩ := (hr.below hbw).at_ hm
      have HD := hid hbw
      clear hbw hr
      have e1 : (((a : Int) + (b : Int)) / 2).toNat = (a + b) / 2 := by omega
      have e2 : (0 : Int) ≤ ((a : Int) + (b : Int)) / 2 := by omega
      have e3 : ((a : Int) + (b : Int)) / 2 < (ps.length : Int) := by omega
      cases h3 : ltS ps[(a + b) / 2].1 x
      · have HY := hid (rises_not HS.out hm h3)
        rcases cmpS_not h3 with HC | HC
        all_goals
          have HC := hid HC
          clear h3
          go_wp2_with (go_at_call 150; refine (place1_any _ _ _ _ HC _).mono ?_; rintro e w' ⟨rfl, hbw'⟩)
          refine ⟨⟨a, (a + b) / 2, by omega, by omega, rfl, by go_num, H1, HY, HD.out.trans (hbw'.mono HD.out.size)⟩, by simp [intOf]; omega⟩
      · have HY := hid (rises_yes HS.out hm h3)
        have HC := hid (cmpS_lt h3)
        clear h3
        go_wp2_with (go_at_call 150; refine (place1_any _ _ _ _ HC _).mono ?_; rintro e w' ⟨rfl, hbw'⟩)
        refine ⟨⟨(a + b) / 2 + 1, b, by omega, by omega, by go_num, rfl, HY, H2, HD.out.trans (hbw'.mono HD.out.size)⟩, by simp [intOf]; omega⟩
    · obtain rfl : a = b := by omega
      have HC := hid (cnt_eq ps x a hb H1.out H2.out)
      clear H1
      by_cases hl : a < ps.length
      · obtain ⟨bk, off, rfl, hbk, hc1, hc2⟩ := (hr.below hbw).at_ hl
        have HD := hid hbw
        have HN := hid (H2.out a hl (Nat.le_refl _))
        clear hbw hr H2
        by_cases he : ps[a].1 = x
        · have HH := hid (hasK_yes (x := x) HS.out (by rw [HC.out]; exact hl) (by simp only [HC.out]; exact he))
          have HZ : Hid (cmpS ps[a].1 x = 0) := by
            subst he
            exact cmpS_eq _
          clear he
          go_wp2_with (go_at_call 150; refine (place1_any _ _ _ _ HZ _).mono ?_; rintro e w' ⟨rfl, hbw'⟩)
          go_ret2
          exact ⟨ret_2 (by rw [HC.out]) (by rw [HH.out]), HD.out.trans (hbw'.mono HD.out.size)⟩
        · have HH := hid (hasK_no (x := x) HS.out (by rw [HC.out]; exact hl) (by simp only [HC.out]; exact he))
          have HZ : Hid (cmpS ps[a].1 x = 1) := cmpS_gt (ltS_of_not HN.out he)
          clear he
          go_wp2_with (go_at_call 150; refine (place1_any _ _ _ _ HZ _).mono ?_; rintro e w' ⟨rfl, hbw'⟩)
          go_ret2
          exact ⟨ret_2 (by rw [HC.out]) (by rw [HH.out]), HD.out.trans (hbw'.mono HD.out.size)⟩
      · have HH := hid (hasK_end (x := x) HS.out (by rw [HC.out]; exact hl))
        have HD := hid hbw
        clear hbw hr H2
        go_wp2_with fail
        go_ret2
        exact ⟨ret_2 (by rw [HC.out]) (by rw [HH.out]), HD.out⟩

theorem place_any (A : Option Addr) (c : Nat) (ps : PS) (x : ByteArray) (w : World) (hr : RP w w.heap.size A ps) (hn : ps.length ≤ 100000) (hs : risesB ps = true) :
    Calls Try.prog 129 #[.slice A ps.length c, .string x] w fun e w' => e = .returned (.tuple #[.int .i64 (cnt ps x), .bool (hasK ps x)]) ∧ Below w.heap.size w w' := by
  have HS := hid hs
  have HR := hid hr
  clear hs hr
  go_enter Try.func129, Try.ntmps129
  go_wp2_with (go_at_call 149; refine (search_any A c ps x _ HR.out hn HS.out).mono ?_; rintro e w' ⟨rfl, hbw⟩)
  go_ret2
  exact ⟨rfl, hbw⟩
end Go.Proofs.Ytcjbjfhndjpmcaa
/-
  The program's MapOk and Get; the model's Get.
-/
namespace Go.Proofs.Ytcjbjfhndjpmcaa
open Go.RowKit

theorem pairsB_keysTo {ps : PS} (h : keysTo ps ps.length) : pairsB ps = risesB ps := by
  rw [pairsB, List.all_eq_true.2 (keysTo_end h)]; simp
theorem pairsB_iff {ps : PS} : pairsB ps = true ↔ (∀ p ∈ ps, pairB p = true) ∧ risesB ps = true := by
  simp [pairsB, List.all_eq_true]
theorem mapB_keys {ps : PS} {k : Nat} (hk : k < ps.length) (h : keyB ps[k].1 = false ∨ keyB ps[k].2 = false) : mapB ps = false := by
  rw [mapB, keys_bad hk h]; simp
theorem mapB_end {ps : PS} (h : keysTo ps ps.length) (hl : ps.length ≤ 60) : mapB ps = risesB ps := by
  rw [mapB, List.all_eq_true.2 (keysTo_end h)]; simp [hl]

set_option maxHeartbeats 1000000 in
theorem impl_pairsOk (A : Option Addr) (c : Nat) (ps : PS) (w : World) (hr : RP w w.heap.size A ps) (hf : Fits ps) (hn : ps.length ≤ maxLen) :
    Calls Try.prog 107 #[.slice A ps.length c] w fun e w' => e = .returned (.bool (pairsB ps)) ∧ Below w.heap.size w w' := by
  have hn' := hn
  unfold maxLen at hn'
  have HR := hid hr
  have HN := hid hn
  clear hn
  go_enter Try.func107, Try.ntmps107
  go_wp2_with fail
  go_loopw [7] (fun i wr => ∃ k : Nat, k ≤ ps.length ∧ i = .int .i64 k ∧ keysTo ps k ∧ Below w.heap.size w wr) (fun i _ => ps.length - (intOf i).toNat)
  case atStart => exact ⟨0, Nat.zero_le _, rfl, keysTo_zero ps, Below.refl _ w⟩
  case round =>
    obtain ⟨k, hk, rfl, hks, hbw⟩ := hrel
    by_cases hlt : k < ps.length
    · obtain ⟨b, off, rfl, hb, hc1, hc2⟩ := (hr.below hbw).at_ hlt
      have HF := hid (hf.get hlt)
      have HB := hid (@pairsB_keys ps k hlt)
      have HK := hid (keysTo_succ hks hlt)
      have HD := hid hbw
      clear hbw hks hr hf
      have HZ : Hid (∀ o : Obj, Below w.heap.size w (wr.alloc o)) := fun o => HD.out.alloc HD.out.size o
      cases h1 : keyB ps[k].1
      · go_wp2_with (go_at_call 77; refine (impl_KeyOk _ _ HF.out.1).mono ?_; rintro e w' ⟨rfl, rfl⟩)
        go_ret
        exact ⟨ret_bool (HB.out (.inl h1)).symm, HZ.out _⟩
      · cases h2 : keyB ps[k].2
        · go_wp2_with (go_at_call 77; first | ((with_reducible refine (impl_KeyOk _ _ HF.out.1).mono ?_); rintro e w' ⟨rfl, rfl⟩) | ((with_reducible refine (impl_KeyOk _ _ HF.out.2).mono ?_); rintro e w' ⟨rfl, rfl⟩))
          go_ret
          exact ⟨ret_bool (HB.out (.inr h2)).symm, HZ.out _⟩
        · go_wp2_with (go_at_call 77; first | ((with_reducible refine (impl_KeyOk _ _ HF.out.1).mono ?_); rintro e w' ⟨rfl, rfl⟩) | ((with_reducible refine (impl_KeyOk _ _ HF.out.2).mono ?_); rintro e w' ⟨rfl, rfl⟩))
          go_roundw
          case rel => exact ⟨k + 1, by omega, by go_num, HK.out h1 h2, HZ.out _⟩
          case measure => simp [intOf]; omega
    · obtain rfl : k = ps.length := by omega
      have HE := hid (pairsB_keysTo hks)
      have HD := hid hbw
      have HR2 := hid ((hr.below hbw).more hbw.size)
      clear hks hbw hr hf
      go_wp2_with (go_at_call 133; refine (rises_any A c ps _ HR2.out HN.out).mono ?_; rintro e w' ⟨rfl, hbw'⟩)
      go_ret
      exact ⟨ret_bool HE.out.symm, HD.out.trans (hbw'.mono HD.out.size)⟩

set_option maxHeartbeats 1000000 in
theorem impl_MapOk (A : Option Addr) (c : Nat) (ps : PS) (w : World) (hr : RP w w.heap.size A ps) (hf : Fits ps) (hn : ps.length ≤ maxLen) :
    Calls Try.prog 61 #[.slice A ps.length c] w fun e w' => e = .returned (.bool (mapB ps)) ∧ Below w.heap.size w w' := by
  have hn' := hn
  unfold maxLen at hn'
  have HR := hid hr
  have HF := hid hf
  have HN := hid hn
  clear hr hf hn
  by_cases hl : ps.length ≤ 60
  · have HM := hid (mapB_of hl)
    go_enter Try.func61, Try.ntmps61
    go_wp2_with (go_at_call 107; refine (impl_pairsOk A c ps _ HR.out HF.out HN.out).mono ?_; rintro e w' ⟨rfl, hw⟩)
    go_ret
    exact ⟨ret_bool HM.out.symm, hw⟩
  · have HM := hid (mapB_long (ps := ps) (by omega))
    go_enter Try.func61, Try.ntmps61
    go_wp2_with fail
    go_ret
    exact ⟨ret_bool HM.out.symm, Below.refl _ _⟩

/-- What Get answers. -/
def getV (ps : PS) (x : ByteArray) : ByteArray := if mapB ps then valOf ps x else ⟨#[]⟩
def getB (ps : PS) (x : ByteArray) : Bool := mapB ps && hasK ps x
theorem ret_sb {s s' : ByteArray} {b b' : Bool} (h : s = s') (h' : b = b') : Ending.returned (.tuple #[.string s, .bool b]) = .returned (.tuple #[.string s', .bool b']) := by rw [h, h']

set_option maxHeartbeats 1000000 in
theorem spec_l1Get (A : Option Addr) (c : Nat) (ps : PS) (x : ByteArray) (B : Nat) (w : World) (hr : RP w B A ps) (hn : ps.length ≤ maxLen) :
    Calls Try.prog 96 #[.slice A ps.length c, .string x] w fun e w' => e = .returned (.tuple #[.string (valOf ps x), .bool (hasK ps x)]) ∧ w = w' := by
  unfold maxLen at hn
  go_enter Try.func96, Try.ntmps96
  go_wp2_with fail
  go_loop [6] (fun i => ∃ k : Nat, k ≤ ps.length ∧ i = .int .i64 k ∧ noneTo ps x k) (fun i => ps.length - (intOf i).toNat)
  case atStart => exact ⟨0, Nat.zero_le _, rfl, fun i h hi => absurd hi (by omega)⟩
  case round =>
    obtain ⟨k, hk, rfl, hnt⟩ := hrel
    by_cases hlt : k < ps.length
    · obtain ⟨b, off, rfl, hb, hc1, hc2⟩ := hr.at_ hlt
      have HS := hid (noneTo_succ hnt hlt)
      have HV := hid (noneTo_val hnt hlt)
      clear hnt hr
      by_cases he : ps[k].1 = x
      · have h1 := eqS_true he
        have HE := hid he
        clear he
        go_wp2_with fail
        go_ret2
        exact ⟨ret_sb (HV.out HE.out).1.symm (HV.out HE.out).2.symm, rfl⟩
      · have h1 := eqS_false he
        have HE := hid he
        clear he
        go_wp2_with fail
        go_round
        case rel => exact ⟨k + 1, by omega, by go_num, HS.out HE.out⟩
        case measure => simp [intOf]; omega
    · obtain rfl : k = ps.length := by omega
      have HE := hid (noneTo_end hnt)
      clear hnt hr
      go_wp2_with fail
      go_ret2
      exact ⟨ret_sb (valOf_none HE.out).symm HE.out.symm, rfl⟩

set_option maxHeartbeats 1000000 in
theorem impl_valueIn (A : Option Addr) (c : Nat) (ps : PS) (x : ByteArray) (w : World) (hr : RP w w.heap.size A ps) (hn : ps.length ≤ 100000) (hs : risesB ps = true) :
    Calls Try.prog 95 #[.slice A ps.length c, .string x] w fun e w' => e = .returned (.tuple #[.string (valOf ps x), .bool (hasK ps x)]) ∧ Below w.heap.size w w' := by
  have HR := hid hr
  have HS := hid hs
  have HN := hid hn
  clear hr hs hn
  cases hh : hasK ps x
  · have HV := hid (valOf_none hh)
    go_enter Try.func95, Try.ntmps95
    go_wp2_with (first
      | (go_at_call 129; refine (place_any A c ps x _ HR.out HN.out HS.out).mono ?_; rintro e w2 ⟨rfl, hw2⟩))
    go_ret2
    exact ⟨ret_sb HV.out.symm rfl, hw2⟩
  · obtain ⟨hlt, he⟩ := (hasK_iff HS.out x).1 hh
    have HV := hid (valOf_at hlt he)
    have HL := hid he
    clear he
    obtain ⟨b, off, rfl, hb, hc1, hc2⟩ := HR.out.at_ hlt
    go_enter Try.func95, Try.ntmps95
    go_wp2_with (first
      | (go_at_call 129; refine (place_any _ c ps x _ HR.out HN.out HS.out).mono ?_; rintro e w2 ⟨rfl, hw2⟩; have hc3 := (hw2.cell (p := ⟨b, off + cnt ps x * 2 + 1, none⟩) hb).trans hc2))
    go_ret2
    exact ⟨ret_sb HV.out.symm rfl, hw2⟩

end Go.Proofs.Ytcjbjfhndjpmcaa
/-
  Rows of pairs that a call made.
-/
namespace Go.Proofs.Ytcjbjfhndjpmcaa
open Go.RowKit

theorem below_grown {w w' : World} (h : Below w.heap.size w w') : w.grownBy w' none := ⟨h.os, h.tape, h.output, h.size, fun k hk _ => h.block k hk⟩

theorem pairInfo : (Try.prog.info? 57).map (fun i => (i.zero, i.size, i.bytes)) = some (some (.agg #[.string ⟨#[]⟩, .string ⟨#[]⟩]), 2, 32) := by kernel_rfl

/-- A slice of pairs of the call's own. -/
def OwnP (w : World) (B : Nat) (A : Option Addr) (c : Nat) (ps : PS) : Prop := w.ownsRow B 57 2 (.slice A ps.length c) ps.length (pcells ps)
theorem OwnP.rp {w : World} {B c : Nat} {A : Option Addr} {ps : PS} (h : OwnP w B A c ps) : RP w w.heap.size A ps := RP.of_own h
theorem OwnP.below {w w' : World} {B c : Nat} {A : Option Addr} {ps : PS} (h : OwnP w B A c ps) (hb : Below w.heap.size w w') : OwnP w' B A c ps := h.kept (below_grown hb) (by
  cases hv : Value.ownBlock (.slice A ps.length c) <;> simp)
/-- The call made these pairs, and turned nothing that was there. -/
def Made (w : World) (B : Nat) (ps : PS) (e : Ending) (w' : World) : Prop := ∃ A c, e = .returned (.slice A ps.length c) ∧ OwnP w' B A c ps ∧ Below w.heap.size w w'
end Go.Proofs.Ytcjbjfhndjpmcaa
