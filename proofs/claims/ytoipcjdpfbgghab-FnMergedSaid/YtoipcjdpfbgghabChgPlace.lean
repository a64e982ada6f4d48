/-
  Changes by rising keys, in the program: whether they rise, the place of a key.
-/
import Derived.Test.YtoipcjdpfbgghabPlace
import Derived.Test.YtoipcjdpfbgghabDeltaF
namespace Go.Proofs.Ytoipcjdpfbgghab
open Go.RowKit

theorem method_sortKeyC (f : Nat) (k v : ByteArray) (g : Bool) (w : World) : (method (f + 1) 62 (.agg #[.string k, .string v, .bool g]) (slash "loop.example" (slash "g00573" "impl.sortKey"))).run Try.prog w = .ok (98, .agg #[.string k, .string v, .bool g]) w := by
  kernel_rfl

theorem sortKeyC_any (k v : ByteArray) (g : Bool) (w : World) :
    Calls Try.prog 98 #[.agg #[.string k, .string v, .bool g]] w fun e w' => e = .returned (.string k) ∧ w' = w.alloc (.cells #[.string k, .string v, .bool g] 62) := by
  go_enter Try.func98, Try.ntmps98
  go_wp2
  go_ret
  exact ⟨rfl, rfl⟩

set_option maxHeartbeats 1000000 in
theorem risesC_any (A : Option Addr) (c : Nat) (hs : CS) (w : World) (hr : RC w w.heap.size A hs) (hn : hs.length ≤ maxLen) :
    Calls Try.prog 57 #[.slice A hs.length c] w fun e w' => e = .returned (.bool (risesC hs)) ∧ Below w.heap.size w w' := by
  unfold maxLen at hn
  have hm := method_sortKeyC
  simp only [slash_def, String.reduceAppend, String.reduceSingleton] at hm
  go_enter Try.func57, Try.ntmps57
  go_wp2_with fail
  go_loopw [3] (fun i wr => ∃ k : Nat, 1 ≤ k ∧ (k ≤ hs.length ∨ k = 1) ∧ i = .int .i64 k ∧ risesToC hs k ∧ Below w.heap.size w wr) (fun i _ => hs.length - (intOf i).toNat)
  case atStart => exact ⟨1, by omega, by omega, rfl, risesToC_one hs, Below.refl _ w⟩
  case round =>
    obtain ⟨k, hk1, hk, rfl, hrs, hbw⟩ := hrel
    by_cases hlt : k < hs.length
    · obtain ⟨b, off, rfl, hb, hc⟩ : ∃ b off, A = some ⟨b, off, none⟩ ∧ b < w.heap.size ∧ ∀ i (hi : i < hs.length), wr.cell? ⟨b, off + i * 3, none⟩ = some (.string hs[i].1) ∧ wr.cell? ⟨b, off + i * 3 + 1, none⟩ = some (.string hs[i].2.1) ∧ wr.cell? ⟨b, off + i * 3 + 2, none⟩ = some (.bool hs[i].2.2) := by
        rcases hr.below hbw with rfl | ⟨b, off, e, hb, hc⟩
        · simp at hlt
        · exact ⟨b, off, e, hb, fun i hi => hc i _ (List.getElem?_eq_getElem hi)⟩
      have hc1 := (hc k hlt).1
      have hc2 := (hc k hlt).2.1
      have hc5 := (hc k hlt).2.2
      have hc3 := (hc (k - 1) (by omega)).1
      have hc4 := (hc (k - 1) (by omega)).2.1
      have hc6 := (hc (k - 1) (by omega)).2.2
      have HR := hid (risesToC_succ hrs hlt)
      have HD := hid hbw
      have HRB := hid (@risesC_bad hs k hlt)
      clear hbw hrs hc hr
      have e1 : IntKind.i64.wrap ((k : Int) - 1) = (k : Int) - 1 := IntWalk.i64_in _ (by omega)
      have e2 : (0 : Int) ≤ (k : Int) - 1 := by omega
      have e3 : (k : Int) - 1 < (hs.length : Int) := by omega
      have e4 : ((k : Int) - 1).toNat = k - 1 := by omega
      have e7 : (1 : Int) ≤ (k : Int) := by omega
      have e8 : 0 < k := by omega
      have e9 : (k : Int) - 1 ≤ (hs.length : Int) - 1 := by omega
      have e10 : (k : Int) < (hs.length : Int) + 1 := by omega
      have e11 : (k : Int) ≤ (hs.length : Int) := by omega
      have e12 : ¬ ((k : Int) - 1 < 0) := by omega
      have e13 : ¬ ((k : Int) < 1) := by omega
      have e14 : ¬ ((hs.length : Int) ≤ (k : Int) - 1) := by omega
      have e15 : k - 1 < hs.length := by omega
      have e5 : (0 : Int) ≤ (k : Int) := by omega
      have e6 : (k : Int) < (hs.length : Int) := by omega
      cases h3 : ltS hs[k - 1].1 hs[k].1
      · have h4 : Op.bytesLess hs[k - 1].1.toList hs[k].1.toList = false := h3
        go_wp2_with fail
        go_region_held3 (fun w' => w'.cell? ⟨b, off + (k - 1) * 3, none⟩ = some (.string hs[k - 1].1) ∧ w'.cell? ⟨b, off + (k - 1) * 3 + 1, none⟩ = some (.string hs[k - 1].2.1) ∧ w'.cell? ⟨b, off + (k - 1) * 3 + 2, none⟩ = some (.bool hs[k - 1].2.2) ∧ w'.cell? ⟨b, off + k * 3, none⟩ = some (.string hs[k].1) ∧ w'.cell? ⟨b, off + k * 3 + 1, none⟩ = some (.string hs[k].2.1) ∧ w'.cell? ⟨b, off + k * 3 + 2, none⟩ = some (.bool hs[k].2.2)) (go_keep)
          (first | (go_at_call 98; refine (sortKeyC_any _ _ _ _).mono ?_; rintro e w' ⟨rfl, rfl⟩))
        go_wp2_with fail
        go_ret
        exact ⟨ret_bool (HRB.out (by omega) h3).symm, below2 HD.out HD.out.size⟩
      · have h4 : Op.bytesLess hs[k - 1].1.toList hs[k].1.toList = true := h3
        go_wp2_with fail
        go_region_held3 (fun w' => w'.cell? ⟨b, off + (k - 1) * 3, none⟩ = some (.string hs[k - 1].1) ∧ w'.cell? ⟨b, off + (k - 1) * 3 + 1, none⟩ = some (.string hs[k - 1].2.1) ∧ w'.cell? ⟨b, off + (k - 1) * 3 + 2, none⟩ = some (.bool hs[k - 1].2.2) ∧ w'.cell? ⟨b, off + k * 3, none⟩ = some (.string hs[k].1) ∧ w'.cell? ⟨b, off + k * 3 + 1, none⟩ = some (.string hs[k].2.1) ∧ w'.cell? ⟨b, off + k * 3 + 2, none⟩ = some (.bool hs[k].2.2)) (go_keep)
          (first | (go_at_call 98; refine (sortKeyC_any _ _ _ _).mono ?_; rintro e w' ⟨rfl, rfl⟩))
        go_wp2_with fail
        go_roundw
        case rel => exact ⟨k + 1, by omega, by omega, by go_num, HR.out (fun _ => h3), below2 HD.out HD.out.size⟩
        case measure => simp [intOf]; omega
    · have HE := hid (risesC_ended hrs (by omega))
      have HD := hid hbw
      clear hrs hbw hr
      go_wp2_with fail
      go_ret
      exact ⟨ret_bool HE.out.symm, HD.out⟩
theorem place1C_any (k v x : ByteArray) (g : Bool) (c : Int) (hc : Hid (cmpS k x = c)) (w : World) :
    Calls Try.prog 75 #[.agg #[.string k, .string v, .bool g], .string x] w fun e w' => e = .returned (.int .i64 c) ∧ Below w.heap.size w w' := by
  have hm := method_sortKeyC
  simp only [slash_def, String.reduceAppend, String.reduceSingleton] at hm
  go_enter Try.func75, Try.ntmps75
  go_wp2_with (first
    | (go_at_call 98; refine (sortKeyC_any k v g _).mono ?_; rintro e w' ⟨rfl, rfl⟩)
    | (go_at_call 76; refine (compare_any k x _).mono ?_; rintro e w' ⟨rfl, rfl⟩))
  go_ret
  exact ⟨ret_int hc.out, below2 (n := 0) (Below.refl _ _) (Nat.le_refl _)⟩

set_option maxHeartbeats 1000000 in
theorem searchC_any (A : Option Addr) (c : Nat) (ls : CS) (x : ByteArray) (w : World) (hr : RC w w.heap.size A ls) (hn : ls.length ≤ 100000) (hs : risesC ls = true) :
    Calls Try.prog 74 #[.slice A ls.length c, .string x, .func (.func 75) #[] #[]] w fun e w' => e = .returned (.tuple #[.int .i64 (cntC ls x), .bool (hasC ls x)]) ∧ Below w.heap.size w w' := by
  have HS := hid hs
  clear hs
  go_enter Try.func74, Try.ntmps74
  go_wp2_with fail
  go_loopw [9, 10] (fun i j wr => ∃ a b : Nat, a ≤ b ∧ b ≤ ls.length ∧ i = .int .i64 a ∧ j = .int .i64 b ∧ Hid (∀ i (h : i < ls.length), i < a → ltS ls[i].1 x = true) ∧ Hid (∀ i (h : i < ls.length), b ≤ i → ltS ls[i].1 x = false) ∧ Below w.heap.size w wr) (fun i j _ => (intOf j).toNat - (intOf i).toNat)
  case atStart => exact ⟨0, _, Nat.zero_le _, Nat.le_refl _, rfl, rfl, fun i h hi => absurd hi (by omega), fun i h hi => absurd hi (by omega), Below.refl _ w⟩
  case round =>
    obtain ⟨a, b, hab, hb, rfl, rfl, H1, H2, hbw⟩ := hrel
    by_cases hlt : a < b
    · have hm : (a + b) / 2 < ls.length := by omega
      obtain ⟨bk, off, rfl, hbk, hc1, hc2, hc3⟩ := (hr.below hbw).at_ hm
      have HD := hid hbw
      clear hbw hr
      have e1 : (((a : Int) + (b : Int)) / 2).toNat = (a + b) / 2 := by omega
      have e2 : (0 : Int) ≤ ((a : Int) + (b : Int)) / 2 := by omega
      have e3 : ((a : Int) + (b : Int)) / 2 < (ls.length : Int) := by omega
      cases h3 : ltS ls[(a + b) / 2].1 x
      · have HY := hid (risesC_not HS.out hm h3)
        rcases cmpS_not h3 with HC | HC
        all_goals
          have HC := hid HC
          clear h3
          go_wp2_with (go_at_call 75; refine (place1C_any _ _ _ _ _ HC _).mono ?_; rintro e w' ⟨rfl, hbw'⟩)
          refine ⟨⟨a, (a + b) / 2, by omega, by omega, rfl, by go_num, H1, HY, HD.out.trans (hbw'.mono HD.out.size)⟩, by simp [intOf]; omega⟩
      · have HY := hid (risesC_yes HS.out hm h3)
        have HC := hid (cmpS_lt h3)
        clear h3
        go_wp2_with (go_at_call 75; refine (place1C_any _ _ _ _ _ HC _).mono ?_; rintro e w' ⟨rfl, hbw'⟩)
        refine ⟨⟨(a + b) / 2 + 1, b, by omega, by omega, by go_num, rfl, HY, H2, HD.out.trans (hbw'.mono HD.out.size)⟩, by simp [intOf]; omega⟩
    · obtain rfl : a = b := by omega
      have HC := hid (cntC_eq ls x a hb H1.out H2.out)
      clear H1
      by_cases hl : a < ls.length
      · obtain ⟨bk, off, rfl, hbk, hc1, hc2, hc3⟩ := (hr.below hbw).at_ hl
        have HD := hid hbw
        have HN := hid (H2.out a hl (Nat.le_refl _))
        clear hbw hr H2
        by_cases he : ls[a].1 = x
        · have HH := hid (hasC_yes (x := x) HS.out (by rw [HC.out]; exact hl) (by simp only [HC.out]; exact he))
          have HZ : Hid (cmpS ls[a].1 x = 0) := by
            subst he
            exact cmpS_eq _
          clear he
          go_wp2_with (go_at_call 75; refine (place1C_any _ _ _ _ _ HZ _).mono ?_; rintro e w' ⟨rfl, hbw'⟩)
          go_ret2
          exact ⟨ret_2 (by rw [HC.out]) (by rw [HH.out]), HD.out.trans (hbw'.mono HD.out.size)⟩
        · have HH := hid (hasC_no (x := x) HS.out (by rw [HC.out]; exact hl) (by simp only [HC.out]; exact he))
          have HZ : Hid (cmpS ls[a].1 x = 1) := cmpS_gt (ltS_of_not HN.out he)
          clear he
          go_wp2_with (go_at_call 75; refine (place1C_any _ _ _ _ _ HZ _).mono ?_; rintro e w' ⟨rfl, hbw'⟩)
          go_ret2
          exact ⟨ret_2 (by rw [HC.out]) (by rw [HH.out]), HD.out.trans (hbw'.mono HD.out.size)⟩
      · have HH := hid (hasC_end (x := x) HS.out (by rw [HC.out]; exact hl))
        have HD := hid hbw
        clear hbw hr H2
        go_wp2_with fail
        go_ret2
        exact ⟨ret_2 (by rw [HC.out]) (by rw [HH.out]), HD.out⟩

theorem placeC_any (A : Option Addr) (c : Nat) (ls : CS) (x : ByteArray) (w : World) (hr : RC w w.heap.size A ls) (hn : ls.length ≤ 100000) (hs : risesC ls = true) :
    Calls Try.prog 63 #[.slice A ls.length c, .string x] w fun e w' => e = .returned (.tuple #[.int .i64 (cntC ls x), .bool (hasC ls x)]) ∧ Below w.heap.size w w' := by
  have HS := hid hs
  have HR := hid hr
  clear hs hr
  go_enter Try.func63, Try.ntmps63
  go_wp2_with (go_at_call 74; refine (searchC_any A c ls x _ HR.out hn HS.out).mono ?_; rintro e w' ⟨rfl, hbw⟩)
  go_ret2
  exact ⟨rfl, hbw⟩
end Go.Proofs.Ytoipcjdpfbgghab
