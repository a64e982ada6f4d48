/-
  The program's Free: who may hold, copies.
-/
import Derived.Test.YtepgcflkgicpiaaLocksOk
import Derived.Test.YtepgcflkgicpiaaFreeS2
namespace Go.Proofs.Ytepgcflkgicpiaa
open Go.RowKit Go.Shelf

theorem keyFn (q : Nat) (s : ByteArray) (w : World) (hq : q < w.heap.size) (c0 : w.cell? ⟨q, 0, none⟩ = some (.string s)) : PredH 185 q (fun h => decide (h.2.1 = s)) w := by
  intro W h hb _
  have d0 := (hb.cell (p := ⟨q, 0, none⟩) hq).trans c0
  have hq2 := Nat.lt_of_lt_of_le hq hb.size
  have HB : Hid (∀ o : Obj, Below W.heap.size W (W.alloc o)) := fun o => (Below.refl _ _).alloc (Nat.le_refl _) o
  clear hb c0
  by_cases h1 : h.2.1 = s
  · have HE := hid (decide_eq_true h1)
    have g1 := eqS_true h1
    clear h1
    go_enter Try.func185, Try.ntmps185
    go_wp2_with fail
    go_ret
    exact ⟨ret_bool HE.out.symm, HB.out _⟩
  · have HE := hid (decide_eq_false h1)
    have g1 := eqS_false h1
    clear h1
    go_enter Try.func185, Try.ntmps185
    go_wp2_with fail
    go_ret
    exact ⟨ret_bool HE.out.symm, HB.out _⟩
theorem goneFn (q : Nat) (t : Int) (w : World) (hq : q < w.heap.size) (c0 : w.cell? ⟨q, 0, none⟩ = some (.int .i64 t)) : PredH 76 q (fun h => decide (h.1 = t)) w := by
  intro W h hb _
  have d0 := (hb.cell (p := ⟨q, 0, none⟩) hq).trans c0
  have hq2 := Nat.lt_of_lt_of_le hq hb.size
  have HB : Hid (∀ o : Obj, Below W.heap.size W (W.alloc o)) := fun o => (Below.refl _ _).alloc (Nat.le_refl _) o
  clear hb c0
  by_cases h1 : h.1 = t
  · have HE := hid (decide_eq_true h1)
    have g1 := eqI_true h1
    clear h1
    go_enter Try.func76, Try.ntmps76
    go_wp2_with fail
    go_ret
    exact ⟨ret_bool HE.out.symm, HB.out _⟩
  · have HE := hid (decide_eq_false h1)
    have g1 := eqI_false h1
    clear h1
    go_enter Try.func76, Try.ntmps76
    go_wp2_with fail
    go_ret
    exact ⟨ret_bool HE.out.symm, HB.out _⟩
theorem ent_key : ∀ args w, (callFunc 185 args).run Try.prog w = .ok (.enter 185 args) w := enters_of Try.func185 (by kernel_rfl) rfl
theorem ent_gone : ∀ args w, (callFunc 76 args).run Try.prog w = .ok (.enter 76 args) w := enters_of Try.func76 (by kernel_rfl) rfl
set_option maxRecDepth 100000 in
theorem impl_anyForKey (A : Option Addr) (c : Nat) (hs : HS) (s : ByteArray) (w : World) (hr : RH w w.heap.size A hs) (hf : FitsH hs) (hn : hs.length ≤ maxLen) :
    Calls Try.prog 154 #[.slice A hs.length c, .string s] w fun e w' => e = .returned (.bool (hs.any fun h => decide (h.2.1 = s))) ∧ Below w.heap.size w w' := by
  have HB : Hid (∀ o : Obj, Below w.heap.size w (w.alloc o)) := fun o => (Below.refl _ _).alloc (Nat.le_refl _) o
  have HR := hid ((hr.below (HB.out (.cells #[.string s] 9))).more (HB.out (.cells #[.string s] 9)).size)
  have HP := hid (keyFn w.heap.size s (w.alloc (.cells #[.string s] 9)) (by simp) (by go_simp))
  have HF := hid hf
  have HN := hid hn
  clear hr hf hn
  go_enter Try.func154, Try.ntmps154
  go_wp2_with (go_at_call 151; refine (containsFunc_any _ _ ent_key _ A c hs _ HR.out HF.out HN.out HP.out).mono ?_; rintro e w' ⟨rfl, hb1⟩)
  go_ret
  exact ⟨rfl, (HB.out _).trans (hb1.mono (HB.out _).size)⟩

set_option maxHeartbeats 2000000 in
theorem impl_mayHold (A : Option Addr) (c : Nat) (h : HS) (K : Option Addr) (d : Nat) (a : HS) (x : HD) (w : World) (hr : RH w w.heap.size A h) (hf : FitsH h) (hn : h.length ≤ maxLen) (hr' : RH w w.heap.size K a) (hf' : FitsH a) (hn' : a.length ≤ maxLen) :
    Calls Try.prog 93 #[.slice A h.length c, .slice K a.length d, .agg #[.int .i64 x.1, .string x.2.1, .int .i64 x.2.2]] w fun e w' => e = .returned (.bool (mayB h a x)) ∧ Below w.heap.size w w' := by
  have hb1 : Below w.heap.size w (w.alloc (.cells #[.int .i64 x.1, .string x.2.1, .int .i64 x.2.2] 48)) := (Below.refl _ _).alloc (Nat.le_refl _) _
  have hx := Row3.lit w 48 (.int .i64 x.1) (.string x.2.1) (.int .i64 x.2.2)
  have HB1 := hid hb1
  have X1 := hid hx
  have HR := hid ((hr.below hb1).more hb1.size)
  have HR2 := hid ((hr'.below hb1).more hb1.size)
  have HF := hid hf
  have HF2 := hid hf'
  have HN := hid hn
  have HN2 := hid hn'
  clear hr hr' hf hf' hn hn' hb1 hx
  go_enter Try.func93, Try.ntmps93
  go_wp2_with fail
  generalize hw1 : w.alloc (.cells #[.int .i64 x.1, .string x.2.1, .int .i64 x.2.2] 48) = w1 at *
  clear hw1
  refine (impl_anyKeepsOut A c h x _ HR.out HF.out HN.out).mono ?_
  rintro e w2 ⟨rfl, hb2⟩
  have X2 := hid (X1.out.below hb2)
  have HB2 := hid (HB1.out.trans (hb2.mono HB1.out.size))
  have HRb := hid ((HR.out.below hb2).more hb2.size)
  have HR2b := hid ((HR2.out.below hb2).more hb2.size)
  clear hb2
  have x0 := X2.out.c0
  have x1 := X2.out.c1
  have x2 := X2.out.c2
  cases hk : h.any fun y => keepsB y x
  case true =>
    have HE := hid (mayB_no (a := a) hk)
    go_wp2_with fail
    go_ret
    exact ⟨ret_bool HE.out.symm, HB2.out⟩
  case false =>
    cases ho : h.any fun y => ownB y x
    case true =>
      have HE := hid (mayB_own (a := a) hk ho)
      obtain ⟨ri, _, hri, _⟩ := own_yes ho
      have er : (0 : Int) ≤ (ri : Int) := by omega
      have HO : Hid (Calls Try.prog 92 #[.slice A h.length c, .agg #[.int .i64 x.1, .string x.2.1, .int .i64 x.2.2]] w2 fun e w' => e = .returned (.int .i64 (ri : Int)) ∧ Below w2.heap.size w2 w') := by
        have := impl_placeOfOwn A c h x w2 HRb.out HF.out HN.out
        rwa [hri] at this
      go_wp2_with (first
        | (go_at_call 92; refine HO.out.mono ?_; rintro e w3 ⟨rfl, hb3⟩))
      go_ret
      exact ⟨ret_bool HE.out.symm, HB2.out.trans (hb3.mono HB2.out.size)⟩
    case false =>
      have HE := hid (mayB_key (a := a) hk ho)
      have HO : Hid (Calls Try.prog 92 #[.slice A h.length c, .agg #[.int .i64 x.1, .string x.2.1, .int .i64 x.2.2]] w2 fun e w' => e = .returned (.int .i64 (-1)) ∧ Below w2.heap.size w2 w') := by
        have := impl_placeOfOwn A c h x w2 HRb.out HF.out HN.out
        rwa [own_no ho] at this
      go_wp2_with (first
        | (go_at_call 92; refine HO.out.mono ?_; rintro e w3 ⟨rfl, hb3⟩; have X3 := hid (X2.out.below hb3); have HB3 := hid (HB2.out.trans (hb3.mono HB2.out.size)); have HR3 := hid ((HR2b.out.below hb3).more hb3.size); clear hb3; have x31 := X3.out.c1)
        | (go_at_call 154; refine (impl_anyForKey K d a x.2.1 _ HR3.out HF2.out HN2.out).mono ?_; rintro e w4 ⟨rfl, hb4⟩))
      go_ret
      exact ⟨ret_bool HE.out.symm, HB3.out.trans (hb4.mono HB3.out.size)⟩

/-- Where the first one is that may be had; -1: none may. -/
def firstV (h l : HS) : Int := match firstL h l with
  | some i => (i : Int)
  | none => -1
set_option maxHeartbeats 4000000 in
theorem impl_firstToHold (A : Option Addr) (c : Nat) (h : HS) (K : Option Addr) (d : Nat) (l : HS) (w : World) (hr : RH w w.heap.size A h) (hf : FitsH h) (hn : h.length ≤ maxLen) (hr' : RH w w.heap.size K l) (hf' : FitsH l) (hn' : l.length ≤ d) (hm : d ≤ maxLen) :
    Calls Try.prog 79 #[.slice A h.length c, .slice K l.length d] w fun e w' => e = .returned (.int .i64 (firstV h l)) ∧ Below w.heap.size w w' := by
  have HR := hid hr
  have HR2 := hid hr'
  have HF := hid hf
  have HF2 := hid hf'
  have HN := hid hn
  unfold maxLen at hm
  clear hr hr' hf hf' hn
  go_enter Try.func79, Try.ntmps79
  go_wp2_with fail
  go_loopw [9] (fun i wr => ∃ k : Nat, k ≤ l.length ∧ i = .int .i64 k ∧ noneMay h l k ∧ Below w.heap.size w wr) (fun i _ => l.length - (intOf i).toNat)
  case atStart => exact ⟨0, Nat.zero_le _, rfl, noneMay_zero _ _, Below.refl _ _⟩
  case round =>
    obtain ⟨k, hk, rfl, hnt, hbw⟩ := hrel
    have HD := hid hbw
    by_cases hlt : k < l.length
    · obtain ⟨b, off, rfl, hb, hc1, hc2, hc3⟩ := (HR2.out.below hbw).at_ hlt
      have HS := hid (noneMay_succ hnt hlt)
      have HI := hid (firstL_at hnt hlt)
      have hx5 := Row3.lit wr 48 (.int .i64 l[k].1) (.string l[k].2.1) (.int .i64 l[k].2.2)
      have hb5 := hbw.alloc hbw.size (.cells #[.int .i64 l[k].1, .string l[k].2.1, .int .i64 l[k].2.2] 48)
      have X5 := hid hx5
      have HB5 := hid hb5
      have e5 : (0 : Int) ≤ (k : Int) := by omega
      have e6 : (k : Int) < (l.length : Int) := by omega
      have e7 : (k : Int) ≤ (d : Int) := by omega
      have e8 : k ≤ d := by omega
      have e9 : (l.length : Int) ≤ (d : Int) := by omega
      have htl : (l.take k).length = k := by simp; omega
      have HMH : Hid (∀ W : World, Below w.heap.size w W → Calls Try.prog 93 #[.slice A h.length c, .slice (some ⟨b, off, none⟩) k d, .agg #[.int .i64 l[k].1, .string l[k].2.1, .int .i64 l[k].2.2]] W fun e w' => e = .returned (.bool (mayB h (l.take k) l[k])) ∧ Below W.heap.size W w') := by
        intro W hW
        have := impl_mayHold A c h (some ⟨b, off, none⟩) d (l.take k) l[k] W ((HR.out.below hW).more hW.size) HF.out HN.out (((HR2.out.below hW).more hW.size).take) (HF2.out.take k) (by unfold maxLen; omega)
        rwa [htl] at this
      clear hbw hnt hx5 hb5 htl
      go_wp2_with fail
      generalize hg5 : wr.alloc (.cells #[.int .i64 l[k].1, .string l[k].2.1, .int .i64 l[k].2.2] 48) = w5 at *
      clear hc1 hc2 hc3
      have cM : ∀ dq os, Calls Try.prog 93 #[.slice A h.length c, .slice (some ⟨b, off, none⟩) k d, .agg #[.int .i64 l[k].1, .string l[k].2.1, .int .i64 l[k].2.2]] (Go.Sort.grow (redrawn w5 dq) os) fun e w'' => e = .returned (.bool (mayB h (l.take k) l[k])) ∧ ∃ p : Regrown, w'' = Go.Sort.grow (redrawn w5 p.d) p.os := fun dq os => Calls.regrown_of (HMH.out _ (HB5.out.trans ((below_regrown w5 dq os).mono HB5.out.size)))
      have x0 := cell_regrown X5.out.c0
      have x1 := cell_regrown X5.out.c1
      have x2 := cell_regrown X5.out.c2
      cases hmay : mayB h (l.take k) l[k]
      case false =>
        rw [hmay] at cM
        refine wp_region_quiet_below (by kernel_rfl) (by kernel_rfl) ?_
        repeat (go_big_quiet_step (first | exact cM _ _))
        refine wpQuiet_nil ?_
        intro _ hw'
        obtain ⟨⟨dq, osq⟩, hw''⟩ := hw'
        subst hw''
        go_wp2_with fail
        go_roundw
        case rel => exact ⟨k + 1, by omega, by go_num, HS.out hmay, HB5.out.trans ((below_regrown w5 dq osq).mono HB5.out.size)⟩
        case measure => simp [intOf]; omega
      case true =>
        rw [hmay] at cM
        have HV : Hid (firstV h l = (k : Int)) := by rw [Hid, firstV, HI.out hmay]
        refine wp_region_quiet_below (by kernel_rfl) (by kernel_rfl) ?_
        repeat (go_big_quiet_step (first | exact cM _ _))
        refine wpQuiet_nil ?_
        intro _ hw'
        obtain ⟨⟨dq, osq⟩, hw''⟩ := hw'
        subst hw''
        go_wp2_with fail
        go_ret
        exact ⟨ret_int HV.out.symm, HB5.out.trans ((below_regrown w5 dq osq).mono HB5.out.size)⟩
    · obtain rfl : k = l.length := by omega
      have HV : Hid (firstV h l = -1) := by rw [Hid, firstV, firstL_none hnt]
      clear hbw hnt
      go_wp2_with fail
      go_ret
      exact ⟨ret_int HV.out.symm, HD.out⟩
end Go.Proofs.Ytepgcflkgicpiaa
