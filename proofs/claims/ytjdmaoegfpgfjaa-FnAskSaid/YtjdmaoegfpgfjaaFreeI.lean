/-
  The program's Free: who may hold, copies.
  The program's Free: copies and what is struck.
  The program's Free: withHold and slices.Delete.
  The program's Free: slices.Delete of one hold.
  The program's Free.
-/
import Derived.Test.YtjdmaoegfpgfjaaLocksOk
import Derived.Test.YtjdmaoegfpgfjaaFreeS2
import Derived.Test.YtjdmaoegfpgfjaaLockSet
import Derived.Lib.SliceRun
import Derived.Deep.RegionLaw
import Derived.Shelf.RegionOpenPlain
import Derived.Test.YtjdmaoegfpgfjaaFreeS5
namespace Go.Proofs.Ytjdmaoegfpgfjaa
open Go.RowKit Go.Shelf

theorem keyFn (q : Nat) (s : ByteArray) (w : World) (hq : q < w.heap.size) (c0 : w.cell? ⟨q, 0, none⟩ = some (.string s)) : PredH 197 q (fun h => decide (h.2.1 = s)) w := by
  intro W h hb _
  have d0 := (hb.cell (p := ⟨q, 0, none⟩) hq).trans c0
  have hq2 := Nat.lt_of_lt_of_le hq hb.size
  have HB : Hid (∀ o : Obj, Below W.heap.size W (W.alloc o)) := fun o => (Below.refl _ _).alloc (Nat.le_refl _) o
  clear hb c0
  by_cases h1 : h.2.1 = s
  · have HE := hid (decide_eq_true h1)
    have g1 := eqS_true h1
    clear h1
    go_enter Try.func197, Try.ntmps197
    go_wp2_with fail
    go_ret
    exact ⟨ret_bool HE.out.symm, HB.out _⟩
  · have HE := hid (decide_eq_false h1)
    have g1 := eqS_false h1
    clear h1
    go_enter Try.func197, Try.ntmps197
    go_wp2_with fail
    go_ret
    exact ⟨ret_bool HE.out.symm, HB.out _⟩
theorem goneFn (q : Nat) (t : Int) (w : World) (hq : q < w.heap.size) (c0 : w.cell? ⟨q, 0, none⟩ = some (.int .i64 t)) : PredH 76 q (fun h => decide (h.1 = t)) w := by
  intro W h hb _
  have d0 := (hb.cell (p := ⟨q, 0, none⟩) hq).trans c0
  have hq2 := Nat.lt_of_lt_of_le hq hb.size
  have HB : Hid (∀ o : Obj, Below W.heap.size W (W.alloc o)) := fun o => (Below.refl _ _).alloc (Nat.le_refl _) o
  clear hb c0
  by_cases h1 : h.1 = t
  · have HE := hid (decide_eq_true h1)
    have g1 := eqI_true h1
    clear h1
    go_enter Try.func76, Try.ntmps76
    go_wp2_with fail
    go_ret
    exact ⟨ret_bool HE.out.symm, HB.out _⟩
  · have HE := hid (decide_eq_false h1)
    have g1 := eqI_false h1
    clear h1
    go_enter Try.func76, Try.ntmps76
    go_wp2_with fail
    go_ret
    exact ⟨ret_bool HE.out.symm, HB.out _⟩
theorem ent_key : ∀ args w, (callFunc 197 args).run Try.prog w = .ok (.enter 197 args) w := enters_of Try.func197 (by kernel_rfl) rfl
theorem ent_gone : ∀ args w, (callFunc 76 args).run Try.prog w = .ok (.enter 76 args) w := enters_of Try.func76 (by kernel_rfl) rfl
set_option maxRecDepth 100000 in
theorem impl_anyForKey (A : Option Addr) (c : Nat) (hs : HS) (s : ByteArray) (w : World) (hr : RH w w.heap.size A hs) (hf : FitsH hs) (hn : hs.length ≤ maxLen) :
    Calls Try.prog 157 #[.slice A hs.length c, .string s] w fun e w' => e = .returned (.bool (hs.any fun h => decide (h.2.1 = s))) ∧ Below w.heap.size w w' := by
  have HB : Hid (∀ o : Obj, Below w.heap.size w (w.alloc o)) := fun o => (Below.refl _ _).alloc (Nat.le_refl _) o
  have HR := hid ((hr.below (HB.out (.cells #[.string s] 9))).more (HB.out (.cells #[.string s] 9)).size)
  have HP := hid (keyFn w.heap.size s (w.alloc (.cells #[.string s] 9)) (by simp) (by go_simp))
  have HF := hid hf
  have HN := hid hn
  clear hr hf hn
  go_enter Try.func157, Try.ntmps157
  go_wp2_with (go_at_call 110; refine (containsFunc_any _ _ ent_key _ A c hs _ HR.out HF.out HN.out HP.out).mono ?_; rintro e w' ⟨rfl, hb1⟩)
  go_ret
  exact ⟨rfl, (HB.out _).trans (hb1.mono (HB.out _).size)⟩

set_option maxHeartbeats 2000000 in
theorem impl_mayHold (A : Option Addr) (c : Nat) (h : HS) (K : Option Addr) (d : Nat) (a : HS) (x : HD) (w : World) (hr : RH w w.heap.size A h) (hf : FitsH h) (hn : h.length ≤ maxLen) (hr' : RH w w.heap.size K a) (hf' : FitsH a) (hn' : a.length ≤ maxLen) :
    Calls Try.prog 95 #[.slice A h.length c, .slice K a.length d, .agg #[.int .i64 x.1, .string x.2.1, .int .i64 x.2.2]] w fun e w' => e = .returned (.bool (mayB h a x)) ∧ Below w.heap.size w w' := by
  have hb1 : Below w.heap.size w (w.alloc (.cells #[.int .i64 x.1, .string x.2.1, .int .i64 x.2.2] 49)) := (Below.refl _ _).alloc (Nat.le_refl _) _
  have hx := Row3.lit w 49 (.int .i64 x.1) (.string x.2.1) (.int .i64 x.2.2)
  have HB1 := hid hb1
  have X1 := hid hx
  have HR := hid ((hr.below hb1).more hb1.size)
  have HR2 := hid ((hr'.below hb1).more hb1.size)
  have HF := hid hf
  have HF2 := hid hf'
  have HN := hid hn
  have HN2 := hid hn'
  clear hr hr' hf hf' hn hn' hb1 hx
  go_enter Try.func95, Try.ntmps95
  go_wp2_with fail
  generalize hw1 : w.alloc (.cells #[.int .i64 x.1, .string x.2.1, .int .i64 x.2.2] 49) = w1 at *
  clear hw1
  refine (impl_anyKeepsOut A c h x _ HR.out HF.out HN.out).mono ?_
  rintro e w2 ⟨rfl, hb2⟩
  have X2 := hid (X1.out.below hb2)
  have HB2 := hid (HB1.out.trans (hb2.mono HB1.out.size))
  have HRb := hid ((HR.out.below hb2).more hb2.size)
  have HR2b := hid ((HR2.out.below hb2).more hb2.size)
  clear hb2
  have x0 := X2.out.c0
  have x1 := X2.out.c1
  have x2 := X2.out.c2
  cases hk : h.any fun y => keepsB y x
  case true =>
    have HE := hid (mayB_no (a := a) hk)
    go_wp2_with fail
    go_ret
    exact ⟨ret_bool HE.out.symm, HB2.out⟩
  case false =>
    cases ho : h.any fun y => ownB y x
    case true =>
      have HE := hid (mayB_own (a := a) hk ho)
      obtain ⟨ri, _, hri, _⟩ := own_yes ho
      have er : (0 : Int) ≤ (ri : Int) := by omega
      have HO : Hid (Calls Try.prog 89 #[.slice A h.length c, .agg #[.int .i64 x.1, .string x.2.1, .int .i64 x.2.2]] w2 fun e w' => e = .returned (.int .i64 (ri : Int)) ∧ Below w2.heap.size w2 w') := by
        have := impl_placeOfOwn A c h x w2 HRb.out HF.out HN.out
        rwa [hri] at this
      go_wp2_with (first
        | (go_at_call 89; refine HO.out.mono ?_; rintro e w3 ⟨rfl, hb3⟩))
      go_ret
      exact ⟨ret_bool HE.out.symm, HB2.out.trans (hb3.mono HB2.out.size)⟩
    case false =>
      have HE := hid (mayB_key (a := a) hk ho)
      have HO : Hid (Calls Try.prog 89 #[.slice A h.length c, .agg #[.int .i64 x.1, .string x.2.1, .int .i64 x.2.2]] w2 fun e w' => e = .returned (.int .i64 (-1)) ∧ Below w2.heap.size w2 w') := by
        have := impl_placeOfOwn A c h x w2 HRb.out HF.out HN.out
        rwa [own_no ho] at this
      go_wp2_with (first
        | (go_at_call 89; refine HO.out.mono ?_; rintro e w3 ⟨rfl, hb3⟩; have X3 := hid (X2.out.below hb3); have HB3 := hid (HB2.out.trans (hb3.mono HB2.out.size)); have HR3 := hid ((HR2b.out.below hb3).more hb3.size); clear hb3; have x31 := X3.out.c1)
        | (go_at_call 157; refine (impl_anyForKey K d a x.2.1 _ HR3.out HF2.out HN2.out).mono ?_; rintro e w4 ⟨rfl, hb4⟩))
      go_ret
      exact ⟨ret_bool HE.out.symm, HB3.out.trans (hb4.mono HB3.out.size)⟩

/-- Where the first one is that may be had; -1: none may. -/
def firstV (h l : HS) : Int := match firstL h l with
  | some i => (i : Int)
  | none => -1
set_option maxHeartbeats 4000000 in
theorem impl_firstToHold (A : Option Addr) (c : Nat) (h : HS) (K : Option Addr) (d : Nat) (l : HS) (w : World) (hr : RH w w.heap.size A h) (hf : FitsH h) (hn : h.length ≤ maxLen) (hr' : RH w w.heap.size K l) (hf' : FitsH l) (hn' : l.length ≤ d) (hm : d ≤ maxLen) :
    Calls Try.prog 79 #[.slice A h.length c, .slice K l.length d] w fun e w' => e = .returned (.int .i64 (firstV h l)) ∧ Below w.heap.size w w' := by
  have HR := hid hr
  have HR2 := hid hr'
  have HF := hid hf
  have HF2 := hid hf'
  have HN := hid hn
  unfold maxLen at hm
  clear hr hr' hf hf' hn
  go_enter Try.func79, Try.ntmps79
  go_wp2_with fail
  go_loopw [9] (fun i wr => ∃ k : Nat, k ≤ l.length ∧ i = .int .i64 k ∧ noneMay h l k ∧ Below w.heap.size w wr) (fun i _ => l.length - (intOf i).toNat)
  case atStart => exact ⟨0, Nat.zero_le _, rfl, noneMay_zero _ _, Below.refl _ _⟩
  case round =>
    obtain ⟨k, hk, rfl, hnt, hbw⟩ := hrel
    have HD := hid hbw
    by_cases hlt : k < l.length
    · obtain ⟨b, off, rfl, hb, hc1, hc2, hc3⟩ := (HR2.out.below hbw).at_ hlt
      have HS := hid (noneMay_succ hnt hlt)
      have HI := hid (firstL_at hnt hlt)
      have hx5 := Row3.lit wr 49 (.int .i64 l[k].1) (.string l[k].2.1) (.int .i64 l[k].2.2)
      have hb5 := hbw.alloc hbw.size (.cells #[.int .i64 l[k].1, .string l[k].2.1, .int .i64 l[k].2.2] 49)
      have X5 := hid hx5
      have HB5 := hid hb5
      have e5 : (0 : Int) ≤ (k : Int) := by omega
      have e6 : (k : Int) < (l.length : Int) := by omega
      have e7 : (k : Int) ≤ (d : Int) := by omega
      have e8 : k ≤ d := by omega
      have e9 : (l.length : Int) ≤ (d : Int) := by omega
      have htl : (l.take k).length = k := by simp; omega
      have HMH : Hid (∀ W : World, Below w.heap.size w W → Calls Try.prog 95 #[.slice A h.length c, .slice (some ⟨b, off, none⟩) k d, .agg #[.int .i64 l[k].1, .string l[k].2.1, .int .i64 l[k].2.2]] W fun e w' => e = .returned (.bool (mayB h (l.take k) l[k])) ∧ Below W.heap.size W w') := by
        intro W hW
        have := impl_mayHold A c h (some ⟨b, off, none⟩) d (l.take k) l[k] W ((HR.out.below hW).more hW.size) HF.out HN.out (((HR2.out.below hW).more hW.size).take) (HF2.out.take k) (by unfold maxLen; omega)
        rwa [htl] at this
      clear hbw hnt hx5 hb5 htl
      go_wp2_with fail
      generalize hg5 : wr.alloc (.cells #[.int .i64 l[k].1, .string l[k].2.1, .int .i64 l[k].2.2] 49) = w5 at *
      clear hc1 hc2 hc3
      have cM : ∀ dq os, Calls Try.prog 95 #[.slice A h.length c, .slice (some ⟨b, off, none⟩) k d, .agg #[.int .i64 l[k].1, .string l[k].2.1, .int .i64 l[k].2.2]] (Go.Sort.grow (redrawn w5 dq) os) fun e w'' => e = .returned (.bool (mayB h (l.take k) l[k])) ∧ ∃ p : Regrown, w'' = Go.Sort.grow (redrawn w5 p.d) p.os := fun dq os => Calls.regrown_of (HMH.out _ (HB5.out.trans ((below_regrown w5 dq os).mono HB5.out.size)))
      have x0 := cell_regrown X5.out.c0
      have x1 := cell_regrown X5.out.c1
      have x2 := cell_regrown X5.out.c2
      cases hmay : mayB h (l.take k) l[k]
      case false =>
        rw [hmay] at cM
        refine wp_region_quiet_below (by kernel_rfl) (by kernel_rfl) ?_
        repeat (go_big_quiet_step (first | exact cM _ _))
        refine wpQuiet_nil ?_
        intro _ hw'
        obtain ⟨⟨dq, osq⟩, hw''⟩ := hw'
        subst hw''
        go_wp2_with fail
        go_roundw
        case rel => exact ⟨k + 1, by omega, by go_num, HS.out hmay, HB5.out.trans ((below_regrown w5 dq osq).mono HB5.out.size)⟩
        case measure => simp [intOf]; omega
      case true =>
        rw [hmay] at cM
        have HV : Hid (firstV h l = (k : Int)) := by rw [Hid, firstV, HI.out hmay]
        refine wp_region_quiet_below (by kernel_rfl) (by kernel_rfl) ?_
        repeat (go_big_quiet_step (first | exact cM _ _))
        refine wpQuiet_nil ?_
        intro _ hw'
        obtain ⟨⟨dq, osq⟩, hw''⟩ := hw'
        subst hw''
        go_wp2_with fail
        go_ret
        exact ⟨ret_int HV.out.symm, HB5.out.trans ((below_regrown w5 dq osq).mono HB5.out.size)⟩
    · obtain rfl : k = l.length := by omega
      have HV : Hid (firstV h l = -1) := by rw [Hid, firstV, firstL_none hnt]
      clear hbw hnt
      go_wp2_with fail
      go_ret
      exact ⟨ret_int HV.out.symm, HD.out⟩
end Go.Proofs.Ytjdmaoegfpgfjaa
namespace Go.Proofs.Ytjdmaoegfpgfjaa
open Go.RowKit Go.Shelf

set_option maxHeartbeats 2000000 in
set_option maxRecDepth 100000 in
theorem impl_cloneH (A : Option Addr) (c : Nat) (hs : HS) (w : World) (hr : RH w w.heap.size A hs) (hn : hs.length ≤ 1000) :
    Calls Try.prog 78 #[.slice A hs.length c] w (MadeH w w.heap.size hs) := by
  obtain ⟨i0, hi0, hz0, hz1, hz2⟩ := info_parts holdInfo
  have qT : ∀ (w : World) (a : Option Addr) (n c n' c' : Nat), (binOp .eql 37 (.slice a n c) (.slice none n' c')).run Try.prog w = .ok (.bool a.isNone) w := fun w a n c n' c' => Lib.run_eql_slice_nil w _ _ a n c n' c' Try.underlying37
  rcases A with _ | ad
  · obtain rfl : hs = [] := by
      rcases hr with h | ⟨b, off, e, _⟩
      · exact h
      · cases e
    go_enter Try.func78, Try.ntmps78
    go_wp2_with fail
    go_ret
    exact ⟨none, 0, rfl, OwnH.nil_ _ _, Below.refl _ _⟩
  · have HVA := hid ((Below.refl w.heap.size w).alloc (Nat.le_refl _) (.cells #[] 49))
    have N8 := hid (OwnH.made (w := w) (Nat.le_refl _) #[] 0 rfl (Nat.zero_le _))
    have HR := hid (hr.below HVA.out)
    clear hr
    go_enter Try.func78, Try.ntmps78
    go_wp2_with (at_builtin; refine wpList_append_rh _ rfl _ _ _ rfl i0 Try.underlying37 hi0 hz0 hz1 hz2 w.heap.size (some ⟨w.heap.size, 0, none⟩) 0 0 [] rfl rfl N8.out w.heap.size (some ad) hs.length c hs rfl rfl HR.out (by simp; omega) (by simp) ?_; intro A' n' c' w7 hn7 hap7; have HN7 := hid hn7; have hb7 := hap7.below N8.out rfl (by simp); have HO7 := hid hap7.own; have HB7 := hid (HVA.out.trans hb7); clear hn7 hap7 hb7)
    go_ret
    exact ⟨A', c', by rw [HN7.out]; rfl, HO7.out, HB7.out⟩

/-! ### slices.DeleteFunc -/
/-- The row while it is gone through: the first i are those that are kept of the first j; from j on it is as it was. -/
def GoneInv (hs cur : HS) (p : HD → Bool) (i j : Nat) : Prop := cur.length = hs.length ∧ i < j ∧ j ≤ hs.length ∧ cur.take i = (hs.take j).filter (fun x => !p x) ∧ cur.drop j = hs.drop j
theorem GoneInv.at_ {hs cur : HS} {p : HD → Bool} {i j : Nat} (h : GoneInv hs cur p i j) (hj : j < hs.length) : ∃ hc : j < cur.length, cur[j] = hs[j] := by
  have h1 := h.1
  have h2 := h.2.2.2.2
  refine ⟨by omega, ?_⟩
  have := congrArg (fun l => l[0]?) h2
  simp only [List.getElem?_drop, Nat.add_zero] at this
  rw [List.getElem?_eq_getElem (by omega), List.getElem?_eq_getElem hj] at this
  exact Option.some.inj this
theorem GoneInv.skip {hs cur : HS} {p : HD → Bool} {i j : Nat} (h : GoneInv hs cur p i j) (hj : j < hs.length) (hp : p hs[j] = true) : GoneInv hs cur p i (j + 1) := by
  obtain ⟨h1, h2, h3, h4, h5⟩ := h
  refine ⟨h1, by omega, by omega, ?_, ?_⟩
  · rw [h4, List.take_succ_eq_append_getElem hj, List.filter_append]
    simp [hp]
  · rw [← List.drop_drop, ← List.drop_drop, h5]
theorem GoneInv.keep {hs cur : HS} {p : HD → Bool} {i j : Nat} (h : GoneInv hs cur p i j) (hj : j < hs.length) (hp : p hs[j] = false) : GoneInv hs (cur.set i hs[j]) p (i + 1) (j + 1) := by
  obtain ⟨h1, h2, h3, h4, h5⟩ := h
  refine ⟨by rw [List.length_set]; exact h1, by omega, by omega, ?_, ?_⟩
  · rw [List.take_set, List.take_succ_eq_append_getElem (by omega : i < cur.length), List.take_succ_eq_append_getElem hj, List.filter_append, ← h4]
    rw [List.set_append_right _ _ (by rw [List.length_take]; omega)]
    have : i - (cur.take i).length = 0 := by rw [List.length_take]; omega
    rw [this]
    simp [hp]
  · rw [List.drop_set_of_lt (by omega), ← List.drop_drop, ← List.drop_drop, h5]
theorem GoneInv.start {hs : HS} {p : HD → Bool} {k : Nat} (hn : noneH hs p k) (hk : k < hs.length) (hp : p hs[k] = true) : GoneInv hs hs p k (k + 1) := by
  refine ⟨rfl, by omega, by omega, ?_, rfl⟩
  rw [List.take_succ_eq_append_getElem hk, List.filter_append]
  have : (hs.take k).filter (fun x => !p x) = hs.take k := by
    rw [List.filter_eq_self]
    intro x hx
    obtain ⟨i, hi, rfl⟩ := List.getElem_of_mem hx
    rw [List.length_take] at hi
    rw [List.getElem_take, hn i (by omega) (by omega)]
    rfl
  rw [this]
  simp [hp]
theorem idxV_cases (hs : HS) (p : HD → Bool) : (idxV hs p = -1 ∧ hs.filter (fun x => !p x) = hs) ∨ (∃ (k : Nat) (_ : k < hs.length), idxV hs p = (k : Int) ∧ GoneInv hs hs p k (k + 1)) := by
  cases h : hs.findIdx? p with
  | none =>
    have h2 := List.findIdx?_eq_none_iff.1 h
    exact .inl ⟨by rw [idxV, h], List.filter_eq_self.2 fun x hx => by rw [h2 x hx]; rfl⟩
  | some i =>
    obtain ⟨hi, h1, h3⟩ := List.findIdx?_eq_some_iff_getElem.1 h
    refine .inr ⟨i, hi, by rw [idxV, h], GoneInv.start (fun j hj hji => ?_) hi h1⟩
    have := h3 j hji
    simpa using this

theorem some_lit {g b o : Nat} (h : (some ⟨g, 0, none⟩ : Option Addr) = some ⟨b, o, none⟩) : g = b ∧ 0 = o := by
  injection h with h
  injection h with h1 h2
  exact ⟨h1, h2⟩
theorem OwnH.frozenH {w : World} {B g c : Nat} {hs : HS} (h : OwnH w B (some ⟨g, 0, none⟩) c hs) (j : Nat) : w.frozen? ⟨g, j, none⟩ = false := World.ownsRow.frozenAt h j
theorem grown_cell {w w' : World} {row : Option Nat} (h : w.grownBy w' row) {q o : Nat} (hq : q < w.heap.size) (hne : some q ≠ row) : w'.cell? ⟨q, o, none⟩ = w.cell? ⟨q, o, none⟩ := World.cell?_of_block (w := w) (h.block q hq hne)
theorem grown_trans {a b c : World} {row : Option Nat} (h : a.grownBy b row) (k : b.grownBy c row) : a.grownBy c row := ⟨k.os.trans h.os, k.tape.trans h.tape, k.output.trans h.output, Nat.le_trans h.size k.size, fun i hi hne => (k.block i (Nat.lt_of_lt_of_le hi h.size) hne).trans (h.block i hi hne)⟩
theorem below_grownR {a b : World} (h : Below a.heap.size a b) (row : Option Nat) : a.grownBy b row := ⟨h.os, h.tape, h.output, h.size, fun k hk _ => h.block k hk⟩
/-- What is behind is cleared, and the row cut. -/
theorem OwnH.swept {w : World} {B g c i n : Nat} {cur : HS} (h : OwnH w B (some ⟨g, 0, none⟩) c cur) (hn : cur.length = n) (hi : i < n) :
    OwnH (w.setCells g (i * 3) (zeroH (n - i))) B (some ⟨g, 0, none⟩) c (cur.take i) ∧ w.grownBy (w.setCells g (i * 3) (zeroH (n - i))) (some g) ∧
    (∀ j, j < (zeroH (n - i)).length → (w.cell? ⟨g, i * 3 + j, none⟩).isSome = true) ∧ ∀ j, j < (zeroH (n - i)).length → w.frozen? ⟨g, i * 3 + j, none⟩ = false := by
  subst hn
  have hz := zeroH_length (cur.length - i)
  have hb : i * 3 + (zeroH (cur.length - i)).length ≤ cur.length * 3 := by omega
  have hx := h.1
  obtain ⟨s1, s2⟩ := own_setCells (zeroH (cur.length - i)) (i * 3) w (hcells cur) h hb
  have s3 := own_cut s1 (k := i) (by omega)
  have e3 : (spliceL (hcells cur) (i * 3) (zeroH (cur.length - i))).take (i * 3) = hcells (cur.take i) := by
    unfold spliceL
    rw [List.append_assoc, List.take_append_of_le_length (by rw [List.length_take]; omega), List.take_take, Nat.min_self, hcells_take]
  rw [e3] at s3
  refine ⟨?_, s2, fun j hj => ?_, fun j _ => h.frozenH _⟩
  · unfold OwnH
    rw [List.length_take, Nat.min_eq_left (by omega)]
    exact s3
  · have := World.ownsRow.cellAt h (i * 3 + j) (by omega)
    rw [this, List.getElem?_eq_getElem (by omega)]
    rfl
theorem holdZero : ∀ w : World, (zeroValue 49).run Try.prog w = .ok (.agg #[.int .i64 0, .string ⟨#[]⟩, .int .i64 0]) w := fun _ => by kernel_rfl
set_option maxHeartbeats 8000000 in
set_option maxRecDepth 100000 in
theorem impl_goneRow (q : Nat) (t : Int) (A : Option Addr) (c : Nat) (hs : HS) (B : Nat) (w : World) (ho : OwnH w B A c hs) (hf : FitsH hs) (hn : hs.length ≤ 1000) (hq : q < w.heap.size) (c0 : w.cell? ⟨q, 0, none⟩ = some (.int .i64 t)) (hqg : ∀ k, Value.ownBlock (.slice A hs.length c) = some k → k ≠ q) :
    Calls Try.prog 77 #[.slice A hs.length c, .func (.func 76) #[] #[.pointer (some ⟨q, 0, none⟩)]] w fun e w' => e = .returned (.slice A (goneL hs t).length c) ∧ OwnH w' B A c (goneL hs t) ∧ w.grownBy w' (Value.ownBlock (.slice A hs.length c)) := by
  have hnm : hs.length ≤ maxLen := by unfold maxLen; omega
  have hidx := indexFunc_any 76 q ent_gone (fun h => decide (h.1 = t)) A c hs w ho.rh hf hnm (goneFn q t w hq c0)
  have HF := hid hf
  rcases idxV_cases hs (fun h => decide (h.1 = t)) with ⟨e1, hfil⟩ | ⟨k0, hk0, e1, hinv⟩
  · rw [e1] at hidx
    have HI := hid hidx
    have HG : Hid (goneL hs t = hs) := hfil
    have HO := hid ho
    clear hidx ho hfil e1 hqg
    go_enter Try.func77, Try.ntmps77
    go_wp2_with (go_at_call 137; refine HI.out.mono ?_; rintro e w2 ⟨rfl, hb2⟩)
    go_ret
    rw [HG.out]
    exact ⟨rfl, HO.out.below hb2, ⟨hb2.os, hb2.tape, hb2.output, hb2.size, fun k hk _ => hb2.block k hk⟩⟩
  · rw [e1] at hidx
    have HI := hid hidx
    obtain ⟨g, rfl⟩ : ∃ g, A = some ⟨g, 0, none⟩ := by
      rcases ho.2 with ⟨hv, hz⟩ | ⟨g, cap, cur, hv, _⟩
      · omega
      · injection hv with e
        exact ⟨g, e⟩
    have hgq := hqg g rfl
    have hcap := ho.cap
    have hcap1 := hcap.1
    have hcap2 := hcap.2
    unfold maxLen at hcap2
    have HINV := hid hinv
    have HO := hid ho
    have HC0 := hid c0
    have hne1 : ((k0 : Int) == -1) = false := by rw [beq_eq_false_iff_ne]; omega
    clear hidx ho hinv e1 hqg c0 hcap
    go_enter Try.func77, Try.ntmps77
    go_wp2_with (go_at_call 137; refine HI.out.mono ?_; rintro e w2 ⟨rfl, hb2⟩; have HB2 := hid hb2; clear hb2)
    go_loopw [5, 6] (fun i5 i6 wr => ∃ (i j : Nat) (cur : HS), i5 = .int .i64 i ∧ i6 = .int .i64 j ∧ Hid (GoneInv hs cur (fun h => decide (h.1 = t)) i j) ∧ j ≤ hs.length ∧ Hid (OwnH wr B (some ⟨g, 0, none⟩) c cur) ∧ Hid (wr.cell? ⟨q, 0, none⟩ = some (.int .i64 t)) ∧ Hid (w.grownBy wr (some g)) ∧ q < wr.heap.size) (fun _ i6 _ => hs.length - (intOf i6).toNat)
    case atStart => exact ⟨k0, k0 + 1, hs, rfl, by go_num, HINV.out, by omega, HO.out.below HB2.out, (HB2.out.cell (p := ⟨q, 0, none⟩) hq).trans HC0.out, ⟨HB2.out.os, HB2.out.tape, HB2.out.output, HB2.out.size, fun k hk _ => HB2.out.block k hk⟩, Nat.lt_of_lt_of_le hq HB2.out.size⟩
    case round =>
      obtain ⟨i, j, cur, rfl, rfl, HGI, hjn, HOC, HQ, HG, hqw⟩ := hrel
      have hcl := HGI.out.1
      have hij := HGI.out.2.1
      have HCL := hid hcl
      clear hcl
      by_cases hlt : j < hs.length
      · obtain ⟨hjc, hje⟩ := HGI.out.at_ hlt
        obtain ⟨b, off, e', hb, hc1, hc2, hc3⟩ := HOC.out.rh.at_ hjc
        injection e' with e'
        injection e' with ea eb
        subst ea eb
        rw [hje] at hc1 hc2 hc3
        simp only [Nat.zero_add] at hc1 hc2 hc3
        have HSK := hid (HGI.out.skip hlt)
        have HKP := hid (HGI.out.keep hlt)
        have HFJ := hid (HF.out.get hlt)
        have hic : i < cur.length := by omega
        have HX := hid (Row3.lit wr 49 (.int .i64 hs[j].1) (.string hs[j].2.1) (.int .i64 hs[j].2.2))
        have HBA := hid ((Below.refl wr.heap.size wr).alloc (Nat.le_refl _) (.cells #[.int .i64 hs[j].1, .string hs[j].2.1, .int .i64 hs[j].2.2] 49))
        have HOC2 := hid (HOC.out.below HBA.out)
        have hq2 : q < (wr.alloc (.cells #[.int .i64 hs[j].1, .string hs[j].2.1, .int .i64 hs[j].2.2] 49)).heap.size := by simp; omega
        have HQ2 := hid ((HBA.out.cell (p := ⟨q, 0, none⟩) hqw).trans HQ.out)
        have hgw : g < wr.heap.size := hb
        have e5 : (0 : Int) ≤ (j : Int) := by omega
        have e6 : (j : Int) < (hs.length : Int) := by omega
        have e7 : (0 : Int) ≤ (i : Int) := by omega
        have e8 : (i : Int) < (hs.length : Int) := by have := HCL.out; omega
        have e9 : i < hs.length := by have := HCL.out; omega

        go_wp2_with fail
        generalize hg5 : wr.alloc (.cells #[.int .i64 hs[j].1, .string hs[j].2.1, .int .i64 hs[j].2.2] 49) = w5 at *
        clear hg5 hc1 hc2 hc3
        have x0 := HX.out.c0
        have x1 := HX.out.c1
        have x2 := HX.out.c2
        cases hp : decide (hs[j].1 = t)
        case true =>
          go_wp2_with (go_at_call 76; refine (goneFn q t w5 hq2 HQ2.out w5 hs[j] (Below.refl _ _) HFJ.out).mono ?_; rintro e w6 ⟨rfl, hb6⟩; have HB6 := hid hb6; clear hb6)
          go_roundw
          case rel => exact ⟨i, j + 1, cur, rfl, by go_num, HSK.out hp, by omega, HOC2.out.below HB6.out, (HB6.out.cell (p := ⟨q, 0, none⟩) hq2).trans HQ2.out, ⟨HB6.out.os.trans (HBA.out.os.trans HG.out.os), HB6.out.tape.trans (HBA.out.tape.trans HG.out.tape), HB6.out.output.trans (HBA.out.output.trans HG.out.output), Nat.le_trans HG.out.size (Nat.le_trans HBA.out.size HB6.out.size), fun k hk hne => (HB6.out.block k (by have := HG.out.size; have := HBA.out.size; omega)).trans ((HBA.out.block k (by have := HG.out.size; omega)).trans (HG.out.block k hk hne))⟩, Nat.lt_of_lt_of_le hq2 HB6.out.size⟩
          case measure => simp [intOf]; omega
        case false =>
          go_wp2_with (go_at_call 76; refine (goneFn q t w5 hq2 HQ2.out w5 hs[j] (Below.refl _ _) HFJ.out).mono ?_; rintro e w6 ⟨rfl, hb6⟩; have HB6 := hid hb6; have hq6 : q < w6.heap.size := Nat.lt_of_lt_of_le hq2 hb6.size; have HQ6 := hid ((hb6.cell (p := ⟨q, 0, none⟩) hq2).trans HQ2.out); have HG6 := hid (grown_trans (grown_trans HG.out (below_grownR HBA.out _)) (below_grownR hb6 _)); have HO6 := hid (HOC2.out.below hb6); have HX6 := hid (HX.out.below hb6); have x60 := HX6.out.c0; have x61 := HX6.out.c1; have x62 := HX6.out.c2; obtain ⟨_, _, ea6, _, ca6, cb6, cc6⟩ := HO6.out.rh.at_ hic; obtain ⟨ea, eb⟩ := some_lit ea6; subst ea eb; simp only [Nat.zero_add] at ca6 cb6 cc6; have fa6 := HO6.out.frozenH (i * 3); have fb6 := HO6.out.frozenH (i * 3 + 1); have fc6 := HO6.out.frozenH (i * 3 + 2); clear hb6 ea6)
          obtain ⟨pu1, pu2⟩ := HO6.out.put hic hs[j]
          have PU1 := hid pu1
          have PU2 := hid pu2
          clear pu1 pu2
          go_roundw
          case rel => exact ⟨i + 1, j + 1, cur.set i hs[j], by go_num, by go_num, HKP.out hp, by omega, PU1.out, (grown_cell PU2.out hq6 (by simp; omega)).trans HQ6.out, grown_trans HG6.out PU2.out, Nat.lt_of_lt_of_le hq6 PU2.out.size⟩
          case measure => simp [intOf]; omega
      · obtain rfl : j = hs.length := by omega
        obtain ⟨s1, s2, s3, s4⟩ := HOC.out.swept HCL.out hij
        have S1 := hid s1
        have S2 := hid s2
        have HT : Hid (cur.take i = goneL hs t) := by
          have := HGI.out.2.2.2.1
          rw [List.take_length] at this
          exact this
        have hgl : Hid ((goneL hs t).length = i) := by
          show _ = _
          rw [← HT.out, List.length_take, HCL.out]
          omega
        have hcl : ∀ ty, (Builtin.clear_ #[37] ty #[.slice (some ⟨g, i * 3, none⟩) (hs.length - i) (c - i)]).run Try.prog wr = .ok (.tuple #[]) (wr.setCells g (i * 3) (zeroH (hs.length - i))) := fun ty => run_clear_hold wr _ _ ty Try.underlying37 holdZero g (i * 3) (hs.length - i) (c - i) (by omega) s3 s4 (zeroH_one _)
        have e7 : (0 : Int) ≤ (i : Int) := by omega
        have e8 : (i : Int) ≤ (hs.length : Int) := by omega
        have e9 : i ≤ hs.length := by omega
        have e10 : i ≤ c := by omega
        clear s1 s2 s3 s4
        go_wp2_with fail
        go_ret
        exact ⟨by rw [hgl.out]; rfl, by rw [← HT.out]; exact S1.out, grown_trans HG.out S2.out⟩
end Go.Proofs.Ytjdmaoegfpgfjaa
namespace Go.Proofs.Ytjdmaoegfpgfjaa
open Go.RowKit Go.Shelf

/-- A row of the call's own that may have moved: to where it was or to a new block. -/
structure SetH (w : World) (B : Nat) (A0 : Option Addr) (n0 c0 : Nat) (rs : HS) (e : Ending) (w' : World) : Prop where
  ex : ∃ A' c', e = .returned (.slice A' rs.length c') ∧ OwnH w' B A' c' rs ∧ (Value.ownBlock (.slice A' rs.length c') = Value.ownBlock (.slice A0 n0 c0) ∨ ∃ k, Value.ownBlock (.slice A' rs.length c') = some k ∧ w.heap.size ≤ k)
  grown : w.grownBy w' (Value.ownBlock (.slice A0 n0 c0))

set_option maxHeartbeats 2000000 in
set_option maxRecDepth 100000 in
theorem impl_withHold (A : Option Addr) (c : Nat) (hs : HS) (x : HD) (B : Nat) (w : World) (ho : OwnH w B A c hs) (hf : FitsH hs) (hu : Uniq hs) (hn : hs.length ≤ 1000) (hB : B ≤ w.heap.size) :
    Calls Try.prog 80 #[.slice A hs.length c, .agg #[.int .i64 x.1, .string x.2.1, .int .i64 x.2.2]] w (SetH w B A hs.length c (giveL hs x)) := by
  obtain ⟨i0, hi0, hz0, hz1, hz2⟩ := info_parts holdInfo
  have HB1 := hid ((Below.refl w.heap.size w).alloc (Nat.le_refl _) (.cells #[.int .i64 x.1, .string x.2.1, .int .i64 x.2.2] 49))
  have X1 := hid (Row3.lit w 49 (.int .i64 x.1) (.string x.2.1) (.int .i64 x.2.2))
  have HO1 := hid (ho.below HB1.out)
  have hnm : hs.length ≤ maxLen := by unfold maxLen; omega
  have hsz := ho.size
  have HSZ := hid hsz
  clear hsz ho
  go_enter Try.func80, Try.ntmps80
  go_wp2_with fail
  have HW1 : Hid (w.heap.size + 1 = (w.alloc (.cells #[.int .i64 x.1, .string x.2.1, .int .i64 x.2.2] 49)).heap.size) := by show _ = _; simp
  generalize hw1 : w.alloc (.cells #[.int .i64 x.1, .string x.2.1, .int .i64 x.2.2] 49) = w1 at *
  clear hw1
  have HP := hid (impl_placeOfOwn A c hs x w1 HO1.out.rh hf hnm)
  cases hany : hs.any fun h => ownB h x
  case true =>
    obtain ⟨ri, hri, hr1, hr2⟩ := own_yes hany
    have HG : Hid (giveL hs x = hs.set ri x) := give_set hu hri hr2
    rw [hr1] at HP
    obtain ⟨g, rfl⟩ : ∃ g, A = some ⟨g, 0, none⟩ := by
      rcases HO1.out.2 with ⟨hv, hz⟩ | ⟨g, cap, cur, hv, _⟩
      · omega
      · injection hv with e
        exact ⟨g, e⟩
    have er : (0 : Int) ≤ (ri : Int) := by omega
    have er2 : (ri : Int) < (hs.length : Int) := by omega
    clear hr1 hr2
    go_wp2_with (go_at_call 89; refine HP.out.mono ?_; rintro e w2 ⟨rfl, hb2⟩; have HB2 := hid (HB1.out.trans (hb2.mono HB1.out.size)); have HO2 := hid (HO1.out.below hb2); have X2 := hid (X1.out.below hb2); have x20 := X2.out.c0; have x21 := X2.out.c1; have x22 := X2.out.c2; obtain ⟨_, _, ea6, _, ca6, cb6, cc6⟩ := HO2.out.rh.at_ hri; obtain ⟨ea, eb⟩ := some_lit ea6; subst ea eb; simp only [Nat.zero_add] at ca6 cb6 cc6; have fa6 := HO2.out.frozenH (ri * 3); have fb6 := HO2.out.frozenH (ri * 3 + 1); have fc6 := HO2.out.frozenH (ri * 3 + 2); obtain ⟨pu1, pu2⟩ := HO2.out.put hri x; have PU1 := hid pu1; have PU2 := hid pu2; clear pu1 pu2 hb2 ea6)
    go_ret
    rw [HG.out]
    refine ⟨⟨some ⟨g, 0, none⟩, c, by rw [List.length_set]; rfl, PU1.out, .inl rfl⟩, grown_trans (below_grownR HB2.out _) PU2.out⟩
  case false =>
    have HG : Hid (giveL hs x = hs ++ [x]) := give_new hany
    rw [own_no hany] at HP
    go_wp2_with (first
      | (go_at_call 89; refine HP.out.mono ?_; rintro e w2 ⟨rfl, hb2⟩; have HB2 := hid (HB1.out.trans (hb2.mono HB1.out.size)); have HO2 := hid (HO1.out.below hb2); have X2 := hid (X1.out.below hb2); have x20 := X2.out.c0; have x21 := X2.out.c1; have x22 := X2.out.c2; have HL2 : Hid (B ≤ (w2.alloc (.cells #[.int .i64 x.1, .string x.2.1, .int .i64 x.2.2] 49)).heap.size) := (by have h1 := HB2.out.size; show _ ≤ _; simp; omega); have HL1 : Hid (hs.length + [x].length ≤ 4000000) := (by show _ ≤ _; simp; omega); clear hb2)
      | (at_builtin; refine wpList_append_rh _ rfl _ _ _ rfl i0 Try.underlying37 hi0 hz0 hz1 hz2 B A hs.length c hs rfl rfl (HO2.out.below ((Below.refl _ _).alloc (Nat.le_refl _) _)) (w2.heap.size + 1) (some ⟨w2.heap.size, 0, none⟩) 1 1 [x] rfl rfl (RH.new w2 x 49) HL1.out HL2.out ?_; intro A' n' c' w7 hn7 hap7; have HN7 := hid hn7; have HA7 := hid hap7; clear hn7 hap7))
    go_ret
    rw [HG.out]
    exact ⟨⟨A', c', by rw [HN7.out]; rfl, HA7.out.own, by rcases HA7.out.at_ with h | h; exact .inl h; exact .inr ⟨_, h, by have := HB2.out.size; simp; omega⟩⟩, grown_trans (grown_trans (below_grownR HB2.out _) (below_grownR ((Below.refl _ _).alloc (Nat.le_refl _) _) _)) HA7.out.grown⟩
end Go.Proofs.Ytjdmaoegfpgfjaa
namespace Go.Proofs.Ytjdmaoegfpgfjaa
open Go.RowKit Go.Shelf

theorem cutAt_cells {hs : HS} {i n : Nat} (hi : i < hs.length) (hn : n = i + (hs.length - (i + 1))) : (spliceL (hcells hs) (i * 3) (hcells (hs.drop (i + 1)))).take (n * 3) = hcells (cutAt hs i) := by
  unfold spliceL cutAt
  rw [hcells_take, ← hcells_append, List.take_append_of_le_length (by rw [hcells_length, List.length_append, List.length_take, List.length_drop]; omega), hcells_take, List.take_of_length_le (by rw [List.length_append, List.length_take, List.length_drop]; omega)]

/-- What the append leaves, and what the clearing behind it does. -/
theorem OwnH.cutOne {w : World} {B g c i n : Nat} {hs : HS} (h : OwnH w B (some ⟨g, 0, none⟩) c hs) (hi : i < hs.length) (hn : n = i + (hs.length - (i + 1))) :
    (∀ j, j < (zeroH (hs.length - n)).length → ((w.setCells g (i * 3) (hcells (hs.drop (i + 1)))).cell? ⟨g, n * 3 + j, none⟩).isSome = true) ∧
    (∀ j, j < (zeroH (hs.length - n)).length → (w.setCells g (i * 3) (hcells (hs.drop (i + 1)))).frozen? ⟨g, n * 3 + j, none⟩ = false) ∧
    OwnH ((w.setCells g (i * 3) (hcells (hs.drop (i + 1)))).setCells g (n * 3) (zeroH (hs.length - n))) B (some ⟨g, 0, none⟩) c (cutAt hs i) ∧
    w.grownBy ((w.setCells g (i * 3) (hcells (hs.drop (i + 1)))).setCells g (n * 3) (zeroH (hs.length - n))) (some g) := by
  have hz := zeroH_length (hs.length - n)
  have hl : i * 3 + (hcells (hs.drop (i + 1))).length ≤ hs.length * 3 := by rw [hcells_length, List.length_drop]; omega
  obtain ⟨s1, s2⟩ := own_setCells (hcells (hs.drop (i + 1))) (i * 3) w (hcells hs) h hl
  have hx := s1.1
  obtain ⟨t1, t2⟩ := own_setCells (zeroH (hs.length - n)) (n * 3) _ _ s1 (by omega)
  have t3 := own_cut t1 (k := n) (by omega)
  have e3 : (spliceL (spliceL (hcells hs) (i * 3) (hcells (hs.drop (i + 1)))) (n * 3) (zeroH (hs.length - n))).take (n * 3) = hcells (cutAt hs i) := by
    rw [← cutAt_cells hi hn]
    generalize spliceL (hcells hs) (i * 3) (hcells (hs.drop (i + 1))) = L at hx
    unfold spliceL
    rw [List.append_assoc, List.take_append_of_le_length (by rw [List.length_take]; omega), List.take_take, Nat.min_self]
  rw [e3] at t3
  refine ⟨fun j hj => ?_, fun j _ => World.ownsRow.frozenAt s1 _, ?_, grown_trans s2 t2⟩
  · have := World.ownsRow.cellAt s1 (n * 3 + j) (by omega)
    rw [this, List.getElem?_eq_getElem (by omega)]
    rfl
  · unfold OwnH
    have : (cutAt hs i).length = n := by rw [cutAt_length hi]; omega
    rw [this]
    exact t3

set_option maxHeartbeats 4000000 in
set_option maxRecDepth 1000000 in
theorem impl_delH (g c i j : Nat) (hs : HS) (B : Nat) (w : World) (ho : OwnH w B (some ⟨g, 0, none⟩) c hs) (hi : i < hs.length) (hj : j = i + 1) (hn : hs.length ≤ 1000) :
    Calls Try.prog 81 #[.slice (some ⟨g, 0, none⟩) hs.length c, .int .i64 (i : Int), .int .i64 (j : Int)] w fun e w' => e = .returned (.slice (some ⟨g, 0, none⟩) (cutAt hs i).length c) ∧ OwnH w' B (some ⟨g, 0, none⟩) c (cutAt hs i) ∧ w.grownBy w' (some g) := by
  obtain ⟨i0, hi0, hz0, hz1, hz2⟩ := info_parts holdInfo
  have hcap := ho.cap
  have hcap1 := hcap.1
  have hcap2 := hcap.2
  unfold maxLen at hcap2
  have HD := hid (show OwnH w.drew B (some ⟨g, 0, none⟩) c hs from ho)
  obtain ⟨news, hnews⟩ : ∃ news, news = hcells (hs.drop (i + 1)) := ⟨_, rfl⟩
  have hlen : news.length = (hs.length - j) * 3 := by rw [hnews, hcells_length, List.length_drop, hj]
  obtain ⟨A, hA, hsrc⟩ : ∃ A : Addr, (if c = j then some (⟨g, 0, none⟩ : Addr) else some ⟨g, j * 3, none⟩) = some A ∧ Hid (∀ t u, news[t]? = some u → w.drew.cell? (A.add t) = some u) := by
    by_cases h : c = j
    · refine ⟨⟨g, 0, none⟩, by simp [h], fun t u hu => ?_⟩
      have h0 : news.length = 0 := by rw [hlen]; omega
      rw [List.length_eq_zero_iff.1 h0] at hu
      simp at hu
    · refine ⟨⟨g, j * 3, none⟩, by simp [h], fun t u hu => ?_⟩
      rw [hnews, ← hcells_drop, List.getElem?_drop] at hu
      have := HD.out.cells (g := g) rfl _ _ hu
      rw [Addr.add_lit] at this ⊢
      rw [hj]
      simpa using this
  have s1 : Hid (news.length = (hs.length - j) * 3) := hlen
  have s2 : Hid (∀ u ∈ news, u.oneCell' = true) := by
    intro u hu
    rw [hnews] at hu
    exact hcells_one _ u hu
  have s3 : Hid (∀ t, t < news.length → (w.drew.cell? ⟨g, 0 + i * 3 + t, none⟩).isSome = true ∧ w.drew.frozen? ⟨g, 0 + i * 3 + t, none⟩ = false) := by
    intro t ht
    rw [hlen] at ht
    have hx := HD.out.1
    have := World.ownsRow.cellAt HD.out (i * 3 + t) (by omega)
    rw [Nat.zero_add, this, List.getElem?_eq_getElem (by omega)]
    exact ⟨rfl, HD.out.frozenH _⟩
  obtain ⟨t1, t2, t3, t4⟩ := HD.out.cutOne (n := i + (hs.length - j)) hi (by rw [hj])
  rw [← hnews] at t1 t2 t3 t4
  obtain ⟨W1, hW1⟩ : ∃ W1, W1 = w.drew.setCells g (0 + i * 3) news := ⟨_, rfl⟩
  rw [Nat.zero_add] at hW1
  rw [← hW1] at t1 t2 t3 t4
  have hW : Hid (W1 = w.drew.setCells g (0 + i * 3) news) := by rw [Nat.zero_add]; exact hW1
  have T3 := hid t3
  have T4 := hid t4
  have hcl : ∀ ty, (Builtin.clear_ #[37] ty #[.slice (some ⟨g, (i + (hs.length - j)) * 3, none⟩) (hs.length - (i + (hs.length - j))) (c - (i + (hs.length - j)))]).run Try.prog W1 = .ok (.tuple #[]) (W1.setCells g ((i + (hs.length - j)) * 3) (zeroH (hs.length - (i + (hs.length - j))))) := fun ty => run_clear_hold W1 _ _ ty Try.underlying37 holdZero g _ _ _ (by omega) t1 t2 (zeroH_one _)
  have HL : Hid ((cutAt hs i).length = i + (hs.length - j)) := by show _ = _; rw [cutAt_length hi]; omega
  have hne : (i : Int) ≠ (j : Int) := by omega
  have hij : i ≤ j := by omega
  have hjn : j ≤ hs.length := by omega
  have hic : i ≤ c := by omega
  have hjc : j ≤ c := by omega
  have e1 : (0 : Int) ≤ (i : Int) := by omega
  have e2 : (i : Int) ≤ (j : Int) := by omega
  have e3 : (j : Int) ≤ (hs.length : Int) := by omega
  have e4 : (hs.length : Int) ≤ (c : Int) := by omega
  have HI := hid hi
  have HJ := hid hj
  clear t1 t2 t3 t4 hW1 hnews hlen HD ho hcap hi hj
  go_enter Try.func81, Try.ntmps81
  go_wp2_with fail
  go_region_law (refine step_append_room (by rfl) (.tmp 22) (.tmp 25) 37 (by rfl) 49 i0 3 Try.underlying37 hi0 hz1 g 0 i c (by simp [Act.eval, Act.put]) A (hs.length - j) (c - j) news (by simp [Act.eval, Act.put]) s1.out hsrc.out s2.out (by omega) s3.out ?_; rw [← hW.out])
  go_wp2_with fail
  go_ret
  exact ⟨by rw [HL.out]; rfl, T3.out, grown_trans (below_grownR (Below.refl _ w).drew _) T4.out⟩
end Go.Proofs.Ytjdmaoegfpgfjaa
namespace Go.Proofs.Ytjdmaoegfpgfjaa
open Go.RowKit Go.Shelf

def lenV : Value → Nat | .slice _ n _ => n | _ => 0
theorem firstV_some {h l : HS} {i : Nat} (e : firstL h l = some i) : firstV h l = (i : Int) := by rw [firstV, e]
theorem firstV_none {h l : HS} (e : firstL h l = none) : firstV h l = -1 := by rw [firstV, e]
/-- What holds in Free's loop. -/
structure FrIn (h l : HS) (ws : List Int) (r : HS × HS × List Int) : Prop where
  lk : LkIn h l
  un : Uniq h
  run : ∃ f, l.length ≤ f ∧ wakeF f h l ws = r
  wl : ws.length + l.length ≤ 100
theorem FrIn.step {h l : HS} {ws : List Int} {r : HS × HS × List Int} (p : FrIn h l ws r) {i : Nat} (e : firstL h l = some i) : ∃ hi : i < l.length, FrIn (giveL h l[i]) (cutAt l i) (ws ++ [l[i].1]) r := by
  have hi := firstL_lt e
  refine ⟨hi, p.lk.give hi, p.un.give _, ?_, ?_⟩
  · obtain ⟨f, hf, hr⟩ := p.run
    rw [wakeF_step e f hf] at hr
    have hd : l.getD i (0, ⟨#[]⟩, 0) = l[i] := by simp [List.getD, hi]
    rw [hd] at hr
    exact ⟨f - 1, by rw [cutAt_length hi]; omega, hr⟩
  · rw [cutAt_length hi, List.length_append, List.length_singleton]
    have := p.wl
    omega
theorem FrIn.done {h l : HS} {ws : List Int} {r : HS × HS × List Int} (p : FrIn h l ws r) (e : firstL h l = none) : r = (h, l, ws) := by
  obtain ⟨f, _, hr⟩ := p.run
  rw [← hr, wakeF_done ws e]
theorem FrIn.start {h l : HS} (p : locksB h l = true) (t : Int) : FrIn (goneL h t) (goneL l t) [] (freeL h l t) := by
  obtain ⟨h1, h2, h3, h4⟩ := locksB_iff.1 p
  have b := goneL_len l t
  exact ⟨lkIn_gone p t, (heldsB_uniq h1).gone t, ⟨_, Nat.le_refl _, rfl⟩, by simp only [List.length_nil]; omega⟩

/-- Free's answer, of its own, no two rows of which lie in one block. -/
def MadeFrO (w : World) (r : HS × HS × List Int) (e : Ending) (w' : World) : Prop :=
  ∃ A c K d W cw, e = .returned (.tuple #[.agg #[.slice A r.1.length c, .slice K r.2.1.length d], .slice W r.2.2.length cw]) ∧ OwnH w' w.heap.size A c r.1 ∧ OwnH w' w.heap.size K d r.2.1 ∧ OwnI w' w.heap.size W cw r.2.2 ∧
    (∀ k, Value.ownBlock (.slice A r.1.length c) = some k → Value.ownBlock (.slice K r.2.1.length d) ≠ some k) ∧ Below w.heap.size w w'

set_option maxHeartbeats 2000000 in
set_option maxRecDepth 100000 in
theorem impl_Free (A : Option Addr) (c : Nat) (h : HS) (K : Option Addr) (d : Nat) (l : HS) (t : Int) (w : World) (hr : RH w w.heap.size A h) (hf : FitsH h) (hn : h.length ≤ c) (hm : c ≤ maxLen) (hr' : RH w w.heap.size K l) (hf' : FitsH l) (hn' : l.length ≤ d) (hm' : d ≤ maxLen) :
    Calls Try.prog 26 #[.agg #[.slice A h.length c, .slice K l.length d], .int .i64 t] w (MadeFrO w (freeR h l t)) := by
  obtain ⟨j0, hj0, hy0, hy1, hy2⟩ := info_parts int64Info
  have a0 := Row2.lit w 39 (.slice A h.length c) (.slice K l.length d)
  have a2 := Row2.lit ((w.alloc (.cells #[.slice A h.length c, .slice K l.length d] 39)).alloc (.cells #[.int .i64 t] 2)) 39 (.slice none 0 0) (.slice none 0 0)
  have hb1 : Below w.heap.size w (((w.alloc (.cells #[.slice A h.length c, .slice K l.length d] 39)).alloc (.cells #[.int .i64 t] 2)).alloc (.cells #[.slice none 0 0, .slice none 0 0] 39)) := below3 (Below.refl _ _) (Nat.le_refl _)
  have hq0 := World.ownsRow.cellAt (World.ownsRow_lit (base := 0) (e := 2) (size := 1) (w.alloc (.cells #[.slice A h.length c, .slice K l.length d] 39)) #[.int .i64 t] 1 (Nat.zero_le _) (by unfold maxLen; omega) rfl) 0 (by omega)
  have hq1 := ((Below.refl _ ((w.alloc (.cells #[.slice A h.length c, .slice K l.length d] 39)).alloc (.cells #[.int .i64 t] 2))).alloc (Nat.le_refl _) (.cells #[.slice none 0 0, .slice none 0 0] 39)).cell (p := ⟨w.heap.size + 1, 0, none⟩) (by simp)
  simp only [World.size_alloc] at hq0
  rw [hq0] at hq1
  clear hq0
  have hs1 : (((w.alloc (.cells #[.slice A h.length c, .slice K l.length d] 39)).alloc (.cells #[.int .i64 t] 2)).alloc (.cells #[.slice none 0 0, .slice none 0 0] 39)).heap.size = w.heap.size + 3 := by simp
  simp only [World.size_alloc] at a2
  have P1 := hid ((a0.below ((Below.refl _ _).alloc (Nat.le_refl _) (.cells #[.int .i64 t] 2))).below ((Below.refl _ _).alloc (Nat.le_refl _) (.cells #[.slice none 0 0, .slice none 0 0] 39)))
  have R1 := hid a2
  have Q1 := hid (show _ = some (Value.int .i64 t) from hq1)
  have S1 := hid hs1
  have HB1 := hid hb1
  have HR := hid ((hr.below hb1).more hb1.size)
  have HR2 := hid ((hr'.below hb1).more hb1.size)
  have HF := hid hf
  have HF2 := hid hf'
  have HN := hid hn
  have HN2 := hid hn'
  have HM := hid hm
  have HM2 := hid hm'
  clear a0 a2 hb1 hq1 hs1 hr hr' hf hf' hn hn' hm hm'
  go_enter Try.func26, Try.ntmps26
  go_wp2_with fail
  generalize hw1 : ((w.alloc (.cells #[.slice A h.length c, .slice K l.length d] 39)).alloc (.cells #[.int .i64 t] 2)).alloc (.cells #[.slice none 0 0, .slice none 0 0] 39) = w1 at *
  clear hw1
  refine (impl_LocksOk A c h K d l _ HR.out HF.out HN.out HM.out HR2.out HF2.out HN2.out HM2.out).mono ?_
  rintro e w2 ⟨rfl, hb2⟩
  have P2 := hid (P1.out.below hb2)
  have R2 := hid (R1.out.below hb2)
  have Q2 := hid ((hb2.cell (p := ⟨w.heap.size + 1, 0, none⟩) (by have := S1.out; show w.heap.size + 1 < _; omega)).trans Q1.out)
  have S2 : Hid (w.heap.size + 3 ≤ w2.heap.size) := by have := S1.out; have := hb2.size; show _ ≤ _; omega
  have HB2 := hid (HB1.out.trans (hb2.mono HB1.out.size))
  have HRb := hid ((HR.out.below hb2).more hb2.size)
  have HR2b := hid ((HR2.out.below hb2).more hb2.size)
  clear hb2
  have y0 := P2.out.c0
  have y1 := P2.out.c1
  have z0 := R2.out.c0
  have z1 := R2.out.c1
  have k0 := R2.out.fz 0
  have k1 := R2.out.fz 1
  cases hlk : locksB h l
  case false =>
    have HE : Hid (freeR h l t = ([], [], [])) := by rw [Hid, freeR, hlk]; rfl
    go_wp2_with fail
    have U1 := R2.out.s0 (.slice none 0 0)
    refine world_post (S := fun wq => Row2 wq (w.heap.size + 2) 39 (.slice none 0 0) (.slice none 0 0) ∧ Below w.heap.size w wq) _ ⟨U1.s1 _, (HB2.out.setCell (by simp; omega) _).setCell (by simp; omega) _⟩ ?_
    clear y0 y1 z0 z1 k0 k1 U1
    intro wq ⟨hq, hqb⟩
    have q0 := hq.c0
    have q1 := hq.c1
    rw [HE.out]
    exact bodyPost_ret (v := .tuple #[.agg #[.slice none 0 0, .slice none 0 0], .slice none 0 0]) (by simp [results, Try.results26, go_sem, q0, q1]) rfl ⟨none, 0, none, 0, none, 0, rfl, World.ownsRow_nil _ _ _ _, World.ownsRow_nil _ _ _ _, World.ownsRow_nil _ _ _ _, (fun _ h _ => by cases h), hqb⟩
  case true =>
    have HE : Hid (freeR h l t = freeL h l t) := by rw [Hid, freeR, hlk]; rfl
    have HL := hid (locksB_iff.1 hlk)
    have HIN := hid (FrIn.start hlk t)
    have hh1 : Hid (h.length ≤ 1000) := by have := HL.out.2.2; show _ ≤ _; omega
    have hl1 : Hid (l.length ≤ 1000) := by have := HL.out.2.2; show _ ≤ _; omega
    clear z0 z1 k0 k1
    have tk1 : Hid (1 = 1) := rfl
    have tk2 : Hid (1 = 1) := rfl
    have tk3 : Hid (1 = 1) := rfl
    have tk4 : Hid (1 = 1) := rfl
    go_wp2_with (first
      | (clear tk1; go_at_call 78; refine (impl_cloneH A c h w2 HRb.out hh1.out).mono ?_; rintro e w3 ⟨A3, c3, rfl, ho3, hb3⟩; have HO3 := hid ho3; have HB3 := hid hb3; have Q3 := hid ((hb3.cell (p := ⟨w.heap.size + 1, 0, none⟩) (by have := S2.out; show w.heap.size + 1 < _; omega)).trans Q2.out); have S3 : Hid (w.heap.size + 3 ≤ w3.heap.size) := (by have := S2.out; have := hb3.size; show _ ≤ _; omega); clear ho3 hb3)
      | (clear tk2; go_at_call 77; refine (impl_goneRow (w.heap.size + 1) t A3 c3 h w2.heap.size w3 HO3.out HF.out hh1.out (by have := S3.out; omega) Q3.out (fun k hk => by have := (HO3.out.size k hk).1; have := S2.out; omega)).mono ?_; rintro e w4 ⟨rfl, ho4, hg4⟩; have HO4 := hid ho4; have HB4 := hid (HB3.out.grown hg4 HB3.out.size (fun k hk => (HO3.out.size k hk).1)); have R4 := hid (R2.out.below HB4.out); have P4 := hid (P2.out.below HB4.out); have Q4 := hid ((HB4.out.cell (p := ⟨w.heap.size + 1, 0, none⟩) (by have := S2.out; show w.heap.size + 1 < _; omega)).trans Q2.out); have S4 : Hid (w.heap.size + 3 ≤ w4.heap.size) := (by have := S2.out; have := HB4.out.size; show _ ≤ _; omega); have HRd := hid ((HR2b.out.below HB4.out).more HB4.out.size); clear ho4 hg4; have y40 := P4.out.c0; have y41 := P4.out.c1)
      | (clear tk3; go_at_call 78; refine (impl_cloneH K d l w4 HRd.out hl1.out).mono ?_; rintro e w5 ⟨A5, c5, rfl, ho5, hb5⟩; have HO5 := hid ho5; have HB5 := hid hb5; have Q5 := hid ((hb5.cell (p := ⟨w.heap.size + 1, 0, none⟩) (by have := S4.out; show w.heap.size + 1 < _; omega)).trans Q4.out); have S5 : Hid (w.heap.size + 3 ≤ w5.heap.size) := (by have := S4.out; have := hb5.size; show _ ≤ _; omega); clear ho5 hb5)
      | (clear tk4; go_at_call 77; refine (impl_goneRow (w.heap.size + 1) t A5 c5 l w4.heap.size w5 HO5.out HF2.out hl1.out (by have := S5.out; omega) Q5.out (fun k hk => by have := (HO5.out.size k hk).1; have := S4.out; omega)).mono ?_; rintro e w6 ⟨rfl, ho6, hg6⟩; have HO6 := hid ho6; have HB6 := hid (HB5.out.grown hg6 HB5.out.size (fun k hk => (HO5.out.size k hk).1)); clear ho6 hg6))
    have HB7 := hid (HB4.out.trans (HB6.out.mono HB4.out.size))
    have HOA := hid (HO4.out.below HB6.out)
    have HOK := hid (HO6.out.mono HB4.out.size)
    have HNE : Hid (∀ k, Value.ownBlock (.slice A3 (goneL h t).length c3) = some k → Value.ownBlock (.slice A5 (goneL l t).length c5) ≠ some k) := by
      intro k h1 h2
      have a1 := (HO4.out.size k h1).2
      have a2 := (HO6.out.size k h2).1
      omega
    clear y0 y1 y40 y41
    go_loopw [7, 8, 9] (fun i7 i8 i9 wr => ∃ (h' l' : HS) (ws : List Int) (A' : Option Addr) (c' : Nat) (K' : Option Addr) (d' : Nat) (W' : Option Addr) (cw : Nat), i7 = .slice A' h'.length c' ∧ i8 = .slice K' l'.length d' ∧ i9 = .slice W' ws.length cw ∧ Hid (FrIn h' l' ws (freeL h l t)) ∧ Hid (OwnH wr w2.heap.size A' c' h') ∧ Hid (OwnH wr w2.heap.size K' d' l') ∧ Hid (OwnI wr w2.heap.size W' cw ws) ∧ Hid (∀ k, Value.ownBlock (.slice A' h'.length c') = some k → Value.ownBlock (.slice K' l'.length d') ≠ some k) ∧ Hid (Below w2.heap.size w2 wr)) (fun _ i8 _ _ => lenV i8)
    case atStart => exact ⟨goneL h t, goneL l t, [], A3, c3, A5, c5, none, 0, rfl, rfl, rfl, HIN.out, HOA.out, HOK.out, World.ownsRow_nil _ _ _ _, HNE.out, HB7.out⟩
    case round =>
      obtain ⟨h', l', ws, A', c', K', d', W', cw, rfl, rfl, rfl, HI, HA, HK, HW, HNN, HB⟩ := hrel
      have hlk2 := HI.out.lk
      have hlen1 := hlk2.hn
      have hlen2 := hlk2.ln
      have hwl := HI.out.wl
      have FT := hid (impl_firstToHold A' c' h' K' d' l' wr HA.out.rh hlk2.hh.fits (by unfold maxLen; omega) HK.out.rh hlk2.lh.fits HK.out.cap.1 HK.out.cap.2)
      clear hlk2
      cases hfl : firstL h' l' with
      | none =>
        have HD := hid (HI.out.done hfl)
        rw [firstV_none hfl] at FT
        have tkN : Hid (1 = 1) := rfl
        go_wp2_with (clear tkN; go_at_call 79; refine FT.out.mono ?_; rintro e w7 ⟨rfl, hb7⟩; have HB8 := hid (HB.out.trans (hb7.mono HB.out.size)); have HA7 := hid (HA.out.below hb7); have HK7 := hid (HK.out.below hb7); have HW7 := hid (HW.out.below hb7); have R7 := hid (R2.out.below HB8.out); clear hb7; have z0 := R7.out.c0; have z1 := R7.out.c1; have k0 := R7.out.fz 0; have k1 := R7.out.fz 1)
        have U1 := R7.out.s0 (.slice A' h'.length c')
        have A9 := ((HA7.out.stay (w' := w7.setCell ⟨w.heap.size + 2, 0, none⟩ (.slice A' h'.length c')) (fun q hq => heap_setCell_other _ _ q _ (fun e => own_ne (by decide) HA7.out R7.out q hq (by rw [e]; rfl))))).stay (w' := (w7.setCell ⟨w.heap.size + 2, 0, none⟩ (.slice A' h'.length c')).setCell ⟨w.heap.size + 2, 1, none⟩ (.slice K' l'.length d')) (fun q hq => heap_setCell_other _ _ q _ (fun e => own_ne (by decide) HA7.out R7.out q hq (by rw [e]; rfl)))
        have K9 := ((HK7.out.stay (w' := w7.setCell ⟨w.heap.size + 2, 0, none⟩ (.slice A' h'.length c')) (fun q hq => heap_setCell_other _ _ q _ (fun e => own_ne (by decide) HK7.out R7.out q hq (by rw [e]; rfl))))).stay (w' := (w7.setCell ⟨w.heap.size + 2, 0, none⟩ (.slice A' h'.length c')).setCell ⟨w.heap.size + 2, 1, none⟩ (.slice K' l'.length d')) (fun q hq => heap_setCell_other _ _ q _ (fun e => own_ne (by decide) HK7.out R7.out q hq (by rw [e]; rfl)))
        have I9 := rowI_keep (w' := (w7.setCell ⟨w.heap.size + 2, 0, none⟩ (.slice A' h'.length c')).setCell ⟨w.heap.size + 2, 1, none⟩ (.slice K' l'.length d')) (rowI_keep (w' := w7.setCell ⟨w.heap.size + 2, 0, none⟩ (.slice A' h'.length c')) HW7.out (fun q hq => heap_setCell_other _ _ q _ (fun e => own_ne (by decide) HW7.out R7.out q hq (by rw [e]; rfl)))) (fun q hq => heap_setCell_other _ _ q _ (fun e => own_ne (by decide) HW7.out R7.out q hq (by rw [e]; rfl)))
        have hbq := HB2.out.trans (HB8.out.mono HB2.out.size)
        refine world_post (S := fun wq => Row2 wq (w.heap.size + 2) 39 (.slice A' h'.length c') (.slice K' l'.length d') ∧ MadeFrO w (h', l', ws) (.returned (.tuple #[.agg #[.slice A' h'.length c', .slice K' l'.length d'], .slice W' ws.length cw])) wq) _
          ⟨U1.s1 _, A', c', K', d', W', cw, rfl, A9.mono HB2.out.size, K9.mono HB2.out.size, I9.mono HB2.out.size, HNN.out, (hbq.setCell (by simp; omega) _).setCell (by simp; omega) _⟩ ?_
        clear z0 z1 k0 k1 U1 A9 K9 I9 hbq
        intro wq ⟨hq, hqm⟩
        have q0 := hq.c0
        have q1 := hq.c1
        rw [HE.out, HD.out]
        exact bodyPost_ret (v := .tuple #[.agg #[.slice A' h'.length c', .slice K' l'.length d'], .slice W' ws.length cw]) (by simp [results, Try.results26, go_sem, q0, q1]) rfl hqm
      | some i =>
        obtain ⟨hi, hst⟩ := HI.out.step hfl
        have HST := hid hst
        rw [firstV_some hfl] at FT
        obtain ⟨kb, rfl⟩ : ∃ g, K' = some ⟨g, 0, none⟩ := by
          rcases HK.out.2 with ⟨hv, hz⟩ | ⟨g, cap, cur, hv, _⟩
          · omega
          · injection hv with e
            exact ⟨g, e⟩
        clear hst
        have hun := hid HI.out.un
        have hh2 : Hid (h'.length ≤ 1000) := by rw [Hid]; omega
        have hl2 : Hid (l'.length ≤ 1000) := by rw [Hid]; omega
        have HFH := hid HI.out.lk.hh.fits
        have HW1 : Hid (ws.length + 1 ≤ maxLen) := by unfold maxLen; rw [Hid]; omega
        have HW2 : Hid ((ws.length + 1) * 8 ≤ 140737488355328) := by rw [Hid]; omega
        have ei : (0 : Int) ≤ (i : Int) := by omega
        have ei2 : (i : Int) < (l'.length : Int) := by omega
        have tk1 : Hid (1 = 1) := rfl
        have tk2 : Hid (1 = 1) := rfl
        have tk3 : Hid (1 = 1) := rfl
        have tk4 : Hid (1 = 1) := rfl
        go_wp2_with (first
          | (clear tk1; go_at_call 79; refine FT.out.mono ?_; rintro e w7 ⟨rfl, hb7⟩; have HB8 := hid (HB.out.trans (hb7.mono HB.out.size)); have HA7 := hid (HA.out.below hb7); have HK7 := hid (HK.out.below hb7); have HW7 := hid (HW.out.below hb7); clear hb7; obtain ⟨_, _, ea6, _, ca6, cb6, cc6⟩ := HK7.out.rh.at_ hi; obtain ⟨ea, eb⟩ := some_lit ea6; subst ea eb; simp only [Nat.zero_add] at ca6 cb6 cc6; clear ea6)
          | (clear tk2; go_at_call 80; refine (impl_withHold A' c' h' l'[i] w2.heap.size w7 HA7.out HFH.out hun.out hh2.out HB8.out.size).mono ?_; rintro e w8 ⟨⟨A8, c8, rfl, ho8, hat8⟩, hg8⟩; have HO8 := hid ho8; have HAT8 := hid hat8; have HK8 := hid (HK7.out.keepG hg8 (fun q hq e => HNN.out q e.symm hq)); have HW8 := hid (rowI_keep HW7.out (fun q hq => hg8.block q (World.ownsRow.lt HW7.out q hq).2 (fun e => own_ne (by decide) HA7.out HW7.out q e.symm hq))); have HB9 := hid (HB8.out.grown hg8 HB8.out.size (fun q hq => (HA7.out.size q hq).1)); have HS8 := hid hg8.size; clear ho8 hat8 hg8 ca6 cb6 cc6; obtain ⟨_, _, ea8, _, ca8, cb8, cc8⟩ := HK8.out.rh.at_ hi; obtain ⟨ea, eb⟩ := some_lit ea8; subst ea eb; simp only [Nat.zero_add] at ca8 cb8 cc8; clear ea8; have HWA := hid (HW8.out.below ((Below.refl w8.heap.size _).alloc (Nat.le_refl _) (.cells #[.int .i64 l'[i].1] 2))))
          | (clear tk3; at_builtin; refine wpList_append_lies _ rfl _ _ _ rfl w2.heap.size 2 j0 _ 1 8 Try.underlying42 hj0 hy0 hy1 hy2 rfl (by omega) (.slice W' ws.length cw) ws.length (icells ws) rfl HWA.out ⟨w8.heap.size, 0, none⟩ 1 1 [.int .i64 l'[i].1] rfl rfl (World.news_of_block (cs := #[.int .i64 l'[i].1]) (t := 2) (fr := (0, 0)) (heap_alloc_new _ _)) (by simp [Value.oneCell']) (by omega) HW1.out HW2.out (by have := HB9.out.size; simp; omega) (w8.heap.size + 1) (by simp) ?_; intro W13 cap13 w13 hown13 hgrow13 hat13 hlt13; have HO13 := hid hown13; have HG13 := hid hgrow13; have HA13 := hid ((HO8.out.below ((Below.refl w8.heap.size _).alloc (Nat.le_refl _) (.cells #[.int .i64 l'[i].1] 2))).keepG hgrow13 (fun q hq e => own_ne (by decide) HO8.out HW8.out q hq e.symm)); have HK13 := hid ((HK8.out.below ((Below.refl w8.heap.size _).alloc (Nat.le_refl _) (.cells #[.int .i64 l'[i].1] 2))).keepG hgrow13 (fun q hq e => own_ne (by decide) HK8.out HW8.out q hq e.symm)); have HB13 := hid ((HB9.out.alloc HB9.out.size (.cells #[.int .i64 l'[i].1] 2)).grown hgrow13 (by have := HB9.out.size; simp; omega) (fun q hq => (World.ownsRow.lt HW8.out q hq).1)); clear hown13 hgrow13 hat13)
          | (clear tk4; go_at_call 81; refine (impl_delH kb d' i (i + 1) l' w2.heap.size w13 HK13.out hi rfl hl2.out).mono ?_; rintro e w14 ⟨rfl, ho14, hg14⟩; have HO14 := hid ho14; have HG14 := hid hg14; clear ho14 hg14))
        have hcl := cutAt_length hi
        have HG := HG14.out
        have hkb : Value.ownBlock (.slice (some ⟨kb, 0, none⟩) l'.length d') = some kb := rfl
        have hne8 : ∀ q, Value.ownBlock (.slice A8 (giveL h' l'[i]).length c8) = some q → Value.ownBlock (.slice (some ⟨kb, 0, none⟩) l'.length d') ≠ some q := by
          intro q h1 h2
          rcases HAT8.out with h3 | ⟨k, h3, h4⟩
          · exact HNN.out q (h3.symm.trans h1) h2
          · rw [h1] at h3
            injection h3 with h3
            have := (HK7.out.size q h2).2
            omega
        have A14 := HA13.out.keepG HG (fun q hq e => hne8 q hq (hkb.trans e.symm))
        have I13 : OwnI w13 w2.heap.size (some ⟨W13, 0, none⟩) cap13 (ws ++ [l'[i].1]) := by
          have := HO13.out
          rw [icells_snocW] at this
          unfold OwnI
          rw [List.length_append]
          exact this
        have I14 := rowI_keep I13 (fun q hq => HG.block q (World.ownsRow.lt I13 q hq).2 (fun e => own_ne (by decide) HK13.out I13 q (hkb.trans e.symm) hq))
        have B14 := HB13.out.grown HG HB13.out.size (fun q hq => (HK13.out.size q (hkb.trans hq)).1)
        go_roundw
        case rel => exact ⟨giveL h' l'[i], cutAt l' i, ws ++ [l'[i].1], A8, c8, some ⟨kb, 0, none⟩, d', some ⟨W13, 0, none⟩, cap13, rfl, rfl, by simp, HST.out, A14, HO14.out, I14, hne8, B14⟩
        case measure => simp [lenV, hcl]; omega
end Go.Proofs.Ytjdmaoegfpgfjaa
