/-
  The program's questions over holds: IndexFunc and ContainsFunc with its closures.
-/
import Derived.Test.YtjdmaoegfpgfjaaLocksOkS
import Derived.Shelf.Abstract
import Derived.Lib.QuietBelow
namespace Go.Proofs.Ytjdmaoegfpgfjaa
open Go.RowKit Go.Shelf

/-- What a closure with one captured variable answers of each hold. -/
def PredH (g q : Nat) (p : HD → Bool) (w : World) : Prop :=
  ∀ (W : World) (x : HD), Below w.heap.size w W → x.2.1.size ≤ maxLen → Calls Try.prog g #[.agg #[.int .i64 x.1, .string x.2.1, .int .i64 x.2.2], .pointer (some ⟨q, 0, none⟩)] W fun e w' => e = .returned (.bool (p x)) ∧ Below W.heap.size W w'
theorem PredH.later {g q : Nat} {p : HD → Bool} {w W : World} (h : PredH g q p w) (hb : Below w.heap.size w W) : PredH g q p W := fun W' x hb' => h W' x (hb.trans (hb'.mono hb.size))
/-- Where the first one is. -/
def IdxH (hs : HS) (p : HD → Bool) (r : Int) : Prop := (r = -1 ∧ hs.any p = false) ∨ (∃ (i : Nat) (h : i < hs.length), r = (i : Int) ∧ p hs[i] = true)
/-- The first one's place; -1: there is none. -/
def idxV (hs : HS) (p : HD → Bool) : Int := match hs.findIdx? p with
  | some i => (i : Int)
  | none => -1
def noneH (hs : HS) (p : HD → Bool) (k : Nat) : Prop := ∀ (i : Nat) (h : i < hs.length), i < k → p hs[i] = false
theorem noneH_succ {hs : HS} {p : HD → Bool} {k : Nat} (h : noneH hs p k) (hk : k < hs.length) (he : p hs[k] = false) : noneH hs p (k + 1) := by
  intro i hi hlt
  by_cases e : i = k
  · subst e
    exact he
  · exact h i hi (by omega)
theorem noneH_end {hs : HS} {p : HD → Bool} (h : noneH hs p hs.length) : hs.any p = false := any_iff.2 fun i hi => h i hi hi
theorem idxV_hit {hs : HS} {p : HD → Bool} {k : Nat} (h : noneH hs p k) (hk : k < hs.length) (he : p hs[k] = true) : idxV hs p = (k : Int) := by
  have : hs.findIdx? p = some k := List.findIdx?_eq_some_iff_getElem.2 ⟨hk, he, fun j hj => by rw [h j (by omega) hj]; simp⟩
  rw [idxV, this]
theorem idxV_miss {hs : HS} {p : HD → Bool} (h : hs.any p = false) : idxV hs p = -1 := by
  have : hs.findIdx? p = none := List.findIdx?_eq_none_iff.2 fun x hx => by
    have := List.any_eq_false.1 h x hx
    simpa using this
  rw [idxV, this]
theorem idxV_spec (hs : HS) (p : HD → Bool) : IdxH hs p (idxV hs p) := by
  cases h : hs.findIdx? p with
  | none =>
    have h2 := List.findIdx?_eq_none_iff.1 h
    exact .inl ⟨by rw [idxV, h], List.any_eq_false.2 fun x hx => by rw [h2 x hx]; simp⟩
  | some i =>
    obtain ⟨hi, h1, _⟩ := List.findIdx?_eq_some_iff_getElem.1 h
    exact .inr ⟨i, hi, by rw [idxV, h], h1⟩
theorem IdxH.ge {hs : HS} {p : HD → Bool} {r : Int} (h : IdxH hs p r) : decide (0 ≤ r) = hs.any p := by
  rcases h with ⟨rfl, h⟩ | ⟨i, hi, rfl, h⟩
  · rw [h]; rfl
  · rw [List.any_eq_true.2 ⟨_, List.getElem_mem hi, h⟩]
    simp

set_option maxHeartbeats 1000000 in
theorem indexFunc_any (g q : Nat) (eg : ∀ args w, (callFunc g args).run Try.prog w = .ok (.enter g args) w) (p : HD → Bool) (A : Option Addr) (c : Nat) (hs : HS) (w : World) (hr : RH w w.heap.size A hs) (hf : FitsH hs) (hn : hs.length ≤ maxLen) (hp : PredH g q p w) :
    Calls Try.prog 137 #[.slice A hs.length c, .func (.func g) #[] #[.pointer (some ⟨q, 0, none⟩)]] w fun e w' => e = .returned (.int .i64 (idxV hs p)) ∧ Below w.heap.size w w' := by
  unfold maxLen at hn
  have HP := hid hp
  have HR := hid hr
  have HF := hid hf
  clear hp hr hf
  go_enter Try.func137, Try.ntmps137
  go_wp2_with fail
  go_loopw [8] (fun i wr => ∃ k : Nat, k ≤ hs.length ∧ i = .int .i64 k ∧ noneH hs p k ∧ Below w.heap.size w wr) (fun i _ => hs.length - (intOf i).toNat)
  case atStart => exact ⟨0, Nat.zero_le _, rfl, fun i h hi => absurd hi (by omega), Below.refl _ _⟩
  case round =>
    obtain ⟨k, hk, rfl, hnt, hbw⟩ := hrel
    by_cases hlt : k < hs.length
    · obtain ⟨b, off, rfl, hb, hc1, hc2, hc3⟩ := (HR.out.below hbw).at_ hlt
      have HC := hid (HP.out wr hs[k] hbw (HF.out.get hlt))
      have HD := hid hbw
      have HS := hid (noneH_succ hnt hlt)
      have HI := hid (idxV_hit hnt hlt)
      clear hbw hnt
      cases he : p hs[k]
      · go_wp2_with (go_at_fn g; refine HC.out.mono ?_; rintro e w2 ⟨rfl, hb2⟩; rw [he])
        go_roundw
        case rel => exact ⟨k + 1, by omega, by go_num, HS.out he, HD.out.trans (hb2.mono HD.out.size)⟩
        case measure => simp [intOf]; omega
      · go_wp2_with (go_at_fn g; refine HC.out.mono ?_; rintro e w2 ⟨rfl, hb2⟩; rw [he])
        go_ret
        exact ⟨ret_int (HI.out he).symm, HD.out.trans (hb2.mono HD.out.size)⟩
    · obtain rfl : k = hs.length := by omega
      have HE := hid (noneH_end hnt)
      have HD := hid hbw
      clear hbw hnt
      go_wp2_with fail
      go_ret
      exact ⟨ret_int (idxV_miss HE.out).symm, HD.out⟩

theorem containsFunc_any (g q : Nat) (eg : ∀ args w, (callFunc g args).run Try.prog w = .ok (.enter g args) w) (p : HD → Bool) (A : Option Addr) (c : Nat) (hs : HS) (w : World) (hr : RH w w.heap.size A hs) (hf : FitsH hs) (hn : hs.length ≤ maxLen) (hp : PredH g q p w) :
    Calls Try.prog 110 #[.slice A hs.length c, .func (.func g) #[] #[.pointer (some ⟨q, 0, none⟩)]] w fun e w' => e = .returned (.bool (hs.any p)) ∧ Below w.heap.size w w' := by
  have HP := hid hp
  have HR := hid hr
  have HN := hid hn
  have HF := hid hf
  have EG := hid eg
  clear hp hr hn hf eg
  go_enter Try.func110, Try.ntmps110
  go_wp2_with (go_at_call 137; refine (indexFunc_any g q EG.out p A c hs _ HR.out HF.out HN.out HP.out).mono ?_; rintro e w' ⟨rfl, hb1⟩)
  go_ret
  exact ⟨ret_bool (idxV_spec hs p).ge, hb1⟩

/-! ### the closures -/
theorem own_iff1 {h x : HD} (e : h.1 ≠ x.1) : ownB h x = false := by simp [ownB, e]
theorem own_iff2 {h x : HD} (e : h.2.1 ≠ x.2.1) : ownB h x = false := by simp [ownB, e]
set_option maxHeartbeats 1000000 in
theorem ownFn (q : Nat) (x : HD) (w : World) (hq : q < w.heap.size) (c0 : w.cell? ⟨q, 0, none⟩ = some (.int .i64 x.1)) (c1 : w.cell? ⟨q, 1, none⟩ = some (.string x.2.1)) : PredH 146 q (fun h => ownB h x) w := by
  intro W h hb _
  have d0 := (hb.cell (p := ⟨q, 0, none⟩) hq).trans c0
  have d1 := (hb.cell (p := ⟨q, 1, none⟩) hq).trans c1
  have hq2 := Nat.lt_of_lt_of_le hq hb.size
  have HB : Hid (∀ o : Obj, Below W.heap.size W (W.alloc o)) := fun o => (Below.refl _ _).alloc (Nat.le_refl _) o
  clear hb c0 c1
  by_cases h1 : h.1 = x.1
  · by_cases h2 : h.2.1 = x.2.1
    · have HE := hid (ownB_iff.2 ⟨h1, h2⟩)
      have g1 := eqI_true h1
      have g2 := eqS_true h2
      clear h1 h2
      go_enter Try.func146, Try.ntmps146
      go_wp2_with fail
      go_ret
      exact ⟨ret_bool HE.out.symm, HB.out _⟩
    · have HE := hid (own_iff2 h2)
      have g1 := eqI_true h1
      have g2 := eqS_false h2
      clear h1 h2
      go_enter Try.func146, Try.ntmps146
      go_wp2_with fail
      go_ret
      exact ⟨ret_bool HE.out.symm, HB.out _⟩
  · have HE := hid (own_iff1 h1)
    have g1 := eqI_false h1
    clear h1
    go_enter Try.func146, Try.ntmps146
    go_wp2_with fail
    go_ret
    exact ⟨ret_bool HE.out.symm, HB.out _⟩

theorem keeps1 {h x : HD} (e : h.2.1 ≠ x.2.1) : keepsB h x = false := by simp [keepsB, e]
theorem keeps2 {h x : HD} (e : h.1 = x.1) : keepsB h x = false := by simp [keepsB, e]
theorem keeps3 {h x : HD} (e : h.2.1 = x.2.1) (e2 : h.1 ≠ x.1) : keepsB h x = !fitF h.2.2 x.2.2 := by simp [keepsB, e, e2]
set_option maxHeartbeats 1000000 in
theorem impl_keepsOut (h x : HD) (W : World) :
    Calls Try.prog 148 #[.agg #[.int .i64 h.1, .string h.2.1, .int .i64 h.2.2], .agg #[.int .i64 x.1, .string x.2.1, .int .i64 x.2.2]] W fun e w' => e = .returned (.bool (keepsB h x)) ∧ Below W.heap.size W w' := by
  have HB : Hid (∀ o o' : Obj, Below W.heap.size W ((W.alloc o).alloc o')) := fun o o' => ((Below.refl _ _).alloc (Nat.le_refl _) o).alloc (by simp) o'
  by_cases h1 : h.2.1 = x.2.1
  · by_cases h2 : h.1 = x.1
    · have HE := hid (keeps2 h2)
      have g1 := eqS_true h1
      have g2 := neI_false h2
      clear h1 h2
      go_enter Try.func148, Try.ntmps148
      go_wp2_with fail
      go_ret
      exact ⟨ret_bool HE.out.symm, HB.out _ _⟩
    · have HE := hid (keeps3 h1 h2)
      have g1 := eqS_true h1
      have g2 := neI_true h2
      clear h1 h2
      go_enter Try.func148, Try.ntmps148
      go_wp2_with (go_at_call 31; refine (impl_Fit _ _ _).mono ?_; rintro e w1 ⟨rfl, hb1⟩)
      go_ret
      exact ⟨ret_bool HE.out.symm, (HB.out _ _).trans (hb1.mono (HB.out _ _).size)⟩
  · have HE := hid (keeps1 h1)
    have g1 := eqS_false h1
    clear h1
    go_enter Try.func148, Try.ntmps148
    go_wp2_with fail
    go_ret
    exact ⟨ret_bool HE.out.symm, HB.out _ _⟩
set_option maxHeartbeats 1000000 in
theorem keepsFn (q : Nat) (x : HD) (w : World) (hq : q < w.heap.size) (c0 : w.cell? ⟨q, 0, none⟩ = some (.int .i64 x.1)) (c1 : w.cell? ⟨q, 1, none⟩ = some (.string x.2.1)) (c2 : w.cell? ⟨q, 2, none⟩ = some (.int .i64 x.2.2)) : PredH 147 q (fun h => keepsB h x) w := by
  intro W h hb _
  have d0 := (hb.cell (p := ⟨q, 0, none⟩) hq).trans c0
  have d1 := (hb.cell (p := ⟨q, 1, none⟩) hq).trans c1
  have d2 := (hb.cell (p := ⟨q, 2, none⟩) hq).trans c2
  have hq2 := Nat.lt_of_lt_of_le hq hb.size
  have HB : Hid (∀ o : Obj, Below W.heap.size W (W.alloc o)) := fun o => (Below.refl _ _).alloc (Nat.le_refl _) o
  clear hb c0 c1 c2
  go_enter Try.func147, Try.ntmps147
  go_wp2_with (go_at_call 148; refine (impl_keepsOut h x _).mono ?_; rintro e w1 ⟨rfl, hb1⟩)
  go_ret
  exact ⟨rfl, (HB.out _).trans (hb1.mono (HB.out _).size)⟩
theorem txnFn (q : Nat) (t : Int) (w : World) (hq : q < w.heap.size) (c0 : w.cell? ⟨q, 0, none⟩ = some (.int .i64 t)) : PredH 149 q (fun h => decide (h.1 = t)) w := by
  intro W h hb _
  have d0 := (hb.cell (p := ⟨q, 0, none⟩) hq).trans c0
  have hq2 := Nat.lt_of_lt_of_le hq hb.size
  have HB : Hid (∀ o : Obj, Below W.heap.size W (W.alloc o)) := fun o => (Below.refl _ _).alloc (Nat.le_refl _) o
  clear hb c0
  by_cases h1 : h.1 = t
  · have HE := hid (decide_eq_true h1)
    have g1 := eqI_true h1
    clear h1
    go_enter Try.func149, Try.ntmps149
    go_wp2_with fail
    go_ret
    exact ⟨ret_bool HE.out.symm, HB.out _⟩
  · have HE := hid (decide_eq_false h1)
    have g1 := eqI_false h1
    clear h1
    go_enter Try.func149, Try.ntmps149
    go_wp2_with fail
    go_ret
    exact ⟨ret_bool HE.out.symm, HB.out _⟩

/-! ### the questions -/
theorem ent_own : ∀ args w, (callFunc 146 args).run Try.prog w = .ok (.enter 146 args) w := enters_of Try.func146 (by kernel_rfl) rfl
theorem ent_keeps : ∀ args w, (callFunc 147 args).run Try.prog w = .ok (.enter 147 args) w := enters_of Try.func147 (by kernel_rfl) rfl
theorem ent_txn : ∀ args w, (callFunc 149 args).run Try.prog w = .ok (.enter 149 args) w := enters_of Try.func149 (by kernel_rfl) rfl
theorem boxH (w : World) (x : HD) : (w.alloc (.cells #[.int .i64 x.1, .string x.2.1, .int .i64 x.2.2] 49)).cell? ⟨w.heap.size, 0, none⟩ = some (.int .i64 x.1) ∧ (w.alloc (.cells #[.int .i64 x.1, .string x.2.1, .int .i64 x.2.2] 49)).cell? ⟨w.heap.size, 1, none⟩ = some (.string x.2.1) ∧ (w.alloc (.cells #[.int .i64 x.1, .string x.2.1, .int .i64 x.2.2] 49)).cell? ⟨w.heap.size, 2, none⟩ = some (.int .i64 x.2.2) := by
  have h := Row3.lit w 49 (.int .i64 x.1) (.string x.2.1) (.int .i64 x.2.2)
  exact ⟨h.c0, h.c1, h.c2⟩
set_option maxRecDepth 100000 in
theorem impl_placeOfOwn (A : Option Addr) (c : Nat) (hs : HS) (x : HD) (w : World) (hr : RH w w.heap.size A hs) (hf : FitsH hs) (hn : hs.length ≤ maxLen) :
    Calls Try.prog 89 #[.slice A hs.length c, .agg #[.int .i64 x.1, .string x.2.1, .int .i64 x.2.2]] w fun e w' => e = .returned (.int .i64 (idxV hs (fun h => ownB h x))) ∧ Below w.heap.size w w' := by
  have HB : Hid (∀ o : Obj, Below w.heap.size w (w.alloc o)) := fun o => (Below.refl _ _).alloc (Nat.le_refl _) o
  have HR := hid ((hr.below (HB.out (.cells #[.int .i64 x.1, .string x.2.1, .int .i64 x.2.2] 49))).more (HB.out (.cells #[.int .i64 x.1, .string x.2.1, .int .i64 x.2.2] 49)).size)
  have HP := hid (ownFn w.heap.size x (w.alloc (.cells #[.int .i64 x.1, .string x.2.1, .int .i64 x.2.2] 49)) (by simp) (boxH w x).1 (boxH w x).2.1)
  have HF := hid hf
  have HN := hid hn
  clear hr hf hn
  go_enter Try.func89, Try.ntmps89
  go_wp2_with (go_at_call 137; refine (indexFunc_any _ _ ent_own _ A c hs _ HR.out HF.out HN.out HP.out).mono ?_; rintro e w' ⟨rfl, hb1⟩)
  go_ret
  exact ⟨rfl, (HB.out _).trans (hb1.mono (HB.out _).size)⟩
set_option maxRecDepth 100000 in
theorem impl_anyKeepsOut (A : Option Addr) (c : Nat) (hs : HS) (x : HD) (w : World) (hr : RH w w.heap.size A hs) (hf : FitsH hs) (hn : hs.length ≤ maxLen) :
    Calls Try.prog 90 #[.slice A hs.length c, .agg #[.int .i64 x.1, .string x.2.1, .int .i64 x.2.2]] w fun e w' => e = .returned (.bool (hs.any fun h => keepsB h x)) ∧ Below w.heap.size w w' := by
  have HB : Hid (∀ o : Obj, Below w.heap.size w (w.alloc o)) := fun o => (Below.refl _ _).alloc (Nat.le_refl _) o
  have HR := hid ((hr.below (HB.out (.cells #[.int .i64 x.1, .string x.2.1, .int .i64 x.2.2] 49))).more (HB.out (.cells #[.int .i64 x.1, .string x.2.1, .int .i64 x.2.2] 49)).size)
  have HP := hid (keepsFn w.heap.size x (w.alloc (.cells #[.int .i64 x.1, .string x.2.1, .int .i64 x.2.2] 49)) (by simp) (boxH w x).1 (boxH w x).2.1 (boxH w x).2.2)
  have HF := hid hf
  have HN := hid hn
  clear hr hf hn
  go_enter Try.func90, Try.ntmps90
  go_wp2_with (go_at_call 110; refine (containsFunc_any _ _ ent_keeps _ A c hs _ HR.out HF.out HN.out HP.out).mono ?_; rintro e w' ⟨rfl, hb1⟩)
  go_ret
  exact ⟨rfl, (HB.out _).trans (hb1.mono (HB.out _).size)⟩
set_option maxRecDepth 100000 in
theorem impl_hasTxn (A : Option Addr) (c : Nat) (hs : HS) (t : Int) (w : World) (hr : RH w w.heap.size A hs) (hf : FitsH hs) (hn : hs.length ≤ maxLen) :
    Calls Try.prog 91 #[.slice A hs.length c, .int .i64 t] w fun e w' => e = .returned (.bool (hs.any fun h => decide (h.1 = t))) ∧ Below w.heap.size w w' := by
  have HB : Hid (∀ o : Obj, Below w.heap.size w (w.alloc o)) := fun o => (Below.refl _ _).alloc (Nat.le_refl _) o
  have HR := hid ((hr.below (HB.out (.cells #[.int .i64 t] 2))).more (HB.out (.cells #[.int .i64 t] 2)).size)
  have HP := hid (txnFn w.heap.size t (w.alloc (.cells #[.int .i64 t] 2)) (by simp) (by go_simp))
  have HF := hid hf
  have HN := hid hn
  clear hr hf hn
  go_enter Try.func91, Try.ntmps91
  go_wp2_with (go_at_call 110; refine (containsFunc_any _ _ ent_txn _ A c hs _ HR.out HF.out HN.out HP.out).mono ?_; rintro e w' ⟨rfl, hb1⟩)
  go_ret
  exact ⟨rfl, (HB.out _).trans (hb1.mono (HB.out _).size)⟩

set_option maxHeartbeats 2000000 in
theorem impl_holdOk (x : HD) (w : World) (hs : x.2.1.size ≤ maxLen) :
    Calls Try.prog 88 #[.agg #[.int .i64 x.1, .string x.2.1, .int .i64 x.2.2]] w fun e w' => e = .returned (.bool (holdB x)) ∧ Below w.heap.size w w' := by
  have HB : Hid (∀ o : Obj, Below w.heap.size w (w.alloc o)) := fun o => (Below.refl _ _).alloc (Nat.le_refl _) o
  have HS := hid hs
  clear hs
  by_cases h0 : 1 ≤ x.1
  · by_cases h1 : x.1 ≤ 1000
    · have HE : Hid (holdB x = ((decide (x.2.1.size = 0) || keyB x.2.1) && modeB x.2.2)) := by
        rw [Hid, holdB_in (by simp [inB, h0, h1]), Bool.and_comm]
      by_cases h3 : x.2.1.size = 0
      · have e3 := eqE_true h3
        rw [decide_eq_true h3] at HE
        clear h3
        go_enter Try.func88, Try.ntmps88
        go_wp2_with (first
          | (go_at_call 86; refine (impl_modeOk _ _).mono ?_; rintro e w' ⟨rfl, rfl⟩))
        go_ret
        exact ⟨ret_bool HE.out.symm, HB.out _⟩
      · have e3 := eqE_false h3
        rw [decide_eq_false h3] at HE
        clear h3
        cases h4 : keyB x.2.1
        · rw [h4] at HE
          go_enter Try.func88, Try.ntmps88
          go_wp2_with (first
            | (go_at_call 145; refine (impl_KeyOk _ _ HS.out).mono ?_; rintro e w' ⟨rfl, rfl⟩))
          go_ret
          exact ⟨ret_bool HE.out.symm, HB.out _⟩
        · rw [h4] at HE
          go_enter Try.func88, Try.ntmps88
          go_wp2_with (first
            | (go_at_call 145; refine (impl_KeyOk _ _ HS.out).mono ?_; rintro e w' ⟨rfl, rfl⟩)
            | (go_at_call 86; refine (impl_modeOk _ _).mono ?_; rintro e w' ⟨rfl, rfl⟩))
          go_ret
          exact ⟨ret_bool HE.out.symm, HB.out _⟩
    · have HE : Hid (holdB x = false) := by simp [Hid, holdB, h1]
      go_enter Try.func88, Try.ntmps88
      go_wp2_with fail
      go_ret
      exact ⟨ret_bool HE.out.symm, HB.out _⟩
  · have HE : Hid (holdB x = false) := by simp [Hid, holdB, h0]
    go_enter Try.func88, Try.ntmps88
    go_wp2_with fail
    go_ret
    exact ⟨ret_bool HE.out.symm, HB.out _⟩
end Go.Proofs.Ytjdmaoegfpgfjaa
