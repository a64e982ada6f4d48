import Derived.Test.YtcjbjfhndjpmcaaPk03
/-
  What the exact laws go through: sizes, copies, comparisons of pairs.
-/
namespace Go.Proofs.Ytcjbjfhndjpmcaa
open Go.RowKit

/-! ### sizes -/
def SzPost1 (p : BB) (l : Int) (w : World) (e : Ending) (w' : World) : Prop :=
  ∃ r : Int, e = .returned (.int .i64 r) ∧ -1 ≤ r ∧ r ≤ l ∧ (0 ≤ r → (p.1.size : Int) ≤ l ∧ (p.2.size : Int) ≤ l) ∧ Below w.heap.size w w'

set_option maxHeartbeats 400000 in
theorem szPair_any (p : BB) (l : Int) (w : World) (h0 : 0 ≤ l) (h1 : l ≤ 1048576) (hs : p.1.size ≤ maxLen) (ht : p.2.size ≤ maxLen) :
    Calls Try.prog 55 #[.agg #[.string p.1, .string p.2], .int .i64 l] w (SzPost1 p l w) := by
  unfold maxLen at hs ht
  have hb : ∀ o : Obj, Below w.heap.size w (w.alloc o) := fun o => (Below.refl _ _).alloc (Nat.le_refl _) o
  have HB := hid hb
  clear hb
  by_cases g1 : l - (p.1.size : Int) < 0
  · go_enter Try.func55, Try.ntmps55
    go_wp2_with fail
    go_ret
    exact ⟨-1, rfl, by omega, by omega, fun h => by omega, HB.out _⟩
  · by_cases g2 : l - (p.1.size : Int) - (p.2.size : Int) < 0
    · go_enter Try.func55, Try.ntmps55
      go_wp2_with fail
      go_ret
      exact ⟨-1, rfl, by omega, by omega, fun h => by omega, HB.out _⟩
    · go_enter Try.func55, Try.ntmps55
      go_wp2_with fail
      go_ret
      exact ⟨_, rfl, by omega, by omega, fun h => by omega, HB.out _⟩

def Small (ps : PS) (l : Int) : Prop := ∀ p ∈ ps, (p.1.size : Int) ≤ l ∧ (p.2.size : Int) ≤ l
def smallTo (ps : PS) (l : Int) (k : Nat) : Prop := ∀ (i : Nat) (h : i < ps.length), i < k → (ps[i].1.size : Int) ≤ l ∧ (ps[i].2.size : Int) ≤ l
theorem smallTo_succ {ps : PS} {l m : Int} {k : Nat} (h : smallTo ps l k) (hk : k < ps.length) (hm : m ≤ l) (he : (ps[k].1.size : Int) ≤ m ∧ (ps[k].2.size : Int) ≤ m) : smallTo ps l (k + 1) := by
  intro i hi hlt
  by_cases e : i = k
  · subst e
    omega
  · exact h i hi (by omega)
theorem smallTo_end {ps : PS} {l : Int} (h : smallTo ps l ps.length) : Small ps l := by
  intro p hp
  obtain ⟨i, hi, rfl⟩ := List.getElem_of_mem hp
  exact h i hi hi
def SzPost (ps : PS) (l : Int) (w : World) (e : Ending) (w' : World) : Prop :=
  ∃ r : Int, e = .returned (.int .i64 r) ∧ -1 ≤ r ∧ r ≤ l ∧ (0 ≤ r → (ps.length : Int) ≤ l ∧ Small ps l) ∧ Below w.heap.size w w'

set_option maxHeartbeats 1000000 in
theorem szPairS_any (A : Option Addr) (c : Nat) (ps : PS) (l : Int) (w : World) (hr : RP w w.heap.size A ps) (hf : Fits ps) (hn : ps.length ≤ maxLen) (h0 : 0 ≤ l) (h1 : l ≤ 1048576) :
    Calls Try.prog 13 #[.slice A ps.length c, .int .i64 l] w (SzPost ps l w) := by
  unfold maxLen at hn
  by_cases g : l - (ps.length : Int) < 0
  · clear hr hf
    go_enter Try.func13, Try.ntmps13
    go_wp2_with fail
    go_ret
    exact ⟨-1, rfl, by omega, by omega, fun h => by omega, Below.refl _ _⟩
  · go_enter Try.func13, Try.ntmps13
    go_wp2_with fail
    go_loopw [1, 5] (fun q i wr => ∃ (m : Int) (k : Nat), 0 ≤ m ∧ m ≤ l ∧ k ≤ ps.length ∧ q = .int .i64 m ∧ i = .int .i64 k ∧ smallTo ps l k ∧ Below w.heap.size w wr) (fun _ i _ => ps.length - (intOf i).toNat)
    case atStart => exact ⟨_, 0, by omega, by omega, Nat.zero_le _, rfl, rfl, fun i h hi => absurd hi (by omega), Below.refl _ w⟩
    case round =>
      obtain ⟨m, k, hm0, hm1, hk, rfl, rfl, hst, hbw⟩ := hrel
      by_cases hlt : k < ps.length
      · obtain ⟨b, off, rfl, hb, hc1, hc2⟩ := (hr.below hbw).at_ hlt
        have HF := hid (hf.get hlt)
        have HS := hid (@smallTo_succ ps l m k hst hlt)
        have HD := hid hbw
        clear hst hbw hr hf
        go_wp2_with (go_at_call 55; refine (szPair_any ps[k] m _ hm0 (by omega) HF.out.1 HF.out.2).mono ?_; rintro e w' ⟨r, rfl, hr1, hr2, hr3, hw⟩; have HR := hid hr3; clear hr3)
        · go_ret
          exact ⟨-1, rfl, by omega, by omega, fun h => by omega, HD.out.trans (hw.mono HD.out.size)⟩
        · refine ⟨⟨r, k + 1, by omega, by omega, by omega, rfl, by go_num, HS.out (by omega) (HR.out (by omega)), HD.out.trans (hw.mono HD.out.size)⟩, by simp [intOf]; omega⟩
      · obtain rfl : k = ps.length := by omega
        have HS := hid (smallTo_end hst)
        have HD := hid hbw
        clear hst hbw hr hf
        go_wp2_with fail
        go_ret
        exact ⟨m, rfl, by omega, by omega, fun h => ⟨by omega, HS.out⟩, HD.out⟩

/-! ### comparisons -/
theorem eqPair_any (p q : BB) (w : World) :
    Calls Try.prog 65 #[.agg #[.string p.1, .string p.2], .agg #[.string q.1, .string q.2]] w fun e w' => e = .returned (.bool (decide (p = q))) ∧ w' = (w.alloc (.cells #[.string p.1, .string p.2] 57)).alloc (.cells #[.string q.1, .string q.2] 57) := by
  by_cases h1 : p.1 = q.1
  · by_cases h2 : p.2 = q.2
    · have HE : Hid (decide (p = q) = true) := by simp [Hid, Prod.ext_iff, h1, h2]
      have g1 := eqS_true h1
      have g2 := eqS_true h2
      clear h1 h2
      go_enter Try.func65, Try.ntmps65
      go_wp2
      go_ret
      exact ⟨ret_bool HE.out.symm, rfl⟩
    · have HE : Hid (decide (p = q) = false) := by simp [Hid, Prod.ext_iff, h2]
      have g1 := eqS_true h1
      have g2 := eqS_false h2
      clear h1 h2
      go_enter Try.func65, Try.ntmps65
      go_wp2
      go_ret
      exact ⟨ret_bool HE.out.symm, rfl⟩
  · have HE : Hid (decide (p = q) = false) := by simp [Hid, Prod.ext_iff, h1]
    have g1 := eqS_false h1
    clear h1
    go_enter Try.func65, Try.ntmps65
    go_wp2
    go_ret
    exact ⟨ret_bool HE.out.symm, rfl⟩

def sameTo (ps qs : PS) (k : Nat) : Prop := ∀ (i : Nat) (h : i < ps.length) (h' : i < qs.length), i < k → ps[i] = qs[i]
theorem sameTo_succ {ps qs : PS} {k : Nat} (h : sameTo ps qs k) (hk : k < ps.length) (hk' : k < qs.length) (he : ps[k] = qs[k]) : sameTo ps qs (k + 1) := by
  intro i hi hi' hlt
  by_cases e : i = k
  · subst e
    exact he
  · exact h i hi hi' (by omega)
theorem sameTo_end {ps qs : PS} (h : sameTo ps qs ps.length) (hl : ps.length = qs.length) : ps = qs :=
  List.ext_getElem hl fun i h1 h2 => h i h1 h2 h1
theorem same_no {ps qs : PS} {k : Nat} (hk : k < ps.length) (hk' : k < qs.length) (he : ps[k] ≠ qs[k]) : decide (ps = qs) = false := by
  rw [decide_eq_false_iff_not]
  rintro rfl
  exact he rfl
theorem same_len {ps qs : PS} (h : ps.length ≠ qs.length) : decide (ps = qs) = false := by
  rw [decide_eq_false_iff_not]
  rintro rfl
  exact h rfl

set_option maxHeartbeats 1000000 in
theorem eqPairS_any (A A' : Option Addr) (c c' : Nat) (ps qs : PS) (w : World) (hr : RP w w.heap.size A ps) (hr' : RP w w.heap.size A' qs) (hn : ps.length ≤ maxLen) :
    Calls Try.prog 18 #[.slice A ps.length c, .slice A' qs.length c'] w fun e w' => e = .returned (.bool (decide (ps = qs))) ∧ Below w.heap.size w w' := by
  unfold maxLen at hn
  by_cases g : ps.length = qs.length
  · have g0 : ((ps.length : Int) != (qs.length : Int)) = false := by simp [g]
    have G := hid g
    clear g
    go_enter Try.func18, Try.ntmps18
    go_wp2_with fail
    go_loopw [5] (fun i wr => ∃ k : Nat, k ≤ ps.length ∧ i = .int .i64 k ∧ sameTo ps qs k ∧ Below w.heap.size w wr) (fun i _ => ps.length - (intOf i).toNat)
    case atStart => exact ⟨0, Nat.zero_le _, rfl, fun i h h' hi => absurd hi (by omega), Below.refl _ w⟩
    case round =>
      obtain ⟨k, hk, rfl, hst, hbw⟩ := hrel
      by_cases hlt : k < ps.length
      · have hlt' : k < qs.length := by have := G.out; omega
        obtain ⟨b, off, rfl, hb, hc1, hc2⟩ := (hr.below hbw).at_ hlt
        obtain ⟨b', off', rfl, hb', hc3, hc4⟩ := (hr'.below hbw).at_ hlt'
        have HS := hid (sameTo_succ hst hlt hlt')
        have HN := hid (@same_no ps qs k hlt hlt')
        have HD := hid hbw
        clear hst hbw hr hr'
        have e5 : (0 : Int) ≤ (k : Int) := by omega
        have e6 : (k : Int) < (ps.length : Int) := by omega
        have e7 : (k : Int) < (qs.length : Int) := by omega
        by_cases he : ps[k] = qs[k]
        · have h3 : decide (ps[k] = qs[k]) = true := by simp [he]
          have HE := hid he
          clear he
          go_wp2_with fail
          go_region_held3 (fun w' => w'.cell? ⟨b, off + k * 2, none⟩ = some (.string ps[k].1) ∧ w'.cell? ⟨b, off + k * 2 + 1, none⟩ = some (.string ps[k].2) ∧ w'.cell? ⟨b', off' + k * 2, none⟩ = some (.string qs[k].1) ∧ w'.cell? ⟨b', off' + k * 2 + 1, none⟩ = some (.string qs[k].2)) (go_keep)
            (first | (go_at_call 65; refine (eqPair_any ps[k] qs[k] _).mono ?_; rintro e w' ⟨rfl, rfl⟩))
          go_wp2_with fail
          go_roundw
          case rel => exact ⟨k + 1, by omega, by go_num, HS.out HE.out, below2 HD.out HD.out.size⟩
          case measure => simp [intOf]; omega
        · have h3 : decide (ps[k] = qs[k]) = false := by simp [he]
          have HE := hid he
          clear he
          go_wp2_with fail
          go_region_held3 (fun w' => w'.cell? ⟨b, off + k * 2, none⟩ = some (.string ps[k].1) ∧ w'.cell? ⟨b, off + k * 2 + 1, none⟩ = some (.string ps[k].2) ∧ w'.cell? ⟨b', off' + k * 2, none⟩ = some (.string qs[k].1) ∧ w'.cell? ⟨b', off' + k * 2 + 1, none⟩ = some (.string qs[k].2)) (go_keep)
            (first | (go_at_call 65; refine (eqPair_any ps[k] qs[k] _).mono ?_; rintro e w' ⟨rfl, rfl⟩))
          go_wp2_with fail
          go_ret
          exact ⟨ret_bool (HN.out HE.out).symm, below2 HD.out HD.out.size⟩
      · obtain rfl : k = ps.length := by omega
        have HE : Hid (decide (ps = qs) = true) := by
          rw [Hid, decide_eq_true_eq]
          exact sameTo_end hst G.out
        have HD := hid hbw
        clear hst hbw hr hr'
        go_wp2_with fail
        go_ret
        exact ⟨ret_bool HE.out.symm, HD.out⟩
  · have g0 : ((ps.length : Int) != (qs.length : Int)) = true := by simp; omega
    have HN := hid (same_len g)
    clear g hr hr'
    go_enter Try.func18, Try.ntmps18
    go_wp2_with fail
    go_ret
    exact ⟨ret_bool HN.out.symm, Below.refl _ _⟩
end Go.Proofs.Ytcjbjfhndjpmcaa
/-
  Copies of pairs, as the exact laws make them.
-/
namespace Go.Proofs.Ytcjbjfhndjpmcaa
open Go.RowKit

theorem below3 {B : Nat} {w wr : World} {o o' o'' : Obj} (h : Below B w wr) (hB : B ≤ wr.heap.size) : Below B w (((wr.alloc o).alloc o').alloc o'') :=
  ((h.alloc hB o).alloc (by simp; omega) o').alloc (by simp; omega) o''

set_option maxHeartbeats 400000 in
theorem toPair_any (p : BB) (w : World) :
    Calls Try.prog 60 #[.agg #[.string p.1, .string p.2]] w fun e w' => e = .returned (.agg #[.string p.1, .string p.2]) ∧ Below w.heap.size w w' := by
  go_enter Try.func60, Try.ntmps60
  go_wp2
  exact bodyPost_ret (v := .agg #[.string p.1, .string p.2]) (by simp [results, Try.results60, go_sem]) rfl ⟨rfl, below3 (Below.refl _ _) (Nat.le_refl _)⟩

/-- The new row, filled up to k. -/
def Filled (wr : World) (g : Nat) (ps : PS) (k : Nat) : Prop :=
  ∃ xs, wr.ownsRow g 57 2 (.slice (some ⟨g, 0, none⟩) ps.length ps.length) ps.length xs ∧ ∀ (i : Nat) (p : BB), ps[i]? = some p → i < k → xs[i * 2]? = some (.string p.1) ∧ xs[i * 2 + 1]? = some (.string p.2)
theorem Filled.start {wr : World} {g : Nat} {ps : PS} {xs : List Value} (h : wr.ownsRow g 57 2 (.slice (some ⟨g, 0, none⟩) ps.length ps.length) ps.length xs) : Filled wr g ps 0 :=
  ⟨xs, h, fun i p _ hi => absurd hi (by omega)⟩
theorem pcells_ext : ∀ (ps : PS) (xs : List Value), xs.length = ps.length * 2 → (∀ (i : Nat) (p : BB), ps[i]? = some p → xs[i * 2]? = some (.string p.1) ∧ xs[i * 2 + 1]? = some (.string p.2)) → xs = pcells ps
  | [], xs, hl, _ => List.eq_nil_of_length_eq_zero (by simpa using hl)
  | p :: r, xs, hl, h => by
    match xs, hl with
    | a :: b :: t, hl =>
      have h0 := h 0 p rfl
      simp only [Nat.zero_mul, List.getElem?_cons_zero, Option.some.injEq, Nat.zero_add, List.getElem?_cons_succ] at h0
      rw [h0.1, h0.2, pcells]
      congr 2
      refine pcells_ext r t (by simp at hl ⊢; omega) fun i q hq => ?_
      have := h (i + 1) q (by simpa using hq)
      rw [show (i + 1) * 2 = i * 2 + 1 + 1 by omega] at this
      simpa using this
    | [a], hl => simp at hl; omega
    | [], hl => simp at hl
theorem Filled.end_ {wr : World} {g : Nat} {ps : PS} (h : Filled wr g ps ps.length) : wr.ownsRow g 57 2 (.slice (some ⟨g, 0, none⟩) ps.length ps.length) ps.length (pcells ps) := by
  obtain ⟨xs, ho, hx⟩ := h
  have : xs = pcells ps := pcells_ext ps xs ho.1 fun i p hp => hx i p hp (List.getElem?_eq_some_iff.1 hp).1
  rwa [this] at ho
theorem Filled.cells {wr : World} {g : Nat} {ps : PS} {k : Nat} (h : Filled wr g ps k) (hk : k < ps.length) : ∃ u v, wr.cell? ⟨g, k * 2, none⟩ = some u ∧ wr.cell? ⟨g, k * 2 + 1, none⟩ = some v := by
  obtain ⟨xs, ho, hx⟩ := h
  have hl := ho.1
  refine ⟨_, _, (ho.cellAt (k * 2) (by omega)).trans (List.getElem?_eq_getElem (by omega)), (ho.cellAt (k * 2 + 1) (by omega)).trans (List.getElem?_eq_getElem (by omega))⟩
theorem Filled.frozen {wr : World} {g : Nat} {ps : PS} {k : Nat} (h : Filled wr g ps k) (j : Nat) : wr.frozen? ⟨g, j, none⟩ = false := by
  obtain ⟨xs, ho, hx⟩ := h
  exact ho.frozenAt j
theorem Filled.grown {wr w' : World} {g : Nat} {ps : PS} {k : Nat} (h : Filled wr g ps k) (hg : wr.grownBy w' none) : Filled w' g ps k := by
  obtain ⟨xs, ho, hx⟩ := h
  exact ⟨xs, ho.kept hg (.inr (by simp [Value.ownBlock])), hx⟩
theorem Filled.store {wr : World} {g : Nat} {ps : PS} {k : Nat} (h : Filled wr g ps k) (hk : k < ps.length) : Filled ((wr.setCell ⟨g, k * 2, none⟩ (.string ps[k].1)).setCell ⟨g, k * 2 + 1, none⟩ (.string ps[k].2)) g ps (k + 1) := by
  obtain ⟨xs, ho, hx⟩ := h
  have hl := ho.1
  refine ⟨_, ((ho.stored (k * 2) (.string ps[k].1)).1.stored (k * 2 + 1) (.string ps[k].2)).1, fun i p hp hi => ?_⟩
  by_cases e : i = k
  · subst e
    have hp' : ps[i] = p := by rw [List.getElem?_eq_getElem hk] at hp; exact Option.some.inj hp
    subst hp'
    constructor
    · rw [List.getElem?_set_ne (by omega), List.getElem?_set_self (by omega)]
    · rw [List.getElem?_set_self (by simp; omega)]
  · obtain ⟨h1, h2⟩ := hx i p hp (by omega)
    rw [List.getElem?_set_ne (by omega), List.getElem?_set_ne (by omega), List.getElem?_set_ne (by omega), List.getElem?_set_ne (by omega)]
    exact ⟨h1, h2⟩

set_option maxHeartbeats 1000000 in
theorem toPairS_any (A : Option Addr) (c : Nat) (ps : PS) (w : World) (hr : RP w w.heap.size A ps) (hn : ps.length ≤ 1048576) :
    Calls Try.prog 15 #[.slice A ps.length c] w (Made w w.heap.size ps) := by
  obtain ⟨i0, hi, hz0, hz1, hz2⟩ := info_parts pairInfo
  go_enter Try.func15, Try.ntmps15
  go_wp2_with (at_make; refine wpList_make_full _ rfl _ _ 27 rfl w.heap.size 57 i0 _ 2 Try.underlying27 hi hz0 hz1 _ _ _ _ ps.length rfl rfl rfl rfl (by rw [hz2]; omega) (by unfold maxLen; omega) (Nat.le_refl _) ?_; intro w1 hown1 hg1)
  have hb1 : Below w.heap.size w w1 := (Below.refl _ _).grown hg1 (Nat.le_refl _) (by simp)
  have HO := hid hown1
  have HB := hid hb1
  clear hown1 hg1 hb1
  go_wp2_with fail
  go_loopw [4] (fun i wr => ∃ k : Nat, k ≤ ps.length ∧ i = .int .i64 k ∧ Filled wr w.heap.size ps k ∧ Below w.heap.size w wr) (fun i _ => ps.length - (intOf i).toNat)
  case atStart => exact ⟨0, Nat.zero_le _, rfl, Filled.start HO.out, HB.out⟩
  case round =>
    obtain ⟨k, hk, rfl, hfl, hbw⟩ := hrel
    by_cases hlt : k < ps.length
    · obtain ⟨b, off, rfl, hb, hc1, hc2⟩ := (hr.below hbw).at_ hlt
      have HF := hid hfl
      have HD := hid hbw
      clear hfl hbw hr
      go_wp2_with (go_at_call 60; refine (toPair_any ps[k] _).mono ?_; rintro e w' ⟨rfl, hw⟩; have HF2 := hid (HF.out.grown (below_grown hw)); obtain ⟨u, v, hu, hv⟩ := HF2.out.cells hlt; have f1 := HF2.out.frozen (k * 2); have f2 := HF2.out.frozen (k * 2 + 1))
      refine ⟨⟨k + 1, by omega, by go_num, HF2.out.store hlt, ?_⟩, by simp [intOf]; omega⟩
      exact ((HD.out.trans (hw.mono HD.out.size)).setCell (by simp) _).setCell (by simp) _
    · obtain rfl : k = ps.length := by omega
      have HF := hid hfl
      have HD := hid hbw
      clear hfl hbw hr
      go_wp2_with fail
      go_ret
      exact ⟨_, _, rfl, HF.out.end_, HD.out⟩
end Go.Proofs.Ytcjbjfhndjpmcaa
