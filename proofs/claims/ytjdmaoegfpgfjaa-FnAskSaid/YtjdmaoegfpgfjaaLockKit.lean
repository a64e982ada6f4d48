/-
  What the exact laws of locks go through: sizes, copies, comparisons of holds and locks.
-/
import Derived.Test.YtjdmaoegfpgfjaaToPair
import Derived.Test.YtjdmaoegfpgfjaaRow3
import Derived.Test.YtjdmaoegfpgfjaaLockMem
namespace Go.Proofs.Ytjdmaoegfpgfjaa
open Go.RowKit

theorem holdInfo : (Try.prog.info? 49).map (fun i => (i.zero, i.size, i.bytes)) = some (some (.agg #[.int .i64 0, .string ⟨#[]⟩, .int .i64 0]), 3, 32) := by kernel_rfl

/-- A slice of holds of the call's own. -/
def OwnH (w : World) (B : Nat) (A : Option Addr) (c : Nat) (hs : HS) : Prop := w.ownsRow B 49 3 (.slice A hs.length c) hs.length (hcells hs)
theorem OwnH.rh {w : World} {B c : Nat} {A : Option Addr} {hs : HS} (h : OwnH w B A c hs) : RH w w.heap.size A hs := RH.of_own h
theorem OwnH.below {w w' : World} {B c : Nat} {A : Option Addr} {hs : HS} (h : OwnH w B A c hs) (hb : Below w.heap.size w w') : OwnH w' B A c hs := h.kept (below_grown hb) (by
  cases hv : Value.ownBlock (.slice A hs.length c) <;> simp)
theorem OwnH.mono {w : World} {B B' c : Nat} {A : Option Addr} {hs : HS} (h : OwnH w B A c hs) (hB : B' ≤ B) : OwnH w B' A c hs := by
  refine ⟨h.1, ?_⟩
  rcases h.2 with hn | ⟨g, cap, cur, hv, hb, rest⟩
  · exact .inl hn
  · exact .inr ⟨g, cap, cur, hv, by omega, rest⟩
theorem OwnH.cap {w : World} {B : Nat} {K : Option Addr} {d : Nat} {ks : HS} (h : OwnH w B K d ks) : ks.length ≤ d ∧ d ≤ maxLen := by
  rcases h.2 with ⟨hv, hn⟩ | ⟨g, cap, cur, hv, _, _, h1, h2, _⟩
  · injection hv with _ _ hd
    exact ⟨by omega, by omega⟩
  · injection hv with _ _ hd
    exact ⟨by omega, by omega⟩
def MadeH (w : World) (B : Nat) (hs : HS) (e : Ending) (w' : World) : Prop := ∃ A c, e = .returned (.slice A hs.length c) ∧ OwnH w' B A c hs ∧ Below w.heap.size w w'

/-! ### sizes -/
def SzH1 (x : HD) (l : Int) (w : World) (e : Ending) (w' : World) : Prop :=
  ∃ r : Int, e = .returned (.int .i64 r) ∧ -1 ≤ r ∧ r ≤ l ∧ (0 ≤ r → (x.2.1.size : Int) ≤ l) ∧ Below w.heap.size w w'
theorem szHold_any (x : HD) (l : Int) (w : World) (h0 : 0 ≤ l) (h1 : l ≤ 1048576) (hs : x.2.1.size ≤ maxLen) :
    Calls Try.prog 201 #[.agg #[.int .i64 x.1, .string x.2.1, .int .i64 x.2.2], .int .i64 l] w (SzH1 x l w) := by
  unfold maxLen at hs
  have hb : ∀ o : Obj, Below w.heap.size w (w.alloc o) := fun o => (Below.refl _ _).alloc (Nat.le_refl _) o
  have HB := hid hb
  clear hb
  by_cases g1 : l - (x.2.1.size : Int) < 0
  · go_enter Try.func201, Try.ntmps201
    go_wp2_with fail
    go_ret
    exact ⟨-1, rfl, by omega, by omega, fun h => by omega, HB.out _⟩
  · go_enter Try.func201, Try.ntmps201
    go_wp2_with fail
    go_ret
    exact ⟨_, rfl, by omega, by omega, fun h => by omega, HB.out _⟩

def SmallH (hs : HS) (l : Int) : Prop := ∀ x ∈ hs, (x.2.1.size : Int) ≤ l
def SzPostH (hs : HS) (l : Int) (w : World) (e : Ending) (w' : World) : Prop :=
  ∃ r : Int, e = .returned (.int .i64 r) ∧ -1 ≤ r ∧ r ≤ l ∧ (0 ≤ r → (hs.length : Int) ≤ l) ∧ Below w.heap.size w w'

set_option maxHeartbeats 1000000 in
theorem szHoldS_any (A : Option Addr) (c : Nat) (hs : HS) (l : Int) (w : World) (hr : RH w w.heap.size A hs) (hf : FitsH hs) (hn : hs.length ≤ maxLen) (h0 : 0 ≤ l) (h1 : l ≤ 1048576) :
    Calls Try.prog 162 #[.slice A hs.length c, .int .i64 l] w (SzPostH hs l w) := by
  unfold maxLen at hn
  by_cases g : l - (hs.length : Int) < 0
  · clear hr hf
    go_enter Try.func162, Try.ntmps162
    go_wp2_with fail
    go_ret
    exact ⟨-1, rfl, by omega, by omega, fun h => by omega, Below.refl _ _⟩
  · go_enter Try.func162, Try.ntmps162
    go_wp2_with fail
    go_loopw [1, 5] (fun q i wr => ∃ (m : Int) (k : Nat), 0 ≤ m ∧ m ≤ l ∧ k ≤ hs.length ∧ q = .int .i64 m ∧ i = .int .i64 k ∧ Below w.heap.size w wr) (fun _ i _ => hs.length - (intOf i).toNat)
    case atStart => exact ⟨_, 0, by omega, by omega, Nat.zero_le _, rfl, rfl, Below.refl _ w⟩
    case round =>
      obtain ⟨m, k, hm0, hm1, hk, rfl, rfl, hbw⟩ := hrel
      by_cases hlt : k < hs.length
      · obtain ⟨b, off, rfl, hb, hc1, hc2, hc3⟩ := (hr.below hbw).at_ hlt
        have HF := hid (hf.get hlt)
        have HD := hid hbw
        clear hbw hr hf
        go_wp2_with (go_at_call 201; refine (szHold_any hs[k] m _ hm0 (by omega) HF.out).mono ?_; rintro e w' ⟨r, rfl, hr1, hr2, hr3, hw⟩; have HR := hid hr3; clear hr3)
        · go_ret
          exact ⟨-1, rfl, by omega, by omega, fun h => by omega, HD.out.trans (hw.mono HD.out.size)⟩
        · refine ⟨⟨r, k + 1, by omega, by omega, by omega, rfl, by go_num, HD.out.trans (hw.mono HD.out.size)⟩, by simp [intOf]; omega⟩
      · obtain rfl : k = hs.length := by omega
        have HD := hid hbw
        clear hbw hr hf
        go_wp2_with fail
        go_ret
        exact ⟨m, rfl, by omega, by omega, fun h => by omega, HD.out⟩

def SzPostL (h l : HS) (m : Int) (w : World) (e : Ending) (w' : World) : Prop :=
  ∃ r : Int, e = .returned (.int .i64 r) ∧ -1 ≤ r ∧ r ≤ m ∧ (0 ≤ r → (h.length : Int) ≤ m ∧ (l.length : Int) ≤ m) ∧ Below w.heap.size w w'
set_option maxHeartbeats 1000000 in
theorem szLocks_any (A : Option Addr) (c : Nat) (h : HS) (K : Option Addr) (d : Nat) (l : HS) (m : Int) (w : World) (hr : RH w w.heap.size A h) (hf : FitsH h) (hn : h.length ≤ maxLen) (hr' : RH w w.heap.size K l) (hf' : FitsH l) (hn' : l.length ≤ maxLen) (h0 : 0 ≤ m) (h1 : m ≤ 1048576) :
    Calls Try.prog 98 #[.agg #[.slice A h.length c, .slice K l.length d], .int .i64 m] w (SzPostL h l m w) := by
  have HB : Hid (∀ o : Obj, Below w.heap.size w (w.alloc o)) := fun o => (Below.refl _ _).alloc (Nat.le_refl _) o
  have HR := hid ((hr.below (HB.out (.cells #[.slice A h.length c, .slice K l.length d] 65))).more (HB.out (.cells #[.slice A h.length c, .slice K l.length d] 65)).size)
  have HR2 := hid ((hr'.below (HB.out (.cells #[.slice A h.length c, .slice K l.length d] 65))).more (HB.out (.cells #[.slice A h.length c, .slice K l.length d] 65)).size)
  have HF := hid hf
  have HN := hid hn
  have HF2 := hid hf'
  have HN2 := hid hn'
  clear hr hf hn hr' hf' hn'
  go_enter Try.func98, Try.ntmps98
  go_wp2_with fail
  refine (szHoldS_any A c h m _ HR.out HF.out HN.out h0 h1).mono ?_
  rintro e w1 ⟨r, rfl, hr1, hr2, hr3, hb1⟩
  have H3 := hid hr3
  have HB1 := hid ((HB.out _).trans (hb1.mono (HB.out _).size))
  have HQ := hid ((HR2.out.below hb1).more hb1.size)
  have hx2 : w1.cell? ⟨w.heap.size, 1, none⟩ = some (.slice K l.length d) := (hb1.cell (p := ⟨w.heap.size, 1, none⟩) (by simp)).trans (by go_simp)
  clear hr3 hb1
  by_cases hneg : r < 0
  · go_wp2_with fail
    go_ret
    exact ⟨-1, rfl, by omega, by omega, fun h => by omega, HB1.out⟩
  · go_wp2_with fail
    refine (szHoldS_any K d l r _ HQ.out HF2.out HN2.out (by omega) (by omega)).mono ?_
    rintro e w2 ⟨q, rfl, hq1, hq2, hq3, hb2⟩
    have H4 := hid hq3
    have HB2 := hid (HB1.out.trans (hb2.mono HB1.out.size))
    clear hq3 hb2
    by_cases hneg2 : q < 0
    · go_wp2_with fail
      go_ret
      exact ⟨-1, rfl, by omega, by omega, fun h => by omega, HB2.out⟩
    · go_wp2_with fail
      go_ret
      exact ⟨_, rfl, by omega, by omega, fun h => ⟨by have := H3.out (by omega); omega, by have := H4.out h; omega⟩, HB2.out⟩

/-! ### copies -/
set_option maxHeartbeats 400000 in
theorem toHold_any (x : HD) (w : World) :
    Calls Try.prog 204 #[.agg #[.int .i64 x.1, .string x.2.1, .int .i64 x.2.2]] w fun e w' => e = .returned (.agg #[.int .i64 x.1, .string x.2.1, .int .i64 x.2.2]) ∧ Below w.heap.size w w' := by
  go_enter Try.func204, Try.ntmps204
  go_wp2
  exact bodyPost_ret (v := .agg #[.int .i64 x.1, .string x.2.1, .int .i64 x.2.2]) (by simp [results, Try.results204, go_sem]) rfl ⟨rfl, below3 (Below.refl _ _) (Nat.le_refl _)⟩

def FilledH (wr : World) (g : Nat) (hs : HS) (k : Nat) : Prop :=
  ∃ xs, wr.ownsRow g 49 3 (.slice (some ⟨g, 0, none⟩) hs.length hs.length) hs.length xs ∧ ∀ (i : Nat) (x : HD), hs[i]? = some x → i < k → xs[i * 3]? = some (.int .i64 x.1) ∧ xs[i * 3 + 1]? = some (.string x.2.1) ∧ xs[i * 3 + 2]? = some (.int .i64 x.2.2)
theorem FilledH.start {wr : World} {g : Nat} {hs : HS} {xs : List Value} (h : wr.ownsRow g 49 3 (.slice (some ⟨g, 0, none⟩) hs.length hs.length) hs.length xs) : FilledH wr g hs 0 :=
  ⟨xs, h, fun i x _ hi => absurd hi (by omega)⟩
theorem hcells_ext : ∀ (hs : HS) (xs : List Value), xs.length = hs.length * 3 → (∀ (i : Nat) (x : HD), hs[i]? = some x → xs[i * 3]? = some (.int .i64 x.1) ∧ xs[i * 3 + 1]? = some (.string x.2.1) ∧ xs[i * 3 + 2]? = some (.int .i64 x.2.2)) → xs = hcells hs
  | [], xs, hl, _ => List.eq_nil_of_length_eq_zero (by simpa using hl)
  | p :: r, xs, hl, h => by
    match xs, hl with
    | a :: b :: c :: t, hl =>
      have h0 := h 0 p rfl
      simp only [Nat.zero_mul, List.getElem?_cons_zero, Option.some.injEq, Nat.zero_add, List.getElem?_cons_succ] at h0
      rw [h0.1, h0.2.1, h0.2.2, hcells]
      congr 3
      refine hcells_ext r t (by simp at hl ⊢; omega) fun i q hq => ?_
      have := h (i + 1) q (by simpa using hq)
      rw [show (i + 1) * 3 = i * 3 + 1 + 1 + 1 by omega] at this
      simpa using this
    | [a, b], hl => simp at hl; omega
    | [a], hl => simp at hl; omega
    | [], hl => simp at hl
theorem FilledH.end_ {wr : World} {g : Nat} {hs : HS} (h : FilledH wr g hs hs.length) : wr.ownsRow g 49 3 (.slice (some ⟨g, 0, none⟩) hs.length hs.length) hs.length (hcells hs) := by
  obtain ⟨xs, ho, hx⟩ := h
  have : xs = hcells hs := hcells_ext hs xs ho.1 fun i p hp => hx i p hp (List.getElem?_eq_some_iff.1 hp).1
  rwa [this] at ho
theorem FilledH.cells {wr : World} {g : Nat} {hs : HS} {k : Nat} (h : FilledH wr g hs k) (hk : k < hs.length) : ∃ u v x, wr.cell? ⟨g, k * 3, none⟩ = some u ∧ wr.cell? ⟨g, k * 3 + 1, none⟩ = some v ∧ wr.cell? ⟨g, k * 3 + 2, none⟩ = some x := by
  obtain ⟨xs, ho, hx⟩ := h
  have hl := ho.1
  refine ⟨_, _, _, (ho.cellAt (k * 3) (by omega)).trans (List.getElem?_eq_getElem (by omega)), (ho.cellAt (k * 3 + 1) (by omega)).trans (List.getElem?_eq_getElem (by omega)), (ho.cellAt (k * 3 + 2) (by omega)).trans (List.getElem?_eq_getElem (by omega))⟩
theorem FilledH.frozen {wr : World} {g : Nat} {hs : HS} {k : Nat} (h : FilledH wr g hs k) (j : Nat) : wr.frozen? ⟨g, j, none⟩ = false := by
  obtain ⟨xs, ho, hx⟩ := h
  exact ho.frozenAt j
theorem FilledH.grown {wr w' : World} {g : Nat} {hs : HS} {k : Nat} (h : FilledH wr g hs k) (hg : wr.grownBy w' none) : FilledH w' g hs k := by
  obtain ⟨xs, ho, hx⟩ := h
  exact ⟨xs, ho.kept hg (.inr (by simp [Value.ownBlock])), hx⟩
theorem FilledH.store {wr : World} {g : Nat} {hs : HS} {k : Nat} (h : FilledH wr g hs k) (hk : k < hs.length) : FilledH (((wr.setCell ⟨g, k * 3, none⟩ (.int .i64 hs[k].1)).setCell ⟨g, k * 3 + 1, none⟩ (.string hs[k].2.1)).setCell ⟨g, k * 3 + 2, none⟩ (.int .i64 hs[k].2.2)) g hs (k + 1) := by
  obtain ⟨xs, ho, hx⟩ := h
  have hl := ho.1
  refine ⟨_, (((ho.stored (k * 3) (.int .i64 hs[k].1)).1.stored (k * 3 + 1) (.string hs[k].2.1)).1.stored (k * 3 + 2) (.int .i64 hs[k].2.2)).1, fun i p hp hi => ?_⟩
  by_cases e : i = k
  · subst e
    have hp' : hs[i] = p := by rw [List.getElem?_eq_getElem hk] at hp; exact Option.some.inj hp
    subst hp'
    refine ⟨?_, ?_, ?_⟩
    · rw [List.getElem?_set_ne (by omega), List.getElem?_set_ne (by omega), List.getElem?_set_self (by omega)]
    · rw [List.getElem?_set_ne (by omega), List.getElem?_set_self (by simp; omega)]
    · rw [List.getElem?_set_self (by simp; omega)]
  · obtain ⟨h1, h2, h3⟩ := hx i p hp (by omega)
    refine ⟨?_, ?_, ?_⟩ <;> rw [List.getElem?_set_ne (by omega), List.getElem?_set_ne (by omega), List.getElem?_set_ne (by omega)] <;> assumption

set_option maxHeartbeats 1000000 in
theorem toHoldS_any (A : Option Addr) (c : Nat) (hs : HS) (w : World) (hr : RH w w.heap.size A hs) (hn : hs.length ≤ 1048576) :
    Calls Try.prog 165 #[.slice A hs.length c] w (MadeH w w.heap.size hs) := by
  obtain ⟨i0, hi, hz0, hz1, hz2⟩ := info_parts holdInfo
  go_enter Try.func165, Try.ntmps165
  go_wp2_with (at_make; refine wpList_make_full _ rfl _ _ 37 rfl w.heap.size 49 i0 _ 3 Try.underlying37 hi hz0 hz1 _ _ _ _ hs.length rfl rfl rfl rfl (by rw [hz2]; omega) (by unfold maxLen; omega) (Nat.le_refl _) ?_; intro w1 hown1 hg1)
  have hb1 : Below w.heap.size w w1 := (Below.refl _ _).grown hg1 (Nat.le_refl _) (by simp)
  have HO := hid hown1
  have HB := hid hb1
  clear hown1 hg1 hb1
  go_wp2_with fail
  go_loopw [4] (fun i wr => ∃ k : Nat, k ≤ hs.length ∧ i = .int .i64 k ∧ FilledH wr w.heap.size hs k ∧ Below w.heap.size w wr) (fun i _ => hs.length - (intOf i).toNat)
  case atStart => exact ⟨0, Nat.zero_le _, rfl, FilledH.start HO.out, HB.out⟩
  case round =>
    obtain ⟨k, hk, rfl, hfl, hbw⟩ := hrel
    by_cases hlt : k < hs.length
    · obtain ⟨b, off, rfl, hb, hc1, hc2, hc3⟩ := (hr.below hbw).at_ hlt
      have HF := hid hfl
      have HD := hid hbw
      clear hfl hbw hr
      go_wp2_with (go_at_call 204; refine (toHold_any hs[k] _).mono ?_; rintro e w' ⟨rfl, hw⟩; have HF2 := hid (HF.out.grown (below_grown hw)); obtain ⟨u, v, x, hu, hv, hx⟩ := HF2.out.cells hlt; have f1 := HF2.out.frozen (k * 3); have f2 := HF2.out.frozen (k * 3 + 1); have f3 := HF2.out.frozen (k * 3 + 2))
      refine ⟨⟨k + 1, by omega, by go_num, HF2.out.store hlt, ?_⟩, by simp [intOf]; omega⟩
      exact (((HD.out.trans (hw.mono HD.out.size)).setCell (by simp) _).setCell (by simp) _).setCell (by simp) _
    · obtain rfl : k = hs.length := by omega
      have HF := hid hfl
      have HD := hid hbw
      clear hfl hbw hr
      go_wp2_with fail
      go_ret
      exact ⟨_, _, rfl, HF.out.end_, HD.out⟩

/-- Locks of the call's own. -/
def MadeLk (w : World) (B : Nat) (h l : HS) (e : Ending) (w' : World) : Prop :=
  ∃ A c K d B2, e = .returned (.agg #[.slice A h.length c, .slice K l.length d]) ∧ OwnH w' B A c h ∧ OwnH w' B2 K d l ∧ B ≤ B2 ∧ (∀ k, Value.ownBlock (.slice A h.length c) = some k → k < B2) ∧ Below w.heap.size w w'
theorem OwnH.set2 {w : World} {g : Nat} {t : TypeId} {a b : Value} {B c : Nat} {A : Option Addr} {hs : HS} (h : OwnH w B A c hs) (h' : Row2 w g t a b) (hg : g < B) (j : Nat) (v : Value) : OwnH (w.setCell ⟨g, j, none⟩ v) B A c hs := by
  refine h.kept (h'.stored j v).2 ?_
  rcases h.2 with ⟨hv, _⟩ | ⟨g2, cap, cur, hv, hb, _⟩
  · left
    rw [hv]; rfl
  · right
    rw [hv]
    simp [Value.ownBlock]
    omega

set_option maxHeartbeats 2000000 in
theorem toLocks_any (A : Option Addr) (c : Nat) (h : HS) (K : Option Addr) (d : Nat) (l : HS) (w : World) (hr : RH w w.heap.size A h) (hn : h.length ≤ 1048576) (hk : RH w w.heap.size K l) (hm : l.length ≤ 1048576) :
    Calls Try.prog 105 #[.agg #[.slice A h.length c, .slice K l.length d]] w (MadeLk w w.heap.size h l) := by
  have HR := hid hr
  have HK := hid hk
  obtain ⟨h1, h2, h3⟩ := rows_two w (.cells #[.slice A h.length c, .slice K l.length d] 65) 39 (.slice none 0 0) (.slice none 0 0) (.slice none 0 0) (.slice none 0 0)
  have H1 := hid h1
  have H2 := hid h2
  have H3 := hid h3
  clear hr hk h1 h2 h3
  go_enter Try.func105, Try.ntmps105
  go_wp2_with fail
  refine (toHoldS_any A c h _ ((HR.out.below H3.out).more H3.out.size) hn).mono ?_
  rintro e w4 ⟨A4, c4, rfl, ho4, hb4⟩
  have c2 : w4.cell? ⟨w.heap.size, 1, none⟩ = some (.slice K l.length d) := (hb4.cell (p := ⟨w.heap.size, 1, none⟩) (by simp; omega)).trans (by go_simp)
  have R1 := hid (H1.out.below hb4)
  have R2 := hid (H2.out.below hb4)
  have HB4 := hid (H3.out.trans (hb4.mono H3.out.size))
  have HLT := hid (World.ownsRow.lt ho4)
  have HO4 := hid ((ho4.set2 R2.out (by simp) 0 (.slice A4 h.length c4)).mono (by first | (simp; done) | (simp; omega) : w.heap.size + 3 ≤ _))
  have d1 := R2.out.c0
  have f1 := R2.out.fz 0
  have hsz4 : w.heap.size + 3 ≤ w4.heap.size := by have := hb4.size; simpa using this
  clear ho4 hb4
  go_wp2_with fail
  refine (toHoldS_any K d l _ ((HK.out.below (HB4.out.setCell (by simp; omega) _)).more (by have := HB4.out.size; simpa using this)) hm).mono ?_
  rintro e w5 ⟨K5, d5, rfl, ho5, hb5⟩
  clear c2 d1 f1
  have Q1 := hid ((R1.out.other R2.out (by omega) 0 (.slice A4 h.length c4)).below hb5)
  have Q2 := hid ((R2.out.s0 (.slice A4 h.length c4)).below hb5)
  have HO5 := hid (HO4.out.below hb5)
  have HI5 := hid ho5
  have HB5 := hid ((HB4.out.setCell (p := ⟨w.heap.size + 1 + 1, 0, none⟩) (by simp; omega) (.slice A4 h.length c4)).trans (hb5.mono (by have := HB4.out.size; simpa using this)))
  clear ho5 hb5
  have x0 := Q2.out.c0
  have x1 := Q2.out.c1
  have g2 := Q2.out.fz 1
  have y0 := Q1.out.c0
  have y1 := Q1.out.c1
  have g0 := Q1.out.fz 0
  have g1 := Q1.out.fz 1
  go_wp2_with fail
  have HI6 := hid (HI5.out.mono (by first | (simp; done) | (simp; omega) : w4.heap.size ≤ _))
  have U2 := Q2.out.s1 (.slice K5 l.length d5)
  have U1 := Q1.out.other Q2.out (by omega) 1 (.slice K5 l.length d5)
  have P0 := HO5.out.set2 Q2.out (by omega) 1 (.slice K5 l.length d5)
  have I0 := HI6.out.set2 Q2.out (by omega) 1 (.slice K5 l.length d5)
  have B0 := HB5.out.setCell (p := ⟨w.heap.size + 1 + 1, 1, none⟩) (by simp; omega) (.slice K5 l.length d5)
  have U3 := U1.s0 (.slice A4 h.length c4)
  refine world_post (S := fun wq => Row2 wq (w.heap.size + 1) 39 (.slice A4 h.length c4) (.slice K5 l.length d5) ∧ OwnH wq w.heap.size A4 c4 h ∧ OwnH wq w4.heap.size K5 d5 l ∧ Below w.heap.size w wq) _
    ⟨U3.s1 _, ((P0.set2 U1 (by omega) 0 _).set2 U3 (by omega) 1 _).mono (by omega), ((I0.set2 U1 (by omega) 0 _).set2 U3 (by omega) 1 _),
      (B0.setCell (p := ⟨w.heap.size + 1, 0, none⟩) (by simp) _).setCell (p := ⟨w.heap.size + 1, 1, none⟩) (by simp) _⟩ ?_
  clear x0 x1 y0 y1 g0 g1 g2 U1 U2 U3 P0 I0 B0
  intro wq ⟨hq, hp, hi, hb⟩
  have q0 := hq.c0
  have q1 := hq.c1
  exact bodyPost_ret (v := .agg #[.slice A4 h.length c4, .slice K5 l.length d5]) (by simp [results, Try.results105, go_sem, q0, q1]) rfl ⟨A4, c4, K5, d5, _, rfl, hp, hi, by omega, fun k hk => (HLT.out k hk).2, hb⟩

/-! ### comparisons, of holds that are alike -/
theorem eqHold_same (x : HD) (w : World) :
    Calls Try.prog 210 #[.agg #[.int .i64 x.1, .string x.2.1, .int .i64 x.2.2], .agg #[.int .i64 x.1, .string x.2.1, .int .i64 x.2.2]] w fun e w' => e = .returned (.bool true) ∧ w' = (w.alloc (.cells #[.int .i64 x.1, .string x.2.1, .int .i64 x.2.2] 49)).alloc (.cells #[.int .i64 x.1, .string x.2.1, .int .i64 x.2.2] 49) := by
  have g1 := eqS_true (rfl : x.2.1 = x.2.1)
  have g2 : (x.1 != x.1) = false := by simp
  have g3 : (x.2.2 != x.2.2) = false := by simp
  go_enter Try.func210, Try.ntmps210
  go_wp2
  go_ret
  exact ⟨rfl, rfl⟩

set_option maxHeartbeats 1000000 in
theorem eqHoldS_same (A A' : Option Addr) (c c' : Nat) (hs : HS) (w : World) (hr : RH w w.heap.size A hs) (hr' : RH w w.heap.size A' hs) (hn : hs.length ≤ maxLen) :
    Calls Try.prog 172 #[.slice A hs.length c, .slice A' hs.length c'] w fun e w' => e = .returned (.bool true) ∧ Below w.heap.size w w' := by
  unfold maxLen at hn
  have g0 : ((hs.length : Int) != (hs.length : Int)) = false := by simp
  go_enter Try.func172, Try.ntmps172
  go_wp2_with fail
  go_loopw [5] (fun i wr => ∃ k : Nat, k ≤ hs.length ∧ i = .int .i64 k ∧ Below w.heap.size w wr) (fun i _ => hs.length - (intOf i).toNat)
  case atStart => exact ⟨0, Nat.zero_le _, rfl, Below.refl _ w⟩
  case round =>
    obtain ⟨k, hk, rfl, hbw⟩ := hrel
    by_cases hlt : k < hs.length
    · obtain ⟨b, off, rfl, hb, hc1, hc2, hc3⟩ := (hr.below hbw).at_ hlt
      obtain ⟨b', off', rfl, hb', hc4, hc5, hc6⟩ := (hr'.below hbw).at_ hlt
      have HD := hid hbw
      clear hbw hr hr'
      have e5 : (0 : Int) ≤ (k : Int) := by omega
      have e6 : (k : Int) < (hs.length : Int) := by omega
      go_wp2_with fail
      go_region_held3 (fun w' => w'.cell? ⟨b, off + k * 3, none⟩ = some (.int .i64 hs[k].1) ∧ w'.cell? ⟨b, off + k * 3 + 1, none⟩ = some (.string hs[k].2.1) ∧ w'.cell? ⟨b, off + k * 3 + 2, none⟩ = some (.int .i64 hs[k].2.2) ∧ w'.cell? ⟨b', off' + k * 3, none⟩ = some (.int .i64 hs[k].1) ∧ w'.cell? ⟨b', off' + k * 3 + 1, none⟩ = some (.string hs[k].2.1) ∧ w'.cell? ⟨b', off' + k * 3 + 2, none⟩ = some (.int .i64 hs[k].2.2)) (go_keep)
        (first | (go_at_call 210; refine (eqHold_same hs[k] _).mono ?_; rintro e w' ⟨rfl, rfl⟩))
      go_wp2_with fail
      go_roundw
      case rel => exact ⟨k + 1, by omega, by go_num, below2 HD.out HD.out.size⟩
      case measure => simp [intOf]; omega
    · obtain rfl : k = hs.length := by omega
      have HD := hid hbw
      clear hbw hr hr'
      go_wp2_with fail
      go_ret
      exact ⟨rfl, HD.out⟩

set_option maxHeartbeats 1000000 in
theorem eqLocks_same (A : Option Addr) (c : Nat) (h : HS) (K : Option Addr) (d : Nat) (l : HS) (A' : Option Addr) (c' : Nat) (K' : Option Addr) (d' : Nat) (w : World)
    (hr : RH w w.heap.size A h) (hn : h.length ≤ maxLen) (hk : RH w w.heap.size K l) (hm : l.length ≤ maxLen) (hr' : RH w w.heap.size A' h) (hk' : RH w w.heap.size K' l) :
    Calls Try.prog 111 #[.agg #[.slice A h.length c, .slice K l.length d], .agg #[.slice A' h.length c', .slice K' l.length d']] w fun e w' => e = .returned (.bool true) ∧ Below w.heap.size w w' := by
  have HB : Hid (∀ o o' : Obj, Below w.heap.size w ((w.alloc o).alloc o')) := fun o o' => ((Below.refl _ _).alloc (Nat.le_refl _) o).alloc (by simp) o'
  have HR := hid hr
  have HK := hid hk
  have HR' := hid hr'
  have HK' := hid hk'
  have HN := hid hn
  have HM := hid hm
  clear hr hk hr' hk' hn hm
  go_enter Try.func111, Try.ntmps111
  go_wp2_with (first
    | (go_at_call 172; (with_reducible refine (eqHoldS_same A A' c c' h _ ((HR.out.below (HB.out _ _)).more (HB.out _ _).size) ((HR'.out.below (HB.out _ _)).more (HB.out _ _).size) HN.out).mono ?_); rintro e w1 ⟨rfl, hb1⟩; have HB1 := hid ((HB.out _ _).trans (hb1.mono (HB.out _ _).size)); have hx2 : w1.cell? ⟨w.heap.size, 1, none⟩ = some (.slice K l.length d) := (hb1.cell (p := ⟨w.heap.size, 1, none⟩) (by simp; omega)).trans (by go_simp); have hx3 : w1.cell? ⟨w.heap.size + 1, 1, none⟩ = some (.slice K' l.length d') := (hb1.cell (p := ⟨w.heap.size + 1, 1, none⟩) (by simp)).trans (by go_simp); clear hb1)
    | (go_at_call 172; refine (eqHoldS_same K K' d d' l _ ((HK.out.below HB1.out).more HB1.out.size) ((HK'.out.below HB1.out).more HB1.out.size) HM.out).mono ?_; rintro e w2 ⟨rfl, hw2⟩))
  go_ret
  exact ⟨rfl, HB1.out.trans (hw2.mono HB1.out.size)⟩
end Go.Proofs.Ytjdmaoegfpgfjaa
