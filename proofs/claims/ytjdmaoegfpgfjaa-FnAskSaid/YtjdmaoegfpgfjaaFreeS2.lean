/-
  The model's Free: l5May, l5Gone, l5Give.
-/
import Derived.Test.YtjdmaoegfpgfjaaFreeS
import Derived.Deep.RegionLaw
namespace Go.Proofs.Ytjdmaoegfpgfjaa
open Go.RowKit

theorem mayB_no {h a : HS} {x : HD} (e : (h.any fun y => keepsB y x) = true) : mayB h a x = false := by rw [mayB, e]; rfl
theorem mayB_own {h a : HS} {x : HD} (e : (h.any fun y => keepsB y x) = false) (e2 : (h.any fun y => ownB y x) = true) : mayB h a x = true := by rw [mayB, e, e2]; rfl
theorem mayB_key {h a : HS} {x : HD} (e : (h.any fun y => keepsB y x) = false) (e2 : (h.any fun y => ownB y x) = false) : mayB h a x = !(a.any fun y => decide (y.2.1 = x.2.1)) := by rw [mayB, e, e2]; rfl
def noKey (hs : HS) (s : ByteArray) (k : Nat) : Prop := ∀ (i : Nat) (h : i < hs.length), i < k → hs[i].2.1 ≠ s
theorem noKey_succ {hs : HS} {s : ByteArray} {k : Nat} (h : noKey hs s k) (hk : k < hs.length) (h1 : hs[k].2.1 ≠ s) : noKey hs s (k + 1) := by
  intro i hi hlt
  by_cases e : i = k
  · subst e; exact h1
  · exact h i hi (by omega)
theorem noKey_end {hs : HS} {s : ByteArray} {n : Nat} (h : noKey hs s n) : ((hs.take n).any fun y => decide (y.2.1 = s)) = false := any_take_iff.2 fun i hi hik => decide_eq_false (h i hi hik)
theorem key_at {hs : HS} {s : ByteArray} {k n : Nat} (hk : k < hs.length) (hn : k < n) (h : hs[k].2.1 = s) : ((hs.take n).any fun y => decide (y.2.1 = s)) = true :=
  List.any_eq_true.2 ⟨hs[k], List.mem_iff_getElem.2 ⟨k, by rw [List.length_take]; omega, by simp⟩, decide_eq_true h⟩

set_option maxHeartbeats 8000000 in
theorem spec_l5May (A : Option Addr) (c : Nat) (h : HS) (K : Option Addr) (d : Nat) (l : HS) (x : HD) (n : Nat) (w : World) (hr : RH w w.heap.size A h) (hn : h.length ≤ maxLen) (hr' : RH w w.heap.size K l) (hn' : l.length ≤ maxLen) (hh : HoldsB h) (hx : modeB x.2.2 = true) (ha : n ≤ l.length) :
    Calls Try.prog 138 #[.agg #[.slice A h.length c, .slice K l.length d], .agg #[.int .i64 x.1, .string x.2.1, .int .i64 x.2.2], .int .i64 (n : Int)] w fun e w' => e = .returned (.bool (mayB h (l.take n) x)) ∧ Below w.heap.size w w' := by
  have hn2 := hn'
  unfold maxLen at hn2
  have HN := hid hn
  have hb1 : Below w.heap.size w ((w.alloc (.cells #[.slice A h.length c, .slice K l.length d] 39)).alloc (.cells #[.int .i64 x.1, .string x.2.1, .int .i64 x.2.2] 49)) := ((Below.refl _ _).alloc (Nat.le_refl _) _).alloc (by simp) _
  have hy := (Row2.lit w 39 (.slice A h.length c) (.slice K l.length d)).below ((Below.refl _ _).alloc (Nat.le_refl _) (.cells #[.int .i64 x.1, .string x.2.1, .int .i64 x.2.2] 49))
  have hz := Row3.lit (w.alloc (.cells #[.slice A h.length c, .slice K l.length d] 39)) 49 (.int .i64 x.1) (.string x.2.1) (.int .i64 x.2.2)
  simp only [World.size_alloc] at hz
  have HB1 := hid hb1
  have HR := hid ((hr.below hb1).more hb1.size)
  have HR2 := hid ((hr'.below hb1).more hb1.size)
  have Y := hid hy
  have X := hid hz
  have HH := hid hh
  clear hr hr' hb1 hy hz hh hn hn'
  go_enter Try.func138, Try.ntmps138
  go_wp2_with fail
  generalize hw1 : (w.alloc (.cells #[.slice A h.length c, .slice K l.length d] 39)).alloc (.cells #[.int .i64 x.1, .string x.2.1, .int .i64 x.2.2] 49) = w1 at *
  clear hw1
  refine (spec_l5Free A c h K l.length d x _ HR.out HN.out HH.out hx).mono ?_
  rintro e w2 ⟨rfl, hb2⟩
  have Y2 := hid (Y.out.below hb2)
  have X2 := hid (X.out.below hb2)
  have HB2 := hid (HB1.out.trans (hb2.mono HB1.out.size))
  have HRb := hid ((HR.out.below hb2).more hb2.size)
  have HR2b := hid ((HR2.out.below hb2).more hb2.size)
  clear hb2
  have y0 := Y2.out.c0
  have y1 := Y2.out.c1
  have x0 := X2.out.c0
  have x1 := X2.out.c1
  have x2 := X2.out.c2
  cases hk : h.any fun y => keepsB y x
  case true =>
    have HE := hid (mayB_no (a := l.take n) hk)
    go_wp2_with fail
    go_ret
    exact ⟨ret_bool HE.out.symm, HB2.out⟩
  case false =>
    go_wp2_with fail
    refine (spec_l5Mine A c h K l.length d x _ HRb.out HN.out).mono ?_
    rintro e w3 ⟨rfl, hb3⟩
    have Y3 := hid (Y2.out.below hb3)
    have X3 := hid (X2.out.below hb3)
    have HB3 := hid (HB2.out.trans (hb3.mono HB2.out.size))
    have HR3 := hid ((HR2b.out.below hb3).more hb3.size)
    clear hb3 y0 y1 x0 x1 x2
    cases ho : h.any fun y => ownB y x
    case true =>
      have HE := hid (mayB_own (a := l.take n) hk ho)
      have hp := mineV_some HH.out ho
      go_wp2_with fail
      go_ret
      exact ⟨ret_bool HE.out.symm, HB3.out⟩
    case false =>
      have HE := hid (mayB_key (a := l.take n) hk ho)
      have hp := mineV_none ho
      rw [hp]
      clear hp
      go_wp2_with fail
      go_loopw [7] (fun i wr => ∃ k : Nat, k ≤ n ∧ i = .int .i64 k ∧ noKey l x.2.1 k ∧ Drawn w3 wr) (fun i _ => n - (intOf i).toNat)
      case atStart => exact ⟨0, Nat.zero_le _, rfl, fun i hi hk => absurd hk (by omega), Drawn.refl _⟩
      case round =>
        obtain ⟨k, hkn, rfl, hnt, hdr⟩ := hrel
        have HD := hid hdr
        have hbw : Below w3.heap.size w3 wr := hdr.below _
        have y0 := (Y3.out.below hbw).c0
        have y1 := (Y3.out.below hbw).c1
        have x1 := (X3.out.below hbw).c1
        have HRW := hid (HR3.out.below hbw)
        clear hdr hbw
        by_cases hlt : k < n
        · obtain ⟨b, off, rfl, hb, hc1, hc2, hc3⟩ := HRW.out.at_ (k := k) (by omega)
          have HS := hid (noKey_succ hnt (by omega))
          have hkl : k < l.length := by omega
          have HA : Hid (l[k].2.1 = x.2.1 → ((l.take n).any fun y => decide (y.2.1 = x.2.1)) = true) := fun hy => key_at hkl hlt hy
          have e5 : (0 : Int) ≤ (k : Int) := by omega
          have e6 : (k : Int) < (l.length : Int) := by omega
          clear hnt
          by_cases h1 : (l[k]'(by omega)).2.1 = x.2.1
          · have HK := hid (HA.out h1)
            have g1 := eqS_true h1
            clear h1
            go_wp2_with fail
            go_quiet (fail)
            go_wp2_with fail
            go_ret
            exact ⟨ret_bool (by rw [HE.out, HK.out]; rfl), HB3.out.trans ((Below.drewN_ (drawn_b HD.out) _).mono HB3.out.size)⟩
          · have HK := hid (HS.out h1)
            have g1 := eqS_false h1
            clear h1
            go_wp2_with fail
            go_quiet (fail)
            go_wp2_with fail
            go_roundw
            case rel => exact ⟨k + 1, by omega, by go_num, HK.out, HD.out.drewN _⟩
            case measure => simp [intOf]; omega
        · obtain rfl : k = n := by omega
          have HK := hid (noKey_end hnt)
          clear hnt
          go_wp2_with fail
          go_ret
          exact ⟨ret_bool (by rw [HE.out, HK.out]; rfl), HB3.out.trans ((drawn_b HD.out).mono HB3.out.size)⟩

/-- Locks of the call's own, to be read. -/
def MadeLs (w : World) (B : Nat) (h l : HS) (e : Ending) (w' : World) : Prop :=
  ∃ A c K d, e = .returned (.agg #[.slice A h.length c, .slice K l.length d]) ∧ OwnH w' B A c h ∧ OwnH w' B K d l ∧ Below w.heap.size w w'
/-- Locks of the call's own, their two rows apart. -/
def MadeLn (w : World) (h l : HS) (e : Ending) (w' : World) : Prop :=
  ∃ A c K d, e = .returned (.agg #[.slice A h.length c, .slice K l.length d]) ∧ OwnH w' w.heap.size A c h ∧ OwnH w' w.heap.size K d l ∧ (∀ k, Value.ownBlock (.slice A h.length c) = some k → Value.ownBlock (.slice K l.length d) ≠ some k) ∧ Below w.heap.size w w'
theorem goneL_take {h : HS} {k : Nat} (hk : k < h.length) (t : Int) : goneL (h.take (k + 1)) t = if h[k].1 = t then goneL (h.take k) t else goneL (h.take k) t ++ [h[k]] := by
  rw [List.take_succ_eq_append_getElem hk, goneL, List.filter_append]
  by_cases e : h[k].1 = t <;> simp [goneL, e]
theorem goneL_len (h : HS) (t : Int) : (goneL h t).length ≤ h.length := List.length_filter_le _ _
theorem Row2.far {w w' : World} {g : Nat} {t : TypeId} {a b : Value} {r : Option Nat} (h : Row2 w g t a b) (hg : w.grownBy w' r) (hne : ∀ k, r = some k → k ≠ g) : Row2 w' g t a b :=
  h.kept hg (.inr fun e => hne g (by rw [← e]; rfl) rfl)
theorem Row2.keepB {w w' : World} {g B : Nat} {t : TypeId} {a b : Value} (h : Row2 w g t a b) (hb : Below B w w') (hg : g < B) : Row2 w' g t a b := by
  obtain ⟨h1, h2⟩ := h
  refine ⟨h1, ?_⟩
  rcases h2 with h2 | ⟨q, cap, cur, hv, hq, hh, r⟩
  · exact Or.inl h2
  · injection hv with e1 e2 e3
    injection e1 with e1
    injection e1 with e1
    subst e1 e3
    exact Or.inr ⟨_, _, cur, rfl, hq, by rw [hb.block _ hg]; exact hh, r⟩
theorem OwnH.far {w w' : World} {B c : Nat} {A : Option Addr} {hs : HS} {r : Option Nat} (h : OwnH w B A c hs) (hg : w.grownBy w' r) (hne : ∀ k, r = some k → Value.ownBlock (.slice A hs.length c) ≠ some k) : OwnH w' B A c hs := by
  refine h.kept hg ?_
  cases hv : Value.ownBlock (.slice A hs.length c) with
  | none => exact .inl rfl
  | some k => exact .inr fun e => hne k e.symm hv

theorem push_any {wr w6 w7 : World} {go B n1 c1 : Nat} {A1 A' : Option Addr} {c' : Nat} {gs rs : HS} (ho : OwnH wr B A1 c1 gs) (hn : n1 = gs.length) (hgo : go < B) (hB : B ≤ wr.heap.size) (hd : Below wr.heap.size wr w6)
    (ha : AppH w6 B A1 n1 c1 rs A' c' w7) {T : TypeId} {a b : Value} (hr : Row2 wr go T a b) :
    Row2 w7 go T a b ∧ OwnH w7 B A' c' rs ∧ Below B wr w7 := by
  subst hn
  have hl : ∀ k, Value.ownBlock (.slice A1 gs.length c1) = some k → B ≤ k := fun k hk => (ho.size k hk).1
  refine ⟨(hr.below hd).far ha.grown (fun k hk => by have := hl k hk; omega), ha.own, ?_⟩
  exact (hd.mono hB).grown ha.grown (by have := hd.size; omega) hl
/-- One more of them, in a cell of the locks that are built: the cell 'j' of block go. -/
theorem push_at {wr w7 : World} {go B n1 c1 : Nat} {A1 A' : Option Addr} {c' : Nat} {gs rs : HS} {o : Obj} (ho : OwnH wr B A1 c1 gs) (hn : n1 = gs.length) (hgo : go < B) (hB : B ≤ wr.heap.size)
    (ha : AppH (wr.drew.alloc o) B A1 n1 c1 rs A' c' w7) {T : TypeId} {a b : Value} (hr : Row2 wr go T a b) :
    Row2 w7 go T a b ∧ OwnH w7 B A' c' rs ∧ Below B wr w7 := push_any ho hn hgo hB (((Below.refl _ _).drew).alloc (Nat.le_refl _) o) ha hr

set_option maxHeartbeats 8000000 in
set_option maxRecDepth 100000 in
theorem spec_l5Gone (A : Option Addr) (c : Nat) (h : HS) (K : Option Addr) (d : Nat) (l : HS) (t : Int) (w : World) (hr : RH w w.heap.size A h) (hn : h.length ≤ 100) (hr' : RH w w.heap.size K l) (hn' : l.length ≤ 100) :
    Calls Try.prog 83 #[.agg #[.slice A h.length c, .slice K l.length d], .int .i64 t] w (MadeLn w (goneL h t) (goneL l t)) := by
  obtain ⟨i0, hi0, hz0, hz1, hz2⟩ := info_parts holdInfo
  have hb1 : Below w.heap.size w (((w.alloc (.cells #[.slice A h.length c, .slice K l.length d] 39)).alloc (.cells #[.slice none 0 0, .slice none 0 0] 39)).alloc (.cells #[.slice none 0 0, .slice none 0 0] 39)) := below3 (Below.refl _ _) (Nat.le_refl _)
  obtain ⟨hl1, hr1, hbq⟩ : Row2 (((w.alloc (.cells #[.slice A h.length c, .slice K l.length d] 39)).alloc (.cells #[.slice none 0 0, .slice none 0 0] 39)).alloc (.cells #[.slice none 0 0, .slice none 0 0] 39)) w.heap.size 39 (.slice A h.length c) (.slice K l.length d) ∧
      Row2 (((w.alloc (.cells #[.slice A h.length c, .slice K l.length d] 39)).alloc (.cells #[.slice none 0 0, .slice none 0 0] 39)).alloc (.cells #[.slice none 0 0, .slice none 0 0] 39)) (w.heap.size + 1) 39 (.slice none 0 0) (.slice none 0 0) ∧
      Row2 (((w.alloc (.cells #[.slice A h.length c, .slice K l.length d] 39)).alloc (.cells #[.slice none 0 0, .slice none 0 0] 39)).alloc (.cells #[.slice none 0 0, .slice none 0 0] 39)) (w.heap.size + 1 + 1) 39 (.slice none 0 0) (.slice none 0 0) := by
    have a0 := Row2.lit w 39 (.slice A h.length c) (.slice K l.length d)
    have a1 := Row2.lit (w.alloc (.cells #[.slice A h.length c, .slice K l.length d] 39)) 39 (.slice none 0 0) (.slice none 0 0)
    have a2 := Row2.lit ((w.alloc (.cells #[.slice A h.length c, .slice K l.length d] 39)).alloc (.cells #[.slice none 0 0, .slice none 0 0] 39)) 39 (.slice none 0 0) (.slice none 0 0)
    simp only [World.size_alloc] at a1 a2
    exact ⟨(a0.below ((Below.refl _ _).alloc (Nat.le_refl _) _)).below ((Below.refl _ _).alloc (Nat.le_refl _) _), a1.below ((Below.refl _ _).alloc (Nat.le_refl _) _), a2⟩
  have hs1 : w.heap.size + 3 ≤ (((w.alloc (.cells #[.slice A h.length c, .slice K l.length d] 39)).alloc (.cells #[.slice none 0 0, .slice none 0 0] 39)).alloc (.cells #[.slice none 0 0, .slice none 0 0] 39)).heap.size := by simp
  have HB1 := hid hb1
  have HL1 := hid hl1
  have HR1 := hid hr1
  have HO1 := hid hbq
  have HR := hid hr
  have HR2 := hid hr'
  clear hr hr' hb1 hl1 hr1 hbq
  go_enter Try.func83, Try.ntmps83
  go_wp2_with fail
  generalize hw1 : ((w.alloc (.cells #[.slice A h.length c, .slice K l.length d] 39)).alloc (.cells #[.slice none 0 0, .slice none 0 0] 39)).alloc (.cells #[.slice none 0 0, .slice none 0 0] 39) = w1 at *
  clear hw1
  go_loopw [6] (fun i wr => ∃ (k n1 : Nat) (A1 : Option Addr) (c1 : Nat), k ≤ h.length ∧ i = .int .i64 k ∧ n1 = (goneL (h.take k) t).length ∧ Hid (Row2 wr w.heap.size 39 (.slice A h.length c) (.slice K l.length d)) ∧ Hid (Row2 wr (w.heap.size + 1) 39 (.slice none 0 0) (.slice none 0 0)) ∧ Hid (Row2 wr (w.heap.size + 1 + 1) 39 (.slice A1 n1 c1) (.slice none 0 0)) ∧ Hid (OwnH wr (w.heap.size + 3) A1 c1 (goneL (h.take k) t)) ∧ Below w.heap.size w wr ∧ w.heap.size + 3 ≤ wr.heap.size) (fun i _ => h.length - (intOf i).toNat)
  case atStart => exact ⟨0, 0, none, 0, Nat.zero_le _, rfl, by simp [goneL], HL1.out, HR1.out, HO1.out, (OwnH.nil_ w1 _ : OwnH w1 (w.heap.size + 3) none 0 []), HB1.out, hs1⟩
  case round =>
    obtain ⟨k, n1, A1, c1, hk, rfl, hn1, PL, PR, PO, HOW, hbw, hsz⟩ := hrel
    have HD := hid hbw
    have HRW := hid (HR.out.below hbw)
    have HN1 := hid hn1
    clear hbw hn1
    have y0 := PL.out.c0
    have y1 := PL.out.c1
    have o0 := PO.out.c0
    have f0 := PO.out.fz 0
    by_cases hlt : k < h.length
    · obtain ⟨b, off, rfl, hb, hc1, hc2, hc3⟩ := HRW.out.at_ hlt
      have HG := hid (goneL_take hlt t)
      have e5 : (0 : Int) ≤ (k : Int) := by omega
      have e6 : (k : Int) < (h.length : Int) := by omega
      by_cases h1 : h[k].1 = t
      · rw [if_pos h1] at HG
        have g1 := neI_false h1
        clear h1
        go_wp2_with fail
        go_roundw
        case rel => exact ⟨k + 1, n1, A1, c1, by omega, by go_num, by rw [HG.out]; exact HN1.out, PL.out, PR.out, PO.out, by rw [HG.out]; exact HOW.out, HD.out, hsz⟩
        case measure => simp [intOf]; omega
      · rw [if_neg h1] at HG
        have g1 := neI_true h1
        have hgl := goneL_len (h.take k) t
        rw [List.length_take] at hgl
        have o0a := (PO.out.below ((Below.refl wr.heap.size wr).alloc (Nat.le_refl _) (.cells #[.int .i64 h[k].1, .string h[k].2.1, .int .i64 h[k].2.2] 49))).c0
        have e8 : w.heap.size + 1 + 1 < wr.heap.size := by omega
        clear h1
        go_wp2_with fail
        go_region_law (refine step_append_rh _ (by rfl) _ _ _ (by rfl) i0 Try.underlying37 hi0 hz0 hz1 hz2 (w.heap.size + 3) A1 n1 c1 (goneL (h.take k) t) (by rfl) HN1.out (HOW.out.below (((Below.refl _ _).drew).alloc (Nat.le_refl _) _)) (wr.heap.size + 1) (some ⟨wr.heap.size, 0, none⟩) 1 1 [h[k]] (by rfl) rfl (RH.new wr.drew h[k] 49) (by simp; omega) (by simp; omega) ?_; intro A' n' c' w7 hn7 hap7; obtain ⟨hq7, ho7, hb7⟩ := push_at HOW.out HN1.out (by omega) hsz hap7 PO.out; have HN7 := hid hn7; have o70 := hq7.c0; have f70 := hq7.fz 0; have PO7 := hid hq7; have HO7 := hid ho7; have HB7 := hid hb7; clear hn7 hap7 hq7 ho7 hb7)
        all_goals
          go_wp2_with fail
          go_roundw
          case rel => exact ⟨k + 1, n', A', c', by omega, by go_num, by rw [HG.out]; exact HN7.out, ((PL.out.keepB HB7.out (by omega)).other PO7.out (by omega) 0 _), ((PR.out.keepB HB7.out (by omega)).other PO7.out (by omega) 0 _), PO7.out.s0 _, by rw [HG.out]; exact HO7.out.set2 PO7.out (by omega) 0 _, ((HD.out.trans (HB7.out.mono (by omega))).setCell (by simp; omega) _), by have := HB7.out.size; simp; omega⟩
          case measure => simp [intOf]; omega
    · obtain rfl : k = h.length := by omega
      have HNA : Hid (n1 = (goneL h t).length) := by
        have := HN1.out
        rwa [List.take_length] at this
      have HOA : Hid (OwnH wr (w.heap.size + 3) A1 c1 (goneL h t)) := by
        have := HOW.out
        rwa [List.take_length] at this
      obtain ⟨wa, rfl⟩ : ∃ wa : World, wa = wr := ⟨_, rfl⟩
      have HLT : Hid (∀ q, Value.ownBlock (.slice A1 (goneL h t).length c1) = some q → q < wa.heap.size) := fun q hq => (HOA.out.size q hq).2
      go_wp2_with fail
      clear y0 y1 o0 f0
      go_loopw [7] (fun i wr => ∃ (k n2 : Nat) (A2 : Option Addr) (c2 : Nat), k ≤ l.length ∧ i = .int .i64 k ∧ n2 = (goneL (l.take k) t).length ∧ Hid (Row2 wr w.heap.size 39 (.slice A h.length c) (.slice K l.length d)) ∧ Hid (Row2 wr (w.heap.size + 1) 39 (.slice none 0 0) (.slice none 0 0)) ∧ Hid (Row2 wr (w.heap.size + 1 + 1) 39 (.slice A1 n1 c1) (.slice A2 n2 c2)) ∧ Hid (OwnH wr (w.heap.size + 3) A1 c1 (goneL h t)) ∧ Hid (OwnH wr wa.heap.size A2 c2 (goneL (l.take k) t)) ∧ Below w.heap.size w wr ∧ wa.heap.size ≤ wr.heap.size) (fun i _ => l.length - (intOf i).toNat)
      case atStart => exact ⟨0, 0, none, 0, Nat.zero_le _, rfl, by simp [goneL], PL.out, PR.out, PO.out, HOA.out, (OwnH.nil_ _ _ : OwnH wa wa.heap.size none 0 []), HD.out, Nat.le_refl _⟩
      case round =>
        obtain ⟨k, n2, A2, c2, hk, rfl, hn2, PL, PR, PO, HOH, HOW, hbw, hsz2⟩ := hrel
        have HD := hid hbw
        have HRW := hid (HR2.out.below hbw)
        have HN2 := hid hn2
        clear hbw hn2
        have y0 := PL.out.c0
        have y1 := PL.out.c1
        have o0 := PO.out.c0
        have o1 := PO.out.c1
        have f1 := PO.out.fz 1
        by_cases hlt : k < l.length
        · obtain ⟨b, off, rfl, hb, hc1, hc2, hc3⟩ := HRW.out.at_ hlt
          have HG := hid (goneL_take hlt t)
          have e5 : (0 : Int) ≤ (k : Int) := by omega
          have e6 : (k : Int) < (l.length : Int) := by omega
          by_cases h1 : l[k].1 = t
          · rw [if_pos h1] at HG
            have g1 := neI_false h1
            clear h1
            go_wp2_with fail
            go_roundw
            case rel => exact ⟨k + 1, n2, A2, c2, by omega, by go_num, by rw [HG.out]; exact HN2.out, PL.out, PR.out, PO.out, HOH.out, by rw [HG.out]; exact HOW.out, HD.out, hsz2⟩
            case measure => simp [intOf]; omega
          · rw [if_neg h1] at HG
            have g1 := neI_true h1
            have hgl := goneL_len (l.take k) t
            rw [List.length_take] at hgl
            have o1a := (PO.out.below ((Below.refl wr.heap.size wr).alloc (Nat.le_refl _) (.cells #[.int .i64 l[k].1, .string l[k].2.1, .int .i64 l[k].2.2] 49))).c1
            have e8 : w.heap.size + 1 + 1 < wr.heap.size := by omega
            clear h1
            go_wp2_with fail
            go_region_law (refine step_append_rh _ (by rfl) _ _ _ (by rfl) i0 Try.underlying37 hi0 hz0 hz1 hz2 wa.heap.size A2 n2 c2 (goneL (l.take k) t) (by rfl) HN2.out (HOW.out.below (((Below.refl _ _).drew).alloc (Nat.le_refl _) _)) (wr.heap.size + 1) (some ⟨wr.heap.size, 0, none⟩) 1 1 [l[k]] (by rfl) rfl (RH.new wr.drew l[k] 49) (by simp; omega) (by simp; omega) ?_; intro A' n' c' w7 hn7 hap7; obtain ⟨hq7, ho7, hb7⟩ := push_at HOW.out HN2.out (by omega) hsz2 hap7 PO.out; have HN7 := hid hn7; have o71 := hq7.c1; have f71 := hq7.fz 1; have PO7 := hid hq7; have HO7 := hid ho7; have HB7 := hid hb7; clear hn7 hap7 hq7 ho7 hb7)
            all_goals
              go_wp2_with fail
              go_roundw
              case rel => exact ⟨k + 1, n', A', c', by omega, by go_num, by rw [HG.out]; exact HN7.out, ((PL.out.keepB HB7.out (by omega)).other PO7.out (by omega) 1 _), ((PR.out.keepB HB7.out (by omega)).other PO7.out (by omega) 1 _), PO7.out.s1 _, (HOH.out.stay (fun q hq => HB7.out.block q (HLT.out q hq))).set2 PO7.out (by omega) 1 _, by rw [HG.out]; exact HO7.out.set2 PO7.out (by omega) 1 _, ((HD.out.trans (HB7.out.mono (by omega))).setCell (by simp; omega) _), by have := HB7.out.size; simp; omega⟩
              case measure => simp [intOf]; omega
        · obtain rfl : k = l.length := by omega
          have HNB : Hid (n2 = (goneL l t).length) := by
            have := HN2.out
            rwa [List.take_length] at this
          have HOB : Hid (OwnH wr wa.heap.size A2 c2 (goneL l t)) := by
            have := HOW.out
            rwa [List.take_length] at this
          have z0 := PR.out.c0
          have z1 := PR.out.c1
          have k0 := PR.out.fz 0
          have k1 := PR.out.fz 1
          go_wp2_with fail
          have U1 := PR.out.s0 (.slice A1 n1 c1)
          refine world_post (S := fun wq => Row2 wq (w.heap.size + 1) 39 (.slice A1 n1 c1) (.slice A2 n2 c2) ∧ MadeLn w (goneL h t) (goneL l t) (.returned (.agg #[.slice A1 n1 c1, .slice A2 n2 c2])) wq) _
            ⟨U1.s1 _, A1, c1, A2, c2, by rw [← HNA.out, ← HNB.out], ((HOH.out.set2 PR.out (by omega) 0 _).set2 U1 (by omega) 1 _).mono (by omega), ((HOB.out.set2 PR.out (by omega) 0 _).set2 U1 (by omega) 1 _).mono (by omega), (fun q hq e => by have := HLT.out q hq; have := (HOB.out.size q e).1; omega), (HD.out.setCell (by simp) _).setCell (by simp) _⟩ ?_
          clear y0 y1 o0 o1 f1 z0 z1 k0 k1 U1
          intro wq ⟨hq, hm⟩
          have q0 := hq.c0
          have q1 := hq.c1
          exact bodyPost_ret (v := .agg #[.slice A1 n1 c1, .slice A2 n2 c2]) (by simp [results, Try.results83, go_sem, q0, q1]) rfl hm
end Go.Proofs.Ytjdmaoegfpgfjaa
