/-
  The model's Ask, whole.
-/
import Derived.Test.YtepgcflkgicpiaaAskS
import Derived.Lib.QuietBelow
namespace Go.Proofs.Ytepgcflkgicpiaa
open Go.RowKit

/-- What Ask answers: locks and a code. -/
def MadeAs (w : World) (r : HS × HS × Int) (e : Ending) (w' : World) : Prop :=
  ∃ A c K d, e = .returned (.tuple #[.agg #[.slice A r.1.length c, .slice K r.2.1.length d], .int .i64 r.2.2]) ∧ OwnH w' w.heap.size A c r.1 ∧ OwnH w' w.heap.size K d r.2.1 ∧ (∀ k, Value.ownBlock (.slice A r.1.length c) = some k → Value.ownBlock (.slice K r.2.1.length d) ≠ some k) ∧ Below w.heap.size w w'
theorem edgesL_len {h l : HS} (h1 : h.length ≤ 200) (h2 : l.length ≤ 100) : (edgesL h l).length ≤ 30000 := by
  have a := rawE_len h l l.length (Nat.le_refl _)
  have b := setE_len (rawE h l l.length)
  have c : l.length * (h.length + l.length) ≤ 100 * 300 := Nat.mul_le_mul h2 (by omega)
  unfold edgesL
  omega
theorem Row2.other3 {w : World} {g g' : Nat} {t t' : TypeId} {a b a' b' c' : Value} (h : Row2 w g t a b) (h' : Row3 w g' t' a' b' c') (hne : g ≠ g') (j : Nat) (v : Value) : Row2 (w.setCell ⟨g', j, none⟩ v) g t a b :=
  h.kept (h'.stored j v).2 (.inr (by simp [Value.ownBlock]; omega))
theorem Row2.thrice {w : World} {g g' : Nat} {t t' : TypeId} {a b a' b' c' : Value} (h : Row2 w g t a b) (h' : Row3 w g' t' a' b' c') (hne : g ≠ g') (u v x : Value) : Row2 (((w.setCell ⟨g', 0, none⟩ u).setCell ⟨g', 1, none⟩ v).setCell ⟨g', 2, none⟩ x) g t a b :=
  ((h.other3 h' hne 0 u).other3 (h'.s0 u) hne 1 v).other3 ((h'.s0 u).s1 v) hne 2 x
theorem OwnH.out3 {w : World} {B c : Nat} {A : Option Addr} {hs : HS} (h : OwnH w B A c hs) {g : Nat} (hg : g < B) (u v x : Value) : OwnH (((w.setCell ⟨g, 0, none⟩ u).setCell ⟨g, 1, none⟩ v).setCell ⟨g, 2, none⟩ x) B A c hs :=
  ((h.stay (w' := w.setCell ⟨g, 0, none⟩ u) (fun q hq => heap_setCell_other _ _ q _ (fun e => by have := (h.size q hq).1; simp at e; omega))).stay (w' := (w.setCell ⟨g, 0, none⟩ u).setCell ⟨g, 1, none⟩ v) (fun q hq => heap_setCell_other _ _ q _ (fun e => by have := (h.size q hq).1; simp at e; omega))).stay (fun q hq => heap_setCell_other _ _ q _ (fun e => by have := (h.size q hq).1; simp at e; omega))

theorem OwnH.set1 {w : World} {B c : Nat} {A : Option Addr} {hs : HS} (h : OwnH w B A c hs) {g : Nat} (hne : ∀ k, Value.ownBlock (.slice A hs.length c) = some k → k ≠ g) (j : Nat) (v : Value) : OwnH (w.setCell ⟨g, j, none⟩ v) B A c hs :=
  h.stay (fun q hq => heap_setCell_other _ _ q _ (hne q hq))
theorem mine_may {h l : HS} {x : HD} (hh : heldsB h = true) (hw : modeB (wholeM h x) = true) (hm : mineV h x = wholeM h x) : mayB h l (wholeH h x) = true := by
  cases hf : h.find? (fun y => ownB y x) with
  | none =>
    rw [mineV, hf] at hm
    rw [modeB_iff, ← hm] at hw
    simp at hw
  | some y =>
    have hy := List.mem_of_find?_eq_some hf
    have ho := List.find?_some hf
    have e : mineV h x = y.2.2 := by rw [mineV, hf]
    exact may_mine hh hy ho (e.symm.trans hm)

set_option maxHeartbeats 4000000 in
set_option maxRecDepth 100000 in
theorem spec_l5Ask (A : Option Addr) (c : Nat) (h : HS) (K : Option Addr) (d : Nat) (l : HS) (x : HD) (w : World) (hr : RH w w.heap.size A h) (hr' : RH w w.heap.size K l) (hlk : locksB h l = true) (hx : holdB x = true) :
    Calls Try.prog 89 #[.agg #[.slice A h.length c, .slice K l.length d], .agg #[.int .i64 x.1, .string x.2.1, .int .i64 x.2.2]] w (MadeAs w (askL h l (wholeH h x))) := by
  obtain ⟨i0, hi0, hz0, hz1, hz2⟩ := info_parts holdInfo
  obtain ⟨l1, l2, l3, l4⟩ := locksB_iff.1 hlk
  have HHB := hid (heldsB_holds l1)
  have HLB := hid (linesB_holds l2)
  have HHV := hid l1
  have L3 := hid l3
  have L4 := hid l4
  have HX := hid hx
  have HM := hid (holdB_mode hx)
  have HWO := hid (wholeH_ok HHB.out hx)
  have HB := hid (ask_box2 w (.slice A h.length c) (.slice K l.length d) x (.cells #[.slice none 0 0, .slice none 0 0] 28))
  have r0 := Row2.lit ((w.alloc (.cells #[.slice A h.length c, .slice K l.length d] 28)).alloc (.cells #[.int .i64 x.1, .string x.2.1, .int .i64 x.2.2] 48)) 28 (.slice none 0 0) (.slice none 0 0)
  simp only [World.size_alloc] at r0
  have R := hid r0
  have HR := hid hr
  have HK := hid hr'
  clear hr hr' r0 l1 l2 l3 l4 hlk hx
  go_enter Try.func89, Try.ntmps89
  go_wp2_with fail
  generalize hw1 : ((w.alloc (.cells #[.slice A h.length c, .slice K l.length d] 28)).alloc (.cells #[.int .i64 x.1, .string x.2.1, .int .i64 x.2.2] 48)).alloc (.cells #[.slice none 0 0, .slice none 0 0] 28) = w1 at *
  clear hw1
  have HRb := hid ((HR.out.below HB.out.b).more HB.out.b.size)
  have HKb := hid ((HK.out.below HB.out.b).more HB.out.b.size)
  refine (spec_l5Whole A c h K l.length d x w1 HRb.out (by have := L3.out; unfold maxLen; omega) HHB.out HM.out).mono ?_
  rintro e w2 ⟨rfl, hb2⟩
  have HB2 := hid (HB.out.next hb2)
  have R2 := hid (R.out.below hb2)
  clear hb2 HB R HRb HKb
  have x0 := HB2.out.x.c0
  have x1 := HB2.out.x.c1
  have x2 := HB2.out.x.c2
  have f0 := HB2.out.x.fz 0
  have f1 := HB2.out.x.fz 1
  have f2 := HB2.out.x.fz 2
  have X3 := hid (((HB2.out.x.s0 (.int .i64 x.1)).s1 (.string x.2.1)).s2 (.int .i64 (wholeM h x)))
  have P3 := hid (HB2.out.p.thrice HB2.out.x (by omega) (.int .i64 x.1) (.string x.2.1) (.int .i64 (wholeM h x)))
  have R3 := hid (R2.out.thrice HB2.out.x (by omega) (.int .i64 x.1) (.string x.2.1) (.int .i64 (wholeM h x)))
  have HB3 := hid (((HB2.out.b.setCell (p := ⟨w.heap.size + 1, 0, none⟩) (by simp) (.int .i64 x.1)).setCell (p := ⟨w.heap.size + 1, 1, none⟩) (by simp) (.string x.2.1)).setCell (p := ⟨w.heap.size + 1, 2, none⟩) (by simp) (.int .i64 (wholeM h x)))
  go_wp2_with fail
  generalize hw3 : ((w2.setCell ⟨w.heap.size + 1, 0, none⟩ (.int .i64 x.1)).setCell ⟨w.heap.size + 1, 1, none⟩ (.string x.2.1)).setCell ⟨w.heap.size + 1, 2, none⟩ (.int .i64 (wholeM h x)) = w3 at *
  clear hw3 HB2 R2 x0 x1 x2 f0 f1 f2
  -- WALK-BEGIN
  have x0 := cell_regrown X3.out.c0
  have x1 := cell_regrown X3.out.c1
  have x2 := cell_regrown X3.out.c2
  have y0 := cell_regrown P3.out.c0
  have y1 := cell_regrown P3.out.c1
  have cM : ∀ dq os, Calls Try.prog 137 #[.agg #[.slice A h.length c, .slice K l.length d], .int .i64 x.1, .string x.2.1] (Go.Sort.grow (redrawn w3 dq) os) fun e w'' => e = .returned (.int .i64 (mineV h x)) ∧ ∃ p : Regrown, w'' = Go.Sort.grow (redrawn w3 p.d) p.os := fun dq os => Calls.regrown_of (spec_l5Mine A c h K l.length d x _ ((HR.out.below (HB3.out.trans ((below_regrown w3 dq os).mono HB3.out.size))).more (HB3.out.trans ((below_regrown w3 dq os).mono HB3.out.size)).size) (by have := L3.out; unfold maxLen; omega))
  have cY : ∀ dq os, Calls Try.prog 132 #[.agg #[.slice A h.length c, .slice K l.length d], .agg #[.int .i64 x.1, .string x.2.1, .int .i64 (wholeM h x)], .int .i64 (l.length : Int)] (Go.Sort.grow (redrawn w3 dq) os) fun e w'' => e = .returned (.bool (mayB h l (wholeH h x))) ∧ ∃ p : Regrown, w'' = Go.Sort.grow (redrawn w3 p.d) p.os := fun dq os => Calls.regrown_of (by
    have := spec_l5May A c h K d l (wholeH h x) l.length (Go.Sort.grow (redrawn w3 dq) os) ((HR.out.below (HB3.out.trans ((below_regrown w3 dq os).mono HB3.out.size))).more (HB3.out.trans ((below_regrown w3 dq os).mono HB3.out.size)).size) (by have := L3.out; unfold maxLen; omega) ((HK.out.below (HB3.out.trans ((below_regrown w3 dq os).mono HB3.out.size))).more (HB3.out.trans ((below_regrown w3 dq os).mono HB3.out.size)).size) (by have := L4.out; unfold maxLen; omega) HHB.out (holdB_mode HWO.out) (Nat.le_refl _)
    rw [List.take_length] at this
    exact this)
  by_cases hm : mineV h x = wholeM h x
  · have hmay := mine_may (l := l) HHV.out (holdB_mode HWO.out) hm
    have g1 := eqI_true hm
    clear hm
    refine wp_region_quiet_below (by kernel_rfl) (by kernel_rfl) ?_
    repeat (go_big_quiet_step (first | exact cM _ _ | exact cY _ _))
    refine wpQuiet_nil ?_
    intro _ hw'
    obtain ⟨⟨dq, osq⟩, hw''⟩ := hw'
    subst hw''
    have HD : Hid (Below w3.heap.size w3 (Go.Sort.grow (redrawn w3 dq) osq)) := below_regrown w3 dq osq
    generalize hw4 : Go.Sort.grow (redrawn w3 dq) osq = w4 at *
    clear hw4 x0 x1 x2 y0 y1 cM cY
    have X4 := hid (X3.out.below HD.out)
    have P4 := hid (P3.out.below HD.out)
    have R4 := hid (R3.out.below HD.out)
    have HB4 := hid (HB3.out.trans (HD.out.mono HB3.out.size))
    have HRc := hid ((HR.out.below HB4.out).more HB4.out.size)
    have HKc := hid ((HK.out.below HB4.out).more HB4.out.size)
    have y0 := P4.out.c0
    have y1 := P4.out.c1
    have x0 := X4.out.c0
    have x1 := X4.out.c1
    have x2 := X4.out.c2
    have HE : Hid (askL h l (wholeH h x) = (giveL h (wholeH h x), l, 1)) := by rw [Hid, askL, hmay]; rfl
    go_wp2_with (go_at_call 133; refine (spec_l5Give A c h K d l (wholeH h x) w4 HRc.out (by have := L3.out; omega) HKc.out (by have := L4.out; omega)).mono ?_; rintro e w5 ⟨A5, c5, K5, d5, rfl, hA, hK, hne, hb⟩; have HA5 := hid hA; have HK5 := hid hK; have HNE := hid hne; have R5 := hid (R4.out.below hb); have HB5 := hid (HB4.out.trans (hb.mono HB4.out.size)); clear hA hK hne hb x0 x1 x2 y0 y1; have z0 := R5.out.c0; have z1 := R5.out.c1; have k0 := R5.out.fz 0; have k1 := R5.out.fz 1)
    refine world_post (S := fun wq => Row2 wq (w.heap.size + 1 + 1) 28 (.slice A5 (giveL h (wholeH h x)).length c5) (.slice K5 l.length d5) ∧ MadeAs w ((giveL h (wholeH h x)), l, 1) (.returned (.tuple #[.agg #[.slice A5 (giveL h (wholeH h x)).length c5, .slice K5 l.length d5], .int .i64 1])) wq) _
      ⟨(R5.out.s0 _).s1 _, A5, c5, K5, d5, rfl, (HA5.out.two R5.out _ _).mono HB4.out.size, (HK5.out.two R5.out _ _).mono HB4.out.size, HNE.out, (HB5.out.setCell (by simp; omega) _).setCell (by simp; omega) _⟩ ?_
    clear z0 z1 k0 k1
    intro wq ⟨hq, hqm⟩
    have q0 := hq.c0
    have q1 := hq.c1
    rw [HE.out]
    exact bodyPost_ret (v := .tuple #[.agg #[.slice A5 (giveL h (wholeH h x)).length c5, .slice K5 l.length d5], .int .i64 1]) (by simp [results, Try.results89, go_sem, q0, q1]) rfl hqm
  · have g1 := eqI_false hm
    clear hm
    cases hmay : mayB h l (wholeH h x)
    case true =>
      rw [hmay] at cY
      refine wp_region_quiet_below (by kernel_rfl) (by kernel_rfl) ?_
      repeat (go_big_quiet_step (first | exact cM _ _ | exact cY _ _))
      refine wpQuiet_nil ?_
      intro _ hw'
      obtain ⟨⟨dq, osq⟩, hw''⟩ := hw'
      subst hw''
      have HD : Hid (Below w3.heap.size w3 (Go.Sort.grow (redrawn w3 dq) osq)) := below_regrown w3 dq osq
      generalize hw4 : Go.Sort.grow (redrawn w3 dq) osq = w4 at *
      clear hw4 x0 x1 x2 y0 y1 cM cY
      have X4 := hid (X3.out.below HD.out)
      have P4 := hid (P3.out.below HD.out)
      have R4 := hid (R3.out.below HD.out)
      have HB4 := hid (HB3.out.trans (HD.out.mono HB3.out.size))
      have HRc := hid ((HR.out.below HB4.out).more HB4.out.size)
      have HKc := hid ((HK.out.below HB4.out).more HB4.out.size)
      have y0 := P4.out.c0
      have y1 := P4.out.c1
      have x0 := X4.out.c0
      have x1 := X4.out.c1
      have x2 := X4.out.c2
      have HE : Hid (askL h l (wholeH h x) = (giveL h (wholeH h x), l, 1)) := by rw [Hid, askL, hmay]; rfl
      go_wp2_with (go_at_call 133; refine (spec_l5Give A c h K d l (wholeH h x) w4 HRc.out (by have := L3.out; omega) HKc.out (by have := L4.out; omega)).mono ?_; rintro e w5 ⟨A5, c5, K5, d5, rfl, hA, hK, hne, hb⟩; have HA5 := hid hA; have HK5 := hid hK; have HNE := hid hne; have R5 := hid (R4.out.below hb); have HB5 := hid (HB4.out.trans (hb.mono HB4.out.size)); clear hA hK hne hb x0 x1 x2 y0 y1; have z0 := R5.out.c0; have z1 := R5.out.c1; have k0 := R5.out.fz 0; have k1 := R5.out.fz 1)
      refine world_post (S := fun wq => Row2 wq (w.heap.size + 1 + 1) 28 (.slice A5 (giveL h (wholeH h x)).length c5) (.slice K5 l.length d5) ∧ MadeAs w ((giveL h (wholeH h x)), l, 1) (.returned (.tuple #[.agg #[.slice A5 (giveL h (wholeH h x)).length c5, .slice K5 l.length d5], .int .i64 1])) wq) _
        ⟨(R5.out.s0 _).s1 _, A5, c5, K5, d5, rfl, (HA5.out.two R5.out _ _).mono HB4.out.size, (HK5.out.two R5.out _ _).mono HB4.out.size, HNE.out, (HB5.out.setCell (by simp; omega) _).setCell (by simp; omega) _⟩ ?_
      clear z0 z1 k0 k1
      intro wq ⟨hq, hqm⟩
      have q0 := hq.c0
      have q1 := hq.c1
      rw [HE.out]
      exact bodyPost_ret (v := .tuple #[.agg #[.slice A5 (giveL h (wholeH h x)).length c5, .slice K5 l.length d5], .int .i64 1]) (by simp [results, Try.results89, go_sem, q0, q1]) rfl hqm
    case false =>
      rw [hmay] at cY
      refine wp_region_quiet_below (by kernel_rfl) (by kernel_rfl) ?_
      repeat (go_big_quiet_step (first | exact cM _ _ | exact cY _ _))
      refine wpQuiet_nil ?_
      intro _ hw'
      obtain ⟨⟨dq, osq⟩, hw''⟩ := hw'
      subst hw''
      have HD : Hid (Below w3.heap.size w3 (Go.Sort.grow (redrawn w3 dq) osq)) := below_regrown w3 dq osq
      generalize hw4 : Go.Sort.grow (redrawn w3 dq) osq = w4 at *
      clear hw4 x0 x1 x2 y0 y1 cM cY
      have X4 := hid (X3.out.below HD.out)
      have P4 := hid (P3.out.below HD.out)
      have R4 := hid (R3.out.below HD.out)
      have HB4 := hid (HB3.out.trans (HD.out.mono HB3.out.size))
      have HRc := hid ((HR.out.below HB4.out).more HB4.out.size)
      have HKc := hid ((HK.out.below HB4.out).more HB4.out.size)
      have y0 := P4.out.c0
      have y1 := P4.out.c1
      have x0 := X4.out.c0
      have x1 := X4.out.c1
      have x2 := X4.out.c2
      have tk1 : Hid (1 = 1) := rfl
      go_wp2_with (first
        | (go_at_call 148; refine (spec_l5Copy A c h K d l w4 HRc.out (by have := L3.out; omega) HKc.out (by have := L4.out; omega)).mono ?_; rintro e w5 ⟨A5, c5, K5, d5, rfl, hA, hK, hne, hb⟩; have HA5 := hid hA; have HK5 := hid hK; have HNE := hid hne; have R5 := hid (R4.out.below hb); have P5 := hid (P4.out.below hb); have X5 := hid (X4.out.below hb); have HB5 := hid (HB4.out.trans (hb.mono HB4.out.size)); have HSZ := hid hb.size; clear hA hK hne hb x0 x1 x2 y0 y1; have Z6 := hid (Row2.lit w5 28 (.slice A5 h.length c5) (.slice K5 l.length d5)); have BA := hid ((Below.refl w5.heap.size w5).alloc (Nat.le_refl _) (.cells #[.slice A5 h.length c5, .slice K5 l.length d5] 28)); have x60 := (X5.out.below BA.out).c0; have x61 := (X5.out.below BA.out).c1; have x62 := (X5.out.below BA.out).c2; have BB := hid (BA.out.alloc (by simp) (.cells #[.int .i64 x.1, .string x.2.1, .int .i64 (wholeM h x)] 48)); have HK6 := hid (HK5.out.below BB.out); have HA6 := hid (HA5.out.below BB.out); have rn := RH.new (w5.alloc (.cells #[.slice A5 h.length c5, .slice K5 l.length d5] 28)) (wholeH h x) 48; rw [World.size_alloc] at rn; have RN := hid rn; clear rn; have Z7 := hid (Z6.out.below ((Below.refl _ _).alloc (Nat.le_refl _) (.cells #[.int .i64 x.1, .string x.2.1, .int .i64 (wholeM h x)] 48))))
        | (clear tk1; at_builtin; refine wpList_append_rh _ rfl _ _ _ rfl i0 Try.underlying26 hi0 hz0 hz1 hz2 w4.heap.size K5 l.length d5 l rfl rfl HK6.out _ (some ⟨w5.heap.size + 1, 0, none⟩) 1 1 [wholeH h x] rfl rfl RN.out (by have := L4.out; simp; omega) (by have := HSZ.out; simp; omega) ?_; intro K8 n8 d8 w8 hn8 hap8; have HN8 := hid hn8; have HAP8 := hid hap8; have Z8 := hid (Z7.out.far hap8.grown (fun k hk => by have := (HK5.out.size k hk).2; omega)); have z80 := Z8.out.c0; have z81 := Z8.out.c1; have zf := Z8.out.fz 1; clear hn8 hap8))
      have PB := hid (HAP8.out.below HK6.out rfl (by have := HSZ.out; simp; omega))
      have PBB := hid (BB.out.mono (B' := w4.heap.size) HSZ.out)
      have P8 := hid ((P5.out.keepB PBB.out (by have := HB4.out.size; have := P4.out.lt; omega)).keepB PB.out (by have := P4.out.lt; omega))
      have R8 := hid ((R5.out.keepB PBB.out (by have := R4.out.lt; omega)).keepB PB.out (by have := R4.out.lt; omega))
      have X8 := hid ((X5.out.keepB PBB.out (by have := (World.ownsRow.lt X4.out (w.heap.size + 1) rfl).2; omega)).keepB PB.out (by have := (World.ownsRow.lt X4.out (w.heap.size + 1) rfl).2; omega))
      have HB8 := hid (HB5.out.trans ((PBB.out.trans PB.out).mono HB4.out.size))
      have A8 := hid (HA6.out.keepG HAP8.out.grown (fun k hk e => HNE.out k hk e.symm))
      have K8o : Hid (OwnH w8 w4.heap.size K8 d8 (l ++ [wholeH h x])) := HAP8.out.own
      have HNK : Hid (∀ k, Value.ownBlock (.slice A5 h.length c5) = some k → Value.ownBlock (.slice K8 (l ++ [wholeH h x]).length d8) ≠ some k) := fun k hk e => by
        rcases HAP8.out.at_ with h | h
        · exact HNE.out k hk (h.symm.trans e)
        · have e2 : some k = some _ := e.symm.trans h
          injection e2 with e2
          have := (HA5.out.size k hk).2
          rw [e2] at this
          simp at this
          omega
      have LTA : Hid (∀ k, Value.ownBlock (.slice A5 h.length c5) = some k → k ≠ w5.heap.size) := fun k hk => by have := (HA5.out.size k hk).2; omega
      have LTK : Hid (∀ k, Value.ownBlock (.slice K8 (l ++ [wholeH h x]).length d8) = some k → k ≠ w5.heap.size) := fun k hk => by
        rcases HAP8.out.at_ with h | h
        · have := (HK5.out.size k (h.symm.trans hk)).2; omega
        · have e : some k = some _ := hk.symm.trans h
          injection e with e
          rw [e]; simp; omega
      have Z9 := hid (Z8.out.s1 (.slice K8 n8 d8))
      have P9 := hid (P8.out.other Z8.out (by have := P4.out.lt; have := HSZ.out; omega) 1 (.slice K8 n8 d8))
      have R9 := hid (R8.out.other Z8.out (by have := R4.out.lt; have := HSZ.out; omega) 1 (.slice K8 n8 d8))
      have X9 := hid (X8.out.other2 Z8.out (by have := (World.ownsRow.lt X4.out (w.heap.size + 1) rfl).2; have := HSZ.out; omega) 1 (.slice K8 n8 d8))
      have A9 := hid (A8.out.set1 LTA.out 1 (.slice K8 n8 d8))
      have K9 := hid (K8o.out.set1 LTK.out 1 (.slice K8 n8 d8))
      have HB9 := hid (HB8.out.setCell (p := ⟨w5.heap.size, 1, none⟩) (by have := HB5.out.size; simp; omega) (.slice K8 n8 d8))
      have HN9 := hid HN8.out
      generalize hw9 : w8.setCell ⟨w5.heap.size, 1, none⟩ (.slice K8 n8 d8) = w9 at *
      generalize hgz : w5.heap.size = gz at *
      clear hw9 hgz x60 x61 x62 z80 z81 zf HAP8 PB PBB P8 R8 X8 A8 K8o LTA LTK Z8 HB8 Z7 Z6 RN BB BA HK6 HA6
      have HLY : Hid (HoldsB (l ++ [wholeH h x])) := fun y hy => by
        rcases List.mem_append.1 hy with hy | hy
        · exact HLB.out y hy
        · rw [List.mem_singleton] at hy; exact hy ▸ HWO.out
      have HRc9 := hid ((HR.out.below HB9.out).more HB9.out.size)
      have HKc9 := hid ((HK.out.below HB9.out).more HB9.out.size)
      have cE : Hid (∀ W, Below w9.heap.size w9 W → Calls Try.prog 85 #[.agg #[.slice A5 h.length c5, .slice K8 n8 d8]] W (ReadE W (edgesL h (l ++ [wholeH h x])))) := fun W hb => by
        have := spec_l5Edges A5 c5 h K8 d8 (l ++ [wholeH h x]) W (A9.out.below hb).rh HHB.out (by have := L3.out; omega) (K9.out.below hb).rh HLY.out (by have := L4.out; simp; omega)
        rw [← HN9.out] at this
        exact this
      have LE : Hid ((edgesL h (l ++ [wholeH h x])).length ≤ 30000) := edgesL_len (by have := L3.out; omega) (by have := L4.out; simp; omega)
      generalize hes : edgesL h (l ++ [wholeH h x]) = es at *
      have HES := hid hes
      clear hes
      have z0 := Z9.out.c0
      have z1 := Z9.out.c1
      have x0 := X9.out.c0
      cases hrd : roundB es x.1
      case true =>
        have cR : Hid (∀ W A c, RE W W.heap.size A es → Calls Try.prog 149 #[.slice A es.length c, .int .i64 x.1] W fun e w' => e = .returned (.bool true) ∧ Below W.heap.size W w') := fun W A c hre => by
          have := spec_l5Round A c es x.1 W hre LE.out
          rw [hrd] at this
          exact this
        have HRD := hid hrd
        clear hrd
        go_region_held3 (fun w' => w'.cell? ⟨gz, 0, none⟩ = some (.slice A5 h.length c5) ∧ w'.cell? ⟨gz, 1, none⟩ = some (.slice K8 n8 d8) ∧ w'.cell? ⟨w.heap.size + 1, 0, none⟩ = some (.int .i64 x.1)) (go_keep)
          (first
            | (go_at_call 85; refine (cE.out _ (Below.refl _ _).drew).mono ?_; rintro e wA ⟨b8, o8, c8, rfl, he, _, _, hb⟩; have HE8 := hid he; have HBA := hid ((Below.refl w9.heap.size w9).drew.trans hb); clear he hb; have za0 := (Z9.out.below HBA.out).c0; have za1 := (Z9.out.below HBA.out).c1; have xa0 := (X9.out.below HBA.out).c0)
            | (go_at_call 149; refine (cR.out _ _ _ HE8.out).mono ?_; rintro e wB ⟨rfl, hb⟩; have HBB := hid (HBA.out.trans (hb.mono HBA.out.size)); clear hb; have zb0 := (Z9.out.below HBB.out).c0; have zb1 := (Z9.out.below HBB.out).c1; have xb0 := (X9.out.below HBB.out).c0)
            | (go_at_call 149; refine (cR.out _ _ _ (HE8.out.below (Below.refl _ _).drew)).mono ?_; rintro e wB ⟨rfl, hb⟩; have HBB := hid (HBA.out.drew.trans (hb.mono HBA.out.size)); clear hb; have zb0 := (Z9.out.below HBB.out).c0; have zb1 := (Z9.out.below HBB.out).c1; have xb0 := (X9.out.below HBB.out).c0))
        clear z0 z1 x0 za0 za1 xa0 xb0
        have PB9 := hid (P9.out.below HBB.out)
        have RB9 := hid (R9.out.below HBB.out)
        have HBf := hid (HB9.out.trans (HBB.out.mono HB9.out.size))
        have yb0 := PB9.out.c0
        have yb1 := PB9.out.c1
        have HE : Hid (askL h l (wholeH h x) = (h, l, 3)) := by
          have h1 := HES.out
          have h2 : roundB es (wholeH h x).1 = true := HRD.out
          rw [Hid, askL, hmay, h1, h2]
          rfl
        go_wp2_with (go_at_call 148; refine (spec_l5Copy A c h K d l wB ((HRc9.out.below HBB.out).more HBB.out.size) (by have := L3.out; omega) ((HKc9.out.below HBB.out).more HBB.out.size) (by have := L4.out; omega)).mono ?_; rintro e wC ⟨A7, c7, K7, d7, rfl, hA, hK, hne, hb⟩; have HA7 := hid hA; have HK7 := hid hK; have HNE7 := hid hne; have R7 := hid (RB9.out.below hb); have HB7 := hid (HBf.out.trans (hb.mono HBf.out.size)); clear hA hK hne hb; have z0 := R7.out.c0; have z1 := R7.out.c1; have k0 := R7.out.fz 0; have k1 := R7.out.fz 1)
        refine world_post (S := fun wq => Row2 wq (w.heap.size + 1 + 1) 28 (.slice A7 h.length c7) (.slice K7 l.length d7) ∧ MadeAs w (h, l, 3) (.returned (.tuple #[.agg #[.slice A7 h.length c7, .slice K7 l.length d7], .int .i64 3])) wq) _
          ⟨(R7.out.s0 _).s1 _, A7, c7, K7, d7, rfl, (HA7.out.two R7.out _ _).mono HBf.out.size, (HK7.out.two R7.out _ _).mono HBf.out.size, HNE7.out, (HB7.out.setCell (by simp; omega) _).setCell (by simp; omega) _⟩ ?_
        clear z0 z1 k0 k1
        intro wq ⟨hq, hqm⟩
        have q0 := hq.c0
        have q1 := hq.c1
        rw [HE.out]
        exact bodyPost_ret (v := .tuple #[.agg #[.slice A7 h.length c7, .slice K7 l.length d7], .int .i64 3]) (by simp [results, Try.results89, go_sem, q0, q1]) rfl hqm
      case false =>
        have cR : Hid (∀ W A c, RE W W.heap.size A es → Calls Try.prog 149 #[.slice A es.length c, .int .i64 x.1] W fun e w' => e = .returned (.bool false) ∧ Below W.heap.size W w') := fun W A c hre => by
          have := spec_l5Round A c es x.1 W hre LE.out
          rw [hrd] at this
          exact this
        have HRD := hid hrd
        clear hrd
        go_region_held3 (fun w' => w'.cell? ⟨gz, 0, none⟩ = some (.slice A5 h.length c5) ∧ w'.cell? ⟨gz, 1, none⟩ = some (.slice K8 n8 d8) ∧ w'.cell? ⟨w.heap.size + 1, 0, none⟩ = some (.int .i64 x.1)) (go_keep)
          (first
            | (go_at_call 85; refine (cE.out _ (Below.refl _ _).drew).mono ?_; rintro e wA ⟨b8, o8, c8, rfl, he, _, _, hb⟩; have HE8 := hid he; have HBA := hid ((Below.refl w9.heap.size w9).drew.trans hb); clear he hb; have za0 := (Z9.out.below HBA.out).c0; have za1 := (Z9.out.below HBA.out).c1; have xa0 := (X9.out.below HBA.out).c0)
            | (go_at_call 149; refine (cR.out _ _ _ HE8.out).mono ?_; rintro e wB ⟨rfl, hb⟩; have HBB := hid (HBA.out.trans (hb.mono HBA.out.size)); clear hb; have zb0 := (Z9.out.below HBB.out).c0; have zb1 := (Z9.out.below HBB.out).c1; have xb0 := (X9.out.below HBB.out).c0)
            | (go_at_call 149; refine (cR.out _ _ _ (HE8.out.below (Below.refl _ _).drew)).mono ?_; rintro e wB ⟨rfl, hb⟩; have HBB := hid (HBA.out.drew.trans (hb.mono HBA.out.size)); clear hb; have zb0 := (Z9.out.below HBB.out).c0; have zb1 := (Z9.out.below HBB.out).c1; have xb0 := (X9.out.below HBB.out).c0))
        clear z0 z1 x0 za0 za1 xa0 xb0
        have PB9 := hid (P9.out.below HBB.out)
        have RB9 := hid (R9.out.below HBB.out)
        have HBf := hid (HB9.out.trans (HBB.out.mono HB9.out.size))
        have yb0 := PB9.out.c0
        have yb1 := PB9.out.c1
        have HE : Hid (askL h l (wholeH h x) = (h, l ++ [wholeH h x], 2)) := by
          have h1 := HES.out
          have h2 : roundB es (wholeH h x).1 = false := HRD.out
          rw [Hid, askL, hmay, h1, h2]
          rfl
        have AB9 := hid (A9.out.below HBB.out)
        have KB9 := hid (K9.out.below HBB.out)
        have z0 := RB9.out.c0
        have z1 := RB9.out.c1
        have k0 := RB9.out.fz 0
        have k1 := RB9.out.fz 1
        go_wp2_with fail
        have e8 : n8 = (l ++ [wholeH h x]).length := HN9.out
        subst e8
        refine world_post (S := fun wq => Row2 wq (w.heap.size + 1 + 1) 28 (.slice A5 h.length c5) (.slice K8 (l ++ [wholeH h x]).length d8) ∧ MadeAs w (h, (l ++ [wholeH h x]), 2) (.returned (.tuple #[.agg #[.slice A5 h.length c5, .slice K8 (l ++ [wholeH h x]).length d8], .int .i64 2])) wq) _
          ⟨(RB9.out.s0 _).s1 _, A5, c5, K8, d8, rfl, (AB9.out.two RB9.out _ _).mono HB4.out.size, (KB9.out.two RB9.out _ _).mono HB4.out.size, HNK.out, (HBf.out.setCell (by simp; omega) _).setCell (by simp; omega) _⟩ ?_
        clear z0 z1 k0 k1
        intro wq ⟨hq, hqm⟩
        have q0 := hq.c0
        have q1 := hq.c1
        rw [HE.out]
        exact bodyPost_ret (v := .tuple #[.agg #[.slice A5 h.length c5, .slice K8 (l ++ [wholeH h x]).length d8], .int .i64 2]) (by simp [results, Try.results89, go_sem, q0, q1]) rfl hqm
  -- WALK-END
end Go.Proofs.Ytepgcflkgicpiaa
