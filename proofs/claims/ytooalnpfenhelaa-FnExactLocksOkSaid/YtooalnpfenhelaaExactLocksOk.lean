/-
  FnExactLocksOk answers true at all locks, and its argument reads as it did. No condition.
-/
import Derived.Test.YtooalnpfenhelaaLocksOk
import Derived.Test.YtooalnpfenhelaaLawKit
import Derived.Test.YtooalnpfenhelaaPost
import Derived.Test.YtooalnpfenhelaaOpen
import Derived.Test.YtooalnpfenhelaaOpenLocks
namespace Go.Proofs.Ytooalnpfenhelaa
open Go.ChangeShapes Go.WideShapes Go.ChangeAt Go.RowKit

set_option maxHeartbeats 8000000 in
theorem exactLocksOk_walk (A : Option Addr) (c : Nat) (h : HS) (K : Option Addr) (d : Nat) (l : HS) (w : World) (hr : RH w w.heap.size A h) (hf : FitsH h) (hn : h.length ≤ maxLen) (hk : RH w w.heap.size K l) (hg : FitsH l) (hm : l.length ≤ maxLen) :
    Calls Try.prog 6 #[.agg #[.slice A h.length c, .slice K l.length d]] w fun e w' => e = .returned (.bool true) ∧ Below w.heap.size w w' := by
  have hb0 : Below w.heap.size w (w.alloc (.cells #[.slice A h.length c, .slice K l.length d] 30)) := (Below.refl _ _).alloc (Nat.le_refl _) _
  have hx0 := Row2.lit w 30 (.slice A h.length c) (.slice K l.length d)
  have HB0 := hid hb0
  have HX := hid hx0
  have HR := hid ((hr.below hb0).more hb0.size)
  have HK := hid ((hk.below hb0).more hb0.size)
  have HF := hid hf
  have HG := hid hg
  have HN := hid hn
  have HM := hid hm
  clear hr hf hn hk hm hg hb0 hx0
  go_enter Try.func6, Try.ntmps6
  go_wp2_with fail
  generalize hg : w.alloc (.cells #[.slice A h.length c, .slice K l.length d] 30) = w0 at *
  refine (szLocks_any A c h K d l 1048576 _ HR.out HF.out HN.out HK.out HG.out HM.out (by omega) (by omega)).mono ?_
  rintro e w1 ⟨r, rfl, _, _, hr3, hb1⟩
  have X1 := hid (HX.out.below hb1)
  have HB1 := hid hb1
  have HZ := hid hr3
  clear hr3 hb1
  have x0 := X1.out.c0
  have x1 := X1.out.c1
  by_cases hneg : r < 0
  · go_wp2_with fail
    go_ret
    exact ⟨rfl, HB0.out.trans (HB1.out.mono HB0.out.size)⟩
  have hz := HZ.out (by omega)
  have hps : h.length ≤ 1048576 := by omega
  have hks : l.length ≤ 1048576 := by omega
  go_wp2_with fail
  refine (toLocks_any A c h K d l _ ((HR.out.below HB1.out).more HB1.out.size) hps ((HK.out.below HB1.out).more HB1.out.size) hks).mono ?_
  rintro e w2 ⟨A2, c2, K2, d2, B2, rfl, hp2, hi2, _, _, hb2⟩
  have X2 := hid (X1.out.below hb2)
  have HB2 := hid (HB1.out.trans (hb2.mono HB1.out.size))
  have HP2 := hid hp2
  have HI2 := hid hi2
  clear hp2 hi2 hb2 x0 x1
  go_wp2_with fail
  refine (spec_LocksOk A2 c2 h K2 d2 l _ HP2.out.rh HF.out HN.out HI2.out.rh HG.out HM.out).mono ?_
  rintro e w3 ⟨rfl, hb3⟩
  have X3 := hid (X2.out.below hb3)
  have HB3 := hid (HB2.out.trans (hb3.mono HB2.out.size))
  clear hb3
  have x0 := X3.out.c0
  have x1 := X3.out.c1
  go_wp2_with fail
  refine (toLocks_any A c h K d l _ ((HR.out.below HB3.out).more HB3.out.size) hps ((HK.out.below HB3.out).more HB3.out.size) hks).mono ?_
  rintro e w4 ⟨A4, c4, K4, d4, B4, rfl, hp4, hi4, _, _, hb4⟩
  have hb5 : Below w4.heap.size w4 (w4.alloc (.cells #[.slice A4 h.length c4, .slice K4 l.length d4] 35)) := (Below.refl _ _).alloc (Nat.le_refl _) _
  have hy5 := Row2.lit w4 35 (.slice A4 h.length c4) (.slice K4 l.length d4)
  have HB4 := hid (HB3.out.trans (hb4.mono HB3.out.size))
  have HB5 := hid (HB4.out.trans (hb5.mono HB4.out.size))
  have X5 := hid ((X3.out.below hb4).below hb5)
  have Y5 := hid hy5
  have HP5 := hid (hp4.below hb5)
  have HI5 := hid (hi4.below hb5)
  clear hp4 hi4 hb4 hb5 hy5 x0 x1
  have hbb : (locksB h l != locksB h l) = false := by simp
  go_wp2_with fail
  generalize hg5 : w4.alloc (.cells #[.slice A4 h.length c4, .slice K4 l.length d4] 35) = w5 at *
  refine (impl_LocksOk A4 c4 h K4 d4 l _ HP5.out.rh HF.out HP5.out.cap.1 HP5.out.cap.2 HI5.out.rh HG.out HI5.out.cap.1 HI5.out.cap.2).mono ?_
  rintro e w6 ⟨rfl, hb6⟩
  have X6 := hid (X5.out.below hb6)
  have Y6 := hid (Y5.out.below hb6)
  have HP6 := hid (HP5.out.below hb6)
  have HI6 := hid (HI5.out.below hb6)
  have HB6 := hid (HB5.out.trans (hb6.mono HB5.out.size))
  clear hb6
  have c1 : ∀ dq os, Calls Try.prog 24 #[.agg #[.slice A h.length c, .slice K l.length d]] (Go.Sort.grow (redrawn w6 dq) os) (MadeLk (Go.Sort.grow (redrawn w6 dq) os) (Go.Sort.grow (redrawn w6 dq) os).heap.size h l) := fun dq os => toLocks_any A c h K d l _ ((HR.out.below (HB6.out.trans ((below_regrown w6 dq os).mono HB6.out.size))).more (HB6.out.trans ((below_regrown w6 dq os).mono HB6.out.size)).size) hps ((HK.out.below (HB6.out.trans ((below_regrown w6 dq os).mono HB6.out.size))).more (HB6.out.trans ((below_regrown w6 dq os).mono HB6.out.size)).size) hks
  have x0 := X6.out.c0
  have x1 := X6.out.c1
  have y0 := Y6.out.c0
  have y1 := Y6.out.c1
  have HR6 := hid ((HR.out.below HB6.out).more HB6.out.size)
  have HK6 := hid ((HK.out.below HB6.out).more HB6.out.size)
  go_wp2_with fail
  go_region_held3 (fun w' => w'.cell? ⟨w.heap.size, 0, none⟩ = some (.slice A h.length c) ∧ w'.cell? ⟨w.heap.size, 1, none⟩ = some (.slice K l.length d) ∧
      w'.cell? ⟨w4.heap.size, 0, none⟩ = some (.slice A4 h.length c4) ∧ w'.cell? ⟨w4.heap.size, 1, none⟩ = some (.slice K4 l.length d4)) (go_keep)
    (first
      | (go_at_call 24; refine (toLocks_any A c h K d l _ ((HR.out.below HB6.out.drew).more HB6.out.drew.size) hps ((HK.out.below HB6.out.drew).more HB6.out.drew.size) hks).mono ?_; rintro e w7 ⟨A7, c7, K7, d7, B7, rfl, hp7, hi7, _, _, hb7⟩; have X7 := hid ((X6.out.below (Below.refl _ _).drew).below hb7); have Y7 := hid ((Y6.out.below (Below.refl _ _).drew).below hb7); have HP7 := hid hp7; have HI7 := hid hi7; have HQ7 := hid ((HP6.out.below (Below.refl _ _).drew).below hb7); have HJ7 := hid ((HI6.out.below (Below.refl _ _).drew).below hb7); have HB7 := hid (HB6.out.drew.trans (hb7.mono HB6.out.drew.size)); clear hp7 hi7 hb7; have x70 := X7.out.c0; have x71 := X7.out.c1; have y70 := Y7.out.c0; have y71 := Y7.out.c1)
      | (go_at_call 26; refine (eqLocks_same A4 c4 h K4 d4 l A7 c7 K7 d7 _ HQ7.out.rh HN.out HJ7.out.rh HM.out HP7.out.rh HI7.out.rh).mono ?_; rintro e w8 ⟨rfl, hb8⟩; have X8 := hid (X7.out.below hb8); have Y8 := hid (Y7.out.below hb8); have HB8 := hid (HB7.out.trans (hb8.mono HB7.out.size)); clear hb8; have x80 := X8.out.c0; have x81 := X8.out.c1; have y80 := Y8.out.c0; have y81 := Y8.out.c1)
      | (go_at_call 26; refine (eqLocks_same A4 c4 h K4 d4 l A7 c7 K7 d7 _ (HQ7.out.below (Below.refl _ _).drew).rh HN.out (HJ7.out.below (Below.refl _ _).drew).rh HM.out (HP7.out.below (Below.refl _ _).drew).rh (HI7.out.below (Below.refl _ _).drew).rh).mono ?_; rintro e w8 ⟨rfl, hb8⟩; have X8 := hid ((X7.out.below (Below.refl _ _).drew).below hb8); have Y8 := hid ((Y7.out.below (Below.refl _ _).drew).below hb8); have HB8 := hid (HB7.out.drew.trans (hb8.mono HB7.out.drew.size)); clear hb8; have x80 := X8.out.c0; have x81 := X8.out.c1; have y80 := Y8.out.c0; have y81 := Y8.out.c1))
  go_wp2_with fail
  go_ret
  exact ⟨rfl, HB0.out.trans (HB8.out.mono HB0.out.size)⟩

set_option maxRecDepth 100000 in
theorem exactLocksOk_lifted (os : Os) (started : os.Started) (H : Type) (enc : TypeId × Value → H) :
    ReturnsInHanded {} Try.checked os 6 .any (Rows.fnExactLocksOkSpec.pre6 enc Try.prog Try.f6 Rows.fnExactLocksOkRow.domain false) (Rows.fnExactLocksOkSpec.post enc Try.prog Try.f6 false true false false) := by
  refine returnsInHanded_of_change (C := Try.checked) own started (by kernel_rfl) Try.func6
    (ChangeSpec.witness6 (enc := enc) (C := Try.checked) false ⟨#[], #[.agg #[.slice none 0 0, .slice none 0 0]], []⟩ 8 (by kernel_rfl) (by kernel_rfl) (by kernel_rfl) (by kernel_rfl)) ?_
  intro W base args ds gs before hval hW _ _
  have hW' := hW
  obtain ⟨p, q, hA0, hV, rfl, hfz, hnd⟩ := hW
  have hA : DataW.TrodAll enc Try.prog W 0 (fun _ => true) true Try.f6.params.toList args.toList ds p := hA0
  rw [Try.params6] at hA hval
  obtain ⟨v0, vs0, d0, ds0, p0, q0, hargs, rfl, rfl, h0, r0⟩ := trodAll_cons hA
  obtain ⟨rfl, rfl, rfl⟩ := trodAll_nil r0
  obtain rfl : args = #[v0] := by cases args; simp_all
  clear hargs
  obtain ⟨A0, c0, h, K0, e0, l, rfl, rr0, f0, n0, ri0, g0, m0⟩ := open_locks (hval 0 30 v0 rfl rfl) h0
  refine (exactLocksOk_walk A0 c0 h K0 e0 l W rr0 f0 n0 ri0 g0 m0).mono fun e W' ⟨he, hw⟩ => ?_
  subst he
  exact ⟨_, rfl, law_post (tb := 4) laidOut (by kernel_rfl) rfl hW' Try.underlying4 (by kernel_rfl) (fun gs' e => by subst e; rfl) hw⟩

theorem exactLocksOk_holds : Rows.FnExactLocksOkSaid :=
  OpenClaim.holds_of_wide 6 Try.f6 rfl rfl rfl rfl rfl rfl rfl ⟨rfl, rfl, rfl, rfl, rfl⟩ rfl rfl rfl rfl rfl (by kernel_rfl) Try.func6 (by kernel_rfl)
    (of_decide_eq_true (by kernel_rfl)) (by unfold Func.isWrapper; rw [if_neg (of_decide_eq_false (by kernel_rfl))]; exact ⟨rfl, rfl⟩)
    (fun os started H enc _ => exactLocksOk_lifted os started H enc)
end Go.Proofs.Ytooalnpfenhelaa
