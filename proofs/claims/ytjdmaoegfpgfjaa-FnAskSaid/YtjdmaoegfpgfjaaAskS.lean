/-
  The model's Ask: what one that asks is told.
  The model's Ask, whole.
  The model's Ask: refused, or told.
-/
import Derived.Test.YtjdmaoegfpgfjaaFreeS3
import Derived.Test.YtjdmaoegfpgfjaaEdgeS
import Derived.Test.YtjdmaoegfpgfjaaRoundI
import Derived.Lib.QuietBelow
namespace Go.Proofs.Ytjdmaoegfpgfjaa
open Go.RowKit

theorem mineV_whole {h : HS} {x : HD} (hh : HoldsB h) (e : (h.any fun y => ownB y x) = true) : modeB (mineV h x) = true ∧ wholeM h x = joinB (mineV h x) x.2.2 := by
  cases hf : h.find? (fun y => ownB y x) with
  | none =>
    have h2 := List.find?_eq_none.1 hf
    obtain ⟨y, hy, e'⟩ := List.any_eq_true.1 e
    exact absurd e' (h2 y hy)
  | some y =>
    rw [mineV, wholeM, hf]
    exact ⟨holdB_mode (hh y (List.mem_of_find?_eq_some hf)), rfl⟩
/-- What is made ahead: the locks, the one that asks, and place for the answer. -/
structure AskBox (w w1 : World) (L1 L2 : Value) (x : HD) : Prop where
  p : Row2 w1 w.heap.size 39 L1 L2
  x : Row3 w1 (w.heap.size + 1) 49 (.int .i64 x.1) (.string x.2.1) (.int .i64 x.2.2)
  b : Below w.heap.size w w1
theorem ask_box2 (w : World) (L1 L2 : Value) (x : HD) (o : Obj) : AskBox w (((w.alloc (.cells #[L1, L2] 39)).alloc (.cells #[.int .i64 x.1, .string x.2.1, .int .i64 x.2.2] 49)).alloc o) L1 L2 x := by
  have a0 := Row2.lit w 39 L1 L2
  have a1 := Row3.lit (w.alloc (.cells #[L1, L2] 39)) 49 (.int .i64 x.1) (.string x.2.1) (.int .i64 x.2.2)
  simp only [World.size_alloc] at a1
  exact ⟨(a0.below ((Below.refl _ _).alloc (Nat.le_refl _) _)).below ((Below.refl _ _).alloc (Nat.le_refl _) _), a1.below ((Below.refl _ _).alloc (Nat.le_refl _) _), below3 (Below.refl _ _) (Nat.le_refl _)⟩
theorem AskBox.next {w w1 w2 : World} {L1 L2 : Value} {x : HD} (h : AskBox w w1 L1 L2 x) (hb : Below w1.heap.size w1 w2) : AskBox w w2 L1 L2 x := ⟨h.p.below hb, h.x.below hb, h.b.trans (hb.mono h.b.size)⟩

set_option maxHeartbeats 1000000 in
set_option maxRecDepth 100000 in
theorem spec_l5Whole (A : Option Addr) (c : Nat) (h : HS) (K : Option Addr) (m d : Nat) (x : HD) (w : World) (hr : RH w w.heap.size A h) (hn : h.length ≤ maxLen) (hh : HoldsB h) (hx : modeB x.2.2 = true) :
    Calls Try.prog 159 #[.agg #[.slice A h.length c, .slice K m d], .agg #[.int .i64 x.1, .string x.2.1, .int .i64 x.2.2]] w fun e w' => e = .returned (.agg #[.int .i64 x.1, .string x.2.1, .int .i64 (wholeM h x)]) ∧ Below w.heap.size w w' := by
  have HB := hid (ask_box2 w (.slice A h.length c) (.slice K m d) x (.cells #[.int .i64 0, .string ⟨#[]⟩, .int .i64 0] 49))
  have r0 := Row3.lit ((w.alloc (.cells #[.slice A h.length c, .slice K m d] 39)).alloc (.cells #[.int .i64 x.1, .string x.2.1, .int .i64 x.2.2] 49)) 49 (.int .i64 0) (.string ⟨#[]⟩) (.int .i64 0)
  simp only [World.size_alloc] at r0
  have R := hid r0
  have HR := hid hr
  have HN := hid hn
  have HH := hid hh
  clear hr hn r0 hh
  go_enter Try.func159, Try.ntmps159
  go_wp2_with fail
  generalize hw1 : ((w.alloc (.cells #[.slice A h.length c, .slice K m d] 39)).alloc (.cells #[.int .i64 x.1, .string x.2.1, .int .i64 x.2.2] 49)).alloc (.cells #[.int .i64 0, .string ⟨#[]⟩, .int .i64 0] 49) = w1 at *
  clear hw1
  have HRb := hid ((HR.out.below HB.out.b).more HB.out.b.size)
  refine (spec_l5Mine A c h K m d x w1 HRb.out HN.out).mono ?_
  rintro e w2 ⟨rfl, hb2⟩
  have HB2 := hid (HB.out.next hb2)
  have R2 := hid (R.out.below hb2)
  clear hb2
  have x0 := HB2.out.x.c0
  have x1 := HB2.out.x.c1
  have x2 := HB2.out.x.c2
  have f2 := HB2.out.x.fz 2
  have k0 := R2.out.fz 0
  have k1 := R2.out.fz 1
  have k2 := R2.out.fz 2
  have z0 := R2.out.c0
  have z1 := R2.out.c1
  have z2 := R2.out.c2
  cases ho : h.any fun y => ownB y x
  case false =>
    have HM : Hid (mineV h x = 0) := mineV_none ho
    have HW : Hid (wholeM h x = x.2.2) := wholeM_none ho
    rw [HM.out]
    go_wp2_with fail
    refine world_post (S := fun wq => Row3 wq (w.heap.size + 2) 49 (.int .i64 x.1) (.string x.2.1) (.int .i64 x.2.2) ∧ Below w.heap.size w wq) _ ⟨((R2.out.s0 _).s1 _).s2 _, ((HB2.out.b.setCell (by simp; omega) _).setCell (by simp; omega) _).setCell (by simp; omega) _⟩ ?_
    clear x0 x1 x2 f2 k0 k1 k2 z0 z1 z2
    intro wq ⟨hq, hqb⟩
    have q0 := hq.c0
    have q1 := hq.c1
    have q2 := hq.c2
    rw [HW.out]
    exact bodyPost_ret (v := .agg #[.int .i64 x.1, .string x.2.1, .int .i64 x.2.2]) (by simp [results, Try.results159, go_sem, q0, q1, q2]) rfl ⟨rfl, hqb⟩
  case true =>
    obtain ⟨hm, hw⟩ := mineV_whole HH.out ho
    have HJ := hid (spec_l5Both (mineV h x) x.2.2 w2 hm hx)
    have hpos : (0 : Int) < mineV h x := mineV_some HH.out ho
    have HW : Hid (wholeM h x = joinB (mineV h x) x.2.2) := hw
    have X3 := hid (HB2.out.x.s2 (.int .i64 (joinB (mineV h x) x.2.2)))
    have R3 := hid (R2.out.other HB2.out.x (by omega) 2 (.int .i64 (joinB (mineV h x) x.2.2)))
    have HB3 := hid (HB2.out.b.setCell (p := ⟨w.heap.size + 1, 2, none⟩) (by simp) (.int .i64 (joinB (mineV h x) x.2.2)))
    clear hm hw
    go_wp2_with (go_at_call 199; refine HJ.out.mono ?_; rintro e w' ⟨rfl, rfl⟩; have x30 := X3.out.c0; have x31 := X3.out.c1; have x32 := X3.out.c2; have k30 := R3.out.fz 0; have k31 := R3.out.fz 1; have k32 := R3.out.fz 2; have z30 := R3.out.c0; have z31 := R3.out.c1; have z32 := R3.out.c2)
    refine world_post (S := fun wq => Row3 wq (w.heap.size + 2) 49 (.int .i64 x.1) (.string x.2.1) (.int .i64 (joinB (mineV h x) x.2.2)) ∧ Below w.heap.size w wq) _ ⟨((R3.out.s0 _).s1 _).s2 _, ((HB3.out.setCell (by simp; omega) _).setCell (by simp; omega) _).setCell (by simp; omega) _⟩ ?_
    intro wq ⟨hq, hqb⟩
    have q0 := hq.c0
    have q1 := hq.c1
    have q2 := hq.c2
    rw [HW.out]
    exact bodyPost_ret (v := .agg #[.int .i64 x.1, .string x.2.1, .int .i64 (joinB (mineV h x) x.2.2)]) (by simp [results, Try.results159, go_sem, q0, q1, q2]) rfl ⟨rfl, hqb⟩

theorem OwnH.two {w : World} {B c g : Nat} {A : Option Addr} {hs : HS} {a b : Value} (h : OwnH w B A c hs) (R : Row2 w g 39 a b) (u v : Value) : OwnH ((w.setCell ⟨g, 0, none⟩ u).setCell ⟨g, 1, none⟩ v) B A c hs :=
  (h.stay (w' := w.setCell ⟨g, 0, none⟩ u) (fun q hq => heap_setCell_other _ _ q _ (fun e => own_ne (by decide) h R q hq (by rw [e]; rfl)))).stay (fun q hq => heap_setCell_other _ _ q _ (fun e => own_ne (by decide) h R q hq (by rw [e]; rfl)))
theorem copy_fst {w1 W w5 : World} {B p q c5 : Nat} {A5 : Option Addr} {h : HS} (hap : AppH W B (some ⟨p, 0, none⟩) 0 0 ([] ++ h) A5 c5 w5) (hb : Below B w1 W) (h0 : OwnH W B (some ⟨p, 0, none⟩) 0 []) (h1 : OwnH W B (some ⟨q, 0, none⟩) 0 []) (hne : q ≠ p) (hB : B ≤ W.heap.size) :
    Below B w1 w5 ∧ OwnH w5 B A5 c5 h ∧ OwnH w5 B (some ⟨q, 0, none⟩) 0 [] ∧ (∀ k, Value.ownBlock (.slice A5 h.length c5) = some k → k ≠ q) := by
  have hq := (h1.size q rfl).2
  refine ⟨hb.trans (hap.below h0 rfl hB), hap.own, h1.keepG hap.grown (fun k hk e => ?_), fun k hk e => ?_⟩
  · injection hk with hk
    injection e with e
    exact hne (hk.trans e)
  · rcases hap.at_ with h | h
    · have : some k = some p := hk.symm.trans h
      injection this with this
      exact hne (e.symm.trans this)
    · have : some k = some W.heap.size := hk.symm.trans h
      injection this with this
      omega
theorem copy_snd {W w8 : World} {B q c5 c8 : Nat} {A5 A8 : Option Addr} {h l : HS} (hap : AppH W B (some ⟨q, 0, none⟩) 0 0 ([] ++ l) A8 c8 w8) (h0 : OwnH W B (some ⟨q, 0, none⟩) 0 []) (hA : OwnH W B A5 c5 h) (hne : ∀ k, Value.ownBlock (.slice A5 h.length c5) = some k → k ≠ q) (hB : B ≤ W.heap.size) :
    Below B W w8 ∧ OwnH w8 B A8 c8 l ∧ OwnH w8 B A5 c5 h ∧ (∀ k, Value.ownBlock (.slice A5 h.length c5) = some k → Value.ownBlock (.slice A8 l.length c8) ≠ some k) :=
  ⟨hap.below h0 rfl hB, hap.own, hA.keepG hap.grown (fun k hk e => by injection e with e; exact hne k hk e), fun k hk e => by
    rcases hap.at_ with h | h
    · have : some k = some q := e.symm.trans h
      injection this with this
      exact hne k hk this
    · have : some k = some W.heap.size := e.symm.trans h
      injection this with this
      have := (hA.size k hk).2
      omega⟩
theorem two_new (w : World) : OwnH ((w.alloc (.cells #[] 49)).alloc (.cells #[] 49)) w.heap.size (some ⟨w.heap.size, 0, none⟩) 0 [] ∧ OwnH ((w.alloc (.cells #[] 49)).alloc (.cells #[] 49)) w.heap.size (some ⟨w.heap.size + 1, 0, none⟩) 0 [] ∧ Below w.heap.size w ((w.alloc (.cells #[] 49)).alloc (.cells #[] 49)) := by
  have h0 := OwnH.made (w := w) (Nat.le_refl _) #[] 0 rfl (Nat.zero_le _)
  have h1 := OwnH.made (w := w.alloc (.cells #[] 49)) (B := w.heap.size) (by simp) #[] 0 rfl (Nat.zero_le _)
  rw [World.size_alloc] at h1
  exact ⟨h0.below ((Below.refl _ _).alloc (Nat.le_refl _) _), h1, ((Below.refl _ _).alloc (Nat.le_refl _) _).alloc (by simp) _⟩

set_option maxHeartbeats 2000000 in
set_option maxRecDepth 100000 in
theorem spec_l5Copy (A : Option Addr) (c : Nat) (h : HS) (K : Option Addr) (d : Nat) (l : HS) (w : World) (hr : RH w w.heap.size A h) (hn : h.length ≤ 1000) (hr' : RH w w.heap.size K l) (hn' : l.length ≤ 1000) :
    Calls Try.prog 160 #[.agg #[.slice A h.length c, .slice K l.length d]] w (MadeLn w h l) := by
  obtain ⟨i0, hi0, hz0, hz1, hz2⟩ := info_parts holdInfo
  have a0 := Row2.lit w 39 (.slice A h.length c) (.slice K l.length d)
  have a1 := Row2.lit (w.alloc (.cells #[.slice A h.length c, .slice K l.length d] 39)) 39 (.slice none 0 0) (.slice none 0 0)
  have b0 := a0.below ((Below.refl _ _).alloc (Nat.le_refl _) (.cells #[.slice none 0 0, .slice none 0 0] 39))
  simp only [World.size_alloc] at a1
  have P := hid b0
  have R := hid a1
  have hb1 : Below w.heap.size w ((w.alloc (.cells #[.slice A h.length c, .slice K l.length d] 39)).alloc (.cells #[.slice none 0 0, .slice none 0 0] 39)) := ((Below.refl _ _).alloc (Nat.le_refl _) _).alloc (by simp) _
  have HB := hid hb1
  have HR := hid ((hr.below hb1).more hb1.size)
  have HR2 := hid ((hr'.below hb1).more hb1.size)
  clear a0 a1 b0 hb1 hr hr'
  go_enter Try.func160, Try.ntmps160
  go_wp2_with fail
  generalize hw1 : (w.alloc (.cells #[.slice A h.length c, .slice K l.length d] 39)).alloc (.cells #[.slice none 0 0, .slice none 0 0] 39) = w1 at *
  clear hw1
  have y0 := P.out.c0
  have y1 := P.out.c1
  have k0 := R.out.fz 0
  have k1 := R.out.fz 1
  have BA := hid ((Below.refl w1.heap.size w1).alloc (Nat.le_refl _) (.cells #[] 49))
  have O0 := hid (OwnH.made (w := w1) (Nat.le_refl _) #[] 0 rfl (Nat.zero_le _))
  obtain ⟨e0, e1, e2⟩ := two_new w1
  have E0 := hid e0
  have E1 := hid e1
  have BA2 := hid e2
  clear e0 e1 e2
  go_region_held3 (fun w' => w'.cell? ⟨w.heap.size, 0, none⟩ = some (.slice A h.length c) ∧ w'.cell? ⟨w.heap.size, 1, none⟩ = some (.slice K l.length d)) (go_keep)
    (first
      | (refine step_append_rh _ (by rfl) _ _ _ (by rfl) i0 Try.underlying37 hi0 hz0 hz1 hz2 w1.heap.size (some ⟨w1.heap.size, 0, none⟩) 0 0 [] (by rfl) rfl O0.out w1.heap.size A h.length c h (by rfl) rfl ((HR.out.below BA.out).more (Nat.le_refl _)) (by simp; omega) (by first | exact HB5.out.size | (simp; done) | (simp; omega)) ?_; intro A5 n5 c5 w5 hn5 hap5; have HN5 := hid hn5; have HB5 : Hid (Below w1.heap.size w1 w5) := BA.out.drew.trans (hap5.below O0.out rfl (by simp)); have HO5 : Hid (OwnH w5 w1.heap.size A5 c5 h) := hap5.own; have y50 := (P.out.below HB5.out).c0; have y51 := (P.out.below HB5.out).c1; have O5 := hid (OwnH.made (w := w5) (Nat.le_refl _) #[] 0 rfl (Nat.zero_le _)); have BA5 := hid ((Below.refl w5.heap.size w5).alloc (Nat.le_refl _) (.cells #[] 49)); have HR5 := hid ((HR2.out.below HB5.out).more HB5.out.size); clear hn5 hap5)
      | (refine step_append_rh _ (by rfl) _ _ _ (by rfl) i0 Try.underlying37 hi0 hz0 hz1 hz2 w1.heap.size (some ⟨w1.heap.size, 0, none⟩) 0 0 [] (by rfl) rfl E0.out w1.heap.size A h.length c h (by rfl) rfl ((HR.out.below BA2.out).more (Nat.le_refl _)) (by simp; omega) (by first | exact HB5.out.size | (simp; done) | (simp; omega)) ?_; intro A5 n5 c5 w5 hn5 hap5; obtain ⟨hx1, hx2, hx3, hx4⟩ := copy_fst hap5 (by first | exact BA2.out | exact BA2.out.drew) E0.out E1.out (by omega) (by simp <;> omega); have HN5 := hid hn5; have HB5 := hid hx1; have HO5 := hid hx2; have O5 := hid hx3; have HE5 := hid hx4; have y50 := (P.out.below HB5.out).c0; have y51 := (P.out.below HB5.out).c1; have HR5 := hid ((HR2.out.below HB5.out).more HB5.out.size); clear hn5 hap5 hx1 hx2 hx3 hx4)
      | (refine step_append_rh _ (by rfl) _ _ _ (by rfl) i0 Try.underlying37 hi0 hz0 hz1 hz2 w1.heap.size (some ⟨w1.heap.size + 1, 0, none⟩) 0 0 [] (by rfl) rfl E1.out w1.heap.size A h.length c h (by rfl) rfl ((HR.out.below BA2.out).more (Nat.le_refl _)) (by simp; omega) (by first | exact HB5.out.size | (simp; done) | (simp; omega)) ?_; intro A5 n5 c5 w5 hn5 hap5; obtain ⟨hx1, hx2, hx3, hx4⟩ := copy_fst hap5 (by first | exact BA2.out | exact BA2.out.drew) E1.out E0.out (by omega) (by simp <;> omega); have HN5 := hid hn5; have HB5 := hid hx1; have HO5 := hid hx2; have O5 := hid hx3; have HE5 := hid hx4; have y50 := (P.out.below HB5.out).c0; have y51 := (P.out.below HB5.out).c1; have HR5 := hid ((HR2.out.below HB5.out).more HB5.out.size); clear hn5 hap5 hx1 hx2 hx3 hx4)
      | (refine step_append_rh _ (by rfl) _ _ _ (by rfl) i0 Try.underlying37 hi0 hz0 hz1 hz2 w5.heap.size (some ⟨w5.heap.size, 0, none⟩) 0 0 [] (by rfl) rfl O5.out w5.heap.size K l.length d l (by rfl) rfl (HR5.out.below BA5.out) (by simp; omega) (by first | exact HB5.out.size | (simp; done) | (simp; omega)) ?_; intro A8 n8 c8 w8 hn8 hap8; have HN8 := hid hn8; have HBX : Hid (Below w5.heap.size w5 w8) := (by first | exact BA5.out.trans (hap8.below O5.out rfl (by simp)) | exact BA5.out.drew.trans (hap8.below O5.out rfl (by simp))); have HO8 : Hid (OwnH w8 w1.heap.size A8 c8 l) := OwnH.mono hap8.own HB5.out.size; have HNE : Hid (∀ k, Value.ownBlock (.slice A5 h.length c5) = some k → Value.ownBlock (.slice A8 l.length c8) ≠ some k) := (fun k h1 h2 => by have q1 := (HO5.out.size k h1).2; have q2 := (hap8.own.size k h2).1; omega); have HB8 := hid (HB5.out.trans (HBX.out.mono HB5.out.size)); have HO9 := hid (HO5.out.below HBX.out); have R8 := hid (R.out.below HB8.out); have y80 := (P.out.below HB8.out).c0; have y81 := (P.out.below HB8.out).c1; have k80 := R8.out.fz 0; have k81 := R8.out.fz 1; have z80 := R8.out.c0; have z81 := R8.out.c1; clear hn8 hap8)
      | (refine step_append_rh _ (by rfl) _ _ _ (by rfl) i0 Try.underlying37 hi0 hz0 hz1 hz2 w1.heap.size (some ⟨w1.heap.size + 1, 0, none⟩) 0 0 [] (by rfl) rfl O5.out w5.heap.size K l.length d l (by rfl) rfl HR5.out (by simp; omega) (by first | exact HB5.out.size | (simp; done) | (simp; omega)) ?_; intro A8 n8 c8 w8 hn8 hap8; obtain ⟨hx1, hx2, hx3, hx4⟩ := copy_snd hap8 O5.out HO5.out HE5.out (by exact HB5.out.size); have HN8 := hid hn8; have HB8 : Hid (Below w1.heap.size w1 w8) := (by first | exact HB5.out.trans hx1 | exact HB5.out.drew.trans hx1); have HO8 := hid hx2; have HO9 := hid hx3; have HNE := hid hx4; have R8 := hid (R.out.below HB8.out); have y80 := (P.out.below HB8.out).c0; have y81 := (P.out.below HB8.out).c1; have k80 := R8.out.fz 0; have k81 := R8.out.fz 1; have z80 := R8.out.c0; have z81 := R8.out.c1; clear hn8 hap8 hx1 hx2 hx3 hx4)
      | (refine step_append_rh _ (by rfl) _ _ _ (by rfl) i0 Try.underlying37 hi0 hz0 hz1 hz2 w1.heap.size (some ⟨w1.heap.size, 0, none⟩) 0 0 [] (by rfl) rfl O5.out w5.heap.size K l.length d l (by rfl) rfl HR5.out (by simp; omega) (by first | exact HB5.out.size | (simp; done) | (simp; omega)) ?_; intro A8 n8 c8 w8 hn8 hap8; obtain ⟨hx1, hx2, hx3, hx4⟩ := copy_snd hap8 O5.out HO5.out HE5.out (by exact HB5.out.size); have HN8 := hid hn8; have HB8 : Hid (Below w1.heap.size w1 w8) := (by first | exact HB5.out.trans hx1 | exact HB5.out.drew.trans hx1); have HO8 := hid hx2; have HO9 := hid hx3; have HNE := hid hx4; have R8 := hid (R.out.below HB8.out); have y80 := (P.out.below HB8.out).c0; have y81 := (P.out.below HB8.out).c1; have k80 := R8.out.fz 0; have k81 := R8.out.fz 1; have z80 := R8.out.c0; have z81 := R8.out.c1; clear hn8 hap8 hx1 hx2 hx3 hx4))
  all_goals
    have HO8b := hid ((HO8.out.two R8.out (.slice A5 h.length c5) (.slice A8 l.length c8)))
    have HO9b := hid ((HO9.out.two R8.out (.slice A5 h.length c5) (.slice A8 l.length c8)))
    have HBB := hid (((HB.out.trans (HB8.out.mono HB.out.size)).setCell (p := ⟨w.heap.size + 1, 0, none⟩) (by simp) (.slice A5 h.length c5)).setCell (p := ⟨w.heap.size + 1, 1, none⟩) (by simp) (.slice A8 l.length c8))
    have RB := hid ((R8.out.s0 (.slice A5 h.length c5)).s1 (.slice A8 l.length c8))
    have e5 : n5 = h.length := HN5.out
    have e8 : n8 = l.length := HN8.out
    subst e5 e8
    go_wp2_with fail
    refine world_post (S := fun wq => Row2 wq (w.heap.size + 1) 39 (.slice A5 h.length c5) (.slice A8 l.length c8) ∧ MadeLn w h l (.returned (.agg #[.slice A5 h.length c5, .slice A8 l.length c8])) wq) _
      ⟨RB.out, A5, c5, A8, c8, rfl, HO9b.out.mono HB.out.size, HO8b.out.mono HB.out.size, HNE.out, HBB.out⟩ ?_
    clear y80 y81 k80 k81 z80 z81
    intro wq ⟨hq, hqm⟩
    have q0 := hq.c0
    have q1 := hq.c1
    exact bodyPost_ret (v := .agg #[.slice A5 h.length c5, .slice A8 l.length c8]) (by simp [results, Try.results160, go_sem, q0, q1]) rfl hqm
end Go.Proofs.Ytjdmaoegfpgfjaa
namespace Go.Proofs.Ytjdmaoegfpgfjaa
open Go.RowKit

/-- What Ask answers: locks and a code. -/
def MadeAs (w : World) (r : HS × HS × Int) (e : Ending) (w' : World) : Prop :=
  ∃ A c K d, e = .returned (.tuple #[.agg #[.slice A r.1.length c, .slice K r.2.1.length d], .int .i64 r.2.2]) ∧ OwnH w' w.heap.size A c r.1 ∧ OwnH w' w.heap.size K d r.2.1 ∧ (∀ k, Value.ownBlock (.slice A r.1.length c) = some k → Value.ownBlock (.slice K r.2.1.length d) ≠ some k) ∧ Below w.heap.size w w'
theorem edgesL_len {h l : HS} (h1 : h.length ≤ 200) (h2 : l.length ≤ 100) : (edgesL h l).length ≤ 30000 := by
  have a := rawE_len h l l.length (Nat.le_refl _)
  have b := setE_len (rawE h l l.length)
  have c : l.length * (h.length + l.length) ≤ 100 * 300 := Nat.mul_le_mul h2 (by omega)
  unfold edgesL
  omega
theorem Row2.other3 {w : World} {g g' : Nat} {t t' : TypeId} {a b a' b' c' : Value} (h : Row2 w g t a b) (h' : Row3 w g' t' a' b' c') (hne : g ≠ g') (j : Nat) (v : Value) : Row2 (w.setCell ⟨g', j, none⟩ v) g t a b :=
  h.kept (h'.stored j v).2 (.inr (by simp [Value.ownBlock]; omega))
theorem Row2.thrice {w : World} {g g' : Nat} {t t' : TypeId} {a b a' b' c' : Value} (h : Row2 w g t a b) (h' : Row3 w g' t' a' b' c') (hne : g ≠ g') (u v x : Value) : Row2 (((w.setCell ⟨g', 0, none⟩ u).setCell ⟨g', 1, none⟩ v).setCell ⟨g', 2, none⟩ x) g t a b :=
  ((h.other3 h' hne 0 u).other3 (h'.s0 u) hne 1 v).other3 ((h'.s0 u).s1 v) hne 2 x
theorem OwnH.out3 {w : World} {B c : Nat} {A : Option Addr} {hs : HS} (h : OwnH w B A c hs) {g : Nat} (hg : g < B) (u v x : Value) : OwnH (((w.setCell ⟨g, 0, none⟩ u).setCell ⟨g, 1, none⟩ v).setCell ⟨g, 2, none⟩ x) B A c hs :=
  ((h.stay (w' := w.setCell ⟨g, 0, none⟩ u) (fun q hq => heap_setCell_other _ _ q _ (fun e => by have := (h.size q hq).1; simp at e; omega))).stay (w' := (w.setCell ⟨g, 0, none⟩ u).setCell ⟨g, 1, none⟩ v) (fun q hq => heap_setCell_other _ _ q _ (fun e => by have := (h.size q hq).1; simp at e; omega))).stay (fun q hq => heap_setCell_other _ _ q _ (fun e => by have := (h.size q hq).1; simp at e; omega))

theorem OwnH.set1 {w : World} {B c : Nat} {A : Option Addr} {hs : HS} (h : OwnH w B A c hs) {g : Nat} (hne : ∀ k, Value.ownBlock (.slice A hs.length c) = some k → k ≠ g) (j : Nat) (v : Value) : OwnH (w.setCell ⟨g, j, none⟩ v) B A c hs :=
  h.stay (fun q hq => heap_setCell_other _ _ q _ (hne q hq))
theorem mine_may {h l : HS} {x : HD} (hh : heldsB h = true) (hw : modeB (wholeM h x) = true) (hm : mineV h x = wholeM h x) : mayB h l (wholeH h x) = true := by
  cases hf : h.find? (fun y => ownB y x) with
  | none =>
    rw [mineV, hf] at hm
    rw [modeB_iff, ← hm] at hw
    simp at hw
  | some y =>
    have hy := List.mem_of_find?_eq_some hf
    have ho := List.find?_some hf
    have e : mineV h x = y.2.2 := by rw [mineV, hf]
    exact may_mine hh hy ho (e.symm.trans hm)

set_option maxHeartbeats 4000000 in
set_option maxRecDepth 100000 in
theorem spec_l5Ask (A : Option Addr) (c : Nat) (h : HS) (K : Option Addr) (d : Nat) (l : HS) (x : HD) (w : World) (hr : RH w w.heap.size A h) (hr' : RH w w.heap.size K l) (hlk : locksB h l = true) (hx : holdB x = true) :
    Calls Try.prog 97 #[.agg #[.slice A h.length c, .slice K l.length d], .agg #[.int .i64 x.1, .string x.2.1, .int .i64 x.2.2]] w (MadeAs w (askL h l (wholeH h x))) := by
  obtain ⟨i0, hi0, hz0, hz1, hz2⟩ := info_parts holdInfo
  obtain ⟨l1, l2, l3, l4⟩ := locksB_iff.1 hlk
  have HHB := hid (heldsB_holds l1)
  have HLB := hid (linesB_holds l2)
  have HHV := hid l1
  have L3 := hid l3
  have L4 := hid l4
  have HX := hid hx
  have HM := hid (holdB_mode hx)
  have HWO := hid (wholeH_ok HHB.out hx)
  have HB := hid (ask_box2 w (.slice A h.length c) (.slice K l.length d) x (.cells #[.slice none 0 0, .slice none 0 0] 39))
  have r0 := Row2.lit ((w.alloc (.cells #[.slice A h.length c, .slice K l.length d] 39)).alloc (.cells #[.int .i64 x.1, .string x.2.1, .int .i64 x.2.2] 49)) 39 (.slice none 0 0) (.slice none 0 0)
  simp only [World.size_alloc] at r0
  have R := hid r0
  have HR := hid hr
  have HK := hid hr'
  clear hr hr' r0 l1 l2 l3 l4 hlk hx
  go_enter Try.func97, Try.ntmps97
  go_wp2_with fail
  generalize hw1 : ((w.alloc (.cells #[.slice A h.length c, .slice K l.length d] 39)).alloc (.cells #[.int .i64 x.1, .string x.2.1, .int .i64 x.2.2] 49)).alloc (.cells #[.slice none 0 0, .slice none 0 0] 39) = w1 at *
  clear hw1
  have HRb := hid ((HR.out.below HB.out.b).more HB.out.b.size)
  have HKb := hid ((HK.out.below HB.out.b).more HB.out.b.size)
  refine (spec_l5Whole A c h K l.length d x w1 HRb.out (by have := L3.out; unfold maxLen; omega) HHB.out HM.out).mono ?_
  rintro e w2 ⟨rfl, hb2⟩
  have HB2 := hid (HB.out.next hb2)
  have R2 := hid (R.out.below hb2)
  clear hb2 HB R HRb HKb
  have x0 := HB2.out.x.c0
  have x1 := HB2.out.x.c1
  have x2 := HB2.out.x.c2
  have f0 := HB2.out.x.fz 0
  have f1 := HB2.out.x.fz 1
  have f2 := HB2.out.x.fz 2
  have X3 := hid (((HB2.out.x.s0 (.int .i64 x.1)).s1 (.string x.2.1)).s2 (.int .i64 (wholeM h x)))
  have P3 := hid (HB2.out.p.thrice HB2.out.x (by omega) (.int .i64 x.1) (.string x.2.1) (.int .i64 (wholeM h x)))
  have R3 := hid (R2.out.thrice HB2.out.x (by omega) (.int .i64 x.1) (.string x.2.1) (.int .i64 (wholeM h x)))
  have HB3 := hid (((HB2.out.b.setCell (p := ⟨w.heap.size + 1, 0, none⟩) (by simp) (.int .i64 x.1)).setCell (p := ⟨w.heap.size + 1, 1, none⟩) (by simp) (.string x.2.1)).setCell (p := ⟨w.heap.size + 1, 2, none⟩) (by simp) (.int .i64 (wholeM h x)))
  go_wp2_with fail
  generalize hw3 : ((w2.setCell ⟨w.heap.size + 1, 0, none⟩ (.int .i64 x.1)).setCell ⟨w.heap.size + 1, 1, none⟩ (.string x.2.1)).setCell ⟨w.heap.size + 1, 2, none⟩ (.int .i64 (wholeM h x)) = w3 at *
  clear hw3 HB2 R2 x0 x1 x2 f0 f1 f2
  -- WALK-BEGIN
  have x0 := cell_regrown X3.out.c0
  have x1 := cell_regrown X3.out.c1
  have x2 := cell_regrown X3.out.c2
  have y0 := cell_regrown P3.out.c0
  have y1 := cell_regrown P3.out.c1
  have cM : ∀ dq os, Calls Try.prog 156 #[.agg #[.slice A h.length c, .slice K l.length d], .int .i64 x.1, .string x.2.1] (Go.Sort.grow (redrawn w3 dq) os) fun e w'' => e = .returned (.int .i64 (mineV h x)) ∧ ∃ p : Regrown, w'' = Go.Sort.grow (redrawn w3 p.d) p.os := fun dq os => Calls.regrown_of (spec_l5Mine A c h K l.length d x _ ((HR.out.below (HB3.out.trans ((below_regrown w3 dq os).mono HB3.out.size))).more (HB3.out.trans ((below_regrown w3 dq os).mono HB3.out.size)).size) (by have := L3.out; unfold maxLen; omega))
  have cY : ∀ dq os, Calls Try.prog 138 #[.agg #[.slice A h.length c, .slice K l.length d], .agg #[.int .i64 x.1, .string x.2.1, .int .i64 (wholeM h x)], .int .i64 (l.length : Int)] (Go.Sort.grow (redrawn w3 dq) os) fun e w'' => e = .returned (.bool (mayB h l (wholeH h x))) ∧ ∃ p : Regrown, w'' = Go.Sort.grow (redrawn w3 p.d) p.os := fun dq os => Calls.regrown_of (by
    have := spec_l5May A c h K d l (wholeH h x) l.length (Go.Sort.grow (redrawn w3 dq) os) ((HR.out.below (HB3.out.trans ((below_regrown w3 dq os).mono HB3.out.size))).more (HB3.out.trans ((below_regrown w3 dq os).mono HB3.out.size)).size) (by have := L3.out; unfold maxLen; omega) ((HK.out.below (HB3.out.trans ((below_regrown w3 dq os).mono HB3.out.size))).more (HB3.out.trans ((below_regrown w3 dq os).mono HB3.out.size)).size) (by have := L4.out; unfold maxLen; omega) HHB.out (holdB_mode HWO.out) (Nat.le_refl _)
    rw [List.take_length] at this
    exact this)
  by_cases hm : mineV h x = wholeM h x
  · have hmay := mine_may (l := l) HHV.out (holdB_mode HWO.out) hm
    have g1 := eqI_true hm
    clear hm
    refine wp_region_quiet_below (by kernel_rfl) (by kernel_rfl) ?_
    repeat (go_big_quiet_step (first | exact cM _ _ | exact cY _ _))
    refine wpQuiet_nil ?_
    intro _ hw'
    obtain ⟨⟨dq, osq⟩, hw''⟩ := hw'
    subst hw''
    have HD : Hid (Below w3.heap.size w3 (Go.Sort.grow (redrawn w3 dq) osq)) := below_regrown w3 dq osq
    generalize hw4 : Go.Sort.grow (redrawn w3 dq) osq = w4 at *
    clear hw4 x0 x1 x2 y0 y1 cM cY
    have X4 := hid (X3.out.below HD.out)
    have P4 := hid (P3.out.below HD.out)
    have R4 := hid (R3.out.below HD.out)
    have HB4 := hid (HB3.out.trans (HD.out.mono HB3.out.size))
    have HRc := hid ((HR.out.below HB4.out).more HB4.out.size)
    have HKc := hid ((HK.out.below HB4.out).more HB4.out.size)
    have y0 := P4.out.c0
    have y1 := P4.out.c1
    have x0 := X4.out.c0
    have x1 := X4.out.c1
    have x2 := X4.out.c2
    have HE : Hid (askL h l (wholeH h x) = (giveL h (wholeH h x), l, 1)) := by rw [Hid, askL, hmay]; rfl
    go_wp2_with (go_at_call 139; refine (spec_l5Give A c h K d l (wholeH h x) w4 HRc.out (by have := L3.out; omega) HKc.out (by have := L4.out; omega)).mono ?_; rintro e w5 ⟨A5, c5, K5, d5, rfl, hA, hK, hne, hb⟩; have HA5 := hid hA; have HK5 := hid hK; have HNE := hid hne; have R5 := hid (R4.out.below hb); have HB5 := hid (HB4.out.trans (hb.mono HB4.out.size)); clear hA hK hne hb x0 x1 x2 y0 y1; have z0 := R5.out.c0; have z1 := R5.out.c1; have k0 := R5.out.fz 0; have k1 := R5.out.fz 1)
    refine world_post (S := fun wq => Row2 wq (w.heap.size + 1 + 1) 39 (.slice A5 (giveL h (wholeH h x)).length c5) (.slice K5 l.length d5) ∧ MadeAs w ((giveL h (wholeH h x)), l, 1) (.returned (.tuple #[.agg #[.slice A5 (giveL h (wholeH h x)).length c5, .slice K5 l.length d5], .int .i64 1])) wq) _
      ⟨(R5.out.s0 _).s1 _, A5, c5, K5, d5, rfl, (HA5.out.two R5.out _ _).mono HB4.out.size, (HK5.out.two R5.out _ _).mono HB4.out.size, HNE.out, (HB5.out.setCell (by simp; omega) _).setCell (by simp; omega) _⟩ ?_
    clear z0 z1 k0 k1
    intro wq ⟨hq, hqm⟩
    have q0 := hq.c0
    have q1 := hq.c1
    rw [HE.out]
    exact bodyPost_ret (v := .tuple #[.agg #[.slice A5 (giveL h (wholeH h x)).length c5, .slice K5 l.length d5], .int .i64 1]) (by simp [results, Try.results97, go_sem, q0, q1]) rfl hqm
  · have g1 := eqI_false hm
    clear hm
    cases hmay : mayB h l (wholeH h x)
    case true =>
      rw [hmay] at cY
      refine wp_region_quiet_below (by kernel_rfl) (by kernel_rfl) ?_
      repeat (go_big_quiet_step (first | exact cM _ _ | exact cY _ _))
      refine wpQuiet_nil ?_
      intro _ hw'
      obtain ⟨⟨dq, osq⟩, hw''⟩ := hw'
      subst hw''
      have HD : Hid (Below w3.heap.size w3 (Go.Sort.grow (redrawn w3 dq) osq)) := below_regrown w3 dq osq
      generalize hw4 : Go.Sort.grow (redrawn w3 dq) osq = w4 at *
      clear hw4 x0 x1 x2 y0 y1 cM cY
      have X4 := hid (X3.out.below HD.out)
      have P4 := hid (P3.out.below HD.out)
      have R4 := hid (R3.out.below HD.out)
      have HB4 := hid (HB3.out.trans (HD.out.mono HB3.out.size))
      have HRc := hid ((HR.out.below HB4.out).more HB4.out.size)
      have HKc := hid ((HK.out.below HB4.out).more HB4.out.size)
      have y0 := P4.out.c0
      have y1 := P4.out.c1
      have x0 := X4.out.c0
      have x1 := X4.out.c1
      have x2 := X4.out.c2
      have HE : Hid (askL h l (wholeH h x) = (giveL h (wholeH h x), l, 1)) := by rw [Hid, askL, hmay]; rfl
      go_wp2_with (go_at_call 139; refine (spec_l5Give A c h K d l (wholeH h x) w4 HRc.out (by have := L3.out; omega) HKc.out (by have := L4.out; omega)).mono ?_; rintro e w5 ⟨A5, c5, K5, d5, rfl, hA, hK, hne, hb⟩; have HA5 := hid hA; have HK5 := hid hK; have HNE := hid hne; have R5 := hid (R4.out.below hb); have HB5 := hid (HB4.out.trans (hb.mono HB4.out.size)); clear hA hK hne hb x0 x1 x2 y0 y1; have z0 := R5.out.c0; have z1 := R5.out.c1; have k0 := R5.out.fz 0; have k1 := R5.out.fz 1)
      refine world_post (S := fun wq => Row2 wq (w.heap.size + 1 + 1) 39 (.slice A5 (giveL h (wholeH h x)).length c5) (.slice K5 l.length d5) ∧ MadeAs w ((giveL h (wholeH h x)), l, 1) (.returned (.tuple #[.agg #[.slice A5 (giveL h (wholeH h x)).length c5, .slice K5 l.length d5], .int .i64 1])) wq) _
        ⟨(R5.out.s0 _).s1 _, A5, c5, K5, d5, rfl, (HA5.out.two R5.out _ _).mono HB4.out.size, (HK5.out.two R5.out _ _).mono HB4.out.size, HNE.out, (HB5.out.setCell (by simp; omega) _).setCell (by simp; omega) _⟩ ?_
      clear z0 z1 k0 k1
      intro wq ⟨hq, hqm⟩
      have q0 := hq.c0
      have q1 := hq.c1
      rw [HE.out]
      exact bodyPost_ret (v := .tuple #[.agg #[.slice A5 (giveL h (wholeH h x)).length c5, .slice K5 l.length d5], .int .i64 1]) (by simp [results, Try.results97, go_sem, q0, q1]) rfl hqm
    case false =>
      rw [hmay] at cY
      refine wp_region_quiet_below (by kernel_rfl) (by kernel_rfl) ?_
      repeat (go_big_quiet_step (first | exact cM _ _ | exact cY _ _))
      refine wpQuiet_nil ?_
      intro _ hw'
      obtain ⟨⟨dq, osq⟩, hw''⟩ := hw'
      subst hw''
      have HD : Hid (Below w3.heap.size w3 (Go.Sort.grow (redrawn w3 dq) osq)) := below_regrown w3 dq osq
      generalize hw4 : Go.Sort.grow (redrawn w3 dq) osq = w4 at *
      clear hw4 x0 x1 x2 y0 y1 cM cY
      have X4 := hid (X3.out.below HD.out)
      have P4 := hid (P3.out.below HD.out)
      have R4 := hid (R3.out.below HD.out)
      have HB4 := hid (HB3.out.trans (HD.out.mono HB3.out.size))
      have HRc := hid ((HR.out.below HB4.out).more HB4.out.size)
      have HKc := hid ((HK.out.below HB4.out).more HB4.out.size)
      have y0 := P4.out.c0
      have y1 := P4.out.c1
      have x0 := X4.out.c0
      have x1 := X4.out.c1
      have x2 := X4.out.c2
      have tk1 : Hid (1 = 1) := rfl
      go_wp2_with (first
        | (go_at_call 160; refine (spec_l5Copy A c h K d l w4 HRc.out (by have := L3.out; omega) HKc.out (by have := L4.out; omega)).mono ?_; rintro e w5 ⟨A5, c5, K5, d5, rfl, hA, hK, hne, hb⟩; have HA5 := hid hA; have HK5 := hid hK; have HNE := hid hne; have R5 := hid (R4.out.below hb); have P5 := hid (P4.out.below hb); have X5 := hid (X4.out.below hb); have HB5 := hid (HB4.out.trans (hb.mono HB4.out.size)); have HSZ := hid hb.size; clear hA hK hne hb x0 x1 x2 y0 y1; have Z6 := hid (Row2.lit w5 39 (.slice A5 h.length c5) (.slice K5 l.length d5)); have BA := hid ((Below.refl w5.heap.size w5).alloc (Nat.le_refl _) (.cells #[.slice A5 h.length c5, .slice K5 l.length d5] 39)); have x60 := (X5.out.below BA.out).c0; have x61 := (X5.out.below BA.out).c1; have x62 := (X5.out.below BA.out).c2; have BB := hid (BA.out.alloc (by simp) (.cells #[.int .i64 x.1, .string x.2.1, .int .i64 (wholeM h x)] 49)); have HK6 := hid (HK5.out.below BB.out); have HA6 := hid (HA5.out.below BB.out); have rn := RH.new (w5.alloc (.cells #[.slice A5 h.length c5, .slice K5 l.length d5] 39)) (wholeH h x) 49; rw [World.size_alloc] at rn; have RN := hid rn; clear rn; have Z7 := hid (Z6.out.below ((Below.refl _ _).alloc (Nat.le_refl _) (.cells #[.int .i64 x.1, .string x.2.1, .int .i64 (wholeM h x)] 49))))
        | (clear tk1; at_builtin; refine wpList_append_rh _ rfl _ _ _ rfl i0 Try.underlying37 hi0 hz0 hz1 hz2 w4.heap.size K5 l.length d5 l rfl rfl HK6.out _ (some ⟨w5.heap.size + 1, 0, none⟩) 1 1 [wholeH h x] rfl rfl RN.out (by have := L4.out; simp; omega) (by have := HSZ.out; simp; omega) ?_; intro K8 n8 d8 w8 hn8 hap8; have HN8 := hid hn8; have HAP8 := hid hap8; have Z8 := hid (Z7.out.far hap8.grown (fun k hk => by have := (HK5.out.size k hk).2; omega)); have z80 := Z8.out.c0; have z81 := Z8.out.c1; have zf := Z8.out.fz 1; clear hn8 hap8))
      have PB := hid (HAP8.out.below HK6.out rfl (by have := HSZ.out; simp; omega))
      have PBB := hid (BB.out.mono (B' := w4.heap.size) HSZ.out)
      have P8 := hid ((P5.out.keepB PBB.out (by have := HB4.out.size; have := P4.out.lt; omega)).keepB PB.out (by have := P4.out.lt; omega))
      have R8 := hid ((R5.out.keepB PBB.out (by have := R4.out.lt; omega)).keepB PB.out (by have := R4.out.lt; omega))
      have X8 := hid ((X5.out.keepB PBB.out (by have := (World.ownsRow.lt X4.out (w.heap.size + 1) rfl).2; omega)).keepB PB.out (by have := (World.ownsRow.lt X4.out (w.heap.size + 1) rfl).2; omega))
      have HB8 := hid (HB5.out.trans ((PBB.out.trans PB.out).mono HB4.out.size))
      have A8 := hid (HA6.out.keepG HAP8.out.grown (fun k hk e => HNE.out k hk e.symm))
      have K8o : Hid (OwnH w8 w4.heap.size K8 d8 (l ++ [wholeH h x])) := HAP8.out.own
      have HNK : Hid (∀ k, Value.ownBlock (.slice A5 h.length c5) = some k → Value.ownBlock (.slice K8 (l ++ [wholeH h x]).length d8) ≠ some k) := fun k hk e => by
        rcases HAP8.out.at_ with h | h
        · exact HNE.out k hk (h.symm.trans e)
        · have e2 : some k = some _ := e.symm.trans h
          injection e2 with e2
          have := (HA5.out.size k hk).2
          rw [e2] at this
          simp at this
          omega
      have LTA : Hid (∀ k, Value.ownBlock (.slice A5 h.length c5) = some k → k ≠ w5.heap.size) := fun k hk => by have := (HA5.out.size k hk).2; omega
      have LTK : Hid (∀ k, Value.ownBlock (.slice K8 (l ++ [wholeH h x]).length d8) = some k → k ≠ w5.heap.size) := fun k hk => by
        rcases HAP8.out.at_ with h | h
        · have := (HK5.out.size k (h.symm.trans hk)).2; omega
        · have e : some k = some _ := hk.symm.trans h
          injection e with e
          rw [e]; simp; omega
      have Z9 := hid (Z8.out.s1 (.slice K8 n8 d8))
      have P9 := hid (P8.out.other Z8.out (by have := P4.out.lt; have := HSZ.out; omega) 1 (.slice K8 n8 d8))
      have R9 := hid (R8.out.other Z8.out (by have := R4.out.lt; have := HSZ.out; omega) 1 (.slice K8 n8 d8))
      have X9 := hid (X8.out.other2 Z8.out (by have := (World.ownsRow.lt X4.out (w.heap.size + 1) rfl).2; have := HSZ.out; omega) 1 (.slice K8 n8 d8))
      have A9 := hid (A8.out.set1 LTA.out 1 (.slice K8 n8 d8))
      have K9 := hid (K8o.out.set1 LTK.out 1 (.slice K8 n8 d8))
      have HB9 := hid (HB8.out.setCell (p := ⟨w5.heap.size, 1, none⟩) (by have := HB5.out.size; simp; omega) (.slice K8 n8 d8))
      have HN9 := hid HN8.out
      generalize hw9 : w8.setCell ⟨w5.heap.size, 1, none⟩ (.slice K8 n8 d8) = w9 at *
      generalize hgz : w5.heap.size = gz at *
      clear hw9 hgz x60 x61 x62 z80 z81 zf HAP8 PB PBB P8 R8 X8 A8 K8o LTA LTK Z8 HB8 Z7 Z6 RN BB BA HK6 HA6
      have HLY : Hid (HoldsB (l ++ [wholeH h x])) := fun y hy => by
        rcases List.mem_append.1 hy with hy | hy
        · exact HLB.out y hy
        · rw [List.mem_singleton] at hy; exact hy ▸ HWO.out
      have HRc9 := hid ((HR.out.below HB9.out).more HB9.out.size)
      have HKc9 := hid ((HK.out.below HB9.out).more HB9.out.size)
      have cE : Hid (∀ W, Below w9.heap.size w9 W → Calls Try.prog 93 #[.agg #[.slice A5 h.length c5, .slice K8 n8 d8]] W (ReadE W (edgesL h (l ++ [wholeH h x])))) := fun W hb => by
        have := spec_l5Edges A5 c5 h K8 d8 (l ++ [wholeH h x]) W (A9.out.below hb).rh HHB.out (by have := L3.out; omega) (K9.out.below hb).rh HLY.out (by have := L4.out; simp; omega)
        rw [← HN9.out] at this
        exact this
      have LE : Hid ((edgesL h (l ++ [wholeH h x])).length ≤ 30000) := edgesL_len (by have := L3.out; omega) (by have := L4.out; simp; omega)
      generalize hes : edgesL h (l ++ [wholeH h x]) = es at *
      have HES := hid hes
      clear hes
      have z0 := Z9.out.c0
      have z1 := Z9.out.c1
      have x0 := X9.out.c0
      cases hrd : roundB es x.1
      case true =>
        have cR : Hid (∀ W A c, RE W W.heap.size A es → Calls Try.prog 161 #[.slice A es.length c, .int .i64 x.1] W fun e w' => e = .returned (.bool true) ∧ Below W.heap.size W w') := fun W A c hre => by
          have := spec_l5Round A c es x.1 W hre LE.out
          rw [hrd] at this
          exact this
        have HRD := hid hrd
        clear hrd
        go_region_held3 (fun w' => w'.cell? ⟨gz, 0, none⟩ = some (.slice A5 h.length c5) ∧ w'.cell? ⟨gz, 1, none⟩ = some (.slice K8 n8 d8) ∧ w'.cell? ⟨w.heap.size + 1, 0, none⟩ = some (.int .i64 x.1)) (go_keep)
          (first
            | (go_at_call 93; refine (cE.out _ (Below.refl _ _).drew).mono ?_; rintro e wA ⟨b8, o8, c8, rfl, he, _, _, hb⟩; have HE8 := hid he; have HBA := hid ((Below.refl w9.heap.size w9).drew.trans hb); clear he hb; have za0 := (Z9.out.below HBA.out).c0; have za1 := (Z9.out.below HBA.out).c1; have xa0 := (X9.out.below HBA.out).c0)
            | (go_at_call 161; refine (cR.out _ _ _ HE8.out).mono ?_; rintro e wB ⟨rfl, hb⟩; have HBB := hid (HBA.out.trans (hb.mono HBA.out.size)); clear hb; have zb0 := (Z9.out.below HBB.out).c0; have zb1 := (Z9.out.below HBB.out).c1; have xb0 := (X9.out.below HBB.out).c0)
            | (go_at_call 161; refine (cR.out _ _ _ (HE8.out.below (Below.refl _ _).drew)).mono ?_; rintro e wB ⟨rfl, hb⟩; have HBB := hid (HBA.out.drew.trans (hb.mono HBA.out.size)); clear hb; have zb0 := (Z9.out.below HBB.out).c0; have zb1 := (Z9.out.below HBB.out).c1; have xb0 := (X9.out.below HBB.out).c0))
        clear z0 z1 x0 za0 za1 xa0 xb0
        have PB9 := hid (P9.out.below HBB.out)
        have RB9 := hid (R9.out.below HBB.out)
        have HBf := hid (HB9.out.trans (HBB.out.mono HB9.out.size))
        have yb0 := PB9.out.c0
        have yb1 := PB9.out.c1
        have HE : Hid (askL h l (wholeH h x) = (h, l, 3)) := by
          have h1 := HES.out
          have h2 : roundB es (wholeH h x).1 = true := HRD.out
          rw [Hid, askL, hmay, h1, h2]
          rfl
        go_wp2_with (go_at_call 160; refine (spec_l5Copy A c h K d l wB ((HRc9.out.below HBB.out).more HBB.out.size) (by have := L3.out; omega) ((HKc9.out.below HBB.out).more HBB.out.size) (by have := L4.out; omega)).mono ?_; rintro e wC ⟨A7, c7, K7, d7, rfl, hA, hK, hne, hb⟩; have HA7 := hid hA; have HK7 := hid hK; have HNE7 := hid hne; have R7 := hid (RB9.out.below hb); have HB7 := hid (HBf.out.trans (hb.mono HBf.out.size)); clear hA hK hne hb; have z0 := R7.out.c0; have z1 := R7.out.c1; have k0 := R7.out.fz 0; have k1 := R7.out.fz 1)
        refine world_post (S := fun wq => Row2 wq (w.heap.size + 1 + 1) 39 (.slice A7 h.length c7) (.slice K7 l.length d7) ∧ MadeAs w (h, l, 3) (.returned (.tuple #[.agg #[.slice A7 h.length c7, .slice K7 l.length d7], .int .i64 3])) wq) _
          ⟨(R7.out.s0 _).s1 _, A7, c7, K7, d7, rfl, (HA7.out.two R7.out _ _).mono HBf.out.size, (HK7.out.two R7.out _ _).mono HBf.out.size, HNE7.out, (HB7.out.setCell (by simp; omega) _).setCell (by simp; omega) _⟩ ?_
        clear z0 z1 k0 k1
        intro wq ⟨hq, hqm⟩
        have q0 := hq.c0
        have q1 := hq.c1
        rw [HE.out]
        exact bodyPost_ret (v := .tuple #[.agg #[.slice A7 h.length c7, .slice K7 l.length d7], .int .i64 3]) (by simp [results, Try.results97, go_sem, q0, q1]) rfl hqm
      case false =>
        have cR : Hid (∀ W A c, RE W W.heap.size A es → Calls Try.prog 161 #[.slice A es.length c, .int .i64 x.1] W fun e w' => e = .returned (.bool false) ∧ Below W.heap.size W w') := fun W A c hre => by
          have := spec_l5Round A c es x.1 W hre LE.out
          rw [hrd] at this
          exact this
        have HRD := hid hrd
        clear hrd
        go_region_held3 (fun w' => w'.cell? ⟨gz, 0, none⟩ = some (.slice A5 h.length c5) ∧ w'.cell? ⟨gz, 1, none⟩ = some (.slice K8 n8 d8) ∧ w'.cell? ⟨w.heap.size + 1, 0, none⟩ = some (.int .i64 x.1)) (go_keep)
          (first
            | (go_at_call 93; refine (cE.out _ (Below.refl _ _).drew).mono ?_; rintro e wA ⟨b8, o8, c8, rfl, he, _, _, hb⟩; have HE8 := hid he; have HBA := hid ((Below.refl w9.heap.size w9).drew.trans hb); clear he hb; have za0 := (Z9.out.below HBA.out).c0; have za1 := (Z9.out.below HBA.out).c1; have xa0 := (X9.out.below HBA.out).c0)
            | (go_at_call 161; refine (cR.out _ _ _ HE8.out).mono ?_; rintro e wB ⟨rfl, hb⟩; have HBB := hid (HBA.out.trans (hb.mono HBA.out.size)); clear hb; have zb0 := (Z9.out.below HBB.out).c0; have zb1 := (Z9.out.below HBB.out).c1; have xb0 := (X9.out.below HBB.out).c0)
            | (go_at_call 161; refine (cR.out _ _ _ (HE8.out.below (Below.refl _ _).drew)).mono ?_; rintro e wB ⟨rfl, hb⟩; have HBB := hid (HBA.out.drew.trans (hb.mono HBA.out.size)); clear hb; have zb0 := (Z9.out.below HBB.out).c0; have zb1 := (Z9.out.below HBB.out).c1; have xb0 := (X9.out.below HBB.out).c0))
        clear z0 z1 x0 za0 za1 xa0 xb0
        have PB9 := hid (P9.out.below HBB.out)
        have RB9 := hid (R9.out.below HBB.out)
        have HBf := hid (HB9.out.trans (HBB.out.mono HB9.out.size))
        have yb0 := PB9.out.c0
        have yb1 := PB9.out.c1
        have HE : Hid (askL h l (wholeH h x) = (h, l ++ [wholeH h x], 2)) := by
          have h1 := HES.out
          have h2 : roundB es (wholeH h x).1 = false := HRD.out
          rw [Hid, askL, hmay, h1, h2]
          rfl
        have AB9 := hid (A9.out.below HBB.out)
        have KB9 := hid (K9.out.below HBB.out)
        have z0 := RB9.out.c0
        have z1 := RB9.out.c1
        have k0 := RB9.out.fz 0
        have k1 := RB9.out.fz 1
        go_wp2_with fail
        have e8 : n8 = (l ++ [wholeH h x]).length := HN9.out
        subst e8
        refine world_post (S := fun wq => Row2 wq (w.heap.size + 1 + 1) 39 (.slice A5 h.length c5) (.slice K8 (l ++ [wholeH h x]).length d8) ∧ MadeAs w (h, (l ++ [wholeH h x]), 2) (.returned (.tuple #[.agg #[.slice A5 h.length c5, .slice K8 (l ++ [wholeH h x]).length d8], .int .i64 2])) wq) _
          ⟨(RB9.out.s0 _).s1 _, A5, c5, K8, d8, rfl, (AB9.out.two RB9.out _ _).mono HB4.out.size, (KB9.out.two RB9.out _ _).mono HB4.out.size, HNK.out, (HBf.out.setCell (by simp; omega) _).setCell (by simp; omega) _⟩ ?_
        clear z0 z1 k0 k1
        intro wq ⟨hq, hqm⟩
        have q0 := hq.c0
        have q1 := hq.c1
        rw [HE.out]
        exact bodyPost_ret (v := .tuple #[.agg #[.slice A5 h.length c5, .slice K8 (l ++ [wholeH h x]).length d8], .int .i64 2]) (by simp [results, Try.results97, go_sem, q0, q1]) rfl hqm
  -- WALK-END
end Go.Proofs.Ytjdmaoegfpgfjaa
namespace Go.Proofs.Ytjdmaoegfpgfjaa
open Go.RowKit

theorem askR_no {h l : HS} {x : HD} (e : askOk h l x = false) : askR h l x = ([], [], 4) := by rw [askR, e]; rfl
theorem askR_yes {h l : HS} {x : HD} (e : askOk h l x = true) : askR h l x = askL h l (wholeH h x) := by rw [askR, e]; rfl
theorem askOk_not {h l : HS} {x : HD} (e : ¬ (locksB h l = true ∧ holdB x = true ∧ (l.any fun y => decide (y.1 = x.1)) = false ∧ h.length < 100 ∧ l.length < 20)) : askOk h l x = false := by
  cases h1 : askOk h l x
  · rfl
  · exact absurd (askOk_iff.1 h1) e

set_option maxHeartbeats 4000000 in
set_option maxRecDepth 100000 in
theorem spec_Ask (A : Option Addr) (c : Nat) (h : HS) (K : Option Addr) (d : Nat) (l : HS) (x : HD) (w : World) (hr : RH w w.heap.size A h) (hf : FitsH h) (hn : h.length ≤ maxLen) (hr' : RH w w.heap.size K l) (hf' : FitsH l) (hn' : l.length ≤ maxLen) (hx : x.2.1.size ≤ maxLen) :
    Calls Try.prog 39 #[.agg #[.slice A h.length c, .slice K l.length d], .agg #[.int .i64 x.1, .string x.2.1, .int .i64 x.2.2]] w (MadeAs w (askR h l x)) := by
  have HB := hid (ask_box2 w (.slice A h.length c) (.slice K l.length d) x (.cells #[.slice none 0 0, .slice none 0 0] 39))
  have r0 := Row2.lit ((w.alloc (.cells #[.slice A h.length c, .slice K l.length d] 39)).alloc (.cells #[.int .i64 x.1, .string x.2.1, .int .i64 x.2.2] 49)) 39 (.slice none 0 0) (.slice none 0 0)
  simp only [World.size_alloc] at r0
  have R := hid r0
  have HR := hid hr
  have HK := hid hr'
  have HF := hid hf
  have HG := hid hf'
  have HN := hid hn
  have HM := hid hn'
  have HX := hid hx
  clear hr hr' r0 hf hf' hn hn' hx
  go_enter Try.func39, Try.ntmps39
  go_wp2_with fail
  generalize hw1 : ((w.alloc (.cells #[.slice A h.length c, .slice K l.length d] 39)).alloc (.cells #[.int .i64 x.1, .string x.2.1, .int .i64 x.2.2] 49)).alloc (.cells #[.slice none 0 0, .slice none 0 0] 39) = w1 at *
  clear hw1
  refine (spec_LocksOk A c h K d l w1 ((HR.out.below HB.out.b).more HB.out.b.size) HF.out HN.out ((HK.out.below HB.out.b).more HB.out.b.size) HG.out HM.out).mono ?_
  rintro e w2 ⟨rfl, hb2⟩
  have HB2 := hid (HB.out.next hb2)
  have R2 := hid (R.out.below hb2)
  clear hb2 HB R
  have y0 := HB2.out.p.c0
  have y1 := HB2.out.p.c1
  have x0 := HB2.out.x.c0
  have x1 := HB2.out.x.c1
  have x2 := HB2.out.x.c2
  have k0 := R2.out.fz 0
  have k1 := R2.out.fz 1
  have z0 := R2.out.c0
  have z1 := R2.out.c1
  have HB2b := hid HB2.out.b
  cases hlk : locksB h l
  case false =>
    have HE := hid (askR_no (x := x) (askOk_not (h := h) (l := l) (fun p => by rw [hlk] at p; cases p.1)))
    go_wp2_with fail
    have U1 := R2.out.s0 (.slice none 0 0)
    refine world_post (S := fun wq => Row2 wq (w.heap.size + 1 + 1) 39 (.slice none 0 0) (.slice none 0 0) ∧ Below w.heap.size w wq) _ ⟨U1.s1 _, (HB2b.out.setCell (by simp; omega) _).setCell (by simp; omega) _⟩ ?_
    clear k0 k1 z0 z1 U1
    intro wq ⟨hq, hqb⟩
    have q0 := hq.c0
    have q1 := hq.c1
    rw [HE.out]
    exact bodyPost_ret (v := .tuple #[.agg #[.slice none 0 0, .slice none 0 0], .int .i64 4]) (by simp [results, Try.results39, go_sem, q0, q1]) rfl ⟨none, 0, none, 0, rfl, OwnH.nil_ _ _, OwnH.nil_ _ _, (fun _ h _ => by cases h), hqb⟩
  case true =>
    have HLK := hid hlk
    have HL := hid (locksB_iff.1 hlk)
    go_wp2_with fail
    refine (spec_l5Hold x w2 HX.out).mono ?_
    rintro e w3 ⟨rfl, hb3⟩
    have HB3 := hid (HB2.out.next hb3)
    have R3 := hid (R2.out.below hb3)
    have HB3b := hid HB3.out.b
    clear hb3 y0 y1 x0 x1 x2 k0 k1 z0 z1 HB2 HB2b R2
    have y0 := HB3.out.p.c0
    have y1 := HB3.out.p.c1
    have x0 := HB3.out.x.c0
    have x1 := HB3.out.x.c1
    have x2 := HB3.out.x.c2
    have k0 := R3.out.fz 0
    have k1 := R3.out.fz 1
    have z0 := R3.out.c0
    have z1 := R3.out.c1
    cases hho : holdB x
    case false =>
      have HE := hid (askR_no (x := x) (askOk_not (h := h) (l := l) (fun p => by rw [hho] at p; cases p.2.1)))
      go_wp2_with fail
      have U1 := R3.out.s0 (.slice none 0 0)
      refine world_post (S := fun wq => Row2 wq (w.heap.size + 1 + 1) 39 (.slice none 0 0) (.slice none 0 0) ∧ Below w.heap.size w wq) _ ⟨U1.s1 _, (HB3b.out.setCell (by simp; omega) _).setCell (by simp; omega) _⟩ ?_
      clear k0 k1 z0 z1 U1
      intro wq ⟨hq, hqb⟩
      have q0 := hq.c0
      have q1 := hq.c1
      rw [HE.out]
      exact bodyPost_ret (v := .tuple #[.agg #[.slice none 0 0, .slice none 0 0], .int .i64 4]) (by simp [results, Try.results39, go_sem, q0, q1]) rfl ⟨none, 0, none, 0, rfl, OwnH.nil_ _ _, OwnH.nil_ _ _, (fun _ h _ => by cases h), hqb⟩
    case true =>
      have HHO := hid hho
      by_cases h100 : (h.length : Int) = 100
      · have HE := hid (askR_no (x := x) (askOk_not (h := h) (l := l) (fun p => by omega)))
        have g1 := eqI_true h100
        clear h100
        go_wp2_with fail
        have U1 := R3.out.s0 (.slice none 0 0)
        refine world_post (S := fun wq => Row2 wq (w.heap.size + 1 + 1) 39 (.slice none 0 0) (.slice none 0 0) ∧ Below w.heap.size w wq) _ ⟨U1.s1 _, (HB3b.out.setCell (by simp; omega) _).setCell (by simp; omega) _⟩ ?_
        clear k0 k1 z0 z1 U1
        intro wq ⟨hq, hqb⟩
        have q0 := hq.c0
        have q1 := hq.c1
        rw [HE.out]
        exact bodyPost_ret (v := .tuple #[.agg #[.slice none 0 0, .slice none 0 0], .int .i64 4]) (by simp [results, Try.results39, go_sem, q0, q1]) rfl ⟨none, 0, none, 0, rfl, OwnH.nil_ _ _, OwnH.nil_ _ _, (fun _ h _ => by cases h), hqb⟩
      · by_cases h20 : (l.length : Int) = 20
        · have HE := hid (askR_no (x := x) (askOk_not (h := h) (l := l) (fun p => by omega)))
          have g1 := eqI_false h100
          have g2 := eqI_true h20
          clear h100 h20
          go_wp2_with fail
          have U1 := R3.out.s0 (.slice none 0 0)
          refine world_post (S := fun wq => Row2 wq (w.heap.size + 1 + 1) 39 (.slice none 0 0) (.slice none 0 0) ∧ Below w.heap.size w wq) _ ⟨U1.s1 _, (HB3b.out.setCell (by simp; omega) _).setCell (by simp; omega) _⟩ ?_
          clear k0 k1 z0 z1 U1
          intro wq ⟨hq, hqb⟩
          have q0 := hq.c0
          have q1 := hq.c1
          rw [HE.out]
          exact bodyPost_ret (v := .tuple #[.agg #[.slice none 0 0, .slice none 0 0], .int .i64 4]) (by simp [results, Try.results39, go_sem, q0, q1]) rfl ⟨none, 0, none, 0, rfl, OwnH.nil_ _ _, OwnH.nil_ _ _, (fun _ h _ => by cases h), hqb⟩
        · have HL1 : Hid (h.length < 100) := by have := HL.out.2.2.1; rw [Hid]; omega
          have HL2 : Hid (l.length < 20) := by have := HL.out.2.2.2; rw [Hid]; omega
          have g1 := eqI_false h100
          have g2 := eqI_false h20
          have hl20 : l.length < 20 := HL2.out
          clear h100 h20
          go_wp2_with fail
          clear g1 g2 x0 x1 x2 y0 y1 z0 z1 k0 k1
          go_loopw [6] (fun i wr => ∃ k : Nat, k ≤ l.length ∧ i = .int .i64 (k : Int) ∧ noneH l (fun y => decide (y.1 = x.1)) k ∧ Drawn w3 wr) (fun i _ => l.length - (intOf i).toNat)
          case atStart => exact ⟨0, Nat.zero_le _, rfl, fun i hi hk => absurd hk (by omega), Drawn.refl _⟩
          case round =>
            obtain ⟨k, hk, rfl, hnt, hdr⟩ := hrel
            have HD := hid (hdr.below w3.heap.size)
            have HDR := hid hdr
            have P4 := hid (HB3.out.p.below HD.out)
            have X4 := hid (HB3.out.x.below HD.out)
            have R4 := hid (R3.out.below HD.out)
            have HB4 := hid (HB3b.out.trans (HD.out.mono HB3b.out.size))
            clear hdr
            have y0 := P4.out.c0
            have y1 := P4.out.c1
            have x0 := X4.out.c0
            by_cases hlt : k < l.length
            · obtain ⟨b, off, rfl, hb, hc1, hc2, hc3⟩ := (HK.out.below HB4.out).at_ hlt
              have HS := hid (noneH_succ hnt hlt)
              have e5 : (0 : Int) ≤ (k : Int) := by omega
              have e6 : (k : Int) < (l.length : Int) := by omega
              clear hnt
              by_cases h1 : l[k].1 = x.1
              · have HE := hid (askR_no (x := x) (askOk_not (h := h) (l := l) (fun p => by have := List.any_eq_false.1 p.2.2.1 _ (List.getElem_mem hlt); simp only [decide_eq_true_eq] at this; exact this h1)))
                have g1 := eqI_true h1
                clear h1
                have k0 := R4.out.fz 0
                have k1 := R4.out.fz 1
                have z0 := R4.out.c0
                have z1 := R4.out.c1
                go_wp2_with fail
                go_quiet (fail)
                have HD5 : Hid (Below wr.heap.size wr (wr.drewN nq)) := ⟨rfl, rfl, rfl, Nat.le_refl _, fun _ _ => rfl⟩
                have R5 := hid (R4.out.below HD5.out)
                have HB5 := hid (HB4.out.trans (HD5.out.mono HB4.out.size))
                clear k0 k1 z0 z1 x0 y0 y1 hc1 hc2 hc3
                generalize hw5 : wr.drewN nq = w5 at *
                clear hw5
                have k0 := R5.out.fz 0
                have k1 := R5.out.fz 1
                have z0 := R5.out.c0
                have z1 := R5.out.c1
                go_wp2_with fail
                have U1 := R5.out.s0 (.slice none 0 0)
                refine world_post (S := fun wq => Row2 wq (w.heap.size + 1 + 1) 39 (.slice none 0 0) (.slice none 0 0) ∧ Below w.heap.size w wq) _ ⟨U1.s1 _, (HB5.out.setCell (by simp; omega) _).setCell (by simp; omega) _⟩ ?_
                clear k0 k1 z0 z1 U1
                intro wq ⟨hq, hqb⟩
                have q0 := hq.c0
                have q1 := hq.c1
                rw [HE.out]
                exact bodyPost_ret (v := .tuple #[.agg #[.slice none 0 0, .slice none 0 0], .int .i64 4]) (by simp [results, Try.results39, go_sem, q0, q1]) rfl ⟨none, 0, none, 0, rfl, OwnH.nil_ _ _, OwnH.nil_ _ _, (fun _ h _ => by cases h), hqb⟩
              · have g1 := eqI_false h1
                have HE := hid (HS.out (decide_eq_false h1))
                clear h1
                go_wp2_with fail
                go_quiet (fail)
                go_wp2_with fail
                go_roundw
                case rel => exact ⟨k + 1, by omega, by go_num, HE.out, HDR.out.drewN _⟩
                case measure => simp [intOf]; omega
            · obtain rfl : k = l.length := by omega
              have HOK := hid (askOk_iff.2 ⟨HLK.out, HHO.out, noneH_end hnt, HL1.out, HL2.out⟩)
              have HE := hid (askR_yes HOK.out)
              have x1 := X4.out.c1
              have x2 := X4.out.c2
              clear hnt
              go_wp2_with (go_at_call 97; refine (spec_l5Ask A c h K d l x wr ((HR.out.below HB4.out).more HB4.out.size) ((HK.out.below HB4.out).more HB4.out.size) HLK.out HHO.out).mono ?_; rintro e w5 ⟨A5, c5, K5, d5, rfl, hA, hK, hne, hb5⟩; have HA5 := hid hA; have HK5 := hid hK; have HNE := hid hne; have R5 := hid (R4.out.below hb5); have HB5 := hid (HB4.out.trans (hb5.mono HB4.out.size)); clear hA hK hne hb5 x0 x1 x2 y0 y1; have k0 := R5.out.fz 0; have k1 := R5.out.fz 1; have z0 := R5.out.c0; have z1 := R5.out.c1; generalize hres : askL h l (wholeH h x) = res at *)
              go_wp2_with fail
              refine world_post (S := fun wq => Row2 wq (w.heap.size + 1 + 1) 39 (.slice A5 res.1.length c5) (.slice K5 res.2.1.length d5) ∧ MadeAs w res (.returned (.tuple #[.agg #[.slice A5 res.1.length c5, .slice K5 res.2.1.length d5], .int .i64 res.2.2])) wq) _
                ⟨(R5.out.s0 _).s1 _, A5, c5, K5, d5, rfl, (HA5.out.two R5.out _ _).mono HB4.out.size, (HK5.out.two R5.out _ _).mono HB4.out.size, HNE.out, (HB5.out.setCell (by simp; omega) _).setCell (by simp; omega) _⟩ ?_
              clear k0 k1 z0 z1
              intro wq ⟨hq, hqm⟩
              have q0 := hq.c0
              have q1 := hq.c1
              rw [HE.out]
              exact bodyPost_ret (v := .tuple #[.agg #[.slice A5 res.1.length c5, .slice K5 res.2.1.length d5], .int .i64 res.2.2]) (by simp [results, Try.results39, go_sem, q0, q1]) rfl hqm
end Go.Proofs.Ytjdmaoegfpgfjaa
