/-
  The model's Ask: what one that asks is told.
-/
import Derived.Test.YtepgcflkgicpiaaFreeS3
import Derived.Test.YtepgcflkgicpiaaEdgeS2
import Derived.Test.YtepgcflkgicpiaaRoundS
namespace Go.Proofs.Ytepgcflkgicpiaa
open Go.RowKit

theorem mineV_whole {h : HS} {x : HD} (hh : HoldsB h) (e : (h.any fun y => ownB y x) = true) : modeB (mineV h x) = true ∧ wholeM h x = joinB (mineV h x) x.2.2 := by
  cases hf : h.find? (fun y => ownB y x) with
  | none =>
    have h2 := List.find?_eq_none.1 hf
    obtain ⟨y, hy, e'⟩ := List.any_eq_true.1 e
    exact absurd e' (h2 y hy)
  | some y =>
    rw [mineV, wholeM, hf]
    exact ⟨holdB_mode (hh y (List.mem_of_find?_eq_some hf)), rfl⟩
/-- What is made ahead: the locks, the one that asks, and place for the answer. -/
structure AskBox (w w1 : World) (L1 L2 : Value) (x : HD) : Prop where
  p : Row2 w1 w.heap.size 28 L1 L2
  x : Row3 w1 (w.heap.size + 1) 48 (.int .i64 x.1) (.string x.2.1) (.int .i64 x.2.2)
  b : Below w.heap.size w w1
theorem ask_box2 (w : World) (L1 L2 : Value) (x : HD) (o : Obj) : AskBox w (((w.alloc (.cells #[L1, L2] 28)).alloc (.cells #[.int .i64 x.1, .string x.2.1, .int .i64 x.2.2] 48)).alloc o) L1 L2 x := by
  have a0 := Row2.lit w 28 L1 L2
  have a1 := Row3.lit (w.alloc (.cells #[L1, L2] 28)) 48 (.int .i64 x.1) (.string x.2.1) (.int .i64 x.2.2)
  simp only [World.size_alloc] at a1
  exact ⟨(a0.below ((Below.refl _ _).alloc (Nat.le_refl _) _)).below ((Below.refl _ _).alloc (Nat.le_refl _) _), a1.below ((Below.refl _ _).alloc (Nat.le_refl _) _), below3 (Below.refl _ _) (Nat.le_refl _)⟩
theorem AskBox.next {w w1 w2 : World} {L1 L2 : Value} {x : HD} (h : AskBox w w1 L1 L2 x) (hb : Below w1.heap.size w1 w2) : AskBox w w2 L1 L2 x := ⟨h.p.below hb, h.x.below hb, h.b.trans (hb.mono h.b.size)⟩

set_option maxHeartbeats 1000000 in
set_option maxRecDepth 100000 in
theorem spec_l5Whole (A : Option Addr) (c : Nat) (h : HS) (K : Option Addr) (m d : Nat) (x : HD) (w : World) (hr : RH w w.heap.size A h) (hn : h.length ≤ maxLen) (hh : HoldsB h) (hx : modeB x.2.2 = true) :
    Calls Try.prog 147 #[.agg #[.slice A h.length c, .slice K m d], .agg #[.int .i64 x.1, .string x.2.1, .int .i64 x.2.2]] w fun e w' => e = .returned (.agg #[.int .i64 x.1, .string x.2.1, .int .i64 (wholeM h x)]) ∧ Below w.heap.size w w' := by
  have HB := hid (ask_box2 w (.slice A h.length c) (.slice K m d) x (.cells #[.int .i64 0, .string ⟨#[]⟩, .int .i64 0] 48))
  have r0 := Row3.lit ((w.alloc (.cells #[.slice A h.length c, .slice K m d] 28)).alloc (.cells #[.int .i64 x.1, .string x.2.1, .int .i64 x.2.2] 48)) 48 (.int .i64 0) (.string ⟨#[]⟩) (.int .i64 0)
  simp only [World.size_alloc] at r0
  have R := hid r0
  have HR := hid hr
  have HN := hid hn
  have HH := hid hh
  clear hr hn r0 hh
  go_enter Try.func147, Try.ntmps147
  go_wp2_with fail
  generalize hw1 : ((w.alloc (.cells #[.slice A h.length c, .slice K m d] 28)).alloc (.cells #[.int .i64 x.1, .string x.2.1, .int .i64 x.2.2] 48)).alloc (.cells #[.int .i64 0, .string ⟨#[]⟩, .int .i64 0] 48) = w1 at *
  clear hw1
  have HRb := hid ((HR.out.below HB.out.b).more HB.out.b.size)
  refine (spec_l5Mine A c h K m d x w1 HRb.out HN.out).mono ?_
  rintro e w2 ⟨rfl, hb2⟩
  have HB2 := hid (HB.out.next hb2)
  have R2 := hid (R.out.below hb2)
  clear hb2
  have x0 := HB2.out.x.c0
  have x1 := HB2.out.x.c1
  have x2 := HB2.out.x.c2
  have f2 := HB2.out.x.fz 2
  have k0 := R2.out.fz 0
  have k1 := R2.out.fz 1
  have k2 := R2.out.fz 2
  have z0 := R2.out.c0
  have z1 := R2.out.c1
  have z2 := R2.out.c2
  cases ho : h.any fun y => ownB y x
  case false =>
    have HM : Hid (mineV h x = 0) := mineV_none ho
    have HW : Hid (wholeM h x = x.2.2) := wholeM_none ho
    rw [HM.out]
    go_wp2_with fail
    refine world_post (S := fun wq => Row3 wq (w.heap.size + 2) 48 (.int .i64 x.1) (.string x.2.1) (.int .i64 x.2.2) ∧ Below w.heap.size w wq) _ ⟨((R2.out.s0 _).s1 _).s2 _, ((HB2.out.b.setCell (by simp; omega) _).setCell (by simp; omega) _).setCell (by simp; omega) _⟩ ?_
    clear x0 x1 x2 f2 k0 k1 k2 z0 z1 z2
    intro wq ⟨hq, hqb⟩
    have q0 := hq.c0
    have q1 := hq.c1
    have q2 := hq.c2
    rw [HW.out]
    exact bodyPost_ret (v := .agg #[.int .i64 x.1, .string x.2.1, .int .i64 x.2.2]) (by simp [results, Try.results147, go_sem, q0, q1, q2]) rfl ⟨rfl, hqb⟩
  case true =>
    obtain ⟨hm, hw⟩ := mineV_whole HH.out ho
    have HJ := hid (spec_l5Both (mineV h x) x.2.2 w2 hm hx)
    have hpos : (0 : Int) < mineV h x := mineV_some HH.out ho
    have HW : Hid (wholeM h x = joinB (mineV h x) x.2.2) := hw
    have X3 := hid (HB2.out.x.s2 (.int .i64 (joinB (mineV h x) x.2.2)))
    have R3 := hid (R2.out.other HB2.out.x (by omega) 2 (.int .i64 (joinB (mineV h x) x.2.2)))
    have HB3 := hid (HB2.out.b.setCell (p := ⟨w.heap.size + 1, 2, none⟩) (by simp) (.int .i64 (joinB (mineV h x) x.2.2)))
    clear hm hw
    go_wp2_with (go_at_call 183; refine HJ.out.mono ?_; rintro e w' ⟨rfl, rfl⟩; have x30 := X3.out.c0; have x31 := X3.out.c1; have x32 := X3.out.c2; have k30 := R3.out.fz 0; have k31 := R3.out.fz 1; have k32 := R3.out.fz 2; have z30 := R3.out.c0; have z31 := R3.out.c1; have z32 := R3.out.c2)
    refine world_post (S := fun wq => Row3 wq (w.heap.size + 2) 48 (.int .i64 x.1) (.string x.2.1) (.int .i64 (joinB (mineV h x) x.2.2)) ∧ Below w.heap.size w wq) _ ⟨((R3.out.s0 _).s1 _).s2 _, ((HB3.out.setCell (by simp; omega) _).setCell (by simp; omega) _).setCell (by simp; omega) _⟩ ?_
    intro wq ⟨hq, hqb⟩
    have q0 := hq.c0
    have q1 := hq.c1
    have q2 := hq.c2
    rw [HW.out]
    exact bodyPost_ret (v := .agg #[.int .i64 x.1, .string x.2.1, .int .i64 (joinB (mineV h x) x.2.2)]) (by simp [results, Try.results147, go_sem, q0, q1, q2]) rfl ⟨rfl, hqb⟩

theorem OwnH.two {w : World} {B c g : Nat} {A : Option Addr} {hs : HS} {a b : Value} (h : OwnH w B A c hs) (R : Row2 w g 28 a b) (u v : Value) : OwnH ((w.setCell ⟨g, 0, none⟩ u).setCell ⟨g, 1, none⟩ v) B A c hs :=
  (h.stay (w' := w.setCell ⟨g, 0, none⟩ u) (fun q hq => heap_setCell_other _ _ q _ (fun e => own_ne (by decide) h R q hq (by rw [e]; rfl)))).stay (fun q hq => heap_setCell_other _ _ q _ (fun e => own_ne (by decide) h R q hq (by rw [e]; rfl)))
theorem copy_fst {w1 W w5 : World} {B p q c5 : Nat} {A5 : Option Addr} {h : HS} (hap : AppH W B (some ⟨p, 0, none⟩) 0 0 ([] ++ h) A5 c5 w5) (hb : Below B w1 W) (h0 : OwnH W B (some ⟨p, 0, none⟩) 0 []) (h1 : OwnH W B (some ⟨q, 0, none⟩) 0 []) (hne : q ≠ p) (hB : B ≤ W.heap.size) :
    Below B w1 w5 ∧ OwnH w5 B A5 c5 h ∧ OwnH w5 B (some ⟨q, 0, none⟩) 0 [] ∧ (∀ k, Value.ownBlock (.slice A5 h.length c5) = some k → k ≠ q) := by
  have hq := (h1.size q rfl).2
  refine ⟨hb.trans (hap.below h0 rfl hB), hap.own, h1.keepG hap.grown (fun k hk e => ?_), fun k hk e => ?_⟩
  · injection hk with hk
    injection e with e
    exact hne (hk.trans e)
  · rcases hap.at_ with h | h
    · have : some k = some p := hk.symm.trans h
      injection this with this
      exact hne (e.symm.trans this)
    · have : some k = some W.heap.size := hk.symm.trans h
      injection this with this
      omega
theorem copy_snd {W w8 : World} {B q c5 c8 : Nat} {A5 A8 : Option Addr} {h l : HS} (hap : AppH W B (some ⟨q, 0, none⟩) 0 0 ([] ++ l) A8 c8 w8) (h0 : OwnH W B (some ⟨q, 0, none⟩) 0 []) (hA : OwnH W B A5 c5 h) (hne : ∀ k, Value.ownBlock (.slice A5 h.length c5) = some k → k ≠ q) (hB : B ≤ W.heap.size) :
    Below B W w8 ∧ OwnH w8 B A8 c8 l ∧ OwnH w8 B A5 c5 h ∧ (∀ k, Value.ownBlock (.slice A5 h.length c5) = some k → Value.ownBlock (.slice A8 l.length c8) ≠ some k) :=
  ⟨hap.below h0 rfl hB, hap.own, hA.keepG hap.grown (fun k hk e => by injection e with e; exact hne k hk e), fun k hk e => by
    rcases hap.at_ with h | h
    · have : some k = some q := e.symm.trans h
      injection this with this
      exact hne k hk this
    · have : some k = some W.heap.size := e.symm.trans h
      injection this with this
      have := (hA.size k hk).2
      omega⟩
theorem two_new (w : World) : OwnH ((w.alloc (.cells #[] 48)).alloc (.cells #[] 48)) w.heap.size (some ⟨w.heap.size, 0, none⟩) 0 [] ∧ OwnH ((w.alloc (.cells #[] 48)).alloc (.cells #[] 48)) w.heap.size (some ⟨w.heap.size + 1, 0, none⟩) 0 [] ∧ Below w.heap.size w ((w.alloc (.cells #[] 48)).alloc (.cells #[] 48)) := by
  have h0 := OwnH.made (w := w) (Nat.le_refl _) #[] 0 rfl (Nat.zero_le _)
  have h1 := OwnH.made (w := w.alloc (.cells #[] 48)) (B := w.heap.size) (by simp) #[] 0 rfl (Nat.zero_le _)
  rw [World.size_alloc] at h1
  exact ⟨h0.below ((Below.refl _ _).alloc (Nat.le_refl _) _), h1, ((Below.refl _ _).alloc (Nat.le_refl _) _).alloc (by simp) _⟩

set_option maxHeartbeats 2000000 in
set_option maxRecDepth 100000 in
theorem spec_l5Copy (A : Option Addr) (c : Nat) (h : HS) (K : Option Addr) (d : Nat) (l : HS) (w : World) (hr : RH w w.heap.size A h) (hn : h.length ≤ 1000) (hr' : RH w w.heap.size K l) (hn' : l.length ≤ 1000) :
    Calls Try.prog 148 #[.agg #[.slice A h.length c, .slice K l.length d]] w (MadeLn w h l) := by
  obtain ⟨i0, hi0, hz0, hz1, hz2⟩ := info_parts holdInfo
  have a0 := Row2.lit w 28 (.slice A h.length c) (.slice K l.length d)
  have a1 := Row2.lit (w.alloc (.cells #[.slice A h.length c, .slice K l.length d] 28)) 28 (.slice none 0 0) (.slice none 0 0)
  have b0 := a0.below ((Below.refl _ _).alloc (Nat.le_refl _) (.cells #[.slice none 0 0, .slice none 0 0] 28))
  simp only [World.size_alloc] at a1
  have P := hid b0
  have R := hid a1
  have hb1 : Below w.heap.size w ((w.alloc (.cells #[.slice A h.length c, .slice K l.length d] 28)).alloc (.cells #[.slice none 0 0, .slice none 0 0] 28)) := ((Below.refl _ _).alloc (Nat.le_refl _) _).alloc (by simp) _
  have HB := hid hb1
  have HR := hid ((hr.below hb1).more hb1.size)
  have HR2 := hid ((hr'.below hb1).more hb1.size)
  clear a0 a1 b0 hb1 hr hr'
  go_enter Try.func148, Try.ntmps148
  go_wp2_with fail
  generalize hw1 : (w.alloc (.cells #[.slice A h.length c, .slice K l.length d] 28)).alloc (.cells #[.slice none 0 0, .slice none 0 0] 28) = w1 at *
  clear hw1
  have y0 := P.out.c0
  have y1 := P.out.c1
  have k0 := R.out.fz 0
  have k1 := R.out.fz 1
  have BA := hid ((Below.refl w1.heap.size w1).alloc (Nat.le_refl _) (.cells #[] 48))
  have O0 := hid (OwnH.made (w := w1) (Nat.le_refl _) #[] 0 rfl (Nat.zero_le _))
  obtain ⟨e0, e1, e2⟩ := two_new w1
  have E0 := hid e0
  have E1 := hid e1
  have BA2 := hid e2
  clear e0 e1 e2
  go_region_held3 (fun w' => w'.cell? ⟨w.heap.size, 0, none⟩ = some (.slice A h.length c) ∧ w'.cell? ⟨w.heap.size, 1, none⟩ = some (.slice K l.length d)) (go_keep)
    (first
      | (refine step_append_rh _ (by rfl) _ _ _ (by rfl) i0 Try.underlying26 hi0 hz0 hz1 hz2 w1.heap.size (some ⟨w1.heap.size, 0, none⟩) 0 0 [] (by rfl) rfl O0.out w1.heap.size A h.length c h (by rfl) rfl ((HR.out.below BA.out).more (Nat.le_refl _)) (by simp; omega) (by first | exact HB5.out.size | (simp; done) | (simp; omega)) ?_; intro A5 n5 c5 w5 hn5 hap5; have HN5 := hid hn5; have HB5 : Hid (Below w1.heap.size w1 w5) := BA.out.drew.trans (hap5.below O0.out rfl (by simp)); have HO5 : Hid (OwnH w5 w1.heap.size A5 c5 h) := hap5.own; have y50 := (P.out.below HB5.out).c0; have y51 := (P.out.below HB5.out).c1; have O5 := hid (OwnH.made (w := w5) (Nat.le_refl _) #[] 0 rfl (Nat.zero_le _)); have BA5 := hid ((Below.refl w5.heap.size w5).alloc (Nat.le_refl _) (.cells #[] 48)); have HR5 := hid ((HR2.out.below HB5.out).more HB5.out.size); clear hn5 hap5)
      | (refine step_append_rh _ (by rfl) _ _ _ (by rfl) i0 Try.underlying26 hi0 hz0 hz1 hz2 w1.heap.size (some ⟨w1.heap.size, 0, none⟩) 0 0 [] (by rfl) rfl E0.out w1.heap.size A h.length c h (by rfl) rfl ((HR.out.below BA2.out).more (Nat.le_refl _)) (by simp; omega) (by first | exact HB5.out.size | (simp; done) | (simp; omega)) ?_; intro A5 n5 c5 w5 hn5 hap5; obtain ⟨hx1, hx2, hx3, hx4⟩ := copy_fst hap5 (by first | exact BA2.out | exact BA2.out.drew) E0.out E1.out (by omega) (by simp <;> omega); have HN5 := hid hn5; have HB5 := hid hx1; have HO5 := hid hx2; have O5 := hid hx3; have HE5 := hid hx4; have y50 := (P.out.below HB5.out).c0; have y51 := (P.out.below HB5.out).c1; have HR5 := hid ((HR2.out.below HB5.out).more HB5.out.size); clear hn5 hap5 hx1 hx2 hx3 hx4)
      | (refine step_append_rh _ (by rfl) _ _ _ (by rfl) i0 Try.underlying26 hi0 hz0 hz1 hz2 w1.heap.size (some ⟨w1.heap.size + 1, 0, none⟩) 0 0 [] (by rfl) rfl E1.out w1.heap.size A h.length c h (by rfl) rfl ((HR.out.below BA2.out).more (Nat.le_refl _)) (by simp; omega) (by first | exact HB5.out.size | (simp; done) | (simp; omega)) ?_; intro A5 n5 c5 w5 hn5 hap5; obtain ⟨hx1, hx2, hx3, hx4⟩ := copy_fst hap5 (by first | exact BA2.out | exact BA2.out.drew) E1.out E0.out (by omega) (by simp <;> omega); have HN5 := hid hn5; have HB5 := hid hx1; have HO5 := hid hx2; have O5 := hid hx3; have HE5 := hid hx4; have y50 := (P.out.below HB5.out).c0; have y51 := (P.out.below HB5.out).c1; have HR5 := hid ((HR2.out.below HB5.out).more HB5.out.size); clear hn5 hap5 hx1 hx2 hx3 hx4)
      | (refine step_append_rh _ (by rfl) _ _ _ (by rfl) i0 Try.underlying26 hi0 hz0 hz1 hz2 w5.heap.size (some ⟨w5.heap.size, 0, none⟩) 0 0 [] (by rfl) rfl O5.out w5.heap.size K l.length d l (by rfl) rfl (HR5.out.below BA5.out) (by simp; omega) (by first | exact HB5.out.size | (simp; done) | (simp; omega)) ?_; intro A8 n8 c8 w8 hn8 hap8; have HN8 := hid hn8; have HBX : Hid (Below w5.heap.size w5 w8) := (by first | exact BA5.out.trans (hap8.below O5.out rfl (by simp)) | exact BA5.out.drew.trans (hap8.below O5.out rfl (by simp))); have HO8 : Hid (OwnH w8 w1.heap.size A8 c8 l) := OwnH.mono hap8.own HB5.out.size; have HNE : Hid (∀ k, Value.ownBlock (.slice A5 h.length c5) = some k → Value.ownBlock (.slice A8 l.length c8) ≠ some k) := (fun k h1 h2 => by have q1 := (HO5.out.size k h1).2; have q2 := (hap8.own.size k h2).1; omega); have HB8 := hid (HB5.out.trans (HBX.out.mono HB5.out.size)); have HO9 := hid (HO5.out.below HBX.out); have R8 := hid (R.out.below HB8.out); have y80 := (P.out.below HB8.out).c0; have y81 := (P.out.below HB8.out).c1; have k80 := R8.out.fz 0; have k81 := R8.out.fz 1; have z80 := R8.out.c0; have z81 := R8.out.c1; clear hn8 hap8)
      | (refine step_append_rh _ (by rfl) _ _ _ (by rfl) i0 Try.underlying26 hi0 hz0 hz1 hz2 w1.heap.size (some ⟨w1.heap.size + 1, 0, none⟩) 0 0 [] (by rfl) rfl O5.out w5.heap.size K l.length d l (by rfl) rfl HR5.out (by simp; omega) (by first | exact HB5.out.size | (simp; done) | (simp; omega)) ?_; intro A8 n8 c8 w8 hn8 hap8; obtain ⟨hx1, hx2, hx3, hx4⟩ := copy_snd hap8 O5.out HO5.out HE5.out (by exact HB5.out.size); have HN8 := hid hn8; have HB8 : Hid (Below w1.heap.size w1 w8) := (by first | exact HB5.out.trans hx1 | exact HB5.out.drew.trans hx1); have HO8 := hid hx2; have HO9 := hid hx3; have HNE := hid hx4; have R8 := hid (R.out.below HB8.out); have y80 := (P.out.below HB8.out).c0; have y81 := (P.out.below HB8.out).c1; have k80 := R8.out.fz 0; have k81 := R8.out.fz 1; have z80 := R8.out.c0; have z81 := R8.out.c1; clear hn8 hap8 hx1 hx2 hx3 hx4)
      | (refine step_append_rh _ (by rfl) _ _ _ (by rfl) i0 Try.underlying26 hi0 hz0 hz1 hz2 w1.heap.size (some ⟨w1.heap.size, 0, none⟩) 0 0 [] (by rfl) rfl O5.out w5.heap.size K l.length d l (by rfl) rfl HR5.out (by simp; omega) (by first | exact HB5.out.size | (simp; done) | (simp; omega)) ?_; intro A8 n8 c8 w8 hn8 hap8; obtain ⟨hx1, hx2, hx3, hx4⟩ := copy_snd hap8 O5.out HO5.out HE5.out (by exact HB5.out.size); have HN8 := hid hn8; have HB8 : Hid (Below w1.heap.size w1 w8) := (by first | exact HB5.out.trans hx1 | exact HB5.out.drew.trans hx1); have HO8 := hid hx2; have HO9 := hid hx3; have HNE := hid hx4; have R8 := hid (R.out.below HB8.out); have y80 := (P.out.below HB8.out).c0; have y81 := (P.out.below HB8.out).c1; have k80 := R8.out.fz 0; have k81 := R8.out.fz 1; have z80 := R8.out.c0; have z81 := R8.out.c1; clear hn8 hap8 hx1 hx2 hx3 hx4))
  all_goals
    have HO8b := hid ((HO8.out.two R8.out (.slice A5 h.length c5) (.slice A8 l.length c8)))
    have HO9b := hid ((HO9.out.two R8.out (.slice A5 h.length c5) (.slice A8 l.length c8)))
    have HBB := hid (((HB.out.trans (HB8.out.mono HB.out.size)).setCell (p := ⟨w.heap.size + 1, 0, none⟩) (by simp) (.slice A5 h.length c5)).setCell (p := ⟨w.heap.size + 1, 1, none⟩) (by simp) (.slice A8 l.length c8))
    have RB := hid ((R8.out.s0 (.slice A5 h.length c5)).s1 (.slice A8 l.length c8))
    have e5 : n5 = h.length := HN5.out
    have e8 : n8 = l.length := HN8.out
    subst e5 e8
    go_wp2_with fail
    refine world_post (S := fun wq => Row2 wq (w.heap.size + 1) 28 (.slice A5 h.length c5) (.slice A8 l.length c8) ∧ MadeLn w h l (.returned (.agg #[.slice A5 h.length c5, .slice A8 l.length c8])) wq) _
      ⟨RB.out, A5, c5, A8, c8, rfl, HO9b.out.mono HB.out.size, HO8b.out.mono HB.out.size, HNE.out, HBB.out⟩ ?_
    clear y80 y81 k80 k81 z80 z81
    intro wq ⟨hq, hqm⟩
    have q0 := hq.c0
    have q1 := hq.c1
    exact bodyPost_ret (v := .agg #[.slice A5 h.length c5, .slice A8 l.length c8]) (by simp [results, Try.results148, go_sem, q0, q1]) rfl hqm
end Go.Proofs.Ytepgcflkgicpiaa
