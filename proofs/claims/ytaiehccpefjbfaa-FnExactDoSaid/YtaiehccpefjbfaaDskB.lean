/-
  The program's doneOn: contract (tools/mkdskb.py).
-/
import Derived.Test.YtaiehccpefjbfaaDskA
import Derived.Deep.CutRange
namespace Go.Proofs.Ytaiehccpefjbfaa
open Go.RowKit Go.Shelf

/-- What doneOn answers: a disk that may share its lists, and a code. -/
def DonePost (w : World) (D : DK) (c : Int) (e : Ending) (w' : World) : Prop :=
  ∃ V : DV, e = .returned (.tuple #[.agg #[.slice V.A D.live.length V.c, .slice V.K D.safe.length V.d, .slice V.O D.ops.length V.o], .int .i64 c]) ∧ RK w' w'.heap.size V D ∧ VSK V D ∧ Below w.heap.size w w'

/-- Concat of ops and one made on the spot. -/
theorem RSD.two (w : World) (B : Nat) (T T' : TypeId) (x : DD) (A1 : Option Addr) (c1 n1 : Nat) (l1 : DS) (h1 : RD w B A1 l1) (e1 : n1 = l1.length) (hB : B ≤ w.heap.size) :
    RSD ((w.alloc (.cells #[.int .i64 x.1, .string x.2.1, .string x.2.2.1, .string x.2.2.2] T)).alloc (.cells #[.slice A1 n1 c1, .slice (some ⟨w.heap.size, 0, none⟩) 1 1] T')) (w.heap.size + 1 + 1) (some ⟨w.heap.size + 1, 0, none⟩)
      [⟨A1, c1, l1⟩, ⟨some ⟨w.heap.size, 0, none⟩, 1, [x]⟩] := by
  subst e1
  have b1 : Below w.heap.size w (w.alloc (.cells #[.int .i64 x.1, .string x.2.1, .string x.2.2.1, .string x.2.2.2] T)) := (Below.refl _ _).alloc (Nat.le_refl _) _
  have b2 : Below (w.heap.size + 1) (w.alloc (.cells #[.int .i64 x.1, .string x.2.1, .string x.2.2.1, .string x.2.2.2] T)) ((w.alloc (.cells #[.int .i64 x.1, .string x.2.1, .string x.2.2.1, .string x.2.2.2] T)).alloc (.cells #[.slice A1 l1.length c1, .slice (some ⟨w.heap.size, 0, none⟩) 1 1] T')) := (Below.refl _ _).alloc (by simp) _
  have hb : ((w.alloc (.cells #[.int .i64 x.1, .string x.2.1, .string x.2.2.1, .string x.2.2.2] T)).alloc (.cells #[.slice A1 l1.length c1, .slice (some ⟨w.heap.size, 0, none⟩) 1 1] T')).heap[w.heap.size + 1]? = some (.cells #[.slice A1 l1.length c1, .slice (some ⟨w.heap.size, 0, none⟩) 1 1] T' (0, 0)) := by
    have := heap_alloc_new (w.alloc (.cells #[.int .i64 x.1, .string x.2.1, .string x.2.2.1, .string x.2.2.2] T)) (.cells #[.slice A1 l1.length c1, .slice (some ⟨w.heap.size, 0, none⟩) 1 1] T')
    simpa using this
  refine .inr ⟨w.heap.size + 1, 0, rfl, by omega, fun i s hs => ?_⟩
  match i, hs with
  | 0, hs =>
    simp only [List.getElem?_cons_zero, Option.some.injEq] at hs
    subst hs
    refine ⟨by rw [cell_of_row _ _ _ _ _ _ hb]; rfl, ((h1.more hB).below b1).below (b2.mono (by omega)) |>.more (by omega)⟩
  | 1, hs =>
    simp only [List.getElem?_cons_succ, List.getElem?_cons_zero, Option.some.injEq] at hs
    subst hs
    refine ⟨by rw [cell_of_row _ _ _ _ _ _ hb]; rfl, ((RD.new w x T).below b2).more (by omega)⟩
  | i + 2, hs => simp at hs
theorem RSD.more {w : World} {B B' : Nat} {A : Option Addr} {L : List SDo} (h : RSD w B A L) (hB : B ≤ B') : RSD w B' A L := by
  rcases h with rfl | ⟨b, off, e, hb, hc⟩
  · exact .inl rfl
  · exact .inr ⟨b, off, e, by omega, fun i s hs => ⟨(hc i s hs).1, (hc i s hs).2.more hB⟩⟩
theorem concatX (w2 : World) (T T' : TypeId) (x : DD) (A1 : Option Addr) (c1 n1 : Nat) (l1 : DS) (h1 : RD w2 w2.heap.size A1 l1) (e1 : n1 = l1.length) (hl : l1.length ≤ 1000) :
    Calls Try.prog 105 #[.slice (some ⟨w2.heap.size + 1, 0, none⟩) 2 2]
      ((w2.alloc (.cells #[.int .i64 x.1, .string x.2.1, .string x.2.2.1, .string x.2.2.2] T)).alloc (.cells #[.slice A1 n1 c1, .slice (some ⟨w2.heap.size, 0, none⟩) 1 1] T')).drew fun e w' => ∃ A c, e = .returned (.slice A (l1.length + 1) c) ∧ OwnD w' w2.heap.size A c (l1 ++ [x]) ∧ Below w2.heap.size w2 w' := by
  have hr := RSD.two w2 w2.heap.size T T' x A1 c1 n1 l1 h1 e1 (Nat.le_refl _)
  have e : List.flatMap SDo.ps [⟨A1, c1, l1⟩, ⟨some ⟨w2.heap.size, 0, none⟩, 1, [x]⟩] = l1 ++ [x] := by simp
  have hb : Below w2.heap.size w2 ((w2.alloc (.cells #[.int .i64 x.1, .string x.2.1, .string x.2.2.1, .string x.2.2.2] T)).alloc (.cells #[.slice A1 n1 c1, .slice (some ⟨w2.heap.size, 0, none⟩) 1 1] T')).drew :=
    (((Below.refl _ _).alloc (Nat.le_refl _) _).alloc (by simp) _).drew
  refine (concatD_any _ 2 [⟨A1, c1, l1⟩, ⟨some ⟨w2.heap.size, 0, none⟩, 1, [x]⟩] _ (RSD.more (w := ((w2.alloc (.cells #[.int .i64 x.1, .string x.2.1, .string x.2.2.1, .string x.2.2.2] T)).alloc (.cells #[.slice A1 n1 c1, .slice (some ⟨w2.heap.size, 0, none⟩) 1 1] T')).drew) hr (by simp)) (by rw [totD, e]; simp; omega) (by simp)).mono ?_
  rintro y w' ⟨A, c, rfl, ho, hw⟩
  rw [e] at ho ⊢
  exact ⟨A, c, by rw [List.length_append]; rfl, ho.mono hb.size, hb.trans (hw.mono hb.size)⟩

set_option maxHeartbeats 16000000 in
set_option maxRecDepth 100000 in
theorem impl_doneOn (V : DV) (D : DK) (x : DD) (w : World) (hr : RK w w.heap.size V D) (hv : VSK V D) (hd : LenK D 400) (hfl : filesB D.live = true) (hx : SmallX x 4000000) :
    Calls Try.prog 52 #[.agg #[.slice V.A D.live.length V.c, .slice V.K D.safe.length V.d, .slice V.O D.ops.length V.o], .agg #[.int .i64 x.1, .string x.2.1, .string x.2.2.1, .string x.2.2.2]] w (DonePost w (actD D x) (actC D x)) := by
  obtain ⟨h0, h1, h2, hb⟩ := three_boxes w V D x
  have X := hid h0
  have OP := hid h1
  have Y := hid h2
  have HYL := hid h2.lt
  have HB := hid hb
  have HR := hid ((hr.below hb).more hb.size)
  have HR0 := hid hr
  have HV := hid hv
  have HFL := hid hfl
  have hln := (fitB_iff.1 (filesB_iff.1 hfl).1).1
  have HRI := hid (filesB_iff.1 hfl).2.1
  have hop := hd.2.2
  have HSM := hid (filesB_small hfl)
  have HX := hid hx
  have HOS := hid ((onD_small (filesB_small hfl) hx).more (by decide : 200000 + 4000000 ≤ 1000000000))
  have hol := onD_len D.live x
  clear hr hv h0 h1 h2 hb hx hfl hd
  have HOPOF := hid (fun wa => impl_opOf x wa ⟨Nat.le_trans HX.out.1 (by decide), Nat.le_trans HX.out.2.1 (by decide), Nat.le_trans HX.out.2.2 (by decide)⟩)
  cases g1 : formB x
  · have HE := hid (act_form (D := D) g1)
    go_enter Try.func52, Try.ntmps52
    have b0 := X.out.c0
    have b1 := X.out.c1
    have b2 := X.out.c2
    obtain ⟨_, o0, o1, o2, o3⟩ := OP.out
    go_wp2_with fail
    clear b0 b1 b2 o0 o1 o2 o3
    generalize hgq : ((w.alloc (.cells #[.slice V.A D.live.length V.c, .slice V.K D.safe.length V.d, .slice V.O D.ops.length V.o] 33)).alloc (.cells #[.int .i64 x.1, .string x.2.1, .string x.2.2.1, .string x.2.2.2] 37)).alloc (.cells #[.slice none 0 0, .slice none 0 0, .slice none 0 0] 33) = w0 at *
    clear hgq
    refine (HOPOF.out _).mono ?_
    rintro e w1 ⟨v, rfl, hvv, hb1⟩
    have HB1 := hid hb1
    have HVV := hid hvv
    have HR1 := hid ((HR.out.below hb1).more hb1.size)
    clear hb1 hvv
    rw [g1]
    have X1 := hid (X.out.below HB1.out)
    have OP1 := hid (OP.out.below HB1.out)
    have b0 := X1.out.c0
    have b1 := X1.out.c1
    have b2 := X1.out.c2
    obtain ⟨_, o0, o1, o2, o3⟩ := OP1.out
    have Y9 := hid (Y.out.below HB1.out)
    have z0 := Y9.out.c0
    have z1 := Y9.out.c1
    have z2 := Y9.out.c2
    have k0 := Y9.out.fz 0
    have k1 := Y9.out.fz 1
    have k2 := Y9.out.fz 2
    go_wp2_with fail
    refine world_post (S := fun wq => Row3 wq (w.heap.size + 2) 33 (.slice V.A D.live.length V.c) (.slice V.K D.safe.length V.d) (.slice V.O D.ops.length V.o) ∧ True ∧ Below w.heap.size w wq) _
      ⟨((Y9.out.s0 _).s1 _).s2 _, trivial,
        (((HB.out.trans (HB1.out.mono HB.out.size)).setCell (p := ⟨w.heap.size + 2, 0, none⟩) (by simp) _).setCell (p := ⟨w.heap.size + 2, 1, none⟩) (by simp) _).setCell (p := ⟨w.heap.size + 2, 2, none⟩) (by simp) _⟩ ?_
    clear b0 b1 b2 o0 o1 o2 o3 z0 z1 z2 k0 k1 k2
    intro wq ⟨hq, _, hbq⟩
    have q0 := hq.c0
    have q1 := hq.c1
    have q2 := hq.c2
    rw [HE.out.1, HE.out.2]
    exact bodyPost_ret (v := .tuple #[.agg #[(.slice V.A D.live.length V.c), (.slice V.K D.safe.length V.d), (.slice V.O D.ops.length V.o)], .int .i64 2]) (by simp [results, Try.results52, go_sem, q0, q1, q2]) rfl ⟨V, rfl, (HR0.out.below hbq).more hbq.size, HV.out, hbq⟩
  rcases form_123 g1 with h1 | h1 | h1
  · have HON := hid (onD_1 (l := D.live) h1)
    have HI := hid (ifc_1 h1)
    clear h1
    go_enter Try.func52, Try.ntmps52
    have b0 := X.out.c0
    have b1 := X.out.c1
    have b2 := X.out.c2
    obtain ⟨_, o0, o1, o2, o3⟩ := OP.out
    go_wp2_with fail
    clear b0 b1 b2 o0 o1 o2 o3
    generalize hgq : ((w.alloc (.cells #[.slice V.A D.live.length V.c, .slice V.K D.safe.length V.d, .slice V.O D.ops.length V.o] 33)).alloc (.cells #[.int .i64 x.1, .string x.2.1, .string x.2.2.1, .string x.2.2.2] 37)).alloc (.cells #[.slice none 0 0, .slice none 0 0, .slice none 0 0] 33) = w0 at *
    clear hgq
    refine (HOPOF.out _).mono ?_
    rintro e w1 ⟨v, rfl, hvv, hb1⟩
    have HB1 := hid hb1
    have HVV := hid hvv
    have HR1 := hid ((HR.out.below hb1).more hb1.size)
    clear hb1 hvv
    rw [g1]
    have hve := HVV.out g1
    rw [HI.out] at hve
    subst hve
    have X1 := hid (X.out.below HB1.out)
    have OP1 := hid (OP.out.below HB1.out)
    have b0 := X1.out.c0
    have b1 := X1.out.c1
    have b2 := X1.out.c2
    obtain ⟨_, o0, o1, o2, o3⟩ := OP1.out
    go_wp2_with fail
    clear b0 b1 b2 o0 o1 o2 o3
    refine (on_appending x.2.1 x.2.2.2 V.A V.c D.live _ HR1.out.1 HV.out.1 (by omega) HRI.out (HSM.out.more (by decide)) (Nat.le_trans HX.out.2.2 (by decide))).mono ?_
    rintro e w2 ⟨A2, c2, rfl, ho2, hb2⟩
    have HO2 := hid ho2
    have HB2 := hid (HB1.out.trans (hb2.mono HB1.out.size))
    clear ho2 hb2
    by_cases g3 : D.ops.length < 200
    · have g3' : ¬ (200 ≤ (D.ops.length : Int)) := by omega
      have HLN : Hid ((putL D.live x.2.1 (valOf D.live x.2.1 ++ x.2.2.2)).length ≤ maxLen) := by have h := congrArg (fun q => q.1.length) HON.out; simp only at h; rw [Hid, ← h]; unfold maxLen; omega
      have HSL : Hid (SmallP ((putL D.live x.2.1 (valOf D.live x.2.1 ++ x.2.2.2))) 1000000000) := by have h := congrArg Prod.fst HON.out; simp only at h; rw [Hid, ← h]; exact HOS.out
      cases g4 : fitB ((putL D.live x.2.1 (valOf D.live x.2.1 ++ x.2.2.2)))
      · have HE := hid (act_full (D := D) g1 (congrArg Prod.snd HON.out) (fun _ => by rw [HON.out]; exact g4))
        clear g3
        have X2 := hid (X.out.below HB2.out)
        have OP2 := hid (OP.out.below HB2.out)
        have b0 := X2.out.c0
        have b1 := X2.out.c1
        have b2 := X2.out.c2
        obtain ⟨_, o0, o1, o2, o3⟩ := OP2.out
        go_wp2_with fail
        clear b0 b1 b2 o0 o1 o2 o3
        refine (impl_filesFit A2 c2 ((putL D.live x.2.1 (valOf D.live x.2.1 ++ x.2.2.2))) _ HO2.out.rp HSL.out HLN.out).mono ?_
        rintro e w3 ⟨rfl, hb3⟩
        have HB3 := hid (HB2.out.trans (hb3.mono HB2.out.size))
        have HO3 := hid (HO2.out.below hb3)
        have HS3 := hid hb3.size
        clear hb3
        rw [g4]
        have X3 := hid (X.out.below HB3.out)
        have OP3 := hid (OP.out.below HB3.out)
        have b0 := X3.out.c0
        have b1 := X3.out.c1
        have b2 := X3.out.c2
        obtain ⟨_, o0, o1, o2, o3⟩ := OP3.out
        have Y9 := hid (Y.out.below HB3.out)
        have z0 := Y9.out.c0
        have z1 := Y9.out.c1
        have z2 := Y9.out.c2
        have k0 := Y9.out.fz 0
        have k1 := Y9.out.fz 1
        have k2 := Y9.out.fz 2
        go_wp2_with fail
        refine world_post (S := fun wq => Row3 wq (w.heap.size + 2) 33 (.slice V.A D.live.length V.c) (.slice V.K D.safe.length V.d) (.slice V.O D.ops.length V.o) ∧ True ∧ Below w.heap.size w wq) _
          ⟨((Y9.out.s0 _).s1 _).s2 _, trivial,
            (((HB.out.trans (HB3.out.mono HB.out.size)).setCell (p := ⟨w.heap.size + 2, 0, none⟩) (by simp) _).setCell (p := ⟨w.heap.size + 2, 1, none⟩) (by simp) _).setCell (p := ⟨w.heap.size + 2, 2, none⟩) (by simp) _⟩ ?_
        clear b0 b1 b2 o0 o1 o2 o3 z0 z1 z2 k0 k1 k2
        intro wq ⟨hq, _, hbq⟩
        have q0 := hq.c0
        have q1 := hq.c1
        have q2 := hq.c2
        rw [HE.out.1, HE.out.2]
        exact bodyPost_ret (v := .tuple #[.agg #[(.slice V.A D.live.length V.c), (.slice V.K D.safe.length V.d), (.slice V.O D.ops.length V.o)], .int .i64 4]) (by simp [results, Try.results52, go_sem, q0, q1, q2]) rfl ⟨V, rfl, (HR0.out.below hbq).more hbq.size, HV.out, hbq⟩
      · have HE : Hid (actC D x = 0 ∧ actD D x = ⟨(putL D.live x.2.1 (valOf D.live x.2.1 ++ x.2.2.2)), D.safe, D.ops ++ [x]⟩) := by
          have h := act_ok (D := D) g1 (congrArg Prod.snd HON.out) g3 (by rw [HON.out]; exact g4)
          rw [HON.out] at h
          exact h
        clear g3
        have X2 := hid (X.out.below HB2.out)
        have OP2 := hid (OP.out.below HB2.out)
        have b0 := X2.out.c0
        have b1 := X2.out.c1
        have b2 := X2.out.c2
        obtain ⟨_, o0, o1, o2, o3⟩ := OP2.out
        go_wp2_with fail
        clear b0 b1 b2 o0 o1 o2 o3
        refine (impl_filesFit A2 c2 ((putL D.live x.2.1 (valOf D.live x.2.1 ++ x.2.2.2))) _ HO2.out.rp HSL.out HLN.out).mono ?_
        rintro e w3 ⟨rfl, hb3⟩
        have HB3 := hid (HB2.out.trans (hb3.mono HB2.out.size))
        have HO3 := hid (HO2.out.below hb3)
        have HS3 := hid hb3.size
        clear hb3
        rw [g4]
        have X3 := hid (X.out.below HB3.out)
        have OP3 := hid (OP.out.below HB3.out)
        have b0 := X3.out.c0
        have b1 := X3.out.c1
        have b2 := X3.out.c2
        obtain ⟨_, o0, o1, o2, o3⟩ := OP3.out
        have HR3 := hid ((HR.out.2.2.below HB3.out).more HB3.out.size)
        have nb1 : ¬ (w.heap.size + 1 + 1 = w.heap.size) := by omega
        have nb2 : ¬ (w.heap.size = w.heap.size + 1 + 1) := by omega
        go_wp2_with fail
        go_region_held3 (fun w' => w'.cell? ⟨w.heap.size, 1, none⟩ = some (.slice V.K D.safe.length V.d) ∧ w'.cell? ⟨w.heap.size, 2, none⟩ = some (.slice V.O D.ops.length V.o) ∧ w'.cell? ⟨w.heap.size + 1, 0, none⟩ = some (.int .i64 x.1) ∧ w'.cell? ⟨w.heap.size + 1, 1, none⟩ = some (.string x.2.1) ∧ w'.cell? ⟨w.heap.size + 1, 2, none⟩ = some (.string x.2.2.1) ∧ w'.cell? ⟨w.heap.size + 1, 3, none⟩ = some (.string x.2.2.2)) (go_keep)
          (first | (go_at_call 105; refine (concatX w3 _ _ x V.O V.o _ D.ops HR3.out rfl (by omega)).mono ?_; rintro e w4 ⟨A4, c4, rfl, ho4, hb4⟩; have HD4 := hid ho4; have HO4 := hid (HO3.out.below hb4); have HB4 := hid (HB3.out.trans (hb4.mono HB3.out.size)); clear ho4 hb4; have X4 := hid (X.out.below HB4.out); have OP4 := hid (OP.out.below HB4.out); have b41 := X4.out.c1; have b42 := X4.out.c2; obtain ⟨_, o40, o41, o42, o43⟩ := OP4.out; have Y9 := hid (Y.out.below HB4.out); have z0 := Y9.out.c0; have z1 := Y9.out.c1; have z2 := Y9.out.c2; have k0 := Y9.out.fz 0; have k1 := Y9.out.fz 1; have k2 := Y9.out.fz 2))
        go_wp2_with fail
        have HYA : Hid (w.heap.size + 2 < w1.heap.size) := Nat.lt_of_lt_of_le HYL.out HB1.out.size
        have HYB : Hid (w.heap.size + 2 < w3.heap.size) := Nat.lt_of_lt_of_le HYL.out HB3.out.size
        refine world_post (S := fun wq => Row3 wq (w.heap.size + 2) 33 (.slice A2 ((putL D.live x.2.1 (valOf D.live x.2.1 ++ x.2.2.2))).length c2) (.slice V.K D.safe.length V.d) (.slice A4 (D.ops.length + 1) c4) ∧ (OwnPF wq w1.heap.size A2 c2 ((putL D.live x.2.1 (valOf D.live x.2.1 ++ x.2.2.2))) ∧ OwnD wq w3.heap.size A4 c4 (D.ops ++ [x])) ∧ Below w.heap.size w wq) _
          ⟨((Y9.out.s0 _).s1 _).s2 _, ⟨own3_set (own3_set (own3_set HO4.out Y9.out HYA.out _ _) (Y9.out.s0 _) HYA.out _ _) ((Y9.out.s0 _).s1 _) HYA.out _ _, own3_set (own3_set (own3_set HD4.out Y9.out HYB.out _ _) (Y9.out.s0 _) HYB.out _ _) ((Y9.out.s0 _).s1 _) HYB.out _ _⟩,
            (((HB.out.trans (HB4.out.mono HB.out.size)).setCell (p := ⟨w.heap.size + 2, 0, none⟩) (by simp) _).setCell (p := ⟨w.heap.size + 2, 1, none⟩) (by simp) _).setCell (p := ⟨w.heap.size + 2, 2, none⟩) (by simp) _⟩ ?_
        clear b0 b1 b2 o0 o1 o2 o3 b41 b42 o40 o41 o42 o43 z0 z1 z2 k0 k1 k2
        intro wq ⟨hq, hp, hbq⟩
        have q0 := hq.c0
        have q1 := hq.c1
        have q2 := hq.c2
        rw [HE.out.1, HE.out.2]
        exact bodyPost_ret (v := .tuple #[.agg #[(.slice A2 ((putL D.live x.2.1 (valOf D.live x.2.1 ++ x.2.2.2))).length c2), (.slice V.K D.safe.length V.d), (.slice A4 (D.ops.length + 1) c4)], .int .i64 0]) (by simp [results, Try.results52, go_sem, q0, q1, q2]) rfl ⟨⟨A2, c2, V.K, V.d, A4, c4⟩, by simp, ⟨hp.1.rp, (HR0.out.2.1.below hbq).more hbq.size, hp.2.rh⟩, ⟨own_vs hp.1, HV.out.2.1, own_vs hp.2⟩, hbq⟩
    · have g3' : 200 ≤ (D.ops.length : Int) := by omega
      have HE := hid (act_full (D := D) g1 (congrArg Prod.snd HON.out) (fun h => absurd h g3))
      clear g3
      have X2 := hid (X.out.below HB2.out)
      have OP2 := hid (OP.out.below HB2.out)
      have b0 := X2.out.c0
      have b1 := X2.out.c1
      have b2 := X2.out.c2
      obtain ⟨_, o0, o1, o2, o3⟩ := OP2.out
      have Y9 := hid (Y.out.below HB2.out)
      have z0 := Y9.out.c0
      have z1 := Y9.out.c1
      have z2 := Y9.out.c2
      have k0 := Y9.out.fz 0
      have k1 := Y9.out.fz 1
      have k2 := Y9.out.fz 2
      go_wp2_with fail
      refine world_post (S := fun wq => Row3 wq (w.heap.size + 2) 33 (.slice V.A D.live.length V.c) (.slice V.K D.safe.length V.d) (.slice V.O D.ops.length V.o) ∧ True ∧ Below w.heap.size w wq) _
        ⟨((Y9.out.s0 _).s1 _).s2 _, trivial,
          (((HB.out.trans (HB2.out.mono HB.out.size)).setCell (p := ⟨w.heap.size + 2, 0, none⟩) (by simp) _).setCell (p := ⟨w.heap.size + 2, 1, none⟩) (by simp) _).setCell (p := ⟨w.heap.size + 2, 2, none⟩) (by simp) _⟩ ?_
      clear b0 b1 b2 o0 o1 o2 o3 z0 z1 z2 k0 k1 k2
      intro wq ⟨hq, _, hbq⟩
      have q0 := hq.c0
      have q1 := hq.c1
      have q2 := hq.c2
      rw [HE.out.1, HE.out.2]
      exact bodyPost_ret (v := .tuple #[.agg #[(.slice V.A D.live.length V.c), (.slice V.K D.safe.length V.d), (.slice V.O D.ops.length V.o)], .int .i64 4]) (by simp [results, Try.results52, go_sem, q0, q1, q2]) rfl ⟨V, rfl, (HR0.out.below hbq).more hbq.size, HV.out, hbq⟩
  · have HI := hid (ifc_2 h1)
    cases gk : hasK D.live x.2.1
    · have HE := hid (act_none (D := D) g1 (by rw [onD_no (by omega) gk]))
      clear h1
      go_enter Try.func52, Try.ntmps52
      have b0 := X.out.c0
      have b1 := X.out.c1
      have b2 := X.out.c2
      obtain ⟨_, o0, o1, o2, o3⟩ := OP.out
      go_wp2_with fail
      clear b0 b1 b2 o0 o1 o2 o3
      generalize hgq : ((w.alloc (.cells #[.slice V.A D.live.length V.c, .slice V.K D.safe.length V.d, .slice V.O D.ops.length V.o] 33)).alloc (.cells #[.int .i64 x.1, .string x.2.1, .string x.2.2.1, .string x.2.2.2] 37)).alloc (.cells #[.slice none 0 0, .slice none 0 0, .slice none 0 0] 33) = w0 at *
      clear hgq
      refine (HOPOF.out _).mono ?_
      rintro e w1 ⟨v, rfl, hvv, hb1⟩
      have HB1 := hid hb1
      have HVV := hid hvv
      have HR1 := hid ((HR.out.below hb1).more hb1.size)
      clear hb1 hvv
      rw [g1]
      have hve := HVV.out g1
      rw [HI.out] at hve
      subst hve
      have X1 := hid (X.out.below HB1.out)
      have OP1 := hid (OP.out.below HB1.out)
      have b0 := X1.out.c0
      have b1 := X1.out.c1
      have b2 := X1.out.c2
      obtain ⟨_, o0, o1, o2, o3⟩ := OP1.out
      go_wp2_with fail
      clear b0 b1 b2 o0 o1 o2 o3
      refine (on_renaming x.2.1 x.2.2.1 V.A V.c D.live _ HR1.out.1 HV.out.1 (by omega) HRI.out).mono ?_
      rintro e w2 ⟨A2, c2, rfl, ho2, hb2⟩
      have HO2 := hid ho2
      have HB2 := hid (HB1.out.trans (hb2.mono HB1.out.size))
      clear ho2 hb2
      rw [gk]
      have X2 := hid (X.out.below HB2.out)
      have OP2 := hid (OP.out.below HB2.out)
      have b0 := X2.out.c0
      have b1 := X2.out.c1
      have b2 := X2.out.c2
      obtain ⟨_, o0, o1, o2, o3⟩ := OP2.out
      have Y9 := hid (Y.out.below HB2.out)
      have z0 := Y9.out.c0
      have z1 := Y9.out.c1
      have z2 := Y9.out.c2
      have k0 := Y9.out.fz 0
      have k1 := Y9.out.fz 1
      have k2 := Y9.out.fz 2
      go_wp2_with fail
      refine world_post (S := fun wq => Row3 wq (w.heap.size + 2) 33 (.slice V.A D.live.length V.c) (.slice V.K D.safe.length V.d) (.slice V.O D.ops.length V.o) ∧ True ∧ Below w.heap.size w wq) _
        ⟨((Y9.out.s0 _).s1 _).s2 _, trivial,
          (((HB.out.trans (HB2.out.mono HB.out.size)).setCell (p := ⟨w.heap.size + 2, 0, none⟩) (by simp) _).setCell (p := ⟨w.heap.size + 2, 1, none⟩) (by simp) _).setCell (p := ⟨w.heap.size + 2, 2, none⟩) (by simp) _⟩ ?_
      clear b0 b1 b2 o0 o1 o2 o3 z0 z1 z2 k0 k1 k2
      intro wq ⟨hq, _, hbq⟩
      have q0 := hq.c0
      have q1 := hq.c1
      have q2 := hq.c2
      rw [HE.out.1, HE.out.2]
      exact bodyPost_ret (v := .tuple #[.agg #[(.slice V.A D.live.length V.c), (.slice V.K D.safe.length V.d), (.slice V.O D.ops.length V.o)], .int .i64 3]) (by simp [results, Try.results52, go_sem, q0, q1, q2]) rfl ⟨V, rfl, (HR0.out.below hbq).more hbq.size, HV.out, hbq⟩
    · have HON := hid (onD_ren h1 gk)
      clear h1
      go_enter Try.func52, Try.ntmps52
      have b0 := X.out.c0
      have b1 := X.out.c1
      have b2 := X.out.c2
      obtain ⟨_, o0, o1, o2, o3⟩ := OP.out
      go_wp2_with fail
      clear b0 b1 b2 o0 o1 o2 o3
      generalize hgq : ((w.alloc (.cells #[.slice V.A D.live.length V.c, .slice V.K D.safe.length V.d, .slice V.O D.ops.length V.o] 33)).alloc (.cells #[.int .i64 x.1, .string x.2.1, .string x.2.2.1, .string x.2.2.2] 37)).alloc (.cells #[.slice none 0 0, .slice none 0 0, .slice none 0 0] 33) = w0 at *
      clear hgq
      refine (HOPOF.out _).mono ?_
      rintro e w1 ⟨v, rfl, hvv, hb1⟩
      have HB1 := hid hb1
      have HVV := hid hvv
      have HR1 := hid ((HR.out.below hb1).more hb1.size)
      clear hb1 hvv
      rw [g1]
      have hve := HVV.out g1
      rw [HI.out] at hve
      subst hve
      have X1 := hid (X.out.below HB1.out)
      have OP1 := hid (OP.out.below HB1.out)
      have b0 := X1.out.c0
      have b1 := X1.out.c1
      have b2 := X1.out.c2
      obtain ⟨_, o0, o1, o2, o3⟩ := OP1.out
      go_wp2_with fail
      clear b0 b1 b2 o0 o1 o2 o3
      refine (on_renaming x.2.1 x.2.2.1 V.A V.c D.live _ HR1.out.1 HV.out.1 (by omega) HRI.out).mono ?_
      rintro e w2 ⟨A2, c2, rfl, ho2, hb2⟩
      have HO2 := hid ho2
      have HB2 := hid (HB1.out.trans (hb2.mono HB1.out.size))
      clear ho2 hb2
      rw [gk]
      by_cases g3 : D.ops.length < 200
      · have g3' : ¬ (200 ≤ (D.ops.length : Int)) := by omega
        have HLN : Hid ((renB D.live x.2.1 x.2.2.1).length ≤ maxLen) := by have h := congrArg (fun q => q.1.length) HON.out; simp only at h; rw [Hid, ← h]; unfold maxLen; omega
        have HSL : Hid (SmallP ((renB D.live x.2.1 x.2.2.1)) 1000000000) := by have h := congrArg Prod.fst HON.out; simp only at h; rw [Hid, ← h]; exact HOS.out
        cases g4 : fitB ((renB D.live x.2.1 x.2.2.1))
        · have HE := hid (act_full (D := D) g1 (congrArg Prod.snd HON.out) (fun _ => by rw [HON.out]; exact g4))
          clear g3
          have X2 := hid (X.out.below HB2.out)
          have OP2 := hid (OP.out.below HB2.out)
          have b0 := X2.out.c0
          have b1 := X2.out.c1
          have b2 := X2.out.c2
          obtain ⟨_, o0, o1, o2, o3⟩ := OP2.out
          go_wp2_with fail
          clear b0 b1 b2 o0 o1 o2 o3
          refine (impl_filesFit A2 c2 ((renB D.live x.2.1 x.2.2.1)) _ HO2.out.rp HSL.out HLN.out).mono ?_
          rintro e w3 ⟨rfl, hb3⟩
          have HB3 := hid (HB2.out.trans (hb3.mono HB2.out.size))
          have HO3 := hid (HO2.out.below hb3)
          have HS3 := hid hb3.size
          clear hb3
          rw [g4]
          have X3 := hid (X.out.below HB3.out)
          have OP3 := hid (OP.out.below HB3.out)
          have b0 := X3.out.c0
          have b1 := X3.out.c1
          have b2 := X3.out.c2
          obtain ⟨_, o0, o1, o2, o3⟩ := OP3.out
          have Y9 := hid (Y.out.below HB3.out)
          have z0 := Y9.out.c0
          have z1 := Y9.out.c1
          have z2 := Y9.out.c2
          have k0 := Y9.out.fz 0
          have k1 := Y9.out.fz 1
          have k2 := Y9.out.fz 2
          go_wp2_with fail
          refine world_post (S := fun wq => Row3 wq (w.heap.size + 2) 33 (.slice V.A D.live.length V.c) (.slice V.K D.safe.length V.d) (.slice V.O D.ops.length V.o) ∧ True ∧ Below w.heap.size w wq) _
            ⟨((Y9.out.s0 _).s1 _).s2 _, trivial,
              (((HB.out.trans (HB3.out.mono HB.out.size)).setCell (p := ⟨w.heap.size + 2, 0, none⟩) (by simp) _).setCell (p := ⟨w.heap.size + 2, 1, none⟩) (by simp) _).setCell (p := ⟨w.heap.size + 2, 2, none⟩) (by simp) _⟩ ?_
          clear b0 b1 b2 o0 o1 o2 o3 z0 z1 z2 k0 k1 k2
          intro wq ⟨hq, _, hbq⟩
          have q0 := hq.c0
          have q1 := hq.c1
          have q2 := hq.c2
          rw [HE.out.1, HE.out.2]
          exact bodyPost_ret (v := .tuple #[.agg #[(.slice V.A D.live.length V.c), (.slice V.K D.safe.length V.d), (.slice V.O D.ops.length V.o)], .int .i64 4]) (by simp [results, Try.results52, go_sem, q0, q1, q2]) rfl ⟨V, rfl, (HR0.out.below hbq).more hbq.size, HV.out, hbq⟩
        · have HE : Hid (actC D x = 0 ∧ actD D x = ⟨(renB D.live x.2.1 x.2.2.1), D.safe, D.ops ++ [x]⟩) := by
            have h := act_ok (D := D) g1 (congrArg Prod.snd HON.out) g3 (by rw [HON.out]; exact g4)
            rw [HON.out] at h
            exact h
          clear g3
          have X2 := hid (X.out.below HB2.out)
          have OP2 := hid (OP.out.below HB2.out)
          have b0 := X2.out.c0
          have b1 := X2.out.c1
          have b2 := X2.out.c2
          obtain ⟨_, o0, o1, o2, o3⟩ := OP2.out
          go_wp2_with fail
          clear b0 b1 b2 o0 o1 o2 o3
          refine (impl_filesFit A2 c2 ((renB D.live x.2.1 x.2.2.1)) _ HO2.out.rp HSL.out HLN.out).mono ?_
          rintro e w3 ⟨rfl, hb3⟩
          have HB3 := hid (HB2.out.trans (hb3.mono HB2.out.size))
          have HO3 := hid (HO2.out.below hb3)
          have HS3 := hid hb3.size
          clear hb3
          rw [g4]
          have X3 := hid (X.out.below HB3.out)
          have OP3 := hid (OP.out.below HB3.out)
          have b0 := X3.out.c0
          have b1 := X3.out.c1
          have b2 := X3.out.c2
          obtain ⟨_, o0, o1, o2, o3⟩ := OP3.out
          have HR3 := hid ((HR.out.2.2.below HB3.out).more HB3.out.size)
          have nb1 : ¬ (w.heap.size + 1 + 1 = w.heap.size) := by omega
          have nb2 : ¬ (w.heap.size = w.heap.size + 1 + 1) := by omega
          go_wp2_with fail
          go_region_held3 (fun w' => w'.cell? ⟨w.heap.size, 1, none⟩ = some (.slice V.K D.safe.length V.d) ∧ w'.cell? ⟨w.heap.size, 2, none⟩ = some (.slice V.O D.ops.length V.o) ∧ w'.cell? ⟨w.heap.size + 1, 0, none⟩ = some (.int .i64 x.1) ∧ w'.cell? ⟨w.heap.size + 1, 1, none⟩ = some (.string x.2.1) ∧ w'.cell? ⟨w.heap.size + 1, 2, none⟩ = some (.string x.2.2.1) ∧ w'.cell? ⟨w.heap.size + 1, 3, none⟩ = some (.string x.2.2.2)) (go_keep)
            (first | (go_at_call 105; refine (concatX w3 _ _ x V.O V.o _ D.ops HR3.out rfl (by omega)).mono ?_; rintro e w4 ⟨A4, c4, rfl, ho4, hb4⟩; have HD4 := hid ho4; have HO4 := hid (HO3.out.below hb4); have HB4 := hid (HB3.out.trans (hb4.mono HB3.out.size)); clear ho4 hb4; have X4 := hid (X.out.below HB4.out); have OP4 := hid (OP.out.below HB4.out); have b41 := X4.out.c1; have b42 := X4.out.c2; obtain ⟨_, o40, o41, o42, o43⟩ := OP4.out; have Y9 := hid (Y.out.below HB4.out); have z0 := Y9.out.c0; have z1 := Y9.out.c1; have z2 := Y9.out.c2; have k0 := Y9.out.fz 0; have k1 := Y9.out.fz 1; have k2 := Y9.out.fz 2))
          go_wp2_with fail
          have HYA : Hid (w.heap.size + 2 < w1.heap.size) := Nat.lt_of_lt_of_le HYL.out HB1.out.size
          have HYB : Hid (w.heap.size + 2 < w3.heap.size) := Nat.lt_of_lt_of_le HYL.out HB3.out.size
          refine world_post (S := fun wq => Row3 wq (w.heap.size + 2) 33 (.slice A2 ((renB D.live x.2.1 x.2.2.1)).length c2) (.slice V.K D.safe.length V.d) (.slice A4 (D.ops.length + 1) c4) ∧ (OwnPF wq w1.heap.size A2 c2 ((renB D.live x.2.1 x.2.2.1)) ∧ OwnD wq w3.heap.size A4 c4 (D.ops ++ [x])) ∧ Below w.heap.size w wq) _
            ⟨((Y9.out.s0 _).s1 _).s2 _, ⟨own3_set (own3_set (own3_set HO4.out Y9.out HYA.out _ _) (Y9.out.s0 _) HYA.out _ _) ((Y9.out.s0 _).s1 _) HYA.out _ _, own3_set (own3_set (own3_set HD4.out Y9.out HYB.out _ _) (Y9.out.s0 _) HYB.out _ _) ((Y9.out.s0 _).s1 _) HYB.out _ _⟩,
              (((HB.out.trans (HB4.out.mono HB.out.size)).setCell (p := ⟨w.heap.size + 2, 0, none⟩) (by simp) _).setCell (p := ⟨w.heap.size + 2, 1, none⟩) (by simp) _).setCell (p := ⟨w.heap.size + 2, 2, none⟩) (by simp) _⟩ ?_
          clear b0 b1 b2 o0 o1 o2 o3 b41 b42 o40 o41 o42 o43 z0 z1 z2 k0 k1 k2
          intro wq ⟨hq, hp, hbq⟩
          have q0 := hq.c0
          have q1 := hq.c1
          have q2 := hq.c2
          rw [HE.out.1, HE.out.2]
          exact bodyPost_ret (v := .tuple #[.agg #[(.slice A2 ((renB D.live x.2.1 x.2.2.1)).length c2), (.slice V.K D.safe.length V.d), (.slice A4 (D.ops.length + 1) c4)], .int .i64 0]) (by simp [results, Try.results52, go_sem, q0, q1, q2]) rfl ⟨⟨A2, c2, V.K, V.d, A4, c4⟩, by simp, ⟨hp.1.rp, (HR0.out.2.1.below hbq).more hbq.size, hp.2.rh⟩, ⟨own_vs hp.1, HV.out.2.1, own_vs hp.2⟩, hbq⟩
      · have g3' : 200 ≤ (D.ops.length : Int) := by omega
        have HE := hid (act_full (D := D) g1 (congrArg Prod.snd HON.out) (fun h => absurd h g3))
        clear g3
        have X2 := hid (X.out.below HB2.out)
        have OP2 := hid (OP.out.below HB2.out)
        have b0 := X2.out.c0
        have b1 := X2.out.c1
        have b2 := X2.out.c2
        obtain ⟨_, o0, o1, o2, o3⟩ := OP2.out
        have Y9 := hid (Y.out.below HB2.out)
        have z0 := Y9.out.c0
        have z1 := Y9.out.c1
        have z2 := Y9.out.c2
        have k0 := Y9.out.fz 0
        have k1 := Y9.out.fz 1
        have k2 := Y9.out.fz 2
        go_wp2_with fail
        refine world_post (S := fun wq => Row3 wq (w.heap.size + 2) 33 (.slice V.A D.live.length V.c) (.slice V.K D.safe.length V.d) (.slice V.O D.ops.length V.o) ∧ True ∧ Below w.heap.size w wq) _
          ⟨((Y9.out.s0 _).s1 _).s2 _, trivial,
            (((HB.out.trans (HB2.out.mono HB.out.size)).setCell (p := ⟨w.heap.size + 2, 0, none⟩) (by simp) _).setCell (p := ⟨w.heap.size + 2, 1, none⟩) (by simp) _).setCell (p := ⟨w.heap.size + 2, 2, none⟩) (by simp) _⟩ ?_
        clear b0 b1 b2 o0 o1 o2 o3 z0 z1 z2 k0 k1 k2
        intro wq ⟨hq, _, hbq⟩
        have q0 := hq.c0
        have q1 := hq.c1
        have q2 := hq.c2
        rw [HE.out.1, HE.out.2]
        exact bodyPost_ret (v := .tuple #[.agg #[(.slice V.A D.live.length V.c), (.slice V.K D.safe.length V.d), (.slice V.O D.ops.length V.o)], .int .i64 4]) (by simp [results, Try.results52, go_sem, q0, q1, q2]) rfl ⟨V, rfl, (HR0.out.below hbq).more hbq.size, HV.out, hbq⟩
  · have HI := hid (ifc_3 (x := x) (by omega) (by omega))
    cases gk : hasK D.live x.2.1
    · have HE := hid (act_none (D := D) g1 (by rw [onD_no (by omega) gk]))
      clear h1
      go_enter Try.func52, Try.ntmps52
      have b0 := X.out.c0
      have b1 := X.out.c1
      have b2 := X.out.c2
      obtain ⟨_, o0, o1, o2, o3⟩ := OP.out
      go_wp2_with fail
      clear b0 b1 b2 o0 o1 o2 o3
      generalize hgq : ((w.alloc (.cells #[.slice V.A D.live.length V.c, .slice V.K D.safe.length V.d, .slice V.O D.ops.length V.o] 33)).alloc (.cells #[.int .i64 x.1, .string x.2.1, .string x.2.2.1, .string x.2.2.2] 37)).alloc (.cells #[.slice none 0 0, .slice none 0 0, .slice none 0 0] 33) = w0 at *
      clear hgq
      refine (HOPOF.out _).mono ?_
      rintro e w1 ⟨v, rfl, hvv, hb1⟩
      have HB1 := hid hb1
      have HVV := hid hvv
      have HR1 := hid ((HR.out.below hb1).more hb1.size)
      clear hb1 hvv
      rw [g1]
      have hve := HVV.out g1
      rw [HI.out] at hve
      subst hve
      have X1 := hid (X.out.below HB1.out)
      have OP1 := hid (OP.out.below HB1.out)
      have b0 := X1.out.c0
      have b1 := X1.out.c1
      have b2 := X1.out.c2
      obtain ⟨_, o0, o1, o2, o3⟩ := OP1.out
      go_wp2_with fail
      clear b0 b1 b2 o0 o1 o2 o3
      refine (on_removing x.2.1 V.A V.c D.live _ HR1.out.1 HV.out.1 (by omega) HRI.out).mono ?_
      rintro e w2 ⟨A2, c2, rfl, ho2, hb2⟩
      have HO2 := hid ho2
      have HB2 := hid (HB1.out.trans (hb2.mono HB1.out.size))
      clear ho2 hb2
      rw [gk]
      have X2 := hid (X.out.below HB2.out)
      have OP2 := hid (OP.out.below HB2.out)
      have b0 := X2.out.c0
      have b1 := X2.out.c1
      have b2 := X2.out.c2
      obtain ⟨_, o0, o1, o2, o3⟩ := OP2.out
      have Y9 := hid (Y.out.below HB2.out)
      have z0 := Y9.out.c0
      have z1 := Y9.out.c1
      have z2 := Y9.out.c2
      have k0 := Y9.out.fz 0
      have k1 := Y9.out.fz 1
      have k2 := Y9.out.fz 2
      go_wp2_with fail
      refine world_post (S := fun wq => Row3 wq (w.heap.size + 2) 33 (.slice V.A D.live.length V.c) (.slice V.K D.safe.length V.d) (.slice V.O D.ops.length V.o) ∧ True ∧ Below w.heap.size w wq) _
        ⟨((Y9.out.s0 _).s1 _).s2 _, trivial,
          (((HB.out.trans (HB2.out.mono HB.out.size)).setCell (p := ⟨w.heap.size + 2, 0, none⟩) (by simp) _).setCell (p := ⟨w.heap.size + 2, 1, none⟩) (by simp) _).setCell (p := ⟨w.heap.size + 2, 2, none⟩) (by simp) _⟩ ?_
      clear b0 b1 b2 o0 o1 o2 o3 z0 z1 z2 k0 k1 k2
      intro wq ⟨hq, _, hbq⟩
      have q0 := hq.c0
      have q1 := hq.c1
      have q2 := hq.c2
      rw [HE.out.1, HE.out.2]
      exact bodyPost_ret (v := .tuple #[.agg #[(.slice V.A D.live.length V.c), (.slice V.K D.safe.length V.d), (.slice V.O D.ops.length V.o)], .int .i64 3]) (by simp [results, Try.results52, go_sem, q0, q1, q2]) rfl ⟨V, rfl, (HR0.out.below hbq).more hbq.size, HV.out, hbq⟩
    · have HON := hid (onD_cut (by omega) (by omega) gk)
      clear h1
      go_enter Try.func52, Try.ntmps52
      have b0 := X.out.c0
      have b1 := X.out.c1
      have b2 := X.out.c2
      obtain ⟨_, o0, o1, o2, o3⟩ := OP.out
      go_wp2_with fail
      clear b0 b1 b2 o0 o1 o2 o3
      generalize hgq : ((w.alloc (.cells #[.slice V.A D.live.length V.c, .slice V.K D.safe.length V.d, .slice V.O D.ops.length V.o] 33)).alloc (.cells #[.int .i64 x.1, .string x.2.1, .string x.2.2.1, .string x.2.2.2] 37)).alloc (.cells #[.slice none 0 0, .slice none 0 0, .slice none 0 0] 33) = w0 at *
      clear hgq
      refine (HOPOF.out _).mono ?_
      rintro e w1 ⟨v, rfl, hvv, hb1⟩
      have HB1 := hid hb1
      have HVV := hid hvv
      have HR1 := hid ((HR.out.below hb1).more hb1.size)
      clear hb1 hvv
      rw [g1]
      have hve := HVV.out g1
      rw [HI.out] at hve
      subst hve
      have X1 := hid (X.out.below HB1.out)
      have OP1 := hid (OP.out.below HB1.out)
      have b0 := X1.out.c0
      have b1 := X1.out.c1
      have b2 := X1.out.c2
      obtain ⟨_, o0, o1, o2, o3⟩ := OP1.out
      go_wp2_with fail
      clear b0 b1 b2 o0 o1 o2 o3
      refine (on_removing x.2.1 V.A V.c D.live _ HR1.out.1 HV.out.1 (by omega) HRI.out).mono ?_
      rintro e w2 ⟨A2, c2, rfl, ho2, hb2⟩
      have HO2 := hid ho2
      have HB2 := hid (HB1.out.trans (hb2.mono HB1.out.size))
      clear ho2 hb2
      rw [gk]
      by_cases g3 : D.ops.length < 200
      · have g3' : ¬ (200 ≤ (D.ops.length : Int)) := by omega
        have HLN : Hid ((cutB D.live x.2.1).length ≤ maxLen) := by have h := congrArg (fun q => q.1.length) HON.out; simp only at h; rw [Hid, ← h]; unfold maxLen; omega
        have HSL : Hid (SmallP ((cutB D.live x.2.1)) 1000000000) := by have h := congrArg Prod.fst HON.out; simp only at h; rw [Hid, ← h]; exact HOS.out
        cases g4 : fitB ((cutB D.live x.2.1))
        · have HE := hid (act_full (D := D) g1 (congrArg Prod.snd HON.out) (fun _ => by rw [HON.out]; exact g4))
          clear g3
          have X2 := hid (X.out.below HB2.out)
          have OP2 := hid (OP.out.below HB2.out)
          have b0 := X2.out.c0
          have b1 := X2.out.c1
          have b2 := X2.out.c2
          obtain ⟨_, o0, o1, o2, o3⟩ := OP2.out
          go_wp2_with fail
          clear b0 b1 b2 o0 o1 o2 o3
          refine (impl_filesFit A2 c2 ((cutB D.live x.2.1)) _ HO2.out.rp HSL.out HLN.out).mono ?_
          rintro e w3 ⟨rfl, hb3⟩
          have HB3 := hid (HB2.out.trans (hb3.mono HB2.out.size))
          have HO3 := hid (HO2.out.below hb3)
          have HS3 := hid hb3.size
          clear hb3
          rw [g4]
          have X3 := hid (X.out.below HB3.out)
          have OP3 := hid (OP.out.below HB3.out)
          have b0 := X3.out.c0
          have b1 := X3.out.c1
          have b2 := X3.out.c2
          obtain ⟨_, o0, o1, o2, o3⟩ := OP3.out
          have Y9 := hid (Y.out.below HB3.out)
          have z0 := Y9.out.c0
          have z1 := Y9.out.c1
          have z2 := Y9.out.c2
          have k0 := Y9.out.fz 0
          have k1 := Y9.out.fz 1
          have k2 := Y9.out.fz 2
          go_wp2_with fail
          refine world_post (S := fun wq => Row3 wq (w.heap.size + 2) 33 (.slice V.A D.live.length V.c) (.slice V.K D.safe.length V.d) (.slice V.O D.ops.length V.o) ∧ True ∧ Below w.heap.size w wq) _
            ⟨((Y9.out.s0 _).s1 _).s2 _, trivial,
              (((HB.out.trans (HB3.out.mono HB.out.size)).setCell (p := ⟨w.heap.size + 2, 0, none⟩) (by simp) _).setCell (p := ⟨w.heap.size + 2, 1, none⟩) (by simp) _).setCell (p := ⟨w.heap.size + 2, 2, none⟩) (by simp) _⟩ ?_
          clear b0 b1 b2 o0 o1 o2 o3 z0 z1 z2 k0 k1 k2
          intro wq ⟨hq, _, hbq⟩
          have q0 := hq.c0
          have q1 := hq.c1
          have q2 := hq.c2
          rw [HE.out.1, HE.out.2]
          exact bodyPost_ret (v := .tuple #[.agg #[(.slice V.A D.live.length V.c), (.slice V.K D.safe.length V.d), (.slice V.O D.ops.length V.o)], .int .i64 4]) (by simp [results, Try.results52, go_sem, q0, q1, q2]) rfl ⟨V, rfl, (HR0.out.below hbq).more hbq.size, HV.out, hbq⟩
        · have HE : Hid (actC D x = 0 ∧ actD D x = ⟨(cutB D.live x.2.1), D.safe, D.ops ++ [x]⟩) := by
            have h := act_ok (D := D) g1 (congrArg Prod.snd HON.out) g3 (by rw [HON.out]; exact g4)
            rw [HON.out] at h
            exact h
          clear g3
          have X2 := hid (X.out.below HB2.out)
          have OP2 := hid (OP.out.below HB2.out)
          have b0 := X2.out.c0
          have b1 := X2.out.c1
          have b2 := X2.out.c2
          obtain ⟨_, o0, o1, o2, o3⟩ := OP2.out
          go_wp2_with fail
          clear b0 b1 b2 o0 o1 o2 o3
          refine (impl_filesFit A2 c2 ((cutB D.live x.2.1)) _ HO2.out.rp HSL.out HLN.out).mono ?_
          rintro e w3 ⟨rfl, hb3⟩
          have HB3 := hid (HB2.out.trans (hb3.mono HB2.out.size))
          have HO3 := hid (HO2.out.below hb3)
          have HS3 := hid hb3.size
          clear hb3
          rw [g4]
          have X3 := hid (X.out.below HB3.out)
          have OP3 := hid (OP.out.below HB3.out)
          have b0 := X3.out.c0
          have b1 := X3.out.c1
          have b2 := X3.out.c2
          obtain ⟨_, o0, o1, o2, o3⟩ := OP3.out
          have HR3 := hid ((HR.out.2.2.below HB3.out).more HB3.out.size)
          have nb1 : ¬ (w.heap.size + 1 + 1 = w.heap.size) := by omega
          have nb2 : ¬ (w.heap.size = w.heap.size + 1 + 1) := by omega
          go_wp2_with fail
          go_region_held3 (fun w' => w'.cell? ⟨w.heap.size, 1, none⟩ = some (.slice V.K D.safe.length V.d) ∧ w'.cell? ⟨w.heap.size, 2, none⟩ = some (.slice V.O D.ops.length V.o) ∧ w'.cell? ⟨w.heap.size + 1, 0, none⟩ = some (.int .i64 x.1) ∧ w'.cell? ⟨w.heap.size + 1, 1, none⟩ = some (.string x.2.1) ∧ w'.cell? ⟨w.heap.size + 1, 2, none⟩ = some (.string x.2.2.1) ∧ w'.cell? ⟨w.heap.size + 1, 3, none⟩ = some (.string x.2.2.2)) (go_keep)
            (first | (go_at_call 105; refine (concatX w3 _ _ x V.O V.o _ D.ops HR3.out rfl (by omega)).mono ?_; rintro e w4 ⟨A4, c4, rfl, ho4, hb4⟩; have HD4 := hid ho4; have HO4 := hid (HO3.out.below hb4); have HB4 := hid (HB3.out.trans (hb4.mono HB3.out.size)); clear ho4 hb4; have X4 := hid (X.out.below HB4.out); have OP4 := hid (OP.out.below HB4.out); have b41 := X4.out.c1; have b42 := X4.out.c2; obtain ⟨_, o40, o41, o42, o43⟩ := OP4.out; have Y9 := hid (Y.out.below HB4.out); have z0 := Y9.out.c0; have z1 := Y9.out.c1; have z2 := Y9.out.c2; have k0 := Y9.out.fz 0; have k1 := Y9.out.fz 1; have k2 := Y9.out.fz 2))
          go_wp2_with fail
          have HYA : Hid (w.heap.size + 2 < w1.heap.size) := Nat.lt_of_lt_of_le HYL.out HB1.out.size
          have HYB : Hid (w.heap.size + 2 < w3.heap.size) := Nat.lt_of_lt_of_le HYL.out HB3.out.size
          refine world_post (S := fun wq => Row3 wq (w.heap.size + 2) 33 (.slice A2 ((cutB D.live x.2.1)).length c2) (.slice V.K D.safe.length V.d) (.slice A4 (D.ops.length + 1) c4) ∧ (OwnPF wq w1.heap.size A2 c2 ((cutB D.live x.2.1)) ∧ OwnD wq w3.heap.size A4 c4 (D.ops ++ [x])) ∧ Below w.heap.size w wq) _
            ⟨((Y9.out.s0 _).s1 _).s2 _, ⟨own3_set (own3_set (own3_set HO4.out Y9.out HYA.out _ _) (Y9.out.s0 _) HYA.out _ _) ((Y9.out.s0 _).s1 _) HYA.out _ _, own3_set (own3_set (own3_set HD4.out Y9.out HYB.out _ _) (Y9.out.s0 _) HYB.out _ _) ((Y9.out.s0 _).s1 _) HYB.out _ _⟩,
              (((HB.out.trans (HB4.out.mono HB.out.size)).setCell (p := ⟨w.heap.size + 2, 0, none⟩) (by simp) _).setCell (p := ⟨w.heap.size + 2, 1, none⟩) (by simp) _).setCell (p := ⟨w.heap.size + 2, 2, none⟩) (by simp) _⟩ ?_
          clear b0 b1 b2 o0 o1 o2 o3 b41 b42 o40 o41 o42 o43 z0 z1 z2 k0 k1 k2
          intro wq ⟨hq, hp, hbq⟩
          have q0 := hq.c0
          have q1 := hq.c1
          have q2 := hq.c2
          rw [HE.out.1, HE.out.2]
          exact bodyPost_ret (v := .tuple #[.agg #[(.slice A2 ((cutB D.live x.2.1)).length c2), (.slice V.K D.safe.length V.d), (.slice A4 (D.ops.length + 1) c4)], .int .i64 0]) (by simp [results, Try.results52, go_sem, q0, q1, q2]) rfl ⟨⟨A2, c2, V.K, V.d, A4, c4⟩, by simp, ⟨hp.1.rp, (HR0.out.2.1.below hbq).more hbq.size, hp.2.rh⟩, ⟨own_vs hp.1, HV.out.2.1, own_vs hp.2⟩, hbq⟩
      · have g3' : 200 ≤ (D.ops.length : Int) := by omega
        have HE := hid (act_full (D := D) g1 (congrArg Prod.snd HON.out) (fun h => absurd h g3))
        clear g3
        have X2 := hid (X.out.below HB2.out)
        have OP2 := hid (OP.out.below HB2.out)
        have b0 := X2.out.c0
        have b1 := X2.out.c1
        have b2 := X2.out.c2
        obtain ⟨_, o0, o1, o2, o3⟩ := OP2.out
        have Y9 := hid (Y.out.below HB2.out)
        have z0 := Y9.out.c0
        have z1 := Y9.out.c1
        have z2 := Y9.out.c2
        have k0 := Y9.out.fz 0
        have k1 := Y9.out.fz 1
        have k2 := Y9.out.fz 2
        go_wp2_with fail
        refine world_post (S := fun wq => Row3 wq (w.heap.size + 2) 33 (.slice V.A D.live.length V.c) (.slice V.K D.safe.length V.d) (.slice V.O D.ops.length V.o) ∧ True ∧ Below w.heap.size w wq) _
          ⟨((Y9.out.s0 _).s1 _).s2 _, trivial,
            (((HB.out.trans (HB2.out.mono HB.out.size)).setCell (p := ⟨w.heap.size + 2, 0, none⟩) (by simp) _).setCell (p := ⟨w.heap.size + 2, 1, none⟩) (by simp) _).setCell (p := ⟨w.heap.size + 2, 2, none⟩) (by simp) _⟩ ?_
        clear b0 b1 b2 o0 o1 o2 o3 z0 z1 z2 k0 k1 k2
        intro wq ⟨hq, _, hbq⟩
        have q0 := hq.c0
        have q1 := hq.c1
        have q2 := hq.c2
        rw [HE.out.1, HE.out.2]
        exact bodyPost_ret (v := .tuple #[.agg #[(.slice V.A D.live.length V.c), (.slice V.K D.safe.length V.d), (.slice V.O D.ops.length V.o)], .int .i64 4]) (by simp [results, Try.results52, go_sem, q0, q1, q2]) rfl ⟨V, rfl, (HR0.out.below hbq).more hbq.size, HV.out, hbq⟩
end Go.Proofs.Ytaiehccpefjbfaa
