/-
  The model's Free.
-/
import Derived.Test.YtjdmaoegfpgfjaaFreeS4
import Derived.Test.YtjdmaoegfpgfjaaLocksOk
namespace Go.Proofs.Ytjdmaoegfpgfjaa
open Go.RowKit

theorem lkIn_gone {h l : HS} (p : locksB h l = true) (t : Int) : LkIn (goneL h t) (goneL l t) := by
  obtain ⟨h1, h2, h3, h4⟩ := locksB_iff.1 p
  have a := goneL_len h t
  have b := goneL_len l t
  exact ⟨(heldsB_holds h1).gone t, (linesB_holds h2).gone t, by omega, by omega⟩
def MadeFr (w : World) (r : HS × HS × List Int) (e : Ending) (w' : World) : Prop :=
  ∃ A c K d W cw, e = .returned (.tuple #[.agg #[.slice A r.1.length c, .slice K r.2.1.length d], .slice W r.2.2.length cw]) ∧ OwnH w' w.heap.size A c r.1 ∧ OwnH w' w.heap.size K d r.2.1 ∧ (∀ k, Value.ownBlock (.slice A r.1.length c) = some k → Value.ownBlock (.slice K r.2.1.length d) ≠ some k) ∧ RI w' w'.heap.size W r.2.2 ∧ Below w.heap.size w w'

set_option maxHeartbeats 4000000 in
set_option maxRecDepth 100000 in
theorem spec_Free (A : Option Addr) (c : Nat) (h : HS) (K : Option Addr) (d : Nat) (l : HS) (t : Int) (w : World) (hr : RH w w.heap.size A h) (hf : FitsH h) (hn : h.length ≤ maxLen) (hr' : RH w w.heap.size K l) (hf' : FitsH l) (hn' : l.length ≤ maxLen) :
    Calls Try.prog 27 #[.agg #[.slice A h.length c, .slice K l.length d], .int .i64 t] w (MadeFr w (freeR h l t)) := by
  have a0 := Row2.lit w 39 (.slice A h.length c) (.slice K l.length d)
  have a1 := Row2.lit (w.alloc (.cells #[.slice A h.length c, .slice K l.length d] 39)) 39 (.slice none 0 0) (.slice none 0 0)
  simp only [World.size_alloc] at a1
  have hb1 : Below w.heap.size w ((w.alloc (.cells #[.slice A h.length c, .slice K l.length d] 39)).alloc (.cells #[.slice none 0 0, .slice none 0 0] 39)) := ((Below.refl _ _).alloc (Nat.le_refl _) _).alloc (by simp) _
  have P1 := hid (a0.below ((Below.refl _ _).alloc (Nat.le_refl _) (.cells #[.slice none 0 0, .slice none 0 0] 39)))
  have R1 := hid a1
  have HB1 := hid hb1
  have HR := hid ((hr.below hb1).more hb1.size)
  have HR2 := hid ((hr'.below hb1).more hb1.size)
  have HF := hid hf
  have HF2 := hid hf'
  have HN := hid hn
  have HN2 := hid hn'
  clear a0 a1 hb1 hr hr' hf hf' hn hn'
  go_enter Try.func27, Try.ntmps27
  go_wp2_with fail
  generalize hw1 : (w.alloc (.cells #[.slice A h.length c, .slice K l.length d] 39)).alloc (.cells #[.slice none 0 0, .slice none 0 0] 39) = w1 at *
  clear hw1
  refine (spec_LocksOk A c h K d l _ HR.out HF.out HN.out HR2.out HF2.out HN2.out).mono ?_
  rintro e w2 ⟨rfl, hb2⟩
  have P2 := hid (P1.out.below hb2)
  have R2 := hid (R1.out.below hb2)
  have HB2 := hid (HB1.out.trans (hb2.mono HB1.out.size))
  have HRb := hid ((HR.out.below hb2).more hb2.size)
  have HR2b := hid ((HR2.out.below hb2).more hb2.size)
  clear hb2
  have y0 := P2.out.c0
  have y1 := P2.out.c1
  have z0 := R2.out.c0
  have z1 := R2.out.c1
  have k0 := R2.out.fz 0
  have k1 := R2.out.fz 1
  cases hlk : locksB h l
  case false =>
    have HE : Hid (freeR h l t = ([], [], [])) := by rw [Hid, freeR, hlk]; rfl
    go_wp2_with fail
    have U1 := R2.out.s0 (.slice none 0 0)
    refine world_post (S := fun wq => Row2 wq (w.heap.size + 1) 39 (.slice none 0 0) (.slice none 0 0) ∧ Below w.heap.size w wq) _ ⟨U1.s1 _, (HB2.out.setCell (by simp) _).setCell (by simp) _⟩ ?_
    clear y0 y1 z0 z1 k0 k1 U1
    intro wq ⟨hq, hqb⟩
    have q0 := hq.c0
    have q1 := hq.c1
    rw [HE.out]
    exact bodyPost_ret (v := .tuple #[.agg #[.slice none 0 0, .slice none 0 0], .slice none 0 0]) (by simp [results, Try.results27, go_sem, q0, q1]) rfl ⟨none, 0, none, 0, none, 0, rfl, OwnH.nil_ _ _, OwnH.nil_ _ _, (fun q hq => by simp [Value.ownBlock] at hq), .inl rfl, hqb⟩
  case true =>
    have HE : Hid (freeR h l t = freeL h l t) := by rw [Hid, freeR, hlk]; rfl
    have HL := hid (locksB_iff.1 hlk)
    have HIN := hid (lkIn_gone hlk t)
    go_wp2_with fail
    refine (spec_l5Gone A c h K d l t _ HRb.out HL.out.2.2.1 HR2b.out (by have := HL.out.2.2.2; omega)).mono ?_
    rintro e w3 ⟨A3, c3, K3, d3, rfl, hA3, hK3, hn3, hb3⟩
    have HN3 := hid hn3
    have HA3 := hid hA3
    have HK3 := hid hK3
    have R3 := hid (R2.out.below hb3)
    have HB3 := hid (HB2.out.trans (hb3.mono HB2.out.size))
    clear hb3 hA3 hK3 hn3 y0 y1 z0 z1 k0 k1
    go_wp2_with fail
    refine (spec_l5Wake A3 c3 (goneL h t) K3 d3 (goneL l t) w.heap.size _ (HA3.out.mono (by have := HB2.out.size; omega)) (HK3.out.mono (by have := HB2.out.size; omega)) (by have := HB3.out.size; omega) HN3.out HIN.out).mono ?_
    rintro e w4 ⟨A4, c4, K4, d4, W4, cw4, rfl, hA4, hK4, hn4, hW4, hb4⟩
    have HN4 := hid hn4
    have HA4 := hid hA4
    have HK4 := hid hK4
    have HW4 := hid hW4
    have R4 := hid (R3.out.below hb4)
    have HB4 := hid (HB3.out.trans (hb4.mono HB3.out.size))
    have z0 := R4.out.c0
    have z1 := R4.out.c1
    have k0 := R4.out.fz 0
    have k1 := R4.out.fz 1
    clear hA4 hK4 hn4 hW4 hb4
    have HFE : Hid (freeR h l t = wakeF (goneL l t).length (goneL h t) (goneL l t) []) := HE.out
    generalize hres : wakeF (goneL l t).length (goneL h t) (goneL l t) [] = res at *
    clear hres
    go_wp2_with fail
    have U1 := R4.out.s0 (.slice A4 res.1.length c4)
    have A5 := ((HA4.out.stay (w' := w4.setCell ⟨w.heap.size + 1, 0, none⟩ (.slice A4 res.1.length c4)) (fun q hq => heap_setCell_other _ _ q _ (fun e => own_ne (by decide) HA4.out R4.out q hq (by rw [e]; rfl))))).stay (w' := (w4.setCell ⟨w.heap.size + 1, 0, none⟩ (.slice A4 res.1.length c4)).setCell ⟨w.heap.size + 1, 1, none⟩ (.slice K4 res.2.1.length d4)) (fun q hq => heap_setCell_other _ _ q _ (fun e => own_ne (by decide) HA4.out R4.out q hq (by rw [e]; rfl)))
    have K5 := ((HK4.out.stay (w' := w4.setCell ⟨w.heap.size + 1, 0, none⟩ (.slice A4 res.1.length c4)) (fun q hq => heap_setCell_other _ _ q _ (fun e => own_ne (by decide) HK4.out R4.out q hq (by rw [e]; rfl))))).stay (w' := (w4.setCell ⟨w.heap.size + 1, 0, none⟩ (.slice A4 res.1.length c4)).setCell ⟨w.heap.size + 1, 1, none⟩ (.slice K4 res.2.1.length d4)) (fun q hq => heap_setCell_other _ _ q _ (fun e => own_ne (by decide) HK4.out R4.out q hq (by rw [e]; rfl)))
    have I5 := rowI_keep (w' := (w4.setCell ⟨w.heap.size + 1, 0, none⟩ (.slice A4 res.1.length c4)).setCell ⟨w.heap.size + 1, 1, none⟩ (.slice K4 res.2.1.length d4)) (rowI_keep (w' := w4.setCell ⟨w.heap.size + 1, 0, none⟩ (.slice A4 res.1.length c4)) HW4.out (fun q hq => heap_setCell_other _ _ q _ (fun e => own_ne (by decide) HW4.out R4.out q hq (by rw [e]; rfl)))) (fun q hq => heap_setCell_other _ _ q _ (fun e => own_ne (by decide) HW4.out R4.out q hq (by rw [e]; rfl)))
    refine world_post (S := fun wq => Row2 wq (w.heap.size + 1) 39 (.slice A4 res.1.length c4) (.slice K4 res.2.1.length d4) ∧ MadeFr w res (.returned (.tuple #[.agg #[.slice A4 res.1.length c4, .slice K4 res.2.1.length d4], .slice W4 res.2.2.length cw4])) wq) _
      ⟨U1.s1 _, A4, c4, K4, d4, W4, cw4, rfl, A5, K5, HN4.out, I5.ri, (HB4.out.setCell (by simp) _).setCell (by simp) _⟩ ?_
    clear z0 z1 k0 k1 U1 A5 K5 I5
    intro wq ⟨hq, hqm⟩
    have q0 := hq.c0
    have q1 := hq.c1
    rw [HFE.out]
    exact bodyPost_ret (v := .tuple #[.agg #[.slice A4 res.1.length c4, .slice K4 res.2.1.length d4], .slice W4 res.2.2.length cw4]) (by simp [results, Try.results27, go_sem, q0, q1]) rfl hqm
end Go.Proofs.Ytjdmaoegfpgfjaa
