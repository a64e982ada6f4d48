/-
  The program's Free.
-/
import Derived.Test.YtepgcflkgicpiaaFreeI4
import Derived.Test.YtepgcflkgicpiaaFreeS5
namespace Go.Proofs.Ytepgcflkgicpiaa
open Go.RowKit Go.Shelf

def lenV : Value → Nat | .slice _ n _ => n | _ => 0
theorem OwnH.keepG {w w' : World} {B c : Nat} {A : Option Addr} {hs : HS} {row : Option Nat} (h : OwnH w B A c hs) (hg : w.grownBy w' row) (hne : ∀ k, Value.ownBlock (.slice A hs.length c) = some k → some k ≠ row) : OwnH w' B A c hs :=
  h.stay fun k hk => hg.block k (h.size k hk).2 (hne k hk)
theorem firstV_some {h l : HS} {i : Nat} (e : firstL h l = some i) : firstV h l = (i : Int) := by rw [firstV, e]
theorem firstV_none {h l : HS} (e : firstL h l = none) : firstV h l = -1 := by rw [firstV, e]
/-- What holds in Free's loop. -/
structure FrIn (h l : HS) (ws : List Int) (r : HS × HS × List Int) : Prop where
  lk : LkIn h l
  un : Uniq h
  run : ∃ f, l.length ≤ f ∧ wakeF f h l ws = r
  wl : ws.length + l.length ≤ 100
theorem FrIn.step {h l : HS} {ws : List Int} {r : HS × HS × List Int} (p : FrIn h l ws r) {i : Nat} (e : firstL h l = some i) : ∃ hi : i < l.length, FrIn (giveL h l[i]) (cutAt l i) (ws ++ [l[i].1]) r := by
  have hi := firstL_lt e
  refine ⟨hi, p.lk.give hi, p.un.give _, ?_, ?_⟩
  · obtain ⟨f, hf, hr⟩ := p.run
    rw [wakeF_step e f hf] at hr
    have hd : l.getD i (0, ⟨#[]⟩, 0) = l[i] := by simp [List.getD, hi]
    rw [hd] at hr
    exact ⟨f - 1, by rw [cutAt_length hi]; omega, hr⟩
  · rw [cutAt_length hi, List.length_append, List.length_singleton]
    have := p.wl
    omega
theorem FrIn.done {h l : HS} {ws : List Int} {r : HS × HS × List Int} (p : FrIn h l ws r) (e : firstL h l = none) : r = (h, l, ws) := by
  obtain ⟨f, _, hr⟩ := p.run
  rw [← hr, wakeF_done ws e]
theorem FrIn.start {h l : HS} (p : locksB h l = true) (t : Int) : FrIn (goneL h t) (goneL l t) [] (freeL h l t) := by
  obtain ⟨h1, h2, h3, h4⟩ := locksB_iff.1 p
  have b := goneL_len l t
  exact ⟨lkIn_gone p t, (heldsB_uniq h1).gone t, ⟨_, Nat.le_refl _, rfl⟩, by simp only [List.length_nil]; omega⟩

/-- Free's answer, of its own, no two rows of which lie in one block. -/
def MadeFrO (w : World) (r : HS × HS × List Int) (e : Ending) (w' : World) : Prop :=
  ∃ A c K d W cw, e = .returned (.tuple #[.agg #[.slice A r.1.length c, .slice K r.2.1.length d], .slice W r.2.2.length cw]) ∧ OwnH w' w.heap.size A c r.1 ∧ OwnH w' w.heap.size K d r.2.1 ∧ OwnI w' w.heap.size W cw r.2.2 ∧
    (∀ k, Value.ownBlock (.slice A r.1.length c) = some k → Value.ownBlock (.slice K r.2.1.length d) ≠ some k) ∧ Below w.heap.size w w'

set_option maxHeartbeats 2000000 in
set_option maxRecDepth 100000 in
theorem impl_Free (A : Option Addr) (c : Nat) (h : HS) (K : Option Addr) (d : Nat) (l : HS) (t : Int) (w : World) (hr : RH w w.heap.size A h) (hf : FitsH h) (hn : h.length ≤ c) (hm : c ≤ maxLen) (hr' : RH w w.heap.size K l) (hf' : FitsH l) (hn' : l.length ≤ d) (hm' : d ≤ maxLen) :
    Calls Try.prog 18 #[.agg #[.slice A h.length c, .slice K l.length d], .int .i64 t] w (MadeFrO w (freeR h l t)) := by
  obtain ⟨j0, hj0, hy0, hy1, hy2⟩ := info_parts int64Info
  have a0 := Row2.lit w 28 (.slice A h.length c) (.slice K l.length d)
  have a2 := Row2.lit ((w.alloc (.cells #[.slice A h.length c, .slice K l.length d] 28)).alloc (.cells #[.int .i64 t] 2)) 28 (.slice none 0 0) (.slice none 0 0)
  have hb1 : Below w.heap.size w (((w.alloc (.cells #[.slice A h.length c, .slice K l.length d] 28)).alloc (.cells #[.int .i64 t] 2)).alloc (.cells #[.slice none 0 0, .slice none 0 0] 28)) := below3 (Below.refl _ _) (Nat.le_refl _)
  have hq0 := World.ownsRow.cellAt (World.ownsRow_lit (base := 0) (e := 2) (size := 1) (w.alloc (.cells #[.slice A h.length c, .slice K l.length d] 28)) #[.int .i64 t] 1 (Nat.zero_le _) (by unfold maxLen; omega) rfl) 0 (by omega)
  have hq1 := ((Below.refl _ ((w.alloc (.cells #[.slice A h.length c, .slice K l.length d] 28)).alloc (.cells #[.int .i64 t] 2))).alloc (Nat.le_refl _) (.cells #[.slice none 0 0, .slice none 0 0] 28)).cell (p := ⟨w.heap.size + 1, 0, none⟩) (by simp)
  simp only [World.size_alloc] at hq0
  rw [hq0] at hq1
  clear hq0
  have hs1 : (((w.alloc (.cells #[.slice A h.length c, .slice K l.length d] 28)).alloc (.cells #[.int .i64 t] 2)).alloc (.cells #[.slice none 0 0, .slice none 0 0] 28)).heap.size = w.heap.size + 3 := by simp
  simp only [World.size_alloc] at a2
  have P1 := hid ((a0.below ((Below.refl _ _).alloc (Nat.le_refl _) (.cells #[.int .i64 t] 2))).below ((Below.refl _ _).alloc (Nat.le_refl _) (.cells #[.slice none 0 0, .slice none 0 0] 28)))
  have R1 := hid a2
  have Q1 := hid (show _ = some (Value.int .i64 t) from hq1)
  have S1 := hid hs1
  have HB1 := hid hb1
  have HR := hid ((hr.below hb1).more hb1.size)
  have HR2 := hid ((hr'.below hb1).more hb1.size)
  have HF := hid hf
  have HF2 := hid hf'
  have HN := hid hn
  have HN2 := hid hn'
  have HM := hid hm
  have HM2 := hid hm'
  clear a0 a2 hb1 hq1 hs1 hr hr' hf hf' hn hn' hm hm'
  go_enter Try.func18, Try.ntmps18
  go_wp2_with fail
  generalize hw1 : ((w.alloc (.cells #[.slice A h.length c, .slice K l.length d] 28)).alloc (.cells #[.int .i64 t] 2)).alloc (.cells #[.slice none 0 0, .slice none 0 0] 28) = w1 at *
  clear hw1
  refine (impl_LocksOk A c h K d l _ HR.out HF.out HN.out HM.out HR2.out HF2.out HN2.out HM2.out).mono ?_
  rintro e w2 ⟨rfl, hb2⟩
  have P2 := hid (P1.out.below hb2)
  have R2 := hid (R1.out.below hb2)
  have Q2 := hid ((hb2.cell (p := ⟨w.heap.size + 1, 0, none⟩) (by have := S1.out; show w.heap.size + 1 < _; omega)).trans Q1.out)
  have S2 : Hid (w.heap.size + 3 ≤ w2.heap.size) := by have := S1.out; have := hb2.size; show _ ≤ _; omega
  have HB2 := hid (HB1.out.trans (hb2.mono HB1.out.size))
  have HRb := hid ((HR.out.below hb2).more hb2.size)
  have HR2b := hid ((HR2.out.below hb2).more hb2.size)
  clear hb2
  have y0 := P2.out.c0
  have y1 := P2.out.c1
  have z0 := R2.out.c0
  have z1 := R2.out.c1
  have k0 := R2.out.fz 0
  have k1 := R2.out.fz 1
  cases hlk : locksB h l
  case false =>
    have HE : Hid (freeR h l t = ([], [], [])) := by rw [Hid, freeR, hlk]; rfl
    go_wp2_with fail
    have U1 := R2.out.s0 (.slice none 0 0)
    refine world_post (S := fun wq => Row2 wq (w.heap.size + 2) 28 (.slice none 0 0) (.slice none 0 0) ∧ Below w.heap.size w wq) _ ⟨U1.s1 _, (HB2.out.setCell (by simp; omega) _).setCell (by simp; omega) _⟩ ?_
    clear y0 y1 z0 z1 k0 k1 U1
    intro wq ⟨hq, hqb⟩
    have q0 := hq.c0
    have q1 := hq.c1
    rw [HE.out]
    exact bodyPost_ret (v := .tuple #[.agg #[.slice none 0 0, .slice none 0 0], .slice none 0 0]) (by simp [results, Try.results18, go_sem, q0, q1]) rfl ⟨none, 0, none, 0, none, 0, rfl, World.ownsRow_nil _ _ _ _, World.ownsRow_nil _ _ _ _, World.ownsRow_nil _ _ _ _, (fun _ h _ => by cases h), hqb⟩
  case true =>
    have HE : Hid (freeR h l t = freeL h l t) := by rw [Hid, freeR, hlk]; rfl
    have HL := hid (locksB_iff.1 hlk)
    have HIN := hid (FrIn.start hlk t)
    have hh1 : Hid (h.length ≤ 1000) := by have := HL.out.2.2; show _ ≤ _; omega
    have hl1 : Hid (l.length ≤ 1000) := by have := HL.out.2.2; show _ ≤ _; omega
    clear z0 z1 k0 k1
    have tk1 : Hid (1 = 1) := rfl
    have tk2 : Hid (1 = 1) := rfl
    have tk3 : Hid (1 = 1) := rfl
    have tk4 : Hid (1 = 1) := rfl
    go_wp2_with (first
      | (clear tk1; go_at_call 78; refine (impl_cloneH A c h w2 HRb.out hh1.out).mono ?_; rintro e w3 ⟨A3, c3, rfl, ho3, hb3⟩; have HO3 := hid ho3; have HB3 := hid hb3; have Q3 := hid ((hb3.cell (p := ⟨w.heap.size + 1, 0, none⟩) (by have := S2.out; show w.heap.size + 1 < _; omega)).trans Q2.out); have S3 : Hid (w.heap.size + 3 ≤ w3.heap.size) := (by have := S2.out; have := hb3.size; show _ ≤ _; omega); clear ho3 hb3)
      | (clear tk2; go_at_call 77; refine (impl_goneRow (w.heap.size + 1) t A3 c3 h w2.heap.size w3 HO3.out HF.out hh1.out (by have := S3.out; omega) Q3.out (fun k hk => by have := (HO3.out.size k hk).1; have := S2.out; omega)).mono ?_; rintro e w4 ⟨rfl, ho4, hg4⟩; have HO4 := hid ho4; have HB4 := hid (HB3.out.grown hg4 HB3.out.size (fun k hk => (HO3.out.size k hk).1)); have R4 := hid (R2.out.below HB4.out); have P4 := hid (P2.out.below HB4.out); have Q4 := hid ((HB4.out.cell (p := ⟨w.heap.size + 1, 0, none⟩) (by have := S2.out; show w.heap.size + 1 < _; omega)).trans Q2.out); have S4 : Hid (w.heap.size + 3 ≤ w4.heap.size) := (by have := S2.out; have := HB4.out.size; show _ ≤ _; omega); have HRd := hid ((HR2b.out.below HB4.out).more HB4.out.size); clear ho4 hg4; have y40 := P4.out.c0; have y41 := P4.out.c1)
      | (clear tk3; go_at_call 78; refine (impl_cloneH K d l w4 HRd.out hl1.out).mono ?_; rintro e w5 ⟨A5, c5, rfl, ho5, hb5⟩; have HO5 := hid ho5; have HB5 := hid hb5; have Q5 := hid ((hb5.cell (p := ⟨w.heap.size + 1, 0, none⟩) (by have := S4.out; show w.heap.size + 1 < _; omega)).trans Q4.out); have S5 : Hid (w.heap.size + 3 ≤ w5.heap.size) := (by have := S4.out; have := hb5.size; show _ ≤ _; omega); clear ho5 hb5)
      | (clear tk4; go_at_call 77; refine (impl_goneRow (w.heap.size + 1) t A5 c5 l w4.heap.size w5 HO5.out HF2.out hl1.out (by have := S5.out; omega) Q5.out (fun k hk => by have := (HO5.out.size k hk).1; have := S4.out; omega)).mono ?_; rintro e w6 ⟨rfl, ho6, hg6⟩; have HO6 := hid ho6; have HB6 := hid (HB5.out.grown hg6 HB5.out.size (fun k hk => (HO5.out.size k hk).1)); clear ho6 hg6))
    have HB7 := hid (HB4.out.trans (HB6.out.mono HB4.out.size))
    have HOA := hid (HO4.out.below HB6.out)
    have HOK := hid (HO6.out.mono HB4.out.size)
    have HNE : Hid (∀ k, Value.ownBlock (.slice A3 (goneL h t).length c3) = some k → Value.ownBlock (.slice A5 (goneL l t).length c5) ≠ some k) := by
      intro k h1 h2
      have a1 := (HO4.out.size k h1).2
      have a2 := (HO6.out.size k h2).1
      omega
    clear y0 y1 y40 y41
    go_loopw [7, 8, 9] (fun i7 i8 i9 wr => ∃ (h' l' : HS) (ws : List Int) (A' : Option Addr) (c' : Nat) (K' : Option Addr) (d' : Nat) (W' : Option Addr) (cw : Nat), i7 = .slice A' h'.length c' ∧ i8 = .slice K' l'.length d' ∧ i9 = .slice W' ws.length cw ∧ Hid (FrIn h' l' ws (freeL h l t)) ∧ Hid (OwnH wr w2.heap.size A' c' h') ∧ Hid (OwnH wr w2.heap.size K' d' l') ∧ Hid (OwnI wr w2.heap.size W' cw ws) ∧ Hid (∀ k, Value.ownBlock (.slice A' h'.length c') = some k → Value.ownBlock (.slice K' l'.length d') ≠ some k) ∧ Hid (Below w2.heap.size w2 wr)) (fun _ i8 _ _ => lenV i8)
    case atStart => exact ⟨goneL h t, goneL l t, [], A3, c3, A5, c5, none, 0, rfl, rfl, rfl, HIN.out, HOA.out, HOK.out, World.ownsRow_nil _ _ _ _, HNE.out, HB7.out⟩
    case round =>
      obtain ⟨h', l', ws, A', c', K', d', W', cw, rfl, rfl, rfl, HI, HA, HK, HW, HNN, HB⟩ := hrel
      have hlk2 := HI.out.lk
      have hlen1 := hlk2.hn
      have hlen2 := hlk2.ln
      have hwl := HI.out.wl
      have FT := hid (impl_firstToHold A' c' h' K' d' l' wr HA.out.rh hlk2.hh.fits (by unfold maxLen; omega) HK.out.rh hlk2.lh.fits HK.out.cap.1 HK.out.cap.2)
      clear hlk2
      cases hfl : firstL h' l' with
      | none =>
        have HD := hid (HI.out.done hfl)
        rw [firstV_none hfl] at FT
        have tkN : Hid (1 = 1) := rfl
        go_wp2_with (clear tkN; go_at_call 79; refine FT.out.mono ?_; rintro e w7 ⟨rfl, hb7⟩; have HB8 := hid (HB.out.trans (hb7.mono HB.out.size)); have HA7 := hid (HA.out.below hb7); have HK7 := hid (HK.out.below hb7); have HW7 := hid (HW.out.below hb7); have R7 := hid (R2.out.below HB8.out); clear hb7; have z0 := R7.out.c0; have z1 := R7.out.c1; have k0 := R7.out.fz 0; have k1 := R7.out.fz 1)
        have U1 := R7.out.s0 (.slice A' h'.length c')
        have A9 := ((HA7.out.stay (w' := w7.setCell ⟨w.heap.size + 2, 0, none⟩ (.slice A' h'.length c')) (fun q hq => heap_setCell_other _ _ q _ (fun e => own_ne (by decide) HA7.out R7.out q hq (by rw [e]; rfl))))).stay (w' := (w7.setCell ⟨w.heap.size + 2, 0, none⟩ (.slice A' h'.length c')).setCell ⟨w.heap.size + 2, 1, none⟩ (.slice K' l'.length d')) (fun q hq => heap_setCell_other _ _ q _ (fun e => own_ne (by decide) HA7.out R7.out q hq (by rw [e]; rfl)))
        have K9 := ((HK7.out.stay (w' := w7.setCell ⟨w.heap.size + 2, 0, none⟩ (.slice A' h'.length c')) (fun q hq => heap_setCell_other _ _ q _ (fun e => own_ne (by decide) HK7.out R7.out q hq (by rw [e]; rfl))))).stay (w' := (w7.setCell ⟨w.heap.size + 2, 0, none⟩ (.slice A' h'.length c')).setCell ⟨w.heap.size + 2, 1, none⟩ (.slice K' l'.length d')) (fun q hq => heap_setCell_other _ _ q _ (fun e => own_ne (by decide) HK7.out R7.out q hq (by rw [e]; rfl)))
        have I9 := rowI_keep (w' := (w7.setCell ⟨w.heap.size + 2, 0, none⟩ (.slice A' h'.length c')).setCell ⟨w.heap.size + 2, 1, none⟩ (.slice K' l'.length d')) (rowI_keep (w' := w7.setCell ⟨w.heap.size + 2, 0, none⟩ (.slice A' h'.length c')) HW7.out (fun q hq => heap_setCell_other _ _ q _ (fun e => own_ne (by decide) HW7.out R7.out q hq (by rw [e]; rfl)))) (fun q hq => heap_setCell_other _ _ q _ (fun e => own_ne (by decide) HW7.out R7.out q hq (by rw [e]; rfl)))
        have hbq := HB2.out.trans (HB8.out.mono HB2.out.size)
        refine world_post (S := fun wq => Row2 wq (w.heap.size + 2) 28 (.slice A' h'.length c') (.slice K' l'.length d') ∧ MadeFrO w (h', l', ws) (.returned (.tuple #[.agg #[.slice A' h'.length c', .slice K' l'.length d'], .slice W' ws.length cw])) wq) _
          ⟨U1.s1 _, A', c', K', d', W', cw, rfl, A9.mono HB2.out.size, K9.mono HB2.out.size, I9.mono HB2.out.size, HNN.out, (hbq.setCell (by simp; omega) _).setCell (by simp; omega) _⟩ ?_
        clear z0 z1 k0 k1 U1 A9 K9 I9 hbq
        intro wq ⟨hq, hqm⟩
        have q0 := hq.c0
        have q1 := hq.c1
        rw [HE.out, HD.out]
        exact bodyPost_ret (v := .tuple #[.agg #[.slice A' h'.length c', .slice K' l'.length d'], .slice W' ws.length cw]) (by simp [results, Try.results18, go_sem, q0, q1]) rfl hqm
      | some i =>
        obtain ⟨hi, hst⟩ := HI.out.step hfl
        have HST := hid hst
        rw [firstV_some hfl] at FT
        obtain ⟨kb, rfl⟩ : ∃ g, K' = some ⟨g, 0, none⟩ := by
          rcases HK.out.2 with ⟨hv, hz⟩ | ⟨g, cap, cur, hv, _⟩
          · omega
          · injection hv with e
            exact ⟨g, e⟩
        clear hst
        have hun := hid HI.out.un
        have hh2 : Hid (h'.length ≤ 1000) := by rw [Hid]; omega
        have hl2 : Hid (l'.length ≤ 1000) := by rw [Hid]; omega
        have HFH := hid HI.out.lk.hh.fits
        have HW1 : Hid (ws.length + 1 ≤ maxLen) := by unfold maxLen; rw [Hid]; omega
        have HW2 : Hid ((ws.length + 1) * 8 ≤ 140737488355328) := by rw [Hid]; omega
        have ei : (0 : Int) ≤ (i : Int) := by omega
        have ei2 : (i : Int) < (l'.length : Int) := by omega
        have tk1 : Hid (1 = 1) := rfl
        have tk2 : Hid (1 = 1) := rfl
        have tk3 : Hid (1 = 1) := rfl
        have tk4 : Hid (1 = 1) := rfl
        go_wp2_with (first
          | (clear tk1; go_at_call 79; refine FT.out.mono ?_; rintro e w7 ⟨rfl, hb7⟩; have HB8 := hid (HB.out.trans (hb7.mono HB.out.size)); have HA7 := hid (HA.out.below hb7); have HK7 := hid (HK.out.below hb7); have HW7 := hid (HW.out.below hb7); clear hb7; obtain ⟨_, _, ea6, _, ca6, cb6, cc6⟩ := HK7.out.rh.at_ hi; obtain ⟨ea, eb⟩ := some_lit ea6; subst ea eb; simp only [Nat.zero_add] at ca6 cb6 cc6; clear ea6)
          | (clear tk2; go_at_call 80; refine (impl_withHold A' c' h' l'[i] w2.heap.size w7 HA7.out HFH.out hun.out hh2.out HB8.out.size).mono ?_; rintro e w8 ⟨⟨A8, c8, rfl, ho8, hat8⟩, hg8⟩; have HO8 := hid ho8; have HAT8 := hid hat8; have HK8 := hid (HK7.out.keepG hg8 (fun q hq e => HNN.out q e.symm hq)); have HW8 := hid (rowI_keep HW7.out (fun q hq => hg8.block q (World.ownsRow.lt HW7.out q hq).2 (fun e => own_ne (by decide) HA7.out HW7.out q e.symm hq))); have HB9 := hid (HB8.out.grown hg8 HB8.out.size (fun q hq => (HA7.out.size q hq).1)); have HS8 := hid hg8.size; clear ho8 hat8 hg8 ca6 cb6 cc6; obtain ⟨_, _, ea8, _, ca8, cb8, cc8⟩ := HK8.out.rh.at_ hi; obtain ⟨ea, eb⟩ := some_lit ea8; subst ea eb; simp only [Nat.zero_add] at ca8 cb8 cc8; clear ea8; have HWA := hid (HW8.out.below ((Below.refl w8.heap.size _).alloc (Nat.le_refl _) (.cells #[.int .i64 l'[i].1] 2))))
          | (clear tk3; at_builtin; refine wpList_append_lies _ rfl _ _ _ rfl w2.heap.size 2 j0 _ 1 8 Try.underlying29 hj0 hy0 hy1 hy2 rfl (by omega) (.slice W' ws.length cw) ws.length (icells ws) rfl HWA.out ⟨w8.heap.size, 0, none⟩ 1 1 [.int .i64 l'[i].1] rfl rfl (World.news_of_block (cs := #[.int .i64 l'[i].1]) (t := 2) (fr := (0, 0)) (heap_alloc_new _ _)) (by simp [Value.oneCell']) (by omega) HW1.out HW2.out (by have := HB9.out.size; simp; omega) (w8.heap.size + 1) (by simp) ?_; intro W13 cap13 w13 hown13 hgrow13 hat13 hlt13; have HO13 := hid hown13; have HG13 := hid hgrow13; have HA13 := hid ((HO8.out.below ((Below.refl w8.heap.size _).alloc (Nat.le_refl _) (.cells #[.int .i64 l'[i].1] 2))).keepG hgrow13 (fun q hq e => own_ne (by decide) HO8.out HW8.out q hq e.symm)); have HK13 := hid ((HK8.out.below ((Below.refl w8.heap.size _).alloc (Nat.le_refl _) (.cells #[.int .i64 l'[i].1] 2))).keepG hgrow13 (fun q hq e => own_ne (by decide) HK8.out HW8.out q hq e.symm)); have HB13 := hid ((HB9.out.alloc HB9.out.size (.cells #[.int .i64 l'[i].1] 2)).grown hgrow13 (by have := HB9.out.size; simp; omega) (fun q hq => (World.ownsRow.lt HW8.out q hq).1)); clear hown13 hgrow13 hat13)
          | (clear tk4; go_at_call 81; refine (impl_delH kb d' i (i + 1) l' w2.heap.size w13 HK13.out hi rfl hl2.out).mono ?_; rintro e w14 ⟨rfl, ho14, hg14⟩; have HO14 := hid ho14; have HG14 := hid hg14; clear ho14 hg14))
        have hcl := cutAt_length hi
        have HG := HG14.out
        have hkb : Value.ownBlock (.slice (some ⟨kb, 0, none⟩) l'.length d') = some kb := rfl
        have hne8 : ∀ q, Value.ownBlock (.slice A8 (giveL h' l'[i]).length c8) = some q → Value.ownBlock (.slice (some ⟨kb, 0, none⟩) l'.length d') ≠ some q := by
          intro q h1 h2
          rcases HAT8.out with h3 | ⟨k, h3, h4⟩
          · exact HNN.out q (h3.symm.trans h1) h2
          · rw [h1] at h3
            injection h3 with h3
            have := (HK7.out.size q h2).2
            omega
        have A14 := HA13.out.keepG HG (fun q hq e => hne8 q hq (hkb.trans e.symm))
        have I13 : OwnI w13 w2.heap.size (some ⟨W13, 0, none⟩) cap13 (ws ++ [l'[i].1]) := by
          have := HO13.out
          rw [icells_snocW] at this
          unfold OwnI
          rw [List.length_append]
          exact this
        have I14 := rowI_keep I13 (fun q hq => HG.block q (World.ownsRow.lt I13 q hq).2 (fun e => own_ne (by decide) HK13.out I13 q (hkb.trans e.symm) hq))
        have B14 := HB13.out.grown HG HB13.out.size (fun q hq => (HK13.out.size q (hkb.trans hq)).1)
        go_roundw
        case rel => exact ⟨giveL h' l'[i], cutAt l' i, ws ++ [l'[i].1], A8, c8, some ⟨kb, 0, none⟩, d', some ⟨W13, 0, none⟩, cap13, rfl, rfl, by simp, HST.out, A14, HO14.out, I14, hne8, B14⟩
        case measure => simp [lenV, hcl]; omega
end Go.Proofs.Ytepgcflkgicpiaa
