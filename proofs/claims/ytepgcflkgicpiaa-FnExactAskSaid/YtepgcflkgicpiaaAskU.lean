/-
  The model's Ask: refused, or told.
-/
import Derived.Test.YtepgcflkgicpiaaAskT
namespace Go.Proofs.Ytepgcflkgicpiaa
open Go.RowKit

theorem askR_no {h l : HS} {x : HD} (e : askOk h l x = false) : askR h l x = ([], [], 4) := by rw [askR, e]; rfl
theorem askR_yes {h l : HS} {x : HD} (e : askOk h l x = true) : askR h l x = askL h l (wholeH h x) := by rw [askR, e]; rfl
theorem askOk_not {h l : HS} {x : HD} (e : ¬ (locksB h l = true ∧ holdB x = true ∧ (l.any fun y => decide (y.1 = x.1)) = false ∧ h.length < 100 ∧ l.length < 20)) : askOk h l x = false := by
  cases h1 : askOk h l x
  · rfl
  · exact absurd (askOk_iff.1 h1) e

set_option maxHeartbeats 4000000 in
set_option maxRecDepth 100000 in
theorem spec_Ask (A : Option Addr) (c : Nat) (h : HS) (K : Option Addr) (d : Nat) (l : HS) (x : HD) (w : World) (hr : RH w w.heap.size A h) (hf : FitsH h) (hn : h.length ≤ maxLen) (hr' : RH w w.heap.size K l) (hf' : FitsH l) (hn' : l.length ≤ maxLen) (hx : x.2.1.size ≤ maxLen) :
    Calls Try.prog 31 #[.agg #[.slice A h.length c, .slice K l.length d], .agg #[.int .i64 x.1, .string x.2.1, .int .i64 x.2.2]] w (MadeAs w (askR h l x)) := by
  have HB := hid (ask_box2 w (.slice A h.length c) (.slice K l.length d) x (.cells #[.slice none 0 0, .slice none 0 0] 28))
  have r0 := Row2.lit ((w.alloc (.cells #[.slice A h.length c, .slice K l.length d] 28)).alloc (.cells #[.int .i64 x.1, .string x.2.1, .int .i64 x.2.2] 48)) 28 (.slice none 0 0) (.slice none 0 0)
  simp only [World.size_alloc] at r0
  have R := hid r0
  have HR := hid hr
  have HK := hid hr'
  have HF := hid hf
  have HG := hid hf'
  have HN := hid hn
  have HM := hid hn'
  have HX := hid hx
  clear hr hr' r0 hf hf' hn hn' hx
  go_enter Try.func31, Try.ntmps31
  go_wp2_with fail
  generalize hw1 : ((w.alloc (.cells #[.slice A h.length c, .slice K l.length d] 28)).alloc (.cells #[.int .i64 x.1, .string x.2.1, .int .i64 x.2.2] 48)).alloc (.cells #[.slice none 0 0, .slice none 0 0] 28) = w1 at *
  clear hw1
  refine (spec_LocksOk A c h K d l w1 ((HR.out.below HB.out.b).more HB.out.b.size) HF.out HN.out ((HK.out.below HB.out.b).more HB.out.b.size) HG.out HM.out).mono ?_
  rintro e w2 ⟨rfl, hb2⟩
  have HB2 := hid (HB.out.next hb2)
  have R2 := hid (R.out.below hb2)
  clear hb2 HB R
  have y0 := HB2.out.p.c0
  have y1 := HB2.out.p.c1
  have x0 := HB2.out.x.c0
  have x1 := HB2.out.x.c1
  have x2 := HB2.out.x.c2
  have k0 := R2.out.fz 0
  have k1 := R2.out.fz 1
  have z0 := R2.out.c0
  have z1 := R2.out.c1
  have HB2b := hid HB2.out.b
  cases hlk : locksB h l
  case false =>
    have HE := hid (askR_no (x := x) (askOk_not (h := h) (l := l) (fun p => by rw [hlk] at p; cases p.1)))
    go_wp2_with fail
    have U1 := R2.out.s0 (.slice none 0 0)
    refine world_post (S := fun wq => Row2 wq (w.heap.size + 1 + 1) 28 (.slice none 0 0) (.slice none 0 0) ∧ Below w.heap.size w wq) _ ⟨U1.s1 _, (HB2b.out.setCell (by simp; omega) _).setCell (by simp; omega) _⟩ ?_
    clear k0 k1 z0 z1 U1
    intro wq ⟨hq, hqb⟩
    have q0 := hq.c0
    have q1 := hq.c1
    rw [HE.out]
    exact bodyPost_ret (v := .tuple #[.agg #[.slice none 0 0, .slice none 0 0], .int .i64 4]) (by simp [results, Try.results31, go_sem, q0, q1]) rfl ⟨none, 0, none, 0, rfl, OwnH.nil_ _ _, OwnH.nil_ _ _, (fun _ h _ => by cases h), hqb⟩
  case true =>
    have HLK := hid hlk
    have HL := hid (locksB_iff.1 hlk)
    go_wp2_with fail
    refine (spec_l5Hold x w2 HX.out).mono ?_
    rintro e w3 ⟨rfl, hb3⟩
    have HB3 := hid (HB2.out.next hb3)
    have R3 := hid (R2.out.below hb3)
    have HB3b := hid HB3.out.b
    clear hb3 y0 y1 x0 x1 x2 k0 k1 z0 z1 HB2 HB2b R2
    have y0 := HB3.out.p.c0
    have y1 := HB3.out.p.c1
    have x0 := HB3.out.x.c0
    have x1 := HB3.out.x.c1
    have x2 := HB3.out.x.c2
    have k0 := R3.out.fz 0
    have k1 := R3.out.fz 1
    have z0 := R3.out.c0
    have z1 := R3.out.c1
    cases hho : holdB x
    case false =>
      have HE := hid (askR_no (x := x) (askOk_not (h := h) (l := l) (fun p => by rw [hho] at p; cases p.2.1)))
      go_wp2_with fail
      have U1 := R3.out.s0 (.slice none 0 0)
      refine world_post (S := fun wq => Row2 wq (w.heap.size + 1 + 1) 28 (.slice none 0 0) (.slice none 0 0) ∧ Below w.heap.size w wq) _ ⟨U1.s1 _, (HB3b.out.setCell (by simp; omega) _).setCell (by simp; omega) _⟩ ?_
      clear k0 k1 z0 z1 U1
      intro wq ⟨hq, hqb⟩
      have q0 := hq.c0
      have q1 := hq.c1
      rw [HE.out]
      exact bodyPost_ret (v := .tuple #[.agg #[.slice none 0 0, .slice none 0 0], .int .i64 4]) (by simp [results, Try.results31, go_sem, q0, q1]) rfl ⟨none, 0, none, 0, rfl, OwnH.nil_ _ _, OwnH.nil_ _ _, (fun _ h _ => by cases h), hqb⟩
    case true =>
      have HHO := hid hho
      by_cases h100 : (h.length : Int) = 100
      · have HE := hid (askR_no (x := x) (askOk_not (h := h) (l := l) (fun p => by omega)))
        have g1 := eqI_true h100
        clear h100
        go_wp2_with fail
        have U1 := R3.out.s0 (.slice none 0 0)
        refine world_post (S := fun wq => Row2 wq (w.heap.size + 1 + 1) 28 (.slice none 0 0) (.slice none 0 0) ∧ Below w.heap.size w wq) _ ⟨U1.s1 _, (HB3b.out.setCell (by simp; omega) _).setCell (by simp; omega) _⟩ ?_
        clear k0 k1 z0 z1 U1
        intro wq ⟨hq, hqb⟩
        have q0 := hq.c0
        have q1 := hq.c1
        rw [HE.out]
        exact bodyPost_ret (v := .tuple #[.agg #[.slice none 0 0, .slice none 0 0], .int .i64 4]) (by simp [results, Try.results31, go_sem, q0, q1]) rfl ⟨none, 0, none, 0, rfl, OwnH.nil_ _ _, OwnH.nil_ _ _, (fun _ h _ => by cases h), hqb⟩
      · by_cases h20 : (l.length : Int) = 20
        · have HE := hid (askR_no (x := x) (askOk_not (h := h) (l := l) (fun p => by omega)))
          have g1 := eqI_false h100
          have g2 := eqI_true h20
          clear h100 h20
          go_wp2_with fail
          have U1 := R3.out.s0 (.slice none 0 0)
          refine world_post (S := fun wq => Row2 wq (w.heap.size + 1 + 1) 28 (.slice none 0 0) (.slice none 0 0) ∧ Below w.heap.size w wq) _ ⟨U1.s1 _, (HB3b.out.setCell (by simp; omega) _).setCell (by simp; omega) _⟩ ?_
          clear k0 k1 z0 z1 U1
          intro wq ⟨hq, hqb⟩
          have q0 := hq.c0
          have q1 := hq.c1
          rw [HE.out]
          exact bodyPost_ret (v := .tuple #[.agg #[.slice none 0 0, .slice none 0 0], .int .i64 4]) (by simp [results, Try.results31, go_sem, q0, q1]) rfl ⟨none, 0, none, 0, rfl, OwnH.nil_ _ _, OwnH.nil_ _ _, (fun _ h _ => by cases h), hqb⟩
        · have HL1 : Hid (h.length < 100) := by have := HL.out.2.2.1; rw [Hid]; omega
          have HL2 : Hid (l.length < 20) := by have := HL.out.2.2.2; rw [Hid]; omega
          have g1 := eqI_false h100
          have g2 := eqI_false h20
          have hl20 : l.length < 20 := HL2.out
          clear h100 h20
          go_wp2_with fail
          clear g1 g2 x0 x1 x2 y0 y1 z0 z1 k0 k1
          go_loopw [6] (fun i wr => ∃ k : Nat, k ≤ l.length ∧ i = .int .i64 (k : Int) ∧ noneH l (fun y => decide (y.1 = x.1)) k ∧ Drawn w3 wr) (fun i _ => l.length - (intOf i).toNat)
          case atStart => exact ⟨0, Nat.zero_le _, rfl, fun i hi hk => absurd hk (by omega), Drawn.refl _⟩
          case round =>
            obtain ⟨k, hk, rfl, hnt, hdr⟩ := hrel
            have HD := hid (hdr.below w3.heap.size)
            have HDR := hid hdr
            have P4 := hid (HB3.out.p.below HD.out)
            have X4 := hid (HB3.out.x.below HD.out)
            have R4 := hid (R3.out.below HD.out)
            have HB4 := hid (HB3b.out.trans (HD.out.mono HB3b.out.size))
            clear hdr
            have y0 := P4.out.c0
            have y1 := P4.out.c1
            have x0 := X4.out.c0
            by_cases hlt : k < l.length
            · obtain ⟨b, off, rfl, hb, hc1, hc2, hc3⟩ := (HK.out.below HB4.out).at_ hlt
              have HS := hid (noneH_succ hnt hlt)
              have e5 : (0 : Int) ≤ (k : Int) := by omega
              have e6 : (k : Int) < (l.length : Int) := by omega
              clear hnt
              by_cases h1 : l[k].1 = x.1
              · have HE := hid (askR_no (x := x) (askOk_not (h := h) (l := l) (fun p => by have := List.any_eq_false.1 p.2.2.1 _ (List.getElem_mem hlt); simp only [decide_eq_true_eq] at this; exact this h1)))
                have g1 := eqI_true h1
                clear h1
                have k0 := R4.out.fz 0
                have k1 := R4.out.fz 1
                have z0 := R4.out.c0
                have z1 := R4.out.c1
                go_wp2_with fail
                go_quiet (fail)
                have HD5 : Hid (Below wr.heap.size wr (wr.drewN nq)) := ⟨rfl, rfl, rfl, Nat.le_refl _, fun _ _ => rfl⟩
                have R5 := hid (R4.out.below HD5.out)
                have HB5 := hid (HB4.out.trans (HD5.out.mono HB4.out.size))
                clear k0 k1 z0 z1 x0 y0 y1 hc1 hc2 hc3
                generalize hw5 : wr.drewN nq = w5 at *
                clear hw5
                have k0 := R5.out.fz 0
                have k1 := R5.out.fz 1
                have z0 := R5.out.c0
                have z1 := R5.out.c1
                go_wp2_with fail
                have U1 := R5.out.s0 (.slice none 0 0)
                refine world_post (S := fun wq => Row2 wq (w.heap.size + 1 + 1) 28 (.slice none 0 0) (.slice none 0 0) ∧ Below w.heap.size w wq) _ ⟨U1.s1 _, (HB5.out.setCell (by simp; omega) _).setCell (by simp; omega) _⟩ ?_
                clear k0 k1 z0 z1 U1
                intro wq ⟨hq, hqb⟩
                have q0 := hq.c0
                have q1 := hq.c1
                rw [HE.out]
                exact bodyPost_ret (v := .tuple #[.agg #[.slice none 0 0, .slice none 0 0], .int .i64 4]) (by simp [results, Try.results31, go_sem, q0, q1]) rfl ⟨none, 0, none, 0, rfl, OwnH.nil_ _ _, OwnH.nil_ _ _, (fun _ h _ => by cases h), hqb⟩
              · have g1 := eqI_false h1
                have HE := hid (HS.out (decide_eq_false h1))
                clear h1
                go_wp2_with fail
                go_quiet (fail)
                go_wp2_with fail
                go_roundw
                case rel => exact ⟨k + 1, by omega, by go_num, HE.out, HDR.out.drewN _⟩
                case measure => simp [intOf]; omega
            · obtain rfl : k = l.length := by omega
              have HOK := hid (askOk_iff.2 ⟨HLK.out, HHO.out, noneH_end hnt, HL1.out, HL2.out⟩)
              have HE := hid (askR_yes HOK.out)
              have x1 := X4.out.c1
              have x2 := X4.out.c2
              clear hnt
              go_wp2_with (go_at_call 89; refine (spec_l5Ask A c h K d l x wr ((HR.out.below HB4.out).more HB4.out.size) ((HK.out.below HB4.out).more HB4.out.size) HLK.out HHO.out).mono ?_; rintro e w5 ⟨A5, c5, K5, d5, rfl, hA, hK, hne, hb5⟩; have HA5 := hid hA; have HK5 := hid hK; have HNE := hid hne; have R5 := hid (R4.out.below hb5); have HB5 := hid (HB4.out.trans (hb5.mono HB4.out.size)); clear hA hK hne hb5 x0 x1 x2 y0 y1; have k0 := R5.out.fz 0; have k1 := R5.out.fz 1; have z0 := R5.out.c0; have z1 := R5.out.c1; generalize hres : askL h l (wholeH h x) = res at *)
              go_wp2_with fail
              refine world_post (S := fun wq => Row2 wq (w.heap.size + 1 + 1) 28 (.slice A5 res.1.length c5) (.slice K5 res.2.1.length d5) ∧ MadeAs w res (.returned (.tuple #[.agg #[.slice A5 res.1.length c5, .slice K5 res.2.1.length d5], .int .i64 res.2.2])) wq) _
                ⟨(R5.out.s0 _).s1 _, A5, c5, K5, d5, rfl, (HA5.out.two R5.out _ _).mono HB4.out.size, (HK5.out.two R5.out _ _).mono HB4.out.size, HNE.out, (HB5.out.setCell (by simp; omega) _).setCell (by simp; omega) _⟩ ?_
              clear k0 k1 z0 z1
              intro wq ⟨hq, hqm⟩
              have q0 := hq.c0
              have q1 := hq.c1
              rw [HE.out]
              exact bodyPost_ret (v := .tuple #[.agg #[.slice A5 res.1.length c5, .slice K5 res.2.1.length d5], .int .i64 res.2.2]) (by simp [results, Try.results31, go_sem, q0, q1]) rfl hqm
end Go.Proofs.Ytepgcflkgicpiaa
