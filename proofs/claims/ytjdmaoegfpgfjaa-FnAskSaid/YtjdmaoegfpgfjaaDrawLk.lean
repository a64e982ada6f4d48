/-
  Locks that are drawn.
  Locks and a transaction that are drawn.
-/
import Derived.Test.YtjdmaoegfpgfjaaDrawH
import Derived.Test.YtjdmaoegfpgfjaaAskS
import Derived.Test.YtjdmaoegfpgfjaaFreeS5
namespace Go.Proofs.Ytjdmaoegfpgfjaa
open Go.RowKit

/-- Locks in a variable's block, while they are drawn. -/
structure LkSt (w wr : World) (B g : Nat) (A : Option Addr) (c : Nat) (h : HS) (K : Option Addr) (d : Nat) (l : HS) : Prop where
  v : Row2 wr (w.heap.size + 1) 39 (.slice A h.length c) (.slice K l.length d)
  z : Row2 wr w.heap.size 39 (.slice none 0 0) (.slice none 0 0)
  oh : OwnH wr (w.heap.size + 2) A c h
  ol : OwnH wr (w.heap.size + 2) K d l
  ap : ∀ k, Value.ownBlock (.slice A h.length c) = some k → Value.ownBlock (.slice K l.length d) ≠ some k
  rd : Rd wr B g
  gr : w.grownBy wr (some g)
  sz : w.heap.size + 2 ≤ wr.heap.size
  gl : g < w.heap.size
section
variable {w wr wr' : World} {B g c d : Nat} {A K : Option Addr} {h l : HS}
theorem LkSt.grown (s : LkSt w wr B g A c h K d l) (hg : wr.grownBy wr' (some g)) (hr : Rd wr' B g) : LkSt w wr' B g A c h K d l where
  v := s.v.far hg (by rintro k hk; injection hk with hk; have := s.gl; omega)
  z := s.z.far hg (by rintro k hk; injection hk with hk; have := s.gl; omega)
  oh := s.oh.keepG hg (fun k hk e => by injection e with e; have := (s.oh.size k hk).1; have := s.gl; omega)
  ol := s.ol.keepG hg (fun k hk e => by injection e with e; have := (s.ol.size k hk).1; have := s.gl; omega)
  ap := s.ap
  rd := hr
  gr := grown_trans' s.gr hg
  sz := Nat.le_trans s.sz hg.size
  gl := s.gl
theorem LkSt.below (s : LkSt w wr B g A c h K d l) (hb : Below wr.heap.size wr wr') : LkSt w wr' B g A c h K d l := s.grown (grown_of_below hb) (s.rd.below hb)
theorem LkSt.store (s : LkSt w wr B g A c h K d l) {A' K' : Option Addr} {c' d' : Nat} {h' l' : HS} (oh' : OwnH wr (w.heap.size + 2) A' c' h') (ol' : OwnH wr (w.heap.size + 2) K' d' l')
    (ap' : ∀ k, Value.ownBlock (.slice A' h'.length c') = some k → Value.ownBlock (.slice K' l'.length d') ≠ some k) :
    LkSt w ((wr.setCell ⟨w.heap.size + 1, 0, none⟩ (.slice A' h'.length c')).setCell ⟨w.heap.size + 1, 1, none⟩ (.slice K' l'.length d')) B g A' c' h' K' d' l' where
  v := (s.v.s0 _).s1 _
  z := (s.z.other s.v (by omega) 0 _).other (s.v.s0 _) (by omega) 1 _
  oh := (oh'.set2 s.v (by omega) 0 _).set2 (s.v.s0 _) (by omega) 1 _
  ol := (ol'.set2 s.v (by omega) 0 _).set2 (s.v.s0 _) (by omega) 1 _
  ap := ap'
  rd := (s.rd.set (by have := s.gl; omega) (by have := s.gl; have := s.rd.lt.2; omega)).set (by have := s.gl; omega) (by have := s.gl; have := s.rd.lt.2; omega)
  gr := grown_cellR (grown_cellR s.gr (by omega)) (by omega)
  sz := by simpa using s.sz
  gl := s.gl
/-- Another block of locks is written. -/
theorem LkSt.two (s : LkSt w wr B g A c h K d l) {gn : Nat} {a b : Value} (R : Row2 wr gn 39 a b) (hgn : w.heap.size + 2 ≤ gn) (u x : Value) :
    LkSt w ((wr.setCell ⟨gn, 0, none⟩ u).setCell ⟨gn, 1, none⟩ x) B g A c h K d l where
  v := (s.v.other R (by omega) 0 _).other (R.s0 _) (by omega) 1 _
  z := (s.z.other R (by omega) 0 _).other (R.s0 _) (by omega) 1 _
  oh := s.oh.two R u x
  ol := s.ol.two R u x
  ap := s.ap
  rd := (s.rd.set (by have := s.gl; omega) (by have := s.gl; have := s.rd.lt.2; omega)).set (by have := s.gl; omega) (by have := s.gl; have := s.rd.lt.2; omega)
  gr := grown_cellR (grown_cellR s.gr (by omega)) (by omega)
  sz := by simpa using s.sz
  gl := s.gl
theorem Rd.belowB {n : Nat} (h : Rd w B g) (hb : Below n w wr) (hg : g < n) : Rd wr B g := by
  obtain ⟨A, m, c, p, h1, h2, hh, hc, hB⟩ := h
  exact ⟨A, m, c, p, h1, h2, (hb.block g hg).trans hh, hc.keep fun q hq => hb.cell (by omega), hB⟩
theorem grown_belowB {n : Nat} (h : w.grownBy wr (some g)) (hb : Below n wr wr') (hn : w.heap.size ≤ n) : w.grownBy wr' (some g) :=
  ⟨hb.os.trans h.os, hb.tape.trans h.tape, hb.output.trans h.output, Nat.le_trans h.size hb.size, fun k hk hr => (hb.block k (Nat.lt_of_lt_of_le hk hn)).trans (h.block k hk hr)⟩
theorem LkSt.start (h : Rd w B g) : LkSt w ((w.alloc (.cells #[.slice none 0 0, .slice none 0 0] 39)).alloc (.cells #[.slice none 0 0, .slice none 0 0] 39)) B g none 0 [] none 0 [] := by
  have a0 := Row2.lit w 39 (.slice none 0 0) (.slice none 0 0)
  have a1 := Row2.lit (w.alloc (.cells #[.slice none 0 0, .slice none 0 0] 39)) 39 (.slice none 0 0) (.slice none 0 0)
  rw [World.size_alloc] at a1
  have hb : Below w.heap.size w ((w.alloc (.cells #[.slice none 0 0, .slice none 0 0] 39)).alloc (.cells #[.slice none 0 0, .slice none 0 0] 39)) := Bl.al (Bl.al (Below.refl _ _))
  exact ⟨a1, a0.below (Bl.al (Below.refl _ _)), OwnH.nil_ _ _, OwnH.nil_ _ _, fun q hq => by simp [Value.ownBlock] at hq, h.below hb, grown_of_below hb, by simp, h.lt.1⟩
end

/-- A call on the reader g that answers locks of its own. -/
def LocksD (B g : Nat) (w : World) (e : Ending) (w' : World) : Prop := ∃ A c h K d l, e = .returned (.agg #[.slice A h.length c, .slice K l.length d]) ∧ OwnH w' w.heap.size A c h ∧ OwnH w' w.heap.size K d l ∧
  (∀ k, Value.ownBlock (.slice A h.length c) = some k → Value.ownBlock (.slice K l.length d) ≠ some k) ∧ FitsH h ∧ FitsH l ∧ h.length + l.length ≤ 10 ∧ Rd w' B g ∧ w.grownBy w' (some g)

set_option maxHeartbeats 8000000 in
set_option maxRecDepth 100000 in
theorem locks_any (B g : Nat) (w : World) (h : Rd w B g) :
    Calls Try.prog 74 #[.pointer (some ⟨g, 0, none⟩)] w (LocksD B g w) := by
  obtain ⟨i0, hi0, hz0, hz1, hz2⟩ := info_parts holdInfo
  have S0 := hid (LkSt.start h)
  clear h
  go_enter Try.func74, Try.ntmps74
  go_wp2_with fail
  refine (below_any B g 9 _ S0.out.rd (by omega) (by omega)).mono ?_
  rintro e w1 ⟨v, hv, rfl, hr1, hg1⟩
  have S1 := hid (S0.out.grown hg1 hr1)
  clear hr1 hg1
  go_wp2_with fail
  go_loopg [4] 9 (fun gg i wr => ∃ (k : Nat) (A : Option Addr) (c : Nat) (h : HS) (K : Option Addr) (d : Nat) (l : HS), k ≤ 8 ∧ k ≤ gg ∧ i = .int .i64 (k : Int) ∧ Hid (LkSt w wr B g A c h K d l) ∧ Hid (DLocks h l (8 - k)))
  case atStart => exact ⟨v, none, 0, [], none, 0, [], by omega, by omega, rfl, S1.out, DLocks.nil _⟩
  case round =>
    obtain ⟨k, A, c, h, K, d, l, hk, hkg, rfl, ST, DL⟩ := hrel
    have y0 := ST.out.v.c0
    have y1 := ST.out.v.c1
    by_cases hlt : 0 < k
    · go_wp2_with fail
      go_cut [5, 6] from 10 to 33 (fun sn sc wc => ∃ (x : HD) (gn : Nat) (A3 : Option Addr) (c3 : Nat) (K3 : Option Addr) (d3 : Nat), sn = .pointer (some ⟨gn, 0, none⟩) ∧ sc = .int .i64 (askR h l x).2.2 ∧ Hid (LkSt w wc B g A c h K d l) ∧ Hid (Row2 wc gn 39 (.slice A3 (askR h l x).1.length c3) (.slice K3 (askR h l x).2.1.length d3)) ∧ Hid (OwnH wc (w.heap.size + 2) A3 c3 (askR h l x).1) ∧ Hid (OwnH wc (w.heap.size + 2) K3 d3 (askR h l x).2.1) ∧ Hid (∀ k, Value.ownBlock (.slice A3 (askR h l x).1.length c3) = some k → Value.ownBlock (.slice K3 (askR h l x).2.1.length d3) ≠ some k))
      case first =>
        have tk1 : Hid (1 = 1) := rfl
        have tk2 : Hid (2 = 2) := rfl
        have L0 : Hid (w.heap.size + 1 < wr.heap.size) := ST.out.sz
        have L1 : Hid (g < wr.heap.size) := ST.out.rd.lt.1
        go_region_held3 (fun w' => w'.cell? ⟨w.heap.size + 1, 0, none⟩ = some (.slice A h.length c) ∧ w'.cell? ⟨w.heap.size + 1, 1, none⟩ = some (.slice K l.length d)) (go_keep)
          (first
            | (clear tk1; go_at_call 94; refine (hold_any B g _ (ST.out.rd.below (by repeat (first | exact Below.refl _ _ | refine Bl.al ?_ | refine Bl.dr ?_)))).mono ?_; rintro e wa ⟨x, rfl, hxs, hr, hg⟩; have HC := Bl.of (w := wr) hg (by repeat (first | exact Below.refl _ _ | refine Bl.al ?_ | refine Bl.dr ?_)); have STa := hid ((ST.out.below HC).grown hg hr); have hsa : wr.heap.size ≤ wa.heap.size := Nat.le_trans HC.size hg.size; have m1 : ¬ w.heap.size + 1 = wr.heap.size := (by have := L0.out; omega); have m1x : ¬ wr.heap.size = w.heap.size + 1 := (by have := L0.out; omega); have m2 : ¬ w.heap.size + 1 = wa.heap.size := (by have := L0.out; omega); have m2x : ¬ wa.heap.size = w.heap.size + 1 := (by have := L0.out; omega); have ya0 := STa.out.v.c0; have ya1 := STa.out.v.c1; (try (have Za := hid (show Row2 wa wr.heap.size 39 (.slice none 0 0) (.slice none 0 0) from (by first | exact row2_new (w := wr) hg (by simp) (by simpa using L1.out) | exact row2_new (w := wr.drew) hg (by simp) (by simpa using L1.out))))); clear hr hg HC)
            | (clear tk2; go_at_call 39; refine (spec_Ask A c h K d l x _ (STa.out.below (by repeat (first | exact Below.refl _ _ | refine Bl.al ?_ | refine Bl.dr ?_))).oh.rh DL.out.fits.1 (Nat.le_trans STa.out.oh.cap.1 STa.out.oh.cap.2) (STa.out.below (by repeat (first | exact Below.refl _ _ | refine Bl.al ?_ | refine Bl.dr ?_))).ol.rh DL.out.fits.2 (Nat.le_trans STa.out.ol.cap.1 STa.out.ol.cap.2) (by unfold maxLen; omega)).mono ?_; rintro e wd ⟨A3, c3, K3, d3, rfl, hA, hK, hne, hb⟩; have HC := Bl.ofB (w := wa) hb (by repeat (first | exact Below.refl _ _ | refine Bl.al ?_ | refine Bl.dr ?_)); have STd := hid ((STa.out.below HC).below hb); have hsd : wa.heap.size ≤ wd.heap.size := Nat.le_trans HC.size hb.size; have m3 : ¬ w.heap.size + 1 = wd.heap.size := (by have := L0.out; omega); have m3x : ¬ wd.heap.size = w.heap.size + 1 := (by have := L0.out; omega); have HA3 := hid (hA.mono (Nat.le_trans STa.out.sz HC.size)); have HK3 := hid (hK.mono (Nat.le_trans STa.out.sz HC.size)); have HNE := hid hne; have yd0 := STd.out.v.c0; have yd1 := STd.out.v.c1; (try (have Zd := hid ((Za.out.below HC).below hb))); (try (have Zd := hid (show Row2 wd wa.heap.size 39 (.slice none 0 0) (.slice none 0 0) from (by exact (Row2.lit wa _ _ _).below hb)))); (try (have zd0 := Zd.out.c0; have zd1 := Zd.out.c1; have kd0 := Zd.out.fz 0; have kd1 := Zd.out.fz 1)); clear hA hK hne hb HC)
          )
        all_goals
          go_wp2_with fail
          go_meet
          case rel => first
            | exact ⟨x, _, A3, c3, K3, d3, rfl, rfl, STd.out.two Zd.out (by have := L0.out; omega) _ _, (Zd.out.s0 _).s1 _, HA3.out.two Zd.out _ _, HK3.out.two Zd.out _ _, HNE.out⟩
            | exact ⟨x, _, A3, c3, K3, d3, rfl, rfl, STd.out.below (Bl.al (Below.refl _ _)), Row2.lit wd _ _ _, HA3.out.below (Bl.al (Below.refl _ _)), HK3.out.below (Bl.al (Below.refl _ _)), HNE.out⟩
      obtain ⟨x, gn, A3, c3, K3, d3, rfl, rfl, ST3, HN3, HA3, HK3, HNE⟩ := hcut
      clear y0 y1
      by_cases hcode : (askR h l x).2.2 = 4
      · have y0 : ((askR h l x).2.2 != 4) = false := by simp [hcode]
        have y1 : (askR h l x).2.2 = 4 := hcode
        clear hcode
        go_wp2_with fail
        obtain ⟨A4, c4, h4, K4, d4, l4, ST4, DL4⟩ : ∃ (A : Option Addr) (c : Nat) (h : HS) (K : Option Addr) (d : Nat) (l : HS), Hid (LkSt w wc B g A c h K d l) ∧ Hid (DLocks h l (9 - k)) := ⟨A, c, h, K, d, l, ST3.out, DL.out.more (by omega)⟩
        clear y0 y1
        refine (once_any B g 8 _ ST4.out.rd (by omega) (by omega)).mono ?_
        rintro e w5 ⟨b, rfl, hr5, hg5⟩
        have ST5 := hid (ST4.out.grown hg5 hr5)
        clear hr5 hg5
        cases b
        case false =>
          go_wp2_with fail
          go_roundg (gk - 1)
          case measure => omega
          case rel => exact ⟨k - 1, A4, c4, h4, K4, d4, l4, by omega, by omega, by go_num, ST5.out, DL4.out.more (by omega)⟩
        case true =>
          have y0 := ST5.out.v.c0
          have y1 := ST5.out.v.c1
          go_wp2_with fail
          have tk1 : Hid (1 = 1) := rfl
          have tk2 : Hid (2 = 2) := rfl
          go_region_with
            (first
              | (clear tk1; go_at_call 72; refine (below_any B g 4 _ (ST5.out.rd.below (by repeat (first | exact Below.refl _ _ | refine Bl.al ?_ | refine Bl.dr ?_))) (by omega) (by omega)).mono ?_; rintro e wa ⟨va, hva, rfl, hr, hg⟩; have HC := Bl.of (w := w5) hg (by repeat (first | exact Below.refl _ _ | refine Bl.al ?_ | refine Bl.dr ?_)); have STa := hid ((ST5.out.below HC).grown hg hr); have ya0 := STa.out.v.c0; have ya1 := STa.out.v.c1; clear hr hg HC)
              | (clear tk2; go_at_call 27; refine (spec_Free A4 c4 h4 K4 d4 l4 _ _ (STa.out.below (by repeat (first | exact Below.refl _ _ | refine Bl.al ?_ | refine Bl.dr ?_))).oh.rh DL4.out.fits.1 (Nat.le_trans STa.out.oh.cap.1 STa.out.oh.cap.2) (STa.out.below (by repeat (first | exact Below.refl _ _ | refine Bl.al ?_ | refine Bl.dr ?_))).ol.rh DL4.out.fits.2 (Nat.le_trans STa.out.ol.cap.1 STa.out.ol.cap.2)).mono ?_; rintro e wd ⟨A6, c6, K6, d6, W6, cw6, rfl, hA, hK, hne, _, hb⟩; have hw9 : IntKind.i64.wrap (1 + (va : Int)) = 1 + (va : Int) := IntWalk.i64_in _ (by omega); rw [hw9] at hA hK hne; clear hw9; have HC := Bl.ofB (w := wa) hb (by repeat (first | exact Below.refl _ _ | refine Bl.al ?_ | refine Bl.dr ?_)); have STd := hid ((STa.out.below HC).below hb); have HA6 := hid (hA.mono (Nat.le_trans STa.out.sz HC.size)); have HK6 := hid (hK.mono (Nat.le_trans STa.out.sz HC.size)); have HNE := hid hne; have yd0 := STd.out.v.c0; have yd1 := STd.out.v.c1; have zd0 := STd.out.v.fz 0; have zd1 := STd.out.v.fz 1; clear hA hK hne hb HC)
            )
          all_goals
            go_wp2_with fail
            go_roundg (gk - 1)
            case measure => omega
            case rel => exact ⟨k - 1, A6, c6, _, K6, d6, _, by omega, by omega, by go_num, STd.out.store HA6.out HK6.out HNE.out, (DL4.out.free (by omega) _).more (by omega)⟩
      · have HDL := hid (DL.out.ask hcode)
        have y0 : ((askR h l x).2.2 != 4) = true := by simp [hcode]
        have y1 : ¬ (askR h l x).2.2 = 4 := hcode
        have z0 := HN3.out.c0
        have z1 := HN3.out.c1
        have k0 := ST3.out.v.fz 0
        have k1 := ST3.out.v.fz 1
        have q0 := ST3.out.v.c0
        have q1 := ST3.out.v.c1
        clear hcode
        go_wp2_with fail
        clear z0 z1 k0 k1 q0 q1
        obtain ⟨A4, c4, h4, K4, d4, l4, ST4, DL4⟩ : ∃ (A' : Option Addr) (c' : Nat) (h' : HS) (K' : Option Addr) (d' : Nat) (l' : HS), Hid (LkSt w ((wc.setCell ⟨w.heap.size + 1, 0, none⟩ (.slice A3 (askR h l x).1.length c3)).setCell ⟨w.heap.size + 1, 1, none⟩ (.slice K3 (askR h l x).2.1.length d3)) B g A' c' h' K' d' l') ∧ Hid (DLocks h' l' (9 - k)) := ⟨A3, c3, _, K3, d3, _, ST3.out.store HA3.out HK3.out HNE.out, HDL.out.more (by omega)⟩
        generalize hgw : (wc.setCell ⟨w.heap.size + 1, 0, none⟩ (.slice A3 (askR h l x).1.length c3)).setCell ⟨w.heap.size + 1, 1, none⟩ (.slice K3 (askR h l x).2.1.length d3) = wz at *
        clear hgw
        clear y0 y1
        refine (once_any B g 8 _ ST4.out.rd (by omega) (by omega)).mono ?_
        rintro e w5 ⟨b, rfl, hr5, hg5⟩
        have ST5 := hid (ST4.out.grown hg5 hr5)
        clear hr5 hg5
        cases b
        case false =>
          go_wp2_with fail
          go_roundg (gk - 1)
          case measure => omega
          case rel => exact ⟨k - 1, A4, c4, h4, K4, d4, l4, by omega, by omega, by go_num, ST5.out, DL4.out.more (by omega)⟩
        case true =>
          have y0 := ST5.out.v.c0
          have y1 := ST5.out.v.c1
          go_wp2_with fail
          have tk1 : Hid (1 = 1) := rfl
          have tk2 : Hid (2 = 2) := rfl
          go_region_with
            (first
              | (clear tk1; go_at_call 72; refine (below_any B g 4 _ (ST5.out.rd.below (by repeat (first | exact Below.refl _ _ | refine Bl.al ?_ | refine Bl.dr ?_))) (by omega) (by omega)).mono ?_; rintro e wa ⟨va, hva, rfl, hr, hg⟩; have HC := Bl.of (w := w5) hg (by repeat (first | exact Below.refl _ _ | refine Bl.al ?_ | refine Bl.dr ?_)); have STa := hid ((ST5.out.below HC).grown hg hr); have ya0 := STa.out.v.c0; have ya1 := STa.out.v.c1; clear hr hg HC)
              | (clear tk2; go_at_call 27; refine (spec_Free A4 c4 h4 K4 d4 l4 _ _ (STa.out.below (by repeat (first | exact Below.refl _ _ | refine Bl.al ?_ | refine Bl.dr ?_))).oh.rh DL4.out.fits.1 (Nat.le_trans STa.out.oh.cap.1 STa.out.oh.cap.2) (STa.out.below (by repeat (first | exact Below.refl _ _ | refine Bl.al ?_ | refine Bl.dr ?_))).ol.rh DL4.out.fits.2 (Nat.le_trans STa.out.ol.cap.1 STa.out.ol.cap.2)).mono ?_; rintro e wd ⟨A6, c6, K6, d6, W6, cw6, rfl, hA, hK, hne, _, hb⟩; have hw9 : IntKind.i64.wrap (1 + (va : Int)) = 1 + (va : Int) := IntWalk.i64_in _ (by omega); rw [hw9] at hA hK hne; clear hw9; have HC := Bl.ofB (w := wa) hb (by repeat (first | exact Below.refl _ _ | refine Bl.al ?_ | refine Bl.dr ?_)); have STd := hid ((STa.out.below HC).below hb); have HA6 := hid (hA.mono (Nat.le_trans STa.out.sz HC.size)); have HK6 := hid (hK.mono (Nat.le_trans STa.out.sz HC.size)); have HNE := hid hne; have yd0 := STd.out.v.c0; have yd1 := STd.out.v.c1; have zd0 := STd.out.v.fz 0; have zd1 := STd.out.v.fz 1; clear hA hK hne hb HC)
            )
          all_goals
            go_wp2_with fail
            go_roundg (gk - 1)
            case measure => omega
            case rel => exact ⟨k - 1, A6, c6, _, K6, d6, _, by omega, by omega, by go_num, STd.out.store HA6.out HK6.out HNE.out, (DL4.out.free (by omega) _).more (by omega)⟩
    · obtain rfl : k = 0 := by omega
      clear y0 y1
      go_wp2_with fail
      refine (once_any B g 30 _ ST.out.rd (by omega) (by omega)).mono ?_
      rintro e w5 ⟨b, rfl, hr5, hg5⟩
      have ST5 := hid (ST.out.grown hg5 hr5)
      clear hr5 hg5
      have y0 := ST5.out.v.c0
      have y1 := ST5.out.v.c1
      have z0 := ST5.out.z.c0
      have z1 := ST5.out.z.c1
      have k0 := ST5.out.z.fz 0
      have k1 := ST5.out.z.fz 1
      by_cases happ : b = true ∧ 0 < h.length
      · obtain ⟨rfl, hpos⟩ := happ
        obtain ⟨b0, off, rfl, hb, hc1, hc2, hc3⟩ := ST5.out.oh.rh.at_ hpos
        simp only [Nat.zero_mul, Nat.add_zero] at hc1 hc2 hc3
        have e5 : (0 : Int) < (h.length : Int) := by omega
        have e6 : (1 : Int) ≤ (h.length : Int) := by omega
        have hT := DL.out.total
        have HS5 := hid ST5.out.sz
        have HN1 : Hid (h.length = h.length) := rfl
        have o0a := (ST5.out.v.below ((Below.refl w5.heap.size w5).alloc (Nat.le_refl _) (.cells #[.int .i64 h[0].1, .string h[0].2.1, .int .i64 h[0].2.2] 49))).c0
        have e8 : w.heap.size + 1 < w5.heap.size := ST5.out.sz
        have f0 := ST5.out.v.fz 0
        go_wp2_with fail
        go_region_law (refine step_append_rh _ (by rfl) _ _ _ (by rfl) i0 Try.underlying37 hi0 hz0 hz1 hz2 (w.heap.size + 2) (some ⟨b0, off, none⟩) h.length c h (by rfl) rfl (ST5.out.oh.below (((Below.refl _ _).drew).alloc (Nat.le_refl _) _)) (w5.heap.size + 1) (some ⟨w5.heap.size, 0, none⟩) 1 1 [h[0]] (by rfl) rfl (RH.new w5.drew h[0] 49) (by simp; omega) (by have := HS5.out; simp; omega) ?_; intro A' n' c' w7 hn7 hap7; obtain ⟨hq7, ho7, hb7⟩ := push_at ST5.out.oh rfl (by omega) HS5.out hap7 ST5.out.v; have HN7 := hid hn7; have o70 := hq7.c0; have o71 := hq7.c1; have f70 := hq7.fz 0; have PO7 := hid hq7; have HO7 := hid ho7; have HB7 := hid hb7; have Z7 := hid (ST5.out.z.keepB hb7 (by omega)); have HAT7 := hid hap7.at_; have HL7 := hid ((ST5.out.ol.below (((Below.refl _ _).drew).alloc (Nat.le_refl _) _)).far hap7.grown (fun k hk e => ST5.out.ap k hk e)); have z70 := Z7.out.c0; have z71 := Z7.out.c1; have kz0 := Z7.out.fz 0; have kz1 := Z7.out.fz 1; clear hn7 hap7 hq7 ho7 hb7)
        all_goals
          go_wp2_with fail
          have hn7 : n' = (h ++ [h[0]]).length := HN7.out
          have hap : ∀ k, Value.ownBlock (.slice A' (h ++ [h[0]]).length c') = some k → Value.ownBlock (.slice K l.length d) ≠ some k := fun q hq e => by
            rcases HAT7.out with e1 | e1
            · exact ST5.out.ap q (by rw [← hq, e1]) e
            · have h2 := (ST5.out.ol.size q e).2
              rw [hq] at e1
              injection e1 with e1
              have h3 : (w5.drew.alloc (.cells #[.int .i64 h[0].1, .string h[0].2.1, .int .i64 h[0].2.2] 49)).heap.size = w5.heap.size + 1 := by rw [World.size_alloc]; rfl
              have h4 : ((w5.alloc (.cells #[.int .i64 h[0].1, .string h[0].2.1, .int .i64 h[0].2.2] 49)).drew).heap.size = w5.heap.size + 1 := by show (w5.alloc _).heap.size = _; rw [World.size_alloc]
              omega
          have hz7 := Z7.out.other PO7.out (by omega) 0 (.slice A' n' c')
          have ho7 := HO7.out.set2 PO7.out (by omega) 0 (.slice A' n' c')
          have hl7 := HL7.out.set2 PO7.out (by omega) 0 (.slice A' n' c')
          have hr7 := ((ST5.out.rd.belowB HB7.out (by have := ST5.out.gl; omega)).set (gx := w.heap.size + 1) (j := 0) (v := .slice A' n' c') (by have := ST5.out.gl; omega) (by have := ST5.out.gl; have := ST5.out.rd.lt.2; omega))
          have hg7 := grown_cellR (gx := w.heap.size + 1) (j := 0) (v := .slice A' n' c') (grown_belowB ST5.out.gr HB7.out (by omega)) (by omega)
          refine world_post (S := fun wq => Row2 wq w.heap.size 39 (.slice A' n' c') (.slice K l.length d) ∧ OwnH wq (w.heap.size + 2) A' c' (h ++ [h[0]]) ∧ OwnH wq (w.heap.size + 2) K d l ∧ Rd wq B g ∧ w.grownBy wq (some g)) _
            ⟨(hz7.s0 _).s1 _, ho7.two hz7 _ _, hl7.two hz7 _ _, (hr7.set (by have := ST5.out.gl; omega) (by have := ST5.out.gl; have := ST5.out.rd.lt.2; omega)).set (by have := ST5.out.gl; omega) (by have := ST5.out.gl; have := ST5.out.rd.lt.2; omega), grown_cellR (grown_cellR hg7 (Nat.le_refl _)) (Nat.le_refl _)⟩ ?_
          clear y0 y1 z0 z1 k0 k1 hz7 ho7 hl7 hr7 hg7 o70 o71 f70 z70 z71 kz0 kz1 o0a
          intro wq ⟨hq, ho, hl, hrd, hgr⟩
          subst hn7
          have q0 := hq.c0
          have q1 := hq.c1
          exact bodyPost_ret (v := .agg #[.slice A' (h ++ [h[0]]).length c', .slice K l.length d]) (by simp [results, Try.results74, go_sem, q0, q1]) rfl ⟨A', c', h ++ [h[0]], K, d, l, rfl, ho.mono (by omega), hl.mono (by omega), hap, DL.out.fits.1.snoc (DL.out.fits.1 _ (List.getElem_mem hpos)), DL.out.fits.2, by have := DL.out.total; simp; omega, hrd, hgr⟩
      · have hb0 : (b && decide ((0 : Int) < (h.length : Int))) = false := by
          cases b
          · rfl
          · simp at happ
            simp [happ]
        have hb1 : b = true → decide (0 < h.length) = false ∧ ¬ 0 < h.length := fun e => by
          have : ¬ 0 < h.length := fun h' => happ ⟨e, h'⟩
          simp [this]
        cases b
        case' true => obtain ⟨g1, g2⟩ := hb1 rfl
        all_goals
          clear hb1 happ
          go_wp2_with fail
          refine world_post (S := fun wq => Row2 wq w.heap.size 39 (.slice A h.length c) (.slice K l.length d) ∧ OwnH wq (w.heap.size + 2) A c h ∧ OwnH wq (w.heap.size + 2) K d l ∧ Rd wq B g ∧ w.grownBy wq (some g)) _
            ⟨(ST5.out.z.s0 _).s1 _, ST5.out.oh.two ST5.out.z _ _, ST5.out.ol.two ST5.out.z _ _, (ST5.out.rd.set (by have := ST5.out.gl; omega) (by have := ST5.out.gl; have := ST5.out.rd.lt.2; omega)).set (by have := ST5.out.gl; omega) (by have := ST5.out.gl; have := ST5.out.rd.lt.2; omega), grown_cellR (grown_cellR ST5.out.gr (Nat.le_refl _)) (Nat.le_refl _)⟩ ?_
          clear y0 y1 z0 z1 k0 k1
          intro wq ⟨hq, ho, hl, hrd, hgr⟩
          have q0 := hq.c0
          have q1 := hq.c1
          exact bodyPost_ret (v := .agg #[.slice A h.length c, .slice K l.length d]) (by simp [results, Try.results74, go_sem, q0, q1]) rfl ⟨A, c, h, K, d, l, rfl, ho.mono (by omega), hl.mono (by omega), ST5.out.ap, DL.out.fits.1, DL.out.fits.2, by have := DL.out.total; omega, hrd, hgr⟩
end Go.Proofs.Ytjdmaoegfpgfjaa
namespace Go.Proofs.Ytjdmaoegfpgfjaa
open Go.RowKit

/-- While locks are drawn for an answer: the answer's block, the rows, the reader. -/
structure DrSt (w W : World) (a b : Value) (A : Option Addr) (c : Nat) (h : HS) (K : Option Addr) (d : Nat) (l : HS) (B g n : Nat) : Prop where
  z : Row2 W w.heap.size 39 a b
  oh : OwnH W n A c h
  ol : OwnH W n K d l
  rd : Rd W B g
  bl : Below w.heap.size w W
  gn : g < n
  wg : w.heap.size < g
section
variable {w W W' : World} {a b : Value} {A K : Option Addr} {c d B g n : Nat} {h l : HS}
theorem DrSt.grown (s : DrSt w W a b A c h K d l B g n) (hg : W.grownBy W' (some g)) (hr : Rd W' B g) : DrSt w W' a b A c h K d l B g n where
  z := s.z.far hg (by rintro k hk; injection hk with hk; have := s.wg; omega)
  oh := s.oh.keepG hg (fun k hk e => by injection e with e; have := (s.oh.size k hk).1; have := s.gn; omega)
  ol := s.ol.keepG hg (fun k hk e => by injection e with e; have := (s.ol.size k hk).1; have := s.gn; omega)
  rd := hr
  bl := s.bl.grown hg (by have := s.z.lt; have := s.bl.size; omega) (by rintro k hk; injection hk with hk; have := s.wg; omega)
  gn := s.gn
  wg := s.wg
theorem DrSt.below (s : DrSt w W a b A c h K d l B g n) (hb : Below W.heap.size W W') : DrSt w W' a b A c h K d l B g n := s.grown (grown_of_below hb) (s.rd.below hb)
theorem DrSt.set (s : DrSt w W a b A c h K d l B g n) (hB : B ≤ w.heap.size) (u v : Value) : DrSt w ((W.setCell ⟨w.heap.size, 0, none⟩ u).setCell ⟨w.heap.size, 1, none⟩ v) u v A c h K d l B g n where
  z := (s.z.s0 _).s1 _
  oh := s.oh.two s.z u v
  ol := s.ol.two s.z u v
  rd := (s.rd.set (by have := s.wg; omega) hB).set (by have := s.wg; omega) hB
  bl := (s.bl.setCell (Nat.le_refl _) _).setCell (Nat.le_refl _) _
  gn := s.gn
  wg := s.wg
end

/-- A reader that is opened over bytes below an elder block. -/
theorem openB_any (A : Option Addr) (n c B : Nat) (w : World) (hc : CB w B A n) (hn : n ≤ 1048576) (hB : B ≤ w.heap.size) :
    Calls Try.prog 69 #[.slice A n c] w fun e w' => e = .returned (.pointer (some ⟨w.heap.size, 0, none⟩)) ∧ Rd w' B w.heap.size ∧ Below w.heap.size w w' := by
  have HC := hid hc
  clear hc
  go_enter Try.func69, Try.ntmps69
  go_wp2_with fail
  go_ret
  exact ⟨rfl, rdNew c HC.out hn hB, (Below.refl _ _).alloc (Nat.le_refl _) _⟩

/-- Locks and a number that are drawn. -/
def FreeD (w : World) (e : Ending) (w' : World) : Prop := ∃ A c h K d l, ∃ t : Int, e = .returned (.tuple #[.agg #[.slice A h.length c, .slice K l.length d], .int .i64 t]) ∧ OwnH w' w.heap.size A c h ∧ OwnH w' w.heap.size K d l ∧
  FitsH h ∧ FitsH l ∧ h.length + l.length ≤ 10 ∧ Below w.heap.size w w'

set_option maxHeartbeats 4000000 in
set_option maxRecDepth 100000 in
theorem drawFree_any (A : Option Addr) (n c : Nat) (w : World) (hc : CB w w.heap.size A n) (hn : n ≤ 1048576) :
    Calls Try.prog 25 #[.slice A n c] w (FreeD w) := by
  have hb0 : Below w.heap.size w (w.alloc (.cells #[.slice none 0 0, .slice none 0 0] 39)) := Bl.al (Below.refl _ _)
  have z0 := Row2.lit w 39 (.slice none 0 0) (.slice none 0 0)
  have hc0 : CB (w.alloc (.cells #[.slice none 0 0, .slice none 0 0] 39)) w.heap.size A n := hc.keep fun p hp => hb0.cell hp
  have hs0 : (w.alloc (.cells #[.slice none 0 0, .slice none 0 0] 39)).heap.size = w.heap.size + 1 := World.size_alloc _ _
  have HB0 := hid hb0
  have Z0 := hid z0
  have HC := hid hc0
  have HS0 := hid hs0
  clear hc hb0 z0 hc0 hs0
  go_enter Try.func25, Try.ntmps25
  go_wp2_with fail
  generalize hw0 : w.alloc (.cells #[.slice none 0 0, .slice none 0 0] 39) = w0 at *
  clear hw0
  refine (openB_any A n c w.heap.size _ HC.out hn HB0.out.size).mono ?_
  rintro e w1 ⟨rfl, hr1, hb1⟩
  have HR1 := hid hr1
  have HB1 := hid hb1
  clear hr1 hb1
  go_wp2_with fail
  refine (locks_any w.heap.size w0.heap.size _ HR1.out).mono ?_
  rintro e w2 ⟨A2, c2, h, K2, d2, l, rfl, ho, hl, hap, hf, hg, ht, hr2, hg2⟩
  have ST : DrSt w w2 (.slice none 0 0) (.slice none 0 0) A2 c2 h K2 d2 l w.heap.size w0.heap.size w1.heap.size := by
    have h1 := HS0.out
    have h2 := HR1.out.lt.1
    exact ⟨(Z0.out.below HB1.out).far hg2 (by rintro k hk; injection hk with hk; omega), ho, hl, hr2, (HB0.out.trans (HB1.out.mono HB0.out.size)).grown hg2 (by omega) (by rintro k hk; injection hk with hk; omega), h2, by omega⟩
  have V0 := Row2.lit w2 39 (.slice A2 h.length c2) (.slice K2 l.length d2)
  have ST2 := ST.below (Bl.al (Below.refl w2.heap.size w2) (o := .cells #[.slice A2 h.length c2, .slice K2 l.length d2] 39))
  have S2 := hid ST2
  have V := hid V0
  have L1 : w.heap.size < w2.heap.size := ST.z.lt
  have L1b := HS0.out
  have L2 : Hid (w0.heap.size < w2.heap.size) := hr2.lt.1
  have HF := hid hf
  have HG := hid hg
  have HT := hid ht
  clear ho hl hap hf hg hr2 hg2 ST V0 ST2 L1b
  go_wp2_with fail
  generalize hw3 : w2.alloc (.cells #[.slice A2 h.length c2, .slice K2 l.length d2] 39) = w3 at *
  clear hw3
  have v0 := V.out.c0
  have v1 := V.out.c1
  have r0 := S2.out.z.c0
  have r1 := S2.out.z.c1
  have q0 := S2.out.z.fz 0
  have q1 := S2.out.z.fz 1
  have S3 := hid (S2.out.set (Nat.le_refl _) (.slice A2 h.length c2) (.slice K2 l.length d2))
  have m1 : ¬ w.heap.size = w2.heap.size := by omega
  have m2 : ¬ w2.heap.size = w.heap.size := by omega
  go_region_with (first
    | (go_at_call 75; refine (off_any w.heap.size w0.heap.size 1 4 _ (S2.out.rd.below (by first | exact Below.refl _ _ | exact (Below.refl _ _).drew)) (by omega) (by omega) (by omega)).mono ?_; rintro e w4 ⟨t, rfl, hr4, hg4⟩; have S4 := hid ((S2.out.below (by first | exact Below.refl _ _ | exact (Below.refl _ _).drew)).grown hg4 hr4); have V4 := hid ((V.out.below (by first | exact Below.refl _ _ | exact (Below.refl _ _).drew)).far hg4 (by rintro k hk; injection hk with hk; have := L2.out; omega)); have v40 := V4.out.c0; have v41 := V4.out.c1; have r40 := S4.out.z.c0; have r41 := S4.out.z.c1; have q40 := S4.out.z.fz 0; have q41 := S4.out.z.fz 1; clear hr4 hg4)
    | (go_at_call 75; refine (off_any w.heap.size w0.heap.size 1 4 _ (S3.out.rd.below (by first | exact Below.refl _ _ | exact (Below.refl _ _).drew)) (by omega) (by omega) (by omega)).mono ?_; rintro e w4 ⟨t, rfl, hr4, hg4⟩; have S5 := hid ((S3.out.below (by first | exact Below.refl _ _ | exact (Below.refl _ _).drew)).grown hg4 hr4); clear hr4 hg4))
  all_goals
    go_wp2_with fail
    first
      | (refine world_post (S := fun wq => DrSt w wq (.slice A2 h.length c2) (.slice K2 l.length d2) A2 c2 h K2 d2 l w.heap.size w0.heap.size w1.heap.size) _ (S4.out.set (Nat.le_refl _) _ _) ?_)
      | (refine world_post (S := fun wq => DrSt w wq (.slice A2 h.length c2) (.slice K2 l.length d2) A2 c2 h K2 d2 l w.heap.size w0.heap.size w1.heap.size) _ S5.out ?_)
    intro wq hq
    have u0 := hq.z.c0
    have u1 := hq.z.c1
    exact bodyPost_ret (v := .tuple #[.agg #[.slice A2 h.length c2, .slice K2 l.length d2], .int .i64 t]) (by simp [results, Try.results25, go_sem, u0, u1]) rfl ⟨A2, c2, h, K2, d2, l, t, rfl, hq.oh.mono (by have := hq.gn; have := hq.wg; omega), hq.ol.mono (by have := hq.gn; have := hq.wg; omega), HF.out, HG.out, HT.out, hq.bl⟩
end Go.Proofs.Ytjdmaoegfpgfjaa
