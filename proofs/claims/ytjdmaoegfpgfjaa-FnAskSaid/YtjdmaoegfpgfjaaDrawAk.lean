/-
  Locks and what is asked of them, drawn.
-/
import Derived.Test.YtjdmaoegfpgfjaaDrawLk
import Derived.Test.YtjdmaoegfpgfjaaDrawLO
namespace Go.Proofs.Ytjdmaoegfpgfjaa
open Go.RowKit

theorem DrSt.set3 {w W : World} {a b : Value} {A K : Option Addr} {c d B g n : Nat} {h l : HS} {p q r : Value} (s : DrSt w W a b A c h K d l B g n) (Y : Row3 W (w.heap.size + 1) 49 p q r) (hB : B ≤ w.heap.size) (hyg : w.heap.size + 1 < g) (u v x : Value) :
    DrSt w (((W.setCell ⟨w.heap.size + 1, 0, none⟩ u).setCell ⟨w.heap.size + 1, 1, none⟩ v).setCell ⟨w.heap.size + 1, 2, none⟩ x) a b A c h K d l B g n where
  z := s.z.thrice Y (by omega) u v x
  oh := s.oh.out3 (by have := s.gn; omega) u v x
  ol := s.ol.out3 (by have := s.gn; omega) u v x
  rd := ((s.rd.set (by omega) (by omega)).set (by omega) (by omega)).set (by omega) (by omega)
  bl := ((s.bl.setCell (p := ⟨w.heap.size + 1, 0, none⟩) (by show _ ≤ w.heap.size + 1; omega) _).setCell (p := ⟨w.heap.size + 1, 1, none⟩) (by show _ ≤ w.heap.size + 1; omega) _).setCell (p := ⟨w.heap.size + 1, 2, none⟩) (by show _ ≤ w.heap.size + 1; omega) _
  gn := s.gn
  wg := s.wg

/-- Locks and a hold that are drawn. -/
def AskD (w : World) (e : Ending) (w' : World) : Prop := ∃ A c h K d l, ∃ x : HD, e = .returned (.tuple #[.agg #[.slice A h.length c, .slice K l.length d], .agg #[.int .i64 x.1, .string x.2.1, .int .i64 x.2.2]]) ∧ OwnH w' w.heap.size A c h ∧ OwnH w' w.heap.size K d l ∧
  FitsH h ∧ FitsH l ∧ h.length + l.length ≤ 10 ∧ x.2.1.size ≤ 1 ∧ Below w.heap.size w w'

set_option maxHeartbeats 8000000 in
set_option maxRecDepth 100000 in
theorem drawAsk_any (A : Option Addr) (n c : Nat) (w : World) (hc : CB w w.heap.size A n) (hn : n ≤ 1048576) :
    Calls Try.prog 37 #[.slice A n c] w (AskD w) := by
  have hb0 : Below w.heap.size w ((w.alloc (.cells #[.slice none 0 0, .slice none 0 0] 39)).alloc (.cells #[.int .i64 0, .string ⟨#[]⟩, .int .i64 0] 49)) := Bl.al (Bl.al (Below.refl _ _))
  have z0 := (Row2.lit w 39 (.slice none 0 0) (.slice none 0 0)).below (Bl.al (Below.refl _ _) (o := .cells #[.int .i64 0, .string ⟨#[]⟩, .int .i64 0] 49))
  have y0 := Row3.lit (w.alloc (.cells #[.slice none 0 0, .slice none 0 0] 39)) 49 (.int .i64 0) (.string ⟨#[]⟩) (.int .i64 0)
  rw [World.size_alloc] at y0
  have hc0 : CB ((w.alloc (.cells #[.slice none 0 0, .slice none 0 0] 39)).alloc (.cells #[.int .i64 0, .string ⟨#[]⟩, .int .i64 0] 49)) w.heap.size A n := hc.keep fun p hp => hb0.cell hp
  have hs0 : ((w.alloc (.cells #[.slice none 0 0, .slice none 0 0] 39)).alloc (.cells #[.int .i64 0, .string ⟨#[]⟩, .int .i64 0] 49)).heap.size = w.heap.size + 2 := by rw [World.size_alloc, World.size_alloc]
  have HB0 := hid hb0
  have Z0 := hid z0
  have Y0 := hid y0
  have HC := hid hc0
  have HS0 := hid hs0
  clear hc hb0 z0 hc0 hs0 y0
  go_enter Try.func37, Try.ntmps37
  go_wp2_with fail
  generalize hw0 : (w.alloc (.cells #[.slice none 0 0, .slice none 0 0] 39)).alloc (.cells #[.int .i64 0, .string ⟨#[]⟩, .int .i64 0] 49) = w0 at *
  clear hw0
  refine (openB_any A n c w.heap.size _ HC.out hn HB0.out.size).mono ?_
  rintro e w1 ⟨rfl, hr1, hb1⟩
  have HR1 := hid hr1
  have HB1 := hid hb1
  clear hr1 hb1
  go_wp2_with fail
  refine (locks_any w.heap.size w0.heap.size _ HR1.out).mono ?_
  rintro e w2 ⟨A2, c2, h, K2, d2, l, rfl, ho, hl, hap, hf, hg, ht, hr2, hg2⟩
  have ST : DrSt w w2 (.slice none 0 0) (.slice none 0 0) A2 c2 h K2 d2 l w.heap.size w0.heap.size w1.heap.size := by
    have h1 := HS0.out
    have h2 := HR1.out.lt.1
    exact ⟨(Z0.out.below HB1.out).far hg2 (by rintro k hk; injection hk with hk; omega), ho, hl, hr2, (HB0.out.trans (HB1.out.mono HB0.out.size)).grown hg2 (by omega) (by rintro k hk; injection hk with hk; omega), h2, by omega⟩
  have Y1 : Row3 w2 (w.heap.size + 1) 49 (.int .i64 0) (.string ⟨#[]⟩) (.int .i64 0) := (Y0.out.below HB1.out).farR hg2 (by rintro k hk; injection hk with hk; have := HS0.out; omega)
  have V0 := Row2.lit w2 39 (.slice A2 h.length c2) (.slice K2 l.length d2)
  have ST2 := ST.below (Bl.al (Below.refl w2.heap.size w2) (o := .cells #[.slice A2 h.length c2, .slice K2 l.length d2] 39))
  have S2 := hid ST2
  have Y2 := hid (Y1.below (Bl.al (Below.refl w2.heap.size w2) (o := .cells #[.slice A2 h.length c2, .slice K2 l.length d2] 39)))
  have V := hid V0
  have L1 : w.heap.size + 1 < w2.heap.size := (World.ownsRow.lt Y1 _ rfl).2
  have L2 : Hid (w0.heap.size < w2.heap.size) := hr2.lt.1
  have LY : Hid (w.heap.size + 1 < w0.heap.size) := by have := HS0.out; unfold Hid; omega
  have HF := hid hf
  have HG := hid hg
  have HT := hid ht
  clear ho hl hap hf hg hr2 hg2 ST V0 ST2 Y1
  go_wp2_with fail
  generalize hw3 : w2.alloc (.cells #[.slice A2 h.length c2, .slice K2 l.length d2] 39) = w3 at *
  clear hw3
  have v0 := V.out.c0
  have v1 := V.out.c1
  have r0 := S2.out.z.c0
  have r1 := S2.out.z.c1
  have q0 := S2.out.z.fz 0
  have q1 := S2.out.z.fz 1
  have S3 := hid (S2.out.set (Nat.le_refl _) (.slice A2 h.length c2) (.slice K2 l.length d2))
  have Y3 := hid ((Y2.out.other2 S2.out.z (by omega) 0 (.slice A2 h.length c2)).other2 (S2.out.z.s0 _) (by omega) 1 (.slice K2 l.length d2))
  have m1 : ¬ w.heap.size = w2.heap.size := by omega
  have m2 : ¬ w2.heap.size = w.heap.size := by omega
  have m3 : ¬ w.heap.size + 1 = w2.heap.size := by omega
  have m4 : ¬ w2.heap.size = w.heap.size + 1 := by omega
  go_region_with (first
    | (go_at_call 94; refine (hold_any w.heap.size w0.heap.size _ (S2.out.rd.below (by first | exact Below.refl _ _ | exact (Below.refl _ _).drew))).mono ?_; rintro e w4 ⟨x, rfl, hx, hr4, hg4⟩; have S4 := hid ((S2.out.below (by first | exact Below.refl _ _ | exact (Below.refl _ _).drew)).grown hg4 hr4); have Y4 := hid ((Y2.out.below (by first | exact Below.refl _ _ | exact (Below.refl _ _).drew)).farR hg4 (by rintro k hk; injection hk with hk; have := LY.out; omega)); have V4 := hid ((V.out.below (by first | exact Below.refl _ _ | exact (Below.refl _ _).drew)).far hg4 (by rintro k hk; injection hk with hk; have := L2.out; omega)); have v40 := V4.out.c0; have v41 := V4.out.c1; have r40 := S4.out.z.c0; have r41 := S4.out.z.c1; have q40 := S4.out.z.fz 0; have q41 := S4.out.z.fz 1; have y40 := Y4.out.c0; have y41 := Y4.out.c1; have y42 := Y4.out.c2; have p40 := Y4.out.fz 0; have p41 := Y4.out.fz 1; have p42 := Y4.out.fz 2; clear hr4 hg4)
    | (go_at_call 94; refine (hold_any w.heap.size w0.heap.size _ (S3.out.rd.below (by first | exact Below.refl _ _ | exact (Below.refl _ _).drew))).mono ?_; rintro e w4 ⟨x, rfl, hx, hr4, hg4⟩; have S5 := hid ((S3.out.below (by first | exact Below.refl _ _ | exact (Below.refl _ _).drew)).grown hg4 hr4); have Y5 := hid ((Y3.out.below (by first | exact Below.refl _ _ | exact (Below.refl _ _).drew)).farR hg4 (by rintro k hk; injection hk with hk; have := LY.out; omega)); have y50 := Y5.out.c0; have y51 := Y5.out.c1; have y52 := Y5.out.c2; have p50 := Y5.out.fz 0; have p51 := Y5.out.fz 1; have p52 := Y5.out.fz 2; clear hr4 hg4))
  all_goals
    go_wp2_with fail
    have HX := hid hx
    first
      | (refine world_post (S := fun wq => DrSt w wq (.slice A2 h.length c2) (.slice K2 l.length d2) A2 c2 h K2 d2 l w.heap.size w0.heap.size w1.heap.size ∧ Row3 wq (w.heap.size + 1) 49 (.int .i64 x.1) (.string x.2.1) (.int .i64 x.2.2)) _ ⟨S5.out.set3 Y5.out (Nat.le_refl _) LY.out _ _ _, ((Y5.out.s0 _).s1 _).s2 _⟩ ?_)
      | (have Y6 := hid ((Y4.out.other2 S4.out.z (by omega) 0 (.slice A2 h.length c2)).other2 (S4.out.z.s0 _) (by omega) 1 (.slice K2 l.length d2)); refine world_post (S := fun wq => DrSt w wq (.slice A2 h.length c2) (.slice K2 l.length d2) A2 c2 h K2 d2 l w.heap.size w0.heap.size w1.heap.size ∧ Row3 wq (w.heap.size + 1) 49 (.int .i64 x.1) (.string x.2.1) (.int .i64 x.2.2)) _ ⟨(S4.out.set (Nat.le_refl _) _ _).set3 Y6.out (Nat.le_refl _) LY.out _ _ _, ((Y6.out.s0 _).s1 _).s2 _⟩ ?_)
      | (have S6 := hid (S4.out.set3 Y4.out (Nat.le_refl _) LY.out (.int .i64 x.1) (.string x.2.1) (.int .i64 x.2.2)); have Y6 := ((Y4.out.s0 (.int .i64 x.1)).s1 (.string x.2.1)).s2 (.int .i64 x.2.2); refine world_post (S := fun wq => DrSt w wq (.slice A2 h.length c2) (.slice K2 l.length d2) A2 c2 h K2 d2 l w.heap.size w0.heap.size w1.heap.size ∧ Row3 wq (w.heap.size + 1) 49 (.int .i64 x.1) (.string x.2.1) (.int .i64 x.2.2)) _ ⟨S6.out.set (Nat.le_refl _) _ _, (Y6.other2 S6.out.z (by omega) 0 _).other2 (S6.out.z.s0 _) (by omega) 1 _⟩ ?_)
    intro wq ⟨hq, hy⟩
    have u0 := hq.z.c0
    have u1 := hq.z.c1
    have u2 := hy.c0
    have u3 := hy.c1
    have u4 := hy.c2
    exact bodyPost_ret (v := .tuple #[.agg #[.slice A2 h.length c2, .slice K2 l.length d2], .agg #[.int .i64 x.1, .string x.2.1, .int .i64 x.2.2]]) (by simp [results, Try.results37, go_sem, u0, u1, u2, u3, u4]) rfl ⟨A2, c2, h, K2, d2, l, x, rfl, hq.oh.mono (by have := hq.gn; have := hq.wg; omega), hq.ol.mono (by have := hq.gn; have := hq.wg; omega), HF.out, HG.out, HT.out, HX.out, hq.bl⟩
end Go.Proofs.Ytjdmaoegfpgfjaa
