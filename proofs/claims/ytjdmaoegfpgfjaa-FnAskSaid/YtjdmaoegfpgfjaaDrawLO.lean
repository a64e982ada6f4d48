/-
  Locks that are drawn, one mode of which may be another one; and what is asked of locks.
-/
import Derived.Test.YtjdmaoegfpgfjaaDrawLk
namespace Go.Proofs.Ytjdmaoegfpgfjaa
open Go.RowKit

theorem hcells_mset : ∀ (hs : HS) (k : Nat) (m : Int) (hk : k < hs.length), (hcells hs).set (k * 3 + 2) (.int .i64 m) = hcells (hs.set k (hs[k].1, hs[k].2.1, m))
  | [], k, m, hk => by simp at hk
  | x :: hs, 0, m, hk => rfl
  | x :: hs, k + 1, m, hk => by
    have hk' : k < hs.length := by simpa using hk
    have h := hcells_mset hs k m hk'
    rw [show (k + 1) * 3 + 2 = (k * 3 + 2) + 3 by omega]
    show ([Value.int .i64 x.1, .string x.2.1, .int .i64 x.2.2] ++ hcells hs).set ((k * 3 + 2) + 3) _ = [Value.int .i64 x.1, .string x.2.1, .int .i64 x.2.2] ++ hcells (hs.set k (hs[k].1, hs[k].2.1, m))
    rw [List.set_append_right _ _ (by simp), ← h]
    simp

/-- Locks of the call's own. -/
def LocksOD (w : World) (e : Ending) (w' : World) : Prop := ∃ A c h K d l, e = .returned (.agg #[.slice A h.length c, .slice K l.length d]) ∧ OwnH w' w.heap.size A c h ∧ OwnH w' w.heap.size K d l ∧ FitsH h ∧ FitsH l ∧ h.length + l.length ≤ 10 ∧ Below w.heap.size w w'

set_option maxHeartbeats 8000000 in
set_option maxRecDepth 100000 in
theorem drawLocksOk_any (A : Option Addr) (n c : Nat) (w : World) (hc : CB w w.heap.size A n) (hn : n ≤ 1048576) :
    Calls Try.prog 40 #[.slice A n c] w (LocksOD w) := by
  have hb0 : Below w.heap.size w (w.alloc (.cells #[.slice none 0 0, .slice none 0 0] 39)) := Bl.al (Below.refl _ _)
  have z0 := Row2.lit w 39 (.slice none 0 0) (.slice none 0 0)
  have hc0 : CB (w.alloc (.cells #[.slice none 0 0, .slice none 0 0] 39)) w.heap.size A n := hc.keep fun p hp => hb0.cell hp
  have hs0 : (w.alloc (.cells #[.slice none 0 0, .slice none 0 0] 39)).heap.size = w.heap.size + 1 := World.size_alloc _ _
  have HB0 := hid hb0
  have Z0 := hid z0
  have HC := hid hc0
  have HS0 := hid hs0
  clear hc hb0 z0 hc0 hs0
  go_enter Try.func40, Try.ntmps40
  go_wp2_with fail
  generalize hw0 : w.alloc (.cells #[.slice none 0 0, .slice none 0 0] 39) = w0 at *
  clear hw0
  refine (openB_any A n c w.heap.size _ HC.out hn HB0.out.size).mono ?_
  rintro e w1 ⟨rfl, hr1, hb1⟩
  have HR1 := hid hr1
  have HB1 := hid hb1
  clear hr1 hb1
  go_wp2_with fail
  refine (locks_any w.heap.size w0.heap.size _ HR1.out).mono ?_
  rintro e w2 ⟨A2, c2, h, K2, d2, l, rfl, ho, hl, hap, hf, hg, ht, hr2, hg2⟩
  have ST : DrSt w w2 (.slice none 0 0) (.slice none 0 0) A2 c2 h K2 d2 l w.heap.size w0.heap.size w1.heap.size := by
    have h1 := HS0.out
    have h2 := HR1.out.lt.1
    exact ⟨(Z0.out.below HB1.out).far hg2 (by rintro k hk; injection hk with hk; omega), ho, hl, hr2, (HB0.out.trans (HB1.out.mono HB0.out.size)).grown hg2 (by omega) (by rintro k hk; injection hk with hk; omega), h2, by omega⟩
  have V0 := Row2.lit w2 39 (.slice A2 h.length c2) (.slice K2 l.length d2)
  have ST2 := ST.below (Bl.al (Below.refl w2.heap.size w2) (o := .cells #[.slice A2 h.length c2, .slice K2 l.length d2] 39))
  have S2 := hid ST2
  have V := hid V0
  have L1 : w.heap.size < w2.heap.size := ST.z.lt
  have L2 : Hid (w0.heap.size < w2.heap.size) := hr2.lt.1
  have HOL : Hid (∀ k, Value.ownBlock (.slice A2 h.length c2) = some k → k < w2.heap.size) := fun k hk => (ho.size k hk).2
  have HAP := hid hap
  have HF := hid hf
  have HG := hid hg
  have HT := hid ht
  clear ho hl hap hf hg hr2 hg2 ST V0 ST2
  go_wp2_with fail
  generalize hw3 : w2.alloc (.cells #[.slice A2 h.length c2, .slice K2 l.length d2] 39) = w3 at *
  clear hw3
  refine (once_any w.heap.size w0.heap.size 4 _ S2.out.rd (by omega) (by omega)).mono ?_
  rintro e w4 ⟨b, rfl, hr4, hg4⟩
  have S4 := hid (S2.out.grown hg4 hr4)
  have V4 := hid (V.out.far hg4 (by rintro k hk; injection hk with hk; have := L2.out; omega))
  clear hr4 hg4
  have v0 := V4.out.c0
  have v1 := V4.out.c1
  have m1 : ¬ w.heap.size = w2.heap.size := by omega
  have m2 : ¬ w2.heap.size = w.heap.size := by omega
  by_cases happ : b = true ∧ 0 < h.length
  · obtain ⟨rfl, hpos⟩ := happ
    obtain ⟨kb, rfl⟩ : ∃ kb, A2 = some ⟨kb, 0, none⟩ := by
      rcases S4.out.oh.2 with ⟨hv, hn⟩ | ⟨q, cap, cur, hv, _⟩
      · omega
      · injection hv with e1
        exact ⟨q, e1⟩
    have HKB : Hid (kb < w2.heap.size) := HOL.out kb rfl
    have HKG : Hid (w1.heap.size ≤ kb) := (S4.out.oh.size kb rfl).1
    have hcap := S4.out.oh.cap
    have HCAP := hid hcap
    have e5 : (0 : Int) < (h.length : Int) := by omega
    have e6 : (h.length : Int) ≤ 10 := by have := HT.out; omega
    have tk1 : Hid (1 = 1) := rfl
    have tk2 : Hid (2 = 2) := rfl
    clear hcap
    go_wp2_with fail
    go_cut [] from 17 to 27 (fun wc => ∃ (v : Nat) (m : Int) (hv : v < h.length), Hid (DrSt w wc (.slice none 0 0) (.slice none 0 0) (some ⟨kb, 0, none⟩) c2 (h.set v (h[v].1, h[v].2.1, m)) K2 d2 l w.heap.size w0.heap.size w1.heap.size) ∧ Hid (Row2 wc w2.heap.size 39 (.slice (some ⟨kb, 0, none⟩) h.length c2) (.slice K2 l.length d2)))
    case first =>
      go_region_with (first
        | (clear tk1; go_at_call 72; refine (below_any w.heap.size w0.heap.size h.length _ (S4.out.rd.below (by repeat (first | exact Below.refl _ _ | refine Bl.al ?_ | refine Bl.dr ?_))) (by omega) (by omega)).mono ?_; rintro e w5 ⟨v, hv, rfl, hr5, hg5⟩; have HC := Bl.of (w := w4) hg5 (by repeat (first | exact Below.refl _ _ | refine Bl.al ?_ | refine Bl.dr ?_)); have S5 := hid ((S4.out.below HC).grown hg5 hr5); have V5 := hid ((V4.out.below HC).far hg5 (by rintro k hk; injection hk with hk; have := L2.out; omega)); have v50 := V5.out.c0; have v51 := V5.out.c1; have i1 : (0 : Int) ≤ (v : Int) := (by omega); have i2 : (v : Int) < (h.length : Int) := (by omega); clear hr5 hg5 HC)
        | (clear tk2; go_at_call 75; refine (off_any w.heap.size w0.heap.size 1 4 _ (S5.out.rd.below (by repeat (first | exact Below.refl _ _ | refine Bl.al ?_ | refine Bl.dr ?_))) (by omega) (by omega) (by omega)).mono ?_; rintro e w6 ⟨m, rfl, hr6, hg6⟩; have HC := Bl.of (w := w5) hg6 (by repeat (first | exact Below.refl _ _ | refine Bl.al ?_ | refine Bl.dr ?_)); have S6 := hid ((S5.out.below HC).grown hg6 hr6); have V6 := hid ((V5.out.below HC).far hg6 (by rintro k hk; injection hk with hk; have := L2.out; omega)); have v60 := V6.out.c0; have v61 := V6.out.c1; obtain ⟨q1, q2, q3, q4, q5, q6, q7⟩ := S6.out.oh.rh.at_ hv; injection q3 with q3; injection q3 with q8 q9; subst q8 q9; simp only [Nat.zero_add] at q7; have q10 := S6.out.oh.frozenAt (v * 3 + 2); clear hr6 hg6 HC q4 q5 q6))
      all_goals
        go_wp2_with fail
        go_meet
        case rel =>
          have hst := S6.out.oh.stored (v * 3 + 2) (.int .i64 m)
          have hl9 : (h.set v (h[v].1, h[v].2.1, m)).length = h.length := List.length_set
          refine ⟨v, m, hv, ⟨S6.out.z.far hst.2 (by rintro k hk; injection hk with hk; have := HKG.out; have := S6.out.gn; have := S6.out.wg; omega), ?_, S6.out.ol.set1 (fun k hk e => HAP.out kb rfl (by rw [hk, e])) _ _, S6.out.rd.set (by have := HKG.out; have := S6.out.gn; omega) (by have := HKG.out; have := S6.out.gn; have := S6.out.wg; omega), S6.out.bl.setCell (by have := HKG.out; have := S6.out.gn; have := S6.out.wg; show _ ≤ kb; omega) _, S6.out.gn, S6.out.wg⟩, V6.out.far hst.2 (by rintro k hk; injection hk with hk; have := HKB.out; omega)⟩
          have h1 := hst.1
          rw [hcells_mset h v m hv] at h1
          unfold OwnH
          rw [hl9]
          exact h1
    obtain ⟨v, m, hv, S7, V7⟩ := hcut
    clear v0 v1
    have v0 := V7.out.c0
    have v1 := V7.out.c1
    have r0 := S7.out.z.c0
    have r1 := S7.out.z.c1
    have f0 := S7.out.z.fz 0
    have f1 := S7.out.z.fz 1
    go_wp2_with fail
    refine world_post (S := fun wq => DrSt w wq (.slice (some ⟨kb, 0, none⟩) h.length c2) (.slice K2 l.length d2) (some ⟨kb, 0, none⟩) c2 (h.set v (h[v].1, h[v].2.1, m)) K2 d2 l w.heap.size w0.heap.size w1.heap.size) _ (S7.out.set (Nat.le_refl _) _ _) ?_
    clear v0 v1 r0 r1 f0 f1
    intro wq hq
    have u0 := hq.z.c0
    have u1 := hq.z.c1
    have hl9 : (h.set v (h[v].1, h[v].2.1, m)).length = h.length := List.length_set
    have hff : FitsH (h.set v (h[v].1, h[v].2.1, m)) := fun x hx => by
      rcases List.mem_or_eq_of_mem_set hx with hx | hx
      · exact HF.out x hx
      · rw [hx]
        exact HF.out h[v] (List.getElem_mem hv)
    exact bodyPost_ret (v := .agg #[.slice (some ⟨kb, 0, none⟩) h.length c2, .slice K2 l.length d2]) (by simp [results, Try.results40, go_sem, u0, u1]) rfl ⟨_, c2, _, K2, d2, l, by rw [hl9], hq.oh.mono (by have := hq.gn; have := hq.wg; omega), hq.ol.mono (by have := hq.gn; have := hq.wg; omega), hff, HG.out, by rw [hl9]; exact HT.out, hq.bl⟩
  · have hb1 : b = true → decide (0 < h.length) = false ∧ ¬ 0 < h.length := fun e => by
      have : ¬ 0 < h.length := fun h' => happ ⟨e, h'⟩
      simp [this]
    have r0 := S4.out.z.c0
    have r1 := S4.out.z.c1
    have f0 := S4.out.z.fz 0
    have f1 := S4.out.z.fz 1
    cases b
    case' true => obtain ⟨g1, g2⟩ := hb1 rfl
    all_goals
      clear hb1 happ
      go_wp2_with fail
      refine world_post (S := fun wq => DrSt w wq (.slice A2 h.length c2) (.slice K2 l.length d2) A2 c2 h K2 d2 l w.heap.size w0.heap.size w1.heap.size) _ (S4.out.set (Nat.le_refl _) _ _) ?_
      clear v0 v1 r0 r1 f0 f1
      intro wq hq
      have u0 := hq.z.c0
      have u1 := hq.z.c1
      exact bodyPost_ret (v := .agg #[.slice A2 h.length c2, .slice K2 l.length d2]) (by simp [results, Try.results40, go_sem, u0, u1]) rfl ⟨A2, c2, h, K2, d2, l, rfl, hq.oh.mono (by have := hq.gn; have := hq.wg; omega), hq.ol.mono (by have := hq.gn; have := hq.wg; omega), HF.out, HG.out, HT.out, hq.bl⟩

set_option maxHeartbeats 1000000 in
theorem drawWaits_any (A : Option Addr) (n c : Nat) (w : World) (hc : CB w w.heap.size A n) (hn : n ≤ 1048576) :
    Calls Try.prog 34 #[.slice A n c] w (LocksOD w) := by
  have hb0 : Below w.heap.size w (w.alloc (.cells #[.slice none 0 0, .slice none 0 0] 39)) := Bl.al (Below.refl _ _)
  have Z := hid (Row2.lit w 39 (.slice none 0 0) (.slice none 0 0))
  have HB0 := hid hb0
  have hc1 : CB (w.alloc (.cells #[.slice none 0 0, .slice none 0 0] 39)) (w.alloc (.cells #[.slice none 0 0, .slice none 0 0] 39)).heap.size A n := by
    rcases hc.keep (w' := w.alloc (.cells #[.slice none 0 0, .slice none 0 0] 39)) fun p hp => hb0.cell hp with h | ⟨b, off, e, hb, hx⟩
    · exact .inl h
    · exact .inr ⟨b, off, e, Nat.lt_of_lt_of_le hb hb0.size, hx⟩
  have HC := hid hc1
  clear hc hb0 hc1
  go_enter Try.func34, Try.ntmps34
  go_wp2_with fail
  generalize hw0 : w.alloc (.cells #[.slice none 0 0, .slice none 0 0] 39) = w0 at *
  clear hw0
  refine (drawLocksOk_any A n c w0 HC.out hn).mono ?_
  rintro e w1 ⟨A1, c1, h, K1, d1, l, rfl, ho, hl, hf, hg, ht, hb1⟩
  have Z1 := hid (Z.out.below hb1)
  have HO := hid (ho.mono HB0.out.size)
  have HL := hid (hl.mono HB0.out.size)
  have HB1 := hid (HB0.out.trans (hb1.mono HB0.out.size))
  have HF := hid hf
  have HG := hid hg
  have HT := hid ht
  clear ho hl hf hg ht hb1
  have z0 := Z1.out.c0
  have z1 := Z1.out.c1
  have k0 := Z1.out.fz 0
  have k1 := Z1.out.fz 1
  go_wp2_with fail
  refine world_post (S := fun wq => Row2 wq w.heap.size 39 (.slice A1 h.length c1) (.slice K1 l.length d1) ∧ OwnH wq w.heap.size A1 c1 h ∧ OwnH wq w.heap.size K1 d1 l ∧ Below w.heap.size w wq) _
    ⟨(Z1.out.s0 _).s1 _, HO.out.two Z1.out _ _, HL.out.two Z1.out _ _, (HB1.out.setCell (Nat.le_refl _) _).setCell (Nat.le_refl _) _⟩ ?_
  clear z0 z1 k0 k1
  intro wq ⟨hq, hqa, hqk, hqb⟩
  have q0 := hq.c0
  have q1 := hq.c1
  exact bodyPost_ret (v := .agg #[.slice A1 h.length c1, .slice K1 l.length d1]) (by simp [results, Try.results34, go_sem, q0, q1]) rfl ⟨A1, c1, h, K1, d1, l, rfl, hqa, hqk, HF.out, HG.out, HT.out, hqb⟩
end Go.Proofs.Ytjdmaoegfpgfjaa
