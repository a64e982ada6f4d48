/-
  The model's Free: l5Wake, Free.
-/
import Derived.Test.YtjdmaoegfpgfjaaFreeS3
import Derived.Deep.LoopGhost
import Derived.Deep.AppendLies
namespace Go.Proofs.Ytjdmaoegfpgfjaa
open Go.RowKit

/-- What is asked of locks that are worked on. -/
structure LkIn (h l : HS) : Prop where
  hh : HoldsB h
  lh : HoldsB l
  hn : h.length + l.length ≤ 200
  ln : l.length ≤ 100
theorem LkIn.give {h l : HS} (p : LkIn h l) {i : Nat} (hi : i < l.length) : LkIn (giveL h l[i]) (cutAt l i) := by
  have h1 := giveL_length h l[i]
  have h2 := cutAt_length hi
  have := p.hn
  have := p.ln
  exact ⟨p.hh.give (p.lh.at_ hi), p.lh.cut i, by omega, by omega⟩
/-- What is still to be done: 'f' rounds at most. -/
theorem wakeF_done {h l : HS} (w : List Int) (e : firstL h l = none) : ∀ f, wakeF f h l w = (h, l, w)
  | 0 => rfl
  | f + 1 => by rw [wakeF, e]
theorem wakeF_step {h l : HS} {w : List Int} {i : Nat} (e : firstL h l = some i) : ∀ f, l.length ≤ f → wakeF f h l w = wakeF (f - 1) (giveL h (l.getD i (0, ⟨#[]⟩, 0))) (cutAt l i) (w ++ [(l.getD i (0, ⟨#[]⟩, 0)).1])
  | 0, hf => by
    have := firstL_lt e
    omega
  | f + 1, _ => by
    rw [wakeF, e]
    rfl

theorem rowI_keep {w w' : World} {B c : Nat} {A : Option Addr} {xs : List Int} (h : OwnI w B A c xs) (hk : ∀ k, Value.ownBlock (.slice A xs.length c) = some k → w'.heap[k]? = w.heap[k]?) : OwnI w' B A c xs := by
  obtain ⟨h1, h2⟩ := h
  refine ⟨h1, ?_⟩
  rcases h2 with h2 | ⟨g, cap, cur, hv, hg, hh, r⟩
  · exact Or.inl h2
  · rw [hv] at hk
    exact Or.inr ⟨g, cap, cur, hv, hg, by rw [hk g rfl]; exact hh, r⟩
theorem icells_snocW (ks : List Int) (x : Int) : icells ks ++ [.int .i64 x] = icells (ks ++ [x]) := by simp [icells]
theorem World.size_setCell_ (w : World) (a : Addr) (v : Value) : (w.setCell a v).heap.size = w.heap.size := by simp
theorem RH.nilR {w : World} {B : Nat} {A : Option Addr} {hs : HS} (h : hs = []) : RH w B A hs := .inl h
set_option maxHeartbeats 8000000 in
set_option maxRecDepth 100000 in
theorem spec_l5Wake (A : Option Addr) (c : Nat) (h : HS) (K : Option Addr) (d : Nat) (l : HS) (B : Nat) (w : World) (ho : OwnH w B A c h) (hl : OwnH w B K d l) (hB : B ≤ w.heap.size) (hap : ∀ k, Value.ownBlock (.slice A h.length c) = some k → Value.ownBlock (.slice K l.length d) ≠ some k) (hp : LkIn h l) :
    Calls Try.prog 82 #[.agg #[.slice A h.length c, .slice K l.length d]] w fun e w' => ∃ A c K d W cw, e = .returned (.tuple #[.agg #[.slice A (wakeF l.length h l []).1.length c, .slice K (wakeF l.length h l []).2.1.length d], .slice W (wakeF l.length h l []).2.2.length cw]) ∧ OwnH w' B A c (wakeF l.length h l []).1 ∧ OwnH w' B K d (wakeF l.length h l []).2.1 ∧ (∀ k, Value.ownBlock (.slice A (wakeF l.length h l []).1.length c) = some k → Value.ownBlock (.slice K (wakeF l.length h l []).2.1.length d) ≠ some k) ∧ OwnI w' B W cw (wakeF l.length h l []).2.2 ∧ Below w.heap.size w w' := by
  obtain ⟨i0, hi0, hz0, hz1, hz2⟩ := info_parts holdInfo
  obtain ⟨j0, hj0, hy0, hy1, hy2⟩ := info_parts int64Info
  have a0 := Row2.lit w 39 (.slice A h.length c) (.slice K l.length d)
  have a1 := Row2.lit (w.alloc (.cells #[.slice A h.length c, .slice K l.length d] 39)) 39 (.slice none 0 0) (.slice none 0 0)
  simp only [World.size_alloc] at a1
  have hb1 : Below w.heap.size w (((w.alloc (.cells #[.slice A h.length c, .slice K l.length d] 39)).alloc (.cells #[.slice none 0 0, .slice none 0 0] 39)).alloc (.cells #[] 2)) := below3 (Below.refl _ _) (Nat.le_refl _)
  have a3 : OwnI (((w.alloc (.cells #[.slice A h.length c, .slice K l.length d] 39)).alloc (.cells #[.slice none 0 0, .slice none 0 0] 39)).alloc (.cells #[] 2)) (w.heap.size + 2) (some ⟨w.heap.size + 1 + 1, 0, none⟩) 0 [] := by
    have := World.ownsRow_made (base := w.heap.size + 2) (e := 2) (size := 1) ((w.alloc (.cells #[.slice A h.length c, .slice K l.length d] 39)).alloc (.cells #[.slice none 0 0, .slice none 0 0] 39)) #[] 0 (by simp) (Nat.zero_le _) rfl
    simp only [World.size_alloc] at this
    exact this
  have P1 := hid ((a0.below ((Below.refl _ _).alloc (Nat.le_refl _) (.cells #[.slice none 0 0, .slice none 0 0] 39))).below ((Below.refl _ _).alloc (Nat.le_refl _) (.cells #[] 2)))
  have R1 := hid (a1.below ((Below.refl _ _).alloc (Nat.le_refl _) (.cells #[] 2)))
  have I1 := hid a3
  have H1 := hid ((ho.below hb1))
  have K1 := hid ((hl.below hb1))
  have HAP := hid hap
  have HB1 := hid hb1
  have HP := hid hp
  have hs1 : w.heap.size + 3 ≤ (((w.alloc (.cells #[.slice A h.length c, .slice K l.length d] 39)).alloc (.cells #[.slice none 0 0, .slice none 0 0] 39)).alloc (.cells #[] 2)).heap.size := by simp
  clear a0 a1 a3 hb1 ho hl hp hap
  go_enter Try.func82, Try.ntmps82
  go_wp2_with fail
  generalize hw1 : (((w.alloc (.cells #[.slice A h.length c, .slice K l.length d] 39)).alloc (.cells #[.slice none 0 0, .slice none 0 0] 39)).alloc (.cells #[] 2)) = w1 at *
  clear hw1
  go_loopg [4, 5] (l.length * 1000 + l.length) (fun gg wv at_ wr => ∃ (h' l' : HS) (ws : List Int) (k f m n1 n2 : Nat) (A' : Option Addr) (c' : Nat) (K' : Option Addr) (d' : Nat) (W' : Option Addr) (cw : Nat),
      wv = .slice W' m cw ∧ at_ = .int .i64 k ∧ m = ws.length ∧ n1 = h'.length ∧ n2 = l'.length ∧ k ≤ l'.length ∧ l'.length * 1000 + (l'.length - k) ≤ gg ∧ l'.length ≤ f ∧ ws.length + l'.length ≤ 200 ∧ Hid (noneMay h' l' k) ∧ Hid (LkIn h' l') ∧ Hid (wakeF f h' l' ws = wakeF l.length h l []) ∧
      Hid (Row2 wr w.heap.size 39 (.slice A' n1 c') (.slice K' n2 d')) ∧ Hid (Row2 wr (w.heap.size + 1) 39 (.slice none 0 0) (.slice none 0 0)) ∧ Hid (OwnH wr B A' c' h') ∧ Hid (OwnH wr B K' d' l') ∧ Hid (∀ q, Value.ownBlock (.slice A' h'.length c') = some q → Value.ownBlock (.slice K' l'.length d') ≠ some q) ∧ Hid (OwnI wr (w.heap.size + 2) W' cw ws) ∧ Below w.heap.size w wr ∧ w.heap.size + 3 ≤ wr.heap.size)
  case atStart => exact ⟨h, l, [], 0, l.length, 0, _, _, A, c, K, d, _, 0, rfl, rfl, rfl, rfl, rfl, Nat.zero_le _, by omega, Nat.le_refl _, by have := HP.out.ln; simp; omega, noneMay_zero _ _, HP.out, rfl, P1.out, R1.out, H1.out, K1.out, HAP.out, I1.out, HB1.out, hs1⟩
  case round =>
    obtain ⟨h', l', ws, k, f, m, n1, n2, A', c', K', d', W', cw, rfl, rfl, hm, hn1, hn2, hk, hgg, hfl, hwl, HNM, HLI, HWK, PL, PR, OH, OK, OAP, OI, hbw, hsz⟩ := hrel
    have HD := hid hbw
    have HMW := hid hm
    have HN1 := hid hn1
    have HN2 := hid hn2
    have y0 := PL.out.c0
    have y1 := PL.out.c1
    subst hn2
    clear hbw hm
    by_cases hlt : k < l'.length
    · subst hn1
      obtain ⟨b, off, e', hb, hc1, hc2, hc3⟩ := OK.out.rh.at_ hlt
      have hcap := OK.out.cap
      have HCAP := hid hcap
      have hh1 := HLI.out.hn
      have hl1 := HLI.out.ln
      have hhm : h'.length ≤ maxLen := by unfold maxLen; omega
      have hlm : l'.length ≤ maxLen := by unfold maxLen; omega
      have HHM := hid hhm
      have HLM := hid hlm
      have e5 : (0 : Int) ≤ (k : Int) := by omega
      have e6 : (k : Int) < (l'.length : Int) := by omega
      have X5 := hid (Row3.lit wr 49 (.int .i64 l'[k].1) (.string l'[k].2.1) (.int .i64 l'[k].2.2))
      have HBA := hid ((Below.refl wr.heap.size wr).alloc (Nat.le_refl _) (.cells #[.int .i64 l'[k].1, .string l'[k].2.1, .int .i64 l'[k].2.2] 49))
      have P5 := hid (PL.out.below HBA.out)
      have R5 := hid (PR.out.below HBA.out)
      have H5 := hid (OH.out.below HBA.out)
      have K5 := hid (OK.out.below HBA.out)
      have I5 := hid (OI.out.below HBA.out)
      have HD5 := hid (HD.out.trans (HBA.out.mono (by omega)))
      have HSX := hid (noneMay_succ HNM.out hlt)
      have HF := hid (firstL_at HNM.out hlt)
      have hs5 : wr.heap.size < (wr.alloc (.cells #[.int .i64 l'[k].1, .string l'[k].2.1, .int .i64 l'[k].2.2] 49)).heap.size := by simp
      subst e'
      have e8 : w.heap.size < wr.heap.size := by omega
      have z0 := P5.out.c0
      have z1 := P5.out.c1
      clear hcap hhm hlm
      go_wp2_with fail
      generalize hg5 : wr.alloc (.cells #[.int .i64 l'[k].1, .string l'[k].2.1, .int .i64 l'[k].2.2] 49) = w5 at *
      clear hg5
      refine (spec_l5May A' c' h' _ d' l' l'[k] k _ H5.out.rh HHM.out K5.out.rh HLM.out HLI.out.hh (holdB_mode (HLI.out.lh.at_ hlt)) (by omega)).mono ?_
      rintro e w6 ⟨rfl, hb6⟩
      have P6 := hid (P5.out.below hb6)
      have R6 := hid (R5.out.below hb6)
      have X6 := hid (X5.out.below hb6)
      have H6 := hid (H5.out.below hb6)
      have K6 := hid (K5.out.below hb6)
      have I6 := hid (I5.out.below hb6)
      have HD6 := hid (HD5.out.trans (hb6.mono HD5.out.size))
      have hs6 := hb6.size
      clear hb6 y0 y1 z0 z1 hc1 hc2 hc3
      have y0 := P6.out.c0
      have y1 := P6.out.c1
      have x0 := X6.out.c0
      have x1 := X6.out.c1
      have x2 := X6.out.c2
      cases hmay : mayB h' (l'.take k) l'[k]
      case false =>
        have HNX := hid (HSX.out hmay)
        go_wp2_with fail
        go_roundg (gk - 1)
        case measure => omega
        case rel => exact ⟨h', l', ws, k + 1, f, m, _, _, A', c', _, d', W', cw, rfl, by go_num, HMW.out, rfl, rfl, by omega, by omega, hfl, hwl, HNX.out, HLI.out, HWK.out, P6.out, R6.out, H6.out, K6.out, OAP.out, I6.out, HD6.out, by omega⟩
      case true =>
        have HFX := hid (HF.out hmay)
        go_wp2_with fail
        refine (spec_l5Give A' c' h' _ d' l' l'[k] _ H6.out.rh (by omega) K6.out.rh (by omega)).mono ?_
        rintro e w7 ⟨A7, c7, K7, d7, rfl, hA7, hK7, _, hb7⟩
        obtain ⟨kb, rfl⟩ : ∃ kb, K7 = some ⟨kb, 0, none⟩ := by
          rcases hK7.2 with ⟨hv, hn⟩ | ⟨q, cap, cur, hv, _⟩
          · omega
          · injection hv with e1
            exact ⟨q, e1⟩
        have P7 := hid (P6.out.below hb7)
        have R7 := hid (R6.out.below hb7)
        have X7 := hid (X6.out.below hb7)
        have I7 := hid (I6.out.below hb7)
        have HD7 := hid (HD6.out.trans (hb7.mono HD6.out.size))
        have hs7 := hb7.size
        have HA7 := hid hA7
        have HK7 := hid hK7
        have HC7 := hid hK7.cap
        have hcp1 := hK7.cap.1
        have hcp2 := hK7.cap.2
        unfold maxLen at hcp2
        clear hb7 hA7 hK7 y0 y1 x0 x1 x2
        have p0 := P7.out.c0
        have p1 := P7.out.c1
        have pf0 := P7.out.fz 0
        have pf1 := P7.out.fz 1
        have Q7 := hid (P7.out.s0 (.slice A7 (giveL h' l'[k]).length c7))
        have P8 := hid (Q7.out.s1 (.slice (some ⟨kb, 0, none⟩) l'.length d7))
        have R8 := hid ((R7.out.other P7.out (by omega) 0 (.slice A7 (giveL h' l'[k]).length c7)).other Q7.out (by omega) 1 (.slice (some ⟨kb, 0, none⟩) l'.length d7))
        have X8 := hid ((X7.out.other2 P7.out (by omega) 0 (.slice A7 (giveL h' l'[k]).length c7)).other2 Q7.out (by omega) 1 (.slice (some ⟨kb, 0, none⟩) l'.length d7))
        have I8 := hid ((I7.out.set2 P7.out (by omega) 0 (.slice A7 (giveL h' l'[k]).length c7)).set2 Q7.out (by omega) 1 (.slice (some ⟨kb, 0, none⟩) l'.length d7))
        have A8 := hid ((HA7.out.set2 P7.out (by omega) 0 (.slice A7 (giveL h' l'[k]).length c7)).set2 Q7.out (by omega) 1 (.slice (some ⟨kb, 0, none⟩) l'.length d7))
        have K8 := hid ((HK7.out.set2 P7.out (by omega) 0 (.slice A7 (giveL h' l'[k]).length c7)).set2 Q7.out (by omega) 1 (.slice (some ⟨kb, 0, none⟩) l'.length d7))
        have HD8 := hid ((HD7.out.setCell (p := ⟨w.heap.size, 0, none⟩) (by simp) (.slice A7 (giveL h' l'[k]).length c7)).setCell (p := ⟨w.heap.size, 1, none⟩) (by simp) (.slice (some ⟨kb, 0, none⟩) l'.length d7))
        have HVS : Hid (((w7.setCell ⟨w.heap.size, 0, none⟩ (.slice A7 (giveL h' l'[k]).length c7)).setCell ⟨w.heap.size, 1, none⟩ (.slice (some ⟨kb, 0, none⟩) l'.length d7)).heap.size = w7.heap.size) := by simp [Hid]
        have HVA := hid ((Below.refl ((w7.setCell ⟨w.heap.size, 0, none⟩ (.slice A7 (giveL h' l'[k]).length c7)).setCell ⟨w.heap.size, 1, none⟩ (.slice (some ⟨kb, 0, none⟩) l'.length d7)).heap.size ((w7.setCell ⟨w.heap.size, 0, none⟩ (.slice A7 (giveL h' l'[k]).length c7)).setCell ⟨w.heap.size, 1, none⟩ (.slice (some ⟨kb, 0, none⟩) l'.length d7))).alloc (Nat.le_refl _) (.cells #[] 49))
        have hn8 : OwnH (((w7.setCell ⟨w.heap.size, 0, none⟩ (.slice A7 (giveL h' l'[k]).length c7)).setCell ⟨w.heap.size, 1, none⟩ (.slice (some ⟨kb, 0, none⟩) l'.length d7)).alloc (.cells #[] 49)) w7.heap.size (some ⟨w7.heap.size, 0, none⟩) 0 [] := by
          have := OwnH.made (w := ((w7.setCell ⟨w.heap.size, 0, none⟩ (.slice A7 (giveL h' l'[k]).length c7)).setCell ⟨w.heap.size, 1, none⟩ (.slice (some ⟨kb, 0, none⟩) l'.length d7))) (B := w7.heap.size) (Nat.le_of_eq HVS.out.symm) #[] 0 rfl (Nat.zero_le _)
          rwa [HVS.out] at this
        have N8 := hid hn8
        have S8 := hid ((K8.out.rh.below HVA.out).take (n := k))
        have htk : k = (l'.take k).length := by rw [List.length_take]; omega
        have HTK := hid htk
        have hbase8 : w7.heap.size ≤ (((w7.setCell ⟨w.heap.size, 0, none⟩ (.slice A7 (giveL h' l'[k]).length c7)).setCell ⟨w.heap.size, 1, none⟩ (.slice (some ⟨kb, 0, none⟩) l'.length d7)).alloc (.cells #[] 49)).heap.size := by simp
        have HBASE := hid hbase8
        have htl : ([] : HS).length + (l'.take k).length ≤ 4000000 := by rw [List.length_take]; simp; omega
        have HTL := hid htl
        have z80 := (P8.out.below HVA.out).c0
        have z81 := (P8.out.below HVA.out).c1
        have e14 : w.heap.size < w7.heap.size := by omega
        have e15 : wr.heap.size < w7.heap.size := by omega
        have e9 : (k : Int) ≤ (d7 : Int) := by omega
        have e10 : k ≤ d7 := by omega
        have e11 : (k : Int) + 1 ≤ (l'.length : Int) := by omega
        have e12 : k + 1 ≤ l'.length := by omega
        have e13 : (l'.length : Int) ≤ (d7 : Int) := by omega
        clear hn8 htk hbase8 htl
        obtain rfl : m = ws.length := HMW.out
        by_cases hk1 : k + 1 < l'.length
        case pos =>
          have e16 : k + 1 < d7 := by omega
          have e17 : ¬ d7 = k + 1 := by omega
          have e18 : ¬ d7 - (k + 1) = 0 := by omega
          have S9 : Hid (∀ W : World, Below w7.heap.size (((w7.setCell ⟨w.heap.size, 0, none⟩ (.slice A7 (giveL h' l'[k]).length c7)).setCell ⟨w.heap.size, 1, none⟩ (.slice (some ⟨kb, 0, none⟩) l'.length d7)).alloc (.cells #[] 49)) W → RH W w7.heap.size (some ⟨kb, (k + 1) * 3, none⟩) (l'.drop (k + 1))) := fun W hW => by
            have h1 := K8.out.rh
            rw [HVS.out] at h1
            have h2 := ((h1.below (HVA.out.mono (Nat.le_of_eq HVS.out.symm))).below hW).drop (k + 1)
            simpa using h2
          have HILT : Hid (∀ q, Value.ownBlock (.slice W' ws.length cw) = some q → q < w7.heap.size) := fun q hq => by
            have := (World.ownsRow.lt I7.out q hq).2
            omega
          have HIGE : Hid (∀ q, Value.ownBlock (.slice W' ws.length cw) = some q → q ≠ w.heap.size) := fun q hq => by
            have := (World.ownsRow.lt I7.out q hq).1
            omega
          have HDL : Hid (l'.length - (k + 1) = (l'.drop (k + 1)).length) := by rw [Hid, List.length_drop]
          have HTL2 : Hid ((([] : HS) ++ l'.take k).length + (l'.drop (k + 1)).length ≤ 4000000) := by
            rw [Hid, List.length_drop, List.nil_append, List.length_take]
            omega
          have HW1 : Hid (ws.length + 1 ≤ maxLen) := by unfold maxLen; rw [Hid]; omega
          have HW2 : Hid ((ws.length + 1) * 8 ≤ 140737488355328) := by rw [Hid]; omega
          have HNW := hid (wakeF_step (w := ws) HFX.out f hfl)
          go_wp2_with (first
            | (at_builtin; (with_reducible refine wpList_append_rh (((w7.setCell ⟨w.heap.size, 0, none⟩ (.slice A7 (giveL h' l'[k]).length c7)).setCell ⟨w.heap.size, 1, none⟩ (.slice (some ⟨kb, 0, none⟩) l'.length d7)).alloc (.cells #[] 49)) rfl _ _ _ rfl i0 Try.underlying37 hi0 hz0 hz1 hz2 w7.heap.size (some ⟨w7.heap.size, 0, none⟩) 0 0 [] rfl rfl N8.out ((w7.setCell ⟨w.heap.size, 0, none⟩ (.slice A7 (giveL h' l'[k]).length c7)).setCell ⟨w.heap.size, 1, none⟩ (.slice (some ⟨kb, 0, none⟩) l'.length d7)).heap.size (some ⟨kb, 0, none⟩) k d7 (l'.take k) rfl HTK.out S8.out HTL.out HBASE.out ?_); intro A9 n9 c9 w9 hn9 hap9; have HN9 := hid hn9; have hb9 := hap9.below N8.out rfl HBASE.out; have HAP9 := hid hap9; have P9 := hid ((P8.out.below HVA.out).keepB hb9 e14); have X9 := hid ((X8.out.below HVA.out).keepB hb9 e15); have HB9 := hid hb9; have p90 := P9.out.c0; have p91 := P9.out.c1; have pf91 := P9.out.fz 1; have x90 := X9.out.c0; clear hn9 hap9 hb9)
            | (at_builtin; (refine wpList_append_rh w9 rfl _ _ _ rfl i0 Try.underlying37 hi0 hz0 hz1 hz2 w7.heap.size A9 n9 c9 ([] ++ l'.take k) rfl HN9.out HAP9.out.own w7.heap.size (some ⟨kb, (k + 1) * 3, none⟩) (l'.length - (k + 1)) (d7 - (k + 1)) (l'.drop (k + 1)) rfl HDL.out (S9.out _ HB9.out) HTL2.out (Nat.le_trans HBASE.out HB9.out.size) ?_); intro A10 n10 c10 w10 hn10 hap10; have HN10 := hid hn10; have hb10 := hap10.below HAP9.out.own HN9.out (Nat.le_trans HBASE.out HB9.out.size); have HAP10 := hid hap10; have P10 := hid (P9.out.keepB hb10 e14); have X10 := hid (X9.out.keepB hb10 e15); have HB10 := hid (HB9.out.trans hb10); have p100 := P10.out.c0; have p101 := P10.out.c1; have pf101 := P10.out.fz 1; have x100 := X10.out.c0; have P11 := hid (P10.out.s1 (.slice A10 n10 c10)); have I11 := hid (rowI_keep (rowI_keep (I8.out.below HVA.out) (fun q hq => HB10.out.block q (HILT.out q hq))) (fun q hq => heap_setCell_other w10 ⟨w.heap.size, 1, none⟩ q (.slice A10 n10 c10) (fun e => HIGE.out q hq e))); have I12 := hid (I11.out.below ((Below.refl (w10.setCell ⟨w.heap.size, 1, none⟩ (.slice A10 n10 c10)).heap.size _).alloc (Nat.le_refl _) (.cells #[.int .i64 l'[k].1] 2))); clear hn10 hap10 hb10)
            | (at_builtin; refine wpList_append_lies _ rfl _ _ _ rfl (w.heap.size + 2) 2 j0 _ 1 8 Try.underlying42 hj0 hy0 hy1 hy2 rfl (by omega) (.slice W' ws.length cw) ws.length (icells ws) rfl I12.out ⟨w10.heap.size, 0, none⟩ 1 1 [.int .i64 l'[k].1] rfl rfl (World.news_of_block (cs := #[.int .i64 l'[k].1]) (t := 2) (fr := (0, 0)) (by rw [← World.size_setCell_ w10 ⟨w.heap.size, 1, none⟩ (.slice A10 n10 c10)]; exact heap_alloc_new _ _)) (by simp [Value.oneCell']) (by omega) HW1.out HW2.out (by have := Nat.le_trans HBASE.out HB10.out.size; simp; omega) (w10.heap.size + 1) (by simp) ?_; intro W13 cap13 w13 hown13 hgrow13 hat13 hlt13; have HO13 := hid hown13; have HG13 := hid hgrow13; clear hown13 hgrow13 hat13))
          have hcl := cutAt_length hlt
          have HG14 := HG13.out
          have hI := fun q hq => (World.ownsRow.lt I12.out q hq)
          have hb10s := Nat.le_trans HBASE.out HB10.out.size
          have P13 := (P11.out.below ((Below.refl (w10.setCell ⟨w.heap.size, 1, none⟩ (.slice A10 n10 c10)).heap.size _).alloc (Nat.le_refl _) (.cells #[.int .i64 l'[k].1] 2))).far HG14 (fun q hq => by have := (hI q hq).1; omega)
          have R10 := (R8.out.below HVA.out).keepB HB10.out (by omega)
          have R13 := ((R10.other P10.out (by omega) 1 (.slice A10 n10 c10)).below ((Below.refl (w10.setCell ⟨w.heap.size, 1, none⟩ (.slice A10 n10 c10)).heap.size _).alloc (Nat.le_refl _) (.cells #[.int .i64 l'[k].1] 2))).far HG14 (fun q hq => by have := (hI q hq).1; omega)
          have A10w := (A8.out.below HVA.out).stay (w' := w10) (fun q hq => HB10.out.block q ((HA7.out.size q hq).2))
          have A12 := (A10w.set2 P10.out (by omega) 1 (.slice A10 n10 c10)).below ((Below.refl (w10.setCell ⟨w.heap.size, 1, none⟩ (.slice A10 n10 c10)).heap.size _).alloc (Nat.le_refl _) (.cells #[.int .i64 l'[k].1] 2))
          have A13 := A12.far HG14 (fun q hq => own_ne (by decide) I12.out A12 q hq)
          have K12 := (HAP10.out.own.set2 P10.out (by omega) 1 (.slice A10 n10 c10)).below ((Below.refl (w10.setCell ⟨w.heap.size, 1, none⟩ (.slice A10 n10 c10)).heap.size _).alloc (Nat.le_refl _) (.cells #[.int .i64 l'[k].1] 2))
          have K13 : OwnH w13 w7.heap.size A10 c10 (cutAt l' k) := K12.far HG14 (fun q hq => own_ne (by decide) I12.out K12 q hq)
          have I13 : OwnI w13 (w.heap.size + 2) (some ⟨W13, 0, none⟩) cap13 (ws ++ [l'[k].1]) := by
            have := HO13.out
            rw [icells_snocW] at this
            unfold OwnI
            rw [List.length_append]
            exact this
          have D13 := ((((HD8.out.trans (HVA.out.mono (by rw [HVS.out]; omega))).trans (HB10.out.mono (by omega))).setCell (p := ⟨w.heap.size, 1, none⟩) (by simp) (.slice A10 n10 c10)).alloc (by simp; omega) (.cells #[.int .i64 l'[k].1] 2)).grown HG14 (by simp; omega) (fun q hq => by have := (hI q hq).1; omega)
          have HNC : Hid (n10 = (cutAt l' k).length) := HN10.out
          have HWX : Hid (wakeF (f - 1) (giveL h' l'[k]) (cutAt l' k) (ws ++ [l'[k].1]) = wakeF l.length h l []) := by
            have := HNW.out
            rw [getD_hold hlt] at this
            rw [Hid, ← this]
            exact HWK.out
          have s13 : w10.heap.size + 1 ≤ w13.heap.size := by have := HG14.size; simpa using this
          go_roundg ((l'.length - 1) * 1000 + (l'.length - 1))
          case measure => omega
          case rel => exact ⟨giveL h' l'[k], cutAt l' k, ws ++ [l'[k].1], 0, f - 1, ws.length + 1, _, _, A7, c7, A10, c10, _, cap13, rfl, rfl, by simp, rfl, HNC.out, Nat.zero_le _, by rw [hcl]; omega, by rw [hcl]; omega, by rw [hcl, List.length_append]; simp; omega, noneMay_zero _ _, HLI.out.give hlt, HWX.out, P13, R13, A13.mono (by omega), K13.mono (by omega), (fun q hq e => by have := (HA7.out.size q hq).2; have := (K13.size q e).1; omega), I13, D13, by omega⟩
        case neg =>
          by_cases hdc : d7 = k + 1
          case pos =>
            subst hdc
            have HILT : Hid (∀ q, Value.ownBlock (.slice W' ws.length cw) = some q → q < w7.heap.size) := fun q hq => by
              have := (World.ownsRow.lt I7.out q hq).2
              omega
            have HIGE : Hid (∀ q, Value.ownBlock (.slice W' ws.length cw) = some q → q ≠ w.heap.size) := fun q hq => by
              have := (World.ownsRow.lt I7.out q hq).1
              omega
            have HDL : Hid (l'.length - (k + 1) = (l'.drop (k + 1)).length) := by rw [Hid, List.length_drop]
            have HDL2 : Hid (0 = (l'.drop (k + 1)).length) := by rw [Hid, List.length_drop]; omega
            have e19 : l'.length = k + 1 := by omega
            have HE19 := hid e19
            clear e19
            have e20 : l'.length - (k + 1) = 0 := by omega
            have HTL2 : Hid ((([] : HS) ++ l'.take k).length + (l'.drop (k + 1)).length ≤ 4000000) := by
              rw [Hid, List.length_drop, List.nil_append, List.length_take]
              omega
            have HW1 : Hid (ws.length + 1 ≤ maxLen) := by unfold maxLen; rw [Hid]; omega
            have HW2 : Hid ((ws.length + 1) * 8 ≤ 140737488355328) := by rw [Hid]; omega
            have HNW := hid (wakeF_step (w := ws) HFX.out f hfl)
            go_wp2_with (first
              | (at_builtin; (with_reducible refine wpList_append_rh (((w7.setCell ⟨w.heap.size, 0, none⟩ (.slice A7 (giveL h' l'[k]).length c7)).setCell ⟨w.heap.size, 1, none⟩ (.slice (some ⟨kb, 0, none⟩) l'.length (k + 1))).alloc (.cells #[] 49)) rfl _ _ _ rfl i0 Try.underlying37 hi0 hz0 hz1 hz2 w7.heap.size (some ⟨w7.heap.size, 0, none⟩) 0 0 [] rfl rfl N8.out ((w7.setCell ⟨w.heap.size, 0, none⟩ (.slice A7 (giveL h' l'[k]).length c7)).setCell ⟨w.heap.size, 1, none⟩ (.slice (some ⟨kb, 0, none⟩) l'.length (k + 1))).heap.size (some ⟨kb, 0, none⟩) k (k + 1) (l'.take k) rfl HTK.out S8.out HTL.out HBASE.out ?_); intro A9 n9 c9 w9 hn9 hap9; have HN9 := hid hn9; have hb9 := hap9.below N8.out rfl HBASE.out; have HAP9 := hid hap9; have P9 := hid ((P8.out.below HVA.out).keepB hb9 e14); have X9 := hid ((X8.out.below HVA.out).keepB hb9 e15); have HB9 := hid hb9; have p90 := P9.out.c0; have p91 := P9.out.c1; have pf91 := P9.out.fz 1; have x90 := X9.out.c0; clear hn9 hap9 hb9)
              | (at_builtin; (refine wpList_append_rh w9 rfl _ _ _ rfl i0 Try.underlying37 hi0 hz0 hz1 hz2 w7.heap.size A9 n9 c9 ([] ++ l'.take k) rfl HN9.out HAP9.out.own w7.heap.size _ _ _ (l'.drop (k + 1)) rfl HDL2.out (RH.nilR (List.drop_of_length_le (by omega))) HTL2.out (Nat.le_trans HBASE.out HB9.out.size) ?_); intro A10 n10 c10 w10 hn10 hap10; have HN10 := hid hn10; have hb10 := hap10.below HAP9.out.own HN9.out (Nat.le_trans HBASE.out HB9.out.size); have HAP10 := hid hap10; have P10 := hid (P9.out.keepB hb10 e14); have X10 := hid (X9.out.keepB hb10 e15); have HB10 := hid (HB9.out.trans hb10); have p100 := P10.out.c0; have p101 := P10.out.c1; have pf101 := P10.out.fz 1; have x100 := X10.out.c0; have P11 := hid (P10.out.s1 (.slice A10 n10 c10)); have I11 := hid (rowI_keep (rowI_keep (I8.out.below HVA.out) (fun q hq => HB10.out.block q (HILT.out q hq))) (fun q hq => heap_setCell_other w10 ⟨w.heap.size, 1, none⟩ q (.slice A10 n10 c10) (fun e => HIGE.out q hq e))); have I12 := hid (I11.out.below ((Below.refl (w10.setCell ⟨w.heap.size, 1, none⟩ (.slice A10 n10 c10)).heap.size _).alloc (Nat.le_refl _) (.cells #[.int .i64 l'[k].1] 2))); clear hn10 hap10 hb10)
              | (at_builtin; refine wpList_append_lies _ rfl _ _ _ rfl (w.heap.size + 2) 2 j0 _ 1 8 Try.underlying42 hj0 hy0 hy1 hy2 rfl (by omega) (.slice W' ws.length cw) ws.length (icells ws) rfl I12.out ⟨w10.heap.size, 0, none⟩ 1 1 [.int .i64 l'[k].1] rfl rfl (World.news_of_block (cs := #[.int .i64 l'[k].1]) (t := 2) (fr := (0, 0)) (by rw [← World.size_setCell_ w10 ⟨w.heap.size, 1, none⟩ (.slice A10 n10 c10)]; exact heap_alloc_new _ _)) (by simp [Value.oneCell']) (by omega) HW1.out HW2.out (by have := Nat.le_trans HBASE.out HB10.out.size; simp; omega) (w10.heap.size + 1) (by simp) ?_; intro W13 cap13 w13 hown13 hgrow13 hat13 hlt13; have HO13 := hid hown13; have HG13 := hid hgrow13; clear hown13 hgrow13 hat13))
            have hcl := cutAt_length hlt
            have HG14 := HG13.out
            have hI := fun q hq => (World.ownsRow.lt I12.out q hq)
            have hb10s := Nat.le_trans HBASE.out HB10.out.size
            have P13 := (P11.out.below ((Below.refl (w10.setCell ⟨w.heap.size, 1, none⟩ (.slice A10 n10 c10)).heap.size _).alloc (Nat.le_refl _) (.cells #[.int .i64 l'[k].1] 2))).far HG14 (fun q hq => by have := (hI q hq).1; omega)
            have R10 := (R8.out.below HVA.out).keepB HB10.out (by omega)
            have R13 := ((R10.other P10.out (by omega) 1 (.slice A10 n10 c10)).below ((Below.refl (w10.setCell ⟨w.heap.size, 1, none⟩ (.slice A10 n10 c10)).heap.size _).alloc (Nat.le_refl _) (.cells #[.int .i64 l'[k].1] 2))).far HG14 (fun q hq => by have := (hI q hq).1; omega)
            have A10w := (A8.out.below HVA.out).stay (w' := w10) (fun q hq => HB10.out.block q ((HA7.out.size q hq).2))
            have A12 := (A10w.set2 P10.out (by omega) 1 (.slice A10 n10 c10)).below ((Below.refl (w10.setCell ⟨w.heap.size, 1, none⟩ (.slice A10 n10 c10)).heap.size _).alloc (Nat.le_refl _) (.cells #[.int .i64 l'[k].1] 2))
            have A13 := A12.far HG14 (fun q hq => own_ne (by decide) I12.out A12 q hq)
            have K12 := (HAP10.out.own.set2 P10.out (by omega) 1 (.slice A10 n10 c10)).below ((Below.refl (w10.setCell ⟨w.heap.size, 1, none⟩ (.slice A10 n10 c10)).heap.size _).alloc (Nat.le_refl _) (.cells #[.int .i64 l'[k].1] 2))
            have K13 : OwnH w13 w7.heap.size A10 c10 (cutAt l' k) := K12.far HG14 (fun q hq => own_ne (by decide) I12.out K12 q hq)
            have I13 : OwnI w13 (w.heap.size + 2) (some ⟨W13, 0, none⟩) cap13 (ws ++ [l'[k].1]) := by
              have := HO13.out
              rw [icells_snocW] at this
              unfold OwnI
              rw [List.length_append]
              exact this
            have D13 := ((((HD8.out.trans (HVA.out.mono (by rw [HVS.out]; omega))).trans (HB10.out.mono (by omega))).setCell (p := ⟨w.heap.size, 1, none⟩) (by simp) (.slice A10 n10 c10)).alloc (by simp; omega) (.cells #[.int .i64 l'[k].1] 2)).grown HG14 (by simp; omega) (fun q hq => by have := (hI q hq).1; omega)
            have HNC : Hid (n10 = (cutAt l' k).length) := HN10.out
            have HWX : Hid (wakeF (f - 1) (giveL h' l'[k]) (cutAt l' k) (ws ++ [l'[k].1]) = wakeF l.length h l []) := by
              have := HNW.out
              rw [getD_hold hlt] at this
              rw [Hid, ← this]
              exact HWK.out
            have s13 : w10.heap.size + 1 ≤ w13.heap.size := by have := HG14.size; simpa using this
            go_roundg ((l'.length - 1) * 1000 + (l'.length - 1))
            case measure => omega
            case rel => exact ⟨giveL h' l'[k], cutAt l' k, ws ++ [l'[k].1], 0, f - 1, ws.length + 1, _, _, A7, c7, A10, c10, _, cap13, rfl, rfl, by simp, rfl, HNC.out, Nat.zero_le _, by rw [hcl]; omega, by rw [hcl]; omega, by rw [hcl, List.length_append]; simp; omega, noneMay_zero _ _, HLI.out.give hlt, HWX.out, P13, R13, A13.mono (by omega), K13.mono (by omega), (fun q hq e => by have := (HA7.out.size q hq).2; have := (K13.size q e).1; omega), I13, D13, by omega⟩
          case neg =>
            have HILT : Hid (∀ q, Value.ownBlock (.slice W' ws.length cw) = some q → q < w7.heap.size) := fun q hq => by
              have := (World.ownsRow.lt I7.out q hq).2
              omega
            have HIGE : Hid (∀ q, Value.ownBlock (.slice W' ws.length cw) = some q → q ≠ w.heap.size) := fun q hq => by
              have := (World.ownsRow.lt I7.out q hq).1
              omega
            have HDL : Hid (l'.length - (k + 1) = (l'.drop (k + 1)).length) := by rw [Hid, List.length_drop]
            have HDL2 : Hid (0 = (l'.drop (k + 1)).length) := by rw [Hid, List.length_drop]; omega
            have e19 : l'.length = k + 1 := by omega
            have HE19 := hid e19
            clear e19
            have e20 : l'.length - (k + 1) = 0 := by omega
            have HTL2 : Hid ((([] : HS) ++ l'.take k).length + (l'.drop (k + 1)).length ≤ 4000000) := by
              rw [Hid, List.length_drop, List.nil_append, List.length_take]
              omega
            have HW1 : Hid (ws.length + 1 ≤ maxLen) := by unfold maxLen; rw [Hid]; omega
            have HW2 : Hid ((ws.length + 1) * 8 ≤ 140737488355328) := by rw [Hid]; omega
            have HNW := hid (wakeF_step (w := ws) HFX.out f hfl)
            go_wp2_with (first
              | (at_builtin; (with_reducible refine wpList_append_rh (((w7.setCell ⟨w.heap.size, 0, none⟩ (.slice A7 (giveL h' l'[k]).length c7)).setCell ⟨w.heap.size, 1, none⟩ (.slice (some ⟨kb, 0, none⟩) l'.length d7)).alloc (.cells #[] 49)) rfl _ _ _ rfl i0 Try.underlying37 hi0 hz0 hz1 hz2 w7.heap.size (some ⟨w7.heap.size, 0, none⟩) 0 0 [] rfl rfl N8.out ((w7.setCell ⟨w.heap.size, 0, none⟩ (.slice A7 (giveL h' l'[k]).length c7)).setCell ⟨w.heap.size, 1, none⟩ (.slice (some ⟨kb, 0, none⟩) l'.length d7)).heap.size (some ⟨kb, 0, none⟩) k d7 (l'.take k) rfl HTK.out S8.out HTL.out HBASE.out ?_); intro A9 n9 c9 w9 hn9 hap9; have HN9 := hid hn9; have hb9 := hap9.below N8.out rfl HBASE.out; have HAP9 := hid hap9; have P9 := hid ((P8.out.below HVA.out).keepB hb9 e14); have X9 := hid ((X8.out.below HVA.out).keepB hb9 e15); have HB9 := hid hb9; have p90 := P9.out.c0; have p91 := P9.out.c1; have pf91 := P9.out.fz 1; have x90 := X9.out.c0; clear hn9 hap9 hb9)
              | (at_builtin; (refine wpList_append_rh w9 rfl _ _ _ rfl i0 Try.underlying37 hi0 hz0 hz1 hz2 w7.heap.size A9 n9 c9 ([] ++ l'.take k) rfl HN9.out HAP9.out.own w7.heap.size _ _ _ (l'.drop (k + 1)) rfl HDL2.out (RH.nilR (List.drop_of_length_le (by omega))) HTL2.out (Nat.le_trans HBASE.out HB9.out.size) ?_); intro A10 n10 c10 w10 hn10 hap10; have HN10 := hid hn10; have hb10 := hap10.below HAP9.out.own HN9.out (Nat.le_trans HBASE.out HB9.out.size); have HAP10 := hid hap10; have P10 := hid (P9.out.keepB hb10 e14); have X10 := hid (X9.out.keepB hb10 e15); have HB10 := hid (HB9.out.trans hb10); have p100 := P10.out.c0; have p101 := P10.out.c1; have pf101 := P10.out.fz 1; have x100 := X10.out.c0; have P11 := hid (P10.out.s1 (.slice A10 n10 c10)); have I11 := hid (rowI_keep (rowI_keep (I8.out.below HVA.out) (fun q hq => HB10.out.block q (HILT.out q hq))) (fun q hq => heap_setCell_other w10 ⟨w.heap.size, 1, none⟩ q (.slice A10 n10 c10) (fun e => HIGE.out q hq e))); have I12 := hid (I11.out.below ((Below.refl (w10.setCell ⟨w.heap.size, 1, none⟩ (.slice A10 n10 c10)).heap.size _).alloc (Nat.le_refl _) (.cells #[.int .i64 l'[k].1] 2))); clear hn10 hap10 hb10)
              | (at_builtin; refine wpList_append_lies _ rfl _ _ _ rfl (w.heap.size + 2) 2 j0 _ 1 8 Try.underlying42 hj0 hy0 hy1 hy2 rfl (by omega) (.slice W' ws.length cw) ws.length (icells ws) rfl I12.out ⟨w10.heap.size, 0, none⟩ 1 1 [.int .i64 l'[k].1] rfl rfl (World.news_of_block (cs := #[.int .i64 l'[k].1]) (t := 2) (fr := (0, 0)) (by rw [← World.size_setCell_ w10 ⟨w.heap.size, 1, none⟩ (.slice A10 n10 c10)]; exact heap_alloc_new _ _)) (by simp [Value.oneCell']) (by omega) HW1.out HW2.out (by have := Nat.le_trans HBASE.out HB10.out.size; simp; omega) (w10.heap.size + 1) (by simp) ?_; intro W13 cap13 w13 hown13 hgrow13 hat13 hlt13; have HO13 := hid hown13; have HG13 := hid hgrow13; clear hown13 hgrow13 hat13))
            have hcl := cutAt_length hlt
            have HG14 := HG13.out
            have hI := fun q hq => (World.ownsRow.lt I12.out q hq)
            have hb10s := Nat.le_trans HBASE.out HB10.out.size
            have P13 := (P11.out.below ((Below.refl (w10.setCell ⟨w.heap.size, 1, none⟩ (.slice A10 n10 c10)).heap.size _).alloc (Nat.le_refl _) (.cells #[.int .i64 l'[k].1] 2))).far HG14 (fun q hq => by have := (hI q hq).1; omega)
            have R10 := (R8.out.below HVA.out).keepB HB10.out (by omega)
            have R13 := ((R10.other P10.out (by omega) 1 (.slice A10 n10 c10)).below ((Below.refl (w10.setCell ⟨w.heap.size, 1, none⟩ (.slice A10 n10 c10)).heap.size _).alloc (Nat.le_refl _) (.cells #[.int .i64 l'[k].1] 2))).far HG14 (fun q hq => by have := (hI q hq).1; omega)
            have A10w := (A8.out.below HVA.out).stay (w' := w10) (fun q hq => HB10.out.block q ((HA7.out.size q hq).2))
            have A12 := (A10w.set2 P10.out (by omega) 1 (.slice A10 n10 c10)).below ((Below.refl (w10.setCell ⟨w.heap.size, 1, none⟩ (.slice A10 n10 c10)).heap.size _).alloc (Nat.le_refl _) (.cells #[.int .i64 l'[k].1] 2))
            have A13 := A12.far HG14 (fun q hq => own_ne (by decide) I12.out A12 q hq)
            have K12 := (HAP10.out.own.set2 P10.out (by omega) 1 (.slice A10 n10 c10)).below ((Below.refl (w10.setCell ⟨w.heap.size, 1, none⟩ (.slice A10 n10 c10)).heap.size _).alloc (Nat.le_refl _) (.cells #[.int .i64 l'[k].1] 2))
            have K13 : OwnH w13 w7.heap.size A10 c10 (cutAt l' k) := K12.far HG14 (fun q hq => own_ne (by decide) I12.out K12 q hq)
            have I13 : OwnI w13 (w.heap.size + 2) (some ⟨W13, 0, none⟩) cap13 (ws ++ [l'[k].1]) := by
              have := HO13.out
              rw [icells_snocW] at this
              unfold OwnI
              rw [List.length_append]
              exact this
            have D13 := ((((HD8.out.trans (HVA.out.mono (by rw [HVS.out]; omega))).trans (HB10.out.mono (by omega))).setCell (p := ⟨w.heap.size, 1, none⟩) (by simp) (.slice A10 n10 c10)).alloc (by simp; omega) (.cells #[.int .i64 l'[k].1] 2)).grown HG14 (by simp; omega) (fun q hq => by have := (hI q hq).1; omega)
            have HNC : Hid (n10 = (cutAt l' k).length) := HN10.out
            have HWX : Hid (wakeF (f - 1) (giveL h' l'[k]) (cutAt l' k) (ws ++ [l'[k].1]) = wakeF l.length h l []) := by
              have := HNW.out
              rw [getD_hold hlt] at this
              rw [Hid, ← this]
              exact HWK.out
            have s13 : w10.heap.size + 1 ≤ w13.heap.size := by have := HG14.size; simpa using this
            go_roundg ((l'.length - 1) * 1000 + (l'.length - 1))
            case measure => omega
            case rel => exact ⟨giveL h' l'[k], cutAt l' k, ws ++ [l'[k].1], 0, f - 1, ws.length + 1, _, _, A7, c7, A10, c10, _, cap13, rfl, rfl, by simp, rfl, HNC.out, Nat.zero_le _, by rw [hcl]; omega, by rw [hcl]; omega, by rw [hcl, List.length_append]; simp; omega, noneMay_zero _ _, HLI.out.give hlt, HWX.out, P13, R13, A13.mono (by omega), K13.mono (by omega), (fun q hq e => by have := (HA7.out.size q hq).2; have := (K13.size q e).1; omega), I13, D13, by omega⟩
    · obtain rfl : k = l'.length := by omega
      have HWD := hid (wakeF_done ws (firstL_none HNM.out) f)
      have HEQ : Hid (wakeF l.length h l [] = (h', l', ws)) := HWK.out.symm.trans HWD.out
      have z0 := PR.out.c0
      have z1 := PR.out.c1
      have k0 := PR.out.fz 0
      have k1 := PR.out.fz 1
      subst hn1
      obtain rfl : m = ws.length := HMW.out
      go_wp2_with fail
      have U1 := PR.out.s0 (.slice A' h'.length c')
      have A1 := (OH.out.stay (w' := wr.setCell ⟨w.heap.size + 1, 0, none⟩ (.slice A' h'.length c')) (fun q hq => heap_setCell_other _ _ q _ (fun e => own_ne (by decide) OH.out PR.out q hq (by rw [e]; rfl))))
      have A2 := (A1.stay (w' := (wr.setCell ⟨w.heap.size + 1, 0, none⟩ (.slice A' h'.length c')).setCell ⟨w.heap.size + 1, 1, none⟩ (.slice K' l'.length d')) (fun q hq => heap_setCell_other _ _ q _ (fun e => own_ne (by decide) OH.out PR.out q hq (by rw [e]; rfl))))
      have K1 := (OK.out.stay (w' := wr.setCell ⟨w.heap.size + 1, 0, none⟩ (.slice A' h'.length c')) (fun q hq => heap_setCell_other _ _ q _ (fun e => own_ne (by decide) OK.out PR.out q hq (by rw [e]; rfl))))
      have K2 := (K1.stay (w' := (wr.setCell ⟨w.heap.size + 1, 0, none⟩ (.slice A' h'.length c')).setCell ⟨w.heap.size + 1, 1, none⟩ (.slice K' l'.length d')) (fun q hq => heap_setCell_other _ _ q _ (fun e => own_ne (by decide) OK.out PR.out q hq (by rw [e]; rfl))))
      have I2 := (OI.out.set2 PR.out (by omega) 0 (.slice A' h'.length c')).set2 U1 (by omega) 1 (.slice K' l'.length d')
      refine world_post (S := fun wq => Row2 wq (w.heap.size + 1) 39 (.slice A' h'.length c') (.slice K' l'.length d') ∧ OwnH wq B A' c' h' ∧ OwnH wq B K' d' l' ∧ OwnI wq B W' cw ws ∧ Below w.heap.size w wq) _
        ⟨U1.s1 _, A2, K2, I2.mono (by omega), (HD.out.setCell (by simp) _).setCell (by simp) _⟩ ?_
      clear z0 z1 k0 k1 U1 A1 A2 K1 K2 I2 y0 y1
      intro wq ⟨hq, hqa, hqk, hqi, hqb⟩
      have q0 := hq.c0
      have q1 := hq.c1
      rw [HEQ.out]
      exact bodyPost_ret (v := .tuple #[.agg #[.slice A' h'.length c', .slice K' l'.length d'], .slice W' ws.length cw]) (by simp [results, Try.results82, go_sem, q0, q1]) rfl (by first | exact ⟨A', c', K', d', W', cw, rfl, hqa, hqk, OAP.out, hqi, hqb⟩ | exact ⟨A', c', K', d', W', ⟨cw, rfl⟩, hqa, hqk, OAP.out, hqi, hqb⟩)
end Go.Proofs.Ytjdmaoegfpgfjaa
