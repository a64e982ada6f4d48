/-
  The model's Free: l5Give.
-/
import Derived.Test.YtjdmaoegfpgfjaaFreeS2
namespace Go.Proofs.Ytjdmaoegfpgfjaa
open Go.RowKit

def repB (x : HD) (h : HD) : HD := if ownB h x then x else h
theorem give_yes {h : HS} {x : HD} (e : (h.any fun y => ownB y x) = true) : giveL h x = h.map (repB x) := by rw [giveL, e]; rfl
theorem map_none {h : HS} {x : HD} (e : (h.any fun y => ownB y x) = false) : h.map (repB x) = h := by
  rw [List.map_congr_left (g := id) (fun y hy => ?_), List.map_id]
  have := List.any_eq_false.1 e y hy
  rw [repB, if_neg (by simpa using this)]
  rfl
theorem give_no {h : HS} {x : HD} (e : (h.any fun y => ownB y x) = false) : giveL h x = h.map (repB x) ++ [x] := by rw [map_none e, give_new e]
theorem rep_take {h : HS} {k : Nat} (hk : k < h.length) (x : HD) : (h.take (k + 1)).map (repB x) = (h.take k).map (repB x) ++ [repB x h[k]] := by
  rw [List.take_succ_eq_append_getElem hk, List.map_append]
  rfl
theorem any_own_take {h : HS} {k : Nat} (hk : k < h.length) (x : HD) : ((h.take (k + 1)).any fun y => ownB y x) = (((h.take k).any fun y => ownB y x) || ownB h[k] x) := by
  rw [List.take_succ_eq_append_getElem hk, List.any_append]
  simp
theorem rep_own {x h : HD} (e : ownB h x = true) : repB x h = x := by rw [repB, if_pos e]
theorem rep_not {x h : HD} (e : ownB h x = false) : repB x h = h := by rw [repB, e]; rfl
theorem rep_len (h : HS) (k : Nat) (x : HD) (hk : k ≤ h.length) : ((h.take k).map (repB x)).length = k := by simp; omega
theorem Row3.farR {w w' : World} {g : Nat} {t : TypeId} {a b c : Value} {r : Option Nat} (h : Row3 w g t a b c) (hg : w.grownBy w' r) (hne : ∀ k, r = some k → k ≠ g) : Row3 w' g t a b c :=
  h.kept hg (.inr fun e => hne g (by rw [← e]; rfl) rfl)
theorem Row3.keepB {w w' : World} {g B : Nat} {t : TypeId} {a b c : Value} (h : Row3 w g t a b c) (hb : Below B w w') (hg : g < B) : Row3 w' g t a b c := by
  obtain ⟨h1, h2⟩ := h
  refine ⟨h1, ?_⟩
  rcases h2 with h2 | ⟨q, cap, cur, hv, hq, hh, r⟩
  · exact Or.inl h2
  · injection hv with e1 e2 e3
    injection e1 with e1
    injection e1 with e1
    subst e1 e3
    exact Or.inr ⟨_, _, cur, rfl, hq, by rw [hb.block _ hg]; exact hh, r⟩
theorem Row3.other2 {w : World} {g g' : Nat} {t t' : TypeId} {a b c a' b' : Value} (h : Row3 w g t a b c) (h' : Row2 w g' t' a' b') (hne : g ≠ g') (j : Nat) (v : Value) : Row3 (w.setCell ⟨g', j, none⟩ v) g t a b c :=
  h.kept (h'.stored j v).2 (.inr (by simp [Value.ownBlock]; omega))
/-- The locks that are given: three blocks and an empty row. -/
theorem give_boxes (w : World) (L1 L2 : Value) (x : HD) :
    Row2 ((((w.alloc (.cells #[L1, L2] 39)).alloc (.cells #[.int .i64 x.1, .string x.2.1, .int .i64 x.2.2] 49)).alloc (.cells #[.slice none 0 0, .slice none 0 0] 39)).alloc (.cells #[] 49)) w.heap.size 39 L1 L2 ∧
    Row3 ((((w.alloc (.cells #[L1, L2] 39)).alloc (.cells #[.int .i64 x.1, .string x.2.1, .int .i64 x.2.2] 49)).alloc (.cells #[.slice none 0 0, .slice none 0 0] 39)).alloc (.cells #[] 49)) (w.heap.size + 1) 49 (.int .i64 x.1) (.string x.2.1) (.int .i64 x.2.2) ∧
    Row2 ((((w.alloc (.cells #[L1, L2] 39)).alloc (.cells #[.int .i64 x.1, .string x.2.1, .int .i64 x.2.2] 49)).alloc (.cells #[.slice none 0 0, .slice none 0 0] 39)).alloc (.cells #[] 49)) (w.heap.size + 1 + 1) 39 (.slice none 0 0) (.slice none 0 0) ∧
    OwnH ((((w.alloc (.cells #[L1, L2] 39)).alloc (.cells #[.int .i64 x.1, .string x.2.1, .int .i64 x.2.2] 49)).alloc (.cells #[.slice none 0 0, .slice none 0 0] 39)).alloc (.cells #[] 49)) (w.heap.size + 3) (some ⟨w.heap.size + 1 + 1 + 1, 0, none⟩) 0 [] ∧
    Below w.heap.size w ((((w.alloc (.cells #[L1, L2] 39)).alloc (.cells #[.int .i64 x.1, .string x.2.1, .int .i64 x.2.2] 49)).alloc (.cells #[.slice none 0 0, .slice none 0 0] 39)).alloc (.cells #[] 49)) := by
  have a0 := Row2.lit w 39 L1 L2
  have a1 := Row3.lit (w.alloc (.cells #[L1, L2] 39)) 49 (.int .i64 x.1) (.string x.2.1) (.int .i64 x.2.2)
  have a2 := Row2.lit ((w.alloc (.cells #[L1, L2] 39)).alloc (.cells #[.int .i64 x.1, .string x.2.1, .int .i64 x.2.2] 49)) 39 (.slice none 0 0) (.slice none 0 0)
  have a3 := OwnH.made (w := ((w.alloc (.cells #[L1, L2] 39)).alloc (.cells #[.int .i64 x.1, .string x.2.1, .int .i64 x.2.2] 49)).alloc (.cells #[.slice none 0 0, .slice none 0 0] 39)) (Nat.le_refl _) #[] 0 rfl (Nat.zero_le _)
  simp only [World.size_alloc] at a1 a2 a3
  exact ⟨((a0.below ((Below.refl _ _).alloc (Nat.le_refl _) _)).below ((Below.refl _ _).alloc (Nat.le_refl _) _)).below ((Below.refl _ _).alloc (Nat.le_refl _) _), (a1.below ((Below.refl _ _).alloc (Nat.le_refl _) _)).below ((Below.refl _ _).alloc (Nat.le_refl _) _), a2.below ((Below.refl _ _).alloc (Nat.le_refl _) _), a3,
    (below3 (Below.refl _ _) (Nat.le_refl _)).alloc (by simp; omega) _⟩

set_option maxHeartbeats 8000000 in
set_option maxRecDepth 100000 in
theorem spec_l5Give (A : Option Addr) (c : Nat) (h : HS) (K : Option Addr) (d : Nat) (l : HS) (x : HD) (w : World) (hr : RH w w.heap.size A h) (hn : h.length ≤ 1000) (hr' : RH w w.heap.size K l) (hn' : l.length ≤ 100) :
    Calls Try.prog 139 #[.agg #[.slice A h.length c, .slice K l.length d], .agg #[.int .i64 x.1, .string x.2.1, .int .i64 x.2.2]] w (MadeLn w (giveL h x) l) := by
  obtain ⟨i0, hi0, hz0, hz1, hz2⟩ := info_parts holdInfo
  obtain ⟨b0, b1, b2, b3, b4⟩ := give_boxes w (.slice A h.length c) (.slice K l.length d) x
  have B0 := hid b0
  have B1 := hid b1
  have B2 := hid b2
  have B3 := hid b3
  have B4 := hid b4
  have HR0 := hid hr
  have HRL := hid (hr'.below b4)
  have hs4 : w.heap.size + 4 ≤ ((((w.alloc (.cells #[.slice A h.length c, .slice K l.length d] 39)).alloc (.cells #[.int .i64 x.1, .string x.2.1, .int .i64 x.2.2] 49)).alloc (.cells #[.slice none 0 0, .slice none 0 0] 39)).alloc (.cells #[] 49)).heap.size := by simp
  clear hr hr' b0 b1 b2 b3 b4
  go_enter Try.func139, Try.ntmps139
  go_wp2_with (at_builtin; refine wpList_append_rh _ rfl _ _ _ rfl i0 Try.underlying37 hi0 hz0 hz1 hz2 (w.heap.size + 3) (some ⟨w.heap.size + 1 + 1 + 1, 0, none⟩) 0 0 [] rfl rfl B3.out w.heap.size K l.length d l rfl rfl HRL.out (by simp; omega) (by omega) ?_; intro A5 n5 c5 w5 hn5 hap5; have HN5 := hid hn5; have HAP := hid hap5; clear hn5 hap5)
  have HB45 := hid (HAP.out.below B3.out rfl (by omega))
  have HLN : Hid (OwnH w5 (w.heap.size + 3) A5 c5 l) := HAP.out.own
  generalize hw4 : ((((w.alloc (.cells #[.slice A h.length c, .slice K l.length d] 39)).alloc (.cells #[.int .i64 x.1, .string x.2.1, .int .i64 x.2.2] 49)).alloc (.cells #[.slice none 0 0, .slice none 0 0] 39)).alloc (.cells #[] 49)) = w4 at *
  clear hw4
  have hs5 : w.heap.size + 4 ≤ w5.heap.size := by have := HB45.out.size; omega
  have HBA := hid ((Below.refl w5.heap.size w5).alloc (Nat.le_refl _) (.cells #[.slice none 0 0, .slice A5 n5 c5] 39))
  have PL5 := hid ((B0.out.keepB HB45.out (by omega)).below HBA.out)
  have PX5 := hid ((B1.out.keepB HB45.out (by omega)).below HBA.out)
  have PR5 := hid ((B2.out.keepB HB45.out (by omega)).below HBA.out)
  have PO5 := hid (Row2.lit w5 39 (.slice none 0 0) (.slice A5 n5 c5))
  have HL5 := hid (HLN.out.below HBA.out)
  have HLT : Hid (∀ q, Value.ownBlock (.slice A5 l.length c5) = some q → w.heap.size + 3 ≤ q ∧ q < w5.heap.size) := fun q hq => HLN.out.size q hq
  have HD5 := hid ((B4.out.trans (HB45.out.mono (by omega))).trans (HBA.out.mono (by omega)))
  have hs6 : w5.heap.size + 1 ≤ (w5.alloc (.cells #[.slice none 0 0, .slice A5 n5 c5] 39)).heap.size := by simp
  clear B0 B1 B2 B3 HB45 HAP
  generalize hw6 : w5.alloc (.cells #[.slice none 0 0, .slice A5 n5 c5] 39) = w6 at *
  clear hw6
  go_loopw [6, 7] (fun dn i wr => ∃ (k n1 : Nat) (A1 : Option Addr) (c1 : Nat), k ≤ h.length ∧ dn = .bool ((h.take k).any fun y => ownB y x) ∧ i = .int .i64 k ∧ n1 = ((h.take k).map (repB x)).length ∧ Hid (Row2 wr w.heap.size 39 (.slice A h.length c) (.slice K l.length d)) ∧ Hid (Row3 wr (w.heap.size + 1) 49 (.int .i64 x.1) (.string x.2.1) (.int .i64 x.2.2)) ∧ Hid (Row2 wr (w.heap.size + 1 + 1) 39 (.slice none 0 0) (.slice none 0 0)) ∧ Hid (Row2 wr w5.heap.size 39 (.slice A1 n1 c1) (.slice A5 n5 c5)) ∧ Hid (OwnH wr (w5.heap.size + 1) A1 c1 ((h.take k).map (repB x))) ∧ Hid (OwnH wr (w.heap.size + 3) A5 c5 l) ∧ Below w.heap.size w wr ∧ w5.heap.size + 1 ≤ wr.heap.size) (fun _ i _ => h.length - (intOf i).toNat)
  case atStart => exact ⟨0, 0, none, 0, Nat.zero_le _, rfl, rfl, by simp, PL5.out, PX5.out, PR5.out, PO5.out, (OwnH.nil_ _ _ : OwnH w6 (w5.heap.size + 1) none 0 []), HL5.out, HD5.out, hs6⟩
  case round =>
    obtain ⟨k, n1, A1, c1, hk, rfl, rfl, hn1, PL, PX, PR, PO, HO, HLW, hbw, hsz⟩ := hrel
    have HD := hid hbw
    have HRW := hid (HR0.out.below hbw)
    have HN1 := hid hn1
    have hnk : ((h.take k).map (repB x)).length ≤ 1000 := by rw [rep_len h k x hk]; omega
    clear hbw hn1
    have y0 := PL.out.c0
    have y1 := PL.out.c1
    have x0 := PX.out.c0
    have x1 := PX.out.c1
    have x2 := PX.out.c2
    have o0 := PO.out.c0
    have f0 := PO.out.fz 0
    by_cases hlt : k < h.length
    · obtain ⟨b, off, rfl, hb, hc1, hc2, hc3⟩ := HRW.out.at_ hlt
      have e5 : (0 : Int) ≤ (k : Int) := by omega
      have e6 : (k : Int) < (h.length : Int) := by omega
      by_cases h1 : h[k].1 = x.1
      · by_cases h2 : h[k].2.1 = x.2.1
        · have HE := hid (ownB_iff.2 ⟨h1, h2⟩)
          have g1 := eqI_true h1
          have g2 := eqS_true h2
          clear h1 h2
          have HAN : Hid (((h.take (k + 1)).any fun y => ownB y x) = true) := by rw [Hid, any_own_take hlt, HE.out, Bool.or_true]
          have HRT : Hid ((h.take (k + 1)).map (repB x) = (h.take k).map (repB x) ++ [x]) := by rw [Hid, rep_take hlt, rep_own HE.out]
          go_wp2_with fail
          go_quiet (fail)
          have hdq : Below wr.heap.size wr (wr.drewN nq) := Below.drewN_ (Below.refl _ _) nq
          have PLq := hid (PL.out.below hdq)
          have PXq := hid (PX.out.below hdq)
          have PRq := hid (PR.out.below hdq)
          have POq := hid (PO.out.below hdq)
          have HOq := hid (HO.out.below hdq)
          have HLq := hid (HLW.out.below hdq)
          have HDq := hid (HD.out.trans (hdq.mono (by omega)))
          have hszq : w5.heap.size + 1 ≤ (wr.drewN nq).heap.size := hsz
          have hc1q : (wr.drewN nq).cell? ⟨b, off + k * 3, none⟩ = some (.int .i64 h[k].1) := hc1
          have hc2q : (wr.drewN nq).cell? ⟨b, off + k * 3 + 1, none⟩ = some (.string h[k].2.1) := hc2
          have hc3q : (wr.drewN nq).cell? ⟨b, off + k * 3 + 2, none⟩ = some (.int .i64 h[k].2.2) := hc3
          have hbq : b < (wr.drewN nq).heap.size := Nat.lt_of_lt_of_le hb (by have := HD.out.size; show w.heap.size ≤ wr.heap.size; omega)
          clear hdq y0 y1 x0 x1 x2 o0 f0 hc1 hc2 hc3
          generalize wr.drewN nq = wq at *
          have y0 := PLq.out.c0
          have y1 := PLq.out.c1
          have x0 := PXq.out.c0
          have x1 := PXq.out.c1
          have x2 := PXq.out.c2
          have o0 := POq.out.c0
          have f0 := POq.out.fz 0
          go_wp2_with (at_builtin; refine wpList_append_rh _ rfl _ _ _ rfl i0 Try.underlying37 hi0 hz0 hz1 hz2 (w5.heap.size + 1) A1 n1 c1 ((h.take k).map (repB x)) rfl HN1.out (HOq.out.below ((Below.refl _ _).alloc (Nat.le_refl _) _)) (wq.heap.size + 1) (some ⟨wq.heap.size, 0, none⟩) 1 1 [x] rfl rfl (RH.new wq x 49) (by simp; omega) (by simp; omega) ?_; intro A' n' c' w7 hn7 hap7; obtain ⟨hq7, ho7, hb7⟩ := push_any HOq.out HN1.out (by omega) hszq ((Below.refl _ _).alloc (Nat.le_refl _) _) hap7 POq.out; have HN7 := hid hn7; have o70 := hq7.c0; have f70 := hq7.fz 0; have PO7 := hid hq7; have HO7 := hid ho7; have HB7 := hid hb7; clear hn7 hap7 hq7 ho7 hb7)
          go_roundw
          case rel => exact ⟨k + 1, n', A', c', by omega, by rw [HAN.out], by go_num, by rw [HRT.out]; exact HN7.out, ((PLq.out.keepB HB7.out (by omega)).other PO7.out (by omega) 0 _), ((PXq.out.keepB HB7.out (by omega)).other2 PO7.out (by omega) 0 _), ((PRq.out.keepB HB7.out (by omega)).other PO7.out (by omega) 0 _), PO7.out.s0 _, by rw [HRT.out]; exact HO7.out.set2 PO7.out (by omega) 0 _, (HLq.out.stay (fun q hq => HB7.out.block q (by have := HLT.out q hq; omega))).stay (fun q hq => heap_setCell_other _ ⟨w5.heap.size, 0, none⟩ q _ (fun e => by have := HLT.out q hq; have e' : q = w5.heap.size := e; omega)), ((HDq.out.trans (HB7.out.mono (by omega))).setCell (by simp; omega) _), by have := HB7.out.size; simp; omega⟩
          case measure => simp [intOf]; omega
        · have g1 := eqI_true h1
          have g2 := eqS_false h2
          have HE := hid (own_iff2 h2)
          have HAN : Hid (((h.take (k + 1)).any fun y => ownB y x) = ((h.take k).any fun y => ownB y x)) := by rw [Hid, any_own_take hlt, HE.out, Bool.or_false]
          have HRT : Hid ((h.take (k + 1)).map (repB x) = (h.take k).map (repB x) ++ [h[k]]) := by rw [Hid, rep_take hlt, rep_not HE.out]
          clear h1 h2
          go_wp2_with fail
          go_quiet (fail)
          have hdq : Below wr.heap.size wr (wr.drewN nq) := Below.drewN_ (Below.refl _ _) nq
          have PLq := hid (PL.out.below hdq)
          have PXq := hid (PX.out.below hdq)
          have PRq := hid (PR.out.below hdq)
          have POq := hid (PO.out.below hdq)
          have HOq := hid (HO.out.below hdq)
          have HLq := hid (HLW.out.below hdq)
          have HDq := hid (HD.out.trans (hdq.mono (by omega)))
          have hszq : w5.heap.size + 1 ≤ (wr.drewN nq).heap.size := hsz
          have hc1q : (wr.drewN nq).cell? ⟨b, off + k * 3, none⟩ = some (.int .i64 h[k].1) := hc1
          have hc2q : (wr.drewN nq).cell? ⟨b, off + k * 3 + 1, none⟩ = some (.string h[k].2.1) := hc2
          have hc3q : (wr.drewN nq).cell? ⟨b, off + k * 3 + 2, none⟩ = some (.int .i64 h[k].2.2) := hc3
          have hbq : b < (wr.drewN nq).heap.size := Nat.lt_of_lt_of_le hb (by have := HD.out.size; show w.heap.size ≤ wr.heap.size; omega)
          clear hdq y0 y1 x0 x1 x2 o0 f0 hc1 hc2 hc3
          generalize wr.drewN nq = wq at *
          have y0 := PLq.out.c0
          have y1 := PLq.out.c1
          have x0 := PXq.out.c0
          have x1 := PXq.out.c1
          have x2 := PXq.out.c2
          have o0 := POq.out.c0
          have f0 := POq.out.fz 0
          have o0a := (POq.out.below ((Below.refl wq.heap.size wq).alloc (Nat.le_refl _) (.cells #[.int .i64 h[k].1, .string h[k].2.1, .int .i64 h[k].2.2] 49))).c0
          have e8 : w5.heap.size < wq.heap.size := by omega
          go_wp2_with fail
          go_region_law (refine step_append_rh _ (by rfl) _ _ _ (by rfl) i0 Try.underlying37 hi0 hz0 hz1 hz2 (w5.heap.size + 1) A1 n1 c1 ((h.take k).map (repB x)) (by rfl) HN1.out (HOq.out.below (((Below.refl _ _).drew).alloc (Nat.le_refl _) _)) (wq.heap.size + 1) (some ⟨wq.heap.size, 0, none⟩) 1 1 [h[k]] (by rfl) rfl (RH.new wq.drew h[k] 49) (by simp; omega) (by simp; omega) ?_; intro A' n' c' w7 hn7 hap7; obtain ⟨hq7, ho7, hb7⟩ := push_any HOq.out HN1.out (by omega) hszq (((Below.refl _ _).drew).alloc (Nat.le_refl _) _) hap7 POq.out; have HN7 := hid hn7; have o70 := hq7.c0; have f70 := hq7.fz 0; have PO7 := hid hq7; have HO7 := hid ho7; have HB7 := hid hb7; clear hn7 hap7 hq7 ho7 hb7)
          all_goals
            go_wp2_with fail
            go_roundw
            case rel => exact ⟨k + 1, n', A', c', by omega, by rw [HAN.out], by go_num, by rw [HRT.out]; exact HN7.out, ((PLq.out.keepB HB7.out (by omega)).other PO7.out (by omega) 0 _), ((PXq.out.keepB HB7.out (by omega)).other2 PO7.out (by omega) 0 _), ((PRq.out.keepB HB7.out (by omega)).other PO7.out (by omega) 0 _), PO7.out.s0 _, by rw [HRT.out]; exact HO7.out.set2 PO7.out (by omega) 0 _, (HLq.out.stay (fun q hq => HB7.out.block q (by have := HLT.out q hq; omega))).stay (fun q hq => heap_setCell_other _ ⟨w5.heap.size, 0, none⟩ q _ (fun e => by have := HLT.out q hq; have e' : q = w5.heap.size := e; omega)), ((HDq.out.trans (HB7.out.mono (by omega))).setCell (by simp; omega) _), by have := HB7.out.size; simp; omega⟩
            case measure => simp [intOf]; omega
      · have g1 := eqI_false h1
        have HE := hid (own_iff1 h1)
        have HAN : Hid (((h.take (k + 1)).any fun y => ownB y x) = ((h.take k).any fun y => ownB y x)) := by rw [Hid, any_own_take hlt, HE.out, Bool.or_false]
        have HRT : Hid ((h.take (k + 1)).map (repB x) = (h.take k).map (repB x) ++ [h[k]]) := by rw [Hid, rep_take hlt, rep_not HE.out]
        clear h1
        go_wp2_with fail
        go_quiet (fail)
        have hdq : Below wr.heap.size wr (wr.drewN nq) := Below.drewN_ (Below.refl _ _) nq
        have PLq := hid (PL.out.below hdq)
        have PXq := hid (PX.out.below hdq)
        have PRq := hid (PR.out.below hdq)
        have POq := hid (PO.out.below hdq)
        have HOq := hid (HO.out.below hdq)
        have HLq := hid (HLW.out.below hdq)
        have HDq := hid (HD.out.trans (hdq.mono (by omega)))
        have hszq : w5.heap.size + 1 ≤ (wr.drewN nq).heap.size := hsz
        have hc1q : (wr.drewN nq).cell? ⟨b, off + k * 3, none⟩ = some (.int .i64 h[k].1) := hc1
        have hc2q : (wr.drewN nq).cell? ⟨b, off + k * 3 + 1, none⟩ = some (.string h[k].2.1) := hc2
        have hc3q : (wr.drewN nq).cell? ⟨b, off + k * 3 + 2, none⟩ = some (.int .i64 h[k].2.2) := hc3
        have hbq : b < (wr.drewN nq).heap.size := Nat.lt_of_lt_of_le hb (by have := HD.out.size; show w.heap.size ≤ wr.heap.size; omega)
        clear hdq y0 y1 x0 x1 x2 o0 f0 hc1 hc2 hc3
        generalize wr.drewN nq = wq at *
        have y0 := PLq.out.c0
        have y1 := PLq.out.c1
        have x0 := PXq.out.c0
        have x1 := PXq.out.c1
        have x2 := PXq.out.c2
        have o0 := POq.out.c0
        have f0 := POq.out.fz 0
        have o0a := (POq.out.below ((Below.refl wq.heap.size wq).alloc (Nat.le_refl _) (.cells #[.int .i64 h[k].1, .string h[k].2.1, .int .i64 h[k].2.2] 49))).c0
        have e8 : w5.heap.size < wq.heap.size := by omega
        go_wp2_with fail
        go_region_law (refine step_append_rh _ (by rfl) _ _ _ (by rfl) i0 Try.underlying37 hi0 hz0 hz1 hz2 (w5.heap.size + 1) A1 n1 c1 ((h.take k).map (repB x)) (by rfl) HN1.out (HOq.out.below (((Below.refl _ _).drew).alloc (Nat.le_refl _) _)) (wq.heap.size + 1) (some ⟨wq.heap.size, 0, none⟩) 1 1 [h[k]] (by rfl) rfl (RH.new wq.drew h[k] 49) (by simp; omega) (by simp; omega) ?_; intro A' n' c' w7 hn7 hap7; obtain ⟨hq7, ho7, hb7⟩ := push_any HOq.out HN1.out (by omega) hszq (((Below.refl _ _).drew).alloc (Nat.le_refl _) _) hap7 POq.out; have HN7 := hid hn7; have o70 := hq7.c0; have f70 := hq7.fz 0; have PO7 := hid hq7; have HO7 := hid ho7; have HB7 := hid hb7; clear hn7 hap7 hq7 ho7 hb7)
        all_goals
          go_wp2_with fail
          go_roundw
          case rel => exact ⟨k + 1, n', A', c', by omega, by rw [HAN.out], by go_num, by rw [HRT.out]; exact HN7.out, ((PLq.out.keepB HB7.out (by omega)).other PO7.out (by omega) 0 _), ((PXq.out.keepB HB7.out (by omega)).other2 PO7.out (by omega) 0 _), ((PRq.out.keepB HB7.out (by omega)).other PO7.out (by omega) 0 _), PO7.out.s0 _, by rw [HRT.out]; exact HO7.out.set2 PO7.out (by omega) 0 _, (HLq.out.stay (fun q hq => HB7.out.block q (by have := HLT.out q hq; omega))).stay (fun q hq => heap_setCell_other _ ⟨w5.heap.size, 0, none⟩ q _ (fun e => by have := HLT.out q hq; have e' : q = w5.heap.size := e; omega)), ((HDq.out.trans (HB7.out.mono (by omega))).setCell (by simp; omega) _), by have := HB7.out.size; simp; omega⟩
          case measure => simp [intOf]; omega
    · obtain rfl : k = h.length := by omega
      have HNM : Hid (n1 = (h.map (repB x)).length) := by
        have := HN1.out
        rwa [List.take_length] at this
      have HOM : Hid (OwnH wr (w5.heap.size + 1) A1 c1 (h.map (repB x))) := by
        have := HO.out
        rwa [List.take_length] at this
      rw [List.length_map, List.take_length] at hnk
      have hml : (h.map (repB x)).length ≤ 1000 := by rw [List.length_map]; omega
      clear HN1 HO
      rw [List.take_length]
      cases hany : h.any fun y => ownB y x
      case true =>
        have HG : Hid (giveL h x = h.map (repB x)) := give_yes hany
        have z0 := PR.out.c0
        have z1 := PR.out.c1
        have k0 := PR.out.fz 0
        have k1 := PR.out.fz 1
        have o1 := PO.out.c1
        go_wp2_with fail
        have U1 := PR.out.s0 (.slice A1 n1 c1)
        refine world_post (S := fun wq => Row2 wq (w.heap.size + 1 + 1) 39 (.slice A1 n1 c1) (.slice A5 n5 c5) ∧ MadeLn w (giveL h x) l (.returned (.agg #[.slice A1 n1 c1, .slice A5 n5 c5])) wq) _
          ⟨U1.s1 _, A1, c1, A5, c5, by rw [HG.out, ← HNM.out, HN5.out]; rfl, by rw [HG.out]; exact ((HOM.out.set2 PR.out (by omega) 0 _).set2 U1 (by omega) 1 _).mono (by omega), ((HLW.out.set2 PR.out (by omega) 0 _).set2 U1 (by omega) 1 _).mono (by omega), (fun k h1 h2 => by rw [HG.out] at h1; have q1 := (HOM.out.size k h1).1; have q2 := (HLT.out k h2).2; omega), (HD.out.setCell (by simp; omega) _).setCell (by simp; omega) _⟩ ?_
        clear z0 z1 k0 k1 o1 U1 y0 y1 x0 x1 x2 o0 f0
        intro wq ⟨hq, hm⟩
        have q0 := hq.c0
        have q1 := hq.c1
        exact bodyPost_ret (v := .agg #[.slice A1 n1 c1, .slice A5 n5 c5]) (by simp [results, Try.results139, go_sem, q0, q1]) rfl hm
      case false =>
        have HG : Hid (giveL h x = h.map (repB x) ++ [x]) := give_no hany
        have T1 : (h.map (repB x)).length + [x].length ≤ 4000000 := by first | (simp; done) | (simp; omega) | omega
        have T2 : w5.heap.size + 1 ≤ (wr.alloc (.cells #[.int .i64 x.1, .string x.2.1, .int .i64 x.2.2] 49)).heap.size := by first | (simp; done) | (simp; omega) | omega
        have T3 := hid (HOM.out.below ((Below.refl wr.heap.size wr).alloc (Nat.le_refl _) (.cells #[.int .i64 x.1, .string x.2.1, .int .i64 x.2.2] 49)))
        have HT1 := hid T1
        have HT2 := hid T2
        clear T1 T2
        go_wp2_with (at_builtin; refine wpList_append_rh _ rfl _ _ _ rfl i0 Try.underlying37 hi0 hz0 hz1 hz2 (w5.heap.size + 1) A1 n1 c1 (h.map (repB x)) rfl HNM.out T3.out (wr.heap.size + 1) (some ⟨wr.heap.size, 0, none⟩) 1 1 [x] rfl rfl (RH.new wr x 49) HT1.out HT2.out ?_; intro A' n' c' w7 hn7 hap7; obtain ⟨hq7, ho7, hb7⟩ := push_any HOM.out HNM.out (by omega) hsz ((Below.refl _ _).alloc (Nat.le_refl _) _) hap7 PO.out; have HN7 := hid hn7; have o70 := hq7.c0; have o71 := hq7.c1; have f70 := hq7.fz 0; have PO7 := hid hq7; have HO7 := hid ho7; have HB7 := hid hb7; have PR7 := hid (PR.out.keepB hb7 (by omega)); have z70 := PR7.out.c0; have z71 := PR7.out.c1; have k70 := PR7.out.fz 0; have k71 := PR7.out.fz 1; have hne7 : w5.heap.size ≠ w.heap.size + 1 + 1 := (by omega); clear hn7 hap7 hq7 ho7 hb7)
        have V1 := (PR7.out.other PO7.out (by omega) 0 (.slice A' n' c'))
        have V2 := HO7.out.set2 PO7.out (by omega) 0 (.slice A' n' c')
        have V3 : OwnH (w7.setCell ⟨w5.heap.size, 0, none⟩ (.slice A' n' c')) (w.heap.size + 3) A5 c5 l := (HLW.out.stay (fun q hq => HB7.out.block q (by have := HLT.out q hq; omega))).stay (fun q hq => heap_setCell_other _ ⟨w5.heap.size, 0, none⟩ q _ (fun e => by have := HLT.out q hq; have e' : q = w5.heap.size := e; omega))
        have V4 := (HD.out.trans (HB7.out.mono (by omega : w.heap.size ≤ _))).setCell (p := ⟨w5.heap.size, 0, none⟩) (by simp; omega) (.slice A' n' c')
        have U1 := V1.s0 (.slice A' n' c')
        refine world_post (S := fun wq => Row2 wq (w.heap.size + 1 + 1) 39 (.slice A' n' c') (.slice A5 n5 c5) ∧ MadeLn w (giveL h x) l (.returned (.agg #[.slice A' n' c', .slice A5 n5 c5])) wq) _
          ⟨U1.s1 _, A', c', A5, c5, by rw [HG.out, ← HN7.out, HN5.out]; rfl, by rw [HG.out]; exact ((V2.set2 V1 (by omega) 0 _).set2 U1 (by omega) 1 _).mono (by omega), ((V3.set2 V1 (by omega) 0 _).set2 U1 (by omega) 1 _).mono (by omega), (fun k h1 h2 => by rw [HG.out] at h1; have q1 := (HO7.out.size k h1).1; have q2 := (HLT.out k h2).2; omega), (V4.setCell (by simp; omega) _).setCell (by simp; omega) _⟩ ?_
        clear z70 z71 k70 k71 o70 o71 f70 V1 V2 V3 V4 U1 y0 y1 x0 x1 x2 o0 f0
        intro wq ⟨hq, hm⟩
        have q0 := hq.c0
        have q1 := hq.c1
        exact bodyPost_ret (v := .agg #[.slice A' n' c', .slice A5 n5 c5]) (by simp [results, Try.results139, go_sem, q0, q1]) rfl hm
end Go.Proofs.Ytjdmaoegfpgfjaa
