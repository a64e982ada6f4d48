/-
  The laws' round: who waits for itself, by way of others.
-/
import Derived.Test.YtjdmaoegfpgfjaaRoundLF
import Derived.Test.YtjdmaoegfpgfjaaRoundI
import Derived.Test.YtjdmaoegfpgfjaaMapOk
namespace Go.Proofs.Ytjdmaoegfpgfjaa
open Go.RowKit

set_option maxHeartbeats 1000000 in
theorem hasQ_any (A : Option Addr) (c : Nat) (xs : List Int) (t : Int) (B : Nat) (w : World) (hr : RI w B A xs) (hn : xs.length ≤ maxLen) :
    Calls Try.prog 32 #[.slice A xs.length c, .int .i64 t] w fun e w' => e = .returned (.bool (decide (t ∈ xs))) ∧ w = w' := by
  unfold maxLen at hn
  have HR := hid hr
  clear hr
  go_enter Try.func32, Try.ntmps32
  go_wp2_with fail
  go_loopw [5] (fun i wr => ∃ k : Nat, k ≤ xs.length ∧ i = .int .i64 (k : Int) ∧ Hid (∀ (i : Nat) (h : i < xs.length), i < k → xs[i] ≠ t) ∧ w = wr) (fun i _ => xs.length - (intOf i).toNat)
  case atStart => exact ⟨0, Nat.zero_le _, rfl, fun i hi h => absurd h (by omega), rfl⟩
  case round =>
    obtain ⟨k, hk, rfl, HNO, rfl⟩ := hrel
    by_cases hlt : k < xs.length
    · obtain ⟨b, off, rfl, hb, hc1⟩ := HR.out.at_ hlt
      have e5 : (0 : Int) ≤ (k : Int) := by omega
      have e6 : (k : Int) < (xs.length : Int) := by omega
      by_cases he : xs[k] = t
      · have HE : Hid (decide (t ∈ xs) = true) := by rw [Hid, decide_eq_true_eq, ← he]; exact List.getElem_mem hlt
        have g1 := eqI_true he
        clear he
        go_wp2_with fail
        go_ret
        exact ⟨ret_bool HE.out.symm, rfl⟩
      · have HX : Hid (∀ (i : Nat) (h : i < xs.length), i < k + 1 → xs[i] ≠ t) := fun i hi hlt' => by
          by_cases e : i = k
          · subst e; exact he
          · exact HNO.out i hi (by omega)
        have g1 := eqI_false he
        clear he
        go_wp2_with fail
        go_roundw
        case rel => exact ⟨k + 1, by omega, by go_num, HX.out, by first | rfl | trivial⟩
        case measure => simp [intOf]; omega
    · obtain rfl : k = xs.length := by omega
      have HE : Hid (decide (t ∈ xs) = false) := by
        rw [Hid, decide_eq_false_iff_not]
        intro hm
        obtain ⟨i, hi, e⟩ := List.getElem_of_mem hm
        exact HNO.out i hi hi e
      go_wp2_with fail
      go_ret
      exact ⟨ret_bool HE.out.symm, rfl⟩

set_option maxHeartbeats 8000000 in
set_option maxRecDepth 100000 in
theorem round_any (A : Option Addr) (c : Nat) (es : ES) (w : World) (hr : RE w w.heap.size A es) (hn : es.length ≤ 30000) :
    Calls Try.prog 41 #[.slice A es.length c] w fun e w' => e = .returned (.bool (roundL es)) ∧ Below w.heap.size w w' := by
  obtain ⟨j0, hj0, hy0, hy1, hy2⟩ := info_parts int64Info
  have HR := hid hr
  clear hr
  go_enter Try.func41, Try.ntmps41
  go_wp2_with fail
  go_loopw [3] (fun iv wr => ∃ i : Nat, i ≤ es.length ∧ iv = .int .i64 (i : Int) ∧ Hid (noSeek es i) ∧ Hid (Below w.heap.size w wr)) (fun iv _ => es.length - (intOf iv).toNat)
  case atStart => exact ⟨0, Nat.zero_le _, rfl, fun _ _ h => absurd h (by omega), Below.refl _ _⟩
  case round =>
    obtain ⟨i, hi, rfl, HNS, HB⟩ := hrel
    by_cases hlt : i < es.length
    · obtain ⟨eb, eo, rfl, heb, hc1, hc2⟩ := (HR.out.below HB.out).at_ hlt
      have i1 : (0 : Int) ≤ (i : Int) := by omega
      have i2 : (i : Int) < (es.length : Int) := by omega
      have Q1 := hid (QI.one wr es[i].2 (B := w.heap.size) HB.out.size)
      have HB1 := hid (HB.out.alloc HB.out.size (.cells #[.int .i64 es[i].2] 2))
      go_wp2_with fail
      generalize hw1 : wr.alloc (.cells #[.int .i64 es[i].2] 2) = w1 at *
      clear hc1 hc2
      obtain ⟨wo, rfl⟩ : ∃ wo, wo = wr := ⟨_, rfl⟩
      go_loopw [4, 5] (fun sv kv wr => ∃ (k n : Nat) (r : List Int) (g o c' : Nat), sv = .slice (some ⟨g, o, none⟩) n c' ∧ n = r.length ∧ kv = .int .i64 (k : Int) ∧ Hid (SkL es es[i] k r) ∧ Hid (QI 2 wr w.heap.size g o c' r) ∧ Hid (Below w.heap.size w wr)) (fun _ kv _ => es.length + 2 - (intOf kv).toNat)
      case atStart => exact ⟨0, 1, [es[i].2], wo.heap.size, 0, 1, rfl, rfl, rfl, SkL.start (List.getElem_mem hlt), Q1.out, HB1.out⟩
      case round =>
        obtain ⟨k, n, r, g, o, c', rfl, HN0, rfl, HS, HQ, HB2⟩ := hrel
        have HL := hid HS.out.len
        by_cases hlk : k < r.length
        · obtain ⟨eb2, eo2, hK, heb2, hd1, hd2⟩ := (HR.out.below HB2.out).at_ hlt
          have hBO : eb2 = eb ∧ eo2 = eo := by
            injection hK with h1
            injection h1 with h1 h2
            exact ⟨h1.symm, h2.symm⟩
          obtain ⟨rfl, rfl⟩ := hBO
          clear hK
          have q0 := HQ.out.cells k _ (List.getElem?_eq_getElem hlk)
          have k1 : (0 : Int) ≤ (k : Int) := by omega
          have k2 : (k : Int) < (n : Int) := by omega
          have k3 : k < n := by omega
          have k4 : k ≤ 30001 := by have := HL.out; omega
          have HN1 := hid HN0
          clear HN0
          by_cases hhit : r[k] = es[i].1
          · have g1 := eqI_true hhit
            have HE := hid (seek_yes (List.getElem_mem hlt) (HS.out.hit hlk hhit))
            clear hhit
            go_wp2_with fail
            go_quiet (fail)
            go_wp2_with fail
            go_ret
            exact ⟨ret_bool HE.out.symm, HB2.out.trans (show Below w.heap.size _ (World.drewN _ _) from ⟨rfl, rfl, rfl, Nat.le_refl _, fun _ _ => rfl⟩)⟩
          · have g1 := eqI_false hhit
            have HSC := hid (ScL.start HS.out hlk hhit)
            clear hhit
            go_wp2_with fail
            go_quiet (fail)
            go_wp2_with fail
            have HD : Hid (Below wr.heap.size wr (wr.drewN nq)) := ⟨rfl, rfl, rfl, Nat.le_refl _, fun _ _ => rfl⟩
            have HQ3 := hid (HQ.out.below HD.out)
            have HB3 := hid (HB2.out.trans (HD.out.mono HB2.out.size))
            obtain ⟨wp, rfl⟩ : ∃ wp, wp = wr := ⟨_, rfl⟩
            generalize hw3 : wp.drewN nq = w3 at *
            clear hw3 q0 hd1 hd2
            go_loopw [4, 6] (fun sv jv wr => ∃ (j n : Nat) (r' : List Int) (g o c' : Nat), j ≤ es.length ∧ sv = .slice (some ⟨g, o, none⟩) n c' ∧ n = r'.length ∧ jv = .int .i64 (j : Int) ∧ Hid (ScL es es[i] k r j r') ∧ Hid (QI 2 wr w.heap.size g o c' r') ∧ Hid (Below w.heap.size w wr)) (fun _ jv _ => es.length - (intOf jv).toNat)
            case atStart => exact ⟨0, n, r, g, o, c', Nat.zero_le _, rfl, HN1.out, rfl, HSC.out, HQ3.out, HB3.out⟩
            case round =>
              obtain ⟨j, n2, r', g', o', c2, hj, rfl, HN2, rfl, HS2, HQ4, HB4⟩ := hrel
              by_cases hlj : j < es.length
              · obtain ⟨eb3, eo3, hK, heb3, hd1, hd2⟩ := (HR.out.below HB4.out).at_ hlj
                have hBO : eb3 = eb2 ∧ eo3 = eo2 := by
                  injection hK with h1
                  injection h1 with h1 h2
                  exact ⟨h1.symm, h2.symm⟩
                obtain ⟨rfl, rfl⟩ := hBO
                clear hK
                have hlr := HS2.out.len
                have hkl := HS2.out.lt
                have q0 := HQ4.out.cells k _ (List.getElem?_eq_getElem hkl)
                rw [HS2.out.at_ hkl] at q0
                have j1 : (0 : Int) ≤ (j : Int) := by omega
                have j2 : (j : Int) < (es.length : Int) := by omega
                have k2 : (k : Int) < (n2 : Int) := by omega
                have k3 : k < n2 := by omega
                have HN3 := hid HN2
                have HLR := hid hlr
                have HST := hid (HS2.out.step hlj)
                clear HN2 hlr hkl
                by_cases h1 : es[j].1 = r[k]
                · have g1 := eqI_true h1
                  by_cases hm : es[j].2 ∈ r'
                  · have HX : Hid (ScL es es[i] k r (j + 1) r') := by have := HST.out; rwa [stepL_old hm] at this
                    have HC : Hid (∀ q, Calls Try.prog 32 #[.slice (some ⟨g', o', none⟩) n2 c2, .int .i64 es[j].2] (wr.drewN q) fun e w' => e = .returned (.bool true) ∧ wr.drewN q = w') := fun q => by
                      have := hasQ_any (some ⟨g', o', none⟩) c2 r' es[j].2 _ (wr.drewN q) ((HQ4.out.below (w' := wr.drewN q) ⟨rfl, rfl, rfl, Nat.le_refl _, fun _ _ => rfl⟩).ri) (by have := HLR.out; unfold maxLen; omega)
                      rw [decide_eq_true hm, ← HN3.out] at this
                      exact this
                    clear h1 hm
                    go_wp2_with fail
                    go_quiet ((go_at_call 32; exact quiet_eq (HC.out _)))
                    go_wp2_with fail
                    go_roundw
                    case rel => exact ⟨j + 1, n2, r', g', o', c2, by omega, rfl, HN3.out, by go_num, HX.out, HQ4.out.below ⟨rfl, rfl, rfl, Nat.le_refl _, fun _ _ => rfl⟩, HB4.out.trans (show Below w.heap.size _ (World.drewN _ _) from ⟨rfl, rfl, rfl, Nat.le_refl _, fun _ _ => rfl⟩)⟩
                    case measure => simp [intOf]; omega
                  · have HX : Hid (ScL es es[i] k r (j + 1) (r' ++ [es[j].2])) := by have := HST.out; rwa [stepL_new h1 hm] at this
                    have HC : Hid (∀ q, Calls Try.prog 32 #[.slice (some ⟨g', o', none⟩) n2 c2, .int .i64 es[j].2] (wr.drewN q) fun e w' => e = .returned (.bool false) ∧ wr.drewN q = w') := fun q => by
                      have := hasQ_any (some ⟨g', o', none⟩) c2 r' es[j].2 _ (wr.drewN q) ((HQ4.out.below (w' := wr.drewN q) ⟨rfl, rfl, rfl, Nat.le_refl _, fun _ _ => rfl⟩).ri) (by have := HLR.out; unfold maxLen; omega)
                      rw [decide_eq_false hm, ← HN3.out] at this
                      exact this
                    clear h1 hm
                    go_wp2_with fail
                    go_quiet ((go_at_call 32; exact quiet_eq (HC.out _)))
                    have HD : Hid (Below wr.heap.size wr (wr.drewN nq)) := ⟨rfl, rfl, rfl, Nat.le_refl _, fun _ _ => rfl⟩
                    have HQ5 := hid (HQ4.out.below HD.out)
                    have HB5 := hid (HB4.out.trans (HD.out.mono HB4.out.size))
                    have hd1' : (wr.drewN nq).cell? ⟨eb3, eo3 + j * 2, none⟩ = some (.int .i64 es[j].1) := hd1
                    have hd2' : (wr.drewN nq).cell? ⟨eb3, eo3 + j * 2 + 1, none⟩ = some (.int .i64 es[j].2) := hd2
                    generalize hw4 : wr.drewN nq = w4 at *
                    clear hw4 hd1 hd2 q0
                    have BA4 := hid ((Below.refl w4.heap.size w4).alloc (Nat.le_refl _) (.cells #[.int .i64 es[j].2] 2))
                    have HQ6 := hid (HQ5.out.below BA4.out)
                    have HB6 := hid (HB5.out.trans (BA4.out.mono HB5.out.size))
                    have HC4 := hid (World.cell?_alloc_new w4 #[.int .i64 es[j].2] 2 0)
                    go_wp2_with (at_builtin; refine wpList_append_qi _ rfl _ _ _ rfl 2 j0 Try.underlying42 hj0 hy0 hy1 hy2 w.heap.size g' o' n2 c2 r' es[j].2 rfl HN3.out HQ6.out ⟨w4.heap.size, 0, none⟩ 1 1 rfl rfl HC4.out HB6.out.size (by have := HLR.out; omega) ?_; intro g5 q5 c5 w5 hq5 hg5 hat5; have HQ7 := hid hq5; have HB7 := hid (HB6.out.grown hg5 HB6.out.size (fun k hk => by cases hk; exact HQ6.out.lt.1)); clear hq5 hg5 hat5)
                    go_roundw
                    case rel => exact ⟨j + 1, n2 + 1, r' ++ [es[j].2], g5, q5, c5, by omega, rfl, by rw [List.length_append, List.length_singleton, HN3.out], by go_num, HX.out, HQ7.out, HB7.out⟩
                    case measure => simp [intOf]; omega
                · have g1 := eqI_false h1
                  have HX : Hid (ScL es es[i] k r (j + 1) r') := by have := HST.out; rwa [stepL_skip h1] at this
                  clear h1
                  go_wp2_with fail
                  go_quiet (fail)
                  go_wp2_with fail
                  go_roundw
                  case rel => exact ⟨j + 1, n2, r', g', o', c2, by omega, rfl, HN3.out, by go_num, HX.out, HQ4.out.below ⟨rfl, rfl, rfl, Nat.le_refl _, fun _ _ => rfl⟩, HB4.out.trans (show Below w.heap.size _ (World.drewN _ _) from ⟨rfl, rfl, rfl, Nat.le_refl _, fun _ _ => rfl⟩)⟩
                  case measure => simp [intOf]; omega
              · obtain rfl : j = es.length := by omega
                have HN3 := hid HN2
                clear HN2
                have HX := hid HS2.out.next
                go_wp2_with fail
                go_roundw
                case rel => exact ⟨k + 1, n2, r', g', o', c2, rfl, HN3.out, by go_num, HX.out, HQ4.out, HB4.out⟩
                case measure => have := HL.out; simp [intOf]; omega
        · have HE := hid (HS.out.done (by omega))
          have HX := hid (noSeek_succ HNS.out hlt HE.out)
          have e1 : ¬ (k : Int) < (n : Int) := by omega
          have HN1 := hid HN0
          clear HN0
          go_wp2_with fail
          go_roundw
          case rel => exact ⟨i + 1, by omega, by go_num, HX.out, HB2.out⟩
          case measure => simp [intOf]; omega
    · obtain rfl : i = es.length := by omega
      have HE := hid (noSeek_end HNS.out)
      go_wp2_with fail
      go_ret
      exact ⟨ret_bool HE.out.symm, HB.out⟩
end Go.Proofs.Ytjdmaoegfpgfjaa
