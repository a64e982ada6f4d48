/-
  The program's leadsBack: who waits for itself, by way of others.
-/
import Derived.Test.YtepgcflkgicpiaaEdgeMem
import Derived.Test.YtepgcflkgicpiaaPageOk
import Derived.BigQuiet
namespace Go.Proofs.Ytepgcflkgicpiaa
open Go.RowKit

theorem QI.ri {w : World} {B g o c : Nat} {xs : List Int} (h : QI 2 w B g o c xs) : RI w w.heap.size (some ⟨g, o, none⟩) xs := .inr ⟨g, o, rfl, h.lt.2, h.cells⟩
theorem QI.one (w : World) (x : Int) {B : Nat} (hB : B ≤ w.heap.size) : QI 2 (w.alloc (.cells #[.int .i64 x] 2)) B w.heap.size 0 1 [x] := by
  have h := World.ownsRow_lit (base := B) (e := 2) (size := 1) w #[.int .i64 x] 1 hB (by unfold maxLen; omega) rfl
  exact ⟨1, [], rfl, by omega, by simp, by simpa [qcells] using h⟩
theorem QI.none_ (w : World) {B : Nat} (hB : B ≤ w.heap.size) : QI 2 (w.alloc (.cells #[] 2)) B w.heap.size 0 0 [] :=
  ⟨0, [], rfl, by omega, by simp, World.ownsRow_made w #[] 0 hB (Nat.zero_le _) rfl⟩

set_option maxHeartbeats 4000000 in
set_option maxRecDepth 100000 in
theorem impl_leadsBack (A : Option Addr) (c : Nat) (es : ES) (t : Int) (w : World) (hr : RE w w.heap.size A es) (hn : es.length ≤ 30000) :
    Calls Try.prog 94 #[.slice A es.length c, .int .i64 t] w fun e w' => e = .returned (.bool (roundB es t)) ∧ Below w.heap.size w w' := by
  obtain ⟨j0, hj0, hy0, hy1, hy2⟩ := info_parts int64Info
  have HR := hid hr
  have Q0 := hid (QI.one w t (B := w.heap.size) (Nat.le_refl _))
  have HB0 := hid ((Below.refl w.heap.size w).alloc (Nat.le_refl _) (.cells #[.int .i64 t] 2))
  clear hr
  go_enter Try.func94, Try.ntmps94
  go_wp2_with fail
  generalize hw1 : w.alloc (.cells #[.int .i64 t] 2) = w1 at *
  clear hw1
  go_loopw [5, 6] (fun i5 i6 wr => ∃ (i n : Nat) (r : List Int) (g o c' : Nat), i5 = .slice (some ⟨g, o, none⟩) n c' ∧ n = r.length ∧ i6 = .int .i64 (i : Int) ∧ Hid (Rnd es t i r) ∧ Hid (QI 2 wr w.heap.size g o c' r) ∧ Hid (Below w.heap.size w wr)) (fun _ i _ => es.length + 2 - (intOf i).toNat)
  case atStart => exact ⟨0, 1, [t], w.heap.size, 0, 1, rfl, rfl, rfl, Rnd.start es t, Q0.out, HB0.out⟩
  case round =>
    obtain ⟨i, n, r, g, o, c', rfl, HN0, rfl, HI, HQ, HB⟩ := hrel
    have HL := hid HI.out.re.len
    by_cases hlt : i < r.length
    · have e1 : (i : Int) < (n : Int) := by omega
      have hib : i ≤ 30001 := by have := HL.out; omega
      have HN1 := hid HN0
      clear HN0
      go_wp2_with fail
      go_loopw [5, 19] (fun i5 i19 wq => ∃ (k n : Nat) (r' : List Int) (g o c' : Nat), k ≤ es.length ∧ i5 = .slice (some ⟨g, o, none⟩) n c' ∧ n = r'.length ∧ i19 = .int .i64 (k : Int) ∧ Hid (Scan es t r[i] r k r') ∧ Hid (QI 2 wq w.heap.size g o c' r') ∧ Hid (Below w.heap.size w wq)) (fun _ i _ => es.length - (intOf i).toNat)
      case atStart => exact ⟨0, n, r, g, o, c', Nat.zero_le _, rfl, HN1.out, rfl, Scan.start HI.out.re _, HQ.out, HB.out⟩
      case round =>
        clear HB HQ
        obtain ⟨k, n2, r', g', o', c2, hk, rfl, HN2, rfl, HS, HQ, HB⟩ := hrel
        by_cases hlk : k < es.length
        · obtain ⟨eb, eo, rfl, heb, hc1, hc2⟩ := (HR.out.below HB.out).at_ hlk
          have Z := hid (Row2.lit wr 59 (.int .i64 es[k].1) (.int .i64 es[k].2))
          have BA := hid ((Below.refl wr.heap.size wr).alloc (Nat.le_refl _) (.cells #[.int .i64 es[k].1, .int .i64 es[k].2] 59))
          have HQ2 := hid (HQ.out.below BA.out)
          have HB2 := hid (HB.out.trans (BA.out.mono HB.out.size))
          have e7 : (0 : Int) ≤ (k : Int) := by omega
          have e8 : (k : Int) < (es.length : Int) := by omega
          have hge := HS.out.ge
          have hlr := HS.out.re.len
          have e9 : (0 : Int) ≤ (i : Int) := by omega
          have e10 : (i : Int) < (n2 : Int) := by omega
          have e11 : i < n2 := by omega
          have HN3 := hid HN2
          have HLR := hid hlr
          clear HN2 hge hlr
          go_wp2_with fail
          generalize hw2 : wr.alloc (.cells #[.int .i64 es[k].1, .int .i64 es[k].2] 59) = w2 at *
          clear hw2 hc1 hc2
          have z0 := Z.out.c0
          have z1 := Z.out.c1
          have q0 := HQ2.out.cells i _ (HS.out.at_ hlt)
          by_cases h1 : es[k].1 = r[i]
          · have g1 := neI_false h1
            have H1 := hid h1
            clear h1
            by_cases h2 : es[k].2 = t
            · have g2 := eqI_true h2
              have HE := hid (HI.out.found hlt (HS.out.found hlk H1.out h2))
              clear h2
              go_quiet (fail)
              have z2 : (w2.drewN nq).cell? ⟨wr.heap.size, 1, none⟩ = some (.int .i64 es[k].2) := z1
              go_wp2_with fail
              go_ret
              exact ⟨ret_bool HE.out.symm, HB2.out.trans (show Below w.heap.size w2 (w2.drewN nq) from ⟨rfl, rfl, rfl, Nat.le_refl _, fun _ _ => rfl⟩)⟩
            · have g2 := eqI_false h2
              have H2 := hid h2
              clear h2
              go_quiet (fail)
              have z2 : (w2.drewN nq).cell? ⟨wr.heap.size, 1, none⟩ = some (.int .i64 es[k].2) := z1
              have HD : Hid (Below w2.heap.size w2 (w2.drewN nq)) := ⟨rfl, rfl, rfl, Nat.le_refl _, fun _ _ => rfl⟩
              have HQ3 := hid (HQ2.out.below HD.out)
              have HB3 := hid (HB2.out.trans (HD.out.mono HB2.out.size))
              generalize hw3 : w2.drewN nq = w3 at *
              clear hw3 z0 z1 q0
              by_cases hm : es[k].2 ∈ r'
              · have HX := hid (HS.out.old hlk H1.out H2.out hm)
                have HC : Hid (Calls Try.prog 155 #[.slice (some ⟨g', o', none⟩) n2 c2, .int .i64 es[k].2] w3 fun e w' => e = .returned (.bool true) ∧ w3 = w') := by
                  have := contains_any (some ⟨g', o', none⟩) c2 r' es[k].2 _ w3 HQ3.out.ri (by have := HLR.out; unfold maxLen; omega)
                  rw [decide_eq_true hm, ← HN3.out] at this
                  exact this
                clear hm
                go_wp2_with (go_at_call 155; refine HC.out.mono ?_; rintro e w' ⟨rfl, rfl⟩)
                go_roundw
                case rel => exact ⟨k + 1, n2, r', g', o', c2, by omega, rfl, HN3.out, by go_num, HX.out, HQ3.out, HB3.out⟩
                case measure => simp [intOf]; omega
              · have HX := hid (HS.out.new hlk H1.out H2.out hm)
                have HC : Hid (Calls Try.prog 155 #[.slice (some ⟨g', o', none⟩) n2 c2, .int .i64 es[k].2] w3 fun e w' => e = .returned (.bool false) ∧ w3 = w') := by
                  have := contains_any (some ⟨g', o', none⟩) c2 r' es[k].2 _ w3 HQ3.out.ri (by have := HLR.out; unfold maxLen; omega)
                  rw [decide_eq_false hm, ← HN3.out] at this
                  exact this
                clear hm
                have BA4 := hid ((Below.refl w3.heap.size w3).alloc (Nat.le_refl _) (.cells #[.int .i64 es[k].2] 2))
                have HQ4 := hid (HQ3.out.below BA4.out)
                have HB4 := hid (HB3.out.trans (BA4.out.mono HB3.out.size))
                have HC4 := hid (World.cell?_alloc_new w3 #[.int .i64 es[k].2] 2 0)
                go_wp2_with (first
                  | (go_at_call 155; refine HC.out.mono ?_; rintro e w' ⟨rfl, rfl⟩)
                  | (at_builtin; refine wpList_append_qi _ rfl _ _ _ rfl 2 j0 Try.underlying29 hj0 hy0 hy1 hy2 w.heap.size g' o' n2 c2 r' es[k].2 rfl HN3.out HQ4.out ⟨w3.heap.size, 0, none⟩ 1 1 rfl rfl HC4.out HB4.out.size (by have := HLR.out; omega) ?_; intro g5 q5 c5 w5 hq5 hg5 hat5; have HQ5 := hid hq5; have HB5 := hid (HB4.out.grown hg5 HB4.out.size (fun k hk => by cases hk; exact HQ4.out.lt.1)); clear hq5 hg5 hat5))
                go_roundw
                case rel => exact ⟨k + 1, n2 + 1, r' ++ [es[k].2], g5, q5, c5, by omega, rfl, by rw [List.length_append, List.length_singleton, HN3.out], by go_num, HX.out, HQ5.out, HB5.out⟩
                case measure => simp [intOf]; omega
          · have g1 := neI_true h1
            have HX := hid (HS.out.skip hlk h1)
            clear h1
            go_quiet (fail)
            go_wp2_with fail
            have HD : Hid (Below w2.heap.size w2 (w2.drewN nq)) := ⟨rfl, rfl, rfl, Nat.le_refl _, fun _ _ => rfl⟩
            go_roundw
            case rel => exact ⟨k + 1, n2, r', g', o', c2, by omega, rfl, HN3.out, by go_num, HX.out, HQ2.out.below HD.out, HB2.out.trans (HD.out.mono HB2.out.size)⟩
            case measure => simp [intOf]; omega
        · obtain rfl : k = es.length := by omega
          have HN3 := hid HN2
          clear HN2
          have HX := hid (HI.out.next hlt HS.out)
          go_wp2_with fail
          go_roundw
          case rel => exact ⟨i + 1, n2, r', g', o', c2, rfl, HN3.out, by go_num, HX.out, HQ.out, HB.out⟩
          case measure => have := HL.out; simp [intOf]; omega
    · have HE := hid (HI.out.done (by omega))
      have e1 : ¬ (i : Int) < (n : Int) := by omega
      have HN1 := hid HN0
      clear HN0
      go_wp2_with fail
      go_ret
      exact ⟨ret_bool HE.out.symm, HB.out⟩
end Go.Proofs.Ytepgcflkgicpiaa
