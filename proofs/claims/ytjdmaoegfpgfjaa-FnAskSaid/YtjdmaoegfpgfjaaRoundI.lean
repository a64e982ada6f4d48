/-
  The program's leadsBack: who waits for itself, by way of others.
  The model's l5Round: who waits for itself, by way of others.
-/
import Derived.Test.YtjdmaoegfpgfjaaEdgeMem
import Derived.Test.YtjdmaoegfpgfjaaPageOk
import Derived.BigQuiet
import Derived.Test.YtjdmaoegfpgfjaaLockOwn
namespace Go.Proofs.Ytjdmaoegfpgfjaa
open Go.RowKit

theorem QI.ri {w : World} {B g o c : Nat} {xs : List Int} (h : QI 2 w B g o c xs) : RI w w.heap.size (some ⟨g, o, none⟩) xs := .inr ⟨g, o, rfl, h.lt.2, h.cells⟩
theorem QI.one (w : World) (x : Int) {B : Nat} (hB : B ≤ w.heap.size) : QI 2 (w.alloc (.cells #[.int .i64 x] 2)) B w.heap.size 0 1 [x] := by
  have h := World.ownsRow_lit (base := B) (e := 2) (size := 1) w #[.int .i64 x] 1 hB (by unfold maxLen; omega) rfl
  exact ⟨1, [], rfl, by omega, by simp, by simpa [qcells] using h⟩
theorem QI.none_ (w : World) {B : Nat} (hB : B ≤ w.heap.size) : QI 2 (w.alloc (.cells #[] 2)) B w.heap.size 0 0 [] :=
  ⟨0, [], rfl, by omega, by simp, World.ownsRow_made w #[] 0 hB (Nat.zero_le _) rfl⟩

set_option maxHeartbeats 4000000 in
set_option maxRecDepth 100000 in
theorem impl_leadsBack (A : Option Addr) (c : Nat) (es : ES) (t : Int) (w : World) (hr : RE w w.heap.size A es) (hn : es.length ≤ 30000) :
    Calls Try.prog 96 #[.slice A es.length c, .int .i64 t] w fun e w' => e = .returned (.bool (roundB es t)) ∧ Below w.heap.size w w' := by
  obtain ⟨j0, hj0, hy0, hy1, hy2⟩ := info_parts int64Info
  have HR := hid hr
  have Q0 := hid (QI.one w t (B := w.heap.size) (Nat.le_refl _))
  have HB0 := hid ((Below.refl w.heap.size w).alloc (Nat.le_refl _) (.cells #[.int .i64 t] 2))
  clear hr
  go_enter Try.func96, Try.ntmps96
  go_wp2_with fail
  generalize hw1 : w.alloc (.cells #[.int .i64 t] 2) = w1 at *
  clear hw1
  go_loopw [5, 6] (fun i5 i6 wr => ∃ (i n : Nat) (r : List Int) (g o c' : Nat), i5 = .slice (some ⟨g, o, none⟩) n c' ∧ n = r.length ∧ i6 = .int .i64 (i : Int) ∧ Hid (Rnd es t i r) ∧ Hid (QI 2 wr w.heap.size g o c' r) ∧ Hid (Below w.heap.size w wr)) (fun _ i _ => es.length + 2 - (intOf i).toNat)
  case atStart => exact ⟨0, 1, [t], w.heap.size, 0, 1, rfl, rfl, rfl, Rnd.start es t, Q0.out, HB0.out⟩
  case round =>
    obtain ⟨i, n, r, g, o, c', rfl, HN0, rfl, HI, HQ, HB⟩ := hrel
    have HL := hid HI.out.re.len
    by_cases hlt : i < r.length
    · have e1 : (i : Int) < (n : Int) := by omega
      have hib : i ≤ 30001 := by have := HL.out; omega
      have HN1 := hid HN0
      clear HN0
      go_wp2_with fail
      go_loopw [5, 19] (fun i5 i19 wq => ∃ (k n : Nat) (r' : List Int) (g o c' : Nat), k ≤ es.length ∧ i5 = .slice (some ⟨g, o, none⟩) n c' ∧ n = r'.length ∧ i19 = .int .i64 (k : Int) ∧ Hid (Scan es t r[i] r k r') ∧ Hid (QI 2 wq w.heap.size g o c' r') ∧ Hid (Below w.heap.size w wq)) (fun _ i _ => es.length - (intOf i).toNat)
      case atStart => exact ⟨0, n, r, g, o, c', Nat.zero_le _, rfl, HN1.out, rfl, Scan.start HI.out.re _, HQ.out, HB.out⟩
      case round =>
        clear HB HQ
        obtain ⟨k, n2, r', g', o', c2, hk, rfl, HN2, rfl, HS, HQ, HB⟩ := hrel
        by_cases hlk : k < es.length
        · obtain ⟨eb, eo, rfl, heb, hc1, hc2⟩ := (HR.out.below HB.out).at_ hlk
          have Z := hid (Row2.lit wr 56 (.int .i64 es[k].1) (.int .i64 es[k].2))
          have BA := hid ((Below.refl wr.heap.size wr).alloc (Nat.le_refl _) (.cells #[.int .i64 es[k].1, .int .i64 es[k].2] 56))
          have HQ2 := hid (HQ.out.below BA.out)
          have HB2 := hid (HB.out.trans (BA.out.mono HB.out.size))
          have e7 : (0 : Int) ≤ (k : Int) := by omega
          have e8 : (k : Int) < (es.length : Int) := by omega
          have hge := HS.out.ge
          have hlr := HS.out.re.len
          have e9 : (0 : Int) ≤ (i : Int) := by omega
          have e10 : (i : Int) < (n2 : Int) := by omega
          have e11 : i < n2 := by omega
          have HN3 := hid HN2
          have HLR := hid hlr
          clear HN2 hge hlr
          go_wp2_with fail
          generalize hw2 : wr.alloc (.cells #[.int .i64 es[k].1, .int .i64 es[k].2] 56) = w2 at *
          clear hw2 hc1 hc2
          have z0 := Z.out.c0
          have z1 := Z.out.c1
          have q0 := HQ2.out.cells i _ (HS.out.at_ hlt)
          by_cases h1 : es[k].1 = r[i]
          · have g1 := neI_false h1
            have H1 := hid h1
            clear h1
            by_cases h2 : es[k].2 = t
            · have g2 := eqI_true h2
              have HE := hid (HI.out.found hlt (HS.out.found hlk H1.out h2))
              clear h2
              go_quiet (fail)
              have z2 : (w2.drewN nq).cell? ⟨wr.heap.size, 1, none⟩ = some (.int .i64 es[k].2) := z1
              go_wp2_with fail
              go_ret
              exact ⟨ret_bool HE.out.symm, HB2.out.trans (show Below w.heap.size w2 (w2.drewN nq) from ⟨rfl, rfl, rfl, Nat.le_refl _, fun _ _ => rfl⟩)⟩
            · have g2 := eqI_false h2
              have H2 := hid h2
              clear h2
              go_quiet (fail)
              have z2 : (w2.drewN nq).cell? ⟨wr.heap.size, 1, none⟩ = some (.int .i64 es[k].2) := z1
              have HD : Hid (Below w2.heap.size w2 (w2.drewN nq)) := ⟨rfl, rfl, rfl, Nat.le_refl _, fun _ _ => rfl⟩
              have HQ3 := hid (HQ2.out.below HD.out)
              have HB3 := hid (HB2.out.trans (HD.out.mono HB2.out.size))
              generalize hw3 : w2.drewN nq = w3 at *
              clear hw3 z0 z1 q0
              by_cases hm : es[k].2 ∈ r'
              · have HX := hid (HS.out.old hlk H1.out H2.out hm)
                have HC : Hid (Calls Try.prog 158 #[.slice (some ⟨g', o', none⟩) n2 c2, .int .i64 es[k].2] w3 fun e w' => e = .returned (.bool true) ∧ w3 = w') := by
                  have := contains_any (some ⟨g', o', none⟩) c2 r' es[k].2 _ w3 HQ3.out.ri (by have := HLR.out; unfold maxLen; omega)
                  rw [decide_eq_true hm, ← HN3.out] at this
                  exact this
                clear hm
                go_wp2_with (go_at_call 158; refine HC.out.mono ?_; rintro e w' ⟨rfl, rfl⟩)
                go_roundw
                case rel => exact ⟨k + 1, n2, r', g', o', c2, by omega, rfl, HN3.out, by go_num, HX.out, HQ3.out, HB3.out⟩
                case measure => simp [intOf]; omega
              · have HX := hid (HS.out.new hlk H1.out H2.out hm)
                have HC : Hid (Calls Try.prog 158 #[.slice (some ⟨g', o', none⟩) n2 c2, .int .i64 es[k].2] w3 fun e w' => e = .returned (.bool false) ∧ w3 = w') := by
                  have := contains_any (some ⟨g', o', none⟩) c2 r' es[k].2 _ w3 HQ3.out.ri (by have := HLR.out; unfold maxLen; omega)
                  rw [decide_eq_false hm, ← HN3.out] at this
                  exact this
                clear hm
                have BA4 := hid ((Below.refl w3.heap.size w3).alloc (Nat.le_refl _) (.cells #[.int .i64 es[k].2] 2))
                have HQ4 := hid (HQ3.out.below BA4.out)
                have HB4 := hid (HB3.out.trans (BA4.out.mono HB3.out.size))
                have HC4 := hid (World.cell?_alloc_new w3 #[.int .i64 es[k].2] 2 0)
                go_wp2_with (first
                  | (go_at_call 158; refine HC.out.mono ?_; rintro e w' ⟨rfl, rfl⟩)
                  | (at_builtin; refine wpList_append_qi _ rfl _ _ _ rfl 2 j0 Try.underlying42 hj0 hy0 hy1 hy2 w.heap.size g' o' n2 c2 r' es[k].2 rfl HN3.out HQ4.out ⟨w3.heap.size, 0, none⟩ 1 1 rfl rfl HC4.out HB4.out.size (by have := HLR.out; omega) ?_; intro g5 q5 c5 w5 hq5 hg5 hat5; have HQ5 := hid hq5; have HB5 := hid (HB4.out.grown hg5 HB4.out.size (fun k hk => by cases hk; exact HQ4.out.lt.1)); clear hq5 hg5 hat5))
                go_roundw
                case rel => exact ⟨k + 1, n2 + 1, r' ++ [es[k].2], g5, q5, c5, by omega, rfl, by rw [List.length_append, List.length_singleton, HN3.out], by go_num, HX.out, HQ5.out, HB5.out⟩
                case measure => simp [intOf]; omega
          · have g1 := neI_true h1
            have HX := hid (HS.out.skip hlk h1)
            clear h1
            go_quiet (fail)
            go_wp2_with fail
            have HD : Hid (Below w2.heap.size w2 (w2.drewN nq)) := ⟨rfl, rfl, rfl, Nat.le_refl _, fun _ _ => rfl⟩
            go_roundw
            case rel => exact ⟨k + 1, n2, r', g', o', c2, by omega, rfl, HN3.out, by go_num, HX.out, HQ2.out.below HD.out, HB2.out.trans (HD.out.mono HB2.out.size)⟩
            case measure => simp [intOf]; omega
        · obtain rfl : k = es.length := by omega
          have HN3 := hid HN2
          clear HN2
          have HX := hid (HI.out.next hlt HS.out)
          go_wp2_with fail
          go_roundw
          case rel => exact ⟨i + 1, n2, r', g', o', c2, rfl, HN3.out, by go_num, HX.out, HQ.out, HB.out⟩
          case measure => have := HL.out; simp [intOf]; omega
    · have HE := hid (HI.out.done (by omega))
      have e1 : ¬ (i : Int) < (n : Int) := by omega
      have HN1 := hid HN0
      clear HN0
      go_wp2_with fail
      go_ret
      exact ⟨ret_bool HE.out.symm, HB.out⟩
end Go.Proofs.Ytjdmaoegfpgfjaa
namespace Go.Proofs.Ytjdmaoegfpgfjaa
open Go.RowKit

def lenQ : Value → Nat | .slice _ n _ => n | _ => 0
theorem Reach.tail_snoc {es : ES} {t : Int} {r : List Int} (h : Reach es t r) (x : Int) : (r ++ [x]).tail = r.tail ++ [x] := by
  obtain ⟨s, rfl, _⟩ := h.hd
  rfl
theorem Reach.tail_len {es : ES} {t : Int} {r : List Int} (h : Reach es t r) : r.length = r.tail.length + 1 := by
  obtain ⟨s, rfl, _⟩ := h.hd
  rfl
theorem Reach.mem_tail {es : ES} {t x : Int} {r : List Int} (h : Reach es t r) (hx : x ∈ r.tail) : x ≠ t ∧ x ∈ r := by
  obtain ⟨s, rfl, ht⟩ := h.hd
  exact ⟨fun e => ht (e ▸ hx), List.mem_cons_of_mem _ hx⟩
theorem Reach.not_tail {es : ES} {t x : Int} {r : List Int} (h : Reach es t r) (hx : x ∉ r.tail) (hne : x ≠ t) : x ∉ r := by
  obtain ⟨s, rfl, ht⟩ := h.hd
  intro hm
  rcases List.mem_cons.1 hm with e | hm
  · exact hne e
  · exact hx hm
theorem drop_snoc {r : List Int} {i : Nat} (h : i ≤ r.length) (x : Int) : (r ++ [x]).drop i = r.drop i ++ [x] := List.drop_append_of_le_length h
theorem drop_cons {r : List Int} {i : Nat} (h : i < r.length) : r.drop i = r[i] :: r.drop (i + 1) := List.drop_eq_getElem_cons h

/-- The two rows: those that were seen, and those that are still to be looked at. -/
structure TwoQ (w : World) (B g1 q1 c1 g2 q2 c2 : Nat) (s nx : List Int) : Prop where
  a : QI 2 w B g1 q1 c1 s
  b : QI 2 w B g2 q2 c2 nx
  ne : g1 ≠ g2
theorem TwoQ.below {w w' : World} {B g1 q1 c1 g2 q2 c2 : Nat} {s nx : List Int} (h : TwoQ w B g1 q1 c1 g2 q2 c2 s nx) (hb : Below w.heap.size w w') : TwoQ w' B g1 q1 c1 g2 q2 c2 s nx := ⟨h.a.below hb, h.b.below hb, h.ne⟩
theorem TwoQ.left {w w' : World} {B g1 q1 c1 g2 q2 c2 g q c : Nat} {s nx s' : List Int} (h : TwoQ w B g1 q1 c1 g2 q2 c2 s nx) (hg : w.grownBy w' (some g1)) (ha : QI 2 w' B g q c s') (hat : g = g1 ∨ w.heap.size ≤ g) : TwoQ w' B g q c g2 q2 c2 s' nx := by
  have h1 := h.b.lt
  have h2 := h.ne
  exact ⟨ha, h.b.far hg (by simpa using Ne.symm h2), by omega⟩
theorem TwoQ.right {w w' : World} {B g1 q1 c1 g2 q2 c2 g q c : Nat} {s nx s' : List Int} (h : TwoQ w B g1 q1 c1 g2 q2 c2 s nx) (hg : w.grownBy w' (some g2)) (ha : QI 2 w' B g q c s') (hat : g = g2 ∨ w.heap.size ≤ g) : TwoQ w' B g1 q1 c1 g q c s s' := by
  have h1 := h.a.lt
  have h2 := h.ne
  exact ⟨h.a.far hg (by simpa using h2), ha, by omega⟩

theorem TwoQ.pop {w : World} {B g1 q1 c1 g2 q2 c2 : Nat} {s nx l : List Int} {x : Int} (h : TwoQ w B g1 q1 c1 g2 q2 c2 s l) (e : l = x :: nx) : TwoQ w B g1 q1 c1 g2 (q2 + 1) (c2 - 1) s nx := by
  subst e
  exact ⟨h.a, h.b.pop, h.ne⟩
theorem TwoQ.pop1 {w : World} {B g1 q1 c1 g2 q2 : Nat} {s nx l : List Int} {x : Int} (h : TwoQ w B g1 q1 c1 g2 q2 1 s l) (e : l = x :: nx) : TwoQ w B g1 q1 c1 g2 q2 0 s nx := by
  subst e
  obtain ⟨e, h1⟩ := h.b.pop1
  subst e
  exact ⟨h.a, h1, h.ne⟩

set_option maxHeartbeats 4000000 in
set_option maxRecDepth 100000 in
theorem spec_l5Round (A : Option Addr) (c : Nat) (es : ES) (t : Int) (w : World) (hr : RE w w.heap.size A es) (hn : es.length ≤ 30000) :
    Calls Try.prog 161 #[.slice A es.length c, .int .i64 t] w fun e w' => e = .returned (.bool (roundB es t)) ∧ Below w.heap.size w w' := by
  obtain ⟨j0, hj0, hy0, hy1, hy2⟩ := info_parts int64Info
  have HR := hid hr
  have hb1 := (Below.refl w.heap.size w).alloc (Nat.le_refl _) (.cells #[] 2)
  have q1 := QI.none_ w (B := w.heap.size) (Nat.le_refl _)
  have q2 := QI.one (w.alloc (.cells #[] 2)) t (B := w.heap.size) (by simp)
  have hb2 := (Below.refl (w.alloc (.cells #[] 2)).heap.size (w.alloc (.cells #[] 2))).alloc (Nat.le_refl _) (.cells #[.int .i64 t] 2)
  have HQ0 : Hid (TwoQ ((w.alloc (.cells #[] 2)).alloc (.cells #[.int .i64 t] 2)) w.heap.size w.heap.size 0 0 (w.heap.size + 1) 0 1 [] [t]) := ⟨q1.below hb2, by simpa using q2, by omega⟩
  have HB0 := hid (hb1.trans (hb2.mono hb1.size))
  clear hr hb1 hb2 q1 q2
  go_enter Try.func161, Try.ntmps161
  go_wp2_with fail
  generalize hw1 : (w.alloc (.cells #[] 2)).alloc (.cells #[.int .i64 t] 2) = w1 at *
  clear hw1
  go_loopw [5, 6] (fun i5 i6 wr => ∃ (i n1 n2 : Nat) (r : List Int) (g1 q1 c1 g2 q2 c2 : Nat), i5 = .slice (some ⟨g1, q1, none⟩) n1 c1 ∧ n1 = r.tail.length ∧ i6 = .slice (some ⟨g2, q2, none⟩) n2 c2 ∧ n2 = (r.drop i).length ∧ Hid (Rnd es t i r) ∧ Hid (TwoQ wr w.heap.size g1 q1 c1 g2 q2 c2 r.tail (r.drop i)) ∧ Hid (Below w.heap.size w wr)) (fun i5 i6 _ => es.length + 2 + lenQ i6 - (lenQ i5 + 1))
  case atStart => exact ⟨0, 0, 1, [t], _, _, _, _, _, _, rfl, rfl, rfl, rfl, Rnd.start es t, HQ0.out, HB0.out⟩
  case round =>
    obtain ⟨i, n1, n2, r, g1, q1, c1, g2, q2, c2, rfl, HN1, rfl, HN2, HI, HQ, HB⟩ := hrel
    have HL := hid HI.out.re.len
    have HT := hid HI.out.re.tail_len
    have hdl : (r.drop i).length = r.length - i := List.length_drop
    by_cases hlt : i < r.length
    · have e1 : (0 : Int) < (n2 : Int) := by omega
      have e2 : 0 < n2 := by omega
      have hcc := HQ.out.b.le
      have e3 : n2 ≤ c2 := by omega
      have e4 : 1 ≤ n2 := by omega
      have e5 : (1 : Int) ≤ (n2 : Int) := by omega
      have e6 : (1 : Int) ≤ (c2 : Int) := by omega
      have q0 : wr.cell? ⟨g2, q2, none⟩ = some (.int .i64 r[i]) := HQ.out.b.cells 0 r[i] (by rw [drop_cons hlt]; rfl)
      have HN1' := hid HN1
      have HN2a := hid HN2
      clear HN1 HN2 hdl hcc
      have HN1 := HN1'
      have HN2 := HN2a
      clear HN2a
      -- WALK-BEGIN
      by_cases hc1 : c2 = 1
      · subst hc1
        obtain rfl : n2 = 1 := by omega
        have HP := hid (HQ.out.pop1 (drop_cons hlt))
        have HN2' : Hid (0 = (r.drop (i + 1)).length) := by have h := HN2.out; rw [List.length_drop] at h; rw [Hid, List.length_drop]; omega
        go_wp2_with fail
        clear e1 e2 e3 e4 e5 e6 q0
        go_loopw [5, 6, 8] (fun i5 i6 i8 wq => ∃ (k n1 n2 : Nat) (r' : List Int) (g1 q1 c1 g2 q2 c2 : Nat), k ≤ es.length ∧ i5 = .slice (some ⟨g1, q1, none⟩) n1 c1 ∧ n1 = r'.tail.length ∧ i6 = .slice (some ⟨g2, q2, none⟩) n2 c2 ∧ n2 = (r'.drop (i + 1)).length ∧ i8 = .int .i64 (k : Int) ∧ Hid (Scan es t r[i] r k r') ∧ Hid (TwoQ wq w.heap.size g1 q1 c1 g2 q2 c2 r'.tail (r'.drop (i + 1))) ∧ Hid (Below w.heap.size w wq)) (fun _ _ i8 _ => es.length - (intOf i8).toNat)
        case atStart => exact ⟨0, n1, 0, r, g1, q1, c1, g2, q2, 0, Nat.zero_le _, rfl, HN1'.out, rfl, HN2'.out, rfl, Scan.start HI.out.re _, HP.out, HB.out⟩
        case round =>
          clear HB HQ HP HN1' HN2'
          obtain ⟨k, m1, m2, r', a1, a2, a3, b1, b2, b3, hk, rfl, HM1, rfl, HM2, rfl, HS, HQ, HB⟩ := hrel
          have HM1' := hid HM1
          have HM2' := hid HM2
          clear HM1 HM2
          by_cases hlk : k < es.length
          · obtain ⟨eb, eo, rfl, heb, hc1, hc2⟩ := (HR.out.below HB.out).at_ hlk
            have e7 : (0 : Int) ≤ (k : Int) := by omega
            have e8 : (k : Int) < (es.length : Int) := by omega
            have HLR := hid HS.out.re.len
            have HTR := hid HS.out.re.tail_len
            by_cases h1 : es[k].1 = r[i]
            · have g1' := neI_false h1
              have H1 := hid h1
              clear h1
              by_cases hm : es[k].2 ∈ r'.tail
              · have hmm := HS.out.re.mem_tail hm
                have HX := hid (HS.out.old hlk H1.out hmm.1 hmm.2)
                have HC : Hid (Calls Try.prog 200 #[.slice (some ⟨a1, a2, none⟩) m1 a3, .int .i64 es[k].2] wr fun e w' => e = .returned (.bool true) ∧ wr = w') := by
                  have := spec_l1Has (some ⟨a1, a2, none⟩) a3 r'.tail es[k].2 _ wr HQ.out.a.ri (by have := HLR.out; have := HTR.out; unfold maxLen; omega)
                  rw [decide_eq_true hm, ← HM1'.out] at this
                  exact this
                clear hm hmm
                go_wp2_with (go_at_call 200; refine HC.out.mono ?_; rintro e w' ⟨rfl, rfl⟩)
                go_roundw
                case rel => exact ⟨k + 1, m1, m2, r', a1, a2, a3, b1, b2, b3, by omega, rfl, HM1'.out, rfl, HM2'.out, by go_num, HX.out, HQ.out, HB.out⟩
                case measure => simp [intOf]; omega
              · have HC : Hid (Calls Try.prog 200 #[.slice (some ⟨a1, a2, none⟩) m1 a3, .int .i64 es[k].2] wr fun e w' => e = .returned (.bool false) ∧ wr = w') := by
                  have := spec_l1Has (some ⟨a1, a2, none⟩) a3 r'.tail es[k].2 _ wr HQ.out.a.ri (by have := HLR.out; have := HTR.out; unfold maxLen; omega)
                  rw [decide_eq_false hm, ← HM1'.out] at this
                  exact this
                by_cases h2 : es[k].2 = t
                · have g2' := eqI_true h2
                  have HE := hid (HI.out.found hlt (HS.out.found hlk H1.out h2))
                  clear h2 hm
                  go_wp2_with (go_at_call 200; refine HC.out.mono ?_; rintro e w' ⟨rfl, rfl⟩)
                  go_ret
                  exact ⟨ret_bool HE.out.symm, HB.out⟩
                · have g2' := eqI_false h2
                  have HX := hid (HS.out.new hlk H1.out h2 (HS.out.re.not_tail hm h2))
                  have HTS := hid (HS.out.re.tail_snoc es[k].2)
                  have HDS : Hid ((r' ++ [es[k].2]).drop (i + 1) = r'.drop (i + 1) ++ [es[k].2]) := drop_snoc (by have := HS.out.ge; omega) _
                  have BA := hid ((Below.refl wr.heap.size wr).alloc (Nat.le_refl _) (.cells #[.int .i64 es[k].2] 2))
                  have HQ4 := hid (HQ.out.below BA.out)
                  have HB4 := hid (HB.out.trans (BA.out.mono HB.out.size))
                  have HC4 := hid (World.cell?_alloc_new wr #[.int .i64 es[k].2] 2 0)
                  have HRE := hid HR.out
                  clear h2 hm
                  have tk1 : Hid (1 = 1) := rfl
                  have tk2 : Hid (1 = 1) := rfl
                  go_wp2_with (first
                    | (go_at_call 200; refine HC.out.mono ?_; rintro e w' ⟨rfl, rfl⟩)
                    | (clear tk1; at_builtin; refine wpList_append_qi _ rfl _ _ _ rfl 2 j0 Try.underlying42 hj0 hy0 hy1 hy2 w.heap.size a1 a2 m1 a3 r'.tail es[k].2 rfl HM1'.out HQ4.out.a ⟨wr.heap.size, 0, none⟩ 1 1 rfl rfl HC4.out HB4.out.size (by have := HLR.out; have := HTR.out; omega) ?_; intro g5 q5 c5 w5 hq5 hg5 hat5; have HB5 := hid (HB4.out.grown hg5 HB4.out.size (fun k hk => by cases hk; exact HQ4.out.a.lt.1)); have HQ5 := hid (HQ4.out.left hg5 hq5 hat5); have HE5 := hid ((HRE.out.below HB5.out).at_ hlk); clear hq5 hg5 hat5 hc1 hc2; obtain ⟨eb5, eo5, he5, heb5, hc51, hc52⟩ := HE5.out; cases he5; have BA6 := hid ((Below.refl w5.heap.size w5).alloc (Nat.le_refl _) (.cells #[.int .i64 es[k].2] 2)); have HQ6 := hid (HQ5.out.below BA6.out); have HB6 := hid (HB5.out.trans (BA6.out.mono HB5.out.size)); have HC6 := hid (World.cell?_alloc_new w5 #[.int .i64 es[k].2] 2 0))
                    | (clear tk2; at_builtin; refine wpList_append_qi _ rfl _ _ _ rfl 2 j0 Try.underlying42 hj0 hy0 hy1 hy2 w.heap.size b1 b2 m2 b3 (r'.drop (i + 1)) es[k].2 rfl HM2'.out HQ6.out.b ⟨w5.heap.size, 0, none⟩ 1 1 rfl rfl HC6.out HB6.out.size (by have := HLR.out; rw [List.length_drop]; omega) ?_; intro g7 q7 c7 w7 hq7 hg7 hat7; have HB7 := hid (HB6.out.grown hg7 HB6.out.size (fun k hk => by cases hk; exact HQ6.out.b.lt.1)); have HQ7 := hid (HQ6.out.right hg7 hq7 hat7); clear hq7 hg7 hat7))
                  go_roundw
                  case rel => exact ⟨k + 1, m1 + 1, m2 + 1, r' ++ [es[k].2], g5, q5, c5, g7, q7, c7, by omega, rfl, by rw [HTS.out, List.length_append, List.length_singleton, HM1'.out], rfl, by rw [HDS.out, List.length_append, List.length_singleton, HM2'.out], by go_num, HX.out, by rw [HTS.out, HDS.out]; exact HQ7.out, HB7.out⟩
                  case measure => simp [intOf]; omega
            · have g1' := neI_true h1
              have HX := hid (HS.out.skip hlk h1)
              clear h1
              go_wp2_with fail
              go_roundw
              case rel => exact ⟨k + 1, m1, m2, r', a1, a2, a3, b1, b2, b3, by omega, rfl, HM1'.out, rfl, HM2'.out, by go_num, HX.out, HQ.out, HB.out⟩
              case measure => simp [intOf]; omega
          · obtain rfl : k = es.length := by omega
            have HX := hid (HI.out.next hlt HS.out)
            have HTR := hid HS.out.re.tail_len
            have HGE := hid HS.out.ge
            have HT0 := hid HI.out.re.tail_len
            go_wp2_with fail
            go_roundw
            case rel => exact ⟨i + 1, m1, m2, r', a1, a2, a3, b1, b2, b3, rfl, HM1'.out, rfl, HM2'.out, HX.out, HQ.out, HB.out⟩
            case measure => have h1 := HM1'.out; have h2 := HM2'.out; have h3 := HTR.out; have h4 := HGE.out; have h5 := HX.out.re.len; have h6 := HN1.out; have h7 := HN2.out; rw [List.length_drop] at h2 h7; have h8 := HT0.out; simp [lenQ]; omega
      · have HP := hid (HQ.out.pop (drop_cons hlt))
        have HN2' : Hid (n2 - 1 = (r.drop (i + 1)).length) := by have h := HN2.out; rw [List.length_drop] at h; rw [Hid, List.length_drop]; omega
        go_wp2_with fail
        clear e1 e2 e3 e4 e5 e6 q0
        go_loopw [5, 6, 8] (fun i5 i6 i8 wq => ∃ (k n1 n2 : Nat) (r' : List Int) (g1 q1 c1 g2 q2 c2 : Nat), k ≤ es.length ∧ i5 = .slice (some ⟨g1, q1, none⟩) n1 c1 ∧ n1 = r'.tail.length ∧ i6 = .slice (some ⟨g2, q2, none⟩) n2 c2 ∧ n2 = (r'.drop (i + 1)).length ∧ i8 = .int .i64 (k : Int) ∧ Hid (Scan es t r[i] r k r') ∧ Hid (TwoQ wq w.heap.size g1 q1 c1 g2 q2 c2 r'.tail (r'.drop (i + 1))) ∧ Hid (Below w.heap.size w wq)) (fun _ _ i8 _ => es.length - (intOf i8).toNat)
        case atStart => exact ⟨0, n1, _, r, g1, q1, c1, g2, _, _, Nat.zero_le _, rfl, HN1'.out, rfl, HN2'.out, rfl, Scan.start HI.out.re _, HP.out, HB.out⟩
        case round =>
          clear HB HQ HP HN1' HN2'
          obtain ⟨k, m1, m2, r', a1, a2, a3, b1, b2, b3, hk, rfl, HM1, rfl, HM2, rfl, HS, HQ, HB⟩ := hrel
          have HM1' := hid HM1
          have HM2' := hid HM2
          clear HM1 HM2
          by_cases hlk : k < es.length
          · obtain ⟨eb, eo, rfl, heb, hc1, hc2⟩ := (HR.out.below HB.out).at_ hlk
            have e7 : (0 : Int) ≤ (k : Int) := by omega
            have e8 : (k : Int) < (es.length : Int) := by omega
            have HLR := hid HS.out.re.len
            have HTR := hid HS.out.re.tail_len
            by_cases h1 : es[k].1 = r[i]
            · have g1' := neI_false h1
              have H1 := hid h1
              clear h1
              by_cases hm : es[k].2 ∈ r'.tail
              · have hmm := HS.out.re.mem_tail hm
                have HX := hid (HS.out.old hlk H1.out hmm.1 hmm.2)
                have HC : Hid (Calls Try.prog 200 #[.slice (some ⟨a1, a2, none⟩) m1 a3, .int .i64 es[k].2] wr fun e w' => e = .returned (.bool true) ∧ wr = w') := by
                  have := spec_l1Has (some ⟨a1, a2, none⟩) a3 r'.tail es[k].2 _ wr HQ.out.a.ri (by have := HLR.out; have := HTR.out; unfold maxLen; omega)
                  rw [decide_eq_true hm, ← HM1'.out] at this
                  exact this
                clear hm hmm
                go_wp2_with (go_at_call 200; refine HC.out.mono ?_; rintro e w' ⟨rfl, rfl⟩)
                go_roundw
                case rel => exact ⟨k + 1, m1, m2, r', a1, a2, a3, b1, b2, b3, by omega, rfl, HM1'.out, rfl, HM2'.out, by go_num, HX.out, HQ.out, HB.out⟩
                case measure => simp [intOf]; omega
              · have HC : Hid (Calls Try.prog 200 #[.slice (some ⟨a1, a2, none⟩) m1 a3, .int .i64 es[k].2] wr fun e w' => e = .returned (.bool false) ∧ wr = w') := by
                  have := spec_l1Has (some ⟨a1, a2, none⟩) a3 r'.tail es[k].2 _ wr HQ.out.a.ri (by have := HLR.out; have := HTR.out; unfold maxLen; omega)
                  rw [decide_eq_false hm, ← HM1'.out] at this
                  exact this
                by_cases h2 : es[k].2 = t
                · have g2' := eqI_true h2
                  have HE := hid (HI.out.found hlt (HS.out.found hlk H1.out h2))
                  clear h2 hm
                  go_wp2_with (go_at_call 200; refine HC.out.mono ?_; rintro e w' ⟨rfl, rfl⟩)
                  go_ret
                  exact ⟨ret_bool HE.out.symm, HB.out⟩
                · have g2' := eqI_false h2
                  have HX := hid (HS.out.new hlk H1.out h2 (HS.out.re.not_tail hm h2))
                  have HTS := hid (HS.out.re.tail_snoc es[k].2)
                  have HDS : Hid ((r' ++ [es[k].2]).drop (i + 1) = r'.drop (i + 1) ++ [es[k].2]) := drop_snoc (by have := HS.out.ge; omega) _
                  have BA := hid ((Below.refl wr.heap.size wr).alloc (Nat.le_refl _) (.cells #[.int .i64 es[k].2] 2))
                  have HQ4 := hid (HQ.out.below BA.out)
                  have HB4 := hid (HB.out.trans (BA.out.mono HB.out.size))
                  have HC4 := hid (World.cell?_alloc_new wr #[.int .i64 es[k].2] 2 0)
                  have HRE := hid HR.out
                  clear h2 hm
                  have tk1 : Hid (1 = 1) := rfl
                  have tk2 : Hid (1 = 1) := rfl
                  go_wp2_with (first
                    | (go_at_call 200; refine HC.out.mono ?_; rintro e w' ⟨rfl, rfl⟩)
                    | (clear tk1; at_builtin; refine wpList_append_qi _ rfl _ _ _ rfl 2 j0 Try.underlying42 hj0 hy0 hy1 hy2 w.heap.size a1 a2 m1 a3 r'.tail es[k].2 rfl HM1'.out HQ4.out.a ⟨wr.heap.size, 0, none⟩ 1 1 rfl rfl HC4.out HB4.out.size (by have := HLR.out; have := HTR.out; omega) ?_; intro g5 q5 c5 w5 hq5 hg5 hat5; have HB5 := hid (HB4.out.grown hg5 HB4.out.size (fun k hk => by cases hk; exact HQ4.out.a.lt.1)); have HQ5 := hid (HQ4.out.left hg5 hq5 hat5); have HE5 := hid ((HRE.out.below HB5.out).at_ hlk); clear hq5 hg5 hat5 hc1 hc2; obtain ⟨eb5, eo5, he5, heb5, hc51, hc52⟩ := HE5.out; cases he5; have BA6 := hid ((Below.refl w5.heap.size w5).alloc (Nat.le_refl _) (.cells #[.int .i64 es[k].2] 2)); have HQ6 := hid (HQ5.out.below BA6.out); have HB6 := hid (HB5.out.trans (BA6.out.mono HB5.out.size)); have HC6 := hid (World.cell?_alloc_new w5 #[.int .i64 es[k].2] 2 0))
                    | (clear tk2; at_builtin; refine wpList_append_qi _ rfl _ _ _ rfl 2 j0 Try.underlying42 hj0 hy0 hy1 hy2 w.heap.size b1 b2 m2 b3 (r'.drop (i + 1)) es[k].2 rfl HM2'.out HQ6.out.b ⟨w5.heap.size, 0, none⟩ 1 1 rfl rfl HC6.out HB6.out.size (by have := HLR.out; rw [List.length_drop]; omega) ?_; intro g7 q7 c7 w7 hq7 hg7 hat7; have HB7 := hid (HB6.out.grown hg7 HB6.out.size (fun k hk => by cases hk; exact HQ6.out.b.lt.1)); have HQ7 := hid (HQ6.out.right hg7 hq7 hat7); clear hq7 hg7 hat7))
                  go_roundw
                  case rel => exact ⟨k + 1, m1 + 1, m2 + 1, r' ++ [es[k].2], g5, q5, c5, g7, q7, c7, by omega, rfl, by rw [HTS.out, List.length_append, List.length_singleton, HM1'.out], rfl, by rw [HDS.out, List.length_append, List.length_singleton, HM2'.out], by go_num, HX.out, by rw [HTS.out, HDS.out]; exact HQ7.out, HB7.out⟩
                  case measure => simp [intOf]; omega
            · have g1' := neI_true h1
              have HX := hid (HS.out.skip hlk h1)
              clear h1
              go_wp2_with fail
              go_roundw
              case rel => exact ⟨k + 1, m1, m2, r', a1, a2, a3, b1, b2, b3, by omega, rfl, HM1'.out, rfl, HM2'.out, by go_num, HX.out, HQ.out, HB.out⟩
              case measure => simp [intOf]; omega
          · obtain rfl : k = es.length := by omega
            have HX := hid (HI.out.next hlt HS.out)
            have HTR := hid HS.out.re.tail_len
            have HGE := hid HS.out.ge
            have HT0 := hid HI.out.re.tail_len
            go_wp2_with fail
            go_roundw
            case rel => exact ⟨i + 1, m1, m2, r', a1, a2, a3, b1, b2, b3, rfl, HM1'.out, rfl, HM2'.out, HX.out, HQ.out, HB.out⟩
            case measure => have h1 := HM1'.out; have h2 := HM2'.out; have h3 := HTR.out; have h4 := HGE.out; have h5 := HX.out.re.len; have h6 := HN1.out; have h7 := HN2.out; rw [List.length_drop] at h2 h7; have h8 := HT0.out; simp [lenQ]; omega
      -- WALK-END
    · have HE := hid (HI.out.done (by omega))
      have e1 : ¬ (0 : Int) < (n2 : Int) := by omega
      have HN1' := hid HN1
      have HN2' := hid HN2
      clear HN1 HN2
      go_wp2_with fail
      go_ret
      exact ⟨ret_bool HE.out.symm, HB.out⟩
end Go.Proofs.Ytjdmaoegfpgfjaa
