/-
  Pages that are drawn.
-/
import Derived.Test.YtooalnpfenhelabDoorDrawMap
import Derived.Test.YtooalnpfenhelabDoorDrawMode
import Derived.Test.YtooalnpfenhelabDoorBent
import Derived.Test.YtooalnpfenhelabDoorPageTI
import Derived.Test.YtooalnpfenhelabDoorPageKit
import Derived.Deep.AppendLies
import Derived.Deep.RegionLaw
namespace Go.Proofs.YtooalnpfenhelabDoor
open Go.RowKit

theorem OwnI.keep_g {w w' : World} {B c g : Nat} {A : Option Addr} {ps : List Int} (h : OwnI w B A c ps) (hg : w.grownBy w' (some g)) (hr : g < B) : OwnI w' B A c ps := by
  refine World.ownsRow.kept h hg ?_
  cases hv : Value.ownBlock (.slice A ps.length c) with
  | none => exact .inl rfl
  | some k =>
    right
    intro e
    have h1 := (World.ownsRow.lt h k hv).1
    injection e with e
    omega
theorem icells_snoc (ks : List Int) (x : Int) : icells ks ++ [.int .i64 x] = icells (ks ++ [x]) := by simp [icells]
theorem grown_set1 (w : World) (g j : Nat) (u : Value) : w.grownBy (w.setCell ⟨g, j, none⟩ u) (some g) :=
  ⟨rfl, rfl, rfl, by simp, fun k _ hk => heap_setCell_other w ⟨g, j, none⟩ k u (fun e => hk (by simp [e]))⟩
theorem Rd.setCell {w : World} {B g j p : Nat} {u : Value} (h : Rd w B g) (hp : g < p) : Rd (w.setCell ⟨p, j, none⟩ u) B g := h.grown (grown_set1 w p j u) (by intro k hk; injection hk with hk; omega)
theorem KB.setCell {B' g : Nat} {a w : World} (h : KB B' g a w) {p j : Nat} {u : Value} (hp : B' ≤ p) : KB B' g a (w.setCell ⟨p, j, none⟩ u) :=
  h.trans (KB.of_below ((Below.refl _ _).setCell (p := ⟨p, j, none⟩) hp u))
theorem KB.alloc {B' g : Nat} {a w : World} (h : KB B' g a w) (hB : B' ≤ w.heap.size) (o : Obj) : KB B' g a (w.alloc o) := h.trans (KB.of_below ((Below.refl _ _).alloc hB o))

/-- A page that is drawn: its rows are the call's own. -/
def PageD (B B' g : Nat) (w : World) (e : Ending) (w' : World) : Prop := ∃ (id : Int) (A : Option Addr) (c : Nat) (ps : PS) (K : Option Addr) (d : Nat) (ks : List Int),
  e = .returned (.agg #[.int .i64 id, .slice A ps.length c, .slice K ks.length d]) ∧ OwnP w' B' A c ps ∧ mapB ps = true ∧ OwnI w' B' K d ks ∧ ks.length ≤ 10 ∧ (ps = [] ∨ ks = []) ∧ Rd w' B g ∧ KB B' g w w'

/-- One more kid. -/
theorem kid_pushed {wr w3 w4 : World} {B g gp gr gg cap d : Nat} {T : TypeId} {x y a b : Value} {K : Option Addr} {ks : List Int} {z : Int} {o : Obj}
    (hp : Row3 wr gp T x y (.slice K ks.length d)) (hq : Row3 wr gr T a b (.slice none 0 0)) (ho : OwnI wr (gp + 1) K d ks) (hr : Rd w3 B g) (hg : wr.drew.grownBy w3 (some g)) (hgr : g < gr) (hrp : gr < gp)
    (hown4 : w4.ownsRow (gp + 1) 2 1 (.slice (some ⟨gg, 0, none⟩) (ks.length + 1) cap) (ks.length + 1) (icells ks ++ [.int .i64 z])) (hgrow4 : (w3.alloc o).grownBy w4 (Value.ownBlock (.slice K ks.length d))) :
    Row3 w4 gp T x y (.slice K ks.length d) ∧ Row3 w4 gr T a b (.slice none 0 0) ∧ OwnI w4 (gp + 1) (some ⟨gg, 0, none⟩) cap (ks ++ [z]) ∧ Rd w4 B g ∧ KB gr g wr w4 := by
  have hlt := World.ownsRow.lt ho
  have hsz := hg.size
  have hgps := (World.ownsRow.lt hp gp rfl).2
  have hdr : Below wr.heap.size wr wr.drew := (Below.refl _ _).drew
  have hp3 : Row3 w3 gp T x y (.slice K ks.length d) := (hp.below hdr).far hg (by intro k hk; injection hk with hk; omega)
  have hq3 : Row3 w3 gr T a b (.slice none 0 0) := (hq.below hdr).far hg (by intro k hk; injection hk with hk; omega)
  have ho3 : OwnI w3 (gp + 1) K d ks := (ho.below hdr).keep_g hg (by omega)
  have hal : Below w3.heap.size w3 (w3.alloc o) := (Below.refl _ _).alloc (Nat.le_refl _) o
  have hkb3 : KB gr g wr (w3.alloc o) := ((KB.of_below (hdr.mono (by omega))).trans (KB.of_grown hg (by show gr ≤ wr.heap.size; omega))).trans (KB.of_below (hal.mono (by
    have : wr.heap.size ≤ w3.heap.size := hsz
    omega)))
  refine ⟨(hp3.below hal).far hgrow4 (fun k hk => by have := hlt k hk; omega), (hq3.below hal).far hgrow4 (fun k hk => by have := hlt k hk; omega), ?_, (hr.below hal).grown hgrow4 (fun k hk => by have := hlt k hk; omega), hkb3.trans ⟨hgrow4.os, hgrow4.tape, hgrow4.output, hgrow4.size, fun k h1 _ => hgrow4.block k (by
    have : wr.heap.size ≤ w3.heap.size := hsz
    simp
    omega) (fun e => by have := hlt k e.symm; omega)⟩⟩
  rw [icells_snoc] at hown4
  unfold OwnI
  rw [List.length_append]
  exact hown4

set_option maxHeartbeats 8000000 in
set_option maxRecDepth 100000 in
theorem page_any (B g : Nat) (w : World) (h : Rd w B g) :
    Calls Tryd.prog 43 #[.pointer (some ⟨g, 0, none⟩)] w (PageD B w.heap.size g w) := by
  obtain ⟨i0, hi0, hz0, hz1, hz2⟩ := info_parts int64Info
  have hg0 := h.lt.1
  have hx0 := Row3.lit w 27 (.int .i64 0) (.slice none 0 0) (.slice none 0 0)
  have hr0 := h.below ((Below.refl w.heap.size w).alloc (Nat.le_refl _) (.cells #[.int .i64 0, .slice none 0 0, .slice none 0 0] 27))
  have hk0 := (KB.refl w.heap.size g w).alloc (Nat.le_refl _) (.cells #[.int .i64 0, .slice none 0 0, .slice none 0 0] 27)
  have hs0 : w.heap.size < (w.alloc (.cells #[.int .i64 0, .slice none 0 0, .slice none 0 0] 27)).heap.size := by simp
  have X0 := hid hx0
  have HR0 := hid hr0
  have HK0 := hid hk0
  clear h hx0 hr0 hk0
  go_enter Tryd.func43, Tryd.ntmps43
  go_wp2_with fail
  generalize hw0 : w.alloc (.cells #[.int .i64 0, .slice none 0 0, .slice none 0 0] 27) = w0 at *
  clear hw0
  refine (below_any B g 9 _ HR0.out (by omega) (by omega)).mono ?_
  rintro e w1 ⟨v, hv, rfl, hr1, hg1⟩
  have hgg : g ≠ w.heap.size := by omega
  have X1 := hid (X0.out.far hg1 (by intro k hk; injection hk with hk; omega))
  have P1 := hid (Row3.lit w1 27 (.int .i64 (1 + (v : Int))) (.slice none 0 0) (.slice none 0 0))
  have HBA := hid ((Below.refl w1.heap.size w1).alloc (Nat.le_refl _) (.cells #[.int .i64 (1 + (v : Int)), .slice none 0 0, .slice none 0 0] 27))
  have hs1 : w.heap.size < w1.heap.size := Nat.lt_of_lt_of_le hs0 hg1.size
  have X2 := hid (X1.out.below HBA.out)
  have HR2 := hid (hr1.below HBA.out)
  have HK2 := hid ((HK0.out.trans (KB.of_grown hg1 (by omega))).trans (KB.of_below (HBA.out.mono (by omega))))
  have hs2 : w1.heap.size < (w1.alloc (.cells #[.int .i64 (1 + (v : Int)), .slice none 0 0, .slice none 0 0] 27)).heap.size := by simp
  clear hr1 hg1
  go_wp2_with fail
  generalize hw2 : w1.alloc (.cells #[.int .i64 (1 + (v : Int)), .slice none 0 0, .slice none 0 0] 27) = w2 at *
  clear hw2
  refine (once_any B g 2 _ HR2.out (by omega) (by omega)).mono ?_
  rintro e w3 ⟨b, rfl, hr3, hg3⟩
  have X3 := hid (X2.out.far hg3 (by intro k hk; injection hk with hk; omega))
  have P3 := hid (P1.out.far hg3 (by intro k hk; injection hk with hk; omega))
  have HR3 := hid hr3
  have HK3 := hid (HK2.out.trans (KB.of_grown hg3 (by omega)))
  have hs3 : w1.heap.size < w3.heap.size := Nat.lt_of_lt_of_le hs2 hg3.size
  clear hr3 hg3
  cases b
  case true =>
    go_wp2_with fail
    refine (pairs_any B g 4 _ HR3.out (by omega)).mono ?_
    rintro e w4 ⟨A, c, ps, rfl, ho4, hm4, hr4, hg4⟩
    have X4 := hid (X3.out.far hg4 (by intro k hk; injection hk with hk; omega))
    have P4 := hid (P3.out.far hg4 (by intro k hk; injection hk with hk; omega))
    have HO4 := hid ho4
    have HM4 := hid hm4
    have HR4 := hid hr4
    have HK4 := hid (HK3.out.trans (KB.of_grown hg4 (by omega)))
    have hs4 : w3.heap.size ≤ w4.heap.size := hg4.size
    clear ho4 hm4 hr4 hg4
    have p1 := P4.out.c1
    have f1 := P4.out.fz 1
    have XS := hid (X4.out.other P4.out (by omega) 1 (.slice A ps.length c))
    have PS_ := hid (P4.out.s1 (.slice A ps.length c))
    have HOPS := hid (((HO4.out.mono' (by omega : w1.heap.size + 1 ≤ _))).set P4.out (by omega) 1 (.slice A ps.length c))
    have HOIS : Hid (OwnI (w4.setCell ⟨w1.heap.size, 1, none⟩ (.slice A ps.length c)) (w1.heap.size + 1) none 0 []) := World.ownsRow_nil _ _ _ _
    have HRS := hid (HR4.out.setCell (p := w1.heap.size) (j := 1) (u := .slice A ps.length c) (by omega))
    have HKS := hid (HK4.out.setCell (p := w1.heap.size) (j := 1) (u := .slice A ps.length c) (by omega))
    have HM := HM4
    have HL : Hid (([] : List Int).length ≤ 10) := by simp [Hid]
    have HE : Hid (ps = [] ∨ ([] : List Int) = []) := .inr rfl
    have hss : w4.heap.size = (w4.setCell ⟨w1.heap.size, 1, none⟩ (.slice A ps.length c)).heap.size := by simp
    go_wp2_with fail
    clear p1 f1
    generalize hws : w4.setCell ⟨w1.heap.size, 1, none⟩ (.slice A ps.length c) = ws at *
    refine (once_any B g 30 _ HRS.out (by omega) (by omega)).mono ?_
    rintro e w8 ⟨b8, rfl, hr8, hg8⟩
    have X8 := hid (XS.out.far hg8 (by intro k hk; injection hk with hk; omega))
    have P8 := hid (PS_.out.far hg8 (by intro k hk; injection hk with hk; omega))
    have HOP8 := hid (HOPS.out.keep_g hg8 (by omega))
    have HOI8 := hid (HOIS.out.keep_g hg8 (by omega))
    have HR8 := hid hr8
    have HK8 := hid (HKS.out.trans (KB.of_grown hg8 (by omega)))
    have hs8 := hg8.size
    clear hr8 hg8
    cases b8
    case false =>
      have p0 := P8.out.c0
      have p1 := P8.out.c1
      have p2 := P8.out.c2
      have x0 := X8.out.c0
      have x1 := X8.out.c1
      have x2 := X8.out.c2
      have g0 := X8.out.fz 0
      have g1 := X8.out.fz 1
      have g2 := X8.out.fz 2
      go_wp2_with fail
      have U1 := X8.out.s0 (.int .i64 (1 + (v : Int)))
      have U2 := U1.s1 (.slice A ps.length c)
      have V0 := HOP8.out.mono' (by omega : w.heap.size + 1 ≤ _)
      have V1 := HOI8.out.mono (by omega : w.heap.size + 1 ≤ _)
      refine world_post (S := fun wq => Row3 wq w.heap.size 27 (.int .i64 (1 + (v : Int))) (.slice A ps.length c) (.slice none 0 0) ∧ PageD B w.heap.size g w (.returned (.agg #[.int .i64 (1 + (v : Int)), .slice A ps.length c, .slice none 0 0])) wq) _
        ⟨U2.s2 _, (1 + (v : Int)), A, c, ps, none, 0, [], rfl, (((V0.set X8.out (by omega) 0 _).set U1 (by omega) 1 _).set U2 (by omega) 2 _).mono' (by omega), HM.out, (((V1.set X8.out (by omega) 0 _).set U1 (by omega) 1 _).set U2 (by omega) 2 _).mono (by omega), HL.out, (by first | exact .inr rfl | exact .inl rfl), ((HR8.out.setCell (by omega)).setCell (by omega)).setCell (by omega), ((HK8.out.setCell (Nat.le_refl _)).setCell (Nat.le_refl _)).setCell (Nat.le_refl _)⟩ ?_
      clear p0 p1 p2 x0 x1 x2 g0 g1 g2 U1 U2 V0 V1
      intro wq ⟨hq, hm⟩
      have q0 := hq.c0
      have q1 := hq.c1
      have q2 := hq.c2
      exact bodyPost_ret (v := .agg #[.int .i64 (1 + (v : Int)), .slice A ps.length c, .slice none 0 0]) (by simp [results, Tryd.results43, go_sem, q0, q1, q2]) rfl hm
    case true =>
      go_wp2_with fail
      refine (off_any B g 1 1000000 _ HR8.out (by omega) (by omega) (by omega)).mono ?_
      rintro e w9 ⟨z9, rfl, hr9, hg9⟩
      have X9 := hid (X8.out.far hg9 (by intro k hk; injection hk with hk; omega))
      have P9 := hid (P8.out.far hg9 (by intro k hk; injection hk with hk; omega))
      have HOP9 := hid (HOP8.out.keep_g hg9 (by omega))
      have HOI9 := hid (HOI8.out.keep_g hg9 (by omega))
      have HR9 := hid hr9
      have HK9 := hid (HK8.out.trans (KB.of_grown hg9 (by omega)))
      have hs9 := hg9.size
      clear hr9 hg9
      have p0 := P9.out.c0
      have p1 := P9.out.c1
      have p2 := P9.out.c2
      have f0 := P9.out.fz 0
      have Xa := hid (X9.out.other P9.out (by omega) 0 (.int .i64 z9))
      have HOPa := hid (HOP9.out.set P9.out (by omega) 0 (.int .i64 z9))
      have HOIa := hid (HOI9.out.set P9.out (by omega) 0 (.int .i64 z9))
      have HRa := hid (HR9.out.setCell (p := w1.heap.size) (j := 0) (u := .int .i64 z9) (by omega))
      have HKa := hid (HK9.out.setCell (p := w1.heap.size) (j := 0) (u := .int .i64 z9) (by omega))
      have hne9 : w1.heap.size ≠ w.heap.size := by omega
      have x0 := X9.out.c0
      have x1 := X9.out.c1
      have x2 := X9.out.c2
      have g0 := X9.out.fz 0
      have g1 := X9.out.fz 1
      have g2 := X9.out.fz 2
      go_wp2_with fail
      have U1 := Xa.out.s0 (.int .i64 z9)
      have U2 := U1.s1 (.slice A ps.length c)
      have V0 := HOPa.out.mono' (by omega : w.heap.size + 1 ≤ _)
      have V1 := HOIa.out.mono (by omega : w.heap.size + 1 ≤ _)
      refine world_post (S := fun wq => Row3 wq w.heap.size 27 (.int .i64 z9) (.slice A ps.length c) (.slice none 0 0) ∧ PageD B w.heap.size g w (.returned (.agg #[.int .i64 z9, .slice A ps.length c, .slice none 0 0])) wq) _
        ⟨U2.s2 _, z9, A, c, ps, none, 0, [], rfl, (((V0.set Xa.out (by omega) 0 _).set U1 (by omega) 1 _).set U2 (by omega) 2 _).mono' (by omega), HM.out, (((V1.set Xa.out (by omega) 0 _).set U1 (by omega) 1 _).set U2 (by omega) 2 _).mono (by omega), HL.out, (by first | exact .inr rfl | exact .inl rfl), ((HRa.out.setCell (by omega)).setCell (by omega)).setCell (by omega), ((HKa.out.setCell (Nat.le_refl _)).setCell (Nat.le_refl _)).setCell (Nat.le_refl _)⟩ ?_
      clear p0 p1 p2 x0 x1 x2 g0 g1 g2 U1 U2 V0 V1
      intro wq ⟨hq, hm⟩
      have q0 := hq.c0
      have q1 := hq.c1
      have q2 := hq.c2
      exact bodyPost_ret (v := .agg #[.int .i64 z9, .slice A ps.length c, .slice none 0 0]) (by simp [results, Tryd.results43, go_sem, q0, q1, q2]) rfl hm
  case false =>
    go_wp2_with fail
    refine (below_any B g 3 _ HR3.out (by omega) (by omega)).mono ?_
    rintro e w4 ⟨u, hu, rfl, hr4, hg4⟩
    have X4 := hid (X3.out.far hg4 (by intro k hk; injection hk with hk; omega))
    have P4 := hid (P3.out.far hg4 (by intro k hk; injection hk with hk; omega))
    have HR4 := hid hr4
    have HK4 := hid (HK3.out.trans (KB.of_grown hg4 (by omega)))
    have hs4 : w3.heap.size ≤ w4.heap.size := hg4.size
    clear hr4 hg4
    go_wp2_with fail
    go_loopw [4] (fun i wr => ∃ (k m : Nat) (K : Option Addr) (d : Nat) (ks : List Int), i = .int .i64 (k : Int) ∧ m = ks.length ∧ ks.length + k ≤ 4 ∧ Hid (Row3 wr w1.heap.size 27 (.int .i64 (1 + (v : Int))) (.slice none 0 0) (.slice K m d)) ∧ Hid (Row3 wr w.heap.size 27 (.int .i64 0) (.slice none 0 0) (.slice none 0 0)) ∧ Hid (OwnI wr (w1.heap.size + 1) K d ks) ∧ Hid (Rd wr B g) ∧ Hid (KB w.heap.size g w wr)) (fun i _ => (intOf i).toNat)
    case atStart => exact ⟨2 + u, 0, none, 0, [], by go_num, rfl, by simp; omega, P4.out, X4.out, World.ownsRow_nil _ _ _ _, HR4.out, HK4.out⟩
    case round =>
      obtain ⟨k, m, K, d, ks, rfl, hm, hlk, P5, X5, HO5, HR5, HK5⟩ := hrel
      subst hm
      have hsr := (World.ownsRow.lt P5.out w1.heap.size rfl).2
      by_cases hlt : 0 < k
      · have p2 := P5.out.c2
        have f2 := P5.out.fz 2
        have hlk3 : ks.length + 1 ≤ maxLen := by unfold maxLen; omega
        have hlk2 : (ks.length + 1) * 8 ≤ 140737488355328 := by omega
        go_wp2_with fail
        go_region_law (first
          | (refine step_append_lies _ (by rfl) _ _ _ (by rfl) (w1.heap.size + 1) 2 i0 _ 1 8 Tryd.underlying25 hi0 hz0 hz1 hz2 rfl (by omega) (.slice K ks.length d) ks.length (icells ks) (by rfl) ((HO6.out.below ((Below.refl _ _).alloc (Nat.le_refl _) _)))
              ⟨w6.heap.size, 0, none⟩ 1 1 [.int .i64 (IntKind.i64.wrap (IntKind.i64.wrap (10 + (k : Int)) + IntKind.i64.wrap ((b6 : Int) * 5)))] (by rfl) (by rfl) (World.news_of_block (cs := #[.int .i64 (IntKind.i64.wrap (IntKind.i64.wrap (10 + (k : Int)) + IntKind.i64.wrap ((b6 : Int) * 5)))]) (t := 2) (fr := (0, 0)) (heap_alloc_new w6 _)) (by simp [Value.oneCell'])
              (by omega) hlk3 hlk2 (by simp; omega) (w6.heap.size + 1) (by simp) ?_; intro gg cap w7 hown7 hgrow7 hat7 hlt7; obtain ⟨hp7, hq7, ho7, hr7, hk7⟩ := kid_pushed P5.out X5.out HO5.out HR6.out HG6.out (by omega) (by omega) hown7 hgrow7; have p7 := hp7.c2; have f7 := hp7.fz 2; have P7 := hid hp7; have X7 := hid hq7; have HO7 := hid ho7; have HR7 := hid hr7; have HK7 := hid hk7; clear hp7 hq7 ho7 hr7 hk7 hown7 hgrow7 hat7)
          | (go_simp; go_at_call 68; refine (below_any B g 2 _ (HR5.out.below (Below.refl _ _).drew) (by omega) (by omega)).mono ?_; rintro e w6 ⟨b6, hb6, rfl, hr6, hg6⟩; have HR6 := hid hr6; have HG6 := hid hg6; have hs6 : w1.heap.size < w6.heap.size := Nat.lt_of_lt_of_le hsr hg6.size; have HO6 := hid ((HO5.out.below (Below.refl _ _).drew).keep_g hg6 (by omega)); have p6 := ((P5.out.below (Below.refl _ _).drew).far hg6 (by intro k hk; injection hk with hk; omega)).c2; clear hr6 hg6))
        all_goals
          go_wp2_with fail
          go_roundw
          case rel => exact ⟨k - 1, ks.length + 1, some ⟨gg, 0, none⟩, cap, ks ++ [IntKind.i64.wrap (IntKind.i64.wrap (10 + (k : Int)) + IntKind.i64.wrap ((b6 : Int) * 5))], by go_num, by simp, by simp; omega, P7.out.s2 _, X7.out.other P7.out (by omega) 2 _, HO7.out.set P7.out (by omega) 2 _, HR7.out.setCell (by omega), (HK5.out.trans HK7.out).setCell (by omega)⟩
          case measure => simp [intOf]; omega
      · obtain rfl : k = 0 := by omega
        have XS := X5
        have PS_ := P5
        have HOPS : Hid (OwnP wr (w1.heap.size + 1) none 0 []) := World.ownsRow_nil _ _ _ _
        have HOIS := HO5
        have HRS := HR5
        have HKS := HK5
        have HM : Hid (mapB [] = true) := by rfl
        have HL : Hid (ks.length ≤ 10) := by rw [Hid]; omega
        have HE : Hid (([] : PS) = [] ∨ ks = []) := .inl rfl
        go_wp2_with fail
        refine (once_any B g 30 _ HRS.out (by omega) (by omega)).mono ?_
        rintro e w8 ⟨b8, rfl, hr8, hg8⟩
        have X8 := hid (XS.out.far hg8 (by intro k hk; injection hk with hk; omega))
        have P8 := hid (PS_.out.far hg8 (by intro k hk; injection hk with hk; omega))
        have HOP8 := hid (HOPS.out.keep_g hg8 (by omega))
        have HOI8 := hid (HOIS.out.keep_g hg8 (by omega))
        have HR8 := hid hr8
        have HK8 := hid (HKS.out.trans (KB.of_grown hg8 (by omega)))
        have hs8 := hg8.size
        clear hr8 hg8
        cases b8
        case false =>
          have p0 := P8.out.c0
          have p1 := P8.out.c1
          have p2 := P8.out.c2
          have x0 := X8.out.c0
          have x1 := X8.out.c1
          have x2 := X8.out.c2
          have g0 := X8.out.fz 0
          have g1 := X8.out.fz 1
          have g2 := X8.out.fz 2
          go_wp2_with fail
          have U1 := X8.out.s0 (.int .i64 (1 + (v : Int)))
          have U2 := U1.s1 (.slice none 0 0)
          have V0 := HOP8.out.mono' (by omega : w.heap.size + 1 ≤ _)
          have V1 := HOI8.out.mono (by omega : w.heap.size + 1 ≤ _)
          refine world_post (S := fun wq => Row3 wq w.heap.size 27 (.int .i64 (1 + (v : Int))) (.slice none 0 0) (.slice K ks.length d) ∧ PageD B w.heap.size g w (.returned (.agg #[.int .i64 (1 + (v : Int)), .slice none 0 0, .slice K ks.length d])) wq) _
            ⟨U2.s2 _, (1 + (v : Int)), none, 0, [], K, d, ks, rfl, (((V0.set X8.out (by omega) 0 _).set U1 (by omega) 1 _).set U2 (by omega) 2 _).mono' (by omega), HM.out, (((V1.set X8.out (by omega) 0 _).set U1 (by omega) 1 _).set U2 (by omega) 2 _).mono (by omega), HL.out, (by first | exact .inr rfl | exact .inl rfl), ((HR8.out.setCell (by omega)).setCell (by omega)).setCell (by omega), ((HK8.out.setCell (Nat.le_refl _)).setCell (Nat.le_refl _)).setCell (Nat.le_refl _)⟩ ?_
          clear p0 p1 p2 x0 x1 x2 g0 g1 g2 U1 U2 V0 V1
          intro wq ⟨hq, hm⟩
          have q0 := hq.c0
          have q1 := hq.c1
          have q2 := hq.c2
          exact bodyPost_ret (v := .agg #[.int .i64 (1 + (v : Int)), .slice none 0 0, .slice K ks.length d]) (by simp [results, Tryd.results43, go_sem, q0, q1, q2]) rfl hm
        case true =>
          go_wp2_with fail
          refine (off_any B g 1 1000000 _ HR8.out (by omega) (by omega) (by omega)).mono ?_
          rintro e w9 ⟨z9, rfl, hr9, hg9⟩
          have X9 := hid (X8.out.far hg9 (by intro k hk; injection hk with hk; omega))
          have P9 := hid (P8.out.far hg9 (by intro k hk; injection hk with hk; omega))
          have HOP9 := hid (HOP8.out.keep_g hg9 (by omega))
          have HOI9 := hid (HOI8.out.keep_g hg9 (by omega))
          have HR9 := hid hr9
          have HK9 := hid (HK8.out.trans (KB.of_grown hg9 (by omega)))
          have hs9 := hg9.size
          clear hr9 hg9
          have p0 := P9.out.c0
          have p1 := P9.out.c1
          have p2 := P9.out.c2
          have f0 := P9.out.fz 0
          have Xa := hid (X9.out.other P9.out (by omega) 0 (.int .i64 z9))
          have HOPa := hid (HOP9.out.set P9.out (by omega) 0 (.int .i64 z9))
          have HOIa := hid (HOI9.out.set P9.out (by omega) 0 (.int .i64 z9))
          have HRa := hid (HR9.out.setCell (p := w1.heap.size) (j := 0) (u := .int .i64 z9) (by omega))
          have HKa := hid (HK9.out.setCell (p := w1.heap.size) (j := 0) (u := .int .i64 z9) (by omega))
          have hne9 : w1.heap.size ≠ w.heap.size := by omega
          have x0 := X9.out.c0
          have x1 := X9.out.c1
          have x2 := X9.out.c2
          have g0 := X9.out.fz 0
          have g1 := X9.out.fz 1
          have g2 := X9.out.fz 2
          go_wp2_with fail
          have U1 := Xa.out.s0 (.int .i64 z9)
          have U2 := U1.s1 (.slice none 0 0)
          have V0 := HOPa.out.mono' (by omega : w.heap.size + 1 ≤ _)
          have V1 := HOIa.out.mono (by omega : w.heap.size + 1 ≤ _)
          refine world_post (S := fun wq => Row3 wq w.heap.size 27 (.int .i64 z9) (.slice none 0 0) (.slice K ks.length d) ∧ PageD B w.heap.size g w (.returned (.agg #[.int .i64 z9, .slice none 0 0, .slice K ks.length d])) wq) _
            ⟨U2.s2 _, z9, none, 0, [], K, d, ks, rfl, (((V0.set Xa.out (by omega) 0 _).set U1 (by omega) 1 _).set U2 (by omega) 2 _).mono' (by omega), HM.out, (((V1.set Xa.out (by omega) 0 _).set U1 (by omega) 1 _).set U2 (by omega) 2 _).mono (by omega), HL.out, (by first | exact .inr rfl | exact .inl rfl), ((HRa.out.setCell (by omega)).setCell (by omega)).setCell (by omega), ((HKa.out.setCell (Nat.le_refl _)).setCell (Nat.le_refl _)).setCell (Nat.le_refl _)⟩ ?_
          clear p0 p1 p2 x0 x1 x2 g0 g1 g2 U1 U2 V0 V1
          intro wq ⟨hq, hm⟩
          have q0 := hq.c0
          have q1 := hq.c1
          have q2 := hq.c2
          exact bodyPost_ret (v := .agg #[.int .i64 z9, .slice none 0 0, .slice K ks.length d]) (by simp [results, Tryd.results43, go_sem, q0, q1, q2]) rfl hm
end Go.Proofs.YtooalnpfenhelabDoor
