/-
  FnPageSum: the walk.
-/
import Derived.Test.YtooalnpfenhelabDoorDrawPage
import Derived.Test.YtooalnpfenhelabDoorPageSumF
import Derived.Test.YtooalnpfenhelabDoorSumOf
namespace Go.Proofs.YtooalnpfenhelabDoor
open Go.RowKit

/-- A page that is drawn, and perhaps bent. -/
def PageOkD (w : World) (e : Ending) (w' : World) : Prop := ∃ (id : Int) (A : Option Addr) (c : Nat) (ps : PS) (K : Option Addr) (d : Nat) (ks : List Int),
  e = .returned (.agg #[.int .i64 id, .slice A ps.length c, .slice K ks.length d]) ∧ (ps = [] ∨ OwnP w' w.heap.size A c ps) ∧ mapB ps = true ∧ OwnI w' w.heap.size K d ks ∧ Below w.heap.size w w'
theorem row_keep {w w' : World} {base : Nat} {e : TypeId} {size n : Nat} {v : Value} {xs : List Value} (h : w.ownsRow base e size v n xs) (hk : ∀ k, v.ownBlock = some k → w'.heap[k]? = w.heap[k]?) : w'.ownsRow base e size v n xs := by
  obtain ⟨h1, h2⟩ := h
  refine ⟨h1, ?_⟩
  rcases h2 with h2 | ⟨g, cap, cur, hv, hg, hh, r⟩
  · exact Or.inl h2
  · subst hv
    exact Or.inr ⟨g, cap, cur, rfl, hg, by rw [hk g rfl]; exact hh, r⟩
theorem Row3.kb {w w' : World} {B' g gr : Nat} {t : TypeId} {a b c : Value} (h : Row3 w gr t a b c) (hk : KB B' g w w') (h1 : gr < B') (h2 : gr ≠ g) : Row3 w' gr t a b c :=
  row_keep h fun k e => by
    injection e with e
    subst e
    exact hk.block _ h1 h2
theorem KB.below' {B' g B : Nat} {a b : World} (h : KB B' g a b) (h1 : B ≤ B') (h2 : B ≤ g) : Below B a b := ⟨h.os, h.tape, h.output, h.size, fun k hk => h.block k (by omega) (by omega)⟩
theorem icells_set (ks : List Int) (z : Int) : (icells ks).set 0 (.int .i64 z) = icells (ks.set 0 z) := by
  cases ks <;> simp [icells]

set_option maxHeartbeats 8000000 in
set_option maxRecDepth 100000 in
theorem drawPageOk_any (A : Option Addr) (n c : Nat) (w : World) (hc : CB w w.heap.size A n) (hn : n ≤ 1048576) :
    Calls Tryd.prog 19 #[.slice A n c] w (PageOkD w) := by
  have hx0 := Row3.lit w 27 (.int .i64 0) (.slice none 0 0) (.slice none 0 0)
  have hb0 : Below w.heap.size w (w.alloc (.cells #[.int .i64 0, .slice none 0 0, .slice none 0 0] 27)) := (Below.refl _ _).alloc (Nat.le_refl _) _
  have hcb : CB (w.alloc (.cells #[.int .i64 0, .slice none 0 0, .slice none 0 0] 27)) (w.alloc (.cells #[.int .i64 0, .slice none 0 0, .slice none 0 0] 27)).heap.size A n := by
    rcases hc.keep (w' := w.alloc (.cells #[.int .i64 0, .slice none 0 0, .slice none 0 0] 27)) (fun p hp => hb0.cell hp) with h | ⟨b, off, e, hb, hx⟩
    · exact .inl h
    · exact .inr ⟨b, off, e, Nat.lt_of_lt_of_le hb hb0.size, hx⟩
  have hs0 : w.heap.size < (w.alloc (.cells #[.int .i64 0, .slice none 0 0, .slice none 0 0] 27)).heap.size := by simp
  have X0 := hid hx0
  have HB0 := hid hb0
  have HC := hid hcb
  clear hc hx0 hb0 hcb
  go_enter Tryd.func19, Tryd.ntmps19
  go_wp2_with fail
  generalize hw0 : w.alloc (.cells #[.int .i64 0, .slice none 0 0, .slice none 0 0] 27) = w0 at *
  clear hw0
  refine (openR_any A n c _ HC.out hn).mono ?_
  rintro e w1 ⟨rfl, hr1, hb1⟩
  have X1 := hid (X0.out.below hb1)
  have HR1 := hid hr1
  have HB1 := hid (HB0.out.trans (hb1.mono HB0.out.size))
  have hs1 : w0.heap.size < w1.heap.size := hr1.lt.1
  clear hr1 hb1
  go_wp2_with fail
  refine (page_any w0.heap.size w0.heap.size _ HR1.out).mono ?_
  rintro e w2 ⟨id, Ap, cp, ps, K, d, ks, rfl, ho2, hm2, hi2, hl2, he2, hr2, hk2⟩
  have X2 := hid (X1.out.kb hk2 (by omega) (by omega))
  have P2 := hid (Row3.lit w2 27 (.int .i64 id) (.slice Ap ps.length cp) (.slice K ks.length d))
  have HBA := hid ((Below.refl w2.heap.size w2).alloc (Nat.le_refl _) (.cells #[.int .i64 id, .slice Ap ps.length cp, .slice K ks.length d] 27))
  have hsz2 := hk2.size
  have X3 := hid (X2.out.below HBA.out)
  have HO3 := hid (ho2.below HBA.out)
  have HI3 := hid (hi2.below HBA.out)
  have HM := hid hm2
  have HE := hid he2
  have HR3 := hid (hr2.below HBA.out)
  have HB3 := hid ((HB1.out.trans (hk2.below' (B := w.heap.size) (by omega) (by omega))).trans (HBA.out.mono (by omega)))
  have hs3 : w2.heap.size < (w2.alloc (.cells #[.int .i64 id, .slice Ap ps.length cp, .slice K ks.length d] 27)).heap.size := by simp
  clear ho2 hm2 hi2 he2 hr2 hk2
  go_wp2_with fail
  generalize hw3 : w2.alloc (.cells #[.int .i64 id, .slice Ap ps.length cp, .slice K ks.length d] 27) = w3 at *
  clear hw3
  refine (once_any w0.heap.size w0.heap.size 4 _ HR3.out (by omega) (by omega)).mono ?_
  rintro e w4 ⟨b, rfl, hr4, hg4⟩
  have X4 := hid (X3.out.far hg4 (by intro k hk; injection hk with hk; omega))
  have P4 := hid (P2.out.far hg4 (by intro k hk; injection hk with hk; omega))
  have HO4 := hid (HO3.out.keep_g hg4 hs1)
  have HI4 := hid (HI3.out.keep_g hg4 hs1)
  have HR4 := hid hr4
  have HB4 := hid (HB3.out.grown hg4 (by omega) (by intro k hk; injection hk with hk; omega))
  have hs4 := hg4.size
  clear hr4 hg4
  have p0 := P4.out.c0
  have p1 := P4.out.c1
  have p2 := P4.out.c2
  have x0 := X4.out.c0
  have x1 := X4.out.c1
  have x2 := X4.out.c2
  have g0 := X4.out.fz 0
  have g1 := X4.out.fz 1
  have g2 := X4.out.fz 2
  by_cases hbk : b = true ∧ 0 < ks.length
  · obtain ⟨hb, hkl⟩ := hbk
    subst hb
    have hps : ps = [] := by
      rcases HE.out with h | h
      · exact h
      · rw [h] at hkl; simp at hkl
    subst hps
    obtain ⟨kb, rfl, hkb, HKR⟩ : ∃ kb, K = some ⟨kb, 0, none⟩ ∧ w1.heap.size ≤ kb ∧ Hid (w4.ownsRow w1.heap.size 2 1 (.slice (some ⟨kb, 0, none⟩) ks.length d) ks.length (icells ks)) := by
      have ho := HI4.out
      rcases ho.2 with ⟨hv, hn⟩ | ⟨kb, cap, cur, hv, hg, r⟩
      · omega
      · injection hv with e1 e2 e3
        subst e1 e3
        exact ⟨kb, rfl, hg, ho⟩
    have hkp : kb ≠ w2.heap.size := by
      intro e
      subst e
      have h1 := HKR.out.2
      have h2 := P4.out.2
      rcases h1 with ⟨hv, _⟩ | ⟨q, cap, cur, hv, _, hh, _⟩
      · cases hv
      rcases h2 with ⟨hv2, _⟩ | ⟨q2, cap2, cur2, hv2, _, hh2, _⟩
      · cases hv2
      injection hv with e1
      injection e1 with e1
      injection e1 with e1
      injection hv2 with e2
      injection e2 with e2
      injection e2 with e2
      subst e1 e2
      rw [hh] at hh2
      injection hh2 with hh2
      injection hh2 with _ hh2
      exact absurd hh2 (by decide)
    have hkz : (0 : Int) < (ks.length : Int) := by omega
    have kc : ∃ u, w4.cell? ⟨kb, 0, none⟩ = some u := ⟨_, (HKR.out.cellAt 0 (by omega)).trans (List.getElem?_eq_getElem (by rw [icells_length]; omega))⟩
    obtain ⟨ku, hku⟩ := kc
    have kf := HKR.out.frozenAt 0
    have hkg : kb ≠ w.heap.size := by omega
    have hkr : kb ≠ w0.heap.size := by omega
    have hkb4 := (World.ownsRow.lt HKR.out kb rfl).2
    clear p0 p1 p2 x0 x1 x2 g0 g1 g2
    have p2 := P4.out.c2
    go_wp2_with fail
    go_region_law (first
      | (go_simp; go_at_call 45; refine (off_any w0.heap.size w0.heap.size 1 12 _ (HR4.out.below (Below.refl _ _).drew) (by omega) (by omega) (by omega)).mono ?_; rintro e w6 ⟨z6, rfl, hr6, hg6⟩; have hK6 : w6.ownsRow w1.heap.size 2 1 (.slice (some ⟨kb, 0, none⟩) ks.length d) ks.length (icells ks) := (World.ownsRow.drew HKR.out).kept hg6 (.inr (by simp [Value.ownBlock]; omega)); have HK6 := hid hK6; have k6 := hK6.cellAt 0 (by omega); have f6 := hK6.frozenAt 0; have HG6 := hid hg6; rw [List.getElem?_eq_getElem (by rw [icells_length]; omega)] at k6; have p26 := ((P4.out.below (Below.refl _ _).drew).far hg6 (by intro k hk; injection hk with hk; omega)).c2; clear hr6 hg6 hK6))
    all_goals
      have P6 := hid ((P4.out.below (Below.refl _ _).drew).far HG6.out (by intro k hk; injection hk with hk; omega))
      have X6 := hid ((X4.out.below (Below.refl _ _).drew).far HG6.out (by intro k hk; injection hk with hk; omega))
      have HB6 := hid ((HB4.out.drew).grown HG6.out (by show _ ≤ w4.heap.size; omega) (by intro k hk; injection hk with hk; omega))
      have p0 := P6.out.c0
      have p1 := P6.out.c1
      have x0 := X6.out.c0
      have x1 := X6.out.c1
      have x2 := X6.out.c2
      have g0 := X6.out.fz 0
      have g1 := X6.out.fz 1
      have g2 := X6.out.fz 2
      have X7 := X6.out.far (grown_set1 w6 kb 0 (.int .i64 z6)) (by intro k hk; injection hk with hk; omega)
      have K7 : OwnI (w6.setCell ⟨kb, 0, none⟩ (.int .i64 z6)) w1.heap.size (some ⟨kb, 0, none⟩) d (ks.set 0 z6) := by
        have := (HK6.out.stored 0 (.int .i64 z6)).1
        rw [icells_set] at this
        unfold OwnI
        rw [List.length_set]
        exact this
      have B7 := HB6.out.setCell (p := ⟨kb, 0, none⟩) (by show w.heap.size ≤ kb; omega) (.int .i64 z6)
      have HX7 := hid X7
      have HK7 := hid K7
      have HB7 := hid B7
      clear X7 K7 B7
      go_wp2_with fail
      have U1 := HX7.out.s0 (.int .i64 id)
      have U2 := U1.s1 (.slice Ap 0 cp)
      have V1 := ((HK7.out.mono (by omega : w.heap.size + 1 ≤ _)).set HX7.out (by omega) 0 (.int .i64 id)).set U1 (by omega) 1 (.slice Ap 0 cp)
      have W1 := V1.set U2 (by omega) 2 (.slice (some ⟨kb, 0, none⟩) ks.length d)
      refine world_post (S := fun wq => Row3 wq w.heap.size 27 (.int .i64 id) (.slice Ap 0 cp) (.slice (some ⟨kb, 0, none⟩) ks.length d) ∧ PageOkD w (.returned (.agg #[.int .i64 id, .slice Ap 0 cp, .slice (some ⟨kb, 0, none⟩) ks.length d])) wq) _
        ⟨U2.s2 _, id, Ap, cp, [], _, d, ks.set 0 z6, by rw [List.length_set]; rfl, .inl rfl, HM.out, W1.mono (by omega), ((HB7.out.setCell (by simp) _).setCell (by simp) _).setCell (by simp) _⟩ ?_
      clear p0 p1 p2 x0 x1 x2 g0 g1 g2 U1 U2 V1 W1 k6 f6 p26
      intro wq ⟨hq, hm⟩
      have q0 := hq.c0
      have q1 := hq.c1
      have q2 := hq.c2
      exact bodyPost_ret (v := .agg #[.int .i64 id, .slice Ap 0 cp, .slice (some ⟨kb, 0, none⟩) ks.length d]) (by simp [results, Tryd.results19, go_sem, q0, q1, q2]) rfl hm
  · cases b
    case false =>
      go_wp2_with fail
      have U1 := X4.out.s0 (.int .i64 id)
      have U2 := U1.s1 (.slice Ap ps.length cp)
      have V0 := ((HO4.out.mono' (by omega : w.heap.size + 1 ≤ _)).set X4.out (by omega) 0 (.int .i64 id)).set U1 (by omega) 1 (.slice Ap ps.length cp)
      have V1 := ((HI4.out.mono (by omega : w.heap.size + 1 ≤ _)).set X4.out (by omega) 0 (.int .i64 id)).set U1 (by omega) 1 (.slice Ap ps.length cp)
      have W0 := V0.set U2 (by omega) 2 (.slice K ks.length d)
      have W1 := V1.set U2 (by omega) 2 (.slice K ks.length d)
      refine world_post (S := fun wq => Row3 wq w.heap.size 27 (.int .i64 id) (.slice Ap ps.length cp) (.slice K ks.length d) ∧ PageOkD w (.returned (.agg #[.int .i64 id, .slice Ap ps.length cp, .slice K ks.length d])) wq) _
        ⟨U2.s2 _, id, Ap, cp, ps, K, d, ks, rfl, (.inr (W0.mono' (by omega))), HM.out, W1.mono (by omega), ((HB4.out.setCell (by simp) _).setCell (by simp) _).setCell (by simp) _⟩ ?_
      clear p0 p1 p2 x0 x1 x2 g0 g1 g2 U1 U2 V0 V1 W0 W1
      intro wq ⟨hq, hm⟩
      have q0 := hq.c0
      have q1 := hq.c1
      have q2 := hq.c2
      exact bodyPost_ret (v := .agg #[.int .i64 id, .slice Ap ps.length cp, .slice K ks.length d]) (by simp [results, Tryd.results19, go_sem, q0, q1, q2]) rfl hm
    case true =>
      have hkz : ks.length = 0 := by
        have : ¬ 0 < ks.length := fun h => hbk ⟨rfl, h⟩
        omega
      obtain rfl : ks = [] := List.eq_nil_of_length_eq_zero hkz
      clear hkz hbk
      go_wp2_with fail
      have U1 := X4.out.s0 (.int .i64 id)
      have U2 := U1.s1 (.slice Ap ps.length cp)
      have V0 := ((HO4.out.mono' (by omega : w.heap.size + 1 ≤ _)).set X4.out (by omega) 0 (.int .i64 id)).set U1 (by omega) 1 (.slice Ap ps.length cp)
      have V1 := ((HI4.out.mono (by omega : w.heap.size + 1 ≤ _)).set X4.out (by omega) 0 (.int .i64 id)).set U1 (by omega) 1 (.slice Ap ps.length cp)
      have W0 := V0.set U2 (by omega) 2 (.slice K 0 d)
      have W1 := V1.set U2 (by omega) 2 (.slice K 0 d)
      refine world_post (S := fun wq => Row3 wq w.heap.size 27 (.int .i64 id) (.slice Ap ps.length cp) (.slice K 0 d) ∧ PageOkD w (.returned (.agg #[.int .i64 id, .slice Ap ps.length cp, .slice K 0 d])) wq) _
        ⟨U2.s2 _, id, Ap, cp, ps, K, d, [], rfl, (.inr (W0.mono' (by omega))), HM.out, W1.mono (by omega), ((HB4.out.setCell (by simp) _).setCell (by simp) _).setCell (by simp) _⟩ ?_
      clear p0 p1 p2 x0 x1 x2 g0 g1 g2 U1 U2 V0 V1 W0 W1
      intro wq ⟨hq, hm⟩
      have q0 := hq.c0
      have q1 := hq.c1
      have q2 := hq.c2
      exact bodyPost_ret (v := .agg #[.int .i64 id, .slice Ap ps.length cp, .slice K 0 d]) (by simp [results, Tryd.results19, go_sem, q0, q1, q2]) rfl hm

set_option maxHeartbeats 4000000 in
theorem drawPageText_any (A : Option Addr) (n c : Nat) (w : World) (hc : CB w w.heap.size A n) (hn : n ≤ 1048576) :
    Calls Tryd.prog 7 #[.slice A n c] w (PageOkD w) := by
  have hx0 := Row3.lit w 27 (.int .i64 0) (.slice none 0 0) (.slice none 0 0)
  have hb0 : Below w.heap.size w (w.alloc (.cells #[.int .i64 0, .slice none 0 0, .slice none 0 0] 27)) := (Below.refl _ _).alloc (Nat.le_refl _) _
  have hcb : CB (w.alloc (.cells #[.int .i64 0, .slice none 0 0, .slice none 0 0] 27)) (w.alloc (.cells #[.int .i64 0, .slice none 0 0, .slice none 0 0] 27)).heap.size A n := by
    rcases hc.keep (w' := w.alloc (.cells #[.int .i64 0, .slice none 0 0, .slice none 0 0] 27)) (fun p hp => hb0.cell hp) with h | ⟨b, off, e, hb, hx⟩
    · exact .inl h
    · exact .inr ⟨b, off, e, Nat.lt_of_lt_of_le hb hb0.size, hx⟩
  have hs0 : w.heap.size < (w.alloc (.cells #[.int .i64 0, .slice none 0 0, .slice none 0 0] 27)).heap.size := by simp
  have X0 := hid hx0
  have HB0 := hid hb0
  have HC := hid hcb
  clear hc hx0 hb0 hcb
  go_enter Tryd.func7, Tryd.ntmps7
  go_wp2_with fail
  generalize hw0 : w.alloc (.cells #[.int .i64 0, .slice none 0 0, .slice none 0 0] 27) = w0 at *
  clear hw0
  refine (drawPageOk_any A n c _ HC.out hn).mono ?_
  rintro e w1 ⟨id, Ap, cp, ps, K, d, ks, rfl, hp1, hm1, hi1, hb1⟩
  have X1 := hid (X0.out.below hb1)
  have HB1 := hid (HB0.out.trans (hb1.mono HB0.out.size))
  have HP1 := hid hp1
  have HI1 := hid hi1
  have HM := hid hm1
  clear hp1 hi1 hm1 hb1
  have g0 := X1.out.fz 0
  have g1 := X1.out.fz 1
  have g2 := X1.out.fz 2
  have x0 := X1.out.c0
  have x1 := X1.out.c1
  have x2 := X1.out.c2
  go_wp2_with fail
  have U1 := X1.out.s0 (.int .i64 id)
  have U2 := U1.s1 (.slice Ap ps.length cp)
  have W0 : ps = [] ∨ OwnP (((w1.setCell ⟨w.heap.size, 0, none⟩ (.int .i64 id)).setCell ⟨w.heap.size, 1, none⟩ (.slice Ap ps.length cp)).setCell ⟨w.heap.size, 2, none⟩ (.slice K ks.length d)) w.heap.size Ap cp ps := HP1.out.imp (fun h => h) fun h => (((h.set X1.out (by omega) 0 (.int .i64 id)).set U1 (by omega) 1 (.slice Ap ps.length cp)).set U2 (by omega) 2 (.slice K ks.length d)).mono' (by omega)
  have W1 := (((HI1.out.set X1.out (by omega) 0 (.int .i64 id)).set U1 (by omega) 1 (.slice Ap ps.length cp)).set U2 (by omega) 2 (.slice K ks.length d)).mono (by omega : w.heap.size ≤ _)
  refine world_post (S := fun wq => Row3 wq w.heap.size 27 (.int .i64 id) (.slice Ap ps.length cp) (.slice K ks.length d) ∧ PageOkD w (.returned (.agg #[.int .i64 id, .slice Ap ps.length cp, .slice K ks.length d])) wq) _
    ⟨U2.s2 _, id, Ap, cp, ps, K, d, ks, rfl, W0, HM.out, W1, ((HB1.out.setCell (by simp) _).setCell (by simp) _).setCell (by simp) _⟩ ?_
  clear x0 x1 x2 g0 g1 g2 U1 U2 W0 W1
  intro wq ⟨hq, hm⟩
  have q0 := hq.c0
  have q1 := hq.c1
  have q2 := hq.c2
  exact bodyPost_ret (v := .agg #[.int .i64 id, .slice Ap ps.length cp, .slice K ks.length d]) (by simp [results, Tryd.results7, go_sem, q0, q1, q2]) rfl hm

theorem bigP_any (A : Option Addr) (n c : Nat) (w : World) :
    Calls Tryd.prog 6 #[.slice A n c] w fun e w' => e = .returned (.bool (decide ((1048576 : Int) < (n : Int)))) ∧ w = w' := by
  go_enter Tryd.func6, Tryd.ntmps6
  go_wp2_with fail
  go_ret
  exact ⟨rfl, rfl⟩
theorem summed_tail (s : ByteArray) : summedB s = tailT s (Lib.decDigits (crcB s)) := rfl

set_option maxHeartbeats 8000000 in
set_option maxRecDepth 100000 in
theorem fnPageSum_walk (A : Option Addr) (n c : Nat) (w : World) (hc : CB w w.heap.size A n) (hn : n ≤ maxLen) (ht : Tab w) :
    Calls Tryd.prog 3 #[.slice A n c] w fun e w' => e = .returned (.bool true) ∧ Below w.heap.size w w' := by
  have HC := hid hc
  have HT : Hid (∀ W : World, Below w.heap.size w W → Tab W) := fun W h => ht.below h
  clear hc ht
  unfold maxLen at hn
  go_enter Tryd.func3, Tryd.ntmps3
  go_wp2_with fail
  refine (bigP_any A n c _).mono ?_
  rintro e w0 ⟨rfl, rfl⟩
  by_cases hbig : (1048576 : Int) < (n : Int)
  · go_wp2_with fail
    go_ret
    exact ⟨rfl, Below.refl _ _⟩
  go_wp2_with fail
  refine (drawPageText_any A n c _ HC.out (by omega)).mono ?_
  rintro e w1 ⟨id, Ap, cp, ps, K, d, ks, rfl, hp1, hm1, hi1, hb1⟩
  have P2 := hid (Row3.lit w1 27 (.int .i64 id) (.slice Ap ps.length cp) (.slice K ks.length d))
  have HBA := hid ((Below.refl w1.heap.size w1).alloc (Nat.le_refl _) (.cells #[.int .i64 id, .slice Ap ps.length cp, .slice K ks.length d] 27))
  have HB1 := hid (hb1.trans (HBA.out.mono hb1.size))
  have hrp : RP w1 w1.heap.size Ap ps := by
    rcases hp1 with h | h
    · subst h; exact .inl rfl
    · exact h.rp
  have HRP := hid ((hrp.below HBA.out).more HBA.out.size)
  have HRI := hid ((hi1.ri.below HBA.out).more HBA.out.size)
  have HCAP := hid hi1.cap
  have HF := hid (fits_map hm1)
  have hpl := (mapB_iff.1 hm1).1
  have hpl2 : ps.length ≤ maxLen := by unfold maxLen; omega
  have HPL := hid hpl2
  clear hp1 hm1 hi1 hb1 hrp hpl hpl2
  go_wp2_with fail
  generalize hw2 : w1.alloc (.cells #[.int .i64 id, .slice Ap ps.length cp, .slice K ks.length d] 27) = w2 at *
  clear hw2
  refine (impl_PageText id Ap cp ps K d ks _ HRP.out HF.out HPL.out HRI.out HCAP.out.1 HCAP.out.2 (HT.out _ HB1.out)).mono ?_
  rintro e w3 ⟨rfl, hb3⟩
  have P3 := hid (P2.out.below hb3)
  have HB3 := hid (HB1.out.trans (hb3.mono HB1.out.size))
  have HRP3 := hid ((HRP.out.below hb3).more hb3.size)
  have HRI3 := hid ((HRI.out.below hb3).more hb3.size)
  clear hb3
  have p0 := P3.out.c0
  have p1 := P3.out.c1
  have p2 := P3.out.c2
  have hss : ((pageT id ps ks).toList != (pageT id ps ks).toList) = false := by simp
  have hse : ((pageT id ps ks).toList == (pageT id ps ks).toList) = true := by simp
  cases hpg : pageB id ps ks
  · have HE : Hid (pageT id ps ks = ⟨#[]⟩) := by rw [Hid, pageT, hpg]; rfl
    have hem : ((pageT id ps ks).toList == ([] : List UInt8)) = true := by rw [HE.out, ByteArray.toList_eq]; rfl
    go_wp2_with (first
      | (go_at_call 9; (with_reducible refine (spec_PageText id Ap cp ps K d ks w3 HRP3.out HF.out HPL.out HRI3.out HCAP.out.1 HCAP.out.2).mono ?_); rintro e w4 ⟨rfl, hb4⟩; have HB4 := hid (HB3.out.trans (hb4.mono HB3.out.size)); have HRP4 := hid ((HRP3.out.below hb4).more hb4.size); have HRI4 := hid ((HRI3.out.below hb4).more hb4.size); have P4 := hid (P3.out.below hb4); have q0 := P4.out.c0; have q1 := P4.out.c1; have q2 := P4.out.c2; clear hb4)
      | (go_at_call 9; refine (spec_PageText id Ap cp ps K d ks w4 HRP4.out HF.out HPL.out HRI4.out HCAP.out.1 HCAP.out.2).mono ?_; rintro e w5 ⟨rfl, hb5⟩))
    go_ret
    exact ⟨rfl, HB4.out.trans (hb5.mono HB4.out.size)⟩
  · have hsm := words_small hpg
    have HE : Hid (pageT id ps ks = tailT (joinB (pageWords id ps ks)) (Lib.decDigits (crcB (joinB (pageWords id ps ks))))) := by rw [Hid, pageT, hpg, if_pos rfl, summed_tail]
    generalize hbd : joinB (pageWords id ps ks) = body at *
    clear hbd
    have hdl := dec_len (crc_small body)
    have HCR : Hid (valD (Lib.decDigits (crcB body)) = crcB body) := valD_dec _
    have HDG : Hid (∀ c ∈ Lib.decDigits (crcB body), 48 ≤ c.toNat ∧ c.toNat ≤ 57) := dec_dig _
    have hlt32 := crcB_lt body
    have HPOS := hid (dec_pos (crcB body))
    generalize hT : pageT id ps ks = T at *
    generalize hl : Lib.decDigits (crcB body) = l at *
    clear hl
    have hsz := tailT_size body l
    rw [← HE.out] at hsz
    have hpos := HPOS.out
    have hne : T.size ≠ 0 := by omega
    have hem : (T.toList == ([] : List UInt8)) = false := by
      rw [beq_eq_false_iff_ne]
      intro e
      rw [ByteArray.toList_eq] at e
      have : T.data.size = 0 := by
        have := congrArg List.length e
        simpa using this
      exact hne this
    have HBL : Hid (∀ h : body.size < T.size, (T[body.size].toNat : Int) = 32) := by
      intro h
      have hh := HE.out
      subst hh
      rw [tailT_blank h]
      rfl
    have HDI : Hid (∀ j (hj : j < l.length) (h : body.size + 1 + j < T.size), T[body.size + 1 + j].toNat = l[j].toNat) := by
      intro j hj h
      have hh := HE.out
      subst hh
      rw [tailT_dig hj h]
    have HHD : Hid (T.extract 0 body.size = body) := by
      have hh := HE.out
      subst hh
      exact tailT_head body l
    have HVB : Hid (∀ j, valD (l.take j) ≤ 4294967296) := fun j => by
      have := valD_take l j
      rw [HCR.out] at this
      omega
    have hz1 : T.size ≤ body.size + 1 + l.length := by omega
    have hz2 : body.size + 1 + l.length ≤ T.size := by omega
    have hz3 : 0 < T.size := by omega
    clear hsz hne hpos hlt32
    go_wp2_with (first
      | (go_at_call 9; refine (spec_PageText id Ap cp ps K d ks w3 HRP3.out HF.out HPL.out HRI3.out HCAP.out.1 HCAP.out.2).mono ?_; rintro e w4 ⟨rfl, hb4⟩; rw [hT]; have HB4 := hid (HB3.out.trans (hb4.mono HB3.out.size)); clear hb4))
    clear hss hse hem p0 p1 p2
    go_loop [5] (fun at_ => ∃ k : Nat, body.size ≤ k ∧ k < T.size ∧ at_ = .int .i64 (k : Int)) (fun at_ => (intOf at_).toNat)
    case atStart => exact ⟨T.size - 1, by omega, by omega, by go_num⟩
    case round =>
      obtain ⟨k, hk1, hk2, rfl⟩ := hrel
      have e1 : (0 : Int) ≤ (k : Int) := by omega
      have e2 : (k : Int) < (T.size : Int) := by omega
      by_cases hk : k = body.size
      · subst hk
        have h3 : ((T[body.size].toNat : Int) != 32) = false := neI_false (HBL.out hk2)
        go_wp2_with fail
        go_loop [6, 7] (fun nv i => ∃ j : Nat, j ≤ l.length ∧ nv = .int .i64 (valD (l.take j) : Int) ∧ i = .int .i64 ((body.size + 1 + j : Nat) : Int)) (fun _ i => T.size - (intOf i).toNat)
        case atStart => exact ⟨0, Nat.zero_le _, rfl, by go_num⟩
        case round =>
          obtain ⟨j, hj, rfl, rfl⟩ := hrel
          have hvb := HVB.out j
          by_cases hlt : j < l.length
          · have hx : body.size + 1 + j < T.size := by omega
            have e3 : ((body.size + 1 + j : Nat) : Int) < (T.size : Int) := by omega
            have e4 : (0 : Int) ≤ ((body.size + 1 + j : Nat) : Int) := by omega
            have hd1 := HDG.out _ (List.getElem_mem hlt)
            have hd2 := HDI.out j hlt hx
            have HD2 := hid hd2
            have b1 : 48 ≤ T[body.size + 1 + j].toNat := by omega
            have b2 : T[body.size + 1 + j].toNat ≤ 57 := by omega
            have HV2 := hid (valD_take_succ hlt)
            clear hd2
            go_wp2_with fail
            go_round
            case rel => exact ⟨j + 1, by omega, by
                rw [HV2.out, ← HD2.out]
                go_num, by go_num⟩
            case measure => simp [intOf]; omega
          · obtain rfl : j = l.length := by omega
            have HSV : Hid ((sumV body == (valD l : Int)) = true) := by
              rw [Hid, HCR.out, sumV, if_neg (by omega)]
              simp
            have e5 : (body.size : Int) ≤ (T.size : Int) := by omega
            have e6 : body.size ≤ T.size := by omega
            have hbm : body.size ≤ maxLen := by unfold maxLen; omega
            have HBM := hid hbm
            clear hbm
            go_wp2_with (go_at_call 10; rw [HHD.out]; refine (impl_SumOf body _ HBM.out).mono ?_; rintro e w5 ⟨rfl, hb5⟩)
            go_ret
            exact ⟨ret_bool HSV.out, HB4.out.trans (hb5.mono HB4.out.size)⟩
      · have hx : body.size + 1 + (k - body.size - 1) < T.size := by omega
        have hj : k - body.size - 1 < l.length := by omega
        have hkk : body.size + 1 + (k - body.size - 1) = k := by omega
        have h48 : 48 ≤ T[k].toNat := by
          have h1 := HDI.out _ hj hx
          have h2 := HDG.out _ (List.getElem_mem hj)
          simp only [hkk] at h1
          omega
        have h3 : ((T[k].toNat : Int) != 32) = true := neI_true (by omega)
        clear hx hkk hj
        go_wp2_with fail
        go_round
        case rel => exact ⟨k - 1, by omega, by omega, by go_num⟩
        case measure => simp [intOf]; omega
end Go.Proofs.YtooalnpfenhelabDoor
