/-
  What the exact laws on pages go through: sizes, copies, comparisons of pages.
-/
import Derived.Test.YtkegdhgcebbmgaaDoorOwnMore
namespace Go.Proofs.YtkegdhgcebbmgaaDoor
open Go.RowKit

set_option maxHeartbeats 1000000 in
theorem szPage_any (id : Int) (A : Option Addr) (c : Nat) (ps : PS) (K : Option Addr) (d : Nat) (ks : List Int) (l : Int) (w : World) (hr : RP w w.heap.size A ps) (hf : Fits ps) (hn : ps.length ≤ maxLen) (hm : ks.length ≤ maxLen) (h0 : 0 ≤ l) (h1 : l ≤ 1048576) :
    Calls Tryd.prog 11 #[.agg #[.int .i64 id, .slice A ps.length c, .slice K ks.length d], .int .i64 l] w fun e w' => ∃ r : Int, e = .returned (.int .i64 r) ∧ (0 ≤ r → (ps.length : Int) ≤ l ∧ (ks.length : Int) ≤ l) ∧ Below w.heap.size w w' := by
  have HB : Hid (∀ o : Obj, Below w.heap.size w (w.alloc o)) := fun o => (Below.refl _ _).alloc (Nat.le_refl _) o
  have HR := hid ((hr.below (HB.out (.cells #[.int .i64 id, .slice A ps.length c, .slice K ks.length d] 31))).more (HB.out (.cells #[.int .i64 id, .slice A ps.length c, .slice K ks.length d] 31)).size)
  have HF := hid hf
  have HN := hid hn
  have HM := hid hm
  clear hr hf hn hm
  go_enter Tryd.func11, Tryd.ntmps11
  go_wp2_with fail
  refine (szPairS_any A c ps l _ HR.out HF.out HN.out h0 h1).mono ?_
  rintro e w1 ⟨r, rfl, hr1, hr2, hr3, hb1⟩
  have H3 := hid hr3
  have HB1 := hid ((HB.out _).trans (hb1.mono (HB.out _).size))
  have hx2 : w1.cell? ⟨w.heap.size, 2, none⟩ = some (.slice K ks.length d) := (hb1.cell (p := ⟨w.heap.size, 2, none⟩) (by simp)).trans (by go_simp)
  clear hr3 hb1
  by_cases hneg : r < 0
  · go_wp2_with fail
    go_ret
    exact ⟨_, rfl, fun h => by omega, HB1.out⟩
  · go_wp2_with fail
    refine (szInt64S_any K d ks r _ HM.out (by omega) (by omega)).mono ?_
    rintro e w2 ⟨q, rfl, hq1, hq2, hq3, rfl⟩
    have H4 := hid hq3
    clear hq3
    by_cases hneg2 : q < 0
    · go_wp2_with fail
      go_ret
      exact ⟨_, rfl, fun h => by omega, HB1.out⟩
    · go_wp2_with fail
      go_ret
      exact ⟨_, rfl, fun h => ⟨(H3.out (by omega)).1, by have := H4.out h; omega⟩, HB1.out⟩

/-- A page of the call's own. -/
def MadePage (w : World) (B : Nat) (id : Int) (ps : PS) (ks : List Int) (e : Ending) (w' : World) : Prop :=
  ∃ A c K d, e = .returned (.agg #[.int .i64 id, .slice A ps.length c, .slice K ks.length d]) ∧ OwnP w' B A c ps ∧ OwnI w' B K d ks ∧ ks.length ≤ d ∧ d ≤ maxLen ∧ Below w.heap.size w w'
/-- A store into another block. -/
theorem OwnP.set {w : World} {B c : Nat} {A : Option Addr} {ps : PS} (h : OwnP w B A c ps) {g : Nat} {t : TypeId} {x y z : Value} (h' : Row3 w g t x y z) (hg : g < B) (j : Nat) (v : Value) : OwnP (w.setCell ⟨g, j, none⟩ v) B A c ps := by
  refine h.kept (h'.stored j v).2 ?_
  rcases h.2 with ⟨hv, _⟩ | ⟨g2, cap, cur, hv, hb, _⟩
  · left
    rw [hv]; rfl
  · right
    rw [hv]
    simp [Value.ownBlock]
    omega
theorem OwnI.set {w : World} {B c : Nat} {A : Option Addr} {ps : List Int} (h : OwnI w B A c ps) {g : Nat} {t : TypeId} {x y z : Value} (h' : Row3 w g t x y z) (hg : g < B) (j : Nat) (v : Value) : OwnI (w.setCell ⟨g, j, none⟩ v) B A c ps := by
  refine h.kept (h'.stored j v).2 ?_
  rcases h.2 with ⟨hv, _⟩ | ⟨g2, cap, cur, hv, hb, _⟩
  · left
    rw [hv]; rfl
  · right
    rw [hv]
    simp [Value.ownBlock]
    omega

set_option maxHeartbeats 2000000 in
theorem toPage_any (id : Int) (A : Option Addr) (c : Nat) (ps : PS) (K : Option Addr) (d : Nat) (ks : List Int) (w : World) (hr : RP w w.heap.size A ps) (hn : ps.length ≤ 1048576) (hk : RI w w.heap.size K ks) (hm : ks.length ≤ 1048576) :
    Calls Tryd.prog 13 #[.agg #[.int .i64 id, .slice A ps.length c, .slice K ks.length d]] w (MadePage w w.heap.size id ps ks) := by
  have HR := hid hr
  have HK := hid hk
  obtain ⟨h1, h2, h3⟩ := rows_three w (.cells #[.int .i64 id, .slice A ps.length c, .slice K ks.length d] 31) 35 (.int .i64 0) (.slice none 0 0) (.slice none 0 0) (.int .i64 id) (.slice none 0 0) (.slice none 0 0)
  have H1 := hid h1
  have H2 := hid h2
  have H3 := hid h3
  clear hr hk h1 h2 h3
  go_enter Tryd.func13, Tryd.ntmps13
  go_wp2_with fail
  refine (toPairS_any A c ps _ ((HR.out.below H3.out).more H3.out.size) hn).mono ?_
  rintro e w4 ⟨A4, c4, rfl, ho4, hb4⟩
  have c2 : w4.cell? ⟨w.heap.size, 2, none⟩ = some (.slice K ks.length d) := (hb4.cell (p := ⟨w.heap.size, 2, none⟩) (by simp; omega)).trans (by go_simp)
  have R1 := hid (H1.out.below hb4)
  have R2 := hid (H2.out.below hb4)
  have HB4 := hid (H3.out.trans (hb4.mono H3.out.size))
  have HO4 := hid ((ho4.set R2.out (by simp) 1 (.slice A4 ps.length c4)).mono' (by first | (simp; done) | (simp; omega) : w.heap.size + 3 ≤ _))
  have d1 := R2.out.c1
  have f1 := R2.out.fz 1
  have hsz4 : w.heap.size + 3 ≤ w4.heap.size := by have := hb4.size; simpa using this
  clear ho4 hb4
  go_wp2_with fail
  refine (toInt64S_any K d ks _ ((HK.out.below (HB4.out.setCell (by simp; omega) _)).more (by have := HB4.out.size; simpa using this)) hm).mono ?_
  rintro e w5 ⟨K5, d5, rfl, ho5, hb5⟩
  clear c2 d1 f1
  have Q1 := hid ((R1.out.other R2.out (by omega) 1 (.slice A4 ps.length c4)).below hb5)
  have Q2 := hid ((R2.out.s1 (.slice A4 ps.length c4)).below hb5)
  have HO5 := hid (HO4.out.below hb5)
  have HI5 := hid ho5
  have HB5 := hid ((HB4.out.setCell (p := ⟨w.heap.size + 1 + 1, 1, none⟩) (by simp; omega) (.slice A4 ps.length c4)).trans (hb5.mono (by have := HB4.out.size; simpa using this)))
  clear ho5 hb5
  have x0 := Q2.out.c0
  have x1 := Q2.out.c1
  have x2 := Q2.out.c2
  have g2 := Q2.out.fz 2
  have y0 := Q1.out.c0
  have y1 := Q1.out.c1
  have y2 := Q1.out.c2
  have g0 := Q1.out.fz 0
  have g1 := Q1.out.fz 1
  have g3 := Q1.out.fz 2
  go_wp2_with fail
  have HI6 := hid (HI5.out.mono (by have := hsz4; first | (simp; done) | (simp; omega) : w.heap.size + 3 ≤ _))
  have U2 := Q2.out.s2 (.slice K5 ks.length d5)
  have U1 := Q1.out.other Q2.out (by omega) 2 (.slice K5 ks.length d5)
  have P0 := HO5.out.set Q2.out (by omega) 2 (.slice K5 ks.length d5)
  have I0 := HI6.out.set Q2.out (by omega) 2 (.slice K5 ks.length d5)
  have B0 := HB5.out.setCell (p := ⟨w.heap.size + 1 + 1, 2, none⟩) (by simp; omega) (.slice K5 ks.length d5)
  have U3 := U1.s0 (.int .i64 id)
  have U4 := U3.s1 (.slice A4 ps.length c4)
  refine world_post (S := fun wq => Row3 wq (w.heap.size + 1) 35 (.int .i64 id) (.slice A4 ps.length c4) (.slice K5 ks.length d5) ∧ OwnP wq w.heap.size A4 c4 ps ∧ OwnI wq w.heap.size K5 d5 ks ∧ Below w.heap.size w wq) _
    ⟨U4.s2 _, (((P0.set U1 (by omega) 0 _).set U3 (by omega) 1 _).set U4 (by omega) 2 _).mono' (by omega), (((I0.set U1 (by omega) 0 _).set U3 (by omega) 1 _).set U4 (by omega) 2 _).mono (by omega),
      ((B0.setCell (p := ⟨w.heap.size + 1, 0, none⟩) (by simp) _).setCell (p := ⟨w.heap.size + 1, 1, none⟩) (by simp) _).setCell (p := ⟨w.heap.size + 1, 2, none⟩) (by simp) _⟩ ?_
  clear x0 x1 x2 y0 y1 y2 g0 g1 g2 g3 U1 U2 U3 U4 P0 I0 B0
  intro wq ⟨hq, hp, hi, hb⟩
  have q0 := hq.c0
  have q1 := hq.c1
  have q2 := hq.c2
  exact bodyPost_ret (v := .agg #[.int .i64 id, .slice A4 ps.length c4, .slice K5 ks.length d5]) (by simp [results, Tryd.results13, go_sem, q0, q1, q2]) rfl ⟨A4, c4, K5, d5, rfl, hp, hi, hi.cap.1, hi.cap.2, hb⟩

set_option maxHeartbeats 1000000 in
theorem eqPage_any (id : Int) (A : Option Addr) (c : Nat) (ps : PS) (K : Option Addr) (d : Nat) (ks : List Int) (A' : Option Addr) (c' : Nat) (K' : Option Addr) (d' : Nat) (w : World)
    (hr : RP w w.heap.size A ps) (hn : ps.length ≤ maxLen) (hk : RI w w.heap.size K ks) (hm : ks.length ≤ maxLen) (hr' : RP w w.heap.size A' ps) (hk' : RI w w.heap.size K' ks) :
    Calls Tryd.prog 15 #[.agg #[.int .i64 id, .slice A ps.length c, .slice K ks.length d], .agg #[.int .i64 id, .slice A' ps.length c', .slice K' ks.length d']] w fun e w' => e = .returned (.bool true) ∧ Below w.heap.size w w' := by
  have HB : Hid (∀ o o' : Obj, Below w.heap.size w ((w.alloc o).alloc o')) := fun o o' => ((Below.refl _ _).alloc (Nat.le_refl _) o).alloc (by simp) o'
  have HR := hid hr
  have HK := hid hk
  have HR' := hid hr'
  have HK' := hid hk'
  have HN := hid hn
  have HM := hid hm
  have hi : (id != id) = false := by simp
  have e1 : decide (ps = ps) = true := by simp
  have e2 : decide (ks = ks) = true := by simp
  clear hr hk hr' hk' hn hm
  go_enter Tryd.func15, Tryd.ntmps15
  go_wp2_with (first
    | (go_at_call 8; refine (eqPairS_any A A' c c' ps ps _ ((HR.out.below (HB.out _ _)).more (HB.out _ _).size) ((HR'.out.below (HB.out _ _)).more (HB.out _ _).size) HN.out).mono ?_; rintro e w1 ⟨rfl, hb1⟩; have HB1 := hid ((HB.out _ _).trans (hb1.mono (HB.out _ _).size)); have hx2 : w1.cell? ⟨w.heap.size, 2, none⟩ = some (.slice K ks.length d) := (hb1.cell (p := ⟨w.heap.size, 2, none⟩) (by simp; omega)).trans (by go_simp); have hx3 : w1.cell? ⟨w.heap.size + 1, 2, none⟩ = some (.slice K' ks.length d') := (hb1.cell (p := ⟨w.heap.size + 1, 2, none⟩) (by simp)).trans (by go_simp); clear hb1)
    | (go_at_call 38; refine (eqInt64S_any K K' d d' ks ks w.heap.size _ (HK.out.below HB1.out) (HK'.out.below HB1.out) HM.out).mono ?_; rintro e w2 ⟨rfl, hw2⟩))
  go_ret
  exact ⟨rfl, HB1.out.trans (hw2.below _)⟩
end Go.Proofs.YtkegdhgcebbmgaaDoor
