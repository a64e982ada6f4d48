/-
  Disks: where they lie, disks of the call's own; their sizes, copies, comparisons, marks (tools/mkdskkit.py).
-/
import Derived.Test.YtaiehccpefjbfaaFlC
import Derived.Test.YtaiehccpefjbfaaDskF
import Derived.Test.YtaiehccpefjbfaaDopMarks
namespace Go.Proofs.Ytaiehccpefjbfaa
open Go.RowKit

/-- Where a disk's three lists lie. -/
structure DV where
  A : Option Addr
  c : Nat
  K : Option Addr
  d : Nat
  O : Option Addr
  o : Nat
/-- A disk. -/
structure DK where
  live : PS
  safe : PS
  ops : DS
def RK (w : World) (B : Nat) (V : DV) (D : DK) : Prop := RP w B V.A D.live ∧ RP w B V.K D.safe ∧ RD w B V.O D.ops
theorem RK.below {w w' : World} {B : Nat} {V : DV} {D : DK} (h : RK w B V D) (hb : Below B w w') : RK w' B V D := ⟨h.1.below hb, h.2.1.below hb, h.2.2.below hb⟩
theorem RK.more {w : World} {B B' : Nat} {V : DV} {D : DK} (h : RK w B V D) (hB : B ≤ B') : RK w B' V D := ⟨h.1.more hB, h.2.1.more hB, h.2.2.more hB⟩
def LenK (D : DK) (n : Nat) : Prop := D.live.length ≤ n ∧ D.safe.length ≤ n ∧ D.ops.length ≤ n
theorem LenK.more {D : DK} {n m : Nat} (h : LenK D n) (hm : n ≤ m) : LenK D m := ⟨Nat.le_trans h.1 hm, Nat.le_trans h.2.1 hm, Nat.le_trans h.2.2 hm⟩
def SmallK (D : DK) (B : Nat) : Prop := SmallP D.live B ∧ SmallP D.safe B ∧ ∀ x ∈ D.ops, SmallX x B
def FitsK (D : DK) : Prop := Fits D.live ∧ Fits D.safe ∧ FitsD D.ops
/-- The block q is one of the disk's rows. -/
def DV.has (V : DV) (D : DK) (q : Nat) : Prop := Value.ownBlock (.slice V.A D.live.length V.c) = some q ∨ Value.ownBlock (.slice V.K D.safe.length V.d) = some q ∨ Value.ownBlock (.slice V.O D.ops.length V.o) = some q
structure OwnK (w : World) (B : Nat) (V : DV) (D : DK) : Prop where
  pl : OwnPF w B V.A V.c D.live
  ps : OwnPF w B V.K V.d D.safe
  po : OwnD w B V.O V.o D.ops
  ne : ∀ q, Value.ownBlock (.slice V.A D.live.length V.c) = some q → Value.ownBlock (.slice V.K D.safe.length V.d) ≠ some q
theorem OwnK.rk {w : World} {B : Nat} {V : DV} {D : DK} (h : OwnK w B V D) : RK w w.heap.size V D := ⟨h.pl.rp, h.ps.rp, h.po.rh⟩
theorem OwnK.below {w w' : World} {B : Nat} {V : DV} {D : DK} (h : OwnK w B V D) (hb : Below w.heap.size w w') : OwnK w' B V D := ⟨h.pl.below hb, h.ps.below hb, h.po.below hb, h.ne⟩
theorem OwnPF.monoF {w : World} {B B' c : Nat} {A : Option Addr} {ps : PS} (h : OwnPF w B A c ps) (hB : B' ≤ B) : OwnPF w B' A c ps := by
  refine ⟨h.1, ?_⟩
  rcases h.2 with hn | ⟨g, cap, cur, hv, hb, r⟩
  · exact .inl hn
  · exact .inr ⟨g, cap, cur, hv, by omega, r⟩
theorem OwnK.mono {w : World} {B B' : Nat} {V : DV} {D : DK} (h : OwnK w B V D) (hB : B' ≤ B) : OwnK w B' V D := ⟨h.pl.monoF hB, h.ps.monoF hB, h.po.mono hB, h.ne⟩
theorem OwnK.lt {w : World} {B : Nat} {V : DV} {D : DK} (h : OwnK w B V D) {q : Nat} (hq : V.has D q) : B ≤ q ∧ q < w.heap.size := by
  rcases hq with hq | hq | hq
  · exact World.ownsRow.lt h.pl q hq
  · exact World.ownsRow.lt h.ps q hq
  · exact World.ownsRow.lt h.po q hq
theorem own_vs {w : World} {B e sz n c : Nat} {A : Option Addr} {xs : List Value} (h : w.ownsRow B e sz (.slice A n c) n xs) : VS A c n := by
  rcases h.2 with ⟨hv, hn⟩ | ⟨g, cap, cur, hv, _, _, hnc, hcm, _⟩
  · injection hv with e1 e2 e3
    exact .inl ⟨e1, e3, hn⟩
  · injection hv with e1 e2 e3
    subst e3
    exact .inr ⟨g, 0, e1, hnc, hcm⟩
/-- The lists of a disk are of a form that Go can bear. -/
def VSK (V : DV) (D : DK) : Prop := VS V.A V.c D.live.length ∧ VS V.K V.d D.safe.length ∧ VS V.O V.o D.ops.length
theorem OwnK.vs {w : World} {B : Nat} {V : DV} {D : DK} (h : OwnK w B V D) : VSK V D := ⟨own_vs h.pl, own_vs h.ps, own_vs h.po⟩
/-- Only blocks in S are turned. -/
structure TurnW (w w' : World) (S : Nat → Prop) : Prop where
  os : w'.os = w.os
  tape : w'.tape = w.tape
  output : w'.output = w.output
  size : w.heap.size ≤ w'.heap.size
  block : ∀ k, k < w.heap.size → ¬ S k → w'.heap[k]? = w.heap[k]?
theorem TurnW.below {B : Nat} {w w' w'' : World} {S : Nat → Prop} (h : Below B w w') (hg : TurnW w' w'' S) (hB : B ≤ w'.heap.size) (hr : ∀ q, S q → B ≤ q) : Below B w w'' :=
  h.trans ⟨hg.os, hg.tape, hg.output, hg.size, fun k hk => hg.block k (by omega) (fun e => by have := hr k e; omega)⟩
theorem turned_of {w w' : World} {r : Option Nat} (h : w.grownBy w' r) : TurnW w w' (fun q => r = some q) := ⟨h.os, h.tape, h.output, h.size, fun k hk h1 => h.block k hk (fun e => h1 e.symm)⟩
theorem turned_below {w w' : World} {S : Nat → Prop} (h : Below w.heap.size w w') : TurnW w w' S := ⟨h.os, h.tape, h.output, h.size, fun k hk _ => h.block k hk⟩
theorem TurnW.trans {w w' w'' : World} {S S' : Nat → Prop} (h : TurnW w w' S) (h' : TurnW w' w'' S') : TurnW w w'' (fun q => S q ∨ S' q) :=
  ⟨h'.os.trans h.os, h'.tape.trans h.tape, h'.output.trans h.output, Nat.le_trans h.size h'.size, fun k hk hn => (h'.block k (Nat.lt_of_lt_of_le hk h.size) (fun e => hn (.inr e))).trans (h.block k hk (fun e => hn (.inl e)))⟩
theorem TurnW.more {w w' : World} {S S' : Nat → Prop} (h : TurnW w w' S) (hs : ∀ q, S q → q < w.heap.size → S' q) : TurnW w w' S' :=
  ⟨h.os, h.tape, h.output, h.size, fun k hk hn => h.block k hk (fun e => hn (hs k e hk))⟩
theorem own_turned {w w' : World} {B e sz n c : Nat} {A : Option Addr} {xs : List Value} {S : Nat → Prop} (h : w.ownsRow B e sz (.slice A n c) n xs) (hg : TurnW w w' S) (hs : ∀ k, Value.ownBlock (.slice A n c) = some k → ¬ S k) : w'.ownsRow B e sz (.slice A n c) n xs := by
  have hl := World.ownsRow.lt h
  obtain ⟨g1, g2⟩ := h
  refine ⟨g1, ?_⟩
  rcases g2 with g2 | ⟨g, cap, cur, hv, hg2, hh, r⟩
  · exact Or.inl g2
  · rw [hv] at hl hs
    exact Or.inr ⟨g, cap, cur, hv, hg2, by rw [hg.block g (hl g rfl).2 (hs g rfl)]; exact hh, r⟩
theorem OwnK.turned {w w' : World} {B : Nat} {V : DV} {D : DK} {S : Nat → Prop} (h : OwnK w B V D) (hg : TurnW w w' S) (hs : ∀ q, V.has D q → ¬ S q) : OwnK w' B V D :=
  ⟨own_turned h.pl hg fun k hk => hs k (.inl hk), own_turned h.ps hg fun k hk => hs k (.inr (.inl hk)), own_turned h.po hg fun k hk => hs k (.inr (.inr hk)), h.ne⟩
theorem own_turned3 {w w' : World} {g : Nat} {t : TypeId} {a b c : Value} {S : Nat → Prop} (h : Row3 w g t a b c) (hg : TurnW w w' S) (hs : ¬ S g) : Row3 w' g t a b c :=
  own_turned h hg fun k hk => by cases hk; exact hs
theorem Row3.lt {w : World} {g : Nat} {t : TypeId} {a b c : Value} (h : Row3 w g t a b c) : g < w.heap.size := (World.ownsRow.lt h g rfl).2
theorem own3_set {w : World} {g : Nat} {t : TypeId} {a b d : Value} {B e sz n c : Nat} {A : Option Addr} {xs : List Value} (h : w.ownsRow B e sz (.slice A n c) n xs) (h' : Row3 w g t a b d) (hg : g < B) (j : Nat) (v : Value) : (w.setCell ⟨g, j, none⟩ v).ownsRow B e sz (.slice A n c) n xs := by
  refine h.kept (h'.stored j v).2 ?_
  rcases h.2 with ⟨hv, _⟩ | ⟨g2, cap, cur, hv, hb, _⟩
  · left
    rw [hv]; rfl
  · right
    rw [hv]
    simp [Value.ownBlock]
    omega
theorem own_below {w w' : World} {B e sz n c : Nat} {A : Option Addr} {xs : List Value} (h : w.ownsRow B e sz (.slice A n c) n xs) (hb : Below w.heap.size w w') : w'.ownsRow B e sz (.slice A n c) n xs :=
  own_turned h (turned_below (S := fun _ => False) hb) fun _ _ e => e
theorem own_mono {w : World} {B B' e sz n c : Nat} {A : Option Addr} {xs : List Value} (h : w.ownsRow B e sz (.slice A n c) n xs) (hB : B' ≤ B) : w.ownsRow B' e sz (.slice A n c) n xs := by
  refine ⟨h.1, ?_⟩
  rcases h.2 with hn | ⟨g, cap, cur, hv, hb, r⟩
  · exact .inl hn
  · exact .inr ⟨g, cap, cur, hv, by omega, r⟩

theorem own_neD {w : World} {B B' s s' n n' : Nat} {e e' : TypeId} {v v' : Value} {xs xs' : List Value} (hne : e ≠ e') (h : w.ownsRow B e s v n xs) (h' : w.ownsRow B' e' s' v' n' xs') : ∀ k, v.ownBlock = some k → v'.ownBlock ≠ some k := by
  intro k h1 h2
  rcases h.2 with ⟨hv, _⟩ | ⟨g, cap, cur, hv, _, hh, _⟩
  · subst hv; cases h1
  rcases h'.2 with ⟨hv', _⟩ | ⟨g', cap', cur', hv', _, hh', _⟩
  · subst hv'; cases h2
  subst hv hv'
  injection h1 with h1
  injection h2 with h2
  subst h1
  have h2' : g' = g := h2
  subst h2'
  rw [hh] at hh'
  injection hh' with hh'
  injection hh' with _ hh'
  exact hne hh'

/-! ### sizes -/
def SzPostK (D : DK) (m : Int) (w : World) (e : Ending) (w' : World) : Prop :=
  ∃ r : Int, e = .returned (.int .i64 r) ∧ -1 ≤ r ∧ r ≤ m ∧ (0 ≤ r → LenK D 1048576 ∧ SmallK D 1048576) ∧ Below w.heap.size w w'
theorem smallP_of {ps : PS} {l : Int} (h : Small ps l) (hl : l ≤ 1048576) : SmallP ps 1048576 := fun p hp => by have := h p hp; omega
theorem smallD_of {hs : DS} {l : Int} (h : SmallD hs l) (hl : l ≤ 1048576) : ∀ x ∈ hs, SmallX x 1048576 := fun x hx => by have := h x hx; unfold SmallX; omega

set_option maxHeartbeats 2000000 in
theorem szDisk_any (V : DV) (D : DK) (m : Int) (w : World) (hr : RK w w.heap.size V D) (hf : FitsK D) (hn : LenK D maxLen) (h0 : 0 ≤ m) (h1 : m ≤ 1048576) :
    Calls Try.prog 10 #[.agg #[.slice V.A D.live.length V.c, .slice V.K D.safe.length V.d, .slice V.O D.ops.length V.o], .int .i64 m] w (SzPostK D m w) := by
  have hb0 : Below w.heap.size w (w.alloc (.cells #[.slice V.A D.live.length V.c, .slice V.K D.safe.length V.d, .slice V.O D.ops.length V.o] 25)) := (Below.refl _ _).alloc (Nat.le_refl _) _
  have hx0 := Row3.lit w 25 (.slice V.A D.live.length V.c) (.slice V.K D.safe.length V.d) (.slice V.O D.ops.length V.o)
  have HB := hid hb0
  have X := hid hx0
  have HR := hid ((hr.below hb0).more hb0.size)
  have HF := hid hf
  have HN := hid hn
  clear hr hf hn hb0 hx0
  go_enter Try.func10, Try.ntmps10
  go_wp2_with fail
  generalize hgq : w.alloc (.cells #[.slice V.A D.live.length V.c, .slice V.K D.safe.length V.d, .slice V.O D.ops.length V.o] 25) = w0 at *
  clear hgq
  refine (szPairS_anyF V.A V.c D.live m _ HR.out.1 HF.out.1 HN.out.1 h0 h1).mono ?_
  rintro e w1 ⟨r, rfl, hr1, hr2, hr3, hb1⟩
  have H3 := hid hr3
  have HB1 := hid hb1
  clear hr3 hb1
  have x1 := (X.out.below HB1.out).c1
  by_cases hneg : r < 0
  · go_wp2_with fail
    go_ret
    exact ⟨-1, rfl, by omega, by omega, fun h => by omega, HB.out.trans (HB1.out.mono HB.out.size)⟩
  go_wp2_with fail
  clear x1
  refine (szPairS_anyF V.K V.d D.safe r _ ((HR.out.2.1.below HB1.out).more HB1.out.size) HF.out.2.1 HN.out.2.1 (by omega) (by omega)).mono ?_
  rintro e w2 ⟨q, rfl, hq1, hq2, hq3, hb2⟩
  have H4 := hid hq3
  have HB2 := hid (HB1.out.trans (hb2.mono HB1.out.size))
  clear hq3 hb2
  have x2 := (X.out.below HB2.out).c2
  by_cases hneg2 : q < 0
  · go_wp2_with fail
    go_ret
    exact ⟨-1, rfl, by omega, by omega, fun h => by omega, HB.out.trans (HB2.out.mono HB.out.size)⟩
  go_wp2_with fail
  clear x2
  refine (szDOpS_any V.O V.o D.ops q _ ((HR.out.2.2.below HB2.out).more HB2.out.size) HF.out.2.2 HN.out.2.2 (by omega) (by omega)).mono ?_
  rintro e w3 ⟨p, rfl, hp1, hp2, hp3, hb3⟩
  have H5 := hid hp3
  have HB3 := hid (HB2.out.trans (hb3.mono HB2.out.size))
  clear hp3 hb3
  by_cases hneg3 : p < 0
  · go_wp2_with fail
    go_ret
    exact ⟨-1, rfl, by omega, by omega, fun h => by omega, HB.out.trans (HB3.out.mono HB.out.size)⟩
  go_wp2_with fail
  go_ret
  have a1 := H3.out (by omega)
  have a2 := H4.out (by omega)
  have a3 := H5.out (by omega)
  exact ⟨_, rfl, by omega, by omega, fun h => ⟨⟨by omega, by omega, by omega⟩, smallP_of a1.2 (by omega), smallP_of a2.2 (by omega), smallD_of a3.2 (by omega)⟩, HB.out.trans (HB3.out.mono HB.out.size)⟩

/-! ### copies -/
/-- A disk of the call's own. -/
def MadeK (w : World) (B : Nat) (D : DK) (e : Ending) (w' : World) : Prop :=
  ∃ V : DV, e = .returned (.agg #[.slice V.A D.live.length V.c, .slice V.K D.safe.length V.d, .slice V.O D.ops.length V.o]) ∧ OwnK w' B V D ∧ Below w.heap.size w w'

set_option maxHeartbeats 4000000 in
theorem toDisk_any (V : DV) (D : DK) (w : World) (hr : RK w w.heap.size V D) (hn : LenK D 1048576) :
    Calls Try.prog 13 #[.agg #[.slice V.A D.live.length V.c, .slice V.K D.safe.length V.d, .slice V.O D.ops.length V.o]] w (MadeK w w.heap.size D) := by
  have HR := hid hr
  obtain ⟨h1, h2, h3⟩ := rows_three w (.cells #[.slice V.A D.live.length V.c, .slice V.K D.safe.length V.d, .slice V.O D.ops.length V.o] 25) 33 (.slice none 0 0) (.slice none 0 0) (.slice none 0 0) (.slice none 0 0) (.slice none 0 0) (.slice none 0 0)
  have h0 := (Row3.lit w 25 (.slice V.A D.live.length V.c) (.slice V.K D.safe.length V.d) (.slice V.O D.ops.length V.o)).below (((Below.refl _ _).alloc (Nat.le_refl _) (.cells #[.slice none 0 0, .slice none 0 0, .slice none 0 0] 33)).alloc (by simp) (.cells #[.slice none 0 0, .slice none 0 0, .slice none 0 0] 33))
  have H0 := hid h0
  have H1 := hid h1
  have H2 := hid h2
  have H3 := hid h3
  clear hr h0 h1 h2 h3
  go_enter Try.func13, Try.ntmps13
  go_wp2_with fail
  refine (toPairS_anyF V.A V.c D.live _ ((HR.out.1.below H3.out).more H3.out.size) hn.1).mono ?_
  rintro e w4 ⟨A4, c4, rfl, ho4, hb4⟩
  have hsz4 : w.heap.size + 3 ≤ w4.heap.size := by have := hb4.size; simpa using this
  have R0 := hid (H0.out.below hb4)
  have R1 := hid (H1.out.below hb4)
  have R2 := hid (H2.out.below hb4)
  have HB4 := hid (H3.out.trans (hb4.mono H3.out.size))
  have HLT := hid (World.ownsRow.lt ho4)
  have HO4 := hid (own_mono (own3_set ho4 R2.out (by simp) 0 (.slice A4 D.live.length c4)) (by first | (simp; done) | (simp; omega) : w.heap.size + 3 ≤ _))
  clear ho4 hb4
  have x1 := R0.out.c1
  have d1 := R2.out.c0
  have f1 := R2.out.fz 0
  go_wp2_with fail
  clear x1 d1 f1
  have S0 := hid (R0.out.other R2.out (by omega) 0 (.slice A4 D.live.length c4))
  have S1 := hid (R1.out.other R2.out (by omega) 0 (.slice A4 D.live.length c4))
  have S2 := hid (R2.out.s0 (.slice A4 D.live.length c4))
  have SB := hid (HB4.out.setCell (p := ⟨w.heap.size + 1 + 1, 0, none⟩) (by simp; omega) (.slice A4 D.live.length c4))
  have SZ : (w4.setCell ⟨w.heap.size + 1 + 1, 0, none⟩ (.slice A4 D.live.length c4)).heap.size = w4.heap.size := by simp
  refine (toPairS_anyF V.K V.d D.safe _ ((HR.out.2.1.below SB.out).more SB.out.size) hn.2.1).mono ?_
  rintro e w5 ⟨K5, d5, rfl, ho5, hb5⟩
  have hsz5 : w4.heap.size ≤ w5.heap.size := by have := hb5.size; omega
  have Q0 := hid (S0.out.below hb5)
  have Q1 := hid (S1.out.below hb5)
  have Q2 := hid (S2.out.below hb5)
  have HB5 := hid (SB.out.trans (hb5.mono SB.out.size))
  have HLT5 := hid (World.ownsRow.lt ho5)
  have HO5 := hid (own3_set (own_below HO4.out hb5) Q2.out (by omega) 1 (.slice K5 D.safe.length d5))
  have HI5 := hid (own_mono (own3_set ho5 Q2.out (by omega) 1 (.slice K5 D.safe.length d5)) (by omega : w4.heap.size ≤ _))
  clear ho5 hb5
  have x2 := Q0.out.c2
  have d2 := Q2.out.c1
  have f2 := Q2.out.fz 1
  go_wp2_with fail
  clear x2 d2 f2
  have T0 := hid (Q0.out.other Q2.out (by omega) 1 (.slice K5 D.safe.length d5))
  have T1 := hid (Q1.out.other Q2.out (by omega) 1 (.slice K5 D.safe.length d5))
  have T2 := hid (Q2.out.s1 (.slice K5 D.safe.length d5))
  have TB := hid (HB5.out.setCell (p := ⟨w.heap.size + 1 + 1, 1, none⟩) (by simp; omega) (.slice K5 D.safe.length d5))
  have TZ : (w5.setCell ⟨w.heap.size + 1 + 1, 1, none⟩ (.slice K5 D.safe.length d5)).heap.size = w5.heap.size := by simp
  refine (toDOpS_any V.O V.o D.ops _ ((HR.out.2.2.below TB.out).more TB.out.size) hn.2.2).mono ?_
  rintro e w6 ⟨O6, o6, rfl, ho6, hb6⟩
  have hsz6 : w5.heap.size ≤ w6.heap.size := by have := hb6.size; omega
  have P1 := hid (T1.out.below hb6)
  have P2 := hid (T2.out.below hb6)
  have HB6 := hid (TB.out.trans (hb6.mono TB.out.size))
  have HO6 := hid (own_below HO5.out hb6)
  have HI6 := hid (own_below HI5.out hb6)
  have HJ6 := hid (own_mono ho6 (by omega : w5.heap.size ≤ _))
  clear ho6 hb6
  have x0 := P2.out.c0
  have x1 := P2.out.c1
  have x2 := P2.out.c2
  have f2 := P2.out.fz 2
  have y0 := P1.out.c0
  have y1 := P1.out.c1
  have y2 := P1.out.c2
  have g0 := P1.out.fz 0
  have g1 := P1.out.fz 1
  have g2 := P1.out.fz 2
  go_wp2_with fail
  have U2 := P2.out.s2 (.slice O6 D.ops.length o6)
  have U1 := P1.out.other P2.out (by omega) 2 (.slice O6 D.ops.length o6)
  have a0 := own3_set HO6.out P2.out (by omega) 2 (.slice O6 D.ops.length o6)
  have b0 := own3_set HI6.out P2.out (by omega) 2 (.slice O6 D.ops.length o6)
  have e0 := own3_set HJ6.out P2.out (by omega) 2 (.slice O6 D.ops.length o6)
  have B0 := HB6.out.setCell (p := ⟨w.heap.size + 1 + 1, 2, none⟩) (by simp; omega) (.slice O6 D.ops.length o6)
  have U3 := U1.s0 (.slice A4 D.live.length c4)
  have U4 := U3.s1 (.slice K5 D.safe.length d5)
  refine world_post (S := fun wq => Row3 wq (w.heap.size + 1) 33 (.slice A4 D.live.length c4) (.slice K5 D.safe.length d5) (.slice O6 D.ops.length o6) ∧ OwnK wq w.heap.size ⟨A4, c4, K5, d5, O6, o6⟩ D ∧ Below w.heap.size w wq) _
    ⟨U4.s2 _, ⟨own_mono (own3_set (own3_set (own3_set a0 U1 (by omega) 0 _) U3 (by omega) 1 _) U4 (by omega) 2 _) (by omega), own_mono (own3_set (own3_set (own3_set b0 U1 (by omega) 0 _) U3 (by omega) 1 _) U4 (by omega) 2 _) (by omega), own_mono (own3_set (own3_set (own3_set e0 U1 (by omega) 0 _) U3 (by omega) 1 _) U4 (by omega) 2 _) (by omega),
      fun q h1 h2 => by have := HLT.out q h1; have := HLT5.out q h2; omega⟩,
      ((B0.setCell (p := ⟨w.heap.size + 1, 0, none⟩) (by simp) _).setCell (p := ⟨w.heap.size + 1, 1, none⟩) (by simp) _).setCell (p := ⟨w.heap.size + 1, 2, none⟩) (by simp) _⟩ ?_
  clear x0 x1 x2 f2 y0 y1 y2 g0 g1 g2 U1 U2 U3 U4 a0 b0 e0 B0
  intro wq ⟨hq, hp, hb⟩
  have q0 := hq.c0
  have q1 := hq.c1
  have q2 := hq.c2
  exact bodyPost_ret (v := .agg #[.slice A4 D.live.length c4, .slice K5 D.safe.length d5, .slice O6 D.ops.length o6]) (by simp [results, Try.results13, go_sem, q0, q1, q2]) rfl ⟨⟨A4, c4, K5, d5, O6, o6⟩, rfl, hp, hb⟩

/-! ### comparisons, of disks that are alike -/
theorem eqFileS_same (A A' : Option Addr) (c c' : Nat) (ps : PS) (w : World) (hr : RP w w.heap.size A ps) (hr' : RP w w.heap.size A' ps) (hn : ps.length ≤ maxLen) :
    Calls Try.prog 54 #[.slice A ps.length c, .slice A' ps.length c'] w fun e w' => e = .returned (.bool true) ∧ Below w.heap.size w w' := by
  refine (eqPairS_anyF A A' c c' ps ps w hr hr' hn).mono ?_
  rintro e w' ⟨rfl, hb⟩
  exact ⟨by simp, hb⟩

set_option maxHeartbeats 2000000 in
theorem eqDisk_same (V V' : DV) (D : DK) (w : World) (hr : RK w w.heap.size V D) (hr' : RK w w.heap.size V' D) (hn : LenK D maxLen) :
    Calls Try.prog 16 #[.agg #[.slice V.A D.live.length V.c, .slice V.K D.safe.length V.d, .slice V.O D.ops.length V.o], .agg #[.slice V'.A D.live.length V'.c, .slice V'.K D.safe.length V'.d, .slice V'.O D.ops.length V'.o]] w fun e w' => e = .returned (.bool true) ∧ Below w.heap.size w w' := by
  have hb0 : Below w.heap.size w ((w.alloc (.cells #[.slice V.A D.live.length V.c, .slice V.K D.safe.length V.d, .slice V.O D.ops.length V.o] 33)).alloc (.cells #[.slice V'.A D.live.length V'.c, .slice V'.K D.safe.length V'.d, .slice V'.O D.ops.length V'.o] 33)) := ((Below.refl _ _).alloc (Nat.le_refl _) _).alloc (by simp) _
  have hx0 := (Row3.lit w 33 (.slice V.A D.live.length V.c) (.slice V.K D.safe.length V.d) (.slice V.O D.ops.length V.o)).below ((Below.refl _ _).alloc (Nat.le_refl _) (.cells #[.slice V'.A D.live.length V'.c, .slice V'.K D.safe.length V'.d, .slice V'.O D.ops.length V'.o] 33))
  have hy0 := Row3.lit (w.alloc (.cells #[.slice V.A D.live.length V.c, .slice V.K D.safe.length V.d, .slice V.O D.ops.length V.o] 33)) 33 (.slice V'.A D.live.length V'.c) (.slice V'.K D.safe.length V'.d) (.slice V'.O D.ops.length V'.o)
  rw [World.size_alloc] at hy0
  have HB := hid hb0
  have X := hid hx0
  have Y := hid hy0
  have HR := hid ((hr.below hb0).more hb0.size)
  have HQ := hid ((hr'.below hb0).more hb0.size)
  have HN := hid hn
  clear hr hr' hn hb0 hx0 hy0
  go_enter Try.func16, Try.ntmps16
  go_wp2_with fail
  generalize hgq : (w.alloc (.cells #[.slice V.A D.live.length V.c, .slice V.K D.safe.length V.d, .slice V.O D.ops.length V.o] 33)).alloc (.cells #[.slice V'.A D.live.length V'.c, .slice V'.K D.safe.length V'.d, .slice V'.O D.ops.length V'.o] 33) = w0 at *
  clear hgq
  refine (eqFileS_same V.A V'.A V.c V'.c D.live _ HR.out.1 HQ.out.1 HN.out.1).mono ?_
  rintro e w1 ⟨rfl, hb1⟩
  have x1 := (X.out.below hb1).c1
  have y1 := (Y.out.below hb1).c1
  have HB1 := hid hb1
  clear hb1
  go_wp2_with fail
  clear x1 y1
  refine (eqFileS_same V.K V'.K V.d V'.d D.safe _ ((HR.out.2.1.below HB1.out).more HB1.out.size) ((HQ.out.2.1.below HB1.out).more HB1.out.size) HN.out.2.1).mono ?_
  rintro e w2 ⟨rfl, hb2⟩
  have HB2 := hid (HB1.out.trans (hb2.mono HB1.out.size))
  clear hb2
  have x2 := (X.out.below HB2.out).c2
  have y2 := (Y.out.below HB2.out).c2
  go_wp2_with fail
  clear x2 y2
  refine (eqDOpS_same V.O V'.O V.o V'.o D.ops _ ((HR.out.2.2.below HB2.out).more HB2.out.size) ((HQ.out.2.2.below HB2.out).more HB2.out.size) HN.out.2.2).mono ?_
  rintro e w3 ⟨rfl, hb3⟩
  have HB3 := hid (HB2.out.trans (hb3.mono HB2.out.size))
  clear hb3
  go_wp2_with fail
  go_ret
  exact ⟨rfl, HB.out.trans (HB3.out.mono HB.out.size)⟩

/-! ### marks -/
def marksK (D : DK) (k : Nat) : DK := ⟨marksL D.live.length k, marksL D.safe.length (k + 2 * D.live.length), marksD D.ops.length (k + 2 * D.live.length + 2 * D.safe.length)⟩
theorem marksK_l (D : DK) (k : Nat) : (marksK D k).live.length = D.live.length := marksL_len _ _
theorem marksK_s (D : DK) (k : Nat) : (marksK D k).safe.length = D.safe.length := marksL_len _ _
theorem marksK_o (D : DK) (k : Nat) : (marksK D k).ops.length = D.ops.length := marksD_len _ _
def numK (D : DK) (k : Nat) : Nat := k + 2 * D.live.length + 2 * D.safe.length + 4 * D.ops.length
/-- What markDisk leaves. -/
structure MarkK (B : Nat) (V : DV) (D : DK) (k : Nat) (w : World) (e : Ending) (w' : World) : Prop where
  ret : e = .returned (.int .i64 ((numK D k : Nat) : Int))
  own : OwnK w' B V (marksK D k)
  turned : TurnW w w' (V.has D)
theorem has_marks {V : DV} {D : DK} {k q : Nat} : V.has (marksK D k) q ↔ V.has D q := by
  unfold DV.has
  rw [marksK_l, marksK_s, marksK_o]

set_option maxHeartbeats 2000000 in
set_option maxRecDepth 100000 in
theorem markDisk_any (B : Nat) (V : DV) (D : DK) (k : Nat) (w : World) (ho : OwnK w B V D) (hn : LenK D 2000000) (hk : k ≤ 1000000000000) :
    Calls Try.prog 17 #[.agg #[.slice V.A D.live.length V.c, .slice V.K D.safe.length V.d, .slice V.O D.ops.length V.o], .int .i64 (k : Int)] w (MarkK B V D k w) := by
  obtain ⟨hn1, hn2, hn3⟩ := hn
  have a0 := Row3.lit w 33 (.slice V.A D.live.length V.c) (.slice V.K D.safe.length V.d) (.slice V.O D.ops.length V.o)
  have X := hid a0
  have HB1 := hid ((Below.refl w.heap.size w).alloc (Nat.le_refl _) (.cells #[.slice V.A D.live.length V.c, .slice V.K D.safe.length V.d, .slice V.O D.ops.length V.o] 33))
  have HO := hid (ho.below HB1.out)
  have HLT := hid (fun q => ho.lt (q := q))
  clear a0 ho
  go_enter Try.func17, Try.ntmps17
  go_wp2_with fail
  have HS1 : Hid ((w.alloc (.cells #[.slice V.A D.live.length V.c, .slice V.K D.safe.length V.d, .slice V.O D.ops.length V.o] 33)).heap.size = w.heap.size + 1) := by rw [Hid]; simp
  generalize hw1 : w.alloc (.cells #[.slice V.A D.live.length V.c, .slice V.K D.safe.length V.d, .slice V.O D.ops.length V.o] 33) = w1 at *
  clear hw1
  refine (markPairS_anyF B V.A V.c D.live k w1 HO.out.pl hn1 (by omega)).mono ?_
  rintro e w2 ⟨rfl, ho2, hg2⟩
  have HT2 := hid (turned_of hg2)
  have X2 := hid (own_turned3 X.out HT2.out (fun e => Nat.lt_irrefl _ (HLT.out _ (.inl e)).2))
  have M2 := hid ho2
  have P2 := hid (own_turned HO.out.ps HT2.out (fun q hq e => HO.out.ne q e hq))
  have D2 := hid (own_turned HO.out.po HT2.out (fun q hq e => own_neD (by decide) HO.out.po HO.out.pl q hq e))
  have x1 := X2.out.c1
  clear ho2 hg2
  go_wp2_with fail
  clear x1
  refine (markPairS_anyF B V.K V.d D.safe (k + 2 * D.live.length) w2 P2.out hn2 (by omega)).mono ?_
  rintro e w3 ⟨rfl, ho3, hg3⟩
  have HT3 := hid (turned_of hg3)
  have X3 := hid (own_turned3 X2.out HT3.out (fun e => Nat.lt_irrefl _ (HLT.out _ (.inr (.inl e))).2))
  have M3 := hid ho3
  have L3 := hid (own_turned M2.out HT3.out (fun q hq e => HO.out.ne q hq e))
  have D3 := hid (own_turned D2.out HT3.out (fun q hq e => own_neD (by decide) HO.out.po HO.out.ps q hq e))
  have x2 := X3.out.c2
  clear ho3 hg3
  go_wp2_with fail
  clear x2
  refine (markDOpS_any B V.O V.o D.ops (k + 2 * D.live.length + 2 * D.safe.length) w3 D3.out hn3 (by omega)).mono ?_
  rintro e w4 ⟨rfl, ho4, hg4⟩
  have HT4 := hid (turned_of hg4)
  have M4 := hid ho4
  have L4 := hid (own_turned L3.out HT4.out (fun q hq e => own_neD (by decide) HO.out.pl HO.out.po q hq e))
  have S4 := hid (own_turned M3.out HT4.out (fun q hq e => own_neD (by decide) HO.out.ps HO.out.po q hq e))
  clear ho4 hg4
  go_wp2_with fail
  go_ret
  refine ⟨rfl, ⟨?_, ?_, M4.out, ?_⟩, ?_⟩
  · have := L4.out
    unfold OwnPF
    rw [marksK_l]
    exact this
  · have := S4.out
    unfold OwnPF
    rw [marksK_s]
    exact this
  · rw [marksK_l, marksK_s]
    exact HO.out.ne
  · refine (((turned_below (S := fun _ => False) HB1.out).trans HT2.out).trans (HT3.out.trans HT4.out)).more ?_
    rintro q ((h | h) | (h | h)) _
    · exact h.elim
    · exact .inl h
    · exact .inr (.inl h)
    · exact .inr (.inr h)

set_option maxHeartbeats 2000000 in
set_option maxRecDepth 100000 in
theorem heldDisk_any (V : DV) (D : DK) (k : Nat) (w : World) (hr : RK w w.heap.size V (marksK D k)) (hn : LenK D 2000000) (hk : k ≤ 1000000000000) :
    Calls Try.prog 18 #[.agg #[.slice V.A D.live.length V.c, .slice V.K D.safe.length V.d, .slice V.O D.ops.length V.o], .int .i64 (k : Int)] w fun e w' => e = .returned (.int .i64 ((numK D k : Nat) : Int)) ∧ Below w.heap.size w w' := by
  obtain ⟨hn1, hn2, hn3⟩ := hn
  have a0 := Row3.lit w 33 (.slice V.A D.live.length V.c) (.slice V.K D.safe.length V.d) (.slice V.O D.ops.length V.o)
  have X := hid a0
  have HB1 := hid ((Below.refl w.heap.size w).alloc (Nat.le_refl _) (.cells #[.slice V.A D.live.length V.c, .slice V.K D.safe.length V.d, .slice V.O D.ops.length V.o] 33))
  have HR := hid ((hr.below HB1.out).more HB1.out.size)
  clear a0 hr
  go_enter Try.func18, Try.ntmps18
  go_wp2_with fail
  generalize hw1 : w.alloc (.cells #[.slice V.A D.live.length V.c, .slice V.K D.safe.length V.d, .slice V.O D.ops.length V.o] 33) = w1 at *
  clear hw1
  refine (heldPairS_anyF V.A V.c D.live.length k w1 HR.out.1 hn1 (by omega)).mono ?_
  rintro e w2 ⟨rfl, hb2⟩
  have x1 := (X.out.below hb2).c1
  have HB2 := hid hb2
  have e1 : ¬ ((k + 2 * D.live.length : Nat) : Int) < 0 := by omega
  clear hb2
  go_wp2_with fail
  clear x1
  refine (heldPairS_anyF V.K V.d D.safe.length (k + 2 * D.live.length) w2 ((HR.out.2.1.below HB2.out).more HB2.out.size) hn2 (by omega)).mono ?_
  rintro e w3 ⟨rfl, hb3⟩
  have HB3 := hid (HB2.out.trans (hb3.mono HB2.out.size))
  have x2 := (X.out.below HB3.out).c2
  have e2 : ¬ ((k + 2 * D.live.length + 2 * D.safe.length : Nat) : Int) < 0 := by omega
  clear hb3
  go_wp2_with fail
  clear x2
  refine (heldDOpS_any V.O V.o D.ops.length (k + 2 * D.live.length + 2 * D.safe.length) w3 ((HR.out.2.2.below HB3.out).more HB3.out.size) hn3 (by omega)).mono ?_
  rintro e w4 ⟨rfl, hb4⟩
  have HB4 := hid (HB3.out.trans (hb4.mono HB3.out.size))
  have e3 : ¬ ((k + 2 * D.live.length + 2 * D.safe.length + 4 * D.ops.length : Nat) : Int) < 0 := by omega
  clear hb4
  go_wp2_with fail
  go_ret
  exact ⟨rfl, HB1.out.trans (HB4.out.mono HB1.out.size)⟩
end Go.Proofs.Ytaiehccpefjbfaa
