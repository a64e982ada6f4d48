/-
  Replace: what it answers, plain; a block that holds a disk's three lists, stored anew.
  The model's Replace: contract (tools/mkdskq.py).
  layOps and the program's Replace: contracts (tools/mkdskw.py).
-/
import Derived.Test.YtnhipiafnijdnaaDskB
namespace Go.Proofs.Ytnhipiafnijdnaa
open Go.RowKit Go.Shelf

def newB : ByteArray := ⟨#[46, 110, 101, 119]⟩
/-- The steps of Replace. -/
def layL (D : DK) (f d : ByteArray) : DS := if hasK D.live f then [((3 : Int), f, ⟨#[]⟩, ⟨#[]⟩), ((1 : Int), f, ⟨#[]⟩, d)] else [((1 : Int), f, ⟨#[]⟩, d)]
def repL (D : DK) (n d : ByteArray) : DS := layL D (n ++ newB) d ++ [((2 : Int), n ++ newB, n, ⟨#[]⟩)]
def seqD : DK → DS → DK × Int
  | D, [] => (D, 0)
  | D, x :: r => if actC D x = 0 then seqD (actD D x) r else (D, actC D x)
def repC (D : DK) (n d : ByteArray) : Int := if diskD D then (seqD D (repL D n d)).2 else 1
def repR (D : DK) (n d : ByteArray) : DK := if diskD D then (if (seqD D (repL D n d)).2 = 0 then (seqD D (repL D n d)).1 else D) else ⟨[], [], []⟩
theorem seq_yes {D : DK} {x : DD} {r : DS} (h : actC D x = 0) : seqD D (x :: r) = seqD (actD D x) r := by rw [seqD, if_pos h]
theorem seq_no {D : DK} {x : DD} {r : DS} (h : actC D x ≠ 0) : seqD D (x :: r) = (D, actC D x) := by rw [seqD, if_neg h]
theorem rep_no {D E : DK} {n d : ByteArray} {c : Int} (hd : diskD D = true) (h : seqD D (repL D n d) = (E, c)) (hc : c ≠ 0) : repC D n d = c ∧ repR D n d = D := by
  simp [repC, repR, hd, h, hc]
theorem rep_yes {D E : DK} {n d : ByteArray} (hd : diskD D = true) (h : seqD D (repL D n d) = (E, 0)) : repC D n d = 0 ∧ repR D n d = E := by
  simp [repC, repR, hd, h]
theorem repL_has {D : DK} {n d : ByteArray} (h : hasK D.live (n ++ newB) = true) : repL D n d = [((3 : Int), n ++ newB, ⟨#[]⟩, ⟨#[]⟩), ((1 : Int), n ++ newB, ⟨#[]⟩, d), ((2 : Int), n ++ newB, n, ⟨#[]⟩)] := by simp [repL, layL, h]
theorem repL_none {D : DK} {n d : ByteArray} (h : hasK D.live (n ++ newB) = false) : repL D n d = [((1 : Int), n ++ newB, ⟨#[]⟩, d), ((2 : Int), n ++ newB, n, ⟨#[]⟩)] := by simp [repL, layL, h]
theorem playD_snoc : ∀ {ops : DS} {l m : PS} {x : DD}, playD l ops = some m → formB x = true → (onD m x).2 = true → fitB (onD m x).1 = true → playD l (ops ++ [x]) = some (onD m x).1
  | [], l, m, x, h, h1, h2, h3 => by
    simp only [playD, Option.some.injEq] at h
    subst h
    simp [playD, h1, h2, h3]
  | y :: r, l, m, x, h, h1, h2, h3 => by
    rw [List.cons_append]
    unfold playD at h ⊢
    split at h
    · rename_i hc
      rw [if_pos hc]
      exact playD_snoc h h1 h2 h3
    · cases h
theorem act_zero {D : DK} {x : DD} (h : actC D x = 0) : formB x = true ∧ (onD D.live x).2 = true ∧ D.ops.length < 200 ∧ fitB (onD D.live x).1 = true := by
  unfold actC at h
  split at h
  · rename_i h1
    split at h
    · rename_i h2
      split at h
      · rename_i h3
        simp only [Bool.and_eq_true, decide_eq_true_eq] at h3
        exact ⟨h1, h2, h3.1, h3.2⟩
      · omega
    · omega
  · omega
theorem act_disk {D : DK} {x : DD} (hd : diskD D = true) (h : actC D x = 0) : diskD (actD D x) = true := by
  obtain ⟨h1, h2, h3, h4⟩ := act_zero h
  rw [(act_ok h1 h2 h3 h4).2]
  obtain ⟨g1, g2, g3⟩ := diskB_iff.1 hd
  exact diskB_iff.2 ⟨g1, by simp; omega, playD_snoc g3 h1 h2 h4⟩
theorem repR_len (D : DK) (n d : ByteArray) : LenK (repR D n d) 1000 := by
  have key : ∀ (r : DS) (E : DK), diskD E = true → LenK (seqD E r).1 200 := by
    intro r
    induction r with
    | nil => intro E h; exact diskD_len h
    | cons x r ih =>
      intro E h
      by_cases hc : actC E x = 0
      · rw [seq_yes hc]
        exact ih _ (act_disk h hc)
      · rw [seq_no hc]
        exact diskD_len h
  unfold repR
  split
  · rename_i hd
    split
    · exact (key _ D hd).more (by decide)
    · exact (diskD_len hd).more (by decide)
  · exact ⟨Nat.zero_le _, Nat.zero_le _, Nat.zero_le _⟩
theorem newB_size : newB.size = 4 := rfl
theorem small_1 {f d : ByteArray} {k : Int} (h : f.size ≤ 4000000) (h2 : d.size ≤ 4000000) : SmallX (k, f, ⟨#[]⟩, d) 4000000 := ⟨h, Nat.zero_le _, h2⟩
theorem small_2 {f d : ByteArray} {k : Int} (h : f.size ≤ 4000000) (h2 : d.size ≤ 4000000) : SmallX (k, f, d, ⟨#[]⟩) 4000000 := ⟨h, h2, Nat.zero_le _⟩

/-- A block of three cells, stored anew. -/
structure Stored (w0 w : World) (g : Nat) (t : TypeId) (x y z : Value) (w' : World) : Prop where
  row : Row3 w' g t x y z
  other : ∀ (g' : Nat) (t' : TypeId) (a b d : Value), Row3 w g' t' a b d → g' ≠ g → Row3 w' g' t' a b d
  below : w0.heap.size ≤ g → Below w0.heap.size w0 w → Below w0.heap.size w0 w'
  size : w'.heap.size = w.heap.size
theorem stored3 {w0 w : World} {g : Nat} {t : TypeId} {a b d x y z : Value} (T : Row3 w g t a b d) : Stored w0 w g t x y z (((w.setCell ⟨g, 0, none⟩ x).setCell ⟨g, 1, none⟩ y).setCell ⟨g, 2, none⟩ z) :=
  ⟨((T.s0 x).s1 y).s2 z, fun _ _ _ _ _ h hne => ((h.other T hne 0 x).other (T.s0 x) hne 1 y).other ((T.s0 x).s1 y) hne 2 z,
    fun hB h => ((h.setCell (p := ⟨g, 0, none⟩) hB _).setCell (p := ⟨g, 1, none⟩) hB _).setCell (p := ⟨g, 2, none⟩) hB _, by simp⟩
end Go.Proofs.Ytnhipiafnijdnaa
namespace Go.Proofs.Ytnhipiafnijdnaa
open Go.RowKit Go.Shelf

theorem at_named {ps : PS} {x : ByteArray} {r : Int} (h : AtB ps x r) : ∃ f, f = x ∧ AtB ps f r := ⟨x, rfl, h⟩

set_option maxHeartbeats 16000000 in
set_option maxRecDepth 100000 in
theorem spec_Replace (V : DV) (D : DK) (n d : ByteArray) (w : World) (hr : RK w w.heap.size V D) (hn : LenK D 2000000) (hs : SmallK D 4000000) (hns : n.size ≤ 1048576) (hds : d.size ≤ 1048576) :
    Calls Try.prog 35 #[.agg #[.slice V.A D.live.length V.c, .slice V.K D.safe.length V.d, .slice V.O D.ops.length V.o], .string n, .string d] w (MadeKC w w.heap.size (repR D n d) (repC D n d)) := by
  have h0 := (Row3.lit w 31 (.slice V.A D.live.length V.c) (.slice V.K D.safe.length V.d) (.slice V.O D.ops.length V.o)).below ((Below.refl _ _).alloc (Nat.le_refl _) (.cells #[.slice none 0 0, .slice none 0 0, .slice none 0 0] 31))
  have h1 := Row3.lit (w.alloc (.cells #[.slice V.A D.live.length V.c, .slice V.K D.safe.length V.d, .slice V.O D.ops.length V.o] 31)) 31 (.slice none 0 0) (.slice none 0 0) (.slice none 0 0)
  rw [World.size_alloc] at h1
  have hb := ((Below.refl w.heap.size w).alloc (Nat.le_refl _) (.cells #[.slice V.A D.live.length V.c, .slice V.K D.safe.length V.d, .slice V.O D.ops.length V.o] 31)).alloc (by simp) (.cells #[.slice none 0 0, .slice none 0 0, .slice none 0 0] 31)
  have XV := hid h0
  have YV := hid h1
  have HBV := hid hb
  have HRV := hid ((hr.below hb).more hb.size)
  have HN := hid hn
  have HS := hid hs
  have HRW := hid hr
  have HNS : Hid (n.size ≤ 4000000) := Nat.le_trans hns (by decide)
  have HDS : Hid (d.size ≤ 4000000) := Nat.le_trans hds (by decide)
  have HN0 := hid hns
  clear hr hn hs h0 h1 hb
  cases hd : diskD D
  · have HE : Hid (repC D n d = 1 ∧ repR D n d = ⟨[], [], []⟩) := by simp [Hid, repC, repR, hd]
    go_enter Try.func35, Try.ntmps35
    have c0 := XV.out.c0
    have c1 := XV.out.c1
    have c2 := XV.out.c2
    go_wp2_with fail
    clear c0 c1 c2
    generalize hgq : (w.alloc (.cells #[.slice V.A D.live.length V.c, .slice V.K D.safe.length V.d, .slice V.O D.ops.length V.o] 31)).alloc (.cells #[.slice none 0 0, .slice none 0 0, .slice none 0 0] 31) = v0 at *
    clear hgq
    refine (spec_DiskOk V D _ HRV.out HN.out HS.out).mono ?_
    rintro e w0 ⟨rfl, hb⟩
    have HB := hid (HBV.out.trans (hb.mono HBV.out.size))
    have X := hid (XV.out.below hb)
    have Y := hid (YV.out.below hb)
    have HYL := hid (Y.out.lt)
    have HR := hid ((HRV.out.below hb).more hb.size)
    clear hb
    have Y9 := Y
    have z0 := Y9.out.c0
    have z1 := Y9.out.c1
    have z2 := Y9.out.c2
    have k0 := Y9.out.fz 0
    have k1 := Y9.out.fz 1
    have k2 := Y9.out.fz 2
    go_wp2_with fail
    refine world_post (S := fun wq => Row3 wq (w.heap.size + 1) 31 (.slice none 0 0) (.slice none 0 0) (.slice none 0 0) ∧ Below w.heap.size w wq) _
      ⟨((Y9.out.s0 _).s1 _).s2 _, ((HB.out.setCell (p := ⟨w.heap.size + 1, 0, none⟩) (by simp) _).setCell (p := ⟨w.heap.size + 1, 1, none⟩) (by simp) _).setCell (p := ⟨w.heap.size + 1, 2, none⟩) (by simp) _⟩ ?_
    clear z0 z1 z2 k0 k1 k2
    intro wq ⟨hq, hbq⟩
    have q0 := hq.c0
    have q1 := hq.c1
    have q2 := hq.c2
    rw [HE.out.1, HE.out.2]
    exact bodyPost_ret (v := .tuple #[.agg #[.slice none 0 0, .slice none 0 0, .slice none 0 0], .int .i64 1]) (by simp [results, Try.results35, go_sem, q0, q1, q2]) rfl ⟨⟨none, 0, none, 0, none, 0⟩, rfl, OwnK.nil_ _ _, hbq⟩
  · have hl60 := hid (diskD_len hd).1
    have HDD := hid hd
    go_enter Try.func35, Try.ntmps35
    have c0 := XV.out.c0
    have c1 := XV.out.c1
    have c2 := XV.out.c2
    go_wp2_with fail
    clear c0 c1 c2
    generalize hgq : (w.alloc (.cells #[.slice V.A D.live.length V.c, .slice V.K D.safe.length V.d, .slice V.O D.ops.length V.o] 31)).alloc (.cells #[.slice none 0 0, .slice none 0 0, .slice none 0 0] 31) = v0 at *
    clear hgq
    refine (spec_DiskOk V D _ HRV.out HN.out HS.out).mono ?_
    rintro e w0 ⟨rfl, hb⟩
    have HB := hid (HBV.out.trans (hb.mono HBV.out.size))
    have X := hid (XV.out.below hb)
    have Y := hid (YV.out.below hb)
    have HYL := hid (Y.out.lt)
    have HR := hid ((HRV.out.below hb).more hb.size)
    clear hb
    have XL := hid X.out.lt
    have T0 := Row3.lit w0 31 (.slice V.A D.live.length V.c) (.slice V.K D.safe.length V.d) (.slice V.O D.ops.length V.o)
    have hbt : Below w0.heap.size w0 (w0.alloc (.cells #[.slice V.A D.live.length V.c, .slice V.K D.safe.length V.d, .slice V.O D.ops.length V.o] 31)) := bl_alloc (Below.refl _ _)
    have T2 := hid T0
    have X2 := hid (X.out.below hbt)
    have Y2 := hid (Y.out.below hbt)
    have HB2 := hid (HB.out.trans (hbt.mono HB.out.size))
    have b0 := X.out.c0
    have b1 := X.out.c1
    have b2 := X.out.c2
    have b20 := X2.out.c0
    clear T0 hbt
    go_wp2_with fail
    clear b0 b1 b2 b20 hd
    have hszT : Hid (w0.heap.size < (w0.alloc (.cells #[.slice V.A D.live.length V.c, .slice V.K D.safe.length V.d, .slice V.O D.ops.length V.o] 31)).heap.size) := by rw [Hid]; simp
    generalize hgq : w0.alloc (.cells #[.slice V.A D.live.length V.c, .slice V.K D.safe.length V.d, .slice V.O D.ops.length V.o] 31) = w2 at *
    clear hgq
    have hsz2 : Hid (w2.heap.size ≤ w2.heap.size) := Nat.le_refl _
    have A2 : D.live.length ≤ maxLen := Nat.le_trans hl60.out (by decide)
    have A1 : RP w2 w2.heap.size V.A D.live := (HRW.out.1.below HB2.out).more HB2.out.size
    refine (spec_l10At V.A V.c D.live _ w2.heap.size w2 A1 A2).mono ?_
    clear A1 A2
    rintro e wz ⟨r, rfl, hat, rfl⟩
    obtain ⟨f, hf, hat⟩ := at_named hat
    rw [← hf]
    have hf2 : f = n ++ newB := by
      first
      | (rw [hf]; exact congrArg (fun b => n ++ b) (ByteArray.ext (by decide)))
      | (rw [hf]; congr 1)
    clear hf
    have HF := hid hf2
    have HFS : Hid (f.size ≤ 4000000) := by
      rw [Hid, hf2, append_size, newB_size]
      have := HN0.out
      omega
    clear hf2
    have nb1 : ¬ (w.heap.size = w0.heap.size) := by have := XL.out; omega
    have nb2 : ¬ (w0.heap.size = w.heap.size) := by have := XL.out; omega
    rcases hat with ⟨rfl, hk⟩ | ⟨i, hi, rfl, hk, hv⟩
    · have HSQ : Hid (seqD D (repL D n d) = seqD D [((1 : Int), f, (⟨#[]⟩ : ByteArray), d), ((2 : Int), f, n, (⟨#[]⟩ : ByteArray))]) := by rw [Hid, HF.out]; exact congrArg (seqD D) (repL_none (by rw [← HF.out]; exact hk))
      clear hk
      have t0 := T2.out.c0
      have t1 := T2.out.c1
      have t2 := T2.out.c2
      go_wp2_with fail
      clear t0 t1 t2
      by_cases hc2 : actC D ((1 : Int), f, (⟨#[]⟩ : ByteArray), d) = 0
      · have RK2 : RK w2 w2.heap.size V D := ((HRW.out.below HB2.out).more HB2.out.size)
        have SM2 : SmallX ((1 : Int), f, (⟨#[]⟩ : ByteArray), d) 4000000 := (small_1 HFS.out HDS.out)
        have HD2 : diskD D = true := HDD.out
        refine (spec_l10Act V D ((1 : Int), f, (⟨#[]⟩ : ByteArray), d) w2 RK2 HD2 SM2).mono ?_
        clear RK2 SM2 HD2
        rintro e w3 ⟨V3, rfl, ho, hb⟩
        have hsz3 : Hid (w2.heap.size ≤ w3.heap.size) := Nat.le_trans hsz2.out hb.size
        have HB3 := hid (HB2.out.trans (hb.mono HB2.out.size))
        have T3 := hid (T2.out.below hb)
        have X3 := hid (X2.out.below hb)
        have Y3 := hid (Y2.out.below hb)
        have HTL2 : Hid (w0.heap.size < w2.heap.size) := Nat.lt_of_lt_of_le hszT.out hsz2.out
        have HO3 := hid ho
        clear ho hb
        have ST := stored3 (w0 := w) (x := (.slice V3.A (actD D ((1 : Int), f, (⟨#[]⟩ : ByteArray), d)).live.length V3.c)) (y := (.slice V3.K (actD D ((1 : Int), f, (⟨#[]⟩ : ByteArray), d)).safe.length V3.d)) (z := (.slice V3.O (actD D ((1 : Int), f, (⟨#[]⟩ : ByteArray), d)).ops.length V3.o)) T3.out
        have T4 := hid ST.row
        have X4 := hid (ST.other _ _ _ _ _ X3.out (by have := XL.out; omega))
        have Y4 := hid (ST.other _ _ _ _ _ Y3.out (by have := HYL.out; omega))
        have HB4 := hid (ST.below (Nat.le_trans HB.out.size (Nat.le_refl _)) HB3.out)
        have HO4 := hid (HO3.out.stored (x := (.slice V3.A (actD D ((1 : Int), f, (⟨#[]⟩ : ByteArray), d)).live.length V3.c)) (y := (.slice V3.K (actD D ((1 : Int), f, (⟨#[]⟩ : ByteArray), d)).safe.length V3.d)) (z := (.slice V3.O (actD D ((1 : Int), f, (⟨#[]⟩ : ByteArray), d)).ops.length V3.o)) T3.out HTL2.out)
        have hsz4 : Hid (w2.heap.size ≤ (((w3.setCell ⟨w0.heap.size, 0, none⟩ (.slice V3.A (actD D ((1 : Int), f, (⟨#[]⟩ : ByteArray), d)).live.length V3.c)).setCell ⟨w0.heap.size, 1, none⟩ (.slice V3.K (actD D ((1 : Int), f, (⟨#[]⟩ : ByteArray), d)).safe.length V3.d)).setCell ⟨w0.heap.size, 2, none⟩ (.slice V3.O (actD D ((1 : Int), f, (⟨#[]⟩ : ByteArray), d)).ops.length V3.o)).heap.size) := by rw [Hid, ST.size]; exact hsz3.out
        clear ST
        have t0 := T3.out.c0
        have t1 := T3.out.c1
        have t2 := T3.out.c2
        have f0 := T3.out.fz 0
        have f1 := T3.out.fz 1
        have f2 := T3.out.fz 2
        have b0 := X3.out.c0
        have b1 := X3.out.c1
        have b2 := X3.out.c2
        rw [hc2]
        go_wp2_with fail
        clear t0 t1 t2 f0 f1 f2 b0 b1 b2
        generalize hgq : ((w3.setCell ⟨w0.heap.size, 0, none⟩ (.slice V3.A (actD D ((1 : Int), f, (⟨#[]⟩ : ByteArray), d)).live.length V3.c)).setCell ⟨w0.heap.size, 1, none⟩ (.slice V3.K (actD D ((1 : Int), f, (⟨#[]⟩ : ByteArray), d)).safe.length V3.d)).setCell ⟨w0.heap.size, 2, none⟩ (.slice V3.O (actD D ((1 : Int), f, (⟨#[]⟩ : ByteArray), d)).ops.length V3.o) = w4 at *
        clear hgq
        have HSQ2 : Hid (seqD D (repL D n d) = seqD (actD D ((1 : Int), f, (⟨#[]⟩ : ByteArray), d)) [((2 : Int), f, n, (⟨#[]⟩ : ByteArray))]) := (HSQ.out).trans (seq_yes hc2)
        by_cases hc4 : actC (actD D ((1 : Int), f, (⟨#[]⟩ : ByteArray), d)) ((2 : Int), f, n, (⟨#[]⟩ : ByteArray)) = 0
        · have RK4 : RK w4 w4.heap.size V3 (actD D ((1 : Int), f, (⟨#[]⟩ : ByteArray), d)) := HO4.out.rk
          have SM4 : SmallX ((2 : Int), f, n, (⟨#[]⟩ : ByteArray)) 4000000 := (small_2 HFS.out HNS.out)
          have HD4 : diskD (actD D ((1 : Int), f, (⟨#[]⟩ : ByteArray), d)) = true := (act_disk HDD.out hc2)
          refine (spec_l10Act V3 (actD D ((1 : Int), f, (⟨#[]⟩ : ByteArray), d)) ((2 : Int), f, n, (⟨#[]⟩ : ByteArray)) w4 RK4 HD4 SM4).mono ?_
          clear RK4 SM4 HD4
          rintro e w5 ⟨V5, rfl, ho, hb⟩
          have hsz5 : Hid (w2.heap.size ≤ w5.heap.size) := Nat.le_trans hsz4.out hb.size
          have HB5 := hid (HB4.out.trans (hb.mono HB4.out.size))
          have T5 := hid (T4.out.below hb)
          have X5 := hid (X4.out.below hb)
          have Y5 := hid (Y4.out.below hb)
          have HTL4 : Hid (w0.heap.size < w4.heap.size) := Nat.lt_of_lt_of_le hszT.out hsz4.out
          have HO5 := hid ho
          clear ho hb
          have ST := stored3 (w0 := w) (x := (.slice V5.A (actD (actD D ((1 : Int), f, (⟨#[]⟩ : ByteArray), d)) ((2 : Int), f, n, (⟨#[]⟩ : ByteArray))).live.length V5.c)) (y := (.slice V5.K (actD (actD D ((1 : Int), f, (⟨#[]⟩ : ByteArray), d)) ((2 : Int), f, n, (⟨#[]⟩ : ByteArray))).safe.length V5.d)) (z := (.slice V5.O (actD (actD D ((1 : Int), f, (⟨#[]⟩ : ByteArray), d)) ((2 : Int), f, n, (⟨#[]⟩ : ByteArray))).ops.length V5.o)) T5.out
          have T6 := hid ST.row
          have X6 := hid (ST.other _ _ _ _ _ X5.out (by have := XL.out; omega))
          have Y6 := hid (ST.other _ _ _ _ _ Y5.out (by have := HYL.out; omega))
          have HB6 := hid (ST.below (Nat.le_trans HB.out.size (Nat.le_refl _)) HB5.out)
          have HO6 := hid (HO5.out.stored (x := (.slice V5.A (actD (actD D ((1 : Int), f, (⟨#[]⟩ : ByteArray), d)) ((2 : Int), f, n, (⟨#[]⟩ : ByteArray))).live.length V5.c)) (y := (.slice V5.K (actD (actD D ((1 : Int), f, (⟨#[]⟩ : ByteArray), d)) ((2 : Int), f, n, (⟨#[]⟩ : ByteArray))).safe.length V5.d)) (z := (.slice V5.O (actD (actD D ((1 : Int), f, (⟨#[]⟩ : ByteArray), d)) ((2 : Int), f, n, (⟨#[]⟩ : ByteArray))).ops.length V5.o)) T5.out HTL4.out)
          have hsz6 : Hid (w2.heap.size ≤ (((w5.setCell ⟨w0.heap.size, 0, none⟩ (.slice V5.A (actD (actD D ((1 : Int), f, (⟨#[]⟩ : ByteArray), d)) ((2 : Int), f, n, (⟨#[]⟩ : ByteArray))).live.length V5.c)).setCell ⟨w0.heap.size, 1, none⟩ (.slice V5.K (actD (actD D ((1 : Int), f, (⟨#[]⟩ : ByteArray), d)) ((2 : Int), f, n, (⟨#[]⟩ : ByteArray))).safe.length V5.d)).setCell ⟨w0.heap.size, 2, none⟩ (.slice V5.O (actD (actD D ((1 : Int), f, (⟨#[]⟩ : ByteArray), d)) ((2 : Int), f, n, (⟨#[]⟩ : ByteArray))).ops.length V5.o)).heap.size) := by rw [Hid, ST.size]; exact hsz5.out
          clear ST
          have t0 := T5.out.c0
          have t1 := T5.out.c1
          have t2 := T5.out.c2
          have f0 := T5.out.fz 0
          have f1 := T5.out.fz 1
          have f2 := T5.out.fz 2
          have b0 := X5.out.c0
          have b1 := X5.out.c1
          have b2 := X5.out.c2
          rw [hc4]
          go_wp2_with fail
          clear t0 t1 t2 f0 f1 f2 b0 b1 b2
          generalize hgq : ((w5.setCell ⟨w0.heap.size, 0, none⟩ (.slice V5.A (actD (actD D ((1 : Int), f, (⟨#[]⟩ : ByteArray), d)) ((2 : Int), f, n, (⟨#[]⟩ : ByteArray))).live.length V5.c)).setCell ⟨w0.heap.size, 1, none⟩ (.slice V5.K (actD (actD D ((1 : Int), f, (⟨#[]⟩ : ByteArray), d)) ((2 : Int), f, n, (⟨#[]⟩ : ByteArray))).safe.length V5.d)).setCell ⟨w0.heap.size, 2, none⟩ (.slice V5.O (actD (actD D ((1 : Int), f, (⟨#[]⟩ : ByteArray), d)) ((2 : Int), f, n, (⟨#[]⟩ : ByteArray))).ops.length V5.o) = w6 at *
          clear hgq
          have HE := hid (rep_yes (E := actD (actD D ((1 : Int), f, (⟨#[]⟩ : ByteArray), d)) ((2 : Int), f, n, (⟨#[]⟩ : ByteArray))) HDD.out ((HSQ2.out).trans (seq_yes hc4)))
          have RK6 : RK w6 w6.heap.size V5 (actD (actD D ((1 : Int), f, (⟨#[]⟩ : ByteArray), d)) ((2 : Int), f, n, (⟨#[]⟩ : ByteArray))) := HO6.out.rk
          have LN6 : LenK (actD (actD D ((1 : Int), f, (⟨#[]⟩ : ByteArray), d)) ((2 : Int), f, n, (⟨#[]⟩ : ByteArray))) 1000 := ((diskD_len (act_disk (act_disk HDD.out hc2) hc4)).more (by decide))
          refine (spec_l10Copy V5 (actD (actD D ((1 : Int), f, (⟨#[]⟩ : ByteArray), d)) ((2 : Int), f, n, (⟨#[]⟩ : ByteArray))) w6 RK6 LN6).mono ?_
          clear RK6 LN6
          rintro e w7 ⟨V9, rfl, ho9, hb9⟩
          have HOK := hid ho9
          have HBF := hid (HB6.out.trans (hb9.mono HB6.out.size))
          have Y9 := hid (Y6.out.below hb9)
          have HY2 : Hid (w.heap.size + 1 < w6.heap.size) := Nat.lt_of_lt_of_le HYL.out (Nat.le_trans (Nat.le_of_lt hszT.out) hsz6.out)
          have HW2 : Hid (w.heap.size ≤ w6.heap.size) := HB6.out.size
          clear ho9 hb9
          have z0 := Y9.out.c0
          have z1 := Y9.out.c1
          have z2 := Y9.out.c2
          have k0 := Y9.out.fz 0
          have k1 := Y9.out.fz 1
          have k2 := Y9.out.fz 2
          go_wp2_with fail
          refine world_post (S := fun wq => Row3 wq (w.heap.size + 1) 31 (.slice V9.A (actD (actD D ((1 : Int), f, (⟨#[]⟩ : ByteArray), d)) ((2 : Int), f, n, (⟨#[]⟩ : ByteArray))).live.length V9.c) (.slice V9.K (actD (actD D ((1 : Int), f, (⟨#[]⟩ : ByteArray), d)) ((2 : Int), f, n, (⟨#[]⟩ : ByteArray))).safe.length V9.d) (.slice V9.O (actD (actD D ((1 : Int), f, (⟨#[]⟩ : ByteArray), d)) ((2 : Int), f, n, (⟨#[]⟩ : ByteArray))).ops.length V9.o) ∧ OwnK wq w.heap.size V9 (actD (actD D ((1 : Int), f, (⟨#[]⟩ : ByteArray), d)) ((2 : Int), f, n, (⟨#[]⟩ : ByteArray))) ∧ Below w.heap.size w wq) _
            ⟨((Y9.out.s0 _).s1 _).s2 _, (HOK.out.stored Y9.out HY2.out).mono HW2.out,
              ((HBF.out.setCell (p := ⟨w.heap.size + 1, 0, none⟩) (by simp) _).setCell (p := ⟨w.heap.size + 1, 1, none⟩) (by simp) _).setCell (p := ⟨w.heap.size + 1, 2, none⟩) (by simp) _⟩ ?_
          clear z0 z1 z2 k0 k1 k2
          intro wq ⟨hq, hp, hbq⟩
          have q0 := hq.c0
          have q1 := hq.c1
          have q2 := hq.c2
          rw [HE.out.1, HE.out.2]
          exact bodyPost_ret (v := .tuple #[.agg #[(.slice V9.A (actD (actD D ((1 : Int), f, (⟨#[]⟩ : ByteArray), d)) ((2 : Int), f, n, (⟨#[]⟩ : ByteArray))).live.length V9.c), (.slice V9.K (actD (actD D ((1 : Int), f, (⟨#[]⟩ : ByteArray), d)) ((2 : Int), f, n, (⟨#[]⟩ : ByteArray))).safe.length V9.d), (.slice V9.O (actD (actD D ((1 : Int), f, (⟨#[]⟩ : ByteArray), d)) ((2 : Int), f, n, (⟨#[]⟩ : ByteArray))).ops.length V9.o)], .int .i64 0]) (by simp [results, Try.results35, go_sem, q0, q1, q2]) rfl ⟨V9, rfl, hp, hbq⟩
        · have hz : (actC (actD D ((1 : Int), f, (⟨#[]⟩ : ByteArray), d)) ((2 : Int), f, n, (⟨#[]⟩ : ByteArray)) == 0) = false := by simp [hc4]
          have hnz : (actC (actD D ((1 : Int), f, (⟨#[]⟩ : ByteArray), d)) ((2 : Int), f, n, (⟨#[]⟩ : ByteArray)) != 0) = true := by simp [hc4]
          have HE := hid (rep_no HDD.out ((HSQ2.out).trans (seq_no hc4)) hc4)
          have RK4 : RK w4 w4.heap.size V3 (actD D ((1 : Int), f, (⟨#[]⟩ : ByteArray), d)) := HO4.out.rk
          have SM4 : SmallX ((2 : Int), f, n, (⟨#[]⟩ : ByteArray)) 4000000 := (small_2 HFS.out HNS.out)
          have HD4 : diskD (actD D ((1 : Int), f, (⟨#[]⟩ : ByteArray), d)) = true := (act_disk HDD.out hc2)
          refine (spec_l10Act V3 (actD D ((1 : Int), f, (⟨#[]⟩ : ByteArray), d)) ((2 : Int), f, n, (⟨#[]⟩ : ByteArray)) w4 RK4 HD4 SM4).mono ?_
          clear RK4 SM4 HD4
          rintro e w5 ⟨V5, rfl, ho, hb⟩
          have hsz5 : Hid (w2.heap.size ≤ w5.heap.size) := Nat.le_trans hsz4.out hb.size
          have HB5 := hid (HB4.out.trans (hb.mono HB4.out.size))
          have T5 := hid (T4.out.below hb)
          have X5 := hid (X4.out.below hb)
          have Y5 := hid (Y4.out.below hb)
          have HTL4 : Hid (w0.heap.size < w4.heap.size) := Nat.lt_of_lt_of_le hszT.out hsz4.out
          have HO5 := hid ho
          clear ho hb
          have ST := stored3 (w0 := w) (x := (.slice V5.A (actD (actD D ((1 : Int), f, (⟨#[]⟩ : ByteArray), d)) ((2 : Int), f, n, (⟨#[]⟩ : ByteArray))).live.length V5.c)) (y := (.slice V5.K (actD (actD D ((1 : Int), f, (⟨#[]⟩ : ByteArray), d)) ((2 : Int), f, n, (⟨#[]⟩ : ByteArray))).safe.length V5.d)) (z := (.slice V5.O (actD (actD D ((1 : Int), f, (⟨#[]⟩ : ByteArray), d)) ((2 : Int), f, n, (⟨#[]⟩ : ByteArray))).ops.length V5.o)) T5.out
          have T6 := hid ST.row
          have X6 := hid (ST.other _ _ _ _ _ X5.out (by have := XL.out; omega))
          have Y6 := hid (ST.other _ _ _ _ _ Y5.out (by have := HYL.out; omega))
          have HB6 := hid (ST.below (Nat.le_trans HB.out.size (Nat.le_refl _)) HB5.out)
          have HO6 := hid (HO5.out.stored (x := (.slice V5.A (actD (actD D ((1 : Int), f, (⟨#[]⟩ : ByteArray), d)) ((2 : Int), f, n, (⟨#[]⟩ : ByteArray))).live.length V5.c)) (y := (.slice V5.K (actD (actD D ((1 : Int), f, (⟨#[]⟩ : ByteArray), d)) ((2 : Int), f, n, (⟨#[]⟩ : ByteArray))).safe.length V5.d)) (z := (.slice V5.O (actD (actD D ((1 : Int), f, (⟨#[]⟩ : ByteArray), d)) ((2 : Int), f, n, (⟨#[]⟩ : ByteArray))).ops.length V5.o)) T5.out HTL4.out)
          have hsz6 : Hid (w2.heap.size ≤ (((w5.setCell ⟨w0.heap.size, 0, none⟩ (.slice V5.A (actD (actD D ((1 : Int), f, (⟨#[]⟩ : ByteArray), d)) ((2 : Int), f, n, (⟨#[]⟩ : ByteArray))).live.length V5.c)).setCell ⟨w0.heap.size, 1, none⟩ (.slice V5.K (actD (actD D ((1 : Int), f, (⟨#[]⟩ : ByteArray), d)) ((2 : Int), f, n, (⟨#[]⟩ : ByteArray))).safe.length V5.d)).setCell ⟨w0.heap.size, 2, none⟩ (.slice V5.O (actD (actD D ((1 : Int), f, (⟨#[]⟩ : ByteArray), d)) ((2 : Int), f, n, (⟨#[]⟩ : ByteArray))).ops.length V5.o)).heap.size) := by rw [Hid, ST.size]; exact hsz5.out
          clear ST
          have t0 := T5.out.c0
          have t1 := T5.out.c1
          have t2 := T5.out.c2
          have f0 := T5.out.fz 0
          have f1 := T5.out.fz 1
          have f2 := T5.out.fz 2
          have b0 := X5.out.c0
          have b1 := X5.out.c1
          have b2 := X5.out.c2
          go_wp2_with fail
          clear t0 t1 t2 f0 f1 f2 b0 b1 b2
          generalize hgq : ((w5.setCell ⟨w0.heap.size, 0, none⟩ (.slice V5.A (actD (actD D ((1 : Int), f, (⟨#[]⟩ : ByteArray), d)) ((2 : Int), f, n, (⟨#[]⟩ : ByteArray))).live.length V5.c)).setCell ⟨w0.heap.size, 1, none⟩ (.slice V5.K (actD (actD D ((1 : Int), f, (⟨#[]⟩ : ByteArray), d)) ((2 : Int), f, n, (⟨#[]⟩ : ByteArray))).safe.length V5.d)).setCell ⟨w0.heap.size, 2, none⟩ (.slice V5.O (actD (actD D ((1 : Int), f, (⟨#[]⟩ : ByteArray), d)) ((2 : Int), f, n, (⟨#[]⟩ : ByteArray))).ops.length V5.o) = w6 at *
          clear hgq
          have RK6 : RK w6 w6.heap.size V D := ((HRW.out.below HB6.out).more HB6.out.size)
          have LN6 : LenK D 1000 := ((diskD_len HDD.out).more (by decide))
          refine (spec_l10Copy V D w6 RK6 LN6).mono ?_
          clear RK6 LN6
          rintro e w7 ⟨V9, rfl, ho9, hb9⟩
          have HOK := hid ho9
          have HBF := hid (HB6.out.trans (hb9.mono HB6.out.size))
          have Y9 := hid (Y6.out.below hb9)
          have HY2 : Hid (w.heap.size + 1 < w6.heap.size) := Nat.lt_of_lt_of_le HYL.out (Nat.le_trans (Nat.le_of_lt hszT.out) hsz6.out)
          have HW2 : Hid (w.heap.size ≤ w6.heap.size) := HB6.out.size
          clear ho9 hb9
          have z0 := Y9.out.c0
          have z1 := Y9.out.c1
          have z2 := Y9.out.c2
          have k0 := Y9.out.fz 0
          have k1 := Y9.out.fz 1
          have k2 := Y9.out.fz 2
          go_wp2_with fail
          refine world_post (S := fun wq => Row3 wq (w.heap.size + 1) 31 (.slice V9.A D.live.length V9.c) (.slice V9.K D.safe.length V9.d) (.slice V9.O D.ops.length V9.o) ∧ OwnK wq w.heap.size V9 D ∧ Below w.heap.size w wq) _
            ⟨((Y9.out.s0 _).s1 _).s2 _, (HOK.out.stored Y9.out HY2.out).mono HW2.out,
              ((HBF.out.setCell (p := ⟨w.heap.size + 1, 0, none⟩) (by simp) _).setCell (p := ⟨w.heap.size + 1, 1, none⟩) (by simp) _).setCell (p := ⟨w.heap.size + 1, 2, none⟩) (by simp) _⟩ ?_
          clear z0 z1 z2 k0 k1 k2
          intro wq ⟨hq, hp, hbq⟩
          have q0 := hq.c0
          have q1 := hq.c1
          have q2 := hq.c2
          rw [HE.out.1, HE.out.2]
          exact bodyPost_ret (v := .tuple #[.agg #[(.slice V9.A D.live.length V9.c), (.slice V9.K D.safe.length V9.d), (.slice V9.O D.ops.length V9.o)], .int .i64 (actC (actD D ((1 : Int), f, (⟨#[]⟩ : ByteArray), d)) ((2 : Int), f, n, (⟨#[]⟩ : ByteArray)))]) (by simp [results, Try.results35, go_sem, q0, q1, q2]) rfl ⟨V9, rfl, hp, hbq⟩
      · have hz : (actC D ((1 : Int), f, (⟨#[]⟩ : ByteArray), d) == 0) = false := by simp [hc2]
        have hnz : (actC D ((1 : Int), f, (⟨#[]⟩ : ByteArray), d) != 0) = true := by simp [hc2]
        have HE := hid (rep_no HDD.out ((HSQ.out).trans (seq_no hc2)) hc2)
        have RK2 : RK w2 w2.heap.size V D := ((HRW.out.below HB2.out).more HB2.out.size)
        have SM2 : SmallX ((1 : Int), f, (⟨#[]⟩ : ByteArray), d) 4000000 := (small_1 HFS.out HDS.out)
        have HD2 : diskD D = true := HDD.out
        refine (spec_l10Act V D ((1 : Int), f, (⟨#[]⟩ : ByteArray), d) w2 RK2 HD2 SM2).mono ?_
        clear RK2 SM2 HD2
        rintro e w3 ⟨V3, rfl, ho, hb⟩
        have hsz3 : Hid (w2.heap.size ≤ w3.heap.size) := Nat.le_trans hsz2.out hb.size
        have HB3 := hid (HB2.out.trans (hb.mono HB2.out.size))
        have T3 := hid (T2.out.below hb)
        have X3 := hid (X2.out.below hb)
        have Y3 := hid (Y2.out.below hb)
        have HTL2 : Hid (w0.heap.size < w2.heap.size) := Nat.lt_of_lt_of_le hszT.out hsz2.out
        have HO3 := hid ho
        clear ho hb
        have ST := stored3 (w0 := w) (x := (.slice V3.A (actD D ((1 : Int), f, (⟨#[]⟩ : ByteArray), d)).live.length V3.c)) (y := (.slice V3.K (actD D ((1 : Int), f, (⟨#[]⟩ : ByteArray), d)).safe.length V3.d)) (z := (.slice V3.O (actD D ((1 : Int), f, (⟨#[]⟩ : ByteArray), d)).ops.length V3.o)) T3.out
        have T4 := hid ST.row
        have X4 := hid (ST.other _ _ _ _ _ X3.out (by have := XL.out; omega))
        have Y4 := hid (ST.other _ _ _ _ _ Y3.out (by have := HYL.out; omega))
        have HB4 := hid (ST.below (Nat.le_trans HB.out.size (Nat.le_refl _)) HB3.out)
        have HO4 := hid (HO3.out.stored (x := (.slice V3.A (actD D ((1 : Int), f, (⟨#[]⟩ : ByteArray), d)).live.length V3.c)) (y := (.slice V3.K (actD D ((1 : Int), f, (⟨#[]⟩ : ByteArray), d)).safe.length V3.d)) (z := (.slice V3.O (actD D ((1 : Int), f, (⟨#[]⟩ : ByteArray), d)).ops.length V3.o)) T3.out HTL2.out)
        have hsz4 : Hid (w2.heap.size ≤ (((w3.setCell ⟨w0.heap.size, 0, none⟩ (.slice V3.A (actD D ((1 : Int), f, (⟨#[]⟩ : ByteArray), d)).live.length V3.c)).setCell ⟨w0.heap.size, 1, none⟩ (.slice V3.K (actD D ((1 : Int), f, (⟨#[]⟩ : ByteArray), d)).safe.length V3.d)).setCell ⟨w0.heap.size, 2, none⟩ (.slice V3.O (actD D ((1 : Int), f, (⟨#[]⟩ : ByteArray), d)).ops.length V3.o)).heap.size) := by rw [Hid, ST.size]; exact hsz3.out
        clear ST
        have t0 := T3.out.c0
        have t1 := T3.out.c1
        have t2 := T3.out.c2
        have f0 := T3.out.fz 0
        have f1 := T3.out.fz 1
        have f2 := T3.out.fz 2
        have b0 := X3.out.c0
        have b1 := X3.out.c1
        have b2 := X3.out.c2
        go_wp2_with fail
        clear t0 t1 t2 f0 f1 f2 b0 b1 b2
        generalize hgq : ((w3.setCell ⟨w0.heap.size, 0, none⟩ (.slice V3.A (actD D ((1 : Int), f, (⟨#[]⟩ : ByteArray), d)).live.length V3.c)).setCell ⟨w0.heap.size, 1, none⟩ (.slice V3.K (actD D ((1 : Int), f, (⟨#[]⟩ : ByteArray), d)).safe.length V3.d)).setCell ⟨w0.heap.size, 2, none⟩ (.slice V3.O (actD D ((1 : Int), f, (⟨#[]⟩ : ByteArray), d)).ops.length V3.o) = w4 at *
        clear hgq
        have RK4 : RK w4 w4.heap.size V D := ((HRW.out.below HB4.out).more HB4.out.size)
        have LN4 : LenK D 1000 := ((diskD_len HDD.out).more (by decide))
        refine (spec_l10Copy V D w4 RK4 LN4).mono ?_
        clear RK4 LN4
        rintro e w5 ⟨V9, rfl, ho9, hb9⟩
        have HOK := hid ho9
        have HBF := hid (HB4.out.trans (hb9.mono HB4.out.size))
        have Y9 := hid (Y4.out.below hb9)
        have HY2 : Hid (w.heap.size + 1 < w4.heap.size) := Nat.lt_of_lt_of_le HYL.out (Nat.le_trans (Nat.le_of_lt hszT.out) hsz4.out)
        have HW2 : Hid (w.heap.size ≤ w4.heap.size) := HB4.out.size
        clear ho9 hb9
        have z0 := Y9.out.c0
        have z1 := Y9.out.c1
        have z2 := Y9.out.c2
        have k0 := Y9.out.fz 0
        have k1 := Y9.out.fz 1
        have k2 := Y9.out.fz 2
        go_wp2_with fail
        refine world_post (S := fun wq => Row3 wq (w.heap.size + 1) 31 (.slice V9.A D.live.length V9.c) (.slice V9.K D.safe.length V9.d) (.slice V9.O D.ops.length V9.o) ∧ OwnK wq w.heap.size V9 D ∧ Below w.heap.size w wq) _
          ⟨((Y9.out.s0 _).s1 _).s2 _, (HOK.out.stored Y9.out HY2.out).mono HW2.out,
            ((HBF.out.setCell (p := ⟨w.heap.size + 1, 0, none⟩) (by simp) _).setCell (p := ⟨w.heap.size + 1, 1, none⟩) (by simp) _).setCell (p := ⟨w.heap.size + 1, 2, none⟩) (by simp) _⟩ ?_
        clear z0 z1 z2 k0 k1 k2
        intro wq ⟨hq, hp, hbq⟩
        have q0 := hq.c0
        have q1 := hq.c1
        have q2 := hq.c2
        rw [HE.out.1, HE.out.2]
        exact bodyPost_ret (v := .tuple #[.agg #[(.slice V9.A D.live.length V9.c), (.slice V9.K D.safe.length V9.d), (.slice V9.O D.ops.length V9.o)], .int .i64 (actC D ((1 : Int), f, (⟨#[]⟩ : ByteArray), d))]) (by simp [results, Try.results35, go_sem, q0, q1, q2]) rfl ⟨V9, rfl, hp, hbq⟩
    · have HSQ : Hid (seqD D (repL D n d) = seqD D [((3 : Int), f, (⟨#[]⟩ : ByteArray), (⟨#[]⟩ : ByteArray)), ((1 : Int), f, (⟨#[]⟩ : ByteArray), d), ((2 : Int), f, n, (⟨#[]⟩ : ByteArray))]) := by rw [Hid, HF.out]; exact congrArg (seqD D) (repL_has (by rw [← HF.out]; exact hk))
      clear hv hi hk
      have t0 := T2.out.c0
      have t1 := T2.out.c1
      have t2 := T2.out.c2
      go_wp2_with fail
      clear t0 t1 t2
      by_cases hc2 : actC D ((3 : Int), f, (⟨#[]⟩ : ByteArray), (⟨#[]⟩ : ByteArray)) = 0
      · have RK2 : RK w2 w2.heap.size V D := ((HRW.out.below HB2.out).more HB2.out.size)
        have SM2 : SmallX ((3 : Int), f, (⟨#[]⟩ : ByteArray), (⟨#[]⟩ : ByteArray)) 4000000 := (small_1 HFS.out (Nat.zero_le _))
        have HD2 : diskD D = true := HDD.out
        refine (spec_l10Act V D ((3 : Int), f, (⟨#[]⟩ : ByteArray), (⟨#[]⟩ : ByteArray)) w2 RK2 HD2 SM2).mono ?_
        clear RK2 SM2 HD2
        rintro e w3 ⟨V3, rfl, ho, hb⟩
        have hsz3 : Hid (w2.heap.size ≤ w3.heap.size) := Nat.le_trans hsz2.out hb.size
        have HB3 := hid (HB2.out.trans (hb.mono HB2.out.size))
        have T3 := hid (T2.out.below hb)
        have X3 := hid (X2.out.below hb)
        have Y3 := hid (Y2.out.below hb)
        have HTL2 : Hid (w0.heap.size < w2.heap.size) := Nat.lt_of_lt_of_le hszT.out hsz2.out
        have HO3 := hid ho
        clear ho hb
        have ST := stored3 (w0 := w) (x := (.slice V3.A (actD D ((3 : Int), f, (⟨#[]⟩ : ByteArray), (⟨#[]⟩ : ByteArray))).live.length V3.c)) (y := (.slice V3.K (actD D ((3 : Int), f, (⟨#[]⟩ : ByteArray), (⟨#[]⟩ : ByteArray))).safe.length V3.d)) (z := (.slice V3.O (actD D ((3 : Int), f, (⟨#[]⟩ : ByteArray), (⟨#[]⟩ : ByteArray))).ops.length V3.o)) T3.out
        have T4 := hid ST.row
        have X4 := hid (ST.other _ _ _ _ _ X3.out (by have := XL.out; omega))
        have Y4 := hid (ST.other _ _ _ _ _ Y3.out (by have := HYL.out; omega))
        have HB4 := hid (ST.below (Nat.le_trans HB.out.size (Nat.le_refl _)) HB3.out)
        have HO4 := hid (HO3.out.stored (x := (.slice V3.A (actD D ((3 : Int), f, (⟨#[]⟩ : ByteArray), (⟨#[]⟩ : ByteArray))).live.length V3.c)) (y := (.slice V3.K (actD D ((3 : Int), f, (⟨#[]⟩ : ByteArray), (⟨#[]⟩ : ByteArray))).safe.length V3.d)) (z := (.slice V3.O (actD D ((3 : Int), f, (⟨#[]⟩ : ByteArray), (⟨#[]⟩ : ByteArray))).ops.length V3.o)) T3.out HTL2.out)
        have hsz4 : Hid (w2.heap.size ≤ (((w3.setCell ⟨w0.heap.size, 0, none⟩ (.slice V3.A (actD D ((3 : Int), f, (⟨#[]⟩ : ByteArray), (⟨#[]⟩ : ByteArray))).live.length V3.c)).setCell ⟨w0.heap.size, 1, none⟩ (.slice V3.K (actD D ((3 : Int), f, (⟨#[]⟩ : ByteArray), (⟨#[]⟩ : ByteArray))).safe.length V3.d)).setCell ⟨w0.heap.size, 2, none⟩ (.slice V3.O (actD D ((3 : Int), f, (⟨#[]⟩ : ByteArray), (⟨#[]⟩ : ByteArray))).ops.length V3.o)).heap.size) := by rw [Hid, ST.size]; exact hsz3.out
        clear ST
        have t0 := T3.out.c0
        have t1 := T3.out.c1
        have t2 := T3.out.c2
        have f0 := T3.out.fz 0
        have f1 := T3.out.fz 1
        have f2 := T3.out.fz 2
        have b0 := X3.out.c0
        have b1 := X3.out.c1
        have b2 := X3.out.c2
        rw [hc2]
        go_wp2_with fail
        clear t0 t1 t2 f0 f1 f2 b0 b1 b2
        generalize hgq : ((w3.setCell ⟨w0.heap.size, 0, none⟩ (.slice V3.A (actD D ((3 : Int), f, (⟨#[]⟩ : ByteArray), (⟨#[]⟩ : ByteArray))).live.length V3.c)).setCell ⟨w0.heap.size, 1, none⟩ (.slice V3.K (actD D ((3 : Int), f, (⟨#[]⟩ : ByteArray), (⟨#[]⟩ : ByteArray))).safe.length V3.d)).setCell ⟨w0.heap.size, 2, none⟩ (.slice V3.O (actD D ((3 : Int), f, (⟨#[]⟩ : ByteArray), (⟨#[]⟩ : ByteArray))).ops.length V3.o) = w4 at *
        clear hgq
        have HSQ2 : Hid (seqD D (repL D n d) = seqD (actD D ((3 : Int), f, (⟨#[]⟩ : ByteArray), (⟨#[]⟩ : ByteArray))) [((1 : Int), f, (⟨#[]⟩ : ByteArray), d), ((2 : Int), f, n, (⟨#[]⟩ : ByteArray))]) := (HSQ.out).trans (seq_yes hc2)
        by_cases hc4 : actC (actD D ((3 : Int), f, (⟨#[]⟩ : ByteArray), (⟨#[]⟩ : ByteArray))) ((1 : Int), f, (⟨#[]⟩ : ByteArray), d) = 0
        · have RK4 : RK w4 w4.heap.size V3 (actD D ((3 : Int), f, (⟨#[]⟩ : ByteArray), (⟨#[]⟩ : ByteArray))) := HO4.out.rk
          have SM4 : SmallX ((1 : Int), f, (⟨#[]⟩ : ByteArray), d) 4000000 := (small_1 HFS.out HDS.out)
          have HD4 : diskD (actD D ((3 : Int), f, (⟨#[]⟩ : ByteArray), (⟨#[]⟩ : ByteArray))) = true := (act_disk HDD.out hc2)
          refine (spec_l10Act V3 (actD D ((3 : Int), f, (⟨#[]⟩ : ByteArray), (⟨#[]⟩ : ByteArray))) ((1 : Int), f, (⟨#[]⟩ : ByteArray), d) w4 RK4 HD4 SM4).mono ?_
          clear RK4 SM4 HD4
          rintro e w5 ⟨V5, rfl, ho, hb⟩
          have hsz5 : Hid (w2.heap.size ≤ w5.heap.size) := Nat.le_trans hsz4.out hb.size
          have HB5 := hid (HB4.out.trans (hb.mono HB4.out.size))
          have T5 := hid (T4.out.below hb)
          have X5 := hid (X4.out.below hb)
          have Y5 := hid (Y4.out.below hb)
          have HTL4 : Hid (w0.heap.size < w4.heap.size) := Nat.lt_of_lt_of_le hszT.out hsz4.out
          have HO5 := hid ho
          clear ho hb
          have ST := stored3 (w0 := w) (x := (.slice V5.A (actD (actD D ((3 : Int), f, (⟨#[]⟩ : ByteArray), (⟨#[]⟩ : ByteArray))) ((1 : Int), f, (⟨#[]⟩ : ByteArray), d)).live.length V5.c)) (y := (.slice V5.K (actD (actD D ((3 : Int), f, (⟨#[]⟩ : ByteArray), (⟨#[]⟩ : ByteArray))) ((1 : Int), f, (⟨#[]⟩ : ByteArray), d)).safe.length V5.d)) (z := (.slice V5.O (actD (actD D ((3 : Int), f, (⟨#[]⟩ : ByteArray), (⟨#[]⟩ : ByteArray))) ((1 : Int), f, (⟨#[]⟩ : ByteArray), d)).ops.length V5.o)) T5.out
          have T6 := hid ST.row
          have X6 := hid (ST.other _ _ _ _ _ X5.out (by have := XL.out; omega))
          have Y6 := hid (ST.other _ _ _ _ _ Y5.out (by have := HYL.out; omega))
          have HB6 := hid (ST.below (Nat.le_trans HB.out.size (Nat.le_refl _)) HB5.out)
          have HO6 := hid (HO5.out.stored (x := (.slice V5.A (actD (actD D ((3 : Int), f, (⟨#[]⟩ : ByteArray), (⟨#[]⟩ : ByteArray))) ((1 : Int), f, (⟨#[]⟩ : ByteArray), d)).live.length V5.c)) (y := (.slice V5.K (actD (actD D ((3 : Int), f, (⟨#[]⟩ : ByteArray), (⟨#[]⟩ : ByteArray))) ((1 : Int), f, (⟨#[]⟩ : ByteArray), d)).safe.length V5.d)) (z := (.slice V5.O (actD (actD D ((3 : Int), f, (⟨#[]⟩ : ByteArray), (⟨#[]⟩ : ByteArray))) ((1 : Int), f, (⟨#[]⟩ : ByteArray), d)).ops.length V5.o)) T5.out HTL4.out)
          have hsz6 : Hid (w2.heap.size ≤ (((w5.setCell ⟨w0.heap.size, 0, none⟩ (.slice V5.A (actD (actD D ((3 : Int), f, (⟨#[]⟩ : ByteArray), (⟨#[]⟩ : ByteArray))) ((1 : Int), f, (⟨#[]⟩ : ByteArray), d)).live.length V5.c)).setCell ⟨w0.heap.size, 1, none⟩ (.slice V5.K (actD (actD D ((3 : Int), f, (⟨#[]⟩ : ByteArray), (⟨#[]⟩ : ByteArray))) ((1 : Int), f, (⟨#[]⟩ : ByteArray), d)).safe.length V5.d)).setCell ⟨w0.heap.size, 2, none⟩ (.slice V5.O (actD (actD D ((3 : Int), f, (⟨#[]⟩ : ByteArray), (⟨#[]⟩ : ByteArray))) ((1 : Int), f, (⟨#[]⟩ : ByteArray), d)).ops.length V5.o)).heap.size) := by rw [Hid, ST.size]; exact hsz5.out
          clear ST
          have t0 := T5.out.c0
          have t1 := T5.out.c1
          have t2 := T5.out.c2
          have f0 := T5.out.fz 0
          have f1 := T5.out.fz 1
          have f2 := T5.out.fz 2
          have b0 := X5.out.c0
          have b1 := X5.out.c1
          have b2 := X5.out.c2
          rw [hc4]
          go_wp2_with fail
          clear t0 t1 t2 f0 f1 f2 b0 b1 b2
          generalize hgq : ((w5.setCell ⟨w0.heap.size, 0, none⟩ (.slice V5.A (actD (actD D ((3 : Int), f, (⟨#[]⟩ : ByteArray), (⟨#[]⟩ : ByteArray))) ((1 : Int), f, (⟨#[]⟩ : ByteArray), d)).live.length V5.c)).setCell ⟨w0.heap.size, 1, none⟩ (.slice V5.K (actD (actD D ((3 : Int), f, (⟨#[]⟩ : ByteArray), (⟨#[]⟩ : ByteArray))) ((1 : Int), f, (⟨#[]⟩ : ByteArray), d)).safe.length V5.d)).setCell ⟨w0.heap.size, 2, none⟩ (.slice V5.O (actD (actD D ((3 : Int), f, (⟨#[]⟩ : ByteArray), (⟨#[]⟩ : ByteArray))) ((1 : Int), f, (⟨#[]⟩ : ByteArray), d)).ops.length V5.o) = w6 at *
          clear hgq
          have HSQ4 : Hid (seqD D (repL D n d) = seqD (actD (actD D ((3 : Int), f, (⟨#[]⟩ : ByteArray), (⟨#[]⟩ : ByteArray))) ((1 : Int), f, (⟨#[]⟩ : ByteArray), d)) [((2 : Int), f, n, (⟨#[]⟩ : ByteArray))]) := (HSQ2.out).trans (seq_yes hc4)
          by_cases hc6 : actC (actD (actD D ((3 : Int), f, (⟨#[]⟩ : ByteArray), (⟨#[]⟩ : ByteArray))) ((1 : Int), f, (⟨#[]⟩ : ByteArray), d)) ((2 : Int), f, n, (⟨#[]⟩ : ByteArray)) = 0
          · have RK6 : RK w6 w6.heap.size V5 (actD (actD D ((3 : Int), f, (⟨#[]⟩ : ByteArray), (⟨#[]⟩ : ByteArray))) ((1 : Int), f, (⟨#[]⟩ : ByteArray), d)) := HO6.out.rk
            have SM6 : SmallX ((2 : Int), f, n, (⟨#[]⟩ : ByteArray)) 4000000 := (small_2 HFS.out HNS.out)
            have HD6 : diskD (actD (actD D ((3 : Int), f, (⟨#[]⟩ : ByteArray), (⟨#[]⟩ : ByteArray))) ((1 : Int), f, (⟨#[]⟩ : ByteArray), d)) = true := (act_disk (act_disk HDD.out hc2) hc4)
            refine (spec_l10Act V5 (actD (actD D ((3 : Int), f, (⟨#[]⟩ : ByteArray), (⟨#[]⟩ : ByteArray))) ((1 : Int), f, (⟨#[]⟩ : ByteArray), d)) ((2 : Int), f, n, (⟨#[]⟩ : ByteArray)) w6 RK6 HD6 SM6).mono ?_
            clear RK6 SM6 HD6
            rintro e w7 ⟨V7, rfl, ho, hb⟩
            have hsz7 : Hid (w2.heap.size ≤ w7.heap.size) := Nat.le_trans hsz6.out hb.size
            have HB7 := hid (HB6.out.trans (hb.mono HB6.out.size))
            have T7 := hid (T6.out.below hb)
            have X7 := hid (X6.out.below hb)
            have Y7 := hid (Y6.out.below hb)
            have HTL6 : Hid (w0.heap.size < w6.heap.size) := Nat.lt_of_lt_of_le hszT.out hsz6.out
            have HO7 := hid ho
            clear ho hb
            have ST := stored3 (w0 := w) (x := (.slice V7.A (actD (actD (actD D ((3 : Int), f, (⟨#[]⟩ : ByteArray), (⟨#[]⟩ : ByteArray))) ((1 : Int), f, (⟨#[]⟩ : ByteArray), d)) ((2 : Int), f, n, (⟨#[]⟩ : ByteArray))).live.length V7.c)) (y := (.slice V7.K (actD (actD (actD D ((3 : Int), f, (⟨#[]⟩ : ByteArray), (⟨#[]⟩ : ByteArray))) ((1 : Int), f, (⟨#[]⟩ : ByteArray), d)) ((2 : Int), f, n, (⟨#[]⟩ : ByteArray))).safe.length V7.d)) (z := (.slice V7.O (actD (actD (actD D ((3 : Int), f, (⟨#[]⟩ : ByteArray), (⟨#[]⟩ : ByteArray))) ((1 : Int), f, (⟨#[]⟩ : ByteArray), d)) ((2 : Int), f, n, (⟨#[]⟩ : ByteArray))).ops.length V7.o)) T7.out
            have T8 := hid ST.row
            have X8 := hid (ST.other _ _ _ _ _ X7.out (by have := XL.out; omega))
            have Y8 := hid (ST.other _ _ _ _ _ Y7.out (by have := HYL.out; omega))
            have HB8 := hid (ST.below (Nat.le_trans HB.out.size (Nat.le_refl _)) HB7.out)
            have HO8 := hid (HO7.out.stored (x := (.slice V7.A (actD (actD (actD D ((3 : Int), f, (⟨#[]⟩ : ByteArray), (⟨#[]⟩ : ByteArray))) ((1 : Int), f, (⟨#[]⟩ : ByteArray), d)) ((2 : Int), f, n, (⟨#[]⟩ : ByteArray))).live.length V7.c)) (y := (.slice V7.K (actD (actD (actD D ((3 : Int), f, (⟨#[]⟩ : ByteArray), (⟨#[]⟩ : ByteArray))) ((1 : Int), f, (⟨#[]⟩ : ByteArray), d)) ((2 : Int), f, n, (⟨#[]⟩ : ByteArray))).safe.length V7.d)) (z := (.slice V7.O (actD (actD (actD D ((3 : Int), f, (⟨#[]⟩ : ByteArray), (⟨#[]⟩ : ByteArray))) ((1 : Int), f, (⟨#[]⟩ : ByteArray), d)) ((2 : Int), f, n, (⟨#[]⟩ : ByteArray))).ops.length V7.o)) T7.out HTL6.out)
            have hsz8 : Hid (w2.heap.size ≤ (((w7.setCell ⟨w0.heap.size, 0, none⟩ (.slice V7.A (actD (actD (actD D ((3 : Int), f, (⟨#[]⟩ : ByteArray), (⟨#[]⟩ : ByteArray))) ((1 : Int), f, (⟨#[]⟩ : ByteArray), d)) ((2 : Int), f, n, (⟨#[]⟩ : ByteArray))).live.length V7.c)).setCell ⟨w0.heap.size, 1, none⟩ (.slice V7.K (actD (actD (actD D ((3 : Int), f, (⟨#[]⟩ : ByteArray), (⟨#[]⟩ : ByteArray))) ((1 : Int), f, (⟨#[]⟩ : ByteArray), d)) ((2 : Int), f, n, (⟨#[]⟩ : ByteArray))).safe.length V7.d)).setCell ⟨w0.heap.size, 2, none⟩ (.slice V7.O (actD (actD (actD D ((3 : Int), f, (⟨#[]⟩ : ByteArray), (⟨#[]⟩ : ByteArray))) ((1 : Int), f, (⟨#[]⟩ : ByteArray), d)) ((2 : Int), f, n, (⟨#[]⟩ : ByteArray))).ops.length V7.o)).heap.size) := by rw [Hid, ST.size]; exact hsz7.out
            clear ST
            have t0 := T7.out.c0
            have t1 := T7.out.c1
            have t2 := T7.out.c2
            have f0 := T7.out.fz 0
            have f1 := T7.out.fz 1
            have f2 := T7.out.fz 2
            have b0 := X7.out.c0
            have b1 := X7.out.c1
            have b2 := X7.out.c2
            rw [hc6]
            go_wp2_with fail
            clear t0 t1 t2 f0 f1 f2 b0 b1 b2
            generalize hgq : ((w7.setCell ⟨w0.heap.size, 0, none⟩ (.slice V7.A (actD (actD (actD D ((3 : Int), f, (⟨#[]⟩ : ByteArray), (⟨#[]⟩ : ByteArray))) ((1 : Int), f, (⟨#[]⟩ : ByteArray), d)) ((2 : Int), f, n, (⟨#[]⟩ : ByteArray))).live.length V7.c)).setCell ⟨w0.heap.size, 1, none⟩ (.slice V7.K (actD (actD (actD D ((3 : Int), f, (⟨#[]⟩ : ByteArray), (⟨#[]⟩ : ByteArray))) ((1 : Int), f, (⟨#[]⟩ : ByteArray), d)) ((2 : Int), f, n, (⟨#[]⟩ : ByteArray))).safe.length V7.d)).setCell ⟨w0.heap.size, 2, none⟩ (.slice V7.O (actD (actD (actD D ((3 : Int), f, (⟨#[]⟩ : ByteArray), (⟨#[]⟩ : ByteArray))) ((1 : Int), f, (⟨#[]⟩ : ByteArray), d)) ((2 : Int), f, n, (⟨#[]⟩ : ByteArray))).ops.length V7.o) = w8 at *
            clear hgq
            have HE := hid (rep_yes (E := actD (actD (actD D ((3 : Int), f, (⟨#[]⟩ : ByteArray), (⟨#[]⟩ : ByteArray))) ((1 : Int), f, (⟨#[]⟩ : ByteArray), d)) ((2 : Int), f, n, (⟨#[]⟩ : ByteArray))) HDD.out ((HSQ4.out).trans (seq_yes hc6)))
            have RK8 : RK w8 w8.heap.size V7 (actD (actD (actD D ((3 : Int), f, (⟨#[]⟩ : ByteArray), (⟨#[]⟩ : ByteArray))) ((1 : Int), f, (⟨#[]⟩ : ByteArray), d)) ((2 : Int), f, n, (⟨#[]⟩ : ByteArray))) := HO8.out.rk
            have LN8 : LenK (actD (actD (actD D ((3 : Int), f, (⟨#[]⟩ : ByteArray), (⟨#[]⟩ : ByteArray))) ((1 : Int), f, (⟨#[]⟩ : ByteArray), d)) ((2 : Int), f, n, (⟨#[]⟩ : ByteArray))) 1000 := ((diskD_len (act_disk (act_disk (act_disk HDD.out hc2) hc4) hc6)).more (by decide))
            refine (spec_l10Copy V7 (actD (actD (actD D ((3 : Int), f, (⟨#[]⟩ : ByteArray), (⟨#[]⟩ : ByteArray))) ((1 : Int), f, (⟨#[]⟩ : ByteArray), d)) ((2 : Int), f, n, (⟨#[]⟩ : ByteArray))) w8 RK8 LN8).mono ?_
            clear RK8 LN8
            rintro e w9 ⟨V9, rfl, ho9, hb9⟩
            have HOK := hid ho9
            have HBF := hid (HB8.out.trans (hb9.mono HB8.out.size))
            have Y9 := hid (Y8.out.below hb9)
            have HY2 : Hid (w.heap.size + 1 < w8.heap.size) := Nat.lt_of_lt_of_le HYL.out (Nat.le_trans (Nat.le_of_lt hszT.out) hsz8.out)
            have HW2 : Hid (w.heap.size ≤ w8.heap.size) := HB8.out.size
            clear ho9 hb9
            have z0 := Y9.out.c0
            have z1 := Y9.out.c1
            have z2 := Y9.out.c2
            have k0 := Y9.out.fz 0
            have k1 := Y9.out.fz 1
            have k2 := Y9.out.fz 2
            go_wp2_with fail
            refine world_post (S := fun wq => Row3 wq (w.heap.size + 1) 31 (.slice V9.A (actD (actD (actD D ((3 : Int), f, (⟨#[]⟩ : ByteArray), (⟨#[]⟩ : ByteArray))) ((1 : Int), f, (⟨#[]⟩ : ByteArray), d)) ((2 : Int), f, n, (⟨#[]⟩ : ByteArray))).live.length V9.c) (.slice V9.K (actD (actD (actD D ((3 : Int), f, (⟨#[]⟩ : ByteArray), (⟨#[]⟩ : ByteArray))) ((1 : Int), f, (⟨#[]⟩ : ByteArray), d)) ((2 : Int), f, n, (⟨#[]⟩ : ByteArray))).safe.length V9.d) (.slice V9.O (actD (actD (actD D ((3 : Int), f, (⟨#[]⟩ : ByteArray), (⟨#[]⟩ : ByteArray))) ((1 : Int), f, (⟨#[]⟩ : ByteArray), d)) ((2 : Int), f, n, (⟨#[]⟩ : ByteArray))).ops.length V9.o) ∧ OwnK wq w.heap.size V9 (actD (actD (actD D ((3 : Int), f, (⟨#[]⟩ : ByteArray), (⟨#[]⟩ : ByteArray))) ((1 : Int), f, (⟨#[]⟩ : ByteArray), d)) ((2 : Int), f, n, (⟨#[]⟩ : ByteArray))) ∧ Below w.heap.size w wq) _
              ⟨((Y9.out.s0 _).s1 _).s2 _, (HOK.out.stored Y9.out HY2.out).mono HW2.out,
                ((HBF.out.setCell (p := ⟨w.heap.size + 1, 0, none⟩) (by simp) _).setCell (p := ⟨w.heap.size + 1, 1, none⟩) (by simp) _).setCell (p := ⟨w.heap.size + 1, 2, none⟩) (by simp) _⟩ ?_
            clear z0 z1 z2 k0 k1 k2
            intro wq ⟨hq, hp, hbq⟩
            have q0 := hq.c0
            have q1 := hq.c1
            have q2 := hq.c2
            rw [HE.out.1, HE.out.2]
            exact bodyPost_ret (v := .tuple #[.agg #[(.slice V9.A (actD (actD (actD D ((3 : Int), f, (⟨#[]⟩ : ByteArray), (⟨#[]⟩ : ByteArray))) ((1 : Int), f, (⟨#[]⟩ : ByteArray), d)) ((2 : Int), f, n, (⟨#[]⟩ : ByteArray))).live.length V9.c), (.slice V9.K (actD (actD (actD D ((3 : Int), f, (⟨#[]⟩ : ByteArray), (⟨#[]⟩ : ByteArray))) ((1 : Int), f, (⟨#[]⟩ : ByteArray), d)) ((2 : Int), f, n, (⟨#[]⟩ : ByteArray))).safe.length V9.d), (.slice V9.O (actD (actD (actD D ((3 : Int), f, (⟨#[]⟩ : ByteArray), (⟨#[]⟩ : ByteArray))) ((1 : Int), f, (⟨#[]⟩ : ByteArray), d)) ((2 : Int), f, n, (⟨#[]⟩ : ByteArray))).ops.length V9.o)], .int .i64 0]) (by simp [results, Try.results35, go_sem, q0, q1, q2]) rfl ⟨V9, rfl, hp, hbq⟩
          · have hz : (actC (actD (actD D ((3 : Int), f, (⟨#[]⟩ : ByteArray), (⟨#[]⟩ : ByteArray))) ((1 : Int), f, (⟨#[]⟩ : ByteArray), d)) ((2 : Int), f, n, (⟨#[]⟩ : ByteArray)) == 0) = false := by simp [hc6]
            have hnz : (actC (actD (actD D ((3 : Int), f, (⟨#[]⟩ : ByteArray), (⟨#[]⟩ : ByteArray))) ((1 : Int), f, (⟨#[]⟩ : ByteArray), d)) ((2 : Int), f, n, (⟨#[]⟩ : ByteArray)) != 0) = true := by simp [hc6]
            have HE := hid (rep_no HDD.out ((HSQ4.out).trans (seq_no hc6)) hc6)
            have RK6 : RK w6 w6.heap.size V5 (actD (actD D ((3 : Int), f, (⟨#[]⟩ : ByteArray), (⟨#[]⟩ : ByteArray))) ((1 : Int), f, (⟨#[]⟩ : ByteArray), d)) := HO6.out.rk
            have SM6 : SmallX ((2 : Int), f, n, (⟨#[]⟩ : ByteArray)) 4000000 := (small_2 HFS.out HNS.out)
            have HD6 : diskD (actD (actD D ((3 : Int), f, (⟨#[]⟩ : ByteArray), (⟨#[]⟩ : ByteArray))) ((1 : Int), f, (⟨#[]⟩ : ByteArray), d)) = true := (act_disk (act_disk HDD.out hc2) hc4)
            refine (spec_l10Act V5 (actD (actD D ((3 : Int), f, (⟨#[]⟩ : ByteArray), (⟨#[]⟩ : ByteArray))) ((1 : Int), f, (⟨#[]⟩ : ByteArray), d)) ((2 : Int), f, n, (⟨#[]⟩ : ByteArray)) w6 RK6 HD6 SM6).mono ?_
            clear RK6 SM6 HD6
            rintro e w7 ⟨V7, rfl, ho, hb⟩
            have hsz7 : Hid (w2.heap.size ≤ w7.heap.size) := Nat.le_trans hsz6.out hb.size
            have HB7 := hid (HB6.out.trans (hb.mono HB6.out.size))
            have T7 := hid (T6.out.below hb)
            have X7 := hid (X6.out.below hb)
            have Y7 := hid (Y6.out.below hb)
            have HTL6 : Hid (w0.heap.size < w6.heap.size) := Nat.lt_of_lt_of_le hszT.out hsz6.out
            have HO7 := hid ho
            clear ho hb
            have ST := stored3 (w0 := w) (x := (.slice V7.A (actD (actD (actD D ((3 : Int), f, (⟨#[]⟩ : ByteArray), (⟨#[]⟩ : ByteArray))) ((1 : Int), f, (⟨#[]⟩ : ByteArray), d)) ((2 : Int), f, n, (⟨#[]⟩ : ByteArray))).live.length V7.c)) (y := (.slice V7.K (actD (actD (actD D ((3 : Int), f, (⟨#[]⟩ : ByteArray), (⟨#[]⟩ : ByteArray))) ((1 : Int), f, (⟨#[]⟩ : ByteArray), d)) ((2 : Int), f, n, (⟨#[]⟩ : ByteArray))).safe.length V7.d)) (z := (.slice V7.O (actD (actD (actD D ((3 : Int), f, (⟨#[]⟩ : ByteArray), (⟨#[]⟩ : ByteArray))) ((1 : Int), f, (⟨#[]⟩ : ByteArray), d)) ((2 : Int), f, n, (⟨#[]⟩ : ByteArray))).ops.length V7.o)) T7.out
            have T8 := hid ST.row
            have X8 := hid (ST.other _ _ _ _ _ X7.out (by have := XL.out; omega))
            have Y8 := hid (ST.other _ _ _ _ _ Y7.out (by have := HYL.out; omega))
            have HB8 := hid (ST.below (Nat.le_trans HB.out.size (Nat.le_refl _)) HB7.out)
            have HO8 := hid (HO7.out.stored (x := (.slice V7.A (actD (actD (actD D ((3 : Int), f, (⟨#[]⟩ : ByteArray), (⟨#[]⟩ : ByteArray))) ((1 : Int), f, (⟨#[]⟩ : ByteArray), d)) ((2 : Int), f, n, (⟨#[]⟩ : ByteArray))).live.length V7.c)) (y := (.slice V7.K (actD (actD (actD D ((3 : Int), f, (⟨#[]⟩ : ByteArray), (⟨#[]⟩ : ByteArray))) ((1 : Int), f, (⟨#[]⟩ : ByteArray), d)) ((2 : Int), f, n, (⟨#[]⟩ : ByteArray))).safe.length V7.d)) (z := (.slice V7.O (actD (actD (actD D ((3 : Int), f, (⟨#[]⟩ : ByteArray), (⟨#[]⟩ : ByteArray))) ((1 : Int), f, (⟨#[]⟩ : ByteArray), d)) ((2 : Int), f, n, (⟨#[]⟩ : ByteArray))).ops.length V7.o)) T7.out HTL6.out)
            have hsz8 : Hid (w2.heap.size ≤ (((w7.setCell ⟨w0.heap.size, 0, none⟩ (.slice V7.A (actD (actD (actD D ((3 : Int), f, (⟨#[]⟩ : ByteArray), (⟨#[]⟩ : ByteArray))) ((1 : Int), f, (⟨#[]⟩ : ByteArray), d)) ((2 : Int), f, n, (⟨#[]⟩ : ByteArray))).live.length V7.c)).setCell ⟨w0.heap.size, 1, none⟩ (.slice V7.K (actD (actD (actD D ((3 : Int), f, (⟨#[]⟩ : ByteArray), (⟨#[]⟩ : ByteArray))) ((1 : Int), f, (⟨#[]⟩ : ByteArray), d)) ((2 : Int), f, n, (⟨#[]⟩ : ByteArray))).safe.length V7.d)).setCell ⟨w0.heap.size, 2, none⟩ (.slice V7.O (actD (actD (actD D ((3 : Int), f, (⟨#[]⟩ : ByteArray), (⟨#[]⟩ : ByteArray))) ((1 : Int), f, (⟨#[]⟩ : ByteArray), d)) ((2 : Int), f, n, (⟨#[]⟩ : ByteArray))).ops.length V7.o)).heap.size) := by rw [Hid, ST.size]; exact hsz7.out
            clear ST
            have t0 := T7.out.c0
            have t1 := T7.out.c1
            have t2 := T7.out.c2
            have f0 := T7.out.fz 0
            have f1 := T7.out.fz 1
            have f2 := T7.out.fz 2
            have b0 := X7.out.c0
            have b1 := X7.out.c1
            have b2 := X7.out.c2
            go_wp2_with fail
            clear t0 t1 t2 f0 f1 f2 b0 b1 b2
            generalize hgq : ((w7.setCell ⟨w0.heap.size, 0, none⟩ (.slice V7.A (actD (actD (actD D ((3 : Int), f, (⟨#[]⟩ : ByteArray), (⟨#[]⟩ : ByteArray))) ((1 : Int), f, (⟨#[]⟩ : ByteArray), d)) ((2 : Int), f, n, (⟨#[]⟩ : ByteArray))).live.length V7.c)).setCell ⟨w0.heap.size, 1, none⟩ (.slice V7.K (actD (actD (actD D ((3 : Int), f, (⟨#[]⟩ : ByteArray), (⟨#[]⟩ : ByteArray))) ((1 : Int), f, (⟨#[]⟩ : ByteArray), d)) ((2 : Int), f, n, (⟨#[]⟩ : ByteArray))).safe.length V7.d)).setCell ⟨w0.heap.size, 2, none⟩ (.slice V7.O (actD (actD (actD D ((3 : Int), f, (⟨#[]⟩ : ByteArray), (⟨#[]⟩ : ByteArray))) ((1 : Int), f, (⟨#[]⟩ : ByteArray), d)) ((2 : Int), f, n, (⟨#[]⟩ : ByteArray))).ops.length V7.o) = w8 at *
            clear hgq
            have RK8 : RK w8 w8.heap.size V D := ((HRW.out.below HB8.out).more HB8.out.size)
            have LN8 : LenK D 1000 := ((diskD_len HDD.out).more (by decide))
            refine (spec_l10Copy V D w8 RK8 LN8).mono ?_
            clear RK8 LN8
            rintro e w9 ⟨V9, rfl, ho9, hb9⟩
            have HOK := hid ho9
            have HBF := hid (HB8.out.trans (hb9.mono HB8.out.size))
            have Y9 := hid (Y8.out.below hb9)
            have HY2 : Hid (w.heap.size + 1 < w8.heap.size) := Nat.lt_of_lt_of_le HYL.out (Nat.le_trans (Nat.le_of_lt hszT.out) hsz8.out)
            have HW2 : Hid (w.heap.size ≤ w8.heap.size) := HB8.out.size
            clear ho9 hb9
            have z0 := Y9.out.c0
            have z1 := Y9.out.c1
            have z2 := Y9.out.c2
            have k0 := Y9.out.fz 0
            have k1 := Y9.out.fz 1
            have k2 := Y9.out.fz 2
            go_wp2_with fail
            refine world_post (S := fun wq => Row3 wq (w.heap.size + 1) 31 (.slice V9.A D.live.length V9.c) (.slice V9.K D.safe.length V9.d) (.slice V9.O D.ops.length V9.o) ∧ OwnK wq w.heap.size V9 D ∧ Below w.heap.size w wq) _
              ⟨((Y9.out.s0 _).s1 _).s2 _, (HOK.out.stored Y9.out HY2.out).mono HW2.out,
                ((HBF.out.setCell (p := ⟨w.heap.size + 1, 0, none⟩) (by simp) _).setCell (p := ⟨w.heap.size + 1, 1, none⟩) (by simp) _).setCell (p := ⟨w.heap.size + 1, 2, none⟩) (by simp) _⟩ ?_
            clear z0 z1 z2 k0 k1 k2
            intro wq ⟨hq, hp, hbq⟩
            have q0 := hq.c0
            have q1 := hq.c1
            have q2 := hq.c2
            rw [HE.out.1, HE.out.2]
            exact bodyPost_ret (v := .tuple #[.agg #[(.slice V9.A D.live.length V9.c), (.slice V9.K D.safe.length V9.d), (.slice V9.O D.ops.length V9.o)], .int .i64 (actC (actD (actD D ((3 : Int), f, (⟨#[]⟩ : ByteArray), (⟨#[]⟩ : ByteArray))) ((1 : Int), f, (⟨#[]⟩ : ByteArray), d)) ((2 : Int), f, n, (⟨#[]⟩ : ByteArray)))]) (by simp [results, Try.results35, go_sem, q0, q1, q2]) rfl ⟨V9, rfl, hp, hbq⟩
        · have hz : (actC (actD D ((3 : Int), f, (⟨#[]⟩ : ByteArray), (⟨#[]⟩ : ByteArray))) ((1 : Int), f, (⟨#[]⟩ : ByteArray), d) == 0) = false := by simp [hc4]
          have hnz : (actC (actD D ((3 : Int), f, (⟨#[]⟩ : ByteArray), (⟨#[]⟩ : ByteArray))) ((1 : Int), f, (⟨#[]⟩ : ByteArray), d) != 0) = true := by simp [hc4]
          have HE := hid (rep_no HDD.out ((HSQ2.out).trans (seq_no hc4)) hc4)
          have RK4 : RK w4 w4.heap.size V3 (actD D ((3 : Int), f, (⟨#[]⟩ : ByteArray), (⟨#[]⟩ : ByteArray))) := HO4.out.rk
          have SM4 : SmallX ((1 : Int), f, (⟨#[]⟩ : ByteArray), d) 4000000 := (small_1 HFS.out HDS.out)
          have HD4 : diskD (actD D ((3 : Int), f, (⟨#[]⟩ : ByteArray), (⟨#[]⟩ : ByteArray))) = true := (act_disk HDD.out hc2)
          refine (spec_l10Act V3 (actD D ((3 : Int), f, (⟨#[]⟩ : ByteArray), (⟨#[]⟩ : ByteArray))) ((1 : Int), f, (⟨#[]⟩ : ByteArray), d) w4 RK4 HD4 SM4).mono ?_
          clear RK4 SM4 HD4
          rintro e w5 ⟨V5, rfl, ho, hb⟩
          have hsz5 : Hid (w2.heap.size ≤ w5.heap.size) := Nat.le_trans hsz4.out hb.size
          have HB5 := hid (HB4.out.trans (hb.mono HB4.out.size))
          have T5 := hid (T4.out.below hb)
          have X5 := hid (X4.out.below hb)
          have Y5 := hid (Y4.out.below hb)
          have HTL4 : Hid (w0.heap.size < w4.heap.size) := Nat.lt_of_lt_of_le hszT.out hsz4.out
          have HO5 := hid ho
          clear ho hb
          have ST := stored3 (w0 := w) (x := (.slice V5.A (actD (actD D ((3 : Int), f, (⟨#[]⟩ : ByteArray), (⟨#[]⟩ : ByteArray))) ((1 : Int), f, (⟨#[]⟩ : ByteArray), d)).live.length V5.c)) (y := (.slice V5.K (actD (actD D ((3 : Int), f, (⟨#[]⟩ : ByteArray), (⟨#[]⟩ : ByteArray))) ((1 : Int), f, (⟨#[]⟩ : ByteArray), d)).safe.length V5.d)) (z := (.slice V5.O (actD (actD D ((3 : Int), f, (⟨#[]⟩ : ByteArray), (⟨#[]⟩ : ByteArray))) ((1 : Int), f, (⟨#[]⟩ : ByteArray), d)).ops.length V5.o)) T5.out
          have T6 := hid ST.row
          have X6 := hid (ST.other _ _ _ _ _ X5.out (by have := XL.out; omega))
          have Y6 := hid (ST.other _ _ _ _ _ Y5.out (by have := HYL.out; omega))
          have HB6 := hid (ST.below (Nat.le_trans HB.out.size (Nat.le_refl _)) HB5.out)
          have HO6 := hid (HO5.out.stored (x := (.slice V5.A (actD (actD D ((3 : Int), f, (⟨#[]⟩ : ByteArray), (⟨#[]⟩ : ByteArray))) ((1 : Int), f, (⟨#[]⟩ : ByteArray), d)).live.length V5.c)) (y := (.slice V5.K (actD (actD D ((3 : Int), f, (⟨#[]⟩ : ByteArray), (⟨#[]⟩ : ByteArray))) ((1 : Int), f, (⟨#[]⟩ : ByteArray), d)).safe.length V5.d)) (z := (.slice V5.O (actD (actD D ((3 : Int), f, (⟨#[]⟩ : ByteArray), (⟨#[]⟩ : ByteArray))) ((1 : Int), f, (⟨#[]⟩ : ByteArray), d)).ops.length V5.o)) T5.out HTL4.out)
          have hsz6 : Hid (w2.heap.size ≤ (((w5.setCell ⟨w0.heap.size, 0, none⟩ (.slice V5.A (actD (actD D ((3 : Int), f, (⟨#[]⟩ : ByteArray), (⟨#[]⟩ : ByteArray))) ((1 : Int), f, (⟨#[]⟩ : ByteArray), d)).live.length V5.c)).setCell ⟨w0.heap.size, 1, none⟩ (.slice V5.K (actD (actD D ((3 : Int), f, (⟨#[]⟩ : ByteArray), (⟨#[]⟩ : ByteArray))) ((1 : Int), f, (⟨#[]⟩ : ByteArray), d)).safe.length V5.d)).setCell ⟨w0.heap.size, 2, none⟩ (.slice V5.O (actD (actD D ((3 : Int), f, (⟨#[]⟩ : ByteArray), (⟨#[]⟩ : ByteArray))) ((1 : Int), f, (⟨#[]⟩ : ByteArray), d)).ops.length V5.o)).heap.size) := by rw [Hid, ST.size]; exact hsz5.out
          clear ST
          have t0 := T5.out.c0
          have t1 := T5.out.c1
          have t2 := T5.out.c2
          have f0 := T5.out.fz 0
          have f1 := T5.out.fz 1
          have f2 := T5.out.fz 2
          have b0 := X5.out.c0
          have b1 := X5.out.c1
          have b2 := X5.out.c2
          go_wp2_with fail
          clear t0 t1 t2 f0 f1 f2 b0 b1 b2
          generalize hgq : ((w5.setCell ⟨w0.heap.size, 0, none⟩ (.slice V5.A (actD (actD D ((3 : Int), f, (⟨#[]⟩ : ByteArray), (⟨#[]⟩ : ByteArray))) ((1 : Int), f, (⟨#[]⟩ : ByteArray), d)).live.length V5.c)).setCell ⟨w0.heap.size, 1, none⟩ (.slice V5.K (actD (actD D ((3 : Int), f, (⟨#[]⟩ : ByteArray), (⟨#[]⟩ : ByteArray))) ((1 : Int), f, (⟨#[]⟩ : ByteArray), d)).safe.length V5.d)).setCell ⟨w0.heap.size, 2, none⟩ (.slice V5.O (actD (actD D ((3 : Int), f, (⟨#[]⟩ : ByteArray), (⟨#[]⟩ : ByteArray))) ((1 : Int), f, (⟨#[]⟩ : ByteArray), d)).ops.length V5.o) = w6 at *
          clear hgq
          have RK6 : RK w6 w6.heap.size V D := ((HRW.out.below HB6.out).more HB6.out.size)
          have LN6 : LenK D 1000 := ((diskD_len HDD.out).more (by decide))
          refine (spec_l10Copy V D w6 RK6 LN6).mono ?_
          clear RK6 LN6
          rintro e w7 ⟨V9, rfl, ho9, hb9⟩
          have HOK := hid ho9
          have HBF := hid (HB6.out.trans (hb9.mono HB6.out.size))
          have Y9 := hid (Y6.out.below hb9)
          have HY2 : Hid (w.heap.size + 1 < w6.heap.size) := Nat.lt_of_lt_of_le HYL.out (Nat.le_trans (Nat.le_of_lt hszT.out) hsz6.out)
          have HW2 : Hid (w.heap.size ≤ w6.heap.size) := HB6.out.size
          clear ho9 hb9
          have z0 := Y9.out.c0
          have z1 := Y9.out.c1
          have z2 := Y9.out.c2
          have k0 := Y9.out.fz 0
          have k1 := Y9.out.fz 1
          have k2 := Y9.out.fz 2
          go_wp2_with fail
          refine world_post (S := fun wq => Row3 wq (w.heap.size + 1) 31 (.slice V9.A D.live.length V9.c) (.slice V9.K D.safe.length V9.d) (.slice V9.O D.ops.length V9.o) ∧ OwnK wq w.heap.size V9 D ∧ Below w.heap.size w wq) _
            ⟨((Y9.out.s0 _).s1 _).s2 _, (HOK.out.stored Y9.out HY2.out).mono HW2.out,
              ((HBF.out.setCell (p := ⟨w.heap.size + 1, 0, none⟩) (by simp) _).setCell (p := ⟨w.heap.size + 1, 1, none⟩) (by simp) _).setCell (p := ⟨w.heap.size + 1, 2, none⟩) (by simp) _⟩ ?_
          clear z0 z1 z2 k0 k1 k2
          intro wq ⟨hq, hp, hbq⟩
          have q0 := hq.c0
          have q1 := hq.c1
          have q2 := hq.c2
          rw [HE.out.1, HE.out.2]
          exact bodyPost_ret (v := .tuple #[.agg #[(.slice V9.A D.live.length V9.c), (.slice V9.K D.safe.length V9.d), (.slice V9.O D.ops.length V9.o)], .int .i64 (actC (actD D ((3 : Int), f, (⟨#[]⟩ : ByteArray), (⟨#[]⟩ : ByteArray))) ((1 : Int), f, (⟨#[]⟩ : ByteArray), d))]) (by simp [results, Try.results35, go_sem, q0, q1, q2]) rfl ⟨V9, rfl, hp, hbq⟩
      · have hz : (actC D ((3 : Int), f, (⟨#[]⟩ : ByteArray), (⟨#[]⟩ : ByteArray)) == 0) = false := by simp [hc2]
        have hnz : (actC D ((3 : Int), f, (⟨#[]⟩ : ByteArray), (⟨#[]⟩ : ByteArray)) != 0) = true := by simp [hc2]
        have HE := hid (rep_no HDD.out ((HSQ.out).trans (seq_no hc2)) hc2)
        have RK2 : RK w2 w2.heap.size V D := ((HRW.out.below HB2.out).more HB2.out.size)
        have SM2 : SmallX ((3 : Int), f, (⟨#[]⟩ : ByteArray), (⟨#[]⟩ : ByteArray)) 4000000 := (small_1 HFS.out (Nat.zero_le _))
        have HD2 : diskD D = true := HDD.out
        refine (spec_l10Act V D ((3 : Int), f, (⟨#[]⟩ : ByteArray), (⟨#[]⟩ : ByteArray)) w2 RK2 HD2 SM2).mono ?_
        clear RK2 SM2 HD2
        rintro e w3 ⟨V3, rfl, ho, hb⟩
        have hsz3 : Hid (w2.heap.size ≤ w3.heap.size) := Nat.le_trans hsz2.out hb.size
        have HB3 := hid (HB2.out.trans (hb.mono HB2.out.size))
        have T3 := hid (T2.out.below hb)
        have X3 := hid (X2.out.below hb)
        have Y3 := hid (Y2.out.below hb)
        have HTL2 : Hid (w0.heap.size < w2.heap.size) := Nat.lt_of_lt_of_le hszT.out hsz2.out
        have HO3 := hid ho
        clear ho hb
        have ST := stored3 (w0 := w) (x := (.slice V3.A (actD D ((3 : Int), f, (⟨#[]⟩ : ByteArray), (⟨#[]⟩ : ByteArray))).live.length V3.c)) (y := (.slice V3.K (actD D ((3 : Int), f, (⟨#[]⟩ : ByteArray), (⟨#[]⟩ : ByteArray))).safe.length V3.d)) (z := (.slice V3.O (actD D ((3 : Int), f, (⟨#[]⟩ : ByteArray), (⟨#[]⟩ : ByteArray))).ops.length V3.o)) T3.out
        have T4 := hid ST.row
        have X4 := hid (ST.other _ _ _ _ _ X3.out (by have := XL.out; omega))
        have Y4 := hid (ST.other _ _ _ _ _ Y3.out (by have := HYL.out; omega))
        have HB4 := hid (ST.below (Nat.le_trans HB.out.size (Nat.le_refl _)) HB3.out)
        have HO4 := hid (HO3.out.stored (x := (.slice V3.A (actD D ((3 : Int), f, (⟨#[]⟩ : ByteArray), (⟨#[]⟩ : ByteArray))).live.length V3.c)) (y := (.slice V3.K (actD D ((3 : Int), f, (⟨#[]⟩ : ByteArray), (⟨#[]⟩ : ByteArray))).safe.length V3.d)) (z := (.slice V3.O (actD D ((3 : Int), f, (⟨#[]⟩ : ByteArray), (⟨#[]⟩ : ByteArray))).ops.length V3.o)) T3.out HTL2.out)
        have hsz4 : Hid (w2.heap.size ≤ (((w3.setCell ⟨w0.heap.size, 0, none⟩ (.slice V3.A (actD D ((3 : Int), f, (⟨#[]⟩ : ByteArray), (⟨#[]⟩ : ByteArray))).live.length V3.c)).setCell ⟨w0.heap.size, 1, none⟩ (.slice V3.K (actD D ((3 : Int), f, (⟨#[]⟩ : ByteArray), (⟨#[]⟩ : ByteArray))).safe.length V3.d)).setCell ⟨w0.heap.size, 2, none⟩ (.slice V3.O (actD D ((3 : Int), f, (⟨#[]⟩ : ByteArray), (⟨#[]⟩ : ByteArray))).ops.length V3.o)).heap.size) := by rw [Hid, ST.size]; exact hsz3.out
        clear ST
        have t0 := T3.out.c0
        have t1 := T3.out.c1
        have t2 := T3.out.c2
        have f0 := T3.out.fz 0
        have f1 := T3.out.fz 1
        have f2 := T3.out.fz 2
        have b0 := X3.out.c0
        have b1 := X3.out.c1
        have b2 := X3.out.c2
        go_wp2_with fail
        clear t0 t1 t2 f0 f1 f2 b0 b1 b2
        generalize hgq : ((w3.setCell ⟨w0.heap.size, 0, none⟩ (.slice V3.A (actD D ((3 : Int), f, (⟨#[]⟩ : ByteArray), (⟨#[]⟩ : ByteArray))).live.length V3.c)).setCell ⟨w0.heap.size, 1, none⟩ (.slice V3.K (actD D ((3 : Int), f, (⟨#[]⟩ : ByteArray), (⟨#[]⟩ : ByteArray))).safe.length V3.d)).setCell ⟨w0.heap.size, 2, none⟩ (.slice V3.O (actD D ((3 : Int), f, (⟨#[]⟩ : ByteArray), (⟨#[]⟩ : ByteArray))).ops.length V3.o) = w4 at *
        clear hgq
        have RK4 : RK w4 w4.heap.size V D := ((HRW.out.below HB4.out).more HB4.out.size)
        have LN4 : LenK D 1000 := ((diskD_len HDD.out).more (by decide))
        refine (spec_l10Copy V D w4 RK4 LN4).mono ?_
        clear RK4 LN4
        rintro e w5 ⟨V9, rfl, ho9, hb9⟩
        have HOK := hid ho9
        have HBF := hid (HB4.out.trans (hb9.mono HB4.out.size))
        have Y9 := hid (Y4.out.below hb9)
        have HY2 : Hid (w.heap.size + 1 < w4.heap.size) := Nat.lt_of_lt_of_le HYL.out (Nat.le_trans (Nat.le_of_lt hszT.out) hsz4.out)
        have HW2 : Hid (w.heap.size ≤ w4.heap.size) := HB4.out.size
        clear ho9 hb9
        have z0 := Y9.out.c0
        have z1 := Y9.out.c1
        have z2 := Y9.out.c2
        have k0 := Y9.out.fz 0
        have k1 := Y9.out.fz 1
        have k2 := Y9.out.fz 2
        go_wp2_with fail
        refine world_post (S := fun wq => Row3 wq (w.heap.size + 1) 31 (.slice V9.A D.live.length V9.c) (.slice V9.K D.safe.length V9.d) (.slice V9.O D.ops.length V9.o) ∧ OwnK wq w.heap.size V9 D ∧ Below w.heap.size w wq) _
          ⟨((Y9.out.s0 _).s1 _).s2 _, (HOK.out.stored Y9.out HY2.out).mono HW2.out,
            ((HBF.out.setCell (p := ⟨w.heap.size + 1, 0, none⟩) (by simp) _).setCell (p := ⟨w.heap.size + 1, 1, none⟩) (by simp) _).setCell (p := ⟨w.heap.size + 1, 2, none⟩) (by simp) _⟩ ?_
        clear z0 z1 z2 k0 k1 k2
        intro wq ⟨hq, hp, hbq⟩
        have q0 := hq.c0
        have q1 := hq.c1
        have q2 := hq.c2
        rw [HE.out.1, HE.out.2]
        exact bodyPost_ret (v := .tuple #[.agg #[(.slice V9.A D.live.length V9.c), (.slice V9.K D.safe.length V9.d), (.slice V9.O D.ops.length V9.o)], .int .i64 (actC D ((3 : Int), f, (⟨#[]⟩ : ByteArray), (⟨#[]⟩ : ByteArray)))]) (by simp [results, Try.results35, go_sem, q0, q1, q2]) rfl ⟨V9, rfl, hp, hbq⟩
end Go.Proofs.Ytnhipiafnijdnaa
namespace Go.Proofs.Ytnhipiafnijdnaa
open Go.RowKit Go.Shelf

theorem litD1 (w : World) (x : DD) : OwnD (w.alloc (.cells #[.int .i64 x.1, .string x.2.1, .string x.2.2.1, .string x.2.2.2] 45)) w.heap.size (some ⟨w.heap.size, 0, none⟩) 1 [x] :=
  ⟨rfl, .inr ⟨w.heap.size, 1, _, rfl, Nat.le_refl _, heap_alloc_new w _, Nat.le_refl _, by unfold maxLen; omega, rfl, rfl⟩⟩
theorem litD2 (w : World) (x y : DD) : OwnD (w.alloc (.cells #[.int .i64 x.1, .string x.2.1, .string x.2.2.1, .string x.2.2.2, .int .i64 y.1, .string y.2.1, .string y.2.2.1, .string y.2.2.2] 45)) w.heap.size (some ⟨w.heap.size, 0, none⟩) 2 [x, y] :=
  ⟨rfl, .inr ⟨w.heap.size, 2, _, rfl, Nat.le_refl _, heap_alloc_new w _, Nat.le_refl _, by unfold maxLen; omega, rfl, rfl⟩⟩

set_option maxHeartbeats 4000000 in
set_option maxRecDepth 100000 in
theorem impl_layOps (A : Option Addr) (c : Nat) (D : DK) (f d : ByteArray) (w : World) (hr : RP w w.heap.size A D.live) (hn : D.live.length ≤ 100000) (hs : risesB D.live = true) :
    Calls Try.prog 87 #[.slice A D.live.length c, .string f, .string d] w (MadeD w w.heap.size (layL D f d)) := by
  have hb0 : Below w.heap.size w (w.alloc (.cells #[.int .i64 1, .string f, .string ⟨#[]⟩, .string d] 45)) := bl_alloc (Below.refl _ _)
  have HB := hid hb0
  have O := hid (Opc.lit w ((1 : Int), f, (⟨#[]⟩ : ByteArray), d) 45)
  have HR := hid ((hr.below hb0).more hb0.size)
  have HS := hid hs
  clear hr hs hb0
  cases hk : hasK D.live f
  · have HE : Hid (layL D f d = [((1 : Int), f, (⟨#[]⟩ : ByteArray), d)]) := by simp [Hid, layL, hk]
    go_enter Try.func87, Try.ntmps87
    go_wp2_with fail
    refine (impl_valueInF A c D.live f _ HR.out hn HS.out).mono ?_
    rintro e w1 ⟨rfl, hb1⟩
    have HB1 := hid (HB.out.trans (hb1.mono HB.out.size))
    obtain ⟨_, o0, o1, o2, o3⟩ := O.out.below hb1
    clear hb1
    rw [hk]
    go_wp2_with fail
    clear o0 o1 o2 o3
    go_ret
    rw [HE.out]
    exact ⟨_, _, rfl, (litD1 w1 ((1 : Int), f, (⟨#[]⟩ : ByteArray), d)).mono HB1.out.size, bl_alloc HB1.out⟩
  · have HE : Hid (layL D f d = [((3 : Int), f, (⟨#[]⟩ : ByteArray), (⟨#[]⟩ : ByteArray)), ((1 : Int), f, (⟨#[]⟩ : ByteArray), d)]) := by simp [Hid, layL, hk]
    go_enter Try.func87, Try.ntmps87
    go_wp2_with fail
    refine (impl_valueInF A c D.live f _ HR.out hn HS.out).mono ?_
    rintro e w1 ⟨rfl, hb1⟩
    have HB1 := hid (HB.out.trans (hb1.mono HB.out.size))
    obtain ⟨_, o0, o1, o2, o3⟩ := O.out.below hb1
    clear hb1
    rw [hk]
    go_wp2_with fail
    clear o0 o1 o2 o3
    go_ret
    rw [HE.out]
    exact ⟨_, _, rfl, (litD2 w1 ((3 : Int), f, (⟨#[]⟩ : ByteArray), (⟨#[]⟩ : ByteArray)) ((1 : Int), f, (⟨#[]⟩ : ByteArray), d)).mono HB1.out.size, bl_alloc HB1.out⟩

/-- Rows of texts do not lie in a block that holds slices. -/
theorem slice_block {w : World} {g : Nat} {t : TypeId} {A1 A2 A3 : Option Addr} {n1 n2 n3 c1 c2 c3 : Nat} (T : Row3 w g t (.slice A1 n1 c1) (.slice A2 n2 c2) (.slice A3 n3 c3)) {j : Nat} {v : Value} (h : w.cell? ⟨g, j, none⟩ = some v) : ∃ A n c, v = .slice A n c := by
  rcases T.2 with ⟨hv, _⟩ | ⟨g', cap, cur, hv, _, hh, _, _, hsz, _⟩
  · cases hv
  · injection hv with hA _ hc
    injection hA with hA
    injection hA with hg
    subst hg hc
    have hj : j < 3 := by
      rw [cell_of_row _ _ _ _ _ _ hh] at h
      have := (Array.getElem?_eq_some_iff.1 h).1
      omega
    have h0 := T.c0
    have h1 := T.c1
    have h2 := T.c2
    match j, hj with
    | 0, _ => rw [h0] at h; exact ⟨_, _, _, (Option.some.inj h).symm⟩
    | 1, _ => rw [h1] at h; exact ⟨_, _, _, (Option.some.inj h).symm⟩
    | 2, _ => rw [h2] at h; exact ⟨_, _, _, (Option.some.inj h).symm⟩
theorem RP.other {w : World} {B g : Nat} {t : TypeId} {A A1 A2 A3 : Option Addr} {n1 n2 n3 c1 c2 c3 : Nat} {ps : PS} (h : RP w B A ps) (T : Row3 w g t (.slice A1 n1 c1) (.slice A2 n2 c2) (.slice A3 n3 c3)) (j : Nat) (v : Value) : RP (w.setCell ⟨g, j, none⟩ v) B A ps := by
  rcases h with rfl | ⟨b, off, e, hb, hc⟩
  · exact .inl rfl
  · by_cases hp : ps = []
    · exact .inl hp
    · have h0 : 0 < ps.length := List.length_pos_iff.2 hp
      have hne : b ≠ g := fun e => by
        subst e
        obtain ⟨A, n, c, hx⟩ := slice_block T (hc 0 _ (List.getElem?_eq_getElem h0)).1
        cases hx
      refine .inr ⟨b, off, e, hb, fun i p hpi => ?_⟩
      have := hc i p hpi
      have hk : ∀ k, (w.setCell ⟨g, j, none⟩ v).cell? ⟨b, k, none⟩ = w.cell? ⟨b, k, none⟩ := fun k => by
        exact World.cell?_setCell_other (w := w) (v := v) (a := ⟨g, j, none⟩) (b := ⟨b, k, none⟩) (h := fun e => hne (by injection e with e1; exact e1.symm))
      rw [hk, hk]
      exact this
theorem RD.other {w : World} {B g : Nat} {t : TypeId} {A A1 A2 A3 : Option Addr} {n1 n2 n3 c1 c2 c3 : Nat} {ps : DS} (h : RD w B A ps) (T : Row3 w g t (.slice A1 n1 c1) (.slice A2 n2 c2) (.slice A3 n3 c3)) (j : Nat) (v : Value) : RD (w.setCell ⟨g, j, none⟩ v) B A ps := by
  rcases h with rfl | ⟨b, off, e, hb, hc⟩
  · exact .inl rfl
  · by_cases hp : ps = []
    · exact .inl hp
    · have h0 : 0 < ps.length := List.length_pos_iff.2 hp
      have hne : b ≠ g := fun e => by
        subst e
        obtain ⟨A, n, c, hx⟩ := slice_block T (hc 0 _ (List.getElem?_eq_getElem h0)).1
        cases hx
      refine .inr ⟨b, off, e, hb, fun i p hpi => ?_⟩
      have := hc i p hpi
      have hk : ∀ k, (w.setCell ⟨g, j, none⟩ v).cell? ⟨b, k, none⟩ = w.cell? ⟨b, k, none⟩ := fun k => by
        exact World.cell?_setCell_other (w := w) (v := v) (a := ⟨g, j, none⟩) (b := ⟨b, k, none⟩) (h := fun e => hne (by injection e with e1; exact e1.symm))
      rw [hk, hk, hk, hk]
      exact this
theorem RP.three {w : World} {B g : Nat} {t : TypeId} {A A1 A2 A3 E1 E2 E3 : Option Addr} {n1 n2 n3 c1 c2 c3 m1 m2 m3 e1 e2 e3 : Nat} {ps : PS} (h : RP w B A ps) (T : Row3 w g t (.slice A1 n1 c1) (.slice A2 n2 c2) (.slice A3 n3 c3)) : RP (((w.setCell ⟨g, 0, none⟩ (.slice E1 m1 e1)).setCell ⟨g, 1, none⟩ (.slice E2 m2 e2)).setCell ⟨g, 2, none⟩ (.slice E3 m3 e3)) B A ps :=
  ((h.other T 0 _).other (T.s0 _) 1 _).other ((T.s0 _).s1 _) 2 _
theorem RD.three {w : World} {B g : Nat} {t : TypeId} {A A1 A2 A3 E1 E2 E3 : Option Addr} {n1 n2 n3 c1 c2 c3 m1 m2 m3 e1 e2 e3 : Nat} {ps : DS} (h : RD w B A ps) (T : Row3 w g t (.slice A1 n1 c1) (.slice A2 n2 c2) (.slice A3 n3 c3)) : RD (((w.setCell ⟨g, 0, none⟩ (.slice E1 m1 e1)).setCell ⟨g, 1, none⟩ (.slice E2 m2 e2)).setCell ⟨g, 2, none⟩ (.slice E3 m3 e3)) B A ps :=
  ((h.other T 0 _).other (T.s0 _) 1 _).other ((T.s0 _).s1 _) 2 _
theorem impl_layOps_named (A : Option Addr) (c : Nat) (D : DK) (f d : ByteArray) (w : World) (hr : RP w w.heap.size A D.live) (hn : D.live.length ≤ 100000) (hs : risesB D.live = true) :
    Calls Try.prog 87 #[.slice A D.live.length c, .string f, .string d] w fun e w' => ∃ f', f' = f ∧ MadeD w w.heap.size (layL D f' d) e w' :=
  (impl_layOps A c D f d w hr hn hs).mono fun _ _ h => ⟨f, rfl, h⟩
theorem layL_len (D : DK) (f d : ByteArray) : (layL D f d).length ≤ 2 := by
  unfold layL
  split <;> simp
theorem layL_small {D : DK} {f d : ByteArray} (h : f.size ≤ 4000000) (h2 : d.size ≤ 4000000) : ∀ x ∈ layL D f d, SmallX x 4000000 := by
  intro x hx
  unfold layL at hx
  split at hx
  · simp only [List.mem_cons, List.not_mem_nil, or_false] at hx
    rcases hx with rfl | rfl
    · exact small_1 h (Nat.zero_le _)
    · exact small_1 h h2
  · simp only [List.mem_cons, List.not_mem_nil, or_false] at hx
    subst hx
    exact small_1 h h2
theorem seq_drop {D E : DK} {L : DS} {k : Nat} (h : seqD D L = seqD E (L.drop k)) (hk : k < L.length) : seqD D L = seqD E (L[k] :: L.drop (k + 1)) := by
  rw [h, List.drop_eq_getElem_cons hk]

set_option maxHeartbeats 16000000 in
set_option maxRecDepth 100000 in
theorem impl_Replace (V : DV) (D : DK) (n d : ByteArray) (w : World) (hr : RK w w.heap.size V D) (hv : VSK V D) (hn : LenK D 2000000) (hs : SmallK D 4000000) (hns : n.size ≤ 1048576) (hds : d.size ≤ 1048576) :
    Calls Try.prog 36 #[.agg #[.slice V.A D.live.length V.c, .slice V.K D.safe.length V.d, .slice V.O D.ops.length V.o], .string n, .string d] w (MadeKC w w.heap.size (repR D n d) (repC D n d)) := by
  have h0 := (Row3.lit w 31 (.slice V.A D.live.length V.c) (.slice V.K D.safe.length V.d) (.slice V.O D.ops.length V.o)).below ((Below.refl _ _).alloc (Nat.le_refl _) (.cells #[.slice none 0 0, .slice none 0 0, .slice none 0 0] 31))
  have h1 := Row3.lit (w.alloc (.cells #[.slice V.A D.live.length V.c, .slice V.K D.safe.length V.d, .slice V.O D.ops.length V.o] 31)) 31 (.slice none 0 0) (.slice none 0 0) (.slice none 0 0)
  rw [World.size_alloc] at h1
  have hb := ((Below.refl w.heap.size w).alloc (Nat.le_refl _) (.cells #[.slice V.A D.live.length V.c, .slice V.K D.safe.length V.d, .slice V.O D.ops.length V.o] 31)).alloc (by simp) (.cells #[.slice none 0 0, .slice none 0 0, .slice none 0 0] 31)
  have XV := hid h0
  have YV := hid h1
  have HBV := hid hb
  have HRV := hid ((hr.below hb).more hb.size)
  have HN := hid hn
  have HS := hid hs
  have HRW := hid hr
  have HV := hid hv
  have HNS : Hid (n.size ≤ 4000000) := Nat.le_trans hns (by decide)
  have HDS : Hid (d.size ≤ 4000000) := Nat.le_trans hds (by decide)
  have HN0 := hid hns
  clear hr hv hn hs h0 h1 hb
  cases hd : diskD D
  · have HE : Hid (repC D n d = 1 ∧ repR D n d = ⟨[], [], []⟩) := by simp [Hid, repC, repR, hd]
    go_enter Try.func36, Try.ntmps36
    have c0 := XV.out.c0
    have c1 := XV.out.c1
    have c2 := XV.out.c2
    go_wp2_with fail
    clear c0 c1 c2
    generalize hgq : (w.alloc (.cells #[.slice V.A D.live.length V.c, .slice V.K D.safe.length V.d, .slice V.O D.ops.length V.o] 31)).alloc (.cells #[.slice none 0 0, .slice none 0 0, .slice none 0 0] 31) = v0 at *
    clear hgq
    refine (impl_DiskOk V D _ HRV.out HV.out HN.out HS.out).mono ?_
    rintro e w0 ⟨rfl, hb⟩
    have HB := hid (HBV.out.trans (hb.mono HBV.out.size))
    have X := hid (XV.out.below hb)
    have Y := hid (YV.out.below hb)
    have HYL := hid (Y.out.lt)
    have HR := hid ((HRV.out.below hb).more hb.size)
    clear hb
    have Y9 := Y
    have z0 := Y9.out.c0
    have z1 := Y9.out.c1
    have z2 := Y9.out.c2
    have k0 := Y9.out.fz 0
    have k1 := Y9.out.fz 1
    have k2 := Y9.out.fz 2
    go_wp2_with fail
    refine world_post (S := fun wq => Row3 wq (w.heap.size + 1) 31 (.slice none 0 0) (.slice none 0 0) (.slice none 0 0) ∧ Below w.heap.size w wq) _
      ⟨((Y9.out.s0 _).s1 _).s2 _, ((HB.out.setCell (p := ⟨w.heap.size + 1, 0, none⟩) (by simp) _).setCell (p := ⟨w.heap.size + 1, 1, none⟩) (by simp) _).setCell (p := ⟨w.heap.size + 1, 2, none⟩) (by simp) _⟩ ?_
    clear z0 z1 z2 k0 k1 k2
    intro wq ⟨hq, hbq⟩
    have q0 := hq.c0
    have q1 := hq.c1
    have q2 := hq.c2
    rw [HE.out.1, HE.out.2]
    exact bodyPost_ret (v := .tuple #[.agg #[.slice none 0 0, .slice none 0 0, .slice none 0 0], .int .i64 1]) (by simp [results, Try.results36, go_sem, q0, q1, q2]) rfl ⟨⟨none, 0, none, 0, none, 0⟩, rfl, OwnK.nil_ _ _, hbq⟩
  · have HDD := hid hd
    go_enter Try.func36, Try.ntmps36
    have c0 := XV.out.c0
    have c1 := XV.out.c1
    have c2 := XV.out.c2
    go_wp2_with fail
    clear c0 c1 c2
    generalize hgq : (w.alloc (.cells #[.slice V.A D.live.length V.c, .slice V.K D.safe.length V.d, .slice V.O D.ops.length V.o] 31)).alloc (.cells #[.slice none 0 0, .slice none 0 0, .slice none 0 0] 31) = v0 at *
    clear hgq
    refine (impl_DiskOk V D _ HRV.out HV.out HN.out HS.out).mono ?_
    rintro e w0 ⟨rfl, hb⟩
    have HB := hid (HBV.out.trans (hb.mono HBV.out.size))
    have X := hid (XV.out.below hb)
    have Y := hid (YV.out.below hb)
    have HYL := hid (Y.out.lt)
    have HR := hid ((HRV.out.below hb).more hb.size)
    clear hb
    have XL := hid X.out.lt
    have T0 := Row3.lit w0 31 (.slice V.A D.live.length V.c) (.slice V.K D.safe.length V.d) (.slice V.O D.ops.length V.o)
    have hbt : Below w0.heap.size w0 (w0.alloc (.cells #[.slice V.A D.live.length V.c, .slice V.K D.safe.length V.d, .slice V.O D.ops.length V.o] 31)) := bl_alloc (Below.refl _ _)
    have T2 := hid T0
    have X2 := hid (X.out.below hbt)
    have Y2 := hid (Y.out.below hbt)
    have HB2 := hid (HB.out.trans (hbt.mono HB.out.size))
    have HT2 := hid T0.lt
    have b0 := X.out.c0
    have b1 := X.out.c1
    have b2 := X.out.c2
    have b20 := X2.out.c0
    clear T0 hbt
    go_wp2_with fail
    clear b0 b1 b2 b20 hd
    generalize hgq : w0.alloc (.cells #[.slice V.A D.live.length V.c, .slice V.K D.safe.length V.d, .slice V.O D.ops.length V.o] 31) = w2 at *
    clear hgq
    have A2 : D.live.length ≤ 100000 := Nat.le_trans (diskD_len HDD.out).1 (by decide)
    have A1 : RP w2 w2.heap.size V.A D.live := (HRW.out.1.below HB2.out).more HB2.out.size
    have A3 : risesB D.live = true := (filesB_iff.1 (diskB_live HDD.out)).2.1
    refine (impl_layOps_named V.A V.c D _ d w2 A1 A2 A3).mono ?_
    clear A1 A2 A3
    rintro e w3 ⟨f, hf, A3, c3, rfl, ho3, hb3⟩
    rw [← hf]
    have hf2 : f = n ++ newB := by
      first
      | (rw [hf]; exact congrArg (fun b => n ++ b) (ByteArray.ext (by decide)))
      | (rw [hf]; congr 1)
    clear hf
    have HF := hid hf2
    have HFS : Hid (f.size ≤ 4000000) := by
      rw [Hid, hf2, append_size, newB_size]
      have := HN0.out
      omega
    clear hf2
    have HO3 := hid ho3
    have HB3 := hid (HB2.out.trans (hb3.mono HB2.out.size))
    have T3 := hid (T2.out.below hb3)
    have X3 := hid (X2.out.below hb3)
    have Y3 := hid (Y2.out.below hb3)
    have hll := layL_len D f d
    have HO3a := hid (HO3.out.below (bl_alloc (o := .cells #[.int .i64 2, .string f, .string n, .string ⟨#[]⟩] 45) (Below.refl w3.heap.size w3)))
    have T3a := hid (T3.out.below (bl_alloc (o := .cells #[.int .i64 2, .string f, .string n, .string ⟨#[]⟩] 45) (Below.refl w3.heap.size w3)))
    have X3a := hid (X3.out.below (bl_alloc (o := .cells #[.int .i64 2, .string f, .string n, .string ⟨#[]⟩] 45) (Below.refl w3.heap.size w3)))
    have Y3a := hid (Y3.out.below (bl_alloc (o := .cells #[.int .i64 2, .string f, .string n, .string ⟨#[]⟩] 45) (Below.refl w3.heap.size w3)))
    have HB3a := hid (HB3.out.alloc HB3.out.size (.cells #[.int .i64 2, .string f, .string n, .string ⟨#[]⟩] 45))
    have HSZ3 := hid hb3.size
    clear ho3 hb3
    obtain ⟨j0, hj0, hy0, hy1, hy2⟩ := info_parts dopInfo
    go_wp2_with (at_builtin; refine wpList_append_rd _ rfl _ _ _ rfl j0 Try.underlying29 hj0 hy0 hy1 hy2 w2.heap.size A3 (layL D f d).length c3 (layL D f d) rfl rfl HO3a.out _ _ _ _ [((2 : Int), f, n, (⟨#[]⟩ : ByteArray))] rfl rfl (RD.new w3 ((2 : Int), f, n, (⟨#[]⟩ : ByteArray)) _) (by simp; omega) (by have := HSZ3.out; simp; omega) ?_; intro A4 n4 c4 w4 hn4 hap4; have HN4 := hid hn4; have HO4 := hid hap4.own; have T4 := hid (own_turned3 T3a.out (turned_of hap4.grown) (fun e => by have := (World.ownsRow.lt HO3.out _ e).1; have := HT2.out; omega)); have X4 := hid (own_turned3 X3a.out (turned_of hap4.grown) (fun e => by have := (World.ownsRow.lt HO3.out _ e).1; have := HT2.out; have := XL.out; omega)); have Y4 := hid (own_turned3 Y3a.out (turned_of hap4.grown) (fun e => by have := (World.ownsRow.lt HO3.out _ e).1; have := HT2.out; have := HYL.out; omega)); have HB4 := hid (TurnW.below HB3a.out (turned_of hap4.grown) HB3a.out.size (fun q e => by have := (World.ownsRow.lt HO3.out _ e).1; have := HB2.out.size; omega)); clear hn4 hap4)
    have HLL : Hid (layL D f d ++ [((2 : Int), f, n, (⟨#[]⟩ : ByteArray))] = repL D n d) := by rw [Hid, HF.out]; rfl
    have HSML : Hid (∀ x ∈ layL D f d ++ [((2 : Int), f, n, (⟨#[]⟩ : ByteArray))], SmallX x 4000000) := by
      intro x hx
      rcases List.mem_append.1 hx with hx | hx
      · exact layL_small HFS.out HDS.out x hx
      · simp only [List.mem_cons, List.not_mem_nil, or_false] at hx
        subst hx
        exact small_2 HFS.out HNS.out
    have HLN4 : Hid ((layL D f d ++ [((2 : Int), f, n, (⟨#[]⟩ : ByteArray))]).length ≤ 3) := by rw [Hid, List.length_append]; simp; omega
    generalize hgl : layL D f d ++ [((2 : Int), f, n, (⟨#[]⟩ : ByteArray))] = LL at *
    clear hgl hll
    have hln4 : n4 ≤ 3 := by rw [HN4.out]; exact HLN4.out
    have RK0 := hid (show RK w4 w4.heap.size V D from (HRW.out.below HB4.out).more HB4.out.size)
    go_loopw [32] (fun i wr => ∃ (k : Nat) (V2 : DV) (D2 : DK), k ≤ n4 ∧ i = .int .i64 k ∧ Hid (Row3 wr w0.heap.size 31 (.slice V2.A D2.live.length V2.c) (.slice V2.K D2.safe.length V2.d) (.slice V2.O D2.ops.length V2.o)) ∧ Hid (RK wr wr.heap.size V2 D2) ∧ Hid (VSK V2 D2) ∧ Hid (diskD D2 = true) ∧ Hid (seqD D LL = seqD D2 (LL.drop k)) ∧ Hid (RD wr wr.heap.size A4 LL) ∧ Hid (Row3 wr w.heap.size 31 (.slice V.A D.live.length V.c) (.slice V.K D.safe.length V.d) (.slice V.O D.ops.length V.o)) ∧ Hid (Row3 wr (w.heap.size + 1) 31 (.slice none 0 0) (.slice none 0 0) (.slice none 0 0)) ∧ Hid (w0.heap.size < wr.heap.size) ∧ Hid (Below w.heap.size w wr)) (fun i _ => n4 - (intOf i).toNat)
    case atStart => exact ⟨0, V, D, Nat.zero_le _, rfl, T4.out, RK0.out, HV.out, HDD.out, rfl, HO4.out.rh, X4.out, Y4.out, T4.out.lt, HB4.out⟩
    case round =>
      obtain ⟨k, V2, D2, hk, rfl, TT, RR, VV, DDk, SQ, LR, XX, YY, WL, BB⟩ := hrel
      by_cases hlt : k < n4
      · have hlt2 : k < LL.length := by rw [← HN4.out]; exact hlt
        obtain ⟨b, off, rfl, hb, hc1, hc2, hc3, hc4⟩ := LR.out.at_ hlt2
        have HSX : Hid (SmallX LL[k] 4000000) := HSML.out _ (List.getElem_mem hlt2)
        have hba : Below wr.heap.size wr (wr.alloc (.cells #[.int .i64 LL[k].1, .string LL[k].2.1, .string LL[k].2.2.1, .string LL[k].2.2.2] 45)) := bl_alloc (Below.refl _ _)
        have HBA := hid hba
        have HRA := hid ((RR.out.below hba).more hba.size)
        have t0 := TT.out.c0
        have t1 := TT.out.c1
        have t2 := TT.out.c2
        have ta0 := (TT.out.below hba).c0
        have ta1 := (TT.out.below hba).c1
        have ta2 := (TT.out.below hba).c2
        clear hba
        go_wp2_with fail
        clear hc1 hc2 hc3 hc4 t0 t1 t2 ta0 ta1 ta2
        refine (impl_doneOn V2 D2 LL[k] _ HRA.out VV.out ((diskD_len DDk.out).more (by decide)) (diskB_live DDk.out) HSX.out).mono ?_
        rintro e w5 ⟨V5, rfl, hr5, hv5, hb5⟩
        have HB5 := hid (HBA.out.trans (hb5.mono HBA.out.size))
        have HR5 := hid hr5
        have HV5 := hid hv5
        have T5 := hid (TT.out.below HB5.out)
        have X5 := hid (XX.out.below HB5.out)
        have Y5 := hid (YY.out.below HB5.out)
        have HW5 := hid (BB.out.trans (HB5.out.mono BB.out.size))
        have HS5 : Hid (wr.heap.size ≤ w5.heap.size) := HB5.out.size
        have hb6 : Below w5.heap.size w5 (w5.alloc (.cells #[(.slice V5.A (actD D2 LL[k]).live.length V5.c), (.slice V5.K (actD D2 LL[k]).safe.length V5.d), (.slice V5.O (actD D2 LL[k]).ops.length V5.o)] 31)) := bl_alloc (Below.refl _ _)
        have HB6 := hid hb6
        have T6 := hid (T5.out.below hb6)
        have X6 := hid (X5.out.below hb6)
        have Y6 := hid (Y5.out.below hb6)
        have HW6 := hid (HW5.out.trans (hb6.mono HW5.out.size))
        have HR6 := hid ((HR5.out.below hb6).more hb6.size)
        have LR6 := hid (((LR.out.below HB5.out).below (hb6.mono HS5.out)).more (Nat.le_trans HS5.out hb6.size))
        have HS6 : Hid (w0.heap.size < (w5.alloc (.cells #[(.slice V5.A (actD D2 LL[k]).live.length V5.c), (.slice V5.K (actD D2 LL[k]).safe.length V5.d), (.slice V5.O (actD D2 LL[k]).ops.length V5.o)] 31)).heap.size) := Nat.lt_of_lt_of_le WL.out (Nat.le_trans HS5.out hb6.size)
        clear hr5 hv5 hb5 hb6
        have t60 := T6.out.c0
        have t61 := T6.out.c1
        have t62 := T6.out.c2
        have f60 := T6.out.fz 0
        have f61 := T6.out.fz 1
        have f62 := T6.out.fz 2
        have b60 := X6.out.c0
        have b61 := X6.out.c1
        have b62 := X6.out.c2
        by_cases hc : actC D2 LL[k] = 0
        · have HSQ := hid ((seq_drop SQ.out hlt2).trans (seq_yes hc))
          have HDN : Hid (diskD (actD D2 LL[k]) = true) := act_disk DDk.out hc
          rw [hc]
          clear hc
          go_wp2_with fail
          have ST := stored3 (w0 := w) (x := (.slice V5.A (actD D2 LL[k]).live.length V5.c)) (y := (.slice V5.K (actD D2 LL[k]).safe.length V5.d)) (z := (.slice V5.O (actD D2 LL[k]).ops.length V5.o)) T6.out
          go_roundw
          case rel => exact ⟨k + 1, V5, actD D2 LL[k], by omega, by go_num, ST.row, ⟨by simpa using HR6.out.1.three T6.out, by simpa using HR6.out.2.1.three T6.out, by simpa using HR6.out.2.2.three T6.out⟩, HV5.out, HDN.out, HSQ.out, (LR6.out.three T6.out).more (by rw [ST.size]; exact Nat.le_refl _), ST.other _ _ _ _ _ X6.out (by have := XL.out; omega), ST.other _ _ _ _ _ Y6.out (by have := HYL.out; omega), by rw [Hid, ST.size]; exact HS6.out, ST.below (Nat.le_trans HB.out.size (Nat.le_refl _)) HW6.out⟩
          case measure => simp [intOf]; omega
        · have hz : (actC D2 LL[k] == 0) = false := by simp [hc]
          have hnz : (actC D2 LL[k] != 0) = true := by simp [hc]
          have HE := hid (rep_no HDD.out ((congrArg (seqD D) HLL.out).symm.trans ((seq_drop SQ.out hlt2).trans (seq_no hc))) hc)
          clear hc
          go_wp2_with fail
          clear t60 t61 t62 f60 f61 f62 b60 b61 b62
          refine (impl_ownDisk V D _ ((HRW.out.below HW6.out).more HW6.out.size) ((diskD_len HDD.out).more (by decide))).mono ?_
          rintro e w7 ⟨V9, rfl, ho9, hb9⟩
          have HOK := hid ho9
          have HBF := hid (HW6.out.trans (hb9.mono HW6.out.size))
          have Y9 := hid (Y6.out.below hb9)
          have HY2 := hid Y6.out.lt
          have HW2 := hid HW6.out.size
          clear ho9 hb9
          have z0 := Y9.out.c0
          have z1 := Y9.out.c1
          have z2 := Y9.out.c2
          have k0 := Y9.out.fz 0
          have k1 := Y9.out.fz 1
          have k2 := Y9.out.fz 2
          go_wp2_with fail
          refine world_post (S := fun wq => Row3 wq (w.heap.size + 1) 31 (.slice V9.A D.live.length V9.c) (.slice V9.K D.safe.length V9.d) (.slice V9.O D.ops.length V9.o) ∧ OwnK wq w.heap.size V9 D ∧ Below w.heap.size w wq) _
            ⟨((Y9.out.s0 _).s1 _).s2 _, (HOK.out.stored Y9.out HY2.out).mono HW2.out,
              ((HBF.out.setCell (p := ⟨w.heap.size + 1, 0, none⟩) (by simp) _).setCell (p := ⟨w.heap.size + 1, 1, none⟩) (by simp) _).setCell (p := ⟨w.heap.size + 1, 2, none⟩) (by simp) _⟩ ?_
          clear z0 z1 z2 k0 k1 k2
          intro wq ⟨hq, hp, hbq⟩
          have q0 := hq.c0
          have q1 := hq.c1
          have q2 := hq.c2
          rw [HE.out.1, HE.out.2]
          exact bodyPost_ret (v := .tuple #[.agg #[(.slice V9.A D.live.length V9.c), (.slice V9.K D.safe.length V9.d), (.slice V9.O D.ops.length V9.o)], .int .i64 (actC D2 LL[k])]) (by simp [results, Try.results36, go_sem, q0, q1, q2]) rfl ⟨V9, rfl, hp, hbq⟩
      · have hke : k = n4 := by omega
        have HE : Hid (repC D n d = 0 ∧ repR D n d = D2) := rep_yes HDD.out ((congrArg (seqD D) HLL.out).symm.trans (SQ.out.trans (by rw [hke, HN4.out, List.drop_length]; rfl)))
        clear hke
        have t0 := TT.out.c0
        have t1 := TT.out.c1
        have t2 := TT.out.c2
        go_wp2_with fail
        clear t0 t1 t2
        refine (impl_ownDisk V2 D2 _ RR.out ((diskD_len DDk.out).more (by decide))).mono ?_
        rintro e w7 ⟨V9, rfl, ho9, hb9⟩
        have HOK := hid ho9
        have HBF := hid (BB.out.trans (hb9.mono BB.out.size))
        have Y9 := hid (YY.out.below hb9)
        have HY2 := hid YY.out.lt
        have HW2 := hid BB.out.size
        clear ho9 hb9
        have z0 := Y9.out.c0
        have z1 := Y9.out.c1
        have z2 := Y9.out.c2
        have k0 := Y9.out.fz 0
        have k1 := Y9.out.fz 1
        have k2 := Y9.out.fz 2
        go_wp2_with fail
        refine world_post (S := fun wq => Row3 wq (w.heap.size + 1) 31 (.slice V9.A D2.live.length V9.c) (.slice V9.K D2.safe.length V9.d) (.slice V9.O D2.ops.length V9.o) ∧ OwnK wq w.heap.size V9 D2 ∧ Below w.heap.size w wq) _
          ⟨((Y9.out.s0 _).s1 _).s2 _, (HOK.out.stored Y9.out HY2.out).mono HW2.out,
            ((HBF.out.setCell (p := ⟨w.heap.size + 1, 0, none⟩) (by simp) _).setCell (p := ⟨w.heap.size + 1, 1, none⟩) (by simp) _).setCell (p := ⟨w.heap.size + 1, 2, none⟩) (by simp) _⟩ ?_
        clear z0 z1 z2 k0 k1 k2
        intro wq ⟨hq, hp, hbq⟩
        have q0 := hq.c0
        have q1 := hq.c1
        have q2 := hq.c2
        rw [HE.out.1, HE.out.2]
        exact bodyPost_ret (v := .tuple #[.agg #[(.slice V9.A D2.live.length V9.c), (.slice V9.K D2.safe.length V9.d), (.slice V9.O D2.ops.length V9.o)], .int .i64 0]) (by simp [results, Try.results36, go_sem, q0, q1, q2]) rfl ⟨V9, rfl, hp, hbq⟩
end Go.Proofs.Ytnhipiafnijdnaa
