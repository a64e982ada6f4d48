/-
  Appends to empty rows that a region that draws its order made; the model's copies of disks (tools/mkdske.py).
-/
import Derived.Test.YtaiehccpefjbfaaDskC
namespace Go.Proofs.Ytaiehccpefjbfaa
open Go.RowKit Go.Shelf

/-- What an append leaves. -/
structure AppF (w : World) (B : Nat) (A0 : Option Addr) (n0 c0 : Nat) (rs : PS) (A' : Option Addr) (c' : Nat) (w' : World) : Prop where
  own : OwnPF w' B A' c' rs
  grown : w.grownBy w' (Value.ownBlock (.slice A0 n0 c0))
  at_ : Value.ownBlock (.slice A' rs.length c') = Value.ownBlock (.slice A0 n0 c0) ∨ Value.ownBlock (.slice A' rs.length c') = some w.heap.size
theorem AppF.below {w w' : World} {B n0 c0 c' : Nat} {A0 A' : Option Addr} {qs rs : PS} (h : AppF w B A0 n0 c0 rs A' c' w') (ho : OwnPF w B A0 c0 qs) (hn : n0 = qs.length) (hB : B ≤ w.heap.size) : Below B w w' := by
  subst hn
  exact (Below.refl _ _).grown h.grown hB (fun k hk => (World.ownsRow.lt ho k hk).1)

theorem run_append_rf {P : Program} (w : World) (t ty : TypeId) (i : TypeInfo) (ht : P.underlying t = some (.slice 138)) (hi : P.info? 138 = some i)
    (hz : i.zero = some (.agg #[.string ⟨#[]⟩, .string ⟨#[]⟩])) (hsize : i.size = 2) (hby : i.bytes = 32)
    (B : Nat) (A0 : Option Addr) (c0 : Nat) (qs : PS) (hown : OwnPF w B A0 c0 qs) (B' : Nat) (A : Option Addr) (c : Nat) (ps : PS) (hr : RP w B' A ps)
    (hlen : qs.length + ps.length ≤ 4000000) (hbase : B ≤ w.heap.size) :
    ∃ A' c' w', (Builtin.append_ #[t, t] ty #[.slice A0 qs.length c0, .slice A ps.length c]).run P w = .ok (.slice A' (qs ++ ps).length c') w' ∧ AppF w B A0 qs.length c0 (qs ++ ps) A' c' w' := by
  rcases A with _ | ad
  · have h0 : ps = [] := by
      rcases hr with h | ⟨b, off, e, _⟩
      · exact h
      · cases e
    subst h0
    refine ⟨A0, c0, w, ?_, by simpa using hown, ⟨rfl, rfl, rfl, Nat.le_refl _, fun _ _ _ => rfl⟩, .inl (by simp)⟩
    rcases hown.2 with ⟨hv, hn⟩ | ⟨g, cap, cur, hv, _, _, hnc, _⟩
    · injection hv with e1 e2 e3
      subst e1 e3
      simp [Builtin.append_, run_underlying ht, sizeOf, typeInfo, hi, Builtin.lenOf, Builtin.firstCells, hn]
    · injection hv with e1 e2 e3
      subst e1 e3
      simp [Builtin.append_, run_underlying ht, sizeOf, typeInfo, hi, Builtin.lenOf, Builtin.firstCells, hnc, storeCells]
  · have pcells : ∀ j u, (pcells ps)[j]? = some u → w.cell? (ad.add j) = some u := by
      intro j u hu
      rcases hr with rfl | ⟨b, off, e, hb, hc⟩
      · simp [pcells] at hu
      · injection e with e
        subst e
        rw [Addr.add_lit]
        have hj : j < ps.length * 2 := by
          have := (List.getElem?_eq_some_iff.1 hu).1
          rwa [pcells_length] at this
        have hl : j / 2 < ps.length := by omega
        have hp := List.getElem?_eq_getElem hl
        have hd : j = (j / 2) * 2 ∨ j = (j / 2) * 2 + 1 := by omega
        obtain ⟨c0, c1⟩ := hc _ _ hp
        rcases hd with hd | hd
        · have hk := pcells_key ps _ _ hp
          rw [← hd, hu] at hk
          rw [Option.some.inj hk]
          rwa [← hd] at c0
        · have hk := pcells_val ps _ _ hp
          rw [← hd, hu] at hk
          rw [Option.some.inj hk]
          rw [Nat.add_assoc] at c1
          rwa [← hd] at c1
    obtain ⟨v', w', hrun, h2, h3, _, h5⟩ := run_append_own_at (P := P) w B t ty 138 i _ 2 32 ht hi hz hsize hby rfl (by omega) (.slice A0 qs.length c0) qs.length (Go.Proofs.Ytaiehccpefjbfaa.pcells qs) hown ad ps.length c (Go.Proofs.Ytaiehccpefjbfaa.pcells ps) (pcells_length ps) pcells (pcells_one ps) (by unfold maxLen; omega) (by omega) hbase
    rw [← pcells_append] at h2
    rcases h2.2 with ⟨rfl, hn⟩ | ⟨g, cap, cur, rfl, r⟩
    · have e1 : qs = [] := List.eq_nil_of_length_eq_zero (by omega)
      have e2 : ps = [] := List.eq_nil_of_length_eq_zero (by omega)
      subst e1 e2
      exact ⟨none, 0, w', hrun, h2, h3, h5⟩
    · rw [← List.length_append] at h2 hrun h5
      exact ⟨_, _, w', hrun, h2, h3, h5⟩

theorem wpList_append_rf {P : Program} (w : World) {ops : Array Oper} {rest : List Oper} {o : Oper} {a : Act} {Q : Exit → Act → World → Prop} (hgd : o.guard = none) (s x : Operand) (t : TypeId)
    (ho : o.op = .call { callee := .builtin .append, args := #[s, x], argTypes := #[t, t] })
    (i : TypeInfo) (ht : P.underlying t = some (.slice 138)) (hi : P.info? 138 = some i)
    (hz : i.zero = some (.agg #[.string ⟨#[]⟩, .string ⟨#[]⟩])) (hsize : i.size = 2) (hby : i.bytes = 32)
    (B : Nat) (A0 : Option Addr) (n0 c0 : Nat) (qs : PS) (hs : a.eval s = .slice A0 n0 c0) (hn0 : n0 = qs.length) (hown : OwnPF w B A0 c0 qs)
    (B' : Nat) (A : Option Addr) (n c : Nat) (ps : PS) (hx : a.eval x = .slice A n c) (hn : n = ps.length) (hr : RP w B' A ps)
    (hlen : qs.length + ps.length ≤ 4000000) (hbase : B ≤ w.heap.size)
    (h : ∀ A' n' c' w', n' = (qs ++ ps).length → AppF w B A0 n0 c0 (qs ++ ps) A' c' w' → wpList P ops Q rest (a.put o.dst (.slice A' n' c')) w') : wpList P ops Q (o :: rest) a w := by
  subst hn0 hn
  refine wpList_plain hgd fun K hK => ?_
  obtain ⟨A', c', w', hrun, h2⟩ := run_append_rf (P := P) w t o.type i ht hi hz hsize hby B A0 c0 qs hown B' A c ps hr hlen hbase
  unfold Oper.wp execOp
  simp only [ho, resolve, invoke, builtin, Sem.run_bind, Sem.run_pure, Result.andThen_ok, List.map_toArray, List.map_cons, List.map_nil, hs, hx, hrun]
  exact hK _ _ (h A' _ c' w' rfl h2)
theorem step_append_rf {P : Program} (w : World) {ops : Array Oper} {o : Oper} {a : Act} {K : Act → World → Prop} {Q : Exit → Act → World → Prop} {E : Prop} (hgd : o.guard = none) (s x : Operand) (t : TypeId)
    (ho : o.op = .call { callee := .builtin .append, args := #[s, x], argTypes := #[t, t] })
    (i : TypeInfo) (ht : P.underlying t = some (.slice 138)) (hi : P.info? 138 = some i)
    (hz : i.zero = some (.agg #[.string ⟨#[]⟩, .string ⟨#[]⟩])) (hsize : i.size = 2) (hby : i.bytes = 32)
    (B : Nat) (A0 : Option Addr) (n0 c0 : Nat) (qs : PS) (hs : a.eval s = .slice A0 n0 c0) (hn0 : n0 = qs.length) (hown : OwnPF w B A0 c0 qs)
    (B' : Nat) (A : Option Addr) (n c : Nat) (ps : PS) (hx : a.eval x = .slice A n c) (hn : n = ps.length) (hr : RP w B' A ps)
    (hlen : qs.length + ps.length ≤ 4000000) (hbase : B ≤ w.heap.size)
    (h : ∀ A' n' c' w', n' = (qs ++ ps).length → AppF w B A0 n0 c0 (qs ++ ps) A' c' w' → K (a.put o.dst (.slice A' n' c')) w') :
    if Region.wanted o (yielded ops a.tmps) = true then Oper.wp P o a w K Q else E := by
  have hw : Region.wanted o (yielded ops a.tmps) = true := by simp [Region.wanted, hgd]
  rw [if_pos hw]
  subst hn0 hn
  obtain ⟨A', c', w', hrun, h2⟩ := run_append_rf (P := P) w t o.type i ht hi hz hsize hby B A0 c0 qs hown B' A c ps hr hlen hbase
  unfold Oper.wp execOp
  simp only [ho, resolve, invoke, builtin, Sem.run_bind, Sem.run_pure, Result.andThen_ok, List.map_toArray, List.map_cons, List.map_nil, hs, hx, hrun]
  exact h A' _ c' w' rfl h2

/-- Block g is a row of nothing, made by the call. -/
def Emp (w : World) (g : Nat) (t : TypeId) : Prop := w.heap[g]? = some (.cells #[] t (0, 0))
theorem emp_lt {w : World} {g : Nat} {t : TypeId} (h : Emp w g t) : g < w.heap.size := (Array.getElem?_eq_some_iff.1 h).1
theorem emp_new {w : World} {g : Nat} {t : TypeId} (h : g = w.heap.size) : Emp (w.alloc (.cells #[] t)) g t := by
  subst h
  exact heap_alloc_new w _
theorem emp_alloc {w : World} {g : Nat} {t : TypeId} {o : Obj} (h : Emp w g t) : Emp (w.alloc o) g t :=
  (((Below.refl w.heap.size w).alloc (Nat.le_refl _) o).block g (emp_lt h)).trans h
theorem emp_drew {w : World} {g : Nat} {t : TypeId} (h : Emp w g t) : Emp w.drew g t := h
theorem own_emp {w : World} {g B sz : Nat} {t : TypeId} (h : Emp w g t) (hB : B ≤ g) : w.ownsRow B t sz (.slice (some ⟨g, 0, none⟩) 0 0) 0 [] :=
  ⟨by simp, .inr ⟨g, 0, #[], rfl, hB, h, Nat.zero_le _, Nat.zero_le _, by simp, by simp⟩⟩
theorem bl_alloc {w W : World} {o : Obj} (h : Below w.heap.size w W) : Below w.heap.size w (W.alloc o) := h.alloc h.size o
theorem bl_drew {w W : World} (h : Below w.heap.size w W) : Below w.heap.size w W.drew := h.drew
/-- What an append to an empty row leaves, of rows of whatever type. -/
structure Cp (w0 W : World) (g : Nat) (v : Value) (w' : World) : Prop where
  below : Below w0.heap.size w0 w'
  at_ : ∀ k, v.ownBlock = some k → (k = g ∨ k = W.heap.size) ∧ k < w'.heap.size
  emp : ∀ g' t, Emp W g' t → g' ≠ g → Emp w' g' t
  row : ∀ (B e sz n c : Nat) (A : Option Addr) (xs : List Value), W.ownsRow B e sz (.slice A n c) n xs → (∀ k, Value.ownBlock (.slice A n c) = some k → k ≠ g) → w'.ownsRow B e sz (.slice A n c) n xs
  le : W.heap.size ≤ w'.heap.size
theorem cpF {w0 W w' : World} {g c' : Nat} {A' : Option Addr} {ps : PS} (hap : AppF W w0.heap.size (some ⟨g, 0, none⟩) 0 0 ps A' c' w') (hE : Emp W g 138) (hB : w0.heap.size ≤ g) (hb : Below w0.heap.size w0 W) :
    OwnPF w' w0.heap.size A' c' ps ∧ Cp w0 W g (.slice A' ps.length c') w' := by
  have ho : OwnPF W w0.heap.size (some ⟨g, 0, none⟩) 0 [] := own_emp hE hB
  refine ⟨hap.own, hb.trans (hap.below ho rfl hb.size), fun k hk => ⟨?_, (World.ownsRow.lt hap.own k hk).2⟩, fun g' t h hne => ?_, fun B e sz n c A xs h hne => own_turned h (turned_of hap.grown) fun k hk e => hne k hk (by simpa [Value.ownBlock] using e.symm), hap.grown.size⟩
  · rcases hap.at_ with h | h
    · rw [hk] at h
      exact .inl (by simpa [Value.ownBlock] using h)
    · rw [hk] at h
      exact .inr (by simpa using h)
  · exact (hap.grown.block g' (emp_lt h) (fun e => hne (by simpa [Value.ownBlock] using e))).trans h
theorem cpD {w0 W w' : World} {g c' : Nat} {A' : Option Addr} {ps : DS} (hap : AppD W w0.heap.size (some ⟨g, 0, none⟩) 0 0 ps A' c' w') (hE : Emp W g 37) (hB : w0.heap.size ≤ g) (hb : Below w0.heap.size w0 W) :
    OwnD w' w0.heap.size A' c' ps ∧ Cp w0 W g (.slice A' ps.length c') w' := by
  have ho : OwnD W w0.heap.size (some ⟨g, 0, none⟩) 0 [] := own_emp hE hB
  refine ⟨hap.own, hb.trans (hap.below ho rfl hb.size), fun k hk => ⟨?_, (World.ownsRow.lt hap.own k hk).2⟩, fun g' t h hne => ?_, fun B e sz n c A xs h hne => own_turned h (turned_of hap.grown) fun k hk e => hne k hk (by simpa [Value.ownBlock] using e.symm), hap.grown.size⟩
  · rcases hap.at_ with h | h
    · rw [hk] at h
      exact .inl (by simpa [Value.ownBlock] using h)
    · rw [hk] at h
      exact .inr (by simpa using h)
  · exact (hap.grown.block g' (emp_lt h) (fun e => hne (by simpa [Value.ownBlock] using e))).trans h
/-- A disk's three rows, behind a store of all three cells of a block made ahead of them. -/
theorem OwnK.stored {w : World} {g : Nat} {t : TypeId} {a b d x y z : Value} {B : Nat} {V : DV} {D : DK} (h : OwnK w B V D) (h' : Row3 w g t a b d) (hg : g < B) : OwnK (((w.setCell ⟨g, 0, none⟩ x).setCell ⟨g, 1, none⟩ y).setCell ⟨g, 2, none⟩ z) B V D :=
  ⟨own3_set (own3_set (own3_set h.pl h' hg 0 x) (h'.s0 x) hg 1 y) ((h'.s0 x).s1 y) hg 2 z, own3_set (own3_set (own3_set h.ps h' hg 0 x) (h'.s0 x) hg 1 y) ((h'.s0 x).s1 y) hg 2 z, own3_set (own3_set (own3_set h.po h' hg 0 x) (h'.s0 x) hg 1 y) ((h'.s0 x).s1 y) hg 2 z, h.ne⟩

set_option maxHeartbeats 16000000 in
set_option maxRecDepth 100000 in
theorem spec_l10Copy (V : DV) (D : DK) (w : World) (hr : RK w w.heap.size V D) (hn : LenK D 1000) :
    Calls Try.prog 99 #[.agg #[.slice V.A D.live.length V.c, .slice V.K D.safe.length V.d, .slice V.O D.ops.length V.o]] w (MadeK w w.heap.size D) := by
  have h0 := (Row3.lit w 33 (.slice V.A D.live.length V.c) (.slice V.K D.safe.length V.d) (.slice V.O D.ops.length V.o)).below ((Below.refl _ _).alloc (Nat.le_refl _) (.cells #[.slice none 0 0, .slice none 0 0, .slice none 0 0] 33))
  have h1 := Row3.lit (w.alloc (.cells #[.slice V.A D.live.length V.c, .slice V.K D.safe.length V.d, .slice V.O D.ops.length V.o] 33)) 33 (.slice none 0 0) (.slice none 0 0) (.slice none 0 0)
  rw [World.size_alloc] at h1
  have hb := ((Below.refl w.heap.size w).alloc (Nat.le_refl _) (.cells #[.slice V.A D.live.length V.c, .slice V.K D.safe.length V.d, .slice V.O D.ops.length V.o] 33)).alloc (by simp) (.cells #[.slice none 0 0, .slice none 0 0, .slice none 0 0] 33)
  have X := hid h0
  have Y := hid h1
  have HYL := hid h1.lt
  have HB := hid hb
  have HR := hid ((hr.below hb).more hb.size)
  have HN := hid hn
  clear hr hn h0 h1 hb
  obtain ⟨i0, hi0, hz0, hz1, hz2⟩ := info_parts pairInfoF
  obtain ⟨j0, hj0, hy0, hy1, hy2⟩ := info_parts dopInfo
  obtain ⟨hn1, hn2, hn3⟩ := HN.out
  go_enter Try.func99, Try.ntmps99
  go_wp2_with fail
  generalize hgq : (w.alloc (.cells #[.slice V.A D.live.length V.c, .slice V.K D.safe.length V.d, .slice V.O D.ops.length V.o] 33)).alloc (.cells #[.slice none 0 0, .slice none 0 0, .slice none 0 0] 33) = w0 at *
  clear hgq
  have HBF0 := hid (Below.refl w0.heap.size w0)
  have BR0 := hid (Below.refl w0.heap.size w0)
  have hlt0 : w.heap.size < w0.heap.size := X.out.lt
  have b0 := X.out.c0
  have b1 := X.out.c1
  have b2 := X.out.c2
  have tk1 : Hid (1 = 1) := rfl
  have tk2 : Hid (1 = 1) := rfl
  have tk3 : Hid (1 = 1) := rfl
  have tk4 : Hid (1 = 1) := rfl
  go_region_held3 (fun w' => w'.cell? ⟨w.heap.size, 0, none⟩ = some (.slice V.A D.live.length V.c) ∧ w'.cell? ⟨w.heap.size, 1, none⟩ = some (.slice V.K D.safe.length V.d) ∧ w'.cell? ⟨w.heap.size, 2, none⟩ = some (.slice V.O D.ops.length V.o)) (first | (go_keep; done) | (refine ⟨(Below.cell (p := ⟨w.heap.size, 0, none⟩) ?_ hlt3).trans b30, (Below.cell (p := ⟨w.heap.size, 1, none⟩) ?_ hlt3).trans b31, (Below.cell (p := ⟨w.heap.size, 2, none⟩) ?_ hlt3).trans b32⟩ <;> (repeat (first | with_reducible exact BR3.out | with_reducible apply bl_alloc | with_reducible apply bl_drew)) <;> done) | (refine ⟨(Below.cell (p := ⟨w.heap.size, 0, none⟩) ?_ hlt2).trans b20, (Below.cell (p := ⟨w.heap.size, 1, none⟩) ?_ hlt2).trans b21, (Below.cell (p := ⟨w.heap.size, 2, none⟩) ?_ hlt2).trans b22⟩ <;> (repeat (first | with_reducible exact BR2.out | with_reducible apply bl_alloc | with_reducible apply bl_drew)) <;> done) | (refine ⟨(Below.cell (p := ⟨w.heap.size, 0, none⟩) ?_ hlt1).trans b10, (Below.cell (p := ⟨w.heap.size, 1, none⟩) ?_ hlt1).trans b11, (Below.cell (p := ⟨w.heap.size, 2, none⟩) ?_ hlt1).trans b12⟩ <;> (repeat (first | with_reducible exact BR1.out | with_reducible apply bl_alloc | with_reducible apply bl_drew)) <;> done) | (refine ⟨(Below.cell (p := ⟨w.heap.size, 0, none⟩) ?_ hlt0).trans b0, (Below.cell (p := ⟨w.heap.size, 1, none⟩) ?_ hlt0).trans b1, (Below.cell (p := ⟨w.heap.size, 2, none⟩) ?_ hlt0).trans b2⟩ <;> (repeat (first | with_reducible exact BR0.out | with_reducible apply bl_alloc | with_reducible apply bl_drew)) <;> done))
    (first
      | (clear tk1; refine step_append_rf _ (by rfl) _ _ _ (by rfl) i0 Try.underlying30 hi0 hz0 hz1 hz2 w0.heap.size _ 0 0 [] (by rfl) rfl ?_ w0.heap.size V.A D.live.length V.c D.live (by rfl) rfl ?_ (by simp; omega) ?_ ?_; exact own_emp (by repeat (first | (with_reducible refine emp_new ?_; first | (simp; done) | (simp; omega)) | with_reducible apply emp_alloc | with_reducible apply emp_drew)) (by first | omega | (simp; done) | (simp; omega)); exact HR.out.1.below (by repeat (first | with_reducible exact HBF0.out | with_reducible apply bl_alloc | with_reducible apply bl_drew)); exact Below.size (by repeat (first | with_reducible exact HBF0.out | with_reducible apply bl_alloc | with_reducible apply bl_drew)); intro A1 n1 c1 w1 hn1 hap1; have hq1 := cpF hap1 (by repeat (first | (with_reducible refine emp_new ?_; first | (simp; done) | (simp; omega)) | with_reducible apply emp_alloc | with_reducible apply emp_drew)) (by first | omega | (simp; done) | (simp; omega)) (by repeat (first | with_reducible exact HBF0.out | with_reducible apply bl_alloc | with_reducible apply bl_drew)); have HO1 := hid hq1.1; have HC1 := hid hq1.2; have hsz1 := hq1.2.below.size; have hle1 := hq1.2.le; (try simp at hle1); have BR1 := hid (Below.refl w1.heap.size w1); have hlt1 : w.heap.size < w1.heap.size := (by omega); have e1 : n1 = D.live.length := hn1; subst e1; clear hap1 hn1 hq1; have b10 := (X.out.below HC1.out.below).c0; have b11 := (X.out.below HC1.out.below).c1; have b12 := (X.out.below HC1.out.below).c2)
      | (have hck := HC1; clear hck; clear tk2; refine step_append_rf _ (by rfl) _ _ _ (by rfl) i0 Try.underlying30 hi0 hz0 hz1 hz2 w0.heap.size _ 0 0 [] (by rfl) rfl ?_ w0.heap.size V.K D.safe.length V.d D.safe (by rfl) rfl ?_ (by simp; omega) ?_ ?_; exact own_emp (by repeat (first | (with_reducible refine emp_new ?_; first | (simp; done) | (simp; omega)) | with_reducible apply emp_alloc | with_reducible apply emp_drew | (with_reducible refine HC1.out.emp _ _ ?_ (by first | omega | (simp; done) | (simp; omega))))) (by first | omega | (simp; done) | (simp; omega)); exact HR.out.2.1.below (by repeat (first | with_reducible exact HC1.out.below | with_reducible apply bl_alloc | with_reducible apply bl_drew)); exact Below.size (by repeat (first | with_reducible exact HC1.out.below | with_reducible apply bl_alloc | with_reducible apply bl_drew)); intro A2 n2 c2 w2 hn2 hap2; have hq2 := cpF hap2 (by repeat (first | (with_reducible refine emp_new ?_; first | (simp; done) | (simp; omega)) | with_reducible apply emp_alloc | with_reducible apply emp_drew | (with_reducible refine HC1.out.emp _ _ ?_ (by first | omega | (simp; done) | (simp; omega))))) (by first | omega | (simp; done) | (simp; omega)) (by repeat (first | with_reducible exact HC1.out.below | with_reducible apply bl_alloc | with_reducible apply bl_drew)); have HO2 := hid hq2.1; have HC2 := hid hq2.2; have hsz2 := hq2.2.below.size; have hle2 := hq2.2.le; (try simp at hle2); have BR2 := hid (Below.refl w2.heap.size w2); have hlt2 : w.heap.size < w2.heap.size := (by omega); have e2 : n2 = D.safe.length := hn2; subst e2; clear hap2 hn2 hq2; have b20 := (X.out.below HC2.out.below).c0; have b21 := (X.out.below HC2.out.below).c1; have b22 := (X.out.below HC2.out.below).c2)
      | (have hck := HC2; clear hck; clear tk3; refine step_append_rd _ (by rfl) _ _ _ (by rfl) j0 Try.underlying31 hj0 hy0 hy1 hy2 w0.heap.size _ 0 0 [] (by rfl) rfl ?_ w0.heap.size V.O D.ops.length V.o D.ops (by rfl) rfl ?_ (by simp; omega) ?_ ?_; exact own_emp (by repeat (first | (with_reducible refine emp_new ?_; first | (simp; done) | (simp; omega)) | with_reducible apply emp_alloc | with_reducible apply emp_drew | (with_reducible refine HC1.out.emp _ _ ?_ (by first | omega | (simp; done) | (simp; omega))) | (with_reducible refine HC2.out.emp _ _ ?_ (by first | omega | (simp; done) | (simp; omega))))) (by first | omega | (simp; done) | (simp; omega)); exact HR.out.2.2.below (by repeat (first | with_reducible exact HC2.out.below | with_reducible apply bl_alloc | with_reducible apply bl_drew)); exact Below.size (by repeat (first | with_reducible exact HC2.out.below | with_reducible apply bl_alloc | with_reducible apply bl_drew)); intro A3 n3 c3 w3 hn3 hap3; have hq3 := cpD hap3 (by repeat (first | (with_reducible refine emp_new ?_; first | (simp; done) | (simp; omega)) | with_reducible apply emp_alloc | with_reducible apply emp_drew | (with_reducible refine HC1.out.emp _ _ ?_ (by first | omega | (simp; done) | (simp; omega))) | (with_reducible refine HC2.out.emp _ _ ?_ (by first | omega | (simp; done) | (simp; omega))))) (by first | omega | (simp; done) | (simp; omega)) (by repeat (first | with_reducible exact HC2.out.below | with_reducible apply bl_alloc | with_reducible apply bl_drew)); have HO3 := hid hq3.1; have HC3 := hid hq3.2; have hsz3 := hq3.2.below.size; have hle3 := hq3.2.le; (try simp at hle3); have BR3 := hid (Below.refl w3.heap.size w3); have hlt3 : w.heap.size < w3.heap.size := (by omega); have e3 : n3 = D.ops.length := hn3; subst e3; clear hap3 hn3 hq3; have b30 := (X.out.below HC3.out.below).c0; have b31 := (X.out.below HC3.out.below).c1; have b32 := (X.out.below HC3.out.below).c2; have Y9 := hid (Y.out.below HC3.out.below); have z0 := Y9.out.c0; have z1 := Y9.out.c1; have z2 := Y9.out.c2; have k0 := Y9.out.fz 0; have k1 := Y9.out.fz 1; have k2 := Y9.out.fz 2))
  all_goals
    have P12 := HC2.out.row _ _ _ _ _ _ _ (own_below HO1.out (by repeat (first | with_reducible exact BR1.out | with_reducible apply bl_alloc | with_reducible apply bl_drew))) (fun k hk => by have h1 := HC1.out.at_ k hk; (try simp at h1); omega)
    have P13 := HC3.out.row _ _ _ _ _ _ _ (own_below P12 (by repeat (first | with_reducible exact BR2.out | with_reducible apply bl_alloc | with_reducible apply bl_drew))) (fun k hk => by have h1 := HC1.out.at_ k hk; (try simp at h1); omega)
    have P23 := HC3.out.row _ _ _ _ _ _ _ (own_below HO2.out (by repeat (first | with_reducible exact BR2.out | with_reducible apply bl_alloc | with_reducible apply bl_drew))) (fun k hk => by have h1 := HC2.out.at_ k hk; (try simp at h1); omega)
    have HOK : Hid (OwnK w3 w0.heap.size ⟨A1, c1, A2, c2, A3, c3⟩ D) := ⟨P13, P23, HO3.out, fun q h1 h2 => by have h3 := HC1.out.at_ q h1; have h4 := HC2.out.at_ q h2; (try simp at h3 h4); omega⟩
    have HBF := hid HC3.out.below
    clear P12 P13 P23
    go_wp2_with fail
    refine world_post (S := fun wq => Row3 wq (w.heap.size + 1) 33 (.slice A1 D.live.length c1) (.slice A2 D.safe.length c2) (.slice A3 D.ops.length c3) ∧ OwnK wq w.heap.size ⟨A1, c1, A2, c2, A3, c3⟩ D ∧ Below w.heap.size w wq) _
      ⟨((Y9.out.s0 _).s1 _).s2 _, (HOK.out.stored Y9.out HYL.out).mono HB.out.size,
        (((HB.out.trans (HBF.out.mono HB.out.size)).setCell (p := ⟨w.heap.size + 1, 0, none⟩) (by simp) _).setCell (p := ⟨w.heap.size + 1, 1, none⟩) (by simp) _).setCell (p := ⟨w.heap.size + 1, 2, none⟩) (by simp) _⟩ ?_
    clear b0 b1 b2 b10 b11 b12 b20 b21 b22 b30 b31 b32 z0 z1 z2 k0 k1 k2
    intro wq ⟨hq, hp, hbq⟩
    have q0 := hq.c0
    have q1 := hq.c1
    have q2 := hq.c2
    exact bodyPost_ret (v := .agg #[.slice A1 D.live.length c1, .slice A2 D.safe.length c2, .slice A3 D.ops.length c3]) (by simp [results, Try.results99, go_sem, q0, q1, q2]) rfl ⟨⟨A1, c1, A2, c2, A3, c3⟩, rfl, hp, hbq⟩
end Go.Proofs.Ytaiehccpefjbfaa
