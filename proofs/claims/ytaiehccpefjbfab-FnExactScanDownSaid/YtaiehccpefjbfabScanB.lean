/-
  ScanUp of both: contracts.
-/
import Derived.Test.YtaiehccpefjbfabScan
import Derived.Test.YtaiehccpefjbfabWith
namespace Go.Proofs.Ytaiehccpefjbfab
open Go.RowKit Go.Shelf

attribute [local go_sem] Oper.semAt_some

theorem wpListIn_append_rp {F : Fence} {n : Nat} {P : Program} (w : World) {ops : Array Oper} {rest : List Oper} {o : Oper} {a : Act} {Q : Exit → Act → World → Prop} (hgd : o.guard = none) (s x : Operand) (t : TypeId)
    (ho : o.op = .call { callee := .builtin .append, args := #[s, x], argTypes := #[t, t] })
    (i : TypeInfo) (ht : P.underlying t = some (.slice 25)) (hi : P.info? 25 = some i)
    (hz : i.zero = some (.agg #[.string ⟨#[]⟩, .string ⟨#[]⟩])) (hsize : i.size = 2) (hby : i.bytes = 32)
    (B : Nat) (A0 : Option Addr) (n0 c0 : Nat) (qs : PS) (hs : a.eval s = .slice A0 n0 c0) (hn0 : n0 = qs.length) (hown : OwnP w B A0 c0 qs)
    (B' : Nat) (A : Option Addr) (n1 c : Nat) (ps : PS) (hx : a.eval x = .slice A n1 c) (hn : n1 = ps.length) (hr : RP w B' A ps)
    (hlen : qs.length + ps.length ≤ 4000000) (hbase : B ≤ w.heap.size)
    (h : ∀ A' n' c' w', n' = (qs ++ ps).length → OwnP w' B A' c' (qs ++ ps) → Below B w w' → wpListIn F n P ops Q rest (a.put o.dst (.slice A' n' c')) w') : wpListIn F n P ops Q (o :: rest) a w := by
  subst hn0 hn
  refine wpListIn_plain hgd fun K hK => ?_
  obtain ⟨A', c', w', hrun, h2, h3⟩ := run_append_rp (P := P) w t o.type i ht hi hz hsize hby B A0 c0 qs hown B' A c ps hr hlen hbase
  unfold Oper.wpIn
  refine ⟨?_, ?_⟩
  · simp [Oper.about, ho, resolve, Target.leads, Sem.run_pure]
  · rw [Oper.semAt_plain F _ _ (by rw [ho]; intro c hc'; cases hc')]
    simp only [execOp, ho, resolve, invoke, builtin, Sem.run_bind, Sem.run_pure, Result.andThen_ok, List.map_toArray, List.map_cons, List.map_nil, hs, hx, hrun]
    exact hK _ _ (h A' _ c' w' rfl h2 h3)

/-- The first of a list, and the key behind them. -/
def scanL (L : PS) (most : Int) : PS := if most < 0 then [] else L.take most.toNat
def scanK (L : PS) (most : Int) : ByteArray := if most < 0 then ⟨#[]⟩ else match L[most.toNat]? with | some p => p.1 | none => ⟨#[]⟩
theorem scan_neg {L : PS} {most : Int} (h : most < 0) : scanL L most = [] ∧ scanK L most = ⟨#[]⟩ := by simp [scanL, scanK, h]
theorem scan_all {L : PS} {most : Int} (h : (L.length : Int) ≤ most) : scanL L most = L ∧ scanK L most = ⟨#[]⟩ := by
  have h0 : ¬ most < 0 := by omega
  have h1 : L.length ≤ most.toNat := by omega
  simp [scanL, scanK, h0, List.take_of_length_le h1, List.getElem?_eq_none h1]
theorem scan_cut {L : PS} {most : Int} {pre : PS} {x : BB} (hp : pre ++ [x] <+: L) (h : (pre.length : Int) = most) : scanL L most = pre ∧ scanK L most = x.1 := by
  obtain ⟨r, hr⟩ := hp
  have h0 : ¬ most < 0 := by omega
  have h1 : most.toNat = pre.length := by omega
  rw [scanL, scanK, if_neg h0, if_neg h0, h1, ← hr]
  simp
theorem OwnP.abx {B h : Nat} {V C : World} {A : Option Addr} {c : Nat} {ps : PS} {row : Option Nat} (h1 : OwnP V h A c ps) (hg : V.grownBy C row) (hr : ∀ r, row = some r → B ≤ r ∧ r < h) : OwnP C h A c ps :=
  ownsRow_keep h1 fun k hk => hg.block k (h1.size k hk).2 (fun e => by have h2 := (hr k e.symm).2; have h3 := (h1.size k hk).1; omega)
theorem OwnP.set_lo {V : World} {h : Nat} {A : Option Addr} {c : Nat} {ps : PS} (h1 : OwnP V h A c ps) {g j : Nat} (hg : g < h) (v : Value) : OwnP (V.setCell ⟨g, j, none⟩ v) h A c ps :=
  ownsRow_keep h1 fun k hk => Below.heap_setCell _ _ _ _ (by have h3 := (h1.size k hk).1; show k ≠ g; omega)
/-- What ScanUp answers. -/
def ScanPost (w : World) (L : PS) (most : Int) (e : Ending) (w' : World) : Prop := ∃ A c, e = .returned (.tuple #[.slice A (scanL L most).length c, .string (scanK L most)]) ∧ OwnP w' w.heap.size A c (scanL L most) ∧ Below w.heap.size w w'
theorem ScanPost.of {w w' : World} {L l : PS} {k : ByteArray} {most : Int} {A : Option Addr} {c h : Nat} (h1 : scanL L most = l ∧ scanK L most = k) (ho : OwnP w' h A c l) (hh : w.heap.size ≤ h) (hb : Below w.heap.size w w') : ScanPost w L most (.returned (.tuple #[.slice A l.length c, .string k])) w' := by
  obtain ⟨rfl, rfl⟩ := h1
  exact ⟨A, c, rfl, OwnP.mono' ho hh, hb⟩

set_option maxHeartbeats 8000000 in
set_option maxRecDepth 100000 in
theorem impl_ScanUp (A : Option Addr) (c : Nat) (ns : List ND) (lo hi : ByteArray) (most : Int) (w : World) (hr : RN w w.heap.size A ns) (hf : FitsN ns) (hs : SmallN ns) (hl : ns.length ≤ 1048576) :
    Calls Try.prog 26 #[.slice A ns.length c, .string lo, .string hi, .int .i64 most] w (ScanPost w (rangeL (pairsOf ns) lo hi) most) := by
  obtain ⟨i0, hi0, hz0, hz1, hz2⟩ := info_parts pairInfo
  obtain ⟨W3, hW3⟩ : ∃ W3, ((w.alloc (.cells #[.int .i64 most] 2)).alloc (.cells #[.slice none 0 0] 36)).alloc (.cells #[.string ⟨#[]⟩] 9) = W3 := ⟨_, rfl⟩
  have hb3 : Below w.heap.size w W3 := by rw [← hW3]; exact below3 (Below.refl _ _) (Nat.le_refl _)
  have hsz3 : W3.heap.size = w.heap.size + 3 := by rw [← hW3]; simp
  have x0 : One W3 w.heap.size (.int .i64 most) 2 := by
    rw [← hW3]; exact (One.new w _ _).below (((Below.refl _ _).alloc (Nat.le_refl _) _).alloc (by simp) _)
  have x1 : One W3 (w.heap.size + 1) (.slice none 0 0) 36 := by
    rw [← hW3]
    have := (One.new (w.alloc (.cells #[.int .i64 most] 2)) (.slice none 0 0) 36).below ((Below.refl _ _).alloc (Nat.le_refl _) (.cells #[.string ⟨#[]⟩] 9))
    simpa using this
  have x2 : One W3 (w.heap.size + 1 + 1) (.string ⟨#[]⟩) 9 := by
    rw [← hW3]
    have := One.new ((w.alloc (.cells #[.int .i64 most] 2)).alloc (.cells #[.slice none 0 0] 36)) (.string ⟨#[]⟩) 9
    simpa using this
  refine callsIn_wide (n := 3) |>.1 ?_
  by_cases hneg : most < 0
  · have HE := hid (scan_neg (L := rangeL (pairsOf ns) lo hi) hneg)
    have HB3 := hid hb3
    have c0 := x0.c
    clear hb3 x0 x1 x2 hr hf hs hsz3
    subst hW3
    refine callsIn_of_wp_marks Try.func26 rfl trivial ?_ rfl
    simp only [Try.ntmps26, List.size_toArray, List.length_cons, List.length_nil, Nat.reduceAdd, Nat.reduceSub, Array.replicate_succ, Array.replicate_zero, List.push_toArray, List.append_toArray, List.nil_append, List.cons_append]
    gi_wp2
    refine ⟨.tuple #[.slice none 0 0, .string ⟨#[]⟩], ?_, ?_⟩
    · simp [results, Try.f26, go_sem]
    · exact ScanPost.of HE.out (OwnP.nil_ _ w.heap.size) (Nat.le_refl _) HB3.out
  have c0 := x0.c
  have HX0 := hid x0
  have HX1 := hid x1
  have HX2 := hid x2
  have HB3 := hid hb3
  have HS3 := hid hsz3
  clear x0 x1 x2 hb3 hsz3
  subst hW3
  refine callsIn_of_wp_marks Try.func26 rfl trivial ?_ rfl
  simp only [Try.ntmps26, List.size_toArray, List.length_cons, List.length_nil, Nat.reduceAdd, Nat.reduceSub, Array.replicate_succ, Array.replicate_zero, List.push_toArray, List.append_toArray, List.nil_append, List.cons_append]
  gi_wp2_with (refine ⟨trivial, ?_⟩; gi_at_call 47; refine (callsIn_wide.2 (impl_inRange A ns.length c lo hi _)).mono ?_; rintro e W0 ⟨rfl, hW0⟩; have HW0 := hid hW0; clear hW0)
  have hbl : Below (((w.alloc (.cells #[.int .i64 most] 2)).alloc (.cells #[.slice none 0 0] 36)).alloc (.cells #[.string ⟨#[]⟩] 9)).heap.size (((w.alloc (.cells #[.int .i64 most] 2)).alloc (.cells #[.slice none 0 0] 36)).alloc (.cells #[.string ⟨#[]⟩] 9)) ((((w.alloc (.cells #[.int .i64 most] 2)).alloc (.cells #[.slice none 0 0] 36)).alloc (.cells #[.string ⟨#[]⟩] 9)).alloc (.cells #[.slice none 0 0] 36)) := (Below.refl _ _).alloc (Nat.le_refl _) _
  have ol := One.new (((w.alloc (.cells #[.int .i64 most] 2)).alloc (.cells #[.slice none 0 0] 36)).alloc (.cells #[.string ⟨#[]⟩] 9)) (.slice none 0 0) 36
  obtain ⟨hb1, hsz, o0, o1, o2⟩ := inRange_boxes A ns.length c lo hi _ W0 HW0.out
  have p0 := (HX0.out.below hbl).below hb1
  have p1 := (HX1.out.below hbl).below hb1
  have p2 := (HX2.out.below hbl).below hb1
  have p3 := ol.below hb1
  have hb0 : Below w.heap.size w W0 := HB3.out.trans ((hbl.trans (hb1.mono hbl.size)).mono HB3.out.size)
  clear hb1 HW0 hbl ol HX0 HX1 HX2 HB3 HS3 c0
  simp only [World.size_alloc] at hsz o0 o1 o2 p3
  have hseq := inRange_seq (w.heap.size + 1 + 1 + 1 + 1) w.heap.size A c ns lo hi W0 (by omega) (hr.below hb0) hf hs hl o0 o1 o2
  have hcap : Hid ((pairsOf ns).length ≤ 400) := (pairsOf_rise hs hf).1
  refine wpIn_rangeFunc_X (gf := 64) (lb := #[.pointer (some ⟨w.heap.size + 1 + 1 + 1 + 1, 0, none⟩), .pointer (some ⟨w.heap.size + 1 + 1 + 1 + 1 + 1 + 1, 0, none⟩), .pointer (some ⟨w.heap.size + 1 + 1 + 1 + 1 + 1, 0, none⟩)]) (by first | rfl | simp [go_sem]) (enters_of Try.func64 (by kernel_rfl) rfl) hseq (Below.refl _ _) (by omega) (fun k hk => by omega) (fun _ => rfl)
    (fun h pre V => Below w.heap.size w V ∧ One V w.heap.size (.int .i64 most) 2 ∧ One V (w.heap.size + 1) (.slice none 0 0) 36 ∧ One V (w.heap.size + 1 + 1) (.string ⟨#[]⟩) 9 ∧ ((pre.length : Nat) : Int) ≤ most ∧ ∃ A' c', One V (w.heap.size + 1 + 1 + 1) (.slice A' pre.length c') 36 ∧ OwnP V h A' c' pre ∧ (pre = [] → A' = none ∧ c' = 0))
    (fun cd h pre V => cd = .ret ∧ Below w.heap.size w V ∧ ∃ pre0 x A' c', pre = pre0 ++ [x] ∧ ((pre0.length : Nat) : Int) = most ∧ One V (w.heap.size + 1) (.slice A' pre0.length c') 36 ∧ One V (w.heap.size + 1 + 1) (.string x.1) 9 ∧ OwnP V h A' c' pre0)
    (fun h pre X Y row hs hg hr => by
      obtain ⟨h1, h2, h3, h4, h5, A', c', h6, h7, h8⟩ := hs
      exact ⟨below_abx h1 (Nat.le_refl _) (by omega) hg hr, h2.abx (by omega) hg hr, h3.abx (by omega) hg hr, h4.abx (by omega) hg hr, h5, A', c', h6.abx (by omega) hg hr, h7.abx hg hr, h8⟩)
    (fun cd h pre X Y row hs hg hr => by
      obtain ⟨h0, h1, pre0, x, A', c', h2, h3, h4, h5, h6⟩ := hs
      exact ⟨h0, below_abx h1 (Nat.le_refl _) (by omega) hg hr, pre0, x, A', c', h2, h3, h4.abx (by omega) hg hr, h5.abx (by omega) hg hr, h6.abx hg hr⟩)
    (fun h V hh hs hV => by
      obtain ⟨h1, h2, h3, h4, h5, A', c', h6, h7, h8⟩ := hs
      obtain ⟨rfl, rfl⟩ := h8 rfl
      exact ⟨h1, h2, h3, h4, h5, none, 0, h6, OwnP.nil_ _ _, fun _ => ⟨rfl, rfl⟩⟩)
    ⟨hb0, p0, p1, p2, by simp; omega, none, 0, by simpa using p3, OwnP.nil_ _ _, fun _ => ⟨rfl, rfl⟩⟩
    (fun h pre x a' V => ∃ b, h ≤ b ∧ Two V b 25 (.string x.1) (.string x.2) ∧ a' = { tmps := #[.slice A ns.length c, .string lo, .string hi, .int .i64 most, undef, undef, undef, .pointer (some ⟨w.heap.size, 0, none⟩), .pointer (some ⟨w.heap.size + 1, 0, none⟩), .pointer (some ⟨w.heap.size + 1 + 1, 0, none⟩), .pointer (some ⟨w.heap.size + 1 + 1 + 1, 0, none⟩), .pointer (some ⟨b, 0, none⟩), .int .i64 most, .bool false, .slice A ns.length c, .string lo, .string hi, .func (.func 64) #[] #[.pointer (some ⟨w.heap.size + 1 + 1 + 1 + 1, 0, none⟩), .pointer (some ⟨w.heap.size + 1 + 1 + 1 + 1 + 1 + 1, 0, none⟩), .pointer (some ⟨w.heap.size + 1 + 1 + 1 + 1 + 1, 0, none⟩)], .agg #[.string x.1, .string x.2], undef, undef, undef, undef, undef, undef, undef, undef, undef, undef, undef, undef], defers := [] } ∧
      Below w.heap.size w V ∧ One V w.heap.size (.int .i64 most) 2 ∧ One V (w.heap.size + 1) (.slice none 0 0) 36 ∧ One V (w.heap.size + 1 + 1) (.string ⟨#[]⟩) 9 ∧ ((pre.length : Nat) : Int) ≤ most ∧ ∃ A' c', One V (w.heap.size + 1 + 1 + 1) (.slice A' pre.length c') 36 ∧ OwnP V h A' c' pre ∧ (pre = [] → A' = none ∧ c' = 0))
    (fun x a' h pre X Y row hs hg hr => by
      obtain ⟨b, g1, g2, g3, h1, h2, h3, h4, h5, A', c', h6, h7, h8⟩ := hs
      exact ⟨b, g1, g2.abx (.inr g1) hg hr, g3, below_abx h1 (Nat.le_refl _) (by omega) hg hr, h2.abx (by omega) hg hr, h3.abx (by omega) hg hr, h4.abx (by omega) hg hr, h5, A', c', h6.abx (by omega) hg hr, h7.abx hg hr, h8⟩)
    ?assign ?body ?done ?stop
  case assign =>
    rintro l0 m h pre x V K hh hhV ⟨h1, h2, h3, h4, h5, A', c', h6, h7, h8⟩ _ hK
    simp only [encP]
    gi_wp2
    have hbx : Below V.heap.size V (V.alloc (.cells #[.string x.1, .string x.2] 25)) := (Below.refl _ _).alloc (Nat.le_refl _) _
    refine hK _ _ ((KeptX.refl _ _ _ _).alloc (by omega) hhV _) (fun k hk => Below.heap_alloc _ _ _ (by omega)) ⟨V.heap.size, hhV, Two.new _ _ _ _, rfl, h1.alloc (by omega) _, h2.below hbx, h3.below hbx, h4.below hbx, h5, A', c', h6.below hbx, h7.below hbx, h8⟩
  case body =>
    rintro l0 m h pre x a' V hh hhV ⟨b, g1, g2, rfl, h1, h2, h3, h4, h5, A', c', h6, h7, h8⟩ hlen
    have q0 := g2.c0
    have q1 := g2.c1
    have c2 := h2.c
    have c3 := h3.c
    have c4 := h4.c
    have c6 := h6.c
    have z3 := h3.fz
    have z4 := h4.fz
    have z6 := h6.fz
    have H1 := hid h1
    have H2 := hid h2
    have H3 := hid h3
    have H4 := hid h4
    have H6 := hid h6
    have H7 := hid h7
    have HL : Hid (pre.length ≤ 400) := by have := hcap.out; rw [Hid]; omega
    clear g2 h1 h2 h3 h4 h6 h7 h8 hlen hseq o0 o1 o2 p0 p1 p2 p3 hb0 hr hf hs
    by_cases heq : ((pre.length : Nat) : Int) = most
    · have g0 : (((pre.length : Nat) : Int) == most) = true := by simp [heq]
      have HQ := hid heq
      clear heq h5
      have hmix : Try.prog.follows .mixedOrders = true := by kernel_rfl
      gi_wp2
      gi_region_with_o fail
      all_goals gi_wp2
      all_goals
        first
        | (have kx := ((KeptX.refl w.heap.size W0.heap.size h V).set (g := (w.heap.size + 1)) (j := 0) (by omega) (.inl (by omega)) (.slice A' pre.length c')).set (g := (w.heap.size + 1 + 1)) (j := 0) (by omega) (.inl (by omega)) (.string x.1)
           refine ⟨⟨kx.bel.drew, kx.iv⟩, rfl, ((H1.out.setCell (p := ⟨(w.heap.size + 1), 0, none⟩) (by show w.heap.size ≤ (w.heap.size + 1); omega) (.slice A' pre.length c')).setCell (p := ⟨(w.heap.size + 1 + 1), 0, none⟩) (by show w.heap.size ≤ (w.heap.size + 1 + 1); omega) (.string x.1)).drew, pre, x, A', c', rfl, HQ.out, ?_, ?_, (H7.out.set_lo (g := (w.heap.size + 1)) (j := 0) (by omega) (.slice A' pre.length c')).set_lo (g := (w.heap.size + 1 + 1)) (j := 0) (by omega) (.string x.1)⟩
           · exact (H3.out.set (.slice A' pre.length c')).other (by omega) _
           · exact (H4.out.other (by omega) _).set (.string x.1))
        | (have kx := ((KeptX.refl w.heap.size W0.heap.size h V).set (g := (w.heap.size + 1 + 1)) (j := 0) (by omega) (.inl (by omega)) (.string x.1)).set (g := (w.heap.size + 1)) (j := 0) (by omega) (.inl (by omega)) (.slice A' pre.length c')
           refine ⟨⟨kx.bel.drew, kx.iv⟩, rfl, ((H1.out.setCell (p := ⟨(w.heap.size + 1 + 1), 0, none⟩) (by show w.heap.size ≤ (w.heap.size + 1 + 1); omega) (.string x.1)).setCell (p := ⟨(w.heap.size + 1), 0, none⟩) (by show w.heap.size ≤ (w.heap.size + 1); omega) (.slice A' pre.length c')).drew, pre, x, A', c', rfl, HQ.out, ?_, ?_, (H7.out.set_lo (g := (w.heap.size + 1 + 1)) (j := 0) (by omega) (.string x.1)).set_lo (g := (w.heap.size + 1)) (j := 0) (by omega) (.slice A' pre.length c')⟩
           · exact (H3.out.other (by omega) _).set (.slice A' pre.length c')
           · exact (H4.out.set (.string x.1)).other (by omega) _)
    · have g0 : (((pre.length : Nat) : Int) == most) = false := by simp [heq]
      have HQ : Hid (((pre ++ [x]).length : Int) ≤ most) := by rw [Hid]; simp; omega
      clear heq h5
      gi_wp2_with (gi_at_builtin; refine wpListIn_append_rp _ rfl _ _ _ rfl i0 Try.underlying36 hi0 hz0 hz1 hz2 h A' _ c' pre rfl rfl (H7.out.below ((Below.refl _ _).alloc (Nat.le_refl _) _)) _ _ _ _ [x] rfl rfl (RP.new _ x _) (by have := HL.out; simp; omega) (by simp; omega) ?_; intro A2 n2 c2' w2 hn2 ho2 hb2; have HN2 := hid hn2; have HO2 := hid ho2; have HB2 := hid (((Below.refl h V).alloc hhV _).trans hb2); have d6 := (H6.out.belowB HB2.out (by omega)).c; have e6 := (H6.out.belowB HB2.out (by omega)).fz; clear hn2 ho2 hb2)
      have hw2 : KeptX w.heap.size W0.heap.size h V w2 := ⟨HB2.out.mono (by omega), fun k _ hk => HB2.out.block k hk⟩
      refine ⟨⟨hw2.set (by omega) (.inl (by omega)) _, fun k hk => (Below.heap_setCell _ _ _ _ (by show k ≠ w.heap.size + 1 + 1 + 1; omega)).trans (HB2.out.block k (by omega))⟩, (H1.out.trans (HB2.out.mono (by omega))).setCell (p := ⟨w.heap.size + 1 + 1 + 1, 0, none⟩) (by show w.heap.size ≤ w.heap.size + 1 + 1 + 1; omega) _,
        (H2.out.belowB HB2.out (by omega)).other (by omega) _, (H3.out.belowB HB2.out (by omega)).other (by omega) _, (H4.out.belowB HB2.out (by omega)).other (by omega) _, HQ.out, A2, c2', ?_, HO2.out.set_lo (by omega) _, fun e => absurd e (by simp)⟩
      have := (H6.out.belowB HB2.out (by omega)).set (.slice A2 n2 c2')
      rw [HN2.out] at this
      rw [HN2.out]
      exact this
  case done =>
    rintro D h xs V hD hDh rfl ⟨h1, h2, h3, h4, h5, A', c', h6, h7, h8⟩ hK
    have HE := hid (scan_all h5)
    have c3 := h3.c
    have c4 := h4.c
    have c6 := h6.c
    have z3 := h3.fz
    have z4 := h4.fz
    have H1 := hid h1
    have H3 := hid h3
    have H4 := hid h4
    have H7 := hid h7
    have HD := hid hD
    have HDH := hid hDh
    have HK := hid hK
    have HSZ := hid hsz
    clear h1 h2 h3 h4 h5 h6 h7 h8 hseq o0 o1 o2 p0 p1 p2 p3 hb0 hr hf hs hD hDh hK hsz
    gi_wp2
    obtain ⟨W5, hW5⟩ : ∃ W5, (V.setCell ⟨w.heap.size + 1, 0, none⟩ (.slice A' (rangeL (pairsOf ns) lo hi).length c')).setCell ⟨w.heap.size + 1 + 1, 0, none⟩ (.string ⟨#[]⟩) = W5 := ⟨_, rfl⟩
    have hp1 : D ≠ w.heap.size + 1 := by have := HD.out; have := HSZ.out; omega
    have hp2 : D ≠ w.heap.size + 1 + 1 := by have := HD.out; have := HSZ.out; omega
    have hK5 : W5.heap[D]? = some (.deferred (some [])) := by
      rw [← hW5]
      exact (Below.heap_setCell _ _ _ _ hp2).trans ((Below.heap_setCell _ _ _ _ hp1).trans HK.out)
    have hB5 : Below w.heap.size w W5 := by
      rw [← hW5]
      exact (H1.out.setCell (p := ⟨w.heap.size + 1, 0, none⟩) (by simp) _).setCell (p := ⟨w.heap.size + 1 + 1, 0, none⟩) (by simp; omega) _
    have y1 : One W5 (w.heap.size + 1) (.slice A' (rangeL (pairsOf ns) lo hi).length c') 36 := by
      rw [← hW5]
      exact (H3.out.set _).other (by omega) _
    have y2 : One W5 (w.heap.size + 1 + 1) (.string ⟨#[]⟩) 9 := by
      rw [← hW5]
      exact (H4.out.other (by omega) _).set _
    have y3 : OwnP W5 h A' c' (rangeL (pairsOf ns) lo hi) := by
      rw [← hW5]
      exact (H7.out.set_lo (by have := HDH.out; have := HD.out; have := HSZ.out; omega) _).set_lo (by have := HDH.out; have := HD.out; have := HSZ.out; omega) _
    rw [hW5]
    clear hW5 c3 c4 c6 z3 z4
    refine ⟨by simp, .inl ⟨_, _, rfl, run_takeDeferred hK5, ?_⟩⟩
    have k1 : One (W5.putObj D (.deferred none)) (w.heap.size + 1) (.slice A' (rangeL (pairsOf ns) lo hi).length c') 36 := (World.putObj_heap_other hp1.symm).trans y1
    have k2 : One (W5.putObj D (.deferred none)) (w.heap.size + 1 + 1) (.string ⟨#[]⟩) 9 := (World.putObj_heap_other hp2.symm).trans y2
    have k3 : OwnP (W5.putObj D (.deferred none)) h A' c' (rangeL (pairsOf ns) lo hi) := ownsRow_keep y3 fun k hk => World.putObj_heap_other (by have h3 := (y3.size k hk).1; have := HDH.out; omega)
    have q1 := k1.c
    have q2 := k2.c
    refine ⟨.tuple #[.slice A' (rangeL (pairsOf ns) lo hi).length c', .string ⟨#[]⟩], ?_, ?_⟩
    · simp [results, Try.f26, go_sem, q1, q2]
    · exact ScanPost.of HE.out k3 (by have := HDH.out; have := HD.out; have := HSZ.out; omega) (below_end hB5 hK5 (by have := HD.out; have := HSZ.out; omega))
  case stop =>
    rintro D h cd pre V hD hDh hSp ⟨rfl, h1, pre0, x, A', c', rfl, h3, h4, h5, h6⟩ hK
    have HE := hid (scan_cut hSp h3)
    have H1 := hid h1
    have H4 := hid h4
    have H5 := hid h5
    have H6 := hid h6
    have HD := hid hD
    have HDH := hid hDh
    have HK := hid hK
    have HSZ := hid hsz
    clear h1 h3 h4 h5 h6 hSp hseq o0 o1 o2 p0 p1 p2 p3 hb0 hr hf hs hD hDh hsz
    gi_wp2
    have hp1 : D ≠ w.heap.size + 1 := by have := HD.out; have := HSZ.out; omega
    have hp2 : D ≠ w.heap.size + 1 + 1 := by have := HD.out; have := HSZ.out; omega
    refine ⟨by simp, .inl ⟨_, _, rfl, run_takeDeferred HK.out, ?_⟩⟩
    have k1 : One (V.putObj D (.deferred none)) (w.heap.size + 1) (.slice A' pre0.length c') 36 := (World.putObj_heap_other hp1.symm).trans H4.out
    have k2 : One (V.putObj D (.deferred none)) (w.heap.size + 1 + 1) (.string x.1) 9 := (World.putObj_heap_other hp2.symm).trans H5.out
    have k3 : OwnP (V.putObj D (.deferred none)) h A' c' pre0 := ownsRow_keep H6.out fun k hk => World.putObj_heap_other (by have h3 := (H6.out.size k hk).1; have := HDH.out; omega)
    have q1 := k1.c
    have q2 := k2.c
    refine ⟨.tuple #[.slice A' pre0.length c', .string x.1], ?_, ?_⟩
    · simp [results, Try.f26, go_sem, q1, q2]
    · exact ScanPost.of HE.out k3 (by have := HDH.out; have := HD.out; have := HSZ.out; omega) (below_end H1.out HK.out (by have := HD.out; have := HSZ.out; omega))
end Go.Proofs.Ytaiehccpefjbfab
