/-
  The program's Rank: contract.
-/
import Derived.Test.YtaiehccpefjbfabTurn
namespace Go.Proofs.Ytaiehccpefjbfab
open Go.RowKit Go.Shelf

attribute [local go_sem] Oper.semAt_some

theorem One.abx {B h g : Nat} {A C : World} {v : Value} {t : TypeId} {row : Option Nat} (h1 : One A g v t) (hg : g < B) (hgr : A.grownBy C row) (hr : ∀ r, row = some r → B ≤ r ∧ r < h) : One C g v t :=
  h1.gr' hgr (fun k e => by have := (hr k e).1; omega)
theorem below_abx {n₀ B h : Nat} {w A C : World} {row : Option Nat} (h1 : Below n₀ w A) (hw : n₀ ≤ w.heap.size) (hB : n₀ ≤ B) (hgr : A.grownBy C row) (hr : ∀ r, row = some r → B ≤ r ∧ r < h) : Below n₀ w C :=
  h1.grown hgr (by have := h1.size; omega) (fun k e => by have := (hr k e).1; omega)

/-- A block of two cells. -/
def Two (w : World) (b : Nat) (t : TypeId) (x y : Value) : Prop := w.heap[b]? = some (.cells #[x, y] t (0, 0))
theorem Two.new (w : World) (t : TypeId) (x y : Value) : Two (w.alloc (.cells #[x, y] t)) w.heap.size t x y := heap_alloc_new w _
theorem Two.lt {w : World} {b : Nat} {t : TypeId} {x y : Value} (h : Two w b t x y) : b < w.heap.size := lt_of_block h
theorem Two.c0 {w : World} {b : Nat} {t : TypeId} {x y : Value} (h : Two w b t x y) : w.cell? ⟨b, 0, none⟩ = some x := by simp [World.cell?, show w.heap[b]? = _ from h]
theorem Two.c1 {w : World} {b : Nat} {t : TypeId} {x y : Value} (h : Two w b t x y) : w.cell? ⟨b, 1, none⟩ = some y := by simp [World.cell?, show w.heap[b]? = _ from h]
theorem Two.fz {w : World} {b j : Nat} {t : TypeId} {x y : Value} (h : Two w b t x y) : w.frozen? ⟨b, j, none⟩ = false := by simp [World.frozen?, show w.heap[b]? = _ from h]
theorem Two.kept {w w' : World} {b : Nat} {t : TypeId} {x y : Value} (h : Two w b t x y) (hk : w'.heap[b]? = w.heap[b]?) : Two w' b t x y := hk.trans h
theorem Two.below {w w' : World} {b : Nat} {t : TypeId} {x y : Value} (h : Two w b t x y) (hb : Below w.heap.size w w') : Two w' b t x y := h.kept (hb.block b h.lt)
theorem Two.belowB {w w' : World} {b B : Nat} {t : TypeId} {x y : Value} (h : Two w b t x y) (hb : Below B w w') (hlt : b < B) : Two w' b t x y := h.kept (hb.block b hlt)
theorem Two.other {w : World} {b g j : Nat} {t : TypeId} {x y : Value} (h : Two w b t x y) (hne : b ≠ g) (v : Value) : Two (w.setCell ⟨g, j, none⟩ v) b t x y := h.kept (Below.heap_setCell _ _ _ _ hne)
theorem Two.set0 {w : World} {b : Nat} {t : TypeId} {x y : Value} (h : Two w b t x y) (u : Value) : Two (w.setCell ⟨b, 0, none⟩ u) b t u y := by
  show (w.heap.modify b _)[b]? = _
  rw [Array.getElem?_modify, if_pos rfl, show w.heap[b]? = _ from h]
  rfl
theorem Two.set1 {w : World} {b : Nat} {t : TypeId} {x y : Value} (h : Two w b t x y) (u : Value) : Two (w.setCell ⟨b, 1, none⟩ u) b t x u := by
  show (w.heap.modify b _)[b]? = _
  rw [Array.getElem?_modify, if_pos rfl, show w.heap[b]? = _ from h]
  rfl
theorem Two.abx {B h g : Nat} {A C : World} {x y : Value} {t : TypeId} {row : Option Nat} (h1 : Two A g t x y) (hg : g < B ∨ h ≤ g) (hgr : A.grownBy C row) (hr : ∀ r, row = some r → B ≤ r ∧ r < h) : Two C g t x y :=
  h1.kept (hgr.block g h1.lt (fun e => by have := hr g e.symm; omega))

theorem turn_snd (L : PS) : (turn L).map (·.2) = L := by
  rw [turn, List.map_map]
  have : ((fun x : Nat × BB => x.2) ∘ fun x : BB × Nat => (x.2, x.1)) = Prod.fst := rfl
  rw [this, List.zipIdx_map_fst]
theorem cnt_all {L : PS} {k : ByteArray} (h : ∀ x ∈ turn L, ltS x.2.1 k = true) : (turn L).length = cnt L k := by
  rw [turn_length]
  refine (cnt_eq L k L.length (Nat.le_refl _) (fun i hi _ => ?_) (fun i hi hle => by omega)).symm
  have hm : L[i] ∈ (turn L).map (·.2) := by rw [turn_snd]; exact List.getElem_mem hi
  obtain ⟨x, hx, e⟩ := List.mem_map.1 hm
  rw [← e]
  exact h x hx
theorem cnt_stop {L : PS} {k : ByteArray} {pre : List (Nat × BB)} {x : Nat × BB} (hp : pre ++ [x] <+: turn L) (h : ∀ y ∈ pre, ltS y.2.1 k = true) (hx : ltS x.2.1 k = false) : pre.length = cnt L k := by
  obtain ⟨r, hr⟩ := hp
  have hL : L = pre.map (·.2) ++ (x.2 :: r.map (·.2)) := by
    rw [← turn_snd L, ← hr]
    simp
  rw [cnt, hL, List.takeWhile_append_of_pos (by
    intro p hp
    obtain ⟨y, hy, rfl⟩ := List.mem_map.1 hp
    exact h y hy), List.takeWhile_cons_of_neg (by simp [hx])]
  simp

/-- At a return: the mark's block is shut. -/
theorem below_end {n₀ : Nat} {w W : World} {D : Nat} {o o' : Obj} (h : Below n₀ w W) (hK : W.heap[D]? = some o) (hD : n₀ ≤ D) : Below n₀ w (W.putObj D o') :=
  h.grown (grownBy_putObj' W D o') (by have := (Array.getElem?_eq_some_iff.1 hK).1; omega) (fun k e => by cases e; exact hD)

set_option maxHeartbeats 4000000 in
set_option maxRecDepth 100000 in
theorem impl_Rank (A : Option Addr) (c : Nat) (ns : List ND) (k : ByteArray) (w : World) (hr : RN w w.heap.size A ns) (hf : FitsN ns) (hs : SmallN ns) (hl : ns.length ≤ 1048576) :
    Calls Try.prog 22 #[.slice A ns.length c, .string k] w fun e w' => e = .returned (.int .i64 ((cnt (pairsOf ns) k : Nat) : Int)) ∧ Below w.heap.size w w' := by
  refine callsIn_wide (n := 3) |>.1 ?_
  refine callsIn_of_wp_marks Try.func22 rfl trivial ?_ rfl
  simp only [Try.ntmps22, List.size_toArray, List.length_cons, List.length_nil, Nat.reduceAdd, Nat.reduceSub, Array.replicate_succ, Array.replicate_zero, List.push_toArray, List.append_toArray, List.nil_append, List.cons_append]
  gi_wp2_with (refine ⟨trivial, ?_⟩; gi_at_call 42; refine (callsIn_wide.2 (impl_inTurn A ns.length c _)).mono ?_; rintro e w' ⟨rfl, rfl⟩)
  obtain ⟨W0, hW0⟩ : ∃ W0, ((w.alloc (.cells #[.string k] 9)).alloc (.cells #[.int .i64 0] 2)).alloc (.cells #[.slice A ns.length c] 28) = W0 := ⟨_, rfl⟩
  have hb0 : Below w.heap.size w W0 := by rw [← hW0]; exact below3 (Below.refl _ _) (Nat.le_refl _)
  have hsz : W0.heap.size = w.heap.size + 3 := by rw [← hW0]; simp
  have o0 : One W0 w.heap.size (.string k) 9 := by
    rw [← hW0]; exact (One.new w _ _).below (((Below.refl _ _).alloc (Nat.le_refl _) _).alloc (by simp) _)
  have o1 : One W0 (w.heap.size + 1) (.int .i64 0) 2 := by
    rw [← hW0]
    have := (One.new (w.alloc (.cells #[.string k] 9)) (.int .i64 0) 2).below ((Below.refl _ _).alloc (Nat.le_refl _) (.cells #[.slice A ns.length c] 28))
    simpa using this
  have o2 : One W0 (w.heap.size + 1 + 1) (.slice A ns.length c) 28 := by
    rw [← hW0]
    have := One.new ((w.alloc (.cells #[.string k] 9)).alloc (.cells #[.int .i64 0] 2)) (.slice A ns.length c) 28
    simpa using this
  have hseq := inTurn_seq (w.heap.size + 1 + 1) w.heap.size (fun _ => False) A c ns W0 (by omega) (hr.below hb0) hf hs hl o2
  have hcap : Hid ((pairsOf ns).length ≤ 400) := (pairsOf_rise hs hf).1
  rw [hW0]
  clear hW0
  refine wpIn_rangeFunc_X (gf := 60) (lb := #[.pointer (some ⟨w.heap.size + 1 + 1, 0, none⟩)]) rfl (enters_of Try.func60 (by kernel_rfl) rfl) hseq (Below.refl _ _) (by omega) (fun _ hk => hk.elim) (fun _ => rfl)
    (fun _ pre W => Below w.heap.size w W ∧ One W w.heap.size (.string k) 9 ∧ One W (w.heap.size + 1) (.int .i64 ((pre.length : Nat) : Int)) 2 ∧ ∀ x ∈ pre, ltS x.2.1 k = true)
    (fun cd _ pre W => cd = .exit 0 ∧ Below w.heap.size w W ∧ ∃ pre0 x, pre = pre0 ++ [x] ∧ One W (w.heap.size + 1) (.int .i64 ((pre0.length : Nat) : Int)) 2 ∧ (∀ y ∈ pre0, ltS y.2.1 k = true) ∧ ltS x.2.1 k = false)
    (fun h pre X Y row hs hg hr => ⟨below_abx hs.1 (Nat.le_refl _) (by omega) hg hr, hs.2.1.abx (by omega) hg hr, hs.2.2.1.abx (by omega) hg hr, hs.2.2.2⟩)
    (fun cd h pre X Y row hs hg hr => by
      obtain ⟨h1, h2, pre0, x, h3, h4, h5⟩ := hs
      exact ⟨h1, below_abx h2 (Nat.le_refl _) (by omega) hg hr, pre0, x, h3, h4.abx (by omega) hg hr, h5⟩)
    (fun _ _ _ h _ => h)
    ⟨hb0, o0, by simpa using o1, by simp⟩
    (fun h pre x a' W => ∃ b, h ≤ b ∧ Two W b 25 (.string x.2.1) (.string x.2.2) ∧ a' = { tmps := #[.slice A ns.length c, .string k, undef, .pointer (some ⟨w.heap.size, 0, none⟩), .int .i64 0, .pointer (some ⟨w.heap.size + 1, 0, none⟩), undef, .pointer (some ⟨b, 0, none⟩), .slice A ns.length c, .func (.func 60) #[] #[.pointer (some ⟨w.heap.size + 1 + 1, 0, none⟩)], .int .i64 (x.1 : Int), .agg #[.string x.2.1, .string x.2.2], undef, undef, undef, undef, undef, undef, undef], defers := [] } ∧
      Below w.heap.size w W ∧ One W w.heap.size (.string k) 9 ∧ One W (w.heap.size + 1) (.int .i64 ((pre.length : Nat) : Int)) 2 ∧ ∀ x ∈ pre, ltS x.2.1 k = true)
    (fun x a' h pre X Y row hs hg hr => by
      obtain ⟨b, h1, h2, h3, h4, h5, h6, h7⟩ := hs
      exact ⟨b, h1, (hg.block b h2.lt (fun e => by have := (hr b e.symm).2; omega)).trans h2, h3, below_abx h4 (Nat.le_refl _) (by omega) hg hr, h5.abx (by omega) hg hr, h6.abx (by omega) hg hr, h7⟩)
    ?assign ?body ?done ?stop
  case assign =>
    rintro l m h pre x W K hh hhW ⟨h4, h5, h6, h7⟩ _ hK
    simp only [encT]
    gi_wp2
    refine hK _ _ ((KeptX.refl _ _ _ _).alloc (by omega) hhW _) (fun _ hk => hk.elim) ⟨W.heap.size, hhW, Two.new _ _ _ _, rfl, h4.alloc (by omega) _, h5.below ((Below.refl _ _).alloc (Nat.le_refl _) _), h6.below ((Below.refl _ _).alloc (Nat.le_refl _) _), h7⟩
  case body =>
    rintro l m h pre x a' W hh hhW ⟨b, h1, h2, rfl, h4, h5, h6, h7⟩ hlen
    have c2 := h2.c0
    have c5 := h5.c
    have c6 := h6.c
    have z6 := h6.fz
    have hm : pre.length < 1048576 := by have := hcap.out; omega
    have H4 := hid h4
    have H6 := hid h6
    have H5 := hid h5
    have HX : Hid (∀ y ∈ pre, ltS y.2.1 k = true) := h7
    have HH := hid hh
    clear h2 h4 h5 h6 h7 hlen hseq o0 o1 o2 hb0 hr hf hs
    cases hlt : ltS x.2.1 k
    · have g1 : Op.bytesLess x.2.1.toList k.toList = false := hlt
      have HLT := hid hlt
      clear hlt
      gi_wp2
      exact ⟨KeptX.refl _ _ _ _, rfl, H4.out, pre, x, rfl, H6.out, HX.out, HLT.out⟩
    · have g1 : Op.bytesLess x.2.1.toList k.toList = true := hlt
      have HLT := hid hlt
      clear hlt
      gi_wp2
      refine ⟨⟨(KeptX.refl _ _ _ _).set (by omega) (.inl (by omega)) _, fun _ hk => hk.elim⟩, H4.out.setCell (p := ⟨w.heap.size + 1, 0, none⟩) (by simp) _, H5.out.other (by omega) _, ?_, ?_⟩
      · have := H6.out.set (.int .i64 ((pre.length : Int) + 1))
        simpa using this
      · intro y hy
        rcases List.mem_append.1 hy with hy | hy
        · exact HX.out y hy
        · obtain rfl := List.mem_singleton.1 hy
          exact HLT.out
  case done =>
    rintro D h xs W hD hDh rfl ⟨h4, h5, h6, h7⟩ hK
    have c6 := h6.c
    have HE := hid (cnt_all h7)
    have HB := hid h4
    have HD := hid hD
    have HK := hid hK
    clear h4 h5 h6 h7 hseq o0 o1 o2 hb0 hr hf hs hD hDh
    gi_wp2
    refine ⟨by simp, .inl ⟨_, _, rfl, run_takeDeferred hK, ?_⟩⟩
    refine ⟨_, results_tmp rfl _ _ _, ?_, below_end HB.out HK.out (by have := HD.out; omega)⟩
    rw [← HE.out]
    rfl
  case stop =>
    rintro D h cd pre W hD hDh hSp ⟨rfl, h4, pre0, x, rfl, h6, h7, h8⟩ hK
    have c6 := h6.c
    have HE := hid (cnt_stop hSp h7 h8)
    have HB := hid h4
    have HD := hid hD
    have HK := hid hK
    clear h4 h6 h7 h8 hSp hseq o0 o1 o2 hb0 hr hf hs hD hDh
    gi_wp2
    refine ⟨by simp, .inl ⟨_, _, rfl, run_takeDeferred hK, ?_⟩⟩
    refine ⟨_, results_tmp rfl _ _ _, ?_, below_end HB.out HK.out (by have := HD.out; omega)⟩
    rw [← HE.out]
    rfl
end Go.Proofs.Ytaiehccpefjbfab
