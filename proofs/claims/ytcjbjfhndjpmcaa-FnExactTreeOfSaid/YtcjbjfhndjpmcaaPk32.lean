import Derived.Test.YtcjbjfhndjpmcaaPk28
import Derived.Test.YtcjbjfhndjpmcaaPk31
/-
  The program's put.
-/
namespace Go.Proofs.Ytcjbjfhndjpmcaa
open Go.RowKit

def Put1 (w : World) (R : Nat → Prop) (x : OH) (t : BT) (e : Ending) (w' : World) : Prop :=
  e = .returned (.tuple #[]) ∧ ∃ (R' : Nat → Prop) (x' : OH), x'.g = x.g ∧ x'.t = t ∧ Step w R [x] w' R' [x']
theorem node_of {n : Nat} {b : Bool} {t : BT} (h : Fine (n + 1) b t) : ∃ ks, t = .node [] ks ∧ 2 ≤ ks.length ∧ ks.length ≤ 4 ∧ ∀ x ∈ ks, Fine n false x := by
  cases t with
  | node ps ks =>
    obtain ⟨h1, h2, h3, h4⟩ := h
    simp only [BT.ps, BT.ks] at h1 h2 h3 h4
    subst h1
    exact ⟨ks, rfl, h2, h3, h4⟩
theorem leaf_of {b : Bool} {t : BT} (h : Fine 0 b t) : ∃ ps, t = .node ps [] ∧ ps.length ≤ 4 := by
  cases t with
  | node ps ks =>
    obtain ⟨h1, h2, _⟩ := h
    simp only [BT.ps, BT.ks] at h1 h2
    subst h1
    exact ⟨ps, rfl, h2⟩
theorem rises_kid {ps : PS} {ks : List BT} (h : risesB (allT (.node ps ks)) = true) {i : Nat} (hi : i < ks.length) : risesB (allT ks[i]) = true := by
  simp only [allT] at h
  have h1 := (rises_app h).2.1
  rw [allK_cut hi] at h1
  exact (rises_app (rises_app h1).2.1).1
theorem step_end {w w' : World} {R R' : Nat → Prop} {x x' : OH} {t : BT} (hg : x'.g = x.g) (ht : x'.t = t) (h : Step w R [x] w' R' [x']) : Put1 w R x t (.returned (.tuple #[])) w' := ⟨rfl, R', x', hg, ht, h⟩

set_option maxHeartbeats 2000000 in
set_option maxRecDepth 100000 in
theorem put_leaf (k v : ByteArray) (x : OH) (R : Nat → Prop) (w : World) (ps : PS) (hf : FO w R [x]) (ht : x.t = .node ps []) (hl : ps.length ≤ 4) (hr : risesB ps = true) :
    Calls Try.prog 119 #[ptr x.g, .agg #[.string k, .string v]] w (Put1 w R x (putT k v x.t)) := by
  have hb1 : Below w.heap.size w (w.alloc (.cells #[.string k, .string v] 57)) := (Below.refl _ _).alloc (Nat.le_refl _) _
  have hbx := Row2.lit w 57 (.string k) (.string v)
  have hs1 := Step.below hf hb1
  obtain ⟨A, c, K, d, L, hL, hA, hS⟩ := hs1.fo.node ht
  obtain rfl : L = [] := by simpa using hL
  have HE : Hid (putT k v x.t = .node (putL ps k v) []) := by rw [Hid, ht, putT_leaf]
  have RX := hid (Row2.of_heap hA.heap)
  have HA := hid hA
  have HS := hid hS
  have HS1 := hid hs1
  have HRP := hid (hA.pairs.rp (fun b h => hs1.fo.rb b h))
  have HVS := hid hA.vs
  have HR := hid hr
  have x0 := RX.out.c0
  have x1 := RX.out.c1
  have f0 := RX.out.fz 0
  have p0 := hbx.c0
  have p1 := hbx.c1
  have HB1 := hid hb1
  have hgl := hA.lt
  have tk1 : Hid (1 = 1) := rfl
  simp only [List.length_nil] at x1
  clear hb1 hbx hs1 hA hS hf hL ht hr
  unfold ptr
  go_enter Try.func119, Try.ntmps119
  go_wp2_with fail
  generalize hw1 : w.alloc (.cells #[.string k, .string v] 57) = w1 at *
  clear hw1
  go_region_law
    (first
      | (clear tk1; go_simp; go_at_call 93; refine (with_any A c ps k v _ (by first | exact HRP.out | exact HRP.out.below (Below.refl _ _).drew) HVS.out (by omega) HR.out).mono ?_; rintro e w2 ⟨A1, c1, rfl, ho, hb⟩; have HO : Hid (OwnP w2 w1.heap.size A1 c1 (putL ps k v)) := ho; have HB2 : Hid (Below w1.heap.size w1 w2) := (by first | exact hb | exact (Below.refl w1.heap.size w1).drew.trans hb); clear ho hb; have RX2 := hid (RX.out.below HB2.out); have y0 := RX2.out.c0; have g0 := RX2.out.fz 0))
  all_goals
    obtain ⟨R', hst⟩ := HA.out.setPairs (x := x) rfl HS.out HB2.out HO.out
    have HST := hid (HS1.out.trans hst)
    clear hst
    go_wp2_with fail
    go_end0
    exact ⟨rfl, R', ⟨x.g, nodeS x.g K d [], .node (putL ps k v) []⟩, rfl, HE.out.symm, HST.out⟩

theorem split_cut (L : List OH) {i : Nat} (h : i < L.length) : L.take i ++ ([L[i]] ++ L.drop (i + 1)) = L := by simp
theorem ohc_at {w : World} {kb d : Nat} {L : List OH} (h : w.ownsRow 0 71 1 (.slice (some ⟨kb, 0, none⟩) L.length d) L.length (ohc L)) {i : Nat} (hi : i < L.length) : w.cell? ⟨kb, i, none⟩ = some (ptr L[i].g) := by
  rw [World.ownsRow.cellAt h i (by omega)]
  simp [ohc, hi]
theorem row_at {w : World} {K : Option Addr} {d : Nat} {L : List OH} (h : w.ownsRow 0 71 1 (.slice K L.length d) L.length (ohc L)) (hi : 0 < L.length) : ∃ kb, K = some ⟨kb, 0, none⟩ := by
  rcases h.2 with ⟨_, h0⟩ | ⟨kb, cap, cur, hv, _⟩
  · omega
  · injection hv with e1 _ _
    exact ⟨kb, e1⟩

/-- Behind a put into one kid. -/
def PutRel (w1 : World) (R : Nat → Prop) (y0 : OH) (t : BT) (wc : World) : Prop := ∃ R2 y, y.g = y0.g ∧ y.t = t ∧ Step w1 R [y0] wc R2 [y]
theorem mid_len (L M : List OH) {i : Nat} (y : OH) (h : i < L.length) (hM : M.length + i + 1 = L.length) : (L.take i ++ ([y] ++ M)).length = L.length := by simp; omega
theorem mid_at (L M : List OH) {i : Nat} (y : OH) (h : i < L.length) (hi : i < (L.take i ++ ([y] ++ M)).length) : (L.take i ++ ([y] ++ M))[i] = y := by
  rw [List.getElem_append_right (by simp; omega)]
  simp [Nat.min_eq_left (Nat.le_of_lt h)]
/-- What a walk reads behind a step of one kid. -/
theorem kid_stepped {w w2 : World} {R R2 : Nat → Prop} {g c d kb I : Nat} {A : Option Addr} {ps : PS} {L : List OH} {y0 y : OH} {t : BT} (hI : I < L.length) (h : NodeA w R g A c ps (some ⟨kb, 0, none⟩) d (L.take I ++ ([y0] ++ L.drop (I + 1)))) (hs : Step w R [y0] w2 R2 [y]) (hg : y.g = y0.g) (ht : y.t = t) :
    NodeA w2 R2 g A c ps (some ⟨kb, 0, none⟩) d (L.take I ++ ([y] ++ L.drop (I + 1))) ∧ Row2 w2 g 121 (.slice A ps.length c) (.slice (some ⟨kb, 0, none⟩) L.length d) ∧ w2.cell? ⟨kb, I, none⟩ = some (ptr y.g) ∧
      ∃ A' c' K' d', w2.cell? ⟨y.g, 0, none⟩ = some (.slice A' t.ps.length c') ∧ w2.cell? ⟨y.g, 1, none⟩ = some (.slice K' t.ks.length d') := by
  have hn := h.kids hs (by simp [hg])
  have hl := mid_len L (L.drop (I + 1)) y hI (by rw [List.length_drop]; omega)
  refine ⟨hn, ?_, ?_, ?_⟩
  · have := Row2.of_heap hn.heap
    rw [hl] at this
    exact this
  · have := ohc_at hn.row (i := I) (by rw [hl]; exact hI)
    rw [mid_at L _ y hI] at this
    exact this
  · have := size_at hs.fo
    rw [ht] at this
    exact this

/-- The header and the row of a node, behind a step of its kids. -/
theorem row_kept {w w' : World} {R R' : Nat → Prop} {g c d : Nat} {A K : Option Addr} {ps : PS} {L1 M L2 M' : List OH} (h : NodeA w R g A c ps K d (L1 ++ (M ++ L2))) (hs : Step w R M w' R' M') :
    Row2 w' g 121 (.slice A ps.length c) (.slice K (L1 ++ (M ++ L2)).length d) ∧ OwnQ w' 0 K d ((L1 ++ (M ++ L2)).map OH.g) := by
  have hsub : ∀ b, SU M b → SU (L1 ++ (M ++ L2)) b := fun b hb => SU_app.2 (.inr (SU_app.2 (.inl hb)))
  refine ⟨Row2.of_heap ((hs.mod.block g h.lt (fun hx => h.gs.1 (hsub g hx))).trans h.heap), ?_⟩
  unfold OwnQ
  rw [List.length_map, ← ohc_pcs]
  exact ownsRow_keep h.row fun k hk => hs.mod.block k (h.ownlt hk) (fun hx => (h.own k hk).2.1 (hsub k hx))
theorem insert_at {W : World} {kb d n I g v : Nat} {gs : List Nat} (ho : OwnQ W 0 (some ⟨kb, 0, none⟩) d gs) (hl : gs.length = n) (hI : I + 1 ≤ n) (hn : n ≤ 1000) (hv : W.heap[v]? = some (.cells #[ptr g] 71 (0, 0))) (hne : v ≠ kb) :
    Calls Try.prog 142 #[.slice (some ⟨kb, 0, none⟩) n d, .int .i64 ((I : Int) + 1), .slice (some ⟨v, 0, none⟩) 1 1] W (Inserted W (some ⟨kb, 0, none⟩) d gs (gs.take (I + 1) ++ g :: gs.drop (I + 1))) := by
  subst hl
  have h := impl_insert (some ⟨kb, 0, none⟩) d (I + 1) gs g v W ho hI hn hv (fun e => hne (by simpa [Value.ownBlock] using e.symm))
  simpa using h
/-- The end of a put that parts a kid. -/
theorem put_split_end {w1 w3 w4 w5 w6 : World} {R R2 R4 : Nat → Prop} {x y0 y y' z : OH} {c d kb I d6 m6 : Nat} {A K6 : Option Addr} {ps : PS} {L : List OH} (hI : I < L.length) (hA : NodeA w1 R x.g A c ps (some ⟨kb, 0, none⟩) d (L.take I ++ ([y0] ++ L.drop (I + 1)))) (hS : ∀ b, nodeS x.g (some ⟨kb, 0, none⟩) d (L.take I ++ ([y0] ++ L.drop (I + 1))) b → x.S b)
    (h3 : Step w1 R [y0] w3 R2 [y]) (h4 : Step w3 R2 [y] w4 R4 [y', z]) (hy' : y'.g = y.g) (hb : Below w4.heap.size w4 w5) (hins : Inserted w5 (some ⟨kb, 0, none⟩) d ((L.take I ++ ([y] ++ L.drop (I + 1))).map OH.g) (((L.take I ++ ([y] ++ L.drop (I + 1))).map OH.g).take (I + 1) ++ z.g :: ((L.take I ++ ([y] ++ L.drop (I + 1))).map OH.g).drop (I + 1)) (.returned (.slice K6 m6 d6)) w6) :
    Step w1 R [x] (w6.setCell ⟨x.g, 1, none⟩ (.slice K6 m6 d6)) R4 [⟨x.g, nodeS x.g K6 d6 (L.take I ++ ([y', z] ++ L.drop (I + 1))), .node ps ((L.take I ++ ([y', z] ++ L.drop (I + 1))).map OH.t)⟩] := by
  obtain ⟨K', d', m, he, hm, ho, hmod, hk⟩ := hins
  injection he with he
  injection he with e1 e2 e3
  subst e1 e2 e3
  have hst : Step w1 R [y0] w5 R4 [y', z] := (h3.trans h4).trans (Step.below h4.fo hb)
  have hti : (L.take I).length = I := by rw [List.length_take]; omega
  have hgs : ((L.take I ++ ([y] ++ L.drop (I + 1))).map OH.g).take (I + 1) ++ z.g :: ((L.take I ++ ([y] ++ L.drop (I + 1))).map OH.g).drop (I + 1) = (L.take I ++ ([y', z] ++ L.drop (I + 1))).map OH.g := by
    have h1 : ((L.take I ++ ([y] ++ L.drop (I + 1))).map OH.g).take (I + 1) = (L.take I).map OH.g ++ [y.g] := by
      rw [← List.map_take, ← List.append_assoc, List.take_append_of_le_length (by simp; omega), List.take_of_length_le (by simp; omega)]
      simp
    have h2 : ((L.take I ++ ([y] ++ L.drop (I + 1))).map OH.g).drop (I + 1) = (L.drop (I + 1)).map OH.g := by
      rw [← List.map_drop, ← List.append_assoc, List.drop_append_of_le_length (by simp; omega), List.drop_eq_nil_iff.2 (by simp; omega), List.nil_append]
    rw [h1, h2]
    simp [hy']
  rw [hgs] at ho hk hm
  have hlen : (L.take I ++ ([y0] ++ L.drop (I + 1))).length = (L.take I ++ ([y] ++ L.drop (I + 1))).length := by simp
  have hown : ∀ k, Value.ownBlock (.slice (some ⟨kb, 0, none⟩) ((L.take I ++ ([y] ++ L.drop (I + 1))).map OH.g).length d) = some k ↔ Value.ownBlock (.slice (some ⟨kb, 0, none⟩) (L.take I ++ ([y0] ++ L.drop (I + 1))).length d) = some k := fun k => by simp [Value.ownBlock]
  have hmo : m6 = ((L.take I ++ ([y', z] ++ L.drop (I + 1))).map OH.g).length := hm
  subst hmo
  exact hA.setKids (x := x) rfl hS hst (List.Sublist.refl _) (hmod.mono (fun k _ hk' => (hown k).1 hk')) ho (fun k hk' => (hk k hk').imp (fun h => (hown k).1 h) id)

set_option maxHeartbeats 4000000 in
set_option maxRecDepth 100000 in
theorem impl_put (k v : ByteArray) : ∀ (n : Nat) (b : Bool) (x : OH) (R : Nat → Prop) (w : World), FO w R [x] → Fine n b x.t → risesB (allT x.t) = true →
    Calls Try.prog 119 #[ptr x.g, .agg #[.string k, .string v]] w (Put1 w R x (putT k v x.t))
  | 0, b, x, R, w, hf, hg, hr => by
    obtain ⟨ps, ht, hl⟩ := leaf_of hg
    refine put_leaf k v x R w ps hf ht hl ?_
    rw [ht] at hr
    simpa [allT, allK] using hr
  | n + 1, b, x, R, w, hf, hg, hr => by
    obtain ⟨ks, ht, h2, h4, hk⟩ := node_of hg
    have hb1 : Below w.heap.size w (w.alloc (.cells #[.string k, .string v] 57)) := (Below.refl _ _).alloc (Nat.le_refl _) _
    have hbx := Row2.lit w 57 (.string k) (.string v)
    have hs1 := Step.below hf hb1
    obtain ⟨A, c, K, d, L, hL, hA, hS⟩ := hs1.fo.node ht
    have hll : L.length = ks.length := by rw [← hL, List.length_map]
    have h0 : 0 < ks.length := by omega
    have hlt := wayT_lt k h0
    have hltL : wayT ks k < L.length := by omega
    have HPT : Hid (putT k v x.t = .node [] (ks.take (wayT ks k) ++ (splitL (putT k v ks[wayT ks k]) ++ ks.drop (wayT ks k + 1)))) := by rw [Hid, ht, putT_node k v [] h0]
    rw [ht] at hr
    have hrk := rises_kid hr hlt
    have hov := put_over k v n false ks[wayT ks k] (hk _ (List.getElem_mem hlt)) hrk
    have hLt : L[wayT ks k].t = ks[wayT ks k] := by
      have : (L.map OH.t)[wayT ks k]'(by rw [List.length_map]; exact hltL) = ks[wayT ks k] := by simp only [hL]
      simpa using this
    obtain ⟨kb, rfl⟩ := row_at hA.row (by omega)
    have hway := impl_way n [] ks k R x.S x.g _ h0 (by omega) hk (by have := (hs1.fo.ot x (by simp)).ot; rw [ht] at this; exact this) hs1.fo.rb
    have IH : Hid (∀ W, Below (w.alloc (.cells #[.string k, .string v] 57)).heap.size (w.alloc (.cells #[.string k, .string v] 57)) W → Calls Try.prog 119 #[ptr L[wayT ks k].g, .agg #[.string k, .string v]] W (Put1 W R L[wayT ks k] (putT k v ks[wayT ks k]))) := fun W hW => by
      have hfo := (Step.below (hA.fo.sub (List.singleton_sublist.2 (List.getElem_mem hltL))) hW).fo
      have h := impl_put k v n false L[wayT ks k] R W hfo (by rw [hLt]; exact hk _ (List.getElem_mem hlt)) (by rw [hLt]; exact hrk)
      rw [hLt] at h
      exact h
    have HA : Hid (NodeA (w.alloc (.cells #[.string k, .string v] 57)) R x.g A c [] (some ⟨kb, 0, none⟩) d (L.take (wayT ks k) ++ ([L[wayT ks k]] ++ L.drop (wayT ks k + 1)))) := by rw [split_cut L hltL]; exact hA
    have HSN : Hid (∀ b, nodeS x.g (some ⟨kb, 0, none⟩) d (L.take (wayT ks k) ++ ([L[wayT ks k]] ++ L.drop (wayT ks k + 1))) b → x.S b) := by rw [split_cut L hltL]; exact hS
    have RX := hid (Row2.of_heap hA.heap)
    have x1 := RX.out.c1
    have p0 := hbx.c0
    have p1 := hbx.c1
    have HWAY := hid hway
    have HS1 := hid hs1
    have r1 := ohc_at hA.row hltL
    have HSZ : Hid (sizeT (putT k v ks[wayT ks k]) ≤ 50) := by
      have h1 := hov.1
      cases n with
      | zero => unfold Hid sizeT; rw [h1.1]; have := h1.2.1; simp; omega
      | succ n => unfold Hid sizeT; rw [h1.1]; have := h1.2.2.1; simp; omega
    have HPB := hid hbx
    generalize hI : wayT ks k = I at *
    have HI := hid hI
    generalize hkid : putT k v ks[I] = tk at *
    generalize hy0 : L[I] = y0 at *
    have hI4 : I ≤ 4 := by omega
    have e0 : ((L.length : Int) == 0) = false := by rw [beq_eq_false_iff_ne]; omega
    have e1 : (0 : Int) ≤ (I : Int) := by omega
    have e2 : (I : Int) < (L.length : Int) := by omega
    have e3 : ¬ (L.length : Int) = 0 := by omega
    have e4 : ¬ L.length = 0 := by omega
    have HLL : Hid (L.length = ks.length) := hll
    have HLT : Hid (L.map OH.t = ks) := hL
    have hl4 : L.length ≤ 4 := by omega
    have hgl := hA.lt
    have tk1 : Hid (1 = 1) := rfl
    have tk2 : Hid (1 = 1) := rfl
    have tk3 : Hid (1 = 1) := rfl
    clear hb1 hbx hs1 hA hS hf hL ht hr hrk hway hov hk hI hkid hy0 hLt hll hg
    unfold ptr at r1 ⊢
    go_enter Try.func119, Try.ntmps119
    go_wp2_with fail
    refine HWAY.out.mono ?_
    rintro e wa ⟨rfl, rfl⟩
    go_wp2_with fail
    generalize hw1 : w.alloc (.cells #[.string k, .string v] 57) = w1 at *
    clear hw1
    have hbl0 := Below.refl w1.heap.size w1
    have HBL := hid hbl0
    clear hbl0
    go_cut [] from 24 to 32 (fun wc => PutRel w1 R y0 tk wc)
    case first =>
      go_region_law
        (first
          | (clear tk1; go_simp; go_at_call 119; refine (IH.out _ (by first | exact HBL.out | exact HBL.out.drew)).mono ?_; rintro e w2 ⟨rfl, R2, y, hyg, hyt, hst⟩; have HST : Hid (Step w1 R [y0] w2 R2 [y]) := (by first | exact hst | exact (Step.below (HA.out.fo.sub (by simp)) (HBL.out.drew)).trans hst); have HYG := hid hyg; have HYT := hid hyt; clear hst hyg hyt))
      all_goals
        go_wp2_with fail
        go_meet
        case rel => exact ⟨R2, y, HYG.out, HYT.out, HST.out⟩
    obtain ⟨R2, y, hyg, hyt, hst⟩ := hcut
    have HST := hid hst
    have HYG := hid hyg
    have HYT := hid hyt
    clear hst hyg hyt
    obtain ⟨hn2, hrow, r2, A', c', K', d', y1, y2⟩ := kid_stepped hltL HA.out HST.out HYG.out HYT.out
    have HN2 := hid hn2
    have HROW := hid hrow
    have x2 := hrow.c1
    have hsz := HSZ.out
    unfold sizeT at hsz
    have hza : tk.ps.length ≤ 50 := by omega
    have hzb : tk.ks.length ≤ 50 := by omega
    unfold ptr at r2
    clear hn2 hrow r1 x1 p0 p1
    go_wp2_with fail
    refine (impl_size y.g tk.ps.length tk.ks.length c' d' A' K' _ y1 y2 (by omega) (by omega)).mono ?_
    rintro e w3 ⟨rfl, hd⟩
    have HST3 := hid (HST.out.trans (Step.below HST.out.fo (hd.below _)))
    obtain ⟨hn3, hrow3, r3, _⟩ := kid_stepped hltL HA.out HST3.out HYG.out HYT.out
    have HN3 := hid hn3
    have HROW3 := hid hrow3
    have x3 := hrow3.c1
    unfold ptr at r3
    clear hd hn3 hrow3 x2 r2 y1 y2
    by_cases h4s : tk.ps.length + tk.ks.length ≤ 4
    · have e5 : ¬ (4 : Int) < (tk.ps.length : Int) + (tk.ks.length : Int) := by omega
      have HEQ : Hid (putT k v x.t = .node [] ((L.take I ++ ([y] ++ L.drop (I + 1))).map OH.t)) := by
        rw [Hid, HPT.out, splitL, if_pos (show sizeT tk ≤ 4 from h4s), ← HLT.out]
        simp [HYT.out]
      have HFIN := hid (HS1.out.trans (NodeA.step (x := x) rfl HSN.out HA.out HST3.out (by simp [HYG.out])))
      clear x3 r3
      go_wp2_with fail
      go_end0
      exact ⟨rfl, R2, ⟨x.g, nodeS x.g (some ⟨kb, 0, none⟩) d (L.take I ++ ([y] ++ L.drop (I + 1))), _⟩, rfl, HEQ.out.symm, HFIN.out⟩
    · have e5 : (4 : Int) < (tk.ps.length : Int) + (tk.ks.length : Int) := by omega
      have HH : Hid (∀ W, Below w3.heap.size w3 W → Calls Try.prog 121 #[ptr y.g] W (Halved W R2 y)) := fun W hW =>
        impl_halve y R2 W (Step.below HST3.out.fo hW).fo (by rw [HYT.out]; exact HSZ.out)
      have hlen3 := hid (mid_len L (L.drop (I + 1)) y hltL (by rw [List.length_drop]; omega))
      have HB3 := hid (Below.refl w3.heap.size w3)
      have w1i : IntKind.i64.wrap ((I : Int) + 1) = (I : Int) + 1 := by rw [IntKind.wrap_i64]; omega
      have f3 := HROW3.out.fz 1
      clear h4s
      go_wp2_with fail
      go_region_law
        (first
          | (clear tk2; go_simp; go_at_call 121; refine (HH.out _ (by first | exact HB3.out | exact HB3.out.drew)).mono ?_; rintro e w4 ⟨R4, y', z, rfl, hyg', hyt', hzt, hst4⟩; have HST4 : Hid (Step w3 R2 [y] w4 R4 [y', z]) := (by first | exact hst4 | exact (Step.below HST3.out.fo HB3.out.drew).trans hst4); have HYG' := hid hyg'; have HYT' := hid hyt'; have HZT := hid hzt; have hk4 := row_kept HN3.out HST4.out; rw [hlen3.out] at hk4; have HK4 := hid hk4; have x4 := hk4.1.c1; have f4 := hk4.1.fz 1; have hg4 := hk4.1.lt; clear hst4 hyg' hyt' hzt hk4)
          | (clear tk3; go_simp; go_at_call 142; have hb5 : Below w4.heap.size w4 (w4.alloc (.cells #[.pointer (some ⟨z.g, 0, none⟩)] 71)) := (Below.refl _ _).alloc (Nat.le_refl _) _; have HB5 := hid hb5; clear hb5; refine (insert_at (W := w4.alloc (.cells #[.pointer (some ⟨z.g, 0, none⟩)] 71)) (gs := (L.take I ++ ([y] ++ L.drop (I + 1))).map OH.g) (HK4.out.2.below HB5.out) (by rw [List.length_map]; exact hlen3.out) (by omega) (by omega) (heap_alloc_new w4 _) (by have h1 := HN3.out.ownlt (k := kb) rfl; have h2 := HST4.out.mod.size; omega)).mono ?_; rintro e w6 ⟨K6, d6, m6, rfl, hm6, ho6, hmod6, hk6⟩; have HINS : Hid (Inserted (w4.alloc (.cells #[.pointer (some ⟨z.g, 0, none⟩)] 71)) (some ⟨kb, 0, none⟩) d ((L.take I ++ ([y] ++ L.drop (I + 1))).map OH.g) (((L.take I ++ ([y] ++ L.drop (I + 1))).map OH.g).take (I + 1) ++ z.g :: ((L.take I ++ ([y] ++ L.drop (I + 1))).map OH.g).drop (I + 1)) (.returned (.slice K6 m6 d6)) w6) := ⟨K6, d6, m6, rfl, hm6, ho6, hmod6, hk6⟩; have h6 := Row2.of_heap ((hmod6.block x.g (by have := HN3.out.lt; have := HST4.out.mod.size; simp; omega) (fun e => (HN3.out.own x.g (by simpa [Value.ownBlock] using e)).1 rfl)).trans (HK4.out.1.below HB5.out).heap); have f6 := h6.fz 1; have x6 := h6.c1; clear h6 hm6 ho6 hmod6 hk6))
      all_goals
        have HEQ : Hid (putT k v x.t = .node [] ((L.take I ++ ([y', z] ++ L.drop (I + 1))).map OH.t)) := by
          have h4 : ¬ sizeT tk ≤ 4 := by unfold sizeT; omega
          have h5 := HYT'.out
          have h6 := HZT.out
          rw [HYT.out] at h5 h6
          rw [Hid, HPT.out, splitL, if_neg h4, ← HLT.out]
          simp [h5, h6]
        have HFIN := hid (HS1.out.trans (put_split_end hltL HA.out HSN.out HST3.out HST4.out HYG'.out HB5.out HINS.out))
        clear x3 r3 f3 x4 f4
        go_wp2_with fail
        go_end0
        exact ⟨rfl, R4, ⟨x.g, nodeS x.g K6 d6 (L.take I ++ ([y', z] ++ L.drop (I + 1))), _⟩, rfl, HEQ.out.symm, HFIN.out⟩
end Go.Proofs.Ytcjbjfhndjpmcaa
