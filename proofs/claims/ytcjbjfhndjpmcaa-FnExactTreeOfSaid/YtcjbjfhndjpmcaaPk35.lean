import Derived.Test.YtcjbjfhndjpmcaaPk34
/-
  The program's drop.
-/
namespace Go.Proofs.Ytcjbjfhndjpmcaa
open Go.RowKit

def Drop1 (w : World) (R : Nat → Prop) (x : OH) (k : ByteArray) (n : Nat) (e : Ending) (w' : World) : Prop :=
  if hasK (wayLeaf k n x.t) k = true then e = .returned (.bool true) ∧ ∃ (R' : Nat → Prop) (x' : OH), x'.g = x.g ∧ x'.t = dropT k x.t ∧ Step w R [x] w' R' [x']
  else e = .returned (.bool false) ∧ Below w.heap.size w w'
theorem Drop1.yes {w w' : World} {R R' : Nat → Prop} {x x' : OH} {k : ByteArray} {n : Nat} (h : hasK (wayLeaf k n x.t) k = true) (hg : x'.g = x.g) (ht : x'.t = dropT k x.t) (hs : Step w R [x] w' R' [x']) : Drop1 w R x k n (.returned (.bool true)) w' := by
  rw [Drop1, if_pos h]
  exact ⟨rfl, R', x', hg, ht, hs⟩
theorem Drop1.no {w w' : World} {R : Nat → Prop} {x : OH} {k : ByteArray} {n : Nat} (h : hasK (wayLeaf k n x.t) k = false) (hb : Below w.heap.size w w') : Drop1 w R x k n (.returned (.bool false)) w' := by
  rw [Drop1, if_neg (by rw [h]; simp)]
  exact ⟨rfl, hb⟩

set_option maxHeartbeats 2000000 in
set_option maxRecDepth 100000 in
theorem drop_leaf (k : ByteArray) (x : OH) (R : Nat → Prop) (w : World) (ps : PS) (hf : FO w R [x]) (ht : x.t = .node ps []) (hl : ps.length ≤ 4) (hr : risesB ps = true) :
    Calls Try.prog 124 #[ptr x.g, .string k] w (Drop1 w R x k 0) := by
  obtain ⟨A, c, K, d, L, hL, hA, hS⟩ := hf.node ht
  obtain rfl : L = [] := by simpa using hL
  have HE : Hid (dropT k x.t = .node (dropL ps k) []) := by rw [Hid, ht, dropT_leaf]
  have HW : Hid (wayLeaf k 0 x.t = ps) := by rw [Hid, ht]; rfl
  have RX := hid (Row2.of_heap hA.heap)
  have HA := hid hA
  have HS := hid hS
  have HF := hid hf
  have HRP := hid (hA.pairs.rp (fun b h => hf.rb b h))
  have x0 := RX.out.c0
  have x1 := RX.out.c1
  have f0 := RX.out.fz 0
  have hgl := hA.lt
  simp only [List.length_nil] at x1
  cases hk : hasK ps k
  · have HWO := hid (without_no A c ps k w HRP.out hA.vs (by omega) hr hk)
    have HK : Hid (hasK (wayLeaf k 0 x.t) k = false) := by rw [Hid, HW.out]; exact hk
    clear hA hS hf hL ht hr hk
    unfold ptr
    go_enter Try.func124, Try.ntmps124
    go_wp2_with fail
    refine HWO.out.mono ?_
    rintro e w2 ⟨A1, c1, rfl, ho, hb⟩
    have HB2 := hid hb
    clear ho hb
    go_wp2_with fail
    go_ret
    exact Drop1.no HK.out HB2.out
  · have HWO := hid (without_yes A c ps k w HRP.out hA.vs (by omega) hr hk)
    have HK : Hid (hasK (wayLeaf k 0 x.t) k = true) := by rw [Hid, HW.out]; exact hk
    clear hA hS hf hL ht hr hk
    unfold ptr
    go_enter Try.func124, Try.ntmps124
    go_wp2_with fail
    refine HWO.out.mono ?_
    rintro e w2 ⟨A1, c1, rfl, ho, hb⟩
    have RX2 := hid (RX.out.below hb)
    have g0 := RX2.out.fz 0
    have y0 := RX2.out.c0
    obtain ⟨R', hst⟩ := HA.out.setPairs (x := x) rfl HS.out hb ho
    have HST := hid hst
    clear ho hb hst x0 x1 f0
    go_wp2_with fail
    go_ret
    exact Drop1.yes (x' := ⟨x.g, nodeS x.g K d [], .node (dropL ps k) []⟩) HK.out rfl HE.out.symm HST.out

set_option maxHeartbeats 4000000 in
set_option maxRecDepth 100000 in
theorem impl_drop (k : ByteArray) : ∀ (n : Nat) (b : Bool) (x : OH) (R : Nat → Prop) (w : World), FO w R [x] → Fine n b x.t → risesB (allT x.t) = true →
    Calls Try.prog 124 #[ptr x.g, .string k] w (Drop1 w R x k n)
  | 0, b, x, R, w, hf, hg, hr => by
    obtain ⟨ps, ht, hl⟩ := leaf_of hg
    refine drop_leaf k x R w ps hf ht hl ?_
    rw [ht] at hr
    simpa [allT, allK] using hr
  | n + 1, b, x, R, w, hf, hg, hr => by
    obtain ⟨ks, ht, h2, h4, hk⟩ := node_of hg
    obtain ⟨A, c, K, d, L, hL, hA, hS⟩ := hf.node ht
    have hll : L.length = ks.length := by rw [← hL, List.length_map]
    have h0 : 0 < ks.length := by omega
    have hlt := wayT_lt k h0
    have hltL : wayT ks k < L.length := by omega
    have HDT : Hid (dropT k x.t = .node [] (mendL (ks.take (wayT ks k) ++ (dropT k ks[wayT ks k] :: ks.drop (wayT ks k + 1))) (wayT ks k))) := by rw [Hid, ht, dropT_node k [] h0]
    have HWL : Hid (wayLeaf k (n + 1) x.t = wayLeaf k n ks[wayT ks k]) := by
      rw [Hid, ht]
      simp only [wayLeaf, BT.ks, getD_at hlt]
    rw [ht] at hr
    have hrk := rises_kid hr hlt
    have hlo := drop_low k n false ks[wayT ks k] (hk _ (List.getElem_mem hlt)) hrk
    have hLt := kid_t hL hltL hlt
    obtain ⟨kb, rfl⟩ := row_at hA.row (by omega)
    have hway := impl_way n [] ks k R x.S x.g w h0 (by omega) hk (by have := (hf.ot x (by simp)).ot; rw [ht] at this; exact this) hf.rb
    have IH : Hid (Calls Try.prog 124 #[ptr L[wayT ks k].g, .string k] w (Drop1 w R L[wayT ks k] k n)) := 
      impl_drop k n false L[wayT ks k] R w (hA.fo.sub (List.singleton_sublist.2 (List.getElem_mem hltL))) (by rw [hLt]; exact hk _ (List.getElem_mem hlt)) (by rw [hLt]; exact hrk)
    have HA : Hid (NodeA w R x.g A c [] (some ⟨kb, 0, none⟩) d (L.take (wayT ks k) ++ ([L[wayT ks k]] ++ L.drop (wayT ks k + 1)))) := by rw [split_cut L hltL]; exact hA
    have HSN : Hid (∀ b, nodeS x.g (some ⟨kb, 0, none⟩) d (L.take (wayT ks k) ++ ([L[wayT ks k]] ++ L.drop (wayT ks k + 1))) b → x.S b) := by rw [split_cut L hltL]; exact hS
    have RX := hid (Row2.of_heap hA.heap)
    have x1 := RX.out.c1
    have HWAY := hid hway
    have HF := hid hf
    have r1 := ohc_at hA.row hltL
    have HSZ : Hid (sizeT (dropT k ks[wayT ks k]) ≤ 20) := by
      have h1 := hlo.1
      cases n with
      | zero => unfold Hid sizeT; rw [h1.1]; have := h1.2; simp; omega
      | succ n => unfold Hid sizeT; rw [h1.1]; have := h1.2.2.1; simp; omega
    have HZ : Hid (∀ i (h : i < ks.length), sizeT ks[i] ≤ 20) := fun i h => by have := (hk _ (List.getElem_mem h)).size.1; omega
    generalize hI : wayT ks k = I at *
    generalize hk0 : ks[I] = t0 at *
    generalize hkid : dropT k t0 = tk at *
    generalize hy0 : L[I] = y0 at *
    have HY0 : Hid (y0.t = t0) := hLt
    have HTK : Hid (dropT k t0 = tk) := hkid
    have hI4 : I ≤ 4 := by omega
    have e0 : ((L.length : Int) == 0) = false := by rw [beq_eq_false_iff_ne]; omega
    have e1 : (0 : Int) ≤ (I : Int) := by omega
    have e2 : (I : Int) < (L.length : Int) := by omega
    have e3 : ¬ (L.length : Int) = 0 := by omega
    have e4 : ¬ L.length = 0 := by omega
    have HLT : Hid (L.map OH.t = ks) := hL
    have HKL : Hid (2 ≤ ks.length ∧ ks.length ≤ 4 ∧ I < ks.length) := ⟨h2, h4, hlt⟩
    have hl4 : L.length ≤ 4 := by omega
    have hgl := hA.lt
    cases hh : hasK (wayLeaf k n y0.t) k
    · have HH : Hid (hasK (wayLeaf k (n + 1) x.t) k = false) := by rw [Hid, HWL.out, ← HY0.out]; exact hh
      have HHY := hid hh
      clear hA hS hf hL ht hr hrk hway hlo hk hI hkid hy0 hLt hll hg hk0 hh h0 hlt h2 h4
      unfold ptr at r1 IH ⊢
      go_enter Try.func124, Try.ntmps124
      go_wp2_with fail
      refine HWAY.out.mono ?_
      rintro e wa ⟨rfl, rfl⟩
      go_wp2_with fail
      refine IH.out.mono ?_
      intro e w2 hd1
      rw [Drop1, if_neg (by rw [HHY.out]; simp)] at hd1
      obtain ⟨rfl, hb2⟩ := hd1
      have HB2 := hid hb2
      clear hb2
      go_wp2_with fail
      go_ret
      exact Drop1.no HH.out HB2.out
    · have HH : Hid (hasK (wayLeaf k (n + 1) x.t) k = true) := by rw [Hid, HWL.out, ← HY0.out]; exact hh
      have HHY := hid hh
      clear hA hS hf hL ht hr hrk hway hlo hk hI hkid hy0 hLt hll hg hk0 hh h0 hlt h2 h4
      unfold ptr at r1 IH ⊢
      go_enter Try.func124, Try.ntmps124
      go_wp2_with fail
      refine HWAY.out.mono ?_
      rintro e wa ⟨rfl, rfl⟩
      go_wp2_with fail
      refine IH.out.mono ?_
      intro e w2 hd1
      rw [Drop1, if_pos HHY.out] at hd1
      obtain ⟨rfl, R2, y, hyg, hyt, hst⟩ := hd1
      rw [HY0.out, HTK.out] at hyt
      have HST := hid hst
      have HYG := hid hyg
      have HYT := hid hyt
      clear hst hyg hyt
      obtain ⟨hn2, hrow, r2, A', c', K', d', y1, y2⟩ := kid_stepped hltL HA.out HST.out HYG.out HYT.out
      have HN2 := hid hn2
      have x2 := hrow.c1
      have hsz := HSZ.out
      unfold sizeT at hsz
      have hza : tk.ps.length ≤ 50 := by omega
      have hzb : tk.ks.length ≤ 50 := by omega
      unfold ptr at r2
      clear hn2 hrow r1 x1
      go_wp2_with fail
      refine (impl_size y.g tk.ps.length tk.ks.length c' d' A' K' _ y1 y2 (by omega) (by omega)).mono ?_
      rintro e w3 ⟨rfl, hd⟩
      have HST3 := hid (HST.out.trans (Step.below HST.out.fo (hd.below _)))
      have HSTX := hid (NodeA.step (x := x) rfl HSN.out HA.out HST3.out (by simp [HYG.out]))
      have HKS : Hid ((L.take I ++ ([y] ++ L.drop (I + 1))).map OH.t = ks.take I ++ (tk :: ks.drop (I + 1))) := by
        rw [Hid, ← HLT.out]
        simp [HYT.out]
      have HAT : Hid ((ks.take I ++ (tk :: ks.drop (I + 1))).getD I nilT = tk) := by
        have := HKL.out.2.2
        rw [Hid, List.getD_eq_getElem?_getD, List.getElem?_append_right (by simp; omega)]
        simp [Nat.min_eq_left (Nat.le_of_lt this)]
      clear hd x2 r2 y1 y2
      by_cases hs2 : tk.ps.length + tk.ks.length < 2
      · have e5 : (tk.ps.length : Int) + (tk.ks.length : Int) < 2 := by omega
        have HMEM : Hid (∀ u ∈ (L.take I ++ ([y] ++ L.drop (I + 1))).map OH.t, sizeT u ≤ 20) := by
          intro u hu
          rw [HKS.out] at hu
          have hz : ∀ v ∈ ks, sizeT v ≤ 20 := fun v hv => by
            obtain ⟨i, hi, rfl⟩ := List.getElem_of_mem hv
            exact HZ.out i hi
          rcases List.mem_append.1 hu with hu | hu
          · exact hz u (List.mem_of_mem_take hu)
          · rcases List.mem_cons.1 hu with rfl | hu
            · exact HSZ.out
            · exact hz u (List.mem_of_mem_drop hu)
        have hlk : ((L.take I ++ ([y] ++ L.drop (I + 1))).map OH.t).length = ks.length := by
          rw [HKS.out]
          have := HKL.out
          simp
          omega
        have hlow : ∀ h : I < ((L.take I ++ ([y] ++ L.drop (I + 1))).map OH.t).length, sizeT ((L.take I ++ ([y] ++ L.drop (I + 1))).map OH.t)[I] < 2 := fun h => by
          have h1 : ((L.take I ++ ([y] ++ L.drop (I + 1))).map OH.t).getD I nilT = tk := by rw [HKS.out]; exact HAT.out
          rw [getD_at h] at h1
          rw [h1]
          exact hs2
        have HRF := hid (impl_refill I ⟨x.g, nodeS x.g (some ⟨kb, 0, none⟩) d (L.take I ++ ([y] ++ L.drop (I + 1))), .node [] ((L.take I ++ ([y] ++ L.drop (I + 1))).map OH.t)⟩ R2 w3 [] _ HSTX.out.fo rfl (by have := HKL.out; omega) (by have := HKL.out; omega)
          (fun i h => HMEM.out _ (List.getElem_mem h)) (by have := HKL.out; omega) (hlow _))
        have HEQ : Hid (dropT k x.t = .node [] (mendL ((L.take I ++ ([y] ++ L.drop (I + 1))).map OH.t) I)) := by rw [Hid, HDT.out, HKS.out]
        unfold ptr at HRF
        clear hlk hlow
        go_wp2_with fail
        refine HRF.out.mono ?_
        rintro e w5 ⟨rfl, R5, x5, hg5, ht5, hst5⟩
        have HFIN := hid (Drop1.yes HH.out hg5 (ht5.trans HEQ.out.symm) (HSTX.out.trans hst5))
        clear hg5 ht5 hst5
        go_wp2_with fail
        go_ret
        exact HFIN.out
      · have e5 : ¬ (tk.ps.length : Int) + (tk.ks.length : Int) < 2 := by omega
        have HEQ : Hid (dropT k x.t = .node [] ((L.take I ++ ([y] ++ L.drop (I + 1))).map OH.t)) := by
          rw [Hid, HDT.out, mendL, if_pos (by rw [HAT.out]; unfold sizeT; omega), HKS.out]
        go_wp2_with fail
        go_ret
        exact Drop1.yes (x' := ⟨x.g, nodeS x.g (some ⟨kb, 0, none⟩) d (L.take I ++ ([y] ++ L.drop (I + 1))), _⟩) HH.out rfl HEQ.out.symm HSTX.out
end Go.Proofs.Ytcjbjfhndjpmcaa
/-
  dropBelow: a key dropped out of a whole tree.
-/
namespace Go.Proofs.Ytcjbjfhndjpmcaa
open Go.RowKit

def DropA (w : World) (R : Nat → Prop) (x : OH) (k : ByteArray) (e : Ending) (w' : World) : Prop :=
  if hasK (allT x.t) k = true then ∃ (R' : Nat → Prop) (z : OH), e = .returned (.tuple #[.pointer (some ⟨z.g, 0, none⟩), .bool true]) ∧ z.t = dropA k x.t ∧ Step w R [x] w' R' [z]
  else e = .returned (.tuple #[.pointer none, .bool false]) ∧ Below w.heap.size w w'
theorem DropA.no {w w' : World} {R : Nat → Prop} {x : OH} {k : ByteArray} (h : hasK (allT x.t) k = false) (hb : Below w.heap.size w w') : DropA w R x k (.returned (.tuple #[.pointer none, .bool false])) w' := by
  rw [DropA, if_neg (by rw [h]; simp)]
  exact ⟨rfl, hb⟩
theorem DropA.yes {w w' : World} {R R' : Nat → Prop} {x z : OH} {k : ByteArray} (h : hasK (allT x.t) k = true) (ht : z.t = dropA k x.t) (hs : Step w R [x] w' R' [z]) : DropA w R x k (.returned (.tuple #[.pointer (some ⟨z.g, 0, none⟩), .bool true])) w' := by
  rw [DropA, if_pos h]
  exact ⟨R', z, rfl, ht, hs⟩
/-- One of the kids alone. -/
theorem Step.kid {w : World} {R : Nat → Prop} {x : OH} {A K : Option Addr} {c d : Nat} {ps : PS} {L : List OH} (hS : ∀ b, nodeS x.g K d L b → x.S b) (h : NodeA w R x.g A c ps K d L) {i : Nat} (hi : i < L.length) : Step w R [x] w R [L[i]] :=
  ⟨h.fo.sub (List.singleton_sublist.2 (List.getElem_mem hi)), Mod.refl _ _, fun b hb => .inl (SU_one.2 (hS b (.inr (.inr ⟨L[i], List.getElem_mem hi, SU_one.1 hb⟩)))), fun _ h => h, fun _ h => .inl h⟩

set_option maxHeartbeats 2000000 in
set_option maxRecDepth 100000 in
theorem impl_dropBelow (k : ByteArray) (n : Nat) (x : OH) (R : Nat → Prop) (w : World) (hf : FO w R [x]) (hg : Fine n true x.t) (hr : risesB (allT x.t) = true) :
    Calls Try.prog 81 #[ptr x.g, .string k] w (DropA w R x k) := by
  have HP := hid (impl_drop k n true x R w hf hg hr)
  have hlf := leaf_has k n true x.t hg hr
  have hlo := (drop_low k n true x.t hg hr).1
  have HSZ : Hid (sizeT (dropT k x.t) ≤ 20) := by
    cases n with
    | zero => unfold Hid sizeT; rw [hlo.1]; have := hlo.2; simp; omega
    | succ n => unfold Hid sizeT; rw [hlo.1]; have := hlo.2.2.1; simp; omega
  cases hh : hasK (allT x.t) k
  · have HH := hid hh
    have HHW : Hid (hasK (wayLeaf k n x.t) k = false) := hlf.trans hh
    clear hh hlf hlo hf hg hr
    unfold ptr at HP ⊢
    go_enter Try.func81, Try.ntmps81
    go_wp2_with fail
    refine HP.out.mono ?_
    intro e w2 hd1
    rw [Drop1, if_neg (by rw [HHW.out]; simp)] at hd1
    obtain ⟨rfl, hb2⟩ := hd1
    have HB2 := hid hb2
    clear hb2
    go_wp2_with fail
    go_ret2
    exact DropA.no HH.out HB2.out
  · have HH := hid hh
    have HHW : Hid (hasK (wayLeaf k n x.t) k = true) := hlf.trans hh
    clear hh hlf hlo hf hg hr
    unfold ptr at HP ⊢
    go_enter Try.func81, Try.ntmps81
    go_wp2_with fail
    refine HP.out.mono ?_
    intro e w2 hd1
    rw [Drop1, if_pos HHW.out] at hd1
    obtain ⟨rfl, R2, y, hyg, hyt, hst⟩ := hd1
    obtain ⟨qs, ls, hyn⟩ : ∃ qs ls, y.t = .node qs ls := by cases y.t with | node p q => exact ⟨p, q, rfl⟩
    obtain ⟨A, c, K, d, L, hL, hA, hS⟩ := hst.fo.node hyn
    have HST := hid hst
    have HYT := hid hyt
    have RX := Row2.of_heap hA.heap
    have x1 := RX.c1
    have hll : L.length = ls.length := by rw [← hL, List.length_map]
    have hl20 : L.length ≤ 20 := by
      have := HSZ.out
      rw [← hyt, hyn] at this
      simp only [sizeT, BT.ks] at this
      omega
    have HLS : Hid ((dropT k x.t).ks = ls) := by rw [Hid, ← hyt, hyn]; rfl
    have HLL := hid hll
    have HA := hid hA
    have HS := hid hS
    have HL := hid hL
    rw [← hyg]
    by_cases h1 : L.length = 1
    · obtain ⟨kb, rfl⟩ := row_at hA.row (by omega)
      have r0 := ohc_at hA.row (i := 0) (by omega)
      have HFIN := hid (DropA.yes (z := L[0]'(by omega)) HH.out (by
        have e : (dropT k x.t).ks.length = 1 := by rw [HLS.out, ← hll]; exact h1
        rw [dropA, if_pos e, HLS.out]
        exact (kid_t hL (by omega) (by omega)).trans (getD_at (by omega)).symm) (hst.trans (Step.kid hS hA (i := 0) (by omega))))
      generalize hl0 : L[0]'(by omega) = l0 at *
      have e1 : ((L.length : Int) == 1) = true := by rw [beq_iff_eq]; omega
      have e2 : (L.length : Int) = 1 := by omega
      have e3 : (0 : Int) < (L.length : Int) := by omega
      have e4 : 0 < L.length := by omega
      have e5 : (0 : Int) < 1 := by omega
      unfold ptr at r0
      clear hst hyt hyn hA hS hL hll RX hyg hl0
      go_wp2_with fail
      go_ret2
      exact HFIN.out
    · have HFIN := hid (DropA.yes HH.out (by
        have e : ¬ (dropT k x.t).ks.length = 1 := by rw [HLS.out, ← hll]; exact h1
        rw [dropA, if_neg e, hyt]) hst)
      have e1 : ((L.length : Int) == 1) = false := by rw [beq_eq_false_iff_ne]; omega
      have e2 : ¬ (L.length : Int) = 1 := by omega
      clear hst hyt hyn hA hS hL hll RX hyg
      go_wp2_with fail
      go_ret2
      exact HFIN.out
end Go.Proofs.Ytcjbjfhndjpmcaa
