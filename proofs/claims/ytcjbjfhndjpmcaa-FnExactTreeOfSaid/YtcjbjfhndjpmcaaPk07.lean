import Derived.Test.YtcjbjfhndjpmcaaPk06
/-
  The model's trees: contracts of what looks at them.
-/
namespace Go.Proofs.Ytcjbjfhndjpmcaa
open Go.RowKit

set_option maxHeartbeats 400000 in
set_option maxRecDepth 100000 in
theorem spec_l1CopyMap (A : Option Addr) (c : Nat) (ps : PS) (w : World) (hr : RP w w.heap.size A ps) (hn : ps.length ≤ 1048576) :
    Calls Try.prog 106 #[.slice A ps.length c] w (Made w w.heap.size ps) := by
  obtain ⟨i0, hi0, hz0, hz1, hz2⟩ := info_parts pairInfo
  have HR := hid ((hr.below ((Below.refl _ _).alloc (Nat.le_refl _) (.cells #[] 57))).more (B' := (w.alloc (.cells #[] 57)).heap.size) (by simp))
  have HO := hid (OwnP.made (w := w) (B := w.heap.size) (Nat.le_refl _) #[] 0 rfl (by unfold maxLen; omega))
  have HL : Hid (([] : PS).length + ps.length ≤ 4000000) := by simp [Hid]; omega
  have HB : Hid (Below w.heap.size w (w.alloc (.cells #[] 57))) := (Below.refl _ _).alloc (Nat.le_refl _) _
  clear hr
  go_enter Try.func106, Try.ntmps106
  go_wp2_with (at_builtin; refine wpList_append_rp _ rfl _ _ _ rfl i0 Try.underlying27 hi0 hz0 hz1 hz2 w.heap.size (some ⟨w.heap.size, 0, none⟩) 0 0 [] rfl rfl HO.out _ _ _ _ ps rfl rfl HR.out HL.out HB.out.size ?_; intro A5 n5 c5 w5 hn5 hown5 hbw5; have HN5 := hid hn5; have HO5 := hid hown5; have HB5 := hid hbw5; clear hn5 hown5 hbw5)
  go_ret
  have e : n5 = ps.length := HN5.out
  subst e
  exact ⟨A5, c5, rfl, HO5.out, HB.out.trans HB5.out⟩

theorem spec_l2Size (A K : Option Addr) (c d n m : Nat) (w : World) (hn : n ≤ 9000000) (hm : m ≤ 9000000) :
    Calls Try.prog 148 #[.agg #[.slice A n c, .slice K m d]] w fun e w' => e = .returned (.int .i64 ((n : Int) + (m : Int))) ∧ Below w.heap.size w w' := by
  have HB : Hid (∀ o : Obj, Below w.heap.size w (w.alloc o)) := fun o => (Below.refl _ _).alloc (Nat.le_refl _) o
  go_enter Try.func148, Try.ntmps148
  go_wp2_with fail
  go_ret
  exact ⟨rfl, HB.out _⟩

/-- A tree no larger than that: how many nodes, kids and pairs. -/
def SzT (t : BT) : Prop := szT t ≤ 1000
theorem kids_len : ∀ ks : List BT, ks.length ≤ szK ks
  | [] => by simp [szK]
  | t :: r => by
    have := kids_len r
    have := szT_pos t
    simp only [List.length_cons, szK]
    omega

/-- As l2Deep tells it. -/
def deepI (t : BT) : Int := if deepT t = 0 then -1 else (deepT t : Int)
theorem deepI_leaf (ps : PS) : deepI (.node ps []) = 1 := by simp [deepI, deepT, deepK, deepOf]
theorem deepI_eq {t u : BT} (h : deepI t = deepI u) : deepT t = deepT u := by
  unfold deepI at h
  split at h <;> split at h <;> omega
theorem deepI_small {t : BT} {n : Nat} (h : szT t ≤ n) : -1 ≤ deepI t ∧ deepI t ≤ n := by
  have := (deep_sz n t h).1
  unfold deepI
  split <;> omega
theorem deepI_bad {ps : PS} {ks : List BT} {k : Nat} (hk : k < ks.length) (h : deepI ks[k] ≠ deepI (ks[0]'(by omega))) : deepI (.node ps ks) = -1 := by
  match ks, hk, h with
  | t :: r, hk, h =>
    have : deepT (.node ps (t :: r)) = 0 := by
      simp only [deepT, deepK_map, List.map_cons, deepOf]
      rw [if_neg]
      rintro ⟨h1, h2⟩
      cases k with
      | zero => exact h rfl
      | succ k =>
        have hk' : k < r.length := by simpa using hk
        rw [List.all_map, List.all_eq_true] at h2
        have := h2 r[k] (List.getElem_mem hk')
        simp only [Function.comp, decide_eq_true_eq] at this
        apply h
        simp only [List.getElem_cons_succ, List.getElem_cons_zero, deepI, this]
    simp [deepI, this]
theorem deepI_all {ps : PS} {ks : List BT} (h0 : 0 < ks.length) (h : ∀ (i : Nat) (hi : i < ks.length), deepI ks[i] = deepI ks[0]) : deepI (.node ps ks) = if deepI ks[0] < 0 then -1 else deepI ks[0] + 1 := by
  match ks, h0, h with
  | t :: r, _, h =>
    simp only [List.getElem_cons_zero] at h ⊢
    by_cases h1 : deepT t = 0
    · have : deepT (.node ps (t :: r)) = 0 := by
        simp only [deepT, deepK_map, List.map_cons, deepOf]
        rw [if_neg (fun hx => hx.1 h1)]
      simp [deepI, this, h1]
    · have : deepT (.node ps (t :: r)) = deepT t + 1 := by
        simp only [deepT, deepK_map, List.map_cons, deepOf]
        rw [if_pos]
        refine ⟨h1, ?_⟩
        rw [List.all_map, List.all_eq_true]
        intro x hx
        obtain ⟨i, hi, rfl⟩ := List.getElem_of_mem hx
        have := deepI_eq (h (i + 1) (by simpa using hi))
        simp only [List.getElem_cons_succ] at this
        simp [this]
      simp only [deepI, this, h1, if_false]
      rw [if_neg (by omega), if_neg (by omega)]
      omega
def deepTo (ks : List BT) (v : Int) (k : Nat) : Prop := ∀ (i : Nat) (hi : i < ks.length), i < k → deepI ks[i] = v
theorem deepTo_succ {ks : List BT} {v : Int} {k : Nat} (h : deepTo ks v k) (hk : k < ks.length) (he : deepI ks[k] = v) : deepTo ks v (k + 1) := by
  intro i hi hlt
  by_cases e : i = k
  · subst e
    exact he
  · exact h i hi (by omega)

set_option maxHeartbeats 2000000 in
set_option maxRecDepth 100000 in
theorem spec_l2Deep : ∀ (n : Nat) (t : BT) (A K : Option Addr) (c d : Nat) (S : Nat → Prop) (w : World), szT t ≤ n → n ≤ 1000 → RT w S A K t → (∀ b, S b → b < w.heap.size) →
    Calls Try.prog 98 #[.agg #[.slice A t.ps.length c, .slice K t.ks.length d]] w fun e w' => e = .returned (.int .i64 (deepI t)) ∧ Below w.heap.size w w'
  | 0, t, _, _, _, _, _, _, h, _, _, _ => by have := szT_pos t; omega
  | n + 1, .node ps ks, A, K, c, d, S, w, hn, hn2, hr, hS => by
    simp only [BT.ps, BT.ks]
    have HB : Hid (∀ o : Obj, Below w.heap.size w (w.alloc o)) := fun o => (Below.refl _ _).alloc (Nat.le_refl _) o
    have IH := hid (spec_l2Deep n)
    have hkl : ks.length ≤ 1000 := by have := kids_len ks; simp only [szT] at hn; omega
    by_cases h0 : 0 < ks.length
    · obtain ⟨b, off, A', K', c', d', rfl, hb, hc1, hc2, hk0⟩ := hr.kid h0
      have hbz := hS b hb
      have HR := hid hr
      have HS := hid hS
      have HK0 := hid hk0
      have hsz0 : szT ks[0] ≤ n := by have := sz_kid (ps := ps) h0; omega
      have hdi := deepI_small hsz0
      have HBAD := hid (fun k (hk : k < ks.length) h => @deepI_bad ps ks k hk h)
      have HALL := hid (@deepI_all ps ks h0)
      have HSK : Hid (∀ k (hk : k < ks.length), szT ks[k] ≤ n) := fun k hk => by have := sz_kid (ps := ps) hk; omega
      have hne : ¬ ks.length = 0 := by omega
      have g0 : ((ks.length : Int) == 0) = false := by rw [beq_eq_false_iff_ne]; omega
      have g1 : (0 : Int) < (ks.length : Int) := by omega
      have d1 : w.cell? ⟨b, off, none⟩ = some (.slice A' ks[0].ps.length c') := by simpa using hc1
      have d2 : w.cell? ⟨b, off + 1, none⟩ = some (.slice K' ks[0].ks.length d') := by simpa using hc2
      clear hr hS hk0 hc1 hc2 hn
      go_enter Try.func98, Try.ntmps98
      go_wp2_with fail
      refine (IH.out ks[0] A' K' c' d' S _ hsz0 (by omega) (HK0.out.keep (fun b h => (HB.out _).block b (HS.out b h)) (fun _ h => h)) (fun b h => by have := HS.out b h; simp; omega)).mono ?_
      rintro e w1 ⟨rfl, hb1⟩
      have HX : Hid (Below w.heap.size w w1) := (HB.out _).trans (hb1.mono (HB.out _).size)
      have x1 : w1.cell? ⟨w.heap.size, 1, none⟩ = some (.slice (some ⟨b, off, none⟩) ks.length d) := (hb1.cell (p := ⟨w.heap.size, 1, none⟩) (by simp)).trans (by go_simp)
      have hlt0 : w.heap.size < w1.heap.size := by have := hb1.size; simp at this; omega
      have HX1 : Hid (∀ W : World, Below w1.heap.size w1 W → W.cell? ⟨w.heap.size, 1, none⟩ = some (.slice (some ⟨b, off, none⟩) ks.length d)) := fun W h => (h.cell (p := ⟨w.heap.size, 1, none⟩) hlt0).trans x1
      clear hb1 d1 d2 x1
      generalize hv : deepI ks[0] = v0 at *
      have HV := hid hv
      clear hv
      go_wp2_with fail
      go_loopw [4] (fun i wr => ∃ k : Nat, 1 ≤ k ∧ k ≤ ks.length ∧ i = .int .i64 k ∧ deepTo ks v0 k ∧ Below w1.heap.size w1 wr) (fun i _ => ks.length - (intOf i).toNat)
      case atStart => exact ⟨1, Nat.le_refl _, by omega, by go_num, fun i hi h => by have : i = 0 := by omega
                                                                                     subst this; exact HV.out, Below.refl _ _⟩
      case round =>
        obtain ⟨k, hk1, hk, rfl, hdt, hbw⟩ := hrel
        have x1 := HX1.out _ hbw
        have HD := hid hbw
        have HDT := hid hdt
        have HXW := hid (HX.out.trans (hbw.mono HX.out.size))
        by_cases hlt : k < ks.length
        · obtain ⟨b', off', A2, K2, c2, d2, e', hb2, hc1, hc2, hk2⟩ := HR.out.kid hlt
          injection e' with e'
          injection e' with e1 e2
          subst e1 e2
          have e5 : (0 : Int) ≤ (k : Int) := by omega
          have e6 : (k : Int) < (ks.length : Int) := by omega
          have hc3 := (HXW.out.cell (p := ⟨b, off + k * 2, none⟩) hbz).trans hc1
          have hc4 := (HXW.out.cell (p := ⟨b, off + k * 2 + 1, none⟩) hbz).trans hc2
          have HK2 := hid (hk2.keep (fun b h => HXW.out.block b (HS.out b h)) (fun _ h => h))
          have hle := HXW.out.size
          clear hbw hc1 hc2 hk2 hdt
          by_cases he : deepI ks[k] = v0
          · have h1 := neI_false he
            have HE := hid he
            clear he
            go_wp2_with fail
            refine (IH.out ks[k] A2 K2 c2 d2 S _ (HSK.out k hlt) (by omega) HK2.out (fun b h => by have := HS.out b h; omega)).mono ?_
            rintro e w2 ⟨rfl, hb2'⟩
            have HW2 := hid (HD.out.trans (hb2'.mono HD.out.size))
            clear hb2' hc3 hc4 x1
            go_wp2_with fail
            go_roundw
            case rel => exact ⟨k + 1, by omega, by omega, by go_num, deepTo_succ HDT.out hlt HE.out, HW2.out⟩
            case measure => simp [intOf]; omega
          · have h1 := neI_true he
            have HE : Hid (deepI (.node ps ks) = -1) := HBAD.out k hlt (fun hx => he (hx.trans HV.out))
            clear he
            go_wp2_with fail
            refine (IH.out ks[k] A2 K2 c2 d2 S _ (HSK.out k hlt) (by omega) HK2.out (fun b h => by have := HS.out b h; omega)).mono ?_
            rintro e w2 ⟨rfl, hb2'⟩
            have HW2 := hid (HXW.out.trans (hb2'.mono HXW.out.size))
            clear hb2' hc3 hc4 x1
            go_wp2_with fail
            go_ret
            exact ⟨ret_i HE.out.symm, HW2.out⟩
        · obtain rfl : k = ks.length := by omega
          have HE : Hid (deepI (.node ps ks) = if v0 < 0 then -1 else v0 + 1) := HALL.out (fun i hi => hdt i hi hi)
          clear hbw hdt
          by_cases hneg : v0 < 0
          · have HE2 : Hid (deepI (.node ps ks) = -1) := by
              rw [Hid, HE.out, if_pos hneg]
            go_wp2_with fail
            go_ret
            exact ⟨ret_i HE2.out.symm, HXW.out⟩
          · have HE2 : Hid (deepI (.node ps ks) = v0 + 1) := by
              rw [Hid, HE.out, if_neg hneg]
            go_wp2_with fail
            go_ret
            exact ⟨ret_i HE2.out.symm, HXW.out⟩
    · obtain rfl : ks = [] := List.eq_nil_of_length_eq_zero (by omega)
      have HE := hid (deepI_leaf ps)
      clear hr hS hn
      go_enter Try.func98, Try.ntmps98
      go_wp2_with fail
      go_ret
      exact ⟨ret_i HE.out.symm, HB.out _⟩

theorem fullK_bad {ks : List BT} {k : Nat} (hk : k < ks.length) (h : fullT ks[k] false = false) : fullK ks = false := by
  rw [Bool.eq_false_iff]
  intro h'
  have := fullK_at.1 h' k hk
  rw [h] at this
  cases this
def fullTo (ks : List BT) (k : Nat) : Prop := ∀ (i : Nat) (hi : i < ks.length), i < k → fullT ks[i] false = true
theorem fullTo_succ {ks : List BT} {k : Nat} (h : fullTo ks k) (hk : k < ks.length) (he : fullT ks[k] false = true) : fullTo ks (k + 1) := by
  intro i hi hlt
  by_cases e : i = k
  · subst e
    exact he
  · exact h i hi (by omega)
theorem eq1_true {n : Nat} (h : n = 1) : ((n : Int) == 1) = true := by simp [h]
theorem eq1_false {n : Nat} (h : n ≠ 1) : ((n : Int) == 1) = false := by rw [beq_eq_false_iff_ne]; omega
theorem eq0_true {n : Nat} (h : n = 0) : ((n : Int) == 0) = true := by simp [h]
theorem eq0_false {n : Nat} (h : n ≠ 0) : ((n : Int) == 0) = false := by rw [beq_eq_false_iff_ne]; omega
/-- When a node is not filled as it may be, in the order in which that is asked. -/
theorem fill_cases (top : Bool) (np nk : Nat) :
    (fillB top np nk = true ∧ np + nk ≤ 4 ∧ (top = true ∨ (top = false ∧ 2 ≤ np + nk)) ∧ nk ≠ 1 ∧ (np ≤ 0 ∨ (0 < np ∧ nk ≤ 0))) ∨
    (fillB top np nk = false ∧ (4 < np + nk ∨ (np + nk ≤ 4 ∧ top = false ∧ np + nk < 2) ∨ (np + nk ≤ 4 ∧ (top = true ∨ (top = false ∧ 2 ≤ np + nk)) ∧ nk = 1) ∨ (np + nk ≤ 4 ∧ (top = true ∨ (top = false ∧ 2 ≤ np + nk)) ∧ nk ≠ 1 ∧ 0 < np ∧ 0 < nk))) := by
  cases h : fillB top np nk
  · right
    refine ⟨rfl, ?_⟩
    simp only [fillB, Bool.and_eq_false_iff, Bool.not_eq_false', Bool.and_eq_true, decide_eq_true_eq, decide_eq_false_iff_not, Bool.or_eq_false_iff] at h
    cases top <;> simp at h ⊢ <;> omega
  · left
    refine ⟨rfl, ?_⟩
    simp only [fillB, Bool.and_eq_true, Bool.not_eq_true', Bool.and_eq_false_iff, decide_eq_true_eq, decide_eq_false_iff_not, Bool.or_eq_true] at h
    cases top <;> simp at h ⊢ <;> omega

set_option maxHeartbeats 4000000 in
set_option maxRecDepth 100000 in
theorem spec_l2Full : ∀ (n : Nat) (t : BT) (top : Bool) (A K : Option Addr) (c d : Nat) (S : Nat → Prop) (w : World), szT t ≤ n → n ≤ 1000 → smT t → RT w S A K t → (∀ b, S b → b < w.heap.size) →
    Calls Try.prog 128 #[.agg #[.slice A t.ps.length c, .slice K t.ks.length d], .bool top] w fun e w' => e = .returned (.bool (fullT t top)) ∧ Below w.heap.size w w'
  | 0, t, _, _, _, _, _, _, _, h, _, _, _, _ => by have := szT_pos t; omega
  | n + 1, .node ps ks, top, A, K, c, d, S, w, hn, hn2, hsm, hr, hS => by
    simp only [BT.ps, BT.ks]
    simp only [smT] at hsm
    obtain ⟨hp, hsk⟩ := hsm
    have HB : Hid (∀ o : Obj, Below w.heap.size w (w.alloc o)) := fun o => (Below.refl _ _).alloc (Nat.le_refl _) o
    have IH := hid (spec_l2Full n)
    have hkl : ks.length ≤ 1000 := by have := kids_len ks; simp only [szT] at hn; omega
    have HR := hid hr
    have HS := hid hS
    have HSM := hid (smK_at hsk)
    have HSK : Hid (∀ k (hk : k < ks.length), szT ks[k] ≤ n) := fun k hk => by have := sz_kid (ps := ps) hk; omega
    have HFC := hid (fill_cases top ps.length ks.length)
    have HBAD := hid (fun k (hk : k < ks.length) h => @fullK_bad ks k hk h)
    have HEQ : Hid (fullT (.node ps ks) top = (fillB top ps.length ks.length && fullK ks)) := by rw [Hid, fullT]
    clear hr hS hsk hn
    go_enter Try.func128, Try.ntmps128
    go_wp2_with fail
    refine (spec_l2Size A K c d ps.length ks.length _ (by omega) (by omega)).mono ?_
    rintro e w1 ⟨rfl, hb1⟩
    have HX : Hid (Below w.heap.size w w1) := (HB.out _).trans (hb1.mono (HB.out _).size)
    have x0 : w1.cell? ⟨w.heap.size, 0, none⟩ = some (.slice A ps.length c) := (hb1.cell (p := ⟨w.heap.size, 0, none⟩) (by simp)).trans (by go_simp)
    have x1 : w1.cell? ⟨w.heap.size, 1, none⟩ = some (.slice K ks.length d) := (hb1.cell (p := ⟨w.heap.size, 1, none⟩) (by simp)).trans (by go_simp)
    have hlt0 : w.heap.size < w1.heap.size := by have := hb1.size; simp at this; omega
    have HX1 : Hid (∀ W : World, Below w1.heap.size w1 W → W.cell? ⟨w.heap.size, 1, none⟩ = some (.slice K ks.length d)) := fun W h => (h.cell (p := ⟨w.heap.size, 1, none⟩) hlt0).trans x1
    clear hb1
    rcases HFC.out with ⟨hf, h1, h2, h3, h4⟩ | ⟨hf, hbad⟩
    · have HE : Hid (fullT (.node ps ks) top = fullK ks) := by rw [Hid, HEQ.out, hf]; rfl
      have g3 := eq1_false h3
      clear hf h3 HEQ HFC
      rcases h4 with h4 | ⟨h4, h5⟩
      · rcases h2 with rfl | ⟨rfl, h2⟩
        all_goals
          go_wp2_with fail
          go_loopw [6] (fun i wr => ∃ k : Nat, k ≤ ks.length ∧ i = .int .i64 k ∧ fullTo ks k ∧ Below w1.heap.size w1 wr) (fun i _ => ks.length - (intOf i).toNat)
          case atStart => exact ⟨0, Nat.zero_le _, rfl, fun i hi h => absurd h (by omega), Below.refl _ _⟩
          case round =>
            obtain ⟨k, hk, rfl, hdt, hbw⟩ := hrel
            have x1 := HX1.out _ hbw
            have HD := hid hbw
            have HDT := hid hdt
            have HXW := hid (HX.out.trans (hbw.mono HX.out.size))
            by_cases hlt : k < ks.length
            · obtain ⟨b', off', A2, K2, c2, d2, rfl, hb2, hc1, hc2, hk2⟩ := HR.out.kid hlt
              have hbz := HS.out b' hb2
              have e5 : (0 : Int) ≤ (k : Int) := by omega
              have e6 : (k : Int) < (ks.length : Int) := by omega
              have hc3 := (HXW.out.cell (p := ⟨b', off' + k * 2, none⟩) hbz).trans hc1
              have hc4 := (HXW.out.cell (p := ⟨b', off' + k * 2 + 1, none⟩) hbz).trans hc2
              have HK2 := hid (hk2.keep (fun b h => HXW.out.block b (HS.out b h)) (fun _ h => h))
              have hle := HXW.out.size
              clear hbw hc1 hc2 hk2 hdt
              cases he : fullT ks[k] false
              · have HE2 := hid (HBAD.out k hlt he)
                go_wp2_with fail
                refine (IH.out ks[k] false A2 K2 c2 d2 S _ (HSK.out k hlt) (by omega) (HSM.out k hlt) HK2.out (fun b h => by have := HS.out b h; omega)).mono ?_
                rintro e w2 ⟨rfl, hb2'⟩
                have HW2 := hid (HXW.out.trans (hb2'.mono HXW.out.size))
                clear hb2' hc3 hc4 x1
                go_wp2_with fail
                go_ret
                exact ⟨ret_bool (HE.out.trans HE2.out).symm, HW2.out⟩
              · go_wp2_with fail
                refine (IH.out ks[k] false A2 K2 c2 d2 S _ (HSK.out k hlt) (by omega) (HSM.out k hlt) HK2.out (fun b h => by have := HS.out b h; omega)).mono ?_
                rintro e w2 ⟨rfl, hb2'⟩
                have HW2 := hid (HD.out.trans (hb2'.mono HD.out.size))
                clear hb2' hc3 hc4 x1
                go_wp2_with fail
                go_roundw
                case rel => exact ⟨k + 1, by omega, by go_num, fullTo_succ HDT.out hlt he, HW2.out⟩
                case measure => simp [intOf]; omega
            · obtain rfl : k = ks.length := by omega
              have HE2 : Hid (fullK ks = true) := fullK_at.2 fun i hi => hdt i hi hi
              clear hbw hdt
              go_wp2_with fail
              go_ret
              exact ⟨ret_bool (HE.out.trans HE2.out).symm, HXW.out⟩
      · rcases h2 with rfl | ⟨rfl, h2⟩
        all_goals
          go_wp2_with fail
          go_loopw [6] (fun i wr => ∃ k : Nat, k ≤ ks.length ∧ i = .int .i64 k ∧ fullTo ks k ∧ Below w1.heap.size w1 wr) (fun i _ => ks.length - (intOf i).toNat)
          case atStart => exact ⟨0, Nat.zero_le _, rfl, fun i hi h => absurd h (by omega), Below.refl _ _⟩
          case round =>
            obtain ⟨k, hk, rfl, hdt, hbw⟩ := hrel
            have x1 := HX1.out _ hbw
            have HD := hid hbw
            have HDT := hid hdt
            have HXW := hid (HX.out.trans (hbw.mono HX.out.size))
            by_cases hlt : k < ks.length
            · exact absurd hlt (by omega)
            · obtain rfl : k = ks.length := by omega
              have HE2 : Hid (fullK ks = true) := fullK_at.2 fun i hi => hdt i hi hi
              clear hbw hdt
              go_wp2_with fail
              go_ret
              exact ⟨ret_bool (HE.out.trans HE2.out).symm, HXW.out⟩
    · have HE : Hid (fullT (.node ps ks) top = false) := by rw [Hid, HEQ.out, hf]; rfl
      clear hf HEQ HFC
      rcases hbad with h1 | ⟨h1, rfl, h2⟩ | ⟨h1, h2, h3⟩ | ⟨h1, h2, h3, h4, h5⟩
      · go_wp2_with fail
        go_ret
        exact ⟨ret_bool HE.out.symm, HX.out⟩
      · go_wp2_with fail
        go_ret
        exact ⟨ret_bool HE.out.symm, HX.out⟩
      · have g3 := eq1_true h3
        clear h3
        rcases h2 with rfl | ⟨rfl, h2⟩
        all_goals
          go_wp2_with fail
          go_ret
          exact ⟨ret_bool HE.out.symm, HX.out⟩
      · have g3 := eq1_false h3
        clear h3
        rcases h2 with rfl | ⟨rfl, h2⟩
        all_goals
          go_wp2_with fail
          go_ret
          exact ⟨ret_bool HE.out.symm, HX.out⟩

set_option maxHeartbeats 2000000 in
set_option maxRecDepth 100000 in
theorem spec_l2Map : ∀ (n : Nat) (t : BT) (A K : Option Addr) (c d : Nat) (S : Nat → Prop) (w : World), szT t ≤ n → n ≤ 1000 → (allT t).length ≤ 4000 → RT w S A K t → (∀ b, S b → b < w.heap.size) →
    Calls Try.prog 74 #[.agg #[.slice A t.ps.length c, .slice K t.ks.length d]] w (Made w w.heap.size (allT t))
  | 0, t, _, _, _, _, _, _, h, _, _, _, _ => by have := szT_pos t; omega
  | n + 1, .node ps ks, A, K, c, d, S, w, hn, hn2, hal, hr, hS => by
    simp only [BT.ps, BT.ks]
    obtain ⟨i0, hi0, hz0, hz1, hz2⟩ := info_parts pairInfo
    have HB : Hid (∀ o : Obj, Below w.heap.size w (w.alloc o)) := fun o => (Below.refl _ _).alloc (Nat.le_refl _) o
    have IH := hid (spec_l2Map n)
    have hkl : ks.length ≤ 1000 := by have := kids_len ks; simp only [szT] at hn; omega
    have HR := hid hr
    have HS := hid hS
    have HSK : Hid (∀ k (hk : k < ks.length), szT ks[k] ≤ n) := fun k hk => by have := sz_kid (ps := ps) hk; omega
    have hpa : ps.length + (allK ks).length ≤ 4000 := by simpa [allT] using hal
    have HEQ : Hid (allT (.node ps ks) = ps ++ allK ks) := by rw [Hid, allT]
    clear hr hS hn hal
    go_enter Try.func74, Try.ntmps74
    go_wp2_with fail
    refine (spec_l1CopyMap A c ps _ ((HR.out.pairs.rp HS.out).below (HB.out _) |>.more (HB.out _).size) (by omega)).mono ?_
    rintro e w1 ⟨A1, c1, rfl, ho1, hb1⟩
    have HX : Hid (Below w.heap.size w w1) := (HB.out _).trans (hb1.mono (HB.out _).size)
    have x1 : w1.cell? ⟨w.heap.size, 1, none⟩ = some (.slice K ks.length d) := (hb1.cell (p := ⟨w.heap.size, 1, none⟩) (by simp)).trans (by go_simp)
    have hlt0 : w.heap.size + 1 ≤ w1.heap.size := by have := hb1.size; simp at this; omega
    have HO1 := hid (by simpa using ho1 : OwnP w1 (w.heap.size + 1) A1 c1 ps)
    have HX1 : Hid (∀ W : World, Below (w.heap.size + 1) w1 W → W.cell? ⟨w.heap.size, 1, none⟩ = some (.slice K ks.length d)) := fun W h => (h.cell (p := ⟨w.heap.size, 1, none⟩) (by simp)).trans x1
    clear hb1 ho1
    go_wp2_with fail
    go_loopw [3, 4] (fun v i wr => ∃ (k m : Nat) (A' : Option Addr) (c' : Nat), k ≤ ks.length ∧ i = .int .i64 k ∧ v = .slice A' m c' ∧ m = (ps ++ allK (ks.take k)).length ∧ OwnP wr (w.heap.size + 1) A' c' (ps ++ allK (ks.take k)) ∧ Below (w.heap.size + 1) w1 wr) (fun _ i _ => ks.length - (intOf i).toNat)
    case atStart => exact ⟨0, ps.length, A1, c1, Nat.zero_le _, rfl, rfl, by simp [allK], by simpa [allK] using HO1.out, Below.refl _ _⟩
    case round =>
      obtain ⟨k, m, A', c', hk, rfl, rfl, hm, hown, hbw⟩ := hrel
      have x1 := HX1.out _ hbw
      have HD := hid hbw
      have HM := hid hm
      have HO := hid hown
      have HXW := hid (HX.out.trans (hbw.mono (by omega)))
      by_cases hlt : k < ks.length
      · obtain ⟨b', off', A2, K2, c2, d2, rfl, hb2, hc1, hc2, hk2⟩ := HR.out.kid hlt
        have hbz := HS.out b' hb2
        have e5 : (0 : Int) ≤ (k : Int) := by omega
        have e6 : (k : Int) < (ks.length : Int) := by omega
        have hc3 := (HXW.out.cell (p := ⟨b', off' + k * 2, none⟩) hbz).trans hc1
        have hc4 := (HXW.out.cell (p := ⟨b', off' + k * 2 + 1, none⟩) hbz).trans hc2
        have HK2 := hid (hk2.keep (fun b h => HXW.out.block b (HS.out b h)) (fun _ h => h))
        have hle := HXW.out.size
        have hak := allK_at hlt
        have hat := allK_take_le ks (k + 1)
        have htk := allK_take hlt
        have hl2 : (ps ++ allK (ks.take k)).length + (allT ks[k]).length ≤ 4000 := by
          rw [htk, List.length_append] at hat
          rw [List.length_append]
          omega
        have HTK : Hid (ps ++ allK (ks.take k) ++ allT ks[k] = ps ++ allK (ks.take (k + 1))) := by rw [Hid, htk, List.append_assoc]
        have HL2 : Hid ((ps ++ allK (ks.take k)).length + (allT ks[k]).length ≤ 4000000) := by unfold Hid; omega
        have hat4 : (allT ks[k]).length ≤ 4000 := by omega
        have hwr : w.heap.size + 1 ≤ wr.heap.size := Nat.le_trans hlt0 hbw.size
        clear hbw hc1 hc2 hk2 hm hown hak hat htk hl2
        go_wp2_with fail
        refine (IH.out ks[k] A2 K2 c2 d2 S _ (HSK.out k hlt) (by omega) hat4 HK2.out (fun b h => by have := HS.out b h; omega)).mono ?_
        rintro e w2 ⟨A3, c3, rfl, ho3, hb3⟩
        have HO3 := hid ho3
        have HO4 := hid (HO.out.below hb3)
        have HD2 := hid (HD.out.trans (hb3.mono hwr))
        have hwr2 : w.heap.size + 1 ≤ w2.heap.size := Nat.le_trans hwr hb3.size
        clear ho3 hb3 hc3 hc4 x1
        go_wp2_with (at_builtin; refine wpList_append_rp _ rfl _ _ _ rfl i0 Try.underlying27 hi0 hz0 hz1 hz2 (w.heap.size + 1) A' m c' (ps ++ allK (ks.take k)) rfl HM.out HO4.out _ _ _ _ (allT ks[k]) rfl rfl HO3.out.rp HL2.out hwr2 ?_; intro A5 n5 c5 w5 hn5 hown5 hbw5; have HN5 := hid hn5; have HO5 := hid hown5; have HB5 := hid hbw5; clear hn5 hown5 hbw5)
        go_roundw
        case rel => exact ⟨k + 1, n5, A5, c5, by omega, by go_num, rfl, by rw [← HTK.out]; exact HN5.out, by rw [← HTK.out]; exact HO5.out, HD2.out.trans HB5.out⟩
        case measure => simp [intOf]; omega
      · obtain rfl : k = ks.length := by omega
        clear hbw hm hown
        go_wp2_with fail
        go_ret
        rw [List.take_length, ← HEQ.out] at HM HO
        exact ⟨A', c', ret_slice HM.out, OwnP.mono' HO.out (by omega), HXW.out⟩
end Go.Proofs.Ytcjbjfhndjpmcaa
