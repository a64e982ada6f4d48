import Derived.Test.YtcjbjfhndjpmcaaPk14
import Derived.Test.YtcjbjfhndjpmcaaPk35
/-
  The program's TreeOk, TreeMap, TreeGet, Height: contracts.
-/
namespace Go.Proofs.Ytcjbjfhndjpmcaa
open Go.RowKit

/-- A branch tree in new memory over pairs that were there. -/
def HasTree (w : World) (t : BT) (g : Nat) (w' : World) : Prop := ∃ S : Nat → Prop, OT w' (· < w.heap.size) S g t ∧ ∀ b, S b → w.heap.size ≤ b ∧ b < w'.heap.size
theorem HasTree.lt {w w' : World} {t : BT} {g : Nat} (h : HasTree w t g w') (hs : w.heap.size ≤ w'.heap.size) : ∃ S : Nat → Prop, OT w' (· < w.heap.size) S g t ∧ ∀ b, S b ∨ b < w.heap.size → b < w'.heap.size := by
  obtain ⟨S, h1, h2⟩ := h
  exact ⟨S, h1, fun b hb => by
    rcases hb with hb | hb
    · exact (h2 b hb).2
    · omega⟩
theorem HasTree.keep {w w1 w2 : World} {t : BT} {g : Nat} (h : HasTree w t g w1) (hs : w.heap.size ≤ w1.heap.size) (hb : Below w1.heap.size w1 w2) : HasTree w t g w2 := by
  obtain ⟨S, h1, h2⟩ := h
  exact ⟨S, h1.keepB hb (fun b hx => by
    rcases hx with hx | hx
    · exact (h2 b hx).2
    · omega), fun b hx => ⟨(h2 b hx).1, Nat.lt_of_lt_of_le (h2 b hx).2 hb.size⟩⟩
def BranchesPost (ns : List ND) (w : World) (e : Ending) (w' : World) : Prop :=
  Below w.heap.size w w' ∧ match treeOf ns with
    | none => e = .returned (.tuple #[.pointer none, .bool false])
    | some t => ∃ g, e = .returned (.tuple #[.pointer (some ⟨g, 0, none⟩), .bool true]) ∧ HasTree w t g w'
theorem BranchesPost.no {ns : List ND} {w w' : World} (h : treeOf ns = none) (hb : Below w.heap.size w w') : BranchesPost ns w (.returned (.tuple #[.pointer none, .bool false])) w' := by
  refine ⟨hb, ?_⟩
  rw [h]
theorem BranchesPost.yes {ns : List ND} {w w' : World} {t : BT} {g : Nat} (h : treeOf ns = some t) (hb : Below w.heap.size w w') (ht : HasTree w t g w') : BranchesPost ns w (.returned (.tuple #[.pointer (some ⟨g, 0, none⟩), .bool true])) w' := by
  refine ⟨hb, ?_⟩
  rw [h]
  exact ⟨g, rfl, ht⟩

set_option maxHeartbeats 2000000 in
set_option maxRecDepth 100000 in
theorem impl_branchesOf (A : Option Addr) (c : Nat) (ns : List ND) (w : World) (hr : RN w w.heap.size A ns) (h1 : 1 ≤ ns.length) (hl : ns.length ≤ 100) (hks : SmallK ns) :
    Calls Try.prog 117 #[.slice A ns.length c] w (BranchesPost ns w) := by
  have hW : ∃ W, W = ((w.alloc (.cells #[.slice A ns.length c] 24)).alloc (.cells #[.int .i64 0] 2)).alloc (.cells #[fun3 138 (w.heap.size + 1) w.heap.size (w.heap.size + 1 + 1)] 147) := ⟨_, rfl⟩
  obtain ⟨W, hW⟩ := hW
  have HBW : Hid (Below w.heap.size w W) := by
    rw [hW]
    exact below3 (Below.refl _ _) (Nat.le_refl _)
  have o0 : One W w.heap.size (.slice A ns.length c) 24 := by
    rw [hW]
    have h := (One.new w (.slice A ns.length c) 24)
    exact h.below (((Below.refl _ _).alloc (Nat.le_refl _) _).alloc (by simp) _)
  have o1 : One W (w.heap.size + 1) (.int .i64 ((0 : Nat) : Int)) 2 := by
    rw [hW]
    have h := (One.new (w.alloc (.cells #[.slice A ns.length c] 24)) (.int .i64 0) 2)
    have h2 := h.below ((Below.refl _ _).alloc (Nat.le_refl _) (.cells #[fun3 138 (w.heap.size + 1) w.heap.size (w.heap.size + 1 + 1)] 147))
    simpa using h2
  have o2 : One W (w.heap.size + 2) (fun3 138 (w.heap.size + 1) w.heap.size (w.heap.size + 2)) 147 := by
    rw [hW]
    have h := (One.new ((w.alloc (.cells #[.slice A ns.length c] 24)).alloc (.cells #[.int .i64 0] 2)) (fun3 138 (w.heap.size + 1) w.heap.size (w.heap.size + 1 + 1)) 147)
    simpa using h
  have hsz : w.heap.size + 3 ≤ W.heap.size := by rw [hW]; simp
  have hb := impl_build A c ns w.heap.size w.heap.size (Nat.le_refl _) hl hks ns.length 0 0 W (hr.below HBW.out) (Nat.zero_le _) (by omega) o0 o1 o2 hsz
  have hkr : kidRes ns ns.length 0 0 = parse ns ns.length 0 := by rw [kidRes, if_pos ⟨rfl, by omega⟩]
  rw [hkr] at hb
  have O0 := hid o0
  have f0 := o2.c
  unfold fun3 at hW f0
  have hne2 : w.heap.size + 2 = w.heap.size + 1 + 1 := rfl
  have HNE := hid hne2
  clear hne2 o0 o1 o2 hr
  cases hp : parse ns ns.length 0 with
  | none =>
    have HT : Hid (treeOf ns = none) := by simp [Hid, treeOf, hp]
    rw [hp] at hb
    have HB := hid hb
    clear hb hp hkr
    subst hW
    go_enter Try.func117, Try.ntmps117
    go_wp2_with fail
    refine HB.out.mono ?_
    rintro e w1 ⟨hg1, rfl⟩
    have HB1 := hid (HBW.out.trans (gr_below hg1 (B := w.heap.size) (by omega) (by omega)))
    clear hg1 f0
    go_wp2_with fail
    go_ret2
    exact BranchesPost.no HT.out HB1.out
  | some y =>
    obtain ⟨t, e⟩ := y
    rw [hp] at hb
    have HB := hid hb
    have hep := (parse_facts ns _ _ _ _ hp).2.1
    by_cases he : e = ns.length
    · have HT : Hid (treeOf ns = some t) := by simp [Hid, treeOf, hp, he]
      have g1 : ((e : Int) != (ns.length : Int)) = false := by simp [he]
      have HE := hid he
      clear hb hp hkr he
      subst hW
      go_enter Try.func117, Try.ntmps117
      go_wp2_with fail
      refine HB.out.mono ?_
      rintro e' w1 ⟨hg1, g, S, rfl, hot, hS, h1n⟩
      have hbb := gr_below hg1 (B := w.heap.size) (by omega) (by omega)
      have HB1 := hid (HBW.out.trans hbb)
      have y0 := (O0.out.gr hg1 (by omega)).c
      have y1 := h1n.c
      have HT1 : Hid (HasTree w t g w1) := ⟨S, hot, fun b hb => by have := hS b hb; simp at this; omega⟩
      clear hg1 hot hS h1n f0 hbb
      go_wp2_with fail
      go_ret2
      exact BranchesPost.yes HT.out HB1.out HT1.out
    · have HT : Hid (treeOf ns = none) := by simp [Hid, treeOf, hp, he]
      have g1 : ((e : Int) != (ns.length : Int)) = true := by rw [bne_iff_ne]; omega
      have HE := hid he
      clear hb hp hkr he
      subst hW
      go_enter Try.func117, Try.ntmps117
      go_wp2_with fail
      refine HB.out.mono ?_
      rintro e' w1 ⟨hg1, g, S, rfl, hot, hS, h1n⟩
      have hbb := gr_below hg1 (B := w.heap.size) (by omega) (by omega)
      have HB1 := hid (HBW.out.trans hbb)
      have y0 := (O0.out.gr hg1 (by omega)).c
      have y1 := h1n.c
      clear hg1 hot hS h1n f0 hbb
      go_wp2_with fail
      go_ret2
      exact BranchesPost.no HT.out HB1.out

def RightPost (ns : List ND) (w : World) (e : Ending) (w' : World) : Prop :=
  Below w.heap.size w w' ∧ ((treeB ns = false ∧ e = .returned (.tuple #[.pointer none, .bool false])) ∨
    (treeB ns = true ∧ ∃ t g, treeOf ns = some t ∧ e = .returned (.tuple #[.pointer (some ⟨g, 0, none⟩), .bool true]) ∧ HasTree w t g w'))
theorem RightPost.no {ns : List ND} {w w' : World} (h : treeB ns = false) (hb : Below w.heap.size w w') : RightPost ns w (.returned (.tuple #[.pointer none, .bool false])) w' := ⟨hb, .inl ⟨h, rfl⟩⟩
theorem RightPost.yes {ns : List ND} {w w' : World} {t : BT} {g : Nat} (h0 : treeB ns = true) (h : treeOf ns = some t) (hb : Below w.heap.size w w') (ht : HasTree w t g w') : RightPost ns w (.returned (.tuple #[.pointer (some ⟨g, 0, none⟩), .bool true])) w' := ⟨hb, .inr ⟨h0, t, g, h, rfl, ht⟩⟩
theorem lt1_true {n : Nat} (h : ¬ 1 ≤ n) : decide ((n : Int) < 1) = true := by rw [decide_eq_true_eq]; omega

set_option maxHeartbeats 2000000 in
set_option maxRecDepth 100000 in
theorem impl_rightTree (A : Option Addr) (c : Nat) (ns : List ND) (w : World) (hr : RN w w.heap.size A ns) (hf : FitsN ns) (hs : SmallN ns) (hn : ns.length ≤ 1048576) :
    Calls Try.prog 76 #[.slice A ns.length c] w (RightPost ns w) := by
  by_cases h0 : 1 ≤ ns.length
  · by_cases h1 : 100 < ns.length
    · have HE := hid (treeB_long h1)
      clear hr
      go_enter Try.func76, Try.ntmps76
      go_wp2_with fail
      go_ret2
      exact RightPost.no HE.out (Below.refl _ _)
    · have hl : ns.length ≤ 100 := by omega
      have hks : SmallK ns := fun k h => (hs k h).2
      have hbr := impl_branchesOf A c ns w hr h0 hl hks
      clear hr
      cases ht : treeOf ns with
      | none =>
        have HE : Hid (treeB ns = false) := by simp [Hid, treeB, ht]
        unfold BranchesPost at hbr
        rw [ht] at hbr
        have HBR := hid hbr
        clear hbr ht
        go_enter Try.func76, Try.ntmps76
        go_wp2_with fail
        refine HBR.out.mono ?_
        rintro e w1 ⟨hb1, rfl⟩
        go_wp2_with fail
        go_ret2
        exact RightPost.no HE.out hb1
      | some t =>
        have hEQ : treeB ns = (fullT t true && (decide (deepT t ≠ 0) && pairsB (allT t))) := by simp [treeB, ht, rightT, h0, hl]
        obtain ⟨hz, hsm, hft⟩ := parse_good (treeOf_some ht) hl hs hf
        unfold BranchesPost at hbr
        rw [ht] at hbr
        have HBR := hid hbr
        have HEQ := hid hEQ
        have HT := hid ht
        have HSM := hid hsm
        have HFT := hid hft
        clear hbr ht hEQ hsm hft
        cases hsh : (fullT t true && decide (deepT t ≠ 0))
        · have HE : Hid (treeB ns = false) := by rw [Hid, HEQ.out, ← Bool.and_assoc, hsh]; rfl
          have HSH := hid hsh
          clear hsh
          go_enter Try.func76, Try.ntmps76
          go_wp2_with fail
          refine HBR.out.mono ?_
          rintro e w1 ⟨hb1, g, rfl, htr⟩
          obtain ⟨S, hot, hS⟩ := htr.lt hb1.size
          have HB1 := hid hb1
          clear hb1 htr
          go_wp2_with fail
          refine (impl_wellShaped t _ S g _ hz HSM.out hot hS).mono ?_
          rintro e w2 ⟨rfl, hb2⟩
          have HB2 := hid (HB1.out.trans (hb2.mono HB1.out.size))
          clear hb2
          rw [HSH.out]
          go_wp2_with fail
          go_ret2
          exact RightPost.no HE.out HB2.out
        · have HE : Hid (treeB ns = pairsB (allT t)) := by rw [Hid, HEQ.out, ← Bool.and_assoc, hsh]; rfl
          have hfu : fullT t true = true := by simp only [Bool.and_eq_true] at hsh; exact hsh.1
          have h4 := rt_facts hfu hz
          have hml : (allT t).length ≤ maxLen := by unfold maxLen; omega
          have HML := hid hml
          have HSH := hid hsh
          clear hsh hfu hml
          cases hpb : pairsB (allT t)
          · go_enter Try.func76, Try.ntmps76
            go_wp2_with fail
            refine HBR.out.mono ?_
            rintro e w1 ⟨hb1, g, rfl, htr⟩
            obtain ⟨S, hot, hS⟩ := htr.lt hb1.size
            have HB1 := hid hb1
            have HTR := hid htr
            clear hb1 htr
            go_wp2_with fail
            refine (impl_wellShaped t _ S g _ hz HSM.out hot hS).mono ?_
            rintro e w2 ⟨rfl, hb2⟩
            have HB2 := hid (HB1.out.trans (hb2.mono HB1.out.size))
            have HTR2 := hid (HTR.out.keep HB1.out.size hb2)
            clear hb2 hot hS
            rw [HSH.out]
            obtain ⟨S2, hot2, hS2⟩ := HTR2.out.lt HB2.out.size
            go_wp2_with fail
            refine (impl_all t _ S2 g _ (by omega) (by omega) hot2 hS2).mono ?_
            rintro e w3 ⟨A3, c3, rfl, ho3, hb3⟩
            have HO3 := hid ho3
            have HB3 := hid (HB2.out.trans (hb3.mono HB2.out.size))
            clear ho3 hb3 hot2 hS2
            go_wp2_with fail
            refine (impl_pairsOk A3 c3 (allT t) _ HO3.out.rp HFT.out HML.out).mono ?_
            rintro e w4 ⟨rfl, hb4⟩
            have HB4 := hid (HB3.out.trans (hb4.mono HB3.out.size))
            clear hb4
            rw [hpb]
            go_wp2_with fail
            go_ret2
            exact RightPost.no (HE.out.trans hpb) HB4.out
          · go_enter Try.func76, Try.ntmps76
            go_wp2_with fail
            refine HBR.out.mono ?_
            rintro e w1 ⟨hb1, g, rfl, htr⟩
            obtain ⟨S, hot, hS⟩ := htr.lt hb1.size
            have HB1 := hid hb1
            have HTR := hid htr
            clear hb1 htr
            go_wp2_with fail
            refine (impl_wellShaped t _ S g _ hz HSM.out hot hS).mono ?_
            rintro e w2 ⟨rfl, hb2⟩
            have HB2 := hid (HB1.out.trans (hb2.mono HB1.out.size))
            have HTR2 := hid (HTR.out.keep HB1.out.size hb2)
            clear hb2 hot hS
            rw [HSH.out]
            obtain ⟨S2, hot2, hS2⟩ := HTR2.out.lt HB2.out.size
            go_wp2_with fail
            refine (impl_all t _ S2 g _ (by omega) (by omega) hot2 hS2).mono ?_
            rintro e w3 ⟨A3, c3, rfl, ho3, hb3⟩
            have HO3 := hid ho3
            have HB3 := hid (HB2.out.trans (hb3.mono HB2.out.size))
            have HTR3 := hid (HTR2.out.keep HB2.out.size hb3)
            clear ho3 hb3 hot2 hS2
            go_wp2_with fail
            refine (impl_pairsOk A3 c3 (allT t) _ HO3.out.rp HFT.out HML.out).mono ?_
            rintro e w4 ⟨rfl, hb4⟩
            have HB4 := hid (HB3.out.trans (hb4.mono HB3.out.size))
            have HTR4 := hid (HTR3.out.keep HB3.out.size hb4)
            clear hb4
            rw [hpb]
            go_wp2_with fail
            go_ret2
            exact RightPost.yes (HE.out.trans hpb) HT.out HB4.out HTR4.out
  · have HE := hid (treeB_zero h0)
    clear hr
    go_enter Try.func76, Try.ntmps76
    go_wp2_with fail
    go_ret2
    exact RightPost.no HE.out (Below.refl _ _)

set_option maxHeartbeats 1000000 in
set_option maxRecDepth 100000 in
theorem impl_TreeOk (A : Option Addr) (c : Nat) (ns : List ND) (w : World) (hr : RN w w.heap.size A ns) (hf : FitsN ns) (hs : SmallN ns) (hn : ns.length ≤ 1048576) :
    Calls Try.prog 33 #[.slice A ns.length c] w fun e w' => e = .returned (.bool (treeB ns)) ∧ Below w.heap.size w w' := by
  have HRT := hid (impl_rightTree A c ns w hr hf hs hn)
  clear hr hf hs
  go_enter Try.func33, Try.ntmps33
  go_wp2_with fail
  refine HRT.out.mono ?_
  rintro e w1 ⟨hb1, ⟨hb, rfl⟩ | ⟨hb, t, g, ht, rfl, htr⟩⟩
  · have HE := hid hb
    clear hb
    go_wp2_with fail
    go_ret
    exact ⟨ret_bool HE.out.symm, hb1⟩
  · have HE := hid hb
    clear hb ht htr
    go_wp2_with fail
    go_ret
    exact ⟨ret_bool HE.out.symm, hb1⟩

set_option maxHeartbeats 1000000 in
set_option maxRecDepth 100000 in
theorem impl_TreeMap (A : Option Addr) (c : Nat) (ns : List ND) (w : World) (hr : RN w w.heap.size A ns) (hf : FitsN ns) (hs : SmallN ns) (hn : ns.length ≤ 1048576) :
    Calls Try.prog 36 #[.slice A ns.length c] w (Made w w.heap.size (pairsOf ns)) := by
  have HRT := hid (impl_rightTree A c ns w hr hf hs hn)
  have HF := hid hf
  have HS := hid hs
  clear hr hf hs
  go_enter Try.func36, Try.ntmps36
  go_wp2_with fail
  refine HRT.out.mono ?_
  rintro e w1 ⟨hb1, ⟨hb, rfl⟩ | ⟨hb, t, g, ht, rfl, htr⟩⟩
  · have HE := hid (pairsOf_no hb)
    clear hb
    go_wp2_with fail
    go_ret
    rw [HE.out]
    exact ⟨none, 0, rfl, OwnP.nil_ _ _, hb1⟩
  · have HE := hid (pairsOf_yes hb ht)
    obtain ⟨t', ht', hrt, _, hl⟩ := treeB_yes hb
    obtain rfl : t' = t := by rw [ht] at ht'; exact (Option.some.inj ht').symm
    obtain ⟨hz, hsm, hft⟩ := parse_good (treeOf_some ht) hl HS.out HF.out
    have hfu : fullT t' true = true := by simp only [rightT, Bool.and_eq_true] at hrt; exact hrt.1
    have h4 := rt_facts hfu hz
    obtain ⟨S, hot, hS⟩ := htr.lt hb1.size
    have HB1 := hid hb1
    clear hb ht ht' hrt hl hsm hft hfu htr hb1
    go_wp2_with fail
    refine (impl_all t' _ S g _ (by omega) (by omega) hot hS).mono ?_
    rintro e w3 ⟨A3, c3, rfl, ho3, hb3⟩
    have HO3 := hid ho3
    have HB3 := hid (HB1.out.trans (hb3.mono HB1.out.size))
    clear ho3 hb3
    go_wp2_with fail
    go_ret
    rw [HE.out]
    exact ⟨A3, c3, rfl, OwnP.mono' HO3.out HB1.out.size, HB3.out⟩

/-- The pairs of a right list of nodes rise, and are few. -/
theorem pairsOf_rise {ns : List ND} (hs : SmallN ns) (hf : FitsN ns) : (pairsOf ns).length ≤ 400 ∧ risesB (pairsOf ns) = true := by
  cases hb : treeB ns
  · rw [pairsOf_no hb]
    exact ⟨by simp, rfl⟩
  · obtain ⟨t, ht, hrt, _, hl⟩ := treeB_yes hb
    obtain ⟨hz, hsm, hft⟩ := parse_good (treeOf_some ht) hl hs hf
    rw [pairsOf_yes hb ht]
    simp only [rightT, pairsB, Bool.and_eq_true] at hrt
    exact ⟨rt_facts hrt.1 hz, hrt.2.2.2⟩

set_option maxHeartbeats 1000000 in
set_option maxRecDepth 100000 in
theorem impl_TreeGet (A : Option Addr) (c : Nat) (ns : List ND) (k : ByteArray) (w : World) (hr : RN w w.heap.size A ns) (hf : FitsN ns) (hs : SmallN ns) (hn : ns.length ≤ 1048576) :
    Calls Try.prog 43 #[.slice A ns.length c, .string k] w fun e w' => e = .returned (.tuple #[.string (valOf (pairsOf ns) k), .bool (hasK (pairsOf ns) k)]) ∧ Below w.heap.size w w' := by
  obtain ⟨h1, h2⟩ := pairsOf_rise hs hf
  have HTM := hid (impl_TreeMap A c ns w hr hf hs hn)
  have HR := hid h2
  clear hr hf hs h2
  go_enter Try.func43, Try.ntmps43
  go_wp2_with fail
  refine HTM.out.mono ?_
  rintro e w3 ⟨A3, c3, rfl, ho3, hb3⟩
  have HO3 := hid ho3
  have HB3 := hid hb3
  clear ho3 hb3
  go_wp2_with fail
  refine (impl_valueIn A3 c3 (pairsOf ns) k _ HO3.out.rp (by omega) HR.out).mono ?_
  rintro e w4 ⟨rfl, hb4⟩
  have HB4 := hid (HB3.out.trans (hb4.mono HB3.out.size))
  clear hb4
  go_wp2_with fail
  go_ret2
  exact ⟨rfl, HB4.out⟩

set_option maxHeartbeats 1000000 in
set_option maxRecDepth 100000 in
theorem impl_Height (A : Option Addr) (c : Nat) (ns : List ND) (w : World) (hr : RN w w.heap.size A ns) (hf : FitsN ns) (hs : SmallN ns) (hn : ns.length ≤ 1048576) :
    Calls Try.prog 46 #[.slice A ns.length c] w fun e w' => e = .returned (.int .i64 (highB ns)) ∧ Below w.heap.size w w' := by
  have HRT := hid (impl_rightTree A c ns w hr hf hs hn)
  have HF := hid hf
  have HS := hid hs
  clear hr hf hs
  go_enter Try.func46, Try.ntmps46
  go_wp2_with fail
  refine HRT.out.mono ?_
  rintro e w1 ⟨hb1, ⟨hb, rfl⟩ | ⟨hb, t, g, ht, rfl, htr⟩⟩
  · have HE := hid (highB_no hb)
    clear hb
    go_wp2_with fail
    go_ret
    exact ⟨ret_i HE.out.symm, hb1⟩
  · obtain ⟨t', ht', hrt, _, hl⟩ := treeB_yes hb
    obtain rfl : t' = t := by rw [ht] at ht'; exact (Option.some.inj ht').symm
    obtain ⟨hz, hsm, hft⟩ := parse_good (treeOf_some ht) hl HS.out HF.out
    have hd0 : deepT t' ≠ 0 := by simp only [rightT, Bool.and_eq_true, decide_eq_true_eq] at hrt; exact hrt.2.1
    have HE : Hid ((highT t' : Int) = highB ns) := by
      rw [Hid, highB_yes hb ht, high_deep _ t' (Nat.le_refl _) hd0]
    have hhi := (deep_sz _ t' (Nat.le_refl _)).2.1
    obtain ⟨S, hot, hS⟩ := htr.lt hb1.size
    have HB1 := hid hb1
    clear hb ht ht' hrt hl hsm hft htr hb1 hd0 hS
    go_wp2_with fail
    refine (impl_height t' _ S g _ (by omega) hot).mono ?_
    rintro e w3 ⟨rfl, rfl⟩
    go_wp2_with fail
    go_ret
    exact ⟨ret_i HE.out, HB1.out⟩
end Go.Proofs.Ytcjbjfhndjpmcaa
