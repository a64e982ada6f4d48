import Derived.Test.YtcjbjfhndjpmcaaPk08
import Derived.Test.YtcjbjfhndjpmcaaPk09
import Derived.Test.YtcjbjfhndjpmcaaPk03
/-
  The model's TreeOk, TreeMap, TreeGet, Height: contracts.
-/
namespace Go.Proofs.Ytcjbjfhndjpmcaa
open Go.RowKit

theorem rt_facts {t : BT} (h : fullT t true = true) (hz : szT t ≤ 100) : (allT t).length ≤ 400 := by
  have := full_len _ t true (Nat.le_refl _) h
  omega

set_option maxHeartbeats 2000000 in
set_option maxRecDepth 100000 in
theorem spec_l2Right (t : BT) (A K : Option Addr) (c d : Nat) (S : Nat → Prop) (w : World) (hz : szT t ≤ 100) (hsm : smT t) (hf : Fits (allT t)) (hr : RT w S A K t) (hS : ∀ b, S b → b < w.heap.size) :
    Calls Try.prog 91 #[.agg #[.slice A t.ps.length c, .slice K t.ks.length d]] w fun e w' => e = .returned (.bool (rightT t)) ∧ Below w.heap.size w w' := by
  have hb0 : Below w.heap.size w (w.alloc (.cells #[.slice A t.ps.length c, .slice K t.ks.length d] 67)) := (Below.refl _ _).alloc (Nat.le_refl _) _
  have hx0 := Row2.lit w 67 (.slice A t.ps.length c) (.slice K t.ks.length d)
  have HX := hid hx0
  have HB0 := hid hb0
  have HR := hid hr
  have HS := hid hS
  have HF := hid hf
  have HSM := hid hsm
  have HRW : Hid (∀ W : World, Below w.heap.size w W → RT W S A K t) := fun W h => hr.keep (fun b hb => h.block b (hS b hb)) (fun _ h => h)
  have HSW : Hid (∀ W : World, Below w.heap.size w W → ∀ b, S b → b < W.heap.size) := fun W h b hb => Nat.lt_of_lt_of_le (hS b hb) h.size
  clear hb0 hx0 hr hS hf hsm
  cases h1 : fullT t true
  · have HE : Hid (rightT t = false) := by simp [Hid, rightT, h1]
    go_enter Try.func91, Try.ntmps91
    go_wp2_with fail
    generalize hg : w.alloc (.cells #[.slice A t.ps.length c, .slice K t.ks.length d] 67) = w0 at *
    refine (spec_l2Full _ t true A K c d S _ (Nat.le_refl _) (by omega) HSM.out (HRW.out _ HB0.out) (HSW.out _ HB0.out)).mono ?_
    rintro e w1 ⟨rfl, hb1⟩
    have HB1 := hid (HB0.out.trans (hb1.mono HB0.out.size))
    clear hb1
    go_wp2_with fail
    go_ret
    exact ⟨ret_bool HE.out.symm, HB1.out⟩
  · have h4 := rt_facts h1 hz
    have hdi := deepI_small (t := t) (n := 100) hz
    by_cases h2 : deepT t = 0
    · have HE : Hid (rightT t = false) := by simp [Hid, rightT, h2]
      have hd : deepI t = -1 := by simp [deepI, h2]
      have hd2 : ¬ (0 < deepI t) := by omega
      have HD := hid hd
      clear hd
      go_enter Try.func91, Try.ntmps91
      go_wp2_with fail
      generalize hg : w.alloc (.cells #[.slice A t.ps.length c, .slice K t.ks.length d] 67) = w0 at *
      refine (spec_l2Full _ t true A K c d S _ (Nat.le_refl _) (by omega) HSM.out (HRW.out _ HB0.out) (HSW.out _ HB0.out)).mono ?_
      rintro e w1 ⟨rfl, hb1⟩
      have X1 := hid (HX.out.below hb1)
      have HB1 := hid (HB0.out.trans (hb1.mono HB0.out.size))
      have x0 := X1.out.c0
      have x1 := X1.out.c1
      clear hb1
      go_wp2_with fail
      refine (spec_l2Deep _ t A K c d S _ (Nat.le_refl _) (by omega) (HRW.out _ HB1.out) (HSW.out _ HB1.out)).mono ?_
      rintro e w2 ⟨rfl, hb2⟩
      have HB2 := hid (HB1.out.trans (hb2.mono HB1.out.size))
      clear hb2 x0 x1
      go_wp2_with fail
      go_ret
      exact ⟨ret_bool HE.out.symm, HB2.out⟩
    · have HE : Hid (rightT t = pairsB (allT t)) := by simp [Hid, rightT, h1, h2]
      have hd : deepI t = (deepT t : Int) := by simp [deepI, h2]
      have hd2 : 0 < deepI t := by omega
      have HD := hid hd
      clear hd
      have hml : (allT t).length ≤ maxLen := by unfold maxLen; omega
      have HML := hid hml
      clear hml
      go_enter Try.func91, Try.ntmps91
      go_wp2_with fail
      generalize hg : w.alloc (.cells #[.slice A t.ps.length c, .slice K t.ks.length d] 67) = w0 at *
      refine (spec_l2Full _ t true A K c d S _ (Nat.le_refl _) (by omega) HSM.out (HRW.out _ HB0.out) (HSW.out _ HB0.out)).mono ?_
      rintro e w1 ⟨rfl, hb1⟩
      have X1 := hid (HX.out.below hb1)
      have HB1 := hid (HB0.out.trans (hb1.mono HB0.out.size))
      have x0 := X1.out.c0
      have x1 := X1.out.c1
      clear hb1
      go_wp2_with fail
      refine (spec_l2Deep _ t A K c d S _ (Nat.le_refl _) (by omega) (HRW.out _ HB1.out) (HSW.out _ HB1.out)).mono ?_
      rintro e w2 ⟨rfl, hb2⟩
      have X2 := hid (X1.out.below hb2)
      have HB2 := hid (HB1.out.trans (hb2.mono HB1.out.size))
      clear hb2 x0 x1
      have x0 := X2.out.c0
      have x1 := X2.out.c1
      go_wp2_with fail
      refine (spec_l2Map _ t A K c d S _ (Nat.le_refl _) (by omega) (by omega) (HRW.out _ HB2.out) (HSW.out _ HB2.out)).mono ?_
      rintro e w3 ⟨A3, c3, rfl, ho3, hb3⟩
      have HO3 := hid ho3
      have HB3 := hid (HB2.out.trans (hb3.mono HB2.out.size))
      clear hb3 ho3 x0 x1
      go_wp2_with fail
      refine (spec_l1Pairs A3 c3 (allT t) _ _ HO3.out.rp HF.out HML.out).mono ?_
      rintro e w4 ⟨rfl, hw4⟩
      go_wp2_with fail
      go_ret
      exact ⟨ret_bool HE.out.symm, HB3.out.trans (hw4.below _)⟩

theorem treeB_zero {ns : List ND} (h : ¬ 1 ≤ ns.length) : treeB ns = false := by simp [treeB]; omega
theorem treeB_long {ns : List ND} (h : 100 < ns.length) : treeB ns = false := by
  have : decide (ns.length ≤ 100) = false := by rw [decide_eq_false_iff_not]; omega
  simp [treeB, this]
theorem treeB_no {ns : List ND} (h : endI (parse ns ns.length 0) ≠ (ns.length : Int)) : treeB ns = false ∧ treeOf ns = none := by
  have : treeOf ns = none := by
    unfold treeOf
    split
    · rfl
    · rename_i t e he
      rw [he] at h
      rw [if_neg (fun e' => h (by simp [endI, e']))]
  exact ⟨by simp [treeB, this], this⟩
theorem treeB_at {ns : List ND} (h : endI (parse ns ns.length 0) = (ns.length : Int)) (h1 : 1 ≤ ns.length) (h2 : ns.length ≤ 100) : ∃ t, parse ns ns.length 0 = some (t, ns.length) ∧ treeOf ns = some t ∧ treeB ns = rightT t := by
  cases hp : parse ns ns.length 0 with
  | none => rw [hp] at h; simp only [endI] at h; omega
  | some x =>
    obtain ⟨t, e⟩ := x
    rw [hp] at h
    have he : e = ns.length := by simp only [endI] at h; omega
    subst he
    have ht : treeOf ns = some t := by simp [treeOf, hp]
    exact ⟨t, rfl, ht, by simp [treeB, ht, h1, h2]⟩
/-- What is known of the tree of a list that Go can bear. -/
def Good (t : BT) : Prop := szT t ≤ 100 ∧ smT t ∧ Fits (allT t)
theorem parse_good {ns : List ND} {t : BT} (hp : parse ns ns.length 0 = some (t, ns.length)) (h2 : ns.length ≤ 100) (hs : SmallN ns) (hf : FitsN ns) : Good t := by
  obtain ⟨_, _, _, h4, h5⟩ := parse_facts ns _ _ _ _ hp
  refine ⟨by omega, parse_sm (fun k h => (hs k h).1) _ _ _ _ hp, fun p hp => ?_⟩
  obtain ⟨nd, hn, hm⟩ := h5 p hp
  exact (hf nd hn).1 p hm
theorem pairsOf_no {ns : List ND} (h : treeB ns = false) : pairsOf ns = [] := by simp [pairsOf, h]
theorem pairsOf_yes {ns : List ND} {t : BT} (h : treeB ns = true) (ht : treeOf ns = some t) : pairsOf ns = allT t := by simp [pairsOf, h, ht]

set_option maxHeartbeats 2000000 in
set_option maxRecDepth 100000 in
theorem spec_TreeOk (A : Option Addr) (c : Nat) (ns : List ND) (w : World) (hr : RN w w.heap.size A ns) (hf : FitsN ns) (hs : SmallN ns) (hn : ns.length ≤ 1048576) :
    Calls Try.prog 34 #[.slice A ns.length c] w fun e w' => e = .returned (.bool (treeB ns)) ∧ Below w.heap.size w w' := by
  by_cases h0 : 1 ≤ ns.length
  · have g0 := eq0_false (n := ns.length) (by omega)
    by_cases h1 : 100 < ns.length
    · have HE := hid (treeB_long h1)
      clear hr
      go_enter Try.func34, Try.ntmps34
      go_wp2_with fail
      go_ret
      exact ⟨ret_bool HE.out.symm, Below.refl _ _⟩
    · have hl : ns.length ≤ 100 := by omega
      have hks : SmallK ns := fun k h => (hs k h).2
      have hlist := spec_l2Listed A c ns _ hl hks ns.length 0 w hr (by omega) (by omega)
      rw [show ((0 : Nat) : Int) = 0 from rfl] at hlist
      have HL := hid hlist
      have HR := hid hr
      clear hlist hr
      by_cases h2 : endI (parse ns ns.length 0) = (ns.length : Int)
      · obtain ⟨t, hp, ht, hb⟩ := treeB_at h2 h0 hl
        obtain ⟨hz, hsm, hft⟩ := parse_good hp hl hs hf
        have hin := spec_l2In A c ns w.heap.size hl hks (fun k h => (hs k h).1) ns.length 0 t ns.length w HR.out (Nat.le_refl _) (by omega) hp
        rw [show ((0 : Nat) : Int) = 0 from rfl] at hin
        have HI := hid hin
        have HE := hid hb
        have HSM := hid hsm
        have HFT := hid hft
        have g2 := neI_false h2
        clear h2 hp ht hin hb hsm hft
        go_enter Try.func34, Try.ntmps34
        go_wp2_with fail
        refine HL.out.mono ?_
        rintro e w1 ⟨rfl, rfl⟩
        go_wp2_with fail
        refine HI.out.mono ?_
        rintro e w2 ⟨x, HXT, rfl, hrt, hcap, hb2⟩
        have HRT := hid hrt
        have HB2 := hid hb2
        clear hrt hcap hb2
        obtain rfl : x.t = t := HXT.out
        go_wp2_with fail
        refine (spec_l2Right x.t x.A x.K x.c x.d _ _ hz HSM.out HFT.out HRT.out (fun b h => h.2)).mono ?_
        rintro e w3 ⟨rfl, hb3⟩
        go_wp2_with fail
        go_ret
        exact ⟨ret_bool HE.out.symm, HB2.out.trans (hb3.mono HB2.out.size)⟩
      · have HE := hid (treeB_no h2).1
        have g2 := neI_true h2
        clear h2
        go_enter Try.func34, Try.ntmps34
        go_wp2_with fail
        refine HL.out.mono ?_
        rintro e w1 ⟨rfl, rfl⟩
        go_wp2_with fail
        go_ret
        exact ⟨ret_bool HE.out.symm, Below.refl _ _⟩
  · have HE := hid (treeB_zero h0)
    have g0 := eq0_true (n := ns.length) (by omega)
    clear hr
    go_enter Try.func34, Try.ntmps34
    go_wp2_with fail
    go_ret
    exact ⟨ret_bool HE.out.symm, Below.refl _ _⟩

/-- The tree that the model reads, of a right list. -/
theorem spec_read (A : Option Addr) (c : Nat) (ns : List ND) (w w1 : World) (hr : RN w w.heap.size A ns) (hf : FitsN ns) (hs : SmallN ns) (hb : treeB ns = true) (hw : Below w.heap.size w w1) :
    ∃ t, treeOf ns = some t ∧ rightT t = true ∧ Good t ∧ Calls Try.prog 73 #[.slice A ns.length c, .int .i64 0] w1 (MadeT w1 t) := by
  obtain ⟨t, ht, hrt, h1, h2⟩ := treeB_yes hb
  have hp := treeOf_some ht
  refine ⟨t, ht, hrt, parse_good hp h2 hs hf, ?_⟩
  have hin := spec_l2In A c ns w.heap.size h2 (fun k h => (hs k h).2) (fun k h => (hs k h).1) ns.length 0 t ns.length w1 (hr.below hw) hw.size (by omega) hp
  rwa [show ((0 : Nat) : Int) = 0 from rfl] at hin

set_option maxHeartbeats 2000000 in
set_option maxRecDepth 100000 in
theorem spec_TreeMap (A : Option Addr) (c : Nat) (ns : List ND) (w : World) (hr : RN w w.heap.size A ns) (hf : FitsN ns) (hs : SmallN ns) (hn : ns.length ≤ 1048576) :
    Calls Try.prog 37 #[.slice A ns.length c] w (Made w w.heap.size (pairsOf ns)) := by
  have HR := hid hr
  have HF := hid hf
  have HS := hid hs
  clear hr hf hs
  cases hb : treeB ns
  · have HE := hid (pairsOf_no hb)
    go_enter Try.func37, Try.ntmps37
    go_wp2_with fail
    refine (spec_TreeOk A c ns _ HR.out HF.out HS.out hn).mono ?_
    rintro e w1 ⟨rfl, hb1⟩
    have HB1 := hid hb1
    clear hb1
    rw [hb]
    go_wp2_with fail
    go_ret
    rw [HE.out]
    exact ⟨_, _, rfl, OwnP.made HB1.out.size #[] 0 rfl (by unfold maxLen; omega), HB1.out.alloc HB1.out.size _⟩
  · go_enter Try.func37, Try.ntmps37
    go_wp2_with fail
    refine (spec_TreeOk A c ns _ HR.out HF.out HS.out hn).mono ?_
    rintro e w1 ⟨rfl, hb1⟩
    have HB1 := hid hb1
    clear hb1
    obtain ⟨t, ht, hrt, ⟨hz, hsm, hft⟩, hin⟩ := spec_read A c ns w w1 HR.out HF.out HS.out hb HB1.out
    have HE := hid (pairsOf_yes hb ht)
    have HI := hid hin
    have hfu : fullT t true = true := by simp only [rightT, Bool.and_eq_true] at hrt; exact hrt.1
    have h4 := rt_facts hfu hz
    clear hin ht hrt hfu hft hsm
    rw [hb]
    go_wp2_with fail
    refine HI.out.mono ?_
    rintro e w2 ⟨x, HXT, rfl, hrt, hcap, hb2⟩
    have HRT := hid hrt
    have HB2 := hid (HB1.out.trans (hb2.mono HB1.out.size))
    clear hrt hcap hb2
    obtain rfl : x.t = t := HXT.out
    go_wp2_with fail
    refine (spec_l2Map _ x.t x.A x.K x.c x.d _ _ (Nat.le_refl _) (by omega) (by omega) HRT.out (fun b h => h.2)).mono ?_
    rintro e w3 ⟨A3, c3, rfl, ho3, hb3⟩
    have HO3 := hid ho3
    have HB3 := hid (HB2.out.trans (hb3.mono HB2.out.size))
    clear hb3 ho3
    go_wp2_with fail
    go_ret
    rw [HE.out]
    exact ⟨A3, c3, rfl, OwnP.mono' HO3.out HB2.out.size, HB3.out⟩

set_option maxHeartbeats 2000000 in
set_option maxRecDepth 100000 in
theorem spec_TreeGet (A : Option Addr) (c : Nat) (ns : List ND) (k : ByteArray) (w : World) (hr : RN w w.heap.size A ns) (hf : FitsN ns) (hs : SmallN ns) (hn : ns.length ≤ 1048576) :
    Calls Try.prog 44 #[.slice A ns.length c, .string k] w fun e w' => e = .returned (.tuple #[.string (valOf (pairsOf ns) k), .bool (hasK (pairsOf ns) k)]) ∧ Below w.heap.size w w' := by
  have HR := hid hr
  have HF := hid hf
  have HS := hid hs
  clear hr hf hs
  cases hb : treeB ns
  · have HE := hid (pairsOf_no hb)
    go_enter Try.func44, Try.ntmps44
    go_wp2_with fail
    refine (spec_TreeOk A c ns _ HR.out HF.out HS.out hn).mono ?_
    rintro e w1 ⟨rfl, hb1⟩
    have HB1 := hid hb1
    clear hb1
    rw [hb]
    go_wp2_with fail
    go_ret2
    rw [HE.out]
    exact ⟨ret_sb (by simp [valOf]) (by simp [hasK]), HB1.out⟩
  · go_enter Try.func44, Try.ntmps44
    go_wp2_with fail
    refine (spec_TreeOk A c ns _ HR.out HF.out HS.out hn).mono ?_
    rintro e w1 ⟨rfl, hb1⟩
    have HB1 := hid hb1
    clear hb1
    obtain ⟨t, ht, hrt, ⟨hz, hsm, hft⟩, hin⟩ := spec_read A c ns w w1 HR.out HF.out HS.out hb HB1.out
    have HE := hid (pairsOf_yes hb ht)
    have HI := hid hin
    have hfu : fullT t true = true := by simp only [rightT, Bool.and_eq_true] at hrt; exact hrt.1
    have h4 := rt_facts hfu hz
    have hml : (allT t).length ≤ maxLen := by unfold maxLen; omega
    have HML := hid hml
    clear hin ht hrt hfu hft hsm hml
    rw [hb]
    go_wp2_with fail
    refine HI.out.mono ?_
    rintro e w2 ⟨x, HXT, rfl, hrt, hcap, hb2⟩
    have HRT := hid hrt
    have HB2 := hid (HB1.out.trans (hb2.mono HB1.out.size))
    clear hrt hcap hb2
    obtain rfl : x.t = t := HXT.out
    go_wp2_with fail
    refine (spec_l2Map _ x.t x.A x.K x.c x.d _ _ (Nat.le_refl _) (by omega) (by omega) HRT.out (fun b h => h.2)).mono ?_
    rintro e w3 ⟨A3, c3, rfl, ho3, hb3⟩
    have HO3 := hid ho3
    have HB3 := hid (HB2.out.trans (hb3.mono HB2.out.size))
    clear hb3 ho3
    go_wp2_with fail
    refine (spec_l1Get A3 c3 (allT x.t) k _ _ HO3.out.rp HML.out).mono ?_
    rintro e w4 ⟨rfl, rfl⟩
    go_wp2_with fail
    go_ret2
    rw [HE.out]
    exact ⟨rfl, HB3.out⟩

/-- What Height answers. -/
def highB (ns : List ND) : Int := if treeB ns then (match treeOf ns with | none => 0 | some t => (deepT t : Int)) else 0
theorem highB_no {ns : List ND} (h : treeB ns = false) : highB ns = 0 := by simp [highB, h]
theorem highB_yes {ns : List ND} {t : BT} (h : treeB ns = true) (ht : treeOf ns = some t) : highB ns = (deepT t : Int) := by simp [highB, h, ht]

set_option maxHeartbeats 2000000 in
set_option maxRecDepth 100000 in
theorem spec_Height (A : Option Addr) (c : Nat) (ns : List ND) (w : World) (hr : RN w w.heap.size A ns) (hf : FitsN ns) (hs : SmallN ns) (hn : ns.length ≤ 1048576) :
    Calls Try.prog 47 #[.slice A ns.length c] w fun e w' => e = .returned (.int .i64 (highB ns)) ∧ Below w.heap.size w w' := by
  have HR := hid hr
  have HF := hid hf
  have HS := hid hs
  clear hr hf hs
  cases hb : treeB ns
  · have HE := hid (highB_no hb)
    go_enter Try.func47, Try.ntmps47
    go_wp2_with fail
    refine (spec_TreeOk A c ns _ HR.out HF.out HS.out hn).mono ?_
    rintro e w1 ⟨rfl, hb1⟩
    have HB1 := hid hb1
    clear hb1
    rw [hb]
    go_wp2_with fail
    go_ret
    exact ⟨ret_i HE.out.symm, HB1.out⟩
  · go_enter Try.func47, Try.ntmps47
    go_wp2_with fail
    refine (spec_TreeOk A c ns _ HR.out HF.out HS.out hn).mono ?_
    rintro e w1 ⟨rfl, hb1⟩
    have HB1 := hid hb1
    clear hb1
    obtain ⟨t, ht, hrt, ⟨hz, hsm, hft⟩, hin⟩ := spec_read A c ns w w1 HR.out HF.out HS.out hb HB1.out
    have HE := hid (highB_yes hb ht)
    have HI := hid hin
    have hd0 : deepT t ≠ 0 := by simp only [rightT, Bool.and_eq_true, decide_eq_true_eq] at hrt; exact hrt.2.1
    have HDI : Hid (deepI t = (deepT t : Int)) := by simp [Hid, deepI, hd0]
    clear hin ht hrt hft hsm
    rw [hb]
    go_wp2_with fail
    refine HI.out.mono ?_
    rintro e w2 ⟨x, HXT, rfl, hrt, hcap, hb2⟩
    have HRT := hid hrt
    have HB2 := hid (HB1.out.trans (hb2.mono HB1.out.size))
    clear hrt hcap hb2
    obtain rfl : x.t = t := HXT.out
    go_wp2_with fail
    refine (spec_l2Deep _ x.t x.A x.K x.c x.d _ _ (Nat.le_refl _) (by omega) HRT.out (fun b h => h.2)).mono ?_
    rintro e w3 ⟨rfl, hb3⟩
    have HB3 := hid (HB2.out.trans (hb3.mono HB2.out.size))
    clear hb3
    go_wp2_with fail
    go_ret
    exact ⟨ret_i (HDI.out.trans HE.out.symm), HB3.out⟩
end Go.Proofs.Ytcjbjfhndjpmcaa
