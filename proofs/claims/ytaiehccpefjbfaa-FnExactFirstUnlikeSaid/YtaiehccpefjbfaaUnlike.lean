/-
  FirstUnlike of both: contracts.
-/
import Derived.Test.YtaiehccpefjbfaaImplTop
import Derived.Test.YtaiehccpefjbfaaDeltaJ
namespace Go.Proofs.Ytaiehccpefjbfaa
open Go.RowKit

/-- The first key at which two lists of nodes are unlike. -/
def unlike (a b : List ND) : Option ByteArray := if treeB a && treeB b then (deltaL (pairsOf a) (pairsOf b)).head?.map (·.1) else none
def saidU (o : Option ByteArray) : Value := .tuple #[.string (o.getD ⟨#[]⟩), .bool o.isSome]
theorem unlike_a {a b : List ND} (h : treeB a = false) : unlike a b = none := by simp [unlike, h]
theorem unlike_b {a b : List ND} (h : treeB b = false) : unlike a b = none := by simp [unlike, h]
theorem unlike_no {a b : List ND} (h : (deltaL (pairsOf a) (pairsOf b)).length = 0) : unlike a b = none := by
  have := List.eq_nil_of_length_eq_zero h
  simp [unlike, this]
theorem unlike_at {a b : List ND} (ha : treeB a = true) (hb : treeB b = true) (h : 0 < (deltaL (pairsOf a) (pairsOf b)).length) : unlike a b = some (deltaL (pairsOf a) (pairsOf b))[0].1 := by
  simp [unlike, ha, hb, List.head?_eq_getElem?, List.getElem?_eq_getElem h]

set_option maxHeartbeats 2000000 in
set_option maxRecDepth 100000 in
theorem spec_FirstUnlike (A : Option Addr) (c : Nat) (ns : List ND) (K : Option Addr) (d : Nat) (ms : List ND) (w : World) (hr : RN w w.heap.size A ns) (hf : FitsN ns) (hs : SmallN ns) (hn : ns.length ≤ 1048576)
    (hk : RN w w.heap.size K ms) (hg : FitsN ms) (ht : SmallN ms) (hm : ms.length ≤ 1048576) :
    Calls Try.prog 41 #[.slice A ns.length c, .slice K ms.length d] w fun e w' => e = .returned (saidU (unlike ns ms)) ∧ Below w.heap.size w w' := by
  obtain ⟨ca, ra⟩ := pairsOf_rise hs hf
  obtain ⟨cb, rb⟩ := pairsOf_rise ht hg
  have HR := hid hr
  have HK := hid hk
  have HF := hid hf
  have HG := hid hg
  have HS := hid hs
  have HT := hid ht
  have hdl := deltaL_len (pairsOf ns) (pairsOf ms)
  have RA := hid ra
  have RB := hid rb
  clear hr hk hf hg hs ht ra rb
  go_enter Try.func41, Try.ntmps41
  go_wp2_with fail
  refine (spec_TreeMap A c ns _ HR.out HF.out HS.out hn).mono ?_
  rintro e w1 ⟨A1, c1, rfl, ho1, hb1⟩
  have HB1 := hid (hb1)
  have HO1 := hid ho1
  clear hb1 ho1
  go_wp2_with fail
  refine (spec_TreeMap K d ms _ ((HK.out.below HB1.out).more HB1.out.size) HG.out HT.out hm).mono ?_
  rintro e w2 ⟨A2, c2, rfl, ho2, hb2⟩
  have HB2 := hid (HB1.out.trans (hb2.mono HB1.out.size))
  have HO2 := hid ho2
  have HO1' := hid (OwnP.below HO1.out hb2)
  clear hb2 ho2
  go_wp2_with fail
  refine (spec_l9Of A1 c1 (pairsOf ns) A2 c2 (pairsOf ms) _ (OwnP.rp HO1'.out) (OwnP.rp HO2.out) (by omega) (by omega) RA.out RB.out).mono ?_
  rintro e w3 ⟨A3, c3, rfl, ho3, hb3⟩
  have HB3 := hid (HB2.out.trans (hb3.mono HB2.out.size))
  have HO3 := hid ho3
  clear hb3 ho3
  go_wp2_with fail
  refine (spec_TreeOk A c ns _ ((HR.out.below HB3.out).more HB3.out.size) HF.out HS.out hn).mono ?_
  rintro e w4 ⟨rfl, hbw4⟩
  have HBw4 := hid (HB3.out.trans (hbw4.mono HB3.out.size))
  have HO4 := hid (OwnC.below HO3.out hbw4)
  clear hbw4
  cases hta : treeB ns
  · have HE := hid (unlike_a (b := ms) hta)
    clear hta
    go_wp2_with fail
    go_ret2
    exact ⟨by rw [HE.out]; rfl, HBw4.out⟩
  have HTA := hid hta
  clear hta
  go_wp2_with fail
  refine (spec_TreeOk K d ms _ ((HK.out.below HBw4.out).more HBw4.out.size) HG.out HT.out hm).mono ?_
  rintro e w5 ⟨rfl, hbw5⟩
  have HBw5 := hid (HBw4.out.trans (hbw5.mono HBw4.out.size))
  have HO5 := hid (OwnC.below HO4.out hbw5)
  clear hbw5
  cases htb : treeB ms
  · have HE := hid (unlike_b (a := ns) htb)
    clear htb
    go_wp2_with fail
    go_ret2
    exact ⟨by rw [HE.out]; rfl, HBw5.out⟩
  have HTB := hid htb
  clear htb
  by_cases h0 : (deltaL (pairsOf ns) (pairsOf ms)).length = 0
  · have HE := hid (unlike_no h0)
    have g0 := eq0_true h0
    have h0' := h0
    go_wp2_with fail
    go_ret2
    exact ⟨by rw [HE.out]; rfl, HBw5.out⟩
  · have hpos : 0 < (deltaL (pairsOf ns) (pairsOf ms)).length := by omega
    have HE := hid (unlike_at HTA.out HTB.out hpos)
    have g0 := eq0_false h0
    obtain ⟨b, off, rfl, hb, q0, q1, q2⟩ := HO5.out.rh.at_ hpos
    simp only [Nat.zero_mul, Nat.add_zero] at q0
    have e6 : (0 : Int) < ((deltaL (pairsOf ns) (pairsOf ms)).length : Int) := by omega
    clear q1 q2 h0
    go_wp2_with fail
    go_ret2
    exact ⟨by rw [HE.out]; rfl, HBw5.out⟩

set_option maxHeartbeats 2000000 in
set_option maxRecDepth 100000 in
theorem impl_FirstUnlike (A : Option Addr) (c : Nat) (ns : List ND) (K : Option Addr) (d : Nat) (ms : List ND) (w : World) (hr : RN w w.heap.size A ns) (hf : FitsN ns) (hs : SmallN ns) (hn : ns.length ≤ 1048576)
    (hk : RN w w.heap.size K ms) (hg : FitsN ms) (ht : SmallN ms) (hm : ms.length ≤ 1048576) :
    Calls Try.prog 43 #[.slice A ns.length c, .slice K ms.length d] w fun e w' => e = .returned (saidU (unlike ns ms)) ∧ Below w.heap.size w w' := by
  obtain ⟨ca, ra⟩ := pairsOf_rise hs hf
  obtain ⟨cb, rb⟩ := pairsOf_rise ht hg
  have HR := hid hr
  have HK := hid hk
  have HF := hid hf
  have HG := hid hg
  have HS := hid hs
  have HT := hid ht
  have hdl := deltaL_len (pairsOf ns) (pairsOf ms)
  have RA := hid ra
  have RB := hid rb
  clear hr hk hf hg hs ht ra rb
  go_enter Try.func43, Try.ntmps43
  go_wp2_with fail
  refine (impl_TreeOk A c ns _ HR.out HF.out HS.out hn).mono ?_
  rintro e w4 ⟨rfl, hb4⟩
  have HB4 := hid hb4
  clear hb4
  cases hta : treeB ns
  · have HE := hid (unlike_a (b := ms) hta)
    clear hta
    go_wp2_with fail
    go_ret2
    exact ⟨by rw [HE.out]; rfl, HB4.out⟩
  have HTA := hid hta
  clear hta
  go_wp2_with fail
  refine (impl_TreeOk K d ms _ ((HK.out.below HB4.out).more HB4.out.size) HG.out HT.out hm).mono ?_
  rintro e w5 ⟨rfl, hbw5⟩
  have HBw5 := hid (HB4.out.trans (hbw5.mono HB4.out.size))
  clear hbw5
  cases htb : treeB ms
  · have HE := hid (unlike_b (a := ns) htb)
    clear htb
    go_wp2_with fail
    go_ret2
    exact ⟨by rw [HE.out]; rfl, HBw5.out⟩
  have HTB := hid htb
  clear htb
  go_wp2_with fail
  refine (impl_TreeMap A c ns _ ((HR.out.below HBw5.out).more HBw5.out.size) HF.out HS.out hn).mono ?_
  rintro e w1 ⟨A1, c1, rfl, ho1, hb1⟩
  have HB1 := hid (HBw5.out.trans (hb1.mono HBw5.out.size))
  have HO1 := hid ho1
  clear hb1 ho1
  go_wp2_with fail
  refine (impl_TreeMap K d ms _ ((HK.out.below HB1.out).more HB1.out.size) HG.out HT.out hm).mono ?_
  rintro e w2 ⟨A2, c2, rfl, ho2, hb2⟩
  have HB2 := hid (HB1.out.trans (hb2.mono HB1.out.size))
  have HO2 := hid ho2
  have HO1' := hid (OwnP.below HO1.out hb2)
  clear hb2 ho2
  go_wp2_with fail
  refine (impl_deltaBetween A1 c1 (pairsOf ns) A2 c2 (pairsOf ms) _ (OwnP.rp HO1'.out) (OwnP.rp HO2.out) (by omega) (by omega) RA.out RB.out).mono ?_
  rintro e w3 ⟨A3, c3, rfl, ho3, hb3⟩
  have HB3 := hid (HB2.out.trans (hb3.mono HB2.out.size))
  have HO3 := hid ho3
  clear hb3 ho3
  by_cases h0 : (deltaL (pairsOf ns) (pairsOf ms)).length = 0
  · have HE := hid (unlike_no h0)
    have g0 := eq0_true h0
    go_wp2_with fail
    go_ret2
    exact ⟨by rw [HE.out]; rfl, HB3.out⟩
  · have hpos : 0 < (deltaL (pairsOf ns) (pairsOf ms)).length := by omega
    have HE := hid (unlike_at HTA.out HTB.out hpos)
    have g0 := eq0_false h0
    obtain ⟨b, off, rfl, hb, q0, q1, q2⟩ := HO3.out.rh.at_ hpos
    simp only [Nat.zero_mul, Nat.add_zero] at q0
    have e6 : (0 : Int) < ((deltaL (pairsOf ns) (pairsOf ms)).length : Int) := by omega
    clear q1 q2 h0
    go_wp2_with fail
    go_ret2
    exact ⟨by rw [HE.out]; rfl, HB3.out⟩
end Go.Proofs.Ytaiehccpefjbfaa
