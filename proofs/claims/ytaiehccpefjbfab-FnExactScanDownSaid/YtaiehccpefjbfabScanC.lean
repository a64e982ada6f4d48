/-
  The model's ScanUp: contract.
-/
import Derived.Test.YtaiehccpefjbfabScanB
namespace Go.Proofs.Ytaiehccpefjbfab
open Go.RowKit

theorem scanL_len (L : PS) (most : Int) : (scanL L most).length ≤ L.length := by
  rw [scanL]
  split
  · simp
  · simp; omega
def ScanRead (w : World) (L : PS) (most : Int) (e : Ending) (w' : World) : Prop := ∃ A c, e = .returned (.tuple #[.slice A (scanL L most).length c, .string (scanK L most)]) ∧ RP w' w'.heap.size A (scanL L most) ∧ Below w.heap.size w w'
theorem ScanRead.of {w w' : World} {L l : PS} {k : ByteArray} {most : Int} {A : Option Addr} {n c : Nat} (h1 : scanL L most = l ∧ scanK L most = k) (hn : n = l.length) (ho : RP w' w'.heap.size A l) (hb : Below w.heap.size w w') : ScanRead w L most (.returned (.tuple #[.slice A n c, .string k])) w' := by
  obtain ⟨rfl, rfl⟩ := h1
  subst hn
  exact ⟨A, c, rfl, ho, hb⟩
theorem scan_at {L : PS} {m : Nat} (h : m < L.length) : scanL L (m : Int) = L.take m ∧ scanK L (m : Int) = L[m].1 := by
  have h0 : ¬ ((m : Int) < 0) := by omega
  rw [scanL, scanK, if_neg h0, if_neg h0, Int.toNat_natCast, List.getElem?_eq_getElem h]
  exact ⟨rfl, rfl⟩

set_option maxHeartbeats 2000000 in
set_option maxRecDepth 100000 in
theorem spec_ScanUp (A : Option Addr) (c : Nat) (ns : List ND) (lo hi : ByteArray) (most : Int) (w : World) (hr : RN w w.heap.size A ns) (hf : FitsN ns) (hs : SmallN ns) (hl : ns.length ≤ 1048576) :
    Calls Try.prog 25 #[.slice A ns.length c, .string lo, .string hi, .int .i64 most] w (ScanRead w (rangeL (pairsOf ns) lo hi) most) := by
  have hcap := (pairsOf_rise hs hf).1
  have hrl := rangeL_len (pairsOf ns) lo hi
  have HC := hid (spec_TreeMap A c ns w hr hf hs hl)
  clear hr hf hs
  generalize hL : pairsOf ns = L at *
  clear hL
  go_enter Try.func25, Try.ntmps25
  go_wp2_with fail
  refine HC.out.mono ?_
  rintro e w3 ⟨A3, c3, rfl, ho3, hb3⟩
  have HB3 := hid hb3
  have HR3 := hid ho3.rp
  clear hb3 ho3 HC
  go_wp2_with fail
  refine (spec_l1Range A3 c3 L lo hi _ HR3.out (by omega)).mono ?_
  rintro e w4 ⟨A4, c4, rfl, ho4, hb4⟩
  have HB4 := hid (HB3.out.trans (hb4.mono HB3.out.size))
  have HO4 := hid ho4
  clear ho4 hb4 HR3
  generalize rangeL L lo hi = R at *
  by_cases hneg : most < 0
  · have HE := hid (scan_neg (L := R) hneg)
    go_wp2_with fail
    go_ret2
    exact ScanRead.of HE.out rfl (.inl rfl) (HB4.out.alloc HB4.out.size _)
  obtain ⟨m, rfl⟩ : ∃ m : Nat, most = (m : Int) := ⟨most.toNat, by omega⟩
  by_cases hle : R.length ≤ m
  · have HE := hid (scan_all (L := R) (most := (m : Int)) (by omega))
    have g0 : decide ((R.length : Int) ≤ (m : Int)) = true := by rw [decide_eq_true_eq]; omega
    have g1 : decide (R.length ≤ m) = true := by rw [decide_eq_true_eq]; exact hle
    clear hneg
    go_wp2_with fail
    go_ret2
    exact ScanRead.of HE.out rfl HO4.out.rp HB4.out
  · have hlt : m < R.length := by omega
    have HE := hid (scan_at hlt)
    have g0 : decide ((R.length : Int) ≤ (m : Int)) = false := by rw [decide_eq_false_iff_not]; omega
    have g1 : decide (R.length ≤ m) = false := by rw [decide_eq_false_iff_not]; omega
    obtain ⟨b, off, rfl, hb, hc1, hc2⟩ := HO4.out.rp.at_ hlt
    have hcp := own_cap HO4.out
    have HTK : Hid (RP w4 w4.heap.size (some ⟨b, off, none⟩) (R.take m)) := HO4.out.rp.take m
    have HLN : Hid (m = (R.take m).length) := by rw [Hid, List.length_take]; omega
    have hml : m ≤ c4 := by omega
    have hmx : c4 ≤ 9223372036854775807 := by have := hcp.2; unfold maxLen at this; omega
    have e5 : (0 : Int) ≤ (m : Int) := by omega
    have e6 : (m : Int) < (R.length : Int) := by omega
    have HCP : Hid (∀ W, Below w4.heap.size w4 W → Calls Try.prog 46 #[.slice (some ⟨b, off, none⟩) m c4] W (Made W W.heap.size (R.take m))) := fun W hb => by
      have := spec_l1CopyMap (some ⟨b, off, none⟩) c4 (R.take m) W ((HTK.out.below hb).more hb.size) (by rw [← HLN.out]; omega)
      rw [← HLN.out] at this
      exact this
    have HCL : Hid (∀ W, Below w4.heap.size w4 W → W.cell? ⟨b, off + m * 2, none⟩ = some (.string R[m].1)) := fun W h => (h.cell (p := ⟨b, off + m * 2, none⟩) hb).trans hc1
    clear hneg hle hcp
    go_wp2_with fail
    go_region_held3 (fun w' => w'.cell? ⟨b, off + m * 2, none⟩ = some (.string R[m].1)) (go_keep)
      (first
        | (go_at_call 46; refine (HCP.out _ ((Below.refl w4.heap.size w4).drew)).mono ?_; rintro e w6 ⟨A6, c6, rfl, ho6, hb6⟩; have B6 := hid (((Below.refl w4.heap.size w4).drew).trans hb6); have HO6 := hid ho6; have HB6 := hid (HB4.out.trans (B6.out.mono HB4.out.size)); have hc6 := HCL.out _ B6.out; clear ho6 hb6))
    go_wp2_with fail
    go_ret2
    exact ScanRead.of HE.out (by simp) HO6.out.rp HB6.out
end Go.Proofs.Ytaiehccpefjbfab
