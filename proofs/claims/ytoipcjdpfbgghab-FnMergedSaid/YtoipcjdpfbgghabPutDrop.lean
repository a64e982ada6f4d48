/-
  Put, Drop, Range of both: contracts.
-/
import Derived.Test.YtoipcjdpfbgghabWithout
namespace Go.Proofs.Ytoipcjdpfbgghab
open Go.RowKit

theorem without_yes (A : Option Addr) (c : Nat) (ps : PS) (k : ByteArray) (w : World) (hr : RP w w.heap.size A ps) (hvs : VS A c ps.length) (hn : ps.length ≤ 900) (hs : risesB ps = true) (hh : hasK ps k = true) :
    Calls Try.prog 61 #[.slice A ps.length c, .string k] w (Made2 w (dropL ps k) true) := by
  have h := without_any A c ps k w hr hvs hn hs
  rw [hh, if_pos rfl] at h
  exact h
theorem without_no (A : Option Addr) (c : Nat) (ps : PS) (k : ByteArray) (w : World) (hr : RP w w.heap.size A ps) (hvs : VS A c ps.length) (hn : ps.length ≤ 900) (hs : risesB ps = true) (hh : hasK ps k = false) :
    Calls Try.prog 61 #[.slice A ps.length c, .string k] w (Made2 w [] false) := by
  have h := without_any A c ps k w hr hvs hn hs
  rw [hh, if_neg (by simp)] at h
  exact h
theorem Made2.yes {w w' : World} {L L' : PS} {b : Bool} {A : Option Addr} {c : Nat} (hL : L = L') (hb : b = true) (ho : OwnP w' w.heap.size A c L') (h : Below w.heap.size w w') : Made2 w L b (.returned (.tuple #[.slice A L'.length c, .bool true])) w' := by
  subst hL hb
  exact ⟨A, c, rfl, ho, h⟩
theorem Fits.put {ps : PS} (h : Fits ps) {k v : ByteArray} (hk : k.size ≤ maxLen) (hv : v.size ≤ maxLen) : Fits (putL ps k v) := by
  intro p hp
  rcases putL_mem hp with h' | rfl
  · exact h p h'
  · exact ⟨hk, hv⟩
theorem putB_yes {ps : PS} {k v : ByteArray} (h1 : mapB ps = true) (h2 : keyB k = true) (h3 : keyB v = true) (h4 : (putL ps k v).length ≤ 60) : putB ps k v = true := by simp [putB, h1, h2, h3, h4]
theorem putR_yes {ps : PS} {k v : ByteArray} (h : putB ps k v = true) : putR ps k v = putL ps k v := by simp [putR, h]
theorem putR_no {ps : PS} {k v : ByteArray} (h : putB ps k v = false) : putR ps k v = [] := by simp [putR, h]

set_option maxHeartbeats 2000000 in
theorem spec_Put (A : Option Addr) (c : Nat) (ps : PS) (k v : ByteArray) (w : World) (hr : RP w w.heap.size A ps) (hf : Fits ps) (hn : ps.length ≤ 1048576) (hk : k.size ≤ maxLen) (hv : v.size ≤ maxLen) :
    Calls Try.prog 49 #[.slice A ps.length c, .string k, .string v] w (Made2 w (putR ps k v) (putB ps k v)) := by
  have hml : ps.length ≤ maxLen := by unfold maxLen; omega
  have HR := hid hr
  have HF := hid hf
  have HM := hid hml
  clear hr hf hml
  cases h1 : mapB ps
  · have HB : Hid (putB ps k v = false) := by simp [Hid, putB, h1]
    go_enter Try.func49, Try.ntmps49
    go_wp2_with (go_at_call 35; refine (spec_MapOk A c ps _ _ HR.out HF.out HM.out).mono ?_; rintro e w2 ⟨rfl, hw2⟩)
    go_ret2
    exact Made2.no (putR_no HB.out) HB.out (hw2.below _)
  cases h2 : keyB k
  · have HB : Hid (putB ps k v = false) := by simp [Hid, putB, h2]
    go_enter Try.func49, Try.ntmps49
    go_wp2_with (first
      | (go_at_call 35; refine (spec_MapOk A c ps _ _ HR.out HF.out HM.out).mono ?_; rintro e w2 ⟨rfl, hw2⟩)
      | (go_at_call 68; (with_reducible refine (spec_KeyOk k _ hk).mono ?_); rintro e w3 ⟨rfl, rfl⟩))
    go_ret2
    exact Made2.no (putR_no HB.out) HB.out (hw2.below _)
  cases h3 : keyB v
  · have HB : Hid (putB ps k v = false) := by simp [Hid, putB, h3]
    go_enter Try.func49, Try.ntmps49
    go_wp2_with (first
      | (go_at_call 35; refine (spec_MapOk A c ps _ _ HR.out HF.out HM.out).mono ?_; rintro e w2 ⟨rfl, hw2⟩)
      | (go_at_call 68; (with_reducible refine (spec_KeyOk k _ hk).mono ?_); rintro e w3 ⟨rfl, rfl⟩)
      | (go_at_call 68; (with_reducible refine (spec_KeyOk v _ hv).mono ?_); rintro e w3 ⟨rfl, rfl⟩))
    go_ret2
    exact Made2.no (putR_no HB.out) HB.out (hw2.below _)
  have HPM := hid (putL_map h1 h2 h3)
  have HPF := hid (HF.out.put hk hv)
  have hl : (putL ps k v).length ≤ maxLen := by have := putL_len_le ps k v; unfold maxLen; omega
  have HL := hid hl
  clear hl
  by_cases h4 : (putL ps k v).length ≤ 60
  · have HB := hid (putB_yes h1 h2 h3 h4)
    have HPT : Hid (mapB (putL ps k v) = true) := by rw [Hid, HPM.out]; simp [h4]
    clear h4
    go_enter Try.func49, Try.ntmps49
    go_wp2_with (first
      | (go_at_call 35; (with_reducible refine (spec_MapOk A c ps _ _ HR.out HF.out HM.out).mono ?_); rintro e w2 ⟨rfl, hw2⟩)
      | (go_at_call 68; (with_reducible refine (spec_KeyOk k _ hk).mono ?_); rintro e w3 ⟨rfl, rfl⟩)
      | (go_at_call 68; (with_reducible refine (spec_KeyOk v _ hv).mono ?_); rintro e w3 ⟨rfl, rfl⟩)
      | (go_at_call 65; refine (spec_l1Put A c ps k v _ ((HR.out.below (hw2.below _)).more (hw2.below 0).size) hn).mono ?_; rintro e w4 ⟨A4, c4, rfl, ho4, hb4⟩; have HO4 := hid ho4; have HB4 := hid hb4; clear ho4 hb4)
      | (go_at_call 35; (with_reducible refine (spec_MapOk A4 c4 (putL ps k v) _ _ HO4.out.rp HPF.out HL.out).mono ?_); rintro e w5 ⟨rfl, hw5⟩; have hpt := HPT.out))
    go_ret2
    have hb1 := (hw2.below w.heap.size).trans (HB4.out.mono (hw2.below w.heap.size).size)
    exact Made2.yes (putR_yes HB.out) HB.out ((HO4.out.below (hw5.below _)).mono (hw2.below w.heap.size).size) (hb1.trans (hw5.below _))
  · have HB : Hid (putB ps k v = false) := by simp [Hid, putB, h4]
    have HPT : Hid (mapB (putL ps k v) = false) := by rw [Hid, HPM.out]; simp [h4]
    clear h4
    go_enter Try.func49, Try.ntmps49
    go_wp2_with (first
      | (go_at_call 35; (with_reducible refine (spec_MapOk A c ps _ _ HR.out HF.out HM.out).mono ?_); rintro e w2 ⟨rfl, hw2⟩)
      | (go_at_call 68; (with_reducible refine (spec_KeyOk k _ hk).mono ?_); rintro e w3 ⟨rfl, rfl⟩)
      | (go_at_call 68; (with_reducible refine (spec_KeyOk v _ hv).mono ?_); rintro e w3 ⟨rfl, rfl⟩)
      | (go_at_call 65; refine (spec_l1Put A c ps k v _ ((HR.out.below (hw2.below _)).more (hw2.below 0).size) hn).mono ?_; rintro e w4 ⟨A4, c4, rfl, ho4, hb4⟩; have HO4 := hid ho4; have HB4 := hid hb4; clear ho4 hb4)
      | (go_at_call 35; (with_reducible refine (spec_MapOk A4 c4 (putL ps k v) _ _ HO4.out.rp HPF.out HL.out).mono ?_); rintro e w5 ⟨rfl, hw5⟩; have hpt := HPT.out))
    go_ret2
    have hb1 := (hw2.below w.heap.size).trans (HB4.out.mono (hw2.below w.heap.size).size)
    exact Made2.no (putR_no HB.out) HB.out (hb1.trans (hw5.below _))

end Go.Proofs.Ytoipcjdpfbgghab
