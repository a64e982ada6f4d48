/-
  The model's Seek, After, Before, Rank, Nth: contracts.
-/
import Derived.Test.YtaiehccpefjbfabFirst
namespace Go.Proofs.Ytaiehccpefjbfab
open Go.RowKit

theorem firstT_find (f : BB → Bool) (L : PS) : firstT (fun x => f x.2) L = L.find? f := by
  conv => rhs; rw [← turn_snd L]
  rw [List.find?_map]
  rfl
/-- The pair at a place. -/
def nthP (L : PS) (i : Int) : Option BB := if 0 ≤ i then L[i.toNat]? else none
theorem turn_at {L : PS} {j : Nat} (h : j < L.length) : (turn L)[j]'(by rw [turn_length]; exact h) = (j, L[j]) := by simp [turn]
theorem turn_mem {L : PS} {x : Nat × BB} (h : x ∈ turn L) : ∃ hl : x.1 < L.length, x.2 = L[x.1] := by
  obtain ⟨j, hj, e⟩ := List.getElem_of_mem h
  have hj' : j < L.length := by rw [turn_length] at hj; exact hj
  rw [turn_at hj'] at e
  subst e
  exact ⟨hj', rfl⟩
theorem firstT_nth (L : PS) (i : Int) : firstT (fun x => (x.1 : Int) == i) L = nthP L i := by
  by_cases h : 0 ≤ i ∧ i.toNat < L.length
  · rw [nthP, if_pos h.1, List.getElem?_eq_getElem h.2]
    have hp : (turn L).take i.toNat ++ [(i.toNat, L[i.toNat])] <+: turn L := by
      have hj : i.toNat < (turn L).length := by rw [turn_length]; exact h.2
      rw [← turn_at h.2, ← List.take_succ_eq_append_getElem hj]
      exact List.take_prefix _ _
    refine firstT_some (x := (i.toNat, L[i.toNat])) hp (fun y hy => ?_) (by simp; omega)
    obtain ⟨q, hq, e⟩ := List.getElem_of_mem hy
    have hq2 : q < i.toNat := by have := List.length_take_le i.toNat (turn L); omega
    rw [List.getElem_take, turn_at (by omega)] at e
    subst e
    simp
    omega
  · have hn : nthP L i = none := by
      rw [nthP]
      split
      · rw [List.getElem?_eq_none (by omega)]
      · rfl
    rw [hn]
    refine firstT_none (fun x hx => ?_)
    obtain ⟨hl, _⟩ := turn_mem hx
    simp
    omega
theorem find_at {f : BB → Bool} {L : PS} {j : Nat} (h : j < L.length) (h1 : ∀ q (hq : q < L.length), q < j → f L[q] = false) (h2 : f L[j] = true) : L.find? f = some L[j] := by
  have e : L = L.take j ++ (L[j] :: L.drop (j + 1)) := by rw [← List.drop_eq_getElem_cons h, List.take_append_drop]
  have hn : (L.take j).find? f = none := List.find?_eq_none.2 (fun y hy => by
    obtain ⟨q, hq, e⟩ := List.getElem_of_mem hy
    rw [List.getElem_take] at e
    have := h1 q (by simp at hq; omega) (by simp at hq; omega)
    rw [e] at this
    simp [this])
  conv => lhs; rw [e]
  rw [List.find?_append, hn, List.find?_cons_of_pos h2]
  rfl
theorem find_no {f : BB → Bool} {L : PS} (h1 : ∀ q (hq : q < L.length), f L[q] = false) : L.find? f = none := List.find?_eq_none.2 (fun y hy => by
  obtain ⟨q, hq, e⟩ := List.getElem_of_mem hy
  have := h1 q hq
  rw [e] at this
  simp [this])
theorem before_at {L : PS} {k : ByteArray} (hs : risesB L = true) {j : Nat} (h0 : 0 < j) (hj : j - 1 < L.length) (h1 : ∀ q (hq : q < L.length), j ≤ q → ltS L[q].1 k = false) (h2 : ltS L[j - 1].1 k = true) : beforeP L k = some L[j - 1] := by
  have hc : cnt L k = j := cnt_eq L k j (by omega) (fun i hi hlt => rises_yes hs hj h2 i hi (by omega)) h1
  rw [beforeP, firstT_nth, hc, nthP, if_pos (by omega)]
  have : ((j : Int) - 1).toNat = j - 1 := by omega
  rw [this, List.getElem?_eq_getElem hj]
theorem before_no {L : PS} {k : ByteArray} (h1 : ∀ q (hq : q < L.length), ltS L[q].1 k = false) : beforeP L k = none := by
  have hc : cnt L k = 0 := cnt_eq L k 0 (by omega) (fun i _ h => by omega) (fun i hi _ => h1 i hi)
  rw [beforeP, firstT_nth, hc, nthP, if_neg (by simp)]
def noF (f : BB → Bool) (L : PS) (j : Nat) : Prop := ∀ q (hq : q < L.length), q < j → f L[q] = false
def noB (f : BB → Bool) (L : PS) (j : Nat) : Prop := ∀ q (hq : q < L.length), j ≤ q → f L[q] = false

theorem spec_l1In (n lo hi : Int) (w : World) :
    Calls Try.prog 43 #[.int .i64 n, .int .i64 lo, .int .i64 hi] w fun e w' => e = .returned (.bool (decide (lo ≤ n ∧ n ≤ hi))) ∧ w = w' := by
  by_cases h1 : lo ≤ n
  · by_cases h2 : n ≤ hi
    · have HE : Hid (decide (lo ≤ n ∧ n ≤ hi) = true) := by simp [Hid, h1, h2]
      go_enter Try.func43, Try.ntmps43
      go_wp2_with fail
      go_ret
      exact ⟨ret_bool (by first | exact HE.out.symm | (rw [HE.out]; simp; omega) | (simp; omega)), rfl⟩
    · have HE : Hid (decide (lo ≤ n ∧ n ≤ hi) = false) := by simp [Hid, h2]
      go_enter Try.func43, Try.ntmps43
      go_wp2_with fail
      go_ret
      exact ⟨ret_bool (by first | exact HE.out.symm | (rw [HE.out]; simp; omega) | (simp; omega)), rfl⟩
  · have HE : Hid (decide (lo ≤ n ∧ n ≤ hi) = false) := by simp [Hid, h1]
    go_enter Try.func43, Try.ntmps43
    go_wp2_with fail
    go_ret
    exact ⟨ret_bool (by first | exact HE.out.symm | (rw [HE.out]; simp; omega) | (simp; omega)), rfl⟩

set_option maxHeartbeats 2000000 in
set_option maxRecDepth 100000 in
theorem spec_Seek (A : Option Addr) (c : Nat) (ns : List ND) (k : ByteArray) (w : World) (hr : RN w w.heap.size A ns) (hf : FitsN ns) (hs : SmallN ns) (hl : ns.length ≤ 1048576) :
    Calls Try.prog 12 #[.slice A ns.length c, .string k] w fun e w' => e = .returned (foundP ((pairsOf ns).find? (fun p => !ltS p.1 k))) ∧ Below w.heap.size w w' := by
  have hb0 : Below w.heap.size w (w.alloc (.cells #[.string ⟨#[]⟩, .string ⟨#[]⟩] 25)) := (Below.refl _ _).alloc (Nat.le_refl _) _
  have hcap := (pairsOf_rise hs hf).1
  have HC := hid (spec_TreeMap A c ns _ ((hr.below hb0).more hb0.size) hf hs hl)
  have O1 := hid (Two.new w 25 (.string ⟨#[]⟩) (.string ⟨#[]⟩))
  have HB0 := hid hb0
  clear hr hf hs hb0
  generalize hL : pairsOf ns = L at *
  clear hL
  go_enter Try.func12, Try.ntmps12
  go_wp2_with fail
  refine HC.out.mono ?_
  rintro e w3 ⟨A3, c3, rfl, ho3, hb3⟩
  have HB3 := hid (HB0.out.trans (hb3.mono HB0.out.size))
  have O3 := hid (O1.out.below hb3)
  have HR3 := hid ho3.rp
  clear hb3 ho3 HC O1 HB0
  go_wp2_with fail
  go_loopw [7] (fun i wr => ∃ j : Nat, j ≤ L.length ∧ i = .int .i64 j ∧ noF (fun p => !ltS p.1 k) L j ∧ wr = w3) (fun i _ => L.length - (intOf i).toNat)
  case atStart => exact ⟨0, Nat.zero_le _, rfl, fun q hq h => by omega, rfl⟩
  case round =>
    obtain ⟨j, hj, rfl, hno, rfl⟩ := hrel
    have HNO := hid hno
    clear hno
    by_cases hlt : j < L.length
    · obtain ⟨b, off, rfl, hb, hc1, hc2⟩ := HR3.out.at_ hlt
      have t0 := O3.out.c0
      have t1 := O3.out.c1
      have t2 := O3.out.fz (j := 0)
      have t3 := O3.out.fz (j := 1)
      cases h1 : ltS L[j].1 k
      · have g1 : Op.bytesLess L[j].1.toList k.toList = false := h1
        have HE := hid (find_at (f := fun p => !ltS p.1 k) hlt HNO.out (by simp [h1]))
        clear h1
        go_wp2_with fail
        have z := two_put O3.out (.string L[j].1) (.string L[j].2)
        have z0 := z.c0
        have z1 := z.c1
        refine bodyPost_ret (v := foundP (some L[j])) (by simp [results, Try.results12, go_sem, z0, z1, foundP]) rfl ⟨by rw [HE.out], ?_⟩
        exact (HB3.out.setCell (p := ⟨w.heap.size, 0, none⟩) (Nat.le_refl _) _).setCell (p := ⟨w.heap.size, 1, none⟩) (Nat.le_refl _) _
      · have g1 : Op.bytesLess L[j].1.toList k.toList = true := h1
        have HS : Hid (noF (fun p => !ltS p.1 k) L (j + 1)) := fun q hq hlt2 => by
          by_cases hqj : q = j
          · subst hqj; simp [h1]
          · exact HNO.out q hq (by omega)
        clear h1
        go_wp2_with fail
        go_roundw
        case rel => exact ⟨j + 1, by omega, by go_num, HS.out, by trivial⟩
        case measure => simp [intOf]; omega
    · obtain rfl : j = L.length := by omega
      have t0 := O3.out.c0
      have t1 := O3.out.c1
      have t2 := O3.out.fz (j := 0)
      have t3 := O3.out.fz (j := 1)
      have HE := hid (find_no (f := fun p => !ltS p.1 k) (fun q hq => HNO.out q hq hq))
      go_wp2_with fail
      have z := two_put O3.out (.string ⟨#[]⟩) (.string ⟨#[]⟩)
      have z0 := z.c0
      have z1 := z.c1
      refine bodyPost_ret (v := foundP none) (by simp [results, Try.results12, go_sem, z0, z1, foundP]) rfl ⟨by rw [HE.out], ?_⟩
      exact (HB3.out.setCell (p := ⟨w.heap.size, 0, none⟩) (Nat.le_refl _) _).setCell (p := ⟨w.heap.size, 1, none⟩) (Nat.le_refl _) _

set_option maxHeartbeats 2000000 in
set_option maxRecDepth 100000 in
theorem spec_After (A : Option Addr) (c : Nat) (ns : List ND) (k : ByteArray) (w : World) (hr : RN w w.heap.size A ns) (hf : FitsN ns) (hs : SmallN ns) (hl : ns.length ≤ 1048576) :
    Calls Try.prog 17 #[.slice A ns.length c, .string k] w fun e w' => e = .returned (foundP ((pairsOf ns).find? (fun p => gtB p.1 k))) ∧ Below w.heap.size w w' := by
  have hb0 : Below w.heap.size w (w.alloc (.cells #[.string ⟨#[]⟩, .string ⟨#[]⟩] 25)) := (Below.refl _ _).alloc (Nat.le_refl _) _
  have hcap := (pairsOf_rise hs hf).1
  have HC := hid (spec_TreeMap A c ns _ ((hr.below hb0).more hb0.size) hf hs hl)
  have O1 := hid (Two.new w 25 (.string ⟨#[]⟩) (.string ⟨#[]⟩))
  have HB0 := hid hb0
  clear hr hf hs hb0
  generalize hL : pairsOf ns = L at *
  clear hL
  go_enter Try.func17, Try.ntmps17
  go_wp2_with fail
  refine HC.out.mono ?_
  rintro e w3 ⟨A3, c3, rfl, ho3, hb3⟩
  have HB3 := hid (HB0.out.trans (hb3.mono HB0.out.size))
  have O3 := hid (O1.out.below hb3)
  have HR3 := hid ho3.rp
  clear hb3 ho3 HC O1 HB0
  go_wp2_with fail
  go_loopw [7] (fun i wr => ∃ j : Nat, j ≤ L.length ∧ i = .int .i64 j ∧ noF (fun p => gtB p.1 k) L j ∧ wr = w3) (fun i _ => L.length - (intOf i).toNat)
  case atStart => exact ⟨0, Nat.zero_le _, rfl, fun q hq h => by omega, rfl⟩
  case round =>
    obtain ⟨j, hj, rfl, hno, rfl⟩ := hrel
    have HNO := hid hno
    clear hno
    by_cases hlt : j < L.length
    · obtain ⟨b, off, rfl, hb, hc1, hc2⟩ := HR3.out.at_ hlt
      have t0 := O3.out.c0
      have t1 := O3.out.c1
      have t2 := O3.out.fz (j := 0)
      have t3 := O3.out.fz (j := 1)
      cases h1 : gtB L[j].1 k
      rotate_left
      · have g1 : (!Op.bytesLess L[j].1.toList k.toList && !(L[j].1.toList == k.toList)) = true := h1
        have HE := hid (find_at (f := fun p => gtB p.1 k) hlt HNO.out h1)
        clear h1
        go_wp2_with fail
        have z := two_put O3.out (.string L[j].1) (.string L[j].2)
        have z0 := z.c0
        have z1 := z.c1
        refine bodyPost_ret (v := foundP (some L[j])) (by simp [results, Try.results17, go_sem, z0, z1, foundP]) rfl ⟨by rw [HE.out], ?_⟩
        exact (HB3.out.setCell (p := ⟨w.heap.size, 0, none⟩) (Nat.le_refl _) _).setCell (p := ⟨w.heap.size, 1, none⟩) (Nat.le_refl _) _
      · have g1 : (!Op.bytesLess L[j].1.toList k.toList && !(L[j].1.toList == k.toList)) = false := h1
        have HS : Hid (noF (fun p => gtB p.1 k) L (j + 1)) := fun q hq hlt2 => by
          by_cases hqj : q = j
          · subst hqj; exact h1
          · exact HNO.out q hq (by omega)
        clear h1
        go_wp2_with fail
        go_roundw
        case rel => exact ⟨j + 1, by omega, by go_num, HS.out, by trivial⟩
        case measure => simp [intOf]; omega
    · obtain rfl : j = L.length := by omega
      have t0 := O3.out.c0
      have t1 := O3.out.c1
      have t2 := O3.out.fz (j := 0)
      have t3 := O3.out.fz (j := 1)
      have HE := hid (find_no (f := fun p => gtB p.1 k) (fun q hq => HNO.out q hq hq))
      go_wp2_with fail
      have z := two_put O3.out (.string ⟨#[]⟩) (.string ⟨#[]⟩)
      have z0 := z.c0
      have z1 := z.c1
      refine bodyPost_ret (v := foundP none) (by simp [results, Try.results17, go_sem, z0, z1, foundP]) rfl ⟨by rw [HE.out], ?_⟩
      exact (HB3.out.setCell (p := ⟨w.heap.size, 0, none⟩) (Nat.le_refl _) _).setCell (p := ⟨w.heap.size, 1, none⟩) (Nat.le_refl _) _

set_option maxHeartbeats 2000000 in
set_option maxRecDepth 100000 in
theorem spec_Rank (A : Option Addr) (c : Nat) (ns : List ND) (k : ByteArray) (w : World) (hr : RN w w.heap.size A ns) (hf : FitsN ns) (hs : SmallN ns) (hl : ns.length ≤ 1048576) :
    Calls Try.prog 21 #[.slice A ns.length c, .string k] w fun e w' => e = .returned (.int .i64 ((cnt (pairsOf ns) k : Nat) : Int)) ∧ Below w.heap.size w w' := by
  have hcap := (pairsOf_rise hs hf).1
  have hri := (pairsOf_rise hs hf).2
  have HC := hid (spec_TreeMap A c ns w hr hf hs hl)
  clear hr hf hs
  generalize hL : pairsOf ns = L at *
  clear hL
  have HRI := hid hri
  have hcn := cnt_le L k
  clear hri
  go_enter Try.func21, Try.ntmps21
  go_wp2_with fail
  refine HC.out.mono ?_
  rintro e w3 ⟨A3, c3, rfl, ho3, hb3⟩
  have HB3 := hid hb3
  have HR3 := hid ho3.rp
  clear hb3 ho3 HC
  go_wp2_with fail
  go_loopw [6, 7] (fun n i wr => ∃ j : Nat, j ≤ L.length ∧ i = .int .i64 j ∧ n = .int .i64 ((min j (cnt L k) : Nat) : Int) ∧ wr = w3) (fun _ i _ => L.length - (intOf i).toNat)
  case atStart => exact ⟨0, Nat.zero_le _, rfl, by simp, rfl⟩
  case round =>
    obtain ⟨j, hj, rfl, rfl, rfl⟩ := hrel
    by_cases hlt : j < L.length
    · obtain ⟨b, off, rfl, hb, hc1, hc2⟩ := HR3.out.at_ hlt
      cases h1 : ltS L[j].1 k
      · have g1 : Op.bytesLess L[j].1.toList k.toList = false := h1
        have hge : cnt L k ≤ j := by
          rcases Nat.lt_or_ge j (cnt L k) with h | h
          · rw [cnt_ahead L k j hlt h] at h1; cases h1
          · exact h
        have HE : Hid (min (j + 1) (cnt L k) = min j (cnt L k)) := by rw [Hid]; omega
        clear h1
        go_wp2_with fail
        go_roundw
        case rel => exact ⟨j + 1, by omega, by go_num, by rw [HE.out], by trivial⟩
        case measure => simp [intOf]; omega
      · have g1 : Op.bytesLess L[j].1.toList k.toList = true := h1
        have hge : j < cnt L k := by
          rcases Nat.lt_or_ge j (cnt L k) with h | h
          · exact h
          · rw [cnt_behind HRI.out k j hlt h] at h1; cases h1
        have hm : min j (cnt L k) = j := by omega
        have HE : Hid (min (j + 1) (cnt L k) = j + 1) := by rw [Hid]; omega
        rw [hm]
        clear h1
        go_wp2_with fail
        go_roundw
        case rel => exact ⟨j + 1, by omega, by go_num, by rw [HE.out]; go_num, by trivial⟩
        case measure => simp [intOf]; omega
    · obtain rfl : j = L.length := by omega
      have hm : min L.length (cnt L k) = cnt L k := by omega
      rw [hm]
      go_wp2_with fail
      go_ret
      exact ⟨rfl, HB3.out⟩

set_option maxHeartbeats 2000000 in
set_option maxRecDepth 100000 in
theorem spec_Before (A : Option Addr) (c : Nat) (ns : List ND) (k : ByteArray) (w : World) (hr : RN w w.heap.size A ns) (hf : FitsN ns) (hs : SmallN ns) (hl : ns.length ≤ 1048576) :
    Calls Try.prog 19 #[.slice A ns.length c, .string k] w fun e w' => e = .returned (foundP (beforeP (pairsOf ns) k)) ∧ Below w.heap.size w w' := by
  have hb0 : Below w.heap.size w (w.alloc (.cells #[.string ⟨#[]⟩, .string ⟨#[]⟩] 25)) := (Below.refl _ _).alloc (Nat.le_refl _) _
  have hcap := (pairsOf_rise hs hf).1
  have HRI := hid (pairsOf_rise hs hf).2
  have HC := hid (spec_TreeMap A c ns _ ((hr.below hb0).more hb0.size) hf hs hl)
  have O1 := hid (Two.new w 25 (.string ⟨#[]⟩) (.string ⟨#[]⟩))
  have HB0 := hid hb0
  clear hr hf hs hb0
  generalize hL : pairsOf ns = L at *
  clear hL
  go_enter Try.func19, Try.ntmps19
  go_wp2_with fail
  refine HC.out.mono ?_
  rintro e w3 ⟨A3, c3, rfl, ho3, hb3⟩
  have HB3 := hid (HB0.out.trans (hb3.mono HB0.out.size))
  have O3 := hid (O1.out.below hb3)
  have HR3 := hid ho3.rp
  clear hb3 ho3 HC O1 HB0
  go_wp2_with fail
  go_loopw [7] (fun i wr => ∃ j : Nat, j ≤ L.length ∧ i = .int .i64 ((j : Int) - 1) ∧ noB (fun p => ltS p.1 k) L j ∧ wr = w3) (fun i _ => (intOf i + 1).toNat)
  case atStart => exact ⟨L.length, Nat.le_refl _, rfl, fun q hq h => by omega, rfl⟩
  case round =>
    obtain ⟨j, hj, rfl, hno, rfl⟩ := hrel
    have HNO := hid hno
    clear hno
    by_cases hlt : 0 < j
    · obtain ⟨i, rfl⟩ : ∃ i, j = i + 1 := ⟨j - 1, by omega⟩
      have hi : (((i + 1 : Nat) : Int) - 1) = (i : Int) := by omega
      rw [hi]
      have hil : i < L.length := by omega
      obtain ⟨b, off, rfl, hb, hc1, hc2⟩ := HR3.out.at_ hil
      have t0 := O3.out.c0
      have t1 := O3.out.c1
      have t2 := O3.out.fz (j := 0)
      have t3 := O3.out.fz (j := 1)
      clear hlt hi
      cases h1 : ltS L[i].1 k
      rotate_left
      · have g1 : Op.bytesLess L[i].1.toList k.toList = true := h1
        have HE : Hid (beforeP L k = some L[i]) := before_at HRI.out (j := i + 1) (by omega) (by simpa using hil) HNO.out (by simpa using h1)
        clear h1
        go_wp2_with fail
        have z := two_put O3.out (.string L[i].1) (.string L[i].2)
        have z0 := z.c0
        have z1 := z.c1
        refine bodyPost_ret (v := foundP (some L[i])) (by simp [results, Try.results19, go_sem, z0, z1, foundP]) rfl ⟨by rw [HE.out], ?_⟩
        exact (HB3.out.setCell (p := ⟨w.heap.size, 0, none⟩) (Nat.le_refl _) _).setCell (p := ⟨w.heap.size, 1, none⟩) (Nat.le_refl _) _
      · have g1 : Op.bytesLess L[i].1.toList k.toList = false := h1
        have HS : Hid (noB (fun p => ltS p.1 k) L i) := fun q hq hle => by
          by_cases hqj : q = i
          · subst hqj; exact h1
          · exact HNO.out q hq (by omega)
        clear h1
        go_wp2_with fail
        go_roundw
        case rel => exact ⟨i, by omega, by first | rfl | go_num, HS.out, by trivial⟩
        case measure => simp [intOf] <;> omega
    · obtain rfl : j = 0 := by omega
      have t0 := O3.out.c0
      have t1 := O3.out.c1
      have t2 := O3.out.fz (j := 0)
      have t3 := O3.out.fz (j := 1)
      have HE := hid (before_no (k := k) (fun q hq => HNO.out q hq (Nat.zero_le _)))
      go_wp2_with fail
      have z := two_put O3.out (.string ⟨#[]⟩) (.string ⟨#[]⟩)
      have z0 := z.c0
      have z1 := z.c1
      refine bodyPost_ret (v := foundP none) (by simp [results, Try.results19, go_sem, z0, z1, foundP]) rfl ⟨by rw [HE.out], ?_⟩
      exact (HB3.out.setCell (p := ⟨w.heap.size, 0, none⟩) (Nat.le_refl _) _).setCell (p := ⟨w.heap.size, 1, none⟩) (Nat.le_refl _) _

set_option maxHeartbeats 2000000 in
set_option maxRecDepth 100000 in
theorem spec_Nth (A : Option Addr) (c : Nat) (ns : List ND) (i : Int) (w : World) (hr : RN w w.heap.size A ns) (hf : FitsN ns) (hs : SmallN ns) (hl : ns.length ≤ 1048576) :
    Calls Try.prog 23 #[.slice A ns.length c, .int .i64 i] w fun e w' => e = .returned (foundP (nthP (pairsOf ns) i)) ∧ Below w.heap.size w w' := by
  have hb0 : Below w.heap.size w (w.alloc (.cells #[.string ⟨#[]⟩, .string ⟨#[]⟩] 25)) := (Below.refl _ _).alloc (Nat.le_refl _) _
  have hcap := (pairsOf_rise hs hf).1
  have HC := hid (spec_TreeMap A c ns _ ((hr.below hb0).more hb0.size) hf hs hl)
  have O1 := hid (Two.new w 25 (.string ⟨#[]⟩) (.string ⟨#[]⟩))
  have HB0 := hid hb0
  clear hr hf hs hb0
  generalize hL : pairsOf ns = L at *
  clear hL
  go_enter Try.func23, Try.ntmps23
  go_wp2_with fail
  refine HC.out.mono ?_
  rintro e w3 ⟨A3, c3, rfl, ho3, hb3⟩
  have HB3 := hid (HB0.out.trans (hb3.mono HB0.out.size))
  have O3 := hid (O1.out.below hb3)
  have HR3 := hid ho3.rp
  clear hb3 ho3 HC O1 HB0
  have t0 := O3.out.c0
  have t1 := O3.out.c1
  have t2 := O3.out.fz (j := 0)
  have t3 := O3.out.fz (j := 1)
  by_cases h0 : 0 ≤ i
  · by_cases h1 : i < (L.length : Int)
    · obtain ⟨j, rfl⟩ : ∃ j : Nat, i = (j : Int) := ⟨i.toNat, by omega⟩
      have hlt : j < L.length := by omega
      have HE : Hid (nthP L (j : Int) = some L[j]) := by rw [Hid, nthP, if_pos h0, Int.toNat_natCast, List.getElem?_eq_getElem hlt]
      obtain ⟨b, off, rfl, hb, hc1, hc2⟩ := HR3.out.at_ hlt
      have HD : Hid (decide ((0 : Int) ≤ (j : Int) ∧ (j : Int) ≤ (L.length : Int) - 1) = true) := by rw [Hid, decide_eq_true_eq]; omega
      clear h0 h1
      go_wp2_with fail
      refine (spec_l1In _ _ _ _).mono ?_
      rintro e w4 ⟨rfl, rfl⟩
      rw [HD.out]
      go_wp2_with fail
      have z := two_put O3.out (.string L[j].1) (.string L[j].2)
      have z0 := z.c0
      have z1 := z.c1
      refine bodyPost_ret (v := foundP (some L[j])) (by simp [results, Try.results23, go_sem, z0, z1, foundP]) rfl ⟨by rw [HE.out], ?_⟩
      exact (HB3.out.setCell (p := ⟨w.heap.size, 0, none⟩) (Nat.le_refl _) _).setCell (p := ⟨w.heap.size, 1, none⟩) (Nat.le_refl _) _
    · have HE : Hid (nthP L i = none) := by rw [Hid, nthP, if_pos h0, List.getElem?_eq_none (by omega)]
      have HD : Hid (decide ((0 : Int) ≤ i ∧ i ≤ (L.length : Int) - 1) = false) := by rw [Hid, decide_eq_false_iff_not]; omega
      clear h0 h1
      go_wp2_with fail
      refine (spec_l1In _ _ _ _).mono ?_
      rintro e w4 ⟨rfl, rfl⟩
      rw [HD.out]
      go_wp2_with fail
      have z := two_put O3.out (.string ⟨#[]⟩) (.string ⟨#[]⟩)
      have z0 := z.c0
      have z1 := z.c1
      refine bodyPost_ret (v := foundP none) (by simp [results, Try.results23, go_sem, z0, z1, foundP]) rfl ⟨by rw [HE.out], ?_⟩
      exact (HB3.out.setCell (p := ⟨w.heap.size, 0, none⟩) (Nat.le_refl _) _).setCell (p := ⟨w.heap.size, 1, none⟩) (Nat.le_refl _) _
  · have HE : Hid (nthP L i = none) := by rw [Hid, nthP, if_neg h0]
    have HD : Hid (decide ((0 : Int) ≤ i ∧ i ≤ (L.length : Int) - 1) = false) := by rw [Hid, decide_eq_false_iff_not]; omega
    clear h0
    go_wp2_with fail
    refine (spec_l1In _ _ _ _).mono ?_
    rintro e w4 ⟨rfl, rfl⟩
    rw [HD.out]
    go_wp2_with fail
    have z := two_put O3.out (.string ⟨#[]⟩) (.string ⟨#[]⟩)
    have z0 := z.c0
    have z1 := z.c1
    refine bodyPost_ret (v := foundP none) (by simp [results, Try.results23, go_sem, z0, z1, foundP]) rfl ⟨by rw [HE.out], ?_⟩
    exact (HB3.out.setCell (p := ⟨w.heap.size, 0, none⟩) (Nat.le_refl _) _).setCell (p := ⟨w.heap.size, 1, none⟩) (Nat.le_refl _) _
end Go.Proofs.Ytaiehccpefjbfab
