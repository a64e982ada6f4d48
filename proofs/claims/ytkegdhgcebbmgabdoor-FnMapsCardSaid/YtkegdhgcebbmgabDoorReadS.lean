/-
  ReadMap: plain facts, and the model's.
-/
import Derived.Test.YtkegdhgcebbmgabDoorWords
import Derived.Test.YtkegdhgcebbmgabDoorAppend
import Derived.Test.YtkegdhgcebbmgabDoorToPair
import Derived.Test.YtkegdhgcebbmgabDoorDec
import Derived.Test.YtkegdhgcebbmgabDoorOwnMore
namespace Go.Proofs.YtkegdhgcebbmgabDoor
open Go.RowKit

def wordP (x : ByteArray) : BB := ((cutW x 61).1, (cutW x 61).2.1)
def hasE (x : ByteArray) : Bool := (cutW x 61).2.2
def pairsW (ws : List ByteArray) : PS := ws.map wordP
theorem pairsW_len (ws : List ByteArray) : (pairsW ws).length = ws.length := by simp [pairsW]
theorem pairsW_succ {ws : List ByteArray} {k : Nat} (h : k < ws.length) : pairsW (ws.take (k + 1)) = pairsW (ws.take k) ++ [wordP ws[k]] := by
  rw [pairsW, List.take_succ_eq_append_getElem h, List.map_append]
  rfl
theorem allE_succ {ws : List ByteArray} {k : Nat} (h : k < ws.length) (ha : (ws.take k).all hasE = true) (he : hasE ws[k] = true) : (ws.take (k + 1)).all hasE = true := by
  rw [List.take_succ_eq_append_getElem h, List.all_append, ha]
  simp [he]
theorem allE_no {ws : List ByteArray} {k : Nat} (h : k < ws.length) (he : hasE ws[k] = false) : ws.all hasE = false := by
  rw [Bool.eq_false_iff]
  intro h'
  have := List.all_eq_true.1 h' ws[k] (List.getElem_mem h)
  rw [he] at this
  cases this
theorem cutW_size (s : ByteArray) (c : UInt8) : (cutW s c).1.size ≤ s.size ∧ (cutW s c).2.1.size ≤ s.size := by
  unfold cutW
  split
  · simp only [ByteArray.size_extract]
    omega
  · exact ⟨Nat.le_refl _, Nat.zero_le _⟩
theorem splitB_sizes (sep : ByteArray) (B : Nat) : ∀ (k : Nat) (s : ByteArray), s.size ≤ B → ∀ x ∈ Lib.splitB sep 0 k s, x.size ≤ B
  | 0, s, h, x, hx => by
    rw [Lib.splitB_zero, List.mem_singleton] at hx
    subst hx
    exact h
  | k + 1, s, h, x, hx => by
    rcases Lib.indexB_cases s sep with h1 | ⟨i, h1, h2⟩
    · rw [Lib.splitB_miss _ _ _ _ h1, List.mem_singleton] at hx
      subst hx
      exact h
    · rw [Lib.splitB_hit _ _ _ _ _ h1] at hx
      rcases List.mem_cons.1 hx with rfl | hx
      · simp only [ByteArray.size_extract]
        omega
      · exact splitB_sizes sep B k _ (by simp only [ByteArray.size_extract]; omega) x hx
theorem splitB_count (sep : ByteArray) : ∀ (k : Nat) (s : ByteArray), 1 ≤ sep.size → (Lib.splitB sep 0 k s).length ≤ s.size + 1
  | 0, s, _ => by simp [Lib.splitB_zero]
  | k + 1, s, h => by
    rcases Lib.indexB_cases s sep with h1 | ⟨i, h1, h2⟩
    · rw [Lib.splitB_miss _ _ _ _ h1]
      simp
    · rw [Lib.splitB_hit _ _ _ _ _ h1, List.length_cons]
      have := splitB_count sep k (s.extract (i + sep.size) s.size) h
      simp only [ByteArray.size_extract] at this
      omega
theorem words_size {s : ByteArray} : ∀ x ∈ wordsOf s, x.size ≤ s.size := splitB_sizes _ _ _ _ (Nat.le_refl _)
theorem words_count (s : ByteArray) : (wordsOf s).length ≤ s.size + 1 := splitB_count _ _ _ (by show 1 ≤ 1; omega)
theorem pairsW_fits {ws : List ByteArray} (h : ∀ x ∈ ws, x.size ≤ maxLen) : Fits (pairsW ws) := by
  intro p hp
  obtain ⟨x, hx, rfl⟩ := List.mem_map.1 hp
  have h1 := h x hx
  have h2 := cutW_size x 61
  exact ⟨Nat.le_trans h2.1 h1, Nat.le_trans h2.2 h1⟩

/-- What ReadMap says of a text. -/
def readB (s : ByteArray) : Bool := if s.size = 0 then true else (wordsOf s).all hasE && decide (mapT (pairsW (wordsOf s)) = s)
def readP (s : ByteArray) : PS := if s.size = 0 then [] else if readB s then pairsW (wordsOf s) else []
def readL (ws : List ByteArray) : PS := if ws.all hasE then pairsW ws else []
theorem readL_no {ws : List ByteArray} (h : ws.all hasE = false) : readL ws = [] := by simp [readL, h]
theorem readL_yes {ws : List ByteArray} (h : ws.all hasE = true) : readL ws = pairsW ws := by simp [readL, h]
/-- Pairs of the call's own, and a bool. -/
def MadeR (w : World) (L : PS) (b : Bool) (e : Ending) (w' : World) : Prop := ∃ A c, e = .returned (.tuple #[.slice A L.length c, .bool b]) ∧ OwnP w' w.heap.size A c L ∧ Below w.heap.size w w'
theorem MadeR.no {w w' : World} {L : PS} {b : Bool} (hL : L = []) (hb : b = false) (h : Below w.heap.size w w') : MadeR w L b (.returned (.tuple #[.slice none 0 0, .bool false])) w' := by
  subst hL hb
  exact ⟨none, 0, rfl, OwnP.nil_ _ _, h⟩
theorem MadeR.yes {w w' : World} {L L' : PS} {n : Nat} {b : Bool} {A : Option Addr} {c : Nat} (hL : L = L') (hn : n = L'.length) (hb : b = true) (ho : OwnP w' w.heap.size A c L') (h : Below w.heap.size w w') : MadeR w L b (.returned (.tuple #[.slice A n c, .bool true])) w' := by
  subst hL hb hn
  exact ⟨A, c, rfl, ho, h⟩

set_option maxHeartbeats 2000000 in
set_option maxRecDepth 100000 in
theorem spec_l1Read (g c : Nat) (ws : List ByteArray) (w : World) (hx : ∀ (j : Nat) (x : ByteArray), ws[j]? = some x → w.cell? ⟨g, j, none⟩ = some (.string x)) (hg : g < w.heap.size) (hl : ws.length ≤ 1048577) (hz : ∀ x ∈ ws, x.size ≤ maxLen) :
    Calls Tryd.prog 45 #[.slice (some ⟨g, 0, none⟩) ws.length c] w (MadeR w (readL ws) (ws.all hasE)) := by
  obtain ⟨i0, hi0, hz0, hz1, hz2⟩ := info_parts pairInfo
  have HX := hid hx
  have HZ := hid hz
  have hb0 : Below w.heap.size w (w.alloc (.cells #[] 43)) := (Below.refl _ _).alloc (Nat.le_refl _) _
  have HB0 := hid hb0
  have HO0 : Hid (OwnP (w.alloc (.cells #[] 43)) w.heap.size (some ⟨w.heap.size, 0, none⟩) 0 []) := OwnP.made (Nat.le_refl _) #[] 0 rfl (by unfold maxLen; omega)
  clear hx hz hb0
  go_enter Tryd.func45, Tryd.ntmps45
  go_wp2_with fail
  go_loopw [4, 5] (fun o i wr => ∃ (k n c' : Nat) (A' : Option Addr), k ≤ ws.length ∧ i = .int .i64 (k : Int) ∧ o = .slice A' n c' ∧ Hid (n = (pairsW (ws.take k)).length) ∧ Hid (OwnP wr w.heap.size A' c' (pairsW (ws.take k))) ∧ Hid ((ws.take k).all hasE = true) ∧ Below w.heap.size w wr) (fun _ i _ => ws.length - (intOf i).toNat)
  case atStart => exact ⟨0, 0, 0, _, Nat.zero_le _, rfl, rfl, rfl, HO0.out, rfl, HB0.out⟩
  case round =>
    obtain ⟨k, n, c', A', hk, rfl, rfl, HN, HO, HA, hbw⟩ := hrel
    by_cases hlt : k < ws.length
    · have hc1 := (hbw.cell (p := ⟨g, k, none⟩) hg).trans (HX.out k ws[k] (List.getElem?_eq_getElem hlt))
      have hc : Calls Tryd.prog 63 #[.string ws[k], .int .u8 61] wr fun e w' => e = .returned (.tuple #[.string (wordP ws[k]).1, .string (wordP ws[k]).2, .bool (hasE ws[k])]) ∧ Drawn wr w' := spec_l1Cut ws[k] 61 61 wr rfl (HZ.out _ (List.getElem_mem hlt))
      have HD := hid hbw
      have hbs := hbw.size
      clear hbw
      have e5 : (0 : Int) ≤ (k : Int) := by omega
      have e6 : (k : Int) < (ws.length : Int) := by omega
      have HL : Hid ((pairsW (ws.take k)).length ≤ 1048577) := by
        rw [Hid, pairsW_len, List.length_take]
        omega
      cases he : hasE ws[k]
      · rw [he] at hc
        have HC := hid hc
        have HNO := hid (allE_no hlt he)
        clear hc he
        go_wp2_with fail
        refine HC.out.mono ?_
        rintro e w1 ⟨rfl, hd1⟩
        have HB1 := hid (hd1.below w.heap.size)
        clear hd1
        go_wp2_with fail
        go_ret2
        exact MadeR.no (readL_no HNO.out) HNO.out (HD.out.trans HB1.out)
      · rw [he] at hc
        have HC := hid hc
        have HY := hid (allE_succ hlt HA.out he)
        have HPS := hid (pairsW_succ hlt)
        clear hc he
        go_wp2_with fail
        refine HC.out.mono ?_
        rintro e w1 ⟨rfl, hd1⟩
        have HB1 := hid (hd1.below w.heap.size)
        have HB2 := hid (hd1.below wr.heap.size)
        have hs1 := HB1.out.size
        have hs2 := HB2.out.size
        clear hd1
        go_wp2_with (at_builtin; refine wpList_append_rp _ rfl _ _ _ rfl i0 Tryd.underlying24 hi0 hz0 hz1 hz2 w.heap.size A' n c' (pairsW (ws.take k)) rfl HN.out ((HO.out.below HB2.out).below ((Below.refl _ _).alloc (Nat.le_refl _) _)) _ _ _ _ [wordP ws[k]] rfl rfl (RP.new _ (wordP ws[k]) _) (by have := HL.out; simp; omega) (by simp; omega) ?_; intro A2 n2 c2 w2 hn2 hown2 hbw2; have HN2 := hid hn2; have HO2 := hid hown2; have HB3 := hid hbw2; clear hn2 hown2 hbw2)
        go_roundw
        case rel => exact ⟨k + 1, n2, c2, A2, by omega, by go_num, rfl, by rw [HPS.out]; exact HN2.out, by rw [HPS.out]; exact HO2.out, HY.out, ((HD.out.trans HB1.out).alloc (by omega) _).trans HB3.out⟩
        case measure => simp [intOf]; omega
    · obtain rfl : k = ws.length := by omega
      rw [List.take_length] at HN HO HA
      have HD := hid hbw
      clear hbw
      go_wp2_with fail
      go_ret2
      exact MadeR.yes (readL_yes HA.out) HN.out HA.out HO.out HD.out

set_option maxHeartbeats 2000000 in
set_option maxRecDepth 100000 in
theorem spec_ReadMap (s : ByteArray) (w : World) (hs : s.size ≤ 1048576) :
    Calls Tryd.prog 21 #[.string s] w (MadeR w (readP s) (readB s)) := by
  by_cases h0 : s.size = 0
  · obtain rfl : s = ⟨#[]⟩ := by
      apply ext_list
      have : s.data.toList.length = 0 := h0
      exact List.eq_nil_of_length_eq_zero this
    have HO0 : Hid (OwnP (w.alloc (.cells #[] 43)) w.heap.size (some ⟨w.heap.size, 0, none⟩) 0 []) := OwnP.made (Nat.le_refl _) #[] 0 rfl (by unfold maxLen; omega)
    clear h0
    go_enter Tryd.func21, Tryd.ntmps21
    go_wp2_with fail
    go_ret2
    exact MadeR.yes (by rfl) rfl (by rfl) HO0.out ((Below.refl _ _).alloc (Nat.le_refl _) _)
  · have g0 : s.toList.isEmpty = false := some_isEmpty (by omega)
    have hcnt := words_count s
    have HZ : Hid (∀ x ∈ wordsOf s, x.size ≤ maxLen) := fun x hx => by have := words_size x hx; unfold maxLen; omega
    have HF := hid (pairsW_fits HZ.out)
    have HRB : Hid (readB s = ((wordsOf s).all hasE && decide (mapT (pairsW (wordsOf s)) = s))) := by rw [Hid, readB, if_neg h0]
    have HRP : Hid (readP s = if readB s then pairsW (wordsOf s) else []) := by rw [Hid, readP, if_neg h0]
    go_enter Tryd.func21, Tryd.ntmps21
    go_wp2_with fail
    refine (spec_l1Words s _ hs).mono ?_
    rintro e w1 ⟨g, c, rfl, ho, hb1⟩
    have HB1 := hid hb1
    have HCE : Hid (∀ (j : Nat) (x : ByteArray), (wordsOf s)[j]? = some x → w1.cell? ⟨g, j, none⟩ = some (.string x)) := fun j x hx => by
      have hj := (List.getElem?_eq_some_iff.1 hx).1
      exact (ho.cellAt j (by omega)).trans (by rw [wcells, List.getElem?_map, hx]; rfl)
    have hg := (World.ownsRow.lt ho g rfl).2
    clear ho hb1
    have hrd := spec_l1Read g c (wordsOf s) w1 HCE.out hg (by omega) HZ.out
    cases ha : (wordsOf s).all hasE
    · rw [ha, readL_no ha] at hrd
      have HRD := hid hrd
      clear hrd
      have HN : Hid (readB s = false) := by rw [Hid, HRB.out, ha]; rfl
      clear ha
      go_wp2_with fail
      refine HRD.out.mono ?_
      rintro e w2 ⟨A2, c2, rfl, ho2, hb2⟩
      have HB2 := hid (HB1.out.trans (hb2.mono HB1.out.size))
      clear ho2 hb2
      go_wp2_with fail
      go_ret2
      exact MadeR.no (by rw [HRP.out, HN.out]; rfl) HN.out HB2.out
    · rw [ha, readL_yes ha] at hrd
      have HRD := hid hrd
      clear hrd
      have HRB2 : Hid (readB s = decide (mapT (pairsW (wordsOf s)) = s)) := by rw [Hid, HRB.out, ha]; rfl
      clear ha
      go_wp2_with fail
      refine HRD.out.mono ?_
      rintro e w2 ⟨A2, c2, rfl, ho2, hb2⟩
      have HB2 := hid (HB1.out.trans (hb2.mono HB1.out.size))
      have HO2 : Hid (OwnP w2 w1.heap.size A2 c2 (pairsW (wordsOf s))) := ho2
      have hpl : (pairsW (wordsOf s)).length ≤ maxLen := by rw [pairsW_len]; unfold maxLen; omega
      have HPL := hid hpl
      clear ho2 hb2 hpl
      by_cases hm : mapT (pairsW (wordsOf s)) = s
      · have g1 := eqS_true hm
        have HY : Hid (readB s = true) := by rw [Hid, HRB2.out]; simp [hm]
        clear hm
        go_wp2_with fail
        refine (spec_MapText A2 c2 (pairsW (wordsOf s)) _ _ HO2.out.rp HF.out HPL.out).mono ?_
        rintro e w3 ⟨rfl, hd3⟩
        have HB3 := hid (hd3.below w2.heap.size)
        clear hd3
        go_wp2_with fail
        go_ret2
        exact MadeR.yes (by rw [HRP.out, HY.out]; rfl) rfl HY.out ((HO2.out.below HB3.out).mono' HB1.out.size) (HB2.out.trans (HB3.out.mono HB2.out.size))
      · have g1 := eqS_false hm
        have HN : Hid (readB s = false) := by rw [Hid, HRB2.out]; simp [hm]
        clear hm
        go_wp2_with fail
        refine (spec_MapText A2 c2 (pairsW (wordsOf s)) _ _ HO2.out.rp HF.out HPL.out).mono ?_
        rintro e w3 ⟨rfl, hd3⟩
        have HB3 := hid (hd3.below w2.heap.size)
        clear hd3
        go_wp2_with fail
        go_ret2
        exact MadeR.no (by rw [HRP.out, HN.out]; rfl) HN.out (HB2.out.trans (HB3.out.mono HB2.out.size))
end Go.Proofs.YtkegdhgcebbmgabDoor
