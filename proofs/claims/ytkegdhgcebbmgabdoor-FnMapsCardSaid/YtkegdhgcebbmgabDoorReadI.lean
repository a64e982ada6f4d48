/-
  The program's ReadMap, over the shelf's strings.SplitN and strings.Cut.
-/
import Derived.Test.YtkegdhgcebbmgabDoorReadF
import Derived.Test.YtkegdhgcebbmgabDoorMapOkI
import Derived.Test.YtkegdhgcebbmgabDoorRow2
import Derived.Test.YtkegdhgcebbmgabDoorRow3
import Derived.Test.YtkegdhgcebbmgabDoorShelfCut
namespace Go.Proofs.YtkegdhgcebbmgabDoor
open Go.RowKit

/-- The library's MaxLen holds a number. -/
def MaxC (w : World) : Prop := ∃ m : Int, w.cell? ⟨1, 0, none⟩ = some (.int .i64 m)
theorem MaxC.below {w w' : World} (h : MaxC w) (hb : Below w.heap.size w w') : MaxC w' := by
  obtain ⟨m, hm⟩ := h
  exact ⟨m, (hb.cell (p := ⟨1, 0, none⟩) (World.block_lt_of_cell? w _ hm)).trans hm⟩
theorem maxC_of_shape {w : World} (h : w.ShapedOpen Tryd.prog) : MaxC w := Tryd.laysM145.s1_3 w h

theorem cut_any (s : ByteArray) (w : World) (hs : s.size ≤ 1048576) (hm : MaxC w) :
    Calls Tryd.prog 58 #[.string s, .string ⟨#[61]⟩] w fun e w' => e = .returned (.tuple #[.string (wordP s).1, .string (wordP s).2, .bool (hasE s)]) ∧ Drawn w w' := by
  obtain ⟨m, hm⟩ := hm
  refine (Any.strings_Cut { Tryd.laysM145 with } s ⟨#[61]⟩ m w (by omega) hm).mono ?_
  rintro e w' ⟨rfl, hd⟩
  refine ⟨?_, hd⟩
  have hge := Lib.indexByte_ge s.data.toList 61
  by_cases h1 : Lib.indexByte s.data.toList 61 = -1
  · obtain ⟨e1, e2, e3⟩ := Lib.cutB_miss s ⟨#[61]⟩ ((indexB_byte s 61).trans h1)
    rw [e1, e2, e3, wordP, hasE, cutW_none h1]
    rfl
  · obtain ⟨i, hi⟩ : ∃ i : Nat, Lib.indexByte s.data.toList 61 = i := ⟨(Lib.indexByte s.data.toList 61).toNat, by omega⟩
    obtain ⟨e1, e2, e3⟩ := Lib.cutB_hit s ⟨#[61]⟩ i ((indexB_byte s 61).trans hi)
    rw [e1, e2, e3, wordP, hasE, cutW_hit hi]
    rfl

theorem splitN_any (s : ByteArray) (w : World) (hs : s.size ≤ 1048576) (hm : MaxC w) :
    Calls Tryd.prog 33 #[.string s, .string ⟨#[32]⟩, .int .i64 61] w fun e w' => ∃ c, e = .returned (.slice (some ⟨w.heap.size, 0, none⟩) (wordsTo s).length c) ∧ w.heap.size < w'.heap.size ∧ (∀ (j : Nat) (x : ByteArray), (wordsTo s)[j]? = some x → w'.cell? ⟨w.heap.size, j, none⟩ = some (.string x)) ∧ Below w.heap.size w w' := by
  obtain ⟨m, hm⟩ := hm
  refine (Any.strings_SplitN { Tryd.laysM147 with } Tryd.laysM147.i9 s ⟨#[32]⟩ 61 m w (by omega) hm (by show 1 ≤ 1; omega) (by omega) (by omega)).mono ?_
  rintro e w' ⟨rfl, rfl⟩
  refine ⟨_, rfl, by simp, fun j x hx => ?_, (Below.refl _ _).alloc (Nat.le_refl _) _⟩
  have hx' : (Lib.splitB ⟨#[32]⟩ 0 (min 61 (s.size + 1) - 1) s)[j]? = some x := hx
  have hj := (List.getElem?_eq_some_iff.1 hx').1
  rw [World.cell?_alloc_at _ _ _ _ rfl, Lib.cellsOf, List.getElem?_toArray, List.getElem?_append_left (by rw [List.length_map]; exact hj), List.getElem?_map, hx']
  rfl

set_option maxHeartbeats 1000000 in
set_option maxRecDepth 100000 in
theorem pairFrom_any (x : ByteArray) (w : World) (hs : x.size ≤ 1048576) (hm : MaxC w) :
    Calls Tryd.prog 34 #[.string x] w fun e w' => e = .returned (.agg #[.string (wordP x).1, .string (wordP x).2]) ∧ Below w.heap.size w w' := by
  have hb0 : Below w.heap.size w (w.alloc (.cells #[.string ⟨#[]⟩, .string ⟨#[]⟩] 43)) := (Below.refl _ _).alloc (Nat.le_refl _) _
  have hr0 := Row2.lit w 43 (.string ⟨#[]⟩) (.string ⟨#[]⟩)
  have HB0 := hid hb0
  have HR0 := hid hr0
  have HM := hid (hm.below hb0)
  clear hb0 hr0 hm
  go_enter Tryd.func34, Tryd.ntmps34
  go_wp2_with fail
  refine (cut_any x _ hs HM.out).mono ?_
  rintro e w1 ⟨rfl, hd1⟩
  have HB1 := hid (HB0.out.trans (hd1.below w.heap.size))
  have HR1 := hid (HR0.out.below (hd1.below _))
  clear hd1
  have x0 := HR1.out.c0
  have x1 := HR1.out.c1
  have f0 := HR1.out.fz 0
  have f1 := HR1.out.fz 1
  go_wp2_with fail
  refine world_post (S := fun wq => Row2 wq w.heap.size 43 (.string (wordP x).1) (.string (wordP x).2) ∧ Below w.heap.size w wq) _
    ⟨(HR1.out.s0 _).s1 _, (HB1.out.setCell (p := ⟨w.heap.size, 0, none⟩) (Nat.le_refl _) _).setCell (p := ⟨w.heap.size, 1, none⟩) (Nat.le_refl _) _⟩ ?_
  clear x0 x1 f0 f1
  intro wq ⟨hq, hb⟩
  have q0 := hq.c0
  have q1 := hq.c1
  exact bodyPost_ret (v := .agg #[.string (wordP x).1, .string (wordP x).2]) (by simp [results, Tryd.results34, go_sem, q0, q1]) rfl ⟨rfl, hb⟩

set_option maxHeartbeats 2000000 in
set_option maxRecDepth 100000 in
theorem impl_ReadMap (s : ByteArray) (w : World) (hs : s.size ≤ 1048576) (hm : MaxC w) :
    Calls Tryd.prog 12 #[.string s] w (MadeR w (readP s) (readB s)) := by
  have HM := hid hm
  clear hm
  by_cases h0 : s.size = 0
  · obtain rfl : s = ⟨#[]⟩ := by
      apply ext_list
      have : s.data.toList.length = 0 := h0
      exact List.eq_nil_of_length_eq_zero this
    clear h0
    go_enter Tryd.func12, Tryd.ntmps12
    go_wp2_with fail
    go_ret2
    exact ⟨none, 0, rfl, OwnP.nil_ _ _, Below.refl _ _⟩
  · obtain ⟨i0, hi0, hz0, hz1, hz2⟩ := info_parts pairInfo
    have g0 : s.toList.isEmpty = false := some_isEmpty (by omega)
    have HE := hid h0
    have hwl := wordsTo_le s
    have HZ : Hid (∀ x ∈ wordsTo s, x.size ≤ 1048576) := fun x hx => by have := wordsTo_size x hx; omega
    have HF : Hid (Fits (pairsW (wordsTo s))) := pairsW_fits fun x hx => by have := HZ.out x hx; unfold maxLen; omega
    clear h0
    go_enter Tryd.func12, Tryd.ntmps12
    go_wp2_with fail
    refine (splitN_any s _ hs HM.out).mono ?_
    rintro e w1 ⟨c, rfl, hg, hcell, hb1⟩
    have HC := hid hcell
    have HB1 := hid hb1
    clear hcell hb1
    go_wp2_with fail
    go_loopw [4, 12] (fun o i wr => ∃ (k n c' : Nat) (A' : Option Addr), k ≤ (wordsTo s).length ∧ i = .int .i64 (k : Int) ∧ o = .slice A' n c' ∧ Hid (n = (pairsW ((wordsTo s).take k)).length) ∧ Hid (OwnP wr w1.heap.size A' c' (pairsW ((wordsTo s).take k))) ∧ Below w1.heap.size w1 wr) (fun _ i _ => (wordsTo s).length - (intOf i).toNat)
    case atStart => exact ⟨0, 0, 0, none, Nat.zero_le _, rfl, rfl, rfl, OwnP.nil_ _ _, Below.refl _ _⟩
    case round =>
      obtain ⟨k, n, c', A', hk, rfl, rfl, HN, HO, hbw⟩ := hrel
      have HD := hid hbw
      have hbs := hbw.size
      by_cases hlt : k < (wordsTo s).length
      · have hc1 := (hbw.cell (p := ⟨w.heap.size, k, none⟩) hg).trans (HC.out k _ (List.getElem?_eq_getElem hlt))
        clear hbw
        have hz := HZ.out _ (List.getElem_mem hlt)
        have HPS := hid (pairsW_succ hlt)
        have HL : Hid ((pairsW ((wordsTo s).take k)).length ≤ 61) := by
          rw [Hid, pairsW_len, List.length_take]
          omega
        have e5 : (0 : Int) ≤ (k : Int) := by omega
        have e6 : (k : Int) < ((wordsTo s).length : Int) := by omega
        go_wp2_with fail
        refine (pairFrom_any _ _ hz (HM.out.below (HB1.out.trans (HD.out.mono HB1.out.size)))).mono ?_
        rintro e w2 ⟨rfl, hb2⟩
        have HB2 := hid hb2
        have hs2 := hb2.size
        clear hb2 hc1
        go_wp2_with (at_builtin; refine wpList_append_rp _ rfl _ _ _ rfl i0 Tryd.underlying24 hi0 hz0 hz1 hz2 w1.heap.size A' n c' (pairsW ((wordsTo s).take k)) rfl HN.out ((HO.out.below HB2.out).below ((Below.refl _ _).alloc (Nat.le_refl _) _)) _ _ _ _ [wordP (wordsTo s)[k]] rfl rfl (RP.new _ (wordP (wordsTo s)[k]) _) (by have := HL.out; simp; omega) (by simp; omega) ?_; intro A2 n2 c2 w3 hn2 hown2 hbw2; have HN2 := hid hn2; have HO2 := hid hown2; have HB3 := hid hbw2; clear hn2 hown2 hbw2)
        go_roundw
        case rel => exact ⟨k + 1, n2, c2, A2, by omega, by go_num, rfl, by rw [HPS.out]; exact HN2.out, by rw [HPS.out]; exact HO2.out, ((HD.out.trans (HB2.out.mono hbs)).alloc (by omega) _).trans HB3.out⟩
        case measure => simp [intOf]; omega
      · obtain rfl : k = (wordsTo s).length := by omega
        rw [List.take_length] at HN HO
        obtain rfl := HN.out
        have hpl : (pairsW (wordsTo s)).length ≤ maxLen := by rw [pairsW_len]; unfold maxLen; omega
        have HPL := hid hpl
        clear hbw hpl HN
        cases hmb : mapB (pairsW (wordsTo s))
        · have HR : Hid (readB s = false) := (read_map HE.out).trans hmb
          have HP := hid (read_none HE.out hmb)
          go_wp2_with fail
          refine (impl_MapOk A' c' (pairsW (wordsTo s)) _ HO.out.rp HF.out HPL.out).mono ?_
          rintro e w4 ⟨rfl, hb4⟩
          have HB4 := hid hb4
          clear hb4
          rw [hmb]
          clear hmb
          go_wp2_with fail
          go_ret2
          exact MadeR.no HP.out HR.out (HB1.out.trans ((HD.out.trans (HB4.out.mono HD.out.size)).mono HB1.out.size))
        · have HR : Hid (readB s = true) := (read_map HE.out).trans hmb
          have HP := hid (read_pairs HE.out hmb)
          go_wp2_with fail
          refine (impl_MapOk A' c' (pairsW (wordsTo s)) _ HO.out.rp HF.out HPL.out).mono ?_
          rintro e w4 ⟨rfl, hb4⟩
          have HB4 := hid hb4
          clear hb4
          rw [hmb]
          clear hmb
          go_wp2_with fail
          go_ret2
          exact MadeR.yes HP.out rfl HR.out ((HO.out.below HB4.out).mono' HB1.out.size) (HB1.out.trans ((HD.out.trans (HB4.out.mono HD.out.size)).mono HB1.out.size))
end Go.Proofs.YtkegdhgcebbmgabDoor
