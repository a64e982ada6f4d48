/-
  The program's MapText, over the shelf's strings.Join.
-/
import Derived.Test.YtkegdhgcebbmgabDoorMapText
namespace Go.Proofs.YtkegdhgcebbmgabDoor
open Go.RowKit

theorem stringInfo : (Tryd.prog.info? 9).map (fun i => (i.zero, i.size, i.bytes)) = some (some (.string ⟨#[]⟩), 1, 16) := by kernel_rfl

/-- A row of words, filled up to k. -/
def FilledS (wr : World) (g : Nat) (ws : List ByteArray) (k : Nat) : Prop :=
  ∃ xs, wr.ownsRow g 9 1 (.slice (some ⟨g, 0, none⟩) ws.length ws.length) ws.length xs ∧ ∀ (i : Nat) (s : ByteArray), ws[i]? = some s → i < k → xs[i]? = some (.string s)
theorem FilledS.cell {wr : World} {g : Nat} {ws : List ByteArray} {k : Nat} (h : FilledS wr g ws k) (hk : k < ws.length) : ∃ u, wr.cell? ⟨g, k, none⟩ = some u := by
  obtain ⟨xs, ho, hx⟩ := h
  have hl := ho.1
  exact ⟨_, (ho.cellAt k (by omega)).trans (List.getElem?_eq_getElem (by omega))⟩
theorem FilledS.frozen {wr : World} {g : Nat} {ws : List ByteArray} {k : Nat} (h : FilledS wr g ws k) (j : Nat) : wr.frozen? ⟨g, j, none⟩ = false := by
  obtain ⟨xs, ho, hx⟩ := h
  exact ho.frozenAt j
theorem FilledS.grown {wr w' : World} {g : Nat} {ws : List ByteArray} {k : Nat} (h : FilledS wr g ws k) (hb : Below wr.heap.size wr w') : FilledS w' g ws k := by
  obtain ⟨xs, ho, hx⟩ := h
  exact ⟨xs, ho.kept (below_grown hb) (.inr (by simp [Value.ownBlock])), hx⟩
theorem FilledS.store {wr : World} {g : Nat} {ws : List ByteArray} {k : Nat} (h : FilledS wr g ws k) (hk : k < ws.length) : FilledS (wr.setCell ⟨g, k, none⟩ (.string ws[k])) g ws (k + 1) := by
  obtain ⟨xs, ho, hx⟩ := h
  have hl := ho.1
  refine ⟨_, (ho.stored k (.string ws[k])).1, fun i s hs hi => ?_⟩
  by_cases e : i = k
  · subst e
    have : ws[i] = s := by rw [List.getElem?_eq_getElem hk] at hs; exact Option.some.inj hs
    rw [this, List.getElem?_set_self (by omega)]
  · rw [List.getElem?_set_ne (by omega)]
    exact hx i s hs (by omega)
theorem FilledS.cells {wr : World} {g : Nat} {ws : List ByteArray} (h : FilledS wr g ws ws.length) : g < wr.heap.size ∧ ∀ (j : Nat) (s : ByteArray), ws[j]? = some s → wr.cell? ⟨g, 0 + j, none⟩ = some (.string s) := by
  obtain ⟨xs, ho, hx⟩ := h
  refine ⟨(ho.lt g rfl).2, fun j s hs => ?_⟩
  have h1 := hx j s hs (List.getElem?_eq_some_iff.1 hs).1
  have h2 := ho.cells (g := g) rfl j _ h1
  rwa [Addr.add_lit] at h2

def wordsB (ps : PS) : List ByteArray := ps.map wB
theorem wordsB_len (ps : PS) : (wordsB ps).length = ps.length := by simp [wordsB]
theorem wordsB_at {ps : PS} {k : Nat} (h : k < ps.length) : (wordsB ps)[k]'(by rw [wordsB_len]; exact h) = ps[k].1 ++ ⟨#[61]⟩ ++ ps[k].2 := by simp [wordsB, wB]

/-- What strings.Join does: proved on the shelf, at any program. -/
def JoinSaid : Prop := ∀ (bk o c : Nat) (xs : List ByteArray) (sep : ByteArray) (w : World), (∀ (j : Nat) (x : ByteArray), xs[j]? = some x → w.cell? ⟨bk, o + j, none⟩ = some (.string x)) → bk < w.heap.size → xs.length ≤ 140737488355328 → xs.length ≤ c →
  (Lib.join (xs.map (·.data.toList)) sep.data.toList).length ≤ 140737488355328 →
  Calls Tryd.prog 52 #[.slice (some ⟨bk, o, none⟩) xs.length c, .string sep] w fun e w' => e = .returned (.string ⟨(Lib.join (xs.map (·.data.toList)) sep.data.toList).toArray⟩) ∧ Below w.heap.size w w'

theorem wordsB_list (ps : PS) : (wordsB ps).map (·.data.toList) = wordsL ps := by simp [wordsB, wordsL]

theorem allocs2 (v : World) (o o' : Obj) : Below v.heap.size v ((v.alloc o).alloc o') := ((Below.refl _ _).alloc (Nat.le_refl _) o).alloc (by simp) o'

theorem pairText_any (p : BB) (w : World) (h1 : p.1.size ≤ 6) (h2 : p.2.size ≤ 6) :
    Calls Tryd.prog 25 #[.agg #[.string p.1, .string p.2]] w fun e w' => e = .returned (.string (p.1 ++ ⟨#[61]⟩ ++ p.2)) ∧ w' = w.alloc (.cells #[.string p.1, .string p.2] 43) := by
  go_enter Tryd.func25, Tryd.ntmps25
  go_wp2_with fail
  go_ret
  exact ⟨rfl, rfl⟩

set_option maxHeartbeats 2000000 in
theorem impl_pairsText (HJ : JoinSaid) (A : Option Addr) (c : Nat) (ps : PS) (w : World) (hr : RP w w.heap.size A ps) (hp : ∀ p ∈ ps, pairB p = true) (hl : ps.length ≤ 60) :
    Calls Tryd.prog 32 #[.slice A ps.length c] w fun e w' => e = .returned (.string (textB ps)) ∧ Below w.heap.size w w' := by
  have HR := hid hr
  have HP := hid hp
  clear hr hp
  obtain ⟨i0, hi, hz0, hz1, hz2⟩ := info_parts stringInfo
  go_enter Tryd.func32, Tryd.ntmps32
  go_wp2_with (at_make; refine wpList_make_full _ rfl _ _ 41 rfl _ 9 i0 _ 1 Tryd.underlying41 hi hz0 hz1 _ _ _ _ ps.length rfl rfl rfl rfl (by rw [hz2]; omega) (by unfold maxLen; omega) (Nat.le_refl _) ?_; intro w1 hown1 hg1; have HO := hid hown1; have HB := hid (((Below.refl _ _).grown hg1 (Nat.le_refl _) (by simp)) : Below w.heap.size w w1); clear hown1 hg1)
  go_loopw [11] (fun i wr => ∃ k : Nat, k ≤ ps.length ∧ i = .int .i64 k ∧ FilledS wr w.heap.size (wordsB ps) k ∧ Below w.heap.size w wr) (fun i _ => ps.length - (intOf i).toNat)
  case atStart => exact ⟨0, Nat.zero_le _, rfl, ⟨_, by rw [wordsB_len]; exact HO.out, fun i s _ h => absurd h (by omega)⟩, HB.out⟩
  case round =>
    obtain ⟨k, hk, rfl, hfl, hbw⟩ := hrel
    by_cases hlt : k < ps.length
    · obtain ⟨b, off, rfl, hb, hc1, hc2⟩ := (HR.out.below hbw).at_ hlt
      have hq := HP.out ps[k] (List.getElem_mem hlt)
      simp only [pairB, Bool.and_eq_true] at hq
      have hy1 := keyB_small hq.1
      have hy2 := keyB_small hq.2
      have HF2 := hid hfl
      have HD := hid hbw
      have hlt0 : w.heap.size < wr.heap.size := by
        obtain ⟨xs, ho, _⟩ := hfl
        exact (ho.lt _ rfl).2
      clear hfl hbw hq
      go_wp2_with (go_at_call 25; refine (pairText_any ps[k] _ hy1 hy2).mono ?_; rintro e w' ⟨rfl, rfl⟩; have hf2 := HF2.out.grown (allocs2 wr (.cells #[.string ps[k].1, .string ps[k].2] 43) (.cells #[.string ps[k].1, .string ps[k].2] 43)); have f1 := hf2.frozen k; obtain ⟨u, hu⟩ := hf2.cell (k := k) (by rw [wordsB_len]; exact hlt); clear hf2)
      have hst := HF2.out.store (by rw [wordsB_len]; exact hlt)
      rw [wordsB_at hlt] at hst
      refine ⟨⟨k + 1, by omega, by go_num, hst.grown (allocs2 _ _ _), (HD.out.setCell (p := ⟨w.heap.size, k, none⟩) (Nat.le_refl _) _).trans ((allocs2 _ _ _).mono (by have := HD.out.size; simpa using this))⟩, by simp [intOf]; omega⟩
    · obtain rfl : k = ps.length := by omega
      have hc := (by rw [wordsB_len]; exact hfl : FilledS wr w.heap.size (wordsB ps) (wordsB ps).length).cells
      have hj := HJ w.heap.size 0 ps.length (wordsB ps) ⟨#[32]⟩ wr hc.2 hc.1 (by rw [wordsB_len]; omega) (by rw [wordsB_len]; omega) (by
        rw [wordsB_list]
        show (Lib.join (wordsL ps) [32]).length ≤ _
        have := join_len ps HP.out
        omega)
      rw [wordsB_list, wordsB_len] at hj
      have HJ2 := hid hj
      have HD := hid hbw
      clear hj hc hfl hbw
      go_wp2_with (go_at_call 52; refine HJ2.out.mono ?_; rintro e w9 ⟨rfl, hw9⟩)
      go_ret
      exact ⟨rfl, HD.out.trans (hw9.mono HD.out.size)⟩

set_option maxHeartbeats 2000000 in
theorem impl_MapText (HJ : JoinSaid) (A : Option Addr) (c : Nat) (ps : PS) (w : World) (hr : RP w w.heap.size A ps) (hf : Fits ps) (hn : ps.length ≤ maxLen) :
    Calls Tryd.prog 11 #[.slice A ps.length c] w fun e w' => e = .returned (.string (mapT ps)) ∧ Below w.heap.size w w' := by
  have HR := hid hr
  have HF := hid hf
  have HN := hid hn
  clear hr hf hn
  cases hm : mapB ps
  · have HG : Hid (mapT ps = ⟨#[]⟩) := by simp [Hid, mapT, hm]
    go_enter Tryd.func11, Tryd.ntmps11
    go_wp2_with (go_at_call 17; refine (impl_MapOk A c ps _ HR.out HF.out HN.out).mono ?_; rintro e w' ⟨rfl, hw⟩)
    go_ret
    exact ⟨ret_str HG.out.symm, hw⟩
  · have HG : Hid (mapT ps = textB ps) := by simp [Hid, mapT, hm]
    have HP := hid (mapB_iff.1 hm).2.1
    have hl := (mapB_iff.1 hm).1
    go_enter Tryd.func11, Tryd.ntmps11
    go_wp2_with (first
      | (go_at_call 17; refine (impl_MapOk A c ps _ HR.out HF.out HN.out).mono ?_; rintro e w0 ⟨rfl, hw⟩)
      | (go_at_call 32; refine (impl_pairsText HJ A c ps _ ((HR.out.below hw).more hw.size) HP.out hl).mono ?_; rintro e w9 ⟨rfl, hw9⟩))
    go_ret
    exact ⟨ret_str HG.out.symm, hw.trans (hw9.mono hw.size)⟩
end Go.Proofs.YtkegdhgcebbmgabDoor
