import Derived.Test.YtcjbjfhndjpmcaaPk18
import Derived.Lib.SliceRun
import Derived.Test.YtcjbjfhndjpmcaaPk04
import Derived.Test.YtcjbjfhndjpmcaaPk06
import Derived.Test.YtcjbjfhndjpmcaaPk14
import Derived.Maps.AppendAt
/-
  Put, Drop, Range of both: contracts.
-/
namespace Go.Proofs.Ytcjbjfhndjpmcaa
open Go.RowKit

theorem without_yes (A : Option Addr) (c : Nat) (ps : PS) (k : ByteArray) (w : World) (hr : RP w w.heap.size A ps) (hvs : VS A c ps.length) (hn : ps.length ≤ 900) (hs : risesB ps = true) (hh : hasK ps k = true) :
    Calls Try.prog 94 #[.slice A ps.length c, .string k] w (Made2 w (dropL ps k) true) := by
  have h := without_any A c ps k w hr hvs hn hs
  rw [hh, if_pos rfl] at h
  exact h
theorem without_no (A : Option Addr) (c : Nat) (ps : PS) (k : ByteArray) (w : World) (hr : RP w w.heap.size A ps) (hvs : VS A c ps.length) (hn : ps.length ≤ 900) (hs : risesB ps = true) (hh : hasK ps k = false) :
    Calls Try.prog 94 #[.slice A ps.length c, .string k] w (Made2 w [] false) := by
  have h := without_any A c ps k w hr hvs hn hs
  rw [hh, if_neg (by simp)] at h
  exact h
theorem Made2.yes {w w' : World} {L L' : PS} {b : Bool} {A : Option Addr} {c : Nat} (hL : L = L') (hb : b = true) (ho : OwnP w' w.heap.size A c L') (h : Below w.heap.size w w') : Made2 w L b (.returned (.tuple #[.slice A L'.length c, .bool true])) w' := by
  subst hL hb
  exact ⟨A, c, rfl, ho, h⟩
theorem Fits.put {ps : PS} (h : Fits ps) {k v : ByteArray} (hk : k.size ≤ maxLen) (hv : v.size ≤ maxLen) : Fits (putL ps k v) := by
  intro p hp
  rcases putL_mem hp with h' | rfl
  · exact h p h'
  · exact ⟨hk, hv⟩
theorem putB_yes {ps : PS} {k v : ByteArray} (h1 : mapB ps = true) (h2 : keyB k = true) (h3 : keyB v = true) (h4 : (putL ps k v).length ≤ 60) : putB ps k v = true := by simp [putB, h1, h2, h3, h4]
theorem putR_yes {ps : PS} {k v : ByteArray} (h : putB ps k v = true) : putR ps k v = putL ps k v := by simp [putR, h]
theorem putR_no {ps : PS} {k v : ByteArray} (h : putB ps k v = false) : putR ps k v = [] := by simp [putR, h]

set_option maxHeartbeats 2000000 in
theorem spec_Put (A : Option Addr) (c : Nat) (ps : PS) (k v : ByteArray) (w : World) (hr : RP w w.heap.size A ps) (hf : Fits ps) (hn : ps.length ≤ 1048576) (hk : k.size ≤ maxLen) (hv : v.size ≤ maxLen) :
    Calls Try.prog 125 #[.slice A ps.length c, .string k, .string v] w (Made2 w (putR ps k v) (putB ps k v)) := by
  have hml : ps.length ≤ maxLen := by unfold maxLen; omega
  have HR := hid hr
  have HF := hid hf
  have HM := hid hml
  clear hr hf hml
  cases h1 : mapB ps
  · have HB : Hid (putB ps k v = false) := by simp [Hid, putB, h1]
    go_enter Try.func125, Try.ntmps125
    go_wp2_with (go_at_call 56; refine (spec_MapOk A c ps _ _ HR.out HF.out HM.out).mono ?_; rintro e w2 ⟨rfl, hw2⟩)
    go_ret2
    exact Made2.no (putR_no HB.out) HB.out (hw2.below _)
  cases h2 : keyB k
  · have HB : Hid (putB ps k v = false) := by simp [Hid, putB, h2]
    go_enter Try.func125, Try.ntmps125
    go_wp2_with (first
      | (go_at_call 56; refine (spec_MapOk A c ps _ _ HR.out HF.out HM.out).mono ?_; rintro e w2 ⟨rfl, hw2⟩)
      | (go_at_call 71; (with_reducible refine (spec_KeyOk k _ hk).mono ?_); rintro e w3 ⟨rfl, rfl⟩))
    go_ret2
    exact Made2.no (putR_no HB.out) HB.out (hw2.below _)
  cases h3 : keyB v
  · have HB : Hid (putB ps k v = false) := by simp [Hid, putB, h3]
    go_enter Try.func125, Try.ntmps125
    go_wp2_with (first
      | (go_at_call 56; refine (spec_MapOk A c ps _ _ HR.out HF.out HM.out).mono ?_; rintro e w2 ⟨rfl, hw2⟩)
      | (go_at_call 71; (with_reducible refine (spec_KeyOk k _ hk).mono ?_); rintro e w3 ⟨rfl, rfl⟩)
      | (go_at_call 71; (with_reducible refine (spec_KeyOk v _ hv).mono ?_); rintro e w3 ⟨rfl, rfl⟩))
    go_ret2
    exact Made2.no (putR_no HB.out) HB.out (hw2.below _)
  have HPM := hid (putL_map h1 h2 h3)
  have HPF := hid (HF.out.put hk hv)
  have hl : (putL ps k v).length ≤ maxLen := by have := putL_len_le ps k v; unfold maxLen; omega
  have HL := hid hl
  clear hl
  by_cases h4 : (putL ps k v).length ≤ 60
  · have HB := hid (putB_yes h1 h2 h3 h4)
    have HPT : Hid (mapB (putL ps k v) = true) := by rw [Hid, HPM.out]; simp [h4]
    clear h4
    go_enter Try.func125, Try.ntmps125
    go_wp2_with (first
      | (go_at_call 56; (with_reducible refine (spec_MapOk A c ps _ _ HR.out HF.out HM.out).mono ?_); rintro e w2 ⟨rfl, hw2⟩)
      | (go_at_call 71; (with_reducible refine (spec_KeyOk k _ hk).mono ?_); rintro e w3 ⟨rfl, rfl⟩)
      | (go_at_call 71; (with_reducible refine (spec_KeyOk v _ hv).mono ?_); rintro e w3 ⟨rfl, rfl⟩)
      | (go_at_call 136; refine (spec_l1Put A c ps k v _ ((HR.out.below (hw2.below _)).more (hw2.below 0).size) hn).mono ?_; rintro e w4 ⟨A4, c4, rfl, ho4, hb4⟩; have HO4 := hid ho4; have HB4 := hid hb4; clear ho4 hb4)
      | (go_at_call 56; (with_reducible refine (spec_MapOk A4 c4 (putL ps k v) _ _ HO4.out.rp HPF.out HL.out).mono ?_); rintro e w5 ⟨rfl, hw5⟩; have hpt := HPT.out))
    go_ret2
    have hb1 := (hw2.below w.heap.size).trans (HB4.out.mono (hw2.below w.heap.size).size)
    exact Made2.yes (putR_yes HB.out) HB.out ((HO4.out.below (hw5.below _)).mono (hw2.below w.heap.size).size) (hb1.trans (hw5.below _))
  · have HB : Hid (putB ps k v = false) := by simp [Hid, putB, h4]
    have HPT : Hid (mapB (putL ps k v) = false) := by rw [Hid, HPM.out]; simp [h4]
    clear h4
    go_enter Try.func125, Try.ntmps125
    go_wp2_with (first
      | (go_at_call 56; (with_reducible refine (spec_MapOk A c ps _ _ HR.out HF.out HM.out).mono ?_); rintro e w2 ⟨rfl, hw2⟩)
      | (go_at_call 71; (with_reducible refine (spec_KeyOk k _ hk).mono ?_); rintro e w3 ⟨rfl, rfl⟩)
      | (go_at_call 71; (with_reducible refine (spec_KeyOk v _ hv).mono ?_); rintro e w3 ⟨rfl, rfl⟩)
      | (go_at_call 136; refine (spec_l1Put A c ps k v _ ((HR.out.below (hw2.below _)).more (hw2.below 0).size) hn).mono ?_; rintro e w4 ⟨A4, c4, rfl, ho4, hb4⟩; have HO4 := hid ho4; have HB4 := hid hb4; clear ho4 hb4)
      | (go_at_call 56; (with_reducible refine (spec_MapOk A4 c4 (putL ps k v) _ _ HO4.out.rp HPF.out HL.out).mono ?_); rintro e w5 ⟨rfl, hw5⟩; have hpt := HPT.out))
    go_ret2
    have hb1 := (hw2.below w.heap.size).trans (HB4.out.mono (hw2.below w.heap.size).size)
    exact Made2.no (putR_no HB.out) HB.out (hb1.trans (hw5.below _))

set_option maxHeartbeats 2000000 in
theorem impl_Put (A : Option Addr) (c : Nat) (ps : PS) (k v : ByteArray) (w : World) (hr : RP w w.heap.size A ps) (hvs : VS A c ps.length) (hf : Fits ps) (hn : ps.length ≤ 1048576) (hk : k.size ≤ maxLen) (hv : v.size ≤ maxLen) :
    Calls Try.prog 39 #[.slice A ps.length c, .string k, .string v] w (Made2 w (putR ps k v) (putB ps k v)) := by
  have hml : ps.length ≤ maxLen := by unfold maxLen; omega
  have HR := hid hr
  have HF := hid hf
  have HM := hid hml
  have HV := hid hvs
  clear hr hf hml hvs
  cases h1 : mapB ps
  · have HB : Hid (putB ps k v = false) := by simp [Hid, putB, h1]
    go_enter Try.func39, Try.ntmps39
    go_wp2_with (go_at_call 61; refine (impl_MapOk A c ps _ HR.out HF.out HM.out).mono ?_; rintro e w2 ⟨rfl, hw2⟩)
    go_ret2
    exact Made2.no (putR_no HB.out) HB.out hw2
  cases h2 : keyB k
  · have HB : Hid (putB ps k v = false) := by simp [Hid, putB, h2]
    go_enter Try.func39, Try.ntmps39
    go_wp2_with (first
      | (go_at_call 61; refine (impl_MapOk A c ps _ HR.out HF.out HM.out).mono ?_; rintro e w2 ⟨rfl, hw2⟩)
      | (go_at_call 77; (with_reducible refine (impl_KeyOk k _ hk).mono ?_); rintro e w3 ⟨rfl, rfl⟩))
    go_ret2
    exact Made2.no (putR_no HB.out) HB.out hw2
  cases h3 : keyB v
  · have HB : Hid (putB ps k v = false) := by simp [Hid, putB, h3]
    go_enter Try.func39, Try.ntmps39
    go_wp2_with (first
      | (go_at_call 61; refine (impl_MapOk A c ps _ HR.out HF.out HM.out).mono ?_; rintro e w2 ⟨rfl, hw2⟩)
      | (go_at_call 77; (with_reducible refine (impl_KeyOk k _ hk).mono ?_); rintro e w3 ⟨rfl, rfl⟩)
      | (go_at_call 77; (with_reducible refine (impl_KeyOk v _ hv).mono ?_); rintro e w3 ⟨rfl, rfl⟩))
    go_ret2
    exact Made2.no (putR_no HB.out) HB.out hw2
  have HS : Hid (risesB ps = true) := (mapB_iff.1 h1).2.2
  have hl60 : ps.length ≤ 60 := (mapB_iff.1 h1).1
  have hl : (putL ps k v).length ≤ 61 := by have := putL_len_le ps k v; omega
  by_cases h4 : (putL ps k v).length ≤ 60
  · have HB := hid (putB_yes h1 h2 h3 h4)
    go_enter Try.func39, Try.ntmps39
    go_wp2_with (first
      | (go_at_call 61; refine (impl_MapOk A c ps _ HR.out HF.out HM.out).mono ?_; rintro e w2 ⟨rfl, hw2⟩)
      | (go_at_call 77; (with_reducible refine (impl_KeyOk k _ hk).mono ?_); rintro e w3 ⟨rfl, rfl⟩)
      | (go_at_call 77; (with_reducible refine (impl_KeyOk v _ hv).mono ?_); rintro e w3 ⟨rfl, rfl⟩)
      | (go_at_call 93; refine (with_any A c ps k v _ ((HR.out.below hw2).more hw2.size) HV.out (Nat.le_trans hl60 (by decide)) HS.out).mono ?_; rintro e w4 ⟨A4, c4, rfl, ho4, hb4⟩; have HO4 := hid ho4; have HB4 := hid hb4; clear ho4 hb4))
    go_ret2
    exact Made2.yes (putR_yes HB.out) HB.out (HO4.out.mono hw2.size) (hw2.trans (HB4.out.mono hw2.size))
  · have HB : Hid (putB ps k v = false) := by simp [Hid, putB, h4]
    go_enter Try.func39, Try.ntmps39
    go_wp2_with (first
      | (go_at_call 61; refine (impl_MapOk A c ps _ HR.out HF.out HM.out).mono ?_; rintro e w2 ⟨rfl, hw2⟩)
      | (go_at_call 77; (with_reducible refine (impl_KeyOk k _ hk).mono ?_); rintro e w3 ⟨rfl, rfl⟩)
      | (go_at_call 77; (with_reducible refine (impl_KeyOk v _ hv).mono ?_); rintro e w3 ⟨rfl, rfl⟩)
      | (go_at_call 93; refine (with_any A c ps k v _ ((HR.out.below hw2).more hw2.size) HV.out (Nat.le_trans hl60 (by decide)) HS.out).mono ?_; rintro e w4 ⟨A4, c4, rfl, ho4, hb4⟩; have HO4 := hid ho4; have HB4 := hid hb4; clear ho4 hb4))
    go_ret2
    exact Made2.no (putR_no HB.out) HB.out (hw2.trans (HB4.out.mono hw2.size))

set_option maxHeartbeats 1000000 in
theorem impl_Drop (A : Option Addr) (c : Nat) (ps : PS) (k : ByteArray) (w : World) (hr : RP w w.heap.size A ps) (hvs : VS A c ps.length) (hf : Fits ps) (hn : ps.length ≤ 1048576) :
    Calls Try.prog 41 #[.slice A ps.length c, .string k] w (Made2 w (dropR ps k) (getB ps k)) := by
  have hml : ps.length ≤ maxLen := by unfold maxLen; omega
  have HR := hid hr
  have HF := hid hf
  have HM := hid hml
  have HV := hid hvs
  clear hr hf hml hvs
  cases h1 : mapB ps
  · have HB : Hid (dropR ps k = [] ∧ getB ps k = false) := by simp [Hid, dropR, getB, h1]
    go_enter Try.func41, Try.ntmps41
    go_wp2_with (go_at_call 61; refine (impl_MapOk A c ps _ HR.out HF.out HM.out).mono ?_; rintro e w2 ⟨rfl, hw2⟩)
    go_ret2
    exact Made2.no HB.out.1 HB.out.2 hw2
  · have HS : Hid (risesB ps = true) := (mapB_iff.1 h1).2.2
    have hl60 : ps.length ≤ 60 := (mapB_iff.1 h1).1
    cases hh : hasK ps k
    · have HB : Hid (dropR ps k = [] ∧ getB ps k = false) := by simp [Hid, dropR, getB, h1, hh]
      have HH := hid hh
      clear hh
      go_enter Try.func41, Try.ntmps41
      go_wp2_with (first
        | (go_at_call 61; refine (impl_MapOk A c ps _ HR.out HF.out HM.out).mono ?_; rintro e w2 ⟨rfl, hw2⟩)
        | (go_at_call 94; refine (without_no A c ps k _ ((HR.out.below hw2).more hw2.size) HV.out (Nat.le_trans hl60 (by decide)) HS.out HH.out).mono ?_; rintro e w4 ⟨A4, c4, rfl, ho4, hb4⟩; have HO4 := hid ho4; have HB4 := hid hb4; clear ho4 hb4))
      go_ret2
      rw [HB.out.1, HB.out.2]
      exact ⟨A4, c4, rfl, HO4.out.mono hw2.size, hw2.trans (HB4.out.mono hw2.size)⟩
    · have HB : Hid (dropR ps k = dropL ps k ∧ getB ps k = true) := by simp [Hid, dropR, getB, h1, hh]
      have HH := hid hh
      clear hh
      go_enter Try.func41, Try.ntmps41
      go_wp2_with (first
        | (go_at_call 61; refine (impl_MapOk A c ps _ HR.out HF.out HM.out).mono ?_; rintro e w2 ⟨rfl, hw2⟩)
        | (go_at_call 94; refine (without_yes A c ps k _ ((HR.out.below hw2).more hw2.size) HV.out (Nat.le_trans hl60 (by decide)) HS.out HH.out).mono ?_; rintro e w4 ⟨A4, c4, rfl, ho4, hb4⟩; have HO4 := hid ho4; have HB4 := hid hb4; clear ho4 hb4))
      go_ret2
      rw [HB.out.1, HB.out.2]
      exact ⟨A4, c4, rfl, HO4.out.mono hw2.size, hw2.trans (HB4.out.mono hw2.size)⟩
end Go.Proofs.Ytcjbjfhndjpmcaa
/-
  Range of both: contracts.
-/
namespace Go.Proofs.Ytcjbjfhndjpmcaa
open Go.RowKit

theorem Made.of {w w' : World} {L L' : PS} {A : Option Addr} {c : Nat} (hL : L = L') (ho : OwnP w' w.heap.size A c L') (h : Below w.heap.size w w') : Made w w.heap.size L (.returned (.slice A L'.length c)) w' := by
  subst hL
  exact ⟨A, c, rfl, ho, h⟩

theorem Made.of_n {w w' : World} {L L' : PS} {A : Option Addr} {n c : Nat} (hL : L = L') (hn : n = L'.length) (ho : OwnP w' w.heap.size A c L') (h : Below w.heap.size w w') : Made w w.heap.size L (.returned (.slice A n c)) w' := by
  subst hn
  exact Made.of hL ho h

set_option maxHeartbeats 1000000 in
theorem clone_any (g off n c : Nat) (ps : PS) (w : World) (hr : RP w w.heap.size (some ⟨g, off, none⟩) ps) (hn : n = ps.length) (hl : ps.length ≤ 1000) :
    Calls Try.prog 111 #[.slice (some ⟨g, off, none⟩) n c] w (Made w w.heap.size ps) := by
  obtain ⟨i0, hi0, hz0, hz1, hz2⟩ := info_parts pairInfo
  have HR := hid hr
  have HN := hid hn
  clear hr hn
  have qT : ∀ (w : World) (a : Option Addr) (n c n' c' : Nat), (binOp .eql 27 (.slice a n c) (.slice none n' c')).run Try.prog w = .ok (.bool a.isNone) w := fun w a n c n' c' => Lib.run_eql_slice_nil w _ _ a n c n' c' Try.underlying27
  go_enter Try.func111, Try.ntmps111
  go_wp2_with (at_builtin; refine wpList_append_rp _ rfl _ _ _ rfl i0 Try.underlying27 hi0 hz0 hz1 hz2 w.heap.size _ 0 0 [] rfl rfl (OwnP.made (Nat.le_refl _) #[] 0 rfl (Nat.zero_le _)) _ _ _ _ ps rfl HN.out (HR.out.below ((Below.refl _ _).alloc (Nat.le_refl _) _)) (by simp; omega) (by simp) ?_; intro A2 n2 c2 w2 hn2 hown2 hbw2; have HN2 := hid hn2; have HO2 := hid hown2; have HB2 := hid hbw2; clear hn2 hown2 hbw2)
  go_ret
  exact ⟨A2, c2, ret_slice HN2.out, HO2.out, ((Below.refl _ _).alloc (Nat.le_refl _) _).trans HB2.out⟩

end Go.Proofs.Ytcjbjfhndjpmcaa
/-
  What the exact laws of changes go through: rows of their own, append, sizes, copies, comparisons.
-/
namespace Go.Proofs.Ytcjbjfhndjpmcaa
open Go.RowKit
/-- One change in a block. -/
theorem RC.new (w : World) (x : CD) (T : TypeId) : RC (w.alloc (.cells #[.string x.1, .string x.2.1, .bool x.2.2] T)) (w.heap.size + 1) (some ⟨w.heap.size, 0, none⟩) [x] := by
  refine .inr ⟨w.heap.size, 0, rfl, by omega, fun i q hq => ?_⟩
  have hb : (w.alloc (.cells #[.string x.1, .string x.2.1, .bool x.2.2] T)).heap[w.heap.size]? = some (.cells #[.string x.1, .string x.2.1, .bool x.2.2] T (0, 0)) := heap_alloc_new w _
  cases i with
  | zero =>
    simp only [List.getElem?_cons_zero, Option.some.injEq] at hq
    subst hq
    refine ⟨?_, ?_, ?_⟩
    · rw [cell_of_row _ _ _ _ _ _ hb]; rfl
    · rw [cell_of_row _ _ _ _ _ _ hb]; rfl
    · rw [cell_of_row _ _ _ _ _ _ hb]; rfl
  | succ i => simp at hq
/-! ### sizes -/
def SzC1 (x : CD) (l : Int) (w : World) (e : Ending) (w' : World) : Prop :=
  ∃ r : Int, e = .returned (.int .i64 r) ∧ -1 ≤ r ∧ r ≤ l ∧ (0 ≤ r → (x.1.size : Int) ≤ l ∧ (x.2.1.size : Int) ≤ l) ∧ Below w.heap.size w w'
def SmallC (hs : CS) (l : Int) : Prop := ∀ x ∈ hs, (x.2.1.size : Int) ≤ l
def SzPostC (hs : CS) (l : Int) (w : World) (e : Ending) (w' : World) : Prop :=
  ∃ r : Int, e = .returned (.int .i64 r) ∧ -1 ≤ r ∧ r ≤ l ∧ (0 ≤ r → (hs.length : Int) ≤ l) ∧ Below w.heap.size w w'

/-! ### copies -/
theorem ccells_ext : ∀ (hs : CS) (xs : List Value), xs.length = hs.length * 3 → (∀ (i : Nat) (x : CD), hs[i]? = some x → xs[i * 3]? = some (.string x.1) ∧ xs[i * 3 + 1]? = some (.string x.2.1) ∧ xs[i * 3 + 2]? = some (.bool x.2.2)) → xs = ccells hs
  | [], xs, hl, _ => List.eq_nil_of_length_eq_zero (by simpa using hl)
  | p :: r, xs, hl, h => by
    match xs, hl with
    | a :: b :: c :: t, hl =>
      have h0 := h 0 p rfl
      simp only [Nat.zero_mul, List.getElem?_cons_zero, Option.some.injEq, Nat.zero_add, List.getElem?_cons_succ] at h0
      rw [h0.1, h0.2.1, h0.2.2, ccells]
      congr 3
      refine ccells_ext r t (by simp at hl ⊢; omega) fun i q hq => ?_
      have := h (i + 1) q (by simpa using hq)
      rw [show (i + 1) * 3 = i * 3 + 1 + 1 + 1 by omega] at this
      simpa using this
    | [a, b], hl => simp at hl; omega
    | [a], hl => simp at hl; omega
    | [], hl => simp at hl
/-! ### comparisons, of changes that are alike -/
end Go.Proofs.Ytcjbjfhndjpmcaa
