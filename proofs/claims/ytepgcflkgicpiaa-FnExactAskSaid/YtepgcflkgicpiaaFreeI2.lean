/-
  The program's Free: copies and what is struck.
-/
import Derived.Test.YtepgcflkgicpiaaLockSet
import Derived.Test.YtepgcflkgicpiaaFreeI
import Derived.Lib.SliceRun
namespace Go.Proofs.Ytepgcflkgicpiaa
open Go.RowKit Go.Shelf

set_option maxHeartbeats 2000000 in
set_option maxRecDepth 100000 in
theorem impl_cloneH (A : Option Addr) (c : Nat) (hs : HS) (w : World) (hr : RH w w.heap.size A hs) (hn : hs.length ≤ 1000) :
    Calls Try.prog 78 #[.slice A hs.length c] w (MadeH w w.heap.size hs) := by
  obtain ⟨i0, hi0, hz0, hz1, hz2⟩ := info_parts holdInfo
  have qT : ∀ (w : World) (a : Option Addr) (n c n' c' : Nat), (binOp .eql 26 (.slice a n c) (.slice none n' c')).run Try.prog w = .ok (.bool a.isNone) w := fun w a n c n' c' => Lib.run_eql_slice_nil w _ _ a n c n' c' Try.underlying26
  rcases A with _ | ad
  · obtain rfl : hs = [] := by
      rcases hr with h | ⟨b, off, e, _⟩
      · exact h
      · cases e
    go_enter Try.func78, Try.ntmps78
    go_wp2_with fail
    go_ret
    exact ⟨none, 0, rfl, OwnH.nil_ _ _, Below.refl _ _⟩
  · have HVA := hid ((Below.refl w.heap.size w).alloc (Nat.le_refl _) (.cells #[] 48))
    have N8 := hid (OwnH.made (w := w) (Nat.le_refl _) #[] 0 rfl (Nat.zero_le _))
    have HR := hid (hr.below HVA.out)
    clear hr
    go_enter Try.func78, Try.ntmps78
    go_wp2_with (at_builtin; refine wpList_append_rh _ rfl _ _ _ rfl i0 Try.underlying26 hi0 hz0 hz1 hz2 w.heap.size (some ⟨w.heap.size, 0, none⟩) 0 0 [] rfl rfl N8.out w.heap.size (some ad) hs.length c hs rfl rfl HR.out (by simp; omega) (by simp) ?_; intro A' n' c' w7 hn7 hap7; have HN7 := hid hn7; have hb7 := hap7.below N8.out rfl (by simp); have HO7 := hid hap7.own; have HB7 := hid (HVA.out.trans hb7); clear hn7 hap7 hb7)
    go_ret
    exact ⟨A', c', by rw [HN7.out]; rfl, HO7.out, HB7.out⟩

/-! ### slices.DeleteFunc -/
/-- The row while it is gone through: the first i are those that are kept of the first j; from j on it is as it was. -/
def GoneInv (hs cur : HS) (p : HD → Bool) (i j : Nat) : Prop := cur.length = hs.length ∧ i < j ∧ j ≤ hs.length ∧ cur.take i = (hs.take j).filter (fun x => !p x) ∧ cur.drop j = hs.drop j
theorem GoneInv.at_ {hs cur : HS} {p : HD → Bool} {i j : Nat} (h : GoneInv hs cur p i j) (hj : j < hs.length) : ∃ hc : j < cur.length, cur[j] = hs[j] := by
  have h1 := h.1
  have h2 := h.2.2.2.2
  refine ⟨by omega, ?_⟩
  have := congrArg (fun l => l[0]?) h2
  simp only [List.getElem?_drop, Nat.add_zero] at this
  rw [List.getElem?_eq_getElem (by omega), List.getElem?_eq_getElem hj] at this
  exact Option.some.inj this
theorem GoneInv.skip {hs cur : HS} {p : HD → Bool} {i j : Nat} (h : GoneInv hs cur p i j) (hj : j < hs.length) (hp : p hs[j] = true) : GoneInv hs cur p i (j + 1) := by
  obtain ⟨h1, h2, h3, h4, h5⟩ := h
  refine ⟨h1, by omega, by omega, ?_, ?_⟩
  · rw [h4, List.take_succ_eq_append_getElem hj, List.filter_append]
    simp [hp]
  · rw [← List.drop_drop, ← List.drop_drop, h5]
theorem GoneInv.keep {hs cur : HS} {p : HD → Bool} {i j : Nat} (h : GoneInv hs cur p i j) (hj : j < hs.length) (hp : p hs[j] = false) : GoneInv hs (cur.set i hs[j]) p (i + 1) (j + 1) := by
  obtain ⟨h1, h2, h3, h4, h5⟩ := h
  refine ⟨by rw [List.length_set]; exact h1, by omega, by omega, ?_, ?_⟩
  · rw [List.take_set, List.take_succ_eq_append_getElem (by omega : i < cur.length), List.take_succ_eq_append_getElem hj, List.filter_append, ← h4]
    rw [List.set_append_right _ _ (by rw [List.length_take]; omega)]
    have : i - (cur.take i).length = 0 := by rw [List.length_take]; omega
    rw [this]
    simp [hp]
  · rw [List.drop_set_of_lt (by omega), ← List.drop_drop, ← List.drop_drop, h5]
theorem GoneInv.start {hs : HS} {p : HD → Bool} {k : Nat} (hn : noneH hs p k) (hk : k < hs.length) (hp : p hs[k] = true) : GoneInv hs hs p k (k + 1) := by
  refine ⟨rfl, by omega, by omega, ?_, rfl⟩
  rw [List.take_succ_eq_append_getElem hk, List.filter_append]
  have : (hs.take k).filter (fun x => !p x) = hs.take k := by
    rw [List.filter_eq_self]
    intro x hx
    obtain ⟨i, hi, rfl⟩ := List.getElem_of_mem hx
    rw [List.length_take] at hi
    rw [List.getElem_take, hn i (by omega) (by omega)]
    rfl
  rw [this]
  simp [hp]
theorem idxV_cases (hs : HS) (p : HD → Bool) : (idxV hs p = -1 ∧ hs.filter (fun x => !p x) = hs) ∨ (∃ (k : Nat) (_ : k < hs.length), idxV hs p = (k : Int) ∧ GoneInv hs hs p k (k + 1)) := by
  cases h : hs.findIdx? p with
  | none =>
    have h2 := List.findIdx?_eq_none_iff.1 h
    exact .inl ⟨by rw [idxV, h], List.filter_eq_self.2 fun x hx => by rw [h2 x hx]; rfl⟩
  | some i =>
    obtain ⟨hi, h1, h3⟩ := List.findIdx?_eq_some_iff_getElem.1 h
    refine .inr ⟨i, hi, by rw [idxV, h], GoneInv.start (fun j hj hji => ?_) hi h1⟩
    have := h3 j hji
    simpa using this

theorem some_lit {g b o : Nat} (h : (some ⟨g, 0, none⟩ : Option Addr) = some ⟨b, o, none⟩) : g = b ∧ 0 = o := by
  injection h with h
  injection h with h1 h2
  exact ⟨h1, h2⟩
theorem OwnH.frozenH {w : World} {B g c : Nat} {hs : HS} (h : OwnH w B (some ⟨g, 0, none⟩) c hs) (j : Nat) : w.frozen? ⟨g, j, none⟩ = false := World.ownsRow.frozenAt h j
theorem grown_cell {w w' : World} {row : Option Nat} (h : w.grownBy w' row) {q o : Nat} (hq : q < w.heap.size) (hne : some q ≠ row) : w'.cell? ⟨q, o, none⟩ = w.cell? ⟨q, o, none⟩ := World.cell?_of_block (w := w) (h.block q hq hne)
theorem grown_trans {a b c : World} {row : Option Nat} (h : a.grownBy b row) (k : b.grownBy c row) : a.grownBy c row := ⟨k.os.trans h.os, k.tape.trans h.tape, k.output.trans h.output, Nat.le_trans h.size k.size, fun i hi hne => (k.block i (Nat.lt_of_lt_of_le hi h.size) hne).trans (h.block i hi hne)⟩
theorem below_grownR {a b : World} (h : Below a.heap.size a b) (row : Option Nat) : a.grownBy b row := ⟨h.os, h.tape, h.output, h.size, fun k hk _ => h.block k hk⟩
/-- What is behind is cleared, and the row cut. -/
theorem OwnH.swept {w : World} {B g c i n : Nat} {cur : HS} (h : OwnH w B (some ⟨g, 0, none⟩) c cur) (hn : cur.length = n) (hi : i < n) :
    OwnH (w.setCells g (i * 3) (zeroH (n - i))) B (some ⟨g, 0, none⟩) c (cur.take i) ∧ w.grownBy (w.setCells g (i * 3) (zeroH (n - i))) (some g) ∧
    (∀ j, j < (zeroH (n - i)).length → (w.cell? ⟨g, i * 3 + j, none⟩).isSome = true) ∧ ∀ j, j < (zeroH (n - i)).length → w.frozen? ⟨g, i * 3 + j, none⟩ = false := by
  subst hn
  have hz := zeroH_length (cur.length - i)
  have hb : i * 3 + (zeroH (cur.length - i)).length ≤ cur.length * 3 := by omega
  have hx := h.1
  obtain ⟨s1, s2⟩ := own_setCells (zeroH (cur.length - i)) (i * 3) w (hcells cur) h hb
  have s3 := own_cut s1 (k := i) (by omega)
  have e3 : (spliceL (hcells cur) (i * 3) (zeroH (cur.length - i))).take (i * 3) = hcells (cur.take i) := by
    unfold spliceL
    rw [List.append_assoc, List.take_append_of_le_length (by rw [List.length_take]; omega), List.take_take, Nat.min_self, hcells_take]
  rw [e3] at s3
  refine ⟨?_, s2, fun j hj => ?_, fun j _ => h.frozenH _⟩
  · unfold OwnH
    rw [List.length_take, Nat.min_eq_left (by omega)]
    exact s3
  · have := World.ownsRow.cellAt h (i * 3 + j) (by omega)
    rw [this, List.getElem?_eq_getElem (by omega)]
    rfl
theorem holdZero : ∀ w : World, (zeroValue 48).run Try.prog w = .ok (.agg #[.int .i64 0, .string ⟨#[]⟩, .int .i64 0]) w := fun _ => by kernel_rfl
set_option maxHeartbeats 8000000 in
set_option maxRecDepth 100000 in
theorem impl_goneRow (q : Nat) (t : Int) (A : Option Addr) (c : Nat) (hs : HS) (B : Nat) (w : World) (ho : OwnH w B A c hs) (hf : FitsH hs) (hn : hs.length ≤ 1000) (hq : q < w.heap.size) (c0 : w.cell? ⟨q, 0, none⟩ = some (.int .i64 t)) (hqg : ∀ k, Value.ownBlock (.slice A hs.length c) = some k → k ≠ q) :
    Calls Try.prog 77 #[.slice A hs.length c, .func (.func 76) #[] #[.pointer (some ⟨q, 0, none⟩)]] w fun e w' => e = .returned (.slice A (goneL hs t).length c) ∧ OwnH w' B A c (goneL hs t) ∧ w.grownBy w' (Value.ownBlock (.slice A hs.length c)) := by
  have hnm : hs.length ≤ maxLen := by unfold maxLen; omega
  have hidx := indexFunc_any 76 q ent_gone (fun h => decide (h.1 = t)) A c hs w ho.rh hf hnm (goneFn q t w hq c0)
  have HF := hid hf
  rcases idxV_cases hs (fun h => decide (h.1 = t)) with ⟨e1, hfil⟩ | ⟨k0, hk0, e1, hinv⟩
  · rw [e1] at hidx
    have HI := hid hidx
    have HG : Hid (goneL hs t = hs) := hfil
    have HO := hid ho
    clear hidx ho hfil e1 hqg
    go_enter Try.func77, Try.ntmps77
    go_wp2_with (go_at_call 134; refine HI.out.mono ?_; rintro e w2 ⟨rfl, hb2⟩)
    go_ret
    rw [HG.out]
    exact ⟨rfl, HO.out.below hb2, ⟨hb2.os, hb2.tape, hb2.output, hb2.size, fun k hk _ => hb2.block k hk⟩⟩
  · rw [e1] at hidx
    have HI := hid hidx
    obtain ⟨g, rfl⟩ : ∃ g, A = some ⟨g, 0, none⟩ := by
      rcases ho.2 with ⟨hv, hz⟩ | ⟨g, cap, cur, hv, _⟩
      · omega
      · injection hv with e
        exact ⟨g, e⟩
    have hgq := hqg g rfl
    have hcap := ho.cap
    have hcap1 := hcap.1
    have hcap2 := hcap.2
    unfold maxLen at hcap2
    have HINV := hid hinv
    have HO := hid ho
    have HC0 := hid c0
    have hne1 : ((k0 : Int) == -1) = false := by rw [beq_eq_false_iff_ne]; omega
    clear hidx ho hinv e1 hqg c0 hcap
    go_enter Try.func77, Try.ntmps77
    go_wp2_with (go_at_call 134; refine HI.out.mono ?_; rintro e w2 ⟨rfl, hb2⟩; have HB2 := hid hb2; clear hb2)
    go_loopw [5, 6] (fun i5 i6 wr => ∃ (i j : Nat) (cur : HS), i5 = .int .i64 i ∧ i6 = .int .i64 j ∧ Hid (GoneInv hs cur (fun h => decide (h.1 = t)) i j) ∧ j ≤ hs.length ∧ Hid (OwnH wr B (some ⟨g, 0, none⟩) c cur) ∧ Hid (wr.cell? ⟨q, 0, none⟩ = some (.int .i64 t)) ∧ Hid (w.grownBy wr (some g)) ∧ q < wr.heap.size) (fun _ i6 _ => hs.length - (intOf i6).toNat)
    case atStart => exact ⟨k0, k0 + 1, hs, rfl, by go_num, HINV.out, by omega, HO.out.below HB2.out, (HB2.out.cell (p := ⟨q, 0, none⟩) hq).trans HC0.out, ⟨HB2.out.os, HB2.out.tape, HB2.out.output, HB2.out.size, fun k hk _ => HB2.out.block k hk⟩, Nat.lt_of_lt_of_le hq HB2.out.size⟩
    case round =>
      obtain ⟨i, j, cur, rfl, rfl, HGI, hjn, HOC, HQ, HG, hqw⟩ := hrel
      have hcl := HGI.out.1
      have hij := HGI.out.2.1
      have HCL := hid hcl
      clear hcl
      by_cases hlt : j < hs.length
      · obtain ⟨hjc, hje⟩ := HGI.out.at_ hlt
        obtain ⟨b, off, e', hb, hc1, hc2, hc3⟩ := HOC.out.rh.at_ hjc
        injection e' with e'
        injection e' with ea eb
        subst ea eb
        rw [hje] at hc1 hc2 hc3
        simp only [Nat.zero_add] at hc1 hc2 hc3
        have HSK := hid (HGI.out.skip hlt)
        have HKP := hid (HGI.out.keep hlt)
        have HFJ := hid (HF.out.get hlt)
        have hic : i < cur.length := by omega
        have HX := hid (Row3.lit wr 48 (.int .i64 hs[j].1) (.string hs[j].2.1) (.int .i64 hs[j].2.2))
        have HBA := hid ((Below.refl wr.heap.size wr).alloc (Nat.le_refl _) (.cells #[.int .i64 hs[j].1, .string hs[j].2.1, .int .i64 hs[j].2.2] 48))
        have HOC2 := hid (HOC.out.below HBA.out)
        have hq2 : q < (wr.alloc (.cells #[.int .i64 hs[j].1, .string hs[j].2.1, .int .i64 hs[j].2.2] 48)).heap.size := by simp; omega
        have HQ2 := hid ((HBA.out.cell (p := ⟨q, 0, none⟩) hqw).trans HQ.out)
        have hgw : g < wr.heap.size := hb
        have e5 : (0 : Int) ≤ (j : Int) := by omega
        have e6 : (j : Int) < (hs.length : Int) := by omega
        have e7 : (0 : Int) ≤ (i : Int) := by omega
        have e8 : (i : Int) < (hs.length : Int) := by have := HCL.out; omega
        have e9 : i < hs.length := by have := HCL.out; omega

        go_wp2_with fail
        generalize hg5 : wr.alloc (.cells #[.int .i64 hs[j].1, .string hs[j].2.1, .int .i64 hs[j].2.2] 48) = w5 at *
        clear hg5 hc1 hc2 hc3
        have x0 := HX.out.c0
        have x1 := HX.out.c1
        have x2 := HX.out.c2
        cases hp : decide (hs[j].1 = t)
        case true =>
          go_wp2_with (go_at_call 76; refine (goneFn q t w5 hq2 HQ2.out w5 hs[j] (Below.refl _ _) HFJ.out).mono ?_; rintro e w6 ⟨rfl, hb6⟩; have HB6 := hid hb6; clear hb6)
          go_roundw
          case rel => exact ⟨i, j + 1, cur, rfl, by go_num, HSK.out hp, by omega, HOC2.out.below HB6.out, (HB6.out.cell (p := ⟨q, 0, none⟩) hq2).trans HQ2.out, ⟨HB6.out.os.trans (HBA.out.os.trans HG.out.os), HB6.out.tape.trans (HBA.out.tape.trans HG.out.tape), HB6.out.output.trans (HBA.out.output.trans HG.out.output), Nat.le_trans HG.out.size (Nat.le_trans HBA.out.size HB6.out.size), fun k hk hne => (HB6.out.block k (by have := HG.out.size; have := HBA.out.size; omega)).trans ((HBA.out.block k (by have := HG.out.size; omega)).trans (HG.out.block k hk hne))⟩, Nat.lt_of_lt_of_le hq2 HB6.out.size⟩
          case measure => simp [intOf]; omega
        case false =>
          go_wp2_with (go_at_call 76; refine (goneFn q t w5 hq2 HQ2.out w5 hs[j] (Below.refl _ _) HFJ.out).mono ?_; rintro e w6 ⟨rfl, hb6⟩; have HB6 := hid hb6; have hq6 : q < w6.heap.size := Nat.lt_of_lt_of_le hq2 hb6.size; have HQ6 := hid ((hb6.cell (p := ⟨q, 0, none⟩) hq2).trans HQ2.out); have HG6 := hid (grown_trans (grown_trans HG.out (below_grownR HBA.out _)) (below_grownR hb6 _)); have HO6 := hid (HOC2.out.below hb6); have HX6 := hid (HX.out.below hb6); have x60 := HX6.out.c0; have x61 := HX6.out.c1; have x62 := HX6.out.c2; obtain ⟨_, _, ea6, _, ca6, cb6, cc6⟩ := HO6.out.rh.at_ hic; obtain ⟨ea, eb⟩ := some_lit ea6; subst ea eb; simp only [Nat.zero_add] at ca6 cb6 cc6; have fa6 := HO6.out.frozenH (i * 3); have fb6 := HO6.out.frozenH (i * 3 + 1); have fc6 := HO6.out.frozenH (i * 3 + 2); clear hb6 ea6)
          obtain ⟨pu1, pu2⟩ := HO6.out.put hic hs[j]
          have PU1 := hid pu1
          have PU2 := hid pu2
          clear pu1 pu2
          go_roundw
          case rel => exact ⟨i + 1, j + 1, cur.set i hs[j], by go_num, by go_num, HKP.out hp, by omega, PU1.out, (grown_cell PU2.out hq6 (by simp; omega)).trans HQ6.out, grown_trans HG6.out PU2.out, Nat.lt_of_lt_of_le hq6 PU2.out.size⟩
          case measure => simp [intOf]; omega
      · obtain rfl : j = hs.length := by omega
        obtain ⟨s1, s2, s3, s4⟩ := HOC.out.swept HCL.out hij
        have S1 := hid s1
        have S2 := hid s2
        have HT : Hid (cur.take i = goneL hs t) := by
          have := HGI.out.2.2.2.1
          rw [List.take_length] at this
          exact this
        have hgl : Hid ((goneL hs t).length = i) := by
          show _ = _
          rw [← HT.out, List.length_take, HCL.out]
          omega
        have hcl : ∀ ty, (Builtin.clear_ #[26] ty #[.slice (some ⟨g, i * 3, none⟩) (hs.length - i) (c - i)]).run Try.prog wr = .ok (.tuple #[]) (wr.setCells g (i * 3) (zeroH (hs.length - i))) := fun ty => run_clear_hold wr _ _ ty Try.underlying26 holdZero g (i * 3) (hs.length - i) (c - i) (by omega) s3 s4 (zeroH_one _)
        have e7 : (0 : Int) ≤ (i : Int) := by omega
        have e8 : (i : Int) ≤ (hs.length : Int) := by omega
        have e9 : i ≤ hs.length := by omega
        have e10 : i ≤ c := by omega
        clear s1 s2 s3 s4
        go_wp2_with fail
        go_ret
        exact ⟨by rw [hgl.out]; rfl, by rw [← HT.out]; exact S1.out, grown_trans HG.out S2.out⟩
end Go.Proofs.Ytepgcflkgicpiaa
