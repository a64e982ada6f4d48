/-
  What the exact laws on trees go through: sizes, copies, comparisons of nodes.
-/
import Derived.Test.YtepgcflkgicpiaaRow3
import Derived.Test.YtepgcflkgicpiaaTreeMem
namespace Go.Proofs.Ytepgcflkgicpiaa
open Go.RowKit

/-- Nodes that Go can bear. -/
def FitsN (ns : List ND) : Prop := ∀ nd ∈ ns, Fits nd.1 ∧ nd.1.length ≤ maxLen ∧ nd.2.length ≤ maxLen
theorem FitsN.get {ns : List ND} (h : FitsN ns) {k : Nat} (hk : k < ns.length) : Fits ns[k].1 ∧ ns[k].1.length ≤ maxLen ∧ ns[k].2.length ≤ maxLen := h _ (List.getElem_mem hk)
/-- Nodes of which no one has much. -/
def SmallN (ns : List ND) : Prop := ∀ (k : Nat) (h : k < ns.length), ns[k].1.length ≤ 1048576 ∧ ns[k].2.length ≤ 1048576

def smallToN (ns : List ND) (k : Nat) : Prop := ∀ (i : Nat) (h : i < ns.length), i < k → ns[i].1.length ≤ 1048576 ∧ ns[i].2.length ≤ 1048576
theorem smallToN_succ {ns : List ND} {m : Int} {k : Nat} (h : smallToN ns k) (hk : k < ns.length) (hm : m ≤ 1048576) (he : (ns[k].1.length : Int) ≤ m ∧ (ns[k].2.length : Int) ≤ m) : smallToN ns (k + 1) := by
  intro i hi hlt
  by_cases e : i = k
  · subst e
    omega
  · exact h i hi (by omega)
def SzPostN (ns : List ND) (l : Int) (w : World) (e : Ending) (w' : World) : Prop :=
  ∃ r : Int, e = .returned (.int .i64 r) ∧ -1 ≤ r ∧ r ≤ l ∧ (0 ≤ r → (ns.length : Int) ≤ l ∧ SmallN ns) ∧ Below w.heap.size w w'

/-- A node of the call's own. -/
def MadeNode (w : World) (B : Nat) (ps : PS) (ks : List Int) (e : Ending) (w' : World) : Prop :=
  ∃ A c K d, e = .returned (.agg #[.slice A ps.length c, .slice K ks.length d]) ∧ OwnP w' B A c ps ∧ OwnI w' B K d ks ∧ Below w.heap.size w w'

theorem nodeInfo : (Try.prog.info? 130).map (fun i => (i.zero, i.size, i.bytes)) = some (some (.agg #[.slice none 0 0, .slice none 0 0]), 2, 48) := by kernel_rfl

/-- The new row, filled up to k. -/
def FilledN (wr : World) (g : Nat) (ns : List ND) (k : Nat) : Prop :=
  ∃ (xs : List Value) (FA FK : Nat → Option Addr) (FC FD : Nat → Nat), wr.ownsRow g 130 2 (.slice (some ⟨g, 0, none⟩) ns.length ns.length) ns.length xs ∧
    ∀ (i : Nat) (nd : ND), ns[i]? = some nd → i < k → xs[i * 2]? = some (.slice (FA i) nd.1.length (FC i)) ∧ xs[i * 2 + 1]? = some (.slice (FK i) nd.2.length (FD i)) ∧ OwnP wr (g + 1) (FA i) (FC i) nd.1 ∧ OwnI wr (g + 1) (FK i) (FD i) nd.2
theorem FilledN.start {wr : World} {g : Nat} {ns : List ND} {xs : List Value} (h : wr.ownsRow g 130 2 (.slice (some ⟨g, 0, none⟩) ns.length ns.length) ns.length xs) : FilledN wr g ns 0 :=
  ⟨xs, fun _ => none, fun _ => none, fun _ => 0, fun _ => 0, h, fun i p _ hi => absurd hi (by omega)⟩
theorem FilledN.cells {wr : World} {g : Nat} {ns : List ND} {k : Nat} (h : FilledN wr g ns k) (hk : k < ns.length) : ∃ u v, wr.cell? ⟨g, k * 2, none⟩ = some u ∧ wr.cell? ⟨g, k * 2 + 1, none⟩ = some v := by
  obtain ⟨xs, FA, FK, FC, FD, ho, hx⟩ := h
  have hl := ho.1
  refine ⟨_, _, (ho.cellAt (k * 2) (by omega)).trans (List.getElem?_eq_getElem (by omega)), (ho.cellAt (k * 2 + 1) (by omega)).trans (List.getElem?_eq_getElem (by omega))⟩
theorem FilledN.frozen {wr : World} {g : Nat} {ns : List ND} {k : Nat} (h : FilledN wr g ns k) (j : Nat) : wr.frozen? ⟨g, j, none⟩ = false := by
  obtain ⟨xs, FA, FK, FC, FD, ho, hx⟩ := h
  exact ho.frozenAt j
theorem FilledN.below {wr w' : World} {g : Nat} {ns : List ND} {k : Nat} (h : FilledN wr g ns k) (hb : Below wr.heap.size wr w') : FilledN w' g ns k := by
  obtain ⟨xs, FA, FK, FC, FD, ho, hx⟩ := h
  refine ⟨xs, FA, FK, FC, FD, ho.kept (below_grown hb) (.inr (by simp [Value.ownBlock])), fun i nd hn hi => ?_⟩
  obtain ⟨h1, h2, h3, h4⟩ := hx i nd hn hi
  exact ⟨h1, h2, h3.below hb, h4.below hb⟩
theorem own_set {w : World} {B : Nat} {e : TypeId} {size n : Nat} {v : Value} {xs : List Value} (h : w.ownsRow B e size v n xs) {g j : Nat} (hg : g < B) (u : Value) : (w.setCell ⟨g, j, none⟩ u).ownsRow B e size v n xs :=
  ownsRow_setCell_below h (a := ⟨g, j, none⟩) hg u
theorem FilledN.store {wr : World} {g : Nat} {ns : List ND} {k : Nat} (h : FilledN wr g ns k) (hk : k < ns.length) {A K : Option Addr} {c d : Nat} (hp : OwnP wr (g + 1) A c ns[k].1) (hi : OwnI wr (g + 1) K d ns[k].2) :
    FilledN ((wr.setCell ⟨g, k * 2, none⟩ (.slice A ns[k].1.length c)).setCell ⟨g, k * 2 + 1, none⟩ (.slice K ns[k].2.length d)) g ns (k + 1) := by
  obtain ⟨xs, FA, FK, FC, FD, ho, hx⟩ := h
  have hl := ho.1
  refine ⟨_, fun i => if i = k then A else FA i, fun i => if i = k then K else FK i, fun i => if i = k then c else FC i, fun i => if i = k then d else FD i, ((ho.stored (k * 2) (.slice A ns[k].1.length c)).1.stored (k * 2 + 1) (.slice K ns[k].2.length d)).1, fun i p hn hi' => ?_⟩
  by_cases e : i = k
  · subst e
    have hp' : ns[i] = p := by rw [List.getElem?_eq_getElem hk] at hn; exact Option.some.inj hn
    subst hp'
    simp only [if_true]
    refine ⟨?_, ?_, own_set (own_set hp (by omega) _) (by omega) _, own_set (own_set hi (by omega) _) (by omega) _⟩
    · rw [List.getElem?_set_ne (by omega), List.getElem?_set_self (by omega)]
    · rw [List.getElem?_set_self (by simp; omega)]
  · obtain ⟨h1, h2, h3, h4⟩ := hx i p hn (by omega)
    simp only [if_neg e]
    refine ⟨?_, ?_, own_set (own_set h3 (by omega) _) (by omega) _, own_set (own_set h4 (by omega) _) (by omega) _⟩
    · rw [List.getElem?_set_ne (by omega), List.getElem?_set_ne (by omega)]
      exact h1
    · rw [List.getElem?_set_ne (by omega), List.getElem?_set_ne (by omega)]
      exact h2
theorem FilledN.rn {wr : World} {g : Nat} {ns : List ND} (h : FilledN wr g ns ns.length) : RN wr wr.heap.size (some ⟨g, 0, none⟩) ns := by
  obtain ⟨xs, FA, FK, FC, FD, ho, hx⟩ := h
  refine .inr ⟨g, 0, FA, FK, FC, FD, rfl, (ho.lt g rfl).2, fun i nd hn => ?_⟩
  have hi := (List.getElem?_eq_some_iff.1 hn).1
  obtain ⟨h1, h2, h3, h4⟩ := hx i nd hn hi
  refine ⟨?_, ?_, h3.rp, h4.ri⟩
  · rw [Nat.zero_add]
    exact (ho.cellAt (i * 2) (by omega)).trans h1
  · rw [Nat.zero_add]
    exact (ho.cellAt (i * 2 + 1) (by omega)).trans h2
/-- Nodes of the call's own, in memory from block B on. -/
def OwnN (w : World) (B : Nat) (A : Option Addr) (c : Nat) (ns : List ND) : Prop := ∃ g, A = some ⟨g, 0, none⟩ ∧ c = ns.length ∧ B ≤ g ∧ FilledN w g ns ns.length
theorem OwnN.rn {w : World} {B c : Nat} {A : Option Addr} {ns : List ND} (h : OwnN w B A c ns) : RN w w.heap.size A ns := by
  obtain ⟨g, rfl, rfl, hB, hf⟩ := h
  exact hf.rn
theorem OwnN.below {w w' : World} {B c : Nat} {A : Option Addr} {ns : List ND} (h : OwnN w B A c ns) (hb : Below w.heap.size w w') : OwnN w' B A c ns := by
  obtain ⟨g, rfl, rfl, hB, hf⟩ := h
  exact ⟨g, rfl, rfl, hB, hf.below hb⟩
def MadeN (w : World) (ns : List ND) (e : Ending) (w' : World) : Prop := ∃ A c, e = .returned (.slice A ns.length c) ∧ OwnN w' w.heap.size A c ns ∧ Below w.heap.size w w'

/-! ### comparisons, of nodes that are alike -/
set_option maxHeartbeats 1000000 in
theorem eqNode_any (A : Option Addr) (c : Nat) (ps : PS) (K : Option Addr) (d : Nat) (ks : List Int) (A' : Option Addr) (c' : Nat) (K' : Option Addr) (d' : Nat) (w : World)
    (hr : RP w w.heap.size A ps) (hn : ps.length ≤ maxLen) (hk : RI w w.heap.size K ks) (hm : ks.length ≤ maxLen) (hr' : RP w w.heap.size A' ps) (hk' : RI w w.heap.size K' ks) :
    Calls Try.prog 114 #[.agg #[.slice A ps.length c, .slice K ks.length d], .agg #[.slice A' ps.length c', .slice K' ks.length d']] w fun e w' => e = .returned (.bool true) ∧ Below w.heap.size w w' := by
  have HB : Hid (∀ o o' : Obj, Below w.heap.size w ((w.alloc o).alloc o')) := fun o o' => ((Below.refl _ _).alloc (Nat.le_refl _) o).alloc (by simp) o'
  have HR := hid hr
  have HK := hid hk
  have HR' := hid hr'
  have HK' := hid hk'
  have HN := hid hn
  have HM := hid hm
  have e1 : decide (ps = ps) = true := by simp
  have e2 : decide (ks = ks) = true := by simp
  clear hr hk hr' hk' hn hm
  go_enter Try.func114, Try.ntmps114
  go_wp2_with (first
    | (go_at_call 53; refine (eqPairS_any A A' c c' ps ps _ ((HR.out.below (HB.out _ _)).more (HB.out _ _).size) ((HR'.out.below (HB.out _ _)).more (HB.out _ _).size) HN.out).mono ?_; rintro e w1 ⟨rfl, hb1⟩; have HB1 := hid ((HB.out _ _).trans (hb1.mono (HB.out _ _).size)); have hx2 : w1.cell? ⟨w.heap.size, 1, none⟩ = some (.slice K ks.length d) := (hb1.cell (p := ⟨w.heap.size, 1, none⟩) (by simp; omega)).trans (by go_simp); have hx3 : w1.cell? ⟨w.heap.size + 1, 1, none⟩ = some (.slice K' ks.length d') := (hb1.cell (p := ⟨w.heap.size + 1, 1, none⟩) (by simp)).trans (by go_simp); clear hb1)
    | (go_at_call 20; refine (eqInt64S_any K K' d d' ks ks w.heap.size _ (HK.out.below HB1.out) (HK'.out.below HB1.out) HM.out).mono ?_; rintro e w2 ⟨rfl, hw2⟩))
  go_ret
  exact ⟨rfl, HB1.out.trans (hw2.below _)⟩

set_option maxHeartbeats 1000000 in
theorem eqNodeS_any (A A' : Option Addr) (c c' : Nat) (ns : List ND) (w : World) (hr : RN w w.heap.size A ns) (hr' : RN w w.heap.size A' ns) (hf : FitsN ns) (hn : ns.length ≤ maxLen) :
    Calls Try.prog 52 #[.slice A ns.length c, .slice A' ns.length c'] w fun e w' => e = .returned (.bool true) ∧ Below w.heap.size w w' := by
  unfold maxLen at hn
  have g0 : ((ns.length : Int) != (ns.length : Int)) = false := by simp
  have HFN := hid hf
  clear hf
  go_enter Try.func52, Try.ntmps52
  go_wp2_with fail
  go_loopw [5] (fun i wr => ∃ k : Nat, k ≤ ns.length ∧ i = .int .i64 k ∧ Below w.heap.size w wr) (fun i _ => ns.length - (intOf i).toNat)
  case atStart => exact ⟨0, Nat.zero_le _, rfl, Below.refl _ w⟩
  case round =>
    obtain ⟨k, hk, rfl, hbw⟩ := hrel
    by_cases hlt : k < ns.length
    · obtain ⟨b, off, A1, K1, c1, d1, rfl, hb, hc1, hc2, hrp, hri⟩ := (hr.below hbw).at_ hlt
      obtain ⟨b', off', A2, K2, c2, d2, rfl, hb', hc3, hc4, hrp', hri'⟩ := (hr'.below hbw).at_ hlt
      have HD := hid hbw
      have HP := hid (hrp.more hbw.size)
      have HI := hid (hri.more hbw.size)
      have HP' := hid (hrp'.more hbw.size)
      have HI' := hid (hri'.more hbw.size)
      have HF := hid (HFN.out.get hlt)
      clear hbw hr hr' hrp hri hrp' hri'
      have e5 : (0 : Int) ≤ (k : Int) := by omega
      have e6 : (k : Int) < (ns.length : Int) := by omega
      go_wp2_with fail
      go_region_held3 (fun w' => w'.cell? ⟨b, off + k * 2, none⟩ = some (.slice A1 ns[k].1.length c1) ∧ w'.cell? ⟨b, off + k * 2 + 1, none⟩ = some (.slice K1 ns[k].2.length d1) ∧ w'.cell? ⟨b', off' + k * 2, none⟩ = some (.slice A2 ns[k].1.length c2) ∧ w'.cell? ⟨b', off' + k * 2 + 1, none⟩ = some (.slice K2 ns[k].2.length d2)) (go_keep)
        (first | (go_at_call 114; refine (eqNode_any A1 c1 ns[k].1 K1 d1 ns[k].2 A2 c2 K2 d2 _ (HP.out.drewN _) HF.out.2.1 (HI.out.below (Below.refl _ _).drew) HF.out.2.2 (HP'.out.drewN _) (HI'.out.below (Below.refl _ _).drew)).mono ?_; rintro e w' ⟨rfl, hw'⟩; have hz1 : w'.cell? ⟨b, off + k * 2, none⟩ = some (.slice A1 ns[k].1.length c1) := (hw'.cell (p := ⟨b, off + k * 2, none⟩) (by have := HD.out.size; simp; omega)).trans (by first | exact hc1 | go_simp); have hz2 : w'.cell? ⟨b, off + k * 2 + 1, none⟩ = some (.slice K1 ns[k].2.length d1) := (hw'.cell (p := ⟨b, off + k * 2 + 1, none⟩) (by have := HD.out.size; simp; omega)).trans (by first | exact hc2 | go_simp); have hz3 : w'.cell? ⟨b', off' + k * 2, none⟩ = some (.slice A2 ns[k].1.length c2) := (hw'.cell (p := ⟨b', off' + k * 2, none⟩) (by have := HD.out.size; simp; omega)).trans (by first | exact hc3 | go_simp); have hz4 : w'.cell? ⟨b', off' + k * 2 + 1, none⟩ = some (.slice K2 ns[k].2.length d2) := (hw'.cell (p := ⟨b', off' + k * 2 + 1, none⟩) (by have := HD.out.size; simp; omega)).trans (by first | exact hc4 | go_simp); have HW := hid (HD.out.drew.trans (hw'.mono HD.out.size)); clear hw'))
      go_wp2_with fail
      go_roundw
      case rel => exact ⟨k + 1, by omega, by go_num, HW.out⟩
      case measure => simp [intOf]; omega
    · obtain rfl : k = ns.length := by omega
      have HD := hid hbw
      clear hbw hr hr'
      go_wp2_with fail
      go_ret
      exact ⟨rfl, HD.out⟩
end Go.Proofs.Ytepgcflkgicpiaa
