/-
  Files, as pairs (tools/portfile.py wrote this out of Marks MadeKit Open PairEq).
-/
import Derived.Test.YtaiehccpefjbfaaMarks
import Derived.Test.YtaiehccpefjbfaaFlB
import Derived.Test.YtaiehccpefjbfaaMadeKit
import Derived.Test.YtaiehccpefjbfaaOpen
import Derived.Test.YtaiehccpefjbfaaPairEq
namespace Go.Proofs.Ytaiehccpefjbfaa
open Go.ChangeShapes Go.WideShapes Go.ChangeAt Go.RowKit Go.Deep

/-- A row of whose cells m are marked. -/
def MarkedF (wr : World) (B g c n k0 m : Nat) : Prop :=
  ∃ xs, wr.ownsRow B 138 2 (.slice (some ⟨g, 0, none⟩) n c) n xs ∧ ∀ j, j < m → j < n * 2 → xs[j]? = some (.string (mtxt (k0 + j)))

theorem MarkedF.grown {wr w' : World} {B g c n k0 m : Nat} (h : MarkedF wr B g c n k0 m) (hb : Below wr.heap.size wr w') : MarkedF w' B g c n k0 m := by
  obtain ⟨xs, ho, hx⟩ := h
  exact ⟨xs, ho.kept (below_grown hb) (.inr (by simp [Value.ownBlock])), hx⟩

theorem MarkedF.cell {wr : World} {B g c n k0 m : Nat} (h : MarkedF wr B g c n k0 m) {j : Nat} (hj : j < n * 2) : ∃ u, wr.cell? ⟨g, j, none⟩ = some u := by
  obtain ⟨xs, ho, hx⟩ := h
  have hl := ho.1
  exact ⟨_, (ho.cellAt j hj).trans (List.getElem?_eq_getElem (by omega))⟩

theorem MarkedF.frozen {wr : World} {B g c n k0 m : Nat} (h : MarkedF wr B g c n k0 m) (j : Nat) : wr.frozen? ⟨g, j, none⟩ = false := by
  obtain ⟨xs, ho, hx⟩ := h
  exact ho.frozenAt j

theorem MarkedF.store {wr : World} {B g c n k0 m : Nat} (h : MarkedF wr B g c n k0 m) (hm : m < n * 2) : MarkedF (wr.setCell ⟨g, m, none⟩ (.string (mtxt (k0 + m)))) B g c n k0 (m + 1) := by
  obtain ⟨xs, ho, hx⟩ := h
  have hl := ho.1
  refine ⟨_, (ho.stored m (.string (mtxt (k0 + m)))).1, fun j hj hn => ?_⟩
  by_cases e : j = m
  · subst e
    rw [List.getElem?_set_self (by omega)]
  · rw [List.getElem?_set_ne (by omega)]
    exact hx j (by omega) hn

theorem MarkedF.end_ {wr : World} {B g c n k0 : Nat} (h : MarkedF wr B g c n k0 (n * 2)) : wr.ownsRow B 138 2 (.slice (some ⟨g, 0, none⟩) n c) n (pcells (marksL n k0)) := by
  obtain ⟨xs, ho, hx⟩ := h
  have hl := ho.1
  have : xs = pcells (marksL n k0) := pcells_ext _ _ (by rw [hl, marksL_len]) fun i p hp => by
    obtain ⟨hi, rfl⟩ := List.getElem?_eq_some_iff.1 hp
    rw [marksL_get]
    rw [marksL_len] at hi
    refine ⟨?_, ?_⟩
    · rw [hx _ (by omega) (by omega), show k0 + i * 2 = k0 + 2 * i by omega]
    · rw [hx _ (by omega) (by omega), show k0 + (i * 2 + 1) = k0 + 2 * i + 1 by omega]
  rwa [this] at ho

/-- What markPairS leaves. -/
def MarkPostF (B : Nat) (A : Option Addr) (c n k : Nat) (w : World) (e : Ending) (w' : World) : Prop :=
  e = .returned (.int .i64 ((k + 2 * n : Nat) : Int)) ∧ w'.ownsRow B 138 2 (.slice A n c) n (pcells (marksL n k)) ∧ w.grownBy w' (Value.ownBlock (.slice A n c))

set_option maxHeartbeats 1000000 in
theorem markPairS_anyF (B : Nat) (A : Option Addr) (c : Nat) (ps : PS) (k : Nat) (w : World) (ho : OwnPF w B A c ps) (hn : ps.length ≤ 2000000) (hk : k ≤ 10000000000000) :
    Calls Try.prog 56 #[.slice A ps.length c, .int .i64 k] w (MarkPostF B A c ps.length k w) := by
  rcases ho.2 with ⟨hv, h0⟩ | ⟨g, cap, cur, hv, hg, hh, hnc, _⟩
  · injection hv with e1 e2 e3
    subst e1 e3
    obtain rfl : ps = [] := List.eq_nil_of_length_eq_zero h0
    clear h0 e2 ho
    go_enter Try.func56, Try.ntmps56
    go_wp2_with fail
    go_loopw [1, 5] (fun q i wr => i = .int .i64 0 ∧ q = .int .i64 k ∧ wr = w) (fun _ _ _ => 0)
    case atStart => exact ⟨rfl, rfl, rfl⟩
    case round =>
      obtain ⟨rfl, rfl, rfl⟩ := hrel
      go_wp2_with fail
      go_ret
      exact ⟨rfl, World.ownsRow_nil _ _ _ _, ⟨rfl, rfl, rfl, Nat.le_refl _, fun _ _ _ => rfl⟩⟩
  · injection hv with e1 e2 e3
    subst e1 e3
    have hM : MarkedF w B g c ps.length k 0 := ⟨_, ho, fun j hj => absurd hj (by omega)⟩
    have HM := hid hM
    clear hM ho hh e2 hg
    generalize ps.length = n at *
    go_enter Try.func56, Try.ntmps56
    go_wp2_with fail
    go_loopw [1, 5] (fun q i wr => ∃ j m : Nat, j ≤ n ∧ m = k + 2 * j ∧ i = .int .i64 j ∧ q = .int .i64 m ∧ MarkedF wr B g c n k (j * 2) ∧ w.grownBy wr (some g)) (fun _ i _ => n - (intOf i).toNat)
    case atStart => exact ⟨0, k, Nat.zero_le _, rfl, rfl, rfl, HM.out, ⟨rfl, rfl, rfl, Nat.le_refl _, fun _ _ _ => rfl⟩⟩
    case round =>
      obtain ⟨j, m, hj, hm, rfl, rfl, hmk, hgr⟩ := hrel
      have HK := hid hmk
      have HG := hid hgr
      have HE := hid hm
      have hmb : m ≤ 10000004001000 := by omega
      clear hmk hgr hm
      by_cases hlt : j < n
      · go_wp2_with (first
          | (go_at_call 110; (with_reducible refine (markText_at _ m _ rfl (by omega)).mono ?_); rintro e w1 ⟨rfl, hw1⟩; have HK1 := hid (HK.out.grown hw1); have f1 := HK1.out.frozen (j * 2); obtain ⟨u1, hu1⟩ := HK1.out.cell (j := j * 2) (by omega); have HG1 := hid (grown_trans HG.out (grown_below hw1)); clear hw1)
          | (go_at_call 110; refine (markText_at _ (m + 1) _ (by omega) (by omega)).mono ?_; rintro e w2 ⟨rfl, hw2⟩; have hst := HK1.out.store (show j * 2 < n * 2 by omega); rw [show k + j * 2 = m from by have := HE.out; omega] at hst; have HK2 := hid (hst.grown hw2); have HG2 := hid (grown_trans (grown_trans HG1.out (grown_set w1 g (j * 2) _)) (grown_below hw2)); have f2 := HK2.out.frozen (j * 2 + 1); obtain ⟨u2, hu2⟩ := HK2.out.cell (j := j * 2 + 1) (by omega); clear hw2 hst))
        have hst := HK2.out.store (show j * 2 + 1 < n * 2 by omega)
        rw [show k + (j * 2 + 1) = m + 1 from by have := HE.out; omega] at hst
        refine ⟨⟨j + 1, m + 2, by omega, by have := HE.out; omega, by go_num, by go_num, by rw [show (j + 1) * 2 = j * 2 + 1 + 1 by omega]; exact hst, grown_trans HG2.out (grown_set w2 g (j * 2 + 1) _)⟩, by simp [intOf]; omega⟩
      · obtain rfl : j = n := by omega
        go_wp2_with fail
        go_ret
        exact ⟨ret_int (by have := HE.out; omega), HK.out.end_, HG.out⟩

set_option maxHeartbeats 1000000 in
theorem heldPairS_anyF (A : Option Addr) (c n k : Nat) (w : World) (hr : RP w w.heap.size A (marksL n k)) (hn : n ≤ 2000000) (hk : k ≤ 10000000000000) :
    Calls Try.prog 58 #[.slice A n c, .int .i64 k] w fun e w' => e = .returned (.int .i64 ((k + 2 * n : Nat) : Int)) ∧ Below w.heap.size w w' := by
  have HR := hid hr
  clear hr
  go_enter Try.func58, Try.ntmps58
  go_wp2_with fail
  go_loopw [1, 5] (fun q i wr => ∃ j m : Nat, j ≤ n ∧ m = k + 2 * j ∧ i = .int .i64 j ∧ q = .int .i64 m ∧ Below w.heap.size w wr) (fun _ i _ => n - (intOf i).toNat)
  case atStart => exact ⟨0, k, Nat.zero_le _, rfl, rfl, rfl, Below.refl _ _⟩
  case round =>
    obtain ⟨j, m, hj, hm, rfl, rfl, hbw⟩ := hrel
    have hmb : m ≤ 10000004001000 := by omega
    by_cases hlt : j < n
    · obtain ⟨b, off, rfl, hb, hc1, hc2⟩ := (HR.out.below hbw).at_ (k := j) (by rw [marksL_len]; exact hlt)
      rw [marksL_get] at hc1 hc2
      simp only [← hm] at hc1 hc2
      have HD := hid hbw
      have HE := hid hm
      have HW2 : Hid (∀ w2 : World, Below w.heap.size w w2 → w2.cell? ⟨b, off + j * 2 + 1, none⟩ = some (.string (mtxt (m + 1)))) := fun w2 h2 => (h2.cell (p := ⟨b, off + j * 2 + 1, none⟩) hb).trans ((hbw.cell (p := ⟨b, off + j * 2 + 1, none⟩) hb).symm.trans hc2)
      clear hbw hm hc2
      have e5 : (0 : Int) ≤ (j : Int) := by omega
      have e6 : (j : Int) < (n : Int) := by omega
      have hself : ((mtxt m).toList == (mtxt m).toList) = true := by simp
      have hself2 : ((mtxt (m + 1)).toList == (mtxt (m + 1)).toList) = true := by simp
      go_wp2_with fail
      go_region_held3 (fun w' => w'.cell? ⟨b, off + j * 2, none⟩ = some (.string (mtxt m))) (go_keep)
        (first | (go_at_call 110; refine (markText_at _ m _ rfl (by omega)).mono ?_; rintro e w1 ⟨rfl, hw1⟩; have hk1 : w1.cell? ⟨b, off + j * 2, none⟩ = some (.string (mtxt m)) := (hw1.cell (p := ⟨b, off + j * 2, none⟩) (by have := HD.out.size; simp; omega)).trans (by first | exact hc1 | go_simp); have HB1 := hid (HD.out.drew.trans (hw1.mono HD.out.size)); clear hw1))
      have hc3 := HW2.out w1 HB1.out
      clear hk1 hc1
      go_wp2_with fail
      go_region_held3 (fun w' => w'.cell? ⟨b, off + j * 2 + 1, none⟩ = some (.string (mtxt (m + 1)))) (go_keep)
        (first | (go_at_call 110; refine (markText_at _ (m + 1) _ (by omega) (by omega)).mono ?_; rintro e w3 ⟨rfl, hw3⟩; have hk3 : w3.cell? ⟨b, off + j * 2 + 1, none⟩ = some (.string (mtxt (m + 1))) := (hw3.cell (p := ⟨b, off + j * 2 + 1, none⟩) (by have := HB1.out.size; simp; omega)).trans (by first | exact hc3 | go_simp); have HB3 := hid (HB1.out.drew.trans (hw3.mono HB1.out.size)); clear hw3))
      clear hk3 hc3
      go_wp2_with fail
      refine ⟨⟨j + 1, m + 2, by omega, by have := HE.out; omega, by go_num, by go_num, HB3.out⟩, by simp [intOf]; omega⟩
    · obtain rfl : j = n := by omega
      have HE := hid hm
      have HD := hid hbw
      clear hbw hm
      go_wp2_with fail
      go_ret
      exact ⟨ret_int (by have := HE.out; omega), HD.out⟩

theorem OwnPF.grown_lo {w w' : World} {B c : Nat} {A : Option Addr} {ps : PS} {row : Option Nat} (h : OwnPF w B A c ps) (hg : w.grownBy w' row) (hr : ∀ k, row = some k → k < B) : OwnPF w' B A c ps := by
  refine World.ownsRow.kept h hg ?_
  cases hv : Value.ownBlock (.slice A ps.length c) with
  | none => exact .inl rfl
  | some k =>
    right
    intro e
    have h1 := (h.size k hv).1
    have h2 := hr k e.symm
    omega

theorem OwnPF.keepG {w w' : World} {B c : Nat} {A : Option Addr} {ps : PS} {row : Option Nat} (h : OwnPF w B A c ps) (hg : w.grownBy w' row) (hne : ∀ k, Value.ownBlock (.slice A ps.length c) = some k → some k ≠ row) : OwnPF w' B A c ps := by
  refine World.ownsRow.kept h hg ?_
  cases hv : Value.ownBlock (.slice A ps.length c) with
  | none => exact .inl rfl
  | some k => exact .inr (hne k hv)

theorem lawPairCellsF : Try.prog.cellsOf 136 = 2 := by kernel_rfl

set_option maxRecDepth 100000 in
theorem open_pairsF {H : Type} {enc : TypeId × Value → H} {W : World} {base : Nat} {v : Value} {d : DataW H} {p : List MemPlace}
    (hval : Value.okWide Try.prog W .any base 22 v) (h : DataW.Trod enc Try.prog W 0 (fun _ => true) true 22 v d p) :
    ∃ (A : Option Addr) (c : Nat) (ps : PS), v = .slice A ps.length c ∧ RP W W.heap.size A ps ∧ Fits ps ∧ ps.length ≤ maxLen := by
  obtain ⟨a0, len0, cap0, rfl⟩ := okWide_slice Try.underlying22 hval
  obtain ⟨fuel, hf⟩ := h
  rcases open_slice Try.underlying22 (cs := [.slice a0 len0 cap0]) (by simpa [Value.cells] using hf) with ⟨h0, _⟩ | ⟨a, len, cap, m, n, D, Pl, h0, _, hl, hm, hmm, _, hi⟩
  · simp only [List.cons.injEq, and_true] at h0
    refine ⟨none, 0, [], h0, .inl rfl, fun p hp => by simp at hp, Nat.zero_le _⟩
  · simp only [List.cons.injEq, and_true] at h0
    have hcell : ∀ i, i < len → ∃ p : BB, W.cell? (a.add (i * 2)) = some (.string p.1) ∧ W.cell? (a.add (i * 2 + 1)) = some (.string p.2) ∧ p.1.size ≤ maxLen ∧ p.2.size ≤ maxLen := by
      intro i hlt
      obtain ⟨cs, hc, ht⟩ := hi i (by rw [hmm, if_pos rfl]; omega)
      rw [lawPairCellsF] at hc
      obtain ⟨_, hcl, hat⟩ := World.cells?_some hc
      obtain ⟨y0, y1, n', _, _, h1, h2⟩ := trod_struct2 Try.underlying136 ht
      match cs, hcl with
      | [c0, c1], _ =>
        simp only [stringCells] at h1 h2
        obtain ⟨s0, e0, _, z0⟩ := DataW.trod_string Try.underlying9 h1
        obtain ⟨s1, e1, _, z1⟩ := DataW.trod_string Try.underlying9 h2
        simp at e0 e1
        subst e0 e1
        refine ⟨(s0, s1), ?_, ?_, z0, z1⟩
        · have := hat 0 (by omega)
          simpa [Go.Deep.add_add] using this
        · have := hat 1 (by omega)
          simpa [Go.Deep.add_add] using this
    obtain ⟨f, hf'⟩ := choose_lt hcell
    refine ⟨some a, cap, (List.range len).map f, by simpa using h0, ?_, ?_, ?_⟩
    · by_cases h0 : len = 0
      · left
        simp [h0]
      · right
        obtain ⟨b, off, spot⟩ := a
        have h00 := (hf' 0 (by omega)).1
        have hspot : spot = none := by simpa [Addr.add] using World.cell?_spot h00
        subst hspot
        refine ⟨b, off, rfl, ?_, fun i p hp => ?_⟩
        · have := World.block_lt_of_cell? W _ h00
          simpa [Addr.add] using this
        · have hlt : i < len := by have := (List.getElem?_eq_some_iff.1 hp).1; simpa using this
          have hp' : f i = p := by simpa [hlt] using hp
          obtain ⟨h1, h2, _⟩ := hf' i hlt
          rw [Addr.add_lit] at h1 h2
          subst hp'
          exact ⟨h1, by rw [Nat.add_assoc]; exact h2⟩
    · intro p hp
      obtain ⟨i, hi', rfl⟩ := List.mem_map.1 hp
      have := hf' i (by simpa using hi')
      exact ⟨this.2.2.1, this.2.2.2⟩
    · simp
      omega

theorem pairFieldsF : Try.prog.underlying 138 = some (.struct (Try.prog.fieldsOf 138)) := by kernel_rfl

theorem pairHeldF : Try.prog.stoodInHeld 138 = false := by kernel_rfl

theorem pairGuardF : Try.prog.eqGuardType Try.prog.depth 138 = false := by kernel_rfl

theorem neqPairF (p q : BB) (w : World) :
    (binOp .neq 138 (.agg #[.string p.1, .string p.2]) (.agg #[.string q.1, .string q.2])).run Try.prog w = .ok (.bool (!decide (p = q))) w := by
  have u9 := Try.underlying9
  have a9 := Try.isAgg9
  have z9 := Try.sizeOf9
  rw [run_neq_struct, show (10000 : Nat) = 9999 + 1 from rfl, run_equalIn_agg w 9999 138 _ _ pairFieldsF pairHeldF]
  simp only [Program.fieldsOf, Try.underlying138]
  by_cases h1 : p.1 = q.1
  · by_cases h2 : p.2 = q.2
    · have g1 := eqS_true h1
      have g2 := eqS_true h2
      have e : decide (p = q) = true := by simp [Prod.ext_iff, h1, h2]
      rw [e]
      clear h1 h2 e
      go_simp
    · have g1 := eqS_true h1
      have g2 := eqS_false h2
      have e : decide (p = q) = false := by simp [Prod.ext_iff, h2]
      rw [e]
      clear h1 h2 e
      go_simp
  · have g1 := eqS_false h1
    have e : decide (p = q) = false := by simp [Prod.ext_iff, h1]
    rw [e]
    clear h1 e
    go_simp

theorem eqlPairF (p q : BB) (w : World) :
    (binOp .eql 138 (.agg #[.string p.1, .string p.2]) (.agg #[.string q.1, .string q.2])).run Try.prog w = .ok (.bool (decide (p = q))) w := by
  have u9 := Try.underlying9
  have a9 := Try.isAgg9
  have z9 := Try.sizeOf9
  rw [run_eql_struct, show (10000 : Nat) = 9999 + 1 from rfl, run_equalIn_agg w 9999 138 _ _ pairFieldsF pairHeldF]
  simp only [Program.fieldsOf, Try.underlying138]
  by_cases h1 : p.1 = q.1
  · by_cases h2 : p.2 = q.2
    · have g1 := eqS_true h1
      have g2 := eqS_true h2
      have e : decide (p = q) = true := by simp [Prod.ext_iff, h1, h2]
      rw [e]
      clear h1 h2 e
      go_simp
    · have g1 := eqS_true h1
      have g2 := eqS_false h2
      have e : decide (p = q) = false := by simp [Prod.ext_iff, h2]
      rw [e]
      clear h1 h2 e
      go_simp
  · have g1 := eqS_false h1
    have e : decide (p = q) = false := by simp [Prod.ext_iff, h1]
    rw [e]
    clear h1 e
    go_simp
end Go.Proofs.Ytaiehccpefjbfaa
