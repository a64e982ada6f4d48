/-
  What the exact laws of ops go through: rows of their own, append, sizes, copies, comparisons (tools/mkdop.py).
-/
import Derived.Test.YtaiehccpefjbfaaToPair
import Derived.Test.YtaiehccpefjbfaaRow3
import Derived.Test.YtaiehccpefjbfaaDop
import Derived.Maps.AppendAt
namespace Go.Proofs.Ytaiehccpefjbfaa
open Go.RowKit

theorem dopInfo : (Try.prog.info? 37).map (fun i => (i.zero, i.size, i.bytes)) = some (some (.agg #[.int .i64 0, .string ⟨#[]⟩, .string ⟨#[]⟩, .string ⟨#[]⟩]), 4, 56) := by kernel_rfl

/-- A slice of changes of the call's own. -/
def OwnD (w : World) (B : Nat) (A : Option Addr) (c : Nat) (hs : DS) : Prop := w.ownsRow B 37 4 (.slice A hs.length c) hs.length (dcells hs)
theorem OwnD.rh {w : World} {B c : Nat} {A : Option Addr} {hs : DS} (h : OwnD w B A c hs) : RD w w.heap.size A hs := RD.of_own h
theorem OwnD.below {w w' : World} {B c : Nat} {A : Option Addr} {hs : DS} (h : OwnD w B A c hs) (hb : Below w.heap.size w w') : OwnD w' B A c hs := h.kept (below_grown hb) (by
  cases hv : Value.ownBlock (.slice A hs.length c) <;> simp)
theorem OwnD.mono {w : World} {B B' c : Nat} {A : Option Addr} {hs : DS} (h : OwnD w B A c hs) (hB : B' ≤ B) : OwnD w B' A c hs := by
  refine ⟨h.1, ?_⟩
  rcases h.2 with hn | ⟨g, cap, cur, hv, hb, rest⟩
  · exact .inl hn
  · exact .inr ⟨g, cap, cur, hv, by omega, rest⟩
theorem OwnD.cap {w : World} {B : Nat} {K : Option Addr} {d : Nat} {ks : DS} (h : OwnD w B K d ks) : ks.length ≤ d ∧ d ≤ maxLen := by
  rcases h.2 with ⟨hv, hn⟩ | ⟨g, cap, cur, hv, _, _, h1, h2, _⟩
  · injection hv with _ _ hd
    exact ⟨by omega, by omega⟩
  · injection hv with _ _ hd
    exact ⟨by omega, by omega⟩
def MadeD (w : World) (B : Nat) (hs : DS) (e : Ending) (w' : World) : Prop := ∃ A c, e = .returned (.slice A hs.length c) ∧ OwnD w' B A c hs ∧ Below w.heap.size w w'

theorem OwnD.size {w : World} {B c : Nat} {A : Option Addr} {hs : DS} (h : OwnD w B A c hs) : ∀ k, Value.ownBlock (.slice A hs.length c) = some k → B ≤ k ∧ k < w.heap.size := World.ownsRow.lt h
theorem OwnD.made {w : World} {B : Nat} (hB : B ≤ w.heap.size) (cs : Array Value) (c : Nat) (hs : cs.size = c * 4) (hc : c ≤ maxLen) : OwnD (w.alloc (.cells cs 37)) B (some ⟨w.heap.size, 0, none⟩) c [] :=
  World.ownsRow_made w cs c hB hc hs
theorem OwnD.nil_ (w : World) (B : Nat) : OwnD w B none 0 [] := World.ownsRow_nil w B _ _
/-- It is as it was, where its block is. -/
theorem OwnD.stay {w w' : World} {B c : Nat} {A : Option Addr} {hs : DS} (h : OwnD w B A c hs) (hk : ∀ k, Value.ownBlock (.slice A hs.length c) = some k → w'.heap[k]? = w.heap[k]?) : OwnD w' B A c hs := by
  obtain ⟨h1, h2⟩ := h
  refine ⟨h1, ?_⟩
  rcases h2 with h2 | ⟨g, cap, cur, hv, hg, hh, r⟩
  · exact Or.inl h2
  · rw [hv] at hk
    exact Or.inr ⟨g, cap, cur, hv, hg, by rw [hk g rfl]; exact hh, r⟩
theorem OwnD.keepG {w w' : World} {B c : Nat} {A : Option Addr} {hs : DS} {row : Option Nat} (h : OwnD w B A c hs) (hg : w.grownBy w' row) (hne : ∀ k, Value.ownBlock (.slice A hs.length c) = some k → some k ≠ row) : OwnD w' B A c hs :=
  h.stay fun k hk => hg.block k (h.size k hk).2 (hne k hk)
/-- What an append leaves. -/
structure AppD (w : World) (B : Nat) (A0 : Option Addr) (n0 c0 : Nat) (rs : DS) (A' : Option Addr) (c' : Nat) (w' : World) : Prop where
  own : OwnD w' B A' c' rs
  grown : w.grownBy w' (Value.ownBlock (.slice A0 n0 c0))
  at_ : Value.ownBlock (.slice A' rs.length c') = Value.ownBlock (.slice A0 n0 c0) ∨ Value.ownBlock (.slice A' rs.length c') = some w.heap.size
theorem AppD.below {w w' : World} {B n0 c0 c' : Nat} {A0 A' : Option Addr} {qs rs : DS} (h : AppD w B A0 n0 c0 rs A' c' w') (ho : OwnD w B A0 c0 qs) (hn : n0 = qs.length) (hB : B ≤ w.heap.size) : Below B w w' := by
  subst hn
  exact (Below.refl _ _).grown h.grown hB (fun k hk => (ho.size k hk).1)

theorem run_append_rd {P : Program} (w : World) (t ty : TypeId) (i : TypeInfo) (ht : P.underlying t = some (.slice 37)) (hi : P.info? 37 = some i)
    (hz : i.zero = some (.agg #[.int .i64 0, .string ⟨#[]⟩, .string ⟨#[]⟩, .string ⟨#[]⟩])) (hsize : i.size = 4) (hby : i.bytes = 56)
    (B : Nat) (A0 : Option Addr) (c0 : Nat) (qs : DS) (hown : OwnD w B A0 c0 qs) (B' : Nat) (A : Option Addr) (c : Nat) (ps : DS) (hr : RD w B' A ps)
    (hlen : qs.length + ps.length ≤ 4000000) (hbase : B ≤ w.heap.size) :
    ∃ A' c' w', (Builtin.append_ #[t, t] ty #[.slice A0 qs.length c0, .slice A ps.length c]).run P w = .ok (.slice A' (qs ++ ps).length c') w' ∧ AppD w B A0 qs.length c0 (qs ++ ps) A' c' w' := by
  rcases A with _ | ad
  · have h0 : ps = [] := by
      rcases hr with h | ⟨b, off, e, _⟩
      · exact h
      · cases e
    subst h0
    refine ⟨A0, c0, w, ?_, by simpa using hown, ⟨rfl, rfl, rfl, Nat.le_refl _, fun _ _ _ => rfl⟩, .inl (by simp)⟩
    rcases hown.2 with ⟨hv, hn⟩ | ⟨g, cap, cur, hv, _, _, hnc, _⟩
    · injection hv with e1 e2 e3
      subst e1 e3
      simp [Builtin.append_, run_underlying ht, sizeOf, typeInfo, hi, Builtin.lenOf, Builtin.firstCells, hn]
    · injection hv with e1 e2 e3
      subst e1 e3
      simp [Builtin.append_, run_underlying ht, sizeOf, typeInfo, hi, Builtin.lenOf, Builtin.firstCells, hnc, storeCells]
  · have dcells : ∀ j u, (dcells ps)[j]? = some u → w.cell? (ad.add j) = some u := by
      intro j u hu
      rcases hr with rfl | ⟨b, off, e, hb, hc⟩
      · simp [dcells] at hu
      · injection e with e
        subst e
        rw [Addr.add_lit]
        have hj : j < ps.length * 4 := by
          have := (List.getElem?_eq_some_iff.1 hu).1
          rwa [dcells_length] at this
        have hl : j / 4 < ps.length := by omega
        have hp := List.getElem?_eq_getElem hl
        have hd : j = (j / 4) * 4 ∨ j = (j / 4) * 4 + 1 ∨ j = (j / 4) * 4 + 2 ∨ j = (j / 4) * 4 + 3 := by omega
        obtain ⟨c0, c1, c2, c3⟩ := hc _ _ hp
        rcases hd with hd | hd | hd | hd
        · have hk := dcells_kind ps _ _ hp
          rw [← hd, hu] at hk
          rw [Option.some.inj hk]
          rwa [← hd] at c0
        · have hk := dcells_name ps _ _ hp
          rw [← hd, hu] at hk
          rw [Option.some.inj hk]
          rw [Nat.add_assoc] at c1
          rwa [← hd] at c1
        · have hk := dcells_to ps _ _ hp
          rw [← hd, hu] at hk
          rw [Option.some.inj hk]
          rw [Nat.add_assoc] at c2
          rwa [← hd] at c2
        · have hk := dcells_data ps _ _ hp
          rw [← hd, hu] at hk
          rw [Option.some.inj hk]
          rw [Nat.add_assoc] at c3
          rwa [← hd] at c3
    obtain ⟨v', w', hrun, h2, h3, _, h5⟩ := run_append_own_at (P := P) w B t ty 37 i _ 4 56 ht hi hz hsize hby rfl (by omega) (.slice A0 qs.length c0) qs.length (Go.Proofs.Ytaiehccpefjbfaa.dcells qs) hown ad ps.length c (Go.Proofs.Ytaiehccpefjbfaa.dcells ps) (dcells_length ps) dcells (dcells_one ps) (by unfold maxLen; omega) (by omega) hbase
    rw [← dcells_append] at h2
    rcases h2.2 with ⟨rfl, hn⟩ | ⟨g, cap, cur, rfl, r⟩
    · have e1 : qs = [] := List.eq_nil_of_length_eq_zero (by omega)
      have e2 : ps = [] := List.eq_nil_of_length_eq_zero (by omega)
      subst e1 e2
      exact ⟨none, 0, w', hrun, h2, h3, h5⟩
    · rw [← List.length_append] at h2 hrun h5
      exact ⟨_, _, w', hrun, h2, h3, h5⟩

theorem wpList_append_rd {P : Program} (w : World) {ops : Array Oper} {rest : List Oper} {o : Oper} {a : Act} {Q : Exit → Act → World → Prop} (hgd : o.guard = none) (s x : Operand) (t : TypeId)
    (ho : o.op = .call { callee := .builtin .append, args := #[s, x], argTypes := #[t, t] })
    (i : TypeInfo) (ht : P.underlying t = some (.slice 37)) (hi : P.info? 37 = some i)
    (hz : i.zero = some (.agg #[.int .i64 0, .string ⟨#[]⟩, .string ⟨#[]⟩, .string ⟨#[]⟩])) (hsize : i.size = 4) (hby : i.bytes = 56)
    (B : Nat) (A0 : Option Addr) (n0 c0 : Nat) (qs : DS) (hs : a.eval s = .slice A0 n0 c0) (hn0 : n0 = qs.length) (hown : OwnD w B A0 c0 qs)
    (B' : Nat) (A : Option Addr) (n c : Nat) (ps : DS) (hx : a.eval x = .slice A n c) (hn : n = ps.length) (hr : RD w B' A ps)
    (hlen : qs.length + ps.length ≤ 4000000) (hbase : B ≤ w.heap.size)
    (h : ∀ A' n' c' w', n' = (qs ++ ps).length → AppD w B A0 n0 c0 (qs ++ ps) A' c' w' → wpList P ops Q rest (a.put o.dst (.slice A' n' c')) w') : wpList P ops Q (o :: rest) a w := by
  subst hn0 hn
  refine wpList_plain hgd fun K hK => ?_
  obtain ⟨A', c', w', hrun, h2⟩ := run_append_rd (P := P) w t o.type i ht hi hz hsize hby B A0 c0 qs hown B' A c ps hr hlen hbase
  unfold Oper.wp execOp
  simp only [ho, resolve, invoke, builtin, Sem.run_bind, Sem.run_pure, Result.andThen_ok, List.map_toArray, List.map_cons, List.map_nil, hs, hx, hrun]
  exact hK _ _ (h A' _ c' w' rfl h2)
theorem step_append_rd {P : Program} (w : World) {ops : Array Oper} {o : Oper} {a : Act} {K : Act → World → Prop} {Q : Exit → Act → World → Prop} {E : Prop} (hgd : o.guard = none) (s x : Operand) (t : TypeId)
    (ho : o.op = .call { callee := .builtin .append, args := #[s, x], argTypes := #[t, t] })
    (i : TypeInfo) (ht : P.underlying t = some (.slice 37)) (hi : P.info? 37 = some i)
    (hz : i.zero = some (.agg #[.int .i64 0, .string ⟨#[]⟩, .string ⟨#[]⟩, .string ⟨#[]⟩])) (hsize : i.size = 4) (hby : i.bytes = 56)
    (B : Nat) (A0 : Option Addr) (n0 c0 : Nat) (qs : DS) (hs : a.eval s = .slice A0 n0 c0) (hn0 : n0 = qs.length) (hown : OwnD w B A0 c0 qs)
    (B' : Nat) (A : Option Addr) (n c : Nat) (ps : DS) (hx : a.eval x = .slice A n c) (hn : n = ps.length) (hr : RD w B' A ps)
    (hlen : qs.length + ps.length ≤ 4000000) (hbase : B ≤ w.heap.size)
    (h : ∀ A' n' c' w', n' = (qs ++ ps).length → AppD w B A0 n0 c0 (qs ++ ps) A' c' w' → K (a.put o.dst (.slice A' n' c')) w') :
    if Region.wanted o (yielded ops a.tmps) = true then Oper.wp P o a w K Q else E := by
  have hw : Region.wanted o (yielded ops a.tmps) = true := by simp [Region.wanted, hgd]
  rw [if_pos hw]
  subst hn0 hn
  obtain ⟨A', c', w', hrun, h2⟩ := run_append_rd (P := P) w t o.type i ht hi hz hsize hby B A0 c0 qs hown B' A c ps hr hlen hbase
  unfold Oper.wp execOp
  simp only [ho, resolve, invoke, builtin, Sem.run_bind, Sem.run_pure, Result.andThen_ok, List.map_toArray, List.map_cons, List.map_nil, hs, hx, hrun]
  exact h A' _ c' w' rfl h2
/-- One op in a block. -/
theorem RD.new (w : World) (x : DD) (T : TypeId) : RD (w.alloc (.cells #[.int .i64 x.1, .string x.2.1, .string x.2.2.1, .string x.2.2.2] T)) (w.heap.size + 1) (some ⟨w.heap.size, 0, none⟩) [x] := by
  refine .inr ⟨w.heap.size, 0, rfl, by omega, fun i q hq => ?_⟩
  have hb : (w.alloc (.cells #[.int .i64 x.1, .string x.2.1, .string x.2.2.1, .string x.2.2.2] T)).heap[w.heap.size]? = some (.cells #[.int .i64 x.1, .string x.2.1, .string x.2.2.1, .string x.2.2.2] T (0, 0)) := heap_alloc_new w _
  cases i with
  | zero =>
    simp only [List.getElem?_cons_zero, Option.some.injEq] at hq
    subst hq
    refine ⟨?_, ?_, ?_, ?_⟩
    · rw [cell_of_row _ _ _ _ _ _ hb]; rfl
    · rw [cell_of_row _ _ _ _ _ _ hb]; rfl
    · rw [cell_of_row _ _ _ _ _ _ hb]; rfl
    · rw [cell_of_row _ _ _ _ _ _ hb]; rfl
  | succ i => simp at hq
/-! ### sizes -/
def SzD1 (x : DD) (l : Int) (w : World) (e : Ending) (w' : World) : Prop :=
  ∃ r : Int, e = .returned (.int .i64 r) ∧ -1 ≤ r ∧ r ≤ l ∧ (0 ≤ r → (x.2.1.size : Int) ≤ l ∧ (x.2.2.1.size : Int) ≤ l ∧ (x.2.2.2.size : Int) ≤ l) ∧ Below w.heap.size w w'
theorem szDOp_any (x : DD) (l : Int) (w : World) (h0 : 0 ≤ l) (h1 : l ≤ 1048576) (hs : x.2.1.size ≤ maxLen ∧ x.2.2.1.size ≤ maxLen ∧ x.2.2.2.size ≤ maxLen) :
    Calls Try.prog 11 #[.agg #[.int .i64 x.1, .string x.2.1, .string x.2.2.1, .string x.2.2.2], .int .i64 l] w (SzD1 x l w) := by
  unfold maxLen at hs
  obtain ⟨hs1, hs2, hs3⟩ := hs
  have hb : ∀ o : Obj, Below w.heap.size w (w.alloc o) := fun o => (Below.refl _ _).alloc (Nat.le_refl _) o
  have HB := hid hb
  clear hb
  by_cases g1 : l - (x.2.1.size : Int) < 0
  · go_enter Try.func11, Try.ntmps11
    go_wp2_with fail
    go_ret
    exact ⟨-1, rfl, by omega, by omega, fun h => by omega, HB.out _⟩
  by_cases g2 : l - (x.2.1.size : Int) - (x.2.2.1.size : Int) < 0
  · go_enter Try.func11, Try.ntmps11
    go_wp2_with fail
    go_ret
    exact ⟨-1, rfl, by omega, by omega, fun h => by omega, HB.out _⟩
  by_cases g3 : l - (x.2.1.size : Int) - (x.2.2.1.size : Int) - (x.2.2.2.size : Int) < 0
  · go_enter Try.func11, Try.ntmps11
    go_wp2_with fail
    go_ret
    exact ⟨-1, rfl, by omega, by omega, fun h => by omega, HB.out _⟩
  · go_enter Try.func11, Try.ntmps11
    go_wp2_with fail
    go_ret
    exact ⟨_, rfl, by omega, by omega, fun h => by omega, HB.out _⟩

def SmallD (hs : DS) (l : Int) : Prop := ∀ x ∈ hs, (x.2.1.size : Int) ≤ l ∧ (x.2.2.1.size : Int) ≤ l ∧ (x.2.2.2.size : Int) ≤ l
def SzPostD (hs : DS) (l : Int) (w : World) (e : Ending) (w' : World) : Prop :=
  ∃ r : Int, e = .returned (.int .i64 r) ∧ -1 ≤ r ∧ r ≤ l ∧ (0 ≤ r → (hs.length : Int) ≤ l ∧ SmallD hs l) ∧ Below w.heap.size w w'
def smallToD (hs : DS) (l : Int) (k : Nat) : Prop := ∀ (i : Nat) (h : i < hs.length), i < k → (hs[i].2.1.size : Int) ≤ l ∧ (hs[i].2.2.1.size : Int) ≤ l ∧ (hs[i].2.2.2.size : Int) ≤ l
theorem smallToD_succ {hs : DS} {l m : Int} {k : Nat} (h : smallToD hs l k) (hk : k < hs.length) (hm : m ≤ l) (h1 : (hs[k].2.1.size : Int) ≤ m ∧ (hs[k].2.2.1.size : Int) ≤ m ∧ (hs[k].2.2.2.size : Int) ≤ m) : smallToD hs l (k + 1) := by
  intro i hi hik
  by_cases e : i = k
  · subst e; exact ⟨by omega, by omega, by omega⟩
  · exact h i hi (by omega)
theorem smallToD_end {hs : DS} {l : Int} (h : smallToD hs l hs.length) : SmallD hs l := fun x hx => by
  obtain ⟨i, hi, rfl⟩ := List.getElem_of_mem hx
  exact h i hi hi

set_option maxHeartbeats 1000000 in
theorem szDOpS_any (A : Option Addr) (c : Nat) (hs : DS) (l : Int) (w : World) (hr : RD w w.heap.size A hs) (hf : FitsD hs) (hn : hs.length ≤ maxLen) (h0 : 0 ≤ l) (h1 : l ≤ 1048576) :
    Calls Try.prog 46 #[.slice A hs.length c, .int .i64 l] w (SzPostD hs l w) := by
  unfold maxLen at hn
  by_cases g : l - (hs.length : Int) < 0
  · clear hr hf
    go_enter Try.func46, Try.ntmps46
    go_wp2_with fail
    go_ret
    exact ⟨-1, rfl, by omega, by omega, fun h => by omega, Below.refl _ _⟩
  · go_enter Try.func46, Try.ntmps46
    go_wp2_with fail
    go_loopw [1, 5] (fun q i wr => ∃ (m : Int) (k : Nat), 0 ≤ m ∧ m ≤ l ∧ k ≤ hs.length ∧ smallToD hs l k ∧ q = .int .i64 m ∧ i = .int .i64 k ∧ Below w.heap.size w wr) (fun _ i _ => hs.length - (intOf i).toNat)
    case atStart => exact ⟨_, 0, by omega, by omega, Nat.zero_le _, fun i h hi => absurd hi (by omega), rfl, rfl, Below.refl _ w⟩
    case round =>
      obtain ⟨m, k, hm0, hm1, hk, hst, rfl, rfl, hbw⟩ := hrel
      have HST := hid hst
      clear hst
      by_cases hlt : k < hs.length
      · obtain ⟨b, off, rfl, hb, hc1, hc2, hc3, hc4⟩ := (hr.below hbw).at_ hlt
        have HF := hid (hf.get hlt)
        have HD := hid hbw
        clear hbw hr hf
        go_wp2_with (go_at_call 11; refine (szDOp_any hs[k] m _ hm0 (by omega) HF.out).mono ?_; rintro e w' ⟨r, rfl, hr1, hr2, hr3, hw⟩; have HR := hid hr3; clear hr3)
        · go_ret
          exact ⟨-1, rfl, by omega, by omega, fun h => by omega, HD.out.trans (hw.mono HD.out.size)⟩
        · refine ⟨⟨r, k + 1, by omega, by omega, by omega, smallToD_succ HST.out hlt hm1 (HR.out (by omega)), rfl, by go_num, HD.out.trans (hw.mono HD.out.size)⟩, by simp [intOf]; omega⟩
      · obtain rfl : k = hs.length := by omega
        have HD := hid hbw
        clear hbw hr hf
        go_wp2_with fail
        go_ret
        exact ⟨m, rfl, by omega, by omega, fun h => ⟨by omega, smallToD_end HST.out⟩, HD.out⟩

/-! ### copies -/
set_option maxHeartbeats 400000 in
theorem toDOp_any (x : DD) (w : World) :
    Calls Try.prog 14 #[.agg #[.int .i64 x.1, .string x.2.1, .string x.2.2.1, .string x.2.2.2]] w fun e w' => e = .returned (.agg #[.int .i64 x.1, .string x.2.1, .string x.2.2.1, .string x.2.2.2]) ∧ Below w.heap.size w w' := by
  go_enter Try.func14, Try.ntmps14
  go_wp2
  exact bodyPost_ret (v := .agg #[.int .i64 x.1, .string x.2.1, .string x.2.2.1, .string x.2.2.2]) (by simp [results, Try.results14, go_sem]) rfl ⟨rfl, below3 (Below.refl _ _) (Nat.le_refl _)⟩

def FilledD (wr : World) (g : Nat) (hs : DS) (k : Nat) : Prop :=
  ∃ xs, wr.ownsRow g 37 4 (.slice (some ⟨g, 0, none⟩) hs.length hs.length) hs.length xs ∧ ∀ (i : Nat) (x : DD), hs[i]? = some x → i < k → xs[i * 4]? = some (.int .i64 x.1) ∧ xs[i * 4 + 1]? = some (.string x.2.1) ∧ xs[i * 4 + 2]? = some (.string x.2.2.1) ∧ xs[i * 4 + 3]? = some (.string x.2.2.2)
theorem FilledD.start {wr : World} {g : Nat} {hs : DS} {xs : List Value} (h : wr.ownsRow g 37 4 (.slice (some ⟨g, 0, none⟩) hs.length hs.length) hs.length xs) : FilledD wr g hs 0 :=
  ⟨xs, h, fun i x _ hi => absurd hi (by omega)⟩
theorem dcells_ext : ∀ (hs : DS) (xs : List Value), xs.length = hs.length * 4 → (∀ (i : Nat) (x : DD), hs[i]? = some x → xs[i * 4]? = some (.int .i64 x.1) ∧ xs[i * 4 + 1]? = some (.string x.2.1) ∧ xs[i * 4 + 2]? = some (.string x.2.2.1) ∧ xs[i * 4 + 3]? = some (.string x.2.2.2)) → xs = dcells hs
  | [], xs, hl, _ => List.eq_nil_of_length_eq_zero (by simpa using hl)
  | p :: r, xs, hl, h => by
    match xs, hl with
    | a :: b :: c :: d :: t, hl =>
      have h0 := h 0 p rfl
      simp only [Nat.zero_mul, List.getElem?_cons_zero, Option.some.injEq, Nat.zero_add, List.getElem?_cons_succ] at h0
      rw [h0.1, h0.2.1, h0.2.2.1, h0.2.2.2, dcells]
      congr 4
      refine dcells_ext r t (by simp at hl ⊢; omega) fun i q hq => ?_
      have := h (i + 1) q (by simpa using hq)
      rw [show (i + 1) * 4 = i * 4 + 1 + 1 + 1 + 1 by omega] at this
      simpa using this
    | [a, b, c], hl => simp at hl; omega
    | [a, b], hl => simp at hl; omega
    | [a], hl => simp at hl; omega
    | [], hl => simp at hl
theorem FilledD.end_ {wr : World} {g : Nat} {hs : DS} (h : FilledD wr g hs hs.length) : wr.ownsRow g 37 4 (.slice (some ⟨g, 0, none⟩) hs.length hs.length) hs.length (dcells hs) := by
  obtain ⟨xs, ho, hx⟩ := h
  have : xs = dcells hs := dcells_ext hs xs ho.1 fun i p hp => hx i p hp (List.getElem?_eq_some_iff.1 hp).1
  rwa [this] at ho
theorem FilledD.cells {wr : World} {g : Nat} {hs : DS} {k : Nat} (h : FilledD wr g hs k) (hk : k < hs.length) : ∃ u v x y, wr.cell? ⟨g, k * 4, none⟩ = some u ∧ wr.cell? ⟨g, k * 4 + 1, none⟩ = some v ∧ wr.cell? ⟨g, k * 4 + 2, none⟩ = some x ∧ wr.cell? ⟨g, k * 4 + 3, none⟩ = some y := by
  obtain ⟨xs, ho, hx⟩ := h
  have hl := ho.1
  refine ⟨_, _, _, _, (ho.cellAt (k * 4) (by omega)).trans (List.getElem?_eq_getElem (by omega)), (ho.cellAt (k * 4 + 1) (by omega)).trans (List.getElem?_eq_getElem (by omega)), (ho.cellAt (k * 4 + 2) (by omega)).trans (List.getElem?_eq_getElem (by omega)), (ho.cellAt (k * 4 + 3) (by omega)).trans (List.getElem?_eq_getElem (by omega))⟩
theorem FilledD.frozen {wr : World} {g : Nat} {hs : DS} {k : Nat} (h : FilledD wr g hs k) (j : Nat) : wr.frozen? ⟨g, j, none⟩ = false := by
  obtain ⟨xs, ho, hx⟩ := h
  exact ho.frozenAt j
theorem FilledD.grown {wr w' : World} {g : Nat} {hs : DS} {k : Nat} (h : FilledD wr g hs k) (hg : wr.grownBy w' none) : FilledD w' g hs k := by
  obtain ⟨xs, ho, hx⟩ := h
  exact ⟨xs, ho.kept hg (.inr (by simp [Value.ownBlock])), hx⟩
theorem FilledD.store {wr : World} {g : Nat} {hs : DS} {k : Nat} (h : FilledD wr g hs k) (hk : k < hs.length) : FilledD ((((wr.setCell ⟨g, k * 4, none⟩ (.int .i64 hs[k].1)).setCell ⟨g, k * 4 + 1, none⟩ (.string hs[k].2.1)).setCell ⟨g, k * 4 + 2, none⟩ (.string hs[k].2.2.1)).setCell ⟨g, k * 4 + 3, none⟩ (.string hs[k].2.2.2)) g hs (k + 1) := by
  obtain ⟨xs, ho, hx⟩ := h
  have hl := ho.1
  refine ⟨_, ((((ho.stored (k * 4) (.int .i64 hs[k].1)).1.stored (k * 4 + 1) (.string hs[k].2.1)).1.stored (k * 4 + 2) (.string hs[k].2.2.1)).1.stored (k * 4 + 3) (.string hs[k].2.2.2)).1, fun i p hp hi => ?_⟩
  by_cases e : i = k
  · subst e
    have hp' : hs[i] = p := by rw [List.getElem?_eq_getElem hk] at hp; exact Option.some.inj hp
    subst hp'
    refine ⟨?_, ?_, ?_, ?_⟩
    · rw [List.getElem?_set_ne (by omega), List.getElem?_set_ne (by omega), List.getElem?_set_ne (by omega), List.getElem?_set_self (by omega)]
    · rw [List.getElem?_set_ne (by omega), List.getElem?_set_ne (by omega), List.getElem?_set_self (by simp; omega)]
    · rw [List.getElem?_set_ne (by omega), List.getElem?_set_self (by simp; omega)]
    · rw [List.getElem?_set_self (by simp; omega)]
  · obtain ⟨h1, h2, h3, h4⟩ := hx i p hp (by omega)
    refine ⟨?_, ?_, ?_, ?_⟩ <;> rw [List.getElem?_set_ne (by omega), List.getElem?_set_ne (by omega), List.getElem?_set_ne (by omega), List.getElem?_set_ne (by omega)] <;> assumption

set_option maxHeartbeats 1000000 in
theorem toDOpS_any (A : Option Addr) (c : Nat) (hs : DS) (w : World) (hr : RD w w.heap.size A hs) (hn : hs.length ≤ 1048576) :
    Calls Try.prog 50 #[.slice A hs.length c] w (MadeD w w.heap.size hs) := by
  obtain ⟨i0, hi, hz0, hz1, hz2⟩ := info_parts dopInfo
  go_enter Try.func50, Try.ntmps50
  go_wp2_with (at_make; refine wpList_make_full _ rfl _ _ 31 rfl w.heap.size 37 i0 _ 4 Try.underlying31 hi hz0 hz1 _ _ _ _ hs.length rfl rfl rfl rfl (by rw [hz2]; omega) (by unfold maxLen; omega) (Nat.le_refl _) ?_; intro w1 hown1 hg1)
  have hb1 : Below w.heap.size w w1 := (Below.refl _ _).grown hg1 (Nat.le_refl _) (by simp)
  have HO := hid hown1
  have HB := hid hb1
  clear hown1 hg1 hb1
  go_wp2_with fail
  go_loopw [4] (fun i wr => ∃ k : Nat, k ≤ hs.length ∧ i = .int .i64 k ∧ FilledD wr w.heap.size hs k ∧ Below w.heap.size w wr) (fun i _ => hs.length - (intOf i).toNat)
  case atStart => exact ⟨0, Nat.zero_le _, rfl, FilledD.start HO.out, HB.out⟩
  case round =>
    obtain ⟨k, hk, rfl, hfl, hbw⟩ := hrel
    by_cases hlt : k < hs.length
    · obtain ⟨b, off, rfl, hb, hc1, hc2, hc3, hc4⟩ := (hr.below hbw).at_ hlt
      have HF := hid hfl
      have HD := hid hbw
      clear hfl hbw hr
      go_wp2_with (go_at_call 14; refine (toDOp_any hs[k] _).mono ?_; rintro e w' ⟨rfl, hw⟩; have HF2 := hid (HF.out.grown (below_grown hw)); obtain ⟨u, v, x, y, hu, hv, hx, hy⟩ := HF2.out.cells hlt; have f1 := HF2.out.frozen (k * 4); have f2 := HF2.out.frozen (k * 4 + 1); have f3 := HF2.out.frozen (k * 4 + 2); have f4 := HF2.out.frozen (k * 4 + 3))
      refine ⟨⟨k + 1, by omega, by go_num, HF2.out.store hlt, ?_⟩, by simp [intOf]; omega⟩
      exact ((((HD.out.trans (hw.mono HD.out.size)).setCell (by simp) _).setCell (by simp) _).setCell (by simp) _).setCell (by simp) _
    · obtain rfl : k = hs.length := by omega
      have HF := hid hfl
      have HD := hid hbw
      clear hfl hbw hr
      go_wp2_with fail
      go_ret
      exact ⟨_, _, rfl, HF.out.end_, HD.out⟩

/-! ### comparisons, of changes that are alike -/
theorem eqDOp_same (x : DD) (w : World) :
    Calls Try.prog 109 #[.agg #[.int .i64 x.1, .string x.2.1, .string x.2.2.1, .string x.2.2.2], .agg #[.int .i64 x.1, .string x.2.1, .string x.2.2.1, .string x.2.2.2]] w fun e w' => e = .returned (.bool true) ∧ w' = (w.alloc (.cells #[.int .i64 x.1, .string x.2.1, .string x.2.2.1, .string x.2.2.2] 37)).alloc (.cells #[.int .i64 x.1, .string x.2.1, .string x.2.2.1, .string x.2.2.2] 37) := by
  have g1 : (x.1 != x.1) = false := by simp
  have g2 := eqS_true (rfl : x.2.1 = x.2.1)
  have g3 := eqS_true (rfl : x.2.2.1 = x.2.2.1)
  have g4 := eqS_true (rfl : x.2.2.2 = x.2.2.2)
  go_enter Try.func109, Try.ntmps109
  go_wp2
  go_ret
  exact ⟨rfl, rfl⟩

set_option maxHeartbeats 1000000 in
theorem eqDOpS_same (A A' : Option Addr) (c c' : Nat) (hs : DS) (w : World) (hr : RD w w.heap.size A hs) (hr' : RD w w.heap.size A' hs) (hn : hs.length ≤ maxLen) :
    Calls Try.prog 55 #[.slice A hs.length c, .slice A' hs.length c'] w fun e w' => e = .returned (.bool true) ∧ Below w.heap.size w w' := by
  unfold maxLen at hn
  have g0 : ((hs.length : Int) != (hs.length : Int)) = false := by simp
  go_enter Try.func55, Try.ntmps55
  go_wp2_with fail
  go_loopw [5] (fun i wr => ∃ k : Nat, k ≤ hs.length ∧ i = .int .i64 k ∧ Below w.heap.size w wr) (fun i _ => hs.length - (intOf i).toNat)
  case atStart => exact ⟨0, Nat.zero_le _, rfl, Below.refl _ w⟩
  case round =>
    obtain ⟨k, hk, rfl, hbw⟩ := hrel
    by_cases hlt : k < hs.length
    · obtain ⟨b, off, rfl, hb, hc1, hc2, hc3, hc4⟩ := (hr.below hbw).at_ hlt
      obtain ⟨b', off', rfl, hb', hd1, hd2, hd3, hd4⟩ := (hr'.below hbw).at_ hlt
      have HD := hid hbw
      clear hbw hr hr'
      have e5 : (0 : Int) ≤ (k : Int) := by omega
      have e6 : (k : Int) < (hs.length : Int) := by omega
      go_wp2_with fail
      go_region_held3 (fun w' => w'.cell? ⟨b, off + k * 4, none⟩ = some (.int .i64 hs[k].1) ∧ w'.cell? ⟨b, off + k * 4 + 1, none⟩ = some (.string hs[k].2.1) ∧ w'.cell? ⟨b, off + k * 4 + 2, none⟩ = some (.string hs[k].2.2.1) ∧ w'.cell? ⟨b, off + k * 4 + 3, none⟩ = some (.string hs[k].2.2.2) ∧ w'.cell? ⟨b', off' + k * 4, none⟩ = some (.int .i64 hs[k].1) ∧ w'.cell? ⟨b', off' + k * 4 + 1, none⟩ = some (.string hs[k].2.1) ∧ w'.cell? ⟨b', off' + k * 4 + 2, none⟩ = some (.string hs[k].2.2.1) ∧ w'.cell? ⟨b', off' + k * 4 + 3, none⟩ = some (.string hs[k].2.2.2)) (go_keep)
        (first | (go_at_call 109; refine (eqDOp_same hs[k] _).mono ?_; rintro e w' ⟨rfl, rfl⟩))
      go_wp2_with fail
      go_roundw
      case rel => exact ⟨k + 1, by omega, by go_num, below2 HD.out HD.out.size⟩
      case measure => simp [intOf]; omega
    · obtain rfl : k = hs.length := by omega
      have HD := hid hbw
      clear hbw hr hr'
      go_wp2_with fail
      go_ret
      exact ⟨rfl, HD.out⟩

end Go.Proofs.Ytaiehccpefjbfaa
