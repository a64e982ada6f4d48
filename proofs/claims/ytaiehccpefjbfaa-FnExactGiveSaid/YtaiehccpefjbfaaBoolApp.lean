/-
  Appends to lists of bools; the model's copy of bits (tools/mkba.py).
-/
import Derived.Test.YtaiehccpefjbfaaBits
import Derived.Test.YtaiehccpefjbfaaToPair
import Derived.Maps.AppendAt
namespace Go.Proofs.Ytaiehccpefjbfaa
open Go.RowKit

theorem bcells_one (xs : List Bool) : ∀ u ∈ bcells xs, u.oneCell' = true := by
  intro u hu
  obtain ⟨x, _, rfl⟩ := List.mem_map.1 hu
  rfl
theorem bcells_append (xs ys : List Bool) : bcells (xs ++ ys) = bcells xs ++ bcells ys := by simp [bcells]
/-- What an append leaves. -/
structure AppB (w : World) (B : Nat) (A0 : Option Addr) (n0 c0 : Nat) (rs : (List Bool)) (A' : Option Addr) (c' : Nat) (w' : World) : Prop where
  own : OwnB w' B A' c' rs
  grown : w.grownBy w' (Value.ownBlock (.slice A0 n0 c0))
  at_ : Value.ownBlock (.slice A' rs.length c') = Value.ownBlock (.slice A0 n0 c0) ∨ Value.ownBlock (.slice A' rs.length c') = some w.heap.size
theorem AppB.below {w w' : World} {B n0 c0 c' : Nat} {A0 A' : Option Addr} {qs rs : List Bool} (h : AppB w B A0 n0 c0 rs A' c' w') (ho : OwnB w B A0 c0 qs) (hn : n0 = qs.length) (hB : B ≤ w.heap.size) : Below B w w' := by
  subst hn
  exact (Below.refl _ _).grown h.grown hB (fun k hk => (World.ownsRow.lt ho k hk).1)

theorem run_append_rb {P : Program} (w : World) (t ty : TypeId) (i : TypeInfo) (ht : P.underlying t = some (.slice 4)) (hi : P.info? 4 = some i)
    (hz : i.zero = some (.bool false)) (hsize : i.size = 1) (hby : i.bytes = 1)
    (B : Nat) (A0 : Option Addr) (c0 : Nat) (qs : (List Bool)) (hown : OwnB w B A0 c0 qs) (B' : Nat) (A : Option Addr) (c : Nat) (ps : (List Bool)) (hr : RB w B' A ps)
    (hlen : qs.length + ps.length ≤ 4000000) (hbase : B ≤ w.heap.size) :
    ∃ A' c' w', (Builtin.append_ #[t, t] ty #[.slice A0 qs.length c0, .slice A ps.length c]).run P w = .ok (.slice A' (qs ++ ps).length c') w' ∧ AppB w B A0 qs.length c0 (qs ++ ps) A' c' w' := by
  rcases A with _ | ad
  · have h0 : ps = [] := by
      rcases hr with h | ⟨b, off, e, _⟩
      · exact h
      · cases e
    subst h0
    refine ⟨A0, c0, w, ?_, by simpa using hown, ⟨rfl, rfl, rfl, Nat.le_refl _, fun _ _ _ => rfl⟩, .inl (by simp)⟩
    rcases hown.2 with ⟨hv, hn⟩ | ⟨g, cap, cur, hv, _, _, hnc, _⟩
    · injection hv with e1 e2 e3
      subst e1 e3
      simp [Builtin.append_, run_underlying ht, sizeOf, typeInfo, hi, Builtin.lenOf, Builtin.firstCells, hn]
    · injection hv with e1 e2 e3
      subst e1 e3
      simp [Builtin.append_, run_underlying ht, sizeOf, typeInfo, hi, Builtin.lenOf, Builtin.firstCells, hnc, storeCells]
  · have hcells : ∀ j u, (bcells ps)[j]? = some u → w.cell? (ad.add j) = some u := by
      intro j u hu
      rcases hr with rfl | ⟨b, off, e, hb, hc⟩
      · simp [Go.Proofs.Ytaiehccpefjbfaa.bcells] at hu
      · injection e with e
        subst e
        rw [Addr.add_lit]
        have hj : j < ps.length := by
          have := (List.getElem?_eq_some_iff.1 hu).1
          rw [bcells_length] at this
          omega
        have hp := List.getElem?_eq_getElem hj
        have e2 : u = .bool ps[j] := by
          simp only [Go.Proofs.Ytaiehccpefjbfaa.bcells, List.getElem?_map, hp, Option.map_some, Option.some.injEq] at hu
          exact hu.symm
        rw [e2]
        exact hc _ _ hp
    obtain ⟨v', w', hrun, h2, h3, _, h5⟩ := run_append_own_at (P := P) w B t ty 4 i _ 1 1 ht hi hz hsize hby rfl (by omega) (.slice A0 qs.length c0) qs.length (Go.Proofs.Ytaiehccpefjbfaa.bcells qs) hown ad ps.length c (Go.Proofs.Ytaiehccpefjbfaa.bcells ps) (bcells_length ps) hcells (bcells_one ps) (by unfold maxLen; omega) (by omega) hbase
    rw [← bcells_append] at h2
    rcases h2.2 with ⟨rfl, hn⟩ | ⟨g, cap, cur, rfl, r⟩
    · have e1 : qs = [] := List.eq_nil_of_length_eq_zero (by omega)
      have e2 : ps = [] := List.eq_nil_of_length_eq_zero (by omega)
      subst e1 e2
      exact ⟨none, 0, w', hrun, h2, h3, h5⟩
    · rw [← List.length_append] at h2 hrun h5
      exact ⟨_, _, w', hrun, h2, h3, h5⟩

theorem wpList_append_rb {P : Program} (w : World) {ops : Array Oper} {rest : List Oper} {o : Oper} {a : Act} {Q : Exit → Act → World → Prop} (hgd : o.guard = none) (s x : Operand) (t : TypeId)
    (ho : o.op = .call { callee := .builtin .append, args := #[s, x], argTypes := #[t, t] })
    (i : TypeInfo) (ht : P.underlying t = some (.slice 4)) (hi : P.info? 4 = some i)
    (hz : i.zero = some (.bool false)) (hsize : i.size = 1) (hby : i.bytes = 1)
    (B : Nat) (A0 : Option Addr) (n0 c0 : Nat) (qs : (List Bool)) (hs : a.eval s = .slice A0 n0 c0) (hn0 : n0 = qs.length) (hown : OwnB w B A0 c0 qs)
    (B' : Nat) (A : Option Addr) (n c : Nat) (ps : (List Bool)) (hx : a.eval x = .slice A n c) (hn : n = ps.length) (hr : RB w B' A ps)
    (hlen : qs.length + ps.length ≤ 4000000) (hbase : B ≤ w.heap.size)
    (h : ∀ A' n' c' w', n' = (qs ++ ps).length → AppB w B A0 n0 c0 (qs ++ ps) A' c' w' → wpList P ops Q rest (a.put o.dst (.slice A' n' c')) w') : wpList P ops Q (o :: rest) a w := by
  subst hn0 hn
  refine wpList_plain hgd fun K hK => ?_
  obtain ⟨A', c', w', hrun, h2⟩ := run_append_rb (P := P) w t o.type i ht hi hz hsize hby B A0 c0 qs hown B' A c ps hr hlen hbase
  unfold Oper.wp execOp
  simp only [ho, resolve, invoke, builtin, Sem.run_bind, Sem.run_pure, Result.andThen_ok, List.map_toArray, List.map_cons, List.map_nil, hs, hx, hrun]
  exact hK _ _ (h A' _ c' w' rfl h2)
theorem step_append_rb {P : Program} (w : World) {ops : Array Oper} {o : Oper} {a : Act} {K : Act → World → Prop} {Q : Exit → Act → World → Prop} {E : Prop} (hgd : o.guard = none) (s x : Operand) (t : TypeId)
    (ho : o.op = .call { callee := .builtin .append, args := #[s, x], argTypes := #[t, t] })
    (i : TypeInfo) (ht : P.underlying t = some (.slice 4)) (hi : P.info? 4 = some i)
    (hz : i.zero = some (.bool false)) (hsize : i.size = 1) (hby : i.bytes = 1)
    (B : Nat) (A0 : Option Addr) (n0 c0 : Nat) (qs : (List Bool)) (hs : a.eval s = .slice A0 n0 c0) (hn0 : n0 = qs.length) (hown : OwnB w B A0 c0 qs)
    (B' : Nat) (A : Option Addr) (n c : Nat) (ps : (List Bool)) (hx : a.eval x = .slice A n c) (hn : n = ps.length) (hr : RB w B' A ps)
    (hlen : qs.length + ps.length ≤ 4000000) (hbase : B ≤ w.heap.size)
    (h : ∀ A' n' c' w', n' = (qs ++ ps).length → AppB w B A0 n0 c0 (qs ++ ps) A' c' w' → K (a.put o.dst (.slice A' n' c')) w') :
    if Region.wanted o (yielded ops a.tmps) = true then Oper.wp P o a w K Q else E := by
  have hw : Region.wanted o (yielded ops a.tmps) = true := by simp [Region.wanted, hgd]
  rw [if_pos hw]
  subst hn0 hn
  obtain ⟨A', c', w', hrun, h2⟩ := run_append_rb (P := P) w t o.type i ht hi hz hsize hby B A0 c0 qs hown B' A c ps hr hlen hbase
  unfold Oper.wp execOp
  simp only [ho, resolve, invoke, builtin, Sem.run_bind, Sem.run_pure, Result.andThen_ok, List.map_toArray, List.map_cons, List.map_nil, hs, hx, hrun]
  exact h A' _ c' w' rfl h2

def EmpB (w : World) (g : Nat) : Prop := w.heap[g]? = some (.cells #[] 4 (0, 0))
theorem empb_lt {w : World} {g : Nat} (h : EmpB w g) : g < w.heap.size := (Array.getElem?_eq_some_iff.1 h).1
theorem empb_new {w : World} {g : Nat} (h : g = w.heap.size) : EmpB (w.alloc (.cells #[] 4)) g := by
  subst h
  exact heap_alloc_new w _
theorem empb_drew {w : World} {g : Nat} (h : EmpB w g) : EmpB w.drew g := h
theorem own_empb {w : World} {g B sz : Nat} (h : EmpB w g) (hB : B ≤ g) : w.ownsRow B 4 sz (.slice (some ⟨g, 0, none⟩) 0 0) 0 [] :=
  ⟨by simp, .inr ⟨g, 0, #[], rfl, hB, h, Nat.zero_le _, Nat.zero_le _, by simp, by simp⟩⟩
theorem blb_alloc {w W : World} {o : Obj} (h : Below w.heap.size w W) : Below w.heap.size w (W.alloc o) := h.alloc h.size o
theorem blb_drew {w W : World} (h : Below w.heap.size w W) : Below w.heap.size w W.drew := h.drew

theorem appb_below {w0 W w1 : World} {g c1 : Nat} {xs : List Bool} {A1 : Option Addr} (hap : AppB W w0.heap.size (some ⟨g, 0, none⟩) 0 0 xs A1 c1 w1) (hE : EmpB W g) (hg : w0.heap.size ≤ g) (hb : Below w0.heap.size w0 W) : Below w0.heap.size w0 w1 :=
  hb.trans (hap.below (qs := []) (own_empb hE hg) rfl hb.size)

set_option maxHeartbeats 4000000 in
theorem spec_l12Copy (n : Int) (A : Option Addr) (c : Nat) (xs : List Bool) (w : World) (hr : RB w w.heap.size A xs) (hn : xs.length ≤ 1048576) :
    Calls Try.prog 72 #[.agg #[.int .i64 n, .slice A xs.length c]] w (MadeBits w n xs) := by
  obtain ⟨i0, hi0, hz0, hz1, hz2⟩ := info_parts boolInfo
  have y0 := (Row2.lit w 54 (.int .i64 n) (.slice A xs.length c)).below ((Below.refl _ _).alloc (Nat.le_refl _) (.cells #[.int .i64 0, .slice none 0 0] 54))
  have z1 := Row2.lit (w.alloc (.cells #[.int .i64 n, .slice A xs.length c] 54)) 54 (.int .i64 0) (.slice none 0 0)
  have b1 : Below w.heap.size w ((w.alloc (.cells #[.int .i64 n, .slice A xs.length c] 54)).alloc (.cells #[.int .i64 0, .slice none 0 0] 54)) := ((Below.refl _ _).alloc (Nat.le_refl _) _).alloc (by simp) _
  have hs0 : ((w.alloc (.cells #[.int .i64 n, .slice A xs.length c] 54)).alloc (.cells #[.int .i64 0, .slice none 0 0] 54)).heap.size ≥ w.heap.size + 2 := by simp
  rw [World.size_alloc] at z1
  have X := hid y0
  have Z := hid z1
  have B1 := hid b1
  have HR := hid ((hr.below b1).more b1.size)
  clear hr y0 z1 b1
  go_enter Try.func72, Try.ntmps72
  go_wp2_with fail
  generalize hgq : (w.alloc (.cells #[.int .i64 n, .slice A xs.length c] 54)).alloc (.cells #[.int .i64 0, .slice none 0 0] 54) = w0 at *
  clear hgq
  have x0 := X.out.c0
  have x1 := X.out.c1
  have tk1 : Hid (1 = 1) := rfl
  have BR0 := hid (Below.refl w0.heap.size w0)
  have hl0 : w.heap.size < w0.heap.size := by omega
  go_region_held3 (fun w' => w'.cell? ⟨w.heap.size, 0, none⟩ = some (.int .i64 n) ∧ w'.cell? ⟨w.heap.size, 1, none⟩ = some (.slice A xs.length c)) (go_keep)
    (first
      | (clear tk1; refine step_append_rb _ (by rfl) _ _ _ (by rfl) i0 Try.underlying49 hi0 hz0 hz1 hz2 w0.heap.size _ 0 0 [] (by rfl) rfl ?_ w0.heap.size A xs.length c xs (by rfl) rfl ?_ (by simp; omega) ?_ ?_; exact own_empb (by repeat (first | (with_reducible refine empb_new ?_; first | (simp; done) | (simp; omega)) | with_reducible apply empb_drew)) (by first | omega | (simp; done) | (simp; omega)); exact HR.out.below (by repeat (first | with_reducible exact BR0.out | with_reducible apply blb_alloc | with_reducible apply blb_drew)); exact Below.size (by repeat (first | with_reducible exact BR0.out | with_reducible apply blb_alloc | with_reducible apply blb_drew)); intro A1 n1 c1 w1 hn1 hap1; have HO1 : Hid (OwnB w1 w0.heap.size A1 c1 xs) := hap1.own; have hb1 := appb_below hap1 (by repeat (first | (with_reducible refine empb_new ?_; first | (simp; done) | (simp; omega)) | with_reducible apply empb_drew)) (by first | omega | (simp; done) | (simp; omega)) (by repeat (first | with_reducible exact BR0.out | with_reducible apply blb_alloc | with_reducible apply blb_drew)); have HB1 : Hid (Below w0.heap.size w0 w1) := hid hb1; clear hb1; have e1 : n1 = xs.length := hn1; subst e1; clear hap1 hn1; have x10 := (X.out.below HB1.out).c0; have x11 := (X.out.below HB1.out).c1; have z10 := (Z.out.below HB1.out).c0; have z11 := (Z.out.below HB1.out).c1; have k10 := (Z.out.below HB1.out).fz 0; have k11 := (Z.out.below HB1.out).fz 1))
  all_goals
    go_wp2_with fail
    refine world_post (S := fun wq => Row2 wq (w.heap.size + 1) 54 (.int .i64 n) (.slice A1 xs.length c1) ∧ OwnB wq w.heap.size A1 c1 xs ∧ Below w.heap.size w wq) _ ⟨((Z.out.below HB1.out).s0 _).s1 _, ((HO1.out.set2 (Z.out.below HB1.out) (by omega) 0 _).set2 ((Z.out.below HB1.out).s0 _) (by omega) 1 _).mono (by omega), ((B1.out.trans (HB1.out.mono (by omega))).setCell (p := ⟨w.heap.size + 1, 0, none⟩) (by simp) _).setCell (p := ⟨w.heap.size + 1, 1, none⟩) (by simp) _⟩ ?_
    clear x0 x1 x10 x11 z10 z11 k10 k11
    intro wq ⟨hq, hp, hb⟩
    have q0 := hq.c0
    have q1 := hq.c1
    exact bodyPost_ret (v := .agg #[.int .i64 n, .slice A1 xs.length c1]) (by simp [results, Try.results72, go_sem, q0, q1]) rfl ⟨A1, c1, rfl, hp, hb⟩
end Go.Proofs.Ytaiehccpefjbfaa
