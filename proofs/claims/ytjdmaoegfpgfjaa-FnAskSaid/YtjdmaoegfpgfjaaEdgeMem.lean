/-
  Slices of edges as lists; rows of edges of the call's own; append.
-/
import Derived.Test.YtjdmaoegfpgfjaaLockMem
import Derived.Test.YtjdmaoegfpgfjaaLockKit
import Derived.Test.YtjdmaoegfpgfjaaLockOwn
namespace Go.Proofs.Ytjdmaoegfpgfjaa
open Go.RowKit

theorem edgeInfo : (Try.prog.info? 56).map (fun i => (i.zero, i.size, i.bytes)) = some (some (.agg #[.int .i64 0, .int .i64 0]), 2, 16) := by kernel_rfl
def ecells : ES → List Value
  | [] => []
  | x :: r => .int .i64 x.1 :: .int .i64 x.2 :: ecells r
theorem ecells_length : ∀ es : ES, (ecells es).length = es.length * 2
  | [] => rfl
  | x :: r => by simp [ecells, ecells_length r]; omega
theorem ecells_append : ∀ es gs : ES, ecells (es ++ gs) = ecells es ++ ecells gs
  | [], _ => rfl
  | x :: r, gs => by simp [ecells, ecells_append r gs]
theorem ecells_a : ∀ (es : ES) (i : Nat) (x : ED), es[i]? = some x → (ecells es)[i * 2]? = some (.int .i64 x.1)
  | [], _, _, h => by simp at h
  | y :: r, 0, x, h => by simp at h; subst h; rfl
  | y :: r, i + 1, x, h => by
    simp only [List.getElem?_cons_succ] at h
    rw [show (i + 1) * 2 = i * 2 + 1 + 1 by omega]
    simpa [ecells] using ecells_a r i x h
theorem ecells_b : ∀ (es : ES) (i : Nat) (x : ED), es[i]? = some x → (ecells es)[i * 2 + 1]? = some (.int .i64 x.2)
  | [], _, _, h => by simp at h
  | y :: r, 0, x, h => by simp at h; subst h; rfl
  | y :: r, i + 1, x, h => by
    simp only [List.getElem?_cons_succ] at h
    rw [show (i + 1) * 2 + 1 = (i * 2 + 1) + 1 + 1 by omega]
    simpa [ecells] using ecells_b r i x h
theorem ecells_one : ∀ (es : ES), ∀ u ∈ ecells es, u.oneCell' = true
  | [], _, h => by simp [ecells] at h
  | x :: r, u, h => by
    simp only [ecells, List.mem_cons] at h
    rcases h with rfl | rfl | h
    · rfl
    · rfl
    · exact ecells_one r u h
theorem ecells_ext : ∀ (es : ES) (xs : List Value), xs.length = es.length * 2 → (∀ (i : Nat) (x : ED), es[i]? = some x → xs[i * 2]? = some (.int .i64 x.1) ∧ xs[i * 2 + 1]? = some (.int .i64 x.2)) → xs = ecells es
  | [], xs, hl, _ => List.eq_nil_of_length_eq_zero (by simpa using hl)
  | p :: r, xs, hl, h => by
    match xs, hl with
    | a :: b :: t, hl =>
      have h0 := h 0 p rfl
      simp only [Nat.zero_mul, List.getElem?_cons_zero, Option.some.injEq, Nat.zero_add, List.getElem?_cons_succ] at h0
      rw [h0.1, h0.2, ecells]
      congr 2
      refine ecells_ext r t (by simp at hl ⊢; omega) fun i q hq => ?_
      have := h (i + 1) q (by simpa using hq)
      rw [show (i + 1) * 2 = i * 2 + 1 + 1 by omega] at this
      simpa using this
    | [a], hl => simp at hl; omega
    | [], hl => simp at hl

/-- The slice at A, below block B, holds these edges. -/
def RE (w : World) (B : Nat) (A : Option Addr) (es : ES) : Prop :=
  es = [] ∨ ∃ b off, A = some ⟨b, off, none⟩ ∧ b < B ∧ ∀ (i : Nat) (x : ED), es[i]? = some x →
    w.cell? ⟨b, off + i * 2, none⟩ = some (.int .i64 x.1) ∧ w.cell? ⟨b, off + i * 2 + 1, none⟩ = some (.int .i64 x.2)
section
variable {w w' : World} {B B' : Nat} {A : Option Addr} {es : ES}
theorem RE.at_ {k : Nat} (h : RE w B A es) (hk : k < es.length) :
    ∃ b off, A = some ⟨b, off, none⟩ ∧ b < B ∧ w.cell? ⟨b, off + k * 2, none⟩ = some (.int .i64 es[k].1) ∧ w.cell? ⟨b, off + k * 2 + 1, none⟩ = some (.int .i64 es[k].2) := by
  rcases h with rfl | ⟨b, off, e, hb, hc⟩
  · simp at hk
  · exact ⟨b, off, e, hb, hc k _ (List.getElem?_eq_getElem hk)⟩
theorem RE.keep (h : RE w B A es) (hk : ∀ p : Addr, p.block < B → w'.cell? p = w.cell? p) : RE w' B A es := by
  rcases h with rfl | ⟨b, off, e, hb, hc⟩
  · exact .inl rfl
  · exact .inr ⟨b, off, e, hb, fun i p hp => by rw [hk _ hb, hk _ hb]; exact hc i p hp⟩
theorem RE.more (h : RE w B A es) (hB : B ≤ B') : RE w B' A es := by
  rcases h with rfl | ⟨b, off, e, hb, hc⟩
  · exact .inl rfl
  · exact .inr ⟨b, off, e, by omega, hc⟩
theorem RE.below (h : RE w B A es) (hb : Below B w w') : RE w' B A es := h.keep fun _ hp => hb.cell hp
theorem RE.take {n : Nat} (h : RE w B A es) : RE w B A (es.take n) := by
  rcases h with rfl | ⟨b, off, e, hb, hc⟩
  · exact .inl (by simp)
  · refine .inr ⟨b, off, e, hb, fun i p hp => hc i p ?_⟩
    rw [List.getElem?_take] at hp
    split at hp
    · exact hp
    · cases hp
theorem RE.drop {b off : Nat} (h : RE w B (some ⟨b, off, none⟩) es) (k : Nat) : RE w B (some ⟨b, off + k * 2, none⟩) (es.drop k) := by
  rcases h with rfl | ⟨b', off', e, hb, hc⟩
  · exact .inl (by simp)
  · injection e with e
    injection e with e1 e2
    subst e1 e2
    refine .inr ⟨b, off + k * 2, rfl, hb, fun i p hp => ?_⟩
    rw [List.getElem?_drop] at hp
    have := hc (k + i) p hp
    rw [show off + k * 2 + i * 2 = off + (k + i) * 2 by omega]
    exact this
theorem RE.of_own {base : Nat} {e : TypeId} {n c : Nat} (h : w.ownsRow base e 2 (.slice A n c) n (ecells es)) : RE w w.heap.size A es := by
  rcases h.2 with ⟨hv, hn⟩ | ⟨g, cap, cur, hv, _, hh, _⟩
  · left
    have := h.1
    rw [ecells_length] at this
    exact List.eq_nil_of_length_eq_zero (by omega)
  · right
    injection hv with hA
    subst hA
    refine ⟨g, 0, rfl, (Array.getElem?_eq_some_iff.1 hh).1, fun i p hp => ?_⟩
    have h1 := h.cells (g := g) rfl _ _ (ecells_a es i p hp)
    have h2 := h.cells (g := g) rfl _ _ (ecells_b es i p hp)
    rw [Addr.add_lit] at h1 h2
    exact ⟨h1, by rw [Nat.add_assoc]; exact h2⟩
end
/-- One edge in a block. -/
theorem RE.new (w : World) (x : ED) (T : TypeId) : RE (w.alloc (.cells #[.int .i64 x.1, .int .i64 x.2] T)) (w.heap.size + 1) (some ⟨w.heap.size, 0, none⟩) [x] := by
  refine .inr ⟨w.heap.size, 0, rfl, by omega, fun i q hq => ?_⟩
  have hb : (w.alloc (.cells #[.int .i64 x.1, .int .i64 x.2] T)).heap[w.heap.size]? = some (.cells #[.int .i64 x.1, .int .i64 x.2] T (0, 0)) := heap_alloc_new w _
  cases i with
  | zero =>
    simp only [List.getElem?_cons_zero, Option.some.injEq] at hq
    subst hq
    refine ⟨?_, ?_⟩
    · rw [cell_of_row _ _ _ _ _ _ hb]; rfl
    · rw [cell_of_row _ _ _ _ _ _ hb]; rfl
  | succ i => simp at hq

/-- A slice of edges of the call's own. -/
def OwnE (w : World) (B : Nat) (A : Option Addr) (c : Nat) (es : ES) : Prop := w.ownsRow B 56 2 (.slice A es.length c) es.length (ecells es)
theorem OwnE.re {w : World} {B c : Nat} {A : Option Addr} {es : ES} (h : OwnE w B A c es) : RE w w.heap.size A es := RE.of_own h
theorem OwnE.below {w w' : World} {B c : Nat} {A : Option Addr} {es : ES} (h : OwnE w B A c es) (hb : Below w.heap.size w w') : OwnE w' B A c es := h.kept (below_grown hb) (by
  cases hv : Value.ownBlock (.slice A es.length c) <;> simp)
theorem OwnE.mono {w : World} {B B' c : Nat} {A : Option Addr} {es : ES} (h : OwnE w B A c es) (hB : B' ≤ B) : OwnE w B' A c es := by
  refine ⟨h.1, ?_⟩
  rcases h.2 with hn | ⟨g, cap, cur, hv, hb, rest⟩
  · exact .inl hn
  · exact .inr ⟨g, cap, cur, hv, by omega, rest⟩
theorem OwnE.cap {w : World} {B : Nat} {K : Option Addr} {d : Nat} {ks : ES} (h : OwnE w B K d ks) : ks.length ≤ d ∧ d ≤ maxLen := by
  rcases h.2 with ⟨hv, hn⟩ | ⟨g, cap, cur, hv, _, _, h1, h2, _⟩
  · injection hv with _ _ hd
    exact ⟨by omega, by omega⟩
  · injection hv with _ _ hd
    exact ⟨by omega, by omega⟩
theorem OwnE.size {w : World} {B c : Nat} {A : Option Addr} {es : ES} (h : OwnE w B A c es) : ∀ k, Value.ownBlock (.slice A es.length c) = some k → B ≤ k ∧ k < w.heap.size := World.ownsRow.lt h
theorem OwnE.made {w : World} {B : Nat} (hB : B ≤ w.heap.size) (cs : Array Value) (c : Nat) (hs : cs.size = c * 2) (hc : c ≤ maxLen) : OwnE (w.alloc (.cells cs 56)) B (some ⟨w.heap.size, 0, none⟩) c [] :=
  World.ownsRow_made w cs c hB hc hs
theorem OwnE.nil_ (w : World) (B : Nat) : OwnE w B none 0 [] := World.ownsRow_nil w B _ _
theorem OwnE.stay {w w' : World} {B c : Nat} {A : Option Addr} {es : ES} (h : OwnE w B A c es) (hk : ∀ k, Value.ownBlock (.slice A es.length c) = some k → w'.heap[k]? = w.heap[k]?) : OwnE w' B A c es := by
  obtain ⟨h1, h2⟩ := h
  refine ⟨h1, ?_⟩
  rcases h2 with h2 | ⟨g, cap, cur, hv, hg, hh, r⟩
  · exact Or.inl h2
  · rw [hv] at hk
    exact Or.inr ⟨g, cap, cur, hv, hg, by rw [hk g rfl]; exact hh, r⟩
def MadeE (w : World) (es : ES) (e : Ending) (w' : World) : Prop := ∃ A c, e = .returned (.slice A es.length c) ∧ OwnE w' w.heap.size A c es ∧ Below w.heap.size w w'
/-- What an append leaves. -/
structure AppE (w : World) (B : Nat) (A0 : Option Addr) (n0 c0 : Nat) (rs : ES) (A' : Option Addr) (c' : Nat) (w' : World) : Prop where
  own : OwnE w' B A' c' rs
  grown : w.grownBy w' (Value.ownBlock (.slice A0 n0 c0))
  at_ : Value.ownBlock (.slice A' rs.length c') = Value.ownBlock (.slice A0 n0 c0) ∨ Value.ownBlock (.slice A' rs.length c') = some w.heap.size
theorem AppE.below {w w' : World} {B n0 c0 c' : Nat} {A0 A' : Option Addr} {qs rs : ES} (h : AppE w B A0 n0 c0 rs A' c' w') (ho : OwnE w B A0 c0 qs) (hn : n0 = qs.length) (hB : B ≤ w.heap.size) : Below B w w' := by
  subst hn
  exact (Below.refl _ _).grown h.grown hB (fun k hk => (ho.size k hk).1)

theorem run_append_re {P : Program} (w : World) (t ty : TypeId) (i : TypeInfo) (ht : P.underlying t = some (.slice 56)) (hi : P.info? 56 = some i)
    (hz : i.zero = some (.agg #[.int .i64 0, .int .i64 0])) (hsize : i.size = 2) (hby : i.bytes = 16)
    (B : Nat) (A0 : Option Addr) (c0 : Nat) (qs : ES) (hown : OwnE w B A0 c0 qs) (B' : Nat) (A : Option Addr) (c : Nat) (ps : ES) (hr : RE w B' A ps)
    (hlen : qs.length + ps.length ≤ 4000000) (hbase : B ≤ w.heap.size) :
    ∃ A' c' w', (Builtin.append_ #[t, t] ty #[.slice A0 qs.length c0, .slice A ps.length c]).run P w = .ok (.slice A' (qs ++ ps).length c') w' ∧ AppE w B A0 qs.length c0 (qs ++ ps) A' c' w' := by
  rcases A with _ | ad
  · have h0 : ps = [] := by
      rcases hr with h | ⟨b, off, e, _⟩
      · exact h
      · cases e
    subst h0
    refine ⟨A0, c0, w, ?_, by simpa using hown, ⟨rfl, rfl, rfl, Nat.le_refl _, fun _ _ _ => rfl⟩, .inl (by simp)⟩
    rcases hown.2 with ⟨hv, hn⟩ | ⟨g, cap, cur, hv, _, _, hnc, _⟩
    · injection hv with e1 e2 e3
      subst e1 e3
      simp [Builtin.append_, run_underlying ht, sizeOf, typeInfo, hi, Builtin.lenOf, Builtin.firstCells, hn]
    · injection hv with e1 e2 e3
      subst e1 e3
      simp [Builtin.append_, run_underlying ht, sizeOf, typeInfo, hi, Builtin.lenOf, Builtin.firstCells, hnc, storeCells]
  · have hcells : ∀ j u, (ecells ps)[j]? = some u → w.cell? (ad.add j) = some u := by
      intro j u hu
      rcases hr with rfl | ⟨b, off, e, hb, hc⟩
      · simp [ecells] at hu
      · injection e with e
        subst e
        rw [Addr.add_lit]
        have hj : j < ps.length * 2 := by
          have := (List.getElem?_eq_some_iff.1 hu).1
          rwa [ecells_length] at this
        have hl : j / 2 < ps.length := by omega
        have hp := List.getElem?_eq_getElem hl
        have hd : j = (j / 2) * 2 ∨ j = (j / 2) * 2 + 1 := by omega
        obtain ⟨c0, c1⟩ := hc _ _ hp
        rcases hd with hd | hd
        · have hk := ecells_a ps _ _ hp
          rw [← hd, hu] at hk
          rw [Option.some.inj hk]
          rwa [← hd] at c0
        · have hk := ecells_b ps _ _ hp
          rw [← hd, hu] at hk
          rw [Option.some.inj hk]
          rw [Nat.add_assoc] at c1
          rwa [← hd] at c1
    obtain ⟨v', w', hrun, h2, h3, _, h5⟩ := run_append_own_at (P := P) w B t ty 56 i _ 2 16 ht hi hz hsize hby rfl (by omega) (.slice A0 qs.length c0) qs.length (Go.Proofs.Ytjdmaoegfpgfjaa.ecells qs) hown ad ps.length c (Go.Proofs.Ytjdmaoegfpgfjaa.ecells ps) (ecells_length ps) hcells (ecells_one ps) (by unfold maxLen; omega) (by omega) hbase
    rw [← ecells_append] at h2
    rcases h2.2 with ⟨rfl, hn⟩ | ⟨g, cap, cur, rfl, r⟩
    · have e1 : qs = [] := List.eq_nil_of_length_eq_zero (by omega)
      have e2 : ps = [] := List.eq_nil_of_length_eq_zero (by omega)
      subst e1 e2
      exact ⟨none, 0, w', hrun, h2, h3, h5⟩
    · rw [← List.length_append] at h2 hrun h5
      exact ⟨_, _, w', hrun, h2, h3, h5⟩

theorem wpList_append_re {P : Program} (w : World) {ops : Array Oper} {rest : List Oper} {o : Oper} {a : Act} {Q : Exit → Act → World → Prop} (hgd : o.guard = none) (s x : Operand) (t : TypeId)
    (ho : o.op = .call { callee := .builtin .append, args := #[s, x], argTypes := #[t, t] })
    (i : TypeInfo) (ht : P.underlying t = some (.slice 56)) (hi : P.info? 56 = some i)
    (hz : i.zero = some (.agg #[.int .i64 0, .int .i64 0])) (hsize : i.size = 2) (hby : i.bytes = 16)
    (B : Nat) (A0 : Option Addr) (n0 c0 : Nat) (qs : ES) (hs : a.eval s = .slice A0 n0 c0) (hn0 : n0 = qs.length) (hown : OwnE w B A0 c0 qs)
    (B' : Nat) (A : Option Addr) (n c : Nat) (ps : ES) (hx : a.eval x = .slice A n c) (hn : n = ps.length) (hr : RE w B' A ps)
    (hlen : qs.length + ps.length ≤ 4000000) (hbase : B ≤ w.heap.size)
    (h : ∀ A' n' c' w', n' = (qs ++ ps).length → AppE w B A0 n0 c0 (qs ++ ps) A' c' w' → wpList P ops Q rest (a.put o.dst (.slice A' n' c')) w') : wpList P ops Q (o :: rest) a w := by
  subst hn0 hn
  refine wpList_plain hgd fun K hK => ?_
  obtain ⟨A', c', w', hrun, h2⟩ := run_append_re (P := P) w t o.type i ht hi hz hsize hby B A0 c0 qs hown B' A c ps hr hlen hbase
  unfold Oper.wp execOp
  simp only [ho, resolve, invoke, builtin, Sem.run_bind, Sem.run_pure, Result.andThen_ok, List.map_toArray, List.map_cons, List.map_nil, hs, hx, hrun]
  exact hK _ _ (h A' _ c' w' rfl h2)
end Go.Proofs.Ytjdmaoegfpgfjaa
