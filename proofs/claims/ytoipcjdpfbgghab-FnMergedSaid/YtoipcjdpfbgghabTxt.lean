/-
  Rows of texts: append, comparison, marks.
-/
import Derived.Test.YtoipcjdpfbgghabChgMarks
import Derived.Maps.AppendAt
namespace Go.Proofs.Ytoipcjdpfbgghab
open Go.RowKit

def tcells (xs : List ByteArray) : List Value := xs.map Value.string
theorem tcells_length (xs : List ByteArray) : (tcells xs).length = xs.length * 1 := by simp [tcells]
theorem tcells_append (xs ys : List ByteArray) : tcells (xs ++ ys) = tcells xs ++ tcells ys := by simp [tcells]
theorem tcells_get {xs : List ByteArray} {i : Nat} {x : ByteArray} (h : xs[i]? = some x) : (tcells xs)[i]? = some (.string x) := by simp [tcells, h]
theorem tcells_one (xs : List ByteArray) : ∀ u ∈ tcells xs, u.oneCell' = true := by
  intro u hu
  obtain ⟨x, _, rfl⟩ := List.mem_map.1 hu
  rfl
theorem textInfo : (Try.prog.info? 9).map (fun i => (i.zero, i.size, i.bytes)) = some (some (.string ⟨#[]⟩), 1, 16) := by kernel_rfl

/-- The slice at A, below block B, holds these texts. -/
def RTx (w : World) (B : Nat) (A : Option Addr) (xs : List ByteArray) : Prop :=
  xs = [] ∨ ∃ b off, A = some ⟨b, off, none⟩ ∧ b < B ∧ ∀ (i : Nat) (x : ByteArray), xs[i]? = some x → w.cell? ⟨b, off + i, none⟩ = some (.string x)
section
variable {w w' : World} {B B' : Nat} {A : Option Addr} {xs : List ByteArray}
theorem RTx.at_ {k : Nat} (h : RTx w B A xs) (hk : k < xs.length) : ∃ b off, A = some ⟨b, off, none⟩ ∧ b < B ∧ w.cell? ⟨b, off + k, none⟩ = some (.string xs[k]) := by
  rcases h with rfl | ⟨b, off, e, hb, hc⟩
  · simp at hk
  · exact ⟨b, off, e, hb, hc k _ (List.getElem?_eq_getElem hk)⟩
theorem RTx.keep (h : RTx w B A xs) (hk : ∀ p : Addr, p.block < B → w'.cell? p = w.cell? p) : RTx w' B A xs := by
  rcases h with rfl | ⟨b, off, e, hb, hc⟩
  · exact .inl rfl
  · exact .inr ⟨b, off, e, hb, fun i p hp => by rw [hk _ hb]; exact hc i p hp⟩
theorem RTx.more (h : RTx w B A xs) (hB : B ≤ B') : RTx w B' A xs := by
  rcases h with rfl | ⟨b, off, e, hb, hc⟩
  · exact .inl rfl
  · exact .inr ⟨b, off, e, by omega, hc⟩
theorem RTx.below (h : RTx w B A xs) (hb : Below B w w') : RTx w' B A xs := h.keep fun _ hp => hb.cell hp
theorem RTx.of_own {base : Nat} {e : TypeId} {n c : Nat} (h : w.ownsRow base e 1 (.slice A n c) n (tcells xs)) : RTx w w.heap.size A xs := by
  rcases h.2 with ⟨hv, hn⟩ | ⟨g, cap, cur, hv, _, hh, _⟩
  · left
    have := h.1
    rw [tcells_length] at this
    exact List.eq_nil_of_length_eq_zero (by omega)
  · right
    injection hv with hA
    subst hA
    refine ⟨g, 0, rfl, (Array.getElem?_eq_some_iff.1 hh).1, fun i p hp => ?_⟩
    have h1 := h.cells (g := g) rfl i (.string p) (tcells_get hp)
    rw [Addr.add_lit] at h1
    exact h1
end
theorem RTx.new (w : World) (x : ByteArray) (T : TypeId) : RTx (w.alloc (.cells #[.string x] T)) (w.heap.size + 1) (some ⟨w.heap.size, 0, none⟩) [x] := by
  refine .inr ⟨w.heap.size, 0, rfl, by omega, fun i q hq => ?_⟩
  have hb : (w.alloc (.cells #[.string x] T)).heap[w.heap.size]? = some (.cells #[.string x] T (0, 0)) := heap_alloc_new w _
  cases i with
  | zero =>
    simp only [List.getElem?_cons_zero, Option.some.injEq] at hq
    subst hq
    rw [cell_of_row _ _ _ _ _ _ hb]; rfl
  | succ i => simp at hq

/-- A slice of texts of the call's own. -/
def OwnT (w : World) (B : Nat) (A : Option Addr) (c : Nat) (xs : List ByteArray) : Prop := w.ownsRow B 9 1 (.slice A xs.length c) xs.length (tcells xs)
theorem OwnT.rt {w : World} {B c : Nat} {A : Option Addr} {xs : List ByteArray} (h : OwnT w B A c xs) : RTx w w.heap.size A xs := RTx.of_own h
theorem OwnT.below {w w' : World} {B c : Nat} {A : Option Addr} {xs : List ByteArray} (h : OwnT w B A c xs) (hb : Below w.heap.size w w') : OwnT w' B A c xs := h.kept (below_grown hb) (by
  cases hv : Value.ownBlock (.slice A xs.length c) <;> simp)
theorem OwnT.mono {w : World} {B B' c : Nat} {A : Option Addr} {xs : List ByteArray} (h : OwnT w B A c xs) (hB : B' ≤ B) : OwnT w B' A c xs := by
  refine ⟨h.1, ?_⟩
  rcases h.2 with hn | ⟨g, cap, cur, hv, hb, rest⟩
  · exact .inl hn
  · exact .inr ⟨g, cap, cur, hv, by omega, rest⟩
theorem OwnT.size {w : World} {B c : Nat} {A : Option Addr} {xs : List ByteArray} (h : OwnT w B A c xs) : ∀ k, Value.ownBlock (.slice A xs.length c) = some k → B ≤ k ∧ k < w.heap.size := World.ownsRow.lt h
theorem OwnT.made {w : World} {B : Nat} (hB : B ≤ w.heap.size) (cs : Array Value) (c : Nat) (hs : cs.size = c * 1) (hc : c ≤ maxLen) : OwnT (w.alloc (.cells cs 9)) B (some ⟨w.heap.size, 0, none⟩) c [] :=
  World.ownsRow_made w cs c hB hc hs
theorem OwnT.nil_ (w : World) (B : Nat) : OwnT w B none 0 [] := World.ownsRow_nil w B _ _
theorem OwnT.keepG {w w' : World} {B c : Nat} {A : Option Addr} {xs : List ByteArray} {row : Option Nat} (h : OwnT w B A c xs) (hg : w.grownBy w' row) (hne : ∀ k, Value.ownBlock (.slice A xs.length c) = some k → some k ≠ row) : OwnT w' B A c xs := by
  refine World.ownsRow.kept h hg ?_
  cases hv : Value.ownBlock (.slice A xs.length c) with
  | none => exact .inl rfl
  | some k => exact .inr (hne k hv)
/-- Rows of two types lie in two blocks. -/
theorem own_types {w : World} {B B' s s' n n' : Nat} {e e' : TypeId} {v v' : Value} {xs xs' : List Value} (hne : e ≠ e') (h : w.ownsRow B e s v n xs) (h' : w.ownsRow B' e' s' v' n' xs') : ∀ k, v.ownBlock = some k → some k ≠ v'.ownBlock := by
  intro k h1 h2
  rcases h.2 with ⟨hv, _⟩ | ⟨g, cap, cur, hv, _, hh, _⟩
  · subst hv; cases h1
  rcases h'.2 with ⟨hv', _⟩ | ⟨g', cap', cur', hv', _, hh', _⟩
  · subst hv'; cases h2
  subst hv hv'
  injection h1 with h1
  have h2' : k = g' := by injection h2
  have h1' : g = k := h1
  subst h1'
  subst h2'
  rw [hh] at hh'
  injection hh' with hh'
  injection hh' with _ hh'
  exact hne hh'

/-- What an append leaves. -/
structure AppT (w : World) (B : Nat) (A0 : Option Addr) (n0 c0 : Nat) (rs : List ByteArray) (A' : Option Addr) (c' : Nat) (w' : World) : Prop where
  own : OwnT w' B A' c' rs
  grown : w.grownBy w' (Value.ownBlock (.slice A0 n0 c0))
theorem AppT.below {w w' : World} {B n0 c0 c' : Nat} {A0 A' : Option Addr} {qs rs : List ByteArray} (h : AppT w B A0 n0 c0 rs A' c' w') (ho : OwnT w B A0 c0 qs) (hn : n0 = qs.length) (hB : B ≤ w.heap.size) : Below B w w' := by
  subst hn
  exact (Below.refl _ _).grown h.grown hB (fun k hk => (ho.size k hk).1)
theorem run_append_rt {P : Program} (w : World) (t ty : TypeId) (i : TypeInfo) (ht : P.underlying t = some (.slice 9)) (hi : P.info? 9 = some i)
    (hz : i.zero = some (.string ⟨#[]⟩)) (hsize : i.size = 1) (hby : i.bytes = 16)
    (B : Nat) (A0 : Option Addr) (c0 : Nat) (qs : List ByteArray) (hown : OwnT w B A0 c0 qs) (b off c : Nat) (x : ByteArray) (hr : w.cell? ⟨b, off, none⟩ = some (.string x))
    (hlen : qs.length + 1 ≤ 4000000) (hbase : B ≤ w.heap.size) :
    ∃ A' c' w', (Builtin.append_ #[t, t] ty #[.slice A0 qs.length c0, .slice (some ⟨b, off, none⟩) 1 c]).run P w = .ok (.slice A' (qs ++ [x]).length c') w' ∧ AppT w B A0 qs.length c0 (qs ++ [x]) A' c' w' := by
  have hcells : ∀ j u, (tcells [x])[j]? = some u → w.cell? ((⟨b, off, none⟩ : Addr).add j) = some u := by
    intro j u hu
    rw [Addr.add_lit]
    cases j with
    | zero =>
      simp only [tcells, List.map_cons, List.map_nil, List.getElem?_cons_zero, Option.some.injEq] at hu
      subst hu
      exact hr
    | succ j => simp [tcells] at hu
  obtain ⟨v', w', hrun, h2, h3, _, h5⟩ := run_append_own_at (P := P) w B t ty 9 i _ 1 16 ht hi hz hsize hby rfl (by omega) (.slice A0 qs.length c0) qs.length (Go.Proofs.Ytoipcjdpfbgghab.tcells qs) hown ⟨b, off, none⟩ 1 c (Go.Proofs.Ytoipcjdpfbgghab.tcells [x]) (tcells_length [x]) hcells (tcells_one [x]) (by unfold maxLen; omega) (by omega) hbase
  rw [← tcells_append] at h2
  rcases h2.2 with ⟨rfl, hn⟩ | ⟨g, cap, cur, rfl, r⟩
  · omega
  · have e : qs.length + 1 = (qs ++ [x]).length := by simp
    rw [e] at h2 hrun
    exact ⟨_, _, w', hrun, h2, h3⟩
theorem wpList_append_rt {P : Program} (w : World) {ops : Array Oper} {rest : List Oper} {o : Oper} {a : Act} {Q : Exit → Act → World → Prop} (hgd : o.guard = none) (s x : Operand) (t : TypeId)
    (ho : o.op = .call { callee := .builtin .append, args := #[s, x], argTypes := #[t, t] })
    (i : TypeInfo) (ht : P.underlying t = some (.slice 9)) (hi : P.info? 9 = some i)
    (hz : i.zero = some (.string ⟨#[]⟩)) (hsize : i.size = 1) (hby : i.bytes = 16)
    (B : Nat) (A0 : Option Addr) (n0 c0 : Nat) (qs : List ByteArray) (hs : a.eval s = .slice A0 n0 c0) (hn0 : n0 = qs.length) (hown : OwnT w B A0 c0 qs)
    (b off c : Nat) (q : ByteArray) (hx : a.eval x = .slice (some ⟨b, off, none⟩) 1 c) (hr : w.cell? ⟨b, off, none⟩ = some (.string q))
    (hlen : qs.length + 1 ≤ 4000000) (hbase : B ≤ w.heap.size)
    (h : ∀ A' n' c' w', n' = (qs ++ [q]).length → AppT w B A0 n0 c0 (qs ++ [q]) A' c' w' → wpList P ops Q rest (a.put o.dst (.slice A' n' c')) w') : wpList P ops Q (o :: rest) a w := by
  subst hn0
  refine wpList_plain hgd fun K hK => ?_
  obtain ⟨A', c', w', hrun, h2⟩ := run_append_rt (P := P) w t o.type i ht hi hz hsize hby B A0 c0 qs hown b off c q hr hlen hbase
  unfold Oper.wp execOp
  simp only [ho, resolve, invoke, builtin, Sem.run_bind, Sem.run_pure, Result.andThen_ok, List.map_toArray, List.map_cons, List.map_nil, hs, hx, hrun]
  exact hK _ _ (h A' _ c' w' rfl h2)

/-- Texts that are marks. -/
def marksT : Nat → Nat → List ByteArray
  | 0, _ => []
  | n + 1, k => mtxt k :: marksT n (k + 1)
theorem marksT_len : ∀ n k : Nat, (marksT n k).length = n
  | 0, _ => rfl
  | n + 1, k => by simp [marksT, marksT_len n]
theorem marksT_get : ∀ (n k i : Nat) (h : i < (marksT n k).length), (marksT n k)[i] = mtxt (k + i)
  | 0, _, _, h => by simp [marksT] at h
  | n + 1, k, 0, _ => rfl
  | n + 1, k, i + 1, h => by
    have := marksT_get n (k + 1) i (by simpa [marksT] using h)
    simp only [marksT, List.getElem_cons_succ, this]
    congr 1
    omega
/-- What markStringS leaves. -/
def MarkTPost (B : Nat) (A : Option Addr) (c n k : Nat) (w : World) (e : Ending) (w' : World) : Prop :=
  e = .returned (.int .i64 ((k + n : Nat) : Int)) ∧ OwnT w' B A c (marksT n k) ∧ w.grownBy w' (Value.ownBlock (.slice A n c))
/-- A row of whose cells m are marked. -/
def MarkedT (wr : World) (B g c n k0 m : Nat) : Prop :=
  ∃ xs, wr.ownsRow B 9 1 (.slice (some ⟨g, 0, none⟩) n c) n xs ∧ ∀ j, j < m → j < n → xs[j]? = some (.string (mtxt (k0 + j)))
theorem MarkedT.grown {wr w' : World} {B g c n k0 m : Nat} (h : MarkedT wr B g c n k0 m) (hb : Below wr.heap.size wr w') : MarkedT w' B g c n k0 m := by
  obtain ⟨xs, ho, hx⟩ := h
  exact ⟨xs, ho.kept (below_grown hb) (.inr (by simp [Value.ownBlock])), hx⟩
theorem MarkedT.cell {wr : World} {B g c n k0 m : Nat} (h : MarkedT wr B g c n k0 m) {j : Nat} (hj : j < n) : ∃ u, wr.cell? ⟨g, j, none⟩ = some u := by
  obtain ⟨xs, ho, hx⟩ := h
  have hl := ho.1
  exact ⟨_, (ho.cellAt j (by omega)).trans (List.getElem?_eq_getElem (by omega))⟩
theorem MarkedT.frozen {wr : World} {B g c n k0 m : Nat} (h : MarkedT wr B g c n k0 m) (j : Nat) : wr.frozen? ⟨g, j, none⟩ = false := by
  obtain ⟨xs, ho, hx⟩ := h
  exact ho.frozenAt j
theorem MarkedT.store {wr : World} {B g c n k0 m : Nat} (h : MarkedT wr B g c n k0 m) (hm : m < n) : MarkedT (wr.setCell ⟨g, m, none⟩ (.string (mtxt (k0 + m)))) B g c n k0 (m + 1) := by
  obtain ⟨xs, ho, hx⟩ := h
  have hl := ho.1
  refine ⟨_, (ho.stored m (.string (mtxt (k0 + m)))).1, fun j hj hn => ?_⟩
  by_cases e : j = m
  · subst e
    rw [List.getElem?_set_self (by omega)]
  · rw [List.getElem?_set_ne (by omega)]
    exact hx j (by omega) hn
theorem MarkedT.end_ {wr : World} {B g c n k0 : Nat} (h : MarkedT wr B g c n k0 n) : OwnT wr B (some ⟨g, 0, none⟩) c (marksT n k0) := by
  obtain ⟨xs, ho, hx⟩ := h
  have hl := ho.1
  have : xs = tcells (marksT n k0) := by
    refine List.ext_getElem (by rw [tcells_length, marksT_len]; omega) fun i h1 h2 => ?_
    have hi : i < n := by rw [tcells_length, marksT_len] at h2; omega
    have := hx i hi hi
    rw [List.getElem?_eq_getElem h1] at this
    rw [Option.some.inj this]
    simp [tcells, marksT_get]
  unfold OwnT
  rw [marksT_len]
  rwa [this] at ho

end Go.Proofs.Ytoipcjdpfbgghab
