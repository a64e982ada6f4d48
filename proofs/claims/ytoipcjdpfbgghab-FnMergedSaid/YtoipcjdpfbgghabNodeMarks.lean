/-
  Marks in nodes: how the exact laws write into nodes, and look whether it held.
-/
import Derived.Test.YtoipcjdpfbgghabMarks
import Derived.Test.YtoipcjdpfbgghabNodeKit
namespace Go.Proofs.Ytoipcjdpfbgghab
open Go.RowKit

/-- A node and where its lists lie. -/
structure NH where
  A : Option Addr
  c : Nat
  ps : PS
  K : Option Addr
  d : Nat
  ks : List Int
def nhc : List NH → List Value
  | [] => []
  | x :: r => .slice x.A x.ps.length x.c :: .slice x.K x.ks.length x.d :: nhc r
theorem nhc_length : ∀ L : List NH, (nhc L).length = L.length * 2
  | [] => rfl
  | x :: r => by simp [nhc, nhc_length r]; omega
theorem nhc_append : ∀ a b : List NH, nhc (a ++ b) = nhc a ++ nhc b
  | [], _ => rfl
  | x :: r, b => by simp [nhc, nhc_append r b]
theorem nhc_0 : ∀ (L : List NH) (i : Nat) (x : NH), L[i]? = some x → (nhc L)[i * 2]? = some (.slice x.A x.ps.length x.c)
  | [], _, _, h => by simp at h
  | y :: r, 0, x, h => by simp at h; subst h; rfl
  | y :: r, i + 1, x, h => by
    simp only [List.getElem?_cons_succ] at h
    rw [show (i + 1) * 2 = i * 2 + 1 + 1 by omega]
    simpa [nhc] using nhc_0 r i x h
theorem nhc_1 : ∀ (L : List NH) (i : Nat) (x : NH), L[i]? = some x → (nhc L)[i * 2 + 1]? = some (.slice x.K x.ks.length x.d)
  | [], _, _, h => by simp at h
  | y :: r, 0, x, h => by simp at h; subst h; rfl
  | y :: r, i + 1, x, h => by
    simp only [List.getElem?_cons_succ] at h
    rw [show (i + 1) * 2 + 1 = (i * 2 + 1) + 1 + 1 by omega]
    simpa [nhc] using nhc_1 r i x h
def NH.nd (x : NH) : ND := (x.ps, x.ks)
def apartB (a b : Option Addr) : Prop := ∀ x y, a = some x → b = some y → x.block ≠ y.block
def NH.apart (x y : NH) : Prop := apartB x.A y.A ∧ apartB x.K y.K

section
variable {w w' : World} {B c : Nat} {A : Option Addr} {L : List NH}
end

/-- Is the block one of the nodes' lists? -/
def inRows (L : List NH) (b : Nat) : Prop := ∃ x ∈ L, ∃ a, (x.A = some a ∨ x.K = some a) ∧ a.block = b
/-- Only the nodes' lists are turned. -/
structure Turned (L : List NH) (w w' : World) : Prop where
  os : w'.os = w.os
  tape : w'.tape = w.tape
  output : w'.output = w.output
  size : w.heap.size ≤ w'.heap.size
  block : ∀ k, k < w.heap.size → ¬ inRows L k → w'.heap[k]? = w.heap[k]?
theorem Turned.refl (L : List NH) (w : World) : Turned L w w := ⟨rfl, rfl, rfl, Nat.le_refl _, fun _ _ _ => rfl⟩
theorem Turned.grown {L : List NH} {a b c : World} {r : Option Nat} (h : Turned L a b) (hg : b.grownBy c r) (hr : ∀ k, r = some k → inRows L k) : Turned L a c :=
  ⟨hg.os.trans h.os, hg.tape.trans h.tape, hg.output.trans h.output, Nat.le_trans h.size hg.size, fun k hk hn => (hg.block k (Nat.lt_of_lt_of_le hk h.size) (fun e => hn (hr k e.symm))).trans (h.block k hk hn)⟩
theorem Turned.below {L : List NH} {w w' : World} {B : Nat} (h : Turned L w w') (hB : B ≤ w.heap.size) (hL : ∀ b, inRows L b → B ≤ b) : Below B w w' :=
  ⟨h.os, h.tape, h.output, h.size, fun k hk => h.block k (by omega) (fun hi => by have := hL k hi; omega)⟩

/-- Numbers that are marks. -/
def marksI : Nat → Nat → List Int
  | 0, _ => []
  | n + 1, k => (k : Int) :: marksI n (k + 1)
theorem marksI_len : ∀ n k : Nat, (marksI n k).length = n
  | 0, _ => rfl
  | n + 1, k => by simp [marksI, marksI_len n]
theorem marksI_get : ∀ (n k i : Nat) (h : i < (marksI n k).length), (marksI n k)[i] = ((k + i : Nat) : Int)
  | 0, _, _, h => by simp [marksI] at h
  | n + 1, k, 0, _ => rfl
  | n + 1, k, i + 1, h => by
    have := marksI_get n (k + 1) i (by simpa [marksI] using h)
    simp only [marksI, List.getElem_cons_succ, this]
    congr 1
    omega

/-- What markInt64S leaves. -/
def MarkIPost (B : Nat) (A : Option Addr) (c n k : Nat) (w : World) (e : Ending) (w' : World) : Prop :=
  e = .returned (.int .i64 ((k + n : Nat) : Int)) ∧ w'.ownsRow B 2 1 (.slice A n c) n (icells (marksI n k)) ∧ w.grownBy w' (Value.ownBlock (.slice A n c))
/-- A row of whose cells m are marked. -/
def MarkedI (wr : World) (B g c n k0 m : Nat) : Prop :=
  ∃ xs, wr.ownsRow B 2 1 (.slice (some ⟨g, 0, none⟩) n c) n xs ∧ ∀ j, j < m → j < n → xs[j]? = some (.int .i64 ((k0 + j : Nat) : Int))
theorem MarkedI.cell {wr : World} {B g c n k0 m : Nat} (h : MarkedI wr B g c n k0 m) {j : Nat} (hj : j < n) : ∃ u, wr.cell? ⟨g, j, none⟩ = some u := by
  obtain ⟨xs, ho, hx⟩ := h
  have hl := ho.1
  exact ⟨_, (ho.cellAt j (by omega)).trans (List.getElem?_eq_getElem (by omega))⟩
theorem MarkedI.frozen {wr : World} {B g c n k0 m : Nat} (h : MarkedI wr B g c n k0 m) (j : Nat) : wr.frozen? ⟨g, j, none⟩ = false := by
  obtain ⟨xs, ho, hx⟩ := h
  exact ho.frozenAt j
theorem MarkedI.store {wr : World} {B g c n k0 m : Nat} (h : MarkedI wr B g c n k0 m) (hm : m < n) : MarkedI (wr.setCell ⟨g, m, none⟩ (.int .i64 ((k0 + m : Nat) : Int))) B g c n k0 (m + 1) := by
  obtain ⟨xs, ho, hx⟩ := h
  have hl := ho.1
  refine ⟨_, (ho.stored m (.int .i64 ((k0 + m : Nat) : Int))).1, fun j hj hn => ?_⟩
  by_cases e : j = m
  · subst e
    rw [List.getElem?_set_self (by omega)]
  · rw [List.getElem?_set_ne (by omega)]
    exact hx j (by omega) hn
theorem MarkedI.end_ {wr : World} {B g c n k0 : Nat} (h : MarkedI wr B g c n k0 n) : wr.ownsRow B 2 1 (.slice (some ⟨g, 0, none⟩) n c) n (icells (marksI n k0)) := by
  obtain ⟨xs, ho, hx⟩ := h
  have hl := ho.1
  have : xs = icells (marksI n k0) := by
    refine List.ext_getElem (by rw [icells_length, marksI_len]; omega) fun i h1 h2 => ?_
    have hi : i < n := by rw [icells_length, marksI_len] at h2; omega
    have := hx i hi hi
    rw [List.getElem?_eq_getElem h1] at this
    rw [Option.some.inj this]
    simp [icells, marksI_get]
  rwa [this] at ho

/-! ### all nodes -/
def NH.key (x : NH) : Option Addr × Option Addr := (x.A, x.K)
theorem apart_key {L M : List NH} (h : L.map NH.key = M.map NH.key) (hp : L.Pairwise NH.apart) : M.Pairwise NH.apart := by
  have h1 : (L.map NH.key).Pairwise (fun x y => apartB x.1 y.1 ∧ apartB x.2 y.2) := by
    rw [List.pairwise_map]
    exact hp
  rw [h, List.pairwise_map] at h1
  exact h1
theorem rows_key {L M : List NH} (h : L.map NH.key = M.map NH.key) {b : Nat} (hb : inRows L b) : inRows M b := by
  obtain ⟨x, hx, a, ha, rfl⟩ := hb
  have : x.key ∈ M.map NH.key := by rw [← h]; exact List.mem_map_of_mem hx
  obtain ⟨y, hy, e⟩ := List.mem_map.1 this
  have e1 : y.A = x.A := congrArg Prod.fst e
  have e2 : y.K = x.K := congrArg Prod.snd e
  exact ⟨y, hy, a, by rw [e1, e2]; exact ha, rfl⟩
def NH.marked (x : NH) (k : Nat) : NH := { x with ps := marksL x.ps.length k, ks := marksI x.ks.length (k + 2 * x.ps.length) }
/-- The nodes, marked from k on. -/
def markN : Nat → List NH → List NH
  | _, [] => []
  | k, x :: r => x.marked k :: markN (k + 2 * x.ps.length + x.ks.length) r
/-- What comes behind the last mark. -/
def endN : Nat → List NH → Nat
  | k, [] => k
  | k, x :: r => endN (k + 2 * x.ps.length + x.ks.length) r
theorem markN_append : ∀ (k : Nat) (a b : List NH), markN k (a ++ b) = markN k a ++ markN (endN k a) b
  | _, [], _ => rfl
  | k, x :: r, b => by simp only [List.cons_append, markN, endN, markN_append _ r b]
theorem endN_append : ∀ (k : Nat) (a b : List NH), endN k (a ++ b) = endN (endN k a) b
  | _, [], _ => rfl
  | k, x :: r, b => by simp only [List.cons_append, endN, endN_append _ r b]
theorem markN_key : ∀ (k : Nat) (L : List NH), (markN k L).map NH.key = L.map NH.key
  | _, [] => rfl
  | k, x :: r => by simp only [markN, List.map_cons, markN_key _ r]; rfl
theorem markN_len (k : Nat) (L : List NH) : (markN k L).length = L.length := by
  have := congrArg List.length (markN_key k L)
  simpa using this
theorem markN_get : ∀ (k : Nat) (L : List NH) (i : Nat) (h : i < L.length), (markN k L)[i]'(by rw [markN_len]; exact h) = L[i].marked (endN k (L.take i))
  | _, [], _, h => by simp at h
  | k, x :: r, 0, _ => rfl
  | k, x :: r, i + 1, h => by
    have := markN_get (k + 2 * x.ps.length + x.ks.length) r i (by simpa using h)
    simp only [markN, List.getElem_cons_succ, List.take_succ_cons, endN]
    exact this
theorem endN_take {k : Nat} {L : List NH} {i : Nat} (h : i < L.length) : endN k (L.take (i + 1)) = endN k (L.take i) + 2 * L[i].ps.length + L[i].ks.length := by
  rw [List.take_succ_eq_append_getElem h, endN_append]
  rfl
theorem endN_le {L : List NH} (hs : ∀ x ∈ L, x.ps.length ≤ 1048577 ∧ x.ks.length ≤ 1048577) : ∀ k, endN k L ≤ k + L.length * 3145731 := by
  induction L with
  | nil => intro k; simp [endN]
  | cons x r ih =>
    intro k
    have h1 := hs x (by simp)
    have h2 := ih (fun y hy => hs y (by simp [hy])) (k + 2 * x.ps.length + x.ks.length)
    simp only [endN, List.length_cons]
    omega
theorem own_type {w : World} {B : Nat} {e : TypeId} {size n : Nat} {v : Value} {xs : List Value} (h : w.ownsRow B e size v n xs) {k : Nat} (hk : v.ownBlock = some k) : ∃ cur, w.heap[k]? = some (.cells cur e (0, 0)) := by
  rcases h.2 with ⟨hv, _⟩ | ⟨g, cap, cur, hv, _, hh, _⟩
  · rw [hv] at hk; cases hk
  · rw [hv] at hk
    have : g = k := by simpa [Value.ownBlock] using hk
    subst this
    exact ⟨cur, hh⟩
/-- A row of other elements lies elsewhere. -/
theorem row_other {w w' : World} {B B' : Nat} {e e' : TypeId} {s s' n n' : Nat} {v v' : Value} {xs xs' : List Value} (h : w.ownsRow B e s v n xs) (hx : w.ownsRow B' e' s' v' n' xs') (hne : e ≠ e') (hg : w.grownBy w' v'.ownBlock) : w'.ownsRow B e s v n xs := by
  refine h.kept hg ?_
  cases hv : v.ownBlock with
  | none => exact .inl rfl
  | some k =>
    right
    intro hk
    obtain ⟨c1, h1⟩ := own_type h hv
    obtain ⟨c2, h2⟩ := own_type hx hk.symm
    rw [h1] at h2
    injection h2 with h2
    injection h2 with _ h2
    exact hne h2
theorem own_apart {A B : Option Addr} {n c n' c' : Nat} (h : apartB A B) : Value.ownBlock (.slice A n c) = none ∨ Value.ownBlock (.slice A n c) ≠ Value.ownBlock (.slice B n' c') := by
  cases A with
  | none => exact .inl rfl
  | some a =>
    right
    intro e
    cases B with
    | none => cases e
    | some b =>
      have : a.block = b.block := by simpa [Value.ownBlock] using e
      exact h a b rfl rfl this
theorem apartB.symm {A B : Option Addr} (h : apartB A B) : apartB B A := fun x y hx hy e => h y x hy hx e.symm

/-- The first i nodes are marked. -/
def midN (k : Nat) (L : List NH) (i : Nat) : List NH := markN k (L.take i) ++ L.drop i
theorem midN_len (k : Nat) (L : List NH) (i : Nat) : (midN k L i).length = L.length := by
  simp only [midN, List.length_append, markN_len, List.length_take, List.length_drop]
  omega
theorem midN_key (k : Nat) (L : List NH) (i : Nat) : (midN k L i).map NH.key = L.map NH.key := by
  rw [midN, List.map_append, markN_key, ← List.map_append, List.take_append_drop]
theorem midN_cons {k : Nat} {L : List NH} {i : Nat} (h : i < L.length) : midN k L i = markN k (L.take i) ++ L[i] :: L.drop (i + 1) := by rw [midN, List.drop_eq_getElem_cons h]
theorem midN_succ {k : Nat} {L : List NH} {i : Nat} (h : i < L.length) : midN k L (i + 1) = markN k (L.take i) ++ L[i].marked (endN k (L.take i)) :: L.drop (i + 1) := by
  rw [midN, List.take_succ_eq_append_getElem h, markN_append]
  simp [markN]
theorem midN_at {k : Nat} {L : List NH} {i : Nat} (h : i < L.length) (h' : i < (midN k L i).length) : (midN k L i)[i] = L[i] := by
  have hl : (markN k (L.take i)).length = i := by rw [markN_len, List.length_take]; omega
  simp only [midN_cons h]
  rw [List.getElem_append_right (by omega)]
  simp [hl]
theorem inRows_get {L : List NH} {i : Nat} (h : i < L.length) {k n c : Nat} : (Value.ownBlock (.slice L[i].A n c) = some k ∨ Value.ownBlock (.slice L[i].K n c) = some k) → inRows L k := by
  rintro (e | e)
  · cases ha : L[i].A with
    | none => rw [ha] at e; cases e
    | some a =>
      rw [ha] at e
      exact ⟨L[i], List.getElem_mem h, a, .inl ha, by simpa [Value.ownBlock] using e⟩
  · cases ha : L[i].K with
    | none => rw [ha] at e; cases e
    | some a =>
      rw [ha] at e
      exact ⟨L[i], List.getElem_mem h, a, .inr ha, by simpa [Value.ownBlock] using e⟩

end Go.Proofs.Ytoipcjdpfbgghab
