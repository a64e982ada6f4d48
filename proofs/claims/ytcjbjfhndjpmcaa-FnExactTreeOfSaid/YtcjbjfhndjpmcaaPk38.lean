import Derived.Test.YtcjbjfhndjpmcaaPk20
import Derived.Test.YtcjbjfhndjpmcaaPk09
import Derived.Test.YtcjbjfhndjpmcaaPk37
/-
  Marks in nodes: how the exact laws write into nodes, and look whether it held.
-/
namespace Go.Proofs.Ytcjbjfhndjpmcaa
open Go.RowKit

/-- A node and where its lists lie. -/
structure NH where
  A : Option Addr
  c : Nat
  ps : PS
  K : Option Addr
  d : Nat
  ks : List Int
def nhc : List NH → List Value
  | [] => []
  | x :: r => .slice x.A x.ps.length x.c :: .slice x.K x.ks.length x.d :: nhc r
theorem nhc_length : ∀ L : List NH, (nhc L).length = L.length * 2
  | [] => rfl
  | x :: r => by simp [nhc, nhc_length r]; omega
theorem nhc_append : ∀ a b : List NH, nhc (a ++ b) = nhc a ++ nhc b
  | [], _ => rfl
  | x :: r, b => by simp [nhc, nhc_append r b]
theorem nhc_0 : ∀ (L : List NH) (i : Nat) (x : NH), L[i]? = some x → (nhc L)[i * 2]? = some (.slice x.A x.ps.length x.c)
  | [], _, _, h => by simp at h
  | y :: r, 0, x, h => by simp at h; subst h; rfl
  | y :: r, i + 1, x, h => by
    simp only [List.getElem?_cons_succ] at h
    rw [show (i + 1) * 2 = i * 2 + 1 + 1 by omega]
    simpa [nhc] using nhc_0 r i x h
theorem nhc_1 : ∀ (L : List NH) (i : Nat) (x : NH), L[i]? = some x → (nhc L)[i * 2 + 1]? = some (.slice x.K x.ks.length x.d)
  | [], _, _, h => by simp at h
  | y :: r, 0, x, h => by simp at h; subst h; rfl
  | y :: r, i + 1, x, h => by
    simp only [List.getElem?_cons_succ] at h
    rw [show (i + 1) * 2 + 1 = (i * 2 + 1) + 1 + 1 by omega]
    simpa [nhc] using nhc_1 r i x h
def NH.nd (x : NH) : ND := (x.ps, x.ks)
def apartB (a b : Option Addr) : Prop := ∀ x y, a = some x → b = some y → x.block ≠ y.block
def NH.apart (x y : NH) : Prop := apartB x.A y.A ∧ apartB x.K y.K

/-- Nodes of the call's own, no two lists of which lie in one row. -/
def NodesO (w : World) (B : Nat) (A : Option Addr) (c : Nat) (L : List NH) : Prop :=
  w.ownsRow B 77 2 (.slice A L.length c) L.length (nhc L) ∧ (∀ x ∈ L, OwnP w B x.A x.c x.ps ∧ OwnI w B x.K x.d x.ks) ∧ L.Pairwise NH.apart
section
variable {w w' : World} {B c : Nat} {A : Option Addr} {L : List NH}
theorem NodesO.below (h : NodesO w B A c L) (hb : Below w.heap.size w w') : NodesO w' B A c L := by
  obtain ⟨h1, h2, h3⟩ := h
  exact ⟨ownsRow_keep h1 fun k hk => hb.block k (h1.lt k hk).2, fun x hx => ⟨(h2 x hx).1.below hb, (h2 x hx).2.below hb⟩, h3⟩
theorem NodesO.rn (h : NodesO w B A c L) : RN w w.heap.size A (L.map NH.nd) := by
  obtain ⟨h1, h2, h3⟩ := h
  rcases h1.2 with ⟨hv, hn⟩ | ⟨g, cap, cur, hv, hr⟩
  · left
    rw [List.eq_nil_of_length_eq_zero hn]
    rfl
  · right
    injection hv with e1 _ e3
    subst e1 e3
    refine ⟨g, 0, fun i => (L.getD i ⟨none, 0, [], none, 0, []⟩).A, fun i => (L.getD i ⟨none, 0, [], none, 0, []⟩).K, fun i => (L.getD i ⟨none, 0, [], none, 0, []⟩).c, fun i => (L.getD i ⟨none, 0, [], none, 0, []⟩).d, rfl, (h1.lt g rfl).2, fun i nd hn => ?_⟩
    have hi : i < L.length := by have := (List.getElem?_eq_some_iff.1 hn).1; simpa using this
    have hx : L[i]? = some L[i] := List.getElem?_eq_getElem hi
    have e : L.getD i ⟨none, 0, [], none, 0, []⟩ = L[i] := by simp [hi]
    have hnd : nd = L[i].nd := by
      rw [List.getElem?_map, hx] at hn
      exact (Option.some.inj hn).symm
    subst hnd
    simp only [e, Nat.zero_add]
    refine ⟨(h1.cellAt (i * 2) (by omega)).trans (nhc_0 L i _ hx), (h1.cellAt (i * 2 + 1) (by omega)).trans (nhc_1 L i _ hx), ?_, ?_⟩
    · exact (h2 _ (List.getElem_mem hi)).1.rp
    · exact (h2 _ (List.getElem_mem hi)).2.ri
/-- What a walk reads at one node. -/
theorem NodesO.at_ (h : NodesO w B A c L) {i : Nat} (hi : i < L.length) : ∃ g, A = some ⟨g, 0, none⟩ ∧ g < w.heap.size ∧ w.cell? ⟨g, i * 2, none⟩ = some (.slice L[i].A L[i].ps.length L[i].c) ∧ w.cell? ⟨g, i * 2 + 1, none⟩ = some (.slice L[i].K L[i].ks.length L[i].d) := by
  obtain ⟨h1, h2, h3⟩ := h
  rcases h1.2 with ⟨hv, hn⟩ | ⟨g, cap, cur, hv, hr⟩
  · omega
  · injection hv with e1 _ e3
    subst e1 e3
    have hx : L[i]? = some L[i] := List.getElem?_eq_getElem hi
    exact ⟨g, rfl, (h1.lt g rfl).2, (h1.cellAt (i * 2) (by omega)).trans (nhc_0 L i _ hx), (h1.cellAt (i * 2 + 1) (by omega)).trans (nhc_1 L i _ hx)⟩
end

/-- Is the block one of the nodes' lists? -/
def inRows (L : List NH) (b : Nat) : Prop := ∃ x ∈ L, ∃ a, (x.A = some a ∨ x.K = some a) ∧ a.block = b
/-- Only the nodes' lists are turned. -/
structure Turned (L : List NH) (w w' : World) : Prop where
  os : w'.os = w.os
  tape : w'.tape = w.tape
  output : w'.output = w.output
  size : w.heap.size ≤ w'.heap.size
  block : ∀ k, k < w.heap.size → ¬ inRows L k → w'.heap[k]? = w.heap[k]?
theorem Turned.refl (L : List NH) (w : World) : Turned L w w := ⟨rfl, rfl, rfl, Nat.le_refl _, fun _ _ _ => rfl⟩
theorem Turned.grown {L : List NH} {a b c : World} {r : Option Nat} (h : Turned L a b) (hg : b.grownBy c r) (hr : ∀ k, r = some k → inRows L k) : Turned L a c :=
  ⟨hg.os.trans h.os, hg.tape.trans h.tape, hg.output.trans h.output, Nat.le_trans h.size hg.size, fun k hk hn => (hg.block k (Nat.lt_of_lt_of_le hk h.size) (fun e => hn (hr k e.symm))).trans (h.block k hk hn)⟩
theorem inRows_lt {w : World} {B c : Nat} {A : Option Addr} {L : List NH} (h : NodesO w B A c L) {b : Nat} (hb : inRows L b) : B ≤ b ∧ b < w.heap.size := by
  obtain ⟨x, hx, a, ha, rfl⟩ := hb
  rcases ha with ha | ha
  · exact (World.ownsRow.lt (h.2.1 x hx).1) _ (by rw [ha]; rfl)
  · exact (World.ownsRow.lt (h.2.1 x hx).2) _ (by rw [ha]; rfl)
theorem Turned.below {L : List NH} {w w' : World} {B : Nat} (h : Turned L w w') (hB : B ≤ w.heap.size) (hL : ∀ b, inRows L b → B ≤ b) : Below B w w' :=
  ⟨h.os, h.tape, h.output, h.size, fun k hk => h.block k (by omega) (fun hi => by have := hL k hi; omega)⟩

/-- Numbers that are marks. -/
def marksI : Nat → Nat → List Int
  | 0, _ => []
  | n + 1, k => (k : Int) :: marksI n (k + 1)
theorem marksI_len : ∀ n k : Nat, (marksI n k).length = n
  | 0, _ => rfl
  | n + 1, k => by simp [marksI, marksI_len n]
theorem marksI_get : ∀ (n k i : Nat) (h : i < (marksI n k).length), (marksI n k)[i] = ((k + i : Nat) : Int)
  | 0, _, _, h => by simp [marksI] at h
  | n + 1, k, 0, _ => rfl
  | n + 1, k, i + 1, h => by
    have := marksI_get n (k + 1) i (by simpa [marksI] using h)
    simp only [marksI, List.getElem_cons_succ, this]
    congr 1
    omega

/-- What markInt64S leaves. -/
def MarkIPost (B : Nat) (A : Option Addr) (c n k : Nat) (w : World) (e : Ending) (w' : World) : Prop :=
  e = .returned (.int .i64 ((k + n : Nat) : Int)) ∧ w'.ownsRow B 2 1 (.slice A n c) n (icells (marksI n k)) ∧ w.grownBy w' (Value.ownBlock (.slice A n c))
/-- A row of whose cells m are marked. -/
def MarkedI (wr : World) (B g c n k0 m : Nat) : Prop :=
  ∃ xs, wr.ownsRow B 2 1 (.slice (some ⟨g, 0, none⟩) n c) n xs ∧ ∀ j, j < m → j < n → xs[j]? = some (.int .i64 ((k0 + j : Nat) : Int))
theorem MarkedI.cell {wr : World} {B g c n k0 m : Nat} (h : MarkedI wr B g c n k0 m) {j : Nat} (hj : j < n) : ∃ u, wr.cell? ⟨g, j, none⟩ = some u := by
  obtain ⟨xs, ho, hx⟩ := h
  have hl := ho.1
  exact ⟨_, (ho.cellAt j (by omega)).trans (List.getElem?_eq_getElem (by omega))⟩
theorem MarkedI.frozen {wr : World} {B g c n k0 m : Nat} (h : MarkedI wr B g c n k0 m) (j : Nat) : wr.frozen? ⟨g, j, none⟩ = false := by
  obtain ⟨xs, ho, hx⟩ := h
  exact ho.frozenAt j
theorem MarkedI.store {wr : World} {B g c n k0 m : Nat} (h : MarkedI wr B g c n k0 m) (hm : m < n) : MarkedI (wr.setCell ⟨g, m, none⟩ (.int .i64 ((k0 + m : Nat) : Int))) B g c n k0 (m + 1) := by
  obtain ⟨xs, ho, hx⟩ := h
  have hl := ho.1
  refine ⟨_, (ho.stored m (.int .i64 ((k0 + m : Nat) : Int))).1, fun j hj hn => ?_⟩
  by_cases e : j = m
  · subst e
    rw [List.getElem?_set_self (by omega)]
  · rw [List.getElem?_set_ne (by omega)]
    exact hx j (by omega) hn
theorem MarkedI.end_ {wr : World} {B g c n k0 : Nat} (h : MarkedI wr B g c n k0 n) : wr.ownsRow B 2 1 (.slice (some ⟨g, 0, none⟩) n c) n (icells (marksI n k0)) := by
  obtain ⟨xs, ho, hx⟩ := h
  have hl := ho.1
  have : xs = icells (marksI n k0) := by
    refine List.ext_getElem (by rw [icells_length, marksI_len]; omega) fun i h1 h2 => ?_
    have hi : i < n := by rw [icells_length, marksI_len] at h2; omega
    have := hx i hi hi
    rw [List.getElem?_eq_getElem h1] at this
    rw [Option.some.inj this]
    simp [icells, marksI_get]
  rwa [this] at ho

set_option maxHeartbeats 1000000 in
set_option maxRecDepth 100000 in
theorem markInt64S_any (B : Nat) (A : Option Addr) (c : Nat) (xs : List Int) (k : Nat) (w : World) (ho : OwnI w B A c xs) (hn : xs.length ≤ 2000000) (hk : k ≤ 10000000000000) :
    Calls Try.prog 67 #[.slice A xs.length c, .int .i64 (k : Int)] w (MarkIPost B A c xs.length k w) := by
  rcases ho.2 with ⟨hv, h0⟩ | ⟨g, cap, cur, hv, hg, hh, hnc, _⟩
  · injection hv with e1 e2 e3
    subst e1 e3
    obtain rfl : xs = [] := List.eq_nil_of_length_eq_zero h0
    clear h0 e2 ho
    go_enter Try.func67, Try.ntmps67
    go_wp2_with fail
    go_loopw [1, 5] (fun q i wr => i = .int .i64 0 ∧ q = .int .i64 (k : Int) ∧ wr = w) (fun _ _ _ => 0)
    case atStart => exact ⟨rfl, rfl, rfl⟩
    case round =>
      obtain ⟨rfl, rfl, rfl⟩ := hrel
      go_wp2_with fail
      go_ret
      exact ⟨rfl, World.ownsRow_nil _ _ _ _, ⟨rfl, rfl, rfl, Nat.le_refl _, fun _ _ _ => rfl⟩⟩
  · injection hv with e1 e2 e3
    subst e1 e3
    have hM : MarkedI w B g c xs.length k 0 := ⟨_, ho, fun j hj => absurd hj (by omega)⟩
    have HM := hid hM
    clear hM ho hh e2 hg
    generalize xs.length = n at *
    go_enter Try.func67, Try.ntmps67
    go_wp2_with fail
    go_loopw [1, 5] (fun q i wr => ∃ j m : Nat, j ≤ n ∧ m = k + j ∧ i = .int .i64 (j : Int) ∧ q = .int .i64 (m : Int) ∧ MarkedI wr B g c n k j ∧ w.grownBy wr (some g)) (fun _ i _ => n - (intOf i).toNat)
    case atStart => exact ⟨0, k, Nat.zero_le _, rfl, rfl, rfl, HM.out, ⟨rfl, rfl, rfl, Nat.le_refl _, fun _ _ _ => rfl⟩⟩
    case round =>
      obtain ⟨j, m, hj, hm, rfl, rfl, hmk, hgr⟩ := hrel
      have HK := hid hmk
      have HG := hid hgr
      have HE := hid hm
      have hmb : m ≤ 10000002000000 := by omega
      by_cases hlt : j < n
      · have hst := hmk.store hlt
        rw [← hm] at hst
        have HST := hid hst
        obtain ⟨u, hu⟩ := hmk.cell hlt
        have f1 := hmk.frozen j
        clear hmk hgr hm hst
        go_wp2_with fail
        refine ⟨⟨j + 1, m + 1, by omega, by have := HE.out; omega, by go_num, by go_num, HST.out, grown_trans HG.out (grown_set wr g j _)⟩, by simp [intOf]; omega⟩
      · obtain rfl : j = n := by omega
        clear hmk hgr hm
        go_wp2_with fail
        go_ret
        exact ⟨ret_int (by have := HE.out; omega), HK.out.end_, HG.out⟩

set_option maxHeartbeats 1000000 in
set_option maxRecDepth 100000 in
theorem heldInt64S_any (A : Option Addr) (c n k B : Nat) (w : World) (hr : RI w B A (marksI n k)) (hn : n ≤ 2000000) (hk : k ≤ 10000000000000) :
    Calls Try.prog 69 #[.slice A n c, .int .i64 (k : Int)] w fun e w' => e = .returned (.int .i64 ((k + n : Nat) : Int)) ∧ Drawn w w' := by
  have HR := hid hr
  clear hr
  go_enter Try.func69, Try.ntmps69
  go_wp2_with fail
  go_loopw [1, 5] (fun q i wr => ∃ j m : Nat, j ≤ n ∧ m = k + j ∧ i = .int .i64 (j : Int) ∧ q = .int .i64 (m : Int) ∧ Drawn w wr) (fun _ i _ => n - (intOf i).toNat)
  case atStart => exact ⟨0, k, Nat.zero_le _, rfl, rfl, rfl, Drawn.refl _⟩
  case round =>
    obtain ⟨j, m, hj, hm, rfl, rfl, hdr⟩ := hrel
    have hmb : m ≤ 10000002000000 := by omega
    by_cases hlt : j < n
    · have hjl : j < (marksI n k).length := by rw [marksI_len]; exact hlt
      obtain ⟨b, off, rfl, hb, hc⟩ := (HR.out.below (hdr.below B)).at_ hjl
      rw [marksI_get, ← hm] at hc
      have HE := hid hm
      have HD := hid hdr
      have h1 : ((m : Int) != (m : Int)) = false := by simp
      have e5 : (0 : Int) ≤ (j : Int) := by omega
      have e6 : (j : Int) < (n : Int) := by omega
      clear hm hdr
      first
        | (go_wp2_with fail
           go_roundw
           case rel => exact ⟨j + 1, m + 1, by omega, by have := HE.out; omega, by go_num, by go_num, HD.out⟩
           case measure => simp [intOf]; omega)
        | (go_wp2_with fail
           go_quiet (fail)
           go_wp2_with fail
           go_roundw
           case rel => exact ⟨j + 1, m + 1, by omega, by have := HE.out; omega, by go_num, by go_num, HD.out.drewN _⟩
           case measure => simp [intOf]; omega)
    · obtain rfl : j = n := by omega
      have HE := hid hm
      have HD := hid hdr
      clear hm hdr
      go_wp2_with fail
      go_ret
      exact ⟨ret_int (by have := HE.out; omega), HD.out⟩

/-! ### all nodes -/
def NH.key (x : NH) : Option Addr × Option Addr := (x.A, x.K)
theorem apart_key {L M : List NH} (h : L.map NH.key = M.map NH.key) (hp : L.Pairwise NH.apart) : M.Pairwise NH.apart := by
  have h1 : (L.map NH.key).Pairwise (fun x y => apartB x.1 y.1 ∧ apartB x.2 y.2) := by
    rw [List.pairwise_map]
    exact hp
  rw [h, List.pairwise_map] at h1
  exact h1
theorem rows_key {L M : List NH} (h : L.map NH.key = M.map NH.key) {b : Nat} (hb : inRows L b) : inRows M b := by
  obtain ⟨x, hx, a, ha, rfl⟩ := hb
  have : x.key ∈ M.map NH.key := by rw [← h]; exact List.mem_map_of_mem hx
  obtain ⟨y, hy, e⟩ := List.mem_map.1 this
  have e1 : y.A = x.A := congrArg Prod.fst e
  have e2 : y.K = x.K := congrArg Prod.snd e
  exact ⟨y, hy, a, by rw [e1, e2]; exact ha, rfl⟩
def NH.marked (x : NH) (k : Nat) : NH := { x with ps := marksL x.ps.length k, ks := marksI x.ks.length (k + 2 * x.ps.length) }
/-- The nodes, marked from k on. -/
def markN : Nat → List NH → List NH
  | _, [] => []
  | k, x :: r => x.marked k :: markN (k + 2 * x.ps.length + x.ks.length) r
/-- What comes behind the last mark. -/
def endN : Nat → List NH → Nat
  | k, [] => k
  | k, x :: r => endN (k + 2 * x.ps.length + x.ks.length) r
theorem markN_append : ∀ (k : Nat) (a b : List NH), markN k (a ++ b) = markN k a ++ markN (endN k a) b
  | _, [], _ => rfl
  | k, x :: r, b => by simp only [List.cons_append, markN, endN, markN_append _ r b]
theorem endN_append : ∀ (k : Nat) (a b : List NH), endN k (a ++ b) = endN (endN k a) b
  | _, [], _ => rfl
  | k, x :: r, b => by simp only [List.cons_append, endN, endN_append _ r b]
theorem markN_key : ∀ (k : Nat) (L : List NH), (markN k L).map NH.key = L.map NH.key
  | _, [] => rfl
  | k, x :: r => by simp only [markN, List.map_cons, markN_key _ r]; rfl
theorem markN_len (k : Nat) (L : List NH) : (markN k L).length = L.length := by
  have := congrArg List.length (markN_key k L)
  simpa using this
theorem markN_get : ∀ (k : Nat) (L : List NH) (i : Nat) (h : i < L.length), (markN k L)[i]'(by rw [markN_len]; exact h) = L[i].marked (endN k (L.take i))
  | _, [], _, h => by simp at h
  | k, x :: r, 0, _ => rfl
  | k, x :: r, i + 1, h => by
    have := markN_get (k + 2 * x.ps.length + x.ks.length) r i (by simpa using h)
    simp only [markN, List.getElem_cons_succ, List.take_succ_cons, endN]
    exact this
theorem endN_take {k : Nat} {L : List NH} {i : Nat} (h : i < L.length) : endN k (L.take (i + 1)) = endN k (L.take i) + 2 * L[i].ps.length + L[i].ks.length := by
  rw [List.take_succ_eq_append_getElem h, endN_append]
  rfl
theorem endN_le {L : List NH} (hs : ∀ x ∈ L, x.ps.length ≤ 1048577 ∧ x.ks.length ≤ 1048577) : ∀ k, endN k L ≤ k + L.length * 3145731 := by
  induction L with
  | nil => intro k; simp [endN]
  | cons x r ih =>
    intro k
    have h1 := hs x (by simp)
    have h2 := ih (fun y hy => hs y (by simp [hy])) (k + 2 * x.ps.length + x.ks.length)
    simp only [endN, List.length_cons]
    omega
theorem own_type {w : World} {B : Nat} {e : TypeId} {size n : Nat} {v : Value} {xs : List Value} (h : w.ownsRow B e size v n xs) {k : Nat} (hk : v.ownBlock = some k) : ∃ cur, w.heap[k]? = some (.cells cur e (0, 0)) := by
  rcases h.2 with ⟨hv, _⟩ | ⟨g, cap, cur, hv, _, hh, _⟩
  · rw [hv] at hk; cases hk
  · rw [hv] at hk
    have : g = k := by simpa [Value.ownBlock] using hk
    subst this
    exact ⟨cur, hh⟩
/-- A row of other elements lies elsewhere. -/
theorem row_other {w w' : World} {B B' : Nat} {e e' : TypeId} {s s' n n' : Nat} {v v' : Value} {xs xs' : List Value} (h : w.ownsRow B e s v n xs) (hx : w.ownsRow B' e' s' v' n' xs') (hne : e ≠ e') (hg : w.grownBy w' v'.ownBlock) : w'.ownsRow B e s v n xs := by
  refine h.kept hg ?_
  cases hv : v.ownBlock with
  | none => exact .inl rfl
  | some k =>
    right
    intro hk
    obtain ⟨c1, h1⟩ := own_type h hv
    obtain ⟨c2, h2⟩ := own_type hx hk.symm
    rw [h1] at h2
    injection h2 with h2
    injection h2 with _ h2
    exact hne h2
theorem own_apart {A B : Option Addr} {n c n' c' : Nat} (h : apartB A B) : Value.ownBlock (.slice A n c) = none ∨ Value.ownBlock (.slice A n c) ≠ Value.ownBlock (.slice B n' c') := by
  cases A with
  | none => exact .inl rfl
  | some a =>
    right
    intro e
    cases B with
    | none => cases e
    | some b =>
      have : a.block = b.block := by simpa [Value.ownBlock] using e
      exact h a b rfl rfl this
theorem apartB.symm {A B : Option Addr} (h : apartB A B) : apartB B A := fun x y hx hy e => h y x hy hx e.symm

/-- One list of pairs is turned. -/
theorem NodesO.pairs {w w' : World} {B c : Nat} {A : Option Addr} {M1 M2 : List NH} {x : NH} (h : NodesO w B A c (M1 ++ x :: M2)) {ps' : PS} (hl : ps'.length = x.ps.length) (ho : OwnP w' B x.A x.c ps') (hg : w.grownBy w' (Value.ownBlock (.slice x.A x.ps.length x.c))) :
    NodesO w' B A c (M1 ++ { x with ps := ps' } :: M2) := by
  obtain ⟨h1, h2, h3⟩ := h
  have hx := h2 x (by simp)
  rw [List.pairwise_append, List.pairwise_cons] at h3
  obtain ⟨p1, ⟨p2, p3⟩, p4⟩ := h3
  have hoth : ∀ y, (y ∈ M1 ∨ y ∈ M2) → OwnP w' B y.A y.c y.ps ∧ OwnI w' B y.K y.d y.ks := fun y hy => by
    have hy' := h2 y (by rcases hy with hy | hy <;> simp [hy])
    refine ⟨hy'.1.kept hg ?_, row_other hy'.2 hx.1 (by decide) hg⟩
    rcases hy with hy | hy
    · exact own_apart (p4 y hy x (by simp)).1
    · exact own_apart (p2 y hy).1.symm
  refine ⟨?_, fun y hy => ?_, ?_⟩
  · have e : nhc (M1 ++ { x with ps := ps' } :: M2) = nhc (M1 ++ x :: M2) := by simp only [nhc_append, nhc, hl]
    have el : (M1 ++ { x with ps := ps' } :: M2).length = (M1 ++ x :: M2).length := by simp
    rw [e, el]
    exact row_other h1 hx.1 (by decide) hg
  · rcases List.mem_append.1 hy with hy | hy
    · exact hoth y (.inl hy)
    · rcases List.mem_cons.1 hy with rfl | hy
      · exact ⟨ho, row_other hx.2 hx.1 (by decide) hg⟩
      · exact hoth y (.inr hy)
  · rw [List.pairwise_append, List.pairwise_cons]
    exact ⟨p1, ⟨fun y hy => p2 y hy, p3⟩, fun y hy z hz => by
      rcases List.mem_cons.1 hz with rfl | hz
      · exact p4 y hy x (by simp)
      · exact p4 y hy z (by simp [hz])⟩
/-- One list of kids is turned. -/
theorem NodesO.kids {w w' : World} {B c : Nat} {A : Option Addr} {M1 M2 : List NH} {x : NH} (h : NodesO w B A c (M1 ++ x :: M2)) {ks' : List Int} (hl : ks'.length = x.ks.length) (ho : OwnI w' B x.K x.d ks') (hg : w.grownBy w' (Value.ownBlock (.slice x.K x.ks.length x.d))) :
    NodesO w' B A c (M1 ++ { x with ks := ks' } :: M2) := by
  obtain ⟨h1, h2, h3⟩ := h
  have hx := h2 x (by simp)
  rw [List.pairwise_append, List.pairwise_cons] at h3
  obtain ⟨p1, ⟨p2, p3⟩, p4⟩ := h3
  have hoth : ∀ y, (y ∈ M1 ∨ y ∈ M2) → OwnP w' B y.A y.c y.ps ∧ OwnI w' B y.K y.d y.ks := fun y hy => by
    have hy' := h2 y (by rcases hy with hy | hy <;> simp [hy])
    refine ⟨row_other hy'.1 hx.2 (by decide) hg, hy'.2.kept hg ?_⟩
    rcases hy with hy | hy
    · exact own_apart (p4 y hy x (by simp)).2
    · exact own_apart (p2 y hy).2.symm
  refine ⟨?_, fun y hy => ?_, ?_⟩
  · have e : nhc (M1 ++ { x with ks := ks' } :: M2) = nhc (M1 ++ x :: M2) := by simp only [nhc_append, nhc, hl]
    have el : (M1 ++ { x with ks := ks' } :: M2).length = (M1 ++ x :: M2).length := by simp
    rw [e, el]
    exact row_other h1 hx.2 (by decide) hg
  · rcases List.mem_append.1 hy with hy | hy
    · exact hoth y (.inl hy)
    · rcases List.mem_cons.1 hy with rfl | hy
      · exact ⟨row_other hx.1 hx.2 (by decide) hg, ho⟩
      · exact hoth y (.inr hy)
  · rw [List.pairwise_append, List.pairwise_cons]
    exact ⟨p1, ⟨fun y hy => p2 y hy, p3⟩, fun y hy z hz => by
      rcases List.mem_cons.1 hz with rfl | hz
      · exact p4 y hy x (by simp)
      · exact p4 y hy z (by simp [hz])⟩

/-- The first i nodes are marked. -/
def midN (k : Nat) (L : List NH) (i : Nat) : List NH := markN k (L.take i) ++ L.drop i
theorem midN_len (k : Nat) (L : List NH) (i : Nat) : (midN k L i).length = L.length := by
  simp only [midN, List.length_append, markN_len, List.length_take, List.length_drop]
  omega
theorem midN_key (k : Nat) (L : List NH) (i : Nat) : (midN k L i).map NH.key = L.map NH.key := by
  rw [midN, List.map_append, markN_key, ← List.map_append, List.take_append_drop]
theorem midN_cons {k : Nat} {L : List NH} {i : Nat} (h : i < L.length) : midN k L i = markN k (L.take i) ++ L[i] :: L.drop (i + 1) := by rw [midN, List.drop_eq_getElem_cons h]
theorem midN_succ {k : Nat} {L : List NH} {i : Nat} (h : i < L.length) : midN k L (i + 1) = markN k (L.take i) ++ L[i].marked (endN k (L.take i)) :: L.drop (i + 1) := by
  rw [midN, List.take_succ_eq_append_getElem h, markN_append]
  simp [markN]
theorem midN_at {k : Nat} {L : List NH} {i : Nat} (h : i < L.length) (h' : i < (midN k L i).length) : (midN k L i)[i] = L[i] := by
  have hl : (markN k (L.take i)).length = i := by rw [markN_len, List.length_take]; omega
  simp only [midN_cons h]
  rw [List.getElem_append_right (by omega)]
  simp [hl]
theorem inRows_get {L : List NH} {i : Nat} (h : i < L.length) {k n c : Nat} : (Value.ownBlock (.slice L[i].A n c) = some k ∨ Value.ownBlock (.slice L[i].K n c) = some k) → inRows L k := by
  rintro (e | e)
  · cases ha : L[i].A with
    | none => rw [ha] at e; cases e
    | some a =>
      rw [ha] at e
      exact ⟨L[i], List.getElem_mem h, a, .inl ha, by simpa [Value.ownBlock] using e⟩
  · cases ha : L[i].K with
    | none => rw [ha] at e; cases e
    | some a =>
      rw [ha] at e
      exact ⟨L[i], List.getElem_mem h, a, .inr ha, by simpa [Value.ownBlock] using e⟩

def MarkNPost (B : Nat) (A : Option Addr) (c : Nat) (L : List NH) (k : Nat) (w : World) (e : Ending) (w' : World) : Prop :=
  e = .returned (.int .i64 ((endN k L : Nat) : Int)) ∧ NodesO w' B A c (markN k L) ∧ Turned L w w'

set_option maxHeartbeats 2000000 in
set_option maxRecDepth 100000 in
theorem markNodeS_any (B : Nat) (A : Option Addr) (c : Nat) (L : List NH) (k : Nat) (w : World) (ho : NodesO w B A c L) (hn : L.length ≤ 1048576) (hs : ∀ x ∈ L, x.ps.length ≤ 1048577 ∧ x.ks.length ≤ 1048577) (hk : k ≤ 1000) :
    Calls Try.prog 20 #[.slice A L.length c, .int .i64 (k : Int)] w (MarkNPost B A c L k w) := by
  have HO := hid ho
  have HSM := hid hs
  have HEB : Hid (∀ i, i ≤ L.length → endN k (L.take i) ≤ 4000000000000) := fun i hi => by
    have h1 := endN_le (L := L.take i) (fun x hx => hs x (List.mem_of_mem_take hx)) k
    rw [List.length_take, Nat.min_eq_left hi] at h1
    have h2 : i * 3145731 ≤ 1048576 * 3145731 := Nat.mul_le_mul_right _ (by omega)
    omega
  clear ho hs
  go_enter Try.func20, Try.ntmps20
  go_wp2_with fail
  go_loopw [1, 5] (fun q i wr => ∃ (j m : Nat), j ≤ L.length ∧ i = .int .i64 (j : Int) ∧ q = .int .i64 (m : Int) ∧ Hid (m = endN k (L.take j)) ∧ NodesO wr B A c (midN k L j) ∧ Turned L w wr) (fun _ i _ => L.length - (intOf i).toNat)
  case atStart => exact ⟨0, k, Nat.zero_le _, rfl, rfl, rfl, by simpa [midN, markN] using HO.out, Turned.refl _ _⟩
  case round =>
    obtain ⟨j, m, hj, rfl, rfl, HM, hno, htu⟩ := hrel
    have hmb : m ≤ 4000000000000 := by rw [HM.out]; exact HEB.out j hj
    have HN := hid hno
    have HT := hid htu
    clear hno htu
    by_cases hlt : j < L.length
    · have hjm : j < (midN k L j).length := by rw [midN_len]; exact hlt
      obtain ⟨g, rfl, hg, hc1, hc2⟩ := HN.out.at_ hjm
      rw [midN_at hlt hjm] at hc1 hc2
      have hsz := HSM.out L[j] (List.getElem_mem hlt)
      have hno := HN.out
      rw [midN_cons hlt] at hno
      have hx := (hno.2.1 L[j] (List.mem_append_right _ (List.mem_cons_self))).1
      have HX := hid hx
      have HNO := hid hno
      have e5 : (0 : Int) ≤ (j : Int) := by omega
      have e6 : (j : Int) < (L.length : Int) := by omega
      have e7 : (0 : Int) ≤ (m : Int) := by omega
      clear hno hx
      go_wp2_with fail
      refine (markPairS_any B L[j].A L[j].c L[j].ps m _ HX.out (by omega) (by omega)).mono ?_
      rintro e w1 ⟨rfl, ho1, hg1⟩
      have hp1 : OwnP w1 B L[j].A L[j].c (marksL L[j].ps.length m) := by
        unfold OwnP
        rw [marksL_len]
        exact ho1
      have hn1 := HNO.out.pairs (ps' := marksL L[j].ps.length m) (by rw [marksL_len]) hp1 hg1
      have HN1 := hid hn1
      have HT1 := hid (HT.out.grown hg1 (fun k e => inRows_get hlt (.inl e)))
      have hx1 := (hn1.2.1 { L[j] with ps := marksL L[j].ps.length m } (List.mem_append_right _ (List.mem_cons_self))).2
      have HX1 := hid hx1
      have hrow : w1.cell? ⟨g, j * 2 + 1, none⟩ = some (.slice L[j].K L[j].ks.length L[j].d) := by
        have hlen : (markN k (L.take j)).length = j := by rw [markN_len, List.length_take]; omega
        have hj2 : j < (markN k (L.take j) ++ { L[j] with ps := marksL L[j].ps.length m } :: L.drop (j + 1)).length := by simp [hlen]
        obtain ⟨g', e', _, _, h2⟩ := hn1.at_ hj2
        injection e' with e'
        injection e' with e'
        subst e'
        have hget : (markN k (L.take j) ++ { L[j] with ps := marksL L[j].ps.length m } :: L.drop (j + 1))[j] = { L[j] with ps := marksL L[j].ps.length m } := by
          rw [List.getElem_append_right (by omega)]
          simp [hlen]
        rw [hget] at h2
        exact h2
      have hq : ((m + 2 * L[j].ps.length : Nat) : Int) = ((m + 2 * L[j].ps.length : Nat) : Int) := rfl
      generalize hm2 : m + 2 * L[j].ps.length = m2 at *
      have HM2 := hid hm2
      have hm2b : m2 ≤ 4000004000000 := by omega
      clear ho1 hg1 hp1 hn1 hx1 hc1 hc2 hm2 hq
      go_wp2_with fail
      refine (markInt64S_any B L[j].K L[j].d L[j].ks m2 _ HX1.out (by omega) (by omega)).mono ?_
      rintro e w2 ⟨rfl, ho2, hg2⟩
      have hp2 : OwnI w2 B L[j].K L[j].d (marksI L[j].ks.length m2) := by
        unfold OwnI
        rw [marksI_len]
        exact ho2
      have hn2 := HN1.out.kids (ks' := marksI L[j].ks.length m2) (by rw [marksI_len]) hp2 hg2
      have HN2 := hid hn2
      have HT2 := hid (HT1.out.grown hg2 (fun k e => inRows_get hlt (.inr e)))
      clear ho2 hg2 hp2 hn2 hrow
      go_wp2_with fail
      go_roundw
      case rel => exact ⟨j + 1, m2 + L[j].ks.length, by omega, by go_num, by go_num, by
          rw [Hid, endN_take hlt, ← HM.out, ← HM2.out], by
          rw [midN_succ hlt, ← HM.out]
          have h := HN2.out
          rw [← HM2.out] at h
          exact h, HT2.out⟩
      case measure => simp [intOf]; omega
    · obtain rfl : j = L.length := by omega
      go_wp2_with fail
      go_ret
      refine ⟨ret_int (by rw [HM.out, List.take_length]), ?_, HT.out⟩
      have h := HN.out
      rw [midN, List.take_length, List.drop_length, List.append_nil] at h
      exact h

set_option maxHeartbeats 2000000 in
set_option maxRecDepth 100000 in
theorem heldNodeS_any (B : Nat) (A : Option Addr) (c : Nat) (L : List NH) (k : Nat) (w : World) (ho : NodesO w B A c (markN k L)) (hn : L.length ≤ 1048576) (hs : ∀ x ∈ L, x.ps.length ≤ 1048577 ∧ x.ks.length ≤ 1048577) (hk : k ≤ 1000) :
    Calls Try.prog 21 #[.slice A L.length c, .int .i64 (k : Int)] w fun e w' => e = .returned (.int .i64 ((endN k L : Nat) : Int)) ∧ Below w.heap.size w w' := by
  have HO := hid ho
  have HSM := hid hs
  have HEB : Hid (∀ i, i ≤ L.length → endN k (L.take i) ≤ 4000000000000) := fun i hi => by
    have h1 := endN_le (L := L.take i) (fun x hx => hs x (List.mem_of_mem_take hx)) k
    rw [List.length_take, Nat.min_eq_left hi] at h1
    have h2 : i * 3145731 ≤ 1048576 * 3145731 := Nat.mul_le_mul_right _ (by omega)
    omega
  clear ho hs
  go_enter Try.func21, Try.ntmps21
  go_wp2_with fail
  go_loopw [1, 5] (fun q i wr => ∃ (j m : Nat), j ≤ L.length ∧ i = .int .i64 (j : Int) ∧ q = .int .i64 (m : Int) ∧ Hid (m = endN k (L.take j)) ∧ Below w.heap.size w wr) (fun _ i _ => L.length - (intOf i).toNat)
  case atStart => exact ⟨0, k, Nat.zero_le _, rfl, rfl, rfl, Below.refl _ _⟩
  case round =>
    obtain ⟨j, m, hj, rfl, rfl, HM, hbw⟩ := hrel
    have hmb : m ≤ 4000000000000 := by rw [HM.out]; exact HEB.out j hj
    have HD := hid hbw
    have HN := hid (HO.out.below hbw)
    clear hbw
    by_cases hlt : j < L.length
    · have hjm : j < (markN k L).length := by rw [markN_len]; exact hlt
      obtain ⟨g, rfl, hg, hc1, hc2⟩ := HN.out.at_ hjm
      rw [markN_get k L j hlt, ← HM.out] at hc1 hc2
      have hsz := HSM.out L[j] (List.getElem_mem hlt)
      have hx := HN.out.2.1 _ (List.getElem_mem hjm)
      rw [markN_get k L j hlt, ← HM.out] at hx
      have hrp : RP wr wr.heap.size L[j].A (marksL L[j].ps.length m) := hx.1.rp
      have hri : RI wr wr.heap.size L[j].K (marksI L[j].ks.length (m + 2 * L[j].ps.length)) := hx.2.ri
      simp only [NH.marked, marksL_len, marksI_len] at hc1 hc2
      have HRP := hid hrp
      have HRI := hid hri
      have e5 : (0 : Int) ≤ (j : Int) := by omega
      have e6 : (j : Int) < (L.length : Int) := by omega
      have e7 : (0 : Int) ≤ (m : Int) := by omega
      clear hx hrp hri
      go_wp2_with fail
      refine (heldPairS_any L[j].A L[j].c L[j].ps.length m _ HRP.out (by omega) (by omega)).mono ?_
      rintro e w1 ⟨rfl, hb1⟩
      have HB1 := hid hb1
      have c2' := (hb1.cell (p := ⟨g, j * 2 + 1, none⟩) hg).trans hc2
      generalize hm2 : m + 2 * L[j].ps.length = m2 at *
      have HM2 := hid hm2
      have hm2b : m2 ≤ 4000004000000 := by omega
      have e8 : (0 : Int) ≤ (m2 : Int) := by omega
      clear hb1 hc1 hc2 hm2
      go_wp2_with fail
      refine (heldInt64S_any L[j].K L[j].d L[j].ks.length m2 wr.heap.size _ (HRI.out.below HB1.out) (by omega) (by omega)).mono ?_
      rintro e w2 ⟨rfl, hd2⟩
      have HB2 := hid (HD.out.trans ((HB1.out.trans (hd2.below _)).mono HD.out.size))
      have e9 : ¬ (((m2 + L[j].ks.length : Nat) : Int) < 0) := by omega
      clear hd2 c2'
      go_wp2_with fail
      go_roundw
      case rel => exact ⟨j + 1, m2 + L[j].ks.length, by omega, by go_num, by go_num, by
          rw [Hid, endN_take hlt, ← HM.out, ← HM2.out], HB2.out⟩
      case measure => simp [intOf]; omega
    · obtain rfl : j = L.length := by omega
      go_wp2_with fail
      go_ret
      exact ⟨ret_int (by rw [HM.out, List.take_length]), HD.out⟩
end Go.Proofs.Ytcjbjfhndjpmcaa
