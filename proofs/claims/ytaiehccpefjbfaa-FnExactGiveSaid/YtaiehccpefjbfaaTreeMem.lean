/-
  Lists of nodes and trees in memory: the model's trees, which are values, and the program's, which are pointers.
-/
import Derived.Test.YtaiehccpefjbfaaTree
import Derived.Test.YtaiehccpefjbfaaInts
import Derived.OneCell
namespace Go.Proofs.Ytaiehccpefjbfaa
open Go.RowKit

/-! ### lists of nodes -/
/-- The slice at A, below block B, holds these nodes. -/
def RN (w : World) (B : Nat) (A : Option Addr) (ns : List ND) : Prop :=
  ns = [] ∨ ∃ (b off : Nat) (FA FK : Nat → Option Addr) (FC FD : Nat → Nat), A = some ⟨b, off, none⟩ ∧ b < B ∧ ∀ (i : Nat) (nd : ND), ns[i]? = some nd →
    w.cell? ⟨b, off + i * 2, none⟩ = some (.slice (FA i) nd.1.length (FC i)) ∧ w.cell? ⟨b, off + i * 2 + 1, none⟩ = some (.slice (FK i) nd.2.length (FD i)) ∧ RP w B (FA i) nd.1 ∧ RI w B (FK i) nd.2
section
variable {w w' : World} {B B' : Nat} {A : Option Addr} {ns : List ND}
theorem RN.at_ {k : Nat} (h : RN w B A ns) (hk : k < ns.length) :
    ∃ (b off : Nat) (A' K' : Option Addr) (c d : Nat), A = some ⟨b, off, none⟩ ∧ b < B ∧ w.cell? ⟨b, off + k * 2, none⟩ = some (.slice A' ns[k].1.length c) ∧ w.cell? ⟨b, off + k * 2 + 1, none⟩ = some (.slice K' ns[k].2.length d) ∧ RP w B A' ns[k].1 ∧ RI w B K' ns[k].2 := by
  rcases h with rfl | ⟨b, off, FA, FK, FC, FD, e, hb, hc⟩
  · simp at hk
  · obtain ⟨h1, h2, h3, h4⟩ := hc k _ (List.getElem?_eq_getElem hk)
    exact ⟨b, off, _, _, _, _, e, hb, h1, h2, h3, h4⟩
theorem RN.keep (h : RN w B A ns) (hk : ∀ p : Addr, p.block < B → w'.cell? p = w.cell? p) : RN w' B A ns := by
  rcases h with rfl | ⟨b, off, FA, FK, FC, FD, e, hb, hc⟩
  · exact .inl rfl
  · refine .inr ⟨b, off, FA, FK, FC, FD, e, hb, fun i nd hn => ?_⟩
    obtain ⟨h1, h2, h3, h4⟩ := hc i nd hn
    exact ⟨(hk _ hb).trans h1, (hk _ hb).trans h2, h3.keep hk, h4.keep hk⟩
theorem RN.more (h : RN w B A ns) (hB : B ≤ B') : RN w B' A ns := by
  rcases h with rfl | ⟨b, off, FA, FK, FC, FD, e, hb, hc⟩
  · exact .inl rfl
  · refine .inr ⟨b, off, FA, FK, FC, FD, e, by omega, fun i nd hn => ?_⟩
    obtain ⟨h1, h2, h3, h4⟩ := hc i nd hn
    exact ⟨h1, h2, h3.more hB, h4.more hB⟩
theorem RN.below (h : RN w B A ns) (hb : Below B w w') : RN w' B A ns := h.keep fun _ hp => hb.cell hp
end

/-! ### pairs in a set of blocks -/
def RPS (w : World) (S : Nat → Prop) (A : Option Addr) (ps : PS) : Prop :=
  ps = [] ∨ ∃ b off, A = some ⟨b, off, none⟩ ∧ S b ∧ ∀ (i : Nat) (p : BB), ps[i]? = some p → w.cell? ⟨b, off + i * 2, none⟩ = some (.string p.1) ∧ w.cell? ⟨b, off + i * 2 + 1, none⟩ = some (.string p.2)
theorem RPS.rp {w : World} {S : Nat → Prop} {B : Nat} {A : Option Addr} {ps : PS} (h : RPS w S A ps) (hS : ∀ b, S b → b < B) : RP w B A ps := by
  rcases h with rfl | ⟨b, off, e, hb, hc⟩
  · exact .inl rfl
  · exact .inr ⟨b, off, e, hS b hb, hc⟩
theorem RPS.of_rp {w : World} {B : Nat} {A : Option Addr} {ps : PS} (h : RP w B A ps) : RPS w (· < B) A ps := h
theorem RPS.keep {w w' : World} {S S' : Nat → Prop} {A : Option Addr} {ps : PS} (h : RPS w S A ps) (hk : ∀ b, S b → w'.heap[b]? = w.heap[b]?) (hS : ∀ b, S b → S' b) : RPS w' S' A ps := by
  rcases h with rfl | ⟨b, off, e, hb, hc⟩
  · exact .inl rfl
  · refine .inr ⟨b, off, e, hS b hb, fun i p hp => ?_⟩
    obtain ⟨h1, h2⟩ := hc i p hp
    exact ⟨(World.cell?_of_block (a := ⟨b, off + i * 2, none⟩) (hk b hb)).trans h1, (World.cell?_of_block (a := ⟨b, off + i * 2 + 1, none⟩) (hk b hb)).trans h2⟩
theorem RPS.of_own {w : World} {B c : Nat} {A : Option Addr} {ps : PS} (h : OwnP w B A c ps) : RPS w (fun b => Value.ownBlock (.slice A ps.length c) = some b) A ps := by
  rcases h.rp with e | ⟨b, off, e, hb, hc⟩
  · exact .inl e
  · rcases h.2 with ⟨hv, hn⟩ | ⟨g, cap, cur, hv, _⟩
    · exact .inl (List.eq_nil_of_length_eq_zero hn)
    · refine .inr ⟨b, off, e, ?_, hc⟩
      rw [hv]
      injection hv with hA
      rw [e] at hA
      injection hA with hA
      injection hA with hA
      subst hA
      rfl

/-! ### the model's trees: values -/
inductive RT (w : World) (S : Nat → Prop) : Option Addr → Option Addr → BT → Prop
  | node {A K : Option Addr} {ps : PS} {ks : List BT} (b off : Nat) (FA FK : Nat → Option Addr) (FC FD : Nat → Nat) :
      RPS w S A ps → (ks = [] ∨ (K = some ⟨b, off, none⟩ ∧ S b)) →
      (∀ i t, ks[i]? = some t → w.cell? ⟨b, off + i * 2, none⟩ = some (.slice (FA i) t.ps.length (FC i)) ∧ w.cell? ⟨b, off + i * 2 + 1, none⟩ = some (.slice (FK i) t.ks.length (FD i))) →
      (∀ i t, ks[i]? = some t → RT w S (FA i) (FK i) t) → RT w S A K (.node ps ks)
theorem RT.keep {w w' : World} {S S' : Nat → Prop} {A K : Option Addr} {t : BT} (h : RT w S A K t) (hk : ∀ b, S b → w'.heap[b]? = w.heap[b]?) (hS : ∀ b, S b → S' b) : RT w' S' A K t := by
  induction h with
  | node b off FA FK FC FD h1 h2 h3 _ ih =>
    refine .node b off FA FK FC FD (h1.keep hk hS) (h2.imp id fun h => ⟨h.1, hS _ h.2⟩) (fun i t ht => ?_) ih
    rcases h2 with rfl | ⟨_, hb⟩
    · simp at ht
    · obtain ⟨c1, c2⟩ := h3 i t ht
      exact ⟨(World.cell?_of_block (a := ⟨b, off + i * 2, none⟩) (hk b hb)).trans c1, (World.cell?_of_block (a := ⟨b, off + i * 2 + 1, none⟩) (hk b hb)).trans c2⟩
theorem RT.pairs {w : World} {S : Nat → Prop} {A K : Option Addr} {ps : PS} {ks : List BT} (h : RT w S A K (.node ps ks)) : RPS w S A ps := by
  cases h with
  | node b off FA FK FC FD h1 h2 h3 h4 => exact h1
theorem RT.kid {w : World} {S : Nat → Prop} {A K : Option Addr} {ps : PS} {ks : List BT} (h : RT w S A K (.node ps ks)) {k : Nat} (hk : k < ks.length) :
    ∃ (b off : Nat) (A' K' : Option Addr) (c d : Nat), K = some ⟨b, off, none⟩ ∧ S b ∧ w.cell? ⟨b, off + k * 2, none⟩ = some (.slice A' ks[k].ps.length c) ∧ w.cell? ⟨b, off + k * 2 + 1, none⟩ = some (.slice K' ks[k].ks.length d) ∧ RT w S A' K' ks[k] := by
  cases h with
  | node b off FA FK FC FD h1 h2 h3 h4 =>
    have hx := List.getElem?_eq_getElem hk
    obtain ⟨c1, c2⟩ := h3 k _ hx
    rcases h2 with rfl | ⟨e, hb⟩
    · simp at hk
    · exact ⟨b, off, _, _, _, _, e, hb, c1, c2, h4 k _ hx⟩
theorem BT.eta (t : BT) : .node t.ps t.ks = t := by cases t; rfl

/-! ### the program's trees: pointers -/
def ptr (g : Nat) : Value := .pointer (some ⟨g, 0, none⟩)
/-- The pointers of kids. -/
def ptrs (G : Nat → Nat) (n : Nat) : List Value := (List.range n).map fun i => ptr (G i)
theorem ptrs_length (G : Nat → Nat) (n : Nat) : (ptrs G n).length = n := by simp [ptrs]
theorem ptrs_at {G : Nat → Nat} {n i : Nat} (h : i < n) : (ptrs G n)[i]? = some (ptr (G i)) := by simp [ptrs, h]
theorem ptrs_snoc (G : Nat → Nat) (n g : Nat) : ptrs G n ++ [ptr g] = ptrs (fun i => if i = n then g else G i) (n + 1) := by
  simp only [ptrs, List.range_succ, List.map_append, List.map_cons, List.map_nil, if_true]
  congr 1
  refine List.map_congr_left fun i hi => ?_
  rw [if_neg (by have := List.mem_range.1 hi; omega)]

/-- A branch at block g, whose own blocks are all in S, whose pairs lie in R. -/
inductive OT (w : World) (R : Nat → Prop) : (Nat → Prop) → Nat → BT → Prop
  | node {S : Nat → Prop} {g : Nat} {A K : Option Addr} {c d : Nat} {ps : PS} {ks : List BT} (F : Nat → Nat → Prop) (G : Nat → Nat) :
      S g → w.heap[g]? = some (.cells #[.slice A ps.length c, .slice K ks.length d] 216 (0, 0)) → RPS w R A ps →
      w.ownsRow 0 182 1 (.slice K ks.length d) ks.length (ptrs G ks.length) →
      (∀ k, Value.ownBlock (.slice K ks.length d) = some k → S k ∧ k ≠ g ∧ ∀ i, i < ks.length → ¬ F i k) →
      (∀ i, i < ks.length → (∀ b, F i b → S b) ∧ ¬ F i g ∧ ∀ j, j < ks.length → j ≠ i → ∀ b, F i b → ¬ F j b) →
      (∀ i t, ks[i]? = some t → OT w R (F i) (G i) t) → OT w R S g (.node ps ks)
theorem ownsRow_keep {w w' : World} {base : Nat} {e : TypeId} {size n : Nat} {v : Value} {xs : List Value} (h : w.ownsRow base e size v n xs) (hk : ∀ k, v.ownBlock = some k → w'.heap[k]? = w.heap[k]?) : w'.ownsRow base e size v n xs := by
  obtain ⟨h1, h2⟩ := h
  refine ⟨h1, ?_⟩
  rcases h2 with h2 | ⟨g, cap, cur, hv, hg, hh, r⟩
  · exact Or.inl h2
  · subst hv
    exact Or.inr ⟨g, cap, cur, rfl, hg, by rw [hk g rfl]; exact hh, r⟩
theorem OT.keep {w w' : World} {R R' S : Nat → Prop} {g : Nat} {t : BT} (h : OT w R S g t) (hk : ∀ b, S b ∨ R b → w'.heap[b]? = w.heap[b]?) (hR : ∀ b, R b → R' b) : OT w' R' S g t := by
  induction h with
  | node F G hg hh hp hr hb hd _ ih =>
    refine .node F G hg ((hk _ (.inl hg)).trans hh) (hp.keep (fun b h => hk b (.inr h)) hR) (ownsRow_keep hr fun k e => hk k (.inl (hb k e).1)) hb hd fun i t ht => ?_
    have hi := (List.getElem?_eq_some_iff.1 ht).1
    exact ih i t ht fun b h => hk b (h.imp (fun h => (hd i hi).1 b h) id)
theorem OT.wide {w : World} {R S S' : Nat → Prop} {g : Nat} {t : BT} (h : OT w R S g t) (hS : ∀ b, S b → S' b) : OT w R S' g t := by
  cases h with
  | node F G hg hh hp hr hb hd hk =>
    exact .node F G (hS _ hg) hh hp hr (fun k e => ⟨hS _ (hb k e).1, (hb k e).2⟩) (fun i hi => ⟨fun b h => hS _ ((hd i hi).1 b h), (hd i hi).2⟩) hk
theorem OT.in_ {w : World} {R S : Nat → Prop} {g : Nat} {t : BT} (h : OT w R S g t) : S g := by
  cases h with
  | node F G hg hh hp hr hb hd hk => exact hg
/-- What a walk reads of a branch. -/
theorem OT.open_ {w : World} {R S : Nat → Prop} {g : Nat} {ps : PS} {ks : List BT} (h : OT w R S g (.node ps ks)) :
    ∃ (A K : Option Addr) (c d : Nat), w.cell? ⟨g, 0, none⟩ = some (.slice A ps.length c) ∧ w.cell? ⟨g, 1, none⟩ = some (.slice K ks.length d) ∧ RPS w R A ps ∧
      ∀ (k : Nat) (hk : k < ks.length), ∃ (b gk : Nat) (Sk : Nat → Prop), K = some ⟨b, 0, none⟩ ∧ S b ∧ w.cell? ⟨b, k, none⟩ = some (ptr gk) ∧ (∀ x, Sk x → S x) ∧ ¬ Sk g ∧ OT w R Sk gk ks[k] := by
  cases h with
  | @node S g A K c d ps ks F G hg hh hp hr hb hd hk =>
    refine ⟨A, K, c, d, ?_, ?_, hp, fun k hlt => ?_⟩
    · simp [World.cell?, hh]
    · simp [World.cell?, hh]
    · rcases hr.2 with ⟨hv, hn⟩ | ⟨kb, cap, cur, hv, hrest⟩
      · omega
      · have hv' := hv
        injection hv with h1 _ h3
        subst h1 h3
        have hc := hr.cellAt k (by omega)
        rw [ptrs_at hlt] at hc
        exact ⟨kb, G k, F k, rfl, (hb kb rfl).1, hc, (hd k hlt).1, (hd k hlt).2.1, hk k _ (List.getElem?_eq_getElem hlt)⟩
/-- Its blocks are there. -/
theorem OT.lt {w : World} {R S : Nat → Prop} {g : Nat} {t : BT} (h : OT w R S g t) : g < w.heap.size := by
  cases h with
  | node F G hg hh hp hr hb hd hk => exact lt_of_block hh
end Go.Proofs.Ytaiehccpefjbfaa
