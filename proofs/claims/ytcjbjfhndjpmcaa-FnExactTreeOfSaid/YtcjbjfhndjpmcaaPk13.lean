import Derived.Test.YtcjbjfhndjpmcaaPk12
/-
  Branches that are put together: what holds of memory.
-/
namespace Go.Proofs.Ytcjbjfhndjpmcaa
open Go.RowKit

theorem own_mono {w : World} {base base' : Nat} {e : TypeId} {size : Nat} {v : Value} {n : Nat} {xs : List Value} (h : w.ownsRow base e size v n xs) (hb : base' ≤ base) : w.ownsRow base' e size v n xs :=
  ⟨h.1, h.2.imp id fun ⟨g, cap, cur, h1, h2, h3⟩ => ⟨g, cap, cur, h1, Nat.le_trans hb h2, h3⟩⟩
/-! ### what one block more turns -/
theorem gr_refl (w : World) (r : Option Nat) : w.grownBy w r := ⟨rfl, rfl, rfl, Nat.le_refl _, fun _ _ _ => rfl⟩
theorem gr_trans {a b c : World} {r : Option Nat} (h : a.grownBy b r) (h' : b.grownBy c r) : a.grownBy c r :=
  ⟨h'.os.trans h.os, h'.tape.trans h.tape, h'.output.trans h.output, Nat.le_trans h.size h'.size, fun k hk hr => (h'.block k (Nat.lt_of_lt_of_le hk h.size) hr).trans (h.block k hk hr)⟩
theorem gr_set (w : World) (g j : Nat) (u : Value) : w.grownBy (w.setCell ⟨g, j, none⟩ u) (some g) :=
  ⟨rfl, rfl, rfl, by simp, fun k _ hk => Below.heap_setCell _ _ _ _ (fun e => hk (by simp [e]))⟩
theorem gr_alloc (w : World) (o : Obj) (r : Option Nat) : w.grownBy (w.alloc o) r := ⟨rfl, rfl, rfl, by simp, fun k hk _ => Below.heap_alloc _ _ _ hk⟩
/-- Of what is newer than a nothing need be said. -/
theorem gr_far {a b c : World} {r r' : Option Nat} (h : a.grownBy b r) (h' : b.grownBy c r') (hr : ∀ k, r' = some k → a.heap.size ≤ k) : a.grownBy c r :=
  ⟨h'.os.trans h.os, h'.tape.trans h.tape, h'.output.trans h.output, Nat.le_trans h.size h'.size, fun k hk hx => (h'.block k (Nat.lt_of_lt_of_le hk h.size) (fun e => by have := hr k e.symm; omega)).trans (h.block k hk hx)⟩
theorem gr_below {a b : World} {x B : Nat} (h : a.grownBy b (some x)) (hB : B ≤ x) (hs : B ≤ a.heap.size) : Below B a b := ⟨h.os, h.tape, h.output, h.size, fun k hk => h.block k (by omega) (fun e => by injection e; omega)⟩
theorem One.gr {w w' : World} {b x : Nat} {v : Value} {t : TypeId} (h : One w b v t) (hg : w.grownBy w' (some x)) (hne : b ≠ x) : One w' b v t := (hg.block b h.lt (fun e => hne (by injection e))).trans h
theorem One.gr' {w w' : World} {b : Nat} {v : Value} {t : TypeId} {r : Option Nat} (h : One w b v t) (hg : w.grownBy w' r) (hne : ∀ k, r = some k → b < k) : One w' b v t := (hg.block b h.lt (fun e => by have := hne b e.symm; omega)).trans h
theorem Row2.heap {w : World} {g : Nat} {t : TypeId} {a b : Value} (h : Row2 w g t a b) : w.heap[g]? = some (.cells #[a, b] t (0, 0)) := by
  rcases h.2 with ⟨hv, _⟩ | ⟨g', cap, cur, hv, hb, hh, h1, h2, h3, h4⟩
  · cases hv
  · injection hv with e1 e2 e3
    injection e1 with e1
    injection e1 with e1
    subst e1 e3
    have hc : cur = #[a, b] := by
      have hl : cur.toList = [a, b] := by rw [← h4, List.take_of_length_le (by simp [h3])]
      exact Array.toList_inj.1 (by simpa using hl)
    rw [hh, hc]

/-- A branch and the blocks that are its own. -/
structure OH where
  g : Nat
  S : Nat → Prop
  t : BT
def ohc (L : List OH) : List Value := L.map fun x => ptr x.g
/-- A row of branches of the call's own. -/
def KidsO (w : World) (R : Nat → Prop) (lo : Nat) (K : Option Addr) (d : Nat) (L : List OH) : Prop :=
  w.ownsRow lo 71 1 (.slice K L.length d) L.length (ohc L) ∧
    (∀ x ∈ L, OT w R x.S x.g x.t ∧ ∀ b, x.S b → lo ≤ b ∧ b < w.heap.size ∧ Value.ownBlock (.slice K L.length d) ≠ some b) ∧
    L.Pairwise fun x y => ∀ b, x.S b → ¬ y.S b
section
variable {w w' : World} {R : Nat → Prop} {lo d : Nat} {K : Option Addr} {L : List OH}
theorem KidsO.nil (w : World) (R : Nat → Prop) (lo : Nat) : KidsO w R lo none 0 [] := ⟨World.ownsRow_nil _ _ _ _, fun x hx => by simp at hx, List.Pairwise.nil⟩
theorem KidsO.gr {x : Nat} (h : KidsO w R lo K d L) (hg : w.grownBy w' (some x)) (hx : x < lo) (hR : ∀ b, R b → b < x) (hxs : x < w.heap.size) : KidsO w' R lo K d L := by
  obtain ⟨h1, h2, h3⟩ := h
  refine ⟨ownsRow_keep h1 fun k hk => hg.block k (h1.lt k hk).2 (fun e => by have := (h1.lt k hk).1; injection e; omega), fun y hy => ⟨?_, fun b hb => ?_⟩, h3⟩
  · obtain ⟨a1, a2⟩ := h2 y hy
    refine a1.keep (fun b hb => ?_) (fun _ h => h)
    rcases hb with hb | hb
    · have := a2 b hb
      exact hg.block b this.2.1 (fun e => by injection e; omega)
    · have := hR b hb
      exact hg.block b (by omega) (fun e => by injection e; omega)
  · obtain ⟨a1, a2, a3⟩ := (h2 y hy).2 b hb
    exact ⟨a1, Nat.lt_of_lt_of_le a2 hg.size, a3⟩
theorem KidsO.alloc (h : KidsO w R lo K d L) (o : Obj) (hR : ∀ b, R b → b < w.heap.size) : KidsO (w.alloc o) R lo K d L := by
  obtain ⟨h1, h2, h3⟩ := h
  refine ⟨h1.alloc o, fun y hy => ⟨?_, fun b hb => ?_⟩, h3⟩
  · obtain ⟨a1, a2⟩ := h2 y hy
    refine a1.keep (fun b hb => ?_) (fun _ h => h)
    rcases hb with hb | hb
    · exact Below.heap_alloc _ _ _ (a2 b hb).2.1
    · exact Below.heap_alloc _ _ _ (hR b hb)
  · obtain ⟨a1, a2, a3⟩ := (h2 y hy).2 b hb
    exact ⟨a1, by simp; omega, a3⟩
/-- One branch more, in memory that was new. -/
theorem KidsO.push {lo2 d' : Nat} {K' : Option Addr} (h : KidsO w R lo K d L) {x : OH} (hx : OT w R x.S x.g x.t) (hS : ∀ b, x.S b → lo2 ≤ b ∧ b < w.heap.size) (hlo : lo ≤ lo2) (hR : ∀ b, R b → b < lo)
    (hold : ∀ y ∈ L, ∀ b, y.S b → b < lo2) (hk : ∀ k, Value.ownBlock (.slice K L.length d) = some k → lo ≤ k ∧ k < lo2)
    (hown : w'.ownsRow lo 71 1 (.slice K' (L.length + 1) d') (L.length + 1) (ohc L ++ [ptr x.g])) (hgr : w.grownBy w' (Value.ownBlock (.slice K L.length d)))
    (hat : ∀ k, Value.ownBlock (.slice K' (L.length + 1) d') = some k → Value.ownBlock (.slice K L.length d) = some k ∨ w.heap.size ≤ k) : KidsO w' R lo K' d' (L ++ [x]) := by
  obtain ⟨h1, h2, h3⟩ := h
  have hsz : lo ≤ w.heap.size ∨ True := .inr trivial
  refine ⟨by simpa [ohc] using hown, fun y hy => ?_, ?_⟩
  · have hy2 : OT w R y.S y.g y.t ∧ ∀ b, y.S b → lo ≤ b ∧ b < w.heap.size ∧ Value.ownBlock (.slice K L.length d) ≠ some b := by
      rcases List.mem_append.1 hy with hy | hy
      · exact h2 y hy
      · have : y = x := by simpa using hy
        subst this
        refine ⟨hx, fun b hb => ?_⟩
        obtain ⟨a1, a2⟩ := hS b hb
        exact ⟨by omega, a2, fun e => by have := hk b e; omega⟩
    obtain ⟨a1, a2⟩ := hy2
    refine ⟨a1.keep (fun b hb => ?_) (fun _ h => h), fun b hb => ?_⟩
    · rcases hb with hb | hb
      · obtain ⟨c1, c2, c3⟩ := a2 b hb
        exact hgr.block b c2 (fun e => c3 e.symm)
      · have hb' := hR b hb
        have hbs : b < w.heap.size := by
          have := hx.lt
          have := (hS x.g hx.in_).1
          omega
        exact hgr.block b hbs (fun e => by have := (hk b e.symm).1; omega)
    · obtain ⟨c1, c2, c3⟩ := a2 b hb
      refine ⟨c1, Nat.lt_of_lt_of_le c2 hgr.size, fun e => ?_⟩
      rcases hat b (by simpa using e) with e' | e'
      · exact c3 e'
      · omega
  · rw [List.pairwise_append]
    refine ⟨h3, List.pairwise_singleton _ _, fun y hy z hz b hb hb' => ?_⟩
    have : z = x := by simpa using hz
    subst this
    have := hold y hy b hb
    have := (hS b hb').1
    omega
end
/-- The whole: a branch over them. -/
theorem KidsO.ot {w : World} {R S : Nat → Prop} {g c d : Nat} {A K : Option Addr} {ps : PS} {L : List OH} (h : KidsO w R (g + 1) K d L) (hr : Row2 w g 121 (.slice A ps.length c) (.slice K L.length d)) (hp : RPS w R A ps)
    (hg : S g) (hS : ∀ b, g + 1 ≤ b → b < w.heap.size → S b) : OT w R S g (.node ps (L.map OH.t)) := by
  obtain ⟨h1, h2, h3⟩ := h
  have hd : ∀ i, i < L.length → L.getD i ⟨0, fun _ => False, .node [] []⟩ ∈ L ∧ L[i]? = some (L.getD i ⟨0, fun _ => False, .node [] []⟩) := fun i hi => by
    have e : L.getD i ⟨0, fun _ => False, .node [] []⟩ = L[i] := by simp [hi]
    rw [e]
    exact ⟨List.getElem_mem hi, List.getElem?_eq_getElem hi⟩
  refine .node (A := A) (K := K) (c := c) (d := d) (fun i => (L.getD i ⟨0, fun _ => False, .node [] []⟩).S) (fun i => (L.getD i ⟨0, fun _ => False, .node [] []⟩).g) hg (by simpa using hr.heap) hp ?_ (fun k hk => ?_) (fun i hi => ?_) (fun i t ht => ?_)
  · have e : ptrs (fun i => (L.getD i ⟨0, fun _ => False, .node [] []⟩).g) (L.map OH.t).length = ohc L := by
      refine List.ext_getElem (by simp [ptrs, ohc]) fun i h1 h2 => ?_
      have hi : i < L.length := by simpa [ohc] using h2
      simp [ptrs, ohc, hi]
    rw [e, List.length_map]
    exact own_mono h1 (Nat.zero_le _)
  · rw [List.length_map] at hk
    obtain ⟨a1, a2⟩ := h1.lt k hk
    refine ⟨hS k a1 a2, by omega, fun i hi hb => ?_⟩
    rw [List.length_map] at hi
    exact ((h2 _ (hd i hi).1).2 k hb).2.2 hk
  · rw [List.length_map] at hi
    refine ⟨fun b hb => ?_, fun hb => ?_, fun j hj hne b hb hb' => ?_⟩
    · obtain ⟨a1, a2, _⟩ := (h2 _ (hd i hi).1).2 b hb
      exact hS b a1 a2
    · have := ((h2 _ (hd i hi).1).2 g hb).1
      omega
    · rw [List.length_map] at hj
      have ei : L.getD i ⟨0, fun _ => False, .node [] []⟩ = L[i] := by simp [hi]
      have ej : L.getD j ⟨0, fun _ => False, .node [] []⟩ = L[j] := by simp [hj]
      simp only [ei] at hb
      simp only [ej] at hb'
      rw [List.pairwise_iff_getElem] at h3
      rcases Nat.lt_or_gt_of_ne hne with h | h
      · exact h3 j i hj hi h b hb' hb
      · exact h3 i j hi hj h b hb hb'
  · have hi : i < L.length := by have := (List.getElem?_eq_some_iff.1 ht).1; simpa using this
    have e : t = (L.getD i ⟨0, fun _ => False, .node [] []⟩).t := by
      rw [List.getElem?_map, (hd i hi).2] at ht
      exact (Option.some.inj ht).symm
    rw [e]
    exact (h2 _ (hd i hi).1).1

/-! ### one round -/
/-- What one append does. -/
theorem o_step {wr w1 w4 : World} {R : Nat → Prop} {b0 gB d gg cap : Nat} {K : Option Addr} {L : List OH} {a : Value} {x : OH} {o : Obj} (hr : Row2 wr gB 121 a (.slice K L.length d)) (hk : KidsO wr R (gB + 1) K d L) (hb0 : b0 + 1 < gB) (hR : ∀ b, R b → b < b0)
    (hg1 : wr.grownBy w1 (some (b0 + 1))) (hot : OT w1 R x.S x.g x.t) (hS : ∀ b, x.S b → wr.heap.size ≤ b ∧ b < w1.heap.size)
    (hown4 : w4.ownsRow (gB + 1) 71 1 (.slice (some ⟨gg, 0, none⟩) (L.length + 1) cap) (L.length + 1) (ohc L ++ [ptr x.g]))
    (hgrow4 : (w1.alloc o).grownBy w4 (Value.ownBlock (.slice K L.length d))) (hat4 : Value.ownBlock (.slice K L.length d) = some gg ∨ gg = w1.heap.size + 1) :
    Row2 w4 gB 121 a (.slice K L.length d) ∧ KidsO w4 R (gB + 1) (some ⟨gg, 0, none⟩) cap (L ++ [x]) ∧ (w1.alloc o).grownBy w4 (Value.ownBlock (.slice K L.length d)) ∧ (∀ k, Value.ownBlock (.slice K L.length d) = some k → gB + 1 ≤ k) := by
  have hgo := hr.lt
  have hkl := hk.1.lt
  have hk1 := (hk.gr hg1 (by omega) (fun b hb => by have := hR b hb; omega) (by omega)).alloc o (fun b hb => by have := hR b hb; have := hg1.size; omega)
  have hr1 : Row2 w1 gB 121 a (.slice K L.length d) := hr.kept hg1 (.inr (by simp [Value.ownBlock]; omega))
  have hr2 : Row2 (w1.alloc o) gB 121 a (.slice K L.length d) := World.ownsRow.alloc hr1 o
  have hs := hg1.size
  refine ⟨hr2.kept hgrow4 (.inr (fun e => by
    have := hkl gB (by rw [← e]; rfl)
    omega)), ?_, hgrow4, fun k e => (hkl k e).1⟩
  refine KidsO.push hk1 (lo2 := wr.heap.size) (hot.keep (fun b hb => ?_) (fun _ h => h)) (fun b hb => by have := hS b hb; simp; omega) (by omega) (fun b hb => by have := hR b hb; omega) (fun y hy b hb => ((hk.2.1 y hy).2 b hb).2.1) (fun k e => ⟨(hkl k e).1, (hkl k e).2⟩) hown4 hgrow4 (fun k e => ?_)
  · rcases hb with hb | hb
    · exact Below.heap_alloc _ _ _ (hS b hb).2
    · exact Below.heap_alloc _ _ _ (by have := hR b hb; omega)
  · have e' : gg = k := by simpa [Value.ownBlock] using e
    subst e'
    rcases hat4 with h | h
    · exact .inl h
    · right
      simp
      omega
end Go.Proofs.Ytcjbjfhndjpmcaa
