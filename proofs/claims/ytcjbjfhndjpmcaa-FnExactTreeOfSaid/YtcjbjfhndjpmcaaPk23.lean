import Derived.Test.YtcjbjfhndjpmcaaPk21
import Derived.Test.YtcjbjfhndjpmcaaPk22
/-
  Trees of branches that a call works on: what a step turns, and what stays.
-/
namespace Go.Proofs.Ytcjbjfhndjpmcaa
open Go.RowKit

/-- A branch at block g, as OT says, of which each slice of pairs is known with its room. -/
inductive OV (w : World) (R : Nat → Prop) : (Nat → Prop) → Nat → BT → Prop
  | node {S : Nat → Prop} {g : Nat} {A K : Option Addr} {c d : Nat} {ps : PS} {ks : List BT} (F : Nat → Nat → Prop) (G : Nat → Nat) :
      S g → w.heap[g]? = some (.cells #[.slice A ps.length c, .slice K ks.length d] 121 (0, 0)) → RPS w R A ps → VS A c ps.length →
      w.ownsRow 0 71 1 (.slice K ks.length d) ks.length (ptrs G ks.length) →
      (∀ k, Value.ownBlock (.slice K ks.length d) = some k → S k ∧ k ≠ g ∧ ∀ i, i < ks.length → ¬ F i k) →
      (∀ i, i < ks.length → (∀ b, F i b → S b) ∧ ¬ F i g ∧ ∀ j, j < ks.length → j ≠ i → ∀ b, F i b → ¬ F j b) →
      (∀ i t, ks[i]? = some t → OV w R (F i) (G i) t) → OV w R S g (.node ps ks)
theorem OV.ot {w : World} {R S : Nat → Prop} {g : Nat} {t : BT} (h : OV w R S g t) : OT w R S g t := by
  induction h with
  | node F G hg hh hp hv hr hb hd _ ih => exact .node F G hg hh hp hr hb hd ih
theorem OV.keep {w w' : World} {R R' S : Nat → Prop} {g : Nat} {t : BT} (h : OV w R S g t) (hk : ∀ b, S b ∨ R b → w'.heap[b]? = w.heap[b]?) (hR : ∀ b, R b → R' b) : OV w' R' S g t := by
  induction h with
  | node F G hg hh hp hv hr hb hd _ ih =>
    refine .node F G hg ((hk _ (.inl hg)).trans hh) (hp.keep (fun b h => hk b (.inr h)) hR) hv (ownsRow_keep hr fun k e => hk k (.inl (hb k e).1)) hb hd fun i t ht => ?_
    have hi := (List.getElem?_eq_some_iff.1 ht).1
    exact ih i t ht fun b h => hk b (h.imp (fun h => (hd i hi).1 b h) id)
theorem OV.wide {w : World} {R S S' : Nat → Prop} {g : Nat} {t : BT} (h : OV w R S g t) (hS : ∀ b, S b → S' b) : OV w R S' g t := by
  cases h with
  | node F G hg hh hp hv hr hb hd hk =>
    exact .node F G (hS _ hg) hh hp hv hr (fun k e => ⟨hS _ (hb k e).1, (hb k e).2⟩) (fun i hi => ⟨fun b h => hS _ ((hd i hi).1 b h), (hd i hi).2⟩) hk
/-- Of what was there nothing has turned but in these blocks. -/
structure Mod (S : Nat → Prop) (w w' : World) : Prop where
  os : w'.os = w.os
  tape : w'.tape = w.tape
  output : w'.output = w.output
  size : w.heap.size ≤ w'.heap.size
  block : ∀ k, k < w.heap.size → ¬ S k → w'.heap[k]? = w.heap[k]?
theorem Mod.refl (S : Nat → Prop) (w : World) : Mod S w w := ⟨rfl, rfl, rfl, Nat.le_refl _, fun _ _ _ => rfl⟩
theorem Mod.trans {S S' : Nat → Prop} {a b c : World} (h : Mod S a b) (h' : Mod S' b c) (hS : ∀ k, S' k → k < a.heap.size → S k) : Mod S a c :=
  ⟨h'.os.trans h.os, h'.tape.trans h.tape, h'.output.trans h.output, Nat.le_trans h.size h'.size, fun k hk hn => (h'.block k (Nat.lt_of_lt_of_le hk h.size) (fun hs => hn (hS k hs hk))).trans (h.block k hk hn)⟩
theorem Mod.of_below {S : Nat → Prop} {w w' : World} (h : Below w.heap.size w w') : Mod S w w' := ⟨h.os, h.tape, h.output, h.size, fun k hk _ => h.block k hk⟩
theorem Mod.of_gr {S : Nat → Prop} {w w' : World} {r : Option Nat} (h : w.grownBy w' r) (hr : ∀ k, r = some k → S k) : Mod S w w' :=
  ⟨h.os, h.tape, h.output, h.size, fun k hk hn => h.block k hk (fun e => hn (hr k e.symm))⟩
theorem Mod.mono {S S' : Nat → Prop} {w w' : World} (h : Mod S w w') (hS : ∀ k, k < w.heap.size → S k → S' k) : Mod S' w w' := ⟨h.os, h.tape, h.output, h.size, fun k hk hn => h.block k hk (fun hs => hn (hS k hk hs))⟩
theorem Mod.below {S : Nat → Prop} {w w' : World} {B : Nat} (h : Mod S w w') (hS : ∀ k, S k → B ≤ k) (hB : B ≤ w.heap.size) : Below B w w' :=
  ⟨h.os, h.tape, h.output, h.size, fun k hk => h.block k (by omega) (fun hs => by have := hS k hs; omega)⟩
theorem Mod.set {S : Nat → Prop} {a w : World} {g : Nat} (h : Mod S a w) (hg : S g ∨ a.heap.size ≤ g) (j : Nat) (u : Value) : Mod S a (w.setCell ⟨g, j, none⟩ u) :=
  ⟨h.os, h.tape, h.output, by have := h.size; simpa using this, fun k hk hn => (Below.heap_setCell _ _ _ _ (by
    rintro rfl
    rcases hg with hg | hg
    · exact hn hg
    · exact absurd hk (by simpa using hg))).trans (h.block k hk hn)⟩
theorem Mod.alloc {S : Nat → Prop} {a w : World} (h : Mod S a w) (o : Obj) : Mod S a (w.alloc o) :=
  ⟨h.os, h.tape, h.output, by have := h.size; simp; omega, fun k hk hn => (Below.heap_alloc _ _ _ (Nat.lt_of_lt_of_le hk h.size)).trans (h.block k hk hn)⟩
theorem Mod.drew {S : Nat → Prop} {a w : World} (h : Mod S a w) : Mod S a w.drew := ⟨h.os, h.tape, h.output, h.size, h.block⟩
theorem Mod.then_below {S : Nat → Prop} {a b c : World} (h : Mod S a b) (h' : Below b.heap.size b c) : Mod S a c := h.trans (S' := fun _ => False) (Mod.of_below h') (fun _ h _ => h.elim)

/-- The blocks of some trees. -/
def SU (L : List OH) (b : Nat) : Prop := ∃ x ∈ L, x.S b
theorem SU_one {x : OH} {b : Nat} : SU [x] b ↔ x.S b := by simp [SU]
theorem SU_two {x y : OH} {b : Nat} : SU [x, y] b ↔ x.S b ∨ y.S b := by simp [SU]
theorem SU_app {L M : List OH} {b : Nat} : SU (L ++ M) b ↔ SU L b ∨ SU M b := by
  simp only [SU, List.mem_append]
  constructor
  · rintro ⟨x, hx | hx, hs⟩
    · exact .inl ⟨x, hx, hs⟩
    · exact .inr ⟨x, hx, hs⟩
  · rintro (⟨x, hx, hs⟩ | ⟨x, hx, hs⟩)
    · exact ⟨x, .inl hx, hs⟩
    · exact ⟨x, .inr hx, hs⟩
/-- Trees that lie apart, over pairs that no tree has for its own. -/
structure FO (w : World) (R : Nat → Prop) (L : List OH) : Prop where
  rb : ∀ b, R b → b < w.heap.size
  ot : ∀ x ∈ L, OV w R x.S x.g x.t
  bd : ∀ x ∈ L, ∀ b, x.S b → b < w.heap.size ∧ ¬ R b
  pw : L.Pairwise fun x y => ∀ b, x.S b → ¬ y.S b
theorem FO.sub {w : World} {R : Nat → Prop} {L M : List OH} (h : FO w R L) (hs : List.Sublist M L) : FO w R M :=
  ⟨h.rb, fun x hx => h.ot x (hs.subset hx), fun x hx => h.bd x (hs.subset hx), h.pw.sublist hs⟩
theorem FO.su {w : World} {R : Nat → Prop} {L : List OH} (h : FO w R L) : ∀ b, SU L b → b < w.heap.size ∧ ¬ R b := fun b ⟨x, hx, hs⟩ => h.bd x hx b hs
theorem FO.apart {w : World} {R : Nat → Prop} {L M : List OH} (h : FO w R (L ++ M)) : ∀ b, SU L b → ¬ SU M b := fun b ⟨x, hx, hs⟩ ⟨y, hy, ht⟩ => (List.pairwise_append.1 h.pw).2.2 x hx y hy b hs ht
theorem FO.join {w : World} {R : Nat → Prop} {L M : List OH} (h : FO w R L) (h' : FO w R M) (ha : ∀ b, SU L b → ¬ SU M b) : FO w R (L ++ M) :=
  ⟨h.rb, fun x hx => (List.mem_append.1 hx).elim (h.ot x) (h'.ot x), fun x hx => (List.mem_append.1 hx).elim (h.bd x) (h'.bd x), List.pairwise_append.2 ⟨h.pw, h'.pw, fun x hx y hy b hs ht => ha b ⟨x, hx, hs⟩ ⟨y, hy, ht⟩⟩⟩
/-- Other blocks are turned: the trees stay. -/
theorem FO.keep {w w' : World} {R R' S : Nat → Prop} {L : List OH} (h : FO w R L) (hm : Mod S w w') (hS : ∀ b, S b → ¬ SU L b ∧ ¬ R b) (hr : ∀ b, R b → R' b) (hr2 : ∀ b, R' b → b < w'.heap.size) (hr3 : ∀ b, R' b → ¬ SU L b) : FO w' R' L := by
  refine ⟨hr2, fun x hx => (h.ot x hx).keep (fun b hb => ?_) hr, fun x hx b hs => ⟨Nat.lt_of_lt_of_le (h.bd x hx b hs).1 hm.size, fun hR => hr3 b hR ⟨x, hx, hs⟩⟩, h.pw⟩
  rcases hb with hb | hb
  · exact hm.block b (h.bd x hx b hb).1 (fun hs => (hS b hs).1 ⟨x, hx, hb⟩)
  · exact hm.block b (h.rb b hb) (fun hs => (hS b hs).2 hb)
/-- What a step makes of some trees: others, that lie in the same blocks and in new ones. -/
structure Step (w : World) (R : Nat → Prop) (M : List OH) (w' : World) (R' : Nat → Prop) (M' : List OH) : Prop where
  fo : FO w' R' M'
  mod : Mod (SU M) w w'
  su : ∀ b, SU M' b → SU M b ∨ w.heap.size ≤ b
  up : ∀ b, R b → R' b
  ru : ∀ b, R' b → R b ∨ w.heap.size ≤ b
theorem Step.refl {w : World} {R : Nat → Prop} {M : List OH} (h : FO w R M) : Step w R M w R M := ⟨h, Mod.refl _ _, fun _ h => .inl h, fun _ h => h, fun _ h => .inl h⟩
theorem Step.trans {w w1 w2 : World} {R R1 R2 : Nat → Prop} {M M1 M2 : List OH} (h : Step w R M w1 R1 M1) (h' : Step w1 R1 M1 w2 R2 M2) : Step w R M w2 R2 M2 where
  fo := h'.fo
  mod := h.mod.trans h'.mod (fun k hk hlt => (h.su k hk).elim id (fun hx => absurd hlt (by omega)))
  su := fun b hb => (h'.su b hb).elim (h.su b) (fun hx => .inr (Nat.le_trans h.mod.size hx))
  up := fun b hb => h'.up b (h.up b hb)
  ru := fun b hb => (h'.ru b hb).elim (h.ru b) (fun hx => .inr (Nat.le_trans h.mod.size hx))
/-- Nothing is turned, something is made. -/
theorem Step.below {w w' : World} {R : Nat → Prop} {M : List OH} (h : FO w R M) (hb : Below w.heap.size w w') : Step w R M w' R M :=
  ⟨h.keep (S := fun _ => False) (Mod.of_below hb) (fun _ h => h.elim) (fun _ h => h) (fun b hr => Nat.lt_of_lt_of_le (h.rb b hr) hb.size) (fun b hr hs => (h.su b hs).2 hr), Mod.of_below hb, fun _ h => .inl h, fun _ h => h, fun _ h => .inl h⟩
/-- A step leaves the trees beside it. -/
theorem Step.frame {w w' : World} {R R' : Nat → Prop} {A M M' C : List OH} (hf : FO w R (A ++ (M ++ C))) (h : Step w R M w' R' M') : Step w R (A ++ (M ++ C)) w' R' (A ++ (M' ++ C)) := by
  have hA := hf.sub (List.sublist_append_left A (M ++ C))
  have hMC := hf.sub (List.sublist_append_right A (M ++ C))
  have hM := hMC.sub (List.sublist_append_left M C)
  have hC := hMC.sub (List.sublist_append_right M C)
  have aM := hf.apart
  have aC := hMC.apart
  have hnew : ∀ (L : List OH), FO w R L → (∀ b, SU L b → ¬ SU M b) → FO w' R' L := fun L hL ha =>
    hL.keep h.mod (fun b hb => ⟨fun hl => ha b hl hb, (hM.su b hb).2⟩) h.up h.fo.rb (fun b hr hs => (h.ru b hr).elim (hL.su b hs).2 (fun hx => by have := (hL.su b hs).1; omega))
  have fA := hnew A hA (fun b hb hm => aM b hb (SU_app.2 (.inl hm)))
  have fC := hnew C hC (fun b hb hm => aC b hm hb)
  refine ⟨fA.join (h.fo.join fC ?_) ?_, h.mod.mono (fun k _ hk => SU_app.2 (.inr (SU_app.2 (.inl hk)))), fun b hb => ?_, h.up, h.ru⟩
  · intro b hb hc
    rcases h.su b hb with hx | hx
    · exact aC b hx hc
    · have := (hC.su b hc).1
      omega
  · intro b hb hc
    rcases SU_app.1 hc with hc | hc
    · rcases h.su b hc with hx | hx
      · exact aM b hb (SU_app.2 (.inl hx))
      · have := (hA.su b hb).1
        omega
    · exact aM b hb (SU_app.2 (.inr hc))
  · rcases SU_app.1 hb with hb | hb
    · exact .inl (SU_app.2 (.inl hb))
    · rcases SU_app.1 hb with hb | hb
      · rcases h.su b hb with hx | hx
        · exact .inl (SU_app.2 (.inr (SU_app.2 (.inl hx))))
        · exact .inr hx
      · exact .inl (SU_app.2 (.inr (SU_app.2 (.inr hb))))

/-! ### one node -/
/-- The blocks of a node. -/
def nodeS (g : Nat) (K : Option Addr) (d : Nat) (L : List OH) (b : Nat) : Prop := b = g ∨ Value.ownBlock (.slice K L.length d) = some b ∨ SU L b
/-- A node: its two cells, its row, its kids. -/
structure NodeA (w : World) (R : Nat → Prop) (g : Nat) (A : Option Addr) (c : Nat) (ps : PS) (K : Option Addr) (d : Nat) (L : List OH) : Prop where
  heap : w.heap[g]? = some (.cells #[.slice A ps.length c, .slice K L.length d] 121 (0, 0))
  pairs : RPS w R A ps
  vs : VS A c ps.length
  row : w.ownsRow 0 71 1 (.slice K L.length d) L.length (ohc L)
  fo : FO w R L
  gs : ¬ SU L g ∧ ¬ R g
  own : ∀ k, Value.ownBlock (.slice K L.length d) = some k → k ≠ g ∧ ¬ SU L k ∧ ¬ R k
theorem ohc_pcs (L : List OH) : ohc L = pcs (L.map OH.g) := by simp [ohc, pcs]
theorem NodeA.lt {w : World} {R : Nat → Prop} {g : Nat} {A : Option Addr} {c : Nat} {ps : PS} {K : Option Addr} {d : Nat} {L : List OH} (h : NodeA w R g A c ps K d L) : g < w.heap.size := lt_of_block h.heap
theorem NodeA.ownlt {w : World} {R : Nat → Prop} {g : Nat} {A : Option Addr} {c : Nat} {ps : PS} {K : Option Addr} {d : Nat} {L : List OH} (h : NodeA w R g A c ps K d L) {k : Nat} (hk : Value.ownBlock (.slice K L.length d) = some k) : k < w.heap.size := (h.row.lt k hk).2
/-- A node is a tree. -/
theorem NodeA.tree {w : World} {R : Nat → Prop} {g : Nat} {A : Option Addr} {c : Nat} {ps : PS} {K : Option Addr} {d : Nat} {L : List OH} (h : NodeA w R g A c ps K d L) : FO w R [⟨g, nodeS g K d L, .node ps (L.map OH.t)⟩] := by
  refine ⟨h.fo.rb, fun x hx => ?_, fun x hx b hb => ?_, List.pairwise_singleton _ _⟩
  · obtain rfl : x = ⟨g, nodeS g K d L, .node ps (L.map OH.t)⟩ := by simpa using hx
    have hd : ∀ i, i < L.length → L.getD i ⟨0, fun _ => False, .node [] []⟩ ∈ L ∧ L[i]? = some (L.getD i ⟨0, fun _ => False, .node [] []⟩) := fun i hi => by
      have e : L.getD i ⟨0, fun _ => False, .node [] []⟩ = L[i] := by simp [hi]
      rw [e]
      exact ⟨List.getElem_mem hi, List.getElem?_eq_getElem hi⟩
    refine .node (A := A) (K := K) (c := c) (d := d) (fun i => (L.getD i ⟨0, fun _ => False, .node [] []⟩).S) (fun i => (L.getD i ⟨0, fun _ => False, .node [] []⟩).g) (.inl rfl) (by simpa using h.heap) h.pairs h.vs ?_ (fun k hk => ?_) (fun i hi => ?_) (fun i t ht => ?_)
    · have e : ptrs (fun i => (L.getD i ⟨0, fun _ => False, .node [] []⟩).g) (L.map OH.t).length = ohc L := by
        refine List.ext_getElem (by simp [ptrs, ohc]) fun i h1 h2 => ?_
        have hi : i < L.length := by simpa [ohc] using h2
        simp [ptrs, ohc, hi]
      rw [e, List.length_map]
      exact h.row
    · rw [List.length_map] at hk
      have h3 := h.own k hk
      refine ⟨.inr (.inl hk), h3.1, fun i hi hb => ?_⟩
      rw [List.length_map] at hi
      exact h3.2.1 ⟨_, (hd i hi).1, hb⟩
    · rw [List.length_map] at hi
      refine ⟨fun b hb => .inr (.inr ⟨_, (hd i hi).1, hb⟩), fun hb => h.gs.1 ⟨_, (hd i hi).1, hb⟩, fun j hj hne b hb hb' => ?_⟩
      rw [List.length_map] at hj
      have ei : L.getD i ⟨0, fun _ => False, .node [] []⟩ = L[i] := by simp [hi]
      have ej : L.getD j ⟨0, fun _ => False, .node [] []⟩ = L[j] := by simp [hj]
      simp only [ei] at hb
      simp only [ej] at hb'
      have h3 := h.fo.pw
      rw [List.pairwise_iff_getElem] at h3
      rcases Nat.lt_or_gt_of_ne hne with hx | hx
      · exact h3 j i hj hi hx b hb' hb
      · exact h3 i j hi hj hx b hb hb'
    · have hi : i < L.length := by have := (List.getElem?_eq_some_iff.1 ht).1; simpa using this
      have e : t = (L.getD i ⟨0, fun _ => False, .node [] []⟩).t := by
        rw [List.getElem?_map, (hd i hi).2] at ht
        exact (Option.some.inj ht).symm
      rw [e]
      exact h.fo.ot _ (hd i hi).1
  · obtain rfl : x = ⟨g, nodeS g K d L, .node ps (L.map OH.t)⟩ := by simpa using hx
    rcases hb with rfl | hb | hb
    · exact ⟨h.lt, h.gs.2⟩
    · exact ⟨h.ownlt hb, (h.own b hb).2.2⟩
    · exact h.fo.su b hb
/-- A tree is a node. -/
theorem FO.node {w : World} {R : Nat → Prop} {x : OH} {ps : PS} {ks : List BT} (h : FO w R [x]) (ht : x.t = .node ps ks) : ∃ (A : Option Addr) (c : Nat) (K : Option Addr) (d : Nat) (L : List OH), L.map OH.t = ks ∧ NodeA w R x.g A c ps K d L ∧ ∀ b, nodeS x.g K d L b → x.S b := by
  obtain ⟨g, S, t⟩ := x
  simp only at ht
  subst ht
  have h1 := h.ot _ (List.mem_singleton.2 rfl)
  have hbd := h.bd _ (List.mem_singleton.2 rfl)
  simp only at h1 hbd
  cases h1 with
  | @node _ _ A K c d _ _ F G hg hh hp hv hr hb hd hk =>
    obtain ⟨L, hL⟩ : ∃ L : List OH, L = (List.range ks.length).map fun i => ⟨G i, F i, ks.getD i nilT⟩ := ⟨_, rfl⟩
    have hlen : L.length = ks.length := by rw [hL]; simp
    have hat : ∀ i, i < ks.length → L[i]? = some ⟨G i, F i, ks.getD i nilT⟩ := fun i hi => by rw [hL]; simp [hi]
    have hmem : ∀ x ∈ L, ∃ i, i < ks.length ∧ x = ⟨G i, F i, ks.getD i nilT⟩ := fun x hx => by
      rw [hL] at hx
      obtain ⟨i, hi, rfl⟩ := List.mem_map.1 hx
      exact ⟨i, List.mem_range.1 hi, rfl⟩
    have hmap : L.map OH.t = ks := by
      refine List.ext_getElem? fun i => ?_
      rw [List.getElem?_map]
      by_cases hi : i < ks.length
      · rw [hat i hi]
        simp [hi]
      · rw [List.getElem?_eq_none (by omega), List.getElem?_eq_none (by omega)]
        rfl
    have hohc : ohc L = ptrs G ks.length := by
      rw [hL]
      simp [ohc, ptrs]
    have hsu : ∀ b, SU L b → S b ∧ b ≠ g := fun b ⟨x, hx, hs⟩ => by
      obtain ⟨i, hi, rfl⟩ := hmem x hx
      exact ⟨(hd i hi).1 b hs, fun e => (hd i hi).2.1 (e ▸ hs)⟩
    refine ⟨A, c, K, d, L, hmap, ⟨by rw [hlen]; exact hh, hp, hv, by rw [hlen, hohc]; exact hr, ⟨h.rb, fun x hx => ?_, fun x hx b hs => ?_, ?_⟩, ⟨fun hs => (hsu g hs).2 rfl, (hbd g hg).2⟩, fun k hk' => ?_⟩, fun b hb => ?_⟩
    · obtain ⟨i, hi, rfl⟩ := hmem x hx
      exact hk i _ (by simp [hi])
    · obtain ⟨i, hi, rfl⟩ := hmem x hx
      exact hbd b ((hd i hi).1 b hs)
    · rw [List.pairwise_iff_getElem]
      intro i j hi hj hij b h1 h2
      rw [hlen] at hi hj
      have e1 := hat i hi
      have e2 := hat j hj
      rw [List.getElem?_eq_getElem (by omega)] at e1 e2
      rw [Option.some.inj e1] at h1
      rw [Option.some.inj e2] at h2
      exact (hd i hi).2.2 j hj (by omega) b h1 h2
    · rw [hlen] at hk'
      have h3 := hb k hk'
      refine ⟨h3.2.1, fun ⟨x, hx, hs⟩ => ?_, (hbd k h3.1).2⟩
      obtain ⟨i, hi, rfl⟩ := hmem x hx
      exact h3.2.2 i hi hs
    · rcases hb with rfl | hb' | hb'
      · exact hg
      · rw [hlen] at hb'
        exact (hb b hb').1
      · exact (hsu b hb').1
end Go.Proofs.Ytcjbjfhndjpmcaa
