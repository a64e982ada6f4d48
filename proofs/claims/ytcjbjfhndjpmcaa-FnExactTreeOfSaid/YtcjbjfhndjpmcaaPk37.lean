import Derived.Test.YtcjbjfhndjpmcaaPk35
import Derived.Test.YtcjbjfhndjpmcaaPk36
/-
  branchesOf and rightTree once more: branches of which the room of each slice of pairs is known.
-/
namespace Go.Proofs.Ytcjbjfhndjpmcaa
open Go.RowKit

/-- Nodes of which the room of each slice of pairs is known. -/
def CapN (w : World) (A : Option Addr) (ns : List ND) : Prop := ∀ (k : Nat) (hk : k < ns.length) (b off : Nat) (A' : Option Addr) (c' : Nat), A = some ⟨b, off, none⟩ → w.cell? ⟨b, off + k * 2, none⟩ = some (.slice A' ns[k].1.length c') → VS A' c' ns[k].1.length
def RNV (w : World) (B : Nat) (A : Option Addr) (ns : List ND) : Prop := RN w B A ns ∧ CapN w A ns
theorem RNV.below {w w' : World} {B : Nat} {A : Option Addr} {ns : List ND} (h : RNV w B A ns) (hb : Below B w w') : RNV w' B A ns := by
  refine ⟨h.1.below hb, fun k hk b off A' c' hA hc => ?_⟩
  obtain ⟨b2, off2, A2, K2, c2, d2, e, hlt, h1, h2, _, _⟩ := h.1.at_ hk
  rw [hA] at e
  injection e with e
  injection e with e1 e2
  subst e1 e2
  exact h.2 k hk b off A' c' hA ((hb.cell (p := ⟨b, off + k * 2, none⟩) hlt).symm.trans hc)
theorem RNV.more {w : World} {B B' : Nat} {A : Option Addr} {ns : List ND} (h : RNV w B A ns) (hB : B ≤ B') : RNV w B' A ns := ⟨h.1.more hB, h.2⟩
theorem OV.lt {w : World} {R S : Nat → Prop} {g : Nat} {t : BT} (h : OV w R S g t) : g < w.heap.size := h.ot.lt
theorem OV.in_ {w : World} {R S : Nat → Prop} {g : Nat} {t : BT} (h : OV w R S g t) : S g := h.ot.in_
theorem OV.keepB {w w' : World} {R S : Nat → Prop} {g : Nat} {t : BT} {B : Nat} (h : OV w R S g t) (hb : Below B w w') (hS : ∀ b, S b ∨ R b → b < B) : OV w' R S g t :=
  h.keep (fun b hx => hb.block b (hS b hx)) (fun _ h => h)
/-- A row of branches of the call's own. -/
def KidsV (w : World) (R : Nat → Prop) (lo : Nat) (K : Option Addr) (d : Nat) (L : List OH) : Prop :=
  w.ownsRow lo 71 1 (.slice K L.length d) L.length (ohc L) ∧
    (∀ x ∈ L, OV w R x.S x.g x.t ∧ ∀ b, x.S b → lo ≤ b ∧ b < w.heap.size ∧ Value.ownBlock (.slice K L.length d) ≠ some b) ∧
    L.Pairwise fun x y => ∀ b, x.S b → ¬ y.S b
section
variable {w w' : World} {R : Nat → Prop} {lo d : Nat} {K : Option Addr} {L : List OH}
theorem KidsV.nil (w : World) (R : Nat → Prop) (lo : Nat) : KidsV w R lo none 0 [] := ⟨World.ownsRow_nil _ _ _ _, fun x hx => by simp at hx, List.Pairwise.nil⟩
theorem KidsV.gr {x : Nat} (h : KidsV w R lo K d L) (hg : w.grownBy w' (some x)) (hx : x < lo) (hR : ∀ b, R b → b < x) (hxs : x < w.heap.size) : KidsV w' R lo K d L := by
  obtain ⟨h1, h2, h3⟩ := h
  refine ⟨ownsRow_keep h1 fun k hk => hg.block k (h1.lt k hk).2 (fun e => by have := (h1.lt k hk).1; injection e; omega), fun y hy => ⟨?_, fun b hb => ?_⟩, h3⟩
  · obtain ⟨a1, a2⟩ := h2 y hy
    refine a1.keep (fun b hb => ?_) (fun _ h => h)
    rcases hb with hb | hb
    · have := a2 b hb
      exact hg.block b this.2.1 (fun e => by injection e; omega)
    · have := hR b hb
      exact hg.block b (by omega) (fun e => by injection e; omega)
  · obtain ⟨a1, a2, a3⟩ := (h2 y hy).2 b hb
    exact ⟨a1, Nat.lt_of_lt_of_le a2 hg.size, a3⟩
theorem KidsV.alloc (h : KidsV w R lo K d L) (o : Obj) (hR : ∀ b, R b → b < w.heap.size) : KidsV (w.alloc o) R lo K d L := by
  obtain ⟨h1, h2, h3⟩ := h
  refine ⟨h1.alloc o, fun y hy => ⟨?_, fun b hb => ?_⟩, h3⟩
  · obtain ⟨a1, a2⟩ := h2 y hy
    refine a1.keep (fun b hb => ?_) (fun _ h => h)
    rcases hb with hb | hb
    · exact Below.heap_alloc _ _ _ (a2 b hb).2.1
    · exact Below.heap_alloc _ _ _ (hR b hb)
  · obtain ⟨a1, a2, a3⟩ := (h2 y hy).2 b hb
    exact ⟨a1, by simp; omega, a3⟩
/-- One branch more, in memory that was new. -/
theorem KidsV.push {lo2 d' : Nat} {K' : Option Addr} (h : KidsV w R lo K d L) {x : OH} (hx : OV w R x.S x.g x.t) (hS : ∀ b, x.S b → lo2 ≤ b ∧ b < w.heap.size) (hlo : lo ≤ lo2) (hR : ∀ b, R b → b < lo)
    (hold : ∀ y ∈ L, ∀ b, y.S b → b < lo2) (hk : ∀ k, Value.ownBlock (.slice K L.length d) = some k → lo ≤ k ∧ k < lo2)
    (hown : w'.ownsRow lo 71 1 (.slice K' (L.length + 1) d') (L.length + 1) (ohc L ++ [ptr x.g])) (hgr : w.grownBy w' (Value.ownBlock (.slice K L.length d)))
    (hat : ∀ k, Value.ownBlock (.slice K' (L.length + 1) d') = some k → Value.ownBlock (.slice K L.length d) = some k ∨ w.heap.size ≤ k) : KidsV w' R lo K' d' (L ++ [x]) := by
  obtain ⟨h1, h2, h3⟩ := h
  have hsz : lo ≤ w.heap.size ∨ True := .inr trivial
  refine ⟨by simpa [ohc] using hown, fun y hy => ?_, ?_⟩
  · have hy2 : OV w R y.S y.g y.t ∧ ∀ b, y.S b → lo ≤ b ∧ b < w.heap.size ∧ Value.ownBlock (.slice K L.length d) ≠ some b := by
      rcases List.mem_append.1 hy with hy | hy
      · exact h2 y hy
      · have : y = x := by simpa using hy
        subst this
        refine ⟨hx, fun b hb => ?_⟩
        obtain ⟨a1, a2⟩ := hS b hb
        exact ⟨by omega, a2, fun e => by have := hk b e; omega⟩
    obtain ⟨a1, a2⟩ := hy2
    refine ⟨a1.keep (fun b hb => ?_) (fun _ h => h), fun b hb => ?_⟩
    · rcases hb with hb | hb
      · obtain ⟨c1, c2, c3⟩ := a2 b hb
        exact hgr.block b c2 (fun e => c3 e.symm)
      · have hb' := hR b hb
        have hbs : b < w.heap.size := by
          have := hx.lt
          have := (hS x.g hx.in_).1
          omega
        exact hgr.block b hbs (fun e => by have := (hk b e.symm).1; omega)
    · obtain ⟨c1, c2, c3⟩ := a2 b hb
      refine ⟨c1, Nat.lt_of_lt_of_le c2 hgr.size, fun e => ?_⟩
      rcases hat b (by simpa using e) with e' | e'
      · exact c3 e'
      · omega
  · rw [List.pairwise_append]
    refine ⟨h3, List.pairwise_singleton _ _, fun y hy z hz b hb hb' => ?_⟩
    have : z = x := by simpa using hz
    subst this
    have := hold y hy b hb
    have := (hS b hb').1
    omega
end
/-- The whole: a branch over them. -/
theorem KidsV.ot {w : World} {R S : Nat → Prop} {g c d : Nat} {A K : Option Addr} {ps : PS} {L : List OH} (h : KidsV w R (g + 1) K d L) (hr : Row2 w g 121 (.slice A ps.length c) (.slice K L.length d)) (hp : RPS w R A ps) (hv : VS A c ps.length)
    (hg : S g) (hS : ∀ b, g + 1 ≤ b → b < w.heap.size → S b) : OV w R S g (.node ps (L.map OH.t)) := by
  obtain ⟨h1, h2, h3⟩ := h
  have hd : ∀ i, i < L.length → L.getD i ⟨0, fun _ => False, .node [] []⟩ ∈ L ∧ L[i]? = some (L.getD i ⟨0, fun _ => False, .node [] []⟩) := fun i hi => by
    have e : L.getD i ⟨0, fun _ => False, .node [] []⟩ = L[i] := by simp [hi]
    rw [e]
    exact ⟨List.getElem_mem hi, List.getElem?_eq_getElem hi⟩
  refine .node (A := A) (K := K) (c := c) (d := d) (fun i => (L.getD i ⟨0, fun _ => False, .node [] []⟩).S) (fun i => (L.getD i ⟨0, fun _ => False, .node [] []⟩).g) hg (by simpa using hr.heap) hp hv ?_ (fun k hk => ?_) (fun i hi => ?_) (fun i t ht => ?_)
  · have e : ptrs (fun i => (L.getD i ⟨0, fun _ => False, .node [] []⟩).g) (L.map OH.t).length = ohc L := by
      refine List.ext_getElem (by simp [ptrs, ohc]) fun i h1 h2 => ?_
      have hi : i < L.length := by simpa [ohc] using h2
      simp [ptrs, ohc, hi]
    rw [e, List.length_map]
    exact own_mono h1 (Nat.zero_le _)
  · rw [List.length_map] at hk
    obtain ⟨a1, a2⟩ := h1.lt k hk
    refine ⟨hS k a1 a2, by omega, fun i hi hb => ?_⟩
    rw [List.length_map] at hi
    exact ((h2 _ (hd i hi).1).2 k hb).2.2 hk
  · rw [List.length_map] at hi
    refine ⟨fun b hb => ?_, fun hb => ?_, fun j hj hne b hb hb' => ?_⟩
    · obtain ⟨a1, a2, _⟩ := (h2 _ (hd i hi).1).2 b hb
      exact hS b a1 a2
    · have := ((h2 _ (hd i hi).1).2 g hb).1
      omega
    · rw [List.length_map] at hj
      have ei : L.getD i ⟨0, fun _ => False, .node [] []⟩ = L[i] := by simp [hi]
      have ej : L.getD j ⟨0, fun _ => False, .node [] []⟩ = L[j] := by simp [hj]
      simp only [ei] at hb
      simp only [ej] at hb'
      rw [List.pairwise_iff_getElem] at h3
      rcases Nat.lt_or_gt_of_ne hne with h | h
      · exact h3 j i hj hi h b hb' hb
      · exact h3 i j hi hj h b hb hb'
  · have hi : i < L.length := by have := (List.getElem?_eq_some_iff.1 ht).1; simpa using this
    have e : t = (L.getD i ⟨0, fun _ => False, .node [] []⟩).t := by
      rw [List.getElem?_map, (hd i hi).2] at ht
      exact (Option.some.inj ht).symm
    rw [e]
    exact (h2 _ (hd i hi).1).1

/-! ### one round -/
/-- What one append does. -/
theorem v_step {wr w1 w4 : World} {R : Nat → Prop} {b0 gB d gg cap : Nat} {K : Option Addr} {L : List OH} {a : Value} {x : OH} {o : Obj} (hr : Row2 wr gB 121 a (.slice K L.length d)) (hk : KidsV wr R (gB + 1) K d L) (hb0 : b0 + 1 < gB) (hR : ∀ b, R b → b < b0)
    (hg1 : wr.grownBy w1 (some (b0 + 1))) (hot : OV w1 R x.S x.g x.t) (hS : ∀ b, x.S b → wr.heap.size ≤ b ∧ b < w1.heap.size)
    (hown4 : w4.ownsRow (gB + 1) 71 1 (.slice (some ⟨gg, 0, none⟩) (L.length + 1) cap) (L.length + 1) (ohc L ++ [ptr x.g]))
    (hgrow4 : (w1.alloc o).grownBy w4 (Value.ownBlock (.slice K L.length d))) (hat4 : Value.ownBlock (.slice K L.length d) = some gg ∨ gg = w1.heap.size + 1) :
    Row2 w4 gB 121 a (.slice K L.length d) ∧ KidsV w4 R (gB + 1) (some ⟨gg, 0, none⟩) cap (L ++ [x]) ∧ (w1.alloc o).grownBy w4 (Value.ownBlock (.slice K L.length d)) ∧ (∀ k, Value.ownBlock (.slice K L.length d) = some k → gB + 1 ≤ k) := by
  have hgo := hr.lt
  have hkl := hk.1.lt
  have hk1 := (hk.gr hg1 (by omega) (fun b hb => by have := hR b hb; omega) (by omega)).alloc o (fun b hb => by have := hR b hb; have := hg1.size; omega)
  have hr1 : Row2 w1 gB 121 a (.slice K L.length d) := hr.kept hg1 (.inr (by simp [Value.ownBlock]; omega))
  have hr2 : Row2 (w1.alloc o) gB 121 a (.slice K L.length d) := World.ownsRow.alloc hr1 o
  have hs := hg1.size
  refine ⟨hr2.kept hgrow4 (.inr (fun e => by
    have := hkl gB (by rw [← e]; rfl)
    omega)), ?_, hgrow4, fun k e => (hkl k e).1⟩
  refine KidsV.push hk1 (lo2 := wr.heap.size) (hot.keep (fun b hb => ?_) (fun _ h => h)) (fun b hb => by have := hS b hb; simp; omega) (by omega) (fun b hb => by have := hR b hb; omega) (fun y hy b hb => ((hk.2.1 y hy).2 b hb).2.1) (fun k e => ⟨(hkl k e).1, (hkl k e).2⟩) hown4 hgrow4 (fun k e => ?_)
  · rcases hb with hb | hb
    · exact Below.heap_alloc _ _ _ (hS b hb).2
    · exact Below.heap_alloc _ _ _ (by have := hR b hb; omega)
  · have e' : gg = k := by simpa [Value.ownBlock] using e
    subst e'
    rcases hat4 with h | h
    · exact .inl h
    · right
      simp
      omega
/-- What the closure leaves. -/
def BuiltV (b0 : Nat) (R : Nat → Prop) (r : Option (BT × Nat)) (w : World) (e : Ending) (w' : World) : Prop :=
  w.grownBy w' (some (b0 + 1)) ∧
    match r with
    | none => e = .returned (.pointer none)
    | some (t, nx) => ∃ (g : Nat) (S : Nat → Prop), e = .returned (.pointer (some ⟨g, 0, none⟩)) ∧ OV w' R S g t ∧ (∀ b, S b → w.heap.size ≤ b ∧ b < w'.heap.size) ∧ One w' (b0 + 1) (.int .i64 (nx : Int)) 2
theorem BuiltV.no {b0 : Nat} {R : Nat → Prop} {r : Option (BT × Nat)} {w w' : World} (hr : r = none) (h : w.grownBy w' (some (b0 + 1))) : BuiltV b0 R r w (.returned (.pointer none)) w' := by
  subst hr
  exact ⟨h, rfl⟩
theorem BuiltV.yes {b0 nx g : Nat} {R S : Nat → Prop} {r : Option (BT × Nat)} {t : BT} {w w' : World} (hr : r = some (t, nx)) (h : w.grownBy w' (some (b0 + 1))) (ho : OV w' R S g t) (hS : ∀ b, S b → w.heap.size ≤ b ∧ b < w'.heap.size) (h1 : One w' (b0 + 1) (.int .i64 (nx : Int)) 2) :
    BuiltV b0 R r w (.returned (.pointer (some ⟨g, 0, none⟩))) w' := by
  subst hr
  exact ⟨h, g, S, rfl, ho, hS, h1⟩
theorem KidsV.set {w : World} {R : Nat → Prop} {lo d : Nat} {K : Option Addr} {L : List OH} (h : KidsV w R lo K d L) {g j : Nat} (hg : g < lo) (hR : ∀ b, R b → b ≠ g) (u : Value) : KidsV (w.setCell ⟨g, j, none⟩ u) R lo K d L := by
  obtain ⟨h1, h2, h3⟩ := h
  refine ⟨own_set' h1 hg u, fun y hy => ⟨?_, fun b hb => ?_⟩, h3⟩
  · obtain ⟨a1, a2⟩ := h2 y hy
    refine a1.keep (fun b hb => Below.heap_setCell _ _ _ _ ?_) (fun _ h => h)
    rcases hb with hb | hb
    · have := (a2 b hb).1
      simp
      omega
    · exact hR b hb
  · obtain ⟨a1, a2, a3⟩ := (h2 y hy).2 b hb
    exact ⟨a1, by simpa using a2, a3⟩
set_option maxHeartbeats 4000000 in
set_option maxRecDepth 100000 in
theorem impl_buildV (A : Option Addr) (c : Nat) (ns : List ND) (B b0 : Nat) (hB : B ≤ b0) (hl : ns.length ≤ 100) (hks : SmallK ns) : ∀ (f nx : Nat) (p : Int) (w : World), RNV w B A ns → nx ≤ ns.length → ns.length - nx ≤ f →
    One w b0 (.slice A ns.length c) 24 → One w (b0 + 1) (.int .i64 (nx : Int)) 2 → One w (b0 + 2) (fun3 138 (b0 + 1) b0 (b0 + 2)) 147 → b0 + 3 ≤ w.heap.size →
    Calls Try.prog 138 #[.int .i64 p, .pointer (some ⟨b0 + 1, 0, none⟩), .pointer (some ⟨b0, 0, none⟩), .pointer (some ⟨b0 + 2, 0, none⟩)] w (BuiltV b0 (· < B) (kidRes ns f nx p) w) := by
  intro f
  induction f with
  | zero =>
    intro nx p w hr hn hf h0 h1 h2 hsz
    have hr0 : kidRes ns 0 nx p = none := by rw [kidRes, if_neg (by omega)]
    have HR0 := hid hr0
    have c0 := h0.c
    have c1 := h1.c
    clear hr h0 h1 h2 hr0
    by_cases hp : p = (nx : Int)
    · have g1 := neI_false hp
      have g2 : (ns.length : Int) ≤ p := by omega
      have HP := hid hp
      clear hp
      go_enter Try.func138, Try.ntmps138
      go_wp2_with fail
      go_ret
      exact BuiltV.no HR0.out (gr_refl _ _)
    · have g1 := neI_true hp
      clear hp
      go_enter Try.func138, Try.ntmps138
      go_wp2_with fail
      go_ret
      exact BuiltV.no HR0.out (gr_refl _ _)
  | succ f ih =>
    intro nx p w hr hn hf h0 h1 h2 hsz
    have c0 := h0.c
    have c1 := h1.c
    have z1 := h1.fz
    by_cases hp : p = (nx : Int)
    · by_cases hlt : nx < ns.length
      · subst hp
        have HVV := hid hr.2
        obtain ⟨b, off, A', K', c', d', rfl, hb, hc1, hc2, hrp, hri⟩ := hr.1.at_ hlt
        have HV := hid (HVV.out nx hlt b off A' c' rfl hc1)
        have HR := hid hr
        have HRI := hid hri
        have HRP := hid hrp
        have IH := hid ih
        have HPF := hid (fun m t e => parse_facts ns f m t e)
        have HY : Hid (∀ ts e, kidsBy (parse ns f) ns.length ns[nx].2 (nx + 1) = some (ts, e) → kidRes ns (f + 1) nx (nx : Int) = some (.node ns[nx].1 ts, e)) := fun ts e h => by rw [kidRes, if_pos ⟨rfl, hlt⟩, parse_yes hlt h]
        have HN : Hid (kidsBy (parse ns f) ns.length ns[nx].2 (nx + 1) = none → kidRes ns (f + 1) nx (nx : Int) = none) := fun h => by rw [kidRes, if_pos ⟨rfl, hlt⟩, parse_no hlt h]
        have hkn := hks nx hlt
        have g1 : ((nx : Int) != (nx : Int)) = false := by simp
        have e5 : (0 : Int) ≤ (nx : Int) := by omega
        have e6 : (nx : Int) < (ns.length : Int) := by omega
        have H0 := hid h0
        have H2 := hid h2
        have H1 := hid h1
        have g3 : decide (ns.length ≤ nx) = false := by rw [decide_eq_false_iff_not]; omega
        have g4 : decide ((ns.length : Int) ≤ (nx : Int)) = false := by rw [decide_eq_false_iff_not]; omega
        have hbw : b < w.heap.size := by omega
        have hbne : b ≠ b0 + 1 := by omega
        have hG1 : w.grownBy ((w.setCell ⟨b0 + 1, 0, none⟩ (.int .i64 ((nx : Int) + 1))).alloc (.cells #[.slice A' ns[nx].1.length c', .slice none 0 0] 121)) (some (b0 + 1)) := gr_trans (gr_set _ _ _ _) (gr_alloc _ _ _)
        have hr2 : Row2 ((w.setCell ⟨b0 + 1, 0, none⟩ (.int .i64 ((nx : Int) + 1))).alloc (.cells #[.slice A' ns[nx].1.length c', .slice none 0 0] 121)) w.heap.size 121 (.slice A' ns[nx].1.length c') (.slice none 0 0) := by
          have := Row2.lit (w.setCell ⟨b0 + 1, 0, none⟩ (.int .i64 ((nx : Int) + 1))) 121 (.slice A' ns[nx].1.length c') (.slice none 0 0)
          simpa using this
        have ho1 : One ((w.setCell ⟨b0 + 1, 0, none⟩ (.int .i64 ((nx : Int) + 1))).alloc (.cells #[.slice A' ns[nx].1.length c', .slice none 0 0] 121)) (b0 + 1) (.int .i64 ((nx + 1 : Nat) : Int)) 2 := by
          have := (H1.out.set (.int .i64 ((nx : Int) + 1))).gr' (gr_alloc _ (.cells #[.slice A' ns[nx].1.length c', .slice none 0 0] 121) none) (fun k e => by cases e)
          simpa using this
        have G1 := hid hG1
        have HR2 := hid hr2
        have HO1 := hid ho1
        have x0 := (H0.out.gr hG1 (by omega)).c
        have hBl := gr_below hG1 (B := B) (by omega) (by omega)
        have x2 := (hBl.cell (p := ⟨b, off + nx * 2 + 1, none⟩) hb).trans hc2
        clear hr hri hrp ih h0 h2 h1 hG1 hr2 ho1 hBl
        go_enter Try.func138, Try.ntmps138
        go_wp2_with fail
        have hbase := gr_below G1.out (B := B) (by omega) (by omega)
        clear x0 x2 c0 c1 z1 hc1 hc2
        go_loopw [34] (fun i wr => ∃ (k m q d : Nat) (L : List OH) (K : Option Addr), k ≤ ns[nx].2.length ∧ i = .int .i64 k ∧ Hid (kidsBy (parse ns f) ns.length (ns[nx].2.take k) (nx + 1) = some (L.map OH.t, m)) ∧ nx + 1 ≤ m ∧ m ≤ ns.length ∧ One wr (b0 + 1) (.int .i64 (m : Int)) 2 ∧
          Row2 wr w.heap.size 121 (.slice A' ns[nx].1.length c') (.slice K q d) ∧ Hid (q = L.length) ∧ KidsV wr (· < B) (w.heap.size + 1) K d L ∧ w.grownBy wr (some (b0 + 1))) (fun i _ => ns[nx].2.length - (intOf i).toNat)
        case atStart => exact ⟨0, nx + 1, 0, 0, [], none, Nat.zero_le _, rfl, rfl, Nat.le_refl _, by omega, HO1.out, HR2.out, rfl, KidsV.nil _ _ _, G1.out⟩
        case round =>
          obtain ⟨k, m, q, d, L, K, hk, rfl, HKB, hm1, hm2, h1, hr2, HQ, hko, hg⟩ := hrel
          obtain rfl : q = L.length := HQ.out
          clear HQ
          have hwle := hg.size
          have HG := hid hg
          have H1W := hid h1
          have HRW := hid hr2
          have HKO := hid hko
          have hbl := gr_below hg (B := B) (by omega) (by omega)
          by_cases hlk : k < ns[nx].2.length
          · obtain ⟨b2, off2, rfl, hb2, hc3⟩ := HRI.out.at_ hlk
            have y3 := (hbl.cell (p := ⟨b2, off2 + k, none⟩) hb2).trans hc3
            have f0 := (H2.out.gr hg (by omega)).c
            unfold fun3 at f0
            have e7 : (k : Int) < (ns[nx].2.length : Int) := by omega
            have e8 : (0 : Int) ≤ (k : Int) := by omega
            have hih := IH.out m ns[nx].2[k] wr (HR.out.below hbl) hm2 (by omega) (H0.out.gr hg (by omega)) h1 (H2.out.gr hg (by omega)) (by omega)
            have HK1 := hid (fun (g1 : ns[nx].2[k] = (m : Int)) (g2 : m < ns.length) (t : BT) (e : Nat) (hf : parse ns f m = some (t, e)) => kid_yes hlk HKB.out g1 g2 hf)
            have HK2 := hid (fun (h : ¬ (ns[nx].2[k] = (m : Int) ∧ m < ns.length)) => kid_no1 hlk HKB.out h)
            have HK3 := hid (fun (h : parse ns f m = none) => kid_no2 hlk HKB.out h)
            clear hbl hc3 h1 hr2 hko hg
            cases hkr : kidRes ns f m ns[nx].2[k] with
            | none =>
              rw [hkr] at hih
              have HIH := hid hih
              have HNO : Hid (kidRes ns (f + 1) nx (nx : Int) = none) := HN.out (by
                rcases kidRes_none hkr with h | h
                · exact HK2.out h
                · exact HK3.out h)
              clear hih hkr
              go_wp2_with fail
              refine HIH.out.mono ?_
              rintro e w1 ⟨hg1, rfl⟩
              have HG1 := hid (gr_trans HG.out hg1)
              clear hg1
              go_wp2_with fail
              go_ret
              exact BuiltV.no HNO.out HG1.out
            | some y =>
              obtain ⟨t, e⟩ := y
              rw [hkr] at hih
              obtain ⟨s1, s2, s3⟩ := kidRes_some hkr
              have HIH := hid hih
              have HYES := hid (HK1.out s1 s2 t e s3)
              obtain ⟨p1, p2, _, _, _⟩ := HPF.out m t e s3
              obtain ⟨i0, hi0, hz0, hz1, hz2⟩ := info_parts ptrInfo
              have hL : L.length ≤ 1048576 := by
                have h := (kidsBy_at HKB.out).1
                rw [List.length_map, List.length_take] at h
                omega
              have hlb : (L.length + 1) * 8 ≤ 140737488355328 := by omega
              have hlm : L.length + 1 ≤ maxLen := by unfold maxLen; omega
              clear hih hkr s1 s2 s3
              go_wp2_with fail
              refine HIH.out.mono ?_
              rintro e' w1 ⟨hg1, g, S, rfl, hot, hS, h1⟩
              have HG1 := hid hg1
              have HOT := hid hot
              have HS := hid hS
              have H1N := hid h1
              have hr1 : Row2 w1 w.heap.size 121 (.slice A' ns[nx].1.length c') (.slice K L.length d) := HRW.out.kept hg1 (.inr (by simp [Value.ownBlock]; omega))
              have HK1W := hid (HKO.out.gr hg1 (by omega) (fun b hb => by omega) (by omega))
              have y1 := hr1.c1
              have yz := hr1.fz 1
              have hlt1 := hr1.lt
              have hs1 := hg1.size
              clear hg1 hot hS h1 y3 f0 hr1
              go_wp2_with (at_builtin; refine wpList_append_lies _ rfl _ _ _ rfl (w.heap.size + 1) 71 i0 _ 1 8 Try.underlying117 hi0 hz0 hz1 hz2 rfl (by omega) (.slice K L.length d) L.length (ohc L) rfl (HK1W.out.1.alloc _) ⟨w1.heap.size, 0, none⟩ 1 1 [ptr g] rfl rfl (World.news_of_block (cs := #[ptr g]) (t := 71) (fr := (0, 0)) (heap_alloc_new w1 _)) (by simp [ptr, Value.oneCell']) (by omega) hlm hlb (by simp; omega) (w1.heap.size + 1) (by simp) ?_; intro gg cap w4 hown4 hgrow4 hat4 hlt4; obtain ⟨hr4, hk4, hg4, hfar⟩ := v_step (x := ⟨g, S, t⟩) HRW.out HKO.out (by omega) (fun b hb => by omega) HG1.out HOT.out HS.out hown4 hgrow4 hat4; have HR4 := hid hr4; have HK4 := hid hk4; have HG4 := hid hg4; have HFAR := hid hfar; have y4 := hr4.c1; have z4 := hr4.fz 1; clear hr4 hk4 hg4 hfar hown4 hgrow4 hat4)
              go_roundw
              case rel => exact ⟨k + 1, e, L.length + 1, cap, L ++ [⟨g, S, t⟩], some ⟨gg, 0, none⟩, by omega, by go_num, by
                  rw [Hid, List.map_append]
                  exact HYES.out, by omega, by omega, ((H1N.out.gr' (gr_alloc _ _ none) (fun k e => by cases e)).gr' HG4.out (fun k e => by have := HFAR.out k e; omega)).other (by omega) _,
                  HR4.out.s1 _, by simp [Hid], HK4.out.set (by omega) (fun b hb => by omega) _,
                  gr_far (gr_far (gr_trans (gr_trans HG.out HG1.out) (gr_alloc _ _ _)) HG4.out (fun k e => by have := HFAR.out k e; omega)) (gr_set _ _ _ _) (fun k e => by injection e; omega)⟩
              case measure => simp [intOf]; omega
          · obtain rfl : k = ns[nx].2.length := by omega
            rw [List.take_length] at HKB
            have hot := hko.ot (S := fun b => w.heap.size ≤ b ∧ b < wr.heap.size) hr2 (RPS.of_rp (HRP.out.below hbl)) HV.out ⟨Nat.le_refl _, hr2.lt⟩ (fun b h1 h2 => ⟨by omega, h2⟩)
            have HOT := hid hot
            have HYES := hid (HY.out _ _ HKB.out)
            clear hot hbl hko hr2 h1 hg
            go_wp2_with fail
            go_ret
            exact BuiltV.yes HYES.out HG.out HOT.out (fun b h => h) H1W.out
      · have hr0 : kidRes ns (f + 1) nx p = none := by rw [kidRes, if_neg (fun h => hlt h.2)]
        have HR0 := hid hr0
        have g1 := neI_false hp
        have g2 : (ns.length : Int) ≤ p := by omega
        clear hr h0 h1 h2 hr0 hp ih
        go_enter Try.func138, Try.ntmps138
        go_wp2_with fail
        go_ret
        exact BuiltV.no HR0.out (gr_refl _ _)
    · have hr0 : kidRes ns (f + 1) nx p = none := by rw [kidRes, if_neg (fun h => hp h.1)]
      have HR0 := hid hr0
      have g1 := neI_true hp
      clear hr h0 h1 h2 hr0 hp ih
      go_enter Try.func138, Try.ntmps138
      go_wp2_with fail
      go_ret
      exact BuiltV.no HR0.out (gr_refl _ _)
/-- A branch tree in new memory over pairs that were there. -/
def HasTreeV (w : World) (t : BT) (g : Nat) (w' : World) : Prop := ∃ S : Nat → Prop, OV w' (· < w.heap.size) S g t ∧ ∀ b, S b → w.heap.size ≤ b ∧ b < w'.heap.size
theorem HasTreeV.lt {w w' : World} {t : BT} {g : Nat} (h : HasTreeV w t g w') (hs : w.heap.size ≤ w'.heap.size) : ∃ S : Nat → Prop, OV w' (· < w.heap.size) S g t ∧ ∀ b, S b ∨ b < w.heap.size → b < w'.heap.size := by
  obtain ⟨S, h1, h2⟩ := h
  exact ⟨S, h1, fun b hb => by
    rcases hb with hb | hb
    · exact (h2 b hb).2
    · omega⟩
theorem HasTreeV.keep {w w1 w2 : World} {t : BT} {g : Nat} (h : HasTreeV w t g w1) (hs : w.heap.size ≤ w1.heap.size) (hb : Below w1.heap.size w1 w2) : HasTreeV w t g w2 := by
  obtain ⟨S, h1, h2⟩ := h
  exact ⟨S, h1.keepB hb (fun b hx => by
    rcases hx with hx | hx
    · exact (h2 b hx).2
    · omega), fun b hx => ⟨(h2 b hx).1, Nat.lt_of_lt_of_le (h2 b hx).2 hb.size⟩⟩
def BranchesV (ns : List ND) (w : World) (e : Ending) (w' : World) : Prop :=
  Below w.heap.size w w' ∧ match treeOf ns with
    | none => e = .returned (.tuple #[.pointer none, .bool false])
    | some t => ∃ g, e = .returned (.tuple #[.pointer (some ⟨g, 0, none⟩), .bool true]) ∧ HasTreeV w t g w'
theorem BranchesV.no {ns : List ND} {w w' : World} (h : treeOf ns = none) (hb : Below w.heap.size w w') : BranchesV ns w (.returned (.tuple #[.pointer none, .bool false])) w' := by
  refine ⟨hb, ?_⟩
  rw [h]
theorem BranchesV.yes {ns : List ND} {w w' : World} {t : BT} {g : Nat} (h : treeOf ns = some t) (hb : Below w.heap.size w w') (ht : HasTreeV w t g w') : BranchesV ns w (.returned (.tuple #[.pointer (some ⟨g, 0, none⟩), .bool true])) w' := by
  refine ⟨hb, ?_⟩
  rw [h]
  exact ⟨g, rfl, ht⟩

set_option maxHeartbeats 2000000 in
set_option maxRecDepth 100000 in
theorem impl_branchesOfV (A : Option Addr) (c : Nat) (ns : List ND) (w : World) (hr : RNV w w.heap.size A ns) (h1 : 1 ≤ ns.length) (hl : ns.length ≤ 100) (hks : SmallK ns) :
    Calls Try.prog 117 #[.slice A ns.length c] w (BranchesV ns w) := by
  have hW : ∃ W, W = ((w.alloc (.cells #[.slice A ns.length c] 24)).alloc (.cells #[.int .i64 0] 2)).alloc (.cells #[fun3 138 (w.heap.size + 1) w.heap.size (w.heap.size + 1 + 1)] 147) := ⟨_, rfl⟩
  obtain ⟨W, hW⟩ := hW
  have HBW : Hid (Below w.heap.size w W) := by
    rw [hW]
    exact below3 (Below.refl _ _) (Nat.le_refl _)
  have o0 : One W w.heap.size (.slice A ns.length c) 24 := by
    rw [hW]
    have h := (One.new w (.slice A ns.length c) 24)
    exact h.below (((Below.refl _ _).alloc (Nat.le_refl _) _).alloc (by simp) _)
  have o1 : One W (w.heap.size + 1) (.int .i64 ((0 : Nat) : Int)) 2 := by
    rw [hW]
    have h := (One.new (w.alloc (.cells #[.slice A ns.length c] 24)) (.int .i64 0) 2)
    have h2 := h.below ((Below.refl _ _).alloc (Nat.le_refl _) (.cells #[fun3 138 (w.heap.size + 1) w.heap.size (w.heap.size + 1 + 1)] 147))
    simpa using h2
  have o2 : One W (w.heap.size + 2) (fun3 138 (w.heap.size + 1) w.heap.size (w.heap.size + 2)) 147 := by
    rw [hW]
    have h := (One.new ((w.alloc (.cells #[.slice A ns.length c] 24)).alloc (.cells #[.int .i64 0] 2)) (fun3 138 (w.heap.size + 1) w.heap.size (w.heap.size + 1 + 1)) 147)
    simpa using h
  have hsz : w.heap.size + 3 ≤ W.heap.size := by rw [hW]; simp
  have hb := impl_buildV A c ns w.heap.size w.heap.size (Nat.le_refl _) hl hks ns.length 0 0 W (hr.below HBW.out) (Nat.zero_le _) (by omega) o0 o1 o2 hsz
  have hkr : kidRes ns ns.length 0 0 = parse ns ns.length 0 := by rw [kidRes, if_pos ⟨rfl, by omega⟩]
  rw [hkr] at hb
  have O0 := hid o0
  have f0 := o2.c
  unfold fun3 at hW f0
  have hne2 : w.heap.size + 2 = w.heap.size + 1 + 1 := rfl
  have HNE := hid hne2
  clear hne2 o0 o1 o2 hr
  cases hp : parse ns ns.length 0 with
  | none =>
    have HT : Hid (treeOf ns = none) := by simp [Hid, treeOf, hp]
    rw [hp] at hb
    have HB := hid hb
    clear hb hp hkr
    subst hW
    go_enter Try.func117, Try.ntmps117
    go_wp2_with fail
    refine HB.out.mono ?_
    rintro e w1 ⟨hg1, rfl⟩
    have HB1 := hid (HBW.out.trans (gr_below hg1 (B := w.heap.size) (by omega) (by omega)))
    clear hg1 f0
    go_wp2_with fail
    go_ret2
    exact BranchesV.no HT.out HB1.out
  | some y =>
    obtain ⟨t, e⟩ := y
    rw [hp] at hb
    have HB := hid hb
    have hep := (parse_facts ns _ _ _ _ hp).2.1
    by_cases he : e = ns.length
    · have HT : Hid (treeOf ns = some t) := by simp [Hid, treeOf, hp, he]
      have g1 : ((e : Int) != (ns.length : Int)) = false := by simp [he]
      have HE := hid he
      clear hb hp hkr he
      subst hW
      go_enter Try.func117, Try.ntmps117
      go_wp2_with fail
      refine HB.out.mono ?_
      rintro e' w1 ⟨hg1, g, S, rfl, hot, hS, h1n⟩
      have hbb := gr_below hg1 (B := w.heap.size) (by omega) (by omega)
      have HB1 := hid (HBW.out.trans hbb)
      have y0 := (O0.out.gr hg1 (by omega)).c
      have y1 := h1n.c
      have HT1 : Hid (HasTreeV w t g w1) := ⟨S, hot, fun b hb => by have := hS b hb; simp at this; omega⟩
      clear hg1 hot hS h1n f0 hbb
      go_wp2_with fail
      go_ret2
      exact BranchesV.yes HT.out HB1.out HT1.out
    · have HT : Hid (treeOf ns = none) := by simp [Hid, treeOf, hp, he]
      have g1 : ((e : Int) != (ns.length : Int)) = true := by rw [bne_iff_ne]; omega
      have HE := hid he
      clear hb hp hkr he
      subst hW
      go_enter Try.func117, Try.ntmps117
      go_wp2_with fail
      refine HB.out.mono ?_
      rintro e' w1 ⟨hg1, g, S, rfl, hot, hS, h1n⟩
      have hbb := gr_below hg1 (B := w.heap.size) (by omega) (by omega)
      have HB1 := hid (HBW.out.trans hbb)
      have y0 := (O0.out.gr hg1 (by omega)).c
      have y1 := h1n.c
      clear hg1 hot hS h1n f0 hbb
      go_wp2_with fail
      go_ret2
      exact BranchesV.no HT.out HB1.out

def RightV (ns : List ND) (w : World) (e : Ending) (w' : World) : Prop :=
  Below w.heap.size w w' ∧ ((treeB ns = false ∧ e = .returned (.tuple #[.pointer none, .bool false])) ∨
    (treeB ns = true ∧ ∃ t g, treeOf ns = some t ∧ e = .returned (.tuple #[.pointer (some ⟨g, 0, none⟩), .bool true]) ∧ HasTreeV w t g w'))
theorem RightV.no {ns : List ND} {w w' : World} (h : treeB ns = false) (hb : Below w.heap.size w w') : RightV ns w (.returned (.tuple #[.pointer none, .bool false])) w' := ⟨hb, .inl ⟨h, rfl⟩⟩
theorem RightV.yes {ns : List ND} {w w' : World} {t : BT} {g : Nat} (h0 : treeB ns = true) (h : treeOf ns = some t) (hb : Below w.heap.size w w') (ht : HasTreeV w t g w') : RightV ns w (.returned (.tuple #[.pointer (some ⟨g, 0, none⟩), .bool true])) w' := ⟨hb, .inr ⟨h0, t, g, h, rfl, ht⟩⟩
set_option maxHeartbeats 2000000 in
set_option maxRecDepth 100000 in
theorem impl_rightTreeV (A : Option Addr) (c : Nat) (ns : List ND) (w : World) (hr : RNV w w.heap.size A ns) (hf : FitsN ns) (hs : SmallN ns) (hn : ns.length ≤ 1048576) :
    Calls Try.prog 76 #[.slice A ns.length c] w (RightV ns w) := by
  by_cases h0 : 1 ≤ ns.length
  · by_cases h1 : 100 < ns.length
    · have HE := hid (treeB_long h1)
      clear hr
      go_enter Try.func76, Try.ntmps76
      go_wp2_with fail
      go_ret2
      exact RightV.no HE.out (Below.refl _ _)
    · have hl : ns.length ≤ 100 := by omega
      have hks : SmallK ns := fun k h => (hs k h).2
      have hbr := impl_branchesOfV A c ns w hr h0 hl hks
      clear hr
      cases ht : treeOf ns with
      | none =>
        have HE : Hid (treeB ns = false) := by simp [Hid, treeB, ht]
        unfold BranchesV at hbr
        rw [ht] at hbr
        have HBR := hid hbr
        clear hbr ht
        go_enter Try.func76, Try.ntmps76
        go_wp2_with fail
        refine HBR.out.mono ?_
        rintro e w1 ⟨hb1, rfl⟩
        go_wp2_with fail
        go_ret2
        exact RightV.no HE.out hb1
      | some t =>
        have hEQ : treeB ns = (fullT t true && (decide (deepT t ≠ 0) && pairsB (allT t))) := by simp [treeB, ht, rightT, h0, hl]
        obtain ⟨hz, hsm, hft⟩ := parse_good (treeOf_some ht) hl hs hf
        unfold BranchesV at hbr
        rw [ht] at hbr
        have HBR := hid hbr
        have HEQ := hid hEQ
        have HT := hid ht
        have HSM := hid hsm
        have HFT := hid hft
        clear hbr ht hEQ hsm hft
        cases hsh : (fullT t true && decide (deepT t ≠ 0))
        · have HE : Hid (treeB ns = false) := by rw [Hid, HEQ.out, ← Bool.and_assoc, hsh]; rfl
          have HSH := hid hsh
          clear hsh
          go_enter Try.func76, Try.ntmps76
          go_wp2_with fail
          refine HBR.out.mono ?_
          rintro e w1 ⟨hb1, g, rfl, htr⟩
          obtain ⟨S, hot, hS⟩ := htr.lt hb1.size
          have HB1 := hid hb1
          clear hb1 htr
          go_wp2_with fail
          refine (impl_wellShaped t _ S g _ hz HSM.out hot.ot hS).mono ?_
          rintro e w2 ⟨rfl, hb2⟩
          have HB2 := hid (HB1.out.trans (hb2.mono HB1.out.size))
          clear hb2
          rw [HSH.out]
          go_wp2_with fail
          go_ret2
          exact RightV.no HE.out HB2.out
        · have HE : Hid (treeB ns = pairsB (allT t)) := by rw [Hid, HEQ.out, ← Bool.and_assoc, hsh]; rfl
          have hfu : fullT t true = true := by simp only [Bool.and_eq_true] at hsh; exact hsh.1
          have h4 := rt_facts hfu hz
          have hml : (allT t).length ≤ maxLen := by unfold maxLen; omega
          have HML := hid hml
          have HSH := hid hsh
          clear hsh hfu hml
          cases hpb : pairsB (allT t)
          · go_enter Try.func76, Try.ntmps76
            go_wp2_with fail
            refine HBR.out.mono ?_
            rintro e w1 ⟨hb1, g, rfl, htr⟩
            obtain ⟨S, hot, hS⟩ := htr.lt hb1.size
            have HB1 := hid hb1
            have HTR := hid htr
            clear hb1 htr
            go_wp2_with fail
            refine (impl_wellShaped t _ S g _ hz HSM.out hot.ot hS).mono ?_
            rintro e w2 ⟨rfl, hb2⟩
            have HB2 := hid (HB1.out.trans (hb2.mono HB1.out.size))
            have HTR2 := hid (HTR.out.keep HB1.out.size hb2)
            clear hb2 hot hS
            rw [HSH.out]
            obtain ⟨S2, hot2, hS2⟩ := HTR2.out.lt HB2.out.size
            go_wp2_with fail
            refine (impl_all t _ S2 g _ (by omega) (by omega) hot2.ot hS2).mono ?_
            rintro e w3 ⟨A3, c3, rfl, ho3, hb3⟩
            have HO3 := hid ho3
            have HB3 := hid (HB2.out.trans (hb3.mono HB2.out.size))
            clear ho3 hb3 hot2 hS2
            go_wp2_with fail
            refine (impl_pairsOk A3 c3 (allT t) _ HO3.out.rp HFT.out HML.out).mono ?_
            rintro e w4 ⟨rfl, hb4⟩
            have HB4 := hid (HB3.out.trans (hb4.mono HB3.out.size))
            clear hb4
            rw [hpb]
            go_wp2_with fail
            go_ret2
            exact RightV.no (HE.out.trans hpb) HB4.out
          · go_enter Try.func76, Try.ntmps76
            go_wp2_with fail
            refine HBR.out.mono ?_
            rintro e w1 ⟨hb1, g, rfl, htr⟩
            obtain ⟨S, hot, hS⟩ := htr.lt hb1.size
            have HB1 := hid hb1
            have HTR := hid htr
            clear hb1 htr
            go_wp2_with fail
            refine (impl_wellShaped t _ S g _ hz HSM.out hot.ot hS).mono ?_
            rintro e w2 ⟨rfl, hb2⟩
            have HB2 := hid (HB1.out.trans (hb2.mono HB1.out.size))
            have HTR2 := hid (HTR.out.keep HB1.out.size hb2)
            clear hb2 hot hS
            rw [HSH.out]
            obtain ⟨S2, hot2, hS2⟩ := HTR2.out.lt HB2.out.size
            go_wp2_with fail
            refine (impl_all t _ S2 g _ (by omega) (by omega) hot2.ot hS2).mono ?_
            rintro e w3 ⟨A3, c3, rfl, ho3, hb3⟩
            have HO3 := hid ho3
            have HB3 := hid (HB2.out.trans (hb3.mono HB2.out.size))
            have HTR3 := hid (HTR2.out.keep HB2.out.size hb3)
            clear ho3 hb3 hot2 hS2
            go_wp2_with fail
            refine (impl_pairsOk A3 c3 (allT t) _ HO3.out.rp HFT.out HML.out).mono ?_
            rintro e w4 ⟨rfl, hb4⟩
            have HB4 := hid (HB3.out.trans (hb4.mono HB3.out.size))
            have HTR4 := hid (HTR3.out.keep HB3.out.size hb4)
            clear hb4
            rw [hpb]
            go_wp2_with fail
            go_ret2
            exact RightV.yes (HE.out.trans hpb) HT.out HB4.out HTR4.out
  · have HE := hid (treeB_zero h0)
    clear hr
    go_enter Try.func76, Try.ntmps76
    go_wp2_with fail
    go_ret2
    exact RightV.no HE.out (Below.refl _ _)

end Go.Proofs.Ytcjbjfhndjpmcaa
