import Derived.Test.YtcjbjfhndjpmcaaPk42
import Derived.Test.YtcjbjfhndjpmcaaPk31
import Derived.Test.YtcjbjfhndjpmcaaPk23
import Derived.Test.YtcjbjfhndjpmcaaPk41
/-
  A level of trees that grows.
-/
namespace Go.Proofs.Ytcjbjfhndjpmcaa
open Go.RowKit

theorem cutF_map {α β : Type} (f : α → β) : ∀ (m : Nat) (l : List α), cutF m (l.map f) = (cutF m l).map (List.map f)
  | 0, _ => rfl
  | m + 1, l => by
    by_cases h : l = []
    · subst h
      rfl
    · have h2 : l.map f ≠ [] := by simpa using h
      rw [cutF, cutF, if_neg h, if_neg h2, List.length_map, List.map_cons, ← List.map_take, ← List.map_drop, cutF_map f m]
theorem partsL_map {α β : Type} (f : α → β) (l : List α) : partsL (l.map f) = (partsL l).map (List.map f) := by
  unfold partsL cutL
  by_cases h : l = []
  · subst h
    rfl
  · have h2 : l.map f ≠ [] := by simpa using h
    rw [if_neg h, if_neg h2, List.length_map, cutF_map]
theorem partsL_flat {α : Type} (l : List α) : (partsL l).flatten = l := by
  unfold partsL
  by_cases h : l = []
  · subst h
    rfl
  · rw [if_neg h]
    exact (cutL_parts l.length l (Nat.le_refl _)).2
theorem partsL_cut {α : Type} {l : List α} (h : l ≠ []) : partsL l = cutL l := by rw [partsL, if_neg h]
/-- The row of a level's pointers; the trees of it and others lie apart from it and from each other. -/
structure Lev (w : World) (B : Nat) (R : Nat → Prop) (A : Option Addr) (c : Nat) (F E : List OH) : Prop where
  row : w.ownsRow B 71 1 (.slice A F.length c) F.length (ohc F)
  fo : FO w R (F ++ E)
  ap : ∀ k, Value.ownBlock (.slice A F.length c) = some k → ¬ SU (F ++ E) k ∧ ¬ R k
theorem ohc_snoc (F : List OH) (x : OH) : ohc (F ++ [x]) = ohc F ++ [ptr x.g] := by simp [ohc]
theorem Lev.nil_ {w : World} {B : Nat} {R : Nat → Prop} {E : List OH} (h : FO w R E) : Lev w B R none 0 [] E := ⟨World.ownsRow_nil _ _ _ _, h, fun k hk => by simp [Value.ownBlock] at hk⟩
theorem Lev.below {w w' : World} {B : Nat} {R : Nat → Prop} {A : Option Addr} {c : Nat} {F E : List OH} (h : Lev w B R A c F E) (hb : Below w.heap.size w w') : Lev w' B R A c F E :=
  ⟨h.row.kept (below_grown hb) (by cases hv : Value.ownBlock (.slice A F.length c) <;> simp), (Step.below h.fo hb).fo, h.ap⟩
theorem Lev.push {w w4 : World} {B c cap gg : Nat} {R : Nat → Prop} {A : Option Addr} {F M C : List OH} (h : Lev w B R A c F (M ++ C)) {A2 K : Option Addr} {c2 d : Nat} {ps : PS} {o : Obj}
    (hp : RPS w R A2 ps) (hv : VS A2 c2 ps.length) (hk : w.ownsRow 0 71 1 (.slice K M.length d) M.length (ohc M))
    (hK : ∀ k, Value.ownBlock (.slice K M.length d) = some k → ¬ SU (F ++ (M ++ C)) k ∧ ¬ R k ∧ Value.ownBlock (.slice A F.length c) ≠ some k)
    (hown : w4.ownsRow B 71 1 (.slice (some ⟨gg, 0, none⟩) (F.length + 1) cap) (F.length + 1) (ohc F ++ [ptr w.heap.size]))
    (hg : ((w.alloc (.cells #[.slice A2 ps.length c2, .slice K M.length d] 121)).alloc o).grownBy w4 (Value.ownBlock (.slice A F.length c)))
    (hat : Value.ownBlock (.slice A F.length c) = some gg ∨ gg = w.heap.size + 2) :
    Lev w4 B R (some ⟨gg, 0, none⟩) cap (F ++ [⟨w.heap.size, nodeS w.heap.size K d M, .node ps (M.map OH.t)⟩]) C := by
  obtain ⟨wb, hwb⟩ : ∃ wb, wb = (w.alloc (.cells #[.slice A2 ps.length c2, .slice K M.length d] 121)).alloc o := ⟨_, rfl⟩
  have hb : Below w.heap.size w wb := by rw [hwb]; exact ((Below.refl _ _).alloc (Nat.le_refl _) _).alloc (by simp) _
  have hsz : wb.heap.size = w.heap.size + 2 := by rw [hwb]; simp
  have hh : wb.heap[w.heap.size]? = some (.cells #[.slice A2 ps.length c2, .slice K M.length d] 121 (0, 0)) := by
    rw [hwb]
    exact (Below.heap_alloc _ _ _ (by simp)).trans (heap_alloc_new w _)
  rw [← hwb] at hg
  have h1 := (Step.below h.fo hb).fo
  have hsu : ∀ b, SU (F ++ (M ++ C)) b → b < w.heap.size := fun b hb => (h.fo.su b hb).1
  have hsuM : ∀ b, SU M b → SU (F ++ (M ++ C)) b := fun b hb => SU_app.2 (.inr (SU_app.2 (.inl hb)))
  have hn : NodeA wb R w.heap.size A2 c2 ps K d M := by
    refine ⟨hh, hp.keep (fun b hR => hb.block b (h.fo.rb b hR)) (fun _ h => h), hv, ownsRow_keep hk (fun k e => hb.block k (hk.lt k e).2), h1.sub ((List.sublist_append_left M C).trans (List.sublist_append_right F _)), ⟨fun hs => ?_, fun hR => ?_⟩, fun k e => ⟨?_, fun hs => (hK k e).1 (hsuM k hs), (hK k e).2.1⟩⟩
    · have := hsu _ (hsuM _ hs); omega
    · have := h.fo.rb _ hR; omega
    · have := (hk.lt k e).2; omega
  have hnode : ∀ b, SU [(⟨w.heap.size, nodeS w.heap.size K d M, .node ps (M.map OH.t)⟩ : OH)] b → b = w.heap.size ∨ Value.ownBlock (.slice K M.length d) = some b ∨ SU M b := fun b hb => SU_one.1 hb
  have hC : FO wb R C := h1.sub ((List.sublist_append_right M C).trans (List.sublist_append_right F _))
  have hF : FO wb R F := h1.sub (List.sublist_append_left F _)
  have apMC : ∀ b, SU M b → ¬ SU C b := (h.fo.sub (List.sublist_append_right F _)).apart
  have apF := h.fo.apart
  have j1 : FO wb R ([(⟨w.heap.size, nodeS w.heap.size K d M, .node ps (M.map OH.t)⟩ : OH)] ++ C) := hn.tree.join hC fun b hb hc => by
    have hc2 : SU (F ++ (M ++ C)) b := SU_app.2 (.inr (SU_app.2 (.inr hc)))
    rcases hnode b hb with rfl | e | e
    · have := hsu _ hc2; omega
    · exact (hK b e).1 hc2
    · exact apMC b e hc
  have j2 : FO wb R (F ++ ([(⟨w.heap.size, nodeS w.heap.size K d M, .node ps (M.map OH.t)⟩ : OH)] ++ C)) := hF.join j1 fun b hb hc => by
    have hb2 : SU (F ++ (M ++ C)) b := SU_app.2 (.inl hb)
    rcases SU_app.1 hc with hc | hc
    · rcases hnode b hc with rfl | e | e
      · have := hsu _ hb2; omega
      · exact (hK b e).1 hb2
      · exact apF b hb (SU_app.2 (.inl e))
    · exact apF b hb (SU_app.2 (.inr hc))
  have hall : ∀ b, SU (F ++ ([(⟨w.heap.size, nodeS w.heap.size K d M, .node ps (M.map OH.t)⟩ : OH)] ++ C)) b → b = w.heap.size ∨ Value.ownBlock (.slice K M.length d) = some b ∨ SU (F ++ (M ++ C)) b := fun b hb => by
    rcases SU_app.1 hb with hb | hb
    · exact .inr (.inr (SU_app.2 (.inl hb)))
    · rcases SU_app.1 hb with hb | hb
      · rcases hnode b hb with e | e | e
        · exact .inl e
        · exact .inr (.inl e)
        · exact .inr (.inr (hsuM b e))
      · exact .inr (.inr (SU_app.2 (.inr (SU_app.2 (.inr hb)))))
  have hfree : ∀ b, Value.ownBlock (.slice A F.length c) = some b → ¬ SU (F ++ ([(⟨w.heap.size, nodeS w.heap.size K d M, .node ps (M.map OH.t)⟩ : OH)] ++ C)) b ∧ ¬ R b := fun b e => by
    refine ⟨fun hs => ?_, (h.ap b e).2⟩
    rcases hall b hs with rfl | e2 | hs
    · have := (h.row.lt _ e).2; omega
    · exact (hK b e2).2.2 e
    · exact (h.ap b e).1 hs
  have hmod : Mod (fun b => Value.ownBlock (.slice A F.length c) = some b) wb w4 := Mod.of_gr hg (fun k e => e)
  have j3 : FO w4 R (F ++ ([(⟨w.heap.size, nodeS w.heap.size K d M, .node ps (M.map OH.t)⟩ : OH)] ++ C)) := j2.keep hmod hfree (fun _ h => h) (fun b hR => Nat.lt_of_lt_of_le (j2.rb b hR) hmod.size) (fun b hR hs => (j2.su b hs).2 hR)
  refine ⟨?_, by rw [List.append_assoc]; exact j3, fun k e => ?_⟩
  · rw [List.length_append, ohc_snoc]
    exact hown
  · rw [List.append_assoc]
    obtain rfl : gg = k := by simpa [Value.ownBlock] using e
    rcases hat with e2 | e2
    · exact hfree _ e2
    · refine ⟨fun hs => ?_, fun hR => ?_⟩
      · have := (j2.su _ hs).1; omega
      · have := j2.rb _ hR; omega
end Go.Proofs.Ytcjbjfhndjpmcaa
/-
  Rows of the model's trees: read, of the call's own.
-/
namespace Go.Proofs.Ytcjbjfhndjpmcaa
open Go.RowKit

/-- The slice at K holds these trees; all lies in S. -/
def RK (w : World) (S : Nat → Prop) (K : Option Addr) (L : List TH) : Prop :=
  L = [] ∨ ∃ b off, K = some ⟨b, off, none⟩ ∧ S b ∧ ∀ (i : Nat) (x : TH), L[i]? = some x → w.cell? ⟨b, off + i * 2, none⟩ = some (.slice x.A x.t.ps.length x.c) ∧ w.cell? ⟨b, off + i * 2 + 1, none⟩ = some (.slice x.K x.t.ks.length x.d) ∧ RT w S x.A x.K x.t ∧ x.cap
section
variable {w w' : World} {S S' : Nat → Prop} {K : Option Addr} {L : List TH}
theorem RK.at_ {k : Nat} (h : RK w S K L) (hk : k < L.length) : ∃ b off, K = some ⟨b, off, none⟩ ∧ S b ∧ w.cell? ⟨b, off + k * 2, none⟩ = some (.slice L[k].A L[k].t.ps.length L[k].c) ∧ w.cell? ⟨b, off + k * 2 + 1, none⟩ = some (.slice L[k].K L[k].t.ks.length L[k].d) ∧ RT w S L[k].A L[k].K L[k].t ∧ L[k].cap := by
  rcases h with rfl | ⟨b, off, e, hb, hc⟩
  · simp at hk
  · exact ⟨b, off, e, hb, hc k _ (List.getElem?_eq_getElem hk)⟩
theorem RK.keep (h : RK w S K L) (hk : ∀ b, S b → w'.heap[b]? = w.heap[b]?) (hS : ∀ b, S b → S' b) : RK w' S' K L := by
  rcases h with rfl | ⟨b, off, e, hb, hc⟩
  · exact .inl rfl
  · refine .inr ⟨b, off, e, hS b hb, fun i x hx => ?_⟩
    obtain ⟨h1, h2, h3, h4⟩ := hc i x hx
    have hcell : ∀ j, w'.cell? ⟨b, j, none⟩ = w.cell? ⟨b, j, none⟩ := fun j => by simp [World.cell?, hk b hb]
    exact ⟨(hcell _).trans h1, (hcell _).trans h2, h3.keep hk hS, h4⟩
theorem RK.drop {g off : Nat} (h : RK w S (some ⟨g, off, none⟩) L) (n : Nat) : RK w S (some ⟨g, off + n * 2, none⟩) (L.drop n) := by
  rcases h with rfl | ⟨b, o, e, hb, hc⟩
  · exact .inl (by simp)
  · injection e with e
    injection e with e1 e2
    subst e1 e2
    refine .inr ⟨g, off + n * 2, rfl, hb, fun j x hx => ?_⟩
    rw [List.getElem?_drop] at hx
    have := hc (n + j) x hx
    rw [show off + n * 2 + j * 2 = off + (n + j) * 2 by omega]
    exact this
theorem RK.rt {A : Option Addr} {ps : PS} (h : RK w S K L) (hp : RPS w S A ps) : RT w S A K (.node ps (L.map TH.t)) := by
  have hget : ∀ (i : Nat) (t : BT), (L.map TH.t)[i]? = some t → ∃ x, L[i]? = some x ∧ x.t = t := fun i t ht => by
    rw [List.getElem?_map] at ht
    cases hx : L[i]? with
    | none => rw [hx] at ht; cases ht
    | some x => rw [hx] at ht; exact ⟨x, rfl, Option.some.inj ht⟩
  rcases h with rfl | ⟨b, off, e, hb, hc⟩
  · exact .node 0 0 (fun _ => none) (fun _ => none) (fun _ => 0) (fun _ => 0) hp (.inl rfl) (fun i t ht => by simp at ht) (fun i t ht => by simp at ht)
  · refine .node b off (fun i => (L.getD i ⟨none, 0, none, 0, .node [] []⟩).A) (fun i => (L.getD i ⟨none, 0, none, 0, .node [] []⟩).K) (fun i => (L.getD i ⟨none, 0, none, 0, .node [] []⟩).c) (fun i => (L.getD i ⟨none, 0, none, 0, .node [] []⟩).d)
      hp (.inr ⟨e, hb⟩) (fun i t ht => ?_) (fun i t ht => ?_)
    · obtain ⟨x, hx, rfl⟩ := hget i t ht
      have e : L.getD i ⟨none, 0, none, 0, .node [] []⟩ = x := by rw [List.getD_eq_getElem?_getD, hx]; rfl
      simp only [e]
      exact ⟨(hc i x hx).1, (hc i x hx).2.1⟩
    · obtain ⟨x, hx, rfl⟩ := hget i t ht
      have e : L.getD i ⟨none, 0, none, 0, .node [] []⟩ = x := by rw [List.getD_eq_getElem?_getD, hx]; rfl
      simp only [e]
      exact (hc i x hx).2.2.1
end
/-- A row of trees of the call's own; the trees lie in S. -/
structure KT (w : World) (lo : Nat) (S : Nat → Prop) (K : Option Addr) (d : Nat) (L : List TH) : Prop where
  row : w.ownsRow lo 67 2 (.slice K L.length d) L.length (thc L)
  bd : ∀ b, S b → b < w.heap.size ∧ Value.ownBlock (.slice K L.length d) ≠ some b
  rt : ∀ x ∈ L, RT w S x.A x.K x.t ∧ x.cap
section
variable {w w' : World} {lo d : Nat} {S S' : Nat → Prop} {K : Option Addr} {L : List TH}
theorem KT.nil (hS : ∀ b, S b → b < w.heap.size) : KT w lo S none 0 [] := ⟨World.ownsRow_nil _ _ _ _, fun b hb => ⟨hS b hb, by simp [Value.ownBlock]⟩, fun _ h => by simp at h⟩
theorem KT.of_kids (h : KidsT w lo K d L) : ∃ S : Nat → Prop, (∀ b, S b → lo ≤ b) ∧ KT w lo S K d L := by
  obtain ⟨h1, S, h2, h3⟩ := h
  exact ⟨S, fun b hb => (h2 b hb).1, h1, fun b hb => (h2 b hb).2, h3⟩
theorem KT.below (h : KT w lo S K d L) (hb : Below w.heap.size w w') : KT w' lo S K d L :=
  ⟨ownsRow_keep h.row fun k hk => hb.block k (h.row.lt k hk).2, fun b hS => ⟨Nat.lt_of_lt_of_le (h.bd b hS).1 hb.size, (h.bd b hS).2⟩, fun x hx => ⟨(h.rt x hx).1.keep (fun b hS => hb.block b (h.bd b hS).1) (fun _ h => h), (h.rt x hx).2⟩⟩
theorem KT.mono {lo' : Nat} (h : KT w lo S K d L) (hl : lo' ≤ lo) : KT w lo' S K d L := ⟨own_mono h.row hl, h.bd, h.rt⟩
theorem KT.wide (h : KT w lo S K d L) (hS : ∀ b, S b → S' b) (hb : ∀ b, S' b → b < w.heap.size ∧ Value.ownBlock (.slice K L.length d) ≠ some b) : KT w lo S' K d L :=
  ⟨h.row, hb, fun x hx => ⟨(h.rt x hx).1.keep (fun _ _ => rfl) hS, (h.rt x hx).2⟩⟩
theorem KT.set (h : KT w lo S K d L) {g j : Nat} (hg : g < lo) (hS : ¬ S g) (u : Value) : KT (w.setCell ⟨g, j, none⟩ u) lo S K d L :=
  ⟨own_set' h.row hg u, fun b hb => ⟨by simpa using (h.bd b hb).1, (h.bd b hb).2⟩, fun x hx => ⟨(h.rt x hx).1.keep (fun b hb => Below.heap_setCell _ _ _ _ (fun e => hS (by subst e; exact hb))) (fun _ h => h), (h.rt x hx).2⟩⟩
theorem KT.push {S2 : Nat → Prop} {x : TH} (h : KT w lo S K d L) (hx : RT w S2 x.A x.K x.t) (hc : x.cap) (hS2 : ∀ b, S2 b → b < w.heap.size ∧ Value.ownBlock (.slice K L.length d) ≠ some b) {K' : Option Addr} {d' : Nat}
    (hown : w'.ownsRow lo 67 2 (.slice K' (L.length + 1) d') (L.length + 1) (thc (L ++ [x]))) (hgr : w.grownBy w' (Value.ownBlock (.slice K L.length d)))
    (hat : ∀ k, Value.ownBlock (.slice K' (L.length + 1) d') = some k → Value.ownBlock (.slice K L.length d) = some k ∨ w.heap.size ≤ k) : KT w' lo (fun b => S b ∨ S2 b) K' d' (L ++ [x]) := by
  have hSS : ∀ b, S b ∨ S2 b → b < w.heap.size ∧ Value.ownBlock (.slice K L.length d) ≠ some b := fun b hb => hb.elim (h.bd b) (hS2 b)
  have hk : ∀ b, S b ∨ S2 b → w'.heap[b]? = w.heap[b]? := fun b hb => hgr.block b (hSS b hb).1 (fun e => (hSS b hb).2 e.symm)
  refine ⟨by simpa using hown, fun b hb => ⟨Nat.lt_of_lt_of_le (hSS b hb).1 hgr.size, fun e => ?_⟩, fun y hy => ?_⟩
  · rcases hat b (by simpa using e) with e' | e'
    · exact (hSS b hb).2 e'
    · have := (hSS b hb).1; omega
  · rcases List.mem_append.1 hy with hy | hy
    · exact ⟨(h.rt y hy).1.keep (fun b hb => hk b (.inl hb)) (fun _ h => .inl h), (h.rt y hy).2⟩
    · have : y = x := by simpa using hy
      subst this
      exact ⟨hx.keep (fun b hb => hk b (.inr hb)) (fun _ h => .inr h), hc⟩
theorem KT.rk (h : KT w lo S K d L) : RK w (fun b => S b ∨ Value.ownBlock (.slice K L.length d) = some b) K L := by
  rcases h.row.2 with ⟨hv, hn⟩ | ⟨g, cap, cur, hv, hr⟩
  · exact .inl (List.eq_nil_of_length_eq_zero hn)
  · have h1 := h.row
    injection hv with e1 _ e3
    subst e1 e3
    refine .inr ⟨g, 0, rfl, .inr rfl, fun i x hx => ?_⟩
    have hi := (List.getElem?_eq_some_iff.1 hx).1
    simp only [Nat.zero_add]
    exact ⟨(h1.cellAt (i * 2) (by omega)).trans (thc_0 L i x hx), (h1.cellAt (i * 2 + 1) (by omega)).trans (thc_1 L i x hx), (h.rt x (List.mem_of_getElem? hx)).1.keep (fun _ _ => rfl) (fun _ h => .inl h), (h.rt x (List.mem_of_getElem? hx)).2⟩
end
theorem KT.caps {w : World} {lo d : Nat} {S : Nat → Prop} {K : Option Addr} {L : List TH} (h : KT w lo S K d L) : L.length ≤ d ∧ d ≤ maxLen := own_cap h.row
end Go.Proofs.Ytcjbjfhndjpmcaa
