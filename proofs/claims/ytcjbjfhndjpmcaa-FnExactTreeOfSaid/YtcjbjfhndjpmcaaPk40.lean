import Derived.Test.YtcjbjfhndjpmcaaPk39
/-
  The program's nodes: a tree of branches laid as a list.
-/
namespace Go.Proofs.Ytcjbjfhndjpmcaa
open Go.RowKit

theorem OV.open_ {w : World} {R S : Nat → Prop} {g : Nat} {ps : PS} {ks : List BT} (h : OV w R S g (.node ps ks)) :
    ∃ (A K : Option Addr) (c d : Nat), w.cell? ⟨g, 0, none⟩ = some (.slice A ps.length c) ∧ w.cell? ⟨g, 1, none⟩ = some (.slice K ks.length d) ∧ RPS w R A ps ∧ VS A c ps.length ∧
      ∀ (k : Nat) (hk : k < ks.length), ∃ (b gk : Nat) (Sk : Nat → Prop), K = some ⟨b, 0, none⟩ ∧ S b ∧ w.cell? ⟨b, k, none⟩ = some (ptr gk) ∧ (∀ x, Sk x → S x) ∧ OV w R Sk gk ks[k] := by
  cases h with
  | @node S g A K c d ps ks F G hg hh hp hv hr hb hd hk =>
    refine ⟨A, K, c, d, ?_, ?_, hp, hv, fun k hlt => ?_⟩
    · simp [World.cell?, hh]
    · simp [World.cell?, hh]
    · rcases hr.2 with ⟨hv', hn⟩ | ⟨kb, cap, cur, hv', hrest⟩
      · omega
      · have hv2 := hv'
        injection hv' with h1 _ h3
        subst h1 h3
        have hc := hr.cellAt k (by omega)
        rw [ptrs_at hlt] at hc
        exact ⟨kb, G k, F k, rfl, (hb kb rfl).1, hc, (hd k hlt).1, hk k _ (List.getElem?_eq_getElem hlt)⟩

/-- What the laying closure leaves. -/
def Lay1 (gm : Nat) (A : Option Addr) (c : Nat) (L : List NH) (t : BT) (w : World) (e : Ending) (w' : World) : Prop :=
  e = .returned (.int .i64 L.length) ∧ ∃ (A' : Option Addr) (c' : Nat) (L2 : List NH), One w' gm (.slice A' (L ++ L2).length c') 24 ∧ NodesO w' (gm + 2) A' c' (L ++ L2) ∧ L2.map NH.nd = layT t L.length ∧
    Mod (fun b => b = gm ∨ Value.ownBlock (.slice A L.length c) = some b) w w' ∧ (∀ b, inRows L2 b → w.heap.size ≤ b) ∧ (∀ k, Value.ownBlock (.slice A' (L ++ L2).length c') = some k → Value.ownBlock (.slice A L.length c) = some k ∨ w.heap.size ≤ k)

theorem nodeInfo' : (Try.prog.info? 77).map (fun i => (i.zero, i.size, i.bytes)) = some (some (.agg #[.slice none 0 0, .slice none 0 0]), 2, 48) := by kernel_rfl

/-- Behind the first append: a node with its pairs. -/
def LayA (gm : Nat) (A : Option Addr) (c : Nat) (L : List NH) (ps : PS) (w wc : World) : Prop :=
  ∃ (A1 : Option Addr) (c1 : Nat) (A' : Option Addr) (c' m : Nat), Hid (m = (L ++ [(⟨A1, c1, ps, none, 0, []⟩ : NH)]).length) ∧ One wc gm (.slice A' m c') 24 ∧ NodesO wc (gm + 2) A' c' (L ++ [(⟨A1, c1, ps, none, 0, []⟩ : NH)]) ∧
    Mod (fun b => b = gm ∨ Value.ownBlock (.slice A L.length c) = some b) w wc ∧ (∀ a, A1 = some a → w.heap.size ≤ a.block) ∧ (∀ k, Value.ownBlock (.slice A' m c') = some k → Value.ownBlock (.slice A L.length c) = some k ∨ w.heap.size ≤ k)

/-- The first append. -/
theorem layA_end {gm c c1 gg cap : Nat} {A A1 : Option Addr} {L : List NH} {ps : PS} {w w1 w3 : World} {o : Obj} {v : Value} (hm : One w gm v 24) (ho : NodesO w (gm + 2) A c L) (hgm : gm + 2 ≤ w.heap.size) (hp : OwnP w1 w.heap.size A1 c1 ps) (hb : Below w.heap.size w w1)
    (hown : w3.ownsRow (gm + 2) 77 2 (.slice (some ⟨gg, 0, none⟩) (L.length + 1) cap) (L.length + 1) (nhc L ++ [.slice A1 ps.length c1, .slice none 0 0])) (hg : (w1.alloc o).grownBy w3 (Value.ownBlock (.slice A L.length c))) (hat : Value.ownBlock (.slice A L.length c) = some gg ∨ gg = w1.heap.size + 1) :
    LayA gm A c L ps w (w3.setCell ⟨gm, 0, none⟩ (.slice (some ⟨gg, 0, none⟩) (L.length + 1) cap)) := by
  have hba : Below w1.heap.size w1 (w1.alloc o) := (Below.refl _ _).alloc (Nat.le_refl _) _
  have hb2 : Below w.heap.size w (w1.alloc o) := hb.trans (hba.mono hb.size)
  have hs1 := hb.size
  have hs2 := hba.size
  have hs3 := hg.size
  have ho1 := (ho.below hb2)
  have hp1 : OwnP (w1.alloc o) (gm + 2) A1 c1 ps := (hp.below hba).mono' hgm
  have hA1 : ∀ a, A1 = some a → w.heap.size ≤ a.block := fun a ha => (own_addr hp a ha).1
  have hpush : NodesO w3 (gm + 2) (some ⟨gg, 0, none⟩) cap (L ++ [(⟨A1, c1, ps, none, 0, []⟩ : NH)]) := NodesO.push ho1 hp1 (World.ownsRow_nil _ _ _ _) (fun y hy => ⟨apartB_new (n := w.heap.size) (fun a ha => (inRows_lt' ho ⟨y, hy, a, .inl ha, rfl⟩).2) hA1, fun _ _ _ h => by cases h⟩) hown hg
  have hgg : gm + 2 ≤ gg := (World.ownsRow.lt hown gg rfl).1
  have hM : Mod (fun b => b = gm ∨ Value.ownBlock (.slice A L.length c) = some b) w (w3.setCell ⟨gm, 0, none⟩ (.slice (some ⟨gg, 0, none⟩) (L.length + 1) cap)) :=
    Mod.set (S := fun b => b = gm ∨ Value.ownBlock (.slice A L.length c) = some b) ((Mod.of_below hb2).trans (S' := fun b => b = gm ∨ Value.ownBlock (.slice A L.length c) = some b) (Mod.of_gr hg (fun k e => .inr e)) (fun _ h _ => h)) (.inl (.inl rfl)) 0 _
  have h1 : One w3 gm v 24 := by
    have hx : w3.heap[gm]? = (w1.alloc o).heap[gm]? := hg.block gm (by have := hm.lt; omega) (fun e => by
      have := (ho.1.lt gm e.symm).1
      omega)
    exact hx.trans ((hb2.block gm (by omega)).trans hm)
  refine ⟨A1, c1, some ⟨gg, 0, none⟩, cap, L.length + 1, by simp [Hid], h1.set _, ?_, hM, hA1, fun k hk => ?_⟩
  · refine hpush.mod (S := fun b => b = gm) (Mod.set (S := fun b => b = gm) (Mod.refl _ _) (.inl rfl) 0 _) (fun k hk e => ?_) (fun k hk e => ?_)
    · have := (hpush.1.lt k hk).1
      omega
    · have := (inRows_lt' hpush hk).1
      omega
  · have : gg = k := by simpa [Value.ownBlock] using hk
    subst this
    rcases hat with h | h
    · exact .inl h
    · exact .inr (by omega)

theorem rows_ne {w : World} {B B' : Nat} {e e' : TypeId} {s s' n n' : Nat} {v v' : Value} {xs xs' : List Value} (h : w.ownsRow B e s v n xs) (h' : w.ownsRow B' e' s' v' n' xs') (hne : e ≠ e') {k : Nat} (hk : v.ownBlock = some k) : v'.ownBlock ≠ some k := by
  intro hk'
  obtain ⟨c1, h1⟩ := own_type h hk
  obtain ⟨c2, h2⟩ := own_type h' hk'
  rw [h1] at h2
  injection h2 with h2
  injection h2 with _ h2
  exact hne h2
/-- In the middle of a node: so many kids are laid. -/
def LayL (gm : Nat) (A : Option Addr) (c : Nat) (L : List NH) (x : NH) (ks : List BT) (k : Nat) (K : Option Addr) (d : Nat) (w wr : World) (A' : Option Addr) (c' m : Nat) (Lk : List NH) : Prop :=
  Hid (m = (L ++ x :: Lk).length) ∧ One wr gm (.slice A' m c') 24 ∧ NodesO wr (gm + 2) A' c' (L ++ x :: Lk) ∧ Lk.map NH.nd = layK (ks.take k) (L.length + 1) ∧ OwnI wr (gm + 2) K d (kidsAt (L.length + 1) (ks.take k)) ∧
    (∀ y ∈ L ++ x :: Lk, apartB y.K K) ∧ Mod (fun b => b = gm ∨ Value.ownBlock (.slice A L.length c) = some b) w wr ∧ (∀ b, inRows (x :: Lk) b → w.heap.size ≤ b) ∧ (∀ k, Value.ownBlock (.slice A' m c') = some k → Value.ownBlock (.slice A L.length c) = some k ∨ w.heap.size ≤ k) ∧ (∀ a, K = some a → w.heap.size ≤ a.block)
theorem layL_len {gm : Nat} {A : Option Addr} {c : Nat} {L : List NH} {x : NH} {ks : List BT} {k : Nat} {K : Option Addr} {d : Nat} {w wr : World} {A' : Option Addr} {c' m : Nat} {Lk : List NH} (h : LayL gm A c L x ks k K d w wr A' c' m Lk) : m = L.length + 1 + szK (ks.take k) ∧ (L ++ x :: Lk).length = m := by
  have h1 := congrArg List.length h.2.2.2.1
  rw [List.length_map, layK_len] at h1
  have h2 := h.1.out
  simp only [List.length_append, List.length_cons] at h2 ⊢
  exact ⟨by omega, by omega⟩
/-- One kid more. -/
theorem layL_step {gm c k d c' m c3 gg cap : Nat} {A K A' A3 : Option Addr} {L Lk L2 : List NH} {x : NH} {ks : List BT} {w wr w3 w5 : World} {o : Obj} (hk : k < ks.length) (h : LayL gm A c L x ks k K d w wr A' c' m Lk)
    (h3 : One w3 gm (.slice A3 ((L ++ x :: Lk) ++ L2).length c3) 24) (hn3 : NodesO w3 (gm + 2) A3 c3 ((L ++ x :: Lk) ++ L2)) (hl3 : L2.map NH.nd = layT ks[k] (L ++ x :: Lk).length) (hm3 : Mod (fun b => b = gm ∨ Value.ownBlock (.slice A' (L ++ x :: Lk).length c') = some b) wr w3) (hf3 : ∀ b, inRows L2 b → wr.heap.size ≤ b)
    (ha3 : ∀ k, Value.ownBlock (.slice A3 ((L ++ x :: Lk) ++ L2).length c3) = some k → Value.ownBlock (.slice A' (L ++ x :: Lk).length c') = some k ∨ wr.heap.size ≤ k)
    (hown : w5.ownsRow (gm + 2) 2 1 (.slice (some ⟨gg, 0, none⟩) (k + 1) cap) (k + 1) (icells (kidsAt (L.length + 1) (ks.take k)) ++ [.int .i64 m])) (hg : (w3.alloc o).grownBy w5 (Value.ownBlock (.slice K k d))) (hat : Value.ownBlock (.slice K k d) = some gg ∨ gg = w3.heap.size + 1) :
    LayL gm A c L x ks (k + 1) (some ⟨gg, 0, none⟩) cap w w5 A3 c3 ((L ++ x :: Lk) ++ L2).length (Lk ++ L2) := by
  obtain ⟨hmm, hlm⟩ := layL_len h
  obtain ⟨h0, h1, hn, hl, hi, hap, hM, hf, ha, hK⟩ := h
  have hs3 := hm3.size
  have hsM := hM.size
  have hba : Below w3.heap.size w3 (w3.alloc o) := (Below.refl _ _).alloc (Nat.le_refl _) _
  have hkl : (kidsAt (L.length + 1) (ks.take k)).length = k := by rw [kidsAt_len, List.length_take]; omega
  have hiK : ∀ b, Value.ownBlock (.slice K k d) = some b → gm + 2 ≤ b ∧ b < wr.heap.size := fun b hb => by
    rw [← hkl] at hb
    exact hi.lt b hb
  rw [hlm] at hm3 ha3
  have e0 : m = (L ++ x :: Lk).length := h0.out
  -- the kids' row and the others
  have hKA : ∀ b, Value.ownBlock (.slice K k d) = some b → Value.ownBlock (.slice A' (L ++ x :: Lk).length c') ≠ some b := fun b hb => rows_ne hi hn.1 (by decide) (by rw [hkl]; exact hb)
  have hKin : ∀ b, Value.ownBlock (.slice K k d) = some b → ¬ inRows (L ++ x :: Lk) b := fun b hb ⟨y, hy, a, hya, he⟩ => by
    rcases hya with hya | hya
    · refine rows_ne hi (hn.2.1 y hy).1 (by decide) (k := b) (by rw [hkl]; exact hb) ?_
      rw [hya]; simp [Value.ownBlock, he]
    · cases hKK : K with
      | none => rw [hKK] at hb; cases hb
      | some q =>
        have hq : q.block = b := by rw [hKK] at hb; simpa [Value.ownBlock] using hb
        exact hap y hy a q hya hKK (by rw [he, hq])
  have hKA3 : ∀ b, Value.ownBlock (.slice K k d) = some b → Value.ownBlock (.slice A3 ((L ++ x :: Lk) ++ L2).length c3) ≠ some b := fun b hb e => by
    rcases ha3 b e with h' | h'
    · exact hKA b hb (by rw [← e0]; exact h')
    · have := (hiK b hb).2; omega
  have hKin3 : ∀ b, Value.ownBlock (.slice K k d) = some b → ¬ inRows ((L ++ x :: Lk) ++ L2) b := fun b hb hin => by
    rcases inRows_app.1 hin with h' | h'
    · exact hKin b hb h'
    · have := hf3 b h'; have := (hiK b hb).2; omega
  have hMg : Mod (fun b => Value.ownBlock (.slice K k d) = some b) w3 w5 := (Mod.of_below hba).trans (S' := fun b => Value.ownBlock (.slice K k d) = some b) (Mod.of_gr hg (fun b e => e)) (fun _ h _ => h)
  have hs5 := hMg.size
  have hgg : gm + 2 ≤ gg ∧ gg < w5.heap.size := World.ownsRow.lt hown gg rfl
  have hnew : ∀ a : Addr, (some ⟨gg, 0, none⟩ : Option Addr) = some a → a.block = gg := fun a e => by injection e with e; rw [← e]
  have hks : kidsAt (L.length + 1) (ks.take (k + 1)) = kidsAt (L.length + 1) (ks.take k) ++ [(m : Int)] := by
    rw [List.take_succ_eq_append_getElem hk, kidsAt_snoc, hmm]
  have hkl5 : (kidsAt (L.length + 1) (ks.take (k + 1))).length = k + 1 := by rw [hks]; simp [hkl]
  refine ⟨by simp [Hid], ?_, ?_, ?_, ?_, fun y hy => ?_, ?_, fun b hb => ?_, fun q hq => ?_, fun a e => ?_⟩
  · exact (hMg.block gm h3.lt (fun e => by have := (hiK gm e).1; omega)).trans h3
  · have := hn3.mod hMg (fun q hq e => hKA3 q e hq) (fun q hq e => hKin3 q e hq)
    simpa using this
  · rw [List.take_succ_eq_append_getElem hk, layK_snoc, List.map_append, hl, hl3, ← e0, hmm]
  · unfold OwnI
    rw [hkl5, hks]
    simpa [icells] using hown
  · have hy' : y ∈ (L ++ x :: Lk) ++ L2 := by simpa using hy
    intro a b hya hb e
    rw [hnew b hb] at e
    have hin : inRows ((L ++ x :: Lk) ++ L2) gg := ⟨y, hy', a, .inr hya, e⟩
    rcases hat with h' | h'
    · exact hKin3 gg h' hin
    · have := (inRows_lt' hn3 hin).2; omega
  · refine (hM.trans hm3 (fun q hq hlt => ?_)).trans hMg (fun q hq hlt => ?_)
    · rcases hq with hq | hq
      · exact .inl hq
      · rcases ha q hq with h' | h'
        · exact .inr h'
        · omega
    · cases hKK : K with
      | none => rw [hKK] at hq; cases hq
      | some b =>
        have hb : b.block = q := by rw [hKK] at hq; simpa [Value.ownBlock] using hq
        have := hK b hKK
        omega
  · rw [← List.cons_append] at hb
    rcases inRows_app.1 hb with h' | h'
    · exact hf b h'
    · have := hf3 b h'; omega
  · rcases ha3 q hq with h' | h'
    · exact ha q h'
    · exact .inr (by omega)
  · rw [hnew a e]
    rcases hat with h' | h'
    · cases hKK : K with
      | none => rw [hKK] at h'; cases h'
      | some b =>
        have hb : b.block = gg := by rw [hKK] at h'; simpa [Value.ownBlock] using h'
        have := hK b hKK
        omega
    · omega

theorem layL_start {gm c c1 c' m : Nat} {A A1 A' : Option Addr} {L : List NH} {ps : PS} {ks : List BT} {w wc : World} (hm : Hid (m = (L ++ [(⟨A1, c1, ps, none, 0, []⟩ : NH)]).length)) (h1 : One wc gm (.slice A' m c') 24) (hn : NodesO wc (gm + 2) A' c' (L ++ [(⟨A1, c1, ps, none, 0, []⟩ : NH)]))
    (hM : Mod (fun b => b = gm ∨ Value.ownBlock (.slice A L.length c) = some b) w wc) (hA : ∀ a, A1 = some a → w.heap.size ≤ a.block) (ha : ∀ k, Value.ownBlock (.slice A' m c') = some k → Value.ownBlock (.slice A L.length c) = some k ∨ w.heap.size ≤ k) :
    LayL gm A c L ⟨A1, c1, ps, none, 0, []⟩ ks 0 none 0 w wc A' c' m [] := by
  have hap : ∀ y ∈ L ++ [(⟨A1, c1, ps, none, 0, []⟩ : NH)], apartB y.K none := fun y _ a b _ hb => by cases hb
  have hno : ∀ a : Addr, (none : Option Addr) = some a → w.heap.size ≤ a.block := fun a e => by cases e
  refine ⟨hm, h1, hn, by simp [layK], ?_, hap, hM, fun b hb => ?_, ha, hno⟩
  · rw [List.take_zero]
    exact World.ownsRow_nil _ _ _ _
  · obtain ⟨y, hy, a, hya, rfl⟩ := hb
    have : y = ⟨A1, c1, ps, none, 0, []⟩ := by simpa using hy
    subst this
    rcases hya with hya | hya
    · exact hA a hya
    · cases hya
theorem layL_end {gm c c1 c' m d g : Nat} {A A1 K : Option Addr} {L Lk : List NH} {ps : PS} {ks : List BT} {w wr : World} (h : LayL gm A c L ⟨A1, c1, ps, none, 0, []⟩ ks ks.length K d w wr (some ⟨g, 0, none⟩) c' m Lk) :
    Lay1 gm A c L (.node ps ks) w (.returned (.int .i64 L.length)) (wr.setCell ⟨g, L.length * 2 + 1, none⟩ (.slice K ks.length d)) := by
  obtain ⟨hmm, hlm⟩ := layL_len h
  obtain ⟨h0, h1, hn, hl, hi, hap, hM, hf, ha, hK⟩ := h
  have e0 : m = (L ++ (⟨A1, c1, ps, none, 0, []⟩ : NH) :: Lk).length := h0.out
  rw [List.take_length] at hl hi
  have hkl : (kidsAt (L.length + 1) ks).length = ks.length := kidsAt_len _ _
  obtain ⟨hs, _⟩ := NodesO.setKids hn hi (fun y hy => hap y (by rcases hy with hy | hy <;> simp [hy]))
  rw [hkl] at hs
  have hg2 := (hn.1.lt g rfl)
  have hlen : (L ++ (⟨A1, c1, ps, K, d, kidsAt (L.length + 1) ks⟩ : NH) :: Lk).length = m := by rw [e0]; simp
  refine ⟨rfl, some ⟨g, 0, none⟩, c', (⟨A1, c1, ps, K, d, kidsAt (L.length + 1) ks⟩ : NH) :: Lk, ?_, hs, ?_, ?_, fun b hb => ?_, fun k hk => ?_⟩
  · rw [hlen]
    exact h1.other (by omega) _
  · show (ps, kidsAt (L.length + 1) ks) :: Lk.map NH.nd = layT (.node ps ks) L.length
    rw [hl]
    rfl
  · refine hM.set ?_ _ _
    rcases ha g rfl with h' | h'
    · exact .inl (.inr h')
    · exact .inr h'
  · obtain ⟨y, hy, a, hya, rfl⟩ := hb
    rcases List.mem_cons.1 hy with e | hy
    · subst e
      rcases hya with hya | hya
      · exact hf _ ⟨⟨A1, c1, ps, none, 0, []⟩, by simp, a, .inl hya, rfl⟩
      · exact hK a hya
    · exact hf _ ⟨y, by simp [hy], a, hya, rfl⟩
  · rw [hlen] at hk
    exact ha k hk

/-- The row of kids, behind a call that lays one. -/
theorem layL_row {gm c k d c' m : Nat} {A K A' : Option Addr} {L Lk : List NH} {x : NH} {ks : List BT} {w wr w3 : World} (hk : k ≤ ks.length) (h : LayL gm A c L x ks k K d w wr A' c' m Lk) (hm3 : Mod (fun b => b = gm ∨ Value.ownBlock (.slice A' (L ++ x :: Lk).length c') = some b) wr w3) :
    w3.ownsRow (gm + 2) 2 1 (.slice K k d) k (icells (kidsAt (L.length + 1) (ks.take k))) := by
  obtain ⟨h0, h1, hn, hl, hi, hap, hM, hf, ha, hK⟩ := h
  have hkl : (kidsAt (L.length + 1) (ks.take k)).length = k := by rw [kidsAt_len, List.length_take]; omega
  unfold OwnI at hi
  rw [hkl] at hi
  refine ownsRow_mod hi hm3 fun b hb hs => ?_
  rcases hs with rfl | hs
  · have := (hi.lt _ hb).1; omega
  · exact rows_ne hi hn.1 (by decide) hb hs

set_option maxHeartbeats 4000000 in
set_option maxRecDepth 100000 in
theorem impl_lay (gm : Nat) (R : Nat → Prop) : ∀ (n : Nat) (t : BT) (S : Nat → Prop) (g : Nat) (A : Option Addr) (m c : Nat) (L : List NH) (w : World), szT t ≤ n → L.length + szT t ≤ 1000 → (allT t).length ≤ 1000 → OV w R S g t → (∀ b, S b ∨ R b → b < gm) → Hid (m = L.length) →
    One w gm (.slice A m c) 24 → NodesO w (gm + 2) A c L → One w (gm + 1) (fun2 110 gm (gm + 1)) 124 → gm + 2 ≤ w.heap.size →
    Calls Try.prog 110 #[.pointer (some ⟨g, 0, none⟩), .pointer (some ⟨gm, 0, none⟩), .pointer (some ⟨gm + 1, 0, none⟩)] w (Lay1 gm A c L t w)
  | 0, t, _, _, _, _, _, _, _, h, _, _, _, _, _, _, _, _, _ => by have := szT_pos t; omega
  | n + 1, .node ps ks, S, g, A, m, c, L, w, hn, hlen, hsm, ho, hS, hmL, hm, hno, hf, hsz => by
    obtain ⟨i0, hi0, hz0, hz1, hz2⟩ := info_parts nodeInfo'
    obtain ⟨j0, hj0, hy0, hy1, hy2⟩ := info_parts int64Info
    obtain ⟨Ap, K, cp, d, cc0, cc1, hrp, hvs, hk⟩ := ho.open_
    have hkl : ks.length ≤ 1000 := by have := kids_len ks; simp only [szT] at hlen; omega
    have hpl : ps.length ≤ 1000 ∧ (allK ks).length ≤ 1000 := by simp only [allT, List.length_append] at hsm; omega
    obtain ⟨hpl, hal⟩ := hpl
    have HAL : Hid (∀ k (hk : k < ks.length), (allT ks[k]).length ≤ 1000) := fun k hk => by have := allK_at hk; omega
    clear hal
    have hszk : L.length + 1 + szK ks ≤ 1000 := by simp only [szT] at hlen; omega
    have hgm : g < gm := hS g (.inl ho.in_)
    have hne : g ≠ gm := by omega
    obtain rfl : m = L.length := hmL.out
    have HM := hid hm
    have HN := hid hno
    have HF := hid hf
    have HRP := hid ((hrp.rp (B := gm) (fun b h => hS b (.inr h))).more (B' := w.heap.size) (by omega))
    have HVS := hid hvs
    have IH := hid (impl_lay gm R n)
    have HSK : Hid (∀ k (hk : k < ks.length), szT ks[k] ≤ n) := fun k hk => by have := sz_kid (ps := ps) hk; omega
    have HK : Hid (∀ (k : Nat) (hk : k < ks.length), ∃ (b gk : Nat) (Sk : Nat → Prop), K = some ⟨b, 0, none⟩ ∧ b < gm ∧ w.cell? ⟨b, k, none⟩ = some (ptr gk) ∧ (∀ x, Sk x ∨ R x → x < gm) ∧ OV w R Sk gk ks[k]) := fun k hlt => by
      obtain ⟨b, gk, Sk, e, hb, ck, hsub, hok⟩ := hk k hlt
      exact ⟨b, gk, Sk, e, hS b (.inl hb), ck, fun x h => hS x (h.imp (hsub x) id), hok⟩
    have m0 := hm.c
    have mf := hm.fz
    have tk1 : Hid (1 = 1) := rfl
    clear hn hsm ho hS hmL hm hno hf hrp hvs hk
    go_enter Try.func110, Try.ntmps110
    go_wp2_with fail
    go_cut [] from 11 to 19 (fun wc => LayA gm A c L ps w wc)
    case first =>
      go_region_law
        (first
          | (refine step_append_lies _ (by rfl) _ _ _ (by rfl) (gm + 2) 77 i0 _ 2 48 Try.underlying24 hi0 hz0 hz1 hz2 rfl (by omega) (.slice A L.length c) L.length (nhc L) (by rfl) (HN1.out.1.alloc _) ⟨w1.heap.size, 0, none⟩ 1 1 [.slice A1 ps.length c1, .slice none 0 0] (by rfl) (by rfl) (World.news_of_block (cs := #[.slice A1 ps.length c1, .slice none 0 0]) (t := 77) (fr := (0, 0)) (heap_alloc_new w1 _)) (by simp [Value.oneCell']) (by omega) (by unfold maxLen; omega) (by omega) (by simp; omega) (w1.heap.size + 1) (by simp) ?_; intro gg cap w3 hown hgrow hat hlt; have HEND := hid (layA_end HM.out HN.out hsz HO1.out HB1.out hown hgrow hat); have h3 : One w3 gm (.slice A L.length c) 24 := (hgrow.block gm (by have := HM1.out.lt; simp; omega) (fun e => by have := (HN1.out.1.lt gm e.symm).1; omega)).trans (HM1.out.below ((Below.refl _ _).alloc (Nat.le_refl _) _)); have f3 := h3.fz; have m3 := h3.c; clear h3 hown hgrow hat)
          | (clear tk1; go_simp; go_at_call 111; refine (clone_all Ap cp ps _ (by first | exact HRP.out | exact HRP.out.below (Below.refl _ _).drew) HVS.out (by omega)).mono ?_; rintro e w1 ⟨A1, c1, rfl, ho1, hb1⟩; have HO1 : Hid (OwnP w1 w.heap.size A1 c1 ps) := ho1; have HB1 : Hid (Below w.heap.size w w1) := (by first | exact hb1 | exact (Below.refl w.heap.size w).drew.trans hb1); have HM1 := hid (HM.out.below HB1.out); have HN1 := hid (HN.out.below HB1.out); have m1 := HM1.out.c; have f1 := HM1.out.fz; have hs1 := HB1.out.size; have hgm1 := HM1.out.lt; clear ho1 hb1))
      all_goals
        go_wp2_with fail
        go_meet
        case rel => exact HEND.out
    obtain ⟨A1, c1, A', c', m', hm', h1, hn', hM', hA', ha'⟩ := hcut
    have HST := hid (layL_start (ks := ks) hm' h1 hn' hM' hA' ha')
    have hgmS : gm < w.heap.size := by omega
    have hw1 : Below gm w wc := hM'.below (fun b hb => by
      rcases hb with rfl | hb
      · exact Nat.le_refl _
      · have := (HN.out.1.lt b hb).1; omega) (by omega)
    have x1 := (hw1.cell (p := ⟨g, 1, none⟩) hgm).trans cc1
    clear hm' h1 hn' hM' hA' ha' hw1 m0 mf cc0
    go_wp2_with fail
    go_loopw [6, 25] (fun sk i wr => ∃ (k : Nat) (K2 : Option Addr) (d2 m2 : Nat) (A2 : Option Addr) (c2 : Nat) (Lk : List NH), k ≤ ks.length ∧ i = .int .i64 k ∧ sk = .slice K2 k d2 ∧ Hid (LayL gm A c L ⟨A1, c1, ps, none, 0, []⟩ ks k K2 d2 w wr A2 c2 m2 Lk)) (fun _ i _ => ks.length - (intOf i).toNat)
    case atStart => exact ⟨0, none, 0, m', A', c', [], Nat.zero_le _, rfl, rfl, HST.out⟩
    case round =>
      obtain ⟨k, K2, d2, m2, A2, c2, Lk, hk, rfl, rfl, HL⟩ := hrel
      obtain ⟨hmm, hlm⟩ := layL_len HL.out
      have hBW := HL.out.2.2.2.2.2.2.1
      have hbw : Below gm w wr := hBW.below (fun b hb => by
        rcases hb with rfl | hb
        · exact Nat.le_refl _
        · have := (HN.out.1.lt b hb).1; omega) (by omega)
      have hwr := hbw.size
      have HBW := hid hbw
      have hF : One wr (gm + 1) (fun2 110 gm (gm + 1)) 124 := (hBW.block (gm + 1) (by omega) (fun hb => by
        rcases hb with hb | hb
        · omega
        · have := (HN.out.1.lt _ hb).1; omega)).trans HF.out
      have HFW := hid hF
      have f1 := hF.c
      unfold fun2 at f1
      by_cases hlt : k < ks.length
      · obtain ⟨b, gk, Sk, rfl, hbg, ck, hSk, hok⟩ := HK.out k hlt
        have ck' := (hbw.cell (p := ⟨b, k, none⟩) hbg).trans ck
        unfold ptr at ck'
        have e5 : (0 : Int) ≤ (k : Int) := by omega
        have e6 : (k : Int) < (ks.length : Int) := by omega
        have hszc : szK (ks.take k) + szT ks[k] ≤ szK ks := by rw [szK_cut hlt]; omega
        have hm2b : m2 + 1 ≤ 1000 := by have := szT_pos ks[k]; omega
        have hih := IH.out ks[k] Sk gk A2 m2 c2 (L ++ (⟨A1, c1, ps, none, 0, []⟩ : NH) :: Lk) wr (HSK.out k hlt) (by omega) (HAL.out k hlt) (hok.keepB hbw hSk) hSk HL.out.1 HL.out.2.1 HL.out.2.2.1 hF (by omega)
        have HIH := hid hih
        have HLM := hid hlm
        have hrow := fun (w3 : World) hm3 => layL_row (w3 := w3) hk HL.out hm3
        have HROW := hid hrow
        clear hBW hbw hF ck hok hSk hih hlm hmm hrow
        go_wp2_with fail
        refine HIH.out.mono ?_
        intro e w3 hl
        obtain ⟨he, A3, c3, L2, g1, g2, g3, g4, g5, g6⟩ := hl
        rw [HLM.out] at he
        subst he
        have hr3 := HROW.out w3 g4
        have hs3 := g4.size
        have HR3 := hid hr3
        have HSTEP := hid (fun (w5 : World) (gg cap : Nat) (o : Obj) h1 h2 h3 => layL_step (w5 := w5) (gg := gg) (cap := cap) (o := o) hlt HL.out g1 g2 g3 g4 g5 g6 h1 h2 h3)
        clear g1 g2 g3 g4 g5 g6 hr3
        go_wp2_with (at_builtin; refine wpList_append_lies _ rfl _ _ _ rfl (gm + 2) 2 j0 _ 1 8 Try.underlying75 hj0 hy0 hy1 hy2 rfl (by omega) (.slice K2 k d2) k (icells (kidsAt (L.length + 1) (ks.take k))) rfl (HR3.out.alloc _) ⟨w3.heap.size, 0, none⟩ 1 1 [.int .i64 (m2 : Int)] rfl rfl (World.news_of_block (cs := #[.int .i64 (m2 : Int)]) (t := 2) (fr := (0, 0)) (heap_alloc_new w3 _)) (by simp [Value.oneCell']) (by omega) (by unfold maxLen; omega) (by omega) (by simp; omega) (w3.heap.size + 1) (by simp) ?_; intro gg cap w5 hown hgrow hat hlt5; have HFIN := hid (HSTEP.out w5 gg cap _ hown hgrow hat); clear hown hgrow hat)
        go_roundw
        case rel => exact ⟨k + 1, some ⟨gg, 0, none⟩, cap, _, A3, c3, Lk ++ L2, by omega, by go_num, rfl, HFIN.out⟩
        case measure => simp [intOf]; omega
      · obtain rfl : k = ks.length := by omega
        have hno := HL.out.2.2.1
        have h1 := HL.out.2.1
        obtain ⟨g', rfl⟩ : ∃ g', A2 = some ⟨g', 0, none⟩ := by
          rcases hno.1.2 with ⟨_, h0⟩ | ⟨g', cap, cur, hv, _⟩
          · simp at h0
          · injection hv with e1 _ _
            exact ⟨g', e1⟩
        have e5 : (0 : Int) ≤ (L.length : Int) := by omega
        have e6 : (L.length : Int) < (m2 : Int) := by omega
        have hg' := (hno.1.lt g' rfl)
        have f2 := hno.1.frozenAt (L.length * 2 + 1)
        obtain ⟨u, hu⟩ : ∃ u, wr.cell? ⟨g', L.length * 2 + 1, none⟩ = some u := by
          have := hno.1.1
          exact ⟨_, (hno.1.cellAt (L.length * 2 + 1) (by omega)).trans (List.getElem?_eq_getElem (by omega))⟩
        have t0 := h1.c
        have HFIN := hid (layL_end HL.out)
        clear hno h1 hBW hbw hF f1 x1 hlm hmm
        go_wp2_with fail
        go_ret
        exact HFIN.out
end Go.Proofs.Ytcjbjfhndjpmcaa
