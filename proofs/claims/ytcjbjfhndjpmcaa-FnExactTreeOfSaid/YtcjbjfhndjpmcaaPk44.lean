import Derived.Test.YtcjbjfhndjpmcaaPk40
import Derived.Test.YtcjbjfhndjpmcaaPk43
/-
  In the middle of a node of the model's l2Out.
-/
namespace Go.Proofs.Ytcjbjfhndjpmcaa
open Go.RowKit

/-- What l2Out leaves. -/
def LayO (lo : Nat) (A : Option Addr) (c : Nat) (L : List NH) (t : BT) (w : World) (e : Ending) (w' : World) : Prop :=
  ∃ (A' : Option Addr) (c' m : Nat) (L2 : List NH), e = .returned (.slice A' m c') ∧ Hid (m = (L ++ L2).length) ∧ NodesO w' lo A' c' (L ++ L2) ∧ L2.map NH.nd = layT t L.length ∧
    Mod (fun b => Value.ownBlock (.slice A L.length c) = some b) w w' ∧ (∀ b, inRows L2 b → w.heap.size ≤ b) ∧ (∀ k, Value.ownBlock (.slice A' m c') = some k → Value.ownBlock (.slice A L.length c) = some k ∨ w.heap.size ≤ k)
/-- k kids are laid, of j the places stand. -/
def LayM (lo : Nat) (A : Option Addr) (c : Nat) (L : List NH) (x : NH) (ks : List BT) (k j : Nat) (K : Option Addr) (d : Nat) (w wr : World) (A' : Option Addr) (c' m : Nat) (Lk : List NH) : Prop :=
  Hid (m = (L ++ x :: Lk).length) ∧ NodesO wr lo A' c' (L ++ x :: Lk) ∧ Lk.map NH.nd = layK (ks.take k) (L.length + 1) ∧ OwnI wr lo K d (kidsAt (L.length + 1) (ks.take j)) ∧
    (∀ y ∈ L ++ x :: Lk, apartB y.K K) ∧ Mod (fun b => Value.ownBlock (.slice A L.length c) = some b) w wr ∧ (∀ b, inRows (x :: Lk) b → w.heap.size ≤ b) ∧ (∀ k, Value.ownBlock (.slice A' m c') = some k → Value.ownBlock (.slice A L.length c) = some k ∨ w.heap.size ≤ k) ∧ (∀ a, K = some a → w.heap.size ≤ a.block)
section
variable {lo c k j d c' m c3 gg cap : Nat} {A K A' A3 : Option Addr} {L Lk L2 : List NH} {x : NH} {ks : List BT} {w wr w3 : World} {o : Obj}
theorem layM_len (h : LayM lo A c L x ks k j K d w wr A' c' m Lk) : m = L.length + 1 + szK (ks.take k) ∧ (L ++ x :: Lk).length = m := by
  have h1 := congrArg List.length h.2.2.1
  rw [List.length_map, layK_len] at h1
  have h2 := h.1.out
  simp only [List.length_append, List.length_cons] at h2 ⊢
  exact ⟨by omega, by omega⟩
theorem layM_row (hk : j ≤ ks.length) (h : LayM lo A c L x ks k j K d w wr A' c' m Lk) : wr.ownsRow lo 2 1 (.slice K j d) j (icells (kidsAt (L.length + 1) (ks.take j))) := by
  have hkl : (kidsAt (L.length + 1) (ks.take j)).length = j := by rw [kidsAt_len, List.length_take]; omega
  have hi := h.2.2.2.1
  unfold OwnI at hi
  rw [hkl] at hi
  exact hi
theorem layM_apart (hk : j ≤ ks.length) (h : LayM lo A c L x ks k j K d w wr A' c' m Lk) : ∀ b, Value.ownBlock (.slice K j d) = some b → Value.ownBlock (.slice A' m c') ≠ some b ∧ ¬ inRows (L ++ x :: Lk) b := by
  intro b hb
  have hi := layM_row hk h
  have hlm := (layM_len h).2
  obtain ⟨h0, hn, hl, _, hap, hM, hf, ha, hK⟩ := h
  refine ⟨?_, fun ⟨y, hy, a, hya, he⟩ => ?_⟩
  · rw [← hlm]
    exact rows_ne hi hn.1 (by decide) hb
  · rcases hya with hya | hya
    · refine rows_ne hi (hn.2.1 y hy).1 (by decide) (k := b) hb ?_
      rw [hya]; simp [Value.ownBlock, he]
    · cases hKK : K with
      | none => rw [hKK] at hb; cases hb
      | some q =>
        have hq : q.block = b := by rw [hKK] at hb; simpa [Value.ownBlock] using hb
        exact hap y hy a q hya hKK (by rw [he, hq])
/-- One place more. -/
theorem layM_int (hk : k < ks.length) (h : LayM lo A c L x ks k k K d w wr A' c' m Lk)
    (hown : w3.ownsRow lo 2 1 (.slice (some ⟨gg, 0, none⟩) (k + 1) cap) (k + 1) (icells (kidsAt (L.length + 1) (ks.take k)) ++ [.int .i64 m])) (hg : (wr.alloc o).grownBy w3 (Value.ownBlock (.slice K k d))) (hat : Value.ownBlock (.slice K k d) = some gg ∨ gg = wr.heap.size + 1) :
    LayM lo A c L x ks k (k + 1) (some ⟨gg, 0, none⟩) cap w w3 A' c' m Lk := by
  have hKA := layM_apart (Nat.le_of_lt hk) h
  have hi := layM_row (Nat.le_of_lt hk) h
  obtain ⟨hmm, hlm⟩ := layM_len h
  obtain ⟨h0, hn, hl, _, hap, hM, hf, ha, hK⟩ := h
  have hsM := hM.size
  have hba : Below wr.heap.size wr (wr.alloc o) := (Below.refl _ _).alloc (Nat.le_refl _) _
  have hMg : Mod (fun b => Value.ownBlock (.slice K k d) = some b) wr w3 := (Mod.of_below hba).trans (S' := fun b => Value.ownBlock (.slice K k d) = some b) (Mod.of_gr hg (fun b e => e)) (fun _ h _ => h)
  have hnew : ∀ a : Addr, (some ⟨gg, 0, none⟩ : Option Addr) = some a → a.block = gg := fun a e => by injection e with e; rw [← e]
  have hks : kidsAt (L.length + 1) (ks.take (k + 1)) = kidsAt (L.length + 1) (ks.take k) ++ [(m : Int)] := by
    rw [List.take_succ_eq_append_getElem hk, kidsAt_snoc, hmm]
  have hkl5 : (kidsAt (L.length + 1) (ks.take (k + 1))).length = k + 1 := by rw [kidsAt_len, List.length_take]; omega
  have hKge : ∀ b, Value.ownBlock (.slice K k d) = some b → w.heap.size ≤ b := fun b hb => by
    cases hKK : K with
    | none => rw [hKK] at hb; cases hb
    | some q =>
      have hq : q.block = b := by rw [hKK] at hb; simpa [Value.ownBlock] using hb
      rw [← hq]
      exact hK q hKK
  refine ⟨h0, hn.mod hMg (fun q hq e => (hKA q e).1 (by rw [← hlm]; exact hq)) (fun q hq e => (hKA q e).2 hq), hl, ?_, fun y hy => ?_, hM.trans hMg (fun q hq hlt => ?_), hf, ha, fun a e => ?_⟩
  · unfold OwnI
    rw [hkl5, hks]
    simpa [icells] using hown
  · intro a b hya hb e
    rw [hnew b hb] at e
    have hin : inRows (L ++ x :: Lk) gg := ⟨y, hy, a, .inr hya, e⟩
    rcases hat with h' | h'
    · exact (hKA gg h').2 hin
    · have := (inRows_lt' hn hin).2; omega
  · have := hKge q hq; omega
  · rw [hnew a e]
    rcases hat with h' | h'
    · exact hKge gg h'
    · omega
/-- One kid more. -/
theorem layM_kid (hk : k < ks.length) (h : LayM lo A c L x ks k (k + 1) K d w wr A' c' m Lk) (hn3 : NodesO w3 lo A3 c3 ((L ++ x :: Lk) ++ L2)) (hl3 : L2.map NH.nd = layT ks[k] m) (hm3 : Mod (fun b => Value.ownBlock (.slice A' m c') = some b) wr w3) (hf3 : ∀ b, inRows L2 b → wr.heap.size ≤ b)
    {m3 : Nat} (hm : Hid (m3 = ((L ++ x :: Lk) ++ L2).length)) (ha3 : ∀ k, Value.ownBlock (.slice A3 m3 c3) = some k → Value.ownBlock (.slice A' m c') = some k ∨ wr.heap.size ≤ k) :
    LayM lo A c L x ks (k + 1) (k + 1) K d w w3 A3 c3 m3 (Lk ++ L2) := by
  have hKA := layM_apart hk h
  have hi := layM_row hk h
  obtain ⟨hmm, hlm⟩ := layM_len h
  obtain ⟨h0, hn, hl, hoi, hap, hM, hf, ha, hK⟩ := h
  have hsM := hM.size
  have hkl : (kidsAt (L.length + 1) (ks.take (k + 1))).length = k + 1 := by rw [kidsAt_len, List.length_take]; omega
  refine ⟨?_, ?_, ?_, ?_, fun y hy => ?_, hM.trans hm3 (fun q hq hlt => ?_), fun b hb => ?_, fun q hq => ?_, hK⟩
  · have := hm.out
    rw [Hid, this]
    simp
  · simpa using hn3
  · rw [List.take_succ_eq_append_getElem hk, layK_snoc, List.map_append, hl, hl3, hmm]
  · refine ownsRow_mod hoi hm3 fun b hb hs => ?_
    rw [hkl] at hb
    exact (hKA b hb).1 hs
  · have hy' : y ∈ (L ++ x :: Lk) ++ L2 := by simpa using hy
    rcases List.mem_append.1 hy' with hy' | hy'
    · exact hap y hy'
    · intro a b hya hb e
      have h1 := hf3 a.block ⟨y, hy', a, .inr hya, rfl⟩
      have h2 := (hi.lt b.block (by rw [hb]; rfl)).2
      omega
  · rcases ha q hq with h' | h'
    · exact h'
    · omega
  · rw [← List.cons_append] at hb
    rcases inRows_app.1 hb with h' | h'
    · exact hf b h'
    · have := hf3 b h'; omega
  · rcases ha3 q hq with h' | h'
    · exact ha q h'
    · exact .inr (by omega)
end
/-- The first append. -/
theorem layM_start {lo c c1 gg cap gk : Nat} {A A1 : Option Addr} {L : List NH} {ps : PS} {ks : List BT} {w w1 w3 w4 : World} {o : Obj} (ho : NodesO w lo A c L) (hlo : lo ≤ w.heap.size) (hp : OwnP w1 w.heap.size A1 c1 ps) (hb : Below w.heap.size w w1)
    (hown : w3.ownsRow lo 77 2 (.slice (some ⟨gg, 0, none⟩) (L.length + 1) cap) (L.length + 1) (nhc L ++ [.slice A1 ps.length c1, .slice none 0 0])) (hg : (w1.alloc o).grownBy w3 (Value.ownBlock (.slice A L.length c))) (hat : Value.ownBlock (.slice A L.length c) = some gg ∨ gg = w1.heap.size + 1)
    (hb4 : Below w3.heap.size w3 w4) (hk : w4.ownsRow w3.heap.size 2 1 (.slice (some ⟨gk, 0, none⟩) 0 0) 0 []) (hgk : w3.heap.size ≤ gk) :
    LayM lo A c L ⟨A1, c1, ps, none, 0, []⟩ ks 0 0 (some ⟨gk, 0, none⟩) 0 w w4 (some ⟨gg, 0, none⟩) cap (L.length + 1) [] := by
  have hba : Below w1.heap.size w1 (w1.alloc o) := (Below.refl _ _).alloc (Nat.le_refl _) _
  have hb2 : Below w.heap.size w (w1.alloc o) := hb.trans (hba.mono hb.size)
  have hs1 := hb.size
  have hs2 := hba.size
  have hs3 := hg.size
  have ho1 := (ho.below hb2)
  have hp1 : OwnP (w1.alloc o) lo A1 c1 ps := (hp.below hba).mono' hlo
  have hA1 : ∀ a, A1 = some a → w.heap.size ≤ a.block := fun a ha => (own_addr hp a ha).1
  have hpush : NodesO w3 lo (some ⟨gg, 0, none⟩) cap (L ++ [(⟨A1, c1, ps, none, 0, []⟩ : NH)]) := NodesO.push ho1 hp1 (World.ownsRow_nil _ _ _ _) (fun y hy => ⟨apartB_new (n := w.heap.size) (fun a ha => (inRows_lt' ho ⟨y, hy, a, .inl ha, rfl⟩).2) hA1, fun _ _ _ h => by cases h⟩) hown hg
  have hM : Mod (fun b => Value.ownBlock (.slice A L.length c) = some b) w w4 := ((Mod.of_below hb2).trans (S' := fun b => Value.ownBlock (.slice A L.length c) = some b) (Mod.of_gr hg (fun k e => e)) (fun _ h _ => h)).then_below hb4
  refine ⟨by simp [Hid], hpush.below hb4, by simp [layK], ?_, fun y hy a b hya hb' e => ?_, hM, fun b hb' => ?_, fun k hk' => ?_, fun a e => ?_⟩
  · unfold OwnI
    rw [List.take_zero]
    exact own_mono hk (by omega)
  · have e2 : b.block = gk := by injection hb' with hb'; rw [← hb']
    have := (inRows_lt' hpush ⟨y, hy, a, .inr hya, rfl⟩).2
    omega
  · obtain ⟨y, hy, a, hya, rfl⟩ := hb'
    have : y = ⟨A1, c1, ps, none, 0, []⟩ := by simpa using hy
    subst this
    rcases hya with hya | hya
    · exact hA1 a hya
    · cases hya
  · have : gg = k := by simpa [Value.ownBlock] using hk'
    subst this
    rcases hat with h | h
    · exact .inl h
    · exact .inr (by omega)
  · have e2 : a.block = gk := by injection e with e; rw [← e]
    omega
theorem layM_end {lo c c1 c' m d g : Nat} {A A1 K : Option Addr} {L Lk : List NH} {ps : PS} {ks : List BT} {w wr : World} (h : LayM lo A c L ⟨A1, c1, ps, none, 0, []⟩ ks ks.length ks.length K d w wr (some ⟨g, 0, none⟩) c' m Lk) :
    LayO lo A c L (.node ps ks) w (.returned (.slice (some ⟨g, 0, none⟩) m c')) (wr.setCell ⟨g, L.length * 2 + 1, none⟩ (.slice K ks.length d)) := by
  obtain ⟨hmm, hlm⟩ := layM_len h
  obtain ⟨h0, hn, hl, hi, hap, hM, hf, ha, hK⟩ := h
  have e0 : m = (L ++ (⟨A1, c1, ps, none, 0, []⟩ : NH) :: Lk).length := h0.out
  rw [List.take_length] at hl hi
  have hkl : (kidsAt (L.length + 1) ks).length = ks.length := kidsAt_len _ _
  obtain ⟨hs, _⟩ := NodesO.setKids hn hi (fun y hy => hap y (by rcases hy with hy | hy <;> simp [hy]))
  rw [hkl] at hs
  have hlen : (L ++ (⟨A1, c1, ps, K, d, kidsAt (L.length + 1) ks⟩ : NH) :: Lk).length = m := by rw [e0]; simp
  refine ⟨some ⟨g, 0, none⟩, c', m, (⟨A1, c1, ps, K, d, kidsAt (L.length + 1) ks⟩ : NH) :: Lk, rfl, hlen.symm, hs, ?_, ?_, fun b hb => ?_, ha⟩
  · show (ps, kidsAt (L.length + 1) ks) :: Lk.map NH.nd = layT (.node ps ks) L.length
    rw [hl]
    rfl
  · refine hM.set ?_ _ _
    rcases ha g rfl with h' | h'
    · exact .inl h'
    · exact .inr h'
  · obtain ⟨y, hy, a, hya, rfl⟩ := hb
    rcases List.mem_cons.1 hy with e | hy
    · subst e
      rcases hya with hya | hya
      · exact hf _ ⟨⟨A1, c1, ps, none, 0, []⟩, by simp, a, .inl hya, rfl⟩
      · exact hK a hya
    · exact hf _ ⟨y, by simp [hy], a, hya, rfl⟩
end Go.Proofs.Ytcjbjfhndjpmcaa
/-
  The model's l2Out: a tree laid as a list.
-/
namespace Go.Proofs.Ytcjbjfhndjpmcaa
open Go.RowKit

theorem LayO.from_ {lo c : Nat} {A : Option Addr} {L : List NH} {t : BT} {w wb w' : World} {e : Ending} (h : LayO lo A c L t wb e w') (hb : Below w.heap.size w wb) : LayO lo A c L t w e w' := by
  obtain ⟨A', c', m, L2, h1, h2, h3, h4, h5, h6, h7⟩ := h
  have hs := hb.size
  refine ⟨A', c', m, L2, h1, h2, h3, h4, (Mod.of_below hb).trans h5 (fun _ h _ => h), fun b h => by have := h6 b h; omega, fun k h => (h7 k h).imp id (fun h => by omega)⟩

set_option maxHeartbeats 8000000 in
set_option maxRecDepth 100000 in
theorem spec_l2Out (lo : Nat) (S : Nat → Prop) : ∀ (n : Nat) (t : BT) (A : Option Addr) (m c : Nat) (L : List NH) (xA xK : Option Addr) (xc xd : Nat) (w : World), szT t ≤ n → L.length + szT t ≤ 1000 → (allT t).length ≤ 1000 → RT w S xA xK t → (∀ b, S b → b < lo) → Hid (m = L.length) → NodesO w lo A c L → lo ≤ w.heap.size →
    Calls Try.prog 59 #[.slice A m c, .agg #[.slice xA t.ps.length xc, .slice xK t.ks.length xd]] w (LayO lo A c L t w)
  | 0, t, _, _, _, _, _, _, _, _, _, h, _, _, _, _, _, _, _ => by have := szT_pos t; omega
  | n + 1, .node ps ks, A, m, c, L, xA, xK, xc, xd, w, hn, hlen, hsm, hr, hS, hmL, hno, hlo => by
    obtain ⟨i0, hi0, hz0, hz1, hz2⟩ := info_parts nodeInfo'
    obtain ⟨j0, hj0, hy0, hy1, hy2⟩ := info_parts int64Info
    simp only [BT.ps, BT.ks]
    have hkl : ks.length ≤ 1000 := by have := kids_len ks; simp only [szT] at hlen; omega
    have hpl : ps.length ≤ 1000 ∧ (allK ks).length ≤ 1000 := by simp only [allT, List.length_append] at hsm; omega
    obtain ⟨hpl, hal⟩ := hpl
    have HAL : Hid (∀ k (hk : k < ks.length), (allT ks[k]).length ≤ 1000) := fun k hk => by have := allK_at hk; omega
    clear hal
    have hszk : L.length + 1 + szK ks ≤ 1000 := by simp only [szT] at hlen; omega
    obtain rfl : m = L.length := hmL.out
    have HR := hid hr
    have HS := hid hS
    have HN0 := hid hno
    have IH := hid (spec_l2Out lo S n)
    have HSK : Hid (∀ k (hk : k < ks.length), szT ks[k] ≤ n) := fun k hk => by have := sz_kid (ps := ps) hk; omega
    have HOL : Hid (∀ k, Value.ownBlock (.slice A L.length c) = some k → lo ≤ k ∧ k < w.heap.size) := fun k hk => hno.1.lt k hk
    clear hn hsm hr hS hmL hno hlen
    go_enter Try.func59, Try.ntmps59
    go_wp2_with fail
    obtain ⟨wb, hwb⟩ : ∃ wb, wb = w.alloc (.cells #[.slice xA ps.length xc, .slice xK ks.length xd] 67) := ⟨_, rfl⟩
    rw [← hwb]
    have HBB : Hid (Below w.heap.size w wb) := by rw [hwb]; exact (Below.refl _ _).alloc (Nat.le_refl _) _
    have hsb : wb.heap.size = w.heap.size + 1 := by rw [hwb]; simp
    have HXC : Hid (∀ W : World, Mod (fun b => Value.ownBlock (.slice A L.length c) = some b) wb W → W.cell? ⟨w.heap.size, 1, none⟩ = some (.slice xK ks.length xd)) := fun W hW => by
      have h1 : W.heap[w.heap.size]? = wb.heap[w.heap.size]? := hW.block _ (by omega) (fun e => by have := (HOL.out _ e).2; omega)
      have h2 : wb.heap[w.heap.size]? = some (.cells #[.slice xA ps.length xc, .slice xK ks.length xd] 67 (0, 0)) := by rw [hwb]; exact heap_alloc_new w _
      simp [World.cell?, h1, h2]
    have HBL : Hid (∀ W : World, Mod (fun b => Value.ownBlock (.slice A L.length c) = some b) wb W → Below lo w W) := fun W hW => (HBB.out.mono hlo).trans (hW.below (fun k hk => (HOL.out k hk).1) (by omega))
    have HN := hid (HN0.out.below HBB.out)
    clear hwb
    refine (spec_l1CopyMap xA xc ps wb (((HR.out.pairs.rp HS.out).below (HBB.out.mono hlo)).more (by omega)) (by omega)).mono ?_
    rintro e w1 ⟨A1, c1, rfl, ho1, hb1⟩
    have HO1 := hid ho1
    have HB1 := hid hb1
    have HN1 := hid (HN.out.below hb1)
    have hs1 := hb1.size
    clear ho1 hb1
    go_wp2_with (at_builtin; refine wpList_append_lies _ rfl _ _ _ rfl lo 77 i0 _ 2 48 Try.underlying24 hi0 hz0 hz1 hz2 rfl (by omega) (.slice A L.length c) L.length (nhc L) rfl (HN1.out.1.alloc _) ⟨w1.heap.size, 0, none⟩ 1 1 [.slice A1 ps.length c1, .slice none 0 0] rfl rfl (World.news_of_block (cs := #[.slice A1 ps.length c1, .slice none 0 0]) (t := 77) (fr := (0, 0)) (heap_alloc_new w1 _)) (by simp [Value.oneCell']) (by omega) (by unfold maxLen; omega) (by omega) (by simp; omega) (w1.heap.size + 1) (by simp) ?_; intro gg cap w3 hown3 hgrow3 hat3 hlt3; have HO3 := hid hown3; have HG3 := hid hgrow3; have HA3 := hid hat3; clear hown3 hgrow3 hat3)
    have HST := hid (layM_start (ks := ks) (gk := w3.heap.size) HN.out (by omega) HO1.out HB1.out HO3.out HG3.out HA3.out ((Below.refl w3.heap.size w3).alloc (Nat.le_refl _) (.cells #[] 2)) (World.ownsRow_made w3 #[] 0 (Nat.le_refl _) (by unfold maxLen; omega) rfl) (Nat.le_refl _))
    go_loopw [0, 6, 7] (fun v0 v6 v7 wr => ∃ (k : Nat) (A2 : Option Addr) (c2 m2 : Nat) (Lk : List NH) (K2 : Option Addr) (d2 : Nat), k ≤ ks.length ∧ v0 = .slice A2 m2 c2 ∧ v6 = .slice K2 k d2 ∧ v7 = .int .i64 k ∧ Hid (LayM lo A c L ⟨A1, c1, ps, none, 0, []⟩ ks k k K2 d2 wb wr A2 c2 m2 Lk)) (fun _ _ v7 _ => ks.length - (intOf v7).toNat)
    case atStart => exact ⟨0, _, _, _, [], _, _, Nat.zero_le _, rfl, rfl, rfl, HST.out⟩
    case round =>
      obtain ⟨k, A2, c2, m2, Lk, K2, d2, hk, rfl, rfl, rfl, HL⟩ := hrel
      have hmod := HL.out.2.2.2.2.2.1
      have x1 := HXC.out _ hmod
      have hbl := HBL.out _ hmod
      have hrs := hmod.size
      have hml := (layM_len HL.out)
      have hszm := hml.1
      have HLM := hid hml.2
      have hm2 : m2 ≤ 1001 := by
        have h1 : szK (ks.take k) ≤ szK ks := by
          by_cases h : k < ks.length
          · have := szK_cut h; omega
          · rw [List.take_of_length_le (by omega)]; exact Nat.le_refl _
        omega
      clear hmod hml
      by_cases hlt : k < ks.length
      · obtain ⟨b', off', A3, K3, c3, d3, rfl, hb2, hc1, hc2, hk2⟩ := HR.out.kid hlt
        have hbz := HS.out b' hb2
        have HC1 : Hid (∀ W : World, Mod (fun b => Value.ownBlock (.slice A L.length c) = some b) wb W → W.cell? ⟨b', off' + k * 2, none⟩ = some (.slice A3 ks[k].ps.length c3) ∧ W.cell? ⟨b', off' + k * 2 + 1, none⟩ = some (.slice K3 ks[k].ks.length d3)) := fun W hW => ⟨((HBL.out W hW).cell (p := ⟨b', off' + k * 2, none⟩) hbz).trans hc1, ((HBL.out W hW).cell (p := ⟨b', off' + k * 2 + 1, none⟩) hbz).trans hc2⟩
        have HRK : Hid (∀ W : World, Mod (fun b => Value.ownBlock (.slice A L.length c) = some b) wb W → RT W S A3 K3 ks[k]) := fun W hW => hk2.keep (fun b h => (HBL.out W hW).block b (HS.out b h)) (fun _ h => h)
        have e5 : (0 : Int) ≤ (k : Int) := by omega
        have e6 : (k : Int) < (ks.length : Int) := by omega
        have hszc : szK ks = szK (ks.take k) + (szT ks[k] + szK (ks.drop (k + 1))) := szK_cut hlt
        have hcl : m2 + szT ks[k] ≤ 1000 := by omega
        have HROW := hid (layM_row (Nat.le_of_lt hlt) HL.out)
        have hlow : lo ≤ wr.heap.size := by omega
        clear hc1 hc2 hk2 hszc hbl hszm
        go_wp2_with (first
          | (at_builtin; refine wpList_append_lies _ rfl _ _ _ rfl lo 2 j0 _ 1 8 Try.underlying75 hj0 hy0 hy1 hy2 rfl (by omega) (.slice K2 k d2) k (icells (kidsAt (L.length + 1) (ks.take k))) rfl (HROW.out.alloc _) ⟨wr.heap.size, 0, none⟩ 1 1 [.int .i64 (m2 : Int)] rfl rfl (World.news_of_block (cs := #[.int .i64 (m2 : Int)]) (t := 2) (fr := (0, 0)) (heap_alloc_new wr _)) (by simp [Value.oneCell']) (by omega) (by unfold maxLen; omega) (by omega) (by simp; omega) (wr.heap.size + 1) (by simp) ?_; intro gg5 cap5 w5 hown hgrow hat hlt5; have HLI := hid (layM_int hlt HL.out hown hgrow hat); have x5 := HXC.out w5 HLI.out.2.2.2.2.2.1; obtain ⟨y5, z5⟩ := HC1.out w5 HLI.out.2.2.2.2.2.1; clear hown hgrow hat)
          | (go_at_call 59; refine (IH.out ks[k] A2 m2 c2 (L ++ (⟨A1, c1, ps, none, 0, []⟩ : NH) :: Lk) A3 K3 c3 d3 w5 (HSK.out k hlt) (by rw [HLM.out]; omega) (HAL.out k hlt) (HRK.out w5 HLI.out.2.2.2.2.2.1) HS.out HLM.out.symm HLI.out.2.1 (by have := HLI.out.2.2.2.2.2.1.size; omega)).mono ?_; rintro e w6 ⟨A6, c6, m6, L6, rfl, hm6, hn6, hl6, hM6, hf6, ha6⟩))
        rw [HLM.out] at hM6 ha6 hl6
        have HFIN := hid (layM_kid hlt HLI.out hn6 hl6 hM6 hf6 hm6 ha6)
        clear hm6 hn6 hl6 hM6 hf6 ha6
        go_roundw
        case rel => exact ⟨k + 1, A6, c6, m6, Lk ++ L6, some ⟨gg5, 0, none⟩, cap5, by omega, rfl, rfl, by go_num, HFIN.out⟩
        case measure => simp [intOf]; omega
      · obtain rfl : k = ks.length := by omega
        have hno := HL.out.2.1
        obtain ⟨g', rfl⟩ : ∃ g', A2 = some ⟨g', 0, none⟩ := by
          rcases hno.1.2 with ⟨_, h0⟩ | ⟨g', cap, cur, hv, _⟩
          · simp at h0
          · injection hv with e1 _ _
            exact ⟨g', e1⟩
        have e5 : (0 : Int) ≤ (L.length : Int) := by omega
        have e6 : (L.length : Int) < (m2 : Int) := by omega
        have e7 : ¬ (ks.length : Int) < (ks.length : Int) := by omega
        have hg' := (hno.1.lt g' rfl)
        have f2 := hno.1.frozenAt (L.length * 2 + 1)
        obtain ⟨u, hu⟩ : ∃ u, wr.cell? ⟨g', L.length * 2 + 1, none⟩ = some u := by
          have := hno.1.1
          have h2 : (L ++ (⟨A1, c1, ps, none, 0, []⟩ : NH) :: Lk).length = m2 := HLM.out
          exact ⟨_, (hno.1.cellAt (L.length * 2 + 1) (by omega)).trans (List.getElem?_eq_getElem (by omega))⟩
        have HFIN := hid ((layM_end HL.out).from_ HBB.out)
        clear hno hbl hszm
        go_wp2_with fail
        go_ret
        exact HFIN.out
end Go.Proofs.Ytcjbjfhndjpmcaa
