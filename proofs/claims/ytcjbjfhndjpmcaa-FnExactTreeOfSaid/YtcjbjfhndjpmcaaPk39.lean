import Derived.Test.YtcjbjfhndjpmcaaPk38
import Derived.Test.YtcjbjfhndjpmcaaPk37
/-
  toNodeS gives nodes of the call's own, no two lists of which lie in one row.
-/
namespace Go.Proofs.Ytcjbjfhndjpmcaa
open Go.RowKit

theorem take_two (xs : List Value) (k : Nat) (a b : Value) (h : k * 2 + 1 < xs.length) : ((xs.set (k * 2) a).set (k * 2 + 1) b).take ((k + 1) * 2) = xs.take (k * 2) ++ [a, b] := by
  apply List.ext_getElem?
  intro i
  rw [List.getElem?_take]
  have hl : (xs.take (k * 2)).length = k * 2 := by rw [List.length_take]; omega
  by_cases h1 : i < k * 2
  · rw [if_pos (by omega), List.getElem?_append_left (by omega), List.getElem?_set_ne (by omega), List.getElem?_set_ne (by omega), List.getElem?_take, if_pos h1]
  · by_cases h2 : i = k * 2
    · subst h2
      rw [if_pos (by omega), List.getElem?_append_right (by omega), hl, List.getElem?_set_ne (by omega), List.getElem?_set_self (by omega)]
      simp
    · by_cases h3 : i = k * 2 + 1
      · subst h3
        rw [if_pos (by omega), List.getElem?_append_right (by omega), hl, List.getElem?_set_self (by simp; omega)]
        simp [show k * 2 + 1 - k * 2 = 1 by omega]
      · rw [if_neg (by omega), List.getElem?_eq_none (by simp; omega)]

/-- The new row, filled up to k, and where its lists lie. -/
def FilledO (wr : World) (g : Nat) (ns : List ND) (k : Nat) : Prop :=
  ∃ (xs : List Value) (L : List NH), wr.ownsRow g 77 2 (.slice (some ⟨g, 0, none⟩) ns.length ns.length) ns.length xs ∧ L.map NH.nd = ns.take k ∧ xs.take (k * 2) = nhc L ∧
    (∀ x ∈ L, OwnP wr (g + 1) x.A x.c x.ps ∧ OwnI wr (g + 1) x.K x.d x.ks) ∧ L.Pairwise NH.apart
theorem FilledO.start {wr : World} {g : Nat} {ns : List ND} {xs : List Value} (h : wr.ownsRow g 77 2 (.slice (some ⟨g, 0, none⟩) ns.length ns.length) ns.length xs) : FilledO wr g ns 0 :=
  ⟨xs, [], h, rfl, rfl, fun _ hx => absurd hx (by simp), List.Pairwise.nil⟩
theorem FilledO.cells {wr : World} {g : Nat} {ns : List ND} {k : Nat} (h : FilledO wr g ns k) (hk : k < ns.length) : ∃ u v, wr.cell? ⟨g, k * 2, none⟩ = some u ∧ wr.cell? ⟨g, k * 2 + 1, none⟩ = some v := by
  obtain ⟨xs, L, ho, _⟩ := h
  have hl := ho.1
  refine ⟨_, _, (ho.cellAt (k * 2) (by omega)).trans (List.getElem?_eq_getElem (by omega)), (ho.cellAt (k * 2 + 1) (by omega)).trans (List.getElem?_eq_getElem (by omega))⟩
theorem FilledO.frozen {wr : World} {g : Nat} {ns : List ND} {k : Nat} (h : FilledO wr g ns k) (j : Nat) : wr.frozen? ⟨g, j, none⟩ = false := by
  obtain ⟨xs, L, ho, _⟩ := h
  exact ho.frozenAt j
theorem FilledO.lt {wr : World} {g : Nat} {ns : List ND} {k : Nat} (h : FilledO wr g ns k) : g < wr.heap.size := by
  obtain ⟨xs, L, ho, _⟩ := h
  exact (ho.lt g rfl).2
theorem FilledO.down {wr w' : World} {g : Nat} {ns : List ND} {k : Nat} (h : FilledO wr g ns k) (hb : Below wr.heap.size wr w') : FilledO w' g ns k := by
  obtain ⟨xs, L, ho, h1, h2, h3, h4⟩ := h
  exact ⟨xs, L, ho.kept (below_grown hb) (.inr (by simp [Value.ownBlock])), h1, h2, fun x hx => ⟨(h3 x hx).1.below hb, (h3 x hx).2.below hb⟩, h4⟩
/-- A row older than every row from block B on. -/
theorem apart_new {w w' : World} {B C : Nat} {e : TypeId} {s n n' : Nat} {c c' : Nat} {xs xs' : List Value} {A A' : Option Addr} (h : w.ownsRow B e s (.slice A n c) n xs) (h' : w'.ownsRow C e s (.slice A' n' c') n' xs') (hC : w.heap.size ≤ C) : apartB A A' := by
  intro x y hx hy he
  subst hx hy
  have h1 := (h.lt x.block rfl).2
  have h2 := (h'.lt y.block rfl).1
  omega
theorem FilledO.store {w0 wr : World} {g : Nat} {ns : List ND} {k : Nat} (h0 : FilledO w0 g ns k) (hb : Below w0.heap.size w0 wr) (hk : k < ns.length) {A K : Option Addr} {c d : Nat} (hp : OwnP wr w0.heap.size A c ns[k].1) (hi : OwnI wr w0.heap.size K d ns[k].2) :
    FilledO ((wr.setCell ⟨g, k * 2, none⟩ (.slice A ns[k].1.length c)).setCell ⟨g, k * 2 + 1, none⟩ (.slice K ns[k].2.length d)) g ns (k + 1) := by
  have hg := h0.lt
  obtain ⟨xs, L, ho, h1, h2, h3, h4⟩ := h0
  have ho' := ho.kept (below_grown hb) (.inr (by simp [Value.ownBlock]))
  have hl := ho.1
  refine ⟨_, L ++ [⟨A, c, ns[k].1, K, d, ns[k].2⟩], ((ho'.stored (k * 2) (.slice A ns[k].1.length c)).1.stored (k * 2 + 1) (.slice K ns[k].2.length d)).1, ?_, ?_, ?_, ?_⟩
  · rw [List.map_append, h1, List.take_succ_eq_append_getElem hk]
    rfl
  · rw [take_two xs k _ _ (by omega), h2, nhc_append]
    rfl
  · intro x hx
    rcases List.mem_append.1 hx with hx | hx
    · exact ⟨own_set (own_set ((h3 x hx).1.below hb) (by omega) _) (by omega) _, own_set (own_set ((h3 x hx).2.below hb) (by omega) _) (by omega) _⟩
    · rw [List.mem_singleton] at hx
      subst hx
      exact ⟨own_set (own_set (hp.mono' (by omega)) (by omega) _) (by omega) _, own_set (own_set (hi.mono (by omega)) (by omega) _) (by omega) _⟩
  · rw [List.pairwise_append]
    refine ⟨h4, by simp, fun x hx y hy => ?_⟩
    rw [List.mem_singleton] at hy
    subst hy
    exact ⟨apart_new (h3 x hx).1 hp (Nat.le_refl _), apart_new (h3 x hx).2 hi (Nat.le_refl _)⟩
theorem FilledO.own {wr : World} {g : Nat} {ns : List ND} (h : FilledO wr g ns ns.length) : ∃ L : List NH, L.map NH.nd = ns ∧ NodesO wr g (some ⟨g, 0, none⟩) ns.length L := by
  obtain ⟨xs, L, ho, h1, h2, h3, h4⟩ := h
  rw [List.take_length] at h1
  have hl : L.length = ns.length := by rw [← h1, List.length_map]
  have hx : xs = nhc L := by rw [← h2, List.take_of_length_le (by have := ho.1; omega)]
  subst hx
  refine ⟨L, h1, ?_, fun x hx => ⟨(h3 x hx).1.mono' (by omega), (h3 x hx).2.mono (by omega)⟩, h4⟩
  rw [hl]
  exact ho
def MadeO (w : World) (ns : List ND) (e : Ending) (w' : World) : Prop := ∃ (g : Nat) (L : List NH), e = .returned (.slice (some ⟨g, 0, none⟩) ns.length ns.length) ∧ L.map NH.nd = ns ∧ w.heap.size ≤ g ∧ NodesO w' g (some ⟨g, 0, none⟩) ns.length L ∧ Below w.heap.size w w'

set_option maxHeartbeats 1000000 in
set_option maxRecDepth 100000 in
theorem toNodeS_own (A : Option Addr) (c : Nat) (ns : List ND) (w : World) (hr : RN w w.heap.size A ns) (hn : ns.length ≤ 1048576) (hs : SmallN ns) :
    Calls Try.prog 24 #[.slice A ns.length c] w (MadeO w ns) := by
  obtain ⟨i0, hi, hz0, hz1, hz2⟩ := info_parts nodeInfo
  have HSM := hid hs
  clear hs
  go_enter Try.func24, Try.ntmps24
  go_wp2_with (at_make; refine wpList_make_full _ rfl _ _ 24 rfl w.heap.size 77 i0 _ 2 Try.underlying24 hi hz0 hz1 _ _ _ _ ns.length rfl rfl rfl rfl (by rw [hz2]; omega) (by unfold maxLen; omega) (Nat.le_refl _) ?_; intro w1 hown1 hg1)
  have hb1 : Below w.heap.size w w1 := (Below.refl _ _).grown hg1 (Nat.le_refl _) (by simp)
  have HO := hid hown1
  have HB := hid hb1
  clear hown1 hg1 hb1
  go_wp2_with fail
  go_loopw [4] (fun i wr => ∃ k : Nat, k ≤ ns.length ∧ i = .int .i64 k ∧ FilledO wr w.heap.size ns k ∧ Below w.heap.size w wr) (fun i _ => ns.length - (intOf i).toNat)
  case atStart => exact ⟨0, Nat.zero_le _, rfl, FilledO.start HO.out, HB.out⟩
  case round =>
    obtain ⟨k, hk, rfl, hfl, hbw⟩ := hrel
    by_cases hlt : k < ns.length
    · obtain ⟨b, off, A', K', c', d', rfl, hb, hc1, hc2, hrp, hri⟩ := (hr.below hbw).at_ hlt
      have HF := hid hfl
      have HD := hid hbw
      have HP := hid (hrp.more hbw.size)
      have HI := hid (hri.more hbw.size)
      have hlt0 : w.heap.size < wr.heap.size := hfl.lt
      clear hfl hbw hr hrp hri
      go_wp2_with (go_at_call 75; refine (toNode_any A' c' ns[k].1 K' d' ns[k].2 _ HP.out (HSM.out k hlt).1 HI.out (HSM.out k hlt).2).mono ?_; rintro e w' ⟨A2, c2, K2, d2, rfl, hp2, hi2, hw⟩; have HF2 := hid (HF.out.down hw); obtain ⟨u, v, hu, hv⟩ := HF2.out.cells hlt; have f1 := HF2.out.frozen (k * 2); have f2 := HF2.out.frozen (k * 2 + 1); have HP2 := hid hp2; have HI2 := hid hi2; have HW := hid hw; clear hp2 hi2)
      refine ⟨⟨k + 1, by omega, by go_num, HF.out.store HW.out hlt HP2.out HI2.out, ?_⟩, by simp [intOf]; omega⟩
      exact ((HD.out.trans (hw.mono HD.out.size)).setCell (by simp) _).setCell (by simp) _
    · obtain rfl : k = ns.length := by omega
      have HF := hid hfl
      have HD := hid hbw
      clear hfl hbw hr
      go_wp2_with fail
      go_ret
      obtain ⟨L, h1, h2⟩ := HF.out.own
      exact ⟨_, L, rfl, h1, Nat.le_refl _, h2, HD.out⟩
end Go.Proofs.Ytcjbjfhndjpmcaa
/-
  Lists of nodes that grow: one node more, one node's kids set.
-/
namespace Go.Proofs.Ytcjbjfhndjpmcaa
open Go.RowKit

theorem layK_snoc : ∀ (a : List BT) (t : BT) (n : Nat), layK (a ++ [t]) n = layK a n ++ layT t (n + szK a)
  | [], t, n => by simp [layK, szK]
  | x :: r, t, n => by simp [layK, szK, layK_snoc r, Nat.add_assoc]
theorem kidsAt_snoc : ∀ (a : List BT) (t : BT) (n : Nat), kidsAt n (a ++ [t]) = kidsAt n a ++ [((n + szK a : Nat) : Int)]
  | [], t, n => by simp [kidsAt, szK]
  | x :: r, t, n => by simp [kidsAt, szK, kidsAt_snoc r, Nat.add_assoc]
theorem kidsAt_len : ∀ (a : List BT) (n : Nat), (kidsAt n a).length = a.length
  | [], _ => rfl
  | x :: r, n => by simp [kidsAt, kidsAt_len r]
theorem inRows_app {L M : List NH} {b : Nat} : inRows (L ++ M) b ↔ inRows L b ∨ inRows M b := by
  simp only [inRows, List.mem_append]
  constructor
  · rintro ⟨x, hx | hx, h⟩
    · exact .inl ⟨x, hx, h⟩
    · exact .inr ⟨x, hx, h⟩
  · rintro (⟨x, hx, h⟩ | ⟨x, hx, h⟩)
    · exact ⟨x, .inl hx, h⟩
    · exact ⟨x, .inr hx, h⟩
theorem own_in {L : List NH} {x : NH} (hx : x ∈ L) {n c k : Nat} (h : Value.ownBlock (.slice x.A n c) = some k ∨ Value.ownBlock (.slice x.K n c) = some k) : inRows L k := by
  rcases h with h | h
  · cases hA : x.A with
    | none => rw [hA] at h; cases h
    | some a => rw [hA] at h; exact ⟨x, hx, a, .inl hA, by simpa [Value.ownBlock] using h⟩
  · cases hA : x.K with
    | none => rw [hA] at h; cases h
    | some a => rw [hA] at h; exact ⟨x, hx, a, .inr hA, by simpa [Value.ownBlock] using h⟩
theorem ownsRow_mod {w w' : World} {S : Nat → Prop} {B : Nat} {e : TypeId} {size n : Nat} {v : Value} {xs : List Value} (h : w.ownsRow B e size v n xs) (hm : Mod S w w') (hS : ∀ k, v.ownBlock = some k → ¬ S k) : w'.ownsRow B e size v n xs :=
  ownsRow_keep h fun k hk => hm.block k (h.lt k hk).2 (hS k hk)
/-- Other blocks are turned. -/
theorem NodesO.mod {w w' : World} {S : Nat → Prop} {B c : Nat} {A : Option Addr} {L : List NH} (h : NodesO w B A c L) (hm : Mod S w w') (h1 : ∀ k, Value.ownBlock (.slice A L.length c) = some k → ¬ S k) (h2 : ∀ k, inRows L k → ¬ S k) : NodesO w' B A c L :=
  ⟨ownsRow_mod h.1 hm h1, fun x hx => ⟨ownsRow_mod (h.2.1 x hx).1 hm fun k hk => h2 k (own_in hx (.inl hk)), ownsRow_mod (h.2.1 x hx).2 hm fun k hk => h2 k (own_in hx (.inr hk))⟩, h.2.2⟩
/-- One node more. -/
theorem NodesO.push {w w' : World} {B c c' : Nat} {A A' : Option Addr} {L : List NH} {x : NH} (h : NodesO w B A c L) (hp : OwnP w B x.A x.c x.ps) (hi : OwnI w B x.K x.d x.ks) (hap : ∀ y ∈ L, y.apart x)
    (hown : w'.ownsRow B 77 2 (.slice A' (L.length + 1) c') (L.length + 1) (nhc L ++ [.slice x.A x.ps.length x.c, .slice x.K x.ks.length x.d])) (hg : w.grownBy w' (Value.ownBlock (.slice A L.length c))) : NodesO w' B A' c' (L ++ [x]) := by
  obtain ⟨h1, h2, h3⟩ := h
  refine ⟨?_, fun y hy => ?_, ?_⟩
  · rw [List.length_append, nhc_append]
    exact hown
  · have hy' : OwnP w B y.A y.c y.ps ∧ OwnI w B y.K y.d y.ks := by
      rcases List.mem_append.1 hy with hy | hy
      · exact h2 y hy
      · have : y = x := by simpa using hy
        subst this
        exact ⟨hp, hi⟩
    exact ⟨row_other hy'.1 h1 (by decide) hg, row_other hy'.2 h1 (by decide) hg⟩
  · rw [List.pairwise_append]
    exact ⟨h3, List.pairwise_singleton _ _, fun y hy z hz => by
      have : z = x := by simpa using hz
      subst this
      exact hap y hy⟩
/-- The kids of one node are set. -/
theorem NodesO.setKids {w : World} {B c g d : Nat} {L M : List NH} {x : NH} {K : Option Addr} {ks : List Int} (h : NodesO w B (some ⟨g, 0, none⟩) c (L ++ x :: M)) (hi : OwnI w B K d ks) (hap : ∀ y, (y ∈ L ∨ y ∈ M) → apartB y.K K) :
    NodesO (w.setCell ⟨g, L.length * 2 + 1, none⟩ (.slice K ks.length d)) B (some ⟨g, 0, none⟩) c (L ++ { x with K := K, d := d, ks := ks } :: M) ∧ w.grownBy (w.setCell ⟨g, L.length * 2 + 1, none⟩ (.slice K ks.length d)) (some g) := by
  obtain ⟨h1, h2, h3⟩ := h
  have hst := World.ownsRow.stored h1 (L.length * 2 + 1) (.slice K ks.length d)
  have hlen : (L ++ { x with K := K, d := d, ks := ks } :: M).length = (L ++ x :: M).length := by simp
  refine ⟨⟨?_, fun y hy => ?_, ?_⟩, hst.2⟩
  · rw [hlen]
    have e : (nhc (L ++ x :: M)).set (L.length * 2 + 1) (.slice K ks.length d) = nhc (L ++ { x with K := K, d := d, ks := ks } :: M) := by
      simp only [nhc_append, nhc]
      rw [List.set_append_right _ _ (by rw [nhc_length]; omega), nhc_length, show L.length * 2 + 1 - L.length * 2 = 1 by omega]
      rfl
    rw [← e]
    exact hst.1
  · have hk : ∀ y, y ∈ L ++ x :: M → OwnP (w.setCell ⟨g, L.length * 2 + 1, none⟩ (.slice K ks.length d)) B y.A y.c y.ps ∧ OwnI (w.setCell ⟨g, L.length * 2 + 1, none⟩ (.slice K ks.length d)) B y.K y.d y.ks := fun y hy =>
      ⟨row_other (h2 y hy).1 h1 (by decide) hst.2, row_other (h2 y hy).2 h1 (by decide) hst.2⟩
    rcases List.mem_append.1 hy with hy | hy
    · exact hk y (by simp [hy])
    · rcases List.mem_cons.1 hy with rfl | hy
      · exact ⟨(hk x (by simp)).1, row_other hi h1 (by decide) hst.2⟩
      · exact hk y (by simp [hy])
  · rw [List.pairwise_append, List.pairwise_cons] at h3 ⊢
    obtain ⟨p1, ⟨p2, p3⟩, p4⟩ := h3
    refine ⟨p1, ⟨fun y hy => ⟨(p2 y hy).1, (hap y (.inr hy)).symm⟩, p3⟩, fun y hy z hz => ?_⟩
    rcases List.mem_cons.1 hz with rfl | hz
    · exact ⟨(p4 y hy x (by simp)).1, hap y (.inl hy)⟩
    · exact p4 y hy z (by simp [hz])
theorem apartB_new {A B : Option Addr} {n : Nat} (h1 : ∀ a, A = some a → a.block < n) (h2 : ∀ a, B = some a → n ≤ a.block) : apartB A B := fun x y hx hy e => by
  have := h1 x hx
  have := h2 y hy
  omega
theorem own_addr {w : World} {B : Nat} {e : TypeId} {size n c : Nat} {A : Option Addr} {xs : List Value} (h : w.ownsRow B e size (.slice A n c) n xs) : ∀ a, A = some a → B ≤ a.block ∧ a.block < w.heap.size := fun a ha => by
  subst ha
  exact h.lt a.block rfl
theorem inRows_lt' {w : World} {B c : Nat} {A : Option Addr} {L : List NH} (h : NodesO w B A c L) {b : Nat} (hb : inRows L b) : B ≤ b ∧ b < w.heap.size := inRows_lt h hb
end Go.Proofs.Ytcjbjfhndjpmcaa
