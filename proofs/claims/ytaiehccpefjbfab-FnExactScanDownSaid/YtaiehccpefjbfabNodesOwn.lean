/-
  toNodeS gives nodes of the call's own, no two lists of which lie in one row.
-/
import Derived.Test.YtaiehccpefjbfabNodeMarks
namespace Go.Proofs.Ytaiehccpefjbfab
open Go.RowKit

theorem take_two (xs : List Value) (k : Nat) (a b : Value) (h : k * 2 + 1 < xs.length) : ((xs.set (k * 2) a).set (k * 2 + 1) b).take ((k + 1) * 2) = xs.take (k * 2) ++ [a, b] := by
  apply List.ext_getElem?
  intro i
  rw [List.getElem?_take]
  have hl : (xs.take (k * 2)).length = k * 2 := by rw [List.length_take]; omega
  by_cases h1 : i < k * 2
  · rw [if_pos (by omega), List.getElem?_append_left (by omega), List.getElem?_set_ne (by omega), List.getElem?_set_ne (by omega), List.getElem?_take, if_pos h1]
  · by_cases h2 : i = k * 2
    · subst h2
      rw [if_pos (by omega), List.getElem?_append_right (by omega), hl, List.getElem?_set_ne (by omega), List.getElem?_set_self (by omega)]
      simp
    · by_cases h3 : i = k * 2 + 1
      · subst h3
        rw [if_pos (by omega), List.getElem?_append_right (by omega), hl, List.getElem?_set_self (by simp; omega)]
        simp [show k * 2 + 1 - k * 2 = 1 by omega]
      · rw [if_neg (by omega), List.getElem?_eq_none (by simp; omega)]

/-- The new row, filled up to k, and where its lists lie. -/
def FilledO (wr : World) (g : Nat) (ns : List ND) (k : Nat) : Prop :=
  ∃ (xs : List Value) (L : List NH), wr.ownsRow g 54 2 (.slice (some ⟨g, 0, none⟩) ns.length ns.length) ns.length xs ∧ L.map NH.nd = ns.take k ∧ xs.take (k * 2) = nhc L ∧
    (∀ x ∈ L, OwnP wr (g + 1) x.A x.c x.ps ∧ OwnI wr (g + 1) x.K x.d x.ks) ∧ L.Pairwise NH.apart
theorem FilledO.start {wr : World} {g : Nat} {ns : List ND} {xs : List Value} (h : wr.ownsRow g 54 2 (.slice (some ⟨g, 0, none⟩) ns.length ns.length) ns.length xs) : FilledO wr g ns 0 :=
  ⟨xs, [], h, rfl, rfl, fun _ hx => absurd hx (by simp), List.Pairwise.nil⟩
theorem FilledO.cells {wr : World} {g : Nat} {ns : List ND} {k : Nat} (h : FilledO wr g ns k) (hk : k < ns.length) : ∃ u v, wr.cell? ⟨g, k * 2, none⟩ = some u ∧ wr.cell? ⟨g, k * 2 + 1, none⟩ = some v := by
  obtain ⟨xs, L, ho, _⟩ := h
  have hl := ho.1
  refine ⟨_, _, (ho.cellAt (k * 2) (by omega)).trans (List.getElem?_eq_getElem (by omega)), (ho.cellAt (k * 2 + 1) (by omega)).trans (List.getElem?_eq_getElem (by omega))⟩
theorem FilledO.frozen {wr : World} {g : Nat} {ns : List ND} {k : Nat} (h : FilledO wr g ns k) (j : Nat) : wr.frozen? ⟨g, j, none⟩ = false := by
  obtain ⟨xs, L, ho, _⟩ := h
  exact ho.frozenAt j
theorem FilledO.lt {wr : World} {g : Nat} {ns : List ND} {k : Nat} (h : FilledO wr g ns k) : g < wr.heap.size := by
  obtain ⟨xs, L, ho, _⟩ := h
  exact (ho.lt g rfl).2
theorem FilledO.down {wr w' : World} {g : Nat} {ns : List ND} {k : Nat} (h : FilledO wr g ns k) (hb : Below wr.heap.size wr w') : FilledO w' g ns k := by
  obtain ⟨xs, L, ho, h1, h2, h3, h4⟩ := h
  exact ⟨xs, L, ho.kept (below_grown hb) (.inr (by simp [Value.ownBlock])), h1, h2, fun x hx => ⟨(h3 x hx).1.below hb, (h3 x hx).2.below hb⟩, h4⟩
/-- A row older than every row from block B on. -/
theorem apart_new {w w' : World} {B C : Nat} {e : TypeId} {s n n' : Nat} {c c' : Nat} {xs xs' : List Value} {A A' : Option Addr} (h : w.ownsRow B e s (.slice A n c) n xs) (h' : w'.ownsRow C e s (.slice A' n' c') n' xs') (hC : w.heap.size ≤ C) : apartB A A' := by
  intro x y hx hy he
  subst hx hy
  have h1 := (h.lt x.block rfl).2
  have h2 := (h'.lt y.block rfl).1
  omega
theorem FilledO.store {w0 wr : World} {g : Nat} {ns : List ND} {k : Nat} (h0 : FilledO w0 g ns k) (hb : Below w0.heap.size w0 wr) (hk : k < ns.length) {A K : Option Addr} {c d : Nat} (hp : OwnP wr w0.heap.size A c ns[k].1) (hi : OwnI wr w0.heap.size K d ns[k].2) :
    FilledO ((wr.setCell ⟨g, k * 2, none⟩ (.slice A ns[k].1.length c)).setCell ⟨g, k * 2 + 1, none⟩ (.slice K ns[k].2.length d)) g ns (k + 1) := by
  have hg := h0.lt
  obtain ⟨xs, L, ho, h1, h2, h3, h4⟩ := h0
  have ho' := ho.kept (below_grown hb) (.inr (by simp [Value.ownBlock]))
  have hl := ho.1
  refine ⟨_, L ++ [⟨A, c, ns[k].1, K, d, ns[k].2⟩], ((ho'.stored (k * 2) (.slice A ns[k].1.length c)).1.stored (k * 2 + 1) (.slice K ns[k].2.length d)).1, ?_, ?_, ?_, ?_⟩
  · rw [List.map_append, h1, List.take_succ_eq_append_getElem hk]
    rfl
  · rw [take_two xs k _ _ (by omega), h2, nhc_append]
    rfl
  · intro x hx
    rcases List.mem_append.1 hx with hx | hx
    · exact ⟨own_set (own_set ((h3 x hx).1.below hb) (by omega) _) (by omega) _, own_set (own_set ((h3 x hx).2.below hb) (by omega) _) (by omega) _⟩
    · rw [List.mem_singleton] at hx
      subst hx
      exact ⟨own_set (own_set (hp.mono' (by omega)) (by omega) _) (by omega) _, own_set (own_set (hi.mono (by omega)) (by omega) _) (by omega) _⟩
  · rw [List.pairwise_append]
    refine ⟨h4, by simp, fun x hx y hy => ?_⟩
    rw [List.mem_singleton] at hy
    subst hy
    exact ⟨apart_new (h3 x hx).1 hp (Nat.le_refl _), apart_new (h3 x hx).2 hi (Nat.le_refl _)⟩
theorem FilledO.own {wr : World} {g : Nat} {ns : List ND} (h : FilledO wr g ns ns.length) : ∃ L : List NH, L.map NH.nd = ns ∧ NodesO wr g (some ⟨g, 0, none⟩) ns.length L := by
  obtain ⟨xs, L, ho, h1, h2, h3, h4⟩ := h
  rw [List.take_length] at h1
  have hl : L.length = ns.length := by rw [← h1, List.length_map]
  have hx : xs = nhc L := by rw [← h2, List.take_of_length_le (by have := ho.1; omega)]
  subst hx
  refine ⟨L, h1, ?_, fun x hx => ⟨(h3 x hx).1.mono' (by omega), (h3 x hx).2.mono (by omega)⟩, h4⟩
  rw [hl]
  exact ho
def MadeO (w : World) (ns : List ND) (e : Ending) (w' : World) : Prop := ∃ (g : Nat) (L : List NH), e = .returned (.slice (some ⟨g, 0, none⟩) ns.length ns.length) ∧ L.map NH.nd = ns ∧ w.heap.size ≤ g ∧ NodesO w' g (some ⟨g, 0, none⟩) ns.length L ∧ Below w.heap.size w w'

set_option maxHeartbeats 1000000 in
set_option maxRecDepth 100000 in
theorem toNodeS_own (A : Option Addr) (c : Nat) (ns : List ND) (w : World) (hr : RN w w.heap.size A ns) (hn : ns.length ≤ 1048576) (hs : SmallN ns) :
    Calls Try.prog 13 #[.slice A ns.length c] w (MadeO w ns) := by
  obtain ⟨i0, hi, hz0, hz1, hz2⟩ := info_parts nodeInfo
  have HSM := hid hs
  clear hs
  go_enter Try.func13, Try.ntmps13
  go_wp2_with (at_make; refine wpList_make_full _ rfl _ _ 28 rfl w.heap.size 54 i0 _ 2 Try.underlying28 hi hz0 hz1 _ _ _ _ ns.length rfl rfl rfl rfl (by rw [hz2]; omega) (by unfold maxLen; omega) (Nat.le_refl _) ?_; intro w1 hown1 hg1)
  have hb1 : Below w.heap.size w w1 := (Below.refl _ _).grown hg1 (Nat.le_refl _) (by simp)
  have HO := hid hown1
  have HB := hid hb1
  clear hown1 hg1 hb1
  go_wp2_with fail
  go_loopw [4] (fun i wr => ∃ k : Nat, k ≤ ns.length ∧ i = .int .i64 k ∧ FilledO wr w.heap.size ns k ∧ Below w.heap.size w wr) (fun i _ => ns.length - (intOf i).toNat)
  case atStart => exact ⟨0, Nat.zero_le _, rfl, FilledO.start HO.out, HB.out⟩
  case round =>
    obtain ⟨k, hk, rfl, hfl, hbw⟩ := hrel
    by_cases hlt : k < ns.length
    · obtain ⟨b, off, A', K', c', d', rfl, hb, hc1, hc2, hrp, hri⟩ := (hr.below hbw).at_ hlt
      have HF := hid hfl
      have HD := hid hbw
      have HP := hid (hrp.more hbw.size)
      have HI := hid (hri.more hbw.size)
      have hlt0 : w.heap.size < wr.heap.size := hfl.lt
      clear hfl hbw hr hrp hri
      go_wp2_with (go_at_call 37; refine (toNode_any A' c' ns[k].1 K' d' ns[k].2 _ HP.out (HSM.out k hlt).1 HI.out (HSM.out k hlt).2).mono ?_; rintro e w' ⟨A2, c2, K2, d2, rfl, hp2, hi2, hw⟩; have HF2 := hid (HF.out.down hw); obtain ⟨u, v, hu, hv⟩ := HF2.out.cells hlt; have f1 := HF2.out.frozen (k * 2); have f2 := HF2.out.frozen (k * 2 + 1); have HP2 := hid hp2; have HI2 := hid hi2; have HW := hid hw; clear hp2 hi2)
      refine ⟨⟨k + 1, by omega, by go_num, HF.out.store HW.out hlt HP2.out HI2.out, ?_⟩, by simp [intOf]; omega⟩
      exact ((HD.out.trans (hw.mono HD.out.size)).setCell (by simp) _).setCell (by simp) _
    · obtain rfl : k = ns.length := by omega
      have HF := hid hfl
      have HD := hid hbw
      clear hfl hbw hr
      go_wp2_with fail
      go_ret
      obtain ⟨L, h1, h2⟩ := HF.out.own
      exact ⟨_, L, rfl, h1, Nat.le_refl _, h2, HD.out⟩
end Go.Proofs.Ytaiehccpefjbfab
