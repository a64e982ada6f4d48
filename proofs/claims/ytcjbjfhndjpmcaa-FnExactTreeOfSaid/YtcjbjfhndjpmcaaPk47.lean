import Derived.Test.YtcjbjfhndjpmcaaPk43
import Derived.Test.YtcjbjfhndjpmcaaPk46
/-
  The program's treeOver and TreeOf.
-/
namespace Go.Proofs.Ytcjbjfhndjpmcaa
open Go.RowKit

def OverOut (w : World) (t : BT) (e : Ending) (w' : World) : Prop := ∃ (R : Nat → Prop) (z : OH), e = .returned (.pointer (some ⟨z.g, 0, none⟩)) ∧ z.t = t ∧ FO w' R [z] ∧ Below w.heap.size w w'
theorem over_start (ps : PS) : overT ps.length ((partsL ps).map fun g => .node g []) = makeT ps ∧ 1 ≤ (partsL ps).length ∧ (partsL ps).length ≤ ps.length + 1 ∧ (partsL ps).length * 2 ≤ ps.length + 2 := by
  by_cases h : ps = []
  · subst h
    exact ⟨rfl, Nat.le_refl _, Nat.le_refl _, Nat.le_refl _⟩
  · rw [partsL_cut h]
    have h1 := cutL_len ps.length ps (Nat.le_refl _)
    refine ⟨rfl, ?_, by omega, by omega⟩
    rcases Nat.eq_zero_or_pos (cutL ps).length with h0 | h0
    · exact absurd (h1.2 h0) h
    · exact h0
theorem over_next {f : Nat} {F : List OH} (h : 2 ≤ F.length) (hf : F.length ≤ f + 1) : ∃ f', f = f' + 1 ∧ overT f (F.map OH.t) = overT f' ((partsL F).map fun M => .node [] (M.map OH.t)) ∧ 1 ≤ (partsL F).length ∧ (partsL F).length < F.length := by
  obtain ⟨f', rfl⟩ : ∃ f', f = f' + 1 := ⟨f - 1, by omega⟩
  have hne : F ≠ [] := List.length_pos_iff.1 (by omega)
  have h1 := cutL_len F.length F (Nat.le_refl _)
  refine ⟨f', rfl, ?_, ?_, ?_⟩
  · match F, h with
    | a :: b :: r, _ =>
      show overT f' (groupT (List.map OH.t (a :: b :: r))) = _
      rw [groupT, ← partsL_cut (by simp), partsL_map, List.map_map]
      rfl
  · rw [partsL_cut hne]
    rcases Nat.eq_zero_or_pos (cutL F).length with h0 | h0
    · exact absurd (h1.2 h0) hne
    · exact h0
  · rw [partsL_cut hne]
    omega
theorem secP_at {w : World} {B d : Nat} {K : Option Addr} {L : List SE} (h : PartsP w B K d L) {i : Nat} (hi : i < L.length) : ∃ kb, K = some ⟨kb, 0, none⟩ ∧ w.cell? ⟨kb, i, none⟩ = some (.slice L[i].A L[i].ps.length L[i].c) := by
  obtain ⟨kb, rfl⟩ : ∃ kb, K = some ⟨kb, 0, none⟩ := by
    rcases h.1.2 with ⟨_, h0⟩ | ⟨kb, cap, cur, hv, _⟩
    · omega
    · injection hv with e1 _ _
      exact ⟨kb, e1⟩
  refine ⟨kb, rfl, ?_⟩
  rw [World.ownsRow.cellAt h.1 i (by omega)]
  simp [secP, hi]
theorem secQ_at {w : World} {B d : Nat} {K : Option Addr} {L : List SQ} (h : PartsQ w B K d L) {i : Nat} (hi : i < L.length) : ∃ kb, K = some ⟨kb, 0, none⟩ ∧ w.cell? ⟨kb, i, none⟩ = some (.slice L[i].A L[i].gs.length L[i].c) := by
  obtain ⟨kb, rfl⟩ : ∃ kb, K = some ⟨kb, 0, none⟩ := by
    rcases h.1.2 with ⟨_, h0⟩ | ⟨kb, cap, cur, hv, _⟩
    · omega
    · injection hv with e1 _ _
      exact ⟨kb, e1⟩
  refine ⟨kb, rfl, ?_⟩
  rw [World.ownsRow.cellAt h.1 i (by omega)]
  simp [secQ, hi]
/-- One more leaf. -/
theorem leaf_step {w1 wr w4 : World} {B0 j c3 cap gg : Nat} {A3 : Option Addr} {Lp : List SE} {Fa : List OH} {o : Obj} {s : SE} (hs : s ∈ Lp) (ho : OwnP wr B0 s.A s.c s.ps)
    (hL : Lev wr w1.heap.size (fun b => ∃ x ∈ Lp, Value.ownBlock (.slice x.A x.ps.length x.c) = some b) A3 c3 Fa []) (hj : Fa.length = j)
    (hown : w4.ownsRow w1.heap.size 71 1 (.slice (some ⟨gg, 0, none⟩) (j + 1) cap) (j + 1) (ohc Fa ++ [ptr wr.heap.size]))
    (hg : ((wr.alloc (.cells #[.slice s.A s.ps.length s.c, .slice none 0 0] 121)).alloc o).grownBy w4 (Value.ownBlock (.slice A3 j c3)))
    (hat : Value.ownBlock (.slice A3 j c3) = some gg ∨ gg = wr.heap.size + 2) :
    Lev w4 w1.heap.size (fun b => ∃ x ∈ Lp, Value.ownBlock (.slice x.A x.ps.length x.c) = some b) (some ⟨gg, 0, none⟩) cap (Fa ++ [⟨wr.heap.size, nodeS wr.heap.size none 0 [], .node s.ps []⟩]) [] := by
  subst hj
  exact Lev.push (M := []) (C := []) (K := none) (d := 0) hL ((RPS.of_own ho).keep (fun _ _ => rfl) (fun b hb => ⟨s, hs, hb⟩)) ho.vs (World.ownsRow_nil _ _ _ _) (fun k hk => by simp [Value.ownBlock] at hk) hown hg hat
/-- One more node. -/
theorem kid_step {wr w2 wr2 w4 : World} {j c3 cap gg : Nat} {R : Nat → Prop} {A3 : Option Addr} {L2 : List SQ} {Fa M C : List OH} {o : Obj} {x : SQ} (hpw : L2.Pairwise apartQ) (ho : OwnQ wr2 wr.heap.size x.A x.c x.gs) (hlt2 : ∀ k, Value.ownBlock (.slice x.A x.gs.length x.c) = some k → k < w2.heap.size) (hR : ∀ b, R b → b < wr.heap.size) (hw : w2.heap.size ≤ wr2.heap.size)
    (hx : L2[j]? = some x) (hM : x.gs = M.map OH.g) (hL : Lev wr2 w2.heap.size R A3 c3 Fa (M ++ C)) (hj : Fa.length = j)
    (hinv : ∀ b, SU (Fa ++ (M ++ C)) b → b < wr.heap.size ∨ w2.heap.size ≤ b ∨ ∃ i y, i < j ∧ L2[i]? = some y ∧ Value.ownBlock (.slice y.A y.gs.length y.c) = some b)
    (hown : w4.ownsRow w2.heap.size 71 1 (.slice (some ⟨gg, 0, none⟩) (j + 1) cap) (j + 1) (ohc Fa ++ [ptr wr2.heap.size]))
    (hg : ((wr2.alloc (.cells #[.slice none 0 0, .slice x.A x.gs.length x.c] 121)).alloc o).grownBy w4 (Value.ownBlock (.slice A3 j c3)))
    (hat : Value.ownBlock (.slice A3 j c3) = some gg ∨ gg = wr2.heap.size + 2) :
    Lev w4 w2.heap.size R (some ⟨gg, 0, none⟩) cap (Fa ++ [⟨wr2.heap.size, nodeS wr2.heap.size x.A x.c M, .node [] (M.map OH.t)⟩]) C ∧
    ∀ b, SU ((Fa ++ [(⟨wr2.heap.size, nodeS wr2.heap.size x.A x.c M, .node [] (M.map OH.t)⟩ : OH)]) ++ C) b → b < wr.heap.size ∨ w2.heap.size ≤ b ∨ ∃ i y, i < j + 1 ∧ L2[i]? = some y ∧ Value.ownBlock (.slice y.A y.gs.length y.c) = some b := by
  subst hj
  have hl : x.gs.length = M.length := by rw [hM, List.length_map]
  rw [OwnQ, hl, hM, ← ohc_pcs] at ho
  rw [hl] at hg hlt2
  refine ⟨Lev.push (A2 := none) (c2 := 0) (ps := []) hL (.inl rfl) (.inl ⟨rfl, rfl, rfl⟩) (own_mono ho (Nat.zero_le _)) (fun k hk => ?_) hown hg hat, fun b hb => ?_⟩
  · have h1 := (ho.lt k hk).1
    have h2 := hlt2 k hk
    refine ⟨fun hs => ?_, fun hr => by have := hR k hr; omega, fun e => ?_⟩
    · rcases hinv k hs with h | h | ⟨i, y, hi, hy, hk2⟩
      · omega
      · omega
      · rw [List.pairwise_iff_getElem] at hpw
        obtain ⟨hi1, hi2⟩ := List.getElem?_eq_some_iff.1 hy
        obtain ⟨hj1, hj2⟩ := List.getElem?_eq_some_iff.1 hx
        have := hpw i _ hi1 hj1 hi
        rw [hi2, hj2] at this
        exact this k hk2 (by rw [hl]; exact hk)
    · have := (hL.row.lt k e).1
      omega
  · have old : SU (Fa ++ (M ++ C)) b → b < wr.heap.size ∨ w2.heap.size ≤ b ∨ ∃ i y, i < Fa.length + 1 ∧ L2[i]? = some y ∧ Value.ownBlock (.slice y.A y.gs.length y.c) = some b := fun hs => by
      rcases hinv b hs with h | h | ⟨i, y, hi, h⟩
      · exact .inl h
      · exact .inr (.inl h)
      · exact .inr (.inr ⟨i, y, by omega, h⟩)
    rcases SU_app.1 hb with hb | hb
    · rcases SU_app.1 hb with hb | hb
      · exact old (SU_app.2 (.inl hb))
      · rcases SU_one.1 hb with e | e | e
        · exact .inr (.inl (by omega))
        · exact .inr (.inr ⟨Fa.length, x, by omega, hx, by rw [hl]; exact e⟩)
        · exact old (SU_app.2 (.inr (SU_app.2 (.inl e))))
    · exact old (SU_app.2 (.inr (SU_app.2 (.inr hb))))

set_option maxHeartbeats 8000000 in
set_option maxRecDepth 100000 in
theorem impl_treeOver (A : Option Addr) (c : Nat) (ps : PS) (w : World) (hr : RP w w.heap.size A ps) (hv : VS A c ps.length) (hn : ps.length ≤ 60) :
    Calls Try.prog 62 #[.slice A ps.length c] w (OverOut w (makeT ps)) := by
  obtain ⟨i0, hi0, hz0, hz1, hz2⟩ := info_parts ptrInfo
  have HPP := hid (impl_partsP A c ps w hr hv hn)
  have HST := hid (over_start ps)
  clear hr hv
  go_enter Try.func62, Try.ntmps62
  go_wp2_with fail
  refine HPP.out.mono ?_
  rintro e w1 ⟨Kp, dp, Lp, rfl, hLp, hP, hb1⟩
  have hsl : Lp.length = (partsL ps).length := by rw [← hLp, List.length_map]
  have HLP := hid hLp
  have hs1 := hb1.size
  have HB1 := hid hb1
  have hl60 : 1 ≤ Lp.length ∧ Lp.length ≤ 60 := by have := HST.out.2; omega
  have HLS : Hid (overT ps.length (Lp.map fun s => .node s.ps []) = makeT ps ∧ Lp.length ≤ ps.length + 1) := by
    refine ⟨?_, by have := HST.out.2; omega⟩
    rw [← HST.out.1, ← hLp, List.map_map]
    rfl
  obtain ⟨n, hnn⟩ : ∃ n, n = Lp.length := ⟨_, rfl⟩
  have HNN := hid hnn
  have HP := hid hP
  obtain ⟨R, hRR⟩ : ∃ R : Nat → Prop, R = fun b => ∃ x ∈ Lp, Value.ownBlock (.slice x.A x.ps.length x.c) = some b := ⟨_, rfl⟩
  have HRR := hid hRR
  have HRB : Hid (∀ b, R b → w.heap.size ≤ b ∧ b < w1.heap.size) := by
    rw [hRR]
    rintro b ⟨x, hx, hb⟩
    exact (hP.2.1 x hx).size b hb
  rw [← hnn] at hl60
  rw [← hnn]
  clear hLp hP hb1 hsl hnn hRR
  go_wp2_with fail
  go_loopw [3, 12] (fun v3 vi wr => ∃ (k : Nat) (A3 : Option Addr) (c3 : Nat) (F : List OH), v3 = .slice A3 k c3 ∧ vi = .int .i64 k ∧ k ≤ n ∧ Hid (F.length = k) ∧ Hid (F.map OH.t = (Lp.take k).map fun s => .node s.ps []) ∧ Hid (Lev wr w1.heap.size R A3 c3 F []) ∧ Below w1.heap.size w1 wr) (fun _ i _ => n - (intOf i).toNat)
  case atStart => exact ⟨0, none, 0, [], rfl, rfl, by omega, rfl, rfl, Lev.nil_ ⟨fun b hb => (HRB.out b hb).2, fun x hx => by simp at hx, fun x hx => by simp at hx, List.Pairwise.nil⟩, Below.refl _ _⟩
  case round =>
    obtain ⟨k, A3, c3, F, rfl, rfl, hk, HFL, HFT, HL, hbw⟩ := hrel
    have hws := hbw.size
    have HBW := hid hbw
    clear hbw
    by_cases hlt : k < n
    · have hltL : k < Lp.length := by rw [← HNN.out]; exact hlt
      obtain ⟨kb, rfl, hc⟩ := secP_at (HP.out.below HBW.out) hltL
      obtain ⟨s, hs⟩ : ∃ s, s = Lp[k] := ⟨_, rfl⟩
      rw [← hs] at hc
      have hmem : s ∈ Lp := by rw [hs]; exact List.getElem_mem hltL
      have ho := (HP.out.below HBW.out).2.1 s hmem
      have HSTEP : Hid (∀ (w4 : World) (gg cap : Nat) (o : Obj), _ → _ → _ → _) := fun w4 gg cap o h1 h2 h3 => leaf_step (w4 := w4) (gg := gg) (cap := cap) (o := o) hmem ho (by rw [← HRR.out]; exact HL.out) HFL.out h1 h2 h3
      have HROW : Hid (wr.ownsRow w1.heap.size 71 1 (.slice A3 k c3) k (ohc F)) := by
        have := HL.out.row
        rw [HFL.out] at this
        exact this
      have HFT2 : Hid ((F ++ [(⟨wr.heap.size, nodeS wr.heap.size none 0 [], .node s.ps []⟩ : OH)]).map OH.t = (Lp.take (k + 1)).map fun s => .node s.ps []) := by
        rw [Hid, List.map_append, HFT.out, hs, List.take_succ_eq_append_getElem hltL, List.map_append]
        rfl
      have e1 : (k : Int) < (n : Int) := by omega
      have e2 : (0 : Int) ≤ (k : Int) := by omega
      clear ho hs
      go_wp2_with (at_builtin; refine wpList_append_lies _ rfl _ _ _ rfl w1.heap.size 71 i0 _ 1 8 Try.underlying117 hi0 hz0 hz1 hz2 rfl (by omega) (.slice A3 k c3) k (ohc F) rfl ((HROW.out.alloc _).alloc _) ⟨wr.heap.size + 1, 0, none⟩ 1 1 [.pointer (some ⟨wr.heap.size, 0, none⟩)] rfl rfl (World.news_of_block (cs := #[.pointer (some ⟨wr.heap.size, 0, none⟩)]) (t := 71) (fr := (0, 0)) (by simpa using heap_alloc_new (wr.alloc _) (.cells #[.pointer (some ⟨wr.heap.size, 0, none⟩)] 71))) (by simp [Value.oneCell']) (by omega) (by unfold maxLen; omega) (by omega) (by simp; omega) (wr.heap.size + 2) (by simp) ?_; intro gg cap w4 hown4 hgrow4 hat4 hlt4; have HO4 := hid hown4; have HG4 := hid hgrow4; have HA4 := hid hat4; clear hown4 hgrow4 hat4)
      have HL4 : Hid (Lev w4 w1.heap.size R (some ⟨gg, 0, none⟩) cap (F ++ [⟨wr.heap.size, nodeS wr.heap.size none 0 [], .node s.ps []⟩]) []) := by
        have := HSTEP.out w4 gg cap _ HO4.out HG4.out HA4.out
        rw [← HRR.out] at this
        exact this
      have HD4 : Hid (Below w1.heap.size w1 w4) := ((HBW.out.alloc (by omega) _).alloc (by simp; omega) _).grown HG4.out (by simp; omega) (fun k e => (HROW.out.lt k e).1)
      go_roundw
      case rel => exact ⟨k + 1, some ⟨gg, 0, none⟩, cap, _, rfl, by go_num, by omega, by rw [Hid, List.length_append, HFL.out]; rfl, HFT2.out, HL4.out, HD4.out⟩
      case measure => simp [intOf]; omega
    · obtain rfl : k = n := by omega
      have e1 : ¬ (k : Int) < (k : Int) := by omega
      have HOV : Hid (overT ps.length (F.map OH.t) = makeT ps ∧ k ≤ ps.length + 1) := by
        have h := HFT.out
        rw [HNN.out, List.take_length] at h
        exact ⟨by rw [h]; exact HLS.out.1, by rw [HNN.out]; exact HLS.out.2⟩
      have HD : Hid (Below w.heap.size w wr) := HB1.out.trans (HBW.out.mono hs1)
      have HLV : Hid (Lev wr w.heap.size R A3 c3 F []) := ⟨own_mono HL.out.row hs1, HL.out.fo, HL.out.ap⟩
      clear HLS HP HRR HL HFT HBW HNN HB1
      go_wp2_with fail
      go_loopw [3] (fun v3 wv => ∃ (f k : Nat) (A3 : Option Addr) (c3 : Nat) (F : List OH), v3 = .slice A3 k c3 ∧ 1 ≤ k ∧ k ≤ 60 ∧ Hid (F.length = k) ∧ Hid (overT f (F.map OH.t) = makeT ps ∧ k ≤ f + 1) ∧ Hid (Lev wv w.heap.size R A3 c3 F []) ∧ Below w.heap.size w wv) (fun v3 _ => msP v3)
      case atStart => exact ⟨ps.length, k, A3, c3, F, rfl, hl60.1, hl60.2, HFL.out, HOV.out, HLV.out, HD.out⟩
      case round =>
        clear HFL HOV HLV HD HPP HRB hk hws hs1 hl60 e1
        rename World => wv
        obtain ⟨f, k, A3, c3, F, rfl, hk1, hk2, HFL, HOV, HLV, hbv⟩ := hrel
        have HBV := hid hbv
        have hvs := hbv.size
        clear hbv
        by_cases h2 : 1 < k
        · have e1 : (1 : Int) < (k : Int) := by omega
          have hoq : OwnQ wv w.heap.size A3 c3 (F.map OH.g) := by
            unfold OwnQ
            rw [List.length_map, ← ohc_pcs]
            exact HLV.out.row
          have hpq := impl_partsQ A3 c3 (F.map OH.g) wv hoq.rq hoq.vs (by rw [List.length_map, HFL.out]; omega)
          rw [List.length_map, HFL.out] at hpq
          have HPQ := hid hpq
          have HNX := hid (over_next (f := f) (F := F) (by rw [HFL.out]; omega) (by rw [HFL.out]; exact HOV.out.2))
          clear hoq hpq
          go_wp2_with fail
          refine HPQ.out.mono ?_
          rintro e w2 ⟨Kq, dq, L2, rfl, hL2, hQ, hb2⟩
          rw [partsL_map] at hL2
          have HL2 := hid hL2
          have HQ := hid hQ
          have HB2 := hid hb2
          have hs2 := hb2.size
          have hsl : L2.length = (partsL F).length := by have := congrArg List.length hL2; simpa using this
          obtain ⟨n2, hnn⟩ : ∃ n2, n2 = L2.length := ⟨_, rfl⟩
          have HNN := hid hnn
          have HN2 : Hid (n2 = (partsL F).length) := hnn.trans hsl
          have hn2 : 1 ≤ n2 ∧ n2 < k := by
            obtain ⟨f', _, _, h3, h4⟩ := HNX.out
            rw [HFL.out] at h4
            rw [hnn, hsl]
            exact ⟨h3, h4⟩
          have HF2 : Hid (FO w2 R F) := by
            have := (Step.below HLV.out.fo hb2).fo
            rwa [List.append_nil] at this
          have HRV : Hid (∀ b, R b → b < wv.heap.size) := HLV.out.fo.rb
          have HFV : Hid (∀ b, SU F b → b < wv.heap.size) := fun b hb => (HLV.out.fo.su b (SU_app.2 (.inl hb))).1
          rw [← hnn]
          clear hL2 hQ hb2 hsl hnn
          go_wp2_with fail
          go_loopw [6, 29] (fun v6 vi wi => ∃ (j : Nat) (A4 : Option Addr) (c4 : Nat) (Fa : List OH), v6 = .slice A4 j c4 ∧ vi = .int .i64 j ∧ j ≤ n2 ∧ Hid (Fa.length = j) ∧ Hid (Fa.map OH.t = ((partsL F).take j).map fun M => .node [] (M.map OH.t)) ∧ Hid (Lev wi w2.heap.size R A4 c4 Fa ((partsL F).drop j).flatten) ∧
            Hid (∀ b, SU (Fa ++ ((partsL F).drop j).flatten) b → b < wv.heap.size ∨ w2.heap.size ≤ b ∨ ∃ i y, i < j ∧ L2[i]? = some y ∧ Value.ownBlock (.slice y.A y.gs.length y.c) = some b) ∧ Below w2.heap.size w2 wi) (fun _ i _ => n2 - (intOf i).toNat)
          case atStart =>
            refine ⟨0, none, 0, [], rfl, rfl, by omega, rfl, rfl, Lev.nil_ ?_, ?_, Below.refl _ _⟩
            · rw [List.drop_zero, partsL_flat]; exact HF2.out
            · rw [List.drop_zero, partsL_flat]
              exact fun b hb => .inl (HFV.out b hb)
          case round =>
            rename World => wi
            obtain ⟨j, A4, c4, Fa, rfl, rfl, hj, HJL, HJT, HJ, HJI, hbi⟩ := hrel
            have his := hbi.size
            have HBI := hid hbi
            clear hbi
            by_cases hlt : j < n2
            · have hltL : j < L2.length := by rw [← HNN.out]; exact hlt
              have hltF : j < (partsL F).length := by rw [← HN2.out]; exact hlt
              obtain ⟨kb, rfl, hc⟩ := secQ_at (HQ.out.below HBI.out) hltL
              obtain ⟨x, hx⟩ : ∃ x, x = L2[j] := ⟨_, rfl⟩
              obtain ⟨M, hM⟩ : ∃ M, M = (partsL F)[j] := ⟨_, rfl⟩
              rw [← hx] at hc
              have hxj : L2[j]? = some x := by rw [hx]; exact List.getElem?_eq_getElem hltL
              have hxM : x.gs = M.map OH.g := by
                have h := congrArg (fun l => l[j]?) HL2.out
                simp only [List.getElem?_map, hxj, List.getElem?_eq_getElem hltF, Option.map_some, ← hM] at h
                exact Option.some.inj h
              have hmem : x ∈ L2 := by rw [hx]; exact List.getElem_mem hltL
              have ho := (HQ.out.below HBI.out).2.1 x hmem
              have hol : ∀ k, Value.ownBlock (.slice x.A x.gs.length x.c) = some k → k < w2.heap.size := fun k hk => ((HQ.out.2.1 x hmem).size k hk).2
              have hcut : ((partsL F).drop j).flatten = M ++ ((partsL F).drop (j + 1)).flatten := by
                rw [List.drop_eq_getElem_cons hltF, List.flatten_cons, hM]
              have HJ' : Hid (Lev wi w2.heap.size R A4 c4 Fa (M ++ ((partsL F).drop (j + 1)).flatten)) := by
                have := HJ.out
                rwa [hcut] at this
              have HJI' : Hid (∀ b, SU (Fa ++ (M ++ ((partsL F).drop (j + 1)).flatten)) b → b < wv.heap.size ∨ w2.heap.size ≤ b ∨ ∃ i y, i < j ∧ L2[i]? = some y ∧ Value.ownBlock (.slice y.A y.gs.length y.c) = some b) := by
                have := HJI.out
                rwa [hcut] at this
              have HSTEP := hid (fun (w4 : World) (gg cap : Nat) (o : Obj) h1 h2 h3 => kid_step (w4 := w4) (gg := gg) (cap := cap) (o := o) HQ.out.2.2 ho hol HRV.out his hxj hxM HJ'.out HJL.out HJI'.out h1 h2 h3)
              have HROW : Hid (wi.ownsRow w2.heap.size 71 1 (.slice A4 j c4) j (ohc Fa)) := by
                have := HJ.out.row
                rw [HJL.out] at this
                exact this
              have HJT2 : Hid ((Fa ++ [(⟨wi.heap.size, nodeS wi.heap.size x.A x.c M, .node [] (M.map OH.t)⟩ : OH)]).map OH.t = ((partsL F).take (j + 1)).map fun M => .node [] (M.map OH.t)) := by
                rw [Hid, List.map_append, HJT.out, hM, List.take_succ_eq_append_getElem hltF, List.map_append]
                rfl
              have e3 : (j : Int) < (n2 : Int) := by omega
              have e2 : (0 : Int) ≤ (j : Int) := by omega
              clear ho hx hM hxj hxM hol hcut HJ HJI
              go_wp2_with (at_builtin; refine wpList_append_lies _ rfl _ _ _ rfl w2.heap.size 71 i0 _ 1 8 Try.underlying117 hi0 hz0 hz1 hz2 rfl (by omega) (.slice A4 j c4) j (ohc Fa) rfl ((HROW.out.alloc _).alloc _) ⟨wi.heap.size + 1, 0, none⟩ 1 1 [.pointer (some ⟨wi.heap.size, 0, none⟩)] rfl rfl (World.news_of_block (cs := #[.pointer (some ⟨wi.heap.size, 0, none⟩)]) (t := 71) (fr := (0, 0)) (by simpa using heap_alloc_new (wi.alloc _) (.cells #[.pointer (some ⟨wi.heap.size, 0, none⟩)] 71))) (by simp [Value.oneCell']) (by omega) (by unfold maxLen; omega) (by omega) (by simp; omega) (wi.heap.size + 2) (by simp) ?_; intro gg cap w4 hown4 hgrow4 hat4 hlt4; have HO4 := hid hown4; have HG4 := hid hgrow4; have HA4 := hid hat4; clear hown4 hgrow4 hat4)
              have HL4 := hid (HSTEP.out w4 gg cap _ HO4.out HG4.out HA4.out)
              have HD4 : Hid (Below w2.heap.size w2 w4) := ((HBI.out.alloc (by omega) _).alloc (by simp; omega) _).grown HG4.out (by simp; omega) (fun k e => (HROW.out.lt k e).1)
              go_roundw
              case rel => exact ⟨j + 1, some ⟨gg, 0, none⟩, cap, _, rfl, by go_num, by omega, by rw [Hid, List.length_append, HJL.out]; rfl, HJT2.out, HL4.out.1, HL4.out.2, HD4.out⟩
              case measure => simp [intOf]; omega
            · obtain rfl : j = n2 := by omega
              have e3 : ¬ (j : Int) < (j : Int) := by omega
              have HLN : Hid (Lev wi w.heap.size R A4 c4 Fa []) := by
                have h := HJ.out
                rw [HN2.out, List.drop_length, List.flatten_nil] at h
                exact ⟨own_mono h.row (by omega), h.fo, h.ap⟩
              have HON : Hid (∃ f', overT f' (Fa.map OH.t) = makeT ps ∧ j ≤ f' + 1) := by
                obtain ⟨f', rfl, h3, h4, h5⟩ := HNX.out
                have h := HJT.out
                rw [HN2.out, List.take_length] at h
                refine ⟨f', ?_, ?_⟩
                · rw [h, ← h3]; exact HOV.out.1
                · have := HOV.out.2; omega
              have HDN : Hid (Below w.heap.size w wi) := (HBV.out.trans (HB2.out.mono hvs)).trans (HBI.out.mono (by omega))
              clear HJ HJI HJT HNX HOV HLV HQ HL2 HF2
              obtain ⟨f', hf1, hf2⟩ := HON.out
              have HF1 := hid hf1
              have HF2 := hid hf2
              clear hf1 hf2
              go_wp2_with fail
              go_roundw
              case rel => exact ⟨f', j, A4, c4, Fa, rfl, by omega, by omega, HJL.out, ⟨HF1.out, HF2.out⟩, HLN.out, HDN.out⟩
              case measure => simp [msP]; omega
        · have e1 : ¬ (1 : Int) < (k : Int) := by omega
          obtain rfl : k = 1 := by omega
          obtain ⟨z, rfl⟩ : ∃ z, F = [z] := List.length_eq_one_iff.1 HFL.out
          obtain ⟨kb, rfl⟩ : ∃ kb, A3 = some ⟨kb, 0, none⟩ := by
            rcases HLV.out.row.2 with ⟨_, h0⟩ | ⟨kb, cap, cur, hv, _⟩
            · simp at h0
            · injection hv with e1 _ _
              exact ⟨kb, e1⟩
          have hc : wv.cell? ⟨kb, 0, none⟩ = some (.pointer (some ⟨z.g, 0, none⟩)) := by
            rw [World.ownsRow.cellAt HLV.out.row 0 (by simp)]
            rfl
          have HZ : Hid (z.t = makeT ps) := by
            have h := HOV.out.1
            cases f <;> exact h
          have HFZ : Hid (FO wv R [z]) := HLV.out.fo
          clear HOV HLV HFL
          go_wp2_with fail
          go_ret
          exact ⟨R, z, rfl, HZ.out, HFZ.out, HBV.out⟩

def ofTR (ps : PS) : List ND := if mapB ps then layT (makeT ps) 0 else []
set_option maxHeartbeats 4000000 in
set_option maxRecDepth 100000 in
theorem impl_TreeOf (A : Option Addr) (c : Nat) (ps : PS) (w : World) (hr : RP w w.heap.size A ps) (hvs : VS A c ps.length) (hf : Fits ps) (hn : ps.length ≤ 1048576) :
    Calls Try.prog 16 #[.slice A ps.length c] w (NodesOut2 w (ofTR ps) (mapB ps)) := by
  have hml : ps.length ≤ maxLen := by unfold maxLen; omega
  have HR := hid hr
  have HF := hid hf
  have HM := hid hml
  have HV := hid hvs
  clear hr hf hml hvs
  cases h1 : mapB ps
  · have HB := hid h1
    go_enter Try.func16, Try.ntmps16
    go_wp2_with (go_at_call 61; refine (impl_MapOk A c ps _ HR.out HF.out HM.out).mono ?_; rintro e w2 ⟨rfl, hw2⟩)
    go_ret2
    exact NodesOut2.no (by rw [ofTR, HB.out]; rfl) rfl hw2
  · have hl60 : ps.length ≤ 60 := (mapB_iff.1 h1).1
    have HB := hid h1
    have HMG := hid (make_good ps)
    go_enter Try.func16, Try.ntmps16
    go_wp2_with (first
      | (go_at_call 61; refine (impl_MapOk A c ps _ HR.out HF.out HM.out).mono ?_; rintro e w2 ⟨rfl, hw2⟩)
      | (go_at_call 62; refine (impl_treeOver A c ps _ ((HR.out.below hw2).more hw2.size) HV.out hl60).mono ?_; rintro e w3 ⟨R3, z, rfl, hzt, hfo, hb3⟩))
    obtain ⟨⟨m, hfm⟩, hall⟩ := HMG.out
    have hmz := good_few hfm
    rw [hall] at hmz
    have HB3 : Hid (Below w.heap.size w w3) := hw2.trans (hb3.mono hw2.size)
    have hov := hfo.ot z (List.mem_singleton.2 rfl)
    rw [hzt] at hov
    have HNN := hid (impl_nodes (makeT ps) R3 z.S z.g w3 (by omega) (by rw [hall]; omega) hov (by
      rintro b (hb | hb)
      · exact (hfo.su b (SU_one.2 hb)).1
      · exact hfo.rb b hb))
    clear hfm hall hmz hov hfo hb3 hw2
    refine HNN.out.mono ?_
    rintro e w7 ⟨A7, c7, L7, rfl, hL7, ho7, hb7⟩
    go_wp2_with fail
    go_ret2
    exact NodesOut2.yes rfl (by rw [ofTR, HB.out]; rfl) hL7 ho7 HB3.out hb7
end Go.Proofs.Ytcjbjfhndjpmcaa
