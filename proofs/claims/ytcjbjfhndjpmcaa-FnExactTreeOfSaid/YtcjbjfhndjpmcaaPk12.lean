import Derived.Test.YtcjbjfhndjpmcaaPk11
import Derived.Deep.RegionLaw
import Derived.Laws.EntriesVeiled
/-
  The program's trees: wellShaped, all.
-/
namespace Go.Proofs.Ytcjbjfhndjpmcaa
open Go.RowKit

theorem OT.keepB {w w' : World} {R S : Nat → Prop} {g : Nat} {t : BT} {B : Nat} (h : OT w R S g t) (hb : Below B w w') (hS : ∀ b, S b ∨ R b → b < B) : OT w' R S g t :=
  h.keep (fun b hx => hb.block b (hS b hx)) (fun _ h => h)

set_option maxHeartbeats 2000000 in
set_option maxRecDepth 100000 in
theorem impl_wellShaped (t : BT) (R S : Nat → Prop) (g : Nat) (w : World) (hz : szT t ≤ 100) (hsm : smT t) (ho : OT w R S g t) (hS : ∀ b, S b ∨ R b → b < w.heap.size) :
    Calls Try.prog 118 #[.pointer (some ⟨g, 0, none⟩)] w fun e w' => e = .returned (.bool (fullT t true && decide (deepT t ≠ 0))) ∧ Below w.heap.size w w' := by
  have hhi := (deep_sz _ t (Nat.le_refl _)).2.1
  have hW : ∃ W, W = (w.alloc (.cells #[.pointer (some ⟨g, 0, none⟩)] 71)).alloc (.cells #[fun2 139 w.heap.size (w.heap.size + 1)] 148) := ⟨_, rfl⟩
  obtain ⟨W, hW⟩ := hW
  have HW := hid hW
  have HBW : Hid (Below w.heap.size w W) := by
    rw [hW]
    exact ((Below.refl _ _).alloc (Nat.le_refl _) _).alloc (by simp) _
  have HO := hid (ho.keepB HBW.out hS)
  have hb : W.cell? ⟨w.heap.size, 0, none⟩ = some (.pointer (some ⟨g, 0, none⟩)) := by rw [hW]; go_simp
  have hf : W.cell? ⟨w.heap.size + 1, 0, none⟩ = some (fun2 139 w.heap.size (w.heap.size + 1)) := by rw [hW]; go_simp
  have HHI : Hid (∀ n, Calls Try.prog 97 #[.pointer (some ⟨g, 0, none⟩)] (W.drewN n) fun e w' => e = .returned (.int .i64 (highT t : Int)) ∧ W.drewN n = w') := fun n =>
    impl_height t R S g _ (by omega) (HO.out.drawn ⟨n, rfl⟩)
  have HBE : Hid (∀ n, Calls Try.prog 139 #[.pointer (some ⟨g, 0, none⟩), .int .i64 (highT t : Int), .pointer (some ⟨w.heap.size, 0, none⟩), .pointer (some ⟨w.heap.size + 1, 0, none⟩)] (W.drewN n) fun e w' => e = .returned (.bool (fullT t true && decide (deepT t ≠ 0))) ∧ Drawn (W.drewN n) w') := fun n => by
    have h := impl_below w.heap.size (w.heap.size + 1) g R (szT t) t (highT t : Int) S g (W.drewN n) (Nat.le_refl _) (by omega) hsm (by omega) (by omega) (HO.out.drawn ⟨n, rfl⟩) (fun _ _ h => absurd rfl h) (HO.out.drawn ⟨n, rfl⟩).block hb hf
    rw [show decide (g = g) = true from by simp, shape_full] at h
    exact h
  have b0 := hb
  have f0 := hf
  unfold fun2 at hW f0
  clear ho hS hsm hb hf
  subst hW
  go_enter Try.func118, Try.ntmps118
  go_wp2_with fail
  go_quiet ((first
    | (go_at_call 97; exact quiet_eq (HHI.out _))
    | (go_at_call 139; exact quiet_drawn (HBE.out _))))
  go_wp2_with fail
  go_ret
  exact ⟨rfl, HBW.out.trans ((Drawn.refl _).drewN _ |>.below _)⟩

/-- A block of one cell. -/
def One (w : World) (b : Nat) (v : Value) (t : TypeId) : Prop := w.heap[b]? = some (.cells #[v] t (0, 0))
theorem One.new (w : World) (v : Value) (t : TypeId) : One (w.alloc (.cells #[v] t)) w.heap.size v t := heap_alloc_new w _
theorem One.below {w w' : World} {b : Nat} {v : Value} {t : TypeId} (h : One w b v t) (hb : Below w.heap.size w w') : One w' b v t := (hb.block b (lt_of_block h)).trans h
theorem One.c {w : World} {b : Nat} {v : Value} {t : TypeId} (h : One w b v t) : w.cell? ⟨b, 0, none⟩ = some v := cell_of_one h
theorem One.fz {w : World} {b : Nat} {v : Value} {t : TypeId} (h : One w b v t) : w.frozen? ⟨b, 0, none⟩ = false := free_of_one h
theorem One.lt {w : World} {b : Nat} {v : Value} {t : TypeId} (h : One w b v t) : b < w.heap.size := lt_of_block h

theorem One.belowB {w w' : World} {b B : Nat} {v : Value} {t : TypeId} (h : One w b v t) (hb : Below B w w') (hlt : b < B) : One w' b v t := (hb.block b hlt).trans h
theorem One.set {w : World} {b : Nat} {v : Value} {t : TypeId} (h : One w b v t) (u : Value) : One (w.setCell ⟨b, 0, none⟩ u) b u t := one_setCell h
theorem One.other {w : World} {b g j : Nat} {v : Value} {t : TypeId} (h : One w b v t) (hne : b ≠ g) (u : Value) : One (w.setCell ⟨g, j, none⟩ u) b v t := (Below.heap_setCell _ _ _ _ hne).trans h

/-- append to a slice of pairs, at a step of a region that draws its order. -/
theorem step_append_rp {P : Program} (w : World) {ops : Array Oper} {o : Oper} {a : Act} {K : Act → World → Prop} {Q : Exit → Act → World → Prop} {E : Prop} (hgd : o.guard = none) (s x : Operand) (t : TypeId)
    (ho : o.op = .call { callee := .builtin .append, args := #[s, x], argTypes := #[t, t] })
    (i : TypeInfo) (ht : P.underlying t = some (.slice 57)) (hi : P.info? 57 = some i)
    (hz : i.zero = some (.agg #[.string ⟨#[]⟩, .string ⟨#[]⟩])) (hsize : i.size = 2) (hby : i.bytes = 32)
    (B : Nat) (A0 : Option Addr) (n0 c0 : Nat) (qs : PS) (hs : a.eval s = .slice A0 n0 c0) (hn0 : n0 = qs.length) (hown : OwnP w B A0 c0 qs)
    (B' : Nat) (A : Option Addr) (n c : Nat) (ps : PS) (hx : a.eval x = .slice A n c) (hn : n = ps.length) (hr : RP w B' A ps)
    (hlen : qs.length + ps.length ≤ 4000000) (hbase : B ≤ w.heap.size)
    (h : ∀ A' n' c' w', n' = (qs ++ ps).length → OwnP w' B A' c' (qs ++ ps) → Below B w w' → K (a.put o.dst (.slice A' n' c')) w') :
    if Region.wanted o (yielded ops a.tmps) = true then Oper.wp P o a w K Q else E := by
  have hw : Region.wanted o (yielded ops a.tmps) = true := by simp [Region.wanted, hgd]
  rw [if_pos hw]
  subst hn0 hn
  obtain ⟨A', c', w', hrun, h2, h3⟩ := run_append_rp (P := P) w t o.type i ht hi hz hsize hby B A0 c0 qs hown B' A c ps hr hlen hbase
  unfold Oper.wp execOp
  simp only [ho, resolve, invoke, builtin, Sem.run_bind, Sem.run_pure, Result.andThen_ok, List.map_toArray, List.map_cons, List.map_nil, hs, hx, hrun]
  exact h A' _ c' w' rfl h2 h3

/-- What the gathering closure does: the pairs of its tree more; only the variable's block and the row's are turned. -/
def Gathers (gm : Nat) (qs : PS) (w : World) (e : Ending) (w' : World) : Prop :=
  e = .returned (.tuple #[]) ∧ ∃ A n c, n = qs.length ∧ One w' gm (.slice A n c) 27 ∧ OwnP w' (gm + 2) A c qs ∧ Below gm w w' ∧ w'.heap[gm + 1]? = w.heap[gm + 1]?

set_option maxHeartbeats 4000000 in
set_option maxRecDepth 100000 in
theorem impl_gather (gm : Nat) (R : Nat → Prop) : ∀ (n : Nat) (t : BT) (S : Nat → Prop) (g : Nat) (A : Option Addr) (m c : Nat) (qs : PS) (w : World), szT t ≤ n → n ≤ 1000 → qs.length + (allT t).length ≤ 4000 → OT w R S g t → (∀ b, S b ∨ R b → b < gm) →
    m = qs.length → One w gm (.slice A m c) 27 → OwnP w (gm + 2) A c qs → One w (gm + 1) (fun2 122 gm (gm + 1)) 131 → gm + 2 ≤ w.heap.size →
    Calls Try.prog 122 #[.pointer (some ⟨g, 0, none⟩), .pointer (some ⟨gm, 0, none⟩), .pointer (some ⟨gm + 1, 0, none⟩)] w (Gathers gm (qs ++ allT t) w)
  | 0, t, _, _, _, _, _, _, _, h, _, _, _, _, _, _, _, _, _ => by have := szT_pos t; omega
  | n + 1, .node ps ks, S, g, A, m, c, qs, w, hn, hn2, hlen, ho, hS, hmq, hm, hown, hf, hsz => by
    obtain ⟨i0, hi0, hz0, hz1, hz2⟩ := info_parts pairInfo
    obtain ⟨Ap, K, cp, d, c0, c1, hrp, hk⟩ := ho.open_
    have hkl : ks.length ≤ 1000 := by have := kids_len ks; simp only [szT] at hn; omega
    have hall : ps.length + (allK ks).length = (allT (.node ps ks)).length := by simp [allT]
    have hl1 : qs.length + ps.length ≤ 4000000 := by omega
    have hl2 : qs.length + ps.length + (allK ks).length ≤ 4000 := by omega
    have IH := hid (impl_gather gm R n)
    have m0 := hm.c
    have mf := hm.fz
    have HM := hid hm
    have HF := hid hf
    have HOW := hid hown
    have HMQ := hid hmq
    have HL1 := hid hl1
    have HL2 := hid hl2
    have HEQ : Hid (qs ++ allT (.node ps ks) = qs ++ ps ++ allK ks) := by rw [Hid, allT, List.append_assoc]
    have HSK : Hid (∀ k (hk : k < ks.length), szT ks[k] ≤ n) := fun k hk => by have := sz_kid (ps := ps) hk; omega
    have HRP := hid (hrp.rp (B := gm) (fun b h => hS b (.inr h)))
    have HS := hid hS
    have hgm : g < gm := hS g (.inl ho.in_)
    have hne : g ≠ gm := by omega
    have HK : Hid (∀ (k : Nat) (hk : k < ks.length), ∃ (b gk : Nat) (Sk : Nat → Prop), K = some ⟨b, 0, none⟩ ∧ b < gm ∧ w.cell? ⟨b, k, none⟩ = some (ptr gk) ∧ (∀ x, Sk x ∨ R x → x < gm) ∧ OT w R Sk gk ks[k]) := fun k hlt => by
      obtain ⟨b, gk, Sk, e, hb, ck, hsub, _, hok⟩ := hk k hlt
      exact ⟨b, gk, Sk, e, hS b (.inl hb), ck, fun x h => hS x (h.imp (hsub x) id), hok⟩
    have C0 : Hid (∀ W : World, Below gm w W → W.cell? ⟨g, 0, none⟩ = some (.slice Ap ps.length cp) ∧ W.cell? ⟨g, 1, none⟩ = some (.slice K ks.length d)) := fun W h => ⟨(h.cell (p := ⟨g, 0, none⟩) hgm).trans c0, (h.cell (p := ⟨g, 1, none⟩) hgm).trans c1⟩
    clear hn hm hown hf hmq hl1 hrp hS ho hk hall hlen hl2
    go_enter Try.func122, Try.ntmps122
    go_wp2_with fail
    go_region_law (refine step_append_rp _ (by rfl) _ _ _ (by rfl) i0 Try.underlying27 hi0 hz0 hz1 hz2 (gm + 2) A m c qs (by rfl) HMQ.out HOW.out gm Ap ps.length cp ps (by rfl) rfl HRP.out HL1.out hsz ?_; intro A1 n1 c1' w1 hn1 hown1 hb1; have HN1 := hid hn1; have HOW1 := hid hown1; have HB1 := hid (((Below.refl (gm + 2) w).drew).trans hb1); have hone1 := HM.out.belowB (((Below.refl (gm + 2) w).drew).trans hb1) (by omega); have HONE1 := hid hone1; have m1 := hone1.c; have mf1 := hone1.fz; clear hn1 hown1 hb1 hone1)
    all_goals
      have M2 := hid (HONE1.out.set (.slice A1 n1 c1'))
      have O2 : Hid (OwnP (w1.setCell ⟨gm, 0, none⟩ (.slice A1 n1 c1')) (gm + 2) A1 c1' (qs ++ ps)) := ownsRow_setCell_other HOW1.out (a := ⟨gm, 0, none⟩) (fun e => by
        have := (OwnP.size HOW1.out gm e).1
        omega) _
      have F2 := hid ((HF.out.belowB HB1.out (by omega)).other (g := gm) (j := 0) (by omega) (.slice A1 n1 c1'))
      have B2 := hid ((HB1.out.mono (by omega : gm ≤ gm + 2)).setCell (p := ⟨gm, 0, none⟩) (Nat.le_refl _) (.slice A1 n1 c1'))
      obtain ⟨x0, x1⟩ := C0.out _ B2.out
      have hsz2 : gm + 2 ≤ (w1.setCell ⟨gm, 0, none⟩ (.slice A1 n1 c1')).heap.size := Nat.le_trans hsz B2.out.size
      clear m1 mf1 m0 mf c0 c1
      generalize hw2 : w1.setCell ⟨gm, 0, none⟩ (.slice A1 n1 c1') = w2 at *
      clear hw2
      go_wp2_with fail
      go_loopw [17] (fun i wr => ∃ (k m' : Nat) (A' : Option Addr) (c' : Nat), k ≤ ks.length ∧ i = .int .i64 k ∧ Hid (m' = (qs ++ ps ++ allK (ks.take k)).length) ∧ One wr gm (.slice A' m' c') 27 ∧ OwnP wr (gm + 2) A' c' (qs ++ ps ++ allK (ks.take k)) ∧ One wr (gm + 1) (fun2 122 gm (gm + 1)) 131 ∧ Below gm w2 wr) (fun i _ => ks.length - (intOf i).toNat)
      case atStart => exact ⟨0, n1, A1, c1', Nat.zero_le _, rfl, by simpa [Hid, allK] using HN1.out, M2.out, by simpa [allK] using O2.out, F2.out, Below.refl _ _⟩
      case round =>
        obtain ⟨k, m', A', c', hk, rfl, HM', hm', ho', hf', hb'⟩ := hrel
        have HMM := hid hm'
        have HOO := hid ho'
        have HFF := hid hf'
        have HBB := hid hb'
        have HBW := hid (B2.out.trans hb')
        have f1 := hf'.c
        unfold fun2 at f1
        have hwr : gm + 2 ≤ wr.heap.size := Nat.le_trans hsz2 hb'.size
        clear hm' ho' hf' hb'
        by_cases hlt : k < ks.length
        · obtain ⟨b, gk, Sk, rfl, hbg, ck, hSk, hok⟩ := HK.out k hlt
          have ck' := (HBW.out.cell (p := ⟨b, k, none⟩) hbg).trans ck
          unfold ptr at ck'
          have e5 : (0 : Int) ≤ (k : Int) := by omega
          have e6 : (k : Int) < (ks.length : Int) := by omega
          have htk := allK_take hlt
          have hat := allK_take_le ks (k + 1)
          have hl3 : (qs ++ ps ++ allK (ks.take k)).length + (allT ks[k]).length ≤ 4000 := by
            rw [htk, List.length_append] at hat
            have := HL2.out
            simp only [List.length_append]
            omega
          have HTK : Hid (qs ++ ps ++ allK (ks.take k) ++ allT ks[k] = qs ++ ps ++ allK (ks.take (k + 1))) := by rw [Hid, htk]; simp only [List.append_assoc]
          have hih := IH.out ks[k] Sk gk A' m' c' (qs ++ ps ++ allK (ks.take k)) wr (HSK.out k hlt) (by omega) hl3 (hok.keepB HBW.out hSk) hSk HM'.out HMM.out HOO.out HFF.out hwr
          rw [HTK.out] at hih
          have HIH := hid hih
          clear ck hok hSk hl3 hat htk hih
          go_wp2_with fail
          refine HIH.out.mono ?_
          rintro e w3 ⟨rfl, A3, n3, c3, hn3, hm3, ho3, hb3, hf3⟩
          have HN3 := hid hn3
          have HM3 := hid hm3
          have HO3 := hid ho3
          have HB3 := hid hb3
          have HF3 := hid hf3
          clear hn3 hm3 ho3 hb3 hf3 ck' f1
          go_wp2_with fail
          go_roundw
          case rel => exact ⟨k + 1, n3, A3, c3, by omega, by go_num, HN3.out, HM3.out, HO3.out, HF3.out.trans HFF.out, HBB.out.trans HB3.out⟩
          case measure => simp [intOf]; omega
        · obtain rfl : k = ks.length := by omega
          rw [List.take_length] at HM' HOO
          rw [← HEQ.out] at HM' HOO
          go_wp2_with fail
          go_end0
          exact ⟨rfl, A', m', c', HM'.out, HMM.out, HOO.out, HBW.out, HFF.out.trans HF.out.symm⟩

set_option maxHeartbeats 2000000 in
set_option maxRecDepth 100000 in
theorem impl_all (t : BT) (R S : Nat → Prop) (g : Nat) (w : World) (hz : szT t ≤ 1000) (hl : (allT t).length ≤ 4000) (ho : OT w R S g t) (hS : ∀ b, S b ∨ R b → b < w.heap.size) :
    Calls Try.prog 79 #[.pointer (some ⟨g, 0, none⟩)] w (Made w w.heap.size (allT t)) := by
  have hW : ∃ W, W = (w.alloc (.cells #[.slice none 0 0] 27)).alloc (.cells #[fun2 122 w.heap.size (w.heap.size + 1)] 131) := ⟨_, rfl⟩
  obtain ⟨W, hW⟩ := hW
  have HBW : Hid (Below w.heap.size w W) := by
    rw [hW]
    exact ((Below.refl _ _).alloc (Nat.le_refl _) _).alloc (by simp) _
  have HO := hid (ho.keepB HBW.out hS)
  have hb : One W w.heap.size (.slice none 0 0) 27 := by
    rw [hW]
    exact (One.new w _ _).below ((Below.refl _ _).alloc (Nat.le_refl _) _)
  have hf : One W (w.heap.size + 1) (fun2 122 w.heap.size (w.heap.size + 1)) 131 := by
    rw [hW]
    have := One.new (w.alloc (.cells #[.slice none 0 0] 27)) (fun2 122 w.heap.size (w.heap.size + 1)) 131
    simpa using this
  have hsz : w.heap.size + 2 ≤ W.heap.size := by rw [hW]; simp
  have hg := impl_gather w.heap.size R _ t S g none 0 0 [] W (Nat.le_refl _) hz (by simpa using hl) HO.out hS rfl hb (OwnP.nil_ _ _) hf hsz
  rw [List.nil_append] at hg
  have HG := hid hg
  have f0 := hf.c
  unfold fun2 at hW f0
  clear ho hS hb hf hg
  subst hW
  go_enter Try.func79, Try.ntmps79
  go_wp2_with fail
  refine HG.out.mono ?_
  rintro e w3 ⟨rfl, A3, n3, c3, hn3, hm3, ho3, hb3, hf3⟩
  have HN3 := hid hn3
  have HO3 := hid ho3
  have HB3 := hid hb3
  have m3 := hm3.c
  clear hn3 hm3 ho3 hb3 hf3 f0
  go_wp2_with fail
  go_ret
  exact ⟨A3, c3, ret_slice HN3.out, OwnP.mono' HO3.out (by omega), HBW.out.trans HB3.out⟩
end Go.Proofs.Ytcjbjfhndjpmcaa
