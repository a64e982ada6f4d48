import Derived.Test.YtcjbjfhndjpmcaaPk06
import Derived.Test.YtcjbjfhndjpmcaaPk05
import Derived.Test.YtcjbjfhndjpmcaaPk08
/-
  What the exact laws on trees go through: sizes, copies, comparisons of nodes.
-/
namespace Go.Proofs.Ytcjbjfhndjpmcaa
open Go.RowKit

/-- Nodes that Go can bear. -/
def FitsN (ns : List ND) : Prop := ∀ nd ∈ ns, Fits nd.1 ∧ nd.1.length ≤ maxLen ∧ nd.2.length ≤ maxLen
theorem FitsN.get {ns : List ND} (h : FitsN ns) {k : Nat} (hk : k < ns.length) : Fits ns[k].1 ∧ ns[k].1.length ≤ maxLen ∧ ns[k].2.length ≤ maxLen := h _ (List.getElem_mem hk)
/-- Nodes of which no one has much. -/
def SmallN (ns : List ND) : Prop := ∀ (k : Nat) (h : k < ns.length), ns[k].1.length ≤ 1048576 ∧ ns[k].2.length ≤ 1048576

set_option maxHeartbeats 1000000 in
theorem szNode_any (A : Option Addr) (c : Nat) (ps : PS) (K : Option Addr) (d : Nat) (ks : List Int) (l : Int) (w : World) (hr : RP w w.heap.size A ps) (hf : Fits ps) (hn : ps.length ≤ maxLen) (hm : ks.length ≤ maxLen) (h0 : 0 ≤ l) (h1 : l ≤ 1048576) :
    Calls Try.prog 70 #[.agg #[.slice A ps.length c, .slice K ks.length d], .int .i64 l] w fun e w' => ∃ r : Int, e = .returned (.int .i64 r) ∧ -1 ≤ r ∧ r ≤ l ∧ (0 ≤ r → (ps.length : Int) ≤ l ∧ (ks.length : Int) ≤ l) ∧ Below w.heap.size w w' := by
  have HB : Hid (∀ o : Obj, Below w.heap.size w (w.alloc o)) := fun o => (Below.refl _ _).alloc (Nat.le_refl _) o
  have HR := hid ((hr.below (HB.out (.cells #[.slice A ps.length c, .slice K ks.length d] 83))).more (HB.out (.cells #[.slice A ps.length c, .slice K ks.length d] 83)).size)
  have HF := hid hf
  have HN := hid hn
  have HM := hid hm
  clear hr hf hn hm
  go_enter Try.func70, Try.ntmps70
  go_wp2_with fail
  refine (szPairS_any A c ps l _ HR.out HF.out HN.out h0 h1).mono ?_
  rintro e w1 ⟨r, rfl, hr1, hr2, hr3, hb1⟩
  have H3 := hid hr3
  have HB1 := hid ((HB.out _).trans (hb1.mono (HB.out _).size))
  have hx2 : w1.cell? ⟨w.heap.size, 1, none⟩ = some (.slice K ks.length d) := (hb1.cell (p := ⟨w.heap.size, 1, none⟩) (by simp)).trans (by go_simp)
  clear hr3 hb1
  by_cases hneg : r < 0
  · go_wp2_with fail
    go_ret
    exact ⟨_, rfl, by omega, by omega, fun h => by omega, HB1.out⟩
  · go_wp2_with fail
    refine (szInt64S_any K d ks r _ HM.out (by omega) (by omega)).mono ?_
    rintro e w2 ⟨q, rfl, hq1, hq2, hq3, rfl⟩
    have H4 := hid hq3
    clear hq3
    by_cases hneg2 : q < 0
    · go_wp2_with fail
      go_ret
      exact ⟨_, rfl, by omega, by omega, fun h => by omega, HB1.out⟩
    · go_wp2_with fail
      go_ret
      exact ⟨_, rfl, by omega, by omega, fun h => ⟨(H3.out (by omega)).1, by have := H4.out h; omega⟩, HB1.out⟩

def smallToN (ns : List ND) (k : Nat) : Prop := ∀ (i : Nat) (h : i < ns.length), i < k → ns[i].1.length ≤ 1048576 ∧ ns[i].2.length ≤ 1048576
theorem smallToN_succ {ns : List ND} {m : Int} {k : Nat} (h : smallToN ns k) (hk : k < ns.length) (hm : m ≤ 1048576) (he : (ns[k].1.length : Int) ≤ m ∧ (ns[k].2.length : Int) ≤ m) : smallToN ns (k + 1) := by
  intro i hi hlt
  by_cases e : i = k
  · subst e
    omega
  · exact h i hi (by omega)
def SzPostN (ns : List ND) (l : Int) (w : World) (e : Ending) (w' : World) : Prop :=
  ∃ r : Int, e = .returned (.int .i64 r) ∧ -1 ≤ r ∧ r ≤ l ∧ (0 ≤ r → (ns.length : Int) ≤ l ∧ SmallN ns) ∧ Below w.heap.size w w'

set_option maxHeartbeats 1000000 in
theorem szNodeS_any (A : Option Addr) (c : Nat) (ns : List ND) (l : Int) (w : World) (hr : RN w w.heap.size A ns) (hf : FitsN ns) (hn : ns.length ≤ maxLen) (h0 : 0 ≤ l) (h1 : l ≤ 1048576) :
    Calls Try.prog 22 #[.slice A ns.length c, .int .i64 l] w (SzPostN ns l w) := by
  unfold maxLen at hn
  by_cases g : l - (ns.length : Int) < 0
  · clear hr hf
    go_enter Try.func22, Try.ntmps22
    go_wp2_with fail
    go_ret
    exact ⟨-1, rfl, by omega, by omega, fun h => by omega, Below.refl _ _⟩
  · go_enter Try.func22, Try.ntmps22
    go_wp2_with fail
    go_loopw [1, 5] (fun q i wr => ∃ (m : Int) (k : Nat), 0 ≤ m ∧ m ≤ l ∧ k ≤ ns.length ∧ q = .int .i64 m ∧ i = .int .i64 k ∧ smallToN ns k ∧ Below w.heap.size w wr) (fun _ i _ => ns.length - (intOf i).toNat)
    case atStart => exact ⟨_, 0, by omega, by omega, Nat.zero_le _, rfl, rfl, fun i h hi => absurd hi (by omega), Below.refl _ w⟩
    case round =>
      obtain ⟨m, k, hm0, hm1, hk, rfl, rfl, hst, hbw⟩ := hrel
      by_cases hlt : k < ns.length
      · obtain ⟨b, off, A', K', c', d', rfl, hb, hc1, hc2, hrp, hri⟩ := (hr.below hbw).at_ hlt
        have HF := hid (hf.get hlt)
        have HS := hid (@smallToN_succ ns m k hst hlt (by omega))
        have HD := hid hbw
        have HP := hid (hrp.more hbw.size)
        clear hst hbw hr hf hrp hri
        go_wp2_with (go_at_call 70; refine (szNode_any A' c' ns[k].1 K' d' ns[k].2 m _ HP.out HF.out.1 HF.out.2.1 HF.out.2.2 hm0 (by omega)).mono ?_; rintro e w' ⟨r, rfl, hr1, hr2, hr3, hw⟩; have HR := hid hr3; clear hr3)
        · go_ret
          exact ⟨-1, rfl, by omega, by omega, fun h => by omega, HD.out.trans (hw.mono HD.out.size)⟩
        · refine ⟨⟨r, k + 1, by omega, by omega, by omega, rfl, by go_num, HS.out (HR.out (by omega)), HD.out.trans (hw.mono HD.out.size)⟩, by simp [intOf]; omega⟩
      · obtain rfl : k = ns.length := by omega
        have HS : Hid (SmallN ns) := fun i h => hst i h h
        have HD := hid hbw
        clear hst hbw hr hf
        go_wp2_with fail
        go_ret
        exact ⟨m, rfl, by omega, by omega, fun h => ⟨by omega, HS.out⟩, HD.out⟩

/-- A node of the call's own. -/
def MadeNode (w : World) (B : Nat) (ps : PS) (ks : List Int) (e : Ending) (w' : World) : Prop :=
  ∃ A c K d, e = .returned (.agg #[.slice A ps.length c, .slice K ks.length d]) ∧ OwnP w' B A c ps ∧ OwnI w' B K d ks ∧ Below w.heap.size w w'

set_option maxHeartbeats 2000000 in
theorem toNode_any (A : Option Addr) (c : Nat) (ps : PS) (K : Option Addr) (d : Nat) (ks : List Int) (w : World) (hr : RP w w.heap.size A ps) (hn : ps.length ≤ 1048576) (hk : RI w w.heap.size K ks) (hm : ks.length ≤ 1048576) :
    Calls Try.prog 75 #[.agg #[.slice A ps.length c, .slice K ks.length d]] w (MadeNode w w.heap.size ps ks) := by
  have HR := hid hr
  have HK := hid hk
  obtain ⟨h1, h2, h3⟩ := rows_two w (.cells #[.slice A ps.length c, .slice K ks.length d] 83) 77 (.slice none 0 0) (.slice none 0 0) (.slice none 0 0) (.slice none 0 0)
  have H1 := hid h1
  have H2 := hid h2
  have H3 := hid h3
  clear hr hk h1 h2 h3
  go_enter Try.func75, Try.ntmps75
  go_wp2_with fail
  refine (toPairS_any A c ps _ ((HR.out.below H3.out).more H3.out.size) hn).mono ?_
  rintro e w4 ⟨A4, c4, rfl, ho4, hb4⟩
  have c2 : w4.cell? ⟨w.heap.size, 1, none⟩ = some (.slice K ks.length d) := (hb4.cell (p := ⟨w.heap.size, 1, none⟩) (by simp; omega)).trans (by go_simp)
  have R1 := hid (H1.out.below hb4)
  have R2 := hid (H2.out.below hb4)
  have HB4 := hid (H3.out.trans (hb4.mono H3.out.size))
  have HO4 := hid ((ho4.set2 R2.out (by simp) 0 (.slice A4 ps.length c4)).mono' (by first | (simp; done) | (simp; omega) : w.heap.size + 3 ≤ _))
  have d1 := R2.out.c0
  have f1 := R2.out.fz 0
  have hsz4 : w.heap.size + 3 ≤ w4.heap.size := by have := hb4.size; simpa using this
  clear ho4 hb4
  go_wp2_with fail
  refine (toInt64S_any K d ks _ ((HK.out.below (HB4.out.setCell (by simp; omega) _)).more (by have := HB4.out.size; simpa using this)) hm).mono ?_
  rintro e w5 ⟨K5, d5, rfl, ho5, hb5⟩
  clear c2 d1 f1
  have Q1 := hid ((R1.out.other R2.out (by omega) 0 (.slice A4 ps.length c4)).below hb5)
  have Q2 := hid ((R2.out.s0 (.slice A4 ps.length c4)).below hb5)
  have HO5 := hid (HO4.out.below hb5)
  have HI5 := hid ho5
  have HB5 := hid ((HB4.out.setCell (p := ⟨w.heap.size + 1 + 1, 0, none⟩) (by simp; omega) (.slice A4 ps.length c4)).trans (hb5.mono (by have := HB4.out.size; simpa using this)))
  clear ho5 hb5
  have x0 := Q2.out.c0
  have x1 := Q2.out.c1
  have g2 := Q2.out.fz 1
  have y0 := Q1.out.c0
  have y1 := Q1.out.c1
  have g0 := Q1.out.fz 0
  have g1 := Q1.out.fz 1
  go_wp2_with fail
  have HI6 := hid (HI5.out.mono (by have := hsz4; first | (simp; done) | (simp; omega) : w.heap.size + 3 ≤ _))
  have U2 := Q2.out.s1 (.slice K5 ks.length d5)
  have U1 := Q1.out.other Q2.out (by omega) 1 (.slice K5 ks.length d5)
  have P0 := HO5.out.set2 Q2.out (by omega) 1 (.slice K5 ks.length d5)
  have I0 := HI6.out.set2 Q2.out (by omega) 1 (.slice K5 ks.length d5)
  have B0 := HB5.out.setCell (p := ⟨w.heap.size + 1 + 1, 1, none⟩) (by simp; omega) (.slice K5 ks.length d5)
  have U3 := U1.s0 (.slice A4 ps.length c4)
  refine world_post (S := fun wq => Row2 wq (w.heap.size + 1) 77 (.slice A4 ps.length c4) (.slice K5 ks.length d5) ∧ OwnP wq w.heap.size A4 c4 ps ∧ OwnI wq w.heap.size K5 d5 ks ∧ Below w.heap.size w wq) _
    ⟨U3.s1 _, ((P0.set2 U1 (by omega) 0 _).set2 U3 (by omega) 1 _).mono' (by omega), ((I0.set2 U1 (by omega) 0 _).set2 U3 (by omega) 1 _).mono (by omega),
      (B0.setCell (p := ⟨w.heap.size + 1, 0, none⟩) (by simp) _).setCell (p := ⟨w.heap.size + 1, 1, none⟩) (by simp) _⟩ ?_
  clear x0 x1 y0 y1 g0 g1 g2 U1 U2 U3 P0 I0 B0
  intro wq ⟨hq, hp, hi, hb⟩
  have q0 := hq.c0
  have q1 := hq.c1
  exact bodyPost_ret (v := .agg #[.slice A4 ps.length c4, .slice K5 ks.length d5]) (by simp [results, Try.results75, go_sem, q0, q1]) rfl ⟨A4, c4, K5, d5, rfl, hp, hi, hb⟩

theorem nodeInfo : (Try.prog.info? 77).map (fun i => (i.zero, i.size, i.bytes)) = some (some (.agg #[.slice none 0 0, .slice none 0 0]), 2, 48) := by kernel_rfl

/-- The new row, filled up to k. -/
def FilledN (wr : World) (g : Nat) (ns : List ND) (k : Nat) : Prop :=
  ∃ (xs : List Value) (FA FK : Nat → Option Addr) (FC FD : Nat → Nat), wr.ownsRow g 77 2 (.slice (some ⟨g, 0, none⟩) ns.length ns.length) ns.length xs ∧
    ∀ (i : Nat) (nd : ND), ns[i]? = some nd → i < k → xs[i * 2]? = some (.slice (FA i) nd.1.length (FC i)) ∧ xs[i * 2 + 1]? = some (.slice (FK i) nd.2.length (FD i)) ∧ OwnP wr (g + 1) (FA i) (FC i) nd.1 ∧ OwnI wr (g + 1) (FK i) (FD i) nd.2
theorem FilledN.start {wr : World} {g : Nat} {ns : List ND} {xs : List Value} (h : wr.ownsRow g 77 2 (.slice (some ⟨g, 0, none⟩) ns.length ns.length) ns.length xs) : FilledN wr g ns 0 :=
  ⟨xs, fun _ => none, fun _ => none, fun _ => 0, fun _ => 0, h, fun i p _ hi => absurd hi (by omega)⟩
theorem FilledN.cells {wr : World} {g : Nat} {ns : List ND} {k : Nat} (h : FilledN wr g ns k) (hk : k < ns.length) : ∃ u v, wr.cell? ⟨g, k * 2, none⟩ = some u ∧ wr.cell? ⟨g, k * 2 + 1, none⟩ = some v := by
  obtain ⟨xs, FA, FK, FC, FD, ho, hx⟩ := h
  have hl := ho.1
  refine ⟨_, _, (ho.cellAt (k * 2) (by omega)).trans (List.getElem?_eq_getElem (by omega)), (ho.cellAt (k * 2 + 1) (by omega)).trans (List.getElem?_eq_getElem (by omega))⟩
theorem FilledN.frozen {wr : World} {g : Nat} {ns : List ND} {k : Nat} (h : FilledN wr g ns k) (j : Nat) : wr.frozen? ⟨g, j, none⟩ = false := by
  obtain ⟨xs, FA, FK, FC, FD, ho, hx⟩ := h
  exact ho.frozenAt j
theorem FilledN.below {wr w' : World} {g : Nat} {ns : List ND} {k : Nat} (h : FilledN wr g ns k) (hb : Below wr.heap.size wr w') : FilledN w' g ns k := by
  obtain ⟨xs, FA, FK, FC, FD, ho, hx⟩ := h
  refine ⟨xs, FA, FK, FC, FD, ho.kept (below_grown hb) (.inr (by simp [Value.ownBlock])), fun i nd hn hi => ?_⟩
  obtain ⟨h1, h2, h3, h4⟩ := hx i nd hn hi
  exact ⟨h1, h2, h3.below hb, h4.below hb⟩
theorem own_set {w : World} {B : Nat} {e : TypeId} {size n : Nat} {v : Value} {xs : List Value} (h : w.ownsRow B e size v n xs) {g j : Nat} (hg : g < B) (u : Value) : (w.setCell ⟨g, j, none⟩ u).ownsRow B e size v n xs :=
  ownsRow_setCell_below h (a := ⟨g, j, none⟩) hg u
theorem FilledN.store {wr : World} {g : Nat} {ns : List ND} {k : Nat} (h : FilledN wr g ns k) (hk : k < ns.length) {A K : Option Addr} {c d : Nat} (hp : OwnP wr (g + 1) A c ns[k].1) (hi : OwnI wr (g + 1) K d ns[k].2) :
    FilledN ((wr.setCell ⟨g, k * 2, none⟩ (.slice A ns[k].1.length c)).setCell ⟨g, k * 2 + 1, none⟩ (.slice K ns[k].2.length d)) g ns (k + 1) := by
  obtain ⟨xs, FA, FK, FC, FD, ho, hx⟩ := h
  have hl := ho.1
  refine ⟨_, fun i => if i = k then A else FA i, fun i => if i = k then K else FK i, fun i => if i = k then c else FC i, fun i => if i = k then d else FD i, ((ho.stored (k * 2) (.slice A ns[k].1.length c)).1.stored (k * 2 + 1) (.slice K ns[k].2.length d)).1, fun i p hn hi' => ?_⟩
  by_cases e : i = k
  · subst e
    have hp' : ns[i] = p := by rw [List.getElem?_eq_getElem hk] at hn; exact Option.some.inj hn
    subst hp'
    simp only [if_true]
    refine ⟨?_, ?_, own_set (own_set hp (by omega) _) (by omega) _, own_set (own_set hi (by omega) _) (by omega) _⟩
    · rw [List.getElem?_set_ne (by omega), List.getElem?_set_self (by omega)]
    · rw [List.getElem?_set_self (by simp; omega)]
  · obtain ⟨h1, h2, h3, h4⟩ := hx i p hn (by omega)
    simp only [if_neg e]
    refine ⟨?_, ?_, own_set (own_set h3 (by omega) _) (by omega) _, own_set (own_set h4 (by omega) _) (by omega) _⟩
    · rw [List.getElem?_set_ne (by omega), List.getElem?_set_ne (by omega)]
      exact h1
    · rw [List.getElem?_set_ne (by omega), List.getElem?_set_ne (by omega)]
      exact h2
theorem FilledN.rn {wr : World} {g : Nat} {ns : List ND} (h : FilledN wr g ns ns.length) : RN wr wr.heap.size (some ⟨g, 0, none⟩) ns := by
  obtain ⟨xs, FA, FK, FC, FD, ho, hx⟩ := h
  refine .inr ⟨g, 0, FA, FK, FC, FD, rfl, (ho.lt g rfl).2, fun i nd hn => ?_⟩
  have hi := (List.getElem?_eq_some_iff.1 hn).1
  obtain ⟨h1, h2, h3, h4⟩ := hx i nd hn hi
  refine ⟨?_, ?_, h3.rp, h4.ri⟩
  · rw [Nat.zero_add]
    exact (ho.cellAt (i * 2) (by omega)).trans h1
  · rw [Nat.zero_add]
    exact (ho.cellAt (i * 2 + 1) (by omega)).trans h2
/-- Nodes of the call's own, in memory from block B on. -/
def OwnN (w : World) (B : Nat) (A : Option Addr) (c : Nat) (ns : List ND) : Prop := ∃ g, A = some ⟨g, 0, none⟩ ∧ c = ns.length ∧ B ≤ g ∧ FilledN w g ns ns.length
theorem OwnN.rn {w : World} {B c : Nat} {A : Option Addr} {ns : List ND} (h : OwnN w B A c ns) : RN w w.heap.size A ns := by
  obtain ⟨g, rfl, rfl, hB, hf⟩ := h
  exact hf.rn
theorem OwnN.below {w w' : World} {B c : Nat} {A : Option Addr} {ns : List ND} (h : OwnN w B A c ns) (hb : Below w.heap.size w w') : OwnN w' B A c ns := by
  obtain ⟨g, rfl, rfl, hB, hf⟩ := h
  exact ⟨g, rfl, rfl, hB, hf.below hb⟩
def MadeN (w : World) (ns : List ND) (e : Ending) (w' : World) : Prop := ∃ A c, e = .returned (.slice A ns.length c) ∧ OwnN w' w.heap.size A c ns ∧ Below w.heap.size w w'

set_option maxHeartbeats 1000000 in
theorem toNodeS_any (A : Option Addr) (c : Nat) (ns : List ND) (w : World) (hr : RN w w.heap.size A ns) (hn : ns.length ≤ 1048576) (hs : SmallN ns) :
    Calls Try.prog 24 #[.slice A ns.length c] w (MadeN w ns) := by
  obtain ⟨i0, hi, hz0, hz1, hz2⟩ := info_parts nodeInfo
  have HSM := hid hs
  clear hs
  go_enter Try.func24, Try.ntmps24
  go_wp2_with (at_make; refine wpList_make_full _ rfl _ _ 24 rfl w.heap.size 77 i0 _ 2 Try.underlying24 hi hz0 hz1 _ _ _ _ ns.length rfl rfl rfl rfl (by rw [hz2]; omega) (by unfold maxLen; omega) (Nat.le_refl _) ?_; intro w1 hown1 hg1)
  have hb1 : Below w.heap.size w w1 := (Below.refl _ _).grown hg1 (Nat.le_refl _) (by simp)
  have HO := hid hown1
  have HB := hid hb1
  clear hown1 hg1 hb1
  go_wp2_with fail
  go_loopw [4] (fun i wr => ∃ k : Nat, k ≤ ns.length ∧ i = .int .i64 k ∧ FilledN wr w.heap.size ns k ∧ Below w.heap.size w wr) (fun i _ => ns.length - (intOf i).toNat)
  case atStart => exact ⟨0, Nat.zero_le _, rfl, FilledN.start HO.out, HB.out⟩
  case round =>
    obtain ⟨k, hk, rfl, hfl, hbw⟩ := hrel
    by_cases hlt : k < ns.length
    · obtain ⟨b, off, A', K', c', d', rfl, hb, hc1, hc2, hrp, hri⟩ := (hr.below hbw).at_ hlt
      have HF := hid hfl
      have HD := hid hbw
      have HP := hid (hrp.more hbw.size)
      have HI := hid (hri.more hbw.size)
      have hlt0 : w.heap.size < wr.heap.size := by
        obtain ⟨xs, FA, FK, FC, FD, ho, _⟩ := hfl
        exact (ho.lt _ rfl).2
      clear hfl hbw hr hrp hri
      go_wp2_with (go_at_call 75; refine (toNode_any A' c' ns[k].1 K' d' ns[k].2 _ HP.out (HSM.out k hlt).1 HI.out (HSM.out k hlt).2).mono ?_; rintro e w' ⟨A2, c2, K2, d2, rfl, hp2, hi2, hw⟩; have HF2 := hid (HF.out.below hw); obtain ⟨u, v, hu, hv⟩ := HF2.out.cells hlt; have f1 := HF2.out.frozen (k * 2); have f2 := HF2.out.frozen (k * 2 + 1); have HP2 := hid (hp2.mono' (by omega : w.heap.size + 1 ≤ _)); have HI2 := hid (hi2.mono (by omega : w.heap.size + 1 ≤ _)); clear hp2 hi2)
      refine ⟨⟨k + 1, by omega, by go_num, HF2.out.store hlt HP2.out HI2.out, ?_⟩, by simp [intOf]; omega⟩
      exact ((HD.out.trans (hw.mono HD.out.size)).setCell (by simp) _).setCell (by simp) _
    · obtain rfl : k = ns.length := by omega
      have HF := hid hfl
      have HD := hid hbw
      clear hfl hbw hr
      go_wp2_with fail
      go_ret
      exact ⟨_, _, rfl, ⟨_, rfl, rfl, Nat.le_refl _, HF.out⟩, HD.out⟩

/-! ### comparisons, of nodes that are alike -/
set_option maxHeartbeats 1000000 in
theorem eqNode_any (A : Option Addr) (c : Nat) (ps : PS) (K : Option Addr) (d : Nat) (ks : List Int) (A' : Option Addr) (c' : Nat) (K' : Option Addr) (d' : Nat) (w : World)
    (hr : RP w w.heap.size A ps) (hn : ps.length ≤ maxLen) (hk : RI w w.heap.size K ks) (hm : ks.length ≤ maxLen) (hr' : RP w w.heap.size A' ps) (hk' : RI w w.heap.size K' ks) :
    Calls Try.prog 64 #[.agg #[.slice A ps.length c, .slice K ks.length d], .agg #[.slice A' ps.length c', .slice K' ks.length d']] w fun e w' => e = .returned (.bool true) ∧ Below w.heap.size w w' := by
  have HB : Hid (∀ o o' : Obj, Below w.heap.size w ((w.alloc o).alloc o')) := fun o o' => ((Below.refl _ _).alloc (Nat.le_refl _) o).alloc (by simp) o'
  have HR := hid hr
  have HK := hid hk
  have HR' := hid hr'
  have HK' := hid hk'
  have HN := hid hn
  have HM := hid hm
  have e1 : decide (ps = ps) = true := by simp
  have e2 : decide (ks = ks) = true := by simp
  clear hr hk hr' hk' hn hm
  go_enter Try.func64, Try.ntmps64
  go_wp2_with (first
    | (go_at_call 18; refine (eqPairS_any A A' c c' ps ps _ ((HR.out.below (HB.out _ _)).more (HB.out _ _).size) ((HR'.out.below (HB.out _ _)).more (HB.out _ _).size) HN.out).mono ?_; rintro e w1 ⟨rfl, hb1⟩; have HB1 := hid ((HB.out _ _).trans (hb1.mono (HB.out _ _).size)); have hx2 : w1.cell? ⟨w.heap.size, 1, none⟩ = some (.slice K ks.length d) := (hb1.cell (p := ⟨w.heap.size, 1, none⟩) (by simp; omega)).trans (by go_simp); have hx3 : w1.cell? ⟨w.heap.size + 1, 1, none⟩ = some (.slice K' ks.length d') := (hb1.cell (p := ⟨w.heap.size + 1, 1, none⟩) (by simp)).trans (by go_simp); clear hb1)
    | (go_at_call 112; refine (eqInt64S_any K K' d d' ks ks w.heap.size _ (HK.out.below HB1.out) (HK'.out.below HB1.out) HM.out).mono ?_; rintro e w2 ⟨rfl, hw2⟩))
  go_ret
  exact ⟨rfl, HB1.out.trans (hw2.below _)⟩

set_option maxHeartbeats 1000000 in
theorem eqNodeS_any (A A' : Option Addr) (c c' : Nat) (ns : List ND) (w : World) (hr : RN w w.heap.size A ns) (hr' : RN w w.heap.size A' ns) (hf : FitsN ns) (hn : ns.length ≤ maxLen) :
    Calls Try.prog 17 #[.slice A ns.length c, .slice A' ns.length c'] w fun e w' => e = .returned (.bool true) ∧ Below w.heap.size w w' := by
  unfold maxLen at hn
  have g0 : ((ns.length : Int) != (ns.length : Int)) = false := by simp
  have HFN := hid hf
  clear hf
  go_enter Try.func17, Try.ntmps17
  go_wp2_with fail
  go_loopw [5] (fun i wr => ∃ k : Nat, k ≤ ns.length ∧ i = .int .i64 k ∧ Below w.heap.size w wr) (fun i _ => ns.length - (intOf i).toNat)
  case atStart => exact ⟨0, Nat.zero_le _, rfl, Below.refl _ w⟩
  case round =>
    obtain ⟨k, hk, rfl, hbw⟩ := hrel
    by_cases hlt : k < ns.length
    · obtain ⟨b, off, A1, K1, c1, d1, rfl, hb, hc1, hc2, hrp, hri⟩ := (hr.below hbw).at_ hlt
      obtain ⟨b', off', A2, K2, c2, d2, rfl, hb', hc3, hc4, hrp', hri'⟩ := (hr'.below hbw).at_ hlt
      have HD := hid hbw
      have HP := hid (hrp.more hbw.size)
      have HI := hid (hri.more hbw.size)
      have HP' := hid (hrp'.more hbw.size)
      have HI' := hid (hri'.more hbw.size)
      have HF := hid (HFN.out.get hlt)
      clear hbw hr hr' hrp hri hrp' hri'
      have e5 : (0 : Int) ≤ (k : Int) := by omega
      have e6 : (k : Int) < (ns.length : Int) := by omega
      go_wp2_with fail
      go_region_held3 (fun w' => w'.cell? ⟨b, off + k * 2, none⟩ = some (.slice A1 ns[k].1.length c1) ∧ w'.cell? ⟨b, off + k * 2 + 1, none⟩ = some (.slice K1 ns[k].2.length d1) ∧ w'.cell? ⟨b', off' + k * 2, none⟩ = some (.slice A2 ns[k].1.length c2) ∧ w'.cell? ⟨b', off' + k * 2 + 1, none⟩ = some (.slice K2 ns[k].2.length d2)) (go_keep)
        (first | (go_at_call 64; refine (eqNode_any A1 c1 ns[k].1 K1 d1 ns[k].2 A2 c2 K2 d2 _ (HP.out.drewN _) HF.out.2.1 (HI.out.below (Below.refl _ _).drew) HF.out.2.2 (HP'.out.drewN _) (HI'.out.below (Below.refl _ _).drew)).mono ?_; rintro e w' ⟨rfl, hw'⟩; have hz1 : w'.cell? ⟨b, off + k * 2, none⟩ = some (.slice A1 ns[k].1.length c1) := (hw'.cell (p := ⟨b, off + k * 2, none⟩) (by have := HD.out.size; simp; omega)).trans (by first | exact hc1 | go_simp); have hz2 : w'.cell? ⟨b, off + k * 2 + 1, none⟩ = some (.slice K1 ns[k].2.length d1) := (hw'.cell (p := ⟨b, off + k * 2 + 1, none⟩) (by have := HD.out.size; simp; omega)).trans (by first | exact hc2 | go_simp); have hz3 : w'.cell? ⟨b', off' + k * 2, none⟩ = some (.slice A2 ns[k].1.length c2) := (hw'.cell (p := ⟨b', off' + k * 2, none⟩) (by have := HD.out.size; simp; omega)).trans (by first | exact hc3 | go_simp); have hz4 : w'.cell? ⟨b', off' + k * 2 + 1, none⟩ = some (.slice K2 ns[k].2.length d2) := (hw'.cell (p := ⟨b', off' + k * 2 + 1, none⟩) (by have := HD.out.size; simp; omega)).trans (by first | exact hc4 | go_simp); have HW := hid (HD.out.drew.trans (hw'.mono HD.out.size)); clear hw'))
      go_wp2_with fail
      go_roundw
      case rel => exact ⟨k + 1, by omega, by go_num, HW.out⟩
      case measure => simp [intOf]; omega
    · obtain rfl : k = ns.length := by omega
      have HD := hid hbw
      clear hbw hr hr'
      go_wp2_with fail
      go_ret
      exact ⟨rfl, HD.out⟩
end Go.Proofs.Ytcjbjfhndjpmcaa
