import Derived.Test.YtcjbjfhndjpmcaaPk07
import Derived.Deep.AppendLies
import Derived.Deep.RegionLaw
/-
  The model's l2In: a tree made of a list of nodes.
-/
namespace Go.Proofs.Ytcjbjfhndjpmcaa
open Go.RowKit

theorem own_set' {w : World} {B : Nat} {e : TypeId} {size n : Nat} {v : Value} {xs : List Value} (h : w.ownsRow B e size v n xs) {g j : Nat} (hg : g < B) (u : Value) : (w.setCell ⟨g, j, none⟩ u).ownsRow B e size v n xs :=
  ownsRow_setCell_below h (a := ⟨g, j, none⟩) hg u
/-- A tree and where its value lies. -/
structure TH where
  A : Option Addr
  c : Nat
  K : Option Addr
  d : Nat
  t : BT
def thc : List TH → List Value
  | [] => []
  | x :: r => .slice x.A x.t.ps.length x.c :: .slice x.K x.t.ks.length x.d :: thc r
theorem thc_length : ∀ L : List TH, (thc L).length = L.length * 2
  | [] => rfl
  | x :: r => by simp [thc, thc_length r]; omega
theorem thc_append : ∀ a b : List TH, thc (a ++ b) = thc a ++ thc b
  | [], _ => rfl
  | x :: r, b => by simp [thc, thc_append r b]
theorem thc_0 : ∀ (L : List TH) (i : Nat) (x : TH), L[i]? = some x → (thc L)[i * 2]? = some (.slice x.A x.t.ps.length x.c)
  | [], _, _, h => by simp at h
  | y :: r, 0, x, h => by simp at h; subst h; rfl
  | y :: r, i + 1, x, h => by
    simp only [List.getElem?_cons_succ] at h
    rw [show (i + 1) * 2 = i * 2 + 1 + 1 by omega]
    simpa [thc] using thc_0 r i x h
theorem thc_1 : ∀ (L : List TH) (i : Nat) (x : TH), L[i]? = some x → (thc L)[i * 2 + 1]? = some (.slice x.K x.t.ks.length x.d)
  | [], _, _, h => by simp at h
  | y :: r, 0, x, h => by simp at h; subst h; rfl
  | y :: r, i + 1, x, h => by
    simp only [List.getElem?_cons_succ] at h
    rw [show (i + 1) * 2 + 1 = (i * 2 + 1) + 1 + 1 by omega]
    simpa [thc] using thc_1 r i x h
def TH.cap (x : TH) : Prop := x.t.ps.length ≤ x.c ∧ x.c ≤ maxLen ∧ x.t.ks.length ≤ x.d ∧ x.d ≤ maxLen

/-- A row of trees of the call's own. -/
def KidsT (w : World) (lo : Nat) (K : Option Addr) (d : Nat) (L : List TH) : Prop :=
  w.ownsRow lo 67 2 (.slice K L.length d) L.length (thc L) ∧
    ∃ S : Nat → Prop, (∀ b, S b → lo ≤ b ∧ b < w.heap.size ∧ Value.ownBlock (.slice K L.length d) ≠ some b) ∧ ∀ x ∈ L, RT w S x.A x.K x.t ∧ x.cap
theorem KidsT.nil (w : World) (lo : Nat) : KidsT w lo none 0 [] :=
  ⟨World.ownsRow_nil _ _ _ _, fun _ => False, fun _ h => h.elim, fun _ h => by simp at h⟩
theorem KidsT.below {w w' : World} {lo d : Nat} {K : Option Addr} {L : List TH} (h : KidsT w lo K d L) (hb : Below w.heap.size w w') : KidsT w' lo K d L := by
  obtain ⟨h1, S, h2, h3⟩ := h
  refine ⟨ownsRow_keep h1 fun k hk => hb.block k (h1.lt k hk).2, S, fun b hS => ?_, fun x hx => ?_⟩
  · obtain ⟨a1, a2, a3⟩ := h2 b hS
    exact ⟨a1, Nat.lt_of_lt_of_le a2 hb.size, a3⟩
  · exact ⟨(h3 x hx).1.keep (fun b hS => hb.block b (h2 b hS).2.1) (fun _ h => h), (h3 x hx).2⟩
/-- A cell of another block is turned. -/
theorem KidsT.set {w : World} {lo d : Nat} {K : Option Addr} {L : List TH} (h : KidsT w lo K d L) {g j : Nat} (hg : g < lo) (u : Value) : KidsT (w.setCell ⟨g, j, none⟩ u) lo K d L := by
  obtain ⟨h1, S, h2, h3⟩ := h
  refine ⟨own_set' h1 hg u, S, fun b hS => ?_, fun x hx => ⟨(h3 x hx).1.keep (fun b hS => ?_) (fun _ h => h), (h3 x hx).2⟩⟩
  · obtain ⟨a1, a2, a3⟩ := h2 b hS
    exact ⟨a1, by simpa using a2, a3⟩
  · exact Below.heap_setCell _ _ _ _ (by have := (h2 b hS).1; simp; omega)
/-- One tree more, in memory that was new. -/
theorem KidsT.push {w w' : World} {lo lo2 d : Nat} {K : Option Addr} {L : List TH} (h : KidsT w lo K d L) {x : TH} (hx : RT w (fun b => lo2 ≤ b ∧ b < w.heap.size) x.A x.K x.t) (hc : x.cap) (hlo : lo ≤ lo2)
    (hk : ∀ k, Value.ownBlock (.slice K L.length d) = some k → k < lo2) {K' : Option Addr} {d' : Nat}
    (hown : w'.ownsRow lo 67 2 (.slice K' (L.length + 1) d') (L.length + 1) (thc (L ++ [x]))) (hgr : w.grownBy w' (Value.ownBlock (.slice K L.length d)))
    (hat : ∀ k, Value.ownBlock (.slice K' (L.length + 1) d') = some k → Value.ownBlock (.slice K L.length d) = some k ∨ w.heap.size ≤ k) : KidsT w' lo K' d' (L ++ [x]) := by
  obtain ⟨h1, S, h2, h3⟩ := h
  refine ⟨by simpa using hown, fun b => S b ∨ (lo2 ≤ b ∧ b < w.heap.size), fun b hS => ?_, fun y hy => ?_⟩
  · have hne : Value.ownBlock (.slice K L.length d) ≠ some b := by
      rcases hS with hS | hS
      · exact (h2 b hS).2.2
      · intro e
        have := hk b e
        omega
    have hb : lo ≤ b ∧ b < w.heap.size := by
      rcases hS with hS | hS
      · exact ⟨(h2 b hS).1, (h2 b hS).2.1⟩
      · omega
    refine ⟨hb.1, Nat.lt_of_lt_of_le hb.2 hgr.size, fun e => ?_⟩
    rcases hat b (by simpa using e) with e' | e'
    · exact hne e'
    · omega
  · rcases List.mem_append.1 hy with hy | hy
    · refine ⟨(h3 y hy).1.keep (fun b hS => ?_) (fun _ h => .inl h), (h3 y hy).2⟩
      obtain ⟨a1, a2, a3⟩ := h2 b hS
      exact hgr.block b a2 (fun e => a3 e.symm)
    · have : y = x := by simpa using hy
      subst this
      refine ⟨hx.keep (fun b hS => ?_) (fun _ h => .inr h), hc⟩
      exact hgr.block b hS.2 (fun e => by have := hk b e.symm; omega)
/-- The whole. -/
theorem KidsT.rt {w : World} {lo d : Nat} {K : Option Addr} {L : List TH} (h : KidsT w lo K d L) {S : Nat → Prop} {A : Option Addr} {ps : PS} (hp : RPS w S A ps) :
    RT w (fun b => S b ∨ (lo ≤ b ∧ b < w.heap.size)) A K (.node ps (L.map TH.t)) := by
  obtain ⟨h1, T, h2, h3⟩ := h
  have hget : ∀ (i : Nat) (t : BT), (L.map TH.t)[i]? = some t → ∃ x, L[i]? = some x ∧ x.t = t := fun i t ht => by
    rw [List.getElem?_map] at ht
    cases hx : L[i]? with
    | none => rw [hx] at ht; cases ht
    | some x => rw [hx] at ht; exact ⟨x, rfl, Option.some.inj ht⟩
  rcases h1.2 with ⟨hv, hn⟩ | ⟨g, cap, cur, hv, hr⟩
  · have : L = [] := List.eq_nil_of_length_eq_zero hn
    subst this
    exact .node 0 0 (fun _ => none) (fun _ => none) (fun _ => 0) (fun _ => 0) (hp.keep (fun _ _ => rfl) (fun _ h => .inl h)) (.inl rfl) (fun i t ht => by simp at ht) (fun i t ht => by simp at ht)
  · injection hv with e1 _ e3
    subst e1 e3
    have hl := h1.lt g rfl
    refine .node g 0 (fun i => (L.getD i ⟨none, 0, none, 0, .node [] []⟩).A) (fun i => (L.getD i ⟨none, 0, none, 0, .node [] []⟩).K) (fun i => (L.getD i ⟨none, 0, none, 0, .node [] []⟩).c) (fun i => (L.getD i ⟨none, 0, none, 0, .node [] []⟩).d)
      (hp.keep (fun _ _ => rfl) (fun _ h => .inl h)) (.inr ⟨rfl, .inr hl⟩) (fun i t ht => ?_) (fun i t ht => ?_)
    · obtain ⟨x, hx, rfl⟩ := hget i t ht
      have hi := (List.getElem?_eq_some_iff.1 hx).1
      have e : L.getD i ⟨none, 0, none, 0, .node [] []⟩ = x := by rw [List.getD_eq_getElem?_getD, hx]; rfl
      simp only [e, Nat.zero_add]
      exact ⟨(h1.cellAt (i * 2) (by omega)).trans (thc_0 L i x hx), (h1.cellAt (i * 2 + 1) (by omega)).trans (thc_1 L i x hx)⟩
    · obtain ⟨x, hx, rfl⟩ := hget i t ht
      have e : L.getD i ⟨none, 0, none, 0, .node [] []⟩ = x := by rw [List.getD_eq_getElem?_getD, hx]; rfl
      simp only [e]
      exact (h3 x (List.mem_of_getElem? hx)).1.keep (fun _ _ => rfl) (fun b hS => .inr ⟨(h2 b hS).1, (h2 b hS).2.1⟩)

/-- What l2In answers: a tree in new memory. -/
def MadeT (w : World) (t : BT) (e : Ending) (w' : World) : Prop :=
  ∃ x : TH, Hid (x.t = t) ∧ e = .returned (.agg #[.slice x.A x.t.ps.length x.c, .slice x.K x.t.ks.length x.d]) ∧ RT w' (fun b => w.heap.size ≤ b ∧ b < w'.heap.size) x.A x.K x.t ∧ x.cap ∧ Below w.heap.size w w'
theorem l2TInfo : (Try.prog.info? 67).map (fun i => (i.zero, i.size, i.bytes)) = some (some (.agg #[.slice none 0 0, .slice none 0 0]), 2, 48) := by kernel_rfl

theorem own_cap {w : World} {B : Nat} {e : TypeId} {size n c : Nat} {A : Option Addr} {xs : List Value} (h : w.ownsRow B e size (.slice A n c) n xs) : n ≤ c ∧ c ≤ maxLen := by
  rcases h.2 with ⟨hv, hn⟩ | ⟨g, cap, cur, hv, _, _, h1, h2, _⟩
  · injection hv with _ _ hd
    exact ⟨by omega, by omega⟩
  · injection hv with _ _ hd
    exact ⟨by omega, by omega⟩
/-- The end of l2In. -/
theorem in_end {w wq : World} {go c d : Nat} {A K : Option Addr} {ps : PS} {L : List TH} {ts : List BT} (hts : L.map TH.t = ts) (hgo : w.heap.size + 1 ≤ go) (ho : OwnP wq (w.heap.size + 1) A c ps) (hk : KidsT wq (go + 1) K d L) (hb : Below w.heap.size w wq) :
    MadeT w (.node ps ts) (.returned (.agg #[.slice A ps.length c, .slice K L.length d])) wq := by
  subst hts
  refine ⟨⟨A, c, K, d, .node ps (L.map TH.t)⟩, rfl, by simp [BT.ps, BT.ks], ?_, ?_, hb⟩
  · refine (hk.rt (RPS.of_own ho)).keep (fun _ _ => rfl) (fun b h => ?_)
    rcases h with h | h
    · have := ho.size b h
      omega
    · omega
  · have h1 := own_cap ho
    have h2 := own_cap hk.1
    exact ⟨h1.1, h1.2, by simpa [BT.ks] using h2.1, h2.2⟩
/-- What one append does. -/
theorem in_step {wr w3 w4 : World} {go d2 gg cap : Nat} {K2 : Option Addr} {L : List TH} {a : Value} {x : TH} {o : Obj} (hr : Row2 wr go 67 a (.slice K2 L.length d2)) (hk : KidsT wr (go + 1) K2 d2 L) (hb3 : Below wr.heap.size wr.drew w3)
    (hrt : RT w3 (fun b => wr.heap.size ≤ b ∧ b < w3.heap.size) x.A x.K x.t) (hc : x.cap)
    (hown4 : w4.ownsRow (go + 1) 67 2 (.slice (some ⟨gg, 0, none⟩) (L.length + 1) cap) (L.length + 1) (thc L ++ [.slice x.A x.t.ps.length x.c, .slice x.K x.t.ks.length x.d]))
    (hgrow4 : (w3.alloc o).grownBy w4 (Value.ownBlock (.slice K2 L.length d2))) (hat4 : Value.ownBlock (.slice K2 L.length d2) = some gg ∨ gg = w3.heap.size + 1) :
    Row2 w4 go 67 a (.slice K2 L.length d2) ∧ KidsT w4 (go + 1) (some ⟨gg, 0, none⟩) cap (L ++ [x]) ∧ Below go wr w4 := by
  have hgo := hr.lt
  have hbd : Below wr.heap.size wr w3 := ((Below.refl _ _).drew).trans hb3
  have hba : Below w3.heap.size w3 (w3.alloc o) := (Below.refl _ _).alloc (Nat.le_refl _) o
  have hb5 : Below wr.heap.size wr (w3.alloc o) := hbd.trans (hba.mono hbd.size)
  have hkl := hk.1.lt
  have hk3 := (hk.below hbd).below hba
  have hs3 := hb3.size
  refine ⟨((hr.below hb5)).kept hgrow4 (.inr (fun e => by
    have := hkl go (by rw [← e]; rfl)
    omega)), ?_, ?_⟩
  · refine KidsT.push hk3 (lo2 := wr.heap.size) (hrt.keep (fun b h => hba.block b h.2) (fun b h => ⟨h.1, by simp; omega⟩)) hc (by omega) (fun k e => (hkl k e).2) ?_ hgrow4 (fun k e => ?_)
    · rw [thc_append]
      exact hown4
    · have e' : gg = k := by simpa [Value.ownBlock] using e
      subst e'
      rcases hat4 with h | h
      · exact .inl h
      · right
        simp
        omega
  · exact (hb5.mono (by omega)).grown hgrow4 (by have := hb5.size; omega) (fun k e => by have := hkl k e; omega)

set_option maxHeartbeats 4000000 in
set_option maxRecDepth 100000 in
theorem spec_l2In (A : Option Addr) (c : Nat) (ns : List ND) (B : Nat) (hl : ns.length ≤ 100) (hks : SmallK ns) (hps : ∀ (k : Nat) (h : k < ns.length), ns[k].1.length ≤ 1048576) : ∀ (f n : Nat) (t : BT) (e : Nat) (w : World), RN w B A ns → B ≤ w.heap.size → n < ns.length → parse ns f n = some (t, e) →
    Calls Try.prog 73 #[.slice A ns.length c, .int .i64 (n : Int)] w (MadeT w t)
  | 0, n, t, e, w, _, _, _, hp => by simp [parse] at hp
  | f + 1, n, t, e, w, hr, hB, hn, hp => by
    rw [parse_node hn] at hp
    cases hkb : kidsBy (parse ns f) ns.length ns[n].2 (n + 1) with
    | none => rw [hkb] at hp; cases hp
    | some y =>
    obtain ⟨ts, e2⟩ := y
    rw [hkb] at hp
    simp only [Option.some.injEq, Prod.mk.injEq] at hp
    obtain ⟨rfl, rfl⟩ := hp
    obtain ⟨hkl, hka⟩ := kidsBy_at hkb
    obtain ⟨i0, hi0, hz0, hz1, hz2⟩ := info_parts l2TInfo
    obtain ⟨b, off, A', K', c', d', rfl, hb, hc1, hc2, hrp, hri⟩ := hr.at_ hn
    have hpn := hps n hn
    have hkn := hks n hn
    have IH := hid (spec_l2In (some ⟨b, off, none⟩) c ns B hl hks hps f)
    have HR := hid hr
    have HRI := hid hri
    have HKA := hid hka
    have HKL := hid hkl
    have e5 : (0 : Int) ≤ (n : Int) := by omega
    have e6 : (n : Int) < (ns.length : Int) := by omega
    have HB0 : Hid (Below w.heap.size w (w.alloc (.cells #[.slice none 0 0, .slice none 0 0] 67))) := (Below.refl _ _).alloc (Nat.le_refl _) _
    have HRP := hid ((hrp.below ((HB0.out).mono hB)).more (B' := (w.alloc (.cells #[.slice none 0 0, .slice none 0 0] 67)).heap.size) (by simp; omega))
    have hbw : b < w.heap.size := by omega
    have hc1' := (HB0.out.cell (p := ⟨b, off + n * 2, none⟩) hbw).trans hc1
    have HC2 : Hid (∀ W : World, Below w.heap.size w W → W.cell? ⟨b, off + n * 2 + 1, none⟩ = some (.slice K' ns[n].2.length d')) := fun W h => (h.cell (p := ⟨b, off + n * 2 + 1, none⟩) hbw).trans hc2
    clear hr hrp hri hka hkl hkb hc1 hc2
    go_enter Try.func73, Try.ntmps73
    go_wp2_with fail
    refine (spec_l1CopyMap A' c' ns[n].1 _ HRP.out hpn).mono ?_
    rintro e w1 ⟨A1, c1, rfl, ho1, hb1⟩
    have hb1' : Below w.heap.size w w1 := HB0.out.trans (hb1.mono (HB0.out).size)
    have hsz1 : w.heap.size + 1 ≤ w1.heap.size := by have := hb1.size; simpa using this
    have r1 : Row2 w1 w.heap.size 67 (.slice none 0 0) (.slice none 0 0) := (Row2.lit w 67 (.slice none 0 0) (.slice none 0 0)).below hb1
    have hb2 : Below w1.heap.size w1 (w1.alloc (.cells #[.slice A1 ns[n].1.length c1, .slice none 0 0] 67)) := (Below.refl _ _).alloc (Nat.le_refl _) _
    have r2 := Row2.lit w1 67 (.slice A1 ns[n].1.length c1) (.slice none 0 0)
    have HX := hid hb1'
    have HB2 := hid hb2
    have HR1 := hid r1
    have HR2 := hid r2
    have HO1 := hid (by simpa using ho1 : OwnP w1 (w.heap.size + 1) A1 c1 ns[n].1)
    have hbw1 : b < w1.heap.size := by omega
    clear ho1 hb1 hb1' r1 hb2 r2 hc1'
    go_wp2_with fail
    go_loopw [6] (fun i wr => ∃ (k m : Nat) (L : List TH) (K2 : Option Addr) (d2 : Nat), k ≤ ns[n].2.length ∧ i = .int .i64 k ∧ Hid (L.map TH.t = ts.take k) ∧ Hid (m = L.length) ∧ Row2 wr w1.heap.size 67 (.slice A1 ns[n].1.length c1) (.slice K2 m d2) ∧ KidsT wr (w1.heap.size + 1) K2 d2 L ∧ Below w1.heap.size w1 wr) (fun i _ => ns[n].2.length - (intOf i).toNat)
    case atStart => exact ⟨0, 0, [], none, 0, Nat.zero_le _, rfl, rfl, rfl, HR2.out, KidsT.nil _ _, HB2.out⟩
    case round =>
      obtain ⟨k, m, L, K2, d2, hk, rfl, HMAP, HM, hr2, hkt, hbw2⟩ := hrel
      obtain rfl : m = L.length := HM.out
      clear HM
      have HD := hid hbw2
      have HK := hid hkt
      have HRW := hid hr2
      have HXW := hid (HX.out.trans (hbw2.mono (by omega)))
      have y1 := HC2.out _ HXW.out
      have x1 := hr2.c1
      have fz1 := hr2.fz 1
      have hgo := hr2.lt
      clear hbw2 hkt hr2
      by_cases hlt : k < ns[n].2.length
      · obtain ⟨b2, off2, rfl, hb2, hc3⟩ := HRI.out.at_ hlt
        have hlt2 : k < ts.length := by rw [HKL.out]; exact hlt
        obtain ⟨q, q', _, he, hq, hpq⟩ := HKA.out k hlt hlt2
        have e7 : (k : Int) < (ns[n].2.length : Int) := by omega
        have e8 : (0 : Int) ≤ (k : Int) := by omega
        have hbz2 : b2 < wr.heap.size := by omega
        have hbz1 : b < wr.heap.size := by omega
        rw [he] at hc3
        have z1 := (HXW.out.cell (p := ⟨b2, off2 + k, none⟩) (by show b2 < _; omega)).trans hc3
        have HPQ := hid hpq
        have hLk : L.length ≤ 1048576 := by
          have := congrArg List.length HMAP.out
          rw [List.length_map, List.length_take] at this
          omega
        have hlk2 : (L.length + 1) * 48 ≤ 140737488355328 := by omega
        have hlk3 : L.length + 1 ≤ maxLen := by unfold maxLen; omega
        have HOK := hid (fun k h => (HK.out.1.lt k h))
        clear he hc3 hpq
        go_wp2_with fail
        go_region_law (first
          | (refine step_append_lies _ (by rfl) _ _ _ (by rfl) (w1.heap.size + 1) 67 i0 _ 2 48 Try.underlying64 hi0 hz0 hz1 hz2 rfl (by omega) (.slice K2 L.length d2) L.length (thc L) (by rfl) (HK3.out.1.alloc _)
              ⟨w3.heap.size, 0, none⟩ 1 1 [.slice x.A x.t.ps.length x.c, .slice x.K x.t.ks.length x.d] (by rfl) (by rfl) (World.news_of_block (cs := #[.slice x.A x.t.ps.length x.c, .slice x.K x.t.ks.length x.d]) (t := 67) (fr := (0, 0)) (heap_alloc_new w3 _)) (by simp [Value.oneCell'])
              (by omega) hlk3 hlk2 (by simp; omega) (w3.heap.size + 1) (by simp) ?_; intro gg cap w4 hown4 hgrow4 hat4 hlt4; obtain ⟨hr4, hk4, hb4⟩ := in_step HRW.out HK.out HB3.out HRT3.out HCAP.out hown4 hgrow4 hat4; have x4 := hr4.c1; have f4 := hr4.fz 1; have HR4 := hid hr4; have HK4 := hid hk4; have HB4 := hid hb4; clear hr4 hk4 hb4 hown4 hgrow4 hat4)
          | (go_simp; go_at_call 73; refine (IH.out q ts[k] q' _ (HR.out.below ((HXW.out.drew).mono hB)) (by have := HXW.out.size; simp; omega) hq HPQ.out).mono ?_; rintro e w3 ⟨x, HXT, rfl, hrt, hcap, hb3⟩; have HK3 := hid ((HK.out.below (Below.refl _ _).drew).below hb3); have HRT3 := hid hrt; have HCAP := hid hcap; have HB3 := hid hb3; have x3 := (hb3.cell (p := ⟨w1.heap.size, 1, none⟩) hgo).trans x1; have hgo3 := Nat.lt_of_lt_of_le hgo hb3.size; clear hrt hcap hb3))
        all_goals
          go_wp2_with fail
          go_roundw
          case rel => exact ⟨k + 1, L.length + 1, L ++ [x], some ⟨gg, 0, none⟩, cap, by omega, by go_num, by
              rw [Hid, List.map_append, HMAP.out, List.take_succ_eq_append_getElem hlt2]
              simp [HXT.out], by simp [Hid], HR4.out.s1 _, HK4.out.set (by omega) _, HD.out.trans (HB4.out.setCell (by simp) _)⟩
          case measure => simp [intOf]; omega
      · obtain rfl : k = ns[n].2.length := by omega
        have HTS : Hid (L.map TH.t = ts) := by
          have := HMAP.out
          rwa [List.take_of_length_le (by rw [HKL.out]; omega)] at this
        have x0 := HRW.out.c0
        have HR1W := hid (HR1.out.below HD.out)
        have HOW := hid (HO1.out.below HD.out)
        have v0 := HR1W.out.c0
        have v1 := HR1W.out.c1
        have g0 := HR1W.out.fz 0
        have g1 := HR1W.out.fz 1
        have hne : w1.heap.size ≠ w.heap.size := by omega
        go_wp2_with fail
        have U1 := HR1W.out.s0 (.slice A1 ns[n].1.length c1)
        refine world_post (S := fun wq => Row2 wq w.heap.size 67 (.slice A1 ns[n].1.length c1) (.slice K2 L.length d2) ∧ MadeT w (.node ns[n].1 ts) (.returned (.agg #[.slice A1 ns[n].1.length c1, .slice K2 L.length d2])) wq) _
          ⟨U1.s1 _, in_end HTS.out hsz1 (own_set' (own_set' HOW.out (by omega) _) (by omega) _) ((HK.out.set (by omega) _).set (by omega) _) ((HXW.out.setCell (by simp) _).setCell (by simp) _)⟩ ?_
        clear x0 x1 v0 v1 g0 g1 U1 y1 fz1
        intro wq ⟨hq, hm⟩
        have q0 := hq.c0
        have q1 := hq.c1
        exact bodyPost_ret (v := .agg #[.slice A1 ns[n].1.length c1, .slice K2 L.length d2]) (by simp [results, Try.results73, go_sem, q0, q1]) rfl hm
end Go.Proofs.Ytcjbjfhndjpmcaa
