/-
  The program's inTurn: the pairs of a right tree with their places, to a loop over it.
-/
import Derived.Test.YtaiehccpefjbfabGive
namespace Go.Proofs.Ytaiehccpefjbfab
open Go.RowKit Go.Shelf

attribute [local go_sem] Oper.semAt_some

/-- The pairs with their places. -/
def turn (qs : PS) : List (Nat × BB) := qs.zipIdx.map fun x => (x.2, x.1)
theorem turn_snoc (qs : PS) (p : BB) : turn (qs ++ [p]) = turn qs ++ [(qs.length, p)] := by simp [turn, List.zipIdx_append]
theorem turn_length (qs : PS) : (turn qs).length = qs.length := by simp [turn]
theorem turn_nil : turn [] = [] := rfl
theorem turn_prefix {r l : PS} (h : r <+: l) : turn r <+: turn l := by
  obtain ⟨s, rfl⟩ := h
  exact ⟨(s.zipIdx r.length).map fun x => (x.2, x.1), by simp [turn, List.zipIdx_append]⟩
/-- What a round is handed. -/
def encT (x : Nat × BB) : Array Value := #[.int .i64 (x.1 : Int), .agg #[.string x.2.1, .string x.2.2]]

theorem grown_of_below {w w' : World} (h : Below w.heap.size w w') : w.grownBy w' none := ⟨h.os, h.tape, h.output, h.size, fun k hk _ => h.block k hk⟩
theorem AbX.below {α : Type} {B : Nat} {J : Nat → List α → World → Prop} (h : AbX B J) {k : Nat} {pre : List α} {W W' : World} (hs : J k pre W) (hb : Below W.heap.size W W') : J k pre W' :=
  h _ _ _ _ none hs (grown_of_below hb) (fun r e => by cases e)
theorem AbX.set {α : Type} {B : Nat} {J : Nat → List α → World → Prop} (h : AbX B J) {k g j : Nat} {pre : List α} {W : World} (hs : J k pre W) (h1 : B ≤ g) (h2 : g < k) (v : Value) : J k pre (W.setCell ⟨g, j, none⟩ v) :=
  h _ _ _ _ (some g) hs ⟨rfl, rfl, rfl, (KeepsWalks.setCell W _ v).size, fun k' _ hk => Below.heap_setCell _ _ _ k' (fun e => hk (by rw [e]))⟩ (fun r e => by cases e; exact ⟨h1, h2⟩)

theorem hdw (k : Nat) : Fence.wide.depth.isSome = true → 1 ≤ k := fun h => by cases h

set_option maxHeartbeats 4000000 in
set_option maxRecDepth 100000 in
/-- The closure that counts. -/
theorem impl_counts (n₀ B l nb yb : Nat) (hn : n₀ ≤ B) (hB : B ≤ yb) (hy : yb < nb) (N : Nat) (hN : N ≤ 4000) (J Jx : Nat → List (Nat × BB) → World → Prop) (hJ : AbX B J)
    (hY : ∀ m h pre x W1, B ≤ h → h ≤ W1.heap.size → J h pre W1 → pre.length < N → YieldAt Fence.wide m Try.prog l (encT x) W1 fun e W' =>
      (e = .returned (.bool true) ∧ J h (pre ++ [x]) W' ∧ KeptX n₀ B h W1 W') ∨ (e = .returned (.bool false) ∧ Jx h (pre ++ [x]) W'))
    (qs : PS) (p : BB) (w : World) (hj : J (nb + 1) (turn qs) w) (h1 : One w nb (.int .i64 ((qs.length : Nat) : Int)) 2) (h2 : One w yb (.func (.yield l) #[] #[]) 57) (hlen : qs.length < N) :
    Calls Try.prog 63 #[.agg #[.string p.1, .string p.2], .pointer (some ⟨nb, 0, none⟩), .pointer (some ⟨yb, 0, none⟩)] w fun e w' =>
      (e = .returned (.bool true) ∧ (J (nb + 1) (turn (qs ++ [p])) w' ∧ One w' nb (.int .i64 (((qs ++ [p]).length : Nat) : Int)) 2 ∧ One w' yb (.func (.yield l) #[] #[]) 57) ∧ KeptX n₀ B nb w w') ∨
      (e = .returned (.bool false) ∧ Jx (nb + 1) (turn (qs ++ [p])) w') := by
  have hq : qs.length < 4000 := by omega
  have c1 := h1.c
  have z1 := h1.fz
  have c2 := h2.c
  have hlt := h1.lt
  have hlt2 := h2.lt
  have H1 := hid h1
  have H2 := hid h2
  have HJ := hid hj
  have HNB : Hid (n₀ ≤ B ∧ B ≤ yb ∧ yb < nb) := ⟨hn, hB, hy⟩
  have hne : nb ≠ w.heap.size := by omega
  have hne2 : yb ≠ nb := by omega
  have hne3 : yb ≠ w.heap.size := by omega
  have hYW : ∀ v, YieldAt Fence.wide 2 Try.prog l #[.int .i64 ((qs.length : Nat) : Int), .agg #[.string p.1, .string p.2]] ((w.setCell ⟨nb, 0, none⟩ v).alloc (.cells #[.string p.1, .string p.2] 25)) fun e W' =>
      (e = .returned (.bool true) ∧ J (nb + 1) (turn (qs ++ [p])) W' ∧ KeptX n₀ B (nb + 1) ((w.setCell ⟨nb, 0, none⟩ v).alloc (.cells #[.string p.1, .string p.2] 25)) W') ∨ (e = .returned (.bool false) ∧ Jx (nb + 1) (turn (qs ++ [p])) W') := fun v => by
    have := hY 2 (nb + 1) (turn qs) (qs.length, p) ((w.setCell ⟨nb, 0, none⟩ v).alloc (.cells #[.string p.1, .string p.2] 25)) (by omega) (by have h5 := (KeepsWalks.setCell w ⟨nb, 0, none⟩ v).size; rw [World.size_alloc]; omega)
      (hJ.alloc _ (hJ.set HJ.out (by omega) (by omega) v)) (by rw [turn_length]; exact hlen)
    rw [← turn_snoc] at this
    exact this
  have HYW := hid hYW
  obtain ⟨fn, tmps, assign, body, hrun, hR⟩ := hYW (.int .i64 ((qs.length : Int) + 1))
  have HO : Hid (∀ v, One ((w.setCell ⟨nb, 0, none⟩ v).alloc (.cells #[.string p.1, .string p.2] 25)) nb v 2 ∧ One ((w.setCell ⟨nb, 0, none⟩ v).alloc (.cells #[.string p.1, .string p.2] 25)) yb (.func (.yield l) #[] #[]) 57 ∧
      KeptX n₀ B nb w ((w.setCell ⟨nb, 0, none⟩ v).alloc (.cells #[.string p.1, .string p.2] 25))) := fun v =>
    have h5 := (KeepsWalks.setCell w ⟨nb, 0, none⟩ v).size
    ⟨(H1.out.set v).below ((Below.refl _ _).alloc (Nat.le_refl _) _), (H2.out.other hne2 v).below ((Below.refl _ _).alloc (Nat.le_refl _) _),
      ((KeptX.refl n₀ B nb w).set (by omega) (.inr (Nat.le_refl _)) v).alloc (by omega) (by omega) _⟩
  clear h1 h2 hj hYW hn hB hy
  refine callsIn_wide (n := 3) |>.1 ?_
  refine callsIn_of_wp Try.func63 rfl trivial ?_ rfl
  simp only [Try.ntmps63, List.size_toArray, List.length_cons, List.length_nil, Nat.reduceAdd, Nat.reduceSub, Array.replicate_succ, Array.replicate_zero, List.push_toArray, List.append_toArray, List.nil_append, List.cons_append]
  gi_wp2_with ((try refine ⟨hdw _, ?_⟩); refine hR.mono ?_; clear hR hrun; rintro e W2 (⟨rfl, hj2, hk2⟩ | ⟨rfl, hx2⟩))
  · have HJ2 := hid hj2
    have HK2 := hid hk2
    clear hj2 hk2
    gi_wp2
    go_ret
    obtain ⟨o1, o2, k1⟩ := HO.out (.int .i64 ((qs.length : Int) + 1))
    have h6 : nb < (w.setCell ⟨nb, 0, none⟩ (.int .i64 ((qs.length : Int) + 1))).heap.size := Nat.lt_of_lt_of_le hlt (KeepsWalks.setCell w ⟨nb, 0, none⟩ _).size
    have := HNB.out
    refine .inl ⟨rfl, ⟨HJ2.out, ?_, ?_⟩, k1.trans (HK2.out.mono (Nat.le_refl _) (Nat.le_refl _) (by omega))⟩
    · have h7 := (HK2.out.iv nb (by omega) (by omega)).trans o1
      simpa [One] using h7
    · exact (HK2.out.iv yb (by omega) (by omega)).trans o2
  · have HX2 := hid hx2
    clear hx2
    gi_wp2
    go_ret
    exact .inr ⟨rfl, HX2.out⟩

set_option maxHeartbeats 4000000 in
set_option maxRecDepth 100000 in
/-- **The iterator that inTurn answers.** -/
theorem inTurn_seq (tb n₀ : Nat) (T : Nat → Prop) (A : Option Addr) (c : Nat) (ns : List ND) (w : World) (hn : n₀ ≤ w.heap.size) (hr : RN w n₀ A ns) (hf : FitsN ns) (hs : SmallN ns) (hl : ns.length ≤ 1048576) (htb : One w tb (.slice A ns.length c) 28) :
    SeqX Try.prog 60 #[.pointer (some ⟨tb, 0, none⟩)] encT n₀ T (fun xs => xs = turn (pairsOf ns)) (fun pre => pre <+: turn (pairsOf ns)) (pairsOf ns).length w := by
  intro n l J Jx W hW hn₀ hJ hJx hG hY h0
  replace hY : ∀ m h pre x W1, W.heap.size ≤ h → h ≤ W1.heap.size → J h pre W1 → pre.length < (pairsOf ns).length → YieldAt Fence.wide m Try.prog l (encT x) W1 fun e W' =>
      (e = .returned (.bool true) ∧ J h (pre ++ [x]) W' ∧ KeptX n₀ W.heap.size h W1 W') ∨ (e = .returned (.bool false) ∧ Jx h (pre ++ [x]) W') := fun m h pre x W1 h1 h2 h3 h4 =>
    YieldAt.mono (hY m h pre x W1 h1 h2 h3 h4) (fun e W' hh => hh.imp (fun ⟨a, b, c, _⟩ => ⟨a, b, c⟩) (fun ⟨a, b, _⟩ => ⟨a, b⟩))
  refine callsIn_wide.2 ?_
  have hnW : n₀ ≤ W.heap.size := Nat.le_trans hn hW.size
  have o1 : One (W.alloc (.cells #[.func (.yield l) #[] #[]] 57)) tb (.slice A ns.length c) 28 := (htb.below hW).below ((Below.refl _ _).alloc (Nat.le_refl _) _)
  have c1 := o1.c
  have hb1 : Below W.heap.size W (W.alloc (.cells #[.func (.yield l) #[] #[]] 57)) := (Below.refl _ _).alloc (Nat.le_refl _) _
  have HRT := hid (impl_rightTreeN A c ns n₀ (W.alloc (.cells #[.func (.yield l) #[] #[]] 57)) (by simp; omega) ((hr.below (hW.mono hn)).below (hb1.mono hnW)) hf hs hl)
  have HJ1 := hid (hJ.alloc (.cells #[.func (.yield l) #[] #[]] 57) h0)
  have oy : One (W.alloc (.cells #[.func (.yield l) #[] #[]] 57)) W.heap.size (.func (.yield l) #[] #[]) 57 := One.new _ _ _
  have HOY := hid oy
  have HF := hid hf
  have HS := hid hs
  have hsz1 : (W.alloc (.cells #[.func (.yield l) #[] #[]] 57)).heap.size = W.heap.size + 1 := by simp
  have HY := hid hY
  have HG := hid hG
  have HJJ := hid hJ
  clear hr hf hs htb o1 hb1 h0 oy hY hG hJ hJx hW
  go_enter Try.func60, Try.ntmps60
  go_wp2_with fail
  refine HRT.out.mono ?_
  rintro e w1 ⟨hb1, ⟨hb, rfl⟩ | ⟨hb, t, g, ht, rfl, htr⟩⟩
  · have HE := hid (pairsOf_no hb)
    have HJ2 := hid (HJJ.out.below HJ1.out hb1)
    clear hb hb1 c1
    go_wp2_with fail
    refine bodyPost_ret (results_none rfl _ _ _) rfl ?_
    exact ⟨⟨_, rfl⟩, .inl ⟨[], _, by rw [HE.out]; rfl, Nat.le_refl _, HJ2.out⟩⟩
  · have HE := hid (pairsOf_yes hb ht)
    obtain ⟨t', ht', hrt, _, hl100⟩ := treeB_yes hb
    obtain rfl : t' = t := by rw [ht] at ht'; exact (Option.some.inj ht').symm
    obtain ⟨hz, hsm, hft⟩ := parse_good (treeOf_some ht) hl100 HS.out HF.out
    have hfu : fullT t' true = true := by simp only [rightT, Bool.and_eq_true] at hrt; exact hrt.1
    have h4 := rt_facts hfu hz
    obtain ⟨S, hot, hS⟩ := htr
    rw [hsz1] at hS
    have hsz2 : W.heap.size + 1 ≤ w1.heap.size := by have := hb1.size; omega
    have HJ2 := hid (HJJ.out.alloc (.cells #[.int .i64 ((([] : PS).length : Nat) : Int)] 2) (HJJ.out.below HJ1.out hb1))
    have HJ3 := hid (HG.out _ _ (Nat.le_refl _) HJ2.out (by simp; omega))
    rw [World.size_alloc] at HJ3
    have hbn : Below w1.heap.size w1 (w1.alloc (.cells #[.int .i64 ((([] : PS).length : Nat) : Int)] 2)) := (Below.refl _ _).alloc (Nat.le_refl _) _
    have on : One (w1.alloc (.cells #[.int .i64 ((([] : PS).length : Nat) : Int)] 2)) w1.heap.size (.int .i64 ((([] : PS).length : Nat) : Int)) 2 := One.new _ _ _
    have oy : One (w1.alloc (.cells #[.int .i64 ((([] : PS).length : Nat) : Int)] 2)) W.heap.size (.func (.yield l) #[] #[]) 57 := (HOY.out.below hb1).below hbn
    have hot2 : OT (w1.alloc (.cells #[.int .i64 ((([] : PS).length : Nat) : Int)] 2)) (· < n₀) S g t' := hot.keepB hbn (fun b hb => by
      rcases hb with hb | hb
      · exact (hS b hb).2
      · omega)
    have HC := hid (impl_giveTo n₀ W.heap.size w1.heap.size w1.heap.size W.heap.size (allT t').length hnW (by omega)
      (fun qs W' => J (w1.heap.size + 1) (turn qs) W' ∧ One W' w1.heap.size (.int .i64 ((qs.length : Nat) : Int)) 2 ∧ One W' W.heap.size (.func (.yield l) #[] #[]) 57)
      (fun qs W' => Jx (w1.heap.size + 1) (turn qs) W')
      (fun qs W' o h => ⟨HJJ.out.alloc o h.1, h.2.1.below ((Below.refl _ _).alloc (Nat.le_refl _) o), h.2.2.below ((Below.refl _ _).alloc (Nat.le_refl _) o)⟩)
      (fun qs p W' h hlt _ => impl_counts n₀ W.heap.size l w1.heap.size W.heap.size hnW (Nat.le_refl _) (by omega) (allT t').length (by omega) J Jx HJJ.out (by rw [HE.out] at HY; exact HY.out) qs p W' h.1 h.2.1 h.2.2 hlt)
      100 t' S g [] _ hz (by omega) (by omega) hot2 (fun b hb => by have := hS b hb; omega) (by simp) ⟨HJ3.out, on, oy⟩ (by simp))
    clear hb ht ht' hrt hl100 hsm hft hfu hot hS hbn on oy hot2 HJ2 HJ3 c1
    go_wp2_with fail
    refine HC.out.mono ?_
    rintro e w3 (⟨rfl, ⟨hj3, _, _⟩, hk3⟩ | ⟨rfl, r, hr, hx3⟩)
    · have HJ4 := hid hj3
      clear hj3 hk3
      go_wp2_with fail
      go_end0
      exact ⟨⟨_, rfl⟩, .inl ⟨_, _, by rw [HE.out]; rfl, by omega, HJ4.out⟩⟩
    · have HJ4 := hid hx3
      have HPR := hid hr
      clear hx3 hr
      go_wp2_with fail
      go_end0
      exact ⟨⟨_, rfl⟩, .inr ⟨turn r, _, by rw [HE.out]; exact turn_prefix HPR.out, by omega, HJ4.out⟩⟩

set_option maxHeartbeats 1000000 in
set_option maxRecDepth 100000 in
theorem impl_inTurn (A : Option Addr) (n c : Nat) (w : World) :
    Calls Try.prog 42 #[.slice A n c] w fun e w' => e = .returned (.func (.func 60) #[] #[.pointer (some ⟨w.heap.size, 0, none⟩)]) ∧ w' = w.alloc (.cells #[.slice A n c] 28) := by
  go_enter Try.func42, Try.ntmps42
  go_wp2_with fail
  go_ret
  exact ⟨rfl, rfl⟩
end Go.Proofs.Ytaiehccpefjbfab
