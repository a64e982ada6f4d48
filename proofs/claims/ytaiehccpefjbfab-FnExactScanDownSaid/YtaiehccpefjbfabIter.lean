/-
  A range over a function whose iterator keeps state of its own in cells (a captured variable): an iterator's contract, and the law of the loop over it. The blocks that the iterator has laid are an interval: the body leaves them as they lie, and what the caller says of its own cells does not mind that they are written.
-/
import Derived.RangeFuncNested
import Derived.RangeFuncBound
import Derived.RangeFuncCalls
import Derived.RangeFuncLeaves
import Derived.Shelf.Abstract
import Derived.Shelf.RegionOpen
import Derived.WalkKit
import Derived.OwnWalkIn
import Derived.TacticsInMore
import Derived.LoopNIn
import Derived.LoopIn
namespace Go.Proofs.Ytaiehccpefjbfab
open Go.RowKit Go.Shelf

/-- What is said abides new blocks, and a turn of one block of the other side's. -/
def AbX {α : Type} (B : Nat) (J : Nat → List α → World → Prop) : Prop :=
  ∀ h pre A C row, J h pre A → A.grownBy C row → (∀ r, row = some r → B ≤ r ∧ r < h) → J h pre C
/-- Ahead of the first round all that is new is the other side's. -/
def GrX {α : Type} (B : Nat) (J : Nat → List α → World → Prop) : Prop :=
  ∀ h A, B ≤ h → J h [] A → h ≤ A.heap.size → J A.heap.size [] A
/-- What a round keeps. -/
structure KeptX (n₀ B h : Nat) (W W' : World) : Prop where
  bel : Below n₀ W W'
  iv : ∀ k, B ≤ k → k < h → W'.heap[k]? = W.heap[k]?

theorem KeptX.refl (n₀ B h : Nat) (W : World) : KeptX n₀ B h W W := ⟨Below.refl _ _, fun _ _ _ => rfl⟩
theorem KeptX.trans {n₀ B h : Nat} {X Y Z : World} (a : KeptX n₀ B h X Y) (b : KeptX n₀ B h Y Z) : KeptX n₀ B h X Z := ⟨a.bel.trans b.bel, fun k h1 h2 => (b.iv k h1 h2).trans (a.iv k h1 h2)⟩
theorem KeptX.mono {n₀ n₁ B B' h h' : Nat} {W W' : World} (a : KeptX n₀ B h W W') (h0 : n₁ ≤ n₀) (h1 : B ≤ B') (h2 : h' ≤ h) : KeptX n₁ B' h' W W' := ⟨a.bel.mono h0, fun k k1 k2 => a.iv k (Nat.le_trans h1 k1) (Nat.lt_of_lt_of_le k2 h2)⟩
theorem KeptX.putObj {n₀ B h : Nat} (W : World) (r : Nat) (o o' : Obj) (ho : W.heap[r]? = some o) (hn : n₀ ≤ r) (hr : r < B ∨ h ≤ r) : KeptX n₀ B h W (W.putObj r o') :=
  ⟨(Below.refl n₀ W).grown (grownBy_putObj' W r o') (by have := (Array.getElem?_eq_some_iff.1 ho).1; omega) (fun k e => by cases e; omega), fun k h1 h2 => World.putObj_heap_other (by omega)⟩

/-- A block that is laid and then written is a new block. -/
theorem grownBy_box (W : World) (o : Obj) (v : Value) : W.grownBy ((W.alloc o).setCell ⟨W.heap.size, 0, none⟩ v) none :=
  ⟨rfl, rfl, rfl, Nat.le_trans (by simp) (KeepsWalks.setCell (W.alloc o) _ v).size, fun k hk _ => (Below.heap_setCell _ _ _ k (by show k ≠ W.heap.size; omega)).trans (Below.heap_alloc W o k hk)⟩
theorem AbX.alloc {α : Type} {B : Nat} {J : Nat → List α → World → Prop} (h : AbX B J) {k : Nat} {pre : List α} {W : World} (o : Obj) (hs : J k pre W) : J k pre (W.alloc o) :=
  h _ _ _ _ none hs (World.grownBy_alloc W o none) (fun r e => by cases e)
theorem KeptX.alloc {n₀ B h : Nat} {W W' : World} (a : KeptX n₀ B h W W') (hn : n₀ ≤ W'.heap.size) (hh : h ≤ W'.heap.size) (o : Obj) : KeptX n₀ B h W (W'.alloc o) :=
  a.trans ⟨(Below.refl _ _).alloc hn o, fun k _ hk => Below.heap_alloc _ _ _ (by omega)⟩
theorem KeptX.set {n₀ B h : Nat} {W W' : World} (a : KeptX n₀ B h W W') {g j : Nat} (hn : n₀ ≤ g) (hg : g < B ∨ h ≤ g) (v : Value) : KeptX n₀ B h W (W'.setCell ⟨g, j, none⟩ v) :=
  a.trans ⟨(Below.refl _ _).setCell (p := ⟨g, j, none⟩) hn v, fun k h1 h2 => Below.heap_setCell _ _ _ _ (by show k ≠ g; omega)⟩
theorem KeptX.of_below {n₀ B h : Nat} {W W' : World} (hb : Below W.heap.size W W') (hn : n₀ ≤ W.heap.size) (hh : h ≤ W.heap.size) : KeptX n₀ B h W W' :=
  ⟨hb.mono hn, fun k _ hk => hb.block k (by omega)⟩

def SeqX {α : Type} (P : Program) (g : Nat) (lb : Array Value) (encs : α → Array Value) (n₀ : Nat) (Q : Nat → Prop) (S Sp : List α → Prop) (N : Nat) (w : World) : Prop :=
  ∀ (n l : Nat) (J Jx : Nat → List α → World → Prop) (W : World), Below w.heap.size w W → n₀ ≤ w.heap.size → AbX W.heap.size J → AbX W.heap.size Jx → GrX W.heap.size J →
    (∀ m h pre x W1, W.heap.size ≤ h → h ≤ W1.heap.size → J h pre W1 → pre.length < N → YieldAt Fence.wide m P l (encs x) W1 fun e W' =>
      (e = .returned (.bool true) ∧ J h (pre ++ [x]) W' ∧ KeptX n₀ W.heap.size h W1 W' ∧ ∀ k, Q k → W'.heap[k]? = W1.heap[k]?) ∨ (e = .returned (.bool false) ∧ Jx h (pre ++ [x]) W' ∧ KeptX n₀ W.heap.size h W1 W')) →
    J W.heap.size [] W →
    CallsIn Fence.wide n P g (#[.func (.yield l) #[] #[]] ++ lb) W fun e W' => (∃ v, e = .returned v) ∧
      ((∃ xs h, S xs ∧ W.heap.size ≤ h ∧ J h xs W') ∨ (∃ pre h, Sp pre ∧ W.heap.size ≤ h ∧ Jx h pre W'))

/-- How a round's body may be left. -/
def postX {α : Type} (n₀ : Nat) (T : Nat → Prop) (B h : Nat) (I : List α → World → Prop) (Ix : Code → List α → World → Prop) (xs : List α) (W : World) : Exit → Act → World → Prop
  | .normal, _, W' => (KeptX n₀ B h W W' ∧ ∀ k, T k → W'.heap[k]? = W.heap[k]?) ∧ I xs W'
  | .ret, _, W' => KeptX n₀ B h W W' ∧ Ix .ret xs W'
  | .exit id, _, W' => KeptX n₀ B h W W' ∧ Ix (.exit id) xs W'
  | .goto t, _, W' => KeptX n₀ B h W W' ∧ Ix (.goto t) xs W'
  | .panic _, _, _ => False
  | .outgrown, _, _ => False

theorem wpIn_rangeFunc_X {n : Nat} {P : Program} {α : Type} {g : Operand} {ps : Array Tmp} {assign body : Code} {Q : Exit → Act → World → Prop} {a : Act} {w : World}
    {gf : Nat} {lb : Array Value} (hg : a.eval g = .func (.func gf) #[] lb) (eg : ∀ args w, (callFunc gf args).run P w = .ok (.enter gf args) w)
    {encs : α → Array Value} {n₀ : Nat} {T : Nat → Prop} {S Sp : List α → Prop} {N : Nat} {w0 : World} (hseq : SeqX P gf lb encs n₀ T S Sp N w0) (hb0 : Below w0.heap.size w0 w) (hn₀ : n₀ ≤ w0.heap.size) (hT : ∀ k, T k → k < w.heap.size) (hps : ∀ x, (encs x).size = ps.size)
    (I : Nat → List α → World → Prop) (Ix : Code → Nat → List α → World → Prop) (hI : AbX w.heap.size I) (hIx : ∀ c, AbX w.heap.size (Ix c)) (hgr : GrX w.heap.size I) (h0 : I w.heap.size [] w) (Ax : Nat → List α → α → Act → World → Prop) (hAx : ∀ x a', AbX w.heap.size (fun h pre W => Ax h pre x a' W))
    (hassign : ∀ (l m h : Nat) (pre : List α) (x : α) (W : World) (K : Act → World → Prop), w.heap.size + 2 ≤ h → h ≤ W.heap.size → I h pre W → pre.length < N → (∀ a' W', KeptX n₀ w.heap.size h W W' → (∀ k, T k → W'.heap[k]? = W.heap[k]?) → Ax h pre x a' W' → K a' W') →
      assign.wpIn (Fence.wide.inRound l) m P (Exit.then K (fun _ _ _ => False)) { tmps := (ps.zip (encs x)).foldl (fun t (p, v) => t.setIfInBounds p v) a.tmps, defers := [] } W)
    (hbody : ∀ (l m h : Nat) (pre : List α) (x : α) (a' : Act) (W : World), w.heap.size + 2 ≤ h → h ≤ W.heap.size → Ax h pre x a' W → pre.length < N → body.wpIn (Fence.wide.inRound l) m P (postX n₀ T w.heap.size h (I h) (fun c => Ix c h) (pre ++ [x]) W) a' W)
    (hdone : ∀ (D h : Nat) (xs : List α) (W : World), w.heap.size ≤ D → D < h → S xs → I h xs W → W.heap[D]? = some (.deferred (some [])) → Q .normal { a with defers := { target := .collected D, args := #[] } :: a.defers } W)
    (hstop : ∀ (D h : Nat) (c : Code) (pre : List α) (W : World), w.heap.size ≤ D → D < h → Sp pre → Ix c h pre W → W.heap[D]? = some (.deferred (some [])) → c.wpIn Fence.wide n P Q { a with defers := { target := .collected D, args := #[] } :: a.defers } W) :
    (Code.rangeFunc g ps assign body).wpIn Fence.wide n P Q a w := by
  refine wpIn_rangeFunc ?_
  intro fn _
  obtain ⟨rec, hrec⟩ : ∃ rec : LoopState → Option Code → Loop, rec = fun st pe => { state := st, pending := pe, fn, tmps := a.tmps, params := ps, assign, body, defers := w.heap.size } := ⟨_, rfl⟩
  obtain ⟨W1, hW1⟩ : ∃ W1, (w.alloc (.deferred (some []))).alloc (.loop (rec .ready none)) = W1 := ⟨_, rfl⟩
  have hs1 : W1.heap.size = w.heap.size + 2 := by rw [← hW1]; simp
  have hL1 : W1.heap[w.heap.size + 1]? = some (.loop (rec .ready none)) := by
    rw [← hW1]; have := World.alloc_heap_new (w.alloc (.deferred (some []))) (.loop (rec .ready none)); rwa [World.size_alloc] at this
  have hK1 : W1.heap[w.heap.size]? = some (.deferred (some [])) := by
    rw [← hW1]; exact (Below.heap_alloc _ _ _ (by simp)).trans (World.alloc_heap_new w _)
  have hI1 : I W1.heap.size [] W1 := by
    have h1 : I w.heap.size [] W1 := by
      rw [← hW1]
      exact hI _ _ _ _ none (hI _ _ _ _ none h0 (World.grownBy_alloc w _ none) (fun r e => by cases e)) (World.grownBy_alloc _ _ none) (fun r e => by cases e)
    exact hgr _ _ (Nat.le_refl _) h1 (by omega)
  have hb1 : Below w0.heap.size w0 W1 := by
    rw [← hW1]; exact hb0.trans ((((Below.refl _ w).alloc (Nat.le_refl _) _).alloc (by simp) _).mono hb0.size)
  have hnw : n₀ ≤ w.heap.size := Nat.le_trans hn₀ hb0.size
  refine ⟨w.heap.size + 1, [{ target := .collected w.heap.size, args := #[] }], W1, { target := .fn (.func gf) lb, args := #[.func (.yield (w.heap.size + 1)) #[] #[]] }, W1, gf,
    #[.func (.yield (w.heap.size + 1)) #[] #[]] ++ lb, W1, ?_, ?_, fun _ _ => trivial, ?_, (by intro h; cases h), ?_⟩
  · rw [← hW1, hrec]; exact run_enterLoop_outer _ _ _ _ _
  · simp only [resolve, hg]
    simp [go_sem]
  · simp [invoke, go_sem, eg]
  · refine (hseq (n - 1) (w.heap.size + 1)
      (fun h pre W => I h pre W ∧ W.heap[w.heap.size + 1]? = some (.loop (rec .ready none)) ∧ W.heap[w.heap.size]? = some (.deferred (some [])))
      (fun h pre W => ∃ c, Ix c h pre W ∧ W.heap[w.heap.size + 1]? = some (.loop (rec .done (some c))) ∧ W.heap[w.heap.size]? = some (.deferred (some [])))
      W1 hb1 hn₀
      (fun h pre A C row hs hg' hr => ⟨hI h pre A C row hs.1 hg' (fun r e => ⟨by have := (hr r e).1; omega, (hr r e).2⟩),
        (hg'.block _ (Array.getElem?_eq_some_iff.1 hs.2.1).1 (fun e => by have := (hr _ e.symm).1; omega)).trans hs.2.1,
        (hg'.block _ (Array.getElem?_eq_some_iff.1 hs.2.2).1 (fun e => by have := (hr _ e.symm).1; omega)).trans hs.2.2⟩)
      (fun h pre A C row hs hg' hr => by
        obtain ⟨c, hc, hl, hk⟩ := hs
        exact ⟨c, hIx c h pre A C row hc hg' (fun r e => ⟨by have := (hr r e).1; omega, (hr r e).2⟩),
          (hg'.block _ (Array.getElem?_eq_some_iff.1 hl).1 (fun e => by have := (hr _ e.symm).1; omega)).trans hl,
          (hg'.block _ (Array.getElem?_eq_some_iff.1 hk).1 (fun e => by have := (hr _ e.symm).1; omega)).trans hk⟩)
      (fun h A hh hs hA => ⟨hgr h A (by omega) hs.1 hA, hs.2⟩)
      ?_ ⟨hI1, hL1, hK1⟩).mono ?_
    · rintro m h pre x W hh hhW ⟨hi, hl, hk⟩ hlen
      have hlt : w.heap.size + 1 < W.heap.size := (Array.getElem?_eq_some_iff.1 hl).1
      have hy := run_yield (P := P) (args := encs x) hl (by rw [hrec]; exact hps x)
      rw [hrec] at hy
      refine ⟨fn, _, assign, body, hy, roundIn_of_wpIn trivial (hassign _ _ h pre x W _ (by omega) hhW hi hlen ?_)⟩
      clear hy
      intro a' Wa hka hta hax
      replace hl := (hka.iv _ (by omega) (by omega)).trans hl
      replace hk := (hka.iv _ (by omega) (by omega)).trans hk
      replace hlt : w.heap.size + 1 < Wa.heap.size := (Array.getElem?_eq_some_iff.1 hl).1
      have hka' := hka
      have hhW' : h ≤ Wa.heap.size := Nat.le_trans hhW hka.bel.size
      clear hhW hi hka
      revert hka' hta
      generalize W = Wb
      intro hta hka
      obtain ⟨W, rfl⟩ : ∃ W, W = Wa := ⟨_, rfl⟩
      refine ⟨_, run_beginRound hl (by rw [hrec]), ?_⟩
      have hl2 : (W.putObj (w.heap.size + 1) (.loop { rec .ready none with state := .busy })).heap[w.heap.size + 1]? = some (.loop { rec .ready none with state := .busy }) := World.putObj_heap_same hlt
      have hk2 : (W.putObj (w.heap.size + 1) (.loop { rec .ready none with state := .busy })).heap[w.heap.size]? = some (.deferred (some [])) := (World.putObj_heap_other (by omega)).trans hk
      have hput : ∀ {A : World} {o o' : Obj} {xs : List α} {L : Nat → List α → World → Prop}, AbX w.heap.size L → A.heap[w.heap.size + 1]? = some o → L h xs A → L h xs (A.putObj (w.heap.size + 1) o') := fun hL _ hs =>
        hL _ _ _ _ (some (w.heap.size + 1)) hs (grownBy_putObj' _ _ _) (fun r e => by cases e; omega)
      refine wpIn_mono (hbody _ _ h pre x a' _ (by omega) (by simpa using hhW') (hput (hAx x a') hl hax) hlen) ?_
      have fin : ∀ (jump : Option Code) (W3 : World), KeptX n₀ w.heap.size h (W.putObj (w.heap.size + 1) (.loop { rec .ready none with state := .busy })) W3 →
          (Instr.endRound (w.heap.size + 1) jump).run P W3 = .ok (.bool jump.isNone) (W3.putObj (w.heap.size + 1) (.loop (rec (if jump.isNone then .ready else .done) jump))) ∧
          W3.heap[w.heap.size + 1]? = some (.loop { rec .ready none with state := .busy }) ∧
          (W3.putObj (w.heap.size + 1) (.loop (rec (if jump.isNone then .ready else .done) jump))).heap[w.heap.size + 1]? = some (.loop (rec (if jump.isNone then .ready else .done) jump)) ∧
          (W3.putObj (w.heap.size + 1) (.loop (rec (if jump.isNone then .ready else .done) jump))).heap[w.heap.size]? = some (.deferred (some [])) := fun jump W3 hk3 => by
        have hl3 := (hk3.iv _ (by omega) (by omega)).trans hl2
        have := run_endRound (P := P) jump hl3
        rw [hrec] at this ⊢
        exact ⟨this, by rw [hrec] at hl3; exact hl3, World.putObj_heap_same (Array.getElem?_eq_some_iff.1 hl3).1, (World.putObj_heap_other (by omega)).trans ((hk3.iv _ (by omega) (by omega)).trans hk2)⟩
      have hout : ∀ (W3 : World), KeptX n₀ w.heap.size h (W.putObj (w.heap.size + 1) (.loop { rec .ready none with state := .busy })) W3 → W3.heap[w.heap.size + 1]? = some (.loop { rec .ready none with state := .busy }) → ∀ o', KeptX n₀ W1.heap.size h Wb (W3.putObj (w.heap.size + 1) o') := fun W3 hk3 hl3 o' =>
        ((hka.mono (Nat.le_refl _) (by omega) (Nat.le_refl _)).trans (KeptX.putObj _ _ _ _ hl (by omega) (.inl (by omega)))).trans ((hk3.mono (Nat.le_refl _) (by omega) (Nat.le_refl _)).trans (KeptX.putObj _ _ _ _ hl3 (by omega) (.inl (by omega))))
      rintro e a3 W3 hp
      cases e with
      | normal =>
        obtain ⟨⟨hk3, ht3⟩, hi3⟩ := hp
        obtain ⟨hr, hl3, hl4, hk4⟩ := fin none W3 hk3
        refine ⟨_, _, hr, .inl ⟨rfl, ⟨hput hI hl3 hi3, hl4, hk4⟩, hout _ hk3 hl3 _, fun k hk => ?_⟩⟩
        have hkl := hT k hk
        exact (World.putObj_heap_other (by omega)).trans ((ht3 k hk).trans ((World.putObj_heap_other (by omega)).trans (hta k hk)))
      | ret =>
        obtain ⟨hk3, hi3⟩ := hp
        obtain ⟨hr, hl3, hl4, hk4⟩ := fin (some .ret) W3 hk3
        exact ⟨_, _, hr, .inr ⟨rfl, ⟨.ret, hput (hIx _) hl3 hi3, hl4, hk4⟩, hout _ hk3 hl3 _⟩⟩
      | exit id =>
        obtain ⟨hk3, hi3⟩ := hp
        obtain ⟨hr, hl3, hl4, hk4⟩ := fin (some (.exit id)) W3 hk3
        exact ⟨_, _, hr, .inr ⟨rfl, ⟨.exit id, hput (hIx _) hl3 hi3, hl4, hk4⟩, hout _ hk3 hl3 _⟩⟩
      | goto t =>
        obtain ⟨hk3, hi3⟩ := hp
        obtain ⟨hr, hl3, hl4, hk4⟩ := fin (some (.goto t)) W3 hk3
        exact ⟨_, _, hr, .inr ⟨rfl, ⟨.goto t, hput (hIx _) hl3 hi3, hl4, hk4⟩, hout _ hk3 hl3 _⟩⟩
      | panic ch => exact hp.elim
      | outgrown => exact hp.elim
    · rintro e W2 ⟨⟨v, rfl⟩, (⟨xs, h, hS, hh, hi, hl, hk⟩ | ⟨pre, h, hSp, hh, c, hi, hl, hk⟩)⟩
      · exact ⟨none, _, by have := run_endLoop (P := P) hl (by rw [hrec]; simp); rw [hrec] at this; exact this, hdone _ h xs _ (Nat.le_refl _) (by omega) hS (hI _ _ _ _ (some (w.heap.size + 1)) hi (grownBy_putObj' _ _ _) (fun r e => by cases e; omega)) ((World.putObj_heap_other (by omega)).trans hk)⟩
      · exact ⟨some c, _, by have := run_endLoop (P := P) hl (by rw [hrec]; simp); rw [hrec] at this; exact this, hstop _ h c pre _ (Nat.le_refl _) (by omega) hSp (hIx c _ _ _ _ (some (w.heap.size + 1)) hi (grownBy_putObj' _ _ _) (fun r e => by cases e; omega)) ((World.putObj_heap_other (by omega)).trans hk)⟩
end Go.Proofs.Ytaiehccpefjbfab
