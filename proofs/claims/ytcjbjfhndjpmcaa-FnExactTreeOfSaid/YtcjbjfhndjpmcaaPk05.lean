import Derived.Test.YtcjbjfhndjpmcaaPk04
import Derived.Test.YtcjbjfhndjpmcaaPk02
import Derived.OneCell
/-
  Slices of numbers, as lists: sizes, copies, comparisons.
-/
namespace Go.Proofs.Ytcjbjfhndjpmcaa
open Go.RowKit

def icells (xs : List Int) : List Value := xs.map (.int .i64 ·)
theorem icells_length (xs : List Int) : (icells xs).length = xs.length * 1 := by simp [icells]

/-- The slice at A, below block B, holds these numbers. -/
def RI (w : World) (B : Nat) (A : Option Addr) (xs : List Int) : Prop :=
  xs = [] ∨ ∃ b off, A = some ⟨b, off, none⟩ ∧ b < B ∧ ∀ (i : Nat) (x : Int), xs[i]? = some x → w.cell? ⟨b, off + i, none⟩ = some (.int .i64 x)

section
variable {w w' : World} {B B' : Nat} {A : Option Addr} {xs : List Int}
theorem RI.at_ {k : Nat} (h : RI w B A xs) (hk : k < xs.length) : ∃ b off, A = some ⟨b, off, none⟩ ∧ b < B ∧ w.cell? ⟨b, off + k, none⟩ = some (.int .i64 xs[k]) := by
  rcases h with rfl | ⟨b, off, e, hb, hc⟩
  · simp at hk
  · exact ⟨b, off, e, hb, hc k _ (List.getElem?_eq_getElem hk)⟩
theorem RI.keep (h : RI w B A xs) (hk : ∀ p : Addr, p.block < B → w'.cell? p = w.cell? p) : RI w' B A xs := by
  rcases h with rfl | ⟨b, off, e, hb, hc⟩
  · exact .inl rfl
  · exact .inr ⟨b, off, e, hb, fun i p hp => by rw [hk _ hb]; exact hc i p hp⟩
theorem RI.more (h : RI w B A xs) (hB : B ≤ B') : RI w B' A xs := by
  rcases h with rfl | ⟨b, off, e, hb, hc⟩
  · exact .inl rfl
  · exact .inr ⟨b, off, e, by omega, hc⟩
theorem RI.below (h : RI w B A xs) (hb : Below B w w') : RI w' B A xs := h.keep fun _ hp => hb.cell hp
theorem RI.of_own {base : Nat} {e : TypeId} {n c : Nat} (h : w.ownsRow base e 1 (.slice A n c) n (icells xs)) : RI w w.heap.size A xs := by
  rcases h.2 with ⟨hv, hn⟩ | ⟨g, cap, cur, hv, _, hh, _⟩
  · left
    have := h.1
    rw [icells_length] at this
    exact List.eq_nil_of_length_eq_zero (by omega)
  · right
    injection hv with hA
    subst hA
    refine ⟨g, 0, rfl, (Array.getElem?_eq_some_iff.1 hh).1, fun i p hp => ?_⟩
    have h1 := h.cells (g := g) rfl i (.int .i64 p) (by simp [icells, hp])
    rw [Addr.add_lit] at h1
    exact h1
/-- A piece of it. -/
theorem RI.take {n : Nat} (h : RI w B A xs) : RI w B A (xs.take n) := by
  rcases h with rfl | ⟨b, off, e, hb, hc⟩
  · exact .inl (by simp)
  · refine .inr ⟨b, off, e, hb, fun i p hp => hc i p ?_⟩
    rw [List.getElem?_take] at hp
    split at hp
    · exact hp
    · cases hp
end

theorem int64Info : (Try.prog.info? 2).map (fun i => (i.zero, i.size, i.bytes)) = some (some (.int .i64 0), 1, 8) := by kernel_rfl

/-- A slice of numbers of the call's own. -/
def OwnI (w : World) (B : Nat) (A : Option Addr) (c : Nat) (xs : List Int) : Prop := w.ownsRow B 2 1 (.slice A xs.length c) xs.length (icells xs)
theorem OwnI.ri {w : World} {B c : Nat} {A : Option Addr} {xs : List Int} (h : OwnI w B A c xs) : RI w w.heap.size A xs := RI.of_own h
theorem OwnI.below {w w' : World} {B c : Nat} {A : Option Addr} {xs : List Int} (h : OwnI w B A c xs) (hb : Below w.heap.size w w') : OwnI w' B A c xs := h.kept (below_grown hb) (by
  cases hv : Value.ownBlock (.slice A xs.length c) <;> simp)
def MadeI (w : World) (B : Nat) (xs : List Int) (e : Ending) (w' : World) : Prop := ∃ A c, e = .returned (.slice A xs.length c) ∧ OwnI w' B A c xs ∧ Below w.heap.size w w'

/-- A new row, filled up to k. -/
def FilledI (wr : World) (g : Nat) (xs : List Int) (k : Nat) : Prop :=
  ∃ cs, wr.ownsRow g 2 1 (.slice (some ⟨g, 0, none⟩) xs.length xs.length) xs.length cs ∧ ∀ (i : Nat) (x : Int), xs[i]? = some x → i < k → cs[i]? = some (.int .i64 x)
theorem FilledI.end_ {wr : World} {g : Nat} {xs : List Int} (h : FilledI wr g xs xs.length) : wr.ownsRow g 2 1 (.slice (some ⟨g, 0, none⟩) xs.length xs.length) xs.length (icells xs) := by
  obtain ⟨cs, ho, hx⟩ := h
  have hl := ho.1
  have : cs = icells xs := by
    refine List.ext_getElem (by rw [icells_length]; omega) fun i h1 h2 => ?_
    have hi : i < xs.length := by rw [icells_length] at h2; omega
    have := hx i _ (List.getElem?_eq_getElem hi) hi
    rw [List.getElem?_eq_getElem h1] at this
    rw [Option.some.inj this]
    simp [icells]
  rwa [this] at ho
theorem FilledI.cell {wr : World} {g : Nat} {xs : List Int} {k : Nat} (h : FilledI wr g xs k) (hk : k < xs.length) : ∃ u, wr.cell? ⟨g, k, none⟩ = some u := by
  obtain ⟨cs, ho, hx⟩ := h
  have hl := ho.1
  exact ⟨_, (ho.cellAt k (by omega)).trans (List.getElem?_eq_getElem (by omega))⟩
theorem FilledI.frozen {wr : World} {g : Nat} {xs : List Int} {k : Nat} (h : FilledI wr g xs k) (j : Nat) : wr.frozen? ⟨g, j, none⟩ = false := by
  obtain ⟨cs, ho, hx⟩ := h
  exact ho.frozenAt j
theorem FilledI.store {wr : World} {g : Nat} {xs : List Int} {k : Nat} (h : FilledI wr g xs k) (hk : k < xs.length) : FilledI (wr.setCell ⟨g, k, none⟩ (.int .i64 xs[k])) g xs (k + 1) := by
  obtain ⟨cs, ho, hx⟩ := h
  have hl := ho.1
  refine ⟨_, (ho.stored k (.int .i64 xs[k])).1, fun i s hs hi => ?_⟩
  by_cases e : i = k
  · subst e
    have : xs[i] = s := by rw [List.getElem?_eq_getElem hk] at hs; exact Option.some.inj hs
    rw [this, List.getElem?_set_self (by omega)]
  · rw [List.getElem?_set_ne (by omega)]
    exact hx i s hs (by omega)

set_option maxHeartbeats 1000000 in
theorem toInt64S_any (A : Option Addr) (c : Nat) (xs : List Int) (w : World) (hr : RI w w.heap.size A xs) (hn : xs.length ≤ 1048576) :
    Calls Try.prog 116 #[.slice A xs.length c] w (MadeI w w.heap.size xs) := by
  obtain ⟨i0, hi, hz0, hz1, hz2⟩ := info_parts int64Info
  go_enter Try.func116, Try.ntmps116
  go_wp2_with (at_make; refine wpList_make_full _ rfl _ _ 75 rfl w.heap.size 2 i0 _ 1 Try.underlying75 hi hz0 hz1 _ _ _ _ xs.length rfl rfl rfl rfl (by rw [hz2]; omega) (by unfold maxLen; omega) (Nat.le_refl _) ?_; intro w1 hown1 hg1)
  have hb1 : Below w.heap.size w w1 := (Below.refl _ _).grown hg1 (Nat.le_refl _) (by simp)
  have HO := hid hown1
  have HB := hid hb1
  clear hown1 hg1 hb1
  go_wp2_with fail
  go_loopw [4] (fun i wr => ∃ k : Nat, k ≤ xs.length ∧ i = .int .i64 k ∧ FilledI wr w.heap.size xs k ∧ Below w.heap.size w wr) (fun i _ => xs.length - (intOf i).toNat)
  case atStart => exact ⟨0, Nat.zero_le _, rfl, ⟨_, HO.out, fun i s _ h => absurd h (by omega)⟩, HB.out⟩
  case round =>
    obtain ⟨k, hk, rfl, hfl, hbw⟩ := hrel
    by_cases hlt : k < xs.length
    · obtain ⟨b, off, rfl, hb, hc1⟩ := (hr.below hbw).at_ hlt
      have HF := hid hfl
      have HD := hid hbw
      obtain ⟨u, hu⟩ := hfl.cell hlt
      have f1 := hfl.frozen k
      clear hfl hbw hr
      go_wp2_with fail
      refine ⟨⟨k + 1, by omega, by go_num, HF.out.store hlt, HD.out.setCell (by simp) _⟩, by simp [intOf]; omega⟩
    · obtain rfl : k = xs.length := by omega
      have HF := hid hfl
      have HD := hid hbw
      clear hfl hbw hr
      go_wp2_with fail
      go_ret
      exact ⟨_, _, rfl, HF.out.end_, HD.out⟩

def SzPostI (xs : List Int) (l : Int) (w : World) (e : Ending) (w' : World) : Prop :=
  ∃ r : Int, e = .returned (.int .i64 r) ∧ -1 ≤ r ∧ r ≤ l ∧ (0 ≤ r → (xs.length : Int) ≤ l) ∧ w = w'

theorem szInt64S_any (A : Option Addr) (c : Nat) (xs : List Int) (l : Int) (w : World) (hn : xs.length ≤ maxLen) (h0 : 0 ≤ l) (h1 : l ≤ 1048576) :
    Calls Try.prog 113 #[.slice A xs.length c, .int .i64 l] w (SzPostI xs l w) := by
  unfold maxLen at hn
  by_cases g : l - (xs.length : Int) < 0
  · go_enter Try.func113, Try.ntmps113
    go_wp2_with fail
    go_ret
    exact ⟨-1, rfl, by omega, by omega, fun h => by omega, rfl⟩
  · go_enter Try.func113, Try.ntmps113
    go_wp2_with fail
    go_ret
    exact ⟨_, rfl, by omega, by omega, fun h => by omega, rfl⟩

def sameToI (xs ys : List Int) (k : Nat) : Prop := ∀ (i : Nat) (h : i < xs.length) (h' : i < ys.length), i < k → xs[i] = ys[i]
theorem sameToI_succ {xs ys : List Int} {k : Nat} (h : sameToI xs ys k) (hk : k < xs.length) (hk' : k < ys.length) (he : xs[k] = ys[k]) : sameToI xs ys (k + 1) := by
  intro i hi hi' hlt
  by_cases e : i = k
  · subst e
    exact he
  · exact h i hi hi' (by omega)
theorem sameI_no {xs ys : List Int} {k : Nat} (hk : k < xs.length) (hk' : k < ys.length) (he : xs[k] ≠ ys[k]) : decide (xs = ys) = false := by
  rw [decide_eq_false_iff_not]
  rintro rfl
  exact he rfl
theorem sameI_len {xs ys : List Int} (h : xs.length ≠ ys.length) : decide (xs = ys) = false := by
  rw [decide_eq_false_iff_not]
  rintro rfl
  exact h rfl

set_option maxHeartbeats 1000000 in
theorem eqInt64S_any (A A' : Option Addr) (c c' : Nat) (xs ys : List Int) (B : Nat) (w : World) (hr : RI w B A xs) (hr' : RI w B A' ys) (hn : xs.length ≤ maxLen) :
    Calls Try.prog 112 #[.slice A xs.length c, .slice A' ys.length c'] w fun e w' => e = .returned (.bool (decide (xs = ys))) ∧ Drawn w w' := by
  unfold maxLen at hn
  by_cases g : xs.length = ys.length
  · have g0 : ((xs.length : Int) != (ys.length : Int)) = false := by simp [g]
    have G := hid g
    clear g
    go_enter Try.func112, Try.ntmps112
    go_wp2_with fail
    go_loopw [5] (fun i wr => ∃ k : Nat, k ≤ xs.length ∧ i = .int .i64 k ∧ sameToI xs ys k ∧ Drawn w wr) (fun i _ => xs.length - (intOf i).toNat)
    case atStart => exact ⟨0, Nat.zero_le _, rfl, fun i h h' hi => absurd hi (by omega), Drawn.refl w⟩
    case round =>
      obtain ⟨k, hk, rfl, hst, hdr⟩ := hrel
      by_cases hlt : k < xs.length
      · have hlt' : k < ys.length := by have := G.out; omega
        obtain ⟨b, off, rfl, hb, hc1⟩ := (hr.below (hdr.below _)).at_ hlt
        obtain ⟨b', off', rfl, hb', hc3⟩ := (hr'.below (hdr.below _)).at_ hlt'
        have HS := hid (sameToI_succ hst hlt hlt')
        have HN := hid (@sameI_no xs ys k hlt hlt')
        have HD := hid hdr
        clear hst hdr hr hr'
        have e5 : (0 : Int) ≤ (k : Int) := by omega
        have e6 : (k : Int) < (xs.length : Int) := by omega
        have e7 : (k : Int) < (ys.length : Int) := by omega
        by_cases he : xs[k] = ys[k]
        · have h3 : (xs[k] != ys[k]) = false := by simp [he]
          have HE := hid he
          clear he
          go_wp2_with fail
          go_quiet (fail)
          go_wp2_with fail
          go_roundw
          case rel => exact ⟨k + 1, by omega, by go_num, HS.out HE.out, HD.out.drewN _⟩
          case measure => simp [intOf]; omega
        · have h3 : (xs[k] != ys[k]) = true := by simp [he]
          have HE := hid he
          clear he
          go_wp2_with fail
          go_quiet (fail)
          go_wp2_with fail
          go_ret
          exact ⟨ret_bool (HN.out HE.out).symm, HD.out.drewN _⟩
      · obtain rfl : k = xs.length := by omega
        have HE : Hid (decide (xs = ys) = true) := by
          rw [Hid, decide_eq_true_eq]
          exact List.ext_getElem G.out fun i h1 h2 => hst i h1 h2 h1
        have HD := hid hdr
        clear hst hdr hr hr'
        go_wp2_with fail
        go_ret
        exact ⟨ret_bool HE.out.symm, HD.out⟩
  · have g0 : ((xs.length : Int) != (ys.length : Int)) = true := by simp; omega
    have HN := hid (sameI_len g)
    clear g hr hr'
    go_enter Try.func112, Try.ntmps112
    go_wp2_with fail
    go_ret
    exact ⟨ret_bool HN.out.symm, Drawn.refl _⟩
end Go.Proofs.Ytcjbjfhndjpmcaa
/-
  Lists of nodes and trees in memory: the model's trees, which are values, and the program's, which are pointers.
-/
namespace Go.Proofs.Ytcjbjfhndjpmcaa
open Go.RowKit

/-! ### lists of nodes -/
/-- The slice at A, below block B, holds these nodes. -/
def RN (w : World) (B : Nat) (A : Option Addr) (ns : List ND) : Prop :=
  ns = [] ∨ ∃ (b off : Nat) (FA FK : Nat → Option Addr) (FC FD : Nat → Nat), A = some ⟨b, off, none⟩ ∧ b < B ∧ ∀ (i : Nat) (nd : ND), ns[i]? = some nd →
    w.cell? ⟨b, off + i * 2, none⟩ = some (.slice (FA i) nd.1.length (FC i)) ∧ w.cell? ⟨b, off + i * 2 + 1, none⟩ = some (.slice (FK i) nd.2.length (FD i)) ∧ RP w B (FA i) nd.1 ∧ RI w B (FK i) nd.2
section
variable {w w' : World} {B B' : Nat} {A : Option Addr} {ns : List ND}
theorem RN.at_ {k : Nat} (h : RN w B A ns) (hk : k < ns.length) :
    ∃ (b off : Nat) (A' K' : Option Addr) (c d : Nat), A = some ⟨b, off, none⟩ ∧ b < B ∧ w.cell? ⟨b, off + k * 2, none⟩ = some (.slice A' ns[k].1.length c) ∧ w.cell? ⟨b, off + k * 2 + 1, none⟩ = some (.slice K' ns[k].2.length d) ∧ RP w B A' ns[k].1 ∧ RI w B K' ns[k].2 := by
  rcases h with rfl | ⟨b, off, FA, FK, FC, FD, e, hb, hc⟩
  · simp at hk
  · obtain ⟨h1, h2, h3, h4⟩ := hc k _ (List.getElem?_eq_getElem hk)
    exact ⟨b, off, _, _, _, _, e, hb, h1, h2, h3, h4⟩
theorem RN.keep (h : RN w B A ns) (hk : ∀ p : Addr, p.block < B → w'.cell? p = w.cell? p) : RN w' B A ns := by
  rcases h with rfl | ⟨b, off, FA, FK, FC, FD, e, hb, hc⟩
  · exact .inl rfl
  · refine .inr ⟨b, off, FA, FK, FC, FD, e, hb, fun i nd hn => ?_⟩
    obtain ⟨h1, h2, h3, h4⟩ := hc i nd hn
    exact ⟨(hk _ hb).trans h1, (hk _ hb).trans h2, h3.keep hk, h4.keep hk⟩
theorem RN.more (h : RN w B A ns) (hB : B ≤ B') : RN w B' A ns := by
  rcases h with rfl | ⟨b, off, FA, FK, FC, FD, e, hb, hc⟩
  · exact .inl rfl
  · refine .inr ⟨b, off, FA, FK, FC, FD, e, by omega, fun i nd hn => ?_⟩
    obtain ⟨h1, h2, h3, h4⟩ := hc i nd hn
    exact ⟨h1, h2, h3.more hB, h4.more hB⟩
theorem RN.below (h : RN w B A ns) (hb : Below B w w') : RN w' B A ns := h.keep fun _ hp => hb.cell hp
end

/-! ### pairs in a set of blocks -/
def RPS (w : World) (S : Nat → Prop) (A : Option Addr) (ps : PS) : Prop :=
  ps = [] ∨ ∃ b off, A = some ⟨b, off, none⟩ ∧ S b ∧ ∀ (i : Nat) (p : BB), ps[i]? = some p → w.cell? ⟨b, off + i * 2, none⟩ = some (.string p.1) ∧ w.cell? ⟨b, off + i * 2 + 1, none⟩ = some (.string p.2)
theorem RPS.rp {w : World} {S : Nat → Prop} {B : Nat} {A : Option Addr} {ps : PS} (h : RPS w S A ps) (hS : ∀ b, S b → b < B) : RP w B A ps := by
  rcases h with rfl | ⟨b, off, e, hb, hc⟩
  · exact .inl rfl
  · exact .inr ⟨b, off, e, hS b hb, hc⟩
theorem RPS.of_rp {w : World} {B : Nat} {A : Option Addr} {ps : PS} (h : RP w B A ps) : RPS w (· < B) A ps := h
theorem RPS.keep {w w' : World} {S S' : Nat → Prop} {A : Option Addr} {ps : PS} (h : RPS w S A ps) (hk : ∀ b, S b → w'.heap[b]? = w.heap[b]?) (hS : ∀ b, S b → S' b) : RPS w' S' A ps := by
  rcases h with rfl | ⟨b, off, e, hb, hc⟩
  · exact .inl rfl
  · refine .inr ⟨b, off, e, hS b hb, fun i p hp => ?_⟩
    obtain ⟨h1, h2⟩ := hc i p hp
    exact ⟨(World.cell?_of_block (a := ⟨b, off + i * 2, none⟩) (hk b hb)).trans h1, (World.cell?_of_block (a := ⟨b, off + i * 2 + 1, none⟩) (hk b hb)).trans h2⟩
theorem RPS.of_own {w : World} {B c : Nat} {A : Option Addr} {ps : PS} (h : OwnP w B A c ps) : RPS w (fun b => Value.ownBlock (.slice A ps.length c) = some b) A ps := by
  rcases h.rp with e | ⟨b, off, e, hb, hc⟩
  · exact .inl e
  · rcases h.2 with ⟨hv, hn⟩ | ⟨g, cap, cur, hv, _⟩
    · exact .inl (List.eq_nil_of_length_eq_zero hn)
    · refine .inr ⟨b, off, e, ?_, hc⟩
      rw [hv]
      injection hv with hA
      rw [e] at hA
      injection hA with hA
      injection hA with hA
      subst hA
      rfl

/-! ### the model's trees: values -/
inductive RT (w : World) (S : Nat → Prop) : Option Addr → Option Addr → BT → Prop
  | node {A K : Option Addr} {ps : PS} {ks : List BT} (b off : Nat) (FA FK : Nat → Option Addr) (FC FD : Nat → Nat) :
      RPS w S A ps → (ks = [] ∨ (K = some ⟨b, off, none⟩ ∧ S b)) →
      (∀ i t, ks[i]? = some t → w.cell? ⟨b, off + i * 2, none⟩ = some (.slice (FA i) t.ps.length (FC i)) ∧ w.cell? ⟨b, off + i * 2 + 1, none⟩ = some (.slice (FK i) t.ks.length (FD i))) →
      (∀ i t, ks[i]? = some t → RT w S (FA i) (FK i) t) → RT w S A K (.node ps ks)
theorem RT.keep {w w' : World} {S S' : Nat → Prop} {A K : Option Addr} {t : BT} (h : RT w S A K t) (hk : ∀ b, S b → w'.heap[b]? = w.heap[b]?) (hS : ∀ b, S b → S' b) : RT w' S' A K t := by
  induction h with
  | node b off FA FK FC FD h1 h2 h3 _ ih =>
    refine .node b off FA FK FC FD (h1.keep hk hS) (h2.imp id fun h => ⟨h.1, hS _ h.2⟩) (fun i t ht => ?_) ih
    rcases h2 with rfl | ⟨_, hb⟩
    · simp at ht
    · obtain ⟨c1, c2⟩ := h3 i t ht
      exact ⟨(World.cell?_of_block (a := ⟨b, off + i * 2, none⟩) (hk b hb)).trans c1, (World.cell?_of_block (a := ⟨b, off + i * 2 + 1, none⟩) (hk b hb)).trans c2⟩
theorem RT.pairs {w : World} {S : Nat → Prop} {A K : Option Addr} {ps : PS} {ks : List BT} (h : RT w S A K (.node ps ks)) : RPS w S A ps := by
  cases h with
  | node b off FA FK FC FD h1 h2 h3 h4 => exact h1
theorem RT.kid {w : World} {S : Nat → Prop} {A K : Option Addr} {ps : PS} {ks : List BT} (h : RT w S A K (.node ps ks)) {k : Nat} (hk : k < ks.length) :
    ∃ (b off : Nat) (A' K' : Option Addr) (c d : Nat), K = some ⟨b, off, none⟩ ∧ S b ∧ w.cell? ⟨b, off + k * 2, none⟩ = some (.slice A' ks[k].ps.length c) ∧ w.cell? ⟨b, off + k * 2 + 1, none⟩ = some (.slice K' ks[k].ks.length d) ∧ RT w S A' K' ks[k] := by
  cases h with
  | node b off FA FK FC FD h1 h2 h3 h4 =>
    have hx := List.getElem?_eq_getElem hk
    obtain ⟨c1, c2⟩ := h3 k _ hx
    rcases h2 with rfl | ⟨e, hb⟩
    · simp at hk
    · exact ⟨b, off, _, _, _, _, e, hb, c1, c2, h4 k _ hx⟩
theorem BT.eta (t : BT) : .node t.ps t.ks = t := by cases t; rfl

/-! ### the program's trees: pointers -/
def ptr (g : Nat) : Value := .pointer (some ⟨g, 0, none⟩)
/-- The pointers of kids. -/
def ptrs (G : Nat → Nat) (n : Nat) : List Value := (List.range n).map fun i => ptr (G i)
theorem ptrs_length (G : Nat → Nat) (n : Nat) : (ptrs G n).length = n := by simp [ptrs]
theorem ptrs_at {G : Nat → Nat} {n i : Nat} (h : i < n) : (ptrs G n)[i]? = some (ptr (G i)) := by simp [ptrs, h]
theorem ptrs_snoc (G : Nat → Nat) (n g : Nat) : ptrs G n ++ [ptr g] = ptrs (fun i => if i = n then g else G i) (n + 1) := by
  simp only [ptrs, List.range_succ, List.map_append, List.map_cons, List.map_nil, if_true]
  congr 1
  refine List.map_congr_left fun i hi => ?_
  rw [if_neg (by have := List.mem_range.1 hi; omega)]

/-- A branch at block g, whose own blocks are all in S, whose pairs lie in R. -/
inductive OT (w : World) (R : Nat → Prop) : (Nat → Prop) → Nat → BT → Prop
  | node {S : Nat → Prop} {g : Nat} {A K : Option Addr} {c d : Nat} {ps : PS} {ks : List BT} (F : Nat → Nat → Prop) (G : Nat → Nat) :
      S g → w.heap[g]? = some (.cells #[.slice A ps.length c, .slice K ks.length d] 121 (0, 0)) → RPS w R A ps →
      w.ownsRow 0 71 1 (.slice K ks.length d) ks.length (ptrs G ks.length) →
      (∀ k, Value.ownBlock (.slice K ks.length d) = some k → S k ∧ k ≠ g ∧ ∀ i, i < ks.length → ¬ F i k) →
      (∀ i, i < ks.length → (∀ b, F i b → S b) ∧ ¬ F i g ∧ ∀ j, j < ks.length → j ≠ i → ∀ b, F i b → ¬ F j b) →
      (∀ i t, ks[i]? = some t → OT w R (F i) (G i) t) → OT w R S g (.node ps ks)
theorem ownsRow_keep {w w' : World} {base : Nat} {e : TypeId} {size n : Nat} {v : Value} {xs : List Value} (h : w.ownsRow base e size v n xs) (hk : ∀ k, v.ownBlock = some k → w'.heap[k]? = w.heap[k]?) : w'.ownsRow base e size v n xs := by
  obtain ⟨h1, h2⟩ := h
  refine ⟨h1, ?_⟩
  rcases h2 with h2 | ⟨g, cap, cur, hv, hg, hh, r⟩
  · exact Or.inl h2
  · subst hv
    exact Or.inr ⟨g, cap, cur, rfl, hg, by rw [hk g rfl]; exact hh, r⟩
theorem OT.keep {w w' : World} {R R' S : Nat → Prop} {g : Nat} {t : BT} (h : OT w R S g t) (hk : ∀ b, S b ∨ R b → w'.heap[b]? = w.heap[b]?) (hR : ∀ b, R b → R' b) : OT w' R' S g t := by
  induction h with
  | node F G hg hh hp hr hb hd _ ih =>
    refine .node F G hg ((hk _ (.inl hg)).trans hh) (hp.keep (fun b h => hk b (.inr h)) hR) (ownsRow_keep hr fun k e => hk k (.inl (hb k e).1)) hb hd fun i t ht => ?_
    have hi := (List.getElem?_eq_some_iff.1 ht).1
    exact ih i t ht fun b h => hk b (h.imp (fun h => (hd i hi).1 b h) id)
theorem OT.wide {w : World} {R S S' : Nat → Prop} {g : Nat} {t : BT} (h : OT w R S g t) (hS : ∀ b, S b → S' b) : OT w R S' g t := by
  cases h with
  | node F G hg hh hp hr hb hd hk =>
    exact .node F G (hS _ hg) hh hp hr (fun k e => ⟨hS _ (hb k e).1, (hb k e).2⟩) (fun i hi => ⟨fun b h => hS _ ((hd i hi).1 b h), (hd i hi).2⟩) hk
theorem OT.in_ {w : World} {R S : Nat → Prop} {g : Nat} {t : BT} (h : OT w R S g t) : S g := by
  cases h with
  | node F G hg hh hp hr hb hd hk => exact hg
/-- What a walk reads of a branch. -/
theorem OT.open_ {w : World} {R S : Nat → Prop} {g : Nat} {ps : PS} {ks : List BT} (h : OT w R S g (.node ps ks)) :
    ∃ (A K : Option Addr) (c d : Nat), w.cell? ⟨g, 0, none⟩ = some (.slice A ps.length c) ∧ w.cell? ⟨g, 1, none⟩ = some (.slice K ks.length d) ∧ RPS w R A ps ∧
      ∀ (k : Nat) (hk : k < ks.length), ∃ (b gk : Nat) (Sk : Nat → Prop), K = some ⟨b, 0, none⟩ ∧ S b ∧ w.cell? ⟨b, k, none⟩ = some (ptr gk) ∧ (∀ x, Sk x → S x) ∧ ¬ Sk g ∧ OT w R Sk gk ks[k] := by
  cases h with
  | @node S g A K c d ps ks F G hg hh hp hr hb hd hk =>
    refine ⟨A, K, c, d, ?_, ?_, hp, fun k hlt => ?_⟩
    · simp [World.cell?, hh]
    · simp [World.cell?, hh]
    · rcases hr.2 with ⟨hv, hn⟩ | ⟨kb, cap, cur, hv, hrest⟩
      · omega
      · have hv' := hv
        injection hv with h1 _ h3
        subst h1 h3
        have hc := hr.cellAt k (by omega)
        rw [ptrs_at hlt] at hc
        exact ⟨kb, G k, F k, rfl, (hb kb rfl).1, hc, (hd k hlt).1, (hd k hlt).2.1, hk k _ (List.getElem?_eq_getElem hlt)⟩
/-- Its blocks are there. -/
theorem OT.lt {w : World} {R S : Nat → Prop} {g : Nat} {t : BT} (h : OT w R S g t) : g < w.heap.size := by
  cases h with
  | node F G hg hh hp hr hb hd hk => exact lt_of_block hh
end Go.Proofs.Ytcjbjfhndjpmcaa
