/-
  Slices of flags, as lists: sizes, copies, comparisons.
-/
import Derived.Test.YtaiehccpefjbfaaToPair
namespace Go.Proofs.Ytaiehccpefjbfaa
open Go.RowKit

def bcells (xs : List Bool) : List Value := xs.map (.bool ·)
theorem bcells_length (xs : List Bool) : (bcells xs).length = xs.length * 1 := by simp [bcells]

/-- The slice at A, below block B, holds these flags. -/
def RB (w : World) (B : Nat) (A : Option Addr) (xs : List Bool) : Prop :=
  xs = [] ∨ ∃ b off, A = some ⟨b, off, none⟩ ∧ b < B ∧ ∀ (i : Nat) (x : Bool), xs[i]? = some x → w.cell? ⟨b, off + i, none⟩ = some (.bool x)

section
variable {w w' : World} {B B' : Nat} {A : Option Addr} {xs : List Bool}
theorem RB.at_ {k : Nat} (h : RB w B A xs) (hk : k < xs.length) : ∃ b off, A = some ⟨b, off, none⟩ ∧ b < B ∧ w.cell? ⟨b, off + k, none⟩ = some (.bool xs[k]) := by
  rcases h with rfl | ⟨b, off, e, hb, hc⟩
  · simp at hk
  · exact ⟨b, off, e, hb, hc k _ (List.getElem?_eq_getElem hk)⟩
theorem RB.keep (h : RB w B A xs) (hk : ∀ p : Addr, p.block < B → w'.cell? p = w.cell? p) : RB w' B A xs := by
  rcases h with rfl | ⟨b, off, e, hb, hc⟩
  · exact .inl rfl
  · exact .inr ⟨b, off, e, hb, fun i p hp => by rw [hk _ hb]; exact hc i p hp⟩
theorem RB.more (h : RB w B A xs) (hB : B ≤ B') : RB w B' A xs := by
  rcases h with rfl | ⟨b, off, e, hb, hc⟩
  · exact .inl rfl
  · exact .inr ⟨b, off, e, by omega, hc⟩
theorem RB.below (h : RB w B A xs) (hb : Below B w w') : RB w' B A xs := h.keep fun _ hp => hb.cell hp
theorem RB.of_own {base : Nat} {e : TypeId} {n c : Nat} (h : w.ownsRow base e 1 (.slice A n c) n (bcells xs)) : RB w w.heap.size A xs := by
  rcases h.2 with ⟨hv, hn⟩ | ⟨g, cap, cur, hv, _, hh, _⟩
  · left
    have := h.1
    rw [bcells_length] at this
    exact List.eq_nil_of_length_eq_zero (by omega)
  · right
    injection hv with hA
    subst hA
    refine ⟨g, 0, rfl, (Array.getElem?_eq_some_iff.1 hh).1, fun i p hp => ?_⟩
    have h1 := h.cells (g := g) rfl i (.bool p) (by simp [bcells, hp])
    rw [Addr.add_lit] at h1
    exact h1
/-- A piece of it. -/
theorem RB.take {n : Nat} (h : RB w B A xs) : RB w B A (xs.take n) := by
  rcases h with rfl | ⟨b, off, e, hb, hc⟩
  · exact .inl (by simp)
  · refine .inr ⟨b, off, e, hb, fun i p hp => hc i p ?_⟩
    rw [List.getElem?_take] at hp
    split at hp
    · exact hp
    · cases hp
end

theorem boolInfo : (Try.prog.info? 4).map (fun i => (i.zero, i.size, i.bytes)) = some (some (.bool false), 1, 1) := by kernel_rfl

/-- A slice of flags of the call's own. -/
def OwnB (w : World) (B : Nat) (A : Option Addr) (c : Nat) (xs : List Bool) : Prop := w.ownsRow B 4 1 (.slice A xs.length c) xs.length (bcells xs)
theorem OwnB.rb {w : World} {B c : Nat} {A : Option Addr} {xs : List Bool} (h : OwnB w B A c xs) : RB w w.heap.size A xs := RB.of_own h
theorem OwnB.below {w w' : World} {B c : Nat} {A : Option Addr} {xs : List Bool} (h : OwnB w B A c xs) (hb : Below w.heap.size w w') : OwnB w' B A c xs := h.kept (below_grown hb) (by
  cases hv : Value.ownBlock (.slice A xs.length c) <;> simp)
def MadeB (w : World) (B : Nat) (xs : List Bool) (e : Ending) (w' : World) : Prop := ∃ A c, e = .returned (.slice A xs.length c) ∧ OwnB w' B A c xs ∧ Below w.heap.size w w'

/-- A new row, filled up to k. -/
def FilledB (wr : World) (g : Nat) (xs : List Bool) (k : Nat) : Prop :=
  ∃ cs, wr.ownsRow g 4 1 (.slice (some ⟨g, 0, none⟩) xs.length xs.length) xs.length cs ∧ ∀ (i : Nat) (x : Bool), xs[i]? = some x → i < k → cs[i]? = some (.bool x)
theorem FilledB.end_ {wr : World} {g : Nat} {xs : List Bool} (h : FilledB wr g xs xs.length) : wr.ownsRow g 4 1 (.slice (some ⟨g, 0, none⟩) xs.length xs.length) xs.length (bcells xs) := by
  obtain ⟨cs, ho, hx⟩ := h
  have hl := ho.1
  have : cs = bcells xs := by
    refine List.ext_getElem (by rw [bcells_length]; omega) fun i h1 h2 => ?_
    have hi : i < xs.length := by rw [bcells_length] at h2; omega
    have := hx i _ (List.getElem?_eq_getElem hi) hi
    rw [List.getElem?_eq_getElem h1] at this
    rw [Option.some.inj this]
    simp [bcells]
  rwa [this] at ho
theorem FilledB.cell {wr : World} {g : Nat} {xs : List Bool} {k : Nat} (h : FilledB wr g xs k) (hk : k < xs.length) : ∃ u, wr.cell? ⟨g, k, none⟩ = some u := by
  obtain ⟨cs, ho, hx⟩ := h
  have hl := ho.1
  exact ⟨_, (ho.cellAt k (by omega)).trans (List.getElem?_eq_getElem (by omega))⟩
theorem FilledB.frozen {wr : World} {g : Nat} {xs : List Bool} {k : Nat} (h : FilledB wr g xs k) (j : Nat) : wr.frozen? ⟨g, j, none⟩ = false := by
  obtain ⟨cs, ho, hx⟩ := h
  exact ho.frozenAt j
theorem FilledB.store {wr : World} {g : Nat} {xs : List Bool} {k : Nat} (h : FilledB wr g xs k) (hk : k < xs.length) : FilledB (wr.setCell ⟨g, k, none⟩ (.bool xs[k])) g xs (k + 1) := by
  obtain ⟨cs, ho, hx⟩ := h
  have hl := ho.1
  refine ⟨_, (ho.stored k (.bool xs[k])).1, fun i s hs hi => ?_⟩
  by_cases e : i = k
  · subst e
    have : xs[i] = s := by rw [List.getElem?_eq_getElem hk] at hs; exact Option.some.inj hs
    rw [this, List.getElem?_set_self (by omega)]
  · rw [List.getElem?_set_ne (by omega)]
    exact hx i s hs (by omega)

set_option maxHeartbeats 1000000 in
theorem toBoolS_any (A : Option Addr) (c : Nat) (xs : List Bool) (w : World) (hr : RB w w.heap.size A xs) (hn : xs.length ≤ 1048576) :
    Calls Try.prog 67 #[.slice A xs.length c] w (MadeB w w.heap.size xs) := by
  obtain ⟨i0, hi, hz0, hz1, hz2⟩ := info_parts boolInfo
  go_enter Try.func67, Try.ntmps67
  go_wp2_with (at_make; refine wpList_make_full _ rfl _ _ 49 rfl w.heap.size 4 i0 _ 1 Try.underlying49 hi hz0 hz1 _ _ _ _ xs.length rfl rfl rfl rfl (by rw [hz2]; omega) (by unfold maxLen; omega) (Nat.le_refl _) ?_; intro w1 hown1 hg1)
  have hb1 : Below w.heap.size w w1 := (Below.refl _ _).grown hg1 (Nat.le_refl _) (by simp)
  have HO := hid hown1
  have HB := hid hb1
  clear hown1 hg1 hb1
  go_wp2_with fail
  go_loopw [4] (fun i wr => ∃ k : Nat, k ≤ xs.length ∧ i = .int .i64 k ∧ FilledB wr w.heap.size xs k ∧ Below w.heap.size w wr) (fun i _ => xs.length - (intOf i).toNat)
  case atStart => exact ⟨0, Nat.zero_le _, rfl, ⟨_, HO.out, fun i s _ h => absurd h (by omega)⟩, HB.out⟩
  case round =>
    obtain ⟨k, hk, rfl, hfl, hbw⟩ := hrel
    by_cases hlt : k < xs.length
    · obtain ⟨b, off, rfl, hb, hc1⟩ := (hr.below hbw).at_ hlt
      have HF := hid hfl
      have HD := hid hbw
      obtain ⟨u, hu⟩ := hfl.cell hlt
      have f1 := hfl.frozen k
      clear hfl hbw hr
      go_wp2_with fail
      refine ⟨⟨k + 1, by omega, by go_num, HF.out.store hlt, HD.out.setCell (by simp) _⟩, by simp [intOf]; omega⟩
    · obtain rfl : k = xs.length := by omega
      have HF := hid hfl
      have HD := hid hbw
      clear hfl hbw hr
      go_wp2_with fail
      go_ret
      exact ⟨_, _, rfl, HF.out.end_, HD.out⟩

def SzPostB (xs : List Bool) (l : Int) (w : World) (e : Ending) (w' : World) : Prop :=
  ∃ r : Int, e = .returned (.int .i64 r) ∧ -1 ≤ r ∧ r ≤ l ∧ (0 ≤ r → (xs.length : Int) ≤ l) ∧ w = w'

theorem szBoolS_any (A : Option Addr) (c : Nat) (xs : List Bool) (l : Int) (w : World) (hn : xs.length ≤ maxLen) (h0 : 0 ≤ l) (h1 : l ≤ 1048576) :
    Calls Try.prog 66 #[.slice A xs.length c, .int .i64 l] w (SzPostB xs l w) := by
  unfold maxLen at hn
  by_cases g : l - (xs.length : Int) < 0
  · go_enter Try.func66, Try.ntmps66
    go_wp2_with fail
    go_ret
    exact ⟨-1, rfl, by omega, by omega, fun h => by omega, rfl⟩
  · go_enter Try.func66, Try.ntmps66
    go_wp2_with fail
    go_ret
    exact ⟨_, rfl, by omega, by omega, fun h => by omega, rfl⟩

def sameToB (xs ys : List Bool) (k : Nat) : Prop := ∀ (i : Nat) (h : i < xs.length) (h' : i < ys.length), i < k → xs[i] = ys[i]
theorem sameToB_succ {xs ys : List Bool} {k : Nat} (h : sameToB xs ys k) (hk : k < xs.length) (hk' : k < ys.length) (he : xs[k] = ys[k]) : sameToB xs ys (k + 1) := by
  intro i hi hi' hlt
  by_cases e : i = k
  · subst e
    exact he
  · exact h i hi hi' (by omega)
theorem sameB_no {xs ys : List Bool} {k : Nat} (hk : k < xs.length) (hk' : k < ys.length) (he : xs[k] ≠ ys[k]) : decide (xs = ys) = false := by
  rw [decide_eq_false_iff_not]
  rintro rfl
  exact he rfl
theorem sameB_len {xs ys : List Bool} (h : xs.length ≠ ys.length) : decide (xs = ys) = false := by
  rw [decide_eq_false_iff_not]
  rintro rfl
  exact h rfl

set_option maxHeartbeats 1000000 in
theorem eqBoolS_any (A A' : Option Addr) (c c' : Nat) (xs ys : List Bool) (B : Nat) (w : World) (hr : RB w B A xs) (hr' : RB w B A' ys) (hn : xs.length ≤ maxLen) :
    Calls Try.prog 69 #[.slice A xs.length c, .slice A' ys.length c'] w fun e w' => e = .returned (.bool (decide (xs = ys))) ∧ Drawn w w' := by
  unfold maxLen at hn
  by_cases g : xs.length = ys.length
  · have g0 : ((xs.length : Int) != (ys.length : Int)) = false := by simp [g]
    have G := hid g
    clear g
    go_enter Try.func69, Try.ntmps69
    go_wp2_with fail
    go_loopw [5] (fun i wr => ∃ k : Nat, k ≤ xs.length ∧ i = .int .i64 k ∧ sameToB xs ys k ∧ Drawn w wr) (fun i _ => xs.length - (intOf i).toNat)
    case atStart => exact ⟨0, Nat.zero_le _, rfl, fun i h h' hi => absurd hi (by omega), Drawn.refl w⟩
    case round =>
      obtain ⟨k, hk, rfl, hst, hdr⟩ := hrel
      by_cases hlt : k < xs.length
      · have hlt' : k < ys.length := by have := G.out; omega
        obtain ⟨b, off, rfl, hb, hc1⟩ := (hr.below (hdr.below _)).at_ hlt
        obtain ⟨b', off', rfl, hb', hc3⟩ := (hr'.below (hdr.below _)).at_ hlt'
        have HS := hid (sameToB_succ hst hlt hlt')
        have HN := hid (@sameB_no xs ys k hlt hlt')
        have HD := hid hdr
        clear hst hdr hr hr'
        have e5 : (0 : Int) ≤ (k : Int) := by omega
        have e6 : (k : Int) < (xs.length : Int) := by omega
        have e7 : (k : Int) < (ys.length : Int) := by omega
        by_cases he : xs[k] = ys[k]
        · have h3 : (xs[k] != ys[k]) = false := by simp [he]
          have h4 : (xs[k] == ys[k]) = true := by simp [he]
          have h5 : (!xs[k] == ys[k]) = false := by simp [he]
          have HE := hid he
          clear he
          go_wp2_with fail
          go_quiet (fail)
          go_wp2_with fail
          go_roundw
          case rel => exact ⟨k + 1, by omega, by go_num, HS.out HE.out, HD.out.drewN _⟩
          case measure => simp [intOf]; omega
        · have h3 : (xs[k] != ys[k]) = true := by simp [he]
          have h4 : (xs[k] == ys[k]) = false := by simp [he]
          have h5 : (!xs[k] == ys[k]) = true := by simp [he]
          have HE := hid he
          clear he
          go_wp2_with fail
          go_quiet (fail)
          go_wp2_with fail
          go_ret
          exact ⟨ret_bool (HN.out HE.out).symm, HD.out.drewN _⟩
      · obtain rfl : k = xs.length := by omega
        have HE : Hid (decide (xs = ys) = true) := by
          rw [Hid, decide_eq_true_eq]
          exact List.ext_getElem G.out fun i h1 h2 => hst i h1 h2 h1
        have HD := hid hdr
        clear hst hdr hr hr'
        go_wp2_with fail
        go_ret
        exact ⟨ret_bool HE.out.symm, HD.out⟩
  · have g0 : ((xs.length : Int) != (ys.length : Int)) = true := by simp; omega
    have HN := hid (sameB_len g)
    clear g hr hr'
    go_enter Try.func69, Try.ntmps69
    go_wp2_with fail
    go_ret
    exact ⟨ret_bool HN.out.symm, Drawn.refl _⟩
end Go.Proofs.Ytaiehccpefjbfaa
