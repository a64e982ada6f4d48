/-
  Marks in holds and locks: how the exact laws write into locks, and look whether it held.
  Marks in locks.
-/
import Derived.Test.YtepgcflkgicpiaaMarks
import Derived.Test.YtepgcflkgicpiaaNodeMarks
import Derived.Test.YtepgcflkgicpiaaLockOwn
namespace Go.Proofs.Ytepgcflkgicpiaa
open Go.RowKit

/-- Holds that are marks. -/
def marksH : Nat → Nat → HS
  | 0, _ => []
  | n + 1, k => (((k : Nat) : Int), mtxt (k + 1), ((k + 2 : Nat) : Int)) :: marksH n (k + 3)
theorem marksH_len : ∀ n k : Nat, (marksH n k).length = n
  | 0, _ => rfl
  | n + 1, k => by simp [marksH, marksH_len n]
theorem marksH_get : ∀ (n k i : Nat) (h : i < (marksH n k).length), (marksH n k)[i] = (((k + 3 * i : Nat) : Int), mtxt (k + 3 * i + 1), ((k + 3 * i + 2 : Nat) : Int))
  | 0, _, _, h => by simp [marksH] at h
  | n + 1, k, 0, _ => rfl
  | n + 1, k, i + 1, h => by
    have := marksH_get n (k + 3) i (by simpa [marksH] using h)
    simp only [marksH, List.getElem_cons_succ, this]
    rw [show k + 3 * (i + 1) = k + 3 + 3 * i by omega]
def hmark (k0 j : Nat) : Value := if j % 3 = 1 then .string (mtxt (k0 + j)) else .int .i64 ((k0 + j : Nat) : Int)
theorem hmark_0 (k j : Nat) : hmark k (j * 3) = .int .i64 ((k + j * 3 : Nat) : Int) := by unfold hmark; rw [if_neg (by omega)]
theorem hmark_1 (k j : Nat) : hmark k (j * 3 + 1) = .string (mtxt (k + (j * 3 + 1))) := by unfold hmark; rw [if_pos (by omega)]
theorem hmark_2 (k j : Nat) : hmark k (j * 3 + 2) = .int .i64 ((k + (j * 3 + 2) : Nat) : Int) := by unfold hmark; rw [if_neg (by omega)]

/-- A row of whose cells m are marked. -/
def MarkedH (wr : World) (B g c n k0 m : Nat) : Prop :=
  ∃ xs, wr.ownsRow B 48 3 (.slice (some ⟨g, 0, none⟩) n c) n xs ∧ ∀ j, j < m → j < n * 3 → xs[j]? = some (hmark k0 j)
theorem MarkedH.grown {wr w' : World} {B g c n k0 m : Nat} (h : MarkedH wr B g c n k0 m) (hb : Below wr.heap.size wr w') : MarkedH w' B g c n k0 m := by
  obtain ⟨xs, ho, hx⟩ := h
  exact ⟨xs, ho.kept (below_grown hb) (.inr (by simp [Value.ownBlock])), hx⟩
theorem MarkedH.cell {wr : World} {B g c n k0 m : Nat} (h : MarkedH wr B g c n k0 m) {j : Nat} (hj : j < n * 3) : ∃ u, wr.cell? ⟨g, j, none⟩ = some u := by
  obtain ⟨xs, ho, hx⟩ := h
  have hl := ho.1
  exact ⟨_, (ho.cellAt j hj).trans (List.getElem?_eq_getElem (by omega))⟩
theorem MarkedH.frozen {wr : World} {B g c n k0 m : Nat} (h : MarkedH wr B g c n k0 m) (j : Nat) : wr.frozen? ⟨g, j, none⟩ = false := by
  obtain ⟨xs, ho, hx⟩ := h
  exact ho.frozenAt j
theorem MarkedH.store {wr : World} {B g c n k0 m : Nat} (h : MarkedH wr B g c n k0 m) (hm : m < n * 3) {v : Value} (hv : v = hmark k0 m) : MarkedH (wr.setCell ⟨g, m, none⟩ v) B g c n k0 (m + 1) := by
  subst hv
  obtain ⟨xs, ho, hx⟩ := h
  have hl := ho.1
  refine ⟨_, (ho.stored m (hmark k0 m)).1, fun j hj hn => ?_⟩
  by_cases e : j = m
  · subst e
    rw [List.getElem?_set_self (by omega)]
  · rw [List.getElem?_set_ne (by omega)]
    exact hx j (by omega) hn
theorem MarkedH.end_ {wr : World} {B g c n k0 : Nat} (h : MarkedH wr B g c n k0 (n * 3)) : wr.ownsRow B 48 3 (.slice (some ⟨g, 0, none⟩) n c) n (hcells (marksH n k0)) := by
  obtain ⟨xs, ho, hx⟩ := h
  have hl := ho.1
  have : xs = hcells (marksH n k0) := hcells_ext _ _ (by rw [hl, marksH_len]) fun i p hp => by
    obtain ⟨hi, rfl⟩ := List.getElem?_eq_some_iff.1 hp
    rw [marksH_get]
    rw [marksH_len] at hi
    refine ⟨?_, ?_, ?_⟩
    · rw [hx _ (by omega) (by omega), hmark_0, show k0 + i * 3 = k0 + 3 * i by omega]
    · rw [hx _ (by omega) (by omega), hmark_1, show k0 + (i * 3 + 1) = k0 + 3 * i + 1 by omega]
    · rw [hx _ (by omega) (by omega), hmark_2, show k0 + (i * 3 + 2) = k0 + 3 * i + 2 by omega]
  rwa [this] at ho

/-- What markHoldS leaves. -/
def MarkHPost (B : Nat) (A : Option Addr) (c n k : Nat) (w : World) (e : Ending) (w' : World) : Prop :=
  e = .returned (.int .i64 ((k + 3 * n : Nat) : Int)) ∧ OwnH w' B A c (marksH n k) ∧ w.grownBy w' (Value.ownBlock (.slice A n c))
theorem ownH_of {w : World} {B n c : Nat} {A : Option Addr} {hs : HS} (hl : hs.length = n) (h : w.ownsRow B 48 3 (.slice A n c) n (hcells hs)) : OwnH w B A c hs := by
  subst hl; exact h

set_option maxHeartbeats 1000000 in
set_option maxRecDepth 100000 in
theorem markHoldS_any (B : Nat) (A : Option Addr) (c : Nat) (ps : HS) (k : Nat) (w : World) (ho : OwnH w B A c ps) (hn : ps.length ≤ 2000000) (hk : k ≤ 10000000000000) :
    Calls Try.prog 83 #[.slice A ps.length c, .int .i64 (k : Int)] w (MarkHPost B A c ps.length k w) := by
  rcases ho.2 with ⟨hv, h0⟩ | ⟨g, cap, cur, hv, hg, hh, hnc, _⟩
  · injection hv with e1 e2 e3
    subst e1 e3
    obtain rfl : ps = [] := List.eq_nil_of_length_eq_zero h0
    clear h0 e2 ho
    go_enter Try.func83, Try.ntmps83
    go_wp2_with fail
    go_loopw [1, 5] (fun q i wr => i = .int .i64 0 ∧ q = .int .i64 (k : Int) ∧ wr = w) (fun _ _ _ => 0)
    case atStart => exact ⟨rfl, rfl, rfl⟩
    case round =>
      obtain ⟨rfl, rfl, rfl⟩ := hrel
      go_wp2_with fail
      go_ret
      exact ⟨rfl, World.ownsRow_nil _ _ _ _, ⟨rfl, rfl, rfl, Nat.le_refl _, fun _ _ _ => rfl⟩⟩
  · injection hv with e1 e2 e3
    subst e1 e3
    have hM : MarkedH w B g c ps.length k 0 := ⟨_, ho, fun j hj => absurd hj (by omega)⟩
    have HM := hid hM
    clear hM ho hh e2 hg
    generalize ps.length = n at *
    go_enter Try.func83, Try.ntmps83
    go_wp2_with fail
    go_loopw [1, 5] (fun q i wr => ∃ j m : Nat, j ≤ n ∧ m = k + 3 * j ∧ i = .int .i64 (j : Int) ∧ q = .int .i64 (m : Int) ∧ MarkedH wr B g c n k (j * 3) ∧ w.grownBy wr (some g)) (fun _ i _ => n - (intOf i).toNat)
    case atStart => exact ⟨0, k, Nat.zero_le _, rfl, rfl, rfl, HM.out, ⟨rfl, rfl, rfl, Nat.le_refl _, fun _ _ _ => rfl⟩⟩
    case round =>
      obtain ⟨j, m, hj, hm, rfl, rfl, hmk, hgr⟩ := hrel
      have HK := hid hmk
      have HG := hid hgr
      have HE := hid hm
      have hmb : m ≤ 10000006001000 := by omega
      clear hmk hgr hm
      by_cases hlt : j < n
      · have f0 := HK.out.frozen (j * 3)
        obtain ⟨u0, hu0⟩ := HK.out.cell (j := j * 3) (by omega)
        have HST0 : Hid (MarkedH (wr.setCell ⟨g, j * 3, none⟩ (.int .i64 (m : Int))) B g c n k (j * 3 + 1)) := HK.out.store (by omega) (by rw [hmark_0]; congr 1; have := HE.out; omega)
        go_wp2_with (first
          | (go_at_call 116; refine (markText_at _ (m + 1) _ (by omega) (by omega)).mono ?_; rintro e w1 ⟨rfl, hw1⟩; have HK1 := hid (HST0.out.grown hw1); have f1 := HK1.out.frozen (j * 3 + 1); have f2 := HK1.out.frozen (j * 3 + 2); obtain ⟨u1, hu1⟩ := HK1.out.cell (j := j * 3 + 1) (by omega); obtain ⟨u2, hu2⟩ := HK1.out.cell (j := j * 3 + 2) (by omega); have HG1 := hid (grown_trans (grown_trans HG.out (grown_set wr g (j * 3) _)) (grown_below hw1)); clear hw1 f0 hu0))
        refine ⟨⟨j + 1, m + 3, by omega, by have := HE.out; omega, by go_num, by go_num, by rw [show (j + 1) * 3 = j * 3 + 2 + 1 by omega]; exact (HK1.out.store (show j * 3 + 1 < n * 3 by omega) (by rw [hmark_1, show k + (j * 3 + 1) = m + 1 from by have := HE.out; omega])).store (by omega) (by rw [hmark_2]; congr 1; have := HE.out; omega), grown_trans (grown_trans HG1.out (grown_set w1 g (j * 3 + 1) _)) (grown_set _ g (j * 3 + 2) _)⟩, by simp [intOf]; omega⟩
      · obtain rfl : j = n := by omega
        go_wp2_with fail
        go_ret
        exact ⟨ret_int (by have := HE.out; omega), ownH_of (marksH_len _ _) HK.out.end_, HG.out⟩

set_option maxHeartbeats 1000000 in
set_option maxRecDepth 100000 in
theorem heldHoldS_any (A : Option Addr) (c n k : Nat) (w : World) (hr : RH w w.heap.size A (marksH n k)) (hn : n ≤ 2000000) (hk : k ≤ 10000000000000) :
    Calls Try.prog 84 #[.slice A n c, .int .i64 (k : Int)] w fun e w' => e = .returned (.int .i64 ((k + 3 * n : Nat) : Int)) ∧ Below w.heap.size w w' := by
  have HR := hid hr
  clear hr
  go_enter Try.func84, Try.ntmps84
  go_wp2_with fail
  go_loopw [1, 5] (fun q i wr => ∃ j m : Nat, j ≤ n ∧ m = k + 3 * j ∧ i = .int .i64 (j : Int) ∧ q = .int .i64 (m : Int) ∧ Below w.heap.size w wr) (fun _ i _ => n - (intOf i).toNat)
  case atStart => exact ⟨0, k, Nat.zero_le _, rfl, rfl, rfl, Below.refl _ _⟩
  case round =>
    obtain ⟨j, m, hj, hm, rfl, rfl, hbw⟩ := hrel
    have hmb : m ≤ 10000006001000 := by omega
    by_cases hlt : j < n
    · obtain ⟨b, off, rfl, hb, hc1, hc2, hc3⟩ := (HR.out.below hbw).at_ (k := j) (by rw [marksH_len]; exact hlt)
      rw [marksH_get] at hc1 hc2 hc3
      simp only [← hm] at hc1 hc2 hc3
      have HD := hid hbw
      have HE := hid hm
      have HW2 : Hid (∀ w2 : World, Below w.heap.size w w2 → w2.cell? ⟨b, off + j * 3 + 1, none⟩ = some (.string (mtxt (m + 1)))) := fun w2 h2 => (h2.cell (p := ⟨b, off + j * 3 + 1, none⟩) hb).trans ((hbw.cell (p := ⟨b, off + j * 3 + 1, none⟩) hb).symm.trans hc2)
      have HW3 : Hid (∀ w2 : World, Below w.heap.size w w2 → w2.cell? ⟨b, off + j * 3 + 2, none⟩ = some (.int .i64 ((m : Int) + 2))) := fun w2 h2 => (h2.cell (p := ⟨b, off + j * 3 + 2, none⟩) hb).trans ((hbw.cell (p := ⟨b, off + j * 3 + 2, none⟩) hb).symm.trans (hc3.trans (by congr 2)))
      clear hbw hm hc2 hc3
      have e5 : (0 : Int) ≤ (j : Int) := by omega
      have e6 : (j : Int) < (n : Int) := by omega
      have hself2 : ((mtxt (m + 1)).toList == (mtxt (m + 1)).toList) = true := by simp
      have hi1 : ((m : Int) != (m : Int)) = false := by simp
      have hi2 : ((m : Int) + 2 != (m : Int) + 2) = false := by simp
      have hi3 : ((m : Int) + 2 != (m : Int) + 1 + 1) = false := by simp; omega
      go_wp2_with fail
      have hc2 := HW2.out wr HD.out
      clear hc1
      go_region_held3 (fun w' => w'.cell? ⟨b, off + j * 3 + 1, none⟩ = some (.string (mtxt (m + 1)))) (go_keep)
        (first | (go_at_call 116; refine (markText_at _ (m + 1) _ (by omega) (by omega)).mono ?_; rintro e w1 ⟨rfl, hw1⟩; have hk1 : w1.cell? ⟨b, off + j * 3 + 1, none⟩ = some (.string (mtxt (m + 1))) := (hw1.cell (p := ⟨b, off + j * 3 + 1, none⟩) (by have := HD.out.size; simp; omega)).trans (by first | exact hc2 | go_simp); have HB1 := hid (HD.out.drew.trans (hw1.mono HD.out.size)); clear hw1))
      have hc3 := HW3.out w1 HB1.out
      clear hk1 hc2
      have hc3b := HW3.out _ (HB1.out.drew)
      go_wp2_with fail
      go_roundw
      case rel => exact ⟨j + 1, m + 3, by omega, by have := HE.out; omega, by go_num, by go_num, HB1.out⟩
      case measure => simp [intOf]; omega
    · obtain rfl : j = n := by omega
      have HE := hid hm
      have HD := hid hbw
      clear hbw hm
      go_wp2_with fail
      go_ret
      exact ⟨ret_int (by have := HE.out; omega), HD.out⟩
end Go.Proofs.Ytepgcflkgicpiaa
namespace Go.Proofs.Ytepgcflkgicpiaa
open Go.RowKit

theorem cutAt_le (l : HS) (i : Nat) : (cutAt l i).length ≤ l.length := by
  unfold cutAt
  rw [List.length_append, List.length_take, List.length_drop]
  omega
theorem wakeF_len : ∀ (f : Nat) (h l : HS) (ws : List Int), (wakeF f h l ws).1.length ≤ h.length + f ∧ (wakeF f h l ws).2.1.length ≤ l.length ∧ (wakeF f h l ws).2.2.length ≤ ws.length + f
  | 0, h, l, ws => ⟨Nat.le_refl _, Nat.le_refl _, Nat.le_refl _⟩
  | f + 1, h, l, ws => by
    rw [wakeF]
    cases firstL h l with
    | none => exact ⟨Nat.le_add_right _ _, Nat.le_refl _, Nat.le_add_right _ _⟩
    | some i =>
      have h1 := wakeF_len f (giveL h (l.getD i (0, ⟨#[]⟩, 0))) (cutAt l i) (ws ++ [(l.getD i (0, ⟨#[]⟩, 0)).1])
      have h2 := giveL_length h (l.getD i (0, ⟨#[]⟩, 0))
      have h3 := cutAt_le l i
      simp only [List.length_append, List.length_singleton] at h1 ⊢
      omega
/-- Only two blocks are turned. -/
structure Grown2 (w w' : World) (r s : Option Nat) : Prop where
  os : w'.os = w.os
  tape : w'.tape = w.tape
  output : w'.output = w.output
  size : w.heap.size ≤ w'.heap.size
  block : ∀ k, k < w.heap.size → some k ≠ r → some k ≠ s → w'.heap[k]? = w.heap[k]?
theorem Grown2.below {B : Nat} {w w' w'' : World} {r s : Option Nat} (h : Below B w w') (hg : Grown2 w' w'' r s) (hB : B ≤ w'.heap.size) (hr : ∀ q, r = some q → B ≤ q) (hs : ∀ q, s = some q → B ≤ q) : Below B w w'' :=
  h.trans ⟨hg.os, hg.tape, hg.output, hg.size, fun k hk => hg.block k (by omega) (fun e => by have := hr k e.symm; omega) (fun e => by have := hs k e.symm; omega)⟩
theorem grown2_one {w w' : World} {r : Option Nat} (h : w.grownBy w' r) : Grown2 w w' r none := ⟨h.os, h.tape, h.output, h.size, fun k hk h1 _ => h.block k hk h1⟩
theorem OwnH.keep2 {w w' : World} {B c : Nat} {A : Option Addr} {hs : HS} {r s : Option Nat} (h : OwnH w B A c hs) (hg : Grown2 w w' r s) (h1 : ∀ k, Value.ownBlock (.slice A hs.length c) = some k → some k ≠ r) (h2 : ∀ k, Value.ownBlock (.slice A hs.length c) = some k → some k ≠ s) : OwnH w' B A c hs :=
  h.stay fun k hk => hg.block k (h.size k hk).2 (h1 k hk) (h2 k hk)
theorem own_keep2 {w w' : World} {B e sz n c : Nat} {A : Option Addr} {xs : List Value} {r s : Option Nat} (h : w.ownsRow B e sz (.slice A n c) n xs) (hg : Grown2 w w' r s) (h1 : ∀ k, Value.ownBlock (.slice A n c) = some k → some k ≠ r) (h2 : ∀ k, Value.ownBlock (.slice A n c) = some k → some k ≠ s) : w'.ownsRow B e sz (.slice A n c) n xs := by
  have hl := World.ownsRow.lt h
  obtain ⟨g1, g2⟩ := h
  refine ⟨g1, ?_⟩
  rcases g2 with g2 | ⟨g, cap, cur, hv, hg2, hh, r⟩
  · exact Or.inl g2
  · rw [hv] at hl h1 h2
    exact Or.inr ⟨g, cap, cur, hv, hg2, by rw [hg.block g (hl g rfl).2 (h1 g rfl) (h2 g rfl)]; exact hh, r⟩

/-- What markLocks leaves. -/
structure MarkL (B : Nat) (A : Option Addr) (c n : Nat) (K : Option Addr) (d m k : Nat) (w : World) (e : Ending) (w' : World) : Prop where
  ret : e = .returned (.int .i64 ((k + 3 * n + 3 * m : Nat) : Int))
  own : OwnH w' B A c (marksH n k)
  own2 : OwnH w' B K d (marksH m (k + 3 * n))
  grown : Grown2 w w' (Value.ownBlock (.slice A n c)) (Value.ownBlock (.slice K m d))

set_option maxHeartbeats 1000000 in
set_option maxRecDepth 100000 in
theorem markLocks_any (B : Nat) (A : Option Addr) (c : Nat) (h : HS) (K : Option Addr) (d : Nat) (l : HS) (k : Nat) (w : World) (ho : OwnH w B A c h) (ho' : OwnH w B K d l) (hne : ∀ q, Value.ownBlock (.slice A h.length c) = some q → Value.ownBlock (.slice K l.length d) ≠ some q) (hn : h.length ≤ 2000000) (hm : l.length ≤ 2000000) (hk : k ≤ 1000000000000) :
    Calls Try.prog 21 #[.agg #[.slice A h.length c, .slice K l.length d], .int .i64 (k : Int)] w (MarkL B A c h.length K d l.length k w) := by
  have a0 := Row2.lit w 28 (.slice A h.length c) (.slice K l.length d)
  have X := hid a0
  have HB1 := hid ((Below.refl w.heap.size w).alloc (Nat.le_refl _) (.cells #[.slice A h.length c, .slice K l.length d] 28))
  have HO := hid (ho.below HB1.out)
  have HO2 := hid (ho'.below HB1.out)
  have HNE := hid hne
  have HLT := hid ho.size
  have HLT2 := hid ho'.size
  clear a0 ho ho' hne
  go_enter Try.func21, Try.ntmps21
  go_wp2_with fail
  have HS1 : Hid ((w.alloc (.cells #[.slice A h.length c, .slice K l.length d] 28)).heap.size = w.heap.size + 1) := by rw [Hid]; simp
  generalize hw1 : w.alloc (.cells #[.slice A h.length c, .slice K l.length d] 28) = w1 at *
  clear hw1
  refine (markHoldS_any B A c h k w1 HO.out hn (by omega)).mono ?_
  rintro e w2 ⟨rfl, ho3, hg3⟩
  have X2 := hid (own_keep2 X.out (grown2_one hg3) (fun q hq e => by cases hq; exact absurd (show w.heap.size < w.heap.size from (HLT.out _ e.symm).2) (Nat.lt_irrefl _)) (fun q hq e => by cases e))
  have x1 := Row2.c1 X2.out
  have HO3 := hid ho3
  have HO4 := hid (HO2.out.keepG hg3 (fun q hq e => HNE.out q e.symm hq))
  have HG3 := hid hg3
  clear ho3 hg3
  go_wp2_with fail
  refine (markHoldS_any B K d l (k + 3 * h.length) w2 HO4.out hm (by omega)).mono ?_
  rintro e w3 ⟨rfl, ho5, hg5⟩
  have HO5 := hid ho5
  have HO6 := hid (HO3.out.keepG hg5 (fun q hq e => by rw [marksH_len] at hq; exact HNE.out q hq e.symm))
  have HG5 := hid hg5
  clear ho5 hg5 x1
  go_wp2_with fail
  go_ret
  refine ⟨rfl, HO6.out, HO5.out, ⟨?_, ?_, ?_, ?_, ?_⟩⟩
  · exact HG5.out.os.trans (HG3.out.os.trans HB1.out.os)
  · exact HG5.out.tape.trans (HG3.out.tape.trans HB1.out.tape)
  · exact HG5.out.output.trans (HG3.out.output.trans HB1.out.output)
  · exact Nat.le_trans HB1.out.size (Nat.le_trans HG3.out.size HG5.out.size)
  · intro q hq h1 h2
    have s1 := HS1.out
    have s2 := HG3.out.size
    exact ((HG5.out.block q (by omega) h2).trans (HG3.out.block q (by omega) h1)).trans (HB1.out.block q hq)

set_option maxHeartbeats 1000000 in
set_option maxRecDepth 100000 in
theorem heldLocks_any (A : Option Addr) (c n : Nat) (K : Option Addr) (d m k : Nat) (w : World) (hr : RH w w.heap.size A (marksH n k)) (hr' : RH w w.heap.size K (marksH m (k + 3 * n))) (hn : n ≤ 2000000) (hm : m ≤ 2000000) (hk : k ≤ 1000000000000) :
    Calls Try.prog 23 #[.agg #[.slice A n c, .slice K m d], .int .i64 (k : Int)] w fun e w' => e = .returned (.int .i64 ((k + 3 * n + 3 * m : Nat) : Int)) ∧ Below w.heap.size w w' := by
  have a0 := Row2.lit w 28 (.slice A n c) (.slice K m d)
  have X := hid a0
  have HB1 := hid ((Below.refl w.heap.size w).alloc (Nat.le_refl _) (.cells #[.slice A n c, .slice K m d] 28))
  have HR := hid ((hr.below HB1.out).more HB1.out.size)
  have HR2 := hid ((hr'.below HB1.out).more HB1.out.size)
  clear a0 hr hr'
  go_enter Try.func23, Try.ntmps23
  go_wp2_with fail
  generalize hw1 : w.alloc (.cells #[.slice A n c, .slice K m d] 28) = w1 at *
  clear hw1
  refine (heldHoldS_any A c n k w1 HR.out hn (by omega)).mono ?_
  rintro e w2 ⟨rfl, hb2⟩
  have X2 := hid (X.out.below hb2)
  have x1 := Row2.c1 X2.out
  have HR4 := hid ((HR2.out.below hb2).more hb2.size)
  have HB2 := hid (HB1.out.trans (hb2.mono HB1.out.size))
  have e1 : ¬ ((k + 3 * n : Nat) : Int) < 0 := by omega
  clear hb2
  go_wp2_with fail
  refine (heldHoldS_any K d m (k + 3 * n) w2 HR4.out hm (by omega)).mono ?_
  rintro e w3 ⟨rfl, hb3⟩
  have e2 : ¬ ((k + 3 * n + 3 * m : Nat) : Int) < 0 := by omega
  have HB3 := hid (HB2.out.trans (hb3.mono HB2.out.size))
  clear hb3 x1
  go_wp2_with fail
  go_ret
  exact ⟨rfl, HB3.out⟩
end Go.Proofs.Ytepgcflkgicpiaa
