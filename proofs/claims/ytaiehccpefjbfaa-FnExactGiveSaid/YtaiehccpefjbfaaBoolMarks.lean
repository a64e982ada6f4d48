/-
  Marks in lists of bools (tools/mkbm.py).
-/
import Derived.Test.YtaiehccpefjbfaaMarks
import Derived.Test.YtaiehccpefjbfaaBits
import Derived.Test.YtaiehccpefjbfaaNodeMarks
namespace Go.Proofs.Ytaiehccpefjbfaa
open Go.RowKit

def mk3 (m : Nat) : Bool := decide (m % 3 = 0)
theorem mk3_int (m : Nat) : ((m : Int) % 3 == 0) = mk3 m := by
  unfold mk3
  by_cases h : m % 3 = 0
  · rw [decide_eq_true h, beq_iff_eq]
    omega
  · rw [decide_eq_false h, beq_eq_false_iff_ne]
    omega
theorem mk3_dec (m : Nat) : decide ((m : Int) % 3 = 0) = mk3 m := by
  unfold mk3
  rw [decide_eq_decide]
  omega
def marksB : Nat → Nat → List Bool
  | 0, _ => []
  | n + 1, k => mk3 k :: marksB n (k + 1)
theorem marksB_len : ∀ n k : Nat, (marksB n k).length = n
  | 0, _ => rfl
  | n + 1, k => by simp [marksB, marksB_len n]
theorem marksB_get : ∀ (n k i : Nat) (h : i < (marksB n k).length), (marksB n k)[i] = mk3 (k + i)
  | 0, _, _, h => by simp [marksB] at h
  | n + 1, k, 0, _ => rfl
  | n + 1, k, i + 1, h => by
    have := marksB_get n (k + 1) i (by simpa [marksB] using h)
    simp only [marksB, List.getElem_cons_succ, this]
    congr 1
    omega

/-- What markBoolS leaves. -/
def MarkBPost (B : Nat) (A : Option Addr) (c n k : Nat) (w : World) (e : Ending) (w' : World) : Prop :=
  e = .returned (.int .i64 ((k + n : Nat) : Int)) ∧ w'.ownsRow B 4 1 (.slice A n c) n (bcells (marksB n k)) ∧ w.grownBy w' (Value.ownBlock (.slice A n c))
/-- A row of whose cells m are marked. -/
def MarkedB (wr : World) (B g c n k0 m : Nat) : Prop :=
  ∃ xs, wr.ownsRow B 4 1 (.slice (some ⟨g, 0, none⟩) n c) n xs ∧ ∀ j, j < m → j < n → xs[j]? = some (.bool (mk3 (k0 + j)))
theorem MarkedB.cell {wr : World} {B g c n k0 m : Nat} (h : MarkedB wr B g c n k0 m) {j : Nat} (hj : j < n) : ∃ u, wr.cell? ⟨g, j, none⟩ = some u := by
  obtain ⟨xs, ho, hx⟩ := h
  have hl := ho.1
  exact ⟨_, (ho.cellAt j (by omega)).trans (List.getElem?_eq_getElem (by omega))⟩
theorem MarkedB.frozen {wr : World} {B g c n k0 m : Nat} (h : MarkedB wr B g c n k0 m) (j : Nat) : wr.frozen? ⟨g, j, none⟩ = false := by
  obtain ⟨xs, ho, hx⟩ := h
  exact ho.frozenAt j
theorem MarkedB.store {wr : World} {B g c n k0 m : Nat} (h : MarkedB wr B g c n k0 m) (hm : m < n) : MarkedB (wr.setCell ⟨g, m, none⟩ (.bool (mk3 (k0 + m)))) B g c n k0 (m + 1) := by
  obtain ⟨xs, ho, hx⟩ := h
  have hl := ho.1
  refine ⟨_, (ho.stored m (.bool (mk3 (k0 + m)))).1, fun j hj hn => ?_⟩
  by_cases e : j = m
  · subst e
    rw [List.getElem?_set_self (by omega)]
  · rw [List.getElem?_set_ne (by omega)]
    exact hx j (by omega) hn
theorem MarkedB.end_ {wr : World} {B g c n k0 : Nat} (h : MarkedB wr B g c n k0 n) : wr.ownsRow B 4 1 (.slice (some ⟨g, 0, none⟩) n c) n (bcells (marksB n k0)) := by
  obtain ⟨xs, ho, hx⟩ := h
  have hl := ho.1
  have : xs = bcells (marksB n k0) := by
    refine List.ext_getElem (by rw [bcells_length, marksB_len]; omega) fun i h1 h2 => ?_
    have hi : i < n := by rw [bcells_length, marksB_len] at h2; omega
    have := hx i hi hi
    rw [List.getElem?_eq_getElem h1] at this
    rw [Option.some.inj this]
    simp [bcells, marksB_get]
  rwa [this] at ho

set_option maxHeartbeats 1000000 in
set_option maxRecDepth 100000 in
theorem markBoolS_any (B : Nat) (A : Option Addr) (c : Nat) (xs : List Bool) (k : Nat) (w : World) (ho : OwnB w B A c xs) (hn : xs.length ≤ 2000000) (hk : k ≤ 10000000000000) :
    Calls Try.prog 76 #[.slice A xs.length c, .int .i64 (k : Int)] w (MarkBPost B A c xs.length k w) := by
  rcases ho.2 with ⟨hv, h0⟩ | ⟨g, cap, cur, hv, hg, hh, hnc, _⟩
  · injection hv with e1 e2 e3
    subst e1 e3
    obtain rfl : xs = [] := List.eq_nil_of_length_eq_zero h0
    clear h0 e2 ho
    go_enter Try.func76, Try.ntmps76
    go_wp2_with fail
    go_loopw [1, 5] (fun q i wr => i = .int .i64 0 ∧ q = .int .i64 (k : Int) ∧ wr = w) (fun _ _ _ => 0)
    case atStart => exact ⟨rfl, rfl, rfl⟩
    case round =>
      obtain ⟨rfl, rfl, rfl⟩ := hrel
      go_wp2_with fail
      go_ret
      exact ⟨rfl, World.ownsRow_nil _ _ _ _, ⟨rfl, rfl, rfl, Nat.le_refl _, fun _ _ _ => rfl⟩⟩
  · injection hv with e1 e2 e3
    subst e1 e3
    have hM : MarkedB w B g c xs.length k 0 := ⟨_, ho, fun j hj => absurd hj (by omega)⟩
    have HM := hid hM
    clear hM ho hh e2 hg
    generalize xs.length = n at *
    go_enter Try.func76, Try.ntmps76
    go_wp2_with fail
    go_loopw [1, 5] (fun q i wr => ∃ j m : Nat, j ≤ n ∧ m = k + j ∧ i = .int .i64 (j : Int) ∧ q = .int .i64 (m : Int) ∧ MarkedB wr B g c n k j ∧ w.grownBy wr (some g)) (fun _ i _ => n - (intOf i).toNat)
    case atStart => exact ⟨0, k, Nat.zero_le _, rfl, rfl, rfl, HM.out, ⟨rfl, rfl, rfl, Nat.le_refl _, fun _ _ _ => rfl⟩⟩
    case round =>
      obtain ⟨j, m, hj, hm, rfl, rfl, hmk, hgr⟩ := hrel
      have HK := hid hmk
      have HG := hid hgr
      have HE := hid hm
      have hmb : m ≤ 10000002000000 := by omega
      by_cases hlt : j < n
      · have hst := hmk.store hlt
        rw [← hm] at hst
        have HST := hid hst
        obtain ⟨u, hu⟩ := hmk.cell hlt
        have f1 := hmk.frozen j
        clear hmk hgr hm hst
        go_wp2_with fail
        refine ⟨⟨j + 1, m + 1, by omega, by have := HE.out; omega, by go_num, by go_num, (by rw [mk3_int]; exact HST.out), grown_trans HG.out (grown_set wr g j _)⟩, by simp [intOf]; omega⟩
      · obtain rfl : j = n := by omega
        clear hmk hgr hm
        go_wp2_with fail
        go_ret
        exact ⟨ret_int (by have := HE.out; omega), HK.out.end_, HG.out⟩

set_option maxHeartbeats 1000000 in
set_option maxRecDepth 100000 in
theorem heldBoolS_any (A : Option Addr) (c n k B : Nat) (w : World) (hr : RB w B A (marksB n k)) (hn : n ≤ 2000000) (hk : k ≤ 10000000000000) :
    Calls Try.prog 77 #[.slice A n c, .int .i64 (k : Int)] w fun e w' => e = .returned (.int .i64 ((k + n : Nat) : Int)) ∧ Drawn w w' := by
  have HR := hid hr
  clear hr
  go_enter Try.func77, Try.ntmps77
  go_wp2_with fail
  go_loopw [1, 5] (fun q i wr => ∃ j m : Nat, j ≤ n ∧ m = k + j ∧ i = .int .i64 (j : Int) ∧ q = .int .i64 (m : Int) ∧ Drawn w wr) (fun _ i _ => n - (intOf i).toNat)
  case atStart => exact ⟨0, k, Nat.zero_le _, rfl, rfl, rfl, Drawn.refl _⟩
  case round =>
    obtain ⟨j, m, hj, hm, rfl, rfl, hdr⟩ := hrel
    have hmb : m ≤ 10000002000000 := by omega
    by_cases hlt : j < n
    · have hjl : j < (marksB n k).length := by rw [marksB_len]; exact hlt
      obtain ⟨b, off, rfl, hb, hc⟩ := (HR.out.below (hdr.below B)).at_ hjl
      rw [marksB_get, ← hm] at hc
      have HE := hid hm
      have HD := hid hdr
      have h1 : (mk3 m != mk3 m) = false := by simp
      have h3 := mk3_int m
      have h3' := mk3_dec m
      have e5 : (0 : Int) ≤ (j : Int) := by omega
      have e6 : (j : Int) < (n : Int) := by omega
      clear hm hdr
      first
        | (go_wp2_with fail
           go_roundw
           case rel => exact ⟨j + 1, m + 1, by omega, by have := HE.out; omega, by go_num, by go_num, HD.out⟩
           case measure => simp [intOf]; omega)
        | (go_wp2_with fail
           go_quiet (fail)
           go_wp2_with fail
           go_roundw
           case rel => exact ⟨j + 1, m + 1, by omega, by have := HE.out; omega, by go_num, by go_num, HD.out.drewN _⟩
           case measure => simp [intOf]; omega)
    · obtain rfl : j = n := by omega
      have HE := hid hm
      have HD := hid hdr
      clear hm hdr
      go_wp2_with fail
      go_ret
      exact ⟨ret_int (by have := HE.out; omega), HD.out⟩

end Go.Proofs.Ytaiehccpefjbfaa
