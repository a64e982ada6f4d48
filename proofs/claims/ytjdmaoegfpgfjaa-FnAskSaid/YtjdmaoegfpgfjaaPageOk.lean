/-
  PageOk of both: contracts.
-/
import Derived.Test.YtjdmaoegfpgfjaaInts
namespace Go.Proofs.Ytjdmaoegfpgfjaa
open Go.RowKit

def idB (n : Int) : Bool := decide (1 ≤ n) && decide (n ≤ 1000000)
def kidB (id : Int) (ks : List Int) (i : Nat) : Bool := idB (ks.getD i 0) && (!decide (ks.getD i 0 ∈ ks.take i) && !decide (ks.getD i 0 = id))
/-- Kids that a page may have, but for how many there are. -/
def kidsB (id : Int) (ks : List Int) : Bool := (List.range ks.length).all (kidB id ks)
/-- What PageOk answers. -/
def pageB (id : Int) (ps : PS) (ks : List Int) : Bool :=
  kidsB id ks && (idB id && (pairsB ps && (decide (ps.length ≤ 4) && (decide (ks.length ≤ 4) && (!decide (ks.length = 1) && (decide (ks.length = 0) || decide (ps.length = 0)))))))

def kidsTo (id : Int) (ks : List Int) (k : Nat) : Prop := ∀ i, i < k → kidB id ks i = true
theorem kidsTo_zero (id : Int) (ks : List Int) : kidsTo id ks 0 := fun i h => absurd h (by omega)
theorem getD_at {ks : List Int} {k : Nat} (hk : k < ks.length) : ks.getD k 0 = ks[k] := by simp [hk]
theorem kidsTo_succ {id : Int} {ks : List Int} {k : Nat} (h : kidsTo id ks k) (hk : k < ks.length) (h1 : idB ks[k] = true) (h2 : decide (ks[k] ∈ ks.take k) = false) (h3 : ks[k] ≠ id) : kidsTo id ks (k + 1) := by
  intro i hi
  by_cases e : i = k
  · subst e
    rw [kidB, getD_at hk, h1, h2]
    simp [h3]
  · exact h i (by omega)
theorem kidsTo_end {id : Int} {ks : List Int} (h : kidsTo id ks ks.length) : kidsB id ks = true := by
  rw [kidsB, List.all_eq_true]
  intro i hi
  exact h i (List.mem_range.1 hi)
theorem kids_bad {id : Int} {ks : List Int} {k : Nat} (hk : k < ks.length) (h : idB ks[k] = false ∨ decide (ks[k] ∈ ks.take k) = true ∨ ks[k] = id) : kidsB id ks = false := by
  rw [Bool.eq_false_iff]
  intro h'
  have := List.all_eq_true.1 h' k (List.mem_range.2 hk)
  rw [kidB, getD_at hk] at this
  rcases h with h | h | h <;> simp [h] at this
theorem pageB_kids {id : Int} {ps : PS} {ks : List Int} (h : kidsB id ks = false) : pageB id ps ks = false := by simp [pageB, h]

theorem eqI_true {x y : Int} (h : x = y) : (x == y) = true := by simp [h]
theorem eqI_false {x y : Int} (h : x ≠ y) : (x == y) = false := by simp [h]
theorem neI_true {x y : Int} (h : x ≠ y) : (x != y) = true := by simp [h]
theorem neI_false {x y : Int} (h : x = y) : (x != y) = false := by simp [h]

theorem spec_idIn (n : Int) (w : World) :
    Calls Try.prog 100 #[.int .i64 n, .int .i64 1, .int .i64 1000000] w fun e w' => e = .returned (.bool (idB n)) ∧ w = w' := by
  by_cases h1 : 1 ≤ n
  · by_cases h2 : n ≤ 1000000
    · have HE : Hid (idB n = true) := by simp [Hid, idB, h1, h2]
      go_enter Try.func100, Try.ntmps100
      go_wp2_with fail
      go_ret
      exact ⟨ret_bool HE.out.symm, rfl⟩
    · have HE : Hid (idB n = false) := by simp [Hid, idB, h2]
      go_enter Try.func100, Try.ntmps100
      go_wp2_with fail
      go_ret
      exact ⟨ret_bool HE.out.symm, rfl⟩
  · have HE : Hid (idB n = false) := by simp [Hid, idB, h1]
    go_enter Try.func100, Try.ntmps100
    go_wp2_with fail
    go_ret
    exact ⟨ret_bool HE.out.symm, rfl⟩

def noneToI (xs : List Int) (x : Int) (k : Nat) : Prop := ∀ (i : Nat) (h : i < xs.length), i < k → xs[i] ≠ x
theorem noneToI_succ {xs : List Int} {x : Int} {k : Nat} (h : noneToI xs x k) (hk : k < xs.length) (he : xs[k] ≠ x) : noneToI xs x (k + 1) := by
  intro i hi hlt
  by_cases e : i = k
  · subst e
    exact he
  · exact h i hi (by omega)
theorem noneToI_end {xs : List Int} {x : Int} (h : noneToI xs x xs.length) : decide (x ∈ xs) = false := by
  rw [decide_eq_false_iff_not]
  intro hx
  obtain ⟨i, hi, e⟩ := List.getElem_of_mem hx
  exact h i hi hi e
theorem hasI_at {xs : List Int} {x : Int} {k : Nat} (hk : k < xs.length) (he : xs[k] = x) : decide (x ∈ xs) = true := by
  subst he
  simp

set_option maxHeartbeats 1000000 in
theorem spec_l1Has (A : Option Addr) (c : Nat) (xs : List Int) (x : Int) (B : Nat) (w : World) (hr : RI w B A xs) (hn : xs.length ≤ maxLen) :
    Calls Try.prog 200 #[.slice A xs.length c, .int .i64 x] w fun e w' => e = .returned (.bool (decide (x ∈ xs))) ∧ w = w' := by
  unfold maxLen at hn
  go_enter Try.func200, Try.ntmps200
  go_wp2_with fail
  go_loop [5] (fun i => ∃ k : Nat, k ≤ xs.length ∧ i = .int .i64 k ∧ noneToI xs x k) (fun i => xs.length - (intOf i).toNat)
  case atStart => exact ⟨0, Nat.zero_le _, rfl, fun i h hi => absurd hi (by omega)⟩
  case round =>
    obtain ⟨k, hk, rfl, hnt⟩ := hrel
    by_cases hlt : k < xs.length
    · obtain ⟨b, off, rfl, hb, hc1⟩ := hr.at_ hlt
      have HS := hid (noneToI_succ hnt hlt)
      have HV := hid (@hasI_at xs x k hlt)
      clear hnt hr
      by_cases he : xs[k] = x
      · have h1 := eqI_true he
        have HE := hid he
        clear he
        go_wp2_with fail
        go_ret
        exact ⟨ret_bool (HV.out HE.out).symm, rfl⟩
      · have h1 := eqI_false he
        have HE := hid he
        clear he
        go_wp2_with fail
        go_round
        case rel => exact ⟨k + 1, by omega, by go_num, HS.out HE.out⟩
        case measure => simp [intOf]; omega
    · obtain rfl : k = xs.length := by omega
      have HE := hid (noneToI_end hnt)
      clear hnt hr
      go_wp2_with fail
      go_ret
      exact ⟨ret_bool HE.out.symm, rfl⟩

set_option maxHeartbeats 1000000 in
theorem index_any (A : Option Addr) (c : Nat) (xs : List Int) (x : Int) (B : Nat) (w : World) (hr : RI w B A xs) (hn : xs.length ≤ maxLen) :
    Calls Try.prog 198 #[.slice A xs.length c, .int .i64 x] w fun e w' => (∃ r : Int, e = .returned (.int .i64 r) ∧ decide (0 ≤ r) = decide (x ∈ xs)) ∧ w = w' := by
  unfold maxLen at hn
  go_enter Try.func198, Try.ntmps198
  go_wp2_with fail
  go_loop [8] (fun i => ∃ k : Nat, k ≤ xs.length ∧ i = .int .i64 k ∧ noneToI xs x k) (fun i => xs.length - (intOf i).toNat)
  case atStart => exact ⟨0, Nat.zero_le _, rfl, fun i h hi => absurd hi (by omega)⟩
  case round =>
    obtain ⟨k, hk, rfl, hnt⟩ := hrel
    by_cases hlt : k < xs.length
    · obtain ⟨b, off, rfl, hb, hc1⟩ := hr.at_ hlt
      have HS := hid (noneToI_succ hnt hlt)
      have HV := hid (@hasI_at xs x k hlt)
      clear hnt hr
      by_cases he : xs[k] = x
      · have h1 := eqI_true he.symm
        have HE := hid he
        clear he
        go_wp2_with fail
        go_ret
        exact ⟨⟨_, rfl, fun _ => of_decide_eq_true (HV.out HE.out), fun _ => by omega⟩, rfl⟩
      · have h1 := eqI_false (Ne.symm he)
        have HE := hid he
        clear he
        go_wp2_with fail
        go_round
        case rel => exact ⟨k + 1, by omega, by go_num, HS.out HE.out⟩
        case measure => simp [intOf]; omega
    · obtain rfl : k = xs.length := by omega
      have HE := hid (noneToI_end hnt)
      clear hnt hr
      go_wp2_with fail
      go_ret
      exact ⟨⟨_, rfl, fun h => absurd h (by omega), fun h => absurd h (of_decide_eq_false HE.out)⟩, rfl⟩

theorem contains_any (A : Option Addr) (c : Nat) (xs : List Int) (x : Int) (B : Nat) (w : World) (hr : RI w B A xs) (hn : xs.length ≤ maxLen) :
    Calls Try.prog 158 #[.slice A xs.length c, .int .i64 x] w fun e w' => e = .returned (.bool (decide (x ∈ xs))) ∧ w = w' := by
  have HR := hid hr
  have HN := hid hn
  clear hr hn
  go_enter Try.func158, Try.ntmps158
  go_wp2_with (go_at_call 198; refine (index_any A c xs x B _ HR.out HN.out).mono ?_; rintro e w' ⟨⟨r, rfl, hr⟩, rfl⟩; have HE := hid hr; clear hr)
  go_ret
  exact ⟨ret_bool HE.out, rfl⟩
end Go.Proofs.Ytjdmaoegfpgfjaa
