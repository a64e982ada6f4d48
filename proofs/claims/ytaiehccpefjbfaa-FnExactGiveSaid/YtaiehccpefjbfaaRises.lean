/-
  The program's MapOk: keys that rise, asked through an interface of the project's own.
-/
import Derived.Test.YtaiehccpefjbfaaMapOk
namespace Go.Proofs.Ytaiehccpefjbfaa
open Go.RowKit

def slash (a b : String) : String := a ++ (String.singleton (Char.ofNat 47) ++ b)
theorem slash_def (a b : String) : slash a b = a ++ (String.singleton (Char.ofNat 47) ++ b) := rfl
theorem method_sortKey (f : Nat) (k v : ByteArray) (w : World) : (method (f + 1) 172 (.agg #[.string k, .string v]) (slash "loop.example" (slash "g00573" "impl.sortKey"))).run Try.prog w = .ok (192, .agg #[.string k, .string v]) w := by
  kernel_rfl

theorem sortKey_any (k v : ByteArray) (w : World) :
    Calls Try.prog 192 #[.agg #[.string k, .string v]] w fun e w' => e = .returned (.string k) ∧ w' = w.alloc (.cells #[.string k, .string v] 172) := by
  go_enter Try.func192, Try.ntmps192
  go_wp2
  go_ret
  exact ⟨rfl, rfl⟩

theorem below2 {B : Nat} {w wr : World} {o o' : Obj} {n : Nat} (h : Below B w wr) (hB : B ≤ wr.heap.size) : Below B w (((wr.alloc o).alloc o').drewN n) := by
  have h2 := (h.alloc hB o).alloc (by simp; omega) o'
  exact ⟨h2.os, h2.tape, h2.output, h2.size, h2.block⟩

theorem risesB_ended {ps : PS} {k : Nat} (h : risesTo ps k) (hk : ps.length ≤ k) : risesB ps = true :=
  (rises_iff ps).2 fun i hi => h i hi (by omega)

set_option maxHeartbeats 1000000 in
theorem rises_any (A : Option Addr) (c : Nat) (ps : PS) (w : World) (hr : RP w w.heap.size A ps) (hn : ps.length ≤ maxLen) :
    Calls Try.prog 166 #[.slice A ps.length c] w fun e w' => e = .returned (.bool (risesB ps)) ∧ Below w.heap.size w w' := by
  unfold maxLen at hn
  have hm := method_sortKey
  simp only [slash_def, String.reduceAppend, String.reduceSingleton] at hm
  go_enter Try.func166, Try.ntmps166
  go_wp2_with fail
  go_loopw [3] (fun i wr => ∃ k : Nat, 1 ≤ k ∧ (k ≤ ps.length ∨ k = 1) ∧ i = .int .i64 k ∧ risesTo ps k ∧ Below w.heap.size w wr) (fun i _ => ps.length - (intOf i).toNat)
  case atStart => exact ⟨1, by omega, by omega, rfl, risesTo_one ps, Below.refl _ w⟩
  case round =>
    obtain ⟨k, hk1, hk, rfl, hrs, hbw⟩ := hrel
    by_cases hlt : k < ps.length
    · obtain ⟨b, off, rfl, hb, hc⟩ : ∃ b off, A = some ⟨b, off, none⟩ ∧ b < w.heap.size ∧ ∀ i (hi : i < ps.length), wr.cell? ⟨b, off + i * 2, none⟩ = some (.string ps[i].1) ∧ wr.cell? ⟨b, off + i * 2 + 1, none⟩ = some (.string ps[i].2) := by
        rcases hr.below hbw with rfl | ⟨b, off, e, hb, hc⟩
        · simp at hlt
        · exact ⟨b, off, e, hb, fun i hi => hc i _ (List.getElem?_eq_getElem hi)⟩
      have hc1 := (hc k hlt).1
      have hc2 := (hc k hlt).2
      have hc3 := (hc (k - 1) (by omega)).1
      have hc4 := (hc (k - 1) (by omega)).2
      have HR := hid (risesTo_succ hrs hlt)
      have HD := hid hbw
      have HRB := hid (@rises_bad ps k hlt)
      clear hbw hrs hc hr
      have e1 : IntKind.i64.wrap ((k : Int) - 1) = (k : Int) - 1 := IntWalk.i64_in _ (by omega)
      have e2 : (0 : Int) ≤ (k : Int) - 1 := by omega
      have e3 : (k : Int) - 1 < (ps.length : Int) := by omega
      have e4 : ((k : Int) - 1).toNat = k - 1 := by omega
      have e7 : (1 : Int) ≤ (k : Int) := by omega
      have e8 : 0 < k := by omega
      have e9 : (k : Int) - 1 ≤ (ps.length : Int) - 1 := by omega
      have e10 : (k : Int) < (ps.length : Int) + 1 := by omega
      have e11 : (k : Int) ≤ (ps.length : Int) := by omega
      have e12 : ¬ ((k : Int) - 1 < 0) := by omega
      have e13 : ¬ ((k : Int) < 1) := by omega
      have e14 : ¬ ((ps.length : Int) ≤ (k : Int) - 1) := by omega
      have e15 : k - 1 < ps.length := by omega
      have e5 : (0 : Int) ≤ (k : Int) := by omega
      have e6 : (k : Int) < (ps.length : Int) := by omega
      cases h3 : ltS ps[k - 1].1 ps[k].1
      · have h4 : Op.bytesLess ps[k - 1].1.toList ps[k].1.toList = false := h3
        go_wp2_with fail
        go_region_held3 (fun w' => w'.cell? ⟨b, off + (k - 1) * 2, none⟩ = some (.string ps[k - 1].1) ∧ w'.cell? ⟨b, off + (k - 1) * 2 + 1, none⟩ = some (.string ps[k - 1].2) ∧ w'.cell? ⟨b, off + k * 2, none⟩ = some (.string ps[k].1) ∧ w'.cell? ⟨b, off + k * 2 + 1, none⟩ = some (.string ps[k].2)) (go_keep)
          (first | (go_at_call 192; refine (sortKey_any _ _ _).mono ?_; rintro e w' ⟨rfl, rfl⟩))
        go_wp2_with fail
        go_ret
        exact ⟨ret_bool (HRB.out (by omega) h3).symm, below2 HD.out HD.out.size⟩
      · have h4 : Op.bytesLess ps[k - 1].1.toList ps[k].1.toList = true := h3
        go_wp2_with fail
        go_region_held3 (fun w' => w'.cell? ⟨b, off + (k - 1) * 2, none⟩ = some (.string ps[k - 1].1) ∧ w'.cell? ⟨b, off + (k - 1) * 2 + 1, none⟩ = some (.string ps[k - 1].2) ∧ w'.cell? ⟨b, off + k * 2, none⟩ = some (.string ps[k].1) ∧ w'.cell? ⟨b, off + k * 2 + 1, none⟩ = some (.string ps[k].2)) (go_keep)
          (first | (go_at_call 192; refine (sortKey_any _ _ _).mono ?_; rintro e w' ⟨rfl, rfl⟩))
        go_wp2_with fail
        go_roundw
        case rel => exact ⟨k + 1, by omega, by omega, by go_num, HR.out (fun _ => h3), below2 HD.out HD.out.size⟩
        case measure => simp [intOf]; omega
    · have HE := hid (risesB_ended hrs (by omega))
      have HD := hid hbw
      clear hrs hbw hr
      go_wp2_with fail
      go_ret
      exact ⟨ret_bool HE.out.symm, HD.out⟩
end Go.Proofs.Ytaiehccpefjbfaa
