/-
  Numbers that are drawn near two others, and modes.
-/
import Derived.Test.YtjdmaoegfpgfjaaDraw0
namespace Go.Proofs.Ytjdmaoegfpgfjaa
open Go.RowKit

/-- A call on the reader g that answers some number. -/
def NumA (k : IntKind) (B g : Nat) (w : World) (e : Ending) (w' : World) : Prop := ∃ v : Int, e = .returned (.int k v) ∧ Rd w' B g ∧ w.grownBy w' (some g)

set_option maxHeartbeats 1000000 in
theorem word_any (B g : Nat) (w : World) (h : Rd w B g) :
    Calls Try.prog 192 #[.pointer (some ⟨g, 0, none⟩)] w (NumA .u64 B g w) := by
  have HR := hid h
  clear h
  go_enter Try.func192, Try.ntmps192
  go_wp2_with fail
  go_loopw [3, 4] (fun x i wr => ∃ (v : Int) (k : Nat), k ≤ 8 ∧ x = .int .u64 v ∧ i = .int .i64 (k : Int) ∧ Hid (Rd wr B g) ∧ Hid (w.grownBy wr (some g))) (fun _ i _ => 8 - (intOf i).toNat)
  case atStart => exact ⟨0, 0, by omega, rfl, rfl, HR.out, grown_id _ _⟩
  case round =>
    obtain ⟨v, k, hk, rfl, rfl, HRW, HGW⟩ := hrel
    by_cases hlt : k < 8
    · go_wp2_with (go_at_call 134; refine (next_any B g _ HRW.out).mono ?_; rintro e w' ⟨u, hu, rfl, hr, hg⟩; have HR1 := hid hr; have HG1 := hid hg; clear hr hg)
      exact ⟨⟨_, k + 1, by omega, rfl, by go_num, HR1.out, grown_trans' HGW.out HG1.out⟩, by simp [intOf]; omega⟩
    · obtain rfl : k = 8 := by omega
      go_wp2_with fail
      go_ret
      exact ⟨_, rfl, HRW.out, HGW.out⟩

set_option maxHeartbeats 1000000 in
theorem near_any (B g : Nat) (lo hi : Int) (w : World) (h : Rd w B g) (h1 : -1000000000 ≤ lo) (h2 : lo ≤ hi) (h3 : hi ≤ 1000000000) :
    Calls Try.prog 136 #[.pointer (some ⟨g, 0, none⟩), .int .i64 lo, .int .i64 hi] w (NumA .i64 B g w) := by
  have HR := hid h
  clear h
  go_enter Try.func136, Try.ntmps136
  go_wp2_with fail
  refine (below_any B g 8 _ HR.out (by omega) (by omega)).mono ?_
  rintro e w1 ⟨v, hv, rfl, hr1, hg1⟩
  have HR1 := hid hr1
  have HG1 := hid hg1
  clear hr1 hg1
  by_cases v0 : v = 0
  · subst v0
    go_wp2_with fail
    go_ret
    exact ⟨_, rfl, HR1.out, HG1.out⟩
  by_cases v1 : v = 1
  · subst v1
    go_wp2_with fail
    go_ret
    exact ⟨_, rfl, HR1.out, HG1.out⟩
  have e0 : ((v : Int) == 0) = false := by simp; omega
  have e1 : ((v : Int) == 1) = false := by simp; omega
  have e2 : ¬ ((v : Int) = 0) := by omega
  have e3 : ¬ ((v : Int) = 1) := by omega
  go_wp2_with (go_at_call 192; refine (word_any B g _ HR1.out).mono ?_; rintro e w2 ⟨u, rfl, hr2, hg2⟩; have HR2 := hid hr2; have HG2 := hid (grown_trans' HG1.out hg2); clear hr2 hg2)
  go_ret
  exact ⟨_, rfl, HR2.out, HG2.out⟩

theorem tbl_int {W w2 : World} {cs : Array Value} {T : TypeId} {g v : Nat} (hg : (W.alloc (.cells cs T)).grownBy w2 (some g)) (hgW : g < W.heap.size) (hv : v < cs.size) (hall : ∀ i (h : i < cs.size), ∃ x : Int, cs[i] = .int .i64 x) :
    ∃ s : Int, w2.cell? ⟨W.heap.size, v, none⟩ = some (.int .i64 s) := by
  have hb : w2.heap[W.heap.size]? = some (.cells cs T (0, 0)) := (hg.block W.heap.size (by simp) (by simp; omega)).trans (heap_alloc_new W _)
  have h2 := cell_of_row w2 W.heap.size v cs T (0, 0) hb
  obtain ⟨x, hx⟩ := hall v hv
  rw [Array.getElem?_eq_getElem hv, hx] at h2
  exact ⟨x, h2⟩

set_option maxHeartbeats 1000000 in
theorem off_any (B g : Nat) (lo hi : Int) (w : World) (h : Rd w B g) (h1 : -1000000000 ≤ lo) (h2 : lo ≤ hi) (h3 : hi ≤ 1000000000) :
    Calls Try.prog 75 #[.pointer (some ⟨g, 0, none⟩), .int .i64 lo, .int .i64 hi] w (NumA .i64 B g w) := by
  have HR := hid h
  clear h
  go_enter Try.func75, Try.ntmps75
  go_wp2_with fail
  refine (once_any B g 24 _ HR.out (by omega) (by omega)).mono ?_
  rintro e w1 ⟨b, rfl, hr1, hg1⟩
  have HR1 := hid hr1
  have HG1 := hid hg1
  clear hr1 hg1
  cases b
  · go_wp2_with (go_at_call 136; refine (near_any B g lo hi _ HR1.out h1 h2 h3).mono ?_; rintro e w2 ⟨u, rfl, hr2, hg2⟩; have HR2 := hid hr2; have HG2 := hid (grown_trans' HG1.out hg2); clear hr2 hg2)
    go_ret
    exact ⟨_, rfl, HR2.out, HG2.out⟩
  · go_wp2_with fail
    refine (below_any B g 4 _ (HR1.out.below ((Below.refl _ _).alloc (Nat.le_refl _) _)) (by omega) (by omega)).mono ?_
    rintro e w2 ⟨v, hv, rfl, hr2, hg2⟩
    obtain ⟨s, hcell⟩ := tbl_int hg2 HR1.out.lt.1 (by simpa using hv) (by intro i hi; match i, hi with | 0, _ => exact ⟨_, rfl⟩ | 1, _ => exact ⟨_, rfl⟩ | 2, _ => exact ⟨_, rfl⟩ | 3, _ => exact ⟨_, rfl⟩)
    have HR2 := hid hr2
    have HG2 := hid (grown_trans' (grown_of_below ((Below.refl w1.heap.size w1).alloc (Nat.le_refl _) _)) hg2)
    clear hr2 hg2
    have e1 : (0 : Int) ≤ (v : Int) := by omega
    have e2 : (v : Int) < 4 := by omega
    go_wp2_with fail
    go_ret
    exact ⟨_, rfl, HR2.out, grown_trans' HG1.out HG2.out⟩

theorem rdNew {w : World} {B : Nat} {A : Option Addr} {n : Nat} (c : Nat) (hc : CB w B A n) (hn : n ≤ 1048576) (hB : B ≤ w.heap.size) : Rd (w.alloc (.cells #[.slice A n c, .int .i64 0] 164)) B w.heap.size :=
  ⟨A, n, c, 0, Nat.zero_le _, hn, heap_alloc_new w _, hc.grown (grown_of_below (r := none) ((Below.refl _ _).alloc (Nat.le_refl _) _)) hB (by simp), hB⟩
/-- A reader that is opened. -/
theorem openR_any (A : Option Addr) (n c : Nat) (w : World) (hc : CB w w.heap.size A n) (hn : n ≤ 1048576) :
    Calls Try.prog 69 #[.slice A n c] w fun e w' => e = .returned (.pointer (some ⟨w.heap.size, 0, none⟩)) ∧ Rd w' w.heap.size w.heap.size ∧ Below w.heap.size w w' := by
  have HC := hid hc
  clear hc
  go_enter Try.func69, Try.ntmps69
  go_wp2_with fail
  go_ret
  exact ⟨rfl, rdNew c HC.out hn (Nat.le_refl _), (Below.refl _ _).alloc (Nat.le_refl _) _⟩

/-- Two numbers that are drawn. -/
def TwoD (w : World) (e : Ending) (w' : World) : Prop := ∃ a b : Int, e = .returned (.tuple #[.int .i64 a, .int .i64 b]) ∧ Below w.heap.size w w'
end Go.Proofs.Ytjdmaoegfpgfjaa
