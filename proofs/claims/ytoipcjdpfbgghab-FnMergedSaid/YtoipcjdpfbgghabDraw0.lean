/-
  Numbers, keys and values that are drawn.
-/
import Derived.Test.YtoipcjdpfbgghabRd
namespace Go.Proofs.Ytoipcjdpfbgghab
open Go.RowKit

theorem grown_trans' {a b c : World} {r : Option Nat} (h : a.grownBy b r) (h' : b.grownBy c r) : a.grownBy c r :=
  ⟨h'.os.trans h.os, h'.tape.trans h.tape, h'.output.trans h.output, Nat.le_trans h.size h'.size, fun k hk hr => (h'.block k (Nat.lt_of_lt_of_le hk h.size) hr).trans (h.block k hk hr)⟩
theorem grown_id (w : World) (r : Option Nat) : w.grownBy w r := ⟨rfl, rfl, rfl, Nat.le_refl _, fun _ _ _ => rfl⟩
theorem grown_of_below {b c : World} {r : Option Nat} (h : Below b.heap.size b c) : b.grownBy c r := ⟨h.os, h.tape, h.output, h.size, fun k hk _ => h.block k hk⟩

set_option maxHeartbeats 1000000 in
theorem below_any (B g m : Nat) (w : World) (h : Rd w B g) (h1 : 1 ≤ m) (h2 : m ≤ 60000) :
    Calls Try.prog 48 #[.pointer (some ⟨g, 0, none⟩), .int .i64 (m : Int)] w (Num B g m w) := by
  have HR := hid h
  clear h
  by_cases g1 : m ≤ 1
  · go_enter Try.func48, Try.ntmps48
    go_wp2_with fail
    go_ret
    exact ⟨0, by omega, rfl, HR.out, grown_id _ _⟩
  · by_cases g2 : m ≤ 256
    · go_enter Try.func48, Try.ntmps48
      go_wp2_with (go_at_call 67; refine (next_any B g _ HR.out).mono ?_; rintro e w' ⟨v, hv, rfl, hr, hg⟩; have HR1 := hid hr; have HG1 := hid hg; clear hr hg)
      go_ret
      exact ⟨v % m, Nat.mod_lt _ (by omega), rfl, HR1.out, HG1.out⟩
    · go_enter Try.func48, Try.ntmps48
      go_wp2_with fail
      refine (next_any B g _ HR.out).mono ?_
      rintro e w1 ⟨v, hv, rfl, hr1, hg1⟩
      have HR1 := hid hr1
      have HG1 := hid hg1
      clear hr1 hg1
      go_wp2_with fail
      refine (next_any B g _ HR1.out).mono ?_
      rintro e w2 ⟨v2, hv2, rfl, hr2, hg2⟩
      have HR2 := hid hr2
      have HG2 := hid hg2
      clear hr2 hg2
      go_wp2_with fail
      go_ret
      exact ⟨(v * 256 + v2) % m, Nat.mod_lt _ (by omega), rfl, HR2.out, grown_trans' HG1.out HG2.out⟩

/-- A call on the reader g that answers yes or no. -/
def Flag (B g : Nat) (w : World) (e : Ending) (w' : World) : Prop := ∃ b : Bool, e = .returned (.bool b) ∧ Rd w' B g ∧ w.grownBy w' (some g)

theorem once_any (B g m : Nat) (w : World) (h : Rd w B g) (h1 : 1 ≤ m) (h2 : m ≤ 60000) :
    Calls Try.prog 31 #[.pointer (some ⟨g, 0, none⟩), .int .i64 (m : Int)] w (Flag B g w) := by
  have HR := hid h
  clear h
  go_enter Try.func31, Try.ntmps31
  go_wp2_with (go_at_call 48; refine (below_any B g m _ HR.out h1 h2).mono ?_; rintro e w' ⟨v, hv, rfl, hr, hg⟩; have HR1 := hid hr; have HG1 := hid hg; clear hr hg)
  go_ret
  exact ⟨_, rfl, HR1.out, HG1.out⟩

def smallStr : Value → Bool
  | .string s => decide (s.size ≤ 7)
  | _ => false
theorem tbl_cell {W w2 : World} {cs : Array Value} {T : TypeId} {g v : Nat} (hg : (W.alloc (.cells cs T)).grownBy w2 (some g)) (hgW : g < W.heap.size) (hv : v < cs.size) (hall : cs.toList.all smallStr = true) :
    ∃ s : ByteArray, s.size ≤ 7 ∧ w2.cell? ⟨W.heap.size, v, none⟩ = some (.string s) := by
  have hb : w2.heap[W.heap.size]? = some (.cells cs T (0, 0)) := (hg.block W.heap.size (by simp) (by simp; omega)).trans (heap_alloc_new W _)
  have h1 := List.all_eq_true.1 hall cs[v] (Array.getElem_mem_toList hv)
  have h2 := cell_of_row w2 W.heap.size v cs T (0, 0) hb
  rw [Array.getElem?_eq_getElem hv] at h2
  cases hc : cs[v] with
  | string s =>
    rw [hc] at h1 h2
    exact ⟨s, by simpa [smallStr] using h1, h2⟩
  | _ => rw [hc] at h1; simp [smallStr] at h1

/-- A call on the reader g that answers a short text. -/
def Txt (B g : Nat) (w : World) (e : Ending) (w' : World) : Prop := ∃ s : ByteArray, s.size ≤ 7 ∧ e = .returned (.string s) ∧ Rd w' B g ∧ w.grownBy w' (some g)

end Go.Proofs.Ytoipcjdpfbgghab
