/-
  DrawGet, DrawPut, DrawDrop, DrawRange: what they give.
-/
import Derived.Test.YtoipcjdpfbgghabBent
namespace Go.Proofs.Ytoipcjdpfbgghab
open Go.RowKit

theorem open_any (A : Option Addr) (n c : Nat) (w : World) :
    Calls Try.prog 27 #[.slice A n c] w fun e w' => e = .returned (.pointer (some ⟨w.heap.size, 0, none⟩)) ∧ w' = w.alloc (.cells #[.slice A n c, .int .i64 0] 70) := by
  go_enter Try.func27, Try.ntmps27
  go_wp2_with fail
  go_ret
  exact ⟨rfl, rfl⟩
theorem Rd.new {w : World} {B : Nat} {A : Option Addr} {n : Nat} (c : Nat) (hc : CB w B A n) (hn : n ≤ 1048576) (hB : B ≤ w.heap.size) : Rd (w.alloc (.cells #[.slice A n c, .int .i64 0] 70)) B w.heap.size :=
  ⟨A, n, c, 0, Nat.zero_le _, hn, heap_alloc_new w _, hc.grown (grown_of_below (r := none) ((Below.refl _ _).alloc (Nat.le_refl _) _)) hB (by simp), hB⟩

/-- Pairs and a key that are drawn. -/
def GetD (w : World) (e : Ending) (w' : World) : Prop := ∃ A c ps k, e = .returned (.tuple #[.slice A ps.length c, .string k]) ∧ OwnP w' w.heap.size A c ps ∧ SmallP ps ∧ ps.length ≤ 60 ∧ k.size ≤ 7 ∧ Below w.heap.size w w'

/-- Pairs, a key and a value that are drawn. -/
def PutD (w : World) (e : Ending) (w' : World) : Prop := ∃ A c ps k v, e = .returned (.tuple #[.slice A ps.length c, .string k, .string v]) ∧ OwnP w' w.heap.size A c ps ∧ SmallP ps ∧ ps.length ≤ 60 ∧ k.size ≤ 7 ∧ v.size ≤ 7 ∧ Below w.heap.size w w'

end Go.Proofs.Ytoipcjdpfbgghab
