/-
  DrawGet, DrawPut, DrawDrop, DrawRange: what they give.
  DrawDrop, DrawRange, DrawTreeOf: what they give.
-/
import Derived.Test.YtoipcjdpfbgghabBent
namespace Go.Proofs.Ytoipcjdpfbgghab
open Go.RowKit

theorem open_any (A : Option Addr) (n c : Nat) (w : World) :
    Calls Try.prog 27 #[.slice A n c] w fun e w' => e = .returned (.pointer (some ⟨w.heap.size, 0, none⟩)) ∧ w' = w.alloc (.cells #[.slice A n c, .int .i64 0] 70) := by
  go_enter Try.func27, Try.ntmps27
  go_wp2_with fail
  go_ret
  exact ⟨rfl, rfl⟩
theorem Rd.new {w : World} {B : Nat} {A : Option Addr} {n : Nat} (c : Nat) (hc : CB w B A n) (hn : n ≤ 1048576) (hB : B ≤ w.heap.size) : Rd (w.alloc (.cells #[.slice A n c, .int .i64 0] 70)) B w.heap.size :=
  ⟨A, n, c, 0, Nat.zero_le _, hn, heap_alloc_new w _, hc.grown (grown_of_below (r := none) ((Below.refl _ _).alloc (Nat.le_refl _) _)) hB (by simp), hB⟩

/-- Pairs and a key that are drawn. -/
def GetD (w : World) (e : Ending) (w' : World) : Prop := ∃ A c ps k, e = .returned (.tuple #[.slice A ps.length c, .string k]) ∧ OwnP w' w.heap.size A c ps ∧ SmallP ps ∧ ps.length ≤ 60 ∧ k.size ≤ 7 ∧ Below w.heap.size w w'

/-- Pairs, a key and a value that are drawn. -/
def PutD (w : World) (e : Ending) (w' : World) : Prop := ∃ A c ps k v, e = .returned (.tuple #[.slice A ps.length c, .string k, .string v]) ∧ OwnP w' w.heap.size A c ps ∧ SmallP ps ∧ ps.length ≤ 60 ∧ k.size ≤ 7 ∧ v.size ≤ 7 ∧ Below w.heap.size w w'

end Go.Proofs.Ytoipcjdpfbgghab
namespace Go.Proofs.Ytoipcjdpfbgghab
open Go.RowKit

theorem RP.key {w : World} {B b off : Nat} {ps : PS} (h : RP w B (some ⟨b, off, none⟩) ps) {k : Nat} (hk : k < ps.length) : w.cell? ⟨b, off + k * 2, none⟩ = some (.string ps[k].1) := by
  obtain ⟨b', off', e, _, h1, _⟩ := h.at_ hk
  injection e with e
  injection e with e1 e2 e3
  subst e1 e2
  exact h1
theorem RP.val {w : World} {B b off : Nat} {ps : PS} (h : RP w B (some ⟨b, off, none⟩) ps) {k : Nat} (hk : k < ps.length) : w.cell? ⟨b, off + k * 2 + 1, none⟩ = some (.string ps[k].2) := by
  obtain ⟨b', off', e, _, _, h1⟩ := h.at_ hk
  injection e with e
  injection e with e1 e2 e3
  subst e1 e2
  exact h1
theorem rd_start {w w1 : World} {A : Option Addr} {n c : Nat} (hc : CB w w.heap.size A n) (hn : n ≤ 1048576) (hw1 : w1 = w.alloc (.cells #[.slice A n c, .int .i64 0] 70)) :
    Rd w1 w.heap.size w.heap.size ∧ Below w.heap.size w w1 ∧ CB w1 w1.heap.size A n := by
  subst hw1
  have hb : Below w.heap.size w (w.alloc (.cells #[.slice A n c, .int .i64 0] 70)) := (Below.refl _ _).alloc (Nat.le_refl _) _
  refine ⟨Rd.new c hc hn (Nat.le_refl _), hb, ?_⟩
  have h := hc.grown (grown_of_below (r := none) hb) (Nat.le_refl _) (by simp)
  rcases h with h | ⟨b, off, e, hb', hx⟩
  · exact .inl h
  · exact .inr ⟨b, off, e, Nat.lt_of_lt_of_le hb' hb.size, hx⟩

/-- Pairs and the ends of a range that are drawn. -/
def RangeD (w : World) (e : Ending) (w' : World) : Prop := ∃ A c ps lo hi, e = .returned (.tuple #[.slice A ps.length c, .string lo, .string hi]) ∧ OwnP w' w.heap.size A c ps ∧ SmallP ps ∧ ps.length ≤ 60 ∧ lo.size ≤ 7 ∧ hi.size ≤ 7 ∧ Below w.heap.size w w'

/-- Pairs that are drawn. -/
def OfD (w : World) (e : Ending) (w' : World) : Prop := ∃ A c ps, e = .returned (.slice A ps.length c) ∧ OwnP w' w.heap.size A c ps ∧ SmallP ps ∧ ps.length ≤ 60 ∧ Below w.heap.size w w'

end Go.Proofs.Ytoipcjdpfbgghab
