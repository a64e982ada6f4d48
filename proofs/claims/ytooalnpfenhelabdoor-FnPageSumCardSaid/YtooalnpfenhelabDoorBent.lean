/-
  A drawn map that may be bent; DrawGet, DrawPut.
-/
import Derived.Test.YtooalnpfenhelabDoorDrawMap
namespace Go.Proofs.YtooalnpfenhelabDoor
open Go.RowKit

/-- Below block B' all but block g is as it was. -/
structure KB (B' g : Nat) (w w' : World) : Prop where
  os : w'.os = w.os
  tape : w'.tape = w.tape
  output : w'.output = w.output
  size : w.heap.size ≤ w'.heap.size
  block : ∀ k, k < B' → k ≠ g → w'.heap[k]? = w.heap[k]?
theorem KB.refl (B' g : Nat) (w : World) : KB B' g w w := ⟨rfl, rfl, rfl, Nat.le_refl _, fun _ _ _ => rfl⟩
theorem KB.trans {B' g : Nat} {a b c : World} (h : KB B' g a b) (h' : KB B' g b c) : KB B' g a c :=
  ⟨h'.os.trans h.os, h'.tape.trans h.tape, h'.output.trans h.output, Nat.le_trans h.size h'.size, fun k hk hn => (h'.block k hk hn).trans (h.block k hk hn)⟩
theorem KB.of_grown {B' g : Nat} {a b : World} (h : a.grownBy b (some g)) (hB : B' ≤ a.heap.size) : KB B' g a b :=
  ⟨h.os, h.tape, h.output, h.size, fun k hk hn => h.block k (by omega) (by simpa using hn)⟩
theorem KB.of_below {B' g : Nat} {a b : World} (h : Below B' a b) : KB B' g a b := ⟨h.os, h.tape, h.output, h.size, fun k hk _ => h.block k hk⟩
theorem KB.below {B' g : Nat} {a b : World} (h : KB B' g a b) (hg : B' ≤ g) : Below B' a b := ⟨h.os, h.tape, h.output, h.size, fun k hk => h.block k hk (by omega)⟩

def SmallP (ps : PS) : Prop := ∀ p ∈ ps, p.1.size ≤ 7 ∧ p.2.size ≤ 7
theorem small_map {ps : PS} (h : mapB ps = true) : SmallP ps := by
  intro p hp
  have := (mapB_iff.1 h).2.1 p hp
  simp only [pairB, Bool.and_eq_true] at this
  have h1 := keyB_small this.1
  have h2 := keyB_small this.2
  omega
theorem SmallP.fits {ps : PS} (h : SmallP ps) : Fits ps := fun p hp => by
  have := h p hp
  unfold maxLen
  omega

/-- Pairs of the call's own from block B' on, bent or not. -/
def BentD (B B' g : Nat) (w : World) (e : Ending) (w' : World) : Prop := ∃ A c ps, e = .returned (.slice A ps.length c) ∧ OwnP w' B' A c ps ∧ SmallP ps ∧ ps.length ≤ 60 ∧ Rd w' B g ∧ KB B' g w w'

end Go.Proofs.YtooalnpfenhelabDoor
