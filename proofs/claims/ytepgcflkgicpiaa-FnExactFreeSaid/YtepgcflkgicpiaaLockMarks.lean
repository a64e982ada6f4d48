/-
  Marks in locks.
-/
import Derived.Test.YtepgcflkgicpiaaHoldMarks
import Derived.Test.YtepgcflkgicpiaaFreeI5
namespace Go.Proofs.Ytepgcflkgicpiaa
open Go.RowKit

theorem cutAt_le (l : HS) (i : Nat) : (cutAt l i).length ≤ l.length := by
  unfold cutAt
  rw [List.length_append, List.length_take, List.length_drop]
  omega
theorem wakeF_len : ∀ (f : Nat) (h l : HS) (ws : List Int), (wakeF f h l ws).1.length ≤ h.length + f ∧ (wakeF f h l ws).2.1.length ≤ l.length ∧ (wakeF f h l ws).2.2.length ≤ ws.length + f
  | 0, h, l, ws => ⟨Nat.le_refl _, Nat.le_refl _, Nat.le_refl _⟩
  | f + 1, h, l, ws => by
    rw [wakeF]
    cases firstL h l with
    | none => exact ⟨Nat.le_add_right _ _, Nat.le_refl _, Nat.le_add_right _ _⟩
    | some i =>
      have h1 := wakeF_len f (giveL h (l.getD i (0, ⟨#[]⟩, 0))) (cutAt l i) (ws ++ [(l.getD i (0, ⟨#[]⟩, 0)).1])
      have h2 := giveL_length h (l.getD i (0, ⟨#[]⟩, 0))
      have h3 := cutAt_le l i
      simp only [List.length_append, List.length_singleton] at h1 ⊢
      omega
/-- Only two blocks are turned. -/
structure Grown2 (w w' : World) (r s : Option Nat) : Prop where
  os : w'.os = w.os
  tape : w'.tape = w.tape
  output : w'.output = w.output
  size : w.heap.size ≤ w'.heap.size
  block : ∀ k, k < w.heap.size → some k ≠ r → some k ≠ s → w'.heap[k]? = w.heap[k]?
theorem Grown2.below {B : Nat} {w w' w'' : World} {r s : Option Nat} (h : Below B w w') (hg : Grown2 w' w'' r s) (hB : B ≤ w'.heap.size) (hr : ∀ q, r = some q → B ≤ q) (hs : ∀ q, s = some q → B ≤ q) : Below B w w'' :=
  h.trans ⟨hg.os, hg.tape, hg.output, hg.size, fun k hk => hg.block k (by omega) (fun e => by have := hr k e.symm; omega) (fun e => by have := hs k e.symm; omega)⟩
theorem grown2_one {w w' : World} {r : Option Nat} (h : w.grownBy w' r) : Grown2 w w' r none := ⟨h.os, h.tape, h.output, h.size, fun k hk h1 _ => h.block k hk h1⟩
theorem OwnH.keep2 {w w' : World} {B c : Nat} {A : Option Addr} {hs : HS} {r s : Option Nat} (h : OwnH w B A c hs) (hg : Grown2 w w' r s) (h1 : ∀ k, Value.ownBlock (.slice A hs.length c) = some k → some k ≠ r) (h2 : ∀ k, Value.ownBlock (.slice A hs.length c) = some k → some k ≠ s) : OwnH w' B A c hs :=
  h.stay fun k hk => hg.block k (h.size k hk).2 (h1 k hk) (h2 k hk)
theorem own_keep2 {w w' : World} {B e sz n c : Nat} {A : Option Addr} {xs : List Value} {r s : Option Nat} (h : w.ownsRow B e sz (.slice A n c) n xs) (hg : Grown2 w w' r s) (h1 : ∀ k, Value.ownBlock (.slice A n c) = some k → some k ≠ r) (h2 : ∀ k, Value.ownBlock (.slice A n c) = some k → some k ≠ s) : w'.ownsRow B e sz (.slice A n c) n xs := by
  have hl := World.ownsRow.lt h
  obtain ⟨g1, g2⟩ := h
  refine ⟨g1, ?_⟩
  rcases g2 with g2 | ⟨g, cap, cur, hv, hg2, hh, r⟩
  · exact Or.inl g2
  · rw [hv] at hl h1 h2
    exact Or.inr ⟨g, cap, cur, hv, hg2, by rw [hg.block g (hl g rfl).2 (h1 g rfl) (h2 g rfl)]; exact hh, r⟩

/-- What markLocks leaves. -/
structure MarkL (B : Nat) (A : Option Addr) (c n : Nat) (K : Option Addr) (d m k : Nat) (w : World) (e : Ending) (w' : World) : Prop where
  ret : e = .returned (.int .i64 ((k + 3 * n + 3 * m : Nat) : Int))
  own : OwnH w' B A c (marksH n k)
  own2 : OwnH w' B K d (marksH m (k + 3 * n))
  grown : Grown2 w w' (Value.ownBlock (.slice A n c)) (Value.ownBlock (.slice K m d))

set_option maxHeartbeats 1000000 in
set_option maxRecDepth 100000 in
theorem markLocks_any (B : Nat) (A : Option Addr) (c : Nat) (h : HS) (K : Option Addr) (d : Nat) (l : HS) (k : Nat) (w : World) (ho : OwnH w B A c h) (ho' : OwnH w B K d l) (hne : ∀ q, Value.ownBlock (.slice A h.length c) = some q → Value.ownBlock (.slice K l.length d) ≠ some q) (hn : h.length ≤ 2000000) (hm : l.length ≤ 2000000) (hk : k ≤ 1000000000000) :
    Calls Try.prog 21 #[.agg #[.slice A h.length c, .slice K l.length d], .int .i64 (k : Int)] w (MarkL B A c h.length K d l.length k w) := by
  have a0 := Row2.lit w 28 (.slice A h.length c) (.slice K l.length d)
  have X := hid a0
  have HB1 := hid ((Below.refl w.heap.size w).alloc (Nat.le_refl _) (.cells #[.slice A h.length c, .slice K l.length d] 28))
  have HO := hid (ho.below HB1.out)
  have HO2 := hid (ho'.below HB1.out)
  have HNE := hid hne
  have HLT := hid ho.size
  have HLT2 := hid ho'.size
  clear a0 ho ho' hne
  go_enter Try.func21, Try.ntmps21
  go_wp2_with fail
  have HS1 : Hid ((w.alloc (.cells #[.slice A h.length c, .slice K l.length d] 28)).heap.size = w.heap.size + 1) := by rw [Hid]; simp
  generalize hw1 : w.alloc (.cells #[.slice A h.length c, .slice K l.length d] 28) = w1 at *
  clear hw1
  refine (markHoldS_any B A c h k w1 HO.out hn (by omega)).mono ?_
  rintro e w2 ⟨rfl, ho3, hg3⟩
  have X2 := hid (own_keep2 X.out (grown2_one hg3) (fun q hq e => by cases hq; exact absurd (show w.heap.size < w.heap.size from (HLT.out _ e.symm).2) (Nat.lt_irrefl _)) (fun q hq e => by cases e))
  have x1 := Row2.c1 X2.out
  have HO3 := hid ho3
  have HO4 := hid (HO2.out.keepG hg3 (fun q hq e => HNE.out q e.symm hq))
  have HG3 := hid hg3
  clear ho3 hg3
  go_wp2_with fail
  refine (markHoldS_any B K d l (k + 3 * h.length) w2 HO4.out hm (by omega)).mono ?_
  rintro e w3 ⟨rfl, ho5, hg5⟩
  have HO5 := hid ho5
  have HO6 := hid (HO3.out.keepG hg5 (fun q hq e => by rw [marksH_len] at hq; exact HNE.out q hq e.symm))
  have HG5 := hid hg5
  clear ho5 hg5 x1
  go_wp2_with fail
  go_ret
  refine ⟨rfl, HO6.out, HO5.out, ⟨?_, ?_, ?_, ?_, ?_⟩⟩
  · exact HG5.out.os.trans (HG3.out.os.trans HB1.out.os)
  · exact HG5.out.tape.trans (HG3.out.tape.trans HB1.out.tape)
  · exact HG5.out.output.trans (HG3.out.output.trans HB1.out.output)
  · exact Nat.le_trans HB1.out.size (Nat.le_trans HG3.out.size HG5.out.size)
  · intro q hq h1 h2
    have s1 := HS1.out
    have s2 := HG3.out.size
    exact ((HG5.out.block q (by omega) h2).trans (HG3.out.block q (by omega) h1)).trans (HB1.out.block q hq)

set_option maxHeartbeats 1000000 in
set_option maxRecDepth 100000 in
theorem heldLocks_any (A : Option Addr) (c n : Nat) (K : Option Addr) (d m k : Nat) (w : World) (hr : RH w w.heap.size A (marksH n k)) (hr' : RH w w.heap.size K (marksH m (k + 3 * n))) (hn : n ≤ 2000000) (hm : m ≤ 2000000) (hk : k ≤ 1000000000000) :
    Calls Try.prog 23 #[.agg #[.slice A n c, .slice K m d], .int .i64 (k : Int)] w fun e w' => e = .returned (.int .i64 ((k + 3 * n + 3 * m : Nat) : Int)) ∧ Below w.heap.size w w' := by
  have a0 := Row2.lit w 28 (.slice A n c) (.slice K m d)
  have X := hid a0
  have HB1 := hid ((Below.refl w.heap.size w).alloc (Nat.le_refl _) (.cells #[.slice A n c, .slice K m d] 28))
  have HR := hid ((hr.below HB1.out).more HB1.out.size)
  have HR2 := hid ((hr'.below HB1.out).more HB1.out.size)
  clear a0 hr hr'
  go_enter Try.func23, Try.ntmps23
  go_wp2_with fail
  generalize hw1 : w.alloc (.cells #[.slice A n c, .slice K m d] 28) = w1 at *
  clear hw1
  refine (heldHoldS_any A c n k w1 HR.out hn (by omega)).mono ?_
  rintro e w2 ⟨rfl, hb2⟩
  have X2 := hid (X.out.below hb2)
  have x1 := Row2.c1 X2.out
  have HR4 := hid ((HR2.out.below hb2).more hb2.size)
  have HB2 := hid (HB1.out.trans (hb2.mono HB1.out.size))
  have e1 : ¬ ((k + 3 * n : Nat) : Int) < 0 := by omega
  clear hb2
  go_wp2_with fail
  refine (heldHoldS_any K d m (k + 3 * n) w2 HR4.out hm (by omega)).mono ?_
  rintro e w3 ⟨rfl, hb3⟩
  have e2 : ¬ ((k + 3 * n + 3 * m : Nat) : Int) < 0 := by omega
  have HB3 := hid (HB2.out.trans (hb3.mono HB2.out.size))
  clear hb3 x1
  go_wp2_with fail
  go_ret
  exact ⟨rfl, HB3.out⟩
end Go.Proofs.Ytepgcflkgicpiaa
