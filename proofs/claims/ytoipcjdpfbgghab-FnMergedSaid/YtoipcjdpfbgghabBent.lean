/-
  A drawn map that may be bent; DrawGet, DrawPut.
-/
import Derived.Test.YtoipcjdpfbgghabDrawMap
namespace Go.Proofs.Ytoipcjdpfbgghab
open Go.RowKit

/-- Below block B' all but block g is as it was. -/
structure KB (B' g : Nat) (w w' : World) : Prop where
  os : w'.os = w.os
  tape : w'.tape = w.tape
  output : w'.output = w.output
  size : w.heap.size ≤ w'.heap.size
  block : ∀ k, k < B' → k ≠ g → w'.heap[k]? = w.heap[k]?
theorem KB.refl (B' g : Nat) (w : World) : KB B' g w w := ⟨rfl, rfl, rfl, Nat.le_refl _, fun _ _ _ => rfl⟩
theorem KB.trans {B' g : Nat} {a b c : World} (h : KB B' g a b) (h' : KB B' g b c) : KB B' g a c :=
  ⟨h'.os.trans h.os, h'.tape.trans h.tape, h'.output.trans h.output, Nat.le_trans h.size h'.size, fun k hk hn => (h'.block k hk hn).trans (h.block k hk hn)⟩
theorem KB.of_grown {B' g : Nat} {a b : World} (h : a.grownBy b (some g)) (hB : B' ≤ a.heap.size) : KB B' g a b :=
  ⟨h.os, h.tape, h.output, h.size, fun k hk hn => h.block k (by omega) (by simpa using hn)⟩
theorem KB.of_below {B' g : Nat} {a b : World} (h : Below B' a b) : KB B' g a b := ⟨h.os, h.tape, h.output, h.size, fun k hk _ => h.block k hk⟩
theorem KB.below {B' g : Nat} {a b : World} (h : KB B' g a b) (hg : B' ≤ g) : Below B' a b := ⟨h.os, h.tape, h.output, h.size, fun k hk => h.block k hk (by omega)⟩

def SmallP (ps : PS) : Prop := ∀ p ∈ ps, p.1.size ≤ 7 ∧ p.2.size ≤ 7
theorem small_map {ps : PS} (h : mapB ps = true) : SmallP ps := by
  intro p hp
  have := (mapB_iff.1 h).2.1 p hp
  simp only [pairB, Bool.and_eq_true] at this
  have h1 := keyB_small this.1
  have h2 := keyB_small this.2
  omega
theorem SmallP.fits {ps : PS} (h : SmallP ps) : Fits ps := fun p hp => by
  have := h p hp
  unfold maxLen
  omega

/-- Pairs of the call's own from block B' on, bent or not. -/
def BentD (B B' g : Nat) (w : World) (e : Ending) (w' : World) : Prop := ∃ A c ps, e = .returned (.slice A ps.length c) ∧ OwnP w' B' A c ps ∧ SmallP ps ∧ ps.length ≤ 60 ∧ Rd w' B g ∧ KB B' g w w'

set_option maxHeartbeats 2000000 in
theorem bent_any (B B' g : Nat) (A : Option Addr) (c : Nat) (ps : PS) (w : World) (h : Rd w B g) (ho : OwnP w B' A c ps) (hgB : g < B') (hm : mapB ps = true) (hB' : B' ≤ w.heap.size) :
    Calls Try.prog 32 #[.pointer (some ⟨g, 0, none⟩), .slice A ps.length c] w (BentD B B' g w) := by
  have HR := hid h
  have HO := hid ho
  have HS := hid (small_map hm)
  have hl := (mapB_iff.1 hm).1
  clear h ho hm
  go_enter Try.func32, Try.ntmps32
  go_wp2_with fail
  refine (once_any B g 12 _ HR.out (by omega) (by omega)).mono ?_
  rintro e w1 ⟨b, rfl, hr1, hg1⟩
  have HR1 := hid hr1
  have HO1 := hid (HO.out.keep_g hg1 hgB)
  have HK1 := hid (KB.of_grown hg1 hB')
  clear hr1 hg1
  cases b
  · go_wp2_with fail
    go_ret
    exact ⟨A, c, ps, rfl, HO1.out, HS.out, hl, HR1.out, HK1.out⟩
  · by_cases h1 : 1 < ps.length
    · match ps, h1 with
      | p :: q :: r, _ =>
        obtain ⟨g', cap, cur, hv, hg', hh', hnc, _⟩ : ∃ g' cap cur, Value.slice A (p :: q :: r).length c = .slice (some ⟨g', 0, none⟩) (p :: q :: r).length cap ∧ B' ≤ g' ∧ w1.heap[g']? = some (.cells cur 48 (0, 0)) ∧ (p :: q :: r).length ≤ cap ∧ True := by
          rcases HO1.out.2 with ⟨hv, h0⟩ | ⟨g', cap, cur, hv, hb, hh, hn, _⟩
          · simp at h0
          · exact ⟨g', cap, cur, hv, hb, hh, hn, trivial⟩
        injection hv with e1 e2 e3
        subst e1 e3
        have hb0 : ∀ j u, (pcells (p :: q :: r))[j]? = some u → w1.cell? ⟨g', j, none⟩ = some u := fun j u hu => by
          have := HO1.out.cells (g := g') rfl j u hu
          rwa [Addr.add_lit, Nat.zero_add] at this
        have x0 := hb0 0 _ rfl
        have x1 := hb0 1 _ rfl
        have x2 := hb0 2 _ rfl
        have x3 := hb0 3 _ rfl
        have f0 := HO1.out.frozenAt 0
        have f1 := HO1.out.frozenAt 1
        have f2 := HO1.out.frozenAt 2
        have f3 := HO1.out.frozenAt 3
        have hlt' : g' < w1.heap.size := (HO1.out.size g' rfl).2
        have hne : g' ≠ w1.heap.size := by omega
        have hne' : w1.heap.size ≠ g' := by omega
        have HG := hid hg'
        clear hb0 hh' hnc hg'
        go_wp2_with fail
        go_ret
        have s0 := HO1.out.stored 0 (.string q.1)
        have s1 := s0.1.stored 1 (.string q.2)
        have s2 := s1.1.stored 2 (.string p.1)
        have s3 := s2.1.stored 3 (.string p.2)
        have hgg : ∀ k, some g' = some k → g < k := fun k hk => by
          injection hk with hk
          have := HG.out
          omega
        have hr := (((HR1.out.grown s0.2 hgg).grown s1.2 hgg).grown s2.2 hgg).grown s3.2 hgg
        have hB1 : B' ≤ w1.heap.size := Nat.le_trans hB' HK1.out.size
        refine ⟨some ⟨g', 0, none⟩, c, q :: p :: r, rfl, s3.1.alloc _, ?_, by simpa using hl, hr.below ((Below.refl _ _).alloc (Nat.le_refl _) _), HK1.out.trans (KB.of_below (((((Below.refl B' w1).setCell HG.out _).setCell HG.out _).setCell HG.out _).setCell HG.out _ |>.alloc (by simpa using hB1) _))⟩
        intro x hx
        refine HS.out x ?_
        simp only [List.mem_cons] at hx ⊢
        rcases hx with h | h | h
        · exact .inr (.inl h)
        · exact .inl h
        · exact .inr (.inr h)
      | [_], h1 => simp at h1
      | [], h1 => simp at h1
    · go_wp2_with fail
      go_ret
      exact ⟨A, c, ps, rfl, HO1.out, HS.out, hl, HR1.out, HK1.out⟩
end Go.Proofs.Ytoipcjdpfbgghab
