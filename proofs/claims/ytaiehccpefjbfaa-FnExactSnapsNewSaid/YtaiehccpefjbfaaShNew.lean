/-
  ShadowNew of both, and what its law goes through.
-/
import Derived.Test.YtaiehccpefjbfaaRow3
namespace Go.Proofs.Ytaiehccpefjbfaa
open Go.RowKit

/-- A page without anything, made by the call. -/
def Bare (w : World) (g : Nat) : Prop := Row3 w g 163 (.int .i64 1) (.slice none 0 0) (.slice none 0 0)
theorem Bare.below {w w' : World} {g : Nat} (h : Bare w g) (hb : Below w.heap.size w w') : Bare w' g := Row3.below h hb
theorem Bare.lt {w : World} {g : Nat} (h : Bare w g) : g < w.heap.size := (World.ownsRow.lt h g rfl).2
abbrev shV (g : Nat) : Value := .agg #[.slice (some ⟨g, 0, none⟩) 1 1, .int .i64 1, .int .i64 1, .int .i64 2]
/-- A new store of one bare page. -/
def NewSh (w : World) (e : Ending) (w' : World) : Prop := ∃ g, e = .returned (shV g) ∧ w.heap.size ≤ g ∧ Bare w' g ∧ Below w.heap.size w w'

set_option maxHeartbeats 1000000 in
theorem impl_ShadowNew (w : World) : Calls Try.prog 79 #[] w (NewSh w) := by
  go_enter Try.func79, Try.ntmps79
  go_wp2_with fail
  have h1 := Row3.lit (w.alloc (.cells #[.slice (some ⟨w.heap.size + 1, 0, none⟩) 1 1, .int .i64 1, .int .i64 1, .int .i64 2] 112)) 163 (.int .i64 1) (.slice none 0 0) (.slice none 0 0)
  simp only [World.size_alloc] at h1
  exact bodyPost_ret (v := shV (w.heap.size + 1)) (by simp [results, Try.results79, go_sem]) rfl ⟨w.heap.size + 1, rfl, by omega, h1, ((Below.refl _ _).alloc (Nat.le_refl _) _).alloc (by simp) _⟩

set_option maxHeartbeats 1000000 in
theorem spec_ShadowNew (w : World) : Calls Try.prog 78 #[] w (NewSh w) := by
  go_enter Try.func78, Try.ntmps78
  go_wp2_with fail
  have h1 := Row3.lit (w.alloc (.cells #[.slice (some ⟨w.heap.size + 1, 0, none⟩) 1 1, .int .i64 1, .int .i64 1, .int .i64 2] 112)) 163 (.int .i64 1) (.slice none 0 0) (.slice none 0 0)
  simp only [World.size_alloc] at h1
  exact bodyPost_ret (v := shV (w.heap.size + 1)) (by simp [results, Try.results78, go_sem]) rfl ⟨w.heap.size + 1, rfl, by omega, h1, ((Below.refl _ _).alloc (Nat.le_refl _) _).alloc (by simp) _⟩

set_option maxHeartbeats 1000000 in
theorem markPairS_nil (k : Int) (w : World) :
    Calls Try.prog 121 #[.slice none 0 0, .int .i64 k] w fun e w' => e = .returned (.int .i64 k) ∧ w = w' := by
  go_enter Try.func121, Try.ntmps121
  go_wp2_with fail
  go_loop [1, 5] (fun q i => i = .int .i64 0 ∧ q = .int .i64 k) (fun _ _ => 0)
  case atStart => exact ⟨rfl, rfl⟩
  case round =>
    obtain ⟨rfl, rfl⟩ := hrel
    go_wp2_with fail
    go_ret
    exact ⟨rfl, rfl⟩

set_option maxHeartbeats 1000000 in
theorem markInt64S_nil (k : Int) (w : World) :
    Calls Try.prog 23 #[.slice none 0 0, .int .i64 k] w fun e w' => e = .returned (.int .i64 k) ∧ w = w' := by
  go_enter Try.func23, Try.ntmps23
  go_wp2_with fail
  go_loop [1, 5] (fun q i => i = .int .i64 0 ∧ q = .int .i64 k) (fun _ _ => 0)
  case atStart => exact ⟨rfl, rfl⟩
  case round =>
    obtain ⟨rfl, rfl⟩ := hrel
    go_wp2_with fail
    go_ret
    exact ⟨rfl, rfl⟩

set_option maxHeartbeats 1000000 in
theorem heldPairS_nil (k : Int) (w : World) :
    Calls Try.prog 122 #[.slice none 0 0, .int .i64 k] w fun e w' => e = .returned (.int .i64 k) ∧ w = w' := by
  go_enter Try.func122, Try.ntmps122
  go_wp2_with fail
  go_loop [1, 5] (fun q i => i = .int .i64 0 ∧ q = .int .i64 k) (fun _ _ => 0)
  case atStart => exact ⟨rfl, rfl⟩
  case round =>
    obtain ⟨rfl, rfl⟩ := hrel
    go_wp2_with fail
    go_ret
    exact ⟨rfl, rfl⟩

set_option maxHeartbeats 1000000 in
theorem heldInt64S_nil (k : Int) (w : World) :
    Calls Try.prog 123 #[.slice none 0 0, .int .i64 k] w fun e w' => e = .returned (.int .i64 k) ∧ w = w' := by
  go_enter Try.func123, Try.ntmps123
  go_wp2_with fail
  go_loop [1, 5] (fun q i => i = .int .i64 0 ∧ q = .int .i64 k) (fun _ _ => 0)
  case atStart => exact ⟨rfl, rfl⟩
  case round =>
    obtain ⟨rfl, rfl⟩ := hrel
    go_wp2_with fail
    go_ret
    exact ⟨rfl, rfl⟩

theorem eqPage_bare (w : World) :
    Calls Try.prog 119 #[.agg #[.int .i64 1, .slice none 0 0, .slice none 0 0], .agg #[.int .i64 1, .slice none 0 0, .slice none 0 0]] w fun e w' => e = .returned (.bool true) ∧ Below w.heap.size w w' := by
  have HB : Hid (∀ o o' : Obj, Below w.heap.size w ((w.alloc o).alloc o')) := fun o o' => ((Below.refl _ _).alloc (Nat.le_refl _) o).alloc (by simp) o'
  have e1 : decide (([] : PS) = []) = true := by simp
  have e2 : decide (([] : List Int) = []) = true := by simp
  go_enter Try.func119, Try.ntmps119
  go_wp2_with fail
  refine (eqPairS_any none none 0 0 [] [] _ (.inl rfl) (.inl rfl) (Nat.zero_le _)).mono ?_
  rintro e w1 ⟨rfl, hb1⟩
  have HB1 := hid ((HB.out _ _).trans (hb1.mono (HB.out _ _).size))
  have hx2 : w1.cell? ⟨w.heap.size, 2, none⟩ = some (.slice none 0 0) := (hb1.cell (p := ⟨w.heap.size, 2, none⟩) (by simp; omega)).trans (by go_simp)
  have hx3 : w1.cell? ⟨w.heap.size + 1, 2, none⟩ = some (.slice none 0 0) := (hb1.cell (p := ⟨w.heap.size + 1, 2, none⟩) (by simp)).trans (by go_simp)
  clear hb1
  go_wp2_with fail
  refine (eqInt64S_any none none 0 0 [] [] 0 _ (.inl rfl) (.inl rfl) (Nat.zero_le _)).mono ?_
  rintro e w2 ⟨rfl, hw2⟩
  have HB2 := hid (HB1.out.trans (hw2.below _))
  clear hw2
  go_wp2_with fail
  go_ret
  exact ⟨rfl, HB2.out⟩

set_option maxHeartbeats 1000000 in
theorem eqPageS_bare (g g' : Nat) (w : World) (h : Bare w g) (h' : Bare w g') :
    Calls Try.prog 80 #[.slice (some ⟨g, 0, none⟩) 1 1, .slice (some ⟨g', 0, none⟩) 1 1] w fun e w' => e = .returned (.bool true) ∧ Below w.heap.size w w' := by
  have H := hid h
  have H' := hid h'
  clear h h'
  go_enter Try.func80, Try.ntmps80
  go_wp2_with fail
  go_loopw [5] (fun i wr => ∃ k : Nat, k ≤ 1 ∧ i = .int .i64 k ∧ Below w.heap.size w wr) (fun i _ => 1 - (intOf i).toNat)
  case atStart => exact ⟨0, by omega, rfl, Below.refl _ _⟩
  case round =>
    obtain ⟨k, hk, rfl, hbw⟩ := hrel
    have HD := hid hbw
    have X := hid (H.out.below hbw)
    have Y := hid (H'.out.below hbw)
    clear hbw
    by_cases h0 : k = 0
    · subst h0
      have x0 := X.out.c0
      have x1 := X.out.c1
      have x2 := X.out.c2
      have y0 := Y.out.c0
      have y1 := Y.out.c1
      have y2 := Y.out.c2
      go_wp2_with fail
      go_region_held3 (fun w' => w'.cell? ⟨g, 0, none⟩ = some (.int .i64 1) ∧ w'.cell? ⟨g, 1, none⟩ = some (.slice none 0 0) ∧ w'.cell? ⟨g, 2, none⟩ = some (.slice none 0 0) ∧ w'.cell? ⟨g', 0, none⟩ = some (.int .i64 1) ∧ w'.cell? ⟨g', 1, none⟩ = some (.slice none 0 0) ∧ w'.cell? ⟨g', 2, none⟩ = some (.slice none 0 0)) (go_keep)
        (first
          | (go_at_call 119; refine (eqPage_bare _).mono ?_; rintro e w1 ⟨rfl, hw1⟩; have V1 := hid ((Below.refl wr.heap.size wr).drew.trans hw1); have X1 := hid (X.out.below V1.out); have Y1 := hid (Y.out.below V1.out); have HB1 := hid (HD.out.trans (V1.out.mono HD.out.size)); clear hw1; have x10 := X1.out.c0; have x11 := X1.out.c1; have x12 := X1.out.c2; have y10 := Y1.out.c0; have y11 := Y1.out.c1; have y12 := Y1.out.c2))
      clear x0 x1 x2 y0 y1 y2 x10 x11 x12 y10 y11 y12
      go_wp2_with fail
      go_roundw
      case rel => exact ⟨1, by omega, by go_num, HB1.out⟩
      case measure => simp [intOf]
    · obtain rfl : k = 1 := by omega
      clear h0
      go_wp2_with fail
      go_ret
      exact ⟨rfl, HD.out⟩

theorem eqSuper_new (w : World) :
    Calls Try.prog 81 #[.agg #[.int .i64 1, .int .i64 1, .int .i64 2], .agg #[.int .i64 1, .int .i64 1, .int .i64 2]] w fun e w' => e = .returned (.bool true) ∧ Below w.heap.size w w' := by
  have HB : Hid (∀ o o' : Obj, Below w.heap.size w ((w.alloc o).alloc o')) := fun o o' => ((Below.refl _ _).alloc (Nat.le_refl _) o).alloc (by simp) o'
  go_enter Try.func81, Try.ntmps81
  go_wp2_with fail
  go_ret
  exact ⟨rfl, HB.out _ _⟩

set_option maxHeartbeats 1000000 in
theorem markPageS_bare (g : Nat) (w : World) (h : Bare w g) :
    Calls Try.prog 83 #[.slice (some ⟨g, 0, none⟩) 1 1, .int .i64 1] w fun e w' => e = .returned (.int .i64 2) ∧ w' = w.setCell ⟨g, 0, none⟩ (.int .i64 1) := by
  have H := hid h
  clear h
  have H2 : Hid (Bare (w.setCell ⟨g, 0, none⟩ (.int .i64 1)) g) := H.out.s0 _
  go_enter Try.func83, Try.ntmps83
  go_wp2_with fail
  go_loopw [1, 5] (fun q i wr => (q = .int .i64 1 ∧ i = .int .i64 0 ∧ wr = w) ∨ (q = .int .i64 2 ∧ i = .int .i64 1 ∧ wr = w.setCell ⟨g, 0, none⟩ (.int .i64 1))) (fun _ i _ => 1 - (intOf i).toNat)
  case atStart => exact .inl ⟨rfl, rfl, rfl⟩
  case round =>
    rcases hrel with ⟨rfl, rfl, rfl⟩ | ⟨rfl, rfl, rfl⟩
    · have x0 := H.out.c0
      have x1 := H.out.c1
      have x2 := H.out.c2
      have f0 := H.out.fz 0
      go_wp2_with (first
        | (go_at_call 121; refine (markPairS_nil _ _).mono ?_; rintro e w' ⟨rfl, rfl⟩)
        | (go_at_call 23; refine (markInt64S_nil _ _).mono ?_; rintro e w' ⟨rfl, rfl⟩))
      refine ⟨.inr ⟨by go_num, by go_num, by trivial⟩, by simp [intOf]⟩
    · go_wp2_with fail
      go_ret
      exact ⟨rfl, by trivial⟩

set_option maxHeartbeats 1000000 in
theorem heldPageS_bare (g : Nat) (w : World) (h : Bare w g) :
    Calls Try.prog 85 #[.slice (some ⟨g, 0, none⟩) 1 1, .int .i64 1] w fun e w' => e = .returned (.int .i64 2) ∧ w' = w := by
  have H := hid h
  clear h
  go_enter Try.func85, Try.ntmps85
  go_wp2_with fail
  go_loop [1, 5] (fun q i => (q = .int .i64 1 ∧ i = .int .i64 0) ∨ (q = .int .i64 2 ∧ i = .int .i64 1)) (fun _ i => 1 - (intOf i).toNat)
  case atStart => exact .inl ⟨rfl, rfl⟩
  case round =>
    rcases hrel with ⟨rfl, rfl⟩ | ⟨rfl, rfl⟩
    · have x0 := H.out.c0
      have x1 := H.out.c1
      have x2 := H.out.c2
      go_wp2_with (first
        | (go_at_call 122; refine (heldPairS_nil _ _).mono ?_; rintro e w' ⟨rfl, rfl⟩)
        | (go_at_call 123; refine (heldInt64S_nil _ _).mono ?_; rintro e w' ⟨rfl, rfl⟩))
      go_round
      case rel => exact .inr ⟨by go_num, by go_num⟩
      case measure => simp [intOf]
    · go_wp2_with fail
      go_ret
      exact ⟨rfl, rfl⟩

/-- A block with a store of one bare page. -/
def Row4 (w : World) (b g : Nat) : Prop := w.ownsRow b 112 1 (.slice (some ⟨b, 0, none⟩) 4 4) 4 [.slice (some ⟨g, 0, none⟩) 1 1, .int .i64 1, .int .i64 1, .int .i64 2]
theorem Row4.lit (w : World) (g : Nat) : Row4 (w.alloc (.cells #[.slice (some ⟨g, 0, none⟩) 1 1, .int .i64 1, .int .i64 1, .int .i64 2] 112)) w.heap.size g :=
  World.ownsRow_lit w #[.slice (some ⟨g, 0, none⟩) 1 1, .int .i64 1, .int .i64 1, .int .i64 2] 4 (Nat.le_refl _) (by unfold maxLen; omega) rfl
section
variable {w w' : World} {b g : Nat}
theorem Row4.below (h : Row4 w b g) (hb : Below w.heap.size w w') : Row4 w' b g := h.kept (below_grown hb) (.inr (by simp [Value.ownBlock]))
theorem Row4.grown (h : Row4 w b g) {k : Nat} (hg : w.grownBy w' (some k)) (hne : b ≠ k) : Row4 w' b g := h.kept hg (.inr (by simp [Value.ownBlock]; omega))
theorem Row4.c0 (h : Row4 w b g) : w.cell? ⟨b, 0, none⟩ = some (.slice (some ⟨g, 0, none⟩) 1 1) := h.cellAt 0 (by omega)
theorem Row4.c1 (h : Row4 w b g) : w.cell? ⟨b, 1, none⟩ = some (.int .i64 1) := h.cellAt 1 (by omega)
theorem Row4.c2 (h : Row4 w b g) : w.cell? ⟨b, 2, none⟩ = some (.int .i64 1) := h.cellAt 2 (by omega)
theorem Row4.c3 (h : Row4 w b g) : w.cell? ⟨b, 3, none⟩ = some (.int .i64 2) := h.cellAt 3 (by omega)
theorem Row4.lt (h : Row4 w b g) : b < w.heap.size := (World.ownsRow.lt h b rfl).2
theorem Bare.grown (h : Bare w g) {k : Nat} (hg : w.grownBy w' (some k)) (hne : g ≠ k) : Bare w' g := World.ownsRow.kept h hg (.inr (by simp [Value.ownBlock]; omega))
end
end Go.Proofs.Ytaiehccpefjbfaa
