/-
  The reader of drawn bytes that the laws' inputs come from.
-/
import Derived.Test.YtoipcjdpfbgghabOwn
import Derived.RegionTactic
namespace Go.Proofs.Ytoipcjdpfbgghab
open Go.RowKit

/-- Bytes that came in, below block B. -/
def CB (w : World) (B : Nat) (A : Option Addr) (n : Nat) : Prop :=
  n = 0 ∨ ∃ b off, A = some ⟨b, off, none⟩ ∧ b < B ∧ ∀ i, i < n → ∃ u : Nat, u ≤ 255 ∧ w.cell? ⟨b, off + i, none⟩ = some (.int .u8 (u : Int))
theorem CB.keep {w w' : World} {B n : Nat} {A : Option Addr} (h : CB w B A n) (hk : ∀ p : Addr, p.block < B → w'.cell? p = w.cell? p) : CB w' B A n := by
  rcases h with h | ⟨b, off, e, hb, hc⟩
  · exact .inl h
  · exact .inr ⟨b, off, e, hb, fun i hi => by rw [hk _ hb]; exact hc i hi⟩
theorem CB.grown {w w' : World} {B n : Nat} {A : Option Addr} {row : Option Nat} (h : CB w B A n) (hg : w.grownBy w' row) (hB : B ≤ w.heap.size) (hr : ∀ k, row = some k → B ≤ k) : CB w' B A n :=
  h.keep fun p hp => World.cell?_of_block (hg.block p.block (by omega) (fun e => by have := hr _ e.symm; omega))

/-- Block g is a reader over bytes that came in below block B. -/
def Rd (w : World) (B g : Nat) : Prop :=
  ∃ A n c p, p ≤ n ∧ n ≤ 1048576 ∧ w.heap[g]? = some (.cells #[.slice A n c, .int .i64 (p : Int)] 70 (0, 0)) ∧ CB w B A n ∧ B ≤ g
theorem Rd.lt {w : World} {B g : Nat} (h : Rd w B g) : g < w.heap.size ∧ B ≤ g := by
  obtain ⟨A, n, c, p, _, _, hh, _, hB⟩ := h
  exact ⟨(Array.getElem?_eq_some_iff.1 hh).1, hB⟩
/-- What was done elsewhere leaves the reader as it is. -/
theorem Rd.grown {w w' : World} {B g : Nat} {row : Option Nat} (h : Rd w B g) (hg : w.grownBy w' row) (hr : ∀ k, row = some k → g < k) : Rd w' B g := by
  obtain ⟨A, n, c, p, h1, h2, hh, hc, hB⟩ := h
  have hlt := (Array.getElem?_eq_some_iff.1 hh).1
  exact ⟨A, n, c, p, h1, h2, (hg.block g hlt (fun e => by have := hr _ e.symm; omega)).trans hh, hc.grown hg (by omega) (fun k hk => by have := hr k hk; omega), hB⟩
theorem Rd.below {w w' : World} {B g : Nat} (h : Rd w B g) (hb : Below w.heap.size w w') : Rd w' B g := h.grown (row := none) (below_grown hb) (by simp)

/-- A call on the reader g that answers a number below m. -/
def Num (B g m : Nat) (w : World) (e : Ending) (w' : World) : Prop := ∃ v : Nat, v < m ∧ e = .returned (.int .i64 (v : Int)) ∧ Rd w' B g ∧ w.grownBy w' (some g)

theorem grown_set' (w : World) (n g j : Nat) (u : Value) : w.grownBy ((w.drewN n).setCell ⟨g, j, none⟩ u) (some g) :=
  ⟨rfl, rfl, rfl, by simp [World.setCell, World.drewN], fun k hk hne => heap_setCell_other (w.drewN n) ⟨g, j, none⟩ k u (fun e => hne (by simp [e]))⟩

set_option maxHeartbeats 1000000 in
theorem next_any (B g : Nat) (w : World) (h : Rd w B g) :
    Calls Try.prog 67 #[.pointer (some ⟨g, 0, none⟩)] w (Num B g 256 w) := by
  obtain ⟨A, n, c, p, hp, hn, hh, hcb, hB⟩ := h
  have hx0 : w.cell? ⟨g, 0, none⟩ = some (.slice A n c) := by rw [cell_of_row _ _ _ _ _ _ hh]; rfl
  have hx1 : w.cell? ⟨g, 1, none⟩ = some (.int .i64 (p : Int)) := by rw [cell_of_row _ _ _ _ _ _ hh]; rfl
  have hf1 : w.frozen? ⟨g, 1, none⟩ = false := by simp [World.frozen?, hh]
  have HH := hid hh
  have HC := hid hcb
  have hgs := (Array.getElem?_eq_some_iff.1 hh).1
  clear hh hcb
  by_cases hlt : p < n
  · obtain ⟨b, off, rfl, hb, u, hu, hxb⟩ : ∃ b off, A = some ⟨b, off, none⟩ ∧ b < B ∧ ∃ u : Nat, u ≤ 255 ∧ w.cell? ⟨b, off + p, none⟩ = some (.int .u8 (u : Int)) := by
      rcases HC.out with h | ⟨b, off, e, hb, hc⟩
      · omega
      · obtain ⟨u, h1, h2⟩ := hc p hlt
        exact ⟨b, off, e, hb, u, h1, h2⟩
    have HX := hid hxb
    clear hxb
    go_enter Try.func67, Try.ntmps67
    go_wp2_with fail
    go_quiet (fail)
    go_wp2_with fail
    clear hx0 hx1 hf1
    have hgr := grown_set' w nq g 1 (.int .i64 ((p : Int) + 1))
    have hb2 : ((w.drewN nq).setCell ⟨g, 1, none⟩ (.int .i64 ((p : Int) + 1))).heap[g]? = some (.cells #[.slice (some ⟨b, off, none⟩) n c, .int .i64 ((p : Int) + 1)] 70 (0, 0)) :=
      heap_setCell_same (w.drewN nq) g 1 _ _ (.int .i64 ((p : Int) + 1)) HH.out
    have hxb2 : ((w.drewN nq).setCell ⟨g, 1, none⟩ (.int .i64 ((p : Int) + 1))).cell? ⟨b, off + p, none⟩ = some (.int .u8 (u : Int)) := (World.cell?_of_block (w := w) (hgr.block b (by omega) (by simp; omega))).trans HX.out
    have hrd : Rd ((w.drewN nq).setCell ⟨g, 1, none⟩ (.int .i64 ((p : Int) + 1))) B g := ⟨_, n, c, p + 1, by omega, hn, hb2, HC.out.grown hgr (by omega) (by simp; omega), hB⟩
    have HR := hid hrd
    have HG := hid hgr
    clear hrd hgr
    generalize (w.drewN nq).setCell ⟨g, 1, none⟩ (.int .i64 ((p : Int) + 1)) = w2 at *
    have hy0 : w2.cell? ⟨g, 0, none⟩ = some (.slice (some ⟨b, off, none⟩) n c) := by rw [cell_of_row _ _ _ _ _ _ hb2]; rfl
    have hy1 : w2.cell? ⟨g, 1, none⟩ = some (.int .i64 ((p : Int) + 1)) := by rw [cell_of_row _ _ _ _ _ _ hb2]; rfl
    clear hb2
    have e1 : IntKind.i64.wrap ((p : Int) + 1 - 1) = (p : Int) := by rw [show (p : Int) + 1 - 1 = (p : Int) by omega]; exact IntWalk.i64_in _ (by omega)
    have e2 : (0 : Int) ≤ (p : Int) := by omega
    have e3 : (p : Int) < (n : Int) := by omega
    have e4 : (p : Int) + 1 - 1 = (p : Int) := by omega
    go_quiet (fail)
    go_wp2_with fail
    go_ret
    refine ⟨u, by omega, rfl, HR.out.below ⟨rfl, rfl, rfl, Nat.le_refl _, fun _ _ => rfl⟩, HG.out.os, HG.out.tape, HG.out.output, HG.out.size, HG.out.block⟩
  · go_enter Try.func67, Try.ntmps67
    go_wp2_with fail
    go_quiet (fail)
    go_wp2_with fail
    go_ret
    exact ⟨0, by omega, rfl, ⟨A, n, c, p, hp, hn, HH.out, HC.out, hB⟩, ⟨rfl, rfl, rfl, Nat.le_refl _, fun _ _ _ => rfl⟩⟩
end Go.Proofs.Ytoipcjdpfbgghab
