/-
  What the exact laws on pages go through: sizes, copies, comparisons of pages.
-/
import Derived.Test.YtooalnpfenhelabDoorOwnMore
namespace Go.Proofs.YtooalnpfenhelabDoor
open Go.RowKit
/-- A page of the call's own. -/
def MadePage (w : World) (B : Nat) (id : Int) (ps : PS) (ks : List Int) (e : Ending) (w' : World) : Prop :=
  ∃ A c K d, e = .returned (.agg #[.int .i64 id, .slice A ps.length c, .slice K ks.length d]) ∧ OwnP w' B A c ps ∧ OwnI w' B K d ks ∧ ks.length ≤ d ∧ d ≤ maxLen ∧ Below w.heap.size w w'
/-- A store into another block. -/
theorem OwnP.set {w : World} {B c : Nat} {A : Option Addr} {ps : PS} (h : OwnP w B A c ps) {g : Nat} {t : TypeId} {x y z : Value} (h' : Row3 w g t x y z) (hg : g < B) (j : Nat) (v : Value) : OwnP (w.setCell ⟨g, j, none⟩ v) B A c ps := by
  refine h.kept (h'.stored j v).2 ?_
  rcases h.2 with ⟨hv, _⟩ | ⟨g2, cap, cur, hv, hb, _⟩
  · left
    rw [hv]; rfl
  · right
    rw [hv]
    simp [Value.ownBlock]
    omega
theorem OwnI.set {w : World} {B c : Nat} {A : Option Addr} {ps : List Int} (h : OwnI w B A c ps) {g : Nat} {t : TypeId} {x y z : Value} (h' : Row3 w g t x y z) (hg : g < B) (j : Nat) (v : Value) : OwnI (w.setCell ⟨g, j, none⟩ v) B A c ps := by
  refine h.kept (h'.stored j v).2 ?_
  rcases h.2 with ⟨hv, _⟩ | ⟨g2, cap, cur, hv, hb, _⟩
  · left
    rw [hv]; rfl
  · right
    rw [hv]
    simp [Value.ownBlock]
    omega

set_option maxHeartbeats 1000000 in
theorem eqPage_any (id : Int) (A : Option Addr) (c : Nat) (ps : PS) (K : Option Addr) (d : Nat) (ks : List Int) (A' : Option Addr) (c' : Nat) (K' : Option Addr) (d' : Nat) (w : World)
    (hr : RP w w.heap.size A ps) (hn : ps.length ≤ maxLen) (hk : RI w w.heap.size K ks) (hm : ks.length ≤ maxLen) (hr' : RP w w.heap.size A' ps) (hk' : RI w w.heap.size K' ks) :
    Calls Tryd.prog 13 #[.agg #[.int .i64 id, .slice A ps.length c, .slice K ks.length d], .agg #[.int .i64 id, .slice A' ps.length c', .slice K' ks.length d']] w fun e w' => e = .returned (.bool true) ∧ Below w.heap.size w w' := by
  have HB : Hid (∀ o o' : Obj, Below w.heap.size w ((w.alloc o).alloc o')) := fun o o' => ((Below.refl _ _).alloc (Nat.le_refl _) o).alloc (by simp) o'
  have HR := hid hr
  have HK := hid hk
  have HR' := hid hr'
  have HK' := hid hk'
  have HN := hid hn
  have HM := hid hm
  have hi : (id != id) = false := by simp
  have e1 : decide (ps = ps) = true := by simp
  have e2 : decide (ks = ks) = true := by simp
  clear hr hk hr' hk' hn hm
  go_enter Tryd.func13, Tryd.ntmps13
  go_wp2_with (first
    | (go_at_call 33; refine (eqPairS_any A A' c c' ps ps _ ((HR.out.below (HB.out _ _)).more (HB.out _ _).size) ((HR'.out.below (HB.out _ _)).more (HB.out _ _).size) HN.out).mono ?_; rintro e w1 ⟨rfl, hb1⟩; have HB1 := hid ((HB.out _ _).trans (hb1.mono (HB.out _ _).size)); have hx2 : w1.cell? ⟨w.heap.size, 2, none⟩ = some (.slice K ks.length d) := (hb1.cell (p := ⟨w.heap.size, 2, none⟩) (by simp; omega)).trans (by go_simp); have hx3 : w1.cell? ⟨w.heap.size + 1, 2, none⟩ = some (.slice K' ks.length d') := (hb1.cell (p := ⟨w.heap.size + 1, 2, none⟩) (by simp)).trans (by go_simp); clear hb1)
    | (go_at_call 34; refine (eqInt64S_any K K' d d' ks ks w.heap.size _ (HK.out.below HB1.out) (HK'.out.below HB1.out) HM.out).mono ?_; rintro e w2 ⟨rfl, hw2⟩))
  go_ret
  exact ⟨rfl, HB1.out.trans (hw2.below _)⟩
end Go.Proofs.YtooalnpfenhelabDoor
