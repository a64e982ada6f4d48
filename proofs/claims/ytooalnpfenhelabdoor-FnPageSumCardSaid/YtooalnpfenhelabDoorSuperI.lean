/-
  SuperText of both: contracts (their own bodies).
-/
import Derived.Test.YtooalnpfenhelabDoorDecimal
namespace Go.Proofs.YtooalnpfenhelabDoor
open Go.RowKit

theorem ext_txt {a b : ByteArray} (h : a.data.toList = b.data.toList) : a = b := by
  cases a; cases b
  simpa using Array.toList_inj.1 h
theorem superBody_join (g r x : Int) : joinB [⟨#[115, 117, 112, 101, 114]⟩, decB g.toNat, decB r.toNat, decB x.toNat] = superBody g r x := rfl
theorem superBody_eq (g r x : Int) : (⟨#[115, 117, 112, 101, 114, 32]⟩ : ByteArray) ++ decB g.toNat ++ ⟨#[32]⟩ ++ decB r.toNat ++ ⟨#[32]⟩ ++ decB x.toNat = superBody g r x := by
  apply ext_txt
  simp only [app_list']
  simp [superBody, superWords, Lib.join_cons, Lib.joinTail, decB]
theorem superBody_size {g r x : Int} (hg : g ≤ 1000000) (hr : r ≤ 1000000) (hx : x ≤ 1000000) : (superBody g r x).size ≤ 100 := by
  have h1 := decB_size (n := g.toNat) (by omega)
  have h2 := decB_size (n := r.toNat) (by omega)
  have h3 := decB_size (n := x.toNat) (by omega)
  rw [← superBody_eq]
  simp only [ByteArray.size_append]
  show 6 + _ + 1 + _ + 1 + _ ≤ 100
  omega
theorem super_parts {g r x : Int} (h : superB g r x = true) : 1 ≤ g ∧ g ≤ 1000000 ∧ 2 ≤ x ∧ x ≤ 1000000 ∧ 1 ≤ r ∧ r ≤ x - 1 := by
  simp only [superB, Bool.and_eq_true, decide_eq_true_eq] at h
  omega

set_option maxHeartbeats 2000000 in
set_option maxRecDepth 100000 in
theorem spec_SuperText (g r x : Int) (w : World) (hx : -9223372036854775808 ≤ x) (hx2 : x ≤ 9223372036854775807) :
    Calls Tryd.prog 39 #[.agg #[.int .i64 g, .int .i64 r, .int .i64 x]] w fun e w' => e = .returned (.string (superT g r x)) ∧ Below w.heap.size w w' := by
  have HB : Hid (∀ o : Obj, Below w.heap.size w (w.alloc o)) := fun o => (Below.refl _ _).alloc (Nat.le_refl _) o
  cases hs : superB g r x
  · have HE : Hid (superT g r x = ⟨#[]⟩) := by simp [Hid, superT, hs]
    go_enter Tryd.func39, Tryd.ntmps39
    go_wp2_with (go_at_call 65; refine (spec_l3Super g r x _ hx hx2).mono ?_; rintro e w1 ⟨rfl, hw1⟩; have H1 := hid ((HB.out _).trans (hw1.mono (HB.out _).size)); clear hw1)
    go_ret
    exact ⟨ret_txt HE.out.symm, H1.out⟩
  · have HE : Hid (superT g r x = summedB (superBody g r x)) := by simp [Hid, superT, hs]
    obtain ⟨p1, p2, p3, p4, p5, p6⟩ := super_parts hs
    have HBY := hid (superBody_eq g r x)
    have hz1 := decB_size (n := g.toNat) (by omega)
    have hz2 := decB_size (n := r.toNat) (by omega)
    have hz3 := decB_size (n := x.toNat) (by omega)
    have hz := superBody_size p2 (show r ≤ 1000000 by omega) p4
    have n0 : ¬ (9223372036854775807 < 6 + (decB g.toNat).size) := by omega
    have n1 : ¬ (9223372036854775807 < 6 + (decB g.toNat).size + 1) := by omega
    have n2 : ¬ (9223372036854775807 < 6 + (decB g.toNat).size + 1 + (decB r.toNat).size) := by omega
    have n3 : ¬ (9223372036854775807 < 6 + (decB g.toNat).size + 1 + (decB r.toNat).size + 1) := by omega
    have n4 : ¬ (9223372036854775807 < 6 + (decB g.toNat).size + 1 + (decB r.toNat).size + 1 + (decB x.toNat).size) := by omega
    have hzz : (superBody g r x).size ≤ 10000 := by omega
    have qg0 : 0 ≤ g := by omega
    have qg1 : g ≤ 1000000000000 := by omega
    have qr0 : 0 ≤ r := by omega
    have qr1 : r ≤ 1000000000000 := by omega
    have qx0 : 0 ≤ x := by omega
    have qx1 : x ≤ 1000000000000 := by omega
    go_enter Tryd.func39, Tryd.ntmps39
    go_wp2_with fail
    refine (spec_l3Super g r x _ hx hx2).mono ?_
    rintro e w1 ⟨rfl, hw1⟩
    have H1 := hid ((HB.out _).trans (hw1.mono (HB.out _).size))
    have hsz : w.heap.size < w1.heap.size := by have := hw1.size; simp at this; omega
    have x0 : w1.cell? ⟨w.heap.size, 0, none⟩ = some (.int .i64 g) := (hw1.cell (p := ⟨w.heap.size, 0, none⟩) (by simp)).trans (by go_simp)
    have x1 : w1.cell? ⟨w.heap.size, 1, none⟩ = some (.int .i64 r) := (hw1.cell (p := ⟨w.heap.size, 1, none⟩) (by simp)).trans (by go_simp)
    have x2 : w1.cell? ⟨w.heap.size, 2, none⟩ = some (.int .i64 x) := (hw1.cell (p := ⟨w.heap.size, 2, none⟩) (by simp)).trans (by go_simp)
    clear hw1
    rw [hs]
    go_wp2_with fail
    have HX : Hid (∀ W : World, Below w1.heap.size w1 W → W.cell? ⟨w.heap.size, 0, none⟩ = some (.int .i64 g) ∧ W.cell? ⟨w.heap.size, 1, none⟩ = some (.int .i64 r) ∧ W.cell? ⟨w.heap.size, 2, none⟩ = some (.int .i64 x)) := fun W h => ⟨(h.cell (p := ⟨w.heap.size, 0, none⟩) hsz).trans x0, (h.cell (p := ⟨w.heap.size, 1, none⟩) hsz).trans x1, (h.cell (p := ⟨w.heap.size, 2, none⟩) hsz).trans x2⟩
    go_region_held3 (fun w' => w'.cell? ⟨w.heap.size, 0, none⟩ = some (.int .i64 g) ∧ w'.cell? ⟨w.heap.size, 1, none⟩ = some (.int .i64 r) ∧ w'.cell? ⟨w.heap.size, 2, none⟩ = some (.int .i64 x)) (first | go_keep | exact HX.out _ V2.out | exact HX.out _ V3.out | exact HX.out _ V4.out | exact HX.out _ V5.out)
      (first
        | (go_at_call 54; (with_reducible refine (l1Dec_int g _ qg0 qg1).mono ?_); rintro e w2 ⟨rfl, hw2⟩; have V2 := hid ((Below.refl w1.heap.size w1).drew.trans hw2); clear hw2)
        | (go_at_call 54; (with_reducible refine (l1Dec_int r _ qr0 qr1).mono ?_); rintro e w3 ⟨rfl, hw3⟩; have V3 := hid (V2.out.trans (hw3.mono V2.out.size)); clear hw3)
        | (go_at_call 54; (with_reducible refine (l1Dec_int x _ qx0 qx1).mono ?_); rintro e w4 ⟨rfl, hw4⟩; have V4 := hid (V3.out.trans (hw4.mono V3.out.size)); clear hw4)
        | (go_at_call 25; rw [HBY.out]; (with_reducible refine (spec_l3Summed (superBody g r x) _ hzz).mono ?_); rintro e w5 ⟨rfl, hw5⟩; have V5 := hid (V4.out.trans (hw5.mono V4.out.size)); clear hw5))
    go_wp2_with fail
    go_ret
    exact ⟨ret_txt HE.out.symm, H1.out.trans (V5.out.mono H1.out.size)⟩

/-- summed, of a row just made of four words. -/
theorem summed_super (g r x : Int) (W : World) (hz : (superBody g r x).size ≤ 10000) (ht : Tab W) :
    Calls Tryd.prog 23 #[.slice (some ⟨W.heap.size, 0, none⟩) 4 4] (W.alloc (.cells #[.string ⟨#[115, 117, 112, 101, 114]⟩, .string (decB g.toNat), .string (decB r.toNat), .string (decB x.toNat)] 9)) fun e w' => e = .returned (.string (summedB (superBody g r x))) ∧ Below (W.heap.size + 1) (W.alloc (.cells #[.string ⟨#[115, 117, 112, 101, 114]⟩, .string (decB g.toNat), .string (decB r.toNat), .string (decB x.toNat)] 9)) w' := by
  have hb : (W.alloc (.cells #[.string ⟨#[115, 117, 112, 101, 114]⟩, .string (decB g.toNat), .string (decB r.toNat), .string (decB x.toNat)] 9)).heap[W.heap.size]? = some (.cells #[.string ⟨#[115, 117, 112, 101, 114]⟩, .string (decB g.toNat), .string (decB r.toNat), .string (decB x.toNat)] 9 (0, 0)) := heap_alloc_new W _
  have h := summed_any W.heap.size 4 [⟨#[115, 117, 112, 101, 114]⟩, decB g.toNat, decB r.toNat, decB x.toNat] (W.alloc (.cells #[.string ⟨#[115, 117, 112, 101, 114]⟩, .string (decB g.toNat), .string (decB r.toNat), .string (decB x.toNat)] 9)) (fun j y hy => by
    rw [cell_of_row _ _ _ _ _ _ hb]
    match j, hy with
    | 0, hy => simp at hy; subst hy; rfl
    | 1, hy => simp at hy; subst hy; rfl
    | 2, hy => simp at hy; subst hy; rfl
    | 3, hy => simp at hy; subst hy; rfl
    | j + 4, hy => simp at hy) (by simp) (by simp) (by simp) (by rw [superBody_join]; exact hz) (ht.below ((Below.refl _ _).alloc (Nat.le_refl _) _))
  rw [superBody_join] at h
  simpa using h

end Go.Proofs.YtooalnpfenhelabDoor
