/-
  Bits: sizes, copies, comparisons; BitsOk of both: contracts.
-/
import Derived.Test.YtaiehccpefjbfaaBools
import Derived.Test.YtaiehccpefjbfaaRow3
import Derived.ChangeSlices
import Derived.Deep.Grids
import Derived.Test.YtaiehccpefjbfaaOpen
namespace Go.Proofs.Ytaiehccpefjbfaa
open Go.ChangeShapes Go.WideShapes Go.ChangeAt Go.RowKit Go.Deep

theorem szBits_any (n : Int) (A : Option Addr) (c : Nat) (xs : List Bool) (l : Int) (w : World) (hn : xs.length ≤ maxLen) (h0 : 0 ≤ l) (h1 : l ≤ 1048576) :
    Calls Try.prog 24 #[.agg #[.int .i64 n, .slice A xs.length c], .int .i64 l] w fun e w' => (∃ r : Int, e = .returned (.int .i64 r) ∧ -1 ≤ r ∧ r ≤ l ∧ (0 ≤ r → (xs.length : Int) ≤ l)) ∧ Below w.heap.size w w' := by
  have HB : Hid (∀ o : Obj, Below w.heap.size w (w.alloc o)) := fun o => (Below.refl _ _).alloc (Nat.le_refl _) o
  go_enter Try.func24, Try.ntmps24
  go_wp2_with fail
  refine (szBoolS_any A c xs l _ hn h0 h1).mono ?_
  rintro e w1 ⟨r, rfl, hr1, hr2, hr3, hw1⟩
  have HX : Hid (Below w.heap.size w w1) := by rw [← hw1]; exact HB.out _
  have HR := hid hr3
  clear hw1 hr3
  by_cases hneg : r < 0
  · go_wp2_with fail
    go_ret
    exact ⟨⟨-1, rfl, by omega, by omega, fun h => by omega⟩, HX.out⟩
  · go_wp2_with fail
    go_ret
    exact ⟨⟨r, rfl, hr1, hr2, HR.out⟩, HX.out⟩
def MadeBits (w : World) (n : Int) (xs : List Bool) (e : Ending) (w' : World) : Prop := ∃ A c, e = .returned (.agg #[.int .i64 n, .slice A xs.length c]) ∧ OwnB w' w.heap.size A c xs ∧ Below w.heap.size w w'
theorem OwnB.mono {w : World} {B B' c : Nat} {A : Option Addr} {hs : List Bool} (h : OwnB w B A c hs) (hB : B' ≤ B) : OwnB w B' A c hs := by
  refine ⟨h.1, ?_⟩
  rcases h.2 with hn | ⟨g, cap, cur, hv, hb, rest⟩
  · exact .inl hn
  · exact .inr ⟨g, cap, cur, hv, by omega, rest⟩

theorem OwnB.set2 {w : World} {B c : Nat} {A : Option Addr} {ps : List Bool} (h : OwnB w B A c ps) {g : Nat} {t : TypeId} {a b : Value} (h' : Row2 w g t a b) (hg : g < B) (j : Nat) (v : Value) : OwnB (w.setCell ⟨g, j, none⟩ v) B A c ps := by
  refine h.kept (h'.stored j v).2 ?_
  rcases h.2 with ⟨hv, _⟩ | ⟨g2, cap, cur, hv, hb, _⟩
  · left
    rw [hv]; rfl
  · right
    rw [hv]
    simp [Value.ownBlock]
    omega

set_option maxHeartbeats 1000000 in
theorem toBits_any (n : Int) (A : Option Addr) (c : Nat) (xs : List Bool) (w : World) (hr : RB w w.heap.size A xs) (hn : xs.length ≤ 1048576) :
    Calls Try.prog 26 #[.agg #[.int .i64 n, .slice A xs.length c]] w (MadeBits w n xs) := by
  have HR := hid hr
  obtain ⟨h1, h2, h3⟩ := rows_two w (.cells #[.int .i64 n, .slice A xs.length c] 51) 54 (.int .i64 0) (.slice none 0 0) (.int .i64 n) (.slice none 0 0)
  have H1 := hid h1
  have H2 := hid h2
  have H3 := hid h3
  clear hr h1 h2 h3
  go_enter Try.func26, Try.ntmps26
  go_wp2_with fail
  refine (toBoolS_any A c xs _ ((HR.out.below H3.out).more H3.out.size) hn).mono ?_
  rintro e w4 ⟨A4, c4, rfl, ho4, hb4⟩
  have R1 := hid (H1.out.below hb4)
  have R2 := hid (H2.out.below hb4)
  have HB4 := hid (H3.out.trans (hb4.mono H3.out.size))
  have HO4 := hid ((ho4.set2 R2.out (by simp) 1 (.slice A4 xs.length c4)).mono (by first | (simp; done) | (simp; omega) : w.heap.size + 3 ≤ _))
  have d1 := R2.out.c1
  have f1 := R2.out.fz 1
  have x0 := (R2.out.s1 (.slice A4 xs.length c4)).c0
  have x1 := (R2.out.s1 (.slice A4 xs.length c4)).c1
  have U1 := R1.out.other R2.out (by omega) 1 (.slice A4 xs.length c4)
  have y0 := U1.c0
  have y1 := U1.c1
  have g0 := U1.fz 0
  have g1 := U1.fz 1
  clear ho4 hb4
  go_wp2_with fail
  have U2 := U1.s0 (.int .i64 n)
  refine world_post (S := fun wq => Row2 wq (w.heap.size + 1) 54 (.int .i64 n) (.slice A4 xs.length c4) ∧ OwnB wq w.heap.size A4 c4 xs ∧ Below w.heap.size w wq) _
    ⟨U2.s1 _, ((HO4.out.set2 U1 (by omega) 0 _).set2 U2 (by omega) 1 _).mono (by omega),
      ((HB4.out.setCell (p := ⟨w.heap.size + 1 + 1, 1, none⟩) (by simp; omega) _).setCell (p := ⟨w.heap.size + 1, 0, none⟩) (by simp) _).setCell (p := ⟨w.heap.size + 1, 1, none⟩) (by simp) _⟩ ?_
  clear x0 x1 y0 y1 g0 g1 U1 U2 d1 f1
  intro wq ⟨hq, hp, hb⟩
  have q0 := hq.c0
  have q1 := hq.c1
  exact bodyPost_ret (v := .agg #[.int .i64 n, .slice A4 xs.length c4]) (by simp [results, Try.results26, go_sem, q0, q1]) rfl ⟨A4, c4, rfl, hp, hb⟩

set_option maxHeartbeats 1000000 in
theorem eqBits_same (n : Int) (A : Option Addr) (c : Nat) (xs : List Bool) (A' : Option Addr) (c' : Nat) (w : World)
    (hr : RB w w.heap.size A xs) (hn : xs.length ≤ maxLen) (hr' : RB w w.heap.size A' xs) :
    Calls Try.prog 28 #[.agg #[.int .i64 n, .slice A xs.length c], .agg #[.int .i64 n, .slice A' xs.length c']] w fun e w' => e = .returned (.bool true) ∧ Below w.heap.size w w' := by
  have HB : Hid (∀ o o' : Obj, Below w.heap.size w ((w.alloc o).alloc o')) := fun o o' => ((Below.refl _ _).alloc (Nat.le_refl _) o).alloc (by simp) o'
  have HR := hid hr
  have HR' := hid hr'
  have HN := hid hn
  have hi : (n != n) = false := by simp
  have e2 : decide (xs = xs) = true := by simp
  clear hr hr' hn
  go_enter Try.func28, Try.ntmps28
  go_wp2_with fail
  refine (eqBoolS_any A A' c c' xs xs w.heap.size _ (HR.out.below (HB.out _ _)) (HR'.out.below (HB.out _ _)) HN.out).mono ?_
  rintro e w2 ⟨rfl, hw2⟩
  go_wp2_with fail
  go_ret
  exact ⟨rfl, (HB.out _ _).trans (hw2.below _)⟩

def bitsB (n : Int) (xs : List Bool) : Bool := decide (1 ≤ n ∧ n ≤ 200 ∧ (xs.length : Int) = n)
theorem l1In_bits (n lo hi : Int) (w : World) :
    Calls Try.prog 60 #[.int .i64 n, .int .i64 lo, .int .i64 hi] w fun e w' => e = .returned (.bool (decide (lo ≤ n ∧ n ≤ hi))) ∧ w = w' := by
  by_cases h1 : lo ≤ n
  · by_cases h2 : n ≤ hi
    · have HE : Hid (decide (lo ≤ n ∧ n ≤ hi) = true) := by simp [Hid, h1, h2]
      go_enter Try.func60, Try.ntmps60
      go_wp2_with fail
      go_ret
      exact ⟨ret_bool (by first | exact HE.out.symm | (rw [HE.out]; simp; omega) | (simp; omega)), rfl⟩
    · have HE : Hid (decide (lo ≤ n ∧ n ≤ hi) = false) := by simp [Hid, h2]
      go_enter Try.func60, Try.ntmps60
      go_wp2_with fail
      go_ret
      exact ⟨ret_bool (by first | exact HE.out.symm | (rw [HE.out]; simp; omega) | (simp; omega)), rfl⟩
  · have HE : Hid (decide (lo ≤ n ∧ n ≤ hi) = false) := by simp [Hid, h1]
    go_enter Try.func60, Try.ntmps60
    go_wp2_with fail
    go_ret
    exact ⟨ret_bool (by first | exact HE.out.symm | (rw [HE.out]; simp; omega) | (simp; omega)), rfl⟩
theorem impl_sizeOk (n : Int) (w : World) :
    Calls Try.prog 68 #[.int .i64 n] w fun e w' => e = .returned (.bool (decide (1 ≤ n ∧ n ≤ 200))) ∧ w = w' := by
  by_cases h1 : 1 ≤ n
  · by_cases h2 : n ≤ 200
    · have HE : Hid (decide (1 ≤ n ∧ n ≤ 200) = true) := by simp [Hid, h1, h2]
      go_enter Try.func68, Try.ntmps68
      go_wp2_with fail
      go_ret
      exact ⟨ret_bool (by first | exact HE.out.symm | (rw [HE.out]; simp; omega) | (simp; omega)), rfl⟩
    · have HE : Hid (decide (1 ≤ n ∧ n ≤ 200) = false) := by simp [Hid, h2]
      go_enter Try.func68, Try.ntmps68
      go_wp2_with fail
      go_ret
      exact ⟨ret_bool (by first | exact HE.out.symm | (rw [HE.out]; simp; omega) | (simp; omega)), rfl⟩
  · have HE : Hid (decide (1 ≤ n ∧ n ≤ 200) = false) := by simp [Hid, h1]
    go_enter Try.func68, Try.ntmps68
    go_wp2_with fail
    go_ret
    exact ⟨ret_bool (by first | exact HE.out.symm | (rw [HE.out]; simp; omega) | (simp; omega)), rfl⟩

set_option maxHeartbeats 1000000 in
theorem spec_BitsOk (n : Int) (A : Option Addr) (c : Nat) (xs : List Bool) (w : World) :
    Calls Try.prog 25 #[.agg #[.int .i64 n, .slice A xs.length c]] w fun e w' => e = .returned (.bool (bitsB n xs)) ∧ Below w.heap.size w w' := by
  have HB : Hid (∀ o : Obj, Below w.heap.size w (w.alloc o)) := fun o => (Below.refl _ _).alloc (Nat.le_refl _) o
  by_cases h1 : 1 ≤ n ∧ n ≤ 200
  · have HD : Hid (decide (1 ≤ n ∧ n ≤ 200) = true) := by rw [Hid, decide_eq_true_eq]; exact h1
    have HE : Hid (bitsB n xs = decide ((xs.length : Int) = n)) := by rw [Hid, bitsB, decide_eq_decide]; exact ⟨fun h => h.2.2, fun h => ⟨h1.1, h1.2, h⟩⟩
    clear h1
    go_enter Try.func25, Try.ntmps25
    go_wp2_with fail
    refine (l1In_bits _ _ _ _).mono ?_
    rintro e w4 ⟨rfl, rfl⟩
    rw [HD.out]
    go_wp2_with fail
    go_ret
    exact ⟨ret_bool (by first | exact HE.out.symm | (rw [HE.out]; done) | (rw [HE.out]; simp; done) | (rw [HE.out]; simp [eq_comm]) | (rw [HE.out]; grind)), HB.out _⟩
  · have HD : Hid (decide (1 ≤ n ∧ n ≤ 200) = false) := by rw [Hid, decide_eq_false_iff_not]; exact h1
    have HE : Hid (bitsB n xs = false) := by rw [Hid, bitsB, decide_eq_false_iff_not]; exact fun h => h1 ⟨h.1, h.2.1⟩
    clear h1
    go_enter Try.func25, Try.ntmps25
    go_wp2_with fail
    refine (l1In_bits _ _ _ _).mono ?_
    rintro e w4 ⟨rfl, rfl⟩
    rw [HD.out]
    go_wp2_with fail
    go_ret
    exact ⟨ret_bool (by first | exact HE.out.symm | (rw [HE.out]; done)), HB.out _⟩

set_option maxHeartbeats 1000000 in
theorem impl_BitsOk (n : Int) (A : Option Addr) (c : Nat) (xs : List Bool) (w : World) :
    Calls Try.prog 27 #[.agg #[.int .i64 n, .slice A xs.length c]] w fun e w' => e = .returned (.bool (bitsB n xs)) ∧ Below w.heap.size w w' := by
  have HB : Hid (∀ o : Obj, Below w.heap.size w (w.alloc o)) := fun o => (Below.refl _ _).alloc (Nat.le_refl _) o
  by_cases h1 : 1 ≤ n ∧ n ≤ 200
  · have HD : Hid (decide (1 ≤ n ∧ n ≤ 200) = true) := by rw [Hid, decide_eq_true_eq]; exact h1
    have HE : Hid (bitsB n xs = decide ((xs.length : Int) = n)) := by rw [Hid, bitsB, decide_eq_decide]; exact ⟨fun h => h.2.2, fun h => ⟨h1.1, h1.2, h⟩⟩
    clear h1
    go_enter Try.func27, Try.ntmps27
    go_wp2_with fail
    refine (impl_sizeOk _ _).mono ?_
    rintro e w4 ⟨rfl, rfl⟩
    rw [HD.out]
    go_wp2_with fail
    go_ret
    exact ⟨ret_bool (by first | exact HE.out.symm | (rw [HE.out]; done) | (rw [HE.out]; simp; done) | (rw [HE.out]; simp [eq_comm]) | (rw [HE.out]; grind)), HB.out _⟩
  · have HD : Hid (decide (1 ≤ n ∧ n ≤ 200) = false) := by rw [Hid, decide_eq_false_iff_not]; exact h1
    have HE : Hid (bitsB n xs = false) := by rw [Hid, bitsB, decide_eq_false_iff_not]; exact fun h => h1 ⟨h.1, h.2.1⟩
    clear h1
    go_enter Try.func27, Try.ntmps27
    go_wp2_with fail
    refine (impl_sizeOk _ _).mono ?_
    rintro e w4 ⟨rfl, rfl⟩
    rw [HD.out]
    go_wp2_with fail
    go_ret
    exact ⟨ret_bool (by first | exact HE.out.symm | (rw [HE.out]; done)), HB.out _⟩

theorem boolCells1 : Try.prog.cellsOf 4 = 1 := by kernel_rfl
theorem int64Cells1 : Try.prog.cellsOf 2 = 1 := by kernel_rfl

set_option maxRecDepth 100000 in
theorem open_bools_at {H : Type} {enc : TypeId × Value → H} {W : World} {fuel : Nat} {v : Value} {x : DataW H × List MemPlace}
    (hf : DataW.trod enc Try.prog W 0 (fun _ => true) true fuel 49 [v] = some x) :
    ∃ (K : Option Addr) (d : Nat) (ks : List Bool), v = .slice K ks.length d ∧ RB W W.heap.size K ks ∧ ks.length ≤ maxLen := by
  rcases open_bools Try.underlying49 Try.underlying4 boolCells1 hf with ⟨h0, _⟩ | ⟨a, len, cap, zs, h0, _, hl, hm, _, hc⟩
  · simp only [List.cons.injEq, and_true] at h0
    exact ⟨none, 0, [], h0, .inl rfl, Nat.zero_le _⟩
  · simp only [List.cons.injEq, and_true] at h0
    refine ⟨some a, cap, (List.range len).map zs, by rw [h0]; simp, ?_, by simp; omega⟩
    by_cases h00 : len = 0
    · left
      simp [h00]
    · right
      obtain ⟨b, off, spot⟩ := a
      have h1 := hc 0 (by omega)
      have hspot : spot = none := by simpa [Addr.add] using World.cell?_spot h1
      subst hspot
      refine ⟨b, off, rfl, ?_, fun i x hx => ?_⟩
      · have := World.block_lt_of_cell? W _ h1
        simpa [Addr.add] using this
      · have hlt : i < len := by have := (List.getElem?_eq_some_iff.1 hx).1; simpa using this
        have h2 := hc i (by omega)
        rw [Addr.add_lit] at h2
        have hx' : zs i = x := by simpa [hlt] using hx
        rw [h2, hx']

set_option maxRecDepth 100000 in
theorem open_bits {H : Type} {enc : TypeId × Value → H} {W : World} {base : Nat} {v : Value} {dd : DataW H} {p : List MemPlace}
    (hval : Value.okWide Try.prog W .any base 51 v) (h : DataW.Trod enc Try.prog W 0 (fun _ => true) true 51 v dd p) :
    ∃ (n : Int) (A : Option Addr) (c : Nat) (xs : List Bool), v = .agg #[.int .i64 n, .slice A xs.length c] ∧ RB W W.heap.size A xs ∧ xs.length ≤ maxLen := by
  obtain ⟨cs, rfl, hcs⟩ := okWide_struct Try.underlying51 hval
  obtain ⟨fuel, hf⟩ := h
  have hC : Try.prog.cellsOf 51 = 2 := by kernel_rfl
  have hI : Try.prog.cellsOf 49 = 1 := by kernel_rfl
  rw [hC] at hcs
  obtain ⟨y0, y1, n, _, hl, h0, h1⟩ := trod_struct2 Try.underlying51 hf
  simp only [int64Cells1, hI] at h0 h1
  obtain ⟨l⟩ := cs
  match l, hcs with
  | [c0, c1], _ =>
    obtain ⟨k, e0, _⟩ := DataW.trod_int Try.underlying2 h0
    obtain ⟨K, d, ks, e2, r2, n2⟩ := open_bools_at (v := c1) (by simpa [Value.cells] using h1)
    have e0' : c0 = .int .i64 k := by simpa [Value.cells] using e0
    subst e0' e2
    exact ⟨k, K, d, ks, rfl, r2, n2⟩
end Go.Proofs.Ytaiehccpefjbfaa
