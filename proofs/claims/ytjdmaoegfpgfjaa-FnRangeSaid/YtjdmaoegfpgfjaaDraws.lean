/-
  DrawGet, DrawPut, DrawDrop, DrawRange: what they give.
-/
import Derived.Test.YtjdmaoegfpgfjaaBent
namespace Go.Proofs.Ytjdmaoegfpgfjaa
open Go.RowKit

theorem open_any (A : Option Addr) (n c : Nat) (w : World) :
    Calls Try.prog 69 #[.slice A n c] w fun e w' => e = .returned (.pointer (some ⟨w.heap.size, 0, none⟩)) ∧ w' = w.alloc (.cells #[.slice A n c, .int .i64 0] 164) := by
  go_enter Try.func69, Try.ntmps69
  go_wp2_with fail
  go_ret
  exact ⟨rfl, rfl⟩
theorem Rd.new {w : World} {B : Nat} {A : Option Addr} {n : Nat} (c : Nat) (hc : CB w B A n) (hn : n ≤ 1048576) (hB : B ≤ w.heap.size) : Rd (w.alloc (.cells #[.slice A n c, .int .i64 0] 164)) B w.heap.size :=
  ⟨A, n, c, 0, Nat.zero_le _, hn, heap_alloc_new w _, hc.grown (grown_of_below (r := none) ((Below.refl _ _).alloc (Nat.le_refl _) _)) hB (by simp), hB⟩

/-- Pairs and a key that are drawn. -/
def GetD (w : World) (e : Ending) (w' : World) : Prop := ∃ A c ps k, e = .returned (.tuple #[.slice A ps.length c, .string k]) ∧ OwnP w' w.heap.size A c ps ∧ SmallP ps ∧ ps.length ≤ 60 ∧ k.size ≤ 7 ∧ Below w.heap.size w w'

set_option maxHeartbeats 2000000 in
theorem drawGet_any (A : Option Addr) (n c : Nat) (w : World) (hc : CB w w.heap.size A n) (hn : n ≤ 1048576) :
    Calls Try.prog 70 #[.slice A n c] w (GetD w) := by
  have HC := hid hc
  clear hc
  go_enter Try.func70, Try.ntmps70
  go_wp2_with fail
  refine (open_any A n c _).mono ?_
  rintro e w1 ⟨rfl, hw1⟩
  have HR1 : Hid (Rd w1 w.heap.size w.heap.size) := by
    subst hw1
    exact Rd.new c HC.out hn (Nat.le_refl _)
  have HB1 : Hid (Below w.heap.size w w1) := by
    subst hw1
    exact (Below.refl _ _).alloc (Nat.le_refl _) _
  clear hw1
  go_wp2_with fail
  refine (pairs_any w.heap.size w.heap.size 9 _ HR1.out (by omega)).mono ?_
  rintro e w2 ⟨A2, c2, ps2, rfl, ho2, hm2, hr2, hg2⟩
  have HO2 := hid ho2
  have HM2 := hid hm2
  have HR2 := hid hr2
  have HK2 := hid (KB.of_grown hg2 (Nat.le_refl _))
  have hsz1 : w.heap.size < w1.heap.size := HR1.out.lt.1
  clear ho2 hm2 hr2 hg2
  go_wp2_with fail
  refine (bent_any w.heap.size w1.heap.size w.heap.size A2 c2 ps2 _ HR2.out HO2.out hsz1 HM2.out HK2.out.size).mono ?_
  rintro e w3 ⟨A3, c3, ps3, rfl, ho3, hs3, hl3, hr3, hk3⟩
  have HO3 := hid ho3
  have HS3 := hid hs3
  have HR3 := hid hr3
  have HK3 := hid (HK2.out.trans hk3)
  clear ho3 hs3 hr3 hk3
  go_wp2_with fail
  refine (key_any w.heap.size w.heap.size _ HR3.out).mono ?_
  rintro e w4 ⟨k, hk, rfl, hr4, hg4⟩
  have HO4 := hid (HO3.out.keep_g hg4 hsz1)
  have HK4 := hid (HK3.out.trans (KB.of_grown hg4 HK3.out.size))
  clear hr4 hg4
  go_wp2_with fail
  go_ret2
  exact ⟨A3, c3, ps3, k, rfl, HO4.out.mono (Nat.le_of_lt hsz1), HS3.out, hl3, hk, HB1.out.trans (⟨HK4.out.os, HK4.out.tape, HK4.out.output, HK4.out.size, fun i hi => HK4.out.block i (by omega) (by omega)⟩)⟩

/-- Pairs, a key and a value that are drawn. -/
def PutD (w : World) (e : Ending) (w' : World) : Prop := ∃ A c ps k v, e = .returned (.tuple #[.slice A ps.length c, .string k, .string v]) ∧ OwnP w' w.heap.size A c ps ∧ SmallP ps ∧ ps.length ≤ 60 ∧ k.size ≤ 7 ∧ v.size ≤ 7 ∧ Below w.heap.size w w'

end Go.Proofs.Ytjdmaoegfpgfjaa
