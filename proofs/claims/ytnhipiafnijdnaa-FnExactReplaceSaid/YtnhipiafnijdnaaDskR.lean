/-
  ReadFile, the model's and the program's: contracts (tools/mkdsks4.py).
-/
import Derived.Test.YtnhipiafnijdnaaDskI3
namespace Go.Proofs.Ytnhipiafnijdnaa
open Go.RowKit

def readV (D : DK) (x : ByteArray) : ByteArray := if diskD D then valOf D.live x else ⟨#[]⟩
def readB (D : DK) (x : ByteArray) : Bool := diskD D && hasK D.live x

set_option maxHeartbeats 2000000 in
set_option maxRecDepth 100000 in
theorem spec_ReadFile (V : DV) (D : DK) (x : ByteArray) (w : World) (hr : RK w w.heap.size V D) (hn : LenK D 2000000) (hs : SmallK D 4000000) :
    Calls Try.prog 20 #[.agg #[.slice V.A D.live.length V.c, .slice V.K D.safe.length V.d, .slice V.O D.ops.length V.o], .string x] w fun e w' => e = .returned (.tuple #[.string (readV D x), .bool (readB D x)]) ∧ Below w.heap.size w w' := by
  have hb0 : Below w.heap.size w (w.alloc (.cells #[.slice V.A D.live.length V.c, .slice V.K D.safe.length V.d, .slice V.O D.ops.length V.o] 31)) := (Below.refl _ _).alloc (Nat.le_refl _) _
  have hx0 := Row3.lit w 31 (.slice V.A D.live.length V.c) (.slice V.K D.safe.length V.d) (.slice V.O D.ops.length V.o)
  have HB := hid hb0
  have X := hid hx0
  have HR := hid ((hr.below hb0).more hb0.size)
  have HN := hid hn
  have HS := hid hs
  clear hr hn hs hb0 hx0
  cases hd : diskD D
  · have HE1 : Hid (readV D x = ⟨#[]⟩) := by simp [Hid, readV, hd]
    have HE2 : Hid (readB D x = false) := by simp [Hid, readB, hd]
    go_enter Try.func20, Try.ntmps20
    have b0 := X.out.c0
    have b1 := X.out.c1
    have b2 := X.out.c2
    go_wp2_with fail
    clear b0 b1 b2
    generalize hgq : w.alloc (.cells #[.slice V.A D.live.length V.c, .slice V.K D.safe.length V.d, .slice V.O D.ops.length V.o] 31) = w0 at *
    clear hgq
    refine (spec_DiskOk V D _ HR.out HN.out HS.out).mono ?_
    rintro e w1 ⟨rfl, hb1⟩
    have HB1 := hid hb1
    clear hb1
    go_wp2_with fail
    go_ret2
    exact ⟨ret_sb HE1.out.symm HE2.out.symm, HB.out.trans (HB1.out.mono HB.out.size)⟩
  · have HE1 : Hid (readV D x = valOf D.live x) := by simp [Hid, readV, hd]
    have HE2 : Hid (readB D x = hasK D.live x) := by simp [Hid, readB, hd]
    have HFL := hid (filesB_iff.1 (diskB_live hd))
    go_enter Try.func20, Try.ntmps20
    have b0 := X.out.c0
    have b1 := X.out.c1
    have b2 := X.out.c2
    go_wp2_with fail
    clear b0 b1 b2
    generalize hgq : w.alloc (.cells #[.slice V.A D.live.length V.c, .slice V.K D.safe.length V.d, .slice V.O D.ops.length V.o] 31) = w0 at *
    clear hgq
    refine (spec_DiskOk V D _ HR.out HN.out HS.out).mono ?_
    rintro e w1 ⟨rfl, hb1⟩
    have HB1 := hid hb1
    clear hb1
    have x0 := (X.out.below HB1.out).c0
    go_wp2_with fail
    clear x0
    refine (spec_l10At V.A V.c D.live x w1.heap.size _ ((HR.out.1.below HB1.out).more HB1.out.size) (by unfold maxLen; have := HN.out.1; omega)).mono ?_
    rintro e w2 ⟨r, rfl, hat, rfl⟩
    rcases hat with ⟨rfl, hk⟩ | ⟨i, hi, rfl, hk, hv2⟩
    · have HV2 := hid (valOf_none hk)
      go_wp2_with fail
      go_ret2
      exact ⟨ret_sb (by rw [HE1.out, HV2.out]) (by rw [HE2.out, hk]), HB.out.trans (HB1.out.mono HB.out.size)⟩
    · obtain ⟨b, off, hA, hb, hc1, hc2⟩ := (HR.out.1.below HB1.out).at_ hi
      have HV2 := hid hv2
      have x0 := (X.out.below HB1.out).c0
      rw [hA] at x0
      clear hv2 hA
      go_wp2_with fail
      go_ret2
      exact ⟨ret_sb (by rw [HE1.out, HV2.out]) (by rw [HE2.out, hk]), HB.out.trans (HB1.out.mono HB.out.size)⟩

set_option maxHeartbeats 2000000 in
set_option maxRecDepth 100000 in
theorem impl_ReadFile (V : DV) (D : DK) (x : ByteArray) (w : World) (hr : RK w w.heap.size V D) (hv : VSK V D) (hn : LenK D 2000000) (hs : SmallK D 4000000) :
    Calls Try.prog 21 #[.agg #[.slice V.A D.live.length V.c, .slice V.K D.safe.length V.d, .slice V.O D.ops.length V.o], .string x] w fun e w' => e = .returned (.tuple #[.string (readV D x), .bool (readB D x)]) ∧ Below w.heap.size w w' := by
  have hb0 : Below w.heap.size w (w.alloc (.cells #[.slice V.A D.live.length V.c, .slice V.K D.safe.length V.d, .slice V.O D.ops.length V.o] 31)) := (Below.refl _ _).alloc (Nat.le_refl _) _
  have hx0 := Row3.lit w 31 (.slice V.A D.live.length V.c) (.slice V.K D.safe.length V.d) (.slice V.O D.ops.length V.o)
  have HB := hid hb0
  have X := hid hx0
  have HR := hid ((hr.below hb0).more hb0.size)
  have HN := hid hn
  have HS := hid hs
  have HV := hid hv
  clear hv
  clear hr hn hs hb0 hx0
  cases hd : diskD D
  · have HE1 : Hid (readV D x = ⟨#[]⟩) := by simp [Hid, readV, hd]
    have HE2 : Hid (readB D x = false) := by simp [Hid, readB, hd]
    go_enter Try.func21, Try.ntmps21
    have b0 := X.out.c0
    have b1 := X.out.c1
    have b2 := X.out.c2
    go_wp2_with fail
    clear b0 b1 b2
    generalize hgq : w.alloc (.cells #[.slice V.A D.live.length V.c, .slice V.K D.safe.length V.d, .slice V.O D.ops.length V.o] 31) = w0 at *
    clear hgq
    refine (impl_DiskOk V D _ HR.out HV.out HN.out HS.out).mono ?_
    rintro e w1 ⟨rfl, hb1⟩
    have HB1 := hid hb1
    clear hb1
    go_wp2_with fail
    go_ret2
    exact ⟨ret_sb HE1.out.symm HE2.out.symm, HB.out.trans (HB1.out.mono HB.out.size)⟩
  · have HE1 : Hid (readV D x = valOf D.live x) := by simp [Hid, readV, hd]
    have HE2 : Hid (readB D x = hasK D.live x) := by simp [Hid, readB, hd]
    have HFL := hid (filesB_iff.1 (diskB_live hd))
    go_enter Try.func21, Try.ntmps21
    have b0 := X.out.c0
    have b1 := X.out.c1
    have b2 := X.out.c2
    go_wp2_with fail
    clear b0 b1 b2
    generalize hgq : w.alloc (.cells #[.slice V.A D.live.length V.c, .slice V.K D.safe.length V.d, .slice V.O D.ops.length V.o] 31) = w0 at *
    clear hgq
    refine (impl_DiskOk V D _ HR.out HV.out HN.out HS.out).mono ?_
    rintro e w1 ⟨rfl, hb1⟩
    have HB1 := hid hb1
    clear hb1
    have x0 := (X.out.below HB1.out).c0
    go_wp2_with fail
    clear x0
    refine (impl_valueInF V.A V.c D.live x _ ((HR.out.1.below HB1.out).more HB1.out.size) (by have := (fitB_iff.1 HFL.out.1).1; omega) HFL.out.2.1).mono ?_
    rintro e w2 ⟨rfl, hb2⟩
    have HB2 := hid (HB1.out.trans (hb2.mono HB1.out.size))
    clear hb2
    go_wp2_with fail
    go_ret2
    exact ⟨ret_sb HE1.out.symm HE2.out.symm, HB.out.trans (HB2.out.mono HB.out.size)⟩
end Go.Proofs.Ytnhipiafnijdnaa
