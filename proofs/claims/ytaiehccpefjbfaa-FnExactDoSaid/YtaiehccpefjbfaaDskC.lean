/-
  Clones of files and ops, ownDisk, syncOf, the program's Sync: contracts (tools/mkdsks4.py).
-/
import Derived.Test.YtaiehccpefjbfaaDskR
namespace Go.Proofs.Ytaiehccpefjbfaa
open Go.RowKit Go.Shelf

set_option maxHeartbeats 2000000 in
set_option maxRecDepth 100000 in
theorem cloneF_any (A : Option Addr) (c : Nat) (hs : PS) (w : World) (hr : RP w w.heap.size A hs) (hn : hs.length ≤ 1000) :
    Calls Try.prog 106 #[.slice A hs.length c] w (MadeF w w.heap.size hs) := by
  obtain ⟨i0, hi0, hz0, hz1, hz2⟩ := info_parts pairInfoF
  have qT : ∀ (w : World) (a : Option Addr) (n c n' c' : Nat), (binOp .eql 30 (.slice a n c) (.slice none n' c')).run Try.prog w = .ok (.bool a.isNone) w := fun w a n c n' c' => Lib.run_eql_slice_nil w _ _ a n c n' c' Try.underlying30
  rcases A with _ | ad
  · obtain rfl : hs = [] := by
      rcases hr with h | ⟨b, off, e, _⟩
      · exact h
      · cases e
    go_enter Try.func106, Try.ntmps106
    go_wp2_with fail
    go_ret
    exact ⟨none, 0, rfl, OwnPF.nil_ _ _, Below.refl _ _⟩
  · have HVA := hid ((Below.refl w.heap.size w).alloc (Nat.le_refl _) (.cells #[] 138))
    have N8 := hid (OwnPF.made (w := w) (Nat.le_refl _) #[] 0 rfl (Nat.zero_le _))
    have HR := hid (hr.below HVA.out)
    clear hr
    go_enter Try.func106, Try.ntmps106
    go_wp2_with (at_builtin; refine wpList_append_rpF _ rfl _ _ _ rfl i0 Try.underlying30 hi0 hz0 hz1 hz2 w.heap.size (some ⟨w.heap.size, 0, none⟩) 0 0 [] rfl rfl N8.out w.heap.size (some ad) hs.length c hs rfl rfl HR.out (by simp; omega) (by simp) ?_; intro A' n' c' w7 hn7 ho7 hb7; have HN7 := hid hn7; have HO7 := hid ho7; have HB7 := hid (HVA.out.trans hb7); clear hn7 ho7 hb7)
    go_ret
    exact ⟨A', c', by rw [HN7.out]; rfl, HO7.out, HB7.out⟩

set_option maxHeartbeats 2000000 in
set_option maxRecDepth 100000 in
theorem cloneD_any (A : Option Addr) (c : Nat) (hs : DS) (w : World) (hr : RD w w.heap.size A hs) (hn : hs.length ≤ 1000) :
    Calls Try.prog 107 #[.slice A hs.length c] w (MadeD w w.heap.size hs) := by
  obtain ⟨i0, hi0, hz0, hz1, hz2⟩ := info_parts dopInfo
  have qT : ∀ (w : World) (a : Option Addr) (n c n' c' : Nat), (binOp .eql 31 (.slice a n c) (.slice none n' c')).run Try.prog w = .ok (.bool a.isNone) w := fun w a n c n' c' => Lib.run_eql_slice_nil w _ _ a n c n' c' Try.underlying31
  rcases A with _ | ad
  · obtain rfl : hs = [] := by
      rcases hr with h | ⟨b, off, e, _⟩
      · exact h
      · cases e
    go_enter Try.func107, Try.ntmps107
    go_wp2_with fail
    go_ret
    exact ⟨none, 0, rfl, OwnD.nil_ _ _, Below.refl _ _⟩
  · have HVA := hid ((Below.refl w.heap.size w).alloc (Nat.le_refl _) (.cells #[] 37))
    have N8 := hid (OwnD.made (w := w) (Nat.le_refl _) #[] 0 rfl (Nat.zero_le _))
    have HR := hid (hr.below HVA.out)
    clear hr
    go_enter Try.func107, Try.ntmps107
    go_wp2_with (at_builtin; refine wpList_append_rd _ rfl _ _ _ rfl i0 Try.underlying31 hi0 hz0 hz1 hz2 w.heap.size (some ⟨w.heap.size, 0, none⟩) 0 0 [] rfl rfl N8.out w.heap.size (some ad) hs.length c hs rfl rfl HR.out (by simp; omega) (by simp) ?_; intro A' n' c' w7 hn7 hap7; have HN7 := hid hn7; have hb7 := hap7.below N8.out rfl (by simp); have HO7 := hid hap7.own; have HB7 := hid (HVA.out.trans hb7); clear hn7 hap7 hb7)
    go_ret
    exact ⟨A', c', by rw [HN7.out]; rfl, HO7.out, HB7.out⟩


set_option maxHeartbeats 4000000 in
set_option maxRecDepth 100000 in
theorem impl_ownDisk (V : DV) (D : DK) (w : World) (hr : RK w w.heap.size V D) (hn : LenK D 1000) :
    Calls Try.prog 53 #[.agg #[.slice V.A D.live.length V.c, .slice V.K D.safe.length V.d, .slice V.O D.ops.length V.o]] w (MadeK w w.heap.size D) := by
  have h0 := (Row3.lit w 33 (.slice V.A D.live.length V.c) (.slice V.K D.safe.length V.d) (.slice V.O D.ops.length V.o)).below ((Below.refl _ _).alloc (Nat.le_refl _) (.cells #[.slice none 0 0, .slice none 0 0, .slice none 0 0] 33))
  have h1 := Row3.lit (w.alloc (.cells #[.slice V.A D.live.length V.c, .slice V.K D.safe.length V.d, .slice V.O D.ops.length V.o] 33)) 33 (.slice none 0 0) (.slice none 0 0) (.slice none 0 0)
  rw [World.size_alloc] at h1
  have hb := ((Below.refl w.heap.size w).alloc (Nat.le_refl _) (.cells #[.slice V.A D.live.length V.c, .slice V.K D.safe.length V.d, .slice V.O D.ops.length V.o] 33)).alloc (by simp) (.cells #[.slice none 0 0, .slice none 0 0, .slice none 0 0] 33)
  have X := hid h0
  have Y := hid h1
  have HYL := hid h1.lt
  have HB := hid hb
  have HR := hid ((hr.below hb).more hb.size)
  have HN := hid hn
  clear hr hn h0 h1 hb
  go_enter Try.func53, Try.ntmps53
  go_wp2_with fail
  generalize hgq : (w.alloc (.cells #[.slice V.A D.live.length V.c, .slice V.K D.safe.length V.d, .slice V.O D.ops.length V.o] 33)).alloc (.cells #[.slice none 0 0, .slice none 0 0, .slice none 0 0] 33) = w0 at *
  clear hgq
  have b0 := X.out.c0
  have b1 := X.out.c1
  have b2 := X.out.c2
  have tk1 : Hid (1 = 1) := rfl
  have tk2 : Hid (1 = 1) := rfl
  have tk3 : Hid (1 = 1) := rfl
  have tk4 : Hid (1 = 1) := rfl
  go_region_held3 (fun w' => w'.cell? ⟨w.heap.size, 0, none⟩ = some (.slice V.A D.live.length V.c) ∧ w'.cell? ⟨w.heap.size, 1, none⟩ = some (.slice V.K D.safe.length V.d) ∧ w'.cell? ⟨w.heap.size, 2, none⟩ = some (.slice V.O D.ops.length V.o)) (go_keep)
    (first
      | (clear tk1; go_at_call 106; refine (cloneF_any V.A V.c D.live _ (by first | exact HR.out.1 | exact HR.out.1.below (Below.refl _ _).drew) HN.out.1).mono ?_; rintro e w1 ⟨A1, c1, rfl, ho, hb⟩; have HA1 : Hid (OwnPF w1 w0.heap.size A1 c1 D.live) := ho; have HB1 : Hid (Below w0.heap.size w0 w1) := (by first | exact hb | exact (Below.refl w0.heap.size w0).drew.trans hb); clear ho hb; have b10 := (X.out.below HB1.out).c0; have b11 := (X.out.below HB1.out).c1; have b12 := (X.out.below HB1.out).c2; have HR1 := hid ((HR.out.below HB1.out).more HB1.out.size))
      | (clear tk2; go_at_call 106; refine (cloneF_any V.K V.d D.safe _ (by first | exact HR1.out.2.1 | exact HR1.out.2.1.below (Below.refl _ _).drew) HN.out.2.1).mono ?_; rintro e w2 ⟨A2, c2, rfl, ho, hb⟩; have hb2 : Below w1.heap.size w1 w2 := (by first | exact hb | exact (Below.refl w1.heap.size w1).drew.trans hb); have HA2 : Hid (OwnPF w2 w1.heap.size A2 c2 D.safe) := ho; have HA21 := hid (HA1.out.below hb2); have HB2 := hid (HB1.out.trans (hb2.mono HB1.out.size)); have HA2SZ := hid hb2.size; clear ho hb hb2; have b20 := (X.out.below HB2.out).c0; have b21 := (X.out.below HB2.out).c1; have b22 := (X.out.below HB2.out).c2; have HR2 := hid ((HR.out.below HB2.out).more HB2.out.size))
      | (clear tk3; go_at_call 107; refine (cloneD_any V.O V.o D.ops _ (by first | exact HR2.out.2.2 | exact HR2.out.2.2.below (Below.refl _ _).drew) HN.out.2.2).mono ?_; rintro e w3 ⟨A3, c3, rfl, ho, hb⟩; have hb3 : Below w2.heap.size w2 w3 := (by first | exact hb | exact (Below.refl w2.heap.size w2).drew.trans hb); have HA3 : Hid (OwnD w3 w2.heap.size A3 c3 D.ops) := ho; have HA31 := hid (HA21.out.below hb3); have HA32 := hid (HA2.out.below hb3); have HB3 := hid (HB2.out.trans (hb3.mono HB2.out.size)); clear ho hb hb3; have Y3 := hid (Y.out.below HB3.out); have b30 := (X.out.below HB3.out).c0; have b31 := (X.out.below HB3.out).c1; have b32 := (X.out.below HB3.out).c2; have z0 := Y3.out.c0; have z1 := Y3.out.c1; have z2 := Y3.out.c2; have k0 := Y3.out.fz 0; have k1 := Y3.out.fz 1; have k2 := Y3.out.fz 2))
  have hsz1 := HB1.out.size
  have hsz2 := HB2.out.size
  have hsz12 : w1.heap.size ≤ w2.heap.size := HA2SZ.out
  go_wp2_with fail
  have U0 := Y3.out.s0 (.slice A1 D.live.length c1)
  have U1 := U0.s1 (.slice A2 D.safe.length c2)
  refine world_post (S := fun wq => Row3 wq (w.heap.size + 1) 33 (.slice A1 D.live.length c1) (.slice A2 D.safe.length c2) (.slice A3 D.ops.length c3) ∧ OwnK wq w.heap.size ⟨A1, c1, A2, c2, A3, c3⟩ D ∧ Below w.heap.size w wq) _
    ⟨U1.s2 _, ⟨own_mono (own3_set (own3_set (own3_set HA31.out Y3.out HYL.out _ _) U0 HYL.out _ _) U1 HYL.out _ _) HB.out.size, own_mono (own3_set (own3_set (own3_set HA32.out Y3.out (Nat.lt_of_lt_of_le HYL.out hsz1) _ _) U0 (Nat.lt_of_lt_of_le HYL.out hsz1) _ _) U1 (Nat.lt_of_lt_of_le HYL.out hsz1) _ _) (Nat.le_trans HB.out.size hsz1), own_mono (own3_set (own3_set (own3_set HA3.out Y3.out (Nat.lt_of_lt_of_le HYL.out (Nat.le_trans hsz1 hsz12)) _ _) U0 (Nat.lt_of_lt_of_le HYL.out (Nat.le_trans hsz1 hsz12)) _ _) U1 (Nat.lt_of_lt_of_le HYL.out (Nat.le_trans hsz1 hsz12)) _ _) (Nat.le_trans HB.out.size (Nat.le_trans hsz1 hsz12)),
      fun q h1 h2 => by have := (World.ownsRow.lt HA1.out q h1).2; have := (World.ownsRow.lt HA2.out q h2).1; omega⟩,
      (((HB.out.trans (HB3.out.mono HB.out.size)).setCell (p := ⟨w.heap.size + 1, 0, none⟩) (by simp) _).setCell (p := ⟨w.heap.size + 1, 1, none⟩) (by simp) _).setCell (p := ⟨w.heap.size + 1, 2, none⟩) (by simp) _⟩ ?_
  clear b0 b1 b2 b10 b11 b12 b20 b21 b22 b30 b31 b32 z0 z1 z2 k0 k1 k2 U0 U1
  intro wq ⟨hq, hp, hbq⟩
  have q0 := hq.c0
  have q1 := hq.c1
  have q2 := hq.c2
  exact bodyPost_ret (v := .agg #[.slice A1 D.live.length c1, .slice A2 D.safe.length c2, .slice A3 D.ops.length c3]) (by simp [results, Try.results53, go_sem, q0, q1, q2]) rfl ⟨⟨A1, c1, A2, c2, A3, c3⟩, rfl, hp, hbq⟩
end Go.Proofs.Ytaiehccpefjbfaa
