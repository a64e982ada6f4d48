/-
  Merged of both.
-/
import Derived.Test.YtoipcjdpfbgghaaDeltaK
import Derived.Test.YtoipcjdpfbgghaaDeltaC
import Derived.Test.YtoipcjdpfbgghaaTxt
namespace Go.Proofs.Ytoipcjdpfbgghaa
open Go.RowKit

def cv (x : CD) : Value := .agg #[.string x.1, .string x.2.1, .bool x.2.2]
set_option maxHeartbeats 2000000 in
theorem spec_l9Find (A : Option Addr) (c : Nat) (l : CS) (k : ByteArray) (w : World) (hr : RC w w.heap.size A l) (hn : l.length ≤ maxLen) :
    Calls Try.prog 77 #[.slice A l.length c, .string k] w fun e w' => e = .returned (.tuple #[.agg #[.string (findC l k).1, .string (findC l k).2.1, .bool (findC l k).2.2], .bool (hasC l k)]) ∧ Below w.heap.size w w' := by
  unfold maxLen at hn
  have HR := hid hr
  have h3 := Row3.lit w 77 (.string ⟨#[]⟩) (.string ⟨#[]⟩) (.bool false)
  have X := hid h3
  have HB := hid ((Below.refl w.heap.size w).alloc (Nat.le_refl _) (.cells #[.string ⟨#[]⟩, .string ⟨#[]⟩, .bool false] 77))
  clear hr h3
  go_enter Try.func77, Try.ntmps77
  go_wp2_with fail
  go_loopw [6] (fun i wr => ∃ j : Nat, j ≤ l.length ∧ i = .int .i64 j ∧ noneToC l k j ∧ wr = w.alloc (.cells #[.string ⟨#[]⟩, .string ⟨#[]⟩, .bool false] 77)) (fun i _ => l.length - (intOf i).toNat)
  case atStart => exact ⟨0, Nat.zero_le _, rfl, fun i h hi => absurd hi (by omega), rfl⟩
  case round =>
    obtain ⟨j, hj, rfl, hnt, rfl⟩ := hrel
    have x0 := X.out.c0
    have x1 := X.out.c1
    have x2 := X.out.c2
    have f0 := X.out.fz 0
    have f1 := X.out.fz 1
    have f2 := X.out.fz 2
    by_cases hlt : j < l.length
    · obtain ⟨b, off, rfl, hb, hc1, hc2, hc3⟩ := (HR.out.below HB.out).at_ hlt
      have HS := hid (noneToC_succ hnt hlt)
      have HV := hid (noneToC_val hnt hlt)
      clear hnt
      by_cases he : l[j].1 = k
      · have h1 := eqS_true he
        have HE := hid he
        clear he
        go_wp2_with fail
        clear x0 x1 x2 f0 f1 f2
        refine world_post (S := fun wq => Row3 wq w.heap.size 77 (.string l[j].1) (.string l[j].2.1) (.bool l[j].2.2) ∧ Below w.heap.size w wq) _
          ⟨Row3.lit w _ _ _ _, (Below.refl _ _).alloc (Nat.le_refl _) _⟩ ?_
        intro wq ⟨hq, hb⟩
        have q0 := hq.c0
        have q1 := hq.c1
        have q2 := hq.c2
        exact bodyPost_ret (v := .tuple #[.agg #[.string l[j].1, .string l[j].2.1, .bool l[j].2.2], .bool true]) (by simp [results, Try.results77, go_sem, q0, q1, q2]) rfl ⟨by rw [(HV.out HE.out).1, (HV.out HE.out).2], hb⟩
      · have h1 := eqS_false he
        have HE := hid he
        clear he
        go_wp2_with fail
        go_roundw
        case rel => exact ⟨j + 1, by omega, by go_num, HS.out HE.out, (by first | trivial | rfl)⟩
        case measure => simp [intOf]; omega
    · obtain rfl : j = l.length := by omega
      have HE := hid (noneToC_end hnt)
      clear hnt
      go_wp2_with fail
      clear x0 x1 x2 f0 f1 f2
      refine world_post (S := fun wq => Row3 wq w.heap.size 77 (.string ⟨#[]⟩) (.string ⟨#[]⟩) (.bool false) ∧ Below w.heap.size w wq) _
        ⟨Row3.lit w _ _ _ _, (Below.refl _ _).alloc (Nat.le_refl _) _⟩ ?_
      intro wq ⟨hq, hb⟩
      have q0 := hq.c0
      have q1 := hq.c1
      have q2 := hq.c2
      exact bodyPost_ret (v := .tuple #[.agg #[.string ⟨#[]⟩, .string ⟨#[]⟩, .bool false], .bool false]) (by simp [results, Try.results77, go_sem, q0, q1, q2]) rfl ⟨by rw [HE.out.1, HE.out.2], hb⟩

theorem findC_key {l : CS} {k : ByteArray} (h : hasC l k = true) : (findC l k).1 = k := by
  rw [hasC_any, List.any_eq_true] at h
  obtain ⟨p, hp, e⟩ := h
  cases hf : l.find? (fun p => decide (p.1 = k)) with
  | none => exact absurd (List.find?_eq_none.1 hf p hp) (by simpa using e)
  | some q =>
    have := List.find?_some hf
    simpa [findC, hf] using this
theorem moreL_small (x y : CS) (k : Nat) : (moreL x (y.take k)).length ≤ y.length := by
  have h2 := moreL_len x (y.take k)
  have h3 : (y.take k).length ≤ y.length := by rw [List.length_take]; omega
  omega
theorem unlikeL_small (x y : CS) (k : Nat) : (unlikeL x (y.take k)).length ≤ y.length := by
  have h2 := unlikeL_len x (y.take k)
  have h3 : (y.take k).length ≤ y.length := by rw [List.length_take]; omega
  omega
theorem cell_txt (w : World) (x : ByteArray) (T : TypeId) : (w.alloc (.cells #[.string x] T)).cell? ⟨w.heap.size, 0, none⟩ = some (.string x) := by
  rw [cell_of_row _ _ _ _ _ _ (heap_alloc_new w _)]; rfl
theorem keep_T {W w' : World} {B B2 n1 c1 c2 : Nat} {A1 A2 : Option Addr} {P : CS} {U : List ByteArray} (hg : W.grownBy w' (Value.ownBlock (.slice A1 n1 c1))) (hn : n1 = P.length) (hC : OwnC W B A1 c1 P) (hT : OwnT W B2 A2 c2 U) : OwnT w' B2 A2 c2 U := by
  subst hn
  exact hT.keepG hg (own_types (by decide) hT hC)
theorem keep_C {W w' : World} {B B2 n2 c1 c2 : Nat} {A1 A2 : Option Addr} {P : CS} {U : List ByteArray} (hg : W.grownBy w' (Value.ownBlock (.slice A2 n2 c2))) (hn : n2 = U.length) (hC : OwnC W B A1 c1 P) (hT : OwnT W B2 A2 c2 U) : OwnC w' B A1 c1 P := by
  subst hn
  exact hC.keepG hg (own_types (by decide) hC hT)
/-- What besides gives. -/
def Besides (w : World) (m : CS) (u : List ByteArray) (e : Ending) (w' : World) : Prop := ∃ A c T d, e = .returned (.tuple #[.slice A m.length c, .slice T u.length d]) ∧ OwnC w' w.heap.size A c m ∧ OwnT w' w.heap.size T d u ∧ Below w.heap.size w w'

set_option maxHeartbeats 4000000 in
set_option maxRecDepth 100000 in
theorem impl_besides (A : Option Addr) (c : Nat) (x : CS) (K : Option Addr) (d : Nat) (y : CS) (w : World) (hr : RC w w.heap.size A x) (hk : RC w w.heap.size K y) (hx : x.length ≤ 900) (hy : y.length ≤ 900) (sx : risesC x = true) :
    Calls Try.prog 78 #[.slice A x.length c, .slice K y.length d] w (Besides w (moreL x y) (unlikeL x y)) := by
  obtain ⟨i0, hi0, hz0, hz1, hz2⟩ := info_parts chgInfo
  obtain ⟨j0, hj0, hy0, hy1, hy2⟩ := info_parts textInfo
  have HR := hid hr
  have HK := hid hk
  have HSX := hid sx
  clear hr hk sx
  have hm := chgGuard
  go_enter Try.func78, Try.ntmps78
  go_wp2_with fail
  go_loopw [6, 7, 14] (fun p q i wr => ∃ (k n1 n2 : Nat) (A1 A2 : Option Addr) (c1 c2 : Nat), k ≤ y.length ∧ i = .int .i64 k ∧ p = .slice A1 n1 c1 ∧ q = .slice A2 n2 c2 ∧ Hid (n1 = (moreL x (y.take k)).length) ∧ Hid (n2 = (unlikeL x (y.take k)).length) ∧ Hid (OwnC wr w.heap.size A1 c1 (moreL x (y.take k))) ∧ Hid (OwnT wr w.heap.size A2 c2 (unlikeL x (y.take k))) ∧ Hid (Below w.heap.size w wr)) (fun _ _ i _ => y.length - (intOf i).toNat)
  case atStart => exact ⟨0, 0, 0, _, _, _, _, Nat.zero_le _, rfl, rfl, rfl, rfl, rfl, OwnC.nil_ _ _, OwnT.nil_ _ _, Below.refl _ _⟩
  case round =>
    obtain ⟨k, n1, n2, A1, A2, c1, c2, hk, rfl, rfl, rfl, HN1, HN2, HP, HQ, HD⟩ := hrel
    by_cases hlt : k < y.length
    · obtain ⟨g, off, rfl, hgb, hc1, hc2, hc3⟩ := (HK.out.below HD.out).at_ hlt
      have HS1 := hid (moreL_succ x hlt)
      have HS2 := hid (unlikeL_succ x hlt)
      have HM1 := hid (moreL_small x y k)
      have HM2 := hid (unlikeL_small x y k)
      have hba := (Below.refl wr.heap.size wr).alloc (Nat.le_refl _) (.cells #[.string y[k].1, .string y[k].2.1, .bool y[k].2.2] 77)
      have HDA := hid (HD.out.trans (hba.mono HD.out.size))
      have HRA := hid ((HR.out.below HDA.out).more HDA.out.size)
      have HPA := hid (HP.out.below hba)
      have HQA := hid (HQ.out.below hba)
      have X3 := hid (Row3.lit wr 77 (.string y[k].1) (.string y[k].2.1) (.bool y[k].2.2))
      have e5 : (0 : Int) ≤ (k : Int) := by omega
      have e6 : (k : Int) < (y.length : Int) := by omega
      clear hba
      cases hh : hasC x y[k].1
      · have HP2 : Hid (moreL x (y.take (k + 1)) = moreL x (y.take k) ++ [y[k]]) := by rw [Hid, HS1.out, hh, if_neg (by simp)]
        have HQ2 : Hid (unlikeL x (y.take (k + 1)) = unlikeL x (y.take k)) := by rw [Hid, HS2.out, hh, if_neg (by simp)]
        generalize moreL x (y.take k) = P at *
        generalize unlikeL x (y.take k) = U at *
        go_wp2_with (first
          | (go_at_call 116; refine (placeC_any A c x y[k].1 _ HRA.out (by omega) HSX.out).mono ?_; rw [hh]; rintro e w4 ⟨rfl, hb4⟩; have HB4 := hid hb4; have X4 := hid (X3.out.below hb4); have z0 := X4.out.c0; have z1 := X4.out.c1; have z2 := X4.out.c2; have HP4 := hid (HPA.out.below hb4); have HQ4 := hid (HQA.out.below hb4); have HD4 := hid (HDA.out.trans (hb4.mono HDA.out.size)); clear hb4)
          | (at_builtin; refine wpList_append_rc _ rfl _ _ _ rfl i0 Try.underlying25 hi0 hz0 hz1 hz2 w.heap.size A1 n1 c1 P rfl HN1.out (HP4.out.below ((Below.refl _ _).alloc (Nat.le_refl _) _)) _ _ _ _ [y[k]] rfl rfl (RC.new _ y[k] _) (by have := HM1.out; simp; omega) (by have := HD4.out.size; simp; omega) ?_; intro A5 n5 c5 w5 hn5 happ5; have HN5 := hid hn5; have HO5 := hid happ5.own; have HT5 : Hid (OwnT w5 w.heap.size A2 c2 U) := keep_T happ5.grown HN1.out (HP4.out.below ((Below.refl _ _).alloc (Nat.le_refl _) _)) (HQ4.out.below ((Below.refl _ _).alloc (Nat.le_refl _) _)); have HB5 := hid ((HD4.out.alloc HD4.out.size _).trans (happ5.below (HP4.out.below ((Below.refl _ _).alloc (Nat.le_refl _) _)) HN1.out (by have := HD4.out.size; simp; omega))); clear hn5 happ5))
        go_roundw
        case rel => exact ⟨k + 1, _, _, _, _, _, _, by omega, by go_num, rfl, rfl, (by rw [HP2.out]; exact HN5.out), (by rw [HQ2.out]; exact HN2.out), (by rw [HP2.out]; exact HO5.out), (by rw [HQ2.out]; exact HT5.out), HB5.out⟩
        case measure => simp [intOf]; omega
      · obtain ⟨hil, hie⟩ := (hasC_iff (risesC_pw.1 HSX.out) y[k].1).1 hh
        have HFI := hid (findC_at hil hie)
        obtain ⟨gx, ox, rfl, hgx, hx1, hx2, hx3⟩ := (HR.out.below HDA.out).at_ hil
        have e7 : (0 : Int) ≤ (cntC x y[k].1 : Int) := by omega
        have e8 : (cntC x y[k].1 : Int) < (x.length : Int) := by omega
        have hq := neqChg x[cntC x y[k].1] y[k]
        have HP2 : Hid (moreL x (y.take (k + 1)) = moreL x (y.take k)) := by rw [Hid, HS1.out, hh, if_pos rfl]
        have HCX : Hid (∀ wq : World, Below w.heap.size wr wq → True) := fun _ _ => trivial
        clear hie
        by_cases he : x[cntC x y[k].1] = y[k]
        · have h3 : decide (x[cntC x y[k].1] = y[k]) = true := by simp [he]
          have HQ2 : Hid (unlikeL x (y.take (k + 1)) = unlikeL x (y.take k)) := by rw [Hid, HS2.out, hh, HFI.out, h3, if_neg (by simp)]
          rw [h3] at hq
          clear h3 he
          go_wp2_with (first
            | (go_at_call 116; refine (placeC_any _ c x y[k].1 _ HRA.out (by omega) HSX.out).mono ?_; rw [hh]; rintro e w4 ⟨rfl, hb4⟩; have HB4 := hid hb4; have X4 := hid (X3.out.below hb4); have z0 := X4.out.c0; have z1 := X4.out.c1; have z2 := X4.out.c2; have HP4 := hid (HPA.out.below hb4); have HQ4 := hid (HQA.out.below hb4); have HD4 := hid (HDA.out.trans (hb4.mono HDA.out.size)); have y1 := (hb4.cell (p := ⟨gx, ox + cntC x y[k].1 * 3, none⟩) (by have := HD.out.size; simp; omega)).trans hx1; have y2 := (hb4.cell (p := ⟨gx, ox + cntC x y[k].1 * 3 + 1, none⟩) (by have := HD.out.size; simp; omega)).trans hx2; have y3 := (hb4.cell (p := ⟨gx, ox + cntC x y[k].1 * 3 + 2, none⟩) (by have := HD.out.size; simp; omega)).trans hx3; clear hb4))
          go_quiet (fail)
          go_wp2_with fail
          go_roundw
          case rel => exact ⟨k + 1, _, _, _, _, _, _, by omega, by go_num, rfl, rfl, (by rw [HP2.out]; exact HN1.out), (by rw [HQ2.out]; exact HN2.out), (by rw [HP2.out]; exact HP4.out), (by rw [HQ2.out]; exact HQ4.out), bdN HD4.out _⟩
          case measure => simp [intOf]; omega
        · have h3 : decide (x[cntC x y[k].1] = y[k]) = false := by simp [he]
          have HQ2 : Hid (unlikeL x (y.take (k + 1)) = unlikeL x (y.take k) ++ [y[k].1]) := by rw [Hid, HS2.out, hh, HFI.out, h3, if_pos (by simp)]
          rw [h3] at hq
          clear h3 he
          generalize moreL x (y.take k) = P at *
          generalize unlikeL x (y.take k) = U at *
          go_wp2_with (first
            | (go_at_call 116; refine (placeC_any _ c x y[k].1 _ HRA.out (by omega) HSX.out).mono ?_; rw [hh]; rintro e w4 ⟨rfl, hb4⟩; have HB4 := hid hb4; have X4 := hid (X3.out.below hb4); have z0 := X4.out.c0; have z1 := X4.out.c1; have z2 := X4.out.c2; have HP4 := hid (HPA.out.below hb4); have HQ4 := hid (HQA.out.below hb4); have HD4 := hid (HDA.out.trans (hb4.mono HDA.out.size)); have y1 := (hb4.cell (p := ⟨gx, ox + cntC x y[k].1 * 3, none⟩) (by have := HD.out.size; simp; omega)).trans hx1; have y2 := (hb4.cell (p := ⟨gx, ox + cntC x y[k].1 * 3 + 1, none⟩) (by have := HD.out.size; simp; omega)).trans hx2; have y3 := (hb4.cell (p := ⟨gx, ox + cntC x y[k].1 * 3 + 2, none⟩) (by have := HD.out.size; simp; omega)).trans hx3; clear hb4))
          go_quiet (fail)
          go_wp2_with (at_builtin; go_loud (refine wpList_append_rt _ rfl _ _ _ rfl j0 Try.underlying44 hj0 hy0 hy1 hy2 w.heap.size A2 n2 c2 U rfl HN2.out (HQ4.out.below (bdA _ _ _)) w4.heap.size 0 1 y[k].1 rfl (cell_txt (w4.drewN _) _ _) (by have := HM2.out; omega) (by have := HD4.out.size; simp; omega) ?_; intro A5 n5 c5 w5 hn5 happ5; have HN5 := hid hn5; have HO5 := hid happ5.own; have HC5 : Hid (OwnC w5 w.heap.size A1 c1 P) := keep_C happ5.grown HN2.out (HP4.out.below (bdA _ _ _)) (HQ4.out.below (bdA _ _ _)); have HB5 := hid (((bdN HD4.out _).alloc HD4.out.size _).trans (happ5.below (HQ4.out.below (bdA _ _ _)) HN2.out (by have := HD4.out.size; simp; omega))); clear hn5 happ5))
          go_roundw
          case rel => exact ⟨k + 1, _, _, _, _, _, _, by omega, by go_num, rfl, rfl, (by rw [HP2.out]; exact HN1.out), (by rw [HQ2.out]; exact HN5.out), (by rw [HP2.out]; exact HC5.out), (by rw [HQ2.out]; exact HO5.out), HB5.out⟩
          case measure => simp [intOf]; omega
    · obtain rfl : k = y.length := by omega
      rw [List.take_length] at HN1 HN2 HP HQ
      have en1 := HN1.out
      have en2 := HN2.out
      subst en1 en2
      go_wp2_with fail
      go_ret2
      exact ⟨A1, c1, A2, c2, rfl, HP.out, HQ.out, HD.out⟩
end Go.Proofs.Ytoipcjdpfbgghaa
