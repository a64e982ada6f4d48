/-
  Merged of both.
  Merged of both.
-/
import Derived.Test.YtoipcjdpfbgghabDeltaK
import Derived.Test.YtoipcjdpfbgghabDeltaC
import Derived.Test.YtoipcjdpfbgghabTxt
import Derived.OwnWalk
namespace Go.Proofs.Ytoipcjdpfbgghab
open Go.RowKit

def cv (x : CD) : Value := .agg #[.string x.1, .string x.2.1, .bool x.2.2]
set_option maxHeartbeats 2000000 in
theorem spec_l9Find (A : Option Addr) (c : Nat) (l : CS) (k : ByteArray) (w : World) (hr : RC w w.heap.size A l) (hn : l.length ≤ maxLen) :
    Calls Try.prog 45 #[.slice A l.length c, .string k] w fun e w' => e = .returned (.tuple #[.agg #[.string (findC l k).1, .string (findC l k).2.1, .bool (findC l k).2.2], .bool (hasC l k)]) ∧ Below w.heap.size w w' := by
  unfold maxLen at hn
  have HR := hid hr
  have h3 := Row3.lit w 62 (.string ⟨#[]⟩) (.string ⟨#[]⟩) (.bool false)
  have X := hid h3
  have HB := hid ((Below.refl w.heap.size w).alloc (Nat.le_refl _) (.cells #[.string ⟨#[]⟩, .string ⟨#[]⟩, .bool false] 62))
  clear hr h3
  go_enter Try.func45, Try.ntmps45
  go_wp2_with fail
  go_loopw [6] (fun i wr => ∃ j : Nat, j ≤ l.length ∧ i = .int .i64 j ∧ noneToC l k j ∧ wr = w.alloc (.cells #[.string ⟨#[]⟩, .string ⟨#[]⟩, .bool false] 62)) (fun i _ => l.length - (intOf i).toNat)
  case atStart => exact ⟨0, Nat.zero_le _, rfl, fun i h hi => absurd hi (by omega), rfl⟩
  case round =>
    obtain ⟨j, hj, rfl, hnt, rfl⟩ := hrel
    have x0 := X.out.c0
    have x1 := X.out.c1
    have x2 := X.out.c2
    have f0 := X.out.fz 0
    have f1 := X.out.fz 1
    have f2 := X.out.fz 2
    by_cases hlt : j < l.length
    · obtain ⟨b, off, rfl, hb, hc1, hc2, hc3⟩ := (HR.out.below HB.out).at_ hlt
      have HS := hid (noneToC_succ hnt hlt)
      have HV := hid (noneToC_val hnt hlt)
      clear hnt
      by_cases he : l[j].1 = k
      · have h1 := eqS_true he
        have HE := hid he
        clear he
        go_wp2_with fail
        clear x0 x1 x2 f0 f1 f2
        refine world_post (S := fun wq => Row3 wq w.heap.size 62 (.string l[j].1) (.string l[j].2.1) (.bool l[j].2.2) ∧ Below w.heap.size w wq) _
          ⟨Row3.lit w _ _ _ _, (Below.refl _ _).alloc (Nat.le_refl _) _⟩ ?_
        intro wq ⟨hq, hb⟩
        have q0 := hq.c0
        have q1 := hq.c1
        have q2 := hq.c2
        exact bodyPost_ret (v := .tuple #[.agg #[.string l[j].1, .string l[j].2.1, .bool l[j].2.2], .bool true]) (by simp [results, Try.results45, go_sem, q0, q1, q2]) rfl ⟨by rw [(HV.out HE.out).1, (HV.out HE.out).2], hb⟩
      · have h1 := eqS_false he
        have HE := hid he
        clear he
        go_wp2_with fail
        go_roundw
        case rel => exact ⟨j + 1, by omega, by go_num, HS.out HE.out, (by first | trivial | rfl)⟩
        case measure => simp [intOf]; omega
    · obtain rfl : j = l.length := by omega
      have HE := hid (noneToC_end hnt)
      clear hnt
      go_wp2_with fail
      clear x0 x1 x2 f0 f1 f2
      refine world_post (S := fun wq => Row3 wq w.heap.size 62 (.string ⟨#[]⟩) (.string ⟨#[]⟩) (.bool false) ∧ Below w.heap.size w wq) _
        ⟨Row3.lit w _ _ _ _, (Below.refl _ _).alloc (Nat.le_refl _) _⟩ ?_
      intro wq ⟨hq, hb⟩
      have q0 := hq.c0
      have q1 := hq.c1
      have q2 := hq.c2
      exact bodyPost_ret (v := .tuple #[.agg #[.string ⟨#[]⟩, .string ⟨#[]⟩, .bool false], .bool false]) (by simp [results, Try.results45, go_sem, q0, q1, q2]) rfl ⟨by rw [HE.out.1, HE.out.2], hb⟩

theorem findC_key {l : CS} {k : ByteArray} (h : hasC l k = true) : (findC l k).1 = k := by
  rw [hasC_any, List.any_eq_true] at h
  obtain ⟨p, hp, e⟩ := h
  cases hf : l.find? (fun p => decide (p.1 = k)) with
  | none => exact absurd (List.find?_eq_none.1 hf p hp) (by simpa using e)
  | some q =>
    have := List.find?_some hf
    simpa [findC, hf] using this
theorem moreL_small (x y : CS) (k : Nat) : (moreL x (y.take k)).length ≤ y.length := by
  have h2 := moreL_len x (y.take k)
  have h3 : (y.take k).length ≤ y.length := by rw [List.length_take]; omega
  omega
theorem unlikeL_small (x y : CS) (k : Nat) : (unlikeL x (y.take k)).length ≤ y.length := by
  have h2 := unlikeL_len x (y.take k)
  have h3 : (y.take k).length ≤ y.length := by rw [List.length_take]; omega
  omega
theorem cell_txt (w : World) (x : ByteArray) (T : TypeId) : (w.alloc (.cells #[.string x] T)).cell? ⟨w.heap.size, 0, none⟩ = some (.string x) := by
  rw [cell_of_row _ _ _ _ _ _ (heap_alloc_new w _)]; rfl
theorem keep_T {W w' : World} {B B2 n1 c1 c2 : Nat} {A1 A2 : Option Addr} {P : CS} {U : List ByteArray} (hg : W.grownBy w' (Value.ownBlock (.slice A1 n1 c1))) (hn : n1 = P.length) (hC : OwnC W B A1 c1 P) (hT : OwnT W B2 A2 c2 U) : OwnT w' B2 A2 c2 U := by
  subst hn
  exact hT.keepG hg (own_types (by decide) hT hC)
theorem keep_C {W w' : World} {B B2 n2 c1 c2 : Nat} {A1 A2 : Option Addr} {P : CS} {U : List ByteArray} (hg : W.grownBy w' (Value.ownBlock (.slice A2 n2 c2))) (hn : n2 = U.length) (hC : OwnC W B A1 c1 P) (hT : OwnT W B2 A2 c2 U) : OwnC w' B A1 c1 P := by
  subst hn
  exact hC.keepG hg (own_types (by decide) hC hT)
/-- What besides gives. -/
def Besides (w : World) (m : CS) (u : List ByteArray) (e : Ending) (w' : World) : Prop := ∃ A c T d, e = .returned (.tuple #[.slice A m.length c, .slice T u.length d]) ∧ OwnC w' w.heap.size A c m ∧ OwnT w' w.heap.size T d u ∧ Below w.heap.size w w'

set_option maxHeartbeats 4000000 in
set_option maxRecDepth 100000 in
theorem impl_besides (A : Option Addr) (c : Nat) (x : CS) (K : Option Addr) (d : Nat) (y : CS) (w : World) (hr : RC w w.heap.size A x) (hk : RC w w.heap.size K y) (hx : x.length ≤ 900) (hy : y.length ≤ 900) (sx : risesC x = true) :
    Calls Try.prog 43 #[.slice A x.length c, .slice K y.length d] w (Besides w (moreL x y) (unlikeL x y)) := by
  obtain ⟨i0, hi0, hz0, hz1, hz2⟩ := info_parts chgInfo
  obtain ⟨j0, hj0, hy0, hy1, hy2⟩ := info_parts textInfo
  have HR := hid hr
  have HK := hid hk
  have HSX := hid sx
  clear hr hk sx
  have hm := chgGuard
  go_enter Try.func43, Try.ntmps43
  go_wp2_with fail
  go_loopw [6, 7, 14] (fun p q i wr => ∃ (k n1 n2 : Nat) (A1 A2 : Option Addr) (c1 c2 : Nat), k ≤ y.length ∧ i = .int .i64 k ∧ p = .slice A1 n1 c1 ∧ q = .slice A2 n2 c2 ∧ Hid (n1 = (moreL x (y.take k)).length) ∧ Hid (n2 = (unlikeL x (y.take k)).length) ∧ Hid (OwnC wr w.heap.size A1 c1 (moreL x (y.take k))) ∧ Hid (OwnT wr w.heap.size A2 c2 (unlikeL x (y.take k))) ∧ Hid (Below w.heap.size w wr)) (fun _ _ i _ => y.length - (intOf i).toNat)
  case atStart => exact ⟨0, 0, 0, _, _, _, _, Nat.zero_le _, rfl, rfl, rfl, rfl, rfl, OwnC.nil_ _ _, OwnT.nil_ _ _, Below.refl _ _⟩
  case round =>
    obtain ⟨k, n1, n2, A1, A2, c1, c2, hk, rfl, rfl, rfl, HN1, HN2, HP, HQ, HD⟩ := hrel
    by_cases hlt : k < y.length
    · obtain ⟨g, off, rfl, hgb, hc1, hc2, hc3⟩ := (HK.out.below HD.out).at_ hlt
      have HS1 := hid (moreL_succ x hlt)
      have HS2 := hid (unlikeL_succ x hlt)
      have HM1 := hid (moreL_small x y k)
      have HM2 := hid (unlikeL_small x y k)
      have hba := (Below.refl wr.heap.size wr).alloc (Nat.le_refl _) (.cells #[.string y[k].1, .string y[k].2.1, .bool y[k].2.2] 62)
      have HDA := hid (HD.out.trans (hba.mono HD.out.size))
      have HRA := hid ((HR.out.below HDA.out).more HDA.out.size)
      have HPA := hid (HP.out.below hba)
      have HQA := hid (HQ.out.below hba)
      have X3 := hid (Row3.lit wr 62 (.string y[k].1) (.string y[k].2.1) (.bool y[k].2.2))
      have e5 : (0 : Int) ≤ (k : Int) := by omega
      have e6 : (k : Int) < (y.length : Int) := by omega
      clear hba
      cases hh : hasC x y[k].1
      · have HP2 : Hid (moreL x (y.take (k + 1)) = moreL x (y.take k) ++ [y[k]]) := by rw [Hid, HS1.out, hh, if_neg (by simp)]
        have HQ2 : Hid (unlikeL x (y.take (k + 1)) = unlikeL x (y.take k)) := by rw [Hid, HS2.out, hh, if_neg (by simp)]
        generalize moreL x (y.take k) = P at *
        generalize unlikeL x (y.take k) = U at *
        go_wp2_with (first
          | (go_at_call 63; refine (placeC_any A c x y[k].1 _ HRA.out (by omega) HSX.out).mono ?_; rw [hh]; rintro e w4 ⟨rfl, hb4⟩; have HB4 := hid hb4; have X4 := hid (X3.out.below hb4); have z0 := X4.out.c0; have z1 := X4.out.c1; have z2 := X4.out.c2; have HP4 := hid (HPA.out.below hb4); have HQ4 := hid (HQA.out.below hb4); have HD4 := hid (HDA.out.trans (hb4.mono HDA.out.size)); clear hb4)
          | (at_builtin; refine wpList_append_rc _ rfl _ _ _ rfl i0 Try.underlying27 hi0 hz0 hz1 hz2 w.heap.size A1 n1 c1 P rfl HN1.out (HP4.out.below ((Below.refl _ _).alloc (Nat.le_refl _) _)) _ _ _ _ [y[k]] rfl rfl (RC.new _ y[k] _) (by have := HM1.out; simp; omega) (by have := HD4.out.size; simp; omega) ?_; intro A5 n5 c5 w5 hn5 happ5; have HN5 := hid hn5; have HO5 := hid happ5.own; have HT5 : Hid (OwnT w5 w.heap.size A2 c2 U) := keep_T happ5.grown HN1.out (HP4.out.below ((Below.refl _ _).alloc (Nat.le_refl _) _)) (HQ4.out.below ((Below.refl _ _).alloc (Nat.le_refl _) _)); have HB5 := hid ((HD4.out.alloc HD4.out.size _).trans (happ5.below (HP4.out.below ((Below.refl _ _).alloc (Nat.le_refl _) _)) HN1.out (by have := HD4.out.size; simp; omega))); clear hn5 happ5))
        go_roundw
        case rel => exact ⟨k + 1, _, _, _, _, _, _, by omega, by go_num, rfl, rfl, (by rw [HP2.out]; exact HN5.out), (by rw [HQ2.out]; exact HN2.out), (by rw [HP2.out]; exact HO5.out), (by rw [HQ2.out]; exact HT5.out), HB5.out⟩
        case measure => simp [intOf]; omega
      · obtain ⟨hil, hie⟩ := (hasC_iff (risesC_pw.1 HSX.out) y[k].1).1 hh
        have HFI := hid (findC_at hil hie)
        obtain ⟨gx, ox, rfl, hgx, hx1, hx2, hx3⟩ := (HR.out.below HDA.out).at_ hil
        have e7 : (0 : Int) ≤ (cntC x y[k].1 : Int) := by omega
        have e8 : (cntC x y[k].1 : Int) < (x.length : Int) := by omega
        have hq := neqChg x[cntC x y[k].1] y[k]
        have HP2 : Hid (moreL x (y.take (k + 1)) = moreL x (y.take k)) := by rw [Hid, HS1.out, hh, if_pos rfl]
        have HCX : Hid (∀ wq : World, Below w.heap.size wr wq → True) := fun _ _ => trivial
        clear hie
        by_cases he : x[cntC x y[k].1] = y[k]
        · have h3 : decide (x[cntC x y[k].1] = y[k]) = true := by simp [he]
          have HQ2 : Hid (unlikeL x (y.take (k + 1)) = unlikeL x (y.take k)) := by rw [Hid, HS2.out, hh, HFI.out, h3, if_neg (by simp)]
          rw [h3] at hq
          clear h3 he
          go_wp2_with (first
            | (go_at_call 63; refine (placeC_any _ c x y[k].1 _ HRA.out (by omega) HSX.out).mono ?_; rw [hh]; rintro e w4 ⟨rfl, hb4⟩; have HB4 := hid hb4; have X4 := hid (X3.out.below hb4); have z0 := X4.out.c0; have z1 := X4.out.c1; have z2 := X4.out.c2; have HP4 := hid (HPA.out.below hb4); have HQ4 := hid (HQA.out.below hb4); have HD4 := hid (HDA.out.trans (hb4.mono HDA.out.size)); have y1 := (hb4.cell (p := ⟨gx, ox + cntC x y[k].1 * 3, none⟩) (by have := HD.out.size; simp; omega)).trans hx1; have y2 := (hb4.cell (p := ⟨gx, ox + cntC x y[k].1 * 3 + 1, none⟩) (by have := HD.out.size; simp; omega)).trans hx2; have y3 := (hb4.cell (p := ⟨gx, ox + cntC x y[k].1 * 3 + 2, none⟩) (by have := HD.out.size; simp; omega)).trans hx3; clear hb4))
          go_quiet (fail)
          go_wp2_with fail
          go_roundw
          case rel => exact ⟨k + 1, _, _, _, _, _, _, by omega, by go_num, rfl, rfl, (by rw [HP2.out]; exact HN1.out), (by rw [HQ2.out]; exact HN2.out), (by rw [HP2.out]; exact HP4.out), (by rw [HQ2.out]; exact HQ4.out), bdN HD4.out _⟩
          case measure => simp [intOf]; omega
        · have h3 : decide (x[cntC x y[k].1] = y[k]) = false := by simp [he]
          have HQ2 : Hid (unlikeL x (y.take (k + 1)) = unlikeL x (y.take k) ++ [y[k].1]) := by rw [Hid, HS2.out, hh, HFI.out, h3, if_pos (by simp)]
          rw [h3] at hq
          clear h3 he
          generalize moreL x (y.take k) = P at *
          generalize unlikeL x (y.take k) = U at *
          go_wp2_with (first
            | (go_at_call 63; refine (placeC_any _ c x y[k].1 _ HRA.out (by omega) HSX.out).mono ?_; rw [hh]; rintro e w4 ⟨rfl, hb4⟩; have HB4 := hid hb4; have X4 := hid (X3.out.below hb4); have z0 := X4.out.c0; have z1 := X4.out.c1; have z2 := X4.out.c2; have HP4 := hid (HPA.out.below hb4); have HQ4 := hid (HQA.out.below hb4); have HD4 := hid (HDA.out.trans (hb4.mono HDA.out.size)); have y1 := (hb4.cell (p := ⟨gx, ox + cntC x y[k].1 * 3, none⟩) (by have := HD.out.size; simp; omega)).trans hx1; have y2 := (hb4.cell (p := ⟨gx, ox + cntC x y[k].1 * 3 + 1, none⟩) (by have := HD.out.size; simp; omega)).trans hx2; have y3 := (hb4.cell (p := ⟨gx, ox + cntC x y[k].1 * 3 + 2, none⟩) (by have := HD.out.size; simp; omega)).trans hx3; clear hb4))
          go_quiet (fail)
          go_wp2_with (at_builtin; refine wpList_append_rt _ rfl _ _ _ rfl j0 Try.underlying43 hj0 hy0 hy1 hy2 w.heap.size A2 n2 c2 U rfl HN2.out (HQ4.out.below (bdA _ _ _)) w4.heap.size 0 1 y[k].1 rfl (cell_txt (w4.drewN _) _ _) (by have := HM2.out; omega) (by have := HD4.out.size; simp; omega) ?_; intro A5 n5 c5 w5 hn5 happ5; have HN5 := hid hn5; have HO5 := hid happ5.own; have HC5 : Hid (OwnC w5 w.heap.size A1 c1 P) := keep_C happ5.grown HN2.out (HP4.out.below (bdA _ _ _)) (HQ4.out.below (bdA _ _ _)); have HB5 := hid (((bdN HD4.out _).alloc HD4.out.size _).trans (happ5.below (HQ4.out.below (bdA _ _ _)) HN2.out (by have := HD4.out.size; simp; omega))); clear hn5 happ5)
          go_roundw
          case rel => exact ⟨k + 1, _, _, _, _, _, _, by omega, by go_num, rfl, rfl, (by rw [HP2.out]; exact HN1.out), (by rw [HQ2.out]; exact HN5.out), (by rw [HP2.out]; exact HC5.out), (by rw [HQ2.out]; exact HO5.out), HB5.out⟩
          case measure => simp [intOf]; omega
    · obtain rfl : k = y.length := by omega
      rw [List.take_length] at HN1 HN2 HP HQ
      have en1 := HN1.out
      have en2 := HN2.out
      subst en1 en2
      go_wp2_with fail
      go_ret2
      exact ⟨A1, c1, A2, c2, rfl, HP.out, HQ.out, HD.out⟩
end Go.Proofs.Ytoipcjdpfbgghab
namespace Go.Proofs.Ytoipcjdpfbgghab
open Go.RowKit

def mergeR (m a b : PS) : PS := if mergeB m a b then mergeL m a b else []
def mergeT (m a b : PS) : List ByteArray := if mergeB m a b then mergeU m a b else []
def MadeM (w : World) (L : PS) (U : List ByteArray) (b : Bool) (e : Ending) (w' : World) : Prop := ∃ A c T d, e = .returned (.tuple #[.slice A L.length c, .slice T U.length d, .bool b]) ∧ OwnP w' w.heap.size A c L ∧ OwnT w' w.heap.size T d U ∧ Below w.heap.size w w'
theorem MadeM.no {w w' : World} {m a b : PS} (hb : mergeB m a b = false) (h : Below w.heap.size w w') : MadeM w (mergeR m a b) (mergeT m a b) (mergeB m a b) (.returned (.tuple #[.slice none 0 0, .slice none 0 0, .bool false])) w' := by
  have h1 : mergeR m a b = [] := by simp [mergeR, hb]
  have h2 : mergeT m a b = [] := by simp [mergeT, hb]
  rw [h1, h2, hb]
  exact ⟨none, 0, none, 0, rfl, OwnP.nil_ _ _, OwnT.nil_ _ _, h⟩
theorem MadeM.yes {w w' : World} {m a b : PS} {A T : Option Addr} {c d : Nat} (hb : mergeB m a b = true) (ho : OwnP w' w.heap.size A c (mergeL m a b)) (ht : OwnT w' w.heap.size T d (mergeU m a b)) (h : Below w.heap.size w w') : MadeM w (mergeR m a b) (mergeT m a b) (mergeB m a b) (.returned (.tuple #[.slice A (mergeL m a b).length c, .slice T (mergeU m a b).length d, .bool true])) w' := by
  have h1 : mergeR m a b = mergeL m a b := by simp [mergeR, hb]
  have h2 : mergeT m a b = mergeU m a b := by simp [mergeT, hb]
  rw [h1, h2, hb]
  exact ⟨A, c, T, d, rfl, ho, ht, h⟩
theorem mergeB_m {m a b : PS} (h : mapB m = false) : mergeB m a b = false := by simp [mergeB, h]
theorem mergeB_a {m a b : PS} (h : mapB a = false) : mergeB m a b = false := by simp [mergeB, h]
theorem mergeB_b {m a b : PS} (h : mapB b = false) : mergeB m a b = false := by simp [mergeB, h]
theorem mergeB_n {m a b : PS} (h : ¬ (mergeL m a b).length ≤ 60) : mergeB m a b = false := by simp [mergeB, h]
theorem mergeB_y {m a b : PS} (h1 : mapB m = true) (h2 : mapB a = true) (h3 : mapB b = true) (h : (mergeL m a b).length ≤ 60) : mergeB m a b = true := by simp [mergeB, h1, h2, h3, h]
theorem more_delta {m a b : PS} (h1 : mapB m = true) (h3 : mapB b = true) : (moreL (deltaL m a) (deltaL m b)).length ≤ 120 := Nat.le_trans (moreL_len _ _) (len_delta h1 h3)
theorem fits_merge {m a b : PS} (h1 : mapB m = true) (h2 : mapB a = true) (h3 : mapB b = true) : Fits (mergeL m a b) := by
  intro p hp
  have := applyL_right (mapB_iff.1 h2).2.1 (fun x hx => deltaL_right h1 h3 x (List.mem_filter.1 hx).1) p hp
  simp only [pairB, Bool.and_eq_true] at this
  have a := keyB_small this.1
  have b := keyB_small this.2
  unfold maxLen
  omega
theorem len_merge {m a b : PS} (h1 : mapB m = true) (h2 : mapB a = true) (h3 : mapB b = true) : (mergeL m a b).length ≤ 180 := by
  have := applyL_len a (moreL (deltaL m a) (deltaL m b))
  have := more_delta (a := a) h1 h3
  have := (mapB_iff.1 h2).1
  unfold mergeL
  omega
theorem cell_txt2 (w : World) (o : Obj) (n : Nat) (x : ByteArray) (T : TypeId) : (((w.alloc o).drewN n).alloc (.cells #[.string x] T)).cell? ⟨w.heap.size + 1, 0, none⟩ = some (.string x) := by
  have h := cell_txt ((w.alloc o).drewN n) x T
  rwa [show ((w.alloc o).drewN n).heap.size = w.heap.size + 1 from World.size_alloc w o] at h
theorem bdB (wr : World) (n : Nat) (o : Obj) : Below wr.heap.size wr ((wr.alloc o).drewN n) := bdN ((Below.refl _ wr).alloc (Nat.le_refl _) o) n
theorem bdC (wr : World) (n : Nat) (o o' : Obj) : Below wr.heap.size wr (((wr.alloc o).drewN n).alloc o') := (bdB wr n o).alloc (by simp) o'
theorem keep_P {W w' : World} {B B2 n2 c1 c2 : Nat} {A1 A2 : Option Addr} {P : PS} {U : List ByteArray} (hg : W.grownBy w' (Value.ownBlock (.slice A2 n2 c2))) (hn : n2 = U.length) (hC : OwnP W B A1 c1 P) (hT : OwnT W B2 A2 c2 U) : OwnP w' B A1 c1 P := by
  subst hn
  exact hC.keepG hg (own_types (by decide) hC hT)
theorem small_step (a : PS) (X Y : CS) (k : Nat) : (applyL a (moreL X (Y.take k))).length ≤ a.length + Y.length := by
  have := applyL_len a (moreL X (Y.take k))
  have := moreL_small X Y k
  omega

set_option maxHeartbeats 4000000 in
set_option maxRecDepth 100000 in
theorem impl_Merged (A : Option Addr) (c : Nat) (m : PS) (A1 : Option Addr) (c1 : Nat) (a : PS) (A2 : Option Addr) (c2 : Nat) (b : PS) (w : World) (hm : RP w w.heap.size A m) (fm : Fits m) (nm : m.length ≤ maxLen) (ha : RP w w.heap.size A1 a) (fa : Fits a) (na : a.length ≤ maxLen) (hb : RP w w.heap.size A2 b) (fb : Fits b) (nb : b.length ≤ maxLen) (va : VS A1 c1 a.length) :
    Calls Try.prog 23 #[.slice A m.length c, .slice A1 a.length c1, .slice A2 b.length c2] w (MadeM w (mergeR m a b) (mergeT m a b) (mergeB m a b)) := by
  have VA := hid va
  clear va
  have HM := hid hm
  have HA := hid ha
  have HQ := hid hb
  have FM := hid fm
  have FA := hid fa
  have FB := hid fb
  have NM := hid nm
  have NA := hid na
  have NB := hid nb
  clear hm ha hb fm fa fb nm na nb
  cases h1 : mapB m
  · have HB : Hid (mergeB m a b = false) := mergeB_m h1
    go_enter Try.func23, Try.ntmps23
    go_wp2_with (first
      | (go_at_call 33; (with_reducible refine (impl_MapOk A c m _ HM.out FM.out NM.out).mono ?_); rintro e w2 ⟨rfl, hw2⟩; have HB2 := hid hw2; clear hw2; have tk2 : Hid (1 = 1) := rfl))
    go_ret3
    exact MadeM.no HB.out HB2.out
  cases h2 : mapB a
  · have HB : Hid (mergeB m a b = false) := mergeB_a h2
    go_enter Try.func23, Try.ntmps23
    go_wp2_with (first
      | (go_at_call 33; (with_reducible refine (impl_MapOk A c m _ HM.out FM.out NM.out).mono ?_); rintro e w2 ⟨rfl, hw2⟩; have HB2 := hid hw2; clear hw2; have tk2 : Hid (1 = 1) := rfl)
      | (go_at_call 33; clear tk2; (with_reducible refine (impl_MapOk A1 c1 a _ ((HA.out.below HB2.out).more HB2.out.size) FA.out NA.out).mono ?_); rintro e w3 ⟨rfl, hw3⟩; have HB3 := hid (HB2.out.trans (hw3.mono HB2.out.size)); clear hw3; have tk3 : Hid (1 = 1) := rfl))
    go_ret3
    exact MadeM.no HB.out HB3.out
  cases h3 : mapB b
  · have HB : Hid (mergeB m a b = false) := mergeB_b h3
    go_enter Try.func23, Try.ntmps23
    go_wp2_with (first
      | (go_at_call 33; (with_reducible refine (impl_MapOk A c m _ HM.out FM.out NM.out).mono ?_); rintro e w2 ⟨rfl, hw2⟩; have HB2 := hid hw2; clear hw2; have tk2 : Hid (1 = 1) := rfl)
      | (go_at_call 33; clear tk2; (with_reducible refine (impl_MapOk A1 c1 a _ ((HA.out.below HB2.out).more HB2.out.size) FA.out NA.out).mono ?_); rintro e w3 ⟨rfl, hw3⟩; have HB3 := hid (HB2.out.trans (hw3.mono HB2.out.size)); clear hw3; have tk3 : Hid (1 = 1) := rfl)
      | (go_at_call 33; clear tk3; (with_reducible refine (impl_MapOk A2 c2 b _ ((HQ.out.below HB3.out).more HB3.out.size) FB.out NB.out).mono ?_); rintro e w4 ⟨rfl, hw4⟩; have HB4 := hid (HB3.out.trans (hw4.mono HB3.out.size)); clear hw4; have tk4 : Hid (1 = 1) := rfl))
    go_ret3
    exact MadeM.no HB.out HB4.out
  have hm60 := (mapB_iff.1 h1).1
  have ha60 := (mapB_iff.1 h2).1
  have hb60 := (mapB_iff.1 h3).1
  have SM := hid (mapB_iff.1 h1).2.2
  have SA := hid (mapB_iff.1 h2).2.2
  have SB := hid (mapB_iff.1 h3).2.2
  have LX := hid (len_delta h1 h2)
  have LY := hid (len_delta h1 h3)
  have SX := hid (risesC_pw.2 (deltaL_rises (mapB_iff.1 h1).2.2 (mapB_iff.1 h2).2.2))
  have LM := hid (more_delta (a := a) h1 h3)
  have LL := hid (len_merge h1 h2 h3)
  by_cases h4 : (mergeL m a b).length ≤ 60
  · have HB := hid (mergeB_y h1 h2 h3 h4)
    go_enter Try.func23, Try.ntmps23
    go_wp2_with (first
      | (go_at_call 33; (with_reducible refine (impl_MapOk A c m _ HM.out FM.out NM.out).mono ?_); rintro e w2 ⟨rfl, hw2⟩; have HB2 := hid hw2; clear hw2; have tk2 : Hid (1 = 1) := rfl)
      | (go_at_call 33; clear tk2; (with_reducible refine (impl_MapOk A1 c1 a _ ((HA.out.below HB2.out).more HB2.out.size) FA.out NA.out).mono ?_); rintro e w3 ⟨rfl, hw3⟩; have HB3 := hid (HB2.out.trans (hw3.mono HB2.out.size)); clear hw3; have tk3 : Hid (1 = 1) := rfl)
      | (go_at_call 33; clear tk3; (with_reducible refine (impl_MapOk A2 c2 b _ ((HQ.out.below HB3.out).more HB3.out.size) FB.out NB.out).mono ?_); rintro e w4 ⟨rfl, hw4⟩; have HB4 := hid (HB3.out.trans (hw4.mono HB3.out.size)); clear hw4; have tk4 : Hid (1 = 1) := rfl)
      | (go_at_call 34; clear tk4; (with_reducible refine (impl_deltaBetween A c m A1 c1 a _ ((HM.out.below HB4.out).more HB4.out.size) ((HA.out.below HB4.out).more HB4.out.size) (by omega) (by omega) SM.out SA.out).mono ?_); rintro e w5 ⟨A5, c5, rfl, ho5, hb5⟩; have HO5 := hid ho5; have HB5 := hid (HB4.out.trans (hb5.mono HB4.out.size)); clear ho5 hb5; have tk5 : Hid (1 = 1) := rfl)
      | (go_at_call 34; clear tk5; (with_reducible refine (impl_deltaBetween A c m A2 c2 b _ ((HM.out.below HB5.out).more HB5.out.size) ((HQ.out.below HB5.out).more HB5.out.size) (by omega) (by omega) SM.out SB.out).mono ?_); rintro e w6 ⟨A6, c6, rfl, ho6, hb6⟩; have HO6 := hid ho6; have HX6 := hid (HO5.out.below hb6); have HB6 := hid (HB5.out.trans (hb6.mono HB5.out.size)); clear ho6 hb6)
      | (go_at_call 43; refine (impl_besides A5 c5 (deltaL m a) A6 c6 (deltaL m b) _ (OwnC.rh HX6.out) (OwnC.rh HO6.out) (by have := LX.out; omega) (by have := LY.out; omega) SX.out).mono ?_; rintro e w7 ⟨A7, c7, T7, d7, rfl, ho7, ht7, hb7⟩; have HO7 := hid ho7; have HT7 := hid (ht7.mono HB6.out.size); have HB7 := hid (HB6.out.trans (hb7.mono HB6.out.size)); clear ho7 ht7 hb7)
      | (go_at_call 41; refine (impl_mapBehind A1 c1 a A7 c7 (moreL (deltaL m a) (deltaL m b)) _ ((HA.out.below HB7.out).more HB7.out.size) VA.out (OwnC.rh HO7.out) SA.out (by omega) (by have := LM.out; omega)).mono ?_; rintro e w8 ⟨A8, c8, rfl, ho8, hb8⟩; have HO8 := hid (show OwnP w8 w.heap.size A8 c8 (mergeL m a b) from ho8.mono HB7.out.size); have HT8 := hid (show OwnT w8 w.heap.size T7 d7 (mergeU m a b) from HT7.out.below hb8); have HB8 := hid (HB7.out.trans (hb8.mono HB7.out.size)); clear ho8 hb8; have hlen : applyL a (moreL (deltaL m a) (deltaL m b)) = mergeL m a b := rfl; rw [hlen]; clear hlen))
    go_ret3
    exact MadeM.yes HB.out HO8.out HT8.out HB8.out
  · have HB : Hid (mergeB m a b = false) := mergeB_n h4
    go_enter Try.func23, Try.ntmps23
    go_wp2_with (first
      | (go_at_call 33; (with_reducible refine (impl_MapOk A c m _ HM.out FM.out NM.out).mono ?_); rintro e w2 ⟨rfl, hw2⟩; have HB2 := hid hw2; clear hw2; have tk2 : Hid (1 = 1) := rfl)
      | (go_at_call 33; clear tk2; (with_reducible refine (impl_MapOk A1 c1 a _ ((HA.out.below HB2.out).more HB2.out.size) FA.out NA.out).mono ?_); rintro e w3 ⟨rfl, hw3⟩; have HB3 := hid (HB2.out.trans (hw3.mono HB2.out.size)); clear hw3; have tk3 : Hid (1 = 1) := rfl)
      | (go_at_call 33; clear tk3; (with_reducible refine (impl_MapOk A2 c2 b _ ((HQ.out.below HB3.out).more HB3.out.size) FB.out NB.out).mono ?_); rintro e w4 ⟨rfl, hw4⟩; have HB4 := hid (HB3.out.trans (hw4.mono HB3.out.size)); clear hw4; have tk4 : Hid (1 = 1) := rfl)
      | (go_at_call 34; clear tk4; (with_reducible refine (impl_deltaBetween A c m A1 c1 a _ ((HM.out.below HB4.out).more HB4.out.size) ((HA.out.below HB4.out).more HB4.out.size) (by omega) (by omega) SM.out SA.out).mono ?_); rintro e w5 ⟨A5, c5, rfl, ho5, hb5⟩; have HO5 := hid ho5; have HB5 := hid (HB4.out.trans (hb5.mono HB4.out.size)); clear ho5 hb5; have tk5 : Hid (1 = 1) := rfl)
      | (go_at_call 34; clear tk5; (with_reducible refine (impl_deltaBetween A c m A2 c2 b _ ((HM.out.below HB5.out).more HB5.out.size) ((HQ.out.below HB5.out).more HB5.out.size) (by omega) (by omega) SM.out SB.out).mono ?_); rintro e w6 ⟨A6, c6, rfl, ho6, hb6⟩; have HO6 := hid ho6; have HX6 := hid (HO5.out.below hb6); have HB6 := hid (HB5.out.trans (hb6.mono HB5.out.size)); clear ho6 hb6)
      | (go_at_call 43; refine (impl_besides A5 c5 (deltaL m a) A6 c6 (deltaL m b) _ (OwnC.rh HX6.out) (OwnC.rh HO6.out) (by have := LX.out; omega) (by have := LY.out; omega) SX.out).mono ?_; rintro e w7 ⟨A7, c7, T7, d7, rfl, ho7, ht7, hb7⟩; have HO7 := hid ho7; have HT7 := hid (ht7.mono HB6.out.size); have HB7 := hid (HB6.out.trans (hb7.mono HB6.out.size)); clear ho7 ht7 hb7)
      | (go_at_call 41; refine (impl_mapBehind A1 c1 a A7 c7 (moreL (deltaL m a) (deltaL m b)) _ ((HA.out.below HB7.out).more HB7.out.size) VA.out (OwnC.rh HO7.out) SA.out (by omega) (by have := LM.out; omega)).mono ?_; rintro e w8 ⟨A8, c8, rfl, ho8, hb8⟩; have HO8 := hid (show OwnP w8 w.heap.size A8 c8 (mergeL m a b) from ho8.mono HB7.out.size); have HT8 := hid (show OwnT w8 w.heap.size T7 d7 (mergeU m a b) from HT7.out.below hb8); have HB8 := hid (HB7.out.trans (hb8.mono HB7.out.size)); clear ho8 hb8; have hlen : applyL a (moreL (deltaL m a) (deltaL m b)) = mergeL m a b := rfl; rw [hlen]; clear hlen))
    go_ret3
    exact MadeM.no HB.out HB8.out

set_option maxHeartbeats 4000000 in
set_option maxRecDepth 100000 in
theorem spec_Merged (A : Option Addr) (c : Nat) (m : PS) (A1 : Option Addr) (c1 : Nat) (a : PS) (A2 : Option Addr) (c2 : Nat) (b : PS) (w : World) (hm : RP w w.heap.size A m) (fm : Fits m) (nm : m.length ≤ maxLen) (ha : RP w w.heap.size A1 a) (fa : Fits a) (na : a.length ≤ maxLen) (hb : RP w w.heap.size A2 b) (fb : Fits b) (nb : b.length ≤ maxLen) :
    Calls Try.prog 24 #[.slice A m.length c, .slice A1 a.length c1, .slice A2 b.length c2] w (MadeM w (mergeR m a b) (mergeT m a b) (mergeB m a b)) := by
  obtain ⟨j0, hj0, hy0, hy1, hy2⟩ := info_parts textInfo
  have hgd := chgGuard
  have HM := hid hm
  have HA := hid ha
  have HQ := hid hb
  have FM := hid fm
  have FA := hid fa
  have FB := hid fb
  have NM := hid nm
  have NA := hid na
  have NB := hid nb
  clear hm ha hb fm fa fb nm na nb
  cases h1 : mapB m
  · have HB : Hid (mergeB m a b = false) := mergeB_m h1
    go_enter Try.func24, Try.ntmps24
    go_wp2_with (first
      | (go_at_call 35; (with_reducible refine (spec_MapOk A c m _ _ HM.out FM.out NM.out).mono ?_); rintro e w2 ⟨rfl, hw2⟩; have HB2 := hid (hw2.below w.heap.size); clear hw2; have tk2 : Hid (1 = 1) := rfl))
    go_ret3
    exact MadeM.no HB.out HB2.out
  cases h2 : mapB a
  · have HB : Hid (mergeB m a b = false) := mergeB_a h2
    go_enter Try.func24, Try.ntmps24
    go_wp2_with (first
      | (go_at_call 35; (with_reducible refine (spec_MapOk A c m _ _ HM.out FM.out NM.out).mono ?_); rintro e w2 ⟨rfl, hw2⟩; have HB2 := hid (hw2.below w.heap.size); clear hw2; have tk2 : Hid (1 = 1) := rfl)
      | (go_at_call 35; clear tk2; (with_reducible refine (spec_MapOk A1 c1 a _ _ ((HA.out.below HB2.out).more HB2.out.size) FA.out NA.out).mono ?_); rintro e w3 ⟨rfl, hw3⟩; have HB3 := hid (HB2.out.trans (hw3.below _)); clear hw3; have tk3 : Hid (1 = 1) := rfl))
    go_ret3
    exact MadeM.no HB.out HB3.out
  cases h3 : mapB b
  · have HB : Hid (mergeB m a b = false) := mergeB_b h3
    go_enter Try.func24, Try.ntmps24
    go_wp2_with (first
      | (go_at_call 35; (with_reducible refine (spec_MapOk A c m _ _ HM.out FM.out NM.out).mono ?_); rintro e w2 ⟨rfl, hw2⟩; have HB2 := hid (hw2.below w.heap.size); clear hw2; have tk2 : Hid (1 = 1) := rfl)
      | (go_at_call 35; clear tk2; (with_reducible refine (spec_MapOk A1 c1 a _ _ ((HA.out.below HB2.out).more HB2.out.size) FA.out NA.out).mono ?_); rintro e w3 ⟨rfl, hw3⟩; have HB3 := hid (HB2.out.trans (hw3.below _)); clear hw3; have tk3 : Hid (1 = 1) := rfl)
      | (go_at_call 35; clear tk3; (with_reducible refine (spec_MapOk A2 c2 b _ _ ((HQ.out.below HB3.out).more HB3.out.size) FB.out NB.out).mono ?_); rintro e w4 ⟨rfl, hw4⟩; have HB4 := hid (HB3.out.trans (hw4.below _)); clear hw4; have tk4 : Hid (1 = 1) := rfl))
    go_ret3
    exact MadeM.no HB.out HB4.out
  have hm60 := (mapB_iff.1 h1).1
  have ha60 := (mapB_iff.1 h2).1
  have hb60 := (mapB_iff.1 h3).1
  have SM := hid (mapB_iff.1 h1).2.2
  have SA := hid (mapB_iff.1 h2).2.2
  have SB := hid (mapB_iff.1 h3).2.2
  have LX := hid (len_delta h1 h2)
  have LY := hid (len_delta h1 h3)
  have LL := hid (len_merge h1 h2 h3)
  have FL := hid (fits_merge h1 h2 h3)
  have HOK := hid (mergeL_ok h1 h2 h3)
  go_enter Try.func24, Try.ntmps24
  go_wp2_with (first
    | (go_at_call 35; (with_reducible refine (spec_MapOk A c m _ _ HM.out FM.out NM.out).mono ?_); rintro e w2 ⟨rfl, hw2⟩; have HB2 := hid (hw2.below w.heap.size); clear hw2; have tk2 : Hid (1 = 1) := rfl)
    | (go_at_call 35; clear tk2; (with_reducible refine (spec_MapOk A1 c1 a _ _ ((HA.out.below HB2.out).more HB2.out.size) FA.out NA.out).mono ?_); rintro e w3 ⟨rfl, hw3⟩; have HB3 := hid (HB2.out.trans (hw3.below _)); clear hw3; have tk3 : Hid (1 = 1) := rfl)
    | (go_at_call 35; clear tk3; (with_reducible refine (spec_MapOk A2 c2 b _ _ ((HQ.out.below HB3.out).more HB3.out.size) FB.out NB.out).mono ?_); rintro e w4 ⟨rfl, hw4⟩; have HB4 := hid (HB3.out.trans (hw4.below _)); clear hw4; have tk4 : Hid (1 = 1) := rfl)
    | (go_at_call 36; clear tk4; (with_reducible refine (spec_l9Of A c m A1 c1 a _ ((HM.out.below HB4.out).more HB4.out.size) ((HA.out.below HB4.out).more HB4.out.size) (by omega) (by omega) SM.out SA.out).mono ?_); rintro e w5 ⟨A5, c5, rfl, ho5, hb5⟩; have HO5 := hid ho5; have HB5 := hid (HB4.out.trans (hb5.mono HB4.out.size)); clear ho5 hb5; have tk5 : Hid (1 = 1) := rfl)
    | (go_at_call 36; clear tk5; (with_reducible refine (spec_l9Of A c m A2 c2 b _ ((HM.out.below HB5.out).more HB5.out.size) ((HQ.out.below HB5.out).more HB5.out.size) (by omega) (by omega) SM.out SB.out).mono ?_); rintro e w6 ⟨A6, c6, rfl, ho6, hb6⟩; have HY := hid (OwnC.rh ho6); have hvy := own_part ho6; have HX := hid (OwnC.rh (HO5.out.below hb6)); have HB6 := hid (HB5.out.trans (hb6.mono HB5.out.size)); clear ho6 hb6)
    | (go_at_call 44; refine (spec_l1Copy A1 c1 a _ ((HA.out.below HB6.out).more HB6.out.size) (by omega)).mono ?_; rintro e w7 ⟨A7, c7, rfl, ho7, hb7⟩; have HO7 := hid ho7; have HB7 := hid hb7; clear ho7 hb7))
  have HVY := hid hvy
  clear hvy
  generalize hX : deltaL m a = X at *
  generalize hY : deltaL m b = Y at *
  go_loopw [11, 12, 13] (fun p q i wr => ∃ (k n1 n2 : Nat) (P1 P2 : Option Addr) (d1 d2 : Nat), k ≤ Y.length ∧ i = .int .i64 k ∧ p = .slice P1 n1 d1 ∧ q = .slice P2 n2 d2 ∧ Hid (n1 = (applyL a (moreL X (Y.take k))).length) ∧ Hid (n2 = (unlikeL X (Y.take k)).length) ∧ Hid (OwnP wr w6.heap.size P1 d1 (applyL a (moreL X (Y.take k)))) ∧ Hid (OwnT wr w6.heap.size P2 d2 (unlikeL X (Y.take k))) ∧ Hid (Below w6.heap.size w6 wr)) (fun _ _ i _ => Y.length - (intOf i).toNat)
  case atStart => exact ⟨0, _, 0, _, _, _, _, Nat.zero_le _, rfl, rfl, rfl, rfl, rfl, HO7.out.below ((Below.refl _ _).alloc (Nat.le_refl _) _), OwnT.made HB7.out.size #[] 0 rfl (Nat.zero_le _), HB7.out.alloc HB7.out.size _⟩
  case round =>
    obtain ⟨k, n1, n2, P1, P2, d1, d2, hk, rfl, rfl, rfl, HN1, HN2, HP, HT, HD⟩ := hrel
    by_cases hlt : k < Y.length
    · have hyr := HY.out.below HD.out
      obtain ⟨g, off, rfl, hgb, hc1, hc2, hc3⟩ := hyr.at_ hlt
      have HYR := hid hyr
      have HS1 := hid (moreL_succ X hlt)
      have HS2 := hid (unlikeL_succ X hlt)
      have HM1 := hid (small_step a X Y k)
      have HM2 := hid (unlikeL_small X Y k)
      have HXR := hid ((HX.out.below HD.out).more HD.out.size)
      have hyc : Y.length ≤ c6 ∧ c6 ≤ maxLen := by
        rcases HVY.out with ⟨hv, _⟩ | ⟨_, _, _, h3, h4⟩
        · cases hv
        · exact ⟨h3, h4⟩
      have HYC := hid hyc
      have e5 : (0 : Int) ≤ (k : Int) := by omega
      have e6 : (k : Int) < (Y.length : Int) := by omega
      unfold maxLen at hyc
      have hcy1 : (k : Int) + 1 ≤ (c6 : Int) := by omega
      have hcy2 : (k : Int) ≤ (k : Int) + 1 := by omega
      have hcy3 : k + 1 ≤ c6 := by omega
      have hcy4 : (k : Int) ≤ (c6 : Int) := by omega
      have hcy5 : IntKind.i64.wrap ((k : Int) + 1) = (k : Int) + 1 := IntWalk.i64_in _ (by omega)
      clear hyr hyc
      cases hh : hasC X Y[k].1
      · have HP2 : Hid (applyL a (moreL X (Y.take (k + 1))) = applyL (applyL a (moreL X (Y.take k))) [Y[k]]) := by rw [Hid, HS1.out, hh, if_neg (by simp), applyL_snoc]; rfl
        have HQ2 : Hid (unlikeL X (Y.take (k + 1)) = unlikeL X (Y.take k)) := by rw [Hid, HS2.out, hh, if_neg (by simp)]
        generalize applyL a (moreL X (Y.take k)) = P at *
        generalize unlikeL X (Y.take k) = U at *
        have hone : RC wr w6.heap.size (some ⟨g, off + k * 3, none⟩) [Y[k]] := by
          have h := (HYR.out.drop k).take (n := 1)
          rwa [List.drop_eq_getElem_cons hlt, List.take_succ_cons, List.take_zero] at h
        have HONE := hid hone
        have en1 := HN1.out
        subst en1
        clear hone
        go_wp2_with (first
          | (go_at_call 45; refine (spec_l9Find A5 c5 X Y[k].1 _ HXR.out (by have := LX.out; unfold maxLen; omega)).mono ?_; rw [hh]; rintro e w8 ⟨rfl, hb8⟩; have HB8 := hid hb8; have HDB := hid ((HD.out.trans (hb8.mono HD.out.size)).alloc (HD.out.trans (hb8.mono HD.out.size)).size (.cells #[.string (findC X Y[k].1).1, .string (findC X Y[k].1).2.1, .bool (findC X Y[k].1).2.2] 62)); clear hb8)
          | (go_at_call 46; refine (spec_l6Apply P1 d1 P (some ⟨g, off + k * 3, none⟩) (c6 - k) [Y[k]] w6.heap.size _ ((HP.out.below HB8.out).below ((Below.refl _ _).alloc (Nat.le_refl _) _)) HDB.out.size (((HONE.out.below (Below.mono HB8.out HD.out.size)).below (Below.mono ((Below.refl _ _).alloc (Nat.le_refl _) _) (Nat.le_trans HD.out.size HB8.out.size))).more HDB.out.size) (by have := HM1.out; have := LY.out; omega) (by simp)).mono ?_; rintro e w9 ⟨⟨A9, c9, rfl, ho9, _⟩, hb9⟩; have HO9 := hid ho9; have HT9 := hid (((HT.out.below HB8.out).below ((Below.refl _ _).alloc (Nat.le_refl _) _)).below hb9); have HB9 := hid (HDB.out.trans (hb9.mono HDB.out.size)); clear ho9 hb9))
        go_roundw
        case rel => exact ⟨k + 1, _, _, _, _, _, _, by omega, by go_num, rfl, rfl, (by rw [HP2.out]; rfl), (by rw [HQ2.out]; exact HN2.out), (by rw [HP2.out]; exact HO9.out), (by rw [HQ2.out]; exact HT9.out), HB9.out⟩
        case measure => simp [intOf]; omega
      · have HKEY := hid (findC_key hh)
        have hq := neqChg (findC X Y[k].1) Y[k]
        have HP2 : Hid (moreL X (Y.take (k + 1)) = moreL X (Y.take k)) := by rw [Hid, HS1.out, hh, if_pos rfl]
        by_cases he : findC X Y[k].1 = Y[k]
        · have h5 : decide (findC X Y[k].1 = Y[k]) = true := by simp [he]
          have HQ2 : Hid (unlikeL X (Y.take (k + 1)) = unlikeL X (Y.take k)) := by rw [Hid, HS2.out, hh, h5, if_neg (by simp)]
          rw [h5] at hq
          clear h5 he
          go_wp2_with (first
            | (go_at_call 45; refine (spec_l9Find A5 c5 X Y[k].1 _ HXR.out (by have := LX.out; unfold maxLen; omega)).mono ?_; rw [hh]; rintro e w8 ⟨rfl, hb8⟩; have HB8 := hid hb8; have HDB := hid ((HD.out.trans (hb8.mono HD.out.size)).alloc (HD.out.trans (hb8.mono HD.out.size)).size (.cells #[.string (findC X Y[k].1).1, .string (findC X Y[k].1).2.1, .bool (findC X Y[k].1).2.2] 62)); have X9 := Row3.lit w8 62 (.string (findC X Y[k].1).1) (.string (findC X Y[k].1).2.1) (.bool (findC X Y[k].1).2.2); have z0 := X9.c0; have z1 := X9.c1; have z2 := X9.c2; have y1 := (((Below.refl w8.heap.size w8).alloc (Nat.le_refl _) (.cells #[.string (findC X Y[k].1).1, .string (findC X Y[k].1).2.1, .bool (findC X Y[k].1).2.2] 62)).cell (p := ⟨g, off + k * 3, none⟩) (by have := HD.out.size; have := HB8.out.size; simp; omega)).trans ((hb8.cell (p := ⟨g, off + k * 3, none⟩) (by have := HD.out.size; simp; omega)).trans hc1); have y2 := (((Below.refl w8.heap.size w8).alloc (Nat.le_refl _) (.cells #[.string (findC X Y[k].1).1, .string (findC X Y[k].1).2.1, .bool (findC X Y[k].1).2.2] 62)).cell (p := ⟨g, off + k * 3 + 1, none⟩) (by have := HD.out.size; have := HB8.out.size; simp; omega)).trans ((hb8.cell (p := ⟨g, off + k * 3 + 1, none⟩) (by have := HD.out.size; simp; omega)).trans hc2); have y3 := (((Below.refl w8.heap.size w8).alloc (Nat.le_refl _) (.cells #[.string (findC X Y[k].1).1, .string (findC X Y[k].1).2.1, .bool (findC X Y[k].1).2.2] 62)).cell (p := ⟨g, off + k * 3 + 2, none⟩) (by have := HD.out.size; have := HB8.out.size; simp; omega)).trans ((hb8.cell (p := ⟨g, off + k * 3 + 2, none⟩) (by have := HD.out.size; simp; omega)).trans hc3); clear X9; clear hb8))
          go_quiet (fail)
          go_wp2_with fail
          go_roundw
          case rel => exact ⟨k + 1, _, _, _, _, _, _, by omega, by go_num, rfl, rfl, (by rw [HP2.out]; exact HN1.out), (by rw [HQ2.out]; exact HN2.out), (by rw [HP2.out]; exact (HP.out.below HB8.out).below (bdB _ _ _)), (by rw [HQ2.out]; exact (HT.out.below HB8.out).below (bdB _ _ _)), bdN HDB.out _⟩
          case measure => simp [intOf]; omega
        · have h5 : decide (findC X Y[k].1 = Y[k]) = false := by simp [he]
          have HQ2 : Hid (unlikeL X (Y.take (k + 1)) = unlikeL X (Y.take k) ++ [Y[k].1]) := by rw [Hid, HS2.out, hh, h5, if_pos (by simp)]
          rw [h5] at hq
          clear h5 he
          generalize moreL X (Y.take k) = M at *
          generalize unlikeL X (Y.take k) = U at *
          go_wp2_with (first
            | (go_at_call 45; refine (spec_l9Find A5 c5 X Y[k].1 _ HXR.out (by have := LX.out; unfold maxLen; omega)).mono ?_; rw [hh]; rintro e w8 ⟨rfl, hb8⟩; have HB8 := hid hb8; have HDB := hid ((HD.out.trans (hb8.mono HD.out.size)).alloc (HD.out.trans (hb8.mono HD.out.size)).size (.cells #[.string (findC X Y[k].1).1, .string (findC X Y[k].1).2.1, .bool (findC X Y[k].1).2.2] 62)); have X9 := Row3.lit w8 62 (.string (findC X Y[k].1).1) (.string (findC X Y[k].1).2.1) (.bool (findC X Y[k].1).2.2); have z0 := X9.c0; have z1 := X9.c1; have z2 := X9.c2; have y1 := (((Below.refl w8.heap.size w8).alloc (Nat.le_refl _) (.cells #[.string (findC X Y[k].1).1, .string (findC X Y[k].1).2.1, .bool (findC X Y[k].1).2.2] 62)).cell (p := ⟨g, off + k * 3, none⟩) (by have := HD.out.size; have := HB8.out.size; simp; omega)).trans ((hb8.cell (p := ⟨g, off + k * 3, none⟩) (by have := HD.out.size; simp; omega)).trans hc1); have y2 := (((Below.refl w8.heap.size w8).alloc (Nat.le_refl _) (.cells #[.string (findC X Y[k].1).1, .string (findC X Y[k].1).2.1, .bool (findC X Y[k].1).2.2] 62)).cell (p := ⟨g, off + k * 3 + 1, none⟩) (by have := HD.out.size; have := HB8.out.size; simp; omega)).trans ((hb8.cell (p := ⟨g, off + k * 3 + 1, none⟩) (by have := HD.out.size; simp; omega)).trans hc2); have y3 := (((Below.refl w8.heap.size w8).alloc (Nat.le_refl _) (.cells #[.string (findC X Y[k].1).1, .string (findC X Y[k].1).2.1, .bool (findC X Y[k].1).2.2] 62)).cell (p := ⟨g, off + k * 3 + 2, none⟩) (by have := HD.out.size; have := HB8.out.size; simp; omega)).trans ((hb8.cell (p := ⟨g, off + k * 3 + 2, none⟩) (by have := HD.out.size; simp; omega)).trans hc3); clear X9; clear hb8))
          go_quiet (fail)
          go_wp2_with (at_builtin; refine wpList_append_rt _ rfl _ _ _ rfl j0 Try.underlying43 hj0 hy0 hy1 hy2 w6.heap.size P2 n2 d2 U rfl HN2.out ((HT.out.below HB8.out).below (bdC _ _ _ _)) (w8.heap.size + 1) 0 1 (findC X Y[k].1).1 rfl (cell_txt2 _ _ _ _ _) (by have := HM2.out; have := LY.out; omega) (by have := HDB.out.size; simp at this ⊢; omega) ?_; intro A9 n9 c9 w9 hn9 happ9; have HN9 := hid hn9; have HO9 := hid happ9.own; have HC9 : Hid (OwnP w9 w6.heap.size P1 d1 (applyL a M)) := keep_P happ9.grown HN2.out ((HP.out.below HB8.out).below (bdC _ _ _ _)) ((HT.out.below HB8.out).below (bdC _ _ _ _)); have HB9 := hid (((bdN HDB.out _).alloc (by have := HDB.out.size; simp at this ⊢; omega) _).trans (happ9.below ((HT.out.below HB8.out).below (bdC _ _ _ _)) HN2.out (by have := HDB.out.size; simp at this ⊢; omega))); clear hn9 happ9)
          rw [HKEY.out] at HN9 HO9
          go_roundw
          case rel => exact ⟨k + 1, _, _, _, _, _, _, by omega, by go_num, rfl, rfl, (by rw [HP2.out]; exact HN1.out), (by rw [HQ2.out]; exact HN9.out), (by rw [HP2.out]; exact HC9.out), (by rw [HQ2.out]; exact HO9.out), HB9.out⟩
          case measure => simp [intOf]; omega
    · obtain rfl : k = Y.length := by omega
      rw [List.take_length] at HN1 HN2 HP HT
      have en1 := HN1.out
      have en2 := HN2.out
      subst en1 en2
      subst hX hY
      have HPM := hid (show OwnP wr w6.heap.size P1 d1 (mergeL m a b) from HP.out)
      have HTM := hid (show OwnT wr w6.heap.size P2 d2 (mergeU m a b) from HT.out)
      have HDD := hid (HB6.out.trans (HD.out.mono HB6.out.size))
      have hlen : applyL a (moreL (deltaL m a) (deltaL m b)) = mergeL m a b := rfl
      have hulen : unlikeL (deltaL m a) (deltaL m b) = mergeU m a b := rfl
      rw [hlen, hulen]
      clear hlen hulen HP HT
      by_cases h4 : (mergeL m a b).length ≤ 60
      · have HB := hid (mergeB_y h1 h2 h3 h4)
        have h5 : mapB (mergeL m a b) = true := by rw [HOK.out]; simp [h4]
        go_wp2_with (go_at_call 35; refine (spec_MapOk P1 d1 (mergeL m a b) _ _ HPM.out.rp FL.out (by have := LL.out; unfold maxLen; omega)).mono ?_; rintro e w9 ⟨rfl, hw9⟩; have HB9 := hid (hw9.below wr.heap.size))
        go_ret3
        exact MadeM.yes HB.out ((HPM.out.mono HB6.out.size).below HB9.out) ((HTM.out.mono HB6.out.size).below HB9.out) (HDD.out.trans (HB9.out.mono HDD.out.size))
      · have HB : Hid (mergeB m a b = false) := mergeB_n h4
        have h5 : mapB (mergeL m a b) = false := by rw [HOK.out]; simp [h4]
        go_wp2_with (go_at_call 35; refine (spec_MapOk P1 d1 (mergeL m a b) _ _ HPM.out.rp FL.out (by have := LL.out; unfold maxLen; omega)).mono ?_; rintro e w9 ⟨rfl, hw9⟩; have HB9 := hid (hw9.below wr.heap.size))
        go_ret3
        exact MadeM.no HB.out (HDD.out.trans (HB9.out.mono HDD.out.size))
end Go.Proofs.Ytoipcjdpfbgghab
