/-
  FnChanged: the walk.
-/
import Derived.Test.YtoipcjdpfbgghaaSameMap
import Derived.Test.YtoipcjdpfbgghaaDrawE
import Derived.Test.YtoipcjdpfbgghaaDeltaG
import Derived.Test.YtoipcjdpfbgghaaPutDrop
namespace Go.Proofs.Ytoipcjdpfbgghaa
open Go.RowKit

def BentM (B B' g m : Nat) (w : World) (e : Ending) (w' : World) : Prop := ∃ A c ps, e = .returned (.slice A ps.length c) ∧ OwnP w' B' A c ps ∧ SmallP ps ∧ ps.length ≤ m ∧ Rd w' B g ∧ KB B' g w w'
def MapChgM (w : World) (e : Ending) (w' : World) : Prop := ∃ A c ps K d ls, e = .returned (.tuple #[.slice A ps.length c, .slice K ls.length d]) ∧ RP w' w'.heap.size A ps ∧ VS A c ps.length ∧ SmallP ps ∧ ps.length ≤ 7 ∧ RC w' w'.heap.size K ls ∧ VS K d ls.length ∧ FitsC ls ∧ ls.length ≤ 5 ∧ Below w.heap.size w w'

set_option maxHeartbeats 2000000 in
theorem bent_most (B B' g m : Nat) (A : Option Addr) (c : Nat) (ps : PS) (w : World) (h : Rd w B g) (ho : OwnP w B' A c ps) (hgB : g < B') (hm : mapB ps = true) (hl : ps.length ≤ m) (hB' : B' ≤ w.heap.size) :
    Calls Try.prog 98 #[.pointer (some ⟨g, 0, none⟩), .slice A ps.length c] w (BentM B B' g m w) := by
  have HR := hid h
  have HO := hid ho
  have HS := hid (small_map hm)
  clear h ho hm
  go_enter Try.func98, Try.ntmps98
  go_wp2_with fail
  refine (once_any B g 12 _ HR.out (by omega) (by omega)).mono ?_
  rintro e w1 ⟨b, rfl, hr1, hg1⟩
  have HR1 := hid hr1
  have HO1 := hid (HO.out.keep_g hg1 hgB)
  have HK1 := hid (KB.of_grown hg1 hB')
  clear hr1 hg1
  cases b
  · go_wp2_with fail
    go_ret
    exact ⟨A, c, ps, rfl, HO1.out, HS.out, hl, HR1.out, HK1.out⟩
  · by_cases h1 : 1 < ps.length
    · match ps, h1 with
      | p :: q :: r, _ =>
        obtain ⟨g', cap, cur, hv, hg', hh', hnc, _⟩ : ∃ g' cap cur, Value.slice A (p :: q :: r).length c = .slice (some ⟨g', 0, none⟩) (p :: q :: r).length cap ∧ B' ≤ g' ∧ w1.heap[g']? = some (.cells cur 53 (0, 0)) ∧ (p :: q :: r).length ≤ cap ∧ True := by
          rcases HO1.out.2 with ⟨hv, h0⟩ | ⟨g', cap, cur, hv, hb, hh, hn, _⟩
          · simp at h0
          · exact ⟨g', cap, cur, hv, hb, hh, hn, trivial⟩
        injection hv with e1 e2 e3
        subst e1 e3
        have hb0 : ∀ j u, (pcells (p :: q :: r))[j]? = some u → w1.cell? ⟨g', j, none⟩ = some u := fun j u hu => by
          have := HO1.out.cells (g := g') rfl j u hu
          rwa [Addr.add_lit, Nat.zero_add] at this
        have x0 := hb0 0 _ rfl
        have x1 := hb0 1 _ rfl
        have x2 := hb0 2 _ rfl
        have x3 := hb0 3 _ rfl
        have f0 := HO1.out.frozenAt 0
        have f1 := HO1.out.frozenAt 1
        have f2 := HO1.out.frozenAt 2
        have f3 := HO1.out.frozenAt 3
        have hlt' : g' < w1.heap.size := (HO1.out.size g' rfl).2
        have hne : g' ≠ w1.heap.size := by omega
        have hne' : w1.heap.size ≠ g' := by omega
        have HG := hid hg'
        clear hb0 hh' hnc hg'
        go_wp2_with fail
        go_ret
        have s0 := HO1.out.stored 0 (.string q.1)
        have s1 := s0.1.stored 1 (.string q.2)
        have s2 := s1.1.stored 2 (.string p.1)
        have s3 := s2.1.stored 3 (.string p.2)
        have hgg : ∀ k, some g' = some k → g < k := fun k hk => by
          injection hk with hk
          have := HG.out
          omega
        have hr := (((HR1.out.grown s0.2 hgg).grown s1.2 hgg).grown s2.2 hgg).grown s3.2 hgg
        have hB1 : B' ≤ w1.heap.size := Nat.le_trans hB' HK1.out.size
        refine ⟨some ⟨g', 0, none⟩, c, q :: p :: r, rfl, s3.1.alloc _, ?_, by simpa using hl, hr.below ((Below.refl _ _).alloc (Nat.le_refl _) _), HK1.out.trans (KB.of_below (((((Below.refl B' w1).setCell HG.out _).setCell HG.out _).setCell HG.out _).setCell HG.out _ |>.alloc (by simpa using hB1) _))⟩
        intro x hx
        refine HS.out x ?_
        simp only [List.mem_cons] at hx ⊢
        rcases hx with h | h | h
        · exact .inr (.inl h)
        · exact .inl h
        · exact .inr (.inr h)
      | [_], h1 => simp at h1
      | [], h1 => simp at h1
    · go_wp2_with fail
      go_ret
      exact ⟨A, c, ps, rfl, HO1.out, HS.out, hl, HR1.out, HK1.out⟩

set_option maxHeartbeats 4000000 in
set_option maxRecDepth 100000 in
theorem drawChanged_most (A : Option Addr) (n c : Nat) (w : World) (hc : CB w w.heap.size A n) (hn : n ≤ 1048576) :
    Calls Try.prog 57 #[.slice A n c] w (MapChgM w) := by
  have HC := hid hc
  clear hc
  go_enter Try.func57, Try.ntmps57
  go_wp2_with fail
  refine (open_any A n c _).mono ?_
  rintro e w1 ⟨rfl, hw1⟩
  obtain ⟨hr1, hb1, hc1⟩ := rd_start HC.out hn hw1
  have HR1 := hid hr1
  have HB1 := hid hb1
  have hsz1 : w.heap.size < w1.heap.size := hr1.lt.1
  clear hw1 hr1 hb1 hc1
  go_wp2_with fail
  refine (pairs_most w.heap.size w.heap.size 7 _ HR1.out (by omega)).mono ?_
  rintro e w2 ⟨A2, c2, ps, rfl, ho2, hm2, hp2, hr2, hg2⟩
  have HO2 := hid ho2
  have HR2 := hid hr2
  have HB2 := hid (HB1.out.grown hg2 HB1.out.size (by simp))
  have hsz2 : w1.heap.size ≤ w2.heap.size := hg2.size
  clear ho2 hr2 hg2
  go_wp2_with fail
  refine (bent_most w.heap.size w1.heap.size w.heap.size 7 A2 c2 ps _ HR2.out HO2.out hsz1 hm2 hp2 hsz2).mono ?_
  rintro e w3 ⟨A3, c3, rs, rfl, ho3, hs3, hl3, hr3, hk3⟩
  have HO3 := hid ho3
  have HS3 := hid hs3
  have HR3 := hid hr3
  have HB3 := hid (HB2.out.trans (hk3.low (by omega) (Nat.le_refl _)))
  clear ho3 hs3 hr3
  go_wp2_with fail
  refine (delta_any w.heap.size w.heap.size _ HR3.out).mono ?_
  rintro e w4 ⟨A4, c4, ls, rfl, ho4, ht4, hl4, hr4, hg4⟩
  have HO4 := hid ho4
  have HT4 := hid ht4.fits
  have HM4 := hid (HO3.out.keep_g hg4 hsz1)
  have HB4 := hid (HB3.out.grown hg4 HB3.out.size (by simp))
  clear ho4 ht4 hr4 hg4
  go_wp2_with fail
  go_ret2
  exact ⟨A3, c3, rs, A4, c4, ls, rfl, HM4.out.rp, HM4.out.vs, HS3.out, hl3, HO4.out.rh, HO4.out.vs, HT4.out, hl4, HB4.out⟩


/-- What the law's own way answers. -/
def ChgPost (w : World) (L : PS) (e : Ending) (w' : World) : Prop := ∃ A c, e = .returned (.slice A L.length c) ∧ RP w' w'.heap.size A L ∧ Below w.heap.size w w'
theorem apply_take {ps : PS} {ls : CS} (hm : mapB ps = true) (hd : deltaB ls = true) (hs : ps.length + ls.length ≤ 60) (k : Nat) : mapB (applyL ps (ls.take k)) = true ∧ (applyL ps (ls.take k)).length ≤ ps.length + min k ls.length := by
  have h1 := applyL_len ps (ls.take k)
  have h2 : (ls.take k).length = min k ls.length := List.length_take
  have h3 : (applyL ps (ls.take k)).length ≤ ps.length + min k ls.length := by omega
  refine ⟨?_, h3⟩
  rw [applyL_ok hm fun x hx => (deltaB_iff.1 hd).2.1 x (List.mem_of_mem_take hx)]
  simp only [decide_eq_true_eq]
  omega

set_option maxHeartbeats 8000000 in
set_option maxRecDepth 200000 in
theorem changed_any (A : Option Addr) (c : Nat) (ps : PS) (K : Option Addr) (d : Nat) (ls : CS) (w : World) (hr : RP w w.heap.size A ps) (hv : VS A c ps.length) (hm : mapB ps = true) (hl : RC w w.heap.size K ls) (hd : deltaB ls = true) (hs : ps.length + ls.length ≤ 60) :
    Calls Try.prog 60 #[.slice A ps.length c, .slice K ls.length d] w (ChgPost w (applyL ps ls)) := by
  have HR := hid hr
  have HV := hid hv
  have HL := hid hl
  have HT := hid (apply_take hm hd hs)
  have HX : Hid (∀ (k : Nat) (h : k < ls.length), changeB ls[k] = true) := fun k h => (deltaB_iff.1 hd).2.1 _ (List.getElem_mem h)
  clear hr hv hl hd hm
  go_enter Try.func60, Try.ntmps60
  go_wp2_with fail
  go_loopw [0, 5] (fun q i wr => ∃ (k n : Nat) (A' : Option Addr) (c' : Nat), k ≤ ls.length ∧ i = .int .i64 k ∧ q = .slice A' n c' ∧ Hid (n = (applyL ps (ls.take k)).length) ∧ Hid (RP wr wr.heap.size A' (applyL ps (ls.take k))) ∧ Hid (VS A' c' (applyL ps (ls.take k)).length) ∧ Hid (Below w.heap.size w wr)) (fun _ i _ => ls.length - (intOf i).toNat)
  case atStart => exact ⟨0, _, _, _, Nat.zero_le _, rfl, rfl, rfl, HR.out, HV.out, Below.refl _ w⟩
  case round =>
    obtain ⟨k, n, A', c', hk, rfl, rfl, HN', HP, HVP, HD⟩ := hrel
    by_cases hlt : k < ls.length
    · obtain ⟨b, off, rfl, hb, hc1, hc2, hc3⟩ := (HL.out.below HD.out).at_ hlt
      have HS := hid (applyL_succ ps hlt)
      have HM := hid (HT.out k).1
      have hlen : (applyL ps (ls.take k)).length < 60 := by have := (HT.out k).2; omega
      have HXK := hid (HX.out k hlt)
      have e5 : (0 : Int) ≤ (k : Int) := by omega
      have e6 : (k : Int) < (ls.length : Int) := by omega
      generalize applyL ps (ls.take k) = P at *
      have HF := hid (small_map HM.out).fits
      have HSZ := hid (fits_right HXK.out)
      have HPUT : Hid (∀ W, Below wr.heap.size wr W → Calls Try.prog 101 #[.slice A' P.length c', .string ls[k].1, .string ls[k].2.1] W (Made2 W (putR P ls[k].1 ls[k].2.1) (putB P ls[k].1 ls[k].2.1))) :=
        fun W hW => impl_Put A' c' P _ _ W ((HP.out.below hW).more hW.size) HVP.out HF.out (by omega) HSZ.out.1 HSZ.out.2
      have en := HN'.out
      subst en
      cases hg : ls[k].2.2
      · rw [hg] at hc3
        have HP2 := hid (HS.out.trans (stepL_put hg))
        have hpb : putB P ls[k].1 ls[k].2.1 = true := by
          have hx := HXK.out
          simp only [changeB, Bool.and_eq_true, hg, Bool.false_eq_true, if_false] at hx
          have := putL_len_le P ls[k].1 ls[k].2.1
          exact putB_yes HM.out hx.1 hx.2 (by omega)
        have HQ := hid (putR_yes hpb)
        go_wp2_with fail
        go_region_held3 (fun w' => w'.cell? ⟨b, off + k * 3, none⟩ = some (.string ls[k].1) ∧ w'.cell? ⟨b, off + k * 3 + 1, none⟩ = some (.string ls[k].2.1)) (go_keep)
          (first | (go_at_call 101; refine (HPUT.out _ (by first | exact Below.refl _ _ | exact (Below.refl _ _).drew)).mono ?_; rintro e w4 ⟨A4, c4, rfl, ho4, hb4⟩; have hc4 : w4.cell? ⟨b, off + k * 3, none⟩ = some (.string ls[k].1) := (hb4.cell (p := ⟨b, off + k * 3, none⟩) (by have := HD.out.size; simp; omega)).trans (by first | exact hc1 | go_simp); have hc5 : w4.cell? ⟨b, off + k * 3 + 1, none⟩ = some (.string ls[k].2.1) := (hb4.cell (p := ⟨b, off + k * 3 + 1, none⟩) (by have := HD.out.size; simp; omega)).trans (by first | exact hc2 | go_simp); have hc6 : w4.cell? ⟨b, off + k * 3 + 2, none⟩ = some (.bool false) := (hb4.cell (p := ⟨b, off + k * 3 + 2, none⟩) (by have := HD.out.size; simp; omega)).trans (by first | exact hc3 | go_simp); have HO4 := hid ho4; have HB4 := hid (show Below wr.heap.size wr w4 by first | exact hb4 | exact (Below.refl _ _).drew.trans hb4); clear ho4 hb4))
        go_wp2_with fail
        go_roundw
        case rel => exact ⟨k + 1, _, _, _, by omega, by go_num, rfl, (by rw [HP2.out, HQ.out]; rfl), (by rw [HP2.out, ← HQ.out]; exact HO4.out.rp), (by rw [HP2.out, ← HQ.out]; exact HO4.out.vs), HD.out.trans (HB4.out.mono HD.out.size)⟩
        case measure => simp [intOf]; omega
      · rw [hg] at hc3
        have HP2 := hid (HS.out.trans (stepL_gone hg))
        cases hh : getB P ls[k].1
        all_goals
          have HDROP : Hid (∀ W, Below wr.heap.size wr W → Calls Try.prog 102 #[.slice A' P.length c', .string ls[k].1] W (Made2 W (dropR P ls[k].1) (getB P ls[k].1))) :=
            fun W hW => impl_Drop A' c' P _ W ((HP.out.below hW).more hW.size) HVP.out HF.out (by omega)
          rw [hh] at HDROP
          have hhk : hasK P ls[k].1 = getB P ls[k].1 := by simp [getB, HM.out]
          rw [hh] at hhk
          have HHK := hid hhk
          have HH := hid hh
          clear hhk hh
          go_wp2_with fail
          go_region_held3 (fun w' => w'.cell? ⟨b, off + k * 3, none⟩ = some (.string ls[k].1) ∧ w'.cell? ⟨b, off + k * 3 + 1, none⟩ = some (.string ls[k].2.1)) (go_keep)
            (first | (go_at_call 101; refine (HPUT.out _ (by first | exact Below.refl _ _ | exact (Below.refl _ _).drew)).mono ?_; rintro e w4 ⟨A4, c4, rfl, ho4, hb4⟩; have hc4 : w4.cell? ⟨b, off + k * 3, none⟩ = some (.string ls[k].1) := (hb4.cell (p := ⟨b, off + k * 3, none⟩) (by have := HD.out.size; simp; omega)).trans (by first | exact hc1 | go_simp); have hc5 : w4.cell? ⟨b, off + k * 3 + 1, none⟩ = some (.string ls[k].2.1) := (hb4.cell (p := ⟨b, off + k * 3 + 1, none⟩) (by have := HD.out.size; simp; omega)).trans (by first | exact hc2 | go_simp); have hc6 : w4.cell? ⟨b, off + k * 3 + 2, none⟩ = some (.bool true) := (hb4.cell (p := ⟨b, off + k * 3 + 2, none⟩) (by have := HD.out.size; simp; omega)).trans (by first | exact hc3 | go_simp); have HB4 := hid (show Below wr.heap.size wr w4 by first | exact hb4 | exact (Below.refl _ _).drew.trans hb4); clear ho4 hb4))
          go_wp2_with fail
          refine (HDROP.out _ HB4.out).mono ?_
          rintro e w5 ⟨A5, c5, rfl, ho5, hb5⟩
          have HO5 := hid ho5
          have HB5 := hid (HB4.out.trans (hb5.mono HB4.out.size))
          clear ho5 hb5
          go_wp2_with fail
        · go_roundw
          case rel =>
            have HQ := dropL_none HHK.out
            exact ⟨k + 1, _, _, _, by omega, by go_num, rfl, (by rw [HP2.out, HQ]; rfl), (by rw [HP2.out, HQ]; exact (HP.out.below HB5.out).more HB5.out.size), (by rw [HP2.out, HQ]; exact HVP.out), HD.out.trans (HB5.out.mono HD.out.size)⟩
          case measure => simp [intOf]; omega
        · go_roundw
          case rel =>
            have HQ : dropR P ls[k].1 = dropL P ls[k].1 := by simp [dropR, HM.out, HHK.out]
            exact ⟨k + 1, _, _, _, by omega, by go_num, rfl, (by rw [HP2.out, HQ]; rfl), (by rw [HP2.out, ← HQ]; exact HO5.out.rp), (by rw [HP2.out, ← HQ]; exact HO5.out.vs), HD.out.trans (HB5.out.mono HD.out.size)⟩
          case measure => simp [intOf]; omega
    · obtain rfl : k = ls.length := by omega
      rw [List.take_length] at HN' HP
      have en := HN'.out
      subst en
      go_wp2_with fail
      go_ret
      exact ⟨A', c', rfl, HP.out, HD.out⟩

theorem changed_facts {m : PS} {l : CS} (h : changedB m l = true) : mapB m = true ∧ deltaB l = true ∧ mapB (changedL m l) = true ∧ changedB (changedL m l) l = true ∧ changedL (changedL m l) l = changedL m l ∧ changedL m l = applyL m l := by
  have e := changedL_y h
  simp only [changedB, Bool.and_eq_true, decide_eq_true_eq] at h
  obtain ⟨h1, h2, h3⟩ := h
  have hm : mapB (applyL m l) = true := by
    rw [applyL_ok h1 (deltaB_iff.1 h2).2.1]
    simpa using h3
  have ag := apply_again (mapB_iff.1 h1).2.2 (deltaB_iff.1 h2).2.2
  have hc : changedB (applyL m l) l = true := changedB_y hm h2 (by rw [ag]; exact h3)
  rw [e]
  exact ⟨h1, h2, hm, hc, by rw [changedL_y hc, ag], rfl⟩

set_option maxHeartbeats 8000000 in
set_option maxRecDepth 200000 in
theorem fnChanged_walk (A : Option Addr) (n c : Nat) (w : World) (hc : CB w w.heap.size A n) (hn : n ≤ maxLen) :
    Calls Try.prog 14 #[.slice A n c] w fun e w' => e = .returned (.bool true) ∧ Below w.heap.size w w' := by
  have HC := hid hc
  clear hc
  unfold maxLen at hn
  go_enter Try.func14, Try.ntmps14
  go_wp2_with fail
  refine (big_any A n c _).mono ?_
  rintro e w0 ⟨rfl, rfl⟩
  by_cases hbig : (1048576 : Int) < (n : Int)
  · go_wp2_with fail
    go_ret
    exact ⟨rfl, Below.refl _ _⟩
  go_wp2_with fail
  refine (drawChanged_most A n c _ HC.out (by omega)).mono ?_
  rintro e w1 ⟨A1, c1, ms, K1, d1, ls, rfl, hr1, hv1, hs1, hl1, hk1, hu1, hg1, hm1, hb1⟩
  have RA := hid hr1
  have RK := hid hk1
  have VA := hid hv1
  have FA := hid hs1.fits
  have FK := hid hg1
  have hpl : ms.length ≤ maxLen := by unfold maxLen; omega
  have hql : ls.length ≤ maxLen := by unfold maxLen; omega
  have HPL := hid hpl
  have HQL := hid hql
  have HB1 := hid hb1
  have HSX := hid (small_changed (m := ms) (l := ls))
  have lxx : (changedL ms ls).length ≤ maxLen := by have := HSX.out.2; unfold maxLen; omega
  have LXX := hid lxx
  clear hr1 hk1 hv1 hu1 hs1 hg1 hpl hql hb1 lxx
  go_wp2_with fail
  refine (impl_Changed A1 c1 ms K1 d1 ls _ RA.out VA.out FA.out HPL.out RK.out FK.out HQL.out).mono ?_
  rintro e w2 ⟨A2, c2, rfl, ho2, hw2⟩
  have HO2 := hid ho2
  have D2 := hid hw2
  clear ho2 hw2
  go_wp2_with fail
  refine (spec_Changed A1 c1 ms K1 d1 ls _ ((RA.out.below D2.out).more D2.out.size) FA.out HPL.out ((RK.out.below D2.out).more D2.out.size) FK.out HQL.out).mono ?_
  rintro e w3 ⟨A3, c3, rfl, ho3, hw3⟩
  have O3 := hid (HO2.out.below hw3)
  have D3 := hid (D2.out.trans (hw3.mono D2.out.size))
  have HO3 := hid ho3
  clear ho3 hw3
  have ht : decide (changedL ms ls = changedL ms ls) = true := by simp
  cases hd : changedB ms ls
  · go_wp2_with fail
    refine (sameMap_any A2 A3 c2 c3 (changedL ms ls) (changedL ms ls) _ _ O3.out.rp HO3.out.rp LXX.out).mono ?_
    rintro e w5 ⟨rfl, hw5⟩
    have O5 := hid (O3.out.below (hw5.below _))
    have W5 := hid (HO3.out.below (hw5.below _))
    have D5 := hid (D3.out.trans ((hw5.below _).mono D3.out.size))
    clear hw5
    go_wp2_with fail
    refine (sameMap_any A2 A3 c2 c3 (changedL ms ls) (changedL ms ls) _ _ O5.out.rp W5.out.rp LXX.out).mono ?_
    rintro e w8 ⟨rfl, hw8⟩
    have D8 := hid (D5.out.trans ((hw8.below _).mono D5.out.size))
    clear hw8
    go_wp2_with fail
    go_ret
    exact ⟨rfl, HB1.out.trans (D8.out.mono HB1.out.size)⟩
  have FACT := hid (changed_facts hd)
  go_wp2_with fail
  refine (sameMap_any A2 A3 c2 c3 (changedL ms ls) (changedL ms ls) _ _ O3.out.rp HO3.out.rp LXX.out).mono ?_
  rintro e w5 ⟨rfl, hw5⟩
  have O5 := hid (O3.out.below (hw5.below _))
  have D5 := hid (D3.out.trans ((hw5.below _).mono D3.out.size))
  clear hw5
  have h6 := impl_Changed A2 c2 (changedL ms ls) K1 d1 ls w5 O5.out.rp O5.out.vs HSX.out.1.fits LXX.out ((RK.out.below D5.out).more D5.out.size) FK.out HQL.out
  rw [FACT.out.2.2.2.1, FACT.out.2.2.2.2.1] at h6
  have H6 := hid h6
  clear h6
  go_wp2_with fail
  refine H6.out.mono ?_
  rintro e w6 ⟨A6, c6, rfl, ho6, hw6⟩
  have HO6 := hid ho6
  have O6 := hid (O5.out.below hw6)
  have D6 := hid (D5.out.trans (hw6.mono D5.out.size))
  clear ho6 hw6
  have h7 := impl_MapOk A2 c2 (changedL ms ls) w6 O6.out.rp HSX.out.1.fits LXX.out
  rw [FACT.out.2.2.1] at h7
  have H7 := hid h7
  clear h7
  go_wp2_with fail
  refine H7.out.mono ?_
  rintro e w7 ⟨rfl, hw7⟩
  have P7 := hid (HO6.out.below hw7)
  have O7 := hid (O6.out.below hw7)
  have D7 := hid (D6.out.trans (hw7.mono D6.out.size))
  clear hw7
  have h8 := changed_any A1 c1 ms K1 d1 ls w7 ((RA.out.below D7.out).more D7.out.size) VA.out FACT.out.1 ((RK.out.below D7.out).more D7.out.size) FACT.out.2.1 (by omega)
  rw [← FACT.out.2.2.2.2.2] at h8
  have H8 := hid h8
  clear h8
  go_wp2_with fail
  refine H8.out.mono ?_
  rintro e w8 ⟨A8, c8, rfl, hr8, hw8⟩
  have R8 := hid hr8
  have P8 := hid (P7.out.below hw8)
  have O8 := hid (O7.out.below hw8)
  have D8 := hid (D7.out.trans (hw8.mono D7.out.size))
  clear hr8 hw8
  go_wp2_with fail
  refine (sameMap_any A2 A8 c2 c8 (changedL ms ls) (changedL ms ls) _ _ O8.out.rp R8.out LXX.out).mono ?_
  rintro e w9 ⟨rfl, hw9⟩
  have P9 := hid (P8.out.below (hw9.below _))
  have O9 := hid (O8.out.below (hw9.below _))
  have D9 := hid (D8.out.trans ((hw9.below _).mono D8.out.size))
  clear hw9
  go_wp2_with fail
  refine (sameMap_any A6 A2 c6 c2 (changedL ms ls) (changedL ms ls) _ _ P9.out.rp O9.out.rp LXX.out).mono ?_
  rintro e w10 ⟨rfl, hw10⟩
  have D10 := hid (D9.out.trans ((hw10.below _).mono D9.out.size))
  clear hw10
  go_wp2_with fail
  go_ret
  exact ⟨rfl, HB1.out.trans (D10.out.mono HB1.out.size)⟩
end Go.Proofs.Ytoipcjdpfbgghaa
