/-
  Drawn changes, two of them, or with a map; the laws' comparing.
-/
import Derived.Test.YtoipcjdpfbgghabDrawD
import Derived.Test.YtoipcjdpfbgghabPairEq
namespace Go.Proofs.Ytoipcjdpfbgghab
open Go.RowKit

def sameToC (ps qs : CS) (k : Nat) : Prop := ∀ (i : Nat) (h : i < ps.length) (h' : i < qs.length), i < k → ps[i] = qs[i]
theorem sameC_succ {ps qs : CS} {k : Nat} (h : sameToC ps qs k) (hk : k < ps.length) (hk' : k < qs.length) (he : ps[k] = qs[k]) : sameToC ps qs (k + 1) := by
  intro i hi hi' hlt
  by_cases e : i = k
  · subst e
    exact he
  · exact h i hi hi' (by omega)

set_option maxHeartbeats 1000000 in
theorem sameWrites_any (A A' : Option Addr) (c c' : Nat) (ps qs : CS) (B : Nat) (w : World) (hr : RC w B A ps) (hr' : RC w B A' qs) (hn : ps.length ≤ maxLen) :
    Calls Try.prog 13 #[.slice A ps.length c, .slice A' qs.length c'] w fun e w' => e = .returned (.bool (decide (ps = qs))) ∧ Drawn w w' := by
  unfold maxLen at hn
  by_cases g : ps.length = qs.length
  · have g0 : ((ps.length : Int) != (qs.length : Int)) = false := by simp [g]
    have G := hid g
    clear g
    go_enter Try.func13, Try.ntmps13
    go_wp2_with fail
    go_loopw [5] (fun i wr => ∃ k : Nat, k ≤ ps.length ∧ i = .int .i64 k ∧ sameToC ps qs k ∧ Drawn w wr) (fun i _ => ps.length - (intOf i).toNat)
    case atStart => exact ⟨0, Nat.zero_le _, rfl, fun i h h' hi => absurd hi (by omega), Drawn.refl w⟩
    case round =>
      obtain ⟨k, hk, rfl, hst, hbw⟩ := hrel
      by_cases hlt : k < ps.length
      · have hlt' : k < qs.length := by have := G.out; omega
        obtain ⟨b, off, rfl, hb, hc1, hc2, hc5⟩ := (hr.below (hbw.below _)).at_ hlt
        obtain ⟨b', off', rfl, hb', hc3, hc4, hc6⟩ := (hr'.below (hbw.below _)).at_ hlt'
        have HST := hid hst
        have HD := hid hbw
        clear hst hbw hr hr'
        have e5 : (0 : Int) ≤ (k : Int) := by omega
        have e6 : (k : Int) < (ps.length : Int) := by omega
        have e7 : (k : Int) < (qs.length : Int) := by omega
        have hq := neqChg ps[k] qs[k]
        have hm := chgGuard
        by_cases he : ps[k] = qs[k]
        · have h3 : decide (ps[k] = qs[k]) = true := by simp [he]
          have HE := hid he
          clear he
          rw [h3] at hq
          clear h3
          go_wp2_with fail
          go_quiet (fail)
          go_wp2_with fail
          go_roundw
          case rel => exact ⟨k + 1, by omega, by go_num, sameC_succ HST.out hlt hlt' HE.out, HD.out.drewN _⟩
          case measure => simp [intOf]; omega
        · have h3 : decide (ps[k] = qs[k]) = false := by simp [he]
          have HE := hid he
          clear he
          rw [h3] at hq
          clear h3
          go_wp2_with fail
          go_quiet (fail)
          go_wp2_with fail
          go_ret
          refine ⟨ret_bool ?_, HD.out.drewN _⟩
          rw [eq_comm, decide_eq_false_iff_not]
          intro e
          exact HE.out (by simp only [e])
      · obtain rfl : k = ps.length := by omega
        have HE : Hid (decide (ps = qs) = true) := by
          rw [Hid, decide_eq_true_eq]
          exact List.ext_getElem G.out fun i h1 h2 => hst i h1 h2 h1
        have HD := hid hbw
        clear hst hbw hr hr'
        go_wp2_with fail
        go_ret
        exact ⟨ret_bool HE.out.symm, HD.out⟩
  · have g0 : ((ps.length : Int) != (qs.length : Int)) = true := by simp; omega
    have HN : Hid (decide (ps = qs) = false) := by
      rw [Hid, decide_eq_false_iff_not]
      rintro rfl
      exact g rfl
    clear g hr hr'
    go_enter Try.func13, Try.ntmps13
    go_wp2_with fail
    go_ret
    exact ⟨ret_bool HN.out.symm, Drawn.refl _⟩

/-- Changes that are drawn. -/
def ChgsD (w : World) (e : Ending) (w' : World) : Prop := ∃ A c ls, e = .returned (.slice A ls.length c) ∧ RC w' w'.heap.size A ls ∧ FitsC ls ∧ ls.length ≤ 5 ∧ Below w.heap.size w w'
/-- A drawn map and drawn changes. -/
def MapChgD (w : World) (e : Ending) (w' : World) : Prop := ∃ A c ps K d ls, e = .returned (.tuple #[.slice A ps.length c, .slice K ls.length d]) ∧ RP w' w'.heap.size A ps ∧ VS A c ps.length ∧ SmallP ps ∧ ps.length ≤ 60 ∧ RC w' w'.heap.size K ls ∧ VS K d ls.length ∧ FitsC ls ∧ ls.length ≤ 5 ∧ Below w.heap.size w w'
/-- Changes twice. -/
def TwoChgD (w : World) (e : Ending) (w' : World) : Prop := ∃ A c ks K d ls, e = .returned (.tuple #[.slice A ks.length c, .slice K ls.length d]) ∧ RC w' w'.heap.size A ks ∧ VS A c ks.length ∧ FitsC ks ∧ ks.length ≤ 5 ∧ RC w' w'.heap.size K ls ∧ VS K d ls.length ∧ FitsC ls ∧ ls.length ≤ 5 ∧ Below w.heap.size w w'
theorem OwnC.vs {w : World} {B c : Nat} {A : Option Addr} {ls : CS} (h : OwnC w B A c ls) : VS A c ls.length := by
  rcases h.2 with ⟨hv, hn⟩ | ⟨g, cap, cur, hv, _, _, hnc, hcm, _⟩
  · injection hv with e1 e2 e3
    exact .inl ⟨e1, e3, hn⟩
  · injection hv with e1 e2 e3
    subst e3
    exact .inr ⟨g, 0, e1, hnc, hcm⟩

set_option maxHeartbeats 4000000 in
set_option maxRecDepth 100000 in
theorem drawDeltaOk_any (A : Option Addr) (n c : Nat) (w : World) (hc : CB w w.heap.size A n) (hn : n ≤ 1048576) :
    Calls Try.prog 12 #[.slice A n c] w (ChgsD w) := by
  have HC := hid hc
  clear hc
  go_enter Try.func12, Try.ntmps12
  go_wp2_with fail
  refine (open_any A n c _).mono ?_
  rintro e w1 ⟨rfl, hw1⟩
  obtain ⟨hr1, hb1, hc1⟩ := rd_start HC.out hn hw1
  have HR1 := hid hr1
  have HB1 := hid hb1
  have hsz1 : w.heap.size < w1.heap.size := hr1.lt.1
  clear hw1 hr1 hb1 hc1
  go_wp2_with fail
  refine (changes_any w.heap.size w.heap.size 5 _ HR1.out (by omega)).mono ?_
  rintro e w2 ⟨A2, c2, ls, rfl, ho2, ht2, hl2, hr2, hg2⟩
  have HO2 := hid ho2
  have HT2 := hid ht2
  have HR2 := hid hr2
  have HB2 := hid (HB1.out.grown hg2 HB1.out.size (by simp))
  clear ho2 ht2 hr2 hg2
  go_wp2_with fail
  refine (once_any w.heap.size w.heap.size 2 _ HR2.out (by omega) (by omega)).mono ?_
  rintro e w3 ⟨fl, rfl, hr3, hg3⟩
  have HO3 := hid (HO2.out.keep_g hg3 hsz1)
  have HB3 := hid (HB2.out.grown hg3 HB2.out.size (by simp))
  clear hr3 hg3
  cases fl
  · have HL3 := hid HO3.out.rh
    have HM := hid (OwnC.made (w := w3) (Nat.le_refl _) #[] 0 rfl (Nat.zero_le _))
    go_wp2_with fail
    go_loopw [5, 6] (fun q i wr => ∃ (k n : Nat) (A' : Option Addr) (c' : Nat), k ≤ ls.length ∧ i = .int .i64 k ∧ q = .slice A' n c' ∧ Hid (n = (writeAll [] (ls.take k)).length) ∧ Hid (OwnC wr w3.heap.size A' c' (writeAll [] (ls.take k))) ∧ Hid (Below w3.heap.size w3 wr)) (fun _ i _ => ls.length - (intOf i).toNat)
    case atStart => exact ⟨0, 0, _, 0, Nat.zero_le _, rfl, rfl, rfl, HM.out, (Below.refl _ _).alloc (Nat.le_refl _) _⟩
    case round =>
      obtain ⟨k, n, A', c', hk, rfl, rfl, HN', HP, HD⟩ := hrel
      by_cases hlt : k < ls.length
      · obtain ⟨b, off, rfl, hgb, hc1, hc2, hc3⟩ := (HL3.out.below HD.out).at_ hlt
        have HP2 := hid (writeAll_succ [] hlt)
        have HSM := hid (len_all ls k)
        have e5 : (0 : Int) ≤ (k : Int) := by omega
        have e6 : (k : Int) < (ls.length : Int) := by omega
        have en := HN'.out
        subst en
        generalize writeAll [] (ls.take k) = P at *
        go_wp2_with (go_at_call 38; refine (spec_l6Write A' c' P ls[k] _ (OwnC.rh HP.out) (by have := HSM.out; omega)).mono ?_; rintro e w5 ⟨A5, c5, rfl, ho5, hb5⟩; have HO5 := hid ho5; have HB5 := hid hb5; clear ho5 hb5)
        go_roundw
        case rel => exact ⟨k + 1, _, _, _, by omega, by go_num, rfl, (by rw [HP2.out]; rfl), (by rw [HP2.out]; exact HO5.out.mono HD.out.size), HD.out.trans (HB5.out.mono HD.out.size)⟩
        case measure => simp [intOf]; omega
      · obtain rfl : k = ls.length := by omega
        have HSM := hid (len_all ls ls.length)
        rw [List.take_length] at HN' HP HSM
        have en := HN'.out
        subst en
        go_wp2_with fail
        go_ret
        exact ⟨A', c', _, rfl, HP.out.rh, (TinyC.all (fun x hx => by simp at hx) HT2.out).fits, Nat.le_trans HSM.out hl2, HB3.out.trans (HD.out.mono HB3.out.size)⟩
  · go_wp2_with fail
    go_ret
    exact ⟨A2, c2, ls, rfl, HO3.out.rh, HT2.out.fits, hl2, HB3.out⟩

set_option maxHeartbeats 4000000 in
set_option maxRecDepth 100000 in
theorem drawChanged_any (A : Option Addr) (n c : Nat) (w : World) (hc : CB w w.heap.size A n) (hn : n ≤ 1048576) :
    Calls Try.prog 21 #[.slice A n c] w (MapChgD w) := by
  have HC := hid hc
  clear hc
  go_enter Try.func21, Try.ntmps21
  go_wp2_with fail
  refine (open_any A n c _).mono ?_
  rintro e w1 ⟨rfl, hw1⟩
  obtain ⟨hr1, hb1, hc1⟩ := rd_start HC.out hn hw1
  have HR1 := hid hr1
  have HB1 := hid hb1
  have hsz1 : w.heap.size < w1.heap.size := hr1.lt.1
  clear hw1 hr1 hb1 hc1
  go_wp2_with fail
  refine (pairs_any w.heap.size w.heap.size 7 _ HR1.out (by omega)).mono ?_
  rintro e w2 ⟨A2, c2, ps, rfl, ho2, hm2, hr2, hg2⟩
  have HO2 := hid ho2
  have HR2 := hid hr2
  have HB2 := hid (HB1.out.grown hg2 HB1.out.size (by simp))
  have hsz2 : w1.heap.size ≤ w2.heap.size := hg2.size
  clear ho2 hr2 hg2
  go_wp2_with fail
  refine (bent_any w.heap.size w1.heap.size w.heap.size A2 c2 ps _ HR2.out HO2.out hsz1 hm2 hsz2).mono ?_
  rintro e w3 ⟨A3, c3, rs, rfl, ho3, hs3, hl3, hr3, hk3⟩
  have HO3 := hid ho3
  have HS3 := hid hs3
  have HR3 := hid hr3
  have HB3 := hid (HB2.out.trans (hk3.low (by omega) (Nat.le_refl _)))
  clear ho3 hs3 hr3
  go_wp2_with fail
  refine (delta_any w.heap.size w.heap.size _ HR3.out).mono ?_
  rintro e w4 ⟨A4, c4, ls, rfl, ho4, ht4, hl4, hr4, hg4⟩
  have HO4 := hid ho4
  have HT4 := hid ht4.fits
  have HM4 := hid (HO3.out.keep_g hg4 hsz1)
  have HB4 := hid (HB3.out.grown hg4 HB3.out.size (by simp))
  clear ho4 ht4 hr4 hg4
  go_wp2_with fail
  go_ret2
  exact ⟨A3, c3, rs, A4, c4, ls, rfl, HM4.out.rp, HM4.out.vs, HS3.out, hl3, HO4.out.rh, HO4.out.vs, HT4.out, hl4, HB4.out⟩

set_option maxHeartbeats 4000000 in
set_option maxRecDepth 100000 in
theorem drawJoined_any (A : Option Addr) (n c : Nat) (w : World) (hc : CB w w.heap.size A n) (hn : n ≤ 1048576) :
    Calls Try.prog 18 #[.slice A n c] w (TwoChgD w) := by
  have HC := hid hc
  clear hc
  go_enter Try.func18, Try.ntmps18
  go_wp2_with fail
  refine (open_any A n c _).mono ?_
  rintro e w1 ⟨rfl, hw1⟩
  obtain ⟨hr1, hb1, hc1⟩ := rd_start HC.out hn hw1
  have HR1 := hid hr1
  have HB1 := hid hb1
  have hsz1 : w.heap.size < w1.heap.size := hr1.lt.1
  clear hw1 hr1 hb1 hc1
  go_wp2_with fail
  refine (delta_any w.heap.size w.heap.size _ HR1.out).mono ?_
  rintro e w2 ⟨A2, c2, ks, rfl, ho2, ht2, hl2, hr2, hg2⟩
  have HO2 := hid ho2
  have HT2 := hid ht2.fits
  have HR2 := hid hr2
  have HB2 := hid (HB1.out.grown hg2 HB1.out.size (by simp))
  clear ho2 ht2 hr2 hg2
  go_wp2_with fail
  refine (delta_any w.heap.size w.heap.size _ HR2.out).mono ?_
  rintro e w4 ⟨A4, c4, ls, rfl, ho4, ht4, hl4, hr4, hg4⟩
  have HO4 := hid ho4
  have HT4 := hid ht4.fits
  have HM4 := hid (HO2.out.keep_g hg4 hsz1)
  have HB4 := hid (HB2.out.grown hg4 HB2.out.size (by simp))
  clear ho4 ht4 hr4 hg4
  go_wp2_with fail
  go_ret2
  exact ⟨A2, c2, ks, A4, c4, ls, rfl, HM4.out.rh, HM4.out.vs, HT2.out, hl2, HO4.out.rh, HO4.out.vs, HT4.out, hl4, HB4.out⟩
end Go.Proofs.Ytoipcjdpfbgghab
