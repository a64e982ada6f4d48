/-
  FnWaits: the walk.
-/
import Derived.Test.YtjdmaoegfpgfjaaLkLaw
import Derived.Test.YtjdmaoegfpgfjaaDrawLO
import Derived.Test.YtjdmaoegfpgfjaaEdgeI
import Derived.Test.YtjdmaoegfpgfjaaEdgeS
namespace Go.Proofs.Ytjdmaoegfpgfjaa
open Go.ChangeShapes Go.WideShapes Go.ChangeAt Go.RowKit

theorem waits_stands {h l : HS} {z : ED} (hz : z ∈ waitsR h l) : ∃ x ∈ l, x.1 = z.1 := by
  unfold waitsR at hz
  split at hz
  · exact edge_stands hz
  · simp at hz
theorem waits_ne {h l : HS} {z : ED} (hz : z ∈ waitsR h l) : z.1 ≠ z.2 := by
  unfold waitsR at hz
  split at hz
  · rename_i hlk
    exact edge_ne (linesB_iff2.1 (locksB_iff.1 hlk).2.1).2 hz
  · simp at hz
theorem waits_rise {h l : HS} {i : Nat} (hi : i + 1 < (waitsR h l).length) : ltE (waitsR h l)[i] (waitsR h l)[i + 1] = true := by
  cases hlk : locksB h l
  · have e : waitsR h l = [] := by rw [waitsR, hlk]; rfl
    simp [e] at hi
  · have e : waitsR h l = edgesL h l := by rw [waitsR, hlk]; rfl
    simp only [e] at hi ⊢
    exact edge_rise hi

set_option maxHeartbeats 16000000 in
set_option maxRecDepth 200000 in
theorem waits_walk (A : Option Addr) (n c : Nat) (w : World) (hc : CB w w.heap.size A n) (hn : n ≤ maxLen) :
    Calls Try.prog 9 #[.slice A n c] w fun e w' => e = .returned (.bool true) ∧ Below w.heap.size w w' := by
  have HC := hid hc
  clear hc
  unfold maxLen at hn
  go_enter Try.func9, Try.ntmps9
  go_wp2_with fail
  refine (bigK_any A n c _).mono ?_
  rintro e w0 ⟨rfl, rfl⟩
  by_cases hbig : (1048576 : Int) < (n : Int)
  · go_wp2_with fail
    go_ret
    exact ⟨rfl, Below.refl _ _⟩
  go_wp2_with fail
  refine (drawWaits_any A n c _ HC.out (by omega)).mono ?_
  rintro e w1 ⟨A1, c1, h, K1, d1, l, rfl, ho1, hl1, hf1, hg1, ht1, hb1⟩
  have hvb : Below w1.heap.size w1 (w1.alloc (.cells #[.slice A1 h.length c1, .slice K1 l.length d1] 39)) := Bl.al (Below.refl _ _)
  have V := hid (Row2.lit w1 39 (.slice A1 h.length c1) (.slice K1 l.length d1))
  have RA := hid (ho1.below hvb).rh
  have RK := hid (hl1.below hvb).rh
  have CA := hid ho1.cap
  have CK := hid hl1.cap
  have HF := hid hf1
  have HG := hid hg1
  have hll : l.length ≤ 10 := by omega
  have HB2 := hid (hb1.trans (hvb.mono hb1.size))
  have HH := hid (Nat.le_trans ho1.cap.1 ho1.cap.2)
  have HL := hid (Nat.le_trans hl1.cap.1 hl1.cap.2)
  clear ho1 hl1 hf1 hg1 ht1 hb1 hvb hbig
  go_wp2_with fail
  generalize hw2 : w1.alloc (.cells #[.slice A1 h.length c1, .slice K1 l.length d1] 39) = w2 at *
  clear hw2
  refine (impl_WaitsFor A1 c1 h K1 d1 l w2 RA.out HF.out CA.out.1 CA.out.2 RK.out HG.out CK.out.1 CK.out.2).mono ?_
  rintro e w3 ⟨A3, c3, rfl, hE3, hb3⟩
  have NE3 := hid hE3.re
  have C2_3 := hid hb3
  have HB3 := hid (HB2.out.trans (hb3.mono HB2.out.size))
  have v0 := (V.out.below hb3).c0
  have v1 := (V.out.below hb3).c1
  have LE := hid hE3.cap
  clear hE3 hb3
  go_wp2_with fail
  clear v0 v1
  refine (spec_WaitsFor A1 c1 h K1 d1 l w3 ((RA.out.below C2_3.out).more C2_3.out.size) HF.out HH.out ((RK.out.below C2_3.out).more C2_3.out.size) HG.out HL.out).mono ?_
  rintro e w4 ⟨b4, off4, c4, rfl, hr4, hn4, hm4, hb4⟩
  have HV : Hid (∀ z ∈ (waitsR h l), ∃ x ∈ l, x.1 = z.1) := fun z hz => waits_stands hz
  have HN : Hid (∀ z ∈ (waitsR h l), z.1 ≠ z.2) := fun z hz => waits_ne hz
  have HR : Hid (∀ (i : Nat) (hi : i + 1 < (waitsR h l).length), ltE (waitsR h l)[i] (waitsR h l)[i + 1] = true) := fun i hi => waits_rise hi
  have hlen : (waitsR h l).length ≤ 30000 := waitsR_len h l
  have E4 := hid ((NE3.out.below hb4).more hb4.size)
  have F4 := hid hr4
  have C2_4 := hid (C2_3.out.trans (hb4.mono C2_3.out.size))
  have HB4 := hid (HB3.out.trans (hb4.mono HB3.out.size))
  have V4 := hid (V.out.below C2_4.out)
  have RK4 := hid ((RK.out.below C2_4.out).more C2_4.out.size)
  have NC := hid hn4
  have NM := hid hm4
  clear hr4 hn4 hm4 hb4
  have q0 : (((waitsR h l).length : Int) != ((waitsR h l).length : Int)) = false := by simp
  go_wp2_with fail
  clear q0
  go_loopw [6] (fun iv wr => ∃ i : Nat, i ≤ (waitsR h l).length ∧ iv = .int .i64 (i : Int) ∧ Hid (Below w4.heap.size w4 wr)) (fun iv _ => (waitsR h l).length - (intOf iv).toNat)
  case atStart => exact ⟨0, Nat.zero_le _, rfl, Below.refl _ _⟩
  case round =>
    obtain ⟨i, hi, rfl, HA⟩ := hrel
    by_cases hlt : i < (waitsR h l).length
    · obtain ⟨b, off, hK, hb, hc1, hc2⟩ := ((E4.out.below HA.out).more HA.out.size).at_ hlt
      subst hK
      have HST := hid (HV.out _ (List.getElem_mem hlt))
      have EA := hid ((E4.out.below HA.out).more HA.out.size)
      have FA := hid ((F4.out.below HA.out).more HA.out.size)
      go_wp2_with fail
      obtain ⟨wa, rfl⟩ : ∃ wa, wa = wr := ⟨_, rfl⟩
      have v0 := (V4.out.below HA.out).c0
      have v1 := (V4.out.below HA.out).c1
      go_loopw [7, 8] (fun sv kv wr => ∃ (k : Nat) (st : Bool), k ≤ l.length ∧ kv = .int .i64 (k : Int) ∧ sv = .bool st ∧ Hid (st = ((l.take k).any fun x => decide (x.1 = (waitsR h l)[i].1))) ∧ Hid (Drawn wa wr)) (fun _ kv _ => l.length - (intOf kv).toNat)
      case atStart => exact ⟨0, false, Nat.zero_le _, rfl, rfl, rfl, Drawn.refl _⟩
      case round =>
        obtain ⟨k, st, hk, rfl, rfl, HSV, HDR⟩ := hrel
        have HB := hid (HDR.out.below (B := wa.heap.size))
        have HB5 := hid (HA.out.trans ((HDR.out.below (B := wa.heap.size)).mono HA.out.size))
        have v0 := (V4.out.below HB5.out).c0
        have v1 := (V4.out.below HB5.out).c1
        by_cases hlk : k < l.length
        · obtain ⟨b2, off2, hK2, hb2, hd1, hd2, hd3⟩ := ((RK4.out.below HB5.out).more HB5.out.size).at_ hlk
          subst hK2
          obtain ⟨b5, off5, hK5, hb5, he1, he2⟩ := ((E4.out.below HB5.out).more HB5.out.size).at_ hlt
          have hBO : b5 = b ∧ off5 = off := by
            injection hK5 with h1
            injection h1 with h1 h2
            exact ⟨h1.symm, h2.symm⟩
          obtain ⟨rfl, rfl⟩ := hBO
          clear hK5
          have HTS := hid (any_take_succ hlk (fun x : Int × ByteArray × Int => decide (x.1 = (waitsR h l)[i].1)))
          have i1 : (0 : Int) ≤ (i : Int) := by omega
          have i2 : (i : Int) < ((waitsR h l).length : Int) := by omega
          have k1 : (0 : Int) ≤ (k : Int) := by omega
          have k2 : (k : Int) < (l.length : Int) := by omega
          cases st
          case true =>
            have HX : Hid (true = ((l.take (k + 1)).any fun x => decide (x.1 = (waitsR h l)[i].1))) := by rw [Hid, HTS.out, ← HSV.out]; rfl
            go_wp2_with fail
            go_quiet (fail)
            go_wp2_with fail
            go_roundw
            case rel => exact ⟨k + 1, true, by omega, by go_num, rfl, HX.out, HDR.out.drewN _⟩
            case measure => simp [intOf]; omega
          case false =>
            by_cases htx : l[k].1 = (waitsR h l)[i].1
            · have g1 := eqI_true htx
              have HX : Hid (true = ((l.take (k + 1)).any fun x => decide (x.1 = (waitsR h l)[i].1))) := by rw [Hid, HTS.out]; simp [htx]
              clear htx
              go_wp2_with fail
              go_quiet (fail)
              go_wp2_with fail
              go_roundw
              case rel => exact ⟨k + 1, _, by omega, by go_num, rfl, HX.out, HDR.out.drewN _⟩
              case measure => simp [intOf]; omega
            · have g1 := eqI_false htx
              have HX : Hid (false = ((l.take (k + 1)).any fun x => decide (x.1 = (waitsR h l)[i].1))) := by rw [Hid, HTS.out, ← HSV.out]; simp [htx]
              clear htx
              go_wp2_with fail
              go_quiet (fail)
              go_wp2_with fail
              go_roundw
              case rel => exact ⟨k + 1, _, by omega, by go_num, rfl, HX.out, HDR.out.drewN _⟩
              case measure => simp [intOf]; omega
        · obtain rfl : k = l.length := by omega
          have hst : st = true := by
            rw [HSV.out, List.take_length]
            obtain ⟨x, hx, e⟩ := HST.out
            exact List.any_eq_true.2 ⟨x, hx, by simp [e]⟩
          subst hst
          obtain ⟨b5, off5, hK5, hb5, he1, he2⟩ := ((E4.out.below HB5.out).more HB5.out.size).at_ hlt
          have hBO : b5 = b ∧ off5 = off := by
            injection hK5 with h1
            injection h1 with h1 h2
            exact ⟨h1.symm, h2.symm⟩
          obtain ⟨rfl, rfl⟩ := hBO
          obtain ⟨b6, off6, hK6, hb6, hf1, hf2⟩ := ((F4.out.below HB5.out).more HB5.out.size).at_ hlt
          have hBP : b6 = b4 ∧ off6 = off4 := by
            injection hK6 with h1
            injection h1 with h1 h2
            exact ⟨h1.symm, h2.symm⟩
          obtain ⟨rfl, rfl⟩ := hBP
          clear hK5 hK6
          have i1 : (0 : Int) ≤ (i : Int) := by omega
          have i2 : (i : Int) < ((waitsR h l).length : Int) := by omega
          have hq := neEdgeV (waitsR h l)[i] (waitsR h l)[i]
          have hqd : (!decide ((waitsR h l)[i] = (waitsR h l)[i])) = false := by simp
          rw [hqd] at hq
          have g1 := eqI_false (HN.out _ (List.getElem_mem hlt))
          clear hqd
          by_cases hi0 : i = 0
          case pos =>
            have z1 : decide ((0 : Int) < (i : Int)) = false := decide_eq_false (by omega)
            have z2 : ¬ (0 : Int) < (i : Int) := by omega
            have z3 : decide (0 < i) = false := decide_eq_false (by omega)
            have z4 : ¬ 0 < i := by omega
            clear hi0
            go_wp2_with fail
            go_quiet (fail)
            go_wp2_with fail
            go_roundw
            case rel => exact ⟨i + 1, by omega, by go_num, Below.drewN_ HB5.out _⟩
            case measure => simp [intOf]; omega
          case neg =>
            obtain ⟨j, rfl⟩ : ∃ j, i = j + 1 := ⟨i - 1, by omega⟩
            clear hi0
            have hj : j < (waitsR h l).length := by omega
            obtain ⟨b7, off7, hK7, hb7, hh1, hh2⟩ := ((E4.out.below HB5.out).more HB5.out.size).at_ hj
            have hBQ : b7 = b5 ∧ off7 = off5 := by
              injection hK7 with h1
              injection h1 with h1 h2
              exact ⟨h1.symm, h2.symm⟩
            obtain ⟨rfl, rfl⟩ := hBQ
            clear hK7
            have hlt' := HR.out j hlt
            have j1 : (0 : Int) ≤ (j : Int) := by omega
            have j2 : (j : Int) < ((waitsR h l).length : Int) := by omega
            have j3 : (0 : Int) < (j : Int) + 1 := by omega
            have j4 : decide ((0 : Int) < (j : Int) + 1) = true := decide_eq_true (by omega)
            have j5 : ((j : Int) + 1 > 0) := by omega
            rw [ltE, Bool.or_eq_true] at hlt'
            rcases hlt' with hlt' | hlt'
            · have hl1 := of_decide_eq_true hlt'
              have p1 : decide ((waitsR h l)[j].1 > (waitsR h l)[j + 1].1) = false := by simp; omega
              have p2 : ((waitsR h l)[j].1 == (waitsR h l)[j + 1].1) = false := eqI_false (by omega)
              have p3 : decide ((waitsR h l)[j + 1].1 < (waitsR h l)[j].1) = false := decide_eq_false (by omega)
              have p4 : ¬ (waitsR h l)[j + 1].1 < (waitsR h l)[j].1 := by omega
              clear hlt'
              go_wp2_with fail
              go_quiet (fail)
              go_wp2_with fail
              go_roundw
              case rel => exact ⟨j + 2, by omega, by go_num, Below.drewN_ HB5.out _⟩
              case measure => simp [intOf]; omega
            · rw [Bool.and_eq_true] at hlt'
              have hl1 := of_decide_eq_true hlt'.1
              have hl2 := of_decide_eq_true hlt'.2
              have p1 : decide ((waitsR h l)[j].1 > (waitsR h l)[j + 1].1) = false := by simp; omega
              have p2 : ((waitsR h l)[j].1 == (waitsR h l)[j + 1].1) = true := eqI_true hl1
              have p3 : decide ((waitsR h l)[j].2 ≥ (waitsR h l)[j + 1].2) = false := by simp; omega
              have p4 : decide ((waitsR h l)[j + 1].1 < (waitsR h l)[j].1) = false := decide_eq_false (by omega)
              have p5 : ¬ (waitsR h l)[j + 1].1 < (waitsR h l)[j].1 := by omega
              have p6 : decide ((waitsR h l)[j + 1].2 ≤ (waitsR h l)[j].2) = false := decide_eq_false (by omega)
              have p7 : ¬ (waitsR h l)[j + 1].2 ≤ (waitsR h l)[j].2 := by omega
              clear hlt' hl1
              go_wp2_with fail
              go_quiet (fail)
              go_wp2_with fail
              go_roundw
              case rel => exact ⟨j + 2, by omega, by go_num, Below.drewN_ HB5.out _⟩
              case measure => simp [intOf]; omega
    · obtain rfl : i = (waitsR h l).length := by omega
      go_wp2_with fail
      go_ret
      exact ⟨rfl, HB4.out.trans (HA.out.mono HB4.out.size)⟩
end Go.Proofs.Ytjdmaoegfpgfjaa
