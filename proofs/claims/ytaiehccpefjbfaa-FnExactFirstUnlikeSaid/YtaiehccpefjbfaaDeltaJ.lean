/-
  The program's Contains; what makes one map of another one; DeltaOf and Joined of both.
-/
import Derived.Test.YtaiehccpefjbfaaDeltaI
namespace Go.Proofs.Ytaiehccpefjbfaa
open Go.RowKit

def noneP (ps : PS) (p : BB) (k : Nat) : Prop := ∀ (i : Nat) (h : i < ps.length), i < k → ps[i] ≠ p
theorem noneP_succ {ps : PS} {p : BB} {k : Nat} (h : noneP ps p k) (hk : k < ps.length) (h1 : p ≠ ps[k]) : noneP ps p (k + 1) := by
  intro i hi hlt
  by_cases e : i = k
  · subst e; exact fun e => h1 e.symm
  · exact h i hi (by omega)
theorem noneP_end {ps : PS} {p : BB} (h : noneP ps p ps.length) : (ps.any fun q => decide (q = p)) = false := by
  rw [List.any_eq_false]
  intro q hq
  obtain ⟨i, hi, rfl⟩ := List.getElem_of_mem hq
  simpa using h i hi hi
theorem someP {ps : PS} {p : BB} {k : Nat} (hk : k < ps.length) (h : p = ps[k]) : (ps.any fun q => decide (q = p)) = true := by
  rw [List.any_eq_true]
  exact ⟨_, List.getElem_mem hk, by simp [h]⟩
/-- What Index answers: below 0 where it is not. -/
def IndexP (ps : PS) (p : BB) (w : World) (e : Ending) (w' : World) : Prop := ∃ i : Int, e = .returned (.int .i64 i) ∧ -1 ≤ i ∧ i ≤ (ps.length : Int) ∧ (decide (0 ≤ i) = ps.any fun q => decide (q = p)) ∧ Below w.heap.size w w'

set_option maxHeartbeats 1000000 in
theorem index_any (A : Option Addr) (c : Nat) (ps : PS) (p : BB) (w : World) (hr : RP w w.heap.size A ps) (hn : ps.length ≤ maxLen) :
    Calls Try.prog 154 #[.slice A ps.length c, .agg #[.string p.1, .string p.2]] w (IndexP ps p w) := by
  unfold maxLen at hn
  have HR := hid hr
  have hb0 : Below w.heap.size w (w.alloc (.cells #[.string p.1, .string p.2] 172)) := (Below.refl _ _).alloc (Nat.le_refl _) _
  have HB0 := hid hb0
  have HX : Hid (∀ wr : World, Below (w.heap.size + 1) (w.alloc (.cells #[.string p.1, .string p.2] 172)) wr → wr.cell? ⟨w.heap.size, 0, none⟩ = some (.string p.1) ∧ wr.cell? ⟨w.heap.size, 1, none⟩ = some (.string p.2)) := by
    intro wr h
    refine ⟨(h.cell (p := ⟨w.heap.size, 0, none⟩) (Nat.lt_succ_self _)).trans (by go_simp), (h.cell (p := ⟨w.heap.size, 1, none⟩) (Nat.lt_succ_self _)).trans (by go_simp)⟩
  clear hr hb0
  have hm := pairGuard
  go_enter Try.func154, Try.ntmps154
  go_wp2_with fail
  go_loopw [8] (fun i wr => ∃ k : Nat, k ≤ ps.length ∧ i = .int .i64 k ∧ noneP ps p k ∧ Below (w.heap.size + 1) (w.alloc (.cells #[.string p.1, .string p.2] 172)) wr) (fun i _ => ps.length - (intOf i).toNat)
  case atStart => exact ⟨0, Nat.zero_le _, rfl, fun i _ h => absurd h (by omega), Below.refl _ _⟩
  case round =>
    obtain ⟨k, hk, rfl, hnp, hbw⟩ := hrel
    have HD := hid hbw
    have hbw2 : Below w.heap.size w wr := HB0.out.trans (hbw.mono (by omega))
    have HD2 := hid hbw2
    by_cases hlt : k < ps.length
    · obtain ⟨b, off, rfl, hb, hc1, hc2⟩ := (HR.out.below hbw2).at_ hlt
      obtain ⟨hx1, hx2⟩ := HX.out _ hbw
      have HS := hid (noneP_succ hnp hlt)
      have HY := hid (@someP ps p k hlt)
      have e5 : (0 : Int) ≤ (k : Int) := by omega
      have e6 : (k : Int) < (ps.length : Int) := by omega
      have hq := eqlPair p ps[k]
      clear hnp hbw hbw2
      by_cases he : p = ps[k]
      · have h3 : decide (p = ps[k]) = true := by simp [he]
        have HE := hid he
        clear he
        rw [h3] at hq
        clear h3
        go_wp2_with fail
        go_quiet (fail)
        go_wp2_with fail
        go_ret
        exact ⟨(k : Int), rfl, by omega, by omega, by rw [HY.out HE.out]; simp, bdN HD2.out _⟩
      · have h3 : decide (p = ps[k]) = false := by simp [he]
        have HE := hid he
        clear he
        rw [h3] at hq
        clear h3
        go_wp2_with fail
        go_quiet (fail)
        go_wp2_with fail
        go_roundw
        case rel => exact ⟨k + 1, by omega, by go_num, HS.out HE.out, bdN HD.out _⟩
        case measure => simp [intOf]; omega
    · obtain rfl : k = ps.length := by omega
      have HE := hid (noneP_end hnp)
      clear hnp hbw hbw2
      go_wp2_with fail
      go_ret
      exact ⟨-1, rfl, by omega, by omega, by rw [HE.out]; rfl, HD2.out⟩

theorem contains_any (A : Option Addr) (c : Nat) (ps : PS) (p : BB) (w : World) (hr : RP w w.heap.size A ps) (hn : ps.length ≤ maxLen) :
    Calls Try.prog 135 #[.slice A ps.length c, .agg #[.string p.1, .string p.2]] w fun e w' => e = .returned (.bool (ps.any fun q => decide (q = p))) ∧ Below w.heap.size w w' := by
  have hb0 : Below w.heap.size w (w.alloc (.cells #[.string p.1, .string p.2] 172)) := (Below.refl _ _).alloc (Nat.le_refl _) _
  have HR := hid ((hr.below hb0).more hb0.size)
  have HB0 := hid hb0
  have HN := hid hn
  clear hr hb0 hn
  cases ha : ps.any fun q => decide (q = p)
  · go_enter Try.func135, Try.ntmps135
    go_wp2_with (go_at_call 154; refine (index_any A c ps p _ HR.out HN.out).mono ?_; rintro e w2 ⟨i, rfl, hi1, hi2, hd, hb⟩; rw [ha] at hd; have hi3 : ¬ (0 : Int) ≤ i := of_decide_eq_false hd; have HB := hid (HB0.out.trans (hb.mono HB0.out.size)); clear hb)
    go_ret
    exact ⟨rfl, HB.out⟩
  · go_enter Try.func135, Try.ntmps135
    go_wp2_with (go_at_call 154; refine (index_any A c ps p _ HR.out HN.out).mono ?_; rintro e w2 ⟨i, rfl, hi1, hi2, hd, hb⟩; rw [ha] at hd; have hi3 : (0 : Int) ≤ i := of_decide_eq_true hd; have HB := hid (HB0.out.trans (hb.mono HB0.out.size)); clear hb)
    go_ret
    exact ⟨rfl, HB.out⟩

theorem goneL_small (a b : PS) (k : Nat) : (goneL (a.take k) b).length ≤ a.length := by
  have h2 := goneL_len (a.take k) b
  have h3 : (a.take k).length ≤ a.length := by rw [List.length_take]; omega
  omega
theorem putsL_small (a b : PS) (k : Nat) : (putsL a (b.take k)).length ≤ b.length := by
  have h2 := putsL_len a (b.take k)
  have h3 : (b.take k).length ≤ b.length := by rw [List.length_take]; omega
  omega

set_option maxHeartbeats 4000000 in
set_option maxRecDepth 100000 in
theorem impl_deltaBetween (A : Option Addr) (c : Nat) (a : PS) (K : Option Addr) (d : Nat) (b : PS) (w : World) (hr : RP w w.heap.size A a) (hk : RP w w.heap.size K b) (ha : a.length ≤ 900) (hb : b.length ≤ 900) (sa : risesB a = true) (sb : risesB b = true) :
    Calls Try.prog 93 #[.slice A a.length c, .slice K b.length d] w (MadeC w w.heap.size (deltaL a b)) := by
  obtain ⟨i0, hi0, hz0, hz1, hz2⟩ := info_parts chgInfo
  have HR := hid hr
  have HK := hid hk
  have HSA := hid sa
  have HSB := hid sb
  clear hr hk sa sb
  go_enter Try.func93, Try.ntmps93
  go_wp2_with fail
  go_loopw [5, 15] (fun q i wr => ∃ (k n : Nat) (A' : Option Addr) (c' : Nat), k ≤ a.length ∧ i = .int .i64 k ∧ q = .slice A' n c' ∧ Hid (n = (goneL (a.take k) b).length) ∧ Hid (OwnC wr w.heap.size A' c' (goneL (a.take k) b)) ∧ Hid (Below w.heap.size w wr)) (fun _ i _ => a.length - (intOf i).toNat)
  case atStart => exact ⟨0, 0, _, _, Nat.zero_le _, rfl, rfl, rfl, OwnC.nil_ _ _, Below.refl _ _⟩
  case round =>
    obtain ⟨k, n, A', c', hk, rfl, rfl, HN', HP, HD⟩ := hrel
    by_cases hlt : k < a.length
    · obtain ⟨g, off, rfl, hgb, hc1, hc2⟩ := (HR.out.below HD.out).at_ hlt
      have HS := hid (goneL_succ b hlt)
      have HSM := hid (goneL_small a b k)
      have hba := (Below.refl wr.heap.size wr).alloc (Nat.le_refl _) (.cells #[.string a[k].1, .string a[k].2] 172)
      have HBA := hid hba
      have HDA := hid (HD.out.trans (hba.mono HD.out.size))
      have HRK := hid ((HK.out.below HDA.out).more HDA.out.size)
      have HPA := hid (HP.out.below hba)
      have HX : Hid (∀ wq : World, Below (wr.heap.size + 1) (wr.alloc (.cells #[.string a[k].1, .string a[k].2] 172)) wq → wq.cell? ⟨wr.heap.size, 0, none⟩ = some (.string a[k].1)) := fun wq h => (h.cell (p := ⟨wr.heap.size, 0, none⟩) (Nat.lt_succ_self _)).trans (by go_simp)
      have e5 : (0 : Int) ≤ (k : Int) := by omega
      have e6 : (k : Int) < (a.length : Int) := by omega
      clear hba
      cases hh : hasK b a[k].1
      · have HP2 : Hid (goneL (a.take (k + 1)) b = goneL (a.take k) b ++ [goneOf a[k]]) := by rw [Hid, HS.out, hh, if_neg (by simp)]
        generalize goneL (a.take k) b = P at *
        go_wp2_with (first
          | (go_at_call 134; refine (impl_valueIn K d b a[k].1 _ HRK.out (by omega) HSB.out).mono ?_; rw [hh]; rintro e w4 ⟨rfl, hb4⟩; have HB4 := hid hb4; have hx4 := HX.out _ (hb4.mono (by simp)); clear hb4)
          | (at_builtin; refine wpList_append_rc _ rfl _ _ _ rfl i0 Try.underlying123 hi0 hz0 hz1 hz2 w.heap.size A' n c' P rfl HN'.out ((HPA.out.below HB4.out).below ((Below.refl _ _).alloc (Nat.le_refl _) _)) _ _ _ _ [(a[k].1, ⟨#[]⟩, true)] rfl rfl (RC.new _ (a[k].1, ⟨#[]⟩, true) _) (by have := HSM.out; simp; omega) (by have := HDA.out.size; have := HB4.out.size; simp at *; omega) ?_; intro A2 n2 c2 w2 hn2 happ2; have HN2 := hid hn2; have HO2 := hid happ2.own; have HB2 := hid (((HDA.out.trans (HB4.out.mono HDA.out.size)).alloc (by have := HDA.out.size; have := HB4.out.size; simp at *; omega) _).trans (happ2.below ((HPA.out.below HB4.out).below ((Below.refl _ _).alloc (Nat.le_refl _) _)) HN'.out (by have := HDA.out.size; have := HB4.out.size; simp at *; omega))); clear hn2 happ2))
        go_roundw
        case rel => exact ⟨k + 1, _, _, _, by omega, by go_num, rfl, (by rw [HP2.out]; exact HN2.out), (by rw [HP2.out]; exact HO2.out), HB2.out⟩
        case measure => simp [intOf]; omega
      · have HP2 : Hid (goneL (a.take (k + 1)) b = goneL (a.take k) b) := by rw [Hid, HS.out, hh, if_pos rfl]
        go_wp2_with (first
          | (go_at_call 134; refine (impl_valueIn K d b a[k].1 _ HRK.out (by omega) HSB.out).mono ?_; rw [hh]; rintro e w4 ⟨rfl, hb4⟩; have HB4 := hid hb4; clear hb4))
        go_roundw
        case rel => exact ⟨k + 1, _, _, _, by omega, by go_num, rfl, (by rw [HP2.out]; exact HN'.out), (by rw [HP2.out]; exact HPA.out.below HB4.out), HDA.out.trans (HB4.out.mono HDA.out.size)⟩
        case measure => simp [intOf]; omega
    · obtain rfl : k = a.length := by omega
      rw [List.take_length] at HN' HP
      have HG := hid (goneL_len a b)
      have HGR := hid (goneL_rises HSA.out b)
      obtain ⟨wg, rfl⟩ : ∃ wg : World, wg = wr := ⟨_, rfl⟩
      go_wp2_with fail
      go_loopw [6, 37] (fun q i wr => ∃ (k n2 : Nat) (A2 : Option Addr) (c2 : Nat), k ≤ b.length ∧ i = .int .i64 k ∧ q = .slice A2 n2 c2 ∧ Hid (n2 = (putsL a (b.take k)).length) ∧ Hid (OwnC wr wg.heap.size A2 c2 (putsL a (b.take k))) ∧ Hid (Below wg.heap.size wg wr)) (fun _ i _ => b.length - (intOf i).toNat)
      case atStart => exact ⟨0, 0, _, _, Nat.zero_le _, rfl, rfl, rfl, OwnC.nil_ _ _, Below.refl _ _⟩
      case round =>
        obtain ⟨k, n2, A2, c2, hk, rfl, rfl, HN2', HP2, HD2⟩ := hrel
        have HD3 := hid (HD.out.trans (HD2.out.mono HD.out.size))
        by_cases hlt : k < b.length
        · obtain ⟨g, off, rfl, hgb, hc1, hc2⟩ := (HK.out.below HD3.out).at_ hlt
          have HS := hid (putsL_succ a hlt)
          have HSM := hid (putsL_small a b k)
          have HTH := hid (there_iff HSA.out b[k])
          have hba := (Below.refl wr.heap.size wr).alloc (Nat.le_refl _) (.cells #[.string b[k].1, .string b[k].2] 172)
          have HDA := hid (HD2.out.trans (hba.mono HD2.out.size))
          have HDB := hid (HD3.out.trans (hba.mono HD3.out.size))
          have HRA := hid ((HR.out.below HDB.out).more HDB.out.size)
          have HPA := hid (HP2.out.below hba)
          have HX : Hid (∀ wq : World, Below (wr.heap.size + 1) (wr.alloc (.cells #[.string b[k].1, .string b[k].2] 172)) wq → wq.cell? ⟨wr.heap.size, 0, none⟩ = some (.string b[k].1) ∧ wq.cell? ⟨wr.heap.size, 1, none⟩ = some (.string b[k].2)) := fun wq h => ⟨(h.cell (p := ⟨wr.heap.size, 0, none⟩) (Nat.lt_succ_self _)).trans (by go_simp), (h.cell (p := ⟨wr.heap.size, 1, none⟩) (Nat.lt_succ_self _)).trans (by go_simp)⟩
          have e5 : (0 : Int) ≤ (k : Int) := by omega
          have e6 : (k : Int) < (b.length : Int) := by omega
          clear hba
          cases hh : a.any fun q => decide (q = b[k])
          · have HPQ : Hid (putsL a (b.take (k + 1)) = putsL a (b.take k) ++ [putOf b[k]]) := by rw [Hid, HS.out, ← HTH.out, hh, if_neg (by simp)]
            generalize putsL a (b.take k) = P at *
            go_wp2_with (first
              | (go_at_call 135; refine (contains_any A c a b[k] _ HRA.out (by unfold maxLen; omega)).mono ?_; rw [hh]; rintro e w4 ⟨rfl, hb4⟩; have HB4 := hid hb4; obtain ⟨hx4, hx5⟩ := HX.out _ (hb4.mono (by simp)); clear hb4)
              | (at_builtin; refine wpList_append_rc _ rfl _ _ _ rfl i0 Try.underlying123 hi0 hz0 hz1 hz2 wg.heap.size A2 n2 c2 P rfl HN2'.out ((HPA.out.below HB4.out).below ((Below.refl _ _).alloc (Nat.le_refl _) _)) _ _ _ _ [(b[k].1, b[k].2, false)] rfl rfl (RC.new _ (b[k].1, b[k].2, false) _) (by have := HSM.out; simp; omega) (by have := HDA.out.size; have := HB4.out.size; simp at *; omega) ?_; intro A3 n3 c3 w3 hn3 happ3; have HN3 := hid hn3; have HO3 := hid happ3.own; have HB3 := hid (((HDA.out.trans (HB4.out.mono HDA.out.size)).alloc (by have := HDA.out.size; have := HB4.out.size; simp at *; omega) _).trans (happ3.below ((HPA.out.below HB4.out).below ((Below.refl _ _).alloc (Nat.le_refl _) _)) HN2'.out (by have := HDA.out.size; have := HB4.out.size; simp at *; omega))); clear hn3 happ3))
            go_roundw
            case rel => exact ⟨k + 1, _, _, _, by omega, by go_num, rfl, (by rw [HPQ.out]; exact HN3.out), (by rw [HPQ.out]; exact HO3.out), HB3.out⟩
            case measure => simp [intOf]; omega
          · have HPQ : Hid (putsL a (b.take (k + 1)) = putsL a (b.take k)) := by rw [Hid, HS.out, ← HTH.out, hh, if_pos rfl]
            go_wp2_with (first
              | (go_at_call 135; refine (contains_any A c a b[k] _ HRA.out (by unfold maxLen; omega)).mono ?_; rw [hh]; rintro e w4 ⟨rfl, hb4⟩; have HB4 := hid hb4; clear hb4))
            go_roundw
            case rel => exact ⟨k + 1, _, _, _, by omega, by go_num, rfl, (by rw [HPQ.out]; exact HN2'.out), (by rw [HPQ.out]; exact HPA.out.below HB4.out), HDA.out.trans (HB4.out.mono HDA.out.size)⟩
            case measure => simp [intOf]; omega
        · obtain rfl : k = b.length := by omega
          rw [List.take_length] at HN2' HP2
          have HPL := hid (putsL_len a b)
          have en1 := HN'.out
          have en2 := HN2'.out
          subst en1 en2
          have HOV := impl_overlaid A' c' (goneL a b) A2 c2 (putsL a b) wr ⟨rfl, (OwnC.rh (HP.out.below HD2.out)), own_part HP.out⟩ ⟨rfl, OwnC.rh HP2.out, own_part HP2.out⟩ (by have := HG.out; omega) (by have := HPL.out; omega)
          have HOVH := hid HOV
          clear HOV
          go_wp2_with (go_at_call 136; refine HOVH.out.mono ?_; rintro e w4 ⟨A4, c4, rfl, ho4, hb4⟩; have HO4 := hid ho4; have HB4 := hid hb4; clear ho4 hb4)
          go_ret
          exact ⟨A4, c4, rfl, HO4.out.mono HD3.out.size, HD3.out.trans (HB4.out.mono HD3.out.size)⟩
end Go.Proofs.Ytaiehccpefjbfaa
