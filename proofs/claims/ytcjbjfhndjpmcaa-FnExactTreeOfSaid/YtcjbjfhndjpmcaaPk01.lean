import Derived.Test.YtcjbjfhndjpmcaaPk00
import Derived.BigQuiet
import Derived.Deep.QuietTactic
import Derived.OwnWalk
import Derived.Outline
import Derived.Deep.RegionHeld3
/-
  The two programs' MapOk: contracts.
-/
namespace Go.Proofs.Ytcjbjfhndjpmcaa
open Go.RowKit

theorem quiet_eq {P : Program} {f : FuncId} {args : Array Value} {w : World} {n : Nat} {v : Value}
    (h : Calls P f args (w.drewN n) fun e w' => e = .returned v ∧ w.drewN n = w') : Calls P f args (w.drewN n) fun e w'' => e = .returned v ∧ ∃ m, w'' = w.drewN m :=
  h.mono fun _ _ ⟨he, hm⟩ => ⟨he, n, hm.symm⟩

/-- All texts are of a length that Go can bear. -/
def Fits (ps : PS) : Prop := ∀ p ∈ ps, p.1.size ≤ maxLen ∧ p.2.size ≤ maxLen
theorem Fits.get {ps : PS} (h : Fits ps) {k : Nat} (hk : k < ps.length) : ps[k].1.size ≤ maxLen ∧ ps[k].2.size ≤ maxLen := h _ (List.getElem_mem hk)

def Drawn (w : World) (w' : World) : Prop := ∃ m, w' = w.drewN m
theorem Drawn.refl (w : World) : Drawn w w := ⟨0, rfl⟩
theorem Drawn.drewN {w w' : World} (h : Drawn w w') (n : Nat) : Drawn w (w'.drewN n) := by
  obtain ⟨m, rfl⟩ := h
  exact ⟨m + n, World.drewN_drewN _ _ _⟩
theorem Drawn.below {w w' : World} (h : Drawn w w') (B : Nat) : Below B w w' := by
  obtain ⟨m, rfl⟩ := h
  exact ⟨rfl, rfl, rfl, Nat.le_refl _, fun _ _ => rfl⟩

/-- What l1Pairs answers. -/
def pairsB (ps : PS) : Bool := ps.all pairB && risesB ps
theorem pairsB_keys {ps : PS} {k : Nat} (hk : k < ps.length) (h : keyB ps[k].1 = false ∨ keyB ps[k].2 = false) : pairsB ps = false := by
  rw [pairsB, keys_bad hk h]; rfl
theorem pairsB_rises {ps : PS} {k : Nat} (hk : k < ps.length) (h0 : 0 < k) (h : ltS (ps[k - 1]'(by omega)).1 ps[k].1 = false) : pairsB ps = false := by
  rw [pairsB, rises_bad hk h0 h, Bool.and_false]
theorem pairsB_end {ps : PS} (h : keysTo ps ps.length) (h' : risesTo ps ps.length) : pairsB ps = true := by
  rw [pairsB, List.all_eq_true.2 (keysTo_end h), risesTo_end h']; rfl

set_option maxHeartbeats 1000000 in
theorem spec_l1Pairs (A : Option Addr) (c : Nat) (ps : PS) (B : Nat) (w : World) (hr : RP w B A ps) (hf : Fits ps) (hn : ps.length ≤ maxLen) :
    Calls Try.prog 105 #[.slice A ps.length c] w fun e w' => e = .returned (.bool (pairsB ps)) ∧ Drawn w w' := by
  unfold maxLen at hn
  go_enter Try.func105, Try.ntmps105
  go_wp2_with fail
  go_loopw [3] (fun i wr => ∃ k : Nat, k ≤ ps.length ∧ i = .int .i64 k ∧ keysTo ps k ∧ risesTo ps k ∧ Drawn w wr) (fun i _ => ps.length - (intOf i).toNat)
  case atStart => exact ⟨0, Nat.zero_le _, rfl, keysTo_zero ps, risesTo_zero ps, Drawn.refl w⟩
  case round =>
    obtain ⟨k, hk, rfl, hks, hrs, hdr⟩ := hrel
    by_cases hlt : k < ps.length
    · obtain ⟨b, off, rfl, hb, hc⟩ : ∃ b off, A = some ⟨b, off, none⟩ ∧ b < B ∧ ∀ i (hi : i < ps.length), wr.cell? ⟨b, off + i * 2, none⟩ = some (.string ps[i].1) ∧ wr.cell? ⟨b, off + i * 2 + 1, none⟩ = some (.string ps[i].2) := by
        rcases hr with rfl | ⟨b, off, e, hb, hc⟩
        · simp at hlt
        · obtain ⟨m, rfl⟩ := hdr
          exact ⟨b, off, e, hb, fun i hi => hc i _ (List.getElem?_eq_getElem hi)⟩
      have hc1 := (hc k hlt).1
      have hc2 := (hc k hlt).2
      have HF := hid (hf.get hlt)
      have HB := hid (@pairsB_keys ps k hlt)
      have HK := hid (keysTo_succ hks hlt)
      have HR := hid (risesTo_succ hrs hlt)
      have HD := hid hdr
      have HC := hid hc
      have HRB := hid (@pairsB_rises ps k hlt)
      clear hdr hrs hks hc hr hf
      cases h1 : keyB ps[k].1
      · go_wp2_with fail
        go_quiet ((go_at_call 71; exact quiet_eq (spec_KeyOk _ _ HF.out.1)))
        go_wp2_with fail
        go_ret
        exact ⟨ret_bool (HB.out (.inl h1)).symm, HD.out.drewN _⟩
      · cases h2 : keyB ps[k].2
        · go_wp2_with fail
          go_quiet ((go_at_call 71; first | exact quiet_eq (spec_KeyOk _ _ HF.out.1) | exact quiet_eq (spec_KeyOk _ _ HF.out.2)))
          go_wp2_with fail
          go_ret
          exact ⟨ret_bool (HB.out (.inr h2)).symm, HD.out.drewN _⟩
        · by_cases h0 : 0 < k
          · have hp := (HC.out (k - 1) (by omega)).1
            have h0' : decide (0 < k) = true := by simpa using h0
            cases h3 : ltS ps[k - 1].1 ps[k].1
            · have h4 : Op.bytesLess ps[k - 1].1.toList ps[k].1.toList = false := h3
              go_wp2_with fail
              go_quiet ((go_at_call 71; first | exact quiet_eq (spec_KeyOk _ _ HF.out.1) | exact quiet_eq (spec_KeyOk _ _ HF.out.2)))
              go_wp2_with fail
              go_ret
              exact ⟨ret_bool (HRB.out h0 h3).symm, HD.out.drewN _⟩
            · have h4 : Op.bytesLess ps[k - 1].1.toList ps[k].1.toList = true := h3
              go_wp2_with fail
              go_quiet ((go_at_call 71; first | exact quiet_eq (spec_KeyOk _ _ HF.out.1) | exact quiet_eq (spec_KeyOk _ _ HF.out.2)))
              go_wp2_with fail
              go_roundw
              case rel => exact ⟨k + 1, by omega, by go_num, HK.out h1 h2, HR.out (fun _ => h3), HD.out.drewN _⟩
              case measure => simp [intOf]; omega
          · have h0' : decide (0 < k) = false := by simpa using h0
            go_wp2_with fail
            go_quiet ((go_at_call 71; first | exact quiet_eq (spec_KeyOk _ _ HF.out.1) | exact quiet_eq (spec_KeyOk _ _ HF.out.2)))
            go_wp2_with fail
            go_roundw
            case rel => exact ⟨k + 1, by omega, by go_num, HK.out h1 h2, HR.out (fun h => absurd h h0), HD.out.drewN _⟩
            case measure => simp [intOf]; omega
    · obtain rfl : k = ps.length := by omega
      have HE := hid (pairsB_end hks hrs)
      have HD := hid hdr
      clear hks hrs hdr hr
      go_wp2_with fail
      go_ret
      exact ⟨ret_bool HE.out.symm, HD.out⟩

theorem mapB_of {ps : PS} (h : ps.length ≤ 60) : mapB ps = pairsB ps := by simp [mapB, pairsB, h]

theorem spec_MapOk (A : Option Addr) (c : Nat) (ps : PS) (B : Nat) (w : World) (hr : RP w B A ps) (hf : Fits ps) (hn : ps.length ≤ maxLen) :
    Calls Try.prog 56 #[.slice A ps.length c] w fun e w' => e = .returned (.bool (mapB ps)) ∧ Drawn w w' := by
  have hn' := hn
  unfold maxLen at hn'
  by_cases h : ps.length ≤ 60
  · have HM := hid (mapB_of h)
    have HR := hid hr
    have HF := hid hf
    have HN := hid hn
    clear hr hf hn
    go_enter Try.func56, Try.ntmps56
    go_wp2_with (go_at_call 105; refine (spec_l1Pairs A c ps B _ HR.out HF.out HN.out).mono ?_; rintro e w' ⟨rfl, hw⟩)
    go_ret
    exact ⟨ret_bool HM.out.symm, hw⟩
  · have HM := hid (mapB_long (ps := ps) (by omega))
    clear hr hf hn
    go_enter Try.func56, Try.ntmps56
    go_wp2_with fail
    go_ret
    exact ⟨ret_bool HM.out.symm, Drawn.refl _⟩
end Go.Proofs.Ytcjbjfhndjpmcaa
