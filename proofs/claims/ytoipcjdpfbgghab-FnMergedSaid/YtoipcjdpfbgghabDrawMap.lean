/-
  Maps that are drawn.
-/
import Derived.Test.YtoipcjdpfbgghabDraw
import Derived.Test.YtoipcjdpfbgghabPutDrop
namespace Go.Proofs.Ytoipcjdpfbgghab
open Go.RowKit

theorem OwnP.keep_g {w w' : World} {B c g : Nat} {A : Option Addr} {ps : PS} (h : OwnP w B A c ps) (hg : w.grownBy w' (some g)) (hr : g < B) : OwnP w' B A c ps := by
  refine World.ownsRow.kept h hg ?_
  cases hv : Value.ownBlock (.slice A ps.length c) with
  | none => exact .inl rfl
  | some k =>
    right
    intro e
    have h1 := (h.size k hv).1
    injection e with e
    omega
theorem fits_map {ps : PS} (h : mapB ps = true) : Fits ps := by
  intro p hp
  have := (mapB_iff.1 h).2.1 p hp
  simp only [pairB, Bool.and_eq_true] at this
  have h1 := keyB_small this.1
  have h2 := keyB_small this.2
  unfold maxLen
  omega

/-- A call on the reader g that answers a right map of its own. -/
def MapD (B g : Nat) (w : World) (e : Ending) (w' : World) : Prop := ∃ A c ps, e = .returned (.slice A ps.length c) ∧ OwnP w' w.heap.size A c ps ∧ mapB ps = true ∧ Rd w' B g ∧ w.grownBy w' (some g)

set_option maxHeartbeats 2000000 in
set_option maxRecDepth 100000 in
theorem pairs_any (B g m : Nat) (w : World) (h : Rd w B g) (hm : m ≤ 100) :
    Calls Try.prog 28 #[.pointer (some ⟨g, 0, none⟩), .int .i64 (m : Int)] w (MapD B g w) := by
  have HR := hid h
  have hgw := h.lt.1
  clear h
  go_enter Try.func28, Try.ntmps28
  go_wp2_with fail
  refine (below_any B g (m + 1) _ (HR.out.below ((Below.refl _ _).alloc (Nat.le_refl _) _)) (by omega) (by omega)).mono ?_
  rintro e w1 ⟨v, hv, rfl, hr1, hg1⟩
  have HR1 := hid hr1
  have HG1 := hid (grown_trans' (grown_of_below ((Below.refl w.heap.size w).alloc (Nat.le_refl _) _)) hg1)
  have HO1 := hid ((OwnP.made (w := w) (Nat.le_refl _) #[] 0 rfl (Nat.zero_le _)).keep_g hg1 hgw)
  clear hr1 hg1
  go_wp2_with fail
  go_loopw [5, 6] (fun q i wr => ∃ (k n : Nat) (A : Option Addr) (c : Nat) (ps : PS), k ≤ m ∧ i = .int .i64 k ∧ q = .slice A n c ∧ n = ps.length ∧ OwnP wr w.heap.size A c ps ∧ Hid (mapB ps = true) ∧ Rd wr B g ∧ w.grownBy wr (some g)) (fun _ i _ => (intOf i).toNat)
  case atStart => exact ⟨v, 0, _, _, [], by omega, rfl, rfl, rfl, HO1.out, rfl, HR1.out, HG1.out⟩
  case round =>
    obtain ⟨k, n, A, c, ps, hk, rfl, rfl, hn, ho, HM, hr, hg⟩ := hrel
    have HO := hid ho
    have HRr := hid hr
    have HG := hid hg
    have HN := hid hn
    clear ho hr hg hn
    by_cases hlt : 0 < k
    · go_wp2_with fail
      refine (key_any B g _ HRr.out).mono ?_
      rintro e w2 ⟨s, hs, rfl, hr2, hg2⟩
      have HR2 := hid hr2
      have HO2 := hid (HO.out.keep_g hg2 hgw)
      have HG2 := hid (grown_trans' HG.out hg2)
      clear hr2 hg2
      go_wp2_with fail
      refine (val_any B g _ HR2.out).mono ?_
      rintro e w3 ⟨t, ht, rfl, hr3, hg3⟩
      have HR3 := hid hr3
      have HO3 := hid (HO2.out.keep_g hg3 hgw)
      have HG3 := hid (grown_trans' HG2.out hg3)
      clear hr3 hg3
      have hl60 := (mapB_iff.1 HM.out).1
      have hsz : s.size ≤ maxLen := by unfold maxLen; omega
      have htz : t.size ≤ maxLen := by unfold maxLen; omega
      have hnn : n = ps.length := HN.out
      subst hnn
      go_wp2_with fail
      refine (spec_Put A c ps s t _ HO3.out.rp (fits_map HM.out) (by omega) hsz htz).mono ?_
      rintro e w4 ⟨A4, c4, rfl, ho4, hb4⟩
      have HO4 := hid ho4
      have HO5 := hid (HO3.out.below hb4)
      have HR4 := hid (HR3.out.below hb4)
      have HG4 := hid (grown_trans' HG3.out (grown_of_below hb4))
      have HB4 := hid hb4
      have HSZ := hid HG3.out.size
      clear ho4 hb4 hsz htz
      cases hp : putB ps s t
      · go_wp2_with fail
        refine ⟨⟨k - 1, _, A, c, ps, by omega, by go_num, rfl, rfl, HO5.out, HM, HR4.out, HG4.out⟩, by simp [intOf]; omega⟩
      · have HL : Hid (putR ps s t = putL ps s t) := putR_yes hp
        have HM2 : Hid (mapB (putL ps s t) = true) := by
          simp only [putB, Bool.and_eq_true, decide_eq_true_eq] at hp
          rw [Hid, putL_map hp.1 hp.2.1 hp.2.2.1]
          simpa using hp.2.2.2
        go_wp2_with fail
        refine ⟨⟨k - 1, _, A4, c4, putL ps s t, by omega, by go_num, rfl, by rw [HL.out], ?_, HM2, HR4.out, HG4.out⟩, by simp [intOf]; omega⟩
        have := HO4.out
        rw [HL.out] at this
        exact this.mono HSZ.out
    · obtain rfl : k = 0 := by omega
      go_wp2_with fail
      go_ret
      exact ⟨A, c, ps, ret_slice HN.out, HO.out, HM.out, HRr.out, HG.out⟩
end Go.Proofs.Ytoipcjdpfbgghab
