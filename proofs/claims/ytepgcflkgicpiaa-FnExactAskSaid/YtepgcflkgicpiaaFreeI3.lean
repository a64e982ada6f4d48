/-
  The program's Free: withHold and slices.Delete.
-/
import Derived.Test.YtepgcflkgicpiaaFreeI2
namespace Go.Proofs.Ytepgcflkgicpiaa
open Go.RowKit Go.Shelf

/-- A row of the call's own that may have moved: to where it was or to a new block. -/
structure SetH (w : World) (B : Nat) (A0 : Option Addr) (n0 c0 : Nat) (rs : HS) (e : Ending) (w' : World) : Prop where
  ex : ∃ A' c', e = .returned (.slice A' rs.length c') ∧ OwnH w' B A' c' rs ∧ (Value.ownBlock (.slice A' rs.length c') = Value.ownBlock (.slice A0 n0 c0) ∨ ∃ k, Value.ownBlock (.slice A' rs.length c') = some k ∧ w.heap.size ≤ k)
  grown : w.grownBy w' (Value.ownBlock (.slice A0 n0 c0))

set_option maxHeartbeats 2000000 in
set_option maxRecDepth 100000 in
theorem impl_withHold (A : Option Addr) (c : Nat) (hs : HS) (x : HD) (B : Nat) (w : World) (ho : OwnH w B A c hs) (hf : FitsH hs) (hu : Uniq hs) (hn : hs.length ≤ 1000) (hB : B ≤ w.heap.size) :
    Calls Try.prog 80 #[.slice A hs.length c, .agg #[.int .i64 x.1, .string x.2.1, .int .i64 x.2.2]] w (SetH w B A hs.length c (giveL hs x)) := by
  obtain ⟨i0, hi0, hz0, hz1, hz2⟩ := info_parts holdInfo
  have HB1 := hid ((Below.refl w.heap.size w).alloc (Nat.le_refl _) (.cells #[.int .i64 x.1, .string x.2.1, .int .i64 x.2.2] 48))
  have X1 := hid (Row3.lit w 48 (.int .i64 x.1) (.string x.2.1) (.int .i64 x.2.2))
  have HO1 := hid (ho.below HB1.out)
  have hnm : hs.length ≤ maxLen := by unfold maxLen; omega
  have hsz := ho.size
  have HSZ := hid hsz
  clear hsz ho
  go_enter Try.func80, Try.ntmps80
  go_wp2_with fail
  have HW1 : Hid (w.heap.size + 1 = (w.alloc (.cells #[.int .i64 x.1, .string x.2.1, .int .i64 x.2.2] 48)).heap.size) := by show _ = _; simp
  generalize hw1 : w.alloc (.cells #[.int .i64 x.1, .string x.2.1, .int .i64 x.2.2] 48) = w1 at *
  clear hw1
  have HP := hid (impl_placeOfOwn A c hs x w1 HO1.out.rh hf hnm)
  cases hany : hs.any fun h => ownB h x
  case true =>
    obtain ⟨ri, hri, hr1, hr2⟩ := own_yes hany
    have HG : Hid (giveL hs x = hs.set ri x) := give_set hu hri hr2
    rw [hr1] at HP
    obtain ⟨g, rfl⟩ : ∃ g, A = some ⟨g, 0, none⟩ := by
      rcases HO1.out.2 with ⟨hv, hz⟩ | ⟨g, cap, cur, hv, _⟩
      · omega
      · injection hv with e
        exact ⟨g, e⟩
    have er : (0 : Int) ≤ (ri : Int) := by omega
    have er2 : (ri : Int) < (hs.length : Int) := by omega
    clear hr1 hr2
    go_wp2_with (go_at_call 92; refine HP.out.mono ?_; rintro e w2 ⟨rfl, hb2⟩; have HB2 := hid (HB1.out.trans (hb2.mono HB1.out.size)); have HO2 := hid (HO1.out.below hb2); have X2 := hid (X1.out.below hb2); have x20 := X2.out.c0; have x21 := X2.out.c1; have x22 := X2.out.c2; obtain ⟨_, _, ea6, _, ca6, cb6, cc6⟩ := HO2.out.rh.at_ hri; obtain ⟨ea, eb⟩ := some_lit ea6; subst ea eb; simp only [Nat.zero_add] at ca6 cb6 cc6; have fa6 := HO2.out.frozenH (ri * 3); have fb6 := HO2.out.frozenH (ri * 3 + 1); have fc6 := HO2.out.frozenH (ri * 3 + 2); obtain ⟨pu1, pu2⟩ := HO2.out.put hri x; have PU1 := hid pu1; have PU2 := hid pu2; clear pu1 pu2 hb2 ea6)
    go_ret
    rw [HG.out]
    refine ⟨⟨some ⟨g, 0, none⟩, c, by rw [List.length_set]; rfl, PU1.out, .inl rfl⟩, grown_trans (below_grownR HB2.out _) PU2.out⟩
  case false =>
    have HG : Hid (giveL hs x = hs ++ [x]) := give_new hany
    rw [own_no hany] at HP
    go_wp2_with (first
      | (go_at_call 92; refine HP.out.mono ?_; rintro e w2 ⟨rfl, hb2⟩; have HB2 := hid (HB1.out.trans (hb2.mono HB1.out.size)); have HO2 := hid (HO1.out.below hb2); have X2 := hid (X1.out.below hb2); have x20 := X2.out.c0; have x21 := X2.out.c1; have x22 := X2.out.c2; have HL2 : Hid (B ≤ (w2.alloc (.cells #[.int .i64 x.1, .string x.2.1, .int .i64 x.2.2] 48)).heap.size) := (by have h1 := HB2.out.size; show _ ≤ _; simp; omega); have HL1 : Hid (hs.length + [x].length ≤ 4000000) := (by show _ ≤ _; simp; omega); clear hb2)
      | (at_builtin; refine wpList_append_rh _ rfl _ _ _ rfl i0 Try.underlying26 hi0 hz0 hz1 hz2 B A hs.length c hs rfl rfl (HO2.out.below ((Below.refl _ _).alloc (Nat.le_refl _) _)) (w2.heap.size + 1) (some ⟨w2.heap.size, 0, none⟩) 1 1 [x] rfl rfl (RH.new w2 x 48) HL1.out HL2.out ?_; intro A' n' c' w7 hn7 hap7; have HN7 := hid hn7; have HA7 := hid hap7; clear hn7 hap7))
    go_ret
    rw [HG.out]
    exact ⟨⟨A', c', by rw [HN7.out]; rfl, HA7.out.own, by rcases HA7.out.at_ with h | h; exact .inl h; exact .inr ⟨_, h, by have := HB2.out.size; simp; omega⟩⟩, grown_trans (grown_trans (below_grownR HB2.out _) (below_grownR ((Below.refl _ _).alloc (Nat.le_refl _) _) _)) HA7.out.grown⟩
end Go.Proofs.Ytepgcflkgicpiaa
