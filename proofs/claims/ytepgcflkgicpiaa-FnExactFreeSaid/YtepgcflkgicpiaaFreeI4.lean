/-
  The program's Free: slices.Delete of one hold.
-/
import Derived.Test.YtepgcflkgicpiaaFreeI3
import Derived.Deep.RegionLaw
import Derived.Shelf.RegionOpenPlain
namespace Go.Proofs.Ytepgcflkgicpiaa
open Go.RowKit Go.Shelf

theorem cutAt_cells {hs : HS} {i n : Nat} (hi : i < hs.length) (hn : n = i + (hs.length - (i + 1))) : (spliceL (hcells hs) (i * 3) (hcells (hs.drop (i + 1)))).take (n * 3) = hcells (cutAt hs i) := by
  unfold spliceL cutAt
  rw [hcells_take, ← hcells_append, List.take_append_of_le_length (by rw [hcells_length, List.length_append, List.length_take, List.length_drop]; omega), hcells_take, List.take_of_length_le (by rw [List.length_append, List.length_take, List.length_drop]; omega)]

/-- What the append leaves, and what the clearing behind it does. -/
theorem OwnH.cutOne {w : World} {B g c i n : Nat} {hs : HS} (h : OwnH w B (some ⟨g, 0, none⟩) c hs) (hi : i < hs.length) (hn : n = i + (hs.length - (i + 1))) :
    (∀ j, j < (zeroH (hs.length - n)).length → ((w.setCells g (i * 3) (hcells (hs.drop (i + 1)))).cell? ⟨g, n * 3 + j, none⟩).isSome = true) ∧
    (∀ j, j < (zeroH (hs.length - n)).length → (w.setCells g (i * 3) (hcells (hs.drop (i + 1)))).frozen? ⟨g, n * 3 + j, none⟩ = false) ∧
    OwnH ((w.setCells g (i * 3) (hcells (hs.drop (i + 1)))).setCells g (n * 3) (zeroH (hs.length - n))) B (some ⟨g, 0, none⟩) c (cutAt hs i) ∧
    w.grownBy ((w.setCells g (i * 3) (hcells (hs.drop (i + 1)))).setCells g (n * 3) (zeroH (hs.length - n))) (some g) := by
  have hz := zeroH_length (hs.length - n)
  have hl : i * 3 + (hcells (hs.drop (i + 1))).length ≤ hs.length * 3 := by rw [hcells_length, List.length_drop]; omega
  obtain ⟨s1, s2⟩ := own_setCells (hcells (hs.drop (i + 1))) (i * 3) w (hcells hs) h hl
  have hx := s1.1
  obtain ⟨t1, t2⟩ := own_setCells (zeroH (hs.length - n)) (n * 3) _ _ s1 (by omega)
  have t3 := own_cut t1 (k := n) (by omega)
  have e3 : (spliceL (spliceL (hcells hs) (i * 3) (hcells (hs.drop (i + 1)))) (n * 3) (zeroH (hs.length - n))).take (n * 3) = hcells (cutAt hs i) := by
    rw [← cutAt_cells hi hn]
    generalize spliceL (hcells hs) (i * 3) (hcells (hs.drop (i + 1))) = L at hx
    unfold spliceL
    rw [List.append_assoc, List.take_append_of_le_length (by rw [List.length_take]; omega), List.take_take, Nat.min_self]
  rw [e3] at t3
  refine ⟨fun j hj => ?_, fun j _ => World.ownsRow.frozenAt s1 _, ?_, grown_trans s2 t2⟩
  · have := World.ownsRow.cellAt s1 (n * 3 + j) (by omega)
    rw [this, List.getElem?_eq_getElem (by omega)]
    rfl
  · unfold OwnH
    have : (cutAt hs i).length = n := by rw [cutAt_length hi]; omega
    rw [this]
    exact t3

set_option maxHeartbeats 4000000 in
set_option maxRecDepth 1000000 in
theorem impl_delH (g c i j : Nat) (hs : HS) (B : Nat) (w : World) (ho : OwnH w B (some ⟨g, 0, none⟩) c hs) (hi : i < hs.length) (hj : j = i + 1) (hn : hs.length ≤ 1000) :
    Calls Try.prog 81 #[.slice (some ⟨g, 0, none⟩) hs.length c, .int .i64 (i : Int), .int .i64 (j : Int)] w fun e w' => e = .returned (.slice (some ⟨g, 0, none⟩) (cutAt hs i).length c) ∧ OwnH w' B (some ⟨g, 0, none⟩) c (cutAt hs i) ∧ w.grownBy w' (some g) := by
  obtain ⟨i0, hi0, hz0, hz1, hz2⟩ := info_parts holdInfo
  have hcap := ho.cap
  have hcap1 := hcap.1
  have hcap2 := hcap.2
  unfold maxLen at hcap2
  have HD := hid (show OwnH w.drew B (some ⟨g, 0, none⟩) c hs from ho)
  obtain ⟨news, hnews⟩ : ∃ news, news = hcells (hs.drop (i + 1)) := ⟨_, rfl⟩
  have hlen : news.length = (hs.length - j) * 3 := by rw [hnews, hcells_length, List.length_drop, hj]
  obtain ⟨A, hA, hsrc⟩ : ∃ A : Addr, (if c = j then some (⟨g, 0, none⟩ : Addr) else some ⟨g, j * 3, none⟩) = some A ∧ Hid (∀ t u, news[t]? = some u → w.drew.cell? (A.add t) = some u) := by
    by_cases h : c = j
    · refine ⟨⟨g, 0, none⟩, by simp [h], fun t u hu => ?_⟩
      have h0 : news.length = 0 := by rw [hlen]; omega
      rw [List.length_eq_zero_iff.1 h0] at hu
      simp at hu
    · refine ⟨⟨g, j * 3, none⟩, by simp [h], fun t u hu => ?_⟩
      rw [hnews, ← hcells_drop, List.getElem?_drop] at hu
      have := HD.out.cells (g := g) rfl _ _ hu
      rw [Addr.add_lit] at this ⊢
      rw [hj]
      simpa using this
  have s1 : Hid (news.length = (hs.length - j) * 3) := hlen
  have s2 : Hid (∀ u ∈ news, u.oneCell' = true) := by
    intro u hu
    rw [hnews] at hu
    exact hcells_one _ u hu
  have s3 : Hid (∀ t, t < news.length → (w.drew.cell? ⟨g, 0 + i * 3 + t, none⟩).isSome = true ∧ w.drew.frozen? ⟨g, 0 + i * 3 + t, none⟩ = false) := by
    intro t ht
    rw [hlen] at ht
    have hx := HD.out.1
    have := World.ownsRow.cellAt HD.out (i * 3 + t) (by omega)
    rw [Nat.zero_add, this, List.getElem?_eq_getElem (by omega)]
    exact ⟨rfl, HD.out.frozenH _⟩
  obtain ⟨t1, t2, t3, t4⟩ := HD.out.cutOne (n := i + (hs.length - j)) hi (by rw [hj])
  rw [← hnews] at t1 t2 t3 t4
  obtain ⟨W1, hW1⟩ : ∃ W1, W1 = w.drew.setCells g (0 + i * 3) news := ⟨_, rfl⟩
  rw [Nat.zero_add] at hW1
  rw [← hW1] at t1 t2 t3 t4
  have hW : Hid (W1 = w.drew.setCells g (0 + i * 3) news) := by rw [Nat.zero_add]; exact hW1
  have T3 := hid t3
  have T4 := hid t4
  have hcl : ∀ ty, (Builtin.clear_ #[26] ty #[.slice (some ⟨g, (i + (hs.length - j)) * 3, none⟩) (hs.length - (i + (hs.length - j))) (c - (i + (hs.length - j)))]).run Try.prog W1 = .ok (.tuple #[]) (W1.setCells g ((i + (hs.length - j)) * 3) (zeroH (hs.length - (i + (hs.length - j))))) := fun ty => run_clear_hold W1 _ _ ty Try.underlying26 holdZero g _ _ _ (by omega) t1 t2 (zeroH_one _)
  have HL : Hid ((cutAt hs i).length = i + (hs.length - j)) := by show _ = _; rw [cutAt_length hi]; omega
  have hne : (i : Int) ≠ (j : Int) := by omega
  have hij : i ≤ j := by omega
  have hjn : j ≤ hs.length := by omega
  have hic : i ≤ c := by omega
  have hjc : j ≤ c := by omega
  have e1 : (0 : Int) ≤ (i : Int) := by omega
  have e2 : (i : Int) ≤ (j : Int) := by omega
  have e3 : (j : Int) ≤ (hs.length : Int) := by omega
  have e4 : (hs.length : Int) ≤ (c : Int) := by omega
  have HI := hid hi
  have HJ := hid hj
  clear t1 t2 t3 t4 hW1 hnews hlen HD ho hcap hi hj
  go_enter Try.func81, Try.ntmps81
  go_wp2_with fail
  go_region_law (refine step_append_room (by rfl) (.tmp 22) (.tmp 25) 26 (by rfl) 48 i0 3 Try.underlying26 hi0 hz1 g 0 i c (by simp [Act.eval, Act.put]) A (hs.length - j) (c - j) news (by simp [Act.eval, Act.put]) s1.out hsrc.out s2.out (by omega) s3.out ?_; rw [← hW.out])
  go_wp2_with fail
  go_ret
  exact ⟨by rw [HL.out]; rfl, T3.out, grown_trans (below_grownR (Below.refl _ w).drew _) T4.out⟩
end Go.Proofs.Ytepgcflkgicpiaa
