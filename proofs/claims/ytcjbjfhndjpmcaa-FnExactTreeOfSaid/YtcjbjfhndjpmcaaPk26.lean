import Derived.Test.YtcjbjfhndjpmcaaPk25
import Derived.Deep.LoopGhost
/-
  The least key below a branch, and the way to a key.
-/
namespace Go.Proofs.Ytcjbjfhndjpmcaa
open Go.RowKit

theorem leaf_first {ps : PS} (h : 0 < ps.length) : leastT (.node ps []) = (ps[0]).1 := by
  cases ps with
  | nil => simp at h
  | cons p r => simp [leastT_node]
theorem first_least {ps : PS} {ks : List BT} (h : 0 < ks.length) : leastT (.node ps ks) = leastT ks[0] := by
  cases ks with
  | nil => simp at h
  | cons p r => simp [leastT_node]
set_option maxHeartbeats 1000000 in
set_option maxRecDepth 100000 in
theorem impl_leastKey (n : Nat) (t : BT) (R S : Nat → Prop) (g : Nat) (w : World) (hg : Fine n false t) (ho : OT w R S g t) (hR : ∀ b, R b → b < w.heap.size) :
    Calls Try.prog 157 #[.pointer (some ⟨g, 0, none⟩)] w fun e w' => e = .returned (.string (leastT t)) ∧ w = w' := by
  have HO := hid ho
  have HG := hid hg
  have HR := hid hR
  clear ho hg hR
  go_enter Try.func157, Try.ntmps157
  go_wp2_with fail
  go_loopg [0] n (fun k b wr => ∃ (g' : Nat) (t' : BT) (S' : Nat → Prop), b = .pointer (some ⟨g', 0, none⟩) ∧ OT w R S' g' t' ∧ Hid (Fine k false t') ∧ Hid (leastT t' = leastT t) ∧ w = wr)
  case atStart => exact ⟨g, t, S, rfl, HO.out, HG.out, rfl, rfl⟩
  case round =>
    obtain ⟨g', ⟨ps, ks⟩, S', rfl, ho, HF, HL, rfl⟩ := hrel
    obtain ⟨A, K, c, d, c0, c1, hrp, hk⟩ := ho.open_
    by_cases hlt : 0 < ks.length
    · obtain ⟨b, gk', Sk, rfl, _, ck, _, _, hok⟩ := hk 0 hlt
      obtain ⟨m, rfl, hfm⟩ := HF.out.kid hlt
      have HOK := hid hok
      have HFM := hid hfm
      have HLK : Hid (leastT ks[0] = leastT t) := (first_least hlt).symm.trans HL.out
      have hkl : ks.length ≤ 4 := by have := HF.out.size.1; simp only [sizeT, BT.ps, BT.ks] at this; omega
      have e6 : (0 : Int) < (ks.length : Int) := by omega
      unfold ptr at ck
      clear hk ho hok hfm hrp
      go_wp2_with fail
      go_roundg m
      case measure => omega
      case rel => exact ⟨gk', ks[0], Sk, rfl, HOK.out, HFM.out, HLK.out, rfl⟩
    · obtain rfl : ks = [] := List.eq_nil_of_length_eq_zero (by omega)
      have hp : 2 ≤ ps.length ∧ ps.length ≤ 4 := by
        have h1 := HF.out.size.1
        have h2 := HF.out.size.2 rfl
        simp only [sizeT, BT.ps, BT.ks, List.length_nil] at h1 h2
        omega
      have e7 : (0 : Int) < (ps.length : Int) := by omega
      obtain ⟨b, off, rfl, hb, hc1, _⟩ := (hrp.rp (B := w.heap.size) (fun b h => HR.out b h)).at_ (k := 0) (by omega)
      have e8 : 0 < ps.length := by omega
      have HE : Hid ((ps[0]).1 = leastT t) := (leaf_first e8).symm.trans HL.out
      simp only [Nat.zero_mul, Nat.add_zero] at hc1
      simp only [List.length_nil] at c1
      clear hk ho hrp hlt
      go_wp2_with fail
      go_ret
      exact ⟨by rw [HE.out]; rfl, rfl⟩

theorem getD_at {ks : List BT} {i : Nat} (h : i < ks.length) : ks.getD i nilT = ks[i] := by simp [h]
set_option maxHeartbeats 1000000 in
set_option maxRecDepth 100000 in
theorem impl_way (n : Nat) (ps : PS) (ks : List BT) (k : ByteArray) (R S : Nat → Prop) (g : Nat) (w : World) (hk0 : 0 < ks.length) (hk4 : ks.length ≤ 100) (hg : ∀ x ∈ ks, Fine n false x) (ho : OT w R S g (.node ps ks)) (hR : ∀ b, R b → b < w.heap.size) :
    Calls Try.prog 141 #[.pointer (some ⟨g, 0, none⟩), .string k] w fun e w' => e = .returned (.int .i64 (wayT ks k : Int)) ∧ w = w' := by
  obtain ⟨A, K, c, d, c0, c1, hrp, hk⟩ := ho.open_
  have HK := hid hk
  have HG := hid hg
  have HR := hid hR
  have e0 : (0 : Int) < (ks.length : Int) := by omega
  clear ho hrp hk hg hR
  go_enter Try.func141, Try.ntmps141
  go_wp2_with fail
  go_loop [5] (fun v => ∃ i : Nat, v = .int .i64 i ∧ i < ks.length ∧ Hid (wayD ks k i = wayT ks k)) (fun v => (intOf v).toNat)
  case atStart => exact ⟨ks.length - 1, by go_num, by omega, rfl⟩
  case round =>
    obtain ⟨i, rfl, hi, HW⟩ := hrel
    by_cases h0 : 0 < i
    · obtain ⟨b, gk, Sk, rfl, _, ck, _, _, hok⟩ := HK.out i hi
      have HC := hid (impl_leastKey n ks[i] R Sk gk w (HG.out _ (List.getElem_mem hi)) hok HR.out)
      obtain ⟨j, rfl⟩ : ∃ j, i = j + 1 := ⟨i - 1, by omega⟩
      have HW2 : Hid ((if ltS k (leastT ks[j + 1]) then wayD ks k j else j + 1) = wayT ks k) := by
        have h := HW.out
        simp only [wayD, getD_at hi] at h
        exact h
      unfold ptr at ck
      have e1 : (0 : Int) < ((j + 1 : Nat) : Int) := by omega
      have e2 : ((j + 1 : Nat) : Int) < (ks.length : Int) := by omega
      have e3 : (0 : Int) ≤ ((j + 1 : Nat) : Int) := by omega
      clear hok
      have HJ : Hid ((j : Int) + 1 = ((j + 1 : Nat) : Int)) := by rw [Hid]; omega
      rcases ltS_total (leastT ks[j + 1]) k with hl | hl | hl
      · have HWE : Hid (((j + 1 : Nat)) = wayT ks k) := by
          have h := HW2.out
          rw [ltS_asymm hl] at h
          exact h
        have g1 : Op.bytesLess (leastT ks[j + 1]).toList k.toList = true := hl
        clear hl
        go_wp2_with (go_at_call 157; refine HC.out.mono ?_; rintro e w1 ⟨rfl, rfl⟩)
        go_ret
        exact ⟨by rw [← HWE.out, ← HJ.out]; rfl, rfl⟩
      · have HWE : Hid (((j + 1 : Nat)) = wayT ks k) := by
          have h := HW2.out
          rw [← hl, ltS_irrefl] at h
          rw [← hl]
          exact h
        have g1 : Op.bytesLess (leastT ks[j + 1]).toList k.toList = false := by have := ltS_irrefl k; rw [← hl] at this ⊢; exact this
        have g2 : ((leastT ks[j + 1]).toList == k.toList) = true := eqS_true hl
        clear hl
        go_wp2_with (go_at_call 157; refine HC.out.mono ?_; rintro e w1 ⟨rfl, rfl⟩)
        go_ret
        exact ⟨by rw [← HWE.out, ← HJ.out]; rfl, rfl⟩
      · have HWE : Hid (wayD ks k j = wayT ks k) := by
          have h := HW2.out
          rw [hl] at h
          exact h
        have g1 : Op.bytesLess (leastT ks[j + 1]).toList k.toList = false := ltS_asymm hl
        have g2 : ((leastT ks[j + 1]).toList == k.toList) = false := eqS_false (ltS_ne hl).symm
        clear hl
        go_wp2_with (go_at_call 157; refine HC.out.mono ?_; rintro e w1 ⟨rfl, rfl⟩)
        go_round
        case rel => exact ⟨j, by go_num, by omega, HWE.out⟩
        case measure => simp [intOf]
    · obtain rfl : i = 0 := by omega
      have HW2 : Hid ((0 : Nat) = wayT ks k) := HW.out
      clear h0
      go_wp2_with fail
      go_ret
      exact ⟨by rw [← HW2.out]; rfl, rfl⟩
end Go.Proofs.Ytcjbjfhndjpmcaa
/-
  A branch that becomes two.
-/
namespace Go.Proofs.Ytcjbjfhndjpmcaa
open Go.RowKit

/-- A new branch without anything, beside what is there. -/
theorem Step.fresh {w : World} {R : Nat → Prop} {L : List OH} (h : FO w R L) : Step w R L (w.alloc (.cells #[.slice none 0 0, .slice none 0 0] 121)) R (L ++ [⟨w.heap.size, fun b => b = w.heap.size, nilT⟩]) := by
  have hb : Below w.heap.size w (w.alloc (.cells #[.slice none 0 0, .slice none 0 0] 121)) := (Below.refl _ _).alloc (Nat.le_refl _) _
  have h1 := Step.below h hb
  have hn : NodeA (w.alloc (.cells #[.slice none 0 0, .slice none 0 0] 121)) R w.heap.size none 0 [] none 0 [] :=
    ⟨heap_alloc_new w _, .inl rfl, .inl ⟨rfl, rfl, rfl⟩, World.ownsRow_nil _ _ _ _, ⟨h1.fo.rb, fun x hx => by simp at hx, fun x hx => by simp at hx, List.Pairwise.nil⟩, ⟨fun ⟨x, hx, _⟩ => by simp at hx, fun hr => by have := h.rb _ hr; omega⟩, fun k hk => by simp [Value.ownBlock] at hk⟩
  have ht := hn.tree
  have e : nodeS w.heap.size none 0 [] = fun b => b = w.heap.size := by
    funext b
    simp [nodeS, Value.ownBlock, SU]
  rw [e] at ht
  refine ⟨h1.fo.join ht (fun b hb1 hb2 => ?_), h1.mod, fun b hb => ?_, h1.up, h1.ru⟩
  · have := (h.su b hb1).1
    have e2 := SU_one.1 hb2
    simp only at e2
    omega
  · rcases SU_app.1 hb with hb | hb
    · exact .inl hb
    · have e2 := SU_one.1 hb
      simp only at e2
      exact .inr (by omega)
theorem share_nilA (t : BT) (n : Nat) : shareA t nilT n = .node (t.ps.take n) (t.ks.take n) := by simp [shareA, nilT, BT.ps, BT.ks]
theorem share_nilB (t : BT) (n : Nat) : shareB t nilT n = .node (t.ps.drop n) (t.ks.drop n) := by simp [shareB, nilT, BT.ps, BT.ks]

def Halved (w : World) (R : Nat → Prop) (x : OH) (e : Ending) (w' : World) : Prop :=
  ∃ (R' : Nat → Prop) (x' y' : OH), e = .returned (.pointer (some ⟨y'.g, 0, none⟩)) ∧ x'.g = x.g ∧ x'.t = .node (x.t.ps.take ((sizeT x.t + 1) / 2)) (x.t.ks.take ((sizeT x.t + 1) / 2)) ∧ y'.t = .node (x.t.ps.drop ((sizeT x.t + 1) / 2)) (x.t.ks.drop ((sizeT x.t + 1) / 2)) ∧ Step w R [x] w' R' [x', y']

/-- What size reads of a tree. -/
theorem size_at {w : World} {R : Nat → Prop} {x : OH} (h : FO w R [x]) : ∃ A c K d, w.cell? ⟨x.g, 0, none⟩ = some (.slice A x.t.ps.length c) ∧ w.cell? ⟨x.g, 1, none⟩ = some (.slice K x.t.ks.length d) := by
  obtain ⟨ps, ks, ht⟩ : ∃ ps ks, x.t = .node ps ks := by cases x.t with | node p k => exact ⟨p, k, rfl⟩
  obtain ⟨A, c, K, d, L, hL, hA, hS⟩ := h.node ht
  refine ⟨A, c, K, d, ?_, ?_⟩
  · rw [ht]; simp [World.cell?, hA.heap, BT.ps]
  · rw [ht, ← hL]; simp [World.cell?, hA.heap, BT.ks]

set_option maxHeartbeats 1000000 in
set_option maxRecDepth 100000 in
theorem impl_halve (x : OH) (R : Nat → Prop) (w : World) (hf : FO w R [x]) (hs : sizeT x.t ≤ 50) :
    Calls Try.prog 121 #[ptr x.g] w (Halved w R x) := by
  have s1 := Step.fresh hf
  have hb1 : Below w.heap.size w (w.alloc (.cells #[.slice none 0 0, .slice none 0 0] 121)) := (Below.refl _ _).alloc (Nat.le_refl _) _
  obtain ⟨A, c, K, d, c0, c1⟩ := size_at (Step.below hf hb1).fo
  have S1 := hid s1
  have hs2 : x.t.ps.length + x.t.ks.length ≤ 50 := hs
  have HS := hid hs
  have HN : Hid (((x.t.ps.length : Int) + (x.t.ks.length : Int) + 1) / 2 = (((sizeT x.t + 1) / 2 : Nat) : Int)) := by
    unfold Hid sizeT
    omega
  clear s1 hf hb1 hs
  unfold ptr
  go_enter Try.func121, Try.ntmps121
  go_wp2_with fail
  refine (impl_size x.g x.t.ps.length x.t.ks.length c d A K _ c0 c1 (by omega) (by omega)).mono ?_
  rintro e w2 ⟨rfl, hd⟩
  have S2 := hid (S1.out.trans (Step.below S1.out.fo (hd.below _)))
  clear hd
  go_wp2_with fail
  rw [HN.out]
  refine (impl_share x ⟨w.heap.size, fun b => b = w.heap.size, nilT⟩ R ((sizeT x.t + 1) / 2) w2 S2.out.fo (by have := HS.out; simp only [sizeT, nilT, BT.ps, BT.ks, List.length_nil] at this ⊢; omega)).mono ?_
  rintro e w3 ⟨rfl, R', x', y', hx, hy, htx, hty, hst⟩
  have HE : Hid (Halved w R x (.returned (.pointer (some ⟨w.heap.size, 0, none⟩))) w3) := by
    rw [share_nilA] at htx
    rw [share_nilB] at hty
    exact ⟨R', x', y', by rw [hy], hx, htx, hty, S2.out.trans hst⟩
  clear hx hy htx hty hst
  go_wp2_with fail
  go_ret
  exact HE.out
end Go.Proofs.Ytcjbjfhndjpmcaa
