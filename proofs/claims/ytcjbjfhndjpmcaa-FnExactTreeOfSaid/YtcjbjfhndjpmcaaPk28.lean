import Derived.Test.YtcjbjfhndjpmcaaPk27
import Derived.Deep.RegionLaw
import Derived.Lib.SliceRun
import Derived.Test.YtcjbjfhndjpmcaaPk19
/-
  slices.Delete of one pointer out of a row of the call's own.
-/
namespace Go.Proofs.Ytcjbjfhndjpmcaa
open Go.RowKit

def Deleted (w : World) (kb d : Nat) (L : List Nat) (e : Ending) (w' : World) : Prop :=
  ∃ m, e = .returned (.slice (some ⟨kb, 0, none⟩) m d) ∧ Hid (m = L.length) ∧ OwnQ w' 0 (some ⟨kb, 0, none⟩) d L ∧ Mod (fun b => b = kb) w w'
theorem del_list {α : Type} (xs ys zs : List α) (i n : Nat) (hn : xs.take n = ys) (hy : ys.length = n) (hi : i + 1 ≤ n) :
    (((xs.take i ++ (ys.drop (i + 1) ++ xs.drop (i + (ys.drop (i + 1)).length))).take (n - 1)) ++ (zs ++ (xs.take i ++ (ys.drop (i + 1) ++ xs.drop (i + (ys.drop (i + 1)).length))).drop (n - 1 + zs.length))).take (n - 1) = ys.take i ++ ys.drop (i + 1) := by
  have h0 : xs.take i = ys.take i := by rw [← hn, List.take_take]; congr 1; omega
  have h1 : (ys.take i ++ ys.drop (i + 1)).length = n - 1 := by simp; omega
  have h2 : (xs.take i ++ (ys.drop (i + 1) ++ xs.drop (i + (ys.drop (i + 1)).length))).take (n - 1) = ys.take i ++ ys.drop (i + 1) := by
    rw [h0, ← List.append_assoc, List.take_append_of_le_length (by omega), List.take_of_length_le (by omega)]
  rw [h2, List.take_append_of_le_length (by omega), List.take_of_length_le (by omega)]

set_option maxHeartbeats 4000000 in
set_option maxRecDepth 100000 in
theorem impl_delete (kb d i : Nat) (gs : List Nat) (w : World) (ho : OwnQ w 0 (some ⟨kb, 0, none⟩) d gs) (hi : i + 1 ≤ gs.length) (hn : gs.length ≤ 1000) :
    Calls Try.prog 172 #[.slice (some ⟨kb, 0, none⟩) gs.length d, .int .i64 i, .int .i64 ((i : Int) + 1)] w (Deleted w kb d (gs.take i ++ gs.drop (i + 1))) := by
  obtain ⟨i0, hi0, hz0, hz1, hz2⟩ := info_parts ptrInfo
  obtain ⟨xs, hx, hxt, hcl⟩ := ho.full
  have hcap := own_cap ho
  unfold maxLen at hcap
  have hxl := hx.len
  have hT : Try.prog.underlying 117 = some (.slice 71) := Try.underlying117
  have hpl : (pcs gs).length = gs.length := by rw [pcs_length]; omega
  obtain ⟨news, hnews⟩ : ∃ news, news = (pcs gs).drop (i + 1) := ⟨_, rfl⟩
  have hlen : news.length = gs.length - (i + 1) := by rw [hnews, List.length_drop, hpl]
  have hget : ∀ j u, news[j]? = some u → w.cell? ⟨kb, i + 1 + j, none⟩ = some u := fun j u hj => by
    have hl := (List.getElem?_eq_some_iff.1 hj).1
    rw [hnews, List.getElem?_drop] at hj
    rw [hx.cell (by omega), ← hj, ← hxt, List.getElem?_take, if_pos (by omega)]
  obtain ⟨A, hA, hsrc⟩ : ∃ A : Addr, (if d = i + 1 then some (⟨kb, 0, none⟩ : Addr) else some ⟨kb, i + 1, none⟩) = some A ∧ Hid (∀ t u, news[t]? = some u → w.drew.cell? (A.add t) = some u) := by
    by_cases h : d = i + 1
    · refine ⟨⟨kb, 0, none⟩, by simp [h], fun t u hu => ?_⟩
      have h0 : news.length = 0 := by omega
      rw [List.length_eq_zero_iff.1 h0] at hu
      simp at hu
    · refine ⟨⟨kb, i + 1, none⟩, by simp [h], fun t u hu => ?_⟩
      rw [Addr.add_lit]
      exact hget t u hu
  have s1 : Hid (news.length = (gs.length - (i + 1)) * 1) := by rw [Nat.mul_one]; exact hlen
  have s2 : Hid (∀ u ∈ news, u.oneCell' = true) := fun u hu => pcs_one gs u (by rw [hnews] at hu; exact List.mem_of_mem_drop hu)
  have s3 : Hid (∀ t, t < news.length → (w.drew.cell? ⟨kb, 0 + i * 1 + t, none⟩).isSome = true ∧ w.drew.frozen? ⟨kb, 0 + i * 1 + t, none⟩ = false) := fun t ht => ⟨hx.drew.there (by omega), hx.drew.fz _⟩
  obtain ⟨W1, hW1⟩ : ∃ W1, W1 = w.drew.setCells kb (0 + i * 1) news := ⟨_, rfl⟩
  have hF1 : FullR W1 kb d (setL xs (0 + i * 1) news) := by rw [hW1]; exact hx.drew.sets _ _
  obtain ⟨M, hM⟩ : ∃ M, M = i + (gs.length - (i + 1)) := ⟨_, rfl⟩
  have hM1 : M = gs.length - 1 := by omega
  have hclr : ∀ ty, (Builtin.clear_ #[117] ty #[.slice (some ⟨kb, i + (gs.length - (i + 1)), none⟩) (gs.length - (i + (gs.length - (i + 1)))) (d - (i + (gs.length - (i + 1))))]).run Try.prog W1 = .ok (.tuple #[]) (W1.setCells kb M (List.replicate 1 (.pointer none))) := fun ty => by
    have h := Lib.run_clear_slice (P := Try.prog) W1 117 71 ty (.pointer none) hT (fun w => by simp [zeroValue, typeInfo, hi0, hz0]) rfl rfl kb M 1 (d - M) (by omega) (fun j hj => hF1.there (by omega)) (fun j hj => hF1.fz _)
    rw [hM] at h
    rw [hM, show gs.length - (i + (gs.length - (i + 1))) = 1 by omega]
    exact h
  have HEND : Hid (Deleted w kb d (gs.take i ++ gs.drop (i + 1)) (.returned (.slice (some ⟨kb, 0, none⟩) (i + (gs.length - (i + 1))) d)) (W1.setCells kb M (List.replicate 1 (.pointer none)))) := by
    have hLl : (gs.take i ++ gs.drop (i + 1)).length = gs.length - 1 := by simp; omega
    refine ⟨_, rfl, by rw [Hid, hLl]; omega, ?_, ?_⟩
    · refine (hF1.sets (List.replicate 1 (.pointer none)) M).own (by rw [hLl]; omega) ?_
      rw [hLl, setL_eq _ _ _ (by rw [setL_len, hxl]; simp; omega), setL_eq _ _ _ (by rw [hxl, hlen]; omega), hnews, hM1, Nat.zero_add, Nat.mul_one, del_list xs (pcs gs) (List.replicate 1 (.pointer none)) i gs.length hxt hpl hi, pcs_append]
      simp [pcs]
    · rw [hW1]
      exact Mod.sets (S := fun b => b = kb) (.inl rfl) _ _ (Mod.sets (S := fun b => b = kb) (.inl rfl) _ _ (Mod.refl _ _).drew)
  have HW : Hid (W1 = w.drew.setCells kb (0 + i * 1) news) := hW1
  have z1 : ((i : Int) == (i : Int) + 1) = false := by rw [beq_eq_false_iff_ne]; omega
  have z2 : ¬ (i : Int) = (i : Int) + 1 := by omega
  have z3 : (i : Int) + 1 ≤ (gs.length : Int) := by omega
  have z4 : (i : Int) ≤ (i : Int) + 1 := by omega
  have z5 : (gs.length : Int) ≤ (d : Int) := by omega
  have z6 : ((i : Int) + 1).toNat = i + 1 := by omega
  have z7 : (0 : Int) ≤ (i : Int) + 1 := by omega
  have z8 : (i : Int) ≤ (d : Int) := by omega
  have z9 : i ≤ d := by omega
  have z10 : i + 1 ≤ d := by omega
  have HA := hid hA
  clear hW1 hF1 hx hxt hxl ho hget hnews hlen hT hpl hM hM1
  go_enter Try.func172, Try.ntmps172
  go_wp2_with fail
  go_region_law (refine step_append_room (by rfl) (.tmp 22) (.tmp 25) 117 (by rfl) 71 i0 1 Try.underlying117 hi0 hz1 kb 0 i d (by simp [Act.eval, Act.put]) A (gs.length - (i + 1)) (d - (i + 1)) news (by simp [Act.eval, Act.put]) s1.out hsrc.out s2.out (by omega) s3.out ?_; rw [← HW.out])
  go_wp2
  go_ret
  exact HEND.out
end Go.Proofs.Ytcjbjfhndjpmcaa
/-
  What a call does to one node: a kid that is turned, pairs laid anew, kids laid anew.
-/
namespace Go.Proofs.Ytcjbjfhndjpmcaa
open Go.RowKit

section
variable {w w' : World} {R R' : Nat → Prop} {g c d : Nat} {A K : Option Addr} {ps : PS}
theorem own_len {K : Option Addr} {d n m : Nat} (h : n = m) : Value.ownBlock (.slice K n d) = Value.ownBlock (.slice K m d) := by rw [h]
/-- Some of the kids are turned, each in its place. -/
theorem NodeA.kids {L1 M L2 M' : List OH} (h : NodeA w R g A c ps K d (L1 ++ (M ++ L2))) (hs : Step w R M w' R' M') (hg : M'.map OH.g = M.map OH.g) : NodeA w' R' g A c ps K d (L1 ++ (M' ++ L2)) := by
  have hl : (L1 ++ (M' ++ L2)).length = (L1 ++ (M ++ L2)).length := by
    have := congrArg List.length hg
    simp only [List.length_map] at this
    simp [this]
  have hsub : ∀ b, SU M b → SU (L1 ++ (M ++ L2)) b := fun b hb => SU_app.2 (.inr (SU_app.2 (.inl hb)))
  have hst := Step.frame h.fo hs
  have hgM : ¬ SU M g := fun hx => h.gs.1 (hsub g hx)
  refine ⟨?_, h.pairs.keep (fun b hb => hs.mod.block b (h.fo.rb b hb) (fun hx => (h.fo.su b (hsub b hx)).2 hb)) hs.up, h.vs, ?_, hst.fo, ⟨fun hx => ?_, fun hx => ?_⟩, fun k hk => ?_⟩
  · rw [hl]
    exact (hs.mod.block g h.lt hgM).trans h.heap
  · have e : ohc (L1 ++ (M' ++ L2)) = ohc (L1 ++ (M ++ L2)) := by
      simp only [ohc_pcs, List.map_append, hg]
    rw [hl, e]
    exact ownsRow_keep h.row fun k hk => hs.mod.block k (h.ownlt hk) (fun hx => (h.own k hk).2.1 (hsub k hx))
  · rcases hst.su g hx with h1 | h1
    · exact h.gs.1 h1
    · have := h.lt; omega
  · rcases hs.ru g hx with h1 | h1
    · exact h.gs.2 h1
    · have := h.lt; omega
  · rw [own_len hl] at hk
    have h1 := h.own k hk
    have h2 := h.ownlt hk
    refine ⟨h1.1, fun hx => ?_, fun hx => ?_⟩
    · rcases hst.su k hx with h3 | h3
      · exact h1.2.1 h3
      · omega
    · rcases hs.ru k hx with h3 | h3
      · exact h1.2.2 h3
      · omega
/-- The blocks of a node are those that it had, and new ones. -/
theorem nodeS_sub {L L' : List OH} {K' : Option Addr} {d' n : Nat} (hk : ∀ k, Value.ownBlock (.slice K' L'.length d') = some k → Value.ownBlock (.slice K L.length d) = some k ∨ n ≤ k) (hsu : ∀ b, SU L' b → SU L b ∨ n ≤ b) : ∀ b, nodeS g K' d' L' b → nodeS g K d L b ∨ n ≤ b := by
  intro b hb
  rcases hb with hb | hb | hb
  · exact .inl (.inl hb)
  · exact (hk b hb).imp (fun h => .inr (.inl h)) id
  · exact (hsu b hb).imp (fun h => .inr (.inr h)) id
/-- The whole, when some of its kids were turned in their places. -/
theorem NodeA.step {x : OH} {L1 M L2 M' : List OH} (hx : x.g = g) (hS : ∀ b, nodeS g K d (L1 ++ (M ++ L2)) b → x.S b) (h : NodeA w R g A c ps K d (L1 ++ (M ++ L2))) (hs : Step w R M w' R' M') (hg : M'.map OH.g = M.map OH.g) :
    Step w R [x] w' R' [⟨g, nodeS g K d (L1 ++ (M' ++ L2)), .node ps ((L1 ++ (M' ++ L2)).map OH.t)⟩] := by
  have hn := h.kids hs hg
  have hl : (L1 ++ (M' ++ L2)).length = (L1 ++ (M ++ L2)).length := by
    have := congrArg List.length hg
    simp only [List.length_map] at this
    simp [this]
  have hst := Step.frame h.fo hs
  subst hx
  refine ⟨hn.tree, hs.mod.mono (fun k _ hk => SU_one.2 (hS k (.inr (.inr (SU_app.2 (.inr (SU_app.2 (.inl hk)))))))), fun b hb => ?_, hs.up, hs.ru⟩
  exact (nodeS_sub (fun k hk => .inl (by rw [own_len hl] at hk; exact hk)) hst.su b (SU_one.1 hb)).imp (fun h => SU_one.2 (hS b h)) id

/-- The pairs of a node laid anew. -/
theorem NodeA.setPairs {w2 : World} {x : OH} {L : List OH} {A1 : Option Addr} {c1 : Nat} {ps1 : PS} (hx : x.g = g) (hS : ∀ b, nodeS g K d L b → x.S b) (h : NodeA w R g A c ps K d L) (hb : Below w.heap.size w w2) (ho : OwnP w2 w.heap.size A1 c1 ps1) :
    ∃ R', Step w R [x] (w2.setCell ⟨g, 0, none⟩ (.slice A1 ps1.length c1)) R' [⟨g, nodeS g K d L, .node ps1 (L.map OH.t)⟩] := by
  subst hx
  have hp : ∀ b, Value.ownBlock (.slice A1 ps1.length c1) = some b → w.heap.size ≤ b ∧ b < w2.heap.size := fun b hb => ho.size b hb
  obtain ⟨R', hR'⟩ : ∃ R' : Nat → Prop, R' = fun b => R b ∨ Value.ownBlock (.slice A1 ps1.length c1) = some b := ⟨_, rfl⟩
  have hRc : ∀ b, R' b → R b ∨ (w.heap.size ≤ b ∧ b < w2.heap.size) := fun b hb => by
    rw [hR'] at hb
    exact hb.imp id (hp b)
  have hs2 := hb.size
  have hgl := h.lt
  have hM : Mod (fun b => b = x.g) w (w2.setCell ⟨x.g, 0, none⟩ (.slice A1 ps1.length c1)) := Mod.set (S := fun b => b = x.g) (Mod.of_below hb) (.inl rfl) 0 _
  have hsz : (w2.setCell ⟨x.g, 0, none⟩ (.slice A1 ps1.length c1)).heap.size = w2.heap.size := by simp
  have hn : NodeA (w2.setCell ⟨x.g, 0, none⟩ (.slice A1 ps1.length c1)) R' x.g A1 c1 ps1 K d L := by
    refine ⟨?_, ?_, ho.vs, ?_, ?_, ⟨h.gs.1, fun hx => ?_⟩, fun k hk => ⟨(h.own k hk).1, (h.own k hk).2.1, fun hx => ?_⟩⟩
    · exact (((Row2.of_heap h.heap).below hb).s0 _).heap
    · refine (RPS.of_own ho).keep (fun b hb' => Below.heap_setCell _ _ _ _ (fun e => by have := (hp b hb').1; simp only at e; omega)) (fun b hb' => by rw [hR']; exact .inr hb')
    · refine ownsRow_keep h.row fun k hk => hM.block k (h.ownlt hk) (h.own k hk).1
    · refine h.fo.keep hM (fun b hb' => by subst hb'; exact ⟨h.gs.1, h.gs.2⟩) (fun b hb' => by rw [hR']; exact .inl hb') (fun b hb' => ?_) (fun b hb' hs => ?_)
      · rw [hsz]
        rcases hRc b hb' with h1 | h1
        · have := h.fo.rb b h1; omega
        · omega
      · rcases hRc b hb' with h1 | h1
        · exact (h.fo.su b hs).2 h1
        · have := (h.fo.su b hs).1; omega
    · rcases hRc _ hx with h1 | h1
      · exact h.gs.2 h1
      · omega
    · rcases hRc _ hx with h1 | h1
      · exact (h.own k hk).2.2 h1
      · have := h.ownlt hk; omega
  refine ⟨R', hn.tree, hM.mono (fun k _ hk => SU_one.2 (hS k (.inl hk))), fun b hb' => .inl (SU_one.2 (hS b (SU_one.1 hb'))), fun b hb' => by rw [hR']; exact .inl hb', fun b hb' => (hRc b hb').imp id (fun h => h.1)⟩

/-- The row of kids laid anew, behind a step of some kids. -/
theorem NodeA.setKids {w3 w4 : World} {R3 : Nat → Prop} {x : OH} {L1 M L2 M' L' : List OH} {K' : Option Addr} {d' : Nat} (hx : x.g = g) (hS : ∀ b, nodeS g K d (L1 ++ (M ++ L2)) b → x.S b) (h : NodeA w R g A c ps K d (L1 ++ (M ++ L2))) (hs : Step w R M w3 R3 M')
    (hL : List.Sublist L' (L1 ++ (M' ++ L2))) (hm : Mod (fun b => Value.ownBlock (.slice K (L1 ++ (M ++ L2)).length d) = some b) w3 w4) (ho : OwnQ w4 0 K' d' (L'.map OH.g)) (hk : ∀ k, Value.ownBlock (.slice K' (L'.map OH.g).length d') = some k → Value.ownBlock (.slice K (L1 ++ (M ++ L2)).length d) = some k ∨ w3.heap.size ≤ k) :
    Step w R [x] (w4.setCell ⟨g, 1, none⟩ (.slice K' (L'.map OH.g).length d')) R3 [⟨g, nodeS g K' d' L', .node ps (L'.map OH.t)⟩] := by
  subst hx
  have hst := Step.frame h.fo hs
  have hs3 := hs.mod.size
  have hs4 := hm.size
  have hgl := h.lt
  rw [List.length_map] at hk ⊢
  have hgM : ¬ SU M x.g := fun hx => h.gs.1 (SU_app.2 (.inr (SU_app.2 (.inl hx))))
  have suL : ∀ b, SU L' b → SU (L1 ++ (M' ++ L2)) b := fun b ⟨z, hz, hb⟩ => ⟨z, hL.subset hz, hb⟩
  have suN : ∀ b, SU L' b → SU (L1 ++ (M ++ L2)) b ∨ w.heap.size ≤ b := fun b hb => hst.su b (suL b hb)
  have kOld : ∀ k, Value.ownBlock (.slice K (L1 ++ (M ++ L2)).length d) = some k → k < w.heap.size ∧ k ≠ x.g ∧ ¬ SU L' k ∧ ¬ R3 k := fun k hk => by
    have h1 := h.own k hk
    have h2 := h.ownlt hk
    refine ⟨h2, h1.1, fun hs' => ?_, fun hr => ?_⟩
    · rcases suN k hs' with h3 | h3
      · exact h1.2.1 h3
      · omega
    · rcases hs.ru k hr with h3 | h3
      · exact h1.2.2 h3
      · omega
  have hfo4 : FO w4 R3 L' := (hst.fo.sub hL).keep hm (fun b hb => ⟨(kOld b hb).2.2.1, (kOld b hb).2.2.2⟩) (fun _ h => h) (fun b hb => Nat.lt_of_lt_of_le (hst.fo.rb b hb) hs4) (fun b hb hs' => ((hst.fo.sub hL).su b hs').2 hb)
  have nG : ¬ SU L' x.g := fun hx => (suN _ hx).elim h.gs.1 (fun h' => by omega)
  have nR : ¬ R3 x.g := fun hx => (hs.ru _ hx).elim h.gs.2 (fun h' => by omega)
  have hh3 : w3.heap[x.g]? = some (.cells #[.slice A ps.length c, .slice K (L1 ++ (M ++ L2)).length d] 121 (0, 0)) := (hs.mod.block _ hgl hgM).trans h.heap
  have hh4 : w4.heap[x.g]? = some (.cells #[.slice A ps.length c, .slice K (L1 ++ (M ++ L2)).length d] 121 (0, 0)) := (hm.block _ (by omega) (fun e => (kOld _ e).2.1 rfl)).trans hh3
  have hset : Mod (fun b => b = x.g) w4 (w4.setCell ⟨x.g, 1, none⟩ (.slice K' L'.length d')) := Mod.set (S := fun b => b = x.g) (Mod.refl _ _) (.inl rfl) 1 _
  have kNew : ∀ k, Value.ownBlock (.slice K' L'.length d') = some k → k ≠ x.g ∧ ¬ SU L' k ∧ ¬ R3 k := fun k hk' => by
    rcases hk k hk' with h1 | h1
    · exact (kOld k h1).2
    · refine ⟨by omega, fun hs' => ?_, fun hr => ?_⟩
      · have := ((hst.fo.sub hL).su k hs').1
        omega
      · have := hst.fo.rb k hr
        omega
  have hn : NodeA (w4.setCell ⟨x.g, 1, none⟩ (.slice K' L'.length d')) R3 x.g A c ps K' d' L' := by
    refine ⟨((Row2.of_heap hh4).s1 _).heap, ?_, h.vs, ?_, hfo4.keep hset (fun b hb => by subst hb; exact ⟨nG, nR⟩) (fun _ h => h) (fun b hb => by have := hfo4.rb b hb; simpa using this) (fun b hb hs' => (hfo4.su b hs').2 hb), ⟨nG, nR⟩, kNew⟩
    · refine h.pairs.keep (fun b hb => ?_) hs.up
      have h1 := h.fo.rb b hb
      have h2 : ¬ SU M b := fun hx => (h.fo.su b (SU_app.2 (.inr (SU_app.2 (.inl hx))))).2 hb
      exact (Below.heap_setCell _ _ _ _ (fun e => h.gs.2 (by simp only at e; rw [← e]; exact hb))).trans ((hm.block b (by omega) (fun e => (kOld b e).2.2.2 (hs.up b hb))).trans (hs.mod.block b h1 h2))
    · have h1 : w4.ownsRow 0 71 1 (.slice K' L'.length d') L'.length (ohc L') := by
        have := ho
        unfold OwnQ at this
        rw [List.length_map, ← ohc_pcs] at this
        exact this
      exact ownsRow_keep h1 fun k hk' => Below.heap_setCell _ _ _ _ (kNew k hk').1
  refine ⟨hn.tree, ?_, fun b hb => ?_, hs.up, hs.ru⟩
  · refine ((hs.mod.mono (S' := SU [x]) (fun k _ hk' => SU_one.2 (hS k (.inr (.inr (SU_app.2 (.inr (SU_app.2 (.inl hk')))))))) ).trans hm (fun k hk' _ => SU_one.2 (hS k (.inr (.inl hk'))))).trans hset (fun k hk' _ => SU_one.2 (hS k (.inl hk')))
  · exact (nodeS_sub (fun k hk' => (hk k hk').imp id (fun h' => by omega)) suN b (SU_one.1 hb)).imp (fun h => SU_one.2 (hS b h)) id
end
end Go.Proofs.Ytcjbjfhndjpmcaa
/-
  What is put is got, all else as it was: plain facts.
-/
namespace Go.Proofs.Ytcjbjfhndjpmcaa

theorem rises_uniq {L : PS} (hs : risesB L = true) {p q : BB} (hp : p ∈ L) (hq : q ∈ L) (e : p.1 = q.1) : p = q := by
  obtain ⟨i, hi, rfl⟩ := List.getElem_of_mem hp
  obtain ⟨j, hj, rfl⟩ := List.getElem_of_mem hq
  rcases Nat.lt_trichotomy i j with h | h | h
  · exact absurd e (ltS_ne (rises_lt hs j i h hj))
  · subst h; rfl
  · exact absurd e.symm (ltS_ne (rises_lt hs i j h hi))
theorem val_mem {L : PS} (hs : risesB L = true) {p : BB} (hp : p ∈ L) : hasK L p.1 = true ∧ valOf L p.1 = p.2 := by
  have h1 : hasK L p.1 = true := by
    rw [hasK, List.any_eq_true]
    exact ⟨p, hp, by simp⟩
  refine ⟨h1, ?_⟩
  obtain ⟨h, e⟩ := (hasK_iff hs p.1).1 h1
  rw [valOf_at h e, rises_uniq hs (List.getElem_mem h) hp e]
theorem get_mem {L : PS} (hm : mapB L = true) {p : BB} (hp : p ∈ L) : getB L p.1 = true ∧ getV L p.1 = p.2 := by
  have := val_mem (mapB_iff.1 hm).2.2 hp
  simp [getB, getV, hm, this.1, this.2]
theorem put_mem (ps : PS) (k v : ByteArray) : (k, v) ∈ putL ps k v := by simp [putL]
theorem put_keep {ps : PS} {k v : ByteArray} {p : BB} (hp : p ∈ ps) (hne : p.1 ≠ k) : p ∈ putL ps k v := by
  have h := List.takeWhile_append_dropWhile (p := fun p : BB => ltS p.1 k) (l := ps)
  rw [← h, List.mem_append] at hp
  rw [putL, List.mem_append, List.mem_cons]
  rcases hp with hp | hp
  · exact .inl hp
  · exact .inr (.inr (List.mem_filter.2 ⟨hp, by simpa using hne⟩))
theorem put_get {ps : PS} {k v : ByteArray} (hm : mapB (putL ps k v) = true) {p : BB} (hp : p ∈ ps) : getB (putL ps k v) p.1 = true ∧ (p.1 ≠ k → getV (putL ps k v) p.1 = p.2) := by
  by_cases e : p.1 = k
  · have := get_mem hm (put_mem ps k v)
    rw [e]
    exact ⟨this.1, fun h => absurd rfl h⟩
  · have := get_mem hm (put_keep (v := v) hp e)
    exact ⟨this.1, fun _ => this.2⟩
theorem put_again {ps : PS} {k v : ByteArray} (hm : mapB (putL ps k v) = true) : putL (putL ps k v) k v = putL ps k v := by
  have hs := (mapB_iff.1 hm).2.2
  obtain ⟨hk, hv⟩ := val_mem hs (put_mem ps k v)
  obtain ⟨h, e⟩ := (hasK_iff hs k).1 hk
  have hc : (putL ps k v)[cnt (putL ps k v) k] = (k, v) := rises_uniq hs (List.getElem_mem h) (put_mem ps k v) e
  rw [sorted_put hs, hk, if_pos rfl]
  conv => rhs; rw [← List.take_append_drop (cnt (putL ps k v) k) (putL ps k v), List.drop_eq_getElem_cons h, hc]
  rfl
theorem put_len {ps : PS} (hs : risesB ps = true) (k v : ByteArray) : (putL ps k v).length = if hasK ps k then ps.length else ps.length + 1 := by
  rw [sorted_put hs]
  have hcl := cnt_le ps k
  cases h : hasK ps k
  · simp
    omega
  · have := ((hasK_iff hs k).1 h).1
    simp
    omega
end Go.Proofs.Ytcjbjfhndjpmcaa
