import Derived.Test.YtcjbjfhndjpmcaaPk26
import Derived.Shelf.Spec.SlicesInsert
import Derived.Lib.AppendZerosOnto
/-
  slices.Insert of one pointer, slices.Delete of one, at rows of the call's own.
-/
namespace Go.Proofs.Ytcjbjfhndjpmcaa
open Go.RowKit

/-! ### rows rewritten -/
def setL : List Value → Nat → List Value → List Value
  | xs, _, [] => xs
  | xs, o, v :: r => setL (xs.set o v) (o + 1) r
theorem setL_len : ∀ (vs xs : List Value) (o : Nat), (setL xs o vs).length = xs.length
  | [], _, _ => rfl
  | v :: r, xs, o => by simp [setL, setL_len r]
theorem setL_eq : ∀ (vs xs : List Value) (o : Nat), o + vs.length ≤ xs.length → setL xs o vs = xs.take o ++ (vs ++ xs.drop (o + vs.length))
  | [], xs, o, _ => by simp [setL]
  | v :: r, xs, o, h => by
    simp only [List.length_cons] at h
    rw [setL, setL_eq r _ _ (by rw [List.length_set]; omega)]
    have h1 : (xs.set o v).take (o + 1) = xs.take o ++ [v] := by
      rw [List.take_succ_eq_append_getElem (by rw [List.length_set]; omega), List.take_set, List.getElem_set_self]
      congr 1
      exact List.set_eq_of_length_le (by rw [List.length_take]; omega)
    have h2 : (xs.set o v).drop (o + 1 + r.length) = xs.drop (o + (r.length + 1)) := by
      rw [List.drop_set, if_pos (by omega)]
      congr 1
      omega
    rw [h1, h2]
    simp
/-- A block of pointers known whole. -/
def FullR (w : World) (g cap : Nat) (xs : List Value) : Prop := w.ownsRow 0 71 1 (.slice (some ⟨g, 0, none⟩) cap cap) cap xs
theorem FullR.len {w : World} {g cap : Nat} {xs : List Value} (h : FullR w g cap xs) : xs.length = cap := by
  have := h.1
  omega
theorem FullR.set {w : World} {g cap : Nat} {xs : List Value} (h : FullR w g cap xs) (j : Nat) (u : Value) : FullR (w.setCell ⟨g, j, none⟩ u) g cap (xs.set j u) := (World.ownsRow.stored h j u).1
theorem FullR.sets {g cap : Nat} : ∀ (vs : List Value) (o : Nat) {w : World} {xs : List Value}, FullR w g cap xs → FullR (w.setCells g o vs) g cap (setL xs o vs)
  | [], _, _, _, h => h
  | v :: r, o, _, _, h => FullR.sets r (o + 1) (h.set o v)
theorem FullR.drew {w : World} {g cap : Nat} {xs : List Value} (h : FullR w g cap xs) : FullR w.drew g cap xs := h
theorem FullR.cell {w : World} {g cap : Nat} {xs : List Value} (h : FullR w g cap xs) {j : Nat} (hj : j < cap) : w.cell? ⟨g, j, none⟩ = xs[j]? := World.ownsRow.cellAt h j (by omega)
theorem FullR.there {w : World} {g cap : Nat} {xs : List Value} (h : FullR w g cap xs) {j : Nat} (hj : j < cap) : (w.cell? ⟨g, j, none⟩).isSome = true := by
  rw [h.cell hj, List.getElem?_eq_getElem (by rw [h.len]; exact hj)]
  rfl
theorem FullR.fz {w : World} {g cap : Nat} {xs : List Value} (h : FullR w g cap xs) (j : Nat) : w.frozen? ⟨g, j, none⟩ = false := World.ownsRow.frozenAt h j
theorem FullR.mk {w : World} {g d : Nat} {cur : Array Value} (hh : w.heap[g]? = Option.some (.cells cur 71 (0, 0))) (h3 : cur.size = d) (h2 : d ≤ maxLen) : FullR w g d cur.toList :=
  ⟨by simp [h3], Or.inr ⟨g, d, cur, rfl, Nat.zero_le _, hh, Nat.le_refl _, h2, by omega, List.take_of_length_le (by simp [h3])⟩⟩
theorem OwnQ.full {w : World} {B g d : Nat} {gs : List Nat} (h : OwnQ w B (Option.some ⟨g, 0, none⟩) d gs) : ∃ xs, FullR w g d xs ∧ xs.take gs.length = pcs gs ∧ gs.length ≤ d := by
  rcases h.2 with ⟨hv, _⟩ | ⟨g', cap, cur, hv, _, hh, h1, h2, h3, h4⟩
  · cases hv
  · injection hv with e1 _ e3
    injection e1 with e1
    injection e1 with e1
    subst e1 e3
    exact ⟨cur.toList, FullR.mk hh (by omega) h2, by simpa using h4, h1⟩
theorem FullR.own {w : World} {g d : Nat} {xs : List Value} {gs : List Nat} (h : FullR w g d xs) (hn : gs.length ≤ d) (hx : xs.take gs.length = pcs gs) : OwnQ w 0 (Option.some ⟨g, 0, none⟩) d gs := by
  rcases h.2 with ⟨hv, _⟩ | ⟨g', cap, cur, hv, _, hh, h1, h2, h3, h4⟩
  · cases hv
  · injection hv with e1 _ e3
    injection e1 with e1
    injection e1 with e1
    subst e1 e3
    have e : cur.toList = xs := by
      rw [← h4, List.take_of_length_le (by simp [h3])]
    refine ⟨pcs_length gs, .inr ⟨g, d, cur, rfl, Nat.zero_le _, hh, hn, h2, h3, ?_⟩⟩
    rw [e, Nat.mul_one]
    exact hx
theorem sets_heap (g : Nat) : ∀ (vs : List Value) (o : Nat) (w : World) (k : Nat), k ≠ g → (w.setCells g o vs).heap[k]? = w.heap[k]?
  | [], _, _, _, _ => rfl
  | _ :: r, o, _, k, h => (sets_heap g r (o + 1) _ k h).trans (Below.heap_setCell _ _ _ _ h)
theorem sets_size (g : Nat) : ∀ (vs : List Value) (o : Nat) (w : World), (w.setCells g o vs).heap.size = w.heap.size
  | [], _, _ => rfl
  | _ :: r, o, _ => (sets_size g r (o + 1) _).trans (by simp)
theorem Mod.sets {S : Nat → Prop} {a : World} {g : Nat} (hg : S g ∨ a.heap.size ≤ g) : ∀ (vs : List Value) (o : Nat) {w : World}, Mod S a w → Mod S a (w.setCells g o vs)
  | [], _, _, h => h
  | v :: r, o, _, h => Mod.sets hg r (o + 1) (h.set hg o v)

/-! ### Insert -/
def Inserted (w : World) (K : Option Addr) (d : Nat) (gs L : List Nat) (e : Ending) (w' : World) : Prop :=
  ∃ K' d' m, e = .returned (.slice K' m d') ∧ Hid (m = L.length) ∧ OwnQ w' 0 K' d' L ∧ Mod (fun b => Value.ownBlock (.slice K gs.length d) = some b) w w' ∧ (∀ k, Value.ownBlock (.slice K' L.length d') = some k → Value.ownBlock (.slice K gs.length d) = some k ∨ w.heap.size ≤ k)

set_option maxHeartbeats 2000000 in
set_option maxRecDepth 100000 in
theorem insert_end (K : Option Addr) (d : Nat) (gs : List Nat) (g v : Nat) (w : World) (ho : OwnQ w 0 K d gs) (hn : gs.length ≤ 1000) (hv : w.heap[v]? = some (.cells #[ptr g] 71 (0, 0))) :
    Calls Try.prog 142 #[.slice K gs.length d, .int .i64 gs.length, .slice (some ⟨v, 0, none⟩) 1 1] w (Inserted w K d gs (gs ++ [g])) := by
  obtain ⟨i0, hi0, hz0, hz1, hz2⟩ := info_parts ptrInfo
  have hcap := own_cap ho
  unfold maxLen at hcap
  have HO := hid ho
  have hnews := hid (World.news_of_block hv)
  have e1 : (gs.length : Int) ≤ (d : Int) := by omega
  have e2 : ((gs.length : Int) == (gs.length : Int)) = true := by simp
  have e3 : (0 : Int) ≤ (gs.length : Int) := by omega
  clear ho hv
  have hend : ∀ (K' : Option Addr) (w4 : World) (gg cap : Nat), w4.ownsRow 0 71 1 (.slice (some ⟨gg, 0, none⟩) (gs.length + 1) cap) (gs.length + 1) (pcs gs ++ [ptr g]) → w.grownBy w4 (Value.ownBlock (.slice K' gs.length d)) → (Value.ownBlock (.slice K' gs.length d) = some gg ∨ gg = w.heap.size) →
      Inserted w K' d gs (gs ++ [g]) (.returned (.slice (some ⟨gg, 0, none⟩) (gs.length + 1) cap)) w4 := fun K' w4 gg cap h1 h2 h3 => by
    refine ⟨_, cap, _, rfl, by simp [Hid], ?_, Mod.of_gr h2 (fun k e => e), fun k hk => ?_⟩
    · unfold OwnQ
      rw [List.length_append, pcs_append]
      exact h1
    · have : gg = k := by simpa [Value.ownBlock] using hk
      subst this
      rcases h3 with h3 | h3
      · exact .inl h3
      · exact .inr (by omega)
  have HEND := hid hend
  clear hend
  rcases K with _ | ⟨kb, ko, ks⟩
  · go_enter Try.func142, Try.ntmps142
    go_wp2_with (at_builtin; refine wpList_append_lies _ rfl _ _ _ rfl 0 71 i0 _ 1 8 Try.underlying117 hi0 hz0 hz1 hz2 rfl (by omega) (.slice none gs.length d) gs.length (pcs gs) rfl HO.out ⟨v, 0, none⟩ 1 1 [ptr g] rfl rfl hnews.out (by simp [ptr, Value.oneCell']) (by omega) (by unfold maxLen; omega) (by omega) (Nat.zero_le _) w.heap.size rfl ?_; intro gg cap w4 hown4 hgrow4 hat4 hlt4; have HO4 := hid hown4; have HG4 := hid hgrow4; have HA4 := hid hat4; clear hown4 hgrow4 hat4)
    go_ret
    exact HEND.out _ _ _ _ HO4.out HG4.out HA4.out
  · go_enter Try.func142, Try.ntmps142
    go_wp2_with (at_builtin; refine wpList_append_lies _ rfl _ _ _ rfl 0 71 i0 _ 1 8 Try.underlying117 hi0 hz0 hz1 hz2 rfl (by omega) (.slice (some ⟨kb, ko, ks⟩) gs.length d) gs.length (pcs gs) rfl HO.out ⟨v, 0, none⟩ 1 1 [ptr g] rfl rfl hnews.out (by simp [ptr, Value.oneCell']) (by omega) (by unfold maxLen; omega) (by omega) (Nat.zero_le _) w.heap.size rfl ?_; intro gg cap w4 hown4 hgrow4 hat4 hlt4; have HO4 := hid hown4; have HG4 := hid hgrow4; have HA4 := hid hat4; clear hown4 hgrow4 hat4)
    all_goals
      go_ret
      exact HEND.out _ _ _ _ HO4.out HG4.out HA4.out

theorem ins_list {α : Type} (xs ys : List α) (i n : Nat) (v : α) (hn : xs.take n = ys) (hy : ys.length = n) (hl : n + 1 ≤ xs.length) (hi : i ≤ n) :
    (((xs.take (i + 1) ++ (ys.drop i ++ xs.drop (i + 1 + (ys.drop i).length))).take i ++ ([v] ++ (xs.take (i + 1) ++ (ys.drop i ++ xs.drop (i + 1 + (ys.drop i).length))).drop (i + [v].length))).take (n + 1)) = ys.take i ++ v :: ys.drop i := by
  have h1 : (xs.take (i + 1) ++ (ys.drop i ++ xs.drop (i + 1 + (ys.drop i).length))).take i = ys.take i := by
    rw [List.take_append_of_le_length (by rw [List.length_take]; omega), List.take_take, ← hn, List.take_take]
    congr 1
    omega
  have h2 : (xs.take (i + 1) ++ (ys.drop i ++ xs.drop (i + 1 + (ys.drop i).length))).drop (i + [v].length) = ys.drop i ++ xs.drop (i + 1 + (ys.drop i).length) := by
    rw [List.drop_append_of_le_length (by rw [List.length_take]; simp; omega), List.drop_eq_nil_iff.2 (by rw [List.length_take]; simp; omega), List.nil_append]
  rw [h1, h2]
  have h3 : (ys.take i ++ ([v] ++ ys.drop i)).length = n + 1 := by simp; omega
  have h4 : ys.take i ++ ([v] ++ (ys.drop i ++ xs.drop (i + 1 + (ys.drop i).length))) = (ys.take i ++ ([v] ++ ys.drop i)) ++ xs.drop (i + 1 + (ys.drop i).length) := by simp
  rw [h4, List.take_append_of_le_length (by omega), List.take_of_length_le (by omega)]
  rfl
theorem shape_of {w : World} {g : Nat} {cs : Array Value} {t : TypeId} {fr : Nat × Nat} (h : w.heap[g]? = some (.cells cs t fr)) : w.shape? g = some (t, cs.size) := by simp [World.shape?, h]
theorem FullR.shape {w : World} {g d : Nat} {xs : List Value} (h : FullR w g d xs) : w.shape? g = some (71, d) := by
  rcases h.2 with ⟨hv, _⟩ | ⟨g', cap, cur, hv, _, hh, h1, h2, h3, h4⟩
  · cases hv
  · injection hv with e1 _ e3
    injection e1 with e1
    injection e1 with e1
    subst e1 e3
    rw [shape_of hh, h3, Nat.mul_one]

set_option maxHeartbeats 4000000 in
set_option maxRecDepth 100000 in
theorem insert_room (kb d i : Nat) (gs : List Nat) (g v : Nat) (w : World) (ho : OwnQ w 0 (some ⟨kb, 0, none⟩) d gs) (hi : i < gs.length) (hn : gs.length ≤ 1000) (hroom : gs.length + 1 ≤ d) (hv : w.heap[v]? = some (.cells #[ptr g] 71 (0, 0))) (hne : v ≠ kb) :
    Calls Try.prog 142 #[.slice (some ⟨kb, 0, none⟩) gs.length d, .int .i64 i, .slice (some ⟨v, 0, none⟩) 1 1] w (Inserted w (some ⟨kb, 0, none⟩) d gs (gs.take i ++ g :: gs.drop i)) := by
  obtain ⟨i0, hi0, hz0, hz1, hz2⟩ := info_parts ptrInfo
  obtain ⟨xs, hx, hxt, _⟩ := ho.full
  have hcap := own_cap ho
  have hxl := hx.len
  unfold maxLen at hcap
  have hT : Try.prog.underlying 117 = some (.slice 71) := Try.underlying117
  have hsz : (Try.prog.info? 71).map (·.size) = some 1 := by rw [hi0]; simp [hz1]
  have hov : ∀ lb cb, (callFunc 158 #[.slice (some ⟨v, 0, none⟩) 1 1, .slice (some ⟨kb, i + 1, none⟩) lb cb]).run Try.prog w = .ok (.value (.bool false)) w := fun lb cb => by
    rw [run_callFunc_extern Try.func158 (by kernel_rfl) (by kernel_rfl) (by kernel_rfl) (e := Extern.SlicesOverlaps.overlaps #[117, 117] #[4]) (by kernel_rfl),
      Lib.run_overlaps_apart w 117 4 71 hT 1 (fun w => by simp [sizeOf, typeInfo, hi0, hz1]) ⟨v, 0, none⟩ ⟨kb, i + 1, none⟩ 1 1 lb cb hne 71 71 1 d (shape_of hv) hx.shape (by omega) (by simp [World.frozen?, hv]) (by simp [World.frozen?, hv])]
    rfl
  have hdl : ((pcs gs).drop i).length = gs.length - i := by rw [List.length_drop, pcs_length]; omega
  have hget : ∀ j u, ((pcs gs).drop i)[j]? = some u → w.cell? ⟨kb, i + j, none⟩ = some u := fun j u hj => by
    have hl := (List.getElem?_eq_some_iff.1 hj).1
    rw [List.getElem?_drop] at hj
    rw [hx.cell (by omega), ← hj, ← hxt, List.getElem?_take, if_pos (by omega)]
  have hone : ∀ u ∈ (pcs gs).drop i, u.oneCell' = true := fun u hu => pcs_one gs u (List.mem_of_mem_drop hu)
  have hcp1 : ∀ ty dc sc, (Builtin.copy_ #[117, 117] ty #[.slice (some ⟨kb, i + 1, none⟩) (gs.length - i) dc, .slice (some ⟨kb, i, none⟩) (gs.length + 1 - i) sc]).run Try.prog w.drew = .ok (goInt ((pcs gs).drop i).length) (w.drew.setCells kb (i + 1) ((pcs gs).drop i)) := fun ty dc sc =>
    run_copy_cells w.drew _ _ ty 71 kb (i + 1) _ dc ⟨kb, i, none⟩ _ sc ((pcs gs).drop i) hT hsz (by rw [hdl]; simp only [Nat.min_def]; split <;> omega)
      (fun j u hj => by rw [Addr.add_lit]; exact hget j u hj) (fun j hj => hx.drew.there (by omega)) (fun j hj => hx.drew.fz _) hone
  obtain ⟨W1, hW1⟩ : ∃ W1, W1 = w.drew.setCells kb (i + 1) ((pcs gs).drop i) := ⟨_, rfl⟩
  have hx1 : FullR W1 kb d (setL xs (i + 1) ((pcs gs).drop i)) := by rw [hW1]; exact hx.drew.sets _ _
  have hcp2 : ∀ ty dc, (Builtin.copy_ #[117, 117] ty #[.slice (some ⟨kb, i, none⟩) (gs.length + 1 - i) dc, .slice (some ⟨v, 0, none⟩) 1 1]).run Try.prog W1 = .ok (goInt [ptr g].length) (W1.setCells kb i [ptr g]) := fun ty dc =>
    run_copy_cells W1 _ _ ty 71 kb i _ dc ⟨v, 0, none⟩ 1 1 [ptr g] hT hsz (by simp only [List.length_singleton, Nat.min_def]; split <;> omega)
      (fun j u hj => by
        rw [Addr.add_lit, hW1, World.cell?_setCells_out kb _ _ _ _ (fun h _ => absurd h hne)]
        have hj0 : j = 0 := by have := (List.getElem?_eq_some_iff.1 hj).1; simp at this; exact this
        subst hj0
        have : some (ptr g) = some u := hj
        rw [← this]
        show w.cell? _ = _
        simp [World.cell?, hv]) (fun j hj => hx1.there (by simp at hj; omega)) (fun j hj => hx1.fz _) (by simp [ptr, Value.oneCell'])
  have HEND : Hid (Inserted w (some ⟨kb, 0, none⟩) d gs (gs.take i ++ g :: gs.drop i) (.returned (.slice (some ⟨kb, 0, none⟩) (gs.length + 1) d)) (W1.setCells kb i [ptr g])) := by
    have hLl : (gs.take i ++ g :: gs.drop i).length = gs.length + 1 := by simp; omega
    refine ⟨_, d, _, rfl, hLl.symm, ?_, ?_, fun k hk => ?_⟩
    · have hx2 := hx1.sets [ptr g] i
      refine hx2.own (by rw [hLl]; exact hroom) ?_
      rw [hLl, setL_eq _ _ _ (by rw [setL_len, hxl]; simp; omega), setL_eq _ _ _ (by rw [hxl, hdl]; omega), ins_list xs (pcs gs) i gs.length (ptr g) hxt (by rw [pcs_length]; omega) (by rw [hxl]; exact hroom) (by omega), pcs_append]
      simp [pcs]
    · rw [hW1]
      exact Mod.sets (S := fun b => Value.ownBlock (.slice (some ⟨kb, 0, none⟩) gs.length d) = some b) (.inl rfl) _ _ (Mod.sets (S := fun b => Value.ownBlock (.slice (some ⟨kb, 0, none⟩) gs.length d) = some b) (.inl rfl) _ _ (Mod.refl _ _).drew)
    · have : kb = k := by simpa [Value.ownBlock] using hk
      subst this
      exact .inl rfl
  rw [← hW1] at hcp1
  have HC1 := hid hcp1
  have HC2 := hid hcp2
  have HOV := hid hov
  have z1 : ((i : Int) == (gs.length : Int)) = false := by rw [beq_eq_false_iff_ne]; omega
  have z2 : ¬ (i : Int) = (gs.length : Int) := by omega
  have z3 : ¬ i = gs.length := by omega
  have hw1 : IntKind.i64.wrap ((i : Int) + 1) = (i : Int) + 1 := by rw [IntKind.wrap_i64]; omega
  have hb1 : (0 : Int) ≤ (i : Int) + 1 := by omega
  have htn : ((i : Int) + 1).toNat = i + 1 := by omega
  have hb2 : ¬ d = i + 1 := by omega
  have hb4 : ¬ d = i := by omega
  have hb3 : (i : Int) ≤ (gs.length : Int) + 1 := by omega
  have hb5 : i ≤ gs.length + 1 := by omega
  have hb6 : i ≤ gs.length := by omega
  clear hcp1 hcp2 hov hx1 hW1 hget hx hxt hxl ho hv hone hdl hT
  go_enter Try.func142, Try.ntmps142
  go_wp2_with (simp only [HOV.out])
  go_region_law (refine step_copy_runI (by rfl) _ _ 117 117 (by rfl) (.slice (some ⟨kb, i + 1, none⟩) (gs.length - i) (d - (i + 1))) (.slice (some ⟨kb, i, none⟩) (gs.length + 1 - i) (d - i)) (by simp [Act.eval, Act.put]) (by simp [Act.eval, Act.put]) (HC1.out 3 (d - (i + 1)) (d - i)) ?_)
  go_wp2_with (refine wpList_copy_runI _ rfl _ _ 117 117 rfl (.slice (some ⟨kb, i, none⟩) (gs.length + 1 - i) (d - i)) (.slice (some ⟨v, 0, none⟩) 1 1) rfl rfl (HC2.out 3 (d - i)) ?_)
  go_ret
  exact HEND.out

theorem ins_list2 {α : Type} (R ys : List α) (i n m : Nat) (v : α) (hR : R.take i = ys.take i) (hy : ys.length = n) (hl : n + 1 ≤ R.length) (hi : i ≤ n) (_ : m = (ys.drop i).length) :
    (((R.take i ++ ([v] ++ R.drop (i + [v].length))).take (i + 1) ++ (ys.drop i ++ (R.take i ++ ([v] ++ R.drop (i + [v].length))).drop (i + 1 + m)))).take (n + 1) = ys.take i ++ v :: ys.drop i := by
  have h0 : (R.take i).length = i := by rw [List.length_take]; omega
  have h1 : (R.take i ++ ([v] ++ R.drop (i + [v].length))).take (i + 1) = ys.take i ++ [v] := by
    rw [← List.append_assoc, List.take_append_of_le_length (by simp; omega), List.take_of_length_le (by simp; omega), hR]
  rw [h1]
  have h4 : ys.take i ++ [v] ++ (ys.drop i ++ (R.take i ++ ([v] ++ R.drop (i + [v].length))).drop (i + 1 + m)) = (ys.take i ++ ([v] ++ ys.drop i)) ++ (R.take i ++ ([v] ++ R.drop (i + [v].length))).drop (i + 1 + m) := by simp
  have h5 : (ys.take i ++ ([v] ++ ys.drop i)).length = n + 1 := by simp; omega
  rw [h4, List.take_append_of_le_length (by omega), List.take_of_length_le (by omega)]
  rfl

set_option maxHeartbeats 4000000 in
set_option maxRecDepth 100000 in
theorem insert_grow (kb d i : Nat) (gs : List Nat) (g v : Nat) (w : World) (ho : OwnQ w 0 (some ⟨kb, 0, none⟩) d gs) (hi : i < gs.length) (hn : gs.length ≤ 1000) (hroom : d < gs.length + 1) (hv : w.heap[v]? = some (.cells #[ptr g] 71 (0, 0))) :
    Calls Try.prog 142 #[.slice (some ⟨kb, 0, none⟩) gs.length d, .int .i64 i, .slice (some ⟨v, 0, none⟩) 1 1] w (Inserted w (some ⟨kb, 0, none⟩) d gs (gs.take i ++ g :: gs.drop i)) := by
  obtain ⟨i0, hi0, hz0, hz1, hz2⟩ := info_parts ptrInfo
  obtain ⟨xs, hx, hxt, hcl⟩ := ho.full
  have hd : d = gs.length := by omega
  subst hd
  have hxl := hx.len
  have hT : Try.prog.underlying 117 = some (.slice 71) := Try.underlying117
  have hsz : (Try.prog.info? 71).map (·.size) = some 1 := by rw [hi0]; simp [hz1]
  have hbw : kb < w.heap.size := (ho.size kb rfl).2
  have hvw : v < w.heap.size := lt_of_block hv
  have hxe : xs = pcs gs := by rw [← hxt, List.take_of_length_le (by omega)]
  subst hxe
  have hdl : ((pcs gs).drop i).length = gs.length - i := by rw [List.length_drop, pcs_length]; omega
  have hpl : (pcs gs).length = gs.length := by rw [pcs_length]; omega
  have hold : (Builtin.firstCells i0.size i (.slice (some ⟨kb, 0, none⟩) i gs.length)).run Try.prog w.drew = .ok ((pcs gs).take i).toArray w.drew := by
    rw [hz1]
    exact run_firstCells_some w.drew 1 i ⟨kb, 0, none⟩ i gs.length ((pcs gs).take i) (by rw [List.length_take]; omega) (fun j u hj => by
      have hl := (List.getElem?_eq_some_iff.1 hj).1
      rw [List.length_take] at hl
      rw [List.getElem?_take, if_pos (by omega)] at hj
      rw [Addr.add_lit, Nat.zero_add, hx.drew.cell (by omega)]
      exact hj)
  have hkk : (gs.length : Int) + 1 - (i : Int) = ((gs.length + 1 - i : Nat) : Int) := by omega
  have hik : i + (gs.length + 1 - i) = gs.length + 1 := by omega
  obtain ⟨G, hG⟩ : ∃ G, G = grownCap w (gs.length + 1) gs.length 71 := ⟨_, rfl⟩
  obtain ⟨ROW, hROW⟩ : ∃ ROW : Array Value, ROW = ((pcs gs).take i).toArray ++ Builtin.zeroCells (Value.pointer none).cells (gs.length + 1 - i) ++ Builtin.zeroCells (Value.pointer none).cells (G - (gs.length + 1)) := ⟨_, rfl⟩
  have hrz : ∀ ty, (Builtin.append_ #[117, 3] ty #[.slice (some ⟨kb, 0, none⟩) i gs.length, .int .i64 ((gs.length : Int) + 1 - (i : Int))]).run Try.prog w =
      .ok (.slice (some ⟨w.heap.size, 0, none⟩) (gs.length + 1) G) (w.drew.alloc (.cells ROW 71)) := fun ty => by
    have h := Lib.run_append_grow_zeros w 117 3 ty 71 i0 _ .i64 .i64 hT Try.underlying3 hi0 hz0 (some ⟨kb, 0, none⟩) i gs.length ((pcs gs).take i) hold (gs.length + 1 - i) (by omega) (by omega) (by omega) (by omega) (by rw [hz2]; omega) (by rw [hz2, hik]; exact growslice_fits (by omega) (by omega))
    rw [hik] at h
    rw [hkk, hROW, hG]
    exact h
  have hGn : gs.length + 1 ≤ G := by rw [hG]; exact grownCap_ge w _ _ _
  have hGm : G ≤ maxLen := by rw [hG]; exact grownCap_le_maxLen w _ _ _ (by unfold maxLen; omega)
  have hRl : ROW.size = G := by
    rw [hROW]
    simp [Builtin.zeroCells, Value.cells]
    omega
  have hRt : ROW.toList.take i = (pcs gs).take i := by
    rw [hROW]
    simp only [Array.toList_append, List.append_assoc]
    rw [List.take_append_of_le_length (by simp; omega)]
    show List.take i ((pcs gs).take i) = _
    rw [List.take_take, Nat.min_self]
  have hRl2 : ROW.toList.length = G := by rw [Array.length_toList]; exact hRl
  obtain ⟨W1, hW1⟩ : ∃ W1, W1 = w.drew.alloc (.cells ROW 71) := ⟨_, rfl⟩
  have hF1 : FullR W1 w.heap.size G ROW.toList := by
    rw [hW1]
    exact FullR.mk (heap_alloc_new w.drew _) hRl hGm
  have hB1 : Below w.heap.size w W1 := by rw [hW1]; exact ((Below.refl _ _).drew).alloc (Nat.le_refl _) _
  have hcpA : ∀ ty dc, (Builtin.copy_ #[117, 117] ty #[.slice (some ⟨w.heap.size, i, none⟩) (gs.length + 1 - i) dc, .slice (some ⟨v, 0, none⟩) 1 1]).run Try.prog W1 = .ok (goInt [ptr g].length) (W1.setCells w.heap.size i [ptr g]) := fun ty dc =>
    run_copy_cells W1 _ _ ty 71 w.heap.size i _ dc ⟨v, 0, none⟩ 1 1 [ptr g] hT hsz (by simp only [List.length_singleton, Nat.min_def]; split <;> omega)
      (fun j u hj => by
        have hj0 : j = 0 := by have := (List.getElem?_eq_some_iff.1 hj).1; simp at this; exact this
        subst hj0
        have : some (ptr g) = some u := hj
        rw [← this, Addr.add_lit, hB1.cell (p := ⟨v, 0 + 0, none⟩) hvw]
        simp [World.cell?, hv]) (fun j hj => hF1.there (by simp at hj; omega)) (fun j hj => hF1.fz _) (by simp [ptr, Value.oneCell'])
  obtain ⟨W2, hW2⟩ : ∃ W2, W2 = W1.setCells w.heap.size i [ptr g] := ⟨_, rfl⟩
  rw [← hW2] at hcpA
  have hF2 : FullR W2 w.heap.size G (setL ROW.toList i [ptr g]) := by rw [hW2]; exact hF1.sets _ _
  have hcpB : ∀ ty dc sc, (Builtin.copy_ #[117, 117] ty #[.slice (some ⟨w.heap.size, i + 1, none⟩) (gs.length - i) dc, .slice (some ⟨kb, i, none⟩) (gs.length - i) sc]).run Try.prog W2.drew = .ok (goInt ((pcs gs).drop i).length) (W2.drew.setCells w.heap.size (i + 1) ((pcs gs).drop i)) := fun ty dc sc =>
    run_copy_cells W2.drew _ _ ty 71 w.heap.size (i + 1) _ dc ⟨kb, i, none⟩ _ sc ((pcs gs).drop i) hT hsz (by rw [hdl]; simp only [Nat.min_def]; split <;> omega)
      (fun j u hj => by
        have hl := (List.getElem?_eq_some_iff.1 hj).1
        rw [List.getElem?_drop] at hj
        rw [Addr.add_lit]
        show W2.cell? _ = _
        rw [hW2, World.cell?_setCells_out _ _ _ _ _ (fun h _ => absurd h (by show kb ≠ _; omega)), hB1.cell (p := ⟨kb, i + j, none⟩) hbw, hx.cell (by omega)]
        exact hj) (fun j hj => hF2.drew.there (by omega)) (fun j hj => hF2.drew.fz _) (fun u hu => pcs_one gs u (List.mem_of_mem_drop hu))
  have HEND : Hid (Inserted w (some ⟨kb, 0, none⟩) gs.length gs (gs.take i ++ g :: gs.drop i) (.returned (.slice (some ⟨w.heap.size, 0, none⟩) (gs.length + 1) G)) (W2.drew.setCells w.heap.size (i + 1) ((pcs gs).drop i))) := by
    have hLl : (gs.take i ++ g :: gs.drop i).length = gs.length + 1 := by simp; omega
    refine ⟨_, G, _, rfl, hLl.symm, ?_, ?_, fun k hk => ?_⟩
    · have hx2 := hF2.drew.sets ((pcs gs).drop i) (i + 1)
      refine hx2.own (by rw [hLl]; exact hGn) ?_
      rw [hLl, setL_eq _ _ _ (by rw [setL_len, hRl2, hdl]; omega), setL_eq _ _ _ (by rw [hRl2]; simp; omega),
        ins_list2 ROW.toList (pcs gs) i gs.length _ (ptr g) hRt hpl (by rw [hRl2]; exact hGn) (by omega) rfl, pcs_append]
      simp [pcs]
    · rw [hW2]
      exact Mod.sets (S := fun b => Value.ownBlock (.slice (some ⟨kb, 0, none⟩) gs.length gs.length) = some b) (.inr (Nat.le_refl _)) _ _ (Mod.drew (Mod.sets (S := fun b => Value.ownBlock (.slice (some ⟨kb, 0, none⟩) gs.length gs.length) = some b) (.inr (Nat.le_refl _)) _ _ (Mod.of_below hB1)))
    · have : w.heap.size = k := by simpa [Value.ownBlock] using hk
      subst this
      exact .inr (Nat.le_refl _)
  unfold maxLen at hGm
  rw [← hW1] at hrz
  have HCA := hid hcpA
  have HCB := hid hcpB
  have HRZ := hid hrz
  have HHN : ∃ H, H = w.heap.size := ⟨_, rfl⟩
  have z1 : ((i : Int) == (gs.length : Int)) = false := by rw [beq_eq_false_iff_ne]; omega
  have z2 : ¬ (i : Int) = (gs.length : Int) := by omega
  have z3 : ¬ i = gs.length := by omega
  have z4 : (gs.length : Int) < (gs.length : Int) + 1 := by omega
  have hw1 : IntKind.i64.wrap ((i : Int) + 1) = (i : Int) + 1 := by rw [IntKind.wrap_i64]; omega
  have hb1 : (0 : Int) ≤ (i : Int) + 1 := by omega
  have htn : ((i : Int) + 1).toNat = i + 1 := by omega
  have hb2 : ¬ G = i + 1 := by omega
  have hb4 : ¬ G = i := by omega
  have hb3 : (i : Int) ≤ (gs.length : Int) + 1 := by omega
  have hb5 : i ≤ gs.length + 1 := by omega
  have hb6 : i ≤ gs.length := by omega
  have hb7 : (i : Int) ≤ (gs.length : Int) := by omega
  have hb8 : ¬ gs.length = i := by omega
  clear hrz hcpA hcpB hF1 hF2 hW1 hW2 hRt hRl hRl2 hx hxt hxl ho hv hdl hpl hT hROW hG hkk hik hold HHN hB1
  go_enter Try.func142, Try.ntmps142
  go_wp2_with (first
    | (at_builtin; refine Lib.wpList_append_run _ rfl _ _ _ _ rfl _ _ rfl rfl _ _ (HRZ.out _) ?_)
    | (refine wpList_copy_runI _ rfl _ _ 117 117 rfl (.slice (some ⟨w.heap.size, i, none⟩) (gs.length + 1 - i) (G - i)) (.slice (some ⟨v, 0, none⟩) 1 1) rfl rfl (HCA.out 3 (G - i)) ?_))
  go_region_law (refine step_copy_runI (by rfl) _ _ 117 117 (by rfl) (.slice (some ⟨w.heap.size, i + 1, none⟩) (gs.length - i) (G - (i + 1))) (.slice (some ⟨kb, i, none⟩) (gs.length - i) (gs.length - i)) (by simp [Act.eval, Act.put]) (by simp [Act.eval, Act.put]) (HCB.out 3 (G - (i + 1)) (gs.length - i)) ?_)
  go_wp2_with fail
  go_ret
  exact HEND.out

theorem impl_insert (K : Option Addr) (d i : Nat) (gs : List Nat) (g v : Nat) (w : World) (ho : OwnQ w 0 K d gs) (hi : i ≤ gs.length) (hn : gs.length ≤ 1000) (hv : w.heap[v]? = some (.cells #[ptr g] 71 (0, 0))) (hne : Value.ownBlock (.slice K gs.length d) ≠ some v) :
    Calls Try.prog 142 #[.slice K gs.length d, .int .i64 i, .slice (some ⟨v, 0, none⟩) 1 1] w (Inserted w K d gs (gs.take i ++ g :: gs.drop i)) := by
  by_cases he : i = gs.length
  · subst he
    rw [List.take_length, List.drop_length]
    exact insert_end K d gs g v w ho hn hv
  · rcases ho.2 with ⟨hv', h0⟩ | ⟨kb, cap, cur, hv', _⟩
    · omega
    · injection hv' with e1 _ e3
      subst e1 e3
      by_cases hr : gs.length + 1 ≤ d
      · exact insert_room kb d i gs g v w ho (by omega) hn hr hv (fun e => hne (by rw [e]; rfl))
      · exact insert_grow kb d i gs g v w ho (by omega) hn (by omega) hv
end Go.Proofs.Ytcjbjfhndjpmcaa
