/-
  PageText: plain facts, and the model's.
-/
import Derived.Test.YtooalnpfenhelabDoorPageOkI
import Derived.Test.YtooalnpfenhelabDoorSuperI
import Derived.Test.YtooalnpfenhelabDoorText
import Derived.Test.YtooalnpfenhelabDoorRow3
namespace Go.Proofs.YtooalnpfenhelabDoor
open Go.RowKit

theorem joinB_snoc {xs : List ByteArray} (h : xs ≠ []) (x : ByteArray) : joinB (xs ++ [x]) = joinB xs ++ ⟨#[32]⟩ ++ x := by
  apply ext_txt
  simp only [app_list']
  show Lib.join ((xs ++ [x]).map (·.data.toList)) [32] = Lib.join (xs.map (·.data.toList)) [32] ++ [32] ++ x.data.toList
  rw [List.map_append, List.map_cons, List.map_nil, join_snoc _ _ _ (by simpa using h), List.append_assoc]
theorem joinTail_len : ∀ ys : List ByteArray, (∀ y ∈ ys, y.size ≤ 21) → (Lib.joinTail [32] (ys.map (·.data.toList))).length ≤ 22 * ys.length
  | [], _ => by simp [Lib.joinTail]
  | y :: r, h => by
    have h1 := h y (by simp)
    have h2 := joinTail_len r fun z hz => h z (by simp [hz])
    have h3 : y.data.toList.length = y.size := Array.length_toList
    simp only [Lib.joinTail, List.map_cons, List.flatten_cons, List.length_append, List.length_cons, List.length_nil] at h2 ⊢
    rw [h3]
    omega
theorem joinB_size {xs : List ByteArray} (h : ∀ y ∈ xs, y.size ≤ 21) : (joinB xs).size ≤ 22 * xs.length := by
  have e : (joinB xs).size = (Lib.join (xs.map (·.data.toList)) [32]).length := by
    show (Lib.join (xs.map (·.data.toList)) [32]).toArray.size = _
    simp
  rw [e]
  cases xs with
  | nil => simp [Lib.join_nil]
  | cons y r =>
    have h1 := h y (by simp)
    have h2 := joinTail_len r fun z hz => h z (by simp [hz])
    have h3 : y.data.toList.length = y.size := Array.length_toList
    rw [List.map_cons, Lib.join_cons, List.length_append, h3, List.length_cons]
    omega

def sortW (b : Bool) : ByteArray := if b then ⟨#[108, 101, 97, 102]⟩ else ⟨#[107, 105, 100, 115]⟩
def pageHead (id : Int) (b : Bool) : List ByteArray := [⟨#[112, 97, 103, 101]⟩, decB id.toNat, sortW b]
def pairW (ps : PS) : List ByteArray := ps.map wB
def kidW (ks : List Int) : List ByteArray := ks.map fun k => decB k.toNat
/-- The words of a page's text. -/
def pageWords (id : Int) (ps : PS) (ks : List Int) : List ByteArray := pageHead id ks.isEmpty ++ pairW ps ++ kidW ks
/-- What PageText answers. -/
def pageT (id : Int) (ps : PS) (ks : List Int) : ByteArray := if pageB id ps ks then summedB (joinB (pageWords id ps ks)) else ⟨#[]⟩

theorem head_leaf (id : Int) : (⟨#[112, 97, 103, 101, 32]⟩ : ByteArray) ++ decB id.toNat ++ ⟨#[32, 108, 101, 97, 102]⟩ = joinB (pageHead id true) := by
  apply ext_txt
  simp only [app_list']
  simp [joinB, pageHead, sortW, Lib.join_cons, Lib.joinTail]
theorem head_kids (id : Int) : (⟨#[112, 97, 103, 101, 32]⟩ : ByteArray) ++ decB id.toNat ++ ⟨#[32, 107, 105, 100, 115]⟩ = joinB (pageHead id false) := by
  apply ext_txt
  simp only [app_list']
  simp [joinB, pageHead, sortW, Lib.join_cons, Lib.joinTail]
theorem leaf_step {id : Int} {b : Bool} {ps : PS} {k : Nat} (h : k < ps.length) {s : ByteArray} (hs : s = joinB (pageHead id b ++ pairW (ps.take k))) :
    s ++ ⟨#[32]⟩ ++ ps[k].1 ++ ⟨#[61]⟩ ++ ps[k].2 = joinB (pageHead id b ++ pairW (ps.take (k + 1))) := by
  rw [List.take_succ_eq_append_getElem h, pairW, List.map_append, ← List.append_assoc]
  show _ = joinB (pageHead id b ++ pairW (ps.take k) ++ [wB ps[k]])
  rw [joinB_snoc (by simp [pageHead]), ← hs]
  apply ext_txt
  simp only [app_list', wB, List.append_assoc]
theorem kid_step {id : Int} {b : Bool} {ks : List Int} {k : Nat} (h : k < ks.length) {s : ByteArray} (hs : s = joinB (pageHead id b ++ kidW (ks.take k))) :
    s ++ ⟨#[32]⟩ ++ decB ks[k].toNat = joinB (pageHead id b ++ kidW (ks.take (k + 1))) := by
  rw [List.take_succ_eq_append_getElem h, kidW, List.map_append, ← List.append_assoc]
  show _ = joinB (pageHead id b ++ kidW (ks.take k) ++ [decB ks[k].toNat])
  rw [joinB_snoc (by simp [pageHead]), ← hs]
theorem pageW_size {id : Int} {ps : PS} {ks : List Int} (h1 : id ≤ 1000000) (hp : ∀ p ∈ ps, pairB p = true) (hk : ∀ k ∈ ks, k ≤ 1000000) : ∀ y ∈ pageWords id ps ks, y.size ≤ 21 := by
  intro y hy
  simp only [pageWords, pageHead, pairW, kidW, List.mem_append, List.mem_map, List.mem_cons, List.not_mem_nil, or_false] at hy
  rcases hy with ((rfl | rfl | rfl) | ⟨p, hpm, rfl⟩) | ⟨k, hkm, rfl⟩
  · show 4 ≤ 21
    omega
  · exact decB_size (by omega)
  · cases ks.isEmpty <;> show 4 ≤ 21 <;> omega
  · have hq := hp p hpm
    simp only [pairB, Bool.and_eq_true] at hq
    have h1 := keyB_small hq.1
    have h2 := keyB_small hq.2
    simp only [wB, ByteArray.size_append]
    show _ + 1 + _ ≤ 21
    omega
  · have := hk k hkm
    exact decB_size (by omega)
theorem page_idok {id : Int} {ps : PS} {ks : List Int} (h : pageB id ps ks = true) : 1 ≤ id ∧ id ≤ 1000000 := by
  simp only [pageB, Bool.and_eq_true, idB, decide_eq_true_eq] at h
  omega
theorem page_pairs {id : Int} {ps : PS} {ks : List Int} (h : pageB id ps ks = true) : (∀ p ∈ ps, pairB p = true) ∧ ps.length ≤ 4 := by
  simp only [pageB, Bool.and_eq_true, decide_eq_true_eq] at h
  exact ⟨(pairsB_iff.1 h.2.2.1).1, h.2.2.2.1⟩
theorem page_kids {id : Int} {ps : PS} {ks : List Int} (h : pageB id ps ks = true) : (∀ k ∈ ks, 1 ≤ k ∧ k ≤ 1000000) ∧ ks.length ≤ 4 ∧ (1 ≤ ks.length → ps = []) := by
  simp only [pageB, Bool.and_eq_true, Bool.or_eq_true, decide_eq_true_eq] at h
  obtain ⟨h1, _, _, _, h4, _, h5⟩ := h
  refine ⟨fun k hk => ?_, h4, fun hk => ?_⟩
  · obtain ⟨i, hi, rfl⟩ := List.getElem_of_mem hk
    have := List.all_eq_true.1 h1 i (List.mem_range.2 hi)
    simp only [kidB, getD_at hi, Bool.and_eq_true, idB, decide_eq_true_eq] at this
    omega
  · rcases h5 with h5 | h5
    · omega
    · exact List.eq_nil_of_length_eq_zero h5

set_option maxHeartbeats 2000000 in
set_option maxRecDepth 100000 in
theorem spec_l3Body_leaf (id : Int) (A : Option Addr) (c : Nat) (ps : PS) (K : Option Addr) (d : Nat) (w : World) (h0 : 1 ≤ id) (h1 : id ≤ 1000000) (hr : RP w w.heap.size A ps) (hp : ∀ p ∈ ps, pairB p = true) (hl : ps.length ≤ 4) :
    Calls Tryd.prog 26 #[.agg #[.int .i64 id, .slice A ps.length c, .slice K 0 d]] w fun e w' => e = .returned (.string (joinB (pageHead id true ++ pairW ps))) ∧ Below w.heap.size w w' := by
  have HB0 := hid ((Below.refl w.heap.size w).alloc (Nat.le_refl _) (.cells #[.int .i64 id, .slice A ps.length c, .slice K 0 d] 27))
  have HR0 := hid (Row3.lit w 27 (.int .i64 id) (.slice A ps.length c) (.slice K 0 d))
  have HR := hid hr
  have HP := hid hp
  have HH := hid (head_leaf id)
  have hz1 := decB_size (n := id.toNat) (by omega)
  clear hr hp
  have q0 : 0 ≤ id := by omega
  have q1 : id ≤ 1000000000000 := by omega
  go_enter Tryd.func26, Tryd.ntmps26
  go_wp2_with fail
  refine (l1Dec_int id _ q0 q1).mono ?_
  rintro e w1 ⟨rfl, hb1⟩
  have HB1 := hid (HB0.out.trans (hb1.mono HB0.out.size))
  have HR1 := hid (HR0.out.below hb1)
  have x2 := HR1.out.c2
  clear hb1
  go_wp2_with fail
  clear x2
  go_loopw [3, 4] (fun t i wr => ∃ (k : Nat) (s : ByteArray), k ≤ ps.length ∧ i = .int .i64 k ∧ t = .string s ∧ s.size ≤ 50 + 14 * k ∧ Hid (s = joinB (pageHead id true ++ pairW (ps.take k))) ∧ Hid (Row3 wr w.heap.size 27 (.int .i64 id) (.slice A ps.length c) (.slice K 0 d)) ∧ Below w.heap.size w wr) (fun _ i _ => ps.length - (intOf i).toNat)
  case atStart => exact ⟨0, _, Nat.zero_le _, rfl, rfl, by simp only [ByteArray.size_append]; show 5 + _ + 5 ≤ _; omega, HH.out.trans (by simp [pairW]), HR1.out, HB1.out⟩
  case round =>
    obtain ⟨k, s, hk, rfl, rfl, hsz, HT, HW, hbw⟩ := hrel
    have x1 := HW.out.c1
    by_cases hlt : k < ps.length
    · obtain ⟨b, off, rfl, hb, hc1, hc2⟩ := (HR.out.below hbw).at_ hlt
      have hq := HP.out ps[k] (List.getElem_mem hlt)
      simp only [pairB, Bool.and_eq_true] at hq
      have hz1 := keyB_small hq.1
      have hz2 := keyB_small hq.2
      have HD := hid hbw
      clear hq hbw
      have e5 : (0 : Int) ≤ (k : Int) := by omega
      have e6 : (k : Int) < (ps.length : Int) := by omega
      have HN := hid (leaf_step hlt HT.out)
      go_wp2_with fail
      go_quiet (fail)
      go_wp2_with fail
      go_roundw
      case rel => exact ⟨k + 1, _, by omega, by go_num, rfl, by simp only [ByteArray.size_append]; show _ + 1 + _ + 1 + _ ≤ _; omega, HN.out, HW.out.below ((Drawn.refl _).drewN _ |>.below _), HD.out.trans ((Drawn.refl _).drewN _ |>.below _)⟩
      case measure => simp [intOf]; omega
    · obtain rfl : k = ps.length := by omega
      have HE : Hid (s = joinB (pageHead id true ++ pairW ps)) := by
        have h := HT.out
        rw [List.take_length] at h
        exact h
      have HD := hid hbw
      clear hbw HT
      go_wp2_with fail
      go_ret
      exact ⟨ret_txt HE.out, HD.out⟩

set_option maxHeartbeats 2000000 in
set_option maxRecDepth 100000 in
theorem spec_l3Body_kids (id : Int) (A : Option Addr) (n c : Nat) (K : Option Addr) (d : Nat) (ks : List Int) (w : World) (h0 : 1 ≤ id) (h1 : id ≤ 1000000) (hk : RI w w.heap.size K ks) (hp : ∀ k ∈ ks, 1 ≤ k ∧ k ≤ 1000000) (hl : ks.length ≤ 4) (h2 : 1 ≤ ks.length) :
    Calls Tryd.prog 26 #[.agg #[.int .i64 id, .slice A n c, .slice K ks.length d]] w fun e w' => e = .returned (.string (joinB (pageHead id false ++ kidW ks))) ∧ Below w.heap.size w w' := by
  have HB0 := hid ((Below.refl w.heap.size w).alloc (Nat.le_refl _) (.cells #[.int .i64 id, .slice A n c, .slice K ks.length d] 27))
  have HR0 := hid (Row3.lit w 27 (.int .i64 id) (.slice A n c) (.slice K ks.length d))
  have HK := hid hk
  have HP := hid hp
  have HH := hid (head_kids id)
  have hz1 := decB_size (n := id.toNat) (by omega)
  clear hk hp
  have q0 : 0 ≤ id := by omega
  have q1 : id ≤ 1000000000000 := by omega
  have g0 : ((ks.length : Int) == 0) = false := by rw [beq_eq_false_iff_ne]; omega
  go_enter Tryd.func26, Tryd.ntmps26
  go_wp2_with fail
  refine (l1Dec_int id _ q0 q1).mono ?_
  rintro e w1 ⟨rfl, hb1⟩
  have HB1 := hid (HB0.out.trans (hb1.mono HB0.out.size))
  have HR1 := hid (HR0.out.below hb1)
  have x2 := HR1.out.c2
  clear hb1
  go_wp2_with fail
  clear x2
  go_loopw [3, 5] (fun t i wr => ∃ (k : Nat) (s : ByteArray), k ≤ ks.length ∧ i = .int .i64 k ∧ t = .string s ∧ s.size ≤ 50 + 22 * k ∧ Hid (s = joinB (pageHead id false ++ kidW (ks.take k))) ∧ Hid (Row3 wr w.heap.size 27 (.int .i64 id) (.slice A n c) (.slice K ks.length d)) ∧ Below w.heap.size w wr) (fun _ i _ => ks.length - (intOf i).toNat)
  case atStart => exact ⟨0, _, Nat.zero_le _, rfl, rfl, by simp only [ByteArray.size_append]; show 5 + _ + 5 ≤ _; omega, HH.out.trans (by simp [kidW]), HR1.out, HB1.out⟩
  case round =>
    obtain ⟨k, s, hk, rfl, rfl, hsz, HT, HW, hbw⟩ := hrel
    have x2 := HW.out.c2
    by_cases hlt : k < ks.length
    · obtain ⟨b, off, rfl, hb, hc1⟩ := (HK.out.below hbw).at_ hlt
      have hq := HP.out ks[k] (List.getElem_mem hlt)
      have hz2 := decB_size (n := ks[k].toNat) (by omega)
      have HD := hid hbw
      have hbs := hbw.size
      have hwb : w.heap.size < wr.heap.size := (World.ownsRow.lt HW.out _ rfl).2
      clear hbw
      have p0 : 0 ≤ ks[k] := by omega
      have p1 : ks[k] ≤ 1000000000000 := by omega
      have e5 : (0 : Int) ≤ (k : Int) := by omega
      have e6 : (k : Int) < (ks.length : Int) := by omega
      have n0 : ¬ (9223372036854775807 < s.size + 1) := by omega
      have n1 : ¬ (9223372036854775807 < s.size + 1 + (decB ks[k].toNat).size) := by omega
      have HN := hid (kid_step hlt HT.out)
      go_wp2_with fail
      refine (l1Dec_int ks[k] _ p0 p1).mono ?_
      rintro e w2 ⟨rfl, hw2⟩
      have V2 := hid hw2
      clear hw2
      go_wp2_with fail
      go_roundw
      case rel => exact ⟨k + 1, _, by omega, by go_num, rfl, by simp only [ByteArray.size_append]; show _ + 1 + _ ≤ _; omega, HN.out, HW.out.below V2.out, HD.out.trans (V2.out.mono hbs)⟩
      case measure => simp [intOf]; omega
    · obtain rfl : k = ks.length := by omega
      have HE : Hid (s = joinB (pageHead id false ++ kidW ks)) := by
        have h := HT.out
        rw [List.take_length] at h
        exact h
      have HD := hid hbw
      clear hbw HT
      go_wp2_with fail
      go_ret
      exact ⟨ret_txt HE.out, HD.out⟩
end Go.Proofs.YtooalnpfenhelabDoor
