/-
  Files, as pairs (tools/portfile.py wrote this out of LawKit ToPair SpecLists SpecPut MapOkI Range PutDrop).
-/
import Derived.Test.YtaiehccpefjbfaaLawKit
import Derived.Test.YtaiehccpefjbfaaToPair
import Derived.Test.YtaiehccpefjbfaaSpecLists
import Derived.Test.YtaiehccpefjbfaaSpecPut
import Derived.Test.YtaiehccpefjbfaaMapOkI
import Derived.Test.YtaiehccpefjbfaaFlA
import Derived.Test.YtaiehccpefjbfaaRange
import Derived.Test.YtaiehccpefjbfaaPutDrop
namespace Go.Proofs.Ytaiehccpefjbfaa
open Go.RowKit

set_option maxHeartbeats 400000 in
theorem szPair_anyF (p : BB) (l : Int) (w : World) (h0 : 0 ≤ l) (h1 : l ≤ 1048576) (hs : p.1.size ≤ maxLen) (ht : p.2.size ≤ maxLen) :
    Calls Try.prog 96 #[.agg #[.string p.1, .string p.2], .int .i64 l] w (SzPost1 p l w) := by
  unfold maxLen at hs ht
  have hb : ∀ o : Obj, Below w.heap.size w (w.alloc o) := fun o => (Below.refl _ _).alloc (Nat.le_refl _) o
  have HB := hid hb
  clear hb
  by_cases g1 : l - (p.1.size : Int) < 0
  · go_enter Try.func96, Try.ntmps96
    go_wp2_with fail
    go_ret
    exact ⟨-1, rfl, by omega, by omega, fun h => by omega, HB.out _⟩
  · by_cases g2 : l - (p.1.size : Int) - (p.2.size : Int) < 0
    · go_enter Try.func96, Try.ntmps96
      go_wp2_with fail
      go_ret
      exact ⟨-1, rfl, by omega, by omega, fun h => by omega, HB.out _⟩
    · go_enter Try.func96, Try.ntmps96
      go_wp2_with fail
      go_ret
      exact ⟨_, rfl, by omega, by omega, fun h => by omega, HB.out _⟩

set_option maxHeartbeats 1000000 in
theorem szPairS_anyF (A : Option Addr) (c : Nat) (ps : PS) (l : Int) (w : World) (hr : RP w w.heap.size A ps) (hf : Fits ps) (hn : ps.length ≤ maxLen) (h0 : 0 ≤ l) (h1 : l ≤ 1048576) :
    Calls Try.prog 45 #[.slice A ps.length c, .int .i64 l] w (SzPost ps l w) := by
  unfold maxLen at hn
  by_cases g : l - (ps.length : Int) < 0
  · clear hr hf
    go_enter Try.func45, Try.ntmps45
    go_wp2_with fail
    go_ret
    exact ⟨-1, rfl, by omega, by omega, fun h => by omega, Below.refl _ _⟩
  · go_enter Try.func45, Try.ntmps45
    go_wp2_with fail
    go_loopw [1, 5] (fun q i wr => ∃ (m : Int) (k : Nat), 0 ≤ m ∧ m ≤ l ∧ k ≤ ps.length ∧ q = .int .i64 m ∧ i = .int .i64 k ∧ smallTo ps l k ∧ Below w.heap.size w wr) (fun _ i _ => ps.length - (intOf i).toNat)
    case atStart => exact ⟨_, 0, by omega, by omega, Nat.zero_le _, rfl, rfl, fun i h hi => absurd hi (by omega), Below.refl _ w⟩
    case round =>
      obtain ⟨m, k, hm0, hm1, hk, rfl, rfl, hst, hbw⟩ := hrel
      by_cases hlt : k < ps.length
      · obtain ⟨b, off, rfl, hb, hc1, hc2⟩ := (hr.below hbw).at_ hlt
        have HF := hid (hf.get hlt)
        have HS := hid (@smallTo_succ ps l m k hst hlt)
        have HD := hid hbw
        clear hst hbw hr hf
        go_wp2_with (go_at_call 96; refine (szPair_anyF ps[k] m _ hm0 (by omega) HF.out.1 HF.out.2).mono ?_; rintro e w' ⟨r, rfl, hr1, hr2, hr3, hw⟩; have HR := hid hr3; clear hr3)
        · go_ret
          exact ⟨-1, rfl, by omega, by omega, fun h => by omega, HD.out.trans (hw.mono HD.out.size)⟩
        · refine ⟨⟨r, k + 1, by omega, by omega, by omega, rfl, by go_num, HS.out (by omega) (HR.out (by omega)), HD.out.trans (hw.mono HD.out.size)⟩, by simp [intOf]; omega⟩
      · obtain rfl : k = ps.length := by omega
        have HS := hid (smallTo_end hst)
        have HD := hid hbw
        clear hst hbw hr hf
        go_wp2_with fail
        go_ret
        exact ⟨m, rfl, by omega, by omega, fun h => ⟨by omega, HS.out⟩, HD.out⟩

theorem eqPair_anyF (p q : BB) (w : World) :
    Calls Try.prog 108 #[.agg #[.string p.1, .string p.2], .agg #[.string q.1, .string q.2]] w fun e w' => e = .returned (.bool (decide (p = q))) ∧ w' = (w.alloc (.cells #[.string p.1, .string p.2] 138)).alloc (.cells #[.string q.1, .string q.2] 138) := by
  by_cases h1 : p.1 = q.1
  · by_cases h2 : p.2 = q.2
    · have HE : Hid (decide (p = q) = true) := by simp [Hid, Prod.ext_iff, h1, h2]
      have g1 := eqS_true h1
      have g2 := eqS_true h2
      clear h1 h2
      go_enter Try.func108, Try.ntmps108
      go_wp2
      go_ret
      exact ⟨ret_bool HE.out.symm, rfl⟩
    · have HE : Hid (decide (p = q) = false) := by simp [Hid, Prod.ext_iff, h2]
      have g1 := eqS_true h1
      have g2 := eqS_false h2
      clear h1 h2
      go_enter Try.func108, Try.ntmps108
      go_wp2
      go_ret
      exact ⟨ret_bool HE.out.symm, rfl⟩
  · have HE : Hid (decide (p = q) = false) := by simp [Hid, Prod.ext_iff, h1]
    have g1 := eqS_false h1
    clear h1
    go_enter Try.func108, Try.ntmps108
    go_wp2
    go_ret
    exact ⟨ret_bool HE.out.symm, rfl⟩

set_option maxHeartbeats 1000000 in
theorem eqPairS_anyF (A A' : Option Addr) (c c' : Nat) (ps qs : PS) (w : World) (hr : RP w w.heap.size A ps) (hr' : RP w w.heap.size A' qs) (hn : ps.length ≤ maxLen) :
    Calls Try.prog 54 #[.slice A ps.length c, .slice A' qs.length c'] w fun e w' => e = .returned (.bool (decide (ps = qs))) ∧ Below w.heap.size w w' := by
  unfold maxLen at hn
  by_cases g : ps.length = qs.length
  · have g0 : ((ps.length : Int) != (qs.length : Int)) = false := by simp [g]
    have G := hid g
    clear g
    go_enter Try.func54, Try.ntmps54
    go_wp2_with fail
    go_loopw [5] (fun i wr => ∃ k : Nat, k ≤ ps.length ∧ i = .int .i64 k ∧ sameTo ps qs k ∧ Below w.heap.size w wr) (fun i _ => ps.length - (intOf i).toNat)
    case atStart => exact ⟨0, Nat.zero_le _, rfl, fun i h h' hi => absurd hi (by omega), Below.refl _ w⟩
    case round =>
      obtain ⟨k, hk, rfl, hst, hbw⟩ := hrel
      by_cases hlt : k < ps.length
      · have hlt' : k < qs.length := by have := G.out; omega
        obtain ⟨b, off, rfl, hb, hc1, hc2⟩ := (hr.below hbw).at_ hlt
        obtain ⟨b', off', rfl, hb', hc3, hc4⟩ := (hr'.below hbw).at_ hlt'
        have HS := hid (sameTo_succ hst hlt hlt')
        have HN := hid (@same_no ps qs k hlt hlt')
        have HD := hid hbw
        clear hst hbw hr hr'
        have e5 : (0 : Int) ≤ (k : Int) := by omega
        have e6 : (k : Int) < (ps.length : Int) := by omega
        have e7 : (k : Int) < (qs.length : Int) := by omega
        by_cases he : ps[k] = qs[k]
        · have h3 : decide (ps[k] = qs[k]) = true := by simp [he]
          have HE := hid he
          clear he
          go_wp2_with fail
          go_region_held3 (fun w' => w'.cell? ⟨b, off + k * 2, none⟩ = some (.string ps[k].1) ∧ w'.cell? ⟨b, off + k * 2 + 1, none⟩ = some (.string ps[k].2) ∧ w'.cell? ⟨b', off' + k * 2, none⟩ = some (.string qs[k].1) ∧ w'.cell? ⟨b', off' + k * 2 + 1, none⟩ = some (.string qs[k].2)) (go_keep)
            (first | (go_at_call 108; refine (eqPair_anyF ps[k] qs[k] _).mono ?_; rintro e w' ⟨rfl, rfl⟩))
          go_wp2_with fail
          go_roundw
          case rel => exact ⟨k + 1, by omega, by go_num, HS.out HE.out, below2 HD.out HD.out.size⟩
          case measure => simp [intOf]; omega
        · have h3 : decide (ps[k] = qs[k]) = false := by simp [he]
          have HE := hid he
          clear he
          go_wp2_with fail
          go_region_held3 (fun w' => w'.cell? ⟨b, off + k * 2, none⟩ = some (.string ps[k].1) ∧ w'.cell? ⟨b, off + k * 2 + 1, none⟩ = some (.string ps[k].2) ∧ w'.cell? ⟨b', off' + k * 2, none⟩ = some (.string qs[k].1) ∧ w'.cell? ⟨b', off' + k * 2 + 1, none⟩ = some (.string qs[k].2)) (go_keep)
            (first | (go_at_call 108; refine (eqPair_anyF ps[k] qs[k] _).mono ?_; rintro e w' ⟨rfl, rfl⟩))
          go_wp2_with fail
          go_ret
          exact ⟨ret_bool (HN.out HE.out).symm, below2 HD.out HD.out.size⟩
      · obtain rfl : k = ps.length := by omega
        have HE : Hid (decide (ps = qs) = true) := by
          rw [Hid, decide_eq_true_eq]
          exact sameTo_end hst G.out
        have HD := hid hbw
        clear hst hbw hr hr'
        go_wp2_with fail
        go_ret
        exact ⟨ret_bool HE.out.symm, HD.out⟩
  · have g0 : ((ps.length : Int) != (qs.length : Int)) = true := by simp; omega
    have HN := hid (same_len g)
    clear g hr hr'
    go_enter Try.func54, Try.ntmps54
    go_wp2_with fail
    go_ret
    exact ⟨ret_bool HN.out.symm, Below.refl _ _⟩

set_option maxHeartbeats 400000 in
theorem toPair_anyF (p : BB) (w : World) :
    Calls Try.prog 100 #[.agg #[.string p.1, .string p.2]] w fun e w' => e = .returned (.agg #[.string p.1, .string p.2]) ∧ Below w.heap.size w w' := by
  go_enter Try.func100, Try.ntmps100
  go_wp2
  exact bodyPost_ret (v := .agg #[.string p.1, .string p.2]) (by simp [results, Try.results100, go_sem]) rfl ⟨rfl, below3 (Below.refl _ _) (Nat.le_refl _)⟩

/-- The new row, filled up to k. -/
def FilledF (wr : World) (g : Nat) (ps : PS) (k : Nat) : Prop :=
  ∃ xs, wr.ownsRow g 138 2 (.slice (some ⟨g, 0, none⟩) ps.length ps.length) ps.length xs ∧ ∀ (i : Nat) (p : BB), ps[i]? = some p → i < k → xs[i * 2]? = some (.string p.1) ∧ xs[i * 2 + 1]? = some (.string p.2)

theorem FilledF.start {wr : World} {g : Nat} {ps : PS} {xs : List Value} (h : wr.ownsRow g 138 2 (.slice (some ⟨g, 0, none⟩) ps.length ps.length) ps.length xs) : FilledF wr g ps 0 :=
  ⟨xs, h, fun i p _ hi => absurd hi (by omega)⟩

theorem FilledF.end_ {wr : World} {g : Nat} {ps : PS} (h : FilledF wr g ps ps.length) : wr.ownsRow g 138 2 (.slice (some ⟨g, 0, none⟩) ps.length ps.length) ps.length (pcells ps) := by
  obtain ⟨xs, ho, hx⟩ := h
  have : xs = pcells ps := pcells_ext ps xs ho.1 fun i p hp => hx i p hp (List.getElem?_eq_some_iff.1 hp).1
  rwa [this] at ho

theorem FilledF.cells {wr : World} {g : Nat} {ps : PS} {k : Nat} (h : FilledF wr g ps k) (hk : k < ps.length) : ∃ u v, wr.cell? ⟨g, k * 2, none⟩ = some u ∧ wr.cell? ⟨g, k * 2 + 1, none⟩ = some v := by
  obtain ⟨xs, ho, hx⟩ := h
  have hl := ho.1
  refine ⟨_, _, (ho.cellAt (k * 2) (by omega)).trans (List.getElem?_eq_getElem (by omega)), (ho.cellAt (k * 2 + 1) (by omega)).trans (List.getElem?_eq_getElem (by omega))⟩

theorem FilledF.frozen {wr : World} {g : Nat} {ps : PS} {k : Nat} (h : FilledF wr g ps k) (j : Nat) : wr.frozen? ⟨g, j, none⟩ = false := by
  obtain ⟨xs, ho, hx⟩ := h
  exact ho.frozenAt j

theorem FilledF.grown {wr w' : World} {g : Nat} {ps : PS} {k : Nat} (h : FilledF wr g ps k) (hg : wr.grownBy w' none) : FilledF w' g ps k := by
  obtain ⟨xs, ho, hx⟩ := h
  exact ⟨xs, ho.kept hg (.inr (by simp [Value.ownBlock])), hx⟩

theorem FilledF.store {wr : World} {g : Nat} {ps : PS} {k : Nat} (h : FilledF wr g ps k) (hk : k < ps.length) : FilledF ((wr.setCell ⟨g, k * 2, none⟩ (.string ps[k].1)).setCell ⟨g, k * 2 + 1, none⟩ (.string ps[k].2)) g ps (k + 1) := by
  obtain ⟨xs, ho, hx⟩ := h
  have hl := ho.1
  refine ⟨_, ((ho.stored (k * 2) (.string ps[k].1)).1.stored (k * 2 + 1) (.string ps[k].2)).1, fun i p hp hi => ?_⟩
  by_cases e : i = k
  · subst e
    have hp' : ps[i] = p := by rw [List.getElem?_eq_getElem hk] at hp; exact Option.some.inj hp
    subst hp'
    constructor
    · rw [List.getElem?_set_ne (by omega), List.getElem?_set_self (by omega)]
    · rw [List.getElem?_set_self (by simp; omega)]
  · obtain ⟨h1, h2⟩ := hx i p hp (by omega)
    rw [List.getElem?_set_ne (by omega), List.getElem?_set_ne (by omega), List.getElem?_set_ne (by omega), List.getElem?_set_ne (by omega)]
    exact ⟨h1, h2⟩

set_option maxHeartbeats 1000000 in
theorem toPairS_anyF (A : Option Addr) (c : Nat) (ps : PS) (w : World) (hr : RP w w.heap.size A ps) (hn : ps.length ≤ 1048576) :
    Calls Try.prog 49 #[.slice A ps.length c] w (MadeF w w.heap.size ps) := by
  obtain ⟨i0, hi, hz0, hz1, hz2⟩ := info_parts pairInfoF
  go_enter Try.func49, Try.ntmps49
  go_wp2_with (at_make; refine wpList_make_full _ rfl _ _ 30 rfl w.heap.size 138 i0 _ 2 Try.underlying30 hi hz0 hz1 _ _ _ _ ps.length rfl rfl rfl rfl (by rw [hz2]; omega) (by unfold maxLen; omega) (Nat.le_refl _) ?_; intro w1 hown1 hg1)
  have hb1 : Below w.heap.size w w1 := (Below.refl _ _).grown hg1 (Nat.le_refl _) (by simp)
  have HO := hid hown1
  have HB := hid hb1
  clear hown1 hg1 hb1
  go_wp2_with fail
  go_loopw [4] (fun i wr => ∃ k : Nat, k ≤ ps.length ∧ i = .int .i64 k ∧ FilledF wr w.heap.size ps k ∧ Below w.heap.size w wr) (fun i _ => ps.length - (intOf i).toNat)
  case atStart => exact ⟨0, Nat.zero_le _, rfl, FilledF.start HO.out, HB.out⟩
  case round =>
    obtain ⟨k, hk, rfl, hfl, hbw⟩ := hrel
    by_cases hlt : k < ps.length
    · obtain ⟨b, off, rfl, hb, hc1, hc2⟩ := (hr.below hbw).at_ hlt
      have HF := hid hfl
      have HD := hid hbw
      clear hfl hbw hr
      go_wp2_with (go_at_call 100; refine (toPair_anyF ps[k] _).mono ?_; rintro e w' ⟨rfl, hw⟩; have HF2 := hid (HF.out.grown (below_grown hw)); obtain ⟨u, v, hu, hv⟩ := HF2.out.cells hlt; have f1 := HF2.out.frozen (k * 2); have f2 := HF2.out.frozen (k * 2 + 1))
      refine ⟨⟨k + 1, by omega, by go_num, HF2.out.store hlt, ?_⟩, by simp [intOf]; omega⟩
      exact ((HD.out.trans (hw.mono HD.out.size)).setCell (by simp) _).setCell (by simp) _
    · obtain rfl : k = ps.length := by omega
      have HF := hid hfl
      have HD := hid hbw
      clear hfl hbw hr
      go_wp2_with fail
      go_ret
      exact ⟨_, _, rfl, HF.out.end_, HD.out⟩

set_option maxHeartbeats 1000000 in
theorem spec_l1DropF (A : Option Addr) (c : Nat) (ps : PS) (x : ByteArray) (w : World) (hr : RP w w.heap.size A ps) (hn : ps.length ≤ 1048576) :
    Calls Try.prog 113 #[.slice A ps.length c, .string x] w (MadeF w w.heap.size (dropL ps x)) := by
  obtain ⟨i0, hi0, hz0, hz1, hz2⟩ := info_parts pairInfoF
  go_enter Try.func113, Try.ntmps113
  go_wp2_with fail
  go_loopw [5, 6] (fun v i wr => ∃ (k : Nat) (n : Nat) (A' : Option Addr) (c' : Nat), k ≤ ps.length ∧ i = .int .i64 k ∧ v = .slice A' n c' ∧ n = (dropL (ps.take k) x).length ∧ OwnPF wr w.heap.size A' c' (dropL (ps.take k) x) ∧ Below w.heap.size w wr) (fun _ i _ => ps.length - (intOf i).toNat)
  case atStart => exact ⟨0, 0, _, _, Nat.zero_le _, rfl, rfl, rfl, OwnPF.made (Nat.le_refl _) _ 0 rfl (Nat.zero_le _), (Below.refl _ _).alloc (Nat.le_refl _) _⟩
  case round =>
    obtain ⟨k, n, A', c', hk, rfl, rfl, hn', hown, hbw⟩ := hrel
    by_cases hlt : k < ps.length
    · obtain ⟨b, off, rfl, hb, hc1, hc2⟩ := (hr.below hbw).at_ hlt
      have HO := hid hown
      have HD := hid hbw
      have HS := hid (dropL_succ x hlt)
      have HL := hid (dropL_len (ps.take k) x)
      have HL2 := hid (List.length_take_le k ps)
      have HN := hid hn'
      clear hown hbw hr hn'
      by_cases he : ps[k].1 = x
      · have h1 := eqS_true he
        have HE := hid he
        clear he
        go_wp2_with fail
        go_roundw
        case rel => exact ⟨k + 1, _, _, _, by omega, by go_num, rfl, by rw [HS.out, if_pos HE.out]; exact HN.out, by rw [HS.out, if_pos HE.out]; exact HO.out, HD.out⟩
        case measure => simp [intOf]; omega
      · have h1 := eqS_false he
        have HE := hid he
        clear he
        go_wp2_with (at_builtin; refine wpList_append_rpF _ rfl _ _ _ rfl i0 Try.underlying30 hi0 hz0 hz1 hz2 w.heap.size A' n c' (dropL (ps.take k) x) rfl HN.out (HO.out.below ((Below.refl _ _).alloc (Nat.le_refl _) _)) _ _ _ _ [ps[k]] rfl rfl (RP.new wr ps[k] _) (by have := HL.out; have := HL2.out; simp; omega) (by have := HD.out.size; simp; omega) ?_; intro A2 n2 c2 w2 hn2 hown2 hbw2; have HN2 := hid hn2; have HO2 := hid hown2; have HB2 := hid hbw2; clear hn2 hown2 hbw2)
        go_roundw
        case rel => exact ⟨k + 1, _, _, _, by omega, by go_num, rfl, by rw [HS.out, if_neg HE.out]; exact HN2.out, by rw [HS.out, if_neg HE.out]; exact HO2.out, (HD.out.alloc HD.out.size _).trans HB2.out⟩
        case measure => simp [intOf]; omega
    · obtain rfl : k = ps.length := by omega
      have HO := hid hown
      have HD := hid hbw
      have HN := hid hn'
      clear hown hbw hr hn'
      go_wp2_with fail
      go_ret
      rw [List.take_length] at HO HN
      exact ⟨_, _, ret_slice HN.out, HO.out, HD.out⟩

set_option maxHeartbeats 2000000 in
theorem spec_l1PutF (A : Option Addr) (c : Nat) (ps : PS) (x v : ByteArray) (w : World) (hr : RP w w.heap.size A ps) (hn : ps.length ≤ 1048576) :
    Calls Try.prog 112 #[.slice A ps.length c, .string x, .string v] w (MadeF w w.heap.size (putL ps x v)) := by
  obtain ⟨i0, hi0, hz0, hz1, hz2⟩ := info_parts pairInfoF
  go_enter Try.func112, Try.ntmps112
  go_wp2_with fail
  go_loopw [7, 8, 9] (fun q d i wr => ∃ (k : Nat) (n : Nat) (A' : Option Addr) (c' : Nat) (dn : Bool), k ≤ ps.length ∧ i = .int .i64 k ∧ q = .slice A' n c' ∧ d = .bool dn ∧ n = (putTo ps x v k).1.length ∧ OwnPF wr w.heap.size A' c' (putTo ps x v k).1 ∧ (putTo ps x v k).2 = dn ∧ Below w.heap.size w wr) (fun _ _ i _ => ps.length - (intOf i).toNat)
  case atStart => exact ⟨0, 0, _, _, false, Nat.zero_le _, rfl, rfl, rfl, rfl, OwnPF.made (Nat.le_refl _) _ 0 rfl (Nat.zero_le _), rfl, (Below.refl _ _).alloc (Nat.le_refl _) _⟩
  case round =>
    obtain ⟨k, n, A', c', dn, hk, rfl, rfl, rfl, hn', hown, hdn, hbw⟩ := hrel
    by_cases hlt : k < ps.length
    · obtain ⟨b, off, rfl, hb, hc1, hc2⟩ := (hr.below hbw).at_ hlt
      have HO := hid hown
      have HD := hid hbw
      have HC1 := hid ((HD.out.cell (p := ⟨b, off + k * 2, none⟩) hb).symm.trans hc1)
      have HC2 := hid ((HD.out.cell (p := ⟨b, off + k * 2 + 1, none⟩) hb).symm.trans hc2)
      have HS := hid (putTo_succ x v hlt)
      have HL := hid (putTo_len ps x v k)
      have HN := hid hn'
      have HT := hid hdn
      clear hown hbw hr hn' hdn
      cases dn
      · cases h1 : ltS ps[k].1 x
        · have g1 : Op.bytesLess ps[k].1.toList x.toList = false := h1
          have H1 := hid h1
          clear h1
          by_cases he : ps[k].1 = x
          · have g2 := eqS_true he
            have HE := hid he
            clear he
            go_wp2_with (at_builtin; refine wpList_append_rpF _ rfl _ _ _ rfl i0 Try.underlying30 hi0 hz0 hz1 hz2 w.heap.size A' n c' (putTo ps x v k).1 rfl HN.out (HO.out.below ((Below.refl _ _).alloc (Nat.le_refl _) _)) _ _ _ _ [(x, v)] rfl rfl (RP.new _ (x, v) _) (by have := HL.out; simp; omega) (by have := HD.out.size; simp; omega) ?_; intro A2 n2 c2 w2 hn2 hown2 hbw2; have HN2 := hid hn2; have HO2 := hid hown2; have HB2 := hid hbw2; clear hn2 hown2 hbw2; have hc3 := (((HD.out.alloc HD.out.size _).trans HB2.out).cell (p := ⟨b, off + k * 2, none⟩) hb).trans HC1.out; have hc4 := (((HD.out.alloc HD.out.size _).trans HB2.out).cell (p := ⟨b, off + k * 2 + 1, none⟩) hb).trans HC2.out)
            go_roundw
            case rel => exact ⟨k + 1, _, _, _, _, by omega, by go_num, rfl, rfl, by rw [HS.out, put_new HT.out HE.out]; exact HN2.out, by rw [HS.out, put_new HT.out HE.out]; exact HO2.out, by rw [HS.out, put_new HT.out HE.out], (HD.out.alloc HD.out.size _).trans HB2.out⟩
            case measure => simp [intOf]; omega
          · have g2 := eqS_false he
            have HE := hid he
            clear he
            go_wp2_with (first | (at_builtin; refine wpList_append_rpF _ rfl _ _ _ rfl i0 Try.underlying30 hi0 hz0 hz1 hz2 w.heap.size A' n c' (putTo ps x v k).1 rfl HN.out (HO.out.below ((Below.refl _ _).alloc (Nat.le_refl _) _)) _ _ _ _ [(x, v)] rfl rfl (RP.new _ (x, v) _) (by have := HL.out; simp; omega) (by have := HD.out.size; simp; omega) ?_; intro A2 n2 c2 w2 hn2 hown2 hbw2; have HN2 := hid hn2; have HO2 := hid hown2; have HB2 := hid hbw2; clear hn2 hown2 hbw2; have hc3 := (((HD.out.alloc HD.out.size _).trans HB2.out).cell (p := ⟨b, off + k * 2, none⟩) hb).trans HC1.out; have hc4 := (((HD.out.alloc HD.out.size _).trans HB2.out).cell (p := ⟨b, off + k * 2 + 1, none⟩) hb).trans HC2.out) | (at_builtin; refine wpList_append_rpF _ rfl _ _ _ rfl i0 Try.underlying30 hi0 hz0 hz1 hz2 w.heap.size A2 n2 c2 ((putTo ps x v k).1 ++ [(x, v)]) rfl HN2.out (HO2.out.below ((Below.refl _ _).alloc (Nat.le_refl _) _)) _ _ _ _ [ps[k]] rfl rfl (RP.new _ ps[k] _) (by have := HL.out; simp; omega) (by have := HD.out.size; have := HB2.out.size; simp at this ⊢; omega) ?_; intro A3 n3 c3 w3 hn3 hown3 hbw3; have HN3 := hid hn3; have HO3 := hid hown3; have HB3 := hid hbw3; clear hn3 hown3 hbw3))
            go_roundw
            case rel => exact ⟨k + 1, _, _, _, _, by omega, by go_num, rfl, rfl, by rw [HS.out, put_two HT.out H1.out HE.out]; exact HN3.out, by rw [HS.out, put_two HT.out H1.out HE.out]; exact HO3.out, by rw [HS.out, put_two HT.out H1.out HE.out], ((((HD.out.alloc HD.out.size _).trans HB2.out).alloc (by have := HD.out.size; have := HB2.out.size; simp at this ⊢; omega) _).trans HB3.out)⟩
            case measure => simp [intOf]; omega
        · have g1 : Op.bytesLess ps[k].1.toList x.toList = true := h1
          have g2 := eqS_false (ltS_ne h1)
          have H1 := hid h1
          clear h1
          go_wp2_with (at_builtin; refine wpList_append_rpF _ rfl _ _ _ rfl i0 Try.underlying30 hi0 hz0 hz1 hz2 w.heap.size A' n c' (putTo ps x v k).1 rfl HN.out (HO.out.below ((Below.refl _ _).alloc (Nat.le_refl _) _)) _ _ _ _ [ps[k]] rfl rfl (RP.new _ ps[k] _) (by have := HL.out; simp; omega) (by have := HD.out.size; simp; omega) ?_; intro A2 n2 c2 w2 hn2 hown2 hbw2; have HN2 := hid hn2; have HO2 := hid hown2; have HB2 := hid hbw2; clear hn2 hown2 hbw2)
          go_roundw
          case rel => exact ⟨k + 1, _, _, _, _, by omega, by go_num, rfl, rfl, by rw [HS.out, put_low HT.out H1.out]; exact HN2.out, by rw [HS.out, put_low HT.out H1.out]; exact HO2.out, by rw [HS.out, put_low HT.out H1.out], (HD.out.alloc HD.out.size _).trans HB2.out⟩
          case measure => simp [intOf]; omega
      · by_cases he : ps[k].1 = x
        · have g2 := eqS_true he
          have HE := hid he
          clear he
          go_wp2_with fail
          go_roundw
          case rel => exact ⟨k + 1, _, _, _, _, by omega, by go_num, rfl, rfl, by rw [HS.out, put_old HT.out HE.out]; exact HN.out, by rw [HS.out, put_old HT.out HE.out]; exact HO.out, by rw [HS.out, put_old HT.out HE.out], HD.out⟩
          case measure => simp [intOf]; omega
        · have g2 := eqS_false he
          have HE := hid he
          clear he
          go_wp2_with (at_builtin; refine wpList_append_rpF _ rfl _ _ _ rfl i0 Try.underlying30 hi0 hz0 hz1 hz2 w.heap.size A' n c' (putTo ps x v k).1 rfl HN.out (HO.out.below ((Below.refl _ _).alloc (Nat.le_refl _) _)) _ _ _ _ [ps[k]] rfl rfl (RP.new _ ps[k] _) (by have := HL.out; simp; omega) (by have := HD.out.size; simp; omega) ?_; intro A2 n2 c2 w2 hn2 hown2 hbw2; have HN2 := hid hn2; have HO2 := hid hown2; have HB2 := hid hbw2; clear hn2 hown2 hbw2)
          go_roundw
          case rel => exact ⟨k + 1, _, _, _, _, by omega, by go_num, rfl, rfl, by rw [HS.out, put_app HT.out HE.out]; exact HN2.out, by rw [HS.out, put_app HT.out HE.out]; exact HO2.out, by rw [HS.out, put_app HT.out HE.out], (HD.out.alloc HD.out.size _).trans HB2.out⟩
          case measure => simp [intOf]; omega
    · obtain rfl : k = ps.length := by omega
      have HO := hid hown
      have HD := hid hbw
      have HN := hid hn'
      have HP := hid (putTo_end ps x v)
      have HL := hid (putTo_len ps x v ps.length)
      have HT := hid hdn
      clear hown hbw hr hn' hdn
      cases dn
      · go_wp2_with (at_builtin; refine wpList_append_rpF _ rfl _ _ _ rfl i0 Try.underlying30 hi0 hz0 hz1 hz2 w.heap.size A' n c' (putTo ps x v ps.length).1 rfl HN.out (HO.out.below ((Below.refl _ _).alloc (Nat.le_refl _) _)) _ _ _ _ [(x, v)] rfl rfl (RP.new _ (x, v) _) (by have := HL.out; simp; omega) (by have := HD.out.size; simp; omega) ?_; intro A2 n2 c2 w2 hn2 hown2 hbw2; have HN2 := hid hn2; have HO2 := hid hown2; have HB2 := hid hbw2; clear hn2 hown2 hbw2)
        go_ret
        have e := HP.out
        rw [HT.out, if_neg (by simp)] at e
        rw [← e]
        exact ⟨_, _, ret_slice HN2.out, HO2.out, (HD.out.alloc HD.out.size _).trans HB2.out⟩
      · go_wp2_with fail
        go_ret
        have e := HP.out
        rw [HT.out, if_pos rfl] at e
        rw [← e]
        exact ⟨_, _, ret_slice HN.out, HO.out, HD.out⟩

set_option maxHeartbeats 1000000 in
theorem impl_valueInF (A : Option Addr) (c : Nat) (ps : PS) (x : ByteArray) (w : World) (hr : RP w w.heap.size A ps) (hn : ps.length ≤ 100000) (hs : risesB ps = true) :
    Calls Try.prog 194 #[.slice A ps.length c, .string x] w fun e w' => e = .returned (.tuple #[.string (valOf ps x), .bool (hasK ps x)]) ∧ Below w.heap.size w w' := by
  have HR := hid hr
  have HS := hid hs
  have HN := hid hn
  clear hr hs hn
  cases hh : hasK ps x
  · have HV := hid (valOf_none hh)
    go_enter Try.func194, Try.ntmps194
    go_wp2_with (first
      | (go_at_call 188; refine (place_anyF A c ps x _ HR.out HN.out HS.out).mono ?_; rintro e w2 ⟨rfl, hw2⟩))
    go_ret2
    exact ⟨ret_sb HV.out.symm rfl, hw2⟩
  · obtain ⟨hlt, he⟩ := (hasK_iff HS.out x).1 hh
    have HV := hid (valOf_at hlt he)
    have HL := hid he
    clear he
    obtain ⟨b, off, rfl, hb, hc1, hc2⟩ := HR.out.at_ hlt
    go_enter Try.func194, Try.ntmps194
    go_wp2_with (first
      | (go_at_call 188; refine (place_anyF _ c ps x _ HR.out HN.out HS.out).mono ?_; rintro e w2 ⟨rfl, hw2⟩; have hc3 := (hw2.cell (p := ⟨b, off + cnt ps x * 2 + 1, none⟩) hb).trans hc2))
    go_ret2
    exact ⟨ret_sb HV.out.symm rfl, hw2⟩

theorem MadeF.of {w w' : World} {L L' : PS} {A : Option Addr} {c : Nat} (hL : L = L') (ho : OwnPF w' w.heap.size A c L') (h : Below w.heap.size w w') : MadeF w w.heap.size L (.returned (.slice A L'.length c)) w' := by
  subst hL
  exact ⟨A, c, rfl, ho, h⟩

theorem MadeF.of_n {w w' : World} {L L' : PS} {A : Option Addr} {n c : Nat} (hL : L = L') (hn : n = L'.length) (ho : OwnPF w' w.heap.size A c L') (h : Below w.heap.size w w') : MadeF w w.heap.size L (.returned (.slice A n c)) w' := by
  subst hn
  exact MadeF.of hL ho h

set_option maxHeartbeats 1000000 in
theorem clone_anyF (g off n c : Nat) (ps : PS) (w : World) (hr : RP w w.heap.size (some ⟨g, off, none⟩) ps) (hn : n = ps.length) (hl : ps.length ≤ 1000) :
    Calls Try.prog 106 #[.slice (some ⟨g, off, none⟩) n c] w (MadeF w w.heap.size ps) := by
  obtain ⟨i0, hi0, hz0, hz1, hz2⟩ := info_parts pairInfoF
  have HR := hid hr
  have HN := hid hn
  clear hr hn
  have qT : ∀ (w : World) (a : Option Addr) (n c n' c' : Nat), (binOp .eql 30 (.slice a n c) (.slice none n' c')).run Try.prog w = .ok (.bool a.isNone) w := fun w a n c n' c' => Lib.run_eql_slice_nil w _ _ a n c n' c' Try.underlying30
  go_enter Try.func106, Try.ntmps106
  go_wp2_with (at_builtin; refine wpList_append_rpF _ rfl _ _ _ rfl i0 Try.underlying30 hi0 hz0 hz1 hz2 w.heap.size _ 0 0 [] rfl rfl (OwnPF.made (Nat.le_refl _) #[] 0 rfl (Nat.zero_le _)) _ _ _ _ ps rfl HN.out (HR.out.below ((Below.refl _ _).alloc (Nat.le_refl _) _)) (by simp; omega) (by simp) ?_; intro A2 n2 c2 w2 hn2 hown2 hbw2; have HN2 := hid hn2; have HO2 := hid hown2; have HB2 := hid hbw2; clear hn2 hown2 hbw2)
  go_ret
  exact ⟨A2, c2, ret_slice HN2.out, HO2.out, ((Below.refl _ _).alloc (Nat.le_refl _) _).trans HB2.out⟩

theorem without_yesF (A : Option Addr) (c : Nat) (ps : PS) (k : ByteArray) (w : World) (hr : RP w w.heap.size A ps) (hvs : VS A c ps.length) (hn : ps.length ≤ 900) (hs : risesB ps = true) (hh : hasK ps k = true) :
    Calls Try.prog 201 #[.slice A ps.length c, .string k] w (Made2F w (dropL ps k) true) := by
  have h := without_anyF A c ps k w hr hvs hn hs
  rw [hh, if_pos rfl] at h
  exact h

theorem without_noF (A : Option Addr) (c : Nat) (ps : PS) (k : ByteArray) (w : World) (hr : RP w w.heap.size A ps) (hvs : VS A c ps.length) (hn : ps.length ≤ 900) (hs : risesB ps = true) (hh : hasK ps k = false) :
    Calls Try.prog 201 #[.slice A ps.length c, .string k] w (Made2F w [] false) := by
  have h := without_anyF A c ps k w hr hvs hn hs
  rw [hh, if_neg (by simp)] at h
  exact h

theorem Made2F.yes {w w' : World} {L L' : PS} {b : Bool} {A : Option Addr} {c : Nat} (hL : L = L') (hb : b = true) (ho : OwnPF w' w.heap.size A c L') (h : Below w.heap.size w w') : Made2F w L b (.returned (.tuple #[.slice A L'.length c, .bool true])) w' := by
  subst hL hb
  exact ⟨A, c, rfl, ho, h⟩
end Go.Proofs.Ytaiehccpefjbfaa
