import Derived.Test.YtcjbjfhndjpmcaaPk06
import Derived.Test.YtcjbjfhndjpmcaaPk15
import Derived.Test.YtcjbjfhndjpmcaaPk17
/-
  The model's Put, Drop, Range: contracts.
-/
namespace Go.Proofs.Ytcjbjfhndjpmcaa
open Go.RowKit


theorem put_old {k v : ByteArray} {s : PS × Bool} {p : BB} (h : s.2 = true) (he : p.1 = k) : putStep k v s p = (s.1, true) := by simp [putStep, h, he]
theorem put_app {k v : ByteArray} {s : PS × Bool} {p : BB} (h : s.2 = true) (he : p.1 ≠ k) : putStep k v s p = (s.1 ++ [p], true) := by simp [putStep, h, he]
theorem put_low {k v : ByteArray} {s : PS × Bool} {p : BB} (h : s.2 = false) (hl : ltS p.1 k = true) : putStep k v s p = (s.1 ++ [p], false) := by simp [putStep, h, hl, ltS_ne hl]
theorem put_new {k v : ByteArray} {s : PS × Bool} {p : BB} (h : s.2 = false) (he : p.1 = k) : putStep k v s p = (s.1 ++ [(k, v)], true) := by simp [putStep, h, he, ltS_irrefl]
theorem put_two {k v : ByteArray} {s : PS × Bool} {p : BB} (h : s.2 = false) (hl : ltS p.1 k = false) (he : p.1 ≠ k) : putStep k v s p = (s.1 ++ [(k, v)] ++ [p], true) := by simp [putStep, h, hl, he]

set_option maxHeartbeats 1000000 in
theorem spec_l1Drop (A : Option Addr) (c : Nat) (ps : PS) (x : ByteArray) (w : World) (hr : RP w w.heap.size A ps) (hn : ps.length ≤ 1048576) :
    Calls Try.prog 144 #[.slice A ps.length c, .string x] w (Made w w.heap.size (dropL ps x)) := by
  obtain ⟨i0, hi0, hz0, hz1, hz2⟩ := info_parts pairInfo
  go_enter Try.func144, Try.ntmps144
  go_wp2_with fail
  go_loopw [5, 6] (fun v i wr => ∃ (k : Nat) (n : Nat) (A' : Option Addr) (c' : Nat), k ≤ ps.length ∧ i = .int .i64 k ∧ v = .slice A' n c' ∧ n = (dropL (ps.take k) x).length ∧ OwnP wr w.heap.size A' c' (dropL (ps.take k) x) ∧ Below w.heap.size w wr) (fun _ i _ => ps.length - (intOf i).toNat)
  case atStart => exact ⟨0, 0, _, _, Nat.zero_le _, rfl, rfl, rfl, OwnP.made (Nat.le_refl _) _ 0 rfl (Nat.zero_le _), (Below.refl _ _).alloc (Nat.le_refl _) _⟩
  case round =>
    obtain ⟨k, n, A', c', hk, rfl, rfl, hn', hown, hbw⟩ := hrel
    by_cases hlt : k < ps.length
    · obtain ⟨b, off, rfl, hb, hc1, hc2⟩ := (hr.below hbw).at_ hlt
      have HO := hid hown
      have HD := hid hbw
      have HS := hid (dropL_succ x hlt)
      have HL := hid (dropL_len (ps.take k) x)
      have HL2 := hid (List.length_take_le k ps)
      have HN := hid hn'
      clear hown hbw hr hn'
      by_cases he : ps[k].1 = x
      · have h1 := eqS_true he
        have HE := hid he
        clear he
        go_wp2_with fail
        go_roundw
        case rel => exact ⟨k + 1, _, _, _, by omega, by go_num, rfl, by rw [HS.out, if_pos HE.out]; exact HN.out, by rw [HS.out, if_pos HE.out]; exact HO.out, HD.out⟩
        case measure => simp [intOf]; omega
      · have h1 := eqS_false he
        have HE := hid he
        clear he
        go_wp2_with (at_builtin; refine wpList_append_rp _ rfl _ _ _ rfl i0 Try.underlying27 hi0 hz0 hz1 hz2 w.heap.size A' n c' (dropL (ps.take k) x) rfl HN.out (HO.out.below ((Below.refl _ _).alloc (Nat.le_refl _) _)) _ _ _ _ [ps[k]] rfl rfl (RP.new wr ps[k] _) (by have := HL.out; have := HL2.out; simp; omega) (by have := HD.out.size; simp; omega) ?_; intro A2 n2 c2 w2 hn2 hown2 hbw2; have HN2 := hid hn2; have HO2 := hid hown2; have HB2 := hid hbw2; clear hn2 hown2 hbw2)
        go_roundw
        case rel => exact ⟨k + 1, _, _, _, by omega, by go_num, rfl, by rw [HS.out, if_neg HE.out]; exact HN2.out, by rw [HS.out, if_neg HE.out]; exact HO2.out, (HD.out.alloc HD.out.size _).trans HB2.out⟩
        case measure => simp [intOf]; omega
    · obtain rfl : k = ps.length := by omega
      have HO := hid hown
      have HD := hid hbw
      have HN := hid hn'
      clear hown hbw hr hn'
      go_wp2_with fail
      go_ret
      rw [List.take_length] at HO HN
      exact ⟨_, _, ret_slice HN.out, HO.out, HD.out⟩

theorem empty_yes {s : ByteArray} (h : s.size = 0) : s.toList = [] := by
  rw [ByteArray.toList_eq]
  exact List.eq_nil_of_length_eq_zero h
theorem empty_no {s : ByteArray} (h : s.size ≠ 0) : s.toList.isEmpty = false := by
  rw [ByteArray.toList_eq, List.isEmpty_eq_false_iff]
  intro e
  exact h (by have := congrArg List.length e; simpa using this)

end Go.Proofs.Ytcjbjfhndjpmcaa
/-
  The model's Put: contracts.
-/
namespace Go.Proofs.Ytcjbjfhndjpmcaa
open Go.RowKit

set_option maxHeartbeats 2000000 in
theorem spec_l1Put (A : Option Addr) (c : Nat) (ps : PS) (x v : ByteArray) (w : World) (hr : RP w w.heap.size A ps) (hn : ps.length ≤ 1048576) :
    Calls Try.prog 136 #[.slice A ps.length c, .string x, .string v] w (Made w w.heap.size (putL ps x v)) := by
  obtain ⟨i0, hi0, hz0, hz1, hz2⟩ := info_parts pairInfo
  go_enter Try.func136, Try.ntmps136
  go_wp2_with fail
  go_loopw [7, 8, 9] (fun q d i wr => ∃ (k : Nat) (n : Nat) (A' : Option Addr) (c' : Nat) (dn : Bool), k ≤ ps.length ∧ i = .int .i64 k ∧ q = .slice A' n c' ∧ d = .bool dn ∧ n = (putTo ps x v k).1.length ∧ OwnP wr w.heap.size A' c' (putTo ps x v k).1 ∧ (putTo ps x v k).2 = dn ∧ Below w.heap.size w wr) (fun _ _ i _ => ps.length - (intOf i).toNat)
  case atStart => exact ⟨0, 0, _, _, false, Nat.zero_le _, rfl, rfl, rfl, rfl, OwnP.made (Nat.le_refl _) _ 0 rfl (Nat.zero_le _), rfl, (Below.refl _ _).alloc (Nat.le_refl _) _⟩
  case round =>
    obtain ⟨k, n, A', c', dn, hk, rfl, rfl, rfl, hn', hown, hdn, hbw⟩ := hrel
    by_cases hlt : k < ps.length
    · obtain ⟨b, off, rfl, hb, hc1, hc2⟩ := (hr.below hbw).at_ hlt
      have HO := hid hown
      have HD := hid hbw
      have HC1 := hid ((HD.out.cell (p := ⟨b, off + k * 2, none⟩) hb).symm.trans hc1)
      have HC2 := hid ((HD.out.cell (p := ⟨b, off + k * 2 + 1, none⟩) hb).symm.trans hc2)
      have HS := hid (putTo_succ x v hlt)
      have HL := hid (putTo_len ps x v k)
      have HN := hid hn'
      have HT := hid hdn
      clear hown hbw hr hn' hdn
      cases dn
      · cases h1 : ltS ps[k].1 x
        · have g1 : Op.bytesLess ps[k].1.toList x.toList = false := h1
          have H1 := hid h1
          clear h1
          by_cases he : ps[k].1 = x
          · have g2 := eqS_true he
            have HE := hid he
            clear he
            go_wp2_with (at_builtin; refine wpList_append_rp _ rfl _ _ _ rfl i0 Try.underlying27 hi0 hz0 hz1 hz2 w.heap.size A' n c' (putTo ps x v k).1 rfl HN.out (HO.out.below ((Below.refl _ _).alloc (Nat.le_refl _) _)) _ _ _ _ [(x, v)] rfl rfl (RP.new _ (x, v) _) (by have := HL.out; simp; omega) (by have := HD.out.size; simp; omega) ?_; intro A2 n2 c2 w2 hn2 hown2 hbw2; have HN2 := hid hn2; have HO2 := hid hown2; have HB2 := hid hbw2; clear hn2 hown2 hbw2; have hc3 := (((HD.out.alloc HD.out.size _).trans HB2.out).cell (p := ⟨b, off + k * 2, none⟩) hb).trans HC1.out; have hc4 := (((HD.out.alloc HD.out.size _).trans HB2.out).cell (p := ⟨b, off + k * 2 + 1, none⟩) hb).trans HC2.out)
            go_roundw
            case rel => exact ⟨k + 1, _, _, _, _, by omega, by go_num, rfl, rfl, by rw [HS.out, put_new HT.out HE.out]; exact HN2.out, by rw [HS.out, put_new HT.out HE.out]; exact HO2.out, by rw [HS.out, put_new HT.out HE.out], (HD.out.alloc HD.out.size _).trans HB2.out⟩
            case measure => simp [intOf]; omega
          · have g2 := eqS_false he
            have HE := hid he
            clear he
            go_wp2_with (first | (at_builtin; refine wpList_append_rp _ rfl _ _ _ rfl i0 Try.underlying27 hi0 hz0 hz1 hz2 w.heap.size A' n c' (putTo ps x v k).1 rfl HN.out (HO.out.below ((Below.refl _ _).alloc (Nat.le_refl _) _)) _ _ _ _ [(x, v)] rfl rfl (RP.new _ (x, v) _) (by have := HL.out; simp; omega) (by have := HD.out.size; simp; omega) ?_; intro A2 n2 c2 w2 hn2 hown2 hbw2; have HN2 := hid hn2; have HO2 := hid hown2; have HB2 := hid hbw2; clear hn2 hown2 hbw2; have hc3 := (((HD.out.alloc HD.out.size _).trans HB2.out).cell (p := ⟨b, off + k * 2, none⟩) hb).trans HC1.out; have hc4 := (((HD.out.alloc HD.out.size _).trans HB2.out).cell (p := ⟨b, off + k * 2 + 1, none⟩) hb).trans HC2.out) | (at_builtin; refine wpList_append_rp _ rfl _ _ _ rfl i0 Try.underlying27 hi0 hz0 hz1 hz2 w.heap.size A2 n2 c2 ((putTo ps x v k).1 ++ [(x, v)]) rfl HN2.out (HO2.out.below ((Below.refl _ _).alloc (Nat.le_refl _) _)) _ _ _ _ [ps[k]] rfl rfl (RP.new _ ps[k] _) (by have := HL.out; simp; omega) (by have := HD.out.size; have := HB2.out.size; simp at this ⊢; omega) ?_; intro A3 n3 c3 w3 hn3 hown3 hbw3; have HN3 := hid hn3; have HO3 := hid hown3; have HB3 := hid hbw3; clear hn3 hown3 hbw3))
            go_roundw
            case rel => exact ⟨k + 1, _, _, _, _, by omega, by go_num, rfl, rfl, by rw [HS.out, put_two HT.out H1.out HE.out]; exact HN3.out, by rw [HS.out, put_two HT.out H1.out HE.out]; exact HO3.out, by rw [HS.out, put_two HT.out H1.out HE.out], ((((HD.out.alloc HD.out.size _).trans HB2.out).alloc (by have := HD.out.size; have := HB2.out.size; simp at this ⊢; omega) _).trans HB3.out)⟩
            case measure => simp [intOf]; omega
        · have g1 : Op.bytesLess ps[k].1.toList x.toList = true := h1
          have g2 := eqS_false (ltS_ne h1)
          have H1 := hid h1
          clear h1
          go_wp2_with (at_builtin; refine wpList_append_rp _ rfl _ _ _ rfl i0 Try.underlying27 hi0 hz0 hz1 hz2 w.heap.size A' n c' (putTo ps x v k).1 rfl HN.out (HO.out.below ((Below.refl _ _).alloc (Nat.le_refl _) _)) _ _ _ _ [ps[k]] rfl rfl (RP.new _ ps[k] _) (by have := HL.out; simp; omega) (by have := HD.out.size; simp; omega) ?_; intro A2 n2 c2 w2 hn2 hown2 hbw2; have HN2 := hid hn2; have HO2 := hid hown2; have HB2 := hid hbw2; clear hn2 hown2 hbw2)
          go_roundw
          case rel => exact ⟨k + 1, _, _, _, _, by omega, by go_num, rfl, rfl, by rw [HS.out, put_low HT.out H1.out]; exact HN2.out, by rw [HS.out, put_low HT.out H1.out]; exact HO2.out, by rw [HS.out, put_low HT.out H1.out], (HD.out.alloc HD.out.size _).trans HB2.out⟩
          case measure => simp [intOf]; omega
      · by_cases he : ps[k].1 = x
        · have g2 := eqS_true he
          have HE := hid he
          clear he
          go_wp2_with fail
          go_roundw
          case rel => exact ⟨k + 1, _, _, _, _, by omega, by go_num, rfl, rfl, by rw [HS.out, put_old HT.out HE.out]; exact HN.out, by rw [HS.out, put_old HT.out HE.out]; exact HO.out, by rw [HS.out, put_old HT.out HE.out], HD.out⟩
          case measure => simp [intOf]; omega
        · have g2 := eqS_false he
          have HE := hid he
          clear he
          go_wp2_with (at_builtin; refine wpList_append_rp _ rfl _ _ _ rfl i0 Try.underlying27 hi0 hz0 hz1 hz2 w.heap.size A' n c' (putTo ps x v k).1 rfl HN.out (HO.out.below ((Below.refl _ _).alloc (Nat.le_refl _) _)) _ _ _ _ [ps[k]] rfl rfl (RP.new _ ps[k] _) (by have := HL.out; simp; omega) (by have := HD.out.size; simp; omega) ?_; intro A2 n2 c2 w2 hn2 hown2 hbw2; have HN2 := hid hn2; have HO2 := hid hown2; have HB2 := hid hbw2; clear hn2 hown2 hbw2)
          go_roundw
          case rel => exact ⟨k + 1, _, _, _, _, by omega, by go_num, rfl, rfl, by rw [HS.out, put_app HT.out HE.out]; exact HN2.out, by rw [HS.out, put_app HT.out HE.out]; exact HO2.out, by rw [HS.out, put_app HT.out HE.out], (HD.out.alloc HD.out.size _).trans HB2.out⟩
          case measure => simp [intOf]; omega
    · obtain rfl : k = ps.length := by omega
      have HO := hid hown
      have HD := hid hbw
      have HN := hid hn'
      have HP := hid (putTo_end ps x v)
      have HL := hid (putTo_len ps x v ps.length)
      have HT := hid hdn
      clear hown hbw hr hn' hdn
      cases dn
      · go_wp2_with (at_builtin; refine wpList_append_rp _ rfl _ _ _ rfl i0 Try.underlying27 hi0 hz0 hz1 hz2 w.heap.size A' n c' (putTo ps x v ps.length).1 rfl HN.out (HO.out.below ((Below.refl _ _).alloc (Nat.le_refl _) _)) _ _ _ _ [(x, v)] rfl rfl (RP.new _ (x, v) _) (by have := HL.out; simp; omega) (by have := HD.out.size; simp; omega) ?_; intro A2 n2 c2 w2 hn2 hown2 hbw2; have HN2 := hid hn2; have HO2 := hid hown2; have HB2 := hid hbw2; clear hn2 hown2 hbw2)
        go_ret
        have e := HP.out
        rw [HT.out, if_neg (by simp)] at e
        rw [← e]
        exact ⟨_, _, ret_slice HN2.out, HO2.out, (HD.out.alloc HD.out.size _).trans HB2.out⟩
      · go_wp2_with fail
        go_ret
        have e := HP.out
        rw [HT.out, if_pos rfl] at e
        rw [← e]
        exact ⟨_, _, ret_slice HN.out, HO.out, HD.out⟩
end Go.Proofs.Ytcjbjfhndjpmcaa
/-
  The program's without, Put, Drop, Range; the model's: contracts.
-/
namespace Go.Proofs.Ytcjbjfhndjpmcaa
open Go.RowKit

theorem RS.two (w : World) (B : Nat) (T' : TypeId) (A1 A3 : Option Addr) (c1 c3 n1 n3 : Nat) (l1 l3 : PS) (h1 : RP w B A1 l1) (h3 : RP w B A3 l3) (e1 : n1 = l1.length) (e3 : n3 = l3.length) (hB : B ≤ w.heap.size) :
    RS (w.alloc (.cells #[.slice A1 n1 c1, .slice A3 n3 c3] T')) (w.heap.size + 1) (some ⟨w.heap.size, 0, none⟩) [⟨A1, c1, l1⟩, ⟨A3, c3, l3⟩] := by
  subst e1 e3
  have b1 : Below w.heap.size w (w.alloc (.cells #[.slice A1 l1.length c1, .slice A3 l3.length c3] T')) := (Below.refl _ _).alloc (Nat.le_refl _) _
  have hb : (w.alloc (.cells #[.slice A1 l1.length c1, .slice A3 l3.length c3] T')).heap[w.heap.size]? = some (.cells #[.slice A1 l1.length c1, .slice A3 l3.length c3] T' (0, 0)) := heap_alloc_new w _
  refine .inr ⟨w.heap.size, 0, rfl, by omega, fun i s hs => ?_⟩
  match i, hs with
  | 0, hs =>
    simp only [List.getElem?_cons_zero, Option.some.injEq] at hs
    subst hs
    exact ⟨by rw [cell_of_row _ _ _ _ _ _ hb]; rfl, ((h1.more hB).below b1).more (by omega)⟩
  | 1, hs =>
    simp only [List.getElem?_cons_succ, List.getElem?_cons_zero, Option.some.injEq] at hs
    subst hs
    exact ⟨by rw [cell_of_row _ _ _ _ _ _ hb]; rfl, ((h3.more hB).below b1).more (by omega)⟩
  | i + 2, hs => simp at hs

theorem concat2 (w2 : World) (T' : TypeId) (A1 A3 : Option Addr) (c1 c3 n1 n3 : Nat) (l1 l3 L : PS) (h1 : RP w2 w2.heap.size A1 l1) (h3 : RP w2 w2.heap.size A3 l3) (e1 : n1 = l1.length) (e3 : n3 = l3.length) (hl : l1.length + l3.length ≤ 1000) (hL : L = l1 ++ l3) :
    Calls Try.prog 130 #[.slice (some ⟨w2.heap.size, 0, none⟩) 2 2]
      (w2.alloc (.cells #[.slice A1 n1 c1, .slice A3 n3 c3] T')).drew (Joined w2 L) := by
  have hr := RS.two w2 w2.heap.size T' A1 A3 c1 c3 n1 n3 l1 l3 h1 h3 e1 e3 (Nat.le_refl _)
  have e : List.flatMap SE.ps [⟨A1, c1, l1⟩, ⟨A3, c3, l3⟩] = L := by rw [hL]; simp
  have hb : Below w2.heap.size w2 (w2.alloc (.cells #[.slice A1 n1 c1, .slice A3 n3 c3] T')).drew := ((Below.refl _ _).alloc (Nat.le_refl _) _).drew
  refine (concat_any _ 2 [⟨A1, c1, l1⟩, ⟨A3, c3, l3⟩] _ (RS.more (w := (w2.alloc (.cells #[.slice A1 n1 c1, .slice A3 n3 c3] T')).drew) hr (by simp)) (by rw [totL, e, hL]; simp; omega) (by simp)).mono ?_
  rintro x w' ⟨A, c, rfl, ho, hw⟩
  rw [e] at ho ⊢
  exact ⟨A, c, rfl, ho.mono hb.size, hb.trans (hw.mono hb.size)⟩

/-- Pairs that the call made, and whether. -/
def Made2 (w : World) (L : PS) (b : Bool) (e : Ending) (w' : World) : Prop := ∃ A c, e = .returned (.tuple #[.slice A L.length c, .bool b]) ∧ OwnP w' w.heap.size A c L ∧ Below w.heap.size w w'
theorem Made2.no {w w' : World} {L : PS} {b : Bool} (hL : L = []) (hb : b = false) (h : Below w.heap.size w w') : Made2 w L b (.returned (.tuple #[.slice none 0 0, .bool false])) w' := by
  subst hL hb
  exact ⟨none, 0, rfl, OwnP.nil_ _ _, h⟩

set_option maxHeartbeats 2000000 in
theorem without_any (A : Option Addr) (c : Nat) (ps : PS) (k : ByteArray) (w : World) (hr : RP w w.heap.size A ps) (hvs : VS A c ps.length) (hn : ps.length ≤ 900) (hs : risesB ps = true) :
    Calls Try.prog 94 #[.slice A ps.length c, .string k] w (Made2 w (if hasK ps k then dropL ps k else []) (hasK ps k)) := by
  have HS := hid hs
  have HR := hid hr
  clear hs hr
  cases hh : hasK ps k
  · clear hvs
    go_enter Try.func94, Try.ntmps94
    go_wp2_with (go_at_call 129; refine (place_any _ c ps k _ HR.out (le60 hn) HS.out).mono ?_; rintro e w2 ⟨rfl, hw2⟩)
    go_ret2
    exact Made2.no (by simp) rfl hw2
  · have HP := hid (sorted_drop HS.out k hh)
    have hlt := ((hasK_iff HS.out k).1 hh).1
    rcases hvs with ⟨rfl, rfl, h0⟩ | ⟨g, off, rfl, hnc, hcm⟩
    · omega
    · unfold maxLen at hcm
      have hcc : cnt ps k ≤ c := by omega
      have hci : (cnt ps k : Int) ≤ (c : Int) := by omega
      have e1 : IntKind.i64.wrap ((cnt ps k : Int) + 1) = (cnt ps k : Int) + 1 := IntWalk.i64_in _ (by omega)
      have e2 : (0 : Int) ≤ (cnt ps k : Int) + 1 := by omega
      have e3 : (cnt ps k : Int) + 1 ≤ (ps.length : Int) := by omega
      have e4 : ((cnt ps k : Int) + 1).toNat = cnt ps k + 1 := by omega
      have e5 : (ps.length : Int) ≤ (c : Int) := by omega
      by_cases hcap : c = cnt ps k + 1
      · subst hcap
        clear hci e5
        have f1 : (cnt ps k : Int) ≤ (cnt ps k : Int) + 1 := by omega
        have f2 : (ps.length : Int) ≤ (cnt ps k : Int) + 1 := by omega
        have f3 : (ps.length : Int) - ((cnt ps k : Int) + 1) = 0 := by omega
        go_enter Try.func94, Try.ntmps94
        go_wp2_with (go_at_call 129; refine (place_any _ _ ps k _ HR.out (le60 hn) HS.out).mono ?_; rintro e w2 ⟨rfl, hw2⟩; have HB := hid hw2; have HR2 := hid ((HR.out.below hw2).more hw2.size); clear hw2)
        go_region_held3 (fun _ => True) (trivial)
          (first | (go_at_call 130; refine (concat2 w2 _ _ _ _ _ _ _ (ps.take (cnt ps k)) (ps.drop (cnt ps k + 1)) (dropL ps k) (HR2.out.take _) (RP.any _ (by simp; omega)) (by simp; omega) (by simp; try omega) (by simp; omega) HP.out).mono ?_; rintro e w9 ⟨A9, c9, rfl, ho9, hb9⟩; have HO9 := hid ho9; have HB9 := hid hb9; clear ho9 hb9))
        go_wp2_with fail
        go_ret2
        exact ⟨A9, c9, rfl, HO9.out.mono HB.out.size, HB.out.trans (HB9.out.mono HB.out.size)⟩
      · go_enter Try.func94, Try.ntmps94
        go_wp2_with (go_at_call 129; refine (place_any _ c ps k _ HR.out (le60 hn) HS.out).mono ?_; rintro e w2 ⟨rfl, hw2⟩; have HB := hid hw2; have HR2 := hid ((HR.out.below hw2).more hw2.size); clear hw2)
        go_region_held3 (fun _ => True) (trivial)
          (first | (go_at_call 130; refine (concat2 w2 _ _ _ _ _ _ _ (ps.take (cnt ps k)) (ps.drop (cnt ps k + 1)) (dropL ps k) (HR2.out.take _) (HR2.out.drop' (by omega)) (by simp; omega) (by simp) (by simp; omega) HP.out).mono ?_; rintro e w9 ⟨A9, c9, rfl, ho9, hb9⟩; have HO9 := hid ho9; have HB9 := hid hb9; clear ho9 hb9))
        go_wp2_with fail
        go_ret2
        exact ⟨A9, c9, rfl, HO9.out.mono HB.out.size, HB.out.trans (HB9.out.mono HB.out.size)⟩
end Go.Proofs.Ytcjbjfhndjpmcaa
