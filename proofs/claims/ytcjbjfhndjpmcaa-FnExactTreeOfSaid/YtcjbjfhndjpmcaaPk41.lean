import Derived.Test.YtcjbjfhndjpmcaaPk22
import Derived.Test.YtcjbjfhndjpmcaaPk08
import Derived.Test.YtcjbjfhndjpmcaaPk17
import Derived.Test.YtcjbjfhndjpmcaaPk40
/-
  The model's l2Leaves.
-/
namespace Go.Proofs.Ytcjbjfhndjpmcaa
open Go.RowKit

def leafT (g : PS) : BT := .node g []
def MadeL (w : World) (ts : List BT) (e : Ending) (w' : World) : Prop := ∃ (K : Option Addr) (d : Nat) (L : List TH), e = .returned (.slice K L.length d) ∧ L.map TH.t = ts ∧ KidsT w' w.heap.size K d L ∧ Below w.heap.size w w'
def msL : Value → Nat
  | .slice _ n _ => n
  | _ => 0

set_option maxHeartbeats 4000000 in
set_option maxRecDepth 100000 in
theorem spec_l2Leaves (A : Option Addr) (c : Nat) (ps : PS) (w : World) (hr : RP w w.heap.size A ps) (hn : ps.length ≤ 60) (hc : ps.length ≤ c) (hm : c ≤ maxLen) :
    Calls Try.prog 57 #[.slice A ps.length c] w (MadeL w ((cutL ps).map leafT)) := by
  obtain ⟨i0, hi0, hz0, hz1, hz2⟩ := info_parts l2TInfo
  have HB0 := hid ((Below.refl w.heap.size w).alloc (Nat.le_refl _) (.cells #[] 67))
  have HK0 : Hid (KidsT (w.alloc (.cells #[] 67)) w.heap.size (some ⟨w.heap.size, 0, none⟩) 0 []) :=
    ⟨World.ownsRow_made w #[] 0 (Nat.le_refl _) (by unfold maxLen; omega) rfl, fun _ => False, fun _ h => h.elim, fun _ h => by simp at h⟩
  have HR := hid hr
  have HM := hid hm
  unfold maxLen at hm
  clear hr
  go_enter Try.func57, Try.ntmps57
  go_wp2_with fail
  go_loopw [0, 3] (fun vp vo wr => ∃ (l : PS) (A' : Option Addr) (c' : Nat) (K : Option Addr) (d : Nat) (L : List TH), vp = .slice A' l.length c' ∧ vo = .slice K L.length d ∧ l.length ≤ c' ∧ c' ≤ 9223372036854775807 ∧ L.length + l.length ≤ 60 ∧ Hid (RP wr w.heap.size A' l) ∧ Hid (L.map TH.t ++ (cutL l).map leafT = (cutL ps).map leafT) ∧ Hid (KidsT wr w.heap.size K d L) ∧ Below w.heap.size w wr) (fun vp _ _ => msL vp)
  case atStart => exact ⟨ps, A, c, _, 0, [], rfl, rfl, hc, by omega, by simpa using hn, HR.out.below HB0.out, rfl, HK0.out, HB0.out⟩
  case round =>
    obtain ⟨l, A', c', K, d, L, rfl, rfl, hc1, hc2, hlen, HRW, HEQ, HK, hbw⟩ := hrel
    have HD := hid hbw
    have hbs := hbw.size
    clear hbw
    by_cases hpos : 0 < l.length
    · have HRL := hid (HRW.out.more hbs)
      by_cases h4 : l.length < 4
      · have e1 : ¬ (4 : Int) ≤ (l.length : Int) := by omega
        have e2 : (l.length : Int) ≤ (c' : Int) := by omega
        have hpn : partN l.length = l.length := by unfold partN; rw [if_neg (by omega)]; omega
        obtain ⟨b, off, rfl, hb, _, _⟩ := HRL.out.at_ (k := 0) hpos
        have hlt : (l.take (l.length)).length = l.length := by rw [List.length_take]; omega
        have hld : (l.drop (l.length)).length = l.length - (l.length) := by rw [List.length_drop]
        have hcp := spec_l1CopyMap (some ⟨b, off, none⟩) c' (l.take (l.length)) wr (HRL.out.take _) (by omega)
        rw [hlt] at hcp
        have HCP := hid hcp
        have HNX : Hid ((L.map TH.t ++ [BT.node (l.take (l.length)) []]) ++ (cutL (l.drop (l.length))).map leafT = (cutL ps).map leafT) := by
          have h := HEQ.out
          rw [cutL_cons hpos, hpn] at h
          rw [Hid, List.append_assoc]
          exact h
        have HDR := hid (HRL.out.drop (l.length))
        have HTK : Hid ((l.take (l.length)).length = l.length) := hlt
        have HDL : Hid ((l.drop (l.length)).length = l.length - (l.length)) := hld
        clear hcp hpn hlt hld
        go_wp2_with fail
        refine HCP.out.mono ?_
        rintro e w2 ⟨A2, c2, rfl, ho2, hb2⟩
        have HB2 := hid hb2
        have hs2 := hb2.size
        have HK2 := hid (HK.out.below HB2.out)
        have hkl := HK.out.1.lt
        have HPS := hid (RPS.of_own ho2)
        have hol := World.ownsRow.lt ho2
        have hcap2 := own_cap ho2
        have HRT : Hid (RT w2 (fun b => wr.heap.size ≤ b ∧ b < w2.heap.size) A2 none (BT.node (l.take (l.length)) [])) := ((KidsT.nil w2 w2.heap.size).rt HPS.out).keep (fun _ _ => rfl) (fun b h => by
          rcases h with h | h
          · exact hol b h
          · omega)
        clear hb2 ho2
        go_wp2_with (at_builtin; refine wpList_append_lies _ rfl _ _ _ rfl w.heap.size 67 i0 _ 2 48 Try.underlying64 hi0 hz0 hz1 hz2 rfl (by omega) (.slice K L.length d) L.length (thc L) rfl (HK2.out.1.alloc _) ⟨w2.heap.size, 0, none⟩ 1 1 [.slice A2 (l.length) c2, .slice none 0 0] rfl rfl (World.news_of_block (cs := #[.slice A2 (l.length) c2, .slice none 0 0]) (t := 67) (fr := (0, 0)) (heap_alloc_new w2 _)) (by simp [Value.oneCell']) (by omega) (by unfold maxLen; omega) (by omega) (by simp; omega) (w2.heap.size + 1) (by simp) ?_; intro gg cap w4 hown4 hgrow4 hat4 hlt4; have HO4 := hid hown4; have HG4 := hid hgrow4; have HA4 := hid hat4; clear hown4 hgrow4 hat4)
        have HBA := hid ((Below.refl w2.heap.size w2).alloc (Nat.le_refl _) (.cells #[.slice A2 (l.length) c2, .slice none 0 0] 67))
        have HK4 : Hid (KidsT w4 w.heap.size (some ⟨gg, 0, none⟩) cap (L ++ [⟨A2, c2, none, 0, BT.node (l.take (l.length)) []⟩])) :=
          KidsT.push (HK2.out.below HBA.out) (lo2 := wr.heap.size) (x := ⟨A2, c2, none, 0, BT.node (l.take (l.length)) []⟩) (HRT.out.keep (fun b h => HBA.out.block b h.2) (fun b h => ⟨h.1, by simp; omega⟩)) ⟨hcap2.1, hcap2.2, Nat.le_refl _, by unfold maxLen; show 0 ≤ _; omega⟩ hbs (fun k e => (hkl k e).2) (by
            rw [thc_append]
            show w4.ownsRow w.heap.size 67 2 (.slice (some ⟨gg, 0, none⟩) (L.length + 1) cap) (L.length + 1) (thc L ++ [.slice A2 (l.take (l.length)).length c2, .slice none 0 0])
            rw [HTK.out]
            exact HO4.out) HG4.out (fun k e => by
            have e' : gg = k := by simpa [Value.ownBlock] using e
            subst e'
            rcases HA4.out with h | h
            · exact .inl h
            · right
              simp
              omega)
        have HD4 : Hid (Below w.heap.size w w4) := ((HD.out.trans (HB2.out.mono hbs)).alloc (by omega) _).grown HG4.out (by simp; omega) (fun k hk => (hkl k hk).1)
        have hd4 := HD4.out
        have HR4 := hid ((HRW.out.drop (l.length)).keep (w' := w4) (fun p hp => by
          rw [hd4.cell hp, HD.out.cell hp]))
        clear hd4
        go_roundw
        case rel => exact ⟨l.drop (l.length), _, c' - (l.length), some ⟨gg, 0, none⟩, cap, (L ++ [(⟨A2, c2, none, 0, BT.node (l.take (l.length)) []⟩ : TH)] : List TH), by rw [HDL.out, Nat.sub_self], by simp, by rw [HDL.out]; omega, by omega, by rw [HDL.out, List.length_append]; simp; omega, RP.any _ (by rw [List.drop_length]), by rw [Hid, List.map_append]; exact HNX.out, HK4.out, HD4.out⟩
        case measure => simp [msL]; omega
      · by_cases h5 : l.length = 5
        · have e1 : (4 : Int) ≤ (l.length : Int) := by omega
          have e2 : ((l.length : Int) - 4 == 1) = true := by rw [beq_iff_eq]; omega
          have e3 : (3 : Int) ≤ (l.length : Int) := by omega
          have e4 : (3 : Int) ≤ (c' : Int) := by omega
          have hpn : partN l.length = 3 := by unfold partN; rw [if_pos h5]
          obtain ⟨b, off, rfl, hb, _, _⟩ := HRL.out.at_ (k := 0) hpos
          have hlt : (l.take (3)).length = 3 := by rw [List.length_take]; omega
          have hld : (l.drop (3)).length = l.length - (3) := by rw [List.length_drop]
          have hcp := spec_l1CopyMap (some ⟨b, off, none⟩) c' (l.take (3)) wr (HRL.out.take _) (by omega)
          rw [hlt] at hcp
          have HCP := hid hcp
          have HNX : Hid ((L.map TH.t ++ [BT.node (l.take (3)) []]) ++ (cutL (l.drop (3))).map leafT = (cutL ps).map leafT) := by
            have h := HEQ.out
            rw [cutL_cons hpos, hpn] at h
            rw [Hid, List.append_assoc]
            exact h
          have HDR := hid (HRL.out.drop (3))
          have HTK : Hid ((l.take (3)).length = 3) := hlt
          have HDL : Hid ((l.drop (3)).length = l.length - (3)) := hld
          clear hcp hpn hlt hld
          go_wp2_with fail
          refine HCP.out.mono ?_
          rintro e w2 ⟨A2, c2, rfl, ho2, hb2⟩
          have HB2 := hid hb2
          have hs2 := hb2.size
          have HK2 := hid (HK.out.below HB2.out)
          have hkl := HK.out.1.lt
          have HPS := hid (RPS.of_own ho2)
          have hol := World.ownsRow.lt ho2
          have hcap2 := own_cap ho2
          have HRT : Hid (RT w2 (fun b => wr.heap.size ≤ b ∧ b < w2.heap.size) A2 none (BT.node (l.take (3)) [])) := ((KidsT.nil w2 w2.heap.size).rt HPS.out).keep (fun _ _ => rfl) (fun b h => by
            rcases h with h | h
            · exact hol b h
            · omega)
          clear hb2 ho2
          go_wp2_with (at_builtin; refine wpList_append_lies _ rfl _ _ _ rfl w.heap.size 67 i0 _ 2 48 Try.underlying64 hi0 hz0 hz1 hz2 rfl (by omega) (.slice K L.length d) L.length (thc L) rfl (HK2.out.1.alloc _) ⟨w2.heap.size, 0, none⟩ 1 1 [.slice A2 (3) c2, .slice none 0 0] rfl rfl (World.news_of_block (cs := #[.slice A2 (3) c2, .slice none 0 0]) (t := 67) (fr := (0, 0)) (heap_alloc_new w2 _)) (by simp [Value.oneCell']) (by omega) (by unfold maxLen; omega) (by omega) (by simp; omega) (w2.heap.size + 1) (by simp) ?_; intro gg cap w4 hown4 hgrow4 hat4 hlt4; have HO4 := hid hown4; have HG4 := hid hgrow4; have HA4 := hid hat4; clear hown4 hgrow4 hat4)
          have HBA := hid ((Below.refl w2.heap.size w2).alloc (Nat.le_refl _) (.cells #[.slice A2 (3) c2, .slice none 0 0] 67))
          have HK4 : Hid (KidsT w4 w.heap.size (some ⟨gg, 0, none⟩) cap (L ++ [⟨A2, c2, none, 0, BT.node (l.take (3)) []⟩])) :=
            KidsT.push (HK2.out.below HBA.out) (lo2 := wr.heap.size) (x := ⟨A2, c2, none, 0, BT.node (l.take (3)) []⟩) (HRT.out.keep (fun b h => HBA.out.block b h.2) (fun b h => ⟨h.1, by simp; omega⟩)) ⟨hcap2.1, hcap2.2, Nat.le_refl _, by unfold maxLen; show 0 ≤ _; omega⟩ hbs (fun k e => (hkl k e).2) (by
              rw [thc_append]
              show w4.ownsRow w.heap.size 67 2 (.slice (some ⟨gg, 0, none⟩) (L.length + 1) cap) (L.length + 1) (thc L ++ [.slice A2 (l.take (3)).length c2, .slice none 0 0])
              rw [HTK.out]
              exact HO4.out) HG4.out (fun k e => by
              have e' : gg = k := by simpa [Value.ownBlock] using e
              subst e'
              rcases HA4.out with h | h
              · exact .inl h
              · right
                simp
                omega)
          have HD4 : Hid (Below w.heap.size w w4) := ((HD.out.trans (HB2.out.mono hbs)).alloc (by omega) _).grown HG4.out (by simp; omega) (fun k hk => (hkl k hk).1)
          have hd4 := HD4.out
          have HR4 := hid ((HRW.out.drop (3)).keep (w' := w4) (fun p hp => by
            rw [hd4.cell hp, HD.out.cell hp]))
          clear hd4
          go_roundw
          case rel => exact ⟨l.drop (3), some ⟨b, off + 6, none⟩, c' - (3), some ⟨gg, 0, none⟩, cap, (L ++ [(⟨A2, c2, none, 0, BT.node (l.take (3)) []⟩ : TH)] : List TH), by rw [HDL.out, h5], by simp, by rw [HDL.out]; omega, by omega, by rw [HDL.out, List.length_append]; simp; omega, HR4.out, by rw [Hid, List.map_append]; exact HNX.out, HK4.out, HD4.out⟩
          case measure => simp [msL]; omega
        · have e1 : (4 : Int) ≤ (l.length : Int) := by omega
          have e2 : ((l.length : Int) - 4 == 1) = false := by rw [beq_eq_false_iff_ne]; omega
          have e3 : (4 : Int) ≤ (l.length : Int) := by omega
          have e4 : (4 : Int) ≤ (c' : Int) := by omega
          have w1' : wrap64 ((l.length : Int) - 4) = (l.length : Int) - 4 := by unfold wrap64; omega
          have w2' : IntKind.i64.wrap ((l.length : Int) - 4) = (l.length : Int) - 4 := IntWalk.i64_in _ (by omega)
          have e6 : ¬ (l.length : Int) = 5 := by omega
          have e7 : ((l.length : Int) == 5) = false := by rw [beq_eq_false_iff_ne]; omega
          have hpn : partN l.length = 4 := by unfold partN; rw [if_neg h5]; omega
          obtain ⟨b, off, rfl, hb, _, _⟩ := HRL.out.at_ (k := 0) hpos
          have hlt : (l.take (4)).length = 4 := by rw [List.length_take]; omega
          have hld : (l.drop (4)).length = l.length - (4) := by rw [List.length_drop]
          have hcp := spec_l1CopyMap (some ⟨b, off, none⟩) c' (l.take (4)) wr (HRL.out.take _) (by omega)
          rw [hlt] at hcp
          have HCP := hid hcp
          have HNX : Hid ((L.map TH.t ++ [BT.node (l.take (4)) []]) ++ (cutL (l.drop (4))).map leafT = (cutL ps).map leafT) := by
            have h := HEQ.out
            rw [cutL_cons hpos, hpn] at h
            rw [Hid, List.append_assoc]
            exact h
          have HDR := hid (HRL.out.drop (4))
          have HTK : Hid ((l.take (4)).length = 4) := hlt
          have HDL : Hid ((l.drop (4)).length = l.length - (4)) := hld
          clear hcp hpn hlt hld
          go_wp2_with fail
          refine HCP.out.mono ?_
          rintro e w2 ⟨A2, c2, rfl, ho2, hb2⟩
          have HB2 := hid hb2
          have hs2 := hb2.size
          have HK2 := hid (HK.out.below HB2.out)
          have hkl := HK.out.1.lt
          have HPS := hid (RPS.of_own ho2)
          have hol := World.ownsRow.lt ho2
          have hcap2 := own_cap ho2
          have HRT : Hid (RT w2 (fun b => wr.heap.size ≤ b ∧ b < w2.heap.size) A2 none (BT.node (l.take (4)) [])) := ((KidsT.nil w2 w2.heap.size).rt HPS.out).keep (fun _ _ => rfl) (fun b h => by
            rcases h with h | h
            · exact hol b h
            · omega)
          clear hb2 ho2
          go_wp2_with (at_builtin; refine wpList_append_lies _ rfl _ _ _ rfl w.heap.size 67 i0 _ 2 48 Try.underlying64 hi0 hz0 hz1 hz2 rfl (by omega) (.slice K L.length d) L.length (thc L) rfl (HK2.out.1.alloc _) ⟨w2.heap.size, 0, none⟩ 1 1 [.slice A2 (min 4 l.length) c2, .slice none 0 0] rfl rfl (World.news_of_block (cs := #[.slice A2 (min 4 l.length) c2, .slice none 0 0]) (t := 67) (fr := (0, 0)) (heap_alloc_new w2 _)) (by simp [Value.oneCell']) (by omega) (by unfold maxLen; omega) (by omega) (by simp; omega) (w2.heap.size + 1) (by simp) ?_; intro gg cap w4 hown4 hgrow4 hat4 hlt4; have HO4 := hid hown4; have HG4 := hid hgrow4; have HA4 := hid hat4; clear hown4 hgrow4 hat4)
          have HBA := hid ((Below.refl w2.heap.size w2).alloc (Nat.le_refl _) (.cells #[.slice A2 (min 4 l.length) c2, .slice none 0 0] 67))
          have HK4 : Hid (KidsT w4 w.heap.size (some ⟨gg, 0, none⟩) cap (L ++ [⟨A2, c2, none, 0, BT.node (l.take (4)) []⟩])) :=
            KidsT.push (HK2.out.below HBA.out) (lo2 := wr.heap.size) (x := ⟨A2, c2, none, 0, BT.node (l.take (4)) []⟩) (HRT.out.keep (fun b h => HBA.out.block b h.2) (fun b h => ⟨h.1, by simp; omega⟩)) ⟨hcap2.1, hcap2.2, Nat.le_refl _, by unfold maxLen; show 0 ≤ _; omega⟩ hbs (fun k e => (hkl k e).2) (by
              rw [thc_append]
              show w4.ownsRow w.heap.size 67 2 (.slice (some ⟨gg, 0, none⟩) (L.length + 1) cap) (L.length + 1) (thc L ++ [.slice A2 (l.take (4)).length c2, .slice none 0 0])
              rw [List.length_take]
              exact HO4.out) HG4.out (fun k e => by
              have e' : gg = k := by simpa [Value.ownBlock] using e
              subst e'
              rcases HA4.out with h | h
              · exact .inl h
              · right
                simp
                omega)
          have HD4 : Hid (Below w.heap.size w w4) := ((HD.out.trans (HB2.out.mono hbs)).alloc (by omega) _).grown HG4.out (by simp; omega) (fun k hk => (hkl k hk).1)
          have hd4 := HD4.out
          have HR4 := hid ((HRW.out.drop (4)).keep (w' := w4) (fun p hp => by
            rw [hd4.cell hp, HD.out.cell hp]))
          clear hd4
          go_roundw
          case rel => exact ⟨l.drop (4), _, c' - (4), some ⟨gg, 0, none⟩, cap, (L ++ [(⟨A2, c2, none, 0, BT.node (l.take (4)) []⟩ : TH)] : List TH), by rw [HDL.out], by simp, by rw [HDL.out]; omega, by omega, by rw [HDL.out, List.length_append]; simp; omega, (by first | exact HR4.out | (split; exact RP.any _ (List.drop_eq_nil_iff.2 (by omega)); exact HR4.out)), by rw [Hid, List.map_append]; exact HNX.out, HK4.out, HD4.out⟩
          case measure => simp [msL]; omega
    · have hl0 : l = [] := List.eq_nil_of_length_eq_zero (by omega)
      have HE : Hid (L.map TH.t = (cutL ps).map leafT) := by
        have h := HEQ.out
        rw [hl0, cutL_nil, List.map_nil, List.append_nil] at h
        exact h
      clear hl0
      go_wp2_with fail
      go_ret
      exact ⟨K, d, L, rfl, HE.out, HK.out, HD.out⟩
end Go.Proofs.Ytcjbjfhndjpmcaa
