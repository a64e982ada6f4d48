import Derived.Test.YtcjbjfhndjpmcaaPk43
import Derived.Test.YtcjbjfhndjpmcaaPk44
/-
  The model's l2Group. (tools/mkgroup.py)
-/
namespace Go.Proofs.Ytcjbjfhndjpmcaa
open Go.RowKit

def GroupOut (w : World) (S : Nat → Prop) (ts : List BT) (e : Ending) (w' : World) : Prop := ∃ (K : Option Addr) (d : Nat) (L : List TH) (S' : Nat → Prop), e = .returned (.slice K L.length d) ∧ L.map TH.t = ts ∧ KT w' w.heap.size S' K d L ∧ (∀ b, S' b → S b ∨ w.heap.size ≤ b) ∧ Below w.heap.size w w'
theorem group_in {wi w4 : World} {gx j dx gg cap : Nat} {S : Nat → Prop} {a : Value} {Kx : Option Addr} {M : List TH} {y : TH} {o : Obj} (hr : Row2 wi gx 67 a (.slice Kx j dx)) (hk : KT wi (gx + 1) S Kx dx M) (hj : M.length = j) (hy : RT wi S y.A y.K y.t) (hc : y.cap)
    (hown : w4.ownsRow (gx + 1) 67 2 (.slice (some ⟨gg, 0, none⟩) (j + 1) cap) (j + 1) (thc M ++ [.slice y.A y.t.ps.length y.c, .slice y.K y.t.ks.length y.d]))
    (hgrow : (wi.drew.alloc o).grownBy w4 (Value.ownBlock (.slice Kx j dx))) (hat : Value.ownBlock (.slice Kx j dx) = some gg ∨ gg = wi.heap.size + 1) :
    Row2 w4 gx 67 a (.slice Kx j dx) ∧ KT w4 (gx + 1) S (some ⟨gg, 0, none⟩) cap (M ++ [y]) ∧ Below gx wi w4 := by
  subst hj
  have hgo := hr.lt
  have hb5 : Below wi.heap.size wi (wi.drew.alloc o) := (Below.refl _ _).drew.alloc (by simp) o
  have hkl := hk.row.lt
  refine ⟨(hr.below hb5).kept hgrow (.inr (fun e => by
    have := hkl gx (by rw [← e]; rfl)
    omega)), ?_, (hb5.mono (by omega)).grown hgrow (by have := hb5.size; omega) (fun k e => by have := hkl k e; omega)⟩
  have hp := KT.push (hk.below hb5) (x := y) (S2 := S) (hy.keep (fun b hb => hb5.block b (hk.bd b hb).1) (fun _ h => h)) hc (fun b hb => (hk.below hb5).bd b hb) (by rw [thc_append]; exact hown) hgrow (fun k e => by
    have e' : gg = k := by simpa [Value.ownBlock] using e
    subst e'
    rcases hat with h | h
    · exact .inl h
    · right; simp; omega)
  exact hp.wide (fun b h => h.elim id id) (fun b h => hp.bd b (.inl h))
theorem group_out {wo wi w4 : World} {B dd dx gg cap n : Nat} {S So : Nat → Prop} {Ko Kx : Option Addr} {Lo M : List TH} {o : Obj} (hk : KT wo B So Ko dd Lo) (hbx : Below wo.heap.size wo wi) (hx : KT wi (wo.heap.size + 1) S Kx dx M) (hS : ∀ b, S b → b < B) (hB : B ≤ wo.heap.size) (hM : M.length = n)
    (hown : w4.ownsRow B 67 2 (.slice (some ⟨gg, 0, none⟩) (Lo.length + 1) cap) (Lo.length + 1) (thc Lo ++ [.slice none 0 0, .slice Kx n dx]))
    (hgrow : (wi.alloc o).grownBy w4 (Value.ownBlock (.slice Ko Lo.length dd))) (hat : Value.ownBlock (.slice Ko Lo.length dd) = some gg ∨ gg = wi.heap.size + 1) :
    KT w4 B (fun b => So b ∨ (S b ∨ Value.ownBlock (.slice Kx M.length dx) = some b)) (some ⟨gg, 0, none⟩) cap (Lo ++ [⟨none, 0, Kx, dx, .node [] (M.map TH.t)⟩]) := by
  subst hM
  have hba : Below wi.heap.size wi (wi.alloc o) := (Below.refl _ _).alloc (Nat.le_refl _) o
  have hlt : ∀ b, S b ∨ Value.ownBlock (.slice Kx M.length dx) = some b → b < wi.heap.size := fun b hb => hb.elim (fun h => by have := hS b h; have := hbx.size; omega) (fun h => (hx.row.lt b h).2)
  have hcap := hx.caps
  have hml : (M.map TH.t).length = M.length := List.length_map _
  refine KT.push ((hk.below hbx).below hba) (x := ⟨none, 0, Kx, dx, .node [] (M.map TH.t)⟩) ((hx.rk.rt (.inl rfl)).keep (fun b hb => hba.block b (hlt b hb)) (fun _ h => h)) ⟨Nat.le_refl _, Nat.zero_le _, by show (M.map TH.t).length ≤ dx; omega, hcap.2⟩ (fun b hb => ⟨by have := hlt b hb; simp; omega, fun e => ?_⟩) ?_ hgrow (fun k e => ?_)
  · have h1 := hk.row.lt b e
    rcases hb with hb | hb
    · have := hS b hb; omega
    · have := (hx.row.lt b hb).1; omega
  · rw [thc_append]
    show w4.ownsRow B _ 2 _ _ (thc Lo ++ [.slice none 0 0, .slice Kx (M.map TH.t).length dx])
    rw [hml]
    exact hown
  · have e' : gg = k := by simpa [Value.ownBlock] using e
    subst e'
    rcases hat with h | h
    · exact .inl h
    · right; simp; omega

set_option maxHeartbeats 8000000 in
set_option maxRecDepth 100000 in
theorem spec_l2Group (S : Nat → Prop) (K : Option Addr) (d : Nat) (L : List TH) (w : World) (hr : RK w S K L) (hS : ∀ b, S b → b < w.heap.size) (hn : L.length ≤ 60) (hd : L.length ≤ d) (hm : d ≤ maxLen) :
    Calls Try.prog 58 #[.slice K L.length d] w (GroupOut w S (groupT (L.map TH.t))) := by
  obtain ⟨i0, hi0, hz0, hz1, hz2⟩ := info_parts l2TInfo
  have HB0 := hid ((Below.refl w.heap.size w).alloc (Nat.le_refl _) (.cells #[] 67))
  have HK0 : Hid (KT (w.alloc (.cells #[] 67)) w.heap.size (fun _ => False) (some ⟨w.heap.size, 0, none⟩) 0 []) :=
    ⟨World.ownsRow_made w #[] 0 (Nat.le_refl _) (by unfold maxLen; omega) rfl, fun _ h => h.elim, fun _ h => by simp at h⟩
  have HR := hid hr
  have HS := hid hS
  have HG0 : Hid (groupT (L.map TH.t) = (cutL L).map fun g => .node [] (g.map TH.t)) := by
    rw [Hid, groupT]
    unfold cutL
    rw [List.length_map, cutF_map, List.map_map]
    rfl
  unfold maxLen at hm
  clear hr hS
  go_enter Try.func58, Try.ntmps58
  go_wp2_with fail
  go_loopw [0, 3] (fun vp vo wo => ∃ (l : List TH) (K' : Option Addr) (c' : Nat) (Ko : Option Addr) (dd : Nat) (Lo : List TH) (So : Nat → Prop), vp = .slice K' l.length c' ∧ vo = .slice Ko Lo.length dd ∧ l.length ≤ c' ∧ c' ≤ 9223372036854775807 ∧ Lo.length + l.length ≤ 60 ∧ Hid (RK w S K' l) ∧ Hid (Lo.map TH.t ++ ((cutL l).map fun g => BT.node [] (g.map TH.t)) = groupT (L.map TH.t)) ∧ Hid (KT wo w.heap.size So Ko dd Lo) ∧ Hid (∀ b, So b → S b ∨ w.heap.size ≤ b) ∧ Below w.heap.size w wo) (fun vp _ _ => msL vp)
  case atStart => exact ⟨L, K, d, _, 0, [], fun _ => False, rfl, rfl, hd, by omega, by simpa using hn, HR.out, HG0.out.symm, HK0.out, fun _ h => h.elim, HB0.out⟩
  case round =>
    rename World => wo
    obtain ⟨l, K', c', Ko, dd, Lo, So, rfl, rfl, hc1, hc2, hlen, HRW, HEQ, HK, HSO, hbw⟩ := hrel
    have HD := hid hbw
    have hbs := hbw.size
    clear hbw
    by_cases hpos : 0 < l.length
    · obtain ⟨b, off, rfl, hbS, _⟩ := HRW.out.at_ (k := 0) hpos
      have hb : b < w.heap.size := HS.out b hbS
      have HX0 : Hid (Row2 (wo.alloc (.cells #[.slice none 0 0, .slice none 0 0] 67)) wo.heap.size 67 (.slice none 0 0) (.slice none 0 0)) := Row2.lit _ _ _ _
      have HBX : Hid (Below wo.heap.size wo (wo.alloc (.cells #[.slice none 0 0, .slice none 0 0] 67))) := (Below.refl _ _).alloc (Nat.le_refl _) _
      by_cases h4 : l.length < 4
      · have e1 : ¬ (4 : Int) ≤ (l.length : Int) := by omega
        have hpn : partN l.length = l.length := by unfold partN; rw [if_neg (by omega)]; omega
        have hnle : l.length ≤ l.length := by omega
        have hn4 : l.length ≤ 4 := by omega
        have hld : (l.drop (l.length)).length = l.length - (l.length) := by rw [List.length_drop]
        have HDL : Hid ((l.drop (l.length)).length = l.length - (l.length)) := hld
        have HTL : Hid ((l.take (l.length)).length = l.length) := by rw [Hid, List.length_take]; omega
        have HNX : Hid ((Lo.map TH.t ++ [BT.node [] ((l.take (l.length)).map TH.t)]) ++ ((cutL (l.drop (l.length))).map fun g => BT.node [] (g.map TH.t)) = groupT (L.map TH.t)) := by
          have h := HEQ.out
          rw [cutL_cons hpos, hpn] at h
          rw [Hid, List.append_assoc]
          exact h
        have HDR := hid (HRW.out.drop (l.length))
        clear hpn hld
        go_wp2_with fail
        go_loopw [6] (fun i wi => ∃ (j : Nat) (Kx : Option Addr) (dx : Nat), j ≤ l.length ∧ i = .int .i64 j ∧ Row2 wi wo.heap.size 67 (.slice none 0 0) (.slice Kx j dx) ∧ Hid (KT wi (wo.heap.size + 1) S Kx dx (l.take j)) ∧ Below wo.heap.size wo wi) (fun i _ => (l.length) - (intOf i).toNat)
        case atStart => exact ⟨0, none, 0, Nat.zero_le _, rfl, HX0.out, KT.nil (fun b hb => by have := HS.out b hb; have := HBX.out.size; omega), HBX.out⟩
        case round =>
          rename World => wi
          obtain ⟨j, Kx, dx, hj, rfl, hrow, HKX, hbi⟩ := hrel
          have HRX := hid hrow
          have HBI := hid hbi
          have his := hbi.size
          have x0 := hrow.c0
          have x1 := hrow.c1
          have fz1 := hrow.fz 1
          have hgx := hrow.lt
          clear hrow hbi
          by_cases hlt : j < l.length
          · have hjl : j < l.length := by omega
            have HBW : Hid (Below w.heap.size w wi) := HD.out.trans (HBI.out.mono hbs)
            obtain ⟨b', off', hbe, _, hc1', hc2', hrt', hcap'⟩ := HRW.out.at_ hjl
            injection hbe with hbe
            injection hbe with hb1 hb2
            subst hb1 hb2
            obtain ⟨y, hy⟩ : ∃ y, y = l[j] := ⟨_, rfl⟩
            rw [← hy] at hc1' hc2' hrt' hcap'
            have y1 := (HBW.out.cell (p := ⟨b, off + j * 2, none⟩) hb).trans hc1'
            have y2 := (HBW.out.cell (p := ⟨b, off + j * 2 + 1, none⟩) hb).trans hc2'
            have HRT : Hid (RT wi S y.A y.K y.t) := hrt'.keep (fun b hb => HBW.out.block b (HS.out b hb)) (fun _ h => h)
            have HCAP := hid hcap'
            have HTJ : Hid ((l.take j).length = j) := by rw [Hid, List.length_take]; omega
            have HTK : Hid (l.take (j + 1) = l.take j ++ [y]) := by rw [Hid, List.take_succ_eq_append_getElem hjl, hy]
            have HROW : Hid (wi.ownsRow (wo.heap.size + 1) 67 2 (.slice Kx j dx) j (thc (l.take j))) := by
              have := HKX.out.row
              rw [HTJ.out] at this
              exact this
            have HRD : Hid (wi.drew.ownsRow (wo.heap.size + 1) 67 2 (.slice Kx j dx) j (thc (l.take j))) := ownsRow_keep HROW.out fun k hk => rfl
            have e7 : (j : Int) < (l.length : Int) := by omega
            have e8 : (0 : Int) ≤ (j : Int) := by omega
            have e9 : (j : Int) < (l.length : Int) := by omega
            have e10 : True := trivial
            clear hc1' hc2' hrt' hcap' hy
            go_wp2_with fail
            go_region_law (refine step_append_lies _ (by rfl) _ _ _ (by rfl) (wo.heap.size + 1) 67 i0 _ 2 48 Try.underlying64 hi0 hz0 hz1 hz2 rfl (by omega) (.slice Kx j dx) j (thc (l.take j)) (by rfl) (HRD.out.alloc _) ⟨wi.heap.size, 0, none⟩ 1 1 [.slice y.A y.t.ps.length y.c, .slice y.K y.t.ks.length y.d] (by rfl) (by rfl) (World.news_of_block (cs := #[.slice y.A y.t.ps.length y.c, .slice y.K y.t.ks.length y.d]) (t := 67) (fr := (0, 0)) (heap_alloc_new wi.drew _)) (by simp [Value.oneCell']) (by omega) (by unfold maxLen; omega) (by omega) (by simp; omega) (wi.heap.size + 1) (by simp) ?_; intro gg cap w4 hown4 hgrow4 hat4 hlt4; obtain ⟨hr4, hk4, hb4⟩ := group_in HRX.out HKX.out HTJ.out HRT.out HCAP.out hown4 hgrow4 hat4; have x4 := hr4.c1; have f4 := hr4.fz 1; have HR4 := hid hr4; have HK4 := hid hk4; have HB4 := hid hb4; clear hr4 hk4 hb4 hown4 hgrow4 hat4)
            all_goals
              go_wp2_with fail
              go_roundw
              case rel => exact ⟨j + 1, some ⟨gg, 0, none⟩, cap, by omega, by go_num, HR4.out.s1 _, by rw [Hid, HTK.out]; exact HK4.out.set (by omega) (fun hs => by have := HS.out _ hs; omega) _, HBI.out.trans (HB4.out.setCell (by simp) _)⟩
              case measure => simp [intOf]; omega
          · obtain ⟨n, hn0⟩ : ∃ n, n = (l.length) := ⟨_, rfl⟩
            have hjn : j = n := by omega
            subst hjn
            have e7 : ¬ (j : Int) < (l.length : Int) := by omega
            have HTJ : Hid ((l.take (l.length)).length = j) := by rw [Hid, HTL.out]; exact hn0.symm
            have HKN : Hid (KT wi (wo.heap.size + 1) S Kx dx (l.take (l.length))) := by
              have := HKX.out
              rwa [hn0] at this
            have HN0 := hid hn0
            have HKW := hid (HK.out.below HBI.out)
            have hkl := HK.out.row.lt
            clear HKX hlt hj hnle hn4 hn0
            go_wp2_with (at_builtin; refine wpList_append_lies _ rfl _ _ _ rfl w.heap.size 67 i0 _ 2 48 Try.underlying64 hi0 hz0 hz1 hz2 rfl (by omega) (.slice Ko Lo.length dd) Lo.length (thc Lo) rfl (HKW.out.row.alloc _) ⟨wi.heap.size, 0, none⟩ 1 1 [.slice none 0 0, .slice Kx j dx] rfl rfl (World.news_of_block (cs := #[.slice none 0 0, .slice Kx j dx]) (t := 67) (fr := (0, 0)) (heap_alloc_new wi _)) (by simp [Value.oneCell']) (by omega) (by unfold maxLen; omega) (by omega) (by simp; omega) (wi.heap.size + 1) (by simp) ?_; intro gg cap w4 hown4 hgrow4 hat4 hlt4; have HO4 := hid hown4; have HG4 := hid hgrow4; have HA4 := hid hat4; clear hown4 hgrow4 hat4)
            have HK4 := hid (group_out HK.out HBI.out HKN.out HS.out hbs HTJ.out HO4.out HG4.out HA4.out)
            have HD4 : Hid (Below w.heap.size w w4) := ((HD.out.trans (HBI.out.mono hbs)).alloc (by omega) _).grown HG4.out (by simp; omega) (fun k hk => (hkl k hk).1)
            have HSN : Hid (∀ b, (So b ∨ (S b ∨ Value.ownBlock (.slice Kx (l.take (l.length)).length dx) = some b)) → S b ∨ w.heap.size ≤ b) := fun b hb => by
              rcases hb with hb | hb | hb
              · exact HSO.out b hb
              · exact .inl hb
              · have := (HKN.out.row.lt b hb).1; right; omega
            go_roundw
            case rel => exact ⟨l.drop (l.length), _, c' - (l.length), some ⟨gg, 0, none⟩, cap, (Lo ++ [(⟨none, 0, Kx, dx, BT.node [] ((l.take (l.length)).map TH.t)⟩ : TH)] : List TH), _, by first | (rw [HDL.out]; done) | (rw [HDL.out, h5]; done) | (rw [HDL.out, Nat.sub_self]; done), by rw [List.length_append]; rfl, by rw [HDL.out]; omega, by omega, by rw [HDL.out, List.length_append]; simp; omega, by first | exact HDR.out | (split; exact .inl (List.drop_eq_nil_iff.2 (by omega)); exact HDR.out) | exact .inl (List.drop_eq_nil_iff.2 (Nat.le_refl _)), by rw [Hid, List.map_append]; exact HNX.out, HK4.out, HSN.out, HD4.out⟩
            case measure => simp [msL] <;> omega
      · by_cases h5 : l.length = 5
        · have e1 : (4 : Int) ≤ (l.length : Int) := by omega
          have e2 : ((l.length : Int) - 4 == 1) = true := by rw [beq_iff_eq]; omega
          have hpn : partN l.length = 3 := by unfold partN; rw [if_pos h5]
          have hnle : 3 ≤ l.length := by omega
          have hn4 : 3 ≤ 4 := by omega
          have hld : (l.drop (3)).length = l.length - (3) := by rw [List.length_drop]
          have HDL : Hid ((l.drop (3)).length = l.length - (3)) := hld
          have HTL : Hid ((l.take (3)).length = 3) := by rw [Hid, List.length_take]; omega
          have HNX : Hid ((Lo.map TH.t ++ [BT.node [] ((l.take (3)).map TH.t)]) ++ ((cutL (l.drop (3))).map fun g => BT.node [] (g.map TH.t)) = groupT (L.map TH.t)) := by
            have h := HEQ.out
            rw [cutL_cons hpos, hpn] at h
            rw [Hid, List.append_assoc]
            exact h
          have HDR := hid (HRW.out.drop (3))
          clear hpn hld
          rw [h5]
          go_wp2_with fail
          go_loopw [6] (fun i wi => ∃ (j : Nat) (Kx : Option Addr) (dx : Nat), j ≤ 3 ∧ i = .int .i64 j ∧ Row2 wi wo.heap.size 67 (.slice none 0 0) (.slice Kx j dx) ∧ Hid (KT wi (wo.heap.size + 1) S Kx dx (l.take j)) ∧ Below wo.heap.size wo wi) (fun i _ => (3) - (intOf i).toNat)
          case atStart => exact ⟨0, none, 0, Nat.zero_le _, rfl, HX0.out, KT.nil (fun b hb => by have := HS.out b hb; have := HBX.out.size; omega), HBX.out⟩
          case round =>
            rename World => wi
            obtain ⟨j, Kx, dx, hj, rfl, hrow, HKX, hbi⟩ := hrel
            have HRX := hid hrow
            have HBI := hid hbi
            have his := hbi.size
            have x0 := hrow.c0
            have x1 := hrow.c1
            have fz1 := hrow.fz 1
            have hgx := hrow.lt
            clear hrow hbi
            by_cases hlt : j < 3
            · have hjl : j < l.length := by omega
              have HBW : Hid (Below w.heap.size w wi) := HD.out.trans (HBI.out.mono hbs)
              obtain ⟨b', off', hbe, _, hc1', hc2', hrt', hcap'⟩ := HRW.out.at_ hjl
              injection hbe with hbe
              injection hbe with hb1 hb2
              subst hb1 hb2
              obtain ⟨y, hy⟩ : ∃ y, y = l[j] := ⟨_, rfl⟩
              rw [← hy] at hc1' hc2' hrt' hcap'
              have y1 := (HBW.out.cell (p := ⟨b, off + j * 2, none⟩) hb).trans hc1'
              have y2 := (HBW.out.cell (p := ⟨b, off + j * 2 + 1, none⟩) hb).trans hc2'
              have HRT : Hid (RT wi S y.A y.K y.t) := hrt'.keep (fun b hb => HBW.out.block b (HS.out b hb)) (fun _ h => h)
              have HCAP := hid hcap'
              have HTJ : Hid ((l.take j).length = j) := by rw [Hid, List.length_take]; omega
              have HTK : Hid (l.take (j + 1) = l.take j ++ [y]) := by rw [Hid, List.take_succ_eq_append_getElem hjl, hy]
              have HROW : Hid (wi.ownsRow (wo.heap.size + 1) 67 2 (.slice Kx j dx) j (thc (l.take j))) := by
                have := HKX.out.row
                rw [HTJ.out] at this
                exact this
              have HRD : Hid (wi.drew.ownsRow (wo.heap.size + 1) 67 2 (.slice Kx j dx) j (thc (l.take j))) := ownsRow_keep HROW.out fun k hk => rfl
              have e7 : (j : Int) < (3 : Int) := by omega
              have e8 : (0 : Int) ≤ (j : Int) := by omega
              have e9 : (j : Int) < (l.length : Int) := by omega
              have e10 : (j : Int) < (5 : Int) := by omega
              clear hc1' hc2' hrt' hcap' hy
              go_wp2_with fail
              go_region_law (refine step_append_lies _ (by rfl) _ _ _ (by rfl) (wo.heap.size + 1) 67 i0 _ 2 48 Try.underlying64 hi0 hz0 hz1 hz2 rfl (by omega) (.slice Kx j dx) j (thc (l.take j)) (by rfl) (HRD.out.alloc _) ⟨wi.heap.size, 0, none⟩ 1 1 [.slice y.A y.t.ps.length y.c, .slice y.K y.t.ks.length y.d] (by rfl) (by rfl) (World.news_of_block (cs := #[.slice y.A y.t.ps.length y.c, .slice y.K y.t.ks.length y.d]) (t := 67) (fr := (0, 0)) (heap_alloc_new wi.drew _)) (by simp [Value.oneCell']) (by omega) (by unfold maxLen; omega) (by omega) (by simp; omega) (wi.heap.size + 1) (by simp) ?_; intro gg cap w4 hown4 hgrow4 hat4 hlt4; obtain ⟨hr4, hk4, hb4⟩ := group_in HRX.out HKX.out HTJ.out HRT.out HCAP.out hown4 hgrow4 hat4; have x4 := hr4.c1; have f4 := hr4.fz 1; have HR4 := hid hr4; have HK4 := hid hk4; have HB4 := hid hb4; clear hr4 hk4 hb4 hown4 hgrow4 hat4)
              all_goals
                go_wp2_with fail
                go_roundw
                case rel => exact ⟨j + 1, some ⟨gg, 0, none⟩, cap, by omega, by go_num, HR4.out.s1 _, by rw [Hid, HTK.out]; exact HK4.out.set (by omega) (fun hs => by have := HS.out _ hs; omega) _, HBI.out.trans (HB4.out.setCell (by simp) _)⟩
                case measure => simp [intOf]; omega
            · obtain ⟨n, hn0⟩ : ∃ n, n = (3) := ⟨_, rfl⟩
              have hjn : j = n := by omega
              subst hjn
              have e7 : ¬ (j : Int) < (3 : Int) := by omega
              have HTJ : Hid ((l.take (3)).length = j) := by rw [Hid, HTL.out]; exact hn0.symm
              have HKN : Hid (KT wi (wo.heap.size + 1) S Kx dx (l.take (3))) := by
                have := HKX.out
                rwa [hn0] at this
              have HN0 := hid hn0
              have HKW := hid (HK.out.below HBI.out)
              have hkl := HK.out.row.lt
              clear HKX hlt hj hnle hn4 hn0
              go_wp2_with (at_builtin; refine wpList_append_lies _ rfl _ _ _ rfl w.heap.size 67 i0 _ 2 48 Try.underlying64 hi0 hz0 hz1 hz2 rfl (by omega) (.slice Ko Lo.length dd) Lo.length (thc Lo) rfl (HKW.out.row.alloc _) ⟨wi.heap.size, 0, none⟩ 1 1 [.slice none 0 0, .slice Kx j dx] rfl rfl (World.news_of_block (cs := #[.slice none 0 0, .slice Kx j dx]) (t := 67) (fr := (0, 0)) (heap_alloc_new wi _)) (by simp [Value.oneCell']) (by omega) (by unfold maxLen; omega) (by omega) (by simp; omega) (wi.heap.size + 1) (by simp) ?_; intro gg cap w4 hown4 hgrow4 hat4 hlt4; have HO4 := hid hown4; have HG4 := hid hgrow4; have HA4 := hid hat4; clear hown4 hgrow4 hat4)
              have HK4 := hid (group_out HK.out HBI.out HKN.out HS.out hbs HTJ.out HO4.out HG4.out HA4.out)
              have HD4 : Hid (Below w.heap.size w w4) := ((HD.out.trans (HBI.out.mono hbs)).alloc (by omega) _).grown HG4.out (by simp; omega) (fun k hk => (hkl k hk).1)
              have HSN : Hid (∀ b, (So b ∨ (S b ∨ Value.ownBlock (.slice Kx (l.take (3)).length dx) = some b)) → S b ∨ w.heap.size ≤ b) := fun b hb => by
                rcases hb with hb | hb | hb
                · exact HSO.out b hb
                · exact .inl hb
                · have := (HKN.out.row.lt b hb).1; right; omega
              go_roundw
              case rel => exact ⟨l.drop (3), _, c' - (3), some ⟨gg, 0, none⟩, cap, (Lo ++ [(⟨none, 0, Kx, dx, BT.node [] ((l.take (3)).map TH.t)⟩ : TH)] : List TH), _, by first | (rw [HDL.out]; done) | (rw [HDL.out, h5]; done) | (rw [HDL.out, Nat.sub_self]; done), by rw [List.length_append]; rfl, by rw [HDL.out]; omega, by omega, by rw [HDL.out, List.length_append]; simp; omega, by first | exact HDR.out | (split; exact .inl (List.drop_eq_nil_iff.2 (by omega)); exact HDR.out) | exact .inl (List.drop_eq_nil_iff.2 (Nat.le_refl _)), by rw [Hid, List.map_append]; exact HNX.out, HK4.out, HSN.out, HD4.out⟩
              case measure => simp [msL] <;> omega
        · have e1 : (4 : Int) ≤ (l.length : Int) := by omega
          have e2 : ((l.length : Int) - 4 == 1) = false := by rw [beq_eq_false_iff_ne]; omega
          have w1' : wrap64 ((l.length : Int) - 4) = (l.length : Int) - 4 := by unfold wrap64; omega
          have w2' : IntKind.i64.wrap ((l.length : Int) - 4) = (l.length : Int) - 4 := IntWalk.i64_in _ (by omega)
          have e6 : ¬ (l.length : Int) = 5 := by omega
          have e7' : ((l.length : Int) == 5) = false := by rw [beq_eq_false_iff_ne]; omega
          have hpn : partN l.length = 4 := by unfold partN; rw [if_neg h5]; omega
          have hnle : 4 ≤ l.length := by omega
          have hn4 : 4 ≤ 4 := by omega
          have hld : (l.drop (4)).length = l.length - (4) := by rw [List.length_drop]
          have HDL : Hid ((l.drop (4)).length = l.length - (4)) := hld
          have HTL : Hid ((l.take (4)).length = 4) := by rw [Hid, List.length_take]; omega
          have HNX : Hid ((Lo.map TH.t ++ [BT.node [] ((l.take (4)).map TH.t)]) ++ ((cutL (l.drop (4))).map fun g => BT.node [] (g.map TH.t)) = groupT (L.map TH.t)) := by
            have h := HEQ.out
            rw [cutL_cons hpos, hpn] at h
            rw [Hid, List.append_assoc]
            exact h
          have HDR := hid (HRW.out.drop (4))
          clear hpn hld
          go_wp2_with fail
          go_loopw [6] (fun i wi => ∃ (j : Nat) (Kx : Option Addr) (dx : Nat), j ≤ 4 ∧ i = .int .i64 j ∧ Row2 wi wo.heap.size 67 (.slice none 0 0) (.slice Kx j dx) ∧ Hid (KT wi (wo.heap.size + 1) S Kx dx (l.take j)) ∧ Below wo.heap.size wo wi) (fun i _ => (4) - (intOf i).toNat)
          case atStart => exact ⟨0, none, 0, Nat.zero_le _, rfl, HX0.out, KT.nil (fun b hb => by have := HS.out b hb; have := HBX.out.size; omega), HBX.out⟩
          case round =>
            rename World => wi
            obtain ⟨j, Kx, dx, hj, rfl, hrow, HKX, hbi⟩ := hrel
            have HRX := hid hrow
            have HBI := hid hbi
            have his := hbi.size
            have x0 := hrow.c0
            have x1 := hrow.c1
            have fz1 := hrow.fz 1
            have hgx := hrow.lt
            clear hrow hbi
            by_cases hlt : j < 4
            · have hjl : j < l.length := by omega
              have HBW : Hid (Below w.heap.size w wi) := HD.out.trans (HBI.out.mono hbs)
              obtain ⟨b', off', hbe, _, hc1', hc2', hrt', hcap'⟩ := HRW.out.at_ hjl
              injection hbe with hbe
              injection hbe with hb1 hb2
              subst hb1 hb2
              obtain ⟨y, hy⟩ : ∃ y, y = l[j] := ⟨_, rfl⟩
              rw [← hy] at hc1' hc2' hrt' hcap'
              have y1 := (HBW.out.cell (p := ⟨b, off + j * 2, none⟩) hb).trans hc1'
              have y2 := (HBW.out.cell (p := ⟨b, off + j * 2 + 1, none⟩) hb).trans hc2'
              have HRT : Hid (RT wi S y.A y.K y.t) := hrt'.keep (fun b hb => HBW.out.block b (HS.out b hb)) (fun _ h => h)
              have HCAP := hid hcap'
              have HTJ : Hid ((l.take j).length = j) := by rw [Hid, List.length_take]; omega
              have HTK : Hid (l.take (j + 1) = l.take j ++ [y]) := by rw [Hid, List.take_succ_eq_append_getElem hjl, hy]
              have HROW : Hid (wi.ownsRow (wo.heap.size + 1) 67 2 (.slice Kx j dx) j (thc (l.take j))) := by
                have := HKX.out.row
                rw [HTJ.out] at this
                exact this
              have HRD : Hid (wi.drew.ownsRow (wo.heap.size + 1) 67 2 (.slice Kx j dx) j (thc (l.take j))) := ownsRow_keep HROW.out fun k hk => rfl
              have e7 : (j : Int) < (4 : Int) := by omega
              have e8 : (0 : Int) ≤ (j : Int) := by omega
              have e9 : (j : Int) < (l.length : Int) := by omega
              have e10 : True := trivial
              clear hc1' hc2' hrt' hcap' hy
              go_wp2_with fail
              go_region_law (refine step_append_lies _ (by rfl) _ _ _ (by rfl) (wo.heap.size + 1) 67 i0 _ 2 48 Try.underlying64 hi0 hz0 hz1 hz2 rfl (by omega) (.slice Kx j dx) j (thc (l.take j)) (by rfl) (HRD.out.alloc _) ⟨wi.heap.size, 0, none⟩ 1 1 [.slice y.A y.t.ps.length y.c, .slice y.K y.t.ks.length y.d] (by rfl) (by rfl) (World.news_of_block (cs := #[.slice y.A y.t.ps.length y.c, .slice y.K y.t.ks.length y.d]) (t := 67) (fr := (0, 0)) (heap_alloc_new wi.drew _)) (by simp [Value.oneCell']) (by omega) (by unfold maxLen; omega) (by omega) (by simp; omega) (wi.heap.size + 1) (by simp) ?_; intro gg cap w4 hown4 hgrow4 hat4 hlt4; obtain ⟨hr4, hk4, hb4⟩ := group_in HRX.out HKX.out HTJ.out HRT.out HCAP.out hown4 hgrow4 hat4; have x4 := hr4.c1; have f4 := hr4.fz 1; have HR4 := hid hr4; have HK4 := hid hk4; have HB4 := hid hb4; clear hr4 hk4 hb4 hown4 hgrow4 hat4)
              all_goals
                go_wp2_with fail
                go_roundw
                case rel => exact ⟨j + 1, some ⟨gg, 0, none⟩, cap, by omega, by go_num, HR4.out.s1 _, by rw [Hid, HTK.out]; exact HK4.out.set (by omega) (fun hs => by have := HS.out _ hs; omega) _, HBI.out.trans (HB4.out.setCell (by simp) _)⟩
                case measure => simp [intOf]; omega
            · obtain ⟨n, hn0⟩ : ∃ n, n = (4) := ⟨_, rfl⟩
              have hjn : j = n := by omega
              subst hjn
              have e7 : ¬ (j : Int) < (4 : Int) := by omega
              have HTJ : Hid ((l.take (4)).length = j) := by rw [Hid, HTL.out]; exact hn0.symm
              have HKN : Hid (KT wi (wo.heap.size + 1) S Kx dx (l.take (4))) := by
                have := HKX.out
                rwa [hn0] at this
              have HN0 := hid hn0
              have HKW := hid (HK.out.below HBI.out)
              have hkl := HK.out.row.lt
              clear HKX hlt hj hnle hn4 hn0
              go_wp2_with (at_builtin; refine wpList_append_lies _ rfl _ _ _ rfl w.heap.size 67 i0 _ 2 48 Try.underlying64 hi0 hz0 hz1 hz2 rfl (by omega) (.slice Ko Lo.length dd) Lo.length (thc Lo) rfl (HKW.out.row.alloc _) ⟨wi.heap.size, 0, none⟩ 1 1 [.slice none 0 0, .slice Kx j dx] rfl rfl (World.news_of_block (cs := #[.slice none 0 0, .slice Kx j dx]) (t := 67) (fr := (0, 0)) (heap_alloc_new wi _)) (by simp [Value.oneCell']) (by omega) (by unfold maxLen; omega) (by omega) (by simp; omega) (wi.heap.size + 1) (by simp) ?_; intro gg cap w4 hown4 hgrow4 hat4 hlt4; have HO4 := hid hown4; have HG4 := hid hgrow4; have HA4 := hid hat4; clear hown4 hgrow4 hat4)
              have HK4 := hid (group_out HK.out HBI.out HKN.out HS.out hbs HTJ.out HO4.out HG4.out HA4.out)
              have HD4 : Hid (Below w.heap.size w w4) := ((HD.out.trans (HBI.out.mono hbs)).alloc (by omega) _).grown HG4.out (by simp; omega) (fun k hk => (hkl k hk).1)
              have HSN : Hid (∀ b, (So b ∨ (S b ∨ Value.ownBlock (.slice Kx (l.take (4)).length dx) = some b)) → S b ∨ w.heap.size ≤ b) := fun b hb => by
                rcases hb with hb | hb | hb
                · exact HSO.out b hb
                · exact .inl hb
                · have := (HKN.out.row.lt b hb).1; right; omega
              go_roundw
              case rel => exact ⟨l.drop (4), _, c' - (4), some ⟨gg, 0, none⟩, cap, (Lo ++ [(⟨none, 0, Kx, dx, BT.node [] ((l.take (4)).map TH.t)⟩ : TH)] : List TH), _, by first | (rw [HDL.out]; done) | (rw [HDL.out, h5]; done) | (rw [HDL.out, Nat.sub_self]; done), by rw [List.length_append]; rfl, by rw [HDL.out]; omega, by omega, by rw [HDL.out, List.length_append]; simp; omega, by first | exact HDR.out | (split; exact .inl (List.drop_eq_nil_iff.2 (by omega)); exact HDR.out) | exact .inl (List.drop_eq_nil_iff.2 (Nat.le_refl _)), by rw [Hid, List.map_append]; exact HNX.out, HK4.out, HSN.out, HD4.out⟩
              case measure => simp [msL] <;> omega
    · have hl0 : l = [] := List.eq_nil_of_length_eq_zero (by omega)
      have HE : Hid (Lo.map TH.t = groupT (L.map TH.t)) := by
        have h := HEQ.out
        rw [hl0, cutL_nil, List.map_nil, List.append_nil] at h
        exact h
      clear hl0
      go_wp2_with fail
      go_ret
      exact ⟨Ko, dd, Lo, So, rfl, HE.out, HK.out, HSO.out, HD.out⟩
end Go.Proofs.Ytcjbjfhndjpmcaa
