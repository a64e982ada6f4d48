/-
  slices.Compact at edges.
-/
import Derived.Test.YtjdmaoegfpgfjaaEdgeSet
import Derived.Test.YtjdmaoegfpgfjaaFreeI
namespace Go.Proofs.Ytjdmaoegfpgfjaa
open Go.RowKit

theorem OwnE.cellA {w : World} {B g c : Nat} {cur : ES} (h : OwnE w B (some ⟨g, 0, none⟩) c cur) {i o : Nat} {x : ED} (hx : cur[i]? = some x) (ho : o = i * 2) : w.cell? ⟨g, o, none⟩ = some (.int .i64 x.1) := by
  subst ho
  have hi := (List.getElem?_eq_some_iff.1 hx).1
  exact (World.ownsRow.cellAt h (i * 2) (by omega)).trans (ecells_a cur i x hx)
theorem OwnE.cellB {w : World} {B g c : Nat} {cur : ES} (h : OwnE w B (some ⟨g, 0, none⟩) c cur) {i o : Nat} {x : ED} (hx : cur[i]? = some x) (ho : o = i * 2 + 1) : w.cell? ⟨g, o, none⟩ = some (.int .i64 x.2) := by
  subst ho
  have hi := (List.getElem?_eq_some_iff.1 hx).1
  exact (World.ownsRow.cellAt h (i * 2 + 1) (by omega)).trans (ecells_b cur i x hx)
theorem grown_drewN {w w' : World} {r : Option Nat} (h : w.grownBy w' r) (n : Nat) : w.grownBy (w'.drewN n) r := ⟨h.os, h.tape, h.output, h.size, fun k hk hr => h.block k hk hr⟩
def CompE (B : Nat) (A : Option Addr) (c : Nat) (es : ES) (w : World) (e : Ending) (w' : World) : Prop :=
  e = .returned (.slice A (dedE es).length c) ∧ OwnE w' B A c (dedE es) ∧ w.grownBy w' (Value.ownBlock (.slice A es.length c))
theorem ded_one (x : ED) : dedE [x] = [x] := rfl
theorem ded_small {es : ES} (h : es.length < 2) : dedE es = es := by
  match es, h with
  | [], _ => rfl
  | [x], _ => rfl
  | _ :: _ :: _, h => simp at h; omega
theorem ded_step {es : ES} {k : Nat} (h0 : 0 < k) (hk : k < es.length) (hd : dedE (es.take k) = es.take k) (he : es[k] ≠ es[k - 1]) : dedE (es.take (k + 1)) = es.take (k + 1) := by
  rw [ded_snoc h0 hk, if_neg (fun e => he e.symm), hd, take_snoc hk]
theorem take_one_ded {es : ES} (h : 1 ≤ es.length) : dedE (es.take 1) = es.take 1 := ded_small (by rw [List.length_take]; omega)

set_option maxHeartbeats 2000000 in
set_option maxRecDepth 100000 in
theorem compact_own (B : Nat) (A : Option Addr) (c : Nat) (es : ES) (w : World) (ho : OwnE w B A c es) (hn : es.length ≤ 1000000) :
    Calls Try.prog 154 #[.slice A es.length c] w (CompE B A c es w) := by
  by_cases h2 : es.length < 2
  · have HE := hid (ded_small h2)
    have HO := hid ho
    have h3 : (es.length : Int) < 2 := by omega
    clear ho h2
    go_enter Try.func154, Try.ntmps154
    go_wp2_with fail
    go_ret
    refine ⟨by rw [HE.out]; rfl, by rw [HE.out]; exact HO.out, ⟨rfl, rfl, rfl, Nat.le_refl _, fun _ _ _ => rfl⟩⟩
  · obtain ⟨g, rfl⟩ : ∃ g, A = some ⟨g, 0, none⟩ := by
      rcases ho.2 with ⟨hv, hz⟩ | ⟨g, cap, cur, hv, _⟩
      · omega
      · injection hv with e
        exact ⟨g, e⟩
    have h3 : ¬ (es.length : Int) < 2 := by omega
    have hcap := ho.cap
    have hcap1 := hcap.1
    have hcap2 := hcap.2
    unfold maxLen at hcap2
    have HO := hid ho
    clear ho hcap
    go_enter Try.func154, Try.ntmps154
    go_wp2_with fail
    go_loopw [3] (fun i wr => ∃ p : Nat, p + 1 ≤ es.length ∧ i = .int .i64 ((p : Int) + 1) ∧ Hid (dedE (es.take (p + 1)) = es.take (p + 1)) ∧ Drawn w wr) (fun i _ => es.length - (intOf i).toNat)
    case atStart => exact ⟨0, by omega, rfl, take_one_ded (by omega), Drawn.refl _⟩
    case round =>
      obtain ⟨p, hp, rfl, HD, hdr⟩ := hrel
      have HDR := hid hdr
      have HOR := hid (HO.out.below (hdr.below _))
      clear hdr
      by_cases hlt : p + 1 < es.length
      · obtain ⟨_, _, ea, hb, hc1, hc2⟩ := HOR.out.re.at_ hlt
        obtain ⟨e1, e2⟩ := some_lit ea
        subst e1 e2
        obtain ⟨_, _, eb, _, hc3, hc4⟩ := HOR.out.re.at_ (show p < es.length by omega)
        obtain ⟨e1, e2⟩ := some_lit eb
        subst e1 e2
        simp only [Nat.zero_add] at hc1 hc2 hc3 hc4
        clear ea eb
        have e3 : (p : Int) + 1 < (es.length : Int) := by omega
        have e4 : (0 : Int) ≤ (p : Int) + 1 := by omega
        have e5 : (p : Int) < (es.length : Int) := by omega
        have e6 : (0 : Int) ≤ (p : Int) := by omega
        have hq := eqEdgeV es[p + 1] es[p]
        have hm := edgeGuard
        by_cases he : es[p + 1] = es[p]
        · have h4 : decide (es[p + 1] = es[p]) = true := by simp [he]
          rw [h4] at hq
          have HE := hid he
          clear he h4
          go_wp2_with fail
          go_quiet (fail)
          go_wp2_with fail
          have HCP := hid (CpIn.start (k := p + 1) (by omega) hlt HD.out (by rw [HE.out]; rfl))
          have HGR : Hid (w.grownBy (wr.drewN nq) (some g)) := by
            obtain ⟨q, hq⟩ := HDR.out
            rw [Hid, hq]
            exact ⟨rfl, rfl, rfl, Nat.le_refl _, fun _ _ _ => rfl⟩
          have HO2 : Hid (OwnE (wr.drewN nq) B (some ⟨g, 0, none⟩) c es) := HOR.out
          generalize hwi : wr.drewN nq = wi at *
          clear hwi hq hc1 hc2 hc3 hc4
          go_loopw [3, 5] (fun i3 i5 wr => ∃ (k m : Nat) (cur : ES), i3 = .int .i64 (k : Int) ∧ i5 = .int .i64 ((m : Int) + 1) ∧ Hid (CpIn es cur k (p + m + 2)) ∧ p + m + 2 ≤ es.length ∧ Hid (OwnE wr B (some ⟨g, 0, none⟩) c cur) ∧ Hid (w.grownBy wr (some g))) (fun _ i _ => es.length - (intOf i).toNat)
          case atStart => exact ⟨p + 1, 0, es, by go_num, rfl, HCP.out, by omega, HO2.out, HGR.out⟩
          case round =>
            obtain ⟨k, m, cur, rfl, rfl, HCI, hjm, HOC, HG⟩ := hrel
            have hk1 := HCI.out.k1
            have hk2 := HCI.out.kj
            have hlen : Hid (cur.length = es.length) := HCI.out.len
            have e7 : (0 : Int) ≤ (k : Int) := by omega
            have e8 : (k : Int) < (es.length : Int) := by omega
            have e8b : (k : Int) ≤ (es.length : Int) := by omega
            have e9 : k < es.length := by omega
            have e9b : k ≤ es.length := by omega
            have e9c : k ≤ c := by omega
            by_cases hl2 : p + m + 2 < es.length
            · have hx1 : cur[p + m + 2]? = some es[p + m + 2] := HCI.out.rest _ hl2 (by omega)
              have hx2 : cur[p + m + 1]? = some es[p + m + 1] := HCI.out.rest _ (by omega) (by omega)
              have hc1 := HOC.out.cellA hx1 (o := (p + 1) * 2 + (m + 1) * 2) (by omega)
              have hc2 := HOC.out.cellB hx1 (o := (p + 1) * 2 + (m + 1) * 2 + 1) (by omega)
              have hc3 := HOC.out.cellA hx2 (o := (p + 1) * 2 + m * 2) (by omega)
              have hc4 := HOC.out.cellB hx2 (o := (p + 1) * 2 + m * 2 + 1) (by omega)
              obtain ⟨_, _, ed, _, hd1, hd2⟩ := HOC.out.re.at_ (k := k) (by have := hlen.out; omega)
              obtain ⟨e1, e2⟩ := some_lit ed
              subst e1 e2
              simp only [Nat.zero_add] at hd1 hd2
              have f1 := HOC.out.frozenE (k * 2)
              have f2 := HOC.out.frozenE (k * 2 + 1)
              have e10 : (m : Int) + 1 < (es.length : Int) - ((p : Int) + 1) := by omega
              have e11 : (0 : Int) ≤ (m : Int) + 1 := by omega
              have e12 : (m : Int) < (es.length : Int) - ((p : Int) + 1) := by omega
              have e13 : (0 : Int) ≤ (m : Int) := by omega
              have e14 : m + 1 < es.length - (p + 1) := by omega
              have e15 : m < es.length - (p + 1) := by omega
              clear hx1 hx2 ed
              have hq := neEdgeV es[p + m + 2] es[p + m + 1]
              have hm := edgeGuard
              by_cases he : es[p + m + 2] = es[p + m + 1]
              · have h4 : (!decide (es[p + m + 2] = es[p + m + 1])) = false := by simp [he]
                rw [h4] at hq
                have HN := hid (HCI.out.same hl2 (by show es[p + m + 1]? = _; rw [List.getElem?_eq_getElem (by omega), he]))
                clear he h4
                go_wp2_with fail
                go_quiet (fail)
                go_wp2_with fail
                go_roundw
                case rel => exact ⟨k, m + 1, cur, rfl, by go_num, HN.out, by omega, HOC.out, grown_trans HG.out ⟨rfl, rfl, rfl, Nat.le_refl _, fun _ _ _ => rfl⟩⟩
                case measure => simp [intOf]; omega
              · have h4 : (!decide (es[p + m + 2] = es[p + m + 1])) = true := by simp [he]
                rw [h4] at hq
                have HN := hid (HCI.out.keep hl2 (by show es[p + m + 1]? ≠ _; rw [List.getElem?_eq_getElem (by omega)]; intro e; exact he (Option.some.inj e).symm))
                obtain ⟨pu1, pu2⟩ := (show OwnE (wr.drewN 1) B (some ⟨g, 0, none⟩) c cur from HOC.out).put (k := k) (by have := hlen.out; omega) es[p + m + 2]
                have PU := fun (q : Nat) => (show OwnE (wr.drewN q) B (some ⟨g, 0, none⟩) c cur from HOC.out).put (k := k) (by have := hlen.out; omega) es[p + m + 2]
                have HPU := hid PU
                clear he h4 pu1 pu2 PU
                go_wp2_with fail
                go_quiet (fail)
                go_wp2_with fail
                go_roundw
                case rel => exact ⟨k + 1, m + 1, cur.set k es[p + m + 2], by go_num, by go_num, HN.out, by omega, (HPU.out _).1, grown_trans (grown_drewN HG.out nq) (HPU.out nq).2⟩
                case measure => simp [intOf]; omega
            · have hjl : p + m + 2 = es.length := by omega
              obtain ⟨s1, s2, s3, s4⟩ := HOC.out.swept hlen.out e9
              have S1 := hid s1
              have S2 := hid s2
              have HT : Hid (cur.take k = dedE es) := by
                have := HCI.out.done
                rw [hjl, List.take_length] at this
                exact this
              have hgl : Hid ((dedE es).length = k) := by
                show _ = _
                rw [← HT.out, List.length_take, hlen.out]
                omega
              have hcl : ∀ ty, (Builtin.clear_ #[53] ty #[.slice (some ⟨g, k * 2, none⟩) (es.length - k) (c - k)]).run Try.prog wr = .ok (.tuple #[]) (wr.setCells g (k * 2) (zeroE (es.length - k))) := fun ty => run_clear_edge wr _ _ ty Try.underlying53 edgeZero g (k * 2) (es.length - k) (c - k) (by omega) s3 s4 (zeroE_one _)
              have e10 : ¬ (m : Int) + 1 < (es.length : Int) - ((p : Int) + 1) := by omega
              have e14 : ¬ m + 1 < es.length - (p + 1) := by omega
              clear s1 s2 s3 s4
              go_wp2_with fail
              go_ret
              exact ⟨by rw [hgl.out]; rfl, by rw [← HT.out]; exact S1.out, grown_trans HG.out S2.out⟩
        · have h4 : decide (es[p + 1] = es[p]) = false := by simp [he]
          rw [h4] at hq
          have HE := hid he
          clear he h4
          go_wp2_with fail
          go_quiet (fail)
          go_wp2_with fail
          go_roundw
          case rel => exact ⟨p + 1, by omega, by go_num, ded_step (by omega) hlt HD.out HE.out, HDR.out.drewN _⟩
          case measure => simp [intOf]; omega
      · have hl : es.length = p + 1 := by omega
        have h5 : ¬ (p : Int) + 1 < (es.length : Int) := by omega
        have HE : Hid (dedE es = es) := by
          have h := HD.out
          rw [← hl, List.take_length] at h
          exact h
        have HGR : Hid (w.grownBy wr (some g)) := by
          obtain ⟨q, hq⟩ := HDR.out
          rw [Hid, hq]
          exact ⟨rfl, rfl, rfl, Nat.le_refl _, fun _ _ _ => rfl⟩
        clear hl
        go_wp2_with fail
        go_ret
        refine ⟨by rw [HE.out]; rfl, by rw [HE.out]; exact HOR.out, HGR.out⟩
end Go.Proofs.Ytjdmaoegfpgfjaa
