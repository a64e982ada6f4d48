import Derived.Test.YtcjbjfhndjpmcaaPk44
import Derived.Test.YtcjbjfhndjpmcaaPk45
import Derived.Test.YtcjbjfhndjpmcaaPk47
/-
  The model's TreeOf.
-/
namespace Go.Proofs.Ytcjbjfhndjpmcaa
open Go.RowKit

theorem over_next' {f : Nat} {ts : List BT} (h : 2 ≤ ts.length) (hf : ts.length ≤ f + 1) : ∃ f', f = f' + 1 ∧ overT f ts = overT f' (groupT ts) ∧ 1 ≤ (groupT ts).length ∧ (groupT ts).length < ts.length := by
  obtain ⟨f', rfl⟩ : ∃ f', f = f' + 1 := ⟨f - 1, by omega⟩
  have h1 := groupT_len ts
  have h2 := groupT_pos (ts := ts) (by omega)
  refine ⟨f', rfl, ?_, h2, by omega⟩
  match ts, h with
  | a :: b :: r, _ => rfl
theorem leaves_facts (ps : PS) (h : ps ≠ []) : overT ps.length ((cutL ps).map leafT) = makeT ps ∧ 1 ≤ (cutL ps).length ∧ (cutL ps).length ≤ ps.length + 1 ∧ (cutL ps).length * 2 ≤ ps.length + 2 := by
  have h1 := over_start ps
  rw [partsL_cut h] at h1
  exact h1

/-- A level of the model's trees, over which the whole tree stands. -/
def OfRel (ps : PS) (w : World) (v : Value) (wc : World) : Prop := ∃ (f k : Nat) (K : Option Addr) (d : Nat) (L : List TH) (S : Nat → Prop), v = .slice K k d ∧ 1 ≤ k ∧ k ≤ 60 ∧ Hid (L.length = k) ∧ Hid (overT f (L.map TH.t) = makeT ps ∧ k ≤ f + 1) ∧ Hid (KT wc w.heap.size S K d L) ∧ Hid (∀ b, S b → w.heap.size ≤ b) ∧ Below w.heap.size w wc

set_option maxHeartbeats 4000000 in
set_option maxRecDepth 100000 in
theorem spec_TreeOf (A : Option Addr) (c : Nat) (ps : PS) (w : World) (hr : RP w w.heap.size A ps) (hvs : VS A c ps.length) (hf : Fits ps) (hn : ps.length ≤ 1048576) :
    Calls Try.prog 14 #[.slice A ps.length c] w (NodesOut2 w (ofTR ps) (mapB ps)) := by
  have hml : ps.length ≤ maxLen := by unfold maxLen; omega
  have HR := hid hr
  have HF := hid hf
  have HM := hid hml
  have hcc : ps.length ≤ c ∧ c ≤ maxLen := by
    rcases hvs with ⟨_, h1, h2⟩ | ⟨_, _, _, h2, h3⟩
    · exact ⟨by omega, by rw [h1]; exact Nat.zero_le _⟩
    · exact ⟨h2, h3⟩
  have HV := hid hcc
  clear hr hf hml hvs hcc
  cases h1 : mapB ps
  · have HB := hid h1
    go_enter Try.func14, Try.ntmps14
    go_wp2_with (go_at_call 56; refine (spec_MapOk A c ps w.heap.size _ HR.out HF.out HM.out).mono ?_; rintro e w2 ⟨rfl, hd2⟩; have hw2 := hd2.below w.heap.size)
    go_ret2
    exact NodesOut2.no (by rw [ofTR, HB.out]; rfl) rfl hw2
  · have hl60 : ps.length ≤ 60 := (mapB_iff.1 h1).1
    have HB := hid h1
    have HMG := hid (make_good ps)
    go_enter Try.func14, Try.ntmps14
    go_wp2_with (go_at_call 56; refine (spec_MapOk A c ps w.heap.size _ HR.out HF.out HM.out).mono ?_; rintro e w2 ⟨rfl, hd2⟩; have hw2 := hd2.below w.heap.size)
    refine (spec_l2Leaves A c ps _ ((HR.out.below hw2).more hw2.size) hl60 HV.out.1 HV.out.2).mono ?_
    rintro e w3 ⟨K3, d3, L3, rfl, hL3, hk3, hb3⟩
    obtain ⟨S3, hs3, hkt3⟩ := KT.of_kids hk3
    have HB3 : Hid (Below w.heap.size w w3) := hw2.trans (hb3.mono hw2.size)
    have HK3 : Hid (KT w3 w.heap.size S3 K3 d3 L3) := hkt3.mono hw2.size
    have HS3 : Hid (∀ b, S3 b → w.heap.size ≤ b) := fun b hb => Nat.le_trans hw2.size (hs3 b hb)
    have hlen3 : L3.length = (cutL ps).length := by have := congrArg List.length hL3; simpa using this
    have HC : Hid ((L3.length = 0 ∧ ps = []) ∨ (0 < L3.length ∧ overT ps.length (L3.map TH.t) = makeT ps ∧ L3.length ≤ ps.length + 1 ∧ L3.length ≤ 60)) := by
      by_cases h : ps = []
      · exact .inl ⟨by rw [hlen3, h]; rfl, h⟩
      · obtain ⟨g1, g2, g3, g4⟩ := leaves_facts ps h
        exact .inr ⟨by omega, by rw [hL3]; exact g1, by omega, by omega⟩
    clear hk3 hkt3 hs3 hL3 hlen3 hb3 hw2 hd2
    by_cases h0 : L3.length = 0
    · have e1 : ((L3.length : Int) == 0) = true := by rw [beq_iff_eq]; omega
      have hps : ps = [] := by
        rcases HC.out with ⟨_, h⟩ | ⟨h, _⟩
        · exact h
        · omega
      have HREL : Hid (OfRel ps w (.slice (some ⟨w3.heap.size, 0, none⟩) 1 1) (w3.alloc (.cells #[.slice none 0 0, .slice none 0 0] 67))) := by
        have hb : Below w3.heap.size w3 (w3.alloc (.cells #[.slice none 0 0, .slice none 0 0] 67)) := (Below.refl _ _).alloc (Nat.le_refl _) _
        refine ⟨0, 1, some ⟨w3.heap.size, 0, none⟩, 1, [⟨none, 0, none, 0, .node [] []⟩], fun _ => False, rfl, Nat.le_refl _, by omega, rfl, ⟨by rw [hps]; rfl, Nat.le_refl _⟩, ⟨?_, fun _ h => h.elim, fun x hx => ?_⟩, fun _ h => h.elim, HB3.out.trans (hb.mono HB3.out.size)⟩
        · exact ⟨rfl, .inr ⟨w3.heap.size, 1, _, rfl, HB3.out.size, heap_alloc_new w3 _, Nat.le_refl _, by unfold maxLen; omega, rfl, rfl⟩⟩
        · obtain rfl : x = ⟨none, 0, none, 0, .node [] []⟩ := by simpa using hx
          exact ⟨.node 0 0 (fun _ => none) (fun _ => none) (fun _ => 0) (fun _ => 0) (.inl rfl) (.inl rfl) (fun i t ht => by simp at ht) (fun i t ht => by simp at ht), Nat.le_refl _, Nat.zero_le _, Nat.le_refl _, Nat.zero_le _⟩
      clear hps
      go_wp2_with fail
      go_loopw [4] (fun v4 wr => OfRel ps w v4 wr) (fun v4 _ => msL v4)
      case atStart => exact HREL.out
      case round =>
        rename World => wr
        obtain ⟨f, k, K, d, L, S, rfl, hk1, hk2, HLK, HOV, HKT, HSS, hbw⟩ := hrel
        have HBW := hid hbw
        have hbs := hbw.size
        clear hbw
        by_cases h2 : 1 < k
        · have e2 : (1 : Int) < (k : Int) := by omega
          have hb0 : ∀ b, S b ∨ Value.ownBlock (.slice K L.length d) = some b → b < wr.heap.size := fun b hb => hb.elim (fun h => (HKT.out.bd b h).1) (fun h => (HKT.out.row.lt b h).2)
          have hgr := spec_l2Group _ K d L wr HKT.out.rk hb0 (by rw [HLK.out]; omega) HKT.out.caps.1 HKT.out.caps.2
          rw [HLK.out] at hgr
          have HGR := hid hgr
          have HNX := hid (over_next' (f := f) (ts := L.map TH.t) (by rw [List.length_map, HLK.out]; omega) (by rw [List.length_map, HLK.out]; exact HOV.out.2))
          have HOB : Hid (∀ b, Value.ownBlock (.slice K L.length d) = some b → w.heap.size ≤ b) := fun b hb => (HKT.out.row.lt b hb).1
          clear hb0 hgr
          go_wp2_with fail
          refine HGR.out.mono ?_
          rintro e w5 ⟨K5, d5, L5, S5, rfl, hL5, hk5, hs5, hb5⟩
          have HB5 : Hid (Below w.heap.size w w5) := HBW.out.trans (hb5.mono hbs)
          have HK5 : Hid (KT w5 w.heap.size S5 K5 d5 L5) := hk5.mono hbs
          have HS5 : Hid (∀ b, S5 b → w.heap.size ≤ b) := fun b hb => by
            rcases hs5 b hb with (h | h) | h
            · exact HSS.out b h
            · exact HOB.out b (by rw [HLK.out]; exact h)
            · omega
          have HRN : Hid (OfRel ps w (.slice K5 L5.length d5) w5 ∧ L5.length < k) := by
            obtain ⟨f', rfl, h3, h4, h5⟩ := HNX.out
            rw [← hL5, List.length_map, List.length_map, HLK.out] at h5
            rw [← hL5, List.length_map] at h4
            have ho := HOV.out
            exact ⟨⟨f', L5.length, K5, d5, L5, S5, rfl, h4, by omega, rfl, ⟨by rw [hL5, ← h3]; exact ho.1, by have := ho.2; omega⟩, HK5.out, HS5.out, HB5.out⟩, h5⟩
          have hrn := HRN.out.2
          clear hL5 hk5 hs5 hb5
          go_wp2_with fail
          go_roundw
          case rel => exact HRN.out.1
          case measure => simp [msL]; omega
        · have e2 : ¬ (1 : Int) < (k : Int) := by omega
          obtain rfl : k = 1 := by omega
          obtain ⟨x, rfl⟩ : ∃ x, L = [x] := List.length_eq_one_iff.1 HLK.out
          obtain ⟨kb, rfl⟩ : ∃ kb, K = some ⟨kb, 0, none⟩ := by
            rcases HKT.out.row.2 with ⟨_, h0⟩ | ⟨kb, cap, cur, hv, _⟩
            · simp at h0
            · injection hv with e1 _ _
              exact ⟨kb, e1⟩
          have hc0 : wr.cell? ⟨kb, 0, none⟩ = some (.slice x.A x.t.ps.length x.c) := by
            rw [World.ownsRow.cellAt HKT.out.row 0 (by simp)]
            rfl
          have hc1 : wr.cell? ⟨kb, 1, none⟩ = some (.slice x.K x.t.ks.length x.d) := by
            rw [World.ownsRow.cellAt HKT.out.row 1 (by simp)]
            rfl
          have HT : Hid (x.t = makeT ps) := by
            have h := HOV.out.1
            cases f <;> exact h
          have HRT := hid (HKT.out.rt x (List.mem_singleton.2 rfl)).1
          have hbd : ∀ b, S b → b < wr.heap.size := fun b hb => (HKT.out.bd b hb).1
          obtain ⟨⟨mm, hfm⟩, hall⟩ := HMG.out
          have hmz := good_few hfm
          rw [hall] at hmz
          rw [← HT.out] at hmz hall
          have HOT := hid (spec_l2Out wr.heap.size S (szT x.t) x.t none 0 0 [] x.A x.K x.c x.d wr (Nat.le_refl _) (by simp; omega) (by rw [hall]; omega) HRT.out hbd rfl (NodesO.nil_ _ _) (Nat.le_refl _))
          clear hfm hall hmz hbd
          go_wp2_with fail
          refine HOT.out.mono ?_
          rintro e w7 ⟨A7, c7, m7, L7, rfl, hm7, hn7, hl7, hM7, _, _⟩
          have hb7 : Below wr.heap.size wr w7 := hM7.below (fun k hk => by simp [Value.ownBlock] at hk) (Nat.le_refl _)
          obtain rfl : m7 = (layT x.t 0).length := by
            have h := congrArg List.length hl7
            rw [List.length_map] at h
            have h3 := hm7.out
            simp only [List.nil_append] at h3
            rw [h3, h]
            rfl
          have HN7 := hid hn7
          have HL7 := hid hl7
          have HB7 := hid hb7
          clear hm7 hn7 hl7 hM7 hb7
          go_wp2_with fail
          go_ret2
          exact NodesOut2.yes rfl (by rw [ofTR, HB.out, ← HT.out]; rfl) HL7.out HN7.out HBW.out HB7.out
    · have e1 : ((L3.length : Int) == 0) = false := by rw [beq_eq_false_iff_ne]; omega
      have HREL : Hid (OfRel ps w (.slice K3 L3.length d3) w3) := by
        rcases HC.out with ⟨h, _⟩ | ⟨h1, h2, h3, h4⟩
        · exact absurd h h0
        · exact ⟨ps.length, L3.length, K3, d3, L3, S3, rfl, by omega, h4, rfl, ⟨h2, h3⟩, HK3.out, HS3.out, HB3.out⟩
      go_wp2_with fail
      go_loopw [4] (fun v4 wr => OfRel ps w v4 wr) (fun v4 _ => msL v4)
      case atStart => exact HREL.out
      case round =>
        rename World => wr
        obtain ⟨f, k, K, d, L, S, rfl, hk1, hk2, HLK, HOV, HKT, HSS, hbw⟩ := hrel
        have HBW := hid hbw
        have hbs := hbw.size
        clear hbw
        by_cases h2 : 1 < k
        · have e2 : (1 : Int) < (k : Int) := by omega
          have hb0 : ∀ b, S b ∨ Value.ownBlock (.slice K L.length d) = some b → b < wr.heap.size := fun b hb => hb.elim (fun h => (HKT.out.bd b h).1) (fun h => (HKT.out.row.lt b h).2)
          have hgr := spec_l2Group _ K d L wr HKT.out.rk hb0 (by rw [HLK.out]; omega) HKT.out.caps.1 HKT.out.caps.2
          rw [HLK.out] at hgr
          have HGR := hid hgr
          have HNX := hid (over_next' (f := f) (ts := L.map TH.t) (by rw [List.length_map, HLK.out]; omega) (by rw [List.length_map, HLK.out]; exact HOV.out.2))
          have HOB : Hid (∀ b, Value.ownBlock (.slice K L.length d) = some b → w.heap.size ≤ b) := fun b hb => (HKT.out.row.lt b hb).1
          clear hb0 hgr
          go_wp2_with fail
          refine HGR.out.mono ?_
          rintro e w5 ⟨K5, d5, L5, S5, rfl, hL5, hk5, hs5, hb5⟩
          have HB5 : Hid (Below w.heap.size w w5) := HBW.out.trans (hb5.mono hbs)
          have HK5 : Hid (KT w5 w.heap.size S5 K5 d5 L5) := hk5.mono hbs
          have HS5 : Hid (∀ b, S5 b → w.heap.size ≤ b) := fun b hb => by
            rcases hs5 b hb with (h | h) | h
            · exact HSS.out b h
            · exact HOB.out b (by rw [HLK.out]; exact h)
            · omega
          have HRN : Hid (OfRel ps w (.slice K5 L5.length d5) w5 ∧ L5.length < k) := by
            obtain ⟨f', rfl, h3, h4, h5⟩ := HNX.out
            rw [← hL5, List.length_map, List.length_map, HLK.out] at h5
            rw [← hL5, List.length_map] at h4
            have ho := HOV.out
            exact ⟨⟨f', L5.length, K5, d5, L5, S5, rfl, h4, by omega, rfl, ⟨by rw [hL5, ← h3]; exact ho.1, by have := ho.2; omega⟩, HK5.out, HS5.out, HB5.out⟩, h5⟩
          have hrn := HRN.out.2
          clear hL5 hk5 hs5 hb5
          go_wp2_with fail
          go_roundw
          case rel => exact HRN.out.1
          case measure => simp [msL]; omega
        · have e2 : ¬ (1 : Int) < (k : Int) := by omega
          obtain rfl : k = 1 := by omega
          obtain ⟨x, rfl⟩ : ∃ x, L = [x] := List.length_eq_one_iff.1 HLK.out
          obtain ⟨kb, rfl⟩ : ∃ kb, K = some ⟨kb, 0, none⟩ := by
            rcases HKT.out.row.2 with ⟨_, h0⟩ | ⟨kb, cap, cur, hv, _⟩
            · simp at h0
            · injection hv with e1 _ _
              exact ⟨kb, e1⟩
          have hc0 : wr.cell? ⟨kb, 0, none⟩ = some (.slice x.A x.t.ps.length x.c) := by
            rw [World.ownsRow.cellAt HKT.out.row 0 (by simp)]
            rfl
          have hc1 : wr.cell? ⟨kb, 1, none⟩ = some (.slice x.K x.t.ks.length x.d) := by
            rw [World.ownsRow.cellAt HKT.out.row 1 (by simp)]
            rfl
          have HT : Hid (x.t = makeT ps) := by
            have h := HOV.out.1
            cases f <;> exact h
          have HRT := hid (HKT.out.rt x (List.mem_singleton.2 rfl)).1
          have hbd : ∀ b, S b → b < wr.heap.size := fun b hb => (HKT.out.bd b hb).1
          obtain ⟨⟨mm, hfm⟩, hall⟩ := HMG.out
          have hmz := good_few hfm
          rw [hall] at hmz
          rw [← HT.out] at hmz hall
          have HOT := hid (spec_l2Out wr.heap.size S (szT x.t) x.t none 0 0 [] x.A x.K x.c x.d wr (Nat.le_refl _) (by simp; omega) (by rw [hall]; omega) HRT.out hbd rfl (NodesO.nil_ _ _) (Nat.le_refl _))
          clear hfm hall hmz hbd
          go_wp2_with fail
          refine HOT.out.mono ?_
          rintro e w7 ⟨A7, c7, m7, L7, rfl, hm7, hn7, hl7, hM7, _, _⟩
          have hb7 : Below wr.heap.size wr w7 := hM7.below (fun k hk => by simp [Value.ownBlock] at hk) (Nat.le_refl _)
          obtain rfl : m7 = (layT x.t 0).length := by
            have h := congrArg List.length hl7
            rw [List.length_map] at h
            have h3 := hm7.out
            simp only [List.nil_append] at h3
            rw [h3, h]
            rfl
          have HN7 := hid hn7
          have HL7 := hid hl7
          have HB7 := hid hb7
          clear hm7 hn7 hl7 hM7 hb7
          go_wp2_with fail
          go_ret2
          exact NodesOut2.yes rfl (by rw [ofTR, HB.out, ← HT.out]; rfl) HL7.out HN7.out HBW.out HB7.out
end Go.Proofs.Ytcjbjfhndjpmcaa
