import Derived.Test.YtcjbjfhndjpmcaaPk10
import Derived.LaidEql
/-
  The program's trees: contracts of what looks at branches.
-/
namespace Go.Proofs.Ytcjbjfhndjpmcaa
open Go.RowKit

theorem quiet_drawn {P : Program} {f : FuncId} {args : Array Value} {w : World} {n : Nat} {v : Value}
    (h : Calls P f args (w.drewN n) fun e w' => e = .returned v ∧ Drawn (w.drewN n) w') : Calls P f args (w.drewN n) fun e w'' => e = .returned v ∧ ∃ m, w'' = w.drewN m :=
  h.mono fun _ _ ⟨he, m, hm⟩ => ⟨he, n + m, by rw [hm, World.drewN_drewN]⟩

set_option maxHeartbeats 1000000 in
set_option maxRecDepth 100000 in
theorem impl_size (g n m c d : Nat) (A K : Option Addr) (w : World) (h0 : w.cell? ⟨g, 0, none⟩ = some (.slice A n c)) (h1 : w.cell? ⟨g, 1, none⟩ = some (.slice K m d)) (hn : n ≤ 9000000) (hm : m ≤ 9000000) :
    Calls Try.prog 120 #[.pointer (some ⟨g, 0, none⟩)] w fun e w' => e = .returned (.int .i64 ((n : Int) + (m : Int))) ∧ Drawn w w' := by
  go_enter Try.func120, Try.ntmps120
  go_wp2_with fail
  go_quiet (fail)
  go_wp2_with fail
  go_ret
  exact ⟨rfl, (Drawn.refl _).drewN _⟩

/-- In the order in which wellFilled asks. -/
theorem fill_ways (top : Bool) (np nk : Nat) :
    (0 < np ∧ 0 < nk ∧ fillB top np nk = false) ∨ ((np ≤ 0 ∨ (0 < np ∧ nk ≤ 0)) ∧ ((4 < np + nk ∧ fillB top np nk = false) ∨ (np + nk ≤ 4 ∧ nk = 1 ∧ fillB top np nk = false) ∨ (np + nk ≤ 4 ∧ nk ≠ 1 ∧ ((top = true ∧ fillB top np nk = true) ∨ (top = false ∧ fillB top np nk = decide (2 ≤ np + nk)))))) := by
  cases h : fillB top np nk
  · simp only [fillB, Bool.and_eq_false_iff, Bool.not_eq_false', Bool.and_eq_true, decide_eq_true_eq, decide_eq_false_iff_not, Bool.or_eq_false_iff] at h
    cases top <;> simp at h ⊢ <;> omega
  · simp only [fillB, Bool.and_eq_true, Bool.not_eq_true', Bool.and_eq_false_iff, decide_eq_true_eq, decide_eq_false_iff_not, Bool.or_eq_true] at h
    cases top <;> simp at h ⊢ <;> omega

set_option maxHeartbeats 2000000 in
set_option maxRecDepth 100000 in
theorem impl_wellFilled (g n m c d : Nat) (A K : Option Addr) (top : Bool) (w : World) (h0 : w.cell? ⟨g, 0, none⟩ = some (.slice A n c)) (h1 : w.cell? ⟨g, 1, none⟩ = some (.slice K m d)) (hn : n ≤ 9000000) (hm : m ≤ 9000000) :
    Calls Try.prog 140 #[.pointer (some ⟨g, 0, none⟩), .bool top] w fun e w' => e = .returned (.bool (fillB top n m)) ∧ Drawn w w' := by
  rcases fill_ways top n m with ⟨a1, a2, hf⟩ | ⟨a1, hw⟩
  · have HF := hid hf
    clear hf
    go_enter Try.func140, Try.ntmps140
    go_wp2_with fail
    go_ret
    exact ⟨ret_bool HF.out.symm, Drawn.refl _⟩
  · rcases hw with ⟨a2, hf⟩ | ⟨a2, a3, hf⟩ | ⟨a2, a3, hw⟩
    · have HF := hid hf
      clear hf
      rcases a1 with a1 | ⟨a0, a1⟩
      all_goals
        go_enter Try.func140, Try.ntmps140
        go_wp2_with fail
        refine (impl_size g n m c d A K _ h0 h1 hn hm).mono ?_
        rintro e w1 ⟨rfl, q, rfl⟩
        go_wp2_with fail
        go_ret
        exact ⟨ret_bool HF.out.symm, (Drawn.refl _).drewN _⟩
    · have HF := hid hf
      have g3 := eq1_true a3
      clear hf a3
      rcases a1 with a1 | ⟨a0, a1⟩
      all_goals
        go_enter Try.func140, Try.ntmps140
        go_wp2_with fail
        refine (impl_size g n m c d A K _ h0 h1 hn hm).mono ?_
        rintro e w1 ⟨rfl, q, rfl⟩
        go_wp2_with fail
        go_ret
        exact ⟨ret_bool HF.out.symm, (Drawn.refl _).drewN _⟩
    · have g3 := eq1_false a3
      clear a3
      rcases hw with ⟨rfl, hf⟩ | ⟨rfl, hf⟩
      · have HF := hid hf
        clear hf
        rcases a1 with a1 | ⟨a0, a1⟩
        all_goals
          go_enter Try.func140, Try.ntmps140
          go_wp2_with fail
          refine (impl_size g n m c d A K _ h0 h1 hn hm).mono ?_
          rintro e w1 ⟨rfl, q, rfl⟩
          go_wp2_with fail
          go_ret
          exact ⟨ret_bool HF.out.symm, (Drawn.refl _).drewN _⟩
      · have HF := hid hf
        clear hf
        have HD : Hid (decide ((2 : Int) ≤ (n : Int) + (m : Int)) = decide (2 ≤ n + m)) := by
          rw [Hid, decide_eq_decide]
          omega
        rcases a1 with a1 | ⟨a0, a1⟩
        all_goals
          go_enter Try.func140, Try.ntmps140
          go_wp2_with fail
          refine (impl_size g n m c d A K _ h0 h1 hn hm).mono ?_
          rintro e w1 ⟨rfl, q, rfl⟩
          have k0 : (w.drewN q).cell? ⟨g, 0, none⟩ = some (.slice A n c) := h0
          have k1 : (w.drewN q).cell? ⟨g, 1, none⟩ = some (.slice K m d) := h1
          go_wp2_with fail
          refine (impl_size g n m c d A K _ k0 k1 hn hm).mono ?_
          rintro e w2 ⟨rfl, q2, rfl⟩
          go_wp2_with fail
          go_ret
          exact ⟨ret_bool (HD.out.trans HF.out.symm), (Drawn.refl _).drewN _⟩

set_option maxHeartbeats 1000000 in
set_option maxRecDepth 100000 in
theorem impl_height (t : BT) (R S : Nat → Prop) (g : Nat) (w : World) (hz : szT t ≤ 1000) (ho : OT w R S g t) :
    Calls Try.prog 97 #[.pointer (some ⟨g, 0, none⟩)] w fun e w' => e = .returned (.int .i64 (highT t : Int)) ∧ w = w' := by
  have hhi := (deep_sz _ t (Nat.le_refl _)).2.1
  have HO := hid ho
  clear ho
  go_enter Try.func97, Try.ntmps97
  go_wp2_with fail
  go_loop [0, 3] (fun b l => ∃ (g' L : Nat) (t' : BT) (S' : Nat → Prop), b = .pointer (some ⟨g', 0, none⟩) ∧ l = .int .i64 L ∧ OT w R S' g' t' ∧ 1 ≤ L ∧ Hid (highT t' + L = highT t + 1)) (fun _ l => highT t + 1 - (intOf l).toNat)
  case atStart => exact ⟨g, 1, t, S, rfl, by go_num, HO.out, Nat.le_refl _, rfl⟩
  case round =>
    obtain ⟨g', L, ⟨ps, ks⟩, S', rfl, rfl, ho, hL1, HH⟩ := hrel
    obtain ⟨A, K, c, d, c0, c1, _, hk⟩ := ho.open_
    by_cases hlt : 0 < ks.length
    · obtain ⟨b, gk, Sk, rfl, _, ck, _, _, hok⟩ := hk 0 hlt
      have HOK := hid hok
      have HL : Hid (highT ks[0] + (L + 1) = highT t + 1 ∧ L + 1 ≤ highT t) := by
        have h := HH.out
        match ks, hlt with
        | k0 :: r, _ =>
          have := (deep_sz _ k0 (Nat.le_refl _)).2.2
          simp only [highT, highK, highOf] at h
          simp only [List.getElem_cons_zero]
          exact ⟨by omega, by omega⟩
      have hLb : L ≤ 1000 := by have := HL.out.2; omega
      have e6 : (0 : Int) < (ks.length : Int) := by omega
      unfold ptr at ck
      clear hk ho hok
      go_wp2_with fail
      go_round
      case rel => exact ⟨gk, L + 1, ks[0], Sk, rfl, by go_num, HOK.out, by omega, HL.out.1⟩
      case measure => simp [intOf]; have := HL.out.2; omega
    · obtain rfl : ks = [] := List.eq_nil_of_length_eq_zero (by omega)
      have HL : Hid ((L : Int) = (highT t : Int)) := by
        have h := HH.out
        simp only [highT, highK, highOf] at h
        unfold Hid
        omega
      clear hk ho
      go_wp2_with fail
      go_ret
      exact ⟨ret_i HL.out, rfl⟩

theorem belowK_bad {ks : List BT} {lv : Int} {k : Nat} (hk : k < ks.length) (h : belowT ks[k] false lv = false) : belowK ks lv = false := by
  rw [Bool.eq_false_iff]
  intro h'
  have := belowK_at.1 h' k hk
  rw [h] at this
  cases this
def belowTo (ks : List BT) (lv : Int) (k : Nat) : Prop := ∀ (i : Nat) (hi : i < ks.length), i < k → belowT ks[i] false lv = true
theorem belowTo_succ {ks : List BT} {lv : Int} {k : Nat} (h : belowTo ks lv k) (hk : k < ks.length) (he : belowT ks[k] false lv = true) : belowTo ks lv (k + 1) := by
  intro i hi hlt
  by_cases e : i = k
  · subst e
    exact he
  · exact h i hi (by omega)
/-- A closure that captures two variables. -/
def fun2 (f : FuncId) (x y : Nat) : Value := .func (.func f) #[] #[.pointer (some ⟨x, 0, none⟩), .pointer (some ⟨y, 0, none⟩)]
theorem OT.drawn {w w' : World} {R S : Nat → Prop} {g : Nat} {t : BT} (h : OT w R S g t) (hd : Drawn w w') : OT w' R S g t := by
  obtain ⟨m, rfl⟩ := hd
  exact h.keep (fun _ _ => rfl) (fun _ h => h)
theorem Drawn.cell {w w' : World} (hd : Drawn w w') (a : Addr) : w'.cell? a = w.cell? a := by
  obtain ⟨m, rfl⟩ := hd
  rfl
theorem Drawn.trans {a b c : World} (h : Drawn a b) (h' : Drawn b c) : Drawn a c := by
  obtain ⟨m, rfl⟩ := h
  obtain ⟨k, rfl⟩ := h'
  exact ⟨m + k, World.drewN_drewN _ _ _⟩

theorem run_eql_ptr_same {P : Program} (w : World) {t te : TypeId} {j : TypeInfo} (a : Addr) (ht : P.underlying t = some (.pointer te)) (hte : P.info? te = some j) :
    (binOp .eql t (.pointer (some a)) (.pointer (some a))).run P w = .ok (.bool true) w := by
  have h : ∀ d : Nat, (Op.equalIn (d + 1) t (.pointer (some a)) (.pointer (some a))).run P w = .ok true w := fun d => by
    simp [Op.equalIn, run_underlying ht, typeInfo, sizeOf, run_sameAddr_same, hte]
  simp only [binOp]
  simp [Op.equal, Op.maxDepth, h 9999]
theorem run_eql_ptr_other {P : Program} (w : World) {t te : TypeId} {j : TypeInfo} {a b : Addr} {ca cb : Array Value} {ta tb : TypeId} (ht : P.underlying t = some (.pointer te)) (hte : P.info? te = some j) (hsz : j.size ≠ 0)
    (hne : a ≠ b) (ha : w.heap[a.block]? = some (.cells ca ta (0, 0))) (hb : w.heap[b.block]? = some (.cells cb tb (0, 0))) :
    (binOp .eql t (.pointer (some a)) (.pointer (some b))).run P w = .ok (.bool false) w := by
  have h : ∀ d : Nat, (Op.equalIn (d + 1) t (.pointer (some a)) (.pointer (some b))).run P w = .ok false w := fun d => by
    simp [Op.equalIn, run_underlying ht, typeInfo, sizeOf, hte, hsz, run_sameAddr_other w hne ha hb]
  simp only [binOp]
  simp [Op.equal, Op.maxDepth, h 9999]
theorem branchInfo : (Try.prog.info? 121).map (fun i => (i.zero, i.size, i.bytes)) = some (some (.agg #[.slice none 0 0, .slice none 0 0]), 2, 48) := by kernel_rfl
theorem OT.block {w : World} {R S : Nat → Prop} {g : Nat} {t : BT} (h : OT w R S g t) : ∃ cs, w.heap[g]? = some (.cells cs 121 (0, 0)) := by
  cases h with
  | node F G hg hh hp hr hb hd hk => exact ⟨_, hh⟩
/-- Two branches held against each other. -/
theorem eql_branch (w : World) {g root : Nat} (hg : ∃ cs, w.heap[g]? = some (.cells cs 121 (0, 0))) (hr : ∃ cs, w.heap[root]? = some (.cells cs 121 (0, 0))) :
    (binOp .eql 71 (.pointer (some ⟨g, 0, none⟩)) (.pointer (some ⟨root, 0, none⟩))).run Try.prog w = .ok (.bool (decide (g = root))) w := by
  obtain ⟨i0, hi0, _, hz1, _⟩ := info_parts branchInfo
  obtain ⟨c1, h1⟩ := hg
  obtain ⟨c2, h2⟩ := hr
  by_cases e : g = root
  · subst e
    rw [run_eql_ptr_same w _ Try.underlying71 hi0]
    simp
  · rw [run_eql_ptr_other w Try.underlying71 hi0 (by omega) (fun h => e (by injection h)) h1 h2]
    simp [e]

set_option maxHeartbeats 4000000 in
set_option maxRecDepth 100000 in
theorem impl_below (gb gf root : Nat) (R : Nat → Prop) : ∀ (n : Nat) (t : BT) (lv : Int) (S : Nat → Prop) (g : Nat) (w : World), szT t ≤ n → n ≤ 1000 → smT t → -5000 + (n : Int) ≤ lv → lv ≤ 5000 → OT w R S g t → (∀ b, S b → g ≠ root → b ≠ root) → (∃ cs, w.heap[root]? = some (.cells cs 121 (0, 0))) →
    w.cell? ⟨gb, 0, none⟩ = some (.pointer (some ⟨root, 0, none⟩)) → w.cell? ⟨gf, 0, none⟩ = some (fun2 139 gb gf) →
    Calls Try.prog 139 #[.pointer (some ⟨g, 0, none⟩), .int .i64 lv, .pointer (some ⟨gb, 0, none⟩), .pointer (some ⟨gf, 0, none⟩)] w fun e w' => e = .returned (.bool (belowT t (decide (g = root)) lv)) ∧ Drawn w w'
  | 0, t, _, _, _, _, h, _, _, _, _, _, _, _, _, _ => by have := szT_pos t; omega
  | n + 1, .node ps ks, lv, S, g, w, hn, hn2, hsm, hlv, hlv2, ho, hroot, hrb, hb, hf => by
    simp only [smT] at hsm
    obtain ⟨hp, hsk⟩ := hsm
    have IH := hid (impl_below gb gf root R n)
    have hkl : ks.length ≤ 1000 := by have := kids_len ks; simp only [szT] at hn; omega
    obtain ⟨A, K, c, d, c0, c1, _, hk⟩ := ho.open_
    have heq := eql_branch w ho.block hrb
    have HK := hid hk
    have HRT : Hid (∀ (b : Nat) (Sk : Nat → Prop), (∀ x, Sk x → S x) → ¬ Sk g → Sk b → b ≠ root) := fun b Sk h1 h2 h3 => by
      by_cases e : g = root
      · subst e
        rintro rfl
        exact h2 h3
      · exact hroot b (h1 b h3) e
    have HSM := hid (smK_at hsk)
    have HSK : Hid (∀ k (hk : k < ks.length), szT ks[k] ≤ n) := fun k hk => by have := sz_kid (ps := ps) hk; omega
    have HBAD := hid (fun k (hk : k < ks.length) h => @belowK_bad ks (lv - 1) k hk h)
    have HEQ : Hid (belowT (.node ps ks) (decide (g = root)) lv = (fillB (decide (g = root)) ps.length ks.length && (if ks.length = 0 then decide (lv = 1) else belowK ks (lv - 1)))) := by rw [Hid, belowT]
    have HRB := hid hrb
    clear hk hroot hsk hn ho hrb
    have htop : ∃ top, top = decide (g = root) := ⟨_, rfl⟩
    obtain ⟨top, htop⟩ := htop
    rw [← htop] at HEQ heq ⊢
    clear htop
    have HF := hid hf
    have HGB := hid hb
    cases hfill : fillB top ps.length ks.length
    · have HE : Hid (belowT (.node ps ks) top lv = false) := by rw [Hid, HEQ.out, hfill]; rfl
      go_enter Try.func139, Try.ntmps139
      go_wp2_with fail
      refine (impl_wellFilled g ps.length ks.length c d A K top _ c0 c1 (by omega) (by omega)).mono ?_
      rintro e w1 ⟨rfl, q, rfl⟩
      go_wp2_with fail
      go_ret
      exact ⟨ret_bool HE.out.symm, (Drawn.refl _).drewN _⟩
    · by_cases hz : ks.length = 0
      · have HE : Hid (belowT (.node ps ks) top lv = decide (lv = 1)) := by rw [Hid, HEQ.out, hfill, if_pos hz]; rfl
        have g0 := eq0_true hz
        have hlv1 : (lv == 1) = decide (lv = 1) := by rw [Bool.eq_iff_iff]; simp
        have HL := hid hlv1
        clear hz hlv1
        go_enter Try.func139, Try.ntmps139
        go_wp2_with fail
        refine (impl_wellFilled g ps.length ks.length c d A K top _ c0 c1 (by omega) (by omega)).mono ?_
        rintro e w1 ⟨rfl, q, rfl⟩
        go_wp2_with fail
        go_ret
        exact ⟨ret_bool (HL.out.trans HE.out.symm), (Drawn.refl _).drewN _⟩
      · have HE : Hid (belowT (.node ps ks) top lv = belowK ks (lv - 1)) := by rw [Hid, HEQ.out, hfill, if_neg hz]; rfl
        have g0 := eq0_false hz
        clear hz
        go_enter Try.func139, Try.ntmps139
        go_wp2_with fail
        refine (impl_wellFilled g ps.length ks.length c d A K top _ c0 c1 (by omega) (by omega)).mono ?_
        rintro e w1 ⟨rfl, q, rfl⟩
        clear heq
        go_wp2_with fail
        go_loopw [28] (fun i wr => ∃ k : Nat, k ≤ ks.length ∧ i = .int .i64 k ∧ belowTo ks (lv - 1) k ∧ Drawn w wr) (fun i _ => ks.length - (intOf i).toNat)
        case atStart => exact ⟨0, Nat.zero_le _, rfl, fun i hi h => absurd h (by omega), (Drawn.refl _).drewN _⟩
        case round =>
          obtain ⟨k, hk, rfl, hto, hdr⟩ := hrel
          have hf' := (hdr.cell ⟨gf, 0, none⟩).trans HF.out
          unfold fun2 at hf'
          have HD := hid hdr
          have HTO := hid hto
          by_cases hlt : k < ks.length
          · obtain ⟨b, gk, Sk, rfl, _, ck, hsub, hng, hok⟩ := HK.out k hlt
            have ck' := (hdr.cell ⟨b, k, none⟩).trans ck
            unfold ptr at ck'
            have HOK := hid (hok.drawn hdr)
            have hgk : gk ≠ root := HRT.out gk Sk hsub hng hok.in_
            have hdk : decide (gk = root) = false := by simp [hgk]
            have hsb : ∀ b', Sk b' → gk ≠ root → b' ≠ root := fun b' h _ => HRT.out b' Sk hsub hng h
            have HSB := hid hsb
            have e5 : (0 : Int) ≤ (k : Int) := by omega
            have e6 : (k : Int) < (ks.length : Int) := by omega
            have HRB2 : Hid (∃ cs, wr.heap[root]? = some (.cells cs 121 (0, 0))) := by
              obtain ⟨m, rfl⟩ := hdr
              exact HRB.out
            have hih := IH.out ks[k] (lv - 1) Sk gk wr (HSK.out k hlt) (by omega) (HSM.out k hlt) (by omega) (by omega) HOK.out HSB.out HRB2.out ((hdr.cell ⟨gb, 0, none⟩).trans HGB.out) ((hdr.cell ⟨gf, 0, none⟩).trans HF.out)
            rw [hdk] at hih
            have HIH := hid hih
            clear hto hdr hok hsub hng hgk hdk hsb ck hih
            cases hbk : belowT ks[k] false (lv - 1)
            · have HE2 := hid (HBAD.out k hlt hbk)
              go_wp2_with fail
              refine HIH.out.mono ?_
              rintro e w2 ⟨rfl, hd2⟩
              have HD2 := hid (HD.out.trans hd2)
              clear hd2 ck' hf'
              rw [hbk]
              go_wp2_with fail
              go_ret
              exact ⟨ret_bool (HE.out.trans HE2.out).symm, HD2.out⟩
            · go_wp2_with fail
              refine HIH.out.mono ?_
              rintro e w2 ⟨rfl, hd2⟩
              have HD2 := hid (HD.out.trans hd2)
              clear hd2 ck' hf'
              rw [hbk]
              go_wp2_with fail
              go_roundw
              case rel => exact ⟨k + 1, by omega, by go_num, belowTo_succ HTO.out hlt hbk, HD2.out⟩
              case measure => simp [intOf]; omega
          · obtain rfl : k = ks.length := by omega
            have HE2 : Hid (belowK ks (lv - 1) = true) := belowK_at.2 fun i hi => hto i hi hi
            clear hto hdr hf'
            go_wp2_with fail
            go_ret
            exact ⟨ret_bool (HE.out.trans HE2.out).symm, HD.out⟩
end Go.Proofs.Ytcjbjfhndjpmcaa
