/-
  ScanDown of both: contracts.
-/
import Derived.Test.YtaiehccpefjbfabScanC
namespace Go.Proofs.Ytaiehccpefjbfab
open Go.RowKit Go.Shelf

attribute [local go_sem] Oper.semAt_some

set_option maxHeartbeats 8000000 in
set_option maxRecDepth 100000 in
theorem any_AppendSeq (tb n₀ : Nat) (A : Option Addr) (c : Nat) (ns : List ND) (lo hi : ByteArray) (w : World) (hn : n₀ ≤ w.heap.size) (hr : RN w n₀ A ns) (hf : FitsN ns) (hs : SmallN ns) (hl : ns.length ≤ 1048576)
    (h0 : One w tb (.slice A ns.length c) 28) (h1 : One w (tb + 1) (.string lo) 9) (h2 : One w (tb + 1 + 1) (.string hi) 9) :
    Calls Try.prog 65 #[.slice none 0 0, .func (.func 64) #[] #[.pointer (some ⟨tb, 0, none⟩), .pointer (some ⟨tb + 1 + 1, 0, none⟩), .pointer (some ⟨tb + 1, 0, none⟩)]] w (Made w w.heap.size (rangeL (pairsOf ns) lo hi)) := by
  obtain ⟨i0, hi0, hz0, hz1, hz2⟩ := info_parts pairInfo
  obtain ⟨W0, hW0⟩ : ∃ W0, w.alloc (.cells #[.slice none 0 0] 36) = W0 := ⟨_, rfl⟩
  have hb0 : Below w.heap.size w W0 := by rw [← hW0]; exact (Below.refl _ _).alloc (Nat.le_refl _) _
  have hsz : W0.heap.size = w.heap.size + 1 := by rw [← hW0]; simp
  have p3 : One W0 w.heap.size (.slice none 0 0) 36 := by rw [← hW0]; exact One.new _ _ _
  have hseq := inRange_seq tb n₀ A c ns lo hi W0 (by omega) (hr.below (hb0.mono hn)) hf hs hl (h0.below hb0) (h1.below hb0) (h2.below hb0)
  have hcap : Hid ((pairsOf ns).length ≤ 400) := (pairsOf_rise hs hf).1
  have hlt := h2.lt
  refine callsIn_wide (n := 3) |>.1 ?_
  refine callsIn_of_wp_marks Try.func65 rfl trivial ?_ rfl
  simp only [Try.ntmps65, List.size_toArray, List.length_cons, List.length_nil, Nat.reduceAdd, Nat.reduceSub, Array.replicate_succ, Array.replicate_zero, List.push_toArray, List.append_toArray, List.nil_append, List.cons_append]
  gi_wp2
  try rw [hW0]
  clear hW0
  refine wpIn_rangeFunc_X (gf := 64) (lb := #[.pointer (some ⟨tb, 0, none⟩), .pointer (some ⟨tb + 1 + 1, 0, none⟩), .pointer (some ⟨tb + 1, 0, none⟩)]) (by first | rfl | simp [go_sem]) (enters_of Try.func64 (by kernel_rfl) rfl) hseq (Below.refl _ _) (by omega) (fun k hk => by omega) (fun _ => rfl)
    (fun h pre V => Below w.heap.size w V ∧ ∃ A' c', One V w.heap.size (.slice A' pre.length c') 36 ∧ OwnP V h A' c' pre ∧ (pre = [] → A' = none ∧ c' = 0))
    (fun _ _ _ _ => False)
    (fun h pre X Y row hs hg hr => by
      obtain ⟨h1, A', c', h6, h7, h8⟩ := hs
      exact ⟨below_abx h1 (Nat.le_refl _) (by omega) hg hr, A', c', h6.abx (by omega) hg hr, h7.abx hg hr, h8⟩)
    (fun cd h pre X Y row hs hg hr => hs.elim)
    (fun h V hh hs hV => by
      obtain ⟨h1, A', c', h6, h7, h8⟩ := hs
      obtain ⟨rfl, rfl⟩ := h8 rfl
      exact ⟨h1, none, 0, h6, OwnP.nil_ _ _, fun _ => ⟨rfl, rfl⟩⟩)
    ⟨hb0, none, 0, by simpa using p3, OwnP.nil_ _ _, fun _ => ⟨rfl, rfl⟩⟩
    (fun h pre x a' V => ∃ b, h ≤ b ∧ Two V b 25 (.string x.1) (.string x.2) ∧ a' = { tmps := #[.slice none 0 0, .func (.func 64) #[] #[.pointer (some ⟨tb, 0, none⟩), .pointer (some ⟨tb + 1 + 1, 0, none⟩), .pointer (some ⟨tb + 1, 0, none⟩)], .pointer (some ⟨w.heap.size, 0, none⟩), undef, .slice none 0 0, .pointer (some ⟨b, 0, none⟩), .func (.func 64) #[] #[.pointer (some ⟨tb, 0, none⟩), .pointer (some ⟨tb + 1 + 1, 0, none⟩), .pointer (some ⟨tb + 1, 0, none⟩)], .agg #[.string x.1, .string x.2], undef, undef, undef, undef, undef], defers := [] } ∧
      Below w.heap.size w V ∧ ∃ A' c', One V w.heap.size (.slice A' pre.length c') 36 ∧ OwnP V h A' c' pre ∧ (pre = [] → A' = none ∧ c' = 0))
    (fun x a' h pre X Y row hs hg hr => by
      obtain ⟨b, g1, g2, g3, h1, A', c', h6, h7, h8⟩ := hs
      exact ⟨b, g1, g2.abx (.inr g1) hg hr, g3, below_abx h1 (Nat.le_refl _) (by omega) hg hr, A', c', h6.abx (by omega) hg hr, h7.abx hg hr, h8⟩)
    ?assign ?body ?done ?stop
  case assign =>
    rintro l0 m h pre x V K hh hhV ⟨h1, A', c', h6, h7, h8⟩ _ hK
    simp only [encP]
    gi_wp2
    have hbx : Below V.heap.size V (V.alloc (.cells #[.string x.1, .string x.2] 25)) := (Below.refl _ _).alloc (Nat.le_refl _) _
    refine hK _ _ ((KeptX.refl _ _ _ _).alloc (by omega) hhV _) (fun k hk => Below.heap_alloc _ _ _ (by omega)) ⟨V.heap.size, hhV, Two.new _ _ _ _, rfl, h1.alloc (by omega) _, A', c', h6.below hbx, h7.below hbx, h8⟩
  case body =>
    rintro l0 m h pre x a' V hh hhV ⟨b, g1, g2, rfl, h1, A', c', h6, h7, h8⟩ hlen
    have q0 := g2.c0
    have q1 := g2.c1
    have c6 := h6.c
    have z6 := h6.fz
    have H1 := hid h1
    have H6 := hid h6
    have H7 := hid h7
    have HL : Hid (pre.length ≤ 400) := by have := hcap.out; rw [Hid]; omega
    clear g2 h1 h6 h7 h8 hlen hseq p3 hb0 hr hf hs h0 h2
    gi_wp2_with (gi_at_builtin; refine wpListIn_append_rp _ rfl _ _ _ rfl i0 Try.underlying36 hi0 hz0 hz1 hz2 h A' _ c' pre rfl rfl (H7.out.below ((Below.refl _ _).alloc (Nat.le_refl _) _)) _ _ _ _ [x] rfl rfl (RP.new _ x _) (by have := HL.out; simp; omega) (by simp; omega) ?_; intro A2 n2 c2' w2 hn2 ho2 hb2; have HN2 := hid hn2; have HO2 := hid ho2; have HB2 := hid (((Below.refl h V).alloc hhV _).trans hb2); have d6 := (H6.out.belowB HB2.out (by omega)).c; have e6 := (H6.out.belowB HB2.out (by omega)).fz; clear hn2 ho2 hb2)
    have hw2 : KeptX n₀ W0.heap.size h V w2 := ⟨HB2.out.mono (by omega), fun k _ hk => HB2.out.block k hk⟩
    refine ⟨⟨hw2.set (by omega) (.inl (by omega)) _, fun k hk => (Below.heap_setCell _ _ _ _ (by show k ≠ w.heap.size; omega)).trans (HB2.out.block k (by omega))⟩, (H1.out.trans (HB2.out.mono (by omega))).setCell (p := ⟨w.heap.size, 0, none⟩) (Nat.le_refl _) _,
      A2, c2', ?_, HO2.out.set_lo (by omega) _, fun e => absurd e (by simp)⟩
    have := (H6.out.belowB HB2.out (by omega)).set (.slice A2 n2 c2')
    rw [HN2.out] at this
    rw [HN2.out]
    exact this
  case done =>
    rintro D h xs V hD hDh rfl ⟨h1, A', c', h6, h7, h8⟩ hK
    have c6 := h6.c
    have H1 := hid h1
    have H7 := hid h7
    have HD := hid hD
    have HDH := hid hDh
    have HK := hid hK
    have HSZ := hid hsz
    clear h1 h6 h7 h8 hseq p3 hb0 hr hf hs hD hDh hsz h0 h2
    gi_wp2
    refine ⟨by simp, .inl ⟨_, _, rfl, run_takeDeferred HK.out, ?_⟩⟩
    have k3 : OwnP (V.putObj D (.deferred none)) h A' c' (rangeL (pairsOf ns) lo hi) := ownsRow_keep H7.out fun k hk => World.putObj_heap_other (by have h3 := (H7.out.size k hk).1; have := HDH.out; omega)
    exact ⟨_, results_tmp rfl _ _ _, A', c', rfl, OwnP.mono' k3 (by have := HDH.out; have := HD.out; have := HSZ.out; omega), below_end H1.out HK.out (by have := HD.out; have := HSZ.out; omega)⟩
  case stop =>
    rintro D h cd pre V hD hDh hSp hx hK
    exact hx.elim

set_option maxHeartbeats 1000000 in
set_option maxRecDepth 100000 in
theorem any_Collect (tb n₀ : Nat) (A : Option Addr) (c : Nat) (ns : List ND) (lo hi : ByteArray) (w : World) (hn : n₀ ≤ w.heap.size) (hr : RN w n₀ A ns) (hf : FitsN ns) (hs : SmallN ns) (hl : ns.length ≤ 1048576)
    (h0 : One w tb (.slice A ns.length c) 28) (h1 : One w (tb + 1) (.string lo) 9) (h2 : One w (tb + 1 + 1) (.string hi) 9) :
    Calls Try.prog 50 #[.func (.func 64) #[] #[.pointer (some ⟨tb, 0, none⟩), .pointer (some ⟨tb + 1 + 1, 0, none⟩), .pointer (some ⟨tb + 1, 0, none⟩)]] w (Made w w.heap.size (rangeL (pairsOf ns) lo hi)) := by
  have HC := hid (any_AppendSeq tb n₀ A c ns lo hi w hn hr hf hs hl h0 h1 h2)
  clear hr hf hs h0 h1 h2
  go_enter Try.func50, Try.ntmps50
  go_wp2_with fail
  refine HC.out.mono ?_
  rintro e w3 ⟨A3, c3, rfl, ho3, hb3⟩
  have HO3 := hid ho3
  have HB3 := hid hb3
  clear ho3 hb3
  go_wp2_with fail
  go_ret
  exact ⟨A3, c3, rfl, HO3.out, HB3.out⟩

/-! ### turning a list round in place -/
def swapAt (L : PS) (i j : Nat) (p q : BB) : PS := (L.set i q).set j p
theorem pcells_set : ∀ (L : PS) (i : Nat) (p : BB), pcells (L.set i p) = ((pcells L).set (i * 2) (.string p.1)).set (i * 2 + 1) (.string p.2)
  | [], i, p => by simp [pcells]
  | x :: L, 0, p => by simp [pcells]
  | x :: L, i + 1, p => by
    have := pcells_set L i p
    simp only [pcells, List.set_cons_succ] at *
    rw [show (i + 1) * 2 = i * 2 + 1 + 1 by omega]
    simp only [List.set_cons_succ] at *
    rw [this]
theorem OwnP.setP {w : World} {B g c : Nat} {L : PS} (h : OwnP w B (some ⟨g, 0, none⟩) c L) (i : Nat) (p : BB) : OwnP ((w.setCell ⟨g, i * 2, none⟩ (.string p.1)).setCell ⟨g, i * 2 + 1, none⟩ (.string p.2)) B (some ⟨g, 0, none⟩) c (L.set i p) := by
  unfold OwnP at *
  rw [pcells_set, List.length_set]
  exact ((h.stored (i * 2) (.string p.1)).1.stored (i * 2 + 1) (.string p.2)).1
/-- The first k and the last k have changed places. -/
def turned (L : PS) (k : Nat) : PS := (List.range L.length).map fun q => if q < k ∨ L.length ≤ q + k then L[L.length - 1 - q]! else L[q]!
theorem turned_len (L : PS) (k : Nat) : (turned L k).length = L.length := by simp [turned]
theorem turned_at {L : PS} {k q : Nat} (h : q < L.length) : (turned L k)[q]'(by rw [turned_len]; exact h) = if q < k ∨ L.length ≤ q + k then L[L.length - 1 - q]'(by omega) else L[q] := by
  simp only [turned, List.getElem_map, List.getElem_range]
  split
  · rw [getElem!_pos L _ (by omega)]
  · rw [getElem!_pos L _ h]
theorem turned_zero (L : PS) : turned L 0 = L := by
  refine List.ext_getElem (turned_len L 0) (fun q h1 h2 => ?_)
  rw [turned_at h2, if_neg (by omega)]
theorem turned_end {L : PS} {k : Nat} (h : L.length ≤ 2 * k + 1) (h2 : 2 * k ≤ L.length) : turned L k = L.reverse := by
  refine List.ext_getElem (by rw [turned_len, List.length_reverse]) (fun q h1 h2 => ?_)
  rw [turned_len] at h1
  rw [turned_at h1, List.getElem_reverse]
  split
  · rfl
  · congr 1
    omega
theorem turned_step {L : PS} {k : Nat} (h : 2 * k + 1 < L.length) : swapAt (turned L k) k (L.length - 1 - k) ((turned L k)[k]'(by rw [turned_len]; omega)) ((turned L k)[L.length - 1 - k]'(by rw [turned_len]; omega)) = turned L (k + 1) := by
  refine List.ext_getElem (by simp [swapAt, turned_len]) (fun q h1 h2 => ?_)
  rw [turned_len] at h2
  rw [turned_at h2]
  simp only [swapAt]
  rw [List.getElem_set]
  split
  · subst q
    rw [turned_at (by omega), if_neg (by omega), if_pos (by omega)]
    congr 1
    omega
  · rw [List.getElem_set]
    split
    · subst q
      rw [turned_at (by omega), if_neg (by omega), if_pos (by omega)]
    · rw [turned_at h2]
      by_cases hc : q < k ∨ L.length ≤ q + k
      · rw [if_pos hc, if_pos (by omega)]
      · rw [if_neg hc, if_neg (by omega)]
def downL (L : PS) (most : Int) : PS := if most < 0 then [] else L.reverse.take most.toNat
theorem downL_len (L : PS) (most : Int) : (downL L most).length ≤ L.length := by
  rw [downL]
  split
  · simp
  · simp; omega

set_option maxHeartbeats 4000000 in
set_option maxRecDepth 100000 in
theorem any_Reverse (B : Nat) (A : Option Addr) (c : Nat) (L : PS) (w : World) (ho : OwnP w B A c L) (hl : L.length ≤ 4000) :
    Calls Try.prog 51 #[.slice A L.length c] w fun e w' => e = .returned (.tuple #[]) ∧ OwnP w' B A c L.reverse ∧ Below B w w' := by
  have HO := hid ho
  clear ho
  go_enter Try.func51, Try.ntmps51
  go_wp2_with fail
  go_loopw [2, 3] (fun i j wr => ∃ k : Nat, 2 * k ≤ L.length ∧ i = .int .i64 k ∧ j = .int .i64 ((L.length : Int) - 1 - k) ∧ OwnP wr B A c (turned L k) ∧ Below B w wr) (fun i j _ => (intOf j - intOf i + 1).toNat)
  case atStart => exact ⟨0, by omega, rfl, by simp, by rw [turned_zero]; exact HO.out, Below.refl _ _⟩
  case round =>
    obtain ⟨k, hk, rfl, rfl, ho', hb'⟩ := hrel
    have HB' := hid hb'
    have HO' := hid ho'
    clear ho' hb'
    by_cases hlt : 2 * k + 1 < L.length
    · obtain ⟨m, hm⟩ : ∃ m : Nat, m = L.length - 1 - k := ⟨_, rfl⟩
      have hmi : (L.length : Int) - 1 - k = (m : Int) := by omega
      rw [hmi]
      have hk1 : k < (turned L k).length := by rw [turned_len]; omega
      have hm1 : m < (turned L k).length := by rw [turned_len]; omega
      obtain ⟨g, rfl⟩ : ∃ g, A = some ⟨g, 0, none⟩ := by
        rcases HO'.out.2 with ⟨hv, hn⟩ | ⟨g, cap, cur, hv, _⟩
        · rw [turned_len] at hn; omega
        · injection hv with hA; exact ⟨g, hA⟩
      have HST : Hid (swapAt (turned L k) k m (turned L k)[k] (turned L k)[m] = turned L (k + 1)) := by subst hm; exact turned_step hlt
      have hgB := HO'.out.size g rfl
      have hfz : ∀ j, wr.frozen? ⟨g, j, none⟩ = false := fun j => by
        rcases HO'.out.2 with ⟨hv, hn⟩ | ⟨g', cap, cur, hv, _, hh, _⟩
        · cases hv
        · injection hv with hA
          injection hA with hA
          injection hA with hA
          subst hA
          simp [World.frozen?, hh]
      obtain ⟨b, off, eA, hb, k1, k2⟩ := HO'.out.rp.at_ hk1
      injection eA with eA
      injection eA with e1 e2
      subst e1 e2
      obtain ⟨b, off, eA, hb', m1, m2⟩ := HO'.out.rp.at_ hm1
      injection eA with eA
      injection eA with e1 e2
      subst e1 e2
      simp only [Nat.zero_add] at k1 k2 m1 m2
      generalize hp : (turned L k)[k] = p at *
      generalize hq : (turned L k)[m] = q at *
      have f0 := hfz (k * 2)
      have f1 := hfz (k * 2 + 1)
      have f2 := hfz (m * 2)
      have f3 := hfz (m * 2 + 1)
      have e5 : (0 : Int) ≤ (k : Int) := by omega
      have e6 : (k : Int) < (L.length : Int) := by omega
      have e7 : (0 : Int) ≤ (m : Int) := by omega
      have e8 : (m : Int) < (L.length : Int) := by omega
      have hkm : k < m := by omega
      have g0 : decide ((k : Int) < (m : Int)) = true := by rw [decide_eq_true_eq]; omega
      have hd1 : k * 2 ≠ m * 2 := by omega
      have hd2 : k * 2 ≠ m * 2 + 1 := by omega
      have hd3 : k * 2 + 1 ≠ m * 2 := by omega
      have hd4 : k * 2 + 1 ≠ m * 2 + 1 := by omega
      have HM := hid hm
      have HK := hid hk
      have HLT := hid hlt
      clear hfz hm hmi hp hq hk1 hm1 hk hlt
      go_wp2_with fail
      go_region
      go_wp2_with fail
      have ho2 := (HO'.out.setP k q).setP m p
      rw [show ((turned L k).set k q).set m p = turned L (k + 1) from HST.out] at ho2
      have hb2 : Below B w ((((wr.setCell ⟨g, k * 2, none⟩ (.string q.1)).setCell ⟨g, k * 2 + 1, none⟩ (.string q.2)).setCell ⟨g, m * 2, none⟩ (.string p.1)).setCell ⟨g, m * 2 + 1, none⟩ (.string p.2)) := (((HB'.out.setCell (p := ⟨g, k * 2, none⟩) hgB.1 _).setCell (p := ⟨g, k * 2 + 1, none⟩) hgB.1 _).setCell (p := ⟨g, m * 2, none⟩) hgB.1 _).setCell (p := ⟨g, m * 2 + 1, none⟩) hgB.1 _
      go_roundw
      case rel => exact ⟨k + 1, by have := HLT.out; omega, by go_num, by have h1 := HM.out; have h2 := HLT.out; congr 1; omega, ho2, hb2.drew⟩
      case measure => simp [intOf]; omega
    · have g0 : decide ((k : Int) < (L.length : Int) - 1 - k) = false := by rw [decide_eq_false_iff_not]; omega
      have HE := hid (turned_end (L := L) (k := k) (by omega) hk)
      rw [HE.out] at HO'
      go_wp2_with fail
      go_end0
      exact ⟨rfl, HO'.out, HB'.out⟩

theorem OwnP.takeP {w : World} {B c : Nat} {A : Option Addr} {L : PS} (h : OwnP w B A c L) {m : Nat} (hm : m ≤ L.length) : OwnP w B A c (L.take m) := by
  have hlm : (L.take m).length = m := by rw [List.length_take]; omega
  have hpc : pcells (L.take m) = (pcells L).take (m * 2) := by
    have h1 := pcells_append (L.take m) (L.drop m)
    rw [List.take_append_drop] at h1
    have h2 : (pcells (L.take m)).length = m * 2 := by rw [pcells_length, hlm]
    rw [h1]
    exact (List.take_left' h2).symm
  unfold OwnP at *
  rw [hlm, hpc]
  obtain ⟨h1, h2⟩ := h
  refine ⟨by rw [List.length_take, pcells_length]; omega, ?_⟩
  rcases h2 with ⟨hv, hn⟩ | ⟨g, cap, cur, hv, hb, hh, hc, hx, hs, ht⟩
  · injection hv with e1 e2 e3
    subst e1 e3
    exact .inl ⟨by congr 1; omega, by omega⟩
  · injection hv with e1 e2 e3
    subst e1 e3
    exact .inr ⟨g, c, cur, rfl, hb, hh, by omega, hx, hs, by rw [← ht, List.take_take]; congr 1; omega⟩

theorem down_cut {L : PS} {m : Nat} : downL L (m : Int) = L.reverse.take m := by
  rw [downL, if_neg (by omega), Int.toNat_natCast]
theorem down_all {L : PS} {most : Int} (h0 : 0 ≤ most) (h : (L.length : Int) ≤ most) : downL L most = L.reverse := by
  rw [downL, if_neg (by omega), List.take_of_length_le (by rw [List.length_reverse]; omega)]

set_option maxHeartbeats 4000000 in
set_option maxRecDepth 100000 in
theorem impl_ScanDown (A : Option Addr) (c : Nat) (ns : List ND) (hi : ByteArray) (most : Int) (w : World) (hr : RN w w.heap.size A ns) (hf : FitsN ns) (hs : SmallN ns) (hl : ns.length ≤ 1048576) :
    Calls Try.prog 32 #[.slice A ns.length c, .string hi, .int .i64 most] w (Made w w.heap.size (downL (rangeL (pairsOf ns) ⟨#[]⟩ hi) most)) := by
  by_cases hneg : most < 0
  · have HE : Hid (downL (rangeL (pairsOf ns) ⟨#[]⟩ hi) most = []) := by simp [Hid, downL, hneg]
    clear hr
    go_enter Try.func32, Try.ntmps32
    go_wp2_with fail
    go_ret
    rw [HE.out]
    exact ⟨none, 0, rfl, OwnP.nil_ _ _, Below.refl _ _⟩
  have hcap := (pairsOf_rise hs hf).1
  have hrl := rangeL_len (pairsOf ns) ⟨#[]⟩ hi
  have HR := hid hr
  have HF := hid hf
  have HS := hid hs
  clear hr hf hs
  go_enter Try.func32, Try.ntmps32
  go_wp2_with fail
  refine (impl_inRange A ns.length c ⟨#[]⟩ hi _).mono ?_
  rintro e W0 ⟨rfl, hW0⟩
  obtain ⟨hb1, hsz, o0, o1, o2⟩ := inRange_boxes A ns.length c ⟨#[]⟩ hi _ W0 hW0
  have HC := hid (any_Collect w.heap.size w.heap.size A c ns ⟨#[]⟩ hi W0 (by omega) (HR.out.below hb1) HF.out HS.out hl o0 o1 o2)
  have HB1 := hid hb1
  clear hb1 hsz o0 o1 o2 hW0
  go_wp2_with fail
  refine HC.out.mono ?_
  rintro e w2 ⟨A2, c2, rfl, ho2, hb2⟩
  have HB2 := hid (HB1.out.trans (hb2.mono HB1.out.size))
  have HV := hid (any_Reverse W0.heap.size A2 c2 (rangeL (pairsOf ns) ⟨#[]⟩ hi) w2 ho2 (by omega))
  clear ho2 hb2
  generalize hRR : rangeL (pairsOf ns) ⟨#[]⟩ hi = R at *
  clear hRR
  go_wp2_with fail
  refine HV.out.mono ?_
  rintro e w3 ⟨rfl, ho3, hb3⟩
  have HB3 := hid (HB2.out.trans (hb3.mono HB1.out.size))
  have HO3 := hid ho3
  have hcp := own_cap ho3
  have hRl : R.length = R.reverse.length := by simp
  have hcr : R.length ≤ c2 := by rw [hRl]; exact hcp.1
  have hcm : c2 ≤ 9223372036854775807 := by have := hcp.2; unfold maxLen at this; omega
  have HS0 := hid HB1.out.size
  clear ho3 hb3 hcp hRl HC HV
  obtain ⟨m, rfl⟩ : ∃ m : Nat, most = (m : Int) := ⟨most.toNat, by omega⟩
  clear hneg
  by_cases hle : m ≤ R.length
  · have g1 : min (m : Int) (R.length : Int) = (m : Int) := by omega
    have HE := hid (@down_cut R m)
    have HT := hid (HO3.out.takeP (m := m) (by simpa using hle))
    have HN : Hid (m = (R.reverse.take m).length) := by rw [Hid, List.length_take, List.length_reverse]; omega
    have hmc : m ≤ c2 := by omega
    go_wp2_with fail
    go_ret
    rw [HE.out]
    exact ⟨A2, c2, ret_slice HN.out, OwnP.mono' HT.out HS0.out, HB3.out⟩
  · have g1 : min (m : Int) (R.length : Int) = (R.length : Int) := by omega
    have HE := hid (down_all (L := R) (most := (m : Int)) (by omega) (by omega))
    go_wp2_with fail
    go_ret
    rw [HE.out]
    exact ⟨A2, c2, ret_slice (by simp), OwnP.mono' HO3.out HS0.out, HB3.out⟩

theorem down_take {R : PS} {k : Nat} {most : Int} (h1 : most ≤ (k : Int)) (h2 : (k : Int) ≤ most ∨ k = 0) : downL R most = R.reverse.take k := by
  by_cases h0 : most < 0
  · have : k = 0 := by omega
    subst this
    simp [downL, h0]
  · have : most = (k : Int) := by omega
    subst this
    exact down_cut
theorem down_whole {R : PS} {most : Int} (h2 : (R.length : Int) ≤ most ∨ R.length = 0) : downL R most = R.reverse.take R.length := by
  rw [List.take_of_length_le (by simp)]
  rcases h2 with h2 | h2
  · exact down_all (by omega) h2
  · have := List.eq_nil_of_length_eq_zero h2
    subst this
    simp [downL]

def DownRead (w : World) (L : PS) (most : Int) (e : Ending) (w' : World) : Prop := ∃ A c, e = .returned (.slice A (downL L most).length c) ∧ RP w' w'.heap.size A (downL L most) ∧ Below w.heap.size w w'
theorem DownRead.of {w w' : World} {L l : PS} {most : Int} {A : Option Addr} {n c : Nat} (h1 : downL L most = l) (hn : n = l.length) (ho : RP w' w'.heap.size A l) (hb : Below w.heap.size w w') : DownRead w L most (.returned (.slice A n c)) w' := by
  subst h1 hn
  exact ⟨A, c, rfl, ho, hb⟩

set_option maxHeartbeats 4000000 in
set_option maxRecDepth 100000 in
theorem spec_ScanDown (A : Option Addr) (c : Nat) (ns : List ND) (hi : ByteArray) (most : Int) (w : World) (hr : RN w w.heap.size A ns) (hf : FitsN ns) (hs : SmallN ns) (hl : ns.length ≤ 1048576) :
    Calls Try.prog 31 #[.slice A ns.length c, .string hi, .int .i64 most] w (DownRead w (rangeL (pairsOf ns) ⟨#[]⟩ hi) most) := by
  obtain ⟨i0, hi0, hz0, hz1, hz2⟩ := info_parts pairInfo
  have hcap := (pairsOf_rise hs hf).1
  have hrl := rangeL_len (pairsOf ns) ⟨#[]⟩ hi
  have HC := hid (spec_TreeMap A c ns w hr hf hs hl)
  clear hr hf hs
  generalize hL : pairsOf ns = L at *
  clear hL
  go_enter Try.func31, Try.ntmps31
  go_wp2_with fail
  refine HC.out.mono ?_
  rintro e w3 ⟨A3, c3, rfl, ho3, hb3⟩
  have HB3 := hid hb3
  have HR3 := hid ho3.rp
  clear hb3 ho3 HC
  go_wp2_with fail
  refine (spec_l1Range A3 c3 L ⟨#[]⟩ hi _ HR3.out (by omega)).mono ?_
  rintro e w4 ⟨A4, c4, rfl, ho4, hb4⟩
  have HB4 := hid (HB3.out.trans (hb4.mono HB3.out.size))
  have HR4 := hid ho4.rp
  clear ho4 hb4 HR3
  generalize rangeL L ⟨#[]⟩ hi = R at *
  go_wp2_with fail
  go_loopw [8, 9] (fun v i wr => ∃ (k n : Nat) (A' : Option Addr) (c' : Nat), k ≤ R.length ∧ i = .int .i64 ((R.length : Int) - 1 - k) ∧ v = .slice A' n c' ∧ Hid (n = (R.reverse.take k).length) ∧ OwnP wr w4.heap.size A' c' (R.reverse.take k) ∧ Below w4.heap.size w4 wr ∧ Hid ((k : Int) ≤ most ∨ k = 0)) (fun _ i _ => (intOf i + 1).toNat)
  case atStart => exact ⟨0, 0, _, _, Nat.zero_le _, by simp, rfl, rfl, OwnP.made (Nat.le_refl _) _ 0 rfl (Nat.zero_le _), (Below.refl _ _).alloc (Nat.le_refl _) _, .inr rfl⟩
  case round =>
    obtain ⟨k, n, A', c', hk, rfl, rfl, HN, hown, hbw, HM⟩ := hrel
    have HO := hid hown
    have HD := hid hbw
    clear hown hbw
    have hnk : n = k := by have := HN.out; rw [List.length_take, List.length_reverse] at this; omega
    by_cases hlt : k < R.length
    · obtain ⟨j, hj⟩ : ∃ j : Nat, j = R.length - 1 - k := ⟨_, rfl⟩
      have hji : (R.length : Int) - 1 - k = (j : Int) := by omega
      rw [hji]
      have hjl : j < R.length := by omega
      have hrv : R.reverse[k]'(by simpa using hlt) = R[j] := by rw [List.getElem_reverse]; congr 1; omega
      have HTK : Hid (R.reverse.take (k + 1) = R.reverse.take k ++ [R[j]]) := by rw [Hid, List.take_succ_eq_append_getElem (by simpa using hlt), hrv]
      obtain ⟨b, off, rfl, hb, hc1, hc2⟩ := (HR4.out.below HD.out).at_ hjl
      have HJ := hid hj
      have HNK := hid hnk
      have HK := hid hk
      have e5 : (0 : Int) ≤ (j : Int) := by omega
      have e6 : (j : Int) < (R.length : Int) := by omega
      by_cases hm : (n : Int) < most
      · have g1 : decide ((n : Int) < most) = true := by rw [decide_eq_true_eq]; exact hm
        have HM2 : Hid (((k + 1 : Nat) : Int) ≤ most) := by rw [Hid]; omega
        have HLT := hid hlt
        clear hj hji hrv hnk hk hm hlt
        go_wp2_with (at_builtin; refine wpList_append_rp _ rfl _ _ _ rfl i0 Try.underlying36 hi0 hz0 hz1 hz2 w4.heap.size A' n c' (R.reverse.take k) rfl HN.out (HO.out.below ((Below.refl _ _).alloc (Nat.le_refl _) _)) _ _ _ _ [R[j]] rfl rfl (RP.new _ R[j] _) (by have := HK.out; simp; omega) (by have := HD.out.size; simp; omega) ?_; intro A2 n2 c2 w2 hn2 hown2 hbw2; have HN2 := hid hn2; have HO2 := hid hown2; have HB2 := hid hbw2; clear hn2 hown2 hbw2)
        go_roundw
        case rel => exact ⟨k + 1, _, _, _, by have := HLT.out; omega, by have h1 := HJ.out; have h2 := HLT.out; congr 1; omega, rfl, by rw [HTK.out]; exact HN2.out, by rw [HTK.out]; exact HO2.out, (HD.out.alloc HD.out.size _).trans HB2.out, .inl HM2.out⟩
        case measure => simp [intOf]
      · have g1 : decide ((n : Int) < most) = false := by rw [decide_eq_false_iff_not]; exact hm
        have HE := hid (down_take (R := R) (most := most) (by omega) HM.out)
        clear hj hji hrv hnk hk hm hlt
        go_wp2_with fail
        go_ret
        exact DownRead.of HE.out HN.out HO.out.rp (HB4.out.trans (HD.out.mono HB4.out.size))
    · obtain rfl : k = R.length := by omega
      have hji : (R.length : Int) - 1 - (R.length : Int) = -1 := by omega
      rw [hji]
      have HE := hid (down_whole HM.out)
      clear hnk hji
      go_wp2_with fail
      go_ret
      exact DownRead.of HE.out HN.out HO.out.rp (HB4.out.trans (HD.out.mono HB4.out.size))
end Go.Proofs.Ytaiehccpefjbfab
