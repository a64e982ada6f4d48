/-
  The program's inRange: an iterator over inTurn's; CountIn of both: contracts.
-/
import Derived.Test.YtaiehccpefjbfabCur
import Derived.Test.YtaiehccpefjbfabSpecLists
namespace Go.Proofs.Ytaiehccpefjbfab
open Go.RowKit Go.Shelf

attribute [local go_sem] Oper.semAt_some

def encP (p : BB) : Array Value := #[.agg #[.string p.1, .string p.2]]
/-- What of the pairs that have come has been handed on. -/
def flt (lo : ByteArray) (pre : List (Nat × BB)) : PS := (pre.filter fun x => !ltS x.2.1 lo).map (·.2)
theorem flt_yes {lo : ByteArray} {pre : List (Nat × BB)} {x : Nat × BB} (h : ltS x.2.1 lo = false) : flt lo (pre ++ [x]) = flt lo pre ++ [x.2] := by simp [flt, h]
theorem flt_no {lo : ByteArray} {pre : List (Nat × BB)} {x : Nat × BB} (h : ltS x.2.1 lo = true) : flt lo (pre ++ [x]) = flt lo pre := by simp [flt, h]
theorem flt_len (lo : ByteArray) (pre : List (Nat × BB)) : (flt lo pre).length ≤ pre.length := by simp [flt]; exact List.length_filter_le _ _
/-- Behind the range. -/
def endB (hi : ByteArray) (p : BB) : Bool := decide (hi.size ≠ 0) && !ltS p.1 hi
theorem flt_prefix {lo : ByteArray} {a b : List (Nat × BB)} (h : a <+: b) : flt lo a <+: flt lo b := by
  obtain ⟨r, rfl⟩ := h
  exact ⟨flt lo r, by simp [flt]⟩
theorem flt_turn (lo : ByteArray) (L : PS) : flt lo (turn L) = L.filter fun p => !ltS p.1 lo := by
  conv => rhs; rw [← turn_snd L]
  rw [List.filter_map]
  rfl
/-- All have come, none behind the range. -/
theorem range_all {L : PS} {lo hi : ByteArray} (h : ∀ x ∈ turn L, endB hi x.2 = false) : flt lo (turn L) = rangeL L lo hi := by
  rw [flt_turn, rangeL]
  refine List.filter_congr (fun p hp => ?_)
  have hm : p ∈ (turn L).map (·.2) := by rw [turn_snd]; exact hp
  obtain ⟨x, hx, rfl⟩ := List.mem_map.1 hm
  have := h x hx
  simp only [endB] at this
  by_cases h0 : hi.size = 0
  · simp [inR, h0]
  · simp [h0] at this
    simp [inR, this]
/-- One behind the range has come: all that is in it has. -/
theorem range_end {L : PS} {lo hi : ByteArray} (hs : risesB L = true) {pre : List (Nat × BB)} {x : Nat × BB} (hp : pre ++ [x] <+: turn L) (h : ∀ y ∈ pre, endB hi y.2 = false) (hx : endB hi x.2 = true) : flt lo pre = rangeL L lo hi := by
  obtain ⟨r, hr⟩ := hp
  have hL : L = pre.map (·.2) ++ (x.2 :: r.map (·.2)) := by
    rw [← turn_snd L, ← hr]
    simp
  simp only [endB, Bool.and_eq_true, Bool.not_eq_true', decide_eq_true_eq] at hx
  have h1 : (pre.map (·.2)).filter (inR lo hi) = flt lo pre := by
    rw [flt, List.filter_map]
    congr 1
    refine List.filter_congr (fun y hy => ?_)
    have := h y hy
    simp only [endB] at this
    simp [hx.1] at this
    simp [inR, hx.1, this]
  have h2 : (x.2 :: r.map (·.2)).filter (inR lo hi) = [] := by
    rw [List.filter_eq_nil_iff]
    intro p hp
    have hlp : ltS p.1 hi = false := by
      have hm : pre.length < L.length := by rw [hL]; simp
      have hat : L[pre.length]'hm = x.2 := by
        have : (pre.map (·.2) ++ (x.2 :: r.map (·.2)))[pre.length]'(by simp) = x.2 := by simp
        simpa [← hL] using this
      have hnot := rises_not hs hm (by rw [hat]; exact hx.2)
      obtain ⟨q, hq, e⟩ := List.getElem_of_mem hp
      have hq2 : pre.length + q < L.length := by rw [hL]; simp at hq ⊢; omega
      have hat2 : L[pre.length + q]'hq2 = p := by
        have : (pre.map (·.2) ++ (x.2 :: r.map (·.2)))[pre.length + q]'(by simp at hq ⊢; omega) = p := by
          rw [List.getElem_append_right (by simp)]
          simpa using e
        simpa [← hL] using this
      rw [← hat2]
      exact hnot _ hq2 (by omega)
    simp [inR, hx.1, hlp]
  rw [rangeL, hL, List.filter_append, h1, h2, List.append_nil]
/-- What has come is a part of the range. -/
theorem range_part {L : PS} {lo hi : ByteArray} {pre : List (Nat × BB)} (hp : pre <+: turn L) (h : ∀ y ∈ pre, endB hi y.2 = false) : flt lo pre <+: rangeL L lo hi := by
  obtain ⟨r, hr⟩ := hp
  have hL : L = pre.map (·.2) ++ r.map (·.2) := by
    rw [← turn_snd L, ← hr]
    simp
  have h1 : (pre.map (·.2)).filter (inR lo hi) = flt lo pre := by
    rw [flt, List.filter_map]
    congr 1
    refine List.filter_congr (fun y hy => ?_)
    have := h y hy
    simp only [endB] at this
    by_cases h0 : hi.size = 0
    · simp [inR, h0]
    · simp [h0] at this
      simp [inR, h0, this]
  rw [rangeL, hL, List.filter_append, h1]
  exact List.prefix_append _ _

theorem RoundIn.inR {F : Fence} {n : Nat} {P : Program} {l l' : Nat} {f : FuncId} {tmps : Array Value} {assign body : Code} {w : World} {R : Ending → World → Prop} (h : RoundIn F n P l f tmps assign body w R) : RoundIn (F.inRound l') n P l f tmps assign body w R := h
theorem AbX.put {α : Type} {B : Nat} {J : Nat → List α → World → Prop} (h : AbX B J) {k D : Nat} {pre : List α} {W : World} (hs : J k pre W) (o : Obj) (h1 : B ≤ D) (h2 : D < k) : J k pre (W.putObj D o) :=
  h _ _ _ _ (some D) hs (grownBy_putObj' _ _ _) (fun r e => by cases e; exact ⟨h1, h2⟩)

set_option maxHeartbeats 8000000 in
set_option maxRecDepth 100000 in
theorem inRange_seq (tb n₀ : Nat) (A : Option Addr) (c : Nat) (ns : List ND) (lo hi : ByteArray) (w : World) (hn : n₀ ≤ w.heap.size) (hr : RN w n₀ A ns) (hf : FitsN ns) (hs : SmallN ns) (hl : ns.length ≤ 1048576)
    (h0 : One w tb (.slice A ns.length c) 28) (h1 : One w (tb + 1) (.string lo) 9) (h2 : One w (tb + 1 + 1) (.string hi) 9) :
    SeqX Try.prog 64 #[.pointer (some ⟨tb, 0, none⟩), .pointer (some ⟨tb + 1 + 1, 0, none⟩), .pointer (some ⟨tb + 1, 0, none⟩)] encP n₀ (fun k => k = tb + 1 ∨ k = tb + 1 + 1) (fun xs => xs = rangeL (pairsOf ns) lo hi) (fun pre => pre <+: rangeL (pairsOf ns) lo hi) (pairsOf ns).length w := by
  intro n l J Jx W hW hn₀ hJ hJx hG hY hj0
  have hnW : n₀ ≤ W.heap.size := Nat.le_trans hn hW.size
  obtain ⟨hcap, hri⟩ := pairsOf_rise hs hf
  have HT : Hid (tb + 1 + 1 < W.heap.size) := (h2.below hW).lt
  have p0 := (h0.below hW).below ((Below.refl _ _).alloc (Nat.le_refl _) (.cells #[.func (.yield l) #[] #[]] 86))
  have c0 := p0.c
  refine callsIn_of_wp_marks Try.func64 rfl trivial ?_ rfl
  simp only [Try.ntmps64, List.size_toArray, List.length_cons, List.length_nil, Nat.reduceAdd, Nat.reduceSub, Array.replicate_succ, Array.replicate_zero, List.push_toArray, List.append_toArray, List.nil_append, List.cons_append]
  gi_wp2_with (refine ⟨trivial, (by first | exact hdw _ | skip), ?_⟩; gi_at_call 42; refine (callsIn_wide.2 (impl_inTurn A ns.length c _)).mono ?_; rintro e w' ⟨rfl, rfl⟩)
  obtain ⟨W0, hW0⟩ : ∃ W0, (W.alloc (.cells #[.func (.yield l) #[] #[]] 86)).alloc (.cells #[.slice A ns.length c] 28) = W0 := ⟨_, rfl⟩
  have hb0 : Below W.heap.size W W0 := by rw [← hW0]; exact ((Below.refl _ _).alloc (Nat.le_refl _) _).alloc (by simp) _
  have hsz : W0.heap.size = W.heap.size + 2 := by rw [← hW0]; simp
  have oy : One W0 W.heap.size (.func (.yield l) #[] #[]) 86 := by
    rw [← hW0]; exact (One.new W _ _).below ((Below.refl _ _).alloc (Nat.le_refl _) _)
  have ot : One W0 (W.heap.size + 1) (.slice A ns.length c) 28 := by
    rw [← hW0]
    have := One.new (W.alloc (.cells #[.func (.yield l) #[] #[]] 86)) (.slice A ns.length c) 28
    simpa using this
  have o1 := (h1.below hW).below hb0
  have o2 := (h2.below hW).below hb0
  have hJ0 : J W0.heap.size [] W0 := by
    have h := hJ.below hj0 hb0
    exact hG _ _ (Nat.le_refl _) h hb0.size
  have hseq := inTurn_seq (W.heap.size + 1) n₀ (fun _ => False) A c ns W0 (by omega) ((hr.below (hW.mono hn)).below (hb0.mono hnW)) hf hs hl ot
  have HRI := hid hri
  have HY := hid hY
  have HG := hid hG
  have HAJ := hid hJ
  have HAX := hid hJx
  rw [hW0]
  clear hW0 p0 c0 hr hf hs h0 h1 h2 hj0 hY hri hG
  refine wpIn_rangeFunc_X (gf := 60) (lb := #[.pointer (some ⟨W.heap.size + 1, 0, none⟩)]) rfl (enters_of Try.func60 (by kernel_rfl) rfl) hseq (Below.refl _ _) (by omega) (fun _ hk => hk.elim) (fun _ => rfl)
    (fun h pre V => J h (flt lo pre) V ∧ One V W.heap.size (.func (.yield l) #[] #[]) 86 ∧ One V (tb + 1) (.string lo) 9 ∧ One V (tb + 1 + 1) (.string hi) 9 ∧ ∀ x ∈ pre, endB hi x.2 = false)
    (fun cd h pre V => cd = .ret ∧ ((∃ pre0 x, pre = pre0 ++ [x] ∧ J h (flt lo pre0) V ∧ (∀ y ∈ pre0, endB hi y.2 = false) ∧ endB hi x.2 = true) ∨ (Jx h (flt lo pre) V ∧ ∀ y ∈ pre, endB hi y.2 = false)))
    (fun h pre X Y row hs hg hr => ⟨hJ _ _ _ _ _ hs.1 hg (fun r e => ⟨by have := (hr r e).1; omega, (hr r e).2⟩), hs.2.1.abx (by omega) hg hr, hs.2.2.1.abx (by have := HT.out; omega) hg hr, hs.2.2.2.1.abx (by have := HT.out; omega) hg hr, hs.2.2.2.2⟩)
    (fun cd h pre X Y row hs hg hr => by
      obtain ⟨hc, ⟨pre0, x, h3, h4, h5⟩ | ⟨h4, h5⟩⟩ := hs
      · exact ⟨hc, .inl ⟨pre0, x, h3, hJ _ _ _ _ _ h4 hg (fun r e => ⟨by have := (hr r e).1; omega, (hr r e).2⟩), h5⟩⟩
      · exact ⟨hc, .inr ⟨hJx _ _ _ _ _ h4 hg (fun r e => ⟨by have := (hr r e).1; omega, (hr r e).2⟩), h5⟩⟩)
    (fun h V hh hs hV => ⟨HG.out h V (by omega) hs.1 hV, hs.2⟩)
    ⟨hJ0, oy, o1, o2, by simp⟩
    (fun h pre x a' V => ∃ b, h ≤ b ∧ Two V b 25 (.string x.2.1) (.string x.2.2) ∧ a' = { tmps := #[.func (.yield l) #[] #[], .pointer (some ⟨tb, 0, none⟩), .pointer (some ⟨tb + 1 + 1, 0, none⟩), .pointer (some ⟨tb + 1, 0, none⟩), .pointer (some ⟨W.heap.size, 0, none⟩), undef, .pointer (some ⟨b, 0, none⟩), .slice A ns.length c, .func (.func 60) #[] #[.pointer (some ⟨W.heap.size + 1, 0, none⟩)], .int .i64 (x.1 : Int), .agg #[.string x.2.1, .string x.2.2], undef, undef, undef, undef, undef, undef, undef, undef, undef, undef, undef, undef, undef, undef, undef, undef, undef, undef], defers := [] } ∧
      J h (flt lo pre) V ∧ One V W.heap.size (.func (.yield l) #[] #[]) 86 ∧ One V (tb + 1) (.string lo) 9 ∧ One V (tb + 1 + 1) (.string hi) 9 ∧ ∀ x ∈ pre, endB hi x.2 = false)
    (fun x a' h pre X Y row hs hg hr => by
      obtain ⟨b, h1, h2, h3, h4, h5, h6, h7, h8⟩ := hs
      exact ⟨b, h1, h2.abx (.inr h1) hg hr, h3, hJ _ _ _ _ _ h4 hg (fun r e => ⟨by have := (hr r e).1; omega, (hr r e).2⟩), h5.abx (by omega) hg hr, h6.abx (by have := HT.out; omega) hg hr, h7.abx (by have := HT.out; omega) hg hr, h8⟩)
    ?assign ?body ?done ?stop
  case assign =>
    rintro l0 m h pre x V K hh hhV ⟨h4, h5, h6, h7, h8⟩ _ hK
    simp only [encT]
    gi_wp2
    have hbx : Below V.heap.size V (V.alloc (.cells #[.string x.2.1, .string x.2.2] 25)) := (Below.refl _ _).alloc (Nat.le_refl _) _
    refine hK _ _ ((KeptX.refl _ _ _ _).alloc (by omega) hhV _) (fun _ hk => hk.elim) ⟨V.heap.size, hhV, Two.new _ _ _ _, rfl, hJ.alloc _ h4, h5.below hbx, h6.below hbx, h7.below hbx, h8⟩
  case body =>
    rintro l0 m h pre x a' V hh hhV ⟨b, h1, h2, rfl, h4, h5, h6, h7, h8⟩ hlen
    have q0 := h2.c0
    have q1 := h2.c1
    have c5 := h5.c
    have c6 := h6.c
    have c7 := h7.c
    have HJJ := hid h4
    have H5 := hid h5
    have H6 := hid h6
    have H7 := hid h7
    have HX : Hid (∀ y ∈ pre, endB hi y.2 = false) := h8
    clear h2 h4 h5 h6 h7 h8 hseq oy ot o1 o2 hb0 hJ0 hJ hJx
    by_cases he : hi.size = 0
    · have g2 := empty_yes he
      have HNE : Hid (endB hi x.2 = false) := by simp [Hid, endB, he]
      clear he
      cases hlo : ltS x.2.1 lo
      · have g3 : Op.bytesLess x.2.1.toList lo.toList = false := hlo
        have HFY := hid (flt_yes (pre := pre) hlo)
        obtain ⟨fn, tm, asg, bd, hrun, hR⟩ := HY.out (m - 1) h (flt lo pre) x.2 V (by omega) hhV HJJ.out (by have := flt_len lo pre; omega)
        simp only [encP] at hrun
        have hR := RoundIn.inR (l' := l0) hR
        clear hlo
        gi_wp2_with (refine ⟨hdw _, ?_⟩; refine hR.mono ?_; clear hR hrun; rintro e V2 (⟨rfl, hj2, hk2, ht2⟩ | ⟨rfl, hx2, hk2⟩))
        · have HJ2 := hid hj2
          have HK2 := hid hk2
          have HT2 := hid ht2
          clear hj2 hk2 ht2
          gi_wp2
          refine ⟨⟨HK2.out.mono (Nat.le_refl _) (by omega) (Nat.le_refl _), fun _ hk => hk.elim⟩, by rw [HFY.out]; exact HJ2.out, (HK2.out.iv _ (Nat.le_refl _) (by omega)).trans H5.out, (HT2.out _ (.inl rfl)).trans H6.out, (HT2.out _ (.inr rfl)).trans H7.out, ?_⟩
          intro y hy
          rcases List.mem_append.1 hy with hy | hy
          · exact HX.out y hy
          · obtain rfl := List.mem_singleton.1 hy
            exact HNE.out
        · have HJ2 := hid hx2
          have HK2 := hid hk2
          clear hx2 hk2
          gi_wp2
          refine ⟨HK2.out.mono (Nat.le_refl _) (by omega) (Nat.le_refl _), rfl, .inr ⟨by rw [HFY.out]; exact HJ2.out, ?_⟩⟩
          intro y hy
          rcases List.mem_append.1 hy with hy | hy
          · exact HX.out y hy
          · obtain rfl := List.mem_singleton.1 hy
            exact HNE.out
      · have g3 : Op.bytesLess x.2.1.toList lo.toList = true := hlo
        have HFN := hid (flt_no (pre := pre) hlo)
        clear hlo
        gi_wp2
        refine ⟨fun _ h => (by cases h), ?_⟩
        gi_wp2
        refine ⟨⟨KeptX.refl _ _ _ _, fun _ hk => hk.elim⟩, by rw [HFN.out]; exact HJJ.out, H5.out, H6.out, H7.out, ?_⟩
        intro y hy
        rcases List.mem_append.1 hy with hy | hy
        · exact HX.out y hy
        · obtain rfl := List.mem_singleton.1 hy
          exact HNE.out
    · have g2 := empty_no he
      cases hhi : ltS x.2.1 hi
      · have g4 : Op.bytesLess x.2.1.toList hi.toList = false := hhi
        have HE : Hid (endB hi x.2 = true) := by simp [Hid, endB, he, hhi]
        clear he hhi
        gi_wp2
        exact ⟨KeptX.refl _ _ _ _, rfl, .inl ⟨pre, x, rfl, HJJ.out, HX.out, HE.out⟩⟩
      · have g4 : Op.bytesLess x.2.1.toList hi.toList = true := hhi
        have HNE : Hid (endB hi x.2 = false) := by simp [Hid, endB, hhi]
        clear he hhi
        cases hlo : ltS x.2.1 lo
        · have g3 : Op.bytesLess x.2.1.toList lo.toList = false := hlo
          have HFY := hid (flt_yes (pre := pre) hlo)
          obtain ⟨fn, tm, asg, bd, hrun, hR⟩ := HY.out (m - 1) h (flt lo pre) x.2 V (by omega) hhV HJJ.out (by have := flt_len lo pre; omega)
          simp only [encP] at hrun
          have hR := RoundIn.inR (l' := l0) hR
          clear hlo
          gi_wp2_with (refine ⟨hdw _, ?_⟩; refine hR.mono ?_; clear hR hrun; rintro e V2 (⟨rfl, hj2, hk2, ht2⟩ | ⟨rfl, hx2, hk2⟩))
          · have HJ2 := hid hj2
            have HK2 := hid hk2
            have HT2 := hid ht2
            clear hj2 hk2 ht2
            gi_wp2
            refine ⟨⟨HK2.out.mono (Nat.le_refl _) (by omega) (Nat.le_refl _), fun _ hk => hk.elim⟩, by rw [HFY.out]; exact HJ2.out, (HK2.out.iv _ (Nat.le_refl _) (by omega)).trans H5.out, (HT2.out _ (.inl rfl)).trans H6.out, (HT2.out _ (.inr rfl)).trans H7.out, ?_⟩
            intro y hy
            rcases List.mem_append.1 hy with hy | hy
            · exact HX.out y hy
            · obtain rfl := List.mem_singleton.1 hy
              exact HNE.out
          · have HJ2 := hid hx2
            have HK2 := hid hk2
            clear hx2 hk2
            gi_wp2
            refine ⟨HK2.out.mono (Nat.le_refl _) (by omega) (Nat.le_refl _), rfl, .inr ⟨by rw [HFY.out]; exact HJ2.out, ?_⟩⟩
            intro y hy
            rcases List.mem_append.1 hy with hy | hy
            · exact HX.out y hy
            · obtain rfl := List.mem_singleton.1 hy
              exact HNE.out
        · have g3 : Op.bytesLess x.2.1.toList lo.toList = true := hlo
          have HFN := hid (flt_no (pre := pre) hlo)
          clear hlo
          gi_wp2
          refine ⟨fun _ h => (by cases h), ?_⟩
          gi_wp2
          refine ⟨⟨KeptX.refl _ _ _ _, fun _ hk => hk.elim⟩, by rw [HFN.out]; exact HJJ.out, H5.out, H6.out, H7.out, ?_⟩
          intro y hy
          rcases List.mem_append.1 hy with hy | hy
          · exact HX.out y hy
          · obtain rfl := List.mem_singleton.1 hy
            exact HNE.out
  case done =>
    rintro D h xs V hD hDh rfl ⟨h4, h5, h6, h7, h8⟩ hK
    have HE := hid (range_all (lo := lo) h8)
    have HJ2 := hid (HAJ.out.put h4 (.deferred none) (by omega) hDh)
    clear h4 h5 h6 h7 h8 hseq oy ot o1 o2 hb0 hJ0 hJ hJx
    gi_wp2
    refine ⟨by simp, .inl ⟨_, _, rfl, run_takeDeferred hK, ?_⟩⟩
    exact ⟨_, results_none rfl _ _ _, ⟨_, rfl⟩, .inl ⟨_, h, HE.out, by omega, HJ2.out⟩⟩
  case stop =>
    rintro D h cd pre V hD hDh hSp ⟨rfl, ⟨pre0, x, rfl, h4, h5, h6⟩ | ⟨h4, h5⟩⟩ hK
    · have HE := hid (range_end (lo := lo) HRI.out hSp h5 h6)
      have HJ2 := hid (HAJ.out.put h4 (.deferred none) (by omega) hDh)
      clear h4 h5 h6 hSp hseq oy ot o1 o2 hb0 hJ0 hJ hJx
      gi_wp2
      refine ⟨by simp, .inl ⟨_, _, rfl, run_takeDeferred hK, ?_⟩⟩
      exact ⟨_, results_none rfl _ _ _, ⟨_, rfl⟩, .inl ⟨_, h, HE.out, by omega, HJ2.out⟩⟩
    · have HE := hid (range_part (lo := lo) hSp h5)
      have HJ2 := hid (HAX.out.put h4 (.deferred none) (by omega) hDh)
      clear h4 h5 hSp hseq oy ot o1 o2 hb0 hJ0 hJ hJx
      gi_wp2
      refine ⟨by simp, .inl ⟨_, _, rfl, run_takeDeferred hK, ?_⟩⟩
      exact ⟨_, results_none rfl _ _ _, ⟨_, rfl⟩, .inr ⟨_, h, HE.out, by omega, HJ2.out⟩⟩

set_option maxHeartbeats 1000000 in
set_option maxRecDepth 100000 in
theorem impl_inRange (A : Option Addr) (n c : Nat) (lo hi : ByteArray) (w : World) :
    Calls Try.prog 47 #[.slice A n c, .string lo, .string hi] w fun e w' => e = .returned (.func (.func 64) #[] #[.pointer (some ⟨w.heap.size, 0, none⟩), .pointer (some ⟨w.heap.size + 1 + 1, 0, none⟩), .pointer (some ⟨w.heap.size + 1, 0, none⟩)]) ∧
      w' = ((w.alloc (.cells #[.slice A n c] 28)).alloc (.cells #[.string lo] 9)).alloc (.cells #[.string hi] 9) := by
  go_enter Try.func47, Try.ntmps47
  go_wp2_with fail
  go_ret
  exact ⟨rfl, rfl⟩
/-- What inRange leaves. -/
theorem inRange_boxes (A : Option Addr) (n c : Nat) (lo hi : ByteArray) (w W : World) (hW : W = ((w.alloc (.cells #[.slice A n c] 28)).alloc (.cells #[.string lo] 9)).alloc (.cells #[.string hi] 9)) :
    Below w.heap.size w W ∧ W.heap.size = w.heap.size + 3 ∧ One W w.heap.size (.slice A n c) 28 ∧ One W (w.heap.size + 1) (.string lo) 9 ∧ One W (w.heap.size + 1 + 1) (.string hi) 9 := by
  subst hW
  refine ⟨below3 (Below.refl _ _) (Nat.le_refl _), by simp, (One.new w _ _).below (((Below.refl _ _).alloc (Nat.le_refl _) _).alloc (by simp) _), ?_, ?_⟩
  · have := (One.new (w.alloc (.cells #[.slice A n c] 28)) (.string lo) 9).below ((Below.refl _ _).alloc (Nat.le_refl _) (.cells #[.string hi] 9))
    simpa using this
  · have := One.new ((w.alloc (.cells #[.slice A n c] 28)).alloc (.cells #[.string lo] 9)) (.string hi) 9
    simpa using this

set_option maxHeartbeats 4000000 in
set_option maxRecDepth 100000 in
theorem impl_CountIn (A : Option Addr) (c : Nat) (ns : List ND) (lo hi : ByteArray) (w : World) (hr : RN w w.heap.size A ns) (hf : FitsN ns) (hs : SmallN ns) (hl : ns.length ≤ 1048576) :
    Calls Try.prog 34 #[.slice A ns.length c, .string lo, .string hi] w fun e w' => e = .returned (.int .i64 ((rangeL (pairsOf ns) lo hi).length : Int)) ∧ Below w.heap.size w w' := by
  refine callsIn_wide (n := 3) |>.1 ?_
  refine callsIn_of_wp_marks Try.func34 rfl trivial ?_ rfl
  simp only [Try.ntmps34, List.size_toArray, List.length_cons, List.length_nil, Nat.reduceAdd, Nat.reduceSub, Array.replicate_succ, Array.replicate_zero, List.push_toArray, List.append_toArray, List.nil_append, List.cons_append]
  gi_wp2_with (refine ⟨trivial, ?_⟩; gi_at_call 47; refine (callsIn_wide.2 (impl_inRange A ns.length c lo hi _)).mono ?_; rintro e W0 ⟨rfl, hW0⟩; have HW0 := hid hW0; clear hW0)
  have hc0 : Below w.heap.size w (w.alloc (.cells #[.int .i64 0] 2)) := (Below.refl _ _).alloc (Nat.le_refl _) _
  have on : One (w.alloc (.cells #[.int .i64 0] 2)) w.heap.size (.int .i64 0) 2 := One.new _ _ _
  obtain ⟨hb1, hsz, o0, o1, o2⟩ := inRange_boxes A ns.length c lo hi _ W0 HW0.out
  have hb0 : Below w.heap.size w W0 := hc0.trans (hb1.mono hc0.size)
  replace on := on.below hb1
  clear hb1 HW0
  simp only [World.size_alloc] at hsz o0 o1 o2
  have hseq := inRange_seq (w.heap.size + 1) w.heap.size A c ns lo hi W0 (by omega) (hr.below hb0) hf hs hl o0 o1 o2
  have hcap : Hid ((pairsOf ns).length ≤ 400) := (pairsOf_rise hs hf).1
  refine wpIn_rangeFunc_X (gf := 64) (lb := #[.pointer (some ⟨w.heap.size + 1, 0, none⟩), .pointer (some ⟨w.heap.size + 1 + 1 + 1, 0, none⟩), .pointer (some ⟨w.heap.size + 1 + 1, 0, none⟩)]) (by first | rfl | simp [go_sem]) (enters_of Try.func64 (by kernel_rfl) rfl) hseq (Below.refl _ _) (by omega) (fun k hk => by omega) (fun _ => rfl)
    (fun _ pre V => Below w.heap.size w V ∧ One V w.heap.size (.int .i64 ((pre.length : Nat) : Int)) 2)
    (fun _ _ _ _ => False)
    (fun h pre X Y row hs hg hr => ⟨below_abx hs.1 (Nat.le_refl _) (by omega) hg hr, hs.2.abx (by omega) hg hr⟩)
    (fun cd h pre X Y row hs hg hr => hs.elim)
    (fun _ _ _ h _ => h)
    ⟨hb0, by simpa using on⟩
    (fun h pre x a' V => (∃ v, a' = { tmps := #[.slice A ns.length c, .string lo, .string hi, undef, undef, undef, .int .i64 0, .pointer (some ⟨w.heap.size, 0, none⟩), .slice A ns.length c, .string lo, .string hi, .func (.func 64) #[] #[.pointer (some ⟨w.heap.size + 1, 0, none⟩), .pointer (some ⟨w.heap.size + 1 + 1 + 1, 0, none⟩), .pointer (some ⟨w.heap.size + 1 + 1, 0, none⟩)], v, undef, undef, undef], defers := [] }) ∧
      Below w.heap.size w V ∧ One V w.heap.size (.int .i64 ((pre.length : Nat) : Int)) 2)
    (fun x a' h pre X Y row hs hg hr => ⟨hs.1, below_abx hs.2.1 (Nat.le_refl _) (by omega) hg hr, hs.2.2.abx (by omega) hg hr⟩)
    ?assign ?body ?done ?stop
  case assign =>
    rintro l0 m h pre x V K hh hhV ⟨h4, h5⟩ _ hK
    simp only [encP]
    gi_wp2
    refine hK _ _ (KeptX.refl _ _ _ _) (fun _ _ => rfl) ⟨⟨.agg #[.string x.1, .string x.2], ?_⟩, h4, h5⟩
    simp
  case body =>
    rintro l0 m h pre x a' V hh hhV ⟨⟨v, rfl⟩, h4, h5⟩ hlen
    have c5 := h5.c
    have z5 := h5.fz
    have hm : pre.length < 1048576 := by have := hcap.out; omega
    have H4 := hid h4
    have H5 := hid h5
    clear h4 h5 hlen hseq o0 o1 o2 on hb0 hc0 hr hf hs
    gi_wp2
    refine ⟨⟨(KeptX.refl _ _ _ _).set (Nat.le_refl _) (.inl (by omega)) _, fun k hk => Below.heap_setCell _ _ _ _ (by show k ≠ w.heap.size; omega)⟩, H4.out.setCell (p := ⟨w.heap.size, 0, none⟩) (Nat.le_refl _) _, ?_⟩
    have := H5.out.set (.int .i64 ((pre.length : Int) + 1))
    simpa using this
  case done =>
    rintro D h xs V hD hDh rfl ⟨h4, h5⟩ hK
    have c6 := h5.c
    have HB := hid h4
    have HD := hid hD
    have HK := hid hK
    clear h4 h5 hseq o0 o1 o2 on hb0 hc0 hr hf hs hD hDh
    gi_wp2
    refine ⟨by simp, .inl ⟨_, _, rfl, run_takeDeferred hK, ?_⟩⟩
    refine ⟨_, results_tmp rfl _ _ _, ?_, below_end HB.out HK.out (by have := HD.out; omega)⟩
    rfl
  case stop =>
    rintro D h cd pre V hD hDh hSp hx hK
    exact hx.elim

set_option maxHeartbeats 1000000 in
set_option maxRecDepth 100000 in
theorem spec_CountIn (A : Option Addr) (c : Nat) (ns : List ND) (lo hi : ByteArray) (w : World) (hr : RN w w.heap.size A ns) (hf : FitsN ns) (hs : SmallN ns) (hl : ns.length ≤ 1048576) :
    Calls Try.prog 33 #[.slice A ns.length c, .string lo, .string hi] w fun e w' => e = .returned (.int .i64 ((rangeL (pairsOf ns) lo hi).length : Int)) ∧ Below w.heap.size w w' := by
  have hcap := (pairsOf_rise hs hf).1
  have hrl := rangeL_len (pairsOf ns) lo hi
  have HC := hid (spec_TreeMap A c ns w hr hf hs hl)
  clear hr hf hs
  generalize hL : pairsOf ns = L at *
  clear hL
  go_enter Try.func33, Try.ntmps33
  go_wp2_with fail
  refine HC.out.mono ?_
  rintro e w3 ⟨A3, c3, rfl, ho3, hb3⟩
  have HB3 := hid hb3
  have HR3 := hid ho3.rp
  clear hb3 ho3 HC
  go_wp2_with fail
  refine (spec_l1Range A3 c3 L lo hi _ HR3.out (by omega)).mono ?_
  rintro e w4 ⟨A4, c4, rfl, ho4, hb4⟩
  have HB4 := hid (HB3.out.trans (hb4.mono HB3.out.size))
  clear ho4 hb4
  go_wp2_with fail
  go_ret
  exact ⟨rfl, HB4.out⟩
end Go.Proofs.Ytaiehccpefjbfab
