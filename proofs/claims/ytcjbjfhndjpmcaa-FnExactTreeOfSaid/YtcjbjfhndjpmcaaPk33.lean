import Derived.Test.YtcjbjfhndjpmcaaPk32
/-
  putBelow: a pair put into a whole tree.
-/
namespace Go.Proofs.Ytcjbjfhndjpmcaa
open Go.RowKit

/-- A tree is another one, which has its blocks or new ones. -/
def Tree1 (w : World) (R : Nat → Prop) (x : OH) (t : BT) (e : Ending) (w' : World) : Prop :=
  ∃ (R' : Nat → Prop) (z : OH), e = .returned (.pointer (some ⟨z.g, 0, none⟩)) ∧ z.t = t ∧ Step w R [x] w' R' [z]
/-- Two trees below a new node. -/
theorem Step.over2 {w : World} {R : Nat → Prop} {x y : OH} (h : FO w R [x, y]) :
    Step w R [x, y] ((w.alloc (.cells #[.pointer (some ⟨x.g, 0, none⟩), .pointer (some ⟨y.g, 0, none⟩)] 71)).alloc (.cells #[.slice none 0 0, .slice (some ⟨w.heap.size, 0, none⟩) 2 2] 121)) R
      [⟨w.heap.size + 1, nodeS (w.heap.size + 1) (some ⟨w.heap.size, 0, none⟩) 2 [x, y], .node [] [x.t, y.t]⟩] := by
  have hb : Below w.heap.size w ((w.alloc (.cells #[.pointer (some ⟨x.g, 0, none⟩), .pointer (some ⟨y.g, 0, none⟩)] 71)).alloc (.cells #[.slice none 0 0, .slice (some ⟨w.heap.size, 0, none⟩) 2 2] 121)) := ((Below.refl _ _).alloc (Nat.le_refl _) _).alloc (by simp) _
  have h1 := Step.below h hb
  have hh : ((w.alloc (.cells #[.pointer (some ⟨x.g, 0, none⟩), .pointer (some ⟨y.g, 0, none⟩)] 71)).alloc (.cells #[.slice none 0 0, .slice (some ⟨w.heap.size, 0, none⟩) 2 2] 121)).heap[w.heap.size + 1]? = some (.cells #[.slice none 0 0, .slice (some ⟨w.heap.size, 0, none⟩) 2 2] 121 (0, 0)) := by
    have := heap_alloc_new (w.alloc (.cells #[.pointer (some ⟨x.g, 0, none⟩), .pointer (some ⟨y.g, 0, none⟩)] 71)) (.cells #[.slice none 0 0, .slice (some ⟨w.heap.size, 0, none⟩) 2 2] 121)
    simpa using this
  have hr : ((w.alloc (.cells #[.pointer (some ⟨x.g, 0, none⟩), .pointer (some ⟨y.g, 0, none⟩)] 71)).alloc (.cells #[.slice none 0 0, .slice (some ⟨w.heap.size, 0, none⟩) 2 2] 121)).heap[w.heap.size]? = some (.cells #[.pointer (some ⟨x.g, 0, none⟩), .pointer (some ⟨y.g, 0, none⟩)] 71 (0, 0)) :=
    (Below.heap_alloc _ _ _ (by simp)).trans (heap_alloc_new w _)
  have hsu : ∀ b, SU [x, y] b → b < w.heap.size := fun b hb => (h.su b hb).1
  have hn : NodeA ((w.alloc (.cells #[.pointer (some ⟨x.g, 0, none⟩), .pointer (some ⟨y.g, 0, none⟩)] 71)).alloc (.cells #[.slice none 0 0, .slice (some ⟨w.heap.size, 0, none⟩) 2 2] 121)) R (w.heap.size + 1) none 0 [] (some ⟨w.heap.size, 0, none⟩) 2 [x, y] := by
    refine ⟨hh, .inl rfl, .inl ⟨rfl, rfl, rfl⟩, ⟨rfl, .inr ⟨w.heap.size, 2, _, rfl, Nat.zero_le _, hr, Nat.le_refl _, by unfold maxLen; omega, rfl, rfl⟩⟩, h1.fo, ⟨fun hs => ?_, fun hR => ?_⟩, fun k hk => ?_⟩
    · have := hsu _ hs; omega
    · have := h.rb _ hR; omega
    · have e : w.heap.size = k := by simpa [Value.ownBlock] using hk
      subst e
      exact ⟨by omega, fun hs => by have := hsu _ hs; omega, fun hR => by have := h.rb _ hR; omega⟩
  refine ⟨hn.tree, h1.mod, fun b hb => ?_, h1.up, h1.ru⟩
  rcases SU_one.1 hb with hb | hb | hb
  · exact .inr (by omega)
  · have e : w.heap.size = b := by simpa [Value.ownBlock] using hb
    exact .inr (by omega)
  · exact .inl hb

set_option maxHeartbeats 2000000 in
set_option maxRecDepth 100000 in
theorem impl_putBelow (k v : ByteArray) (n : Nat) (x : OH) (R : Nat → Prop) (w : World) (hf : FO w R [x]) (hg : Fine n true x.t) (hr : risesB (allT x.t) = true) :
    Calls Try.prog 78 #[ptr x.g, .agg #[.string k, .string v]] w (Tree1 w R x (putA k v x.t)) := by
  have hb1 : Below w.heap.size w (w.alloc (.cells #[.string k, .string v] 57)) := (Below.refl _ _).alloc (Nat.le_refl _) _
  have hbx := Row2.lit w 57 (.string k) (.string v)
  have hs1 := Step.below hf hb1
  have HP := hid (impl_put k v n true x R _ hs1.fo hg hr)
  have hov := (put_over k v n true x.t hg hr).1
  have HSZ : Hid (sizeT (putT k v x.t) ≤ 50) := by
    cases n with
    | zero => unfold Hid sizeT; rw [hov.1]; have := hov.2.1; simp; omega
    | succ n => unfold Hid sizeT; rw [hov.1]; have := hov.2.2.1; simp; omega
  have p0 := hbx.c0
  have p1 := hbx.c1
  have HS1 := hid hs1
  clear hb1 hbx hs1 hov hf hg hr
  unfold ptr at HP ⊢
  go_enter Try.func78, Try.ntmps78
  go_wp2_with fail
  refine HP.out.mono ?_
  rintro e w2 ⟨rfl, R2, y, hyg, hyt, hst⟩
  obtain ⟨A', c', K', d', y0, y1⟩ := size_at hst.fo
  rw [hyt] at y0 y1
  have HST := hid (HS1.out.trans hst)
  have HYT := hid hyt
  have HYG := hid hyg
  generalize htk : putT k v x.t = tk at *
  have HTK := hid htk
  have hsz := HSZ.out
  unfold sizeT at hsz
  clear hst hyt htk p0 p1
  go_wp2_with fail
  rw [← hyg]
  clear hyg
  refine (impl_size y.g tk.ps.length tk.ks.length c' d' A' K' _ y0 y1 (by omega) (by omega)).mono ?_
  rintro e w3 ⟨rfl, hd⟩
  have HST3 := hid (HST.out.trans (Step.below HST.out.fo (hd.below _)))
  clear hd y0 y1
  by_cases h4 : tk.ps.length + tk.ks.length ≤ 4
  · have e5 : (tk.ps.length : Int) + (tk.ks.length : Int) ≤ 4 := by omega
    have HEQ : Hid (y.t = putA k v x.t) := by
      rw [Hid, putA, HTK.out, if_pos (show sizeT tk ≤ 4 from h4), HYT.out]
    clear h4
    go_wp2_with fail
    go_ret
    exact ⟨R2, y, rfl, HEQ.out, HST3.out⟩
  · have e5 : ¬ (tk.ps.length : Int) + (tk.ks.length : Int) ≤ 4 := by omega
    have h4' : ¬ sizeT tk ≤ 4 := h4
    have HH := hid (impl_halve y R2 w3 HST3.out.fo (by rw [HYT.out]; exact HSZ.out))
    have H4 := hid h4'
    unfold ptr at HH
    clear h4 h4'
    go_wp2_with fail
    refine HH.out.mono ?_
    rintro e w4 ⟨R4, y', z, rfl, hyg', hyt', hzt, hst4⟩
    have HFIN : Hid (Tree1 w R x (putA k v x.t) (.returned (.pointer (some ⟨w4.heap.size + 1, 0, none⟩))) ((w4.alloc (.cells #[.pointer (some ⟨y.g, 0, none⟩), .pointer (some ⟨z.g, 0, none⟩)] 71)).alloc (.cells #[.slice none 0 0, .slice (some ⟨w4.heap.size, 0, none⟩) 2 2] 121))) := by
      have h5 := (HST3.out.trans hst4).trans (Step.over2 hst4.fo)
      rw [hyg'] at h5
      refine ⟨R4, _, rfl, ?_, h5⟩
      rw [HYT.out] at hyt' hzt
      rw [putA, HTK.out, if_neg H4.out, splitL, if_neg H4.out]
      simp only [hyt', hzt]
    clear hyg' hyt' hzt hst4
    go_wp2_with fail
    go_ret
    exact HFIN.out
end Go.Proofs.Ytcjbjfhndjpmcaa
/-
  The program's join: two kids beside each other become one.
-/
namespace Go.Proofs.Ytcjbjfhndjpmcaa
open Go.RowKit

theorem pair_cut (L : List OH) {i : Nat} (h : i + 1 < L.length) : L.take i ++ ([L[i]'(by omega), L[i + 1]] ++ L.drop (i + 2)) = L := by
  have h1 : L.drop i = L[i]'(by omega) :: L.drop (i + 1) := List.drop_eq_getElem_cons (by omega)
  have h2 : L.drop (i + 1) = L[i + 1] :: L.drop (i + 2) := List.drop_eq_getElem_cons h
  conv => rhs; rw [← List.take_append_drop i L, h1, h2]
  simp
theorem share_allA {a b : BT} {n : Nat} (h : sizeT a + sizeT b ≤ n) : shareA a b n = .node (a.ps ++ b.ps) (a.ks ++ b.ks) := by
  unfold sizeT at h
  rw [shareA, List.take_of_length_le (by simp; omega), List.take_of_length_le (by simp; omega)]
/-- What a walk reads behind a step of two kids. -/
theorem pair_stepped {w w2 : World} {R R2 : Nat → Prop} {g c d kb I : Nat} {A : Option Addr} {ps : PS} {L : List OH} {y1 y2 z1 z2 : OH} (hI : I + 1 < L.length) (h : NodeA w R g A c ps (some ⟨kb, 0, none⟩) d (L.take I ++ ([y1, y2] ++ L.drop (I + 2)))) (hs : Step w R [y1, y2] w2 R2 [z1, z2]) (hg1 : z1.g = y1.g) (hg2 : z2.g = y2.g) :
    NodeA w2 R2 g A c ps (some ⟨kb, 0, none⟩) d (L.take I ++ ([z1, z2] ++ L.drop (I + 2))) ∧ Row2 w2 g 121 (.slice A ps.length c) (.slice (some ⟨kb, 0, none⟩) L.length d) := by
  have hn := h.kids hs (by simp [hg1, hg2])
  refine ⟨hn, ?_⟩
  have hl : (L.take I ++ ([z1, z2] ++ L.drop (I + 2))).length = L.length := by simp; omega
  have := Row2.of_heap hn.heap
  rw [hl] at this
  exact this
/-- What size reads of two kids. -/
theorem delete_at {W : World} {kb d n I : Nat} {gs : List Nat} (ho : OwnQ W 0 (some ⟨kb, 0, none⟩) d gs) (hl : gs.length = n) (hI : I + 2 ≤ n) (hn : n ≤ 1000) :
    Calls Try.prog 172 #[.slice (some ⟨kb, 0, none⟩) n d, .int .i64 ((I : Int) + 1), .int .i64 ((I : Int) + 2)] W (Deleted W kb d (gs.take (I + 1) ++ gs.drop (I + 2))) := by
  subst hl
  have h := impl_delete kb d (I + 1) gs W ho (by omega) hn
  have e : (((I + 1 : Nat) : Int) + 1) = (I : Int) + 2 := by omega
  rw [e] at h
  simpa using h
theorem join_end {w w3 w6 : World} {R R3 : Nat → Prop} {x y1 y2 z1 z2 : OH} {c d kb I m6 : Nat} {A : Option Addr} {ps : PS} {L : List OH} (hI : I + 1 < L.length) (hA : NodeA w R x.g A c ps (some ⟨kb, 0, none⟩) d (L.take I ++ ([y1, y2] ++ L.drop (I + 2)))) (hS : ∀ b, nodeS x.g (some ⟨kb, 0, none⟩) d (L.take I ++ ([y1, y2] ++ L.drop (I + 2))) b → x.S b)
    (h3 : Step w R [y1, y2] w3 R3 [z1, z2]) (hdel : Deleted w3 kb d (((L.take I ++ ([z1, z2] ++ L.drop (I + 2))).map OH.g).take (I + 1) ++ ((L.take I ++ ([z1, z2] ++ L.drop (I + 2))).map OH.g).drop (I + 2)) (.returned (.slice (some ⟨kb, 0, none⟩) m6 d)) w6) :
    Step w R [x] (w6.setCell ⟨x.g, 1, none⟩ (.slice (some ⟨kb, 0, none⟩) m6 d)) R3 [⟨x.g, nodeS x.g (some ⟨kb, 0, none⟩) d (L.take I ++ ([z1] ++ L.drop (I + 2))), .node ps ((L.take I ++ ([z1] ++ L.drop (I + 2))).map OH.t)⟩] := by
  obtain ⟨m, he, hm, ho, hmod⟩ := hdel
  injection he with he
  injection he with e1 e2 e3
  subst e2
  have hti : (L.take I).length = I := by rw [List.length_take]; omega
  have hgs : ((L.take I ++ ([z1, z2] ++ L.drop (I + 2))).map OH.g).take (I + 1) ++ ((L.take I ++ ([z1, z2] ++ L.drop (I + 2))).map OH.g).drop (I + 2) = (L.take I ++ ([z1] ++ L.drop (I + 2))).map OH.g := by
    have e0 : L.take I ++ ([z1, z2] ++ L.drop (I + 2)) = (L.take I ++ [z1]) ++ (z2 :: L.drop (I + 2)) := by simp
    have e2 : L.take I ++ ([z1, z2] ++ L.drop (I + 2)) = (L.take I ++ [z1, z2]) ++ L.drop (I + 2) := by simp
    have h1 : ((L.take I ++ ([z1, z2] ++ L.drop (I + 2))).map OH.g).take (I + 1) = (L.take I ++ [z1]).map OH.g := by
      rw [← List.map_take, e0, List.take_append_of_le_length (by simp; omega), List.take_of_length_le (by simp; omega)]
    have h2 : ((L.take I ++ ([z1, z2] ++ L.drop (I + 2))).map OH.g).drop (I + 2) = (L.drop (I + 2)).map OH.g := by
      rw [← List.map_drop, e2, List.drop_append_of_le_length (by simp; omega), List.drop_eq_nil_iff.2 (by simp; omega), List.nil_append]
    rw [h1, h2]
    simp
  rw [hgs] at ho hm
  have hmo : m6 = ((L.take I ++ ([z1] ++ L.drop (I + 2))).map OH.g).length := hm
  subst hmo
  refine hA.setKids (x := x) rfl hS h3 ?_ (hmod.mono (fun k _ hk' => by simp [Value.ownBlock, hk'])) ho (fun k hk' => ?_)
  · exact List.Sublist.append (List.Sublist.refl _) (List.Sublist.append (by simp) (List.Sublist.refl _))
  · left
    simpa [Value.ownBlock] using hk'

theorem kid_t {L : List OH} {ks : List BT} (h : L.map OH.t = ks) {i : Nat} (hi : i < L.length) (hi' : i < ks.length) : L[i].t = ks[i] := by
  have : (L.map OH.t)[i]'(by rw [List.length_map]; exact hi) = ks[i] := by simp only [h]
  simpa using this

set_option maxHeartbeats 4000000 in
set_option maxRecDepth 100000 in
theorem impl_join (I : Nat) (x : OH) (R : Nat → Prop) (w : World) (ps : PS) (ks : List BT) (hf : FO w R [x]) (ht : x.t = .node ps ks) (hI : I + 1 < ks.length) (h4 : ks.length ≤ 100) (hsz : sizeT ks[I] + sizeT ks[I + 1] ≤ 50) :
    Calls Try.prog 166 #[ptr x.g, .int .i64 I] w (Put1 w R x (.node ps (ks.take I ++ (.node (ks[I].ps ++ ks[I + 1].ps) (ks[I].ks ++ ks[I + 1].ks) :: ks.drop (I + 2))))) := by
  obtain ⟨A, c, K, d, L, hL, hA, hS⟩ := hf.node ht
  have hll : L.length = ks.length := by rw [← hL, List.length_map]
  have hIL : I + 1 < L.length := by omega
  obtain ⟨kb, rfl⟩ := row_at hA.row (by omega)
  have ht1 := kid_t hL (i := I) (by omega) (by omega)
  have ht2 := kid_t hL (i := I + 1) (by omega) hI
  have r1 := ohc_at hA.row (i := I) (by omega)
  have r2 := ohc_at hA.row hIL
  have RX := Row2.of_heap hA.heap
  have x1 := RX.c1
  have HA : Hid (NodeA w R x.g A c ps (some ⟨kb, 0, none⟩) d (L.take I ++ ([L[I]'(by omega), L[I + 1]] ++ L.drop (I + 2)))) := by rw [pair_cut L hIL]; exact hA
  have HSN : Hid (∀ b, nodeS x.g (some ⟨kb, 0, none⟩) d (L.take I ++ ([L[I]'(by omega), L[I + 1]] ++ L.drop (I + 2))) b → x.S b) := by rw [pair_cut L hIL]; exact hS
  generalize hy1 : L[I]'(by omega) = y1 at *
  generalize hy2 : L[I + 1] = y2 at *
  generalize ha : ks[I] = ta at *
  generalize hb : ks[I + 1] = tb at *
  have HTA := hid ht1
  have HTB := hid ht2
  have HSZ := hid hsz
  have HL := hid hL
  have HF := hid hf
  have hza : ta.ps.length ≤ 50 ∧ ta.ks.length ≤ 50 ∧ tb.ps.length ≤ 50 ∧ tb.ks.length ≤ 50 := by unfold sizeT at hsz; omega
  obtain ⟨z1, z2, z3, z4⟩ := hza
  have HNN : Hid ((ta.ps.length : Int) + (ta.ks.length : Int) + ((tb.ps.length : Int) + (tb.ks.length : Int)) = ((sizeT ta + sizeT tb : Nat) : Int)) := by unfold Hid sizeT; omega
  have e1 : (0 : Int) ≤ (I : Int) := by omega
  have e2 : (I : Int) < (L.length : Int) := by omega
  have e3 : (I : Int) + 1 < (L.length : Int) := by omega
  have e4 : (0 : Int) ≤ (I : Int) + 1 := by omega
  have e5 : ((I : Int) + 1).toNat = I + 1 := by omega
  have w1i : IntKind.i64.wrap ((I : Int) + 1) = (I : Int) + 1 := by rw [IntKind.wrap_i64]; omega
  have hl4 : L.length ≤ 100 := by omega
  have hwd : ∀ n, Below w.heap.size w (w.drewN n) := fun n => ((Drawn.refl w).drewN n).below _
  have HWD := hid hwd
  unfold ptr at r1 r2 ⊢
  have HRX := hid RX
  clear hy1 hy2 ha hb ht1 ht2 hsz hL hf hA hS hll hwd RX ht
  go_enter Try.func166, Try.ntmps166
  go_wp2_with fail
  go_quiet (fail)
  rename_i nq
  have hb1 := HWD.out nq
  generalize w.drewN nq = w1 at *
  have S0 : FO w R [y1, y2] := HA.out.fo.sub ((List.sublist_append_left [y1, y2] _).trans (List.sublist_append_right _ _))
  have s1 := Step.below S0 hb1
  obtain ⟨A1, c1, K1, d1, p0, p1⟩ := size_at (s1.fo.sub (M := [y1]) (by simp))
  rw [HTA.out] at p0 p1
  have S1 := hid s1
  clear hb1 S0 s1 x1 r1 r2
  go_wp2_with fail
  refine (impl_size y1.g ta.ps.length ta.ks.length c1 d1 A1 K1 _ p0 p1 (by omega) (by omega)).mono ?_
  rintro e w2 ⟨rfl, hd⟩
  have s2 := S1.out.trans (Step.below S1.out.fo (hd.below _))
  obtain ⟨A2, c2, K2, d2, q0, q1⟩ := size_at (s2.fo.sub (M := [y2]) (by simp))
  rw [HTB.out] at q0 q1
  have S2 := hid s2
  clear s2 hd p0 p1
  go_wp2_with fail
  refine (impl_size y2.g tb.ps.length tb.ks.length c2 d2 A2 K2 _ q0 q1 (by omega) (by omega)).mono ?_
  rintro e w3 ⟨rfl, hd⟩
  have s3 := S2.out.trans (Step.below S2.out.fo (hd.below _))
  have S3 := hid s3
  clear s3 hd q0 q1
  go_wp2_with fail
  rw [HNN.out]
  refine (impl_share y1 y2 R (sizeT ta + sizeT tb) w3 S3.out.fo (by rw [HTA.out, HTB.out]; have := HSZ.out; omega)).mono ?_
  rintro e w4 ⟨rfl, R4, y1', y2', hg1, hg2, ht1, _, hst⟩
  have S4 := hid (S3.out.trans hst)
  obtain ⟨hn4, hrow4⟩ := pair_stepped hIL HA.out S4.out hg1 hg2
  have hk4 := row_kept hn4 (Step.refl (hn4.fo.sub ((List.sublist_append_left [y1', y2'] _).trans (List.sublist_append_right _ _))))
  have HK4 := hid hk4.2
  have HROW4 := hid hrow4
  have HN4 := hid hn4
  have x4 := hrow4.c1
  have hl4' : (L.take I ++ ([y1', y2'] ++ L.drop (I + 2))).length = L.length := by simp; omega
  have HLEN4 := hid hl4'
  have HT1 : Hid (y1'.t = .node (ta.ps ++ tb.ps) (ta.ks ++ tb.ks)) := by rw [Hid, ht1, HTA.out, HTB.out, share_allA (Nat.le_refl _)]
  have w2i : IntKind.i64.wrap ((I : Int) + 2) = (I : Int) + 2 := by rw [IntKind.wrap_i64]; omega
  clear hst hg1 hg2 ht1 hn4 hk4 hrow4 hl4'
  go_wp2_with fail
  refine (delete_at (gs := (L.take I ++ ([y1', y2'] ++ L.drop (I + 2))).map OH.g) HK4.out (by rw [List.length_map]; exact HLEN4.out) (by omega) (by omega)).mono ?_
  rintro e w6 ⟨m6, rfl, hm6, ho6, hmod6⟩
  have HDEL : Hid (Deleted w4 kb d (((L.take I ++ ([y1', y2'] ++ L.drop (I + 2))).map OH.g).take (I + 1) ++ ((L.take I ++ ([y1', y2'] ++ L.drop (I + 2))).map OH.g).drop (I + 2)) (.returned (.slice (some ⟨kb, 0, none⟩) m6 d)) w6) := ⟨m6, rfl, hm6, ho6, hmod6⟩
  have h6 := Row2.of_heap ((hmod6.block x.g HN4.out.lt (fun e => (HN4.out.own kb rfl).1 e.symm)).trans HROW4.out.heap)
  have f6 := h6.fz 1
  have x6 := h6.c1
  have HEQ : Hid (BT.node ps ((L.take I ++ ([y1'] ++ L.drop (I + 2))).map OH.t) = .node ps (ks.take I ++ (.node (ta.ps ++ tb.ps) (ta.ks ++ tb.ks) :: ks.drop (I + 2)))) := by
    rw [Hid, ← HL.out]
    simp [HT1.out]
  have HFIN := hid (join_end hIL HA.out HSN.out S4.out HDEL.out)
  clear h6 hm6 ho6 hmod6 x4
  go_wp2_with fail
  go_end0
  exact ⟨rfl, R4, ⟨x.g, nodeS x.g (some ⟨kb, 0, none⟩) d (L.take I ++ ([y1'] ++ L.drop (I + 2))), _⟩, rfl, HEQ.out, HFIN.out⟩
end Go.Proofs.Ytcjbjfhndjpmcaa
