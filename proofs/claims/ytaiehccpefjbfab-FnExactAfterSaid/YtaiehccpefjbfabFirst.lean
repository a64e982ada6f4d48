/-
  The program's firstWhere, Seek, After, Nth, Before: contracts.
-/
import Derived.Test.YtaiehccpefjbfabCur
namespace Go.Proofs.Ytaiehccpefjbfab
open Go.RowKit Go.Shelf

attribute [local go_sem] Oper.semAt_some

/-- 'a > b', as the walk writes it. -/
def gtB (a b : ByteArray) : Bool := !Op.bytesLess a.toList b.toList && !(a.toList == b.toList)
/-- What a search answers. -/
def foundP (o : Option BB) : Value := .tuple #[.agg #[.string (o.getD (⟨#[]⟩, ⟨#[]⟩)).1, .string (o.getD (⟨#[]⟩, ⟨#[]⟩)).2], .bool o.isSome]
def firstT (f : Nat × BB → Bool) (L : PS) : Option BB := ((turn L).find? f).map (·.2)
theorem firstT_none {f : Nat × BB → Bool} {L : PS} (h : ∀ x ∈ turn L, f x = false) : firstT f L = none := by
  rw [firstT, List.find?_eq_none.2 (fun x hx => by simp [h x hx])]
  rfl
theorem firstT_some {f : Nat × BB → Bool} {L : PS} {pre : List (Nat × BB)} {x : Nat × BB} (hp : pre ++ [x] <+: turn L) (h : ∀ y ∈ pre, f y = false) (hx : f x = true) : firstT f L = some x.2 := by
  obtain ⟨r, hr⟩ := hp
  rw [firstT, ← hr, List.append_assoc, List.find?_append, List.find?_eq_none.2 (fun y hy => by simp [h y hy])]
  simp [hx]

set_option maxHeartbeats 4000000 in
set_option maxRecDepth 100000 in
theorem impl_firstWhere (fis : FuncId) (lb : Array Value) (f : Nat × BB → Bool) (A : Option Addr) (c : Nat) (ns : List ND) (w : World) (hr : RN w w.heap.size A ns) (hf : FitsN ns) (hs : SmallN ns) (hl : ns.length ≤ 1048576)
    (eg : ∀ args w, (callFunc fis args).run Try.prog w = .ok (.enter fis args) w)
    (hC : ∀ (x : Nat × BB) (W : World), Below w.heap.size w W → Calls Try.prog fis (#[.int .i64 (x.1 : Int), .agg #[.string x.2.1, .string x.2.2]] ++ lb) W fun e W' => e = .returned (.bool (f x)) ∧ Below W.heap.size W W') :
    Calls Try.prog 38 #[.slice A ns.length c, .func (.func fis) #[] lb] w fun e w' => e = .returned (foundP (firstT f (pairsOf ns))) ∧ Below w.heap.size w w' := by
  refine callsIn_wide (n := 3) |>.1 ?_
  refine callsIn_of_wp_marks Try.func38 rfl trivial ?_ rfl
  simp only [Try.ntmps38, List.size_toArray, List.length_cons, List.length_nil, Nat.reduceAdd, Nat.reduceSub, Array.replicate_succ, Array.replicate_zero, List.push_toArray, List.append_toArray, List.nil_append, List.cons_append]
  gi_wp2_with (refine ⟨trivial, ?_⟩; gi_at_call 42; refine (callsIn_wide.2 (impl_inTurn A ns.length c _)).mono ?_; rintro e w' ⟨rfl, rfl⟩)
  obtain ⟨W0, hW0⟩ : ∃ W0, (((w.alloc (.cells #[.func (.func fis) #[] lb] 57)).alloc (.cells #[.string ⟨#[]⟩, .string ⟨#[]⟩] 25)).alloc (.cells #[.bool false] 4)).alloc (.cells #[.slice A ns.length c] 28) = W0 := ⟨_, rfl⟩
  have hb0 : Below w.heap.size w W0 := by rw [← hW0]; exact (below3 (Below.refl _ _) (Nat.le_refl _)).alloc (by simp; omega) _
  have hsz : W0.heap.size = w.heap.size + 4 := by rw [← hW0]; simp
  have o0 : One W0 w.heap.size (.func (.func fis) #[] lb) 57 := by
    rw [← hW0]; exact (One.new w _ _).below ((below3 (Below.refl _ _) (Nat.le_refl _)))
  have o1 : Two W0 (w.heap.size + 1) 25 (.string ⟨#[]⟩) (.string ⟨#[]⟩) := by
    rw [← hW0]
    have := (Two.new (w.alloc (.cells #[.func (.func fis) #[] lb] 57)) 25 (.string ⟨#[]⟩) (.string ⟨#[]⟩)).below (((Below.refl _ _).alloc (Nat.le_refl _) (.cells #[.bool false] 4)).alloc (by simp) (.cells #[.slice A ns.length c] 28))
    simpa using this
  have o2 : One W0 (w.heap.size + 1 + 1) (.bool false) 4 := by
    rw [← hW0]
    have := (One.new ((w.alloc (.cells #[.func (.func fis) #[] lb] 57)).alloc (.cells #[.string ⟨#[]⟩, .string ⟨#[]⟩] 25)) (.bool false) 4).below ((Below.refl _ _).alloc (Nat.le_refl _) (.cells #[.slice A ns.length c] 28))
    simpa using this
  have o3 : One W0 (w.heap.size + 1 + 1 + 1) (.slice A ns.length c) 28 := by
    rw [← hW0]
    have := One.new (((w.alloc (.cells #[.func (.func fis) #[] lb] 57)).alloc (.cells #[.string ⟨#[]⟩, .string ⟨#[]⟩] 25)).alloc (.cells #[.bool false] 4)) (.slice A ns.length c) 28
    simpa using this
  have hseq := inTurn_seq (w.heap.size + 1 + 1 + 1) w.heap.size A c ns W0 (by omega) (hr.below hb0) hf hs hl o3
  have hcap : Hid ((pairsOf ns).length ≤ 400) := (pairsOf_rise hs hf).1
  have HC := hid hC
  rw [hW0]
  clear hW0 hC
  refine wpIn_rangeFunc_X (gf := 60) (lb := #[.pointer (some ⟨w.heap.size + 1 + 1 + 1, 0, none⟩)]) rfl (enters_of Try.func60 (by kernel_rfl) rfl) hseq (Below.refl _ _) (by omega) (fun _ => rfl)
    (fun _ pre W => Below w.heap.size w W ∧ One W w.heap.size (.func (.func fis) #[] lb) 57 ∧ Two W (w.heap.size + 1) 25 (.string ⟨#[]⟩) (.string ⟨#[]⟩) ∧ One W (w.heap.size + 1 + 1) (.bool false) 4 ∧ ∀ x ∈ pre, f x = false)
    (fun cd _ pre W => cd = .ret ∧ Below w.heap.size w W ∧ ∃ pre0 x, pre = pre0 ++ [x] ∧ Two W (w.heap.size + 1) 25 (.string x.2.1) (.string x.2.2) ∧ One W (w.heap.size + 1 + 1) (.bool true) 4 ∧ (∀ y ∈ pre0, f y = false) ∧ f x = true)
    (fun h pre X Y row hs hg hr => ⟨below_abx hs.1 (Nat.le_refl _) (by omega) hg hr, hs.2.1.abx (by omega) hg hr, hs.2.2.1.abx (.inl (by omega)) hg hr, hs.2.2.2.1.abx (by omega) hg hr, hs.2.2.2.2⟩)
    (fun cd h pre X Y row hs hg hr => by
      obtain ⟨h1, h2, pre0, x, h3, h4, h5, h6⟩ := hs
      exact ⟨h1, below_abx h2 (Nat.le_refl _) (by omega) hg hr, pre0, x, h3, h4.abx (.inl (by omega)) hg hr, h5.abx (by omega) hg hr, h6⟩)
    (fun _ _ _ h _ => h)
    ⟨hb0, o0, o1, o2, by simp⟩
    (fun h pre x a' W => ∃ b, h ≤ b ∧ Two W b 25 (.string x.2.1) (.string x.2.2) ∧ a' = { tmps := #[.slice A ns.length c, .func (.func fis) #[] lb, undef, .pointer (some ⟨w.heap.size, 0, none⟩), .pointer (some ⟨w.heap.size + 1, 0, none⟩), .pointer (some ⟨w.heap.size + 1 + 1, 0, none⟩), .int .i64 (x.1 : Int), .pointer (some ⟨b, 0, none⟩), .slice A ns.length c, .func (.func 60) #[] #[.pointer (some ⟨w.heap.size + 1 + 1 + 1, 0, none⟩)], .int .i64 (x.1 : Int), .agg #[.string x.2.1, .string x.2.2], undef, undef, undef, undef, undef, undef], defers := [] } ∧
      Below w.heap.size w W ∧ One W w.heap.size (.func (.func fis) #[] lb) 57 ∧ Two W (w.heap.size + 1) 25 (.string ⟨#[]⟩) (.string ⟨#[]⟩) ∧ One W (w.heap.size + 1 + 1) (.bool false) 4 ∧ ∀ x ∈ pre, f x = false)
    (fun x a' h pre X Y row hs hg hr => by
      obtain ⟨b, h1, h2, h3, h4, h5, h6, h7, h8⟩ := hs
      exact ⟨b, h1, h2.abx (.inr h1) hg hr, h3, below_abx h4 (Nat.le_refl _) (by omega) hg hr, h5.abx (by omega) hg hr, h6.abx (.inl (by omega)) hg hr, h7.abx (by omega) hg hr, h8⟩)
    ?assign ?body ?done ?stop
  case assign =>
    rintro l m h pre x W K hh hhW ⟨h4, h5, h6, h7, h8⟩ _ hK
    simp only [encT]
    gi_wp2
    have hbb : Below W.heap.size W (W.alloc (.cells #[.string x.2.1, .string x.2.2] 25)) := (Below.refl _ _).alloc (Nat.le_refl _) _
    refine hK _ _ ((KeptX.refl _ _ _ _).alloc (by omega) hhW _) ⟨W.heap.size, hhW, Two.new _ _ _ _, rfl, h4.alloc (by omega) _, h5.below hbb, h6.below hbb, h7.below hbb, h8⟩
  case body =>
    rintro l m h pre x a' W hh hhW ⟨b, h1, h2, rfl, h4, h5, h6, h7, h8⟩ hlen
    have c0 := h2.c0
    have c1 := h2.c1
    have c5 := h5.c
    have HCC := hid (HC.out x W h4)
    have H4 := hid h4
    have H6 := hid h6
    have H5 := hid h5
    have H7 := hid h7
    have H2 := hid h2
    have HX : Hid (∀ y ∈ pre, f y = false) := h8
    have HH := hid hh
    have hne1 : b ≠ w.heap.size := by omega
    clear h2 h4 h5 h6 h7 h8 hlen hseq o0 o1 o2 o3 hb0 hr hf hs HC
    cases hfx : f x
    · rw [hfx] at HCC
      have HFX := hid hfx
      clear hfx
      gi_wp2_with (refine ⟨trivial, hdw _, ?_⟩; refine (CallsIn.inRound l (callsIn_wide.2 HCC.out)).mono ?_; rintro e W2 ⟨rfl, hb2⟩; have HB2 := hid hb2; clear hb2)
      refine ⟨KeptX.of_below HB2.out (by have := H4.out.size; omega) hhW, H4.out.trans (HB2.out.mono H4.out.size), H5.out.below HB2.out, H6.out.below HB2.out, H7.out.below HB2.out, fun y hy => ?_⟩
      rcases List.mem_append.1 hy with hy | hy
      · exact HX.out y hy
      · obtain rfl := List.mem_singleton.1 hy
        exact HFX.out
    · rw [hfx] at HCC
      have HFX := hid hfx
      clear hfx
      gi_wp2_with (refine ⟨trivial, hdw _, ?_⟩; refine (CallsIn.inRound l (callsIn_wide.2 HCC.out)).mono ?_; rintro e W2 ⟨rfl, hb2⟩; have HB2 := hid hb2; have q0 := (H2.out.below hb2).c0; have q1 := (H2.out.below hb2).c1; have t0 := (H6.out.below hb2).c0; have t1 := (H6.out.below hb2).c1; have t2 := (H6.out.below hb2).fz (j := 0); have t3 := (H6.out.below hb2).fz (j := 1); have u0 := (H7.out.below hb2).c; have u1 := (H7.out.below hb2).fz; clear hb2)
      have k0 : KeptX w.heap.size W0.heap.size h W W2 := KeptX.of_below HB2.out (by have := H4.out.size; omega) hhW
      have B2 := H4.out.trans (HB2.out.mono H4.out.size)
      refine ⟨((k0.set (by omega) (.inl (by omega)) _).set (by omega) (.inl (by omega)) _).set (by omega) (.inl (by omega)) _, rfl, ((B2.setCell (p := ⟨w.heap.size + 1, 0, none⟩) (by simp) _).setCell (p := ⟨w.heap.size + 1, 1, none⟩) (by simp) _).setCell (p := ⟨w.heap.size + 1 + 1, 0, none⟩) (by simp; omega) _, pre, x, rfl, ?_, ?_, HX.out, HFX.out⟩
      · exact (((H6.out.below HB2.out).set0 _).set1 _).other (by omega) _
      · exact (((H7.out.below HB2.out).other (by omega) _).other (by omega) _).set _
  case done =>
    rintro D h xs W hD hDh rfl ⟨h4, h5, h6, h7, h8⟩ hK
    have t0 := h6.c0
    have t1 := h6.c1
    have t2 := h6.fz (j := 0)
    have t3 := h6.fz (j := 1)
    have u0 := h7.c
    have u1 := h7.fz
    have HE := hid (firstT_none h8)
    have HB := hid h4
    have HD := hid hD
    have HK := hid hK
    have H6 := hid h6
    have H7 := hid h7
    clear h4 h5 h6 h7 h8 hseq o0 o1 o2 o3 hb0 hr hf hs hD hDh hK
    gi_wp2
    obtain ⟨W5, hW5⟩ : ∃ W5, ((W.setCell ⟨w.heap.size + 1, 0, none⟩ (.string ⟨#[]⟩)).setCell ⟨w.heap.size + 1, 1, none⟩ (.string ⟨#[]⟩)).setCell ⟨w.heap.size + 1 + 1, 0, none⟩ (.bool false) = W5 := ⟨_, rfl⟩
    have hp1 : D ≠ w.heap.size + 1 := by have := HD.out; omega
    have hp2 : D ≠ w.heap.size + 1 + 1 := by have := HD.out; omega
    have hK5 : W5.heap[D]? = some (.deferred (some [])) := by
      rw [← hW5]
      exact (Below.heap_setCell _ _ _ _ hp2).trans ((Below.heap_setCell _ _ _ _ hp1).trans ((Below.heap_setCell _ _ _ _ hp1).trans HK.out))
    have hB5 : Below w.heap.size w W5 := by
      rw [← hW5]
      exact ((HB.out.setCell (p := ⟨w.heap.size + 1, 0, none⟩) (by simp) _).setCell (p := ⟨w.heap.size + 1, 1, none⟩) (by simp) _).setCell (p := ⟨w.heap.size + 1 + 1, 0, none⟩) (by simp; omega) _
    have h65 : Two W5 (w.heap.size + 1) 25 (.string ⟨#[]⟩) (.string ⟨#[]⟩) := by
      rw [← hW5]
      exact ((H6.out.set0 _).set1 _).other (by omega) _
    have h75 : One W5 (w.heap.size + 1 + 1) (.bool false) 4 := by
      rw [← hW5]
      exact ((H7.out.other (by omega) _).other (by omega) _).set _
    rw [hW5]
    clear hW5 t0 t1 t2 t3 u0 u1
    refine ⟨by simp, .inl ⟨_, _, rfl, run_takeDeferred hK5, ?_⟩⟩
    have y6 := h65.kept (World.putObj_heap_other (w := W5) (o := .deferred none) hp1.symm)
    have y7 : One (W5.putObj D (.deferred none)) (w.heap.size + 1 + 1) (.bool false) 4 := (World.putObj_heap_other hp2.symm).trans h75
    have z0 := y6.c0
    have z1 := y6.c1
    have z2 := y7.c
    refine ⟨foundP none, ?_, ?_, below_end hB5 hK5 (by have := HD.out; omega)⟩
    · simp [results, Try.f38, go_sem, z0, z1, z2, foundP]
    · rw [HE.out]
  case stop =>
    rintro D h cd pre W hD hDh hSp ⟨rfl, h4, pre0, x, rfl, h6, h7, h8, h9⟩ hK
    have HE := hid (firstT_some hSp h8 h9)
    have HB := hid h4
    have HD := hid hD
    have HK := hid hK
    have H6 := hid h6
    have H7 := hid h7
    clear h4 h6 h7 h8 h9 hSp hseq o0 o1 o2 o3 hb0 hr hf hs hD hDh
    gi_wp2
    refine ⟨by simp, .inl ⟨_, _, rfl, run_takeDeferred hK, ?_⟩⟩
    have hp1 : D ≠ w.heap.size + 1 := by have := HD.out; omega
    have hp2 : D ≠ w.heap.size + 1 + 1 := by have := HD.out; omega
    have y6 := H6.out.kept (World.putObj_heap_other (w := W) (o := .deferred none) hp1.symm)
    have y7 : One (W.putObj D (.deferred none)) (w.heap.size + 1 + 1) (.bool true) 4 := (World.putObj_heap_other hp2.symm).trans H7.out
    have z0 := y6.c0
    have z1 := y6.c1
    have z2 := y7.c
    refine ⟨foundP (some x.2), ?_, ?_, below_end HB.out HK.out (by have := HD.out; omega)⟩
    · simp [results, Try.f38, go_sem, z0, z1, z2, foundP]
    · rw [HE.out]

theorem two_put {w : World} {b : Nat} {t : TypeId} {x y : Value} (h : Two w b t x y) (u v : Value) : Two ((w.setCell ⟨b, 0, none⟩ u).setCell ⟨b, 1, none⟩ v) b t u v := (h.set0 u).set1 v

set_option maxHeartbeats 1000000 in
set_option maxRecDepth 100000 in
theorem impl_Seek1 (kb : Nat) (k : ByteArray) (x : Nat × BB) (w : World) (h : One w kb (.string k) 9) :
    Calls Try.prog 39 #[.int .i64 (x.1 : Int), .agg #[.string x.2.1, .string x.2.2], .pointer (some ⟨kb, 0, none⟩)] w fun e w' => e = .returned (.bool (!ltS x.2.1 k)) ∧ Below w.heap.size w w' := by
  have c := (h.below ((Below.refl _ _).alloc (Nat.le_refl _) (.cells #[.string x.2.1, .string x.2.2] 25))).c
  have HB : Hid (Below w.heap.size w (w.alloc (.cells #[.string x.2.1, .string x.2.2] 25))) := (Below.refl _ _).alloc (Nat.le_refl _) _
  clear h
  cases h1 : ltS x.2.1 k
  · have g1 : Op.bytesLess x.2.1.toList k.toList = false := h1
    have HE := hid h1
    clear h1
    go_enter Try.func39, Try.ntmps39
    go_wp2_with fail
    go_ret
    exact ⟨by rfl, HB.out⟩
  · have g1 : Op.bytesLess x.2.1.toList k.toList = true := h1
    have HE := hid h1
    clear h1
    go_enter Try.func39, Try.ntmps39
    go_wp2_with fail
    go_ret
    exact ⟨by rfl, HB.out⟩

set_option maxHeartbeats 1000000 in
set_option maxRecDepth 100000 in
theorem impl_After1 (kb : Nat) (k : ByteArray) (x : Nat × BB) (w : World) (h : One w kb (.string k) 9) :
    Calls Try.prog 41 #[.int .i64 (x.1 : Int), .agg #[.string x.2.1, .string x.2.2], .pointer (some ⟨kb, 0, none⟩)] w fun e w' => e = .returned (.bool (gtB x.2.1 k)) ∧ Below w.heap.size w w' := by
  have c := (h.below ((Below.refl _ _).alloc (Nat.le_refl _) (.cells #[.string x.2.1, .string x.2.2] 25))).c
  have HB : Hid (Below w.heap.size w (w.alloc (.cells #[.string x.2.1, .string x.2.2] 25))) := (Below.refl _ _).alloc (Nat.le_refl _) _
  clear h
  go_enter Try.func41, Try.ntmps41
  go_wp2_with fail
  go_ret
  exact ⟨rfl, HB.out⟩

set_option maxHeartbeats 1000000 in
set_option maxRecDepth 100000 in
theorem impl_Nth1 (kb : Nat) (i : Int) (x : Nat × BB) (w : World) (h : One w kb (.int .i64 i) 2) :
    Calls Try.prog 44 #[.int .i64 (x.1 : Int), .agg #[.string x.2.1, .string x.2.2], .pointer (some ⟨kb, 0, none⟩)] w fun e w' => e = .returned (.bool ((x.1 : Int) == i)) ∧ Below w.heap.size w w' := by
  have c := (h.below ((Below.refl _ _).alloc (Nat.le_refl _) (.cells #[.string x.2.1, .string x.2.2] 25))).c
  have HB : Hid (Below w.heap.size w (w.alloc (.cells #[.string x.2.1, .string x.2.2] 25))) := (Below.refl _ _).alloc (Nat.le_refl _) _
  clear h
  cases h1 : ((x.1 : Int) == i)
  · have g1 : ((x.1 : Int) == i) = false := h1
    have HE := hid h1
    clear h1
    go_enter Try.func44, Try.ntmps44
    go_wp2_with fail
    go_ret
    exact ⟨by rfl, HB.out⟩
  · have g1 : ((x.1 : Int) == i) = true := h1
    have HE := hid h1
    clear h1
    go_enter Try.func44, Try.ntmps44
    go_wp2_with fail
    go_ret
    exact ⟨by rfl, HB.out⟩

set_option maxHeartbeats 1000000 in
set_option maxRecDepth 100000 in
theorem impl_Seek (A : Option Addr) (c : Nat) (ns : List ND) (k : ByteArray) (w : World) (hr : RN w w.heap.size A ns) (hf : FitsN ns) (hs : SmallN ns) (hl : ns.length ≤ 1048576) :
    Calls Try.prog 14 #[.slice A ns.length c, .string k] w fun e w' => e = .returned (foundP (firstT (fun x => !ltS x.2.1 k) (pairsOf ns))) ∧ Below w.heap.size w w' := by
  obtain ⟨W0, hW0⟩ : ∃ W0, (w.alloc (.cells #[.string k] 9)).alloc (.cells #[.string ⟨#[]⟩, .string ⟨#[]⟩] 25) = W0 := ⟨_, rfl⟩
  have hb0 : Below w.heap.size w W0 := by rw [← hW0]; exact ((Below.refl _ _).alloc (Nat.le_refl _) _).alloc (by simp) _
  have hsz : W0.heap.size = w.heap.size + 2 := by rw [← hW0]; simp
  have o0 : One W0 w.heap.size (.string k) 9 := by
    rw [← hW0]; exact (One.new w _ _).below ((Below.refl _ _).alloc (Nat.le_refl _) _)
  have o1 : Two W0 (w.heap.size + 1) 25 (.string ⟨#[]⟩) (.string ⟨#[]⟩) := by
    rw [← hW0]
    have := Two.new (w.alloc (.cells #[.string k] 9)) 25 (.string ⟨#[]⟩) (.string ⟨#[]⟩)
    simpa using this
  have HC := hid (impl_firstWhere 39 #[.pointer (some ⟨w.heap.size, 0, none⟩)] (fun x => !ltS x.2.1 k) A c ns W0 ((hr.below hb0).more hb0.size) hf hs hl (enters_of Try.func39 (by kernel_rfl) rfl)
    (fun x W hb => impl_Seek1 w.heap.size k x W (o0.belowB hb (by omega))))
  have O1 := hid o1
  have HB0 := hid hb0
  generalize firstT (fun x : Nat × BB => !ltS x.2.1 k) (pairsOf ns) = o at HC ⊢
  clear hr hf hs o0 o1 hb0 hsz
  subst hW0
  go_enter Try.func14, Try.ntmps14
  go_wp2_with fail
  refine HC.out.mono ?_
  rintro e w3 ⟨rfl, hb3⟩
  have HB3 := hid (HB0.out.trans (hb3.mono HB0.out.size))
  have t0 := (O1.out.below hb3).c0
  have t1 := (O1.out.below hb3).c1
  have t2 := (O1.out.below hb3).fz (j := 0)
  have t3 := (O1.out.below hb3).fz (j := 1)
  have O3 := hid (O1.out.below hb3)
  clear hb3
  unfold foundP
  go_wp2_with fail
  have z := two_put O3.out (.string (o.getD (⟨#[]⟩, ⟨#[]⟩)).1) (.string (o.getD (⟨#[]⟩, ⟨#[]⟩)).2)
  have z0 := z.c0
  have z1 := z.c1
  refine bodyPost_ret (v := foundP o) (by simp [results, Try.results14, go_sem, z0, z1, foundP]) rfl ⟨rfl, ?_⟩
  exact (HB3.out.setCell (p := ⟨w.heap.size + 1, 0, none⟩) (by simp) _).setCell (p := ⟨w.heap.size + 1, 1, none⟩) (by simp) _

set_option maxHeartbeats 1000000 in
set_option maxRecDepth 100000 in
theorem impl_After (A : Option Addr) (c : Nat) (ns : List ND) (k : ByteArray) (w : World) (hr : RN w w.heap.size A ns) (hf : FitsN ns) (hs : SmallN ns) (hl : ns.length ≤ 1048576) :
    Calls Try.prog 18 #[.slice A ns.length c, .string k] w fun e w' => e = .returned (foundP (firstT (fun x => gtB x.2.1 k) (pairsOf ns))) ∧ Below w.heap.size w w' := by
  obtain ⟨W0, hW0⟩ : ∃ W0, (w.alloc (.cells #[.string k] 9)).alloc (.cells #[.string ⟨#[]⟩, .string ⟨#[]⟩] 25) = W0 := ⟨_, rfl⟩
  have hb0 : Below w.heap.size w W0 := by rw [← hW0]; exact ((Below.refl _ _).alloc (Nat.le_refl _) _).alloc (by simp) _
  have hsz : W0.heap.size = w.heap.size + 2 := by rw [← hW0]; simp
  have o0 : One W0 w.heap.size (.string k) 9 := by
    rw [← hW0]; exact (One.new w _ _).below ((Below.refl _ _).alloc (Nat.le_refl _) _)
  have o1 : Two W0 (w.heap.size + 1) 25 (.string ⟨#[]⟩) (.string ⟨#[]⟩) := by
    rw [← hW0]
    have := Two.new (w.alloc (.cells #[.string k] 9)) 25 (.string ⟨#[]⟩) (.string ⟨#[]⟩)
    simpa using this
  have HC := hid (impl_firstWhere 41 #[.pointer (some ⟨w.heap.size, 0, none⟩)] (fun x => gtB x.2.1 k) A c ns W0 ((hr.below hb0).more hb0.size) hf hs hl (enters_of Try.func41 (by kernel_rfl) rfl)
    (fun x W hb => impl_After1 w.heap.size k x W (o0.belowB hb (by omega))))
  have O1 := hid o1
  have HB0 := hid hb0
  generalize firstT (fun x : Nat × BB => gtB x.2.1 k) (pairsOf ns) = o at HC ⊢
  clear hr hf hs o0 o1 hb0 hsz
  subst hW0
  go_enter Try.func18, Try.ntmps18
  go_wp2_with fail
  refine HC.out.mono ?_
  rintro e w3 ⟨rfl, hb3⟩
  have HB3 := hid (HB0.out.trans (hb3.mono HB0.out.size))
  have t0 := (O1.out.below hb3).c0
  have t1 := (O1.out.below hb3).c1
  have t2 := (O1.out.below hb3).fz (j := 0)
  have t3 := (O1.out.below hb3).fz (j := 1)
  have O3 := hid (O1.out.below hb3)
  clear hb3
  unfold foundP
  go_wp2_with fail
  have z := two_put O3.out (.string (o.getD (⟨#[]⟩, ⟨#[]⟩)).1) (.string (o.getD (⟨#[]⟩, ⟨#[]⟩)).2)
  have z0 := z.c0
  have z1 := z.c1
  refine bodyPost_ret (v := foundP o) (by simp [results, Try.results18, go_sem, z0, z1, foundP]) rfl ⟨rfl, ?_⟩
  exact (HB3.out.setCell (p := ⟨w.heap.size + 1, 0, none⟩) (by simp) _).setCell (p := ⟨w.heap.size + 1, 1, none⟩) (by simp) _

set_option maxHeartbeats 1000000 in
set_option maxRecDepth 100000 in
theorem impl_Nth (A : Option Addr) (c : Nat) (ns : List ND) (i : Int) (w : World) (hr : RN w w.heap.size A ns) (hf : FitsN ns) (hs : SmallN ns) (hl : ns.length ≤ 1048576) :
    Calls Try.prog 24 #[.slice A ns.length c, .int .i64 i] w fun e w' => e = .returned (foundP (firstT (fun x => (x.1 : Int) == i) (pairsOf ns))) ∧ Below w.heap.size w w' := by
  obtain ⟨W0, hW0⟩ : ∃ W0, (w.alloc (.cells #[.int .i64 i] 2)).alloc (.cells #[.string ⟨#[]⟩, .string ⟨#[]⟩] 25) = W0 := ⟨_, rfl⟩
  have hb0 : Below w.heap.size w W0 := by rw [← hW0]; exact ((Below.refl _ _).alloc (Nat.le_refl _) _).alloc (by simp) _
  have hsz : W0.heap.size = w.heap.size + 2 := by rw [← hW0]; simp
  have o0 : One W0 w.heap.size (.int .i64 i) 2 := by
    rw [← hW0]; exact (One.new w _ _).below ((Below.refl _ _).alloc (Nat.le_refl _) _)
  have o1 : Two W0 (w.heap.size + 1) 25 (.string ⟨#[]⟩) (.string ⟨#[]⟩) := by
    rw [← hW0]
    have := Two.new (w.alloc (.cells #[.int .i64 i] 2)) 25 (.string ⟨#[]⟩) (.string ⟨#[]⟩)
    simpa using this
  have HC := hid (impl_firstWhere 44 #[.pointer (some ⟨w.heap.size, 0, none⟩)] (fun x => (x.1 : Int) == i) A c ns W0 ((hr.below hb0).more hb0.size) hf hs hl (enters_of Try.func44 (by kernel_rfl) rfl)
    (fun x W hb => impl_Nth1 w.heap.size i x W (o0.belowB hb (by omega))))
  have O1 := hid o1
  have HB0 := hid hb0
  generalize firstT (fun x : Nat × BB => (x.1 : Int) == i) (pairsOf ns) = o at HC ⊢
  clear hr hf hs o0 o1 hb0 hsz
  subst hW0
  go_enter Try.func24, Try.ntmps24
  go_wp2_with fail
  refine HC.out.mono ?_
  rintro e w3 ⟨rfl, hb3⟩
  have HB3 := hid (HB0.out.trans (hb3.mono HB0.out.size))
  have t0 := (O1.out.below hb3).c0
  have t1 := (O1.out.below hb3).c1
  have t2 := (O1.out.below hb3).fz (j := 0)
  have t3 := (O1.out.below hb3).fz (j := 1)
  have O3 := hid (O1.out.below hb3)
  clear hb3
  unfold foundP
  go_wp2_with fail
  have z := two_put O3.out (.string (o.getD (⟨#[]⟩, ⟨#[]⟩)).1) (.string (o.getD (⟨#[]⟩, ⟨#[]⟩)).2)
  have z0 := z.c0
  have z1 := z.c1
  refine bodyPost_ret (v := foundP o) (by simp [results, Try.results24, go_sem, z0, z1, foundP]) rfl ⟨rfl, ?_⟩
  exact (HB3.out.setCell (p := ⟨w.heap.size + 1, 0, none⟩) (by simp) _).setCell (p := ⟨w.heap.size + 1, 1, none⟩) (by simp) _

/-- The last one ahead of a key. -/
def beforeP (L : PS) (k : ByteArray) : Option BB := firstT (fun x => (x.1 : Int) == ((cnt L k : Nat) : Int) - 1) L

set_option maxHeartbeats 1000000 in
set_option maxRecDepth 100000 in
theorem impl_Before (A : Option Addr) (c : Nat) (ns : List ND) (k : ByteArray) (w : World) (hr : RN w w.heap.size A ns) (hf : FitsN ns) (hs : SmallN ns) (hl : ns.length ≤ 1048576) :
    Calls Try.prog 20 #[.slice A ns.length c, .string k] w fun e w' => e = .returned (foundP (beforeP (pairsOf ns) k)) ∧ Below w.heap.size w w' := by
  obtain ⟨W0, hW0⟩ : ∃ W0, w.alloc (.cells #[.string ⟨#[]⟩, .string ⟨#[]⟩] 25) = W0 := ⟨_, rfl⟩
  have hb0 : Below w.heap.size w W0 := by rw [← hW0]; exact (Below.refl _ _).alloc (Nat.le_refl _) _
  have o1 : Two W0 w.heap.size 25 (.string ⟨#[]⟩) (.string ⟨#[]⟩) := by
    rw [← hW0]
    exact Two.new _ _ _ _
  have hcap := (pairsOf_rise hs hf).1
  have hcn := cnt_le (pairsOf ns) k
  have HR := hid ((hr.below hb0).more hb0.size)
  have HC := hid (impl_Rank A c ns k W0 HR.out hf hs hl)
  have HN : Hid (∀ (i : Int) (W : World), Below W0.heap.size W0 W → Calls Try.prog 24 #[.slice A ns.length c, .int .i64 i] W fun e w' => e = .returned (foundP (firstT (fun x => (x.1 : Int) == i) (pairsOf ns))) ∧ Below W.heap.size W w') := fun i W hb =>
    impl_Nth A c ns i W ((HR.out.below hb).more hb.size) hf hs hl
  have HO : Hid (firstT (fun x => (x.1 : Int) == ((cnt (pairsOf ns) k : Nat) : Int) - 1) (pairsOf ns) = beforeP (pairsOf ns) k) := rfl
  have O1 := hid o1
  have HB0 := hid hb0
  have hcc : cnt (pairsOf ns) k ≤ 400 := by omega
  generalize beforeP (pairsOf ns) k = o at HO ⊢
  generalize hgc : cnt (pairsOf ns) k = m at *
  clear hgc
  clear hr hf hs o1 hb0 hcap hcn
  subst hW0
  go_enter Try.func20, Try.ntmps20
  go_wp2_with fail
  refine HC.out.mono ?_
  rintro e w3 ⟨rfl, hb3⟩
  have HB3 := hid hb3
  have HNW := hid (HN.out ((m : Int) - 1) w3 hb3)
  rw [HO.out] at HNW
  have O3 := hid (O1.out.below hb3)
  clear hb3 HC
  go_wp2_with fail
  refine HNW.out.mono ?_
  rintro e w4 ⟨rfl, hb4⟩
  have HB4 := hid (HB0.out.trans ((HB3.out.trans (hb4.mono HB3.out.size)).mono HB0.out.size))
  have t0 := (O3.out.below hb4).c0
  have t1 := (O3.out.below hb4).c1
  have t2 := (O3.out.below hb4).fz (j := 0)
  have t3 := (O3.out.below hb4).fz (j := 1)
  have O4 := hid (O3.out.below hb4)
  clear hb4
  unfold foundP
  go_wp2_with fail
  have z := two_put O4.out (.string (o.getD (⟨#[]⟩, ⟨#[]⟩)).1) (.string (o.getD (⟨#[]⟩, ⟨#[]⟩)).2)
  have z0 := z.c0
  have z1 := z.c1
  refine bodyPost_ret (v := foundP o) (by simp [results, Try.results20, go_sem, z0, z1, foundP]) rfl ⟨rfl, ?_⟩
  exact (HB4.out.setCell (p := ⟨w.heap.size, 0, none⟩) (Nat.le_refl _) _).setCell (p := ⟨w.heap.size, 1, none⟩) (Nat.le_refl _) _
end Go.Proofs.Ytaiehccpefjbfab
