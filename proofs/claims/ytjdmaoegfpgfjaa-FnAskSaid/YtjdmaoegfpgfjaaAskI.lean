/-
  The program's Ask.
-/
import Derived.Test.YtjdmaoegfpgfjaaAskS
import Derived.Test.YtjdmaoegfpgfjaaFreeI
import Derived.Deep.CutRange
namespace Go.Proofs.Ytjdmaoegfpgfjaa
open Go.RowKit

theorem own_more3 {w : World} {B g n C : Nat} {e : TypeId} {cs : List Value} (h : w.ownsRow B e 3 (.slice (some ⟨g, 0, none⟩) n C) n cs) (hC : n + 1 ≤ C) : ∃ us, us.length = 3 ∧ w.ownsRow B e 3 (.slice (some ⟨g, 0, none⟩) (n + 1) C) (n + 1) (cs ++ us) := by
  obtain ⟨h1, h2⟩ := h
  rcases h2 with ⟨hv, _⟩ | ⟨q, cap, cur, hv, hq, hh, hn, hm, hs, ht⟩
  · cases hv
  · injection hv with e1 e2 e3
    injection e1 with e1
    injection e1 with e1
    subst e1 e3
    have hl : ((cur.toList.drop (n * 3)).take 3).length = 3 := by simp; omega
    refine ⟨(cur.toList.drop (n * 3)).take 3, hl, by rw [List.length_append, h1, hl]; omega, .inr ⟨_, _, cur, rfl, hq, hh, hC, hm, hs, ?_⟩⟩
    rw [← ht, show (n + 1) * 3 = n * 3 + 3 by omega, List.take_add]
/-- An append leaves the row as it was that it was made to. -/
theorem append_keeps {P : Program} (w : World) (t ty : TypeId) (i : TypeInfo) (ht : P.underlying t = some (.slice 49)) (hi : P.info? 49 = some i)
    (hz : i.zero = some (.agg #[.int .i64 0, .string ⟨#[]⟩, .int .i64 0])) (hsize : i.size = 3) (hby : i.bytes = 32)
    (B : Nat) (A0 : Option Addr) (c0 : Nat) (qs : HS) (hown : OwnH w B A0 c0 qs) (B' : Nat) (A : Option Addr) (c : Nat) (x : HD) (hr : RH w B' A [x])
    (hlen : qs.length + 1 ≤ 4000000) {v' : Value} {w' : World} (hrun : (Builtin.append_ #[t, t] ty #[.slice A0 qs.length c0, .slice A 1 c]).run P w = .ok v' w') : OwnH w' B A0 c0 qs := by
  obtain ⟨b, off, rfl, hb, hc0, hc1, hc2⟩ := hr.at_ (k := 0) (by simp)
  rcases hown.2 with ⟨hv, hn⟩ | ⟨g, cap, cur, hv, hq⟩
  · have h0 : qs = [] := List.eq_nil_of_length_eq_zero hn
    subst h0
    injection hv with e1 e2 e3
    subst e1 e3
    exact OwnH.nil_ _ _
  · injection hv with e1 e2 e3
    subst e1 e3
    simp only [List.getElem_cons_zero, Nat.zero_mul, Nat.add_zero] at hc0 hc1 hc2
    have hnews : ∀ j u, (hcells [x])[j]? = some u → w.cell? ((⟨b, off, none⟩ : Addr).add j) = some u := by
      intro j u hu
      rw [Addr.add_lit]
      match j, hu with
      | 0, hu => simp [hcells] at hu; subst hu; exact hc0
      | 1, hu => simp [hcells] at hu; subst hu; exact hc1
      | 2, hu => simp [hcells] at hu; subst hu; exact hc2
      | j + 3, hu => simp [hcells] at hu
    by_cases hroom : qs.length + 1 ≤ c0
    · obtain ⟨us, hul, hm⟩ := own_more3 hown hroom
      have hlc := hcells_length qs
      have hcell : ∀ j, j < 3 → (w.cell? ⟨g, qs.length * 3 + j, none⟩).isSome = true := fun j hj => by
        rw [hm.cellAt (qs.length * 3 + j) (by omega), List.getElem?_eq_getElem (by rw [List.length_append]; omega)]
        rfl
      have h3 := run_append_room_cells (P := P) w t ty 49 i ht hi g 0 qs.length c0 ⟨b, off, none⟩ 1 c (hcells [x]) (by rw [hsize]; rfl) hnews (hcells_one [x]) hroom
        (fun j hj => by rw [hsize, Nat.zero_add]; exact hcell j (by simpa [hcells] using hj)) (fun j hj => hm.frozenAt _)
      rw [hsize, Nat.zero_add] at h3
      have e := hrun.symm.trans h3
      injection e with _ e
      subst e
      have h4 := (own_setCells (hcells [x]) (qs.length * 3) w (hcells qs ++ us) hm (by simp [hcells]; omega)).1
      have h5 := own_cut h4 (k := qs.length) (by omega)
      have e2 : (spliceL (hcells qs ++ us) (qs.length * 3) (hcells [x])).take (qs.length * 3) = hcells qs := by
        unfold spliceL
        rw [List.append_assoc, List.take_append_of_le_length (by rw [List.length_take, List.length_append]; omega), List.take_take, Nat.min_self, List.take_append_of_le_length (by omega), List.take_of_length_le (by omega)]
      rw [e2] at h5
      exact h5
    · have hold : ∀ j u, (hcells qs)[j]? = some u → w.cell? ((⟨g, 0, none⟩ : Addr).add j) = some u := fun j u hu => hown.cells (g := g) rfl j u hu
      obtain ⟨v2, w2, h3, _, h5⟩ := run_append_arg_grows (P := P) w t ty 49 i _ 3 32 ht hi hz hsize hby rfl (by omega) ⟨g, 0, none⟩ qs.length c0 (hcells qs) (hcells_length qs) hold ⟨b, off, none⟩ 1 c (hcells [x]) rfl hnews (by omega) (by unfold maxLen; omega) (by omega)
      have e := hrun.symm.trans h3
      injection e with _ e
      subst e
      exact hown.stay fun k hk => h5.block k (hown.size k hk).2 (by simp)
theorem wpList_append_rh2 {P : Program} (w : World) {ops : Array Oper} {rest : List Oper} {o : Oper} {a : Act} {Q : Exit → Act → World → Prop} (hgd : o.guard = none) (s x : Operand) (t : TypeId)
    (ho : o.op = .call { callee := .builtin .append, args := #[s, x], argTypes := #[t, t] })
    (i : TypeInfo) (ht : P.underlying t = some (.slice 49)) (hi : P.info? 49 = some i)
    (hz : i.zero = some (.agg #[.int .i64 0, .string ⟨#[]⟩, .int .i64 0])) (hsize : i.size = 3) (hby : i.bytes = 32)
    (B : Nat) (A0 : Option Addr) (n0 c0 : Nat) (qs : HS) (hs : a.eval s = .slice A0 n0 c0) (hn0 : n0 = qs.length) (hown : OwnH w B A0 c0 qs)
    (B' : Nat) (A : Option Addr) (n c : Nat) (ps : HS) (hx : a.eval x = .slice A n c) (hn : n = 1) (hr : RH w B' A ps) (hlen : qs.length + ps.length ≤ 4000000) (hbase : B ≤ w.heap.size) (hp : ∃ y, ps = [y])
    (h : ∀ A' n' c' w', n' = (qs ++ ps).length → AppH w B A0 n0 c0 (qs ++ ps) A' c' w' → OwnH w' B A0 c0 qs → wpList P ops Q rest (a.put o.dst (.slice A' n' c')) w') : wpList P ops Q (o :: rest) a w := by
  obtain ⟨y, rfl⟩ := hp
  subst hn0 hn
  refine wpList_plain hgd fun K hK => ?_
  obtain ⟨A', c', w', hrun, h2⟩ := run_append_rh (P := P) w t o.type i ht hi hz hsize hby B A0 c0 qs hown B' A c [y] hr hlen hbase
  have h3 := append_keeps (P := P) w t o.type i ht hi hz hsize hby B A0 c0 qs hown B' A c y hr (by simpa using hlen) hrun
  unfold Oper.wp execOp
  rw [List.length_singleton] at hrun
  simp only [ho, resolve, invoke, builtin, Sem.run_bind, Sem.run_pure, Result.andThen_ok, List.map_toArray, List.map_cons, List.map_nil, hs, hx, hrun]
  exact hK _ _ (h A' _ c' w' rfl h2 h3)
theorem whole_uniq {h : HS} {x : HD} (hu : Uniq h) {i : Nat} (hi : i < h.length) (ho : ownB h[i] x = true) : wholeM h x = joinB h[i].2.2 x.2.2 := wholeM_at hi ho fun j hj hlt => by
  cases hc : ownB h[j] x
  · rfl
  · have h' := hu
    rw [Uniq, List.pairwise_iff_getElem] at h'
    have h1 := h' j i hj hi hlt
    rw [ownB_iff] at ho hc
    have h2 : ownB h[j] h[i] = true := ownB_iff.2 ⟨hc.1.trans ho.1.symm, hc.2.trans ho.2.symm⟩
    rw [h2] at h1
    cases h1
theorem bothF_join {a b : Int} (ha : modeB a = true) (hb : modeB b = true) : bothF a b = joinB a b := by rw [bothF, ha, hb]; rfl

set_option maxHeartbeats 8000000 in
set_option maxRecDepth 100000 in
theorem impl_Ask (A : Option Addr) (c : Nat) (h : HS) (K : Option Addr) (d : Nat) (l : HS) (x : HD) (w : World) (hr : RH w w.heap.size A h) (hf : FitsH h) (hn : h.length ≤ c) (hm : c ≤ maxLen) (hr' : RH w w.heap.size K l) (hf' : FitsH l) (hn' : l.length ≤ d) (hm' : d ≤ maxLen) (hx : x.2.1.size ≤ maxLen) :
    Calls Try.prog 38 #[.agg #[.slice A h.length c, .slice K l.length d], .agg #[.int .i64 x.1, .string x.2.1, .int .i64 x.2.2]] w (MadeAs w (askR h l x)) := by
  obtain ⟨i0, hi0, hz0, hz1, hz2⟩ := info_parts holdInfo
  have HB := hid (ask_box2 w (.slice A h.length c) (.slice K l.length d) x (.cells #[.slice none 0 0, .slice none 0 0] 39))
  have r0 := Row2.lit ((w.alloc (.cells #[.slice A h.length c, .slice K l.length d] 39)).alloc (.cells #[.int .i64 x.1, .string x.2.1, .int .i64 x.2.2] 49)) 39 (.slice none 0 0) (.slice none 0 0)
  simp only [World.size_alloc] at r0
  have R := hid r0
  have HR := hid hr
  have HK := hid hr'
  have HF := hid hf
  have HG := hid hf'
  have HN := hid hn
  have HM := hid hm
  have HN2 := hid hn'
  have HM2 := hid hm'
  have HX := hid hx
  clear hr hr' r0 hf hf' hn hn' hx hm hm'
  go_enter Try.func38, Try.ntmps38
  go_wp2_with fail
  generalize hw1 : ((w.alloc (.cells #[.slice A h.length c, .slice K l.length d] 39)).alloc (.cells #[.int .i64 x.1, .string x.2.1, .int .i64 x.2.2] 49)).alloc (.cells #[.slice none 0 0, .slice none 0 0] 39) = w1 at *
  clear hw1
  refine (impl_LocksOk A c h K d l w1 ((HR.out.below HB.out.b).more HB.out.b.size) HF.out HN.out HM.out ((HK.out.below HB.out.b).more HB.out.b.size) HG.out HN2.out HM2.out).mono ?_
  rintro e w2 ⟨rfl, hb2⟩
  have HB2 := hid (HB.out.next hb2)
  have R2 := hid (R.out.below hb2)
  clear hb2 HB R
  have y0 := HB2.out.p.c0
  have y1 := HB2.out.p.c1
  have x0 := HB2.out.x.c0
  have x1 := HB2.out.x.c1
  have x2 := HB2.out.x.c2
  have k0 := R2.out.fz 0
  have k1 := R2.out.fz 1
  have z0 := R2.out.c0
  have z1 := R2.out.c1
  have HB2b := hid HB2.out.b
  cases hlk : locksB h l
  case false =>
    have HE := hid (askR_no (x := x) (askOk_not (h := h) (l := l) (fun p => by rw [hlk] at p; cases p.1)))
    go_wp2_with fail
    have U1 := R2.out.s0 (.slice none 0 0)
    refine world_post (S := fun wq => Row2 wq (w.heap.size + 1 + 1) 39 (.slice none 0 0) (.slice none 0 0) ∧ Below w.heap.size w wq) _ ⟨U1.s1 _, (HB2b.out.setCell (by simp; omega) _).setCell (by simp; omega) _⟩ ?_
    clear k0 k1 z0 z1 U1
    intro wq ⟨hq, hqb⟩
    have q0 := hq.c0
    have q1 := hq.c1
    rw [HE.out]
    exact bodyPost_ret (v := .tuple #[.agg #[.slice none 0 0, .slice none 0 0], .int .i64 4]) (by simp [results, Try.results38, go_sem, q0, q1]) rfl ⟨none, 0, none, 0, rfl, OwnH.nil_ _ _, OwnH.nil_ _ _, (fun _ h _ => by cases h), hqb⟩
  case true =>
    have HLK := hid hlk
    obtain ⟨l1, l2, l3, l4⟩ := locksB_iff.1 hlk
    have HHB := hid (heldsB_holds l1)
    have HLB := hid (linesB_holds l2)
    have HUQ := hid (heldsB_uniq l1)
    have L3 := hid l3
    have L4 := hid l4
    clear l1 l2 l3 l4
    go_wp2_with fail
    refine (impl_holdOk x w2 HX.out).mono ?_
    rintro e w3 ⟨rfl, hb3⟩
    have HB3 := hid (HB2.out.next hb3)
    have R3 := hid (R2.out.below hb3)
    have HB3b := hid HB3.out.b
    clear hb3 y0 y1 x0 x1 x2 k0 k1 z0 z1 HB2 HB2b R2
    have y0 := HB3.out.p.c0
    have y1 := HB3.out.p.c1
    have x0 := HB3.out.x.c0
    have x1 := HB3.out.x.c1
    have x2 := HB3.out.x.c2
    have k0 := R3.out.fz 0
    have k1 := R3.out.fz 1
    have z0 := R3.out.c0
    have z1 := R3.out.c1
    cases hho : holdB x
    case false =>
      have HE := hid (askR_no (x := x) (askOk_not (h := h) (l := l) (fun p => by rw [hho] at p; cases p.2.1)))
      go_wp2_with fail
      have U1 := R3.out.s0 (.slice none 0 0)
      refine world_post (S := fun wq => Row2 wq (w.heap.size + 1 + 1) 39 (.slice none 0 0) (.slice none 0 0) ∧ Below w.heap.size w wq) _ ⟨U1.s1 _, (HB3b.out.setCell (by simp; omega) _).setCell (by simp; omega) _⟩ ?_
      clear k0 k1 z0 z1 U1
      intro wq ⟨hq, hqb⟩
      have q0 := hq.c0
      have q1 := hq.c1
      rw [HE.out]
      exact bodyPost_ret (v := .tuple #[.agg #[.slice none 0 0, .slice none 0 0], .int .i64 4]) (by simp [results, Try.results38, go_sem, q0, q1]) rfl ⟨none, 0, none, 0, rfl, OwnH.nil_ _ _, OwnH.nil_ _ _, (fun _ h _ => by cases h), hqb⟩
    case true =>
      have HHO := hid hho
      go_wp2_with fail
      refine (impl_hasTxn K d l x.1 w3 ((HK.out.below HB3b.out).more HB3b.out.size) HG.out (by have := L4.out; unfold maxLen; omega)).mono ?_
      rintro e w4 ⟨rfl, hb4⟩
      have HB4 := hid (HB3.out.next hb4)
      have R4 := hid (R3.out.below hb4)
      have HB4b := hid HB4.out.b
      clear hb4 y0 y1 x0 x1 x2 k0 k1 z0 z1 HB3 HB3b R3
      have y0 := HB4.out.p.c0
      have y1 := HB4.out.p.c1
      have x0 := HB4.out.x.c0
      have x1 := HB4.out.x.c1
      have x2 := HB4.out.x.c2
      have k0 := R4.out.fz 0
      have k1 := R4.out.fz 1
      have z0 := R4.out.c0
      have z1 := R4.out.c1
      cases htx : l.any fun y => decide (y.1 = x.1)
      case true =>
        have HE := hid (askR_no (x := x) (askOk_not (h := h) (l := l) (fun p => by rw [htx] at p; cases p.2.2.1)))
        go_wp2_with fail
        have U1 := R4.out.s0 (.slice none 0 0)
        refine world_post (S := fun wq => Row2 wq (w.heap.size + 1 + 1) 39 (.slice none 0 0) (.slice none 0 0) ∧ Below w.heap.size w wq) _ ⟨U1.s1 _, (HB4b.out.setCell (by simp; omega) _).setCell (by simp; omega) _⟩ ?_
        clear k0 k1 z0 z1 U1
        intro wq ⟨hq, hqb⟩
        have q0 := hq.c0
        have q1 := hq.c1
        rw [HE.out]
        exact bodyPost_ret (v := .tuple #[.agg #[.slice none 0 0, .slice none 0 0], .int .i64 4]) (by simp [results, Try.results38, go_sem, q0, q1]) rfl ⟨none, 0, none, 0, rfl, OwnH.nil_ _ _, OwnH.nil_ _ _, (fun _ h _ => by cases h), hqb⟩
      case false =>
        have HTX := hid htx
        clear htx
        by_cases h100 : (100 : Int) ≤ (h.length : Int)
        · have HE := hid (askR_no (x := x) (askOk_not (h := h) (l := l) (fun p => by omega)))
          go_wp2_with fail
          have U1 := R4.out.s0 (.slice none 0 0)
          refine world_post (S := fun wq => Row2 wq (w.heap.size + 1 + 1) 39 (.slice none 0 0) (.slice none 0 0) ∧ Below w.heap.size w wq) _ ⟨U1.s1 _, (HB4b.out.setCell (by simp; omega) _).setCell (by simp; omega) _⟩ ?_
          clear k0 k1 z0 z1 U1
          intro wq ⟨hq, hqb⟩
          have q0 := hq.c0
          have q1 := hq.c1
          rw [HE.out]
          exact bodyPost_ret (v := .tuple #[.agg #[.slice none 0 0, .slice none 0 0], .int .i64 4]) (by simp [results, Try.results38, go_sem, q0, q1]) rfl ⟨none, 0, none, 0, rfl, OwnH.nil_ _ _, OwnH.nil_ _ _, (fun _ h _ => by cases h), hqb⟩
        · by_cases h20 : (20 : Int) ≤ (l.length : Int)
          · have HE := hid (askR_no (x := x) (askOk_not (h := h) (l := l) (fun p => by omega)))
            go_wp2_with fail
            have U1 := R4.out.s0 (.slice none 0 0)
            refine world_post (S := fun wq => Row2 wq (w.heap.size + 1 + 1) 39 (.slice none 0 0) (.slice none 0 0) ∧ Below w.heap.size w wq) _ ⟨U1.s1 _, (HB4b.out.setCell (by simp; omega) _).setCell (by simp; omega) _⟩ ?_
            clear k0 k1 z0 z1 U1
            intro wq ⟨hq, hqb⟩
            have q0 := hq.c0
            have q1 := hq.c1
            rw [HE.out]
            exact bodyPost_ret (v := .tuple #[.agg #[.slice none 0 0, .slice none 0 0], .int .i64 4]) (by simp [results, Try.results38, go_sem, q0, q1]) rfl ⟨none, 0, none, 0, rfl, OwnH.nil_ _ _, OwnH.nil_ _ _, (fun _ h _ => by cases h), hqb⟩
          · have HOK := hid (askOk_iff.2 ⟨HLK.out, HHO.out, HTX.out, by omega, by omega⟩)
            have HAY := hid (askR_yes HOK.out)
            have g1 : decide ((100 : Int) ≤ (h.length : Int)) = false := decide_eq_false h100
            have g2 : decide ((20 : Int) ≤ (l.length : Int)) = false := decide_eq_false h20
            clear h100 h20
            have HWO := hid (wholeH_ok HHB.out HHO.out)
            have HFY : Hid (FitsH (l ++ [wholeH h x])) := fun y hy => by
              rcases List.mem_append.1 hy with hy | hy
              · exact HG.out y hy
              · rw [List.mem_singleton] at hy; rw [hy]; exact HX.out
            have tk1 : Hid (1 = 1) := rfl
            have tk2 : Hid (1 = 1) := rfl
            go_wp2_with fail
            refine (impl_placeOfOwn A c h x w4 ((HR.out.below HB4b.out).more HB4b.out.size) HF.out (by have := L3.out; unfold maxLen; omega)).mono ?_
            rintro e w5 ⟨rfl, hb5⟩
            have HB5 := hid (HB4.out.next hb5)
            have R5 := hid (R4.out.below hb5)
            have HB5b := hid HB5.out.b
            clear hb5 y0 y1 x0 x1 x2 k0 k1 z0 z1 HB4 HB4b R4 g1 g2
            have HIX : Hid ((h.any fun y => ownB y x) = false ∧ idxV h (fun y => ownB y x) = -1 ∨ (h.any fun y => ownB y x) = true) := by
              cases hown : h.any fun y => ownB y x
              · exact .inl ⟨rfl, own_no hown⟩
              · exact .inr rfl
            generalize hix : idxV h (fun y => ownB y x) = ix at *
            have HIXE := hid hix
            clear hix
            go_upto_if 42 with fail
            go_cut [6] from 40 to 82 (fun _ wc => Hid (Row2 wc w.heap.size 39 (.slice A h.length c) (.slice K l.length d)) ∧ Hid (Row3 wc (w.heap.size + 1) 49 (.int .i64 x.1) (.string x.2.1) (.int .i64 (wholeM h x))) ∧ Hid (Row2 wc (w.heap.size + 1 + 1) 39 (.slice none 0 0) (.slice none 0 0)) ∧ Hid (Below w.heap.size w wc))
            case first =>
              rcases HIX.out with ⟨hown, hix⟩ | hown
              · have HW := hid (wholeM_none hown)
                subst hix
                have X6 : Hid (Row3 w5 (w.heap.size + 1) 49 (.int .i64 x.1) (.string x.2.1) (.int .i64 (wholeM h x))) := by rw [HW.out]; exact HB5.out.x
                clear hown
                go_wp2_with fail
                go_meet
                case rel => exact ⟨HB5.out.p, X6.out, R5.out, HB5b.out⟩
              · obtain ⟨i, hi, eyes, hoi⟩ := own_yes hown
                have HW := hid (whole_uniq HUQ.out hi hoi)
                have hix : ix = (i : Int) := HIXE.out.symm.trans eyes
                subst hix
                have e5 : (0 : Int) ≤ (i : Int) := by omega
                have e6 : (i : Int) < (h.length : Int) := by omega
                obtain ⟨hb, ho, rfl, hhb, hc1, hc2, hc3⟩ := (HR.out.below HB5b.out).at_ hi
                have cB : Hid (∀ W, Calls Try.prog 43 #[.int .i64 h[i].2.2, .int .i64 x.2.2] W fun e w' => e = .returned (.int .i64 (wholeM h x)) ∧ Below W.heap.size W w') := fun W => by
                  have := impl_Both h[i].2.2 x.2.2 W
                  rw [bothF_join (holdB_mode (HHB.out.at_ hi)) (holdB_mode HHO.out), ← HW.out] at this
                  exact this
                have y0 := HB5.out.p.c0
                have x2 := HB5.out.x.c2
                have HC3 := hid hc3
                clear hc1 hc2 hown eyes hoi
                go_wp2_with fail
                go_region_with (first | (go_at_call 43; refine (cB.out _).mono ?_; rintro e wa ⟨rfl, hba⟩; have HBA : Hid (Below w5.heap.size w5 wa) := (by first | exact hba | exact (Below.refl w5.heap.size w5).drew.trans hba | exact (Below.refl w5.heap.size w5).drew.drew.trans hba); clear hba; have xa2 := (HB5.out.x.below HBA.out).c2; have fa2 := (HB5.out.x.below HBA.out).fz 2))
                all_goals
                  have PA := hid (HB5.out.p.below HBA.out)
                  have XA := hid (HB5.out.x.below HBA.out)
                  have RA := hid (R5.out.below HBA.out)
                  go_wp2_with fail
                  go_meet
                  case rel => exact ⟨PA.out.other3 XA.out (by omega) 2 (.int .i64 (wholeM h x)), XA.out.s2 (.int .i64 (wholeM h x)), RA.out.other3 XA.out (by omega) 2 (.int .i64 (wholeM h x)), (HB5b.out.trans (HBA.out.mono HB5b.out.size)).setCell (p := ⟨w.heap.size + 1, 2, none⟩) (by simp) (.int .i64 (wholeM h x))⟩
            case rest =>
              obtain ⟨P6, X6, R6, HB6⟩ := hcut
              clear HB5 R5 HB5b
              generalize hw6 : wc = w6 at *
              clear hw6
              have HRx := hid ((HR.out.below HB6.out).more HB6.out.size)
              have HKx := hid ((HK.out.below HB6.out).more HB6.out.size)
              have y0 := P6.out.c0
              have y1 := P6.out.c1
              go_wp2_with fail
              go_region_held3 (fun w' => w'.cell? ⟨w.heap.size, 0, none⟩ = some (.slice A h.length c) ∧ w'.cell? ⟨w.heap.size, 1, none⟩ = some (.slice K l.length d)) (go_keep)
                (first
                  | (clear tk1; go_at_call 78; refine (impl_cloneH A c h _ (by first | exact HRx.out | exact HRx.out.below (Below.refl _ _).drew) (by have := L3.out; omega)).mono ?_; rintro e w7 ⟨A7, c7, rfl, ho, hb⟩; have HA7 : Hid (OwnH w7 w6.heap.size A7 c7 h) := ho; have HB7 : Hid (Below w6.heap.size w6 w7) := (by first | exact hb | exact (Below.refl w6.heap.size w6).drew.trans hb); clear ho hb; have y70 := (P6.out.below HB7.out).c0; have y71 := (P6.out.below HB7.out).c1; have HKy := hid ((HKx.out.below HB7.out).more HB7.out.size))
                  | (clear tk2; go_at_call 78; refine (impl_cloneH K d l _ (by first | exact HKy.out | exact HKy.out.below (Below.refl _ _).drew) (by have := L4.out; omega)).mono ?_; rintro e w8 ⟨A8, c8, rfl, ho, hb⟩; have HK8 : Hid (OwnH w8 w7.heap.size A8 c8 l) := ho; have hb8 : Below w7.heap.size w7 w8 := (by first | exact hb | exact (Below.refl w7.heap.size w7).drew.trans hb); have HA8 := hid (HA7.out.below hb8); have HB8 := hid (HB7.out.trans (hb8.mono HB7.out.size)); clear ho hb hb8; have y80 := (P6.out.below HB8.out).c0; have y81 := (P6.out.below HB8.out).c1))
              have NE8 : Hid (∀ k, Value.ownBlock (.slice A7 h.length c7) = some k → Value.ownBlock (.slice A8 l.length c8) ≠ some k) := fun k h1 h2 => by
                have q1 := (HA7.out.size k h1).2
                have q2 := (HK8.out.size k h2).1
                omega
              have HK8' : Hid (OwnH w8 w6.heap.size A8 c8 l) := HK8.out.mono HB7.out.size
              have X8 := hid (X6.out.below HB8.out)
              have R8 := hid (R6.out.below HB8.out)
              have HBt := hid (HB6.out.trans (HB8.out.mono HB6.out.size))
              have x80 := X8.out.c0
              have x81 := X8.out.c1
              have x82 := X8.out.c2
              clear y0 y1 y70 y71 y80 y81
              have HMY := hid (impl_mayHold A7 c7 h A8 c8 l (wholeH h x) w8 HA8.out.rh HF.out (by have := L3.out; unfold maxLen; omega) HK8.out.rh HG.out (by have := L4.out; unfold maxLen; omega))
              cases hmay : mayB h l (wholeH h x)
              case true =>
                rw [hmay] at HMY
                have HE : Hid (askR h l x = (giveL h (wholeH h x), l, 1)) := by rw [Hid, HAY.out, askL, hmay]; rfl
                clear hmay
                go_wp2_with fail
                refine HMY.out.mono ?_
                rintro e w9 ⟨rfl, hb9⟩
                have X9 := hid (X8.out.below hb9)
                have R9 := hid (R8.out.below hb9)
                have HA9 := hid (HA8.out.below hb9)
                have HK9 := hid (HK8'.out.below hb9)
                have HB9 := hid (HBt.out.trans (hb9.mono HBt.out.size))
                have HS9 : Hid (w6.heap.size ≤ w9.heap.size) := by have h1 := HB8.out.size; have h2 := hb9.size; rw [Hid]; omega
                clear hb9 x80 x81 x82
                have x90 := X9.out.c0
                have x91 := X9.out.c1
                have x92 := X9.out.c2
                go_wp2_with (go_at_call 80; refine (impl_withHold A7 c7 h (wholeH h x) w6.heap.size w9 HA9.out HF.out HUQ.out (by have := L3.out; omega) HS9.out).mono ?_; rintro e w10 ⟨⟨A10, c10, rfl, ho, hat⟩, hg⟩; have HA10 := hid ho; have HAT := hid hat; have HG10 := hid hg; have R10 := hid (R9.out.far hg (fun k hk => by have := (HA9.out.size k hk).1; have := R6.out.lt; omega)); have HK10 := hid (HK9.out.keepG hg (fun k h1 h2 => NE8.out k h2.symm h1)); have HB10 := hid (HB9.out.grown hg HB9.out.size (fun k hk => by have := (HA9.out.size k hk).1; have := HB6.out.size; omega)); clear ho hat hg x90 x91 x92; have z0 := R10.out.c0; have z1 := R10.out.c1; have k0 := R10.out.fz 0; have k1 := R10.out.fz 1)
                have NE10 : Hid (∀ k, Value.ownBlock (.slice A10 (giveL h (wholeH h x)).length c10) = some k → Value.ownBlock (.slice A8 l.length c8) ≠ some k) := fun k h1 h2 => by
                  rcases HAT.out with h | ⟨q, h, hq⟩
                  · exact NE8.out k (h.symm.trans h1) h2
                  · have e : some q = some k := h.symm.trans h1
                    injection e with e
                    have := (HK9.out.size k h2).2
                    omega
                refine world_post (S := fun wq => Row2 wq (w.heap.size + 1 + 1) 39 (.slice A10 (giveL h (wholeH h x)).length c10) (.slice A8 l.length c8) ∧ MadeAs w ((giveL h (wholeH h x)), l, 1) (.returned (.tuple #[.agg #[.slice A10 (giveL h (wholeH h x)).length c10, .slice A8 l.length c8], .int .i64 1])) wq) _
                  ⟨(R10.out.s0 _).s1 _, A10, c10, A8, c8, rfl, (HA10.out.two R10.out _ _).mono HB6.out.size, (HK10.out.two R10.out _ _).mono HB6.out.size, NE10.out, (HB10.out.setCell (by simp; omega) _).setCell (by simp; omega) _⟩ ?_
                clear z0 z1 k0 k1
                intro wq ⟨hq, hqm⟩
                have q0 := hq.c0
                have q1 := hq.c1
                rw [HE.out]
                exact bodyPost_ret (v := .tuple #[.agg #[.slice A10 (giveL h (wholeH h x)).length c10, .slice A8 l.length c8], .int .i64 1]) (by simp [results, Try.results38, go_sem, q0, q1]) rfl hqm
              case false =>
                rw [hmay] at HMY
                have HMB := hid hmay
                clear hmay
                go_wp2_with fail
                refine HMY.out.mono ?_
                rintro e w9 ⟨rfl, hb9⟩
                have X9 := hid (X8.out.below hb9)
                have R9 := hid (R8.out.below hb9)
                have HA9 := hid (HA8.out.below hb9)
                have HK9 := hid (HK8'.out.below hb9)
                have HB9 := hid (HBt.out.trans (hb9.mono HBt.out.size))
                have HS9 : Hid (w6.heap.size ≤ w9.heap.size) := by have h1 := HB8.out.size; have h2 := hb9.size; rw [Hid]; omega
                clear hb9 x80 x81 x82
                have x90 := X9.out.c0
                have x91 := X9.out.c1
                have x92 := X9.out.c2
                have BB := hid ((Below.refl w9.heap.size w9).alloc (Nat.le_refl _) (.cells #[.int .i64 x.1, .string x.2.1, .int .i64 (wholeM h x)] 49))
                have HK9b := hid (HK9.out.below BB.out)
                have RN := hid (RH.new w9 (wholeH h x) 49)
                have tk3 : Hid (1 = 1) := rfl
                go_wp2_with (clear tk3; at_builtin; refine wpList_append_rh2 _ rfl _ _ _ rfl i0 Try.underlying37 hi0 hz0 hz1 hz2 w6.heap.size A8 l.length c8 l rfl rfl HK9b.out _ (some ⟨w9.heap.size, 0, none⟩) 1 1 [wholeH h x] rfl rfl RN.out (by have := L4.out; simp; omega) (by have := HS9.out; simp; omega) ⟨_, rfl⟩ ?_; intro K10 n10 d10 w10 hn10 hap10 hkp; have HN10 := hid hn10; have HAP := hid hap10; have HKP := hid hkp; clear hn10 hap10 hkp)
                have PB := hid (HAP.out.below HK9b.out rfl (by have := HS9.out; simp; omega))
                have BC := hid ((BB.out.mono HS9.out).trans PB.out)
                have X10 := hid (X9.out.keepB BC.out (by have := (World.ownsRow.lt X6.out (w.heap.size + 1) rfl).2; omega))
                have R10 := hid (R9.out.keepB BC.out (by have := R6.out.lt; omega))
                have HB10 := hid (HB9.out.trans (BC.out.mono HB6.out.size))
                have HA10 := hid ((HA9.out.below BB.out).keepG HAP.out.grown (fun k h1 h2 => NE8.out k h1 h2.symm))
                have HK10 : Hid (OwnH w10 w6.heap.size K10 d10 (l ++ [wholeH h x])) := HAP.out.own
                have HS10 : Hid (w9.heap.size + 1 ≤ w10.heap.size) := by have := HAP.out.grown.size; rw [World.size_alloc] at this; exact this
                have NE10 : Hid (∀ k, Value.ownBlock (.slice A7 h.length c7) = some k → Value.ownBlock (.slice K10 (l ++ [wholeH h x]).length d10) ≠ some k) := fun k h1 h2 => by
                  rcases HAP.out.at_ with h | h
                  · exact NE8.out k h1 (h.symm.trans h2)
                  · have e : some k = some _ := h2.symm.trans h
                    injection e with e
                    have := (HA9.out.size k h1).2
                    rw [e] at this
                    simp at this
                    omega
                have Z := hid (Row2.lit w10 39 (.slice A7 h.length c7) (.slice K10 n10 d10))
                have BA := hid ((Below.refl w10.heap.size w10).alloc (Nat.le_refl _) (.cells #[.slice A7 h.length c7, .slice K10 n10 d10] 39))
                have X11 := hid (X10.out.below BA.out)
                have R11 := hid (R10.out.below BA.out)
                have HA11 := hid (HA10.out.below BA.out)
                have HK11 := hid (HK10.out.below BA.out)
                have HO11 := hid (HKP.out.below BA.out)
                have HB11 := hid (HB10.out.trans (BA.out.mono HB10.out.size))
                clear x90 x91 x92
                go_wp2_with fail
                generalize hw11 : w10.alloc (.cells #[.slice A7 h.length c7, .slice K10 n10 d10] 39) = w11 at *
                generalize hgz : w10.heap.size = gz at *
                clear hw11 hgz HAP PB BC X10 R10 HB10 HA10 HK10 HKP BA
                have HLC := hid HK11.out.cap
                have cE : Hid (∀ W, Below w11.heap.size w11 W → Calls Try.prog 92 #[.agg #[.slice A7 h.length c7, .slice K10 n10 d10]] W (MadeE W (edgesL h (l ++ [wholeH h x])))) := fun W hb => by
                  have := impl_edgesOf A7 c7 h K10 d10 (l ++ [wholeH h x]) W (HA11.out.below hb).rh HF.out (by have := L3.out; omega) (HK11.out.below hb).rh HFY.out (by have := L4.out; simp; omega) HLC.out.1 HLC.out.2
                  rw [← HN10.out] at this
                  exact this
                have LE : Hid ((edgesL h (l ++ [wholeH h x])).length ≤ 30000) := edgesL_len (by have := L3.out; omega) (by have := L4.out; simp; omega)
                generalize hes : edgesL h (l ++ [wholeH h x]) = es at *
                have HES := hid hes
                clear hes
                have z0 := Z.out.c0
                have z1 := Z.out.c1
                have x0 := X11.out.c0
                cases hrd : roundB es x.1
                case true =>
                  have HE : Hid (askR h l x = (h, l, 3)) := by
                    have h1 := HES.out
                    have h2 : roundB es (wholeH h x).1 = true := hrd
                    have h3 := HMB.out
                    rw [Hid, HAY.out, askL, h3, h1, h2]
                    rfl
                  have cR : Hid (∀ W A c, RE W W.heap.size A es → Calls Try.prog 96 #[.slice A es.length c, .int .i64 x.1] W fun e w' => e = .returned (.bool true) ∧ Below W.heap.size W w') := fun W A c hre => by
                    have := impl_leadsBack A c es x.1 W hre LE.out
                    rw [hrd] at this
                    exact this
                  clear hrd
                  go_region_held3 (fun w' => w'.cell? ⟨gz, 0, none⟩ = some (.slice A7 h.length c7) ∧ w'.cell? ⟨gz, 1, none⟩ = some (.slice K10 n10 d10) ∧ w'.cell? ⟨w.heap.size + 1, 0, none⟩ = some (.int .i64 x.1)) (go_keep)
                    (first
                      | (go_at_call 92; refine (cE.out _ (Below.refl _ _).drew).mono ?_; rintro e wA ⟨A12, c12, rfl, he, hb⟩; have HE12 := hid he; have HBA := hid ((Below.refl w11.heap.size w11).drew.trans hb); clear he hb; have za0 := (Z.out.below HBA.out).c0; have za1 := (Z.out.below HBA.out).c1; have xa0 := (X11.out.below HBA.out).c0)
                      | (go_at_call 96; refine (cR.out _ _ _ HE12.out.re).mono ?_; rintro e wB ⟨rfl, hb⟩; have HBB := hid (HBA.out.trans (hb.mono HBA.out.size)); clear hb; have zb0 := (Z.out.below HBB.out).c0; have zb1 := (Z.out.below HBB.out).c1; have xb0 := (X11.out.below HBB.out).c0)
                      | (go_at_call 96; refine (cR.out _ _ _ (HE12.out.below (Below.refl _ _).drew).re).mono ?_; rintro e wB ⟨rfl, hb⟩; have HBB := hid (HBA.out.drew.trans (hb.mono HBA.out.size)); clear hb; have zb0 := (Z.out.below HBB.out).c0; have zb1 := (Z.out.below HBB.out).c1; have xb0 := (X11.out.below HBB.out).c0))
                  clear z0 z1 x0 za0 za1 xa0 xb0
                  have RB := hid (R11.out.below HBB.out)
                  have HBf := hid (HB11.out.trans (HBB.out.mono HB11.out.size))
                  have HAB := hid (HA11.out.below HBB.out)
                  have HKB := hid (HK11.out.below HBB.out)
                  have HOB := hid (HO11.out.below HBB.out)
                  have z0 := RB.out.c0
                  have z1 := RB.out.c1
                  have k0 := RB.out.fz 0
                  have k1 := RB.out.fz 1
                  go_wp2_with fail
                  refine world_post (S := fun wq => Row2 wq (w.heap.size + 1 + 1) 39 (.slice A7 h.length c7) (.slice A8 l.length c8) ∧ MadeAs w (h, l, 3) (.returned (.tuple #[.agg #[.slice A7 h.length c7, .slice A8 l.length c8], .int .i64 3])) wq) _
                    ⟨(RB.out.s0 _).s1 _, A7, c7, A8, c8, rfl, (HAB.out.two RB.out _ _).mono HB6.out.size, (HOB.out.two RB.out _ _).mono HB6.out.size, NE8.out, (HBf.out.setCell (by simp; omega) _).setCell (by simp; omega) _⟩ ?_
                  clear z0 z1 k0 k1
                  intro wq ⟨hq, hqm⟩
                  have q0 := hq.c0
                  have q1 := hq.c1
                  rw [HE.out]
                  exact bodyPost_ret (v := .tuple #[.agg #[.slice A7 h.length c7, .slice A8 l.length c8], .int .i64 3]) (by simp [results, Try.results38, go_sem, q0, q1]) rfl hqm
                case false =>
                  have HE : Hid (askR h l x = (h, l ++ [wholeH h x], 2)) := by
                    have h1 := HES.out
                    have h2 : roundB es (wholeH h x).1 = false := hrd
                    have h3 := HMB.out
                    rw [Hid, HAY.out, askL, h3, h1, h2]
                    rfl
                  have cR : Hid (∀ W A c, RE W W.heap.size A es → Calls Try.prog 96 #[.slice A es.length c, .int .i64 x.1] W fun e w' => e = .returned (.bool false) ∧ Below W.heap.size W w') := fun W A c hre => by
                    have := impl_leadsBack A c es x.1 W hre LE.out
                    rw [hrd] at this
                    exact this
                  clear hrd
                  go_region_held3 (fun w' => w'.cell? ⟨gz, 0, none⟩ = some (.slice A7 h.length c7) ∧ w'.cell? ⟨gz, 1, none⟩ = some (.slice K10 n10 d10) ∧ w'.cell? ⟨w.heap.size + 1, 0, none⟩ = some (.int .i64 x.1)) (go_keep)
                    (first
                      | (go_at_call 92; refine (cE.out _ (Below.refl _ _).drew).mono ?_; rintro e wA ⟨A12, c12, rfl, he, hb⟩; have HE12 := hid he; have HBA := hid ((Below.refl w11.heap.size w11).drew.trans hb); clear he hb; have za0 := (Z.out.below HBA.out).c0; have za1 := (Z.out.below HBA.out).c1; have xa0 := (X11.out.below HBA.out).c0)
                      | (go_at_call 96; refine (cR.out _ _ _ HE12.out.re).mono ?_; rintro e wB ⟨rfl, hb⟩; have HBB := hid (HBA.out.trans (hb.mono HBA.out.size)); clear hb; have zb0 := (Z.out.below HBB.out).c0; have zb1 := (Z.out.below HBB.out).c1; have xb0 := (X11.out.below HBB.out).c0)
                      | (go_at_call 96; refine (cR.out _ _ _ (HE12.out.below (Below.refl _ _).drew).re).mono ?_; rintro e wB ⟨rfl, hb⟩; have HBB := hid (HBA.out.drew.trans (hb.mono HBA.out.size)); clear hb; have zb0 := (Z.out.below HBB.out).c0; have zb1 := (Z.out.below HBB.out).c1; have xb0 := (X11.out.below HBB.out).c0))
                  clear z0 z1 x0 za0 za1 xa0 xb0
                  have RB := hid (R11.out.below HBB.out)
                  have HBf := hid (HB11.out.trans (HBB.out.mono HB11.out.size))
                  have HAB := hid (HA11.out.below HBB.out)
                  have HKB := hid (HK11.out.below HBB.out)
                  have HOB := hid (HO11.out.below HBB.out)
                  have z0 := RB.out.c0
                  have z1 := RB.out.c1
                  have k0 := RB.out.fz 0
                  have k1 := RB.out.fz 1
                  go_wp2_with fail
                  have e10 : n10 = (l ++ [wholeH h x]).length := HN10.out
                  subst e10
                  refine world_post (S := fun wq => Row2 wq (w.heap.size + 1 + 1) 39 (.slice A7 h.length c7) (.slice K10 (l ++ [wholeH h x]).length d10) ∧ MadeAs w (h, (l ++ [wholeH h x]), 2) (.returned (.tuple #[.agg #[.slice A7 h.length c7, .slice K10 (l ++ [wholeH h x]).length d10], .int .i64 2])) wq) _
                    ⟨(RB.out.s0 _).s1 _, A7, c7, K10, d10, rfl, (HAB.out.two RB.out _ _).mono HB6.out.size, (HKB.out.two RB.out _ _).mono HB6.out.size, NE10.out, (HBf.out.setCell (by simp; omega) _).setCell (by simp; omega) _⟩ ?_
                  clear z0 z1 k0 k1
                  intro wq ⟨hq, hqm⟩
                  have q0 := hq.c0
                  have q1 := hq.c1
                  rw [HE.out]
                  exact bodyPost_ret (v := .tuple #[.agg #[.slice A7 h.length c7, .slice K10 (l ++ [wholeH h x]).length d10], .int .i64 2]) (by simp [results, Try.results38, go_sem, q0, q1]) rfl hqm
end Go.Proofs.Ytjdmaoegfpgfjaa
