/-
  PageText of both: contracts.
-/
import Derived.Test.YtooalnpfenhelabDoorPageT
import Derived.Test.YtooalnpfenhelabDoorMapTextI
import Derived.Test.YtooalnpfenhelabDoorOwnMore
import Derived.Deep.AppendLies
namespace Go.Proofs.YtooalnpfenhelabDoor
open Go.RowKit Go.Deep

theorem spec_l3Body (id : Int) (A : Option Addr) (c : Nat) (ps : PS) (K : Option Addr) (d : Nat) (ks : List Int) (w : World) (hpg : pageB id ps ks = true) (hr : RP w w.heap.size A ps) (hk : RI w w.heap.size K ks) :
    Calls Tryd.prog 26 #[.agg #[.int .i64 id, .slice A ps.length c, .slice K ks.length d]] w fun e w' => e = .returned (.string (joinB (pageWords id ps ks))) ∧ Below w.heap.size w w' := by
  obtain ⟨p1, p2⟩ := page_idok hpg
  obtain ⟨p3, p4⟩ := page_pairs hpg
  obtain ⟨p5, p6, p7⟩ := page_kids hpg
  by_cases h : 1 ≤ ks.length
  · obtain rfl := p7 h
    have h1 := spec_l3Body_kids id A 0 c K d ks w p1 p2 hk p5 p6 h
    have e : pageWords id [] ks = pageHead id false ++ kidW ks := by
      have : ks.isEmpty = false := by cases ks with | nil => simp at h | cons => rfl
      simp [pageWords, this, pairW]
    rw [e]
    exact h1
  · obtain rfl : ks = [] := List.eq_nil_of_length_eq_zero (by omega)
    have h1 := spec_l3Body_leaf id A c ps K d w p1 p2 hr p3 p4
    have e : pageWords id ps [] = pageHead id true ++ pairW ps := by simp [pageWords, kidW]
    rw [e]
    exact h1

theorem words_small {id : Int} {ps : PS} {ks : List Int} (hpg : pageB id ps ks = true) : (joinB (pageWords id ps ks)).size ≤ 10000 := by
  have h1 := joinB_size (pageW_size (page_idok hpg).2 (page_pairs hpg).1 (fun k hk => ((page_kids hpg).1 k hk).2))
  have h2 := (page_pairs hpg).2
  have h3 := (page_kids hpg).2.1
  have h4 : (pageWords id ps ks).length = 3 + ps.length + ks.length := by
    rw [pageWords, List.length_append, List.length_append]
    show 3 + (ps.map wB).length + (ks.map fun k => decB k.toNat).length = _
    rw [List.length_map, List.length_map]
  rw [h4] at h1
  omega

set_option maxHeartbeats 2000000 in
set_option maxRecDepth 100000 in
theorem spec_PageText (id : Int) (A : Option Addr) (c : Nat) (ps : PS) (K : Option Addr) (d : Nat) (ks : List Int) (w : World) (hr : RP w w.heap.size A ps) (hf : Fits ps) (hn : ps.length ≤ maxLen) (hk : RI w w.heap.size K ks) (hd : ks.length ≤ d) (hm : d ≤ maxLen) :
    Calls Tryd.prog 9 #[.agg #[.int .i64 id, .slice A ps.length c, .slice K ks.length d]] w fun e w' => e = .returned (.string (pageT id ps ks)) ∧ Below w.heap.size w w' := by
  have HB0 := hid ((Below.refl w.heap.size w).alloc (Nat.le_refl _) (.cells #[.int .i64 id, .slice A ps.length c, .slice K ks.length d] 27))
  have HR0 := hid (Row3.lit w 27 (.int .i64 id) (.slice A ps.length c) (.slice K ks.length d))
  have HR := hid ((hr.below HB0.out).more HB0.out.size)
  have HK := hid ((hk.below HB0.out).more HB0.out.size)
  have HF := hid hf
  have HN := hid hn
  clear hr hk hf hn
  cases hs : pageB id ps ks
  · have HE : Hid (pageT id ps ks = ⟨#[]⟩) := by simp [Hid, pageT, hs]
    go_enter Tryd.func9, Tryd.ntmps9
    go_wp2_with fail
    refine (spec_PageOk id A c ps K d ks _ HR.out HF.out HN.out HK.out hd hm).mono ?_
    rintro e w1 ⟨rfl, hw1⟩
    have H1 := hid (HB0.out.trans (hw1.mono HB0.out.size))
    clear hw1
    rw [hs]
    go_wp2_with fail
    go_ret
    exact ⟨ret_txt HE.out.symm, H1.out⟩
  · have HE : Hid (pageT id ps ks = summedB (joinB (pageWords id ps ks))) := by simp [Hid, pageT, hs]
    have HS := hid hs
    go_enter Tryd.func9, Tryd.ntmps9
    go_wp2_with fail
    refine (spec_PageOk id A c ps K d ks _ HR.out HF.out HN.out HK.out hd hm).mono ?_
    rintro e w1 ⟨rfl, hw1⟩
    have H1 := hid (HB0.out.trans (hw1.mono HB0.out.size))
    have HW1 := hid hw1
    have HR1 := hid (HR0.out.below hw1)
    have x0 := HR1.out.c0
    have x1 := HR1.out.c1
    have x2 := HR1.out.c2
    clear hw1
    rw [hs]
    clear hs
    go_wp2_with fail
    refine (spec_l3Body id A c ps K d ks _ HS.out ((HR.out.below HW1.out).more HW1.out.size) ((HK.out.below HW1.out).more HW1.out.size)).mono ?_
    rintro e w2 ⟨rfl, hw2⟩
    have H2 := hid (H1.out.trans (hw2.mono H1.out.size))
    clear hw2 x0 x1 x2
    go_wp2_with fail
    refine (spec_l3Summed (joinB (pageWords id ps ks)) _ (words_small HS.out)).mono ?_
    rintro e w3 ⟨rfl, hw3⟩
    have H3 := hid (H2.out.trans (hw3.mono H2.out.size))
    clear hw3
    go_wp2_with fail
    go_ret
    exact ⟨ret_txt HE.out.symm, H3.out⟩

def scells (xs : List ByteArray) : List Value := xs.map Value.string
theorem row_cap {w : World} {B : Nat} {e : TypeId} {size n c : Nat} {A : Option Addr} {xs : List Value} (h : w.ownsRow B e size (.slice A n c) n xs) : n ≤ c ∧ c ≤ maxLen := by
  rcases h.2 with ⟨hv, hn⟩ | ⟨g, cap, cur, hv, _, _, h1, h2, _⟩
  · injection hv with _ _ hd
    exact ⟨by omega, by omega⟩
  · injection hv with _ _ hd
    exact ⟨by omega, by omega⟩
theorem Row3.far {w w' : World} {g : Nat} {t : TypeId} {a b c : Value} {r : Option Nat} (h : Row3 w g t a b c) (hg : w.grownBy w' r) (hne : ∀ k, r = some k → k ≠ g) : Row3 w' g t a b c :=
  h.kept hg (.inr fun e => hne g (by rw [← e]; rfl) rfl)
theorem pairs_snoc {H : List ByteArray} {ps : PS} {k : Nat} (h : k < ps.length) : scells (H ++ pairW (ps.take k)) ++ [.string (ps[k].1 ++ ⟨#[61]⟩ ++ ps[k].2)] = scells (H ++ pairW (ps.take (k + 1))) := by
  have e : pairW (ps.take (k + 1)) = pairW (ps.take k) ++ [wB ps[k]] := by
    rw [pairW, List.take_succ_eq_append_getElem h, List.map_append]
    rfl
  rw [e, ← List.append_assoc]
  show _ = (H ++ pairW (ps.take k) ++ [wB ps[k]]).map Value.string
  rw [List.map_append]
  rfl
theorem kids_snoc {H : List ByteArray} {ks : List Int} {k : Nat} (h : k < ks.length) : scells (H ++ kidW (ks.take k)) ++ [.string (decB ks[k].toNat)] = scells (H ++ kidW (ks.take (k + 1))) := by
  have e : kidW (ks.take (k + 1)) = kidW (ks.take k) ++ [decB ks[k].toNat] := by
    rw [kidW, List.take_succ_eq_append_getElem h, List.map_append]
    rfl
  rw [e, ← List.append_assoc]
  show _ = (H ++ kidW (ks.take k) ++ [decB ks[k].toNat]).map Value.string
  rw [List.map_append]
  rfl
theorem own_mono {w : World} {B B' : Nat} {e : TypeId} {size n : Nat} {v : Value} {xs : List Value} (h : w.ownsRow B e size v n xs) (hb : B' ≤ B) : w.ownsRow B' e size v n xs := by
  refine ⟨h.1, ?_⟩
  rcases h.2 with hn | ⟨g, cap, cur, hv, hb1, rest⟩
  · exact .inl hn
  · exact .inr ⟨g, cap, cur, hv, by omega, rest⟩
theorem head_set (id : Int) (H : List ByteArray) : (scells (pageHead id true ++ H)).set 2 (.string ⟨#[107, 105, 100, 115]⟩) = scells (pageHead id false ++ H) := rfl

set_option maxHeartbeats 4000000 in
set_option maxRecDepth 100000 in
theorem impl_PageText (id : Int) (A : Option Addr) (c : Nat) (ps : PS) (K : Option Addr) (d : Nat) (ks : List Int) (w : World) (hr : RP w w.heap.size A ps) (hf : Fits ps) (hn : ps.length ≤ maxLen) (hki : RI w w.heap.size K ks) (hd : ks.length ≤ d) (hm : d ≤ maxLen) (ht : Tab w) :
    Calls Tryd.prog 8 #[.agg #[.int .i64 id, .slice A ps.length c, .slice K ks.length d]] w fun e w' => e = .returned (.string (pageT id ps ks)) ∧ Below w.heap.size w w' := by
  have HB0 := hid ((Below.refl w.heap.size w).alloc (Nat.le_refl _) (.cells #[.int .i64 id, .slice A ps.length c, .slice K ks.length d] 27))
  have HR0 := hid (Row3.lit w 27 (.int .i64 id) (.slice A ps.length c) (.slice K ks.length d))
  have HR := hid hr
  have HK := hid hki
  have HF := hid hf
  have HN := hid hn
  have HT : Hid (∀ W : World, Below w.heap.size w W → Tab W) := fun W h => ht.below h
  clear hr hki hf hn ht
  cases hs : pageB id ps ks
  · have HE : Hid (pageT id ps ks = ⟨#[]⟩) := by simp [Hid, pageT, hs]
    go_enter Tryd.func8, Tryd.ntmps8
    go_wp2_with fail
    refine (impl_PageOk id A c ps K d ks _ ((HR.out.below HB0.out).more HB0.out.size) HF.out HN.out ((HK.out.below HB0.out).more HB0.out.size) hd hm).mono ?_
    rintro e w1 ⟨rfl, hw1⟩
    have H1 := hid (HB0.out.trans (hw1.mono HB0.out.size))
    clear hw1
    rw [hs]
    go_wp2_with fail
    go_ret
    exact ⟨ret_txt HE.out.symm, H1.out⟩
  · obtain ⟨i0, hi0, hz0, hz1, hz2⟩ := info_parts stringInfo
    have HPP := hid (page_pairs hs).1
    have HPK := hid (page_kids hs).1
    have hl4 := (page_pairs hs).2
    have hk4 := (page_kids hs).2.1
    obtain ⟨q0, q1⟩ := page_idok hs
    have q2 : 0 ≤ id := by omega
    have q3 : id ≤ 1000000000000 := by omega
    have HS0 := hid hs
    go_enter Tryd.func8, Tryd.ntmps8
    go_wp2_with fail
    refine (impl_PageOk id A c ps K d ks _ ((HR.out.below HB0.out).more HB0.out.size) HF.out HN.out ((HK.out.below HB0.out).more HB0.out.size) hd hm).mono ?_
    rintro e w1 ⟨rfl, hw1⟩
    have H1 := hid (HB0.out.trans (hw1.mono HB0.out.size))
    have HR1 := hid (HR0.out.below hw1)
    have x0 := HR1.out.c0
    clear hw1
    rw [hs]
    clear hs
    go_wp2_with fail
    refine (decimal_int id _ q2 q3 (HT.out _ H1.out)).mono ?_
    rintro e w2 ⟨rfl, hw2⟩
    have H2 := hid (H1.out.trans (hw2.mono H1.out.size))
    have HR2 := hid (HR1.out.below hw2)
    clear hw2 x0
    have ha2 : Below w2.heap.size w2 (w2.alloc (.cells #[.string ⟨#[112, 97, 103, 101]⟩, .string (decB id.toNat), .string ⟨#[108, 101, 97, 102]⟩] 9)) := (Below.refl _ _).alloc (Nat.le_refl _) _
    have hlt2 : w.heap.size < w2.heap.size := (World.ownsRow.lt HR2.out _ rfl).2
    have HO0 : Hid ((w2.alloc (.cells #[.string ⟨#[112, 97, 103, 101]⟩, .string (decB id.toNat), .string ⟨#[108, 101, 97, 102]⟩] 9)).ownsRow (w.heap.size + 1) 9 1 (.slice (some ⟨w2.heap.size, 0, none⟩) 3 3) 3 (scells (pageHead id true ++ pairW (ps.take 0)))) :=
      own_mono (Row3.lit w2 9 (.string ⟨#[112, 97, 103, 101]⟩) (.string (decB id.toNat)) (.string ⟨#[108, 101, 97, 102]⟩)) (by omega)
    have HR3 := hid (HR2.out.below ha2)
    have H3 := hid (H2.out.trans (ha2.mono H2.out.size))
    have x1 := HR3.out.c1
    clear ha2
    go_wp2_with fail
    clear x1
    go_loopw [3, 18] (fun t i wr => ∃ (k g cc : Nat), k ≤ ps.length ∧ i = .int .i64 (k : Int) ∧ t = .slice (some ⟨g, 0, none⟩) (3 + k) cc ∧ Hid (wr.ownsRow (w.heap.size + 1) 9 1 (.slice (some ⟨g, 0, none⟩) (3 + k) cc) (3 + k) (scells (pageHead id true ++ pairW (ps.take k)))) ∧ Hid (Row3 wr w.heap.size 27 (.int .i64 id) (.slice A ps.length c) (.slice K ks.length d)) ∧ Below w.heap.size w wr) (fun _ i _ => ps.length - (intOf i).toNat)
    case atStart => exact ⟨0, _, 3, Nat.zero_le _, rfl, rfl, HO0.out, HR3.out, H3.out⟩
    case round =>
      obtain ⟨k, g, cc, hk, rfl, rfl, HO, HW, hbw⟩ := hrel
      by_cases hlt : k < ps.length
      · obtain ⟨b, off, rfl, hb, hc1, hc2⟩ := (HR.out.below hbw).at_ hlt
        have hq := HPP.out ps[k] (List.getElem_mem hlt)
        simp only [pairB, Bool.and_eq_true] at hq
        have hy1 := keyB_small hq.1
        have hy2 := keyB_small hq.2
        have HD := hid hbw
        have hbs := hbw.size
        clear hbw hq
        have e5 : (0 : Int) ≤ (k : Int) := by omega
        have e6 : (k : Int) < (ps.length : Int) := by omega
        go_wp2_with fail
        refine (pairText_any ps[k] _ hy1 hy2).mono ?_
        rintro e w3 ⟨rfl, hw3⟩
        have hb3 : Below wr.heap.size wr w3 := by rw [hw3]; exact allocs2 _ _ _
        have HB3 := hid hb3
        have hs3 := hb3.size
        clear hb3 hw3 hc1 hc2
        have hown2 := ((HO.out.kept (below_grown HB3.out) (.inr (by simp [Value.ownBlock]))).alloc (.cells #[.string (ps[k].1 ++ ⟨#[61]⟩ ++ ps[k].2)] 9))
        have HO2 := hid hown2
        have HW2 := hid ((HW.out.below HB3.out).below ((Below.refl _ _).alloc (Nat.le_refl _) (.cells #[.string (ps[k].1 ++ ⟨#[61]⟩ ++ ps[k].2)] 9)))
        clear hown2
        go_wp2_with (at_builtin; refine wpList_append_lies _ rfl _ _ _ rfl (w.heap.size + 1) 9 i0 _ 1 16 Tryd.underlying43 hi0 hz0 hz1 hz2 rfl (by omega) (.slice (some ⟨g, 0, none⟩) (3 + k) cc) (3 + k) _ rfl HO2.out ⟨w3.heap.size, 0, none⟩ 1 1 [.string (ps[k].1 ++ ⟨#[61]⟩ ++ ps[k].2)] rfl rfl (World.news_of_block (cs := #[.string (ps[k].1 ++ ⟨#[61]⟩ ++ ps[k].2)]) (t := 9) (fr := (0, 0)) (heap_alloc_new w3 _)) (by simp [Value.oneCell']) (by omega) (by unfold maxLen; omega) (by omega) (by simp; have := World.ownsRow.lt HW2.out _ rfl; omega) (w3.heap.size + 1) (by simp) ?_; intro gg cap w4 hown4 hgrow4 hat4 hlt4; have HO4 := hid hown4; have HG4 := hid hgrow4; clear hown4 hgrow4 hat4)
        go_roundw
        case rel => exact ⟨k + 1, gg, cap, by omega, by go_num, rfl, by
            have h := HO4.out
            rw [pairs_snoc hlt] at h
            exact h, HW2.out.far HG4.out (fun k hk => by have := World.ownsRow.lt HO2.out k hk; omega), ((HD.out.trans (HB3.out.mono hbs)).alloc (by omega) _).grown HG4.out (by simp; omega) (fun k hk => by have := World.ownsRow.lt HO2.out k hk; omega)⟩
        case measure => simp [intOf]; omega
      · obtain rfl : k = ps.length := by omega
        have hown := HO.out
        rw [List.take_length] at hown
        have HO0' := hid hown
        have HD0 := hid hbw
        have x2 := HW.out.c2
        clear hown hbw HO HO0
        by_cases h1 : 0 < ks.length
        · have g1 : decide ((0 : Int) < (ks.length : Int)) = true := by rw [decide_eq_true_eq]; omega
          have hne : ks.isEmpty = false := by cases ks with | nil => simp at h1 | cons => rfl
          have HE : Hid (pageT id ps ks = summedB (joinB (pageHead id false ++ pairW ps ++ kidW ks))) := by
            have := HS0.out
            simp [Hid, pageT, this, pageWords, hne]
          have HSZ : Hid ((joinB (pageHead id false ++ pairW ps ++ kidW ks)).size ≤ 10000) := by
            have := words_small HS0.out
            rw [pageWords, hne] at this
            exact this
          have f2 := HO0'.out.frozenAt 2
          have c2 := HO0'.out.cellAt 2 (by omega)
          rw [show (scells (pageHead id true ++ pairW ps))[2]? = some (.string ⟨#[108, 101, 97, 102]⟩) from rfl] at c2
          have hst := (HO0'.out.stored 2 (.string ⟨#[107, 105, 100, 115]⟩)).1
          rw [head_set] at hst
          have HO1 := hid hst
          have HD1 := hid (HD0.out.setCell (p := ⟨g, 2, none⟩) (by have := World.ownsRow.lt HO0'.out g rfl; show w.heap.size ≤ g; omega) (.string ⟨#[107, 105, 100, 115]⟩))
          have hw2 := (HW.out.far (HO0'.out.stored 2 (.string ⟨#[107, 105, 100, 115]⟩)).2 (fun k e => by have := World.ownsRow.lt HO0'.out g rfl; injection e; omega)).c2
          have e7 : (2 : Int) < ((3 + ps.length : Nat) : Int) := by omega
          have e8 : (2 : Int) < 3 + (ps.length : Int) := by omega
          have e9 : 2 < 3 + ps.length := by omega
          clear hst hne
          go_wp2_with fail
          go_loopw [3, 37] (fun t i wr => ∃ (k g cc : Nat), k ≤ ks.length ∧ i = .int .i64 (k : Int) ∧ t = .slice (some ⟨g, 0, none⟩) (3 + ps.length + k) cc ∧ Hid (wr.ownsRow (w.heap.size + 1) 9 1 (.slice (some ⟨g, 0, none⟩) (3 + ps.length + k) cc) (3 + ps.length + k) (scells (pageHead id false ++ pairW ps ++ kidW (ks.take k)))) ∧ Below w.heap.size w wr) (fun _ i _ => ks.length - (intOf i).toNat)
          case atStart => exact ⟨0, g, cc, Nat.zero_le _, rfl, rfl, by
              have h := HO1.out
              rw [← List.append_nil (pageHead id false ++ pairW ps)] at h
              exact h, HD1.out⟩
          case round =>
            obtain ⟨k, g, cc, hk, rfl, rfl, HO, hbw⟩ := hrel
            by_cases hlt : k < ks.length
            · obtain ⟨b, off, rfl, hb, hc1⟩ := (HK.out.below hbw).at_ hlt
              have hq := HPK.out ks[k] (List.getElem_mem hlt)
              have HD := hid hbw
              have hbs := hbw.size
              have hgl : w.heap.size < wr.heap.size := by have := World.ownsRow.lt HO.out g rfl; omega
              clear hbw
              have p0 : 0 ≤ ks[k] := by omega
              have p1 : ks[k] ≤ 1000000000000 := by omega
              have e5 : (0 : Int) ≤ (k : Int) := by omega
              have e6 : (k : Int) < (ks.length : Int) := by omega
              go_wp2_with fail
              refine (decimal_int ks[k] _ p0 p1 (HT.out _ HD.out)).mono ?_
              rintro e w2 ⟨rfl, hb2⟩
              have HB2 := hid hb2
              have hs2 := hb2.size
              clear hb2 hc1
              have hown2 := ((HO.out.kept (below_grown HB2.out) (.inr (by simp [Value.ownBlock]))).alloc (.cells #[.string (decB ks[k].toNat)] 9))
              have HO2 := hid hown2
              clear hown2
              go_wp2_with (at_builtin; refine wpList_append_lies _ rfl _ _ _ rfl (w.heap.size + 1) 9 i0 _ 1 16 Tryd.underlying43 hi0 hz0 hz1 hz2 rfl (by omega) (.slice (some ⟨g, 0, none⟩) (3 + ps.length + k) cc) (3 + ps.length + k) _ rfl HO2.out ⟨w2.heap.size, 0, none⟩ 1 1 [.string (decB ks[k].toNat)] rfl rfl (World.news_of_block (cs := #[.string (decB ks[k].toNat)]) (t := 9) (fr := (0, 0)) (heap_alloc_new w2 _)) (by simp [Value.oneCell']) (by omega) (by unfold maxLen; omega) (by omega) (by simp; omega) (w2.heap.size + 1) (by simp) ?_; intro gg cap w4 hown4 hgrow4 hat4 hlt4; have HO4 := hid hown4; have HG4 := hid hgrow4; clear hown4 hgrow4 hat4)
              go_roundw
              case rel => exact ⟨k + 1, gg, cap, by omega, by go_num, rfl, by
                  have h := HO4.out
                  rw [kids_snoc hlt] at h
                  exact h, ((HD.out.trans (HB2.out.mono hbs)).alloc (by omega) _).grown HG4.out (by simp; omega) (fun k hk => by have := World.ownsRow.lt HO2.out k hk; omega)⟩
              case measure => simp [intOf]; omega
            · obtain rfl : k = ks.length := by omega
              have hown := HO.out
              rw [List.take_length] at hown
              have hlenW : (pageHead id false ++ pairW ps ++ kidW ks).length = 3 + ps.length + ks.length := by
                rw [List.length_append, List.length_append]
                show 3 + (ps.map wB).length + (ks.map fun k => decB k.toNat).length = _
                rw [List.length_map, List.length_map]
              have hs := summed_any g cc (pageHead id false ++ pairW ps ++ kidW ks) wr (fun j x hx => by
                rw [Nat.zero_add]
                exact (hown.cellAt j (by have := (List.getElem?_eq_some_iff.1 hx).1; omega)).trans (by rw [scells, List.getElem?_map, hx]; rfl)) (World.ownsRow.lt hown g rfl).2 (by omega) (by rw [hlenW]; exact (row_cap hown).1) HSZ.out (HT.out _ hbw)
              rw [hlenW] at hs
              have HS := hid hs
              have HD := hid hbw
              clear hs hown hbw HO
              go_wp2_with (go_at_call 23; refine HS.out.mono ?_; rintro e w9 ⟨rfl, hw9⟩; have HW9 := hid hw9; clear hw9)
              go_ret
              exact ⟨ret_txt HE.out.symm, HD.out.trans (HW9.out.mono HD.out.size)⟩
        · have g1 : decide ((0 : Int) < (ks.length : Int)) = false := by rw [decide_eq_false_iff_not]; omega
          have hne : ks.isEmpty = true := by cases ks with | nil => rfl | cons => simp at h1
          have HE : Hid (pageT id ps ks = summedB (joinB (pageHead id true ++ pairW ps ++ kidW ks))) := by
            have := HS0.out
            simp [Hid, pageT, this, pageWords, hne]
          have HSZ : Hid ((joinB (pageHead id true ++ pairW ps ++ kidW ks)).size ≤ 10000) := by
            have := words_small HS0.out
            rw [pageWords, hne] at this
            exact this
          have HO1 := HO0'
          have HD1 := HD0
          clear hne
          go_wp2_with fail
          go_loopw [3, 37] (fun t i wr => ∃ (k g cc : Nat), k ≤ ks.length ∧ i = .int .i64 (k : Int) ∧ t = .slice (some ⟨g, 0, none⟩) (3 + ps.length + k) cc ∧ Hid (wr.ownsRow (w.heap.size + 1) 9 1 (.slice (some ⟨g, 0, none⟩) (3 + ps.length + k) cc) (3 + ps.length + k) (scells (pageHead id true ++ pairW ps ++ kidW (ks.take k)))) ∧ Below w.heap.size w wr) (fun _ i _ => ks.length - (intOf i).toNat)
          case atStart => exact ⟨0, g, cc, Nat.zero_le _, rfl, rfl, by
              have h := HO1.out
              rw [← List.append_nil (pageHead id true ++ pairW ps)] at h
              exact h, HD1.out⟩
          case round =>
            obtain ⟨k, g, cc, hk, rfl, rfl, HO, hbw⟩ := hrel
            by_cases hlt : k < ks.length
            · omega
            · obtain rfl : k = ks.length := by omega
              have hown := HO.out
              rw [List.take_length] at hown
              have hlenW : (pageHead id true ++ pairW ps ++ kidW ks).length = 3 + ps.length + ks.length := by
                rw [List.length_append, List.length_append]
                show 3 + (ps.map wB).length + (ks.map fun k => decB k.toNat).length = _
                rw [List.length_map, List.length_map]
              have hs := summed_any g cc (pageHead id true ++ pairW ps ++ kidW ks) wr (fun j x hx => by
                rw [Nat.zero_add]
                exact (hown.cellAt j (by have := (List.getElem?_eq_some_iff.1 hx).1; omega)).trans (by rw [scells, List.getElem?_map, hx]; rfl)) (World.ownsRow.lt hown g rfl).2 (by omega) (by rw [hlenW]; exact (row_cap hown).1) HSZ.out (HT.out _ hbw)
              rw [hlenW] at hs
              have HS := hid hs
              have HD := hid hbw
              clear hs hown hbw HO
              go_wp2_with (go_at_call 23; refine HS.out.mono ?_; rintro e w9 ⟨rfl, hw9⟩; have HW9 := hid hw9; clear hw9)
              go_ret
              exact ⟨ret_txt HE.out.symm, HD.out.trans (HW9.out.mono HD.out.size)⟩
end Go.Proofs.YtooalnpfenhelabDoor
