/-
  The program's edgesOf and WaitsFor.
  The program's WaitsFor.
-/
import Derived.Test.YtjdmaoegfpgfjaaEdgeSort
import Derived.Test.YtjdmaoegfpgfjaaEdgeCompact
namespace Go.Proofs.Ytjdmaoegfpgfjaa
open Go.RowKit Go.Shelf

theorem appE_len {L : ES} {a : ED} {n : Nat} (h : n = (L ++ [a]).length) {M : ES} (e : M = L ++ [a]) : n = M.length := by rw [h, e]
theorem OwnE.far {w w' : World} {B c : Nat} {A : Option Addr} {es : ES} {row : Option Nat} (h : OwnE w B A c es) (hg : w.grownBy w' row) (hne : ∀ k, Value.ownBlock (.slice A es.length c) = some k → some k ≠ row) : OwnE w' B A c es :=
  h.stay fun k hk => hg.block k (h.size k hk).2 (hne k hk)
theorem Row2.app {w w' : World} {g B n c : Nat} {t : TypeId} {a b : Value} {A : Option Addr} {es : ES} (h : Row2 w g t a b) (hg : w.grownBy w' (Value.ownBlock (.slice A n c))) (ho : OwnE w B A c es) (hn : n = es.length) (hgB : g < B) : Row2 w' g t a b := by
  subst hn
  exact h.far hg fun k hk => by have := (ho.size k hk).1; omega
theorem Row3.app {w w' : World} {g B n c : Nat} {a b d : Value} {A : Option Addr} {es : ES} (h : Row3 w g 49 a b d) (hg : w.grownBy w' (Value.ownBlock (.slice A n c))) (ho : OwnE w B A c es) (hn : n = es.length) : Row3 w' g 49 a b d := by
  subst hn
  exact h.kept hg (.inr fun e => own_ne (by decide) ho h _ e.symm rfl)

set_option maxHeartbeats 8000000 in
set_option maxRecDepth 100000 in
theorem impl_edgesOf (A : Option Addr) (c : Nat) (h : HS) (K : Option Addr) (d : Nat) (l : HS) (w : World) (hr : RH w w.heap.size A h) (hf : FitsH h) (hn : h.length ≤ 200) (hr' : RH w w.heap.size K l) (hf' : FitsH l) (hn' : l.length ≤ 100) (hd : l.length ≤ d) (hd2 : d ≤ maxLen) :
    Calls Try.prog 92 #[.agg #[.slice A h.length c, .slice K l.length d]] w (MadeE w (edgesL h l)) := by
  obtain ⟨i0, hi0, hz0, hz1, hz2⟩ := info_parts edgeInfo
  have HRL : Hid (∀ k, k ≤ l.length → (rawE h l k).length ≤ 30000) := fun k hk => by
    have h1 := rawE_len h l k hk
    have h2 : k * (h.length + l.length) ≤ 100 * 300 := Nat.mul_le_mul (by omega) (by omega)
    omega
  have hb1 : Below w.heap.size w (w.alloc (.cells #[.slice A h.length c, .slice K l.length d] 39)) := (Below.refl _ _).alloc (Nat.le_refl _) _
  have X := hid (Row2.lit w 39 (.slice A h.length c) (.slice K l.length d))
  have HB1 := hid hb1
  have HR := hid hr
  have HR2 := hid hr'
  have HF := hid hf
  have HF2 := hid hf'
  have HD2 := hid hd2
  have HS1 : Hid ((w.alloc (.cells #[.slice A h.length c, .slice K l.length d] 39)).heap.size = w.heap.size + 1) := by rw [Hid]; simp
  clear hr hr' hf hf' hb1 hd2
  go_enter Try.func92, Try.ntmps92
  go_wp2_with fail
  generalize hw1 : w.alloc (.cells #[.slice A h.length c, .slice K l.length d] 39) = w1 at *
  clear hw1
  go_loopw [3, 13] (fun i3 i13 wr => ∃ (k n : Nat) (A' : Option Addr) (c' : Nat), k ≤ l.length ∧ i3 = .slice A' n c' ∧ n = (rawE h l k).length ∧ i13 = .int .i64 (k : Int) ∧ Hid (OwnE wr (w.heap.size + 1) A' c' (rawE h l k)) ∧ Hid (Row2 wr w.heap.size 39 (.slice A h.length c) (.slice K l.length d)) ∧ Hid (Below w.heap.size w wr) ∧ w.heap.size + 1 ≤ wr.heap.size) (fun _ i _ => l.length - (intOf i).toNat)
  case atStart => exact ⟨0, 0, none, 0, Nat.zero_le _, rfl, rfl, rfl, OwnE.nil_ _ _, X.out, HB1.out, Nat.le_of_eq HS1.out.symm⟩
  case round =>
    obtain ⟨k, n, A', c', hk, rfl, HNR0, rfl, HO, HX, HB, hsz⟩ := hrel
    have hnr := hid HNR0
    clear HNR0
    by_cases hlt : k < l.length
    · obtain ⟨kb, ko, rfl, hkb, hc1, hc2, hc3⟩ := (HR2.out.below HB.out).at_ hlt
      have x0 := HX.out.c0
      have x1 := HX.out.c1
      have Z := hid (Row3.lit wr 49 (.int .i64 l[k].1) (.string l[k].2.1) (.int .i64 l[k].2.2))
      have BA := hid ((Below.refl wr.heap.size wr).alloc (Nat.le_refl _) (.cells #[.int .i64 l[k].1, .string l[k].2.1, .int .i64 l[k].2.2] 49))
      have HO2 := hid (HO.out.below BA.out)
      have HX2 := hid (HX.out.below BA.out)
      have HB2 := hid (HB.out.trans (BA.out.mono HB.out.size))
      have e5 : (0 : Int) ≤ (k : Int) := by omega
      have e6 : (k : Int) < (l.length : Int) := by omega
      have x2 := HX2.out.c0
      go_wp2_with fail
      have hsz2 : w.heap.size + 1 ≤ (wr.alloc (.cells #[.int .i64 l[k].1, .string l[k].2.1, .int .i64 l[k].2.2] 49)).heap.size := Nat.le_trans hsz BA.out.size
      generalize hw2 : wr.alloc (.cells #[.int .i64 l[k].1, .string l[k].2.1, .int .i64 l[k].2.2] 49) = w2 at *
      clear hw2 x0 x1 x2 hc1 hc2 hc3
      generalize hgz : wr.heap.size = gz at *
      have HRK := hid (HRL.out k hk)
      have HL2 : Hid ((heldE h l[k]).length ≤ 200) := by have := heldE_len h l[k]; rw [Hid]; omega
      have HL3 : Hid (∀ m, (heldE (h.take m) l[k]).length ≤ 200) := fun m => by have := heldE_len (h.take m) l[k]; rw [List.length_take] at this; omega
      have HL4 : Hid (∀ m, (aheadE (l.take m) l[k]).length ≤ 100) := fun m => by have := aheadE_len (l.take m) l[k]; rw [List.length_take] at this; omega
      have hgz1 : w.heap.size + 1 ≤ gz := hsz
      have hgz2 : gz < w2.heap.size := by have := (World.ownsRow.lt Z.out gz rfl).2; exact this
      have hkc : k ≤ d := by omega
      have hkl : k ≤ l.length := hk
      clear HO HX HB hsz hsz2
      go_loopw [3, 21] (fun i3 i21 wq => ∃ (m n : Nat) (A' : Option Addr) (c' : Nat), m ≤ h.length ∧ i3 = .slice A' n c' ∧ n = (rawE h l k ++ heldE (h.take m) l[k]).length ∧ i21 = .int .i64 (m : Int) ∧ Hid (OwnE wq (w.heap.size + 1) A' c' (rawE h l k ++ heldE (h.take m) l[k])) ∧ Hid (Row2 wq w.heap.size 39 (.slice A h.length c) (.slice (some ⟨kb, ko, none⟩) l.length d)) ∧ Hid (Row3 wq gz 49 (.int .i64 l[k].1) (.string l[k].2.1) (.int .i64 l[k].2.2)) ∧ Hid (Below w.heap.size w wq) ∧ gz < wq.heap.size) (fun _ i _ => h.length - (intOf i).toNat)
      case atStart => exact ⟨0, n, A', c', Nat.zero_le _, rfl, by rw [show heldE (h.take 0) l[k] = [] from rfl, List.append_nil]; exact hnr.out, rfl, by rw [show heldE (h.take 0) l[k] = [] from rfl, List.append_nil]; exact HO2.out, HX2.out, Z.out, HB2.out, hgz2⟩
      case round =>
        obtain ⟨m, n2, A2, c2, hm, rfl, HN0, rfl, HO3, HX3, HZ3, HB3, hgq⟩ := hrel
        have hn2 := hid HN0
        clear HN0
        have HSZ3 : Hid (w.heap.size + 1 ≤ wr.heap.size) := by rw [Hid]; omega
        by_cases hlm : m < h.length
        · obtain ⟨hb, ho, rfl, hhb, hc1, hc2, hc3⟩ := (HR.out.below HB3.out).at_ hlm
          have z0 := HZ3.out.c0
          have z1 := HZ3.out.c1
          have z2 := HZ3.out.c2
          have Y := hid (Row3.lit wr 49 (.int .i64 h[m].1) (.string h[m].2.1) (.int .i64 h[m].2.2))
          have BA2 := hid ((Below.refl wr.heap.size wr).alloc (Nat.le_refl _) (.cells #[.int .i64 h[m].1, .string h[m].2.1, .int .i64 h[m].2.2] 49))
          have HO4 := hid (HO3.out.below BA2.out)
          have HX4 := hid (HX3.out.below BA2.out)
          have HZ4 := hid (HZ3.out.below BA2.out)
          have HB4 := hid (HB3.out.trans (BA2.out.mono HB3.out.size))
          have z40 := HZ4.out.c0
          have z41 := HZ4.out.c1
          have z42 := HZ4.out.c2
          have e7 : (0 : Int) ≤ (m : Int) := by omega
          have e8 : (m : Int) < (h.length : Int) := by omega
          have HS4 := hid BA2.out.size
          go_wp2_with fail
          generalize hw4 : wr.alloc (.cells #[.int .i64 h[m].1, .string h[m].2.1, .int .i64 h[m].2.2] 49) = w4 at *
          clear hw4 z0 z1 z2 z40 z41 z42 hc1 hc2 hc3
          have HKO := hid (impl_keepsOut h[m] l[k] w4)
          cases hkb2 : keepsB h[m] l[k]
          case true =>
            rw [hkb2] at HKO
            have HEQ : Hid (rawE h l k ++ heldE (h.take (m + 1)) l[k] = (rawE h l k ++ heldE (h.take m) l[k]) ++ [(l[k].1, h[m].1)]) := by rw [Hid, heldE_yes hlm hkb2, List.append_assoc]
            refine HKO.out.mono ?_
            rintro e w5 ⟨rfl, hb5⟩
            have HO5 := hid (HO4.out.below hb5)
            have HX5 := hid (HX4.out.below hb5)
            have HZ5 := hid (HZ4.out.below hb5)
            have HY5 := hid (Y.out.below hb5)
            have HB5 := hid (HB4.out.trans (hb5.mono HB4.out.size))
            have HS5 : Hid (wr.heap.size ≤ w5.heap.size) := Nat.le_trans HS4.out hb5.size
            clear hb5
            have z0 := HZ5.out.c0
            have y0 := HY5.out.c0
            have BA6 := hid ((Below.refl w5.heap.size w5).alloc (Nat.le_refl _) (.cells #[.int .i64 l[k].1, .int .i64 h[m].1] 56))
            have HO6 := hid (HO5.out.below BA6.out)
            have HX6 := hid (HX5.out.below BA6.out)
            have HZ6 := hid (HZ5.out.below BA6.out)
            have HB6 := hid (HB5.out.trans (BA6.out.mono HB5.out.size))
            have HLA : Hid ((rawE h l k ++ heldE (h.take m) l[k]).length + [(l[k].1, h[m].1)].length ≤ 4000000) := by have := HL3.out m; have := HRK.out; rw [Hid, List.length_append, List.length_singleton]; omega
            have HLB : Hid (w.heap.size + 1 ≤ (w5.alloc (.cells #[.int .i64 l[k].1, .int .i64 h[m].1] 56)).heap.size) := by have := HSZ3.out; have := HS5.out; have := BA6.out.size; rw [Hid]; omega
            go_wp2_with (at_builtin; refine wpList_append_re (w5.alloc (.cells #[.int .i64 l[k].1, .int .i64 h[m].1] 56)) rfl _ _ _ rfl i0 Try.underlying53 hi0 hz0 hz1 hz2 (w.heap.size + 1) A2 n2 c2 (rawE h l k ++ heldE (h.take m) l[k]) rfl hn2.out HO6.out (w5.heap.size + 1) (some ⟨w5.heap.size, 0, none⟩) 1 1 [(l[k].1, h[m].1)] rfl rfl (RE.new w5 (l[k].1, h[m].1) 56) HLA.out HLB.out ?_; intro A7 n7 c7 w7 hn7 hap7; have HN7 := hid hn7; have HAP7 := hid hap7; clear hn7 hap7)
            go_roundw
            case rel => exact ⟨m + 1, n7, A7, c7, by omega, rfl, by rw [HEQ.out]; exact HN7.out, by go_num, by rw [HEQ.out]; exact HAP7.out.own, HX6.out.app HAP7.out.grown HO6.out hn2.out (by omega), HZ6.out.app HAP7.out.grown HO6.out hn2.out, HB6.out.trans ((HAP7.out.below HO6.out hn2.out HLB.out).mono (by omega)), by have := HAP7.out.grown.size; have := HLB.out; have := HS5.out; have := BA6.out.size; omega⟩
            case measure => simp [intOf]; omega
          case false =>
            rw [hkb2] at HKO
            have HEQ : Hid (heldE (h.take (m + 1)) l[k] = heldE (h.take m) l[k]) := heldE_no hlm hkb2
            refine HKO.out.mono ?_
            rintro e w5 ⟨rfl, hb5⟩
            have HO5 := hid (HO4.out.below hb5)
            have HX5 := hid (HX4.out.below hb5)
            have HZ5 := hid (HZ4.out.below hb5)
            have HB5 := hid (HB4.out.trans (hb5.mono HB4.out.size))
            have HS5 : Hid (wr.heap.size ≤ w5.heap.size) := Nat.le_trans HS4.out hb5.size
            clear hb5
            go_wp2_with fail
            go_roundw
            case rel => exact ⟨m + 1, n2, A2, c2, by omega, rfl, by rw [HEQ.out]; exact hn2.out, by go_num, by rw [HEQ.out]; exact HO5.out, HX5.out, HZ5.out, HB5.out, by have := HS5.out; omega⟩
            case measure => simp [intOf]; omega
        · obtain rfl : m = h.length := by omega
          rw [List.take_length] at hn2 HO3
          have x0 := HX3.out.c0
          have x1 := HX3.out.c1
          have z0 := HZ3.out.c0
          have z1 := HZ3.out.c1
          have z2 := HZ3.out.c2
          have HP := hid (impl_placeOfOwn A c h l[k] wr ((HR.out.below HB3.out).more HB3.out.size) HF.out (by unfold maxLen; omega))
          cases hany : h.any fun y => ownB y l[k]
          case true =>
            obtain ⟨ri, hri, hr1, hr2⟩ := own_yes hany
            have HEQ : Hid (rawE h l (k + 1) = rawE h l k ++ heldE h l[k]) := by rw [Hid, rawE_succ hlt, lineE_own hany, List.append_nil]
            rw [hr1] at HP
            have er : (0 : Int) ≤ (ri : Int) := by omega
            clear hr1 hr2
            go_wp2_with (go_at_call 89; refine HP.out.mono ?_; rintro e w5 ⟨rfl, hb5⟩; have HO5 := hid (HO3.out.below hb5); have HX5 := hid (HX3.out.below hb5); have HB5 := hid (HB3.out.trans (hb5.mono HB3.out.size)); have HS5 := hid hb5.size; clear hb5)
            go_roundw
            case rel => exact ⟨k + 1, n2, A2, c2, by omega, rfl, by rw [HEQ.out]; exact hn2.out, by go_num, by rw [HEQ.out]; exact HO5.out, HX5.out, HB5.out, by have := HS5.out; have := HSZ3.out; omega⟩
            case measure => simp [intOf]; omega
          case false =>
            rw [own_no hany] at HP
            have HEQ : Hid (rawE h l (k + 1) = rawE h l k ++ (heldE h l[k] ++ aheadE (l.take k) l[k])) := by rw [Hid, rawE_succ hlt, lineE_not hany]
            go_wp2_with (go_at_call 89; refine HP.out.mono ?_; rintro e w5 ⟨rfl, hb5⟩; have HO5 := hid (HO3.out.below hb5); have HX5 := hid (HX3.out.below hb5); have HZ5 := hid (HZ3.out.below hb5); have HB5 := hid (HB3.out.trans (hb5.mono HB3.out.size)); have HS5 := hid hb5.size; clear hb5; have x50 := HX5.out.c0; have x51 := HX5.out.c1)
            clear x0 x1 z0 z1 z2 x50 x51
            have HLN : Hid (rawE h l k ++ (heldE h l[k] ++ aheadE (l.take 0) l[k]) = rawE h l k ++ heldE h l[k]) := by rw [Hid, show aheadE (l.take 0) l[k] = [] from rfl, List.append_nil]
            go_loopw [3, 47] (fun i3 i47 wq => ∃ (m n : Nat) (A' : Option Addr) (c' : Nat), m ≤ k ∧ i3 = .slice A' n c' ∧ n = (rawE h l k ++ (heldE h l[k] ++ aheadE (l.take m) l[k])).length ∧ i47 = .int .i64 (m : Int) ∧ Hid (OwnE wq (w.heap.size + 1) A' c' (rawE h l k ++ (heldE h l[k] ++ aheadE (l.take m) l[k]))) ∧ Hid (Row2 wq w.heap.size 39 (.slice A h.length c) (.slice (some ⟨kb, ko, none⟩) l.length d)) ∧ Hid (Row3 wq gz 49 (.int .i64 l[k].1) (.string l[k].2.1) (.int .i64 l[k].2.2)) ∧ Hid (Below w.heap.size w wq) ∧ gz < wq.heap.size) (fun _ i _ => k - (intOf i).toNat)
            case atStart => exact ⟨0, n2, A2, c2, Nat.zero_le _, rfl, by rw [HLN.out]; exact hn2.out, rfl, by rw [HLN.out]; exact HO5.out, HX5.out, HZ5.out, HB5.out, by have := HS5.out; omega⟩
            case round =>
              obtain ⟨m, n6, A6, c6, hm6, rfl, HN0, rfl, HO6, HX6, HZ6, HB6, hgq6⟩ := hrel
              have hn6 := hid HN0
              clear HN0
              have HSZ6 : Hid (w.heap.size + 1 ≤ wr.heap.size) := by rw [Hid]; omega
              by_cases hlm : m < k
              · have hml : m < l.length := by omega
                obtain ⟨_, _, ek, hhb, hc1, hc2, hc3⟩ := (HR2.out.below HB6.out).at_ hml
                injection ek with ek
                injection ek with ek1 ek2
                subst ek1 ek2
                have z0 := HZ6.out.c0
                have z1 := HZ6.out.c1
                have z2 := HZ6.out.c2
                have Y := hid (Row3.lit wr 49 (.int .i64 l[m].1) (.string l[m].2.1) (.int .i64 l[m].2.2))
                have BA2 := hid ((Below.refl wr.heap.size wr).alloc (Nat.le_refl _) (.cells #[.int .i64 l[m].1, .string l[m].2.1, .int .i64 l[m].2.2] 49))
                have HO7 := hid (HO6.out.below BA2.out)
                have HX7 := hid (HX6.out.below BA2.out)
                have HZ7 := hid (HZ6.out.below BA2.out)
                have HB7 := hid (HB6.out.trans (BA2.out.mono HB6.out.size))
                have z70 := HZ7.out.c0
                have z71 := HZ7.out.c1
                have y70 := Y.out.c0
                have y71 := Y.out.c1
                have e7 : (0 : Int) ≤ (m : Int) := by omega
                have e8 : (m : Int) < (k : Int) := by omega
                have HS7 := hid BA2.out.size
                by_cases hkey : l[m].2.1 = l[k].2.1
                · have g2 := eqS_true hkey
                  have HEQ : Hid (rawE h l k ++ (heldE h l[k] ++ aheadE (l.take (m + 1)) l[k]) = (rawE h l k ++ (heldE h l[k] ++ aheadE (l.take m) l[k])) ++ [(l[k].1, l[m].1)]) := by rw [Hid, aheadE_yes hml hkey, List.append_assoc, List.append_assoc]
                  have BA8 := hid ((Below.refl (wr.alloc (.cells #[.int .i64 l[m].1, .string l[m].2.1, .int .i64 l[m].2.2] 49)).heap.size (wr.alloc (.cells #[.int .i64 l[m].1, .string l[m].2.1, .int .i64 l[m].2.2] 49))).alloc (Nat.le_refl _) (.cells #[.int .i64 l[k].1, .int .i64 l[m].1] 56))
                  have HO8 := hid (HO7.out.below BA8.out)
                  have HX8 := hid (HX7.out.below BA8.out)
                  have HZ8 := hid (HZ7.out.below BA8.out)
                  have HB8 := hid (HB7.out.trans (BA8.out.mono HB7.out.size))
                  have HLA : Hid ((rawE h l k ++ (heldE h l[k] ++ aheadE (l.take m) l[k])).length + [(l[k].1, l[m].1)].length ≤ 4000000) := by have := HL2.out; have := HL4.out m; have := HRK.out; rw [Hid, List.length_append, List.length_append, List.length_singleton]; omega
                  have HLB : Hid (w.heap.size + 1 ≤ ((wr.alloc (.cells #[.int .i64 l[m].1, .string l[m].2.1, .int .i64 l[m].2.2] 49)).alloc (.cells #[.int .i64 l[k].1, .int .i64 l[m].1] 56)).heap.size) := by have := HSZ6.out; have := HS7.out; have := BA8.out.size; rw [Hid]; omega
                  have HRN := hid (RE.new (wr.alloc (.cells #[.int .i64 l[m].1, .string l[m].2.1, .int .i64 l[m].2.2] 49)) (l[k].1, l[m].1) 56)
                  have HSZA : Hid ((wr.alloc (.cells #[.int .i64 l[m].1, .string l[m].2.1, .int .i64 l[m].2.2] 49)).heap.size = wr.heap.size + 1) := by rw [Hid]; simp
                  rw [HSZA.out] at HRN
                  clear hkey
                  go_wp2_with (at_builtin; refine wpList_append_re ((wr.alloc (.cells #[.int .i64 l[m].1, .string l[m].2.1, .int .i64 l[m].2.2] 49)).alloc (.cells #[.int .i64 l[k].1, .int .i64 l[m].1] 56)) rfl _ _ _ rfl i0 Try.underlying53 hi0 hz0 hz1 hz2 (w.heap.size + 1) A6 n6 c6 (rawE h l k ++ (heldE h l[k] ++ aheadE (l.take m) l[k])) rfl hn6.out HO8.out (wr.heap.size + 1 + 1) (some ⟨wr.heap.size + 1, 0, none⟩) 1 1 [(l[k].1, l[m].1)] rfl rfl HRN.out HLA.out HLB.out ?_; intro A9 n9 c9 w9 hn9 hap9; have HN9 := hid hn9; have HAP9 := hid hap9; clear hn9 hap9)
                  go_roundw
                  case rel => exact ⟨m + 1, n9, A9, c9, by omega, rfl, by rw [HEQ.out]; exact HN9.out, by go_num, by rw [HEQ.out]; exact HAP9.out.own, HX8.out.app HAP9.out.grown HO8.out hn6.out (by omega), HZ8.out.app HAP9.out.grown HO8.out hn6.out, HB8.out.trans ((HAP9.out.below HO8.out hn6.out HLB.out).mono (by omega)), by have := HAP9.out.grown.size; have := HLB.out; have := HS7.out; have := BA8.out.size; omega⟩
                  case measure => simp [intOf]; omega
                · have g2 := eqS_false hkey
                  have HEQ : Hid (aheadE (l.take (m + 1)) l[k] = aheadE (l.take m) l[k]) := aheadE_no hml hkey
                  clear hkey
                  go_wp2_with fail
                  go_roundw
                  case rel => exact ⟨m + 1, n6, A6, c6, by omega, rfl, by rw [HEQ.out]; exact hn6.out, by go_num, by rw [HEQ.out]; exact HO7.out, HX7.out, HZ7.out, HB7.out, by have := HS7.out; omega⟩
                  case measure => simp [intOf]; omega
              · obtain rfl : m = k := by omega
                go_wp2_with fail
                go_roundw
                case rel => exact ⟨m + 1, n6, A6, c6, by omega, rfl, by rw [HEQ.out]; exact hn6.out, by go_num, by rw [HEQ.out]; exact HO6.out, HX6.out, HB6.out, by have := HSZ6.out; omega⟩
                case measure => simp [intOf]; omega
    · obtain rfl : k = l.length := by omega
      have hnr := hnr.out
      subst hnr
      have HRK := hid (HRL.out l.length (Nat.le_refl _))
      go_wp2_with (first
        | (go_at_call 150; refine (sortFunc_own wr (w.heap.size + 1) A' c' (rawE h l l.length) HO.out (by have := HRK.out; omega)).mono ?_; rintro e w8 ⟨rfl, s, hs1, hs2, hs3, hs4, hs5⟩; have HS1 := hid hs1; have HS2 := hid (ded_set hs2 hs3); have HS4 := hid hs4; have HS5 := hid hs5; clear hs1 hs2 hs3 hs4 hs5; have HC := hid (compact_own (w.heap.size + 1) A' c' s w8 HS4.out (by have := HS1.out; have := HRK.out; omega)); rw [HS1.out] at HC)
        | (go_at_call 154; refine HC.out.mono ?_; rintro e w9 ⟨rfl, hs6, hs7⟩; have HS6 := hid hs6; have HS7 := hid hs7; clear hs6 hs7))
      go_ret
      have g1 := HB.out.grown HS5.out HB.out.size (fun q hq => by have := (HO.out.size q hq).1; omega)
      refine ⟨A', c', by rw [HS2.out]; rfl, ?_, g1.grown HS7.out g1.size (fun q hq => by rw [HS1.out] at hq; have := (HO.out.size q hq).1; omega)⟩
      have := HS6.out
      rw [HS2.out] at this
      exact this.mono (by omega)
end Go.Proofs.Ytjdmaoegfpgfjaa
namespace Go.Proofs.Ytjdmaoegfpgfjaa
open Go.RowKit Go.Shelf

/-- What WaitsFor answers. -/
def waitsR (h l : HS) : ES := if locksB h l then edgesL h l else []
set_option maxHeartbeats 2000000 in
set_option maxRecDepth 100000 in
theorem impl_WaitsFor (A : Option Addr) (c : Nat) (h : HS) (K : Option Addr) (d : Nat) (l : HS) (w : World) (hr : RH w w.heap.size A h) (hf : FitsH h) (hn : h.length ≤ c) (hm : c ≤ maxLen) (hr' : RH w w.heap.size K l) (hf' : FitsH l) (hn' : l.length ≤ d) (hm' : d ≤ maxLen) :
    Calls Try.prog 35 #[.agg #[.slice A h.length c, .slice K l.length d]] w (MadeE w (waitsR h l)) := by
  have hb1 : Below w.heap.size w (w.alloc (.cells #[.slice A h.length c, .slice K l.length d] 39)) := (Below.refl _ _).alloc (Nat.le_refl _) _
  have X := hid (Row2.lit w 39 (.slice A h.length c) (.slice K l.length d))
  have HB1 := hid hb1
  have HR := hid ((hr.below hb1).more hb1.size)
  have HR2 := hid ((hr'.below hb1).more hb1.size)
  have HF := hid hf
  have HF2 := hid hf'
  have HN := hid hn
  have HN2 := hid hn'
  have HM := hid hm
  have HM2 := hid hm'
  clear hr hr' hf hf' hn hn' hm hm' hb1
  go_enter Try.func35, Try.ntmps35
  go_wp2_with fail
  generalize hw1 : w.alloc (.cells #[.slice A h.length c, .slice K l.length d] 39) = w1 at *
  clear hw1
  refine (impl_LocksOk A c h K d l _ HR.out HF.out HN.out HM.out HR2.out HF2.out HN2.out HM2.out).mono ?_
  rintro e w2 ⟨rfl, hb2⟩
  have X2 := hid (X.out.below hb2)
  have HB2 := hid (HB1.out.trans (hb2.mono HB1.out.size))
  have HRb := hid ((HR.out.below hb2).more hb2.size)
  have HR2b := hid ((HR2.out.below hb2).more hb2.size)
  clear hb2
  have y0 := X2.out.c0
  have y1 := X2.out.c1
  cases hlk : locksB h l
  case false =>
    have HE : Hid (waitsR h l = []) := by rw [Hid, waitsR, hlk]; rfl
    go_wp2_with fail
    go_ret
    rw [HE.out]
    exact ⟨none, 0, rfl, OwnE.nil_ _ _, HB2.out⟩
  case true =>
    have HE : Hid (waitsR h l = edgesL h l) := by rw [Hid, waitsR, hlk]; rfl
    have HL := hid (locksB_iff.1 hlk)
    have h1 : Hid (h.length ≤ 200) := by have := HL.out.2.2.1; rw [Hid]; omega
    have h2 : Hid (l.length ≤ 100) := by have := HL.out.2.2.2; rw [Hid]; omega
    go_wp2_with fail
    refine (impl_edgesOf A c h K d l w2 HRb.out HF.out h1.out HR2b.out HF2.out h2.out HN2.out HM2.out).mono ?_
    rintro e w3 ⟨A3, c3, rfl, ho3, hb3⟩
    have HO3 := hid ho3
    have HB3 := hid (HB2.out.trans (hb3.mono HB2.out.size))
    clear ho3 hb3 y0 y1
    go_wp2_with fail
    go_ret
    rw [HE.out]
    exact ⟨A3, c3, rfl, HO3.out.mono HB2.out.size, HB3.out⟩
end Go.Proofs.Ytjdmaoegfpgfjaa
