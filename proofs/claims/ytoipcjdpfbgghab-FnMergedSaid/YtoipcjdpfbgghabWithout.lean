/-
  The program's without, Put, Drop, Range; the model's: contracts.
-/
import Derived.Test.YtoipcjdpfbgghabWith
import Derived.Test.YtoipcjdpfbgghabSpecPut
namespace Go.Proofs.Ytoipcjdpfbgghab
open Go.RowKit

theorem RS.two (w : World) (B : Nat) (T' : TypeId) (A1 A3 : Option Addr) (c1 c3 n1 n3 : Nat) (l1 l3 : PS) (h1 : RP w B A1 l1) (h3 : RP w B A3 l3) (e1 : n1 = l1.length) (e3 : n3 = l3.length) (hB : B ≤ w.heap.size) :
    RS (w.alloc (.cells #[.slice A1 n1 c1, .slice A3 n3 c3] T')) (w.heap.size + 1) (some ⟨w.heap.size, 0, none⟩) [⟨A1, c1, l1⟩, ⟨A3, c3, l3⟩] := by
  subst e1 e3
  have b1 : Below w.heap.size w (w.alloc (.cells #[.slice A1 l1.length c1, .slice A3 l3.length c3] T')) := (Below.refl _ _).alloc (Nat.le_refl _) _
  have hb : (w.alloc (.cells #[.slice A1 l1.length c1, .slice A3 l3.length c3] T')).heap[w.heap.size]? = some (.cells #[.slice A1 l1.length c1, .slice A3 l3.length c3] T' (0, 0)) := heap_alloc_new w _
  refine .inr ⟨w.heap.size, 0, rfl, by omega, fun i s hs => ?_⟩
  match i, hs with
  | 0, hs =>
    simp only [List.getElem?_cons_zero, Option.some.injEq] at hs
    subst hs
    exact ⟨by rw [cell_of_row _ _ _ _ _ _ hb]; rfl, ((h1.more hB).below b1).more (by omega)⟩
  | 1, hs =>
    simp only [List.getElem?_cons_succ, List.getElem?_cons_zero, Option.some.injEq] at hs
    subst hs
    exact ⟨by rw [cell_of_row _ _ _ _ _ _ hb]; rfl, ((h3.more hB).below b1).more (by omega)⟩
  | i + 2, hs => simp at hs

theorem concat2 (w2 : World) (T' : TypeId) (A1 A3 : Option Addr) (c1 c3 n1 n3 : Nat) (l1 l3 L : PS) (h1 : RP w2 w2.heap.size A1 l1) (h3 : RP w2 w2.heap.size A3 l3) (e1 : n1 = l1.length) (e3 : n3 = l3.length) (hl : l1.length + l3.length ≤ 1000) (hL : L = l1 ++ l3) :
    Calls Try.prog 72 #[.slice (some ⟨w2.heap.size, 0, none⟩) 2 2]
      (w2.alloc (.cells #[.slice A1 n1 c1, .slice A3 n3 c3] T')).drew (Joined w2 L) := by
  have hr := RS.two w2 w2.heap.size T' A1 A3 c1 c3 n1 n3 l1 l3 h1 h3 e1 e3 (Nat.le_refl _)
  have e : List.flatMap SE.ps [⟨A1, c1, l1⟩, ⟨A3, c3, l3⟩] = L := by rw [hL]; simp
  have hb : Below w2.heap.size w2 (w2.alloc (.cells #[.slice A1 n1 c1, .slice A3 n3 c3] T')).drew := ((Below.refl _ _).alloc (Nat.le_refl _) _).drew
  refine (concat_any _ 2 [⟨A1, c1, l1⟩, ⟨A3, c3, l3⟩] _ (RS.more (w := (w2.alloc (.cells #[.slice A1 n1 c1, .slice A3 n3 c3] T')).drew) hr (by simp)) (by rw [totL, e, hL]; simp; omega) (by simp)).mono ?_
  rintro x w' ⟨A, c, rfl, ho, hw⟩
  rw [e] at ho ⊢
  exact ⟨A, c, rfl, ho.mono hb.size, hb.trans (hw.mono hb.size)⟩

/-- Pairs that the call made, and whether. -/
def Made2 (w : World) (L : PS) (b : Bool) (e : Ending) (w' : World) : Prop := ∃ A c, e = .returned (.tuple #[.slice A L.length c, .bool b]) ∧ OwnP w' w.heap.size A c L ∧ Below w.heap.size w w'
theorem Made2.no {w w' : World} {L : PS} {b : Bool} (hL : L = []) (hb : b = false) (h : Below w.heap.size w w') : Made2 w L b (.returned (.tuple #[.slice none 0 0, .bool false])) w' := by
  subst hL hb
  exact ⟨none, 0, rfl, OwnP.nil_ _ _, h⟩

set_option maxHeartbeats 2000000 in
theorem without_any (A : Option Addr) (c : Nat) (ps : PS) (k : ByteArray) (w : World) (hr : RP w w.heap.size A ps) (hvs : VS A c ps.length) (hn : ps.length ≤ 900) (hs : risesB ps = true) :
    Calls Try.prog 61 #[.slice A ps.length c, .string k] w (Made2 w (if hasK ps k then dropL ps k else []) (hasK ps k)) := by
  have HS := hid hs
  have HR := hid hr
  clear hs hr
  cases hh : hasK ps k
  · clear hvs
    go_enter Try.func61, Try.ntmps61
    go_wp2_with (go_at_call 66; refine (place_any _ c ps k _ HR.out (le60 hn) HS.out).mono ?_; rintro e w2 ⟨rfl, hw2⟩)
    go_ret2
    exact Made2.no (by simp) rfl hw2
  · have HP := hid (sorted_drop HS.out k hh)
    have hlt := ((hasK_iff HS.out k).1 hh).1
    rcases hvs with ⟨rfl, rfl, h0⟩ | ⟨g, off, rfl, hnc, hcm⟩
    · omega
    · unfold maxLen at hcm
      have hcc : cnt ps k ≤ c := by omega
      have hci : (cnt ps k : Int) ≤ (c : Int) := by omega
      have e1 : IntKind.i64.wrap ((cnt ps k : Int) + 1) = (cnt ps k : Int) + 1 := IntWalk.i64_in _ (by omega)
      have e2 : (0 : Int) ≤ (cnt ps k : Int) + 1 := by omega
      have e3 : (cnt ps k : Int) + 1 ≤ (ps.length : Int) := by omega
      have e4 : ((cnt ps k : Int) + 1).toNat = cnt ps k + 1 := by omega
      have e5 : (ps.length : Int) ≤ (c : Int) := by omega
      by_cases hcap : c = cnt ps k + 1
      · subst hcap
        clear hci e5
        have f1 : (cnt ps k : Int) ≤ (cnt ps k : Int) + 1 := by omega
        have f2 : (ps.length : Int) ≤ (cnt ps k : Int) + 1 := by omega
        have f3 : (ps.length : Int) - ((cnt ps k : Int) + 1) = 0 := by omega
        go_enter Try.func61, Try.ntmps61
        go_wp2_with (go_at_call 66; refine (place_any _ _ ps k _ HR.out (le60 hn) HS.out).mono ?_; rintro e w2 ⟨rfl, hw2⟩; have HB := hid hw2; have HR2 := hid ((HR.out.below hw2).more hw2.size); clear hw2)
        go_region_held3 (fun _ => True) (trivial)
          (first | (go_at_call 72; refine (concat2 w2 _ _ _ _ _ _ _ (ps.take (cnt ps k)) (ps.drop (cnt ps k + 1)) (dropL ps k) (HR2.out.take _) (RP.any _ (by simp; omega)) (by simp; omega) (by simp; try omega) (by simp; omega) HP.out).mono ?_; rintro e w9 ⟨A9, c9, rfl, ho9, hb9⟩; have HO9 := hid ho9; have HB9 := hid hb9; clear ho9 hb9))
        go_wp2_with fail
        go_ret2
        exact ⟨A9, c9, rfl, HO9.out.mono HB.out.size, HB.out.trans (HB9.out.mono HB.out.size)⟩
      · go_enter Try.func61, Try.ntmps61
        go_wp2_with (go_at_call 66; refine (place_any _ c ps k _ HR.out (le60 hn) HS.out).mono ?_; rintro e w2 ⟨rfl, hw2⟩; have HB := hid hw2; have HR2 := hid ((HR.out.below hw2).more hw2.size); clear hw2)
        go_region_held3 (fun _ => True) (trivial)
          (first | (go_at_call 72; refine (concat2 w2 _ _ _ _ _ _ _ (ps.take (cnt ps k)) (ps.drop (cnt ps k + 1)) (dropL ps k) (HR2.out.take _) (HR2.out.drop' (by omega)) (by simp; omega) (by simp) (by simp; omega) HP.out).mono ?_; rintro e w9 ⟨A9, c9, rfl, ho9, hb9⟩; have HO9 := hid ho9; have HB9 := hid hb9; clear ho9 hb9))
        go_wp2_with fail
        go_ret2
        exact ⟨A9, c9, rfl, HO9.out.mono HB.out.size, HB.out.trans (HB9.out.mono HB.out.size)⟩
end Go.Proofs.Ytoipcjdpfbgghab
