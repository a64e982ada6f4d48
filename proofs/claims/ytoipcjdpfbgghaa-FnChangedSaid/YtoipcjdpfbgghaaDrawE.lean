/-
  Drawn changes, two of them, or with a map; the laws' comparing.
-/
import Derived.Test.YtoipcjdpfbgghaaDrawD
import Derived.Test.YtoipcjdpfbgghaaPairEq
namespace Go.Proofs.Ytoipcjdpfbgghaa
open Go.RowKit

def sameToC (ps qs : CS) (k : Nat) : Prop := ∀ (i : Nat) (h : i < ps.length) (h' : i < qs.length), i < k → ps[i] = qs[i]
theorem sameC_succ {ps qs : CS} {k : Nat} (h : sameToC ps qs k) (hk : k < ps.length) (hk' : k < qs.length) (he : ps[k] = qs[k]) : sameToC ps qs (k + 1) := by
  intro i hi hi' hlt
  by_cases e : i = k
  · subst e
    exact he
  · exact h i hi hi' (by omega)

/-- Changes that are drawn. -/
def ChgsD (w : World) (e : Ending) (w' : World) : Prop := ∃ A c ls, e = .returned (.slice A ls.length c) ∧ RC w' w'.heap.size A ls ∧ FitsC ls ∧ ls.length ≤ 5 ∧ Below w.heap.size w w'
/-- A drawn map and drawn changes. -/
def MapChgD (w : World) (e : Ending) (w' : World) : Prop := ∃ A c ps K d ls, e = .returned (.tuple #[.slice A ps.length c, .slice K ls.length d]) ∧ RP w' w'.heap.size A ps ∧ VS A c ps.length ∧ SmallP ps ∧ ps.length ≤ 60 ∧ RC w' w'.heap.size K ls ∧ VS K d ls.length ∧ FitsC ls ∧ ls.length ≤ 5 ∧ Below w.heap.size w w'
/-- Changes twice. -/
def TwoChgD (w : World) (e : Ending) (w' : World) : Prop := ∃ A c ks K d ls, e = .returned (.tuple #[.slice A ks.length c, .slice K ls.length d]) ∧ RC w' w'.heap.size A ks ∧ VS A c ks.length ∧ FitsC ks ∧ ks.length ≤ 5 ∧ RC w' w'.heap.size K ls ∧ VS K d ls.length ∧ FitsC ls ∧ ls.length ≤ 5 ∧ Below w.heap.size w w'
theorem OwnC.vs {w : World} {B c : Nat} {A : Option Addr} {ls : CS} (h : OwnC w B A c ls) : VS A c ls.length := by
  rcases h.2 with ⟨hv, hn⟩ | ⟨g, cap, cur, hv, _, _, hnc, hcm, _⟩
  · injection hv with e1 e2 e3
    exact .inl ⟨e1, e3, hn⟩
  · injection hv with e1 e2 e3
    subst e3
    exact .inr ⟨g, 0, e1, hnc, hcm⟩

set_option maxHeartbeats 4000000 in
set_option maxRecDepth 100000 in
theorem drawChanged_any (A : Option Addr) (n c : Nat) (w : World) (hc : CB w w.heap.size A n) (hn : n ≤ 1048576) :
    Calls Try.prog 57 #[.slice A n c] w (MapChgD w) := by
  have HC := hid hc
  clear hc
  go_enter Try.func57, Try.ntmps57
  go_wp2_with fail
  refine (open_any A n c _).mono ?_
  rintro e w1 ⟨rfl, hw1⟩
  obtain ⟨hr1, hb1, hc1⟩ := rd_start HC.out hn hw1
  have HR1 := hid hr1
  have HB1 := hid hb1
  have hsz1 : w.heap.size < w1.heap.size := hr1.lt.1
  clear hw1 hr1 hb1 hc1
  go_wp2_with fail
  refine (pairs_any w.heap.size w.heap.size 7 _ HR1.out (by omega)).mono ?_
  rintro e w2 ⟨A2, c2, ps, rfl, ho2, hm2, hr2, hg2⟩
  have HO2 := hid ho2
  have HR2 := hid hr2
  have HB2 := hid (HB1.out.grown hg2 HB1.out.size (by simp))
  have hsz2 : w1.heap.size ≤ w2.heap.size := hg2.size
  clear ho2 hr2 hg2
  go_wp2_with fail
  refine (bent_any w.heap.size w1.heap.size w.heap.size A2 c2 ps _ HR2.out HO2.out hsz1 hm2 hsz2).mono ?_
  rintro e w3 ⟨A3, c3, rs, rfl, ho3, hs3, hl3, hr3, hk3⟩
  have HO3 := hid ho3
  have HS3 := hid hs3
  have HR3 := hid hr3
  have HB3 := hid (HB2.out.trans (hk3.low (by omega) (Nat.le_refl _)))
  clear ho3 hs3 hr3
  go_wp2_with fail
  refine (delta_any w.heap.size w.heap.size _ HR3.out).mono ?_
  rintro e w4 ⟨A4, c4, ls, rfl, ho4, ht4, hl4, hr4, hg4⟩
  have HO4 := hid ho4
  have HT4 := hid ht4.fits
  have HM4 := hid (HO3.out.keep_g hg4 hsz1)
  have HB4 := hid (HB3.out.grown hg4 HB3.out.size (by simp))
  clear ho4 ht4 hr4 hg4
  go_wp2_with fail
  go_ret2
  exact ⟨A3, c3, rs, A4, c4, ls, rfl, HM4.out.rp, HM4.out.vs, HS3.out, hl3, HO4.out.rh, HO4.out.vs, HT4.out, hl4, HB4.out⟩

end Go.Proofs.Ytoipcjdpfbgghaa
