/-
  Range of both: contracts.
-/
import Derived.Test.YtnhipiafnijdnaaPutDrop
import Derived.Lib.SliceRun
namespace Go.Proofs.Ytnhipiafnijdnaa
open Go.RowKit

theorem Made.of {w w' : World} {L L' : PS} {A : Option Addr} {c : Nat} (hL : L = L') (ho : OwnP w' w.heap.size A c L') (h : Below w.heap.size w w') : Made w w.heap.size L (.returned (.slice A L'.length c)) w' := by
  subst hL
  exact ⟨A, c, rfl, ho, h⟩

theorem Made.of_n {w w' : World} {L L' : PS} {A : Option Addr} {n c : Nat} (hL : L = L') (hn : n = L'.length) (ho : OwnP w' w.heap.size A c L') (h : Below w.heap.size w w') : Made w w.heap.size L (.returned (.slice A n c)) w' := by
  subst hn
  exact Made.of hL ho h

set_option maxHeartbeats 1000000 in
theorem clone_any (g off n c : Nat) (ps : PS) (w : World) (hr : RP w w.heap.size (some ⟨g, off, none⟩) ps) (hn : n = ps.length) (hl : ps.length ≤ 1000) :
    Calls Try.prog 140 #[.slice (some ⟨g, off, none⟩) n c] w (Made w w.heap.size ps) := by
  obtain ⟨i0, hi0, hz0, hz1, hz2⟩ := info_parts pairInfo
  have HR := hid hr
  have HN := hid hn
  clear hr hn
  have qT : ∀ (w : World) (a : Option Addr) (n c n' c' : Nat), (binOp .eql 75 (.slice a n c) (.slice none n' c')).run Try.prog w = .ok (.bool a.isNone) w := fun w a n c n' c' => Lib.run_eql_slice_nil w _ _ a n c n' c' Try.underlying75
  go_enter Try.func140, Try.ntmps140
  go_wp2_with (at_builtin; refine wpList_append_rp _ rfl _ _ _ rfl i0 Try.underlying75 hi0 hz0 hz1 hz2 w.heap.size _ 0 0 [] rfl rfl (OwnP.made (Nat.le_refl _) #[] 0 rfl (Nat.zero_le _)) _ _ _ _ ps rfl HN.out (HR.out.below ((Below.refl _ _).alloc (Nat.le_refl _) _)) (by simp; omega) (by simp) ?_; intro A2 n2 c2 w2 hn2 hown2 hbw2; have HN2 := hid hn2; have HO2 := hid hown2; have HB2 := hid hbw2; clear hn2 hown2 hbw2)
  go_ret
  exact ⟨A2, c2, ret_slice HN2.out, HO2.out, ((Below.refl _ _).alloc (Nat.le_refl _) _).trans HB2.out⟩

end Go.Proofs.Ytnhipiafnijdnaa
