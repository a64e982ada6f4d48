/-
  slices.Grow at nil, slices.Concat at ops (tools/mkdop.py).
-/
import Derived.Test.YtaiehccpefjbfaaConcat
import Derived.Test.YtaiehccpefjbfaaDopKit
namespace Go.Proofs.Ytaiehccpefjbfaa
open Go.RowKit

set_option maxHeartbeats 1000000 in
set_option maxRecDepth 100000 in
theorem growD_nil (n : Nat) (hn : n ≤ 100000) (w : World) :
    Calls Try.prog 143 #[.slice none 0 0, .int .i64 n] w (MadeD w w.heap.size []) := by
  by_cases h0 : n = 0
  · subst h0
    go_enter Try.func143, Try.ntmps143
    go_wp2
    go_ret
    exact ⟨none, 0, rfl, OwnD.nil_ _ _, Below.refl _ _⟩
  · obtain ⟨i0, hi0, hz0, hz1, hz2⟩ := info_parts dopInfo
    have hrz : ∀ ty, (Builtin.append_ #[31, 3] ty #[.slice none 0 0, .int .i64 (n : Int)]).run Try.prog w =
        .ok (.slice (some ⟨w.heap.size, 0, none⟩) n (grownCap w n 0 37)) (w.drew.alloc (.cells ((([] : List Value).toArray) ++ Builtin.zeroCells (Value.agg #[.int .i64 0, .string ⟨#[]⟩, .string ⟨#[]⟩, .string ⟨#[]⟩]).cells n ++ Builtin.zeroCells (Value.agg #[.int .i64 0, .string ⟨#[]⟩, .string ⟨#[]⟩, .string ⟨#[]⟩]).cells (grownCap w n 0 37 - n)) 37)) := fun ty => by
      have h := Lib.run_append_grow_zeros (P := Try.prog) w 31 3 ty 37 i0 _ .i64 .i64 Try.underlying31 Try.underlying3 hi0 hz0 none 0 0 []
        (run_firstCells_none w.drew i0.size 0 0 0) n (by omega) (by omega) (by omega) (by omega) (by rw [hz2]; omega) (by rw [Nat.zero_add]; exact growslice_fits (by omega) (by rw [hz2]; omega))
      simpa only [Nat.zero_add] using h
    have hge : n ≤ grownCap w n 0 37 := grownCap_ge w _ _ _
    have hle : grownCap w n 0 37 ≤ maxLen := grownCap_le_maxLen w n 0 _ (by unfold maxLen; omega)
    have hmade : ∀ cs : Array Value, cs.size = grownCap w n 0 37 * 4 → OwnD (w.drew.alloc (.cells cs 37)) w.heap.size (some ⟨w.heap.size, 0, none⟩) (grownCap w n 0 37) [] :=
      fun cs hs => OwnD.made (w := w.drew) (Nat.le_refl _) cs _ hs hle
    obtain ⟨G, hG⟩ : ∃ G, G = grownCap w n 0 37 := ⟨_, rfl⟩
    rw [← hG] at hrz hge hle hmade
    have HM := hid hmade
    clear hG hmade
    unfold maxLen at hle
    go_enter Try.func143, Try.ntmps143
    go_wp2_with (at_builtin; refine Lib.wpList_append_run _ rfl _ _ _ _ rfl _ _ rfl rfl _ _ (hrz _) ?_)
    go_ret
    refine ⟨_, G, rfl, HM.out _ ?_, ((Below.refl _ _).drew).alloc (Nat.le_refl _) _⟩
    rw [Array.size_append, size_zeros, size_zeros]
    show n * 4 + (G - n) * 4 = G * 4
    omega

/-- The slices of a list of slices. -/
structure SDo where
  A : Option Addr
  c : Nat
  ps : DS
def RSD (w : World) (B : Nat) (A : Option Addr) (L : List SDo) : Prop :=
  L = [] ∨ ∃ b off, A = some ⟨b, off, none⟩ ∧ b < B ∧ ∀ (i : Nat) (s : SDo), L[i]? = some s → w.cell? ⟨b, off + i, none⟩ = some (.slice s.A s.ps.length s.c) ∧ RD w B s.A s.ps
theorem RSD.below {w w' : World} {B : Nat} {A : Option Addr} {L : List SDo} (h : RSD w B A L) (hb : Below B w w') : RSD w' B A L := by
  rcases h with rfl | ⟨b, off, e, hbk, hc⟩
  · exact .inl rfl
  · exact .inr ⟨b, off, e, hbk, fun i s hs => ⟨(hb.cell hbk).trans (hc i s hs).1, (hc i s hs).2.below hb⟩⟩
def totD (L : List SDo) : Nat := (L.flatMap SDo.ps).length
theorem totD_take {L : List SDo} {k : Nat} (h : k < L.length) : ((L.take (k + 1)).flatMap SDo.ps) = (L.take k).flatMap SDo.ps ++ L[k].ps := by
  rw [List.take_succ_eq_append_getElem h, List.flatMap_append]
  simp
theorem totD_le (L : List SDo) (k : Nat) : ((L.take k).flatMap SDo.ps).length ≤ totD L := by
  unfold totD
  conv => rhs; rw [← List.take_append_drop k L, List.flatMap_append, List.length_append]
  omega

set_option maxHeartbeats 2000000 in
set_option maxRecDepth 100000 in
theorem concatD_any (A : Option Addr) (c : Nat) (L : List SDo) (w : World) (hr : RSD w w.heap.size A L) (hn : totD L ≤ 100000) (hl : L.length ≤ 1000) :
    Calls Try.prog 105 #[.slice A L.length c] w (MadeD w w.heap.size (L.flatMap SDo.ps)) := by
  obtain ⟨i0, hi0, hz0, hz1, hz2⟩ := info_parts dopInfo
  go_enter Try.func105, Try.ntmps105
  go_wp2_with fail
  go_loop [3, 11] (fun q i => ∃ (k m : Nat), k ≤ L.length ∧ i = .int .i64 k ∧ q = .int .i64 m ∧ m = ((L.take k).flatMap SDo.ps).length) (fun _ i => L.length - (intOf i).toNat)
  case atStart => exact ⟨0, 0, Nat.zero_le _, rfl, rfl, rfl⟩
  case round =>
    obtain ⟨k, m, hk, rfl, rfl, hm⟩ := hrel
    have hmle : m ≤ 100000 := by have := totD_le L k; omega
    by_cases hlt : k < L.length
    · obtain ⟨b, off, rfl, hb, hc⟩ : ∃ b off, A = some ⟨b, off, none⟩ ∧ b < w.heap.size ∧ w.cell? ⟨b, off + k, none⟩ = some (.slice L[k].A L[k].ps.length L[k].c) := by
        rcases hr with rfl | ⟨b, off, e, hb, hc⟩
        · simp at hlt
        · exact ⟨b, off, e, hb, (hc k _ (List.getElem?_eq_getElem hlt)).1⟩
      have hs := congrArg List.length (totD_take hlt)
      rw [List.length_append] at hs
      have hle := totD_le L (k + 1)
      have hlen : L[k].ps.length ≤ 100000 := by omega
      have hsum : m + L[k].ps.length ≤ 100000 := by omega
      have HM : Hid (m + L[k].ps.length = ((L.take (k + 1)).flatMap SDo.ps).length) := by rw [Hid, hm, hs]
      clear hs hle hm hr
      go_wp2_with fail
      go_round
      case rel => exact ⟨k + 1, m + L[k].ps.length, by omega, by go_num, by go_num, HM.out⟩
      case measure => simp [intOf]; omega
    · obtain rfl : k = L.length := by omega
      rw [List.take_length] at hm
      clear hm
      go_wp2_with (go_at_call 143; refine (growD_nil m hmle _).mono ?_; rintro e w1 ⟨A1, c1, rfl, ho1, hb1⟩; have HO1 := hid ho1; have HB1 := hid hb1; clear ho1 hb1)
      go_loopw [6, 27] (fun v i wr => ∃ (k : Nat) (n : Nat) (A' : Option Addr) (c' : Nat), k ≤ L.length ∧ i = .int .i64 k ∧ v = .slice A' n c' ∧ n = ((L.take k).flatMap SDo.ps).length ∧ OwnD wr w.heap.size A' c' ((L.take k).flatMap SDo.ps) ∧ Below w.heap.size w wr) (fun _ i _ => L.length - (intOf i).toNat)
      case atStart => exact ⟨0, 0, _, _, Nat.zero_le _, rfl, rfl, rfl, HO1.out, HB1.out⟩
      case round =>
        obtain ⟨k, n, A', c', hk, rfl, rfl, hn', hown, hbw⟩ := hrel
        by_cases hlt : k < L.length
        · obtain ⟨b, off, rfl, hb, hc, hrk⟩ : ∃ b off, A = some ⟨b, off, none⟩ ∧ b < w.heap.size ∧ wr.cell? ⟨b, off + k, none⟩ = some (.slice L[k].A L[k].ps.length L[k].c) ∧ RD wr w.heap.size L[k].A L[k].ps := by
            rcases hr.below hbw with rfl | ⟨b, off, e, hb, hc⟩
            · simp at hlt
            · exact ⟨b, off, e, hb, (hc k _ (List.getElem?_eq_getElem hlt)).1, (hc k _ (List.getElem?_eq_getElem hlt)).2⟩
          have hs := congrArg List.length (totD_take hlt)
          rw [List.length_append] at hs
          have hle := totD_le L (k + 1)
          have HLEN : Hid (((L.take k).flatMap SDo.ps).length + L[k].ps.length ≤ 4000000) := by unfold Hid; omega
          have HT := hid (totD_take hlt)
          have HO := hid hown
          have HD := hid hbw
          have HN := hid hn'
          have HR := hid hrk
          clear hs hle hr hown hbw hn' hrk
          go_wp2_with (at_builtin; refine wpList_append_rd _ rfl _ _ _ rfl i0 Try.underlying31 hi0 hz0 hz1 hz2 w.heap.size A' n c' ((L.take k).flatMap SDo.ps) rfl HN.out HO.out _ _ _ _ L[k].ps rfl rfl HR.out HLEN.out HD.out.size ?_; intro A2 n2 c2 w2 hn2 happ2; have hown2 := happ2.own; have hbw2 := happ2.below HO.out HN.out HD.out.size; clear happ2; have HN2 := hid hn2; have HO2 := hid hown2; have HB2 := hid hbw2; clear hn2 hown2 hbw2)
          go_roundw
          case rel => exact ⟨k + 1, _, _, _, by omega, by go_num, rfl, by rw [HT.out]; exact HN2.out, by rw [HT.out]; exact HO2.out, HD.out.trans HB2.out⟩
          case measure => simp [intOf]; omega
        · obtain rfl : k = L.length := by omega
          have HO := hid hown
          have HD := hid hbw
          have HN := hid hn'
          clear hown hbw hr hn'
          go_wp2_with fail
          go_ret
          rw [List.take_length] at HO HN
          exact ⟨_, _, ret_slice HN.out, HO.out, HD.out⟩
end Go.Proofs.Ytaiehccpefjbfaa
