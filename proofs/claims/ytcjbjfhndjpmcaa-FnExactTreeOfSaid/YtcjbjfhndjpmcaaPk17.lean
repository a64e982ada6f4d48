import Derived.Test.YtcjbjfhndjpmcaaPk03
import Derived.Test.YtcjbjfhndjpmcaaPk16
import Derived.Lib.QuietBelow
import Derived.BigQuiet
import Derived.Test.YtcjbjfhndjpmcaaPk06
import Derived.Lib.AppendZerosOnto
import Derived.Lib.AppendZeros
import Derived.Lib.SliceRun
import Derived.Test.YtcjbjfhndjpmcaaPk15
/-
  Changes by rising keys, in the program: whether they rise, the place of a key.
-/
namespace Go.Proofs.Ytcjbjfhndjpmcaa
open Go.RowKit
end Go.Proofs.Ytcjbjfhndjpmcaa
/-
  DeltaOk of both.
-/
namespace Go.Proofs.Ytcjbjfhndjpmcaa
open Go.RowKit
end Go.Proofs.Ytcjbjfhndjpmcaa
/-
  slices.Grow at nil, slices.Concat, slices.Clone at pairs: contracts.
-/
namespace Go.Proofs.Ytcjbjfhndjpmcaa
open Go.RowKit

theorem size_zeros (z : Array Value) (n : Nat) : (Builtin.zeroCells z n).size = n * z.size := by simp [Builtin.zeroCells]

set_option maxHeartbeats 1000000 in
set_option maxRecDepth 100000 in
theorem grow_nil (n : Nat) (hn : n ≤ 100000) (w : World) :
    Calls Try.prog 152 #[.slice none 0 0, .int .i64 n] w (Made w w.heap.size []) := by
  by_cases h0 : n = 0
  · subst h0
    go_enter Try.func152, Try.ntmps152
    go_wp2
    go_ret
    exact ⟨none, 0, rfl, OwnP.nil_ _ _, Below.refl _ _⟩
  · obtain ⟨i0, hi0, hz0, hz1, hz2⟩ := info_parts pairInfo
    have hrz : ∀ ty, (Builtin.append_ #[106, 3] ty #[.slice none 0 0, .int .i64 (n : Int)]).run Try.prog w =
        .ok (.slice (some ⟨w.heap.size, 0, none⟩) n (grownCap w n 0 57)) (w.drew.alloc (.cells ((([] : List Value).toArray) ++ Builtin.zeroCells (Value.agg #[.string ⟨#[]⟩, .string ⟨#[]⟩]).cells n ++ Builtin.zeroCells (Value.agg #[.string ⟨#[]⟩, .string ⟨#[]⟩]).cells (grownCap w n 0 57 - n)) 57)) := fun ty => by
      have h := Lib.run_append_grow_zeros (P := Try.prog) w 106 3 ty 57 i0 _ .i64 .i64 Try.underlying106 Try.underlying3 hi0 hz0 none 0 0 []
        (run_firstCells_none w.drew i0.size 0 0 0) n (by omega) (by omega) (by omega) (by omega) (by rw [hz2]; omega) (by rw [Nat.zero_add]; exact growslice_fits (by omega) (by rw [hz2]; omega))
      simpa only [Nat.zero_add] using h
    have hge : n ≤ grownCap w n 0 57 := grownCap_ge w _ _ _
    have hle : grownCap w n 0 57 ≤ maxLen := grownCap_le_maxLen w n 0 _ (by unfold maxLen; omega)
    have hmade : ∀ cs : Array Value, cs.size = grownCap w n 0 57 * 2 → OwnP (w.drew.alloc (.cells cs 57)) w.heap.size (some ⟨w.heap.size, 0, none⟩) (grownCap w n 0 57) [] :=
      fun cs hs => OwnP.made (w := w.drew) (Nat.le_refl _) cs _ hs hle
    obtain ⟨G, hG⟩ : ∃ G, G = grownCap w n 0 57 := ⟨_, rfl⟩
    rw [← hG] at hrz hge hle hmade
    have HM := hid hmade
    clear hG hmade
    unfold maxLen at hle
    go_enter Try.func152, Try.ntmps152
    go_wp2_with (at_builtin; refine Lib.wpList_append_run _ rfl _ _ _ _ rfl _ _ rfl rfl _ _ (hrz _) ?_)
    go_ret
    refine ⟨_, G, rfl, HM.out _ ?_, ((Below.refl _ _).drew).alloc (Nat.le_refl _) _⟩
    rw [Array.size_append, size_zeros, size_zeros]
    show n * 2 + (G - n) * 2 = G * 2
    omega

/-- The slices of a list of slices. -/
structure SE where
  A : Option Addr
  c : Nat
  ps : PS
def RS (w : World) (B : Nat) (A : Option Addr) (L : List SE) : Prop :=
  L = [] ∨ ∃ b off, A = some ⟨b, off, none⟩ ∧ b < B ∧ ∀ (i : Nat) (s : SE), L[i]? = some s → w.cell? ⟨b, off + i, none⟩ = some (.slice s.A s.ps.length s.c) ∧ RP w B s.A s.ps
theorem RS.below {w w' : World} {B : Nat} {A : Option Addr} {L : List SE} (h : RS w B A L) (hb : Below B w w') : RS w' B A L := by
  rcases h with rfl | ⟨b, off, e, hbk, hc⟩
  · exact .inl rfl
  · exact .inr ⟨b, off, e, hbk, fun i s hs => ⟨(hb.cell hbk).trans (hc i s hs).1, (hc i s hs).2.below hb⟩⟩
def totL (L : List SE) : Nat := (L.flatMap SE.ps).length
theorem tot_take {L : List SE} {k : Nat} (h : k < L.length) : ((L.take (k + 1)).flatMap SE.ps) = (L.take k).flatMap SE.ps ++ L[k].ps := by
  rw [List.take_succ_eq_append_getElem h, List.flatMap_append]
  simp
theorem tot_le (L : List SE) (k : Nat) : ((L.take k).flatMap SE.ps).length ≤ totL L := by
  unfold totL
  conv => rhs; rw [← List.take_append_drop k L, List.flatMap_append, List.length_append]
  omega

set_option maxHeartbeats 2000000 in
set_option maxRecDepth 100000 in
theorem concat_any (A : Option Addr) (c : Nat) (L : List SE) (w : World) (hr : RS w w.heap.size A L) (hn : totL L ≤ 100000) (hl : L.length ≤ 1000) :
    Calls Try.prog 130 #[.slice A L.length c] w (Made w w.heap.size (L.flatMap SE.ps)) := by
  obtain ⟨i0, hi0, hz0, hz1, hz2⟩ := info_parts pairInfo
  go_enter Try.func130, Try.ntmps130
  go_wp2_with fail
  go_loop [3, 11] (fun q i => ∃ (k m : Nat), k ≤ L.length ∧ i = .int .i64 k ∧ q = .int .i64 m ∧ m = ((L.take k).flatMap SE.ps).length) (fun _ i => L.length - (intOf i).toNat)
  case atStart => exact ⟨0, 0, Nat.zero_le _, rfl, rfl, rfl⟩
  case round =>
    obtain ⟨k, m, hk, rfl, rfl, hm⟩ := hrel
    have hmle : m ≤ 100000 := by have := tot_le L k; omega
    by_cases hlt : k < L.length
    · obtain ⟨b, off, rfl, hb, hc⟩ : ∃ b off, A = some ⟨b, off, none⟩ ∧ b < w.heap.size ∧ w.cell? ⟨b, off + k, none⟩ = some (.slice L[k].A L[k].ps.length L[k].c) := by
        rcases hr with rfl | ⟨b, off, e, hb, hc⟩
        · simp at hlt
        · exact ⟨b, off, e, hb, (hc k _ (List.getElem?_eq_getElem hlt)).1⟩
      have hs := congrArg List.length (tot_take hlt)
      rw [List.length_append] at hs
      have hle := tot_le L (k + 1)
      have hlen : L[k].ps.length ≤ 100000 := by omega
      have hsum : m + L[k].ps.length ≤ 100000 := by omega
      have HM : Hid (m + L[k].ps.length = ((L.take (k + 1)).flatMap SE.ps).length) := by rw [Hid, hm, hs]
      clear hs hle hm hr
      go_wp2_with fail
      go_round
      case rel => exact ⟨k + 1, m + L[k].ps.length, by omega, by go_num, by go_num, HM.out⟩
      case measure => simp [intOf]; omega
    · obtain rfl : k = L.length := by omega
      rw [List.take_length] at hm
      clear hm
      go_wp2_with (go_at_call 152; refine (grow_nil m hmle _).mono ?_; rintro e w1 ⟨A1, c1, rfl, ho1, hb1⟩; have HO1 := hid ho1; have HB1 := hid hb1; clear ho1 hb1)
      go_loopw [6, 27] (fun v i wr => ∃ (k : Nat) (n : Nat) (A' : Option Addr) (c' : Nat), k ≤ L.length ∧ i = .int .i64 k ∧ v = .slice A' n c' ∧ n = ((L.take k).flatMap SE.ps).length ∧ OwnP wr w.heap.size A' c' ((L.take k).flatMap SE.ps) ∧ Below w.heap.size w wr) (fun _ i _ => L.length - (intOf i).toNat)
      case atStart => exact ⟨0, 0, _, _, Nat.zero_le _, rfl, rfl, rfl, HO1.out, HB1.out⟩
      case round =>
        obtain ⟨k, n, A', c', hk, rfl, rfl, hn', hown, hbw⟩ := hrel
        by_cases hlt : k < L.length
        · obtain ⟨b, off, rfl, hb, hc, hrk⟩ : ∃ b off, A = some ⟨b, off, none⟩ ∧ b < w.heap.size ∧ wr.cell? ⟨b, off + k, none⟩ = some (.slice L[k].A L[k].ps.length L[k].c) ∧ RP wr w.heap.size L[k].A L[k].ps := by
            rcases hr.below hbw with rfl | ⟨b, off, e, hb, hc⟩
            · simp at hlt
            · exact ⟨b, off, e, hb, (hc k _ (List.getElem?_eq_getElem hlt)).1, (hc k _ (List.getElem?_eq_getElem hlt)).2⟩
          have hs := congrArg List.length (tot_take hlt)
          rw [List.length_append] at hs
          have hle := tot_le L (k + 1)
          have HLEN : Hid (((L.take k).flatMap SE.ps).length + L[k].ps.length ≤ 4000000) := by unfold Hid; omega
          have HT := hid (tot_take hlt)
          have HO := hid hown
          have HD := hid hbw
          have HN := hid hn'
          have HR := hid hrk
          clear hs hle hr hown hbw hn' hrk
          go_wp2_with (at_builtin; refine wpList_append_rp _ rfl _ _ _ rfl i0 Try.underlying106 hi0 hz0 hz1 hz2 w.heap.size A' n c' ((L.take k).flatMap SE.ps) rfl HN.out HO.out _ _ _ _ L[k].ps rfl rfl HR.out HLEN.out HD.out.size ?_; intro A2 n2 c2 w2 hn2 hown2 hbw2; have HN2 := hid hn2; have HO2 := hid hown2; have HB2 := hid hbw2; clear hn2 hown2 hbw2)
          go_roundw
          case rel => exact ⟨k + 1, _, _, _, by omega, by go_num, rfl, by rw [HT.out]; exact HN2.out, by rw [HT.out]; exact HO2.out, HD.out.trans HB2.out⟩
          case measure => simp [intOf]; omega
        · obtain rfl : k = L.length := by omega
          have HO := hid hown
          have HD := hid hbw
          have HN := hid hn'
          clear hown hbw hr hn'
          go_wp2_with fail
          go_ret
          rw [List.take_length] at HO HN
          exact ⟨_, _, ret_slice HN.out, HO.out, HD.out⟩
end Go.Proofs.Ytcjbjfhndjpmcaa
/-
  The program's with, without: contracts.
-/
namespace Go.Proofs.Ytcjbjfhndjpmcaa
open Go.RowKit

/-- A slice of a form that Go can bear. -/
def VS (A : Option Addr) (c n : Nat) : Prop := (A = none ∧ c = 0 ∧ n = 0) ∨ ∃ g off, A = some ⟨g, off, none⟩ ∧ n ≤ c ∧ c ≤ maxLen
theorem OwnP.vs {w : World} {B c : Nat} {A : Option Addr} {ps : PS} (h : OwnP w B A c ps) : VS A c ps.length := by
  rcases h.2 with ⟨hv, hn⟩ | ⟨g, cap, cur, hv, _, _, hnc, hcm, _⟩
  · injection hv with e1 e2 e3
    exact .inl ⟨e1, e3, hn⟩
  · injection hv with e1 e2 e3
    subst e3
    exact .inr ⟨g, 0, e1, hnc, hcm⟩
theorem RP.take {w : World} {B : Nat} {A : Option Addr} {ps : PS} (h : RP w B A ps) (i : Nat) : RP w B A (ps.take i) := by
  rcases h with rfl | ⟨b, off, e, hb, hc⟩
  · left; simp
  · exact .inr ⟨b, off, e, hb, fun j p hj => hc j p (by
      rw [List.getElem?_take] at hj
      split at hj
      · exact hj
      · cases hj)⟩

theorem RP.drop {w : World} {B g off : Nat} {ps : PS} (h : RP w B (some ⟨g, off, none⟩) ps) (i : Nat) : RP w B (some ⟨g, off + i * 2, none⟩) (ps.drop i) := by
  rcases h with rfl | ⟨b, o, e, hb, hc⟩
  · left; simp
  · injection e with e
    injection e with e1 e2
    subst e1 e2
    refine .inr ⟨g, off + i * 2, rfl, hb, fun j p hj => ?_⟩
    rw [List.getElem?_drop] at hj
    have := hc _ p hj
    rw [show off + i * 2 + j * 2 = off + (i + j) * 2 by omega]
    exact this
theorem RP.drop' {w : World} {B g off off' : Nat} {ps : PS} {i : Nat} (h : RP w B (some ⟨g, off, none⟩) ps) (e : off' = off + i * 2) : RP w B (some ⟨g, off', none⟩) (ps.drop i) := by
  subst e
  exact h.drop i
theorem RP.any {w : World} {B : Nat} (A : Option Addr) {ps : PS} (h : ps = []) : RP w B A ps := .inl h

theorem RS.three (w : World) (B : Nat) (T T' : TypeId) (p : BB) (A1 A3 : Option Addr) (c1 c3 n1 n3 : Nat) (l1 l3 : PS) (h1 : RP w B A1 l1) (h3 : RP w B A3 l3) (e1 : n1 = l1.length) (e3 : n3 = l3.length) (hB : B ≤ w.heap.size) :
    RS ((w.alloc (.cells #[.string p.1, .string p.2] T)).alloc (.cells #[.slice A1 n1 c1, .slice (some ⟨w.heap.size, 0, none⟩) 1 1, .slice A3 n3 c3] T')) (w.heap.size + 1 + 1) (some ⟨w.heap.size + 1, 0, none⟩)
      [⟨A1, c1, l1⟩, ⟨some ⟨w.heap.size, 0, none⟩, 1, [p]⟩, ⟨A3, c3, l3⟩] := by
  subst e1 e3
  have b1 : Below w.heap.size w (w.alloc (.cells #[.string p.1, .string p.2] T)) := (Below.refl _ _).alloc (Nat.le_refl _) _
  have b2 : Below (w.heap.size + 1) (w.alloc (.cells #[.string p.1, .string p.2] T)) ((w.alloc (.cells #[.string p.1, .string p.2] T)).alloc (.cells #[.slice A1 l1.length c1, .slice (some ⟨w.heap.size, 0, none⟩) 1 1, .slice A3 l3.length c3] T')) := (Below.refl _ _).alloc (by simp) _
  have hb : ((w.alloc (.cells #[.string p.1, .string p.2] T)).alloc (.cells #[.slice A1 l1.length c1, .slice (some ⟨w.heap.size, 0, none⟩) 1 1, .slice A3 l3.length c3] T')).heap[w.heap.size + 1]? = some (.cells #[.slice A1 l1.length c1, .slice (some ⟨w.heap.size, 0, none⟩) 1 1, .slice A3 l3.length c3] T' (0, 0)) := by
    have := heap_alloc_new (w.alloc (.cells #[.string p.1, .string p.2] T)) (.cells #[.slice A1 l1.length c1, .slice (some ⟨w.heap.size, 0, none⟩) 1 1, .slice A3 l3.length c3] T')
    simpa using this
  refine .inr ⟨w.heap.size + 1, 0, rfl, by omega, fun i s hs => ?_⟩
  match i, hs with
  | 0, hs =>
    simp only [List.getElem?_cons_zero, Option.some.injEq] at hs
    subst hs
    refine ⟨by rw [cell_of_row _ _ _ _ _ _ hb]; rfl, ((h1.more hB).below b1).below (b2.mono (by omega)) |>.more (by omega)⟩
  | 1, hs =>
    simp only [List.getElem?_cons_succ, List.getElem?_cons_zero, Option.some.injEq] at hs
    subst hs
    refine ⟨by rw [cell_of_row _ _ _ _ _ _ hb]; rfl, ((RP.new w p T).below b2).more (by omega)⟩
  | 2, hs =>
    simp only [List.getElem?_cons_succ, List.getElem?_cons_zero, Option.some.injEq] at hs
    subst hs
    refine ⟨by rw [cell_of_row _ _ _ _ _ _ hb]; rfl, ((h3.more hB).below b1).below (b2.mono (by omega)) |>.more (by omega)⟩
  | i + 3, hs => simp at hs

theorem RS.more {w : World} {B B' : Nat} {A : Option Addr} {L : List SE} (h : RS w B A L) (hB : B ≤ B') : RS w B' A L := by
  rcases h with rfl | ⟨b, off, e, hb, hc⟩
  · exact .inl rfl
  · exact .inr ⟨b, off, e, by omega, fun i s hs => ⟨(hc i s hs).1, (hc i s hs).2.more hB⟩⟩
theorem OwnP.mono {w : World} {B B' c : Nat} {A : Option Addr} {ps : PS} (h : OwnP w B A c ps) (hB : B' ≤ B) : OwnP w B' A c ps := by
  refine ⟨h.1, ?_⟩
  rcases h.2 with hn | ⟨g, cap, cur, hv, hb, r⟩
  · exact .inl hn
  · exact .inr ⟨g, cap, cur, hv, by omega, r⟩

/-- What Concat of three, the middle one made on the spot, gives. -/
def Joined (w2 : World) (L : PS) (e : Ending) (w' : World) : Prop := ∃ A c, e = .returned (.slice A L.length c) ∧ OwnP w' w2.heap.size A c L ∧ Below w2.heap.size w2 w'
theorem concat3 (w2 : World) (T T' : TypeId) (k v : ByteArray) (A1 A3 : Option Addr) (c1 c3 n1 n3 : Nat) (l1 l3 L : PS) (h1 : RP w2 w2.heap.size A1 l1) (h3 : RP w2 w2.heap.size A3 l3) (e1 : n1 = l1.length) (e3 : n3 = l3.length) (hl : l1.length + l3.length ≤ 1000) (hL : L = l1 ++ ([(k, v)] ++ l3)) :
    Calls Try.prog 130 #[.slice (some ⟨w2.heap.size + 1, 0, none⟩) 3 3]
      ((w2.alloc (.cells #[.string k, .string v] T)).alloc (.cells #[.slice A1 n1 c1, .slice (some ⟨w2.heap.size, 0, none⟩) 1 1, .slice A3 n3 c3] T')).drew (Joined w2 L) := by
  have hr := RS.three w2 w2.heap.size T T' (k, v) A1 A3 c1 c3 n1 n3 l1 l3 h1 h3 e1 e3 (Nat.le_refl _)
  have e : List.flatMap SE.ps [⟨A1, c1, l1⟩, ⟨some ⟨w2.heap.size, 0, none⟩, 1, [(k, v)]⟩, ⟨A3, c3, l3⟩] = L := by rw [hL]; simp
  have hb : Below w2.heap.size w2 ((w2.alloc (.cells #[.string k, .string v] T)).alloc (.cells #[.slice A1 n1 c1, .slice (some ⟨w2.heap.size, 0, none⟩) 1 1, .slice A3 n3 c3] T')).drew :=
    (((Below.refl _ _).alloc (Nat.le_refl _) _).alloc (by simp) _).drew
  refine (concat_any _ 3 [⟨A1, c1, l1⟩, ⟨some ⟨w2.heap.size, 0, none⟩, 1, [(k, v)]⟩, ⟨A3, c3, l3⟩] _ (RS.more (w := ((w2.alloc (.cells #[.string k, .string v] T)).alloc (.cells #[.slice A1 n1 c1, .slice (some ⟨w2.heap.size, 0, none⟩) 1 1, .slice A3 n3 c3] T')).drew) hr (by simp)) (by rw [totL, e, hL]; simp; omega) (by simp)).mono ?_
  rintro x w' ⟨A, c, rfl, ho, hw⟩
  rw [e] at ho ⊢
  exact ⟨A, c, rfl, ho.mono hb.size, hb.trans (hw.mono hb.size)⟩

theorem below_two {w w2 : World} {o o' : Obj} (h : Below ((w.alloc o).alloc o').heap.size ((w.alloc o).alloc o') w2) : Below w.heap.size w w2 :=
  (((Below.refl _ _).alloc (Nat.le_refl _) o).alloc (by simp) o').trans (h.mono (by simp; omega))

theorem place_nil (x : ByteArray) (w : World) :
    Calls Try.prog 129 #[.slice none 0 0, .string x] w fun e w' => e = .returned (.tuple #[.int .i64 0, .bool false]) ∧ Below w.heap.size w w' :=
  place_any none 0 [] x w (.inl rfl) (Nat.zero_le _) rfl

set_option maxHeartbeats 2000000 in
theorem with_any (A : Option Addr) (c : Nat) (ps : PS) (k v : ByteArray) (w : World) (hr : RP w w.heap.size A ps) (hvs : VS A c ps.length) (hn : ps.length ≤ 900) (hs : risesB ps = true) :
    Calls Try.prog 93 #[.slice A ps.length c, .agg #[.string k, .string v]] w (Made w w.heap.size (putL ps k v)) := by
  have HS := hid hs
  have HR := hid hr
  have HP := hid (sorted_put hs k v)
  clear hs hr
  have hcl := cnt_le ps k
  have hm := method_sortKey
  simp only [slash_def, String.reduceAppend, String.reduceSingleton] at hm
  rcases hvs with ⟨rfl, rfl, h0⟩ | ⟨g, off, rfl, hnc, hcm⟩
  · obtain rfl : ps = [] := List.eq_nil_of_length_eq_zero h0
    clear HP HS HR hcl h0 hn
    go_enter Try.func93, Try.ntmps93
    go_wp2_with (first
      | (go_at_call 189; refine (sortKey_any k v _).mono ?_; rintro e w' ⟨rfl, rfl⟩)
      | (go_at_call 129; refine (place_nil k _).mono ?_; rintro e w2 ⟨rfl, hw2⟩; have HB := hid (below_two hw2); have hx1 : w2.cell? ⟨w.heap.size, 0, none⟩ = some (.string k) := (hw2.cell (p := ⟨w.heap.size, 0, none⟩) (by simp; omega)).trans (by go_simp); have hx2 : w2.cell? ⟨w.heap.size, 1, none⟩ = some (.string v) := (hw2.cell (p := ⟨w.heap.size, 1, none⟩) (by simp; omega)).trans (by go_simp); have hsz : w.heap.size < w2.heap.size := (by have := hw2.size; simp at this; omega); clear hw2))
    go_region_held3 (fun w' => w'.cell? ⟨w.heap.size, 0, none⟩ = some (.string k) ∧ w'.cell? ⟨w.heap.size, 1, none⟩ = some (.string v)) (go_keep)
      (first | (go_at_call 130; refine (concat3 w2 _ _ k v _ _ _ _ _ _ [] [] (putL [] k v) (.inl rfl) (.inl rfl) rfl rfl (by simp) rfl).mono ?_; rintro e w9 ⟨A9, c9, rfl, ho9, hb9⟩; have hx3 : w9.cell? ⟨w.heap.size, 0, none⟩ = some (.string k) := (hb9.cell (p := ⟨w.heap.size, 0, none⟩) hsz).trans hx1; have hx4 : w9.cell? ⟨w.heap.size, 1, none⟩ = some (.string v) := (hb9.cell (p := ⟨w.heap.size, 1, none⟩) hsz).trans hx2; have HO9 := hid ho9; have HB9 := hid hb9; clear ho9 hb9))
    go_wp2_with fail
    go_ret
    exact ⟨A9, c9, rfl, HO9.out.mono HB.out.size, HB.out.trans (HB9.out.mono HB.out.size)⟩
  · unfold maxLen at hcm
    have hcc : cnt ps k ≤ c := by omega
    have hci : (cnt ps k : Int) ≤ (c : Int) := by omega
    cases hh : hasK ps k
    · have HP2 : Hid (putL ps k v = ps.take (cnt ps k) ++ ([(k, v)] ++ ps.drop (cnt ps k))) := by
        have := HP.out
        rw [hh] at this
        exact this
      go_enter Try.func93, Try.ntmps93
      go_wp2_with (first
        | (go_at_call 189; refine (sortKey_any k v _).mono ?_; rintro e w' ⟨rfl, rfl⟩)
        | (go_at_call 129; refine (place_any _ c ps k _ ((HR.out.below (((Below.refl _ _).alloc (Nat.le_refl _) _).alloc (by simp) _)).more (by simp; omega)) (le60 hn) HS.out).mono ?_; rintro e w2 ⟨rfl, hw2⟩; have HB := hid (below_two hw2); have HR2 := hid ((HR.out.below HB.out).more HB.out.size); have hx1 : w2.cell? ⟨w.heap.size, 0, none⟩ = some (.string k) := (hw2.cell (p := ⟨w.heap.size, 0, none⟩) (by simp; omega)).trans (by go_simp); have hx2 : w2.cell? ⟨w.heap.size, 1, none⟩ = some (.string v) := (hw2.cell (p := ⟨w.heap.size, 1, none⟩) (by simp; omega)).trans (by go_simp); have hsz : w.heap.size < w2.heap.size := (by have := hw2.size; simp at this; omega); clear hw2))
      · go_region_held3 (fun w' => w'.cell? ⟨w.heap.size, 0, none⟩ = some (.string k) ∧ w'.cell? ⟨w.heap.size, 1, none⟩ = some (.string v)) (go_keep)
          (first | (go_at_call 130; refine (concat3 w2 _ _ k v _ _ _ _ _ _ (ps.take (cnt ps k)) (ps.drop (cnt ps k)) (putL ps k v) (HR2.out.take _) (RP.any _ (by simp; omega)) (by simp; omega) (by simp) (by simp; omega) HP2.out).mono ?_; rintro e w9 ⟨A9, c9, rfl, ho9, hb9⟩; have hx3 : w9.cell? ⟨w.heap.size, 0, none⟩ = some (.string k) := (hb9.cell (p := ⟨w.heap.size, 0, none⟩) hsz).trans hx1; have hx4 : w9.cell? ⟨w.heap.size, 1, none⟩ = some (.string v) := (hb9.cell (p := ⟨w.heap.size, 1, none⟩) hsz).trans hx2; have HO9 := hid ho9; have HB9 := hid hb9; clear ho9 hb9))
        go_wp2_with fail
        go_ret
        exact ⟨A9, c9, rfl, HO9.out.mono HB.out.size, HB.out.trans (HB9.out.mono HB.out.size)⟩
      · go_region_held3 (fun w' => w'.cell? ⟨w.heap.size, 0, none⟩ = some (.string k) ∧ w'.cell? ⟨w.heap.size, 1, none⟩ = some (.string v)) (go_keep)
          (first | (go_at_call 130; refine (concat3 w2 _ _ k v _ _ _ _ _ _ (ps.take (cnt ps k)) (ps.drop (cnt ps k)) (putL ps k v) (HR2.out.take _) (HR2.out.drop _) (by simp; omega) (by simp) (by simp; omega) HP2.out).mono ?_; rintro e w9 ⟨A9, c9, rfl, ho9, hb9⟩; have hx3 : w9.cell? ⟨w.heap.size, 0, none⟩ = some (.string k) := (hb9.cell (p := ⟨w.heap.size, 0, none⟩) hsz).trans hx1; have hx4 : w9.cell? ⟨w.heap.size, 1, none⟩ = some (.string v) := (hb9.cell (p := ⟨w.heap.size, 1, none⟩) hsz).trans hx2; have HO9 := hid ho9; have HB9 := hid hb9; clear ho9 hb9))
        go_wp2_with fail
        go_ret
        exact ⟨A9, c9, rfl, HO9.out.mono HB.out.size, HB.out.trans (HB9.out.mono HB.out.size)⟩
    · have hlt := ((hasK_iff HS.out k).1 hh).1
      have HP2 : Hid (putL ps k v = ps.take (cnt ps k) ++ ([(k, v)] ++ ps.drop (cnt ps k + 1))) := by
        have := HP.out
        rw [hh] at this
        exact this
      have hne : ¬ c = cnt ps k := by omega
      go_enter Try.func93, Try.ntmps93
      go_wp2_with (first
        | (go_at_call 189; refine (sortKey_any k v _).mono ?_; rintro e w' ⟨rfl, rfl⟩)
        | (go_at_call 129; refine (place_any _ c ps k _ ((HR.out.below (((Below.refl _ _).alloc (Nat.le_refl _) _).alloc (by simp) _)).more (by simp; omega)) (le60 hn) HS.out).mono ?_; rintro e w2 ⟨rfl, hw2⟩; have HB := hid (below_two hw2); have HR2 := hid ((HR.out.below HB.out).more HB.out.size); have hx1 : w2.cell? ⟨w.heap.size, 0, none⟩ = some (.string k) := (hw2.cell (p := ⟨w.heap.size, 0, none⟩) (by simp; omega)).trans (by go_simp); have hx2 : w2.cell? ⟨w.heap.size, 1, none⟩ = some (.string v) := (hw2.cell (p := ⟨w.heap.size, 1, none⟩) (by simp; omega)).trans (by go_simp); have hsz : w.heap.size < w2.heap.size := (by have := hw2.size; simp at this; omega); clear hw2))
      · go_region_held3 (fun w' => w'.cell? ⟨w.heap.size, 0, none⟩ = some (.string k) ∧ w'.cell? ⟨w.heap.size, 1, none⟩ = some (.string v)) (go_keep)
          (first | (go_at_call 130; refine (concat3 w2 _ _ k v _ _ _ _ _ _ (ps.take (cnt ps k)) (ps.drop (cnt ps k + 1)) (putL ps k v) (HR2.out.take _) (RP.any _ (by simp; omega)) (by simp; omega) (by simp; omega) (by simp; omega) HP2.out).mono ?_; rintro e w9 ⟨A9, c9, rfl, ho9, hb9⟩; have hx3 : w9.cell? ⟨w.heap.size, 0, none⟩ = some (.string k) := (hb9.cell (p := ⟨w.heap.size, 0, none⟩) hsz).trans hx1; have hx4 : w9.cell? ⟨w.heap.size, 1, none⟩ = some (.string v) := (hb9.cell (p := ⟨w.heap.size, 1, none⟩) hsz).trans hx2; have HO9 := hid ho9; have HB9 := hid hb9; clear ho9 hb9))
        go_wp2_with fail
        go_ret
        exact ⟨A9, c9, rfl, HO9.out.mono HB.out.size, HB.out.trans (HB9.out.mono HB.out.size)⟩
      · go_region_held3 (fun w' => w'.cell? ⟨w.heap.size, 0, none⟩ = some (.string k) ∧ w'.cell? ⟨w.heap.size, 1, none⟩ = some (.string v)) (go_keep)
          (first | (go_at_call 130; refine (concat3 w2 _ _ k v _ _ _ _ _ _ (ps.take (cnt ps k)) (ps.drop (cnt ps k + 1)) (putL ps k v) (HR2.out.take _) (HR2.out.drop' (by omega)) (by simp; omega) (by simp; omega) (by simp; omega) HP2.out).mono ?_; rintro e w9 ⟨A9, c9, rfl, ho9, hb9⟩; have hx3 : w9.cell? ⟨w.heap.size, 0, none⟩ = some (.string k) := (hb9.cell (p := ⟨w.heap.size, 0, none⟩) hsz).trans hx1; have hx4 : w9.cell? ⟨w.heap.size, 1, none⟩ = some (.string v) := (hb9.cell (p := ⟨w.heap.size, 1, none⟩) hsz).trans hx2; have HO9 := hid ho9; have HB9 := hid hb9; clear ho9 hb9))
        go_wp2_with fail
        go_ret
        exact ⟨A9, c9, rfl, HO9.out.mono HB.out.size, HB.out.trans (HB9.out.mono HB.out.size)⟩
end Go.Proofs.Ytcjbjfhndjpmcaa
