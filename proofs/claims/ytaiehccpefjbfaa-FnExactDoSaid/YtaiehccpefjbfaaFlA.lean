/-
  Files, as pairs (tools/portfile.py wrote this out of Own Rises Place Append Concat With Without).
-/
import Derived.Test.YtaiehccpefjbfaaOwn
import Derived.Test.YtaiehccpefjbfaaRises
import Derived.Test.YtaiehccpefjbfaaPlace
import Derived.Test.YtaiehccpefjbfaaAppend
import Derived.Test.YtaiehccpefjbfaaConcat
import Derived.Test.YtaiehccpefjbfaaWith
import Derived.Test.YtaiehccpefjbfaaWithout
namespace Go.Proofs.Ytaiehccpefjbfaa
open Go.RowKit

theorem pairInfoF : (Try.prog.info? 138).map (fun i => (i.zero, i.size, i.bytes)) = some (some (.agg #[.string ⟨#[]⟩, .string ⟨#[]⟩]), 2, 32) := by kernel_rfl

/-- A slice of pairs of the call's own. -/
def OwnPF (w : World) (B : Nat) (A : Option Addr) (c : Nat) (ps : PS) : Prop := w.ownsRow B 138 2 (.slice A ps.length c) ps.length (pcells ps)

theorem OwnPF.rp {w : World} {B c : Nat} {A : Option Addr} {ps : PS} (h : OwnPF w B A c ps) : RP w w.heap.size A ps := RP.of_own h

theorem OwnPF.below {w w' : World} {B c : Nat} {A : Option Addr} {ps : PS} (h : OwnPF w B A c ps) (hb : Below w.heap.size w w') : OwnPF w' B A c ps := h.kept (below_grown hb) (by
  cases hv : Value.ownBlock (.slice A ps.length c) <;> simp)

/-- The call made these pairs, and turned nothing that was there. -/
def MadeF (w : World) (B : Nat) (ps : PS) (e : Ending) (w' : World) : Prop := ∃ A c, e = .returned (.slice A ps.length c) ∧ OwnPF w' B A c ps ∧ Below w.heap.size w w'

theorem method_sortKeyF (f : Nat) (k v : ByteArray) (w : World) : (method (f + 1) 138 (.agg #[.string k, .string v]) (slash "loop.example" (slash "g00573" "impl.sortKey"))).run Try.prog w = .ok (190, .agg #[.string k, .string v]) w := by
  kernel_rfl

theorem sortKey_anyF (k v : ByteArray) (w : World) :
    Calls Try.prog 190 #[.agg #[.string k, .string v]] w fun e w' => e = .returned (.string k) ∧ w' = w.alloc (.cells #[.string k, .string v] 138) := by
  go_enter Try.func190, Try.ntmps190
  go_wp2
  go_ret
  exact ⟨rfl, rfl⟩

set_option maxHeartbeats 1000000 in
theorem rises_anyF (A : Option Addr) (c : Nat) (ps : PS) (w : World) (hr : RP w w.heap.size A ps) (hn : ps.length ≤ maxLen) :
    Calls Try.prog 139 #[.slice A ps.length c] w fun e w' => e = .returned (.bool (risesB ps)) ∧ Below w.heap.size w w' := by
  unfold maxLen at hn
  have hm := method_sortKeyF
  simp only [slash_def, String.reduceAppend, String.reduceSingleton] at hm
  go_enter Try.func139, Try.ntmps139
  go_wp2_with fail
  go_loopw [3] (fun i wr => ∃ k : Nat, 1 ≤ k ∧ (k ≤ ps.length ∨ k = 1) ∧ i = .int .i64 k ∧ risesTo ps k ∧ Below w.heap.size w wr) (fun i _ => ps.length - (intOf i).toNat)
  case atStart => exact ⟨1, by omega, by omega, rfl, risesTo_one ps, Below.refl _ w⟩
  case round =>
    obtain ⟨k, hk1, hk, rfl, hrs, hbw⟩ := hrel
    by_cases hlt : k < ps.length
    · obtain ⟨b, off, rfl, hb, hc⟩ : ∃ b off, A = some ⟨b, off, none⟩ ∧ b < w.heap.size ∧ ∀ i (hi : i < ps.length), wr.cell? ⟨b, off + i * 2, none⟩ = some (.string ps[i].1) ∧ wr.cell? ⟨b, off + i * 2 + 1, none⟩ = some (.string ps[i].2) := by
        rcases hr.below hbw with rfl | ⟨b, off, e, hb, hc⟩
        · simp at hlt
        · exact ⟨b, off, e, hb, fun i hi => hc i _ (List.getElem?_eq_getElem hi)⟩
      have hc1 := (hc k hlt).1
      have hc2 := (hc k hlt).2
      have hc3 := (hc (k - 1) (by omega)).1
      have hc4 := (hc (k - 1) (by omega)).2
      have HR := hid (risesTo_succ hrs hlt)
      have HD := hid hbw
      have HRB := hid (@rises_bad ps k hlt)
      clear hbw hrs hc hr
      have e1 : IntKind.i64.wrap ((k : Int) - 1) = (k : Int) - 1 := IntWalk.i64_in _ (by omega)
      have e2 : (0 : Int) ≤ (k : Int) - 1 := by omega
      have e3 : (k : Int) - 1 < (ps.length : Int) := by omega
      have e4 : ((k : Int) - 1).toNat = k - 1 := by omega
      have e7 : (1 : Int) ≤ (k : Int) := by omega
      have e8 : 0 < k := by omega
      have e9 : (k : Int) - 1 ≤ (ps.length : Int) - 1 := by omega
      have e10 : (k : Int) < (ps.length : Int) + 1 := by omega
      have e11 : (k : Int) ≤ (ps.length : Int) := by omega
      have e12 : ¬ ((k : Int) - 1 < 0) := by omega
      have e13 : ¬ ((k : Int) < 1) := by omega
      have e14 : ¬ ((ps.length : Int) ≤ (k : Int) - 1) := by omega
      have e15 : k - 1 < ps.length := by omega
      have e5 : (0 : Int) ≤ (k : Int) := by omega
      have e6 : (k : Int) < (ps.length : Int) := by omega
      cases h3 : ltS ps[k - 1].1 ps[k].1
      · have h4 : Op.bytesLess ps[k - 1].1.toList ps[k].1.toList = false := h3
        go_wp2_with fail
        go_region_held3 (fun w' => w'.cell? ⟨b, off + (k - 1) * 2, none⟩ = some (.string ps[k - 1].1) ∧ w'.cell? ⟨b, off + (k - 1) * 2 + 1, none⟩ = some (.string ps[k - 1].2) ∧ w'.cell? ⟨b, off + k * 2, none⟩ = some (.string ps[k].1) ∧ w'.cell? ⟨b, off + k * 2 + 1, none⟩ = some (.string ps[k].2)) (go_keep)
          (first | (go_at_call 190; refine (sortKey_anyF _ _ _).mono ?_; rintro e w' ⟨rfl, rfl⟩))
        go_wp2_with fail
        go_ret
        exact ⟨ret_bool (HRB.out (by omega) h3).symm, below2 HD.out HD.out.size⟩
      · have h4 : Op.bytesLess ps[k - 1].1.toList ps[k].1.toList = true := h3
        go_wp2_with fail
        go_region_held3 (fun w' => w'.cell? ⟨b, off + (k - 1) * 2, none⟩ = some (.string ps[k - 1].1) ∧ w'.cell? ⟨b, off + (k - 1) * 2 + 1, none⟩ = some (.string ps[k - 1].2) ∧ w'.cell? ⟨b, off + k * 2, none⟩ = some (.string ps[k].1) ∧ w'.cell? ⟨b, off + k * 2 + 1, none⟩ = some (.string ps[k].2)) (go_keep)
          (first | (go_at_call 190; refine (sortKey_anyF _ _ _).mono ?_; rintro e w' ⟨rfl, rfl⟩))
        go_wp2_with fail
        go_roundw
        case rel => exact ⟨k + 1, by omega, by omega, by go_num, HR.out (fun _ => h3), below2 HD.out HD.out.size⟩
        case measure => simp [intOf]; omega
    · have HE := hid (risesB_ended hrs (by omega))
      have HD := hid hbw
      clear hrs hbw hr
      go_wp2_with fail
      go_ret
      exact ⟨ret_bool HE.out.symm, HD.out⟩

theorem place1_anyF (k v x : ByteArray) (c : Int) (hc : Hid (cmpS k x = c)) (w : World) :
    Calls Try.prog 197 #[.agg #[.string k, .string v], .string x] w fun e w' => e = .returned (.int .i64 c) ∧ Below w.heap.size w w' := by
  have hm := method_sortKeyF
  simp only [slash_def, String.reduceAppend, String.reduceSingleton] at hm
  go_enter Try.func197, Try.ntmps197
  go_wp2_with (first
    | (go_at_call 190; refine (sortKey_anyF k v _).mono ?_; rintro e w' ⟨rfl, rfl⟩)
    | (go_at_call 169; refine (compare_any k x _).mono ?_; rintro e w' ⟨rfl, rfl⟩))
  go_ret
  exact ⟨ret_int hc.out, below2 (n := 0) (Below.refl _ _) (Nat.le_refl _)⟩

set_option maxHeartbeats 1000000 in
theorem search_anyF (A : Option Addr) (c : Nat) (ps : PS) (x : ByteArray) (w : World) (hr : RP w w.heap.size A ps) (hn : ps.length ≤ 100000) (hs : risesB ps = true) :
    Calls Try.prog 196 #[.slice A ps.length c, .string x, .func (.func 197) #[] #[]] w fun e w' => e = .returned (.tuple #[.int .i64 (cnt ps x), .bool (hasK ps x)]) ∧ Below w.heap.size w w' := by
  have HS := hid hs
  clear hs
  go_enter Try.func196, Try.ntmps196
  go_wp2_with fail
  go_loopw [9, 10] (fun i j wr => ∃ a b : Nat, a ≤ b ∧ b ≤ ps.length ∧ i = .int .i64 a ∧ j = .int .i64 b ∧ Hid (∀ i (h : i < ps.length), i < a → ltS ps[i].1 x = true) ∧ Hid (∀ i (h : i < ps.length), b ≤ i → ltS ps[i].1 x = false) ∧ Below w.heap.size w wr) (fun i j _ => (intOf j).toNat - (intOf i).toNat)
  case atStart => exact ⟨0, _, Nat.zero_le _, Nat.le_refl _, rfl, rfl, fun i h hi => absurd hi (by omega), fun i h hi => absurd hi (by omega), Below.refl _ w⟩
  case round =>
    obtain ⟨a, b, hab, hb, rfl, rfl, H1, H2, hbw⟩ := hrel
    by_cases hlt : a < b
    · have hm : (a + b) / 2 < ps.length := by omega
      obtain ⟨bk, off, rfl, hbk, hc1, hc2⟩ := (hr.below hbw).at_ hm
      have HD := hid hbw
      clear hbw hr
      have e1 : (((a : Int) + (b : Int)) / 2).toNat = (a + b) / 2 := by omega
      have e2 : (0 : Int) ≤ ((a : Int) + (b : Int)) / 2 := by omega
      have e3 : ((a : Int) + (b : Int)) / 2 < (ps.length : Int) := by omega
      cases h3 : ltS ps[(a + b) / 2].1 x
      · have HY := hid (rises_not HS.out hm h3)
        rcases cmpS_not h3 with HC | HC
        all_goals
          have HC := hid HC
          clear h3
          go_wp2_with (go_at_call 197; refine (place1_anyF _ _ _ _ HC _).mono ?_; rintro e w' ⟨rfl, hbw'⟩)
          refine ⟨⟨a, (a + b) / 2, by omega, by omega, rfl, by go_num, H1, HY, HD.out.trans (hbw'.mono HD.out.size)⟩, by simp [intOf]; omega⟩
      · have HY := hid (rises_yes HS.out hm h3)
        have HC := hid (cmpS_lt h3)
        clear h3
        go_wp2_with (go_at_call 197; refine (place1_anyF _ _ _ _ HC _).mono ?_; rintro e w' ⟨rfl, hbw'⟩)
        refine ⟨⟨(a + b) / 2 + 1, b, by omega, by omega, by go_num, rfl, HY, H2, HD.out.trans (hbw'.mono HD.out.size)⟩, by simp [intOf]; omega⟩
    · obtain rfl : a = b := by omega
      have HC := hid (cnt_eq ps x a hb H1.out H2.out)
      clear H1
      by_cases hl : a < ps.length
      · obtain ⟨bk, off, rfl, hbk, hc1, hc2⟩ := (hr.below hbw).at_ hl
        have HD := hid hbw
        have HN := hid (H2.out a hl (Nat.le_refl _))
        clear hbw hr H2
        by_cases he : ps[a].1 = x
        · have HH := hid (hasK_yes (x := x) HS.out (by rw [HC.out]; exact hl) (by simp only [HC.out]; exact he))
          have HZ : Hid (cmpS ps[a].1 x = 0) := by
            subst he
            exact cmpS_eq _
          clear he
          go_wp2_with (go_at_call 197; refine (place1_anyF _ _ _ _ HZ _).mono ?_; rintro e w' ⟨rfl, hbw'⟩)
          go_ret2
          exact ⟨ret_2 (by rw [HC.out]) (by rw [HH.out]), HD.out.trans (hbw'.mono HD.out.size)⟩
        · have HH := hid (hasK_no (x := x) HS.out (by rw [HC.out]; exact hl) (by simp only [HC.out]; exact he))
          have HZ : Hid (cmpS ps[a].1 x = 1) := cmpS_gt (ltS_of_not HN.out he)
          clear he
          go_wp2_with (go_at_call 197; refine (place1_anyF _ _ _ _ HZ _).mono ?_; rintro e w' ⟨rfl, hbw'⟩)
          go_ret2
          exact ⟨ret_2 (by rw [HC.out]) (by rw [HH.out]), HD.out.trans (hbw'.mono HD.out.size)⟩
      · have HH := hid (hasK_end (x := x) HS.out (by rw [HC.out]; exact hl))
        have HD := hid hbw
        clear hbw hr H2
        go_wp2_with fail
        go_ret2
        exact ⟨ret_2 (by rw [HC.out]) (by rw [HH.out]), HD.out⟩

theorem place_anyF (A : Option Addr) (c : Nat) (ps : PS) (x : ByteArray) (w : World) (hr : RP w w.heap.size A ps) (hn : ps.length ≤ 100000) (hs : risesB ps = true) :
    Calls Try.prog 188 #[.slice A ps.length c, .string x] w fun e w' => e = .returned (.tuple #[.int .i64 (cnt ps x), .bool (hasK ps x)]) ∧ Below w.heap.size w w' := by
  have HS := hid hs
  have HR := hid hr
  clear hs hr
  go_enter Try.func188, Try.ntmps188
  go_wp2_with (go_at_call 196; refine (search_anyF A c ps x _ HR.out hn HS.out).mono ?_; rintro e w' ⟨rfl, hbw⟩)
  go_ret2
  exact ⟨rfl, hbw⟩

theorem OwnPF.size {w : World} {B c : Nat} {A : Option Addr} {ps : PS} (h : OwnPF w B A c ps) : ∀ k, Value.ownBlock (.slice A ps.length c) = some k → B ≤ k ∧ k < w.heap.size := World.ownsRow.lt h

theorem OwnPF.made {w : World} {B : Nat} (hB : B ≤ w.heap.size) (cs : Array Value) (c : Nat) (hs : cs.size = c * 2) (hc : c ≤ maxLen) : OwnPF (w.alloc (.cells cs 138)) B (some ⟨w.heap.size, 0, none⟩) c [] :=
  World.ownsRow_made w cs c hB hc hs

theorem OwnPF.nil_ (w : World) (B : Nat) : OwnPF w B none 0 [] := World.ownsRow_nil w B _ _

theorem run_append_rpF {P : Program} (w : World) (t ty : TypeId) (i : TypeInfo) (ht : P.underlying t = some (.slice 138)) (hi : P.info? 138 = some i)
    (hz : i.zero = some (.agg #[.string ⟨#[]⟩, .string ⟨#[]⟩])) (hsize : i.size = 2) (hby : i.bytes = 32)
    (B : Nat) (A0 : Option Addr) (c0 : Nat) (qs : PS) (hown : OwnPF w B A0 c0 qs) (B' : Nat) (A : Option Addr) (c : Nat) (ps : PS) (hr : RP w B' A ps)
    (hlen : qs.length + ps.length ≤ 4000000) (hbase : B ≤ w.heap.size) :
    ∃ A' c' w', (Builtin.append_ #[t, t] ty #[.slice A0 qs.length c0, .slice A ps.length c]).run P w = .ok (.slice A' (qs ++ ps).length c') w' ∧ OwnPF w' B A' c' (qs ++ ps) ∧ Below B w w' := by
  rcases A with _ | ad
  · have h0 : ps = [] := by
      rcases hr with h | ⟨b, off, e, _⟩
      · exact h
      · cases e
    subst h0
    refine ⟨A0, c0, w, ?_, by simpa using hown, Below.refl _ _⟩
    rcases hown.2 with ⟨hv, hn⟩ | ⟨g, cap, cur, hv, _, _, hnc, _⟩
    · injection hv with e1 e2 e3
      subst e1 e3
      simp [Builtin.append_, run_underlying ht, sizeOf, typeInfo, hi, Builtin.lenOf, Builtin.firstCells, hn]
    · injection hv with e1 e2 e3
      subst e1 e3
      simp [Builtin.append_, run_underlying ht, sizeOf, typeInfo, hi, Builtin.lenOf, Builtin.firstCells, hnc, storeCells]
  · have hcells : ∀ j u, (pcells ps)[j]? = some u → w.cell? (ad.add j) = some u := by
      intro j u hu
      rcases hr with rfl | ⟨b, off, e, hb, hc⟩
      · simp [pcells] at hu
      · injection e with e
        subst e
        rw [Addr.add_lit]
        have hj : j < ps.length * 2 := by
          have := (List.getElem?_eq_some_iff.1 hu).1
          rwa [pcells_length] at this
        have hd : j = (j / 2) * 2 ∨ j = (j / 2) * 2 + 1 := by omega
        have hl : j / 2 < ps.length := by omega
        have hp := List.getElem?_eq_getElem hl
        rcases hd with hd | hd
        · have hk := pcells_key ps _ _ hp
          rw [← hd, hu] at hk
          rw [Option.some.inj hk]
          have := (hc _ _ hp).1
          rwa [← hd] at this
        · have hk := pcells_val ps _ _ hp
          rw [← hd, hu] at hk
          rw [Option.some.inj hk]
          have := (hc _ _ hp).2
          rw [Nat.add_assoc] at this
          rwa [← hd] at this
    obtain ⟨v', w', hrun, h2, h3, _, _⟩ := run_append_own_at (P := P) w B t ty 138 i _ 2 32 ht hi hz hsize hby rfl (by omega) (.slice A0 qs.length c0) qs.length (pcells qs) hown ad ps.length c (pcells ps) (pcells_length ps) hcells (pcells_one ps) (by unfold maxLen; omega) (by omega) hbase
    have hb : Below B w w' := (Below.refl _ _).grown h3 hbase (fun k hk => (hown.size k hk).1)
    rw [← pcells_append] at h2
    rcases h2.2 with ⟨rfl, hn⟩ | ⟨g, cap, cur, rfl, r⟩
    · have e1 : qs = [] := List.eq_nil_of_length_eq_zero (by omega)
      have e2 : ps = [] := List.eq_nil_of_length_eq_zero (by omega)
      subst e1 e2
      exact ⟨none, 0, w', hrun, h2, hb⟩
    · rw [← List.length_append] at h2 hrun
      exact ⟨_, _, w', hrun, h2, hb⟩

theorem wpList_append_rpF {P : Program} (w : World) {ops : Array Oper} {rest : List Oper} {o : Oper} {a : Act} {Q : Exit → Act → World → Prop} (hgd : o.guard = none) (s x : Operand) (t : TypeId)
    (ho : o.op = .call { callee := .builtin .append, args := #[s, x], argTypes := #[t, t] })
    (i : TypeInfo) (ht : P.underlying t = some (.slice 138)) (hi : P.info? 138 = some i)
    (hz : i.zero = some (.agg #[.string ⟨#[]⟩, .string ⟨#[]⟩])) (hsize : i.size = 2) (hby : i.bytes = 32)
    (B : Nat) (A0 : Option Addr) (n0 c0 : Nat) (qs : PS) (hs : a.eval s = .slice A0 n0 c0) (hn0 : n0 = qs.length) (hown : OwnPF w B A0 c0 qs)
    (B' : Nat) (A : Option Addr) (n c : Nat) (ps : PS) (hx : a.eval x = .slice A n c) (hn : n = ps.length) (hr : RP w B' A ps)
    (hlen : qs.length + ps.length ≤ 4000000) (hbase : B ≤ w.heap.size)
    (h : ∀ A' n' c' w', n' = (qs ++ ps).length → OwnPF w' B A' c' (qs ++ ps) → Below B w w' → wpList P ops Q rest (a.put o.dst (.slice A' n' c')) w') : wpList P ops Q (o :: rest) a w := by
  subst hn0 hn
  refine wpList_plain hgd fun K hK => ?_
  obtain ⟨A', c', w', hrun, h2, h3⟩ := run_append_rpF (P := P) w t o.type i ht hi hz hsize hby B A0 c0 qs hown B' A c ps hr hlen hbase
  unfold Oper.wp execOp
  simp only [ho, resolve, invoke, builtin, Sem.run_bind, Sem.run_pure, Result.andThen_ok, List.map_toArray, List.map_cons, List.map_nil, hs, hx, hrun]
  exact hK _ _ (h A' _ c' w' rfl h2 h3)

set_option maxHeartbeats 1000000 in
set_option maxRecDepth 100000 in
theorem grow_nilF (n : Nat) (hn : n ≤ 100000) (w : World) :
    Calls Try.prog 199 #[.slice none 0 0, .int .i64 n] w (MadeF w w.heap.size []) := by
  by_cases h0 : n = 0
  · subst h0
    go_enter Try.func199, Try.ntmps199
    go_wp2
    go_ret
    exact ⟨none, 0, rfl, OwnPF.nil_ _ _, Below.refl _ _⟩
  · obtain ⟨i0, hi0, hz0, hz1, hz2⟩ := info_parts pairInfoF
    have hrz : ∀ ty, (Builtin.append_ #[96, 3] ty #[.slice none 0 0, .int .i64 (n : Int)]).run Try.prog w =
        .ok (.slice (some ⟨w.heap.size, 0, none⟩) n (grownCap w n 0 138)) (w.drew.alloc (.cells ((([] : List Value).toArray) ++ Builtin.zeroCells (Value.agg #[.string ⟨#[]⟩, .string ⟨#[]⟩]).cells n ++ Builtin.zeroCells (Value.agg #[.string ⟨#[]⟩, .string ⟨#[]⟩]).cells (grownCap w n 0 138 - n)) 138)) := fun ty => by
      have h := Lib.run_append_grow_zeros (P := Try.prog) w 96 3 ty 138 i0 _ .i64 .i64 Try.underlying96 Try.underlying3 hi0 hz0 none 0 0 []
        (run_firstCells_none w.drew i0.size 0 0 0) n (by omega) (by omega) (by omega) (by omega) (by rw [hz2]; omega) (by rw [Nat.zero_add]; exact growslice_fits (by omega) (by rw [hz2]; omega))
      simpa only [Nat.zero_add] using h
    have hge : n ≤ grownCap w n 0 138 := grownCap_ge w _ _ _
    have hle : grownCap w n 0 138 ≤ maxLen := grownCap_le_maxLen w n 0 _ (by unfold maxLen; omega)
    have hmade : ∀ cs : Array Value, cs.size = grownCap w n 0 138 * 2 → OwnPF (w.drew.alloc (.cells cs 138)) w.heap.size (some ⟨w.heap.size, 0, none⟩) (grownCap w n 0 138) [] :=
      fun cs hs => OwnPF.made (w := w.drew) (Nat.le_refl _) cs _ hs hle
    obtain ⟨G, hG⟩ : ∃ G, G = grownCap w n 0 138 := ⟨_, rfl⟩
    rw [← hG] at hrz hge hle hmade
    have HM := hid hmade
    clear hG hmade
    unfold maxLen at hle
    go_enter Try.func199, Try.ntmps199
    go_wp2_with (at_builtin; refine Lib.wpList_append_run _ rfl _ _ _ _ rfl _ _ rfl rfl _ _ (hrz _) ?_)
    go_ret
    refine ⟨_, G, rfl, HM.out _ ?_, ((Below.refl _ _).drew).alloc (Nat.le_refl _) _⟩
    rw [Array.size_append, size_zeros, size_zeros]
    show n * 2 + (G - n) * 2 = G * 2
    omega

set_option maxHeartbeats 2000000 in
set_option maxRecDepth 100000 in
theorem concat_anyF (A : Option Addr) (c : Nat) (L : List SE) (w : World) (hr : RS w w.heap.size A L) (hn : totL L ≤ 100000) (hl : L.length ≤ 1000) :
    Calls Try.prog 198 #[.slice A L.length c] w (MadeF w w.heap.size (L.flatMap SE.ps)) := by
  obtain ⟨i0, hi0, hz0, hz1, hz2⟩ := info_parts pairInfoF
  go_enter Try.func198, Try.ntmps198
  go_wp2_with fail
  go_loop [3, 11] (fun q i => ∃ (k m : Nat), k ≤ L.length ∧ i = .int .i64 k ∧ q = .int .i64 m ∧ m = ((L.take k).flatMap SE.ps).length) (fun _ i => L.length - (intOf i).toNat)
  case atStart => exact ⟨0, 0, Nat.zero_le _, rfl, rfl, rfl⟩
  case round =>
    obtain ⟨k, m, hk, rfl, rfl, hm⟩ := hrel
    have hmle : m ≤ 100000 := by have := tot_le L k; omega
    by_cases hlt : k < L.length
    · obtain ⟨b, off, rfl, hb, hc⟩ : ∃ b off, A = some ⟨b, off, none⟩ ∧ b < w.heap.size ∧ w.cell? ⟨b, off + k, none⟩ = some (.slice L[k].A L[k].ps.length L[k].c) := by
        rcases hr with rfl | ⟨b, off, e, hb, hc⟩
        · simp at hlt
        · exact ⟨b, off, e, hb, (hc k _ (List.getElem?_eq_getElem hlt)).1⟩
      have hs := congrArg List.length (tot_take hlt)
      rw [List.length_append] at hs
      have hle := tot_le L (k + 1)
      have hlen : L[k].ps.length ≤ 100000 := by omega
      have hsum : m + L[k].ps.length ≤ 100000 := by omega
      have HM : Hid (m + L[k].ps.length = ((L.take (k + 1)).flatMap SE.ps).length) := by rw [Hid, hm, hs]
      clear hs hle hm hr
      go_wp2_with fail
      go_round
      case rel => exact ⟨k + 1, m + L[k].ps.length, by omega, by go_num, by go_num, HM.out⟩
      case measure => simp [intOf]; omega
    · obtain rfl : k = L.length := by omega
      rw [List.take_length] at hm
      clear hm
      go_wp2_with (go_at_call 199; refine (grow_nilF m hmle _).mono ?_; rintro e w1 ⟨A1, c1, rfl, ho1, hb1⟩; have HO1 := hid ho1; have HB1 := hid hb1; clear ho1 hb1)
      go_loopw [6, 27] (fun v i wr => ∃ (k : Nat) (n : Nat) (A' : Option Addr) (c' : Nat), k ≤ L.length ∧ i = .int .i64 k ∧ v = .slice A' n c' ∧ n = ((L.take k).flatMap SE.ps).length ∧ OwnPF wr w.heap.size A' c' ((L.take k).flatMap SE.ps) ∧ Below w.heap.size w wr) (fun _ i _ => L.length - (intOf i).toNat)
      case atStart => exact ⟨0, 0, _, _, Nat.zero_le _, rfl, rfl, rfl, HO1.out, HB1.out⟩
      case round =>
        obtain ⟨k, n, A', c', hk, rfl, rfl, hn', hown, hbw⟩ := hrel
        by_cases hlt : k < L.length
        · obtain ⟨b, off, rfl, hb, hc, hrk⟩ : ∃ b off, A = some ⟨b, off, none⟩ ∧ b < w.heap.size ∧ wr.cell? ⟨b, off + k, none⟩ = some (.slice L[k].A L[k].ps.length L[k].c) ∧ RP wr w.heap.size L[k].A L[k].ps := by
            rcases hr.below hbw with rfl | ⟨b, off, e, hb, hc⟩
            · simp at hlt
            · exact ⟨b, off, e, hb, (hc k _ (List.getElem?_eq_getElem hlt)).1, (hc k _ (List.getElem?_eq_getElem hlt)).2⟩
          have hs := congrArg List.length (tot_take hlt)
          rw [List.length_append] at hs
          have hle := tot_le L (k + 1)
          have HLEN : Hid (((L.take k).flatMap SE.ps).length + L[k].ps.length ≤ 4000000) := by unfold Hid; omega
          have HT := hid (tot_take hlt)
          have HO := hid hown
          have HD := hid hbw
          have HN := hid hn'
          have HR := hid hrk
          clear hs hle hr hown hbw hn' hrk
          go_wp2_with (at_builtin; refine wpList_append_rpF _ rfl _ _ _ rfl i0 Try.underlying96 hi0 hz0 hz1 hz2 w.heap.size A' n c' ((L.take k).flatMap SE.ps) rfl HN.out HO.out _ _ _ _ L[k].ps rfl rfl HR.out HLEN.out HD.out.size ?_; intro A2 n2 c2 w2 hn2 hown2 hbw2; have HN2 := hid hn2; have HO2 := hid hown2; have HB2 := hid hbw2; clear hn2 hown2 hbw2)
          go_roundw
          case rel => exact ⟨k + 1, _, _, _, by omega, by go_num, rfl, by rw [HT.out]; exact HN2.out, by rw [HT.out]; exact HO2.out, HD.out.trans HB2.out⟩
          case measure => simp [intOf]; omega
        · obtain rfl : k = L.length := by omega
          have HO := hid hown
          have HD := hid hbw
          have HN := hid hn'
          clear hown hbw hr hn'
          go_wp2_with fail
          go_ret
          rw [List.take_length] at HO HN
          exact ⟨_, _, ret_slice HN.out, HO.out, HD.out⟩

theorem OwnPF.vs {w : World} {B c : Nat} {A : Option Addr} {ps : PS} (h : OwnPF w B A c ps) : VS A c ps.length := by
  rcases h.2 with ⟨hv, hn⟩ | ⟨g, cap, cur, hv, _, _, hnc, hcm, _⟩
  · injection hv with e1 e2 e3
    exact .inl ⟨e1, e3, hn⟩
  · injection hv with e1 e2 e3
    subst e3
    exact .inr ⟨g, 0, e1, hnc, hcm⟩

theorem OwnPF.mono {w : World} {B B' c : Nat} {A : Option Addr} {ps : PS} (h : OwnPF w B A c ps) (hB : B' ≤ B) : OwnPF w B' A c ps := by
  refine ⟨h.1, ?_⟩
  rcases h.2 with hn | ⟨g, cap, cur, hv, hb, r⟩
  · exact .inl hn
  · exact .inr ⟨g, cap, cur, hv, by omega, r⟩

/-- What Concat of three, the middle one made on the spot, gives. -/
def JoinedF (w2 : World) (L : PS) (e : Ending) (w' : World) : Prop := ∃ A c, e = .returned (.slice A L.length c) ∧ OwnPF w' w2.heap.size A c L ∧ Below w2.heap.size w2 w'

theorem concat3F (w2 : World) (T T' : TypeId) (k v : ByteArray) (A1 A3 : Option Addr) (c1 c3 n1 n3 : Nat) (l1 l3 L : PS) (h1 : RP w2 w2.heap.size A1 l1) (h3 : RP w2 w2.heap.size A3 l3) (e1 : n1 = l1.length) (e3 : n3 = l3.length) (hl : l1.length + l3.length ≤ 1000) (hL : L = l1 ++ ([(k, v)] ++ l3)) :
    Calls Try.prog 198 #[.slice (some ⟨w2.heap.size + 1, 0, none⟩) 3 3]
      ((w2.alloc (.cells #[.string k, .string v] T)).alloc (.cells #[.slice A1 n1 c1, .slice (some ⟨w2.heap.size, 0, none⟩) 1 1, .slice A3 n3 c3] T')).drew (JoinedF w2 L) := by
  have hr := RS.three w2 w2.heap.size T T' (k, v) A1 A3 c1 c3 n1 n3 l1 l3 h1 h3 e1 e3 (Nat.le_refl _)
  have e : List.flatMap SE.ps [⟨A1, c1, l1⟩, ⟨some ⟨w2.heap.size, 0, none⟩, 1, [(k, v)]⟩, ⟨A3, c3, l3⟩] = L := by rw [hL]; simp
  have hb : Below w2.heap.size w2 ((w2.alloc (.cells #[.string k, .string v] T)).alloc (.cells #[.slice A1 n1 c1, .slice (some ⟨w2.heap.size, 0, none⟩) 1 1, .slice A3 n3 c3] T')).drew :=
    (((Below.refl _ _).alloc (Nat.le_refl _) _).alloc (by simp) _).drew
  refine (concat_anyF _ 3 [⟨A1, c1, l1⟩, ⟨some ⟨w2.heap.size, 0, none⟩, 1, [(k, v)]⟩, ⟨A3, c3, l3⟩] _ (RS.more (w := ((w2.alloc (.cells #[.string k, .string v] T)).alloc (.cells #[.slice A1 n1 c1, .slice (some ⟨w2.heap.size, 0, none⟩) 1 1, .slice A3 n3 c3] T')).drew) hr (by simp)) (by rw [totL, e, hL]; simp; omega) (by simp)).mono ?_
  rintro x w' ⟨A, c, rfl, ho, hw⟩
  rw [e] at ho ⊢
  exact ⟨A, c, rfl, ho.mono hb.size, hb.trans (hw.mono hb.size)⟩

theorem place_nilF (x : ByteArray) (w : World) :
    Calls Try.prog 188 #[.slice none 0 0, .string x] w fun e w' => e = .returned (.tuple #[.int .i64 0, .bool false]) ∧ Below w.heap.size w w' :=
  place_anyF none 0 [] x w (.inl rfl) (Nat.zero_le _) rfl

set_option maxHeartbeats 2000000 in
theorem with_anyF (A : Option Addr) (c : Nat) (ps : PS) (k v : ByteArray) (w : World) (hr : RP w w.heap.size A ps) (hvs : VS A c ps.length) (hn : ps.length ≤ 900) (hs : risesB ps = true) :
    Calls Try.prog 195 #[.slice A ps.length c, .agg #[.string k, .string v]] w (MadeF w w.heap.size (putL ps k v)) := by
  have HS := hid hs
  have HR := hid hr
  have HP := hid (sorted_put hs k v)
  clear hs hr
  have hcl := cnt_le ps k
  have hm := method_sortKeyF
  simp only [slash_def, String.reduceAppend, String.reduceSingleton] at hm
  rcases hvs with ⟨rfl, rfl, h0⟩ | ⟨g, off, rfl, hnc, hcm⟩
  · obtain rfl : ps = [] := List.eq_nil_of_length_eq_zero h0
    clear HP HS HR hcl h0 hn
    go_enter Try.func195, Try.ntmps195
    go_wp2_with (first
      | (go_at_call 190; refine (sortKey_anyF k v _).mono ?_; rintro e w' ⟨rfl, rfl⟩)
      | (go_at_call 188; refine (place_nilF k _).mono ?_; rintro e w2 ⟨rfl, hw2⟩; have HB := hid (below_two hw2); have hx1 : w2.cell? ⟨w.heap.size, 0, none⟩ = some (.string k) := (hw2.cell (p := ⟨w.heap.size, 0, none⟩) (by simp; omega)).trans (by go_simp); have hx2 : w2.cell? ⟨w.heap.size, 1, none⟩ = some (.string v) := (hw2.cell (p := ⟨w.heap.size, 1, none⟩) (by simp; omega)).trans (by go_simp); have hsz : w.heap.size < w2.heap.size := (by have := hw2.size; simp at this; omega); clear hw2))
    go_region_held3 (fun w' => w'.cell? ⟨w.heap.size, 0, none⟩ = some (.string k) ∧ w'.cell? ⟨w.heap.size, 1, none⟩ = some (.string v)) (go_keep)
      (first | (go_at_call 198; refine (concat3F w2 _ _ k v _ _ _ _ _ _ [] [] (putL [] k v) (.inl rfl) (.inl rfl) rfl rfl (by simp) rfl).mono ?_; rintro e w9 ⟨A9, c9, rfl, ho9, hb9⟩; have hx3 : w9.cell? ⟨w.heap.size, 0, none⟩ = some (.string k) := (hb9.cell (p := ⟨w.heap.size, 0, none⟩) hsz).trans hx1; have hx4 : w9.cell? ⟨w.heap.size, 1, none⟩ = some (.string v) := (hb9.cell (p := ⟨w.heap.size, 1, none⟩) hsz).trans hx2; have HO9 := hid ho9; have HB9 := hid hb9; clear ho9 hb9))
    go_wp2_with fail
    go_ret
    exact ⟨A9, c9, rfl, HO9.out.mono HB.out.size, HB.out.trans (HB9.out.mono HB.out.size)⟩
  · unfold maxLen at hcm
    have hcc : cnt ps k ≤ c := by omega
    have hci : (cnt ps k : Int) ≤ (c : Int) := by omega
    cases hh : hasK ps k
    · have HP2 : Hid (putL ps k v = ps.take (cnt ps k) ++ ([(k, v)] ++ ps.drop (cnt ps k))) := by
        have := HP.out
        rw [hh] at this
        exact this
      go_enter Try.func195, Try.ntmps195
      go_wp2_with (first
        | (go_at_call 190; refine (sortKey_anyF k v _).mono ?_; rintro e w' ⟨rfl, rfl⟩)
        | (go_at_call 188; refine (place_anyF _ c ps k _ ((HR.out.below (((Below.refl _ _).alloc (Nat.le_refl _) _).alloc (by simp) _)).more (by simp; omega)) (le60 hn) HS.out).mono ?_; rintro e w2 ⟨rfl, hw2⟩; have HB := hid (below_two hw2); have HR2 := hid ((HR.out.below HB.out).more HB.out.size); have hx1 : w2.cell? ⟨w.heap.size, 0, none⟩ = some (.string k) := (hw2.cell (p := ⟨w.heap.size, 0, none⟩) (by simp; omega)).trans (by go_simp); have hx2 : w2.cell? ⟨w.heap.size, 1, none⟩ = some (.string v) := (hw2.cell (p := ⟨w.heap.size, 1, none⟩) (by simp; omega)).trans (by go_simp); have hsz : w.heap.size < w2.heap.size := (by have := hw2.size; simp at this; omega); clear hw2))
      · go_region_held3 (fun w' => w'.cell? ⟨w.heap.size, 0, none⟩ = some (.string k) ∧ w'.cell? ⟨w.heap.size, 1, none⟩ = some (.string v)) (go_keep)
          (first | (go_at_call 198; refine (concat3F w2 _ _ k v _ _ _ _ _ _ (ps.take (cnt ps k)) (ps.drop (cnt ps k)) (putL ps k v) (HR2.out.take _) (RP.any _ (by simp; omega)) (by simp; omega) (by simp) (by simp; omega) HP2.out).mono ?_; rintro e w9 ⟨A9, c9, rfl, ho9, hb9⟩; have hx3 : w9.cell? ⟨w.heap.size, 0, none⟩ = some (.string k) := (hb9.cell (p := ⟨w.heap.size, 0, none⟩) hsz).trans hx1; have hx4 : w9.cell? ⟨w.heap.size, 1, none⟩ = some (.string v) := (hb9.cell (p := ⟨w.heap.size, 1, none⟩) hsz).trans hx2; have HO9 := hid ho9; have HB9 := hid hb9; clear ho9 hb9))
        go_wp2_with fail
        go_ret
        exact ⟨A9, c9, rfl, HO9.out.mono HB.out.size, HB.out.trans (HB9.out.mono HB.out.size)⟩
      · go_region_held3 (fun w' => w'.cell? ⟨w.heap.size, 0, none⟩ = some (.string k) ∧ w'.cell? ⟨w.heap.size, 1, none⟩ = some (.string v)) (go_keep)
          (first | (go_at_call 198; refine (concat3F w2 _ _ k v _ _ _ _ _ _ (ps.take (cnt ps k)) (ps.drop (cnt ps k)) (putL ps k v) (HR2.out.take _) (HR2.out.drop _) (by simp; omega) (by simp) (by simp; omega) HP2.out).mono ?_; rintro e w9 ⟨A9, c9, rfl, ho9, hb9⟩; have hx3 : w9.cell? ⟨w.heap.size, 0, none⟩ = some (.string k) := (hb9.cell (p := ⟨w.heap.size, 0, none⟩) hsz).trans hx1; have hx4 : w9.cell? ⟨w.heap.size, 1, none⟩ = some (.string v) := (hb9.cell (p := ⟨w.heap.size, 1, none⟩) hsz).trans hx2; have HO9 := hid ho9; have HB9 := hid hb9; clear ho9 hb9))
        go_wp2_with fail
        go_ret
        exact ⟨A9, c9, rfl, HO9.out.mono HB.out.size, HB.out.trans (HB9.out.mono HB.out.size)⟩
    · have hlt := ((hasK_iff HS.out k).1 hh).1
      have HP2 : Hid (putL ps k v = ps.take (cnt ps k) ++ ([(k, v)] ++ ps.drop (cnt ps k + 1))) := by
        have := HP.out
        rw [hh] at this
        exact this
      have hne : ¬ c = cnt ps k := by omega
      go_enter Try.func195, Try.ntmps195
      go_wp2_with (first
        | (go_at_call 190; refine (sortKey_anyF k v _).mono ?_; rintro e w' ⟨rfl, rfl⟩)
        | (go_at_call 188; refine (place_anyF _ c ps k _ ((HR.out.below (((Below.refl _ _).alloc (Nat.le_refl _) _).alloc (by simp) _)).more (by simp; omega)) (le60 hn) HS.out).mono ?_; rintro e w2 ⟨rfl, hw2⟩; have HB := hid (below_two hw2); have HR2 := hid ((HR.out.below HB.out).more HB.out.size); have hx1 : w2.cell? ⟨w.heap.size, 0, none⟩ = some (.string k) := (hw2.cell (p := ⟨w.heap.size, 0, none⟩) (by simp; omega)).trans (by go_simp); have hx2 : w2.cell? ⟨w.heap.size, 1, none⟩ = some (.string v) := (hw2.cell (p := ⟨w.heap.size, 1, none⟩) (by simp; omega)).trans (by go_simp); have hsz : w.heap.size < w2.heap.size := (by have := hw2.size; simp at this; omega); clear hw2))
      · go_region_held3 (fun w' => w'.cell? ⟨w.heap.size, 0, none⟩ = some (.string k) ∧ w'.cell? ⟨w.heap.size, 1, none⟩ = some (.string v)) (go_keep)
          (first | (go_at_call 198; refine (concat3F w2 _ _ k v _ _ _ _ _ _ (ps.take (cnt ps k)) (ps.drop (cnt ps k + 1)) (putL ps k v) (HR2.out.take _) (RP.any _ (by simp; omega)) (by simp; omega) (by simp; omega) (by simp; omega) HP2.out).mono ?_; rintro e w9 ⟨A9, c9, rfl, ho9, hb9⟩; have hx3 : w9.cell? ⟨w.heap.size, 0, none⟩ = some (.string k) := (hb9.cell (p := ⟨w.heap.size, 0, none⟩) hsz).trans hx1; have hx4 : w9.cell? ⟨w.heap.size, 1, none⟩ = some (.string v) := (hb9.cell (p := ⟨w.heap.size, 1, none⟩) hsz).trans hx2; have HO9 := hid ho9; have HB9 := hid hb9; clear ho9 hb9))
        go_wp2_with fail
        go_ret
        exact ⟨A9, c9, rfl, HO9.out.mono HB.out.size, HB.out.trans (HB9.out.mono HB.out.size)⟩
      · go_region_held3 (fun w' => w'.cell? ⟨w.heap.size, 0, none⟩ = some (.string k) ∧ w'.cell? ⟨w.heap.size, 1, none⟩ = some (.string v)) (go_keep)
          (first | (go_at_call 198; refine (concat3F w2 _ _ k v _ _ _ _ _ _ (ps.take (cnt ps k)) (ps.drop (cnt ps k + 1)) (putL ps k v) (HR2.out.take _) (HR2.out.drop' (by omega)) (by simp; omega) (by simp; omega) (by simp; omega) HP2.out).mono ?_; rintro e w9 ⟨A9, c9, rfl, ho9, hb9⟩; have hx3 : w9.cell? ⟨w.heap.size, 0, none⟩ = some (.string k) := (hb9.cell (p := ⟨w.heap.size, 0, none⟩) hsz).trans hx1; have hx4 : w9.cell? ⟨w.heap.size, 1, none⟩ = some (.string v) := (hb9.cell (p := ⟨w.heap.size, 1, none⟩) hsz).trans hx2; have HO9 := hid ho9; have HB9 := hid hb9; clear ho9 hb9))
        go_wp2_with fail
        go_ret
        exact ⟨A9, c9, rfl, HO9.out.mono HB.out.size, HB.out.trans (HB9.out.mono HB.out.size)⟩

theorem concat2F (w2 : World) (T' : TypeId) (A1 A3 : Option Addr) (c1 c3 n1 n3 : Nat) (l1 l3 L : PS) (h1 : RP w2 w2.heap.size A1 l1) (h3 : RP w2 w2.heap.size A3 l3) (e1 : n1 = l1.length) (e3 : n3 = l3.length) (hl : l1.length + l3.length ≤ 1000) (hL : L = l1 ++ l3) :
    Calls Try.prog 198 #[.slice (some ⟨w2.heap.size, 0, none⟩) 2 2]
      (w2.alloc (.cells #[.slice A1 n1 c1, .slice A3 n3 c3] T')).drew (JoinedF w2 L) := by
  have hr := RS.two w2 w2.heap.size T' A1 A3 c1 c3 n1 n3 l1 l3 h1 h3 e1 e3 (Nat.le_refl _)
  have e : List.flatMap SE.ps [⟨A1, c1, l1⟩, ⟨A3, c3, l3⟩] = L := by rw [hL]; simp
  have hb : Below w2.heap.size w2 (w2.alloc (.cells #[.slice A1 n1 c1, .slice A3 n3 c3] T')).drew := ((Below.refl _ _).alloc (Nat.le_refl _) _).drew
  refine (concat_anyF _ 2 [⟨A1, c1, l1⟩, ⟨A3, c3, l3⟩] _ (RS.more (w := (w2.alloc (.cells #[.slice A1 n1 c1, .slice A3 n3 c3] T')).drew) hr (by simp)) (by rw [totL, e, hL]; simp; omega) (by simp)).mono ?_
  rintro x w' ⟨A, c, rfl, ho, hw⟩
  rw [e] at ho ⊢
  exact ⟨A, c, rfl, ho.mono hb.size, hb.trans (hw.mono hb.size)⟩

/-- Pairs that the call made, and whether. -/
def Made2F (w : World) (L : PS) (b : Bool) (e : Ending) (w' : World) : Prop := ∃ A c, e = .returned (.tuple #[.slice A L.length c, .bool b]) ∧ OwnPF w' w.heap.size A c L ∧ Below w.heap.size w w'

theorem Made2F.no {w w' : World} {L : PS} {b : Bool} (hL : L = []) (hb : b = false) (h : Below w.heap.size w w') : Made2F w L b (.returned (.tuple #[.slice none 0 0, .bool false])) w' := by
  subst hL hb
  exact ⟨none, 0, rfl, OwnPF.nil_ _ _, h⟩

set_option maxHeartbeats 2000000 in
theorem without_anyF (A : Option Addr) (c : Nat) (ps : PS) (k : ByteArray) (w : World) (hr : RP w w.heap.size A ps) (hvs : VS A c ps.length) (hn : ps.length ≤ 900) (hs : risesB ps = true) :
    Calls Try.prog 201 #[.slice A ps.length c, .string k] w (Made2F w (if hasK ps k then dropL ps k else []) (hasK ps k)) := by
  have HS := hid hs
  have HR := hid hr
  clear hs hr
  cases hh : hasK ps k
  · clear hvs
    go_enter Try.func201, Try.ntmps201
    go_wp2_with (go_at_call 188; refine (place_anyF _ c ps k _ HR.out (le60 hn) HS.out).mono ?_; rintro e w2 ⟨rfl, hw2⟩)
    go_ret2
    exact Made2F.no (by simp) rfl hw2
  · have HP := hid (sorted_drop HS.out k hh)
    have hlt := ((hasK_iff HS.out k).1 hh).1
    rcases hvs with ⟨rfl, rfl, h0⟩ | ⟨g, off, rfl, hnc, hcm⟩
    · omega
    · unfold maxLen at hcm
      have hcc : cnt ps k ≤ c := by omega
      have hci : (cnt ps k : Int) ≤ (c : Int) := by omega
      have e1 : IntKind.i64.wrap ((cnt ps k : Int) + 1) = (cnt ps k : Int) + 1 := IntWalk.i64_in _ (by omega)
      have e2 : (0 : Int) ≤ (cnt ps k : Int) + 1 := by omega
      have e3 : (cnt ps k : Int) + 1 ≤ (ps.length : Int) := by omega
      have e4 : ((cnt ps k : Int) + 1).toNat = cnt ps k + 1 := by omega
      have e5 : (ps.length : Int) ≤ (c : Int) := by omega
      by_cases hcap : c = cnt ps k + 1
      · subst hcap
        clear hci e5
        have f1 : (cnt ps k : Int) ≤ (cnt ps k : Int) + 1 := by omega
        have f2 : (ps.length : Int) ≤ (cnt ps k : Int) + 1 := by omega
        have f3 : (ps.length : Int) - ((cnt ps k : Int) + 1) = 0 := by omega
        go_enter Try.func201, Try.ntmps201
        go_wp2_with (go_at_call 188; refine (place_anyF _ _ ps k _ HR.out (le60 hn) HS.out).mono ?_; rintro e w2 ⟨rfl, hw2⟩; have HB := hid hw2; have HR2 := hid ((HR.out.below hw2).more hw2.size); clear hw2)
        go_region_held3 (fun _ => True) (trivial)
          (first | (go_at_call 198; refine (concat2F w2 _ _ _ _ _ _ _ (ps.take (cnt ps k)) (ps.drop (cnt ps k + 1)) (dropL ps k) (HR2.out.take _) (RP.any _ (by simp; omega)) (by simp; omega) (by simp; try omega) (by simp; omega) HP.out).mono ?_; rintro e w9 ⟨A9, c9, rfl, ho9, hb9⟩; have HO9 := hid ho9; have HB9 := hid hb9; clear ho9 hb9))
        go_wp2_with fail
        go_ret2
        exact ⟨A9, c9, rfl, HO9.out.mono HB.out.size, HB.out.trans (HB9.out.mono HB.out.size)⟩
      · go_enter Try.func201, Try.ntmps201
        go_wp2_with (go_at_call 188; refine (place_anyF _ c ps k _ HR.out (le60 hn) HS.out).mono ?_; rintro e w2 ⟨rfl, hw2⟩; have HB := hid hw2; have HR2 := hid ((HR.out.below hw2).more hw2.size); clear hw2)
        go_region_held3 (fun _ => True) (trivial)
          (first | (go_at_call 198; refine (concat2F w2 _ _ _ _ _ _ _ (ps.take (cnt ps k)) (ps.drop (cnt ps k + 1)) (dropL ps k) (HR2.out.take _) (HR2.out.drop' (by omega)) (by simp; omega) (by simp) (by simp; omega) HP.out).mono ?_; rintro e w9 ⟨A9, c9, rfl, ho9, hb9⟩; have HO9 := hid ho9; have HB9 := hid hb9; clear ho9 hb9))
        go_wp2_with fail
        go_ret2
        exact ⟨A9, c9, rfl, HO9.out.mono HB.out.size, HB.out.trans (HB9.out.mono HB.out.size)⟩
end Go.Proofs.Ytaiehccpefjbfaa
