import Derived.Test.YtcjbjfhndjpmcaaPk03
import Derived.Maps.AppendAt
import Derived.Test.YtcjbjfhndjpmcaaPk05
/-
  append to a slice of pairs of the call's own.
-/
namespace Go.Proofs.Ytcjbjfhndjpmcaa
open Go.RowKit

theorem ret_slice {A : Option Addr} {n m c : Nat} (h : n = m) : Ending.returned (.slice A n c) = .returned (.slice A m c) := by rw [h]

theorem OwnP.size {w : World} {B c : Nat} {A : Option Addr} {ps : PS} (h : OwnP w B A c ps) : ∀ k, Value.ownBlock (.slice A ps.length c) = some k → B ≤ k ∧ k < w.heap.size := World.ownsRow.lt h

theorem OwnP.made {w : World} {B : Nat} (hB : B ≤ w.heap.size) (cs : Array Value) (c : Nat) (hs : cs.size = c * 2) (hc : c ≤ maxLen) : OwnP (w.alloc (.cells cs 57)) B (some ⟨w.heap.size, 0, none⟩) c [] :=
  World.ownsRow_made w cs c hB hc hs
theorem OwnP.nil_ (w : World) (B : Nat) : OwnP w B none 0 [] := World.ownsRow_nil w B _ _

theorem RP.new (w : World) (p : BB) (T : TypeId) : RP (w.alloc (.cells #[.string p.1, .string p.2] T)) (w.heap.size + 1) (some ⟨w.heap.size, 0, none⟩) [p] := by
  refine .inr ⟨w.heap.size, 0, rfl, by omega, fun i q hq => ?_⟩
  have hb : (w.alloc (.cells #[.string p.1, .string p.2] T)).heap[w.heap.size]? = some (.cells #[.string p.1, .string p.2] T (0, 0)) := heap_alloc_new w _
  cases i with
  | zero =>
    simp only [List.getElem?_cons_zero, Option.some.injEq] at hq
    subst hq
    constructor
    · rw [cell_of_row _ _ _ _ _ _ hb]; rfl
    · rw [cell_of_row _ _ _ _ _ _ hb]; rfl
  | succ i => simp at hq

theorem run_append_rp {P : Program} (w : World) (t ty : TypeId) (i : TypeInfo) (ht : P.underlying t = some (.slice 57)) (hi : P.info? 57 = some i)
    (hz : i.zero = some (.agg #[.string ⟨#[]⟩, .string ⟨#[]⟩])) (hsize : i.size = 2) (hby : i.bytes = 32)
    (B : Nat) (A0 : Option Addr) (c0 : Nat) (qs : PS) (hown : OwnP w B A0 c0 qs) (B' : Nat) (A : Option Addr) (c : Nat) (ps : PS) (hr : RP w B' A ps)
    (hlen : qs.length + ps.length ≤ 4000000) (hbase : B ≤ w.heap.size) :
    ∃ A' c' w', (Builtin.append_ #[t, t] ty #[.slice A0 qs.length c0, .slice A ps.length c]).run P w = .ok (.slice A' (qs ++ ps).length c') w' ∧ OwnP w' B A' c' (qs ++ ps) ∧ Below B w w' := by
  rcases A with _ | ad
  · have h0 : ps = [] := by
      rcases hr with h | ⟨b, off, e, _⟩
      · exact h
      · cases e
    subst h0
    refine ⟨A0, c0, w, ?_, by simpa using hown, Below.refl _ _⟩
    rcases hown.2 with ⟨hv, hn⟩ | ⟨g, cap, cur, hv, _, _, hnc, _⟩
    · injection hv with e1 e2 e3
      subst e1 e3
      simp [Builtin.append_, run_underlying ht, sizeOf, typeInfo, hi, Builtin.lenOf, Builtin.firstCells, hn]
    · injection hv with e1 e2 e3
      subst e1 e3
      simp [Builtin.append_, run_underlying ht, sizeOf, typeInfo, hi, Builtin.lenOf, Builtin.firstCells, hnc, storeCells]
  · have hcells : ∀ j u, (pcells ps)[j]? = some u → w.cell? (ad.add j) = some u := by
      intro j u hu
      rcases hr with rfl | ⟨b, off, e, hb, hc⟩
      · simp [pcells] at hu
      · injection e with e
        subst e
        rw [Addr.add_lit]
        have hj : j < ps.length * 2 := by
          have := (List.getElem?_eq_some_iff.1 hu).1
          rwa [pcells_length] at this
        have hd : j = (j / 2) * 2 ∨ j = (j / 2) * 2 + 1 := by omega
        have hl : j / 2 < ps.length := by omega
        have hp := List.getElem?_eq_getElem hl
        rcases hd with hd | hd
        · have hk := pcells_key ps _ _ hp
          rw [← hd, hu] at hk
          rw [Option.some.inj hk]
          have := (hc _ _ hp).1
          rwa [← hd] at this
        · have hk := pcells_val ps _ _ hp
          rw [← hd, hu] at hk
          rw [Option.some.inj hk]
          have := (hc _ _ hp).2
          rw [Nat.add_assoc] at this
          rwa [← hd] at this
    obtain ⟨v', w', hrun, h2, h3, _, _⟩ := run_append_own_at (P := P) w B t ty 57 i _ 2 32 ht hi hz hsize hby rfl (by omega) (.slice A0 qs.length c0) qs.length (pcells qs) hown ad ps.length c (pcells ps) (pcells_length ps) hcells (pcells_one ps) (by unfold maxLen; omega) (by omega) hbase
    have hb : Below B w w' := (Below.refl _ _).grown h3 hbase (fun k hk => (hown.size k hk).1)
    rw [← pcells_append] at h2
    rcases h2.2 with ⟨rfl, hn⟩ | ⟨g, cap, cur, rfl, r⟩
    · have e1 : qs = [] := List.eq_nil_of_length_eq_zero (by omega)
      have e2 : ps = [] := List.eq_nil_of_length_eq_zero (by omega)
      subst e1 e2
      exact ⟨none, 0, w', hrun, h2, hb⟩
    · rw [← List.length_append] at h2 hrun
      exact ⟨_, _, w', hrun, h2, hb⟩

theorem wpList_append_rp {P : Program} (w : World) {ops : Array Oper} {rest : List Oper} {o : Oper} {a : Act} {Q : Exit → Act → World → Prop} (hgd : o.guard = none) (s x : Operand) (t : TypeId)
    (ho : o.op = .call { callee := .builtin .append, args := #[s, x], argTypes := #[t, t] })
    (i : TypeInfo) (ht : P.underlying t = some (.slice 57)) (hi : P.info? 57 = some i)
    (hz : i.zero = some (.agg #[.string ⟨#[]⟩, .string ⟨#[]⟩])) (hsize : i.size = 2) (hby : i.bytes = 32)
    (B : Nat) (A0 : Option Addr) (n0 c0 : Nat) (qs : PS) (hs : a.eval s = .slice A0 n0 c0) (hn0 : n0 = qs.length) (hown : OwnP w B A0 c0 qs)
    (B' : Nat) (A : Option Addr) (n c : Nat) (ps : PS) (hx : a.eval x = .slice A n c) (hn : n = ps.length) (hr : RP w B' A ps)
    (hlen : qs.length + ps.length ≤ 4000000) (hbase : B ≤ w.heap.size)
    (h : ∀ A' n' c' w', n' = (qs ++ ps).length → OwnP w' B A' c' (qs ++ ps) → Below B w w' → wpList P ops Q rest (a.put o.dst (.slice A' n' c')) w') : wpList P ops Q (o :: rest) a w := by
  subst hn0 hn
  refine wpList_plain hgd fun K hK => ?_
  obtain ⟨A', c', w', hrun, h2, h3⟩ := run_append_rp (P := P) w t o.type i ht hi hz hsize hby B A0 c0 qs hown B' A c ps hr hlen hbase
  unfold Oper.wp execOp
  simp only [ho, resolve, invoke, builtin, Sem.run_bind, Sem.run_pure, Result.andThen_ok, List.map_toArray, List.map_cons, List.map_nil, hs, hx, hrun]
  exact hK _ _ (h A' _ c' w' rfl h2 h3)
end Go.Proofs.Ytcjbjfhndjpmcaa
/-
  The model's trees: contracts of what reads them.
-/
namespace Go.Proofs.Ytcjbjfhndjpmcaa
open Go.RowKit

/-- No node has many kids. -/
def SmallK (ns : List ND) : Prop := ∀ (k : Nat) (h : k < ns.length), ns[k].2.length ≤ 1048576
/-- Where a tree of a list ends; -1: there is none. -/
def endI : Option (BT × Nat) → Int
  | none => -1
  | some (_, e) => (e : Int)
theorem neI_true {x y : Int} (h : x ≠ y) : (x != y) = true := by simp [h]
theorem neI_false {x y : Int} (h : x = y) : (x != y) = false := by simp [h]
theorem endI_yes {ns : List ND} {f n : Nat} (h : n < ns.length) {ts : List BT} {e : Nat} (hk : kidsBy (parse ns f) ns.length ns[n].2 (n + 1) = some (ts, e)) : endI (parse ns (f + 1) n) = (e : Int) := by
  rw [parse_yes h hk]; rfl
theorem endI_no {ns : List ND} {f n : Nat} (h : n < ns.length) (hk : kidsBy (parse ns f) ns.length ns[n].2 (n + 1) = none) : endI (parse ns (f + 1) n) = -1 := by
  rw [parse_no h hk]; rfl
theorem ret_i {a b : Int} (h : a = b) : Ending.returned (.int .i64 a) = .returned (.int .i64 b) := by rw [h]

set_option maxHeartbeats 2000000 in
set_option maxRecDepth 100000 in
theorem spec_l2Listed (A : Option Addr) (c : Nat) (ns : List ND) (B : Nat) (hl : ns.length ≤ 100) (hks : SmallK ns) : ∀ (f n : Nat) (w : World), RN w B A ns → n < ns.length → ns.length - n ≤ f →
    Calls Try.prog 90 #[.slice A ns.length c, .int .i64 (n : Int)] w fun e w' => e = .returned (.int .i64 (endI (parse ns f n))) ∧ w = w'
  | 0, n, w, _, h, h' => by omega
  | f + 1, n, w, hr, hn, hf => by
    obtain ⟨b, off, A', K', c', d', rfl, hb, hc1, hc2, hrp, hri⟩ := hr.at_ hn
    have HR := hid hr
    have HRI := hid hri
    have hkl := hks n hn
    have IH := hid (spec_l2Listed (some ⟨b, off, none⟩) c ns B hl hks f)
    have HP := hid (fun m t e => parse_facts ns f m t e)
    have HY := hid (fun ts e h => @endI_yes ns f n hn ts e h)
    have HN := hid (@endI_no ns f n hn)
    have e5 : (0 : Int) ≤ (n : Int) := by omega
    have e6 : (n : Int) < (ns.length : Int) := by omega
    clear hr hrp hri
    go_enter Try.func90, Try.ntmps90
    go_wp2_with fail
    go_loop [5, 6] (fun q i => ∃ (k m : Nat) (ts : List BT), k ≤ ns[n].2.length ∧ i = .int .i64 k ∧ q = .int .i64 m ∧ n + 1 ≤ m ∧ m ≤ ns.length ∧ kidsBy (parse ns f) ns.length (ns[n].2.take k) (n + 1) = some (ts, m)) (fun _ i => ns[n].2.length - (intOf i).toNat)
    case atStart => exact ⟨0, n + 1, [], Nat.zero_le _, rfl, by go_num, Nat.le_refl _, by omega, rfl⟩
    case round =>
      obtain ⟨k, m, ts, hk, rfl, rfl, hm1, hm2, hkb⟩ := hrel
      by_cases hlt : k < ns[n].2.length
      · obtain ⟨b2, off2, rfl, hb2, hc3⟩ := HRI.out.at_ hlt
        have e7 : (k : Int) < (ns[n].2.length : Int) := by omega
        have e8 : (0 : Int) ≤ (k : Int) := by omega
        have HK1 := hid (fun (g1 : ns[n].2[k] = (m : Int)) (g2 : m < ns.length) (t : BT) (e : Nat) (hf : parse ns f m = some (t, e)) => kid_yes hlt hkb g1 g2 hf)
        have HK2 := hid (@kid_no1 (parse ns f) ns.length ns[n].2 k (n + 1) hlt ts m hkb)
        have HK3 := hid (@kid_no2 (parse ns f) ns.length ns[n].2 k (n + 1) hlt ts m hkb)
        clear hkb
        by_cases he : ns[n].2[k] = (m : Int)
        · have h1 := neI_false he
          have HE := hid he
          clear he
          by_cases hml : m < ns.length
          · cases hp : parse ns f m with
            | none =>
              have hi := IH.out m w HR.out hml (by omega)
              rw [hp] at hi
              have HI := hid hi
              have HX := hid (HN.out (HK3.out hp))
              clear hi hp
              go_wp2_with (go_at_call 90; refine HI.out.mono ?_; rintro e w' ⟨rfl, rfl⟩; simp only [endI])
              go_ret
              exact ⟨ret_i HX.out.symm, rfl⟩
            | some x =>
              obtain ⟨t, e⟩ := x
              have hi := IH.out m w HR.out hml (by omega)
              rw [hp] at hi
              have HI := hid hi
              obtain ⟨p1, p2, _, _, _⟩ := HP.out m t e hp
              have HX := hid (HK1.out HE.out hml _ _ hp)
              clear hi hp
              go_wp2_with (go_at_call 90; refine HI.out.mono ?_; rintro e w' ⟨rfl, rfl⟩; simp only [endI])
              go_round
              case rel => exact ⟨k + 1, e, ts ++ [t], by omega, by go_num, rfl, by omega, by omega, HX.out⟩
              case measure => simp [intOf]; omega
          · have HX := hid (HN.out (HK2.out (fun h => hml h.2)))
            go_wp2_with fail
            go_ret
            exact ⟨ret_i HX.out.symm, rfl⟩
        · have h1 := neI_true he
          have HX := hid (HN.out (HK2.out (fun h => he h.1)))
          clear he
          go_wp2_with fail
          go_ret
          exact ⟨ret_i HX.out.symm, rfl⟩
      · obtain rfl : k = ns[n].2.length := by omega
        rw [List.take_length] at hkb
        have HX := hid (HY.out _ _ hkb)
        clear hkb
        go_wp2_with fail
        go_ret
        exact ⟨ret_i HX.out.symm, rfl⟩
end Go.Proofs.Ytcjbjfhndjpmcaa
/-
  Blocks of three cells that a call made.
  Rows that a call made: what they are worth elsewhere.
  Blocks of two cells that a call made.
-/
namespace Go.Proofs.Ytcjbjfhndjpmcaa
open Go.RowKit

/-- A block of three cells, made by the call. -/
def Row3 (w : World) (g : Nat) (t : TypeId) (a b c : Value) : Prop := w.ownsRow g t 1 (.slice (some ⟨g, 0, none⟩) 3 3) 3 [a, b, c]
section
variable {w w' : World} {g : Nat} {t : TypeId} {a b c : Value}
theorem Row3.lit (w : World) (t : TypeId) (a b c : Value) : Row3 (w.alloc (.cells #[a, b, c] t)) w.heap.size t a b c :=
  World.ownsRow_lit w #[a, b, c] 3 (Nat.le_refl _) (by unfold maxLen; omega) rfl
theorem Row3.below (h : Row3 w g t a b c) (hb : Below w.heap.size w w') : Row3 w' g t a b c := h.kept (below_grown hb) (.inr (by simp [Value.ownBlock]))
theorem Row3.c0 (h : Row3 w g t a b c) : w.cell? ⟨g, 0, none⟩ = some a := h.cellAt 0 (by omega)
theorem Row3.c1 (h : Row3 w g t a b c) : w.cell? ⟨g, 1, none⟩ = some b := h.cellAt 1 (by omega)
theorem Row3.c2 (h : Row3 w g t a b c) : w.cell? ⟨g, 2, none⟩ = some c := h.cellAt 2 (by omega)
theorem Row3.fz (h : Row3 w g t a b c) (j : Nat) : w.frozen? ⟨g, j, none⟩ = false := h.frozenAt j
theorem Row3.s0 (h : Row3 w g t a b c) (v : Value) : Row3 (w.setCell ⟨g, 0, none⟩ v) g t v b c := (h.stored 0 v).1
theorem Row3.s1 (h : Row3 w g t a b c) (v : Value) : Row3 (w.setCell ⟨g, 1, none⟩ v) g t a v c := (h.stored 1 v).1
theorem Row3.s2 (h : Row3 w g t a b c) (v : Value) : Row3 (w.setCell ⟨g, 2, none⟩ v) g t a b v := (h.stored 2 v).1
theorem Row3.other (h : Row3 w g t a b c) {g' : Nat} {t' : TypeId} {a' b' c' : Value} (h' : Row3 w g' t' a' b' c') (hne : g ≠ g') (j : Nat) (v : Value) : Row3 (w.setCell ⟨g', j, none⟩ v) g t a b c :=
  h.kept (h'.stored j v).2 (.inr (by simp [Value.ownBlock]; omega))
end
theorem rows_three (w : World) (o : Obj) (t : TypeId) (a b c a' b' c' : Value) :
    Row3 (((w.alloc o).alloc (.cells #[a, b, c] t)).alloc (.cells #[a', b', c'] t)) (w.heap.size + 1) t a b c ∧ Row3 (((w.alloc o).alloc (.cells #[a, b, c] t)).alloc (.cells #[a', b', c'] t)) (w.heap.size + 1 + 1) t a' b' c' ∧
      Below w.heap.size w (((w.alloc o).alloc (.cells #[a, b, c] t)).alloc (.cells #[a', b', c'] t)) := by
  have h1 := Row3.lit (w.alloc o) t a b c
  have h2 := Row3.lit ((w.alloc o).alloc (.cells #[a, b, c] t)) t a' b' c'
  simp only [World.size_alloc] at h1 h2
  exact ⟨h1.below ((Below.refl _ _).alloc (Nat.le_refl _) _), h2, below3 (Below.refl _ _) (Nat.le_refl _)⟩
theorem world_post {P : Program} {F : Func} {post : Ending → World → Prop} {x : Exit} {a : Act} {S : World → Prop} (wx : World) (h : S wx) (k : ∀ wq, S wq → bodyPost P F post x a wq) : bodyPost P F post x a wx := k wx h
end Go.Proofs.Ytcjbjfhndjpmcaa
namespace Go.Proofs.Ytcjbjfhndjpmcaa
open Go.RowKit

theorem OwnI.cap {w : World} {B : Nat} {K : Option Addr} {d : Nat} {ks : List Int} (h : OwnI w B K d ks) : ks.length ≤ d ∧ d ≤ maxLen := by
  rcases h.2 with ⟨hv, hn⟩ | ⟨g, cap, cur, hv, _, _, h1, h2, _⟩
  · injection hv with _ _ hd
    exact ⟨by omega, by omega⟩
  · injection hv with _ _ hd
    exact ⟨by omega, by omega⟩
theorem OwnP.mono' {w : World} {B B' c : Nat} {A : Option Addr} {ps : PS} (h : OwnP w B A c ps) (hB : B' ≤ B) : OwnP w B' A c ps := by
  refine ⟨h.1, ?_⟩
  rcases h.2 with hn | ⟨g, cap, cur, hv, hb, rest⟩
  · exact .inl hn
  · exact .inr ⟨g, cap, cur, hv, by omega, rest⟩
theorem OwnI.mono {w : World} {B B' c : Nat} {A : Option Addr} {ps : List Int} (h : OwnI w B A c ps) (hB : B' ≤ B) : OwnI w B' A c ps := by
  refine ⟨h.1, ?_⟩
  rcases h.2 with hn | ⟨g, cap, cur, hv, hb, rest⟩
  · exact .inl hn
  · exact .inr ⟨g, cap, cur, hv, by omega, rest⟩
end Go.Proofs.Ytcjbjfhndjpmcaa
namespace Go.Proofs.Ytcjbjfhndjpmcaa
open Go.RowKit

/-- A block of two cells, made by the call. -/
def Row2 (w : World) (g : Nat) (t : TypeId) (a b : Value) : Prop := w.ownsRow g t 1 (.slice (some ⟨g, 0, none⟩) 2 2) 2 [a, b]
section
variable {w w' : World} {g : Nat} {t : TypeId} {a b : Value}
theorem Row2.lit (w : World) (t : TypeId) (a b : Value) : Row2 (w.alloc (.cells #[a, b] t)) w.heap.size t a b :=
  World.ownsRow_lit w #[a, b] 2 (Nat.le_refl _) (by unfold maxLen; omega) rfl
theorem Row2.below (h : Row2 w g t a b) (hb : Below w.heap.size w w') : Row2 w' g t a b := h.kept (below_grown hb) (.inr (by simp [Value.ownBlock]))
theorem Row2.c0 (h : Row2 w g t a b) : w.cell? ⟨g, 0, none⟩ = some a := h.cellAt 0 (by omega)
theorem Row2.c1 (h : Row2 w g t a b) : w.cell? ⟨g, 1, none⟩ = some b := h.cellAt 1 (by omega)
theorem Row2.fz (h : Row2 w g t a b) (j : Nat) : w.frozen? ⟨g, j, none⟩ = false := h.frozenAt j
theorem Row2.s0 (h : Row2 w g t a b) (v : Value) : Row2 (w.setCell ⟨g, 0, none⟩ v) g t v b := (h.stored 0 v).1
theorem Row2.s1 (h : Row2 w g t a b) (v : Value) : Row2 (w.setCell ⟨g, 1, none⟩ v) g t a v := (h.stored 1 v).1
theorem Row2.other (h : Row2 w g t a b) {g' : Nat} {t' : TypeId} {a' b' : Value} (h' : Row2 w g' t' a' b') (hne : g ≠ g') (j : Nat) (v : Value) : Row2 (w.setCell ⟨g', j, none⟩ v) g t a b :=
  h.kept (h'.stored j v).2 (.inr (by simp [Value.ownBlock]; omega))
theorem Row2.lt (h : Row2 w g t a b) : g < w.heap.size := (World.ownsRow.lt h g rfl).2
theorem OwnP.set2 {B c : Nat} {A : Option Addr} {ps : PS} (h : OwnP w B A c ps) (h' : Row2 w g t a b) (hg : g < B) (j : Nat) (v : Value) : OwnP (w.setCell ⟨g, j, none⟩ v) B A c ps := by
  refine h.kept (h'.stored j v).2 ?_
  rcases h.2 with ⟨hv, _⟩ | ⟨g2, cap, cur, hv, hb, _⟩
  · left
    rw [hv]; rfl
  · right
    rw [hv]
    simp [Value.ownBlock]
    omega
theorem OwnI.set2 {B c : Nat} {A : Option Addr} {ps : List Int} (h : OwnI w B A c ps) (h' : Row2 w g t a b) (hg : g < B) (j : Nat) (v : Value) : OwnI (w.setCell ⟨g, j, none⟩ v) B A c ps := by
  refine h.kept (h'.stored j v).2 ?_
  rcases h.2 with ⟨hv, _⟩ | ⟨g2, cap, cur, hv, hb, _⟩
  · left
    rw [hv]; rfl
  · right
    rw [hv]
    simp [Value.ownBlock]
    omega
end
theorem rows_two (w : World) (o : Obj) (t : TypeId) (a b a' b' : Value) :
    Row2 (((w.alloc o).alloc (.cells #[a, b] t)).alloc (.cells #[a', b'] t)) (w.heap.size + 1) t a b ∧ Row2 (((w.alloc o).alloc (.cells #[a, b] t)).alloc (.cells #[a', b'] t)) (w.heap.size + 1 + 1) t a' b' ∧
      Below w.heap.size w (((w.alloc o).alloc (.cells #[a, b] t)).alloc (.cells #[a', b'] t)) := by
  have h1 := Row2.lit (w.alloc o) t a b
  have h2 := Row2.lit ((w.alloc o).alloc (.cells #[a, b] t)) t a' b'
  simp only [World.size_alloc] at h1 h2
  exact ⟨h1.below ((Below.refl _ _).alloc (Nat.le_refl _) _), h2, below3 (Below.refl _ _) (Nat.le_refl _)⟩
end Go.Proofs.Ytcjbjfhndjpmcaa
