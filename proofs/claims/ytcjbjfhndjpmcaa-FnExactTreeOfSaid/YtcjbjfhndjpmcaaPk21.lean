import Derived.Test.YtcjbjfhndjpmcaaPk05
import Derived.Test.YtcjbjfhndjpmcaaPk14
import Derived.Test.YtcjbjfhndjpmcaaPk20
/-
  Rows of pointers to branches: read, owned, appended to; slices.Grow at nil, slices.Concat and slices.Clone of them and of pairs.
-/
namespace Go.Proofs.Ytcjbjfhndjpmcaa
open Go.RowKit

def pcs (gs : List Nat) : List Value := gs.map ptr
theorem pcs_length (gs : List Nat) : (pcs gs).length = gs.length * 1 := by simp [pcs]
theorem pcs_append (a b : List Nat) : pcs (a ++ b) = pcs a ++ pcs b := by simp [pcs]
theorem pcs_at {gs : List Nat} {i g : Nat} (h : gs[i]? = some g) : (pcs gs)[i]? = some (ptr g) := by simp [pcs, h]
theorem pcs_one (gs : List Nat) : ∀ u ∈ pcs gs, u.oneCell' = true := by
  intro u hu
  obtain ⟨g, _, rfl⟩ := List.mem_map.1 hu
  rfl
/-- The slice at A, below block B, holds these pointers. -/
def RQ (w : World) (B : Nat) (A : Option Addr) (gs : List Nat) : Prop :=
  gs = [] ∨ ∃ b off, A = some ⟨b, off, none⟩ ∧ b < B ∧ ∀ (i g : Nat), gs[i]? = some g → w.cell? ⟨b, off + i, none⟩ = some (ptr g)
section
variable {w w' : World} {B B' : Nat} {A : Option Addr} {gs : List Nat}
theorem RQ.at_ {k : Nat} (h : RQ w B A gs) (hk : k < gs.length) : ∃ b off, A = some ⟨b, off, none⟩ ∧ b < B ∧ w.cell? ⟨b, off + k, none⟩ = some (ptr gs[k]) := by
  rcases h with rfl | ⟨b, off, e, hb, hc⟩
  · simp at hk
  · exact ⟨b, off, e, hb, hc k _ (List.getElem?_eq_getElem hk)⟩
theorem RQ.keep (h : RQ w B A gs) (hk : ∀ p : Addr, p.block < B → w'.cell? p = w.cell? p) : RQ w' B A gs := by
  rcases h with rfl | ⟨b, off, e, hb, hc⟩
  · exact .inl rfl
  · exact .inr ⟨b, off, e, hb, fun i p hp => by rw [hk _ hb]; exact hc i p hp⟩
theorem RQ.more (h : RQ w B A gs) (hB : B ≤ B') : RQ w B' A gs := by
  rcases h with rfl | ⟨b, off, e, hb, hc⟩
  · exact .inl rfl
  · exact .inr ⟨b, off, e, by omega, hc⟩
theorem RQ.below (h : RQ w B A gs) (hb : Below B w w') : RQ w' B A gs := h.keep fun _ hp => hb.cell hp
theorem RQ.any (A : Option Addr) (h : gs = []) : RQ w B A gs := .inl h
theorem RQ.of_own {base : Nat} {e : TypeId} {n c : Nat} (h : w.ownsRow base e 1 (.slice A n c) n (pcs gs)) : RQ w w.heap.size A gs := by
  rcases h.2 with ⟨hv, hn⟩ | ⟨g, cap, cur, hv, _, hh, _⟩
  · left
    have := h.1
    rw [pcs_length] at this
    exact List.eq_nil_of_length_eq_zero (by omega)
  · right
    injection hv with hA
    subst hA
    refine ⟨g, 0, rfl, (Array.getElem?_eq_some_iff.1 hh).1, fun i p hp => ?_⟩
    have h1 := h.cells (g := g) rfl i (ptr p) (pcs_at hp)
    rw [Addr.add_lit] at h1
    exact h1
theorem RQ.take (h : RQ w B A gs) (n : Nat) : RQ w B A (gs.take n) := by
  rcases h with rfl | ⟨b, off, e, hb, hc⟩
  · exact .inl (by simp)
  · refine .inr ⟨b, off, e, hb, fun i p hp => hc i p ?_⟩
    rw [List.getElem?_take] at hp
    split at hp
    · exact hp
    · cases hp
theorem RQ.drop {g off : Nat} (h : RQ w B (some ⟨g, off, none⟩) gs) (i : Nat) : RQ w B (some ⟨g, off + i, none⟩) (gs.drop i) := by
  rcases h with rfl | ⟨b, o, e, hb, hc⟩
  · exact .inl (by simp)
  · injection e with e
    injection e with e1 e2
    subst e1 e2
    refine .inr ⟨g, off + i, rfl, hb, fun j p hp => ?_⟩
    rw [List.getElem?_drop] at hp
    have := hc (i + j) p hp
    rwa [show off + i + j = off + (i + j) by omega]
end
/-- A slice of pointers of the call's own. -/
def OwnQ (w : World) (B : Nat) (A : Option Addr) (c : Nat) (gs : List Nat) : Prop := w.ownsRow B 71 1 (.slice A gs.length c) gs.length (pcs gs)
theorem OwnQ.rq {w : World} {B c : Nat} {A : Option Addr} {gs : List Nat} (h : OwnQ w B A c gs) : RQ w w.heap.size A gs := RQ.of_own h
theorem OwnQ.below {w w' : World} {B c : Nat} {A : Option Addr} {gs : List Nat} (h : OwnQ w B A c gs) (hb : Below w.heap.size w w') : OwnQ w' B A c gs := h.kept (below_grown hb) (by
  cases hv : Value.ownBlock (.slice A gs.length c) <;> simp)
theorem OwnQ.mono {w : World} {B B' c : Nat} {A : Option Addr} {gs : List Nat} (h : OwnQ w B A c gs) (hB : B' ≤ B) : OwnQ w B' A c gs := own_mono h hB
def MadeQ (w : World) (B : Nat) (gs : List Nat) (e : Ending) (w' : World) : Prop := ∃ A c, e = .returned (.slice A gs.length c) ∧ OwnQ w' B A c gs ∧ Below w.heap.size w w'
theorem OwnQ.size {w : World} {B c : Nat} {A : Option Addr} {gs : List Nat} (h : OwnQ w B A c gs) : ∀ k, Value.ownBlock (.slice A gs.length c) = some k → B ≤ k ∧ k < w.heap.size := World.ownsRow.lt h
theorem OwnQ.made {w : World} {B : Nat} (hB : B ≤ w.heap.size) (cs : Array Value) (c : Nat) (hs : cs.size = c * 1) (hc : c ≤ maxLen) : OwnQ (w.alloc (.cells cs 71)) B (some ⟨w.heap.size, 0, none⟩) c [] :=
  World.ownsRow_made w cs c hB hc hs
theorem OwnQ.nil_ (w : World) (B : Nat) : OwnQ w B none 0 [] := World.ownsRow_nil w B _ _
theorem OwnQ.vs {w : World} {B c : Nat} {A : Option Addr} {gs : List Nat} (h : OwnQ w B A c gs) : VS A c gs.length := by
  have hc := own_cap h
  rcases h.2 with ⟨hv, hn⟩ | ⟨g, cap, cur, hv, _⟩
  · injection hv with e1 e2 e3
    exact .inl ⟨e1, e3, hn⟩
  · injection hv with e1 e2 e3
    exact .inr ⟨g, 0, e1, hc.1, hc.2⟩
theorem run_append_rq {P : Program} (w : World) (t ty : TypeId) (i : TypeInfo) (ht : P.underlying t = some (.slice 71)) (hi : P.info? 71 = some i)
    (hz : i.zero = some (.pointer none)) (hsize : i.size = 1) (hby : i.bytes = 8)
    (B : Nat) (A0 : Option Addr) (c0 : Nat) (qs : List Nat) (hown : OwnQ w B A0 c0 qs) (B' : Nat) (A : Option Addr) (c : Nat) (ps : List Nat) (hr : RQ w B' A ps)
    (hlen : qs.length + ps.length ≤ 4000000) (hbase : B ≤ w.heap.size) :
    ∃ A' c' w', (Builtin.append_ #[t, t] ty #[.slice A0 qs.length c0, .slice A ps.length c]).run P w = .ok (.slice A' (qs ++ ps).length c') w' ∧ OwnQ w' B A' c' (qs ++ ps) ∧ Below B w w' := by
  rcases A with _ | ad
  · have h0 : ps = [] := by
      rcases hr with h | ⟨b, off, e, _⟩
      · exact h
      · cases e
    subst h0
    refine ⟨A0, c0, w, ?_, by simpa using hown, Below.refl _ _⟩
    rcases hown.2 with ⟨hv, hn⟩ | ⟨g, cap, cur, hv, _, _, hnc, _⟩
    · injection hv with e1 e2 e3
      subst e1 e3
      simp [Builtin.append_, run_underlying ht, sizeOf, typeInfo, hi, Builtin.lenOf, Builtin.firstCells, hn]
    · injection hv with e1 e2 e3
      subst e1 e3
      simp [Builtin.append_, run_underlying ht, sizeOf, typeInfo, hi, Builtin.lenOf, Builtin.firstCells, hnc, storeCells]
  · have hcells : ∀ j u, (pcs ps)[j]? = some u → w.cell? (ad.add j) = some u := by
      intro j u hu
      rcases hr with rfl | ⟨b, off, e, hb, hc⟩
      · simp [pcs] at hu
      · injection e with e
        subst e
        rw [Addr.add_lit]
        have hj : j < ps.length := by
          have := (List.getElem?_eq_some_iff.1 hu).1
          rw [pcs_length] at this
          omega
        have hk := pcs_at (List.getElem?_eq_getElem hj)
        rw [hu] at hk
        rw [Option.some.inj hk]
        exact hc _ _ (List.getElem?_eq_getElem hj)
    obtain ⟨v', w', hrun, h2, h3, _, _⟩ := run_append_own_at (P := P) w B t ty 71 i _ 1 8 ht hi hz hsize hby rfl (by omega) (.slice A0 qs.length c0) qs.length (pcs qs) hown ad ps.length c (pcs ps) (pcs_length ps) hcells (pcs_one ps) (by unfold maxLen; omega) (by omega) hbase
    have hb : Below B w w' := (Below.refl _ _).grown h3 hbase (fun k hk => (hown.size k hk).1)
    rw [← pcs_append] at h2
    rcases h2.2 with ⟨rfl, hn⟩ | ⟨g, cap, cur, rfl, r⟩
    · have e1 : qs = [] := List.eq_nil_of_length_eq_zero (by omega)
      have e2 : ps = [] := List.eq_nil_of_length_eq_zero (by omega)
      subst e1 e2
      exact ⟨none, 0, w', hrun, h2, hb⟩
    · rw [← List.length_append] at h2 hrun
      exact ⟨_, _, w', hrun, h2, hb⟩

theorem wpList_append_rq {P : Program} (w : World) {ops : Array Oper} {rest : List Oper} {o : Oper} {a : Act} {Q : Exit → Act → World → Prop} (hgd : o.guard = none) (s x : Operand) (t : TypeId)
    (ho : o.op = .call { callee := .builtin .append, args := #[s, x], argTypes := #[t, t] })
    (i : TypeInfo) (ht : P.underlying t = some (.slice 71)) (hi : P.info? 71 = some i)
    (hz : i.zero = some (.pointer none)) (hsize : i.size = 1) (hby : i.bytes = 8)
    (B : Nat) (A0 : Option Addr) (n0 c0 : Nat) (qs : List Nat) (hs : a.eval s = .slice A0 n0 c0) (hn0 : n0 = qs.length) (hown : OwnQ w B A0 c0 qs)
    (B' : Nat) (A : Option Addr) (n c : Nat) (ps : List Nat) (hx : a.eval x = .slice A n c) (hn : n = ps.length) (hr : RQ w B' A ps)
    (hlen : qs.length + ps.length ≤ 4000000) (hbase : B ≤ w.heap.size)
    (h : ∀ A' n' c' w', n' = (qs ++ ps).length → OwnQ w' B A' c' (qs ++ ps) → Below B w w' → wpList P ops Q rest (a.put o.dst (.slice A' n' c')) w') : wpList P ops Q (o :: rest) a w := by
  subst hn0 hn
  refine wpList_plain hgd fun K hK => ?_
  obtain ⟨A', c', w', hrun, h2, h3⟩ := run_append_rq (P := P) w t o.type i ht hi hz hsize hby B A0 c0 qs hown B' A c ps hr hlen hbase
  unfold Oper.wp execOp
  simp only [ho, resolve, invoke, builtin, Sem.run_bind, Sem.run_pure, Result.andThen_ok, List.map_toArray, List.map_cons, List.map_nil, hs, hx, hrun]
  exact hK _ _ (h A' _ c' w' rfl h2 h3)
set_option maxHeartbeats 1000000 in
set_option maxRecDepth 100000 in
theorem grow_nilP (n : Nat) (hn : n ≤ 100000) (w : World) :
    Calls Try.prog 170 #[.slice none 0 0, .int .i64 n] w (Made w w.heap.size []) := by
  by_cases h0 : n = 0
  · subst h0
    go_enter Try.func170, Try.ntmps170
    go_wp2
    go_ret
    exact ⟨none, 0, rfl, OwnP.nil_ _ _, Below.refl _ _⟩
  · obtain ⟨i0, hi0, hz0, hz1, hz2⟩ := info_parts pairInfo
    have hrz : ∀ ty, (Builtin.append_ #[27, 3] ty #[.slice none 0 0, .int .i64 (n : Int)]).run Try.prog w =
        .ok (.slice (some ⟨w.heap.size, 0, none⟩) n (grownCap w n 0 57)) (w.drew.alloc (.cells ((([] : List Value).toArray) ++ Builtin.zeroCells (Value.agg #[.string ⟨#[]⟩, .string ⟨#[]⟩]).cells n ++ Builtin.zeroCells (Value.agg #[.string ⟨#[]⟩, .string ⟨#[]⟩]).cells (grownCap w n 0 57 - n)) 57)) := fun ty => by
      have h := Lib.run_append_grow_zeros (P := Try.prog) w 27 3 ty 57 i0 _ .i64 .i64 Try.underlying27 Try.underlying3 hi0 hz0 none 0 0 []
        (run_firstCells_none w.drew i0.size 0 0 0) n (by omega) (by omega) (by omega) (by omega) (by rw [hz2]; omega) (by rw [Nat.zero_add]; exact growslice_fits (by omega) (by rw [hz2]; omega))
      simpa only [Nat.zero_add] using h
    have hge : n ≤ grownCap w n 0 57 := grownCap_ge w _ _ _
    have hle : grownCap w n 0 57 ≤ maxLen := grownCap_le_maxLen w n 0 _ (by unfold maxLen; omega)
    have hmade : ∀ cs : Array Value, cs.size = grownCap w n 0 57 * 2 → OwnP (w.drew.alloc (.cells cs 57)) w.heap.size (some ⟨w.heap.size, 0, none⟩) (grownCap w n 0 57) [] :=
      fun cs hs => OwnP.made (w := w.drew) (Nat.le_refl _) cs _ hs hle
    obtain ⟨G, hG⟩ : ∃ G, G = grownCap w n 0 57 := ⟨_, rfl⟩
    rw [← hG] at hrz hge hle hmade
    have HM := hid hmade
    clear hG hmade
    unfold maxLen at hle
    go_enter Try.func170, Try.ntmps170
    go_wp2_with (at_builtin; refine Lib.wpList_append_run _ rfl _ _ _ _ rfl _ _ rfl rfl _ _ (hrz _) ?_)
    go_ret
    refine ⟨_, G, rfl, HM.out _ ?_, ((Below.refl _ _).drew).alloc (Nat.le_refl _) _⟩
    rw [Array.size_append, size_zeros, size_zeros]
    show n * 2 + (G - n) * 2 = G * 2
    omega

set_option maxHeartbeats 2000000 in
set_option maxRecDepth 100000 in
theorem concat_anyP (A : Option Addr) (c : Nat) (L : List SE) (w : World) (hr : RS w w.heap.size A L) (hn : totL L ≤ 100000) (hl : L.length ≤ 1000) :
    Calls Try.prog 161 #[.slice A L.length c] w (Made w w.heap.size (L.flatMap SE.ps)) := by
  obtain ⟨i0, hi0, hz0, hz1, hz2⟩ := info_parts pairInfo
  go_enter Try.func161, Try.ntmps161
  go_wp2_with fail
  go_loop [3, 11] (fun q i => ∃ (k m : Nat), k ≤ L.length ∧ i = .int .i64 k ∧ q = .int .i64 m ∧ m = ((L.take k).flatMap SE.ps).length) (fun _ i => L.length - (intOf i).toNat)
  case atStart => exact ⟨0, 0, Nat.zero_le _, rfl, rfl, rfl⟩
  case round =>
    obtain ⟨k, m, hk, rfl, rfl, hm⟩ := hrel
    have hmle : m ≤ 100000 := by have := tot_le L k; omega
    by_cases hlt : k < L.length
    · obtain ⟨b, off, rfl, hb, hc⟩ : ∃ b off, A = some ⟨b, off, none⟩ ∧ b < w.heap.size ∧ w.cell? ⟨b, off + k, none⟩ = some (.slice L[k].A L[k].ps.length L[k].c) := by
        rcases hr with rfl | ⟨b, off, e, hb, hc⟩
        · simp at hlt
        · exact ⟨b, off, e, hb, (hc k _ (List.getElem?_eq_getElem hlt)).1⟩
      have hs := congrArg List.length (tot_take hlt)
      rw [List.length_append] at hs
      have hle := tot_le L (k + 1)
      have hlen : L[k].ps.length ≤ 100000 := by omega
      have hsum : m + L[k].ps.length ≤ 100000 := by omega
      have HM : Hid (m + L[k].ps.length = ((L.take (k + 1)).flatMap SE.ps).length) := by rw [Hid, hm, hs]
      clear hs hle hm hr
      go_wp2_with fail
      go_round
      case rel => exact ⟨k + 1, m + L[k].ps.length, by omega, by go_num, by go_num, HM.out⟩
      case measure => simp [intOf]; omega
    · obtain rfl : k = L.length := by omega
      rw [List.take_length] at hm
      clear hm
      go_wp2_with (go_at_call 170; refine (grow_nilP m hmle _).mono ?_; rintro e w1 ⟨A1, c1, rfl, ho1, hb1⟩; have HO1 := hid ho1; have HB1 := hid hb1; clear ho1 hb1)
      go_loopw [6, 27] (fun v i wr => ∃ (k : Nat) (n : Nat) (A' : Option Addr) (c' : Nat), k ≤ L.length ∧ i = .int .i64 k ∧ v = .slice A' n c' ∧ n = ((L.take k).flatMap SE.ps).length ∧ OwnP wr w.heap.size A' c' ((L.take k).flatMap SE.ps) ∧ Below w.heap.size w wr) (fun _ i _ => L.length - (intOf i).toNat)
      case atStart => exact ⟨0, 0, _, _, Nat.zero_le _, rfl, rfl, rfl, HO1.out, HB1.out⟩
      case round =>
        obtain ⟨k, n, A', c', hk, rfl, rfl, hn', hown, hbw⟩ := hrel
        by_cases hlt : k < L.length
        · obtain ⟨b, off, rfl, hb, hc, hrk⟩ : ∃ b off, A = some ⟨b, off, none⟩ ∧ b < w.heap.size ∧ wr.cell? ⟨b, off + k, none⟩ = some (.slice L[k].A L[k].ps.length L[k].c) ∧ RP wr w.heap.size L[k].A L[k].ps := by
            rcases hr.below hbw with rfl | ⟨b, off, e, hb, hc⟩
            · simp at hlt
            · exact ⟨b, off, e, hb, (hc k _ (List.getElem?_eq_getElem hlt)).1, (hc k _ (List.getElem?_eq_getElem hlt)).2⟩
          have hs := congrArg List.length (tot_take hlt)
          rw [List.length_append] at hs
          have hle := tot_le L (k + 1)
          have HLEN : Hid (((L.take k).flatMap SE.ps).length + L[k].ps.length ≤ 4000000) := by unfold Hid; omega
          have HT := hid (tot_take hlt)
          have HO := hid hown
          have HD := hid hbw
          have HN := hid hn'
          have HR := hid hrk
          clear hs hle hr hown hbw hn' hrk
          go_wp2_with (at_builtin; refine wpList_append_rp _ rfl _ _ _ rfl i0 Try.underlying27 hi0 hz0 hz1 hz2 w.heap.size A' n c' ((L.take k).flatMap SE.ps) rfl HN.out HO.out _ _ _ _ L[k].ps rfl rfl HR.out HLEN.out HD.out.size ?_; intro A2 n2 c2 w2 hn2 hown2 hbw2; have HN2 := hid hn2; have HO2 := hid hown2; have HB2 := hid hbw2; clear hn2 hown2 hbw2)
          go_roundw
          case rel => exact ⟨k + 1, _, _, _, by omega, by go_num, rfl, by rw [HT.out]; exact HN2.out, by rw [HT.out]; exact HO2.out, HD.out.trans HB2.out⟩
          case measure => simp [intOf]; omega
        · obtain rfl : k = L.length := by omega
          have HO := hid hown
          have HD := hid hbw
          have HN := hid hn'
          clear hown hbw hr hn'
          go_wp2_with fail
          go_ret
          rw [List.take_length] at HO HN
          exact ⟨_, _, ret_slice HN.out, HO.out, HD.out⟩
set_option maxHeartbeats 1000000 in
set_option maxRecDepth 100000 in
theorem grow_nilQ (n : Nat) (hn : n ≤ 100000) (w : World) :
    Calls Try.prog 171 #[.slice none 0 0, .int .i64 n] w (MadeQ w w.heap.size []) := by
  by_cases h0 : n = 0
  · subst h0
    go_enter Try.func171, Try.ntmps171
    go_wp2
    go_ret
    exact ⟨none, 0, rfl, OwnQ.nil_ _ _, Below.refl _ _⟩
  · obtain ⟨i0, hi0, hz0, hz1, hz2⟩ := info_parts ptrInfo
    have hrz : ∀ ty, (Builtin.append_ #[117, 3] ty #[.slice none 0 0, .int .i64 (n : Int)]).run Try.prog w =
        .ok (.slice (some ⟨w.heap.size, 0, none⟩) n (grownCap w n 0 71)) (w.drew.alloc (.cells ((([] : List Value).toArray) ++ Builtin.zeroCells (Value.pointer none).cells n ++ Builtin.zeroCells (Value.pointer none).cells (grownCap w n 0 71 - n)) 71)) := fun ty => by
      have h := Lib.run_append_grow_zeros (P := Try.prog) w 117 3 ty 71 i0 _ .i64 .i64 Try.underlying117 Try.underlying3 hi0 hz0 none 0 0 []
        (run_firstCells_none w.drew i0.size 0 0 0) n (by omega) (by omega) (by omega) (by omega) (by rw [hz2]; omega) (by rw [Nat.zero_add]; exact growslice_fits (by omega) (by rw [hz2]; omega))
      simpa only [Nat.zero_add] using h
    have hge : n ≤ grownCap w n 0 71 := grownCap_ge w _ _ _
    have hle : grownCap w n 0 71 ≤ maxLen := grownCap_le_maxLen w n 0 _ (by unfold maxLen; omega)
    have hmade : ∀ cs : Array Value, cs.size = grownCap w n 0 71* 1 → OwnQ (w.drew.alloc (.cells cs 71)) w.heap.size (some ⟨w.heap.size, 0, none⟩) (grownCap w n 0 71) [] :=
      fun cs hs => OwnQ.made (w := w.drew) (Nat.le_refl _) cs _ hs hle
    obtain ⟨G, hG⟩ : ∃ G, G = grownCap w n 0 71 := ⟨_, rfl⟩
    rw [← hG] at hrz hge hle hmade
    have HM := hid hmade
    clear hG hmade
    unfold maxLen at hle
    go_enter Try.func171, Try.ntmps171
    go_wp2_with (at_builtin; refine Lib.wpList_append_run _ rfl _ _ _ _ rfl _ _ rfl rfl _ _ (hrz _) ?_)
    go_ret
    refine ⟨_, G, rfl, HM.out _ ?_, ((Below.refl _ _).drew).alloc (Nat.le_refl _) _⟩
    rw [Array.size_append, size_zeros, size_zeros]
    show n* 1 + (G - n)* 1 = G* 1
    omega

/-- The slices of a list of slices. -/
structure SQ where
  A : Option Addr
  c : Nat
  gs : List Nat
def RSQ (w : World) (B : Nat) (A : Option Addr) (L : List SQ) : Prop :=
  L = [] ∨ ∃ b off, A = some ⟨b, off, none⟩ ∧ b < B ∧ ∀ (i : Nat) (s : SQ), L[i]? = some s → w.cell? ⟨b, off + i, none⟩ = some (.slice s.A s.gs.length s.c) ∧ RQ w B s.A s.gs
theorem RSQ.below {w w' : World} {B : Nat} {A : Option Addr} {L : List SQ} (h : RSQ w B A L) (hb : Below B w w') : RSQ w' B A L := by
  rcases h with rfl | ⟨b, off, e, hbk, hc⟩
  · exact .inl rfl
  · exact .inr ⟨b, off, e, hbk, fun i s hs => ⟨(hb.cell hbk).trans (hc i s hs).1, (hc i s hs).2.below hb⟩⟩
def totQ (L : List SQ) : Nat := (L.flatMap SQ.gs).length
theorem totQ_take {L : List SQ} {k : Nat} (h : k < L.length) : ((L.take (k + 1)).flatMap SQ.gs) = (L.take k).flatMap SQ.gs ++ L[k].gs := by
  rw [List.take_succ_eq_append_getElem h, List.flatMap_append]
  simp
theorem totQ_le (L : List SQ) (k : Nat) : ((L.take k).flatMap SQ.gs).length ≤ totQ L := by
  unfold totQ
  conv => rhs; rw [← List.take_append_drop k L, List.flatMap_append, List.length_append]
  omega

set_option maxHeartbeats 2000000 in
set_option maxRecDepth 100000 in
theorem concat_anyQ (A : Option Addr) (c : Nat) (L : List SQ) (w : World) (hr : RSQ w w.heap.size A L) (hn : totQ L ≤ 100000) (hl : L.length ≤ 1000) :
    Calls Try.prog 163 #[.slice A L.length c] w (MadeQ w w.heap.size (L.flatMap SQ.gs)) := by
  obtain ⟨i0, hi0, hz0, hz1, hz2⟩ := info_parts ptrInfo
  go_enter Try.func163, Try.ntmps163
  go_wp2_with fail
  go_loop [3, 11] (fun q i => ∃ (k m : Nat), k ≤ L.length ∧ i = .int .i64 k ∧ q = .int .i64 m ∧ m = ((L.take k).flatMap SQ.gs).length) (fun _ i => L.length - (intOf i).toNat)
  case atStart => exact ⟨0, 0, Nat.zero_le _, rfl, rfl, rfl⟩
  case round =>
    obtain ⟨k, m, hk, rfl, rfl, hm⟩ := hrel
    have hmle : m ≤ 100000 := by have := totQ_le L k; omega
    by_cases hlt : k < L.length
    · obtain ⟨b, off, rfl, hb, hc⟩ : ∃ b off, A = some ⟨b, off, none⟩ ∧ b < w.heap.size ∧ w.cell? ⟨b, off + k, none⟩ = some (.slice L[k].A L[k].gs.length L[k].c) := by
        rcases hr with rfl | ⟨b, off, e, hb, hc⟩
        · simp at hlt
        · exact ⟨b, off, e, hb, (hc k _ (List.getElem?_eq_getElem hlt)).1⟩
      have hs := congrArg List.length (totQ_take hlt)
      rw [List.length_append] at hs
      have hle := totQ_le L (k + 1)
      have hlen : L[k].gs.length ≤ 100000 := by omega
      have hsum : m + L[k].gs.length ≤ 100000 := by omega
      have HM : Hid (m + L[k].gs.length = ((L.take (k + 1)).flatMap SQ.gs).length) := by rw [Hid, hm, hs]
      clear hs hle hm hr
      go_wp2_with fail
      go_round
      case rel => exact ⟨k + 1, m + L[k].gs.length, by omega, by go_num, by go_num, HM.out⟩
      case measure => simp [intOf]; omega
    · obtain rfl : k = L.length := by omega
      rw [List.take_length] at hm
      clear hm
      go_wp2_with (go_at_call 171; refine (grow_nilQ m hmle _).mono ?_; rintro e w1 ⟨A1, c1, rfl, ho1, hb1⟩; have HO1 := hid ho1; have HB1 := hid hb1; clear ho1 hb1)
      go_loopw [6, 27] (fun v i wr => ∃ (k : Nat) (n : Nat) (A' : Option Addr) (c' : Nat), k ≤ L.length ∧ i = .int .i64 k ∧ v = .slice A' n c' ∧ n = ((L.take k).flatMap SQ.gs).length ∧ OwnQ wr w.heap.size A' c' ((L.take k).flatMap SQ.gs) ∧ Below w.heap.size w wr) (fun _ i _ => L.length - (intOf i).toNat)
      case atStart => exact ⟨0, 0, _, _, Nat.zero_le _, rfl, rfl, rfl, HO1.out, HB1.out⟩
      case round =>
        obtain ⟨k, n, A', c', hk, rfl, rfl, hn', hown, hbw⟩ := hrel
        by_cases hlt : k < L.length
        · obtain ⟨b, off, rfl, hb, hc, hrk⟩ : ∃ b off, A = some ⟨b, off, none⟩ ∧ b < w.heap.size ∧ wr.cell? ⟨b, off + k, none⟩ = some (.slice L[k].A L[k].gs.length L[k].c) ∧ RQ wr w.heap.size L[k].A L[k].gs := by
            rcases hr.below hbw with rfl | ⟨b, off, e, hb, hc⟩
            · simp at hlt
            · exact ⟨b, off, e, hb, (hc k _ (List.getElem?_eq_getElem hlt)).1, (hc k _ (List.getElem?_eq_getElem hlt)).2⟩
          have hs := congrArg List.length (totQ_take hlt)
          rw [List.length_append] at hs
          have hle := totQ_le L (k + 1)
          have HLEN : Hid (((L.take k).flatMap SQ.gs).length + L[k].gs.length ≤ 4000000) := by unfold Hid; omega
          have HT := hid (totQ_take hlt)
          have HO := hid hown
          have HD := hid hbw
          have HN := hid hn'
          have HR := hid hrk
          clear hs hle hr hown hbw hn' hrk
          go_wp2_with (at_builtin; refine wpList_append_rq _ rfl _ _ _ rfl i0 Try.underlying117 hi0 hz0 hz1 hz2 w.heap.size A' n c' ((L.take k).flatMap SQ.gs) rfl HN.out HO.out _ _ _ _ L[k].gs rfl rfl HR.out HLEN.out HD.out.size ?_; intro A2 n2 c2 w2 hn2 hown2 hbw2; have HN2 := hid hn2; have HO2 := hid hown2; have HB2 := hid hbw2; clear hn2 hown2 hbw2)
          go_roundw
          case rel => exact ⟨k + 1, _, _, _, by omega, by go_num, rfl, by rw [HT.out]; exact HN2.out, by rw [HT.out]; exact HO2.out, HD.out.trans HB2.out⟩
          case measure => simp [intOf]; omega
        · obtain rfl : k = L.length := by omega
          have HO := hid hown
          have HD := hid hbw
          have HN := hid hn'
          clear hown hbw hr hn'
          go_wp2_with fail
          go_ret
          rw [List.take_length] at HO HN
          exact ⟨_, _, ret_slice HN.out, HO.out, HD.out⟩

theorem clone_allQ (A : Option Addr) (c : Nat) (ps : List Nat) (w : World) (hr : RQ w w.heap.size A ps) (hv : VS A c ps.length) (hl : ps.length ≤ 1000) :
    Calls Try.prog 134 #[.slice A ps.length c] w (MadeQ w w.heap.size ps) := by
  have qT : ∀ (w : World) (a : Option Addr) (n c n' c' : Nat), (binOp .eql 117 (.slice a n c) (.slice none n' c')).run Try.prog w = .ok (.bool a.isNone) w := fun w a n c n' c' => Lib.run_eql_slice_nil w _ _ a n c n' c' Try.underlying117
  rcases hv with ⟨rfl, rfl, h0⟩ | ⟨g, off, rfl, _, _⟩
  · obtain rfl : ps = [] := List.eq_nil_of_length_eq_zero h0
    clear hr h0 hl
    go_enter Try.func134, Try.ntmps134
    go_wp2_with fail
    go_ret
    exact ⟨none, 0, rfl, OwnQ.nil_ _ _, Below.refl _ _⟩
  · obtain ⟨i0, hi0, hz0, hz1, hz2⟩ := info_parts ptrInfo
    have HB : Hid (Below w.heap.size w (w.alloc (.cells #[] 71))) := (Below.refl _ _).alloc (Nat.le_refl _) _
    have HO : Hid (OwnQ (w.alloc (.cells #[] 71)) w.heap.size (some ⟨w.heap.size, 0, none⟩) 0 []) := OwnQ.made (Nat.le_refl _) #[] 0 rfl (Nat.zero_le _)
    have HR : Hid (RQ (w.alloc (.cells #[] 71)) w.heap.size (some ⟨g, off, none⟩) ps) := hr.below HB.out
    have HL : Hid (([] : List Nat).length + ps.length ≤ 4000000) := by rw [Hid, List.length_nil]; omega
    clear hr
    go_enter Try.func134, Try.ntmps134
    go_wp2_with (at_builtin; refine wpList_append_rq _ rfl _ _ _ rfl i0 Try.underlying117 hi0 hz0 hz1 hz2 w.heap.size (some ⟨w.heap.size, 0, none⟩) 0 0 [] rfl rfl HO.out _ _ _ _ ps rfl rfl HR.out HL.out HB.out.size ?_; intro A5 n5 c5 w5 hn5 hown5 hbw5; have HN5 := hid hn5; have HO5 := hid hown5; have HB5 := hid hbw5; clear hn5 hown5 hbw5)
    go_ret
    have e : n5 = ps.length := HN5.out
    subst e
    exact ⟨A5, c5, rfl, HO5.out, HB.out.trans HB5.out⟩
end Go.Proofs.Ytcjbjfhndjpmcaa
