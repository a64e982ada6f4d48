import Derived.Test.YtcjbjfhndjpmcaaPk04
import Derived.Laws.BytesString
import Derived.Test.YtcjbjfhndjpmcaaRows
import Derived.Test.YtcjbjfhndjpmcaaPk00
import Derived.WalkKit
import Derived.ProofKit
import Derived.OpenShut
import Derived.Carry
import Derived.JoinedCond
import Derived.Deep.Slices
import Derived.Deep.Fields
import Derived.ChangeSame
import Derived.Test.YtcjbjfhndjpmcaaPk06
import Derived.Test.YtcjbjfhndjpmcaaPk17
import Derived.Test.YtcjbjfhndjpmcaaPk19
import Derived.Test.YtcjbjfhndjpmcaaPk18
/-
  Marks: how the exact laws write into what they were given, and look whether it held.
  heldPairS at pairs that are marks.
-/
namespace Go.Proofs.Ytcjbjfhndjpmcaa
open Go.RowKit

/-- The digits of j, ahead of s. -/
def mtail : Nat → Nat → ByteArray → ByteArray
  | 0, _, s => s
  | f + 1, j, s => if j = 0 then s else mtail f (j / 10) (⟨#[48 + UInt8.ofNat (j % 10)]⟩ ++ s)
/-- What markText answers. -/
def mtxt (n : Nat) : ByteArray := if n = 0 then ⟨#[109, 48]⟩ else ⟨#[109]⟩ ++ mtail n n ⟨#[]⟩
theorem mtail_zero (f : Nat) (s : ByteArray) : mtail f 0 s = s := by cases f <;> rfl

theorem conv_one (W : World) (d : Int) :
    (convert 41 9 (.slice (some ⟨W.heap.size, 0, none⟩) 1 1)).run Try.prog (W.alloc (.cells #[.int .u8 d] 5)) = .ok (.string ⟨#[UInt8.ofNat d.toNat]⟩) (W.alloc (.cells #[.int .u8 d] 5)) := by
  rw [run_convert_bytes_string _ _ _ 5 _ _ _ Try.underlying41 Try.underlying5 Try.underlying9]
  have hb : (W.alloc (.cells #[.int .u8 d] 5)).heap[W.heap.size]? = some (.cells #[.int .u8 d] 5 (0, 0)) := heap_alloc_new W _
  have hf := run_firstCells_some (P := Try.prog) (W.alloc (.cells #[.int .u8 d] 5)) 1 1 ⟨W.heap.size, 0, none⟩ 1 1 [.int .u8 d] rfl (fun j u hj => by
    rw [Addr.add_lit, cell_of_row _ _ _ _ _ _ hb]
    cases j with
    | zero => simpa using hj
    | succ j => simp at hj)
  have hl : (loadCells ⟨W.heap.size, 0, none⟩ 1).run Try.prog (W.alloc (.cells #[.int .u8 d] 5)) = .ok ([d].map (Value.int .u8)).toArray (W.alloc (.cells #[.int .u8 d] 5)) := hf
  rw [run_bytesToString _ _ _ _ [d] hl]
  rfl

set_option maxHeartbeats 1000000 in
theorem markText_any (n : Nat) (w : World) (hn : n ≤ 100000000000000) :
    Calls Try.prog 66 #[.int .i64 n] w fun e w' => e = .returned (.string (mtxt n)) ∧ Below w.heap.size w w' := by
  by_cases h0 : n = 0
  · subst h0
    go_enter Try.func66, Try.ntmps66
    go_wp2_with fail
    go_ret
    exact ⟨rfl, Below.refl _ _⟩
  have HM : Hid (mtxt n = ⟨#[109]⟩ ++ mtail n n ⟨#[]⟩) := by simp [Hid, mtxt, h0]
  have hconv := conv_one
  have h1 : ¬ ((n : Int) ≤ 0) := by omega
  clear h0
  go_enter Try.func66, Try.ntmps66
  go_wp2_with fail
  go_loopw [0, 3] (fun q o wr => ∃ (j : Nat) (s : ByteArray) (f : Nat), j ≤ n ∧ s.size + j ≤ n ∧ j ≤ f ∧ q = .int .i64 j ∧ o = .string s ∧ Hid (mtail f j s = mtail n n ⟨#[]⟩) ∧ Below w.heap.size w wr) (fun q _ _ => (intOf q).toNat)
  case atStart => exact ⟨n, _, n, Nat.le_refl _, (by show 0 + n ≤ n; omega), Nat.le_refl _, rfl, rfl, rfl, Below.refl _ w⟩
  case round =>
    obtain ⟨j, s, f, hj, hs, hf, rfl, rfl, HT, hbw⟩ := hrel
    have HD := hid hbw
    clear hbw
    by_cases hlt : 0 < j
    · have hsz : 1 + s.size ≤ 100000000000001 := by omega
      have hd : (48 + (j : Int) % 10).toNat = 48 + j % 10 := by omega
      have HT2 : Hid (mtail (f - 1) (j / 10) (⟨#[48 + UInt8.ofNat (j % 10)]⟩ ++ s) = mtail n n ⟨#[]⟩) := by
        have h := HT.out
        obtain ⟨g, rfl⟩ : ∃ g, f = g + 1 := ⟨f - 1, by omega⟩
        rw [mtail, if_neg (by omega)] at h
        exact h
      go_wp2_with fail
      refine ⟨⟨j / 10, _, f - 1, by omega, ?_, by omega, by go_num, rfl, HT2, HD.out.alloc HD.out.size _⟩, ?_⟩
      · simp only [ByteArray.size_append]
        show 1 + s.size + j / 10 ≤ n
        omega
      · simp [intOf]
        omega
    · obtain rfl : j = 0 := by omega
      have hsz : 1 + s.size ≤ 100000000000001 := by omega
      have HE : Hid (s = mtail n n ⟨#[]⟩) := by
        have h := HT.out
        rw [mtail_zero] at h
        exact h
      go_wp2_with fail
      go_ret
      refine ⟨?_, HD.out⟩
      rw [HM.out, ← HE.out]
      rfl

/-- Pairs that are marks, from k on. -/
def marksL : Nat → Nat → PS
  | 0, _ => []
  | n + 1, k => (mtxt k, mtxt (k + 1)) :: marksL n (k + 2)
theorem marksL_len : ∀ n k : Nat, (marksL n k).length = n
  | 0, _ => rfl
  | n + 1, k => by simp [marksL, marksL_len n]
theorem marksL_get : ∀ (n k i : Nat) (h : i < (marksL n k).length), (marksL n k)[i] = (mtxt (k + 2 * i), mtxt (k + 2 * i + 1))
  | 0, _, _, h => by simp [marksL] at h
  | n + 1, k, 0, _ => rfl
  | n + 1, k, i + 1, h => by
    have := marksL_get n (k + 2) i (by simpa [marksL] using h)
    simp only [marksL, List.getElem_cons_succ, this]
    rw [show k + 2 * (i + 1) = k + 2 + 2 * i by omega]

theorem markText_at (a : Int) (n : Nat) (w : World) (ha : a = (n : Int)) (hn : n ≤ 100000000000000) :
    Calls Try.prog 66 #[.int .i64 a] w fun e w' => e = .returned (.string (mtxt n)) ∧ Below w.heap.size w w' := by
  subst ha
  exact markText_any n w hn

/-- A row of whose cells m are marked. -/
def Marked (wr : World) (B g c n k0 m : Nat) : Prop :=
  ∃ xs, wr.ownsRow B 57 2 (.slice (some ⟨g, 0, none⟩) n c) n xs ∧ ∀ j, j < m → j < n * 2 → xs[j]? = some (.string (mtxt (k0 + j)))
theorem Marked.grown {wr w' : World} {B g c n k0 m : Nat} (h : Marked wr B g c n k0 m) (hb : Below wr.heap.size wr w') : Marked w' B g c n k0 m := by
  obtain ⟨xs, ho, hx⟩ := h
  exact ⟨xs, ho.kept (below_grown hb) (.inr (by simp [Value.ownBlock])), hx⟩
theorem Marked.cell {wr : World} {B g c n k0 m : Nat} (h : Marked wr B g c n k0 m) {j : Nat} (hj : j < n * 2) : ∃ u, wr.cell? ⟨g, j, none⟩ = some u := by
  obtain ⟨xs, ho, hx⟩ := h
  have hl := ho.1
  exact ⟨_, (ho.cellAt j hj).trans (List.getElem?_eq_getElem (by omega))⟩
theorem Marked.frozen {wr : World} {B g c n k0 m : Nat} (h : Marked wr B g c n k0 m) (j : Nat) : wr.frozen? ⟨g, j, none⟩ = false := by
  obtain ⟨xs, ho, hx⟩ := h
  exact ho.frozenAt j
theorem Marked.store {wr : World} {B g c n k0 m : Nat} (h : Marked wr B g c n k0 m) (hm : m < n * 2) : Marked (wr.setCell ⟨g, m, none⟩ (.string (mtxt (k0 + m)))) B g c n k0 (m + 1) := by
  obtain ⟨xs, ho, hx⟩ := h
  have hl := ho.1
  refine ⟨_, (ho.stored m (.string (mtxt (k0 + m)))).1, fun j hj hn => ?_⟩
  by_cases e : j = m
  · subst e
    rw [List.getElem?_set_self (by omega)]
  · rw [List.getElem?_set_ne (by omega)]
    exact hx j (by omega) hn
theorem Marked.end_ {wr : World} {B g c n k0 : Nat} (h : Marked wr B g c n k0 (n * 2)) : wr.ownsRow B 57 2 (.slice (some ⟨g, 0, none⟩) n c) n (pcells (marksL n k0)) := by
  obtain ⟨xs, ho, hx⟩ := h
  have hl := ho.1
  have : xs = pcells (marksL n k0) := pcells_ext _ _ (by rw [hl, marksL_len]) fun i p hp => by
    obtain ⟨hi, rfl⟩ := List.getElem?_eq_some_iff.1 hp
    rw [marksL_get]
    rw [marksL_len] at hi
    refine ⟨?_, ?_⟩
    · rw [hx _ (by omega) (by omega), show k0 + i * 2 = k0 + 2 * i by omega]
    · rw [hx _ (by omega) (by omega), show k0 + (i * 2 + 1) = k0 + 2 * i + 1 by omega]
  rwa [this] at ho
theorem grown_trans {a b c : World} {r : Option Nat} (h : a.grownBy b r) (h' : b.grownBy c r) : a.grownBy c r :=
  ⟨h'.os.trans h.os, h'.tape.trans h.tape, h'.output.trans h.output, Nat.le_trans h.size h'.size, fun k hk hr => (h'.block k (Nat.lt_of_lt_of_le hk h.size) hr).trans (h.block k hk hr)⟩
theorem grown_below {b c : World} {r : Option Nat} (h : Below b.heap.size b c) : b.grownBy c r := ⟨h.os, h.tape, h.output, h.size, fun k hk _ => h.block k hk⟩
theorem grown_set (w : World) (g j : Nat) (u : Value) : w.grownBy (w.setCell ⟨g, j, none⟩ u) (some g) :=
  ⟨rfl, rfl, rfl, by simp, fun k _ hk => heap_setCell_other w ⟨g, j, none⟩ k u (fun e => hk (by simp [e]))⟩

/-- What markPairS leaves. -/
def MarkPost (B : Nat) (A : Option Addr) (c n k : Nat) (w : World) (e : Ending) (w' : World) : Prop :=
  e = .returned (.int .i64 ((k + 2 * n : Nat) : Int)) ∧ w'.ownsRow B 57 2 (.slice A n c) n (pcells (marksL n k)) ∧ w.grownBy w' (Value.ownBlock (.slice A n c))

set_option maxHeartbeats 1000000 in
theorem markPairS_any (B : Nat) (A : Option Addr) (c : Nat) (ps : PS) (k : Nat) (w : World) (ho : OwnP w B A c ps) (hn : ps.length ≤ 2000000) (hk : k ≤ 10000000000000) :
    Calls Try.prog 19 #[.slice A ps.length c, .int .i64 k] w (MarkPost B A c ps.length k w) := by
  rcases ho.2 with ⟨hv, h0⟩ | ⟨g, cap, cur, hv, hg, hh, hnc, _⟩
  · injection hv with e1 e2 e3
    subst e1 e3
    obtain rfl : ps = [] := List.eq_nil_of_length_eq_zero h0
    clear h0 e2 ho
    go_enter Try.func19, Try.ntmps19
    go_wp2_with fail
    go_loopw [1, 5] (fun q i wr => i = .int .i64 0 ∧ q = .int .i64 k ∧ wr = w) (fun _ _ _ => 0)
    case atStart => exact ⟨rfl, rfl, rfl⟩
    case round =>
      obtain ⟨rfl, rfl, rfl⟩ := hrel
      go_wp2_with fail
      go_ret
      exact ⟨rfl, World.ownsRow_nil _ _ _ _, ⟨rfl, rfl, rfl, Nat.le_refl _, fun _ _ _ => rfl⟩⟩
  · injection hv with e1 e2 e3
    subst e1 e3
    have hM : Marked w B g c ps.length k 0 := ⟨_, ho, fun j hj => absurd hj (by omega)⟩
    have HM := hid hM
    clear hM ho hh e2 hg
    generalize ps.length = n at *
    go_enter Try.func19, Try.ntmps19
    go_wp2_with fail
    go_loopw [1, 5] (fun q i wr => ∃ j m : Nat, j ≤ n ∧ m = k + 2 * j ∧ i = .int .i64 j ∧ q = .int .i64 m ∧ Marked wr B g c n k (j * 2) ∧ w.grownBy wr (some g)) (fun _ i _ => n - (intOf i).toNat)
    case atStart => exact ⟨0, k, Nat.zero_le _, rfl, rfl, rfl, HM.out, ⟨rfl, rfl, rfl, Nat.le_refl _, fun _ _ _ => rfl⟩⟩
    case round =>
      obtain ⟨j, m, hj, hm, rfl, rfl, hmk, hgr⟩ := hrel
      have HK := hid hmk
      have HG := hid hgr
      have HE := hid hm
      have hmb : m ≤ 10000004001000 := by omega
      clear hmk hgr hm
      by_cases hlt : j < n
      · go_wp2_with (first
          | (go_at_call 66; (with_reducible refine (markText_at _ m _ rfl (by omega)).mono ?_); rintro e w1 ⟨rfl, hw1⟩; have HK1 := hid (HK.out.grown hw1); have f1 := HK1.out.frozen (j * 2); obtain ⟨u1, hu1⟩ := HK1.out.cell (j := j * 2) (by omega); have HG1 := hid (grown_trans HG.out (grown_below hw1)); clear hw1)
          | (go_at_call 66; refine (markText_at _ (m + 1) _ (by omega) (by omega)).mono ?_; rintro e w2 ⟨rfl, hw2⟩; have hst := HK1.out.store (show j * 2 < n * 2 by omega); rw [show k + j * 2 = m from by have := HE.out; omega] at hst; have HK2 := hid (hst.grown hw2); have HG2 := hid (grown_trans (grown_trans HG1.out (grown_set w1 g (j * 2) _)) (grown_below hw2)); have f2 := HK2.out.frozen (j * 2 + 1); obtain ⟨u2, hu2⟩ := HK2.out.cell (j := j * 2 + 1) (by omega); clear hw2 hst))
        have hst := HK2.out.store (show j * 2 + 1 < n * 2 by omega)
        rw [show k + (j * 2 + 1) = m + 1 from by have := HE.out; omega] at hst
        refine ⟨⟨j + 1, m + 2, by omega, by have := HE.out; omega, by go_num, by go_num, by rw [show (j + 1) * 2 = j * 2 + 1 + 1 by omega]; exact hst, grown_trans HG2.out (grown_set w2 g (j * 2 + 1) _)⟩, by simp [intOf]; omega⟩
      · obtain rfl : j = n := by omega
        go_wp2_with fail
        go_ret
        exact ⟨ret_int (by have := HE.out; omega), HK.out.end_, HG.out⟩
end Go.Proofs.Ytcjbjfhndjpmcaa
namespace Go.Proofs.Ytcjbjfhndjpmcaa
open Go.RowKit

set_option maxHeartbeats 1000000 in
theorem heldPairS_any (A : Option Addr) (c n k : Nat) (w : World) (hr : RP w w.heap.size A (marksL n k)) (hn : n ≤ 2000000) (hk : k ≤ 10000000000000) :
    Calls Try.prog 68 #[.slice A n c, .int .i64 k] w fun e w' => e = .returned (.int .i64 ((k + 2 * n : Nat) : Int)) ∧ Below w.heap.size w w' := by
  have HR := hid hr
  clear hr
  go_enter Try.func68, Try.ntmps68
  go_wp2_with fail
  go_loopw [1, 5] (fun q i wr => ∃ j m : Nat, j ≤ n ∧ m = k + 2 * j ∧ i = .int .i64 j ∧ q = .int .i64 m ∧ Below w.heap.size w wr) (fun _ i _ => n - (intOf i).toNat)
  case atStart => exact ⟨0, k, Nat.zero_le _, rfl, rfl, rfl, Below.refl _ _⟩
  case round =>
    obtain ⟨j, m, hj, hm, rfl, rfl, hbw⟩ := hrel
    have hmb : m ≤ 10000004001000 := by omega
    by_cases hlt : j < n
    · obtain ⟨b, off, rfl, hb, hc1, hc2⟩ := (HR.out.below hbw).at_ (k := j) (by rw [marksL_len]; exact hlt)
      rw [marksL_get] at hc1 hc2
      simp only [← hm] at hc1 hc2
      have HD := hid hbw
      have HE := hid hm
      have HW2 : Hid (∀ w2 : World, Below w.heap.size w w2 → w2.cell? ⟨b, off + j * 2 + 1, none⟩ = some (.string (mtxt (m + 1)))) := fun w2 h2 => (h2.cell (p := ⟨b, off + j * 2 + 1, none⟩) hb).trans ((hbw.cell (p := ⟨b, off + j * 2 + 1, none⟩) hb).symm.trans hc2)
      clear hbw hm hc2
      have e5 : (0 : Int) ≤ (j : Int) := by omega
      have e6 : (j : Int) < (n : Int) := by omega
      have hself : ((mtxt m).toList == (mtxt m).toList) = true := by simp
      have hself2 : ((mtxt (m + 1)).toList == (mtxt (m + 1)).toList) = true := by simp
      go_wp2_with fail
      go_region_held3 (fun w' => w'.cell? ⟨b, off + j * 2, none⟩ = some (.string (mtxt m))) (go_keep)
        (first | (go_at_call 66; refine (markText_at _ m _ rfl (by omega)).mono ?_; rintro e w1 ⟨rfl, hw1⟩; have hk1 : w1.cell? ⟨b, off + j * 2, none⟩ = some (.string (mtxt m)) := (hw1.cell (p := ⟨b, off + j * 2, none⟩) (by have := HD.out.size; simp; omega)).trans (by first | exact hc1 | go_simp); have HB1 := hid (HD.out.drew.trans (hw1.mono HD.out.size)); clear hw1))
      have hc3 := HW2.out w1 HB1.out
      clear hk1 hc1
      go_wp2_with fail
      go_region_held3 (fun w' => w'.cell? ⟨b, off + j * 2 + 1, none⟩ = some (.string (mtxt (m + 1)))) (go_keep)
        (first | (go_at_call 66; refine (markText_at _ (m + 1) _ (by omega) (by omega)).mono ?_; rintro e w3 ⟨rfl, hw3⟩; have hk3 : w3.cell? ⟨b, off + j * 2 + 1, none⟩ = some (.string (mtxt (m + 1))) := (hw3.cell (p := ⟨b, off + j * 2 + 1, none⟩) (by have := HB1.out.size; simp; omega)).trans (by first | exact hc3 | go_simp); have HB3 := hid (HB1.out.drew.trans (hw3.mono HB1.out.size)); clear hw3))
      clear hk3 hc3
      go_wp2_with fail
      refine ⟨⟨j + 1, m + 2, by omega, by have := HE.out; omega, by go_num, by go_num, HB3.out⟩, by simp [intOf]; omega⟩
    · obtain rfl : j = n := by omega
      have HE := hid hm
      have HD := hid hbw
      clear hbw hm
      go_wp2_with fail
      go_ret
      exact ⟨ret_int (by have := HE.out; omega), HD.out⟩
end Go.Proofs.Ytcjbjfhndjpmcaa
/-
  How a law's row closes from a walk that keeps all old memory.
-/
namespace Go.Proofs.Ytcjbjfhndjpmcaa
open Go.ChangeShapes Go.WideShapes Go.ChangeAt Go.RowKit

theorem own : ownKnob Try.prog.godebug = none := by kernel_rfl
theorem laidOut : laidOutB Try.prog = true := by kernel_rfl

theorem below_trodAll {H : Type} {enc : TypeId × Value → H} {P : Program} (hl : laidOutB P = true) {W W' : World} (hb : Below W.heap.size W W') :
    ∀ (ts : List TypeId) (vs : List Value) (ds : List (DataW H)) (ps : List MemPlace), (∀ t ∈ ts, P.readableRec t = true ∧ t < P.types.size) → (∀ x ∈ ps, x.block < W.heap.size) →
      DataW.TrodAll enc P W 0 (fun _ => true) true ts vs ds ps → DataW.TrodAll enc P W' 0 (fun b => decide (b < W.heap.size)) true ts vs ds ps
  | [], _, _, _, _, _, h => by
    obtain ⟨rfl, rfl, rfl⟩ := trodAll_nil h
    exact trodAll_mk0
  | t :: ts, _, _, _, hr, hp, h => by
    obtain ⟨v, vs1, d, ds1, a, b, rfl, rfl, rfl, h1, h2⟩ := trodAll_cons h
    have r := hr t (by simp)
    exact trodAll_cons_mk (Below.trod hl r.1 r.2 h1 hb fun x hx => hp x (by simp [hx]))
      (below_trodAll hl hb ts _ _ _ (fun t ht => hr t (by simp [ht])) (fun x hx => hp x (by simp [hx])) h2)

/-- A law of one bool, without package variables: it answered true and turned nothing that was there. -/
theorem law_post {H : Type} {enc : TypeId × Value → H} {P : Program} {f : Func} {s : ChangeSpec} {apart fresh : Bool} {W W' : World} {args : Array Value} {ds gs : List (DataW H)} {before : List MemPlace} {tb : TypeId}
    (hl : laidOutB P = true) (hr0 : (f.params.toList.all fun t => P.readableRec t && decide (t < P.types.size)) = true) (hvars : s.vars = [])
    (hW : DataW.Whole enc P f.params.toList s.vars apart W args.toList ds gs before)
    (htb : P.underlying tb = some .bool) (hres : f.resultTypes = #[tb])
    (hfn : ∀ gs', gs' = [] → s.fn H (ds ++ gs') = { results := [.lit (.bool true)], args := ds })
    (hb : Below W.heap.size W W') :
    s.post enc P f apart fresh false false W args (.bool true) W' := by
  have hr : ∀ t ∈ f.params.toList, P.readableRec t = true ∧ t < P.types.size := fun t ht => by simpa using List.all_eq_true.1 hr0 t ht
  have hlt : ∀ p ∈ before, p.block < W.heap.size := fun p hp => by simpa using hW.lt p hp
  have hW0 := hW
  obtain ⟨p, q, hA, hV, rfl, hfz, hnd⟩ := hW
  rw [hvars] at hV
  obtain ⟨rfl, rfl⟩ := trodVars_none hV
  have hfn' := hfn [] rfl
  refine ⟨ds, [], _, [], p, [], hW0, ?_, ?_, ?_, hb.frame _, fun h => by cases h⟩
  · rw [hfn', hres]
    exact trodAll_cons_mk (shut_bool htb _) trodAll_mk0
  · rw [hfn']
    exact below_trodAll hl hb _ _ _ _ hr (fun x hx => hlt x (by simp [hx])) hA
  · rw [hfn', hvars]
    rfl
end Go.Proofs.Ytcjbjfhndjpmcaa
/-
  A slice of pairs that came in, opened.
-/
namespace Go.Proofs.Ytcjbjfhndjpmcaa
open Go.ChangeShapes Go.WideShapes Go.ChangeAt Go.RowKit Go.Deep

theorem lawPairCells : Try.prog.cellsOf 62 = 2 := by kernel_rfl
theorem stringCells : Try.prog.cellsOf 9 = 1 := by kernel_rfl

set_option maxRecDepth 100000 in
theorem open_pairs {H : Type} {enc : TypeId × Value → H} {W : World} {base : Nat} {v : Value} {d : DataW H} {p : List MemPlace}
    (hval : Value.okWide Try.prog W .any base 22 v) (h : DataW.Trod enc Try.prog W 0 (fun _ => true) true 22 v d p) :
    ∃ (A : Option Addr) (c : Nat) (ps : PS), v = .slice A ps.length c ∧ RP W W.heap.size A ps ∧ Fits ps ∧ ps.length ≤ maxLen := by
  obtain ⟨a0, len0, cap0, rfl⟩ := okWide_slice Try.underlying22 hval
  obtain ⟨fuel, hf⟩ := h
  rcases open_slice Try.underlying22 (cs := [.slice a0 len0 cap0]) (by simpa [Value.cells] using hf) with ⟨h0, _⟩ | ⟨a, len, cap, m, n, D, Pl, h0, _, hl, hm, hmm, _, hi⟩
  · simp only [List.cons.injEq, and_true] at h0
    refine ⟨none, 0, [], h0, .inl rfl, fun p hp => by simp at hp, Nat.zero_le _⟩
  · simp only [List.cons.injEq, and_true] at h0
    have hcell : ∀ i, i < len → ∃ p : BB, W.cell? (a.add (i * 2)) = some (.string p.1) ∧ W.cell? (a.add (i * 2 + 1)) = some (.string p.2) ∧ p.1.size ≤ maxLen ∧ p.2.size ≤ maxLen := by
      intro i hlt
      obtain ⟨cs, hc, ht⟩ := hi i (by rw [hmm, if_pos rfl]; omega)
      rw [lawPairCells] at hc
      obtain ⟨_, hcl, hat⟩ := World.cells?_some hc
      obtain ⟨y0, y1, n', _, _, h1, h2⟩ := trod_struct2 Try.underlying62 ht
      match cs, hcl with
      | [c0, c1], _ =>
        simp only [stringCells] at h1 h2
        obtain ⟨s0, e0, _, z0⟩ := DataW.trod_string Try.underlying9 h1
        obtain ⟨s1, e1, _, z1⟩ := DataW.trod_string Try.underlying9 h2
        simp at e0 e1
        subst e0 e1
        refine ⟨(s0, s1), ?_, ?_, z0, z1⟩
        · have := hat 0 (by omega)
          simpa [Go.Deep.add_add] using this
        · have := hat 1 (by omega)
          simpa [Go.Deep.add_add] using this
    obtain ⟨f, hf'⟩ := choose_lt hcell
    refine ⟨some a, cap, (List.range len).map f, by simpa using h0, ?_, ?_, ?_⟩
    · by_cases h0 : len = 0
      · left
        simp [h0]
      · right
        obtain ⟨b, off, spot⟩ := a
        have h00 := (hf' 0 (by omega)).1
        have hspot : spot = none := by simpa [Addr.add] using World.cell?_spot h00
        subst hspot
        refine ⟨b, off, rfl, ?_, fun i p hp => ?_⟩
        · have := World.block_lt_of_cell? W _ h00
          simpa [Addr.add] using this
        · have hlt : i < len := by have := (List.getElem?_eq_some_iff.1 hp).1; simpa using this
          have hp' : f i = p := by simpa [hlt] using hp
          obtain ⟨h1, h2, _⟩ := hf' i hlt
          rw [Addr.add_lit] at h1 h2
          subst hp'
          exact ⟨h1, by rw [Nat.add_assoc]; exact h2⟩
    · intro p hp
      obtain ⟨i, hi', rfl⟩ := List.mem_map.1 hp
      have := hf' i (by simpa using hi')
      exact ⟨this.2.2.1, this.2.2.2⟩
    · simp
      omega
end Go.Proofs.Ytcjbjfhndjpmcaa
/-
  What the exact laws of functions that make pairs go through.
-/
namespace Go.Proofs.Ytcjbjfhndjpmcaa
open Go.RowKit

theorem RP.grown_hi {w w' : World} {B : Nat} {A : Option Addr} {ps : PS} {row : Option Nat} (h : RP w B A ps) (hg : w.grownBy w' row) (hB : B ≤ w.heap.size) (hr : ∀ k, row = some k → B ≤ k) : RP w' B A ps :=
  h.keep fun p hp => World.cell?_of_block (hg.block p.block (by omega) (fun e => by have := hr _ e.symm; omega))
theorem OwnP.grown_lo {w w' : World} {B c : Nat} {A : Option Addr} {ps : PS} {row : Option Nat} (h : OwnP w B A c ps) (hg : w.grownBy w' row) (hr : ∀ k, row = some k → k < B) : OwnP w' B A c ps := by
  refine World.ownsRow.kept h hg ?_
  cases hv : Value.ownBlock (.slice A ps.length c) with
  | none => exact .inl rfl
  | some k =>
    right
    intro e
    have h1 := (h.size k hv).1
    have h2 := hr k e.symm
    omega
theorem OwnP.keepG {w w' : World} {B c : Nat} {A : Option Addr} {ps : PS} {row : Option Nat} (h : OwnP w B A c ps) (hg : w.grownBy w' row) (hne : ∀ k, Value.ownBlock (.slice A ps.length c) = some k → some k ≠ row) : OwnP w' B A c ps := by
  refine World.ownsRow.kept h hg ?_
  cases hv : Value.ownBlock (.slice A ps.length c) with
  | none => exact .inl rfl
  | some k => exact .inr (hne k hv)
end Go.Proofs.Ytcjbjfhndjpmcaa
/-
  A map behind changes, in both; Changed.
-/
namespace Go.Proofs.Ytcjbjfhndjpmcaa
open Go.RowKit

theorem spec_l1Copy (A : Option Addr) (c : Nat) (ps : PS) (w : World) (hr : RP w w.heap.size A ps) (hn : ps.length ≤ 1048576) :
    Calls Try.prog 106 #[.slice A ps.length c] w (Made w w.heap.size ps) := by
  obtain ⟨i0, hi0, hz0, hz1, hz2⟩ := info_parts pairInfo
  have HR := hid ((hr.below ((Below.refl _ _).alloc (Nat.le_refl _) (.cells #[] 57))).more (B' := (w.alloc (.cells #[] 57)).heap.size) (by simp))
  have HO := hid (OwnP.made (w := w) (B := w.heap.size) (Nat.le_refl _) #[] 0 rfl (by unfold maxLen; omega))
  have HL : Hid (([] : PS).length + ps.length ≤ 4000000) := by simp [Hid]; omega
  have HB : Hid (Below w.heap.size w (w.alloc (.cells #[] 57))) := (Below.refl _ _).alloc (Nat.le_refl _) _
  clear hr
  go_enter Try.func106, Try.ntmps106
  go_wp2_with (at_builtin; refine wpList_append_rp _ rfl _ _ _ rfl i0 Try.underlying27 hi0 hz0 hz1 hz2 w.heap.size (some ⟨w.heap.size, 0, none⟩) 0 0 [] rfl rfl HO.out _ _ _ _ ps rfl rfl HR.out HL.out HB.out.size ?_; intro A5 n5 c5 w5 hn5 hown5 hbw5; have HN5 := hid hn5; have HO5 := hid hown5; have HB5 := hid hbw5; clear hn5 hown5 hbw5)
  go_ret
  have e : n5 = ps.length := HN5.out
  subst e
  exact ⟨A5, c5, rfl, HO5.out, HB.out.trans HB5.out⟩

/-- The program's Clone, nil let in. -/
theorem clone_all (A : Option Addr) (c : Nat) (ps : PS) (w : World) (hr : RP w w.heap.size A ps) (hv : VS A c ps.length) (hl : ps.length ≤ 1000) :
    Calls Try.prog 111 #[.slice A ps.length c] w (Made w w.heap.size ps) := by
  rcases hv with ⟨rfl, rfl, h0⟩ | ⟨g, off, rfl, _, _⟩
  · obtain rfl : ps = [] := List.eq_nil_of_length_eq_zero h0
    have qT : ∀ (w : World) (a : Option Addr) (n c n' c' : Nat), (binOp .eql 27 (.slice a n c) (.slice none n' c')).run Try.prog w = .ok (.bool a.isNone) w := fun w a n c n' c' => Lib.run_eql_slice_nil w _ _ a n c n' c' Try.underlying27
    clear hr h0 hl
    go_enter Try.func111, Try.ntmps111
    go_wp2_with fail
    go_ret
    exact ⟨none, 0, rfl, OwnP.nil_ _ _, Below.refl _ _⟩
  · exact clone_any g off ps.length c ps w hr rfl hl

/-- The map behind them, in a row of the call's own. -/
def Behind (w : World) (B : Nat) (L : PS) (e : Ending) (w' : World) : Prop := ∃ A c, e = .returned (.slice A L.length c) ∧ OwnP w' B A c L ∧ Below B w w'

theorem stepL_gone {m : PS} {x : CD} (h : x.2.2 = true) : stepL m x = dropL m x.1 := by simp [stepL, h]
theorem stepL_put {m : PS} {x : CD} (h : x.2.2 = false) : stepL m x = putL m x.1 x.2.1 := by simp [stepL, h]

theorem changedB_m {m : PS} {ls : CS} (h : mapB m = false) : changedB m ls = false := by simp [changedB, h]
theorem changedB_l {m : PS} {ls : CS} (h : deltaB ls = false) : changedB m ls = false := by simp [changedB, h]
theorem changedB_n {m : PS} {ls : CS} (h : ¬ (applyL m ls).length ≤ 60) : changedB m ls = false := by simp [changedB, h]
theorem changedB_y {m : PS} {ls : CS} (h1 : mapB m = true) (h2 : deltaB ls = true) (h : (applyL m ls).length ≤ 60) : changedB m ls = true := by simp [changedB, h1, h2, h]
theorem changedL_y {m : PS} {ls : CS} (h : changedB m ls = true) : changedL m ls = applyL m ls := by simp [changedL, h]
theorem changedL_n {m : PS} {ls : CS} (h : changedB m ls = false) : changedL m ls = [] := by simp [changedL, h]
theorem fits_apply {m : PS} {ls : CS} (h1 : mapB m = true) (h2 : deltaB ls = true) : Fits (applyL m ls) := by
  intro p hp
  have := applyL_right (mapB_iff.1 h1).2.1 (deltaB_iff.1 h2).2.1 p hp
  simp only [pairB, Bool.and_eq_true] at this
  have a := keyB_small this.1
  have b := keyB_small this.2
  unfold maxLen
  omega

end Go.Proofs.Ytcjbjfhndjpmcaa
