import Derived.Test.YtcjbjfhndjpmcaaPk24
import Derived.Deep.RegionHeld3
import Derived.Deep.CutRange
import Derived.Lib.QuietBelow
/-
  Two neighbours given anew what they have together: splitAt, share, halve.
-/
namespace Go.Proofs.Ytcjbjfhndjpmcaa
open Go.RowKit

/-! ### share -/
theorem RSQ.more {w : World} {B B' : Nat} {A : Option Addr} {L : List SQ} (h : RSQ w B A L) (hB : B ≤ B') : RSQ w B' A L := by
  rcases h with rfl | ⟨b, off, e, hb, hc⟩
  · exact .inl rfl
  · exact .inr ⟨b, off, e, by omega, fun i s hs => ⟨(hc i s hs).1, (hc i s hs).2.more hB⟩⟩
theorem concat2P (w2 : World) (T' : TypeId) (A1 A3 : Option Addr) (c1 c3 n1 n3 : Nat) (l1 l3 L : PS) (h1 : RP w2 w2.heap.size A1 l1) (h3 : RP w2 w2.heap.size A3 l3) (e1 : n1 = l1.length) (e3 : n3 = l3.length) (hl : l1.length + l3.length ≤ 1000) (hL : L = l1 ++ l3) :
    Calls Try.prog 161 #[.slice (some ⟨w2.heap.size, 0, none⟩) 2 2] (w2.alloc (.cells #[.slice A1 n1 c1, .slice A3 n3 c3] T')).drew (Joined w2 L) := by
  have hr := RS.two w2 w2.heap.size T' A1 A3 c1 c3 n1 n3 l1 l3 h1 h3 e1 e3 (Nat.le_refl _)
  have e : List.flatMap SE.ps [⟨A1, c1, l1⟩, ⟨A3, c3, l3⟩] = L := by rw [hL]; simp
  have hb : Below w2.heap.size w2 (w2.alloc (.cells #[.slice A1 n1 c1, .slice A3 n3 c3] T')).drew := ((Below.refl _ _).alloc (Nat.le_refl _) _).drew
  refine (concat_anyP _ 2 [⟨A1, c1, l1⟩, ⟨A3, c3, l3⟩] _ (RS.more (w := (w2.alloc (.cells #[.slice A1 n1 c1, .slice A3 n3 c3] T')).drew) hr (by simp)) (by rw [totL, e, hL]; simp; omega) (by simp)).mono ?_
  rintro x w' ⟨A, c, rfl, ho, hw⟩
  rw [e] at ho ⊢
  exact ⟨A, c, rfl, ho.mono hb.size, hb.trans (hw.mono hb.size)⟩

theorem Row2.of_heap {w : World} {g : Nat} {t : TypeId} {a b : Value} (h : w.heap[g]? = some (.cells #[a, b] t (0, 0))) : Row2 w g t a b :=
  ⟨rfl, .inr ⟨g, 2, #[a, b], rfl, Nat.le_refl _, h, Nat.le_refl _, by unfold maxLen; omega, rfl, rfl⟩⟩
theorem Row2.other' {w : World} {g : Nat} {t : TypeId} {a b : Value} (h : Row2 w g t a b) {g' : Nat} (hne : g ≠ g') (j : Nat) (v : Value) : Row2 (w.setCell ⟨g', j, none⟩ v) g t a b :=
  Row2.of_heap ((Below.heap_setCell _ _ _ _ hne).trans h.heap)
/-- Behind the first half: the pairs lie anew. -/
def HalfA (w : World) (g h : Nat) (va vb : Value) (a b : PS) (wc : World) : Prop := ∃ A1 m1 c1 A2 m2 c2, Hid (m1 = a.length) ∧ Hid (m2 = b.length) ∧ OwnP wc w.heap.size A1 c1 a ∧ OwnP wc w.heap.size A2 c2 b ∧ (∀ k, Value.ownBlock (.slice A1 a.length c1) = some k → Value.ownBlock (.slice A2 b.length c2) ≠ some k) ∧
  Row2 wc g 121 (.slice A1 m1 c1) va ∧ Row2 wc h 121 (.slice A2 m2 c2) vb ∧ Mod (fun b => b = g ∨ b = h) w wc
/-- Behind the other half: the kids, too. -/
def HalfB (w4 : World) (g h : Nat) (va vb : Value) (a b : List Nat) (wc : World) : Prop := ∃ K1 m1 c1 K2 m2 c2, Hid (m1 = a.length) ∧ Hid (m2 = b.length) ∧ OwnQ wc w4.heap.size K1 c1 a ∧ OwnQ wc w4.heap.size K2 c2 b ∧ (∀ k, Value.ownBlock (.slice K1 a.length c1) = some k → Value.ownBlock (.slice K2 b.length c2) ≠ some k) ∧
  Row2 wc g 121 va (.slice K1 m1 c1) ∧ Row2 wc h 121 vb (.slice K2 m2 c2) ∧ Mod (fun b => b = g ∨ b = h) w4 wc
theorem ownp_set {w : World} {B c g : Nat} {A : Option Addr} {ps : PS} (h : OwnP w B A c ps) (hg : g < B) (j : Nat) (v : Value) : OwnP (w.setCell ⟨g, j, none⟩ v) B A c ps := own_set' h hg v
theorem ownq_set {w : World} {B c g : Nat} {A : Option Addr} {ps : List Nat} (h : OwnQ w B A c ps) (hg : g < B) (j : Nat) (v : Value) : OwnQ (w.setCell ⟨g, j, none⟩ v) B A c ps := own_set' h hg v
theorem RSQ.two (w : World) (B : Nat) (T' : TypeId) (A1 A3 : Option Addr) (c1 c3 n1 n3 : Nat) (l1 l3 : List Nat) (h1 : RQ w B A1 l1) (h3 : RQ w B A3 l3) (e1 : n1 = l1.length) (e3 : n3 = l3.length) (hB : B ≤ w.heap.size) :
    RSQ (w.alloc (.cells #[.slice A1 n1 c1, .slice A3 n3 c3] T')) (w.heap.size + 1) (some ⟨w.heap.size, 0, none⟩) [⟨A1, c1, l1⟩, ⟨A3, c3, l3⟩] := by
  subst e1 e3
  have b1 : Below w.heap.size w (w.alloc (.cells #[.slice A1 l1.length c1, .slice A3 l3.length c3] T')) := (Below.refl _ _).alloc (Nat.le_refl _) _
  have hb : (w.alloc (.cells #[.slice A1 l1.length c1, .slice A3 l3.length c3] T')).heap[w.heap.size]? = some (.cells #[.slice A1 l1.length c1, .slice A3 l3.length c3] T' (0, 0)) := heap_alloc_new w _
  refine .inr ⟨w.heap.size, 0, rfl, by omega, fun i s hs => ?_⟩
  match i, hs with
  | 0, hs =>
    simp only [List.getElem?_cons_zero, Option.some.injEq] at hs
    subst hs
    exact ⟨by rw [cell_of_row _ _ _ _ _ _ hb]; rfl, ((h1.more hB).below b1).more (by omega)⟩
  | 1, hs =>
    simp only [List.getElem?_cons_succ, List.getElem?_cons_zero, Option.some.injEq] at hs
    subst hs
    exact ⟨by rw [cell_of_row _ _ _ _ _ _ hb]; rfl, ((h3.more hB).below b1).more (by omega)⟩
  | i + 2, hs => simp at hs
def JoinedQ (w2 : World) (L : List Nat) (e : Ending) (w' : World) : Prop := ∃ A c, e = .returned (.slice A L.length c) ∧ OwnQ w' w2.heap.size A c L ∧ Below w2.heap.size w2 w'
theorem concat2Q (w2 : World) (T' : TypeId) (A1 A3 : Option Addr) (c1 c3 n1 n3 : Nat) (l1 l3 L : List Nat) (h1 : RQ w2 w2.heap.size A1 l1) (h3 : RQ w2 w2.heap.size A3 l3) (e1 : n1 = l1.length) (e3 : n3 = l3.length) (hl : l1.length + l3.length ≤ 1000) (hL : L = l1 ++ l3) :
    Calls Try.prog 163 #[.slice (some ⟨w2.heap.size, 0, none⟩) 2 2] (w2.alloc (.cells #[.slice A1 n1 c1, .slice A3 n3 c3] T')).drew (JoinedQ w2 L) := by
  have hr := RSQ.two w2 w2.heap.size T' A1 A3 c1 c3 n1 n3 l1 l3 h1 h3 e1 e3 (Nat.le_refl _)
  have e : List.flatMap SQ.gs [⟨A1, c1, l1⟩, ⟨A3, c3, l3⟩] = L := by rw [hL]; simp
  have hb : Below w2.heap.size w2 (w2.alloc (.cells #[.slice A1 n1 c1, .slice A3 n3 c3] T')).drew := ((Below.refl _ _).alloc (Nat.le_refl _) _).drew
  refine (concat_anyQ _ 2 [⟨A1, c1, l1⟩, ⟨A3, c3, l3⟩] _ (RSQ.more (w := (w2.alloc (.cells #[.slice A1 n1 c1, .slice A3 n3 c3] T')).drew) hr (by simp)) (by rw [totQ, e, hL]; simp; omega) (by simp)).mono ?_
  rintro x w' ⟨A, c, rfl, ho, hw⟩
  rw [e] at ho ⊢
  exact ⟨A, c, rfl, ho.mono hb.size, hb.trans (hw.mono hb.size)⟩
def Shared (w : World) (R : Nat → Prop) (x y : OH) (n : Nat) (e : Ending) (w' : World) : Prop :=
  e = .returned (.tuple #[]) ∧ ∃ (R' : Nat → Prop) (x' y' : OH), x'.g = x.g ∧ y'.g = y.g ∧ x'.t = shareA x.t y.t n ∧ y'.t = shareB x.t y.t n ∧ Step w R [x, y] w' R' [x', y']

theorem share_end {w w4 w7 : World} {R : Nat → Prop} {x y : OH} {n c d c' d' m1 c1 m2 c2 : Nat} {pa pb L : PS} {ka kb : List BT} {A K A' K' A1 A2 : Option Addr} {La Lb : List OH} {GL : List Nat}
    (hA : NodeA w R x.g A c pa K d La) (hB : NodeA w R y.g A' c' pb K' d' Lb) (hf : FO w R [x, y]) (hSA : ∀ b, nodeS x.g K d La b → x.S b) (hSB : ∀ b, nodeS y.g K' d' Lb b → y.S b) (hLa : La.map OH.t = ka) (hLb : Lb.map OH.t = kb)
    (hxt : x.t = .node pa ka) (hyt : y.t = .node pb kb) (hL : L = pa ++ pb) (hGL : GL = La.map OH.g ++ Lb.map OH.g) (hm1 : Hid (m1 = (L.take n).length)) (hm2 : Hid (m2 = (L.drop n).length)) (ho1 : OwnP w4 w.heap.size A1 c1 (L.take n)) (ho2 : OwnP w4 w.heap.size A2 c2 (L.drop n))
    (hap : ∀ k, Value.ownBlock (.slice A1 (L.take n).length c1) = some k → Value.ownBlock (.slice A2 (L.drop n).length c2) ≠ some k) (hm4 : Mod (fun b => b = x.g ∨ b = y.g) w w4) (h7 : HalfB w4 x.g y.g (.slice A1 m1 c1) (.slice A2 m2 c2) (GL.take n) (GL.drop n) w7) :
    Shared w R x y n (.returned (.tuple #[])) w7 := by
  obtain ⟨K1, k1, d1, K2, k2, d2, hk1, hk2, hq1, hq2, hapq, rx, ry, hm7⟩ := h7
  subst hL hGL hLa hLb
  have e1 := hm1.out
  have e2 := hm2.out
  have e3 := hk1.out
  have e4 := hk2.out
  subst e1 e2 e3 e4
  clear hm1 hm2 hk1 hk2
  have hxy : ∀ b, x.S b → ¬ y.S b := (List.pairwise_cons.1 hf.pw).1 y (by simp)
  have sxS : ∀ b, SU La b → x.S b := fun b hb => hSA b (.inr (.inr hb))
  have syS : ∀ b, SU Lb b → y.S b := fun b hb => hSB b (.inr (.inr hb))
  have xin : x.S x.g := hSA _ (.inl rfl)
  have yin : y.S y.g := hSB _ (.inl rfl)
  have hne : x.g ≠ y.g := fun e => hxy x.g xin (e ▸ yin)
  have hfo : FO w R (La ++ Lb) := hA.fo.join hB.fo (fun b h1 h2 => hxy b (sxS b h1) (syS b h2))
  have hM : Mod (fun b => b = x.g ∨ b = y.g) w w7 := hm4.trans hm7 (fun _ h _ => h)
  have hs4 := hm4.size
  have hs7 := hm7.size
  have hgx := hA.lt
  have hgy := hB.lt
  have p1 : ∀ b, Value.ownBlock (.slice A1 ((pa ++ pb).take n).length c1) = some b → w.heap.size ≤ b ∧ b < w4.heap.size := fun b hb => ho1.size b hb
  have p2 : ∀ b, Value.ownBlock (.slice A2 ((pa ++ pb).drop n).length c2) = some b → w.heap.size ≤ b ∧ b < w4.heap.size := fun b hb => ho2.size b hb
  obtain ⟨R', hR'⟩ : ∃ R' : Nat → Prop, R' = fun b => R b ∨ Value.ownBlock (.slice A1 ((pa ++ pb).take n).length c1) = some b ∨ Value.ownBlock (.slice A2 ((pa ++ pb).drop n).length c2) = some b := ⟨_, rfl⟩
  have hRc : ∀ b, R' b → R b ∨ (w.heap.size ≤ b ∧ b < w4.heap.size) := fun b hb => by
    rw [hR'] at hb
    exact hb.imp id (fun h => h.elim (p1 b) (p2 b))
  have hRl : ∀ b, R' b → b < w4.heap.size := fun b hb => (hRc b hb).elim (fun h => by have := hf.rb b h; omega) (fun h => h.2)
  have sul : ∀ b, SU (La ++ Lb) b → b < w.heap.size ∧ ¬ R b := fun b hb => hfo.su b hb
  have hfo7 : FO w7 R' (La ++ Lb) := hfo.keep hM (fun b hb => by
      rcases hb with rfl | rfl
      · exact ⟨fun h => (SU_app.1 h).elim hA.gs.1 (fun h => hxy _ xin (syS _ h)), hA.gs.2⟩
      · exact ⟨fun h => (SU_app.1 h).elim (fun h => hxy _ (sxS _ h) yin) hB.gs.1, hB.gs.2⟩)
    (fun b hb => by rw [hR']; exact .inl hb) (fun b hb => by have := hRl b hb; omega) (fun b hb hs => (hRc b hb).elim (sul b hs).2 (fun h => by have := (sul b hs).1; omega))
  have nSx : ¬ SU (La ++ Lb) x.g := fun h => (SU_app.1 h).elim hA.gs.1 (fun h => hxy _ xin (syS _ h))
  have nSy : ¬ SU (La ++ Lb) y.g := fun h => (SU_app.1 h).elim (fun h => hxy _ (sxS _ h) yin) hB.gs.1
  have nRx : ¬ R' x.g := fun h => (hRc _ h).elim hA.gs.2 (fun h => by omega)
  have nRy : ¬ R' y.g := fun h => (hRc _ h).elim hB.gs.2 (fun h => by omega)
  have tk : ∀ b, SU ((La ++ Lb).take n) b → SU (La ++ Lb) b := fun b ⟨z, hz, hs⟩ => ⟨z, List.mem_of_mem_take hz, hs⟩
  have dr : ∀ b, SU ((La ++ Lb).drop n) b → SU (La ++ Lb) b := fun b ⟨z, hz, hs⟩ => ⟨z, List.mem_of_mem_drop hz, hs⟩
  have q1 : ∀ k, Value.ownBlock (.slice K1 ((La ++ Lb).take n).length d1) = some k → w4.heap.size ≤ k ∧ k < w7.heap.size := fun k hk => hq1.size k (by simpa using hk)
  have q2 : ∀ k, Value.ownBlock (.slice K2 ((La ++ Lb).drop n).length d2) = some k → w4.heap.size ≤ k ∧ k < w7.heap.size := fun k hk => hq2.size k (by simpa using hk)
  have em1 : (La.map OH.g ++ Lb.map OH.g).take n = ((La ++ Lb).take n).map OH.g := by rw [← List.map_append, List.map_take]
  have em2 : (La.map OH.g ++ Lb.map OH.g).drop n = ((La ++ Lb).drop n).map OH.g := by rw [← List.map_append, List.map_drop]
  have hnx : NodeA w7 R' x.g A1 c1 ((pa ++ pb).take n) K1 d1 ((La ++ Lb).take n) := by
    refine ⟨?_, ?_, ho1.vs, ?_, hfo7.sub (List.take_sublist _ _), ⟨fun h => nSx (tk _ h), nRx⟩, fun k hk => ⟨fun e => by have := (q1 k hk).1; omega, fun h => by have := (q1 k hk).1; have := (sul k (tk k h)).1; omega, fun h => by have := (q1 k hk).1; have := hRl k h; omega⟩⟩
    · have := rx.heap
      rw [em1, List.length_map] at this
      exact this
    · refine (RPS.of_own ho1).keep (fun b hb => hm7.block b (p1 b hb).2 (fun e => by have := (p1 b hb).1; rcases e with e | e <;> omega)) (fun b hb => by rw [hR']; exact .inr (.inl hb))
    · have := own_mono hq1 (Nat.zero_le _)
      rw [em1, List.length_map, ← ohc_pcs] at this
      exact this
  have hny : NodeA w7 R' y.g A2 c2 ((pa ++ pb).drop n) K2 d2 ((La ++ Lb).drop n) := by
    refine ⟨?_, ?_, ho2.vs, ?_, hfo7.sub (List.drop_sublist _ _), ⟨fun h => nSy (dr _ h), nRy⟩, fun k hk => ⟨fun e => by have := (q2 k hk).1; omega, fun h => by have := (q2 k hk).1; have := (sul k (dr k h)).1; omega, fun h => by have := (q2 k hk).1; have := hRl k h; omega⟩⟩
    · have := ry.heap
      rw [em2, List.length_map] at this
      exact this
    · refine (RPS.of_own ho2).keep (fun b hb => hm7.block b (p2 b hb).2 (fun e => by have := (p2 b hb).1; rcases e with e | e <;> omega)) (fun b hb => by rw [hR']; exact .inr (.inr hb))
    · have := own_mono hq2 (Nat.zero_le _)
      rw [em2, List.length_map, ← ohc_pcs] at this
      exact this
  have hft : FO w7 R' ((La ++ Lb).take n ++ (La ++ Lb).drop n) := by rw [List.take_append_drop]; exact hfo7
  have hxyn : ∀ b, nodeS x.g K1 d1 ((La ++ Lb).take n) b → ¬ nodeS y.g K2 d2 ((La ++ Lb).drop n) b := by
    intro b h1 h2
    rcases h1 with h1 | h1 | h1
    · rcases h2 with h2 | h2 | h2
      · exact hne (h1.symm.trans h2)
      · have := (q2 b h2).1; omega
      · exact nSx (h1 ▸ dr b h2)
    · have hb := (q1 b h1).1
      rcases h2 with h2 | h2 | h2
      · omega
      · refine hapq b ?_ ?_
        · rw [em1, List.length_map]; exact h1
        · rw [em2, List.length_map]; exact h2
      · have := (sul b (dr b h2)).1; omega
    · rcases h2 with h2 | h2 | h2
      · exact nSy (h2 ▸ tk b h1)
      · have := (q2 b h2).1; have := (sul b (tk b h1)).1; omega
      · exact hft.apart b h1 h2
  refine ⟨rfl, R', ⟨x.g, nodeS x.g K1 d1 ((La ++ Lb).take n), .node ((pa ++ pb).take n) (((La ++ Lb).take n).map OH.t)⟩, ⟨y.g, nodeS y.g K2 d2 ((La ++ Lb).drop n), .node ((pa ++ pb).drop n) (((La ++ Lb).drop n).map OH.t)⟩, rfl, rfl, ?_, ?_, ?_⟩
  · rw [hxt, hyt]
    simp only [shareA, BT.ps, BT.ks, List.map_take, List.map_append]
  · rw [hxt, hyt]
    simp only [shareB, BT.ps, BT.ks, List.map_drop, List.map_append]
  · refine ⟨hnx.tree.join hny.tree (fun b h1 h2 => hxyn b (SU_one.1 h1) (SU_one.1 h2)), hM.mono (fun k _ hk => SU_two.2 (hk.imp (fun e => by rw [e]; exact xin) (fun e => by rw [e]; exact yin))), fun b hb => ?_, fun b hb => by rw [hR']; exact .inl hb, fun b hb => (hRc b hb).imp id (fun h => h.1)⟩
    have hlq : ∀ b, SU (La ++ Lb) b → SU [x, y] b := fun b h => SU_two.2 ((SU_app.1 h).imp (sxS b) (syS b))
    rcases SU_two.1 hb with hb | hb
    · rcases hb with hb | hb | hb
      · exact .inl (SU_two.2 (.inl (by rw [hb]; exact xin)))
      · exact .inr (Nat.le_trans hs4 (q1 b hb).1)
      · exact .inl (hlq b (tk b hb))
    · rcases hb with hb | hb | hb
      · exact .inl (SU_two.2 (.inr (by rw [hb]; exact yin)))
      · exact .inr (Nat.le_trans hs4 (q2 b hb).1)
      · exact .inl (hlq b (dr b hb))

set_option maxHeartbeats 2000000 in
set_option maxRecDepth 100000 in
theorem impl_share (x y : OH) (R : Nat → Prop) (n : Nat) (w : World) (hf : FO w R [x, y]) (hsz : sizeT x.t + sizeT y.t ≤ 100) :
    Calls Try.prog 143 #[ptr x.g, ptr y.g, .int .i64 n] w (Shared w R x y n) := by
  obtain ⟨pa, ka, hxt⟩ : ∃ pa ka, x.t = .node pa ka := by cases x.t with | node p k => exact ⟨p, k, rfl⟩
  obtain ⟨pb, kb, hyt⟩ : ∃ pb kb, y.t = .node pb kb := by cases y.t with | node p k => exact ⟨p, k, rfl⟩
  obtain ⟨A, c, K, d, La, hLa, hA, hSa⟩ := (hf.sub (M := [x]) (by simp)).node hxt
  obtain ⟨A', c', K', d', Lb, hLb, hB, hSb⟩ := (hf.sub (M := [y]) (by simp)).node hyt
  have hpl : pa.length + pb.length ≤ 100 ∧ ka.length + kb.length ≤ 100 := by
    rw [hxt, hyt] at hsz
    simp only [sizeT, BT.ps, BT.ks] at hsz
    omega
  have hgx := hA.lt
  have hgy := hB.lt
  have HPA := hid (hA.pairs.rp (fun b h => hf.rb b h))
  have HPB := hid (hB.pairs.rp (fun b h => hf.rb b h))
  have RX := hid (Row2.of_heap hA.heap)
  have RY := hid (Row2.of_heap hB.heap)
  have a0 := RX.out.c0
  have b0 := RY.out.c0
  have fa := RX.out.fz 0
  have fb := RY.out.fz 0
  have hne : x.g ≠ y.g := fun e => (List.pairwise_cons.1 hf.pw).1 y (by simp) x.g (hSa _ (.inl rfl)) (hSb _ (.inl e))
  have RA := hid hA
  have RB := hid hB
  have HF := hid hf
  have HSA := hid hSa
  have HSB := hid hSb
  have HLA := hid hLa
  have HLB := hid hLb
  have HXT := hid hxt
  have HYT := hid hyt
  have HPL := hid hpl
  obtain ⟨L, hL⟩ : ∃ L, L = pa ++ pb := ⟨_, rfl⟩
  have HL := hid hL
  have hLl : L.length ≤ 100 := by rw [hL, List.length_append]; omega
  clear hL
  have tk1 : Hid (1 = 1) := rfl
  have tk2 : Hid (1 = 1) := rfl
  clear hA hB hf hSa hSb hLa hLb hxt hyt hsz hpl
  unfold ptr
  go_enter Try.func143, Try.ntmps143
  go_wp2_with fail
  go_cut [] from 6 to 26 (fun wc => HalfA w x.g y.g (.slice K La.length d) (.slice K' Lb.length d') (L.take n) (L.drop n) wc)
  case first =>
    go_region_law
      (first
        | (clear tk1; go_simp; go_at_call 161; refine (concat2P w 27 A A' c c' pa.length pb.length pa pb L HPA.out HPB.out rfl rfl (by have := HPL.out; omega) HL.out).mono ?_; rintro e w1 ⟨A3, c3, rfl, ho, hb⟩; have HO3 := hid ho; have HB1 := hid hb; have RX1 := hid (RX.out.below hb); have RY1 := hid (RY.out.below hb); have x1 := RX1.out.c0; have y1 := RY1.out.c0; clear ho hb)
        | (clear tk2; go_simp; go_at_call 160; refine (splitP_any A3 c3 n L _ HO3.out.rp HO3.out.vs (by omega)).mono ?_; rintro e w2 ⟨A1, m1, c1, A2, m2, c2, rfl, HM1, HM2, ho1, ho2, hap, hb⟩; have HO1 := hid ho1; have HO2 := hid ho2; have HAP := hid hap; have HB2 := hid hb; have RX2 := hid (RX1.out.below hb); have RY2 := hid (RY1.out.below hb); have x2 := RX2.out.c0; have y2 := RY2.out.c0; have fx2 := RX2.out.fz 0; have fy2 := RY2.out.fz 0; clear ho1 ho2 hap hb))
    all_goals
      have hsz1 := HB1.out.size
      go_wp2_with fail
      go_meet
      case rel => exact ⟨A1, m1, c1, A2, m2, c2, HM1, HM2, (ownp_set (ownp_set HO1.out (by omega) _ _) (by omega) _ _).mono' hsz1, (ownp_set (ownp_set HO2.out (by omega) _ _) (by omega) _ _).mono' hsz1, HAP.out,
          by first | exact (RX2.out.s0 _).other' hne 0 _ | exact (RX2.out.other' hne 0 _).s0 _, by first | exact (RY2.out.other' (fun e => hne e.symm) 0 _).s0 _ | exact (RY2.out.s0 _).other' (fun e => hne e.symm) 0 _,
          by first | exact ((Mod.of_below (HB1.out.trans (HB2.out.mono HB1.out.size))).set (.inl (.inl rfl)) 0 _).set (.inl (.inr rfl)) 0 _ | exact ((Mod.of_below (HB1.out.trans (HB2.out.mono HB1.out.size))).set (.inl (.inr rfl)) 0 _).set (.inl (.inl rfl)) 0 _⟩
  obtain ⟨A1, m1, c1, A2, m2, c2, HM1, HM2, ho1, ho2, hap, rx4, ry4, hm4⟩ := hcut
  have hkx : ∀ k, Value.ownBlock (.slice K La.length d) = some k → k ≠ x.g ∧ k ≠ y.g := fun k hk => ⟨(RA.out.own k hk).1, fun e => (List.pairwise_cons.1 HF.out.pw).1 y (by simp) k (HSA.out k (.inr (.inl hk))) (HSB.out k (.inl e))⟩
  have hky : ∀ k, Value.ownBlock (.slice K' Lb.length d') = some k → k ≠ x.g ∧ k ≠ y.g := fun k hk => ⟨fun e => (List.pairwise_cons.1 HF.out.pw).1 y (by simp) k (HSA.out k (.inl e)) (HSB.out k (.inr (.inl hk))), (RB.out.own k hk).1⟩
  have hra : OwnQ wc 0 K d (La.map OH.g) := by
    unfold OwnQ
    rw [List.length_map, ← ohc_pcs]
    exact ownsRow_keep RA.out.row fun k hk => hm4.block k (RA.out.ownlt hk) (fun e => e.elim (hkx k hk).1 (hkx k hk).2)
  have hrb : OwnQ wc 0 K' d' (Lb.map OH.g) := by
    unfold OwnQ
    rw [List.length_map, ← ohc_pcs]
    exact ownsRow_keep RB.out.row fun k hk => hm4.block k (RB.out.ownlt hk) (fun e => e.elim (hky k hk).1 (hky k hk).2)
  have HRA := hid hra.rq
  have HRB := hid hrb.rq
  have HHO1 := hid ho1
  have HHO2 := hid ho2
  have HHAP := hid hap
  have RX4 := hid rx4
  have RY4 := hid ry4
  have HM4 := hid hm4
  have hsz4 := hm4.size
  have hgx4 : x.g < wc.heap.size := by omega
  have hgy4 : y.g < wc.heap.size := by omega
  have hll : La.length + Lb.length ≤ 100 := by have := HPL.out.2; rw [← HLA.out, ← HLB.out, List.length_map, List.length_map] at this; exact this
  obtain ⟨GL, hGL⟩ : ∃ GL, GL = La.map OH.g ++ Lb.map OH.g := ⟨_, rfl⟩
  have HGL := hid hGL
  have hGl : GL.length ≤ 100 := by rw [hGL]; simp; omega
  clear hGL hkx hky hra hrb ho1 ho2 hap hm4
  have a1 := rx4.c1
  have b1 := ry4.c1
  have f1 := rx4.fz 1
  have g1 := ry4.fz 1
  clear rx4 ry4 a0 b0 fa fb
  have tk3 : Hid (1 = 1) := rfl
  have tk4 : Hid (1 = 1) := rfl
  go_wp2_with fail
  go_region_law
    (first
      | (clear tk3; go_simp; go_at_call 163; refine (concat2Q wc 117 K K' d d' La.length Lb.length (La.map OH.g) (Lb.map OH.g) GL HRA.out HRB.out (by simp) (by simp) (by simp; omega) HGL.out).mono ?_; rintro e w5 ⟨A5, c5, rfl, ho, hb⟩; have HO5 := hid ho; have HB5 := hid hb; have RX5 := hid (RX4.out.below hb); have RY5 := hid (RY4.out.below hb); have x5 := RX5.out.c1; have y5 := RY5.out.c1; clear ho hb)
      | (clear tk4; go_simp; go_at_call 162; refine (splitQ_any A5 c5 n GL _ HO5.out.rq HO5.out.vs (by omega)).mono ?_; rintro e w6 ⟨K1, k1, d1, K2, k2, d2, rfl, HM5, HM6, ho1, ho2, hap, hb⟩; have HO6 := hid ho1; have HO7 := hid ho2; have HAP2 := hid hap; have HB6 := hid hb; have RX6 := hid (RX5.out.below hb); have RY6 := hid (RY5.out.below hb); have x6 := RX6.out.c1; have y6 := RY6.out.c1; have fx6 := RX6.out.fz 1; have fy6 := RY6.out.fz 1; clear ho1 ho2 hap hb))
  all_goals
    have hsz5 := HB5.out.size
    go_wp2_with fail
    go_end0
    exact share_end RA.out RB.out HF.out HSA.out HSB.out HLA.out HLB.out HXT.out HYT.out HL.out HGL.out HM1 HM2 HHO1.out HHO2.out HHAP.out HM4.out
      ⟨K1, k1, d1, K2, k2, d2, HM5, HM6, (ownq_set (ownq_set HO6.out (by omega) _ _) (by omega) _ _).mono hsz5, (ownq_set (ownq_set HO7.out (by omega) _ _) (by omega) _ _).mono hsz5, HAP2.out,
          by first | exact (RX6.out.s1 _).other' hne 1 _ | exact (RX6.out.other' hne 1 _).s1 _, by first | exact (RY6.out.other' (fun e => hne e.symm) 1 _).s1 _ | exact (RY6.out.s1 _).other' (fun e => hne e.symm) 1 _,
          by first | exact ((Mod.of_below (HB5.out.trans (HB6.out.mono HB5.out.size))).set (.inl (.inl rfl)) 1 _).set (.inl (.inr rfl)) 1 _ | exact ((Mod.of_below (HB5.out.trans (HB6.out.mono HB5.out.size))).set (.inl (.inr rfl)) 1 _).set (.inl (.inl rfl)) 1 _⟩
end Go.Proofs.Ytcjbjfhndjpmcaa
