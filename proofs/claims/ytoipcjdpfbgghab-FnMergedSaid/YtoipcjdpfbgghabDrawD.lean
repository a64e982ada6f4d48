/-
  Changes that are drawn; what the laws of deltas draw.
  Changes that are written one behind the other, drawn; two drawn maps.
-/
import Derived.Test.YtoipcjdpfbgghabDrawsB
import Derived.Test.YtoipcjdpfbgghabDeltaK
import Derived.Test.YtoipcjdpfbgghabDeltaC
namespace Go.Proofs.Ytoipcjdpfbgghab
open Go.RowKit

/-- A call on the reader g that answers a right map of its own. -/
def MapDm (B g m : Nat) (w : World) (e : Ending) (w' : World) : Prop := ∃ A c ps, e = .returned (.slice A ps.length c) ∧ OwnP w' w.heap.size A c ps ∧ mapB ps = true ∧ ps.length ≤ m ∧ Rd w' B g ∧ w.grownBy w' (some g)

set_option maxHeartbeats 2000000 in
set_option maxRecDepth 100000 in
theorem pairs_most (B g m : Nat) (w : World) (h : Rd w B g) (hm : m ≤ 100) :
    Calls Try.prog 28 #[.pointer (some ⟨g, 0, none⟩), .int .i64 (m : Int)] w (MapDm B g m w) := by
  have HR := hid h
  have hgw := h.lt.1
  clear h
  go_enter Try.func28, Try.ntmps28
  go_wp2_with fail
  refine (below_any B g (m + 1) _ (HR.out.below ((Below.refl _ _).alloc (Nat.le_refl _) _)) (by omega) (by omega)).mono ?_
  rintro e w1 ⟨v, hv, rfl, hr1, hg1⟩
  have HR1 := hid hr1
  have HG1 := hid (grown_trans' (grown_of_below ((Below.refl w.heap.size w).alloc (Nat.le_refl _) _)) hg1)
  have HO1 := hid ((OwnP.made (w := w) (Nat.le_refl _) #[] 0 rfl (Nat.zero_le _)).keep_g hg1 hgw)
  clear hr1 hg1
  go_wp2_with fail
  go_loopw [5, 6] (fun q i wr => ∃ (k n : Nat) (A : Option Addr) (c : Nat) (ps : PS), k ≤ m ∧ i = .int .i64 k ∧ q = .slice A n c ∧ n = ps.length ∧ OwnP wr w.heap.size A c ps ∧ Hid (mapB ps = true) ∧ Hid (ps.length + k ≤ m) ∧ Rd wr B g ∧ w.grownBy wr (some g)) (fun _ i _ => (intOf i).toNat)
  case atStart => exact ⟨v, 0, _, _, [], by omega, rfl, rfl, rfl, HO1.out, rfl, (by simp [Hid]; omega), HR1.out, HG1.out⟩
  case round =>
    obtain ⟨k, n, A, c, ps, hk, rfl, rfl, hn, ho, HM, HLM, hr, hg⟩ := hrel
    have HO := hid ho
    have HRr := hid hr
    have HG := hid hg
    have HN := hid hn
    clear ho hr hg hn
    by_cases hlt : 0 < k
    · go_wp2_with fail
      refine (key_any B g _ HRr.out).mono ?_
      rintro e w2 ⟨s, hs, rfl, hr2, hg2⟩
      have HR2 := hid hr2
      have HO2 := hid (HO.out.keep_g hg2 hgw)
      have HG2 := hid (grown_trans' HG.out hg2)
      clear hr2 hg2
      go_wp2_with fail
      refine (val_any B g _ HR2.out).mono ?_
      rintro e w3 ⟨t, ht, rfl, hr3, hg3⟩
      have HR3 := hid hr3
      have HO3 := hid (HO2.out.keep_g hg3 hgw)
      have HG3 := hid (grown_trans' HG2.out hg3)
      clear hr3 hg3
      have hl60 := (mapB_iff.1 HM.out).1
      have hsz : s.size ≤ maxLen := by unfold maxLen; omega
      have htz : t.size ≤ maxLen := by unfold maxLen; omega
      have hnn : n = ps.length := HN.out
      subst hnn
      go_wp2_with fail
      refine (spec_Put A c ps s t _ HO3.out.rp (fits_map HM.out) (by omega) hsz htz).mono ?_
      rintro e w4 ⟨A4, c4, rfl, ho4, hb4⟩
      have HO4 := hid ho4
      have HO5 := hid (HO3.out.below hb4)
      have HR4 := hid (HR3.out.below hb4)
      have HG4 := hid (grown_trans' HG3.out (grown_of_below hb4))
      have HB4 := hid hb4
      have HSZ := hid HG3.out.size
      clear ho4 hb4 hsz htz
      cases hp : putB ps s t
      · go_wp2_with fail
        refine ⟨⟨k - 1, _, A, c, ps, by omega, by go_num, rfl, rfl, HO5.out, HM, (by have := HLM.out; unfold Hid; omega), HR4.out, HG4.out⟩, by simp [intOf]; omega⟩
      · have HL : Hid (putR ps s t = putL ps s t) := putR_yes hp
        have HM2 : Hid (mapB (putL ps s t) = true) := by
          simp only [putB, Bool.and_eq_true, decide_eq_true_eq] at hp
          rw [Hid, putL_map hp.1 hp.2.1 hp.2.2.1]
          simpa using hp.2.2.2
        go_wp2_with fail
        refine ⟨⟨k - 1, _, A4, c4, putL ps s t, by omega, by go_num, rfl, by rw [HL.out], ?_, HM2, (by have := HLM.out; have := putL_len_le ps s t; unfold Hid; omega), HR4.out, HG4.out⟩, by simp [intOf]; omega⟩
        have := HO4.out
        rw [HL.out] at this
        exact this.mono HSZ.out
    · obtain rfl : k = 0 := by omega
      go_wp2_with fail
      go_ret
      exact ⟨A, c, ps, ret_slice HN.out, HO.out, HM.out, (by have := HLM.out; omega), HRr.out, HG.out⟩

def TinyC (l : CS) : Prop := ∀ x ∈ l, x.1.size ≤ 7 ∧ x.2.1.size ≤ 7
theorem TinyC.fits {l : CS} (h : TinyC l) : FitsC l := fun x hx => by
  have := h x hx
  unfold maxLen
  omega
theorem TinyC.snoc {l : CS} {x : CD} (h : TinyC l) (h1 : x.1.size ≤ 7) (h2 : x.2.1.size ≤ 7) : TinyC (l ++ [x]) := by
  intro y hy
  rcases List.mem_append.1 hy with hy | hy
  · exact h y hy
  · rw [List.mem_singleton] at hy
    subst hy
    exact ⟨h1, h2⟩
theorem TinyC.write {l : CS} {x : CD} (h : TinyC l) (hx : x.1.size ≤ 7 ∧ x.2.1.size ≤ 7) : TinyC (writeL l x) := by
  intro y hy
  rcases mem_writeL.1 hy with rfl | ⟨hy, _⟩
  · exact hx
  · exact h y hy
theorem OwnC.keep_g {w w' : World} {B c g : Nat} {A : Option Addr} {ls : CS} (h : OwnC w B A c ls) (hg : w.grownBy w' (some g)) (hr : g < B) : OwnC w' B A c ls :=
  OwnC.keepG h hg fun k hk e => by
    have h1 := (OwnC.size h k hk).1
    injection e with e
    omega
theorem grown_then {a b c : World} {r : Option Nat} (h : a.grownBy b r) (h' : Below a.heap.size b c) : a.grownBy c r :=
  ⟨h'.os.trans h.os, h'.tape.trans h.tape, h'.output.trans h.output, Nat.le_trans h.size h'.size, fun k hk hne => (h'.block k hk).trans (h.block k hk hne)⟩
theorem grown_new {w w1 : World} {r : Option Nat} (h : w.grownBy w1 r) {b j : Nat} (hb : w.heap.size ≤ b) (v : Value) : w.grownBy (w1.setCell ⟨b, j, none⟩ v) r :=
  ⟨h.os, h.tape, h.output, by have := h.size; simpa using this, fun k hk hne => (heap_setCell_other w1 ⟨b, j, none⟩ k v (fun e => by simp at e; omega)).trans (h.block k hk hne)⟩
theorem grown_alloc {w w1 : World} {r : Option Nat} (h : w.grownBy w1 r) (o : Obj) : w.grownBy (w1.alloc o) r := grown_trans' h (grown_of_below ((Below.refl w1.heap.size w1).alloc (Nat.le_refl _) o))
theorem OwnC.other {w : World} {B c : Nat} {A : Option Addr} {ls : CS} (h : OwnC w B A c ls) {b j : Nat} (hb : ∀ q, Value.ownBlock (.slice A ls.length c) = some q → q ≠ b) (v : Value) : OwnC (w.setCell ⟨b, j, none⟩ v) B A c ls :=
  OwnC.keepG h (grown_set w b j v) fun q hq e => hb q hq (by injection e)

theorem RC.new3 (w : World) (b : Nat) (u v z : Value) (x : CD) (T : TypeId) : RC ((((w.setCell ⟨b, 0, none⟩ u).setCell ⟨b, 1, none⟩ v).setCell ⟨b, 2, none⟩ z).alloc (.cells #[.string x.1, .string x.2.1, .bool x.2.2] T)) (w.heap.size + 1) (some ⟨w.heap.size, 0, none⟩) [x] := by
  have h := RC.new (((w.setCell ⟨b, 0, none⟩ u).setCell ⟨b, 1, none⟩ v).setCell ⟨b, 2, none⟩ z) x T
  rwa [show (((w.setCell ⟨b, 0, none⟩ u).setCell ⟨b, 1, none⟩ v).setCell ⟨b, 2, none⟩ z).heap.size = w.heap.size by simp] at h
/-- A call on the reader g that answers changes of its own. -/
def ChgD (B g m : Nat) (w : World) (e : Ending) (w' : World) : Prop := ∃ A c ls, e = .returned (.slice A ls.length c) ∧ OwnC w' w.heap.size A c ls ∧ TinyC ls ∧ ls.length ≤ m ∧ Rd w' B g ∧ w.grownBy w' (some g)

set_option maxHeartbeats 4000000 in
set_option maxRecDepth 100000 in
theorem changes_any (B g m : Nat) (w : World) (h : Rd w B g) (hm : m ≤ 100) :
    Calls Try.prog 37 #[.pointer (some ⟨g, 0, none⟩), .int .i64 (m : Int)] w (ChgD B g m w) := by
  obtain ⟨i0, hi0, hz0, hz1, hz2⟩ := info_parts chgInfo
  have HR := hid h
  have hgw := h.lt.1
  clear h
  go_enter Try.func37, Try.ntmps37
  go_wp2_with fail
  refine (below_any B g (m + 1) _ (HR.out.below ((Below.refl _ _).alloc (Nat.le_refl _) _)) (by omega) (by omega)).mono ?_
  rintro e w1 ⟨v, hv, rfl, hr1, hg1⟩
  have HR1 := hid hr1
  have HG1 := hid (grown_trans' (grown_of_below ((Below.refl w.heap.size w).alloc (Nat.le_refl _) _)) hg1)
  have HO1 := hid ((OwnC.made (w := w) (Nat.le_refl _) #[] 0 rfl (Nat.zero_le _)).keep_g hg1 hgw)
  clear hr1 hg1
  go_wp2_with fail
  go_loopw [5, 6] (fun q i wr => ∃ (k n : Nat) (A : Option Addr) (c : Nat) (ls : CS), k ≤ m ∧ i = .int .i64 k ∧ q = .slice A n c ∧ Hid (n = ls.length) ∧ Hid (OwnC wr w.heap.size A c ls) ∧ Hid (TinyC ls) ∧ Hid (ls.length + k ≤ m) ∧ Hid (Rd wr B g) ∧ Hid (w.grownBy wr (some g))) (fun _ i _ => (intOf i).toNat)
  case atStart => exact ⟨v, 0, _, _, [], by omega, rfl, rfl, rfl, HO1.out, (fun x hx => by simp at hx), (by simp [Hid]; omega), HR1.out, HG1.out⟩
  case round =>
    obtain ⟨k, n, A, c, ls, hk, rfl, rfl, HN, HO, HS, HLM, HRr, HG⟩ := hrel
    by_cases hlt : 0 < k
    · go_wp2_with fail
      refine (key_any B g _ HRr.out).mono ?_
      rintro e w2 ⟨s, hs, rfl, hr2, hg2⟩
      have HR2 := hid hr2
      have HO2 := hid (HO.out.keep_g hg2 hgw)
      have HG2 := hid (grown_trans' HG.out hg2)
      clear hr2 hg2
      go_wp2_with fail
      refine (val_any B g _ HR2.out).mono ?_
      rintro e w3 ⟨t, ht, rfl, hr3, hg3⟩
      have HR3 := hid (hr3.below ((Below.refl _ _).alloc (Nat.le_refl _) (.cells #[.string s, .string t, .bool false] 62)))
      have HO3 := hid ((HO2.out.keep_g hg3 hgw).below ((Below.refl _ _).alloc (Nat.le_refl _) (.cells #[.string s, .string t, .bool false] 62)))
      have HG3 := hid (grown_alloc (grown_trans' HG2.out hg3) (.cells #[.string s, .string t, .bool false] 62))
      have HX3 := hid (Row3.lit w3 62 (.string s) (.string t) (.bool false))
      have hgs3 : w.heap.size ≤ w3.heap.size := (grown_trans' HG2.out hg3).size
      have hlt3 : Hid (∀ q, Value.ownBlock (.slice A ls.length c) = some q → q < w3.heap.size) := fun q hq => (OwnC.size (HO2.out.keep_g hg3 hgw) q hq).2
      clear hr3 hg3
      go_wp2_with fail
      refine (once_any B g 3 _ HR3.out (by omega) (by omega)).mono ?_
      rintro e w4 ⟨fl, rfl, hr4, hg4⟩
      have HR4 := hid hr4
      have HO4 := hid (HO3.out.keep_g hg4 hgw)
      have HG4 := hid (grown_trans' HG3.out hg4)
      have hx4 : Row3 w4 w3.heap.size 62 (.string s) (.string t) (.bool false) := HX3.out.kept hg4 (.inr (by simp [Value.ownBlock]; omega))
      have HX4 := hid hx4
      have hsz4 : w3.heap.size < w4.heap.size := by have := hg4.size; simp at this; omega
      clear hr4 hg4 hx4
      cases fl
      · have z0 := HX4.out.c0
        have z1 := HX4.out.c1
        have z2 := HX4.out.c2
        have HSZ : Hid (w.heap.size ≤ w4.heap.size) := HG4.out.size
        go_wp2_with (at_builtin; refine wpList_append_rc _ rfl _ _ _ rfl i0 Try.underlying27 hi0 hz0 hz1 hz2 w.heap.size A n c ls rfl HN.out (HO4.out.below ((Below.refl _ _).alloc (Nat.le_refl _) _)) _ _ _ _ [(s, t, false)] rfl rfl (RC.new _ (s, t, false) _) (by have := HLM.out; simp; omega) (by simp; omega) ?_; intro A5 n5 c5 w5 hn5 hap5; have HN5 := hid hn5; have HO5 := hid hap5.own; have HB5 := hid (Below.trans (((Below.refl _ _).alloc (Nat.le_refl _) _).mono HSZ.out) (hap5.below (HO4.out.below ((Below.refl _ _).alloc (Nat.le_refl _) _)) HN.out (by simp; omega))); have HR5 := hid ((HR4.out.below ((Below.refl _ _).alloc (Nat.le_refl _) _)).grown hap5.grown (fun q hq => by have en := HN.out; subst en; have := (OwnC.size HO4.out q hq).1; omega)); clear hn5 hap5)
        refine ⟨⟨k - 1, _, A5, c5, ls ++ [(s, t, false)], by omega, by go_num, rfl, HN5.out, HO5.out, HS.out.snoc hs ht, (by have := HLM.out; simp [Hid]; omega), HR5.out, grown_then HG4.out HB5.out⟩, by simp [intOf]; omega⟩
      · have z0 := HX4.out.c0
        have z1 := HX4.out.c1
        have z2 := HX4.out.c2
        have f0 := HX4.out.fz 0
        have f1 := HX4.out.fz 1
        have f2 := HX4.out.fz 2
        have HNE : Hid (∀ q, Value.ownBlock (.slice A ls.length c) = some q → q ≠ w3.heap.size) := fun q hq => Nat.ne_of_lt (hlt3.out q hq)
        have HOS := hid (((HO4.out.other (j := 0) HNE.out (.string s)).other (j := 1) HNE.out (.string ⟨#[]⟩)).other (j := 2) HNE.out (.bool true))
        have HGS := hid (grown_new (grown_new (grown_new HG4.out hgs3 (j := 0) (.string s)) hgs3 (j := 1) (.string ⟨#[]⟩)) hgs3 (j := 2) (.bool true))
        have HRS := hid (((HR4.out.grown (grown_set w4 w3.heap.size 0 (.string s)) (fun q hq => by cases hq; omega)).grown (grown_set _ w3.heap.size 1 (.string ⟨#[]⟩)) (fun q hq => by cases hq; omega)).grown (grown_set _ w3.heap.size 2 (.bool true)) (fun q hq => by cases hq; omega))
        have HSZ := hid HGS.out.size
        go_wp2_with (at_builtin; refine wpList_append_rc _ rfl _ _ _ rfl i0 Try.underlying27 hi0 hz0 hz1 hz2 w.heap.size A n c ls rfl HN.out (HOS.out.below ((Below.refl _ _).alloc (Nat.le_refl _) _)) _ _ _ _ [(s, ⟨#[]⟩, true)] rfl rfl (RC.new3 w4 w3.heap.size (.string s) (.string ⟨#[]⟩) (.bool true) (s, ⟨#[]⟩, true) 62) (by have := HLM.out; simp; omega) (by simp; omega) ?_; intro A5 n5 c5 w5 hn5 hap5; have HN5 := hid hn5; have HO5 := hid hap5.own; have HB5 := hid (Below.trans (((Below.refl _ _).alloc (Nat.le_refl _) _).mono HSZ.out) (hap5.below (HOS.out.below ((Below.refl _ _).alloc (Nat.le_refl _) _)) HN.out (by simp; omega))); have HR5 := hid ((HRS.out.below ((Below.refl _ _).alloc (Nat.le_refl _) _)).grown hap5.grown (fun q hq => by have en := HN.out; subst en; have := (OwnC.size HO4.out q hq).1; omega)); clear hn5 hap5)
        refine ⟨⟨k - 1, _, A5, c5, ls ++ [((s, ⟨#[]⟩, true) : CD)], by omega, by go_num, rfl, HN5.out, HO5.out, HS.out.snoc hs (show (⟨#[]⟩ : ByteArray).size ≤ 7 by decide), (by have := HLM.out; simp [Hid]; omega), HR5.out, grown_then HGS.out HB5.out⟩, by simp [intOf]; omega⟩
    · obtain rfl : k = 0 := by omega
      have en := HN.out
      subst en
      go_wp2_with fail
      go_ret
      exact ⟨A, c, ls, rfl, HO.out, HS.out, (by have := HLM.out; omega), HRr.out, HG.out⟩
end Go.Proofs.Ytoipcjdpfbgghab
namespace Go.Proofs.Ytoipcjdpfbgghab
open Go.RowKit

theorem TinyC.all {a b : CS} (ha : TinyC a) (hb : TinyC b) : TinyC (writeAll a b) := by
  induction b generalizing a with
  | nil => exact ha
  | cons y b ih => exact ih (a := writeL a y) (ha.write (hb y (by simp))) fun x hx => hb x (List.mem_cons_of_mem _ hx)
theorem small_changed {m : PS} {l : CS} : SmallP (changedL m l) ∧ (changedL m l).length ≤ 60 := by
  cases h : changedB m l
  · rw [changedL_n h]
    exact ⟨fun p hp => by simp at hp, by simp⟩
  · rw [changedL_y h]
    simp only [changedB, Bool.and_eq_true, decide_eq_true_eq] at h
    obtain ⟨h1, h2, h3⟩ := h
    have : mapB (applyL m l) = true := by
      rw [applyL_ok h1 (deltaB_iff.1 h2).2.1]
      simpa using h3
    exact ⟨small_map this, h3⟩
/-- It is as it was, where its block is. -/
theorem OwnP.stay {w w' : World} {B c : Nat} {A : Option Addr} {hs : PS} (h : OwnP w B A c hs) (hk : ∀ k, Value.ownBlock (.slice A hs.length c) = some k → w'.heap[k]? = w.heap[k]?) : OwnP w' B A c hs := by
  obtain ⟨h1, h2⟩ := h
  refine ⟨h1, ?_⟩
  rcases h2 with h2 | ⟨g, cap, cur, hv, hg, hh, r⟩
  · exact Or.inl h2
  · rw [hv] at hk
    exact Or.inr ⟨g, cap, cur, hv, hg, by rw [hk g rfl]; exact hh, r⟩
theorem KB.low {B B' g : Nat} {a b : World} (h : KB B' g a b) (h1 : B ≤ B') (h2 : B ≤ g) : Below B a b := ⟨h.os, h.tape, h.output, h.size, fun k hk => h.block k (by omega) (by omega)⟩
theorem OwnP.keep_kb {w w' w0 : World} {B B' g c : Nat} {A : Option Addr} {ps : PS} (h : OwnP w B A c ps) (h0 : OwnP w0 B A c ps) (hb : w0.heap.size ≤ B') (hg : g < B) (hk : KB B' g w w') : OwnP w' B A c ps :=
  h.stay fun k e => hk.block k (by have := (OwnP.size h0 k e).2; omega) (by have := (OwnP.size h0 k e).1; omega)
theorem len_all (l : CS) (k : Nat) : (writeAll [] (l.take k)).length ≤ l.length := by
  have h1 := writeAll_len [] (l.take k)
  have h2 : (l.take k).length ≤ l.length := by rw [List.length_take]; omega
  simp only [List.length_nil] at h1
  omega

set_option maxHeartbeats 4000000 in
set_option maxRecDepth 100000 in
theorem delta_any (B g : Nat) (w : World) (h : Rd w B g) :
    Calls Try.prog 30 #[.pointer (some ⟨g, 0, none⟩)] w (ChgD B g 5 w) := by
  have HR := hid h
  have hgw := h.lt.1
  clear h
  go_enter Try.func30, Try.ntmps30
  go_wp2_with fail
  refine (changes_any B g 5 _ HR.out (by omega)).mono ?_
  rintro e w1 ⟨A1, c1, ls, rfl, ho1, ht1, hl1, hr1, hg1⟩
  have HL1 := hid ho1.rh
  have HT1 := hid ht1
  have HR1 := hid hr1
  have HG1 := hid hg1
  have HM := hid (OwnC.made (w := w1) (Nat.le_refl _) #[] 0 rfl (Nat.zero_le _))
  clear ho1 ht1 hr1 hg1
  go_wp2_with fail
  go_loopw [4, 5] (fun q i wr => ∃ (k n : Nat) (A' : Option Addr) (c' : Nat), k ≤ ls.length ∧ i = .int .i64 k ∧ q = .slice A' n c' ∧ Hid (n = (writeAll [] (ls.take k)).length) ∧ Hid (OwnC wr w1.heap.size A' c' (writeAll [] (ls.take k))) ∧ Hid (Below w1.heap.size w1 wr)) (fun _ i _ => ls.length - (intOf i).toNat)
  case atStart => exact ⟨0, 0, _, 0, Nat.zero_le _, rfl, rfl, rfl, HM.out, (Below.refl _ _).alloc (Nat.le_refl _) _⟩
  case round =>
    obtain ⟨k, n, A', c', hk, rfl, rfl, HN', HP, HD⟩ := hrel
    by_cases hlt : k < ls.length
    · obtain ⟨b, off, rfl, hgb, hc1, hc2, hc3⟩ := (HL1.out.below HD.out).at_ hlt
      have HP2 := hid (writeAll_succ [] hlt)
      have HSM := hid (len_all ls k)
      have e5 : (0 : Int) ≤ (k : Int) := by omega
      have e6 : (k : Int) < (ls.length : Int) := by omega
      have en := HN'.out
      subst en
      generalize writeAll [] (ls.take k) = P at *
      go_wp2_with (go_at_call 38; refine (spec_l6Write A' c' P ls[k] _ (OwnC.rh HP.out) (by have := HSM.out; omega)).mono ?_; rintro e w5 ⟨A5, c5, rfl, ho5, hb5⟩; have HO5 := hid ho5; have HB5 := hid hb5; clear ho5 hb5)
      go_roundw
      case rel => exact ⟨k + 1, _, _, _, by omega, by go_num, rfl, (by rw [HP2.out]; rfl), (by rw [HP2.out]; exact HO5.out.mono HD.out.size), HD.out.trans (HB5.out.mono HD.out.size)⟩
      case measure => simp [intOf]; omega
    · obtain rfl : k = ls.length := by omega
      have HSM := hid (len_all ls ls.length)
      rw [List.take_length] at HN' HP HSM
      have en := HN'.out
      subst en
      go_wp2_with fail
      go_ret
      exact ⟨A', c', _, rfl, HP.out.mono HG1.out.size, TinyC.all (fun x hx => by simp at hx) HT1.out, Nat.le_trans HSM.out hl1, HR1.out.below HD.out, grown_trans' HG1.out (grown_of_below HD.out)⟩

/-- Two drawn maps. -/
def TwoD (w : World) (e : Ending) (w' : World) : Prop := ∃ A c ps K d qs, e = .returned (.tuple #[.slice A ps.length c, .slice K qs.length d]) ∧ RP w' w'.heap.size A ps ∧ RP w' w'.heap.size K qs ∧ VS A c ps.length ∧ VS K d qs.length ∧ SmallP ps ∧ SmallP qs ∧ ps.length ≤ 60 ∧ qs.length ≤ 60 ∧ Below w.heap.size w w'

set_option maxHeartbeats 4000000 in
set_option maxRecDepth 100000 in
theorem drawDeltaOf_any (A : Option Addr) (n c : Nat) (w : World) (hc : CB w w.heap.size A n) (hn : n ≤ 1048576) :
    Calls Try.prog 9 #[.slice A n c] w (TwoD w) := by
  have HC := hid hc
  clear hc
  go_enter Try.func9, Try.ntmps9
  go_wp2_with fail
  refine (open_any A n c _).mono ?_
  rintro e w1 ⟨rfl, hw1⟩
  obtain ⟨hr1, hb1, hc1⟩ := rd_start HC.out hn hw1
  have HR1 := hid hr1
  have HB1 := hid hb1
  have hsz1 : w.heap.size < w1.heap.size := hr1.lt.1
  clear hw1 hr1 hb1 hc1
  go_wp2_with fail
  refine (pairs_any w.heap.size w.heap.size 7 _ HR1.out (by omega)).mono ?_
  rintro e w2 ⟨A2, c2, ps, rfl, ho2, hm2, hr2, hg2⟩
  have HO2 := hid ho2
  have HS2 := hid (small_map hm2)
  have hl2 := (mapB_iff.1 hm2).1
  have HR2 := hid hr2
  have HB2 := hid (HB1.out.grown hg2 HB1.out.size (by simp))
  have hsz2 : w1.heap.size ≤ w2.heap.size := hg2.size
  clear ho2 hm2 hr2 hg2
  go_wp2_with fail
  refine (delta_any w.heap.size w.heap.size _ HR2.out).mono ?_
  rintro e w3 ⟨A3, c3, ls, rfl, ho3, ht3, hl3, hr3, hg3⟩
  have HO3 := hid ho3
  have HT3 := hid ht3.fits
  have HR3 := hid hr3
  have HM3 := hid (HO2.out.keep_g hg3 hsz1)
  have HB3 := hid (HB2.out.grown hg3 HB2.out.size (by simp))
  have hsz3 : w2.heap.size ≤ w3.heap.size := hg3.size
  clear ho3 ht3 hr3 hg3
  go_wp2_with fail
  refine (spec_Changed A2 c2 ps A3 c3 ls _ HM3.out.rp HS2.out.fits (by unfold maxLen; omega) HO3.out.rh HT3.out (by unfold maxLen; omega)).mono ?_
  rintro e w4 ⟨A4, c4, rfl, ho4, hb4⟩
  have HO4 := hid ho4
  have HR4 := hid (HR3.out.below hb4)
  have HM4 := hid (HM3.out.below hb4)
  have HB4 := hid (HB3.out.trans (hb4.mono HB3.out.size))
  have hsz4 : w3.heap.size ≤ w4.heap.size := hb4.size
  have HSC := hid (small_changed (m := ps) (l := ls))
  clear ho4 hb4
  cases hcb : changedB ps ls
  · go_wp2_with fail
    refine (pairs_any w.heap.size w.heap.size 7 _ HR4.out (by omega)).mono ?_
    rintro e w5 ⟨A5, c5, qs, rfl, ho5, hm5, hr5, hg5⟩
    have HO5 := hid ho5
    have HM5 := hid (HM4.out.keep_g hg5 hsz1)
    have HR5 := hid hr5
    have HB5 := hid (HB4.out.grown hg5 HB4.out.size (by simp))
    have hsz5 : w4.heap.size ≤ w5.heap.size := hg5.size
    clear ho5 hr5 hg5
    go_wp2_with fail
    refine (bent_any w.heap.size w4.heap.size w.heap.size A5 c5 qs _ HR5.out HO5.out (by omega) hm5 hsz5).mono ?_
    rintro e w6 ⟨A6, c6, rs, rfl, ho6, hs6, hl6, hr6, hk6⟩
    have HO6 := hid ho6
    have HS6 := hid hs6
    clear ho6 hs6 hr6
    go_wp2_with fail
    go_ret2
    exact ⟨A2, c2, ps, A6, c6, rs, rfl, (HM5.out.keep_kb HM4.out (Nat.le_refl _) hsz1 hk6).rp, HO6.out.rp, HM5.out.vs, HO6.out.vs, HS2.out, HS6.out, hl2, hl6, HB5.out.trans (hk6.low (by omega) (Nat.le_refl _))⟩
  · go_wp2_with fail
    refine (once_any w.heap.size w.heap.size 8 _ HR4.out (by omega) (by omega)).mono ?_
    rintro e w5 ⟨fl, rfl, hr5, hg5⟩
    have HR5 := hid hr5
    have HM5 := hid (HM4.out.keep_g hg5 hsz1)
    have HO5 := hid (HO4.out.keep_g hg5 (by omega))
    have HB5 := hid (HB4.out.grown hg5 HB4.out.size (by simp))
    have hsz5 : w4.heap.size ≤ w5.heap.size := hg5.size
    clear hr5 hg5
    cases fl
    · go_wp2_with fail
      go_ret2
      exact ⟨A2, c2, ps, A4, c4, _, rfl, HM5.out.rp, HO5.out.rp, HM5.out.vs, HO5.out.vs, HS2.out, HSC.out.1, hl2, HSC.out.2, HB5.out⟩
    · go_wp2_with fail
      refine (pairs_any w.heap.size w.heap.size 7 _ HR5.out (by omega)).mono ?_
      rintro e w6 ⟨A6, c6, qs, rfl, ho6, hm6, hr6, hg6⟩
      have HO6 := hid ho6
      have HM6 := hid (HM5.out.keep_g hg6 hsz1)
      have HR6 := hid hr6
      have HB6 := hid (HB5.out.grown hg6 HB5.out.size (by simp))
      have hsz6 : w5.heap.size ≤ w6.heap.size := hg6.size
      clear ho6 hr6 hg6
      go_wp2_with fail
      refine (bent_any w.heap.size w5.heap.size w.heap.size A6 c6 qs _ HR6.out HO6.out (by omega) hm6 hsz6).mono ?_
      rintro e w7 ⟨A7, c7, rs, rfl, ho7, hs7, hl7, hr7, hk7⟩
      have HO7 := hid ho7
      have HS7 := hid hs7
      clear ho7 hs7 hr7
      go_wp2_with fail
      go_ret2
      exact ⟨A2, c2, ps, A7, c7, rs, rfl, (HM6.out.keep_kb HM5.out (Nat.le_refl _) hsz1 hk7).rp, HO7.out.rp, HM6.out.vs, HO7.out.vs, HS2.out, HS7.out, hl2, hl7, HB6.out.trans (hk7.low (by omega) (Nat.le_refl _))⟩
end Go.Proofs.Ytoipcjdpfbgghab
