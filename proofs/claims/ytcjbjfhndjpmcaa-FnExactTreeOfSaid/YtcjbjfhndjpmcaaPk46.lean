import Derived.Test.YtcjbjfhndjpmcaaPk40
import Derived.Test.YtcjbjfhndjpmcaaPk45
/-
  The program's nodes, TreePut and TreeDrop.
-/
namespace Go.Proofs.Ytcjbjfhndjpmcaa
open Go.RowKit

/-- Nodes of the call's own. -/
def NodesOut (w : World) (ns : List ND) (e : Ending) (w' : World) : Prop := ∃ (A : Option Addr) (c : Nat) (L : List NH), e = .returned (.slice A ns.length c) ∧ L.map NH.nd = ns ∧ NodesO w' w.heap.size A c L ∧ Below w.heap.size w w'

set_option maxHeartbeats 2000000 in
set_option maxRecDepth 100000 in
theorem impl_nodes (t : BT) (R S : Nat → Prop) (g : Nat) (w : World) (hz : szT t ≤ 900) (hl : (allT t).length ≤ 1000) (ho : OV w R S g t) (hS : ∀ b, S b ∨ R b → b < w.heap.size) :
    Calls Try.prog 63 #[.pointer (some ⟨g, 0, none⟩)] w (NodesOut w (layT t 0)) := by
  have hW : ∃ W, W = (w.alloc (.cells #[.slice none 0 0] 24)).alloc (.cells #[fun2 110 w.heap.size (w.heap.size + 1)] 124) := ⟨_, rfl⟩
  obtain ⟨W, hW⟩ := hW
  have HBW : Hid (Below w.heap.size w W) := by
    rw [hW]
    exact ((Below.refl _ _).alloc (Nat.le_refl _) _).alloc (by simp) _
  have hb : One W w.heap.size (.slice none 0 0) 24 := by
    rw [hW]
    exact (One.new w _ _).below ((Below.refl _ _).alloc (Nat.le_refl _) _)
  have hf : One W (w.heap.size + 1) (fun2 110 w.heap.size (w.heap.size + 1)) 124 := by
    rw [hW]
    have := One.new (w.alloc (.cells #[.slice none 0 0] 24)) (fun2 110 w.heap.size (w.heap.size + 1)) 124
    simpa using this
  have hsz : w.heap.size + 2 ≤ W.heap.size := by rw [hW]; simp
  have hg := impl_lay w.heap.size R _ t S g none 0 0 [] W (Nat.le_refl _) (by simp; omega) hl (ho.keepB HBW.out hS) hS rfl hb (World.ownsRow_nil _ _ _ _ |> fun h => ⟨h, fun x hx => by simp at hx, List.Pairwise.nil⟩) hf hsz
  have HG := hid hg
  have f0 := hf.c
  unfold fun2 at hW f0
  clear ho hS hg hb hf
  subst hW
  go_enter Try.func63, Try.ntmps63
  go_wp2_with fail
  refine HG.out.mono ?_
  rintro e w1 ⟨rfl, A1, c1, L1, h1, h2, h3, h4, h5, h6⟩
  simp only [List.nil_append] at h1 h2 h3
  have x1 := h1.c
  have h3' : L1.map NH.nd = layT t 0 := h3
  have HFIN : Hid (NodesOut w (layT t 0) (.returned (.slice A1 L1.length c1)) w1) := by
    refine ⟨A1, c1, L1, by rw [← h3', List.length_map], h3', ⟨own_mono h2.1 (by omega), fun x hx => ⟨own_mono (h2.2.1 x hx).1 (by omega), own_mono (h2.2.1 x hx).2 (by omega)⟩, h2.2.2⟩, ?_⟩
    refine HBW.out.trans (h4.below (fun b hb => ?_) (by omega))
    rcases hb with rfl | hb
    · exact Nat.le_refl _
    · simp [Value.ownBlock] at hb
  clear h1 h2 h3 h4 h5 h6 f0
  go_wp2_with fail
  go_ret
  exact HFIN.out
end Go.Proofs.Ytcjbjfhndjpmcaa
/-
  The program's TreePut and TreeDrop.
-/
namespace Go.Proofs.Ytcjbjfhndjpmcaa
open Go.RowKit

def treeT (ns : List ND) : BT := (treeOf ns).getD nilT
/-- Whether TreePut takes it, and what it answers. -/
def putTB (ns : List ND) (k v : ByteArray) : Bool := treeB ns && (keyB k && (keyB v && decide ((allT (putA k v (treeT ns))).length ≤ 60)))
def putTR (ns : List ND) (k v : ByteArray) : List ND := if putTB ns k v then layT (putA k v (treeT ns)) 0 else []
def dropTB (ns : List ND) (k : ByteArray) : Bool := treeB ns && hasK (allT (treeT ns)) k
def dropTR (ns : List ND) (k : ByteArray) : List ND := if dropTB ns k then layT (dropA k (treeT ns)) 0 else []
def NodesOut2 (w : World) (ns : List ND) (b : Bool) (e : Ending) (w' : World) : Prop := ∃ (A : Option Addr) (c : Nat) (L : List NH), e = .returned (.tuple #[.slice A ns.length c, .bool b]) ∧ L.map NH.nd = ns ∧ NodesO w' w.heap.size A c L ∧ Below w.heap.size w w'
theorem NodesO.nil_ (w : World) (B : Nat) : NodesO w B none 0 [] := ⟨World.ownsRow_nil _ _ _ _, fun x hx => by simp at hx, List.Pairwise.nil⟩
theorem NodesOut2.no {w w' : World} {ns : List ND} {b : Bool} (hn : ns = []) (hb : b = false) (h : Below w.heap.size w w') : NodesOut2 w ns b (.returned (.tuple #[.slice none 0 0, .bool false])) w' := by
  subst hn hb
  exact ⟨none, 0, [], rfl, rfl, NodesO.nil_ _ _, h⟩
theorem NodesO.mono {w : World} {B B' c : Nat} {A : Option Addr} {L : List NH} (h : NodesO w B A c L) (hB : B' ≤ B) : NodesO w B' A c L :=
  ⟨own_mono h.1 hB, fun x hx => ⟨own_mono (h.2.1 x hx).1 hB, own_mono (h.2.1 x hx).2 hB⟩, h.2.2⟩
theorem NodesOut2.yes {w w1 w' : World} {ns ns' : List ND} {b : Bool} {A : Option Addr} {c : Nat} {L : List NH} (hb : b = true) (hn : ns = ns') (hL : L.map NH.nd = ns') (ho : NodesO w' w1.heap.size A c L) (h1 : Below w.heap.size w w1) (h2 : Below w1.heap.size w1 w') : NodesOut2 w ns b (.returned (.tuple #[.slice A ns'.length c, .bool true])) w' := by
  subst hb hn
  exact ⟨A, c, L, rfl, hL, ho.mono h1.size, h1.trans (h2.mono h1.size)⟩
theorem HasTreeV.fo {w w1 : World} {t : BT} {g : Nat} (h : HasTreeV w t g w1) (hs : w.heap.size ≤ w1.heap.size) : ∃ S : Nat → Prop, FO w1 (· < w.heap.size) [⟨g, S, t⟩] ∧ ∀ b, S b → w.heap.size ≤ b := by
  obtain ⟨S, h1, h2⟩ := h
  refine ⟨S, ⟨fun b hb => by omega, fun x hx => ?_, fun x hx b hb => ?_, List.pairwise_singleton _ _⟩, fun b hb => (h2 b hb).1⟩
  · have : x = ⟨g, S, t⟩ := by simpa using hx
    subst this
    exact h1
  · have : x = ⟨g, S, t⟩ := by simpa using hx
    subst this
    have := h2 b hb
    exact ⟨this.2, by omega⟩
/-- What is known of a right list. -/
theorem right_facts {ns : List ND} {t : BT} (hb : treeB ns = true) (ht : treeOf ns = some t) : treeT ns = t ∧ (∃ n, Fine n true t) ∧ risesB (allT t) = true ∧ szT t ≤ 100 ∧ (allT t).length ≤ 400 := by
  obtain ⟨t', ht', hr, _, hl⟩ := treeB_yes hb
  obtain rfl : t' = t := by rw [ht] at ht'; exact (Option.some.inj ht').symm
  obtain ⟨⟨n, hf⟩, hp⟩ := right_good.1 hr
  have hs := (parse_facts ns _ _ _ _ (treeOf_some ht)).2.2.2.1
  have hfu := ((good_iff _ _ _).1 hf).1
  have h4 := full_len _ t' true (Nat.le_refl _) hfu
  refine ⟨by simp [treeT, ht], ⟨n, hf⟩, ?_, by omega, by omega⟩
  simp only [pairsB, Bool.and_eq_true] at hp
  exact hp.2
theorem Step.belowB {w w' : World} {R R' : Nat → Prop} {M M' : List OH} {B : Nat} (h : Step w R M w' R' M') (hS : ∀ b, SU M b → B ≤ b) (hB : B ≤ w.heap.size) : Below B w w' := h.mod.below hS hB

set_option maxHeartbeats 4000000 in
set_option maxRecDepth 100000 in
theorem impl_TreePut (A : Option Addr) (c : Nat) (ns : List ND) (k v : ByteArray) (w : World) (hr : RNV w w.heap.size A ns) (hf : FitsN ns) (hs : SmallN ns) (hn : ns.length ≤ 1048576) (hk : k.size ≤ maxLen) (hv : v.size ≤ maxLen) :
    Calls Try.prog 25 #[.slice A ns.length c, .string k, .string v] w (NodesOut2 w (putTR ns k v) (putTB ns k v)) := by
  have HRT := hid (impl_rightTreeV A c ns w hr hf hs hn)
  have HKK := hid (fun W => impl_KeyOk k W hk)
  have HKV := hid (fun W => impl_KeyOk v W hv)
  clear hr hf hs
  go_enter Try.func25, Try.ntmps25
  go_wp2_with fail
  refine HRT.out.mono ?_
  rintro e w1 ⟨hb1, ⟨hb, rfl⟩ | ⟨hb, t, g, ht, rfl, htr⟩⟩
  · have HB : Hid (putTB ns k v = false) := by simp [Hid, putTB, hb]
    clear hb
    go_wp2_with fail
    go_ret2
    exact NodesOut2.no (by rw [putTR, HB.out]; rfl) HB.out hb1
  · obtain ⟨hT, ⟨n, hfi⟩, hri, hsz, hal⟩ := right_facts hb ht
    have HB1 := hid hb1
    obtain ⟨S, hfo, hS⟩ := htr.fo hb1.size
    have HPT : Hid (putTB ns k v = (keyB k && (keyB v && decide ((allT (putA k v t)).length ≤ 60)))) := by rw [Hid, putTB, hb, hT]; rfl
    have HFO := hid hfo
    have HS := hid hS
    clear hb ht htr hb1
    cases h2 : keyB k
    · have HB : Hid (putTB ns k v = false) := by rw [Hid, HPT.out, h2]; rfl
      go_wp2_with (go_at_call 77; (with_reducible refine (HKK.out _).mono ?_); rintro e w3 ⟨rfl, rfl⟩; rw [h2])
      go_ret2
      exact NodesOut2.no (by rw [putTR, HB.out]; rfl) HB.out HB1.out
    cases h3 : keyB v
    · have HB : Hid (putTB ns k v = false) := by rw [Hid, HPT.out, h2, h3]; rfl
      go_wp2_with (first
        | (go_at_call 77; (with_reducible refine (HKK.out _).mono ?_); rintro e w3 ⟨rfl, rfl⟩; rw [h2])
        | (go_at_call 77; (with_reducible refine (HKV.out _).mono ?_); rintro e w4 ⟨rfl, rfl⟩; rw [h3]))
      go_ret2
      exact NodesOut2.no (by rw [putTR, HB.out]; rfl) HB.out HB1.out
    have HPB := hid (impl_putBelow k v n ⟨g, S, t⟩ _ w1 hfo hfi hri)
    have HPA := hid (putA_good hfi hri (k := k) (v := v))
    have HPL := hid (putL_len1 hri k v)
    clear hfo hfi hri hS
    unfold ptr at HPB
    go_wp2_with (first
      | (go_at_call 77; (with_reducible refine (HKK.out _).mono ?_); rintro e w3 ⟨rfl, rfl⟩; rw [h2])
      | (go_at_call 77; (with_reducible refine (HKV.out _).mono ?_); rintro e w4 ⟨rfl, rfl⟩; rw [h3])
      | (go_at_call 78; refine HPB.out.mono ?_; rintro e w5 ⟨R5, z, rfl, hzt, hst⟩))
    obtain ⟨⟨m, hfm⟩, hall⟩ := HPA.out
    have hlen := HPL.out
    have hmz := good_few hfm
    have hzl : (allT (putA k v t)).length ≤ 401 := by rw [hall]; omega
    have HST := hid hst
    have HOV := hst.fo.ot z (List.mem_singleton.2 rfl)
    rw [hzt] at HOV
    have HAL := hid (impl_all (putA k v t) R5 z.S z.g w5 (by omega) (by omega) HOV.ot (by
      rintro b (hb | hb)
      · exact (hst.fo.su b (SU_one.2 hb)).1
      · exact hst.fo.rb b hb))
    have HB5 : Hid (Below w.heap.size w w5) := HB1.out.trans ((HST.out.belowB (B := w.heap.size) (fun b hb => HS.out b (SU_one.1 hb)) HB1.out.size))
    clear hst HOV
    obtain ⟨N, hN⟩ : ∃ N, N = (allT (putA k v t)).length := ⟨_, rfl⟩
    rw [← hN] at hzl hmz
    go_wp2_with fail
    have HNN : Hid (∀ W, Below w5.heap.size w5 W → Calls Try.prog 63 #[.pointer (some ⟨z.g, 0, none⟩)] W (NodesOut W (layT (putA k v t) 0))) := by
      intro W hW
      have hfo := (Step.below HST.out.fo hW).fo
      have hov := hfo.ot z (List.mem_singleton.2 rfl)
      rw [hzt] at hov
      exact impl_nodes (putA k v t) R5 z.S z.g W (by omega) (by omega) hov (by
        rintro b (hb | hb)
        · exact (hfo.su b (SU_one.2 hb)).1
        · exact hfo.rb b hb)
    refine HAL.out.mono ?_
    rintro e w6 ⟨A6, c6, rfl, ho6, hb6⟩
    rw [← hN]
    have HB6 : Hid (Below w.heap.size w w6) := HB5.out.trans (hb6.mono HB5.out.size)
    have HN6 := hid (HNN.out w6 hb6)
    clear HNN HAL ho6 hb6 hfm hall hlen hmz
    by_cases h4 : N ≤ 60
    · have HB : Hid (putTB ns k v = true) := by rw [Hid, HPT.out, h2, h3, ← hN]; simp [h4]
      have HR : Hid (putTR ns k v = layT (putA k v t) 0) := by rw [Hid, putTR, HB.out, if_pos rfl, hT]
      go_wp2_with fail
      refine HN6.out.mono ?_
      rintro e w7 ⟨A7, c7, L7, rfl, hL7, ho7, hb7⟩
      go_wp2_with fail
      go_ret2
      exact NodesOut2.yes HB.out HR.out hL7 ho7 HB6.out hb7
    · have HB : Hid (putTB ns k v = false) := by rw [Hid, HPT.out, h2, h3, ← hN]; simp; omega
      go_wp2_with fail
      go_ret2
      exact NodesOut2.no (by rw [putTR, HB.out]; rfl) HB.out HB6.out

set_option maxHeartbeats 4000000 in
set_option maxRecDepth 100000 in
theorem impl_TreeDrop (A : Option Addr) (c : Nat) (ns : List ND) (k : ByteArray) (w : World) (hr : RNV w w.heap.size A ns) (hf : FitsN ns) (hs : SmallN ns) (hn : ns.length ≤ 1048576) :
    Calls Try.prog 27 #[.slice A ns.length c, .string k] w (NodesOut2 w (dropTR ns k) (dropTB ns k)) := by
  have HRT := hid (impl_rightTreeV A c ns w hr hf hs hn)
  clear hr hf hs
  go_enter Try.func27, Try.ntmps27
  go_wp2_with fail
  refine HRT.out.mono ?_
  rintro e w1 ⟨hb1, ⟨hb, rfl⟩ | ⟨hb, t, g, ht, rfl, htr⟩⟩
  · have HB : Hid (dropTB ns k = false) := by simp [Hid, dropTB, hb]
    clear hb
    go_wp2_with fail
    go_ret2
    exact NodesOut2.no (by rw [dropTR, HB.out]; rfl) HB.out hb1
  · obtain ⟨hT, ⟨n, hfi⟩, hri, hsz, hal⟩ := right_facts hb ht
    have HB1 := hid hb1
    obtain ⟨S, hfo, hS⟩ := htr.fo hb1.size
    have HPT : Hid (dropTB ns k = hasK (allT t) k) := by rw [Hid, dropTB, hb, hT]; rfl
    have HS := hid hS
    have HPB := hid (impl_dropBelow k n ⟨g, S, t⟩ _ w1 hfo hfi hri)
    have HPA := hid (dropA_good hfi hri (k := k))
    have HPZ := hid (dropA_sz hfi (k := k))
    clear hb ht htr hb1 hfo hfi hri hS
    unfold ptr at HPB
    cases hh : hasK (allT t) k
    · have HB : Hid (dropTB ns k = false) := by rw [Hid, HPT.out, hh]
      go_wp2_with fail
      refine HPB.out.mono ?_
      intro e w2 hd
      rw [DropA, if_neg (by rw [hh]; simp)] at hd
      obtain ⟨rfl, hb2⟩ := hd
      have HB2 := hid hb2
      clear hb2
      go_wp2_with fail
      go_ret2
      exact NodesOut2.no (by rw [dropTR, HB.out]; rfl) HB.out (HB1.out.trans (HB2.out.mono HB1.out.size))
    · have HB : Hid (dropTB ns k = true) := by rw [Hid, HPT.out, hh]
      have HR : Hid (dropTR ns k = layT (dropA k t) 0) := by rw [Hid, dropTR, HB.out, if_pos rfl, hT]
      go_wp2_with fail
      refine HPB.out.mono ?_
      intro e w2 hd
      rw [DropA, if_pos hh] at hd
      obtain ⟨R5, z, rfl, hzt, hst⟩ := hd
      have HST := hid hst
      obtain ⟨⟨m, hfm⟩, hall⟩ := HPA.out
      have hdl := dropL_len (allT t) k
      have hz := HPZ.out
      have HB5 : Hid (Below w.heap.size w w2) := HB1.out.trans ((HST.out.belowB (B := w.heap.size) (fun b hb => HS.out b (SU_one.1 hb)) HB1.out.size))
      have HNN : Hid (Calls Try.prog 63 #[.pointer (some ⟨z.g, 0, none⟩)] w2 (NodesOut w2 (layT (dropA k t) 0))) := by
        have hov := hst.fo.ot z (List.mem_singleton.2 rfl)
        rw [hzt] at hov
        have hl2 : (allT (dropA k t)).length ≤ 1000 := by rw [hall]; omega
        exact impl_nodes (dropA k t) R5 z.S z.g w2 (by omega) hl2 hov (by
          rintro b (hb | hb)
          · exact (hst.fo.su b (SU_one.2 hb)).1
          · exact hst.fo.rb b hb)
      clear hst hfm hall
      go_wp2_with fail
      refine HNN.out.mono ?_
      rintro e w7 ⟨A7, c7, L7, rfl, hL7, ho7, hb7⟩
      go_wp2_with fail
      go_ret2
      exact NodesOut2.yes HB.out HR.out hL7 ho7 HB5.out hb7
end Go.Proofs.Ytcjbjfhndjpmcaa
