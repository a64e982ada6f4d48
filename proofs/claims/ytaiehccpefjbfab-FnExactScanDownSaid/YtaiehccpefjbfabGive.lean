/-
  The program's giveTo: it hands the pairs of a tree on, one by one, in their order, to what it is given, until that says no.
-/
import Derived.Test.YtaiehccpefjbfabIter
import Derived.Test.YtaiehccpefjbfabTopN
namespace Go.Proofs.Ytaiehccpefjbfab
open Go.RowKit

/-- A function value that has two boxes by it. -/
def funOf (f : FuncId) (lb : Array Value) : Value := .func (.func f) #[] lb
/-- What giveTo comes to. -/
def Gave (n₀ B h : Nat) (J Jx : PS → World → Prop) (qs l : PS) (w : World) (e : Ending) (w' : World) : Prop :=
  (e = .returned (.bool true) ∧ J (qs ++ l) w' ∧ KeptX n₀ B h w w') ∨ (e = .returned (.bool false) ∧ ∃ r, r <+: l ∧ Jx (qs ++ r) w')
theorem Gave.yes {n₀ B h : Nat} {J Jx : PS → World → Prop} {qs l qs' : PS} {w w' : World} (he : qs' = qs ++ l) (hJ : J qs' w') (hk : KeptX n₀ B h w w') : Gave n₀ B h J Jx qs l w (.returned (.bool true)) w' := .inl ⟨rfl, he ▸ hJ, hk⟩
theorem Gave.no {n₀ B h : Nat} {J Jx : PS → World → Prop} {qs l r qs' : PS} {w w' : World} (hr : r <+: l) (he : qs' = qs ++ r) (hJ : Jx qs' w') : Gave n₀ B h J Jx qs l w (.returned (.bool false)) w' := .inr ⟨rfl, r, hr, he ▸ hJ⟩

set_option maxHeartbeats 4000000 in
set_option maxRecDepth 100000 in
theorem impl_giveTo (n₀ B h nb yb N : Nat) (hnB : n₀ ≤ B) (hBh : B ≤ h) (J Jx : PS → World → Prop)
    (hJ : ∀ qs W o, J qs W → J qs (W.alloc o))
    (hY : ∀ qs p W, J qs W → qs.length < N → h ≤ W.heap.size → Calls Try.prog 63 #[.agg #[.string p.1, .string p.2], .pointer (some ⟨nb, 0, none⟩), .pointer (some ⟨yb, 0, none⟩)] W fun e W' =>
      (e = .returned (.bool true) ∧ J (qs ++ [p]) W' ∧ KeptX n₀ B h W W') ∨ (e = .returned (.bool false) ∧ Jx (qs ++ [p]) W')) :
    ∀ (n : Nat) (t : BT) (S : Nat → Prop) (g : Nat) (qs : PS) (w : World), szT t ≤ n → n ≤ 1000 → (allT t).length ≤ 4000 → OT w (· < n₀) S g t → (∀ b, S b → B ≤ b ∧ b < h) → h ≤ w.heap.size → J qs w → qs.length + (allT t).length ≤ N →
      Calls Try.prog 62 #[.pointer (some ⟨g, 0, none⟩), .func (.func 63) #[] #[.pointer (some ⟨nb, 0, none⟩), .pointer (some ⟨yb, 0, none⟩)]] w (Gave n₀ B h J Jx qs (allT t) w)
  | 0, t, _, _, _, _, hz, _, _, _, _, _, _, _ => by have := szT_pos t; omega
  | n + 1, .node ps ks, S, g, qs, w, hn, hn2, hlen, ho, hS, hsz, hj, hN => by
    obtain ⟨Ap, K, cp, d, c0, c1, hrp, hk⟩ := ho.open_
    have hkl : ks.length ≤ 1000 := by have := kids_len ks; simp only [szT] at hn; omega
    have hall : ps.length + (allK ks).length = (allT (.node ps ks)).length := by simp [allT]
    have hpl : ps.length ≤ 4000 := by omega
    have IH := hid (impl_giveTo n₀ B h nb yb N hnB hBh J Jx hJ hY n)
    have HY := hid hY
    have HJ := hid hJ
    have HJ0 := hid hj
    have HN : Hid (qs.length + (ps.length + (allK ks).length) ≤ N) := by rw [Hid, hall]; exact hN
    have HKL : Hid ((allK ks).length ≤ 4000) := by rw [Hid]; omega
    have HALL : Hid (allT (.node ps ks) = ps ++ allK ks) := by rw [Hid, allT]
    have HSK : Hid (∀ k (hk : k < ks.length), szT ks[k] ≤ n) := fun k hk => by have := sz_kid (ps := ps) hk; omega
    have HRP := hid (hrp.rp (B := n₀) (fun b h => h))
    have HS := hid hS
    have HB0 := hid hnB
    have HB1 := hid hBh
    have HSZ := hid hsz
    have hg := hS g ho.in_
    have keepc : ∀ {W : World} {b j : Nat}, KeptX n₀ B h w W → (B ≤ b ∧ b < h) → W.cell? ⟨b, j, none⟩ = w.cell? ⟨b, j, none⟩ := fun hk hb => World.cell?_of_block (a := ⟨_, _, none⟩) (hk.iv _ hb.1 hb.2)
    have C0 : Hid (∀ W : World, KeptX n₀ B h w W → W.cell? ⟨g, 0, none⟩ = some (.slice Ap ps.length cp) ∧ W.cell? ⟨g, 1, none⟩ = some (.slice K ks.length d)) := fun W hw => ⟨(keepc hw hg).trans c0, (keepc hw hg).trans c1⟩
    have HK : Hid (∀ (k : Nat) (hk : k < ks.length) (W : World), KeptX n₀ B h w W → ∃ (b gk : Nat) (Sk : Nat → Prop), K = some ⟨b, 0, none⟩ ∧ W.cell? ⟨b, k, none⟩ = some (ptr gk) ∧ (∀ x, Sk x → B ≤ x ∧ x < h) ∧ OT W (· < n₀) Sk gk ks[k]) := fun k hlt W hw => by
      obtain ⟨b, gk, Sk, e, hb, ck, hsub, _, hok⟩ := hk k hlt
      exact ⟨b, gk, Sk, e, (keepc hw (hS b hb)).trans ck, fun x h => hS x (hsub x h), hok.keep (fun x hx => by
        rcases hx with hx | hx
        · exact hw.iv x (hS x (hsub x hx)).1 (hS x (hsub x hx)).2
        · exact hw.bel.block x hx) (fun x hx => hx)⟩
    clear hn hS ho hk hall hlen hrp hj hN hY hJ hnB hBh hsz keepc hg
    go_enter Try.func62, Try.ntmps62
    go_wp2_with fail
    go_loopw [14] (fun i wr => ∃ k : Nat, k ≤ ps.length ∧ i = .int .i64 k ∧ J (qs ++ ps.take k) wr ∧ KeptX n₀ B h w wr) (fun i _ => ps.length - (intOf i).toNat)
    case atStart => exact ⟨0, Nat.zero_le _, rfl, by simpa using HJ0.out, KeptX.refl _ _ _ _⟩
    case round =>
      obtain ⟨k, hk, rfl, hj, hkx⟩ := hrel
      have HJK := hid hj
      have HKX := hid hkx
      have hwr : h ≤ wr.heap.size := Nat.le_trans HSZ.out hkx.bel.size
      clear hj c0 c1
      by_cases hlt : k < ps.length
      · obtain ⟨b, off, rfl, hb, hc1, hc2⟩ := (HRP.out.below hkx.bel).at_ hlt
        have hlen2 : (qs ++ ps.take k).length < N := by have := HN.out; simp; omega
        have htk : qs ++ ps.take k ++ [ps[k]] = qs ++ ps.take (k + 1) := by rw [List.take_succ_eq_append_getElem hlt, List.append_assoc]
        have HC : Hid (∀ o, Calls Try.prog 63 #[.agg #[.string ps[k].1, .string ps[k].2], .pointer (some ⟨nb, 0, none⟩), .pointer (some ⟨yb, 0, none⟩)] (wr.alloc o) fun e W' =>
            (e = .returned (.bool true) ∧ J (qs ++ ps.take (k + 1)) W' ∧ KeptX n₀ B h w W') ∨ (e = .returned (.bool false) ∧ Jx (qs ++ ps.take (k + 1)) W')) := fun o => by
          have h1 : h ≤ (wr.alloc o).heap.size := by simp; omega
          have h2 := HY.out (qs ++ ps.take k) ps[k] (wr.alloc o) (HJ.out _ _ _ HJK.out) hlen2 h1
          rw [htk] at h2
          refine h2.mono ?_
          rintro e W' (⟨rfl, hj', hk'⟩ | ⟨rfl, hx'⟩)
          · refine .inl ⟨rfl, hj', ((HKX.out.alloc ?_ hwr o).trans hk')⟩
            have := HB0.out; have := HB1.out; omega
          · exact .inr ⟨rfl, hx'⟩
        have HPR : Hid (ps.take (k + 1) <+: allT (.node ps ks)) := by rw [HALL.out]; exact (List.take_prefix _ _).trans (List.prefix_append _ _)
        clear hkx htk hlen2 hwr
        go_wp2_with fail
        refine (HC.out _).mono ?_
        rintro e W' (⟨rfl, hj', hk'⟩ | ⟨rfl, hx'⟩)
        · have HJ' := hid hj'
          have HK' := hid hk'
          clear hj' hk' hc1 hc2
          go_wp2_with fail
          go_roundw
          case rel => exact ⟨k + 1, by omega, by go_num, HJ'.out, HK'.out⟩
          case measure => simp [intOf]; omega
        · have HX' := hid hx'
          clear hx' hc1 hc2
          go_wp2_with fail
          go_ret
          exact Gave.no HPR.out rfl HX'.out
      · obtain rfl : k = ps.length := by omega
        rw [List.take_length] at HJK
        obtain ⟨x0, x1⟩ := C0.out _ hkx
        have HSTART : Hid (∃ k : Nat, k ≤ ks.length ∧ (Value.int .i64 0) = .int .i64 k ∧ J (qs ++ (ps ++ allK (ks.take k))) wr ∧ KeptX n₀ B h w wr) := ⟨0, Nat.zero_le _, rfl, by simpa [allK] using HJK.out, HKX.out⟩
        clear hkx HJK
        go_wp2_with fail
        go_loopw [28] (fun i wr => ∃ k : Nat, k ≤ ks.length ∧ i = .int .i64 k ∧ J (qs ++ (ps ++ allK (ks.take k))) wr ∧ KeptX n₀ B h w wr) (fun i _ => ks.length - (intOf i).toNat)
        case atStart => exact HSTART.out
        case round =>
          obtain ⟨k, hk, rfl, hj, hkx⟩ := hrel
          have HJK := hid hj
          have HKX := hid hkx
          have hwr : h ≤ wr.heap.size := Nat.le_trans HSZ.out hkx.bel.size
          clear hj
          by_cases hlt : k < ks.length
          · obtain ⟨b, gk, Sk, rfl, ck, hSk, hok⟩ := HK.out k hlt wr hkx
            unfold ptr at ck
            have htk := allK_take hlt
            have hat := allK_take_le ks (k + 1)
            have hl3 : (allT ks[k]).length ≤ 4000 := by have := HKL.out; have := allK_at hlt; omega
            have hl4 : (qs ++ (ps ++ allK (ks.take k))).length + (allT ks[k]).length ≤ N := by
              rw [htk, List.length_append] at hat
              have := HN.out
              simp only [List.length_append]
              omega
            have HC : Hid (Calls Try.prog 62 #[.pointer (some ⟨gk, 0, none⟩), .func (.func 63) #[] #[.pointer (some ⟨nb, 0, none⟩), .pointer (some ⟨yb, 0, none⟩)]] wr fun e W' =>
                (e = .returned (.bool true) ∧ J (qs ++ (ps ++ allK (ks.take (k + 1)))) W' ∧ KeptX n₀ B h w W') ∨ (e = .returned (.bool false) ∧ ∃ r, r <+: allT (.node ps ks) ∧ Jx (qs ++ r) W')) := by
              refine (IH.out ks[k] Sk gk (qs ++ (ps ++ allK (ks.take k))) wr (HSK.out k hlt) (by omega) hl3 hok hSk hwr HJK.out hl4).mono ?_
              rintro e W' (⟨rfl, hj', hk'⟩ | ⟨rfl, r, hr, hx'⟩)
              · exact .inl ⟨rfl, by rw [htk]; simpa only [List.append_assoc] using hj', HKX.out.trans hk'⟩
              · refine .inr ⟨rfl, ps ++ (allK (ks.take k) ++ r), ?_, by simpa only [List.append_assoc] using hx'⟩
                rw [HALL.out]
                refine List.prefix_append_right_inj _ |>.2 (List.IsPrefix.trans (l₂ := allK (ks.take (k + 1))) ?_ ?_)
                · rw [htk]
                  exact List.prefix_append_right_inj _ |>.2 hr
                · have h5 := allK_append (ks.take (k + 1)) (ks.drop (k + 1))
                  rw [List.take_append_drop] at h5
                  rw [h5]
                  exact List.prefix_append _ _
            clear hkx hl3 hl4 hat htk hok hSk hwr
            go_wp2_with fail
            refine HC.out.mono ?_
            rintro e W' (⟨rfl, hj', hk'⟩ | ⟨rfl, r, hr, hx'⟩)
            · have HJ' := hid hj'
              have HK' := hid hk'
              clear hj' hk' ck
              go_wp2_with fail
              go_roundw
              case rel => exact ⟨k + 1, by omega, by go_num, HJ'.out, HK'.out⟩
              case measure => simp [intOf]; omega
            · have HX' := hid hx'
              have HR' := hid hr
              clear hx' hr ck
              go_wp2_with fail
              go_ret
              exact Gave.no HR'.out rfl HX'.out
          · obtain rfl : k = ks.length := by omega
            rw [List.take_length] at HJK
            clear hkx
            go_wp2_with fail
            go_ret
            exact Gave.yes (by rw [HALL.out]) HJK.out HKX.out
end Go.Proofs.Ytaiehccpefjbfab
