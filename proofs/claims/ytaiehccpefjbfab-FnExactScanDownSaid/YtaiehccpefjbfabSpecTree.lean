/-
  The model's trees: contracts of what reads them.
-/
import Derived.Test.YtaiehccpefjbfabTreeMem
import Derived.Test.YtaiehccpefjbfabAppend
namespace Go.Proofs.Ytaiehccpefjbfab
open Go.RowKit

/-- No node has many kids. -/
def SmallK (ns : List ND) : Prop := ∀ (k : Nat) (h : k < ns.length), ns[k].2.length ≤ 1048576
/-- Where a tree of a list ends; -1: there is none. -/
def endI : Option (BT × Nat) → Int
  | none => -1
  | some (_, e) => (e : Int)
theorem neI_true {x y : Int} (h : x ≠ y) : (x != y) = true := by simp [h]
theorem neI_false {x y : Int} (h : x = y) : (x != y) = false := by simp [h]
theorem endI_yes {ns : List ND} {f n : Nat} (h : n < ns.length) {ts : List BT} {e : Nat} (hk : kidsBy (parse ns f) ns.length ns[n].2 (n + 1) = some (ts, e)) : endI (parse ns (f + 1) n) = (e : Int) := by
  rw [parse_yes h hk]; rfl
theorem endI_no {ns : List ND} {f n : Nat} (h : n < ns.length) (hk : kidsBy (parse ns f) ns.length ns[n].2 (n + 1) = none) : endI (parse ns (f + 1) n) = -1 := by
  rw [parse_no h hk]; rfl
theorem ret_i {a b : Int} (h : a = b) : Ending.returned (.int .i64 a) = .returned (.int .i64 b) := by rw [h]

set_option maxHeartbeats 2000000 in
set_option maxRecDepth 100000 in
theorem spec_l2Listed (A : Option Addr) (c : Nat) (ns : List ND) (B : Nat) (hl : ns.length ≤ 100) (hks : SmallK ns) : ∀ (f n : Nat) (w : World), RN w B A ns → n < ns.length → ns.length - n ≤ f →
    Calls Try.prog 67 #[.slice A ns.length c, .int .i64 (n : Int)] w fun e w' => e = .returned (.int .i64 (endI (parse ns f n))) ∧ w = w'
  | 0, n, w, _, h, h' => by omega
  | f + 1, n, w, hr, hn, hf => by
    obtain ⟨b, off, A', K', c', d', rfl, hb, hc1, hc2, hrp, hri⟩ := hr.at_ hn
    have HR := hid hr
    have HRI := hid hri
    have hkl := hks n hn
    have IH := hid (spec_l2Listed (some ⟨b, off, none⟩) c ns B hl hks f)
    have HP := hid (fun m t e => parse_facts ns f m t e)
    have HY := hid (fun ts e h => @endI_yes ns f n hn ts e h)
    have HN := hid (@endI_no ns f n hn)
    have e5 : (0 : Int) ≤ (n : Int) := by omega
    have e6 : (n : Int) < (ns.length : Int) := by omega
    clear hr hrp hri
    go_enter Try.func67, Try.ntmps67
    go_wp2_with fail
    go_loop [5, 6] (fun q i => ∃ (k m : Nat) (ts : List BT), k ≤ ns[n].2.length ∧ i = .int .i64 k ∧ q = .int .i64 m ∧ n + 1 ≤ m ∧ m ≤ ns.length ∧ kidsBy (parse ns f) ns.length (ns[n].2.take k) (n + 1) = some (ts, m)) (fun _ i => ns[n].2.length - (intOf i).toNat)
    case atStart => exact ⟨0, n + 1, [], Nat.zero_le _, rfl, by go_num, Nat.le_refl _, by omega, rfl⟩
    case round =>
      obtain ⟨k, m, ts, hk, rfl, rfl, hm1, hm2, hkb⟩ := hrel
      by_cases hlt : k < ns[n].2.length
      · obtain ⟨b2, off2, rfl, hb2, hc3⟩ := HRI.out.at_ hlt
        have e7 : (k : Int) < (ns[n].2.length : Int) := by omega
        have e8 : (0 : Int) ≤ (k : Int) := by omega
        have HK1 := hid (fun (g1 : ns[n].2[k] = (m : Int)) (g2 : m < ns.length) (t : BT) (e : Nat) (hf : parse ns f m = some (t, e)) => kid_yes hlt hkb g1 g2 hf)
        have HK2 := hid (@kid_no1 (parse ns f) ns.length ns[n].2 k (n + 1) hlt ts m hkb)
        have HK3 := hid (@kid_no2 (parse ns f) ns.length ns[n].2 k (n + 1) hlt ts m hkb)
        clear hkb
        by_cases he : ns[n].2[k] = (m : Int)
        · have h1 := neI_false he
          have HE := hid he
          clear he
          by_cases hml : m < ns.length
          · cases hp : parse ns f m with
            | none =>
              have hi := IH.out m w HR.out hml (by omega)
              rw [hp] at hi
              have HI := hid hi
              have HX := hid (HN.out (HK3.out hp))
              clear hi hp
              go_wp2_with (go_at_call 67; refine HI.out.mono ?_; rintro e w' ⟨rfl, rfl⟩; simp only [endI])
              go_ret
              exact ⟨ret_i HX.out.symm, rfl⟩
            | some x =>
              obtain ⟨t, e⟩ := x
              have hi := IH.out m w HR.out hml (by omega)
              rw [hp] at hi
              have HI := hid hi
              obtain ⟨p1, p2, _, _, _⟩ := HP.out m t e hp
              have HX := hid (HK1.out HE.out hml _ _ hp)
              clear hi hp
              go_wp2_with (go_at_call 67; refine HI.out.mono ?_; rintro e w' ⟨rfl, rfl⟩; simp only [endI])
              go_round
              case rel => exact ⟨k + 1, e, ts ++ [t], by omega, by go_num, rfl, by omega, by omega, HX.out⟩
              case measure => simp [intOf]; omega
          · have HX := hid (HN.out (HK2.out (fun h => hml h.2)))
            go_wp2_with fail
            go_ret
            exact ⟨ret_i HX.out.symm, rfl⟩
        · have h1 := neI_true he
          have HX := hid (HN.out (HK2.out (fun h => he h.1)))
          clear he
          go_wp2_with fail
          go_ret
          exact ⟨ret_i HX.out.symm, rfl⟩
      · obtain rfl : k = ns[n].2.length := by omega
        rw [List.take_length] at hkb
        have HX := hid (HY.out _ _ hkb)
        clear hkb
        go_wp2_with fail
        go_ret
        exact ⟨ret_i HX.out.symm, rfl⟩
end Go.Proofs.Ytaiehccpefjbfab
