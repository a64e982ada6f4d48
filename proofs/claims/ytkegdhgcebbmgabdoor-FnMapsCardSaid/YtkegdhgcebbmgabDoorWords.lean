/-
  Words of a text: plain facts, and the model's l1Cut and l1Words.
-/
import Derived.Test.YtkegdhgcebbmgabDoorMapTextI
import Derived.Lib.Split
import Derived.OwnWalk
import Derived.Deep.AppendLies
namespace Go.Proofs.YtkegdhgcebbmgabDoor
open Go.RowKit

theorem byte_hit {l : List UInt8} {c : UInt8} {i : Nat} (h : l[i]? = some c) (hn : ∀ k : Nat, k < i → l[k]? ≠ some c) : Lib.indexByte l c = i := by
  have hge := Lib.indexByte_ge l c
  by_cases h1 : Lib.indexByte l c = -1
  · exact absurd h (Lib.indexByte_none h1 i)
  · obtain ⟨o, ho⟩ : ∃ o : Nat, Lib.indexByte l c = o := ⟨(Lib.indexByte l c).toNat, by omega⟩
    obtain ⟨h2, h3⟩ := Lib.indexByte_some ho
    by_cases h4 : o < i
    · exact absurd h2 (hn o h4)
    · by_cases h5 : i < o
      · exact absurd h (h3 i h5)
      · rw [ho]; omega
theorem byte_miss {l : List UInt8} {c : UInt8} (hn : ∀ k : Nat, l[k]? ≠ some c) : Lib.indexByte l c = -1 := by
  have hge := Lib.indexByte_ge l c
  by_cases h1 : Lib.indexByte l c = -1
  · exact h1
  · obtain ⟨o, ho⟩ : ∃ o : Nat, Lib.indexByte l c = o := ⟨(Lib.indexByte l c).toNat, by omega⟩
    exact absurd (Lib.indexByte_some ho).1 (hn o)

/-- A text cut at the first byte of the kind. -/
def cutW (s : ByteArray) (c : UInt8) : ByteArray × ByteArray × Bool :=
  if 0 ≤ Lib.indexByte s.data.toList c then (s.extract 0 (Lib.indexByte s.data.toList c).toNat, s.extract ((Lib.indexByte s.data.toList c).toNat + 1) s.size, true) else (s, ⟨#[]⟩, false)
def noC (s : ByteArray) (c : UInt8) (k : Nat) : Prop := ∀ (j : Nat) (h : j < s.size), j < k → s[j] ≠ c
theorem noC_zero (s : ByteArray) (c : UInt8) : noC s c 0 := fun _ _ h => absurd h (by omega)
theorem noC_succ {s : ByteArray} {c : UInt8} {k : Nat} (h : noC s c k) (hk : k < s.size) (he : s[k] ≠ c) : noC s c (k + 1) := by
  intro j hj hlt
  by_cases e : j = k
  · subst e
    exact he
  · exact h j hj (by omega)
theorem cut_hit {s : ByteArray} {c : UInt8} {k : Nat} (h : noC s c k) (hk : k < s.size) (he : s[k] = c) : Lib.indexByte s.data.toList c = k := by
  refine byte_hit ?_ fun j hj => ?_
  · rw [Lib.data_getElem? s k hk, he]
  · rw [Lib.data_getElem? s j (by omega)]
    exact fun e => h j (by omega) hj (Option.some.inj e)
theorem cut_none {s : ByteArray} {c : UInt8} (h : noC s c s.size) : Lib.indexByte s.data.toList c = -1 := by
  refine byte_miss fun j => ?_
  by_cases hj : j < s.size
  · rw [Lib.data_getElem? s j hj]
    exact fun e => h j hj hj (Option.some.inj e)
  · rw [List.getElem?_eq_none (by rw [← Lib.size_eq]; omega)]
    simp
theorem cutW_hit {s : ByteArray} {c : UInt8} {k : Nat} (h : Lib.indexByte s.data.toList c = k) : cutW s c = (s.extract 0 k, s.extract (k + 1) s.size, true) := by
  rw [cutW, h, if_pos (by omega)]
  rfl
theorem cutW_none {s : ByteArray} {c : UInt8} (h : Lib.indexByte s.data.toList c = -1) : cutW s c = (s, ⟨#[]⟩, false) := by
  rw [cutW, h, if_neg (by omega)]
theorem indexB_byte (s : ByteArray) (c : UInt8) : Lib.indexB s ⟨#[c]⟩ = Lib.indexByte s.data.toList c := Lib.index_one _ _

/-- All words of a text. -/
def wordsOf (s : ByteArray) : List ByteArray := Lib.splitB ⟨#[32]⟩ 0 s.size s
theorem extract_size_le (s : ByteArray) (i : Nat) : (s.extract (i + 1) s.size).size ≤ s.size - (i + 1) := by
  rw [ByteArray.size_extract]
  omega
theorem splitB_fuel (c : UInt8) : ∀ (m : Nat) (b : ByteArray) (k k' : Nat), b.size ≤ m → b.size ≤ k → b.size ≤ k' → Lib.splitB ⟨#[c]⟩ 0 k b = Lib.splitB ⟨#[c]⟩ 0 k' b := by
  intro m
  induction m with
  | zero =>
    intro b k k' h _ _
    rcases Lib.indexB_cases b ⟨#[c]⟩ with h1 | ⟨i, _, h2⟩
    · rw [Lib.splitB_miss _ _ _ _ h1, Lib.splitB_miss _ _ _ _ h1]
    · have : (⟨#[c]⟩ : ByteArray).size = 1 := rfl
      omega
  | succ m ih =>
    intro b k k' h hk hk'
    rcases Lib.indexB_cases b ⟨#[c]⟩ with h1 | ⟨i, h1, h2⟩
    · rw [Lib.splitB_miss _ _ _ _ h1, Lib.splitB_miss _ _ _ _ h1]
    · have hs : (⟨#[c]⟩ : ByteArray).size = 1 := rfl
      obtain ⟨q, rfl⟩ : ∃ q, k = q + 1 := ⟨k - 1, by omega⟩
      obtain ⟨q', rfl⟩ : ∃ q', k' = q' + 1 := ⟨k' - 1, by omega⟩
      have hx := extract_size_le b i
      rw [Lib.splitB_hit _ _ _ _ _ h1, Lib.splitB_hit _ _ _ _ _ h1, hs, ih _ q q' (by omega) (by omega) (by omega)]
theorem words_hit {s : ByteArray} {k : Nat} (h : Lib.indexByte s.data.toList 32 = k) (hk : k < s.size) : wordsOf s = s.extract 0 k :: wordsOf (s.extract (k + 1) s.size) := by
  have h1 : Lib.indexB s ⟨#[32]⟩ = k := (indexB_byte s 32).trans h
  have hx := extract_size_le s k
  unfold wordsOf
  obtain ⟨q, hq⟩ : ∃ q, s.size = q + 1 := ⟨s.size - 1, by omega⟩
  rw [show Lib.splitB ⟨#[32]⟩ 0 s.size s = Lib.splitB ⟨#[32]⟩ 0 (q + 1) s by rw [hq], Lib.splitB_hit _ _ _ _ _ h1, show (⟨#[32]⟩ : ByteArray).size = 1 from rfl, splitB_fuel 32 q _ q _ (by omega) (by omega) (Nat.le_refl _)]
  rfl
theorem words_none {s : ByteArray} (h : Lib.indexByte s.data.toList 32 = -1) : wordsOf s = [s] := Lib.splitB_miss _ _ _ _ ((indexB_byte s 32).trans h)

theorem ret_cut {x y : ByteArray × ByteArray × Bool} (h : x = y) : Ending.returned (.tuple #[.string x.1, .string x.2.1, .bool x.2.2]) = .returned (.tuple #[.string y.1, .string y.2.1, .bool y.2.2]) := by rw [h]

set_option maxHeartbeats 1000000 in
theorem spec_l1Cut (s : ByteArray) (c : UInt8) (ci : Int) (w : World) (hc : ci = (c.toNat : Int)) (hs : s.size ≤ maxLen) :
    Calls Tryd.prog 63 #[.string s, .int .u8 ci] w fun e w' => e = .returned (.tuple #[.string (cutW s c).1, .string (cutW s c).2.1, .bool (cutW s c).2.2]) ∧ Drawn w w' := by
  unfold maxLen at hs
  have HC := hid hc
  go_enter Tryd.func63, Tryd.ntmps63
  go_wp2_with fail
  go_loopw [7] (fun i wr => ∃ k : Nat, k ≤ s.size ∧ i = .int .i64 (k : Int) ∧ Hid (noC s c k) ∧ wr = w) (fun i _ => s.size - (intOf i).toNat)
  case atStart => exact ⟨0, Nat.zero_le _, rfl, noC_zero s c, rfl⟩
  case round =>
    obtain ⟨k, hk, rfl, HN, rfl⟩ := hrel
    by_cases hlt : k < s.size
    · have e5 : (0 : Int) ≤ (k : Int) := by omega
      have e6 : (k : Int) < (s.size : Int) := by omega
      by_cases he : s[k] = c
      · have HE := hid (cutW_hit (cut_hit HN.out hlt he))
        have g1 : ((s[k].toNat : Int) == ci) = true := by rw [HC.out, he]; simp
        have e7 : (k : Int) + 1 ≤ (s.size : Int) := by omega
        have e8 : (k : Int) ≤ (s.size : Int) := by omega
        clear he hc
        go_wp2_with fail
        go_quiet (fail)
        go_wp2_with fail
        go_ret3
        exact ⟨ret_cut HE.out.symm, (Drawn.refl _).drewN _⟩
      · have HS := hid (noC_succ HN.out hlt he)
        have g1 : ((s[k].toNat : Int) == ci) = false := by
          rw [HC.out, beq_eq_false_iff_ne]
          exact fun e => he (UInt8.toNat_inj.1 (by omega))
        clear he hc
        go_wp2_with fail
        go_roundw
        case rel => exact ⟨k + 1, by omega, by go_num, HS.out, trivial⟩
        case measure => simp [intOf]; omega
    · obtain rfl : k = s.size := by omega
      have HE := hid (cutW_none (cut_none HN.out))
      clear hc
      go_wp2_with fail
      go_ret3
      exact ⟨ret_cut HE.out.symm, Drawn.refl _⟩

def wcells (xs : List ByteArray) : List Value := xs.map Value.string
theorem wcells_snoc (xs : List ByteArray) (x : ByteArray) : wcells xs ++ [.string x] = wcells (xs ++ [x]) := by simp [wcells]
def msW : Value → Value → Nat
  | .string r, .bool true => r.size + 1
  | _, _ => 0
/-- Words in a row of the call's own. -/
def MadeW (w : World) (xs : List ByteArray) (e : Ending) (w' : World) : Prop :=
  ∃ (g c : Nat), e = .returned (.slice (some ⟨g, 0, none⟩) xs.length c) ∧ w'.ownsRow w.heap.size 9 1 (.slice (some ⟨g, 0, none⟩) xs.length c) xs.length (wcells xs) ∧ Below w.heap.size w w'

set_option maxHeartbeats 2000000 in
set_option maxRecDepth 100000 in
theorem spec_l1Words (s : ByteArray) (w : World) (hs : s.size ≤ 1048576) :
    Calls Tryd.prog 46 #[.string s, .int .u8 32] w (MadeW w (wordsOf s)) := by
  obtain ⟨i0, hi0, hz0, hz1, hz2⟩ := info_parts stringInfo
  have hb0 : Below w.heap.size w (w.alloc (.cells #[] 9)) := (Below.refl _ _).alloc (Nat.le_refl _) _
  have HB0 := hid hb0
  have HO0 : Hid ((w.alloc (.cells #[] 9)).ownsRow w.heap.size 9 1 (.slice (some ⟨w.heap.size, 0, none⟩) 0 0) 0 []) := World.ownsRow_made w #[] 0 (Nat.le_refl _) (by unfold maxLen; omega) rfl
  clear hb0
  go_enter Tryd.func46, Tryd.ntmps46
  go_wp2_with fail
  go_loopw [0, 5, 6] (fun vs vo vm wr => ∃ (r : ByteArray) (g cc : Nat) (done : List ByteArray), vs = .string r ∧ vo = .slice (some ⟨g, 0, none⟩) done.length cc ∧ Hid (wr.ownsRow w.heap.size 9 1 (.slice (some ⟨g, 0, none⟩) done.length cc) done.length (wcells done)) ∧ r.size ≤ s.size ∧ Below w.heap.size w wr ∧
    ((vm = .bool true ∧ Hid (done ++ wordsOf r = wordsOf s) ∧ done.length + r.size ≤ s.size) ∨ (vm = .bool false ∧ Hid (done = wordsOf s)))) (fun vs _ vm _ => msW vs vm)
  case atStart => exact ⟨s, w.heap.size, 0, [], rfl, rfl, HO0.out, Nat.le_refl _, HB0.out, .inl ⟨rfl, rfl, by simp⟩⟩
  case round =>
    obtain ⟨r, g, cc, done, rfl, rfl, HO, hrs, hbw, hcase⟩ := hrel
    have HD := hid hbw
    have hbs := hbw.size
    clear hbw
    rcases hcase with ⟨rfl, HW, hdl⟩ | ⟨rfl, HW⟩
    · by_cases hm : Lib.indexByte r.data.toList 32 = -1
      · have hc : Calls Tryd.prog 63 #[.string r, .int .u8 32] wr fun e w' => e = .returned (.tuple #[.string r, .string ⟨#[]⟩, .bool false]) ∧ Drawn wr w' := by
          have h := spec_l1Cut r 32 32 wr rfl (by unfold maxLen; omega)
          rw [cutW_none hm] at h
          exact h
        have HC := hid hc
        have HE : Hid (done ++ [r] = wordsOf s) := by rw [← words_none hm]; exact HW.out
        clear hc hm HW
        go_wp2_with fail
        refine HC.out.mono ?_
        rintro e w1 ⟨rfl, hd1⟩
        have HB1 := hid (hd1.below wr.heap.size)
        have hs1 := HB1.out.size
        clear hd1
        have HO2 := hid ((HO.out.kept (below_grown HB1.out) (.inr (by simp [Value.ownBlock]))).alloc (.cells #[.string r] 9))
        go_wp2_with (at_builtin; refine wpList_append_lies _ rfl _ _ _ rfl w.heap.size 9 i0 _ 1 16 Tryd.underlying41 hi0 hz0 hz1 hz2 rfl (by omega) (.slice (some ⟨g, 0, none⟩) done.length cc) done.length _ rfl HO2.out ⟨w1.heap.size, 0, none⟩ 1 1 [.string r] rfl rfl (World.news_of_block (cs := #[.string r]) (t := 9) (fr := (0, 0)) (heap_alloc_new w1 _)) (by simp [Value.oneCell']) (by omega) (by unfold maxLen; omega) (by omega) (by simp; omega) (w1.heap.size + 1) (by simp) ?_; intro gg cap w4 hown4 hgrow4 hat4 hlt4; have HO4 := hid hown4; have HG4 := hid hgrow4; clear hown4 hgrow4 hat4)
        go_roundw
        case rel => exact ⟨⟨#[]⟩, gg, cap, done ++ [r], rfl, by simp, by
            have h := HO4.out
            rw [wcells_snoc] at h
            rw [Hid, List.length_append]
            exact h, Nat.zero_le _, ((HD.out.trans (HB1.out.mono hbs)).alloc (by omega) _).grown HG4.out (by simp; omega) (fun k hk => (World.ownsRow.lt HO2.out k hk).1), .inr ⟨rfl, HE.out⟩⟩
        case measure => simp [msW]
      · obtain ⟨k, hk⟩ : ∃ k : Nat, Lib.indexByte r.data.toList 32 = k := ⟨(Lib.indexByte r.data.toList 32).toNat, by have := Lib.indexByte_ge r.data.toList 32; omega⟩
        have hkl : k < r.size := by
          have := (List.getElem?_eq_some_iff.1 (Lib.indexByte_some hk).1).1
          rwa [← Lib.size_eq] at this
        have hc : Calls Tryd.prog 63 #[.string r, .int .u8 32] wr fun e w' => e = .returned (.tuple #[.string (r.extract 0 k), .string (r.extract (k + 1) r.size), .bool true]) ∧ Drawn wr w' := by
          have h := spec_l1Cut r 32 32 wr rfl (by unfold maxLen; omega)
          rw [cutW_hit hk] at h
          exact h
        have HC := hid hc
        have hx := extract_size_le r k
        have HE : Hid (done ++ [r.extract 0 k] ++ wordsOf (r.extract (k + 1) r.size) = wordsOf s) := by
          have h := HW.out
          rw [words_hit hk hkl] at h
          rw [Hid, List.append_assoc]
          exact h
        generalize r.extract 0 k = a at *
        generalize r.extract (k + 1) r.size = r2 at *
        clear hc hm HW hk
        go_wp2_with fail
        refine HC.out.mono ?_
        rintro e w1 ⟨rfl, hd1⟩
        have HB1 := hid (hd1.below wr.heap.size)
        have hs1 := HB1.out.size
        clear hd1
        have HO2 := hid ((HO.out.kept (below_grown HB1.out) (.inr (by simp [Value.ownBlock]))).alloc (.cells #[.string a] 9))
        go_wp2_with (at_builtin; refine wpList_append_lies _ rfl _ _ _ rfl w.heap.size 9 i0 _ 1 16 Tryd.underlying41 hi0 hz0 hz1 hz2 rfl (by omega) (.slice (some ⟨g, 0, none⟩) done.length cc) done.length _ rfl HO2.out ⟨w1.heap.size, 0, none⟩ 1 1 [.string a] rfl rfl (World.news_of_block (cs := #[.string a]) (t := 9) (fr := (0, 0)) (heap_alloc_new w1 _)) (by simp [Value.oneCell']) (by omega) (by unfold maxLen; omega) (by omega) (by simp; omega) (w1.heap.size + 1) (by simp) ?_; intro gg cap w4 hown4 hgrow4 hat4 hlt4; have HO4 := hid hown4; have HG4 := hid hgrow4; clear hown4 hgrow4 hat4)
        go_roundw
        case rel => exact ⟨r2, gg, cap, done ++ [a], rfl, by simp, by
            have h := HO4.out
            rw [wcells_snoc] at h
            rw [Hid, List.length_append]
            exact h, by omega, ((HD.out.trans (HB1.out.mono hbs)).alloc (by omega) _).grown HG4.out (by simp; omega) (fun k hk => (World.ownsRow.lt HO2.out k hk).1), .inl ⟨rfl, HE.out, by simp; omega⟩⟩
        case measure => simp only [msW]; omega
    · obtain rfl : done = wordsOf s := HW.out
      go_wp2_with fail
      go_ret
      exact ⟨g, cc, rfl, HO.out, HD.out⟩
end Go.Proofs.YtkegdhgcebbmgabDoor
