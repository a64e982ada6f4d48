/-
  ReadMap: plain facts on the first words of a text.
-/
import Derived.Test.YtkegdhgcebbmgabDoorReadS
namespace Go.Proofs.YtkegdhgcebbmgabDoor
open Go.RowKit

theorem join_cons2 (a : List UInt8) (sep : List UInt8) : ∀ rest : List (List UInt8), rest ≠ [] → Lib.join (a :: rest) sep = a ++ (sep ++ Lib.join rest sep)
  | [], h => absurd rfl h
  | y :: r, _ => by
    rw [Lib.join_cons, Lib.join_cons, Lib.joinTail, List.map_cons, List.flatten_cons, Lib.joinTail]
    simp only [List.append_assoc]
theorem splitB_ne (sep : ByteArray) (k : Nat) (s : ByteArray) : Lib.splitB sep 0 k s ≠ [] := by
  cases k with
  | zero => simp [Lib.splitB_zero]
  | succ k =>
    rcases Lib.indexB_cases s sep with h1 | ⟨i, h1, h2⟩
    · rw [Lib.splitB_miss _ _ _ _ h1]
      simp
    · rw [Lib.splitB_hit _ _ _ _ _ h1]
      simp
theorem cut_parts {s : ByteArray} {c : UInt8} {i : Nat} (h : Lib.indexByte s.data.toList c = i) : (s.extract 0 i).data.toList ++ (c :: (s.extract (i + 1) s.size).data.toList) = s.data.toList := by
  have h1 := (Lib.indexByte_some h).1
  have hl := (List.getElem?_eq_some_iff.1 h1).1
  have hx := (List.getElem?_eq_some_iff.1 h1).2
  rw [Lib.extract_from_zero, Lib.extract_to_end]
  conv => rhs; rw [← List.take_append_drop i s.data.toList, List.drop_eq_getElem_cons hl, hx]
theorem join_split (c : UInt8) : ∀ (k : Nat) (s : ByteArray), Lib.join ((Lib.splitB ⟨#[c]⟩ 0 k s).map (·.data.toList)) [c] = s.data.toList
  | 0, s => by simp [Lib.splitB_zero, Lib.join_one]
  | k + 1, s => by
    rcases Lib.indexB_cases s ⟨#[c]⟩ with h1 | ⟨i, h1, h2⟩
    · rw [Lib.splitB_miss _ _ _ _ h1]
      simp [Lib.join_one]
    · rw [Lib.splitB_hit _ _ _ _ _ h1, List.map_cons, join_cons2 _ _ _ (by simpa using splitB_ne _ _ _), join_split c k]
      have h3 := cut_parts ((indexB_byte s c).symm.trans h1)
      rw [← h3]
      rfl
theorem splitB_stop (sep : ByteArray) : ∀ (k : Nat) (s : ByteArray) (k' : Nat), (Lib.splitB sep 0 k s).length ≤ k → k ≤ k' → Lib.splitB sep 0 k' s = Lib.splitB sep 0 k s
  | 0, s, k', h, _ => by simp [Lib.splitB_zero] at h
  | k + 1, s, k', h, hk => by
    obtain ⟨q, rfl⟩ : ∃ q, k' = q + 1 := ⟨k' - 1, by omega⟩
    rcases Lib.indexB_cases s sep with h1 | ⟨i, h1, h2⟩
    · rw [Lib.splitB_miss _ _ _ _ h1, Lib.splitB_miss _ _ _ _ h1]
    · rw [Lib.splitB_hit _ _ _ _ _ h1, List.length_cons] at h
      rw [Lib.splitB_hit _ _ _ _ _ h1, Lib.splitB_hit _ _ _ _ _ h1, splitB_stop sep k _ q (by omega) (by omega)]
theorem splitB_mono (sep : ByteArray) : ∀ (k : Nat) (s : ByteArray) (k' : Nat), k ≤ k' → (Lib.splitB sep 0 k s).length ≤ (Lib.splitB sep 0 k' s).length
  | 0, s, k', _ => by
    rw [Lib.splitB_zero]
    have := List.length_pos_iff.2 (splitB_ne sep k' s)
    simp only [List.length_cons, List.length_nil]
    omega
  | k + 1, s, k', hk => by
    obtain ⟨q, rfl⟩ : ∃ q, k' = q + 1 := ⟨k' - 1, by omega⟩
    rcases Lib.indexB_cases s sep with h1 | ⟨i, h1, h2⟩
    · rw [Lib.splitB_miss _ _ _ _ h1, Lib.splitB_miss _ _ _ _ h1]
      exact Nat.le_refl _
    · rw [Lib.splitB_hit _ _ _ _ _ h1, Lib.splitB_hit _ _ _ _ _ h1, List.length_cons, List.length_cons]
      have := splitB_mono sep k (s.extract (i + sep.size) s.size) q (by omega)
      omega

/-- The first words of a text: so many as a map may have, and one more. -/
def wordsTo (s : ByteArray) : List ByteArray := Lib.splitB ⟨#[32]⟩ 0 (min 61 (s.size + 1) - 1) s
theorem wordsTo_le (s : ByteArray) : (wordsTo s).length ≤ 61 := by
  have := Lib.splitB_length_le ⟨#[32]⟩ 0 (min 61 (s.size + 1) - 1) s
  unfold wordsTo
  omega
theorem wordsTo_few {s : ByteArray} (h : (wordsTo s).length ≤ 60) : wordsTo s = wordsOf s := by
  unfold wordsTo at *
  unfold wordsOf
  by_cases hs : s.size ≤ 60
  · rw [show min 61 (s.size + 1) - 1 = s.size by omega]
  · rw [show min 61 (s.size + 1) - 1 = 60 by omega] at h ⊢
    exact (splitB_stop _ 60 s s.size h (by omega)).symm
theorem wordsTo_many {s : ByteArray} (h : ¬ (wordsTo s).length ≤ 60) : 60 < (wordsOf s).length := by
  have := splitB_mono ⟨#[32]⟩ (min 61 (s.size + 1) - 1) s s.size (by omega)
  unfold wordsTo at h
  unfold wordsOf
  omega
theorem wordsTo_size {s : ByteArray} : ∀ x ∈ wordsTo s, x.size ≤ s.size := splitB_sizes _ _ _ _ (Nat.le_refl _)

theorem wB_wordP {x : ByteArray} (h : hasE x = true) : wB (wordP x) = x := by
  unfold hasE at h
  have hge := Lib.indexByte_ge x.data.toList 61
  by_cases h1 : Lib.indexByte x.data.toList 61 = -1
  · rw [cutW_none h1] at h
    cases h
  · obtain ⟨i, hi⟩ : ∃ i : Nat, Lib.indexByte x.data.toList 61 = i := ⟨(Lib.indexByte x.data.toList 61).toNat, by omega⟩
    apply ext_list
    rw [wB, wordP, cutW_hit hi]
    simp only [app_list]
    have := cut_parts hi
    rw [← this]
    simp
theorem noE_val {x : ByteArray} (h : hasE x = false) : keyB (wordP x).2 = false := by
  unfold hasE at h
  have hge := Lib.indexByte_ge x.data.toList 61
  by_cases h1 : Lib.indexByte x.data.toList 61 = -1
  · rw [wordP, cutW_none h1]
    rfl
  · obtain ⟨i, hi⟩ : ∃ i : Nat, Lib.indexByte x.data.toList 61 = i := ⟨(Lib.indexByte x.data.toList 61).toNat, by omega⟩
    rw [cutW_hit hi] at h
    cases h
theorem all_wB : ∀ ws : List ByteArray, ws.all hasE = true → wordsL (pairsW ws) = ws.map (·.data.toList)
  | [], _ => rfl
  | x :: r, h => by
    simp only [List.all_cons, Bool.and_eq_true] at h
    show (wB (wordP x)).data.toList :: wordsL (pairsW r) = _
    rw [wB_wordP h.1, all_wB r h.2]
    rfl
theorem text_words {s : ByteArray} (h : (wordsOf s).all hasE = true) : textB (pairsW (wordsOf s)) = s := by
  apply ext_list
  show Lib.join (wordsL (pairsW (wordsOf s))) [32] = _
  rw [all_wB _ h]
  exact join_split 32 _ s
theorem map_allE {ws : List ByteArray} (h : mapB (pairsW ws) = true) : ws.all hasE = true := by
  rw [List.all_eq_true]
  intro x hx
  have h1 := (mapB_iff.1 h).2.1 (wordP x) (List.mem_map_of_mem hx)
  simp only [pairB, Bool.and_eq_true] at h1
  cases he : hasE x
  · rw [noE_val he] at h1
    cases h1.2
  · rfl
theorem empty_ne {s : ByteArray} (h : s.size ≠ 0) : (⟨#[]⟩ : ByteArray) ≠ s := by
  rintro rfl
  exact h rfl
/-- The first words are enough. -/
theorem read_map {s : ByteArray} (h : s.size ≠ 0) : readB s = mapB (pairsW (wordsTo s)) := by
  have hR : readB s = ((wordsOf s).all hasE && decide (mapT (pairsW (wordsOf s)) = s)) := by rw [readB, if_neg h]
  rw [hR]
  by_cases hl : (wordsTo s).length ≤ 60
  · rw [wordsTo_few hl]
    cases hm : mapB (pairsW (wordsOf s))
    · have : mapT (pairsW (wordsOf s)) = ⟨#[]⟩ := by simp [mapT, hm]
      rw [this, decide_eq_false (empty_ne h), Bool.and_false]
    · have ha := map_allE hm
      have : mapT (pairsW (wordsOf s)) = s := by
        rw [mapT, if_pos hm]
        exact text_words ha
      rw [ha, this]
      simp
  · have h1 : mapB (pairsW (wordsTo s)) = false := mapB_long (by rw [pairsW_len]; omega)
    have h2 : mapB (pairsW (wordsOf s)) = false := mapB_long (by rw [pairsW_len]; exact wordsTo_many hl)
    have : mapT (pairsW (wordsOf s)) = ⟨#[]⟩ := by simp [mapT, h2]
    rw [h1, this, decide_eq_false (empty_ne h), Bool.and_false]
theorem read_pairs {s : ByteArray} (h : s.size ≠ 0) (hm : mapB (pairsW (wordsTo s)) = true) : readP s = pairsW (wordsTo s) := by
  have hl : (wordsTo s).length ≤ 60 := by
    have := (mapB_iff.1 hm).1
    rwa [pairsW_len] at this
  rw [readP, if_neg h, read_map h, hm, wordsTo_few hl]
  rfl
theorem read_none {s : ByteArray} (h : s.size ≠ 0) (hm : mapB (pairsW (wordsTo s)) = false) : readP s = [] := by
  rw [readP, if_neg h, read_map h, hm]
  rfl
end Go.Proofs.YtkegdhgcebbmgabDoor
