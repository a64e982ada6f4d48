/-
  A right map's text read is the map; what is read, written again, is the text: plain facts.
-/
import Derived.Test.YtkegdhgcebbmgabDoorReadF
namespace Go.Proofs.YtkegdhgcebbmgabDoor
open Go.RowKit

theorem ok_bytes {s : ByteArray} (h : keyB s = true) : ∀ c ∈ s.data.toList, c ≠ 32 ∧ c ≠ 61 := by
  simp only [keyB, Bool.and_eq_true] at h
  intro c hc
  have h1 := List.all_eq_true.1 h.2 c hc
  simp only [okByte, decide_eq_true_eq] at h1
  constructor
  · rintro rfl
    exact absurd h1.1 (by decide)
  · rintro rfl
    exact h1.2.2 rfl
theorem byte_at_end {l r : List UInt8} {c : UInt8} (h : ∀ x ∈ l, x ≠ c) : Lib.indexByte (l ++ c :: r) c = l.length := by
  refine byte_hit ?_ fun k hk => ?_
  · rw [List.getElem?_append_right (Nat.le_refl _)]
    simp
  · rw [List.getElem?_append_left hk]
    intro e
    exact h _ (List.mem_of_getElem? e) rfl
theorem byte_not {l : List UInt8} {c : UInt8} (h : ∀ x ∈ l, x ≠ c) : Lib.indexByte l c = -1 := byte_miss fun _ e => h _ (List.mem_of_getElem? e) rfl
theorem extract_ext {s a : ByteArray} {i : Nat} {t : List UInt8} (h : s.data.toList = a.data.toList ++ t) (hi : i = a.data.toList.length) : s.extract 0 i = a := by
  apply ext_list
  rw [Lib.extract_from_zero, h, hi]
  simp
theorem extract_rest {s b : ByteArray} {i : Nat} {t : List UInt8} {c : UInt8} (h : s.data.toList = t ++ c :: b.data.toList) (hi : i = t.length) : s.extract (i + 1) s.size = b := by
  apply ext_list
  rw [Lib.extract_to_end, h, hi, show t ++ c :: b.data.toList = (t ++ [c]) ++ b.data.toList by simp, List.drop_left' (by simp)]
theorem wB_list (p : BB) : (wB p).data.toList = p.1.data.toList ++ 61 :: p.2.data.toList := by
  rw [wB]
  simp only [app_list]
  simp
/-- A pair's word, cut, is the pair. -/
theorem cut_wB {p : BB} (h : pairB p = true) : wordP (wB p) = p ∧ hasE (wB p) = true := by
  simp only [pairB, Bool.and_eq_true] at h
  have h1 : Lib.indexByte (wB p).data.toList 61 = (p.1.data.toList.length : Nat) := by
    rw [wB_list]
    exact byte_at_end fun x hx => (ok_bytes h.1 x hx).2
  rw [wordP, hasE, cutW_hit h1]
  refine ⟨?_, rfl⟩
  show ((wB p).extract 0 p.1.data.toList.length, (wB p).extract (p.1.data.toList.length + 1) (wB p).size) = p
  rw [extract_ext (wB_list p) rfl, extract_rest (wB_list p) rfl]
theorem word_blank {p : BB} (h : pairB p = true) : ∀ c ∈ (wB p).data.toList, c ≠ 32 := by
  simp only [pairB, Bool.and_eq_true] at h
  intro c hc
  rw [wB_list] at hc
  rcases List.mem_append.1 hc with hc | hc
  · exact (ok_bytes h.1 c hc).1
  · rcases List.mem_cons.1 hc with rfl | hc
    · decide
    · exact (ok_bytes h.2 c hc).1
/-- The words of joined words. -/
theorem words_join : ∀ (ps : PS) (s : ByteArray), ps ≠ [] → (∀ p ∈ ps, pairB p = true) → s.data.toList = Lib.join (wordsL ps) [32] → wordsOf s = ps.map wB
  | [], _, h, _, _ => absurd rfl h
  | [p], s, _, hp, hs => by
    have e : s = wB p := by
      apply ext_list
      rw [hs]
      exact Lib.join_one _ _
    subst e
    exact words_none (byte_not (word_blank (hp p (by simp))))
  | p :: q :: r, s, _, hp, hs => by
    have hs2 : s.data.toList = (wB p).data.toList ++ 32 :: Lib.join (wordsL (q :: r)) [32] := by
      rw [hs]
      show Lib.join ((wB p).data.toList :: wordsL (q :: r)) [32] = _
      rw [join_cons2 _ _ _ (by simp [wordsL])]
      rfl
    have h1 : Lib.indexByte s.data.toList 32 = ((wB p).data.toList.length : Nat) := by
      rw [hs2]
      exact byte_at_end (word_blank (hp p (by simp)))
    have hlt : (wB p).data.toList.length < s.size := by
      rw [Lib.size_eq, hs2]
      simp
    have h2 : (s.extract ((wB p).data.toList.length + 1) s.size).data.toList = Lib.join (wordsL (q :: r)) [32] := by
      rw [Lib.extract_to_end, hs2, show (wB p).data.toList ++ 32 :: Lib.join (wordsL (q :: r)) [32] = ((wB p).data.toList ++ [32]) ++ Lib.join (wordsL (q :: r)) [32] by simp, List.drop_left' (by simp)]
    rw [words_hit h1 hlt, extract_ext hs2 rfl, words_join (q :: r) _ (by simp) (fun x hx => hp x (List.mem_cons_of_mem _ hx)) h2]
    rfl
theorem pairs_back : ∀ {ps : PS}, (∀ p ∈ ps, pairB p = true) → pairsW (ps.map wB) = ps ∧ (ps.map wB).all hasE = true
  | [], _ => ⟨rfl, rfl⟩
  | p :: r, h => by
    obtain ⟨h1, h2⟩ := cut_wB (h p (by simp))
    obtain ⟨h3, h4⟩ := pairs_back (ps := r) fun x hx => h x (List.mem_cons_of_mem _ hx)
    refine ⟨?_, ?_⟩
    · show wordP (wB p) :: pairsW (r.map wB) = _
      rw [h1, h3]
    · simp only [List.map_cons, List.all_cons, h2, h4, Bool.and_self]
/-- A right map comes back from its text. -/
theorem map_back {ps : PS} (h : mapB ps = true) : readB (mapT ps) = true ∧ readP (mapT ps) = ps := by
  have hT : mapT ps = textB ps := by simp [mapT, h]
  by_cases h0 : ps = []
  · subst h0
    have : mapT ([] : PS) = ⟨#[]⟩ := by rw [hT]; rfl
    rw [this]
    exact ⟨rfl, rfl⟩
  · have hp := (mapB_iff.1 h).2.1
    have hw := words_join ps (mapT ps) h0 hp (by rw [hT]; rfl)
    obtain ⟨h1, h2⟩ := pairs_back hp
    have hne : (mapT ps).size ≠ 0 := by
      intro e
      have e2 : mapT ps = ⟨#[]⟩ := by
        apply ext_list
        exact List.eq_nil_of_length_eq_zero (by rw [← Lib.size_eq]; exact e)
      have : (wordsOf (mapT ps)).length = ps.length := by rw [hw, List.length_map]
      rw [e2] at this hw
      obtain ⟨p, r, rfl⟩ := List.exists_cons_of_ne_nil h0
      have h5 : wordsOf ⟨#[]⟩ = [⟨#[]⟩] := rfl
      rw [h5] at hw
      have h6 : (⟨#[]⟩ : ByteArray) = wB p := by injection hw
      have h7 := congrArg (fun x : ByteArray => x.data.toList.length) h6
      simp only [wB_list] at h7
      simp at h7
    have hr : readB (mapT ps) = true := by
      rw [readB, if_neg hne, hw, h1, h2]
      simp
    refine ⟨hr, ?_⟩
    rw [readP, if_neg hne, hr, hw, h1]
    rfl
/-- What is read, written again. -/
theorem text_back {s : ByteArray} (h : readB s = true) : mapT (readP s) = s ∧ mapB (readP s) = true := by
  by_cases h0 : s.size = 0
  · have e : s = ⟨#[]⟩ := by
      apply ext_list
      exact List.eq_nil_of_length_eq_zero (by rw [← Lib.size_eq]; exact h0)
    subst e
    exact ⟨rfl, rfl⟩
  · have hm := (read_map h0).symm.trans h
    rw [read_pairs h0 hm]
    refine ⟨?_, hm⟩
    have hR : readB s = ((wordsOf s).all hasE && decide (mapT (pairsW (wordsOf s)) = s)) := by rw [readB, if_neg h0]
    rw [hR, Bool.and_eq_true, decide_eq_true_eq] at h
    have hl : (wordsTo s).length ≤ 60 := by
      have := (mapB_iff.1 hm).1
      rwa [pairsW_len] at this
    rw [wordsTo_few hl]
    exact h.2
end Go.Proofs.YtkegdhgcebbmgabDoor
