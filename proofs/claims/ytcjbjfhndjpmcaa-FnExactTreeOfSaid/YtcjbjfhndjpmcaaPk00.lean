import Derived.Below
import Derived.Laws.OwnMore
import Derived.Deep.Draws
import Derived.Laws.Strings
import Derived.Test.YtcjbjfhndjpmcaaProg
import Derived.WalkKit
import Derived.WalkLawsBesides
/-
  Plain definitions and facts on bytes and keys. Imports nothing of the dump.
  Slices of pairs of strings, as lists; what a map is; order of texts. Plain facts.
  Places in a list whose keys rise. Plain facts.
-/
namespace Go.Proofs.Ytcjbjfhndjpmcaa
open Go.RowKit

theorem hid {p : Prop} (h : p) : Hid p := h

/-- A byte that a key may hold. -/
def okByte (c : UInt8) : Bool := decide (33 ≤ c.toNat ∧ c.toNat ≤ 126 ∧ c.toNat ≠ 61)
/-- A right key. -/
def keyB (s : ByteArray) : Bool := decide (1 ≤ s.size ∧ s.size ≤ 6) && s.data.toList.all okByte

def okTo (s : ByteArray) (k : Nat) : Prop := ∀ (i : Nat) (h : i < s.size), i < k → okByte s[i] = true

theorem okTo_zero (s : ByteArray) : okTo s 0 := fun i _ h => absurd h (by omega)
theorem okTo_succ {s : ByteArray} {k : Nat} (h : okTo s k) (hk : k < s.size) (hc : ¬ ((s[k].toNat : Int) < 33 ∨ 126 < (s[k].toNat : Int) ∨ (s[k].toNat : Int) = 61)) : okTo s (k + 1) := by
  intro i hi hlt
  by_cases e : i = k
  · subst e
    simp only [okByte, decide_eq_true_eq]
    omega
  · exact h i hi (by omega)
theorem all_bytes (s : ByteArray) (p : UInt8 → Bool) : s.data.toList.all p = true ↔ ∀ (i : Nat) (h : i < s.size), p s[i] = true := by
  rw [List.all_eq_true]
  constructor
  · intro h i hi
    exact h _ (Array.getElem_mem_toList (xs := s.data) hi)
  · intro h x hx
    obtain ⟨i, hi, rfl⟩ := List.getElem_of_mem hx
    exact h i (by simpa using hi)
theorem keyB_bad {s : ByteArray} {k : Nat} (hk : k < s.size) (hc : ((s[k].toNat : Int) < 33 ∨ 126 < (s[k].toNat : Int) ∨ (s[k].toNat : Int) = 61)) : keyB s = false := by
  rw [Bool.eq_false_iff]
  intro h
  simp only [keyB, Bool.and_eq_true] at h
  have := (all_bytes s okByte).1 h.2 k hk
  simp only [okByte, decide_eq_true_eq] at this
  omega
theorem keyB_end {s : ByteArray} (h : okTo s s.size) : keyB s = decide (1 ≤ s.size ∧ s.size ≤ 6) := by
  have : s.data.toList.all okByte = true := (all_bytes s okByte).2 fun i hi => h i hi hi
  simp [keyB, this]
theorem keyB_short {s : ByteArray} (h : s.size < 1) : keyB s = false := by simp [keyB]; omega
theorem keyB_long {s : ByteArray} (h : 6 < s.size) : keyB s = false := by simp [keyB]; omega
theorem keyB_size {s : ByteArray} (h : keyB s = true) : 1 ≤ s.size ∧ s.size ≤ 6 := by
  simp only [keyB, Bool.and_eq_true, decide_eq_true_eq] at h
  exact h.1
end Go.Proofs.Ytcjbjfhndjpmcaa
namespace Go.Proofs.Ytcjbjfhndjpmcaa
open Go.RowKit

abbrev BB := ByteArray × ByteArray
abbrev PS := List BB

/-- The cells of pairs, one behind the other. -/
def pcells : PS → List Value
  | [] => []
  | p :: r => .string p.1 :: .string p.2 :: pcells r
theorem pcells_length : ∀ ps : PS, (pcells ps).length = ps.length * 2
  | [] => rfl
  | p :: r => by simp [pcells, pcells_length r]; omega
theorem pcells_append : ∀ ps qs : PS, pcells (ps ++ qs) = pcells ps ++ pcells qs
  | [], _ => rfl
  | p :: r, qs => by simp [pcells, pcells_append r qs]
theorem pcells_key : ∀ (ps : PS) (i : Nat) (p : BB), ps[i]? = some p → (pcells ps)[i * 2]? = some (.string p.1)
  | [], _, _, h => by simp at h
  | q :: r, 0, p, h => by simp at h; subst h; rfl
  | q :: r, i + 1, p, h => by
    simp only [List.getElem?_cons_succ] at h
    rw [show (i + 1) * 2 = i * 2 + 1 + 1 by omega]
    simpa [pcells] using pcells_key r i p h
theorem pcells_val : ∀ (ps : PS) (i : Nat) (p : BB), ps[i]? = some p → (pcells ps)[i * 2 + 1]? = some (.string p.2)
  | [], _, _, h => by simp at h
  | q :: r, 0, p, h => by simp at h; subst h; rfl
  | q :: r, i + 1, p, h => by
    simp only [List.getElem?_cons_succ] at h
    rw [show (i + 1) * 2 + 1 = (i * 2 + 1) + 1 + 1 by omega]
    simpa [pcells] using pcells_val r i p h
theorem pcells_one : ∀ (ps : PS), ∀ u ∈ pcells ps, u.oneCell' = true
  | [], _, h => by simp [pcells] at h
  | p :: r, u, h => by
    simp only [pcells, List.mem_cons] at h
    rcases h with rfl | rfl | h
    · rfl
    · rfl
    · exact pcells_one r u h

/-- The slice at A, below block B, holds these pairs. -/
def RP (w : World) (B : Nat) (A : Option Addr) (ps : PS) : Prop :=
  ps = [] ∨ ∃ b off, A = some ⟨b, off, none⟩ ∧ b < B ∧ ∀ (i : Nat) (p : BB), ps[i]? = some p → w.cell? ⟨b, off + i * 2, none⟩ = some (.string p.1) ∧ w.cell? ⟨b, off + i * 2 + 1, none⟩ = some (.string p.2)

section
variable {w w' : World} {B B' : Nat} {A : Option Addr} {ps : PS}
theorem RP.at_ {k : Nat} (h : RP w B A ps) (hk : k < ps.length) :
    ∃ b off, A = some ⟨b, off, none⟩ ∧ b < B ∧ w.cell? ⟨b, off + k * 2, none⟩ = some (.string ps[k].1) ∧ w.cell? ⟨b, off + k * 2 + 1, none⟩ = some (.string ps[k].2) := by
  rcases h with rfl | ⟨b, off, e, hb, hc⟩
  · simp at hk
  · exact ⟨b, off, e, hb, hc k _ (List.getElem?_eq_getElem hk)⟩
theorem RP.keep (h : RP w B A ps) (hk : ∀ p : Addr, p.block < B → w'.cell? p = w.cell? p) : RP w' B A ps := by
  rcases h with rfl | ⟨b, off, e, hb, hc⟩
  · exact .inl rfl
  · exact .inr ⟨b, off, e, hb, fun i p hp => by rw [hk _ hb, hk _ hb]; exact hc i p hp⟩
theorem RP.more (h : RP w B A ps) (hB : B ≤ B') : RP w B' A ps := by
  rcases h with rfl | ⟨b, off, e, hb, hc⟩
  · exact .inl rfl
  · exact .inr ⟨b, off, e, by omega, hc⟩
theorem RP.below (h : RP w B A ps) (hb : Below B w w') : RP w' B A ps := h.keep fun _ hp => hb.cell hp
theorem RP.drewN (h : RP w B A ps) (k : Nat) : RP (w.drewN k) B A ps := h
theorem RP.of_own {base : Nat} {e : TypeId} {n c : Nat} (h : w.ownsRow base e 2 (.slice A n c) n (pcells ps)) : RP w w.heap.size A ps := by
  rcases h.2 with ⟨hv, hn⟩ | ⟨g, cap, cur, hv, _, hh, _⟩
  · left
    have := h.1
    rw [pcells_length] at this
    exact List.eq_nil_of_length_eq_zero (by omega)
  · right
    injection hv with hA
    subst hA
    refine ⟨g, 0, rfl, (Array.getElem?_eq_some_iff.1 hh).1, fun i p hp => ?_⟩
    have h1 := h.cells (g := g) rfl _ _ (pcells_key ps i p hp)
    have h2 := h.cells (g := g) rfl _ _ (pcells_val ps i p hp)
    rw [Addr.add_lit] at h1 h2
    exact ⟨h1, by rw [Nat.add_assoc]; exact h2⟩
end

/-- Text a stands ahead of text b. -/
def ltS (a b : ByteArray) : Bool := Op.bytesLess a.toList b.toList

theorem bytesLess_irrefl : ∀ a : List UInt8, Op.bytesLess a a = false
  | [] => rfl
  | c :: r => by simp [Op.bytesLess, bytesLess_irrefl r]
theorem bytesLess_trans : ∀ a b c : List UInt8, Op.bytesLess a b = true → Op.bytesLess b c = true → Op.bytesLess a c = true
  | [], [], _, h, _ => by simp [Op.bytesLess] at h
  | [], _ :: _, [], _, h => by simp [Op.bytesLess] at h
  | [], _ :: _, _ :: _, _, _ => rfl
  | _ :: _, [], _, h, _ => by simp [Op.bytesLess] at h
  | _ :: _, _ :: _, [], _, h => by simp [Op.bytesLess] at h
  | x :: a, y :: b, z :: c, h1, h2 => by
    simp only [Op.bytesLess, Bool.or_eq_true, Bool.and_eq_true, decide_eq_true_eq, beq_iff_eq] at h1 h2 ⊢
    rcases h1 with h1 | ⟨rfl, h1⟩
    · rcases h2 with h2 | ⟨rfl, h2⟩
      · left
        rw [UInt8.lt_iff_toNat_lt] at *
        omega
      · exact .inl h1
    · rcases h2 with h2 | ⟨rfl, h2⟩
      · exact .inl h2
      · exact .inr ⟨rfl, bytesLess_trans a b c h1 h2⟩
theorem bytesLess_total : ∀ a b : List UInt8, Op.bytesLess a b = true ∨ a = b ∨ Op.bytesLess b a = true
  | [], [] => .inr (.inl rfl)
  | [], _ :: _ => .inl rfl
  | _ :: _, [] => .inr (.inr rfl)
  | x :: a, y :: b => by
    simp only [Op.bytesLess, Bool.or_eq_true, Bool.and_eq_true, decide_eq_true_eq, beq_iff_eq, List.cons.injEq]
    rcases Nat.lt_trichotomy x.toNat y.toNat with h | h | h
    · exact .inl (.inl (UInt8.lt_iff_toNat_lt.2 h))
    · have e : x = y := UInt8.toNat_inj.1 h
      subst e
      rcases bytesLess_total a b with h | h | h
      · exact .inl (.inr ⟨rfl, h⟩)
      · exact .inr (.inl ⟨rfl, h⟩)
      · exact .inr (.inr (.inr ⟨rfl, h⟩))
    · exact .inr (.inr (.inl (UInt8.lt_iff_toNat_lt.2 h)))
theorem toList_inj {a b : ByteArray} (h : a.toList = b.toList) : a = b := by
  rw [ByteArray.toList_eq, ByteArray.toList_eq] at h
  cases a; cases b
  simpa using Array.toList_inj.1 h
theorem ltS_irrefl (a : ByteArray) : ltS a a = false := bytesLess_irrefl _
theorem ltS_trans {a b c : ByteArray} (h1 : ltS a b = true) (h2 : ltS b c = true) : ltS a c = true := bytesLess_trans _ _ _ h1 h2
theorem ltS_total (a b : ByteArray) : ltS a b = true ∨ a = b ∨ ltS b a = true := by
  rcases bytesLess_total a.toList b.toList with h | h | h
  · exact .inl h
  · exact .inr (.inl (toList_inj h))
  · exact .inr (.inr h)
theorem ltS_asymm {a b : ByteArray} (h : ltS a b = true) : ltS b a = false := by
  rw [Bool.eq_false_iff]
  intro h2
  have := ltS_trans h h2
  rw [ltS_irrefl] at this
  cases this
theorem ltS_ne {a b : ByteArray} (h : ltS a b = true) : a ≠ b := by
  rintro rfl
  rw [ltS_irrefl] at h
  cases h
/-- Not ahead, and not the same: behind. -/
theorem ltS_of_not {a b : ByteArray} (h : ltS a b = false) (hn : a ≠ b) : ltS b a = true := by
  rcases ltS_total a b with h' | h' | h'
  · rw [h] at h'; cases h'
  · exact absurd h' hn
  · exact h'

/-- Keys rise. -/
def risesB : PS → Bool
  | [] => true
  | [_] => true
  | p :: q :: r => ltS p.1 q.1 && risesB (q :: r)
def pairB (p : BB) : Bool := keyB p.1 && keyB p.2
/-- A right map. -/
def mapB (ps : PS) : Bool := decide (ps.length ≤ 60) && (ps.all pairB && risesB ps)

theorem rises_iff : ∀ ps : PS, risesB ps = true ↔ ∀ i (h : i + 1 < ps.length), ltS (ps[i]'(by omega)).1 (ps[i + 1]).1 = true
  | [] => by simp [risesB]
  | [p] => by simp [risesB]
  | p :: q :: r => by
    simp only [risesB, Bool.and_eq_true, rises_iff (q :: r)]
    constructor
    · rintro ⟨h1, h2⟩ i hi
      cases i with
      | zero => exact h1
      | succ i => exact h2 i (by simpa using hi)
    · intro h
      refine ⟨h 0 (by simp), fun i hi => h (i + 1) (by simpa using hi)⟩
theorem rises_lt {ps : PS} (h : risesB ps = true) : ∀ (j i : Nat) (hij : i < j) (hj : j < ps.length), ltS (ps[i]'(by omega)).1 (ps[j]).1 = true := by
  intro j
  induction j with
  | zero => intro i hij; omega
  | succ j ih =>
    intro i hij hj
    have h1 := (rises_iff ps).1 h j hj
    by_cases e : i = j
    · subst e
      exact h1
    · exact ltS_trans (ih i (by omega) (by omega)) h1
theorem mapB_iff {ps : PS} : mapB ps = true ↔ ps.length ≤ 60 ∧ (∀ p ∈ ps, pairB p = true) ∧ risesB ps = true := by
  simp [mapB, List.all_eq_true]
theorem mapB_long {ps : PS} (h : 60 < ps.length) : mapB ps = false := by
  rw [Bool.eq_false_iff]
  intro h'
  have := (mapB_iff.1 h').1
  omega

/-- Right pairs up to k. -/
def keysTo (ps : PS) (k : Nat) : Prop := ∀ (i : Nat) (h : i < ps.length), i < k → pairB ps[i] = true
def risesTo (ps : PS) (k : Nat) : Prop := ∀ (i : Nat) (h : i + 1 < ps.length), i + 1 < k → ltS (ps[i]'(by omega)).1 (ps[i + 1]).1 = true
theorem keysTo_zero (ps : PS) : keysTo ps 0 := fun i _ h => absurd h (by omega)
theorem risesTo_one (ps : PS) : risesTo ps 1 := fun i _ h => absurd h (by omega)
theorem risesTo_zero (ps : PS) : risesTo ps 0 := fun i _ h => absurd h (by omega)
theorem keysTo_succ {ps : PS} {k : Nat} (h : keysTo ps k) (hk : k < ps.length) (h1 : keyB ps[k].1 = true) (h2 : keyB ps[k].2 = true) : keysTo ps (k + 1) := by
  intro i hi hlt
  by_cases e : i = k
  · subst e
    simp [pairB, h1, h2]
  · exact h i hi (by omega)
theorem risesTo_succ {ps : PS} {k : Nat} (h : risesTo ps k) (hk : k < ps.length) (h1 : ∀ h0 : 0 < k, ltS (ps[k - 1]'(by omega)).1 ps[k].1 = true) : risesTo ps (k + 1) := by
  intro i hi hlt
  by_cases e : i + 1 = k
  · subst e
    exact h1 (by omega)
  · exact h i hi (by omega)
theorem keysTo_end {ps : PS} (h : keysTo ps ps.length) : ∀ p ∈ ps, pairB p = true := by
  intro p hp
  obtain ⟨i, hi, rfl⟩ := List.getElem_of_mem hp
  exact h i hi hi
theorem risesTo_end {ps : PS} (h : risesTo ps ps.length) : risesB ps = true := (rises_iff ps).2 fun i hi => h i hi hi
theorem keys_bad {ps : PS} {k : Nat} (hk : k < ps.length) (h : keyB ps[k].1 = false ∨ keyB ps[k].2 = false) : ps.all pairB = false := by
  rw [Bool.eq_false_iff]
  intro h'
  have := List.all_eq_true.1 h' ps[k] (List.getElem_mem hk)
  simp only [pairB, Bool.and_eq_true] at this
  rcases h with h | h <;> simp [h] at this
theorem rises_bad {ps : PS} {k : Nat} (hk : k < ps.length) (h0 : 0 < k) (h : ltS (ps[k - 1]'(by omega)).1 ps[k].1 = false) : risesB ps = false := by
  rw [Bool.eq_false_iff]
  intro h'
  have := rises_lt h' k (k - 1) (by omega) hk
  rw [h] at this
  cases this
theorem keyB_small {s : ByteArray} (h : keyB s = true) : s.size ≤ 6 := (keyB_size h).2
end Go.Proofs.Ytcjbjfhndjpmcaa
namespace Go.Proofs.Ytcjbjfhndjpmcaa
/-- How many keys stand ahead of x. -/
def cnt (ps : PS) (x : ByteArray) : Nat := (ps.takeWhile fun p => ltS p.1 x).length
def hasK (ps : PS) (x : ByteArray) : Bool := ps.any fun p => decide (p.1 = x)
theorem cnt_le (ps : PS) (x : ByteArray) : cnt ps x ≤ ps.length := (List.takeWhile_sublist _).length_le
theorem cnt_eq : ∀ (ps : PS) (x : ByteArray) (a : Nat), a ≤ ps.length → (∀ i (h : i < ps.length), i < a → ltS ps[i].1 x = true) → (∀ i (h : i < ps.length), a ≤ i → ltS ps[i].1 x = false) → cnt ps x = a
  | [], _, a, ha, _, _ => by simp at ha; subst ha; rfl
  | p :: r, x, 0, _, _, h2 => by
    have := h2 0 (by simp) (Nat.le_refl _)
    simp only [List.getElem_cons_zero] at this
    simp [cnt, this]
  | p :: r, x, a + 1, ha, h1, h2 => by
    have h0 := h1 0 (by simp) (by omega)
    simp only [List.getElem_cons_zero] at h0
    have := cnt_eq r x a (by simpa using ha) (fun i h hi => h1 (i + 1) (by simpa using h) (by omega)) (fun i h hi => h2 (i + 1) (by simpa using h) (by omega))
    simp only [cnt] at this
    simp [cnt, h0, this]
theorem cnt_ahead : ∀ (ps : PS) (x : ByteArray) (i : Nat) (h : i < ps.length), i < cnt ps x → ltS ps[i].1 x = true
  | [], _, _, h, _ => by simp at h
  | p :: r, x, i, h, hi => by
    simp only [cnt, List.takeWhile_cons] at hi
    split at hi
    · cases i with
      | zero => assumption
      | succ i => simpa using cnt_ahead r x i (by simpa using h) (by simpa [cnt] using hi)
    · simp at hi
theorem cnt_at : ∀ (ps : PS) (x : ByteArray) (h : cnt ps x < ps.length), ltS (ps[cnt ps x]).1 x = false
  | [], _, h => by simp at h
  | p :: r, x, h => by
    cases hp : ltS p.1 x
    · have e : cnt (p :: r) x = 0 := by simp [cnt, hp]
      simp only [e, List.getElem_cons_zero]
      exact hp
    · have e : cnt (p :: r) x = cnt r x + 1 := by simp [cnt, hp]
      simp only [e, List.getElem_cons_succ]
      exact cnt_at r x (by rw [e] at h; simpa using h)
theorem cnt_behind {ps : PS} (hs : risesB ps = true) (x : ByteArray) (i : Nat) (h : i < ps.length) (hi : cnt ps x ≤ i) : ltS ps[i].1 x = false := by
  have h0 := cnt_at ps x (by omega)
  by_cases e : cnt ps x = i
  · subst e
    exact h0
  · rw [Bool.eq_false_iff]
    intro h'
    have := ltS_trans (rises_lt hs i (cnt ps x) (by omega) h) h'
    rw [h0] at this
    cases this
theorem hasK_iff {ps : PS} (hs : risesB ps = true) (x : ByteArray) : hasK ps x = true ↔ ∃ h : cnt ps x < ps.length, (ps[cnt ps x]).1 = x := by
  rw [hasK, List.any_eq_true]
  constructor
  · rintro ⟨p, hp, e⟩
    obtain ⟨i, hi, rfl⟩ := List.getElem_of_mem hp
    have e : ps[i].1 = x := by simpa using e
    have hc : cnt ps x = i := by
      subst e
      refine cnt_eq ps _ i (by omega) (fun j h hj => rises_lt hs i j hj hi) (fun j h hj => ?_)
      by_cases e : i = j
      · subst e
        exact ltS_irrefl _
      · exact ltS_asymm (rises_lt hs j i (by omega) h)
    subst hc
    exact ⟨hi, e⟩
  · rintro ⟨h, e⟩
    exact ⟨_, List.getElem_mem h, by simp [e]⟩
theorem hasK_end {ps : PS} (hs : risesB ps = true) {x : ByteArray} (h : ¬ cnt ps x < ps.length) : hasK ps x = false := by
  rw [Bool.eq_false_iff]
  intro h'
  exact h ((hasK_iff hs x).1 h').1
theorem hasK_no {ps : PS} (hs : risesB ps = true) {x : ByteArray} (h : cnt ps x < ps.length) (hne : (ps[cnt ps x]).1 ≠ x) : hasK ps x = false := by
  rw [Bool.eq_false_iff]
  intro h'
  exact hne ((hasK_iff hs x).1 h').2
theorem hasK_yes {ps : PS} (hs : risesB ps = true) {x : ByteArray} (h : cnt ps x < ps.length) (he : (ps[cnt ps x]).1 = x) : hasK ps x = true := (hasK_iff hs x).2 ⟨h, he⟩
theorem rises_not {ps : PS} (hs : risesB ps = true) {x : ByteArray} {m : Nat} (hm : m < ps.length) (h : ltS ps[m].1 x = false) : ∀ i (hi : i < ps.length), m ≤ i → ltS ps[i].1 x = false := by
  intro i hi hle
  by_cases e : m = i
  · subst e
    exact h
  · rw [Bool.eq_false_iff]
    intro h'
    have := ltS_trans (rises_lt hs i m (by omega) hi) h'
    rw [h] at this
    cases this
theorem rises_yes {ps : PS} (hs : risesB ps = true) {x : ByteArray} {m : Nat} (hm : m < ps.length) (h : ltS ps[m].1 x = true) : ∀ i (hi : i < ps.length), i < m + 1 → ltS ps[i].1 x = true := by
  intro i hi hle
  by_cases e : m = i
  · subst e
    exact h
  · exact ltS_trans (rises_lt hs m i (by omega) hm) h


theorem eqS_true {a b : ByteArray} (h : a = b) : (a.toList == b.toList) = true := by subst h; simp
theorem eqS_false {a b : ByteArray} (h : a ≠ b) : (a.toList == b.toList) = false := by
  rw [beq_eq_false_iff_ne]
  exact fun e => h (toList_inj e)
/-- The value of a key, "" where there is none. -/
def valOf (ps : PS) (x : ByteArray) : ByteArray := match ps.find? (fun p => decide (p.1 = x)) with | some p => p.2 | none => ⟨#[]⟩
theorem valOf_at {ps : PS} {x : ByteArray} (h : cnt ps x < ps.length) (he : (ps[cnt ps x]).1 = x) : valOf ps x = (ps[cnt ps x]).2 := by
  have : ps.find? (fun p => decide (p.1 = x)) = some ps[cnt ps x] := by
    rw [List.find?_eq_some_iff_getElem]
    refine ⟨by simpa using he, _, h, rfl, fun j hj => ?_⟩
    simpa using ltS_ne (cnt_ahead ps x j (by omega) hj)
  simp [valOf, this]
theorem valOf_none {ps : PS} {x : ByteArray} (h : hasK ps x = false) : valOf ps x = ⟨#[]⟩ := by
  have : ps.find? (fun p => decide (p.1 = x)) = none := by
    rw [List.find?_eq_none]
    intro p hp
    have := List.any_eq_false.1 h p hp
    simpa using this
  simp [valOf, this]
/-- Ahead of k no key is x. -/
def noneTo (ps : PS) (x : ByteArray) (k : Nat) : Prop := ∀ (i : Nat) (h : i < ps.length), i < k → ps[i].1 ≠ x
theorem noneTo_succ {ps : PS} {x : ByteArray} {k : Nat} (h : noneTo ps x k) (hk : k < ps.length) (he : ps[k].1 ≠ x) : noneTo ps x (k + 1) := by
  intro i hi hlt
  by_cases e : i = k
  · subst e
    exact he
  · exact h i hi (by omega)
theorem noneTo_end {ps : PS} {x : ByteArray} (h : noneTo ps x ps.length) : hasK ps x = false := by
  rw [hasK, List.any_eq_false]
  intro p hp
  obtain ⟨i, hi, rfl⟩ := List.getElem_of_mem hp
  simpa using h i hi hi
theorem noneTo_val {ps : PS} {x : ByteArray} {k : Nat} (h : noneTo ps x k) (hk : k < ps.length) (he : ps[k].1 = x) : valOf ps x = ps[k].2 ∧ hasK ps x = true := by
  have : ps.find? (fun p => decide (p.1 = x)) = some ps[k] := by
    rw [List.find?_eq_some_iff_getElem]
    refine ⟨by simpa using he, _, hk, rfl, fun j hj => ?_⟩
    simpa using h j (by omega) hj
  refine ⟨by simp [valOf, this], ?_⟩
  rw [hasK, List.any_eq_true]
  exact ⟨_, List.getElem_mem hk, by simpa using he⟩

theorem eqE_true {s : ByteArray} (h : s.size = 0) : (s.toList == ([] : List UInt8)) = true := by
  have : s.toList = [] := by
    rw [ByteArray.toList_eq]
    have h2 : s.data = #[] := Array.eq_empty_of_size_eq_zero h
    rw [h2]
  rw [this]; rfl
theorem eqE_false {s : ByteArray} (h : s.size ≠ 0) : (s.toList == ([] : List UInt8)) = false := by
  rw [beq_eq_false_iff_ne]
  intro e
  rw [ByteArray.toList_eq] at e
  have : s.data.size = 0 := by
    have := congrArg List.length e
    simpa using this
  exact h this

end Go.Proofs.Ytcjbjfhndjpmcaa
/-
  The two programs' KeyOk: contracts.
-/
namespace Go.Proofs.Ytcjbjfhndjpmcaa
open Go.RowKit

theorem ret_bool {a b : Bool} (h : a = b) : Ending.returned (.bool a) = .returned (.bool b) := by rw [h]

theorem dec_eq {p q : Prop} [Decidable p] [Decidable q] (h : p ↔ q) : decide p = decide q := by simp [h]

set_option maxHeartbeats 400000 in
theorem spec_KeyOk (s : ByteArray) (w : World) (hs : s.size ≤ maxLen) :
    Calls Try.prog 71 #[.string s] w fun e w' => e = .returned (.bool (keyB s)) ∧ w = w' := by
  unfold maxLen at hs
  go_enter Try.func71, Try.ntmps71
  go_wp2
  go_loop [3] (fun i => ∃ k : Nat, k ≤ s.size ∧ i = .int .i64 k ∧ okTo s k) (fun i => s.size - (intOf i).toNat)
  case atStart => exact ⟨0, Nat.zero_le _, rfl, okTo_zero s⟩
  case round =>
    obtain ⟨k, hk, rfl, hok⟩ := hrel
    by_cases hlt : k < s.size
    · have HS := hid (okTo_succ hok hlt)
      have HB := hid (@keyB_bad s k hlt)
      clear hok
      by_cases h1 : (s[k].toNat : Int) < 33
      · go_wp2
        go_ret
        exact ⟨ret_bool (HB.out (by omega)).symm, rfl⟩
      by_cases h2 : 126 < (s[k].toNat : Int)
      · go_wp2
        go_ret
        exact ⟨ret_bool (HB.out (by omega)).symm, rfl⟩
      by_cases h3 : (s[k].toNat : Int) = 61
      · have h3' : ((s[k].toNat : Int) == 61) = true := by simpa using h3
        have H3 := hid h3
        clear h3
        go_wp2
        go_ret
        exact ⟨ret_bool (HB.out (by have := H3.out; omega)).symm, rfl⟩
      · have h3' : ((s[k].toNat : Int) == 61) = false := by simpa using h3
        go_wp2
        go_round
        case rel => exact ⟨k + 1, by omega, by go_num, HS.out (by omega)⟩
        case measure => simp [intOf]; omega
    · obtain rfl : k = s.size := by omega
      have HE := hid (keyB_end hok)
      clear hok
      by_cases h1 : 1 ≤ s.size
      · go_wp2
        go_ret
        exact ⟨ret_bool (by rw [HE.out]; exact dec_eq (by omega)), rfl⟩
      · go_wp2
        go_ret
        exact ⟨ret_bool (by rw [HE.out]; simp; omega), rfl⟩

set_option maxHeartbeats 400000 in
theorem impl_KeyOk (s : ByteArray) (w : World) (hs : s.size ≤ maxLen) :
    Calls Try.prog 77 #[.string s] w fun e w' => e = .returned (.bool (keyB s)) ∧ w = w' := by
  unfold maxLen at hs
  by_cases g1 : s.size < 1
  · have HB := hid (keyB_short g1)
    go_enter Try.func77, Try.ntmps77
    go_wp2
    go_ret
    exact ⟨ret_bool HB.out.symm, rfl⟩
  by_cases g2 : 6 < s.size
  · have HB := hid (keyB_long g2)
    go_enter Try.func77, Try.ntmps77
    go_wp2
    go_ret
    exact ⟨ret_bool HB.out.symm, rfl⟩
  go_enter Try.func77, Try.ntmps77
  go_wp2
  go_loop [14] (fun i => ∃ k : Nat, k ≤ s.size ∧ i = .int .i64 k ∧ okTo s k) (fun i => s.size - (intOf i).toNat)
  case atStart => exact ⟨0, Nat.zero_le _, rfl, okTo_zero s⟩
  case round =>
    obtain ⟨k, hk, rfl, hok⟩ := hrel
    by_cases hlt : k < s.size
    · have HS := hid (okTo_succ hok hlt)
      have HB := hid (@keyB_bad s k hlt)
      clear hok
      by_cases h1 : (s[k].toNat : Int) < 33
      · go_wp2
        go_ret
        exact ⟨ret_bool (HB.out (by omega)).symm, rfl⟩
      by_cases h2 : 126 < (s[k].toNat : Int)
      · go_wp2
        go_ret
        exact ⟨ret_bool (HB.out (by omega)).symm, rfl⟩
      by_cases h3 : (s[k].toNat : Int) = 61
      · have h3' : ((s[k].toNat : Int) == 61) = true := by simpa using h3
        have H3 := hid h3
        clear h3
        go_wp2
        go_ret
        exact ⟨ret_bool (HB.out (by have := H3.out; omega)).symm, rfl⟩
      · have h3' : ((s[k].toNat : Int) == 61) = false := by simpa using h3
        go_wp2
        go_round
        case rel => exact ⟨k + 1, by omega, by go_num, HS.out (by omega)⟩
        case measure => simp [intOf]; omega
    · obtain rfl : k = s.size := by omega
      have HE := hid (keyB_end hok)
      clear hok
      go_wp2
      go_ret
      exact ⟨ret_bool (by rw [HE.out]; simp; omega), rfl⟩
end Go.Proofs.Ytcjbjfhndjpmcaa
