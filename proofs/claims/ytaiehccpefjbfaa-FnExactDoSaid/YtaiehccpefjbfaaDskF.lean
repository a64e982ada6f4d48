/-
  Disks: what the ops do to files, plain.
-/
import Derived.Test.YtaiehccpefjbfaaPlain
import Derived.Test.YtaiehccpefjbfaaListsOk
import Derived.Test.YtaiehccpefjbfaaDop
namespace Go.Proofs.Ytaiehccpefjbfaa
open Go.RowKit

def nameB (s : ByteArray) : Bool := decide (1 ≤ s.size ∧ s.size ≤ 100)
def bytesL (l : PS) : Nat := (l.map fun p => p.2.size).sum
def fitB (l : PS) : Bool := decide (l.length ≤ 60) && decide (bytesL l ≤ 200000)
def filesB (l : PS) : Bool := fitB l && (risesB l && l.all fun p => nameB p.1)
/-- Is the op of its form? -/
def formB (x : DD) : Bool :=
  nameB x.2.1 && (if x.1 = 1 then decide (x.2.2.1.size = 0) else if x.1 = 2 then nameB x.2.2.1 && decide (x.2.2.2.size = 0) else if x.1 = 3 then decide (x.2.2.1.size = 0) && decide (x.2.2.2.size = 0) else false)
/-- What an op leaves of files, and whether it finds its file. -/
def onD (l : PS) (x : DD) : PS × Bool :=
  if x.1 = 1 then (putL l x.2.1 (valOf l x.2.1 ++ x.2.2.2), true)
  else if hasK l x.2.1 then ((if x.1 = 2 then putL (dropL l x.2.1) x.2.2.1 (valOf l x.2.1) else dropL l x.2.1), true)
  else (l, false)
/-- What ops leave of files; none when one of them can't be done. -/
def playD : PS → DS → Option PS
  | l, [] => some l
  | l, x :: r => if formB x && ((onD l x).2 && fitB (onD l x).1) then playD (onD l x).1 r else none
def diskB (live safe : PS) (ops : DS) : Bool :=
  filesB safe && (decide (ops.length ≤ 200) && decide (playD safe ops = some live))

theorem filesB_iff {l : PS} : filesB l = true ↔ fitB l = true ∧ risesB l = true ∧ ∀ p ∈ l, nameB p.1 = true := by
  simp [filesB, List.all_eq_true]
theorem fitB_iff {l : PS} : fitB l = true ↔ l.length ≤ 60 ∧ bytesL l ≤ 200000 := by simp [fitB]
theorem dropL_rises {l : PS} (h : risesB l = true) (k : ByteArray) : risesB (dropL l k) = true :=
  rises_pw.2 ((rises_pw.1 h).sublist List.filter_sublist)
theorem onD_rises {l : PS} (h : risesB l = true) (x : DD) : risesB (onD l x).1 = true := by
  unfold onD
  split
  · exact putL_rises h _ _
  · split
    · dsimp only
      split
      · exact putL_rises (dropL_rises h _) _ _
      · exact dropL_rises h _
    · exact h
theorem formB_name {x : DD} (h : formB x = true) : nameB x.2.1 = true := by
  unfold formB at h
  rw [Bool.and_eq_true] at h
  exact h.1
theorem formB_to {x : DD} (h : formB x = true) (h2 : x.1 = 2) : nameB x.2.2.1 = true := by
  unfold formB at h
  rw [Bool.and_eq_true, if_neg (by omega), if_pos h2, Bool.and_eq_true] at h
  exact h.2.1
theorem dropL_mem {l : PS} {k : ByteArray} {p : BB} (h : p ∈ dropL l k) : p ∈ l := (List.mem_filter.1 h).1
theorem onD_names {l : PS} {x : DD} (h : ∀ p ∈ l, nameB p.1 = true) (hf : formB x = true) : ∀ p ∈ (onD l x).1, nameB p.1 = true := by
  intro p hp
  unfold onD at hp
  split at hp
  · rcases putL_mem hp with hp | rfl
    · exact h p hp
    · exact formB_name hf
  · split at hp
    · dsimp only at hp
      split at hp
      · rename_i h2
        rcases putL_mem hp with hp | rfl
        · exact h p (dropL_mem hp)
        · exact formB_to hf h2
      · exact h p (dropL_mem hp)
    · exact h p hp
theorem onD_files {l : PS} {x : DD} (h : filesB l = true) (hf : formB x = true) : filesB (onD l x).1 = fitB (onD l x).1 := by
  obtain ⟨_, h2, h3⟩ := filesB_iff.1 h
  have h4 := onD_rises h2 x
  have h5 := onD_names h3 hf
  cases h6 : fitB (onD l x).1
  · simp [filesB, h6]
  · exact filesB_iff.2 ⟨h6, h4, h5⟩
theorem playD_files : ∀ {ops : DS} {l m : PS}, filesB l = true → playD l ops = some m → filesB m = true
  | [], l, m, h, e => by simp only [playD, Option.some.injEq] at e; subst e; exact h
  | x :: r, l, m, h, e => by
    unfold playD at e
    split at e
    · rename_i hc
      simp only [Bool.and_eq_true] at hc
      exact playD_files (by rw [onD_files h hc.1]; exact hc.2.2) e
    · cases e
theorem bytesL_mem : ∀ {l : PS} {p : BB}, p ∈ l → p.2.size ≤ bytesL l
  | [], _, h => by simp at h
  | q :: r, p, h => by
    simp only [bytesL, List.map_cons, List.sum_cons]
    rcases List.mem_cons.1 h with rfl | h
    · omega
    · have := bytesL_mem h
      unfold bytesL at this
      omega
theorem bytesL_succ {l : PS} {k : Nat} (h : k < l.length) : bytesL (l.take (k + 1)) = bytesL (l.take k) + l[k].2.size := by
  unfold bytesL
  rw [List.take_succ_eq_append_getElem h, List.map_append, List.sum_append]
  simp only [List.map_cons, List.map_nil, List.sum_cons, List.sum_nil, Nat.add_zero]
theorem bytesL_take (l : PS) (k : Nat) : bytesL (l.take k) ≤ bytesL l := by
  unfold bytesL
  conv => rhs; rw [← List.take_append_drop k l, List.map_append, List.sum_append]
  omega
theorem diskB_iff {live safe : PS} {ops : DS} : diskB live safe ops = true ↔ filesB safe = true ∧ ops.length ≤ 200 ∧ playD safe ops = some live := by
  simp [diskB]
theorem diskB_live {live safe : PS} {ops : DS} (h : diskB live safe ops = true) : filesB live = true :=
  playD_files (diskB_iff.1 h).1 (diskB_iff.1 h).2.2

/-! ### sizes -/
def SmallP (l : PS) (B : Nat) : Prop := ∀ p ∈ l, p.1.size ≤ B ∧ p.2.size ≤ B
theorem SmallP.get {l : PS} {B k : Nat} (h : SmallP l B) (hk : k < l.length) : l[k].1.size ≤ B ∧ l[k].2.size ≤ B := h _ (List.getElem_mem hk)
theorem SmallP.more {l : PS} {B B' : Nat} (h : SmallP l B) (hb : B ≤ B') : SmallP l B' := fun p hp => ⟨Nat.le_trans (h p hp).1 hb, Nat.le_trans (h p hp).2 hb⟩
theorem valOf_small {l : PS} {B : Nat} (h : SmallP l B) (k : ByteArray) : (valOf l k).size ≤ B := by
  unfold valOf
  cases hf : l.find? (fun p => decide (p.1 = k)) with
  | none => exact Nat.zero_le _
  | some p => exact (h p (List.mem_of_find?_eq_some hf)).2
theorem putL_small {l : PS} {B : Nat} {k v : ByteArray} (h : SmallP l B) (hk : k.size ≤ B) (hv : v.size ≤ B) : SmallP (putL l k v) B := fun p hp => by
  rcases putL_mem hp with hp | rfl
  · exact h p hp
  · exact ⟨hk, hv⟩
theorem dropL_small {l : PS} {B : Nat} {k : ByteArray} (h : SmallP l B) : SmallP (dropL l k) B := fun p hp => h p (dropL_mem hp)
def SmallX (x : DD) (B : Nat) : Prop := x.2.1.size ≤ B ∧ x.2.2.1.size ≤ B ∧ x.2.2.2.size ≤ B
theorem append_size (a b : ByteArray) : (a ++ b).size = a.size + b.size := ByteArray.size_append
theorem onD_small {l : PS} {x : DD} {B C : Nat} (h : SmallP l B) (hx : SmallX x C) : SmallP (onD l x).1 (B + C) := by
  have hB := h.more (Nat.le_add_right B C)
  have hv := valOf_small h x.2.1
  obtain ⟨h1, h2, h3⟩ := hx
  unfold onD
  split
  · exact putL_small hB (by omega) (by rw [append_size]; omega)
  · split
    · dsimp only
      split
      · exact putL_small (dropL_small hB) (by omega) (by omega)
      · exact dropL_small hB
    · exact hB
theorem onD_len (l : PS) (x : DD) : (onD l x).1.length ≤ l.length + 1 := by
  unfold onD
  split
  · exact putL_len_le _ _ _
  · split
    · dsimp only
      split
      · have := putL_len_le (dropL l x.2.1) x.2.2.1 (valOf l x.2.1)
        have := dropL_len l x.2.1
        omega
      · have := dropL_len l x.2.1
        omega
    · dsimp only
      omega
theorem filesB_small {l : PS} (h : filesB l = true) : SmallP l 200000 := fun p hp => by
  obtain ⟨h1, _, h3⟩ := filesB_iff.1 h
  have h4 := (fitB_iff.1 h1).2
  have h5 := bytesL_mem hp
  have h6 := h3 p hp
  simp only [nameB, decide_eq_true_eq] at h6
  omega
theorem playD_drop {m : PS} {ops : DS} {k : Nat} (h : k < ops.length) : playD m (ops.drop k) = if formB ops[k] && ((onD m ops[k]).2 && fitB (onD m ops[k]).1) then playD (onD m ops[k]).1 (ops.drop (k + 1)) else none := by
  rw [List.drop_eq_getElem_cons h]
  rfl
theorem playD_end (m : PS) (ops : DS) : playD m (ops.drop ops.length) = some m := by
  rw [List.drop_length]
  rfl
end Go.Proofs.Ytaiehccpefjbfaa
