/-
  The model's questions about ops, what an op does, the model's DiskOk: contracts (tools/mkdsks.py).
-/
import Derived.Test.YtaiehccpefjbfaaDskS
import Derived.Test.YtaiehccpefjbfaaDskKit
namespace Go.Proofs.Ytaiehccpefjbfaa
open Go.RowKit

theorem spec_l1In_yes (n : Int) (w : World) (h : 1 ≤ n ∧ n ≤ 3) :
    Calls Try.prog 60 #[.int .i64 n, .int .i64 1, .int .i64 3] w fun e w' => e = .returned (.bool true) ∧ w = w' := by
  refine (spec_l1In_op n w).mono ?_
  rintro e w' ⟨rfl, rfl⟩
  exact ⟨ret_bool (by simp; omega), rfl⟩
theorem spec_l1In_no (n : Int) (w : World) (h : ¬ (1 ≤ n ∧ n ≤ 3)) :
    Calls Try.prog 60 #[.int .i64 n, .int .i64 1, .int .i64 3] w fun e w' => e = .returned (.bool false) ∧ w = w' := by
  refine (spec_l1In_op n w).mono ?_
  rintro e w' ⟨rfl, rfl⟩
  exact ⟨ret_bool (by simp; omega), rfl⟩
theorem name_yes {s : ByteArray} {w : World} (hs : s.size ≤ maxLen) (h : nameB s = true) :
    Calls Try.prog 114 #[.string s] w fun e w' => e = .returned (.bool true) ∧ w = w' := by
  refine (spec_l10Name s w hs).mono ?_
  rintro e w' ⟨rfl, rfl⟩
  exact ⟨by rw [h], rfl⟩
theorem name_no {s : ByteArray} {w : World} (hs : s.size ≤ maxLen) (h : nameB s = false) :
    Calls Try.prog 114 #[.string s] w fun e w' => e = .returned (.bool false) ∧ w = w' := by
  refine (spec_l10Name s w hs).mono ?_
  rintro e w' ⟨rfl, rfl⟩
  exact ⟨by rw [h], rfl⟩
theorem form_kind {x : DD} (h : ¬ (1 ≤ x.1 ∧ x.1 ≤ 3)) : formB x = false := by
  unfold formB
  rw [if_neg (by omega), if_neg (by omega), if_neg (by omega)]
  simp
theorem form_name {x : DD} (h : nameB x.2.1 = false) : formB x = false := by simp [formB, h]
theorem form_1 {x : DD} (h : nameB x.2.1 = true) (h1 : x.1 = 1) : formB x = decide (x.2.2.1.size = 0) := by simp [formB, h, h1]
theorem form_2 {x : DD} (h : nameB x.2.1 = true) (h1 : x.1 = 2) : formB x = (nameB x.2.2.1 && decide (x.2.2.2.size = 0)) := by simp [formB, h, h1]
theorem form_3 {x : DD} (h : nameB x.2.1 = true) (h1 : x.1 = 3) : formB x = (decide (x.2.2.1.size = 0) && decide (x.2.2.2.size = 0)) := by simp [formB, h, h1]

set_option maxHeartbeats 1000000 in
set_option maxRecDepth 100000 in
theorem spec_l10Form (x : DD) (w : World) (hs : SmallX x maxLen) :
    Calls Try.prog 97 #[.agg #[.int .i64 x.1, .string x.2.1, .string x.2.2.1, .string x.2.2.2]] w fun e w' => e = .returned (.bool (formB x)) ∧ Below w.heap.size w w' := by
  obtain ⟨hs1, hs2, hs3⟩ := hs
  have HS1 := hid hs1
  have HS2 := hid hs2
  have HB : Hid (∀ ob : Obj, Below w.heap.size w (w.alloc ob)) := fun ob => (Below.refl _ _).alloc (Nat.le_refl _) ob
  clear hs1 hs2 hs3
  by_cases hk : 1 ≤ x.1 ∧ x.1 ≤ 3
  · cases hn : nameB x.2.1
    · have HE := hid (form_name hn)
      try clear h1
      try clear h2
      try clear h3
      try clear hd
      try clear ht2
      go_enter Try.func97, Try.ntmps97
      go_wp2_with (first
        | (go_at_call 60; refine (spec_l1In_yes x.1 _ hk).mono ?_; rintro e w' ⟨rfl, rfl⟩)
        | (go_at_call 114; (with_reducible refine (name_no (s := x.2.1) (by first | exact HS1.out | exact HS2.out) hn).mono ?_); rintro e w' ⟨rfl, rfl⟩))
      go_ret
      exact ⟨ret_bool HE.out.symm, HB.out _⟩
    · by_cases h2 : x.1 = 2
      · have h2' : (x.1 == 2) = true := by simp [h2]
        cases ht : nameB x.2.2.1
        · have HE : Hid (formB x = false) := by rw [Hid, form_2 hn h2, ht]; rfl
          try clear h1
          try clear h2
          try clear h3
          try clear hd
          try clear ht2
          go_enter Try.func97, Try.ntmps97
          go_wp2_with (first
            | (go_at_call 60; refine (spec_l1In_yes x.1 _ hk).mono ?_; rintro e w' ⟨rfl, rfl⟩)
            | (go_at_call 114; (with_reducible refine (name_yes (s := x.2.1) (by first | exact HS1.out | exact HS2.out) hn).mono ?_); rintro e w' ⟨rfl, rfl⟩)
            | (go_at_call 114; (with_reducible refine (name_no (s := x.2.2.1) (by first | exact HS1.out | exact HS2.out) ht).mono ?_); rintro e w' ⟨rfl, rfl⟩))
          go_ret
          exact ⟨ret_bool HE.out.symm, HB.out _⟩
        · by_cases hd : x.2.2.2.size = 0
          · have g := eqE_true hd
            have HE : Hid (formB x = true) := by rw [Hid, form_2 hn h2, ht]; simp [hd]
            try clear h1
            try clear h2
            try clear h3
            try clear hd
            try clear ht2
            go_enter Try.func97, Try.ntmps97
            go_wp2_with (first
              | (go_at_call 60; refine (spec_l1In_yes x.1 _ hk).mono ?_; rintro e w' ⟨rfl, rfl⟩)
              | (go_at_call 114; (with_reducible refine (name_yes (s := x.2.1) (by first | exact HS1.out | exact HS2.out) hn).mono ?_); rintro e w' ⟨rfl, rfl⟩)
              | (go_at_call 114; (with_reducible refine (name_yes (s := x.2.2.1) (by first | exact HS1.out | exact HS2.out) ht).mono ?_); rintro e w' ⟨rfl, rfl⟩))
            go_ret
            exact ⟨ret_bool HE.out.symm, HB.out _⟩
          · have g := eqE_false hd
            have HE : Hid (formB x = false) := by rw [Hid, form_2 hn h2, ht]; simp [hd]
            try clear h1
            try clear h2
            try clear h3
            try clear hd
            try clear ht2
            go_enter Try.func97, Try.ntmps97
            go_wp2_with (first
              | (go_at_call 60; refine (spec_l1In_yes x.1 _ hk).mono ?_; rintro e w' ⟨rfl, rfl⟩)
              | (go_at_call 114; (with_reducible refine (name_yes (s := x.2.1) (by first | exact HS1.out | exact HS2.out) hn).mono ?_); rintro e w' ⟨rfl, rfl⟩)
              | (go_at_call 114; (with_reducible refine (name_yes (s := x.2.2.1) (by first | exact HS1.out | exact HS2.out) ht).mono ?_); rintro e w' ⟨rfl, rfl⟩))
            go_ret
            exact ⟨ret_bool HE.out.symm, HB.out _⟩
      · have h2' : (x.1 == 2) = false := by simp [h2]
        by_cases ht2 : x.2.2.1.size = 0
        · have g := eqE_true ht2
          by_cases h1 : x.1 = 1
          · have h1' : (x.1 == 1) = true := by simp [h1]
            have HE : Hid (formB x = true) := by rw [Hid, form_1 hn h1]; simp [ht2]
            try clear h1
            try clear h2
            try clear h3
            try clear hd
            try clear ht2
            go_enter Try.func97, Try.ntmps97
            go_wp2_with (first
              | (go_at_call 60; refine (spec_l1In_yes x.1 _ hk).mono ?_; rintro e w' ⟨rfl, rfl⟩)
              | (go_at_call 114; (with_reducible refine (name_yes (s := x.2.1) (by first | exact HS1.out | exact HS2.out) hn).mono ?_); rintro e w' ⟨rfl, rfl⟩))
            go_ret
            exact ⟨ret_bool HE.out.symm, HB.out _⟩
          · have h1' : (x.1 == 1) = false := by simp [h1]
            have h3 : x.1 = 3 := by omega
            by_cases hd : x.2.2.2.size = 0
            · have g2 := eqE_true hd
              have HE : Hid (formB x = true) := by rw [Hid, form_3 hn h3]; simp [ht2, hd]
              try clear h1
              try clear h2
              try clear h3
              try clear hd
              try clear ht2
              go_enter Try.func97, Try.ntmps97
              go_wp2_with (first
                | (go_at_call 60; refine (spec_l1In_yes x.1 _ hk).mono ?_; rintro e w' ⟨rfl, rfl⟩)
                | (go_at_call 114; (with_reducible refine (name_yes (s := x.2.1) (by first | exact HS1.out | exact HS2.out) hn).mono ?_); rintro e w' ⟨rfl, rfl⟩))
              go_ret
              exact ⟨ret_bool HE.out.symm, HB.out _⟩
            · have g2 := eqE_false hd
              have HE : Hid (formB x = false) := by rw [Hid, form_3 hn h3]; simp [hd]
              try clear h1
              try clear h2
              try clear h3
              try clear hd
              try clear ht2
              go_enter Try.func97, Try.ntmps97
              go_wp2_with (first
                | (go_at_call 60; refine (spec_l1In_yes x.1 _ hk).mono ?_; rintro e w' ⟨rfl, rfl⟩)
                | (go_at_call 114; (with_reducible refine (name_yes (s := x.2.1) (by first | exact HS1.out | exact HS2.out) hn).mono ?_); rintro e w' ⟨rfl, rfl⟩))
              go_ret
              exact ⟨ret_bool HE.out.symm, HB.out _⟩
        · have g := eqE_false ht2
          have HE : Hid (formB x = false) := by
            rw [Hid]
            by_cases h1 : x.1 = 1
            · rw [form_1 hn h1]; simp [ht2]
            · rw [form_3 hn (by omega)]; simp [ht2]
          try clear h1
          try clear h2
          try clear h3
          try clear hd
          try clear ht2
          go_enter Try.func97, Try.ntmps97
          go_wp2_with (first
            | (go_at_call 60; refine (spec_l1In_yes x.1 _ hk).mono ?_; rintro e w' ⟨rfl, rfl⟩)
            | (go_at_call 114; (with_reducible refine (name_yes (s := x.2.1) (by first | exact HS1.out | exact HS2.out) hn).mono ?_); rintro e w' ⟨rfl, rfl⟩))
          go_ret
          exact ⟨ret_bool HE.out.symm, HB.out _⟩
  · have HE := hid (form_kind hk)
    try clear h1
    try clear h2
    try clear h3
    try clear hd
    try clear ht2
    go_enter Try.func97, Try.ntmps97
    go_wp2_with (first
      | (go_at_call 60; refine (spec_l1In_no x.1 _ hk).mono ?_; rintro e w' ⟨rfl, rfl⟩))
    go_ret
    exact ⟨ret_bool HE.out.symm, HB.out _⟩

/-! ### what an op does -/
def AtB (ps : PS) (x : ByteArray) (r : Int) : Prop := (r = -1 ∧ hasK ps x = false) ∨ ∃ (i : Nat) (h : i < ps.length), r = (i : Int) ∧ hasK ps x = true ∧ valOf ps x = ps[i].2
set_option maxHeartbeats 1000000 in
theorem spec_l10At (A : Option Addr) (c : Nat) (ps : PS) (x : ByteArray) (B : Nat) (w : World) (hr : RP w B A ps) (hn : ps.length ≤ maxLen) :
    Calls Try.prog 111 #[.slice A ps.length c, .string x] w fun e w' => ∃ r, e = .returned (.int .i64 r) ∧ AtB ps x r ∧ w = w' := by
  unfold maxLen at hn
  go_enter Try.func111, Try.ntmps111
  go_wp2_with fail
  go_loop [5] (fun i => ∃ k : Nat, k ≤ ps.length ∧ i = .int .i64 k ∧ noneTo ps x k) (fun i => ps.length - (intOf i).toNat)
  case atStart => exact ⟨0, Nat.zero_le _, rfl, fun i h hi => absurd hi (by omega)⟩
  case round =>
    obtain ⟨k, hk, rfl, hnt⟩ := hrel
    by_cases hlt : k < ps.length
    · obtain ⟨b, off, rfl, hb, hc1, hc2⟩ := hr.at_ hlt
      have HS := hid (noneTo_succ hnt hlt)
      have HV := hid (noneTo_val hnt hlt)
      clear hnt hr
      by_cases he : ps[k].1 = x
      · have h1 := eqS_true he
        have HE := hid he
        clear he
        go_wp2_with fail
        go_ret
        exact ⟨_, rfl, .inr ⟨k, hlt, rfl, (HV.out HE.out).2, (HV.out HE.out).1⟩, rfl⟩
      · have h1 := eqS_false he
        have HE := hid he
        clear he
        go_wp2_with fail
        go_round
        case rel => exact ⟨k + 1, by omega, by go_num, HS.out HE.out⟩
        case measure => simp [intOf]; omega
    · obtain rfl : k = ps.length := by omega
      have HE := hid (noneTo_end hnt)
      clear hnt hr
      go_wp2_with fail
      go_ret
      exact ⟨_, rfl, .inl ⟨rfl, HE.out⟩, rfl⟩

theorem onD_1 {l : PS} {x : DD} (h : x.1 = 1) : onD l x = (putL l x.2.1 (valOf l x.2.1 ++ x.2.2.2), true) := by unfold onD; rw [if_pos h]
theorem onD_2 {l : PS} {x : DD} (h : x.1 = 2) (hk : hasK l x.2.1 = true) : onD l x = (putL (dropL l x.2.1) x.2.2.1 (valOf l x.2.1), true) := by unfold onD; rw [if_neg (by omega), if_pos hk, if_pos h]
theorem onD_3 {l : PS} {x : DD} (h1 : x.1 ≠ 1) (h2 : x.1 ≠ 2) (hk : hasK l x.2.1 = true) : onD l x = (dropL l x.2.1, true) := by unfold onD; rw [if_neg h1, if_pos hk, if_neg h2]
theorem onD_no {l : PS} {x : DD} (h1 : x.1 ≠ 1) (hk : hasK l x.2.1 = false) : onD l x = (l, false) := by unfold onD; rw [if_neg h1, if_neg (by simp [hk])]
theorem made2_ret {w w' : World} {L : PS} {b : Bool} {q : PS × Bool} (hq : q = (L, b)) {A : Option Addr} {c : Nat} (ho : OwnPF w' w.heap.size A c L) (hb : Below w.heap.size w w') :
    Made2F w q.1 q.2 (.returned (.tuple #[.slice A L.length c, .bool b])) w' := by
  subst hq
  exact ⟨A, c, rfl, ho, hb⟩
theorem empty_append (a : ByteArray) : (⟨#[]⟩ : ByteArray) ++ a = a := ByteArray.empty_append

set_option maxHeartbeats 4000000 in
set_option maxRecDepth 100000 in
theorem spec_l10Do (A : Option Addr) (c : Nat) (ps : PS) (x : DD) (w : World) (hr : RP w w.heap.size A ps) (hn : ps.length ≤ 1000000) (hp : SmallP ps 1000000000) (hx : SmallX x 1000000000) :
    Calls Try.prog 61 #[.slice A ps.length c, .agg #[.int .i64 x.1, .string x.2.1, .string x.2.2.1, .string x.2.2.2]] w (Made2F w (onD ps x).1 (onD ps x).2) := by
  have HB0 := hid ((Below.refl w.heap.size w).alloc (Nat.le_refl _) (.cells #[.int .i64 x.1, .string x.2.1, .string x.2.2.1, .string x.2.2.2] 37))
  have HR := hid ((hr.below HB0.out).more HB0.out.size)
  have HR0 := hid hr
  have hv := valOf_small hp x.2.1
  have hx3 := hx.2.2
  have hL : ps.length ≤ maxLen := by unfold maxLen; omega
  have HX := hid hx
  have HP := hid hp
  have HL := hid hL
  clear hr hp hx hL
  obtain ⟨i0, hi0, hz0, hz1, hz2⟩ := info_parts pairInfoF
  have hatc : ∀ (w1 : World) (hb : Below w.heap.size w w1), Calls Try.prog 111 #[.slice A ps.length c, .string x.2.1] w1 fun e w' => ∃ r, e = .returned (.int .i64 r) ∧ AtB ps x.2.1 r ∧ w1 = w' := fun w1 hb => spec_l10At A c ps x.2.1 w1.heap.size w1 ((HR0.out.below hb).more hb.size) HL.out
  have ENT : True := trivial
  by_cases h1 : x.1 = 1
  · have h1' : (x.1 == 1) = true := by simp [h1]
    have HE1 := hid (onD_1 (l := ps) h1)
    clear h1
    go_enter Try.func61, Try.ntmps61
    go_wp2_with fail
    refine (hatc _ HB0.out).mono ?_
    rintro e w1 ⟨r, rfl, hat, rfl⟩
    rcases hat with ⟨rfl, hk⟩ | ⟨i, hi, rfl, hk, hv2⟩
    · have HE : Hid (onD ps x = (putL ps x.2.1 x.2.2.2, true)) := by rw [Hid, HE1.out, valOf_none hk, empty_append]
      go_wp2_with fail
      refine (spec_l1PutF A c ps x.2.1 x.2.2.2 _ HR.out (by omega)).mono ?_
      rintro e w9 ⟨A9, c9, rfl, ho9, hb9⟩
      have HO9 := hid (ho9.monoF HB0.out.size)
      have HB9 := hid (HB0.out.trans (hb9.mono HB0.out.size))
      clear ho9 hb9
      go_wp2_with fail
      go_ret2
      exact made2_ret HE.out HO9.out HB9.out
    · have HE : Hid (onD ps x = (putL ps x.2.1 (ps[i].2 ++ x.2.2.2), true)) := by rw [Hid, HE1.out, hv2]
      obtain ⟨b, off, rfl, hb, hc1, hc2⟩ := HR.out.at_ hi
      have hvs : ps[i].2.size ≤ 1000000000 := by rw [← hv2]; exact hv
      go_wp2_with fail
      refine (spec_l1PutF _ c ps x.2.1 (ps[i].2 ++ x.2.2.2) _ HR.out (by omega)).mono ?_
      rintro e w9 ⟨A9, c9, rfl, ho9, hb9⟩
      have HO9 := hid (ho9.monoF HB0.out.size)
      have HB9 := hid (HB0.out.trans (hb9.mono HB0.out.size))
      clear ho9 hb9
      go_wp2_with fail
      go_ret2
      exact made2_ret HE.out HO9.out HB9.out
  · have h1' : (x.1 == 1) = false := by simp [h1]
    go_enter Try.func61, Try.ntmps61
    go_wp2_with fail
    refine (hatc _ HB0.out).mono ?_
    rintro e w1 ⟨r, rfl, hat, rfl⟩
    rcases hat with ⟨rfl, hk⟩ | ⟨i, hi, rfl, hk, hv2⟩
    · have HE := hid (onD_no h1 hk)
      have HZ : Hid (OwnPF ((w.alloc (.cells #[.int .i64 x.1, .string x.2.1, .string x.2.2.1, .string x.2.2.2] 37)).alloc (.cells #[] 138)) w.heap.size (some ⟨w.heap.size + 1, 0, none⟩) 0 []) := by
        have := OwnPF.made (w := w.alloc (.cells #[.int .i64 x.1, .string x.2.1, .string x.2.2.1, .string x.2.2.2] 37)) HB0.out.size #[] 0 rfl (Nat.zero_le _)
        rw [World.size_alloc] at this
        exact this
      go_wp2_with (at_builtin; (refine wpList_append_rpF _ rfl _ _ _ rfl i0 Try.underlying30 hi0 hz0 hz1 hz2 w.heap.size _ _ _ [] rfl rfl HZ.out _ _ _ _ ps rfl rfl (HR.out.below ((Below.refl _ _).alloc (Nat.le_refl _) _)) (by rw [List.length_nil]; omega) (Nat.le_trans HB0.out.size ((Below.refl _ _).alloc (Nat.le_refl _) _).size) ?_); intro A2 n2 c2 w2 hn2 hown2 hbw2; have HN2 := hid hn2; have HO2 := hid hown2; have HB2 := hid hbw2; clear hn2 hown2 hbw2)
      go_ret2
      have e2 : n2 = ps.length := HN2.out.trans (by simp)
      subst e2
      exact made2_ret HE.out HO2.out ((HB0.out.alloc HB0.out.size _).trans HB2.out)
    · obtain ⟨b, off, rfl, hb, hc1, hc2⟩ := HR.out.at_ hi
      by_cases h2 : x.1 = 2
      · have h2' : (x.1 == 2) = true := by simp [h2]
        have HE : Hid (onD ps x = (putL (dropL ps x.2.1) x.2.2.1 ps[i].2, true)) := by rw [Hid, onD_2 h2 hk, hv2]
        clear h2 hv2
        go_wp2_with fail
        refine (spec_l1DropF _ c ps x.2.1 _ HR.out (by omega)).mono ?_
        rintro e w2 ⟨A2, c2, rfl, ho2, hb2⟩
        have hx0 : w2.cell? ⟨w.heap.size, 0, none⟩ = some (.int .i64 x.1) := (hb2.cell (p := ⟨w.heap.size, 0, none⟩) (by simp)).trans (by go_simp)
        have hx3 : w2.cell? ⟨w.heap.size, 2, none⟩ = some (.string x.2.2.1) := (hb2.cell (p := ⟨w.heap.size, 2, none⟩) (by simp)).trans (by go_simp)
        have hc3 : w2.cell? ⟨b, off + i * 2 + 1, none⟩ = some (.string ps[i].2) := (hb2.cell (p := ⟨b, off + i * 2 + 1, none⟩) (by simpa using hb)).trans hc2
        have HO2 := hid ho2
        have HB2 := hid hb2
        have hdl := dropL_len ps x.2.1
        have hsz : w.heap.size < w2.heap.size := by have := hb2.size; simp at this; omega
        have hsb : b < w2.heap.size := by have := hb2.size; simp at hb this; omega
        clear ho2 hb2 hc1 hc2
        go_wp2_with fail
        go_region_held3 (fun w' => w'.cell? ⟨w.heap.size, 2, none⟩ = some (.string x.2.2.1) ∧ w'.cell? ⟨b, off + i * 2 + 1, none⟩ = some (.string ps[i].2)) (go_keep)
          (first | (go_at_call 112; refine (spec_l1PutF A2 c2 (dropL ps x.2.1) x.2.2.1 ps[i].2 _ (HO2.out.below (Below.refl _ _).drew).rp (by omega)).mono ?_; rintro e w9 ⟨A9, c9, rfl, ho9, hb9⟩; have hx4 : w9.cell? ⟨w.heap.size, 2, none⟩ = some (.string x.2.2.1) := (hb9.cell (p := ⟨w.heap.size, 2, none⟩) hsz).trans hx3; have hc4 : w9.cell? ⟨b, off + i * 2 + 1, none⟩ = some (.string ps[i].2) := (hb9.cell (p := ⟨b, off + i * 2 + 1, none⟩) hsb).trans hc3; have HO9 := hid ho9; have HB9 := hid hb9; clear ho9 hb9))
        go_wp2_with fail
        go_ret2
        exact made2_ret HE.out (HO9.out.monoF (by simp; omega)) (HB0.out.trans ((HB2.out.drew.trans (HB9.out.mono HB2.out.size)).mono HB0.out.size))
      · have h2' : (x.1 == 2) = false := by simp [h2]
        have HE := hid (onD_3 h1 h2 hk)
        go_wp2_with fail
        refine (spec_l1DropF _ c ps x.2.1 _ HR.out (by omega)).mono ?_
        rintro e w2 ⟨A2, c2, rfl, ho2, hb2⟩
        have hx3 : w2.cell? ⟨w.heap.size, 0, none⟩ = some (.int .i64 x.1) := (hb2.cell (p := ⟨w.heap.size, 0, none⟩) (by simp)).trans (by go_simp)
        have HO2 := hid (ho2.monoF HB0.out.size)
        have HB2 := hid (HB0.out.trans (hb2.mono HB0.out.size))
        clear ho2 hb2 hc1 hc2
        go_wp2_with fail
        go_ret2
        exact made2_ret HE.out HO2.out HB2.out
end Go.Proofs.Ytaiehccpefjbfaa
