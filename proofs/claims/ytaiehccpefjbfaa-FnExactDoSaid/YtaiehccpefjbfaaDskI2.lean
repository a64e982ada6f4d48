/-
  The program's ops behind an interface, what each does, playedOn, DiskOk: contracts (tools/mkdski2.py).
-/
import Derived.Test.YtaiehccpefjbfaaDskI
import Derived.Test.YtaiehccpefjbfaaDskS3
namespace Go.Proofs.Ytaiehccpefjbfaa
open Go.RowKit Go.Shelf

theorem nm_yes {s : ByteArray} {w : World} (hs : s.size ≤ maxLen) (h : nameB s = true) :
    Calls Try.prog 142 #[.string s] w fun e w' => e = .returned (.bool true) ∧ w = w' := by
  refine (impl_nameOk s w hs).mono ?_
  rintro e w' ⟨rfl, rfl⟩
  exact ⟨by rw [h], rfl⟩
theorem nm_no {s : ByteArray} {w : World} (hs : s.size ≤ maxLen) (h : nameB s = false) :
    Calls Try.prog 142 #[.string s] w fun e w' => e = .returned (.bool false) ∧ w = w' := by
  refine (impl_nameOk s w hs).mono ?_
  rintro e w' ⟨rfl, rfl⟩
  exact ⟨by rw [h], rfl⟩
/-- The op behind the interface, of its form. -/
def ifc (x : DD) : Value :=
  if x.1 = 1 then .iface 192 (.agg #[.string x.2.1, .string x.2.2.2])
  else if x.1 = 2 then .iface 194 (.agg #[.string x.2.1, .string x.2.2.1])
  else .iface 196 (.agg #[.string x.2.1])
theorem ifc_1 {x : DD} (h : x.1 = 1) : ifc x = .iface 192 (.agg #[.string x.2.1, .string x.2.2.2]) := if_pos h
theorem ifc_2 {x : DD} (h : x.1 = 2) : ifc x = .iface 194 (.agg #[.string x.2.1, .string x.2.2.1]) := by unfold ifc; rw [if_neg (by omega), if_pos h]
theorem ifc_3 {x : DD} (h1 : x.1 ≠ 1) (h2 : x.1 ≠ 2) : ifc x = .iface 196 (.agg #[.string x.2.1]) := by unfold ifc; rw [if_neg h1, if_neg h2]
theorem form_123 {x : DD} (h : formB x = true) : x.1 = 1 ∨ x.1 = 2 ∨ x.1 = 3 := by
  by_cases hk : 1 ≤ x.1 ∧ x.1 ≤ 3
  · omega
  · rw [form_kind hk] at h
    cases h

/-- What opOf answers. -/
def OpPost (x : DD) (w : World) (e : Ending) (w' : World) : Prop :=
  ∃ v, e = .returned (.tuple #[v, .bool (formB x)]) ∧ (formB x = true → v = ifc x) ∧ Below w.heap.size w w'
theorem op_ret {x : DD} {w w' : World} {v : Value} {b : Bool} (hb : Below w.heap.size w w') (h : formB x = b) (hv : b = true → v = ifc x) : OpPost x w (.returned (.tuple #[v, .bool b])) w' :=
  ⟨v, by rw [h], fun e => hv (by rw [← h]; exact e), hb⟩

set_option maxHeartbeats 2000000 in
set_option maxRecDepth 100000 in
theorem impl_opOf (x : DD) (w : World) (hs : SmallX x maxLen) :
    Calls Try.prog 104 #[.agg #[.int .i64 x.1, .string x.2.1, .string x.2.2.1, .string x.2.2.2]] w (OpPost x w) := by
  obtain ⟨hs1, hs2, hs3⟩ := hs
  have HS1 := hid hs1
  have HS2 := hid hs2
  have HB : Hid (∀ ob : Obj, Below w.heap.size w (w.alloc ob)) := fun ob => (Below.refl _ _).alloc (Nat.le_refl _) ob
  clear hs1 hs2 hs3
  cases hn : nameB x.2.1
  · have HE := hid (form_name hn)
    try clear h1
    try clear h2
    try clear h3
    try clear hd
    try clear ht2
    go_enter Try.func104, Try.ntmps104
    go_wp2_with (first
      | (go_at_call 142; (with_reducible refine (nm_no (s := x.2.1) (by first | exact HS1.out | exact HS2.out) hn).mono ?_); rintro e w' ⟨rfl, rfl⟩))
    go_ret2
    exact op_ret (HB.out _) HE.out (fun e => by cases e)
  by_cases h1 : x.1 = 1
  · have h1' : (x.1 == 1) = true := by simp [h1]
    have HI := hid (ifc_1 h1)
    by_cases ht2 : x.2.2.1.size = 0
    · have g := eqE_true ht2
      have HE : Hid (formB x = true) := by rw [Hid, form_1 hn h1]; simp [ht2]
      try clear h1
      try clear h2
      try clear h3
      try clear hd
      try clear ht2
      go_enter Try.func104, Try.ntmps104
      go_wp2_with (first
        | (go_at_call 142; (with_reducible refine (nm_yes (s := x.2.1) (by first | exact HS1.out | exact HS2.out) hn).mono ?_); rintro e w' ⟨rfl, rfl⟩))
      go_quiet (fail)
      go_wp2_with fail
      go_ret2
      exact op_ret ((HB.out _).trans (((Drawn.refl _).drewN _).below _)) HE.out (fun _ => HI.out.symm)
    · have g := eqE_false ht2
      have HE : Hid (formB x = false) := by rw [Hid, form_1 hn h1]; simp [ht2]
      try clear h1
      try clear h2
      try clear h3
      try clear hd
      try clear ht2
      go_enter Try.func104, Try.ntmps104
      go_wp2_with (first
        | (go_at_call 142; (with_reducible refine (nm_yes (s := x.2.1) (by first | exact HS1.out | exact HS2.out) hn).mono ?_); rintro e w' ⟨rfl, rfl⟩))
      go_quiet (fail)
      go_wp2_with fail
      go_ret2
      exact op_ret ((HB.out _).trans (((Drawn.refl _).drewN _).below _)) HE.out (fun e => by cases e)
  have h1' : (x.1 == 1) = false := by simp [h1]
  by_cases h2 : x.1 = 2
  · have h2' : (x.1 == 2) = true := by simp [h2]
    have HI := hid (ifc_2 h2)
    cases ht : nameB x.2.2.1
    · have HE : Hid (formB x = false) := by rw [Hid, form_2 hn h2, ht]; rfl
      try clear h1
      try clear h2
      try clear h3
      try clear hd
      try clear ht2
      go_enter Try.func104, Try.ntmps104
      go_wp2_with (first
        | (go_at_call 142; (with_reducible refine (nm_yes (s := x.2.1) (by first | exact HS1.out | exact HS2.out) hn).mono ?_); rintro e w' ⟨rfl, rfl⟩))
      go_quiet ((go_at_call 142; exact quiet_eq (nm_no HS2.out ht)))
      go_wp2_with fail
      go_ret2
      exact op_ret ((HB.out _).trans (((Drawn.refl _).drewN _).below _)) HE.out (fun e => by cases e)
    · by_cases hd : x.2.2.2.size = 0
      · have g := eqE_true hd
        have HE : Hid (formB x = true) := by rw [Hid, form_2 hn h2, ht]; simp [hd]
        try clear h1
        try clear h2
        try clear h3
        try clear hd
        try clear ht2
        go_enter Try.func104, Try.ntmps104
        go_wp2_with (first
          | (go_at_call 142; (with_reducible refine (nm_yes (s := x.2.1) (by first | exact HS1.out | exact HS2.out) hn).mono ?_); rintro e w' ⟨rfl, rfl⟩))
        go_quiet ((go_at_call 142; exact quiet_eq (nm_yes HS2.out ht)))
        go_wp2_with fail
        go_ret2
        exact op_ret ((HB.out _).trans (((Drawn.refl _).drewN _).below _)) HE.out (fun _ => HI.out.symm)
      · have g := eqE_false hd
        have HE : Hid (formB x = false) := by rw [Hid, form_2 hn h2, ht]; simp [hd]
        try clear h1
        try clear h2
        try clear h3
        try clear hd
        try clear ht2
        go_enter Try.func104, Try.ntmps104
        go_wp2_with (first
          | (go_at_call 142; (with_reducible refine (nm_yes (s := x.2.1) (by first | exact HS1.out | exact HS2.out) hn).mono ?_); rintro e w' ⟨rfl, rfl⟩))
        go_quiet ((go_at_call 142; exact quiet_eq (nm_yes HS2.out ht)))
        go_wp2_with fail
        go_ret2
        exact op_ret ((HB.out _).trans (((Drawn.refl _).drewN _).below _)) HE.out (fun e => by cases e)
  have h2' : (x.1 == 2) = false := by simp [h2]
  by_cases h3 : x.1 = 3
  · have h3' : (x.1 == 3) = true := by simp [h3]
    have HI := hid (ifc_3 h1 h2)
    by_cases ht2 : x.2.2.1.size = 0
    · have g := eqE_true ht2
      by_cases hd : x.2.2.2.size = 0
      · have g2 := eqE_true hd
        have HE : Hid (formB x = true) := by rw [Hid, form_3 hn h3]; simp [ht2, hd]
        try clear h1
        try clear h2
        try clear h3
        try clear hd
        try clear ht2
        go_enter Try.func104, Try.ntmps104
        go_wp2_with (first
          | (go_at_call 142; (with_reducible refine (nm_yes (s := x.2.1) (by first | exact HS1.out | exact HS2.out) hn).mono ?_); rintro e w' ⟨rfl, rfl⟩))
        go_quiet (fail)
        go_wp2_with fail
        go_ret2
        exact op_ret ((HB.out _).trans (((Drawn.refl _).drewN _).below _)) HE.out (fun _ => HI.out.symm)
      · have g2 := eqE_false hd
        have HE : Hid (formB x = false) := by rw [Hid, form_3 hn h3]; simp [hd]
        try clear h1
        try clear h2
        try clear h3
        try clear hd
        try clear ht2
        go_enter Try.func104, Try.ntmps104
        go_wp2_with (first
          | (go_at_call 142; (with_reducible refine (nm_yes (s := x.2.1) (by first | exact HS1.out | exact HS2.out) hn).mono ?_); rintro e w' ⟨rfl, rfl⟩))
        go_quiet (fail)
        go_wp2_with fail
        go_ret2
        exact op_ret ((HB.out _).trans (((Drawn.refl _).drewN _).below _)) HE.out (fun e => by cases e)
    · have g := eqE_false ht2
      have HE : Hid (formB x = false) := by rw [Hid, form_3 hn h3]; simp [ht2]
      try clear h1
      try clear h2
      try clear h3
      try clear hd
      try clear ht2
      go_enter Try.func104, Try.ntmps104
      go_wp2_with (first
        | (go_at_call 142; (with_reducible refine (nm_yes (s := x.2.1) (by first | exact HS1.out | exact HS2.out) hn).mono ?_); rintro e w' ⟨rfl, rfl⟩))
      go_quiet (fail)
      go_wp2_with fail
      go_ret2
      exact op_ret ((HB.out _).trans (((Drawn.refl _).drewN _).below _)) HE.out (fun e => by cases e)
  · have h3' : (x.1 == 3) = false := by simp [h3]
    have HE := hid (form_kind (x := x) (by omega))
    try clear h1
    try clear h2
    try clear h3
    try clear hd
    try clear ht2
    go_enter Try.func104, Try.ntmps104
    go_wp2_with (first
      | (go_at_call 142; (with_reducible refine (nm_yes (s := x.2.1) (by first | exact HS1.out | exact HS2.out) hn).mono ?_); rintro e w' ⟨rfl, rfl⟩))
    go_ret2
    exact op_ret (HB.out _) HE.out (fun e => by cases e)

/-! ### what each does -/
def cutB (ps : PS) (n : ByteArray) : PS := if hasK ps n then dropL ps n else []
def renB (ps : PS) (n t : ByteArray) : PS := if hasK ps n then putL (dropL ps n) t (valOf ps n) else []
theorem without_cut (A : Option Addr) (c : Nat) (ps : PS) (k : ByteArray) (w : World) (hr : RP w w.heap.size A ps) (hvs : VS A c ps.length) (hn : ps.length ≤ 900) (hs : risesB ps = true) :
    Calls Try.prog 201 #[.slice A ps.length c, .string k] w (Made2F w (cutB ps k) (hasK ps k)) := without_anyF A c ps k w hr hvs hn hs
set_option maxHeartbeats 2000000 in
theorem on_appending (n d : ByteArray) (A : Option Addr) (c : Nat) (ps : PS) (w : World) (hr : RP w w.heap.size A ps) (hv : VS A c ps.length) (hn : ps.length ≤ 900) (hs : risesB ps = true) (hp : SmallP ps 1000000000) (hd : d.size ≤ 1000000000) :
    Calls Try.prog 193 #[.agg #[.string n, .string d], .slice A ps.length c] w (Made2F w (putL ps n (valOf ps n ++ d)) true) := by
  have HB0 := hid ((Below.refl w.heap.size w).alloc (Nat.le_refl _) (.cells #[.string n, .string d] 192))
  have HR := hid ((hr.below HB0.out).more HB0.out.size)
  have HS := hid hs
  have HV := hid hv
  have hvv := valOf_small hp n
  clear hr hs hv hp
  go_enter Try.func193, Try.ntmps193
  go_wp2_with fail
  refine (impl_valueInF A c ps n _ HR.out (by omega) HS.out).mono ?_
  rintro e w1 ⟨rfl, hb1⟩
  have x0 : w1.cell? ⟨w.heap.size, 0, none⟩ = some (.string n) := (hb1.cell (p := ⟨w.heap.size, 0, none⟩) (by simp)).trans (by go_simp)
  have x1 : w1.cell? ⟨w.heap.size, 1, none⟩ = some (.string d) := (hb1.cell (p := ⟨w.heap.size, 1, none⟩) (by simp)).trans (by go_simp)
  have HB1 := hid (HB0.out.trans (hb1.mono HB0.out.size))
  have HR1 := hid ((HR.out.below hb1).more hb1.size)
  clear hb1
  go_wp2_with fail
  refine (with_anyF A c ps n (valOf ps n ++ d) _ HR1.out HV.out hn HS.out).mono ?_
  rintro e w2 ⟨A2, c2, rfl, ho2, hb2⟩
  have HO2 := hid (ho2.monoF HB1.out.size)
  have HB2 := hid (HB1.out.trans (hb2.mono HB1.out.size))
  clear ho2 hb2
  go_wp2_with fail
  go_ret2
  exact ⟨A2, c2, rfl, HO2.out, HB2.out⟩

set_option maxHeartbeats 2000000 in
theorem on_removing (n : ByteArray) (A : Option Addr) (c : Nat) (ps : PS) (w : World) (hr : RP w w.heap.size A ps) (hv : VS A c ps.length) (hn : ps.length ≤ 900) (hs : risesB ps = true) :
    Calls Try.prog 202 #[.agg #[.string n], .slice A ps.length c] w (Made2F w (cutB ps n) (hasK ps n)) := by
  have HB0 := hid ((Below.refl w.heap.size w).alloc (Nat.le_refl _) (.cells #[.string n] 196))
  have HR := hid ((hr.below HB0.out).more HB0.out.size)
  have HS := hid hs
  have HV := hid hv
  clear hr hs hv
  go_enter Try.func202, Try.ntmps202
  go_wp2_with fail
  refine (without_cut A c ps n _ HR.out HV.out hn HS.out).mono ?_
  rintro e w1 ⟨A1, c1, rfl, ho1, hb1⟩
  have HO1 := hid (ho1.monoF HB0.out.size)
  have HB1 := hid (HB0.out.trans (hb1.mono HB0.out.size))
  clear ho1 hb1
  go_wp2_with fail
  go_ret2
  exact ⟨A1, c1, rfl, HO1.out, HB1.out⟩

set_option maxHeartbeats 2000000 in
theorem on_renaming (n t : ByteArray) (A : Option Addr) (c : Nat) (ps : PS) (w : World) (hr : RP w w.heap.size A ps) (hv : VS A c ps.length) (hn : ps.length ≤ 800) (hs : risesB ps = true) :
    Calls Try.prog 200 #[.agg #[.string n, .string t], .slice A ps.length c] w (Made2F w (renB ps n t) (hasK ps n)) := by
  have HB0 := hid ((Below.refl w.heap.size w).alloc (Nat.le_refl _) (.cells #[.string n, .string t] 194))
  have HR := hid ((hr.below HB0.out).more HB0.out.size)
  have HS := hid hs
  have HV := hid hv
  have hdl := dropL_len ps n
  have HDR := hid (dropL_rises hs n)
  clear hr hs hv
  go_enter Try.func200, Try.ntmps200
  go_wp2_with fail
  refine (impl_valueInF A c ps n _ HR.out (by omega) HS.out).mono ?_
  rintro e w1 ⟨rfl, hb1⟩
  have x0 : w1.cell? ⟨w.heap.size, 0, none⟩ = some (.string n) := (hb1.cell (p := ⟨w.heap.size, 0, none⟩) (by simp)).trans (by go_simp)
  have x1 : w1.cell? ⟨w.heap.size, 1, none⟩ = some (.string t) := (hb1.cell (p := ⟨w.heap.size, 1, none⟩) (by simp)).trans (by go_simp)
  have HB1 := hid (HB0.out.trans (hb1.mono HB0.out.size))
  have HR1 := hid ((HR.out.below hb1).more hb1.size)
  have hlt1 : w.heap.size < w1.heap.size := by have := hb1.size; simp at this; omega
  clear hb1
  cases hk : hasK ps n
  · go_wp2_with fail
    go_ret2
    exact Made2F.no (by simp [renB, hk]) hk HB1.out
  · go_wp2_with fail
    refine (without_cut A c ps n _ HR1.out HV.out (by omega) HS.out).mono ?_
    rintro e w2 ⟨A2, c2, rfl, ho2, hb2⟩
    have hcut : cutB ps n = dropL ps n := by simp [cutB, hk]
    have HREN : Hid (renB ps n t = putL (dropL ps n) t (valOf ps n)) := by simp [Hid, renB, hk]
    rw [hcut] at ho2 ⊢
    rw [hk]
    clear hcut
    have y1 := (hb2.cell (p := ⟨w.heap.size, 1, none⟩) hlt1).trans x1
    have HO2 := hid ho2
    have HB2 := hid (HB1.out.trans (hb2.mono HB1.out.size))
    clear ho2 hb2 x0 x1
    go_wp2_with fail
    refine (with_anyF A2 c2 (dropL ps n) t (valOf ps n) _ HO2.out.rp (own_vs HO2.out) (by omega) HDR.out).mono ?_
    rintro e w3 ⟨A3, c3, rfl, ho3, hb3⟩
    have HO3 := hid (ho3.monoF HB2.out.size)
    have HB3 := hid (HB2.out.trans (hb3.mono HB2.out.size))
    clear ho3 hb3
    go_wp2_with fail
    go_ret2
    exact made2_ret (q := (renB ps n t, hasK ps n)) (by rw [HREN.out, hk]) HO3.out HB3.out
end Go.Proofs.Ytaiehccpefjbfaa
