import Derived.Test.YtcjbjfhndjpmcaaPk24
import Derived.Test.YtcjbjfhndjpmcaaPk22
import Derived.Test.YtcjbjfhndjpmcaaPk38
import Derived.Test.YtcjbjfhndjpmcaaPk08
import Derived.Test.YtcjbjfhndjpmcaaPk41
/-
  The program's parts, of pairs and of pointers. (tools/mkparts.py)
-/
namespace Go.Proofs.Ytcjbjfhndjpmcaa
open Go.RowKit

def partsL {α : Type} (l : List α) : List (List α) := if l = [] then [[]] else cutL l
theorem partsL_few {α : Type} {l : List α} (h : l.length ≤ 4) : partsL l = [l] := by
  unfold partsL
  by_cases e : l = []
  · rw [if_pos e, e]
  · have hp := List.length_pos_iff.2 e
    have hn : partN l.length = l.length := by unfold partN; rw [if_neg (by omega)]; omega
    rw [if_neg e, cutL_cons hp, hn, List.take_length, List.drop_length, cutL_nil]
theorem partsL_more {α : Type} {l : List α} (h : 4 < l.length) {n : Nat} (hn : partN l.length = n) (hlt : n < l.length) : partsL l = l.take n :: partsL (l.drop n) := by
  have e : l ≠ [] := List.length_pos_iff.1 (by omega)
  have e2 : l.drop n ≠ [] := List.length_pos_iff.1 (by rw [List.length_drop]; omega)
  unfold partsL
  rw [if_neg e, if_neg e2, cutL_cons (by omega), hn]
def msP : Value → Nat
  | .slice _ n _ => n
  | _ => 0

def secP (L : List SE) : List Value := L.map fun s => .slice s.A s.ps.length s.c
theorem secP_append (a b : List SE) : secP (a ++ b) = secP a ++ secP b := by simp [secP]
theorem secP_len (L : List SE) : (secP L).length = L.length := by simp [secP]
def apartP (x y : SE) : Prop := ∀ k, Value.ownBlock (.slice x.A x.ps.length x.c) = some k → Value.ownBlock (.slice y.A y.ps.length y.c) ≠ some k
/-- A row of rows of the call's own, that lie apart. -/
def PartsP (w : World) (B : Nat) (K : Option Addr) (d : Nat) (L : List SE) : Prop :=
  w.ownsRow B 27 1 (.slice K L.length d) L.length (secP L) ∧ (∀ x ∈ L, OwnP w B x.A x.c x.ps) ∧ L.Pairwise apartP
def PartsOutP (w : World) (ps : PS) (e : Ending) (w' : World) : Prop := ∃ (K : Option Addr) (d : Nat) (L : List SE), e = .returned (.slice K L.length d) ∧ L.map SE.ps = partsL ps ∧ PartsP w' w.heap.size K d L ∧ Below w.heap.size w w'
theorem secInfoP : (Try.prog.info? 27).map (fun i => (i.zero, i.size, i.bytes)) = some (some (.slice none 0 0), 1, 24) := by kernel_rfl
theorem PartsP.nil_ (w : World) (B : Nat) : PartsP w B none 0 [] := ⟨World.ownsRow_nil _ _ _ _, fun x hx => by simp at hx, List.Pairwise.nil⟩
theorem PartsP.below {w w' : World} {B : Nat} {K : Option Addr} {d : Nat} {L : List SE} (h : PartsP w B K d L) (hb : Below w.heap.size w w') : PartsP w' B K d L :=
  ⟨h.1.kept (below_grown hb) (by cases hv : Value.ownBlock (.slice K L.length d) <;> simp), fun x hx => (h.2.1 x hx).below hb, h.2.2⟩
theorem PartsP.push {w w2 w3 w4 : World} {B d c' : Nat} {K : Option Addr} {A' : Option Addr} {L : List SE} {x : SE} (h : PartsP w B K d L) (hB : B ≤ w.heap.size) (hb : Below w.heap.size w w2) (hx : OwnP w2 w.heap.size x.A x.c x.ps) (hb3 : Below w2.heap.size w2 w3)
    (hown : w4.ownsRow B 27 1 (.slice A' (L.length + 1) c') (L.length + 1) (secP L ++ [.slice x.A x.ps.length x.c])) (hg : w3.grownBy w4 (Value.ownBlock (.slice K L.length d))) : PartsP w4 B A' c' (L ++ [x]) := by
  obtain ⟨h1, h2, h3⟩ := h
  have hb23 : Below w.heap.size w w3 := hb.trans (hb3.mono hb.size)
  have h1' : w3.ownsRow B 27 1 (.slice K L.length d) L.length (secP L) := h1.kept (below_grown hb23) (by cases hv : Value.ownBlock (.slice K L.length d) <;> simp)
  refine ⟨?_, fun y hy => ?_, ?_⟩
  · rw [List.length_append, secP_append]
    exact hown
  · have hy' : OwnP w3 B y.A y.c y.ps := by
      rcases List.mem_append.1 hy with hy | hy
      · exact (h2 y hy).below hb23
      · have : y = x := by simpa using hy
        subst this
        exact own_mono (hx.below hb3) hB
    exact row_other hy' h1' (by decide) hg
  · rw [List.pairwise_append]
    exact ⟨h3, List.pairwise_singleton _ _, fun y hy z hz => by
      have : z = x := by simpa using hz
      subst this
      intro k hk hk2
      have := ((h2 y hy).size k hk).2
      have := (hx.size k hk2).1
      omega⟩

set_option maxHeartbeats 4000000 in
set_option maxRecDepth 100000 in
theorem impl_partsP (A : Option Addr) (c : Nat) (ps : PS) (w : World) (hr : RP w w.heap.size A ps) (hv : VS A c ps.length) (hn : ps.length ≤ 60) :
    Calls Try.prog 108 #[.slice A ps.length c] w (PartsOutP w ps) := by
  obtain ⟨i0, hi0, hz0, hz1, hz2⟩ := info_parts secInfoP
  have HR := hid hr
  have HV := hid hv
  clear hr hv
  go_enter Try.func108, Try.ntmps108
  go_wp2_with fail
  go_loopw [0, 3] (fun vp vo wr => ∃ (l : PS) (A' : Option Addr) (c' : Nat) (K : Option Addr) (d : Nat) (L : List SE), vp = .slice A' l.length c' ∧ vo = .slice K L.length d ∧ L.length + l.length ≤ 60 ∧ Hid (VS A' c' l.length) ∧ Hid (RP wr w.heap.size A' l) ∧ Hid (L.map SE.ps ++ partsL l = partsL ps) ∧ Hid (PartsP wr w.heap.size K d L) ∧ Below w.heap.size w wr) (fun vp _ _ => msP vp)
  case atStart => exact ⟨ps, A, c, none, 0, [], rfl, rfl, by simpa using hn, HV.out, HR.out, rfl, PartsP.nil_ _ _, Below.refl _ _⟩
  case round =>
    obtain ⟨l, A', c', K, d, L, rfl, rfl, hlen, HVS, HRW, HEQ, HK, hbw⟩ := hrel
    have HD := hid hbw
    have hbs := hbw.size
    clear hbw
    have HRL := hid (HRW.out.more hbs)
    by_cases h4 : 4 < l.length
    · have e1 : (4 : Int) < (l.length : Int) := by omega
      obtain ⟨b, off, rfl, hb, _⟩ := HRL.out.at_ (k := 0) (by omega)
      obtain ⟨hc1, hc2⟩ : l.length ≤ c' ∧ c' ≤ maxLen := by
        rcases HVS.out with ⟨h, _⟩ | ⟨_, _, h1, h2, h3⟩
        · exact absurd h (by simp)
        · exact ⟨h2, h3⟩
      by_cases h5 : l.length = 5
      · have e2 : ((l.length : Int) == 5) = true := by rw [beq_iff_eq]; omega
        have e3 : (3 : Int) ≤ (c' : Int) := by omega
        have e4 : (3 : Int) ≤ (l.length : Int) := by omega
        have hpn : partN l.length = 3 := by unfold partN; rw [if_pos h5]
        have HCP := hid (cloneTake (A := some ⟨b, off, none⟩) (c := c') (ps := l) (n := 3) (by omega) (by omega) HVS.out wr HRL.out)
        have hlt : (l.take 3).length = 3 := by rw [List.length_take]; omega
        have HTK : Hid ((l.take 3).length = 3) := hlt
        have hld : (l.drop 3).length = l.length - 3 := by rw [List.length_drop]
        have HDL : Hid ((l.drop 3).length = l.length - 3) := hld
        have HNX : Hid ((L.map SE.ps ++ [l.take 3]) ++ partsL (l.drop 3) = partsL ps) := by
          have h := HEQ.out
          rw [partsL_more h4 hpn (by omega)] at h
          rw [Hid, List.append_assoc]
          exact h
        clear hpn hlt hld
        go_wp2_with fail
        refine HCP.out.mono ?_
        rintro e w2 ⟨A2, c2, rfl, ho2, hb2⟩
        rw [HTK.out]
        have HO2 := hid ho2
        have HB2 := hid hb2
        have hs2 := hb2.size
        have HK2 := hid (HK.out.below HB2.out)
        clear hb2 ho2
        go_wp2_with (at_builtin; refine wpList_append_lies _ rfl _ _ _ rfl w.heap.size 27 i0 _ 1 24 Try.underlying118 hi0 hz0 hz1 hz2 rfl (by omega) (.slice K L.length d) L.length (secP L) rfl (HK2.out.1.alloc _) ⟨w2.heap.size, 0, none⟩ 1 1 [.slice A2 3 c2] rfl rfl (World.news_of_block (cs := #[.slice A2 3 c2]) (t := 27) (fr := (0, 0)) (heap_alloc_new w2 _)) (by simp [Value.oneCell']) (by omega) (by unfold maxLen; omega) (by omega) (by simp; omega) (w2.heap.size + 1) (by simp) ?_; intro gg cap w4 hown4 hgrow4 hat4 hlt4; have HO4 := hid hown4; have HG4 := hid hgrow4; clear hown4 hgrow4 hat4)
        have HBA := hid ((Below.refl w2.heap.size w2).alloc (Nat.le_refl _) (.cells #[.slice A2 3 c2] 27))
        have HP4 := hid (PartsP.push (x := ⟨A2, c2, l.take 3⟩) HK.out hbs HB2.out HO2.out HBA.out (by show World.ownsRow _ _ _ _ (.slice _ _ _) _ (_ ++ [.slice A2 (l.take 3).length c2]); rw [HTK.out]; exact HO4.out) HG4.out)
        have HD4 : Hid (Below w.heap.size w w4) := ((HD.out.trans (HB2.out.mono hbs)).alloc (by omega) _).grown HG4.out (by simp; omega) (fun k hk => (World.ownsRow.lt HK.out.1 k hk).1)
        have HR4 := hid ((HRW.out.drop 3).keep (w' := w4) (fun p hp => by
          rw [HD4.out.cell hp, HD.out.cell hp]))
        go_roundw
        case rel => exact ⟨l.drop 3, _, c' - 3, some ⟨gg, 0, none⟩, cap, (L ++ [(⟨A2, c2, l.take 3⟩ : SE)] : List SE), by first | (rw [HDL.out]; done) | rw [HDL.out, h5], by rw [List.length_append]; rfl, by rw [HDL.out, List.length_append]; simp; omega, by rw [HDL.out]; exact .inr ⟨_, _, rfl, by omega, by omega⟩, HR4.out, by rw [Hid, List.map_append]; exact HNX.out, HP4.out, HD4.out⟩
        case measure => simp [msP]; omega
      · have e2 : ((l.length : Int) == 5) = false := by rw [beq_eq_false_iff_ne]; omega
        have e3 : (4 : Int) ≤ (c' : Int) := by omega
        have e4 : (4 : Int) ≤ (l.length : Int) := by omega
        have hpn : partN l.length = 4 := by unfold partN; rw [if_neg h5]; omega
        have HCP := hid (cloneTake (A := some ⟨b, off, none⟩) (c := c') (ps := l) (n := 4) (by omega) (by omega) HVS.out wr HRL.out)
        have hlt : (l.take 4).length = 4 := by rw [List.length_take]; omega
        have HTK : Hid ((l.take 4).length = 4) := hlt
        have hld : (l.drop 4).length = l.length - 4 := by rw [List.length_drop]
        have HDL : Hid ((l.drop 4).length = l.length - 4) := hld
        have HNX : Hid ((L.map SE.ps ++ [l.take 4]) ++ partsL (l.drop 4) = partsL ps) := by
          have h := HEQ.out
          rw [partsL_more h4 hpn (by omega)] at h
          rw [Hid, List.append_assoc]
          exact h
        clear hpn hlt hld
        go_wp2_with fail
        refine HCP.out.mono ?_
        rintro e w2 ⟨A2, c2, rfl, ho2, hb2⟩
        rw [HTK.out]
        have HO2 := hid ho2
        have HB2 := hid hb2
        have hs2 := hb2.size
        have HK2 := hid (HK.out.below HB2.out)
        clear hb2 ho2
        go_wp2_with (at_builtin; refine wpList_append_lies _ rfl _ _ _ rfl w.heap.size 27 i0 _ 1 24 Try.underlying118 hi0 hz0 hz1 hz2 rfl (by omega) (.slice K L.length d) L.length (secP L) rfl (HK2.out.1.alloc _) ⟨w2.heap.size, 0, none⟩ 1 1 [.slice A2 4 c2] rfl rfl (World.news_of_block (cs := #[.slice A2 4 c2]) (t := 27) (fr := (0, 0)) (heap_alloc_new w2 _)) (by simp [Value.oneCell']) (by omega) (by unfold maxLen; omega) (by omega) (by simp; omega) (w2.heap.size + 1) (by simp) ?_; intro gg cap w4 hown4 hgrow4 hat4 hlt4; have HO4 := hid hown4; have HG4 := hid hgrow4; clear hown4 hgrow4 hat4)
        have HBA := hid ((Below.refl w2.heap.size w2).alloc (Nat.le_refl _) (.cells #[.slice A2 4 c2] 27))
        have HP4 := hid (PartsP.push (x := ⟨A2, c2, l.take 4⟩) HK.out hbs HB2.out HO2.out HBA.out (by show World.ownsRow _ _ _ _ (.slice _ _ _) _ (_ ++ [.slice A2 (l.take 4).length c2]); rw [HTK.out]; exact HO4.out) HG4.out)
        have HD4 : Hid (Below w.heap.size w w4) := ((HD.out.trans (HB2.out.mono hbs)).alloc (by omega) _).grown HG4.out (by simp; omega) (fun k hk => (World.ownsRow.lt HK.out.1 k hk).1)
        have HR4 := hid ((HRW.out.drop 4).keep (w' := w4) (fun p hp => by
          rw [HD4.out.cell hp, HD.out.cell hp]))
        go_roundw
        case rel => exact ⟨l.drop 4, _, c' - 4, some ⟨gg, 0, none⟩, cap, (L ++ [(⟨A2, c2, l.take 4⟩ : SE)] : List SE), by first | (rw [HDL.out]; done) | rw [HDL.out, h5], by rw [List.length_append]; rfl, by rw [HDL.out, List.length_append]; simp; omega, by rw [HDL.out]; exact .inr ⟨_, _, rfl, by omega, by omega⟩, HR4.out, by rw [Hid, List.map_append]; exact HNX.out, HP4.out, HD4.out⟩
        case measure => simp [msP]; omega
    · have e1 : ¬ (4 : Int) < (l.length : Int) := by omega
      have HPS : Hid (L.map SE.ps ++ [l] = partsL ps) := by
        have h := HEQ.out
        rw [partsL_few (by omega)] at h
        exact h
      have HCP := hid (clone_all A' c' l wr HRL.out HVS.out (by omega))
      go_wp2_with fail
      refine HCP.out.mono ?_
      rintro e w2 ⟨A2, c2, rfl, ho2, hb2⟩
      have HO2 := hid ho2
      have HB2 := hid hb2
      have hs2 := hb2.size
      have HK2 := hid (HK.out.below HB2.out)
      clear hb2 ho2
      go_wp2_with (at_builtin; refine wpList_append_lies _ rfl _ _ _ rfl w.heap.size 27 i0 _ 1 24 Try.underlying118 hi0 hz0 hz1 hz2 rfl (by omega) (.slice K L.length d) L.length (secP L) rfl (HK2.out.1.alloc _) ⟨w2.heap.size, 0, none⟩ 1 1 [.slice A2 l.length c2] rfl rfl (World.news_of_block (cs := #[.slice A2 l.length c2]) (t := 27) (fr := (0, 0)) (heap_alloc_new w2 _)) (by simp [Value.oneCell']) (by omega) (by unfold maxLen; omega) (by omega) (by simp; omega) (w2.heap.size + 1) (by simp) ?_; intro gg cap w4 hown4 hgrow4 hat4 hlt4; have HO4 := hid hown4; have HG4 := hid hgrow4; clear hown4 hgrow4 hat4)
      have HBA := hid ((Below.refl w2.heap.size w2).alloc (Nat.le_refl _) (.cells #[.slice A2 l.length c2] 27))
      have HP4 := hid (PartsP.push (x := ⟨A2, c2, l⟩) HK.out hbs HB2.out HO2.out HBA.out HO4.out HG4.out)
      have HD4 : Hid (Below w.heap.size w w4) := ((HD.out.trans (HB2.out.mono hbs)).alloc (by omega) _).grown HG4.out (by simp; omega) (fun k hk => (World.ownsRow.lt HK.out.1 k hk).1)
      go_ret
      refine ⟨_, _, (L ++ [(⟨A2, c2, l⟩ : SE)] : List SE), ?_, ?_, HP4.out, HD4.out⟩
      · rw [List.length_append]; rfl
      · rw [List.map_append]; exact HPS.out

def secQ (L : List SQ) : List Value := L.map fun s => .slice s.A s.gs.length s.c
theorem secQ_append (a b : List SQ) : secQ (a ++ b) = secQ a ++ secQ b := by simp [secQ]
theorem secQ_len (L : List SQ) : (secQ L).length = L.length := by simp [secQ]
def apartQ (x y : SQ) : Prop := ∀ k, Value.ownBlock (.slice x.A x.gs.length x.c) = some k → Value.ownBlock (.slice y.A y.gs.length y.c) ≠ some k
/-- A row of rows of the call's own, that lie apart. -/
def PartsQ (w : World) (B : Nat) (K : Option Addr) (d : Nat) (L : List SQ) : Prop :=
  w.ownsRow B 117 1 (.slice K L.length d) L.length (secQ L) ∧ (∀ x ∈ L, OwnQ w B x.A x.c x.gs) ∧ L.Pairwise apartQ
def PartsOutQ (w : World) (ps : List Nat) (e : Ending) (w' : World) : Prop := ∃ (K : Option Addr) (d : Nat) (L : List SQ), e = .returned (.slice K L.length d) ∧ L.map SQ.gs = partsL ps ∧ PartsQ w' w.heap.size K d L ∧ Below w.heap.size w w'
theorem secInfoQ : (Try.prog.info? 117).map (fun i => (i.zero, i.size, i.bytes)) = some (some (.slice none 0 0), 1, 24) := by kernel_rfl
theorem PartsQ.nil_ (w : World) (B : Nat) : PartsQ w B none 0 [] := ⟨World.ownsRow_nil _ _ _ _, fun x hx => by simp at hx, List.Pairwise.nil⟩
theorem PartsQ.below {w w' : World} {B : Nat} {K : Option Addr} {d : Nat} {L : List SQ} (h : PartsQ w B K d L) (hb : Below w.heap.size w w') : PartsQ w' B K d L :=
  ⟨h.1.kept (below_grown hb) (by cases hv : Value.ownBlock (.slice K L.length d) <;> simp), fun x hx => (h.2.1 x hx).below hb, h.2.2⟩
theorem PartsQ.push {w w2 w3 w4 : World} {B d c' : Nat} {K : Option Addr} {A' : Option Addr} {L : List SQ} {x : SQ} (h : PartsQ w B K d L) (hB : B ≤ w.heap.size) (hb : Below w.heap.size w w2) (hx : OwnQ w2 w.heap.size x.A x.c x.gs) (hb3 : Below w2.heap.size w2 w3)
    (hown : w4.ownsRow B 117 1 (.slice A' (L.length + 1) c') (L.length + 1) (secQ L ++ [.slice x.A x.gs.length x.c])) (hg : w3.grownBy w4 (Value.ownBlock (.slice K L.length d))) : PartsQ w4 B A' c' (L ++ [x]) := by
  obtain ⟨h1, h2, h3⟩ := h
  have hb23 : Below w.heap.size w w3 := hb.trans (hb3.mono hb.size)
  have h1' : w3.ownsRow B 117 1 (.slice K L.length d) L.length (secQ L) := h1.kept (below_grown hb23) (by cases hv : Value.ownBlock (.slice K L.length d) <;> simp)
  refine ⟨?_, fun y hy => ?_, ?_⟩
  · rw [List.length_append, secQ_append]
    exact hown
  · have hy' : OwnQ w3 B y.A y.c y.gs := by
      rcases List.mem_append.1 hy with hy | hy
      · exact (h2 y hy).below hb23
      · have : y = x := by simpa using hy
        subst this
        exact own_mono (hx.below hb3) hB
    exact row_other hy' h1' (by decide) hg
  · rw [List.pairwise_append]
    exact ⟨h3, List.pairwise_singleton _ _, fun y hy z hz => by
      have : z = x := by simpa using hz
      subst this
      intro k hk hk2
      have := ((h2 y hy).size k hk).2
      have := (hx.size k hk2).1
      omega⟩

set_option maxHeartbeats 4000000 in
set_option maxRecDepth 100000 in
theorem impl_partsQ (A : Option Addr) (c : Nat) (ps : List Nat) (w : World) (hr : RQ w w.heap.size A ps) (hv : VS A c ps.length) (hn : ps.length ≤ 60) :
    Calls Try.prog 109 #[.slice A ps.length c] w (PartsOutQ w ps) := by
  obtain ⟨i0, hi0, hz0, hz1, hz2⟩ := info_parts secInfoQ
  have HR := hid hr
  have HV := hid hv
  clear hr hv
  go_enter Try.func109, Try.ntmps109
  go_wp2_with fail
  go_loopw [0, 3] (fun vp vo wr => ∃ (l : List Nat) (A' : Option Addr) (c' : Nat) (K : Option Addr) (d : Nat) (L : List SQ), vp = .slice A' l.length c' ∧ vo = .slice K L.length d ∧ L.length + l.length ≤ 60 ∧ Hid (VS A' c' l.length) ∧ Hid (RQ wr w.heap.size A' l) ∧ Hid (L.map SQ.gs ++ partsL l = partsL ps) ∧ Hid (PartsQ wr w.heap.size K d L) ∧ Below w.heap.size w wr) (fun vp _ _ => msP vp)
  case atStart => exact ⟨ps, A, c, none, 0, [], rfl, rfl, by simpa using hn, HV.out, HR.out, rfl, PartsQ.nil_ _ _, Below.refl _ _⟩
  case round =>
    obtain ⟨l, A', c', K, d, L, rfl, rfl, hlen, HVS, HRW, HEQ, HK, hbw⟩ := hrel
    have HD := hid hbw
    have hbs := hbw.size
    clear hbw
    have HRL := hid (HRW.out.more hbs)
    by_cases h4 : 4 < l.length
    · have e1 : (4 : Int) < (l.length : Int) := by omega
      obtain ⟨b, off, rfl, hb, _⟩ := HRL.out.at_ (k := 0) (by omega)
      obtain ⟨hc1, hc2⟩ : l.length ≤ c' ∧ c' ≤ maxLen := by
        rcases HVS.out with ⟨h, _⟩ | ⟨_, _, h1, h2, h3⟩
        · exact absurd h (by simp)
        · exact ⟨h2, h3⟩
      by_cases h5 : l.length = 5
      · have e2 : ((l.length : Int) == 5) = true := by rw [beq_iff_eq]; omega
        have e3 : (3 : Int) ≤ (c' : Int) := by omega
        have e4 : (3 : Int) ≤ (l.length : Int) := by omega
        have hpn : partN l.length = 3 := by unfold partN; rw [if_pos h5]
        have HCP := hid (cloneTakeQ (A := some ⟨b, off, none⟩) (c := c') (ps := l) (n := 3) (by omega) (by omega) HVS.out wr HRL.out)
        have hlt : (l.take 3).length = 3 := by rw [List.length_take]; omega
        have HTK : Hid ((l.take 3).length = 3) := hlt
        have hld : (l.drop 3).length = l.length - 3 := by rw [List.length_drop]
        have HDL : Hid ((l.drop 3).length = l.length - 3) := hld
        have HNX : Hid ((L.map SQ.gs ++ [l.take 3]) ++ partsL (l.drop 3) = partsL ps) := by
          have h := HEQ.out
          rw [partsL_more h4 hpn (by omega)] at h
          rw [Hid, List.append_assoc]
          exact h
        clear hpn hlt hld
        go_wp2_with fail
        refine HCP.out.mono ?_
        rintro e w2 ⟨A2, c2, rfl, ho2, hb2⟩
        rw [HTK.out]
        have HO2 := hid ho2
        have HB2 := hid hb2
        have hs2 := hb2.size
        have HK2 := hid (HK.out.below HB2.out)
        clear hb2 ho2
        go_wp2_with (at_builtin; refine wpList_append_lies _ rfl _ _ _ rfl w.heap.size 117 i0 _ 1 24 Try.underlying122 hi0 hz0 hz1 hz2 rfl (by omega) (.slice K L.length d) L.length (secQ L) rfl (HK2.out.1.alloc _) ⟨w2.heap.size, 0, none⟩ 1 1 [.slice A2 3 c2] rfl rfl (World.news_of_block (cs := #[.slice A2 3 c2]) (t := 117) (fr := (0, 0)) (heap_alloc_new w2 _)) (by simp [Value.oneCell']) (by omega) (by unfold maxLen; omega) (by omega) (by simp; omega) (w2.heap.size + 1) (by simp) ?_; intro gg cap w4 hown4 hgrow4 hat4 hlt4; have HO4 := hid hown4; have HG4 := hid hgrow4; clear hown4 hgrow4 hat4)
        have HBA := hid ((Below.refl w2.heap.size w2).alloc (Nat.le_refl _) (.cells #[.slice A2 3 c2] 117))
        have HP4 := hid (PartsQ.push (x := ⟨A2, c2, l.take 3⟩) HK.out hbs HB2.out HO2.out HBA.out (by show World.ownsRow _ _ _ _ (.slice _ _ _) _ (_ ++ [.slice A2 (l.take 3).length c2]); rw [HTK.out]; exact HO4.out) HG4.out)
        have HD4 : Hid (Below w.heap.size w w4) := ((HD.out.trans (HB2.out.mono hbs)).alloc (by omega) _).grown HG4.out (by simp; omega) (fun k hk => (World.ownsRow.lt HK.out.1 k hk).1)
        have HR4 := hid ((HRW.out.drop 3).keep (w' := w4) (fun p hp => by
          rw [HD4.out.cell hp, HD.out.cell hp]))
        go_roundw
        case rel => exact ⟨l.drop 3, _, c' - 3, some ⟨gg, 0, none⟩, cap, (L ++ [(⟨A2, c2, l.take 3⟩ : SQ)] : List SQ), by first | (rw [HDL.out]; done) | rw [HDL.out, h5], by rw [List.length_append]; rfl, by rw [HDL.out, List.length_append]; simp; omega, by rw [HDL.out]; exact .inr ⟨_, _, rfl, by omega, by omega⟩, HR4.out, by rw [Hid, List.map_append]; exact HNX.out, HP4.out, HD4.out⟩
        case measure => simp [msP]; omega
      · have e2 : ((l.length : Int) == 5) = false := by rw [beq_eq_false_iff_ne]; omega
        have e3 : (4 : Int) ≤ (c' : Int) := by omega
        have e4 : (4 : Int) ≤ (l.length : Int) := by omega
        have hpn : partN l.length = 4 := by unfold partN; rw [if_neg h5]; omega
        have HCP := hid (cloneTakeQ (A := some ⟨b, off, none⟩) (c := c') (ps := l) (n := 4) (by omega) (by omega) HVS.out wr HRL.out)
        have hlt : (l.take 4).length = 4 := by rw [List.length_take]; omega
        have HTK : Hid ((l.take 4).length = 4) := hlt
        have hld : (l.drop 4).length = l.length - 4 := by rw [List.length_drop]
        have HDL : Hid ((l.drop 4).length = l.length - 4) := hld
        have HNX : Hid ((L.map SQ.gs ++ [l.take 4]) ++ partsL (l.drop 4) = partsL ps) := by
          have h := HEQ.out
          rw [partsL_more h4 hpn (by omega)] at h
          rw [Hid, List.append_assoc]
          exact h
        clear hpn hlt hld
        go_wp2_with fail
        refine HCP.out.mono ?_
        rintro e w2 ⟨A2, c2, rfl, ho2, hb2⟩
        rw [HTK.out]
        have HO2 := hid ho2
        have HB2 := hid hb2
        have hs2 := hb2.size
        have HK2 := hid (HK.out.below HB2.out)
        clear hb2 ho2
        go_wp2_with (at_builtin; refine wpList_append_lies _ rfl _ _ _ rfl w.heap.size 117 i0 _ 1 24 Try.underlying122 hi0 hz0 hz1 hz2 rfl (by omega) (.slice K L.length d) L.length (secQ L) rfl (HK2.out.1.alloc _) ⟨w2.heap.size, 0, none⟩ 1 1 [.slice A2 4 c2] rfl rfl (World.news_of_block (cs := #[.slice A2 4 c2]) (t := 117) (fr := (0, 0)) (heap_alloc_new w2 _)) (by simp [Value.oneCell']) (by omega) (by unfold maxLen; omega) (by omega) (by simp; omega) (w2.heap.size + 1) (by simp) ?_; intro gg cap w4 hown4 hgrow4 hat4 hlt4; have HO4 := hid hown4; have HG4 := hid hgrow4; clear hown4 hgrow4 hat4)
        have HBA := hid ((Below.refl w2.heap.size w2).alloc (Nat.le_refl _) (.cells #[.slice A2 4 c2] 117))
        have HP4 := hid (PartsQ.push (x := ⟨A2, c2, l.take 4⟩) HK.out hbs HB2.out HO2.out HBA.out (by show World.ownsRow _ _ _ _ (.slice _ _ _) _ (_ ++ [.slice A2 (l.take 4).length c2]); rw [HTK.out]; exact HO4.out) HG4.out)
        have HD4 : Hid (Below w.heap.size w w4) := ((HD.out.trans (HB2.out.mono hbs)).alloc (by omega) _).grown HG4.out (by simp; omega) (fun k hk => (World.ownsRow.lt HK.out.1 k hk).1)
        have HR4 := hid ((HRW.out.drop 4).keep (w' := w4) (fun p hp => by
          rw [HD4.out.cell hp, HD.out.cell hp]))
        go_roundw
        case rel => exact ⟨l.drop 4, _, c' - 4, some ⟨gg, 0, none⟩, cap, (L ++ [(⟨A2, c2, l.take 4⟩ : SQ)] : List SQ), by first | (rw [HDL.out]; done) | rw [HDL.out, h5], by rw [List.length_append]; rfl, by rw [HDL.out, List.length_append]; simp; omega, by rw [HDL.out]; exact .inr ⟨_, _, rfl, by omega, by omega⟩, HR4.out, by rw [Hid, List.map_append]; exact HNX.out, HP4.out, HD4.out⟩
        case measure => simp [msP]; omega
    · have e1 : ¬ (4 : Int) < (l.length : Int) := by omega
      have HPS : Hid (L.map SQ.gs ++ [l] = partsL ps) := by
        have h := HEQ.out
        rw [partsL_few (by omega)] at h
        exact h
      have HCP := hid (clone_allQ A' c' l wr HRL.out HVS.out (by omega))
      go_wp2_with fail
      refine HCP.out.mono ?_
      rintro e w2 ⟨A2, c2, rfl, ho2, hb2⟩
      have HO2 := hid ho2
      have HB2 := hid hb2
      have hs2 := hb2.size
      have HK2 := hid (HK.out.below HB2.out)
      clear hb2 ho2
      go_wp2_with (at_builtin; refine wpList_append_lies _ rfl _ _ _ rfl w.heap.size 117 i0 _ 1 24 Try.underlying122 hi0 hz0 hz1 hz2 rfl (by omega) (.slice K L.length d) L.length (secQ L) rfl (HK2.out.1.alloc _) ⟨w2.heap.size, 0, none⟩ 1 1 [.slice A2 l.length c2] rfl rfl (World.news_of_block (cs := #[.slice A2 l.length c2]) (t := 117) (fr := (0, 0)) (heap_alloc_new w2 _)) (by simp [Value.oneCell']) (by omega) (by unfold maxLen; omega) (by omega) (by simp; omega) (w2.heap.size + 1) (by simp) ?_; intro gg cap w4 hown4 hgrow4 hat4 hlt4; have HO4 := hid hown4; have HG4 := hid hgrow4; clear hown4 hgrow4 hat4)
      have HBA := hid ((Below.refl w2.heap.size w2).alloc (Nat.le_refl _) (.cells #[.slice A2 l.length c2] 117))
      have HP4 := hid (PartsQ.push (x := ⟨A2, c2, l⟩) HK.out hbs HB2.out HO2.out HBA.out HO4.out HG4.out)
      have HD4 : Hid (Below w.heap.size w w4) := ((HD.out.trans (HB2.out.mono hbs)).alloc (by omega) _).grown HG4.out (by simp; omega) (fun k hk => (World.ownsRow.lt HK.out.1 k hk).1)
      go_ret
      refine ⟨_, _, (L ++ [(⟨A2, c2, l⟩ : SQ)] : List SQ), ?_, ?_, HP4.out, HD4.out⟩
      · rw [List.length_append]; rfl
      · rw [List.map_append]; exact HPS.out
end Go.Proofs.Ytcjbjfhndjpmcaa
