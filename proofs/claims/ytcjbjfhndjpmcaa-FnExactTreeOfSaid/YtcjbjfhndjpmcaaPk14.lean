import Derived.Test.YtcjbjfhndjpmcaaPk13
import Derived.Test.YtcjbjfhndjpmcaaPk00
import Derived.ArgAppend
/-
  branchesOf: the branches of a list of nodes.
-/
namespace Go.Proofs.Ytcjbjfhndjpmcaa
open Go.RowKit

/-- What the closure answers at a place, when so many nodes are taken. -/
def kidRes (ns : List ND) (f nx : Nat) (p : Int) : Option (BT × Nat) := if p = (nx : Int) ∧ nx < ns.length then parse ns f nx else none
theorem kidRes_some {ns : List ND} {f nx : Nat} {p : Int} {t : BT} {e : Nat} (h : kidRes ns f nx p = some (t, e)) : p = (nx : Int) ∧ nx < ns.length ∧ parse ns f nx = some (t, e) := by
  unfold kidRes at h
  split at h
  · rename_i hc
    exact ⟨hc.1, hc.2, h⟩
  · cases h
theorem kidRes_none {ns : List ND} {f nx : Nat} {p : Int} (h : kidRes ns f nx p = none) : ¬ (p = (nx : Int) ∧ nx < ns.length) ∨ parse ns f nx = none := by
  unfold kidRes at h
  split at h
  · exact .inr h
  · rename_i hc
    exact .inl hc
/-- A closure that captures three variables. -/
def fun3 (f : FuncId) (x y z : Nat) : Value := .func (.func f) #[] #[.pointer (some ⟨x, 0, none⟩), .pointer (some ⟨y, 0, none⟩), .pointer (some ⟨z, 0, none⟩)]
/-- What the closure leaves. -/
def Built (b0 : Nat) (R : Nat → Prop) (r : Option (BT × Nat)) (w : World) (e : Ending) (w' : World) : Prop :=
  w.grownBy w' (some (b0 + 1)) ∧
    match r with
    | none => e = .returned (.pointer none)
    | some (t, nx) => ∃ (g : Nat) (S : Nat → Prop), e = .returned (.pointer (some ⟨g, 0, none⟩)) ∧ OT w' R S g t ∧ (∀ b, S b → w.heap.size ≤ b ∧ b < w'.heap.size) ∧ One w' (b0 + 1) (.int .i64 (nx : Int)) 2
theorem Built.no {b0 : Nat} {R : Nat → Prop} {r : Option (BT × Nat)} {w w' : World} (hr : r = none) (h : w.grownBy w' (some (b0 + 1))) : Built b0 R r w (.returned (.pointer none)) w' := by
  subst hr
  exact ⟨h, rfl⟩
theorem Built.yes {b0 nx g : Nat} {R S : Nat → Prop} {r : Option (BT × Nat)} {t : BT} {w w' : World} (hr : r = some (t, nx)) (h : w.grownBy w' (some (b0 + 1))) (ho : OT w' R S g t) (hS : ∀ b, S b → w.heap.size ≤ b ∧ b < w'.heap.size) (h1 : One w' (b0 + 1) (.int .i64 (nx : Int)) 2) :
    Built b0 R r w (.returned (.pointer (some ⟨g, 0, none⟩))) w' := by
  subst hr
  exact ⟨h, g, S, rfl, ho, hS, h1⟩
theorem ge_true {n : Int} {m : Nat} (h : (m : Int) ≤ n) : decide ((m : Int) ≤ n) = true := by simpa using h

theorem KidsO.set {w : World} {R : Nat → Prop} {lo d : Nat} {K : Option Addr} {L : List OH} (h : KidsO w R lo K d L) {g j : Nat} (hg : g < lo) (hR : ∀ b, R b → b ≠ g) (u : Value) : KidsO (w.setCell ⟨g, j, none⟩ u) R lo K d L := by
  obtain ⟨h1, h2, h3⟩ := h
  refine ⟨own_set' h1 hg u, fun y hy => ⟨?_, fun b hb => ?_⟩, h3⟩
  · obtain ⟨a1, a2⟩ := h2 y hy
    refine a1.keep (fun b hb => Below.heap_setCell _ _ _ _ ?_) (fun _ h => h)
    rcases hb with hb | hb
    · have := (a2 b hb).1
      simp
      omega
    · exact hR b hb
  · obtain ⟨a1, a2, a3⟩ := (h2 y hy).2 b hb
    exact ⟨a1, by simpa using a2, a3⟩
theorem ptrInfo : (Try.prog.info? 71).map (fun i => (i.zero, i.size, i.bytes)) = some (some (.pointer none), 1, 8) := by kernel_rfl

set_option maxHeartbeats 4000000 in
set_option maxRecDepth 100000 in
theorem impl_build (A : Option Addr) (c : Nat) (ns : List ND) (B b0 : Nat) (hB : B ≤ b0) (hl : ns.length ≤ 100) (hks : SmallK ns) : ∀ (f nx : Nat) (p : Int) (w : World), RN w B A ns → nx ≤ ns.length → ns.length - nx ≤ f →
    One w b0 (.slice A ns.length c) 24 → One w (b0 + 1) (.int .i64 (nx : Int)) 2 → One w (b0 + 2) (fun3 138 (b0 + 1) b0 (b0 + 2)) 147 → b0 + 3 ≤ w.heap.size →
    Calls Try.prog 138 #[.int .i64 p, .pointer (some ⟨b0 + 1, 0, none⟩), .pointer (some ⟨b0, 0, none⟩), .pointer (some ⟨b0 + 2, 0, none⟩)] w (Built b0 (· < B) (kidRes ns f nx p) w) := by
  intro f
  induction f with
  | zero =>
    intro nx p w hr hn hf h0 h1 h2 hsz
    have hr0 : kidRes ns 0 nx p = none := by rw [kidRes, if_neg (by omega)]
    have HR0 := hid hr0
    have c0 := h0.c
    have c1 := h1.c
    clear hr h0 h1 h2 hr0
    by_cases hp : p = (nx : Int)
    · have g1 := neI_false hp
      have g2 : (ns.length : Int) ≤ p := by omega
      have HP := hid hp
      clear hp
      go_enter Try.func138, Try.ntmps138
      go_wp2_with fail
      go_ret
      exact Built.no HR0.out (gr_refl _ _)
    · have g1 := neI_true hp
      clear hp
      go_enter Try.func138, Try.ntmps138
      go_wp2_with fail
      go_ret
      exact Built.no HR0.out (gr_refl _ _)
  | succ f ih =>
    intro nx p w hr hn hf h0 h1 h2 hsz
    have c0 := h0.c
    have c1 := h1.c
    have z1 := h1.fz
    by_cases hp : p = (nx : Int)
    · by_cases hlt : nx < ns.length
      · subst hp
        obtain ⟨b, off, A', K', c', d', rfl, hb, hc1, hc2, hrp, hri⟩ := hr.at_ hlt
        have HR := hid hr
        have HRI := hid hri
        have HRP := hid hrp
        have IH := hid ih
        have HPF := hid (fun m t e => parse_facts ns f m t e)
        have HY : Hid (∀ ts e, kidsBy (parse ns f) ns.length ns[nx].2 (nx + 1) = some (ts, e) → kidRes ns (f + 1) nx (nx : Int) = some (.node ns[nx].1 ts, e)) := fun ts e h => by rw [kidRes, if_pos ⟨rfl, hlt⟩, parse_yes hlt h]
        have HN : Hid (kidsBy (parse ns f) ns.length ns[nx].2 (nx + 1) = none → kidRes ns (f + 1) nx (nx : Int) = none) := fun h => by rw [kidRes, if_pos ⟨rfl, hlt⟩, parse_no hlt h]
        have hkn := hks nx hlt
        have g1 : ((nx : Int) != (nx : Int)) = false := by simp
        have e5 : (0 : Int) ≤ (nx : Int) := by omega
        have e6 : (nx : Int) < (ns.length : Int) := by omega
        have H0 := hid h0
        have H2 := hid h2
        have H1 := hid h1
        have g3 : decide (ns.length ≤ nx) = false := by rw [decide_eq_false_iff_not]; omega
        have g4 : decide ((ns.length : Int) ≤ (nx : Int)) = false := by rw [decide_eq_false_iff_not]; omega
        have hbw : b < w.heap.size := by omega
        have hbne : b ≠ b0 + 1 := by omega
        have hG1 : w.grownBy ((w.setCell ⟨b0 + 1, 0, none⟩ (.int .i64 ((nx : Int) + 1))).alloc (.cells #[.slice A' ns[nx].1.length c', .slice none 0 0] 121)) (some (b0 + 1)) := gr_trans (gr_set _ _ _ _) (gr_alloc _ _ _)
        have hr2 : Row2 ((w.setCell ⟨b0 + 1, 0, none⟩ (.int .i64 ((nx : Int) + 1))).alloc (.cells #[.slice A' ns[nx].1.length c', .slice none 0 0] 121)) w.heap.size 121 (.slice A' ns[nx].1.length c') (.slice none 0 0) := by
          have := Row2.lit (w.setCell ⟨b0 + 1, 0, none⟩ (.int .i64 ((nx : Int) + 1))) 121 (.slice A' ns[nx].1.length c') (.slice none 0 0)
          simpa using this
        have ho1 : One ((w.setCell ⟨b0 + 1, 0, none⟩ (.int .i64 ((nx : Int) + 1))).alloc (.cells #[.slice A' ns[nx].1.length c', .slice none 0 0] 121)) (b0 + 1) (.int .i64 ((nx + 1 : Nat) : Int)) 2 := by
          have := (H1.out.set (.int .i64 ((nx : Int) + 1))).gr' (gr_alloc _ (.cells #[.slice A' ns[nx].1.length c', .slice none 0 0] 121) none) (fun k e => by cases e)
          simpa using this
        have G1 := hid hG1
        have HR2 := hid hr2
        have HO1 := hid ho1
        have x0 := (H0.out.gr hG1 (by omega)).c
        have hBl := gr_below hG1 (B := B) (by omega) (by omega)
        have x2 := (hBl.cell (p := ⟨b, off + nx * 2 + 1, none⟩) hb).trans hc2
        clear hr hri hrp ih h0 h2 h1 hG1 hr2 ho1 hBl
        go_enter Try.func138, Try.ntmps138
        go_wp2_with fail
        have hbase := gr_below G1.out (B := B) (by omega) (by omega)
        clear x0 x2 c0 c1 z1 hc1 hc2
        go_loopw [34] (fun i wr => ∃ (k m q d : Nat) (L : List OH) (K : Option Addr), k ≤ ns[nx].2.length ∧ i = .int .i64 k ∧ Hid (kidsBy (parse ns f) ns.length (ns[nx].2.take k) (nx + 1) = some (L.map OH.t, m)) ∧ nx + 1 ≤ m ∧ m ≤ ns.length ∧ One wr (b0 + 1) (.int .i64 (m : Int)) 2 ∧
          Row2 wr w.heap.size 121 (.slice A' ns[nx].1.length c') (.slice K q d) ∧ Hid (q = L.length) ∧ KidsO wr (· < B) (w.heap.size + 1) K d L ∧ w.grownBy wr (some (b0 + 1))) (fun i _ => ns[nx].2.length - (intOf i).toNat)
        case atStart => exact ⟨0, nx + 1, 0, 0, [], none, Nat.zero_le _, rfl, rfl, Nat.le_refl _, by omega, HO1.out, HR2.out, rfl, KidsO.nil _ _ _, G1.out⟩
        case round =>
          obtain ⟨k, m, q, d, L, K, hk, rfl, HKB, hm1, hm2, h1, hr2, HQ, hko, hg⟩ := hrel
          obtain rfl : q = L.length := HQ.out
          clear HQ
          have hwle := hg.size
          have HG := hid hg
          have H1W := hid h1
          have HRW := hid hr2
          have HKO := hid hko
          have hbl := gr_below hg (B := B) (by omega) (by omega)
          by_cases hlk : k < ns[nx].2.length
          · obtain ⟨b2, off2, rfl, hb2, hc3⟩ := HRI.out.at_ hlk
            have y3 := (hbl.cell (p := ⟨b2, off2 + k, none⟩) hb2).trans hc3
            have f0 := (H2.out.gr hg (by omega)).c
            unfold fun3 at f0
            have e7 : (k : Int) < (ns[nx].2.length : Int) := by omega
            have e8 : (0 : Int) ≤ (k : Int) := by omega
            have hih := IH.out m ns[nx].2[k] wr (HR.out.below hbl) hm2 (by omega) (H0.out.gr hg (by omega)) h1 (H2.out.gr hg (by omega)) (by omega)
            have HK1 := hid (fun (g1 : ns[nx].2[k] = (m : Int)) (g2 : m < ns.length) (t : BT) (e : Nat) (hf : parse ns f m = some (t, e)) => kid_yes hlk HKB.out g1 g2 hf)
            have HK2 := hid (fun (h : ¬ (ns[nx].2[k] = (m : Int) ∧ m < ns.length)) => kid_no1 hlk HKB.out h)
            have HK3 := hid (fun (h : parse ns f m = none) => kid_no2 hlk HKB.out h)
            clear hbl hc3 h1 hr2 hko hg
            cases hkr : kidRes ns f m ns[nx].2[k] with
            | none =>
              rw [hkr] at hih
              have HIH := hid hih
              have HNO : Hid (kidRes ns (f + 1) nx (nx : Int) = none) := HN.out (by
                rcases kidRes_none hkr with h | h
                · exact HK2.out h
                · exact HK3.out h)
              clear hih hkr
              go_wp2_with fail
              refine HIH.out.mono ?_
              rintro e w1 ⟨hg1, rfl⟩
              have HG1 := hid (gr_trans HG.out hg1)
              clear hg1
              go_wp2_with fail
              go_ret
              exact Built.no HNO.out HG1.out
            | some y =>
              obtain ⟨t, e⟩ := y
              rw [hkr] at hih
              obtain ⟨s1, s2, s3⟩ := kidRes_some hkr
              have HIH := hid hih
              have HYES := hid (HK1.out s1 s2 t e s3)
              obtain ⟨p1, p2, _, _, _⟩ := HPF.out m t e s3
              obtain ⟨i0, hi0, hz0, hz1, hz2⟩ := info_parts ptrInfo
              have hL : L.length ≤ 1048576 := by
                have h := (kidsBy_at HKB.out).1
                rw [List.length_map, List.length_take] at h
                omega
              have hlb : (L.length + 1) * 8 ≤ 140737488355328 := by omega
              have hlm : L.length + 1 ≤ maxLen := by unfold maxLen; omega
              clear hih hkr s1 s2 s3
              go_wp2_with fail
              refine HIH.out.mono ?_
              rintro e' w1 ⟨hg1, g, S, rfl, hot, hS, h1⟩
              have HG1 := hid hg1
              have HOT := hid hot
              have HS := hid hS
              have H1N := hid h1
              have hr1 : Row2 w1 w.heap.size 121 (.slice A' ns[nx].1.length c') (.slice K L.length d) := HRW.out.kept hg1 (.inr (by simp [Value.ownBlock]; omega))
              have HK1W := hid (HKO.out.gr hg1 (by omega) (fun b hb => by omega) (by omega))
              have y1 := hr1.c1
              have yz := hr1.fz 1
              have hlt1 := hr1.lt
              have hs1 := hg1.size
              clear hg1 hot hS h1 y3 f0 hr1
              go_wp2_with (at_builtin; refine wpList_append_lies _ rfl _ _ _ rfl (w.heap.size + 1) 71 i0 _ 1 8 Try.underlying117 hi0 hz0 hz1 hz2 rfl (by omega) (.slice K L.length d) L.length (ohc L) rfl (HK1W.out.1.alloc _) ⟨w1.heap.size, 0, none⟩ 1 1 [ptr g] rfl rfl (World.news_of_block (cs := #[ptr g]) (t := 71) (fr := (0, 0)) (heap_alloc_new w1 _)) (by simp [ptr, Value.oneCell']) (by omega) hlm hlb (by simp; omega) (w1.heap.size + 1) (by simp) ?_; intro gg cap w4 hown4 hgrow4 hat4 hlt4; obtain ⟨hr4, hk4, hg4, hfar⟩ := o_step (x := ⟨g, S, t⟩) HRW.out HKO.out (by omega) (fun b hb => by omega) HG1.out HOT.out HS.out hown4 hgrow4 hat4; have HR4 := hid hr4; have HK4 := hid hk4; have HG4 := hid hg4; have HFAR := hid hfar; have y4 := hr4.c1; have z4 := hr4.fz 1; clear hr4 hk4 hg4 hfar hown4 hgrow4 hat4)
              go_roundw
              case rel => exact ⟨k + 1, e, L.length + 1, cap, L ++ [⟨g, S, t⟩], some ⟨gg, 0, none⟩, by omega, by go_num, by
                  rw [Hid, List.map_append]
                  exact HYES.out, by omega, by omega, ((H1N.out.gr' (gr_alloc _ _ none) (fun k e => by cases e)).gr' HG4.out (fun k e => by have := HFAR.out k e; omega)).other (by omega) _,
                  HR4.out.s1 _, by simp [Hid], HK4.out.set (by omega) (fun b hb => by omega) _,
                  gr_far (gr_far (gr_trans (gr_trans HG.out HG1.out) (gr_alloc _ _ _)) HG4.out (fun k e => by have := HFAR.out k e; omega)) (gr_set _ _ _ _) (fun k e => by injection e; omega)⟩
              case measure => simp [intOf]; omega
          · obtain rfl : k = ns[nx].2.length := by omega
            rw [List.take_length] at HKB
            have hot := hko.ot (S := fun b => w.heap.size ≤ b ∧ b < wr.heap.size) hr2 (RPS.of_rp (HRP.out.below hbl)) ⟨Nat.le_refl _, hr2.lt⟩ (fun b h1 h2 => ⟨by omega, h2⟩)
            have HOT := hid hot
            have HYES := hid (HY.out _ _ HKB.out)
            clear hot hbl hko hr2 h1 hg
            go_wp2_with fail
            go_ret
            exact Built.yes HYES.out HG.out HOT.out (fun b h => h) H1W.out
      · have hr0 : kidRes ns (f + 1) nx p = none := by rw [kidRes, if_neg (fun h => hlt h.2)]
        have HR0 := hid hr0
        have g1 := neI_false hp
        have g2 : (ns.length : Int) ≤ p := by omega
        clear hr h0 h1 h2 hr0 hp ih
        go_enter Try.func138, Try.ntmps138
        go_wp2_with fail
        go_ret
        exact Built.no HR0.out (gr_refl _ _)
    · have hr0 : kidRes ns (f + 1) nx p = none := by rw [kidRes, if_neg (fun h => hp h.1)]
      have HR0 := hid hr0
      have g1 := neI_true hp
      clear hr h0 h1 h2 hr0 hp ih
      go_enter Try.func138, Try.ntmps138
      go_wp2_with fail
      go_ret
      exact Built.no HR0.out (gr_refl _ _)
end Go.Proofs.Ytcjbjfhndjpmcaa
/-
  Changes as lists: their cells, where they lie. Plain.
-/
namespace Go.Proofs.Ytcjbjfhndjpmcaa
open Go.RowKit

/-- A change: its key, its value, whether it is gone. -/
abbrev CD := ByteArray × ByteArray × Bool
abbrev CS := List CD
/-- The change as a value. -/
def cval (x : CD) : Value := .agg #[.string x.1, .string x.2.1, .bool x.2.2]
def ccells : CS → List Value
  | [] => []
  | x :: r => .string x.1 :: .string x.2.1 :: .bool x.2.2 :: ccells r
theorem ccells_length : ∀ hs : CS, (ccells hs).length = hs.length * 3
  | [] => rfl
  | x :: r => by simp [ccells, ccells_length r]; omega
theorem ccells_append : ∀ hs gs : CS, ccells (hs ++ gs) = ccells hs ++ ccells gs
  | [], _ => rfl
  | x :: r, gs => by simp [ccells, ccells_append r gs]
theorem ccells_key : ∀ (hs : CS) (i : Nat) (x : CD), hs[i]? = some x → (ccells hs)[i * 3]? = some (.string x.1)
  | [], _, _, h => by simp at h
  | y :: r, 0, x, h => by simp at h; subst h; rfl
  | y :: r, i + 1, x, h => by
    simp only [List.getElem?_cons_succ] at h
    rw [show (i + 1) * 3 = i * 3 + 1 + 1 + 1 by omega]
    simpa [ccells] using ccells_key r i x h
theorem ccells_val : ∀ (hs : CS) (i : Nat) (x : CD), hs[i]? = some x → (ccells hs)[i * 3 + 1]? = some (.string x.2.1)
  | [], _, _, h => by simp at h
  | y :: r, 0, x, h => by simp at h; subst h; rfl
  | y :: r, i + 1, x, h => by
    simp only [List.getElem?_cons_succ] at h
    rw [show (i + 1) * 3 + 1 = (i * 3 + 1) + 1 + 1 + 1 by omega]
    simpa [ccells] using ccells_val r i x h
theorem ccells_gone : ∀ (hs : CS) (i : Nat) (x : CD), hs[i]? = some x → (ccells hs)[i * 3 + 2]? = some (.bool x.2.2)
  | [], _, _, h => by simp at h
  | y :: r, 0, x, h => by simp at h; subst h; rfl
  | y :: r, i + 1, x, h => by
    simp only [List.getElem?_cons_succ] at h
    rw [show (i + 1) * 3 + 2 = (i * 3 + 2) + 1 + 1 + 1 by omega]
    simpa [ccells] using ccells_gone r i x h
theorem ccells_one : ∀ (hs : CS), ∀ u ∈ ccells hs, u.oneCell' = true
  | [], _, h => by simp [ccells] at h
  | x :: r, u, h => by
    simp only [ccells, List.mem_cons] at h
    rcases h with rfl | rfl | rfl | h
    · rfl
    · rfl
    · rfl
    · exact ccells_one r u h

/-- The slice at A, below block B, changes these changes. -/
def RC (w : World) (B : Nat) (A : Option Addr) (hs : CS) : Prop :=
  hs = [] ∨ ∃ b off, A = some ⟨b, off, none⟩ ∧ b < B ∧ ∀ (i : Nat) (x : CD), hs[i]? = some x →
    w.cell? ⟨b, off + i * 3, none⟩ = some (.string x.1) ∧ w.cell? ⟨b, off + i * 3 + 1, none⟩ = some (.string x.2.1) ∧ w.cell? ⟨b, off + i * 3 + 2, none⟩ = some (.bool x.2.2)

section
variable {w w' : World} {B B' : Nat} {A : Option Addr} {hs : CS}
theorem RC.at_ {k : Nat} (h : RC w B A hs) (hk : k < hs.length) :
    ∃ b off, A = some ⟨b, off, none⟩ ∧ b < B ∧ w.cell? ⟨b, off + k * 3, none⟩ = some (.string hs[k].1) ∧ w.cell? ⟨b, off + k * 3 + 1, none⟩ = some (.string hs[k].2.1) ∧ w.cell? ⟨b, off + k * 3 + 2, none⟩ = some (.bool hs[k].2.2) := by
  rcases h with rfl | ⟨b, off, e, hb, hc⟩
  · simp at hk
  · exact ⟨b, off, e, hb, hc k _ (List.getElem?_eq_getElem hk)⟩
theorem RC.keep (h : RC w B A hs) (hk : ∀ p : Addr, p.block < B → w'.cell? p = w.cell? p) : RC w' B A hs := by
  rcases h with rfl | ⟨b, off, e, hb, hc⟩
  · exact .inl rfl
  · exact .inr ⟨b, off, e, hb, fun i p hp => by rw [hk _ hb, hk _ hb, hk _ hb]; exact hc i p hp⟩
theorem RC.more (h : RC w B A hs) (hB : B ≤ B') : RC w B' A hs := by
  rcases h with rfl | ⟨b, off, e, hb, hc⟩
  · exact .inl rfl
  · exact .inr ⟨b, off, e, by omega, hc⟩
theorem RC.below (h : RC w B A hs) (hb : Below B w w') : RC w' B A hs := h.keep fun _ hp => hb.cell hp
theorem RC.take {n : Nat} (h : RC w B A hs) : RC w B A (hs.take n) := by
  rcases h with rfl | ⟨b, off, e, hb, hc⟩
  · exact .inl (by simp)
  · refine .inr ⟨b, off, e, hb, fun i p hp => hc i p ?_⟩
    rw [List.getElem?_take] at hp
    split at hp
    · exact hp
    · cases hp
theorem RC.of_own {base : Nat} {e : TypeId} {n c : Nat} (h : w.ownsRow base e 3 (.slice A n c) n (ccells hs)) : RC w w.heap.size A hs := by
  rcases h.2 with ⟨hv, hn⟩ | ⟨g, cap, cur, hv, _, hh, _⟩
  · left
    have := h.1
    rw [ccells_length] at this
    exact List.eq_nil_of_length_eq_zero (by omega)
  · right
    injection hv with hA
    subst hA
    refine ⟨g, 0, rfl, (Array.getElem?_eq_some_iff.1 hh).1, fun i p hp => ?_⟩
    have h1 := h.cells (g := g) rfl _ _ (ccells_key hs i p hp)
    have h2 := h.cells (g := g) rfl _ _ (ccells_val hs i p hp)
    have h3 := h.cells (g := g) rfl _ _ (ccells_gone hs i p hp)
    rw [Addr.add_lit] at h1 h2 h3
    exact ⟨h1, by rw [Nat.add_assoc]; exact h2, by rw [Nat.add_assoc]; exact h3⟩
end

/-- Texts of these are no longer than any slice. -/
def FitsC (hs : CS) : Prop := ∀ x ∈ hs, x.1.size ≤ maxLen ∧ x.2.1.size ≤ maxLen
theorem FitsC.get {hs : CS} (h : FitsC hs) {k : Nat} (hk : k < hs.length) : hs[k].1.size ≤ maxLen ∧ hs[k].2.1.size ≤ maxLen := h _ (List.getElem_mem hk)
theorem FitsC.take {hs : CS} (h : FitsC hs) (n : Nat) : FitsC (hs.take n) := fun x hx => h x (List.mem_of_mem_take hx)
/-- A part of a row, from k on. -/
theorem RC.drop {w : World} {B : Nat} {b off : Nat} {hs : CS} (h : RC w B (some ⟨b, off, none⟩) hs) (k : Nat) : RC w B (some ⟨b, off + k * 3, none⟩) (hs.drop k) := by
  rcases h with rfl | ⟨b', off', e, hb, hc⟩
  · exact .inl (by simp)
  · injection e with e
    injection e with e1 e2
    subst e1 e2
    refine .inr ⟨b, off + k * 3, rfl, hb, fun i p hp => ?_⟩
    rw [List.getElem?_drop] at hp
    have := hc (k + i) p hp
    rw [show off + k * 3 + i * 3 = off + (k + i) * 3 by omega]
    exact this
theorem RC.nilA {w : World} {B : Nat} (A : Option Addr) {hs : CS} (h : hs = []) : RC w B A hs := .inl h
end Go.Proofs.Ytcjbjfhndjpmcaa
