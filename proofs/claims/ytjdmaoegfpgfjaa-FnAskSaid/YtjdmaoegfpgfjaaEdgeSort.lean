/-
  The program's edges, sorted: cmp.Or, the closure, slices.SortFunc.
-/
import Derived.Test.YtjdmaoegfpgfjaaEdgeMem
import Derived.Test.YtjdmaoegfpgfjaaShelfSort
import Derived.Test.YtjdmaoegfpgfjaaFreeI
namespace Go.Proofs.Ytjdmaoegfpgfjaa
open Go.RowKit Go.Shelf Go.Lib

def encE (x : ED) : List Value := [.int .i64 x.1, .int .i64 x.2]
def cmpI (x y : Int) : Int := if x < y then -1 else if x > y then 1 else 0
def orI (a b : Int) : Int := if a = 0 then b else a
def cfE (x y : ED) : Int := orI (cmpI x.1 y.1) (cmpI x.2 y.2)
theorem cfE_lt (x y : ED) : ltOf cfE x y = ltE x y := by
  unfold ltOf cfE orI cmpI ltE
  by_cases h1 : x.1 < y.1
  · simp [h1]
  · by_cases h2 : x.1 > y.1
    · have h3 : ¬ x.1 = y.1 := by omega
      simp [h1, h2, h3]
    · have h3 : x.1 = y.1 := by omega
      by_cases h4 : x.2 < y.2
      · simp [h3, h4]
      · by_cases h5 : x.2 > y.2 <;> simp [h3, h4, h5]
theorem swoE : Go.Sort.SWO (ltOf cfE) where
  irrefl x := by rw [cfE_lt, ltE_no]; omega
  trans x y z h1 h2 := by rw [cfE_lt, ltE_iff] at *; omega
  ntrans x y z h1 h2 := by rw [cfE_lt, ltE_no] at *; omega

theorem cmpInt_any (x y : Int) (w : World) : Calls Try.prog 153 #[.int .i64 x, .int .i64 y] w fun e w' => e = .returned (.int .i64 (cmpI x y)) ∧ w' = w := Try.cmp_Compare_int x y w

set_option maxHeartbeats 1000000 in
theorem orInt_any (a b : Int) (c : Nat) (g : Nat) (w : World) (h0 : w.cell? ⟨g, 0, none⟩ = some (.int .i64 a)) (h1 : w.cell? ⟨g, 1, none⟩ = some (.int .i64 b)) :
    Calls Try.prog 152 #[.slice (some ⟨g, 0, none⟩) 2 c] w fun e w' => e = .returned (.int .i64 (orI a b)) ∧ w' = w := by
  by_cases ha : a = 0
  · subst ha
    by_cases hb : b = 0
    · subst hb
      go_enter Try.func152, Try.ntmps152
      go_wp2_with fail
      go_loop [8] (fun i => ∃ k : Nat, k ≤ 2 ∧ i = .int .i64 (k : Int)) (fun i => 2 - (intOf i).toNat)
      case atStart => exact ⟨0, by omega, rfl⟩
      case round =>
        obtain ⟨k, hk, rfl⟩ := hrel
        have hk3 : k = 0 ∨ k = 1 ∨ k = 2 := by omega
        rcases hk3 with rfl | rfl | rfl
        · go_wp2_with fail
          go_round
          case rel => exact ⟨1, by omega, rfl⟩
          case measure => simp [intOf]
        · go_wp2_with fail
          go_round
          case rel => exact ⟨2, by omega, rfl⟩
          case measure => simp [intOf]
        · go_wp2_with fail
          go_ret
          exact ⟨rfl, rfl⟩
    · have e : orI 0 b = b := rfl
      have hb2 : (b != 0) = true := by simp [hb]
      go_enter Try.func152, Try.ntmps152
      go_wp2_with fail
      go_loop [8] (fun i => ∃ k : Nat, k ≤ 1 ∧ i = .int .i64 (k : Int)) (fun i => 2 - (intOf i).toNat)
      case atStart => exact ⟨0, by omega, rfl⟩
      case round =>
        obtain ⟨k, hk, rfl⟩ := hrel
        have hk3 : k = 0 ∨ k = 1 := by omega
        rcases hk3 with rfl | rfl
        · go_wp2_with fail
          go_round
          case rel => exact ⟨1, by omega, rfl⟩
          case measure => simp [intOf]
        · go_wp2_with fail
          go_ret
          first | exact ⟨rfl, rfl⟩ | exact ⟨by rw [e], rfl⟩
  · have e : orI a b = a := by simp [orI, ha]
    have ha2 : (a != 0) = true := by simp [ha]
    go_enter Try.func152, Try.ntmps152
    go_wp2_with fail
    go_loop [8] (fun i => i = .int .i64 0) (fun i => 2 - (intOf i).toNat)
    case atStart => rfl
    case round =>
      subst hrel
      go_wp2_with fail
      go_ret
      first | exact ⟨rfl, rfl⟩ | exact ⟨by rw [e], rfl⟩

set_option maxHeartbeats 2000000 in
theorem edgeCmp (x y : ED) (W : World) : Calls Try.prog 151 #[.agg #[.int .i64 x.1, .int .i64 x.2], .agg #[.int .i64 y.1, .int .i64 y.2]] W fun e w' => e = .returned (.int .i64 (cfE x y)) ∧ ∃ q os', w' = Go.Sort.grow (W.drewN q) os' := by
  have HE : Hid (cfE x y = orI (cmpI x.1 y.1) (cmpI x.2 y.2)) := rfl
  have hc := fun a b W' => cmpInt_any a b W'
  have hp := fun a b c g W' h0 h1 => orInt_any a b c g W' h0 h1
  have HC := hid hc
  have HP := hid hp
  clear hc hp
  have x2 := Row2.lit W 56 (.int .i64 x.1) (.int .i64 x.2)
  have y2 := Row2.lit (W.alloc (.cells #[.int .i64 x.1, .int .i64 x.2] 56)) 56 (.int .i64 y.1) (.int .i64 y.2)
  simp only [World.size_alloc] at y2
  have x3 := x2.below ((Below.refl _ _).alloc (Nat.le_refl _) (.cells #[.int .i64 y.1, .int .i64 y.2] 56))
  have X := hid x3
  have Y := hid y2
  clear x2 y2 x3
  go_enter Try.func151, Try.ntmps151
  go_wp2_with fail
  have HG : Hid ((W.alloc (.cells #[.int .i64 x.1, .int .i64 x.2] 56)).alloc (.cells #[.int .i64 y.1, .int .i64 y.2] 56) = Go.Sort.grow W #[.cells #[.int .i64 x.1, .int .i64 x.2] 56, .cells #[.int .i64 y.1, .int .i64 y.2] 56]) := by rw [Hid, Go.Sort.alloc_eq_grow, Go.Sort.alloc_eq_grow, Go.Sort.grow_grow]; rfl
  generalize hw2 : (W.alloc (.cells #[.int .i64 x.1, .int .i64 x.2] 56)).alloc (.cells #[.int .i64 y.1, .int .i64 y.2] 56) = w2 at *
  clear hw2
  have x0 := X.out.c0
  have x1 := X.out.c1
  have y0 := Y.out.c0
  have y1 := Y.out.c1
  go_region_held3 (fun w' => w'.cell? ⟨W.heap.size, 0, none⟩ = some (.int .i64 x.1) ∧ w'.cell? ⟨W.heap.size, 1, none⟩ = some (.int .i64 x.2) ∧ w'.cell? ⟨W.heap.size + 1, 0, none⟩ = some (.int .i64 y.1) ∧ w'.cell? ⟨W.heap.size + 1, 1, none⟩ = some (.int .i64 y.2)) (go_keep)
    (first
      | (go_at_call 153; refine (HC.out _ _ _).mono ?_; rintro e w' ⟨rfl, rfl⟩)
      | (go_at_call 152; refine (HP.out (cmpI x.1 y.1) (cmpI x.2 y.2) _ _ _ (by go_simp) (by go_simp)).mono ?_; rintro e w' ⟨rfl, rfl⟩))
  go_wp2_with fail
  go_ret
  refine ⟨ret_int HE.out.symm, 1, #[.cells #[.int .i64 x.1, .int .i64 x.2] 56, .cells #[.int .i64 y.1, .int .i64 y.2] 56, .cells #[.int .i64 (cmpI x.1 y.1), .int .i64 (cmpI x.2 y.2)] 3], ?_⟩
  rw [HG.out, Go.Sort.alloc_eq_grow, Go.Sort.grow_grow]
  rfl

theorem ecells_flat (d : Array ED) : (Go.Sort.flatK encE 2 d).toList = ecells d.toList := by
  refine ecells_ext _ _ (by simp) fun i x hx => ?_
  have hi : i < d.size := by have := (List.getElem?_eq_some_iff.1 hx).1; simpa using this
  have hxe : d[i]! = x := by
    rw [getElem!_pos d i hi]
    have := (List.getElem?_eq_some_iff.1 hx).2
    simpa using this
  have h1 := Go.Sort.get_flatK encE 2 d (i * 2) (by omega)
  have h2 := Go.Sort.get_flatK encE 2 d (i * 2 + 1) (by omega)
  rw [show i * 2 / 2 = i by omega, show i * 2 % 2 = 0 by omega, hxe] at h1
  rw [show (i * 2 + 1) / 2 = i by omega, show (i * 2 + 1) % 2 = 1 by omega, hxe] at h2
  have s1 : i * 2 < (Go.Sort.flatK encE 2 d).size := by rw [Go.Sort.size_flatK]; omega
  have s2 : i * 2 + 1 < (Go.Sort.flatK encE 2 d).size := by rw [Go.Sort.size_flatK]; omega
  rw [getElem!_pos (Go.Sort.flatK encE 2 d) (i * 2) s1] at h1
  rw [getElem!_pos (Go.Sort.flatK encE 2 d) (i * 2 + 1) s2] at h2
  refine ⟨?_, ?_⟩
  · rw [Array.getElem?_toList, Array.getElem?_eq_getElem s1, h1]; rfl
  · rw [Array.getElem?_toList, Array.getElem?_eq_getElem s2, h2]; rfl
theorem own_putRow {B size n cap g : Nat} {e : TypeId} (w : World) (xs : List Value) (F : Array Value) (h : w.ownsRow B e size (.slice (some ⟨g, 0, none⟩) n cap) n xs) (hF : F.size = n * size) :
    (Go.Sort.putRow id w g 0 F).ownsRow B e size (.slice (some ⟨g, 0, none⟩) n cap) n F.toList ∧ w.grownBy (Go.Sort.putRow id w g 0 F) (some g) := by
  obtain ⟨hl, h2⟩ := h
  rcases h2 with ⟨hv, _⟩ | ⟨q, cap', cur, hv, hq, hh, h3, h4, h5, h6⟩
  · cases hv
  injection hv with e1 _ e3
  injection e1 with e1
  injection e1 with e1
  subst e1 e3
  have hlt : g < w.heap.size := (Array.getElem?_eq_some_iff.1 hh).1
  have hm : n * size ≤ cap * size := Nat.mul_le_mul_right _ h3
  refine ⟨⟨by simpa using hF, .inr ⟨g, cap, Go.Sort.putCells id 0 F cur, rfl, hq, ?_, h3, h4, by simp [Go.Sort.putCells, h5], ?_⟩⟩, ⟨rfl, rfl, rfl, by simp [Go.Sort.putRow, Go.Sort.mapBlock], fun k hk hne => ?_⟩⟩
  · simp [Go.Sort.putRow, Go.Sort.mapBlock, Array.getElem?_modify, hh, Go.Sort.onCells]
  · refine List.ext_getElem? fun i => ?_
    rw [List.getElem?_take]
    split
    · rename_i hi
      have hc : i < cur.size := by omega
      have hf : i < F.size := by omega
      simp [Go.Sort.putCells, Array.getElem?_eq_getElem hc, hf]
    · rename_i hi
      rw [Array.getElem?_toList, Array.getElem?_eq_none (by omega)]
  · have hgk : g ≠ k := fun e => hne (by rw [e])
    simp [Go.Sort.putRow, Go.Sort.mapBlock, Array.getElem?_modify, hgk]

/-- What SortFunc leaves. -/
structure SortE (w : World) (B g c : Nat) (es : ES) (w' : World) : Prop where
  ex : ∃ s : ES, s.length = es.length ∧ (∀ z, z ∈ s ↔ z ∈ es) ∧ UpE s ∧ OwnE w' B (some ⟨g, 0, none⟩) c s
  grown : w.grownBy w' (some g)
set_option maxHeartbeats 1000000 in
theorem sort_own (w : World) (B g c : Nat) (es : ES) (h : OwnE w B (some ⟨g, 0, none⟩) c es) (n : Nat) (d' : Array ED) (os : Array Obj) (hp : Go.Sort.PermIn 0 es.toArray.size es.toArray d') (hs : Go.Sort.SortedIn (ltOf cfE) 0 es.toArray.size d') :
    SortE w B g c es (sortWorldK encE 2 w g 0 n d' os) := by
  obtain ⟨h1, h2, h3⟩ := hp
  have hsz : d'.size = es.length := by simpa using h1
  have hperm : d'.toList.Perm es := by
    have e1 : (d'.extract 0 es.toArray.size).toList = d'.toList := by
      rw [show es.toArray.size = d'.size by simpa using hsz.symm, Array.extract_size]
    have e2 : (es.toArray.extract 0 es.toArray.size).toList = es := by rw [Array.extract_size]
    rw [e1, e2] at h3
    exact h3
  have ho : (Go.Sort.ahead w n).ownsRow B 56 2 (.slice (some ⟨g, 0, none⟩) es.length c) es.length (ecells es) := h
  obtain ⟨p1, p2⟩ := own_putRow (Go.Sort.ahead w n) _ (Go.Sort.flatK encE 2 d') ho (by rw [Go.Sort.size_flatK, hsz])
  rw [ecells_flat] at p1
  have hb : Below (Go.Sort.putRow id (Go.Sort.ahead w n) g 0 (Go.Sort.flatK encE 2 d')).heap.size (Go.Sort.putRow id (Go.Sort.ahead w n) g 0 (Go.Sort.flatK encE 2 d')) (sortWorldK encE 2 w g 0 n d' os) := by
    refine ⟨rfl, rfl, rfl, ?_, fun k hk => ?_⟩
    · unfold sortWorldK Go.Sort.grow Go.Sort.putRowK
      simp
    · unfold sortWorldK Go.Sort.grow Go.Sort.putRowK
      exact Array.getElem?_append_left hk
  refine ⟨⟨d'.toList, by simpa using hsz, fun z => hperm.mem_iff, ?_, ?_⟩, ?_⟩
  · unfold UpE
    rw [List.pairwise_iff_getElem]
    intro i j hi hj hij
    have hj' : j < d'.size := by simpa using hj
    have hi' : i < d'.size := by simpa using hi
    have := hs i j (Nat.zero_le _) hij (by simp; omega)
    rw [cfE_lt, getElem!_pos d' j hj', getElem!_pos d' i hi'] at this
    simpa using this
  · have hq : OwnE (Go.Sort.putRow id (Go.Sort.ahead w n) g 0 (Go.Sort.flatK encE 2 d')) B (some ⟨g, 0, none⟩) c d'.toList := by
      unfold OwnE
      rw [show d'.toList.length = es.length by simpa using hsz]
      exact p1
    exact hq.below hb
  · exact ⟨p2.os.trans rfl, p2.tape.trans rfl, p2.output.trans rfl, Nat.le_trans p2.size hb.size, fun k hk hne => (hb.block k (Nat.lt_of_lt_of_le hk p2.size)).trans (p2.block k hk hne)⟩
theorem ent_cmp : ∀ args w, (callFunc 151 args).run Try.prog w = .ok (.enter 151 args) w := enters_of Try.func151 (by kernel_rfl) rfl
theorem sortFunc_own (w : World) (B : Nat) (A : Option Addr) (c : Nat) (es : ES) (h : OwnE w B A c es) (hn : es.length ≤ 4000000) :
    Calls Try.prog 150 #[.slice A es.length c, .func (.func 151) #[] #[]] w fun e w' =>
      e = .returned (.tuple #[]) ∧ ∃ s : ES, s.length = es.length ∧ (∀ z, z ∈ s ↔ z ∈ es) ∧ UpE s ∧ OwnE w' B A c s ∧ w.grownBy w' (Value.ownBlock (.slice A es.length c)) := by
  rcases h.2 with ⟨hv, h0⟩ | ⟨g, cap, cur, hv, _⟩
  · injection hv with e1 _ e3
    subst e1 e3
    obtain rfl : es = [] := List.eq_nil_of_length_eq_zero h0
    refine (AnyF.slices_SortFunc_none Try.sortE none 0 _ w).mono ?_
    rintro e w' ⟨rfl, rfl⟩
    exact ⟨rfl, [], rfl, fun z => Iff.rfl, List.Pairwise.nil, h, ⟨rfl, rfl, rfl, Nat.le_refl _, fun _ _ _ => rfl⟩⟩
  · injection hv with e1 _ e3
    subst e1 e3
    have hlt := (h.size g rfl).2
    have hH : Go.Sort.HoldsK encE 2 w g 0 es.toArray := by
      intro j hj
      rw [Go.Sort.size_flatK] at hj
      have hj2 : j < es.length * 2 := by simpa using hj
      rw [Nat.zero_add]
      refine ⟨(World.ownsRow.cellAt h j (by omega)).trans ?_, World.ownsRow.frozenAt h j⟩
      have hl := ecells_flat es.toArray
      simp only at hl
      have s1 : j < (Go.Sort.flatK encE 2 es.toArray).size := by rw [Go.Sort.size_flatK]; exact hj
      rw [← hl, Array.getElem?_toList, Array.getElem?_eq_getElem s1, getElem!_pos (Go.Sort.flatK encE 2 es.toArray) j s1]
      rfl
    have hcon := AnyQ.slices_SortFunc Try.sortE 2 Try.isAgg56 Try.sizeOf56 encE (fun _ => rfl) (fun x v hv => by simp [encE] at hv; rcases hv with rfl | rfl <;> rfl) cfE swoE 151 #[] g 0 c es.toArray w ent_cmp (fun m os dk _ x y => edgeCmp x y _) hH hlt (by simp; omega)
    refine Calls.mono hcon ?_
    rintro e w' ⟨rfl, d', n, os, hp, hs, rfl⟩
    obtain ⟨⟨s, s1, s2, s3, s4⟩, s5⟩ := sort_own w B g c es h n d' os hp hs
    exact ⟨rfl, s, s1, s2, s3, s4, s5⟩
end Go.Proofs.Ytjdmaoegfpgfjaa
