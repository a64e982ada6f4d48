/-
  How many bits of a word are set: plain facts. Imports nothing of the program.
-/
namespace Go.Proofs.Ytaiehccpefjbfaa

/-- A mask's byte, n times. -/
def rep8 (m : Nat) : Nat → Nat
  | 0 => 0
  | n + 1 => m + 256 * rep8 m n
theorem and_step (a r m s : Nat) (ha : a < 256) (hm : m < 256) : (a + 256 * r) &&& (m + 256 * s) = (a &&& m) + 256 * (r &&& s) := by
  have h1 : ((a + 256 * r) &&& (m + 256 * s)) % 2 ^ 8 = (a &&& m) := by
    rw [Nat.and_mod_two_pow]
    congr 1 <;> omega
  have h2 : ((a + 256 * r) &&& (m + 256 * s)) / 2 ^ 8 = (r &&& s) := by
    rw [Nat.and_div_two_pow]
    congr 1 <;> omega
  have h3 := Nat.div_add_mod ((a + 256 * r) &&& (m + 256 * s)) (2 ^ 8)
  rw [h1, h2] at h3
  omega
def sw1 (m x : Nat) : Nat := ((x / 2) &&& m) + (x &&& m)
def sw2 (m x : Nat) : Nat := ((x / 4) &&& m) + (x &&& m)
def sw3 (m x : Nat) : Nat := (x / 16 + x) &&& m
theorem and85 : ∀ b : Fin 128, ∀ c : Fin 2, (b.1 + 128 * c.1) &&& 85 = b.1 &&& 85 := by decide +kernel
theorem and51 : ∀ b : Fin 64, ∀ c : Fin 4, (b.1 + 64 * c.1) &&& 51 = b.1 &&& 51 := by decide +kernel
theorem and15 : ∀ b : Fin 69, ∀ c : Fin 5, (b.1 / 16 + b.1 + 16 * c.1) &&& 15 = (b.1 / 16 + b.1) &&& 15 := by decide +kernel
theorem sw1_step (n b r : Nat) (hb : b < 256) : sw1 (rep8 85 (n + 1)) (b + 256 * r) = sw1 85 b + 256 * sw1 (rep8 85 n) r := by
  have e : (b + 256 * r) / 2 = (b / 2 + 128 * (r % 2)) + 256 * (r / 2) := by omega
  have h85 : (b / 2 + 128 * (r % 2)) &&& 85 = (b / 2) &&& 85 := and85 ⟨b / 2, by omega⟩ ⟨r % 2, by omega⟩
  unfold sw1
  rw [rep8, e, and_step _ _ _ _ (by omega) (by omega), and_step _ _ _ _ hb (by omega), h85]
  omega
theorem sw2_step (n b r : Nat) (hb : b < 256) : sw2 (rep8 51 (n + 1)) (b + 256 * r) = sw2 51 b + 256 * sw2 (rep8 51 n) r := by
  have e : (b + 256 * r) / 4 = (b / 4 + 64 * (r % 4)) + 256 * (r / 4) := by omega
  have h51 : (b / 4 + 64 * (r % 4)) &&& 51 = (b / 4) &&& 51 := and51 ⟨b / 4, by omega⟩ ⟨r % 4, by omega⟩
  unfold sw2
  rw [rep8, e, and_step _ _ _ _ (by omega) (by omega), and_step _ _ _ _ hb (by omega), h51]
  omega
theorem sw3_step (n b r : Nat) (hb : b < 69) (hr : r % 16 < 5) : sw3 (rep8 15 (n + 1)) (b + 256 * r) = sw3 15 b + 256 * sw3 (rep8 15 n) r := by
  have e : (b + 256 * r) / 16 + (b + 256 * r) = (b / 16 + b + 16 * (r % 16)) + 256 * (r / 16 + r) := by omega
  have h15 : (b / 16 + b + 16 * (r % 16)) &&& 15 = (b / 16 + b) &&& 15 := and15 ⟨b, hb⟩ ⟨r % 16, hr⟩
  unfold sw3
  rw [rep8, e, and_step _ _ _ _ (by omega) (by omega), h15]
def bdig (l : List Nat) : Nat := l.foldr (fun d n => d + 256 * n) 0
theorem bdig_cons (d : Nat) (l : List Nat) : bdig (d :: l) = d + 256 * bdig l := rfl
theorem sw1_dig : ∀ (l : List Nat), (∀ d ∈ l, d < 256) → sw1 (rep8 85 l.length) (bdig l) = bdig (l.map (sw1 85))
  | [], _ => by decide
  | d :: l, h => by
    rw [List.length_cons, bdig_cons, sw1_step _ _ _ (h d (by simp)), sw1_dig l (fun x hx => h x (by simp [hx])), List.map_cons, bdig_cons]
theorem sw2_dig : ∀ (l : List Nat), (∀ d ∈ l, d < 256) → sw2 (rep8 51 l.length) (bdig l) = bdig (l.map (sw2 51))
  | [], _ => by decide
  | d :: l, h => by
    rw [List.length_cons, bdig_cons, sw2_step _ _ _ (h d (by simp)), sw2_dig l (fun x hx => h x (by simp [hx])), List.map_cons, bdig_cons]
theorem sw3_dig : ∀ (l : List Nat), (∀ d ∈ l, d < 69 ∧ d % 16 < 5) → sw3 (rep8 15 l.length) (bdig l) = bdig (l.map (sw3 15))
  | [], _ => by decide
  | d :: l, h => by
    have hr : bdig l % 16 < 5 := by
      cases l with
      | nil => decide
      | cons e l =>
        have := (h e (by simp)).2
        rw [bdig_cons]
        omega
    rw [List.length_cons, bdig_cons, sw3_step _ _ _ (h d (by simp)).1 hr, sw3_dig l (fun x hx => h x (by simp [hx])), List.map_cons, bdig_cons]
/-- The bits of one byte. -/
def pc8 (b : Nat) : Nat := sw3 15 (sw2 51 (sw1 85 b))
theorem byte1 : ∀ b : Fin 256, sw1 85 b.1 < 256 ∧ sw2 51 (sw1 85 b.1) < 69 ∧ sw2 51 (sw1 85 b.1) % 16 < 5 ∧ pc8 b.1 ≤ 8 := by decide +kernel
/-- What OnesCount64 computes. -/
def pop64 (x : Nat) : Nat :=
  let z := sw3 1085102592571150095 (sw2 3689348814741910323 (sw1 6148914691236517205 x))
  let a := z + z / 256
  let b := a + a / 65536
  (b + b / 4294967296) % 128
theorem pop_bytes (b0 b1 b2 b3 b4 b5 b6 b7 : Nat) (h : ∀ d ∈ [b0, b1, b2, b3, b4, b5, b6, b7], d < 256) :
    sw3 1085102592571150095 (sw2 3689348814741910323 (sw1 6148914691236517205 (bdig [b0, b1, b2, b3, b4, b5, b6, b7]))) = bdig ([b0, b1, b2, b3, b4, b5, b6, b7].map pc8) := by
  have e1 : (6148914691236517205 : Nat) = rep8 85 8 := by decide
  have e2 : (3689348814741910323 : Nat) = rep8 51 8 := by decide
  have e3 : (1085102592571150095 : Nat) = rep8 15 8 := by decide
  have hb : ∀ d, d < 256 → sw1 85 d < 256 ∧ sw2 51 (sw1 85 d) < 69 ∧ sw2 51 (sw1 85 d) % 16 < 5 := fun d hd => ⟨(byte1 ⟨d, hd⟩).1, (byte1 ⟨d, hd⟩).2.1, (byte1 ⟨d, hd⟩).2.2.1⟩
  have s1 := sw1_dig [b0, b1, b2, b3, b4, b5, b6, b7] h
  have s2 := sw2_dig ([b0, b1, b2, b3, b4, b5, b6, b7].map (sw1 85)) (fun d hd => by
    obtain ⟨x, hx, rfl⟩ := List.mem_map.1 hd
    exact (hb x (h x hx)).1)
  have s3 := sw3_dig (([b0, b1, b2, b3, b4, b5, b6, b7].map (sw1 85)).map (sw2 51)) (fun d hd => by
    obtain ⟨x, hx, rfl⟩ := List.mem_map.1 hd
    obtain ⟨y, hy, rfl⟩ := List.mem_map.1 hx
    exact (hb y (h y hy)).2)
  rw [e1, e2, e3]
  have l1 : [b0, b1, b2, b3, b4, b5, b6, b7].length = 8 := rfl
  rw [l1] at s1
  rw [s1]
  have l2 : ([b0, b1, b2, b3, b4, b5, b6, b7].map (sw1 85)).length = 8 := rfl
  rw [l2] at s2
  rw [s2]
  have l3 : (([b0, b1, b2, b3, b4, b5, b6, b7].map (sw1 85)).map (sw2 51)).length = 8 := rfl
  rw [l3] at s3
  rw [s3, List.map_map, List.map_map]
  rfl
theorem pop_dig (b0 b1 b2 b3 b4 b5 b6 b7 : Nat) (h : ∀ d ∈ [b0, b1, b2, b3, b4, b5, b6, b7], d < 256) :
    pop64 (bdig [b0, b1, b2, b3, b4, b5, b6, b7]) = pc8 b0 + pc8 b1 + pc8 b2 + pc8 b3 + pc8 b4 + pc8 b5 + pc8 b6 + pc8 b7 := by
  have hp : ∀ d ∈ [b0, b1, b2, b3, b4, b5, b6, b7], pc8 d ≤ 8 := fun d hd => (byte1 ⟨d, h d hd⟩).2.2.2
  have p0 := hp b0 (by simp)
  have p1 := hp b1 (by simp)
  have p2 := hp b2 (by simp)
  have p3 := hp b3 (by simp)
  have p4 := hp b4 (by simp)
  have p5 := hp b5 (by simp)
  have p6 := hp b6 (by simp)
  have p7 := hp b7 (by simp)
  simp only [pop64]
  rw [pop_bytes _ _ _ _ _ _ _ _ h]
  simp only [List.map_cons, List.map_nil, bdig, List.foldr_cons, List.foldr_nil]
  generalize pc8 b0 = c0 at *
  generalize pc8 b1 = c1 at *
  generalize pc8 b2 = c2 at *
  generalize pc8 b3 = c3 at *
  generalize pc8 b4 = c4 at *
  generalize pc8 b5 = c5 at *
  generalize pc8 b6 = c6 at *
  generalize pc8 b7 = c7 at *
  clear hp h
  obtain ⟨y7, e7⟩ : ∃ y, y = c7 + 256 * 0 := ⟨_, rfl⟩
  rw [← e7]
  obtain ⟨y6, e6⟩ : ∃ y, y = c6 + 256 * y7 := ⟨_, rfl⟩
  rw [← e6]
  obtain ⟨y5, e5⟩ : ∃ y, y = c5 + 256 * y6 := ⟨_, rfl⟩
  rw [← e5]
  obtain ⟨y4, e4⟩ : ∃ y, y = c4 + 256 * y5 := ⟨_, rfl⟩
  rw [← e4]
  obtain ⟨y3, e3⟩ : ∃ y, y = c3 + 256 * y4 := ⟨_, rfl⟩
  rw [← e3]
  obtain ⟨y2, e2⟩ : ∃ y, y = c2 + 256 * y3 := ⟨_, rfl⟩
  rw [← e2]
  obtain ⟨y1, e1⟩ : ∃ y, y = c1 + 256 * y2 := ⟨_, rfl⟩
  rw [← e1]
  have h1 : (c0 + 256 * y1) / 256 = y1 := by clear e1 e2 e3 e4 e5 e6 e7; omega
  rw [h1]
  have a1 : c0 + 256 * y1 + y1 = (c0 + c1 + 256 * (c1 + c2)) + 65536 * (y2 + y3) := by clear e3 e4 e5 e6 e7; omega
  rw [a1]
  have h2 : ((c0 + c1 + 256 * (c1 + c2)) + 65536 * (y2 + y3)) / 65536 = y2 + y3 := by clear h1 a1 e1 e2 e3 e4 e5 e6 e7; omega
  rw [h2]
  have a2 : (c0 + c1 + 256 * (c1 + c2)) + 65536 * (y2 + y3) + (y2 + y3) = (c0 + c1 + c2 + c3 + 256 * (c1 + c2 + c3 + c4)) + 65536 * (y2 + y3 + y4 + y5) := by clear h1 a1 h2 e1 e5 e6 e7; omega
  have a3 : y2 + y3 + y4 + y5 = (c2 + c3 + c4 + c5 + 256 * (c3 + c4 + c5 + c6)) + 65536 * (y4 + y5 + y6 + y7) := by clear h1 a1 h2 a2 e1 e7; omega
  rw [a2, a3]
  have h3 : (c0 + c1 + c2 + c3 + 256 * (c1 + c2 + c3 + c4) + 65536 * (c2 + c3 + c4 + c5 + 256 * (c3 + c4 + c5 + c6) + 65536 * (y4 + y5 + y6 + y7))) / 4294967296 = y4 + y5 + y6 + y7 := by clear h1 a1 h2 a2 a3 e1 e2 e3 e4 e5 e6 e7; omega
  rw [h3]
  clear h1 a1 h2 a2 a3 h3 e1 e2 e3
  omega

/-- The number whose bits are f's, and how many of the first n hold. -/
def bval : Nat → (Nat → Bool) → Nat
  | 0, _ => 0
  | n + 1, f => bval n f + (f n).toNat * 2 ^ n
def bcnt : Nat → (Nat → Bool) → Nat
  | 0, _ => 0
  | n + 1, f => bcnt n f + (f n).toNat
theorem bval_lt (n : Nat) (f : Nat → Bool) : bval n f < 2 ^ n := by
  induction n with
  | zero => simp [bval]
  | succ n ih =>
    rw [bval, Nat.pow_succ]
    have : (f n).toNat ≤ 1 := by cases f n <;> simp
    have h2 : (f n).toNat * 2 ^ n ≤ 1 * 2 ^ n := Nat.mul_le_mul_right _ this
    omega
theorem bval_add (a : Nat) (f : Nat → Bool) : ∀ n, bval (a + n) f = bval a f + 2 ^ a * bval n (fun i => f (a + i)) := by
  intro n
  induction n with
  | zero => simp [bval]
  | succ n ih =>
    rw [← Nat.add_assoc, bval, ih, bval, Nat.mul_add, Nat.pow_add]
    have : (f (a + n)).toNat * (2 ^ a * 2 ^ n) = 2 ^ a * ((f (a + n)).toNat * 2 ^ n) := by rw [Nat.mul_left_comm]
    omega
theorem bcnt_add (a : Nat) (f : Nat → Bool) : ∀ n, bcnt (a + n) f = bcnt a f + bcnt n (fun i => f (a + i)) := by
  intro n
  induction n with
  | zero => simp [bcnt]
  | succ n ih =>
    rw [← Nat.add_assoc, bcnt, ih, bcnt]
    omega
theorem bval_congr {f g : Nat → Bool} : ∀ {n : Nat}, (∀ i, i < n → f i = g i) → bval n f = bval n g
  | 0, _ => rfl
  | n + 1, h => by rw [bval, bval, bval_congr (n := n) (fun i hi => h i (by omega)), h n (by omega)]
theorem bcnt_congr {f g : Nat → Bool} : ∀ {n : Nat}, (∀ i, i < n → f i = g i) → bcnt n f = bcnt n g
  | 0, _ => rfl
  | n + 1, h => by rw [bcnt, bcnt, bcnt_congr (n := n) (fun i hi => h i (by omega)), h n (by omega)]
theorem bcnt_le (n : Nat) (f : Nat → Bool) : bcnt n f ≤ n := by
  induction n with
  | zero => simp [bcnt]
  | succ n ih =>
    rw [bcnt]
    have : (f n).toNat ≤ 1 := by cases f n <;> simp
    omega
theorem bcnt_none {f : Nat → Bool} : ∀ (n : Nat), (∀ i, i < n → f i = false) → bcnt n f = 0
  | 0, _ => rfl
  | n + 1, h => by rw [bcnt, bcnt_none n (fun i hi => h i (by omega)), h n (by omega)]; rfl
theorem bval_none {f : Nat → Bool} : ∀ (n : Nat), (∀ i, i < n → f i = false) → bval n f = 0
  | 0, _ => rfl
  | n + 1, h => by rw [bval, bval_none n (fun i hi => h i (by omega)), h n (by omega)]; simp
theorem pc8_cnt8 : ∀ a b c d e f g h : Bool, pc8 (a.toNat + b.toNat * 2 + c.toNat * 4 + d.toNat * 8 + e.toNat * 16 + f.toNat * 32 + g.toNat * 64 + h.toNat * 128) = a.toNat + b.toNat + c.toNat + d.toNat + e.toNat + f.toNat + g.toNat + h.toNat := by decide +kernel
theorem pc8_val (f : Nat → Bool) : pc8 (bval 8 f) = bcnt 8 f := by
  have h := pc8_cnt8 (f 0) (f 1) (f 2) (f 3) (f 4) (f 5) (f 6) (f 7)
  simp only [bval, bcnt, Nat.zero_add, Nat.reducePow, Nat.mul_one]
  exact h
theorem pop64_val (f : Nat → Bool) : pop64 (bval 64 f) = bcnt 64 f := by
  have hv : bval 64 f = bdig [bval 8 f, bval 8 (fun i => f (8 + i)), bval 8 (fun i => f (8 + (8 + i))), bval 8 (fun i => f (8 + (8 + (8 + i)))), bval 8 (fun i => f (8 + (8 + (8 + (8 + i))))), bval 8 (fun i => f (8 + (8 + (8 + (8 + (8 + i)))))), bval 8 (fun i => f (8 + (8 + (8 + (8 + (8 + (8 + i))))))), bval 8 (fun i => f (8 + (8 + (8 + (8 + (8 + (8 + (8 + i)))))))) ] := by
    rw [show (64 : Nat) = 8 + (8 + (8 + (8 + (8 + (8 + (8 + 8)))))) from rfl]
    simp only [bval_add, bdig, List.foldr_cons, List.foldr_nil]
    omega
  have hc : bcnt 64 f = bcnt 8 f + bcnt 8 (fun i => f (8 + i)) + bcnt 8 (fun i => f (8 + (8 + i))) + bcnt 8 (fun i => f (8 + (8 + (8 + i)))) + bcnt 8 (fun i => f (8 + (8 + (8 + (8 + i))))) + bcnt 8 (fun i => f (8 + (8 + (8 + (8 + (8 + i)))))) + bcnt 8 (fun i => f (8 + (8 + (8 + (8 + (8 + (8 + i))))))) + bcnt 8 (fun i => f (8 + (8 + (8 + (8 + (8 + (8 + (8 + i)))))))) := by
    rw [show (64 : Nat) = 8 + (8 + (8 + (8 + (8 + (8 + (8 + 8)))))) from rfl]
    simp only [bcnt_add]
    omega
  have h8 : ∀ g : Nat → Bool, bval 8 g < 256 := fun g => bval_lt 8 g
  rw [hv, pop_dig _ _ _ _ _ _ _ _ (by
    intro d hd
    simp only [List.mem_cons, List.not_mem_nil, or_false] at hd
    rcases hd with rfl | rfl | rfl | rfl | rfl | rfl | rfl | rfl <;> exact h8 _), hc]
  simp only [pc8_val]

/-- A word of a list's first bits. -/
def bitF (xs : List Bool) (n j k : Nat) : Bool := decide (64 * j + k < n) && xs.getD (64 * j + k) false
def bwd (xs : List Bool) (n j : Nat) : Nat := bval 64 (bitF xs n j)
theorem bwd_lt (xs : List Bool) (n j : Nat) : bwd xs n j < 18446744073709551616 := bval_lt 64 _
theorem bwd_zero (xs : List Bool) (j : Nat) : bwd xs 0 j = 0 := bval_none 64 fun i _ => by simp [bitF]
theorem bval_top {f : Nat → Bool} {k : Nat} (hk : k < 64) (h : ∀ i, k ≤ i → f i = false) : bval 64 f = bval k f := by
  have e := bval_add k f (64 - k)
  rw [show k + (64 - k) = 64 by omega, bval_none (64 - k) (fun i _ => h (k + i) (by omega))] at e
  simpa using e
theorem bwd_not (xs : List Bool) (n j : Nat) (h : xs.getD n false = false) : bwd xs (n + 1) j = bwd xs n j := by
  refine bval_congr fun i _ => ?_
  unfold bitF
  by_cases e : 64 * j + i = n
  · rw [e, h, Bool.and_false, Bool.and_false]
  · have : decide (64 * j + i < n + 1) = decide (64 * j + i < n) := by rw [decide_eq_decide]; omega
    rw [this]
theorem bwd_other (xs : List Bool) (n j : Nat) (h : j ≠ n / 64) : bwd xs (n + 1) j = bwd xs n j := by
  refine bval_congr fun i hi => ?_
  unfold bitF
  have : decide (64 * j + i < n + 1) = decide (64 * j + i < n) := by rw [decide_eq_decide]; omega
  rw [this]
theorem bwd_set (xs : List Bool) (n : Nat) (h : xs.getD n false = true) : bwd xs (n + 1) (n / 64) = bwd xs n (n / 64) ||| 2 ^ (n % 64) := by
  have hk : n % 64 < 64 := Nat.mod_lt _ (by omega)
  have e1 : bwd xs n (n / 64) = bval (n % 64) (bitF xs n (n / 64)) := bval_top hk fun i hi => by
    unfold bitF
    rw [decide_eq_false (by omega), Bool.false_and]
  have hlt : bwd xs n (n / 64) < 2 ^ (n % 64) := by rw [e1]; exact bval_lt _ _
  have e2 : bwd xs (n + 1) (n / 64) = bval (n % 64 + 1) (bitF xs (n + 1) (n / 64)) := by
    by_cases h63 : n % 64 + 1 < 64
    · exact bval_top h63 fun i hi => by
        unfold bitF
        rw [decide_eq_false (by omega), Bool.false_and]
    · rw [show n % 64 + 1 = 64 by omega]; rfl
  have e3 : bval (n % 64) (bitF xs (n + 1) (n / 64)) = bval (n % 64) (bitF xs n (n / 64)) := bval_congr fun i hi => by
    unfold bitF
    rw [decide_eq_true (by omega), decide_eq_true (by omega)]
  have e4 : bitF xs (n + 1) (n / 64) (n % 64) = true := by
    unfold bitF
    rw [show 64 * (n / 64) + n % 64 = n by omega, h, decide_eq_true (by omega)]
    rfl
  have h5 := Nat.two_pow_add_eq_or_of_lt hlt 1
  rw [Nat.mul_one, Nat.or_comm] at h5
  rw [e2, bval, e3, e4, ← e1, ← h5]
  simp
  omega
theorem bcnt_words (xs : List Bool) (n : Nat) (h : n ≤ 256) : bcnt 64 (bitF xs n 0) + bcnt 64 (bitF xs n 1) + bcnt 64 (bitF xs n 2) + bcnt 64 (bitF xs n 3) = bcnt n (fun i => xs.getD i false) := by
  have h1 : bcnt 256 (fun i => decide (i < n) && xs.getD i false) = bcnt n (fun i => xs.getD i false) := by
    rw [show (256 : Nat) = n + (256 - n) by omega, bcnt_add, bcnt_none (256 - n) (fun i _ => by rw [decide_eq_false (by omega), Bool.false_and]), Nat.add_zero]
    exact bcnt_congr fun i hi => by rw [decide_eq_true hi, Bool.true_and]
  rw [← h1, show (256 : Nat) = 64 + (64 + (64 + 64)) from rfl, bcnt_add, bcnt_add, bcnt_add]
  have q : ∀ (f g : Nat → Bool), (∀ i, f i = g i) → bcnt 64 f = bcnt 64 g := fun f g hh => bcnt_congr fun i _ => hh i
  rw [q (bitF xs n 0) (fun i => decide (i < n) && xs.getD i false) (fun i => by simp [bitF]),
    q (bitF xs n 1) (fun i => decide (64 + i < n) && xs.getD (64 + i) false) (fun i => by simp [bitF]),
    q (bitF xs n 2) (fun i => decide (64 + (64 + i) < n) && xs.getD (64 + (64 + i)) false) (fun i => by
      unfold bitF
      rw [show 64 * 2 + i = 64 + (64 + i) by omega]),
    q (bitF xs n 3) (fun i => decide (64 + (64 + (64 + i)) < n) && xs.getD (64 + (64 + (64 + i))) false) (fun i => by
      unfold bitF
      rw [show 64 * 3 + i = 64 + (64 + (64 + i)) by omega])]
  omega
end Go.Proofs.Ytaiehccpefjbfaa
