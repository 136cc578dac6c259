/-
  Pages, taken or not, as a function; the bytes that tell it, bit by bit; the least page that is free, how many are taken: plain mathematics.
-/
import Derived.Test.YtllhilnajjohiaaWords
import Derived.Lib.BitFns
import Derived.Laws.BitsAllLaws
namespace Go.Proofs.Ytllhilnajjohiaa
open Go.RowKit

/-! ### A number out of bits -/
/-- The number whose bits 0 to m - 1 are f's. -/
def low (f : Nat → Bool) : Nat → Nat
  | 0 => 0
  | m + 1 => low f m + (if f m then 2 ^ m else 0)
theorem low_lt (f : Nat → Bool) : ∀ m, low f m < 2 ^ m
  | 0 => by simp [low]
  | m + 1 => by
    have := low_lt f m
    rw [low, Nat.pow_succ]
    split <;> omega
theorem low_bit (f : Nat → Bool) : ∀ m j, (low f m).testBit j = (decide (j < m) && f j)
  | 0, j => by simp [low]
  | m + 1, j => by
    have hl := low_lt f m
    have ih := low_bit f m j
    rw [low]
    by_cases hf : f m = true
    · rw [if_pos hf, Nat.add_comm]
      rcases Nat.lt_trichotomy j m with h | h | h
      · rw [Nat.testBit_two_pow_add_gt h, ih]
        simp [h, Nat.lt_succ_of_lt h]
      · subst h
        rw [Nat.testBit_two_pow_add_eq, ih]
        simp [hf]
      · rw [Nat.testBit_lt_two_pow]
        · simp; omega
        · have : 2 ^ (m + 1) ≤ 2 ^ j := Nat.pow_le_pow_right (by omega) h
          rw [Nat.pow_succ] at this
          omega
    · rw [if_neg hf, Nat.add_zero, ih]
      by_cases h : j < m
      · simp [h, Nat.lt_succ_of_lt h]
      · by_cases h2 : j = m
        · subst h2; simp [hf]
        · have : ¬ j < m + 1 := by omega
          simp [h, this]
/-- The byte that tells pages 8 k to 8 k + 7. -/
def byteN (f : Nat → Bool) (k : Nat) : Nat := low (fun j => f (8 * k + j)) 8
theorem byteN_lt (f : Nat → Bool) (k : Nat) : byteN f k < 256 := low_lt _ 8
theorem byteN_bit (f : Nat → Bool) (k : Nat) {j : Nat} (hj : j < 8) : (byteN f k).testBit j = f (8 * k + j) := by
  unfold byteN
  rw [low_bit]
  simp [hj]
theorem byteN_eq {f : Nat → Bool} {k x : Nat} (hx : x < 256) (h : ∀ j, j < 8 → x.testBit j = f (8 * k + j)) : x = byteN f k := by
  apply Nat.eq_of_testBit_eq
  intro j
  by_cases hj : j < 8
  · rw [h j hj, byteN_bit f k hj]
  · have h1 : 2 ^ 8 ≤ 2 ^ j := Nat.pow_le_pow_right (by omega) (by omega)
    rw [Nat.testBit_lt_two_pow (by omega), Nat.testBit_lt_two_pow (by have := byteN_lt f k; omega)]
theorem byteN_congr {f g : Nat → Bool} {k : Nat} (h : ∀ j, j < 8 → f (8 * k + j) = g (8 * k + j)) : byteN f k = byteN g k :=
  byteN_eq (byteN_lt f k) fun j hj => by rw [byteN_bit f k hj, h j hj]
/-- Page i, turned. -/
def put (f : Nat → Bool) (i : Nat) (v : Bool) : Nat → Bool := fun j => if j = i then v else f j
theorem put_same (f : Nat → Bool) (i : Nat) (v : Bool) : put f i v i = v := by simp [put]
theorem put_other (f : Nat → Bool) {i j : Nat} (v : Bool) (h : j ≠ i) : put f i v j = f j := by simp [put, h]
theorem byteN_other (f : Nat → Bool) {i k : Nat} (v : Bool) (h : k ≠ i / 8) : byteN (put f i v) k = byteN f k :=
  byteN_congr fun j hj => put_other f v (by omega)

/-! ### What the program does with such bytes -/
theorem pow_lt8 {j : Nat} (hj : j < 8) : 2 ^ j < 256 := Nat.pow_lt_pow_right (by omega) hj
theorem wrap_pow {j : Nat} (hj : j < 8) : IntKind.u8.wrap ((2 : Int) ^ j) = (2 : Int) ^ j := by
  have := pow_lt8 hj
  have h2 : ((2 : Int) ^ j) = ((2 ^ j : Nat) : Int) := by simp
  rw [IntKind.wrap_u8', h2]
  generalize 2 ^ j = p at this
  omega
theorem bit_of (f : Nat → Bool) (k : Nat) {j : Nat} (hj : j < 8) : bits .and .u8 ((byteN f k : Int) / 2 ^ j) 1 = if f (8 * k + j) then 1 else 0 := by
  have h2 : ((2 : Int) ^ j) = ((2 ^ j : Nat) : Int) := by simp
  have h3 : (byteN f k : Int) / ((2 ^ j : Nat) : Int) = ((byteN f k / 2 ^ j : Nat) : Int) := by simp
  have h4 : byteN f k / 2 ^ j < 256 := Nat.lt_of_le_of_lt (Nat.div_le_self _ _) (byteN_lt f k)
  have hb := byteN_bit f k hj
  rw [h2, h3, show (1 : Int) = ((1 : Nat) : Int) from rfl, u8_and_nat _ _ h4 (by omega), nat_mask1, ← hb, Nat.testBit_eq_decide_div_mod_eq]
  rcases Nat.mod_two_eq_zero_or_one (byteN f k / 2 ^ j) with h | h <;> simp [h]
theorem bit_added (f : Nat → Bool) (k : Nat) {j : Nat} (hj : j < 8) : bits .or .u8 (byteN f k : Int) ((2 : Int) ^ j) = (byteN (put f (8 * k + j) true) k : Int) := by
  rw [show ((2 : Int) ^ j) = ((2 ^ j : Nat) : Int) by simp]
  rw [u8_or_nat _ _ (byteN_lt f k) (pow_lt8 hj)]
  congr 1
  refine byteN_eq (Nat.or_lt_two_pow (n := 8) (byteN_lt f k) (pow_lt8 hj)) fun i hi => ?_
  rw [Nat.testBit_or, byteN_bit f k hi, Nat.testBit_two_pow]
  by_cases h : i = j
  · subst h; simp [put_same]
  · rw [put_other f true (by omega)]
    simp [show j ≠ i from fun e => h e.symm]
theorem nat_compl8 (x : Nat) (h : x < 256) (j : Nat) (hj : j < 8) : (255 - x).testBit j = !x.testBit j := by
  have := Nat.testBit_two_pow_sub_succ (n := 8) (x := x) h j
  rw [show 2 ^ 8 - (x + 1) = 255 - x by omega] at this
  rw [this]
  simp [hj]
theorem bit_removed (f : Nat → Bool) (k : Nat) {j : Nat} (hj : j < 8) : bits .andNot .u8 (byteN f k : Int) ((2 : Int) ^ j) = (byteN (put f (8 * k + j) false) k : Int) := by
  rw [show ((2 : Int) ^ j) = ((2 ^ j : Nat) : Int) by simp]
  rw [u8_andNot_nat _ _ (byteN_lt f k) (pow_lt8 hj)]
  congr 1
  refine byteN_eq (Nat.lt_of_le_of_lt Nat.and_le_left (byteN_lt f k)) fun i hi => ?_
  rw [Nat.testBit_and, byteN_bit f k hi, nat_compl8 _ (pow_lt8 hj) i hi, Nat.testBit_two_pow]
  by_cases h : i = j
  · subst h; simp [put_same]
  · rw [put_other f false (by omega)]
    simp [show j ≠ i from fun e => h e.symm]
/-- Taken in one or in the other. -/
def both (f g : Nat → Bool) : Nat → Bool := fun i => f i || g i
theorem bit_both (f g : Nat → Bool) (k : Nat) : bits .or .u8 (byteN f k : Int) (byteN g k : Int) = (byteN (both f g) k : Int) := by
  rw [u8_or_nat _ _ (byteN_lt f k) (byteN_lt g k)]
  congr 1
  refine byteN_eq (Nat.or_lt_two_pow (n := 8) (byteN_lt f k) (byteN_lt g k)) fun i hi => ?_
  rw [Nat.testBit_or, byteN_bit f k hi, byteN_bit g k hi]
  rfl

theorem nat_turned8 (s : Nat) (h : s < 256) : 255 ^^^ s = 255 - s := by
  have e : BitVec.allOnes 8 ^^^ BitVec.ofNat 8 s = ~~~ BitVec.ofNat 8 s := BitVec.allOnes_xor
  have e2 := congrArg BitVec.toNat e
  rw [BitVec.toNat_xor, BitVec.toNat_not, BitVec.toNat_ofNat, Nat.mod_eq_of_lt h] at e2
  simpa using e2
theorem turned8 (s : Nat) (h : s < 256) : bits .xor .u8 IntKind.u8.max (s : Int) = ((255 - s : Nat) : Int) := by
  rw [show IntKind.u8.max = ((255 : Nat) : Int) from rfl, u8_xor_nat _ _ (by omega) h, nat_turned8 s h]
/-! ### How many -/
/-- How many of the first m. -/
def cnt (f : Nat → Bool) : Nat → Nat
  | 0 => 0
  | m + 1 => cnt f m + (if f m then 1 else 0)
theorem cnt_le (f : Nat → Bool) : ∀ m, cnt f m ≤ m
  | 0 => Nat.le_refl _
  | m + 1 => by have := cnt_le f m; rw [cnt]; split <;> omega
theorem cnt_add (f : Nat → Bool) (a : Nat) : ∀ m, cnt f (a + m) = cnt f a + cnt (fun j => f (a + j)) m
  | 0 => by simp [cnt]
  | m + 1 => by rw [← Nat.add_assoc, cnt, cnt, cnt_add f a m]; omega
theorem cnt_none {f : Nat → Bool} : ∀ {m}, (∀ i, i < m → f i = false) → cnt f m = 0
  | 0, _ => rfl
  | m + 1, h => by rw [cnt, cnt_none fun i hi => h i (by omega), h m (by omega)]; rfl
theorem cnt_to {f : Nat → Bool} {n : Nat} (h : ∀ i, n ≤ i → f i = false) {m : Nat} (hm : n ≤ m) : cnt f m = cnt f n := by
  obtain ⟨d, rfl⟩ : ∃ d, m = n + d := ⟨m - n, by omega⟩
  rw [cnt_add, cnt_none (m := d) fun i _ => h _ (by omega)]
  rfl
theorem pop_bits : ∀ n : Fin 256, Lib.onesCount n.val = cnt (fun j => n.val.testBit j) 8 := by decide +kernel
theorem cnt_congr {f g : Nat → Bool} : ∀ {m}, (∀ i, i < m → f i = g i) → cnt f m = cnt g m
  | 0, _ => rfl
  | m + 1, h => by rw [cnt, cnt, cnt_congr fun i hi => h i (by omega), h m (by omega)]
theorem pop_byte (f : Nat → Bool) (k : Nat) : cnt f (8 * (k + 1)) = cnt f (8 * k) + Lib.onesCount (byteN f k) := by
  rw [pop_bits ⟨byteN f k, byteN_lt f k⟩, Nat.mul_succ, cnt_add]
  congr 1
  exact cnt_congr fun j hj => (byteN_bit f k hj).symm
/-- How many of the first m are not. -/
def free (f : Nat → Bool) : Nat → Nat
  | 0 => 0
  | m + 1 => free f m + (if f m then 0 else 1)
theorem free_cnt (f : Nat → Bool) : ∀ m, free f m + cnt f m = m
  | 0 => rfl
  | m + 1 => by have := free_cnt f m; rw [free, cnt]; split <;> omega

/-! ### The least that is not; the greatest that is -/
theorem ntz_bits : ∀ n : Fin 256, n.val ≠ 255 → Lib.trailingZeros8 (255 - n.val) < 8 ∧ n.val.testBit (Lib.trailingZeros8 (255 - n.val)) = false ∧ ∀ i : Fin 8, i.val < Lib.trailingZeros8 (255 - n.val) → n.val.testBit i.val = true := by decide +kernel
theorem all_bits : ∀ i : Fin 8, Nat.testBit 255 i.val = true := by decide +kernel
theorem len_bits : ∀ n : Fin 256, n.val ≠ 0 → 1 ≤ Lib.bitLen n.val ∧ Lib.bitLen n.val ≤ 8 ∧ n.val.testBit (Lib.bitLen n.val - 1) = true ∧ ∀ i : Fin 8, Lib.bitLen n.val ≤ i.val → n.val.testBit i.val = false := by decide +kernel
/-- k is the least number at which f is not. -/
structure LeastNot (f : Nat → Bool) (k : Nat) : Prop where
  ahead : ∀ i, i < k → f i = true
  at_ : f k = false
theorem LeastNot.uniq {f : Nat → Bool} {k m : Nat} (h : LeastNot f k) (g : LeastNot f m) : k = m := by
  rcases Nat.lt_trichotomy k m with e | e | e
  · have := g.ahead k e; rw [h.at_] at this; cases this
  · exact e
  · have := h.ahead m e; rw [g.at_] at this; cases this
theorem least_byte {f : Nat → Bool} {k : Nat} (ha : ∀ i, i < 8 * k → f i = true) (hk : byteN f k ≠ 255) : Lib.trailingZeros8 (255 - byteN f k) < 8 ∧ LeastNot f (8 * k + Lib.trailingZeros8 (255 - byteN f k)) := by
  obtain ⟨h1, h2, h3⟩ := ntz_bits ⟨byteN f k, byteN_lt f k⟩ hk
  simp only at h1 h2 h3
  refine ⟨h1, fun i hi => ?_, ?_⟩
  · by_cases h : i < 8 * k
    · exact ha i h
    · obtain ⟨d, rfl⟩ : ∃ d, i = 8 * k + d := ⟨i - 8 * k, by omega⟩
      have := h3 ⟨d, by omega⟩ (by simp; omega)
      rw [← byteN_bit f k (by omega)]
      exact this
  · rw [← byteN_bit f k h1]; exact h2
theorem full_byte {f : Nat → Bool} {k : Nat} (hk : byteN f k = 255) : ∀ i, i < 8 → f (8 * k + i) = true := fun i hi => by
  rw [← byteN_bit f k hi, hk]; exact all_bits ⟨i, hi⟩
theorem full_more {f : Nat → Bool} {k : Nat} (ha : ∀ i, i < 8 * k → f i = true) (hk : byteN f k = 255) : ∀ i, i < 8 * (k + 1) → f i = true := fun i hi => by
  by_cases h : i < 8 * k
  · exact ha i h
  · obtain ⟨d, rfl⟩ : ∃ d, i = 8 * k + d := ⟨i - 8 * k, by omega⟩
    exact full_byte hk d (by omega)
theorem empty_byte {f : Nat → Bool} {k : Nat} (hk : byteN f k = 0) : ∀ i, i < 8 → f (8 * k + i) = false := fun i hi => by
  rw [← byteN_bit f k hi, hk]; simp
/-- m is behind the greatest number at which f is (0: there is none). -/
structure ReachTo (f : Nat → Bool) (m : Nat) : Prop where
  behind : ∀ i, m ≤ i → f i = false
  at_ : m ≠ 0 → f (m - 1) = true
theorem reach_byte {f : Nat → Bool} {k : Nat} (ha : ∀ i, 8 * (k + 1) ≤ i → f i = false) (hk : byteN f k ≠ 0) : Lib.bitLen (byteN f k) ≤ 8 ∧ ReachTo f (8 * k + Lib.bitLen (byteN f k)) := by
  obtain ⟨h1, h2, h3, h4⟩ := len_bits ⟨byteN f k, byteN_lt f k⟩ hk
  simp only at h1 h2 h3 h4
  refine ⟨h2, fun i hi => ?_, fun _ => ?_⟩
  · by_cases h : 8 * (k + 1) ≤ i
    · exact ha i h
    · obtain ⟨d, rfl⟩ : ∃ d, i = 8 * k + d := ⟨i - 8 * k, by omega⟩
      rw [← byteN_bit f k (by omega)]
      exact h4 ⟨d, by omega⟩ (by simp; omega)
  · rw [show 8 * k + Lib.bitLen (byteN f k) - 1 = 8 * k + (Lib.bitLen (byteN f k) - 1) by omega, ← byteN_bit f k (by omega)]
    exact h3

/-! ### Bytes in a row -/
/-- The bytes that tell the first 8 m pages. -/
def setB (f : Nat → Bool) (m : Nat) : List UInt8 := (List.range m).map fun k => UInt8.ofNat (byteN f k)
theorem setB_length (f : Nat → Bool) (m : Nat) : (setB f m).length = m := by simp [setB]
theorem setB_cells (f : Nat → Bool) (m : Nat) : cellsB (setB f m) = (List.range m).map fun k => Value.int .u8 (byteN f k : Int) := by
  unfold setB cellsB
  rw [List.map_map]
  refine List.map_congr_left fun k _ => ?_
  simp [UInt8.toNat_ofNat', Nat.mod_eq_of_lt (byteN_lt f k)]
theorem setB_get (f : Nat → Bool) {m k : Nat} (hk : k < m) : (cellsB (setB f m))[k]? = some (.int .u8 (byteN f k : Int)) := by
  rw [setB_cells]
  simp [hk]
theorem setB_put (f : Nat → Bool) (m i : Nat) (v : Bool) : (cellsB (setB f m)).set (i / 8) (.int .u8 (byteN (put f i v) (i / 8) : Int)) = cellsB (setB (put f i v) m) := by
  apply List.ext_getElem?
  intro k
  by_cases hk : k < m
  · by_cases h : k = i / 8
    · subst h
      rw [List.getElem?_set_self (by rw [cellsB_length, setB_length]; exact hk), setB_get _ hk]
    · rw [List.getElem?_set_ne (by omega), setB_get _ hk, setB_get _ hk, byteN_other f v h]
  · rw [List.getElem?_eq_none (by simp [cellsB_length, setB_length]; omega), List.getElem?_eq_none (by simp [cellsB_length, setB_length]; omega)]
theorem setB_congr {f g : Nat → Bool} {m : Nat} (h : ∀ i, i < 8 * m → f i = g i) : setB f m = setB g m := by
  unfold setB
  refine List.map_congr_left fun k hk => ?_
  rw [byteN_congr (f := f) (g := g) fun j hj => h _ (by have := List.mem_range.1 hk; omega)]
end Go.Proofs.Ytllhilnajjohiaa
