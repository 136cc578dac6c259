/-
  Sums of bytes, as plain numbers: the step, that it may be undone, and that texts that differ in up to four bytes in a row have unlike sums. No program is spoken of here.
-/
namespace Go.Proofs.Ytnbmcecmdokogaa

/-- One place down, and turned where the polynomial has a 1, if a 1 went out. -/
def crcStep (n : Nat) : Nat := if n % 2 = 1 then (n / 2) ^^^ 2197175160 else n / 2
/-- k places down. -/
def crcSteps : Nat → Nat → Nat
  | 0, n => n
  | k + 1, n => crcSteps k (crcStep n)
/-- One byte more. -/
def crcNext (n : Nat) (x : UInt8) : Nat := crcSteps 8 (n ^^^ x.toNat)
/-- Bytes more. -/
def crcFold (n : Nat) (l : List UInt8) : Nat := l.foldl crcNext n
/-- The sum of bytes. -/
def crcOf (l : List UInt8) : Nat := 4294967295 - crcFold 4294967295 l

theorem crcStep_lt (n : Nat) (h : n < 4294967296) : crcStep n < 4294967296 := by
  unfold crcStep
  split
  · exact Nat.xor_lt_two_pow (n := 32) (by omega) (by omega)
  · omega
theorem crcSteps_lt (k : Nat) : ∀ n : Nat, n < 4294967296 → crcSteps k n < 4294967296 := by
  induction k with
  | zero => intro n h; exact h
  | succ k ih => intro n h; exact ih _ (crcStep_lt n h)
theorem crcXor_lt (n : Nat) (x : UInt8) (h : n < 4294967296) : n ^^^ x.toNat < 4294967296 :=
  Nat.xor_lt_two_pow (n := 32) h (by have := x.toNat_lt; omega)
theorem crcNext_lt (n : Nat) (x : UInt8) (h : n < 4294967296) : crcNext n x < 4294967296 := crcSteps_lt _ _ (crcXor_lt n x h)
theorem crcFold_lt (l : List UInt8) : ∀ n : Nat, n < 4294967296 → crcFold n l < 4294967296 := by
  induction l with
  | nil => intro n h; exact h
  | cons x l ih => intro n h; exact ih _ (crcNext_lt n x h)
theorem crcFold_snoc (n : Nat) (l : List UInt8) (x : UInt8) : crcFold n (l ++ [x]) = crcNext (crcFold n l) x := by simp [crcFold]
theorem crcFold_append (n : Nat) (l m : List UInt8) : crcFold n (l ++ m) = crcFold (crcFold n l) m := by simp [crcFold]
theorem crcSteps_succ (k : Nat) : ∀ n : Nat, crcSteps (k + 1) n = crcStep (crcSteps k n) := by
  induction k with
  | zero => intro n; rfl
  | succ k ih => intro n; show crcSteps (k + 1) (crcStep n) = crcStep (crcSteps k (crcStep n)); exact ih _
theorem crcSteps_add (j : Nat) : ∀ k n : Nat, crcSteps (k + j) n = crcSteps k (crcSteps j n) := by
  induction j with
  | zero => intro k n; rfl
  | succ j ih => intro k n; exact ih k _

/-- The step of two numbers' exclusive or. -/
theorem xor_half (a b : Nat) : (a ^^^ b) / 2 = (a / 2) ^^^ (b / 2) := by
  have := @Nat.shiftRight_xor_distrib 1 a b
  simpa [Nat.shiftRight_eq_div_pow] using this
theorem xor_low (a b : Nat) : (a ^^^ b) % 2 = (a % 2 + b % 2) % 2 := by
  have e : (a ^^^ b) % 2 = (a % 2) ^^^ (b % 2) := by
    have := @Nat.xor_mod_two_pow a b 1
    simpa using this
  rw [e]
  rcases Nat.mod_two_eq_zero_or_one a with h | h <;> rcases Nat.mod_two_eq_zero_or_one b with g | g <;> rw [h, g] <;> rfl
theorem crcStep_xor (a b : Nat) : crcStep (a ^^^ b) = crcStep a ^^^ crcStep b := by
  unfold crcStep
  rw [xor_low, xor_half]
  rcases Nat.mod_two_eq_zero_or_one a with h | h <;> rcases Nat.mod_two_eq_zero_or_one b with g | g <;> rw [h, g] <;> simp
  · rw [Nat.xor_assoc]
  · rw [Nat.xor_assoc, Nat.xor_comm (b / 2), ← Nat.xor_assoc]
  · rw [Nat.xor_assoc, ← Nat.xor_assoc 2197175160, Nat.xor_comm 2197175160 (b / 2), Nat.xor_assoc (b / 2), Nat.xor_self, Nat.xor_zero]
theorem crcSteps_xor (k : Nat) : ∀ a b : Nat, crcSteps k (a ^^^ b) = crcSteps k a ^^^ crcSteps k b := by
  induction k with
  | zero => intro a b; rfl
  | succ k ih => intro a b; show crcSteps k (crcStep (a ^^^ b)) = _; rw [crcStep_xor, ih]; rfl
theorem nat_xor_zero {a b : Nat} (h : a ^^^ b = 0) : a = b := by
  have := congrArg (a ^^^ ·) h
  simp only [← Nat.xor_assoc, Nat.xor_self, Nat.zero_xor, Nat.xor_zero] at this
  exact this.symm
theorem crcStep_zero (d : Nat) (h : d < 4294967296) (hz : crcStep d = 0) : d = 0 := by
  unfold crcStep at hz
  split at hz
  · have := nat_xor_zero hz; omega
  · omega
theorem crcSteps_zero (k : Nat) : ∀ d : Nat, d < 4294967296 → crcSteps k d = 0 → d = 0 := by
  induction k with
  | zero => intro d _ h; exact h
  | succ k ih => intro d h hz; exact crcStep_zero d h (ih _ (crcStep_lt d h) hz)
theorem crcSteps_inj (k a b : Nat) (ha : a < 4294967296) (hb : b < 4294967296) (h : crcSteps k a = crcSteps k b) : a = b := by
  refine nat_xor_zero (crcSteps_zero k _ (Nat.xor_lt_two_pow (n := 32) ha hb) ?_)
  rw [crcSteps_xor, h, Nat.xor_self]
theorem crcStep_double (m : Nat) : crcStep (2 * m) = m := by unfold crcStep; rw [if_neg (by omega)]; omega
theorem crcSteps_byte (m : Nat) : crcSteps 8 (256 * m) = m := by
  have e : 256 * m = 2 * (2 * (2 * (2 * (2 * (2 * (2 * (2 * m))))))) := by omega
  rw [e]
  simp only [crcSteps, crcStep_double]

/-- Bytes as a number, the lowest first, by exclusive or. -/
def crcPack : List UInt8 → Nat
  | [] => 0
  | x :: l => x.toNat ^^^ 256 * crcPack l
theorem crcFold_pack (l : List UInt8) : ∀ n : Nat, crcFold n l = crcSteps (8 * l.length) (n ^^^ crcPack l) := by
  induction l with
  | nil => intro n; show n = n ^^^ 0; rw [Nat.xor_zero]
  | cons x l ih =>
    intro n
    show crcFold (crcNext n x) l = _
    rw [ih, List.length_cons, show 8 * (l.length + 1) = 8 * l.length + 8 by omega, crcSteps_add]
    congr 1
    show crcSteps 8 _ ^^^ crcPack l = crcSteps 8 (n ^^^ (x.toNat ^^^ 256 * crcPack l))
    rw [← Nat.xor_assoc, crcSteps_xor 8 (n ^^^ x.toNat), crcSteps_byte]
theorem crcPack_add (x : UInt8) (m : Nat) : x.toNat ^^^ 256 * m = 256 * m + x.toNat := by
  have := Nat.two_pow_add_eq_or_of_lt (i := 8) (b := x.toNat) x.toNat_lt m
  rw [show (256 : Nat) = 2 ^ 8 from rfl, this]
  apply Nat.eq_of_testBit_eq
  intro i
  rw [Nat.testBit_xor, Nat.testBit_or, Nat.testBit_two_pow_mul]
  by_cases h : i < 8
  · simp [show ¬ 8 ≤ i by omega]
  · rw [Nat.testBit_lt_two_pow (x := x.toNat) (Nat.lt_of_lt_of_le x.toNat_lt (Nat.pow_le_pow_right (by decide) (by omega)))]
    simp
theorem crcPack_lt : ∀ l : List UInt8, crcPack l < 256 ^ l.length
  | [] => by decide
  | x :: l => by
    rw [crcPack, crcPack_add, List.length_cons, Nat.pow_succ]
    have := crcPack_lt l
    have := x.toNat_lt
    omega
theorem crcPack_inj : ∀ l m : List UInt8, l.length = m.length → crcPack l = crcPack m → l = m
  | [], [], _, _ => rfl
  | [], _ :: _, h, _ => by cases h
  | _ :: _, [], h, _ => by cases h
  | x :: l, y :: m, h, e => by
    rw [crcPack, crcPack, crcPack_add, crcPack_add] at e
    have hx := x.toNat_lt
    have hy := y.toNat_lt
    have e1 : x.toNat = y.toNat := by omega
    have e2 : crcPack l = crcPack m := by omega
    rw [UInt8.toNat_inj.1 e1, crcPack_inj l m (by simpa using h) e2]
theorem crcFold_inj (l : List UInt8) (a b : Nat) (ha : a < 4294967296) (hb : b < 4294967296) (h : crcFold a l = crcFold b l) : a = b := by
  rw [crcFold_pack, crcFold_pack] at h
  have hp : crcSteps (8 * l.length) a = crcSteps (8 * l.length) b := by
    rw [crcSteps_xor, crcSteps_xor _ b] at h
    have := congrArg (· ^^^ crcSteps (8 * l.length) (crcPack l)) h
    simpa [Nat.xor_assoc] using this
  exact crcSteps_inj _ _ _ ha hb hp
theorem crcFold_four (n : Nat) (hn : n < 4294967296) (x y : List UInt8) (h : x.length = y.length) (h4 : x.length ≤ 4) (e : crcFold n x = crcFold n y) : x = y := by
  rw [crcFold_pack, crcFold_pack, ← h] at e
  have l1 := crcPack_lt x
  have l2 := crcPack_lt y
  rw [← h] at l2
  have hp : 256 ^ x.length ≤ 4294967296 := Nat.le_trans (Nat.pow_le_pow_right (by decide) h4) (by decide)
  have := crcSteps_inj _ _ _ (Nat.xor_lt_two_pow (n := 32) hn (by omega)) (Nat.xor_lt_two_pow (n := 32) hn (by omega)) e
  have e2 := congrArg (n ^^^ ·) this
  simp only [← Nat.xor_assoc, Nat.xor_self, Nat.zero_xor] at e2
  exact crcPack_inj x y h e2
/-- Texts that differ within a stretch of up to four bytes, and there, have unlike sums. -/
theorem crcOf_unlike (p x y s : List UInt8) (h : x.length = y.length) (h4 : x.length ≤ 4) (hne : x ≠ y) : crcOf (p ++ x ++ s) ≠ crcOf (p ++ y ++ s) := by
  intro e
  unfold crcOf at e
  have b1 := crcFold_lt (p ++ x ++ s) 4294967295 (by decide)
  have b2 := crcFold_lt (p ++ y ++ s) 4294967295 (by decide)
  have e2 : crcFold 4294967295 (p ++ x ++ s) = crcFold 4294967295 (p ++ y ++ s) := by omega
  rw [crcFold_append, crcFold_append, crcFold_append 4294967295 (p ++ y), crcFold_append 4294967295 p y] at e2
  have b := crcFold_lt p 4294967295 (by decide)
  exact hne (crcFold_four _ b x y h h4 (crcFold_inj s _ _ (crcFold_lt _ _ b) (crcFold_lt _ _ b) e2))
theorem crcOf_lt (l : List UInt8) : crcOf l < 4294967296 := by unfold crcOf; omega
theorem crcOf_nil : crcOf [] = 0 := by decide
theorem crcOf_123456789 : crcOf [49, 50, 51, 52, 53, 54, 55, 56, 57] = 3808858755 := by decide +kernel
/-- The document's own way to put a byte in. -/
theorem crcLow (n x : Nat) (hx : x < 256) : n - n % 256 + (n % 256 ^^^ x) = n ^^^ x := by
  have h2 : n % 256 ^^^ x < 256 := Nat.xor_lt_two_pow (n := 8) (by omega) hx
  have e1 : (n ^^^ x) % 256 = n % 256 ^^^ x := by
    have := @Nat.xor_mod_two_pow n x 8
    rw [show (2:Nat)^8 = 256 from rfl, Nat.mod_eq_of_lt hx] at this
    exact this
  have e2 : (n ^^^ x) / 256 = n / 256 := by
    have := @Nat.shiftRight_xor_distrib 8 n x
    simp only [Nat.shiftRight_eq_div_pow] at this
    rw [show (2:Nat)^8 = 256 from rfl, Nat.div_eq_of_lt hx, Nat.xor_zero] at this
    exact this
  omega
/-- The document's own exclusive or, a place more. -/
theorem xorBit (a b i : Nat) : 2 * ((a ^^^ b) / 2 ^ (i + 1)) + (a / 2 ^ i + b / 2 ^ i) % 2 = (a ^^^ b) / 2 ^ i := by
  have e : (a ^^^ b) / 2 ^ (i + 1) = (a ^^^ b) / 2 ^ i / 2 := by rw [Nat.pow_succ, Nat.div_div_eq_div_mul]
  have e2 : (a ^^^ b) / 2 ^ i = (a / 2 ^ i) ^^^ (b / 2 ^ i) := by
    have := @Nat.shiftRight_xor_distrib i a b
    simpa only [Nat.shiftRight_eq_div_pow] using this
  have := xor_low (a / 2 ^ i) (b / 2 ^ i)
  rw [e, e2]
  omega
end Go.Proofs.Ytnbmcecmdokogaa
