/-
  Contracts of the program's functions, one behind the other (texts put together, part 2).
-/
import Derived.Test.YtnmokkkbghlpbaaGreatQ1
import Derived.Laws.BitsAllLaws
import Derived.StillTailTactics
import Derived.Laws.CopyOwn
import Derived.Lib.BufferWrite
import Derived.Deep.RegionLaw
import Derived.WalkSpells
/-
  Sums of bytes, as plain numbers: the step, that it may be undone, and that texts that differ in up to four bytes in a row have unlike sums. No program is spoken of here.
-/
namespace Go.Proofs.YtnmokkkbghlpbaaGreat

/-- One place down, and turned where the polynomial has a 1, if a 1 went out. -/
def crcStep (n : Nat) : Nat := if n % 2 = 1 then (n / 2) ^^^ 2197175160 else n / 2
/-- k places down. -/
def crcSteps : Nat → Nat → Nat
  | 0, n => n
  | k + 1, n => crcSteps k (crcStep n)
/-- One byte more. -/
def crcNext (n : Nat) (x : UInt8) : Nat := crcSteps 8 (n ^^^ x.toNat)
/-- Bytes more. -/
def crcFold (n : Nat) (l : List UInt8) : Nat := l.foldl crcNext n
/-- The sum of bytes. -/
def crcOf (l : List UInt8) : Nat := 4294967295 - crcFold 4294967295 l

theorem crcStep_lt (n : Nat) (h : n < 4294967296) : crcStep n < 4294967296 := by
  unfold crcStep
  split
  · exact Nat.xor_lt_two_pow (n := 32) (by omega) (by omega)
  · omega
theorem crcSteps_lt (k : Nat) : ∀ n : Nat, n < 4294967296 → crcSteps k n < 4294967296 := by
  induction k with
  | zero => intro n h; exact h
  | succ k ih => intro n h; exact ih _ (crcStep_lt n h)
theorem crcXor_lt (n : Nat) (x : UInt8) (h : n < 4294967296) : n ^^^ x.toNat < 4294967296 :=
  Nat.xor_lt_two_pow (n := 32) h (by have := x.toNat_lt; omega)
theorem crcNext_lt (n : Nat) (x : UInt8) (h : n < 4294967296) : crcNext n x < 4294967296 := crcSteps_lt _ _ (crcXor_lt n x h)
theorem crcFold_lt (l : List UInt8) : ∀ n : Nat, n < 4294967296 → crcFold n l < 4294967296 := by
  induction l with
  | nil => intro n h; exact h
  | cons x l ih => intro n h; exact ih _ (crcNext_lt n x h)
theorem crcFold_snoc (n : Nat) (l : List UInt8) (x : UInt8) : crcFold n (l ++ [x]) = crcNext (crcFold n l) x := by simp [crcFold]
theorem crcFold_append (n : Nat) (l m : List UInt8) : crcFold n (l ++ m) = crcFold (crcFold n l) m := by simp [crcFold]
theorem crcSteps_succ (k : Nat) : ∀ n : Nat, crcSteps (k + 1) n = crcStep (crcSteps k n) := by
  induction k with
  | zero => intro n; rfl
  | succ k ih => intro n; show crcSteps (k + 1) (crcStep n) = crcStep (crcSteps k (crcStep n)); exact ih _
theorem crcSteps_add (j : Nat) : ∀ k n : Nat, crcSteps (k + j) n = crcSteps k (crcSteps j n) := by
  induction j with
  | zero => intro k n; rfl
  | succ j ih => intro k n; exact ih k _

/-- The step of two numbers' exclusive or. -/
theorem xor_half (a b : Nat) : (a ^^^ b) / 2 = (a / 2) ^^^ (b / 2) := by
  have := @Nat.shiftRight_xor_distrib 1 a b
  simpa [Nat.shiftRight_eq_div_pow] using this
theorem xor_low (a b : Nat) : (a ^^^ b) % 2 = (a % 2 + b % 2) % 2 := by
  have e : (a ^^^ b) % 2 = (a % 2) ^^^ (b % 2) := by
    have := @Nat.xor_mod_two_pow a b 1
    simpa using this
  rw [e]
  rcases Nat.mod_two_eq_zero_or_one a with h | h <;> rcases Nat.mod_two_eq_zero_or_one b with g | g <;> rw [h, g] <;> rfl
theorem crcStep_xor (a b : Nat) : crcStep (a ^^^ b) = crcStep a ^^^ crcStep b := by
  unfold crcStep
  rw [xor_low, xor_half]
  rcases Nat.mod_two_eq_zero_or_one a with h | h <;> rcases Nat.mod_two_eq_zero_or_one b with g | g <;> rw [h, g] <;> simp
  · rw [Nat.xor_assoc]
  · rw [Nat.xor_assoc, Nat.xor_comm (b / 2), ← Nat.xor_assoc]
  · rw [Nat.xor_assoc, ← Nat.xor_assoc 2197175160, Nat.xor_comm 2197175160 (b / 2), Nat.xor_assoc (b / 2), Nat.xor_self, Nat.xor_zero]
theorem crcSteps_xor (k : Nat) : ∀ a b : Nat, crcSteps k (a ^^^ b) = crcSteps k a ^^^ crcSteps k b := by
  induction k with
  | zero => intro a b; rfl
  | succ k ih => intro a b; show crcSteps k (crcStep (a ^^^ b)) = _; rw [crcStep_xor, ih]; rfl
theorem nat_xor_zero {a b : Nat} (h : a ^^^ b = 0) : a = b := by
  have := congrArg (a ^^^ ·) h
  simp only [← Nat.xor_assoc, Nat.xor_self, Nat.zero_xor, Nat.xor_zero] at this
  exact this.symm
theorem crcStep_zero (d : Nat) (h : d < 4294967296) (hz : crcStep d = 0) : d = 0 := by
  unfold crcStep at hz
  split at hz
  · have := nat_xor_zero hz; omega
  · omega
theorem crcSteps_zero (k : Nat) : ∀ d : Nat, d < 4294967296 → crcSteps k d = 0 → d = 0 := by
  induction k with
  | zero => intro d _ h; exact h
  | succ k ih => intro d h hz; exact crcStep_zero d h (ih _ (crcStep_lt d h) hz)
theorem crcSteps_inj (k a b : Nat) (ha : a < 4294967296) (hb : b < 4294967296) (h : crcSteps k a = crcSteps k b) : a = b := by
  refine nat_xor_zero (crcSteps_zero k _ (Nat.xor_lt_two_pow (n := 32) ha hb) ?_)
  rw [crcSteps_xor, h, Nat.xor_self]
theorem crcStep_double (m : Nat) : crcStep (2 * m) = m := by unfold crcStep; rw [if_neg (by omega)]; omega
theorem crcSteps_byte (m : Nat) : crcSteps 8 (256 * m) = m := by
  have e : 256 * m = 2 * (2 * (2 * (2 * (2 * (2 * (2 * (2 * m))))))) := by omega
  rw [e]
  simp only [crcSteps, crcStep_double]

/-- Bytes as a number, the lowest first, by exclusive or. -/
def crcPack : List UInt8 → Nat
  | [] => 0
  | x :: l => x.toNat ^^^ 256 * crcPack l
theorem crcFold_pack (l : List UInt8) : ∀ n : Nat, crcFold n l = crcSteps (8 * l.length) (n ^^^ crcPack l) := by
  induction l with
  | nil => intro n; show n = n ^^^ 0; rw [Nat.xor_zero]
  | cons x l ih =>
    intro n
    show crcFold (crcNext n x) l = _
    rw [ih, List.length_cons, show 8 * (l.length + 1) = 8 * l.length + 8 by omega, crcSteps_add]
    congr 1
    show crcSteps 8 _ ^^^ crcPack l = crcSteps 8 (n ^^^ (x.toNat ^^^ 256 * crcPack l))
    rw [← Nat.xor_assoc, crcSteps_xor 8 (n ^^^ x.toNat), crcSteps_byte]
theorem crcPack_add (x : UInt8) (m : Nat) : x.toNat ^^^ 256 * m = 256 * m + x.toNat := by
  have := Nat.two_pow_add_eq_or_of_lt (i := 8) (b := x.toNat) x.toNat_lt m
  rw [show (256 : Nat) = 2 ^ 8 from rfl, this]
  apply Nat.eq_of_testBit_eq
  intro i
  rw [Nat.testBit_xor, Nat.testBit_or, Nat.testBit_two_pow_mul]
  by_cases h : i < 8
  · simp [show ¬ 8 ≤ i by omega]
  · rw [Nat.testBit_lt_two_pow (x := x.toNat) (Nat.lt_of_lt_of_le x.toNat_lt (Nat.pow_le_pow_right (by decide) (by omega)))]
    simp
theorem crcPack_lt : ∀ l : List UInt8, crcPack l < 256 ^ l.length
  | [] => by decide
  | x :: l => by
    rw [crcPack, crcPack_add, List.length_cons, Nat.pow_succ]
    have := crcPack_lt l
    have := x.toNat_lt
    omega
theorem crcPack_inj : ∀ l m : List UInt8, l.length = m.length → crcPack l = crcPack m → l = m
  | [], [], _, _ => rfl
  | [], _ :: _, h, _ => by cases h
  | _ :: _, [], h, _ => by cases h
  | x :: l, y :: m, h, e => by
    rw [crcPack, crcPack, crcPack_add, crcPack_add] at e
    have hx := x.toNat_lt
    have hy := y.toNat_lt
    have e1 : x.toNat = y.toNat := by omega
    have e2 : crcPack l = crcPack m := by omega
    rw [UInt8.toNat_inj.1 e1, crcPack_inj l m (by simpa using h) e2]
theorem crcFold_inj (l : List UInt8) (a b : Nat) (ha : a < 4294967296) (hb : b < 4294967296) (h : crcFold a l = crcFold b l) : a = b := by
  rw [crcFold_pack, crcFold_pack] at h
  have hp : crcSteps (8 * l.length) a = crcSteps (8 * l.length) b := by
    rw [crcSteps_xor, crcSteps_xor _ b] at h
    have := congrArg (· ^^^ crcSteps (8 * l.length) (crcPack l)) h
    simpa [Nat.xor_assoc] using this
  exact crcSteps_inj _ _ _ ha hb hp
theorem crcFold_four (n : Nat) (hn : n < 4294967296) (x y : List UInt8) (h : x.length = y.length) (h4 : x.length ≤ 4) (e : crcFold n x = crcFold n y) : x = y := by
  rw [crcFold_pack, crcFold_pack, ← h] at e
  have l1 := crcPack_lt x
  have l2 := crcPack_lt y
  rw [← h] at l2
  have hp : 256 ^ x.length ≤ 4294967296 := Nat.le_trans (Nat.pow_le_pow_right (by decide) h4) (by decide)
  have := crcSteps_inj _ _ _ (Nat.xor_lt_two_pow (n := 32) hn (by omega)) (Nat.xor_lt_two_pow (n := 32) hn (by omega)) e
  have e2 := congrArg (n ^^^ ·) this
  simp only [← Nat.xor_assoc, Nat.xor_self, Nat.zero_xor] at e2
  exact crcPack_inj x y h e2
/-- Texts that differ within a stretch of up to four bytes, and there, have unlike sums. -/
theorem crcOf_unlike (p x y s : List UInt8) (h : x.length = y.length) (h4 : x.length ≤ 4) (hne : x ≠ y) : crcOf (p ++ x ++ s) ≠ crcOf (p ++ y ++ s) := by
  intro e
  unfold crcOf at e
  have b1 := crcFold_lt (p ++ x ++ s) 4294967295 (by decide)
  have b2 := crcFold_lt (p ++ y ++ s) 4294967295 (by decide)
  have e2 : crcFold 4294967295 (p ++ x ++ s) = crcFold 4294967295 (p ++ y ++ s) := by omega
  rw [crcFold_append, crcFold_append, crcFold_append 4294967295 (p ++ y), crcFold_append 4294967295 p y] at e2
  have b := crcFold_lt p 4294967295 (by decide)
  exact hne (crcFold_four _ b x y h h4 (crcFold_inj s _ _ (crcFold_lt _ _ b) (crcFold_lt _ _ b) e2))
theorem crcOf_lt (l : List UInt8) : crcOf l < 4294967296 := by unfold crcOf; omega
theorem crcOf_nil : crcOf [] = 0 := by decide
theorem crcOf_123456789 : crcOf [49, 50, 51, 52, 53, 54, 55, 56, 57] = 3808858755 := by decide +kernel
/-- The document's own way to put a byte in. -/
theorem crcLow (n x : Nat) (hx : x < 256) : n - n % 256 + (n % 256 ^^^ x) = n ^^^ x := by
  have h2 : n % 256 ^^^ x < 256 := Nat.xor_lt_two_pow (n := 8) (by omega) hx
  have e1 : (n ^^^ x) % 256 = n % 256 ^^^ x := by
    have := @Nat.xor_mod_two_pow n x 8
    rw [show (2:Nat)^8 = 256 from rfl, Nat.mod_eq_of_lt hx] at this
    exact this
  have e2 : (n ^^^ x) / 256 = n / 256 := by
    have := @Nat.shiftRight_xor_distrib 8 n x
    simp only [Nat.shiftRight_eq_div_pow] at this
    rw [show (2:Nat)^8 = 256 from rfl, Nat.div_eq_of_lt hx, Nat.xor_zero] at this
    exact this
  omega
/-- The document's own exclusive or, a place more. -/
theorem xorBit (a b i : Nat) : 2 * ((a ^^^ b) / 2 ^ (i + 1)) + (a / 2 ^ i + b / 2 ^ i) % 2 = (a ^^^ b) / 2 ^ i := by
  have e : (a ^^^ b) / 2 ^ (i + 1) = (a ^^^ b) / 2 ^ i / 2 := by rw [Nat.pow_succ, Nat.div_div_eq_div_mul]
  have e2 : (a ^^^ b) / 2 ^ i = (a / 2 ^ i) ^^^ (b / 2 ^ i) := by
    have := @Nat.shiftRight_xor_distrib i a b
    simpa only [Nat.shiftRight_eq_div_pow] using this
  have := xor_low (a / 2 ^ i) (b / 2 ^ i)
  rw [e, e2]
  omega
end Go.Proofs.YtnmokkkbghlpbaaGreat
/-
  A text of which up to four bytes in a row had others added to them, and its sum. No program is spoken of here.
-/
namespace Go.Proofs.YtnmokkkbghlpbaaGreat
/-- The text l with the first i of the bytes d added from place k on. -/
def bump (l d : List UInt8) (k i : Nat) : List UInt8 := l.mapIdx fun j x => if k ≤ j ∧ j < k + i then x + d.getD (j - k) 0 else x
theorem bump_length (l d : List UInt8) (k i : Nat) : (bump l d k i).length = l.length := by simp [bump]
theorem bump_zero (l d : List UInt8) (k : Nat) : bump l d k 0 = l := by
  apply List.ext_getElem
  · simp [bump]
  · intro j h1 h2
    simp [bump]
    intro h3 h4
    omega
theorem bump_at (l d : List UInt8) (k i : Nat) (h : k + i < l.length) : (bump l d k i)[k + i]'(by rw [bump_length]; exact h) = l[k + i] := by simp [bump]
theorem bump_succ (l d : List UInt8) (k i : Nat) (h : k + i < l.length) : (bump l d k i).set (k + i) (l[k + i] + d.getD i 0) = bump l d k (i + 1) := by
  apply List.ext_getElem
  · simp [bump]
  · intro j h1 h2
    rw [List.getElem_set]
    simp [bump]
    by_cases e : k + i = j
    · subst e
      simp
    · by_cases h3 : k ≤ j ∧ j < k + i
      · rw [if_neg e, if_pos h3, if_pos (by omega)]
      · rw [if_neg e, if_neg h3, if_neg (by omega)]
/-- Whether one of the first i is other than 0. -/
def someOf (d : List UInt8) : Nat → Bool
  | 0 => false
  | i + 1 => someOf d i || (d.getD i 0 != 0)
theorem someOf_false (d : List UInt8) : ∀ n : Nat, someOf d n = false → ∀ j < n, d.getD j 0 = 0
  | 0, _, j, h => by omega
  | n + 1, hs, j, h => by
    simp only [someOf, Bool.or_eq_false_iff] at hs
    by_cases e : j = n
    · subst e; simpa using hs.2
    · exact someOf_false d n hs.1 j (by omega)
theorem someOf_true (d : List UInt8) : ∀ n : Nat, someOf d n = true → ∃ j < n, d.getD j 0 ≠ 0
  | 0, h => by cases h
  | n + 1, hs => by
    simp only [someOf, Bool.or_eq_true] at hs
    rcases hs with h | h
    · obtain ⟨j, h1, h2⟩ := someOf_true d n h; exact ⟨j, by omega, h2⟩
    · exact ⟨n, by omega, by simpa using h⟩
theorem bump_same (l d : List UInt8) (k n : Nat) (h : someOf d n = false) : bump l d k n = l := by
  have h0 := someOf_false d n h
  apply List.ext_getElem
  · simp [bump]
  · intro j h1 h2
    simp only [bump, List.getElem_mapIdx]
    split
    · rw [h0 _ (by omega)]; simp
    · rfl
theorem bump_head (l d : List UInt8) (k n : Nat) : (bump l d k n).take k = l.take k := by
  apply List.ext_getElem
  · simp [bump]
  · intro j h1 h2
    simp at h2
    simp only [bump, List.getElem_take, List.getElem_mapIdx]
    rw [if_neg (by omega)]
theorem bump_tail (l d : List UInt8) (k n : Nat) : (bump l d k n).drop (k + n) = l.drop (k + n) := by
  apply List.ext_getElem
  · simp [bump]
  · intro j h1 h2
    simp only [bump, List.getElem_drop, List.getElem_mapIdx]
    rw [if_neg (by omega)]
theorem three_parts (l : List UInt8) (k n : Nat) : l = l.take k ++ (l.drop k).take n ++ l.drop (k + n) := by
  rw [List.append_assoc, ← List.drop_drop, List.take_append_drop, List.take_append_drop]
theorem bump_parts (l d : List UInt8) (k n : Nat) : bump l d k n = l.take k ++ ((bump l d k n).drop k).take n ++ l.drop (k + n) := by
  conv => lhs; rw [three_parts (bump l d k n) k n]
  rw [bump_head, bump_tail]
theorem bump_unlike (l d : List UInt8) (k n : Nat) (h : k + n ≤ l.length) (hn : n ≤ 4) (hs : someOf d n = true) : crcOf l ≠ crcOf (bump l d k n) := by
  obtain ⟨j, h1, h2⟩ := someOf_true d n hs
  have e1 := three_parts l k n
  rw [bump_parts l d k n]
  conv => lhs; rw [e1]
  refine crcOf_unlike _ _ _ _ (by simp [bump]) (by simp; omega) fun e => ?_
  have e2 := congrArg (fun m : List UInt8 => m[j]?) e
  simp only [List.getElem?_take, List.getElem?_drop, if_pos h1] at e2
  rw [List.getElem?_eq_getElem (by omega), List.getElem?_eq_getElem (by rw [bump_length]; omega)] at e2
  injection e2 with e2
  simp only [bump, List.getElem_mapIdx] at e2
  rw [if_pos (by omega), show k + j - k = j by omega] at e2
  apply h2
  have e3 := congrArg UInt8.toNat e2
  rw [UInt8.toNat_add] at e3
  have := l[k + j].toNat_lt
  have := (d.getD j 0).toNat_lt
  apply UInt8.toNat_inj.1
  show _ = 0
  omega
end Go.Proofs.YtnmokkkbghlpbaaGreat
/-
  Pages as plain lists of bytes: what a page's bytes are, what any bytes say, why they are none; there and back; that bytes spoilt are none. No program is spoken of here (be and ofBe come from the text of num, the sum from that of crc).
-/
namespace Go.Proofs.YtnmokkkbghlpbaaGreat

/-- The number that s bytes of b from a on say. -/
def fieldAt (b : List UInt8) (a s : Nat) : Nat := ofBe ((b.drop a).take s) 0
/-- The sum that a page's bytes should say. -/
def pgSum (b : List UInt8) : Nat := crcOf (b.take 20 ++ b.drop 24)
/-- All behind the Body is 0. -/
def pgTail (b : List UInt8) : Bool := (b.drop (24 + fieldAt b 6 2)).all (· == 0)
/-- Why b, read from sector no, is no page; 0 if it is one. -/
def pgErr (no : Int) (b : List UInt8) : Nat :=
  if b.length ≠ 256 then 9
  else if b.take 4 ≠ [83, 84, 78, 67] then 4
  else if fieldAt b 4 1 ≠ 1 then 12
  else if fieldAt b 20 4 ≠ pgSum b then 5
  else if fieldAt b 5 1 < 1 ∨ 4 < fieldAt b 5 1 ∨ 232 < fieldAt b 6 2 ∨ pgTail b = false then 4
  else if no < 0 ∨ 1599 < no ∨ (fieldAt b 8 4 : Int) ≠ no then 1
  else 0
/-- What follows from there being a page. -/
structure PgOk (no : Int) (b : List UInt8) : Prop where
  len : b.length = 256
  front : b.take 4 = [83, 84, 78, 67]
  ver : fieldAt b 4 1 = 1
  sum : fieldAt b 20 4 = pgSum b
  kind1 : 1 ≤ fieldAt b 5 1
  kind4 : fieldAt b 5 1 ≤ 4
  blen : fieldAt b 6 2 ≤ 232
  tail : pgTail b = true
  no0 : 0 ≤ no
  no1 : no ≤ 1599
  num : (fieldAt b 8 4 : Int) = no
theorem pgErr_ok (no : Int) (b : List UInt8) : pgErr no b = 0 ↔ PgOk no b := by
  unfold pgErr
  constructor
  · intro h
    split at h
    · cases h
    split at h
    · cases h
    split at h
    · cases h
    split at h
    · cases h
    split at h
    · cases h
    split at h
    · cases h
    rename_i h1 h2 h3 h4 h5 h6
    rw [not_or, not_or, not_or] at h5
    rw [not_or, not_or] at h6
    obtain ⟨a1, a2, a3, a4⟩ := h5
    obtain ⟨c1, c2, c3⟩ := h6
    exact ⟨Decidable.not_not.1 h1, Decidable.not_not.1 h2, Decidable.not_not.1 h3, Decidable.not_not.1 h4, by omega, by omega, by omega, by simpa using a4, by omega, by omega, Decidable.not_not.1 c3⟩
  · intro h
    rw [if_neg (by simpa using h.len), if_neg (by simpa using h.front), if_neg (by simpa using h.ver), if_neg (by simpa using h.sum), if_neg, if_neg]
    · have := h.no0; have := h.no1; have := h.num; omega
    · rw [h.tail]; have := h.kind1; have := h.kind4; have := h.blen; simp; omega

/-- The bytes of a page but those of the sum: those ahead of it, those behind. -/
def pgFront (kind len no gen : Nat) : List UInt8 := [83, 84, 78, 67] ++ (be 1 1 ++ (be 1 kind ++ (be 2 len ++ (be 4 no ++ be 8 gen))))
def pgRest (body : List UInt8) : List UInt8 := body ++ List.replicate (232 - body.length) 0
def pgBytes (kind no gen : Nat) (body : List UInt8) : List UInt8 := pgFront kind body.length no gen ++ (be 4 (crcOf (pgFront kind body.length no gen ++ pgRest body)) ++ pgRest body)
theorem pgFront_length (kind len no gen : Nat) : (pgFront kind len no gen).length = 20 := by simp [pgFront, be_length]
theorem pgRest_length (body : List UInt8) (h : body.length ≤ 232) : (pgRest body).length = 232 := by simp [pgRest]; omega
theorem pgBytes_length (kind no gen : Nat) (body : List UInt8) (h : body.length ≤ 232) : (pgBytes kind no gen body).length = 256 := by
  simp [pgBytes, pgFront_length, pgRest_length body h, be_length]

/-- Other bytes laid over l from a on. -/
def spl (l : List UInt8) (a : Nat) (m : List UInt8) : List UInt8 := l.take a ++ (m ++ l.drop (a + m.length))
theorem spl_length (l : List UInt8) (a : Nat) (m : List UInt8) (h : a + m.length ≤ l.length) : (spl l a m).length = l.length := by simp [spl]; omega
theorem spl_at (p x s m : List UInt8) (a : Nat) (h : p.length = a) (hx : x.length = m.length) : spl (p ++ (x ++ s)) a m = p ++ (m ++ s) := by
  subst h
  unfold spl
  rw [List.take_left, ← List.drop_drop, List.drop_left, ← hx, List.drop_left]
theorem replicate_split (a b : Nat) (x : UInt8) : List.replicate (a + b) x = List.replicate a x ++ List.replicate b x := (List.replicate_append_replicate).symm

/-- The bytes laid one behind the other, as the program lays them; the sum's place still 0. -/
def pgRaw (kind no gen : Nat) (body : List UInt8) : List UInt8 :=
  spl (spl (spl (spl (spl (spl (spl (List.replicate 256 0) 0 [83, 84, 78, 67]) 4 (be 1 1)) 5 (be 1 kind)) 6 (be 2 body.length)) 8 (be 4 no)) 12 (be 8 gen)) 24 body
theorem pgRaw_is (kind no gen : Nat) (body : List UInt8) (h : body.length ≤ 232) :
    pgRaw kind no gen body = pgFront kind body.length no gen ++ (List.replicate 4 0 ++ pgRest body) := by
  have e0 : (List.replicate 256 (0 : UInt8)) = [] ++ (List.replicate 4 0 ++ List.replicate 252 0) := by rw [List.nil_append, ← replicate_split]
  have e1 : (List.replicate 252 (0 : UInt8)) = List.replicate 1 0 ++ List.replicate 251 0 := by rw [← replicate_split]
  have e2 : (List.replicate 251 (0 : UInt8)) = List.replicate 1 0 ++ List.replicate 250 0 := by rw [← replicate_split]
  have e3 : (List.replicate 250 (0 : UInt8)) = List.replicate 2 0 ++ List.replicate 248 0 := by rw [← replicate_split]
  have e4 : (List.replicate 248 (0 : UInt8)) = List.replicate 4 0 ++ List.replicate 244 0 := by rw [← replicate_split]
  have e5 : (List.replicate 244 (0 : UInt8)) = List.replicate 8 0 ++ List.replicate 236 0 := by rw [← replicate_split]
  have e6 : (List.replicate 236 (0 : UInt8)) = List.replicate 4 0 ++ (List.replicate body.length 0 ++ List.replicate (232 - body.length) 0) := by
    rw [← replicate_split, ← replicate_split]; congr 1; omega
  unfold pgRaw
  rw [e0, spl_at _ _ _ _ 0 rfl (by simp), e1, List.nil_append]
  rw [spl_at _ _ _ _ 4 rfl (by simp [be_length]), e2, ← List.append_assoc]
  rw [spl_at _ _ _ _ 5 (by simp [be_length]) (by simp [be_length]), e3, ← List.append_assoc]
  rw [spl_at _ _ _ _ 6 (by simp [be_length]) (by simp [be_length]), e4, ← List.append_assoc]
  rw [spl_at _ _ _ _ 8 (by simp [be_length]) (by simp [be_length]), e5, ← List.append_assoc]
  rw [spl_at _ _ _ _ 12 (by simp [be_length]) (by simp [be_length]), e6, ← List.append_assoc, ← List.append_assoc]
  rw [spl_at _ _ _ _ 24 (by simp [be_length]) (by simp)]
  simp [pgFront, pgRest, List.append_assoc]
theorem pgSum_of (p x r : List UInt8) (hp : p.length = 20) (hx : x.length = 4) : pgSum (p ++ (x ++ r)) = crcOf (p ++ r) := by
  unfold pgSum
  have e1 : (p ++ (x ++ r)).take 20 = p := by rw [← hp, List.take_left]
  have e2 : (p ++ (x ++ r)).drop 24 = r := by
    rw [show (24 : Nat) = p.length + x.length by omega, ← List.drop_drop, List.drop_left, List.drop_left]
  rw [e1, e2]
theorem pgRaw_sum (kind no gen : Nat) (body : List UInt8) (h : body.length ≤ 232) :
    spl (pgRaw kind no gen body) 20 (be 4 (pgSum (pgRaw kind no gen body))) = pgBytes kind no gen body := by
  rw [pgRaw_is kind no gen body h, pgSum_of _ _ _ (pgFront_length ..) (by simp), spl_at _ _ _ _ 20 (pgFront_length ..) (by simp [be_length])]
  rfl

/-- A field of bytes that are known. -/
theorem fieldAt_be (p r : List UInt8) (s n a : Nat) (h : p.length = a) : fieldAt (p ++ (be s n ++ r)) a s = n % 256 ^ s := by
  subst h
  unfold fieldAt
  rw [List.drop_left, List.take_left' (be_length s n), ofBe_be]
  simp
theorem field_of {b : List UInt8} (p r : List UInt8) (s n a : Nat) (he : b = p ++ (be s n ++ r)) (h : p.length = a) (hn : n < 256 ^ s) : fieldAt b a s = n := by
  rw [he, fieldAt_be p r s n a h, Nat.mod_eq_of_lt hn]
section
variable (kind no gen : Nat) (body : List UInt8)
theorem pgBytes_ver : fieldAt (pgBytes kind no gen body) 4 1 = 1 :=
  field_of [83, 84, 78, 67] ((be 1 kind ++ (be 2 body.length ++ (be 4 no ++ be 8 gen))) ++ (be 4 (crcOf (pgFront kind body.length no gen ++ pgRest body)) ++ pgRest body)) 1 1 4 (by simp [pgBytes, pgFront, List.append_assoc]) rfl (by omega)
theorem pgBytes_kind (hk4 : kind ≤ 4) : fieldAt (pgBytes kind no gen body) 5 1 = kind :=
  field_of ([83, 84, 78, 67] ++ be 1 1) ((be 2 body.length ++ (be 4 no ++ be 8 gen)) ++ (be 4 (crcOf (pgFront kind body.length no gen ++ pgRest body)) ++ pgRest body)) 1 kind 5 (by simp [pgBytes, pgFront, List.append_assoc]) rfl (by omega)
theorem pgBytes_len (h : body.length ≤ 232) : fieldAt (pgBytes kind no gen body) 6 2 = body.length :=
  field_of ([83, 84, 78, 67] ++ (be 1 1 ++ be 1 kind)) ((be 4 no ++ be 8 gen) ++ (be 4 (crcOf (pgFront kind body.length no gen ++ pgRest body)) ++ pgRest body)) 2 body.length 6 (by simp [pgBytes, pgFront, List.append_assoc]) (by simp [be_length]) (by omega)
theorem pgBytes_num (hno : no ≤ 1599) : fieldAt (pgBytes kind no gen body) 8 4 = no :=
  field_of ([83, 84, 78, 67] ++ (be 1 1 ++ (be 1 kind ++ be 2 body.length))) (be 8 gen ++ (be 4 (crcOf (pgFront kind body.length no gen ++ pgRest body)) ++ pgRest body)) 4 no 8 (by simp [pgBytes, pgFront, List.append_assoc]) (by simp [be_length]) (by omega)
theorem pgBytes_gen (hg : gen < 18446744073709551616) : fieldAt (pgBytes kind no gen body) 12 8 = gen :=
  field_of ([83, 84, 78, 67] ++ (be 1 1 ++ (be 1 kind ++ (be 2 body.length ++ be 4 no)))) (be 4 (crcOf (pgFront kind body.length no gen ++ pgRest body)) ++ pgRest body) 8 gen 12 (by simp [pgBytes, pgFront, List.append_assoc]) (by simp [be_length]) (by omega)
theorem pgBytes_sum : fieldAt (pgBytes kind no gen body) 20 4 = crcOf (pgFront kind body.length no gen ++ pgRest body) :=
  field_of (pgFront kind body.length no gen) (pgRest body) 4 _ 20 rfl (pgFront_length ..) (by have := crcOf_lt (pgFront kind body.length no gen ++ pgRest body); omega)
end
theorem pgBytes_behind (kind no gen : Nat) (body : List UInt8) : (pgBytes kind no gen body).drop 24 = pgRest body := by
  unfold pgBytes
  rw [show 24 = (pgFront kind body.length no gen).length + (be 4 (crcOf (pgFront kind body.length no gen ++ pgRest body))).length by rw [pgFront_length, be_length]]
  rw [← List.drop_drop, List.drop_left, List.drop_left]
theorem pgBytes_ok (kind no gen : Nat) (body : List UInt8) (h : body.length ≤ 232) (hk1 : 1 ≤ kind) (hk4 : kind ≤ 4) (hno : no ≤ 1599) : PgOk (no : Int) (pgBytes kind no gen body) := by
  have hs := pgSum_of (pgFront kind body.length no gen) (be 4 (crcOf (pgFront kind body.length no gen ++ pgRest body))) (pgRest body) (pgFront_length ..) (be_length ..)
  have f6 := pgBytes_len kind no gen body h
  have f5 := pgBytes_kind kind no gen body hk4
  have f8 := pgBytes_num kind no gen body hno
  refine ⟨pgBytes_length kind no gen body h, ?_, pgBytes_ver kind no gen body, ?_, by omega, by omega, by omega, ?_, by omega, by omega, by omega⟩
  · simp [pgBytes, pgFront]
  · rw [pgBytes_sum]; exact hs.symm
  · unfold pgTail
    rw [f6, ← List.drop_drop, pgBytes_behind]
    unfold pgRest
    rw [List.drop_left]
    simp
/-- The Body that bytes say. -/
def pgBody (b : List UInt8) : List UInt8 := (b.drop 24).take (fieldAt b 6 2)
theorem pgBytes_body (kind no gen : Nat) (body : List UInt8) (h : body.length ≤ 232) : pgBody (pgBytes kind no gen body) = body := by
  unfold pgBody
  rw [pgBytes_len kind no gen body h, pgBytes_behind]
  unfold pgRest
  rw [List.take_left]

/-- Bytes come back from the number that they say. -/
theorem be_ofBe : ∀ (k : Nat) (l : List UInt8) (m : Nat), l.length = k → be k (ofBe l m) = l
  | 0, l, m, h => by rw [List.eq_nil_of_length_eq_zero h]; rfl
  | k + 1, l, m, h => by
    have hne : l ≠ [] := by intro e; rw [e] at h; cases h
    obtain ⟨l', x, rfl⟩ : ∃ l' x, l = l' ++ [x] := ⟨l.dropLast, l.getLast hne, (List.dropLast_concat_getLast hne).symm⟩
    have hl : l'.length = k := by simpa using h
    have hx := x.toNat_lt
    rw [be, ofBe_snoc, show (ofBe l' m * 256 + x.toNat) / 256 = ofBe l' m by omega, be_ofBe k l' m hl]
    congr 2
    apply UInt8.toNat_inj.1
    rw [UInt8.toNat_ofNat']
    omega
theorem be_fieldAt (b : List UInt8) (a s : Nat) (h : a + s ≤ b.length) : be s (fieldAt b a s) = (b.drop a).take s := be_ofBe _ _ _ (by simp; omega)
theorem cut_off (b : List UInt8) (a s : Nat) : b.drop a = (b.drop a).take s ++ b.drop (a + s) := by
  rw [← List.drop_drop]; exact (List.take_append_drop s (b.drop a)).symm
/-- Bytes that are a page are just that page's. -/
theorem pg_back {no : Int} {b : List UInt8} (h : PgOk no b) : pgBytes (fieldAt b 5 1) no.toNat (fieldAt b 12 8) (pgBody b) = b := by
  have hl := h.len
  have hb := h.blen
  have hbl : (pgBody b).length = fieldAt b 6 2 := by unfold pgBody; simp; omega
  have hno : no.toNat = fieldAt b 8 4 := by have := h.num; omega
  have hfront : pgFront (fieldAt b 5 1) (pgBody b).length no.toNat (fieldAt b 12 8) = b.take 20 := by
    rw [hbl, hno]
    unfold pgFront
    rw [be_fieldAt b 5 1 (by omega), be_fieldAt b 6 2 (by omega), be_fieldAt b 8 4 (by omega), be_fieldAt b 12 8 (by omega)]
    have e1 : be 1 1 = (b.drop 4).take 1 := by rw [← be_fieldAt b 4 1 (by omega), h.ver]
    rw [e1, ← h.front]
    have e : b.take 20 = b.take 4 ++ (b.drop 4).take 16 := by rw [← List.take_add]
    rw [e]
    congr 1
    have e2 : (b.drop 4).take 16 = (b.drop 4).take 1 ++ (b.drop 5).take 15 := by
      rw [show 16 = 1 + 15 from rfl, List.take_add, List.drop_drop]
    have e3 : (b.drop 5).take 15 = (b.drop 5).take 1 ++ (b.drop 6).take 14 := by
      rw [show 15 = 1 + 14 from rfl, List.take_add, List.drop_drop]
    have e4 : (b.drop 6).take 14 = (b.drop 6).take 2 ++ (b.drop 8).take 12 := by
      rw [show 14 = 2 + 12 from rfl, List.take_add, List.drop_drop]
    have e5 : (b.drop 8).take 12 = (b.drop 8).take 4 ++ (b.drop 12).take 8 := by
      rw [show 12 = 4 + 8 from rfl, List.take_add, List.drop_drop]
    rw [e2, e3, e4, e5]
  have hrest : pgRest (pgBody b) = b.drop 24 := by
    unfold pgRest
    rw [hbl]
    have et : b.drop (24 + fieldAt b 6 2) = List.replicate (232 - fieldAt b 6 2) 0 := by
      rw [List.eq_replicate_iff]
      refine ⟨by simp; omega, fun x hx => ?_⟩
      have := List.all_eq_true.1 h.tail x hx
      simpa using this
    rw [← et]
    exact (cut_off b 24 (fieldAt b 6 2)).symm
  unfold pgBytes
  rw [hfront, hrest]
  have hs : be 4 (crcOf (b.take 20 ++ b.drop 24)) = (b.drop 20).take 4 := by
    rw [← be_fieldAt b 20 4 (by omega), h.sum]; rfl
  rw [hs, ← cut_off b 20 4, List.take_append_drop]

/-- How many of four bytes from k on are all of the sum, or all none of it, and there. -/
def pgLim (k : Nat) : Nat := if k < 20 then 20 - k else if k < 24 then 24 - k else 256 - k
theorem pg_spoilt (no : Int) (b d : List UInt8) (k r : Nat) (h : PgOk no b) (hr : r ≤ 4) (hk : k < 256) (hl : r ≤ pgLim k) (hs : someOf d r = true) : pgErr no (bump b d k r) ≠ 0 := by
  intro hz
  have hc := (pgErr_ok _ _).1 hz
  have hlen := h.len
  have hkr : k + r ≤ b.length := by unfold pgLim at hl; split at hl <;> (try split at hl) <;> omega
  have hne : bump b d k r ≠ b := by
    intro e
    exact bump_unlike b d k r hkr hr hs (by rw [e])
  unfold pgLim at hl
  by_cases h20 : k < 20
  · rw [if_pos h20] at hl
    have ed : (bump b d k r).drop 20 = b.drop 20 := by
      have := bump_tail b d k r
      have e2 := congrArg (List.drop (20 - (k + r))) this
      rw [List.drop_drop, List.drop_drop, show k + r + (20 - (k + r)) = 20 by omega] at e2
      exact e2
    have e24 : (bump b d k r).drop 24 = b.drop 24 := by
      have e2 := congrArg (List.drop 4) ed
      rwa [List.drop_drop, List.drop_drop] at e2
    have hf : fieldAt (bump b d k r) 20 4 = fieldAt b 20 4 := by unfold fieldAt; rw [ed]
    have hsum : pgSum (bump b d k r) = pgSum b := by rw [← hc.sum, hf, h.sum]
    have eb : (bump b d k r).take 20 ++ b.drop 24 = bump (b.take 20 ++ b.drop 24) d k r := by
      apply List.ext_getElem
      · simp [bump]
      · intro j h1 h2
        simp only [bump, List.getElem_mapIdx, List.getElem_append, List.getElem_take, List.length_take, List.length_mapIdx]
        by_cases hj : j < min 20 b.length
        · simp only [hj, dif_pos]
        · simp only [hj, dif_neg, not_false_iff]
          rw [if_neg (by omega)]
    unfold pgSum at hsum
    rw [e24, eb] at hsum
    exact bump_unlike (b.take 20 ++ b.drop 24) d k r (by simp; omega) hr hs hsum.symm
  · rw [if_neg h20] at hl
    by_cases h24 : k < 24
    · rw [if_pos h24] at hl
      have ed : (bump b d k r).drop 24 = b.drop 24 := by
        have := bump_tail b d k r
        have e2 := congrArg (List.drop (24 - (k + r))) this
        rw [List.drop_drop, List.drop_drop, show k + r + (24 - (k + r)) = 24 by omega] at e2
        exact e2
      have et : (bump b d k r).take 20 = b.take 20 := by
        have e2 := congrArg (List.take 20) (bump_head b d k r)
        rw [List.take_take, List.take_take, Nat.min_eq_left (by omega)] at e2
        exact e2
      have hsum : pgSum (bump b d k r) = pgSum b := by unfold pgSum; rw [ed, et]
      have hf : fieldAt (bump b d k r) 20 4 = fieldAt b 20 4 := by rw [hc.sum, hsum, h.sum]
      have e4 : ((bump b d k r).drop 20).take 4 = (b.drop 20).take 4 := by
        rw [← be_fieldAt b 20 4 (by omega), ← be_fieldAt (bump b d k r) 20 4 (by rw [bump_length]; omega), hf]
      apply hne
      have a1 := List.take_append_drop 20 (bump b d k r)
      have a2 := List.take_append_drop 20 b
      rw [et, cut_off (bump b d k r) 20 4, e4, ed, ← cut_off b 20 4, a2] at a1
      exact a1.symm
    · rw [if_neg h24] at hl
      have et : (bump b d k r).take 24 = b.take 24 := by
        have e2 := congrArg (List.take 24) (bump_head b d k r)
        rw [List.take_take, List.take_take, Nat.min_eq_left (by omega)] at e2
        exact e2
      have e20 : (bump b d k r).take 20 = b.take 20 := by
        have e2 := congrArg (List.take 20) et
        rwa [List.take_take, List.take_take, Nat.min_eq_left (by omega)] at e2
      have hf : fieldAt (bump b d k r) 20 4 = fieldAt b 20 4 := by
        unfold fieldAt
        have e2 := congrArg (List.drop 20) et
        rw [List.drop_take, List.drop_take] at e2
        rw [e2]
      have hsum : pgSum (bump b d k r) = pgSum b := by rw [← hc.sum, hf, h.sum]
      have eb : b.take 20 ++ (bump b d k r).drop 24 = bump (b.take 20 ++ b.drop 24) d (k - 4) r := by
        apply List.ext_getElem
        · simp [bump]
        · intro j h1 h2
          simp only [bump, List.getElem_mapIdx, List.getElem_append, List.getElem_take, List.length_take, List.getElem_drop]
          by_cases hj : j < min 20 b.length
          · simp only [hj, dif_pos]
            rw [if_neg (by omega)]
          · simp only [hj, dif_neg, not_false_iff]
            by_cases hin : k - 4 ≤ j ∧ j < k - 4 + r
            · rw [if_pos (by omega), if_pos hin, show 24 + (j - min 20 b.length) - k = j - (k - 4) by omega]
            · rw [if_neg (by omega), if_neg hin]
      unfold pgSum at hsum
      rw [e20, eb] at hsum
      exact bump_unlike (b.take 20 ++ b.drop 24) d (k - 4) r (by simp; omega) hr hs hsum.symm
end Go.Proofs.YtnmokkkbghlpbaaGreat
/-
  The functions next and Parts of package crc, by contracts: what each returns, and that they leave all as it was.
-/
namespace Go.Proofs.YtnmokkkbghlpbaaGreat
open Go.RowKit
theorem crcStep_odd (s : Nat) (h : s < 4294967296) (ho : s % 2 = 1) : bits .xor .u32 ((s : Int) / 2) 2197175160 = (crcStep s : Nat) := by
  have e : (s : Int) / 2 = ((s / 2 : Nat) : Int) := by omega
  rw [e, show (2197175160 : Int) = ((2197175160 : Nat) : Int) from rfl, u32_xor_nat _ _ (by omega) (by omega)]
  unfold crcStep
  rw [if_pos ho]
theorem crcStep_even (s : Nat) (ho : s % 2 = 0) : (s : Int) / 2 = (crcStep s : Nat) := by
  unfold crcStep
  rw [if_neg (by omega)]
  omega
theorem crcLow_bit (s : Nat) (h : s < 4294967296) : bits .and .u32 (s : Int) 1 = ((s % 2 : Nat) : Int) := by
  rw [show (1 : Int) = ((1 : Nat) : Int) from rfl, u32_and_nat _ _ h (by omega), nat_mask1]
set_option maxRecDepth 100000 in
set_option maxHeartbeats 400000 in
theorem crcNext_any (n : Nat) (x : UInt8) (w : World) (hn : n < 4294967296) :
    Calls Tryz.prog 177 #[.int .u32 n, .int .u8 (x.toNat : Int)] w fun e w' => e = .returned (.int .u32 (crcNext n x : Nat)) ∧ w = w' := by
  have hx := x.toNat_lt
  have hx1 : (x.toNat : Int) < 256 := by omega
  have hm := crcXor_lt n x hn
  have e0 := u32_xor_nat n x.toNat hn (by omega)
  obtain ⟨m, em⟩ : ∃ m, m = n ^^^ x.toNat := ⟨_, rfl⟩
  rw [← em] at hm e0
  have Em := Lib.hid em
  have E0 := Lib.hid e0
  clear em e0 hx
  have Hm := Kept.mk hm
  clear hm
  go_enter Tryz.func177, Tryz.ntmps177
  go_wp2_with fail
  go_loop [0, 10] (fun sv i => ∃ k s : Nat, k ≤ 8 ∧ i = .int .i64 k ∧ sv = .int .u32 (s : Int) ∧ s = crcSteps k m) (fun _ i => 8 - (intOf i).toNat)
  case atStart => exact ⟨0, m, Nat.zero_le _, rfl, by rw [E0.out], rfl⟩
  case round =>
    obtain ⟨k, s, hk, rfl, rfl, hs⟩ := hrel
    clear hx1
    have hlt : s < 4294967296 := by rw [hs]; exact crcSteps_lt k m Hm.out
    have Hs := Lib.hid hs
    have hb := crcLow_bit s hlt
    clear hs
    by_cases hk8 : k < 8
    · rcases Nat.mod_two_eq_zero_or_one s with ho | ho
      · have hstep := Lib.hid (crcStep_even s ho)
        rw [ho] at hb
        have Hlt := Kept.mk hlt
        clear ho hlt
        go_wp2_with fail
        go_round
        case rel => exact ⟨k + 1, crcStep s, by omega, by go_num, by rw [hstep.out], by rw [crcSteps_succ, ← Hs.out]⟩
        case measure => simp [intOf]; omega
      · have hstep := Lib.hid (crcStep_odd s hlt ho)
        rw [ho] at hb
        have Hlt := Kept.mk hlt
        clear ho hlt
        go_wp2_with fail
        go_round
        case rel => exact ⟨k + 1, crcStep s, by omega, by go_num, by rw [hstep.out], by rw [crcSteps_succ, ← Hs.out]⟩
        case measure => simp [intOf]; omega
    · have : k = 8 := by omega
      subst this
      go_wp2_with fail
      go_ret
      refine ⟨?_, rfl⟩
      rw [Hs.out, Em.out]
      rfl

theorem crcNot_all (s : Nat) (h : s < 4294967296) : 4294967295 ^^^ s = 4294967295 - s := by
  have e : BitVec.allOnes 32 ^^^ BitVec.ofNat 32 s = ~~~ BitVec.ofNat 32 s := BitVec.allOnes_xor
  have e2 := congrArg BitVec.toNat e
  rw [BitVec.toNat_xor, BitVec.toNat_not, BitVec.toNat_ofNat, Nat.mod_eq_of_lt h] at e2
  simpa using e2
theorem crcTurned_all (s : Nat) (h : s < 4294967296) : bits .xor .u32 IntKind.u32.max (s : Int) = ((4294967295 - s : Nat) : Int) := by
  rw [show IntKind.u32.max = ((4294967295 : Nat) : Int) from rfl, u32_xor_nat _ _ (by omega) h, crcNot_all s h]
set_option maxRecDepth 100000 in
set_option maxHeartbeats 400000 in
theorem crcParts_any (A : Option Addr) (n c : Nat) (ls : List (List UInt8)) (w : World) (B : Nat) (hr : RdAll w B (.slice A n c) ls) :
    Calls Tryz.prog 142 #[.slice A n c] w fun e w' => e = .returned (.int .u32 (crcOf ls.flatten : Nat)) ∧ w = w' := by
  obtain ⟨hl, hnc, hcm⟩ := hr.len
  have Hl := Lib.hid hl
  clear hl
  go_enter Tryz.func142, Tryz.ntmps142
  go_wp2_with fail
  go_loop [3, 10] (fun sv i => ∃ k s : Nat, k ≤ n ∧ i = .int .i64 k ∧ sv = .int .u32 (s : Int) ∧ s = crcFold 4294967295 (upTo ls k)) (fun _ i => n - (intOf i).toNat)
  case atStart => exact ⟨0, 4294967295, Nat.zero_le _, rfl, rfl, by rw [upTo_zero]; rfl⟩
  case round =>
    obtain ⟨k, s, hk, rfl, rfl, hs⟩ := hrel
    have hlt : s < 4294967296 := by rw [hs]; exact crcFold_lt _ _ (by omega)
    have Hs := Lib.hid hs
    clear hs
    have Hlt := Kept.mk hlt
    clear hlt
    by_cases hkn : k < n
    · obtain ⟨b, o, A', c', hkl, rfl, hb, hc, hp⟩ := hr.at_ hkn
      obtain ⟨l, el⟩ : ∃ l, l = ls[k] := ⟨_, rfl⟩
      have hsucc := upTo_succ ls k hkl
      rw [← el] at hc hp hsucc
      have El := Lib.hid el
      have Hsucc := Lib.hid hsucc
      clear el hsucc
      obtain ⟨_, _, e, g1, g2, _⟩ := hp.bytes
      injection e with e1 e2 e3
      subst e3
      clear e1 e2
      go_wp2_with fail
      go_loop [3, 16] (fun sv i => ∃ j t : Nat, j ≤ l.length ∧ i = .int .i64 j ∧ sv = .int .u32 (t : Int) ∧ t = crcFold s (l.take j)) (fun _ i => l.length - (intOf i).toNat)
      case atStart => exact ⟨0, s, Nat.zero_le _, rfl, rfl, rfl⟩
      case round =>
        obtain ⟨j, t, hj, rfl, rfl, ht⟩ := hrel
        have htl : t < 4294967296 := by rw [ht]; exact crcFold_lt _ _ Hlt.out
        have Ht := Lib.hid ht
        have Htl := Kept.mk htl
        clear ht htl
        by_cases hjl : j < l.length
        · obtain ⟨b2, o2, rfl, hb2, hc2⟩ := hp.addr (by omega)
          have hcell := hc2 j hjl
          obtain ⟨x, hx⟩ : ∃ x, x = l[j] := ⟨_, rfl⟩
          have hsn : l.take (j + 1) = l.take j ++ [x] := by rw [hx]; exact List.take_succ_eq_append_getElem hjl
          rw [← hx] at hcell
          have Hsn := Lib.hid hsn
          clear hx hsn hc2
          go_wp2_with (go_at_call 177; refine (crcNext_any t x _ Htl.out).mono ?_; rintro e w' ⟨rfl, rfl⟩)
          go_round
          case rel => exact ⟨j + 1, crcNext t x, by omega, by go_num, rfl, by rw [Hsn.out, crcFold_snoc, ← Ht.out]⟩
          case measure => simp [intOf]; omega
        · have : j = l.length := by omega
          subst this
          go_wp2_with fail
          go_round
          case rel => exact ⟨k + 1, t, by omega, by go_num, rfl, by rw [Hsucc.out, crcFold_append, ← Hs.out, Ht.out, List.take_length]⟩
          case measure => simp [intOf]; omega
    · have : k = n := by omega
      subst this
      go_wp2_with fail
      go_ret
      refine ⟨?_, rfl⟩
      show Ending.returned (.int .u32 (bits .xor .u32 IntKind.u32.max (s : Int))) = _
      rw [crcTurned_all s Hlt.out, Hs.out]
      have e := upTo_all ls
      rw [← Hl.out] at e
      rw [e]
      rfl

end Go.Proofs.YtnmokkkbghlpbaaGreat
/-
  The small functions of package page, by contracts: which numbers and kinds may be, a field read, the sum, a field laid.
-/
namespace Go.Proofs.YtnmokkkbghlpbaaGreat
open Go.RowKit

set_option maxRecDepth 100000 in
set_option maxHeartbeats 400000 in
theorem pgNum_yes (n : Int) (w : World) (h1 : 0 ≤ n) (h2 : n ≤ 1599) : Calls Tryz.prog 116 #[.int .i64 n] w fun e w' => e = .returned (.bool true) ∧ w = w' := by
  have hb : n < 1600 := by omega
  go_enter Tryz.func116, Tryz.ntmps116
  go_wp2
  go_ret
  exact ⟨rfl, rfl⟩
set_option maxRecDepth 100000 in
set_option maxHeartbeats 400000 in
theorem pgNum_no (n : Int) (w : World) (h : n < 0 ∨ 1599 < n) : Calls Tryz.prog 116 #[.int .i64 n] w fun e w' => e = .returned (.bool false) ∧ w = w' := by
  rcases h with h | h
  · have hb : decide (0 ≤ n) = false := by simp; omega
    go_enter Tryz.func116, Tryz.ntmps116
    go_wp2
    go_ret
    exact ⟨rfl, rfl⟩
  · have hb : decide (n < 1600) = false := by simp; omega
    go_enter Tryz.func116, Tryz.ntmps116
    go_wp2
    go_ret
    exact ⟨rfl, rfl⟩
set_option maxRecDepth 100000 in
set_option maxHeartbeats 400000 in
theorem pgKind_yes (n : Int) (w : World) (h1 : 1 ≤ n) (h2 : n ≤ 4) : Calls Tryz.prog 115 #[.int .i64 n] w fun e w' => e = .returned (.bool true) ∧ w = w' := by
  go_enter Tryz.func115, Tryz.ntmps115
  go_wp2
  go_ret
  exact ⟨rfl, rfl⟩
set_option maxRecDepth 100000 in
set_option maxHeartbeats 400000 in
theorem pgKind_no (n : Int) (w : World) (h : n < 1 ∨ 4 < n) : Calls Tryz.prog 115 #[.int .i64 n] w fun e w' => e = .returned (.bool false) ∧ w = w' := by
  rcases h with h | h
  · have hb : decide (1 ≤ n) = false := by simp; omega
    go_enter Tryz.func115, Tryz.ntmps115
    go_wp2
    go_ret
    exact ⟨rfl, rfl⟩
  · have hb : decide (n ≤ 4) = false := by simp; omega
    go_enter Tryz.func115, Tryz.ntmps115
    go_wp2
    go_ret
    exact ⟨rfl, rfl⟩

set_option maxRecDepth 100000 in
set_option maxHeartbeats 400000 in
theorem pgGet_any (A : Option Addr) (c : Nat) (l : List UInt8) (a s : Nat) (w : World) (B : Nat) (hr : Rd w B (.slice A l.length c) (cellsB l)) (h1 : 1 ≤ s) (h2 : s ≤ 8) (h3 : a + s ≤ l.length) :
    Calls Tryz.prog 112 #[.slice A l.length c, .int .i64 (a : Int), .int .i64 (s : Int)] w fun e w' => e = .returned (.int .u64 (fieldAt l a s : Nat)) ∧ w = w' := by
  go_enter Tryz.func112, Tryz.ntmps112
  go_wp2_with (go_at_call 141; refine (get_yes A c l a s _ B hr h1 h2 h3).mono ?_; rintro e w' ⟨rfl, rfl⟩)
  go_ret
  exact ⟨rfl, rfl⟩

set_option maxRecDepth 100000 in
set_option maxHeartbeats 1000000 in
theorem pgSum_any (A : Option Addr) (c : Nat) (l : List UInt8) (w : World) (B : Nat) (hr : Rd w B (.slice A l.length c) (cellsB l)) (hB : B ≤ w.heap.size) (hl : l.length = 256) :
    Calls Tryz.prog 113 #[.slice A l.length c] w fun e w' => e = .returned (.int .u64 (pgSum l : Nat)) ∧ Below w.heap.size w w' := by
  obtain ⟨_, _, e, g1, g2, _⟩ := hr.bytes
  injection e with e1 e2 e3
  subst e3
  clear e1 e2
  have h20 : 20 ≤ l.length := by omega
  have h24 : 24 ≤ l.length := by omega
  have h24' : (24 : Int) ≤ (l.length : Int) := by omega
  have h20' : (20 : Int) ≤ (c : Int) := by omega
  have hc24 : ¬ c = 24 := by omega
  have r1 := hr.upto h20
  have r2 := hr.cut h24 (Nat.le_refl _)
  rw [if_neg hc24] at r2
  have ls1 : (l.take 20).length = 20 := by simp; omega
  have ls2 : (l.drop 24).length = l.length - 24 := by simp
  have ex2 : ((cellsB l).take l.length).drop 24 = cellsB (l.drop 24) := by rw [← cellsB_length l, List.take_length, cellsB_drop]
  rw [ex2] at r2
  rw [cellsB_take] at r1
  obtain ⟨m1, em1⟩ : ∃ m, m = l.take 20 := ⟨_, rfl⟩
  obtain ⟨m2, em2⟩ : ∃ m, m = l.drop 24 := ⟨_, rfl⟩
  rw [← em1] at r1 ls1
  rw [← em2] at r2 ls2
  have es : pgSum l = crcOf (m1 ++ m2) := by rw [em1, em2]; rfl
  rw [es]
  have hp := fun (w1 : World) (e : TypeId) (a b : Value) (h1 : Rd w1 w1.heap.size a (cellsB m1)) (h2 : Rd w1 w1.heap.size b (cellsB m2)) => crcParts_any _ _ _ _ _ _ (RdAll.lit2 w1 e a b m1 m2 h1 h2)
  have ef : [m1, m2].flatten = m1 ++ m2 := by simp
  rw [ef] at hp
  have Hp := Lib.hid hp
  have Hr1 := Lib.hid (r1.more hB)
  have Hr2 := Lib.hid (r2.more hB)
  clear hp r1 r2 em1 em2 ls1 ls2 es ef ex2 hl
  go_enter Tryz.func113, Tryz.ntmps113
  go_wp2
  go_still_tail 4, (by kernel_rfl)
  change wpList _ _ _ _ _ w.drew
  have hlt := crcOf_lt (m1 ++ m2)
  have hlt' : ((crcOf (m1 ++ m2) : Nat) : Int) < 4294967296 := by omega
  go_wp2_with (go_at_call 142; refine (Hp.out w.drew _ _ _ Hr1.out Hr2.out).mono ?_; rintro e w' ⟨rfl, rfl⟩)
  go_ret
  exact ⟨rfl, ((Below.refl _ _).drew).alloc (Nat.le_refl _) _⟩
end Go.Proofs.YtnmokkkbghlpbaaGreat
/-
  num.Cut, by contract.
-/
namespace Go.Proofs.YtnmokkkbghlpbaaGreat
open Go.RowKit
set_option maxRecDepth 100000 in
set_option maxHeartbeats 400000 in
theorem cut_yes (A : Option Addr) (c : Nat) (l : List UInt8) (a n : Nat) (w : World) (B : Nat) (hr : Rd w B (.slice A l.length c) (cellsB l)) (hB : B ≤ w.heap.size) (hl : l.length ≤ 100000000) (h3 : a + n ≤ l.length) :
    Calls Tryz.prog 143 #[.slice A l.length c, .int .i64 (a : Int), .int .i64 (n : Int)] w fun e w' => ∃ v', e = .returned (.tuple #[v', .bool true]) ∧ Mine w' w.heap.size 5 v' (cellsB ((l.drop a).take n)) ∧ Below w.heap.size w w' := by
  obtain ⟨_, _, e, g1, g2, _⟩ := hr.bytes
  injection e with e1 e2 e3
  subst e3
  clear e1 e2
  have r := hr.cut (lo := a) (hi := a + n) (by omega) h3
  have em : ((cellsB l).take (a + n)).drop a = cellsB ((l.drop a).take n) := by rw [cellsB_take, cellsB_drop, List.drop_take, Nat.add_sub_cancel_left]
  rw [em, Nat.add_sub_cancel_left] at r
  have hml : ((l.drop a).take n).length ≤ 100000000 := by simp; omega
  obtain ⟨m, hm⟩ : ∃ m, m = (l.drop a).take n := ⟨_, rfl⟩
  rw [← hm] at r hml ⊢
  clear hm em
  by_cases hca : c = a
  · rw [if_pos hca] at r
    subst hca
    rw [Nat.sub_self] at r
    have R := Lib.hid r
    clear r
    go_enter Tryz.func143, Tryz.ntmps143
    go_wp2_with (first | (go_at_call 176; refine (within_yes _ _ _ _ _ _ (by omega) (by omega) (by omega) (by omega)).mono ?_; rintro e w' ⟨rfl, rfl⟩) | (go_at_call 137; refine (bytes_one _ m _ w B R.out hB (by omega)).mono ?_; rintro e w' ⟨v', rfl, hown, hbel⟩))
    go_ret2
    exact ⟨v', rfl, hown, hbel⟩
  · rw [if_neg hca] at r
    have R := Lib.hid r
    clear r
    go_enter Tryz.func143, Tryz.ntmps143
    go_wp2_with (first | (go_at_call 176; refine (within_yes _ _ _ _ _ _ (by omega) (by omega) (by omega) (by omega)).mono ?_; rintro e w' ⟨rfl, rfl⟩) | (go_at_call 137; refine (bytes_one _ m _ w B R.out hB (by omega)).mono ?_; rintro e w' ⟨v', rfl, hown, hbel⟩))
    go_ret2
    exact ⟨v', rfl, hown, hbel⟩
set_option maxRecDepth 100000 in
set_option maxHeartbeats 400000 in
theorem cut_no (A : Option Addr) (n c : Nat) (a s : Int) (w : World) (hn : n ≤ 9223372036854775807) (hat : a ≤ 9223372036854775807) (h : a < 0 ∨ s < 0 ∨ (n : Int) < a + s) :
    Calls Tryz.prog 143 #[.slice A n c, .int .i64 a, .int .i64 s] w fun e w' => e = .returned (.tuple #[.slice none 0 0, .bool false]) ∧ w = w' := by
  have hw := fun W => within_no A n c a s W hn hat h
  have Hw := Lib.hid hw
  clear hw h
  go_enter Tryz.func143, Tryz.ntmps143
  go_wp2_with (go_at_call 176; refine (Hw.out _).mono ?_; rintro e w' ⟨rfl, rfl⟩)
  go_ret2
  exact ⟨rfl, rfl⟩
end Go.Proofs.YtnmokkkbghlpbaaGreat
/-
  page.put and page.bodyOf, by contracts: a field laid over bytes of the call's own; the Body that bytes say.
-/
namespace Go.Proofs.YtnmokkkbghlpbaaGreat
open Go.RowKit
/-- The whole block of 256 bytes. -/
def Blk (w : World) (g : Nat) (l : List UInt8) : Prop := w.heap[g]? = some (.cells (cellsB l).toArray 5 (0, 0))
theorem info_size1 : (Tryz.prog.info? 5).map (·.size) = some 1 := by kernel_rfl
theorem splice_cells (l m : List UInt8) (a : Nat) : splice (cellsB l) a (cellsB m) = cellsB (spl l a m) := by
  simp [splice, spl, cellsB]
theorem Blk.rd {w : World} {g : Nat} {l : List UInt8} (h : Blk w g l) (hl : l.length = 256) : Rd w (g + 1) (.slice (some ⟨g, 0, none⟩) 256 256) (cellsB l) := by
  refine ⟨some ⟨g, 0, none⟩, 256, by rw [cellsB_length, hl], by rw [cellsB_length, hl]; exact Nat.le_refl _, by unfold maxLen; omega, (fun h => by cases h), fun _ => ⟨g, 0, rfl, Nat.lt_succ_self _, fun j u hu => ?_⟩⟩
  unfold Blk at h
  unfold World.cell?
  simp only [h, Nat.zero_add]
  simpa using hu
theorem Blk.lt {w : World} {g : Nat} {l : List UInt8} (h : Blk w g l) : g < w.heap.size := by
  unfold Blk at h
  exact (Array.getElem?_eq_some_iff.1 h).1
theorem Blk.kept {w w' : World} {g : Nat} {l : List UInt8} (h : Blk w g l) (hb : Below w.heap.size w w') : Blk w' g l := (hb.block g h.lt).trans h

theorem cell_of_bytes {w : World} {b o : Nat} {q : List UInt8} (hc : ∀ (j : Nat) (h : j < q.length), w.cell? ⟨b, o + j, none⟩ = some (.int .u8 (q[j].toNat : Int))) {j : Nat} {v : Value} (h : (cellsB q)[j]? = some v) :
    w.cell? ((⟨b, o, none⟩ : Addr).add j) = some v := by
  have hj : j < q.length := by have := (List.getElem?_eq_some_iff.1 h).1; rwa [cellsB_length] at this
  rw [Addr.add_lit, hc j hj]
  rw [cellsB_at q j hj] at h
  exact h
/-- num.Put of nothing, behind a draw: where its bytes are, and that a block of before is as it was. -/
theorem put_bytes (g : Nat) (l q : List UInt8) (n s : Nat) (w : World) (hg : Blk w g l) (hq : q = be s n) (h1 : 1 ≤ s) (h2 : s ≤ 8) :
    Calls Tryz.prog 178 #[.slice none 0 0, .int .u64 n, .int .i64 (s : Int)] w.drew fun e w1 => ∃ b1 o1 c1, e = .returned (.slice (some ⟨b1, o1, none⟩) q.length c1) ∧
      Hid (∀ (j : Nat) (v : Value), (cellsB q)[j]? = some v → w1.cell? ((⟨b1, o1, none⟩ : Addr).add j) = some v) ∧ Hid (Blk w1 g l) ∧ Hid (Below g w w1) := by
  refine (put_yes none 0 [] n s w.drew w.drew.heap.size (Rd.nil _ _) (Nat.le_refl _) (by simp) h1 h2).mono ?_
  rintro e w1 ⟨v1, rfl, hown, hbel⟩
  rw [List.nil_append, ← hq] at hown
  obtain ⟨A1, c1, rfl, _, _, hr1⟩ := hown.rd.bytes
  obtain ⟨b1, o1, rfl, _, hcc⟩ := hr1.addr (by rw [hq, be_length]; omega)
  refine ⟨b1, o1, c1, rfl, Lib.hid fun j v h => cell_of_bytes hcc h, Lib.hid ((show Blk w.drew g l from hg).kept hbel), Lib.hid ?_⟩
  exact ((Below.refl g w).drew).trans (hbel.mono (Nat.le_of_lt hg.lt))
set_option maxRecDepth 100000 in
set_option maxHeartbeats 1000000 in
theorem pgPut_any (g : Nat) (l : List UInt8) (n a s : Nat) (w : World) (hg : Blk w g l) (hl : l.length = 256) (h1 : 1 ≤ s) (h2 : s ≤ 8) (h3 : a + s ≤ 256) :
    Calls Tryz.prog 172 #[.slice (some ⟨g, 0, none⟩) 256 256, .int .u64 n, .int .i64 (a : Int), .int .i64 (s : Int)] w fun e w' => e = .returned (.tuple #[]) ∧ Blk w' g (spl l a (be s n)) ∧ Below g w w' := by
  have ha : (0 : Int) ≤ (a : Int) := by omega
  have ha2 : (a : Int) ≤ 256 := by omega
  have ha3 : a ≤ 256 := by omega
  have hac : ¬ 256 = a := by omega
  have hlt := hg.lt
  obtain ⟨q, hq⟩ : ∃ q, q = be s n := ⟨_, rfl⟩
  have hql : q.length = s := by rw [hq, be_length]
  have Hp := Lib.hid (put_bytes g l q n s w hg hq h1 h2)
  rw [← hq]
  have hn0 : 0 < q.length := by omega
  have hmin : (cellsB q).length = Nat.min q.length (256 - a) := by rw [cellsB_length]; exact (Nat.min_eq_left (by omega)).symm
  have hfit : a + (cellsB q).length ≤ (cellsB l).length := by rw [cellsB_length, cellsB_length]; omega
  have Hmin := Lib.hid hmin
  have Hfit := Lib.hid hfit
  have Hg := Lib.hid hg
  have Hl := Lib.hid hl
  have Hql := Lib.hid hql
  clear hg hl hq hql hmin hfit
  go_enter Tryz.func172, Tryz.ntmps172
  go_wp2
  go_region_law (first
    | (refine step_copy_splice rfl (.tmp 10) (.tmp 13) 31 31 rfl 5 Tryz.underlying31 info_size1 _ _ _ _ _ _ (by rfl) (by rfl) g a (cellsB l) 5 HB1.out (cellsB q) Hmin.out (fun _ => ⟨rfl, _, rfl, HC1.out⟩) Hfit.out (cellsB_one _) g w Hb1.out (Nat.le_refl _) ?_; intro w2 hg2 hb2)
    | (go_simp; go_at_call 178; refine Hp.out.mono ?_; rintro e w1 ⟨b1, o1, c1, rfl, HC1, HB1, Hb1⟩))
  go_end0
  exact ⟨rfl, by unfold Blk; rw [← splice_cells]; exact hg2.out, hb2⟩

/-- The Body, or none where a byte behind it is not 0. -/
def pgCut (l : List UInt8) : List UInt8 := if pgTail l then pgBody l else []
theorem pgCut_yes {l : List UInt8} (h : pgTail l = true) : pgCut l = pgBody l := by unfold pgCut; rw [h]; rfl
theorem pgCut_no {l : List UInt8} (h : pgTail l = false) : pgCut l = [] := by unfold pgCut; rw [h]; rfl
theorem all_step (t : List UInt8) (k : Nat) (hk : k < t.length) (h : (t.take k).all (· == 0) = true) (h0 : t[k] = 0) : (t.take (k + 1)).all (· == 0) = true := by
  rw [List.take_succ_eq_append_getElem hk, List.all_append, h, h0]; rfl
theorem all_stop (t : List UInt8) (k : Nat) (hk : k < t.length) (h0 : t[k] ≠ 0) : t.all (· == 0) = false := by
  rw [Bool.eq_false_iff]
  intro h
  have := List.all_eq_true.1 h t[k] (List.getElem_mem hk)
  exact h0 (by simpa using this)
set_option maxRecDepth 100000 in
set_option maxHeartbeats 1000000 in
theorem pgBodyOf_long (A : Option Addr) (c : Nat) (l : List UInt8) (w : World) (B : Nat) (hr : Rd w B (.slice A l.length c) (cellsB l)) (hl : l.length = 256) (h : 232 < fieldAt l 6 2) :
    Calls Tryz.prog 114 #[.slice A l.length c] w fun e w' => e = .returned (.tuple #[.slice none 0 0, .bool false]) ∧ w = w' := by
  have hg := pgGet_any A c l 6 2 w B hr (by omega) (by omega) (by omega)
  have hf : fieldAt l 6 2 < 65536 := by
    have := ofBe_lt ((l.drop 6).take 2) 0 0 (by simp)
    have h2 : ((l.drop 6).take 2).length = 2 := by simp; omega
    rw [h2] at this
    exact this
  obtain ⟨n, hn⟩ : ∃ n, n = fieldAt l 6 2 := ⟨_, rfl⟩
  rw [← hn] at hg h hf
  have hn1 : (n : Int) < 65536 := by omega
  have hn2 : (232 : Int) < (n : Int) := by omega
  have Hg := Lib.hid hg
  have Hl := Lib.hid hl
  clear hg hn hl h
  go_enter Tryz.func114, Tryz.ntmps114
  go_wp2_with (go_at_call 112; refine Hg.out.mono ?_; rintro e w' ⟨rfl, rfl⟩)
  go_ret2
  exact ⟨rfl, rfl⟩
set_option maxRecDepth 100000 in
set_option maxHeartbeats 1000000 in
theorem pgBodyOf_any (A : Option Addr) (c : Nat) (l : List UInt8) (w : World) (B : Nat) (hr : Rd w B (.slice A l.length c) (cellsB l)) (hB : B ≤ w.heap.size) (hl : l.length = 256) (h : fieldAt l 6 2 ≤ 232) :
    Calls Tryz.prog 114 #[.slice A l.length c] w fun e w' => ∃ v', e = .returned (.tuple #[v', .bool (pgTail l)]) ∧ Mine w' w.heap.size 5 v' (cellsB (pgCut l)) ∧ Below w.heap.size w w' := by
  have hg := pgGet_any A c l 6 2 w B hr (by omega) (by omega) (by omega)
  obtain ⟨b, o, rfl, hb, hc⟩ := hr.addr (by omega)
  obtain ⟨_, _, e, g1, g2, _⟩ := hr.bytes
  injection e with e1 e2 e3
  subst e3
  clear e1 e2
  obtain ⟨n, hn⟩ : ∃ n, n = fieldAt l 6 2 := ⟨_, rfl⟩
  obtain ⟨t, ht⟩ : ∃ t, t = l.drop (24 + n) := ⟨_, rfl⟩
  have hcut := cut_yes _ c l 24 n w B hr hB (by omega) (by omega)
  have etail : pgTail l = t.all (· == 0) := by rw [ht, hn]; rfl
  have ebody : pgBody l = (l.drop 24).take n := by rw [hn]; rfl
  rw [← ebody] at hcut
  rw [← hn] at hg h
  have htl : t.length = l.length - (24 + n) := by rw [ht]; simp
  have hct : ∀ (j : Nat) (h : j < t.length), w.cell? ⟨b, o + (24 + n) + j, none⟩ = some (.int .u8 (t[j].toNat : Int)) := by
    intro j hj
    have := hc (24 + n + j) (by omega)
    rw [Nat.add_assoc, this]
    simp [ht]
  have hn1 : (n : Int) ≤ 232 := by omega
  have hn2 : 24 + n ≤ l.length := by omega
  have hn3 : 24 + n ≤ c := by omega
  have Hg := Lib.hid hg
  have Hc := Lib.hid hct
  have Hcut := Lib.hid hcut
  have Ht := Lib.hid etail
  have Htl := Lib.hid htl
  clear hg hn hl h hc hct hcut htl etail ebody ht
  have hd : decide ((232 : Int) < (n : Int)) = false := by simp; omega
  by_cases hca : c = 24 + n
  · have hz : l.length - (24 + n) = 0 := by omega
    have hz2 : (24 : Int) + (n : Int) = (l.length : Int) := by omega
    have Htt : pgTail l = true := by
      have e : t = [] := List.eq_nil_of_length_eq_zero (by rw [Htl.out]; exact hz)
      rw [Ht.out, e]; rfl
    have Hcy := Lib.hid (pgCut_yes Htt)
    have Htt' := Lib.hid Htt
    clear Htt
    subst hca
    go_enter Tryz.func114, Tryz.ntmps114
    go_wp2_with (go_at_call 112; refine Hg.out.mono ?_; rintro e w' ⟨rfl, rfl⟩)
    go_loop [17] (fun i => i = .int .i64 0) (fun _ => 0)
    case atStart => rfl
    case round =>
      obtain rfl := hrel
      go_wp2_with (go_at_call 143; refine Hcut.out.mono ?_; rintro e w' ⟨v', rfl, hown, hbel⟩)
      go_ret2
      rw [Hcy.out, Htt'.out]
      exact ⟨_, rfl, hown, hbel⟩
  · go_enter Tryz.func114, Tryz.ntmps114
    go_wp2_with (go_at_call 112; refine Hg.out.mono ?_; rintro e w' ⟨rfl, rfl⟩)
    go_loop [17] (fun i => ∃ k : Nat, k ≤ l.length - (24 + n) ∧ i = .int .i64 (k : Int) ∧ (t.take k).all (· == 0) = true) (fun i => l.length - (24 + n) - (intOf i).toNat)
    case atStart => exact ⟨0, Nat.zero_le _, rfl, rfl⟩
    case round =>
      obtain ⟨k, hk, rfl, hall⟩ := hrel
      have Hall := Lib.hid hall
      clear hall
      by_cases hlt : k < l.length - (24 + n)
      · have hkt : k < t.length := by rw [Htl.out]; exact hlt
        have hcell := Hc.out k hkt
        obtain ⟨x, hx⟩ : ∃ x, x = t[k] := ⟨_, rfl⟩
        rw [← hx] at hcell
        have Hx := Lib.hid hx
        clear hx
        by_cases hx0 : x = 0
        · have hxz : ((x.toNat : Int) != 0) = false := by rw [hx0]; rfl
          have Hx0 := Lib.hid hx0
          clear hx0
          go_wp2_with fail
          go_round
          case rel => exact ⟨k + 1, by omega, by go_num, all_step t k hkt Hall.out (by rw [← Hx.out]; exact Hx0.out)⟩
          case measure => simp [intOf]; omega
        · have hxz : ((x.toNat : Int) != 0) = true := by
            rw [bne_iff_ne]; intro e; apply hx0; apply UInt8.toNat_inj.1; show _ = 0; omega
          have Hst := Lib.hid (all_stop t k hkt (by rw [← Hx.out]; exact hx0))
          clear hx0
          go_wp2_with fail
          go_ret2
          have e : pgTail l = false := Ht.out.trans Hst.out
          rw [pgCut_no e, e]
          exact ⟨_, rfl, Mine.nil _ _ _, Below.refl _ _⟩
      · have hkk : k = l.length - (24 + n) := by omega
        have Hall2 : Hid (t.all (· == 0) = true) := by
          apply Lib.hid
          have := Hall.out
          rwa [List.take_of_length_le (by rw [Htl.out]; omega)] at this
        have Hkk := Lib.hid hkk
        clear hkk
        go_wp2_with (go_at_call 143; refine Hcut.out.mono ?_; rintro e w' ⟨v', rfl, hown, hbel⟩)
        go_ret2
        have e : pgTail l = true := Ht.out.trans Hall2.out
        rw [pgCut_yes e, e]
        exact ⟨_, rfl, hown, hbel⟩
end Go.Proofs.YtnmokkkbghlpbaaGreat
/-
  page.Encode, by contracts: none for a number or a kind that may not be, none for a Body that is too long, else the page's bytes.
-/
namespace Go.Proofs.YtnmokkkbghlpbaaGreat
open Go.RowKit
/-- A page by value. -/
abbrev pgVal (kind gen : Int) (v : Value) : Value := .agg #[.int .i64 kind, .int .u64 gen, v]
/-- A page's block: its fields, and that they may be written. -/
theorem pgBox_cells (w : World) (kind gen : Int) (v : Value) :
    (w.alloc (.cells #[.int .i64 kind, .int .u64 gen, v] 166)).cell? ⟨w.heap.size, 0, none⟩ = some (.int .i64 kind) ∧
    (w.alloc (.cells #[.int .i64 kind, .int .u64 gen, v] 166)).cell? ⟨w.heap.size, 1, none⟩ = some (.int .u64 gen) ∧
    (w.alloc (.cells #[.int .i64 kind, .int .u64 gen, v] 166)).cell? ⟨w.heap.size, 2, none⟩ = some v :=
  ⟨by rw [World.cell?_alloc_mark]; rfl, by rw [World.cell?_alloc_mark]; rfl, by rw [World.cell?_alloc_mark]; rfl⟩

set_option maxRecDepth 100000 in
set_option maxHeartbeats 1000000 in
theorem pgEnc_arg (no kind gen : Int) (A : Option Addr) (n c : Nat) (w : World) (h : (no < 0 ∨ 1599 < no) ∨ kind < 1 ∨ 4 < kind) :
    Calls Tryz.prog 135 #[.int .i64 no, pgVal kind gen (.slice A n c)] w fun e w' => e = .returned (.tuple #[.slice none 0 0, .int .i64 1]) ∧ Below w.heap.size w w' := by
  by_cases hno : no < 0 ∨ 1599 < no
  · have H := Lib.hid (fun W => pgNum_no no W hno)
    clear h hno
    go_enter Tryz.func135, Tryz.ntmps135
    go_wp2_with (go_at_call 116; refine (H.out _).mono ?_; rintro e w' ⟨rfl, rfl⟩)
    go_ret2
    exact ⟨rfl, (Below.refl _ _).alloc (Nat.le_refl _) _⟩
  · have H := Lib.hid (fun W => pgNum_yes no W (by omega) (by omega))
    have H2 := Lib.hid (fun W => pgKind_no kind W (by omega))
    clear h hno
    obtain ⟨c0, _, _⟩ := pgBox_cells w kind gen (.slice A n c)
    go_enter Tryz.func135, Tryz.ntmps135
    go_wp2_with (first | (go_at_call 116; refine (H.out _).mono ?_; rintro e w' ⟨rfl, rfl⟩) | (go_at_call 115; refine (H2.out _).mono ?_; rintro e w' ⟨rfl, rfl⟩))
    go_ret2
    exact ⟨rfl, (Below.refl _ _).alloc (Nat.le_refl _) _⟩
set_option maxRecDepth 100000 in
set_option maxHeartbeats 1000000 in
theorem pgEnc_long (no kind gen : Int) (A : Option Addr) (n c : Nat) (w : World) (h1 : 0 ≤ no) (h2 : no ≤ 1599) (h3 : 1 ≤ kind) (h4 : kind ≤ 4) (hn : 232 < n) (hn2 : n ≤ 9223372036854775807) :
    Calls Tryz.prog 135 #[.int .i64 no, pgVal kind gen (.slice A n c)] w fun e w' => e = .returned (.tuple #[.slice none 0 0, .int .i64 10]) ∧ Below w.heap.size w w' := by
  obtain ⟨c0, _, c2⟩ := pgBox_cells w kind gen (.slice A n c)
  go_enter Tryz.func135, Tryz.ntmps135
  go_wp2_with (first | (go_at_call 116; refine (pgNum_yes _ _ h1 h2).mono ?_; rintro e w' ⟨rfl, rfl⟩) | (go_at_call 115; refine (pgKind_yes _ _ h3 h4).mono ?_; rintro e w' ⟨rfl, rfl⟩))
  go_ret2
  exact ⟨rfl, (Below.refl _ _).alloc (Nat.le_refl _) _⟩

theorem Blk.of_mine {w : World} {base g : Nat} {l : List UInt8} (h : Mine w base 5 (.slice (some ⟨g, 0, none⟩) 256 256) (cellsB l)) (hl : l.length = 256) : Blk w g l := by
  rcases h.2 with ⟨e1, hn⟩ | ⟨g', cap, cur, e1, hbg, hg, hnc, hcm, hcs, htake⟩
  · injection e1 with e1; cases e1
  · injection e1 with e1 e2 e3
    injection e1 with e1
    injection e1 with e1
    subst e1 e3
    rw [cellsB_length, hl] at htake
    unfold Blk
    rw [hg, ← htake, List.take_of_length_le (by simp [hcs])]
theorem Blk.mine {w : World} {base g : Nat} {l : List UInt8} (h : Blk w g l) (hl : l.length = 256) (hb : base ≤ g) : Mine w base 5 (.slice (some ⟨g, 0, none⟩) 256 256) (cellsB l) := by
  refine ⟨by omega, .inr ⟨g, 256, (cellsB l).toArray, ?_, hb, h, ?_, ?_, ?_, ?_⟩⟩
  · rw [cellsB_length, hl]
  · rw [cellsB_length, hl]; exact Nat.le_refl _
  · unfold maxLen; omega
  · simp [cellsB_length, hl]
  · rw [cellsB_length, hl]; exact List.take_of_length_le (by simp [cellsB_length, hl])

/-- copy(b, s), b the whole block, s a text that fits. -/
theorem wpList_copy_text {w : World} {ops : Array Oper} {rest : List Oper} {o : Oper} {a : Act} {Q : Exit → Act → World → Prop} (hgd : o.guard = none) (d s : Operand) (dT sT : TypeId)
    (ho : o.op = .call { callee := .builtin .copy, args := #[d, s], argTypes := #[dT, sT] }) (hu : Tryz.prog.underlying dT = some (.slice 5)) (g : Nat) (l m : List UInt8) (hd : a.eval d = .slice (some ⟨g, 0, none⟩) 256 256) (hs : a.eval s = .string ⟨m.toArray⟩)
    (hg : Blk w g l) (hl : l.length = 256) (hm : m.length ≤ 256) (h : ∀ w', Hid (Blk w' g (spl l 0 m)) → Hid (Below g w w') → wpList Tryz.prog ops Q rest (a.put o.dst (goInt m.length)) w') :
    wpList Tryz.prog ops Q (o :: rest) a w := by
  have hsz : (ByteArray.mk m.toArray).size = m.length := by simp [ByteArray.size]
  have hrun := Lib.run_copy_row_string (P := Tryz.prog) w dT sT o.type 5 g 0 256 256 ⟨m.toArray⟩ (cellsB l).toArray 5 hu info_size1 hg (by rw [hsz]; exact hm) (by rw [hsz]; simp [cellsB_length]; omega)
  refine wpList_plain hgd fun K hK => ?_
  unfold Oper.wp execOp
  simp only [ho, resolve, invoke, builtin, Sem.run_bind, Sem.run_pure, Result.andThen_ok, List.map_toArray, List.map_cons, List.map_nil, hd, hs, hrun]
  refine hK _ _ ?_
  rw [hsz]
  refine h _ (Lib.hid ?_) (Lib.hid (below_setRow (Below.refl _ _) (Nat.le_refl _) _))
  unfold Blk
  have := setRow_heap w g (cellsB l).toArray (cellsB (spl l 0 m)).toArray 5 _ hg
  simpa [spl, cellsB, Lib.byteCells] using this
theorem pgSum_blk {w : World} {g : Nat} {l : List UInt8} (h : Blk w g l) (hl : l.length = 256) :
    Calls Tryz.prog 113 #[.slice (some ⟨g, 0, none⟩) 256 256] w fun e w' => e = .returned (.int .u64 (pgSum l : Nat)) ∧ Below w.heap.size w w' := by
  have hr := h.rd hl
  have := pgSum_any (some ⟨g, 0, none⟩) 256 l w (g + 1) (by rw [hl]; exact hr) h.lt hl
  rwa [hl] at this
/-- How far the bytes are laid: the block g has them, the page in block N is as it was. -/
structure PgSt (g N : Nat) (k gn v : Value) (W w : World) (l : List UInt8) : Prop where
  blk : Blk w g l
  len : l.length = 256
  bel : Below g W w
  lt : N < g
  c0 : w.cell? ⟨N, 0, none⟩ = some k
  c1 : w.cell? ⟨N, 1, none⟩ = some gn
  c2 : w.cell? ⟨N, 2, none⟩ = some v
theorem PgSt.next {g N : Nat} {k gn v : Value} {W w w' : World} {l l' : List UInt8} (h : PgSt g N k gn v W w l) (hb : Blk w' g l') (hl : l'.length = 256) (hbel : Below g w w') : PgSt g N k gn v W w' l' :=
  ⟨hb, hl, h.bel.trans hbel, h.lt, (hbel.cell (p := ⟨N, 0, none⟩) h.lt).trans h.c0, (hbel.cell (p := ⟨N, 1, none⟩) h.lt).trans h.c1, (hbel.cell (p := ⟨N, 2, none⟩) h.lt).trans h.c2⟩
theorem pgPut_st {g N : Nat} {k gn v : Value} {W w : World} {l : List UInt8} (h : PgSt g N k gn v W w l) (n a s : Nat) (h1 : 1 ≤ s) (h2 : s ≤ 8) (h3 : a + s ≤ 256) :
    Calls Tryz.prog 172 #[.slice (some ⟨g, 0, none⟩) 256 256, .int .u64 n, .int .i64 (a : Int), .int .i64 (s : Int)] w fun e w' => e = .returned (.tuple #[]) ∧ PgSt g N k gn v W w' (spl l a (be s n)) := by
  refine (pgPut_any g l n a s w h.blk h.len h1 h2 h3).mono ?_
  rintro e w' ⟨rfl, hb, hbel⟩
  exact ⟨rfl, h.next hb (by rw [spl_length _ _ _ (by rw [be_length, h.len]; exact h3), h.len]) hbel⟩
set_option maxRecDepth 100000 in
set_option maxHeartbeats 1000000 in
theorem pgEnc_ok (no kind gen : Nat) (A : Option Addr) (body : List UInt8) (c : Nat) (w : World) (B : Nat) (hr : Rd w B (.slice A body.length c) (cellsB body)) (hB : B ≤ w.heap.size)
    (h2 : no ≤ 1599) (h3 : 1 ≤ kind) (h4 : kind ≤ 4) (hn : body.length ≤ 232) :
    Calls Tryz.prog 135 #[.int .i64 (no : Int), pgVal kind gen (.slice A body.length c)] w fun e w' => ∃ v', e = .returned (.tuple #[v', .int .i64 0]) ∧ Mine w' w.heap.size 5 v' (cellsB (pgBytes kind no gen body)) ∧ Below w.heap.size w w' := by
  obtain ⟨c0, c1, c2⟩ := pgBox_cells w kind gen (.slice A body.length c)
  obtain ⟨i, hi, hz0, hz1, hz2⟩ := info_parts info_u8
  have hk : (kind : Int) ≤ 4 := by omega
  have hno : (no : Int) ≤ 1599 := by omega
  have hbn : (body.length : Int) ≤ 232 := by omega
  have ez : (madeCells (Value.int IntKind.u8 0).cells (256 * 1)).toList = cellsB (List.replicate 256 0) := by
    have e : (Value.int IntKind.u8 0).cells = #[Value.int IntKind.u8 0] := rfl
    rw [e, Nat.mul_one, toList_madeCells_one]
    unfold cellsB
    rw [List.map_replicate]
    rfl
  obtain ⟨W, hW⟩ : ∃ W, W = w.alloc (.cells #[.int .i64 (kind : Int), .int .u64 (gen : Int), .slice A body.length c] 166) := ⟨_, rfl⟩
  have hWs : W.heap.size = w.heap.size + 1 := by rw [hW]; simp
  rw [← hW] at c0 c1 c2
  obtain ⟨z, hz⟩ : ∃ z : List UInt8, z = List.replicate 256 0 := ⟨_, rfl⟩
  have hzl : z.length = 256 := by rw [hz]; exact List.length_replicate ..
  rw [← hz] at ez
  have HW := Lib.hid hW
  have Hz := Lib.hid hz
  have Hzl := Lib.hid hzl
  have Ez := Lib.hid ez
  have Hws := Lib.hid hWs
  have Box := Lib.hid (And.intro c0 (And.intro c1 c2))
  clear hW hz hzl ez hWs c0 c1 c2
  go_enter Tryz.func135, Tryz.ntmps135
  go_wp2_with fail
  rw [← HW.out]
  have c0 := Box.out.1
  have c2 := Box.out.2.2
  refine (pgNum_yes _ _ (by omega) (by omega)).mono ?_
  rintro e w' ⟨rfl, rfl⟩
  obtain ⟨g, hge⟩ : ∃ g, g = W.heap.size := ⟨_, rfl⟩
  have hlt : w.heap.size < g := by rw [hge, Hws.out]; exact Nat.lt_succ_self _
  have hst1 : ∀ w1 : World, w1.ownsRow W.heap.size 5 1 (.slice (some ⟨W.heap.size, 0, none⟩) 256 256) 256 (madeCells (Value.int IntKind.u8 0).cells (256 * 1)).toList → W.grownBy w1 none → PgSt g w.heap.size (.int .i64 (kind : Int)) (.int .u64 (gen : Int)) (.slice A body.length c) W w1 z := by
    intro w1 hown hgr
    rw [Ez.out] at hown
    have hb1 := Blk.of_mine (Mine.of_own hown) Hzl.out
    have hbel1 : Below W.heap.size W w1 := (Below.refl _ _).grown hgr (Nat.le_refl _) (fun k h => by cases h)
    rw [← hge] at hb1 hbel1
    exact ⟨hb1, Hzl.out, hbel1, hlt, (hbel1.cell (p := ⟨_, 0, none⟩) hlt).trans c0, (hbel1.cell (p := ⟨_, 1, none⟩) hlt).trans Box.out.2.1, (hbel1.cell (p := ⟨_, 2, none⟩) hlt).trans c2⟩
  have Hst1 := Lib.hid hst1
  have Hge := Lib.hid hge
  clear hst1 hge
  go_wp2_with (first
    | (go_at_call 115; refine (pgKind_yes _ _ (by omega) (by omega)).mono ?_; rintro e w' ⟨rfl, rfl⟩)
    | (at_make; refine wpList_make_full _ rfl _ _ 31 rfl W.heap.size 5 i _ 1 Tryz.underlying31 hi hz0 hz1 _ _ _ _ 256 rfl rfl rfl rfl (by rw [hz2]; omega) (by unfold maxLen; omega) (Nat.le_refl _) ?_; intro w1 hown hgr; have st1 := Hst1.out w1 hown hgr; clear hown hgr c0 c2; rw [← Hge.out])
    | (with_reducible refine wpList_copy_text rfl (.tmp 21) (.const (.string ⟨#[83, 84, 78, 67]⟩)) 31 9 rfl Tryz.underlying31 g z [83, 84, 78, 67] rfl rfl st1.blk st1.len (by simp) ?_; intro w2 hb2 hbel2))
  have st2 := st1.next hb2.out (by rw [spl_length _ _ _ (by rw [st1.len]; simp), st1.len]) hbel2.out
  clear st1 hb2 hbel2
  obtain ⟨l2, e2⟩ : ∃ l, l = spl z 0 [83, 84, 78, 67] := ⟨_, rfl⟩
  rw [← e2] at st2
  have E2 := Lib.hid e2
  clear e2
  refine (pgPut_st st2 1 4 1 (by omega) (by omega) (by omega)).mono ?_
  rintro e w3 ⟨rfl, st3⟩
  obtain ⟨l3, e3⟩ : ∃ l, l = spl l2 4 (be 1 1) := ⟨_, rfl⟩
  rw [← e3] at st3
  have E3 := Lib.hid e3
  have c0 := st3.c0
  clear e3 st2
  go_wp2_with fail
  refine (pgPut_st st3 kind 5 1 (by omega) (by omega) (by omega)).mono ?_
  rintro e w4 ⟨rfl, st4⟩
  obtain ⟨l4, e4⟩ : ∃ l, l = spl l3 5 (be 1 kind) := ⟨_, rfl⟩
  rw [← e4] at st4
  have E4 := Lib.hid e4
  clear c0 e4 st3
  have c0 := st4.c2
  go_wp2_with fail
  refine (pgPut_st st4 body.length 6 2 (by omega) (by omega) (by omega)).mono ?_
  rintro e w5 ⟨rfl, st5⟩
  obtain ⟨l5, e5⟩ : ∃ l, l = spl l4 6 (be 2 body.length) := ⟨_, rfl⟩
  rw [← e5] at st5
  have E5 := Lib.hid e5
  clear c0 e5 st4
  go_wp2_with fail
  refine (pgPut_st st5 no 8 4 (by omega) (by omega) (by omega)).mono ?_
  rintro e w6 ⟨rfl, st6⟩
  obtain ⟨l6, e6⟩ : ∃ l, l = spl l5 8 (be 4 no) := ⟨_, rfl⟩
  rw [← e6] at st6
  have E6 := Lib.hid e6
  have c0 := st6.c1
  clear e6 st5
  go_wp2_with fail
  refine (pgPut_st st6 gen 12 8 (by omega) (by omega) (by omega)).mono ?_
  rintro e w7 ⟨rfl, st7⟩
  obtain ⟨l7, e7⟩ : ∃ l, l = spl l6 12 (be 8 gen) := ⟨_, rfl⟩
  rw [← e7] at st7
  have E7 := Lib.hid e7
  clear c0 e7 st6
  have c0 := st7.c2
  go_wp2_with fail
  have hr7 : Rd w7 B (.slice A body.length c) (cellsB body) := by
    have h0 : Rd W B (.slice A body.length c) (cellsB body) := by rw [HW.out]; exact hr.alloc hB _
    exact h0.below (st7.bel.mono (by omega))
  have Hpos : Hid (0 < (cellsB body).length → ∃ ad, A = some ad ∧ ∀ j v, (cellsB body)[j]? = some v → w7.cell? (ad.add j) = some v) := by
    apply Lib.hid
    intro hp
    rw [cellsB_length] at hp
    obtain ⟨b, o, rfl, _, hc⟩ := hr7.addr hp
    exact ⟨_, rfl, fun j v h => cell_of_bytes hc h⟩
  have Hmin : Hid ((cellsB body).length = Nat.min body.length (256 - 24)) := by
    apply Lib.hid; rw [cellsB_length]; exact (Nat.min_eq_left (by omega)).symm
  have Hfit : Hid (24 + (cellsB body).length ≤ (cellsB l7).length) := by
    apply Lib.hid; rw [cellsB_length, cellsB_length, st7.len]; omega
  clear hr7
  go_region_law (refine step_copy_splice rfl (.tmp 45) (.tmp 47) 31 31 rfl 5 Tryz.underlying31 info_size1 _ _ _ _ _ _ (by rfl) (by rfl) g 24 (cellsB l7) 5 st7.blk (cellsB body) Hmin.out (fun hp => ⟨rfl, Hpos.out hp⟩) Hfit.out (cellsB_one _) g w7 (Below.refl g w7).drew (Nat.le_refl _) ?_; intro w8 hg8 hb8)
  have st8 := st7.next (l' := spl l7 24 body) (by unfold Blk; rw [← splice_cells]; exact hg8.out) (by rw [spl_length _ _ _ (by rw [st7.len]; omega), st7.len]) hb8
  clear c0 st7 hg8 hb8 Hpos Hmin Hfit
  obtain ⟨l8, e8⟩ : ∃ l, l = spl l7 24 body := ⟨_, rfl⟩
  rw [← e8] at st8
  have E8 := Lib.hid e8
  clear e8
  go_wp2_with fail
  refine (pgSum_blk st8.blk st8.len).mono ?_
  rintro e w9 ⟨rfl, hb9⟩
  have st9 := st8.next (st8.blk.kept hb9) st8.len (hb9.mono (Nat.le_of_lt st8.blk.lt))
  clear st8 hb9
  go_wp2_with fail
  refine (pgPut_st st9 (pgSum l8) 20 4 (by omega) (by omega) (by omega)).mono ?_
  rintro e w10 ⟨rfl, st10⟩
  go_wp2_with fail
  go_ret2
  have hl8 : l8 = pgRaw kind no gen body := by rw [E8.out, E7.out, E6.out, E5.out, E4.out, E3.out, E2.out, Hz.out]; rfl
  have st11 := st10
  rw [hl8, pgRaw_sum kind no gen body hn] at st11
  refine ⟨_, rfl, st11.blk.mine st11.len (Nat.le_of_lt hlt), ?_⟩
  have hb0 : Below w.heap.size w W := by rw [HW.out]; exact (Below.refl _ _).alloc (Nat.le_refl _) _
  exact hb0.trans (st11.bel.mono (Nat.le_of_lt hlt))
end Go.Proofs.YtnmokkkbghlpbaaGreat
/-
  page.Decode, by contracts: which page any bytes are, or why they are none.
-/
namespace Go.Proofs.YtnmokkkbghlpbaaGreat
open Go.RowKit
/-- No page, by value. -/
abbrev pgZero : Value := .agg #[.int .i64 0, .int .u64 0, .slice none 0 0]
/-- The world behind Decode's result made. -/
abbrev pgW (w : World) : World := w.alloc (.cells #[.int .i64 0, .int .u64 0, .slice none 0 0] 166)
/-- A store into an elder block leaves what the call owns. -/
theorem Mine.other {w : World} {base : Nat} {e : TypeId} {v : Value} {xs : List Value} (h : Mine w base e v xs) {b i : Nat} {u : Value} (hb : b + 1 ≤ base) : Mine (w.setCell ⟨b, i, none⟩ u) base e v xs := by
  refine h.grown (Lib.grownBy_setCell w b i u) ?_
  rcases e0 : v.ownBlock with _ | k
  · exact .inl rfl
  · refine .inr fun e1 => ?_
    injection e1 with e1
    have := (h.block k e0).1
    omega
theorem fieldAt_byte (l : List UInt8) (a : Nat) : fieldAt l a 1 < 256 := by
  have h := ofBe_lt ((l.drop a).take 1) 0 0 (by simp)
  have h2 : ((l.drop a).take 1).length ≤ 1 := by simp; omega
  exact Nat.lt_of_lt_of_le h (by rw [Nat.zero_add]; exact Nat.pow_le_pow_right (by omega) h2)
set_option maxRecDepth 100000 in
set_option maxHeartbeats 1000000 in
theorem pgDec_short (no : Int) (A : Option Addr) (n c : Nat) (w : World) (hn : n ≠ 256) :
    Calls Tryz.prog 85 #[.int .i64 no, .slice A n c] w fun e w' => e = .returned (.tuple #[pgZero, .int .i64 9]) ∧ Below w.heap.size w w' := by
  have hb : ((n : Int) != 256) = true := by rw [bne_iff_ne]; omega
  clear hn
  go_enter Tryz.func85, Tryz.ntmps85
  go_wp2_with fail
  exact bodyPost_ret (v := .tuple #[pgZero, .int .i64 9]) (by simp [results, Tryz.results85, go_sem]) rfl ⟨rfl, ((Below.refl _ _).alloc (Nat.le_refl _) _)⟩
/-- The world's result block, as made, in a later world. -/
theorem pgW_later {w w' : World} (hb : Below (w.heap.size + 1) (pgW w) w') :
    w'.cell? ⟨w.heap.size, 0, none⟩ = some (.int .i64 0) ∧ w'.cell? ⟨w.heap.size, 1, none⟩ = some (.int .u64 0) ∧ w'.cell? ⟨w.heap.size, 2, none⟩ = some (.slice none 0 0) ∧
    w'.frozen? ⟨w.heap.size, 0, none⟩ = false ∧ w'.frozen? ⟨w.heap.size, 1, none⟩ = false ∧ w'.frozen? ⟨w.heap.size, 2, none⟩ = false := by
  have f : ∀ j, (pgW w).frozen? ⟨w.heap.size, j, none⟩ = false := fun j => World.frozen?_alloc_at _ _ _ _ rfl
  refine ⟨(hb.cell (p := ⟨w.heap.size, 0, none⟩) (Nat.lt_succ_self _)).trans ?_, (hb.cell (p := ⟨w.heap.size, 1, none⟩) (Nat.lt_succ_self _)).trans ?_, (hb.cell (p := ⟨w.heap.size, 2, none⟩) (Nat.lt_succ_self _)).trans ?_,
    (hb.frozen (p := ⟨w.heap.size, 0, none⟩) (Nat.lt_succ_self _)).trans (f 0), (hb.frozen (p := ⟨w.heap.size, 1, none⟩) (Nat.lt_succ_self _)).trans (f 1), (hb.frozen (p := ⟨w.heap.size, 2, none⟩) (Nat.lt_succ_self _)).trans (f 2)⟩
  · rw [World.cell?_alloc_mark]; rfl
  · rw [World.cell?_alloc_mark]; rfl
  · rw [World.cell?_alloc_mark]; rfl
set_option maxRecDepth 100000 in
set_option maxHeartbeats 1000000 in
theorem pgDec_front (no : Int) (A : Option Addr) (c : Nat) (l : List UInt8) (w : World) (B : Nat) (hr : Rd w B (.slice A l.length c) (cellsB l)) (hB : B ≤ w.heap.size) (hl : l.length = 256) (hfront : l.take 4 ≠ [83, 84, 78, 67]) :
    Calls Tryz.prog 85 #[.int .i64 no, .slice A l.length c] w fun e w' => e = .returned (.tuple #[pgZero, .int .i64 4]) ∧ Below w.heap.size w w' := by
  obtain ⟨_, _, e, g1, g2, _⟩ := hr.bytes
  injection e with e1 e2 e3
  subst e3
  clear e1 e2
  have hb : ((l.length : Int) != 256) = false := by rw [hl]; rfl
  have h4 : 4 ≤ l.length := by omega
  have r4 := hr.upto h4
  rw [cellsB_take] at r4
  have hs1 := run_string_kept (P := Tryz.prog) 31 9 5 Tryz.underlying31 Tryz.underlying5 Tryz.underlying9 (r4.more hB) ((Below.refl w.heap.size w).alloc (Nat.le_refl _) (.cells #[.int .i64 0, .int .u64 0, .slice none 0 0] 166))
  obtain ⟨m, hm⟩ : ∃ m, m = l.take 4 := ⟨_, rfl⟩
  rw [← hm] at hs1 hfront
  have hmm : (m == [83, 84, 78, 67]) = false := by simpa using hfront
  clear hm hl hr r4 hfront
  go_enter Tryz.func85, Tryz.ntmps85
  go_wp2_with fail
  exact bodyPost_ret (v := .tuple #[pgZero, .int .i64 4]) (by simp [results, Tryz.results85, go_sem]) rfl ⟨rfl, (Below.refl _ _).alloc (Nat.le_refl _) _⟩
set_option maxRecDepth 100000 in
set_option maxHeartbeats 1000000 in
theorem pgDec_version (no : Int) (A : Option Addr) (c : Nat) (l : List UInt8) (w : World) (B : Nat) (hr : Rd w B (.slice A l.length c) (cellsB l)) (hB : B ≤ w.heap.size) (hl : l.length = 256) (hfront : l.take 4 = [83, 84, 78, 67]) (hv : fieldAt l 4 1 ≠ 1) :
    Calls Tryz.prog 85 #[.int .i64 no, .slice A l.length c] w fun e w' => e = .returned (.tuple #[pgZero, .int .i64 12]) ∧ Below w.heap.size w w' := by
  obtain ⟨_, _, e, g1, g2, _⟩ := hr.bytes
  injection e with e1 e2 e3
  subst e3
  clear e1 e2
  have hb : ((l.length : Int) != 256) = false := by rw [hl]; rfl
  have h4 : 4 ≤ l.length := by omega
  have r4 := hr.upto h4
  rw [cellsB_take] at r4
  have hs1 := run_string_kept (P := Tryz.prog) 31 9 5 Tryz.underlying31 Tryz.underlying5 Tryz.underlying9 (r4.more hB) ((Below.refl w.heap.size w).alloc (Nat.le_refl _) (.cells #[.int .i64 0, .int .u64 0, .slice none 0 0] 166))
  obtain ⟨m, hm⟩ : ∃ m, m = l.take 4 := ⟨_, rfl⟩
  rw [← hm] at hs1 hfront
  have hmm : (m == [83, 84, 78, 67]) = true := by simpa using hfront
  have hl6 : 256 ≤ l.length := by omega
  have hrW : Rd (pgW w) (w.heap.size) (.slice A l.length c) (cellsB l) := (hr.alloc hB _).more hB
  have hv1 : ((fieldAt l 4 1 : Nat) != (1 : Int)) = true := by rw [bne_iff_ne]; omega
  have Hl := Lib.hid hl
  clear hm hl hr r4 hfront hv
  go_enter Tryz.func85, Tryz.ntmps85
  go_wp2_with fail
  refine (pgGet_any A c l 4 1 _ _ hrW (by omega) (by omega) (by omega)).mono ?_
  rintro e w' ⟨rfl, rfl⟩
  go_wp2_with fail
  exact bodyPost_ret (v := .tuple #[pgZero, .int .i64 12]) (by simp [results, Tryz.results85, go_sem]) rfl ⟨rfl, (Below.refl _ _).alloc (Nat.le_refl _) _⟩
set_option maxRecDepth 100000 in
set_option maxHeartbeats 1000000 in
theorem pgDec_sum (no : Int) (A : Option Addr) (c : Nat) (l : List UInt8) (w : World) (B : Nat) (hr : Rd w B (.slice A l.length c) (cellsB l)) (hB : B ≤ w.heap.size) (hl : l.length = 256) (hfront : l.take 4 = [83, 84, 78, 67]) (hv : fieldAt l 4 1 = 1) (hsum : fieldAt l 20 4 ≠ pgSum l) :
    Calls Tryz.prog 85 #[.int .i64 no, .slice A l.length c] w fun e w' => e = .returned (.tuple #[pgZero, .int .i64 5]) ∧ Below w.heap.size w w' := by
  obtain ⟨_, _, e, g1, g2, _⟩ := hr.bytes
  injection e with e1 e2 e3
  subst e3
  clear e1 e2
  have hb : ((l.length : Int) != 256) = false := by rw [hl]; rfl
  have h4 : 4 ≤ l.length := by omega
  have r4 := hr.upto h4
  rw [cellsB_take] at r4
  have hs1 := run_string_kept (P := Tryz.prog) 31 9 5 Tryz.underlying31 Tryz.underlying5 Tryz.underlying9 (r4.more hB) ((Below.refl w.heap.size w).alloc (Nat.le_refl _) (.cells #[.int .i64 0, .int .u64 0, .slice none 0 0] 166))
  obtain ⟨m, hm⟩ : ∃ m, m = l.take 4 := ⟨_, rfl⟩
  rw [← hm] at hs1 hfront
  have hmm : (m == [83, 84, 78, 67]) = true := by simpa using hfront
  have hl6 : 256 ≤ l.length := by omega
  have hrW : Rd (pgW w) (w.heap.size) (.slice A l.length c) (cellsB l) := (hr.alloc hB _).more hB
  have hv1 : ((fieldAt l 4 1 : Nat) != (1 : Int)) = false := by rw [hv]; rfl
  have Hl := Lib.hid hl
  clear hm hl hr r4 hfront hv
  have hs2 : (((fieldAt l 20 4 : Nat) : Int) != ((pgSum l : Nat) : Int)) = true := by rw [bne_iff_ne]; omega
  clear hsum
  go_enter Tryz.func85, Tryz.ntmps85
  go_wp2_with fail
  refine (pgGet_any A c l 4 1 _ _ hrW (by omega) (by omega) (by omega)).mono ?_
  rintro e w' ⟨rfl, rfl⟩
  go_wp2_with fail
  refine (pgGet_any A c l 20 4 _ _ hrW (by omega) (by omega) (by omega)).mono ?_
  rintro e w' ⟨rfl, rfl⟩
  go_wp2_with fail
  refine (pgSum_any A c l _ _ hrW (by simp) Hl.out).mono ?_
  rintro e w1 ⟨rfl, hb1⟩
  have hB1 : Below (w.heap.size + 1) (pgW w) w1 := by simpa using hb1
  have hW1 : Below w.heap.size w w1 := ((Below.refl _ _).alloc (Nat.le_refl _) _).trans (hB1.mono (Nat.le_succ _))
  have hr1 : Rd w1 w.heap.size (.slice A l.length c) (cellsB l) := hrW.below (hB1.mono (Nat.le_succ _))
  have hz1 : w.heap.size + 1 ≤ w1.heap.size := by have := hB1.size; simpa using this
  obtain ⟨q0, q1, q2, f0, f1, f2⟩ := pgW_later hB1
  go_wp2_with fail
  exact bodyPost_ret (v := .tuple #[pgZero, .int .i64 5]) (by simp [results, Tryz.results85, go_sem, q0, q1, q2]) rfl ⟨rfl, ((hW1.setCell (Nat.le_refl _) _).setCell (Nat.le_refl _) _).setCell (Nat.le_refl _) _⟩
set_option maxRecDepth 100000 in
set_option maxHeartbeats 1000000 in
theorem pgDec_form1 (no : Int) (A : Option Addr) (c : Nat) (l : List UInt8) (w : World) (B : Nat) (hr : Rd w B (.slice A l.length c) (cellsB l)) (hB : B ≤ w.heap.size) (hl : l.length = 256) (hfront : l.take 4 = [83, 84, 78, 67]) (hv : fieldAt l 4 1 = 1) (hsum : fieldAt l 20 4 = pgSum l) (hk : fieldAt l 5 1 < 1 ∨ 4 < fieldAt l 5 1) (hlong : 232 < fieldAt l 6 2) :
    Calls Tryz.prog 85 #[.int .i64 no, .slice A l.length c] w fun e w' => e = .returned (.tuple #[pgZero, .int .i64 4]) ∧ Below w.heap.size w w' := by
  obtain ⟨_, _, e, g1, g2, _⟩ := hr.bytes
  injection e with e1 e2 e3
  subst e3
  clear e1 e2
  have hb : ((l.length : Int) != 256) = false := by rw [hl]; rfl
  have h4 : 4 ≤ l.length := by omega
  have r4 := hr.upto h4
  rw [cellsB_take] at r4
  have hs1 := run_string_kept (P := Tryz.prog) 31 9 5 Tryz.underlying31 Tryz.underlying5 Tryz.underlying9 (r4.more hB) ((Below.refl w.heap.size w).alloc (Nat.le_refl _) (.cells #[.int .i64 0, .int .u64 0, .slice none 0 0] 166))
  obtain ⟨m, hm⟩ : ∃ m, m = l.take 4 := ⟨_, rfl⟩
  rw [← hm] at hs1 hfront
  have hmm : (m == [83, 84, 78, 67]) = true := by simpa using hfront
  have hl6 : 256 ≤ l.length := by omega
  have hrW : Rd (pgW w) (w.heap.size) (.slice A l.length c) (cellsB l) := (hr.alloc hB _).more hB
  have hv1 : ((fieldAt l 4 1 : Nat) != (1 : Int)) = false := by rw [hv]; rfl
  have Hl := Lib.hid hl
  clear hm hl hr r4 hfront hv
  have hs2 : (((fieldAt l 20 4 : Nat) : Int) != ((pgSum l : Nat) : Int)) = false := by rw [hsum]; simp
  have hk256 := fieldAt_byte l 5
  have hk256' : ((fieldAt l 5 1 : Nat) : Int) < 256 := by omega
  clear hsum hk256
  go_enter Tryz.func85, Tryz.ntmps85
  go_wp2_with fail
  refine (pgGet_any A c l 4 1 _ _ hrW (by omega) (by omega) (by omega)).mono ?_
  rintro e w' ⟨rfl, rfl⟩
  go_wp2_with fail
  refine (pgGet_any A c l 20 4 _ _ hrW (by omega) (by omega) (by omega)).mono ?_
  rintro e w' ⟨rfl, rfl⟩
  go_wp2_with fail
  refine (pgSum_any A c l _ _ hrW (by simp) Hl.out).mono ?_
  rintro e w1 ⟨rfl, hb1⟩
  have hB1 : Below (w.heap.size + 1) (pgW w) w1 := by simpa using hb1
  have hW1 : Below w.heap.size w w1 := ((Below.refl _ _).alloc (Nat.le_refl _) _).trans (hB1.mono (Nat.le_succ _))
  have hr1 : Rd w1 w.heap.size (.slice A l.length c) (cellsB l) := hrW.below (hB1.mono (Nat.le_succ _))
  have hz1 : w.heap.size + 1 ≤ w1.heap.size := by have := hB1.size; simpa using this
  go_wp2_with fail
  refine (pgGet_any A c l 5 1 _ _ hr1 (by omega) (by omega) (by omega)).mono ?_
  rintro e w' ⟨rfl, rfl⟩
  go_wp2_with fail
  refine (pgBodyOf_long A c l _ _ hr1 Hl.out hlong).mono ?_
  rintro e w' ⟨rfl, rfl⟩
  obtain ⟨q0, q1, q2, f0, f1, f2⟩ := pgW_later hB1
  go_wp2_with fail
  refine (pgKind_no _ _ (by omega)).mono ?_
  rintro e w' ⟨rfl, rfl⟩
  go_wp2_with fail
  exact bodyPost_ret (v := .tuple #[pgZero, .int .i64 4]) (by simp [results, Tryz.results85, go_sem, q0, q1, q2]) rfl ⟨rfl, ((hW1.setCell (Nat.le_refl _) _).setCell (Nat.le_refl _) _).setCell (Nat.le_refl _) _⟩
set_option maxRecDepth 100000 in
set_option maxHeartbeats 1000000 in
theorem pgDec_form2 (no : Int) (A : Option Addr) (c : Nat) (l : List UInt8) (w : World) (B : Nat) (hr : Rd w B (.slice A l.length c) (cellsB l)) (hB : B ≤ w.heap.size) (hl : l.length = 256) (hfront : l.take 4 = [83, 84, 78, 67]) (hv : fieldAt l 4 1 = 1) (hsum : fieldAt l 20 4 = pgSum l) (hk : fieldAt l 5 1 < 1 ∨ 4 < fieldAt l 5 1) (hlen : fieldAt l 6 2 ≤ 232) :
    Calls Tryz.prog 85 #[.int .i64 no, .slice A l.length c] w fun e w' => e = .returned (.tuple #[pgZero, .int .i64 4]) ∧ Below w.heap.size w w' := by
  obtain ⟨_, _, e, g1, g2, _⟩ := hr.bytes
  injection e with e1 e2 e3
  subst e3
  clear e1 e2
  have hb : ((l.length : Int) != 256) = false := by rw [hl]; rfl
  have h4 : 4 ≤ l.length := by omega
  have r4 := hr.upto h4
  rw [cellsB_take] at r4
  have hs1 := run_string_kept (P := Tryz.prog) 31 9 5 Tryz.underlying31 Tryz.underlying5 Tryz.underlying9 (r4.more hB) ((Below.refl w.heap.size w).alloc (Nat.le_refl _) (.cells #[.int .i64 0, .int .u64 0, .slice none 0 0] 166))
  obtain ⟨m, hm⟩ : ∃ m, m = l.take 4 := ⟨_, rfl⟩
  rw [← hm] at hs1 hfront
  have hmm : (m == [83, 84, 78, 67]) = true := by simpa using hfront
  have hl6 : 256 ≤ l.length := by omega
  have hrW : Rd (pgW w) (w.heap.size) (.slice A l.length c) (cellsB l) := (hr.alloc hB _).more hB
  have hv1 : ((fieldAt l 4 1 : Nat) != (1 : Int)) = false := by rw [hv]; rfl
  have Hl := Lib.hid hl
  clear hm hl hr r4 hfront hv
  have hs2 : (((fieldAt l 20 4 : Nat) : Int) != ((pgSum l : Nat) : Int)) = false := by rw [hsum]; simp
  have hk256 := fieldAt_byte l 5
  have hk256' : ((fieldAt l 5 1 : Nat) : Int) < 256 := by omega
  clear hsum hk256
  go_enter Tryz.func85, Tryz.ntmps85
  go_wp2_with fail
  refine (pgGet_any A c l 4 1 _ _ hrW (by omega) (by omega) (by omega)).mono ?_
  rintro e w' ⟨rfl, rfl⟩
  go_wp2_with fail
  refine (pgGet_any A c l 20 4 _ _ hrW (by omega) (by omega) (by omega)).mono ?_
  rintro e w' ⟨rfl, rfl⟩
  go_wp2_with fail
  refine (pgSum_any A c l _ _ hrW (by simp) Hl.out).mono ?_
  rintro e w1 ⟨rfl, hb1⟩
  have hB1 : Below (w.heap.size + 1) (pgW w) w1 := by simpa using hb1
  have hW1 : Below w.heap.size w w1 := ((Below.refl _ _).alloc (Nat.le_refl _) _).trans (hB1.mono (Nat.le_succ _))
  have hr1 : Rd w1 w.heap.size (.slice A l.length c) (cellsB l) := hrW.below (hB1.mono (Nat.le_succ _))
  have hz1 : w.heap.size + 1 ≤ w1.heap.size := by have := hB1.size; simpa using this
  go_wp2_with fail
  refine (pgGet_any A c l 5 1 _ _ hr1 (by omega) (by omega) (by omega)).mono ?_
  rintro e w' ⟨rfl, rfl⟩
  go_wp2_with fail
  refine (pgBodyOf_any A c l _ _ hr1 (Nat.le_trans (Nat.le_succ _) hz1) Hl.out hlen).mono ?_
  rintro e w2 ⟨v', rfl, hown, hb2⟩
  have hB2 : Below (w.heap.size + 1) (pgW w) w2 := hB1.trans (hb2.mono hz1)
  have hW2 : Below w.heap.size w w2 := hW1.trans (hb2.mono (Nat.le_trans (Nat.le_succ _) hz1))
  have hr2 : Rd w2 w.heap.size (.slice A l.length c) (cellsB l) := hr1.below (hb2.mono (Nat.le_trans (Nat.le_succ _) hz1))
  obtain ⟨q0, q1, q2, f0, f1, f2⟩ := pgW_later hB2
  go_wp2_with fail
  refine (pgKind_no _ _ (by omega)).mono ?_
  rintro e w' ⟨rfl, rfl⟩
  go_wp2_with fail
  exact bodyPost_ret (v := .tuple #[pgZero, .int .i64 4]) (by simp [results, Tryz.results85, go_sem, q0, q1, q2]) rfl ⟨rfl, ((hW2.setCell (Nat.le_refl _) _).setCell (Nat.le_refl _) _).setCell (Nat.le_refl _) _⟩
set_option maxRecDepth 100000 in
set_option maxHeartbeats 1000000 in
theorem pgDec_form3 (no : Int) (A : Option Addr) (c : Nat) (l : List UInt8) (w : World) (B : Nat) (hr : Rd w B (.slice A l.length c) (cellsB l)) (hB : B ≤ w.heap.size) (hl : l.length = 256) (hfront : l.take 4 = [83, 84, 78, 67]) (hv : fieldAt l 4 1 = 1) (hsum : fieldAt l 20 4 = pgSum l) (hk1 : 1 ≤ fieldAt l 5 1) (hk4 : fieldAt l 5 1 ≤ 4) (hlong : 232 < fieldAt l 6 2) :
    Calls Tryz.prog 85 #[.int .i64 no, .slice A l.length c] w fun e w' => e = .returned (.tuple #[pgZero, .int .i64 4]) ∧ Below w.heap.size w w' := by
  obtain ⟨_, _, e, g1, g2, _⟩ := hr.bytes
  injection e with e1 e2 e3
  subst e3
  clear e1 e2
  have hb : ((l.length : Int) != 256) = false := by rw [hl]; rfl
  have h4 : 4 ≤ l.length := by omega
  have r4 := hr.upto h4
  rw [cellsB_take] at r4
  have hs1 := run_string_kept (P := Tryz.prog) 31 9 5 Tryz.underlying31 Tryz.underlying5 Tryz.underlying9 (r4.more hB) ((Below.refl w.heap.size w).alloc (Nat.le_refl _) (.cells #[.int .i64 0, .int .u64 0, .slice none 0 0] 166))
  obtain ⟨m, hm⟩ : ∃ m, m = l.take 4 := ⟨_, rfl⟩
  rw [← hm] at hs1 hfront
  have hmm : (m == [83, 84, 78, 67]) = true := by simpa using hfront
  have hl6 : 256 ≤ l.length := by omega
  have hrW : Rd (pgW w) (w.heap.size) (.slice A l.length c) (cellsB l) := (hr.alloc hB _).more hB
  have hv1 : ((fieldAt l 4 1 : Nat) != (1 : Int)) = false := by rw [hv]; rfl
  have Hl := Lib.hid hl
  clear hm hl hr r4 hfront hv
  have hs2 : (((fieldAt l 20 4 : Nat) : Int) != ((pgSum l : Nat) : Int)) = false := by rw [hsum]; simp
  have hk256 := fieldAt_byte l 5
  have hk256' : ((fieldAt l 5 1 : Nat) : Int) < 256 := by omega
  clear hsum hk256
  go_enter Tryz.func85, Tryz.ntmps85
  go_wp2_with fail
  refine (pgGet_any A c l 4 1 _ _ hrW (by omega) (by omega) (by omega)).mono ?_
  rintro e w' ⟨rfl, rfl⟩
  go_wp2_with fail
  refine (pgGet_any A c l 20 4 _ _ hrW (by omega) (by omega) (by omega)).mono ?_
  rintro e w' ⟨rfl, rfl⟩
  go_wp2_with fail
  refine (pgSum_any A c l _ _ hrW (by simp) Hl.out).mono ?_
  rintro e w1 ⟨rfl, hb1⟩
  have hB1 : Below (w.heap.size + 1) (pgW w) w1 := by simpa using hb1
  have hW1 : Below w.heap.size w w1 := ((Below.refl _ _).alloc (Nat.le_refl _) _).trans (hB1.mono (Nat.le_succ _))
  have hr1 : Rd w1 w.heap.size (.slice A l.length c) (cellsB l) := hrW.below (hB1.mono (Nat.le_succ _))
  have hz1 : w.heap.size + 1 ≤ w1.heap.size := by have := hB1.size; simpa using this
  go_wp2_with fail
  refine (pgGet_any A c l 5 1 _ _ hr1 (by omega) (by omega) (by omega)).mono ?_
  rintro e w' ⟨rfl, rfl⟩
  go_wp2_with fail
  refine (pgBodyOf_long A c l _ _ hr1 Hl.out hlong).mono ?_
  rintro e w' ⟨rfl, rfl⟩
  obtain ⟨q0, q1, q2, f0, f1, f2⟩ := pgW_later hB1
  go_wp2_with fail
  refine (pgKind_yes _ _ (by omega) (by omega)).mono ?_
  rintro e w' ⟨rfl, rfl⟩
  go_wp2_with fail
  exact bodyPost_ret (v := .tuple #[pgZero, .int .i64 4]) (by simp [results, Tryz.results85, go_sem, q0, q1, q2]) rfl ⟨rfl, ((hW1.setCell (Nat.le_refl _) _).setCell (Nat.le_refl _) _).setCell (Nat.le_refl _) _⟩
set_option maxRecDepth 100000 in
set_option maxHeartbeats 1000000 in
theorem pgDec_form4 (no : Int) (A : Option Addr) (c : Nat) (l : List UInt8) (w : World) (B : Nat) (hr : Rd w B (.slice A l.length c) (cellsB l)) (hB : B ≤ w.heap.size) (hl : l.length = 256) (hfront : l.take 4 = [83, 84, 78, 67]) (hv : fieldAt l 4 1 = 1) (hsum : fieldAt l 20 4 = pgSum l) (hk1 : 1 ≤ fieldAt l 5 1) (hk4 : fieldAt l 5 1 ≤ 4) (hlen : fieldAt l 6 2 ≤ 232) (htail : pgTail l = false) :
    Calls Tryz.prog 85 #[.int .i64 no, .slice A l.length c] w fun e w' => e = .returned (.tuple #[pgZero, .int .i64 4]) ∧ Below w.heap.size w w' := by
  obtain ⟨_, _, e, g1, g2, _⟩ := hr.bytes
  injection e with e1 e2 e3
  subst e3
  clear e1 e2
  have hb : ((l.length : Int) != 256) = false := by rw [hl]; rfl
  have h4 : 4 ≤ l.length := by omega
  have r4 := hr.upto h4
  rw [cellsB_take] at r4
  have hs1 := run_string_kept (P := Tryz.prog) 31 9 5 Tryz.underlying31 Tryz.underlying5 Tryz.underlying9 (r4.more hB) ((Below.refl w.heap.size w).alloc (Nat.le_refl _) (.cells #[.int .i64 0, .int .u64 0, .slice none 0 0] 166))
  obtain ⟨m, hm⟩ : ∃ m, m = l.take 4 := ⟨_, rfl⟩
  rw [← hm] at hs1 hfront
  have hmm : (m == [83, 84, 78, 67]) = true := by simpa using hfront
  have hl6 : 256 ≤ l.length := by omega
  have hrW : Rd (pgW w) (w.heap.size) (.slice A l.length c) (cellsB l) := (hr.alloc hB _).more hB
  have hv1 : ((fieldAt l 4 1 : Nat) != (1 : Int)) = false := by rw [hv]; rfl
  have Hl := Lib.hid hl
  clear hm hl hr r4 hfront hv
  have hs2 : (((fieldAt l 20 4 : Nat) : Int) != ((pgSum l : Nat) : Int)) = false := by rw [hsum]; simp
  have hk256 := fieldAt_byte l 5
  have hk256' : ((fieldAt l 5 1 : Nat) : Int) < 256 := by omega
  clear hsum hk256
  have Htail := Lib.hid htail
  clear htail
  go_enter Tryz.func85, Tryz.ntmps85
  go_wp2_with fail
  refine (pgGet_any A c l 4 1 _ _ hrW (by omega) (by omega) (by omega)).mono ?_
  rintro e w' ⟨rfl, rfl⟩
  go_wp2_with fail
  refine (pgGet_any A c l 20 4 _ _ hrW (by omega) (by omega) (by omega)).mono ?_
  rintro e w' ⟨rfl, rfl⟩
  go_wp2_with fail
  refine (pgSum_any A c l _ _ hrW (by simp) Hl.out).mono ?_
  rintro e w1 ⟨rfl, hb1⟩
  have hB1 : Below (w.heap.size + 1) (pgW w) w1 := by simpa using hb1
  have hW1 : Below w.heap.size w w1 := ((Below.refl _ _).alloc (Nat.le_refl _) _).trans (hB1.mono (Nat.le_succ _))
  have hr1 : Rd w1 w.heap.size (.slice A l.length c) (cellsB l) := hrW.below (hB1.mono (Nat.le_succ _))
  have hz1 : w.heap.size + 1 ≤ w1.heap.size := by have := hB1.size; simpa using this
  go_wp2_with fail
  refine (pgGet_any A c l 5 1 _ _ hr1 (by omega) (by omega) (by omega)).mono ?_
  rintro e w' ⟨rfl, rfl⟩
  go_wp2_with fail
  refine (pgBodyOf_any A c l _ _ hr1 (Nat.le_trans (Nat.le_succ _) hz1) Hl.out hlen).mono ?_
  rintro e w2 ⟨v', rfl, hown, hb2⟩
  rw [Htail.out]
  have hB2 : Below (w.heap.size + 1) (pgW w) w2 := hB1.trans (hb2.mono hz1)
  have hW2 : Below w.heap.size w w2 := hW1.trans (hb2.mono (Nat.le_trans (Nat.le_succ _) hz1))
  have hr2 : Rd w2 w.heap.size (.slice A l.length c) (cellsB l) := hr1.below (hb2.mono (Nat.le_trans (Nat.le_succ _) hz1))
  obtain ⟨q0, q1, q2, f0, f1, f2⟩ := pgW_later hB2
  go_wp2_with fail
  refine (pgKind_yes _ _ (by omega) (by omega)).mono ?_
  rintro e w' ⟨rfl, rfl⟩
  go_wp2_with fail
  exact bodyPost_ret (v := .tuple #[pgZero, .int .i64 4]) (by simp [results, Tryz.results85, go_sem, q0, q1, q2]) rfl ⟨rfl, ((hW2.setCell (Nat.le_refl _) _).setCell (Nat.le_refl _) _).setCell (Nat.le_refl _) _⟩
set_option maxRecDepth 100000 in
set_option maxHeartbeats 1000000 in
theorem pgDec_num1 (no : Int) (A : Option Addr) (c : Nat) (l : List UInt8) (w : World) (B : Nat) (hr : Rd w B (.slice A l.length c) (cellsB l)) (hB : B ≤ w.heap.size) (hl : l.length = 256) (hfront : l.take 4 = [83, 84, 78, 67]) (hv : fieldAt l 4 1 = 1) (hsum : fieldAt l 20 4 = pgSum l) (hk1 : 1 ≤ fieldAt l 5 1) (hk4 : fieldAt l 5 1 ≤ 4) (hlen : fieldAt l 6 2 ≤ 232) (htail : pgTail l = true) (hno : no < 0 ∨ 1599 < no) :
    Calls Tryz.prog 85 #[.int .i64 no, .slice A l.length c] w fun e w' => e = .returned (.tuple #[pgZero, .int .i64 1]) ∧ Below w.heap.size w w' := by
  obtain ⟨_, _, e, g1, g2, _⟩ := hr.bytes
  injection e with e1 e2 e3
  subst e3
  clear e1 e2
  have hb : ((l.length : Int) != 256) = false := by rw [hl]; rfl
  have h4 : 4 ≤ l.length := by omega
  have r4 := hr.upto h4
  rw [cellsB_take] at r4
  have hs1 := run_string_kept (P := Tryz.prog) 31 9 5 Tryz.underlying31 Tryz.underlying5 Tryz.underlying9 (r4.more hB) ((Below.refl w.heap.size w).alloc (Nat.le_refl _) (.cells #[.int .i64 0, .int .u64 0, .slice none 0 0] 166))
  obtain ⟨m, hm⟩ : ∃ m, m = l.take 4 := ⟨_, rfl⟩
  rw [← hm] at hs1 hfront
  have hmm : (m == [83, 84, 78, 67]) = true := by simpa using hfront
  have hl6 : 256 ≤ l.length := by omega
  have hrW : Rd (pgW w) (w.heap.size) (.slice A l.length c) (cellsB l) := (hr.alloc hB _).more hB
  have hv1 : ((fieldAt l 4 1 : Nat) != (1 : Int)) = false := by rw [hv]; rfl
  have Hl := Lib.hid hl
  clear hm hl hr r4 hfront hv
  have hs2 : (((fieldAt l 20 4 : Nat) : Int) != ((pgSum l : Nat) : Int)) = false := by rw [hsum]; simp
  have hk256 := fieldAt_byte l 5
  have hk256' : ((fieldAt l 5 1 : Nat) : Int) < 256 := by omega
  clear hsum hk256
  have Htail := Lib.hid htail
  clear htail
  go_enter Tryz.func85, Tryz.ntmps85
  go_wp2_with fail
  refine (pgGet_any A c l 4 1 _ _ hrW (by omega) (by omega) (by omega)).mono ?_
  rintro e w' ⟨rfl, rfl⟩
  go_wp2_with fail
  refine (pgGet_any A c l 20 4 _ _ hrW (by omega) (by omega) (by omega)).mono ?_
  rintro e w' ⟨rfl, rfl⟩
  go_wp2_with fail
  refine (pgSum_any A c l _ _ hrW (by simp) Hl.out).mono ?_
  rintro e w1 ⟨rfl, hb1⟩
  have hB1 : Below (w.heap.size + 1) (pgW w) w1 := by simpa using hb1
  have hW1 : Below w.heap.size w w1 := ((Below.refl _ _).alloc (Nat.le_refl _) _).trans (hB1.mono (Nat.le_succ _))
  have hr1 : Rd w1 w.heap.size (.slice A l.length c) (cellsB l) := hrW.below (hB1.mono (Nat.le_succ _))
  have hz1 : w.heap.size + 1 ≤ w1.heap.size := by have := hB1.size; simpa using this
  go_wp2_with fail
  refine (pgGet_any A c l 5 1 _ _ hr1 (by omega) (by omega) (by omega)).mono ?_
  rintro e w' ⟨rfl, rfl⟩
  go_wp2_with fail
  refine (pgBodyOf_any A c l _ _ hr1 (Nat.le_trans (Nat.le_succ _) hz1) Hl.out hlen).mono ?_
  rintro e w2 ⟨v', rfl, hown, hb2⟩
  rw [Htail.out]
  rw [pgCut_yes Htail.out] at hown
  have hB2 : Below (w.heap.size + 1) (pgW w) w2 := hB1.trans (hb2.mono hz1)
  have hW2 : Below w.heap.size w w2 := hW1.trans (hb2.mono (Nat.le_trans (Nat.le_succ _) hz1))
  have hr2 : Rd w2 w.heap.size (.slice A l.length c) (cellsB l) := hr1.below (hb2.mono (Nat.le_trans (Nat.le_succ _) hz1))
  obtain ⟨q0, q1, q2, f0, f1, f2⟩ := pgW_later hB2
  go_wp2_with fail
  refine (pgKind_yes _ _ (by omega) (by omega)).mono ?_
  rintro e w' ⟨rfl, rfl⟩
  go_wp2_with fail
  refine (pgNum_no _ _ hno).mono ?_
  rintro e w' ⟨rfl, rfl⟩
  go_wp2_with fail
  exact bodyPost_ret (v := .tuple #[pgZero, .int .i64 1]) (by simp [results, Tryz.results85, go_sem, q0, q1, q2]) rfl ⟨rfl, ((hW2.setCell (Nat.le_refl _) _).setCell (Nat.le_refl _) _).setCell (Nat.le_refl _) _⟩
set_option maxRecDepth 100000 in
set_option maxHeartbeats 1000000 in
theorem pgDec_num2 (no : Int) (A : Option Addr) (c : Nat) (l : List UInt8) (w : World) (B : Nat) (hr : Rd w B (.slice A l.length c) (cellsB l)) (hB : B ≤ w.heap.size) (hl : l.length = 256) (hfront : l.take 4 = [83, 84, 78, 67]) (hv : fieldAt l 4 1 = 1) (hsum : fieldAt l 20 4 = pgSum l) (hk1 : 1 ≤ fieldAt l 5 1) (hk4 : fieldAt l 5 1 ≤ 4) (hlen : fieldAt l 6 2 ≤ 232) (htail : pgTail l = true) (hn1 : 0 ≤ no) (hn2 : no ≤ 1599) (hne : (fieldAt l 8 4 : Int) ≠ no) :
    Calls Tryz.prog 85 #[.int .i64 no, .slice A l.length c] w fun e w' => e = .returned (.tuple #[pgZero, .int .i64 1]) ∧ Below w.heap.size w w' := by
  obtain ⟨_, _, e, g1, g2, _⟩ := hr.bytes
  injection e with e1 e2 e3
  subst e3
  clear e1 e2
  have hb : ((l.length : Int) != 256) = false := by rw [hl]; rfl
  have h4 : 4 ≤ l.length := by omega
  have r4 := hr.upto h4
  rw [cellsB_take] at r4
  have hs1 := run_string_kept (P := Tryz.prog) 31 9 5 Tryz.underlying31 Tryz.underlying5 Tryz.underlying9 (r4.more hB) ((Below.refl w.heap.size w).alloc (Nat.le_refl _) (.cells #[.int .i64 0, .int .u64 0, .slice none 0 0] 166))
  obtain ⟨m, hm⟩ : ∃ m, m = l.take 4 := ⟨_, rfl⟩
  rw [← hm] at hs1 hfront
  have hmm : (m == [83, 84, 78, 67]) = true := by simpa using hfront
  have hl6 : 256 ≤ l.length := by omega
  have hrW : Rd (pgW w) (w.heap.size) (.slice A l.length c) (cellsB l) := (hr.alloc hB _).more hB
  have hv1 : ((fieldAt l 4 1 : Nat) != (1 : Int)) = false := by rw [hv]; rfl
  have Hl := Lib.hid hl
  clear hm hl hr r4 hfront hv
  have hs2 : (((fieldAt l 20 4 : Nat) : Int) != ((pgSum l : Nat) : Int)) = false := by rw [hsum]; simp
  have hk256 := fieldAt_byte l 5
  have hk256' : ((fieldAt l 5 1 : Nat) : Int) < 256 := by omega
  clear hsum hk256
  have Htail := Lib.hid htail
  clear htail
  have hne1 : (((fieldAt l 8 4 : Nat) : Int) != no) = true := by rw [bne_iff_ne]; exact hne
  clear hne
  go_enter Tryz.func85, Tryz.ntmps85
  go_wp2_with fail
  refine (pgGet_any A c l 4 1 _ _ hrW (by omega) (by omega) (by omega)).mono ?_
  rintro e w' ⟨rfl, rfl⟩
  go_wp2_with fail
  refine (pgGet_any A c l 20 4 _ _ hrW (by omega) (by omega) (by omega)).mono ?_
  rintro e w' ⟨rfl, rfl⟩
  go_wp2_with fail
  refine (pgSum_any A c l _ _ hrW (by simp) Hl.out).mono ?_
  rintro e w1 ⟨rfl, hb1⟩
  have hB1 : Below (w.heap.size + 1) (pgW w) w1 := by simpa using hb1
  have hW1 : Below w.heap.size w w1 := ((Below.refl _ _).alloc (Nat.le_refl _) _).trans (hB1.mono (Nat.le_succ _))
  have hr1 : Rd w1 w.heap.size (.slice A l.length c) (cellsB l) := hrW.below (hB1.mono (Nat.le_succ _))
  have hz1 : w.heap.size + 1 ≤ w1.heap.size := by have := hB1.size; simpa using this
  go_wp2_with fail
  refine (pgGet_any A c l 5 1 _ _ hr1 (by omega) (by omega) (by omega)).mono ?_
  rintro e w' ⟨rfl, rfl⟩
  go_wp2_with fail
  refine (pgBodyOf_any A c l _ _ hr1 (Nat.le_trans (Nat.le_succ _) hz1) Hl.out hlen).mono ?_
  rintro e w2 ⟨v', rfl, hown, hb2⟩
  rw [Htail.out]
  rw [pgCut_yes Htail.out] at hown
  have hB2 : Below (w.heap.size + 1) (pgW w) w2 := hB1.trans (hb2.mono hz1)
  have hW2 : Below w.heap.size w w2 := hW1.trans (hb2.mono (Nat.le_trans (Nat.le_succ _) hz1))
  have hr2 : Rd w2 w.heap.size (.slice A l.length c) (cellsB l) := hr1.below (hb2.mono (Nat.le_trans (Nat.le_succ _) hz1))
  obtain ⟨q0, q1, q2, f0, f1, f2⟩ := pgW_later hB2
  go_wp2_with fail
  refine (pgKind_yes _ _ (by omega) (by omega)).mono ?_
  rintro e w' ⟨rfl, rfl⟩
  go_wp2_with fail
  refine (pgNum_yes _ _ hn1 hn2).mono ?_
  rintro e w' ⟨rfl, rfl⟩
  go_wp2_with fail
  refine (pgGet_any A c l 8 4 _ _ hr2 (by omega) (by omega) (by omega)).mono ?_
  rintro e w' ⟨rfl, rfl⟩
  go_wp2_with fail
  exact bodyPost_ret (v := .tuple #[pgZero, .int .i64 1]) (by simp [results, Tryz.results85, go_sem, q0, q1, q2]) rfl ⟨rfl, ((hW2.setCell (Nat.le_refl _) _).setCell (Nat.le_refl _) _).setCell (Nat.le_refl _) _⟩
set_option maxRecDepth 100000 in
set_option maxHeartbeats 1000000 in
theorem pgDec_ok (no : Int) (A : Option Addr) (c : Nat) (l : List UInt8) (w : World) (B : Nat) (hr : Rd w B (.slice A l.length c) (cellsB l)) (hB : B ≤ w.heap.size) (hl : l.length = 256) (hfront : l.take 4 = [83, 84, 78, 67]) (hv : fieldAt l 4 1 = 1) (hsum : fieldAt l 20 4 = pgSum l) (hk1 : 1 ≤ fieldAt l 5 1) (hk4 : fieldAt l 5 1 ≤ 4) (hlen : fieldAt l 6 2 ≤ 232) (htail : pgTail l = true) (hn1 : 0 ≤ no) (hn2 : no ≤ 1599) (hne : (fieldAt l 8 4 : Int) = no) :
    Calls Tryz.prog 85 #[.int .i64 no, .slice A l.length c] w fun e w' => ∃ v', e = .returned (.tuple #[.agg #[.int .i64 (fieldAt l 5 1 : Nat), .int .u64 (fieldAt l 12 8 : Nat), v'], .int .i64 0]) ∧ Mine w' w.heap.size 5 v' (cellsB (pgBody l)) ∧ Below w.heap.size w w' := by
  obtain ⟨_, _, e, g1, g2, _⟩ := hr.bytes
  injection e with e1 e2 e3
  subst e3
  clear e1 e2
  have hb : ((l.length : Int) != 256) = false := by rw [hl]; rfl
  have h4 : 4 ≤ l.length := by omega
  have r4 := hr.upto h4
  rw [cellsB_take] at r4
  have hs1 := run_string_kept (P := Tryz.prog) 31 9 5 Tryz.underlying31 Tryz.underlying5 Tryz.underlying9 (r4.more hB) ((Below.refl w.heap.size w).alloc (Nat.le_refl _) (.cells #[.int .i64 0, .int .u64 0, .slice none 0 0] 166))
  obtain ⟨m, hm⟩ : ∃ m, m = l.take 4 := ⟨_, rfl⟩
  rw [← hm] at hs1 hfront
  have hmm : (m == [83, 84, 78, 67]) = true := by simpa using hfront
  have hl6 : 256 ≤ l.length := by omega
  have hrW : Rd (pgW w) (w.heap.size) (.slice A l.length c) (cellsB l) := (hr.alloc hB _).more hB
  have hv1 : ((fieldAt l 4 1 : Nat) != (1 : Int)) = false := by rw [hv]; rfl
  have Hl := Lib.hid hl
  clear hm hl hr r4 hfront hv
  have hs2 : (((fieldAt l 20 4 : Nat) : Int) != ((pgSum l : Nat) : Int)) = false := by rw [hsum]; simp
  have hk256 := fieldAt_byte l 5
  have hk256' : ((fieldAt l 5 1 : Nat) : Int) < 256 := by omega
  clear hsum hk256
  have Htail := Lib.hid htail
  clear htail
  have hne1 : (((fieldAt l 8 4 : Nat) : Int) != no) = false := by rw [hne]; simp
  clear hne
  go_enter Tryz.func85, Tryz.ntmps85
  go_wp2_with fail
  refine (pgGet_any A c l 4 1 _ _ hrW (by omega) (by omega) (by omega)).mono ?_
  rintro e w' ⟨rfl, rfl⟩
  go_wp2_with fail
  refine (pgGet_any A c l 20 4 _ _ hrW (by omega) (by omega) (by omega)).mono ?_
  rintro e w' ⟨rfl, rfl⟩
  go_wp2_with fail
  refine (pgSum_any A c l _ _ hrW (by simp) Hl.out).mono ?_
  rintro e w1 ⟨rfl, hb1⟩
  have hB1 : Below (w.heap.size + 1) (pgW w) w1 := by simpa using hb1
  have hW1 : Below w.heap.size w w1 := ((Below.refl _ _).alloc (Nat.le_refl _) _).trans (hB1.mono (Nat.le_succ _))
  have hr1 : Rd w1 w.heap.size (.slice A l.length c) (cellsB l) := hrW.below (hB1.mono (Nat.le_succ _))
  have hz1 : w.heap.size + 1 ≤ w1.heap.size := by have := hB1.size; simpa using this
  go_wp2_with fail
  refine (pgGet_any A c l 5 1 _ _ hr1 (by omega) (by omega) (by omega)).mono ?_
  rintro e w' ⟨rfl, rfl⟩
  go_wp2_with fail
  clear hk256'
  refine (pgBodyOf_any A c l _ _ hr1 (Nat.le_trans (Nat.le_succ _) hz1) Hl.out hlen).mono ?_
  rintro e w2 ⟨v', rfl, hown, hb2⟩
  rw [Htail.out]
  rw [pgCut_yes Htail.out] at hown
  have hB2 : Below (w.heap.size + 1) (pgW w) w2 := hB1.trans (hb2.mono hz1)
  have hW2 : Below w.heap.size w w2 := hW1.trans (hb2.mono (Nat.le_trans (Nat.le_succ _) hz1))
  have hr2 : Rd w2 w.heap.size (.slice A l.length c) (cellsB l) := hr1.below (hb2.mono (Nat.le_trans (Nat.le_succ _) hz1))
  obtain ⟨q0, q1, q2, f0, f1, f2⟩ := pgW_later hB2
  obtain ⟨A2, c2, rfl⟩ := hown.form
  go_wp2_with fail
  refine (pgKind_yes _ _ (by omega) (by omega)).mono ?_
  rintro e w' ⟨rfl, rfl⟩
  go_wp2_with fail
  refine (pgNum_yes _ _ hn1 hn2).mono ?_
  rintro e w' ⟨rfl, rfl⟩
  go_wp2_with fail
  refine (pgGet_any A c l 8 4 _ _ hr2 (by omega) (by omega) (by omega)).mono ?_
  rintro e w' ⟨rfl, rfl⟩
  go_wp2_with fail
  refine (pgGet_any A c l 12 8 _ _ hr2 (by omega) (by omega) (by omega)).mono ?_
  rintro e w' ⟨rfl, rfl⟩
  go_wp2_with fail
  refine bodyPost_ret (v := .tuple #[.agg #[.int .i64 (fieldAt l 5 1 : Nat), .int .u64 (fieldAt l 12 8 : Nat), .slice A2 (cellsB (pgBody l)).length c2], .int .i64 0]) (by simp [results, Tryz.results85, go_sem, q0, q1, q2]) rfl ⟨_, rfl, ?_, ((hW2.setCell (Nat.le_refl _) _).setCell (Nat.le_refl _) _).setCell (Nat.le_refl _) _⟩
  exact (((hown.other hz1).other hz1).other hz1).weaken (Nat.le_trans (Nat.le_succ _) hz1)
end Go.Proofs.YtnmokkkbghlpbaaGreat
/-
  A page read: what Decode tells of any bytes, in two contracts, and of bytes that Encode made.
-/
namespace Go.Proofs.YtnmokkkbghlpbaaGreat
open Go.RowKit
theorem pgDec_bad (no : Int) (A : Option Addr) (c : Nat) (l : List UInt8) (w : World) (B : Nat) (hr : Rd w B (.slice A l.length c) (cellsB l)) (hB : B ≤ w.heap.size) (r : Nat) (he : pgErr no l = r) (h0 : r ≠ 0) :
    Calls Tryz.prog 85 #[.int .i64 no, .slice A l.length c] w fun e w' => e = .returned (.tuple #[pgZero, .int .i64 (r : Nat)]) ∧ Below w.heap.size w w' := by
  unfold pgErr at he
  split at he
  · subst he; exact pgDec_short no A _ c w (by assumption)
  rename_i hl
  have hl := Decidable.not_not.1 hl
  split at he
  · subst he; exact pgDec_front no A c l w B hr hB hl (by assumption)
  rename_i hf
  have hf := Decidable.not_not.1 hf
  split at he
  · subst he; exact pgDec_version no A c l w B hr hB hl hf (by assumption)
  rename_i hv
  have hv := Decidable.not_not.1 hv
  split at he
  · subst he; exact pgDec_sum no A c l w B hr hB hl hf hv (by assumption)
  rename_i hs
  have hs := Decidable.not_not.1 hs
  split at he
  · rename_i h
    subst he
    by_cases hk : fieldAt l 5 1 < 1 ∨ 4 < fieldAt l 5 1
    · by_cases hg : 232 < fieldAt l 6 2
      · exact pgDec_form1 no A c l w B hr hB hl hf hv hs hk hg
      · exact pgDec_form2 no A c l w B hr hB hl hf hv hs hk (by omega)
    · by_cases hg : 232 < fieldAt l 6 2
      · exact pgDec_form3 no A c l w B hr hB hl hf hv hs (by omega) (by omega) hg
      · refine pgDec_form4 no A c l w B hr hB hl hf hv hs (by omega) (by omega) (by omega) ?_
        rcases h with h | h | h | h
        · omega
        · omega
        · omega
        · exact h
  rename_i h
  rw [not_or, not_or, not_or] at h
  obtain ⟨a1, a2, a3, a4⟩ := h
  have a4 : pgTail l = true := by simpa using a4
  split at he
  · rename_i h
    subst he
    by_cases hn : no < 0 ∨ 1599 < no
    · exact pgDec_num1 no A c l w B hr hB hl hf hv hs (by omega) (by omega) (by omega) a4 hn
    · refine pgDec_num2 no A c l w B hr hB hl hf hv hs (by omega) (by omega) (by omega) a4 (by omega) (by omega) ?_
      rcases h with h | h | h
      · omega
      · omega
      · exact h
  · exact absurd he.symm h0
theorem pgDec_good (no : Int) (A : Option Addr) (c : Nat) (l : List UInt8) (w : World) (B : Nat) (hr : Rd w B (.slice A l.length c) (cellsB l)) (hB : B ≤ w.heap.size) (h : PgOk no l) :
    Calls Tryz.prog 85 #[.int .i64 no, .slice A l.length c] w fun e w' => ∃ A' c', e = .returned (.tuple #[pgVal (fieldAt l 5 1 : Nat) (fieldAt l 12 8 : Nat) (.slice A' (pgBody l).length c'), .int .i64 0]) ∧ Rd w' w'.heap.size (.slice A' (pgBody l).length c') (cellsB (pgBody l)) ∧ Below w.heap.size w w' := by
  refine (pgDec_ok no A c l w B hr hB h.len h.front h.ver h.sum h.kind1 h.kind4 h.blen h.tail h.no0 h.no1 h.num).mono ?_
  rintro e w' ⟨v', rfl, h1, h2⟩
  obtain ⟨A', c', rfl, _, _, h3⟩ := h1.rd.bytes
  exact ⟨A', c', rfl, h3, h2⟩
/-- Decode of Encode. -/
theorem pgDec_enc (kind no gen : Nat) (body l : List UInt8) (hlb : l = pgBytes kind no gen body) (h : body.length ≤ 232) (hk1 : 1 ≤ kind) (hk4 : kind ≤ 4) (hno : no ≤ 1599) (hg : gen < 18446744073709551616)
    (A : Option Addr) (c : Nat) (w : World) (B : Nat) (hr : Rd w B (.slice A l.length c) (cellsB l)) (hB : B ≤ w.heap.size) :
    Calls Tryz.prog 85 #[.int .i64 (no : Int), .slice A l.length c] w fun e w' => ∃ A' c', e = .returned (.tuple #[pgVal kind gen (.slice A' body.length c'), .int .i64 0]) ∧ Rd w' w'.heap.size (.slice A' body.length c') (cellsB body) ∧ Below w.heap.size w w' := by
  have hok := pgBytes_ok kind no gen body h hk1 hk4 hno
  rw [← hlb] at hok
  have hd := pgDec_good (no : Int) A c l w B hr hB hok
  have f5 := pgBytes_kind kind no gen body hk4
  have f12 := pgBytes_gen kind no gen body hg
  have fb := pgBytes_body kind no gen body h
  rw [← hlb] at f5 f12 fb
  rw [f5, f12, fb] at hd
  exact hd
end Go.Proofs.YtnmokkkbghlpbaaGreat
/-
  Flush, on a device: its contract.
-/
namespace Go.Proofs.YtnmokkkbghlpbaaGreat
open Go.RowKit
/-- All sectors' bytes now last, nothing waits. -/
def Dev.flush (d : Dev) : Dev := { d with L := (List.range d.L.length).map d.now, Q := fun _ => [] }
/-- On the way there: what is still to come lasts as it did. -/
def Dev.half (d : Dev) (left : Lit → Bool) : List (List UInt8) := (List.range d.L.length).map fun i => if left (keyL i) = true then d.L.getD i [] else d.now i
theorem Dev.half_length (d : Dev) (left : Lit → Bool) : (d.half left).length = d.L.length := by simp [Dev.half]
theorem Dev.half_get (d : Dev) (left : Lit → Bool) {i : Nat} (hi : i < d.L.length) : (d.half left)[i]'(by rw [Dev.half_length]; exact hi) = if left (keyL i) = true then d.L.getD i [] else d.now i := by simp [Dev.half]
theorem keyL_same (i j : Nat) : (keyL j).sameKey (keyL i) = decide (j = i) := by
  by_cases h : j = i
  · subst h
    simp [Lit.sameKey]
  · rw [Maps.sameKey_ne (fun e => h (by injection e with e1 e2; omega))]
    simp [h]
theorem Dev.half_step (d : Dev) (left : Lit → Bool) {i : Nat} : d.half (fun z => left z && !z.sameKey (keyL i)) = (d.half left).set i (d.now i) := by
  apply List.ext_getElem
  · simp [Dev.half_length]
  · intro j h1 h2
    have hj : j < d.L.length := by rw [Dev.half_length] at h1; exact h1
    rw [Dev.half_get _ _ hj, List.getElem_set, keyL_same]
    by_cases e : i = j
    · subst e
      simp
    · rw [if_neg e, Dev.half_get _ _ hj]
      have : ¬ j = i := fun h => e h.symm
      simp [this]
section
variable {w : World} {F : Nat → Prop} {p bl bm : Nat} {S : Nat → Value} {D : DataW Value} {d : Dev}
theorem DevIs.half_start (h : DevIs w F p bl bm S D d) : d.half (Maps.has D) = d.L := by
  apply List.ext_getElem
  · rw [Dev.half_length]
  · intro i h1 h2
    rw [Dev.half_get _ _ h2]
    split
    · simp [List.getD_eq_getElem?_getD, List.getElem?_eq_getElem h2]
    · rename_i hh
      have : d.Q i = [] := Classical.byContradiction fun e => hh ((h.has i h2).2 e)
      simp [Dev.now, this, List.getD_eq_getElem?_getD, List.getElem?_eq_getElem h2]
theorem Dev.half_end (d : Dev) (left : Lit → Bool) (h : ∀ kl, left kl = false) : d.half left = d.flush.L := by
  unfold Dev.half Dev.flush
  simp [h]
theorem DevIs.half_wide (h : DevIs w F p bl bm S D d) (left : Lit → Bool) : Wide (d.half left) := by
  intro l hl
  obtain ⟨i, hi, rfl⟩ := List.mem_iff_getElem.1 hl
  rw [Dev.half_length] at hi
  rw [Dev.half_get _ _ hi]
  split
  · simp only [List.getD_eq_getElem?_getD, List.getElem?_eq_getElem hi, Option.getD_some]
    exact h.wl.at_ hi
  · exact Dev.now_wide h hi
/-- Other bytes that last. -/
theorem DevIs.set_last (h : DevIs w F p bl bm S D d) {w' : World} {L' : List (List UInt8)} (hb : w'.heap[bl]? = some (.cells (flat L').toArray 121 (0, 0))) (hg : w.grownBy w' (some bl)) (hl : L'.length = d.L.length) (hw : Wide L') :
    DevIs w' F p bl bm S D { d with L := L' } := by
  have ho : ∀ k, k < w.heap.size → k ≠ bl → w'.heap[k]? = w.heap[k]? := fun k hk hn => hg.block k hk (fun e => hn (by injection e))
  have hlt := h.lt
  have top : w'.heap[p]? = some (.cells (devCells { d with L := L' } bl bm).toArray 119 (0, 0)) := by
    have := (ho p hlt.1 h.ne.1).trans h.top
    simpa [devCells, hl] using this
  refine ⟨top, hb, ?_, ?_, ?_, ?_, ?_, ?_, ?_, h.ne, h.inF, hw, h.wq, ?_, h.few, h.fuel⟩
  · exact h.map.kept hg (fun e => h.ne.2.2 (by injection e with e; exact e.symm))
  · simp only [hl]; exact h.at_
  · simp only [hl]
    exact fun i hi => row_keep (h.row i hi) fun k hk => ho k ((h.row i hi).lt k hk).2 (h.own i k hi hk).2.2.1
  · simp only [hl]; exact h.has
  · simp only [hl]; exact h.keys
  · simp only [hl]; exact h.apart
  · simp only [hl]; exact h.own
  · simp only [hl]; exact h.size
/-- An iterator's block is none of the device's. -/
theorem DevIs.iter (h : DevIs w F p bl bm S D d) {w' : World} {r : Nat} {o : Obj} (hr : w.heap[r]? = some o) (hc : ∀ c t f, o ≠ .cells c t f) (hm : ∀ e c, o ≠ .map e c) (hg : w.grownBy w' (some r)) : DevIs w' F p bl bm S D d := by
  have ho : ∀ {k : Nat} {x : Obj}, w.heap[k]? = some x → x ≠ o → w'.heap[k]? = some x := fun {k x} e hx =>
    (hg.block k (Array.getElem?_eq_some_iff.1 e).1 (fun e2 => hx (by injection e2 with e2; subst e2; rw [hr] at e; injection e with e; exact e.symm))).trans e
  refine { h with top := ho h.top (fun e => hc _ _ _ e.symm), last := ho h.last (fun e => hc _ _ _ e.symm), map := ?_, row := fun i hi => ?_ }
  · obtain ⟨es, clock, hb, rest⟩ := h.map
    exact ⟨es, clock, ho hb (fun e => hm _ _ e.symm), rest⟩
  · have hrw := h.row i hi
    refine ⟨hrw.1, ?_⟩
    rcases hrw.2 with hn | ⟨g, cap, cur, e, hb, hgg, rest⟩
    · exact .inl hn
    · exact .inr ⟨g, cap, cur, e, hb, ho hgg (fun e => hc _ _ _ e.symm), rest⟩
/-- clear(map). -/
theorem run_clear_map {es : Array MapEntry} {clock : Nat} (hb : w.heap[bm]? = some (.map es clock)) (ty : TypeId) :
    ∃ w', (Builtin.clear_ #[117] ty #[.map (some bm)]).run Tryz.prog w = .ok (.tuple #[]) w' ∧ w'.heap[bm]? = some (.map #[] clock) ∧ w.grownBy w' (some bm) ∧ w'.heap.size = w.heap.size := by
  have h := MapKept.run_setObj_map (P := Tryz.prog) (w := w) (r := bm) (.map #[] clock) hb
  refine ⟨ChangeMaps.setBlock w bm (.map #[] clock), ?_, ChangeMaps.heap_setBlock_same hb _, ⟨rfl, rfl, rfl, by simp [ChangeMaps.setBlock], fun i _ hi => ChangeMaps.heap_setBlock_other hb _ (fun e => hi (by rw [e]))⟩, by simp [ChangeMaps.setBlock]⟩
  simp [Builtin.clear_, run_underlying Tryz.underlying117, MapKept.run_getObj_map hb, h, Result.andThen]
  rfl
theorem DevIs.cleared (h : DevIs w F p bl bm S D d) {w' : World} {clock : Nat} (hb : w'.heap[bm]? = some (.map #[] clock)) (hg : w.grownBy w' (some bm)) :
    DevIs w' F p bl bm (fun _ => .slice none 0 0) (.map []) { d with Q := fun _ => [] } := by
  have ho : ∀ k, k < w.heap.size → k ≠ bm → w'.heap[k]? = w.heap[k]? := fun k hk hn => hg.block k hk (fun e => hn (by injection e))
  have hlt := h.lt
  have hno : ∀ kl, Maps.has (DataW.map [] : DataW Value) kl = false := fun kl => rfl
  have top : w'.heap[p]? = some (.cells (devCells { d with Q := fun _ => [] } bl bm).toArray 119 (0, 0)) := (ho p hlt.1 h.ne.2.1).trans h.top
  refine ⟨top, (ho bl hlt.2.1 h.ne.2.2).trans h.last, ⟨#[], clock, hb, ⟨by simp, MapKept.stamped_empty clock, by simp⟩, Nat.zero_le _, rfl⟩, fun i _ => Maps.atKey_of_not_has (hno _) _, fun i _ => World.ownsRow_nil _ _ _ _, fun i _ => ?_, fun kl hk => ?_, fun _ _ _ _ _ => .inl rfl, fun i g _ e => ?_, h.ne, h.inF, h.wl, fun _ => ?_, h.size, fun _ => Nat.zero_le _, h.fuel⟩
  · simp [hno]
  · rw [hno] at hk; cases hk
  · cases e
  · intro l hl; cases hl
theorem Dev.now_waits (d : Dev) (L' : List (List UInt8)) {i : Nat} (hq : d.Q i ≠ []) : Dev.now { d with L := L' } i = d.now i := by
  unfold Dev.now
  rcases h : (d.Q i).getLast? with _ | l
  · exact absurd (List.getLast?_eq_none_iff.1 h) hq
  · simp
set_option maxRecDepth 100000 in
theorem flush_nil (w : World) : Calls Tryz.prog 46 #[.pointer none] w fun e w' => e = .returned (.int .i64 1) ∧ w = w' := by
  go_enter Tryz.func46, Tryz.ntmps46
  go_wp2_with fail
  go_ret
  exact ⟨rfl, rfl⟩
set_option maxRecDepth 100000 in
theorem flush_io (h : DevIs w F p bl bm S D d) (hb : d.burns 3 = true) : Calls Tryz.prog 46 #[at0 p] w fun e w' => e = .returned (.int .i64 3) ∧ DevIs w' F p bl bm S D (d.burn 3) ∧ Only F w w' := by
  have hf := fails_any h (k := 3) (by omega)
  rw [hb] at hf
  have Hf := Lib.hid hf
  clear h hb hf
  go_enter Tryz.func46, Tryz.ntmps46
  go_wp2_with (go_at_call 49; refine Hf.out.mono ?_; rintro e w' ⟨rfl, hd, ho⟩)
  go_ret
  exact ⟨rfl, hd, ho⟩
set_option maxRecDepth 100000 in
set_option maxHeartbeats 800000 in
theorem flush_ok (h : DevIs w F p bl bm S D d) (hb : d.burns 3 = false) (hn : d.n < 1000000) (hF : ∀ k, w.heap.size ≤ k → F k) :
    Calls Tryz.prog 46 #[at0 p] w fun e w' => ∃ S' D', e = .returned (.int .i64 0) ∧ DevIs w' F p bl bm S' D' (d.burn 3).flush ∧ Only F w w' := by
  have hf := fails_any h (k := 3) (by omega)
  rw [hb] at hf
  have Hf := Lib.hid hf
  obtain ⟨d2, hd2⟩ : ∃ d2, d2 = d.burn 3 := ⟨_, rfl⟩
  have hn2 : d2.n < 1000000 := by rw [hd2]; exact hn
  rw [← hd2] at Hf ⊢
  clear h hb hf hd2 hn
  go_enter Tryz.func46, Tryz.ntmps46
  go_wp2_with (first
    | (go_at_call 49; refine Hf.out.mono ?_; rintro e w1 ⟨rfl, hd, ho⟩; have hc9 := hd.c9)
    | (at_range; refine wpList_range_own _ rfl _ 117 rfl 3 116 keyed_int Tryz.underlying117 asHeld bm d2.n D rfl hd.map ?_; intro w2 hrg0 hg0 hs0))
  go_frame
  have hstart : DevIs w2 F p bl bm S D { d2 with L := d2.half (Maps.has D) } := by
    rw [hd.half_start]
    exact hd.keep fun k hk _ => hg0.block k hk (by simp)
  have hwide := hd.half_wide
  have hsz : 16 ≤ d2.L.length ∧ d2.L.length ≤ 1600 := hd.size
  have hQ : ∀ kl, Maps.has D kl = true → ∃ i : Nat, i < d2.L.length ∧ kl = keyL i ∧ d2.Q i ≠ [] := fun kl hk => by
    obtain ⟨i, hi, rfl⟩ := hd.keys kl hk
    exact ⟨i, hi, rfl, (hd.has i hi).1 hk⟩
  have Hwide := Lib.hid hwide
  have HQ := Lib.hid hQ
  have hFr : F w1.heap.size := hF _ ho.size
  have ho2 : Only F w w2 := ho.trans (Only.grown hg0 (by simp))
  have HF := Lib.hid hF
  clear Hf hwide hQ hF hg0 hs0 hd hc9 ho
  go_loopw [3] (fun _ wr => ∃ left cnt, wr.ranges Tryz.prog 3 asHeld bm w1.heap.size d2.n D left cnt ∧ DevIs wr F p bl bm S D { d2 with L := d2.half left } ∧ Only F w wr) (fun _ wr => wr.rangeLeft bm w1.heap.size)
  case atStart => exact ⟨_, _, hrg0, hstart, ho2⟩
  case round =>
    obtain ⟨left, cnt, hrg, hd, ho⟩ := hrel
    go_wp2_with (at_next; refine wpList_next_ranges _ rfl _ rfl 3 keyed_int asHeld (fun x : Int => Value.int .i64 x) (fun v : Value => v) (fun key kl hk => by obtain ⟨x, rfl, _⟩ := Maps.keyOf_int_inv Tryz.underlying3 hk; exact ⟨x, rfl⟩) (fun v y _ => ⟨v, rfl⟩) bm w1.heap.size d2.n D left cnt rfl hrg ?_ ?_)
    · intro hc0 hl0
      rw [Dev.half_end _ _ hl0] at hd
      obtain ⟨es, clock, hb, _⟩ := hd.map
      obtain ⟨w3, hrun, hb3, hg3, _⟩ := run_clear_map hb 0
      have hfin := Lib.hid (hd.cleared hb3 hg3)
      have hc9 := hd.c9
      have hbF := hd.inF.2.2
      have hex := fun (ρ : Operand → Value) (o : Oper) (ho : o.op = .call { callee := .builtin .clear, args := #[.tmp 31], argTypes := #[117] }) (h0 : o.type = 0) (hx : ρ (.tmp 31) = .map (some bm)) => exec_clear (P := Tryz.prog) (w := wr) (t := 117) ho hx (by rw [h0]; exact hrun)
      have Hex := Lib.hid hex
      clear hc0 hl0 hb hrun hb3 hrg hd Hwide HQ hex
      go_wp2_with ((with_reducible refine wpList_run (o := ⟨none, .call { callee := .builtin .clear, args := #[.tmp 31], argTypes := #[117] }, 0, _, _, none⟩) rfl (.tuple #[]) w3 ?_ ?_); exact Hex.out _ _ rfl rfl rfl)
      go_ret
      exact ⟨rfl, ⟨_, _, hfin.out⟩, ho.trans (Only.grown hg3 (fun g e => by cases e; exact hbF))⟩
    · intro x c kl y yp w3 cnt3 hkey hleft hRv hat hrg3 hlt3 hg3 hs3 hen
      have hhas : Maps.has D kl = true := Maps.has_true_of_atKey hat
      obtain ⟨i, hi, rfl, hq⟩ := HQ.out kl hhas
      obtain ⟨x', e1, e2, _⟩ := Maps.keyOf_int_inv Tryz.underlying3 hkey
      injection e1 with _ e1
      injection e2 with _ e2
      obtain rfl : x = (i : Int) := e1.trans e2.symm
      have hd3 : DevIs w3 F p bl bm S D { d2 with L := d2.half left } := by
        obtain ⟨_, _, _, _, _, _, _, _, _, hr, _⟩ := hrg
        exact hd.iter hr (fun _ _ _ e => by cases e) (fun _ _ e => by cases e) hg3
      have ho3 : Only F w w3 := ho.trans (Only.grown hg3 (fun g e => by injection e with e; subst e; exact hFr))
      have hc8 : w3.cell? ⟨p, 8, none⟩ = some (.slice (some ⟨bl, 0, none⟩) d2.L.length d2.L.length) := by
        have := hd3.c8
        simpa [Dev.half_length] using this
      have hi0 : (0 : Int) ≤ (i : Int) := by omega
      have hi1 : (i : Int) < (d2.L.length : Int) := by omega
      have hi' : i < (d2.half left).length := by rw [Dev.half_length]; exact hi
      have hnow := now_any (d := { d2 with L := d2.half left }) (hd3.keep (w' := w3.drew) fun _ _ _ => rfl) hi' hn2
      rw [Dev.now_waits d2 _ hq] at hnow
      have Hnow := Lib.hid hnow
      have Hleft := Lib.hid hlt3
      have hq' := Lib.hid hq
      clear hkey hleft hRv hat hhas hq e1 e2 hd ho hg3 hs3 hnow hlt3
      go_wp2_with fail
      refine wp_region_held_drew (S := fun w' => w'.cell? ⟨p, 8, none⟩ = some (.slice (some ⟨bl, 0, none⟩) d2.L.length d2.L.length)) (by kernel_rfl) ?_ (fun hHeld => ?_)
      · exact hc8
      refine' wpAnyH_take (i := 0) (oi := ⟨some 19, .move (.tmp 0), _, _, _, none⟩) (v := _) rfl (by kernel_rfl) (by kernel_rfl) (by kernel_rfl) (fun _ _ _ h => h) (Or.inl ⟨by rfl, ?hy0⟩) (by assumption) ?rest0
      case hy0 => (intro w hSw; obtain s1 := hSw; go_simp <;> with_reducible rfl)
      case rest0 =>
      go_frame
      refine' wpAnyH_take (i := 1) (oi := ⟨some 20, .nilCheck (.tmp 19), _, _, _, none⟩) (v := _) rfl (by kernel_rfl) (by kernel_rfl) (by kernel_rfl) (fun _ _ _ h => h) (Or.inl ⟨by rfl, ?hy1⟩) (by assumption) ?rest1
      case hy1 => (intro w hSw; obtain s1 := hSw; go_simp <;> with_reducible rfl)
      case rest1 =>
      go_frame
      refine' wpAnyH_take (i := 2) (oi := ⟨some 21, .fieldAddr 119 (.tmp 20) 1, _, _, _, none⟩) (v := _) rfl (by kernel_rfl) (by kernel_rfl) (by kernel_rfl) (fun _ _ _ h => h) (Or.inl ⟨by rfl, ?hy2⟩) (by assumption) ?rest2
      case hy2 => (intro w hSw; obtain s1 := hSw; go_simp <;> with_reducible rfl)
      case rest2 =>
      go_frame
      refine' wpAnyH_take (i := 3) (oi := ⟨some 22, .load 116 (.tmp 21), _, _, _, none⟩) (v := _) rfl (by kernel_rfl) (by kernel_rfl) (by kernel_rfl) (fun _ _ _ h => h) (Or.inl ⟨by rfl, ?hy3⟩) (by assumption) ?rest3
      case hy3 => (intro w hSw; obtain s1 := hSw; go_simp <;> with_reducible rfl)
      case rest3 =>
      go_frame
      refine' wpAnyH_take (i := 4) (oi := ⟨some 23, .move (.tmp 3), _, _, _, none⟩) (v := _) rfl (by kernel_rfl) (by kernel_rfl) (by kernel_rfl) (fun _ _ _ h => h) (Or.inl ⟨by rfl, ?hy4⟩) (by assumption) ?rest4
      case hy4 => (intro w hSw; obtain s1 := hSw; go_simp <;> with_reducible rfl)
      case rest4 =>
      go_frame
      refine' wpAnyH_take (i := 5) (oi := ⟨some 24, .move (.tmp 0), _, _, _, none⟩) (v := _) rfl (by kernel_rfl) (by kernel_rfl) (by kernel_rfl) (fun _ _ _ h => h) (Or.inl ⟨by rfl, ?hy5⟩) (by assumption) ?rest5
      case hy5 => (intro w hSw; obtain s1 := hSw; go_simp <;> with_reducible rfl)
      case rest5 =>
      go_frame
      refine' wpAnyH_take (i := 6) (oi := ⟨some 25, .move (.tmp 3), _, _, _, none⟩) (v := _) rfl (by kernel_rfl) (by kernel_rfl) (by kernel_rfl) (fun _ _ _ h => h) (Or.inl ⟨by rfl, ?hy6⟩) (by assumption) ?rest6
      case hy6 => (intro w hSw; obtain s1 := hSw; go_simp <;> with_reducible rfl)
      case rest6 =>
      go_frame
      refine wpAnyH_ready (rs := [7]) (by kernel_rfl) (by simp) (AllReadyH.cons (o := ⟨some 26, .call { callee := .value (.func 50), args := #[.tmp 24, .tmp 25], argTypes := #[39, 3] }, _, _, _, none⟩) rfl (fun K hK => ?_) AllReadyH.nil)
      rw [if_pos (by rfl)]
      go_simp
      refine Hnow.out.mono ?_
      rintro e w4 ⟨rfl, hb4⟩
      dsimp only
      have hc84 : w4.cell? ⟨p, 8, none⟩ = some (.slice (some ⟨bl, 0, none⟩) d2.L.length d2.L.length) := (hb4.cell (p := ⟨p, 8, none⟩) hd3.lt.1).trans hc8
      refine hK.out _ _ hc84 (fun hHeld => ?_)
      clear hK K
      refine' wpAnyH_take (i := 8) (oi := ⟨some 27, .indexAddr 116 (.tmp 22) (.tmp 23), _, _, _, none⟩) (v := _) rfl (by kernel_rfl) (by kernel_rfl) (by kernel_rfl) (fun _ _ _ h => h) (Or.inl ⟨by rfl, ?hy8⟩) (by assumption) ?rest8
      case hy8 => (intro w hSw; obtain s1 := hSw; go_simp <;> with_reducible rfl)
      case rest8 =>
      go_frame
      have hd4 : DevIs w4 F p bl bm S D { d2 with L := d2.half left } := (hd3.keep (w' := w3.drew) fun _ _ _ => rfl).below hb4
      have hwl := Dev.now_wide hd4 hi'
      rw [Dev.now_waits d2 _ hq'.out] at hwl
      obtain ⟨w5, hst, hb5, hg5, hs5⟩ := store_sector (P := Tryz.prog) hd4.last hwl (o := i * 256) (by rw [flat_length hd4.wl]; simp only; omega) info_sector
      rw [flat_set hd4.wl hi', ← Dev.half_step] at hb5
      refine wpAnyH_ready (rs := [9]) (by kernel_rfl) (by simp) (AllReadyH.cons (o := ⟨none, .store 121 (.tmp 27) (.tmp 26), _, _, _, none⟩) rfl (fun K hK => ?_) AllReadyH.nil)
      rw [if_pos (by rfl)]
      refine wp_skip w5 (exec_store (t := 121) (x := .tmp 27) (y := .tmp 26) rfl (vx := .pointer (some ⟨bl, i * 256, none⟩)) rfl (vy := .agg (cellsB (d2.now i)).toArray) rfl hst) ?_
      have hd5 : DevIs w5 F p bl bm S D { d2 with L := d2.half (fun z => left z && !z.sameKey (keyL i)) } := hd4.set_last hb5 hg5 (by simp [Dev.half_length]) (Hwide.out _)
      have hc85 : w5.cell? ⟨p, 8, none⟩ = some (.slice (some ⟨bl, 0, none⟩) d2.L.length d2.L.length) := by
        have := hd5.c8
        simpa [Dev.half_length] using this
      refine hK.out _ _ hc85 (fun hHeld => ?_)
      clear hK K
      go_frame
      refine wpAnyH_done (by kernel_rfl) ?_ _
      clear hHeld Hnow
      go_wp2_with fail
      have hrg5 : w5.ranges Tryz.prog 3 asHeld bm w1.heap.size d2.n D (fun z => left z && !z.sameKey (keyL i)) cnt3 := by
        have h1 : w4.ranges Tryz.prog 3 asHeld bm w1.heap.size d2.n D (fun z => left z && !z.sameKey (keyL i)) cnt3 := hrg3.kept (w' := w4) (row := none) ⟨hb4.os, hb4.tape, hb4.output, hb4.size, fun k hk _ => hb4.block k hk⟩ (by simp) (by simp)
        refine h1.kept hg5 (fun e => hd4.ne.2.2 (by injection e with e; exact e.symm)) (fun e => ?_)
        injection e with e
        obtain ⟨_, _, _, _, _, _, _, _, _, hr, _⟩ := h1
        rw [e, hd4.last] at hr
        cases hr
      go_roundw
      have hgo : Only F w4 w5 := Only.grown hg5 (fun g e => by cases e; exact hd4.inF.2.1)
      have hdr : Only F w3 w4 := (Only.drew F w3).trans (Only.of_below hb4)
      case rel =>
        exact ⟨_, _, hrg5, hd5, ho3.trans (hdr.trans hgo)⟩
      case measure =>
        rw [hrg5.left_eq, hrg.left_eq]
        exact Hleft.out
end
end Go.Proofs.YtnmokkkbghlpbaaGreat
/-
  A cache over its device, both in one memory: a frame written, room made, a sector read: contracts.
-/
namespace Go.Proofs.YtnmokkkbghlpbaaGreat
open Go.RowKit
/-- In w there is the cache x over the device d, the device in blocks of G. -/
structure CD (w : World) (G : Nat → Prop) (c bf p : Nat) (x : Cch) (d : Dev) : Prop where
  cache : CacheIs w c bf p x
  dev : ∃ bl bm S D, DevIs w G p bl bm S D d
  nc : ¬ G c ∧ ¬ G bf
/-- What may turn of both. -/
abbrev Foot (G : Nat → Prop) (c bf : Nat) : Nat → Prop := fun k => G k ∨ k = c ∨ k = bf
section
variable {w w' : World} {G G' : Nat → Prop} {c bf p : Nat} {x y : Cch} {d d' : Dev}
theorem CD.below (h : CD w G c bf p x d) (hb : Below w.heap.size w w') : CD w' G c bf p x d := by
  obtain ⟨bl, bm, S, D, hd⟩ := h.dev
  exact ⟨h.cache.below hb, ⟨bl, bm, S, D, hd.below hb⟩, h.nc⟩
theorem CD.drew (h : CD w G c bf p x d) : CD w.drew G c bf p x d := h.below (Below.refl _ w).drew
/-- The cache alone has turned. -/
theorem CD.turned (h : CD w G c bf p x d) (hc : CacheIs w' c bf p y) (ho : Only (fun k => k = c ∨ k = bf) w w') : CD w' G c bf p y d := by
  obtain ⟨bl, bm, S, D, hd⟩ := h.dev
  refine ⟨hc, ⟨bl, bm, S, D, hd.keep fun k hk hg => ho.block k hk fun e => ?_⟩, h.nc⟩
  rcases e with rfl | rfl
  · exact h.nc.1 hg
  · exact h.nc.2 hg
/-- The device alone has turned. -/
theorem CD.moved (h : CD w G c bf p x d) {bl bm : Nat} {S : Nat → Value} {D : DataW Value} (hd : DevIs w' G p bl bm S D d') (ho : Only G w w') : CD w' G c bf p x d' :=
  ⟨h.cache.only ho h.nc.1 h.nc.2, ⟨bl, bm, S, D, hd⟩, h.nc⟩
theorem Only.cache (h : Only (fun k => k = c ∨ k = bf) w w') : Only (Foot G c bf) w w' := h.mono fun _ _ hk => .inr hk
theorem Only.device (h : Only G w w') : Only (Foot G c bf) w w' := h.mono fun _ _ hk => .inl hk
theorem CD.k2 (h : CD w G c bf p x d) : w.cell? ⟨c, 2, none⟩ = some (at0 p) := h.cache.k2
theorem CD.lt (h : CD w G c bf p x d) : c < w.heap.size ∧ bf < w.heap.size := h.cache.lt
theorem getD_at {L : List Frm} {i : Nat} (hi : i < L.length) : L.getD i Frm.zero = L[i] := by rw [List.getD_eq_getElem?_getD, List.getElem?_eq_getElem hi, Option.getD_some]
/-- Frame i, brought to the device: what is told, the cache and the device then. -/
def Cch.write (x : Cch) (d : Dev) (i : Nat) : Int × Cch × Dev :=
  if d.burns 2 = true then (3, x, d.burn 2)
  else (0, { x with L := x.L.set i { x.L.getD i Frm.zero with dirty := false } }, (d.burn 2).put (x.L.getD i Frm.zero).no.toNat (x.L.getD i Frm.zero).b)
set_option maxRecDepth 100000 in
set_option maxHeartbeats 400000 in
theorem cwrite_any (h : CD w G c bf p x d) {i : Nat} (hi : i < x.L.length) (hno : 0 ≤ (x.L.getD i Frm.zero).no ∧ (x.L.getD i Frm.zero).no < d.L.length) (hn : d.n < 1000000) (hG : ∀ k, w.heap.size ≤ k → G k) :
    Calls Tryz.prog 44 #[at0 c, frPtr bf (some i)] w fun e w' => e = .returned (.int .i64 (x.write d i).1) ∧ CD w' G c bf p (x.write d i).2.1 (x.write d i).2.2 ∧ Only (Foot G c bf) w w' := by
  rw [show frPtr bf (some i) = frAt bf (i * 261) from rfl]
  have k2 := h.k2
  have q1 := h.cache.f1 hi
  have q2 := h.cache.bytes hi
  have q3 := h.cache.f258 hi
  have ff := h.cache.freeF (i * 261 + 258)
  have hw := h.cache.wide.at_ hi
  rw [getD_at hi] at hno
  obtain ⟨m, hm⟩ : ∃ m : Nat, x.L[i].no = m := ⟨x.L[i].no.toNat, by omega⟩
  rw [hm] at q1 hno
  obtain ⟨bl, bm, S, D, hd⟩ := h.dev
  have hlt := h.lt
  by_cases hb : d.burns 2 = true
  · have hW := write_io (i := m) (A := some ⟨bf, i * 261 + 2, none⟩) (c := 256) (w := w.drew) (hd.below (Below.refl _ w).drew) (by omega) hb
    have e : x.write d i = (3, x, d.burn 2) := if_pos hb
    rw [e]
    have HW := Lib.hid hW
    have H := Lib.hid h
    clear hW h q2 hb e hd hw q3 hi hm hno
    go_enter Tryz.func44, Tryz.ntmps44
    go_wp2_with fail
    go_still_tail 12, (by kernel_rfl)
    change wpList _ _ _ _ _ w.drew
    go_wp2_with (go_at_call 75; refine HW.out.mono ?_; rintro e w1 ⟨rfl, hd1, ho1⟩)
    go_ret
    exact ⟨rfl, H.out.drew.moved hd1 ho1, ((Only.drew _ _).trans ho1).device⟩
  · have hW := write_ok (i := m) (bb := bf) (bo := i * 261 + 2) (c := 256) (w := w.drew) (hd.below (Below.refl _ w).drew) (by omega) (by simpa using hb) hn hw q2 hlt.2 h.nc.2 hG
    have e : x.write d i = (0, { x with L := x.L.set i { x.L[i] with dirty := false } }, (d.burn 2).put m x.L[i].b) := by
      rw [Cch.write, if_neg hb, getD_at hi, hm, Int.toNat_natCast]
    rw [e]
    have HW := Lib.hid hW
    have H := Lib.hid h
    have Hdone : Hid (∀ w1 bl bm S D, DevIs w1 G p bl bm S D ((d.burn 2).put m x.L[i].b) → Only G w w1 → w1.cell? ⟨bf, i * 261 + 258, none⟩ = some (.bool x.L[i].dirty) ∧ w1.frozen? ⟨bf, i * 261 + 258, none⟩ = false ∧
        CD (w1.setCell ⟨bf, i * 261 + 258, none⟩ (.bool false)) G c bf p { x with L := x.L.set i { x.L[i] with dirty := false } } ((d.burn 2).put m x.L[i].b) ∧ Only (Foot G c bf) w (w1.setCell ⟨bf, i * 261 + 258, none⟩ (.bool false))) := Lib.hid fun w1 bl bm S D hd1 ho1 => by
      have h1 := h.moved hd1 ho1
      have ho2 : Only (fun k => k = c ∨ k = bf) w1 (w1.setCell ⟨bf, i * 261 + 258, none⟩ (.bool false)) := Only.setCell (p := ⟨bf, i * 261 + 258, none⟩) (.inr rfl) _
      exact ⟨h1.cache.f258 hi, h1.cache.freeF _, h1.turned (h1.cache.set hi (by omega) (frCells_set258 hw false) hw) ho2, ho1.device.trans ho2.cache⟩
    obtain ⟨x2, hx2⟩ : ∃ x2 : Cch, x2 = { x with L := x.L.set i { x.L[i] with dirty := false } } := ⟨_, rfl⟩
    obtain ⟨d2, hd2⟩ : ∃ d2, d2 = (d.burn 2).put m x.L[i].b := ⟨_, rfl⟩
    rw [← hx2, ← hd2] at Hdone
    rw [← hd2] at HW
    rw [← hx2, ← hd2]
    obtain ⟨db, hdb⟩ : ∃ db, db = x.L[i].dirty := ⟨_, rfl⟩
    rw [← hdb] at Hdone q3
    clear hW h q2 hb e hd hw hm hno H hdb hx2 hd2 q3 ff hi
    go_enter Tryz.func44, Tryz.ntmps44
    go_wp2_with fail
    go_still_tail 12, (by kernel_rfl)
    change wpList _ _ _ _ _ w.drew
    go_wp2_with (go_at_call 75; refine HW.out.mono ?_; rintro e w1 ⟨S1, D1, rfl, hd1, ho1⟩; obtain ⟨g1, g2, g3, g4⟩ := Hdone.out _ _ _ _ _ hd1 ((Only.drew _ _).trans ho1); have G3 := Lib.hid g3; have G4 := Lib.hid g4; clear g3 g4 hd1 ho1)
    go_ret
    exact ⟨rfl, G3.out, G4.out⟩
/-- Frame i holds nothing any more. -/
def Cch.wipe (x : Cch) (i : Nat) : Cch := { x with L := x.L.set i Frm.zero }
theorem cdrop_yes (h : CD w G c bf p x d) {i : Nat} (hi : i < x.L.length) (hp : (x.L.getD i Frm.zero).pins = 0) :
    Calls Tryz.prog 170 #[frPtr bf (some i)] w fun e w' => e = .returned (.bool true) ∧ CD w' G c bf p (x.wipe i) d ∧ Only (Foot G c bf) w w' := by
  rw [getD_at hi] at hp
  have q := h.cache.f260 hi
  rw [hp] at q
  have hl := chunks_length h.cache.wide.cells
  have hb : i * 261 + 261 ≤ (rows x.L).length := by
    have := Nat.mul_le_mul_right 261 (show i + 1 ≤ x.L.length by omega)
    unfold rows
    omega
  refine (drop_yes q h.cache.frs hb).mono ?_
  rintro e w' ⟨rfl, h1, h2, _⟩
  have hz : (Frm.zero).b.length = 256 := List.length_replicate
  have ho : Only (fun k => k = c ∨ k = bf) w w' := Only.grown h2 fun g e => .inr (by injection e with e; exact e.symm)
  refine ⟨rfl, h.turned ?_ ho, ho.cache⟩
  have hf : (frCells x.L[i]).take 0 ++ frCells Frm.zero ++ (frCells x.L[i]).drop (0 + (frCells Frm.zero).length) = frCells Frm.zero := by
    rw [Nat.zero_add, frCells_length hz, List.drop_of_length_le (by rw [frCells_length (h.cache.wide.at_ hi)]; omega)]
    simp
  exact h.cache.put (j := 0) hi (by rw [frCells_length hz]; omega) hf hz (by rw [Nat.add_zero]; exact h1) h2
/-- A frame, but for whether it was used. -/
def Frm.core (f : Frm) : Frm := { f with used := false }
theorem turnGo_core : ∀ (k : Nat) (x : Cch), (turnGo k x).2.L.map Frm.core = x.L.map Frm.core
  | 0, _ => rfl
  | k + 1, x => by
    unfold turnGo
    split
    · rw [turnGo_core]
    · split
      · rw [turnGo_core]
        show (x.L.set _ _).map _ = _
        by_cases hh : x.hand < x.L.length
        · rw [List.map_set, getD_at hh]
          apply List.ext_getElem
          · simp
          · intro j h1 h2
            rw [List.getElem_set]
            split
            · rename_i e; subst e; simp [Frm.core]
            · rfl
        · rw [List.set_eq_of_length_le (by omega)]
      · rfl
theorem turnGo_some : ∀ (k : Nat) (x : Cch) (i : Nat), x.hand < x.L.length → (turnGo k x).1 = some i → i < x.L.length ∧ ((turnGo k x).2.L.getD i Frm.zero).pins = 0
  | 0, _, _, _, h => by cases h
  | k + 1, x, i, hh, h => by
    have hm : (x.hand + 1) % x.L.length < x.L.length := Nat.mod_lt _ (by omega)
    unfold turnGo at h ⊢
    split at h
    · rename_i h1
      rw [if_pos h1]
      exact turnGo_some k _ i hm h
    · rename_i h1
      rw [if_neg h1]
      split at h
      · rename_i h2
        rw [if_pos h2]
        have := turnGo_some k { L := x.L.set x.hand { x.L.getD x.hand Frm.zero with used := false }, hand := (x.hand + 1) % x.L.length } i (by simpa using hm) h
        rw [List.length_set] at this
        exact this
      · rename_i h2
        rw [if_neg h2]
        injection h with h
        subst h
        exact ⟨hh, by simpa using h1⟩
theorem core_same {L M : List Frm} (h : M.map Frm.core = L.map Frm.core) : M.length = L.length ∧ ∀ i, (M.getD i Frm.zero).core = (L.getD i Frm.zero).core := by
  have hl : M.length = L.length := by simpa using congrArg List.length h
  refine ⟨hl, fun i => ?_⟩
  by_cases hi : i < L.length
  · have h1 : (M.map Frm.core)[i]? = (L.map Frm.core)[i]? := by rw [h]
    rw [List.getElem?_map, List.getElem?_map, List.getElem?_eq_getElem hi, List.getElem?_eq_getElem (by omega)] at h1
    rw [getD_at hi, getD_at (show i < M.length by omega)]
    exact Option.some.inj h1
  · rw [List.getD_eq_getElem?_getD, List.getD_eq_getElem?_getD, List.getElem?_eq_none (by omega), List.getElem?_eq_none (by omega)]
theorem core_parts {f g : Frm} (h : f.core = g.core) : f.full = g.full ∧ f.no = g.no ∧ f.b = g.b ∧ f.dirty = g.dirty ∧ f.pins = g.pins := by
  unfold Frm.core at h
  injection h with h1 h2 h3 h4 h5 h6
  exact ⟨h1, h2, h3, h4, h6⟩
/-- Each frame that holds a sector holds one of the n there are. -/
def Cch.Within (x : Cch) (n : Nat) : Prop := ∀ i, i < x.L.length → (x.L.getD i Frm.zero).full = true → 0 ≤ (x.L.getD i Frm.zero).no ∧ (x.L.getD i Frm.zero).no < n
/-- Room for a sector: the frame, what is told, the cache and the device then. -/
def Cch.room (x : Cch) (d : Dev) : Option Nat × Int × Cch × Dev :=
  match x.empty with
  | some i => (some i, 0, x, d)
  | none => match x.turn with
    | (none, y) => (none, 11, y, d)
    | (some i, y) =>
      if (y.L.getD i Frm.zero).dirty = true then
        (if (y.write d i).1 = 0 then (some i, 0, (y.write d i).2.1.wipe i, (y.write d i).2.2) else (none, (y.write d i).1, (y.write d i).2.1, (y.write d i).2.2))
      else (some i, 0, y.wipe i, d)
theorem empty_all {x : Cch} (h : x.empty = none) (i : Nat) (hi : i < x.L.length) : (x.L.getD i Frm.zero).full = true := by
  unfold Cch.empty at h
  rw [List.findIdx?_eq_none_iff] at h
  have := h x.L[i] (List.getElem_mem hi)
  rw [getD_at hi]
  simpa using this
theorem write_told (y : Cch) (d : Dev) (i : Nat) : (y.write d i).1 = 0 ∨ (y.write d i).1 = 3 := by
  unfold Cch.write
  split
  · exact .inr rfl
  · exact .inl rfl
theorem write_L (y : Cch) (d : Dev) (i : Nat) : (y.write d i).2.1.L.length = y.L.length ∧ ((y.write d i).2.1.L.getD i Frm.zero).pins = (y.L.getD i Frm.zero).pins := by
  unfold Cch.write
  split
  · exact ⟨rfl, rfl⟩
  · refine ⟨List.length_set, ?_⟩
    by_cases hi : i < y.L.length
    · rw [getD_at (show i < (y.L.set i _).length by rw [List.length_set]; exact hi), List.getElem_set, if_pos rfl]
    · show ((y.L.set i _).getD i Frm.zero).pins = _
      rw [List.set_eq_of_length_le (by omega)]
set_option maxRecDepth 100000 in
set_option maxHeartbeats 400000 in
theorem room_any (h : CD w G c bf p x d) (hr : x.Within d.L.length) (hn : d.n < 1000000) (hG : ∀ k, w.heap.size ≤ k → G k) :
    Calls Tryz.prog 139 #[at0 c] w fun e w' => e = .returned (.tuple #[frPtr bf (x.room d).1, .int .i64 (x.room d).2.1]) ∧ CD w' G c bf p (x.room d).2.2.1 (x.room d).2.2.2 ∧ Only (Foot G c bf) w w' := by
  have hE := empty_any h.cache
  rcases he : x.empty with _ | i
  · have hT := turn_any h.cache
    have hcore := core_same (turnGo_core (2 * x.L.length) x)
    have hsome := turnGo_some (2 * x.L.length) x
    rw [he] at hE
    have hful := empty_all he
    have hturn : turnGo (2 * x.L.length) x = x.turn := rfl
    rw [hturn] at hcore hsome
    rcases ht : x.turn with ⟨_ | i, y⟩
    · have hroom : x.room d = (none, 11, y, d) := by unfold Cch.room; rw [he, ht]
      rw [hroom]
      rw [ht] at hT
      have HE := Lib.hid hE
      have HT := Lib.hid hT
      have H := Lib.hid h
      clear hE hT h hcore hsome hful hr he ht hroom hturn
      go_enter Tryz.func139, Tryz.ntmps139
      go_wp2_with (first
        | (go_at_call 173; refine HE.out.mono ?_; rintro e w1 ⟨rfl, rfl⟩; rw [show frPtr bf none = .pointer none from rfl])
        | (go_at_call 174; refine HT.out.mono ?_; rintro e w1 ⟨rfl, hc1, ho1⟩; rw [show frPtr bf (none, y).1 = .pointer none from rfl]))
      go_ret2
      exact ⟨rfl, H.out.turned hc1 ho1, ho1.cache⟩
    · rw [ht] at hT hcore hsome
      obtain ⟨hi, hpin⟩ := hsome i h.cache.hand rfl
      obtain ⟨hylen, hsame⟩ := hcore
      have hyi : i < y.L.length := by rw [hylen]; exact hi
      have hpar := core_parts (hsame i)
      have hfull := hful i hi
      have hno := hr i hi hfull
      rw [← hpar.2.1] at hno
      have hroom : x.room d = if (y.L.getD i Frm.zero).dirty = true then
        (if (y.write d i).1 = 0 then (some i, 0, (y.write d i).2.1.wipe i, (y.write d i).2.2) else (none, (y.write d i).1, (y.write d i).2.1, (y.write d i).2.2))
      else (some i, 0, y.wipe i, d) := by unfold Cch.room; rw [he, ht]
      rw [hroom]
      have HE := Lib.hid hE
      have HT := Lib.hid hT
      have hW : ∀ w1, CacheIs w1 c bf p y → Only (fun k => k = c ∨ k = bf) w w1 → Calls Tryz.prog 44 #[at0 c, frPtr bf (some i)] w1 fun e w' => e = .returned (.int .i64 (y.write d i).1) ∧ CD w' G c bf p (y.write d i).2.1 (y.write d i).2.2 ∧ Only (Foot G c bf) w1 w' :=
        fun w1 hc1 ho1 => cwrite_any (h.turned hc1 ho1) hyi hno hn (fun k hk => hG k (Nat.le_trans ho1.size hk))
      have hD : ∀ w1, CD w1 G c bf p (y.write d i).2.1 (y.write d i).2.2 → Calls Tryz.prog 170 #[frPtr bf (some i)] w1 fun e w' => e = .returned (.bool true) ∧ CD w' G c bf p ((y.write d i).2.1.wipe i) (y.write d i).2.2 ∧ Only (Foot G c bf) w1 w' :=
        fun w1 h1 => cdrop_yes h1 (by rw [(write_L y d i).1]; exact hyi) (by rw [(write_L y d i).2]; exact hpin)
      have hD2 : ∀ w1, CacheIs w1 c bf p y → Only (fun k => k = c ∨ k = bf) w w1 → Calls Tryz.prog 170 #[frPtr bf (some i)] w1 fun e w' => e = .returned (.bool true) ∧ CD w' G c bf p (y.wipe i) d ∧ Only (Foot G c bf) w1 w' :=
        fun w1 hc1 ho1 => cdrop_yes (h.turned hc1 ho1) hyi hpin
      have hq : ∀ w1, CacheIs w1 c bf p y → w1.cell? ⟨bf, i * 261 + 258, none⟩ = some (.bool (y.L.getD i Frm.zero).dirty) := fun w1 hc1 => by rw [getD_at hyi]; exact hc1.f258 hyi
      have hwr := write_told y d i
      obtain ⟨r, hrr⟩ : ∃ r, r = y.write d i := ⟨_, rfl⟩
      rw [← hrr] at hW hD hwr ⊢
      have HW := Lib.hid hW
      have HD := Lib.hid hD
      have HD2 := Lib.hid hD2
      have Hq := Lib.hid hq
      have hfp : frPtr bf (some i) = frAt bf (i * 261) := rfl
      rw [hfp] at HW HD HD2
      have HT2 : Hid (Calls Tryz.prog 174 #[at0 c] w fun e w' => e = .returned (frAt bf (i * 261)) ∧ CacheIs w' c bf p y ∧ Only (fun k => k = c ∨ k = bf) w w') := HT
      clear hE hT HT h hsome hsame hpar hfull hno hroom hful hr hW hD hD2 hq hrr he ht hpin hturn hi hyi hylen
      obtain ⟨db, hdb⟩ : ∃ db, db = (y.L.getD i Frm.zero).dirty := ⟨_, rfl⟩
      rw [← hdb] at Hq ⊢
      clear hdb
      rcases db with _ | _
      · rw [if_neg (by simp)]
        rw [show frPtr bf (some i, (0 : Int), y.wipe i, d).1 = frAt bf (i * 261) from rfl]
        go_enter Tryz.func139, Tryz.ntmps139
        go_wp2_with (first
          | (go_at_call 173; refine HE.out.mono ?_; rintro e w1 ⟨rfl, rfl⟩; rw [show frPtr bf none = .pointer none from rfl])
          | (go_at_call 174; refine HT2.out.mono ?_; rintro e w1 ⟨rfl, hc1, ho1⟩; have Hc1 := Lib.hid hc1; have Ho1 := Lib.hid ho1; have q1 := Hq.out w1 hc1; clear hc1 ho1)
          | (go_at_call 170; refine (HD2.out _ Hc1.out Ho1.out).mono ?_; rintro e w2 ⟨rfl, hc2, ho2⟩; have Hc2 := Lib.hid hc2; have Ho2 := Lib.hid ho2; clear hc2 ho2))
        go_ret2
        exact ⟨rfl, Hc2.out, Ho1.out.cache.trans Ho2.out⟩
      · rw [if_pos rfl]
        obtain ⟨rv, rx, rd⟩ := r
        rcases hwr with hwr | hwr
        · have hwr : rv = 0 := hwr
          subst hwr
          rw [if_pos rfl]
          rw [show frPtr bf (some i, (0 : Int), rx.wipe i, rd).1 = frAt bf (i * 261) from rfl]
          go_enter Tryz.func139, Tryz.ntmps139
          go_wp2_with (first
            | (go_at_call 173; refine HE.out.mono ?_; rintro e w1 ⟨rfl, rfl⟩; rw [show frPtr bf none = .pointer none from rfl])
            | (go_at_call 174; refine HT2.out.mono ?_; rintro e w1 ⟨rfl, hc1, ho1⟩; have Hc1 := Lib.hid hc1; have Ho1 := Lib.hid ho1; have q1 := Hq.out w1 hc1; clear hc1 ho1)
            | (go_at_call 44; refine (HW.out _ Hc1.out Ho1.out).mono ?_; rintro e w2 ⟨rfl, hc2, ho2⟩; have Hc2 := Lib.hid hc2; have Ho2 := Lib.hid ho2; clear hc2 ho2)
            | (go_at_call 170; refine (HD.out _ Hc2.out).mono ?_; rintro e w3 ⟨rfl, hc3, ho3⟩; have Hc3 := Lib.hid hc3; have Ho3 := Lib.hid ho3; clear hc3 ho3))
          go_ret2
          exact ⟨rfl, Hc3.out, (Ho1.out.cache.trans Ho2.out).trans Ho3.out⟩
        · have hwr : rv = 3 := hwr
          subst hwr
          rw [if_neg (show ¬ (3 : Int) = 0 by decide)]
          go_enter Tryz.func139, Tryz.ntmps139
          go_wp2_with (first
            | (go_at_call 173; refine HE.out.mono ?_; rintro e w1 ⟨rfl, rfl⟩; rw [show frPtr bf none = .pointer none from rfl])
            | (go_at_call 174; refine HT2.out.mono ?_; rintro e w1 ⟨rfl, hc1, ho1⟩; have Hc1 := Lib.hid hc1; have Ho1 := Lib.hid ho1; have q1 := Hq.out w1 hc1; clear hc1 ho1)
            | (go_at_call 44; refine (HW.out _ Hc1.out Ho1.out).mono ?_; rintro e w2 ⟨rfl, hc2, ho2⟩; have Hc2 := Lib.hid hc2; have Ho2 := Lib.hid ho2; clear hc2 ho2))
          go_ret2
          exact ⟨rfl, Hc2.out, Ho1.out.cache.trans Ho2.out⟩
  · have hroom : x.room d = (some i, 0, x, d) := by unfold Cch.room; rw [he]
    rw [hroom]
    rw [he] at hE
    have hE2 : Calls Tryz.prog 173 #[at0 c] w fun e w' => e = .returned (frAt bf (i * 261)) ∧ w = w' := hE
    rw [show frPtr bf (some i, (0 : Int), x, d).1 = frAt bf (i * 261) from rfl]
    have HE := Lib.hid hE2
    have H := Lib.hid h
    clear hE hE2 h he hroom hr
    go_enter Tryz.func139, Tryz.ntmps139
    go_wp2_with (go_at_call 173; refine HE.out.mono ?_; rintro e w1 ⟨rfl, rfl⟩)
    go_ret2
    exact ⟨rfl, H.out, Only.refl _ _⟩
end
end Go.Proofs.YtnmokkkbghlpbaaGreat
/-
  New, and what is told of no device; a sector of one byte; that what is flushed lasts.
-/
namespace Go.Proofs.YtnmokkkbghlpbaaGreat
open Go.RowKit
theorem madeCells_all (z : Array Value) (c : Value) (m n : Nat) (hm : 0 < m) (hz : z = Array.replicate m c) : madeCells z n = (List.replicate n c).toArray := by
  subst hz
  apply Array.ext_getElem?
  intro i
  simp only [madeCells, Array.getElem?_map, Array.size_replicate, List.getElem?_toArray]
  by_cases hi : i < n
  · have h1 : i % m < m := Nat.mod_lt _ hm
    simp [hi, h1]
  · simp [hi]
theorem cellsB_replicate (n : Nat) (b : UInt8) : cellsB (List.replicate n b) = List.replicate n (.int .u8 (b.toNat : Int)) := by simp [cellsB]
theorem flat_replicate (n : Nat) (l : List UInt8) (b : UInt8) (h : l = List.replicate 256 b) : flat (List.replicate n l) = List.replicate (n * 256) (.int .u8 (b.toNat : Int)) := by
  subst h
  induction n with
  | zero => simp [flat]
  | succ n ih => rw [List.replicate_succ, flat_cons, ih, cellsB_replicate, List.replicate_append_replicate]; congr 1; omega
/-- A sector of noughts. -/
def blank : List UInt8 := List.replicate 256 0
/-- A new device. -/
def Dev.new (n : Nat) : Dev := { f := fun _ => (false, 0), L := List.replicate n blank, Q := fun _ => [], n := 0 }
theorem wide_blank (n : Nat) : Wide (List.replicate n blank) := fun l hl => by rw [List.eq_of_mem_replicate hl]; exact List.length_replicate
set_option maxRecDepth 100000 in
theorem new_no {n : Int} (w : World) (h : n < 16 ∨ 1600 < n) : Calls Tryz.prog 28 #[.int .i64 n] w fun e w' => e = .returned (.tuple #[.pointer none, .int .i64 1]) ∧ w = w' := by
  rcases h with h | h
  · go_enter Tryz.func28, Tryz.ntmps28
    go_wp2_with fail
    go_ret2
    exact ⟨rfl, rfl⟩
  · have h1 : ¬ n < 16 := by omega
    go_enter Tryz.func28, Tryz.ntmps28
    go_wp2_with fail
    go_ret2
    exact ⟨rfl, rfl⟩
set_option maxRecDepth 100000 in
set_option maxHeartbeats 400000 in
theorem new_ok {n : Nat} (w : World) (F : Nat → Prop) (h : 16 ≤ n ∧ n ≤ 1600) (hF : ∀ k, w.heap.size ≤ k → F k) :
    Calls Tryz.prog 28 #[.int .i64 (n : Int)] w fun e w' => e = .returned (.tuple #[at0 (w.heap.size + 2), .int .i64 0]) ∧
      DevIs w' F (w.heap.size + 2) w.heap.size (w.heap.size + 1) (fun _ => .slice none 0 0) (.map []) (Dev.new n) ∧ Below w.heap.size w w' := by
  obtain ⟨i, hi, hz0, hz1, hz2⟩ := info_parts info_sector'
  have hmk := run_makeSlice (P := Tryz.prog) w 116 121 i _ Tryz.underlying116 hi hz0 .i64 .i64 (n : Int) (n : Int) (by omega) (by omega) (by rw [hz1]; omega) (by rw [hz2]; omega) (by omega)
  rw [hz1] at hmk
  have hcl : (Value.agg (Array.replicate 256 (Value.int .u8 0))).cells = Array.replicate 256 (Value.int .u8 0) := rfl
  rw [hcl, madeCells_all _ (.int .u8 0) 256 _ (by omega) rfl] at hmk
  have hfl : List.replicate ((n : Int).toNat * 256) (Value.int .u8 0) = flat (Dev.new n).L := by
    rw [show (Dev.new n).L = List.replicate n blank from rfl, flat_replicate n blank 0 rfl]
    simp
  rw [hfl] at hmk
  obtain ⟨C, hC⟩ : ∃ C, C = (flat (Dev.new n).L).toArray := ⟨_, rfl⟩
  rw [← hC] at hmk
  have hmm := @run_makeMap Tryz.prog
  have hnt : (n : Int).toNat = n := by omega
  rw [hnt] at hmk
  have hw : DevIs (((w.alloc (.cells C 121)).alloc (.map #[] 0)).alloc (.cells (devCells (Dev.new n) w.heap.size (w.heap.size + 1)).toArray 119)) F (w.heap.size + 2) w.heap.size (w.heap.size + 1) (fun _ => .slice none 0 0) (.map []) (Dev.new n) := by
    have hno : ∀ kl, Maps.has (DataW.map [] : DataW Value) kl = false := fun kl => rfl
    have s1 : (w.alloc (.cells C 121)).heap.size = w.heap.size + 1 := by simp
    have s2 : ((w.alloc (.cells C 121)).alloc (.map #[] 0)).heap.size = w.heap.size + 2 := by simp
    refine ⟨?_, ?_, ?_, fun i _ => Maps.atKey_of_not_has (hno _) _, fun i _ => World.ownsRow_nil _ _ _ _, fun i _ => ?_, fun kl hk => ?_, fun _ _ _ _ _ => .inl rfl, fun i g _ e => ?_, ⟨by omega, by omega, by omega⟩, ⟨hF _ (by omega), hF _ (by omega), hF _ (by omega)⟩, wide_blank n, fun _ => ?_, ?_, fun _ => Nat.zero_le _, fun _ => Nat.zero_le _⟩
    · rw [← s2]; exact heap_alloc_last _ _
    · rw [heap_alloc_old _ _ (by rw [s2]; omega), heap_alloc_old _ _ (by rw [s1]; omega), ← hC]; exact heap_alloc_last _ _
    · refine World.ownsMap.alloc ?_ _
      rw [← s1]
      exact World.ownsMap_made _ _ _ _
    · simp [hno, Dev.new]
    · rw [hno] at hk; cases hk
    · cases e
    · intro l hl; cases hl
    · simp [Dev.new, h.1, h.2]
  have Hw := Lib.hid hw
  have hdc : (devCells (Dev.new n) w.heap.size (w.heap.size + 1)).toArray = #[.bool false, .int .i64 0, .bool false, .int .i64 0, .bool false, .int .i64 0, .bool false, .int .i64 0, .slice (some ⟨w.heap.size, 0, none⟩) n n, .map (some (w.heap.size + 1)), .int .i64 0] := by
    simp [devCells, Dev.new]
  have Hdc := Lib.hid hdc
  clear hC hfl hw hdc hz0 hz1 hz2 hi
  have t1 : decide ((n : Int) < 16) = false := by simp; omega
  have t2 : decide (1600 < (n : Int)) = false := by simp; omega
  have Hn := Kept.mk h
  clear h hnt
  have Hmk := Lib.hid hmk
  clear hmk
  go_enter Tryz.func28, Tryz.ntmps28
  go_wp2_with ((with_reducible refine wpList_run (o := ⟨some 11, .makeSlice 116 (.tmp 10) (.tmp 10), _, _, _, none⟩) rfl (.slice (some ⟨w.heap.size, 0, none⟩) n n) (w.alloc (.cells C 121)) ?_ ?_); exact exec_makeSlice (t := 116) (x := .tmp 10) (y := .tmp 10) rfl (u := .int .i64 (n : Int)) rfl (v := .int .i64 (n : Int)) rfl Hmk.out)
  go_ret2
  have hfin := Hw.out
  rw [Hdc.out] at hfin
  exact ⟨rfl, hfin, (((Below.refl _ _).alloc (Nat.le_refl _) _).alloc (by simp) _).alloc (by simp; omega) _⟩
theorem fail_nil (a b : Int) (w : World) : Calls Tryz.prog 51 #[.pointer none, .int .i64 a, .int .i64 b] w fun e w' => e = .returned (.int .i64 1) ∧ w = w' := by
  go_enter Tryz.func51, Tryz.ntmps51
  go_wp2_with fail
  go_ret
  exact ⟨rfl, rfl⟩
/-- A sector of one byte, as far as it was written: k of its bytes. -/
def upTo256 (b : UInt8) (k : Nat) : List UInt8 := List.replicate k b ++ List.replicate (256 - k) 0
theorem upTo256_length (b : UInt8) (k : Nat) (h : k ≤ 256) : (upTo256 b k).length = 256 := by simp [upTo256]; omega
theorem upTo256_all (b : UInt8) : upTo256 b 256 = List.replicate 256 b := by unfold upTo256; rw [Nat.sub_self, List.replicate_zero, List.append_nil]
theorem upTo256_set (b : UInt8) (k : Nat) (h : k < 256) : (cellsB (upTo256 b k)).set k (.int .u8 (b.toNat : Int)) = cellsB (upTo256 b (k + 1)) := by
  unfold cellsB
  rw [← List.map_set]
  congr 1
  apply List.ext_getElem?
  intro j
  rw [List.getElem?_set]
  unfold upTo256
  by_cases hj : k = j
  · subst hj
    rw [if_pos rfl, if_pos (by simp; omega), List.getElem?_append_left (by simp)]
    simp
  · rw [if_neg hj]
    by_cases h1 : j < k
    · rw [List.getElem?_append_left (by simp; omega), List.getElem?_append_left (by simp; omega)]
      simp [h1, Nat.lt_succ_of_lt h1]
    · rw [List.getElem?_append_right (by simp; omega), List.getElem?_append_right (by simp; omega)]
      simp only [List.length_replicate, List.getElem?_replicate]
      by_cases h2 : j < 256
      · rw [if_pos (by omega), if_pos (by omega)]
      · rw [if_neg (by omega), if_neg (by omega)]
end Go.Proofs.YtnmokkkbghlpbaaGreat
/-
  Write, with the bytes in a block that is not the device's; small words.
-/
namespace Go.Proofs.YtnmokkkbghlpbaaGreat
open Go.RowKit
section
variable {w : World} {F : Nat → Prop} {p bl bm : Nat} {S : Nat → Value} {D : DataW Value} {d : Dev}
theorem DevIs.tight (h : DevIs w F p bl bm S D d) : DevIs w (fun k => F k ∧ k < w.heap.size) p bl bm S D d := h.mono fun _ hk hF => ⟨hF, hk⟩
theorem DevIs.far (h : DevIs w F p bl bm S D d) {w' : World} (hb : Below w.heap.size w w') {g : Nat} (hg : w.heap.size ≤ g) : DevIs w' (fun k => F k ∧ k ≠ g) p bl bm S D d :=
  (h.tight.below hb).mono fun k _ hk => ⟨hk.1, by omega⟩
theorem write_far {i : Nat} {bb bo c : Nat} {l : List UInt8} (h : DevIs w (fun k => F k ∧ k ≠ bb) p bl bm S D d) (hi : i < d.L.length) (hb : d.burns 2 = false) (hn : d.n < 1000000)
    (hl : l.length = 256) (hr : w.rangeAt bb bo (cellsB l)) (hbb : bb < w.heap.size) (hF : ∀ k, w.heap.size ≤ k → F k) :
    Calls Tryz.prog 75 #[at0 p, .int .i64 (i : Int), .slice (some ⟨bb, bo, none⟩) 256 c] w fun e w' => ∃ S' D', e = .returned (.int .i64 0) ∧ DevIs w' F p bl bm S' D' ((d.burn 2).put i l) ∧ Only F w w' := by
  refine (write_ok h hi hb hn hl hr hbb (fun hn => hn.2 rfl) (fun k hk => ⟨hF k hk, by omega⟩)).mono ?_
  rintro e w' ⟨S', D', rfl, hd, ho⟩
  exact ⟨S', D', rfl, hd.mono fun k _ hk => hk.1, ho.mono fun k _ hk => hk.1⟩
theorem Dev.burn_idle (d : Dev) (k : Nat) (h : (d.f k).1 = false) : d.burn k = d := by simp [Dev.burn, h]
theorem Dev.burns_idle (d : Dev) (k : Nat) (h : (d.f k).1 = false) : d.burns k = false := by simp [Dev.burns, h]
theorem range_new {g : Nat} {t : TypeId} {xs : List Value} (hg : w.heap[g]? = some (.cells xs.toArray t (0, 0))) : w.rangeAt g 0 xs := rangeAt_block hg fun j u hu => by rw [Nat.zero_add]; exact hu
theorem Dev.new_length (n : Nat) : (Dev.new n).L.length = n := by simp [Dev.new]
theorem Dev.flush_length (d : Dev) : d.flush.L.length = d.L.length := by simp [Dev.flush]
end
end Go.Proofs.YtnmokkkbghlpbaaGreat
/-
  Get and Put of a cache: contracts.
-/
namespace Go.Proofs.YtnmokkkbghlpbaaGreat
open Go.RowKit
/-- Frame i holds sector no. -/
def Cch.hold (x : Cch) (i : Nat) (no : Int) : Cch := { x with L := x.L.set i { x.L.getD i Frm.zero with full := true, no := no } }
/-- Frame i has the bytes l. -/
def Cch.bytes (x : Cch) (i : Nat) (l : List UInt8) : Cch := { x with L := x.L.set i { x.L.getD i Frm.zero with b := l } }
/-- Frame i is used. -/
def Cch.use (x : Cch) (i : Nat) : Cch := { x with L := x.L.set i { x.L.getD i Frm.zero with used := true } }
/-- Frame i is dirty. -/
def Cch.soil (x : Cch) (i : Nat) : Cch := { x with L := x.L.set i { x.L.getD i Frm.zero with dirty := true } }
theorem Cch.hold_len (x : Cch) (i : Nat) (no : Int) : (x.hold i no).L.length = x.L.length := List.length_set
theorem Cch.bytes_len (x : Cch) (i : Nat) (l : List UInt8) : (x.bytes i l).L.length = x.L.length := List.length_set
theorem Cch.use_len (x : Cch) (i : Nat) : (x.use i).L.length = x.L.length := List.length_set
theorem Cch.soil_len (x : Cch) (i : Nat) : (x.soil i).L.length = x.L.length := List.length_set
theorem Cch.wipe_len (x : Cch) (i : Nat) : (x.wipe i).L.length = x.L.length := List.length_set
theorem set_getD {L : List Frm} {i : Nat} (hi : i < L.length) (f : Frm) (j : Nat) : (L.set i f).getD j Frm.zero = if j = i then f else L.getD j Frm.zero := by
  simp only [List.getD_eq_getElem?_getD, List.getElem?_set]
  by_cases e : i = j
  · subst e; simp [hi]
  · rw [if_neg e, if_neg (fun h => e h.symm)]
section
variable {w w' : World} {G G' : Nat → Prop} {c bf p : Nat} {x y : Cch} {d d' : Dev}
theorem CD.mono (h : CD w G c bf p x d) (hG : ∀ k, k < w.heap.size → G k → G' k) (h1 : ¬ G' c) (h2 : ¬ G' bf) : CD w G' c bf p x d := by
  obtain ⟨bl, bm, S, D, hd⟩ := h.dev
  exact ⟨h.cache, ⟨bl, bm, S, D, hd.mono hG⟩, h1, h2⟩
/-- A block that is new is none of theirs. -/
theorem CD.far (h : CD w G c bf p x d) (hb : Below w.heap.size w w') {g : Nat} (hg : w.heap.size ≤ g) : CD w' (fun k => G k ∧ k ≠ g) c bf p x d := by
  have := h.mono (G' := fun k => G k ∧ k ≠ g) (fun k hk hgk => ⟨hgk, by omega⟩) (fun e => h.nc.1 e.1) (fun e => h.nc.2 e.1)
  exact this.below hb
theorem chold_any (h : CD w G c bf p x d) {i : Nat} (hi : i < x.L.length) (no : Int) : Calls Tryz.prog 140 #[frPtr bf (some i), .int .i64 no] w fun e w' => e = .returned (.tuple #[]) ∧ CD w' G c bf p (x.hold i no) d ∧ Only (fun k => k = c ∨ k = bf) w w' := by
  have hw := h.cache.wide.at_ hi
  refine (hold_any no (h.cache.f0 hi) (h.cache.f1 hi) (h.cache.freeF _) (h.cache.freeF _)).mono ?_
  rintro e w' ⟨rfl, rfl⟩
  have ho : Only (fun k => k = c ∨ k = bf) w ((w.setCell ⟨bf, i * 261, none⟩ (.bool true)).setCell ⟨bf, i * 261 + 1, none⟩ (.int .i64 no)) := (Only.setCell (p := ⟨bf, i * 261, none⟩) (.inr rfl) _).trans (Only.setCell (p := ⟨bf, i * 261 + 1, none⟩) (.inr rfl) _)
  refine ⟨rfl, h.turned ?_ ho, ho⟩
  have c1 := h.cache.set (i := i) (j := 0) (v := .bool true) hi (by omega) (frCells_set0 x.L[i] true) hw
  rw [Nat.add_zero] at c1
  have hi2 : i < (x.L.set i { x.L[i] with full := true }).length := by rw [List.length_set]; exact hi
  have e : (x.L.set i { x.L[i] with full := true })[i] = { x.L[i] with full := true } := by simp
  have c2 := c1.set (i := i) (j := 1) (v := .int .i64 no) (f := { x.L[i] with full := true, no := no }) hi2 (by omega) (by rw [e]; exact frCells_set1 _ no) hw
  have e2 : x.hold i no = { x with L := (x.L.set i { x.L[i] with full := true }).set i { x.L[i] with full := true, no := no } } := by
    unfold Cch.hold
    rw [List.set_set, getD_at hi]
  rw [e2]
  exact c2
theorem array_at (g o c : Nat) (w : World) : (Instr.arrayAt 146 (.slice (some ⟨g, o, none⟩) 256 c)).run Tryz.prog w = .ok (.pointer (some ⟨g, o, none⟩)) w := by simp [Instr.arrayAt, run_underlying Tryz.underlying146]
theorem info_csector : (Tryz.prog.info? 146).map (·.size) = some 256 := by kernel_rfl
set_option maxRecDepth 100000 in
/-- The bytes of frame i, stored. -/
theorem cstore_any (h : CD w G c bf p x d) {i : Nat} (hi : i < x.L.length) {l : List UInt8} (hl : l.length = 256) :
    ∃ w', (Instr.storeAt 146 (.pointer (some ⟨bf, i * 261 + 2, none⟩)) (.agg (cellsB l).toArray)).run Tryz.prog w = .ok () w' ∧ CD w' G c bf p (x.bytes i l) d ∧ Only (fun k => k = c ∨ k = bf) w w' := by
  have hlen : (cellsB l).length = 256 := by rw [cellsB_length, hl]
  have hall := chunks_length h.cache.wide.cells
  have hb : i * 261 + 261 ≤ (rows x.L).length := by
    have := Nat.mul_le_mul_right 261 (show i + 1 ≤ x.L.length by omega)
    unfold rows
    omega
  obtain ⟨w1, hrun, e1, e2, _⟩ := store_agg (P := Tryz.prog) h.cache.frs (cellsB_one l) (o := i * 261 + 2) (by omega) (ty := 146) (by rw [info_csector, hlen])
  have ho : Only (fun k => k = c ∨ k = bf) w w1 := Only.grown e2 fun g e => .inr (by injection e with e; exact e.symm)
  refine ⟨w1, hrun, h.turned ?_ ho, ho⟩
  have := h.cache.put (j := 2) hi (by omega) (frCells_putB (h.cache.wide.at_ hi) hl) hl e1 e2
  unfold Cch.bytes
  rw [getD_at hi]
  exact this
/-- Sector no, read into a frame that room was made in. -/
def Cch.read (x : Cch) (d : Dev) (no : Int) : Option Nat × Int × Cch × Dev :=
  match x.room d with
  | (none, e, y, dy) => (none, e, y, dy)
  | (some i, _, y, dy) => if dy.burns 1 = true then (none, 3, y, dy.burn 1) else (some i, 0, (y.hold i no).bytes i (dy.now no.toNat), dy.burn 1)
theorem turn_len (x : Cch) : x.turn.2.L.length = x.L.length := (core_same (turnGo_core (2 * x.L.length) x)).1
theorem write_dev (y : Cch) (d : Dev) (i : Nat) : (y.write d i).2.2.L.length = d.L.length ∧ (y.write d i).2.2.n ≤ d.n + 1 := by
  unfold Cch.write
  split
  · exact ⟨rfl, Nat.le_succ _⟩
  · exact ⟨rfl, Nat.le_refl _⟩
/-- What room made comes to: a frame, or an error. -/
theorem room_spec (x : Cch) (d : Dev) (hh : x.hand < x.L.length) : (x.room d).2.2.1.L.length = x.L.length ∧ (x.room d).2.2.2.L.length = d.L.length ∧ (x.room d).2.2.2.n ≤ d.n + 1 ∧
    ((∃ i, (x.room d).1 = some i ∧ (x.room d).2.1 = 0 ∧ i < x.L.length) ∨ ((x.room d).1 = none ∧ ((x.room d).2.1 = 3 ∨ (x.room d).2.1 = 11))) := by
  unfold Cch.room
  split
  · rename_i i he
    refine ⟨rfl, rfl, Nat.le_succ _, .inl ⟨i, rfl, rfl, ?_⟩⟩
    unfold Cch.empty at he
    rw [List.findIdx?_eq_some_iff_getElem] at he
    exact he.1
  · have hl := turn_len x
    have hs := turnGo_some (2 * x.L.length) x
    split
    · rename_i y ht
      rw [ht] at hl
      exact ⟨hl, rfl, Nat.le_succ _, .inr ⟨rfl, .inr rfl⟩⟩
    · rename_i i y ht
      rw [ht] at hl
      have ht' : turnGo (2 * x.L.length) x = (some i, y) := ht
      rw [ht'] at hs
      have hi := (hs i hh rfl).1
      have hW := write_dev y d i
      have hL := write_L y d i
      split
      · split
        · exact ⟨by rw [Cch.wipe_len, hL.1]; exact hl, hW.1, hW.2, .inl ⟨i, rfl, rfl, hi⟩⟩
        · rename_i h0
          exact ⟨by rw [hL.1]; exact hl, hW.1, hW.2, .inr ⟨rfl, (write_told y d i).elim (fun e => absurd e h0) .inl⟩⟩
      · exact ⟨by rw [Cch.wipe_len]; exact hl, rfl, Nat.le_succ _, .inl ⟨i, rfl, rfl, hi⟩⟩
set_option maxRecDepth 100000 in
set_option maxHeartbeats 400000 in
theorem cread_any (h : CD w G c bf p x d) (hr : x.Within d.L.length) (hn : d.n < 999999) (hG : ∀ k, w.heap.size ≤ k → G k) {no : Int} (hno : 0 ≤ no ∧ no < d.L.length) :
    Calls Tryz.prog 111 #[at0 c, .int .i64 no] w fun e w' => e = .returned (.tuple #[frPtr bf (x.read d no).1, .int .i64 (x.read d no).2.1]) ∧ CD w' G c bf p (x.read d no).2.2.1 (x.read d no).2.2.2 ∧ Only (Foot G c bf) w w' := by
  have hR := room_any h hr (by omega) hG
  obtain ⟨s1, s2, s3, s4⟩ := room_spec x d h.cache.hand
  obtain ⟨m, rfl⟩ : ∃ m : Nat, no = m := ⟨no.toNat, by omega⟩
  have hlt := h.lt
  obtain ⟨ro, re, y, dy, hroom⟩ : ∃ ro re y dy, x.room d = (ro, re, y, dy) := ⟨_, _, _, _, rfl⟩
  rw [hroom] at hR s1 s2 s3 s4
  rcases s4 with ⟨i, e1, e2, e3⟩ | ⟨e1, e2⟩
  · have e1 : ro = some i := e1
    have e2 : re = 0 := e2
    subst e1 e2
    have hyi : i < y.L.length := by have : y.L.length = x.L.length := s1; omega
    have hmd : m < dy.L.length := by have : dy.L.length = d.L.length := s2; omega
    have hdn : dy.n < 1000000 := by have : dy.n ≤ d.n + 1 := s3; omega
    have hread : x.read d (m : Int) = if dy.burns 1 = true then (none, 3, y, dy.burn 1) else (some i, 0, (y.hold i m).bytes i (dy.now m), dy.burn 1) := by
      unfold Cch.read
      rw [hroom]
      simp only [Int.toNat_natCast]
    rw [hread]
    have hR2 : Calls Tryz.prog 139 #[at0 c] w fun e w' => e = .returned (.tuple #[frAt bf (i * 261), .int .i64 0]) ∧ CD w' G c bf p y dy ∧ Only (Foot G c bf) w w' := hR
    have HR := Lib.hid hR2
    rcases hb : dy.burns 1 with _ | _
    · rw [if_neg (by simp)]
      rw [show frPtr bf (some i, (0 : Int), (y.hold i m).bytes i (dy.now m), dy.burn 1).1 = frAt bf (i * 261) from rfl]
      have hRd : ∀ w1, CD w1 G c bf p y dy → Only (Foot G c bf) w w1 → Calls Tryz.prog 21 #[at0 p, .int .i64 (m : Int)] w1 fun e w' => ∃ g, e = .returned (.tuple #[.slice (some ⟨g, 0, none⟩) 256 256, .int .i64 0]) ∧ w'.rangeAt g 0 (cellsB (dy.now m)) ∧ g ≠ c ∧ g ≠ bf ∧ g < w'.heap.size ∧ CD w' G c bf p y (dy.burn 1) ∧ Only (Foot G c bf) w w' := by
        intro w1 h1 ho1
        obtain ⟨bl, bm, S, D, hd⟩ := h1.dev
        refine (read_ok hd hmd hb hdn).mono ?_
        rintro e w' ⟨g, rfl, hg, hgs, hd', ho⟩
        have hl1 := h1.lt
        exact ⟨g, rfl, range_new hg, by omega, by omega, (Array.getElem?_eq_some_iff.1 hg).1, h1.moved hd' ho, ho1.trans ho.device⟩
      have hnow : (dy.now m).length = 256 ∨ ¬ ∃ w1, CD w1 G c bf p y dy := by
        by_cases he : ∃ w1, CD w1 G c bf p y dy
        · obtain ⟨w1, h1⟩ := he
          obtain ⟨bl, bm, S, D, hd⟩ := h1.dev
          exact .inl (Dev.now_wide hd hmd)
        · exact .inr he
      obtain ⟨l, hl⟩ : ∃ l, l = dy.now m := ⟨_, rfl⟩
      rw [← hl] at hRd hnow ⊢
      have hH : ∀ w2, CD w2 G c bf p y (dy.burn 1) → Calls Tryz.prog 140 #[frAt bf (i * 261), .int .i64 (m : Int)] w2 fun e w' => e = .returned (.tuple #[]) ∧ CD w' G c bf p (y.hold i m) (dy.burn 1) ∧ Only (fun k => k = c ∨ k = bf) w2 w' := fun w2 h2 => chold_any h2 hyi _
      have hS : ∀ w3, CD w3 G c bf p (y.hold i m) (dy.burn 1) → l.length = 256 → ∃ w', (Instr.storeAt 146 (.pointer (some ⟨bf, i * 261 + 2, none⟩)) (.agg (cellsB l).toArray)).run Tryz.prog w3 = .ok () w' ∧ CD w' G c bf p ((y.hold i m).bytes i l) (dy.burn 1) ∧ Only (fun k => k = c ∨ k = bf) w3 w' := fun w3 h3 hl => cstore_any h3 (by rw [Cch.hold_len]; exact hyi) hl
      have hI : l.length = 256 → (Tryz.prog.info? 146).map (·.size) = some (cellsB l).length := fun hl => by rw [info_csector, cellsB_length, hl]
      obtain ⟨y2, hy2⟩ : ∃ y2, y2 = y.hold i m := ⟨_, rfl⟩
      rw [← hy2] at hH hS ⊢
      obtain ⟨d2, hd2⟩ : ∃ d2, d2 = dy.burn 1 := ⟨_, rfl⟩
      rw [← hd2] at hRd hH hS ⊢
      obtain ⟨y3, hy3⟩ : ∃ y3, y3 = y2.bytes i l := ⟨_, rfl⟩
      rw [← hy3] at hS ⊢
      have HRd := Lib.hid hRd
      have Hnow := Lib.hid hnow
      have HH := Lib.hid hH
      have HS := Lib.hid hS
      have HI := Lib.hid hI
      clear hR hR2 h hroom hread hRd hnow hH hS hI hl hb hmd hdn hyi hy2 hd2 hy3 e3 s1 s2 s3 hno hn hr
      go_enter Tryz.func111, Tryz.ntmps111
      go_wp2_with (first
        | (go_at_call 139; refine HR.out.mono ?_; rintro e w1 ⟨rfl, h1, ho1⟩; have k2 := h1.k2; have H1 := Lib.hid h1; have Ho1 := Lib.hid ho1; clear h1 ho1)
        | (go_at_call 21; refine (HRd.out _ H1.out Ho1.out).mono ?_; rintro e w2 ⟨g, rfl, hg, hgc, hgb, hgl, h2, ho2⟩; have hl := Hnow.out.resolve_right (fun hh => hh ⟨_, H1.out⟩); have Hg := Lib.hid hg; have H2 := Lib.hid h2; have Ho2 := Lib.hid ho2; have Hl := Kept.mk hl; clear hg h2 ho2 hl)
        | (go_at_call 140; refine (HH.out _ H2.out).mono ?_; rintro e w3 ⟨rfl, h3, ho3⟩; obtain ⟨w4, hrun, h4, ho4⟩ := HS.out _ h3 Hl.out; have harr := array_at g 0 256 w3; have hrw : w3.rangeAt g 0 (cellsB l) := (fun j v hv => (World.cell?_of_block (ho3.block g hgl (fun e => e.elim hgc hgb))).trans (Hg.out j v hv)); have Hrw := Lib.hid hrw; have Hrun := Lib.hid hrun; have H4 := Lib.hid h4; have Ho4 := Lib.hid ((Ho2.out.trans ho3.cache).trans ho4.cache); have I1 := Lib.hid (HI.out Hl.out); clear h3 ho3 hrun h4 ho4 hrw)
        | ((with_reducible refine wpList_load_mid (op := ⟨some 35, .load 146 (.tmp 34), _, _, _, _⟩) rfl 146 (.tmp 34) rfl g 0 ?_ (cellsB l) (.array 256 5) Hrw.out Tryz.underlying146 rfl I1.out ?_); exact rfl)
        | ((with_reducible refine wpList_stored (o := ⟨none, .store 146 (.tmp 37) (.tmp 35), _, _, _, none⟩) rfl 146 (.tmp 37) (.tmp 35) rfl (.pointer (some ⟨bf, i * 261 + 2, none⟩)) (.agg (cellsB l).toArray) ?_ ?_ w4 Hrun.out ?_); exact rfl; exact rfl))
      go_ret2
      exact ⟨rfl, H4.out, Ho4.out⟩
    · rw [if_pos rfl]
      have hRd : ∀ w1, CD w1 G c bf p y dy → Only (Foot G c bf) w w1 → Calls Tryz.prog 21 #[at0 p, .int .i64 (m : Int)] w1 fun e w' => e = .returned (.tuple #[.slice none 0 0, .int .i64 3]) ∧ CD w' G c bf p y (dy.burn 1) ∧ Only (Foot G c bf) w w' := by
        intro w1 h1 ho1
        obtain ⟨bl, bm, S, D, hd⟩ := h1.dev
        refine (read_io hd hmd hb).mono ?_
        rintro e w' ⟨rfl, hd', ho⟩
        exact ⟨rfl, h1.moved hd' ho, ho1.trans ho.device⟩
      have HRd := Lib.hid hRd
      clear hR hR2 h hroom hread hRd hb hmd hdn hyi e3 s1 s2 s3 hno hn hr
      go_enter Tryz.func111, Tryz.ntmps111
      go_wp2_with (first
        | (go_at_call 139; refine HR.out.mono ?_; rintro e w1 ⟨rfl, h1, ho1⟩; have k2 := h1.k2; have H1 := Lib.hid h1; have Ho1 := Lib.hid ho1; clear h1 ho1)
        | (go_at_call 21; refine (HRd.out _ H1.out Ho1.out).mono ?_; rintro e w2 ⟨rfl, h2, ho2⟩; have H2 := Lib.hid h2; have Ho2 := Lib.hid ho2; clear h2 ho2))
      go_ret2
      exact ⟨rfl, H2.out, Ho2.out⟩
  · have e1 : ro = none := e1
    subst e1
    have e2 : re = 3 ∨ re = 11 := e2
    have hread : x.read d (m : Int) = (none, re, y, dy) := by
      unfold Cch.read
      rw [hroom]
    rw [hread]
    have hR2 : Calls Tryz.prog 139 #[at0 c] w fun e w' => e = .returned (.tuple #[.pointer none, .int .i64 re]) ∧ CD w' G c bf p y dy ∧ Only (Foot G c bf) w w' := hR
    have HR := Lib.hid hR2
    clear hR hR2 h hroom hread s1 s2 s3 hno hn hr
    rcases e2 with rfl | rfl
    · go_enter Tryz.func111, Tryz.ntmps111
      go_wp2_with (first
        | (go_at_call 139; refine HR.out.mono ?_; rintro e w1 ⟨rfl, h1, ho1⟩; have H1 := Lib.hid h1; have Ho1 := Lib.hid ho1; clear h1 ho1))
      go_ret2
      exact ⟨rfl, H1.out, Ho1.out⟩
    · go_enter Tryz.func111, Tryz.ntmps111
      go_wp2_with (first
        | (go_at_call 139; refine HR.out.mono ?_; rintro e w1 ⟨rfl, h1, ho1⟩; have H1 := Lib.hid h1; have Ho1 := Lib.hid ho1; clear h1 ho1))
      go_ret2
      exact ⟨rfl, H1.out, Ho1.out⟩
end
end Go.Proofs.YtnmokkkbghlpbaaGreat
/-
  Get and Put of a cache: contracts.
-/
namespace Go.Proofs.YtnmokkkbghlpbaaGreat
open Go.RowKit
/-- Get: the bytes, what is told, the cache and the device then. -/
def Cch.get (x : Cch) (d : Dev) (no : Int) : List UInt8 × Int × Cch × Dev :=
  if 0 ≤ no ∧ no < d.L.length then
    match x.holder no with
    | some i => ((x.L.getD i Frm.zero).b, 0, x.use i, d)
    | none => match x.read d no with
      | (none, e, y, dy) => ([], e, y, dy)
      | (some i, _, y, dy) => ((y.L.getD i Frm.zero).b, 0, y.use i, dy)
  else ([], 1, x, d)
/-- Put: what is told, the cache and the device then. -/
def Cch.put (x : Cch) (d : Dev) (no : Int) (l : List UInt8) : Int × Cch × Dev :=
  if 0 ≤ no ∧ no < d.L.length then
    match x.holder no with
    | some i => (0, ((x.bytes i l).soil i).use i, d)
    | none => match x.room d with
      | (none, e, y, dy) => (e, y, dy)
      | (some i, _, y, dy) => (0, (((y.hold i no).bytes i l).soil i).use i, dy)
  else (1, x, d)
theorem holder_lt {x : Cch} {no : Int} {i : Nat} (h : x.holder no = some i) : i < x.L.length ∧ (x.L.getD i Frm.zero).full = true ∧ (x.L.getD i Frm.zero).no = no := by
  unfold Cch.holder at h
  rw [List.findIdx?_eq_some_iff_getElem] at h
  obtain ⟨hi, h1, _⟩ := h
  rw [getD_at hi]
  simp at h1
  exact ⟨hi, h1⟩
/-- What read comes to. -/
theorem read_spec (x : Cch) (d : Dev) (no : Int) (hh : x.hand < x.L.length) : (x.read d no).2.2.1.L.length = x.L.length ∧ (x.read d no).2.2.2.L.length = d.L.length ∧ (x.read d no).2.2.2.n ≤ d.n + 1 ∧
    ((∃ i, (x.read d no).1 = some i ∧ (x.read d no).2.1 = 0 ∧ i < x.L.length) ∨ ((x.read d no).1 = none ∧ ((x.read d no).2.1 = 3 ∨ (x.read d no).2.1 = 11))) := by
  have h := room_spec x d hh
  unfold Cch.read
  split
  · rename_i e y dy hr
    rw [hr] at h
    obtain ⟨h1, h2, h3, h4⟩ := h
    refine ⟨h1, h2, h3, .inr ⟨rfl, ?_⟩⟩
    rcases h4 with ⟨i, e1, _⟩ | ⟨_, e2⟩
    · cases e1
    · exact e2
  · rename_i i e y dy hr
    rw [hr] at h
    obtain ⟨h1, h2, h3, h4⟩ := h
    split
    · exact ⟨h1, h2, h3, .inr ⟨rfl, .inl rfl⟩⟩
    · refine ⟨by rw [Cch.bytes_len, Cch.hold_len]; exact h1, h2, h3, .inl ⟨i, rfl, rfl, ?_⟩⟩
      rcases h4 with ⟨j, e1, _, e3⟩ | ⟨e1, _⟩
      · have : i = j := by injection e1
        subst this; exact e3
      · cases e1
theorem zero_csector : ∃ Z : Array Value, Z.size = 256 ∧ ∀ w, (zeroValue 146).run Tryz.prog w = .ok (.agg Z) w := by
  refine ⟨Array.replicate 256 (.int .u8 0), by simp, (zero_of_info (n := 256) ?_).1⟩
  kernel_rfl
section
variable {w w' : World} {G G' : Nat → Prop} {c bf p : Nat} {x y : Cch} {d d' : Dev}
/-- One mark of frame i, stored. -/
theorem cuse_any (h : CD w G c bf p x d) {i : Nat} (hi : i < x.L.length) : CD (w.setCell ⟨bf, i * 261 + 259, none⟩ (.bool true)) G c bf p (x.use i) d ∧ Only (fun k => k = c ∨ k = bf) w (w.setCell ⟨bf, i * 261 + 259, none⟩ (.bool true)) := by
  have hw := h.cache.wide.at_ hi
  have ho : Only (fun k => k = c ∨ k = bf) w (w.setCell ⟨bf, i * 261 + 259, none⟩ (.bool true)) := Only.setCell (p := ⟨bf, i * 261 + 259, none⟩) (.inr rfl) _
  refine ⟨h.turned ?_ ho, ho⟩
  unfold Cch.use
  rw [getD_at hi]
  exact h.cache.set hi (by omega) (frCells_set259 hw true) hw
theorem csoil_any (h : CD w G c bf p x d) {i : Nat} (hi : i < x.L.length) : CD (w.setCell ⟨bf, i * 261 + 258, none⟩ (.bool true)) G c bf p (x.soil i) d ∧ Only (fun k => k = c ∨ k = bf) w (w.setCell ⟨bf, i * 261 + 258, none⟩ (.bool true)) := by
  have hw := h.cache.wide.at_ hi
  have ho : Only (fun k => k = c ∨ k = bf) w (w.setCell ⟨bf, i * 261 + 258, none⟩ (.bool true)) := Only.setCell (p := ⟨bf, i * 261 + 258, none⟩) (.inr rfl) _
  refine ⟨h.turned ?_ ho, ho⟩
  unfold Cch.soil
  rw [getD_at hi]
  exact h.cache.set hi (by omega) (frCells_set258 hw true) hw
/-- What Get tells, and leaves. -/
def Got (w w' : World) (G : Nat → Prop) (c bf p : Nat) (v : Value) (l : List UInt8) (x : Cch) (d : Dev) : Prop :=
  Rd w' w'.heap.size v (cellsB l) ∧ (∀ g, v.ownBlock = some g → w.heap.size ≤ g ∧ g < w'.heap.size) ∧ CD w' (fun k => G k ∧ ¬ v.ownBlock = some k) c bf p x d ∧ Only (Foot G c bf) w w'
/-- The last steps of Get: all that they need of frame i, and what they leave. -/
theorem got_tail {w0 : World} (h : CD w G c bf p x d) (ho : Only (Foot G c bf) w0 w) {i : Nat} (hi : i < x.L.length) : ∃ l, l = (x.L.getD i Frm.zero).b ∧ l.length = 256 ∧ w.cell? ⟨bf, i * 261 + 259, none⟩ = some (.bool x.L[i].used) ∧ w.frozen? ⟨bf, i * 261 + 259, none⟩ = false ∧
    (w.setCell ⟨bf, i * 261 + 259, none⟩ (.bool true)).rangeAt bf (i * 261 + 2) (cellsB l) ∧
    Got w0 ((w.setCell ⟨bf, i * 261 + 259, none⟩ (.bool true)).alloc (.cells (cellsB l).toArray 146)) G c bf p (.slice (some ⟨w.heap.size, 0, none⟩) 256 256) l (x.use i) d := by
  obtain ⟨h1, h2⟩ := cuse_any h hi
  have hi2 : i < (x.use i).L.length := by rw [Cch.use_len]; exact hi
  have hb := h1.cache.bytes hi2
  have e : (x.use i).L[i].b = (x.L.getD i Frm.zero).b := by
    have : (x.use i).L[i] = { x.L.getD i Frm.zero with used := true } := by unfold Cch.use; simp
    rw [this]
  rw [e] at hb
  have hl : (x.L.getD i Frm.zero).b.length = 256 := by rw [getD_at hi]; exact h.cache.wide.at_ hi
  refine ⟨_, rfl, hl, h.cache.f259 hi, h.cache.freeF _, hb, ?_⟩
  obtain ⟨w1, hw1⟩ : ∃ w1, w1 = w.setCell ⟨bf, i * 261 + 259, none⟩ (.bool true) := ⟨_, rfl⟩
  have hsz : w.heap.size = w1.heap.size := by rw [hw1]; simp
  rw [hsz]
  rw [← hw1] at h1 h2 ⊢
  obtain ⟨l, hll⟩ : ∃ l, l = (x.L.getD i Frm.zero).b := ⟨_, rfl⟩
  rw [← hll] at hl ⊢
  have hbl : Below w1.heap.size w1 (w1.alloc (.cells (cellsB l).toArray 146)) := (Below.refl _ _).alloc (Nat.le_refl _) _
  have hrd : Rd (w1.alloc (.cells (cellsB l).toArray 146)) (w1.alloc (.cells (cellsB l).toArray 146)).heap.size (.slice (some ⟨w1.heap.size, 0, none⟩) 256 256) (cellsB l) := by
    refine ⟨_, _, by rw [cellsB_length, hl], by rw [cellsB_length, hl]; omega, by unfold maxLen; omega, (fun h => by cases h), fun _ => ⟨w1.heap.size, 0, rfl, by simp, fun j u hu => ?_⟩⟩
    rw [Nat.zero_add, World.cell?_alloc_mark]
    simpa using hu
  refine ⟨hrd, fun g hg => ?_, ?_, ?_⟩
  · have : w1.heap.size = g := by simpa [Value.ownBlock] using hg
    subst this
    exact ⟨Nat.le_trans ho.size h2.size, by simp⟩
  · have := h1.far hbl (g := w1.heap.size) (Nat.le_refl _)
    refine this.mono (fun k _ hk => ⟨hk.1, fun e => hk.2 ?_⟩) (fun e => this.nc.1 ⟨e.1, fun e2 => e.2 (by rw [e2]; rfl)⟩) (fun e => this.nc.2 ⟨e.1, fun e2 => e.2 (by rw [e2]; rfl)⟩)
    have : w1.heap.size = k := by simpa [Value.ownBlock] using e
    exact this.symm
  · exact (ho.trans h2.cache).trans (Only.of_below hbl)
theorem got_none {w0 : World} (h : CD w G c bf p x d) (ho : Only (Foot G c bf) w0 w) : Got w0 w G c bf p (.slice none 0 0) [] x d := by
  refine ⟨Rd.nil w _, (fun g e => by cases e), ?_, ho⟩
  exact h.mono (fun k _ hk => ⟨hk, fun e => by cases e⟩) (fun e => h.nc.1 e.1) (fun e => h.nc.2 e.1)
set_option maxRecDepth 100000 in
theorem get_out (h : CD w G c bf p x d) {no : Int} (hno : ¬ (0 ≤ no ∧ no < d.L.length)) : Calls Tryz.prog 84 #[at0 c, .int .i64 no] w fun e w' => e = .returned (.tuple #[.slice none 0 0, .int .i64 1]) ∧ w = w' := by
  obtain ⟨bl, bm, S, D, hd⟩ := h.dev
  have hh := has_cache no h.k2 hd.c8
  rw [decide_eq_false hno] at hh
  have Hh := Lib.hid hh
  clear h hh hd hno
  go_enter Tryz.func84, Tryz.ntmps84
  go_wp2_with (go_at_call 110; refine Hh.out.mono ?_; rintro e w1 ⟨rfl, rfl⟩)
  go_ret2
  exact ⟨rfl, rfl⟩
set_option maxRecDepth 100000 in
theorem get_nil (no : Int) (w : World) : Calls Tryz.prog 84 #[.pointer none, .int .i64 no] w fun e w' => e = .returned (.tuple #[.slice none 0 0, .int .i64 1]) ∧ w = w' := by
  go_enter Tryz.func84, Tryz.ntmps84
  go_wp2_with (go_at_call 110; refine (has_cache_nil _ _).mono ?_; rintro e w1 ⟨rfl, rfl⟩)
  go_ret2
  exact ⟨rfl, rfl⟩
set_option maxRecDepth 100000 in
set_option maxHeartbeats 800000 in
theorem get_hit (h : CD w G c bf p x d) {no : Int} (hno : 0 ≤ no ∧ no < d.L.length) {i : Nat} (he : x.holder no = some i) :
    Calls Tryz.prog 84 #[at0 c, .int .i64 no] w fun e w' => ∃ v, e = .returned (.tuple #[v, .int .i64 0]) ∧ Got w w' G c bf p v (x.L.getD i Frm.zero).b (x.use i) d := by
    obtain ⟨bl, bm, S, D, hd⟩ := h.dev
    have hh := has_cache no h.k2 hd.c8
    rw [decide_eq_true hno] at hh
    have Hh := Lib.hid hh
    have hE := holder_any h.cache no
    have hi := (holder_lt he).1
    rw [he] at hE
    have HE : Hid (Calls Tryz.prog 45 #[at0 c, .int .i64 no] w fun e w' => e = .returned (frAt bf (i * 261)) ∧ w = w') := Lib.hid hE
    obtain ⟨l, hl0, hl, t1, t2, t3, t4⟩ := got_tail (w0 := w) h (Only.refl _ _) hi
    rw [← hl0]
    have Hb := Lib.hid t3
    have Hfin := Lib.hid t4
    obtain ⟨ub, hub⟩ : ∃ ub, ub = x.L[i].used := ⟨_, rfl⟩
    rw [← hub] at t1
    have hl2 : (cellsB l).toArray.size = 256 := by simp [cellsB_length, hl]
    have I1 := Kept.mk (show (Tryz.prog.info? 146).map (·.size) = some (cellsB l).length by rw [info_csector, cellsB_length, hl])
    have I2 := Kept.mk (show (Tryz.prog.info? 146).map (·.size) = some (cellsB l).toArray.size by rw [info_csector, hl2])
    have Hl2 := Kept.mk hl2
    obtain ⟨Z, hZ, hz⟩ := zero_csector
    have HZ := Kept.mk hZ
    clear h hh hd hE he hno hl0 hl hl2 hZ t3 t4 hub hi
    go_enter Tryz.func84, Tryz.ntmps84
    go_wp2_with (first
      | (go_at_call 110; refine Hh.out.mono ?_; rintro e w1 ⟨rfl, rfl⟩)
      | (go_at_call 45; refine HE.out.mono ?_; rintro e w1 ⟨rfl, rfl⟩)
      | ((with_reducible refine wpList_load_mid (op := ⟨some 35, .load 146 (.tmp 34), _, _, _, _⟩) rfl 146 (.tmp 34) rfl bf (i * 261 + 2) ?_ (cellsB l) (.array 256 5) Hb.out Tryz.underlying146 rfl I1.out ?_); exact rfl)
      | (with_reducible refine wpList_alloc_zero (o := ⟨some 8, .alloc 146, _, _, _, _⟩) rfl 146 rfl Z hz ?_)
      | ((with_reducible refine wpList_store_new (o := ⟨none, .store 146 (.tmp 8) (.tmp 35), _, _, _, _⟩) rfl 146 (.tmp 8) (.tmp 35) rfl Z (cellsB l).toArray ?_ ?_ I2.out (HZ.out.trans Hl2.out.symm) (bytesAll_one l) ?_); exact rfl; exact rfl))
    go_ret2
    exact ⟨.slice (some ⟨w.heap.size, 0, none⟩) 256 256, rfl, Hfin.out⟩
set_option maxRecDepth 100000 in
set_option maxHeartbeats 800000 in
theorem get_miss (h : CD w G c bf p x d) (hr : x.Within d.L.length) (hn : d.n < 999999) (hG : ∀ k, w.heap.size ≤ k → G k) {no : Int} (hno : 0 ≤ no ∧ no < d.L.length) (he : x.holder no = none) {i : Nat} {e0 : Int} {dy : Dev} (hrd : x.read d no = (some i, e0, y, dy)) :
    Calls Tryz.prog 84 #[at0 c, .int .i64 no] w fun e w' => ∃ v, e = .returned (.tuple #[v, .int .i64 0]) ∧ Got w w' G c bf p v (y.L.getD i Frm.zero).b (y.use i) dy := by
    obtain ⟨bl, bm, S, D, hd⟩ := h.dev
    have hh := has_cache no h.k2 hd.c8
    rw [decide_eq_true hno] at hh
    have Hh := Lib.hid hh
    have hE := holder_any h.cache no
    rw [he] at hE
    have HE : Hid (Calls Tryz.prog 45 #[at0 c, .int .i64 no] w fun e w' => e = .returned (.pointer none) ∧ w = w') := Lib.hid hE
    have hR := cread_any h hr hn hG hno
    obtain ⟨s1, s2, s3, s4⟩ := read_spec x d no h.cache.hand
    rw [hrd] at hR s1 s2 s3 s4
    have s1 : y.L.length = x.L.length := s1
    have e0' : e0 = 0 ∧ i < x.L.length := by
      rcases s4 with ⟨j, a, b, q⟩ | ⟨a, _⟩
      · injection a with a; subst a; exact ⟨b, q⟩
      · cases a
    obtain ⟨rfl, hix⟩ := e0'
    have hi : i < y.L.length := by omega
    have HR : Hid (Calls Tryz.prog 111 #[at0 c, .int .i64 no] w fun e w' => e = .returned (.tuple #[frAt bf (i * 261), .int .i64 0]) ∧ CD w' G c bf p y dy ∧ Only (Foot G c bf) w w') := Lib.hid hR
    have Ht : Hid (∀ w1, CD w1 G c bf p y dy → Only (Foot G c bf) w w1 → (y.L.getD i Frm.zero).b.length = 256 ∧ w1.cell? ⟨bf, i * 261 + 259, none⟩ = some (.bool y.L[i].used) ∧ w1.frozen? ⟨bf, i * 261 + 259, none⟩ = false ∧
        (w1.setCell ⟨bf, i * 261 + 259, none⟩ (.bool true)).rangeAt bf (i * 261 + 2) (cellsB (y.L.getD i Frm.zero).b) ∧
        Got w ((w1.setCell ⟨bf, i * 261 + 259, none⟩ (.bool true)).alloc (.cells (cellsB (y.L.getD i Frm.zero).b).toArray 146)) G c bf p (.slice (some ⟨w1.heap.size, 0, none⟩) 256 256) (y.L.getD i Frm.zero).b (y.use i) dy) := Lib.hid fun w1 h1 ho1 => by
      obtain ⟨l, hl0, hl, t⟩ := got_tail (w0 := w) h1 ho1 hi
      rw [← hl0]
      exact ⟨hl, t⟩
    obtain ⟨ub, hub⟩ : ∃ ub, ub = y.L[i].used := ⟨_, rfl⟩
    obtain ⟨l, hl0⟩ : ∃ l, l = (y.L.getD i Frm.zero).b := ⟨_, rfl⟩
    rw [← hub, ← hl0] at Ht
    rw [← hl0]
    obtain ⟨Z, hZ, hz⟩ := zero_csector
    have HZ := Kept.mk hZ
    clear h hh hd hE he hno hl0 hZ hub hi hR s1 s2 s3 s4 hrd hr hix hn
    go_enter Tryz.func84, Tryz.ntmps84
    go_wp2_with (first
      | (go_at_call 110; refine Hh.out.mono ?_; rintro e w1 ⟨rfl, rfl⟩)
      | (go_at_call 45; refine HE.out.mono ?_; rintro e w1 ⟨rfl, rfl⟩)
      | (go_at_call 111; refine HR.out.mono ?_; rintro e w1 ⟨rfl, h1, ho1⟩; obtain ⟨hl, t1, t2, t3, t4⟩ := Ht.out _ h1 ho1; have Hb := Lib.hid t3; have Hfin := Lib.hid t4; have hl2 : (cellsB l).toArray.size = 256 := (by simp [cellsB_length, hl]); have I1 := Kept.mk (show (Tryz.prog.info? 146).map (·.size) = some (cellsB l).length by rw [info_csector, cellsB_length, hl]); have I2 := Kept.mk (show (Tryz.prog.info? 146).map (·.size) = some (cellsB l).toArray.size by rw [info_csector, hl2]); have Hl2 := Kept.mk hl2; clear hl hl2 t3 t4 h1 ho1)
      | ((with_reducible refine wpList_load_mid (op := ⟨some 35, .load 146 (.tmp 34), _, _, _, _⟩) rfl 146 (.tmp 34) rfl bf (i * 261 + 2) ?_ (cellsB l) (.array 256 5) Hb.out Tryz.underlying146 rfl I1.out ?_); exact rfl)
      | (with_reducible refine wpList_alloc_zero (o := ⟨some 8, .alloc 146, _, _, _, _⟩) rfl 146 rfl Z hz ?_)
      | ((with_reducible refine wpList_store_new (o := ⟨none, .store 146 (.tmp 8) (.tmp 35), _, _, _, _⟩) rfl 146 (.tmp 8) (.tmp 35) rfl Z (cellsB l).toArray ?_ ?_ I2.out (HZ.out.trans Hl2.out.symm) (bytesAll_one l) ?_); exact rfl; exact rfl))
    go_ret2
    exact ⟨.slice (some ⟨w1.heap.size, 0, none⟩) 256 256, rfl, Hfin.out⟩
set_option maxRecDepth 100000 in
set_option maxHeartbeats 800000 in
theorem get_fail (h : CD w G c bf p x d) (hr : x.Within d.L.length) (hn : d.n < 999999) (hG : ∀ k, w.heap.size ≤ k → G k) {no : Int} (hno : 0 ≤ no ∧ no < d.L.length) (he : x.holder no = none) {e0 : Int} {dy : Dev} (hrd : x.read d no = (none, e0, y, dy)) :
    Calls Tryz.prog 84 #[at0 c, .int .i64 no] w fun e w' => e = .returned (.tuple #[.slice none 0 0, .int .i64 e0]) ∧ CD w' G c bf p y dy ∧ Only (Foot G c bf) w w' := by
    obtain ⟨bl, bm, S, D, hd⟩ := h.dev
    have hh := has_cache no h.k2 hd.c8
    rw [decide_eq_true hno] at hh
    have Hh := Lib.hid hh
    have hE := holder_any h.cache no
    rw [he] at hE
    have HE : Hid (Calls Tryz.prog 45 #[at0 c, .int .i64 no] w fun e w' => e = .returned (.pointer none) ∧ w = w') := Lib.hid hE
    have hR := cread_any h hr hn hG hno
    obtain ⟨s1, s2, s3, s4⟩ := read_spec x d no h.cache.hand
    rw [hrd] at hR s4
    have e0' : e0 = 3 ∨ e0 = 11 := by
      rcases s4 with ⟨j, a, _⟩ | ⟨_, b⟩
      · cases a
      · exact b
    have HR : Hid (Calls Tryz.prog 111 #[at0 c, .int .i64 no] w fun e w' => e = .returned (.tuple #[.pointer none, .int .i64 e0]) ∧ CD w' G c bf p y dy ∧ Only (Foot G c bf) w w') := Lib.hid hR
    clear h hh hd hE he hno hR s1 s2 s3 s4 hrd hr hn
    rcases e0' with rfl | rfl
    all_goals
      go_enter Tryz.func84, Tryz.ntmps84
      go_wp2_with (first
        | (go_at_call 110; refine Hh.out.mono ?_; rintro e w1 ⟨rfl, rfl⟩)
        | (go_at_call 45; refine HE.out.mono ?_; rintro e w1 ⟨rfl, rfl⟩)
        | (go_at_call 111; refine HR.out.mono ?_; rintro e w1 ⟨rfl, h1, ho1⟩; have H1 := Lib.hid h1; have Ho1 := Lib.hid ho1; clear h1 ho1))
      go_ret2
      exact ⟨rfl, H1.out, Ho1.out⟩
theorem get_any (h : CD w G c bf p x d) (hr : x.Within d.L.length) (hn : d.n < 999999) (hG : ∀ k, w.heap.size ≤ k → G k) (no : Int) :
    Calls Tryz.prog 84 #[at0 c, .int .i64 no] w fun e w' => ∃ v, e = .returned (.tuple #[v, .int .i64 (x.get d no).2.1]) ∧ Got w w' G c bf p v (x.get d no).1 (x.get d no).2.2.1 (x.get d no).2.2.2 := by
  by_cases hno : 0 ≤ no ∧ no < d.L.length
  · rcases he : x.holder no with _ | i
    · rcases hrd : x.read d no with ⟨_ | i, e0, y, dy⟩
      · have e : x.get d no = ([], e0, y, dy) := by unfold Cch.get; rw [if_pos hno, he]; simp only [hrd]
        rw [e]
        refine (get_fail h hr hn hG hno he hrd).mono ?_
        rintro e w' ⟨rfl, h1, ho1⟩
        exact ⟨_, rfl, got_none h1 ho1⟩
      · have e : x.get d no = ((y.L.getD i Frm.zero).b, 0, y.use i, dy) := by unfold Cch.get; rw [if_pos hno, he]; simp only [hrd]
        rw [e]
        exact get_miss h hr hn hG hno he hrd
    · have e : x.get d no = ((x.L.getD i Frm.zero).b, 0, x.use i, d) := by unfold Cch.get; rw [if_pos hno, he]
      rw [e]
      exact get_hit h hno he
  · have e : x.get d no = ([], 1, x, d) := by unfold Cch.get; rw [if_neg hno]
    rw [e]
    refine (get_out h hno).mono ?_
    rintro e w' ⟨rfl, rfl⟩
    exact ⟨_, rfl, got_none h (Only.refl _ _)⟩
end
end Go.Proofs.YtnmokkkbghlpbaaGreat
/-
  Put of a cache: its contract.
-/
namespace Go.Proofs.YtnmokkkbghlpbaaGreat
open Go.RowKit
section
variable {w w' : World} {G G' : Nat → Prop} {c bf p : Nat} {x y : Cch} {d d' : Dev}
set_option maxRecDepth 100000 in
theorem put_out (h : CD w G c bf p x d) {no : Int} (hno : ¬ (0 ≤ no ∧ no < d.L.length)) (A : Option Addr) (cc : Nat) : Calls Tryz.prog 136 #[at0 c, .int .i64 no, .slice A 256 cc] w fun e w' => e = .returned (.int .i64 1) ∧ w = w' := by
  obtain ⟨bl, bm, S, D, hd⟩ := h.dev
  have hh := has_cache no h.k2 hd.c8
  rw [decide_eq_false hno] at hh
  have Hh := Lib.hid hh
  clear h hh hd hno
  go_enter Tryz.func136, Tryz.ntmps136
  go_wp2_with (go_at_call 110; refine Hh.out.mono ?_; rintro e w1 ⟨rfl, rfl⟩)
  go_ret
  exact ⟨rfl, rfl⟩
set_option maxRecDepth 100000 in
theorem put_nil (no : Int) (A : Option Addr) (cc : Nat) (w : World) : Calls Tryz.prog 136 #[.pointer none, .int .i64 no, .slice A 256 cc] w fun e w' => e = .returned (.int .i64 1) ∧ w = w' := by
  go_enter Tryz.func136, Tryz.ntmps136
  go_wp2_with (go_at_call 110; refine (has_cache_nil _ _).mono ?_; rintro e w1 ⟨rfl, rfl⟩)
  go_ret
  exact ⟨rfl, rfl⟩
/-- The last steps of Put: all that they need of frame i, and what they leave. -/
theorem put_tail {w0 : World} (h : CD w G c bf p x d) (ho : Only (Foot G c bf) w0 w) {i : Nat} (hi : i < x.L.length) {l : List UInt8} (hl : l.length = 256) : ∃ w2 b1 b2, (Instr.storeAt 146 (.pointer (some ⟨bf, i * 261 + 2, none⟩)) (.agg (cellsB l).toArray)).run Tryz.prog w = .ok () w2 ∧
    w2.cell? ⟨bf, i * 261 + 258, none⟩ = some (.bool b1) ∧ w2.frozen? ⟨bf, i * 261 + 258, none⟩ = false ∧ w2.cell? ⟨bf, i * 261 + 259, none⟩ = some (.bool b2) ∧ w2.frozen? ⟨bf, i * 261 + 259, none⟩ = false ∧
    CD ((w2.setCell ⟨bf, i * 261 + 258, none⟩ (.bool true)).setCell ⟨bf, i * 261 + 259, none⟩ (.bool true)) G c bf p (((x.bytes i l).soil i).use i) d ∧ Only (Foot G c bf) w0 ((w2.setCell ⟨bf, i * 261 + 258, none⟩ (.bool true)).setCell ⟨bf, i * 261 + 259, none⟩ (.bool true)) := by
  obtain ⟨w2, hrun, h2, ho2⟩ := cstore_any h hi hl
  have hi2 : i < (x.bytes i l).L.length := by rw [Cch.bytes_len]; exact hi
  obtain ⟨h3, ho3⟩ := csoil_any h2 hi2
  have hi3 : i < ((x.bytes i l).soil i).L.length := by rw [Cch.soil_len]; exact hi2
  obtain ⟨h4, ho4⟩ := cuse_any h3 hi3
  exact ⟨w2, _, _, hrun, h2.cache.f258 hi2, h2.cache.freeF _, h2.cache.f259 hi2, h2.cache.freeF _, h4, ((ho.trans ho2.cache).trans ho3.cache).trans ho4.cache⟩
set_option maxRecDepth 100000 in
set_option maxHeartbeats 800000 in
theorem put_hit (h : CD w G c bf p x d) {no : Int} (hno : 0 ≤ no ∧ no < d.L.length) {i : Nat} (he : x.holder no = some i) {bb bo cc : Nat} {l : List UInt8} (hl : l.length = 256) (hrw : w.rangeAt bb bo (cellsB l)) :
    Calls Tryz.prog 136 #[at0 c, .int .i64 no, .slice (some ⟨bb, bo, none⟩) 256 cc] w fun e w' => e = .returned (.int .i64 0) ∧ CD w' G c bf p (((x.bytes i l).soil i).use i) d ∧ Only (Foot G c bf) w w' := by
  obtain ⟨bl, bm, S, D, hd⟩ := h.dev
  have hh := has_cache no h.k2 hd.c8
  rw [decide_eq_true hno] at hh
  have Hh := Lib.hid hh
  have hE := holder_any h.cache no
  have hi := (holder_lt he).1
  rw [he] at hE
  have HE : Hid (Calls Tryz.prog 45 #[at0 c, .int .i64 no] w fun e w' => e = .returned (frAt bf (i * 261)) ∧ w = w') := Lib.hid hE
  obtain ⟨w2, b1, b2, hrun, t1, t2, t3, t4, t5, t6⟩ := put_tail (w0 := w) h (Only.refl _ _) hi hl
  have Hrun := Lib.hid hrun
  have H5 := Lib.hid t5
  have H6 := Lib.hid t6
  have Hrw := Lib.hid hrw
  have I1 := Kept.mk (show (Tryz.prog.info? 146).map (·.size) = some (cellsB l).length by rw [info_csector, cellsB_length, hl])
  have harr := array_at bb bo cc w
  clear h hh hd hE he hno hrun t5 t6 hrw hl hi
  go_enter Tryz.func136, Tryz.ntmps136
  go_wp2_with (first
    | (go_at_call 110; refine Hh.out.mono ?_; rintro e w1 ⟨rfl, rfl⟩)
    | (go_at_call 45; refine HE.out.mono ?_; rintro e w1 ⟨rfl, rfl⟩)
    | ((with_reducible refine wpList_load_mid (op := ⟨some 39, .load 146 (.tmp 38), _, _, _, _⟩) rfl 146 (.tmp 38) rfl bb bo ?_ (cellsB l) (.array 256 5) Hrw.out Tryz.underlying146 rfl I1.out ?_); exact rfl)
    | ((with_reducible refine wpList_stored (o := ⟨none, .store 146 (.tmp 41) (.tmp 39), _, _, _, none⟩) rfl 146 (.tmp 41) (.tmp 39) rfl (.pointer (some ⟨bf, i * 261 + 2, none⟩)) (.agg (cellsB l).toArray) ?_ ?_ w2 Hrun.out ?_); exact rfl; exact rfl))
  go_ret
  exact ⟨rfl, H5.out, H6.out⟩
set_option maxRecDepth 100000 in
set_option maxHeartbeats 800000 in
theorem put_miss (h : CD w G c bf p x d) (hr : x.Within d.L.length) (hn : d.n < 999999) (hG : ∀ k, w.heap.size ≤ k → G k) {no : Int} (hno : 0 ≤ no ∧ no < d.L.length) (he : x.holder no = none) {i : Nat} {e0 : Int} {dy : Dev} (hrd : x.room d = (some i, e0, y, dy))
    {bb bo cc : Nat} {l : List UInt8} (hl : l.length = 256) (hrw : w.rangeAt bb bo (cellsB l)) (hbb : bb < w.heap.size) (hbG : ¬ Foot G c bf bb) :
    Calls Tryz.prog 136 #[at0 c, .int .i64 no, .slice (some ⟨bb, bo, none⟩) 256 cc] w fun e w' => e = .returned (.int .i64 0) ∧ CD w' G c bf p ((((y.hold i no).bytes i l).soil i).use i) dy ∧ Only (Foot G c bf) w w' := by
  obtain ⟨bl, bm, S, D, hd⟩ := h.dev
  have hh := has_cache no h.k2 hd.c8
  rw [decide_eq_true hno] at hh
  have Hh := Lib.hid hh
  have hE := holder_any h.cache no
  rw [he] at hE
  have HE : Hid (Calls Tryz.prog 45 #[at0 c, .int .i64 no] w fun e w' => e = .returned (.pointer none) ∧ w = w') := Lib.hid hE
  have hR := room_any h hr (by omega) hG
  obtain ⟨s1, s2, s3, s4⟩ := room_spec x d h.cache.hand
  rw [hrd] at hR s1 s2 s3 s4
  have s1 : y.L.length = x.L.length := s1
  have e0' : e0 = 0 ∧ i < x.L.length := by
    rcases s4 with ⟨j, a, b, q⟩ | ⟨a, _⟩
    · injection a with a; subst a; exact ⟨b, q⟩
    · cases a
  obtain ⟨rfl, hix⟩ := e0'
  have hi : i < y.L.length := by omega
  have HR : Hid (Calls Tryz.prog 139 #[at0 c] w fun e w' => e = .returned (.tuple #[frAt bf (i * 261), .int .i64 0]) ∧ CD w' G c bf p y dy ∧ Only (Foot G c bf) w w') := Lib.hid hR
  have HH : Hid (∀ w1, CD w1 G c bf p y dy → Only (Foot G c bf) w w1 → Calls Tryz.prog 140 #[frAt bf (i * 261), .int .i64 no] w1 fun e w' => e = .returned (.tuple #[]) ∧ w'.rangeAt bb bo (cellsB l) ∧ ∃ w2 b1 b2, (Instr.storeAt 146 (.pointer (some ⟨bf, i * 261 + 2, none⟩)) (.agg (cellsB l).toArray)).run Tryz.prog w' = .ok () w2 ∧
    w2.cell? ⟨bf, i * 261 + 258, none⟩ = some (.bool b1) ∧ w2.frozen? ⟨bf, i * 261 + 258, none⟩ = false ∧ w2.cell? ⟨bf, i * 261 + 259, none⟩ = some (.bool b2) ∧ w2.frozen? ⟨bf, i * 261 + 259, none⟩ = false ∧
    CD ((w2.setCell ⟨bf, i * 261 + 258, none⟩ (.bool true)).setCell ⟨bf, i * 261 + 259, none⟩ (.bool true)) G c bf p ((((y.hold i no).bytes i l).soil i).use i) dy ∧ Only (Foot G c bf) w ((w2.setCell ⟨bf, i * 261 + 258, none⟩ (.bool true)).setCell ⟨bf, i * 261 + 259, none⟩ (.bool true))) := Lib.hid fun w1 h1 ho1 => by
    refine (chold_any h1 hi no).mono ?_
    rintro e w' ⟨rfl, h2, ho2⟩
    have ho3 : Only (Foot G c bf) w w' := ho1.trans ho2.cache
    refine ⟨rfl, fun j v hv => (World.cell?_of_block (ho3.block bb hbb hbG)).trans (hrw j v hv), ?_⟩
    exact put_tail (w0 := w) h2 ho3 (by rw [Cch.hold_len]; exact hi) hl
  have I1 := Kept.mk (show (Tryz.prog.info? 146).map (·.size) = some (cellsB l).length by rw [info_csector, cellsB_length, hl])
  clear h hh hd hE he hno hR s1 s2 s3 s4 hrd hr hix hn hrw hl hi hbb hbG
  go_enter Tryz.func136, Tryz.ntmps136
  go_wp2_with (first
    | (go_at_call 110; refine Hh.out.mono ?_; rintro e w1 ⟨rfl, rfl⟩)
    | (go_at_call 45; refine HE.out.mono ?_; rintro e w1 ⟨rfl, rfl⟩)
    | (go_at_call 139; refine HR.out.mono ?_; rintro e w1 ⟨rfl, h1, ho1⟩; have H1 := Lib.hid h1; have Ho1 := Lib.hid ho1; clear h1 ho1)
    | (go_at_call 140; refine (HH.out _ H1.out Ho1.out).mono ?_; rintro e w2 ⟨rfl, hrw, w3, b1, b2, hrun, t1, t2, t3, t4, t5, t6⟩; have Hrun := Lib.hid hrun; have H5 := Lib.hid t5; have H6 := Lib.hid t6; have Hrw := Lib.hid hrw; have harr := array_at bb bo cc w2; clear hrun t5 t6 hrw)
    | ((with_reducible refine wpList_load_mid (op := ⟨some 39, .load 146 (.tmp 38), _, _, _, _⟩) rfl 146 (.tmp 38) rfl bb bo ?_ (cellsB l) (.array 256 5) Hrw.out Tryz.underlying146 rfl I1.out ?_); exact rfl)
    | ((with_reducible refine wpList_stored (o := ⟨none, .store 146 (.tmp 41) (.tmp 39), _, _, _, none⟩) rfl 146 (.tmp 41) (.tmp 39) rfl (.pointer (some ⟨bf, i * 261 + 2, none⟩)) (.agg (cellsB l).toArray) ?_ ?_ w3 Hrun.out ?_); exact rfl; exact rfl))
  go_ret
  exact ⟨rfl, H5.out, H6.out⟩
set_option maxRecDepth 100000 in
set_option maxHeartbeats 800000 in
theorem put_fail (h : CD w G c bf p x d) (hr : x.Within d.L.length) (hn : d.n < 999999) (hG : ∀ k, w.heap.size ≤ k → G k) {no : Int} (hno : 0 ≤ no ∧ no < d.L.length) (he : x.holder no = none) {e0 : Int} {dy : Dev} (hrd : x.room d = (none, e0, y, dy)) (A : Option Addr) (cc : Nat) :
    Calls Tryz.prog 136 #[at0 c, .int .i64 no, .slice A 256 cc] w fun e w' => e = .returned (.int .i64 e0) ∧ CD w' G c bf p y dy ∧ Only (Foot G c bf) w w' := by
  obtain ⟨bl, bm, S, D, hd⟩ := h.dev
  have hh := has_cache no h.k2 hd.c8
  rw [decide_eq_true hno] at hh
  have Hh := Lib.hid hh
  have hE := holder_any h.cache no
  rw [he] at hE
  have HE : Hid (Calls Tryz.prog 45 #[at0 c, .int .i64 no] w fun e w' => e = .returned (.pointer none) ∧ w = w') := Lib.hid hE
  have hR := room_any h hr (by omega) hG
  obtain ⟨s1, s2, s3, s4⟩ := room_spec x d h.cache.hand
  rw [hrd] at hR s4
  have e0' : e0 = 3 ∨ e0 = 11 := by
    rcases s4 with ⟨j, a, _⟩ | ⟨_, b⟩
    · cases a
    · exact b
  have HR : Hid (Calls Tryz.prog 139 #[at0 c] w fun e w' => e = .returned (.tuple #[.pointer none, .int .i64 e0]) ∧ CD w' G c bf p y dy ∧ Only (Foot G c bf) w w') := Lib.hid hR
  clear h hh hd hE he hno hR s1 s2 s3 s4 hrd hr hn
  rcases e0' with rfl | rfl
  all_goals
    go_enter Tryz.func136, Tryz.ntmps136
    go_wp2_with (first
      | (go_at_call 110; refine Hh.out.mono ?_; rintro e w1 ⟨rfl, rfl⟩)
      | (go_at_call 45; refine HE.out.mono ?_; rintro e w1 ⟨rfl, rfl⟩)
      | (go_at_call 139; refine HR.out.mono ?_; rintro e w1 ⟨rfl, h1, ho1⟩; have H1 := Lib.hid h1; have Ho1 := Lib.hid ho1; clear h1 ho1))
    go_ret
    exact ⟨rfl, H1.out, Ho1.out⟩
theorem put_any (h : CD w G c bf p x d) (hr : x.Within d.L.length) (hn : d.n < 999999) (hG : ∀ k, w.heap.size ≤ k → G k) (no : Int) {bb bo cc : Nat} {l : List UInt8} (hl : l.length = 256) (hrw : w.rangeAt bb bo (cellsB l)) (hbb : bb < w.heap.size) (hbG : ¬ Foot G c bf bb) :
    Calls Tryz.prog 136 #[at0 c, .int .i64 no, .slice (some ⟨bb, bo, none⟩) 256 cc] w fun e w' => e = .returned (.int .i64 (x.put d no l).1) ∧ CD w' G c bf p (x.put d no l).2.1 (x.put d no l).2.2 ∧ Only (Foot G c bf) w w' := by
  by_cases hno : 0 ≤ no ∧ no < d.L.length
  · rcases he : x.holder no with _ | i
    · rcases hrd : x.room d with ⟨_ | i, e0, y, dy⟩
      · have e : x.put d no l = (e0, y, dy) := by unfold Cch.put; rw [if_pos hno, he]; simp only [hrd]
        rw [e]
        exact put_fail h hr hn hG hno he hrd _ _
      · have e : x.put d no l = (0, (((y.hold i no).bytes i l).soil i).use i, dy) := by unfold Cch.put; rw [if_pos hno, he]; simp only [hrd]
        rw [e]
        exact put_miss h hr hn hG hno he hrd hl hrw hbb hbG
    · have e : x.put d no l = (0, ((x.bytes i l).soil i).use i, d) := by unfold Cch.put; rw [if_pos hno, he]
      rw [e]
      exact put_hit h hno he hl hrw
  · have e : x.put d no l = (1, x, d) := by unfold Cch.put; rw [if_neg hno]
    rw [e]
    refine (put_out h hno _ _).mono ?_
    rintro e w' ⟨rfl, rfl⟩
    exact ⟨rfl, h, Only.refl _ _⟩
end
end Go.Proofs.YtnmokkkbghlpbaaGreat
/-
  Pin, Unpin and Drop of a cache: contracts.
-/
namespace Go.Proofs.YtnmokkkbghlpbaaGreat
open Go.RowKit
/-- Frame i, with so many pins. -/
def Cch.pinned (x : Cch) (i n : Nat) : Cch := { x with L := x.L.set i { x.L.getD i Frm.zero with pins := n } }
def Cch.pin (x : Cch) (no : Int) : Bool × Cch :=
  match x.holder no with
  | none => (false, x)
  | some i => (true, x.pinned i ((x.L.getD i Frm.zero).pins + 1))
def Cch.unpin (x : Cch) (no : Int) : Bool × Cch :=
  match x.holder no with
  | none => (false, x)
  | some i => if (x.L.getD i Frm.zero).pins = 0 then (false, x) else (true, x.pinned i ((x.L.getD i Frm.zero).pins - 1))
def Cch.drop (x : Cch) (no : Int) : Bool × Cch :=
  match x.holder no with
  | none => (false, x)
  | some i => if (x.L.getD i Frm.zero).pins = 0 then (true, x.wipe i) else (false, x)
section
variable {w w' : World} {G G' : Nat → Prop} {c bf p : Nat} {x y : Cch} {d d' : Dev}
theorem cpinned_any (h : CD w G c bf p x d) {i : Nat} (hi : i < x.L.length) (n : Nat) : CD (w.setCell ⟨bf, i * 261 + 260, none⟩ (.int .i64 (n : Int))) G c bf p (x.pinned i n) d ∧ Only (fun k => k = c ∨ k = bf) w (w.setCell ⟨bf, i * 261 + 260, none⟩ (.int .i64 (n : Int))) := by
  have hw := h.cache.wide.at_ hi
  have ho : Only (fun k => k = c ∨ k = bf) w (w.setCell ⟨bf, i * 261 + 260, none⟩ (.int .i64 (n : Int))) := Only.setCell (p := ⟨bf, i * 261 + 260, none⟩) (.inr rfl) _
  refine ⟨h.turned ?_ ho, ho⟩
  unfold Cch.pinned
  rw [getD_at hi]
  exact h.cache.set hi (by omega) (frCells_set260 hw n) hw
/-- A method of a frame, as a value. -/
abbrev meth (fn : Nat) : Value := .func (.func fn) #[] #[]
set_option maxRecDepth 100000 in
theorem tell_none (h : CD w G c bf p x d) {no : Int} (he : x.holder no = none) (fn : Nat) :
    Calls Tryz.prog 169 #[at0 c, .int .i64 no, meth fn] w fun e w' => e = .returned (.bool false) ∧ w = w' := by
  have hE := holder_any h.cache no
  rw [he] at hE
  have HE : Hid (Calls Tryz.prog 45 #[at0 c, .int .i64 no] w fun e w' => e = .returned (.pointer none) ∧ w = w') := Lib.hid hE
  clear h hE he
  go_enter Tryz.func169, Tryz.ntmps169
  go_wp2_with (first
    | (go_at_call 45; refine HE.out.mono ?_; rintro e w1 ⟨rfl, rfl⟩))
  go_ret
  exact ⟨rfl, rfl⟩
set_option maxRecDepth 100000 in
theorem tell_some_drop (h : CD w G c bf p x d) {no : Int} {i : Nat} (he : x.holder no = some i) {b : Bool} {Q : World → Prop} (hF : Calls Tryz.prog 170 #[frAt bf (i * 261)] w fun e w' => e = .returned (.bool b) ∧ Q w') :
    Calls Tryz.prog 169 #[at0 c, .int .i64 no, meth 170] w fun e w' => e = .returned (.bool b) ∧ Q w' := by
  have hE := holder_any h.cache no
  rw [he] at hE
  have HE : Hid (Calls Tryz.prog 45 #[at0 c, .int .i64 no] w fun e w' => e = .returned (frAt bf (i * 261)) ∧ w = w') := Lib.hid hE
  have HF := Lib.hid hF
  clear h hE he hF
  go_enter Tryz.func169, Tryz.ntmps169
  go_wp2_with (first
    | (go_at_call 45; refine HE.out.mono ?_; rintro e w1 ⟨rfl, rfl⟩))
  refine HF.out.mono ?_
  rintro e w1 ⟨rfl, hq⟩
  go_wp2_with fail
  go_ret
  exact ⟨rfl, hq⟩
set_option maxRecDepth 100000 in
theorem tell_nil (no : Int) (fn : Nat) (w : World) : Calls Tryz.prog 169 #[.pointer none, .int .i64 no, meth fn] w fun e w' => e = .returned (.bool false) ∧ w = w' := by
  go_enter Tryz.func169, Tryz.ntmps169
  go_wp2_with fail
  go_ret
  exact ⟨rfl, rfl⟩
set_option maxRecDepth 100000 in
theorem cdrop_nil (no : Int) (w : World) : Calls Tryz.prog 133 #[.pointer none, .int .i64 no] w fun e w' => e = .returned (.bool false) ∧ w = w' := by
  go_enter Tryz.func133, Tryz.ntmps133
  go_wp2_with fail
  refine (tell_nil no 170 w).mono ?_
  rintro e w1 ⟨rfl, rfl⟩
  go_wp2_with fail
  go_ret
  exact ⟨rfl, rfl⟩
set_option maxRecDepth 100000 in
theorem cdrop_any (h : CD w G c bf p x d) (no : Int) :
    Calls Tryz.prog 133 #[at0 c, .int .i64 no] w fun e w' => e = .returned (.bool (x.drop no).1) ∧ CD w' G c bf p (x.drop no).2 d ∧ Only (Foot G c bf) w w' := by
  have hT : Calls Tryz.prog 169 #[at0 c, .int .i64 no, meth 170] w fun e w' => e = .returned (.bool (x.drop no).1) ∧ CD w' G c bf p (x.drop no).2 d ∧ Only (Foot G c bf) w w' := by
    rcases he : x.holder no with _ | i
    · have e : x.drop no = (false, x) := by unfold Cch.drop; rw [he]
      rw [e]
      refine (tell_none h he _).mono ?_
      rintro e w' ⟨rfl, rfl⟩
      exact ⟨rfl, h, Only.refl _ _⟩
    · have hi := (holder_lt he).1
      have hc := h.cache.f260 hi
      rw [← getD_at hi] at hc
      have e : x.drop no = if (x.L.getD i Frm.zero).pins = 0 then (true, x.wipe i) else (false, x) := by unfold Cch.drop; rw [he]
      rw [e]
      by_cases hn : (x.L.getD i Frm.zero).pins = 0
      · rw [if_pos hn]
        exact tell_some_drop h he (cdrop_yes h hi hn)
      · rw [if_neg hn]
        refine tell_some_drop h he ((drop_no (by omega) hc).mono ?_)
        rintro e w' ⟨rfl, rfl⟩
        exact ⟨rfl, h, Only.refl _ _⟩
  have HT := Lib.hid hT
  clear hT h
  go_enter Tryz.func133, Tryz.ntmps133
  go_wp2_with fail
  refine HT.out.mono ?_
  rintro e w1 ⟨rfl, h1, h2⟩
  go_wp2_with fail
  go_ret
  exact ⟨rfl, h1, h2⟩
end
end Go.Proofs.YtnmokkkbghlpbaaGreat
/-
  New of a cache: its contract; a device and a cache that a law makes.
-/
namespace Go.Proofs.YtnmokkkbghlpbaaGreat
open Go.RowKit
/-- A new cache. -/
def Cch.new (n : Nat) : Cch := ⟨List.replicate n Frm.zero, 0⟩
theorem Cch.new_len (n : Nat) : (Cch.new n).L.length = n := List.length_replicate
theorem new_getD (n i : Nat) : (Cch.new n).L.getD i Frm.zero = Frm.zero := by
  rw [List.getD_eq_getElem?_getD]
  show ((List.replicate n Frm.zero)[i]?).getD Frm.zero = _
  rw [List.getElem?_replicate]
  split <;> rfl
theorem zero_wide : (Frm.zero).b.length = 256 := List.length_replicate
theorem new_broad (n : Nat) : Broad (Cch.new n).L := fun f hf => by rw [List.eq_of_mem_replicate hf]; exact zero_wide
theorem made_rows (n : Nat) : madeCells (frCells Frm.zero).toArray (n * 261) = (rows (Cch.new n).L).toArray := by
  have hl : (rows (Cch.new n).L).length = n * 261 := by
    have := chunks_length (new_broad n).cells
    rw [Cch.new_len] at this
    exact this
  have hz : (frCells Frm.zero).length = 261 := frCells_length zero_wide
  apply Array.ext_getElem?
  intro i
  simp only [madeCells, Array.getElem?_map, List.getElem?_toArray, List.size_toArray]
  rw [hz]
  by_cases hi : i < n * 261
  · have h1 : i / 261 < (Cch.new n).L.length := by rw [Cch.new_len]; exact Nat.div_lt_of_lt_mul (by omega)
    have h2 : i % 261 < 261 := Nat.mod_lt _ (by omega)
    have e : (Cch.new n).L[i / 261] = Frm.zero := List.getElem_replicate ..
    have h3 : (frCells (Cch.new n).L[i / 261])[i % 261]? = some ((frCells Frm.zero)[i % 261]'(by rw [hz]; exact h2)) := by rw [e]; exact List.getElem?_eq_getElem _
    have h4 := chunks_get (new_broad n).cells h1 h3
    rw [show i / 261 * 261 + i % 261 = i by omega] at h4
    unfold rows
    rw [h4]
    have h5 : (Array.range (n * 261))[i]? = some i := by simp [hi]
    rw [h5]
    simp only [Option.map_some]
    rw [getElem!_pos _ _ (by simp [hz]; exact h2)]
    simp
  · rw [List.getElem?_eq_none (by omega)]
    simp; omega
theorem info_frame' : (Tryz.prog.info? 148).map (fun i => (i.zero, i.size, i.bytes)) = some (some (.agg (frCells Frm.zero).toArray), 261, 288) := by kernel_rfl
set_option maxRecDepth 100000 in
theorem cnew_nil (n : Int) (w : World) : Calls Tryz.prog 29 #[.pointer none, .int .i64 n] w fun e w' => e = .returned (.tuple #[.pointer none, .int .i64 1]) ∧ w = w' := by
  go_enter Tryz.func29, Tryz.ntmps29
  go_wp2_with fail
  go_ret2
  exact ⟨rfl, rfl⟩
set_option maxRecDepth 100000 in
theorem cnew_no (p : Nat) {n : Int} (w : World) (h : n < 8 ∨ 64 < n) : Calls Tryz.prog 29 #[at0 p, .int .i64 n] w fun e w' => e = .returned (.tuple #[.pointer none, .int .i64 1]) ∧ w = w' := by
  rcases h with h | h
  · go_enter Tryz.func29, Tryz.ntmps29
    go_wp2_with fail
    go_ret2
    exact ⟨rfl, rfl⟩
  · have h1 : ¬ n < 8 := by omega
    go_enter Tryz.func29, Tryz.ntmps29
    go_wp2_with fail
    go_ret2
    exact ⟨rfl, rfl⟩
set_option maxRecDepth 100000 in
set_option maxHeartbeats 400000 in
theorem cnew_ok (p : Nat) {n : Nat} (w : World) (h : 8 ≤ n ∧ n ≤ 64) :
    Calls Tryz.prog 29 #[at0 p, .int .i64 (n : Int)] w fun e w' => e = .returned (.tuple #[at0 (w.heap.size + 1), .int .i64 0]) ∧ CacheIs w' (w.heap.size + 1) w.heap.size p (Cch.new n) ∧ Below w.heap.size w w' := by
  obtain ⟨i, hi, hz0, hz1, hz2⟩ := info_parts info_frame'
  have hmk := run_makeSlice (P := Tryz.prog) w 103 148 i _ Tryz.underlying103 hi hz0 .i64 .i64 (n : Int) (n : Int) (by omega) (by omega) (by rw [hz1]; omega) (by rw [hz2]; omega) (by omega)
  rw [hz1] at hmk
  have hnt : (n : Int).toNat = n := by omega
  have hcl : (Value.agg (frCells Frm.zero).toArray).cells = (frCells Frm.zero).toArray := rfl
  rw [hcl, hnt, made_rows] at hmk
  obtain ⟨C, hC⟩ : ∃ C, C = (rows (Cch.new n).L).toArray := ⟨_, rfl⟩
  rw [← hC] at hmk
  have hw : CacheIs ((w.alloc (.cells C 148)).alloc (.cells #[.slice (some ⟨w.heap.size, 0, none⟩) n n, .int .i64 0, at0 p] 107)) (w.heap.size + 1) w.heap.size p (Cch.new n) := by
    have s1 : (w.alloc (.cells C 148)).heap.size = w.heap.size + 1 := by simp
    refine ⟨?_, ?_, new_broad n, by omega, by rw [Cch.new_len]; exact h, by rw [Cch.new_len]; show 0 < n; omega⟩
    · have := heap_alloc_last (w.alloc (.cells C 148)) (.cells #[.slice (some ⟨w.heap.size, 0, none⟩) n n, .int .i64 0, at0 p] 107)
      rw [s1] at this
      rw [this]
      simp [cchCells, Cch.new_len]
      rfl
    · rw [heap_alloc_old _ _ (by rw [s1]; omega), ← hC]; exact heap_alloc_last _ _
  have Hw := Lib.hid hw
  have Hmk := Lib.hid hmk
  have t1 : decide ((n : Int) < 8) = false := by simp; omega
  have t2 : decide (64 < (n : Int)) = false := by simp; omega
  clear hC hw hmk hz0 hz1 hz2 hi hnt hcl h
  go_enter Tryz.func29, Tryz.ntmps29
  go_wp2_with ((with_reducible refine wpList_run (o := ⟨some 17, .makeSlice 103 (.tmp 16) (.tmp 16), _, _, _, none⟩) rfl (.slice (some ⟨w.heap.size, 0, none⟩) n n) (w.alloc (.cells C 148)) ?_ ?_); exact exec_makeSlice (t := 103) (x := .tmp 16) (y := .tmp 16) rfl (u := .int .i64 (n : Int)) rfl (v := .int .i64 (n : Int)) rfl Hmk.out)
  go_ret2
  exact ⟨rfl, Hw.out, ((Below.refl _ _).alloc (Nat.le_refl _) _).alloc (by simp) _⟩
section
variable {w w1 w2 w' : World} {c bf p : Nat} {x : Cch} {d : Dev}
/-- The blocks of what a law makes, but for the cache's own two. -/
abbrev Made (b c bf : Nat) : Nat → Prop := fun k => b ≤ k ∧ k ≠ c ∧ k ≠ bf
theorem CD.start {b bl bm : Nat} {S : Nat → Value} {D : DataW Value} (hd : DevIs w1 (fun k => b ≤ k) p bl bm S D d) (hc : CacheIs w2 c bf p x) (hb : Below w1.heap.size w1 w2) (h1 : w1.heap.size ≤ c) (h2 : w1.heap.size ≤ bf) : CD w2 (Made b c bf) c bf p x d := by
  refine ⟨hc, ⟨bl, bm, S, D, ?_⟩, fun e => e.2.1 rfl, fun e => e.2.2 rfl⟩
  exact (hd.mono (F' := Made b c bf) fun k hk hf => ⟨hf, by omega, by omega⟩).below hb
theorem CD.fresh {b : Nat} (h : CD w (Made b c bf) c bf p x d) (hb : b ≤ w.heap.size) : ∀ k, w.heap.size ≤ k → Made b c bf k := fun k hk => ⟨by omega, by have := h.lt.1; omega, by have := h.lt.2; omega⟩
theorem Only.low {b : Nat} (ho : Only (Foot (Made b c bf) c bf) w w') (h1 : b ≤ c) (h2 : b ≤ bf) (hb : b ≤ w.heap.size) : Below b w w' :=
  Only.below (ho.mono fun k _ hk => by
    rcases hk with hk | hk | hk
    · exact hk.1
    · omega
    · omega) hb
end
end Go.Proofs.YtnmokkkbghlpbaaGreat
/-
  A cache as plain mathematics: what stays so, whatever is done to it.
-/
namespace Go.Proofs.YtnmokkkbghlpbaaGreat
open Go.RowKit
abbrev Cch.fr (x : Cch) (i : Nat) : Frm := x.L.getD i Frm.zero
/-- What stays so of a cache over n sectors. -/
structure Cch.Ok (x : Cch) (n : Nat) : Prop where
  hand : x.hand < x.L.length
  within : x.Within n
  zero : ∀ i, i < x.L.length → (x.fr i).full = false → x.fr i = Frm.zero
  once : ∀ i j, i < x.L.length → j < x.L.length → (x.fr i).full = true → (x.fr j).full = true → (x.fr i).no = (x.fr j).no → i = j
section
variable {x y : Cch} {d : Dev} {n i : Nat} {no : Int} {f : Frm}
theorem fr_set (hi : i < x.L.length) (f : Frm) (j : Nat) : (Cch.mk (x.L.set i f) x.hand).fr j = if j = i then f else x.fr j := set_getD hi f j
theorem holder_none_iff : x.holder no = none ↔ ∀ i, i < x.L.length → (x.fr i).full = true → (x.fr i).no ≠ no := by
  unfold Cch.holder
  rw [List.findIdx?_eq_none_iff]
  constructor
  · intro h i hi hf
    have := h x.L[i] (List.getElem_mem hi)
    unfold Cch.fr at hf ⊢
    rw [getD_at hi] at hf ⊢
    simpa [hf] using this
  · intro h f hf
    obtain ⟨i, hi, rfl⟩ := List.mem_iff_getElem.1 hf
    have := h i hi
    unfold Cch.fr at this
    rw [getD_at hi] at this
    rcases hq : x.L[i].full with _ | _
    · simp
    · simpa using this hq
theorem Cch.Ok.holder_iff (h : x.Ok n) : x.holder no = some i ↔ i < x.L.length ∧ (x.fr i).full = true ∧ (x.fr i).no = no := by
  constructor
  · exact holder_lt
  · rintro ⟨h1, h2, h3⟩
    rcases hh : x.holder no with _ | j
    · exact absurd h3 (holder_none_iff.1 hh i h1 h2)
    · obtain ⟨a, b, c⟩ := holder_lt hh
      rw [h.once j i a h1 b h2 (c.trans h3.symm)]
theorem Cch.Ok.alter (h : x.Ok n) (hi : i < x.L.length) (hf : f.full = true) (hff : (x.fr i).full = true) (hn : f.no = (x.fr i).no) : (Cch.mk (x.L.set i f) x.hand).Ok n := by
  have hl : (x.L.set i f).length = x.L.length := List.length_set
  have e : ∀ j, ((Cch.mk (x.L.set i f) x.hand).fr j).full = (x.fr j).full ∧ ((Cch.mk (x.L.set i f) x.hand).fr j).no = (x.fr j).no := by
    intro j
    rw [fr_set hi]
    split
    · rename_i e; subst e; exact ⟨hf.trans hff.symm, hn⟩
    · exact ⟨rfl, rfl⟩
  refine ⟨by rw [hl]; exact h.hand, fun j hj hjf => ?_, fun j hj hjf => ?_, fun j k hj hk a b c => ?_⟩
  · rw [hl] at hj
    have := h.within j hj (by rw [← hjf]; exact (e j).1.symm)
    rw [show ((x.L.set i f).getD j Frm.zero).no = (x.fr j).no from (e j).2]
    exact this
  · rw [hl] at hj
    rw [(e j).1] at hjf
    rw [fr_set hi]
    split
    · rename_i e2; subst e2; rw [hff] at hjf; cases hjf
    · exact h.zero j hj hjf
  · rw [hl] at hj hk
    rw [(e j).1] at a
    rw [(e k).1] at b
    rw [(e j).2, (e k).2] at c
    exact h.once j k hj hk a b c
theorem Cch.Ok.wipe (h : x.Ok n) (hi : i < x.L.length) : (x.wipe i).Ok n := by
  have hl := Cch.wipe_len x i
  have e : ∀ j, (x.wipe i).fr j = if j = i then Frm.zero else x.fr j := fun j => fr_set hi _ j
  refine ⟨by rw [hl]; exact h.hand, fun j hj hjf => ?_, fun j hj hjf => ?_, fun j k hj hk a b c => ?_⟩
  · rw [hl] at hj
    have e' := e j
    unfold Cch.fr at e'
    rw [e'] at hjf ⊢
    split at hjf
    · cases hjf
    · rename_i e2; rw [if_neg e2]; exact h.within j hj hjf
  · rw [hl] at hj
    rw [e] at hjf ⊢
    split at hjf
    · rename_i e2; rw [if_pos e2]
    · rename_i e2; rw [if_neg e2]; exact h.zero j hj hjf
  · rw [hl] at hj hk
    rw [e] at a b c
    rw [e] at c
    split at a
    · cases a
    · rename_i e1
      rw [if_neg e1] at c
      split at b
      · cases b
      · rename_i e2
        rw [if_neg e2] at c
        exact h.once j k hj hk a b c
theorem Cch.Ok.hold (h : x.Ok n) (hi : i < x.L.length) (hno : 0 ≤ no ∧ no < n) (he : x.holder no = none) : (x.hold i no).Ok n := by
  have hl := Cch.hold_len x i no
  have hn := holder_none_iff.1 he
  have e : ∀ j, (x.hold i no).fr j = if j = i then { x.fr i with full := true, no := no } else x.fr j := fun j => fr_set hi _ j
  refine ⟨by rw [hl]; exact h.hand, fun j hj hjf => ?_, fun j hj hjf => ?_, fun j k hj hk a b c => ?_⟩
  · rw [hl] at hj
    have e' := e j
    unfold Cch.fr at e'
    rw [e'] at hjf ⊢
    split at hjf
    · rename_i e2; rw [if_pos e2]; exact hno
    · rename_i e2; rw [if_neg e2]; exact h.within j hj hjf
  · rw [hl] at hj
    rw [e] at hjf ⊢
    split at hjf
    · cases hjf
    · rename_i e2; rw [if_neg e2]; exact h.zero j hj hjf
  · rw [hl] at hj hk
    rw [e] at a b c
    rw [e] at c
    by_cases e1 : j = i
    · by_cases e2 : k = i
      · omega
      · rw [if_pos e1, if_neg e2] at c
        rw [if_neg e2] at b
        exact absurd c.symm (hn k hk b)
    · rw [if_neg e1] at a c
      by_cases e2 : k = i
      · rw [if_pos e2] at c
        exact absurd c (hn j hj a)
      · rw [if_neg e2] at b c
        exact h.once j k hj hk a b c
theorem turnGo_hand : ∀ (k : Nat) (x : Cch), x.hand < x.L.length → (turnGo k x).2.hand < x.L.length
  | 0, _, h => h
  | k + 1, x, h => by
    have hm : (x.hand + 1) % x.L.length < x.L.length := Nat.mod_lt _ (by omega)
    unfold turnGo
    split
    · exact turnGo_hand k _ hm
    · split
      · have := turnGo_hand k { L := x.L.set x.hand { x.L.getD x.hand Frm.zero with used := false }, hand := (x.hand + 1) % x.L.length } (by simpa using hm)
        rw [List.length_set] at this
        exact this
      · exact hm
theorem turn_parts (x : Cch) (i : Nat) : (x.turn.2.fr i).full = (x.fr i).full ∧ (x.turn.2.fr i).no = (x.fr i).no ∧ (x.turn.2.fr i).b = (x.fr i).b ∧ (x.turn.2.fr i).dirty = (x.fr i).dirty ∧ (x.turn.2.fr i).pins = (x.fr i).pins :=
  core_parts ((core_same (turnGo_core (2 * x.L.length) x)).2 i)
theorem Cch.Ok.turn (h : x.Ok n) (hall : ∀ i, i < x.L.length → (x.fr i).full = true) : x.turn.2.Ok n := by
  have hl := turn_len x
  refine ⟨by rw [hl]; exact turnGo_hand _ _ h.hand, fun j hj hjf => ?_, fun j hj hjf => ?_, fun j k hj hk a b c => ?_⟩
  · rw [hl] at hj
    have := turn_parts x j
    have h2 := h.within j hj (by rw [← hjf]; exact this.1.symm)
    rw [show (x.turn.2.L.getD j Frm.zero).no = (x.fr j).no from this.2.1]
    exact h2
  · rw [hl] at hj
    rw [(turn_parts x j).1, hall j hj] at hjf
    cases hjf
  · rw [hl] at hj hk
    rw [(turn_parts x j).1] at a
    rw [(turn_parts x k).1] at b
    rw [(turn_parts x j).2.1, (turn_parts x k).2.1] at c
    exact h.once j k hj hk a b c
theorem Cch.Ok.write (h : x.Ok n) (hi : i < x.L.length) (hf : (x.fr i).full = true) (d : Dev) : (x.write d i).2.1.Ok n := by
  unfold Cch.write
  split
  · exact h
  · exact h.alter hi hf hf rfl
theorem write_pins (y : Cch) (d : Dev) (i j : Nat) : ((y.write d i).2.1.fr j).pins = (y.fr j).pins ∧ ((y.write d i).2.1.fr j).full = (y.fr j).full ∧ ((y.write d i).2.1.fr j).no = (y.fr j).no ∧ ((y.write d i).2.1.fr j).b = (y.fr j).b := by
  unfold Cch.write
  split
  · exact ⟨rfl, rfl, rfl, rfl⟩
  · by_cases hi : i < y.L.length
    · rw [fr_set hi]
      split
      · rename_i e; subst e; exact ⟨rfl, rfl, rfl, rfl⟩
      · exact ⟨rfl, rfl, rfl, rfl⟩
    · show ((Cch.mk (y.L.set i _) y.hand).fr j).pins = _ ∧ _
      rw [List.set_eq_of_length_le (by omega)]
      exact ⟨rfl, rfl, rfl, rfl⟩
/-- Room made: what stays so, and that the frame holds nothing; no pin is touched. -/
theorem Cch.Ok.room (h : x.Ok n) (d : Dev) : (x.room d).2.2.1.Ok n ∧ (∀ i, (x.room d).1 = some i → i < x.L.length ∧ ((x.room d).2.2.1.fr i) = Frm.zero ∧ (x.fr i).pins = 0) ∧
    (∀ j, ((x.room d).2.2.1.fr j).pins = (x.fr j).pins) ∧ (∀ j, (x.fr j).pins ≠ 0 → ((x.room d).2.2.1.fr j).full = (x.fr j).full ∧ ((x.room d).2.2.1.fr j).no = (x.fr j).no) ∧
    (∀ no, x.holder no = none → (x.room d).2.2.1.holder no = none) := by
  unfold Cch.room
  split
  · rename_i i he
    unfold Cch.empty at he
    rw [List.findIdx?_eq_some_iff_getElem] at he
    obtain ⟨hi, h1, _⟩ := he
    have hz : x.fr i = Frm.zero := h.zero i hi (by unfold Cch.fr; rw [getD_at hi]; simpa using h1)
    refine ⟨h, fun j hj => ?_, fun _ => rfl, fun _ _ => ⟨rfl, rfl⟩, fun _ hh => hh⟩
    have : i = j := by injection hj
    subst this
    exact ⟨hi, hz, by rw [hz]; rfl⟩
  · rename_i he
    have hall := empty_all he
    have hT := h.turn hall
    have hP := turn_parts x
    have hl := turn_len x
    have hs := turnGo_some (2 * x.L.length) x
    have hkeep : ∀ no, x.holder no = none → x.turn.2.holder no = none := fun no hh => by
      rw [holder_none_iff] at hh ⊢
      intro j hj a
      rw [hl] at hj
      rw [(hP j).1] at a
      rw [(hP j).2.1]
      exact hh j hj a
    split
    · rename_i y ht
      rw [ht] at hT hP hkeep
      exact ⟨hT, (fun i e => by cases e), fun j => (hP j).2.2.2.2, fun j _ => ⟨(hP j).1, (hP j).2.1⟩, hkeep⟩
    · rename_i i y ht
      have ht' : turnGo (2 * x.L.length) x = (some i, y) := ht
      rw [ht'] at hs
      rw [ht] at hT hP hkeep hl
      obtain ⟨hi, hpin⟩ := hs i h.hand rfl
      have hl : y.L.length = x.L.length := hl
      have hT : y.Ok n := hT
      have hP : ∀ j, (y.fr j).full = (x.fr j).full ∧ (y.fr j).no = (x.fr j).no ∧ (y.fr j).b = (x.fr j).b ∧ (y.fr j).dirty = (x.fr j).dirty ∧ (y.fr j).pins = (x.fr j).pins := hP
      have hkeep : ∀ no, x.holder no = none → y.holder no = none := hkeep
      have hpin : (y.fr i).pins = 0 := hpin
      have hxi : (x.fr i).pins = 0 := by rw [← (hP i).2.2.2.2]; exact hpin
      have hyi : i < y.L.length := by omega
      have hfi : (y.fr i).full = true := by rw [(hP i).1]; exact hall i hi
      -- a frame wiped
      have wiped : ∀ z : Cch, z.Ok n → z.L.length = x.L.length → (∀ j, (z.fr j).pins = (x.fr j).pins ∧ (z.fr j).full = (x.fr j).full ∧ (z.fr j).no = (x.fr j).no) →
          (z.wipe i).Ok n ∧ (∀ k, some i = some k → k < x.L.length ∧ (z.wipe i).fr k = Frm.zero ∧ (x.fr k).pins = 0) ∧ (∀ j, ((z.wipe i).fr j).pins = (x.fr j).pins) ∧ (∀ j, (x.fr j).pins ≠ 0 → ((z.wipe i).fr j).full = (x.fr j).full ∧ ((z.wipe i).fr j).no = (x.fr j).no) ∧ (∀ no, x.holder no = none → (z.wipe i).holder no = none) := by
        intro z hz hzl hzp
        have hzi : i < z.L.length := by omega
        have e : ∀ j, (z.wipe i).fr j = if j = i then Frm.zero else z.fr j := fun j => fr_set hzi _ j
        refine ⟨hz.wipe hzi, fun k hk => ?_, fun j => ?_, fun j hj => ?_, fun no hh => ?_⟩
        · have : i = k := by injection hk
          subst this
          exact ⟨hi, by rw [e, if_pos rfl], hxi⟩
        · rw [e]
          split
          · rename_i e2; subst e2; rw [hxi]; rfl
          · exact (hzp j).1
        · rw [e]
          split
          · rename_i e2; subst e2; exact absurd hxi hj
          · exact (hzp j).2
        · rw [holder_none_iff] at hh ⊢
          intro j hj a
          rw [Cch.wipe_len, hzl] at hj
          rw [e] at a ⊢
          split at a
          · cases a
          · rename_i e2
            rw [if_neg e2, (hzp j).2.2]
            exact hh j hj (by rw [← (hzp j).2.1]; exact a)
      have hW : (y.write d i).2.1.Ok n := hT.write hyi hfi d
      have hWl : (y.write d i).2.1.L.length = x.L.length := by rw [(write_L y d i).1]; exact hl
      have hWp : ∀ j, ((y.write d i).2.1.fr j).pins = (x.fr j).pins ∧ ((y.write d i).2.1.fr j).full = (x.fr j).full ∧ ((y.write d i).2.1.fr j).no = (x.fr j).no := fun j => by
        have := write_pins y d i j
        exact ⟨this.1.trans (hP j).2.2.2.2, this.2.1.trans (hP j).1, this.2.2.1.trans (hP j).2.1⟩
      split
      · split
        · exact wiped _ hW hWl hWp
        · refine ⟨hW, (fun i e => by cases e), fun j => (hWp j).1, fun j _ => (hWp j).2, fun no hh => ?_⟩
          show (y.write d i).2.1.holder no = none
          rw [holder_none_iff] at hh ⊢
          intro j hj a
          rw [hWl] at hj
          rw [(hWp j).2.1] at a
          rw [(hWp j).2.2]
          exact hh j hj a
      · exact wiped y hT hl fun j => ⟨(hP j).2.2.2.2, (hP j).1, (hP j).2.1⟩
theorem new_ok' (k n : Nat) (hk : 0 < k) : (Cch.new k).Ok n := by
  refine ⟨by rw [Cch.new_len]; exact hk, ?_, fun i _ _ => new_getD k i, fun i j _ _ a => ?_⟩
  · intro i _ a
    rw [new_getD] at a
    cases a
  · unfold Cch.fr at a
    rw [new_getD] at a
    cases a
end
end Go.Proofs.YtnmokkkbghlpbaaGreat
/-
  A cache over a device that does not fail, as plain mathematics: a frame is found where one is not pinned; what is told of each sector.
-/
namespace Go.Proofs.YtnmokkkbghlpbaaGreat
open Go.RowKit
section
variable {x y : Cch} {d : Dev} {n i : Nat} {no : Int} {f : Frm}
theorem map_set_same {α β : Type} {g : α → β} {L : List α} {i : Nat} {a : α} (h : ∀ hi : i < L.length, g a = g L[i]) : (L.set i a).map g = L.map g := by
  by_cases hi : i < L.length
  · apply List.ext_getElem
    · simp
    · intro j h1 h2
      rw [List.getElem_map, List.getElem_map, List.getElem_set]
      split
      · rename_i e; subst e; exact h hi
      · rfl
  · rw [List.set_eq_of_length_le (by omega)]
theorem holder_find {x y : Cch} (h : y.L.map (fun f => (f.full, f.no)) = x.L.map (fun f => (f.full, f.no))) (no : Int) : y.holder no = x.holder no := by
  have e : ∀ z : Cch, z.holder no = (z.L.map (fun f => (f.full, f.no))).findIdx? (fun q => q.1 && q.2 == no) := fun z => by
    unfold Cch.holder
    rw [List.findIdx?_map]
    rfl
  rw [e, e, h]
theorem turnGo_near : ∀ (t k : Nat) (x : Cch) (m : Nat), x.hand < x.L.length → m < x.L.length → t < x.L.length → (x.hand + t) % x.L.length = m → (x.fr m).pins = 0 → (x.fr m).used = false → t < k → (turnGo k x).1 ≠ none
  | _, 0, _, _, _, _, _, _, _, _, h => by omega
  | 0, k + 1, x, m, hh, hm, _, he, hp, hu, _ => by
    rw [Nat.add_zero, Nat.mod_eq_of_lt hh] at he
    subst he
    unfold turnGo
    rw [if_neg (by show ¬ 0 < (x.fr x.hand).pins; omega), if_neg (by show ¬ (x.fr x.hand).used = true; rw [hu]; simp)]
    simp
  | t + 1, k + 1, x, m, hh, hm, ht, he, hp, hu, hk => by
    have hm' : (x.hand + 1) % x.L.length < x.L.length := Nat.mod_lt _ (by omega)
    have he2 : ((x.hand + 1) % x.L.length + t) % x.L.length = m := by rw [Nat.mod_add_mod, ← he]; congr 1; omega
    have hne : m ≠ x.hand := by
      intro e
      rw [e] at he
      by_cases hc : x.hand + (t + 1) < x.L.length
      · rw [Nat.mod_eq_of_lt hc] at he; omega
      · rw [Nat.mod_eq_sub_mod (by omega), Nat.mod_eq_of_lt (by omega)] at he; omega
    unfold turnGo
    split
    · exact turnGo_near t k { x with hand := (x.hand + 1) % x.L.length } m hm' hm (show t < x.L.length by omega) he2 hp hu (by omega)
    · split
      · have hf := fr_set hh { x.L.getD x.hand Frm.zero with used := false } m
        rw [if_neg hne] at hf
        have hl : (x.L.set x.hand { x.L.getD x.hand Frm.zero with used := false }).length = x.L.length := List.length_set
        refine turnGo_near t k { L := x.L.set x.hand { x.L.getD x.hand Frm.zero with used := false }, hand := (x.hand + 1) % x.L.length } m (by rw [hl]; exact hm') (by rw [hl]; exact hm) (by rw [hl]; omega) (by rw [hl]; exact he2) ?_ ?_ (by omega)
        · exact (congrArg Frm.pins hf).trans hp
        · exact (congrArg Frm.used hf).trans hu
      · simp
theorem turnGo_far : ∀ (t k : Nat) (x : Cch) (m : Nat), x.hand < x.L.length → m < x.L.length → t < x.L.length → (x.hand + t) % x.L.length = m → (x.fr m).pins = 0 → t + x.L.length < k → (turnGo k x).1 ≠ none
  | _, 0, _, _, _, _, _, _, _, h => by omega
  | 0, k + 1, x, m, hh, hm, _, he, hp, hk => by
    rw [Nat.add_zero, Nat.mod_eq_of_lt hh] at he
    subst he
    have hm' : (x.hand + 1) % x.L.length < x.L.length := Nat.mod_lt _ (by omega)
    unfold turnGo
    rw [if_neg (by show ¬ 0 < (x.fr x.hand).pins; omega)]
    split
    · have hf := fr_set hh { x.L.getD x.hand Frm.zero with used := false } x.hand
      rw [if_pos rfl] at hf
      have hl : (x.L.set x.hand { x.L.getD x.hand Frm.zero with used := false }).length = x.L.length := List.length_set
      refine turnGo_near (x.L.length - 1) k { L := x.L.set x.hand { x.L.getD x.hand Frm.zero with used := false }, hand := (x.hand + 1) % x.L.length } x.hand (by rw [hl]; exact hm') (by rw [hl]; exact hm) (by rw [hl]; omega) ?_ ?_ ?_ (by omega)
      · rw [hl, Nat.mod_add_mod, show x.hand + 1 + (x.L.length - 1) = x.hand + x.L.length by omega, Nat.add_mod_right, Nat.mod_eq_of_lt hh]
      · exact (congrArg Frm.pins hf).trans hp
      · exact congrArg Frm.used hf
    · simp
  | t + 1, k + 1, x, m, hh, hm, ht, he, hp, hk => by
    have hm' : (x.hand + 1) % x.L.length < x.L.length := Nat.mod_lt _ (by omega)
    have he2 : ((x.hand + 1) % x.L.length + t) % x.L.length = m := by rw [Nat.mod_add_mod, ← he]; congr 1; omega
    have hne : m ≠ x.hand := by
      intro e
      rw [e] at he
      by_cases hc : x.hand + (t + 1) < x.L.length
      · rw [Nat.mod_eq_of_lt hc] at he; omega
      · rw [Nat.mod_eq_sub_mod (by omega), Nat.mod_eq_of_lt (by omega)] at he; omega
    unfold turnGo
    split
    · exact turnGo_far t k { x with hand := (x.hand + 1) % x.L.length } m hm' hm (show t < x.L.length by omega) he2 hp (by show t + x.L.length < k; omega)
    · split
      · have hf := fr_set hh { x.L.getD x.hand Frm.zero with used := false } m
        rw [if_neg hne] at hf
        have hl : (x.L.set x.hand { x.L.getD x.hand Frm.zero with used := false }).length = x.L.length := List.length_set
        refine turnGo_far t k { L := x.L.set x.hand { x.L.getD x.hand Frm.zero with used := false }, hand := (x.hand + 1) % x.L.length } m (by rw [hl]; exact hm') (by rw [hl]; exact hm) (by rw [hl]; omega) (by rw [hl]; exact he2) ?_ (by show t + (x.L.set x.hand _).length < k; rw [hl]; omega)
        exact (congrArg Frm.pins hf).trans hp
      · simp
/-- Where a frame is not pinned the hand finds one. -/
theorem turn_finds (hh : x.hand < x.L.length) {m : Nat} (hm : m < x.L.length) (hp : (x.fr m).pins = 0) : x.turn.1 ≠ none := by
  refine turnGo_far (if x.hand ≤ m then m - x.hand else m + x.L.length - x.hand) _ x m hh hm ?_ ?_ hp ?_
  · split <;> omega
  · split
    · rw [show x.hand + (m - x.hand) = m by omega, Nat.mod_eq_of_lt hm]
    · rw [show x.hand + (m + x.L.length - x.hand) = m + x.L.length by omega, Nat.add_mod_right, Nat.mod_eq_of_lt hm]
  · split <;> omega
/-- A device that does not fail. -/
def Dev.Calm (d : Dev) : Prop := ∀ k, (d.f k).1 = false
theorem Dev.Calm.burns (h : d.Calm) (k : Nat) : d.burns k = false := Dev.burns_idle d k (h k)
theorem Dev.Calm.burn (h : d.Calm) (k : Nat) : d.burn k = d := Dev.burn_idle d k (h k)
theorem write_calm (h : d.Calm) (i : Nat) : x.write d i = (0, { x with L := x.L.set i { x.fr i with dirty := false } }, d.put (x.fr i).no.toNat (x.fr i).b) := by
  unfold Cch.write
  rw [if_neg (by rw [h.burns]; simp), h.burn]
theorem room_finds (hd : d.Calm) (hh : x.hand < x.L.length) {m : Nat} (hm : m < x.L.length) (hp : (x.fr m).pins = 0) : ∃ i, (x.room d).1 = some i ∧ (x.room d).2.1 = 0 := by
  obtain ⟨_, _, _, h4⟩ := room_spec x d hh
  rcases h4 with ⟨i, e1, e2, _⟩ | ⟨e1, _⟩
  · exact ⟨i, e1, e2⟩
  · exfalso
    unfold Cch.room at e1
    split at e1
    · cases e1
    · have ht := turn_finds hh hm hp
      split at e1
      · rename_i y hy
        rw [hy] at ht
        exact ht rfl
      · rename_i i y hy
        split at e1
        · rw [if_pos (by rw [write_calm hd])] at e1
          cases e1
        · cases e1
theorem room_dev (d : Dev) : (x.room d).2.2.2.L.length = d.L.length ∧ (d.Calm → (x.room d).2.2.2.Calm) := by
  unfold Cch.room
  have hw : ∀ (y : Cch) i, (y.write d i).2.2.L.length = d.L.length ∧ (d.Calm → (y.write d i).2.2.Calm) := fun y i => ⟨(write_dev y d i).1, fun h => by rw [write_calm h]; exact h⟩
  split
  · exact ⟨rfl, id⟩
  · split
    · exact ⟨rfl, id⟩
    · split
      · split
        · exact hw _ _
        · exact hw _ _
      · exact ⟨rfl, id⟩
/-- What stays so when a frame's marks are set. -/
theorem Cch.Ok.mark (h : x.Ok n) (hi : i < x.L.length) (hf : (x.fr i).full = true) (f : Frm) (h1 : f.full = true) (h2 : f.no = (x.fr i).no) (h3 : f.pins = (x.fr i).pins) :
    (Cch.mk (x.L.set i f) x.hand).Ok n ∧ (∀ j, ((Cch.mk (x.L.set i f) x.hand).fr j).pins = (x.fr j).pins ∧ ((Cch.mk (x.L.set i f) x.hand).fr j).full = (x.fr j).full ∧ ((Cch.mk (x.L.set i f) x.hand).fr j).no = (x.fr j).no) := by
  refine ⟨h.alter hi h1 hf h2, fun j => ?_⟩
  rw [fr_set hi]
  split
  · rename_i e; subst e; exact ⟨h3, h1.trans hf.symm, h2⟩
  · exact ⟨rfl, rfl, rfl⟩
/-- Sector no held in frame i, which held nothing. -/
theorem Cch.Ok.took (h : x.Ok n) (hi : i < x.L.length) (hz : x.fr i = Frm.zero) (hno : 0 ≤ no ∧ no < n) (he : x.holder no = none) (l : List UInt8) :
    ((x.hold i no).bytes i l).Ok n ∧ ((x.hold i no).bytes i l).L.length = x.L.length ∧ (∀ j, ((x.hold i no).bytes i l).fr j = if j = i then ⟨true, no, l, false, false, 0⟩ else x.fr j) ∧ ((x.hold i no).bytes i l).holder no = some i := by
  have hl := Cch.hold_len x i no
  have hi2 : i < (x.hold i no).L.length := by rw [hl]; exact hi
  have e1 : ∀ j, (x.hold i no).fr j = if j = i then { x.fr i with full := true, no := no } else x.fr j := fun j => fr_set hi _ j
  have e2 : ∀ j, ((x.hold i no).bytes i l).fr j = if j = i then { (x.hold i no).fr i with b := l } else (x.hold i no).fr j := fun j => fr_set hi2 _ j
  have e3 : ∀ j, ((x.hold i no).bytes i l).fr j = if j = i then ⟨true, no, l, false, false, 0⟩ else x.fr j := by
    intro j
    rw [e2, e1, e1, if_pos rfl, hz]
    split
    · rfl
    · rfl
  have hok : ((x.hold i no).bytes i l).Ok n := by
    refine (h.hold hi hno he).alter hi2 ?_ ?_ rfl
    · show ((x.hold i no).fr i).full = true
      rw [e1, if_pos rfl]
    · rw [e1, if_pos rfl]
  refine ⟨hok, by rw [Cch.bytes_len, hl], e3, ?_⟩
  rw [hok.holder_iff]
  rw [Cch.bytes_len, hl, e3, if_pos rfl]
  exact ⟨hi, rfl, rfl⟩
/-- What Get leaves. -/
theorem Cch.Ok.get (h : x.Ok d.L.length) (no : Int) : (x.get d no).2.2.1.Ok d.L.length ∧ (x.get d no).2.2.1.L.length = x.L.length ∧ (∀ j, ((x.get d no).2.2.1.fr j).pins = (x.fr j).pins) ∧
    (∀ j, (x.fr j).pins ≠ 0 → ((x.get d no).2.2.1.fr j).full = (x.fr j).full ∧ ((x.get d no).2.2.1.fr j).no = (x.fr j).no) ∧ ((x.get d no).2.1 = 0 → ∃ i, (x.get d no).2.2.1.holder no = some i) ∧ (x.get d no).2.2.2.L.length = d.L.length ∧ (x.get d no).2.2.2.n ≤ d.n + 1 ∧ (d.Calm → (x.get d no).2.2.2.Calm) ∧
    (d.Calm → 0 ≤ no ∧ no < d.L.length → (∃ m, m < x.L.length ∧ (x.fr m).pins = 0) → (x.get d no).2.1 = 0) := by
  unfold Cch.get
  split
  · rename_i hno
    split
    · rename_i i he
      obtain ⟨hi, hf, hn⟩ := holder_lt he
      obtain ⟨m1, m2⟩ := h.mark hi hf { x.fr i with used := true } hf rfl rfl
      refine ⟨m1, List.length_set, fun j => (m2 j).1, fun j _ => (m2 j).2, fun _ => ⟨i, ?_⟩, rfl, Nat.le_succ _, id, fun _ _ _ => rfl⟩
      show (x.use i).holder no = some i
      have m1' : (x.use i).Ok d.L.length := m1
      rw [m1'.holder_iff]
      exact ⟨by rw [Cch.use_len]; exact hi, (m2 i).2.1.trans hf, (m2 i).2.2.trans hn⟩
    · rename_i he
      obtain ⟨r1, r2, r3, r4, r5⟩ := h.room d
      obtain ⟨s1, s2, s3, s4⟩ := room_spec x d h.hand
      have s5 := (room_dev (x := x) d).2
      have hfind : d.Calm → (∃ m, m < x.L.length ∧ (x.fr m).pins = 0) → ∃ i, (x.room d).1 = some i := fun hc ⟨m, hm, hp⟩ => (room_finds hc h.hand hm hp).imp fun _ a => a.1
      have hre : x.read d no = match x.room d with
        | (none, e, y, dy) => (none, e, y, dy)
        | (some i, _, y, dy) => if dy.burns 1 = true then (none, 3, y, dy.burn 1) else (some i, 0, (y.hold i no).bytes i (dy.now no.toNat), dy.burn 1) := rfl
      rw [hre]
      rcases hroom : x.room d with ⟨_ | i, e, y, dy⟩
      · rw [hroom] at r1 r2 r3 r4 r5 s1 s2 s3 s4 s5 hfind
        have he0 : e = 3 ∨ e = 11 := by
          rcases s4 with ⟨i, a, _⟩ | ⟨_, b⟩
          · cases a
          · exact b
        refine ⟨r1, s1, r3, r4, fun e0 => ?_, s2, s3, s5, fun hc _ hm => ?_⟩
        · have e0 : e = 0 := e0
          omega
        · obtain ⟨i, a⟩ := hfind hc hm
          cases a
      · rw [hroom] at r1 r2 r3 r4 r5 s1 s2 s3 s4 s5
        have s1 : y.L.length = x.L.length := s1
        have s2 : dy.L.length = d.L.length := s2
        have r1 : y.Ok d.L.length := r1
        obtain ⟨hi, hz, hp⟩ := r2 i rfl
        have hyi : i < y.L.length := by omega
        have hz : y.fr i = Frm.zero := hz
        by_cases hb : dy.burns 1 = true
        · simp only [if_pos hb]
          refine ⟨r1, s1, r3, r4, (fun e0 => by cases e0), s2, s3, fun hc => ?_, fun hc => ?_⟩
          · have := s5 hc
            have := this.burns 1
            have hb' : dy.burns 1 = true := hb
            rw [this] at hb'
            cases hb'
          · have := s5 hc
            have := this.burns 1
            have hb' : dy.burns 1 = true := hb
            rw [this] at hb'
            cases hb'
        · simp only [if_neg hb]
          obtain ⟨t1, t2, t3, t4⟩ := r1.took hyi hz hno (r5 no he) (dy.now no.toNat)
          generalize (y.hold i no).bytes i (dy.now no.toNat) = z at t1 t2 t3 t4 ⊢
          have hi3 : i < z.L.length := by rw [t2]; exact hyi
          have hfi : (z.fr i).full = true := by rw [t3, if_pos rfl]
          have hni : (z.fr i).no = no := by rw [t3, if_pos rfl]
          obtain ⟨m1, m2⟩ := t1.mark hi3 hfi { z.fr i with used := true } hfi rfl rfl
          refine ⟨m1, ?_, fun j => ?_, fun j hj => ?_, fun _ => ⟨i, ?_⟩, s2, s3, fun hc => ?_, fun _ _ _ => trivial⟩
          · show (z.use i).L.length = _
            rw [Cch.use_len, t2]; exact s1
          · refine (m2 j).1.trans ?_
            rw [t3]
            split
            · rename_i e2; subst e2; exact hp.symm
            · exact r3 j
          · have a := r4 j hj
            have hji : j ≠ i := fun e2 => by subst e2; exact hj hp
            have b := (m2 j).2
            have q := t3 j
            rw [if_neg hji] at q
            exact ⟨(b.1.trans (congrArg Frm.full q)).trans a.1, (b.2.trans (congrArg Frm.no q)).trans a.2⟩
          · have m1' : (z.use i).Ok d.L.length := m1
            show (z.use i).holder no = some i
            rw [m1'.holder_iff]
            exact ⟨by rw [Cch.use_len]; exact hi3, (m2 i).2.1.trans hfi, (m2 i).2.2.trans hni⟩
          · have t : dy.Calm := s5 hc
            show (dy.burn 1).Calm
            rw [t.burn]
            exact t
  · rename_i hno
    refine ⟨h, rfl, fun _ => rfl, fun _ _ => ⟨rfl, rfl⟩, (fun e => by cases e), rfl, Nat.le_succ _, id, fun _ a => absurd a hno⟩
end
end Go.Proofs.YtnmokkkbghlpbaaGreat
/-
  cellSize, cellsSize, Size of package node, by contracts.
-/
namespace Go.Proofs.YtnmokkkbghlpbaaGreat
open Go.RowKit
/-- A node lies in block N. -/
structure NdBox (w : World) (N : Nat) (lf : Bool) (K V D : Value) : Prop where
  c0 : w.cell? ⟨N, 0, none⟩ = some (.bool lf)
  c1 : w.cell? ⟨N, 1, none⟩ = some K
  c2 : w.cell? ⟨N, 2, none⟩ = some V
  c3 : w.cell? ⟨N, 3, none⟩ = some D
theorem NdBox.later {w w' : World} {N B : Nat} {lf : Bool} {K V D : Value} (h : NdBox w N lf K V D) (hN : N < B) (hb : Below B w w') : NdBox w' N lf K V D :=
  ⟨(hb.cell (p := ⟨N, 0, none⟩) hN).trans h.c0, (hb.cell (p := ⟨N, 1, none⟩) hN).trans h.c1, (hb.cell (p := ⟨N, 2, none⟩) hN).trans h.c2, (hb.cell (p := ⟨N, 3, none⟩) hN).trans h.c3⟩
theorem NdBox.made (w : World) (lf : Bool) (K V D : Value) : NdBox (w.alloc (.cells #[.bool lf, K, V, D] 126)) w.heap.size lf K V D :=
  ⟨by rw [World.cell?_alloc_mark]; rfl, by rw [World.cell?_alloc_mark]; rfl, by rw [World.cell?_alloc_mark]; rfl, by rw [World.cell?_alloc_mark]; rfl⟩
theorem NdBox.lt {w : World} {N : Nat} {lf : Bool} {K V D : Value} (h : NdBox w N lf K V D) : N < w.heap.size := World.block_lt_of_cell? w _ h.c0

/-- How many bytes cell i has. -/
def Nd.cell (n : Nd) (i : Nat) : Nat := 1 + (n.keys.getD i []).length + (if n.leaf then 1 + (n.vals.getD i []).length else 2)
/-- How many bytes the first k cells have. -/
def Nd.cells (n : Nd) : Nat → Nat
  | 0 => 0
  | k + 1 => n.cells k + n.cell k
theorem Nd.cell_le {n : Nd} (h : n.Snd) {i : Nat} (hi : i < n.keys.length) : n.cell i ≤ 50 := by
  unfold Nd.cell
  have h1 := (h.keys i hi).1.2
  split
  · rename_i hl
    have := h.vals i (by rw [(h.ofLeaf hl).2]; exact hi)
    omega
  · omega
theorem Nd.cells_le {n : Nd} (h : n.Snd) : ∀ k, k ≤ n.keys.length → n.cells k ≤ 50 * k
  | 0, _ => Nat.le_refl _
  | k + 1, hk => by
    have := Nd.cells_le h k (by omega)
    have := n.cell_le h (i := k) (by omega)
    unfold Nd.cells
    omega
set_option maxRecDepth 100000 in
set_option maxHeartbeats 1000000 in
theorem cellsize_any {n : Nd} {K V D : Value} {w : World} {B : Nat} (hr : NdIs w B K V D n) (hs : n.Snd) (i : Nat) (hi : i < n.keys.length) (hn : n.keys.length ≤ 1000000) :
    Calls Tryz.prog 160 #[ndVal n.leaf K V D, .int .i64 (i : Int)] w fun e w' => e = .returned (.int .i64 (n.cell i : Nat)) ∧ Below w.heap.size w w' := by
  obtain ⟨A1, c1, A2, c2, A3, c3, rfl, rfl, rfl⟩ := hr.form
  have h1 := (hs.keys i hi).1.2
  obtain ⟨b, o, rfl, hb⟩ := hr.keys.addr (by omega)
  obtain ⟨A', m, c', hc, _, hm, hmc, hmx⟩ := hr.keys.cell hi
  have hc1 := fun o => (World.cell?_alloc_lt w o _ (World.block_lt_of_cell? _ _ hc)).trans hc
  rw [← hm] at h1
  obtain ⟨lf, hlf⟩ : ∃ lf, lf = n.leaf := ⟨_, rfl⟩
  have hce : n.cell i = 1 + m + (if lf then 1 + (n.vals.getD i []).length else 2) := by unfold Nd.cell; rw [hm, hlf]
  rw [← hlf]
  cases lf
  · rw [if_neg (by decide)] at hce
    rw [hce]
    obtain ⟨a, ha⟩ : ∃ a, a = n.keys.length := ⟨_, rfl⟩
    rw [← ha] at hi hn ⊢
    clear hce ha hlf hs hr hm
    have hc1 := hc1 (.cells #[.bool false, .slice (some ⟨b, o, none⟩) a c1, .slice A2 n.vals.length c2, .slice A3 n.kids.length c3] 126)
    go_enter Tryz.func160, Tryz.ntmps160
    go_wp2_with fail
    go_ret
    exact ⟨by simp, (Below.refl _ _).alloc (Nat.le_refl _) _⟩
  · rw [if_pos rfl] at hce
    have h2 := hs.vals i (by rw [(hs.ofLeaf hlf.symm).2]; exact hi)
    have hl2 := (hs.ofLeaf hlf.symm).2
    obtain ⟨b2, o2, rfl, hb2⟩ := hr.vals.addr (by omega)
    obtain ⟨A2', m2, c2', hc2, _, hm2, hmc2, hmx2⟩ := hr.vals.cell (k := i) (by omega)
    have hc2 := fun o => (World.cell?_alloc_lt w o _ (World.block_lt_of_cell? _ _ hc2)).trans hc2
    rw [← hm2] at hce h2
    rw [hce]
    rw [hl2]
    obtain ⟨a, ha⟩ : ∃ a, a = n.keys.length := ⟨_, rfl⟩
    rw [← ha] at hi hn ⊢
    clear hce ha hlf hs hr hm hm2 hl2
    have hc1 := hc1 (.cells #[.bool true, .slice (some ⟨b, o, none⟩) a c1, .slice (some ⟨b2, o2, none⟩) a c2, .slice A3 n.kids.length c3] 126)
    have hc2 := hc2 (.cells #[.bool true, .slice (some ⟨b, o, none⟩) a c1, .slice (some ⟨b2, o2, none⟩) a c2, .slice A3 n.kids.length c3] 126)
    go_enter Tryz.func160, Tryz.ntmps160
    go_wp2_with fail
    go_ret
    exact ⟨by simp; omega, (Below.refl _ _).alloc (Nat.le_refl _) _⟩
set_option maxRecDepth 100000 in
set_option maxHeartbeats 1000000 in
theorem cells_any {n : Nd} {K V D : Value} {w : World} {B : Nat} (hr : NdIs w B K V D n) (hB : B ≤ w.heap.size) (hs : n.Snd) (hn : n.keys.length ≤ 1000000) :
    Calls Tryz.prog 126 #[ndVal n.leaf K V D] w fun e w' => e = .returned (.int .i64 (n.cells n.keys.length : Nat)) ∧ Below w.heap.size w w' := by
  have hcall := fun (W : World) (hb : Below w.heap.size w W) (i : Nat) (hi : i < n.keys.length) => cellsize_any (hr.below (hb.mono hB)) hs i hi hn
  have hle := fun k (hk : k ≤ n.keys.length) => n.cells_le hs k hk
  obtain ⟨A1, c1, A2, c2, A3, c3, rfl, rfl, rfl⟩ := hr.form
  obtain ⟨lf, hlf⟩ : ∃ lf, lf = n.leaf := ⟨_, rfl⟩
  obtain ⟨a, ha⟩ : ∃ a, a = n.keys.length := ⟨_, rfl⟩
  rw [← ha] at hn hcall hle ⊢
  rw [← hlf] at hcall ⊢
  have HC := Lib.hid hcall
  have HL := Lib.hid hle
  clear hcall hle hs hr hB hlf ha
  go_enter Tryz.func126, Tryz.ntmps126
  go_wp2_with fail
  have hb0 : Below w.heap.size w (w.alloc (.cells #[.bool lf, .slice A1 a c1, .slice A2 n.vals.length c2, .slice A3 n.kids.length c3] 126)) := (Below.refl _ _).alloc (Nat.le_refl _) _
  have hbox := NdBox.made w lf (.slice A1 a c1) (.slice A2 n.vals.length c2) (.slice A3 n.kids.length c3)
  have HB := Lib.hid hb0
  have HX := Lib.hid hbox
  clear hb0 hbox
  go_loopw [3, 8] (fun sv iv wr => ∃ k : Nat, k ≤ a ∧ iv = .int .i64 (k : Int) ∧ sv = .int .i64 (n.cells k : Nat) ∧ Hid (NdBox wr w.heap.size lf (.slice A1 a c1) (.slice A2 n.vals.length c2) (.slice A3 n.kids.length c3) ∧ Below w.heap.size w wr)) (fun _ iv _ => a - (intOf iv).toNat)
  case atStart => exact ⟨0, Nat.zero_le _, rfl, rfl, Lib.hid ⟨HX.out, HB.out⟩⟩
  case round =>
    obtain ⟨k, hk, rfl, rfl, HI⟩ := hrel
    by_cases hlt : k < a
    · obtain ⟨⟨x0, x1, x2, x3⟩, hbel⟩ := HI.out
      have hcc := HC.out wr hbel k hlt
      have hl1 := HL.out (k + 1) (by omega)
      have e1 : n.cells (k + 1) = n.cells k + n.cell k := rfl
      rw [e1] at hl1
      obtain ⟨q, hq⟩ : ∃ q, q = n.cells k := ⟨_, rfl⟩
      obtain ⟨x, hx⟩ : ∃ x, x = n.cell k := ⟨_, rfl⟩
      rw [← hq, ← hx] at hl1
      rw [← hx] at hcc
      rw [← hq]
      have Hq := Lib.hid hq
      have Hx := Lib.hid hx
      have Hbel := Lib.hid hbel
      clear hq hx e1 hbel
      go_wp2_with (go_at_call 160; refine hcc.mono ?_; rintro e w' ⟨rfl, hb⟩)
      go_roundw
      case rel => exact ⟨k + 1, by omega, by go_num, by show _ = Value.int .i64 ((n.cells k + n.cell k : Nat) : Int); rw [← Hq.out, ← Hx.out]; go_num, Lib.hid ⟨(HI.out.1).later HI.out.1.lt hb, up Hbel.out hb⟩⟩
      case measure => simp [intOf]; omega
    · have : k = a := by omega
      subst this
      go_wp2_with fail
      go_ret
      exact ⟨rfl, HI.out.2⟩
end Go.Proofs.YtnmokkkbghlpbaaGreat
/-
  Size, half of package node, by contracts.
-/
namespace Go.Proofs.YtnmokkkbghlpbaaGreat
open Go.RowKit
/-- How many bytes a sound node has. -/
def Nd.size (n : Nd) : Nat := (if n.leaf then 1 else 3) + n.cells n.keys.length
/-- h is the least number of first cells that have at least half of all bytes; most, if that is less. -/
structure Nd.Half (n : Nd) (most h : Nat) : Prop where
  lo : 1 ≤ h
  hi : h ≤ most
  enough : h < most → n.cells n.keys.length ≤ 2 * n.cells h
  least : ∀ j, 1 ≤ j → j < h → 2 * n.cells j < n.cells n.keys.length
theorem Nd.Half.one {n : Nd} {most h g : Nat} (a : n.Half most h) (b : n.Half most g) : h = g := by
  have h1 := a.lo; have h2 := a.hi; have g1 := b.lo; have g2 := b.hi
  rcases Nat.lt_trichotomy h g with e | e | e
  · have := a.enough (by omega); have := b.least h h1 e; omega
  · exact e
  · have := b.enough (by omega); have := a.least g g1 e; omega
set_option maxRecDepth 100000 in
set_option maxHeartbeats 1000000 in
theorem size_any {n : Nd} {K V D : Value} {w : World} {B : Nat} (hr : NdIs w B K V D n) (hB : B ≤ w.heap.size) (hs : n.Snd) (hsh : n.Short 1000000) :
    Calls Tryz.prog 99 #[ndVal n.leaf K V D] w fun e w' => e = .returned (.int .i64 (n.size : Nat)) ∧ Below w.heap.size w w' := by
  have hsnd := fun (W : World) (hb : Below w.heap.size w W) => sound_any (hr.below (hb.mono hB)) (Nat.le_trans hB hb.size) hsh
  have hcall := fun (W : World) (hb : Below w.heap.size w W) => cells_any (hr.below (hb.mono hB)) (Nat.le_trans hB hb.size) hs hsh.1
  rw [sndB_iff.2 hs] at hsnd
  have hle := n.cells_le hs n.keys.length (Nat.le_refl _)
  have hn := hsh.1
  obtain ⟨A1, c1, A2, c2, A3, c3, rfl, rfl, rfl⟩ := hr.form
  obtain ⟨q, hq⟩ : ∃ q, q = n.cells n.keys.length := ⟨_, rfl⟩
  have hsz : n.size = (if n.leaf then 1 else 3) + q := by rw [hq]; rfl
  obtain ⟨z, hz⟩ : ∃ z, z = n.size := ⟨_, rfl⟩
  obtain ⟨lf, hlf⟩ : ∃ lf, lf = n.leaf := ⟨_, rfl⟩
  rw [← hq] at hcall hle
  rw [← hz] at hsz ⊢
  rw [← hlf] at hcall hsnd hsz ⊢
  have HS := Lib.hid hsnd
  have HC := Lib.hid hcall
  have HZ := Lib.hid hsz
  have hq2 : q ≤ 50000000 := by omega
  clear hcall hsnd hle hs hr hB hq hlf hz hsz hsh hn
  have hb0 : Below w.heap.size w (w.alloc (.cells #[.bool lf, .slice A1 n.keys.length c1, .slice A2 n.vals.length c2, .slice A3 n.kids.length c3] 126)) := (Below.refl _ _).alloc (Nat.le_refl _) _
  have hbox := NdBox.made w lf (.slice A1 n.keys.length c1) (.slice A2 n.vals.length c2) (.slice A3 n.kids.length c3)
  have h1 := HS.out _ hb0
  have HB := Lib.hid hb0
  have HX := Lib.hid hbox
  clear hb0 hbox
  cases lf
  · have HZ : Hid (z = 3 + q) := HZ
    go_enter Tryz.func99, Tryz.ntmps99
    go_wp2_with (go_at_call 76; refine h1.mono ?_; rintro e w1 ⟨rfl, hb⟩; obtain ⟨x0, x1, x2, x3⟩ := HX.out.later HX.out.lt hb; have Hb1 := Lib.hid (up HB.out hb); have h2 := HC.out _ Hb1.out; clear hb h1)
    refine h2.mono ?_
    rintro e w2 ⟨rfl, hb⟩
    have Hb2 := Lib.hid (up Hb1.out hb)
    clear hb h2
    go_wp2_with fail
    go_ret
    exact ⟨by rw [HZ.out]; simp, Hb2.out⟩
  · have HZ : Hid (z = 1 + q) := HZ
    go_enter Tryz.func99, Tryz.ntmps99
    go_wp2_with (go_at_call 76; refine h1.mono ?_; rintro e w1 ⟨rfl, hb⟩; obtain ⟨x0, x1, x2, x3⟩ := HX.out.later HX.out.lt hb; have Hb1 := Lib.hid (up HB.out hb); have h2 := HC.out _ Hb1.out; clear hb h1)
    refine h2.mono ?_
    rintro e w2 ⟨rfl, hb⟩
    have Hb2 := Lib.hid (up Hb1.out hb)
    clear hb h2
    go_wp2_with fail
    go_ret
    exact ⟨by rw [HZ.out]; simp, Hb2.out⟩
set_option maxRecDepth 100000 in
set_option maxHeartbeats 1000000 in
theorem half_any {n : Nd} {K V D : Value} {w : World} {B : Nat} (hr : NdIs w B K V D n) (hB : B ≤ w.heap.size) (hs : n.Snd) (hn : n.keys.length ≤ 1000000) (most : Nat) (hm1 : 1 ≤ most) (hm2 : most < n.keys.length) :
    Calls Tryz.prog 161 #[ndVal n.leaf K V D, .int .i64 (most : Int)] w fun e w' => ∃ h : Nat, e = .returned (.int .i64 (h : Int)) ∧ n.Half most h ∧ Below w.heap.size w w' := by
  have hcall := fun (W : World) (hb : Below w.heap.size w W) (i : Nat) (hi : i < n.keys.length) => cellsize_any (hr.below (hb.mono hB)) hs i hi hn
  have hall := fun (W : World) (hb : Below w.heap.size w W) => cells_any (hr.below (hb.mono hB)) (Nat.le_trans hB hb.size) hs hn
  have hle := fun k (hk : k ≤ n.keys.length) => n.cells_le hs k hk
  obtain ⟨A1, c1, A2, c2, A3, c3, rfl, rfl, rfl⟩ := hr.form
  obtain ⟨lf, hlf⟩ : ∃ lf, lf = n.leaf := ⟨_, rfl⟩
  obtain ⟨a, ha⟩ : ∃ a, a = n.keys.length := ⟨_, rfl⟩
  obtain ⟨q, hq⟩ : ∃ q, q = n.cells a := ⟨_, rfl⟩
  have hq1 := hle a (by omega)
  rw [← ha] at hn hm2 hcall hle hall ⊢
  rw [← hq] at hq1 hall
  rw [← hlf] at hcall hall ⊢
  have hc0 := hcall
  have HC := Lib.hid hcall
  have HA := Lib.hid hall
  have HL := Lib.hid hle
  have Hq := Lib.hid hq
  have Ha := Lib.hid ha
  have hq2 : q ≤ 50000000 := by omega
  clear hcall hle hs hr hB hlf ha hall hq hq1 hc0
  have hb0 : Below w.heap.size w (w.alloc (.cells #[.bool lf, .slice A1 a c1, .slice A2 n.vals.length c2, .slice A3 n.kids.length c3] 126)) := (Below.refl _ _).alloc (Nat.le_refl _) _
  have hbox := NdBox.made w lf (.slice A1 a c1) (.slice A2 n.vals.length c2) (.slice A3 n.kids.length c3)
  have h1 := HA.out _ hb0
  have HB := Lib.hid hb0
  have HX := Lib.hid hbox
  clear hb0 hbox
  go_enter Tryz.func161, Tryz.ntmps161
  go_wp2_with (go_at_call 126; refine h1.mono ?_; rintro e w1 ⟨rfl, hb⟩; obtain ⟨x0, x1, x2, x3⟩ := HX.out.later HX.out.lt hb; have Hb1 := Lib.hid (up HB.out hb); have h2 := HC.out _ Hb1.out 0 (by omega); have HX1 := Lib.hid (NdBox.mk x0 x1 x2 x3); clear hb h1)
  refine h2.mono ?_
  rintro e w2 ⟨rfl, hb⟩
  have Hb2 := Lib.hid (up Hb1.out hb)
  have HX2 := Lib.hid (HX1.out.later HX1.out.lt hb)
  clear hb h2 x0 x1 x2 x3
  have hc1 : n.cell 0 = n.cells 1 := by simp [Nd.cells]
  rw [hc1]
  clear hc1
  go_wp2_with fail
  go_loopw [6, 7] (fun iv sv wr => ∃ k : Nat, 1 ≤ k ∧ k ≤ most ∧ iv = .int .i64 (k : Int) ∧ sv = .int .i64 (n.cells k : Nat) ∧ Hid (NdBox wr w.heap.size lf (.slice A1 a c1) (.slice A2 n.vals.length c2) (.slice A3 n.kids.length c3) ∧ Below w.heap.size w wr ∧ ∀ j, 1 ≤ j → j < k → 2 * n.cells j < n.cells a)) (fun iv _ _ => a - (intOf iv).toNat)
  case atStart => exact ⟨1, Nat.le_refl _, hm1, rfl, rfl, Lib.hid ⟨HX2.out, Hb2.out, fun j h g => by omega⟩⟩
  case round =>
    obtain ⟨k, hk1, hk, rfl, rfl, HI⟩ := hrel
    obtain ⟨p, hp⟩ : ∃ p, p = n.cells k := ⟨_, rfl⟩
    have hp1 := HL.out k (by omega)
    rw [← hp] at hp1 ⊢
    have Hp := Lib.hid hp
    have hp2 : p ≤ 50000000 := by omega
    clear hp hp1
    by_cases hlt : k < most
    · by_cases h2 : 2 * p < q
      · obtain ⟨⟨x0, x1, x2, x3⟩, hbel, hj⟩ := HI.out
        have hcc := HC.out wr hbel k (by omega)
        have hl1 := HL.out (k + 1) (by omega)
        have e1 : n.cells (k + 1) = n.cells k + n.cell k := rfl
        rw [e1] at hl1
        obtain ⟨x, hx⟩ : ∃ x, x = n.cell k := ⟨_, rfl⟩
        rw [← hx] at hl1 hcc
        have hx2 : x ≤ 50000000 := by omega
        have Hx := Lib.hid hx
        have Hbel := Lib.hid hbel
        clear hx e1 hbel hj hl1
        go_wp2_with (go_at_call 160; refine hcc.mono ?_; rintro e w' ⟨rfl, hb⟩)
        go_roundw
        case rel => exact ⟨k + 1, by omega, by omega, by go_num, by show _ = Value.int .i64 ((n.cells k + n.cell k : Nat) : Int); rw [← Hp.out, ← Hx.out]; go_num, Lib.hid ⟨(HI.out.1).later HI.out.1.lt hb, up Hbel.out hb, fun j g1 g2 => by
          by_cases e : j = k
          · subst e; rw [← Hp.out, ← Hq.out]; exact h2
          · exact HI.out.2.2 j g1 (by omega)⟩⟩
        case measure => simp [intOf]; omega
      · have h2i : decide ((2 : Int) * (p : Int) < (q : Int)) = false := by simp; omega
        have H2 := Lib.hid h2
        clear h2
        go_wp2_with fail
        go_ret
        refine ⟨k, rfl, ⟨hk1, hk, fun _ => ?_, fun j g1 g2 => ?_⟩, HI.out.2.1⟩
        · rw [← Ha.out, ← Hq.out, ← Hp.out]; have := H2.out; omega
        · rw [← Ha.out]; exact HI.out.2.2 j g1 g2
    · have hkm : decide ((k : Int) < (most : Int)) = false := by simp; omega
      have Hlt := Lib.hid hlt
      clear hlt
      go_wp2_with fail
      go_ret
      refine ⟨k, rfl, ⟨hk1, hk, fun g => absurd g Hlt.out, fun j g1 g2 => ?_⟩, HI.out.2.1⟩
      rw [← Ha.out]; exact HI.out.2.2 j g1 g2
end Go.Proofs.YtnmokkkbghlpbaaGreat
/-
  Rows of texts that a call makes for itself: 'OwnAll' (a slice of slices of bytes, the row the call's own, the texts elsewhere), and append onto it.
-/
namespace Go.Proofs.YtnmokkkbghlpbaaGreat
open Go.RowKit
theorem info_row : (Tryz.prog.info? 31).map (fun i => (i.zero, i.size, i.bytes)) = some (some (.slice none 0 0), 1, 24) := by kernel_rfl
/-- The call owns the row v; its elements are the texts ls, none of them in the row's own block. -/
def OwnAll (w : World) (base : Nat) (v : Value) (ls : List (List UInt8)) : Prop :=
  ∃ vs, Mine w base 31 v vs ∧ vs.length = ls.length ∧ ∀ (k : Nat) (u : Value) (l : List UInt8), vs[k]? = some u → ls[k]? = some l → Far w w.heap.size [v.ownBlock] u (cellsB l)
/-- The slice x has the texts ms, none of them in the blocks gs. -/
def FarAll (w : World) (B : Nat) (gs : List (Option Nat)) (x : Value) (ms : List (List UInt8)) : Prop :=
  ∃ vs, Rd w B x vs ∧ vs.length = ms.length ∧ ∀ (k : Nat) (u : Value) (l : List UInt8), vs[k]? = some u → ms[k]? = some l → Far w B gs u (cellsB l)
section
variable {w w' : World} {B B' base : Nat} {v x : Value} {ls ms : List (List UInt8)} {gs : List (Option Nat)}
theorem Rd.far {xs : List Value} (h : Rd w B v xs) (hg : ∀ g ∈ gs, ∀ k, g = some k → B ≤ k) : Far w B gs v xs := by
  obtain ⟨A, c, rfl, h1, h2, h3, h4⟩ := h
  refine ⟨A, c, rfl, h1, h2, h3, fun hp => ?_⟩
  obtain ⟨b, o, rfl, hb, hc⟩ := h4 hp
  exact ⟨b, o, rfl, hb, fun g hg' e => by have := hg g hg' b e; omega, hc⟩
theorem Far.alloc {xs : List Value} (h : Far w B gs v xs) (hB : B ≤ w.heap.size) (o : Obj) : Far (w.alloc o) B gs v xs := h.keep fun b _ hb _ => World.cell?_alloc_lt w o _ (by show b < _; omega)
theorem Far.one {xs : List Value} (h : Far w B gs v xs) : v.oneCell' = true := by obtain ⟨A, c, rfl, _⟩ := h; rfl
theorem RdAll.far (h : RdAll w B x ms) (hg : ∀ g ∈ gs, ∀ k, g = some k → B ≤ k) : FarAll w B gs x ms := by
  obtain ⟨vs, h1, h2, h3⟩ := h
  exact ⟨vs, h1, h2, fun k u l a b => (h3 k u l a b).far hg⟩
theorem FarAll.rd (h : FarAll w B gs x ms) : RdAll w B x ms := by
  obtain ⟨vs, h1, h2, h3⟩ := h
  exact ⟨vs, h1, h2, fun k u l a b => (h3 k u l a b).rd⟩
theorem FarAll.nil (w : World) (B : Nat) (gs : List (Option Nat)) : FarAll w B gs (.slice none 0 0) [] := ⟨[], Rd.nil w B, rfl, fun k u l h => by simp at h⟩
theorem OwnAll.rd (h : OwnAll w base v ls) : RdAll w w.heap.size v ls := by
  obtain ⟨vs, h1, h2, h3⟩ := h
  exact ⟨vs, h1.rd, h2, fun k u l a b => (h3 k u l a b).rd⟩
theorem OwnAll.nil (w : World) (base : Nat) : OwnAll w base (.slice none 0 0) [] := ⟨[], Mine.nil w base _, rfl, fun k u l h => by simp at h⟩
theorem OwnAll.kept (h : OwnAll w base v ls) (hb : Below w.heap.size w w') : OwnAll w' base v ls := by
  obtain ⟨vs, h1, h2, h3⟩ := h
  exact ⟨vs, h1.kept hb, h2, fun k u l a b => ((h3 k u l a b).below hb).more hb.size⟩
theorem OwnAll.alloc (h : OwnAll w base v ls) (o : Obj) : OwnAll (w.alloc o) base v ls := h.kept ((Below.refl _ _).alloc (Nat.le_refl _) o)
theorem OwnAll.drew (h : OwnAll w base v ls) : OwnAll w.drew base v ls := h
theorem OwnAll.block (h : OwnAll w base v ls) : ∀ k, v.ownBlock = some k → base ≤ k ∧ k < w.heap.size := by
  obtain ⟨vs, h1, _⟩ := h
  exact h1.block
theorem OwnAll.form (h : OwnAll w base v ls) : ∃ A c, v = .slice A ls.length c := by
  obtain ⟨vs, h1, h2, _⟩ := h
  rw [← h2]; exact h1.form
theorem OwnAll.weaken (h : OwnAll w base v ls) (hb : B ≤ base) : OwnAll w B v ls := by
  obtain ⟨vs, h1, h2⟩ := h
  exact ⟨vs, h1.weaken hb, h2⟩
/-- An empty row of the call's own. -/
theorem OwnAll.empty (w : World) (base : Nat) (hb : base ≤ w.heap.size) : OwnAll (w.alloc (.cells #[] 31)) base (.slice (some ⟨w.heap.size, 0, none⟩) 0 0) [] :=
  ⟨[], Mine.empty w base _ hb, rfl, fun k u l h => by simp at h⟩
/-- '[][]byte{a}', '[][]byte{a, b}'. -/
theorem FarAll.lit (us : List Value) (ms : List (List UInt8)) (hl : us.length = ms.length) (hm : us.length ≤ maxLen) (h : ∀ (k : Nat) (u : Value) (l : List UInt8), us[k]? = some u → ms[k]? = some l → Far w w.heap.size gs u (cellsB l)) (e : TypeId) :
    FarAll (w.alloc (.cells us.toArray e)) (w.heap.size + 1) gs (.slice (some ⟨w.heap.size, 0, none⟩) us.length us.length) ms := by
  refine ⟨us, ⟨_, _, rfl, Nat.le_refl _, hm, (fun h => by cases h), fun _ => ⟨w.heap.size, 0, rfl, Nat.lt_succ_self _, fun j u hu => ?_⟩⟩, hl, fun k u l a b => ((h k u l a b).alloc (Nat.le_refl _) _).more (Nat.le_succ _)⟩
  rw [Nat.zero_add, World.cell?_alloc_mark]
  simpa using hu
theorem FarAll.lit1 {a : Value} {l : List UInt8} (h : Far w w.heap.size gs a (cellsB l)) (e : TypeId) : FarAll (w.alloc (.cells #[a] e)) (w.heap.size + 1) gs (.slice (some ⟨w.heap.size, 0, none⟩) 1 1) [l] := by
  refine FarAll.lit [a] [l] rfl (by unfold maxLen; simp) (fun k u m hu hm => ?_) e
  match k, hu, hm with
  | 0, hu, hm => simp at hu hm; subst hu hm; exact h
theorem FarAll.lit2 {a b : Value} {l m : List UInt8} (h : Far w w.heap.size gs a (cellsB l)) (h2 : Far w w.heap.size gs b (cellsB m)) (e : TypeId) : FarAll (w.alloc (.cells #[a, b] e)) (w.heap.size + 1) gs (.slice (some ⟨w.heap.size, 0, none⟩) 2 2) [l, m] := by
  refine FarAll.lit [a, b] [l, m] rfl (by unfold maxLen; simp) (fun k u x hu hm => ?_) e
  match k, hu, hm with
  | 0, hu, hm => simp at hu hm; subst hu hm; exact h
  | 1, hu, hm => simp at hu hm; subst hu hm; exact h2
theorem OwnAll.lit1 {a : Value} {l : List UInt8} (hb : base ≤ w.heap.size) (h : Far w w.heap.size [] a (cellsB l)) : OwnAll (w.alloc (.cells #[a] 31)) base (.slice (some ⟨w.heap.size, 0, none⟩) 1 1) [l] := by
  refine ⟨[a], Mine.lit w base 31 #[a] 1 hb rfl (by unfold maxLen; simp), rfl, fun k u m hu hm => ?_⟩
  match k, hu, hm with
  | 0, hu, hm =>
    simp at hu hm; subst hu hm
    have h1 := ((h.alloc (Nat.le_refl _) (.cells #[a] 31)).other (gs' := [some w.heap.size]) (fun g hg => .inr fun k e => by simp at hg; subst hg; injection e with e; omega)).more (Nat.le_succ _)
    simpa [Value.ownBlock] using h1
/-- What is appended: both rows' texts, in the row. -/
theorem OwnAll.grew {v' : Value} {vs news : List Value} (h2 : vs.length = ls.length) (h3 : ∀ (k : Nat) (u : Value) (l : List UInt8), vs[k]? = some u → ls[k]? = some l → Far w w.heap.size [v.ownBlock] u (cellsB l))
    (g2 : news.length = ms.length) (g3 : ∀ (k : Nat) (u : Value) (l : List UInt8), news[k]? = some u → ms[k]? = some l → Far w B [v.ownBlock] u (cellsB l)) (hB : B ≤ w.heap.size)
    (h : Mine w' base 31 v' (vs ++ news)) (hg : w.grownBy w' v.ownBlock) (hv : v'.ownBlock = v.ownBlock ∨ v'.ownBlock = some w.heap.size) (hsz : w.heap.size ≤ w'.heap.size) : OwnAll w' base v' (ls ++ ms) := by
  have key : ∀ (u : Value) (l : List UInt8), Far w w.heap.size [v.ownBlock] u (cellsB l) → Far w' w'.heap.size [v'.ownBlock] u (cellsB l) := fun u l hf => by
    have q := (hf.grown hg (Nat.le_refl _) (List.mem_singleton.2 rfl)).other (gs' := [v'.ownBlock]) (fun g hg => ?_)
    · exact q.more hsz
    · rw [List.mem_singleton] at hg
      subst hg
      rcases hv with e | e
      · rw [e]; exact .inl (List.mem_singleton.2 rfl)
      · exact .inr fun k h => by rw [e] at h; injection h with h; omega
  refine ⟨vs ++ news, h, by rw [List.length_append, List.length_append, h2, g2], fun k u l a b => ?_⟩
  by_cases hk : k < vs.length
  · rw [List.getElem?_append_left hk] at a
    rw [List.getElem?_append_left (by omega)] at b
    exact key u l (h3 k u l a b)
  · rw [List.getElem?_append_right (by omega)] at a
    rw [List.getElem?_append_right (by omega), ← h2] at b
    exact key u l ((g3 _ u l a b).more hB)
end
section
variable {P : Program}
theorem wpList_append_all {w : World} {ops : Array Oper} {rest : List Oper} {o : Oper} {a : Act} {Q : Exit → Act → World → Prop} (hgd : o.guard = none) (s x : Operand) (t : TypeId)
    (ho : o.op = .call { callee := .builtin .append, args := #[s, x], argTypes := #[t, t] })
    (base : Nat) (i : TypeInfo) (z : Value) (ht : P.underlying t = some (.slice 31)) (hi : P.info? 31 = some i) (hz : i.zero = some z)
    (hsize : i.size = 1) (hby : i.bytes = 24) (hzs : z.cells.size = 1)
    (v : Value) (ls : List (List UInt8)) (hs : a.eval s = v) (hown : OwnAll w base v ls)
    (B : Nat) (y : Value) (ms : List (List UInt8)) (hx : a.eval x = y) (hr : FarAll w B [v.ownBlock] y ms) (hB : B ≤ w.heap.size)
    (hbound : ls.length + ms.length ≤ 1000000000) (hbase : base ≤ w.heap.size)
    (h : ∀ v' w', OwnAll w' base v' (ls ++ ms) → Below base w w' → wpList P ops Q rest (a.put o.dst v') w') : wpList P ops Q (o :: rest) a w := by
  obtain ⟨vs, h1, h2, h3⟩ := hown
  obtain ⟨news, g1, g2, g3⟩ := hr
  refine wpList_append_rd hgd s x t ho base 31 i z 24 ht hi hz hsize hby hzs v vs hs h1 B y news hx g1 (fun u hu => ?_) (by omega) (by unfold maxLen; omega) hbase (fun v' w' q1 q2 q3 q4 => ?_)
  · obtain ⟨k, hk, rfl⟩ := List.getElem_of_mem hu
    exact (g3 k _ (ms[k]'(by omega)) (List.getElem?_eq_getElem hk) (List.getElem?_eq_getElem (by omega))).one
  · exact h v' w' (OwnAll.grew h2 h3 g2 g3 hB q1 q3 q4 q2.size) q2
theorem step_append_all {w : World} {ops : Array Oper} {o : Oper} {a : Act} {K : Act → World → Prop} {Q : Exit → Act → World → Prop} {E : Prop} (hgd : o.guard = none) (s x : Operand) (t : TypeId)
    (ho : o.op = .call { callee := .builtin .append, args := #[s, x], argTypes := #[t, t] })
    (base : Nat) (i : TypeInfo) (z : Value) (ht : P.underlying t = some (.slice 31)) (hi : P.info? 31 = some i) (hz : i.zero = some z)
    (hsize : i.size = 1) (hby : i.bytes = 24) (hzs : z.cells.size = 1)
    (v : Value) (ls : List (List UInt8)) (hs : a.eval s = v) (hown : OwnAll w base v ls)
    (B : Nat) (y : Value) (ms : List (List UInt8)) (hx : a.eval x = y) (hr : FarAll w B [v.ownBlock] y ms) (hB : B ≤ w.heap.size)
    (hbound : ls.length + ms.length ≤ 1000000000) (hbase : base ≤ w.heap.size)
    (h : ∀ v' w', OwnAll w' base v' (ls ++ ms) → Below base w w' → K (a.put o.dst v') w') :
    if Region.wanted o (yielded ops a.tmps) = true then Oper.wp P o a w K Q else E := by
  obtain ⟨vs, h1, h2, h3⟩ := hown
  obtain ⟨news, g1, g2, g3⟩ := hr
  refine step_append_rd hgd s x t ho base 31 i z 24 ht hi hz hsize hby hzs v vs hs h1 B y news hx g1 (fun u hu => ?_) (by omega) (by unfold maxLen; omega) hbase (fun v' w' q1 q2 q3 q4 => ?_)
  · obtain ⟨k, hk, rfl⟩ := List.getElem_of_mem hu
    exact (g3 k _ (ms[k]'(by omega)) (List.getElem?_eq_getElem hk) (List.getElem?_eq_getElem (by omega))).one
  · exact h v' w' (OwnAll.grew h2 h3 g2 g3 hB q1 q3 q4 q2.size) q2
end
end Go.Proofs.YtnmokkkbghlpbaaGreat
