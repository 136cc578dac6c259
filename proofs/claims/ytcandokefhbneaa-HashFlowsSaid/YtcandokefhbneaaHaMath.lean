/-
  The number of a seed and bytes, in plain words; and that bytes that differ in one place have unlike numbers.
-/
import Derived.Lib.Hide
namespace Go.Proofs.Ytcandokefhbneaa
open Go.RowKit
def haStep (n : Nat) (b : UInt8) : Nat := ((n ^^^ b.toNat) * 1099511628211) % 18446744073709551616
def haFold (n : Nat) (l : List UInt8) : Nat := l.foldl haStep n
def haMix (n : Nat) : Nat := n ^^^ (n / 8589934592)
def haEnd (n : Nat) : Nat := haMix ((haMix n * 18397679294719823053) % 18446744073709551616)
def haSum (seed : Nat) (l : List UInt8) : Nat := haEnd (haFold (14695981039346656037 ^^^ seed) l)
theorem haFold_append (n : Nat) (l m : List UInt8) : haFold n (l ++ m) = haFold (haFold n l) m := by unfold haFold; rw [List.foldl_append]
theorem haFold_snoc (n : Nat) (l : List UInt8) (b : UInt8) : haFold n (l ++ [b]) = haStep (haFold n l) b := by
  unfold haFold
  rw [List.foldl_append, List.foldl_cons, List.foldl_nil]
theorem xor_lt {a b : Nat} (ha : a < 18446744073709551616) (hb : b < 18446744073709551616) : a ^^^ b < 18446744073709551616 := by
  exact Nat.xor_lt_two_pow (n := 64) ha hb
theorem mod_lt64 (x : Nat) : x % 18446744073709551616 < 18446744073709551616 := Nat.mod_lt x (by decide)
theorem haStep_lt (n : Nat) (b : UInt8) : haStep n b < 18446744073709551616 := by
  unfold haStep
  exact mod_lt64 _
theorem haFold_lt {n : Nat} (hn : n < 18446744073709551616) : ∀ l : List UInt8, haFold n l < 18446744073709551616 := fun l => by
  induction l generalizing n with
  | nil => exact hn
  | cons b l ih => exact ih (haStep_lt n b)
theorem haMix_lt {n : Nat} (hn : n < 18446744073709551616) : haMix n < 18446744073709551616 := xor_lt hn (by omega)
theorem haSum_lt (seed : Nat) (l : List UInt8) : haSum seed l < 18446744073709551616 := by
  unfold haSum haEnd
  exact haMix_lt (mod_lt64 _)
theorem mul_inj {M p q a b : Nat} (h : p * q % M = 1) (ha : a < M) (hb : b < M) (e : a * p % M = b * p % M) : a = b := by
  have key : ∀ x, x < M → (x * p % M) * q % M = x := fun x hx => by
    rw [Nat.mod_mul_mod, Nat.mul_assoc, Nat.mul_mod, h, Nat.mul_one, Nat.mod_mod, Nat.mod_eq_of_lt hx]
  rw [← key a ha, ← key b hb, e]
theorem xor_cancel {a b c : Nat} (h : a ^^^ c = b ^^^ c) : a = b := by
  have : (a ^^^ c) ^^^ c = (b ^^^ c) ^^^ c := by rw [h]
  rwa [Nat.xor_assoc, Nat.xor_assoc, Nat.xor_self, Nat.xor_zero, Nat.xor_zero] at this
theorem xor_cancel_left {a b c : Nat} (h : c ^^^ a = c ^^^ b) : a = b := by
  rw [Nat.xor_comm c a, Nat.xor_comm c b] at h
  exact xor_cancel h
theorem byte_lt (b : UInt8) : b.toNat < 18446744073709551616 := by have := b.toNat_lt; omega
theorem haStep_inj {n m : Nat} {x y : UInt8} (hn : n < 18446744073709551616) (hm : m < 18446744073709551616) (h : haStep n x = haStep m y) : n ^^^ x.toNat = m ^^^ y.toNat := by
  unfold haStep at h
  exact mul_inj (p := 1099511628211) (q := 14886173955864302971) (by decide) (xor_lt hn (byte_lt x)) (xor_lt hm (byte_lt y)) h
theorem haFold_inj {n m : Nat} (hn : n < 18446744073709551616) (hm : m < 18446744073709551616) (l : List UInt8) (h : haFold n l = haFold m l) : n = m := by
  induction l generalizing n m with
  | nil => exact h
  | cons b l ih => exact xor_cancel (haStep_inj hn hm (ih (haStep_lt n b) (haStep_lt m b) h))
theorem haMix_twice {n : Nat} (hn : n < 18446744073709551616) : haMix (haMix n) = n := by
  have e : ∀ x : Nat, x / 8589934592 = x >>> 33 := fun x => by rw [Nat.shiftRight_eq_div_pow]
  unfold haMix
  rw [e, e, Nat.shiftRight_xor_distrib, ← Nat.shiftRight_add]
  have z : n >>> (33 + 33) = 0 := by rw [Nat.shiftRight_eq_div_pow]; exact Nat.div_eq_of_lt (by omega)
  rw [z, Nat.xor_zero, Nat.xor_assoc, Nat.xor_self, Nat.xor_zero]
theorem haMix_inj {n m : Nat} (hn : n < 18446744073709551616) (hm : m < 18446744073709551616) (h : haMix n = haMix m) : n = m := by
  rw [← haMix_twice hn, h, haMix_twice hm]
theorem haEnd_inj {n m : Nat} (hn : n < 18446744073709551616) (hm : m < 18446744073709551616) (h : haEnd n = haEnd m) : n = m := by
  unfold haEnd at h
  have h1 := haMix_inj (mod_lt64 _) (mod_lt64 _) h
  exact haMix_inj hn hm (mul_inj (p := 18397679294719823053) (q := 5725274745694666757) (by decide) (haMix_lt hn) (haMix_lt hm) h1)
/-- Bytes that differ in one place alone. -/
theorem haSum_byte {seed : Nat} (hs : seed < 18446744073709551616) (a c : List UInt8) (x y : UInt8) : haSum seed (a ++ x :: c) = haSum seed (a ++ y :: c) ↔ x = y := by
  constructor
  · intro h
    have hb : 14695981039346656037 ^^^ seed < 18446744073709551616 := xor_lt (by omega) hs
    have h1 := haEnd_inj (haFold_lt hb _) (haFold_lt hb _) h
    rw [haFold_append, haFold_append] at h1
    have hf := haFold_lt hb a
    have h2 : haStep (haFold (14695981039346656037 ^^^ seed) a) x = haStep (haFold (14695981039346656037 ^^^ seed) a) y := haFold_inj (haStep_lt _ _) (haStep_lt _ _) c h1
    exact UInt8.toNat_inj.1 (xor_cancel_left (haStep_inj hf hf h2))
  · intro h
    rw [h]
theorem set_parts (l : List UInt8) (k : Nat) (y : UInt8) (h : k < l.length) : ∃ a c, l = a ++ l.getD k 0 :: c ∧ l.set k y = a ++ y :: c := by
  refine ⟨l.take k, l.drop (k + 1), ?_, ?_⟩
  · have e := List.take_append_drop k l
    rw [List.drop_eq_getElem_cons h] at e
    rw [List.getD_eq_getElem?_getD, List.getElem?_eq_getElem h]
    exact e.symm
  · rw [List.set_eq_take_append_cons_drop, if_pos h]
/-- One byte told anew. -/
theorem haSum_set {seed : Nat} (hs : seed < 18446744073709551616) (l : List UInt8) (k : Nat) (y : UInt8) (h : k < l.length) : haSum seed l = haSum seed (l.set k y) ↔ l.getD k 0 = y := by
  obtain ⟨a, c, e1, e2⟩ := set_parts l k y h
  rw [e2]
  conv => lhs; lhs; rw [e1]
  exact haSum_byte hs a c _ y
end Go.Proofs.Ytcandokefhbneaa
