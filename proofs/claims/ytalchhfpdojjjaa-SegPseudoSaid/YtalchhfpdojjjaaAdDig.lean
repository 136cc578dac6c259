/-
  Numbers as digits, and texts that are joined and split: plain mathematics.
-/
import Derived.Test.YtalchhfpdojjjaaNumB
import Derived.Lib.SplitLaws
import Derived.Lib.ItoaNum
import Derived.Lib.Join
import Derived.Lib.ParseIntB
import Derived.Lib.IndexLaws
namespace Go.Proofs.Ytalchhfpdojjjaa
/-- A digit. -/
def hexc (d : Nat) : UInt8 := if d < 10 then UInt8.ofNat (48 + d) else UInt8.ofNat (87 + d)
/-- A number's digits to a base. -/
def digs (base n : Nat) : List UInt8 := if _h : n < base ∨ base < 2 then [hexc n] else digs base (n / base) ++ [hexc (n % base)]
termination_by n
decreasing_by exact Nat.div_lt_self (by omega) (by omega)
theorem digs_small {base n : Nat} (h : n < base) : digs base n = [hexc n] := by rw [digs, dif_pos (Or.inl h)]
theorem digs_big {base n : Nat} (h : base ≤ n) (h2 : 2 ≤ base) : digs base n = digs base (n / base) ++ [hexc (n % base)] := by rw [digs, dif_neg (by omega)]
/-- Digits, by a rule for the last one. -/
theorem digs_ind {base : Nat} (h2 : 2 ≤ base) {p : Nat → List UInt8 → Prop} (h0 : ∀ n, n < base → p n [hexc n]) (hs : ∀ n, base ≤ n → p (n / base) (digs base (n / base)) → p n (digs base (n / base) ++ [hexc (n % base)])) (n : Nat) : p n (digs base n) := by
  induction n using Nat.strongRecOn with
  | ind n ih =>
    rcases Nat.lt_or_ge n base with h | h
    · rw [digs_small h]; exact h0 n h
    · rw [digs_big h h2]; exact hs n h (ih _ (Nat.div_lt_self (by omega) (by omega)))
theorem digs_ne {base : Nat} (h2 : 2 ≤ base) (n : Nat) : digs base n ≠ [] := digs_ind h2 (p := fun _ l => l ≠ []) (fun _ _ => by simp) (fun _ _ _ => by simp) n
theorem digs_ten (n : Nat) : digs 10 n = Lib.decDigits n := by
  refine digs_ind (base := 10) (by omega) (p := fun n l => l = Lib.decDigits n) (fun n h => ?_) (fun n h ih => ?_) n
  · rw [Lib.decDigits, dif_pos h, hexc, if_pos h]
  · rw [Lib.decDigits, dif_neg (by omega), ih, hexc, if_pos (by omega)]
/-- What a byte is as a digit. -/
def digit (c : UInt8) : Option Nat := if 48 ≤ c.toNat ∧ c.toNat ≤ 57 then some (c.toNat - 48) else if 97 ≤ c.toNat ∧ c.toNat ≤ 102 then some (c.toNat - 87) else none
theorem hexc_all : ∀ d : Fin 16, digit (hexc d.val) = some d.val ∧ hexc d.val ≠ 58 ∧ hexc d.val ≠ 46 ∧ hexc d.val ≠ 47 ∧ (hexc d.val).toNat = (if d.val < 10 then 48 + d.val else 87 + d.val) := by decide +kernel
theorem digit_hexc {d : Nat} (h : d < 16) : digit (hexc d) = some d := (hexc_all ⟨d, h⟩).1
theorem hexc_nat {d : Nat} (h : d < 16) : (hexc d).toNat = if d < 10 then 48 + d else 87 + d := (hexc_all ⟨d, h⟩).2.2.2.2
/-- No digit is a mark. -/
def Plain (l : List UInt8) : Prop := ∀ c ∈ l, c ≠ 58 ∧ c ≠ 46 ∧ c ≠ 47
theorem digs_plain {base : Nat} (h2 : 2 ≤ base) (h16 : base ≤ 16) (n : Nat) : Plain (digs base n) := by
  refine digs_ind h2 (p := fun _ l => Plain l) (fun n h => ?_) (fun n h ih => ?_) n
  · intro c hc
    simp at hc
    subst hc
    exact ⟨(hexc_all ⟨n, by omega⟩).2.1, (hexc_all ⟨n, by omega⟩).2.2.1, (hexc_all ⟨n, by omega⟩).2.2.2.1⟩
  · intro c hc
    rcases List.mem_append.1 hc with hc | hc
    · exact ih c hc
    · have : n % base < 16 := Nat.lt_of_lt_of_le (Nat.mod_lt _ (by omega)) h16
      simp at hc
      subst hc
      exact ⟨(hexc_all ⟨n % base, this⟩).2.1, (hexc_all ⟨n % base, this⟩).2.2.1, (hexc_all ⟨n % base, this⟩).2.2.2.1⟩
/-- How long digits are. -/
theorem digs_short {base : Nat} (h2 : 2 ≤ base) : ∀ (k n : Nat), 1 ≤ k → n < base ^ k → (digs base n).length ≤ k
  | 0, _, h, _ => by omega
  | k + 1, n, _, h => by
    rcases Nat.lt_or_ge n base with hn | hn
    · rw [digs_small hn]; simp
    · rw [digs_big hn h2, List.length_append, List.length_singleton]
      have hk : 1 ≤ k := by
        rcases Nat.eq_zero_or_pos k with h0 | h0
        · subst h0; simp at h; omega
        · exact h0
      have := digs_short h2 k (n / base) hk (Nat.div_lt_of_lt_mul (by rw [Nat.mul_comm, ← Nat.pow_succ]; exact h))
      omega
/-- One more digit, kept below M; what is none changes nothing. -/
def addDig (base M n : Nat) (c : UInt8) : Nat := match digit c with
  | some d => if d < base then (n * base + d) % M else n
  | none => n
theorem addDig_digs {base M : Nat} (h2 : 2 ≤ base) (h16 : base ≤ 16) (n : Nat) : (digs base n).foldl (addDig base M) 0 = n % M := by
  refine digs_ind h2 (p := fun n l => l.foldl (addDig base M) 0 = n % M) (fun n h => ?_) (fun n h ih => ?_) n
  · simp only [List.foldl_cons, List.foldl_nil, addDig, digit_hexc (show n < 16 by omega), if_pos h, Nat.zero_mul, Nat.zero_add]
  · have hm : n % base < base := Nat.mod_lt _ (by omega)
    rw [List.foldl_append, ih]
    simp only [List.foldl_cons, List.foldl_nil, addDig, digit_hexc (show n % base < 16 by omega), if_pos hm]
    rw [Nat.add_mod, Nat.mod_mul_mod, ← Nat.add_mod]
    congr 1
    rw [Nat.mul_comm]
    exact Nat.div_add_mod n base
/-- What a byte is as a digit to base 16; 99: none. -/
def hexD (c : UInt8) : Nat := if 48 ≤ c.toNat ∧ c.toNat ≤ 57 then c.toNat - 48 else if 97 ≤ (c ||| 32).toNat ∧ (c ||| 32).toNat ≤ 122 then (c ||| 32).toNat - 87 else 99
/-- How digits to base 16 end: a number, no digits, or one that is too large. -/
inductive HexEnd where
  | ok (n : Nat)
  | bad
  | far
/-- The number that digits to base 16 say, of at most 65535. -/
def hexAt (acc : Nat) : List UInt8 → HexEnd
  | [] => .ok acc
  | c :: r =>
    if 16 ≤ hexD c then .bad
    else if 65535 < acc * 16 + hexD c then .far
    else hexAt (acc * 16 + hexD c) r
def hex16 (l : List UInt8) : HexEnd := if l = [] then .bad else hexAt 0 l
theorem hexAt_lt : ∀ (l : List UInt8) (acc n : Nat), acc ≤ 65535 → hexAt acc l = .ok n → n ≤ 65535
  | [], acc, n, ha, h => by simp only [hexAt, HexEnd.ok.injEq] at h; omega
  | c :: r, acc, n, ha, h => by
    rw [hexAt] at h
    split at h
    · cases h
    · split at h
      · cases h
      · exact hexAt_lt r _ n (by omega) h
theorem hexc_hex : ∀ d : Fin 16, hexD (hexc d.val) = d.val := by decide +kernel
theorem hexAt_app : ∀ (l r : List UInt8) (acc n : Nat), hexAt acc l = .ok n → hexAt acc (l ++ r) = hexAt n r
  | [], r, acc, n, h => by simp only [hexAt, HexEnd.ok.injEq] at h; subst h; rfl
  | c :: l, r, acc, n, h => by
    rw [hexAt] at h
    rw [List.cons_append, hexAt]
    split at h
    · cases h
    · rename_i hd
      rw [if_neg hd]
      split at h
      · cases h
      · rename_i hd2
        rw [if_neg hd2]
        exact hexAt_app l r _ n h
theorem hexAt_one {acc d : Nat} (h : d < 16) (h2 : acc * 16 + d ≤ 65535) : hexAt acc [hexc d] = .ok (acc * 16 + d) := by
  rw [hexAt]
  rw [hexc_hex ⟨d, h⟩]
  rw [if_neg (by omega), if_neg (by omega)]
  rfl
theorem hexAt_digs (n : Nat) : n ≤ 65535 → hexAt 0 (digs 16 n) = .ok n := by
  refine digs_ind (base := 16) (by omega) (p := fun n l => n ≤ 65535 → hexAt 0 l = .ok n) (fun n h hn => ?_) (fun n h ih hn => ?_) n
  · rw [hexAt_one h (by omega)]; simp
  · rw [hexAt_app _ _ _ _ (ih (by omega)), hexAt_one (Nat.mod_lt _ (by omega)) (by omega)]
    congr 1
    omega
theorem hex16_digs {n : Nat} (h : n ≤ 65535) : hex16 (digs 16 n) = .ok n := by rw [hex16, if_neg (digs_ne (by omega) n), hexAt_digs n h]
theorem dec_app : ∀ (M : Nat) (l r : List UInt8) (acc n : Nat), Lib.parseUintM M acc l = .ok n → Lib.parseUintM M acc (l ++ r) = Lib.parseUintM M n r
  | M, [], r, acc, n, h => by simp only [Lib.parseUintM, Lib.NumEnd.ok.injEq] at h; subst h; rfl
  | M, c :: l, r, acc, n, h => by
    rw [Lib.parseUintM] at h
    rw [List.cons_append, Lib.parseUintM]
    split at h
    · rename_i hd
      rw [if_pos hd]
      split at h
      · cases h
      · rename_i hd2
        rw [if_neg hd2]
        split at h
        · cases h
        · rename_i hd3
          rw [if_neg hd3]
          exact dec_app M l r _ n h
    · cases h
theorem dec_one {M acc d : Nat} (h : d < 10) (h2 : acc * 10 + d ≤ M) (h3 : M < 1844674407370955162) : Lib.parseUintM M acc [hexc d] = .ok (acc * 10 + d) := by
  have hn := hexc_nat (d := d) (by omega)
  rw [if_pos h] at hn
  rw [Lib.parseUintM, hn, if_pos (by omega), if_neg (by omega), if_neg (by omega), Lib.parseUintM]
  congr 1
  omega
theorem dec_digs {M : Nat} (h3 : M < 1844674407370955162) (n : Nat) : n ≤ M → Lib.parseUintM M 0 (digs 10 n) = .ok n := by
  refine digs_ind (base := 10) (by omega) (p := fun n l => n ≤ M → Lib.parseUintM M 0 l = .ok n) (fun n h hn => ?_) (fun n h ih hn => ?_) n
  · rw [dec_one h (by omega) h3]; simp
  · rw [dec_app _ _ _ _ _ (ih (by omega)), dec_one (Nat.mod_lt _ (by omega)) (by omega) h3]
    congr 1
    omega
theorem dec8_digs {n : Nat} (h : n ≤ 255) : Lib.parseUintB 8 (digs 10 n) = .ok n := by
  rw [Lib.parseUintB, if_neg (digs_ne (by omega) n)]
  exact dec_digs (by omega) n h
/-! ### What is split comes of what was joined -/
theorem index_one_of {c : UInt8} {l r : List UInt8} (h : ∀ x ∈ l, x ≠ c) : Lib.index (l ++ c :: r) [c] = (l.length : Int) := by
  refine Lib.index_first (by simp) ?_ (fun j hj => ?_)
  · simp [Lib.occAt, List.isPrefixOf]
  · simp only [Lib.occAt]
    rw [List.drop_append_of_le_length (by omega), List.drop_eq_getElem_cons hj]
    simp only [List.cons_append, List.isPrefixOf, Bool.and_true]
    exact beq_eq_false_iff_ne.2 fun e => h _ (List.getElem_mem hj) e.symm
theorem index_none_of {c : UInt8} {l : List UInt8} (h : ∀ x ∈ l, x ≠ c) : Lib.index l [c] = -1 := by
  refine Lib.index_none (fun j hj => ?_)
  simp only [Lib.occAt]
  rcases Nat.lt_or_ge j l.length with hj2 | hj2
  · rw [List.drop_eq_getElem_cons hj2]
    simp only [List.isPrefixOf, Bool.and_true]
    exact beq_eq_false_iff_ne.2 fun e => h _ (List.getElem_mem hj2) e.symm
  · rw [List.drop_eq_nil_of_le hj2]; rfl
theorem split_hit {c : UInt8} {l r : List UInt8} (h : ∀ x ∈ l, x ≠ c) : Lib.split (l ++ c :: r) [c] = l :: Lib.split r [c] := by
  have hi := index_one_of (r := r) h
  have hc := Lib.count_hit (s := l ++ c :: r) (sub := [c]) (by simp) hi
  have hd : (l ++ c :: r).drop (l.length + [c].length) = r := by
    rw [List.length_singleton, List.drop_append, List.drop_eq_nil_of_le (by omega)]
    simp
  rw [hd] at hc
  rw [Lib.split, hc, Nat.add_comm, Lib.splitK, hi, if_neg (by simp)]
  simp only [Int.toNat_natCast, Nat.add_zero]
  rw [hd, List.take_left' rfl]
  rfl
theorem split_miss {c : UInt8} {l : List UInt8} (h : ∀ x ∈ l, x ≠ c) : Lib.split l [c] = [l] := by
  have hi := index_none_of h
  rw [Lib.split, Lib.count_miss hi]
  rfl
theorem join_more {sep : List UInt8} (x y : List UInt8) (r : List (List UInt8)) : Lib.join (x :: y :: r) sep = x ++ (sep ++ Lib.join (y :: r) sep) := by
  rw [Lib.join_cons, Lib.join_cons, Lib.joinTail, Lib.joinTail, List.map_cons, List.flatten_cons, List.append_assoc]
theorem split_join {c : UInt8} : ∀ {ls : List (List UInt8)}, ls ≠ [] → (∀ l ∈ ls, ∀ x ∈ l, x ≠ c) → Lib.split (Lib.join ls [c]) [c] = ls
  | [], h, _ => absurd rfl h
  | [l], _, h => by rw [Lib.join_one]; exact split_miss (h l (by simp))
  | x :: y :: r, _, h => by
    rw [join_more, List.singleton_append, split_hit (h x (by simp)), split_join (by simp) fun l hl => h l (List.mem_cons_of_mem _ hl)]
theorem join_length_le {c : UInt8} {m : Nat} : ∀ {ls : List (List UInt8)}, (∀ l ∈ ls, l.length ≤ m) → (Lib.join ls [c]).length ≤ ls.length * (m + 1)
  | [], _ => by simp [Lib.join_nil]
  | [l], h => by rw [Lib.join_one]; have := h l (by simp); simp; omega
  | x :: y :: r, h => by
    have h1 := h x (by simp)
    have h2 := join_length_le (c := c) (ls := y :: r) fun l hl => h l (List.mem_cons_of_mem _ hl)
    rw [join_more, List.length_append, List.length_append, List.length_singleton]
    simp only [List.length_cons, Nat.add_mul] at h2 ⊢
    omega
theorem join_mem {c : UInt8} : ∀ {ls : List (List UInt8)} {x : UInt8}, x ∈ Lib.join ls [c] → x = c ∨ ∃ l ∈ ls, x ∈ l
  | [], x, h => by simp [Lib.join_nil] at h
  | [l], x, h => by rw [Lib.join_one] at h; exact Or.inr ⟨l, by simp, h⟩
  | a :: b :: r, x, h => by
    rw [join_more, List.mem_append, List.mem_append] at h
    rcases h with h | h | h
    · exact Or.inr ⟨a, by simp, h⟩
    · simp at h; exact Or.inl h
    · rcases join_mem h with h | ⟨l, hl, hx⟩
      · exact Or.inl h
      · exact Or.inr ⟨l, List.mem_cons_of_mem _ hl, hx⟩
theorem join_has {c : UInt8} {a b : List UInt8} {r : List (List UInt8)} : c ∈ Lib.join (a :: b :: r) [c] := by
  rw [join_more]; simp
end Go.Proofs.Ytalchhfpdojjjaa
