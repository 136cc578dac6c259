/-
  Numbers as digits, and texts that are joined and split: plain mathematics.
  Addresses as plain mathematics: their texts, and what texts say.
  Prefixes as plain mathematics: masks, their texts, and what texts say.
  What the document's own readers of addresses and prefixes make of a text: plain mathematics.
-/
import Derived.Test.YtcandokefhbneaaNumB
import Derived.Lib.SplitLaws
import Derived.Lib.ItoaNum
import Derived.Lib.Join
import Derived.Lib.ParseIntB
import Derived.Lib.IndexLaws
namespace Go.Proofs.Ytcandokefhbneaa
/-- A digit. -/
def hexc (d : Nat) : UInt8 := if d < 10 then UInt8.ofNat (48 + d) else UInt8.ofNat (87 + d)
/-- A number's digits to a base. -/
def digs (base n : Nat) : List UInt8 := if _h : n < base ∨ base < 2 then [hexc n] else digs base (n / base) ++ [hexc (n % base)]
termination_by n
decreasing_by exact Nat.div_lt_self (by omega) (by omega)
theorem digs_small {base n : Nat} (h : n < base) : digs base n = [hexc n] := by rw [digs, dif_pos (Or.inl h)]
theorem digs_big {base n : Nat} (h : base ≤ n) (h2 : 2 ≤ base) : digs base n = digs base (n / base) ++ [hexc (n % base)] := by rw [digs, dif_neg (by omega)]
/-- Digits, by a rule for the last one. -/
theorem digs_ind {base : Nat} (h2 : 2 ≤ base) {p : Nat → List UInt8 → Prop} (h0 : ∀ n, n < base → p n [hexc n]) (hs : ∀ n, base ≤ n → p (n / base) (digs base (n / base)) → p n (digs base (n / base) ++ [hexc (n % base)])) (n : Nat) : p n (digs base n) := by
  induction n using Nat.strongRecOn with
  | ind n ih =>
    rcases Nat.lt_or_ge n base with h | h
    · rw [digs_small h]; exact h0 n h
    · rw [digs_big h h2]; exact hs n h (ih _ (Nat.div_lt_self (by omega) (by omega)))
theorem digs_ne {base : Nat} (h2 : 2 ≤ base) (n : Nat) : digs base n ≠ [] := digs_ind h2 (p := fun _ l => l ≠ []) (fun _ _ => by simp) (fun _ _ _ => by simp) n
theorem digs_ten (n : Nat) : digs 10 n = Lib.decDigits n := by
  refine digs_ind (base := 10) (by omega) (p := fun n l => l = Lib.decDigits n) (fun n h => ?_) (fun n h ih => ?_) n
  · rw [Lib.decDigits, dif_pos h, hexc, if_pos h]
  · rw [Lib.decDigits, dif_neg (by omega), ih, hexc, if_pos (by omega)]
/-- What a byte is as a digit. -/
def digit (c : UInt8) : Option Nat := if 48 ≤ c.toNat ∧ c.toNat ≤ 57 then some (c.toNat - 48) else if 97 ≤ c.toNat ∧ c.toNat ≤ 102 then some (c.toNat - 87) else none
theorem hexc_all : ∀ d : Fin 16, digit (hexc d.val) = some d.val ∧ hexc d.val ≠ 58 ∧ hexc d.val ≠ 46 ∧ hexc d.val ≠ 47 ∧ (hexc d.val).toNat = (if d.val < 10 then 48 + d.val else 87 + d.val) := by decide +kernel
theorem digit_hexc {d : Nat} (h : d < 16) : digit (hexc d) = some d := (hexc_all ⟨d, h⟩).1
theorem hexc_nat {d : Nat} (h : d < 16) : (hexc d).toNat = if d < 10 then 48 + d else 87 + d := (hexc_all ⟨d, h⟩).2.2.2.2
/-- No digit is a mark. -/
def Plain (l : List UInt8) : Prop := ∀ c ∈ l, c ≠ 58 ∧ c ≠ 46 ∧ c ≠ 47
theorem digs_plain {base : Nat} (h2 : 2 ≤ base) (h16 : base ≤ 16) (n : Nat) : Plain (digs base n) := by
  refine digs_ind h2 (p := fun _ l => Plain l) (fun n h => ?_) (fun n h ih => ?_) n
  · intro c hc
    simp at hc
    subst hc
    exact ⟨(hexc_all ⟨n, by omega⟩).2.1, (hexc_all ⟨n, by omega⟩).2.2.1, (hexc_all ⟨n, by omega⟩).2.2.2.1⟩
  · intro c hc
    rcases List.mem_append.1 hc with hc | hc
    · exact ih c hc
    · have : n % base < 16 := Nat.lt_of_lt_of_le (Nat.mod_lt _ (by omega)) h16
      simp at hc
      subst hc
      exact ⟨(hexc_all ⟨n % base, this⟩).2.1, (hexc_all ⟨n % base, this⟩).2.2.1, (hexc_all ⟨n % base, this⟩).2.2.2.1⟩
/-- How long digits are. -/
theorem digs_short {base : Nat} (h2 : 2 ≤ base) : ∀ (k n : Nat), 1 ≤ k → n < base ^ k → (digs base n).length ≤ k
  | 0, _, h, _ => by omega
  | k + 1, n, _, h => by
    rcases Nat.lt_or_ge n base with hn | hn
    · rw [digs_small hn]; simp
    · rw [digs_big hn h2, List.length_append, List.length_singleton]
      have hk : 1 ≤ k := by
        rcases Nat.eq_zero_or_pos k with h0 | h0
        · subst h0; simp at h; omega
        · exact h0
      have := digs_short h2 k (n / base) hk (Nat.div_lt_of_lt_mul (by rw [Nat.mul_comm, ← Nat.pow_succ]; exact h))
      omega
/-- One more digit, kept below M; what is none changes nothing. -/
def addDig (base M n : Nat) (c : UInt8) : Nat := match digit c with
  | some d => if d < base then (n * base + d) % M else n
  | none => n
theorem addDig_digs {base M : Nat} (h2 : 2 ≤ base) (h16 : base ≤ 16) (n : Nat) : (digs base n).foldl (addDig base M) 0 = n % M := by
  refine digs_ind h2 (p := fun n l => l.foldl (addDig base M) 0 = n % M) (fun n h => ?_) (fun n h ih => ?_) n
  · simp only [List.foldl_cons, List.foldl_nil, addDig, digit_hexc (show n < 16 by omega), if_pos h, Nat.zero_mul, Nat.zero_add]
  · have hm : n % base < base := Nat.mod_lt _ (by omega)
    rw [List.foldl_append, ih]
    simp only [List.foldl_cons, List.foldl_nil, addDig, digit_hexc (show n % base < 16 by omega), if_pos hm]
    rw [Nat.add_mod, Nat.mod_mul_mod, ← Nat.add_mod]
    congr 1
    rw [Nat.mul_comm]
    exact Nat.div_add_mod n base
/-- What a byte is as a digit to base 16; 99: none. -/
def hexD (c : UInt8) : Nat := if 48 ≤ c.toNat ∧ c.toNat ≤ 57 then c.toNat - 48 else if 97 ≤ (c ||| 32).toNat ∧ (c ||| 32).toNat ≤ 122 then (c ||| 32).toNat - 87 else 99
/-- How digits to base 16 end: a number, no digits, or one that is too large. -/
inductive HexEnd where
  | ok (n : Nat)
  | bad
  | far
/-- The number that digits to base 16 say, of at most 65535. -/
def hexAt (acc : Nat) : List UInt8 → HexEnd
  | [] => .ok acc
  | c :: r =>
    if 16 ≤ hexD c then .bad
    else if 65535 < acc * 16 + hexD c then .far
    else hexAt (acc * 16 + hexD c) r
def hex16 (l : List UInt8) : HexEnd := if l = [] then .bad else hexAt 0 l
theorem hexAt_lt : ∀ (l : List UInt8) (acc n : Nat), acc ≤ 65535 → hexAt acc l = .ok n → n ≤ 65535
  | [], acc, n, ha, h => by simp only [hexAt, HexEnd.ok.injEq] at h; omega
  | c :: r, acc, n, ha, h => by
    rw [hexAt] at h
    split at h
    · cases h
    · split at h
      · cases h
      · exact hexAt_lt r _ n (by omega) h
theorem hexc_hex : ∀ d : Fin 16, hexD (hexc d.val) = d.val := by decide +kernel
theorem hexAt_app : ∀ (l r : List UInt8) (acc n : Nat), hexAt acc l = .ok n → hexAt acc (l ++ r) = hexAt n r
  | [], r, acc, n, h => by simp only [hexAt, HexEnd.ok.injEq] at h; subst h; rfl
  | c :: l, r, acc, n, h => by
    rw [hexAt] at h
    rw [List.cons_append, hexAt]
    split at h
    · cases h
    · rename_i hd
      rw [if_neg hd]
      split at h
      · cases h
      · rename_i hd2
        rw [if_neg hd2]
        exact hexAt_app l r _ n h
theorem hexAt_one {acc d : Nat} (h : d < 16) (h2 : acc * 16 + d ≤ 65535) : hexAt acc [hexc d] = .ok (acc * 16 + d) := by
  rw [hexAt]
  rw [hexc_hex ⟨d, h⟩]
  rw [if_neg (by omega), if_neg (by omega)]
  rfl
theorem hexAt_digs (n : Nat) : n ≤ 65535 → hexAt 0 (digs 16 n) = .ok n := by
  refine digs_ind (base := 16) (by omega) (p := fun n l => n ≤ 65535 → hexAt 0 l = .ok n) (fun n h hn => ?_) (fun n h ih hn => ?_) n
  · rw [hexAt_one h (by omega)]; simp
  · rw [hexAt_app _ _ _ _ (ih (by omega)), hexAt_one (Nat.mod_lt _ (by omega)) (by omega)]
    congr 1
    omega
theorem hex16_digs {n : Nat} (h : n ≤ 65535) : hex16 (digs 16 n) = .ok n := by rw [hex16, if_neg (digs_ne (by omega) n), hexAt_digs n h]
theorem dec_app : ∀ (M : Nat) (l r : List UInt8) (acc n : Nat), Lib.parseUintM M acc l = .ok n → Lib.parseUintM M acc (l ++ r) = Lib.parseUintM M n r
  | M, [], r, acc, n, h => by simp only [Lib.parseUintM, Lib.NumEnd.ok.injEq] at h; subst h; rfl
  | M, c :: l, r, acc, n, h => by
    rw [Lib.parseUintM] at h
    rw [List.cons_append, Lib.parseUintM]
    split at h
    · rename_i hd
      rw [if_pos hd]
      split at h
      · cases h
      · rename_i hd2
        rw [if_neg hd2]
        split at h
        · cases h
        · rename_i hd3
          rw [if_neg hd3]
          exact dec_app M l r _ n h
    · cases h
theorem dec_one {M acc d : Nat} (h : d < 10) (h2 : acc * 10 + d ≤ M) (h3 : M < 1844674407370955162) : Lib.parseUintM M acc [hexc d] = .ok (acc * 10 + d) := by
  have hn := hexc_nat (d := d) (by omega)
  rw [if_pos h] at hn
  rw [Lib.parseUintM, hn, if_pos (by omega), if_neg (by omega), if_neg (by omega), Lib.parseUintM]
  congr 1
  omega
theorem dec_digs {M : Nat} (h3 : M < 1844674407370955162) (n : Nat) : n ≤ M → Lib.parseUintM M 0 (digs 10 n) = .ok n := by
  refine digs_ind (base := 10) (by omega) (p := fun n l => n ≤ M → Lib.parseUintM M 0 l = .ok n) (fun n h hn => ?_) (fun n h ih hn => ?_) n
  · rw [dec_one h (by omega) h3]; simp
  · rw [dec_app _ _ _ _ _ (ih (by omega)), dec_one (Nat.mod_lt _ (by omega)) (by omega) h3]
    congr 1
    omega
theorem dec8_digs {n : Nat} (h : n ≤ 255) : Lib.parseUintB 8 (digs 10 n) = .ok n := by
  rw [Lib.parseUintB, if_neg (digs_ne (by omega) n)]
  exact dec_digs (by omega) n h
/-! ### What is split comes of what was joined -/
theorem index_one_of {c : UInt8} {l r : List UInt8} (h : ∀ x ∈ l, x ≠ c) : Lib.index (l ++ c :: r) [c] = (l.length : Int) := by
  refine Lib.index_first (by simp) ?_ (fun j hj => ?_)
  · simp [Lib.occAt, List.isPrefixOf]
  · simp only [Lib.occAt]
    rw [List.drop_append_of_le_length (by omega), List.drop_eq_getElem_cons hj]
    simp only [List.cons_append, List.isPrefixOf, Bool.and_true]
    exact beq_eq_false_iff_ne.2 fun e => h _ (List.getElem_mem hj) e.symm
theorem index_none_of {c : UInt8} {l : List UInt8} (h : ∀ x ∈ l, x ≠ c) : Lib.index l [c] = -1 := by
  refine Lib.index_none (fun j hj => ?_)
  simp only [Lib.occAt]
  rcases Nat.lt_or_ge j l.length with hj2 | hj2
  · rw [List.drop_eq_getElem_cons hj2]
    simp only [List.isPrefixOf, Bool.and_true]
    exact beq_eq_false_iff_ne.2 fun e => h _ (List.getElem_mem hj2) e.symm
  · rw [List.drop_eq_nil_of_le hj2]; rfl
theorem split_hit {c : UInt8} {l r : List UInt8} (h : ∀ x ∈ l, x ≠ c) : Lib.split (l ++ c :: r) [c] = l :: Lib.split r [c] := by
  have hi := index_one_of (r := r) h
  have hc := Lib.count_hit (s := l ++ c :: r) (sub := [c]) (by simp) hi
  have hd : (l ++ c :: r).drop (l.length + [c].length) = r := by
    rw [List.length_singleton, List.drop_append, List.drop_eq_nil_of_le (by omega)]
    simp
  rw [hd] at hc
  rw [Lib.split, hc, Nat.add_comm, Lib.splitK, hi, if_neg (by simp)]
  simp only [Int.toNat_natCast, Nat.add_zero]
  rw [hd, List.take_left' rfl]
  rfl
theorem split_miss {c : UInt8} {l : List UInt8} (h : ∀ x ∈ l, x ≠ c) : Lib.split l [c] = [l] := by
  have hi := index_none_of h
  rw [Lib.split, Lib.count_miss hi]
  rfl
theorem join_more {sep : List UInt8} (x y : List UInt8) (r : List (List UInt8)) : Lib.join (x :: y :: r) sep = x ++ (sep ++ Lib.join (y :: r) sep) := by
  rw [Lib.join_cons, Lib.join_cons, Lib.joinTail, Lib.joinTail, List.map_cons, List.flatten_cons, List.append_assoc]
theorem split_join {c : UInt8} : ∀ {ls : List (List UInt8)}, ls ≠ [] → (∀ l ∈ ls, ∀ x ∈ l, x ≠ c) → Lib.split (Lib.join ls [c]) [c] = ls
  | [], h, _ => absurd rfl h
  | [l], _, h => by rw [Lib.join_one]; exact split_miss (h l (by simp))
  | x :: y :: r, _, h => by
    rw [join_more, List.singleton_append, split_hit (h x (by simp)), split_join (by simp) fun l hl => h l (List.mem_cons_of_mem _ hl)]
theorem join_length_le {c : UInt8} {m : Nat} : ∀ {ls : List (List UInt8)}, (∀ l ∈ ls, l.length ≤ m) → (Lib.join ls [c]).length ≤ ls.length * (m + 1)
  | [], _ => by simp [Lib.join_nil]
  | [l], h => by rw [Lib.join_one]; have := h l (by simp); simp; omega
  | x :: y :: r, h => by
    have h1 := h x (by simp)
    have h2 := join_length_le (c := c) (ls := y :: r) fun l hl => h l (List.mem_cons_of_mem _ hl)
    rw [join_more, List.length_append, List.length_append, List.length_singleton]
    simp only [List.length_cons, Nat.add_mul] at h2 ⊢
    omega
theorem join_mem {c : UInt8} : ∀ {ls : List (List UInt8)} {x : UInt8}, x ∈ Lib.join ls [c] → x = c ∨ ∃ l ∈ ls, x ∈ l
  | [], x, h => by simp [Lib.join_nil] at h
  | [l], x, h => by rw [Lib.join_one] at h; exact Or.inr ⟨l, by simp, h⟩
  | a :: b :: r, x, h => by
    rw [join_more, List.mem_append, List.mem_append] at h
    rcases h with h | h | h
    · exact Or.inr ⟨a, by simp, h⟩
    · simp at h; exact Or.inl h
    · rcases join_mem h with h | ⟨l, hl, hx⟩
      · exact Or.inl h
      · exact Or.inr ⟨l, List.mem_cons_of_mem _ hl, hx⟩
theorem join_has {c : UInt8} {a b : List UInt8} {r : List (List UInt8)} : c ∈ Lib.join (a :: b :: r) [c] := by
  rw [join_more]; simp
/-- An address: of IPv6 or not, its sixteen bytes. -/
structure Ad where
  six : Bool
  b : List UInt8
def Ad.zero : Ad := ⟨false, List.replicate 16 0⟩
def Ad.Wide (a : Ad) : Prop := a.b.length = 16
def Ad.good (a : Ad) : Bool := a.six || a.b.take 12 == List.replicate 12 0
def Ad.from (a : Ad) : Nat := if a.six then 0 else 12
def Ad.own (a : Ad) : List UInt8 := a.b.drop a.from
def siz (six : Bool) : Nat := if six then 2 else 1
def bas (six : Bool) : Nat := if six then 16 else 10
def mrk (six : Bool) : UInt8 := if six then 58 else 46
/-- The numbers that an address's bytes say. -/
def nums (six : Bool) (l : List UInt8) : List Nat := (List.range (l.length / siz six)).map fun k => ofBe ((l.drop (k * siz six)).take (siz six)) 0
def shown (six : Bool) (l : List UInt8) : List UInt8 := Lib.join ((nums six l).map (digs (bas six))) [mrk six]
def Ad.show (a : Ad) : List UInt8 := if a.good then shown a.six a.own else []
def readN (six : Bool) (l : List UInt8) : Option Nat := if six then (match hex16 l with | .ok n => some n | _ => none) else (match Lib.parseUintB 8 l with | .ok n => some n | _ => none)
def readL (six : Bool) : List (List UInt8) → Option (List UInt8)
  | [] => some []
  | p :: r => match readN six p with
    | some n => (readL six r).map (be (siz six) n ++ ·)
    | none => none
def reads (six : Bool) (s : List UInt8) : List UInt8 := (readL six (Lib.split s [mrk six])).getD []
def adBytes (b : List UInt8) : Option Ad := if b.length = 4 then some ⟨false, List.replicate 12 0 ++ b⟩ else if b.length = 16 then some ⟨true, b⟩ else none
theorem be_ofBe' : ∀ (k : Nat) (l : List UInt8) (m : Nat), l.length = k → be k (ofBe l m) = l
  | 0, l, m, h => by
    have : l = [] := List.eq_nil_of_length_eq_zero h
    subst this
    rfl
  | k + 1, l, m, h => by
    have hne : l ≠ [] := by intro e; subst e; simp at h
    have hl := List.dropLast_concat_getLast hne
    have hx := (l.getLast hne).toNat_lt
    rw [← hl, ofBe_snoc, be, show (ofBe l.dropLast m * 256 + (l.getLast hne).toNat) / 256 = ofBe l.dropLast m by omega, be_ofBe' k l.dropLast m (by rw [List.length_dropLast]; omega)]
    congr 2
    apply UInt8.toNat_inj.1
    rw [UInt8.toNat_ofNat']
    omega
theorem be_ofBe (l : List UInt8) (m : Nat) : be l.length (ofBe l m) = l := be_ofBe' _ l m rfl
theorem siz_pos (six : Bool) : 1 ≤ siz six ∧ siz six ≤ 2 := by cases six <;> simp [siz]
theorem bas_ok (six : Bool) : 2 ≤ bas six ∧ bas six ≤ 16 := by cases six <;> simp [bas]
theorem nums_more {six : Bool} {c r : List UInt8} (hc : c.length = siz six) : nums six (c ++ r) = ofBe c 0 :: nums six r := by
  have hp := siz_pos six
  have hd : (c ++ r).length / siz six = r.length / siz six + 1 := by
    rw [List.length_append, hc, Nat.add_comm, Nat.add_div_right _ (by omega)]
  rw [nums, hd, List.range_succ_eq_map, List.map_cons, List.map_map, nums]
  congr 1
  · rw [Nat.zero_mul, List.drop_zero, ← hc, List.take_left' rfl]
  · refine List.map_congr_left fun k _ => ?_
    simp only [Function.comp]
    rw [show (k + 1) * siz six = c.length + k * siz six by rw [Nat.add_mul, hc]; omega, ← List.drop_drop, List.drop_left' rfl]
theorem nums_nil (six : Bool) : nums six [] = [] := by simp [nums]
theorem nums_length (six : Bool) (l : List UInt8) : (nums six l).length = l.length / siz six := by simp [nums]
theorem readN_digs {six : Bool} {n : Nat} (h : n < 256 ^ siz six) : readN six (digs (bas six) n) = some n := by
  cases six
  · have := dec8_digs (n := n) (by simp [siz] at h; omega)
    simp only [readN, Bool.false_eq_true, if_false, bas, this]
  · have := hex16_digs (n := n) (by simp [siz] at h; omega)
    simp only [readN, if_true, bas, this]
theorem readL_nums {six : Bool} : ∀ (m : Nat) (l : List UInt8), l.length = m * siz six → readL six ((nums six l).map (digs (bas six))) = some l
  | 0, l, h => by
    have : l = [] := List.eq_nil_of_length_eq_zero (by omega)
    subst this
    rw [nums_nil]; rfl
  | m + 1, l, h => by
    have hp := siz_pos six
    have hs : siz six ≤ l.length := by rw [h, Nat.add_mul]; omega
    have hc : (l.take (siz six)).length = siz six := by rw [List.length_take]; omega
    have hlt : ofBe (l.take (siz six)) 0 < 256 ^ siz six := by
      have := ofBe_lt (l.take (siz six)) 0 0 (by simp)
      rw [hc, Nat.zero_add] at this
      exact this
    have ih := readL_nums m (l.drop (siz six)) (by rw [List.length_drop, h, Nat.add_mul, Nat.one_mul, Nat.add_sub_cancel])
    have hn := nums_more (six := six) (c := l.take (siz six)) (r := l.drop (siz six)) hc
    rw [List.take_append_drop] at hn
    rw [hn, List.map_cons, readL, readN_digs hlt]
    dsimp only
    rw [ih]
    have hb := be_ofBe (l.take (siz six)) 0
    rw [hc] at hb
    rw [hb, Option.map_some, List.take_append_drop]
theorem Ad.own_length {a : Ad} (h : a.Wide) : a.own.length = if a.six then 16 else 4 := by
  rw [Ad.own, List.length_drop, h, Ad.from]
  cases a.six <;> rfl
theorem Ad.own_many {a : Ad} (h : a.Wide) : a.own.length = (if a.six then 8 else 4) * siz a.six := by
  rw [a.own_length h]
  cases a.six <;> rfl
theorem Ad.own_nums {a : Ad} (h : a.Wide) : (nums a.six a.own).length = if a.six then 8 else 4 := by
  rw [nums_length, a.own_length h]
  cases a.six <;> rfl
theorem mrk_plain {six : Bool} {l : List UInt8} (h : Plain l) : ∀ x ∈ l, x ≠ mrk six := by
  intro x hx
  cases six
  · exact (h x hx).2.1
  · exact (h x hx).1
theorem reads_shown {six : Bool} {l : List UInt8} {m : Nat} (h : l.length = m * siz six) (hm : 1 ≤ m) : reads six (shown six l) = l := by
  have hp := siz_pos six
  have hne : (nums six l).map (digs (bas six)) ≠ [] := by
    intro e
    have := congrArg List.length e
    rw [List.length_map, nums_length, h, Nat.mul_div_cancel _ (by omega)] at this
    simp at this
    omega
  rw [reads, shown, split_join hne fun x hx => ?_, readL_nums m l h]
  · rfl
  · obtain ⟨n, _, rfl⟩ := List.mem_map.1 hx
    exact mrk_plain (digs_plain (bas_ok six).1 (bas_ok six).2 n)
theorem nums_lt {six : Bool} {l : List UInt8} {n : Nat} (h : n ∈ nums six l) : n < 256 ^ siz six := by
  obtain ⟨k, _, rfl⟩ := List.mem_map.1 h
  have := ofBe_lt ((l.drop (k * siz six)).take (siz six)) 0 0 (by simp)
  exact Nat.lt_of_lt_of_le this (Nat.pow_le_pow_right (by omega) (by rw [Nat.zero_add, List.length_take]; omega))
theorem shown_mem {six : Bool} {l : List UInt8} {x : UInt8} (h : x ∈ shown six l) : x = mrk six ∨ (x ≠ 58 ∧ x ≠ 46 ∧ x ≠ 47) := by
  rcases join_mem h with h | ⟨p, hp, hx⟩
  · exact Or.inl h
  · obtain ⟨n, _, rfl⟩ := List.mem_map.1 hp
    exact Or.inr (digs_plain (bas_ok six).1 (bas_ok six).2 n x hx)
theorem shown_slash {six : Bool} {l : List UInt8} : ∀ x ∈ shown six l, x ≠ 47 := by
  intro x hx
  rcases shown_mem hx with h | h
  · rw [h]; cases six <;> decide
  · exact h.2.2
theorem digs_short6 {six : Bool} {n : Nat} (h : n < 256 ^ siz six) : (digs (bas six) n).length ≤ if six then 4 else 3 := by
  cases six
  · exact digs_short (by decide) 3 n (by omega) (by simp [siz] at h; simp [bas]; omega)
  · exact digs_short (by decide) 4 n (by omega) (by simp [siz] at h; simp [bas]; omega)
/-- The text of a good address. -/
theorem Ad.show_good {a : Ad} (h : a.good = true) : a.show = shown a.six a.own := by rw [Ad.show, if_pos h]
theorem Ad.show_long {a : Ad} (hw : a.Wide) : a.show.length ≤ 39 := by
  rw [Ad.show]
  split
  · have hl := Ad.own_nums hw
    -- eight numbers of four digits, or four of three, and the marks between
    have key : ∀ (c : UInt8) (m : Nat) (ls : List (List UInt8)), ls ≠ [] → (∀ l ∈ ls, l.length ≤ m) → (Lib.join ls [c]).length + 1 ≤ ls.length * (m + 1) := by
      intro c m ls
      induction ls with
      | nil => intro h; exact absurd rfl h
      | cons x r ih =>
        intro _ h
        cases r with
        | nil => rw [Lib.join_one]; have := h x (by simp); simp; omega
        | cons y r =>
          have h1 := h x (by simp)
          have h2 := ih (by simp) fun l hl => h l (List.mem_cons_of_mem _ hl)
          rw [join_more, List.length_append, List.length_append, List.length_singleton]
          simp only [List.length_cons, Nat.add_mul] at h2 ⊢
          omega
    have k2 := key (mrk a.six) (if a.six then 4 else 3) ((nums a.six a.own).map (digs (bas a.six))) (by
      intro e
      have := congrArg List.length e
      rw [List.length_map, hl] at this
      revert this
      cases a.six <;> simp) (fun l hm => by
      obtain ⟨n, hn, rfl⟩ := List.mem_map.1 hm
      exact digs_short6 (nums_lt hn))
    rw [List.length_map, hl] at k2
    rw [shown]
    cases hs : a.six <;> rw [hs] at k2 <;> simp at k2 ⊢ <;> omega
  · simp
theorem Ad.show_colon {a : Ad} (hw : a.Wide) (hg : a.good = true) : (58 ∈ a.show) ↔ a.six = true := by
  rw [Ad.show_good hg]
  constructor
  · intro h
    rcases shown_mem h with h | h
    · cases hs : a.six
      · rw [hs] at h; exact absurd h (by decide)
      · rfl
    · exact absurd rfl h.1
  · intro h
    have hl := Ad.own_nums hw
    rw [h] at hl ⊢
    obtain ⟨x, y, r, e⟩ : ∃ x y r, nums true a.own = x :: y :: r := by
      match nums true a.own, hl with
      | x :: y :: r, _ => exact ⟨x, y, r, rfl⟩
      | [], h => simp at h
      | [x], h => simp at h
    rw [shown, e, List.map_cons, List.map_cons]
    exact join_has
theorem Ad.reads_show {a : Ad} (hw : a.Wide) (hg : a.good = true) : reads a.six a.show = a.own := by
  rw [Ad.show_good hg]
  exact reads_shown (Ad.own_many hw) (by cases a.six <;> decide)
theorem Ad.bytes_own {a : Ad} (hw : a.Wide) (hg : a.good = true) : adBytes a.own = some a := by
  have hl := a.own_length hw
  obtain ⟨six, b⟩ := a
  cases six
  · simp only [Bool.false_eq_true, if_false] at hl
    rw [adBytes, if_pos hl]
    simp only [Ad.good, Bool.false_or, beq_iff_eq] at hg
    simp only [Ad.own, Ad.from, Bool.false_eq_true, if_false]
    rw [← hg, List.take_append_drop]
  · simp only [if_true] at hl
    rw [adBytes, if_neg (by omega), if_pos hl]
    rfl
theorem adBytes_wide {b : List UInt8} {a : Ad} (h : adBytes b = some a) : a.Wide ∧ a.good = true := by
  rw [adBytes] at h
  split at h
  · rename_i hl
    cases h
    exact ⟨by simp [Ad.Wide, hl], by simp [Ad.good]⟩
  · split at h
    · rename_i hl
      cases h
      exact ⟨hl, rfl⟩
    · cases h
/-- The address whose text this is. -/
def IsAd (s : List UInt8) (a : Ad) : Prop := a.Wide ∧ a.good = true ∧ a.show = s
theorem IsAd.only {s : List UInt8} {a a2 : Ad} (h : IsAd s a) (h2 : IsAd s a2) : a = a2 := by
  obtain ⟨w, g, e⟩ := h
  obtain ⟨w2, g2, e2⟩ := h2
  have hs : a.six = a2.six := by
    have c := Ad.show_colon w g
    have c2 := Ad.show_colon w2 g2
    rw [e] at c
    rw [e2] at c2
    have := c.symm.trans c2
    cases h1 : a.six <;> cases h3 : a2.six <;> rw [h1, h3] at this <;> simp at this <;> rfl
  have r := Ad.reads_show w g
  have r2 := Ad.reads_show w2 g2
  rw [e, hs] at r
  rw [e2] at r2
  have b := Ad.bytes_own w g
  have b2 := Ad.bytes_own w2 g2
  rw [← r, r2, b2] at b
  exact (Option.some.inj b).symm
open Classical in
noncomputable def adOf (s : List UInt8) : Option Ad := if h : ∃ a, IsAd s a then some h.choose else none
theorem adOf_some {s : List UInt8} {a : Ad} (h : IsAd s a) : adOf s = some a := by
  have h' : ∃ a, IsAd s a := ⟨a, h⟩
  rw [adOf, dif_pos h']
  exact congrArg some (h'.choose_spec.only h)
theorem adOf_none {s : List UInt8} (h : ∀ a, ¬ IsAd s a) : adOf s = none := by
  rw [adOf, dif_neg]
  rintro ⟨a, ha⟩
  exact h a ha
theorem adOf_is {s : List UInt8} {a : Ad} (h : adOf s = some a) : IsAd s a := by
  rw [adOf] at h
  split at h
  · rename_i h'
    cases h
    exact h'.choose_spec
  · cases h
/-- What the program makes of a text. -/
theorem adOf_read (s : List UInt8) : adOf s = if s.length ≤ 39 then (match adBytes (reads (decide (58 ∈ s)) s) with | some a => if a.show = s then some a else none | none => none) else none := by
  cases h : adOf s with
  | some a =>
    obtain ⟨w, g, e⟩ := adOf_is h
    have hl := Ad.show_long w
    have c := Ad.show_colon w g
    have r := Ad.reads_show w g
    have b := Ad.bytes_own w g
    rw [e] at hl c r
    have hd : decide (58 ∈ s) = a.six := by
      cases hs : a.six
      · rw [hs] at c; exact decide_eq_false fun hm => by simp at c; exact c hm
      · rw [hs] at c; exact decide_eq_true (c.2 rfl)
    rw [if_pos hl, hd, r, b]
    dsimp only
    rw [if_pos e]
  | none =>
    split
    · cases hb : adBytes (reads (decide (58 ∈ s)) s) with
      | none => rfl
      | some a =>
        dsimp only
        split
        · rename_i e
          obtain ⟨w, g⟩ := adBytes_wide hb
          rw [adOf_some ⟨w, g, e⟩] at h
          cases h
        · rfl
    · rfl
/-- The first k bits of a byte. -/
def kb (x : UInt8) (k : Nat) : UInt8 := UInt8.ofNat (x.toNat / 2 ^ (8 - k) * 2 ^ (8 - k))
/-- How many bits of byte i are among the first n. -/
def keep (n i : Nat) : Nat := min 8 (n - 8 * i)
def maskL (n : Nat) (l : List UInt8) : List UInt8 := l.mapIdx fun i x => kb x (keep n i)
structure Pf where
  a : Ad
  bits : Int
deriving instance DecidableEq for Ad
deriving instance DecidableEq for Pf
def Pf.zero : Pf := ⟨Ad.zero, 0⟩
def maskA (a : Ad) (n : Nat) : Ad := ⟨a.six, a.b.take a.from ++ maskL n a.own⟩
def maskOf (a : Ad) (bits : Int) : Option Pf := if a.good = true ∧ 0 ≤ bits ∧ bits ≤ 8 * (a.own.length : Int) then some ⟨maskA a bits.toNat, bits⟩ else none
def Pf.Good (p : Pf) : Prop := maskOf p.a p.bits = some p
instance (p : Pf) : Decidable p.Good := inferInstanceAs (Decidable (maskOf p.a p.bits = some p))
def Pf.show (p : Pf) : List UInt8 := if p.Good then p.a.show ++ 47 :: Lib.decDigits p.bits.toNat else []
theorem kb_all : ∀ x : Fin 256, kb (UInt8.ofNat x.val) 8 = UInt8.ofNat x.val ∧ kb (UInt8.ofNat x.val) 0 = 0 := by decide +kernel
theorem kb_twice : ∀ x : Fin 256, ∀ k : Fin 9, ∀ j : Fin 9, j ≤ k → kb (kb (UInt8.ofNat x.val) k.val) j.val = kb (UInt8.ofNat x.val) j.val := by decide +kernel
theorem kb_eight (x : UInt8) : kb x 8 = x := by
  have := (kb_all ⟨x.toNat, x.toNat_lt⟩).1
  simpa using this
theorem kb_zero (x : UInt8) : kb x 0 = 0 := by
  have := (kb_all ⟨x.toNat, x.toNat_lt⟩).2
  simpa using this
theorem kb_kb (x : UInt8) {k j : Nat} (hk : k ≤ 8) (hj : j ≤ k) : kb (kb x k) j = kb x j := by
  have := kb_twice ⟨x.toNat, x.toNat_lt⟩ ⟨k, by omega⟩ ⟨j, by omega⟩ hj
  simpa using this
theorem keep_le (n i : Nat) : keep n i ≤ 8 := Nat.min_le_left _ _
theorem keep_mono {m n : Nat} (h : m ≤ n) (i : Nat) : keep m i ≤ keep n i := by unfold keep; omega
theorem maskL_length (n : Nat) (l : List UInt8) : (maskL n l).length = l.length := by simp [maskL]
theorem maskL_get (n : Nat) (l : List UInt8) (i : Nat) : (maskL n l)[i]? = (l[i]?).map fun x => kb x (keep n i) := by simp [maskL]
theorem maskL_maskL {m n : Nat} (h : m ≤ n) (l : List UInt8) : maskL m (maskL n l) = maskL m l := by
  apply List.ext_getElem?
  intro i
  rw [maskL_get, maskL_get, maskL_get, Option.map_map]
  congr 1
  funext x
  exact kb_kb x (keep_le n i) (keep_mono h i)
theorem maskA_own {a : Ad} (h : a.Wide) (n : Nat) : (maskA a n).own = maskL n a.own := by
  have hf : a.from ≤ 16 := by unfold Ad.from; split <;> omega
  have : (a.b.take a.from).length = a.from := by rw [List.length_take, h]; omega
  show List.drop a.from (a.b.take a.from ++ maskL n a.own) = _
  exact List.drop_left' this
theorem maskA_wide {a : Ad} (h : a.Wide) (n : Nat) : (maskA a n).Wide := by
  have hf : a.from ≤ 16 := by unfold Ad.from; split <;> omega
  show (a.b.take a.from ++ maskL n a.own).length = 16
  rw [List.length_append, maskL_length, Ad.own, List.length_take, List.length_drop, h]
  omega
theorem maskA_good {a : Ad} (hw : a.Wide) (h : a.good = true) (n : Nat) : (maskA a n).good = true := by
  obtain ⟨six, b⟩ := a
  cases six
  · simp only [Ad.good, Bool.false_or, beq_iff_eq] at h ⊢
    simp only [maskA, Ad.from, Bool.false_eq_true, if_false]
    have hw' : b.length = 16 := hw
    rw [List.take_append_of_le_length (by rw [List.length_take]; omega), List.take_take, Nat.min_self, h]
    simp
  · rfl
theorem maskA_maskA {a : Ad} (hw : a.Wide) {m n : Nat} (h : m ≤ n) : maskA (maskA a n) m = maskA a m := by
  have ho := maskA_own hw n
  have hf : a.from ≤ 16 := by unfold Ad.from; split <;> omega
  have ht : (a.b.take a.from).length = a.from := by rw [List.length_take, hw]; omega
  rw [maskA, ho, maskL_maskL h]
  show Ad.mk a.six (List.take a.from (a.b.take a.from ++ maskL n a.own) ++ maskL m a.own) = maskA a m
  rw [List.take_left' ht]
  rfl
theorem maskOf_some {a : Ad} {bits : Int} {p : Pf} (h : maskOf a bits = some p) : a.good = true ∧ 0 ≤ bits ∧ bits ≤ 8 * (a.own.length : Int) ∧ p = ⟨maskA a bits.toNat, bits⟩ := by
  rw [maskOf] at h
  split at h
  · rename_i hc
    exact ⟨hc.1, hc.2.1, hc.2.2, (Option.some.inj h).symm⟩
  · cases h
theorem maskOf_in {a : Ad} (hw : a.Wide) {bits fewer : Int} {p : Pf} (h : maskOf a bits = some p) (h0 : 0 ≤ fewer) (h1 : fewer ≤ bits) : ∃ r, maskOf a fewer = some r ∧ maskOf p.a fewer = some r := by
  obtain ⟨hg, hb0, hb1, rfl⟩ := maskOf_some h
  refine ⟨⟨maskA a fewer.toNat, fewer⟩, ?_, ?_⟩
  · rw [maskOf, if_pos ⟨hg, h0, by omega⟩]
  · rw [maskOf, if_pos ⟨maskA_good hw hg _, h0, by dsimp only; rw [maskA_own hw, maskL_length]; omega⟩]
    dsimp only
    rw [maskA_maskA hw (by omega)]
theorem maskOf_self {a : Ad} (hw : a.Wide) {bits : Int} {p : Pf} (h : maskOf a bits = some p) : p.Good := by
  obtain ⟨hg, hb0, hb1, e⟩ := maskOf_some h
  obtain ⟨r, h1, h2⟩ := maskOf_in hw h hb0 (Int.le_refl _)
  rw [h] at h1
  cases h1
  have : p.bits = bits := by rw [e]
  show maskOf p.a p.bits = some p
  rw [this]
  exact h2
/-! ### Texts of prefixes -/
theorem Ad.show_ne {a : Ad} (hw : a.Wide) (hg : a.good = true) : a.show ≠ [] := by
  intro e
  have r := Ad.reads_show hw hg
  have hl := a.own_length hw
  rw [e] at r
  have : (reads a.six []).length = 0 := by cases a.six <;> decide
  rw [r, hl] at this
  revert this
  cases a.six <;> simp
theorem d10_app : ∀ (l r : List UInt8) (acc n : Nat), Lib.parseUint10 acc l = .ok n → Lib.parseUint10 acc (l ++ r) = Lib.parseUint10 n r
  | [], r, acc, n, h => by simp only [Lib.parseUint10, Lib.NumEnd.ok.injEq] at h; subst h; rfl
  | c :: l, r, acc, n, h => by
    rw [Lib.parseUint10] at h
    rw [List.cons_append, Lib.parseUint10]
    split at h
    · rename_i hd
      rw [if_pos hd]
      split at h
      · cases h
      · rename_i hd2
        rw [if_neg hd2]
        split at h
        · cases h
        · rename_i hd3
          rw [if_neg hd3]
          exact d10_app l r _ n h
    · cases h
theorem d10_one {acc d : Nat} (h : d < 10) (h2 : acc < 1844674407370955000) : Lib.parseUint10 acc [hexc d] = .ok (acc * 10 + d) := by
  have hn := hexc_nat (d := d) (by omega)
  rw [if_pos h] at hn
  rw [Lib.parseUint10, hn, if_pos (by omega), if_neg (by omega), if_neg (by omega), Lib.parseUint10]
  congr 1
  omega
theorem d10_digs (n : Nat) : n ≤ 1000000 → Lib.parseUint10 0 (digs 10 n) = .ok n := by
  refine digs_ind (base := 10) (by omega) (p := fun n l => n ≤ 1000000 → Lib.parseUint10 0 l = .ok n) (fun n h hn => ?_) (fun n h ih hn => ?_) n
  · rw [d10_one h (by omega)]; simp
  · rw [d10_app _ _ _ _ (ih (by omega)), d10_one (Nat.mod_lt _ (by omega)) (by omega)]
    congr 1
    omega
theorem digs_head {n : Nat} : ∃ d r, d < 10 ∧ digs 10 n = hexc d :: r := by
  refine digs_ind (base := 10) (by omega) (p := fun _ l => ∃ d r, d < 10 ∧ l = hexc d :: r) (fun n h => ⟨n, [], h, rfl⟩) (fun n h ih => ?_) n
  obtain ⟨d, r, hd, e⟩ := ih
  exact ⟨d, r ++ [hexc (n % 10)], hd, by rw [e]; rfl⟩
theorem atoi_digs {n : Nat} (h : n ≤ 1000000) : Lib.atoiAll (digs 10 n) = .ok (n : Int) := by
  have hd := d10_digs n h
  obtain ⟨d, r, hd9, e⟩ := digs_head (n := n)
  have hn := hexc_nat (d := d) (by omega)
  rw [if_pos hd9] at hn
  rw [e] at hd ⊢
  unfold Lib.atoiAll
  dsimp only
  rw [if_neg (by omega), Lib.parseMag, if_neg (by simp), hd]
  dsimp only
  rw [if_neg (by omega), if_neg (by omega), if_neg (by omega)]
def IsPf (s : List UInt8) (p : Pf) : Prop := p.a.Wide ∧ p.Good ∧ p.show = s
theorem Pf.show_good {p : Pf} (h : p.Good) : p.show = p.a.show ++ 47 :: digs 10 p.bits.toNat := by rw [Pf.show, if_pos h, digs_ten]
theorem Pf.good_ad {p : Pf} (h : p.Good) : p.a.good = true := (maskOf_some h).1
theorem Pf.good_bits {p : Pf} (h : p.Good) (hw : p.a.Wide) : 0 ≤ p.bits ∧ p.bits ≤ 128 := by
  obtain ⟨_, h0, h1, _⟩ := maskOf_some h
  have := p.a.own_length hw
  rw [this] at h1
  refine ⟨h0, ?_⟩
  revert h1
  cases p.a.six <;> simp <;> omega
theorem Ad.show_slash {a : Ad} : ∀ x ∈ a.show, x ≠ 47 := by
  intro x hx
  rw [Ad.show] at hx
  split at hx
  · exact shown_slash x hx
  · simp at hx
theorem IsPf.cut {s : List UInt8} {p : Pf} (h : IsPf s p) : Lib.cut s [47] = (p.a.show, digs 10 p.bits.toNat, true) := by
  obtain ⟨hw, hg, rfl⟩ := h
  have hi := index_one_of (r := digs 10 p.bits.toNat) (Ad.show_slash (a := p.a))
  rw [Pf.show_good hg, Lib.cut, hi, if_pos (by omega)]
  simp only [Int.toNat_natCast]
  rw [List.take_left' rfl, List.length_singleton, List.drop_append, List.drop_eq_nil_of_le (by omega)]
  simp
theorem IsPf.ad {s : List UInt8} {p : Pf} (h : IsPf s p) : adOf p.a.show = some p.a := adOf_some ⟨h.1, Pf.good_ad h.2.1, rfl⟩
theorem IsPf.only {s : List UInt8} {p p2 : Pf} (h : IsPf s p) (h2 : IsPf s p2) : p = p2 := by
  have c := h.cut.symm.trans h2.cut
  simp only [Prod.mk.injEq] at c
  have a := h.ad
  rw [c.1, h2.ad] at a
  have b := Pf.good_bits h.2.1 h.1
  have b2 := Pf.good_bits h2.2.1 h2.1
  have d := atoi_digs (n := p.bits.toNat) (by omega)
  rw [c.2.1, atoi_digs (by omega)] at d
  simp only [Lib.NumEnd.ok.injEq] at d
  obtain ⟨pa, pb⟩ := p
  obtain ⟨qa, qb⟩ := p2
  simp only at a b b2 d
  have e1 := Option.some.inj a
  have e2 : pb = qb := by omega
  rw [e1, e2]
open Classical in
noncomputable def pfOf (s : List UInt8) : Option Pf := if h : ∃ p, IsPf s p then some h.choose else none
theorem pfOf_some {s : List UInt8} {p : Pf} (h : IsPf s p) : pfOf s = some p := by
  have h' : ∃ p, IsPf s p := ⟨p, h⟩
  rw [pfOf, dif_pos h']
  exact congrArg some (h'.choose_spec.only h)
theorem pfOf_is {s : List UInt8} {p : Pf} (h : pfOf s = some p) : IsPf s p := by
  rw [pfOf] at h
  split at h
  · rename_i h'
    cases h
    exact h'.choose_spec
  · cases h
/-- What is found to show so is it. -/
theorem pfOf_back {s t : List UInt8} {a : Ad} {v : Int} (ha : adOf t = some a) (ht : s = [] → t = []) (h : (Pf.mk a v).show = s) : pfOf s = some ⟨a, v⟩ := by
  obtain ⟨hw, hg, e⟩ := adOf_is ha
  by_cases hp : (Pf.mk a v).Good
  · exact pfOf_some ⟨hw, hp, h⟩
  · rw [Pf.show, if_neg hp] at h
    have := ht h.symm
    rw [this] at e
    exact absurd e (Ad.show_ne hw hg)
/-- What the program makes of a text. -/
theorem pfOf_read (s : List UInt8) : pfOf s = (match adOf (Lib.cut s [47]).1, Lib.atoiAll (Lib.cut s [47]).2.1 with
    | some a, .ok v => if (Pf.mk a v).show = s then some ⟨a, v⟩ else none
    | _, _ => none) := by
  cases h : pfOf s with
  | some p =>
    have hp := pfOf_is h
    have b := Pf.good_bits hp.2.1 hp.1
    rw [hp.cut]
    dsimp only
    rw [hp.ad, atoi_digs (by omega)]
    dsimp only
    have e : (Pf.mk p.a ((p.bits.toNat : Nat) : Int)) = p := by rw [Int.toNat_of_nonneg b.1]
    rw [e, if_pos hp.2.2]
  | none =>
    split
    · rename_i a v ha hv
      split
      · rename_i e
        rw [pfOf_back ha (by intro e; subst e; decide) e] at h
        cases h
      · rfl
    · rfl
/-- A number is laid at its place. -/
def putN (six : Bool) (B : List UInt8) (k n : Nat) : List UInt8 :=
  if six then (if k < 8 then (B.set (2 * k) (UInt8.ofNat (n / 256))).set (2 * k + 1) (UInt8.ofNat (n % 256)) else B)
  else (if k < 4 then B.set (12 + k) (UInt8.ofNat (n % 256)) else B)
/-- The bytes, the number at hand, how many are laid. -/
structure RSt where
  B : List UInt8
  n : Nat
  k : Nat
def RSt.mark (six : Bool) (t : RSt) : RSt := ⟨putN six t.B t.k t.n, 0, t.k + 1⟩
def RSt.step (six : Bool) (t : RSt) (c : UInt8) : RSt := if c = 58 ∨ c = 46 then t.mark six else ⟨t.B, addDig (bas six) 65536 t.n c, t.k⟩
def RSt.new : RSt := ⟨List.replicate 16 0, 0, 0⟩
def rread (six : Bool) (s : List UInt8) : Ad := ⟨six, ((s.foldl (RSt.step six) RSt.new).mark six).B⟩
/-- What stays so. -/
def RSt.Ok (six : Bool) (t : RSt) : Prop := t.B.length = 16 ∧ (six = true ∨ t.B.take 12 = List.replicate 12 0) ∧ t.n < 65536
theorem putN_ok {six : Bool} {B : List UInt8} {k n : Nat} (h : B.length = 16) (h2 : six = true ∨ B.take 12 = List.replicate 12 0) : (putN six B k n).length = 16 ∧ (six = true ∨ (putN six B k n).take 12 = List.replicate 12 0) := by
  unfold putN
  cases six
  · simp only [Bool.false_eq_true, if_false, false_or] at h2 ⊢
    split
    · refine ⟨by simp [h], ?_⟩
      rw [List.take_set, List.set_eq_of_length_le (by rw [List.length_take]; omega), h2]
    · exact ⟨h, h2⟩
  · simp only [if_true, true_or, and_true]
    split
    · simp [h]
    · exact h
theorem RSt.Ok.mark {six : Bool} {t : RSt} (h : t.Ok six) : (t.mark six).Ok six := ⟨(putN_ok h.1 h.2.1).1, (putN_ok h.1 h.2.1).2, by show 0 < 65536; omega⟩
theorem addDig_lt {base M n : Nat} (h : n < M) (c : UInt8) : addDig base M n c < M := by
  unfold addDig
  split
  · split
    · exact Nat.mod_lt _ (by omega)
    · exact h
  · exact h
theorem RSt.Ok.step {six : Bool} {t : RSt} (h : t.Ok six) (c : UInt8) : (t.step six c).Ok six := by
  unfold RSt.step
  split
  · exact h.mark
  · exact ⟨h.1, h.2.1, addDig_lt h.2.2 c⟩
theorem RSt.ok_new (six : Bool) : RSt.new.Ok six := ⟨by decide, Or.inr (by decide), by decide⟩
theorem RSt.Ok.fold {six : Bool} : ∀ (s : List UInt8) {t : RSt}, t.Ok six → (s.foldl (RSt.step six) t).Ok six
  | [], _, h => h
  | c :: s, _, h => RSt.Ok.fold s (h.step c)
theorem RSt.step_k {six : Bool} : ∀ (s : List UInt8) (t : RSt), (s.foldl (RSt.step six) t).k ≤ t.k + s.length
  | [], _ => Nat.le_refl _
  | c :: s, t => by
    have ih := RSt.step_k (six := six) s (t.step six c)
    have : (t.step six c).k ≤ t.k + 1 := by
      unfold RSt.step
      split
      · exact Nat.le_refl _
      · exact Nat.le_succ _
    simp only [List.foldl_cons, List.length_cons]
    omega
theorem rread_ok (six : Bool) (s : List UInt8) : (rread six s).Wide ∧ (rread six s).good = true := by
  have h := ((RSt.ok_new six).fold s).mark
  refine ⟨h.1, ?_⟩
  rcases h.2.1 with e | e
  · show (six || _) = true
    rw [e, Bool.true_or]
  · show (six || (((s.foldl (RSt.step six) RSt.new).mark six).B.take 12 == List.replicate 12 0)) = true
    rw [e]
    simp
theorem fold_plain {six : Bool} {l : List UInt8} (h : Plain l) : ∀ (t : RSt), l.foldl (RSt.step six) t = ⟨t.B, l.foldl (addDig (bas six) 65536) t.n, t.k⟩ := by
  induction l with
  | nil => intro t; rfl
  | cons c l ih =>
    intro t
    have hc := h c (by simp)
    rw [List.foldl_cons, RSt.step, if_neg (by simp [hc.1, hc.2.1]), ih fun x hx => h x (List.mem_cons_of_mem _ hx), List.foldl_cons]
/-- The numbers of a text laid one by one. -/
theorem fold_join {six : Bool} : ∀ (ns : List Nat), ns ≠ [] → (∀ n ∈ ns, n < 65536) → ∀ (B : List UInt8) (k : Nat),
    ((Lib.join (ns.map (digs (bas six))) [mrk six]).foldl (RSt.step six) ⟨B, 0, k⟩).mark six = ⟨(ns.foldl (fun (x : List UInt8 × Nat) n => (putN six x.1 x.2 n, x.2 + 1)) (B, k)).1, 0, k + ns.length⟩
  | [], h, _, _, _ => absurd rfl h
  | [n], _, hn, B, k => by
    have hb := bas_ok six
    rw [List.map_cons, List.map_nil, Lib.join_one, fold_plain (digs_plain hb.1 hb.2 n), addDig_digs hb.1 hb.2, Nat.mod_eq_of_lt (hn n (by simp))]
    rfl
  | n :: m :: r, _, hn, B, k => by
    have hb := bas_ok six
    have hm : (mrk six = 58 ∨ mrk six = 46) := by cases six <;> decide
    rw [List.map_cons, List.map_cons, join_more, List.foldl_append, List.foldl_append, fold_plain (digs_plain hb.1 hb.2 n), addDig_digs hb.1 hb.2, Nat.mod_eq_of_lt (hn n (by simp))]
    simp only [List.foldl_cons, List.foldl_nil]
    rw [RSt.step, if_pos hm]
    have ih := fold_join (six := six) (m :: r) (by simp) (fun x hx => hn x (List.mem_cons_of_mem _ hx)) (putN six B k n) (k + 1)
    rw [List.map_cons] at ih
    have e : RSt.mark six ⟨B, n, k⟩ = ⟨putN six B k n, 0, k + 1⟩ := rfl
    rw [e, ih]
    simp only [List.foldl_cons, List.length_cons]
    congr 1
    omega
theorem ofNat_two (x y : UInt8) : UInt8.ofNat ((x.toNat * 256 + y.toNat) / 256) = x ∧ UInt8.ofNat ((x.toNat * 256 + y.toNat) % 256) = y := by
  have hx := x.toNat_lt
  have hy := y.toNat_lt
  constructor
  · rw [show (x.toNat * 256 + y.toNat) / 256 = x.toNat by omega]; exact UInt8.ofNat_toNat
  · rw [show (x.toNat * 256 + y.toNat) % 256 = y.toNat by omega]; exact UInt8.ofNat_toNat
theorem ofNat_one (x : UInt8) : UInt8.ofNat (x.toNat % 256) = x := by
  have hx := x.toNat_lt
  rw [Nat.mod_eq_of_lt hx]; exact UInt8.ofNat_toNat
theorem list16 {l : List UInt8} (h : l.length = 16) : ∃ a b c d e f g i j k m n o p q r : UInt8, l = [a, b, c, d, e, f, g, i, j, k, m, n, o, p, q, r] := by
  match l, h with
  | [a, b, c, d, e, f, g, i, j, k, m, n, o, p, q, r], _ => exact ⟨a, b, c, d, e, f, g, i, j, k, m, n, o, p, q, r, rfl⟩
theorem rread_show {a : Ad} (hw : a.Wide) (hg : a.good = true) : rread a.six a.show = a := by
  have hne : nums a.six a.own ≠ [] := by
    intro e
    have := Ad.own_nums hw
    rw [e] at this
    revert this
    cases a.six <;> simp
  have hlt : ∀ n ∈ nums a.six a.own, n < 65536 := fun n hn => by
    have := nums_lt hn
    exact Nat.lt_of_lt_of_le this (by cases a.six <;> decide)
  have hf := fold_join (six := a.six) (nums a.six a.own) hne hlt (List.replicate 16 0) 0
  rw [Ad.show_good hg, shown, rread, RSt.new, hf]
  dsimp only
  obtain ⟨six, B⟩ := a
  obtain ⟨a, b, c, d, e, f, g, i, j, k, m, n, o, p, q, r, rfl⟩ := list16 hw
  cases six
  · simp only [Ad.good, Bool.false_or, beq_iff_eq] at hg
    have e1 : nums (Ad.mk false [a, b, c, d, e, f, g, i, j, k, m, n, o, p, q, r]).six (Ad.mk false [a, b, c, d, e, f, g, i, j, k, m, n, o, p, q, r]).own = [o.toNat, p.toNat, q.toNat, r.toNat] := by
      simp [nums, Ad.own, Ad.from, siz, ofBe, List.range_succ]
    rw [e1]
    simp only [List.foldl_cons, List.foldl_nil, putN, Bool.false_eq_true, if_false, Nat.reduceLT, if_true, Nat.reduceAdd, ofNat_one]
    simp only [List.take_succ_cons, List.take_zero, List.replicate, List.cons.injEq, and_true] at hg
    obtain ⟨rfl, rfl, rfl, rfl, rfl, rfl, rfl, rfl, rfl, rfl, rfl, rfl⟩ := hg
    rfl
  · have e1 : nums (Ad.mk true [a, b, c, d, e, f, g, i, j, k, m, n, o, p, q, r]).six (Ad.mk true [a, b, c, d, e, f, g, i, j, k, m, n, o, p, q, r]).own = [a.toNat * 256 + b.toNat, c.toNat * 256 + d.toNat, e.toNat * 256 + f.toNat, g.toNat * 256 + i.toNat, j.toNat * 256 + k.toNat, m.toNat * 256 + n.toNat, o.toNat * 256 + p.toNat, q.toNat * 256 + r.toNat] := by
      simp [nums, Ad.own, Ad.from, siz, ofBe, List.range_succ]
    rw [e1]
    simp only [List.foldl_cons, List.foldl_nil, putN, if_true, Nat.reduceLT, Nat.reduceAdd, Nat.reduceMul, (ofNat_two _ _).1, (ofNat_two _ _).2]
    rfl
/-- What the document's own reader makes of a text. -/
theorem adOf_ref (s : List UInt8) : adOf s = if (rread (decide (58 ∈ s)) s).show = s then some (rread (decide (58 ∈ s)) s) else none := by
  have ok := rread_ok (decide (58 ∈ s)) s
  split
  · rename_i e
    exact adOf_some ⟨ok.1, ok.2, e⟩
  · rename_i e
    cases h : adOf s with
    | none => rfl
    | some a =>
      obtain ⟨w, g, e2⟩ := adOf_is h
      have c := Ad.show_colon w g
      have r := rread_show w g
      rw [e2] at c r
      have hd : decide (58 ∈ s) = a.six := by
        cases hs : a.six
        · rw [hs] at c; exact decide_eq_false fun hm => by simp at c; exact c hm
        · rw [hs] at c; exact decide_eq_true (c.2 rfl)
      rw [hd, r] at e
      exact absurd e2 e
/-- The number that the digits of a text say, kept below 1000. -/
def rbits (l : List UInt8) : Nat := l.foldl (addDig 10 1000) 0
theorem pfOf_ref (s : List UInt8) : pfOf s = if 0 ≤ Lib.index s [47] then (match adOf (s.take (Lib.index s [47]).toNat) with
    | some a => if (Pf.mk a (rbits (s.drop ((Lib.index s [47]).toNat + 1)) : Nat)).show = s then some ⟨a, (rbits (s.drop ((Lib.index s [47]).toNat + 1)) : Nat)⟩ else none
    | none => none) else none := by
  cases h : pfOf s with
  | some p =>
    have hp := pfOf_is h
    have b := Pf.good_bits hp.2.1 hp.1
    have c := hp.cut
    rw [Lib.cut] at c
    split at c
    · rename_i h0
      simp only [Prod.mk.injEq, List.length_singleton] at c
      rw [if_pos h0, c.1, hp.ad, c.2.1]
      dsimp only
      have e : rbits (digs 10 p.bits.toNat) = p.bits.toNat := by rw [rbits, addDig_digs (by omega) (by omega), Nat.mod_eq_of_lt (by omega)]
      have e2 : (Pf.mk p.a ((p.bits.toNat : Nat) : Int)) = p := by rw [Int.toNat_of_nonneg b.1]
      rw [e, e2, if_pos hp.2.2]
    · simp at c
  | none =>
    split
    · split
      · rename_i a ha
        split
        · rename_i e
          rw [pfOf_back ha (by intro e; subst e; rfl) e] at h
          cases h
        · rfl
      · rfl
    · rfl
end Go.Proofs.Ytcandokefhbneaa
