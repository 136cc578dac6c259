/-
  Put and Delete of leaves, as plain lists.
-/
import Derived.Test.YtceefoopehoalaaNdFind
import Derived.Test.YtceefoopehoalaaNdLaw
namespace Go.Proofs.Ytceefoopehoalaa
section
variable {ks : List (List UInt8)} {key : List UInt8}
theorem belowN_iff (hs : KeysOk ks) : ∀ k, k ≤ ks.length → ∀ j, j < k → (j < belowN ks key k ↔ cmpB (ks.getD j []) key < 0)
  | 0, _, j, hj => absurd hj (Nat.not_lt_zero _)
  | k + 1, hk, j, hj => by
    have ih := belowN_iff hs k (by omega)
    have hle := belowN_le ks key k
    have e : belowN ks key (k + 1) = belowN ks key k + (if cmpB (ks.getD k []) key < 0 then 1 else 0) := rfl
    by_cases hc : cmpB (ks.getD k []) key < 0
    · have hall : ∀ i, i < k → cmpB (ks.getD i []) key < 0 := fun i hi => cmpB_trans (hs.rise hi (by omega)) hc
      have hfull : belowN ks key k = k := by
        rcases Nat.lt_or_ge (belowN ks key k) k with h | h
        · have := (ih _ h).2 (hall _ h); omega
        · omega
      rw [e, if_pos hc, hfull]
      constructor
      · intro _
        by_cases ej : j = k
        · subst ej; exact hc
        · exact hall j (by omega)
      · intro _; omega
    · rw [e, if_neg hc, Nat.add_zero]
      by_cases ej : j = k
      · subst ej
        exact ⟨fun h => by omega, fun h => absurd h hc⟩
      · exact ih j (by omega)
theorem hasN_iff : ∀ k, hasN ks key k = true ↔ ∃ j, j < k ∧ ks.getD j [] = key
  | 0 => ⟨fun h => (by cases h), fun ⟨_, h, _⟩ => absurd h (Nat.not_lt_zero _)⟩
  | k + 1 => by
    have ih := hasN_iff k
    show (hasN ks key k || decide (ks.getD k [] = key)) = true ↔ _
    rw [Bool.or_eq_true, decide_eq_true_eq, ih]
    constructor
    · rintro (⟨j, h1, h2⟩ | h)
      · exact ⟨j, by omega, h2⟩
      · exact ⟨k, by omega, h⟩
    · rintro ⟨j, h1, h2⟩
      by_cases e : j = k
      · subst e; exact .inr h2
      · exact .inl ⟨j, by omega, h2⟩
/-- Where key stands, or would. -/
def atN (ks : List (List UInt8)) (key : List UInt8) : Nat := belowN ks key ks.length
def isN (ks : List (List UInt8)) (key : List UInt8) : Bool := hasN ks key ks.length
theorem atN_le : atN ks key ≤ ks.length := belowN_le _ _ _
theorem atN_lt (hs : KeysOk ks) {j : Nat} (h : j < atN ks key) : cmpB (ks.getD j []) key < 0 := (belowN_iff hs _ (Nat.le_refl _) j (Nat.lt_of_lt_of_le h atN_le)).1 h
theorem atN_ge (hs : KeysOk ks) {j : Nat} (h : atN ks key ≤ j) (hj : j < ks.length) : 0 ≤ cmpB (ks.getD j []) key := by
  rcases Int.lt_or_le (cmpB (ks.getD j []) key) 0 with h1 | h1
  · have := (belowN_iff (key := key) hs _ (Nat.le_refl _) j hj).2 h1
    unfold atN at h
    omega
  · exact h1
/-- Key j is key just where it stands. -/
theorem isN_iff (hs : KeysOk ks) {j : Nat} (hj : j < ks.length) : ks.getD j [] = key ↔ (isN ks key = true ∧ j = atN ks key) := by
  have hone : ∀ i, i < ks.length → ks.getD i [] = key → i = atN ks key := fun i hi he => by
    have h0 : cmpB (ks.getD i []) key = 0 := by rw [he]; exact cmpB_self _
    rcases Nat.lt_trichotomy i (atN ks key) with h | h | h
    · have := atN_lt hs h; omega
    · exact h
    · have h1 := atN_ge hs (key := key) (Nat.le_refl _) (by omega)
      have h2 := hs.rise h hi
      rw [he] at h2
      omega
  constructor
  · intro h
    exact ⟨(hasN_iff _).2 ⟨j, hj, h⟩, hone j hj h⟩
  · rintro ⟨h1, h2⟩
    obtain ⟨i, hi, he⟩ := (hasN_iff _).1 h1
    rw [h2, ← hone i hi he]
    exact he
theorem isN_lt (hs : KeysOk ks) (h : isN ks key = true) : atN ks key < ks.length := by
  obtain ⟨i, hi, he⟩ := (hasN_iff _).1 h
  have := ((isN_iff hs hi).1 he).2
  omega
end
/-- x put at place k of xs, in the place of the d behind it. -/
def putL (k d : Nat) (x : List UInt8) (xs : List (List UInt8)) : List (List UInt8) := xs.take k ++ x :: xs.drop (k + d)
def delL (k : Nat) (xs : List (List UInt8)) : List (List UInt8) := xs.take k ++ xs.drop (k + 1)
/-- The same, place by place. -/
def putS (k d : Nat) (x : List UInt8) (xs : List (List UInt8)) : Nat → List (List UInt8)
  | 0 => []
  | i + 1 => (putS k d x xs i ++ if i = k then [x] else []) ++ if i < xs.length ∧ ¬ (d = 1 ∧ i = k) then [xs.getD i []] else []
def delS (k : Nat) (xs : List (List UInt8)) : Nat → List (List UInt8)
  | 0 => []
  | i + 1 => delS k xs i ++ if i = k then [] else [xs.getD i []]
section
variable {k d : Nat} {x : List UInt8} {xs : List (List UInt8)}
theorem take_one {i : Nat} (h : i < xs.length) : xs.take i ++ [xs.getD i []] = xs.take (i + 1) := by
  rw [List.take_add_one]
  simp [List.getD, h]
theorem drop_one {i d : Nat} (h : i < xs.length) (hd : d ≤ i) : (xs.take i).drop d ++ [xs.getD i []] = (xs.take (i + 1)).drop d := by
  rw [← take_one h, List.drop_append_of_le_length (by simp; omega)]
theorem putS_is (hd : d ≤ 1) (hk : k + d ≤ xs.length) : ∀ i, i ≤ xs.length + 1 → putS k d x xs i = if i ≤ k then xs.take i else xs.take k ++ x :: (xs.take i).drop (k + d)
  | 0, _ => by simp [putS]
  | i + 1, hi => by
    have ih := putS_is hd hk i (by omega)
    rw [putS, ih]
    rcases Nat.lt_trichotomy i k with h | h | h
    · rw [if_pos (show i ≤ k by omega), if_neg (show ¬ i = k by omega), if_pos (show i < xs.length ∧ ¬ (d = 1 ∧ i = k) from ⟨by omega, fun g => by omega⟩), if_pos (show i + 1 ≤ k by omega), List.append_nil]
      exact take_one (by omega)
    · subst h
      rw [if_pos (Nat.le_refl _), if_pos rfl, if_neg (show ¬ i + 1 ≤ i by omega)]
      by_cases e : d = 1
      · subst e
        rw [if_neg (fun g => g.2 ⟨rfl, rfl⟩), List.drop_eq_nil_of_le (by simp; omega), List.append_nil]
      · have e : d = 0 := by omega
        subst e
        by_cases hl : i < xs.length
        · rw [if_pos ⟨hl, fun g => by omega⟩, ← drop_one hl (d := i + 0) (by omega), List.drop_eq_nil_of_le (by simp; omega)]
          simp
        · rw [if_neg (fun g => hl g.1), List.drop_eq_nil_of_le (by simp; omega), List.append_nil]
    · rw [if_neg (show ¬ i ≤ k by omega), if_neg (show ¬ i = k by omega), if_neg (show ¬ i + 1 ≤ k by omega), List.append_nil]
      by_cases hl : i < xs.length
      · rw [if_pos (show i < xs.length ∧ ¬ (d = 1 ∧ i = k) from ⟨hl, fun g => by omega⟩), ← drop_one hl (d := k + d) (by omega)]
        simp
      · rw [if_neg (fun g => hl g.1), List.append_nil, List.take_of_length_le (show xs.length ≤ i by omega), List.take_of_length_le (show xs.length ≤ i + 1 by omega)]
theorem putS_all (hd : d ≤ 1) (hk : k + d ≤ xs.length) : putS k d x xs (xs.length + 1) = putL k d x xs := by
  rw [putS_is hd hk _ (Nat.le_refl _), if_neg (by omega), List.take_of_length_le (show xs.length ≤ xs.length + 1 by omega)]
  rfl
theorem delS_is (hk : k < xs.length) : ∀ i, i ≤ xs.length → delS k xs i = if i ≤ k then xs.take i else xs.take k ++ (xs.take i).drop (k + 1)
  | 0, _ => by simp [delS]
  | i + 1, hi => by
    have ih := delS_is hk i (by omega)
    rw [delS, ih]
    rcases Nat.lt_trichotomy i k with h | h | h
    · rw [if_pos (by omega), if_neg (by omega), if_pos (by omega)]
      exact take_one (by omega)
    · subst h
      rw [if_pos (Nat.le_refl _), if_pos rfl, if_neg (by omega), List.drop_eq_nil_of_le (by simp; omega)]
    · rw [if_neg (by omega), if_neg (by omega), if_neg (by omega), ← drop_one (by omega) (d := k + 1) (by omega), List.append_assoc]
theorem delS_all (hk : k < xs.length) : delS k xs xs.length = delL k xs := by
  rw [delS_is hk _ (Nat.le_refl _), if_neg (by omega), List.take_length]
  rfl
theorem putL_len (hk : k ≤ xs.length) : (putL k d x xs).length ≤ xs.length + 1 := by
  unfold putL
  simp
  omega
theorem delL_len : (delL k xs).length ≤ xs.length := by
  unfold delL
  simp
  omega
theorem putL_mem {u : List UInt8} (h : u ∈ putL k d x xs) : u = x ∨ u ∈ xs := by
  unfold putL at h
  rw [List.mem_append, List.mem_cons] at h
  rcases h with h | h | h
  · exact .inr (List.mem_of_mem_take h)
  · exact .inl h
  · exact .inr (List.mem_of_mem_drop h)
theorem delL_mem {u : List UInt8} (h : u ∈ delL k xs) : u ∈ xs := by
  unfold delL at h
  rw [List.mem_append] at h
  rcases h with h | h
  · exact List.mem_of_mem_take h
  · exact List.mem_of_mem_drop h
end
/-- A leaf with val at key. -/
def Nd.put (n : Nd) (key val : List UInt8) : Nd := ⟨true, putL (atN n.keys key) (isN n.keys key).toNat key n.keys, putL (atN n.keys key) (isN n.keys key).toNat val n.vals, []⟩
/-- A leaf without key. -/
def Nd.del (n : Nd) (key : List UInt8) : Nd := ⟨true, delL (atN n.keys key) n.keys, delL (atN n.keys key) n.vals, []⟩
theorem small_all {ks : List (List UInt8)} {m : Nat} (h : ∀ k ∈ ks, k.length ≤ m) (hm : m ≤ 1000000) : ∀ j, j < ks.length → (ks.getD j []).length ≤ 1000000 := fun j hj => by
  have := h _ (getD_mem ks [] hj)
  omega
theorem Nd.Snd.keysMem {n : Nd} (h : n.Snd) : ∀ k ∈ n.keys, k.length ≤ 24 := fun k hk => by
  obtain ⟨j, hj, rfl⟩ := List.getElem_of_mem hk
  have := (h.keys j hj).1.len.2
  simpa [List.getD, hj] using this
theorem Nd.Snd.valsMem {n : Nd} (h : n.Snd) : ∀ k ∈ n.vals, k.length ≤ 24 := fun k hk => by
  obtain ⟨j, hj, rfl⟩ := List.getElem_of_mem hk
  have := h.vals j hj
  simpa [List.getD, hj] using this
theorem Nd.put_small {n : Nd} (h : n.Snd) {key val : List UInt8} (hk : key.length ≤ 24) (hv : val.length ≤ 24) : (n.put key val).Small :=
  ⟨small_all (m := 24) (fun u hu => by rcases putL_mem hu with e | e; (subst e; exact hk); exact h.keysMem u e) (by omega), small_all (m := 24) (fun u hu => by rcases putL_mem hu with e | e; (subst e; exact hv); exact h.valsMem u e) (by omega)⟩
theorem Nd.del_small {n : Nd} (h : n.Snd) {key : List UInt8} : (n.del key).Small :=
  ⟨small_all (m := 24) (fun u hu => h.keysMem u (delL_mem hu)) (by omega), small_all (m := 24) (fun u hu => h.valsMem u (delL_mem hu)) (by omega)⟩
end Go.Proofs.Ytceefoopehoalaa
