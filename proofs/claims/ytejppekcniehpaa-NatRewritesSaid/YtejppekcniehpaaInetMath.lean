/-
  Sums of packets, as plain numbers: what is above 16 bits is added below, the numbers of bytes added, and what becomes of a sum. No program is spoken of here.
-/
namespace Go.Proofs.Ytejppekcniehpaa

/-- What is above 16 bits added below, until nothing is. -/
def fo (n : Nat) : Nat := if n = 0 then 0 else (n - 1) % 65535 + 1
theorem fo_le (n : Nat) : fo n ≤ 65535 := by unfold fo; split <;> omega
theorem fo_small (n : Nat) (h : n ≤ 65535) : fo n = n := by unfold fo; split <;> omega
theorem fo_mod (n : Nat) : fo n % 65535 = n % 65535 := by unfold fo; split <;> omega
theorem fo_pos (n : Nat) : fo n = 0 ↔ n = 0 := by unfold fo; split <;> omega
theorem fo_eq {a b : Nat} (h : a % 65535 = b % 65535) (hz : a = 0 ↔ b = 0) : fo a = fo b := by
  unfold fo; split <;> split <;> omega
theorem fo_step (n : Nat) : fo (n / 65536 + n % 65536) = fo n := fo_eq (by omega) (by omega)
theorem fo_full (n : Nat) (h : n % 65535 = 0) (hz : n ≠ 0) : fo n = 65535 := by unfold fo; split <;> omega

/-- The numbers of two bytes, the higher one first, added; a 0 behind, if there is an odd number of bytes. -/
def tot : List UInt8 → Nat
  | [] => 0
  | [x] => 256 * x.toNat
  | x :: y :: l => 256 * x.toNat + y.toNat + tot l
theorem tot_nil : tot [] = 0 := rfl
theorem tot_two (x y : UInt8) : tot [x, y] = 256 * x.toNat + y.toNat := by simp [tot]
theorem tot_le : ∀ l : List UInt8, tot l ≤ 65535 * l.length
  | [] => by simp [tot]
  | [x] => by have := x.toNat_lt; simp [tot]; omega
  | x :: y :: l => by
    have := x.toNat_lt
    have := y.toNat_lt
    have := tot_le l
    simp only [tot, List.length_cons]
    omega
theorem tot_even : ∀ l : List UInt8, l.length % 2 = 0 → tot l ≤ l.length / 2 * 65535
  | [], _ => by simp [tot]
  | [x], h => by simp at h
  | x :: y :: l, h => by
    have := x.toNat_lt
    have := y.toNat_lt
    have := tot_even l (by simp only [List.length_cons] at h; omega)
    simp only [tot, List.length_cons]
    rw [show (l.length + 1 + 1) / 2 = l.length / 2 + 1 by omega]
    omega
theorem tot_append : ∀ l m : List UInt8, l.length % 2 = 0 → tot (l ++ m) = tot l + tot m
  | [], m, _ => by simp [tot]
  | [x], m, h => by simp at h
  | x :: y :: l, m, h => by
    have := tot_append l m (by simp only [List.length_cons] at h; omega)
    simp only [List.cons_append, tot, this]
    omega
theorem tot_snoc : ∀ (l : List UInt8) (x : UInt8), tot (l ++ [x]) = tot l + x.toNat * 2 ^ (8 - 8 * (l.length % 2))
  | [], x => by simp [tot]; omega
  | [y], x => by simp [tot]
  | y :: z :: l, x => by
    have := tot_snoc l x
    simp only [List.cons_append, tot, this, List.length_cons]
    rw [show (l.length + 1 + 1) % 2 = l.length % 2 by omega]
    omega
theorem tot_zero : ∀ l : List UInt8, tot l = 0 → ∀ x ∈ l, x = 0
  | [], _, x, h => by simp at h
  | [y], h, x, hx => by
    simp only [tot] at h
    rw [List.mem_singleton.mp hx]
    exact UInt8.toNat_inj.mp (by simp; omega)
  | y :: z :: l, h, x, hx => by
    simp only [tot] at h
    rcases List.mem_cons.mp hx with rfl | hx
    · exact UInt8.toNat_inj.mp (by simp; omega)
    rcases List.mem_cons.mp hx with rfl | hx
    · exact UInt8.toNat_inj.mp (by simp; omega)
    exact tot_zero l (by omega) x hx
/-- The sum of bytes. -/
def sumOf (l : List UInt8) : Nat := 65535 - fo (tot l)
theorem sumOf_le (l : List UInt8) : sumOf l ≤ 65535 := by unfold sumOf; omega
/-- What becomes of a sum. -/
def chgOf (s : Nat) (a b : List UInt8) : Nat := 65535 - fo (65535 - s + (a.length / 2 * 65535 - tot a) + tot b)
theorem chgOf_le (s : Nat) (a b : List UInt8) : chgOf s a b ≤ 65535 := by unfold chgOf; omega
/-- By two bytes at a time. -/
theorem tot_take2 (l : List UInt8) (k : Nat) (x y : UInt8) (hk : k % 2 = 0) (hx : l[k]? = some x) (hy : l[k + 1]? = some y) : tot (l.take (k + 2)) = tot (l.take k) + (256 * x.toNat + y.toNat) := by
  have h1 : l.take (k + 2) = l.take k ++ [x, y] := by
    rw [show k + 2 = (k + 1) + 1 from rfl, List.take_add_one, List.take_add_one, hx, hy]
    simp
  have h2 : k < l.length := (List.getElem?_eq_some_iff.mp hx).1
  rw [h1, tot_append _ _ (by rw [List.length_take]; omega), tot_two]
/-- A sum laid at an even place where 0 stood. -/
def lay2 (l : List UInt8) (k s : Nat) : List UInt8 := (l.set k (UInt8.ofNat (s / 256))).set (k + 1) (UInt8.ofNat (s % 256))
theorem lay2_length (l : List UInt8) (k s : Nat) : (lay2 l k s).length = l.length := by simp [lay2]
theorem lay2_split (l : List UInt8) (k s : Nat) (h : k + 1 < l.length) : lay2 l k s = l.take k ++ [UInt8.ofNat (s / 256), UInt8.ofNat (s % 256)] ++ l.drop (k + 2) := by
  apply List.ext_getElem?
  intro i
  unfold lay2
  have hl : (l.take k).length = k := by rw [List.length_take]; omega
  simp only [List.getElem?_set, List.length_set, List.append_assoc, List.getElem?_append, hl]
  rcases Nat.lt_trichotomy i k with h1 | h1 | h1
  · rw [if_neg (by omega), if_neg (by omega), if_pos h1, List.getElem?_take, if_pos h1]
  · subst h1
    rw [if_neg (by omega), if_pos rfl, if_pos (by omega), if_neg (by omega), Nat.sub_self]
    simp
  · rcases Nat.eq_or_lt_of_le h1 with h2 | h2
    · rw [if_pos (by omega), if_pos h, if_neg (by omega), show i - k = 1 by omega]
      simp
    · rw [if_neg (by omega), if_neg (by omega), if_neg (by omega), if_neg (by simp; omega), List.getElem?_drop]
      congr 1
      simp
      omega
theorem tot_lay2 (l : List UInt8) (k s : Nat) (hk : k % 2 = 0) (h : k + 1 < l.length) (hs : s ≤ 65535) : tot (lay2 l k s) = tot (lay2 l k 0) + s := by
  rw [lay2_split l k s h, lay2_split l k 0 h]
  have hl : (l.take k).length = k := by rw [List.length_take]; omega
  rw [tot_append _ _ (by simp; omega), tot_append _ _ (by omega), tot_append _ _ (by simp; omega), tot_append _ _ (by omega), tot_two, tot_two]
  have h1 : (UInt8.ofNat (s / 256)).toNat = s / 256 := by simp; omega
  have h2 : (UInt8.ofNat (s % 256)).toNat = s % 256 := by simp
  rw [h1, h2]
  simp
  omega
theorem lay2_again (l : List UInt8) (k s t : Nat) : lay2 (lay2 l k s) k t = lay2 l k t := by
  unfold lay2
  apply List.ext_getElem?
  intro i
  simp only [List.getElem?_set, List.length_set]
  split
  · rfl
  · split
    · rfl
    · rfl
/-- Bytes with their own sum in them are good. -/
theorem sum_own (l : List UInt8) (k : Nat) (hk : k % 2 = 0) (h : k + 1 < l.length) : sumOf (lay2 l k (sumOf (lay2 l k 0))) = 0 := by
  have h1 := tot_lay2 l k (sumOf (lay2 l k 0)) hk h (sumOf_le _)
  have h2 := fo_le (tot (lay2 l k 0))
  have h3 := fo_mod (tot (lay2 l k 0))
  have h4 := fo_pos (tot (lay2 l k 0))
  unfold sumOf at *
  rw [h1]
  rw [fo_full _ (by omega) (by omega)]
/-- Bytes that are good stay good when some are changed, and the sum with them. -/
theorem sum_kept (b c : List UInt8) (k s n x : Nat) (young : List UInt8) (hn : n % 2 = 0) (hy : young.length = n) (hk : k % 2 = 0) (hkn : k + n ≤ b.length) (hs : s % 2 = 0) (h : s + 1 < b.length)
    (hc : c = b.take k ++ young ++ b.drop (k + n)) (hd : ¬ (k ≤ s ∧ s < k + n)) (hx : x = sumOf (lay2 b s 0)) (hz : ∃ y ∈ lay2 c s 0, y ≠ 0) :
    sumOf (lay2 c s (chgOf x (((lay2 b s 0).drop k).take n) young)) = 0 := by
  have hcl : c.length = b.length := by rw [hc]; simp; omega
  have hso : ∀ l : List UInt8, s + 1 < l.length → ∀ i < l.length, (lay2 l s 0)[i]? = if i = s ∨ i = s + 1 then some 0 else l[i]? := by
    intro l hl i hi
    unfold lay2
    simp only [List.getElem?_set, List.length_set]
    rcases Nat.lt_trichotomy i s with h1 | h1 | h1
    · rw [if_neg (by omega), if_neg (by omega), if_neg (by omega)]
    · subst h1; rw [if_neg (by omega), if_pos rfl, if_pos (by omega), if_pos (Or.inl rfl)]; rfl
    · rcases Nat.eq_or_lt_of_le h1 with h2 | h2
      · rw [if_pos (by omega), if_pos (by omega), if_pos (by omega)]; rfl
      · rw [if_neg (by omega), if_neg (by omega), if_neg (by omega)]
  -- the part that is changed is the same with the sum at nought
  have hold : ((lay2 b s 0).drop k).take n = (b.drop k).take n := by
    apply List.ext_getElem?
    intro i
    simp only [List.getElem?_take, List.getElem?_drop]
    split
    · rw [hso b h (k + i) (by omega), if_neg (by omega)]
    · rfl
  have hlc : lay2 c s 0 = (lay2 b s 0).take k ++ young ++ (lay2 b s 0).drop (k + n) := by
    apply List.ext_getElem?
    intro i
    rcases Nat.lt_or_ge i c.length with hi | hi
    · rw [hso c (by omega) i hi]
      have hb0 : ((lay2 b s 0).take k).length = k := by rw [List.length_take, lay2_length]; omega
      have hb1 : (b.take k).length = k := by rw [List.length_take]; omega
      rw [hc]
      simp only [List.append_assoc, List.getElem?_append, hb0, hb1, List.getElem?_take, List.getElem?_drop, hy]
      rcases Nat.lt_or_ge i k with h1 | h1
      · simp only [if_pos h1]
        rw [hso b h i (by omega)]
      · simp only [if_neg (show ¬ i < k by omega)]
        rcases Nat.lt_or_ge (i - k) n with h2 | h2
        · simp only [if_pos h2]
          rw [if_neg (by omega)]
        · simp only [if_neg (show ¬ i - k < n by omega)]
          rw [show k + n + (i - k - n) = i by omega, hso b h i (by omega)]
    · rw [List.getElem?_eq_none (by rw [lay2_length]; omega), List.getElem?_eq_none (by simp [lay2_length]; omega)]
  have hL : (lay2 b s 0).length = b.length := lay2_length _ _ _
  obtain ⟨B, hB⟩ : ∃ B, B = lay2 b s 0 := ⟨_, rfl⟩
  rw [← hB] at hold hlc hL hx
  have hold2 : (B.drop k).take n = (b.drop k).take n := hold
  have t1 : tot B = tot (B.take k) + tot ((B.drop k).take n) + tot (B.drop (k + n)) := by
    have e : B = B.take k ++ ((B.drop k).take n ++ B.drop (k + n)) := by
      rw [← List.drop_drop, List.take_append_drop, List.take_append_drop]
    have e2 := congrArg tot e
    rw [tot_append _ _ (by rw [List.length_take]; omega), tot_append _ _ (by rw [List.length_take, List.length_drop]; omega)] at e2
    omega
  have t2 : tot (lay2 c s 0) = tot (B.take k) + tot young + tot (B.drop (k + n)) := by
    rw [hlc, tot_append _ _ (by rw [List.length_append, List.length_take]; omega), tot_append _ _ (by rw [List.length_take]; omega)]
  have t3 : tot (lay2 c s 0) ≠ 0 := fun e => by
    obtain ⟨y, hy1, hy2⟩ := hz
    exact hy2 (tot_zero _ e y hy1)
  have t4 := tot_even ((B.drop k).take n) (by rw [List.length_take, List.length_drop]; omega)
  have hln : ((B.drop k).take n).length = n := by rw [List.length_take, List.length_drop]; omega
  rw [hln] at t4
  have h1 := tot_lay2 c s (chgOf x ((B.drop k).take n) young) hs (by omega) (chgOf_le _ _ _)
  rw [← hB]
  unfold sumOf
  rw [h1]
  unfold chgOf
  rw [hln]
  obtain ⟨T, hT⟩ : ∃ T, T = tot B := ⟨_, rfl⟩
  have hx' : x = 65535 - fo T := by rw [hx, hT]; rfl
  have g1 := fo_le T
  have g2 := fo_mod T
  obtain ⟨D, hD⟩ : ∃ D, D = 65535 - x + (n / 2 * 65535 - tot ((B.drop k).take n)) + tot young := ⟨_, rfl⟩
  rw [← hD]
  have g3 := fo_le D
  have g4 := fo_mod D
  rw [← hT] at t1
  have g5 : D % 65535 = tot (lay2 c s 0) % 65535 := by
    have : 65535 - x = fo T := by omega
    rw [this] at hD
    obtain ⟨q, hq⟩ : ∃ q, q = n / 2 := ⟨_, rfl⟩
    rw [← hq] at hD t4
    omega
  rw [fo_full _ (by omega) (by omega)]
end Go.Proofs.Ytejppekcniehpaa
