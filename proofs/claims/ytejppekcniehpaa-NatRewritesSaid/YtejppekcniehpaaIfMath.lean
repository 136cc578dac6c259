/-
  Heads of IPv4, in plain words: what is wrong with bytes, what head they have, which bytes a head has.
-/
import Derived.Test.YtejppekcniehpaaHd
import Derived.Test.YtejppekcniehpaaInetMath
namespace Go.Proofs.Ytejppekcniehpaa
open Go.RowKit
/-- The number of two bytes at a place. -/
def num2 (l : List UInt8) (k : Nat) : Nat := (l.getD k 0).toNat * 256 + (l.getD (k + 1) 0).toNat
theorem num2_lt (l : List UInt8) (k : Nat) : num2 l k < 65536 := by
  have h1 := (l.getD k 0).toNat_lt
  have h2 := (l.getD (k + 1) 0).toNat_lt
  unfold num2
  omega
theorem ofBe_two (l : List UInt8) (k : Nat) (h : k + 2 ≤ l.length) : ofBe ((l.drop k).take 2) 0 = num2 l k := by
  have e : (l.drop k).take 2 = [l.getD k 0, l.getD (k + 1) 0] := by
    rw [List.drop_eq_getElem_cons (by omega), List.drop_eq_getElem_cons (by omega)]
    simp only [List.take_succ_cons, List.take_zero, List.getD_eq_getElem?_getD, List.getElem?_eq_getElem (show k < l.length by omega), List.getElem?_eq_getElem (show k + 1 < l.length by omega), Option.getD_some]
  rw [e]
  simp [ofBe, num2]
/-- How many bytes a head has, by its first byte; what is wrong with bytes. -/
def ifN (l : List UInt8) : Nat := (l.getD 0 0).toNat % 16 * 4
def ifE1 (l : List UInt8) : Nat := if 2048 < l.length then 10 else if l.length < 20 then 9 else if (l.getD 0 0).toNat / 16 ≠ 4 then 12 else if (l.getD 0 0).toNat % 16 < 5 then 4 else if l.length < ifN l then 9 else 0
def ifE2 (l : List UInt8) (n : Nat) : Nat := if num2 l 2 < n then 4 else if l.length < num2 l 2 then 9 else if num2 l 2 < l.length then 10 else 0
def ifE3 (l : List UInt8) : Nat := if sumOf l ≠ 0 then 5 else if (l.getD 8 0).toNat = 0 ∨ 128 ≤ (l.getD 6 0).toNat then 4 else 0
def ifErr (l : List UInt8) : Nat := if ifE1 l ≠ 0 then ifE1 l else if ifE2 l (ifN l) ≠ 0 then ifE2 l (ifN l) else ifE3 (l.take (ifN l))
theorem ifE1_no {l : List UInt8} (h : ifE1 l = 0) : l.length ≤ 2048 ∧ 20 ≤ l.length ∧ (l.getD 0 0).toNat / 16 = 4 ∧ 20 ≤ ifN l ∧ ifN l ≤ l.length ∧ ifN l ≤ 60 := by
  have h2 : ifN l = (l.getD 0 0).toNat % 16 * 4 := rfl
  unfold ifE1 at h
  split at h
  · omega
  · split at h
    · omega
    · split at h
      · omega
      · split at h
        · omega
        · split at h
          · omega
          · omega
theorem ifE1_lt (l : List UInt8) : ifE1 l < 13 := by unfold ifE1; (repeat' split) <;> omega
theorem ifE2_lt (l : List UInt8) (n : Nat) : ifE2 l n < 13 := by unfold ifE2; (repeat' split) <;> omega
theorem ifE3_lt (l : List UInt8) : ifE3 l < 13 := by unfold ifE3; (repeat' split) <;> omega
/-- The address of four bytes. -/
def ad4 (l : List UInt8) : Ad := ⟨false, List.replicate 12 0 ++ l⟩
theorem ad4_wide {l : List UInt8} (h : l.length = 4) : (ad4 l).Wide := by show (List.replicate 12 (0 : UInt8) ++ l).length = 16; simp [h]
/-- What a sound head says. -/
def ifHd (l : List UInt8) : Hd := ⟨false, l.getD 9 0, (l.length : Nat), ad4 ((l.drop 12).take 4), ad4 ((l.drop 16).take 4), decide (num2 l 6 % 16384 ≠ 0), l.getD 8 0⟩
theorem ifHd_wide {l : List UInt8} (h : 20 ≤ l.length) : (ifHd l).Wide := ⟨ad4_wide (by simp; omega), ad4_wide (by simp; omega)⟩
def ifRead (l : List UInt8) : Hd := if ifErr l = 0 then ifHd (l.take (ifN l)) else Hd.zero
theorem ifRead_wide (l : List UInt8) : (ifRead l).Wide := by
  unfold ifRead
  split
  · rename_i h
    have h1 : ifE1 l = 0 := by
      unfold ifErr at h
      split at h
      · omega
      · omega
    obtain ⟨_, _, _, h4, h5, _⟩ := ifE1_no h1
    exact ifHd_wide (by rw [List.length_take]; omega)
  · exact Hd.zero_wide
/-- Whether there may be a packet of a head; its bytes. -/
def is4 (a : Ad) : Bool := !a.six && a.good
def Hd.may (h : Hd) : Bool := !h.six && is4 h.src && is4 h.dst && (h.hops != 0) && !h.part
def ifFirst (h : Hd) (n : Nat) : List UInt8 := [69, 0] ++ be 2 n ++ [0, 0, 0, 0, h.hops, h.proto]
def ifLast (h : Hd) : List UInt8 := h.src.own ++ h.dst.own
def ifBytes (h : Hd) (data : List UInt8) : List UInt8 := ifFirst h (20 + data.length) ++ be 2 (sumOf (ifFirst h (20 + data.length) ++ ifLast h)) ++ ifLast h ++ data
theorem is4_form {a : Ad} (ha : a.Wide) (h : is4 a = true) : ∃ x, x.length = 4 ∧ a = ad4 x ∧ a.own = x := by
  obtain ⟨s, b⟩ := a
  simp [is4, Ad.good] at h
  obtain ⟨rfl, h2⟩ := h
  simp at h2
  have hb : b.length = 16 := ha
  refine ⟨b.drop 12, by simp [hb], ?_, by simp [Ad.own, Ad.from]⟩
  unfold ad4
  congr 1
  have := List.take_append_drop 12 b
  rw [h2] at this
  exact this.symm
theorem list4 {l : List UInt8} (h : l.length = 4) : ∃ a b c d, l = [a, b, c, d] := by
  match l, h with
  | [a, b, c, d], _ => exact ⟨a, b, c, d, rfl⟩
theorem be2 (n : Nat) : be 2 n = [UInt8.ofNat (n / 256), UInt8.ofNat n] := rfl
/-- All of what a packet's bytes are. -/
theorem ifBytes_form (h : Hd) (hw : h.Wide) (hm : h.may = true) (data : List UInt8) (hd : data.length ≤ 2028) :
    ∃ (n : Nat) (a b c d e f g i : UInt8) (s : Nat), n = 20 + data.length ∧ s ≤ 65535 ∧ h.six = false ∧ h.part = false ∧ h.hops ≠ 0 ∧ h.src = ad4 [a, b, c, d] ∧ h.dst = ad4 [e, f, g, i] ∧
      ifBytes h data = [69, 0, UInt8.ofNat (n / 256), UInt8.ofNat n, 0, 0, 0, 0, h.hops, h.proto, UInt8.ofNat (s / 256), UInt8.ofNat (s % 256), a, b, c, d, e, f, g, i] ++ data ∧
      sumOf [69, 0, UInt8.ofNat (n / 256), UInt8.ofNat n, 0, 0, 0, 0, h.hops, h.proto, UInt8.ofNat (s / 256), UInt8.ofNat (s % 256), a, b, c, d, e, f, g, i] = 0 := by
  unfold Hd.may at hm
  simp only [Bool.and_eq_true, Bool.not_eq_true', bne_iff_ne, ne_eq] at hm
  obtain ⟨⟨⟨⟨h1, h2⟩, h3⟩, h4⟩, h5⟩ := hm
  obtain ⟨x, hx, ex, ox⟩ := is4_form hw.1 h2
  obtain ⟨y, hy, ey, oy⟩ := is4_form hw.2 h3
  obtain ⟨a, b, c, d, rfl⟩ := list4 hx
  obtain ⟨e, f, g, i, rfl⟩ := list4 hy
  obtain ⟨n, hn⟩ : ∃ n, n = 20 + data.length := ⟨_, rfl⟩
  obtain ⟨s, hs⟩ : ∃ s, s = sumOf (ifFirst h n ++ ifLast h) := ⟨_, rfl⟩
  have hsl : s ≤ 65535 := by rw [hs]; exact sumOf_le _
  refine ⟨n, a, b, c, d, e, f, g, i, s, hn, hsl, h1, h5, h4, ex, ey, ?_, ?_⟩
  · unfold ifBytes
    rw [← hn, ← hs, ifFirst, ifLast, ox, oy, be2, be2]
    have : UInt8.ofNat s = UInt8.ofNat (s % 256) := by
      apply UInt8.toNat_inj.1
      simp
    rw [this]
    simp
  · have e1 : sumOf (ifFirst h n ++ ifLast h) = sumOf (lay2 [69, 0, UInt8.ofNat (n / 256), UInt8.ofNat n, 0, 0, 0, 0, h.hops, h.proto, 0, 0, a, b, c, d, e, f, g, i] 10 0) := by
      unfold ifFirst ifLast
      rw [ox, oy, be2]
      simp [sumOf, lay2, tot]
    have e2 := sum_own [69, 0, UInt8.ofNat (n / 256), UInt8.ofNat n, 0, 0, 0, 0, h.hops, h.proto, 0, 0, a, b, c, d, e, f, g, i] 10 rfl (by simp)
    rw [← e1, ← hs] at e2
    simpa [lay2] using e2
theorem ifBytes_length (h : Hd) (hw : h.Wide) (hm : h.may = true) (data : List UInt8) (hd : data.length ≤ 2028) : (ifBytes h data).length = 20 + data.length := by
  obtain ⟨n, a, b, c, d, e, f, g, i, s, hn, hs, _, _, _, _, _, hb, _⟩ := ifBytes_form h hw hm data hd
  rw [hb]
  simp
  omega
theorem num2_be (n : Nat) (h : n < 65536) : (UInt8.ofNat (n / 256)).toNat * 256 + (UInt8.ofNat n).toNat = n := by
  simp
  omega
/-- Read of Write is the head, from 20 on. -/
theorem ifBack (h : Hd) (hw : h.Wide) (hm : h.may = true) (data : List UInt8) (hd : data.length ≤ 2028) : ifErr (ifBytes h data) = 0 ∧ ifRead (ifBytes h data) = { h with pos := 20 } := by
  obtain ⟨n, a, b, c, d, e, f, g, i, s, hn, hs, h1, h2, h3, h4, h5, hb, hz⟩ := ifBytes_form h hw hm data hd
  have hN : ifN (ifBytes h data) = 20 := by unfold ifN; rw [show (ifBytes h data).getD 0 0 = 69 by rw [hb]; rfl]; decide
  have hL : (ifBytes h data).length = n := by rw [hb]; simp; omega
  have h2' : num2 (ifBytes h data) 2 = n := by
    rw [hb]
    exact num2_be n (by omega)
  have hT : (ifBytes h data).take 20 = [69, 0, UInt8.ofNat (n / 256), UInt8.ofNat n, 0, 0, 0, 0, h.hops, h.proto, UInt8.ofNat (s / 256), UInt8.ofNat (s % 256), a, b, c, d, e, f, g, i] := by rw [hb]; rfl
  have h0 : (ifBytes h data).getD 0 0 = 69 := by rw [hb]; rfl
  have E1 : ifE1 (ifBytes h data) = 0 := by
    unfold ifE1
    rw [hN, hL, h0, if_neg (by omega), if_neg (by omega), if_neg (by decide), if_neg (by decide), if_neg (by omega)]
  have E2 : ifE2 (ifBytes h data) 20 = 0 := by
    unfold ifE2
    rw [h2', hL, if_neg (by omega), if_neg (by omega), if_neg (by omega)]
  have E3 : ifE3 ((ifBytes h data).take 20) = 0 := by
    unfold ifE3
    rw [hT, hz, if_neg (by omega)]
    refine if_neg (fun hc => ?_)
    rcases hc with hc | hc
    · exact h3 (UInt8.toNat_inj.1 hc)
    · exact absurd hc (by show ¬ 128 ≤ (0 : UInt8).toNat; decide)
  have hE : ifErr (ifBytes h data) = 0 := by
    unfold ifErr
    rw [hN, E1, E2, E3]
    rfl
  refine ⟨hE, ?_⟩
  unfold ifRead
  rw [if_pos hE, hN, hT]
  obtain ⟨h6, hp, hpos, hsrc, hdst, hpart, hhops⟩ := h
  dsimp only at h1 h2 h3 h4 h5
  subst h1 h2 h4 h5
  simp [ifHd, num2]
/-- Cut off, or with bytes behind it. -/
theorem ifCut (h : Hd) (hw : h.Wide) (hm : h.may = true) (data : List UInt8) (hd : data.length ≤ 2028) (k : Nat) (hk : k < 20 + data.length) : ifErr ((ifBytes h data).take k) = 9 := by
  obtain ⟨n, a, b, c, d, e, f, g, i, s, hn, hs, h1, h2, h3, h4, h5, hb, hz⟩ := ifBytes_form h hw hm data hd
  have hL : (ifBytes h data).length = n := by rw [hb]; simp; omega
  have hT : ((ifBytes h data).take k).length = k := by rw [List.length_take, hL]; omega
  by_cases h20 : k < 20
  · have : ifE1 ((ifBytes h data).take k) = 9 := by
      unfold ifE1
      rw [hT, if_neg (by omega), if_pos h20]
    unfold ifErr
    rw [this]
    rfl
  · have hg : ∀ j, j < 20 → ((ifBytes h data).take k).getD j 0 = (ifBytes h data).getD j 0 := fun j hj => by
      simp only [List.getD_eq_getElem?_getD, List.getElem?_take]
      rw [if_pos (by omega)]
    have hN : ifN ((ifBytes h data).take k) = 20 := by unfold ifN; rw [show ((ifBytes h data).take k).getD 0 0 = 69 by rw [hg 0 (by omega), hb]; rfl]; decide
    have h0 : ((ifBytes h data).take k).getD 0 0 = 69 := by rw [hg 0 (by omega), hb]; rfl
    have E1 : ifE1 ((ifBytes h data).take k) = 0 := by
      unfold ifE1
      rw [hN, hT, h0, if_neg (by omega), if_neg (by omega), if_neg (by decide), if_neg (by decide), if_neg (by omega)]
    have h2' : num2 ((ifBytes h data).take k) 2 = n := by
      unfold num2
      rw [hg 2 (by omega), hg 3 (by omega), hb]
      exact num2_be n (by omega)
    have E2 : ifE2 ((ifBytes h data).take k) 20 = 9 := by
      unfold ifE2
      rw [h2', hT, if_neg (by omega), if_pos (by omega)]
    unfold ifErr
    rw [hN, E1, E2]
    rfl
theorem ifMore (h : Hd) (hw : h.Wide) (hm : h.may = true) (data : List UInt8) (hd : data.length ≤ 2028) (x : UInt8) : ifErr (ifBytes h data ++ [x]) = 10 := by
  obtain ⟨n, a, b, c, d, e, f, g, i, s, hn, hs, h1, h2, h3, h4, h5, hb, hz⟩ := ifBytes_form h hw hm data hd
  have hL : (ifBytes h data ++ [x]).length = n + 1 := by rw [hb]; simp; omega
  by_cases hl : 2048 < n + 1
  · have : ifE1 (ifBytes h data ++ [x]) = 10 := by
      unfold ifE1
      rw [hL, if_pos hl]
    unfold ifErr
    rw [this]
    rfl
  · have hN : ifN (ifBytes h data ++ [x]) = 20 := by unfold ifN; rw [show (ifBytes h data ++ [x]).getD 0 0 = 69 by rw [hb]; rfl]; decide
    have h0 : (ifBytes h data ++ [x]).getD 0 0 = 69 := by rw [hb]; rfl
    have E1 : ifE1 (ifBytes h data ++ [x]) = 0 := by
      unfold ifE1
      rw [hN, hL, h0, if_neg (by omega), if_neg (by omega), if_neg (by decide), if_neg (by decide), if_neg (by omega)]
    have h2' : num2 (ifBytes h data ++ [x]) 2 = n := by
      rw [hb]
      exact num2_be n (by omega)
    have E2 : ifE2 (ifBytes h data ++ [x]) 20 = 10 := by
      unfold ifE2
      rw [h2', hL, if_neg (by omega), if_neg (by omega), if_pos (by omega)]
    unfold ifErr
    rw [hN, E1, E2]
    rfl
/-- One byte that is another one: what becomes of the numbers added. -/
theorem tot_set : ∀ (l : List UInt8) (i : Nat) (x y : UInt8), l[i]? = some x → tot (l.set i y) + x.toNat * 2 ^ (8 - 8 * (i % 2)) = tot l + y.toNat * 2 ^ (8 - 8 * (i % 2))
  | [], i, x, y, h => by simp at h
  | [a], 0, x, y, h => by simp at h; subst h; simp [tot]; omega
  | [a], i + 1, x, y, h => by simp at h
  | a :: b :: l, 0, x, y, h => by simp at h; subst h; simp [tot]; omega
  | a :: b :: l, 1, x, y, h => by simp at h; subst h; simp [tot]; omega
  | a :: b :: l, i + 2, x, y, h => by
    have := tot_set l i x y (by simpa using h)
    simp only [List.set_cons_succ, tot]
    rw [show (i + 2) % 2 = i % 2 by omega]
    omega
theorem sumOf_good {l : List UInt8} (h : sumOf l = 0) : tot l % 65535 = 0 := by
  have h1 := fo_mod (tot l)
  have h2 := fo_le (tot l)
  unfold sumOf at h
  have : fo (tot l) = 65535 := by omega
  rw [this] at h1
  omega
theorem sumOf_set (l : List UInt8) (i : Nat) (x y : UInt8) (hx : l[i]? = some x) (hne : y ≠ x) (h : sumOf l = 0) : sumOf (l.set i y) ≠ 0 := fun hc => by
  have h1 := sumOf_good h
  have h2 := sumOf_good hc
  have h3 := tot_set l i x y hx
  have hx1 := x.toNat_lt
  have hy1 := y.toNat_lt
  have hxy : x.toNat ≠ y.toNat := fun e => hne (UInt8.toNat_inj.1 e).symm
  have hp : 2 ^ (8 - 8 * (i % 2)) = 256 ∨ 2 ^ (8 - 8 * (i % 2)) = 1 := by
    rcases Nat.mod_two_eq_zero_or_one i with e | e <;> rw [e]
    · exact .inl rfl
    · exact .inr rfl
  rcases hp with e | e <;> rw [e] at h3 <;> omega
/-- A packet of whose head one byte is another one has no head. -/
theorem ifSpoilt (h : Hd) (hw : h.Wide) (hm : h.may = true) (data : List UInt8) (hd : data.length = 3) (i : Nat) (hi : i < 20) (x y : UInt8) (hx : (ifBytes h data)[i]? = some x) (hne : y ≠ x) : ifErr ((ifBytes h data).set i y) ≠ 0 := by
  obtain ⟨n, a, b, c, d, e, f, g, i', s, hn, hs, h1, h2, h3, h4, h5, hb, hz⟩ := ifBytes_form h hw hm data (by omega)
  have hn23 : n = 23 := by omega
  subst hn23
  intro hE
  have E1 : ifE1 ((ifBytes h data).set i y) = 0 := by
    unfold ifErr at hE
    split at hE
    · omega
    · omega
  obtain ⟨_, _, g3, g4, g5, _⟩ := ifE1_no E1
  have hL : ((ifBytes h data).set i y).length = 23 := by rw [List.length_set, hb]; simp; omega
  rw [hL] at g5
  have hN : ifN ((ifBytes h data).set i y) = 20 := by unfold ifN at g4 g5 ⊢; omega
  have E2 : ifE2 ((ifBytes h data).set i y) 20 = 0 := by
    unfold ifErr at hE
    rw [E1, if_neg (by omega), hN] at hE
    split at hE
    · omega
    · omega
  have E3 : ifE3 (((ifBytes h data).set i y).take 20) = 0 := by
    unfold ifErr at hE
    rw [E1, if_neg (by omega), hN, E2, if_neg (by omega)] at hE
    exact hE
  have hT : (ifBytes h data).take 20 = [69, 0, UInt8.ofNat (23 / 256), UInt8.ofNat 23, 0, 0, 0, 0, h.hops, h.proto, UInt8.ofNat (s / 256), UInt8.ofNat (s % 256), a, b, c, d, e, f, g, i'] := by rw [hb]; rfl
  rw [← hT] at hz
  rw [List.take_set] at E3
  refine sumOf_set ((ifBytes h data).take 20) i x y (by rw [List.getElem?_take, if_pos hi]; exact hx) hne hz ?_
  unfold ifE3 at E3
  split at E3
  · omega
  · omega
end Go.Proofs.Ytejppekcniehpaa
