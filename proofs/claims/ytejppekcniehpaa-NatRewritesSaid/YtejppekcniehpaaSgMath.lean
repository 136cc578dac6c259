/-
  Heads of TCP and UDP, in plain words: what a segment is summed with, what is wrong with bytes, which bytes a segment has, and what becomes of one that is spoilt.
-/
import Derived.Test.YtejppekcniehpaaIfMath
namespace Go.Proofs.Ytejppekcniehpaa
open Go.RowKit
/-- What a segment's head says. -/
structure Sg where
  src : Nat
  dst : Nat
  flags : UInt8
  sumAt : Int
  zero : Bool
  data : Int
def Sg.none : Sg := ⟨0, 0, 0, 0, false, 0⟩
/-- What a segment of so many bytes is summed with. -/
def sgPseudo (h : Hd) (n : Nat) : List UInt8 := h.src.own ++ (h.dst.own ++ (if h.six then be 4 n ++ [0, 0, 0, h.proto] else [0, h.proto] ++ be 2 n))
def sgOk (h : Hd) (b : List UInt8) : Bool := decide (sumOf (sgPseudo h b.length ++ b) = 0)
def sgPorts (b : List UInt8) : Nat := if num2 b 0 = 0 ∨ num2 b 2 = 0 then 4 else 0
def sgN (b : List UInt8) : Nat := (b.getD 12 0).toNat / 16 * 4
/-- What is wrong with a segment of TCP; of UDP. -/
def sgTcp (h : Hd) (b : List UInt8) : Nat := if b.length < 20 then 9 else if sgN b < 20 then 4 else if b.length < sgN b then 9 else if sgOk h b = true then sgPorts b else 5
def sgUdp (h : Hd) (b : List UInt8) : Nat := if b.length < 8 then 9 else if num2 b 4 < 8 then 4 else if b.length < num2 b 4 then 9 else if num2 b 4 < b.length then 10 else if num2 b 6 = 0 then (if h.six then 4 else sgPorts b) else if sgOk h b = true then sgPorts b else 5
def sgErr (h : Hd) (b : List UInt8) : Nat := if h.proto = 6 then sgTcp h b else if h.proto = 17 then sgUdp h b else 6
def sgHd (h : Hd) (b : List UInt8) : Sg := if h.proto = 6 then ⟨num2 b 0, num2 b 2, b.getD 13 0, 16, false, (sgN b : Nat)⟩ else ⟨num2 b 0, num2 b 2, 0, 6, decide (num2 b 6 = 0), 8⟩
def sgRead (h : Hd) (b : List UInt8) : Sg := if sgErr h b = 0 then sgHd h b else Sg.none
theorem sgPorts_lt (b : List UInt8) : sgPorts b < 13 := by unfold sgPorts; split <;> omega
theorem sgErr_lt (h : Hd) (b : List UInt8) : sgErr h b < 13 := by
  have := sgPorts_lt b
  unfold sgErr sgTcp sgUdp
  repeat' split
  all_goals omega
/-- Whether there may be a segment; its bytes, with any sum; its own sum. -/
def sgMay (h : Hd) (s : Sg) : Bool := s.src != 0 && s.dst != 0 && h.src.good && h.dst.good && (h.src.six == h.six) && (h.dst.six == h.six)
def sgRaw (h : Hd) (s : Sg) (data : List UInt8) (n : Nat) : List UInt8 :=
  if h.proto = 6 then (be 2 s.src ++ be 2 s.dst ++ [0, 0, 0, 0, 0, 0, 0, 0, 80, s.flags, 0, 0]) ++ (be 2 n ++ ([0, 0] ++ data)) else (be 2 s.src ++ be 2 s.dst ++ be 2 (8 + data.length)) ++ (be 2 n ++ data)
def sgBare (h : Hd) (s : Sg) : Bool := decide (h.proto = 17) && s.zero && !h.six
def sgOwn (h : Hd) (s : Sg) (data : List UInt8) : Nat := sumOf (sgPseudo h (sgRaw h s data 0).length ++ sgRaw h s data 0)
def sgSum (h : Hd) (s : Sg) (data : List UInt8) : Nat := if sgBare h s = true then 0 else if sgOwn h s data = 0 ∧ h.proto = 17 then 65535 else sgOwn h s data
def sgBytes (h : Hd) (s : Sg) (data : List UInt8) : List UInt8 := sgRaw h s data (sgSum h s data)
theorem sgSum_le (h : Hd) (s : Sg) (data : List UInt8) : sgSum h s data ≤ 65535 := by
  have := sumOf_le (sgPseudo h (sgRaw h s data 0).length ++ sgRaw h s data 0)
  unfold sgSum sgOwn
  repeat' split
  all_goals omega
theorem sgRaw_length (h : Hd) (s : Sg) (data : List UInt8) (n : Nat) : (sgRaw h s data n).length = (if h.proto = 6 then 20 else 8) + data.length := by
  unfold sgRaw
  split <;> simp [be_length] <;> omega
theorem tot_be2 (n : Nat) (h : n < 65536) : tot (be 2 n) = n := by
  rw [be2, tot_two]
  have := num2_be n h
  omega
theorem tot_mid (l m : List UInt8) (n : Nat) (hl : l.length % 2 = 0) (h : n < 65536) : tot (l ++ (be 2 n ++ m)) = tot (l ++ (be 2 0 ++ m)) + n := by
  rw [tot_append _ _ hl, tot_append _ _ hl, tot_append _ _ (by rw [be_length]), tot_append _ _ (by rw [be_length]), tot_be2 n h, tot_be2 0 (by omega)]
  omega
theorem own_length {a : Ad} (h : a.Wide) : a.own.length = if a.six then 16 else 4 := by
  have : a.b.length = 16 := h
  unfold Ad.own Ad.from
  split <;> simp [this]
theorem sgPseudo_length {h : Hd} (hw : h.Wide) (n : Nat) : (sgPseudo h n).length % 2 = 0 ∧ (sgPseudo h n).length ≤ 40 ∧ 12 ≤ (sgPseudo h n).length := by
  have h1 := own_length hw.1
  have h2 := own_length hw.2
  unfold sgPseudo
  simp only [List.length_append, h1, h2]
  split <;> split <;> split <;> simp [be_length]
/-- With its own sum a segment is good. -/
theorem sum_full (t n : Nat) (hn : n = 65535 - fo t ∨ (n = 65535 ∧ fo t = 65535)) : 65535 - fo (t + n) = 0 := by
  have h1 := fo_le t
  have h2 := fo_mod t
  have h3 := fo_pos t
  have : fo (t + n) = 65535 := by
    apply fo_full
    · rcases hn with rfl | ⟨rfl, e⟩ <;> omega
    · rcases hn with rfl | ⟨rfl, e⟩ <;> omega
  omega
theorem sgRaw_tot (h : Hd) (hw : h.Wide) (s : Sg) (data : List UInt8) (k n : Nat) (hn : n < 65536) : tot (sgPseudo h k ++ sgRaw h s data n) = tot (sgPseudo h k ++ sgRaw h s data 0) + n := by
  have hp := (sgPseudo_length hw k).1
  have key : ∀ M T : List UInt8, M.length % 2 = 0 → tot (sgPseudo h k ++ (M ++ (be 2 n ++ T))) = tot (sgPseudo h k ++ (M ++ (be 2 0 ++ T))) + n := fun M T hM => by
    have := tot_mid (sgPseudo h k ++ M) T n (by rw [List.length_append]; omega) hn
    simpa only [List.append_assoc] using this
  unfold sgRaw
  split
  · exact key _ _ (by simp [be_length])
  · exact key _ _ (by simp [be_length])
theorem sgBytes_good (h : Hd) (hw : h.Wide) (s : Sg) (data : List UInt8) (hb : sgBare h s = false) : sumOf (sgPseudo h (sgBytes h s data).length ++ sgBytes h s data) = 0 := by
  have hs := sgSum_le h s data
  have hl : (sgBytes h s data).length = (sgRaw h s data 0).length := by unfold sgBytes; rw [sgRaw_length, sgRaw_length]
  rw [hl]
  unfold sgBytes sumOf
  rw [sgRaw_tot h hw s data _ _ (by omega)]
  apply sum_full
  unfold sgSum
  rw [hb, if_neg (by simp)]
  split
  · rename_i h0
    refine .inr ⟨rfl, ?_⟩
    have := h0.1
    unfold sgOwn sumOf at this
    have := fo_le (tot (sgPseudo h (sgRaw h s data 0).length ++ sgRaw h s data 0))
    omega
  · exact .inl rfl
theorem sgBytes_length (h : Hd) (s : Sg) (data : List UInt8) : (sgBytes h s data).length = (if h.proto = 6 then 20 else 8) + data.length := sgRaw_length ..
theorem sgMay_parts {h : Hd} {s : Sg} (hm : sgMay h s = true) : s.src ≠ 0 ∧ s.dst ≠ 0 ∧ h.src.good = true ∧ h.dst.good = true ∧ h.src.six = h.six ∧ h.dst.six = h.six := by
  unfold sgMay at hm
  simp only [Bool.and_eq_true, bne_iff_ne, ne_eq, beq_iff_eq] at hm
  obtain ⟨⟨⟨⟨⟨h1, h2⟩, h3⟩, h4⟩, h5⟩, h6⟩ := hm
  exact ⟨h1, h2, h3, h4, h5, h6⟩
/-- The fields of a segment's bytes. -/
theorem sgRaw_tcp {h : Hd} (h6 : h.proto = 6) (s : Sg) (data : List UInt8) (n : Nat) : sgRaw h s data n = [UInt8.ofNat (s.src / 256), UInt8.ofNat s.src, UInt8.ofNat (s.dst / 256), UInt8.ofNat s.dst, 0, 0, 0, 0, 0, 0, 0, 0, 80, s.flags, 0, 0, UInt8.ofNat (n / 256), UInt8.ofNat n, 0, 0] ++ data := by
  unfold sgRaw
  rw [if_pos h6, be2, be2, be2]
  rfl
theorem sgRaw_udp {h : Hd} (h6 : h.proto ≠ 6) (s : Sg) (data : List UInt8) (n : Nat) : sgRaw h s data n = [UInt8.ofNat (s.src / 256), UInt8.ofNat s.src, UInt8.ofNat (s.dst / 256), UInt8.ofNat s.dst, UInt8.ofNat ((8 + data.length) / 256), UInt8.ofNat (8 + data.length), UInt8.ofNat (n / 256), UInt8.ofNat n] ++ data := by
  unfold sgRaw
  rw [if_neg h6, be2, be2, be2, be2]
  rfl
theorem sgRaw_ports (h : Hd) (s : Sg) (hs : s.src < 65536 ∧ s.dst < 65536) (data : List UInt8) (n : Nat) : num2 (sgRaw h s data n) 0 = s.src ∧ num2 (sgRaw h s data n) 2 = s.dst := by
  by_cases h6 : h.proto = 6
  · rw [sgRaw_tcp h6]
    exact ⟨num2_be _ hs.1, num2_be _ hs.2⟩
  · rw [sgRaw_udp h6]
    exact ⟨num2_be _ hs.1, num2_be _ hs.2⟩
theorem sgSum_udp {h : Hd} {s : Sg} {data : List UInt8} (h17 : h.proto = 17) : sgSum h s data = 0 ↔ sgBare h s = true := by
  unfold sgSum
  split
  · simp [*]
  · rename_i hb
    split
    · simp [hb]
    · rename_i h0
      constructor
      · intro e; exact absurd ⟨e, h17⟩ h0
      · intro e; exact absurd e hb
/-- Read of Write. -/
def sgBackHd (h : Hd) (s : Sg) : Sg := if h.proto = 6 then ⟨s.src, s.dst, s.flags, 16, false, 20⟩ else ⟨s.src, s.dst, 0, 6, sgBare h s, 8⟩
theorem sgBack (h : Hd) (hw : h.Wide) (s : Sg) (hs : s.src < 65536 ∧ s.dst < 65536) (hp : h.proto = 6 ∨ h.proto = 17) (hm : sgMay h s = true) (data : List UInt8) (hd : data.length ≤ 1900) : sgErr h (sgBytes h s data) = 0 ∧ sgRead h (sgBytes h s data) = sgBackHd h s := by
  obtain ⟨m1, m2, _⟩ := sgMay_parts hm
  have hl := sgBytes_length h s data
  have hsum := sgSum_le h s data
  obtain ⟨p1, p2⟩ := sgRaw_ports h s hs data (sgSum h s data)
  have hpp : sgPorts (sgBytes h s data) = 0 := by
    unfold sgPorts sgBytes
    rw [p1, p2, if_neg (by omega)]
  have key : sgErr h (sgBytes h s data) = 0 ∧ sgHd h (sgBytes h s data) = sgBackHd h s := by
    rcases hp with h6 | h17
    · have hb : sgBare h s = false := by unfold sgBare; rw [h6]; rfl
      have hok : sgOk h (sgBytes h s data) = true := decide_eq_true (sgBytes_good h hw s data hb)
      rw [if_pos h6] at hl
      have hN : sgN (sgBytes h s data) = 20 := by
        unfold sgN sgBytes
        rw [sgRaw_tcp h6]
        show (80 : UInt8).toNat / 16 * 4 = 20
        decide
      have hf : (sgBytes h s data).getD 13 0 = s.flags := by
        unfold sgBytes
        rw [sgRaw_tcp h6]
        rfl
      constructor
      · unfold sgErr sgTcp
        rw [if_pos h6, hl, hN, if_neg (by omega), if_neg (by omega), if_neg (by omega), if_pos hok, hpp]
      · unfold sgHd sgBackHd
        rw [if_pos h6, if_pos h6, hN, hf]
        unfold sgBytes
        rw [p1, p2]
        rfl
    · have h6 : h.proto ≠ 6 := by rw [h17]; decide
      rw [if_neg h6] at hl
      have h4 : num2 (sgBytes h s data) 4 = 8 + data.length := by
        unfold sgBytes
        rw [sgRaw_udp h6]
        exact num2_be _ (by omega)
      have h66 : num2 (sgBytes h s data) 6 = sgSum h s data := by
        unfold sgBytes
        rw [sgRaw_udp h6]
        exact num2_be _ (by omega)
      have hz := sgSum_udp (h := h) (s := s) (data := data) h17
      constructor
      · unfold sgErr sgUdp
        rw [if_neg h6, if_pos h17, hl, h4, h66, if_neg (by omega), if_neg (by omega), if_neg (by omega), if_neg (by omega), hpp]
        by_cases hb : sgBare h s = true
        · rw [if_pos (hz.2 hb)]
          have : h.six = false := by
            unfold sgBare at hb
            simp at hb
            exact hb.2
          rw [this]
          rfl
        · have hb' : sgBare h s = false := by simpa using hb
          have hok : sgOk h (sgBytes h s data) = true := decide_eq_true (sgBytes_good h hw s data hb')
          rw [if_neg (fun e => hb (hz.1 e)), if_pos hok]
      · unfold sgHd sgBackHd
        rw [if_neg h6, if_neg h6, h66]
        unfold sgBytes
        rw [p1, p2]
        congr 1
        by_cases hb : sgBare h s = true
        · rw [hb, decide_eq_true (hz.2 hb)]
        · rw [decide_eq_false (fun e => hb (hz.1 e))]
          simpa using hb
  refine ⟨key.1, ?_⟩
  unfold sgRead
  rw [if_pos key.1, key.2]
/-- One byte is another one: the sum tells. -/
theorem sgOk_set (h : Hd) (b : List UInt8) (k : Nat) (x y : UInt8) (hx : b[k]? = some x) (hne : y ≠ x) (hg : sumOf (sgPseudo h b.length ++ b) = 0) : sgOk h (b.set k y) = false := by
  unfold sgOk
  apply decide_eq_false
  rw [List.length_set]
  have e : sgPseudo h b.length ++ b.set k y = (sgPseudo h b.length ++ b).set ((sgPseudo h b.length).length + k) y := by
    rw [List.set_append_right _ _ (by omega), Nat.add_sub_cancel_left]
  rw [e]
  exact sumOf_set _ _ x y (by rw [List.getElem?_append_right (by omega), Nat.add_sub_cancel_left]; exact hx) hne hg
theorem num2_set {b : List UInt8} {k : Nat} {y : UInt8} {j : Nat} (h1 : k ≠ j) (h2 : k ≠ j + 1) : num2 (b.set k y) j = num2 b j := by
  unfold num2
  simp only [List.getD_eq_getElem?_getD, List.getElem?_set_ne h1, List.getElem?_set_ne h2]
theorem num2_spoilt {b : List UInt8} {k : Nat} {x y : UInt8} {j : Nat} (hx : b[k]? = some x) (hne : y ≠ x) (h : k = j ∨ k = j + 1) : num2 (b.set k y) j ≠ num2 b j := by
  have hk := (List.getElem?_eq_some_iff.1 hx).1
  have hxy : x.toNat ≠ y.toNat := fun e => hne (UInt8.toNat_inj.1 e).symm
  unfold num2
  rcases h with rfl | rfl
  · simp only [List.getD_eq_getElem?_getD, List.getElem?_set_self hk, List.getElem?_set_ne (show k ≠ k + 1 by omega), hx, Option.getD_some]
    omega
  · simp only [List.getD_eq_getElem?_getD, List.getElem?_set_self hk, List.getElem?_set_ne (show j + 1 ≠ j by omega), hx, Option.getD_some]
    omega
/-- A segment with a sum of which one byte is another one is none, as long as it has one still. -/
theorem sgSpoilt (h : Hd) (hw : h.Wide) (s : Sg) (hs : s.src < 65536 ∧ s.dst < 65536) (hz : s.zero = false) (hp : h.proto = 6 ∨ h.proto = 17) (hm : sgMay h s = true) (data : List UInt8) (hd : data.length ≤ 1900) (k : Nat) (x y : UInt8) (hx : (sgBytes h s data)[k]? = some x) (hne : y ≠ x) :
    sgErr h ((sgBytes h s data).set k y) = 0 ↔ (sgRead h ((sgBytes h s data).set k y)).zero = true := by
  obtain ⟨m1, m2, _⟩ := sgMay_parts hm
  have hl := sgBytes_length h s data
  have hb : sgBare h s = false := by unfold sgBare; rw [hz]; simp
  have hbad := sgOk_set h _ k x y hx hne (sgBytes_good h hw s data hb)
  have hbn : ¬ sgOk h ((sgBytes h s data).set k y) = true := by rw [hbad]; decide
  constructor
  · intro he
    unfold sgRead
    rw [if_pos he]
    rcases hp with h6 | h17
    · exfalso
      unfold sgErr sgTcp at he
      rw [if_pos h6, if_neg hbn] at he
      repeat' split at he
      all_goals omega
    · have h6 : h.proto ≠ 6 := by rw [h17]; decide
      unfold sgErr sgUdp at he
      rw [if_neg h6, if_pos h17, if_neg hbn] at he
      unfold sgHd
      rw [if_neg h6]
      apply decide_eq_true
      by_cases h0 : num2 ((sgBytes h s data).set k y) 6 = 0
      · exact h0
      · exfalso
        rw [if_neg h0] at he
        repeat' split at he
        all_goals omega
  · intro hzr
    unfold sgRead at hzr
    split at hzr
    · assumption
    · exact absurd hzr (by decide)
/-- Between other addresses. -/
theorem sgOther (h : Hd) (hw : h.Wide) (s : Sg) (hs : s.src < 65536 ∧ s.dst < 65536) (hz : s.zero = false) (hp : h.proto = 6 ∨ h.proto = 17) (hm : sgMay h s = true) (data : List UInt8) (hd : data.length ≤ 1900) (x y : UInt8) (hx : h.dst.b[15]? = some x) (hne : y ≠ x) :
    sgErr ⟨h.six, h.proto, h.pos, h.src, ⟨h.dst.six, h.dst.b.set 15 y⟩, h.part, h.hops⟩ (sgBytes h s data) = 5 := by
  obtain ⟨h', hh'⟩ : ∃ h' : Hd, h' = ⟨h.six, h.proto, h.pos, h.src, ⟨h.dst.six, h.dst.b.set 15 y⟩, h.part, h.hops⟩ := ⟨_, rfl⟩
  have hb : sgBare h s = false := by unfold sgBare; rw [hz]; simp
  have hg := sgBytes_good h hw s data hb
  obtain ⟨e0, _⟩ := sgBack h hw s hs hp hm data hd
  have hok : sgOk h' (sgBytes h s data) = false := by
    unfold sgOk
    apply decide_eq_false
    have ho : h'.dst.own = h.dst.own.set (15 - h.dst.from) y := by
      have hf : h'.dst.from = h.dst.from := by rw [hh']; rfl
      unfold Ad.own
      rw [hf, hh']
      show (h.dst.b.set 15 y).drop _ = _
      have hf15 : h.dst.from ≤ 15 := by unfold Ad.from; split <;> omega
      rw [List.drop_set, if_neg (by omega)]
    have hol : 15 - h.dst.from < h.dst.own.length := by
      rw [own_length hw.2]
      unfold Ad.from
      by_cases c : h.dst.six = true <;> simp [c]
    have hps : ∀ n, sgPseudo h' n = (sgPseudo h n).set (h.src.own.length + (15 - h.dst.from)) y := fun n => by
      unfold sgPseudo
      rw [List.set_append_right _ _ (by omega), Nat.add_sub_cancel_left, List.set_append_left _ _ hol, ho, hh']
    rw [hps]
    have hpl : h.src.own.length + (15 - h.dst.from) < (sgPseudo h (sgBytes h s data).length).length := by
      unfold sgPseudo
      rw [List.length_append, List.length_append]
      omega
    rw [← List.set_append_left _ _ hpl]
    refine sumOf_set _ _ x y ?_ hne hg
    rw [List.getElem?_append_left hpl]
    unfold sgPseudo
    rw [List.getElem?_append_right (by omega), Nat.add_sub_cancel_left, List.getElem?_append_left hol]
    unfold Ad.own
    rw [List.getElem?_drop]
    have hf15 : h.dst.from ≤ 15 := by unfold Ad.from; split <;> omega
    rw [show h.dst.from + (15 - h.dst.from) = 15 by omega]
    exact hx
  have hokh : sgOk h (sgBytes h s data) = true := decide_eq_true hg
  have hokn : ¬ sgOk h' (sgBytes h s data) = true := by rw [hok]; decide
  have hpr : h'.proto = h.proto := by rw [hh']
  have hsx : h'.six = h.six := by rw [hh']
  rw [← hh']
  unfold sgErr sgTcp sgUdp at e0 ⊢
  rw [hpr, hsx, if_neg hokn]
  rw [if_pos hokh] at e0
  rcases hp with h6 | h17
  · rw [if_pos h6] at e0 ⊢
    repeat' split at e0
    all_goals first | omega | skip
    all_goals (rename_i a1 a2 a3; rw [if_neg a1, if_neg a2, if_neg a3])
  · have h6 : h.proto ≠ 6 := by rw [h17]; decide
    have h66 : num2 (sgBytes h s data) 6 ≠ 0 := by
      have hle := sgSum_le h s data
      have : num2 (sgBytes h s data) 6 = sgSum h s data := by
        unfold sgBytes
        rw [sgRaw_udp h6]
        exact num2_be _ (by omega)
      rw [this]
      intro e
      rw [(sgSum_udp h17).1 e] at hb
      exact absurd hb (by decide)
    rw [if_neg h6, if_pos h17, if_neg h66] at e0 ⊢
    repeat' split at e0
    all_goals first | omega | skip
    all_goals (rename_i a1 a2 a3 a4; rw [if_neg a1, if_neg a2, if_neg a3, if_neg a4])
end Go.Proofs.Ytejppekcniehpaa
