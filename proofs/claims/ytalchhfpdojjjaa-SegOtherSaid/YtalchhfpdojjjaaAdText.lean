/-
  Addresses as plain mathematics: their texts, and what texts say.
-/
import Derived.Test.YtalchhfpdojjjaaAdDig
namespace Go.Proofs.Ytalchhfpdojjjaa
/-- An address: of IPv6 or not, its sixteen bytes. -/
structure Ad where
  six : Bool
  b : List UInt8
def Ad.zero : Ad := ⟨false, List.replicate 16 0⟩
def Ad.Wide (a : Ad) : Prop := a.b.length = 16
def Ad.good (a : Ad) : Bool := a.six || a.b.take 12 == List.replicate 12 0
def Ad.from (a : Ad) : Nat := if a.six then 0 else 12
def Ad.own (a : Ad) : List UInt8 := a.b.drop a.from
def siz (six : Bool) : Nat := if six then 2 else 1
def bas (six : Bool) : Nat := if six then 16 else 10
def mrk (six : Bool) : UInt8 := if six then 58 else 46
/-- The numbers that an address's bytes say. -/
def nums (six : Bool) (l : List UInt8) : List Nat := (List.range (l.length / siz six)).map fun k => ofBe ((l.drop (k * siz six)).take (siz six)) 0
def shown (six : Bool) (l : List UInt8) : List UInt8 := Lib.join ((nums six l).map (digs (bas six))) [mrk six]
def Ad.show (a : Ad) : List UInt8 := if a.good then shown a.six a.own else []
def readN (six : Bool) (l : List UInt8) : Option Nat := if six then (match hex16 l with | .ok n => some n | _ => none) else (match Lib.parseUintB 8 l with | .ok n => some n | _ => none)
def readL (six : Bool) : List (List UInt8) → Option (List UInt8)
  | [] => some []
  | p :: r => match readN six p with
    | some n => (readL six r).map (be (siz six) n ++ ·)
    | none => none
def reads (six : Bool) (s : List UInt8) : List UInt8 := (readL six (Lib.split s [mrk six])).getD []
def adBytes (b : List UInt8) : Option Ad := if b.length = 4 then some ⟨false, List.replicate 12 0 ++ b⟩ else if b.length = 16 then some ⟨true, b⟩ else none
theorem be_ofBe' : ∀ (k : Nat) (l : List UInt8) (m : Nat), l.length = k → be k (ofBe l m) = l
  | 0, l, m, h => by
    have : l = [] := List.eq_nil_of_length_eq_zero h
    subst this
    rfl
  | k + 1, l, m, h => by
    have hne : l ≠ [] := by intro e; subst e; simp at h
    have hl := List.dropLast_concat_getLast hne
    have hx := (l.getLast hne).toNat_lt
    rw [← hl, ofBe_snoc, be, show (ofBe l.dropLast m * 256 + (l.getLast hne).toNat) / 256 = ofBe l.dropLast m by omega, be_ofBe' k l.dropLast m (by rw [List.length_dropLast]; omega)]
    congr 2
    apply UInt8.toNat_inj.1
    rw [UInt8.toNat_ofNat']
    omega
theorem be_ofBe (l : List UInt8) (m : Nat) : be l.length (ofBe l m) = l := be_ofBe' _ l m rfl
theorem siz_pos (six : Bool) : 1 ≤ siz six ∧ siz six ≤ 2 := by cases six <;> simp [siz]
theorem bas_ok (six : Bool) : 2 ≤ bas six ∧ bas six ≤ 16 := by cases six <;> simp [bas]
theorem nums_more {six : Bool} {c r : List UInt8} (hc : c.length = siz six) : nums six (c ++ r) = ofBe c 0 :: nums six r := by
  have hp := siz_pos six
  have hd : (c ++ r).length / siz six = r.length / siz six + 1 := by
    rw [List.length_append, hc, Nat.add_comm, Nat.add_div_right _ (by omega)]
  rw [nums, hd, List.range_succ_eq_map, List.map_cons, List.map_map, nums]
  congr 1
  · rw [Nat.zero_mul, List.drop_zero, ← hc, List.take_left' rfl]
  · refine List.map_congr_left fun k _ => ?_
    simp only [Function.comp]
    rw [show (k + 1) * siz six = c.length + k * siz six by rw [Nat.add_mul, hc]; omega, ← List.drop_drop, List.drop_left' rfl]
theorem nums_nil (six : Bool) : nums six [] = [] := by simp [nums]
theorem nums_length (six : Bool) (l : List UInt8) : (nums six l).length = l.length / siz six := by simp [nums]
theorem readN_digs {six : Bool} {n : Nat} (h : n < 256 ^ siz six) : readN six (digs (bas six) n) = some n := by
  cases six
  · have := dec8_digs (n := n) (by simp [siz] at h; omega)
    simp only [readN, Bool.false_eq_true, if_false, bas, this]
  · have := hex16_digs (n := n) (by simp [siz] at h; omega)
    simp only [readN, if_true, bas, this]
theorem readL_nums {six : Bool} : ∀ (m : Nat) (l : List UInt8), l.length = m * siz six → readL six ((nums six l).map (digs (bas six))) = some l
  | 0, l, h => by
    have : l = [] := List.eq_nil_of_length_eq_zero (by omega)
    subst this
    rw [nums_nil]; rfl
  | m + 1, l, h => by
    have hp := siz_pos six
    have hs : siz six ≤ l.length := by rw [h, Nat.add_mul]; omega
    have hc : (l.take (siz six)).length = siz six := by rw [List.length_take]; omega
    have hlt : ofBe (l.take (siz six)) 0 < 256 ^ siz six := by
      have := ofBe_lt (l.take (siz six)) 0 0 (by simp)
      rw [hc, Nat.zero_add] at this
      exact this
    have ih := readL_nums m (l.drop (siz six)) (by rw [List.length_drop, h, Nat.add_mul, Nat.one_mul, Nat.add_sub_cancel])
    have hn := nums_more (six := six) (c := l.take (siz six)) (r := l.drop (siz six)) hc
    rw [List.take_append_drop] at hn
    rw [hn, List.map_cons, readL, readN_digs hlt]
    dsimp only
    rw [ih]
    have hb := be_ofBe (l.take (siz six)) 0
    rw [hc] at hb
    rw [hb, Option.map_some, List.take_append_drop]
theorem Ad.own_length {a : Ad} (h : a.Wide) : a.own.length = if a.six then 16 else 4 := by
  rw [Ad.own, List.length_drop, h, Ad.from]
  cases a.six <;> rfl
theorem Ad.own_many {a : Ad} (h : a.Wide) : a.own.length = (if a.six then 8 else 4) * siz a.six := by
  rw [a.own_length h]
  cases a.six <;> rfl
theorem Ad.own_nums {a : Ad} (h : a.Wide) : (nums a.six a.own).length = if a.six then 8 else 4 := by
  rw [nums_length, a.own_length h]
  cases a.six <;> rfl
theorem mrk_plain {six : Bool} {l : List UInt8} (h : Plain l) : ∀ x ∈ l, x ≠ mrk six := by
  intro x hx
  cases six
  · exact (h x hx).2.1
  · exact (h x hx).1
theorem reads_shown {six : Bool} {l : List UInt8} {m : Nat} (h : l.length = m * siz six) (hm : 1 ≤ m) : reads six (shown six l) = l := by
  have hp := siz_pos six
  have hne : (nums six l).map (digs (bas six)) ≠ [] := by
    intro e
    have := congrArg List.length e
    rw [List.length_map, nums_length, h, Nat.mul_div_cancel _ (by omega)] at this
    simp at this
    omega
  rw [reads, shown, split_join hne fun x hx => ?_, readL_nums m l h]
  · rfl
  · obtain ⟨n, _, rfl⟩ := List.mem_map.1 hx
    exact mrk_plain (digs_plain (bas_ok six).1 (bas_ok six).2 n)
theorem nums_lt {six : Bool} {l : List UInt8} {n : Nat} (h : n ∈ nums six l) : n < 256 ^ siz six := by
  obtain ⟨k, _, rfl⟩ := List.mem_map.1 h
  have := ofBe_lt ((l.drop (k * siz six)).take (siz six)) 0 0 (by simp)
  exact Nat.lt_of_lt_of_le this (Nat.pow_le_pow_right (by omega) (by rw [Nat.zero_add, List.length_take]; omega))
theorem shown_mem {six : Bool} {l : List UInt8} {x : UInt8} (h : x ∈ shown six l) : x = mrk six ∨ (x ≠ 58 ∧ x ≠ 46 ∧ x ≠ 47) := by
  rcases join_mem h with h | ⟨p, hp, hx⟩
  · exact Or.inl h
  · obtain ⟨n, _, rfl⟩ := List.mem_map.1 hp
    exact Or.inr (digs_plain (bas_ok six).1 (bas_ok six).2 n x hx)
theorem shown_slash {six : Bool} {l : List UInt8} : ∀ x ∈ shown six l, x ≠ 47 := by
  intro x hx
  rcases shown_mem hx with h | h
  · rw [h]; cases six <;> decide
  · exact h.2.2
theorem digs_short6 {six : Bool} {n : Nat} (h : n < 256 ^ siz six) : (digs (bas six) n).length ≤ if six then 4 else 3 := by
  cases six
  · exact digs_short (by decide) 3 n (by omega) (by simp [siz] at h; simp [bas]; omega)
  · exact digs_short (by decide) 4 n (by omega) (by simp [siz] at h; simp [bas]; omega)
/-- The text of a good address. -/
theorem Ad.show_good {a : Ad} (h : a.good = true) : a.show = shown a.six a.own := by rw [Ad.show, if_pos h]
theorem Ad.show_long {a : Ad} (hw : a.Wide) : a.show.length ≤ 39 := by
  rw [Ad.show]
  split
  · have hl := Ad.own_nums hw
    -- eight numbers of four digits, or four of three, and the marks between
    have key : ∀ (c : UInt8) (m : Nat) (ls : List (List UInt8)), ls ≠ [] → (∀ l ∈ ls, l.length ≤ m) → (Lib.join ls [c]).length + 1 ≤ ls.length * (m + 1) := by
      intro c m ls
      induction ls with
      | nil => intro h; exact absurd rfl h
      | cons x r ih =>
        intro _ h
        cases r with
        | nil => rw [Lib.join_one]; have := h x (by simp); simp; omega
        | cons y r =>
          have h1 := h x (by simp)
          have h2 := ih (by simp) fun l hl => h l (List.mem_cons_of_mem _ hl)
          rw [join_more, List.length_append, List.length_append, List.length_singleton]
          simp only [List.length_cons, Nat.add_mul] at h2 ⊢
          omega
    have k2 := key (mrk a.six) (if a.six then 4 else 3) ((nums a.six a.own).map (digs (bas a.six))) (by
      intro e
      have := congrArg List.length e
      rw [List.length_map, hl] at this
      revert this
      cases a.six <;> simp) (fun l hm => by
      obtain ⟨n, hn, rfl⟩ := List.mem_map.1 hm
      exact digs_short6 (nums_lt hn))
    rw [List.length_map, hl] at k2
    rw [shown]
    cases hs : a.six <;> rw [hs] at k2 <;> simp at k2 ⊢ <;> omega
  · simp
theorem Ad.show_colon {a : Ad} (hw : a.Wide) (hg : a.good = true) : (58 ∈ a.show) ↔ a.six = true := by
  rw [Ad.show_good hg]
  constructor
  · intro h
    rcases shown_mem h with h | h
    · cases hs : a.six
      · rw [hs] at h; exact absurd h (by decide)
      · rfl
    · exact absurd rfl h.1
  · intro h
    have hl := Ad.own_nums hw
    rw [h] at hl ⊢
    obtain ⟨x, y, r, e⟩ : ∃ x y r, nums true a.own = x :: y :: r := by
      match nums true a.own, hl with
      | x :: y :: r, _ => exact ⟨x, y, r, rfl⟩
      | [], h => simp at h
      | [x], h => simp at h
    rw [shown, e, List.map_cons, List.map_cons]
    exact join_has
theorem Ad.reads_show {a : Ad} (hw : a.Wide) (hg : a.good = true) : reads a.six a.show = a.own := by
  rw [Ad.show_good hg]
  exact reads_shown (Ad.own_many hw) (by cases a.six <;> decide)
theorem Ad.bytes_own {a : Ad} (hw : a.Wide) (hg : a.good = true) : adBytes a.own = some a := by
  have hl := a.own_length hw
  obtain ⟨six, b⟩ := a
  cases six
  · simp only [Bool.false_eq_true, if_false] at hl
    rw [adBytes, if_pos hl]
    simp only [Ad.good, Bool.false_or, beq_iff_eq] at hg
    simp only [Ad.own, Ad.from, Bool.false_eq_true, if_false]
    rw [← hg, List.take_append_drop]
  · simp only [if_true] at hl
    rw [adBytes, if_neg (by omega), if_pos hl]
    rfl
theorem adBytes_wide {b : List UInt8} {a : Ad} (h : adBytes b = some a) : a.Wide ∧ a.good = true := by
  rw [adBytes] at h
  split at h
  · rename_i hl
    cases h
    exact ⟨by simp [Ad.Wide, hl], by simp [Ad.good]⟩
  · split at h
    · rename_i hl
      cases h
      exact ⟨hl, rfl⟩
    · cases h
/-- The address whose text this is. -/
def IsAd (s : List UInt8) (a : Ad) : Prop := a.Wide ∧ a.good = true ∧ a.show = s
theorem IsAd.only {s : List UInt8} {a a2 : Ad} (h : IsAd s a) (h2 : IsAd s a2) : a = a2 := by
  obtain ⟨w, g, e⟩ := h
  obtain ⟨w2, g2, e2⟩ := h2
  have hs : a.six = a2.six := by
    have c := Ad.show_colon w g
    have c2 := Ad.show_colon w2 g2
    rw [e] at c
    rw [e2] at c2
    have := c.symm.trans c2
    cases h1 : a.six <;> cases h3 : a2.six <;> rw [h1, h3] at this <;> simp at this <;> rfl
  have r := Ad.reads_show w g
  have r2 := Ad.reads_show w2 g2
  rw [e, hs] at r
  rw [e2] at r2
  have b := Ad.bytes_own w g
  have b2 := Ad.bytes_own w2 g2
  rw [← r, r2, b2] at b
  exact (Option.some.inj b).symm
open Classical in
noncomputable def adOf (s : List UInt8) : Option Ad := if h : ∃ a, IsAd s a then some h.choose else none
theorem adOf_some {s : List UInt8} {a : Ad} (h : IsAd s a) : adOf s = some a := by
  have h' : ∃ a, IsAd s a := ⟨a, h⟩
  rw [adOf, dif_pos h']
  exact congrArg some (h'.choose_spec.only h)
theorem adOf_none {s : List UInt8} (h : ∀ a, ¬ IsAd s a) : adOf s = none := by
  rw [adOf, dif_neg]
  rintro ⟨a, ha⟩
  exact h a ha
theorem adOf_is {s : List UInt8} {a : Ad} (h : adOf s = some a) : IsAd s a := by
  rw [adOf] at h
  split at h
  · rename_i h'
    cases h
    exact h'.choose_spec
  · cases h
/-- What the program makes of a text. -/
theorem adOf_read (s : List UInt8) : adOf s = if s.length ≤ 39 then (match adBytes (reads (decide (58 ∈ s)) s) with | some a => if a.show = s then some a else none | none => none) else none := by
  cases h : adOf s with
  | some a =>
    obtain ⟨w, g, e⟩ := adOf_is h
    have hl := Ad.show_long w
    have c := Ad.show_colon w g
    have r := Ad.reads_show w g
    have b := Ad.bytes_own w g
    rw [e] at hl c r
    have hd : decide (58 ∈ s) = a.six := by
      cases hs : a.six
      · rw [hs] at c; exact decide_eq_false fun hm => by simp at c; exact c hm
      · rw [hs] at c; exact decide_eq_true (c.2 rfl)
    rw [if_pos hl, hd, r, b]
    dsimp only
    rw [if_pos e]
  | none =>
    split
    · cases hb : adBytes (reads (decide (58 ∈ s)) s) with
      | none => rfl
      | some a =>
        dsimp only
        split
        · rename_i e
          obtain ⟨w, g⟩ := adBytes_wide hb
          rw [adOf_some ⟨w, g, e⟩] at h
          cases h
        · rfl
    · rfl
end Go.Proofs.Ytalchhfpdojjjaa
