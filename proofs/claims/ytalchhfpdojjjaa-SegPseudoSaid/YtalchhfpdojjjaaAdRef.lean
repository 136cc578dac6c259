/-
  What the document's own readers of addresses and prefixes make of a text: plain mathematics.
-/
import Derived.Test.YtalchhfpdojjjaaAdMask
namespace Go.Proofs.Ytalchhfpdojjjaa
/-- A number is laid at its place. -/
def putN (six : Bool) (B : List UInt8) (k n : Nat) : List UInt8 :=
  if six then (if k < 8 then (B.set (2 * k) (UInt8.ofNat (n / 256))).set (2 * k + 1) (UInt8.ofNat (n % 256)) else B)
  else (if k < 4 then B.set (12 + k) (UInt8.ofNat (n % 256)) else B)
/-- The bytes, the number at hand, how many are laid. -/
structure RSt where
  B : List UInt8
  n : Nat
  k : Nat
def RSt.mark (six : Bool) (t : RSt) : RSt := ⟨putN six t.B t.k t.n, 0, t.k + 1⟩
def RSt.step (six : Bool) (t : RSt) (c : UInt8) : RSt := if c = 58 ∨ c = 46 then t.mark six else ⟨t.B, addDig (bas six) 65536 t.n c, t.k⟩
def RSt.new : RSt := ⟨List.replicate 16 0, 0, 0⟩
def rread (six : Bool) (s : List UInt8) : Ad := ⟨six, ((s.foldl (RSt.step six) RSt.new).mark six).B⟩
/-- What stays so. -/
def RSt.Ok (six : Bool) (t : RSt) : Prop := t.B.length = 16 ∧ (six = true ∨ t.B.take 12 = List.replicate 12 0) ∧ t.n < 65536
theorem putN_ok {six : Bool} {B : List UInt8} {k n : Nat} (h : B.length = 16) (h2 : six = true ∨ B.take 12 = List.replicate 12 0) : (putN six B k n).length = 16 ∧ (six = true ∨ (putN six B k n).take 12 = List.replicate 12 0) := by
  unfold putN
  cases six
  · simp only [Bool.false_eq_true, if_false, false_or] at h2 ⊢
    split
    · refine ⟨by simp [h], ?_⟩
      rw [List.take_set, List.set_eq_of_length_le (by rw [List.length_take]; omega), h2]
    · exact ⟨h, h2⟩
  · simp only [if_true, true_or, and_true]
    split
    · simp [h]
    · exact h
theorem RSt.Ok.mark {six : Bool} {t : RSt} (h : t.Ok six) : (t.mark six).Ok six := ⟨(putN_ok h.1 h.2.1).1, (putN_ok h.1 h.2.1).2, by show 0 < 65536; omega⟩
theorem addDig_lt {base M n : Nat} (h : n < M) (c : UInt8) : addDig base M n c < M := by
  unfold addDig
  split
  · split
    · exact Nat.mod_lt _ (by omega)
    · exact h
  · exact h
theorem RSt.Ok.step {six : Bool} {t : RSt} (h : t.Ok six) (c : UInt8) : (t.step six c).Ok six := by
  unfold RSt.step
  split
  · exact h.mark
  · exact ⟨h.1, h.2.1, addDig_lt h.2.2 c⟩
theorem RSt.ok_new (six : Bool) : RSt.new.Ok six := ⟨by decide, Or.inr (by decide), by decide⟩
theorem RSt.Ok.fold {six : Bool} : ∀ (s : List UInt8) {t : RSt}, t.Ok six → (s.foldl (RSt.step six) t).Ok six
  | [], _, h => h
  | c :: s, _, h => RSt.Ok.fold s (h.step c)
theorem RSt.step_k {six : Bool} : ∀ (s : List UInt8) (t : RSt), (s.foldl (RSt.step six) t).k ≤ t.k + s.length
  | [], _ => Nat.le_refl _
  | c :: s, t => by
    have ih := RSt.step_k (six := six) s (t.step six c)
    have : (t.step six c).k ≤ t.k + 1 := by
      unfold RSt.step
      split
      · exact Nat.le_refl _
      · exact Nat.le_succ _
    simp only [List.foldl_cons, List.length_cons]
    omega
theorem rread_ok (six : Bool) (s : List UInt8) : (rread six s).Wide ∧ (rread six s).good = true := by
  have h := ((RSt.ok_new six).fold s).mark
  refine ⟨h.1, ?_⟩
  rcases h.2.1 with e | e
  · show (six || _) = true
    rw [e, Bool.true_or]
  · show (six || (((s.foldl (RSt.step six) RSt.new).mark six).B.take 12 == List.replicate 12 0)) = true
    rw [e]
    simp
theorem fold_plain {six : Bool} {l : List UInt8} (h : Plain l) : ∀ (t : RSt), l.foldl (RSt.step six) t = ⟨t.B, l.foldl (addDig (bas six) 65536) t.n, t.k⟩ := by
  induction l with
  | nil => intro t; rfl
  | cons c l ih =>
    intro t
    have hc := h c (by simp)
    rw [List.foldl_cons, RSt.step, if_neg (by simp [hc.1, hc.2.1]), ih fun x hx => h x (List.mem_cons_of_mem _ hx), List.foldl_cons]
/-- The numbers of a text laid one by one. -/
theorem fold_join {six : Bool} : ∀ (ns : List Nat), ns ≠ [] → (∀ n ∈ ns, n < 65536) → ∀ (B : List UInt8) (k : Nat),
    ((Lib.join (ns.map (digs (bas six))) [mrk six]).foldl (RSt.step six) ⟨B, 0, k⟩).mark six = ⟨(ns.foldl (fun (x : List UInt8 × Nat) n => (putN six x.1 x.2 n, x.2 + 1)) (B, k)).1, 0, k + ns.length⟩
  | [], h, _, _, _ => absurd rfl h
  | [n], _, hn, B, k => by
    have hb := bas_ok six
    rw [List.map_cons, List.map_nil, Lib.join_one, fold_plain (digs_plain hb.1 hb.2 n), addDig_digs hb.1 hb.2, Nat.mod_eq_of_lt (hn n (by simp))]
    rfl
  | n :: m :: r, _, hn, B, k => by
    have hb := bas_ok six
    have hm : (mrk six = 58 ∨ mrk six = 46) := by cases six <;> decide
    rw [List.map_cons, List.map_cons, join_more, List.foldl_append, List.foldl_append, fold_plain (digs_plain hb.1 hb.2 n), addDig_digs hb.1 hb.2, Nat.mod_eq_of_lt (hn n (by simp))]
    simp only [List.foldl_cons, List.foldl_nil]
    rw [RSt.step, if_pos hm]
    have ih := fold_join (six := six) (m :: r) (by simp) (fun x hx => hn x (List.mem_cons_of_mem _ hx)) (putN six B k n) (k + 1)
    rw [List.map_cons] at ih
    have e : RSt.mark six ⟨B, n, k⟩ = ⟨putN six B k n, 0, k + 1⟩ := rfl
    rw [e, ih]
    simp only [List.foldl_cons, List.length_cons]
    congr 1
    omega
theorem ofNat_two (x y : UInt8) : UInt8.ofNat ((x.toNat * 256 + y.toNat) / 256) = x ∧ UInt8.ofNat ((x.toNat * 256 + y.toNat) % 256) = y := by
  have hx := x.toNat_lt
  have hy := y.toNat_lt
  constructor
  · rw [show (x.toNat * 256 + y.toNat) / 256 = x.toNat by omega]; exact UInt8.ofNat_toNat
  · rw [show (x.toNat * 256 + y.toNat) % 256 = y.toNat by omega]; exact UInt8.ofNat_toNat
theorem ofNat_one (x : UInt8) : UInt8.ofNat (x.toNat % 256) = x := by
  have hx := x.toNat_lt
  rw [Nat.mod_eq_of_lt hx]; exact UInt8.ofNat_toNat
theorem list16 {l : List UInt8} (h : l.length = 16) : ∃ a b c d e f g i j k m n o p q r : UInt8, l = [a, b, c, d, e, f, g, i, j, k, m, n, o, p, q, r] := by
  match l, h with
  | [a, b, c, d, e, f, g, i, j, k, m, n, o, p, q, r], _ => exact ⟨a, b, c, d, e, f, g, i, j, k, m, n, o, p, q, r, rfl⟩
theorem rread_show {a : Ad} (hw : a.Wide) (hg : a.good = true) : rread a.six a.show = a := by
  have hne : nums a.six a.own ≠ [] := by
    intro e
    have := Ad.own_nums hw
    rw [e] at this
    revert this
    cases a.six <;> simp
  have hlt : ∀ n ∈ nums a.six a.own, n < 65536 := fun n hn => by
    have := nums_lt hn
    exact Nat.lt_of_lt_of_le this (by cases a.six <;> decide)
  have hf := fold_join (six := a.six) (nums a.six a.own) hne hlt (List.replicate 16 0) 0
  rw [Ad.show_good hg, shown, rread, RSt.new, hf]
  dsimp only
  obtain ⟨six, B⟩ := a
  obtain ⟨a, b, c, d, e, f, g, i, j, k, m, n, o, p, q, r, rfl⟩ := list16 hw
  cases six
  · simp only [Ad.good, Bool.false_or, beq_iff_eq] at hg
    have e1 : nums (Ad.mk false [a, b, c, d, e, f, g, i, j, k, m, n, o, p, q, r]).six (Ad.mk false [a, b, c, d, e, f, g, i, j, k, m, n, o, p, q, r]).own = [o.toNat, p.toNat, q.toNat, r.toNat] := by
      simp [nums, Ad.own, Ad.from, siz, ofBe, List.range_succ]
    rw [e1]
    simp only [List.foldl_cons, List.foldl_nil, putN, Bool.false_eq_true, if_false, Nat.reduceLT, if_true, Nat.reduceAdd, ofNat_one]
    simp only [List.take_succ_cons, List.take_zero, List.replicate, List.cons.injEq, and_true] at hg
    obtain ⟨rfl, rfl, rfl, rfl, rfl, rfl, rfl, rfl, rfl, rfl, rfl, rfl⟩ := hg
    rfl
  · have e1 : nums (Ad.mk true [a, b, c, d, e, f, g, i, j, k, m, n, o, p, q, r]).six (Ad.mk true [a, b, c, d, e, f, g, i, j, k, m, n, o, p, q, r]).own = [a.toNat * 256 + b.toNat, c.toNat * 256 + d.toNat, e.toNat * 256 + f.toNat, g.toNat * 256 + i.toNat, j.toNat * 256 + k.toNat, m.toNat * 256 + n.toNat, o.toNat * 256 + p.toNat, q.toNat * 256 + r.toNat] := by
      simp [nums, Ad.own, Ad.from, siz, ofBe, List.range_succ]
    rw [e1]
    simp only [List.foldl_cons, List.foldl_nil, putN, if_true, Nat.reduceLT, Nat.reduceAdd, Nat.reduceMul, (ofNat_two _ _).1, (ofNat_two _ _).2]
    rfl
/-- What the document's own reader makes of a text. -/
theorem adOf_ref (s : List UInt8) : adOf s = if (rread (decide (58 ∈ s)) s).show = s then some (rread (decide (58 ∈ s)) s) else none := by
  have ok := rread_ok (decide (58 ∈ s)) s
  split
  · rename_i e
    exact adOf_some ⟨ok.1, ok.2, e⟩
  · rename_i e
    cases h : adOf s with
    | none => rfl
    | some a =>
      obtain ⟨w, g, e2⟩ := adOf_is h
      have c := Ad.show_colon w g
      have r := rread_show w g
      rw [e2] at c r
      have hd : decide (58 ∈ s) = a.six := by
        cases hs : a.six
        · rw [hs] at c; exact decide_eq_false fun hm => by simp at c; exact c hm
        · rw [hs] at c; exact decide_eq_true (c.2 rfl)
      rw [hd, r] at e
      exact absurd e2 e
/-- The number that the digits of a text say, kept below 1000. -/
def rbits (l : List UInt8) : Nat := l.foldl (addDig 10 1000) 0
theorem pfOf_ref (s : List UInt8) : pfOf s = if 0 ≤ Lib.index s [47] then (match adOf (s.take (Lib.index s [47]).toNat) with
    | some a => if (Pf.mk a (rbits (s.drop ((Lib.index s [47]).toNat + 1)) : Nat)).show = s then some ⟨a, (rbits (s.drop ((Lib.index s [47]).toNat + 1)) : Nat)⟩ else none
    | none => none) else none := by
  cases h : pfOf s with
  | some p =>
    have hp := pfOf_is h
    have b := Pf.good_bits hp.2.1 hp.1
    have c := hp.cut
    rw [Lib.cut] at c
    split at c
    · rename_i h0
      simp only [Prod.mk.injEq, List.length_singleton] at c
      rw [if_pos h0, c.1, hp.ad, c.2.1]
      dsimp only
      have e : rbits (digs 10 p.bits.toNat) = p.bits.toNat := by rw [rbits, addDig_digs (by omega) (by omega), Nat.mod_eq_of_lt (by omega)]
      have e2 : (Pf.mk p.a ((p.bits.toNat : Nat) : Int)) = p := by rw [Int.toNat_of_nonneg b.1]
      rw [e, e2, if_pos hp.2.2]
    · simp at c
  | none =>
    split
    · split
      · rename_i a ha
        split
        · rename_i e
          rw [pfOf_back ha (by intro e; subst e; rfl) e] at h
          cases h
        · rfl
      · rfl
    · rfl
end Go.Proofs.Ytalchhfpdojjjaa
