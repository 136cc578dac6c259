/-
  Prefixes as plain mathematics: masks, their texts, and what texts say.
-/
import Derived.Test.YtalchhfpdojjjaaAdText
namespace Go.Proofs.Ytalchhfpdojjjaa
/-- The first k bits of a byte. -/
def kb (x : UInt8) (k : Nat) : UInt8 := UInt8.ofNat (x.toNat / 2 ^ (8 - k) * 2 ^ (8 - k))
/-- How many bits of byte i are among the first n. -/
def keep (n i : Nat) : Nat := min 8 (n - 8 * i)
def maskL (n : Nat) (l : List UInt8) : List UInt8 := l.mapIdx fun i x => kb x (keep n i)
structure Pf where
  a : Ad
  bits : Int
deriving instance DecidableEq for Ad
deriving instance DecidableEq for Pf
def Pf.zero : Pf := ⟨Ad.zero, 0⟩
def maskA (a : Ad) (n : Nat) : Ad := ⟨a.six, a.b.take a.from ++ maskL n a.own⟩
def maskOf (a : Ad) (bits : Int) : Option Pf := if a.good = true ∧ 0 ≤ bits ∧ bits ≤ 8 * (a.own.length : Int) then some ⟨maskA a bits.toNat, bits⟩ else none
def Pf.Good (p : Pf) : Prop := maskOf p.a p.bits = some p
instance (p : Pf) : Decidable p.Good := inferInstanceAs (Decidable (maskOf p.a p.bits = some p))
def Pf.show (p : Pf) : List UInt8 := if p.Good then p.a.show ++ 47 :: Lib.decDigits p.bits.toNat else []
theorem kb_all : ∀ x : Fin 256, kb (UInt8.ofNat x.val) 8 = UInt8.ofNat x.val ∧ kb (UInt8.ofNat x.val) 0 = 0 := by decide +kernel
theorem kb_twice : ∀ x : Fin 256, ∀ k : Fin 9, ∀ j : Fin 9, j ≤ k → kb (kb (UInt8.ofNat x.val) k.val) j.val = kb (UInt8.ofNat x.val) j.val := by decide +kernel
theorem kb_eight (x : UInt8) : kb x 8 = x := by
  have := (kb_all ⟨x.toNat, x.toNat_lt⟩).1
  simpa using this
theorem kb_zero (x : UInt8) : kb x 0 = 0 := by
  have := (kb_all ⟨x.toNat, x.toNat_lt⟩).2
  simpa using this
theorem kb_kb (x : UInt8) {k j : Nat} (hk : k ≤ 8) (hj : j ≤ k) : kb (kb x k) j = kb x j := by
  have := kb_twice ⟨x.toNat, x.toNat_lt⟩ ⟨k, by omega⟩ ⟨j, by omega⟩ hj
  simpa using this
theorem keep_le (n i : Nat) : keep n i ≤ 8 := Nat.min_le_left _ _
theorem keep_mono {m n : Nat} (h : m ≤ n) (i : Nat) : keep m i ≤ keep n i := by unfold keep; omega
theorem maskL_length (n : Nat) (l : List UInt8) : (maskL n l).length = l.length := by simp [maskL]
theorem maskL_get (n : Nat) (l : List UInt8) (i : Nat) : (maskL n l)[i]? = (l[i]?).map fun x => kb x (keep n i) := by simp [maskL]
theorem maskL_maskL {m n : Nat} (h : m ≤ n) (l : List UInt8) : maskL m (maskL n l) = maskL m l := by
  apply List.ext_getElem?
  intro i
  rw [maskL_get, maskL_get, maskL_get, Option.map_map]
  congr 1
  funext x
  exact kb_kb x (keep_le n i) (keep_mono h i)
theorem maskA_own {a : Ad} (h : a.Wide) (n : Nat) : (maskA a n).own = maskL n a.own := by
  have hf : a.from ≤ 16 := by unfold Ad.from; split <;> omega
  have : (a.b.take a.from).length = a.from := by rw [List.length_take, h]; omega
  show List.drop a.from (a.b.take a.from ++ maskL n a.own) = _
  exact List.drop_left' this
theorem maskA_wide {a : Ad} (h : a.Wide) (n : Nat) : (maskA a n).Wide := by
  have hf : a.from ≤ 16 := by unfold Ad.from; split <;> omega
  show (a.b.take a.from ++ maskL n a.own).length = 16
  rw [List.length_append, maskL_length, Ad.own, List.length_take, List.length_drop, h]
  omega
theorem maskA_good {a : Ad} (hw : a.Wide) (h : a.good = true) (n : Nat) : (maskA a n).good = true := by
  obtain ⟨six, b⟩ := a
  cases six
  · simp only [Ad.good, Bool.false_or, beq_iff_eq] at h ⊢
    simp only [maskA, Ad.from, Bool.false_eq_true, if_false]
    have hw' : b.length = 16 := hw
    rw [List.take_append_of_le_length (by rw [List.length_take]; omega), List.take_take, Nat.min_self, h]
    simp
  · rfl
theorem maskA_maskA {a : Ad} (hw : a.Wide) {m n : Nat} (h : m ≤ n) : maskA (maskA a n) m = maskA a m := by
  have ho := maskA_own hw n
  have hf : a.from ≤ 16 := by unfold Ad.from; split <;> omega
  have ht : (a.b.take a.from).length = a.from := by rw [List.length_take, hw]; omega
  rw [maskA, ho, maskL_maskL h]
  show Ad.mk a.six (List.take a.from (a.b.take a.from ++ maskL n a.own) ++ maskL m a.own) = maskA a m
  rw [List.take_left' ht]
  rfl
theorem maskOf_some {a : Ad} {bits : Int} {p : Pf} (h : maskOf a bits = some p) : a.good = true ∧ 0 ≤ bits ∧ bits ≤ 8 * (a.own.length : Int) ∧ p = ⟨maskA a bits.toNat, bits⟩ := by
  rw [maskOf] at h
  split at h
  · rename_i hc
    exact ⟨hc.1, hc.2.1, hc.2.2, (Option.some.inj h).symm⟩
  · cases h
theorem maskOf_in {a : Ad} (hw : a.Wide) {bits fewer : Int} {p : Pf} (h : maskOf a bits = some p) (h0 : 0 ≤ fewer) (h1 : fewer ≤ bits) : ∃ r, maskOf a fewer = some r ∧ maskOf p.a fewer = some r := by
  obtain ⟨hg, hb0, hb1, rfl⟩ := maskOf_some h
  refine ⟨⟨maskA a fewer.toNat, fewer⟩, ?_, ?_⟩
  · rw [maskOf, if_pos ⟨hg, h0, by omega⟩]
  · rw [maskOf, if_pos ⟨maskA_good hw hg _, h0, by dsimp only; rw [maskA_own hw, maskL_length]; omega⟩]
    dsimp only
    rw [maskA_maskA hw (by omega)]
theorem maskOf_self {a : Ad} (hw : a.Wide) {bits : Int} {p : Pf} (h : maskOf a bits = some p) : p.Good := by
  obtain ⟨hg, hb0, hb1, e⟩ := maskOf_some h
  obtain ⟨r, h1, h2⟩ := maskOf_in hw h hb0 (Int.le_refl _)
  rw [h] at h1
  cases h1
  have : p.bits = bits := by rw [e]
  show maskOf p.a p.bits = some p
  rw [this]
  exact h2
/-! ### Texts of prefixes -/
theorem Ad.show_ne {a : Ad} (hw : a.Wide) (hg : a.good = true) : a.show ≠ [] := by
  intro e
  have r := Ad.reads_show hw hg
  have hl := a.own_length hw
  rw [e] at r
  have : (reads a.six []).length = 0 := by cases a.six <;> decide
  rw [r, hl] at this
  revert this
  cases a.six <;> simp
theorem d10_app : ∀ (l r : List UInt8) (acc n : Nat), Lib.parseUint10 acc l = .ok n → Lib.parseUint10 acc (l ++ r) = Lib.parseUint10 n r
  | [], r, acc, n, h => by simp only [Lib.parseUint10, Lib.NumEnd.ok.injEq] at h; subst h; rfl
  | c :: l, r, acc, n, h => by
    rw [Lib.parseUint10] at h
    rw [List.cons_append, Lib.parseUint10]
    split at h
    · rename_i hd
      rw [if_pos hd]
      split at h
      · cases h
      · rename_i hd2
        rw [if_neg hd2]
        split at h
        · cases h
        · rename_i hd3
          rw [if_neg hd3]
          exact d10_app l r _ n h
    · cases h
theorem d10_one {acc d : Nat} (h : d < 10) (h2 : acc < 1844674407370955000) : Lib.parseUint10 acc [hexc d] = .ok (acc * 10 + d) := by
  have hn := hexc_nat (d := d) (by omega)
  rw [if_pos h] at hn
  rw [Lib.parseUint10, hn, if_pos (by omega), if_neg (by omega), if_neg (by omega), Lib.parseUint10]
  congr 1
  omega
theorem d10_digs (n : Nat) : n ≤ 1000000 → Lib.parseUint10 0 (digs 10 n) = .ok n := by
  refine digs_ind (base := 10) (by omega) (p := fun n l => n ≤ 1000000 → Lib.parseUint10 0 l = .ok n) (fun n h hn => ?_) (fun n h ih hn => ?_) n
  · rw [d10_one h (by omega)]; simp
  · rw [d10_app _ _ _ _ (ih (by omega)), d10_one (Nat.mod_lt _ (by omega)) (by omega)]
    congr 1
    omega
theorem digs_head {n : Nat} : ∃ d r, d < 10 ∧ digs 10 n = hexc d :: r := by
  refine digs_ind (base := 10) (by omega) (p := fun _ l => ∃ d r, d < 10 ∧ l = hexc d :: r) (fun n h => ⟨n, [], h, rfl⟩) (fun n h ih => ?_) n
  obtain ⟨d, r, hd, e⟩ := ih
  exact ⟨d, r ++ [hexc (n % 10)], hd, by rw [e]; rfl⟩
theorem atoi_digs {n : Nat} (h : n ≤ 1000000) : Lib.atoiAll (digs 10 n) = .ok (n : Int) := by
  have hd := d10_digs n h
  obtain ⟨d, r, hd9, e⟩ := digs_head (n := n)
  have hn := hexc_nat (d := d) (by omega)
  rw [if_pos hd9] at hn
  rw [e] at hd ⊢
  unfold Lib.atoiAll
  dsimp only
  rw [if_neg (by omega), Lib.parseMag, if_neg (by simp), hd]
  dsimp only
  rw [if_neg (by omega), if_neg (by omega), if_neg (by omega)]
def IsPf (s : List UInt8) (p : Pf) : Prop := p.a.Wide ∧ p.Good ∧ p.show = s
theorem Pf.show_good {p : Pf} (h : p.Good) : p.show = p.a.show ++ 47 :: digs 10 p.bits.toNat := by rw [Pf.show, if_pos h, digs_ten]
theorem Pf.good_ad {p : Pf} (h : p.Good) : p.a.good = true := (maskOf_some h).1
theorem Pf.good_bits {p : Pf} (h : p.Good) (hw : p.a.Wide) : 0 ≤ p.bits ∧ p.bits ≤ 128 := by
  obtain ⟨_, h0, h1, _⟩ := maskOf_some h
  have := p.a.own_length hw
  rw [this] at h1
  refine ⟨h0, ?_⟩
  revert h1
  cases p.a.six <;> simp <;> omega
theorem Ad.show_slash {a : Ad} : ∀ x ∈ a.show, x ≠ 47 := by
  intro x hx
  rw [Ad.show] at hx
  split at hx
  · exact shown_slash x hx
  · simp at hx
theorem IsPf.cut {s : List UInt8} {p : Pf} (h : IsPf s p) : Lib.cut s [47] = (p.a.show, digs 10 p.bits.toNat, true) := by
  obtain ⟨hw, hg, rfl⟩ := h
  have hi := index_one_of (r := digs 10 p.bits.toNat) (Ad.show_slash (a := p.a))
  rw [Pf.show_good hg, Lib.cut, hi, if_pos (by omega)]
  simp only [Int.toNat_natCast]
  rw [List.take_left' rfl, List.length_singleton, List.drop_append, List.drop_eq_nil_of_le (by omega)]
  simp
theorem IsPf.ad {s : List UInt8} {p : Pf} (h : IsPf s p) : adOf p.a.show = some p.a := adOf_some ⟨h.1, Pf.good_ad h.2.1, rfl⟩
theorem IsPf.only {s : List UInt8} {p p2 : Pf} (h : IsPf s p) (h2 : IsPf s p2) : p = p2 := by
  have c := h.cut.symm.trans h2.cut
  simp only [Prod.mk.injEq] at c
  have a := h.ad
  rw [c.1, h2.ad] at a
  have b := Pf.good_bits h.2.1 h.1
  have b2 := Pf.good_bits h2.2.1 h2.1
  have d := atoi_digs (n := p.bits.toNat) (by omega)
  rw [c.2.1, atoi_digs (by omega)] at d
  simp only [Lib.NumEnd.ok.injEq] at d
  obtain ⟨pa, pb⟩ := p
  obtain ⟨qa, qb⟩ := p2
  simp only at a b b2 d
  have e1 := Option.some.inj a
  have e2 : pb = qb := by omega
  rw [e1, e2]
open Classical in
noncomputable def pfOf (s : List UInt8) : Option Pf := if h : ∃ p, IsPf s p then some h.choose else none
theorem pfOf_some {s : List UInt8} {p : Pf} (h : IsPf s p) : pfOf s = some p := by
  have h' : ∃ p, IsPf s p := ⟨p, h⟩
  rw [pfOf, dif_pos h']
  exact congrArg some (h'.choose_spec.only h)
theorem pfOf_is {s : List UInt8} {p : Pf} (h : pfOf s = some p) : IsPf s p := by
  rw [pfOf] at h
  split at h
  · rename_i h'
    cases h
    exact h'.choose_spec
  · cases h
/-- What is found to show so is it. -/
theorem pfOf_back {s t : List UInt8} {a : Ad} {v : Int} (ha : adOf t = some a) (ht : s = [] → t = []) (h : (Pf.mk a v).show = s) : pfOf s = some ⟨a, v⟩ := by
  obtain ⟨hw, hg, e⟩ := adOf_is ha
  by_cases hp : (Pf.mk a v).Good
  · exact pfOf_some ⟨hw, hp, h⟩
  · rw [Pf.show, if_neg hp] at h
    have := ht h.symm
    rw [this] at e
    exact absurd e (Ad.show_ne hw hg)
/-- What the program makes of a text. -/
theorem pfOf_read (s : List UInt8) : pfOf s = (match adOf (Lib.cut s [47]).1, Lib.atoiAll (Lib.cut s [47]).2.1 with
    | some a, .ok v => if (Pf.mk a v).show = s then some ⟨a, v⟩ else none
    | _, _ => none) := by
  cases h : pfOf s with
  | some p =>
    have hp := pfOf_is h
    have b := Pf.good_bits hp.2.1 hp.1
    rw [hp.cut]
    dsimp only
    rw [hp.ad, atoi_digs (by omega)]
    dsimp only
    have e : (Pf.mk p.a ((p.bits.toNat : Nat) : Int)) = p := by rw [Int.toNat_of_nonneg b.1]
    rw [e, if_pos hp.2.2]
  | none =>
    split
    · rename_i a v ha hv
      split
      · rename_i e
        rw [pfOf_back ha (by intro e; subst e; decide) e] at h
        cases h
      · rfl
    · rfl
end Go.Proofs.Ytalchhfpdojjjaa
