/-
  Mask: the mathematics of its loops.
-/
import Derived.Test.YtepibdjglfaniaaDoorAdPfx
import Derived.Test.YtepibdjglfaniaaDoorAdC
namespace Go.Proofs.YtepibdjglfaniaaDoor
open Go.RowKit
/-- An address whose first k bytes are masked. -/
def partA (a : Ad) (n k : Nat) : Ad := ⟨a.six, a.b.take a.from ++ ((maskL n a.own).take k ++ a.own.drop k)⟩
theorem Ad.from_le (a : Ad) : a.from ≤ 12 := by unfold Ad.from; split <;> omega
theorem Ad.own_size {a : Ad} (h : a.Wide) : a.own.length = 16 - a.from := by rw [Ad.own, List.length_drop, h]
theorem partA_wide {a : Ad} (h : a.Wide) (n k : Nat) : (partA a n k).Wide := by
  have := a.from_le
  have ho := Ad.own_size h
  show (a.b.take a.from ++ ((maskL n a.own).take k ++ a.own.drop k)).length = 16
  rw [List.length_append, List.length_append, List.length_take, List.length_take, List.length_drop, maskL_length, ho, h]
  omega
theorem partA_all {a : Ad} (h : a.Wide) (n : Nat) {k : Nat} (hk : k = 16 - a.from) : partA a n k = maskA a n := by
  have ho := Ad.own_size h
  rw [partA, maskA, List.take_of_length_le (l := maskL n a.own) (by rw [maskL_length]; omega), List.drop_eq_nil_of_le (by omega), List.append_nil]
theorem partA_start {a : Ad} (n : Nat) : partA a n (n / 8) = a := by
  have e : (maskL n a.own).take (n / 8) = a.own.take (n / 8) := by
    apply List.ext_getElem?
    intro i
    rw [List.getElem?_take, List.getElem?_take]
    split
    · rename_i hi
      rw [maskL_get, show keep n i = 8 by unfold keep; omega]
      cases a.own[i]? with
      | none => rfl
      | some x => simp [kb_eight]
    · rfl
  rw [partA, e, List.take_append_drop, Ad.own, List.take_append_drop]
/-- The byte at hand. -/
theorem partA_at {a : Ad} (h : a.Wide) (n : Nat) {k : Nat} (hk : k < 16 - a.from) : (partA a n k).b[a.from + k]? = some (a.own[k]'(by rw [Ad.own_size h]; exact hk)) := by
  have := a.from_le
  have ho := Ad.own_size h
  have hl : (a.b.take a.from).length = a.from := by rw [List.length_take, h]; omega
  have hl2 : ((maskL n a.own).take k).length = k := by rw [List.length_take, maskL_length, ho]; omega
  show (a.b.take a.from ++ ((maskL n a.own).take k ++ a.own.drop k))[a.from + k]? = _
  rw [List.getElem?_append_right (by omega), hl, show a.from + k - a.from = k by omega, List.getElem?_append_right (by omega), hl2, Nat.sub_self, List.getElem?_drop, Nat.add_zero, List.getElem?_eq_getElem]
theorem partA_next {a : Ad} (h : a.Wide) (n : Nat) {k : Nat} (hk : k < 16 - a.from) : adC (partA a n (k + 1)) = (adC (partA a n k)).set (1 + (a.from + k)) (.int .u8 ((kb (a.own[k]'(by rw [Ad.own_size h]; exact hk)) (keep n k)).toNat : Int)) := by
  have := a.from_le
  have ho := Ad.own_size h
  have hl : (a.b.take a.from).length = a.from := by rw [List.length_take, h]; omega
  have hl2 : ((maskL n a.own).take k).length = k := by rw [List.length_take, maskL_length, ho]; omega
  have e : (partA a n (k + 1)).b = (partA a n k).b.set (a.from + k) (kb (a.own[k]'(by rw [ho]; exact hk)) (keep n k)) := by
    show a.b.take a.from ++ ((maskL n a.own).take (k + 1) ++ a.own.drop (k + 1)) = (a.b.take a.from ++ ((maskL n a.own).take k ++ a.own.drop k)).set (a.from + k) _
    rw [List.set_append_right _ _ (by omega), hl, show a.from + k - a.from = k by omega, List.set_append_right _ _ (by omega), hl2, Nat.sub_self, List.drop_eq_getElem_cons (show k < a.own.length by omega), List.set_cons_zero]
    congr 1
    have : (maskL n a.own).take (k + 1) = (maskL n a.own).take k ++ [kb (a.own[k]'(by rw [ho]; exact hk)) (keep n k)] := by
      rw [List.take_add_one, maskL_get, List.getElem?_eq_getElem (show k < a.own.length by omega)]
      rfl
    rw [this, List.append_assoc]
    rfl
  have e2 : (partA a n (k + 1)).six = (partA a n k).six := rfl
  rw [adC, adC, e, e2, Nat.add_comm 1, List.set_cons_succ]
  simp [cellsB, List.map_set]
theorem shr_full : ∀ c : Fin 8, (255 : Int) / 2 ^ c.val = ((2 ^ (8 - c.val) - 1 : Nat) : Int) := by decide
/-- A byte without the bits of a mask. -/
theorem andNot_all : ∀ x : Fin 256, ∀ c : Fin 8, bits .andNot .u8 ((x.val : Nat) : Int) ((2 ^ (8 - c.val) - 1 : Nat) : Int) = (((kb (UInt8.ofNat x.val) c.val).toNat : Nat) : Int) := by decide +kernel
theorem andNot_kb (x : UInt8) {c : Nat} (hc : c < 8) : bits .andNot .u8 (x.toNat : Int) ((2 ^ (8 - c) - 1 : Nat) : Int) = (((kb x c).toNat : Nat) : Int) := by
  have := andNot_all ⟨x.toNat, x.toNat_lt⟩ ⟨c, hc⟩
  simpa using this
/-! ### The document's own mask, a bit at a time -/
/-- The first n bits of an address's bytes, the others 0. -/
def bitsA (a : Ad) (n : Nat) : Ad := ⟨a.six, List.replicate a.from 0 ++ maskL n a.own⟩
theorem bitsA_wide {a : Ad} (h : a.Wide) (n : Nat) : (bitsA a n).Wide := by
  have := a.from_le
  have ho := Ad.own_size h
  show (List.replicate a.from 0 ++ maskL n a.own).length = 16
  rw [List.length_append, List.length_replicate, maskL_length, ho]
  omega
theorem bitsA_zero {a : Ad} (h : a.Wide) : bitsA a 0 = ⟨a.six, List.replicate 16 0⟩ := by
  have := a.from_le
  have ho := Ad.own_size h
  have e : maskL 0 a.own = List.replicate (16 - a.from) 0 := by
    apply List.ext_getElem?
    intro i
    rw [maskL_get, show keep 0 i = 0 by unfold keep; omega, List.getElem?_replicate]
    split
    · rw [List.getElem?_eq_getElem (by omega)]
      simp [kb_zero]
    · rw [List.getElem?_eq_none (by omega)]; first | done | rfl
  rw [bitsA, e, List.replicate_append_replicate, show a.from + (16 - a.from) = 16 by omega]
theorem bitsA_mask {a : Ad} (h : a.Wide) (hg : a.good = true) (n : Nat) : bitsA a n = maskA a n := by
  obtain ⟨six, B⟩ := a
  have hB : B.length = 16 := h
  cases six
  · simp only [Ad.good, Bool.false_or, beq_iff_eq] at hg
    show Ad.mk false (List.replicate 12 0 ++ _) = Ad.mk false (B.take 12 ++ _)
    rw [hg]; first | done | rfl
  · rfl
theorem kb_step : ∀ x : Fin 256, ∀ k : Fin 8, (kb (UInt8.ofNat x.val) (k.val + 1)).toNat = (kb (UInt8.ofNat x.val) k.val).toNat + (if x.val / 2 ^ (7 - k.val) % 2 = 1 then 2 ^ (7 - k.val) else 0) := by decide +kernel
theorem kb_more (x : UInt8) {k : Nat} (hk : k < 8) : (kb x (k + 1)).toNat = (kb x k).toNat + (if x.toNat / 2 ^ (7 - k) % 2 = 1 then 2 ^ (7 - k) else 0) := by
  have := kb_step ⟨x.toNat, x.toNat_lt⟩ ⟨k, hk⟩
  simpa using this
/-- The next bit. -/
theorem bitsA_next {a : Ad} (h : a.Wide) {n : Nat} (hn : n / 8 < 16 - a.from) : adC (bitsA a (n + 1)) = (adC (bitsA a n)).set (1 + (a.from + n / 8)) (.int .u8 ((kb (a.own[n / 8]'(by rw [Ad.own_size h]; exact hn)) (n % 8 + 1)).toNat : Int)) ∧
    (adC (bitsA a n))[1 + (a.from + n / 8)]? = some (.int .u8 ((kb (a.own[n / 8]'(by rw [Ad.own_size h]; exact hn)) (n % 8)).toNat : Int)) := by
  have := a.from_le
  have ho := Ad.own_size h
  have hl : (List.replicate a.from (0 : UInt8)).length = a.from := by simp
  have e : maskL (n + 1) a.own = (maskL n a.own).set (n / 8) (kb (a.own[n / 8]'(by rw [ho]; exact hn)) (n % 8 + 1)) := by
    apply List.ext_getElem?
    intro i
    rw [List.getElem?_set, maskL_get]
    split
    · rename_i he
      subst he
      rw [if_pos (by rw [maskL_length, ho]; exact hn), List.getElem?_eq_getElem (by omega), show keep (n + 1) (n / 8) = n % 8 + 1 by unfold keep; omega]
      rfl
    · rename_i he
      rw [maskL_get]
      congr 1
      funext x
      rw [show keep (n + 1) i = keep n i by unfold keep; omega]
  have e2 : (bitsA a (n + 1)).b = (bitsA a n).b.set (a.from + n / 8) (kb (a.own[n / 8]'(by rw [ho]; exact hn)) (n % 8 + 1)) := by
    show List.replicate a.from 0 ++ maskL (n + 1) a.own = (List.replicate a.from 0 ++ maskL n a.own).set (a.from + n / 8) _
    rw [List.set_append_right _ _ (by omega), hl, show a.from + n / 8 - a.from = n / 8 by omega, e]
  have e3 : (bitsA a (n + 1)).six = (bitsA a n).six := rfl
  constructor
  · rw [adC, adC, e2, e3, Nat.add_comm 1, List.set_cons_succ]
    simp [cellsB, List.map_set]
  · have e4 : (bitsA a n).b[a.from + n / 8]? = some (kb (a.own[n / 8]'(by rw [ho]; exact hn)) (n % 8)) := by
      show (List.replicate a.from 0 ++ maskL n a.own)[a.from + n / 8]? = _
      rw [List.getElem?_append_right (by omega), hl, show a.from + n / 8 - a.from = n / 8 by omega, maskL_get, List.getElem?_eq_getElem (by omega), show keep n (n / 8) = n % 8 by unfold keep; omega]
      rfl
    rw [adC, Nat.add_comm 1, List.getElem?_cons_succ, cellsB, List.getElem?_map, e4]
    rfl
end Go.Proofs.YtepibdjglfaniaaDoor
