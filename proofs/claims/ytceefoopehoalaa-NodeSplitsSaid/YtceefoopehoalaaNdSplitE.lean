/-
  Split for whatever node; what its halves come to; Encode, whether it fits or not.
-/
import Derived.Test.YtceefoopehoalaaNdSplitD
import Derived.Test.YtceefoopehoalaaNdMergeC
import Derived.Test.YtceefoopehoalaaNdLaw
namespace Go.Proofs.Ytceefoopehoalaa
open Go.RowKit
/-- How many cells there must be for halves. -/
def Nd.Parts (n : Nd) : Prop := n.Snd ∧ (if n.leaf then 2 else 3) ≤ n.keys.length
/-- The most cells of the first half. -/
def Nd.most (n : Nd) : Nat := n.keys.length - (if n.leaf then 1 else 2)
theorem Nd.Parts.most {n : Nd} (h : n.Parts) : n.most + (if n.leaf then 1 else 2) = n.keys.length ∧ 1 ≤ n.most := by
  have := h.2
  unfold Nd.most
  split at this <;> simp_all <;> omega
theorem split_good {n : Nd} {K V D : Value} {w : World} (hn : NdIs w w.heap.size K V D n) (hsh : n.Short 1000000) (h : n.Parts) :
    Calls Try.prog 23 #[ndVal n.leaf K V D] w fun e w' => SplitOut n n.leaf n.most w e w' := by
  have hm := h.most
  cases hl : n.leaf
  · rw [hl] at hm; exact split_not hn h.1 hsh hl _ hm.1 hm.2
  · rw [hl] at hm; exact split_leaf hn h.1 hsh hl _ hm.1 hm.2
theorem split_none {n : Nd} {K V D : Value} {w : World} (hn : NdIs w w.heap.size K V D n) (hsh : n.Short 1000000) (h : ¬ n.Parts) :
    Calls Try.prog 23 #[ndVal n.leaf K V D] w fun e w' => e = .returned (.tuple #[ndZero, .slice none 0 0, ndZero, .bool false]) ∧ Below w.heap.size w w' :=
  split_bad hn hsh fun hs => by
    have : ¬ (if n.leaf then 2 else 3) ≤ n.keys.length := fun g => h ⟨hs, g⟩
    omega
theorem Nd.Parts.half {n : Nd} (h : n.Parts) {k : Nat} (hk : n.Half n.most k) : 1 ≤ k ∧ k + (if n.leaf then 0 else 1) < n.keys.length := by
  have := h.most
  have := hk.lo
  have := hk.hi
  refine ⟨by omega, ?_⟩
  cases hl : n.leaf <;> simp_all <;> omega
theorem Nd.Parts.lower {n : Nd} (h : n.Parts) {k : Nat} (hk : n.Half n.most k) : (n.lower k).Snd := h.1.lower (h.half hk).1 (by have := (h.half hk).2; omega)
theorem Nd.Parts.upper {n : Nd} (h : n.Parts) {k : Nat} (hk : n.Half n.most k) : (n.upper k).Snd := h.1.upper (h.half hk).2
theorem Nd.Parts.joined {n : Nd} (h : n.Parts) {k : Nat} (hk : n.Half n.most k) : joinsB (n.lower k) (n.keys.getD k []) (n.upper k) = true ∧ (n.lower k).merged (n.keys.getD k []) (n.upper k) = n := by
  have hj := Nd.halves_joined h.1 (k := k) (by have := (h.half hk).2; omega)
  have h1 : joinsB (n.lower k) (n.keys.getD k []) (n.upper k) = true := joinsB_iff.2 ⟨by rw [n.lower_leaf, n.upper_leaf], h.lower hk, h.upper hk, by rw [hj]; exact h.1⟩
  refine ⟨h1, ?_⟩
  unfold Nd.merged
  rw [if_pos h1, hj]
theorem Nd.Parts.fit {n : Nd} (h : n.Parts) {k : Nat} (hk : n.Half n.most k) (hl : n.keys.length ≤ 255) (hs : n.size ≤ 282) : (n.lower k).Fit ∧ (n.upper k).Fit :=
  Nd.halves_fit h.1 hl h.most.1 hk hs
/-- Encode: which error there is. -/
theorem enc_any {n : Nd} {K V D : Value} {w : World} (hr : NdIs w w.heap.size K V D n) (hsh : n.Short 1000000) :
    ∃ x : Int, (n.Fit → x = 0) ∧ 0 ≤ x ∧ x ≤ 10 ∧ Calls Try.prog 26 #[ndVal n.leaf K V D] w fun e w' => ∃ v, e = .returned (.tuple #[v, .int .i64 x]) ∧ Below w.heap.size w w' := by
  by_cases h : n.Fit
  · exact ⟨0, fun _ => rfl, by omega, by omega, (encode_good hr (Nat.le_refl _) hsh h).mono (by rintro e w' ⟨v, rfl, _, hb⟩; exact ⟨v, rfl, hb⟩)⟩
  · obtain ⟨x, hx, hc⟩ := encode_bad hr (Nat.le_refl _) hsh h
    exact ⟨x, fun g => absurd g h, by omega, by omega, hc.mono (by rintro e w' ⟨rfl, hb⟩; exact ⟨_, rfl, hb⟩)⟩
/-- The law's node, and both halves with what stands between them. -/
structure LwH (w0 w : World) (K V D : Value) (m : Nd) (p : Nat) (K1 V1 D1 : Value) (x : Nd) (kv : Value) (key : List UInt8) (q : Nat) (K2 V2 D2 : Value) (y : Nd) : Prop where
  law : LawN w0 w K V D m
  boxA : NdBox w p x.leaf K1 V1 D1
  boxB : NdBox w q y.leaf K2 V2 D2
  isA : NdIs w w.heap.size K1 V1 D1 x
  isB : NdIs w w.heap.size K2 V2 D2 y
  key : Rd w w.heap.size kv (cellsB key)
section
variable {w0 w w' : World} {K V D K1 V1 D1 K2 V2 D2 kv : Value} {m x y : Nd} {p q : Nat} {key : List UInt8}
theorem LwH.kept (h : LwH w0 w K V D m p K1 V1 D1 x kv key q K2 V2 D2 y) (hb : Below w.heap.size w w') : LwH w0 w' K V D m p K1 V1 D1 x kv key q K2 V2 D2 y :=
  ⟨h.law.kept hb, h.boxA.later h.boxA.lt hb, h.boxB.later h.boxB.lt hb, (h.isA.below hb).more hb.size, (h.isB.below hb).more hb.size, (h.key.below hb).more hb.size⟩
/-- Both halves in new blocks. -/
theorem LwH.start (h : LawN w0 w K V D m) (ha : NdIs w w.heap.size K1 V1 D1 x) (hb : NdIs w w.heap.size K2 V2 D2 y) (hk : Rd w w.heap.size kv (cellsB key)) :
    LwH w0 ((w.alloc (.cells #[.bool x.leaf, K1, V1, D1] 27)).alloc (.cells #[.bool y.leaf, K2, V2, D2] 27)) K V D m w.heap.size K1 V1 D1 x kv key (w.heap.size + 1) K2 V2 D2 y := by
  obtain ⟨wa, hwa⟩ : ∃ u, u = w.alloc (.cells #[.bool x.leaf, K1, V1, D1] 27) := ⟨_, rfl⟩
  have e1 : wa.heap.size = w.heap.size + 1 := by rw [hwa]; simp
  have b1 : Below w.heap.size w wa := by rw [hwa]; exact (Below.refl _ _).alloc (Nat.le_refl _) _
  have b2 := (Below.refl wa.heap.size wa).alloc (Nat.le_refl _) (.cells #[.bool y.leaf, K2, V2, D2] 27)
  have ba : NdBox wa w.heap.size x.leaf K1 V1 D1 := by rw [hwa]; exact NdBox.made w x.leaf K1 V1 D1
  have bb := NdBox.made wa y.leaf K2 V2 D2
  have bt := up b1 b2
  rw [← hwa, ← e1]
  exact ⟨h.kept bt, ba.later ba.lt b2, bb, (ha.below bt).more bt.size, (hb.below bt).more bt.size, (hk.below bt).more bt.size⟩
end
end Go.Proofs.Ytceefoopehoalaa
