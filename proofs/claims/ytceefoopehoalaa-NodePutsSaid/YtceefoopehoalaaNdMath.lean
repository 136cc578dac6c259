/-
  Nodes of trees as plain data: how texts are compared, what is sound. No Go text is spoken of here.
-/
import Derived.Test.YtceefoopehoalaaBase
import Derived.Lib.Bytealg
namespace Go.Proofs.Ytceefoopehoalaa
open Go.RowKit

/-- How two texts stand: -1, 0, 1. -/
def cmpB (a b : List UInt8) : Int := Lib.compareBytes a b
theorem cmpB_range (a b : List UInt8) : -1 ≤ cmpB a b ∧ cmpB a b ≤ 1 := by
  unfold cmpB
  induction a generalizing b with
  | nil => cases b <;> simp [Lib.compareBytes]
  | cons x a ih =>
    cases b with
    | nil => simp [Lib.compareBytes]
    | cons y b =>
      unfold Lib.compareBytes
      split
      · simp
      · split
        · simp
        · exact ih b
theorem cmpB_self (a : List UInt8) : cmpB a a = 0 := by
  unfold cmpB
  induction a with
  | nil => rfl
  | cons x a ih =>
    unfold Lib.compareBytes
    rw [if_neg (UInt8.lt_irrefl x), if_neg (UInt8.lt_irrefl x)]
    exact ih
theorem cmpB_zero {a b : List UInt8} (h : cmpB a b = 0) : a = b := by
  unfold cmpB at h
  induction a generalizing b with
  | nil => cases b with
    | nil => rfl
    | cons y b => simp [Lib.compareBytes] at h
  | cons x a ih =>
    cases b with
    | nil => simp [Lib.compareBytes] at h
    | cons y b =>
      unfold Lib.compareBytes at h
      split at h
      · simp at h
      · split at h
        · simp at h
        · rename_i h1 h2
          have hxy : x = y := UInt8.le_antisymm (UInt8.not_lt.1 h2) (UInt8.not_lt.1 h1)
          rw [hxy, ih h]
theorem cmpB_swap (a b : List UInt8) : cmpB b a = - cmpB a b := by
  unfold cmpB
  induction a generalizing b with
  | nil => cases b <;> simp [Lib.compareBytes]
  | cons x a ih =>
    cases b with
    | nil => simp [Lib.compareBytes]
    | cons y b =>
      unfold Lib.compareBytes
      by_cases h1 : x < y
      · rw [if_pos h1, if_neg (UInt8.lt_asymm h1), if_pos h1]; rfl
      · rw [if_neg h1]
        by_cases h2 : y < x
        · simp [h1, h2]
        · simp only [h1, h2, if_false]; exact ih b
theorem cmpB_trans {a b c : List UInt8} (h1 : cmpB a b < 0) (h2 : cmpB b c < 0) : cmpB a c < 0 := by
  unfold cmpB at *
  induction a generalizing b c with
  | nil =>
    cases c with
    | nil =>
      cases b with
      | nil => simp [Lib.compareBytes] at h1
      | cons y b => simp [Lib.compareBytes] at h2
    | cons z c => simp [Lib.compareBytes]
  | cons x a ih =>
    cases b with
    | nil => simp [Lib.compareBytes] at h1
    | cons y b =>
      cases c with
      | nil => simp [Lib.compareBytes] at h2
      | cons z c =>
        unfold Lib.compareBytes at h1 h2 ⊢
        by_cases hxy : x < y
        · by_cases hyz : y < z
          · rw [if_pos (UInt8.lt_trans hxy hyz)]; decide
          · rw [if_neg hyz] at h2
            by_cases hzy : z < y
            · rw [if_pos hzy] at h2; simp at h2
            · have : y = z := UInt8.le_antisymm (UInt8.not_lt.1 hzy) (UInt8.not_lt.1 hyz)
              subst this
              rw [if_pos hxy]; decide
        · rw [if_neg hxy] at h1
          by_cases hyx : y < x
          · rw [if_pos hyx] at h1; simp at h1
          · have : x = y := UInt8.le_antisymm (UInt8.not_lt.1 hyx) (UInt8.not_lt.1 hxy)
            subst this
            rw [if_neg hyx] at h1
            by_cases hyz : x < z
            · rw [if_pos hyz]; decide
            · rw [if_neg hyz] at h2 ⊢
              by_cases hzy : z < x
              · rw [if_pos hzy] at h2; simp at h2
              · rw [if_neg hzy] at h2 ⊢
                exact ih h1 h2

/-- A node, as data. -/
structure Nd where
  leaf : Bool
  keys : List (List UInt8)
  vals : List (List UInt8)
  kids : List Int
/-- The zero node. -/
def nd0 : Nd := ⟨false, [], [], []⟩
/-- A key may be one. -/
def KeyOk (k : List UInt8) : Prop := 1 ≤ k.length ∧ k.length ≤ 24
/-- The key at place j may be one, and is above the one ahead of it. -/
def KeyAt (ks : List (List UInt8)) (j : Nat) : Prop := KeyOk (ks.getD j []) ∧ (0 < j → cmpB (ks.getD (j - 1) []) (ks.getD j []) < 0)
/-- The keys may be such. -/
def KeysOk (ks : List (List UInt8)) : Prop := ∀ j, j < ks.length → KeyAt ks j
def ValsOk (vs : List (List UInt8)) : Prop := ∀ j, j < vs.length → (vs.getD j []).length ≤ 24
def KidOk (d : Int) : Prop := 0 ≤ d ∧ d < 1600
def KidsOk (ds : List Int) : Prop := ∀ j, j < ds.length → KidOk (ds.getD j 0)
/-- A node is sound. -/
structure Nd.Snd (n : Nd) : Prop where
  keys : KeysOk n.keys
  vals : ValsOk n.vals
  kids : KidsOk n.kids
  ofLeaf : n.leaf = true → n.kids.length = 0 ∧ n.vals.length = n.keys.length
  ofNot : n.leaf = false → n.vals.length = 0 ∧ 0 < n.keys.length ∧ n.kids.length = n.keys.length + 1
/-- Keys rise, however far apart. -/
theorem KeysOk.rise {ks : List (List UInt8)} (h : KeysOk ks) {i j : Nat} (hij : i < j) (hj : j < ks.length) : cmpB (ks.getD i []) (ks.getD j []) < 0 := by
  induction j with
  | zero => omega
  | succ j ih =>
    have h1 := (h (j + 1) hj).2 (by omega)
    rw [Nat.add_sub_cancel] at h1
    by_cases e : i = j
    · subst e; exact h1
    · exact cmpB_trans (ih (by omega) (by omega)) h1
theorem KeyOk.len {k : List UInt8} (h : KeyOk k) : 1 ≤ k.length ∧ k.length ≤ 24 := h
end Go.Proofs.Ytceefoopehoalaa
