/-
  The bits of a byte, and a set of pages in a row of 200 bytes anywhere in memory: which are in it, put in, taken out; the least that is not, the greatest, how many: contracts.
-/
import Derived.Test.YtllhilnajjohiaaBase
import Derived.Test.YtllhilnajjohiaaSpBits
import Derived.Deep.MidRow
import Derived.StillTailTactics
import Derived.Lib.Hide
namespace Go.Proofs.Ytllhilnajjohiaa
open Go.RowKit
/-- In w there is the set f of 1600 pages, in 200 bytes at o of block g. -/
def SetAt (w : World) (g o : Nat) (f : Nat → Bool) : Prop := ∀ k, k < 200 → w.cell? ⟨g, o + k, none⟩ = some (.int .u8 (byteN f k : Int))
abbrev ptrAt (g o : Nat) : Value := .pointer (some ⟨g, o, none⟩)
theorem SetAt.of_range {w : World} {g o : Nat} {f : Nat → Bool} (h : w.rangeAt g o (cellsB (setB f 200))) : SetAt w g o f := fun k hk => h k _ (setB_get f hk)
theorem mayBe_any (n : Int) (w : World) : Calls Try.prog 24 #[.int .i64 n] w fun e w' => e = .returned (.bool (decide (1 ≤ n ∧ n ≤ 1600))) ∧ w = w' := by
  by_cases h1 : 1 ≤ n
  · by_cases h2 : n ≤ 1600
    · rw [show decide (1 ≤ n ∧ n ≤ 1600) = true by simp [h1, h2]]
      go_enter Try.func24, Try.ntmps24
      go_wp2_with fail
      go_ret
      exact ⟨rfl, rfl⟩
    · rw [show decide (1 ≤ n ∧ n ≤ 1600) = false by simp; omega]
      go_enter Try.func24, Try.ntmps24
      go_wp2_with fail
      go_ret
      exact ⟨rfl, rfl⟩
  · rw [show decide (1 ≤ n ∧ n ≤ 1600) = false by simp; omega]
    go_enter Try.func24, Try.ntmps24
    go_wp2_with fail
    go_ret
    exact ⟨rfl, rfl⟩
theorem size_any (n : Nat) (hn : n ≤ 1600) (w : World) : Calls Try.prog 38 #[.int .i64 (n : Int)] w fun e w' => e = .returned (.int .i64 (((n + 7) / 8 : Nat) : Int)) ∧ w = w' := by
  have e1 : ((n : Int) + 7).tdiv 8 = (((n + 7) / 8 : Nat) : Int) := by
    rw [show ((n : Int) + 7) = ((n + 7 : Nat) : Int) by omega]
    rfl
  rw [← e1]
  clear e1
  go_enter Try.func38, Try.ntmps38
  go_wp2_with fail
  go_ret
  exact ⟨rfl, rfl⟩
theorem sethas_any {w : World} {g o : Nat} {f : Nat → Bool} (h : SetAt w g o f) {no : Nat} (hno : no < 1600) :
    Calls Try.prog 27 #[ptrAt g o, .int .i64 (no : Int)] w fun e w' => e = .returned (.bool (f no)) ∧ w = w' := by
  obtain ⟨k, j, hk, hj, rfl⟩ : ∃ k j, k < 200 ∧ j < 8 ∧ no = 8 * k + j := ⟨no / 8, no % 8, by omega, by omega, by omega⟩
  have hc := h k hk
  have hb := bit_of f k hj
  have hx := byteN_lt f k
  have e1 : ((8 * k + j : Nat) : Int).tdiv 8 = (k : Int) := by
    have : ((8 * k + j : Nat) : Int).tdiv 8 = (((8 * k + j) / 8 : Nat) : Int) := rfl
    rw [this]; omega
  have e2 : ((8 * k + j : Nat) : Int).tmod 8 = (j : Int) := by
    have : ((8 * k + j : Nat) : Int).tmod 8 = (((8 * k + j) % 8 : Nat) : Int) := rfl
    rw [this]; omega
  obtain ⟨no, hn⟩ : ∃ no, no = 8 * k + j := ⟨_, rfl⟩
  rw [← hn] at e1 e2 hb ⊢
  obtain ⟨x, hxe⟩ : ∃ x, x = byteN f k := ⟨_, rfl⟩
  rw [← hxe] at hc hb hx
  have e3 : (j : Int).toNat = j := by simp
  have hno' : no < 1600 := by omega
  clear h hno hxe hn
  cases hf : f no
  · rw [hf, if_neg (by simp)] at hb
    clear hf
    go_enter Try.func27, Try.ntmps27
    go_wp2_with fail
    go_ret
    exact ⟨rfl, rfl⟩
  · rw [hf, if_pos rfl] at hb
    clear hf
    go_enter Try.func27, Try.ntmps27
    go_wp2_with fail
    go_ret
    exact ⟨rfl, rfl⟩
end Go.Proofs.Ytllhilnajjohiaa
