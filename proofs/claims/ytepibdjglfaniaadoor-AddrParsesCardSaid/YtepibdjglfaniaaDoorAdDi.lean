/-
  The document's digit: a contract.
-/
import Derived.Test.YtepibdjglfaniaaDoorAdDig
import Derived.Test.YtepibdjglfaniaaDoorNumB
namespace Go.Proofs.YtepibdjglfaniaaDoor
open Go.RowKit
/-- A digit's number, or -1. -/
def digI (c : UInt8) : Int := match digit c with
  | some d => (d : Int)
  | none => -1
set_option maxRecDepth 100000 in
theorem rfDigit_any (c : UInt8) (w : World) : Calls Tryd.prog 24 #[.int .u8 (c.toNat : Int)] w fun e w' => e = .returned (.int .i64 (digI c)) ∧ w = w' := by
  have hc := c.toNat_lt
  obtain ⟨n, hn⟩ : ∃ n, n = c.toNat := ⟨_, rfl⟩
  have hd : digI c = if 48 ≤ n ∧ n ≤ 57 then (n : Int) - 48 else if 97 ≤ n ∧ n ≤ 102 then (n : Int) - 87 else -1 := by
    rw [digI, digit, ← hn]
    by_cases h1 : 48 ≤ n ∧ n ≤ 57
    · rw [if_pos h1, if_pos h1]; simp only; omega
    · rw [if_neg h1, if_neg h1]
      by_cases h2 : 97 ≤ n ∧ n ≤ 102
      · rw [if_pos h2, if_pos h2]; simp only; omega
      · rw [if_neg h2, if_neg h2]
  rw [hd, ← hn]
  rw [← hn] at hc
  clear hd hn
  have hn0 : (0 : Int) ≤ (n : Int) := by omega
  have hn1 : (n : Int) ≤ 255 := by omega
  rcases Nat.lt_or_ge n 48 with h | h
  · rw [if_neg (by omega), if_neg (by omega)]
    have t1 : ¬ (48 : Int) ≤ (n : Int) := by omega
    have t2 : ¬ (97 : Int) ≤ (n : Int) := by omega
    go_enter Tryd.func24, Tryd.ntmps24
    go_wp2_with fail
    go_ret
    exact ⟨rfl, rfl⟩
  · have t1 : (48 : Int) ≤ (n : Int) := by omega
    rcases Nat.lt_or_ge 57 n with h2 | h2
    · have t2 : ¬ (n : Int) ≤ 57 := by omega
      rcases Nat.lt_or_ge n 97 with h3 | h3
      · rw [if_neg (by omega), if_neg (by omega)]
        have t3 : ¬ (97 : Int) ≤ (n : Int) := by omega
        go_enter Tryd.func24, Tryd.ntmps24
        go_wp2_with fail
        go_ret
        exact ⟨rfl, rfl⟩
      · have t3 : (97 : Int) ≤ (n : Int) := by omega
        rcases Nat.lt_or_ge 102 n with h4 | h4
        · rw [if_neg (by omega), if_neg (by omega)]
          have t4 : ¬ (n : Int) ≤ 102 := by omega
          go_enter Tryd.func24, Tryd.ntmps24
          go_wp2_with fail
          go_ret
          exact ⟨rfl, rfl⟩
        · rw [if_neg (by omega), if_pos (by omega)]
          have t4 : (n : Int) ≤ 102 := by omega
          have e1 : (n : Int) - 97 + 10 = (n : Int) - 87 := by omega
          go_enter Tryd.func24, Tryd.ntmps24
          go_wp2_with fail
          go_ret
          exact ⟨by rw [← e1]; rfl, rfl⟩
    · rw [if_pos (by omega)]
      have t2 : (n : Int) ≤ 57 := by omega
      go_enter Tryd.func24, Tryd.ntmps24
      go_wp2_with fail
      go_ret
      exact ⟨rfl, rfl⟩
end Go.Proofs.YtepibdjglfaniaaDoor
