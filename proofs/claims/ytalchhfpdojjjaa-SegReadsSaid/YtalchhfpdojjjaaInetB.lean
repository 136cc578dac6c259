/-
  Sum, Good and Change of package inet, by contracts.
-/
import Derived.Test.YtalchhfpdojjjaaInetA
namespace Go.Proofs.Ytalchhfpdojjjaa
open Go.RowKit
section
variable {A : Option Addr} {n c : Nat} {ls : List (List UInt8)} {w : World} {B : Nat}
set_option maxRecDepth 100000 in
set_option maxHeartbeats 1000000 in
theorem inSum_any (hr : RdAll w B (.slice A n c) ls) (hfl : ls.flatten.length ≤ 1000000) :
    Calls Try.prog 35 #[.slice A n c] w fun e w' => e = .returned (.int .u16 (sumOf ls.flatten : Nat)) ∧ w = w' := by
  have ht := inTotal_any A n c ls w B hr hfl
  have htl := tot_le ls.flatten
  obtain ⟨s, hs⟩ : ∃ s, s = tot ls.flatten := ⟨_, rfl⟩
  rw [← hs] at ht htl
  have hf := inFold_any s w (by omega)
  obtain ⟨f, hff⟩ : ∃ f, f = fo s := ⟨_, rfl⟩
  have hfl2 := fo_le s
  rw [← hff] at hf hfl2
  have hn := not16 f (by omega)
  have Ht := Lib.hid ht
  have Hf := Lib.hid hf
  have Hff := Lib.hid hff
  have Hs := Lib.hid hs
  clear ht hf htl hff hfl2 hs hfl
  go_enter Try.func35, Try.ntmps35
  go_wp2_with (first
    | (go_at_call 42; refine Ht.out.mono ?_; rintro e w1 ⟨rfl, rfl⟩)
    | (go_at_call 41; refine Hf.out.mono ?_; rintro e w2 ⟨rfl, rfl⟩))
  go_ret
  exact ⟨by rw [Hff.out, Hs.out]; rfl, rfl⟩
set_option maxRecDepth 100000 in
set_option maxHeartbeats 1000000 in
theorem inGood_any (hr : RdAll w B (.slice A n c) ls) (hfl : ls.flatten.length ≤ 1000000) :
    Calls Try.prog 43 #[.slice A n c] w fun e w' => e = .returned (.bool (decide (sumOf ls.flatten = 0))) ∧ w = w' := by
  have Hs := Lib.hid (inSum_any hr hfl)
  obtain ⟨s, hs⟩ : ∃ s, s = sumOf ls.flatten := ⟨_, rfl⟩
  rw [← hs] at Hs ⊢
  clear hs hfl
  go_enter Try.func43, Try.ntmps43
  go_wp2_with (first
    | (go_at_call 35; refine Hs.out.mono ?_; rintro e w1 ⟨rfl, rfl⟩))
  go_ret
  refine ⟨?_, rfl⟩
  show Ending.returned (.bool ((s : Int) == 0)) = _
  by_cases h : s = 0
  · subst h; rfl
  · have : ((s : Int) == 0) = false := by simp; omega
    rw [this, decide_eq_false h]
end
section
variable {w : World} {A1 A2 : Option Addr} {c1 c2 : Nat} {a b : List UInt8} {s : Nat}
end
end Go.Proofs.Ytalchhfpdojjjaa
