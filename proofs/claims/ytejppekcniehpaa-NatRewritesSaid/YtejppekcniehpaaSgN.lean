/-
  The document's Read of a segment: a contract.
-/
import Derived.Test.YtejppekcniehpaaSgL
import Derived.Test.YtejppekcniehpaaSgM
import Derived.Test.YtejppekcniehpaaSgO
namespace Go.Proofs.Ytejppekcniehpaa
open Go.RowKit
theorem rsRead_any {A : Option Addr} {c : Nat} {l : List UInt8} {w : World} (h : Hd) (hw : h.Wide) (hr : Rd w w.heap.size (.slice A l.length c) (cellsB l)) (hl : l.length ≤ 100000) :
    Calls Try.prog 20 #[hdV h, .slice A l.length c] w fun e w' => e = .returned (.tuple #[sgV (sgRead h l), .int .i64 ((sgErr h l : Nat) : Int)]) ∧ Below w.heap.size w w' := by
  have key : ∀ (E : Nat) (y : Sg), sgErr h l = E → y = (if E = 0 then sgHd h l else Sg.none) → (Calls Try.prog 20 #[hdV h, .slice A l.length c] w fun e w' => e = .returned (.tuple #[sgV y, .int .i64 (E : Int)]) ∧ Below w.heap.size w w') → Calls Try.prog 20 #[hdV h, .slice A l.length c] w fun e w' => e = .returned (.tuple #[sgV (sgRead h l), .int .i64 ((sgErr h l : Nat) : Int)]) ∧ Below w.heap.size w w' := fun E y hE hy hc => by
    have : sgRead h l = y := by unfold sgRead; rw [hE, hy]
    rw [this, hE]
    exact hc
  by_cases h6 : h.proto = 6
  · have e : sgErr h l = sgTcp h l := by unfold sgErr; rw [if_pos h6]
    unfold sgTcp at e
    by_cases a1 : l.length < 20
    · rw [if_pos a1] at e
      exact key 9 _ e rfl (rsRead_t9 h hw hr hl h6 a1)
    rw [if_neg a1] at e
    by_cases a2 : sgN l < 20
    · rw [if_pos a2] at e
      exact key 4 _ e rfl (rsRead_t4 h hw hr hl h6 a1 a2)
    rw [if_neg a2] at e
    by_cases a3 : l.length < sgN l
    · rw [if_pos a3] at e
      exact key 9 _ e rfl (rsRead_t9b h hw hr hl h6 a1 a2 a3)
    rw [if_neg a3] at e
    cases a4 : sgOk h l with
    | false =>
      rw [a4, if_neg (by decide)] at e
      exact key 5 _ e rfl (rsRead_t5 h hw hr hl h6 a1 a2 a3 a4)
    | true =>
      rw [a4, if_pos rfl] at e
      unfold sgPorts at e
      by_cases a5 : num2 l 0 = 0 ∨ num2 l 2 = 0
      · rw [if_pos a5] at e
        exact key 4 _ e rfl (rsRead_t4b h hw hr hl h6 a1 a2 a3 a4 a5)
      · rw [if_neg a5] at e
        exact key 0 _ e rfl (rsRead_t0 h hw hr hl h6 a1 a2 a3 a4 (fun z => a5 (.inl z)) (fun z => a5 (.inr z)))
  by_cases h17 : h.proto = 17
  · have e : sgErr h l = sgUdp h l := by unfold sgErr; rw [if_neg h6, if_pos h17]
    unfold sgUdp at e
    by_cases a1 : l.length < 8
    · rw [if_pos a1] at e
      exact key 9 _ e rfl (rsRead_u9 h hw hr hl h17 a1)
    rw [if_neg a1] at e
    by_cases a2 : num2 l 4 < 8
    · rw [if_pos a2] at e
      exact key 4 _ e rfl (rsRead_u4 h hw hr hl h17 a1 a2)
    rw [if_neg a2] at e
    by_cases a3 : l.length < num2 l 4
    · rw [if_pos a3] at e
      exact key 9 _ e rfl (rsRead_u9b h hw hr hl h17 a1 a2 a3)
    rw [if_neg a3] at e
    by_cases a4 : num2 l 4 < l.length
    · rw [if_pos a4] at e
      exact key 10 _ e rfl (rsRead_u10 h hw hr hl h17 a1 a2 a4)
    rw [if_neg a4] at e
    have a5 : num2 l 4 = l.length := by omega
    by_cases a6 : num2 l 6 = 0
    · rw [if_pos a6] at e
      cases a7 : h.six with
      | true =>
        rw [a7, if_pos rfl] at e
        exact key 4 _ e rfl (rsRead_u4b h hw hr hl h17 a1 a2 a5 a6 a7)
      | false =>
        rw [a7, if_neg (by decide)] at e
        unfold sgPorts at e
        by_cases a8 : num2 l 0 = 0 ∨ num2 l 2 = 0
        · rw [if_pos a8] at e
          exact key 4 _ e rfl (rsRead_uz4 h hw hr hl h17 a1 a2 a5 a6 a7 a8)
        · rw [if_neg a8] at e
          exact key 0 _ e rfl (rsRead_uz0 h hw hr hl h17 a1 a2 a5 a6 a7 (fun z => a8 (.inl z)) (fun z => a8 (.inr z)))
    · rw [if_neg a6] at e
      cases a7 : sgOk h l with
      | false =>
        rw [a7, if_neg (by decide)] at e
        exact key 5 _ e rfl (rsRead_u5 h hw hr hl h17 a1 a2 a5 a6 a7)
      | true =>
        rw [a7, if_pos rfl] at e
        unfold sgPorts at e
        by_cases a8 : num2 l 0 = 0 ∨ num2 l 2 = 0
        · rw [if_pos a8] at e
          exact key 4 _ e rfl (rsRead_us4 h hw hr hl h17 a1 a2 a5 a6 a7 a8)
        · rw [if_neg a8] at e
          exact key 0 _ e rfl (rsRead_us0 h hw hr hl h17 a1 a2 a5 a6 a7 (fun z => a8 (.inl z)) (fun z => a8 (.inr z)))
  have e : sgErr h l = 6 := by unfold sgErr; rw [if_neg h6, if_neg h17]
  exact key 6 _ e rfl (rsRead_none h hw hr hl h6 h17)
end Go.Proofs.Ytejppekcniehpaa
