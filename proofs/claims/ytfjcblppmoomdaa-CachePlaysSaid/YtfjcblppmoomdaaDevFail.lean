/-
  Fail, on a device: contract.
-/
import Derived.Test.YtfjcblppmoomdaaDevI
namespace Go.Proofs.Ytfjcblppmoomdaa
open Go.RowKit
/-- The call of kind k is to fail behind a more. -/
def Dev.told (d : Dev) (k a : Nat) : Dev := { d with f := fun j => if j = k then (true, a) else d.f j }
section
variable {w : World} {F : Nat → Prop} {p bl bm : Nat} {S : Nat → Value} {D : DataW Value} {d : Dev}
set_option maxRecDepth 100000 in
theorem fail_arg {k a : Int} (w : World) (p : Nat) (h : k < 1 ∨ 3 < k ∨ a < 0) : Calls Try.prog 19 #[at0 p, .int .i64 k, .int .i64 a] w fun e w' => e = .returned (.int .i64 1) ∧ w = w' := by
  by_cases h1 : k < 1
  · go_enter Try.func19, Try.ntmps19
    go_wp2_with fail
    go_ret
    exact ⟨rfl, rfl⟩
  · by_cases h2 : 3 < k
    · go_enter Try.func19, Try.ntmps19
      go_wp2_with fail
      go_ret
      exact ⟨rfl, rfl⟩
    · have h3 : a < 0 := by omega
      go_enter Try.func19, Try.ntmps19
      go_wp2_with fail
      go_ret
      exact ⟨rfl, rfl⟩
set_option maxRecDepth 100000 in
theorem fail_raw {w : World} {p k a : Nat} (hk1 : 1 ≤ k) (hk3 : k ≤ 3) {x y : Value} (c1 : w.cell? ⟨p, k * 2, none⟩ = some x) (c2 : w.cell? ⟨p, k * 2 + 1, none⟩ = some y) (f1 : w.frozen? ⟨p, k * 2, none⟩ = false) (f2 : w.frozen? ⟨p, k * 2 + 1, none⟩ = false) :
    Calls Try.prog 19 #[at0 p, .int .i64 (k : Int), .int .i64 (a : Int)] w fun e w' => e = .returned (.int .i64 0) ∧ (w.setCell ⟨p, k * 2, none⟩ (.bool true)).setCell ⟨p, k * 2 + 1, none⟩ (.int .i64 (a : Int)) = w' := by
  go_enter Try.func19, Try.ntmps19
  go_wp2_with fail
  go_ret
  exact ⟨rfl, rfl⟩
theorem fail_any {k a : Nat} (h : DevIs w F p bl bm S D d) (hk1 : 1 ≤ k) (hk3 : k ≤ 3) (ha : a ≤ 9223372036854775807) :
    Calls Try.prog 19 #[at0 p, .int .i64 (k : Int), .int .i64 (a : Int)] w fun e w' => e = .returned (.int .i64 0) ∧ DevIs w' F p bl bm S D (d.told k a) ∧ Only F w w' := by
  have t1 := h.told (k := k) (by omega)
  have t2 := h.ahead (k := k) (by omega)
  rw [Nat.mul_comm] at t1 t2
  refine (fail_raw hk1 hk3 t1 t2 (h.free _) (h.free _)).mono ?_
  rintro e w' ⟨rfl, rfl⟩
  have hA : DevIs (w.setCell ⟨p, k * 2, none⟩ (.bool true)) F p bl bm S D { d with f := fun j => if j = k then (true, (d.f k).2) else d.f j } := by
    refine h.top_set ?_ rfl rfl (Nat.le_refl _) (fun j => ?_)
    · match k, hk1, hk3 with
      | 1, _, _ => simp [devCells]
      | 2, _, _ => simp [devCells]
      | 3, _, _ => simp [devCells]
    · simp only
      split
      · exact h.fuel k
      · exact h.fuel j
  refine ⟨rfl, hA.top_set ?_ rfl rfl (Nat.le_refl _) (fun j => ?_), (Only.setCell h.inF.1 _).trans (Only.setCell h.inF.1 _)⟩
  · match k, hk1, hk3 with
    | 1, _, _ => simp [devCells, Dev.told]
    | 2, _, _ => simp [devCells, Dev.told]
    | 3, _, _ => simp [devCells, Dev.told]
  · simp only [Dev.told]
    split
    · exact ha
    · exact h.fuel j
end
end Go.Proofs.Ytfjcblppmoomdaa
