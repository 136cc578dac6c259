/-
  The document's Ints of layer 3: two rows of like whole numbers are alike: contract.
-/
import Derived.Test.YtfjcblppmoomdaaBase
import Derived.Deep.RegionHeld3
namespace Go.Proofs.Ytfjcblppmoomdaa
open Go.RowKit
section
variable {w w' : World}
set_option maxRecDepth 100000 in
set_option maxRecDepth 100000 in
/-- Ints, of like numbers. -/
theorem ints_same {l : List Nat} {A A2 : Option Addr} {c c2 n : Nat} (h1 : ∀ k, k < n → ∃ g o, A = some ⟨g, o, none⟩ ∧ w.cell? ⟨g, o + k, none⟩ = some (.int .i64 ((l.getD k 0 : Nat) : Int))) (h2 : ∀ k, k < n → ∃ g o, A2 = some ⟨g, o, none⟩ ∧ w.cell? ⟨g, o + k, none⟩ = some (.int .i64 ((l.getD k 0 : Nat) : Int))) (hs : n < 1000000) :
    Calls Try.prog 14 #[.slice A n c, .slice A2 n c2] w fun e w' => e = .returned (.bool true) ∧ Below w.heap.size w w' := by
  have H1 := Lib.hid h1
  have H2 := Lib.hid h2
  clear h1 h2
  go_enter Try.func14, Try.ntmps14
  go_wp2_with fail
  go_loopw [5] (fun iv wr => ∃ k : Nat, k ≤ n ∧ iv = .int .i64 (k : Int) ∧ Below w.heap.size w wr) (fun iv _ => n - (intOf iv).toNat)
  case atStart => exact ⟨0, by omega, rfl, Below.refl _ _⟩
  case round =>
    obtain ⟨k, hkn, rfl, hbel⟩ := hrel
    by_cases hk : k < n
    · obtain ⟨g, o, rfl, e1⟩ := H1.out k hk
      obtain ⟨g2, o2, rfl, e2⟩ := H2.out k hk
      have e1' : wr.cell? ⟨g, o + k, none⟩ = _ := (hbel.cell (p := ⟨g, o + k, none⟩) (World.block_lt_of_cell? _ _ e1)).trans e1
      have e2' : wr.cell? ⟨g2, o2 + k, none⟩ = _ := (hbel.cell (p := ⟨g2, o2 + k, none⟩) (World.block_lt_of_cell? _ _ e2)).trans e2
      have hk0 : (0 : Int) ≤ (k : Int) := by omega
      have hk1 : (k : Int) < (n : Int) := by omega
      have htk : (k : Int).toNat = k := by omega
      clear e1 e2
      go_wp2_with fail
      go_region_held3 (fun w' => w'.cell? ⟨g, o + k, none⟩ = some (.int .i64 ((l.getD k 0 : Nat) : Int)) ∧ w'.cell? ⟨g2, o2 + k, none⟩ = some (.int .i64 ((l.getD k 0 : Nat) : Int))) (simp [*]) (fail)
      go_wp2_with fail
      go_roundw
      case rel => exact ⟨k + 1, by omega, by go_num, hbel.drew⟩
      case measure => simp [intOf]; omega
    · have hkm2 : k = n := by omega
      subst hkm2
      go_wp2_with fail
      go_ret
      exact ⟨rfl, hbel⟩
end
end Go.Proofs.Ytfjcblppmoomdaa
