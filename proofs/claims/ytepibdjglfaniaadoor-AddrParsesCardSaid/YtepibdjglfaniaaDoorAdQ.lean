/-
  An address is written and read (the law's own look): a contract.
-/
import Derived.Test.YtepibdjglfaniaaDoorAdP
namespace Go.Proofs.YtepibdjglfaniaaDoor
open Go.RowKit
abbrev s10 : ByteArray := ⟨#[49, 48, 46, 48, 46, 48, 46, 50, 53, 53]⟩
abbrev l10 : List UInt8 := [49, 48, 46, 48, 46, 48, 46, 50, 53, 53]
abbrev v10 : Value := .agg #[.bool false, .int .u8 0, .int .u8 0, .int .u8 0, .int .u8 0, .int .u8 0, .int .u8 0, .int .u8 0, .int .u8 0, .int .u8 0, .int .u8 0, .int .u8 0, .int .u8 0, .int .u8 10, .int .u8 0, .int .u8 0, .int .u8 255]
theorem v10_eq : adV (four 10 0 0 255) = v10 := by kernel_rfl
theorem show10 : (four 10 0 0 255).show = l10 := by decide +kernel
theorem adOf10 : adOf l10 = some (four 10 0 0 255) := adOf_some ⟨rfl, by decide +kernel, show10⟩
theorem parse10 (w : World) (hV : Vars w) : Calls Tryd.prog 13 #[.string s10] w fun e w' => e = .returned (.tuple #[v10, .bool true]) ∧ Below w.heap.size w w' := by
  have h := parse_any l10 w (by decide) hV
  rw [adOf10] at h
  simp only [Option.getD_some, Option.isSome_some, v10_eq] at h
  exact h
theorem four10 (w : World) : Calls Tryd.prog 9 #[.int .u8 10, .int .u8 0, .int .u8 0, .int .u8 255] w fun e w' => e = .returned v10 ∧ Below w.heap.size w w' := by
  have h := adFour_any 10 0 0 255 w
  rw [v10_eq] at h
  exact h
theorem shows10 (w : World) (hV : Vars w) : Calls Tryd.prog 20 #[v10] w fun e w' => e = .returned (.string s10) ∧ Below w.heap.size w w' := by
  have h := adShow_any (four 10 0 0 255) w rfl hV
  rw [v10_eq, show10] at h
  exact h
set_option maxRecDepth 100000 in
theorem lives_any (w : World) (hV : Vars w) : Calls Tryd.prog 12 #[] w fun e w' => e = .returned (.bool true) ∧ Below w.heap.size w w' := by
  have hz := zero_ad
  have hi0 := info_adA (a := Ad.zero) rfl
  have hzs : (adC Ad.zero).toArray.size = (#[.bool false, .int .u8 0, .int .u8 0, .int .u8 0, .int .u8 0, .int .u8 0, .int .u8 0, .int .u8 0, .int .u8 0, .int .u8 0, .int .u8 0, .int .u8 0, .int .u8 0, .int .u8 10, .int .u8 0, .int .u8 0, .int .u8 255] : Array Value).size := rfl
  have hia : (Tryd.prog.info? 24).map (·.size) = some (#[.bool false, .int .u8 0, .int .u8 0, .int .u8 0, .int .u8 0, .int .u8 0, .int .u8 0, .int .u8 0, .int .u8 0, .int .u8 0, .int .u8 0, .int .u8 0, .int .u8 0, .int .u8 10, .int .u8 0, .int .u8 0, .int .u8 255] : Array Value).size := hi0
  have haa : ((#[.bool false, .int .u8 0, .int .u8 0, .int .u8 0, .int .u8 0, .int .u8 0, .int .u8 0, .int .u8 0, .int .u8 0, .int .u8 0, .int .u8 0, .int .u8 0, .int .u8 0, .int .u8 10, .int .u8 0, .int .u8 0, .int .u8 255] : Array Value).all fun x => x.oneCell') = true := by kernel_rfl
  have heq : ∀ W, (binOp .eql 24 v10 v10).run Tryd.prog W = .ok (.bool true) W := fun W => by kernel_rfl
  have HP := Lib.hid (parse10 w hV)
  have HV : Hid (∀ wr, Below w.heap.size w wr → Vars wr) := Lib.hid fun wr hb => hV.up hb
  have HC : Hid (∀ w1 wr : World, Below (w1.alloc (.cells #[.bool false, .int .u8 0, .int .u8 0, .int .u8 0, .int .u8 0, .int .u8 0, .int .u8 0, .int .u8 0, .int .u8 0, .int .u8 0, .int .u8 0, .int .u8 0, .int .u8 0, .int .u8 10, .int .u8 0, .int .u8 0, .int .u8 255] 24)).heap.size (w1.alloc (.cells #[.bool false, .int .u8 0, .int .u8 0, .int .u8 0, .int .u8 0, .int .u8 0, .int .u8 0, .int .u8 0, .int .u8 0, .int .u8 0, .int .u8 0, .int .u8 0, .int .u8 0, .int .u8 10, .int .u8 0, .int .u8 0, .int .u8 255] 24)) wr → ∀ (j : Nat) u, #[.bool false, .int .u8 0, .int .u8 0, .int .u8 0, .int .u8 0, .int .u8 0, .int .u8 0, .int .u8 0, .int .u8 0, .int .u8 0, .int .u8 0, .int .u8 0, .int .u8 0, .int .u8 10, .int .u8 0, .int .u8 0, .int .u8 255][j]? = some u → wr.cell? ⟨w1.heap.size, j, none⟩ = some u) := Lib.hid fun w1 wr hb j u hu => by
    have h := (hb.block w1.heap.size (by simp)).trans (heap_alloc_last w1 _)
    rw [cell_of_row wr _ _ _ _ _ h]; exact hu
  rw [adV] at hz
  generalize (adC Ad.zero).toArray = Z at *
  clear hV
  go_enter Tryd.func12, Tryd.ntmps12
  go_wp2_with (first
    | (with_reducible refine wpList_alloc_zero (o := ⟨some 1, .alloc 24, _, _, _, _⟩) rfl 24 rfl Z hz ?_)
    | (go_at_call 13; refine HP.out.mono ?_; rintro _ w1 ⟨rfl, hb1⟩; have HB1 := Lib.hid hb1; have HQ1 := Lib.hid (HC.out w1 _ (Below.refl _ _)))
    | ((with_reducible refine wpList_store_new (o := ⟨none, .store 24 (.tmp 1) (.tmp 5), _, _, _, _⟩) rfl 24 (.tmp 1) (.tmp 5) rfl Z #[.bool false, .int .u8 0, .int .u8 0, .int .u8 0, .int .u8 0, .int .u8 0, .int .u8 0, .int .u8 0, .int .u8 0, .int .u8 0, .int .u8 0, .int .u8 0, .int .u8 0, .int .u8 10, .int .u8 0, .int .u8 0, .int .u8 255] ?_ ?_ hia hzs haa ?_); exact rfl; exact rfl))
  go_region_held3 (fun w' => w'.cell? ⟨w1.heap.size, 0, none⟩ = some (.bool false) ∧ w'.cell? ⟨w1.heap.size, 1, none⟩ = some (.int .u8 0) ∧ w'.cell? ⟨w1.heap.size, 2, none⟩ = some (.int .u8 0) ∧ w'.cell? ⟨w1.heap.size, 3, none⟩ = some (.int .u8 0) ∧ w'.cell? ⟨w1.heap.size, 4, none⟩ = some (.int .u8 0) ∧ w'.cell? ⟨w1.heap.size, 5, none⟩ = some (.int .u8 0) ∧ w'.cell? ⟨w1.heap.size, 6, none⟩ = some (.int .u8 0) ∧ w'.cell? ⟨w1.heap.size, 7, none⟩ = some (.int .u8 0) ∧ w'.cell? ⟨w1.heap.size, 8, none⟩ = some (.int .u8 0) ∧ w'.cell? ⟨w1.heap.size, 9, none⟩ = some (.int .u8 0) ∧ w'.cell? ⟨w1.heap.size, 10, none⟩ = some (.int .u8 0) ∧ w'.cell? ⟨w1.heap.size, 11, none⟩ = some (.int .u8 0) ∧ w'.cell? ⟨w1.heap.size, 12, none⟩ = some (.int .u8 0) ∧ w'.cell? ⟨w1.heap.size, 13, none⟩ = some (.int .u8 10) ∧ w'.cell? ⟨w1.heap.size, 14, none⟩ = some (.int .u8 0) ∧ w'.cell? ⟨w1.heap.size, 15, none⟩ = some (.int .u8 0) ∧ w'.cell? ⟨w1.heap.size, 16, none⟩ = some (.int .u8 255))
    (first | exact ⟨HQ1.out 0 _ rfl, HQ1.out 1 _ rfl, HQ1.out 2 _ rfl, HQ1.out 3 _ rfl, HQ1.out 4 _ rfl, HQ1.out 5 _ rfl, HQ1.out 6 _ rfl, HQ1.out 7 _ rfl, HQ1.out 8 _ rfl, HQ1.out 9 _ rfl, HQ1.out 10 _ rfl, HQ1.out 11 _ rfl, HQ1.out 12 _ rfl, HQ1.out 13 _ rfl, HQ1.out 14 _ rfl, HQ1.out 15 _ rfl, HQ1.out 16 _ rfl⟩ | exact ⟨HQ2.out.2 0 _ rfl, HQ2.out.2 1 _ rfl, HQ2.out.2 2 _ rfl, HQ2.out.2 3 _ rfl, HQ2.out.2 4 _ rfl, HQ2.out.2 5 _ rfl, HQ2.out.2 6 _ rfl, HQ2.out.2 7 _ rfl, HQ2.out.2 8 _ rfl, HQ2.out.2 9 _ rfl, HQ2.out.2 10 _ rfl, HQ2.out.2 11 _ rfl, HQ2.out.2 12 _ rfl, HQ2.out.2 13 _ rfl, HQ2.out.2 14 _ rfl, HQ2.out.2 15 _ rfl, HQ2.out.2 16 _ rfl⟩ | exact ⟨HQ3.out.2 0 _ rfl, HQ3.out.2 1 _ rfl, HQ3.out.2 2 _ rfl, HQ3.out.2 3 _ rfl, HQ3.out.2 4 _ rfl, HQ3.out.2 5 _ rfl, HQ3.out.2 6 _ rfl, HQ3.out.2 7 _ rfl, HQ3.out.2 8 _ rfl, HQ3.out.2 9 _ rfl, HQ3.out.2 10 _ rfl, HQ3.out.2 11 _ rfl, HQ3.out.2 12 _ rfl, HQ3.out.2 13 _ rfl, HQ3.out.2 14 _ rfl, HQ3.out.2 15 _ rfl, HQ3.out.2 16 _ rfl⟩)
    (first
      | (go_at_call 9; refine (four10 _).mono ?_; rintro _ w2 ⟨rfl, hb2⟩; have hu2 := up (up_drew (Below.refl _ (w1.alloc (.cells #[.bool false, .int .u8 0, .int .u8 0, .int .u8 0, .int .u8 0, .int .u8 0, .int .u8 0, .int .u8 0, .int .u8 0, .int .u8 0, .int .u8 0, .int .u8 0, .int .u8 0, .int .u8 10, .int .u8 0, .int .u8 0, .int .u8 255] 24)))) hb2; have HQ2 := Lib.hid (And.intro hu2 (HC.out w1 w2 hu2)); clear hb2 hu2)
      | (go_at_call 20; refine (shows10 _ (HV.out _ (HB1.out.trans (((up_alloc (Below.refl w1.heap.size w1) _).trans (HQ2.out.1.mono (by simp))).mono HB1.out.size)))).mono ?_; rintro _ w3 ⟨rfl, hb3⟩; have hu3 := up HQ2.out.1 hb3; have HQ3 := Lib.hid (And.intro hu3 (HC.out w1 w3 hu3)); clear hb3 hu3))
  go_wp2_with fail
  go_ret
  exact ⟨rfl, HB1.out.trans (((up_alloc (Below.refl w1.heap.size w1) _).trans (HQ3.out.1.mono (by simp))).mono HB1.out.size)⟩
end Go.Proofs.YtepibdjglfaniaaDoor
