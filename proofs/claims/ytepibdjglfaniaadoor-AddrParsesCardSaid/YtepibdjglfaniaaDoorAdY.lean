/-
  The document's text of an address of IPv6: a contract.
-/
import Derived.Test.YtepibdjglfaniaaDoorAdX
namespace Go.Proofs.YtepibdjglfaniaaDoor
open Go.RowKit
set_option maxRecDepth 100000 in
theorem rfShow_six (a : Ad) (w : World) (ha : a.Wide) (hs : a.six = true) : Calls Tryd.prog 25 #[adV a] w fun e w' => e = .returned (txt a.show) ∧ Below w.heap.size w w' := by
  have hl : a.b.length = 16 := ha
  have hg : a.good = true := by rw [Ad.good, hs]; rfl
  have hm8 : (showT a).length = 8 := by rw [showT_length ha, hs]; rfl
  obtain ⟨w1, hw1⟩ : ∃ w1, w1 = w.alloc (.cells (adC a).toArray 24) := ⟨_, rfl⟩
  have hat : w1.heap[w.heap.size]? = some (.cells (adC a).toArray 24 (0, 0)) := by rw [hw1]; exact heap_alloc_last w _
  have hb1 : Below w.heap.size w w1 := by rw [hw1]; exact up_alloc (Below.refl _ w) _
  have hlt : w.heap.size < w1.heap.size := by rw [hw1]; simp
  have h6 : ∀ wr, Below w1.heap.size w1 wr → wr.cell? ⟨w.heap.size, 0, none⟩ = some (.bool true) := fun wr hb => by
    have := adC_six ((hb.block w.heap.size hlt).trans hat)
    rwa [hs] at this
  obtain ⟨X, Y, hX⟩ : ∃ X Y : Nat → UInt8, ∀ j, j < 8 → a.b[2 * j]? = some (X j) ∧ a.b[2 * j + 1]? = some (Y j) ∧ (showT a)[j]? = some (digs 16 (256 * (X j).toNat + (Y j).toNat)) := by
    refine ⟨fun j => a.b.getD (2 * j) 0, fun j => a.b.getD (2 * j + 1) 0, fun j h2 => ?_⟩
    obtain ⟨x, y, e1, e2, e3⟩ := showT_six ha hs (k := j) h2
    have h1 : a.b.getD (2 * j) 0 = x := by rw [List.getD_eq_getElem?_getD, e1]; rfl
    have h2 : a.b.getD (2 * j + 1) 0 = y := by rw [List.getD_eq_getElem?_getD, e2]; rfl
    dsimp only
    rw [h1, h2]
    exact ⟨e1, e2, e3⟩
  have HP : Hid (∀ wr, Below w1.heap.size w1 wr → ∀ j, j < 8 → ∀ p r, p = 2 * j → r = 2 * j + 1 → wr.cell? ⟨w.heap.size, 1 + p, none⟩ = some (.int .u8 ((X j).toNat : Int)) ∧ wr.cell? ⟨w.heap.size, 1 + r, none⟩ = some (.int .u8 ((Y j).toNat : Int))) := Lib.hid fun wr hb j h2 p r hp hr => by
    have h := adC_range ((hb.block w.heap.size hlt).trans hat)
    refine ⟨h p _ ?_, h r _ ?_⟩
    · rw [hp, cellsB, List.getElem?_map, (hX j h2).1]; rfl
    · rw [hr, cellsB, List.getElem?_map, (hX j h2).2.1]; rfl
  have H6 := Lib.hid h6
  have HU : Hid (∀ wr, Below w1.heap.size w1 wr → Below w.heap.size w wr) := Lib.hid fun wr hb => up hb1 hb
  have HG : Hid (∀ w, Calls Tryd.prog 7 #[adV a] w fun e w' => e = .returned (.bool true) ∧ Below w.heap.size w w') := Lib.hid fun w => by rw [← hg]; exact rfGood_any a w ha
  obtain ⟨D, hD⟩ : ∃ D : Nat → ByteArray, D = fun j => ⟨(digs 16 (256 * (X j).toNat + (Y j).toNat)).toArray⟩ := ⟨_, rfl⟩
  obtain ⟨AK, hAK⟩ : ∃ AK : Nat → ByteArray, AK = fun j => accB a 8 j := ⟨_, rfl⟩
  have HN : Hid (∀ w j v, v = 256 * (X j).toNat + (Y j).toNat → Calls Tryd.prog 35 #[.int .i64 (v : Int), .int .i64 16] w fun e w' => e = .returned (.string (D j)) ∧ Below w.heap.size w w') := Lib.hid fun w j v hv => by
    rw [hD, hv]; exact rfNum_any (base := 16) (Or.inr rfl) _ (by have := (X j).toNat_lt; have := (Y j).toNat_lt; omega) w
  have HS : Hid (∀ j, j < 8 → AK (j + 1) = (if j < 7 then AK j ++ D j ++ ⟨#[58]⟩ else AK j ++ D j) ∧ (AK j).size ≤ 48 ∧ (D j).size ≤ 5) := Lib.hid fun j h2 => by
    have h := accB_step hm8 h2 (hX j h2).2.2
    rw [hAK, hD]
    dsimp only
    refine ⟨?_, accB_size (by omega) h2, ?_⟩
    · rw [h, hs]
      by_cases hj : j < 7
      · rw [if_pos (by omega), if_pos hj]; rfl
      · rw [if_neg (by omega), if_neg hj]
    · have := digs_five (base := 16) (n := 256 * (X j).toNat + (Y j).toNat) (by omega) (by have := (X j).toNat_lt; have := (Y j).toNat_lt; omega) (by omega)
      simpa [ByteArray.size] using this
  have H0 : Hid (AK 0 = ⟨#[]⟩) := Lib.hid (by rw [hAK]; simp [accB, trail])
  have HE : Hid (txt a.show = .string (AK 8)) := Lib.hid (by rw [hAK, Ad.show_good hg, txt]; rfl)
  have hsz := info_adA ha
  have hxb : ∀ j, (X j).toNat < 256 ∧ (Y j).toNat < 256 := fun j => ⟨(X j).toNat_lt, (Y j).toNat_lt⟩
  have HXB := Lib.hid hxb
  obtain ⟨S, hSd⟩ : ∃ S, S = txt a.show := ⟨_, rfl⟩
  rw [← hSd] at HE ⊢
  rw [adV] at HG ⊢
  generalize (adC a).toArray = C at *
  clear hX hD hAK h6 hb1 hlt hm8 hl hg hs ha hSd hxb
  subst hw1
  go_enter Tryd.func25, Tryd.ntmps25
  go_wp2_with (first
    | ((with_reducible refine wpList_load_row (o := ⟨some 6, .load 24 (.tmp 1), _, _, _, _⟩) rfl 24 (.tmp 1) rfl w.heap.size ?_ 24 C (0, 0) _ hat Tryd.underlying24 rfl hsz ?_); exact rfl)
    | (go_at_call 7; refine (HG.out _).mono ?_; rintro _ w2 ⟨rfl, hb2⟩; have HB2 := Lib.hid hb2; have hc2 := H6.out w2 hb2; clear hb2))
  go_loopw [3, 4] (fun sv iv wr => iv = .int .i64 12 ∧ sv = .string ⟨#[]⟩ ∧ wr = w2) (fun _ _ _ => 0)
  case atStart => exact ⟨rfl, rfl, rfl⟩
  case round =>
    obtain ⟨rfl, rfl, rfl⟩ := hrel
    go_wp2_with fail
    go_loopw [3, 5] (fun sv iv wr => ∃ (j : Nat), j ≤ 8 ∧ iv = .int .i64 (j : Int) ∧ sv = .string (AK j) ∧ Below (w.alloc (.cells C 24)).heap.size (w.alloc (.cells C 24)) wr) (fun _ iv _ => 8 - (intOf iv).toNat)
    case atStart => exact ⟨0, by omega, rfl, by rw [H0.out], HB2.out⟩
    case round =>
      obtain ⟨j, hj8, rfl, rfl, hbel⟩ := hrel
      have hc0 := H6.out _ hbel
      by_cases hj : j < 8
      · obtain ⟨p, hp⟩ : ∃ p, p = 2 * j := ⟨_, rfl⟩
        obtain ⟨r, hr⟩ : ∃ r, r = 2 * j + 1 := ⟨_, rfl⟩
        obtain ⟨hcx, hcy⟩ := HP.out _ hbel j hj p r hp hr
        obtain ⟨hstep, hsA, hsD⟩ := HS.out j hj
        obtain ⟨hx8, hy8⟩ := HXB.out j
        obtain ⟨v, hv⟩ : ∃ v, v = 256 * (X j).toNat + (Y j).toNat := ⟨_, rfl⟩
        have hNj : ∀ w, Calls Tryd.prog 35 #[.int .i64 (v : Int), .int .i64 16] w fun e w' => e = .returned (.string (D j)) ∧ Below w.heap.size w w' := fun w => HN.out w j v hv
        obtain ⟨m, hm⟩ : ∃ m, m = 256 * (X j).toNat := ⟨_, rfl⟩
        obtain ⟨x, hx⟩ : ∃ x, x = (X j).toNat := ⟨_, rfl⟩
        obtain ⟨y, hy⟩ : ∃ y, y = (Y j).toNat := ⟨_, rfl⟩
        obtain ⟨d, hd⟩ : ∃ d, d = D j := ⟨_, rfl⟩
        obtain ⟨t, ht⟩ : ∃ t, t = AK j := ⟨_, rfl⟩
        rw [← hx] at hcx hx8 hv hm
        rw [← hy] at hcy hy8 hv
        rw [← hd] at hNj hstep hsD
        rw [← ht] at hstep hsA ⊢
        have hwp : IntKind.i64.wrap (2 * (j : Int)) = (p : Int) := by rw [IntWalk.i64_in _ (by omega)]; omega
        have hwr : IntKind.i64.wrap ((p : Int) + 1) = (r : Int) := by rw [IntWalk.i64_in _ (by omega)]; omega
        have hwm : IntKind.i64.wrap (256 * (x : Int)) = (m : Int) := by rw [IntWalk.i64_in _ (by omega)]; omega
        have hwv : IntKind.i64.wrap ((m : Int) + (y : Int)) = (v : Int) := by rw [IntWalk.i64_in _ (by omega)]; omega
        have hwx : IntKind.i64.wrap (x : Int) = (x : Int) := IntWalk.i64_in _ (by omega)
        have hwy : IntKind.i64.wrap (y : Int) = (y : Int) := IntWalk.i64_in _ (by omega)
        have hp0 : (0 : Int) ≤ (p : Int) := by omega
        have hp1 : (p : Int) < 16 := by omega
        have hr0 : (0 : Int) ≤ (r : Int) := by omega
        have hr1 : (r : Int) < 16 := by omega
        have hx0 : (x : Int) ≤ 255 := by omega
        have hy0 : (y : Int) ≤ 255 := by omega
        have HNj := Lib.hid hNj
        have hsum : ¬ 9223372036854775807 < t.size + d.size := by omega
        have hsum2 : ¬ 9223372036854775807 < (t ++ d).size + 1 := by rw [ByteArray.size_append]; omega
        have hji : (j : Int) < 8 := by omega
        clear hNj hx hd ht hy hm hv hp hr hx8 hy8
        by_cases h7 : j < 7
        · rw [if_pos h7] at hstep
          have HT := Lib.hid hstep
          have t1 : (j : Int) < 7 := by omega
          clear hstep
          go_wp2_with fail
          go_region_held3 (fun w' => w'.cell? ⟨w.heap.size, 1 + p, none⟩ = some (.int .u8 (x : Int)) ∧ w'.cell? ⟨w.heap.size, 1 + r, none⟩ = some (.int .u8 (y : Int)))
            (first | exact ⟨hcx, hcy⟩ | exact ⟨(hk _).trans hcx, (hk _).trans hcy⟩)
            (first
              | (go_at_call 35; refine (HNj.out _).mono ?_; rintro _ w3 ⟨rfl, hb3⟩; have hbel3 := up (up_drew hbel) hb3; have hk : ∀ o, w3.cell? ⟨w.heap.size, o, none⟩ = wr.cell? ⟨w.heap.size, o, none⟩ := fun o => hb3.cell (show w.heap.size < wr.heap.size from Nat.lt_of_lt_of_le (by simp) hbel.size)))
          go_wp2_with fail
          go_roundw
          case rel => exact ⟨j + 1, by omega, by go_num, by rw [HT.out], hbel3⟩
          case measure => simp [intOf]; omega
        · rw [if_neg h7] at hstep
          have HT := Lib.hid hstep
          have t1 : ¬ (j : Int) < 7 := by omega
          clear hstep
          go_wp2_with fail
          go_region_held3 (fun w' => w'.cell? ⟨w.heap.size, 1 + p, none⟩ = some (.int .u8 (x : Int)) ∧ w'.cell? ⟨w.heap.size, 1 + r, none⟩ = some (.int .u8 (y : Int)))
            (first | exact ⟨hcx, hcy⟩ | exact ⟨(hk _).trans hcx, (hk _).trans hcy⟩)
            (first
              | (go_at_call 35; refine (HNj.out _).mono ?_; rintro _ w3 ⟨rfl, hb3⟩; have hbel3 := up (up_drew hbel) hb3; have hk : ∀ o, w3.cell? ⟨w.heap.size, o, none⟩ = wr.cell? ⟨w.heap.size, o, none⟩ := fun o => hb3.cell (show w.heap.size < wr.heap.size from Nat.lt_of_lt_of_le (by simp) hbel.size)))
          go_wp2_with fail
          go_roundw
          case rel => exact ⟨j + 1, by omega, by go_num, by rw [HT.out], hbel3⟩
          case measure => simp [intOf]; omega
      · obtain rfl : j = 8 := by omega
        go_wp2_with fail
        go_ret
        exact ⟨by rw [HE.out]; rfl, HU.out _ hbel⟩
/-- The document's text of an address. -/
theorem rfShow_any (a : Ad) (w : World) (ha : a.Wide) : Calls Tryd.prog 25 #[adV a] w fun e w' => e = .returned (txt a.show) ∧ Below w.heap.size w w' := by
  cases hg : a.good
  · exact rfShow_bad a w ha hg
  · cases hs : a.six
    · exact rfShow_four a w ha hg hs
    · exact rfShow_six a w ha hs
end Go.Proofs.YtepibdjglfaniaaDoor
