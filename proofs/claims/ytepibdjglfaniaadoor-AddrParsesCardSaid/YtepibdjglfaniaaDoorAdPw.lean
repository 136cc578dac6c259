/-
  The document's reader of addresses: a contract.
-/
import Derived.Test.YtepibdjglfaniaaDoorAdPr
namespace Go.Proofs.YtepibdjglfaniaaDoor
open Go.RowKit
theorem digit_lt {c : UInt8} {d : Nat} (h : digit c = some d) : d ≤ 15 := by
  rw [digit] at h
  split at h
  · injection h with h; omega
  · split at h
    · injection h with h; omega
    · cases h
set_option maxRecDepth 100000 in
set_option maxHeartbeats 1000000 in
theorem rfParse_any (s : List UInt8) (w : World) (hs : s.length ≤ 1000)
    (hSh : ∀ (a : Ad) (w : World), a.Wide → Calls Tryd.prog 25 #[adV a] w fun e w' => e = .returned (.string ⟨a.show.toArray⟩) ∧ Below w.heap.size w w') :
    Calls Tryd.prog 14 #[.string ⟨s.toArray⟩] w fun e w' => e = .returned (.tuple #[adV ((adOf s).getD Ad.zero), .bool (adOf s).isSome]) ∧ Below w.heap.size w w' := by
  have hz := zero_ad
  have hbu := build_ad
  obtain ⟨w1, hw1⟩ : ∃ w1, w1 = (w.alloc (.cells (adC Ad.zero).toArray 24)).alloc (.cells (adC Ad.zero).toArray 24) := ⟨_, rfl⟩
  have hA0 : AdAt w1 w.heap.size Ad.zero := by
    rw [hw1]; exact (heap_alloc_old _ _ (by simp)).trans (heap_alloc_last w _)
  have hA1 : AdAt w1 (w.heap.size + 1) Ad.zero := by
    rw [hw1]
    have := heap_alloc_last (w.alloc (.cells (adC Ad.zero).toArray 24)) (.cells (adC Ad.zero).toArray 24)
    rwa [show (w.alloc (.cells (adC Ad.zero).toArray 24)).heap.size = w.heap.size + 1 by simp] at this
  have hb1 : Below w.heap.size w w1 := by rw [hw1]; exact up_alloc (up_alloc (Below.refl _ w) _) _
  have hi0 := info_adA (a := Ad.zero) rfl
  have hza := all_oneCell_toArray (adC_one Ad.zero)
  have hIx : Hid (∀ i (h : i < s.length) W, (Instr.index 9 (.string ⟨s.toArray⟩) (.int .i64 (i : Int))).run Tryd.prog W = .ok (.int .u8 ((s[i]).toNat : Int)) W) := Lib.hid fun i h W => idx_at h W
  have hsz : ((⟨s.toArray⟩ : ByteArray).size : Int) = (s.length : Int) := by simp [ByteArray.size]
  have H1 := Lib.hid (And.intro hA0 (And.intro hA1 hb1))
  obtain ⟨S, hS⟩ : ∃ S, S = (⟨s.toArray⟩ : ByteArray) := ⟨_, rfl⟩
  rw [← hS] at hIx hsz ⊢
  obtain ⟨N, hN⟩ : ∃ N, N = s.length := ⟨_, rfl⟩
  rw [← hN] at hsz hs
  have HSN := Lib.hid (And.intro hS hN)
  have HSh := Lib.hid hSh
  clear hA0 hA1 hb1 hS hN hSh
  rw [adV] at hz hbu
  obtain ⟨Z, hZ⟩ : ∃ Z, Z = (adC Ad.zero).toArray := ⟨_, rfl⟩
  rw [← hZ] at hz hbu hi0 hza hw1
  have HZ := Lib.hid hZ
  clear hZ
  subst hw1
  have hN0 : (0 : Int) ≤ (N : Int) := by omega
  have hN1 : (N : Int) ≤ 1000 := by omega
  go_enter Tryd.func14, Tryd.ntmps14
  go_wp2_with (first
    | (with_reducible refine wpList_alloc_zero (o := ⟨some 2, .alloc 24, _, _, _, _⟩) rfl 24 rfl Z hz ?_)
    | (with_reducible refine wpList_alloc_zero (o := ⟨some 4, .alloc 24, _, _, _, _⟩) rfl 24 rfl Z hz ?_)
    | ((with_reducible refine wpList_store_new (o := ⟨none, .store 24 (.tmp 4) (.tmp 11), _, _, _, _⟩) rfl 24 (.tmp 4) (.tmp 11) rfl Z Z ?_ ?_ hi0 rfl hza ?_); (first | kernel_rfl | exact rfl); (first | kernel_rfl | exact rfl)))
  go_loopw [7, 8] (fun bv iv wr => ∃ i : Nat, i ≤ N ∧ iv = .int .i64 (i : Int) ∧ bv = .int .i64 ((bas (decide (58 ∈ s.take i)) : Nat) : Int) ∧ Hid (AdAt wr w.heap.size Ad.zero ∧ AdAt wr (w.heap.size + 1) ⟨decide (58 ∈ s.take i), List.replicate 16 0⟩ ∧ Below w.heap.size w wr)) (fun _ iv _ => N - (intOf iv).toNat)
  case atStart => exact ⟨0, by omega, rfl, by simp [bas], Lib.hid ⟨H1.out.1, by rw [show decide (58 ∈ s.take 0) = false by simp]; exact H1.out.2.1, H1.out.2.2⟩⟩
  case round =>
    obtain ⟨i, hi, rfl, rfl, HI⟩ := hrel
    obtain ⟨ha0, ha1, hbel⟩ := HI.out
    by_cases hlt : i < N
    · have hls : i < s.length := by rw [← HSN.out.2]; exact hlt
      have hix := hIx.out i hls
      have hcn := colon_next hls
      have hil : (i : Int) < (N : Int) := by omega
      obtain ⟨c, hc⟩ : ∃ c, c = s[i] := ⟨_, rfl⟩
      rw [← hc] at hix hcn
      by_cases h58 : c = 58
      · have hx58 : (c.toNat : Int) = 58 := by rw [h58]; rfl
        have hfz := ha1.free 0
        have hc0 := adC_six ha1
        have hset := ha1.six_set true
        have h02 := AdAt.off (j := 0) (u := .bool true) ha0 (show w.heap.size ≠ w.heap.size + 1 by omega)
        have hbel2 := hbel.setCell (p := ⟨w.heap.size + 1, 0, none⟩) (Nat.le_succ _) (.bool true)
        have ht : decide (58 ∈ s.take (i + 1)) = true := by rw [hcn, decide_eq_true h58, Bool.or_true]
        have HN := Lib.hid (And.intro h02 (And.intro hset (And.intro hbel2 ht)))
        rw [hx58] at hix
        clear hc hcn h58 hset h02 hbel2 ht ha0 ha1 hbel HI
        go_wp2_with fail
        go_roundw
        case rel => exact ⟨i + 1, by omega, by go_num, by rw [HN.out.2.2.2]; rfl, Lib.hid ⟨HN.out.1, by rw [HN.out.2.2.2]; exact HN.out.2.1, HN.out.2.2.1⟩⟩
        case measure => simp [intOf] <;> omega
      · have hneb : ((c.toNat : Int) == 58) = false := by
          rw [beq_eq_false_iff_ne]
          exact fun e => h58 (UInt8.toNat_inj.1 (by show c.toNat = 58; omega))
        have ht : decide (58 ∈ s.take (i + 1)) = decide (58 ∈ s.take i) := by rw [hcn, decide_eq_false h58, Bool.or_false]
        have HN := Lib.hid (And.intro ha0 (And.intro ha1 (And.intro hbel ht)))
        clear hc hcn h58 ht ha0 ha1 hbel HI
        go_wp2_with fail
        go_roundw
        case rel => exact ⟨i + 1, by omega, by go_num, by rw [HN.out.2.2.2], Lib.hid ⟨HN.out.1, by rw [HN.out.2.2.2]; exact HN.out.2.1, HN.out.2.2.1⟩⟩
        case measure => simp [intOf] <;> omega
    · obtain rfl : i = N := by omega
      have hall : decide (58 ∈ s.take i) = decide (58 ∈ s) := by rw [HSN.out.2, List.take_length]
      rw [hall] at HI ⊢
      clear ha0 ha1 hbel
      have HAll := Lib.hid hall
      clear hall
      go_wp2_with fail
      generalize hsx : decide (58 ∈ s) = six at HI ⊢
      have HSX := Lib.hid hsx
      clear hsx
      cases six
      · rw [show ((bas false : Nat) : Int) = 10 from rfl]
        go_loopw [5, 6, 9] (fun nv kv jv wr => ∃ j : Nat, j ≤ i + 1 ∧ jv = .int .i64 (j : Int) ∧ nv = .int .i64 ((stAt false s j).n : Int) ∧ kv = .int .i64 ((stAt false s j).k : Int) ∧ Hid (AdAt wr w.heap.size Ad.zero ∧ AdAt wr (w.heap.size + 1) ⟨false, (stAt false s j).B⟩ ∧ Below w.heap.size w wr)) (fun _ _ jv _ => (i + 1) - (intOf jv).toNat)
        case atStart => exact ⟨0, by omega, rfl, by rw [stAt_zero]; rfl, by rw [stAt_zero]; rfl, Lib.hid ⟨HI.out.1, by rw [stAt_zero]; exact HI.out.2.1, HI.out.2.2⟩⟩
        case round =>
          obtain ⟨j, hj, rfl, rfl, rfl, HJ⟩ := hrel
          obtain ⟨hb0, hb1, hbel2⟩ := HJ.out
          obtain ⟨hOB, _, hOn⟩ := stAt_ok false s j
          have hOk := stAt_k false s j
          obtain ⟨T, hT⟩ : ∃ T, T = stAt false s j := ⟨_, rfl⟩
          rw [← hT] at hb1 hOB hOn hOk ⊢
          obtain ⟨B, n, k⟩ := T
          dsimp only at hb1 hOB hOn hOk ⊢
          have hn0 : (0 : Int) ≤ (n : Int) := by omega
          have hn6 : (n : Int) < 65536 := by omega
          have hk0 : (0 : Int) ≤ (k : Int) := by omega
          have hk9 : (k : Int) ≤ 2000 := by omega
          have hj0 : (0 : Int) ≤ (j : Int) := by omega
          have hc0 := adC_six hb1
          have H0 := Lib.hid (And.intro hb0 (And.intro hb1 hbel2))
          have hfr := hb1.free
          by_cases hlt : j < i
          · have hls : j < s.length := by rw [← HSN.out.2]; exact hlt
            have hix := hIx.out j hls
            have hnx := stAt_next (six := false) hls
            rw [← hT] at hnx
            have hji : (j : Int) ≤ (i : Int) := by omega
            have hjn : ((j : Int) == (i : Int)) = false := by rw [beq_eq_false_iff_ne]; omega
            have hji2 : (j : Int) < (i : Int) := by omega
            obtain ⟨c, hc⟩ : ∃ c, c = s[j] := ⟨_, rfl⟩
            rw [← hc] at hix hnx
            by_cases h58 : c = 58
            · rw [RSt.step, if_pos (Or.inl h58)] at hnx
              have HX := Lib.hid hnx
              simp only [RSt.mark] at HX
              rw [show (c.toNat : Int) = 58 by rw [h58]; rfl] at hix
              clear hc hnx h58
              by_cases hk8 : k < 4
              · skip
                obtain ⟨p, hp⟩ : ∃ p, p = 12 + k := ⟨_, rfl⟩
                obtain ⟨m, hm⟩ : ∃ m, m = n % 256 := ⟨_, rfl⟩
                have hput := put_four (n := n) hb1 hk8
                rw [← hm, ← hp] at hput
                have hz1 := AdAt.off (j := 1 + p) (u := .int .u8 (m : Int)) hb0 (show w.heap.size ≠ w.heap.size + 1 by omega)
                have hbl := hbel2.setCell (p := ⟨w.heap.size + 1, 1 + p, none⟩) (Nat.le_succ _) (.int .u8 (m : Int))
                have HM := Lib.hid (And.intro hz1 (And.intro hput hbl))
                obtain ⟨xp, hcp⟩ : ∃ xp : UInt8, wr.cell? ⟨w.heap.size + 1, 1 + p, none⟩ = some (.int .u8 (xp.toNat : Int)) := ⟨_, adC_at hb1 (show p < B.length by omega)⟩
                have hfp := hb1.free (1 + p)
                have hpi : (12 : Int) + (k : Int) = (p : Int) := by omega
                have hp16 : (p : Int) < 16 := by omega
                have hmi : (n : Int) % 256 = (m : Int) := by omega
                have hm8 : (m : Int) ≤ 255 := by omega
                have hk8i : (k : Int) < 4 := by omega
                clear hput hz1 hbl hm hp hb0 hb1 hbel2 hT HJ hfr
                go_wp2_with fail
                go_roundw
                case rel => exact ⟨j + 1, by omega, by go_num, by rw [HX.out] <;> rfl, by rw [HX.out]; go_num, Lib.hid (by rw [HX.out]; exact HM.out)⟩
                case measure => simp [intOf] <;> omega
              · skip
                have hnk : ¬ (k : Int) < 4 := by omega
                have HM : Hid _ := H0
                have hpn : putN false B k n = B := by rw [putN, if_neg (by simp), if_neg hk8]
                rw [hpn] at HX
                clear hb0 hb1 hbel2 hT HJ hfr hpn
                go_wp2_with fail
                go_roundw
                case rel => exact ⟨j + 1, by omega, by go_num, by rw [HX.out] <;> rfl, by rw [HX.out]; go_num, Lib.hid (by rw [HX.out]; exact HM.out)⟩
                case measure => simp [intOf] <;> omega
            · by_cases h46 : c = 46
              · rw [RSt.step, if_pos (Or.inr h46)] at hnx
                have HX := Lib.hid hnx
                simp only [RSt.mark] at HX
                rw [show (c.toNat : Int) = 46 by rw [h46]; rfl] at hix
                clear hc hnx h58 h46
                by_cases hk8 : k < 4
                · skip
                  obtain ⟨p, hp⟩ : ∃ p, p = 12 + k := ⟨_, rfl⟩
                  obtain ⟨m, hm⟩ : ∃ m, m = n % 256 := ⟨_, rfl⟩
                  have hput := put_four (n := n) hb1 hk8
                  rw [← hm, ← hp] at hput
                  have hz1 := AdAt.off (j := 1 + p) (u := .int .u8 (m : Int)) hb0 (show w.heap.size ≠ w.heap.size + 1 by omega)
                  have hbl := hbel2.setCell (p := ⟨w.heap.size + 1, 1 + p, none⟩) (Nat.le_succ _) (.int .u8 (m : Int))
                  have HM := Lib.hid (And.intro hz1 (And.intro hput hbl))
                  obtain ⟨xp, hcp⟩ : ∃ xp : UInt8, wr.cell? ⟨w.heap.size + 1, 1 + p, none⟩ = some (.int .u8 (xp.toNat : Int)) := ⟨_, adC_at hb1 (show p < B.length by omega)⟩
                  have hfp := hb1.free (1 + p)
                  have hpi : (12 : Int) + (k : Int) = (p : Int) := by omega
                  have hp16 : (p : Int) < 16 := by omega
                  have hmi : (n : Int) % 256 = (m : Int) := by omega
                  have hm8 : (m : Int) ≤ 255 := by omega
                  have hk8i : (k : Int) < 4 := by omega
                  clear hput hz1 hbl hm hp hb0 hb1 hbel2 hT HJ hfr
                  go_wp2_with fail
                  go_roundw
                  case rel => exact ⟨j + 1, by omega, by go_num, by rw [HX.out] <;> rfl, by rw [HX.out]; go_num, Lib.hid (by rw [HX.out]; exact HM.out)⟩
                  case measure => simp [intOf] <;> omega
                · skip
                  have hnk : ¬ (k : Int) < 4 := by omega
                  have HM : Hid _ := H0
                  have hpn : putN false B k n = B := by rw [putN, if_neg (by simp), if_neg hk8]
                  rw [hpn] at HX
                  clear hb0 hb1 hbel2 hT HJ hfr hpn
                  go_wp2_with fail
                  go_roundw
                  case rel => exact ⟨j + 1, by omega, by go_num, by rw [HX.out] <;> rfl, by rw [HX.out]; go_num, Lib.hid (by rw [HX.out]; exact HM.out)⟩
                  case measure => simp [intOf] <;> omega
              · have hne58 : ((c.toNat : Int) == 58) = false := by
                  rw [beq_eq_false_iff_ne]
                  exact fun e => h58 (UInt8.toNat_inj.1 (by show c.toNat = 58; omega))
                have hne46 : ((c.toNat : Int) == 46) = false := by
                  rw [beq_eq_false_iff_ne]
                  exact fun e => h46 (UInt8.toNat_inj.1 (by show c.toNat = 46; omega))
                rw [RSt.step, if_neg (by rintro (h | h); exact h58 h; exact h46 h)] at hnx
                dsimp only [bas] at hnx
                have HM : Hid _ := H0
                have hdig := fun w => rfDigit_any c w
                rw [digI] at hdig
                rw [addDig] at hnx
                clear hb0 hb1 hbel2 hT HJ hfr hc h58 h46
                cases hdg : digit c with
                | none =>
                  rw [hdg] at hnx hdig
                  have HX := Lib.hid hnx
                  have HD := Lib.hid hdig
                  clear hnx hdig hdg
                  go_wp2_with (go_at_call 24; refine (HD.out _).mono ?_; rintro _ _ ⟨rfl, rfl⟩)
                  go_roundw
                  case rel => exact ⟨j + 1, by omega, by go_num, by rw [HX.out] <;> first | rfl | (simp only [hmi]), by rw [HX.out], Lib.hid (by rw [HX.out]; exact HM.out)⟩
                  case measure => simp [intOf] <;> omega
                | some d =>
                  rw [hdg] at hnx hdig
                  replace hdig : ∀ w, Calls Tryd.prog 24 #[.int .u8 (c.toNat : Int)] w fun e w' => e = .returned (.int .i64 (d : Int)) ∧ w = w' := hdig
                  have HD := Lib.hid hdig
                  by_cases hd : d < 10
                  · have hd0 : (0 : Int) ≤ (d : Int) := by omega
                    have hdb : (d : Int) < 10 := by omega
                    obtain ⟨m, hm⟩ : ∃ m, m = (n * 10 + d) % 65536 := ⟨_, rfl⟩
                    have hmi : ((n : Int) * 10 + (d : Int)) % 65536 = (m : Int) := by omega
                    have HX : Hid (stAt false s (j + 1) = ⟨B, m, k⟩) := Lib.hid (by rw [hnx, hm]; show (⟨B, if d < 10 then (n * 10 + d) % 65536 else n, k⟩ : RSt) = _; rw [if_pos hd])
                    clear hnx hdig hdg hm
                    go_wp2_with (go_at_call 24; refine (HD.out _).mono ?_; rintro _ _ ⟨rfl, rfl⟩)
                    go_roundw
                    case rel => exact ⟨j + 1, by omega, by go_num, by rw [HX.out] <;> first | rfl | (simp only [hmi]), by rw [HX.out], Lib.hid (by rw [HX.out]; exact HM.out)⟩
                    case measure => simp [intOf] <;> omega
                  · have hd0 : (0 : Int) ≤ (d : Int) := by omega
                    have hd15 : (d : Int) ≤ 15 := by have := digit_lt hdg; omega
                    have t9 : decide ((d : Int) < 10) = false := decide_eq_false (by omega)
                    have HX : Hid (stAt false s (j + 1) = ⟨B, n, k⟩) := Lib.hid (by rw [hnx]; show (⟨B, if d < 10 then (n * 10 + d) % 65536 else n, k⟩ : RSt) = _; rw [if_neg hd])
                    clear hnx hdig hdg hd
                    go_wp2_with (go_at_call 24; refine (HD.out _).mono ?_; rintro _ _ ⟨rfl, rfl⟩)
                    go_roundw
                    case rel => exact ⟨j + 1, by omega, by go_num, by rw [HX.out] <;> first | rfl | (simp only [hmi]), by rw [HX.out], Lib.hid (by rw [HX.out]; exact HM.out)⟩
                    case measure => simp [intOf] <;> omega
          · by_cases hend : j = i
            · have hnx := stAt_last false s
              rw [← HSN.out.2, ← hend, ← hT] at hnx
              have HX := Lib.hid hnx
              simp only [RSt.mark] at HX
              subst hend
              clear hnx
              by_cases hk8 : k < 4
              · skip
                obtain ⟨p, hp⟩ : ∃ p, p = 12 + k := ⟨_, rfl⟩
                obtain ⟨m, hm⟩ : ∃ m, m = n % 256 := ⟨_, rfl⟩
                have hput := put_four (n := n) hb1 hk8
                rw [← hm, ← hp] at hput
                have hz1 := AdAt.off (j := 1 + p) (u := .int .u8 (m : Int)) hb0 (show w.heap.size ≠ w.heap.size + 1 by omega)
                have hbl := hbel2.setCell (p := ⟨w.heap.size + 1, 1 + p, none⟩) (Nat.le_succ _) (.int .u8 (m : Int))
                have HM := Lib.hid (And.intro hz1 (And.intro hput hbl))
                obtain ⟨xp, hcp⟩ : ∃ xp : UInt8, wr.cell? ⟨w.heap.size + 1, 1 + p, none⟩ = some (.int .u8 (xp.toNat : Int)) := ⟨_, adC_at hb1 (show p < B.length by omega)⟩
                have hfp := hb1.free (1 + p)
                have hpi : (12 : Int) + (k : Int) = (p : Int) := by omega
                have hp16 : (p : Int) < 16 := by omega
                have hmi : (n : Int) % 256 = (m : Int) := by omega
                have hm8 : (m : Int) ≤ 255 := by omega
                have hk8i : (k : Int) < 4 := by omega
                clear hput hz1 hbl hm hp hb0 hb1 hbel2 hT HJ hfr
                go_wp2_with fail
                go_roundw
                case rel => exact ⟨j + 1, by omega, by go_num, by rw [HX.out] <;> rfl, by rw [HX.out]; go_num, Lib.hid (by rw [HX.out]; exact HM.out)⟩
                case measure => simp [intOf] <;> omega
              · skip
                have hnk : ¬ (k : Int) < 4 := by omega
                have HM : Hid _ := H0
                have hpn : putN false B k n = B := by rw [putN, if_neg (by simp), if_neg hk8]
                rw [hpn] at HX
                clear hb0 hb1 hbel2 hT HJ hfr hpn
                go_wp2_with fail
                go_roundw
                case rel => exact ⟨j + 1, by omega, by go_num, by rw [HX.out] <;> rfl, by rw [HX.out]; go_num, Lib.hid (by rw [HX.out]; exact HM.out)⟩
                case measure => simp [intOf] <;> omega
            · have hje : j = i + 1 := by omega
              obtain ⟨x, hx⟩ : ∃ x : Ad, x = ⟨false, B⟩ := ⟨_, rfl⟩
              have hxr : x = rread false s := by
                rw [hx, ← stAt_all, ← HSN.out.2, ← hje, ← hT]
              have hxw : x.Wide := by rw [hx]; exact hOB
              have href := adOf_ref s
              rw [HSX.out, ← hxr] at href
              rw [← hx] at hb1
              have hxi := info_adA hxw
              have hat1 : wr.heap[w.heap.size + 1]? = some (.cells (adC x).toArray 24 (0, 0)) := hb1
              have hshow := fun w => HSh.out x w hxw
              have t26 : ¬ (j : Int) ≤ (i : Int) := by omega
              have HB0 := Lib.hid (And.intro hb0 (And.intro hb1 hbel2))
              have Hxw := Lib.hid hxw
              have Hsh2 := Lib.hid hshow
              have hSd := HSN.out.1
              by_cases hq : x.show = s
              · rw [if_pos hq] at href
                have HREF := Lib.hid href
                have hnq : ((⟨x.show.toArray⟩ : ByteArray).toList == S.toList) = true := by rw [hSd, hq]; simp
                generalize (⟨x.show.toArray⟩ : ByteArray) = SX at Hsh2 hnq
                clear hshow hb0 hb1 hbel2 hT HJ hfr hc0 href hq hSd hx hxr hxw H0 hOB hje hlt hend
                go_wp2_with (first
                  | ((with_reducible refine wpList_load_row (o := ⟨some 99, .load 24 (.tmp 4), _, _, _, _⟩) rfl 24 (.tmp 4) rfl (w.heap.size + 1) ?_ 24 (adC x).toArray (0, 0) _ hat1 Tryd.underlying24 rfl hxi ?_); (first | kernel_rfl | exact rfl))
                  | (go_at_call 25; refine (Hsh2.out _).mono ?_; rintro _ w5 ⟨rfl, hb5⟩; have hat5 : w5.heap[w.heap.size + 1]? = some (.cells (adC x).toArray 24 (0, 0)) := HB0.out.2.1.below hb5 HB0.out.2.1.lt; obtain ⟨w6, hst6, _, hat6, hgr6, _⟩ := store_ad (b := x) (HB0.out.1.below hb5 HB0.out.1.lt) rfl Hxw.out; have H6 := Lib.hid (And.intro hat6 (grown_below (HB0.out.2.2.trans (hb5.mono HB0.out.2.2.size)) hgr6 (Nat.le_refl _))); clear hat6 hgr6)
                  | ((with_reducible refine wpList_load_row (o := ⟨some 104, .load 24 (.tmp 4), _, _, _, _⟩) rfl 24 (.tmp 4) rfl (w.heap.size + 1) ?_ 24 (adC x).toArray (0, 0) _ hat5 Tryd.underlying24 rfl hxi ?_); (first | kernel_rfl | exact rfl))
                  | ((with_reducible refine wpList_stored (o := ⟨none, .store 24 (.tmp 2) (.tmp 104), _, _, _, none⟩) rfl 24 (.tmp 2) (.tmp 104) rfl (.pointer (some ⟨w.heap.size, 0, none⟩)) (adV x) ?_ ?_ w6 hst6 ?_); (first | kernel_rfl | exact rfl); (first | kernel_rfl | exact rfl)))
                exact bodyPost_ret (ret_ad (p := 2) (q := 3) (by kernel_rfl) (by kernel_rfl) H6.out.1 Hxw.out (by kernel_rfl)) (by kernel_rfl) ⟨by rw [HREF.out]; rfl, H6.out.2⟩
              · rw [if_neg hq] at href
                have HREF := Lib.hid href
                have hnq : ((⟨x.show.toArray⟩ : ByteArray).toList == S.toList) = false := by
                  rw [hSd, ByteArray.toList_eq, ByteArray.toList_eq, beq_eq_false_iff_ne]; exact hq
                generalize (⟨x.show.toArray⟩ : ByteArray) = SX at Hsh2 hnq
                clear hshow hb0 hb1 hbel2 hT HJ hfr hc0 href hq hSd hx hxr hxw H0 hOB hje hlt hend
                go_wp2_with (first
                  | ((with_reducible refine wpList_load_row (o := ⟨some 99, .load 24 (.tmp 4), _, _, _, _⟩) rfl 24 (.tmp 4) rfl (w.heap.size + 1) ?_ 24 (adC x).toArray (0, 0) _ hat1 Tryd.underlying24 rfl hxi ?_); (first | kernel_rfl | exact rfl))
                  | (go_at_call 25; refine (Hsh2.out _).mono ?_; rintro _ w5 ⟨rfl, hb5⟩; obtain ⟨w6, hst6, _, hat6, hgr6, _⟩ := store_ad (b := Ad.zero) (HB0.out.1.below hb5 HB0.out.1.lt) rfl rfl; have H6 := Lib.hid (And.intro hat6 (grown_below (HB0.out.2.2.trans (hb5.mono HB0.out.2.2.size)) hgr6 (Nat.le_refl _))); clear hat6 hgr6; rw [adV, ← HZ.out] at hst6)
                  | ((with_reducible refine wpList_stored (o := ⟨none, .store 24 (.tmp 2) (.tmp 103), _, _, _, none⟩) rfl 24 (.tmp 2) (.tmp 103) rfl (.pointer (some ⟨w.heap.size, 0, none⟩)) (.agg Z) ?_ ?_ w6 hst6 ?_); (first | kernel_rfl | exact rfl); (first | kernel_rfl | exact rfl)))
                exact bodyPost_ret (ret_ad (p := 2) (q := 3) (by kernel_rfl) (by kernel_rfl) H6.out.1 rfl (by kernel_rfl)) (by kernel_rfl) ⟨by rw [HREF.out]; rfl, H6.out.2⟩
      · rw [show ((bas true : Nat) : Int) = 16 from rfl]
        go_loopw [5, 6, 9] (fun nv kv jv wr => ∃ j : Nat, j ≤ i + 1 ∧ jv = .int .i64 (j : Int) ∧ nv = .int .i64 ((stAt true s j).n : Int) ∧ kv = .int .i64 ((stAt true s j).k : Int) ∧ Hid (AdAt wr w.heap.size Ad.zero ∧ AdAt wr (w.heap.size + 1) ⟨true, (stAt true s j).B⟩ ∧ Below w.heap.size w wr)) (fun _ _ jv _ => (i + 1) - (intOf jv).toNat)
        case atStart => exact ⟨0, by omega, rfl, by rw [stAt_zero]; rfl, by rw [stAt_zero]; rfl, Lib.hid ⟨HI.out.1, by rw [stAt_zero]; exact HI.out.2.1, HI.out.2.2⟩⟩
        case round =>
          obtain ⟨j, hj, rfl, rfl, rfl, HJ⟩ := hrel
          obtain ⟨hb0, hb1, hbel2⟩ := HJ.out
          obtain ⟨hOB, _, hOn⟩ := stAt_ok true s j
          have hOk := stAt_k true s j
          obtain ⟨T, hT⟩ : ∃ T, T = stAt true s j := ⟨_, rfl⟩
          rw [← hT] at hb1 hOB hOn hOk ⊢
          obtain ⟨B, n, k⟩ := T
          dsimp only at hb1 hOB hOn hOk ⊢
          have hn0 : (0 : Int) ≤ (n : Int) := by omega
          have hn6 : (n : Int) < 65536 := by omega
          have hk0 : (0 : Int) ≤ (k : Int) := by omega
          have hk9 : (k : Int) ≤ 2000 := by omega
          have hj0 : (0 : Int) ≤ (j : Int) := by omega
          have hc0 := adC_six hb1
          have H0 := Lib.hid (And.intro hb0 (And.intro hb1 hbel2))
          have hfr := hb1.free
          by_cases hlt : j < i
          · have hls : j < s.length := by rw [← HSN.out.2]; exact hlt
            have hix := hIx.out j hls
            have hnx := stAt_next (six := true) hls
            rw [← hT] at hnx
            have hji : (j : Int) ≤ (i : Int) := by omega
            have hjn : ((j : Int) == (i : Int)) = false := by rw [beq_eq_false_iff_ne]; omega
            have hji2 : (j : Int) < (i : Int) := by omega
            obtain ⟨c, hc⟩ : ∃ c, c = s[j] := ⟨_, rfl⟩
            rw [← hc] at hix hnx
            by_cases h58 : c = 58
            · rw [RSt.step, if_pos (Or.inl h58)] at hnx
              have HX := Lib.hid hnx
              simp only [RSt.mark] at HX
              rw [show (c.toNat : Int) = 58 by rw [h58]; rfl] at hix
              clear hc hnx h58
              by_cases hk8 : k < 8
              · skip
                obtain ⟨p, hp⟩ : ∃ p, p = 2 * k := ⟨_, rfl⟩
                obtain ⟨r, hr⟩ : ∃ r, r = 2 * k + 1 := ⟨_, rfl⟩
                obtain ⟨q, hq⟩ : ∃ q, q = n / 256 := ⟨_, rfl⟩
                obtain ⟨m, hm⟩ : ∃ m, m = n % 256 := ⟨_, rfl⟩
                have hput := put_six hb1 hOB hk8 hp hr hOn
                rw [← hq, ← hm] at hput
                have hz1 := AdAt.off (j := 1 + r) (u := .int .u8 (m : Int)) (AdAt.off (j := 1 + p) (u := .int .u8 (q : Int)) hb0 (show w.heap.size ≠ w.heap.size + 1 by omega)) (show w.heap.size ≠ w.heap.size + 1 by omega)
                have hbl := (hbel2.setCell (p := ⟨w.heap.size + 1, 1 + p, none⟩) (Nat.le_succ _) (.int .u8 (q : Int))).setCell (p := ⟨w.heap.size + 1, 1 + r, none⟩) (Nat.le_succ _) (.int .u8 (m : Int))
                have HM := Lib.hid (And.intro hz1 (And.intro hput hbl))
                obtain ⟨xp, hcp⟩ : ∃ xp : UInt8, wr.cell? ⟨w.heap.size + 1, 1 + p, none⟩ = some (.int .u8 (xp.toNat : Int)) := ⟨_, adC_at hb1 (show p < B.length by omega)⟩
                obtain ⟨xr, hcr⟩ : ∃ xr : UInt8, wr.cell? ⟨w.heap.size + 1, 1 + r, none⟩ = some (.int .u8 (xr.toNat : Int)) := ⟨_, adC_at hb1 (show r < B.length by omega)⟩
                have hcr2 : (wr.setCell ⟨w.heap.size + 1, 1 + p, none⟩ (.int .u8 (q : Int))).cell? ⟨w.heap.size + 1, 1 + r, none⟩ = some (.int .u8 (xr.toNat : Int)) := (World.cell?_setCell_other _ _ _ _ (fun e => by injection e with _ e2; omega)).trans hcr
                have hfp := hb1.free (1 + p)
                have hfr2 : (wr.setCell ⟨w.heap.size + 1, 1 + p, none⟩ (.int .u8 (q : Int))).frozen? ⟨w.heap.size + 1, 1 + r, none⟩ = false := by
                  rw [World.frozen?_setCell]; exact hb1.free (1 + r)
                have hc0'' := adC_six hput
                have hpi : (2 : Int) * (k : Int) = (p : Int) := by omega
                have hri : (p : Int) + 1 = (r : Int) := by omega
                have hp16 : (p : Int) < 16 := by omega
                have hr16 : (r : Int) < 16 := by omega
                have hqi : (n : Int) / 256 = (q : Int) := by omega
                have hmi : (n : Int) % 256 = (m : Int) := by omega
                have hq8 : (q : Int) ≤ 255 := by omega
                have hm8 : (m : Int) ≤ 255 := by omega
                have hk8i : (k : Int) < 8 := by omega
                clear hput hz1 hbl hcr hq hm hp hr hb0 hb1 hbel2 hT HJ hfr
                go_wp2_with fail
                go_roundw
                case rel => exact ⟨j + 1, by omega, by go_num, by rw [HX.out] <;> rfl, by rw [HX.out]; go_num, Lib.hid (by rw [HX.out]; exact HM.out)⟩
                case measure => simp [intOf] <;> omega
              · skip
                have hnk : ¬ (k : Int) < 8 := by omega
                have HM : Hid _ := H0
                have hpn : putN true B k n = B := by rw [putN, if_pos rfl, if_neg hk8]
                rw [hpn] at HX
                clear hb0 hb1 hbel2 hT HJ hfr hpn
                go_wp2_with fail
                go_roundw
                case rel => exact ⟨j + 1, by omega, by go_num, by rw [HX.out] <;> rfl, by rw [HX.out]; go_num, Lib.hid (by rw [HX.out]; exact HM.out)⟩
                case measure => simp [intOf] <;> omega
            · by_cases h46 : c = 46
              · rw [RSt.step, if_pos (Or.inr h46)] at hnx
                have HX := Lib.hid hnx
                simp only [RSt.mark] at HX
                rw [show (c.toNat : Int) = 46 by rw [h46]; rfl] at hix
                clear hc hnx h58 h46
                by_cases hk8 : k < 8
                · skip
                  obtain ⟨p, hp⟩ : ∃ p, p = 2 * k := ⟨_, rfl⟩
                  obtain ⟨r, hr⟩ : ∃ r, r = 2 * k + 1 := ⟨_, rfl⟩
                  obtain ⟨q, hq⟩ : ∃ q, q = n / 256 := ⟨_, rfl⟩
                  obtain ⟨m, hm⟩ : ∃ m, m = n % 256 := ⟨_, rfl⟩
                  have hput := put_six hb1 hOB hk8 hp hr hOn
                  rw [← hq, ← hm] at hput
                  have hz1 := AdAt.off (j := 1 + r) (u := .int .u8 (m : Int)) (AdAt.off (j := 1 + p) (u := .int .u8 (q : Int)) hb0 (show w.heap.size ≠ w.heap.size + 1 by omega)) (show w.heap.size ≠ w.heap.size + 1 by omega)
                  have hbl := (hbel2.setCell (p := ⟨w.heap.size + 1, 1 + p, none⟩) (Nat.le_succ _) (.int .u8 (q : Int))).setCell (p := ⟨w.heap.size + 1, 1 + r, none⟩) (Nat.le_succ _) (.int .u8 (m : Int))
                  have HM := Lib.hid (And.intro hz1 (And.intro hput hbl))
                  obtain ⟨xp, hcp⟩ : ∃ xp : UInt8, wr.cell? ⟨w.heap.size + 1, 1 + p, none⟩ = some (.int .u8 (xp.toNat : Int)) := ⟨_, adC_at hb1 (show p < B.length by omega)⟩
                  obtain ⟨xr, hcr⟩ : ∃ xr : UInt8, wr.cell? ⟨w.heap.size + 1, 1 + r, none⟩ = some (.int .u8 (xr.toNat : Int)) := ⟨_, adC_at hb1 (show r < B.length by omega)⟩
                  have hcr2 : (wr.setCell ⟨w.heap.size + 1, 1 + p, none⟩ (.int .u8 (q : Int))).cell? ⟨w.heap.size + 1, 1 + r, none⟩ = some (.int .u8 (xr.toNat : Int)) := (World.cell?_setCell_other _ _ _ _ (fun e => by injection e with _ e2; omega)).trans hcr
                  have hfp := hb1.free (1 + p)
                  have hfr2 : (wr.setCell ⟨w.heap.size + 1, 1 + p, none⟩ (.int .u8 (q : Int))).frozen? ⟨w.heap.size + 1, 1 + r, none⟩ = false := by
                    rw [World.frozen?_setCell]; exact hb1.free (1 + r)
                  have hc0'' := adC_six hput
                  have hpi : (2 : Int) * (k : Int) = (p : Int) := by omega
                  have hri : (p : Int) + 1 = (r : Int) := by omega
                  have hp16 : (p : Int) < 16 := by omega
                  have hr16 : (r : Int) < 16 := by omega
                  have hqi : (n : Int) / 256 = (q : Int) := by omega
                  have hmi : (n : Int) % 256 = (m : Int) := by omega
                  have hq8 : (q : Int) ≤ 255 := by omega
                  have hm8 : (m : Int) ≤ 255 := by omega
                  have hk8i : (k : Int) < 8 := by omega
                  clear hput hz1 hbl hcr hq hm hp hr hb0 hb1 hbel2 hT HJ hfr
                  go_wp2_with fail
                  go_roundw
                  case rel => exact ⟨j + 1, by omega, by go_num, by rw [HX.out] <;> rfl, by rw [HX.out]; go_num, Lib.hid (by rw [HX.out]; exact HM.out)⟩
                  case measure => simp [intOf] <;> omega
                · skip
                  have hnk : ¬ (k : Int) < 8 := by omega
                  have HM : Hid _ := H0
                  have hpn : putN true B k n = B := by rw [putN, if_pos rfl, if_neg hk8]
                  rw [hpn] at HX
                  clear hb0 hb1 hbel2 hT HJ hfr hpn
                  go_wp2_with fail
                  go_roundw
                  case rel => exact ⟨j + 1, by omega, by go_num, by rw [HX.out] <;> rfl, by rw [HX.out]; go_num, Lib.hid (by rw [HX.out]; exact HM.out)⟩
                  case measure => simp [intOf] <;> omega
              · have hne58 : ((c.toNat : Int) == 58) = false := by
                  rw [beq_eq_false_iff_ne]
                  exact fun e => h58 (UInt8.toNat_inj.1 (by show c.toNat = 58; omega))
                have hne46 : ((c.toNat : Int) == 46) = false := by
                  rw [beq_eq_false_iff_ne]
                  exact fun e => h46 (UInt8.toNat_inj.1 (by show c.toNat = 46; omega))
                rw [RSt.step, if_neg (by rintro (h | h); exact h58 h; exact h46 h)] at hnx
                dsimp only [bas] at hnx
                have HM : Hid _ := H0
                have hdig := fun w => rfDigit_any c w
                rw [digI] at hdig
                rw [addDig] at hnx
                clear hb0 hb1 hbel2 hT HJ hfr hc h58 h46
                cases hdg : digit c with
                | none =>
                  rw [hdg] at hnx hdig
                  have HX := Lib.hid hnx
                  have HD := Lib.hid hdig
                  clear hnx hdig hdg
                  go_wp2_with (go_at_call 24; refine (HD.out _).mono ?_; rintro _ _ ⟨rfl, rfl⟩)
                  go_roundw
                  case rel => exact ⟨j + 1, by omega, by go_num, by rw [HX.out] <;> first | rfl | (simp only [hmi]), by rw [HX.out], Lib.hid (by rw [HX.out]; exact HM.out)⟩
                  case measure => simp [intOf] <;> omega
                | some d =>
                  rw [hdg] at hnx hdig
                  replace hdig : ∀ w, Calls Tryd.prog 24 #[.int .u8 (c.toNat : Int)] w fun e w' => e = .returned (.int .i64 (d : Int)) ∧ w = w' := hdig
                  have HD := Lib.hid hdig
                  by_cases hd : d < 16
                  · have hd0 : (0 : Int) ≤ (d : Int) := by omega
                    have hdb : (d : Int) < 16 := by omega
                    obtain ⟨m, hm⟩ : ∃ m, m = (n * 16 + d) % 65536 := ⟨_, rfl⟩
                    have hmi : ((n : Int) * 16 + (d : Int)) % 65536 = (m : Int) := by omega
                    have HX : Hid (stAt true s (j + 1) = ⟨B, m, k⟩) := Lib.hid (by rw [hnx, hm]; show (⟨B, if d < 16 then (n * 16 + d) % 65536 else n, k⟩ : RSt) = _; rw [if_pos hd])
                    clear hnx hdig hdg hm
                    go_wp2_with (go_at_call 24; refine (HD.out _).mono ?_; rintro _ _ ⟨rfl, rfl⟩)
                    go_roundw
                    case rel => exact ⟨j + 1, by omega, by go_num, by rw [HX.out] <;> first | rfl | (simp only [hmi]), by rw [HX.out], Lib.hid (by rw [HX.out]; exact HM.out)⟩
                    case measure => simp [intOf] <;> omega
                  · have hd0 : (0 : Int) ≤ (d : Int) := by omega
                    have hd15 : (d : Int) ≤ 15 := by have := digit_lt hdg; omega
                    have t9 : decide ((d : Int) < 16) = false := decide_eq_false (by omega)
                    have HX : Hid (stAt true s (j + 1) = ⟨B, n, k⟩) := Lib.hid (by rw [hnx]; show (⟨B, if d < 16 then (n * 16 + d) % 65536 else n, k⟩ : RSt) = _; rw [if_neg hd])
                    clear hnx hdig hdg hd
                    go_wp2_with (go_at_call 24; refine (HD.out _).mono ?_; rintro _ _ ⟨rfl, rfl⟩)
                    go_roundw
                    case rel => exact ⟨j + 1, by omega, by go_num, by rw [HX.out] <;> first | rfl | (simp only [hmi]), by rw [HX.out], Lib.hid (by rw [HX.out]; exact HM.out)⟩
                    case measure => simp [intOf] <;> omega
          · by_cases hend : j = i
            · have hnx := stAt_last true s
              rw [← HSN.out.2, ← hend, ← hT] at hnx
              have HX := Lib.hid hnx
              simp only [RSt.mark] at HX
              subst hend
              clear hnx
              by_cases hk8 : k < 8
              · skip
                obtain ⟨p, hp⟩ : ∃ p, p = 2 * k := ⟨_, rfl⟩
                obtain ⟨r, hr⟩ : ∃ r, r = 2 * k + 1 := ⟨_, rfl⟩
                obtain ⟨q, hq⟩ : ∃ q, q = n / 256 := ⟨_, rfl⟩
                obtain ⟨m, hm⟩ : ∃ m, m = n % 256 := ⟨_, rfl⟩
                have hput := put_six hb1 hOB hk8 hp hr hOn
                rw [← hq, ← hm] at hput
                have hz1 := AdAt.off (j := 1 + r) (u := .int .u8 (m : Int)) (AdAt.off (j := 1 + p) (u := .int .u8 (q : Int)) hb0 (show w.heap.size ≠ w.heap.size + 1 by omega)) (show w.heap.size ≠ w.heap.size + 1 by omega)
                have hbl := (hbel2.setCell (p := ⟨w.heap.size + 1, 1 + p, none⟩) (Nat.le_succ _) (.int .u8 (q : Int))).setCell (p := ⟨w.heap.size + 1, 1 + r, none⟩) (Nat.le_succ _) (.int .u8 (m : Int))
                have HM := Lib.hid (And.intro hz1 (And.intro hput hbl))
                obtain ⟨xp, hcp⟩ : ∃ xp : UInt8, wr.cell? ⟨w.heap.size + 1, 1 + p, none⟩ = some (.int .u8 (xp.toNat : Int)) := ⟨_, adC_at hb1 (show p < B.length by omega)⟩
                obtain ⟨xr, hcr⟩ : ∃ xr : UInt8, wr.cell? ⟨w.heap.size + 1, 1 + r, none⟩ = some (.int .u8 (xr.toNat : Int)) := ⟨_, adC_at hb1 (show r < B.length by omega)⟩
                have hcr2 : (wr.setCell ⟨w.heap.size + 1, 1 + p, none⟩ (.int .u8 (q : Int))).cell? ⟨w.heap.size + 1, 1 + r, none⟩ = some (.int .u8 (xr.toNat : Int)) := (World.cell?_setCell_other _ _ _ _ (fun e => by injection e with _ e2; omega)).trans hcr
                have hfp := hb1.free (1 + p)
                have hfr2 : (wr.setCell ⟨w.heap.size + 1, 1 + p, none⟩ (.int .u8 (q : Int))).frozen? ⟨w.heap.size + 1, 1 + r, none⟩ = false := by
                  rw [World.frozen?_setCell]; exact hb1.free (1 + r)
                have hc0'' := adC_six hput
                have hpi : (2 : Int) * (k : Int) = (p : Int) := by omega
                have hri : (p : Int) + 1 = (r : Int) := by omega
                have hp16 : (p : Int) < 16 := by omega
                have hr16 : (r : Int) < 16 := by omega
                have hqi : (n : Int) / 256 = (q : Int) := by omega
                have hmi : (n : Int) % 256 = (m : Int) := by omega
                have hq8 : (q : Int) ≤ 255 := by omega
                have hm8 : (m : Int) ≤ 255 := by omega
                have hk8i : (k : Int) < 8 := by omega
                clear hput hz1 hbl hcr hq hm hp hr hb0 hb1 hbel2 hT HJ hfr
                go_wp2_with fail
                go_roundw
                case rel => exact ⟨j + 1, by omega, by go_num, by rw [HX.out] <;> rfl, by rw [HX.out]; go_num, Lib.hid (by rw [HX.out]; exact HM.out)⟩
                case measure => simp [intOf] <;> omega
              · skip
                have hnk : ¬ (k : Int) < 8 := by omega
                have HM : Hid _ := H0
                have hpn : putN true B k n = B := by rw [putN, if_pos rfl, if_neg hk8]
                rw [hpn] at HX
                clear hb0 hb1 hbel2 hT HJ hfr hpn
                go_wp2_with fail
                go_roundw
                case rel => exact ⟨j + 1, by omega, by go_num, by rw [HX.out] <;> rfl, by rw [HX.out]; go_num, Lib.hid (by rw [HX.out]; exact HM.out)⟩
                case measure => simp [intOf] <;> omega
            · have hje : j = i + 1 := by omega
              obtain ⟨x, hx⟩ : ∃ x : Ad, x = ⟨true, B⟩ := ⟨_, rfl⟩
              have hxr : x = rread true s := by
                rw [hx, ← stAt_all, ← HSN.out.2, ← hje, ← hT]
              have hxw : x.Wide := by rw [hx]; exact hOB
              have href := adOf_ref s
              rw [HSX.out, ← hxr] at href
              rw [← hx] at hb1
              have hxi := info_adA hxw
              have hat1 : wr.heap[w.heap.size + 1]? = some (.cells (adC x).toArray 24 (0, 0)) := hb1
              have hshow := fun w => HSh.out x w hxw
              have t26 : ¬ (j : Int) ≤ (i : Int) := by omega
              have HB0 := Lib.hid (And.intro hb0 (And.intro hb1 hbel2))
              have Hxw := Lib.hid hxw
              have Hsh2 := Lib.hid hshow
              have hSd := HSN.out.1
              by_cases hq : x.show = s
              · rw [if_pos hq] at href
                have HREF := Lib.hid href
                have hnq : ((⟨x.show.toArray⟩ : ByteArray).toList == S.toList) = true := by rw [hSd, hq]; simp
                generalize (⟨x.show.toArray⟩ : ByteArray) = SX at Hsh2 hnq
                clear hshow hb0 hb1 hbel2 hT HJ hfr hc0 href hq hSd hx hxr hxw H0 hOB hje hlt hend
                go_wp2_with (first
                  | ((with_reducible refine wpList_load_row (o := ⟨some 99, .load 24 (.tmp 4), _, _, _, _⟩) rfl 24 (.tmp 4) rfl (w.heap.size + 1) ?_ 24 (adC x).toArray (0, 0) _ hat1 Tryd.underlying24 rfl hxi ?_); (first | kernel_rfl | exact rfl))
                  | (go_at_call 25; refine (Hsh2.out _).mono ?_; rintro _ w5 ⟨rfl, hb5⟩; have hat5 : w5.heap[w.heap.size + 1]? = some (.cells (adC x).toArray 24 (0, 0)) := HB0.out.2.1.below hb5 HB0.out.2.1.lt; obtain ⟨w6, hst6, _, hat6, hgr6, _⟩ := store_ad (b := x) (HB0.out.1.below hb5 HB0.out.1.lt) rfl Hxw.out; have H6 := Lib.hid (And.intro hat6 (grown_below (HB0.out.2.2.trans (hb5.mono HB0.out.2.2.size)) hgr6 (Nat.le_refl _))); clear hat6 hgr6)
                  | ((with_reducible refine wpList_load_row (o := ⟨some 104, .load 24 (.tmp 4), _, _, _, _⟩) rfl 24 (.tmp 4) rfl (w.heap.size + 1) ?_ 24 (adC x).toArray (0, 0) _ hat5 Tryd.underlying24 rfl hxi ?_); (first | kernel_rfl | exact rfl))
                  | ((with_reducible refine wpList_stored (o := ⟨none, .store 24 (.tmp 2) (.tmp 104), _, _, _, none⟩) rfl 24 (.tmp 2) (.tmp 104) rfl (.pointer (some ⟨w.heap.size, 0, none⟩)) (adV x) ?_ ?_ w6 hst6 ?_); (first | kernel_rfl | exact rfl); (first | kernel_rfl | exact rfl)))
                exact bodyPost_ret (ret_ad (p := 2) (q := 3) (by kernel_rfl) (by kernel_rfl) H6.out.1 Hxw.out (by kernel_rfl)) (by kernel_rfl) ⟨by rw [HREF.out]; rfl, H6.out.2⟩
              · rw [if_neg hq] at href
                have HREF := Lib.hid href
                have hnq : ((⟨x.show.toArray⟩ : ByteArray).toList == S.toList) = false := by
                  rw [hSd, ByteArray.toList_eq, ByteArray.toList_eq, beq_eq_false_iff_ne]; exact hq
                generalize (⟨x.show.toArray⟩ : ByteArray) = SX at Hsh2 hnq
                clear hshow hb0 hb1 hbel2 hT HJ hfr hc0 href hq hSd hx hxr hxw H0 hOB hje hlt hend
                go_wp2_with (first
                  | ((with_reducible refine wpList_load_row (o := ⟨some 99, .load 24 (.tmp 4), _, _, _, _⟩) rfl 24 (.tmp 4) rfl (w.heap.size + 1) ?_ 24 (adC x).toArray (0, 0) _ hat1 Tryd.underlying24 rfl hxi ?_); (first | kernel_rfl | exact rfl))
                  | (go_at_call 25; refine (Hsh2.out _).mono ?_; rintro _ w5 ⟨rfl, hb5⟩; obtain ⟨w6, hst6, _, hat6, hgr6, _⟩ := store_ad (b := Ad.zero) (HB0.out.1.below hb5 HB0.out.1.lt) rfl rfl; have H6 := Lib.hid (And.intro hat6 (grown_below (HB0.out.2.2.trans (hb5.mono HB0.out.2.2.size)) hgr6 (Nat.le_refl _))); clear hat6 hgr6; rw [adV, ← HZ.out] at hst6)
                  | ((with_reducible refine wpList_stored (o := ⟨none, .store 24 (.tmp 2) (.tmp 103), _, _, _, none⟩) rfl 24 (.tmp 2) (.tmp 103) rfl (.pointer (some ⟨w.heap.size, 0, none⟩)) (.agg Z) ?_ ?_ w6 hst6 ?_); (first | kernel_rfl | exact rfl); (first | kernel_rfl | exact rfl)))
                exact bodyPost_ret (ret_ad (p := 2) (q := 3) (by kernel_rfl) (by kernel_rfl) H6.out.1 rfl (by kernel_rfl)) (by kernel_rfl) ⟨by rw [HREF.out]; rfl, H6.out.2⟩
end Go.Proofs.YtepibdjglfaniaaDoor
