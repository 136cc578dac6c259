/-
  The document's reader of prefixes: a contract.
-/
import Derived.Test.YtepibdjglfaniaaDoorAdPw
import Derived.Test.YtepibdjglfaniaaDoorAdPc
import Derived.Test.YtepibdjglfaniaaDoorAdPb
import Derived.Test.YtepibdjglfaniaaDoorAdY
namespace Go.Proofs.YtepibdjglfaniaaDoor
open Go.RowKit
/-! ### Where the mark is. -/
theorem occ_one {s : List UInt8} {c : UInt8} {j : Nat} : Lib.occAt s [c] j = true ↔ s[j]? = some c := by
  unfold Lib.occAt
  cases h : s.drop j with
  | nil =>
    have : s[j]? = none := by
      have h2 := congrArg List.length h
      simp at h2
      simp
      omega
    simp [this]
  | cons x r =>
    have : s[j]? = some x := by
      have h2 := congrArg (fun l => l[0]?) h
      simpa [List.getElem?_drop] using h2
    rw [this]
    simp [List.isPrefixOf]
    exact eq_comm
theorem mark_cases (s : List UInt8) : (Lib.index s [47] = -1 ∧ ∀ j (h : j < s.length), s[j] ≠ 47) ∨ (∃ p : Nat, Lib.index s [47] = (p : Int) ∧ ∃ h : p < s.length, s[p] = 47 ∧ ∀ j (hj : j < p), s[j]'(by omega) ≠ 47) := by
  rcases Lib.index_spec s [47] with ⟨h, hn⟩ | ⟨p, h, hl, ho, hf⟩
  · refine .inl ⟨h, fun j hj e => ?_⟩
    have := hn j (by omega)
    rw [occ_one.2 (by rw [List.getElem?_eq_getElem hj, e])] at this
    cases this
  · have h1 := occ_one.1 ho
    have hp : p < s.length := (List.getElem?_eq_some_iff.1 h1).1
    rw [List.getElem?_eq_getElem hp] at h1
    refine .inr ⟨p, h, hp, Option.some.inj h1, fun j hj e => ?_⟩
    have := hf j hj
    rw [occ_one.2 (by rw [List.getElem?_eq_getElem (by omega), e])] at this
    cases this
/-- The number that was read so far. -/
def numAt (s : List UInt8) (p i : Nat) : Nat := rbits ((s.take i).drop (p + 1))
theorem numAt_none {s : List UInt8} {p i : Nat} (h : i ≤ p + 1) : numAt s p i = 0 := by
  unfold numAt
  rw [List.drop_eq_nil_of_le (by rw [List.length_take]; omega)]
  rfl
theorem numAt_next {s : List UInt8} {p i : Nat} (h : p < i) (hi : i < s.length) : numAt s p (i + 1) = addDig 10 1000 (numAt s p i) s[i] := by
  unfold numAt rbits
  rw [List.take_succ_eq_append_getElem hi, List.drop_append_of_le_length (by rw [List.length_take]; omega), List.foldl_append]
  rfl
theorem numAt_lt (s : List UInt8) (p i : Nat) : numAt s p i < 1000 := by
  unfold numAt rbits
  suffices h : ∀ (l : List UInt8) (n : Nat), n < 1000 → l.foldl (addDig 10 1000) n < 1000 from h _ 0 (by omega)
  intro l
  induction l with
  | nil => intro n h; exact h
  | cons c l ih => intro n h; exact ih _ (addDig_lt h c)
theorem numAt_all {s : List UInt8} {p : Nat} : numAt s p s.length = rbits (s.drop (p + 1)) := by unfold numAt; rw [List.take_length]
theorem cut_text (s : List UInt8) (p : Nat) (h : p ≤ s.length) (W : World) : (Instr.sliceAt 9 (.string ⟨s.toArray⟩) none (some (.int .i64 (p : Int))) none).run Tryd.prog W = .ok (.string ⟨(s.take p).toArray⟩) W := by
  rw [run_sliceAt_string W 9 _ _ _ _ Tryd.underlying9, run_slice_string_h W 9 _ Tryd.underlying9 .i64 _ (by omega) (by simp [ByteArray.size]; omega)]
  have e : (⟨s.toArray⟩ : ByteArray).extract 0 ((p : Int)).toNat = ⟨(s.take p).toArray⟩ := by
    apply ByteArray.ext
    simp
  rw [e]
theorem rangeAt_row {W : World} {g : Nat} {C : List Value} {t : TypeId} (h : W.heap[g]? = some (.cells C.toArray t (0, 0))) : W.rangeAt g 0 C := rangeAt_block h fun j u hu => by rw [Nat.zero_add]; exact hu
set_option maxRecDepth 100000 in
set_option maxHeartbeats 1000000 in
theorem rfParsePrefix_miss (s : List UInt8) (w : World) (hs : s.length ≤ 1000) (hno : ∀ j (h : j < s.length), s[j] ≠ 47) :
    Calls Tryd.prog 16 #[.string ⟨s.toArray⟩] w fun e w' => e = .returned (.tuple #[pfV Pf.zero, .bool false]) ∧ Below w.heap.size w w' := by
  have hz : ∀ w, (zeroValue 37).run Tryd.prog w = .ok (.agg (pfC Pf.zero).toArray) w := zero_pf
  have hza : ∀ w, (zeroValue 24).run Tryd.prog w = .ok (.agg (adC Ad.zero).toArray) w := zero_ad
  have hbu : ∀ W, (Instr.build 37 #[]).run Tryd.prog W = .ok (.agg (pfC Pf.zero).toArray) W := build_pf0
  have hw1 : PfAt (w.alloc (.cells (pfC Pf.zero).toArray 37)) w.heap.size Pf.zero := heap_alloc_last w _
  have hb1 := up_alloc (Below.refl w.heap.size w) (.cells (pfC Pf.zero).toArray 37)
  have Hsu := Lib.hid fun wr hb b hb2 => store_up_pf (w1 := w.alloc (.cells (pfC Pf.zero).toArray 37)) (x := Pf.zero) rfl hw1 hb1 wr hb b hb2
  have HIx : Hid (∀ i (h : i < s.length) W, (Instr.index 9 (.string ⟨s.toArray⟩) (.int .i64 (i : Int))).run Tryd.prog W = .ok (.int .u8 ((s[i]).toNat : Int)) W) := Lib.hid fun i h W => idx_at h W
  have hsz : ((⟨s.toArray⟩ : ByteArray).size : Int) = (s.length : Int) := by simp [ByteArray.size]
  obtain ⟨w8, hst8, hat8, hb8⟩ := Hsu.out _ (Below.refl _ _) Pf.zero rfl
  have H8 := Lib.hid (And.intro hat8 hb8)
  rw [pfV] at hst8 ⊢
  obtain ⟨S, hS⟩ : ∃ S, S = (⟨s.toArray⟩ : ByteArray) := ⟨_, rfl⟩
  rw [← hS] at HIx hsz ⊢
  obtain ⟨N, hN⟩ : ∃ N, N = s.length := ⟨_, rfl⟩
  rw [← hN] at hsz hs
  have HN := Lib.hid hN
  have HNo := Lib.hid hno
  have hln := pfC_length (p := Pf.zero) rfl
  obtain ⟨Z, hZ⟩ : ∃ Z, Z = pfC Pf.zero := ⟨_, rfl⟩
  rw [← hZ] at hz hbu hst8 hln ⊢
  have HZ := Lib.hid hZ
  clear hS hN hno hZ hza hw1 hb1 Hsu hat8 hb8
  have hN0 : (0 : Int) ≤ (N : Int) := by omega
  have hN1 : (N : Int) ≤ 1000 := by omega
  go_enter Tryd.func16, Tryd.ntmps16
  go_wp2_with (first
    | (with_reducible refine wpList_alloc_zero (o := ⟨some 2, .alloc 37, _, _, _, _⟩) rfl 37 rfl Z.toArray hz ?_))
  go_loop [4, 5, 6] (fun av nv iv => ∃ i : Nat, i ≤ N ∧ iv = .int .i64 (i : Int) ∧ av = .int .i64 (-1) ∧ nv = .int .i64 0) (fun _ _ iv => N - (intOf iv).toNat)
  case atStart => exact ⟨0, by omega, rfl, rfl, rfl⟩
  case round =>
    obtain ⟨i, hi, rfl, rfl, rfl⟩ := hrel
    by_cases hlt : i < N
    · have hls : i < s.length := by rw [← HN.out]; exact hlt
      have hix := HIx.out i hls
      have h47 := HNo.out i hls
      have hil : (i : Int) < (N : Int) := by omega
      obtain ⟨c, hc⟩ : ∃ c, c = s[i] := ⟨_, rfl⟩
      rw [← hc] at hix h47
      have hneb : ((c.toNat : Int) == 47) = false := by
        rw [beq_eq_false_iff_ne]
        exact fun e => h47 (UInt8.toNat_inj.1 (by show c.toNat = 47; omega))
      clear hc h47 hls
      go_wp2_with fail
      go_round
      case rel => exact ⟨i + 1, by omega, by go_num, rfl, rfl⟩
      case measure => simp [intOf] <;> omega
    · obtain rfl : i = N := by omega
      go_wp2_with (first
        | ((with_reducible refine wpList_stored (o := ⟨none, .store 37 (.tmp 2) (.tmp 41), _, _, _, none⟩) rfl 37 (.tmp 2) (.tmp 41) rfl (.pointer (some ⟨w.heap.size, 0, none⟩)) (.agg Z.toArray) ?_ ?_ w8 hst8 ?_); exact rfl; exact rfl))
      exact bodyPost_ret (ret_pf (p := 2) (q := 3) (by kernel_rfl) rfl H8.out.1 rfl rfl) rfl ⟨by rw [pfV, HZ.out], H8.out.2⟩
set_option maxRecDepth 100000 in
set_option maxHeartbeats 4000000 in
theorem rfParsePrefix_hit (s : List UInt8) (w : World) (hs : s.length ≤ 1000) (p : Nat) (hp : p < s.length) (h47 : s[p] = 47) (hno : ∀ j (hj : j < p), s[j]'(by omega) ≠ 47) (r : Option Pf) (a : Ad)
    (ha : a = (adOf (s.take p)).getD Ad.zero) (hr : r = match adOf (s.take p) with | some x => if (Pf.mk x (numAt s p s.length : Nat)).show = s then some ⟨x, (numAt s p s.length : Nat)⟩ else none | none => none) :
    Calls Tryd.prog 16 #[.string ⟨s.toArray⟩] w fun e w' => e = .returned (.tuple #[pfV (r.getD Pf.zero), .bool r.isSome]) ∧ Below w.heap.size w w' := by
  have hz : ∀ w, (zeroValue 37).run Tryd.prog w = .ok (.agg (pfC Pf.zero).toArray) w := zero_pf
  have hza : ∀ w, (zeroValue 24).run Tryd.prog w = .ok (.agg (adC Ad.zero).toArray) w := zero_ad
  have hbu : ∀ W, (Instr.build 37 #[]).run Tryd.prog W = .ok (.agg (pfC Pf.zero).toArray) W := build_pf0
  have hw1 : PfAt (w.alloc (.cells (pfC Pf.zero).toArray 37)) w.heap.size Pf.zero := heap_alloc_last w _
  have hb1 := up_alloc (Below.refl w.heap.size w) (.cells (pfC Pf.zero).toArray 37)
  have Hsu := Lib.hid fun wr hb b hb2 => store_up_pf (w1 := w.alloc (.cells (pfC Pf.zero).toArray 37)) (x := Pf.zero) rfl hw1 hb1 wr hb b hb2
  have HIx : Hid (∀ i (h : i < s.length) W, (Instr.index 9 (.string ⟨s.toArray⟩) (.int .i64 (i : Int))).run Tryd.prog W = .ok (.int .u8 ((s[i]).toNat : Int)) W) := Lib.hid fun i h W => idx_at h W
  have hsz : ((⟨s.toArray⟩ : ByteArray).size : Int) = (s.length : Int) := by simp [ByteArray.size]
  have hct : ∀ W, (Instr.sliceAt 9 (.string ⟨s.toArray⟩) none (some (.int .i64 (p : Int))) none).run Tryd.prog W = .ok (.string ⟨(s.take p).toArray⟩) W := cut_text s p (by omega)
  have HParse := Lib.hid (fun W => rfParse_any (s.take p) W (by rw [List.length_take]; omega) (fun a w ha => rfShow_any a w ha))
  have haw : a.Wide := by
    rw [ha]
    cases h : adOf (s.take p) with
    | none => rfl
    | some x => exact (adOf_is h).1
  rw [← ha] at HParse
  obtain ⟨n, hn⟩ : ∃ n, n = numAt s p s.length := ⟨_, rfl⟩
  have hn3 := numAt_lt s p s.length
  rw [← hn] at hn3 hr
  have HSPt := fun W => rfShowPrefix_any ⟨a, (n : Int)⟩ W haw (by show (_ : Int) ≤ (n : Int); omega) (by show (n : Int) ≤ _; omega)
  have hbE := fun W => build_pf a haw (n : Int) W
  have hia := info_adA haw
  have hiE := info_pfA (p := ⟨a, (n : Int)⟩) haw
  have hlE := info_pf (p := ⟨a, (n : Int)⟩) haw
  have haa := all_oneCell_toArray (adC_one a)
  have hEE := all_oneCell_toArray (pfC_one ⟨a, (n : Int)⟩)
  have hzsa : (adC Ad.zero).toArray.size = (adC a).toArray.size := by rw [List.size_toArray, List.size_toArray, adC_length (a := Ad.zero) rfl, adC_length haw]
  have hzE : (pfC Pf.zero).toArray.size = (pfC ⟨a, (n : Int)⟩).toArray.size := by rw [List.size_toArray, List.size_toArray, pfC_length (p := Pf.zero) rfl, pfC_length (p := ⟨a, (n : Int)⟩) haw]
  have Hwide := Lib.hid haw
  rw [txt] at HSPt
  obtain ⟨SP, hSP2⟩ : ∃ S, S = (⟨(Pf.mk a (n : Int)).show.toArray⟩ : ByteArray) := ⟨_, rfl⟩
  have HSP := Lib.hid HSPt
  rw [← hSP2] at HSP
  have HSP2 := Lib.hid hSP2
  obtain ⟨ST, hST⟩ : ∃ S, S = (⟨(s.take p).toArray⟩ : ByteArray) := ⟨_, rfl⟩
  rw [← hST] at hct HParse
  obtain ⟨S, hS⟩ : ∃ S, S = (⟨s.toArray⟩ : ByteArray) := ⟨_, rfl⟩
  rw [← hS] at HIx hsz hct ⊢
  have HS := Lib.hid hS
  obtain ⟨N, hN⟩ : ∃ N, N = s.length := ⟨_, rfl⟩
  rw [← hN] at hsz hs
  have HN := Lib.hid hN
  have HP := Lib.hid (And.intro hp (And.intro h47 hno))
  have Hn := Lib.hid hn
  have hpN : (p : Int) < (N : Int) := by omega
  simp only [adV, pfV] at HParse HSP hbE
  obtain ⟨Z, hZ⟩ : ∃ Z, Z = pfC Pf.zero := ⟨_, rfl⟩
  rw [← hZ] at hz hbu hzE
  have HZ := Lib.hid hZ
  obtain ⟨Za, hZa⟩ : ∃ Z, Z = adC Ad.zero := ⟨_, rfl⟩
  rw [← hZa] at hza hzsa
  obtain ⟨C, hC⟩ : ∃ C, C = adC a := ⟨_, rfl⟩
  rw [← hC] at HParse hbE hia haa hzsa
  obtain ⟨E, hE⟩ : ∃ E, E = pfC ⟨a, (n : Int)⟩ := ⟨_, rfl⟩
  rw [← hE] at hbE hiE hlE hEE hzE HSP
  have HE := Lib.hid hE
  have HR := Lib.hid (And.intro ha hr)
  rw [← hZ] at Hsu hw1 hb1
  clear hS hN hn hST hSP2 hZ hZa hC hE ha hr hno h47 HSPt haw hn3 hw1 hb1
  have hN0 : (0 : Int) ≤ (N : Int) := by omega
  have hN1 : (N : Int) ≤ 1000 := by omega
  have hp0 : (0 : Int) ≤ (p : Int) := by omega
  go_enter Tryd.func16, Tryd.ntmps16
  go_wp2_with (first
    | (with_reducible refine wpList_alloc_zero (o := ⟨some 2, .alloc 37, _, _, _, _⟩) rfl 37 rfl Z.toArray hz ?_))
  go_loop [4, 5, 6] (fun av nv iv => ∃ i : Nat, i ≤ N ∧ iv = .int .i64 (i : Int) ∧ ((i ≤ p ∧ av = .int .i64 (-1) ∧ nv = .int .i64 0) ∨ (p < i ∧ av = .int .i64 (p : Int) ∧ ∃ m : Nat, m < 1000 ∧ nv = .int .i64 (m : Int) ∧ Hid (m = numAt s p i)))) (fun _ _ iv => N - (intOf iv).toNat)
  case atStart => exact ⟨0, by omega, rfl, .inl ⟨by omega, rfl, rfl⟩⟩
  case round =>
    obtain ⟨i, hi, rfl, hor⟩ := hrel
    rcases hor with ⟨hip, rfl, rfl⟩ | ⟨hip, rfl, m, hm, rfl, HM⟩
    · -- ahead of the mark
      have hls : i < s.length := by omega
      have hix := HIx.out i hls
      have hil : (i : Int) < (N : Int) := by omega
      by_cases he : i = p
      · have hc : (s[i].toNat : Int) = 47 := by
          subst he
          rw [HP.out.2.1]
          rfl
        rw [hc] at hix
        subst he
        clear hc hls
        go_wp2_with fail
        go_round
        case rel => exact ⟨i + 1, by omega, by go_num, .inr ⟨by omega, rfl, 0, by omega, rfl, Lib.hid (numAt_none (by omega)).symm⟩⟩
        case measure => simp [intOf] <;> omega
      · have h47 := HP.out.2.2 i (by omega)
        obtain ⟨c, hc⟩ : ∃ c, c = s[i] := ⟨_, rfl⟩
        rw [← hc] at hix h47
        have hneb : ((c.toNat : Int) == 47) = false := by
          rw [beq_eq_false_iff_ne]
          exact fun e => h47 (UInt8.toNat_inj.1 (by show c.toNat = 47; omega))
        clear hc h47 hls
        go_wp2_with fail
        go_round
        case rel => exact ⟨i + 1, by omega, by go_num, .inl ⟨by omega, rfl, rfl⟩⟩
        case measure => simp [intOf] <;> omega
    · by_cases hlt : i < N
      · have hls : i < s.length := by rw [← HN.out]; exact hlt
        have hix := HIx.out i hls
        have hnx := numAt_next hip hls
        have hil : (i : Int) < (N : Int) := by omega
        rw [← HM.out] at hnx
        obtain ⟨c, hc⟩ : ∃ c, c = s[i] := ⟨_, rfl⟩
        rw [← hc] at hix hnx
        have hdig := fun w => rfDigit_any c w
        rw [digI] at hdig
        rw [addDig] at hnx
        have hm0 : (0 : Int) ≤ (m : Int) := by omega
        have hm1 : (m : Int) < 1000 := by omega
        clear hc hls HM
        cases hdg : digit c with
        | none =>
          rw [hdg] at hnx hdig
          have HX := Lib.hid hnx
          have HD := Lib.hid hdig
          clear hnx hdig hdg
          go_wp2_with (go_at_call 24; refine (HD.out _).mono ?_; rintro _ _ ⟨rfl, rfl⟩)
          go_round
          case rel => exact ⟨i + 1, by omega, by go_num, .inr ⟨by omega, rfl, m, hm, rfl, Lib.hid HX.out.symm⟩⟩
          case measure => simp [intOf] <;> omega
        | some d =>
          rw [hdg] at hnx hdig
          replace hdig : ∀ w, Calls Tryd.prog 24 #[.int .u8 (c.toNat : Int)] w fun e w' => e = .returned (.int .i64 (d : Int)) ∧ w = w' := hdig
          have HD := Lib.hid hdig
          have hd0 : (0 : Int) ≤ (d : Int) := by omega
          have hd15 : (d : Int) ≤ 15 := by have := digit_lt hdg; omega
          by_cases hd : d < 10
          · have hdb : (d : Int) < 10 := by omega
            obtain ⟨m2, hm2⟩ : ∃ m2, m2 = (m * 10 + d) % 1000 := ⟨_, rfl⟩
            have hm2l : m2 < 1000 := by omega
            have hmi : ((m : Int) * 10 + (d : Int)) % 1000 = (m2 : Int) := by omega
            have HX : Hid (numAt s p (i + 1) = m2) := Lib.hid (by rw [hnx, hm2]; show (if d < 10 then (m * 10 + d) % 1000 else m) = _; rw [if_pos hd])
            clear hnx hdig hdg hm2 hd
            go_wp2_with (go_at_call 24; refine (HD.out _).mono ?_; rintro _ _ ⟨rfl, rfl⟩)
            go_round
            case rel => exact ⟨i + 1, by omega, by go_num, .inr ⟨by omega, rfl, m2, hm2l, by first | rfl | (simp only [hmi]), Lib.hid HX.out.symm⟩⟩
            case measure => simp [intOf] <;> omega
          · have t9 : decide ((d : Int) < 10) = false := decide_eq_false (by omega)
            have HX : Hid (numAt s p (i + 1) = m) := Lib.hid (by rw [hnx]; show (if d < 10 then (m * 10 + d) % 1000 else m) = _; rw [if_neg hd])
            clear hnx hdig hdg hd
            go_wp2_with (go_at_call 24; refine (HD.out _).mono ?_; rintro _ _ ⟨rfl, rfl⟩)
            go_round
            case rel => exact ⟨i + 1, by omega, by go_num, .inr ⟨by omega, rfl, m, hm, rfl, Lib.hid HX.out.symm⟩⟩
            case measure => simp [intOf] <;> omega
      · obtain rfl : i = N := by omega
        have hmn : m = n := by rw [HM.out, Hn.out, ← HN.out]
        subst hmn
        clear HM HIx
        obtain ⟨hae, hre⟩ := HR.out
        cases hap : adOf (s.take p) with
        | none =>
          rw [hap] at hre
          subst hre
          clear hae
          have HPa : Hid (∀ W, Calls Tryd.prog 14 #[.string ST] W fun e w' => e = .returned (.tuple #[.agg C.toArray, .bool false]) ∧ Below W.heap.size W w') := Lib.hid fun W => by
            have := HParse.out W
            rwa [hap, Option.isSome_none] at this
          go_wp2_with (first
            | (with_reducible refine wpList_alloc_zero (o := ⟨some 8, .alloc 24, _, _, _, _⟩) rfl 24 rfl Za.toArray hza ?_)
            | (with_reducible refine wpList_alloc_zero (o := ⟨some 10, .alloc 37, _, _, _, _⟩) rfl 37 rfl Z.toArray hz ?_)
            | (go_at_call 14; refine (HPa.out _).mono ?_; rintro _ w3 ⟨rfl, hb3⟩; have hA4 := heap_alloc_last w3 (.cells C.toArray 24); have HB6 := Lib.hid (up_alloc (up_alloc hb3 (.cells C.toArray 24)) (.cells E.toArray 37)); have hE0 := heap_alloc_last (w3.alloc (.cells C.toArray 24)) (.cells E.toArray 37); rw [show (w3.alloc (.cells C.toArray 24)).heap.size = w3.heap.size + 1 by simp] at hE0; have hr5 := rangeAt_row hE0; clear hb3; obtain ⟨w8, hst8, hat8, hb8⟩ := Hsu.out _ HB6.out Pf.zero rfl; have H8 := Lib.hid (And.intro hat8 hb8); clear hat8 hb8; rw [pfV, ← HZ.out] at hst8)
            | ((with_reducible refine wpList_store_new (o := ⟨none, .store 24 (.tmp 8) (.tmp 47), _, _, _, _⟩) rfl 24 (.tmp 8) (.tmp 47) rfl Za.toArray C.toArray ?_ ?_ hia hzsa haa ?_); exact rfl; exact rfl)
            | ((with_reducible refine wpList_load_row (o := ⟨some 49, .load 24 (.tmp 8), _, _, _, _⟩) rfl 24 (.tmp 8) rfl w3.heap.size ?_ 24 C.toArray (0, 0) _ hA4 Tryd.underlying24 rfl hia ?_); exact rfl)
            | ((with_reducible refine wpList_run (o := ⟨some 51, .build 37 #[(0, .tmp 49), (1, .tmp 50)], _, _, _, none⟩) rfl (.agg E.toArray) (w3.alloc (.cells C.toArray 24)) ?_ ?_); exact exec_bld2 (k := 0) (k2 := 1) (a := .tmp 49) (a2 := .tmp 50) rfl (u := .agg C.toArray) (u2 := .int .i64 (m : Int)) rfl rfl (hbE _))
            | ((with_reducible refine wpList_store_new (o := ⟨none, .store 37 (.tmp 10) (.tmp 51), _, _, _, _⟩) rfl 37 (.tmp 10) (.tmp 51) rfl Z.toArray E.toArray ?_ ?_ hiE hzE hEE ?_); (first | exact rfl | exact (show Value.pointer (some ⟨w3.heap.size + 1, 0, none⟩) = _ by simp)); exact rfl)
            | ((with_reducible refine wpList_stored (o := ⟨none, .store 37 (.tmp 2) (.tmp 60), _, _, _, none⟩) rfl 37 (.tmp 2) (.tmp 60) rfl (.pointer (some ⟨w.heap.size, 0, none⟩)) (.agg Z.toArray) ?_ ?_ w8 hst8 ?_); exact rfl; exact rfl))
          exact bodyPost_ret (ret_pf (p := 2) (q := 3) (by kernel_rfl) rfl H8.out.1 rfl rfl) rfl ⟨by first | rfl | (rw [pfV, HZ.out]; rfl), H8.out.2⟩
        | some x =>
          rw [hap] at hre hae
          have hax : a = x := hae
          subst hax
          clear hae
          by_cases hq : (Pf.mk a (m : Int)).show = s
          · have hre2 : r = some ⟨a, (m : Int)⟩ := by rw [hre]; exact if_pos hq
            subst hre2
            clear hre
            have HPa : Hid (∀ W, Calls Tryd.prog 14 #[.string ST] W fun e w' => e = .returned (.tuple #[.agg C.toArray, .bool true]) ∧ Below W.heap.size W w') := Lib.hid fun W => by
              have := HParse.out W
              rwa [hap, Option.isSome_some] at this
            have hnq : (SP.toList == S.toList) = true := by
              rw [HSP2.out, HS.out, hq]
              simp
            clear hq
            go_wp2_with (first
              | (with_reducible refine wpList_alloc_zero (o := ⟨some 8, .alloc 24, _, _, _, _⟩) rfl 24 rfl Za.toArray hza ?_)
              | (with_reducible refine wpList_alloc_zero (o := ⟨some 10, .alloc 37, _, _, _, _⟩) rfl 37 rfl Z.toArray hz ?_)
              | (go_at_call 14; refine (HPa.out _).mono ?_; rintro _ w3 ⟨rfl, hb3⟩; have hA4 := heap_alloc_last w3 (.cells C.toArray 24); have HB6 := Lib.hid (up_alloc (up_alloc hb3 (.cells C.toArray 24)) (.cells E.toArray 37)); have hE0 := heap_alloc_last (w3.alloc (.cells C.toArray 24)) (.cells E.toArray 37); rw [show (w3.alloc (.cells C.toArray 24)).heap.size = w3.heap.size + 1 by simp] at hE0; have hr5 := rangeAt_row hE0; clear hb3)
              | ((with_reducible refine wpList_store_new (o := ⟨none, .store 24 (.tmp 8) (.tmp 47), _, _, _, _⟩) rfl 24 (.tmp 8) (.tmp 47) rfl Za.toArray C.toArray ?_ ?_ hia hzsa haa ?_); exact rfl; exact rfl)
              | ((with_reducible refine wpList_load_row (o := ⟨some 49, .load 24 (.tmp 8), _, _, _, _⟩) rfl 24 (.tmp 8) rfl w3.heap.size ?_ 24 C.toArray (0, 0) _ hA4 Tryd.underlying24 rfl hia ?_); exact rfl)
              | ((with_reducible refine wpList_run (o := ⟨some 51, .build 37 #[(0, .tmp 49), (1, .tmp 50)], _, _, _, none⟩) rfl (.agg E.toArray) (w3.alloc (.cells C.toArray 24)) ?_ ?_); exact exec_bld2 (k := 0) (k2 := 1) (a := .tmp 49) (a2 := .tmp 50) rfl (u := .agg C.toArray) (u2 := .int .i64 (m : Int)) rfl rfl (hbE _))
              | ((with_reducible refine wpList_store_new (o := ⟨none, .store 37 (.tmp 10) (.tmp 51), _, _, _, _⟩) rfl 37 (.tmp 10) (.tmp 51) rfl Z.toArray E.toArray ?_ ?_ hiE hzE hEE ?_); (first | exact rfl | exact (show Value.pointer (some ⟨w3.heap.size + 1, 0, none⟩) = _ by simp)); exact rfl)
              | ((with_reducible refine wpList_load_mid_g (op := ⟨some 55, .load 37 (.tmp 10), _, _, _, _⟩) ?_ 37 (.tmp 10) rfl (w3.heap.size + 1) 0 ?_ E _ hr5 Tryd.underlying37 rfl hlE ?_); rfl; exact rfl)
              | (go_at_call 29; refine (HSP.out _).mono ?_; rintro _ w7 ⟨rfl, hb7⟩; have hl7 := (hb7.block _ (by simp)).trans hE0; obtain ⟨w8, hst8, hat8, hb8⟩ := Hsu.out w7 (up HB6.out hb7) ⟨a, m⟩ Hwide.out; have H8 := Lib.hid (And.intro hat8 hb8); clear hat8 hb8; rw [pfV, ← HE.out] at hst8)
              | ((with_reducible refine wpList_load_row (o := ⟨some 61, .load 37 (.tmp 10), _, _, _, _⟩) rfl 37 (.tmp 10) rfl (w3.heap.size + 1) ?_ 37 E.toArray (0, 0) _ hl7 Tryd.underlying37 rfl hiE ?_); exact rfl)
              | ((with_reducible refine wpList_stored (o := ⟨none, .store 37 (.tmp 2) (.tmp 61), _, _, _, none⟩) rfl 37 (.tmp 2) (.tmp 61) rfl (.pointer (some ⟨w.heap.size, 0, none⟩)) (.agg E.toArray) ?_ ?_ w8 hst8 ?_); exact rfl; exact rfl))
            exact bodyPost_ret (ret_pf (p := 2) (q := 3) (by kernel_rfl) rfl H8.out.1 Hwide.out rfl) rfl ⟨by first | (rw [HE.out]; rfl) | rfl, H8.out.2⟩
          · have hre2 : r = none := by rw [hre]; exact if_neg hq
            subst hre2
            clear hre
            have HPa : Hid (∀ W, Calls Tryd.prog 14 #[.string ST] W fun e w' => e = .returned (.tuple #[.agg C.toArray, .bool true]) ∧ Below W.heap.size W w') := Lib.hid fun W => by
              have := HParse.out W
              rwa [hap, Option.isSome_some] at this
            have hnq : (SP.toList == S.toList) = false := by
              rw [HSP2.out, HS.out, ByteArray.toList_eq, ByteArray.toList_eq, beq_eq_false_iff_ne]
              exact hq
            clear hq
            go_wp2_with (first
              | (with_reducible refine wpList_alloc_zero (o := ⟨some 8, .alloc 24, _, _, _, _⟩) rfl 24 rfl Za.toArray hza ?_)
              | (with_reducible refine wpList_alloc_zero (o := ⟨some 10, .alloc 37, _, _, _, _⟩) rfl 37 rfl Z.toArray hz ?_)
              | (go_at_call 14; refine (HPa.out _).mono ?_; rintro _ w3 ⟨rfl, hb3⟩; have hA4 := heap_alloc_last w3 (.cells C.toArray 24); have HB6 := Lib.hid (up_alloc (up_alloc hb3 (.cells C.toArray 24)) (.cells E.toArray 37)); have hE0 := heap_alloc_last (w3.alloc (.cells C.toArray 24)) (.cells E.toArray 37); rw [show (w3.alloc (.cells C.toArray 24)).heap.size = w3.heap.size + 1 by simp] at hE0; have hr5 := rangeAt_row hE0; clear hb3)
              | ((with_reducible refine wpList_store_new (o := ⟨none, .store 24 (.tmp 8) (.tmp 47), _, _, _, _⟩) rfl 24 (.tmp 8) (.tmp 47) rfl Za.toArray C.toArray ?_ ?_ hia hzsa haa ?_); exact rfl; exact rfl)
              | ((with_reducible refine wpList_load_row (o := ⟨some 49, .load 24 (.tmp 8), _, _, _, _⟩) rfl 24 (.tmp 8) rfl w3.heap.size ?_ 24 C.toArray (0, 0) _ hA4 Tryd.underlying24 rfl hia ?_); exact rfl)
              | ((with_reducible refine wpList_run (o := ⟨some 51, .build 37 #[(0, .tmp 49), (1, .tmp 50)], _, _, _, none⟩) rfl (.agg E.toArray) (w3.alloc (.cells C.toArray 24)) ?_ ?_); exact exec_bld2 (k := 0) (k2 := 1) (a := .tmp 49) (a2 := .tmp 50) rfl (u := .agg C.toArray) (u2 := .int .i64 (m : Int)) rfl rfl (hbE _))
              | ((with_reducible refine wpList_store_new (o := ⟨none, .store 37 (.tmp 10) (.tmp 51), _, _, _, _⟩) rfl 37 (.tmp 10) (.tmp 51) rfl Z.toArray E.toArray ?_ ?_ hiE hzE hEE ?_); (first | exact rfl | exact (show Value.pointer (some ⟨w3.heap.size + 1, 0, none⟩) = _ by simp)); exact rfl)
              | ((with_reducible refine wpList_load_mid_g (op := ⟨some 55, .load 37 (.tmp 10), _, _, _, _⟩) ?_ 37 (.tmp 10) rfl (w3.heap.size + 1) 0 ?_ E _ hr5 Tryd.underlying37 rfl hlE ?_); rfl; exact rfl)
              | (go_at_call 29; refine (HSP.out _).mono ?_; rintro _ w7 ⟨rfl, hb7⟩; obtain ⟨w8, hst8, hat8, hb8⟩ := Hsu.out w7 (up HB6.out hb7) Pf.zero rfl; have H8 := Lib.hid (And.intro hat8 hb8); clear hat8 hb8; rw [pfV, ← HZ.out] at hst8)
              | ((with_reducible refine wpList_stored (o := ⟨none, .store 37 (.tmp 2) (.tmp 60), _, _, _, none⟩) rfl 37 (.tmp 2) (.tmp 60) rfl (.pointer (some ⟨w.heap.size, 0, none⟩)) (.agg Z.toArray) ?_ ?_ w8 hst8 ?_); exact rfl; exact rfl))
            exact bodyPost_ret (ret_pf (p := 2) (q := 3) (by kernel_rfl) rfl H8.out.1 rfl rfl) rfl ⟨by first | rfl | (rw [pfV, HZ.out]; rfl), H8.out.2⟩
theorem rfParsePrefix_any (s : List UInt8) (w : World) (hs : s.length ≤ 1000) :
    Calls Tryd.prog 16 #[.string ⟨s.toArray⟩] w fun e w' => e = .returned (.tuple #[pfV ((pfOf s).getD Pf.zero), .bool (pfOf s).isSome]) ∧ Below w.heap.size w w' := by
  have href := pfOf_ref s
  rcases mark_cases s with ⟨h, hno⟩ | ⟨p, h, hp, h47, hno⟩
  · rw [h, if_neg (by decide)] at href
    rw [href]
    exact rfParsePrefix_miss s w hs hno
  · rw [h, if_pos (by omega), Int.toNat_natCast, ← numAt_all] at href
    exact rfParsePrefix_hit s w hs p hp h47 hno (pfOf s) _ rfl href
end Go.Proofs.YtepibdjglfaniaaDoor
