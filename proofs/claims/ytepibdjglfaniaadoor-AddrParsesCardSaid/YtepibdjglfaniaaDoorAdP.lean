/-
  The address of a text: a contract.
-/
import Derived.Test.YtepibdjglfaniaaDoorAdO
namespace Go.Proofs.YtepibdjglfaniaaDoor
open Go.RowKit
theorem styleOf_six (w : World) : Calls Tryd.prog 22 #[.bool true] w fun e w' => e = .returned (.agg #[.string ⟨#[58]⟩, .int .i64 2, .int .i64 16]) ∧ Below w.heap.size w w' := styleOf_any true w
theorem field_mark (W : World) : (Instr.field 46 (.agg #[.string ⟨#[58]⟩, .int .i64 2, .int .i64 16]) 0).run Tryd.prog W = .ok (.string ⟨#[58]⟩) W := by kernel_rfl
set_option maxRecDepth 100000 in
theorem parse_short (s : List UInt8) (w : World) (h39 : s.length ≤ 39) (hV : Vars w) :
    Calls Tryd.prog 13 #[.string ⟨s.toArray⟩] w fun e w' => e = .returned (.tuple #[adV ((adOf s).getD Ad.zero), .bool (adOf s).isSome]) ∧ Below w.heap.size w w' := by
  have hz := zero_ad
  have hbu := build_ad
  have hfld := field_mark
  obtain ⟨w1, hw1⟩ : ∃ w1, w1 = w.alloc (.cells (adC Ad.zero).toArray 24) := ⟨_, rfl⟩
  have hw : AdAt w1 w.heap.size Ad.zero := by rw [hw1]; exact heap_alloc_last w _
  have hb1 : Below w.heap.size w w1 := by rw [hw1]; exact up_alloc (Below.refl _ w) _
  have hsu := fun wr hb b hb2 => store_up (w1 := w1) (x := Ad.zero) rfl hw hb1 wr hb b hb2
  have hV1 := hV.up hb1
  have hcon : ∀ wr, Calls Tryd.prog 21 #[.string ⟨s.toArray⟩, .string ⟨#[58]⟩] wr fun e w' => e = .returned (.bool (decide (58 ∈ s))) ∧ wr = w' := fun wr => by
    refine (Tryd.strings_Contains_one ⟨s.toArray⟩ 58 wr).mono ?_
    rintro e w' ⟨rfl, rfl⟩
    exact ⟨by rw [index_mem], rfl⟩
  have hof := adOf_read s
  rw [if_pos h39] at hof
  obtain ⟨b, hb⟩ : ∃ b, b = decide (58 ∈ s) := ⟨_, rfl⟩
  rw [← hb] at hof hcon
  have hst := fun wr => styleOf_any b wr
  have hrd : ∀ wr, Below w1.heap.size w1 wr → Calls Tryd.prog 23 #[stV b, .string ⟨s.toArray⟩] wr fun e w' => ∃ v, e = .returned v ∧ Mine w' wr.heap.size 5 v (cellsB (reads b s)) ∧ Below wr.heap.size wr w' := fun wr hb => read_any s wr (by omega) (hV1.up hb)
  obtain ⟨D, hD⟩ : ∃ D, D = reads b s := ⟨_, rfl⟩
  rw [← hD] at hof hrd
  have hO : ∀ wr base v, Mine wr base 5 v (cellsB D) → Calls Tryd.prog 6 #[v] wr fun e w' => e = .returned (.tuple #[adV ((adBytes D).getD Ad.zero), .bool (adBytes D).isSome]) ∧ Below wr.heap.size wr w' := fun wr base v hv => by
    obtain ⟨A, c, rfl, _, _, hr⟩ := hv.rd.bytes
    exact adOf_any A c D wr _ hr (Nat.le_refl _)
  have hsh : ∀ wr (a : Ad), a.Wide → Below w1.heap.size w1 wr → Calls Tryd.prog 20 #[adV a] wr fun e w' => e = .returned (txt a.show) ∧ Below wr.heap.size wr w' := fun wr a ha hb => adShow_any a wr ha (hV1.up hb)
  rw [stV] at hst hrd
  generalize (stC b).toArray = Y at hst hrd
  have hssz : ((⟨s.toArray⟩ : ByteArray).size : Int) ≤ 39 := by simp [ByteArray.size]; omega
  have hssd : decide ((39 : Int) < ((⟨s.toArray⟩ : ByteArray).size : Int)) = false := decide_eq_false (by omega)
  have hssz0 : (0 : Int) ≤ ((⟨s.toArray⟩ : ByteArray).size : Int) := by omega
  have HSt := Lib.hid hst
  have HRd := Lib.hid hrd
  have HCon := Lib.hid hcon
  have Hsu := Lib.hid hsu
  have HR1 := Lib.hid (Below.refl w1.heap.size w1)
  have hi0 := info_adA (a := Ad.zero) rfl
  have hza := all_oneCell_toArray (adC_one Ad.zero)
  cases hby : adBytes D with
  | none =>
    rw [hby] at hof hO
    rw [hof]
    have HO := Lib.hid hO
    simp only [Option.getD_none, Option.isSome_none] at HO ⊢
    clear hof hO hst hrd hcon hsu hD hb hV hV1 hw hsh hb1 h39 hby
    subst hw1
    generalize hS : (⟨s.toArray⟩ : ByteArray) = S at *
    rw [adV] at hz hbu HO ⊢
    simp only [adV] at Hsu
    obtain ⟨Z, hZ⟩ : ∃ Z, Z = (adC Ad.zero).toArray := ⟨_, rfl⟩
    rw [← hZ] at hz hbu HO Hsu hi0 hza HRd HR1 ⊢
    have HZ := Lib.hid hZ
    clear hZ
    go_enter Tryd.func13, Tryd.ntmps13
    go_wp2_with (first
      | (with_reducible refine wpList_alloc_zero (o := ⟨some 2, .alloc 24, _, _, _, _⟩) rfl 24 rfl Z hz ?_)
      | (with_reducible refine wpList_alloc_zero (o := ⟨some 5, .alloc 24, _, _, _, _⟩) rfl 24 rfl Z hz ?_)
      | (go_at_call 22; refine (styleOf_six _).mono ?_; rintro _ w2 ⟨rfl, hb2⟩)
      | (go_at_call 21; refine (HCon.out _).mono ?_; rintro _ w3 ⟨rfl, rfl⟩)
      | (go_at_call 22; refine (HSt.out _).mono ?_; rintro _ w4 ⟨rfl, hb4⟩)
      | (go_at_call 23; refine (HRd.out _ (up hb2 hb4)).mono ?_; rintro _ w5 ⟨v, rfl, hv, hb5⟩)
      | (go_at_call 6; refine (HO.out _ _ _ hv).mono ?_; rintro _ w6 ⟨rfl, hb6⟩; obtain ⟨w7, hst7, hat7, hb7⟩ := Hsu.out (w6.alloc (.cells Z 24)) (up_alloc (up (up (up hb2 hb4) hb5) hb6) _) Ad.zero rfl; have H7 := Lib.hid (And.intro hat7 hb7); clear hat7 hb7; rw [← HZ.out] at hst7)
      | ((with_reducible refine wpList_store_new (o := ⟨none, .store 24 (.tmp 5) (.tmp 21), _, _, _, _⟩) rfl 24 (.tmp 5) (.tmp 21) rfl Z Z ?_ ?_ hi0 rfl hza ?_); exact rfl; exact rfl)
      | ((with_reducible refine wpList_stored (o := ⟨none, .store 24 (.tmp 2) (.tmp 31), _, _, _, none⟩) rfl 24 (.tmp 2) (.tmp 31) rfl (.pointer (some ⟨w.heap.size, 0, none⟩)) (.agg Z) ?_ ?_ w7 hst7 ?_); exact rfl; exact rfl))
    exact bodyPost_ret (ret_ad (p := 2) (q := 3) (by kernel_rfl) rfl H7.out.1 rfl rfl) rfl ⟨by rw [adV, HZ.out], H7.out.2⟩
  | some a =>
    rw [hby] at hof hO
    replace hof : adOf s = if a.show = s then some a else none := hof
    obtain ⟨haw, hag⟩ := adBytes_wide hby
    have hia := info_adA haw
    have hiL := info_ad haw
    have haa := all_oneCell_toArray (adC_one a)
    have hzs : (adC Ad.zero).toArray.size = (adC a).toArray.size := by rw [List.size_toArray, List.size_toArray, adC_length haw]; rfl
    have HSh : Hid (∀ wr, Below w1.heap.size w1 wr → Calls Tryd.prog 20 #[adV a] wr fun e w' => e = .returned (txt a.show) ∧ Below wr.heap.size wr w') := Lib.hid fun wr hb => hsh wr a haw hb
    have HAt : Hid (∀ w6 : World, AdAt (w6.alloc (.cells (adC a).toArray 24)) w6.heap.size a) := Lib.hid fun w6 => heap_alloc_last w6 _
    have HAr : Hid (∀ w6 : World, (w6.alloc (.cells (adC a).toArray 24)).rangeAt w6.heap.size 0 (adC a)) := Lib.hid fun w6 => rangeAt_block (HAt.out w6) fun j u hu => by rw [Nat.zero_add]; exact hu
    have Hwide := Lib.hid haw
    by_cases hq : a.show = s
    · rw [if_pos hq] at hof
      rw [hof]
      have HO := Lib.hid hO
      simp only [Option.getD_some, Option.isSome_some] at HO ⊢
      have hSq : txt a.show = .string ⟨s.toArray⟩ := by rw [txt, hq]
      rw [hSq] at HSh
      have HL : Hid (∀ w6 w7 : World, Below (w6.alloc (.cells (adC a).toArray 24)).heap.size (w6.alloc (.cells (adC a).toArray 24)) w7 → w7.heap[w6.heap.size]? = some (.cells (adC a).toArray 24 (0, 0))) := Lib.hid fun w6 w7 hb => AdAt.below (HAt.out w6) hb (by simp)
      clear hof hO hst hrd hcon hsu hD hb hV hV1 hw hsh hb1 h39 hby hSq hq haw hag
      subst hw1
      generalize hS : (⟨s.toArray⟩ : ByteArray) = S at *
      rw [adV] at hz hbu HO ⊢
      simp only [adV] at Hsu HSh
      obtain ⟨Z, hZ⟩ : ∃ Z, Z = (adC Ad.zero).toArray := ⟨_, rfl⟩
      rw [← hZ] at hz hbu Hsu hi0 hza hzs HRd HR1 HSh
      obtain ⟨C, hC⟩ : ∃ C, C = adC a := ⟨_, rfl⟩
      rw [← hC] at HO hia hiL haa hzs HAt HAr HSh HL ⊢
      have HC := Lib.hid hC
      clear hC hZ
      go_enter Tryd.func13, Tryd.ntmps13
      go_wp2_with (first
        | (with_reducible refine wpList_alloc_zero (o := ⟨some 2, .alloc 24, _, _, _, _⟩) rfl 24 rfl Z hz ?_)
        | (with_reducible refine wpList_alloc_zero (o := ⟨some 5, .alloc 24, _, _, _, _⟩) rfl 24 rfl Z hz ?_)
        | (go_at_call 22; refine (styleOf_six _).mono ?_; rintro _ w2 ⟨rfl, hb2⟩)
        | (go_at_call 21; refine (HCon.out _).mono ?_; rintro _ w3 ⟨rfl, rfl⟩)
        | (go_at_call 22; refine (HSt.out _).mono ?_; rintro _ w4 ⟨rfl, hb4⟩)
        | (go_at_call 23; refine (HRd.out _ (up hb2 hb4)).mono ?_; rintro _ w5 ⟨v, rfl, hv, hb5⟩)
        | (go_at_call 6; refine (HO.out _ _ _ hv).mono ?_; rintro _ w6 ⟨rfl, hb6⟩; have HB6 := Lib.hid (up (up (up hb2 hb4) hb5) hb6); have hat5 := HAt.out w6; have hr5 := HAr.out w6)
        | ((with_reducible refine wpList_store_new (o := ⟨none, .store 24 (.tmp 5) (.tmp 21), _, _, _, _⟩) rfl 24 (.tmp 5) (.tmp 21) rfl Z C.toArray ?_ ?_ hia hzs haa ?_); exact rfl; exact rfl)
        | ((with_reducible refine wpList_load_mid_g (op := ⟨some 26, .load 24 (.tmp 5), _, _, _, _⟩) ?_ 24 (.tmp 5) rfl w6.heap.size 0 ?_ C _ hr5 Tryd.underlying24 rfl hiL ?_); rfl; exact rfl)
        | (go_at_call 20; refine (HSh.out _ (up_alloc HB6.out _)).mono ?_; rintro _ w7 ⟨rfl, hb7⟩; have hl7 := HL.out w6 w7 hb7; obtain ⟨w8, hst8, hat8, hb8⟩ := Hsu.out w7 (up (up_alloc HB6.out _) hb7) a Hwide.out; have H8 := Lib.hid (And.intro hat8 hb8); clear hat8 hb8; rw [← HC.out] at hst8)
        | ((with_reducible refine wpList_load_row (o := ⟨some 32, .load 24 (.tmp 5), _, _, _, _⟩) rfl 24 (.tmp 5) rfl w6.heap.size ?_ 24 C.toArray (0, 0) _ hl7 Tryd.underlying24 rfl hia ?_); exact rfl)
        | ((with_reducible refine wpList_stored (o := ⟨none, .store 24 (.tmp 2) (.tmp 32), _, _, _, none⟩) rfl 24 (.tmp 2) (.tmp 32) rfl (.pointer (some ⟨w.heap.size, 0, none⟩)) (.agg C.toArray) ?_ ?_ w8 hst8 ?_); exact rfl; exact rfl))
      exact bodyPost_ret (ret_ad (p := 2) (q := 3) (by kernel_rfl) rfl H8.out.1 Hwide.out rfl) rfl ⟨by rw [adV, HC.out], H8.out.2⟩
    · rw [if_neg hq] at hof
      rw [hof]
      have HO := Lib.hid hO
      simp only [Option.getD_some, Option.isSome_some, Option.getD_none, Option.isSome_none] at HO ⊢
      rw [txt] at HSh
      have hne : ((⟨a.show.toArray⟩ : ByteArray).toList == (⟨s.toArray⟩ : ByteArray).toList) = false := by
        rw [ByteArray.toList_eq, ByteArray.toList_eq, beq_eq_false_iff_ne]
        exact hq
      clear hof hO hst hrd hcon hsu hD hb hV hV1 hw hsh hb1 h39 hby hq haw hag
      subst hw1
      generalize hS : (⟨s.toArray⟩ : ByteArray) = S at *
      generalize hS2 : (⟨a.show.toArray⟩ : ByteArray) = S2 at hne HSh
      rw [adV] at hz hbu HO ⊢
      simp only [adV] at Hsu HSh
      obtain ⟨Z, hZ⟩ : ∃ Z, Z = (adC Ad.zero).toArray := ⟨_, rfl⟩
      rw [← hZ] at hz hbu Hsu hi0 hza hzs HRd HR1 HSh ⊢
      have HZ := Lib.hid hZ
      obtain ⟨C, hC⟩ : ∃ C, C = adC a := ⟨_, rfl⟩
      rw [← hC] at HO hia hiL haa hzs HAt HAr HSh
      clear hC hZ
      go_enter Tryd.func13, Tryd.ntmps13
      go_wp2_with (first
        | (with_reducible refine wpList_alloc_zero (o := ⟨some 2, .alloc 24, _, _, _, _⟩) rfl 24 rfl Z hz ?_)
        | (with_reducible refine wpList_alloc_zero (o := ⟨some 5, .alloc 24, _, _, _, _⟩) rfl 24 rfl Z hz ?_)
        | (go_at_call 22; refine (styleOf_six _).mono ?_; rintro _ w2 ⟨rfl, hb2⟩)
        | (go_at_call 21; refine (HCon.out _).mono ?_; rintro _ w3 ⟨rfl, rfl⟩)
        | (go_at_call 22; refine (HSt.out _).mono ?_; rintro _ w4 ⟨rfl, hb4⟩)
        | (go_at_call 23; refine (HRd.out _ (up hb2 hb4)).mono ?_; rintro _ w5 ⟨v, rfl, hv, hb5⟩)
        | (go_at_call 6; refine (HO.out _ _ _ hv).mono ?_; rintro _ w6 ⟨rfl, hb6⟩; have HB6 := Lib.hid (up (up (up hb2 hb4) hb5) hb6); have hat5 := HAt.out w6; have hr5 := HAr.out w6)
        | ((with_reducible refine wpList_store_new (o := ⟨none, .store 24 (.tmp 5) (.tmp 21), _, _, _, _⟩) rfl 24 (.tmp 5) (.tmp 21) rfl Z C.toArray ?_ ?_ hia hzs haa ?_); exact rfl; exact rfl)
        | ((with_reducible refine wpList_load_mid_g (op := ⟨some 26, .load 24 (.tmp 5), _, _, _, _⟩) ?_ 24 (.tmp 5) rfl w6.heap.size 0 ?_ C _ hr5 Tryd.underlying24 rfl hiL ?_); rfl; exact rfl)
        | (go_at_call 20; refine (HSh.out _ (up_alloc HB6.out _)).mono ?_; rintro _ w7 ⟨rfl, hb7⟩; obtain ⟨w8, hst8, hat8, hb8⟩ := Hsu.out w7 (up (up_alloc HB6.out _) hb7) Ad.zero rfl; have H8 := Lib.hid (And.intro hat8 hb8); clear hat8 hb8; rw [← HZ.out] at hst8)
        | ((with_reducible refine wpList_stored (o := ⟨none, .store 24 (.tmp 2) (.tmp 31), _, _, _, none⟩) rfl 24 (.tmp 2) (.tmp 31) rfl (.pointer (some ⟨w.heap.size, 0, none⟩)) (.agg Z) ?_ ?_ w8 hst8 ?_); exact rfl; exact rfl))
      exact bodyPost_ret (ret_ad (p := 2) (q := 3) (by kernel_rfl) rfl H8.out.1 rfl rfl) rfl ⟨by rw [adV, HZ.out], H8.out.2⟩
/-- The address of a text, or that there is none. -/
theorem parse_any (s : List UInt8) (w : World) (hs : s.length ≤ 1000) (hV : Vars w) :
    Calls Tryd.prog 13 #[.string ⟨s.toArray⟩] w fun e w' => e = .returned (.tuple #[adV ((adOf s).getD Ad.zero), .bool (adOf s).isSome]) ∧ Below w.heap.size w w' := by
  by_cases h : s.length ≤ 39
  · exact parse_short s w h hV
  · rw [show adOf s = none by rw [adOf_read, if_neg h]]
    exact parse_long s w (by omega) hs
end Go.Proofs.YtepibdjglfaniaaDoor
