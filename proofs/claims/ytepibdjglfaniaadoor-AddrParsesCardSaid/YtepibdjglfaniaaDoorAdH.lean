/-
  Numbers out of texts (strconv): contracts.
-/
import Derived.Test.YtepibdjglfaniaaDoorAdVars
namespace Go.Proofs.YtepibdjglfaniaaDoor
open Go.RowKit
/-! ### ParseUint to base 16 -/
theorem lower_all : ∀ x : Fin 256, bits .or .u8 ((x.val : Nat) : Int) 32 = (((UInt8.ofNat x.val ||| 32).toNat : Nat) : Int) := by decide +kernel
theorem lower_or (c : UInt8) : bits .or .u8 (c.toNat : Int) 32 = (((c ||| 32).toNat : Nat) : Int) := by
  have := lower_all ⟨c.toNat, c.toNat_lt⟩
  simpa using this
theorem not_both : ∀ x : Fin 256, x.val = 95 → ¬ (97 ≤ (UInt8.ofNat x.val ||| 32).toNat ∧ (UInt8.ofNat x.val ||| 32).toNat ≤ 122) := by decide +kernel
theorem lower_95 {c : UInt8} (h : c.toNat = 95) : ¬ (97 ≤ (c ||| 32).toNat ∧ (c ||| 32).toNat ≤ 122) := by
  have := not_both ⟨c.toNat, c.toNat_lt⟩ h
  simpa using this
/-- What is told of a number to base 16. -/
def hexOut : HexEnd → Value
  | .ok n => .tuple #[.int .u64 (n : Int), .nilIface]
  | .bad => .tuple #[.int .u64 0, .iface 78 (.int .i64 2)]
  | .far => .tuple #[.int .u64 65535, .iface 78 (.int .i64 1)]
set_option maxHeartbeats 32000000 in
set_option maxRecDepth 100000 in
theorem inner16_any (t : ByteArray) (hne : t.size ≠ 0) (hmax : t.size ≤ 1000) (w : World) :
    Calls Tryd.prog 47 #[.string t, .int .i64 16, .int .i64 16] w fun e w' => e = .returned (hexOut (hexAt 0 t.data.toList)) ∧ w' = Lib.bytesWorld w 5 t := by
  have hemp : t.toList.isEmpty = false := by
    rw [← decide_eq_emptyBytes]
    exact decide_eq_false (fun h => hne (by rw [h]; rfl))
  have hcv := Lib.run_convert_string_bytes (P := Tryd.prog) w 9 25 5 t (u := .string) Tryd.underlying9 Tryd.underlying25 Tryd.underlying5
  have hB : ∀ j, j < t.size → (Lib.bytesWorld w 5 t).cell? ⟨w.heap.size, j, none⟩ = some (.int .u8 (t.data.toList.getD j 0).toNat) := fun j hj => Lib.bytesWorld_cell w 5 t j hj
  obtain ⟨W1, hW1⟩ : ∃ W1, W1 = Lib.bytesWorld w 5 t := ⟨_, rfl⟩
  rw [← hW1] at hcv hB ⊢
  clear hW1
  obtain ⟨bs, hL⟩ : ∃ bs, bs = t.data.toList := ⟨_, rfl⟩
  have hLn : bs.length = t.size := by rw [hL, Lib.size_eq]
  rw [← hL] at hB ⊢
  clear hL
  have hmv : IntKind.u64.wrap (IntKind.u64.wrap 65536 - 1) = 65535 := by
    rw [IntKind.wrap_u64, IntKind.wrap_u64]
    decide
  go_enter Tryd.func47, Tryd.ntmps47
  go_wp2
  go_loop [12, 13, 101] (fun vu vn vi => ∃ (k acc : Nat) (a : Int), vu = .bool false ∧ vn = .int .u64 a ∧ vi = .int .i64 k ∧ k ≤ t.size ∧ Hid (a = (acc : Int) ∧ acc ≤ 65535 ∧ hexAt 0 bs = hexAt acc (bs.drop k)))
    (fun _ _ vi => t.size - (intOf vi).toNat)
  case atStart => exact ⟨0, 0, 0, rfl, rfl, rfl, by omega, rfl, by omega, rfl⟩
  case round =>
    obtain ⟨k, acc, a, rfl, rfl, rfl, hk, hh⟩ := hrel
    obtain ⟨ha, hacc, hdec⟩ := hh.out
    clear hh
    have a0 : 0 ≤ a := by omega
    have a1 : a ≤ 65535 := by omega
    by_cases hkn : k < t.size
    · have hc := hB k hkn
      have hdrop : bs.drop k = bs[k]'(by omega) :: bs.drop (k + 1) := List.drop_eq_getElem_cons (by omega)
      have hget : bs.getD k 0 = bs[k]'(by omega) := by simp [List.getD, List.getElem?_eq_getElem (show k < bs.length by omega)]
      rw [hdrop] at hdec
      rw [hget] at hc
      generalize bs[k]'(by omega) = c at hc hdec
      have hc256 : c.toNat < 256 := c.toNat_lt
      clear hB hdrop hget
      by_cases hdig : 48 ≤ c.toNat ∧ c.toNat ≤ 57
      · obtain ⟨hd0, hd1⟩ := hdig
        have hD : hexD c = c.toNat - 48 := by rw [hexD, if_pos ⟨hd0, hd1⟩]
        by_cases hov : 65535 < acc * 16 + (c.toNat - 48)
        · have hF : hexAt acc (c :: bs.drop (k + 1)) = .far := by rw [hexAt, hD, if_neg (by omega), if_pos hov]
          rw [hF] at hdec
          have iov : 65535 < a * 16 + ((c.toNat : Int) - 48) := by omega
          clear hacc hF hov ha hD
          go_wp2
          go_ret2
          first | exact ⟨rfl, rfl⟩ | exact ⟨by rw [hdec]; rfl, rfl⟩
        · have hF : hexAt acc (c :: bs.drop (k + 1)) = hexAt (acc * 16 + (c.toNat - 48)) (bs.drop (k + 1)) := by rw [hexAt, hD, if_neg (by omega), if_neg hov]
          have HN : Hid (a * 16 + ((c.toNat : Int) - 48) = ((acc * 16 + (c.toNat - 48) : Nat) : Int) ∧ acc * 16 + (c.toNat - 48) ≤ 65535 ∧ hexAt 0 bs = hexAt (acc * 16 + (c.toNat - 48)) (bs.drop (k + 1))) := Lib.hid ⟨by omega, by omega, hdec.trans hF⟩
          have iov : a * 16 + ((c.toNat : Int) - 48) ≤ 65535 := by omega
          clear hacc hF hov hdec ha hD
          go_wp2
          refine ⟨⟨k + 1, acc * 16 + (c.toNat - 48), a * 16 + ((c.toNat : Int) - 48), rfl, (by first | rfl | (congr 1; omega)), (by first | rfl | (congr 1; omega)), by omega, HN⟩, by simp [intOf]; omega⟩
      · have hv := lower_or c
        have h95 := @lower_95 c
        obtain ⟨v, hvv⟩ : ∃ v, v = (c ||| 32).toNat := ⟨_, rfl⟩
        have hv256 : v < 256 := by rw [hvv]; exact (c ||| 32).toNat_lt
        rw [← hvv] at hv h95
        by_cases hlet : 97 ≤ v ∧ v ≤ 122
        · obtain ⟨hl0, hl1⟩ := hlet
          have hn95 : ¬ c.toNat = 95 := fun e => h95 e ⟨hl0, hl1⟩
          have hD : hexD c = v - 87 := by rw [hexD, if_neg hdig, ← hvv, if_pos ⟨hl0, hl1⟩]
          by_cases h16 : 16 ≤ v - 87
          · have hF : hexAt acc (c :: bs.drop (k + 1)) = .bad := by rw [hexAt, hD, if_pos h16]
            rw [hF] at hdec
            have i16 : (103 : Int) ≤ (v : Int) := by omega
            clear hacc hF ha hD hvv h95
            go_wp2_with (go_at_call 67; refine (Tryd.internal_strconv_lower _ _).mono ?_; rintro e w' ⟨rfl, rfl⟩)
            all_goals go_ret2
            all_goals first | exact ⟨rfl, rfl⟩ | exact ⟨by rw [hdec]; rfl, rfl⟩
          · have i16 : (v : Int) ≤ 102 := by omega
            by_cases hov : 65535 < acc * 16 + (v - 87)
            · have hF : hexAt acc (c :: bs.drop (k + 1)) = .far := by rw [hexAt, hD, if_neg h16, if_pos hov]
              rw [hF] at hdec
              have iov : 65535 < a * 16 + ((v : Int) - 87) := by omega
              clear hacc hF hov ha hD hvv h95
              go_wp2_with (go_at_call 67; refine (Tryd.internal_strconv_lower _ _).mono ?_; rintro e w' ⟨rfl, rfl⟩)
              all_goals go_ret2
              all_goals first | exact ⟨rfl, rfl⟩ | exact ⟨by rw [hdec]; rfl, rfl⟩
            · have hF : hexAt acc (c :: bs.drop (k + 1)) = hexAt (acc * 16 + (v - 87)) (bs.drop (k + 1)) := by rw [hexAt, hD, if_neg h16, if_neg hov]
              have HN : Hid (a * 16 + ((v : Int) - 87) = ((acc * 16 + (v - 87) : Nat) : Int) ∧ acc * 16 + (v - 87) ≤ 65535 ∧ hexAt 0 bs = hexAt (acc * 16 + (v - 87)) (bs.drop (k + 1))) := Lib.hid ⟨by omega, by omega, hdec.trans hF⟩
              have iov : a * 16 + ((v : Int) - 87) ≤ 65535 := by omega
              clear hacc hF hov hdec ha hD hvv h95
              go_wp2_with (go_at_call 67; refine (Tryd.internal_strconv_lower _ _).mono ?_; rintro e w' ⟨rfl, rfl⟩)
              all_goals refine ⟨⟨k + 1, acc * 16 + (v - 87), a * 16 + ((v : Int) - 87), rfl, (by first | rfl | (congr 1; omega)), (by first | rfl | (congr 1; omega)), by omega, HN⟩, by simp [intOf]; omega⟩
        · have hF : hexAt acc (c :: bs.drop (k + 1)) = .bad := by
            have hD : hexD c = 99 := by rw [hexD, if_neg hdig, ← hvv, if_neg hlet]
            rw [hexAt, hD, if_pos (by omega)]
          rw [hF] at hdec
          clear hacc hF ha hvv h95
          have hu0 := bits_lo_u8 .or 95 32
          have hu1 := bits_hi_u8 .or 95 32
          go_wp2_with (go_at_call 67; refine (Tryd.internal_strconv_lower _ _).mono ?_; rintro e w' ⟨rfl, rfl⟩)
          all_goals go_ret2
          all_goals first | exact ⟨rfl, rfl⟩ | exact ⟨by rw [hdec]; rfl, rfl⟩
    · have hkk : k = t.size := by omega
      subst hkk
      have hF : hexAt acc (bs.drop t.size) = .ok acc := by rw [List.drop_eq_nil_of_le (by omega)]; rfl
      rw [hF] at hdec
      subst ha
      clear hacc hF a0 a1
      go_wp2
      go_ret2
      first | exact ⟨rfl, rfl⟩ | exact ⟨by rw [hdec]; rfl, rfl⟩
end Go.Proofs.YtepibdjglfaniaaDoor
