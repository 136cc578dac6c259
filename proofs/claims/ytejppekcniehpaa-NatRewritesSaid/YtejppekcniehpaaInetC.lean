/-
  The document's own sums (ref11), and that a sum is told, by contracts.
-/
import Derived.Test.YtejppekcniehpaaInetB
namespace Go.Proofs.Ytejppekcniehpaa
open Go.RowKit
/-- How large a number may be behind so many rounds. -/
def fbnd (k : Nat) : Nat := if k = 0 then 18446744073709551615 else if k = 1 then 281474976776190 else if k = 2 then 4295032831 else if k = 3 then 131071 else if k = 4 then 65536 else 65535
theorem fbnd_step (k s : Nat) (h : s ≤ fbnd k) (hs : 65536 ≤ s) (hk : k ≤ 5) : k < 5 ∧ s % 65536 + s / 65536 ≤ fbnd (k + 1) := by
  unfold fbnd at *
  rcases (by omega : k = 0 ∨ k = 1 ∨ k = 2 ∨ k = 3 ∨ k = 4 ∨ k = 5) with rfl | rfl | rfl | rfl | rfl | rfl <;> simp at h ⊢ <;> omega
theorem fbnd_le (k : Nat) : fbnd k ≤ 18446744073709551615 := by
  unfold fbnd
  repeat' split
  all_goals omega
set_option maxRecDepth 100000 in
set_option maxHeartbeats 400000 in
theorem rinFold_any (n : Nat) (w : World) (hn : n < 18446744073709551616) : Calls Try.prog 49 #[.int .u64 n] w fun e w' => e = .returned (.int .u64 (fo n : Nat)) ∧ w = w' := by
  have Hn := Kept.mk hn
  clear hn
  go_enter Try.func49, Try.ntmps49
  go_wp2_with fail
  go_loop [0, 3] (fun sv iv => ∃ s k : Nat, sv = .int .u64 (s : Int) ∧ iv = .int .i64 (k : Int) ∧ k ≤ 5 ∧ Kept (s ≤ fbnd k) ∧ fo s = fo n) (fun sv _ => (intOf sv).toNat)
  case atStart => exact ⟨n, 0, rfl, rfl, by omega, ⟨by have := Hn.out; show n ≤ 18446744073709551615; omega⟩, rfl⟩
  case round =>
    obtain ⟨s, k, rfl, rfl, hk5, hs, hf⟩ := hrel
    have Hf := Lib.hid hf
    clear hf
    by_cases hk : 65536 ≤ s
    · obtain ⟨h5, hb⟩ := fbnd_step k s hs.out hk hk5
      have hle := fbnd_le k
      obtain ⟨a, ha⟩ : ∃ a, a = s / 65536 := ⟨_, rfl⟩
      obtain ⟨b, hb2⟩ : ∃ b, b = s % 65536 := ⟨_, rfl⟩
      have hlt : b + a < s := by omega
      have e1 : (s : Int) / 65536 = (a : Int) := by omega
      have e2 : (s : Int) % 65536 = (b : Int) := by omega
      have e3 : (s : Int).tdiv 65536 = (a : Int) := by rw [Int.tdiv_eq_ediv_of_nonneg (by omega)]; omega
      have e4 : (s : Int).tmod 65536 = (b : Int) := by rw [Int.tmod_eq_emod_of_nonneg (by omega)]; omega
      have w1 : IntKind.u64.wrap (a : Int) = (a : Int) := by have := hs.out; exact IntWalk.u64_in _ (by omega)
      have w2 : IntKind.u64.wrap ((b : Int) + (a : Int)) = ((b + a : Nat) : Int) := by have := hs.out; rw [IntWalk.u64_in _ (by omega)]; omega
      have hst : fo (b + a) = fo s := by rw [ha, hb2, Nat.add_comm]; exact fo_step s
      rw [← ha, ← hb2] at hb
      have Hst := Lib.hid hst
      have Hlt := Lib.hid hlt
      have Hb := Kept.mk hb
      have k1 : decide ((s : Int) ≥ 65536) = true := by simp; omega
      have k2 : decide ((k : Int) < 60) = true := by simp; omega
      clear hst hlt ha hb2 hb hk hle hk5
      go_wp2_with fail
      go_round
      case rel => exact ⟨b + a, k + 1, rfl, by go_num, by omega, Hb, by rw [Hst.out]; exact Hf.out⟩
      case measure => simp [intOf]; have := Hlt.out; omega
    · have h2 : s ≤ 65535 := by omega
      have he := fo_small s h2
      have k1 : decide ((s : Int) ≥ 65536) = false := by simp; omega
      have k2 : decide ((k : Int) < 60) = true := by simp; omega
      clear hk
      go_wp2_with fail
      go_ret
      exact ⟨by rw [← Hf.out, he]; rfl, rfl⟩
theorem tot_take1 (l : List UInt8) (k : Nat) (x : UInt8) (hk : k % 2 = 0) (hx : l[k]? = some x) (h : l.length = k + 1) : tot (l.take (k + 2)) = tot (l.take k) + 256 * x.toNat := by
  have h1 : l.take (k + 2) = l.take k ++ [x] := by
    have h2 : l.take (k + 1) = l.take k ++ [x] := by rw [List.take_add_one, hx]; rfl
    rw [← h2, List.take_of_length_le (by omega), List.take_of_length_le (by omega)]
  rw [h1, tot_append _ _ (by rw [List.length_take]; omega)]
  simp [tot]
set_option maxRecDepth 100000 in
set_option maxHeartbeats 1000000 in
theorem rinTotal_any {A : Option Addr} {n c : Nat} {l : List UInt8} {w : World} {B : Nat} (hl : l.length = n) (hn : n ≤ 1000000) (hr : Rd w B (.slice A n c) (cellsB l)) :
    Calls Try.prog 31 #[.slice A n c] w fun e w' => e = .returned (.int .u64 (fo (tot l) : Nat)) ∧ w = w' := by
  have Hl := Lib.hid hl
  have hf : ∀ s : Nat, s = tot l → Calls Try.prog 49 #[.int .u64 (s : Int)] w fun e w' => e = .returned (.int .u64 (fo (tot l) : Nat)) ∧ w = w' := fun s hs => by
    subst hs
    exact rinFold_any _ _ (by have := tot_le l; omega)
  have HF := Lib.hid hf
  have hcell : 0 < n → ∃ b o, A = some ⟨b, o, none⟩ ∧ ∀ (j : Nat) (x : UInt8), l[j]? = some x → w.cell? ⟨b, o + j, none⟩ = some (.int .u8 (x.toNat : Int)) := fun h0 => by
    obtain ⟨A', c', e, g1, g2, g3, g4⟩ := hr
    injection e with e1 e2 e3
    subst e1 e3
    obtain ⟨b, o, rfl, hb, hc⟩ := g4 (by rw [cellsB_length]; omega)
    exact ⟨b, o, rfl, fun j x hx => hc j _ (by rw [cellsB, List.getElem?_map, hx]; rfl)⟩
  have HC := Lib.hid hcell
  clear hl hf hcell hr
  go_enter Try.func31, Try.ntmps31
  go_wp2_with fail
  go_loop [3, 4] (fun sv i => ∃ k s : Nat, k ≤ n + 1 ∧ Hid (k % 2 = 0) ∧ i = .int .i64 k ∧ sv = .int .u64 (s : Int) ∧ Hid (s = tot (l.take k))) (fun _ i => n + 1 - (intOf i).toNat)
  case atStart => exact ⟨0, 0, by omega, Lib.hid rfl, rfl, rfl, Lib.hid rfl⟩
  case round =>
    obtain ⟨k, s, hk, he, rfl, rfl, hs⟩ := hrel
    by_cases hkn : k < n
    · obtain ⟨b, o, rfl, hc⟩ := HC.out (by omega)
      have hlen := Hl.out
      obtain ⟨x, hx⟩ : ∃ x, l[k]? = some x := ⟨_, List.getElem?_eq_getElem (by omega)⟩
      have hcx := hc k x hx
      have htl := tot_le (l.take k)
      have htk : (l.take k).length ≤ n := by rw [List.length_take]; omega
      rw [← hs.out] at htl
      have hxl := x.toNat_lt
      obtain ⟨y, hy⟩ : ∃ y, y = 256 * x.toNat := ⟨_, rfl⟩
      obtain ⟨s1, hs1⟩ : ∃ s1, s1 = s + y := ⟨_, rfl⟩
      have w0 : IntKind.u64.wrap (x.toNat : Int) = (x.toNat : Int) := IntWalk.u64_in _ (by omega)
      have w1 : IntKind.u64.wrap (256 * (x.toNat : Int)) = (y : Int) := by rw [IntWalk.u64_in _ (by omega)]; omega
      have w2 : IntKind.u64.wrap ((s : Int) + (y : Int)) = (s1 : Int) := by rw [IntWalk.u64_in _ (by omega)]; omega
      by_cases hk1 : k + 1 < n
      · obtain ⟨z, hz⟩ : ∃ z, l[k + 1]? = some z := ⟨_, List.getElem?_eq_getElem (by omega)⟩
        have hcz := hc (k + 1) z hz
        have hzl := z.toNat_lt
        have w3 : IntKind.u64.wrap (z.toNat : Int) = (z.toNat : Int) := IntWalk.u64_in _ (by omega)
        have w4 : IntKind.u64.wrap ((s1 : Int) + (z.toNat : Int)) = ((s1 + z.toNat : Nat) : Int) := by rw [IntWalk.u64_in _ (by omega)]; omega
        have ht := tot_take2 l k x z he.out hx hz
        have hfin : s1 + z.toNat = tot (l.take (k + 2)) := by rw [ht, ← hs.out]; omega
        have he2 : (k + 2) % 2 = 0 := by have := he.out; omega
        have HFin := Lib.hid hfin
        have HE2 := Lib.hid he2
        clear hx hz hc hlen htl htk hxl hzl hy hs1 ht hfin he2
        go_wp2_with fail
        go_round
        case rel => exact ⟨k + 2, s1 + z.toNat, by omega, HE2, by go_num, rfl, HFin⟩
        case measure => simp [intOf]; omega
      · have hkk : n = k + 1 := by omega
        have ht := tot_take1 l k x he.out hx (by omega)
        have hfin : s1 = tot (l.take (k + 2)) := by rw [ht, ← hs.out]; omega
        have he2 : (k + 2) % 2 = 0 := by have := he.out; omega
        have HFin := Lib.hid hfin
        have HE2 := Lib.hid he2
        clear hx hc hlen htl htk hxl hy hs1 ht hfin he2 hkk
        go_wp2_with fail
        go_round
        case rel => exact ⟨k + 2, s1, by omega, HE2, by go_num, rfl, HFin⟩
        case measure => simp [intOf]; omega
    · have hfin : s = tot l := by rw [hs.out, List.take_of_length_le (by have := Hl.out; omega)]
      have hf := HF.out s hfin
      have Hf := Lib.hid hf
      clear hfin hf
      go_wp2_with (go_at_call 49; refine Hf.out.mono ?_; rintro e w1 ⟨rfl, rfl⟩)
      go_ret
      exact ⟨rfl, rfl⟩
set_option maxRecDepth 100000 in
theorem rinSum_any {A : Option Addr} {n c : Nat} {l : List UInt8} {w : World} {B : Nat} (hl : l.length = n) (hn : n ≤ 1000000) (hr : Rd w B (.slice A n c) (cellsB l)) :
    Calls Try.prog 16 #[.slice A n c] w fun e w' => e = .returned (.int .u16 (sumOf l : Nat)) ∧ w = w' := by
  have Ht := Lib.hid (rinTotal_any hl hn hr)
  have hf := fo_le (tot l)
  obtain ⟨f, hff⟩ : ∃ f, f = fo (tot l) := ⟨_, rfl⟩
  obtain ⟨y, hy⟩ : ∃ y, y = 65535 - f := ⟨_, rfl⟩
  have hs : sumOf l = y := by rw [hy, hff]; rfl
  rw [← hff] at Ht hf
  rw [hs]
  have w1 : IntKind.u64.wrap (65535 - (f : Int)) = (y : Int) := by rw [IntWalk.u64_in _ (by omega)]; omega
  have w2 : IntKind.u16.wrap (y : Int) = (y : Int) := by rw [IntKind.wrap_u16]; omega
  clear hff hy hs hf hl hn hr
  go_enter Try.func16, Try.ntmps16
  go_wp2_with (go_at_call 31; refine Ht.out.mono ?_; rintro e w1 ⟨rfl, rfl⟩)
  go_ret
  exact ⟨rfl, rfl⟩
end Go.Proofs.Ytejppekcniehpaa
