/-
  What is wrong with a packet, as far as its first head tells: a contract.
-/
import Derived.Test.YtpgggeihhdbedaaSxA
namespace Go.Proofs.Ytpgggeihhdbedaa
open Go.RowKit
theorem getD_get {l : List UInt8} {k : Nat} (h : k < l.length) : l.getD k 0 = l[k] := by rw [List.getD_eq_getElem?_getD, List.getElem?_eq_getElem h]; rfl
set_option maxRecDepth 100000 in
set_option maxHeartbeats 1000000 in
theorem sxWhole_any {A : Option Addr} {c : Nat} {l : List UInt8} {w : World} {B : Nat} (hr : Rd w B (.slice A l.length c) (cellsB l)) :
    Calls Try.prog 15 #[.slice A l.length c] w fun e w' => e = .returned (.int .i64 ((sxE1 l : Nat) : Int)) ∧ w = w' := by
  obtain ⟨m, hm⟩ : ∃ m, m = l.length := ⟨_, rfl⟩
  by_cases h1 : 2048 < m
  · have e : sxE1 l = 10 := by unfold sxE1; rw [if_pos (by omega)]
    rw [e, ← hm]
    clear hr hm e
    go_enter Try.func15, Try.ntmps15
    go_wp2_with fail
    go_ret
    exact ⟨rfl, rfl⟩
  by_cases h2 : m < 40
  · have e : sxE1 l = 9 := by unfold sxE1; rw [if_neg (by omega), if_pos (by omega)]
    rw [e, ← hm]
    clear hr hm e
    go_enter Try.func15, Try.ntmps15
    go_wp2_with fail
    go_ret
    exact ⟨rfl, rfl⟩
  have hN := Lib.hid (sxNumber_any (a := 4) hr (by omega))
  obtain ⟨b, o, rfl, hb, hc⟩ := hr.addr (by omega)
  have c0 := hc 0 (by omega)
  have c7 := hc 7 (by omega)
  rw [Nat.add_zero] at c0
  obtain ⟨x, hx⟩ : ∃ x, x = l[0]'(by omega) := ⟨_, rfl⟩
  obtain ⟨y, hy⟩ : ∃ y, y = l[7]'(by omega) := ⟨_, rfl⟩
  have hgx : l.getD 0 0 = x := by rw [hx, getD_get (by omega)]
  have hgy : l.getD 7 0 = y := by rw [hy, getD_get (by omega)]
  rw [← hx] at c0
  rw [← hy] at c7
  have hxl := x.toNat_lt
  have hlt := num2_lt l 4
  obtain ⟨q, hq⟩ : ∃ q, q = num2 l 4 := ⟨_, rfl⟩
  rw [← hq] at hN hlt
  have he : sxE1 l = if x.toNat / 16 ≠ 6 then 12 else if m < 40 + q then 9 else if 40 + q < m then 10 else if y.toNat = 0 then 4 else 0 := by
    unfold sxE1
    rw [if_neg (by omega), if_neg (by omega), hgx, hgy, hq, hm]
  rw [he, ← hm]
  rw [← hm] at hN
  obtain ⟨p, hp⟩ : ∃ p, p = x.toNat / 16 := ⟨_, rfl⟩
  rw [← hp]
  have k2 : (x.toNat : Int) / 16 = (p : Int) := by omega
  clear hr hc hgx hgy he hm hb hx hy hp hq
  by_cases h3 : p = 6
  · subst h3
    rw [if_neg (by simp)]
    obtain ⟨z, hz⟩ : ∃ z, z = 40 + q := ⟨_, rfl⟩
    have hzw : IntKind.i64.wrap (40 + (q : Int)) = (z : Int) := by rw [IntWalk.i64_in _ (by omega)]; omega
    rw [← hz]
    clear hz hlt
    by_cases h4 : m < z
    · rw [if_pos h4]
      go_enter Try.func15, Try.ntmps15
      go_wp2_with (go_at_call 21; refine hN.out.mono ?_; rintro e w1 ⟨rfl, rfl⟩)
      go_ret
      exact ⟨rfl, rfl⟩
    rw [if_neg h4]
    by_cases h5 : z < m
    · rw [if_pos h5]
      go_enter Try.func15, Try.ntmps15
      go_wp2_with (go_at_call 21; refine hN.out.mono ?_; rintro e w1 ⟨rfl, rfl⟩)
      go_ret
      exact ⟨rfl, rfl⟩
    rw [if_neg h5]
    by_cases h6 : y.toNat = 0
    · rw [if_pos h6]
      rw [h6] at c7
      clear h6
      go_enter Try.func15, Try.ntmps15
      go_wp2_with (go_at_call 21; refine hN.out.mono ?_; rintro e w1 ⟨rfl, rfl⟩)
      go_ret
      exact ⟨rfl, rfl⟩
    · rw [if_neg h6]
      have k6 : ((y.toNat : Int) == 0) = false := by simp; omega
      clear h6
      go_enter Try.func15, Try.ntmps15
      go_wp2_with (go_at_call 21; refine hN.out.mono ?_; rintro e w1 ⟨rfl, rfl⟩)
      go_ret
      exact ⟨rfl, rfl⟩
  · have h3' : ((p : Int) != 6) = true := by simp; omega
    rw [if_pos h3]
    go_enter Try.func15, Try.ntmps15
    go_wp2_with fail
    go_ret
    exact ⟨rfl, rfl⟩
end Go.Proofs.Ytpgggeihhdbedaa
