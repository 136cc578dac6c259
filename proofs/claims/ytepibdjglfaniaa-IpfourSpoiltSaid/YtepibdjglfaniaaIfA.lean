/-
  Small functions of package ipfour: what is wrong with bytes.
-/
import Derived.Test.YtepibdjglfaniaaIfMath
import Derived.Test.YtepibdjglfaniaaInetB
namespace Go.Proofs.Ytepibdjglfaniaa
open Go.RowKit
theorem drew_self (X : World) : Below X.heap.size X X.drew := (Below.refl _ _).drew
theorem drew_start {X w1 : World} (h : Below X.drew.heap.size X.drew w1) : Below X.heap.size X w1 := (drew_self X).trans h
section
variable {A : Option Addr} {c : Nat} {l : List UInt8} {w : World} {B : Nat}
set_option maxRecDepth 100000 in
theorem ifNumber_any (hr : Rd w B (.slice A l.length c) (cellsB l)) {a : Nat} (h : a + 2 ≤ l.length) :
    Calls Try.prog 23 #[.slice A l.length c, .int .i64 (a : Int)] w fun e w' => e = .returned (.int .i64 ((num2 l a : Nat) : Int)) ∧ w = w' := by
  have hg := get_yes A c l a 2 w B hr (by omega) (by omega) h
  rw [ofBe_two l a h] at hg
  have hlt := num2_lt l a
  obtain ⟨q, hq⟩ : ∃ q, q = num2 l a := ⟨_, rfl⟩
  rw [← hq] at hg hlt ⊢
  have hc : IntKind.i64.wrap (q : Int) = (q : Int) := IntWalk.i64_in _ (by omega)
  have Hg := Lib.hid hg
  clear hg hq hr h hlt
  go_enter Try.func23, Try.ntmps23
  go_wp2_with (go_at_call 32; refine Hg.out.mono ?_; rintro e w1 ⟨rfl, rfl⟩)
  go_ret
  exact ⟨rfl, rfl⟩
set_option maxRecDepth 100000 in
theorem ifBehind_any (hr : Rd w B (.slice A l.length c) (cellsB l)) :
    Calls Try.prog 11 #[.slice A l.length c] w fun e w' => e = .returned (.tuple #[.int .i64 ((if ifE1 l = 0 then ifN l else 0 : Nat) : Int), .int .i64 ((ifE1 l : Nat) : Int)]) ∧ w = w' := by
  obtain ⟨m, hm⟩ : ∃ m, m = l.length := ⟨_, rfl⟩
  by_cases h1 : 2048 < m
  · have e : ifE1 l = 10 := by unfold ifE1; rw [if_pos (by omega)]
    rw [e, ← hm]
    clear hr hm e
    go_enter Try.func11, Try.ntmps11
    go_wp2_with fail
    go_ret2
    exact ⟨rfl, rfl⟩
  by_cases h2 : m < 20
  · have e : ifE1 l = 9 := by unfold ifE1; rw [if_neg (by omega), if_pos (by omega)]
    rw [e, ← hm]
    clear hr hm e
    go_enter Try.func11, Try.ntmps11
    go_wp2_with fail
    go_ret2
    exact ⟨rfl, rfl⟩
  obtain ⟨b, o, rfl, hb, hc⟩ := hr.addr (by omega)
  have c0 := hc 0 (by omega)
  rw [Nat.add_zero] at c0
  obtain ⟨x, hx⟩ : ∃ x, x = l[0]'(by omega) := ⟨_, rfl⟩
  have hgx : (l.getD 0 0).toNat = x.toNat := by rw [hx, List.getD_eq_getElem?_getD, List.getElem?_eq_getElem (by omega)]; rfl
  rw [← hx] at c0
  have hxl := x.toNat_lt
  have he : ifE1 l = if x.toNat / 16 ≠ 4 then 12 else if x.toNat % 16 < 5 then 4 else if m < x.toNat % 16 * 4 then 9 else 0 := by
    unfold ifE1 ifN
    rw [if_neg (by omega), if_neg (by omega), hgx, hm]
  have hn : ifN l = x.toNat % 16 * 4 := by unfold ifN; rw [hgx]
  rw [he, hn, ← hm]
  clear hr hc hgx he hn hm hb hx
  have k1 : bits .and .u8 (x.toNat : Int) 15 = ((x.toNat % 16 : Nat) : Int) := by
    rw [show (15 : Int) = ((15 : Nat) : Int) by rfl, u8_and_nat _ _ hxl (by omega), nat_mask4]
  obtain ⟨p, hp⟩ : ∃ p, p = x.toNat / 16 := ⟨_, rfl⟩
  obtain ⟨q, hq⟩ : ∃ q, q = x.toNat % 16 := ⟨_, rfl⟩
  rw [← hq] at k1
  rw [← hp, ← hq]
  have k2 : (x.toNat : Int) / 16 = (p : Int) := by omega
  have hq2 : q < 16 := by omega
  clear hp hq
  by_cases h3 : p = 4
  · subst h3
    simp only [ne_eq, not_true_eq_false, if_false]
    by_cases h4 : q < 5
    · rw [if_pos h4]
      go_enter Try.func11, Try.ntmps11
      go_wp2_with fail
      go_ret2
      exact ⟨rfl, rfl⟩
    · rw [if_neg h4]
      by_cases h5 : m < q * 4
      · rw [if_pos h5]
        go_enter Try.func11, Try.ntmps11
        go_wp2_with fail
        go_ret2
        exact ⟨rfl, rfl⟩
      · rw [if_neg h5, if_pos rfl]
        go_enter Try.func11, Try.ntmps11
        go_wp2_with fail
        go_ret2
        exact ⟨by simp, rfl⟩
  · have h3' : ((p : Int) != 4) = true := by simp; omega
    rw [if_pos h3]
    go_enter Try.func11, Try.ntmps11
    go_wp2_with fail
    go_ret2
    exact ⟨rfl, rfl⟩
end
end Go.Proofs.Ytepibdjglfaniaa
