/-
  The document's own Get of stanchionref01, by contract (Num, Put: RefNumP).
-/
import Derived.Test.YtalchhfpdojjjaaRefNumP
namespace Go.Proofs.Ytalchhfpdojjjaa
open Go.RowKit

set_option maxRecDepth 100000 in
set_option maxHeartbeats 400000 in
theorem refGet_any (A : Option Addr) (c : Nat) (l : List UInt8) (a s : Nat) (w : World) (B : Nat) (hr : Rd w B (.slice A l.length c) (cellsB l))
   (h1 : 1 ≤ s) (h2 : s ≤ 8) (h3 : a + s ≤ l.length) :
    Calls Try.prog 21 #[.slice A l.length c, .int .i64 (a : Int), .int .i64 (s : Int)] w fun e w' => e = .returned (.int .u64 (ofBe ((l.drop a).take s) 0 : Nat)) ∧ w = w' := by
  obtain ⟨b, o, rfl, hb, hc⟩ := hr.addr (by omega)
  obtain ⟨_, _, e, g1, g2, _⟩ := hr.bytes
  injection e with e1 e2 e3
  subst e3
  clear e1 e2
  go_enter Try.func21, Try.ntmps21
  go_wp2_with fail
  go_loop [7, 8] (fun nv iv => ∃ k q : Nat, k ≤ s ∧ iv = .int .i64 ((a : Int) + k) ∧ nv = .int .u64 (q : Int) ∧ q = ofBe (((l.drop a).take s).take k) 0) (fun _ i => (a + s - intOf i).toNat)
  case atStart => exact ⟨0, 0, Nat.zero_le _, by simp, rfl, rfl⟩
  case round =>
    obtain ⟨k, q, hk, rfl, rfl, hq⟩ := hrel
    have Hq := Lib.hid hq
    clear hq
    by_cases hlt : k < s
    · have hcell := hc (a + k) (by omega)
      obtain ⟨x, hx⟩ : ∃ x, x = l[a + k]'(by omega) := ⟨_, rfl⟩
      rw [← hx] at hcell
      have Hx := Lib.hid hx
      clear hx
      have hx1 : (x.toNat : Int) < 256 := by have := x.toNat_lt; omega
      have hn1 : ((a : Int) + k).toNat = a + k := by omega
      have hn2 : (a : Int) + k < l.length := by omega
      go_wp2_with fail
      go_round
      case rel => 
        have hq7 : q < 72057594037927936 := by
          rw [Hq.out]
          exact ofBe_less _ (by have := seg_len l a s k; omega)
        refine ⟨k + 1, q * 256 + x.toNat, by omega, by go_num, ?_, ?_⟩
        · rw [sum_step q x.toNat hq7 (by omega)]
        · rw [seg_succ l a s k hlt h3, ofBe_snoc, ← Hq.out, Hx.out]
      case measure => simp [intOf]; omega
    · have : k = s := by omega
      subst this
      go_wp2_with fail
      go_ret
      have e := Hq.out
      rw [List.take_take, Nat.min_self] at e
      rw [← e]
      exact ⟨rfl, rfl⟩
end Go.Proofs.Ytalchhfpdojjjaa
