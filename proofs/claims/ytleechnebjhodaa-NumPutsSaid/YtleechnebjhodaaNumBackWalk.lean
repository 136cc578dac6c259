import Derived.Test.YtleechnebjhodaaNumGetsWalk
namespace Go.Proofs.Ytleechnebjhodaa
open Go.RowKit
/-- b = Few(b, 60). -/
theorem few_sixty (v : Value) (l : List UInt8) (w : World) (h : Rd w w.heap.size v (cellsB l)) : ∃ m : List UInt8, m.length ≤ 60 ∧
    Calls Try.prog 7 #[v, .int .i64 60] w fun e w' => ∃ A c, e = .returned (.slice A m.length c) ∧ m.length ≤ c ∧ Rd w' w'.heap.size (.slice A m.length c) (cellsB m) ∧ Below w.heap.size w w' := by
  refine ⟨l.take 60, by simp; omega, (few_any v l 60 w _ h (Nat.le_refl _) (by omega)).mono ?_⟩
  rintro e w' ⟨v', rfl, h1, h2⟩
  obtain ⟨A, c, rfl, g1, _, g2⟩ := h1.rd.bytes
  exact ⟨A, c, rfl, g1, g2, h2⟩
theorem u8_of_wf' {n : Int} (h : (Lit.int .u8 n).wf = true) : 0 ≤ n ∧ n < 256 := by
  have := h
  simp [Lit.wf, IntKind.min, IntKind.max, IntKind.bits, IntKind.signed] at this; omega
theorem u64_of_wf {n : Int} (h : (Lit.int .u64 n).wf = true) : 0 ≤ n ∧ n < 18446744073709551616 := by
  have := h
  simp [Lit.wf, IntKind.min, IntKind.max, IntKind.bits, IntKind.signed] at this; omega
theorem back_seg (m r : List UInt8) (k : Nat) (h : r.length = k) : ((m ++ r).drop m.length).take k = r := by
  rw [List.drop_left, ← h, List.take_length]
theorem shl_pow (k : Nat) (hk : k < 8) : IntKind.u64.wrap (2 ^ (8 * k)) = ((256 ^ k : Nat) : Int) := by
  have h : (256 : Nat) ^ k ≤ 256 ^ 7 := Nat.pow_le_pow_right (by decide) (by omega)
  have h7 : (256 : Nat) ^ 7 = 72057594037927936 := by decide
  have e : (2 : Int) ^ (8 * k) = ((256 ^ k : Nat) : Int) := by rw [Int.pow_mul]; simp
  rw [e]
  generalize 256 ^ k = x at *
  exact IntWalk.u64_in _ (by omega)
theorem shl_test (n k q : Nat) (hk : k < 8) (hq : q = n % 256 ^ k) : ((q : Int) == (n : Int) % IntKind.u64.wrap (2 ^ (8 * k))) = true := by
  rw [shl_pow k hk, hq]; simp
theorem shl_zero (k : Nat) (hk : k < 8) : ¬ IntKind.u64.wrap (2 ^ (8 * k)) = 0 := by
  rw [shl_pow k hk]
  have : 0 < 256 ^ k := Nat.pow_pos (by decide)
  omega
theorem no_mod (n k q : Nat) (hk : ¬ k < 8) (hk8 : k ≤ 8) (hn : (n : Int) < 18446744073709551616) (hq : q = n % 256 ^ k) : ((q : Int) == (n : Int)) = true := by
  obtain rfl : k = 8 := by omega
  have h7 : (256 : Nat) ^ 8 = 18446744073709551616 := by decide
  rw [h7] at hq
  rw [beq_iff_eq]
  omega
set_option maxHeartbeats 400000 in
theorem numBack_walk (v : Value) (l : List UInt8) (n s : Int) (w : World) (h : Rd w w.heap.size v (cellsB l)) (wn : (Lit.int .u64 n).wf = true) (ws : (Lit.int .u8 s).wf = true) :
    Calls Try.prog 6 #[v, .int .u64 n, .int .u8 s] w fun e w' => e = .returned (.bool true) ∧ Below w.heap.size w w' := by
  obtain ⟨A, c, rfl, _, _, h⟩ := h.bytes
  obtain ⟨m, hm, hfew⟩ := few_sixty _ l w h
  have Hfew := Lib.hid hfew
  clear hfew
  obtain ⟨hn0, hn1⟩ := u64_of_wf wn
  obtain ⟨hs0, hs1⟩ := u8_of_wf' ws
  obtain ⟨n, rfl⟩ := Int.eq_ofNat_of_zero_le hn0
  obtain ⟨s, rfl⟩ := Int.eq_ofNat_of_zero_le hs0
  have Hn := Kept.mk hn1
  have hs2 : s < 256 := by omega
  clear hn0 hn1 wn ws hs0 hs1
  obtain ⟨k, hk⟩ : ∃ k : Nat, k = 1 + s % 8 := ⟨_, rfl⟩
  have hk1 : 1 ≤ k := by omega
  have hk8 : k ≤ 8 := by omega
  have hk2 : 1 + (s : Int) % 8 = (k : Int) := by omega
  have Hk := Lib.hid hk
  clear hk
  obtain ⟨r, hrr⟩ : ∃ r, r = m ++ be k n := ⟨_, rfl⟩
  have hput := fun A c W h => put_yes A c m n k W W.heap.size h (Nat.le_refl _) (by omega) hk1 hk8
  rw [← hrr] at hput
  have Hput := Lib.hid hput
  obtain ⟨q, hq⟩ : ∃ q, q = ofBe ((r.drop m.length).take k) 0 := ⟨_, rfl⟩
  have hlen : m.length + k = r.length := by rw [hrr, List.length_append, be_length]
  have hget := fun A c W h => get_yes A c r m.length k W W.heap.size h hk1 hk8 (by omega)
  rw [← hq] at hget
  have Hget := Lib.hid hget
  have hqn : q = n % 256 ^ k := by
    rw [hq, hrr, back_seg m _ k (be_length k n), ofBe_be]; simp
  have Hq := Kept.mk hqn
  clear hput hget hq hrr hlen hqn
  by_cases hlt : k < 8
  · have ht := shl_test n k q hlt Hq.out
    have hz := shl_zero k hlt
    clear Hk
    go_enter Try.func6, Try.ntmps6
    go_wp2_with (first
      | (go_at_call 7; refine Hfew.out.mono ?_; rintro e w1 ⟨A1, c1, rfl, g1, hr1, hbel1⟩)
      | (go_at_call 9; clear hk2; refine (Hput.out A1 c1 _ hr1).mono ?_; rintro e w2 ⟨v2, rfl, hown2, hbel2⟩; obtain ⟨A2, c2, rfl, _, _, hr2⟩ := hown2.rd.bytes)
      | (go_at_call 11; refine (Hget.out A2 c2 _ hr2).mono ?_; rintro e w3 ⟨rfl, rfl⟩)
      | (go_at_call 10; refine (lives_any _).mono ?_; rintro e w4 ⟨rfl, hbel4⟩))
    go_ret
    exact ⟨rfl, up (up hbel1 hbel2) hbel4⟩
  · have ht := no_mod n k q hlt hk8 Hn.out Hq.out
    have hge : 8 ≤ k := by omega
    clear Hk hlt
    go_enter Try.func6, Try.ntmps6
    go_wp2_with (first
      | (go_at_call 7; refine Hfew.out.mono ?_; rintro e w1 ⟨A1, c1, rfl, g1, hr1, hbel1⟩)
      | (go_at_call 9; clear hk2; refine (Hput.out A1 c1 _ hr1).mono ?_; rintro e w2 ⟨v2, rfl, hown2, hbel2⟩; obtain ⟨A2, c2, rfl, _, _, hr2⟩ := hown2.rd.bytes)
      | (go_at_call 11; refine (Hget.out A2 c2 _ hr2).mono ?_; rintro e w3 ⟨rfl, rfl⟩)
      | (go_at_call 10; refine (lives_any _).mono ?_; rintro e w4 ⟨rfl, hbel4⟩))
    go_ret
    exact ⟨rfl, up (up hbel1 hbel2) hbel4⟩
end Go.Proofs.Ytleechnebjhodaa
