/-
  Sum, Good and Change of package inet, by contracts.
-/
import Derived.Test.YtfafcihpjcgmhaaInetA
namespace Go.Proofs.Ytfafcihpjcgmhaa
open Go.RowKit
section
variable {A : Option Addr} {n c : Nat} {ls : List (List UInt8)} {w : World} {B : Nat}
set_option maxRecDepth 100000 in
set_option maxHeartbeats 1000000 in
theorem inSum_any (hr : RdAll w B (.slice A n c) ls) (hfl : ls.flatten.length ≤ 1000000) :
    Calls Try.prog 8 #[.slice A n c] w fun e w' => e = .returned (.int .u16 (sumOf ls.flatten : Nat)) ∧ w = w' := by
  have ht := inTotal_any A n c ls w B hr hfl
  have htl := tot_le ls.flatten
  obtain ⟨s, hs⟩ : ∃ s, s = tot ls.flatten := ⟨_, rfl⟩
  rw [← hs] at ht htl
  have hf := inFold_any s w (by omega)
  obtain ⟨f, hff⟩ : ∃ f, f = fo s := ⟨_, rfl⟩
  have hfl2 := fo_le s
  rw [← hff] at hf hfl2
  have hn := not16 f (by omega)
  have Ht := Lib.hid ht
  have Hf := Lib.hid hf
  have Hff := Lib.hid hff
  have Hs := Lib.hid hs
  clear ht hf htl hff hfl2 hs hfl
  go_enter Try.func8, Try.ntmps8
  go_wp2_with (first
    | (go_at_call 15; refine Ht.out.mono ?_; rintro e w1 ⟨rfl, rfl⟩)
    | (go_at_call 14; refine Hf.out.mono ?_; rintro e w2 ⟨rfl, rfl⟩))
  go_ret
  exact ⟨by rw [Hff.out, Hs.out]; rfl, rfl⟩
set_option maxRecDepth 100000 in
set_option maxHeartbeats 1000000 in
theorem inGood_any (hr : RdAll w B (.slice A n c) ls) (hfl : ls.flatten.length ≤ 1000000) :
    Calls Try.prog 10 #[.slice A n c] w fun e w' => e = .returned (.bool (decide (sumOf ls.flatten = 0))) ∧ w = w' := by
  have Hs := Lib.hid (inSum_any hr hfl)
  obtain ⟨s, hs⟩ : ∃ s, s = sumOf ls.flatten := ⟨_, rfl⟩
  rw [← hs] at Hs ⊢
  clear hs hfl
  go_enter Try.func10, Try.ntmps10
  go_wp2_with (first
    | (go_at_call 8; refine Hs.out.mono ?_; rintro e w1 ⟨rfl, rfl⟩))
  go_ret
  refine ⟨?_, rfl⟩
  show Ending.returned (.bool ((s : Int) == 0)) = _
  by_cases h : s = 0
  · subst h; rfl
  · have : ((s : Int) == 0) = false := by simp; omega
    rw [this, decide_eq_false h]
end
section
variable {w : World} {A1 A2 : Option Addr} {c1 c2 : Nat} {a b : List UInt8} {s : Nat}
set_option maxRecDepth 100000 in
set_option maxHeartbeats 1000000 in
theorem inChange_no (hne : a.length ≠ b.length ∨ a.length % 2 ≠ 0) (ha : a.length ≤ 1000000) (hb : b.length ≤ 1000000) :
    Calls Try.prog 13 #[.int .u16 (s : Int), .slice A1 a.length c1, .slice A2 b.length c2] w fun e w' => e = .returned (.int .u16 (s : Int)) ∧ w = w' := by
  obtain ⟨n, hn⟩ : ∃ n, n = a.length := ⟨_, rfl⟩
  obtain ⟨m, hm⟩ : ∃ m, m = b.length := ⟨_, rfl⟩
  rw [← hn] at hne ha ⊢
  rw [← hm] at hne hb ⊢
  clear hn hm
  by_cases hnm : n = m
  · have h2 : n % 2 = 1 := by omega
    subst hnm
    have k1 : ((n : Int) != (n : Int)) = false := by simp
    have k2 : (n : Int).tmod 2 = 1 := by rw [Int.tmod_eq_emod_of_nonneg (by omega)]; omega
    clear hne h2
    go_enter Try.func13, Try.ntmps13
    go_wp2_with fail
    go_ret
    exact ⟨rfl, rfl⟩
  · have k1 : ((n : Int) != (m : Int)) = true := by simp; omega
    clear hne
    go_enter Try.func13, Try.ntmps13
    go_wp2_with fail
    go_ret
    exact ⟨rfl, rfl⟩
set_option maxRecDepth 100000 in
set_option maxHeartbeats 1000000 in
theorem inChange_yes {n : Nat} (hs : s ≤ 65535) (ha : a.length = n) (hb : b.length = n) (he : n % 2 = 0) (hn : n ≤ 1000000) (hr1 : Rd w w.heap.size (.slice A1 n c1) (cellsB a)) (hr2 : Rd w w.heap.size (.slice A2 n c2) (cellsB b)) :
    Calls Try.prog 13 #[.int .u16 (s : Int), .slice A1 n c1, .slice A2 n c2] w fun e w' => e = .returned (.int .u16 (chgOf s a b : Nat)) ∧ Below w.heap.size w w' := by
  have t1 := inTotal_any _ _ _ _ _ _ (RdAll.lit1 w 22 _ a hr1) (by simp; omega)
  have hw1 : Below w.heap.size w (w.alloc (.cells #[.slice A1 n c1] 22)) := up_alloc (Below.refl _ _) _
  have t2 := inTotal_any _ _ _ _ _ _ (RdAll.lit1 (w.alloc (.cells #[.slice A1 n c1] 22)) 22 _ b ((hr2.below hw1).more hw1.size)) (by simp; omega)
  rw [show [a].flatten = a by simp] at t1
  rw [show [b].flatten = b by simp] at t2
  rw [show (w.alloc (.cells #[.slice A1 n c1] 22)).heap.size = w.heap.size + 1 by simp] at t2
  have g1 := tot_even a (by rw [ha]; exact he)
  have g2 := tot_le b
  obtain ⟨u, hu⟩ : ∃ u, u = tot a := ⟨_, rfl⟩
  obtain ⟨v, hv⟩ : ∃ v, v = tot b := ⟨_, rfl⟩
  obtain ⟨h, hh⟩ : ∃ h, h = n / 2 := ⟨_, rfl⟩
  obtain ⟨q, hq⟩ : ∃ q, q = h * 65535 := ⟨_, rfl⟩
  obtain ⟨d, hd⟩ : ∃ d, d = q - u := ⟨_, rfl⟩
  obtain ⟨r, hr⟩ : ∃ r, r = 65535 - s := ⟨_, rfl⟩
  obtain ⟨z, hz⟩ : ∃ z, z = r + d + v := ⟨_, rfl⟩
  rw [← hu] at t1 g1
  rw [← hv] at t2 g2
  rw [ha, ← hh, ← hq] at g1
  have hfin : chgOf s a b = 65535 - fo z := by unfold chgOf; rw [← hu, ← hv, ha, ← hh, ← hq, ← hd, ← hr, ← hz]
  have hzl : z < 18446744073709551616 := by omega
  have hf := inFold_any z ((w.alloc (.cells #[.slice A1 n c1] 22)).alloc (.cells #[.slice A2 n c2] 22)) hzl
  obtain ⟨f, hff⟩ : ∃ f, f = fo z := ⟨_, rfl⟩
  have hfl2 := fo_le z
  rw [← hff] at hf hfl2 hfin
  have n1 := not16 s (by omega)
  rw [← hr] at n1
  have n2 := not16 f (by omega)
  obtain ⟨y, hy⟩ : ∃ y, y = 65535 - f := ⟨_, rfl⟩
  rw [← hy] at n2 hfin
  rw [hfin]
  have hlen : (n : Int) / 2 = (h : Int) := by omega
  have hlen2 : (n : Int).tdiv 2 = (h : Int) := by rw [Int.tdiv_eq_ediv_of_nonneg (by omega)]; omega
  have wh0 : wrap64 (h : Int) = (h : Int) := IntWalk.wrap64_in _ (by omega)
  have Wh := Lib.hid wh0
  clear wh0
  have w0 : IntKind.u64.wrap (h : Int) = (h : Int) := IntWalk.u64_in _ (by omega)
  have w1 : IntKind.u64.wrap ((h : Int) * 65535) = (q : Int) := by rw [IntWalk.u64_in _ (by omega)]; omega
  have w2 : IntKind.u64.wrap ((q : Int) - (u : Int)) = (d : Int) := by rw [IntWalk.u64_in _ (by omega)]; omega
  have w3 : IntKind.u64.wrap (r : Int) = (r : Int) := IntWalk.u64_in _ (by omega)
  have w4 : IntKind.u64.wrap ((r : Int) + (d : Int)) = ((r + d : Nat) : Int) := by rw [IntWalk.u64_in _ (by omega)]; omega
  obtain ⟨x, hx⟩ : ∃ x, x = r + d := ⟨_, rfl⟩
  rw [← hx] at w4
  have w5 : IntKind.u64.wrap ((x : Int) + (v : Int)) = (z : Int) := by rw [IntWalk.u64_in _ (by omega)]; omega
  have k2 : (n : Int).tmod 2 = 0 := by rw [Int.tmod_eq_emod_of_nonneg (by omega)]; omega
  have hbel : Below w.heap.size w ((w.alloc (.cells #[.slice A1 n c1] 22)).alloc (.cells #[.slice A2 n c2] 22)) := up_alloc hw1 _
  have k1 : ((n : Int) != (n : Int)) = false := by simp
  have T1 := Lib.hid t1
  have T2 := Lib.hid t2
  have Hf := Lib.hid hf
  have Hb := Lib.hid hbel
  have wh := Wh.out
  clear Wh
  clear t1 t2 hf hbel hfl2 hff hzl hz hr hd hq hh hv hu g1 g2 hr1 hr2 hw1 hfin hy hx hn ha hb he hs hlen
  go_enter Try.func13, Try.ntmps13
  go_wp2_with fail
  refine T1.out.mono ?_
  rintro e w1 ⟨rfl, rfl⟩
  clear T1
  go_wp2_with fail
  refine T2.out.mono ?_
  rintro e w2 ⟨rfl, rfl⟩
  clear T2
  go_wp2_with fail
  refine Hf.out.mono ?_
  rintro e w3 ⟨rfl, rfl⟩
  go_wp2_with fail
  go_ret
  exact ⟨rfl, Hb.out⟩
end
end Go.Proofs.Ytfafcihpjcgmhaa
