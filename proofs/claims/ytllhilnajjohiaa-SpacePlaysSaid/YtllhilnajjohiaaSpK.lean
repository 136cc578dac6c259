/-
  A space: Used, Bytes: contracts.
-/
import Derived.Test.YtllhilnajjohiaaSpI
import Derived.Test.YtllhilnajjohiaaInts
import Derived.StillTailTactics
import Derived.Laws.Cover3
namespace Go.Proofs.Ytllhilnajjohiaa
open Go.RowKit
/-- The numbers below m at which f is, rising. -/
def used (f : Nat → Bool) : Nat → List Nat
  | 0 => []
  | m + 1 => used f m ++ (if f m then [m] else [])
theorem used_le (f : Nat → Bool) : ∀ m, (used f m).length ≤ m
  | 0 => Nat.le_refl _
  | m + 1 => by have := used_le f m; rw [used, List.length_append]; split <;> simp <;> omega
theorem used_yes {f : Nat → Bool} {m : Nat} (h : f m = true) : used f (m + 1) = used f m ++ [m] := by rw [used, if_pos h]
theorem used_no {f : Nat → Bool} {m : Nat} (h : f m = false) : used f (m + 1) = used f m := by rw [used, if_neg (by simp [h]), List.append_nil]
/-- The cells of such numbers. -/
def cellsN (l : List Nat) : List Value := l.map fun (i : Nat) => Value.int .i64 (i : Int)
theorem cellsN_length (l : List Nat) : (cellsN l).length = l.length := by simp [cellsN]
theorem cellsN_append (l m : List Nat) : cellsN (l ++ m) = cellsN l ++ cellsN m := by simp [cellsN]
theorem info_int06 : (Try.prog.info? 3).map (fun i => (i.zero, i.size, i.bytes)) = some (some (.int .i64 0), 1, 8) := by kernel_rfl
theorem rd_alone (w : World) (u : Value) (e : TypeId) : Rd (w.alloc (.cells #[u] e)) (w.heap.size + 1) (.slice (some ⟨w.heap.size, 0, none⟩) 1 1) [u] := by
  refine ⟨some ⟨w.heap.size, 0, none⟩, 1, rfl, Nat.le_refl _, by unfold maxLen; omega, (fun h => by cases h), fun _ => ⟨w.heap.size, 0, rfl, Nat.lt_succ_self _, fun j v hv => ?_⟩⟩
  have hj : j = 0 := by
    have := (List.getElem?_eq_some_iff.1 hv).1
    simp at this
    exact this
  subst hj
  simp at hv
  subst hv
  simp
section
variable {w w' : World} {a : Nat} {x : Spc}
set_option maxHeartbeats 400000 in
theorem used_any (h : SpcIs w a x) : Calls Try.prog 33 #[spAt a] w fun e w' => ∃ v, e = .returned v ∧ Mine w' w.heap.size 3 v (cellsN (used x.now x.n)) ∧ Below w.heap.size w w' := by
  obtain ⟨ti, hi, hz0, hz1, hz2⟩ := info_parts info_int06
  have h0 := h.c0
  have hs := h.ok.size
  obtain ⟨n, hn⟩ : ∃ n, n = x.n := ⟨_, rfl⟩
  obtain ⟨f, hf⟩ : ∃ f, f = x.now := ⟨_, rfl⟩
  have hst := h.sNow
  rw [← hn] at h0 hs ⊢
  rw [← hf] at hst ⊢
  have Hst := Lib.hid hst
  clear h hn hf hst
  go_enter Try.func33, Try.ntmps33
  go_wp2_with fail
  go_loopw [3, 11] (fun sv iv wr => ∃ k : Nat, k ≤ n ∧ iv = .int .i64 (k : Int) ∧ Hid (Mine wr w.heap.size 3 sv (cellsN (used f k)) ∧ Below w.heap.size w wr)) (fun _ iv _ => n - (intOf iv).toNat)
  case atStart => exact ⟨0, by omega, rfl, Lib.hid ⟨Mine.nil _ _ _, Below.refl _ _⟩⟩
  case round =>
    obtain ⟨k, hk, rfl, HI⟩ := hrel
    by_cases hk2 : k < n
    · have hh := sethas_any (Hst.out.below HI.out.2) (no := k) (by omega)
      cases hfk : f k
      · have Hu := Lib.hid (used_no hfk)
        rw [hfk] at hh
        clear hfk
        go_wp2_with (go_at_call 27; refine hh.mono ?_; rintro e w1 ⟨rfl, rfl⟩)
        go_roundw
        case rel => exact ⟨k + 1, by omega, by go_num, by rw [Hu.out]; exact HI⟩
        case measure => simp [intOf]; omega
      · have Hu := Lib.hid (used_yes hfk)
        rw [hfk] at hh
        have hle := used_le f k
        obtain ⟨M, hM⟩ : ∃ M, M = cellsN (used f k) := ⟨_, rfl⟩
        have hMl : M.length ≤ k := by rw [hM, cellsN_length]; exact hle
        have hown : Mine wr w.heap.size 3 u3 M := by rw [hM]; exact HI.out.1
        have hs2 := HI.out.2.size
        have HM := Lib.hid hM
        clear hfk hM hle
        go_wp2_with (first
          | (go_at_call 27; refine hh.mono ?_; rintro e w1 ⟨rfl, rfl⟩)
          | (at_builtin; refine wpList_append_rd rfl (.tmp 19) (.tmp 21) 58 rfl w.heap.size 3 ti _ 8 Try.underlying58 hi hz0 hz1 hz2 rfl _ M rfl (hown.alloc _) _ _ _ rfl (rd_alone wr (.int .i64 (k : Int)) 3) (by simp [Value.oneCell']) (by simp; omega) (by unfold maxLen; simp; omega) (by simp; omega) ?_; intro v3 w3 hown3 hb3 _ _))
        go_roundw
        case rel =>
          refine ⟨k + 1, by omega, by go_num, Lib.hid ⟨?_, (HI.out.2.alloc hs2 _).trans hb3⟩⟩
          rw [Hu.out, cellsN_append, ← HM.out]
          exact hown3
        case measure => simp [intOf]; omega
    · have : k = n := by omega
      subst this
      go_wp2_with fail
      go_ret
      exact ⟨_, rfl, HI.out⟩
theorem eql_slice_nil {P : Program} (w : World) (t e : TypeId) (a : Option Addr) (l c : Nat) (h : P.underlying t = some (.slice e)) : (binOp .eql t (.slice a l c) (.slice none 0 0)).run P w = .ok (.bool a.isNone) w := by
  unfold binOp
  simp [run_equal_slice_nil w t e a l c h]
theorem clone_any (g o n c : Nat) (l : List UInt8) (w : World) (B : Nat) (hr : Rd w B (.slice (some ⟨g, o, none⟩) n c) (cellsB l)) (hB : B ≤ w.heap.size) (hn : n ≤ 1000000) :
    Calls Try.prog 40 #[.slice (some ⟨g, o, none⟩) n c] w fun e w' => ∃ v', e = .returned v' ∧ Mine w' w.heap.size 5 v' (cellsB l) ∧ Below w.heap.size w w' := by
  obtain ⟨i, hi, hz0, hz1, hz2⟩ := info_parts info_u8
  have hl : (cellsB l).length = n := by
    obtain ⟨_, _, e, _⟩ := hr.bytes
    injection e with _ e _
    rw [cellsB_length]; exact e.symm
  have hcut := hr.alloc hB (.cells #[] 5)
  have heq := eql_slice_nil w 39 5 (some ⟨g, o, none⟩) n c Try.underlying39
  go_enter Try.func40, Try.ntmps40
  go_wp2_with (at_builtin; refine wpList_append_rd rfl _ _ 39 rfl w.heap.size 5 i _ 1 Try.underlying39 hi hz0 hz1 hz2 rfl _ [] rfl (Mine.empty w _ 5 (Nat.le_refl _)) B _ _ rfl hcut (cellsB_one _) (by simp; omega) (by unfold maxLen; simp; omega) (by simp) ?_; intro v' w' hown hbel _ _)
  go_ret
  exact ⟨_, rfl, hown, ((Below.refl _ _).alloc (Nat.le_refl _) _).trans hbel⟩
/-- The bytes of a space. -/
def Spc.bytes (x : Spc) : List UInt8 := setB x.now ((x.n + 7) / 8)
theorem bytes_any (h : SpcIs w a x) : Calls Try.prog 22 #[spAt a] w fun e w' => ∃ v, e = .returned v ∧ Mine w' w.heap.size 5 v (cellsB x.bytes) ∧ Below w.heap.size w w' := by
  have h0 := h.c0
  have hs := h.ok.size
  obtain ⟨m, hm⟩ : ∃ m, m = (x.n + 7) / 8 := ⟨_, rfl⟩
  have hm2 : m ≤ 200 := by omega
  have hm1 : 1 ≤ m := by omega
  have hrd : Rd w w.heap.size (.slice (some ⟨a, 1, none⟩) m 200) (cellsB x.bytes) := by
    refine ⟨some ⟨a, 1, none⟩, 200, by rw [cellsB_length, Spc.bytes, setB_length, hm], by rw [cellsB_length, Spc.bytes, setB_length]; omega, by unfold maxLen; omega, (fun h => by cases h), fun _ => ⟨a, 1, rfl, h.lt, fun j u hu => ?_⟩⟩
    have hj := (List.getElem?_eq_some_iff.1 hu).1
    rw [cellsB_length, Spc.bytes, setB_length] at hj
    rw [Spc.bytes, setB_get _ hj] at hu
    rw [h.sNow j (by omega)]
    exact hu
  have hz := size_any x.n hs.2 
  have hc := clone_any a 1 m 200 x.bytes w.drew w.heap.size hrd (Nat.le_refl _) (by omega)
  obtain ⟨L, hL⟩ : ∃ L, L = x.bytes := ⟨_, rfl⟩
  obtain ⟨n, hn⟩ : ∃ n, n = x.n := ⟨_, rfl⟩
  rw [← hL] at hc ⊢
  rw [← hn] at h0 hs hz hm
  rw [← hm] at hz
  have Hc := Lib.hid hc
  have m0 : (0 : Int) ≤ (m : Int) := by omega
  have m1 : (m : Int) ≤ 200 := by omega
  have m2 : (m : Int).toNat = m := by simp
  clear h hrd hL hn hc hm
  go_enter Try.func22, Try.ntmps22
  go_wp2_with fail
  go_still_tail 9, (by kernel_rfl)
  still_call ((hz _).mono (by rintro e w' ⟨rfl, rfl⟩; exact ⟨rfl, rfl⟩))
  repeat still_step
  refine wpStill_nil ?_
  change wpList _ _ _ _ _ w.drew
  go_wp2_with (go_at_call 40; refine Hc.out.mono ?_; rintro e w1 ⟨v, rfl, q1, q2⟩; have HF := Lib.hid (And.intro q1 q2); clear q1 q2)
  go_ret
  exact ⟨_, rfl, HF.out.1, up_drew (Below.refl _ _) |>.trans HF.out.2⟩
end
end Go.Proofs.Ytllhilnajjohiaa
