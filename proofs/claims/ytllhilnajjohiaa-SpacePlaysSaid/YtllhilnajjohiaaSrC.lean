/-
  The document's space: Used, Bytes: contracts.
-/
import Derived.Test.YtllhilnajjohiaaSrB
namespace Go.Proofs.Ytllhilnajjohiaa
open Go.RowKit
theorem or_is_add : ∀ x : Fin 256, ∀ j : Fin 8, Nat.testBit x.val j.val = false → x.val + 2 ^ j.val = x.val ||| 2 ^ j.val := by decide +kernel
theorem byteN_more {f : Nat → Bool} {k j : Nat} (hj : j < 8) (h : f (8 * k + j) = false) : byteN f k + 2 ^ j = byteN (put f (8 * k + j) true) k := by
  have h1 := or_is_add ⟨byteN f k, byteN_lt f k⟩ ⟨j, hj⟩ (by simp only; rw [byteN_bit f k hj, h])
  simp only at h1
  have h2 := bit_added f k hj
  rw [show ((2 : Int) ^ j) = ((2 ^ j : Nat) : Int) by simp, u8_or_nat _ _ (byteN_lt f k) (pow_lt8 hj)] at h2
  rw [h1]
  omega
/-- f, up to m. -/
def cutTo (f : Nat → Bool) (m : Nat) : Nat → Bool := fun i => decide (i < m) && f i
theorem cutTo_zero (f : Nat → Bool) : cutTo f 0 = none_ := by
  funext i
  simp [cutTo, none_]
theorem cutTo_yes {f : Nat → Bool} {m : Nat} (h : f m = true) : cutTo f (m + 1) = put (cutTo f m) m true := by
  funext i
  unfold cutTo put
  by_cases e : i = m
  · subst e; simp [h]
  · rw [if_neg e]
    congr 1
    simp only [decide_eq_decide]
    omega
theorem cutTo_no {f : Nat → Bool} {m : Nat} (h : f m = false) : cutTo f (m + 1) = cutTo f m := by
  funext i
  unfold cutTo
  by_cases e : i = m
  · subst e; simp [h]
  · congr 1
    simp only [decide_eq_decide]
    omega
theorem cutTo_at (f : Nat → Bool) (m : Nat) : cutTo f m m = false := by simp [cutTo]
theorem cutTo_all {f : Nat → Bool} {n : Nat} (h : ∀ i, n ≤ i → f i = false) : cutTo f n = f := by
  funext i
  unfold cutTo
  by_cases e : i < n
  · simp [e]
  · simp [e, h i (by omega)]
theorem setB_none (m : Nat) : setB none_ m = List.replicate m 0 := by
  have h : ∀ k, byteN none_ k = 0 := fun k => (byteN_eq (x := 0) (by omega) (fun j _ => by simp [none_])).symm
  unfold setB
  rw [List.eq_replicate_iff]
  refine ⟨by simp, fun b hb => ?_⟩
  obtain ⟨k, _, rfl⟩ := List.mem_map.1 hb
  rw [h]
  rfl
theorem made_zeros (m : Nat) : (madeCells (Value.int .u8 0).cells (m * 1)).toList = cellsB (setB none_ m) := by
  rw [setB_none]
  have e : (Value.int IntKind.u8 0).cells = #[.int .u8 0] := rfl
  rw [e, Nat.mul_one, toList_madeCells_one]
  simp [cellsB]
section
variable {w w' : World} {p gn cn gs cs : Nat} {x : Spc}
set_option maxHeartbeats 400000 in
theorem rused_any (h : RefSp w p gn cn gs cs x) : Calls Try.prog 34 #[spAt p] w fun e w' => ∃ v, e = .returned v ∧ Mine w' w.heap.size 3 v (cellsN (used x.now x.n)) ∧ Below w.heap.size w w' := by
  obtain ⟨ti, hi, hz0, hz1, hz2⟩ := info_parts info_int06
  have hs := h.ok.size
  have H := Lib.hid h
  have hcn := h.rN.caps.1
  obtain ⟨n, hn⟩ : ∃ n, n = x.n := ⟨_, rfl⟩
  obtain ⟨f, hf⟩ : ∃ f, f = x.now := ⟨_, rfl⟩
  have HN : Hid (∀ wr, Below w.heap.size w wr → wr.cell? ⟨p, 0, none⟩ = some (.slice (some ⟨gn, 0, none⟩) n cn) ∧ ∀ i, i < n → wr.cell? ⟨gn, i, none⟩ = some (.bool (f i))) := Lib.hid fun wr hb => by
    have h' := H.out.below hb
    rw [hn, hf]
    exact ⟨h'.c0, fun i hi => h'.cN hi⟩
  rw [← hn] at hs hcn ⊢
  rw [← hf]
  obtain ⟨h0, _⟩ := HN.out w (Below.refl _ _)
  have hemp := Mine.empty w w.heap.size 3 (Nat.le_refl _)
  have Hemp := Lib.hid hemp
  clear h hn hf hemp H
  go_enter Try.func34, Try.ntmps34
  go_wp2_with fail
  go_loopw [3, 4] (fun sv iv wr => ∃ k : Nat, k ≤ n ∧ iv = .int .i64 (k : Int) ∧ Hid (Mine wr w.heap.size 3 sv (cellsN (used f k)) ∧ Below w.heap.size w wr)) (fun _ iv _ => n - (intOf iv).toNat)
  case atStart => exact ⟨0, by omega, rfl, Lib.hid ⟨Hemp.out, (Below.refl _ _).alloc (Nat.le_refl _) _⟩⟩
  case round =>
    obtain ⟨k, hk, rfl, HI⟩ := hrel
    obtain ⟨c0, hcell⟩ := HN.out wr HI.out.2
    by_cases hk2 : k < n
    · have e1 := hcell k hk2
      have k0 : (0 : Int) ≤ (k : Int) := by omega
      have k1 : (k : Int) < (n : Int) := by omega
      have k2 : (k : Int).toNat = k := by simp
      clear hcell
      cases hfk : f k
      · have Hu := Lib.hid (used_no hfk)
        rw [hfk] at e1
        clear hfk
        go_wp2_with fail
        go_roundw
        case rel => exact ⟨k + 1, by omega, by go_num, by rw [Hu.out]; exact HI⟩
        case measure => simp [intOf]; omega
      · have Hu := Lib.hid (used_yes hfk)
        rw [hfk] at e1
        have hle := used_le f k
        obtain ⟨M, hM⟩ : ∃ M, M = cellsN (used f k) := ⟨_, rfl⟩
        have hMl : M.length ≤ k := by rw [hM, cellsN_length]; exact hle
        have hown : Mine wr w.heap.size 3 u3 M := by rw [hM]; exact HI.out.1
        have hs2 := HI.out.2.size
        have HM := Lib.hid hM
        clear hfk hM hle
        go_wp2_with (at_builtin; refine wpList_append_rd rfl (.tmp 22) (.tmp 24) 58 rfl w.heap.size 3 ti _ 8 Try.underlying58 hi hz0 hz1 hz2 rfl _ M rfl (hown.alloc _) _ _ _ rfl (rd_alone wr (.int .i64 (k : Int)) 3) (by simp [Value.oneCell']) (by simp; omega) (by unfold maxLen; simp; omega) (by simp; omega) ?_; intro v3 w3 hown3 hb3 _ _)
        go_roundw
        case rel =>
          refine ⟨k + 1, by omega, by go_num, Lib.hid ⟨?_, (HI.out.2.alloc hs2 _).trans hb3⟩⟩
          rw [Hu.out, cellsN_append, ← HM.out]
          exact hown3
        case measure => simp [intOf]; omega
    · have : k = n := by omega
      subst this
      clear hcell
      go_wp2_with fail
      go_ret
      exact ⟨_, rfl, HI.out⟩
set_option maxHeartbeats 400000 in
theorem rbytes_any (h : RefSp w p gn cn gs cs x) : Calls Try.prog 35 #[spAt p] w fun e w' => ∃ v, e = .returned v ∧ Mine w' w.heap.size 5 v (cellsB x.bytes) ∧ Below w.heap.size w w' := by
  obtain ⟨ti, hi, hz0, hz1, hz2⟩ := info_parts info_u8
  have hs := h.ok.size
  have H := Lib.hid h
  have hcn := h.rN.caps.1
  have hall := Lib.hid (cutTo_all h.ok.now)
  obtain ⟨n, hn⟩ : ∃ n, n = x.n := ⟨_, rfl⟩
  obtain ⟨f, hf⟩ : ∃ f, f = x.now := ⟨_, rfl⟩
  have HN : Hid (∀ wr, Below w.heap.size w wr → wr.cell? ⟨p, 0, none⟩ = some (.slice (some ⟨gn, 0, none⟩) n cn) ∧ ∀ i, i < n → wr.cell? ⟨gn, i, none⟩ = some (.bool (f i))) := Lib.hid fun wr hb => by
    have h' := H.out.below hb
    rw [hn, hf]
    exact ⟨h'.c0, fun i hi => h'.cN hi⟩
  rw [← hn, ← hf] at hall
  unfold Spc.bytes
  rw [← hn] at hs hcn ⊢
  rw [← hf]
  obtain ⟨m, hm⟩ : ∃ m, m = (n + 7) / 8 := ⟨_, rfl⟩
  rw [← hm]
  have e1 : ((n : Int) + 7).tdiv 8 = (m : Int) := by
    rw [show ((n : Int) + 7) = ((n + 7 : Nat) : Int) by omega, hm]
    rfl
  have hm2 : m ≤ 200 := by omega
  have hm3 : n ≤ 8 * m := by omega
  have e2 : IntKind.i64.wrap (m : Int) = (m : Int) := IntWalk.i64_in _ (by omega)
  obtain ⟨h0, _⟩ := HN.out w (Below.refl _ _)
  clear h hn hf H hm
  go_enter Try.func35, Try.ntmps35
  go_wp2_with (at_make; refine wpList_make_full _ rfl _ _ 39 rfl w.heap.size 5 ti _ 1 Try.underlying39 hi hz0 hz1 _ _ _ _ m rfl rfl rfl rfl (by rw [hz2]; omega) (by unfold maxLen; omega) (Nat.le_refl _) ?_; intro w1 hown hgr)
  have hbel : Below w.heap.size w w1 := (Below.refl _ _).grown hgr (Nat.le_refl _) (fun k h => by cases h)
  have hmine : Mine w1 w.heap.size 5 (.slice (some ⟨w.heap.size, 0, none⟩) m m) (cellsB (setB (cutTo f 0) m)) := by
    rw [cutTo_zero, ← made_zeros]
    exact Mine.of_own hown
  have Hmine := Lib.hid hmine
  have Hbel := Lib.hid hbel
  clear hown hgr hmine hbel e1 e2
  go_loopw [4] (fun iv wr => ∃ k : Nat, k ≤ n ∧ iv = .int .i64 (k : Int) ∧ Hid (Mine wr w.heap.size 5 (.slice (some ⟨w.heap.size, 0, none⟩) m m) (cellsB (setB (cutTo f k) m)) ∧ Below w.heap.size w wr)) (fun iv _ => n - (intOf iv).toNat)
  case atStart => exact ⟨0, by omega, rfl, Lib.hid ⟨Hmine.out, Hbel.out⟩⟩
  case round =>
    obtain ⟨k, hk, rfl, HI⟩ := hrel
    obtain ⟨c0, hcell⟩ := HN.out wr HI.out.2
    by_cases hk2 : k < n
    · have e1 := hcell k hk2
      have k0 : (0 : Int) ≤ (k : Int) := by omega
      have k1 : (k : Int) < (n : Int) := by omega
      have k2 : (k : Int).toNat = k := by simp
      clear hcell
      cases hfk : f k
      · have Hu := Lib.hid (cutTo_no hfk)
        rw [hfk] at e1
        clear hfk
        go_wp2_with fail
        go_roundw
        case rel => exact ⟨k + 1, by omega, by go_num, by rw [Hu.out]; exact HI⟩
        case measure => simp [intOf]; omega
      · obtain ⟨c, j, _, hj, ek⟩ := split8 k (by omega)
        have hcm : c < m := by omega
        have q1 := quo8 c j hj
        have q2 := rem8 c j hj
        rw [← ek] at q1 q2
        have hadd := byteN_more (f := cutTo f k) (k := c) hj (by rw [← ek]; exact cutTo_at f k)
        rw [← ek, ← cutTo_yes hfk] at hadd
        have hcc := HI.out.1.cellAt (j := c) (setB_get _ hcm)
        have hfz := HI.out.1.free c
        have hput := setB_put (cutTo f k) m k true
        rw [← cutTo_yes hfk, show k / 8 = c by omega] at hput
        have hst : Hid (∀ y : Nat, y = byteN (cutTo f (k + 1)) c → Mine (wr.setCell ⟨w.heap.size, c, none⟩ (.int .u8 (y : Int))) w.heap.size 5 (.slice (some ⟨w.heap.size, 0, none⟩) m m) (cellsB (setB (cutTo f (k + 1)) m)) ∧ Below w.heap.size w (wr.setCell ⟨w.heap.size, c, none⟩ (.int .u8 (y : Int)))) := Lib.hid fun y hy => by
          subst hy
          have := HI.out.1.stored c (.int .u8 (byteN (cutTo f (k + 1)) c : Int))
          rw [hput] at this
          exact ⟨this, HI.out.2.setCell (Nat.le_refl _) _⟩
        rw [hfk] at e1
        have hx := byteN_lt (cutTo f k) c
        have hy := byteN_lt (cutTo f (k + 1)) c
        obtain ⟨x0, hx0⟩ : ∃ x0, x0 = byteN (cutTo f k) c := ⟨_, rfl⟩
        obtain ⟨y0, hy0⟩ : ∃ y0, y0 = byteN (cutTo f (k + 1)) c := ⟨_, rfl⟩
        have Hst := Lib.hid (hst.out y0 hy0)
        rw [← hx0] at hcc hadd hx
        rw [← hy0] at hadd hy
        have p2 : ((2 : Int) ^ j) = ((2 ^ j : Nat) : Int) := by simp
        have w1' : IntKind.u8.wrap ((x0 : Int) + 2 ^ j) = (y0 : Int) := by
          rw [p2, IntKind.wrap_u8']
          omega
        have w2' := wrap_pow hj
        have j0 : (0 : Int) ≤ (j : Int) := by omega
        have j1 : (j : Int) ≤ 8 := by omega
        have j2 : (j : Int).toNat = j := by simp
        have j3 : IntKind.i64.wrap (j : Int) = j := IntWalk.i64_in _ (by omega)
        have j4 : IntKind.u64.wrap (j : Int) = j := IntWalk.u64_in _ (by omega)
        have d0 : (0 : Int) ≤ (c : Int) := by omega
        have d1 : (c : Int) < (m : Int) := by omega
        have d2 : (c : Int).toNat = c := by simp
        have d3 : IntKind.i64.wrap (c : Int) = c := IntWalk.i64_in _ (by omega)
        clear hst hput hfk hadd hx0 hy0 ek p2
        go_wp2_with fail
        go_roundw
        case rel => exact ⟨k + 1, by omega, by go_num, Hst⟩
        case measure => simp [intOf]; omega
    · have : k = n := by omega
      subst this
      clear hcell
      go_wp2_with fail
      go_ret
      exact ⟨_, rfl, by rw [← hall.out]; exact HI.out.1, HI.out.2⟩
end
end Go.Proofs.Ytllhilnajjohiaa
