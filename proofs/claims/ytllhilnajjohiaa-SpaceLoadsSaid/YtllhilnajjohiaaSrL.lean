/-
  The document's space, read from bytes: Load, by contracts.
-/
import Derived.Test.YtllhilnajjohiaaSrD
import Derived.Test.YtllhilnajjohiaaSpL
namespace Go.Proofs.Ytllhilnajjohiaa
open Go.RowKit
section
variable {w w' : World} {p gn cn gs cs : Nat} {x : Spc}
theorem RefSp.setS (h : RefSp w p gn cn gs cs x) {i : Nat} (hi : i < x.n) (v : Bool) : RefSp (w.setCell ⟨gs, i, none⟩ (.bool v)) p gn cn gs cs { x with sure := put x.sure i v } := by
  refine ⟨?_, ?_, ?_, h.ne, ⟨h.ok.size, h.ok.now, fun j hj => ?_⟩⟩
  · rw [heap_setCell_other w _ p _ h.ne.2.2]
    exact h.top
  · exact h.rN.stay (heap_setCell_other w _ gn _ h.ne.1)
  · have := h.rS.stored i (.bool v)
    rw [boolC_put] at this
    exact this
  · have hj' : x.n ≤ j := hj
    show put x.sure i v j = false
    rw [put_other x.sure v (by omega)]
    exact h.ok.sure j hj'
theorem rload_len (n : Nat) (A : Option Addr) (m c : Nat) (h2 : n ≤ 1600) (hm2 : m ≠ (n + 7) / 8) : Calls Try.prog 21 #[.slice A m c, .int .i64 (n : Int)] w fun e w' => e = .returned (.pointer none) ∧ w = w' := by
  obtain ⟨z, hz0⟩ : ∃ z, z = (n + 7) / 8 := ⟨_, rfl⟩
  have e1 : ((n : Int) + 7).tdiv 8 = (z : Int) := by
    rw [show ((n : Int) + 7) = ((n + 7 : Nat) : Int) by omega, hz0]
    rfl
  rw [← hz0] at hm2
  have t0 : ((m : Int) != (z : Int)) = true := by simp; omega
  have hz : z ≤ 201 := by omega
  have e2 : IntKind.i64.wrap (z : Int) = (z : Int) := IntWalk.i64_in _ (by omega)
  clear hz0 hm2
  go_enter Try.func21, Try.ntmps21
  go_wp2_with fail
  go_ret
  exact ⟨rfl, rfl⟩
theorem bit_two (l : List UInt8) (k j : Nat) (hj : j < 8) : (((l.getD k 0).toNat : Int) / 2 ^ j).tmod 2 = if setOf l (8 * k + j) then 1 else 0 := by
  have h2 : ((2 : Int) ^ j) = ((2 ^ j : Nat) : Int) := by simp
  have h3 : ((l.getD k 0).toNat : Int) / ((2 ^ j : Nat) : Int) = (((l.getD k 0).toNat / 2 ^ j : Nat) : Int) := by simp
  have h5 : setOf l (8 * k + j) = (l.getD k 0).toNat.testBit j := by
    unfold setOf
    rw [show (8 * k + j) / 8 = k by omega, show (8 * k + j) % 8 = j by omega]
  have h6 : ((((l.getD k 0).toNat / 2 ^ j : Nat) : Int)).tmod 2 = (((l.getD k 0).toNat / 2 ^ j % 2 : Nat) : Int) := rfl
  rw [h2, h3, h6, h5, Nat.testBit_eq_decide_div_mod_eq]
  rcases Nat.mod_two_eq_zero_or_one ((l.getD k 0).toNat / 2 ^ j) with h | h <;> rw [h] <;> rfl
set_option maxRecDepth 100000 in
set_option maxHeartbeats 1600000 in
theorem rload_any (n : Nat) (A : Option Addr) (c : Nat) (l : List UInt8) (h1 : 1 ≤ n) (h2 : n ≤ 1600) (hl : l.length = (n + 7) / 8) (B : Nat) (hr : Rd w B (.slice A l.length c) (cellsB l)) (hB : B ≤ w.heap.size) :
    Calls Try.prog 21 #[.slice A l.length c, .int .i64 (n : Int)] w fun e w' => Below w.heap.size w w' ∧
      (((∃ i, n ≤ i ∧ setOf l i = true) ∧ e = .returned (.pointer none)) ∨ ((∀ i, n ≤ i → setOf l i = false) ∧ ∃ p gn cn gs cs, e = .returned (spAt p) ∧ w.heap.size ≤ p ∧ w.heap.size ≤ gn ∧ w.heap.size ≤ gs ∧ RefSp w' p gn cn gs cs (Spc.load n l))) := by
  obtain ⟨m, hm⟩ : ∃ m, m = l.length := ⟨_, rfl⟩
  have e1 : ((n : Int) + 7).tdiv 8 = (m : Int) := by
    rw [show ((n : Int) + 7) = ((n + 7 : Nat) : Int) by omega, hm, hl]
    rfl
  have hm200 : m ≤ 200 := by omega
  have hm1 : 1 ≤ m := by omega
  have hnm : n ≤ 8 * m := by omega
  have e2 : IntKind.i64.wrap (m : Int) = (m : Int) := IntWalk.i64_in _ (by omega)
  have hnew := Lib.hid (rnew_any n 0 h1 h2 (Nat.zero_le _) w)
  have hcell : ∀ k, k < m → ∃ g o, A = some ⟨g, o, none⟩ ∧ ∀ w', Below w.heap.size w w' → w'.cell? ⟨g, o + k, none⟩ = some (.int .u8 ((l.getD k 0).toNat : Int)) := fun k hk => by
    obtain ⟨A', c', e, _, _, _, h4⟩ := hr
    injection e with e1 e2 e3
    obtain ⟨g, o, hA, hg, hc⟩ := h4 (by rw [cellsB_length]; omega)
    refine ⟨g, o, e1.trans hA, fun w' hb => ?_⟩
    rw [hb.cell (p := ⟨g, o + k, none⟩) (by show g < _; omega)]
    refine hc k _ ?_
    unfold cellsB
    rw [List.getElem?_map, List.getD_eq_getElem?_getD, List.getElem?_eq_getElem (by omega)]
    rfl
  have Hcell := Lib.hid hcell
  have Hout : Hid (∀ i, 8 * m ≤ i → setOf l i = false) := Lib.hid fun i hi => setOf_out l (by omega)
  have H2 := Lib.hid h2
  rw [← hm]
  clear hcell hr hl hm
  go_enter Try.func21, Try.ntmps21
  go_wp2_with (go_at_call 9; refine hnew.out.mono ?_; rintro e w1 ⟨_, gn, cn, gs, cs, rfl, rfl, hgn, hgs, hq, hb⟩; have HQ := Lib.hid hq; have HB := Lib.hid hb; clear hq hb)
  have HQ1 : Hid (RefSp w1 w.heap.size gn cn gs cs ⟨n, cutTo (setOf l) 0, cutTo (setOf l) 0⟩) := Lib.hid (by
    have := HQ.out
    unfold Spc.new at this
    rw [below_zero] at this
    rw [cutTo_zero]
    exact this)
  clear HQ hnew e1 e2
  go_loopw [6] (fun iv wr => ∃ k : Nat, k ≤ 8 * m ∧ iv = .int .i64 (k : Int) ∧ Hid ((∀ i, n ≤ i → i < k → setOf l i = false) ∧ RefSp wr w.heap.size gn cn gs cs ⟨n, cutTo (setOf l) k, cutTo (setOf l) k⟩ ∧ Below w.heap.size w wr)) (fun iv _ => 8 * m - (intOf iv).toNat)
  case atStart => exact ⟨0, by omega, rfl, Lib.hid ⟨fun i _ hi => by omega, HQ1.out, HB.out⟩⟩
  case round =>
    clear HQ1 HB
    obtain ⟨k, hk, rfl, HI⟩ := hrel
    by_cases hk2 : k < 8 * m
    · obtain ⟨d, j, _, hj, ek⟩ := split8 k (by omega)
      have hdm : d < m := by omega
      have q1 := quo8 d j hj
      have q2 := rem8 d j hj
      rw [← ek] at q1 q2
      obtain ⟨g, o, rfl, hc⟩ := Hcell.out d hdm
      have hcc := hc wr HI.out.2.2
      have hbit := bit_two l d j hj
      rw [← ek] at hbit
      have hx : (l.getD d 0).toNat < 256 := UInt8.toNat_lt _
      obtain ⟨x, hx0⟩ : ∃ x, x = (l.getD d 0).toNat := ⟨_, rfl⟩
      rw [← hx0] at hcc hbit hx
      have d0 : (0 : Int) ≤ (d : Int) := by omega
      have d1 : (d : Int) < (m : Int) := by omega
      have d2 : (d : Int).toNat = d := by simp
      have d3 : IntKind.i64.wrap (d : Int) = d := IntWalk.i64_in _ (by omega)
      have j0 : (0 : Int) ≤ (j : Int) := by omega
      have j1 : (j : Int) ≤ 8 := by omega
      have j2 : (j : Int).toNat = j := by simp
      have j3 : IntKind.i64.wrap (j : Int) = j := IntWalk.i64_in _ (by omega)
      have j4 : IntKind.u64.wrap (j : Int) = j := IntWalk.u64_in _ (by omega)
      have t0 : decide ((k : Int) < 8 * (m : Int)) = true := by simp; omega
      have t1 : IntKind.i64.wrap (8 * (m : Int)) = 8 * (m : Int) := IntWalk.i64_in _ (by omega)
      cases hf : setOf l k
      · rw [hf, if_neg (by simp)] at hbit
        have Hnext : Hid ((∀ i, n ≤ i → i < k + 1 → setOf l i = false) ∧ RefSp wr w.heap.size gn cn gs cs ⟨n, cutTo (setOf l) (k + 1), cutTo (setOf l) (k + 1)⟩ ∧ Below w.heap.size w wr) := Lib.hid (by
          rw [cutTo_no hf]
          refine ⟨fun i h1 h2 => ?_, HI.out.2⟩
          by_cases e : i = k
          · rw [e]; exact hf
          · exact HI.out.1 i h1 (by omega))
        clear hf HI hc hx0 ek
        go_wp2_with fail
        go_roundw
        case rel => exact ⟨k + 1, by omega, by go_num, Hnext⟩
        case measure => simp [intOf]; omega
      · rw [hf, if_pos rfl] at hbit
        by_cases hkn : n ≤ k
        · have hend : Hid (Below w.heap.size w wr ∧ ∃ i, n ≤ i ∧ setOf l i = true) := Lib.hid ⟨HI.out.2.2, k, hkn, hf⟩
          clear hf HI hc hx0 ek
          go_wp2_with fail
          go_ret
          exact ⟨hend.out.1, .inl ⟨hend.out.2, rfl⟩⟩
        · have c0 := HI.out.2.1.c0
          have c1 := HI.out.2.1.c1
          have hcn := HI.out.2.1.rN.caps.1
          have hcs := HI.out.2.1.rS.caps.1
          have f1 := HI.out.2.1.rN.free k
          have hset := HI.out.2.1.setN (i := k) (by show k < n; omega) true
          have hset2 := hset.setS (i := k) (by show k < n; omega) true
          have e5 := HI.out.2.1.cN (i := k) (by show k < n; omega)
          have e6 := hset.cS (i := k) (by show k < n; omega)
          have f2 := hset.rS.free k
          have f3 := HI.out.2.1.rS.free k
          have e7 := HI.out.2.1.cS (i := k) (by show k < n; omega)
          have hne := HI.out.2.1.ne.1
          have Hnext : Hid ((∀ i, n ≤ i → i < k + 1 → setOf l i = false) ∧ RefSp ((wr.setCell ⟨gn, k, none⟩ (.bool true)).setCell ⟨gs, k, none⟩ (.bool true)).drew w.heap.size gn cn gs cs ⟨n, cutTo (setOf l) (k + 1), cutTo (setOf l) (k + 1)⟩ ∧ Below w.heap.size w ((wr.setCell ⟨gn, k, none⟩ (.bool true)).setCell ⟨gs, k, none⟩ (.bool true)).drew) := Lib.hid (by
            rw [cutTo_yes hf]
            refine ⟨fun i h1 h2 => HI.out.1 i h1 (by omega), ⟨hset2.top, hset2.rN, hset2.rS, hset2.ne, hset2.ok⟩, ((HI.out.2.2.setCell (p := ⟨gn, k, none⟩) hgn _).setCell (p := ⟨gs, k, none⟩) hgs _).drew⟩)
          have hkn' : k < n := by omega
          have k0 : (0 : Int) ≤ (k : Int) := by omega
          have k1 : (k : Int) < (n : Int) := by omega
          have k2 : (k : Int).toNat = k := by simp
          clear hf HI hc hx0 ek hset hset2
          go_wp2_with fail
          refine wp_region_late (S := fun w' => w'.cell? ⟨w.heap.size, 0, none⟩ = some (.slice (some ⟨gn, 0, none⟩) n cn) ∧ w'.cell? ⟨w.heap.size, 1, none⟩ = some (.slice (some ⟨gs, 0, none⟩) n cs)) [10, 11, 12, 13] (by kernel_rfl) ⟨c0, c1⟩ (fun hHeld => ?_)
          refine' anyU_take0 (i := 0) (oi := ⟨some 36, .move (.tmp 5), _, _, _, none⟩) (v := _) rfl (by kernel_rfl) (fun _ _ _ h => h) (Or.inl ⟨by rfl, ?hy1⟩) (by assumption) ?rest1
          case hy1 => (intro w hSw; go_simp <;> with_reducible rfl)
          case rest1 =>
          go_frame
          refine' anyU_take0 (i := 1) (oi := ⟨some 37, .nilCheck (.tmp 36), _, _, _, none⟩) (v := _) rfl (by kernel_rfl) (fun _ _ _ h => h) (Or.inl ⟨by rfl, ?hy2⟩) (by assumption) ?rest2
          case hy2 => (intro w hSw; go_simp <;> with_reducible rfl)
          case rest2 =>
          go_frame
          refine' anyU_take0 (i := 2) (oi := ⟨some 38, .fieldAddr 55 (.tmp 37) 0, _, _, _, none⟩) (v := _) rfl (by kernel_rfl) (fun _ _ _ h => h) (Or.inl ⟨by rfl, ?hy3⟩) (by assumption) ?rest3
          case hy3 => (intro w hSw; go_simp <;> with_reducible rfl)
          case rest3 =>
          go_frame
          refine' anyU_take (i := 3) (oi := ⟨some 39, .load 53 (.tmp 38), _, _, _, none⟩) (v := _) rfl (by kernel_rfl) (fun _ _ _ h => h) (Or.inl ⟨by rfl, ?hy4⟩) (by assumption) ?rest4
          case hy4 => (intro w hSw; obtain ⟨s1, s2⟩ := hSw; go_simp <;> with_reducible rfl)
          case rest4 =>
          go_frame
          refine' anyU_take0 (i := 4) (oi := ⟨some 40, .move (.tmp 6), _, _, _, none⟩) (v := _) rfl (by kernel_rfl) (fun _ _ _ h => h) (Or.inl ⟨by rfl, ?hy5⟩) (by assumption) ?rest5
          case hy5 => (intro w hSw; go_simp <;> with_reducible rfl)
          case rest5 =>
          go_frame
          refine' anyU_take0 (i := 5) (oi := ⟨some 41, .move (.tmp 5), _, _, _, none⟩) (v := _) rfl (by kernel_rfl) (fun _ _ _ h => h) (Or.inl ⟨by rfl, ?hy6⟩) (by assumption) ?rest6
          case hy6 => (intro w hSw; go_simp <;> with_reducible rfl)
          case rest6 =>
          go_frame
          refine' anyU_take0 (i := 6) (oi := ⟨some 42, .nilCheck (.tmp 41), _, _, _, none⟩) (v := _) rfl (by kernel_rfl) (fun _ _ _ h => h) (Or.inl ⟨by rfl, ?hy7⟩) (by assumption) ?rest7
          case hy7 => (intro w hSw; go_simp <;> with_reducible rfl)
          case rest7 =>
          go_frame
          refine' anyU_take0 (i := 7) (oi := ⟨some 43, .fieldAddr 55 (.tmp 42) 1, _, _, _, none⟩) (v := _) rfl (by kernel_rfl) (fun _ _ _ h => h) (Or.inl ⟨by rfl, ?hy8⟩) (by assumption) ?rest8
          case hy8 => (intro w hSw; go_simp <;> with_reducible rfl)
          case rest8 =>
          go_frame
          refine' anyU_take (i := 8) (oi := ⟨some 44, .load 53 (.tmp 43), _, _, _, none⟩) (v := _) rfl (by kernel_rfl) (fun _ _ _ h => h) (Or.inl ⟨by rfl, ?hy9⟩) (by assumption) ?rest9
          case hy9 => (intro w hSw; obtain ⟨s1, s2⟩ := hSw; go_simp <;> with_reducible rfl)
          case rest9 =>
          go_frame
          refine' anyU_take0 (i := 9) (oi := ⟨some 45, .move (.tmp 6), _, _, _, none⟩) (v := _) rfl (by kernel_rfl) (fun _ _ _ h => h) (Or.inl ⟨by rfl, ?hy10⟩) (by assumption) ?rest10
          case hy10 => (intro w hSw; go_simp <;> with_reducible rfl)
          case rest10 =>
          go_frame
          refine anyU_ready (rs := [10]) (by kernel_rfl) (by simp) (AllU.cons (o := ⟨some 46, .indexAddr 53 (.tmp 39) (.tmp 40), _, _, _, none⟩) rfl (fun K hK => ?_) (fun _ => by kernel_rfl) AllU.nil)
          rw [if_pos (by rfl)]
          go_simp
          refine hK.out _ _ (fun h => absurd h (by decide)) ?_
          clear hK K
          try go_frame
          refine anyU_ready (rs := [11]) (by kernel_rfl) (by simp) (AllU.cons (o := ⟨none, .store 4 (.tmp 46) (.const (.bool true)), _, _, _, none⟩) rfl (fun K hK => ?_) (fun _ => by kernel_rfl) AllU.nil)
          rw [if_pos (by rfl)]
          go_simp
          refine hK.out _ _ (fun h => absurd h (by decide)) ?_
          clear hK K
          try go_frame
          refine anyU_ready (rs := [12]) (by kernel_rfl) (by simp) (AllU.cons (o := ⟨some 47, .indexAddr 53 (.tmp 44) (.tmp 45), _, _, _, none⟩) rfl (fun K hK => ?_) (fun _ => by kernel_rfl) AllU.nil)
          rw [if_pos (by rfl)]
          go_simp
          refine hK.out _ _ (fun h => absurd h (by decide)) ?_
          clear hK K
          try go_frame
          refine anyU_ready (rs := [13]) (by kernel_rfl) (by simp) (AllU.cons (o := ⟨none, .store 4 (.tmp 47) (.const (.bool true)), _, _, _, none⟩) rfl (fun K hK => ?_) (fun _ => by kernel_rfl) AllU.nil)
          rw [if_pos (by rfl)]
          go_simp
          refine hK.out _ _ (fun h => absurd h (by decide)) ?_
          clear hK K
          try go_frame
          refine anyU_done (by kernel_rfl) ?_ _
          go_wp2_with fail
          go_roundw
          case rel => exact ⟨k + 1, by omega, by go_num, Hnext⟩
          case measure => simp [intOf]; omega
    · have hke : k = 8 * m := by omega
      have hend : Hid (Below w.heap.size w wr ∧ (∀ i, n ≤ i → setOf l i = false) ∧ RefSp wr w.heap.size gn cn gs cs (Spc.load n l)) := Lib.hid (by
        have hall : ∀ i, n ≤ i → setOf l i = false := fun i hi => by
          by_cases hik : i < k
          · exact HI.out.1 i hi hik
          · exact Hout.out i (by omega)
        refine ⟨HI.out.2.2, hall, ?_⟩
        have := HI.out.2.1
        rw [hke, cutTo_all (n := 8 * m) Hout.out] at this
        exact this)
      have t0 : decide ((k : Int) < 8 * (m : Int)) = false := by simp; omega
      have t1 : IntKind.i64.wrap (8 * (m : Int)) = 8 * (m : Int) := IntWalk.i64_in _ (by omega)
      clear HI hke
      go_wp2_with fail
      go_ret
      exact ⟨hend.out.1, .inr ⟨hend.out.2.1, _, gn, cn, gs, cs, rfl, Nat.le_refl _, hgn, hgs, hend.out.2.2⟩⟩
end
end Go.Proofs.Ytllhilnajjohiaa
