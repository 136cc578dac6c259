/-
  The walk of PageSpoilt.
-/
import Derived.Test.YtnbmcecmdokogaaPageMovedWalk
import Derived.StillTailTactics
namespace Go.Proofs.Ytnbmcecmdokogaa
open Go.RowKit
theorem bump_cells (m d : List UInt8) (k r : Nat) (x y : UInt8) (h : k + r < m.length) (hx : x = m[k + r]) (hy : y = d.getD r 0) :
    (cellsB (bump m d k r)).set (k + r) (.int .u8 (((x.toNat : Int) + (y.toNat : Int)) % 256)) = cellsB (bump m d k (r + 1)) := by
  rw [← bump_succ m d k r h, ← hx, ← hy]
  unfold cellsB
  rw [List.map_set]
  congr 2
theorem some_yes (d : List UInt8) (r : Nat) (h : someOf d r = true) : Value.bool true = Value.bool (someOf d (r + 1)) := by simp [someOf, h]
theorem some_no (d : List UInt8) (r : Nat) (y : UInt8) (hy : y = d.getD r 0) (h : ¬ someOf d r = true) : Value.bool ((y.toNat : Int) != 0) = Value.bool (someOf d (r + 1)) := by
  rw [someOf, ← hy, Bool.eq_false_iff.2 h, Bool.false_or]
  congr 1
  rw [Bool.eq_iff_iff]
  simp [← UInt8.toNat_inj]
/-- The world behind the law's two arguments made. -/
abbrev spW (w : World) (k g : Int) (v : Value) (d0 d1 d2 d3 : UInt8) : World :=
  (w.alloc (.cells #[.int .i64 k, .int .u64 g, v] 25)).alloc (.cells #[.int .u8 (d0.toNat : Int), .int .u8 (d1.toNat : Int), .int .u8 (d2.toNat : Int), .int .u8 (d3.toNat : Int)] 38)
theorem spW_below (w : World) (k g : Int) (v : Value) (d0 d1 d2 d3 : UInt8) : Below w.heap.size w (spW w k g v d0 d1 d2 d3) := ((Below.refl _ _).alloc (Nat.le_refl _) _).alloc (by simp) _
theorem spW_by (w : World) (k g : Int) (v : Value) (d0 d1 d2 d3 : UInt8) (j : Nat) (hj : j < 4) : (spW w k g v d0 d1 d2 d3).cell? ⟨w.heap.size + 1, j, none⟩ = some (.int .u8 (([d0, d1, d2, d3].getD j 0).toNat : Int)) := by
  have hW : (w.alloc (.cells #[.int .i64 k, .int .u64 g, v] 25)).heap.size = w.heap.size + 1 := by simp
  unfold spW
  rw [← hW, World.cell?_alloc_mark]
  match j, hj with
  | 0, _ => rfl
  | 1, _ => rfl
  | 2, _ => rfl
  | 3, _ => rfl
theorem spW_box (w : World) (k g : Int) (v : Value) (d0 d1 d2 d3 : UInt8) : (spW w k g v d0 d1 d2 d3).cell? ⟨w.heap.size, 0, none⟩ = some (.int .i64 k) ∧ (spW w k g v d0 d1 d2 d3).cell? ⟨w.heap.size, 1, none⟩ = some (.int .u64 g) ∧ (spW w k g v d0 d1 d2 d3).cell? ⟨w.heap.size, 2, none⟩ = some v := by
  obtain ⟨c0, c1, c2⟩ := pgBox_cells w k g v
  have hl : w.heap.size < (w.alloc (.cells #[.int .i64 k, .int .u64 g, v] 25)).heap.size := by simp
  exact ⟨(World.cell?_alloc_lt _ _ _ hl).trans c0, (World.cell?_alloc_lt _ _ _ hl).trans c1, (World.cell?_alloc_lt _ _ _ hl).trans c2⟩
set_option maxHeartbeats 1000000 in
theorem pageSpoilt_arg (kind : Int) (gen a : Nat) (A : Option Addr) (n c : Nat) (d0 d1 d2 d3 : UInt8) (w : World) (m : List UInt8) (hfew : Calls Try.prog 7 #[pgVal kind gen (.slice A n c)] (spW w kind gen (.slice A n c) d0 d1 d2 d3) fun e w1 => ∃ A' c', e = .returned (pgVal kind gen (.slice A' m.length c')) ∧ m.length ≤ c' ∧ Rd w1 w1.heap.size (.slice A' m.length c') (cellsB m) ∧ Below (w.heap.size + 2) (spW w kind gen (.slice A n c) d0 d1 d2 d3) w1) (harg : kind < 1 ∨ 4 < kind) :
    Calls Try.prog 5 #[pgVal kind gen (.slice A n c), .int .u16 (a : Int), .agg #[.int .u8 (d0.toNat : Int), .int .u8 (d1.toNat : Int), .int .u8 (d2.toNat : Int), .int .u8 (d3.toNat : Int)]] w fun e w' => e = .returned (.bool true) ∧ Below w.heap.size w w' := by
  obtain ⟨q0, q1, q2⟩ := spW_box w kind gen (.slice A n c) d0 d1 d2 d3
  have Hfew := Lib.hid hfew
  have Henc := Lib.hid (fun (A' : Option Addr) (n' c' : Nat) (W : World) => pgEnc_arg 5 kind gen A' n' c' W (.inr harg))
  clear hfew harg
  go_enter Try.func5, Try.ntmps5
  go_wp2_with fail
  refine Hfew.out.mono ?_
  rintro e w1 ⟨A1, c1, rfl, hc1, hr1, hb1⟩
  have hw1 : Below w.heap.size w w1 := (spW_below _ _ _ _ _ _ _ _).trans (hb1.mono (by omega))
  go_wp2_with fail
  refine (Henc.out _ _ _ _).mono ?_
  rintro e w2 ⟨rfl, hb2⟩
  go_wp2_with fail
  refine (lives04_any _).mono ?_
  rintro e w9 ⟨rfl, hb9⟩
  go_wp2_with fail
  go_ret
  exact ⟨rfl, up (up hw1 hb2) hb9⟩
set_option maxHeartbeats 1000000 in
theorem pageSpoilt_long (k gen a : Nat) (A : Option Addr) (n c : Nat) (d0 d1 d2 d3 : UInt8) (w : World) (m : List UInt8) (hfew : Calls Try.prog 7 #[pgVal k gen (.slice A n c)] (spW w k gen (.slice A n c) d0 d1 d2 d3) fun e w1 => ∃ A' c', e = .returned (pgVal k gen (.slice A' m.length c')) ∧ m.length ≤ c' ∧ Rd w1 w1.heap.size (.slice A' m.length c') (cellsB m) ∧ Below (w.heap.size + 2) (spW w k gen (.slice A n c) d0 d1 d2 d3) w1) (hk1 : 1 ≤ k) (hk4 : k ≤ 4) (hm : m.length ≤ 240) (hlong : 232 < m.length) :
    Calls Try.prog 5 #[pgVal k gen (.slice A n c), .int .u16 (a : Int), .agg #[.int .u8 (d0.toNat : Int), .int .u8 (d1.toNat : Int), .int .u8 (d2.toNat : Int), .int .u8 (d3.toNat : Int)]] w fun e w' => e = .returned (.bool true) ∧ Below w.heap.size w w' := by
  obtain ⟨q0, q1, q2⟩ := spW_box w k gen (.slice A n c) d0 d1 d2 d3
  have Hfew := Lib.hid hfew
  clear hfew
  go_enter Try.func5, Try.ntmps5
  go_wp2_with fail
  refine Hfew.out.mono ?_
  rintro e w1 ⟨A1, c1, rfl, hc1, hr1, hb1⟩
  have hw1 : Below w.heap.size w w1 := (spW_below _ _ _ _ _ _ _ _).trans (hb1.mono (by omega))
  go_wp2_with fail
  refine (pgEnc_long _ _ _ _ _ _ _ (by omega) (by omega) (by omega) (by omega) hlong (by omega)).mono ?_
  rintro e w2 ⟨rfl, hb2⟩
  go_wp2_with fail
  refine (lives04_any _).mono ?_
  rintro e w9 ⟨rfl, hb9⟩
  go_wp2_with fail
  go_ret
  exact ⟨rfl, up (up hw1 hb2) hb9⟩
set_option maxHeartbeats 2000000 in
set_option maxRecDepth 100000 in
theorem pageSpoilt_ok (k gen a : Nat) (A : Option Addr) (n c : Nat) (d0 d1 d2 d3 : UInt8) (w : World) (m : List UInt8) (hfew : Calls Try.prog 7 #[pgVal k gen (.slice A n c)] (spW w k gen (.slice A n c) d0 d1 d2 d3) fun e w1 => ∃ A' c', e = .returned (pgVal k gen (.slice A' m.length c')) ∧ m.length ≤ c' ∧ Rd w1 w1.heap.size (.slice A' m.length c') (cellsB m) ∧ Below (w.heap.size + 2) (spW w k gen (.slice A n c) d0 d1 d2 d3) w1) (hk1 : 1 ≤ k) (hk4 : k ≤ 4) (hm : m.length ≤ 232) (hg : gen < 18446744073709551616) (ha : a ≤ 65535) :
    Calls Try.prog 5 #[pgVal k gen (.slice A n c), .int .u16 (a : Int), .agg #[.int .u8 (d0.toNat : Int), .int .u8 (d1.toNat : Int), .int .u8 (d2.toNat : Int), .int .u8 (d3.toNat : Int)]] w fun e w' => e = .returned (.bool true) ∧ Below w.heap.size w w' := by
  obtain ⟨q0, q1, q2⟩ := spW_box w k gen (.slice A n c) d0 d1 d2 d3
  obtain ⟨i, hi, hz0, hz1, hz2⟩ := info_parts info_u8
  have Hfew := Lib.hid hfew
  obtain ⟨q, hq⟩ : ∃ q, q = pgBytes k 5 gen m := ⟨_, rfl⟩
  have hql := pgBytes_length k 5 gen m hm
  have hok := pgBytes_ok k 5 gen m hm hk1 hk4 (by omega)
  have henc := fun (A' : Option Addr) (c' : Nat) (W : World) (hr : Rd W W.heap.size (.slice A' m.length c') (cellsB m)) => pgEnc_ok 5 k gen A' m c' W W.heap.size hr (Nat.le_refl _) (by omega) hk1 hk4 hm
  have hdec := fun (A' : Option Addr) (c' : Nat) (W : World) (hr : Rd W W.heap.size (.slice A' q.length c') (cellsB q)) => pgDec_enc k 5 gen m q hq hm hk1 hk4 (by omega) hg A' c' W W.heap.size hr (Nat.le_refl _)
  rw [← hq] at henc hql hok
  obtain ⟨s, hs⟩ : ∃ s : Nat, s = a % 256 := ⟨_, rfl⟩
  have hs256 : s < 256 := by rw [hs]; exact Nat.mod_lt _ (by omega)
  have hs' : (a : Int) % 256 = (s : Int) := by rw [hs]; rfl
  obtain ⟨d, hd⟩ : ∃ d, d = [d0, d1, d2, d3] := ⟨_, rfl⟩
  have hby := spW_by w k gen (.slice A n c) d0 d1 d2 d3
  rw [← hd] at hby
  have Hby := Lib.hid hby
  have Henc := Lib.hid henc
  have Hdec := Lib.hid hdec
  have Hql := Lib.hid hql
  have Hok := Lib.hid hok
  have hlen : ((q.length : Int) != 256) = false := by rw [hql]; rfl
  have hq0 : 256 ≤ q.length := by omega
  have hq1 : q.length ≤ 256 := by omega
  clear hfew hq henc hdec hby hs hql hok hd hg
  go_enter Try.func5, Try.ntmps5
  go_wp2_with fail
  refine Hfew.out.mono ?_
  rintro e w1 ⟨A1, c1, rfl, hc1, hr1, hb1⟩
  have hw1 : Below w.heap.size w w1 := (spW_below _ _ _ _ _ _ _ _).trans (hb1.mono (by omega))
  go_wp2_with fail
  refine (Henc.out _ _ _ hr1).mono ?_
  rintro e w2 ⟨v2, rfl, hown2, hb2⟩
  obtain ⟨A2, c2, rfl, _, _, hr2⟩ := hown2.rd.bytes
  have hw2 := up hw1 hb2
  have hz1' : w.heap.size + 2 ≤ w1.heap.size := by have := hb1.size; simpa using this
  have hB2 := hb1.trans (hb2.mono hz1')
  have hz2' : w.heap.size + 2 ≤ w2.heap.size := Nat.le_trans hz1' hb2.size
  clear hown2 hb1 hb2 hw1 hr1 hz1'
  go_wp2_with (at_builtin; refine wpList_append_rd rfl (.tmp 30) (.tmp 31) 23 rfl w2.heap.size 5 i _ 1 Try.underlying23 hi hz0 hz1 hz2 rfl _ [] rfl (Mine.empty w2 _ 5 (Nat.le_refl _)) _ _ _ rfl (hr2.alloc (Nat.le_refl _) _) (cellsB_one _) (by rw [cellsB_length]; simp; omega) (by unfold maxLen; rw [cellsB_length]; simp; omega) (by simp) ?_; intro v3 w3 hown3 hbel3 hx1 hx2; clear hx1 hx2; rw [List.nil_append] at hown3)
  have hb3 : Below w2.heap.size w2 w3 := ((Below.refl _ _).alloc (Nat.le_refl _) _).trans hbel3
  have hown3' := hown3
  obtain ⟨A3, c3, rfl, _, _, _⟩ := hown3.rd.bytes
  obtain ⟨g, rfl, hg1, hg2⟩ := hown3'.head (by omega)
  have hB3 := hB2.trans (hb3.mono hz2')
  have Hby3 := Lib.hid (fun (j : Nat) (hj : j < 4) => (hB3.cell (p := ⟨w.heap.size + 1, j, none⟩) (by show w.heap.size + 1 < _; omega)).trans (Hby.out j hj))
  have hgN : w.heap.size + 2 ≤ g := Nat.le_trans hz2' hg1
  clear hown3' hbel3 hg2
  go_loopw [10, 12] (fun ov iv wr => ∃ r : Nat, r ≤ 4 ∧ s + r ≤ 256 ∧ iv = .int .i64 (r : Int) ∧ ov = .bool (someOf d (min r (pgLim s))) ∧ Mine wr w2.heap.size 5 (.slice (some ⟨g, 0, none⟩) q.length c3) (cellsB (bump q d s (min r (pgLim s)))) ∧ Below w2.heap.size w3 wr) (fun _ iv _ => 4 - (intOf iv).toNat)
  case atStart => exact ⟨0, by omega, by omega, rfl, by rw [Nat.zero_min]; rfl, by rw [Nat.zero_min, bump_zero]; exact hown3, Below.refl _ _⟩
  case round =>
    obtain ⟨r, hr4, hsr, rfl, rfl, hown, hbel⟩ := hrel
    clear hown3
    by_cases hgo : r < 4 ∧ s + r < 256
    · obtain ⟨hlt, hls⟩ := hgo
      have t1 : decide ((r : Int) < 4) = true := by simp; omega
      have t2 : decide ((s : Int) + (r : Int) < 256) = true := by simp; omega
      by_cases hin : r < pgLim s
      · have em : min r (pgLim s) = r := Nat.min_eq_left (by omega)
        have em1 : min (r + 1) (pgLim s) = r + 1 := Nat.min_eq_left (by omega)
        rw [em] at hown ⊢
        have hlk : s + r < q.length := by omega
        obtain ⟨y, hy⟩ : ∃ y, y = d.getD r 0 := ⟨_, rfl⟩
        have hcy := (hbel.cell (p := ⟨w.heap.size + 1, r, none⟩) (by show w.heap.size + 1 < _; omega)).trans (Hby3.out r hlt)
        obtain ⟨x, hx⟩ : ∃ x, x = q[s + r] := ⟨_, rfl⟩
        have hcx := hown.cellAt (j := s + r) (u := .int .u8 (x.toNat : Int)) (by rw [cellsB_at _ _ (by rw [bump_length]; omega), bump_at q d s r hlk, hx])
        rw [← hy] at hcy
        have hfr := hown.free (s + r)
        have hcl := bump_cells q d s r x y hlk hx hy
        have hown3 := (hown.stored (s + r) (.int .u8 (((x.toNat : Int) + (y.toNat : Int)) % 256))).drew
        rw [hcl] at hown3
        have hbel3 := (hbel.setCell (p := ⟨g, s + r, none⟩) hg1 (.int .u8 (((x.toNat : Int) + (y.toNat : Int)) % 256))).drew
        have Hy := Lib.hid hy
        have Em1 := Lib.hid em1
        have h3 : (s < 20 ∧ s + r < 20) ∨ (20 ≤ s ∧ s + r < 24) ∨ 24 ≤ s := by unfold pgLim at hin; split at hin <;> (try split at hin) <;> omega
        clear hx hy hcl em em1 hin hown hbel
        rcases h3 with ⟨a1, a2⟩ | ⟨a1, a2⟩ | a1
        · have u1 : decide (20 ≤ (s : Int) + (r : Int)) = false := by simp; omega
          have u2 : decide ((s : Int) + (r : Int) < 24) = true := by simp; omega
          have u3 : decide (20 ≤ (s : Int)) = false := by simp; omega
          have u4 : decide ((s : Int) < 24) = true := by simp; omega
          clear a1 a2
          go_wp2_with fail
          have s1 : IntKind.i64.wrap ((s : Int) + (r : Int)) = (s : Int) + (r : Int) := IntWalk.i64_in _ (by omega)
          have s2 : ((s : Int) + (r : Int)).toNat = s + r := by omega
          have s3 : (0 : Int) ≤ (s : Int) + (r : Int) := by omega
          have s4 : (s : Int) + (r : Int) < (q.length : Int) := by omega
          have s5 : (r : Int) < 4 := by omega
          have s6 : (0 : Int) ≤ (r : Int) := by omega
          have s7 : (r : Int).toNat = r := by omega
          go_still_tail 15, (by kernel_rfl)
          change wpList _ _ _ _ _ wr.drew
          go_wp2_with fail
          all_goals
            go_roundw
            case rel => exact ⟨r + 1, by omega, by omega, by go_num, by rw [Em1.out]; first | exact some_yes d r (by assumption) | exact some_no d r y Hy.out (by assumption), by rw [Em1.out]; exact hown3, hbel3⟩
            case measure => simp [intOf]; omega
        · have u1 : decide (20 ≤ (s : Int) + (r : Int)) = true := by simp; omega
          have u2 : decide ((s : Int) + (r : Int) < 24) = true := by simp; omega
          have u3 : decide (20 ≤ (s : Int)) = true := by simp; omega
          have u4 : decide ((s : Int) < 24) = true := by simp; omega
          clear a1 a2
          go_wp2_with fail
          have s1 : IntKind.i64.wrap ((s : Int) + (r : Int)) = (s : Int) + (r : Int) := IntWalk.i64_in _ (by omega)
          have s2 : ((s : Int) + (r : Int)).toNat = s + r := by omega
          have s3 : (0 : Int) ≤ (s : Int) + (r : Int) := by omega
          have s4 : (s : Int) + (r : Int) < (q.length : Int) := by omega
          have s5 : (r : Int) < 4 := by omega
          have s6 : (0 : Int) ≤ (r : Int) := by omega
          have s7 : (r : Int).toNat = r := by omega
          go_still_tail 15, (by kernel_rfl)
          change wpList _ _ _ _ _ wr.drew
          go_wp2_with fail
          all_goals
            go_roundw
            case rel => exact ⟨r + 1, by omega, by omega, by go_num, by rw [Em1.out]; first | exact some_yes d r (by assumption) | exact some_no d r y Hy.out (by assumption), by rw [Em1.out]; exact hown3, hbel3⟩
            case measure => simp [intOf]; omega
        · have u1 : decide (20 ≤ (s : Int) + (r : Int)) = true := by simp; omega
          have u2 : decide ((s : Int) + (r : Int) < 24) = false := by simp; omega
          have u3 : decide (20 ≤ (s : Int)) = true := by simp; omega
          have u4 : decide ((s : Int) < 24) = false := by simp; omega
          clear a1
          go_wp2_with fail
          have s1 : IntKind.i64.wrap ((s : Int) + (r : Int)) = (s : Int) + (r : Int) := IntWalk.i64_in _ (by omega)
          have s2 : ((s : Int) + (r : Int)).toNat = s + r := by omega
          have s3 : (0 : Int) ≤ (s : Int) + (r : Int) := by omega
          have s4 : (s : Int) + (r : Int) < (q.length : Int) := by omega
          have s5 : (r : Int) < 4 := by omega
          have s6 : (0 : Int) ≤ (r : Int) := by omega
          have s7 : (r : Int).toNat = r := by omega
          go_still_tail 15, (by kernel_rfl)
          change wpList _ _ _ _ _ wr.drew
          go_wp2_with fail
          all_goals
            go_roundw
            case rel => exact ⟨r + 1, by omega, by omega, by go_num, by rw [Em1.out]; first | exact some_yes d r (by assumption) | exact some_no d r y Hy.out (by assumption), by rw [Em1.out]; exact hown3, hbel3⟩
            case measure => simp [intOf]; omega
      · have em : min r (pgLim s) = pgLim s := Nat.min_eq_right (by omega)
        have em1 : min (r + 1) (pgLim s) = pgLim s := Nat.min_eq_right (by omega)
        rw [em] at hown ⊢
        have h3 : (s < 20 ∧ 20 ≤ s + r ∧ s + r < 24) ∨ (20 ≤ s ∧ s < 24 ∧ 24 ≤ s + r) := by unfold pgLim at hin; split at hin <;> (try split at hin) <;> omega
        obtain ⟨lm, hlm⟩ : ∃ lm, lm = pgLim s := ⟨_, rfl⟩
        rw [← hlm] at hown em1 ⊢
        have Em1 := Lib.hid em1
        clear em em1 hin hlm
        rcases h3 with ⟨a1, a2, a3⟩ | ⟨a1, a2, a3⟩
        · have u1 : decide (20 ≤ (s : Int) + (r : Int)) = true := by simp; omega
          have u2 : decide ((s : Int) + (r : Int) < 24) = true := by simp; omega
          have u3 : decide (20 ≤ (s : Int)) = false := by simp; omega
          have u4 : decide ((s : Int) < 24) = true := by simp; omega
          clear a1 a2 a3
          go_wp2_with fail
          go_roundw
          case rel => exact ⟨r + 1, by omega, by omega, by go_num, by rw [Em1.out], by rw [Em1.out]; exact hown, hbel⟩
          case measure => simp [intOf]; omega
        · have u1 : decide (20 ≤ (s : Int) + (r : Int)) = true := by simp; omega
          have u2 : decide ((s : Int) + (r : Int) < 24) = false := by simp; omega
          have u3 : decide (20 ≤ (s : Int)) = true := by simp; omega
          have u4 : decide ((s : Int) < 24) = true := by simp; omega
          clear a1 a2 a3
          go_wp2_with fail
          go_roundw
          case rel => exact ⟨r + 1, by omega, by omega, by go_num, by rw [Em1.out], by rw [Em1.out]; exact hown, hbel⟩
          case measure => simp [intOf]; omega
    · have hex : decide ((r : Int) < 4) = false ∨ (decide ((r : Int) < 4) = true ∧ decide ((s : Int) + (r : Int) < 256) = false) := by simp; omega
      have hR4 : min r (pgLim s) ≤ 4 := Nat.le_trans (Nat.min_le_left _ _) hr4
      have hRl : min r (pgLim s) ≤ pgLim s := Nat.min_le_right _ _
      obtain ⟨R, hR⟩ : ∃ R, R = min r (pgLim s) := ⟨_, rfl⟩
      rw [← hR] at hown hR4 hRl ⊢
      have hbm := hw2.trans ((hb3.trans hbel).mono (Nat.le_trans (by omega) hz2'))
      have hrc := hown.rd
      have hbl : (bump q d s R).length = q.length := bump_length _ _ _ _
      rcases hsome : someOf d R with _ | _
      · have hsame := bump_same q d s R hsome
        rw [hsame] at hrc
        have Hd := Lib.hid (Hdec.out _ _ _ hrc)
        clear hgo hsame hbl hR hR4 hRl hsome hown hrc
        rcases hex with t1 | ⟨t1, t2⟩
        all_goals
          go_wp2_with fail
          refine Hd.out.mono ?_
          rintro e w5 ⟨A5, c5, rfl, hr5, hb5⟩
          go_wp2_with fail
          refine (lives04_any _).mono ?_
          rintro e w9 ⟨rfl, hb9⟩
          go_wp2_with fail
          go_ret
          exact ⟨rfl, up (up_alloc (up hbm hb5) _) hb9⟩
      · have hbad := pg_spoilt 5 q d s R Hok.out hR4 hs256 hRl hsome
        obtain ⟨e, he⟩ : ∃ e, pgErr 5 (bump q d s R) = e := ⟨_, rfl⟩
        rw [he] at hbad
        obtain ⟨q', hq'⟩ : ∃ q', q' = bump q d s R := ⟨_, rfl⟩
        rw [← hq'] at hrc he hbl
        have hd := fun (W : World) (h : Rd W W.heap.size (.slice (some ⟨g, 0, none⟩) q'.length c3) (cellsB q')) => pgDec_bad 5 (some ⟨g, 0, none⟩) c3 q' W _ h (Nat.le_refl _) e he hbad
        rw [hbl] at hd
        have Hd := Lib.hid (hd _ hrc)
        have e0 : ((e : Int) != 0) = true := by rw [bne_iff_ne]; omega
        clear hgo hbl hR hR4 hRl hsome hown hrc hd hbad he hq'
        rcases hex with t1 | ⟨t1, t2⟩
        all_goals
          go_wp2_with fail
          refine Hd.out.mono ?_
          rintro e w5 ⟨rfl, hb5⟩
          go_wp2_with fail
          refine (lives04_any _).mono ?_
          rintro e w9 ⟨rfl, hb9⟩
          go_wp2_with fail
          go_ret
          exact ⟨rfl, up (up_alloc (up hbm hb5) _) hb9⟩
theorem pageSpoilt_core (kind : Int) (gen a : Nat) (A : Option Addr) (n c : Nat) (l : List UInt8) (d0 d1 d2 d3 : UInt8) (w : World) (hg : gen < 18446744073709551616) (h : Rd w w.heap.size (.slice A n c) (cellsB l)) (ha : a ≤ 65535) :
    Calls Try.prog 5 #[pgVal kind gen (.slice A n c), .int .u16 (a : Int), .agg #[.int .u8 (d0.toNat : Int), .int .u8 (d1.toNat : Int), .int .u8 (d2.toNat : Int), .int .u8 (d3.toNat : Int)]] w fun e w' => e = .returned (.bool true) ∧ Below w.heap.size w w' := by
  have hbw := spW_below w kind gen (.slice A n c) d0 d1 d2 d3
  have hz : (spW w kind gen (.slice A n c) d0 d1 d2 d3).heap.size = w.heap.size + 2 := by simp
  have hm : (l.take 240).length ≤ 240 := by simp; omega
  have hfew := pgFew_any kind gen A n c l (spW w kind gen (.slice A n c) d0 d1 d2 d3) w.heap.size (by rw [hz]; omega) (h.below hbw)
  obtain ⟨m, em⟩ : ∃ m, m = l.take 240 := ⟨_, rfl⟩
  rw [← em] at hfew hm
  have hfew2 : Calls Try.prog 7 #[pgVal kind gen (.slice A n c)] (spW w kind gen (.slice A n c) d0 d1 d2 d3) fun e w1 => ∃ A' c', e = .returned (pgVal kind gen (.slice A' m.length c')) ∧ m.length ≤ c' ∧ Rd w1 w1.heap.size (.slice A' m.length c') (cellsB m) ∧ Below (w.heap.size + 2) (spW w kind gen (.slice A n c) d0 d1 d2 d3) w1 := by
    refine hfew.mono ?_
    rintro e w' ⟨A', c', rfl, h1, h2⟩
    obtain ⟨_, _, e, g1, _, _⟩ := h1.bytes
    injection e with e1 e2 e3
    subst e3
    rw [hz] at h2
    exact ⟨A', c', rfl, g1, h1, h2⟩
  by_cases harg : kind < 1 ∨ 4 < kind
  · exact pageSpoilt_arg kind gen a A n c d0 d1 d2 d3 w m hfew2 harg
  · obtain ⟨k, rfl⟩ := Int.eq_ofNat_of_zero_le (show 0 ≤ kind by omega)
    by_cases hlong : 232 < m.length
    · exact pageSpoilt_long k gen a A n c d0 d1 d2 d3 w m hfew2 (by omega) (by omega) hm hlong
    · exact pageSpoilt_ok k gen a A n c d0 d1 d2 d3 w m hfew2 (by omega) (by omega) (by omega) hg ha
theorem list_four {α : Type} : ∀ l : List α, l.length = 4 → ∃ a b c d, l = [a, b, c, d]
  | [a, b, c, d], _ => ⟨a, b, c, d, rfl⟩
theorem pageSpoilt_walk (kind : Int) (gen : Nat) (A : Option Addr) (c : Nat) (l : List UInt8) (a : Int) (ds : List UInt8) (w : World) (_ : (Lit.int .i64 kind).wf = true) (hg : gen < 18446744073709551616) (h : Rd w w.heap.size (.slice A l.length c) (cellsB l)) (wa : (Lit.int .u16 a).wf = true) (hd : ds.length = 4) :
    Calls Try.prog 5 #[pgVal kind gen (.slice A l.length c), .int .u16 a, .agg (cellsB ds).toArray] w fun e w' => e = .returned (.bool true) ∧ Below w.heap.size w w' := by
  have hb : 0 ≤ a ∧ a ≤ 65535 := by simpa [Lit.wf, IntKind.min, IntKind.max, IntKind.bits, IntKind.signed] using wa
  obtain ⟨n, rfl⟩ := Int.eq_ofNat_of_zero_le hb.1
  obtain ⟨d0, d1, d2, d3, rfl⟩ := list_four ds hd
  exact pageSpoilt_core kind gen n A _ c l d0 d1 d2 d3 w hg h (by omega)
end Go.Proofs.Ytnbmcecmdokogaa
