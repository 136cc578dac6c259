/-
  The document's own Decode of a page, where it is one.
-/
import Derived.Test.YtnbmcecmdokogaaRefPageD
import Derived.Deep.RegionHeld3
import Derived.Deep.DrawnRows
namespace Go.Proofs.Ytnbmcecmdokogaa
open Go.RowKit
attribute [local go_sem ↓] Go.wp_at_zero Go.wp_at_succ
set_option maxHeartbeats 4000000 in
set_option maxRecDepth 100000 in
theorem refDec_ok (no : Int) (A : Option Addr) (c : Nat) (l : List UInt8) (w : World) (B : Nat) (hr : Rd w B (.slice A l.length c) (cellsB l)) (hB : B ≤ w.heap.size) (hl : l.length = 256) (hfront : l.take 4 = [83, 84, 78, 67]) (hv : fieldAt l 4 1 = 1) (hsum : fieldAt l 20 4 = pgSum l) (hk1 : 1 ≤ fieldAt l 5 1) (hk4 : fieldAt l 5 1 ≤ 4) (hlen : fieldAt l 6 2 ≤ 232) (htail : pgTail l = true) (hno1 : 0 ≤ no) (hno2 : no ≤ 1599) (hne : (fieldAt l 8 4 : Int) = no) :
    Calls Try.prog 14 #[.int .i64 no, .slice A l.length c] w fun e w' => ∃ v', e = .returned (.tuple #[.agg #[.int .i64 (fieldAt l 5 1 : Nat), .int .u64 (fieldAt l 12 8 : Nat), v'], .int .i64 0]) ∧ Mine w' w.heap.size 5 v' (cellsB (pgBody l)) ∧ Below w.heap.size w w' := by
  obtain ⟨_, _, e, g1, g2, _⟩ := hr.bytes
  injection e with e1 e2 e3
  subst e3
  clear e1 e2
  have hb : ((l.length : Int) != 256) = false := by rw [hl]; rfl
  have hl6 : 256 ≤ l.length := by omega
  have hrW : Rd (refW w) w.heap.size (.slice A l.length c) (cellsB l) := (hr.below ((refW_below w).mono hB)).more hB
  obtain ⟨b, o, rfl, hbl, hc⟩ := hrW.addr (by omega)
  have k0 := hc 0 (by omega)
  have k1 := hc 1 (by omega)
  have k2 := hc 2 (by omega)
  have k3 := hc 3 (by omega)
  have k4 := hc 4 (by omega)
  rw [Nat.add_zero] at k0
  have hv0 := fieldAt_one l 4 (by omega)
  rw [front_iff l (by omega)] at hfront
  obtain ⟨x0, hx0⟩ : ∃ x, x = l[0] := ⟨_, rfl⟩
  obtain ⟨x1, hx1⟩ : ∃ x, x = l[1] := ⟨_, rfl⟩
  obtain ⟨x2, hx2⟩ : ∃ x, x = l[2] := ⟨_, rfl⟩
  obtain ⟨x3, hx3⟩ : ∃ x, x = l[3] := ⟨_, rfl⟩
  obtain ⟨x4, hx4⟩ : ∃ x, x = l[4] := ⟨_, rfl⟩
  rw [← hx0] at k0
  rw [← hx1] at k1
  rw [← hx2] at k2
  rw [← hx3] at k3
  rw [← hx4] at k4
  rw [← hx0, ← hx1, ← hx2, ← hx3] at hfront
  rw [← hx4] at hv0
  obtain ⟨h0, h1, h2, h3⟩ := hfront
  have hf5 := fieldAt_one l 5 (by omega)
  have k5 := hc 5 (by omega)
  obtain ⟨x5, hx5⟩ : ∃ x, x = l[5] := ⟨_, rfl⟩
  rw [← hx5] at k5 hf5
  have t0 : ((x0.toNat : Int) != 83) = false := by rw [h0]; rfl
  have t1 : ((x1.toNat : Int) != 84) = false := by rw [h1]; rfl
  have t2 : ((x2.toNat : Int) != 78) = false := by rw [h2]; rfl
  have t3 : ((x3.toNat : Int) != 67) = false := by rw [h3]; rfl
  have t4 : ((x4.toNat : Int) != 1) = false := by rw [← hv0, hv]; rfl
  have Hl := Lib.hid hl
  have hps : pgSum l < 4294967296 := crcOf_lt (l.take 20 ++ l.drop 24)
  have wv : IntKind.u64.wrap ((pgSum l : Nat) : Int) = ((pgSum l : Nat) : Int) := IntWalk.u64_in _ (by omega)
  clear hv hv0 hps
  have hs2 : (((fieldAt l 20 4 : Nat) : Int) != ((pgSum l : Nat) : Int)) = false := by rw [hsum]; simp
  have hn6 := fieldAt_two l 6
  have G6 := fun (W : World) (h : Rd W w.heap.size (.slice (some ⟨b, o, none⟩) l.length c) (cellsB l)) => refGet_fld (some ⟨b, o, none⟩) c l 6 2 W _ h (by omega) (by omega) (by omega)
  obtain ⟨n, hn⟩ : ∃ n, n = fieldAt l 6 2 := ⟨_, rfl⟩
  rw [← hn] at G6 hn6
  have wn : IntKind.i64.wrap (n : Int) = (n : Int) := IntWalk.i64_in _ (by omega)
  have HG6 := Lib.hid G6
  have Hc := Lib.hid hc
  have Hn := Lib.hid hn
  clear hsum G6 hn6
  have d1 : decide ((x5.toNat : Int) < 1) = false := by simp; omega
  have d2 : decide (4 < (x5.toNat : Int)) = false := by simp; omega
  rw [← hn] at hlen
  have d3 : decide (232 < (n : Int)) = false := by simp; omega
  have hn24 : (24 : Int) + (n : Int) = ((24 + n : Nat) : Int) := by omega
  have Hn24 := Lib.hid hn24
  clear hn24
  have Htail := Lib.hid htail
  clear htail
  have N8 := fun (W : World) (h : Rd W w.heap.size (.slice (some ⟨b, o, none⟩) l.length c) (cellsB l)) => refGet_fld (some ⟨b, o, none⟩) c l 8 4 W _ h (by omega) (by omega) (by omega)
  have HN8 := Lib.hid N8
  clear N8
  have e1 : decide (no < 0) = false := by simp; omega
  have e2 : decide (1599 < no) = false := by simp; omega
  have hne1 : (((fieldAt l 8 4 : Nat) : Int) != no) = false := by rw [hne]; simp
  rw [hf5]
  clear hne hk1 hk4 hf5
  have em : ((cellsB l).take (24 + n)).drop 24 = cellsB (pgBody l) := by
    rw [cellsB_take, cellsB_drop, List.drop_take, Nat.add_sub_cancel_left]
    unfold pgBody
    rw [← Hn.out]
  have Em := Lib.hid em
  have hml : (pgBody l).length ≤ 256 := by unfold pgBody; simp; omega
  obtain ⟨m, hm⟩ : ∃ m, m = pgBody l := ⟨_, rfl⟩
  rw [← hm] at hml ⊢
  have Hm := Lib.hid hm
  obtain ⟨i, hi, hz0, hz1, hz2⟩ := info_parts info_u8
  have hc24 : ¬ c = 24 := by omega
  clear em hm
  clear hx0 hx1 hx2 hx3 hx4 hx5 hl h0 h1 h2 h3 hr hc hn
  go_enter Try.func14, Try.ntmps14
  go_wp2_with fail
  refine (refGet_fld _ c l 20 4 _ _ hrW (by omega) (by omega) (by omega)).mono ?_
  rintro e w' ⟨rfl, rfl⟩
  go_wp2_with fail
  refine (refPgSum_any _ c l _ _ hrW (by simp; omega) Hl.out).mono ?_
  rintro e w1 ⟨rfl, hb1⟩
  have hB1 : Below (w.heap.size + 2) (refW w) w1 := by simpa using hb1
  have hW1 : Below w.heap.size w w1 := (refW_below w).trans (hB1.mono (by omega))
  have hr1 : Rd w1 w.heap.size (.slice (some ⟨b, o, none⟩) l.length c) (cellsB l) := hrW.below (hB1.mono (by omega))
  obtain ⟨⟨q0, q1, q2⟩, ⟨p0, p1, p2⟩, f0, f1, f2⟩ := refW_later hB1
  clear k0 k1 k2 k3 k4
  go_wp2_with fail
  clear wv
  refine (HG6.out _ hr1).mono ?_
  rintro e w' ⟨rfl, rfl⟩
  have k5' := (hB1.cell (p := ⟨b, o + 5, none⟩) (by show b < _; omega)).trans k5
  go_wp2_with fail
  have Hcw := Lib.hid (fun (j : Nat) (h : j < l.length) => (hB1.cell (p := ⟨b, o + j, none⟩) (by show b < _; omega)).trans (Hc.out j h))
  go_loop [8] (fun i => ∃ j : Nat, 24 + n ≤ j ∧ j ≤ l.length ∧ i = .int .i64 (j : Int) ∧ ∀ (k : Nat) (h : k < l.length), 24 + n ≤ k → k < j → l[k] = 0) (fun i => l.length - (intOf i).toNat)
  case atStart => exact ⟨24 + n, Nat.le_refl _, by omega, by rw [Hn24.out], fun k h a b => by omega⟩
  case round =>
    obtain ⟨j, hj1, hj2, rfl, hz⟩ := hrel
    have Hz := Lib.hid hz
    clear hz
    by_cases hlt : j < l.length
    · have hcell := Hcw.out j hlt
      have hlt2 : decide ((j : Int) < 256) = true := by have := Hl.out; simp; omega
      obtain ⟨x, hx⟩ : ∃ x, x = l[j] := ⟨_, rfl⟩
      rw [← hx] at hcell
      have Hx := Lib.hid hx
      clear hx
      by_cases hx0 : x = 0
      · have hxz : ((x.toNat : Int) != 0) = false := by rw [hx0]; rfl
        have Hx0 := Lib.hid hx0
        clear hx0
        go_wp2_with fail
        go_round
        case rel => exact ⟨j + 1, by omega, by omega, by go_num, zero_more Hz.out hlt (by rw [← Hx.out]; exact Hx0.out)⟩
        case measure => simp [intOf]; omega
      · exfalso
        have := tail_not l j hlt (by rw [← Hn.out]; exact hj1) (by rw [← Hx.out]; exact hx0)
        rw [Htail.out] at this
        cases this
    · have hj256 : decide ((j : Int) < 256) = false := by have := Hl.out; simp; omega
      go_wp2_with fail
      refine (HN8.out _ hr1).mono ?_
      rintro e w' ⟨rfl, rfl⟩
      go_wp2_with fail
      have hr24 := hr1.cut (lo := 24) (hi := 24 + n) (by omega) (by omega)
      rw [if_neg hc24, Em.out, ← Hm.out, Nat.add_sub_cancel_left] at hr24
      have hzw : w.heap.size ≤ w1.heap.size := hW1.size
      have hzw2 : w.heap.size + 1 ≤ w1.heap.size := by have := hB1.size; simp at this; omega
      have hr3 : Hid (∀ w3, Hid (Below (w.heap.size + 2) (refW w) w3) → Rd w3 w.heap.size (.slice (some ⟨b, o, none⟩) l.length c) (cellsB l)) := Lib.hid (fun w3 h => hrW.below (h.out.mono (by omega)))
      have hown0 : ∀ w3 v, Mine w3 w1.heap.size 5 v ([] ++ cellsB m) → Below w1.heap.size (w1.drew.alloc (.cells #[] 5)) w3 → ∃ A3 c3, v = .slice A3 m.length c3 ∧ Mine w3 w1.heap.size 5 (.slice A3 m.length c3) (cellsB m) ∧ Hid (Below (w.heap.size + 2) (refW w) w3) ∧ w3.cell? ⟨b, o + 5, none⟩ = some (.int .u8 (x5.toNat : Int)) := by
        intro w3 v h3 hb3
        rw [List.nil_append] at h3
        obtain ⟨A3, c3, rfl, _, _, _⟩ := h3.rd.bytes
        have hb : Below w1.heap.size w1 w3 := (up_alloc (up_drew (Below.refl w1.heap.size w1)) _).trans hb3
        exact ⟨A3, c3, rfl, h3, Lib.hid (hB1.trans (hb.mono (by have := hB1.size; simpa using this))), (hb.cell (p := ⟨b, o + 5, none⟩) (by show b < _; omega)).trans k5'⟩
      have Hown0 := Lib.hid hown0
      have Hr24 := Lib.hid hr24
      have Hset := Lib.hid (fun (w3 : World) (u0 u1 u2 : Value) (h : w3.cell? ⟨b, o + 5, none⟩ = some (.int .u8 (x5.toNat : Int))) => cell_set3 (q := ⟨b, o + 5, none⟩) w3 u0 u1 u2 hbl h)
      have wx5 : IntKind.i64.wrap (x5.toNat : Int) = (x5.toNat : Int) := IntWalk.i64_in _ (by have := x5.toNat_lt; omega)
      have i1 : (0 : Int) ≤ 5 := by omega
      have i2 : (5 : Int) < (l.length : Int) := by omega
      have i3 : IntKind.i64.wrap (24 + (n : Int)) = 24 + (n : Int) := IntWalk.i64_in _ (by omega)
      have i4 : (0 : Int) ≤ 24 + (n : Int) := by omega
      have i5 : (24 + (n : Int)).toNat = 24 + n := by omega
      have i6 : (24 : Int) ≤ 24 + (n : Int) := by omega
      have i7 : (24 : Int) + (n : Int) ≤ (c : Int) := by omega
      clear hown0 hr24 q0 q1 q2 f0 f1 f2 p0 p1 p2
      go_region_held3 (fun w' => w'.cell? ⟨b, o + 5, none⟩ = some (.int .u8 (x5.toNat : Int)))
        (first | exact s3 | exact Hset.out _ _ _ _ s3 | exact k5' | (rw [World.cell?_alloc_lt _ _ _ (by show b < w1.heap.size; omega)]; exact k5') | go_keep)
        (first
        | (refine step_append_rd rfl (.tmp 99) (.tmp 103) 23 (by rfl) w1.heap.size 5 i _ 1 Try.underlying23 hi hz0 hz1 hz2 rfl _ [] (by rfl) (Mine.empty w1.drew _ 5 (Nat.le_refl _)) w.heap.size _ _ (by rfl) ((Hr24.out.drew).alloc hW1.size _) (cellsB_one _) (by rw [cellsB_length]; simp; omega) (by unfold maxLen; rw [cellsB_length]; simp; omega) (by simp) ?_; intro v3 w3 hown3 hbel3 _ _; obtain ⟨A3, c3, rfl, ho3, hB3, s3⟩ := Hown0.out _ _ hown3 hbel3; obtain ⟨⟨q0, q1, q2⟩, -, f0, f1, f2⟩ := refW_later hB3.out)
        | ((have h := s3; clear h; go_at_call 24; refine (refGet_fld _ c l 12 8 w3 w.heap.size (hr3.out _ hB3) (by omega) (by omega) (by omega)).mono ?_; rintro e w' ⟨rfl, rfl⟩))
        | ((go_at_call 24; refine (refGet_fld _ c l 12 8 w1.drew w.heap.size hr1.drew (by omega) (by omega) (by omega)).mono ?_; rintro e w' ⟨rfl, rfl⟩))
        | ((go_at_call 24; refine (refGet_fld _ c l 12 8 _ w.heap.size (hr1.alloc hW1.size _).drew (by omega) (by omega) (by omega)).mono ?_; rintro e w' ⟨rfl, rfl⟩)))
      all_goals
        go_wp2_with fail
        refine bodyPost_ret (v := .tuple #[.agg #[.int .i64 (x5.toNat : Int), .int .u64 (fieldAt l 12 8 : Nat), .slice A3 m.length c3], .int .i64 0]) (by simp [results, Try.results14, go_sem, q0, q1, q2]) rfl ⟨_, rfl, ?_, bel3 ((refW_below w).trans (hB3.out.mono (by omega))) _ _ _⟩
        exact (((ho3.other hzw2).other hzw2).other hzw2).weaken hzw
end Go.Proofs.Ytnbmcecmdokogaa
