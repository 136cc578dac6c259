/-
  The document's reader of heads of IPv6: Read, by contract.
-/
import Derived.Test.YtejppekcniehpaaSxR
import Derived.Test.YtejppekcniehpaaSxF
import Derived.Test.YtejppekcniehpaaIfS
namespace Go.Proofs.Ytejppekcniehpaa
open Go.RowKit
theorem HdAt.next {w : World} {g : Nat} {h : Hd} (hg : HdAt w g h) (x : UInt8) (q : Int) : HdAt ((w.setCell ⟨g, 1, none⟩ (.int .u8 (x.toNat : Int))).setCell ⟨g, 2, none⟩ (.int .i64 q)) g ⟨h.six, x, q, h.src, h.dst, h.part, h.hops⟩ ∧ w.grownBy ((w.setCell ⟨g, 1, none⟩ (.int .u8 (x.toNat : Int))).setCell ⟨g, 2, none⟩ (.int .i64 q)) (some g) := by
  refine ⟨?_, grown_two (grown_one _ _ _ _) (grown_one _ _ _ _)⟩
  unfold HdAt at hg ⊢
  rw [row_setCell_at (row_setCell_at hg)]
  rfl
theorem HdAt.parted {w : World} {g : Nat} {h : Hd} (hg : HdAt w g h) (hw : h.Wide) (b : Bool) : HdAt (w.setCell ⟨g, 37, none⟩ (.bool b)) g ⟨h.six, h.proto, h.pos, h.src, h.dst, b, h.hops⟩ := by
  unfold HdAt at hg ⊢
  rw [row_setCell_at hg]
  obtain ⟨s0, p0, n0, ⟨s1, x1⟩, ⟨s2, x2⟩, q0, k0⟩ := h
  obtain ⟨a1, a2, a3, a4, a5, a6, a7, a8, a9, a10, a11, a12, a13, a14, a15, a16, rfl⟩ := list16 hw.1
  obtain ⟨b1, b2, b3, b4, b5, b6, b7, b8, b9, b10, b11, b12, b13, b14, b15, b16, rfl⟩ := list16 hw.2
  rfl
theorem HdAt.free {w : World} {g : Nat} {h : Hd} (hg : HdAt w g h) (j : Nat) : w.frozen? ⟨g, j, none⟩ = false := frozen_of_row w g j _ _ hg
theorem hdC_two {w : World} {g : Nat} {h : Hd} (hg : HdAt w g h) : w.cell? ⟨g, 2, none⟩ = some (.int .i64 h.pos) := by
  rw [cell_of_row w g 2 _ _ _ hg]; rfl
/-- What holds on the way over the heads between. -/
structure SxSt (w : World) (g6 : Nat) (l : List UInt8) (n : Nat) (h : Hd) (p : Nat) (wr : World) : Prop where
  cur : HdAt wr g6 h
  wide : h.Wide
  pos : h.pos = (p : Int)
  le : p ≤ l.length
  none4 : HdAt wr (w.heap.size + 1) Hd.zero
  none2 : HdAt wr w.heap.size Hd.zero
  bel : Below w.heap.size w wr
  new : w.heap.size + 1 < g6
  walk : sxWalk (8 - n) h (l.drop p) = sxWalk 8 (sxFirst l) (l.drop 40)
theorem SxSt.keep {w : World} {g6 : Nat} {l : List UInt8} {n n' : Nat} {h h' : Hd} {p p' : Nat} {wr w' : World} (hs : SxSt w g6 l n h p wr) (hg : wr.grownBy w' (some g6)) (hat : HdAt w' g6 h') (hw : h'.Wide) (hp : h'.pos = (p' : Int)) (hl : p' ≤ l.length) (hk : sxWalk (8 - n') h' (l.drop p') = sxWalk 8 (sxFirst l) (l.drop 40)) : SxSt w g6 l n' h' p' w' := by
  have h6 := hs.new
  have l4 := hs.none4.lt
  refine ⟨hat, hw, hp, hl, (hg.block _ l4 (fun e => ?_)).trans hs.none4, (hg.block _ (by omega) (fun e => ?_)).trans hs.none2, grown_below hs.bel hg (by omega), h6, hk⟩
  · injection e with e; omega
  · injection e with e; omega
theorem SxSt.drew {w : World} {g6 : Nat} {l : List UInt8} {n : Nat} {h : Hd} {p : Nat} {wr : World} (hs : SxSt w g6 l n h p wr) : SxSt w g6 l n h p wr.drew := ⟨hs.cur, hs.wide, hs.pos, hs.le, hs.none4, hs.none2, hs.bel.drew, hs.new, hs.walk⟩
theorem SxSt.end_ {w : World} {g6 : Nat} {l : List UInt8} {n : Nat} {h : Hd} {p : Nat} {wr : World} (hs : SxSt w g6 l n h p wr) {y : Hd} (hy : y.Wide) : ∃ W', (Instr.storeAt 33 (.pointer (some ⟨w.heap.size, 0, none⟩)) (.agg (hdC y).toArray)).run Try.prog wr = .ok () W' ∧ HdAt W' w.heap.size y ∧ Below w.heap.size w W' := by
  obtain ⟨W', hst, hat, hgr, _⟩ := store_hd (b := y) hs.none2 Hd.zero_wide hy
  exact ⟨W', hst, hat, grown_below hs.bel hgr (Nat.le_refl _)⟩
set_option maxRecDepth 100000 in
set_option maxHeartbeats 1000000 in
theorem rsxRead_bad {A : Option Addr} {c : Nat} {l : List UInt8} {w : World} (hr : Rd w w.heap.size (.slice A l.length c) (cellsB l)) (hE : sxE1 l ≠ 0) :
    Calls Try.prog 19 #[.slice A l.length c] w fun e w' => e = .returned (.tuple #[hdV Hd.zero, .int .i64 ((sxE1 l : Nat) : Int)]) ∧ Below w.heap.size w w' := by
  have hz : ∀ w, (zeroValue 33).run Try.prog w = .ok (.agg (hdC Hd.zero).toArray) w := zero_hd
  have hbu : ∀ W, (Instr.build 33 #[]).run Try.prog W = .ok (.agg (hdC Hd.zero).toArray) W := build_hd0
  obtain ⟨w5, w6, w7, hst5, hst6, hsc5, hat5, hatg, hb5, hs5, HT6, hst7, HT7⟩ := rif_start w
  have hxi := info_hdA Hd.zero_wide
  have hln := hdC_length Hd.zero_wide
  have HT := Lib.hid HT6
  have hr5 := (hr.below hb5).more (B' := w5.heap.size) (by omega)
  obtain ⟨m, hm⟩ : ∃ m, m = l.length := ⟨_, rfl⟩
  unfold HdAt at hat5
  clear hatg hb5 HT6 HT7 hst7
  rw [hdV]
  obtain ⟨Z, hZ⟩ : ∃ Z, Z = hdC Hd.zero := ⟨_, rfl⟩
  rw [← hZ] at hz hbu hst5 hst6 hsc5 hat5 hxi hln ⊢
  have HZ := Lib.hid hZ
  clear hZ
  by_cases h1 : 2048 < m
  · have e : sxE1 l = 10 := by unfold sxE1; rw [if_pos (by omega)]
    rw [e, ← hm]
    clear hr hr5 hm hE e
    go_enter Try.func19, Try.ntmps19
    go_wp2_with (first
      | (with_reducible refine wpList_alloc_zero (o := ⟨some 2, .alloc 33, _, _, _, _⟩) rfl 33 rfl Z.toArray hz ?_)
      | (with_reducible refine wpList_alloc_zero (o := ⟨some 4, .alloc 33, _, _, _, _⟩) rfl 33 rfl Z.toArray hz ?_)
      | ((with_reducible refine wpList_stored (o := ⟨none, .store 33 (.tmp 4) (.tmp 10), _, _, _, none⟩) rfl 33 (.tmp 4) (.tmp 10) rfl (.pointer (some ⟨w.heap.size + 1, 0, none⟩)) (.agg Z.toArray) ?_ ?_ w5 hst5 ?_); exact rfl; exact rfl)
      | ((with_reducible refine wpList_load_row (o := ⟨some 14, .load 33 (.tmp 4), _, _, _, _⟩) rfl 33 (.tmp 4) rfl (w.heap.size + 1) ?_ 33 Z.toArray (0, 0) _ hat5 Try.underlying33 rfl hxi ?_); exact rfl)
      | ((with_reducible refine wpList_load_row (o := ⟨some 18, .load 33 (.tmp 4), _, _, _, _⟩) rfl 33 (.tmp 4) rfl (w.heap.size + 1) ?_ 33 Z.toArray (0, 0) _ hat5 Try.underlying33 rfl hxi ?_); exact rfl)
      | ((with_reducible refine wpList_load_row (o := ⟨some 24, .load 33 (.tmp 4), _, _, _, _⟩) rfl 33 (.tmp 4) rfl (w.heap.size + 1) ?_ 33 Z.toArray (0, 0) _ hat5 Try.underlying33 rfl hxi ?_); exact rfl)
      | ((with_reducible refine wpList_load_row (o := ⟨some 33, .load 33 (.tmp 4), _, _, _, _⟩) rfl 33 (.tmp 4) rfl (w.heap.size + 1) ?_ 33 Z.toArray (0, 0) _ hat5 Try.underlying33 rfl hxi ?_); exact rfl)
      | ((with_reducible refine wpList_load_row (o := ⟨some 38, .load 33 (.tmp 4), _, _, _, _⟩) rfl 33 (.tmp 4) rfl (w.heap.size + 1) ?_ 33 Z.toArray (0, 0) _ hat5 Try.underlying33 rfl hxi ?_); exact rfl)
      | ((with_reducible refine wpList_load_row (o := ⟨some 43, .load 33 (.tmp 4), _, _, _, _⟩) rfl 33 (.tmp 4) rfl (w.heap.size + 1) ?_ 33 Z.toArray (0, 0) _ hat5 Try.underlying33 rfl hxi ?_); exact rfl)
      | ((with_reducible refine wpList_stored (o := ⟨none, .store 33 (.tmp 2) (.tmp 14), _, _, _, none⟩) rfl 33 (.tmp 2) (.tmp 14) rfl (.pointer (some ⟨w.heap.size, 0, none⟩)) (.agg Z.toArray) ?_ ?_ w6 hst6 ?_); exact rfl; exact rfl)
      | ((with_reducible refine wpList_stored (o := ⟨none, .store 33 (.tmp 2) (.tmp 18), _, _, _, none⟩) rfl 33 (.tmp 2) (.tmp 18) rfl (.pointer (some ⟨w.heap.size, 0, none⟩)) (.agg Z.toArray) ?_ ?_ w6 hst6 ?_); exact rfl; exact rfl)
      | ((with_reducible refine wpList_stored (o := ⟨none, .store 33 (.tmp 2) (.tmp 24), _, _, _, none⟩) rfl 33 (.tmp 2) (.tmp 24) rfl (.pointer (some ⟨w.heap.size, 0, none⟩)) (.agg Z.toArray) ?_ ?_ w6 hst6 ?_); exact rfl; exact rfl)
      | ((with_reducible refine wpList_stored (o := ⟨none, .store 33 (.tmp 2) (.tmp 33), _, _, _, none⟩) rfl 33 (.tmp 2) (.tmp 33) rfl (.pointer (some ⟨w.heap.size, 0, none⟩)) (.agg Z.toArray) ?_ ?_ w6 hst6 ?_); exact rfl; exact rfl)
      | ((with_reducible refine wpList_stored (o := ⟨none, .store 33 (.tmp 2) (.tmp 38), _, _, _, none⟩) rfl 33 (.tmp 2) (.tmp 38) rfl (.pointer (some ⟨w.heap.size, 0, none⟩)) (.agg Z.toArray) ?_ ?_ w6 hst6 ?_); exact rfl; exact rfl)
      | ((with_reducible refine wpList_stored (o := ⟨none, .store 33 (.tmp 2) (.tmp 43), _, _, _, none⟩) rfl 33 (.tmp 2) (.tmp 43) rfl (.pointer (some ⟨w.heap.size, 0, none⟩)) (.agg Z.toArray) ?_ ?_ w6 hst6 ?_); exact rfl; exact rfl)
      | (go_at_call 33; refine HG.out.mono ?_; rintro _ _ ⟨rfl, rfl⟩))
    exact bodyPost_ret (ret_hd (p := 2) (q := 3) (by kernel_rfl) rfl HT.out.1 Hd.zero_wide rfl) rfl ⟨by rw [hdV, ← HZ.out]; rfl, HT.out.2⟩
  by_cases h2 : m < 40
  · have e : sxE1 l = 9 := by unfold sxE1; rw [if_neg (by omega), if_pos (by omega)]
    rw [e, ← hm]
    clear hr hr5 hm hE e
    go_enter Try.func19, Try.ntmps19
    go_wp2_with (first
      | (with_reducible refine wpList_alloc_zero (o := ⟨some 2, .alloc 33, _, _, _, _⟩) rfl 33 rfl Z.toArray hz ?_)
      | (with_reducible refine wpList_alloc_zero (o := ⟨some 4, .alloc 33, _, _, _, _⟩) rfl 33 rfl Z.toArray hz ?_)
      | ((with_reducible refine wpList_stored (o := ⟨none, .store 33 (.tmp 4) (.tmp 10), _, _, _, none⟩) rfl 33 (.tmp 4) (.tmp 10) rfl (.pointer (some ⟨w.heap.size + 1, 0, none⟩)) (.agg Z.toArray) ?_ ?_ w5 hst5 ?_); exact rfl; exact rfl)
      | ((with_reducible refine wpList_load_row (o := ⟨some 14, .load 33 (.tmp 4), _, _, _, _⟩) rfl 33 (.tmp 4) rfl (w.heap.size + 1) ?_ 33 Z.toArray (0, 0) _ hat5 Try.underlying33 rfl hxi ?_); exact rfl)
      | ((with_reducible refine wpList_load_row (o := ⟨some 18, .load 33 (.tmp 4), _, _, _, _⟩) rfl 33 (.tmp 4) rfl (w.heap.size + 1) ?_ 33 Z.toArray (0, 0) _ hat5 Try.underlying33 rfl hxi ?_); exact rfl)
      | ((with_reducible refine wpList_load_row (o := ⟨some 24, .load 33 (.tmp 4), _, _, _, _⟩) rfl 33 (.tmp 4) rfl (w.heap.size + 1) ?_ 33 Z.toArray (0, 0) _ hat5 Try.underlying33 rfl hxi ?_); exact rfl)
      | ((with_reducible refine wpList_load_row (o := ⟨some 33, .load 33 (.tmp 4), _, _, _, _⟩) rfl 33 (.tmp 4) rfl (w.heap.size + 1) ?_ 33 Z.toArray (0, 0) _ hat5 Try.underlying33 rfl hxi ?_); exact rfl)
      | ((with_reducible refine wpList_load_row (o := ⟨some 38, .load 33 (.tmp 4), _, _, _, _⟩) rfl 33 (.tmp 4) rfl (w.heap.size + 1) ?_ 33 Z.toArray (0, 0) _ hat5 Try.underlying33 rfl hxi ?_); exact rfl)
      | ((with_reducible refine wpList_load_row (o := ⟨some 43, .load 33 (.tmp 4), _, _, _, _⟩) rfl 33 (.tmp 4) rfl (w.heap.size + 1) ?_ 33 Z.toArray (0, 0) _ hat5 Try.underlying33 rfl hxi ?_); exact rfl)
      | ((with_reducible refine wpList_stored (o := ⟨none, .store 33 (.tmp 2) (.tmp 14), _, _, _, none⟩) rfl 33 (.tmp 2) (.tmp 14) rfl (.pointer (some ⟨w.heap.size, 0, none⟩)) (.agg Z.toArray) ?_ ?_ w6 hst6 ?_); exact rfl; exact rfl)
      | ((with_reducible refine wpList_stored (o := ⟨none, .store 33 (.tmp 2) (.tmp 18), _, _, _, none⟩) rfl 33 (.tmp 2) (.tmp 18) rfl (.pointer (some ⟨w.heap.size, 0, none⟩)) (.agg Z.toArray) ?_ ?_ w6 hst6 ?_); exact rfl; exact rfl)
      | ((with_reducible refine wpList_stored (o := ⟨none, .store 33 (.tmp 2) (.tmp 24), _, _, _, none⟩) rfl 33 (.tmp 2) (.tmp 24) rfl (.pointer (some ⟨w.heap.size, 0, none⟩)) (.agg Z.toArray) ?_ ?_ w6 hst6 ?_); exact rfl; exact rfl)
      | ((with_reducible refine wpList_stored (o := ⟨none, .store 33 (.tmp 2) (.tmp 33), _, _, _, none⟩) rfl 33 (.tmp 2) (.tmp 33) rfl (.pointer (some ⟨w.heap.size, 0, none⟩)) (.agg Z.toArray) ?_ ?_ w6 hst6 ?_); exact rfl; exact rfl)
      | ((with_reducible refine wpList_stored (o := ⟨none, .store 33 (.tmp 2) (.tmp 38), _, _, _, none⟩) rfl 33 (.tmp 2) (.tmp 38) rfl (.pointer (some ⟨w.heap.size, 0, none⟩)) (.agg Z.toArray) ?_ ?_ w6 hst6 ?_); exact rfl; exact rfl)
      | ((with_reducible refine wpList_stored (o := ⟨none, .store 33 (.tmp 2) (.tmp 43), _, _, _, none⟩) rfl 33 (.tmp 2) (.tmp 43) rfl (.pointer (some ⟨w.heap.size, 0, none⟩)) (.agg Z.toArray) ?_ ?_ w6 hst6 ?_); exact rfl; exact rfl)
      | (go_at_call 33; refine HG.out.mono ?_; rintro _ _ ⟨rfl, rfl⟩))
    exact bodyPost_ret (ret_hd (p := 2) (q := 3) (by kernel_rfl) rfl HT.out.1 Hd.zero_wide rfl) rfl ⟨by rw [hdV, ← HZ.out]; rfl, HT.out.2⟩
  have hg := refGet_any _ _ l 4 2 w5 w5.heap.size hr5 (by omega) (by omega) (by omega)
  rw [ofBe_two l 4 (by omega)] at hg
  have hql := num2_lt l 4
  obtain ⟨q, hq⟩ : ∃ q, q = num2 l 4 := ⟨_, rfl⟩
  rw [← hq] at hg hql
  obtain ⟨b, o, rfl, hbl, hc⟩ := hr5.addr (by omega)
  have c0 := hc 0 (by omega)
  have c7 := hc 7 (by omega)
  rw [getD_cell (by omega), Nat.add_zero] at c0
  rw [getD_cell (by omega)] at c7
  have he : sxE1 l = if (l.getD 0 0).toNat / 16 ≠ 6 then 12 else if m < 40 + q then 9 else if 40 + q < m then 10 else if (l.getD 7 0).toNat = 0 then 4 else 0 := by
    unfold sxE1
    rw [if_neg (by omega), if_neg (by omega), hq, hm]
  obtain ⟨x, hx⟩ : ∃ x, x = l.getD 0 0 := ⟨_, rfl⟩
  obtain ⟨y, hy⟩ : ∃ y, y = l.getD 7 0 := ⟨_, rfl⟩
  rw [← hx] at c0 he
  rw [← hy] at c7 he
  have hxl := x.toNat_lt
  obtain ⟨p, hp⟩ : ∃ p, p = x.toNat / 16 := ⟨_, rfl⟩
  have hpd : (x.toNat : Int).tdiv 16 = (p : Int) := by rw [Int.tdiv_eq_ediv_of_nonneg (by omega)]; omega
  have hp16 : p < 16 := by omega
  rw [← hp] at he
  have hqw : IntKind.i64.wrap (q : Int) = (q : Int) := IntWalk.i64_in _ (by omega)
  obtain ⟨z, hzz⟩ : ∃ z, z = 40 + q := ⟨_, rfl⟩
  have hzw : IntKind.i64.wrap (40 + (q : Int)) = (z : Int) := by rw [IntWalk.i64_in _ (by omega)]; omega
  rw [← hzz] at he
  rw [← hm] at hg
  have HG := Lib.hid hg
  rw [he] at hE ⊢
  rw [← hm]
  have n0 : (0 : Int) < (m : Int) := by omega
  have n7 : (7 : Int) < (m : Int) := by omega
  clear hg hr hr5 hc hbl hx hy hp hxl hq hql hzz he hm
  by_cases h3 : p ≠ 6
  · rw [if_pos h3]
    have k3 : ((p : Int) % 256 != 6) = true := by simp; omega
    clear hE h3
    go_enter Try.func19, Try.ntmps19
    go_wp2_with (first
      | (with_reducible refine wpList_alloc_zero (o := ⟨some 2, .alloc 33, _, _, _, _⟩) rfl 33 rfl Z.toArray hz ?_)
      | (with_reducible refine wpList_alloc_zero (o := ⟨some 4, .alloc 33, _, _, _, _⟩) rfl 33 rfl Z.toArray hz ?_)
      | ((with_reducible refine wpList_stored (o := ⟨none, .store 33 (.tmp 4) (.tmp 10), _, _, _, none⟩) rfl 33 (.tmp 4) (.tmp 10) rfl (.pointer (some ⟨w.heap.size + 1, 0, none⟩)) (.agg Z.toArray) ?_ ?_ w5 hst5 ?_); exact rfl; exact rfl)
      | ((with_reducible refine wpList_load_row (o := ⟨some 14, .load 33 (.tmp 4), _, _, _, _⟩) rfl 33 (.tmp 4) rfl (w.heap.size + 1) ?_ 33 Z.toArray (0, 0) _ hat5 Try.underlying33 rfl hxi ?_); exact rfl)
      | ((with_reducible refine wpList_load_row (o := ⟨some 18, .load 33 (.tmp 4), _, _, _, _⟩) rfl 33 (.tmp 4) rfl (w.heap.size + 1) ?_ 33 Z.toArray (0, 0) _ hat5 Try.underlying33 rfl hxi ?_); exact rfl)
      | ((with_reducible refine wpList_load_row (o := ⟨some 24, .load 33 (.tmp 4), _, _, _, _⟩) rfl 33 (.tmp 4) rfl (w.heap.size + 1) ?_ 33 Z.toArray (0, 0) _ hat5 Try.underlying33 rfl hxi ?_); exact rfl)
      | ((with_reducible refine wpList_load_row (o := ⟨some 33, .load 33 (.tmp 4), _, _, _, _⟩) rfl 33 (.tmp 4) rfl (w.heap.size + 1) ?_ 33 Z.toArray (0, 0) _ hat5 Try.underlying33 rfl hxi ?_); exact rfl)
      | ((with_reducible refine wpList_load_row (o := ⟨some 38, .load 33 (.tmp 4), _, _, _, _⟩) rfl 33 (.tmp 4) rfl (w.heap.size + 1) ?_ 33 Z.toArray (0, 0) _ hat5 Try.underlying33 rfl hxi ?_); exact rfl)
      | ((with_reducible refine wpList_load_row (o := ⟨some 43, .load 33 (.tmp 4), _, _, _, _⟩) rfl 33 (.tmp 4) rfl (w.heap.size + 1) ?_ 33 Z.toArray (0, 0) _ hat5 Try.underlying33 rfl hxi ?_); exact rfl)
      | ((with_reducible refine wpList_stored (o := ⟨none, .store 33 (.tmp 2) (.tmp 14), _, _, _, none⟩) rfl 33 (.tmp 2) (.tmp 14) rfl (.pointer (some ⟨w.heap.size, 0, none⟩)) (.agg Z.toArray) ?_ ?_ w6 hst6 ?_); exact rfl; exact rfl)
      | ((with_reducible refine wpList_stored (o := ⟨none, .store 33 (.tmp 2) (.tmp 18), _, _, _, none⟩) rfl 33 (.tmp 2) (.tmp 18) rfl (.pointer (some ⟨w.heap.size, 0, none⟩)) (.agg Z.toArray) ?_ ?_ w6 hst6 ?_); exact rfl; exact rfl)
      | ((with_reducible refine wpList_stored (o := ⟨none, .store 33 (.tmp 2) (.tmp 24), _, _, _, none⟩) rfl 33 (.tmp 2) (.tmp 24) rfl (.pointer (some ⟨w.heap.size, 0, none⟩)) (.agg Z.toArray) ?_ ?_ w6 hst6 ?_); exact rfl; exact rfl)
      | ((with_reducible refine wpList_stored (o := ⟨none, .store 33 (.tmp 2) (.tmp 33), _, _, _, none⟩) rfl 33 (.tmp 2) (.tmp 33) rfl (.pointer (some ⟨w.heap.size, 0, none⟩)) (.agg Z.toArray) ?_ ?_ w6 hst6 ?_); exact rfl; exact rfl)
      | ((with_reducible refine wpList_stored (o := ⟨none, .store 33 (.tmp 2) (.tmp 38), _, _, _, none⟩) rfl 33 (.tmp 2) (.tmp 38) rfl (.pointer (some ⟨w.heap.size, 0, none⟩)) (.agg Z.toArray) ?_ ?_ w6 hst6 ?_); exact rfl; exact rfl)
      | ((with_reducible refine wpList_stored (o := ⟨none, .store 33 (.tmp 2) (.tmp 43), _, _, _, none⟩) rfl 33 (.tmp 2) (.tmp 43) rfl (.pointer (some ⟨w.heap.size, 0, none⟩)) (.agg Z.toArray) ?_ ?_ w6 hst6 ?_); exact rfl; exact rfl)
      | (go_at_call 33; refine HG.out.mono ?_; rintro _ _ ⟨rfl, rfl⟩))
    exact bodyPost_ret (ret_hd (p := 2) (q := 3) (by kernel_rfl) rfl HT.out.1 Hd.zero_wide rfl) rfl ⟨by rw [hdV, ← HZ.out]; rfl, HT.out.2⟩
  rw [if_neg h3] at hE ⊢
  have k3 : ((p : Int) % 256 != 6) = false := by simp; omega
  clear h3
  by_cases h4 : m < z
  · rw [if_pos h4]
    clear hE
    go_enter Try.func19, Try.ntmps19
    go_wp2_with (first
      | (with_reducible refine wpList_alloc_zero (o := ⟨some 2, .alloc 33, _, _, _, _⟩) rfl 33 rfl Z.toArray hz ?_)
      | (with_reducible refine wpList_alloc_zero (o := ⟨some 4, .alloc 33, _, _, _, _⟩) rfl 33 rfl Z.toArray hz ?_)
      | ((with_reducible refine wpList_stored (o := ⟨none, .store 33 (.tmp 4) (.tmp 10), _, _, _, none⟩) rfl 33 (.tmp 4) (.tmp 10) rfl (.pointer (some ⟨w.heap.size + 1, 0, none⟩)) (.agg Z.toArray) ?_ ?_ w5 hst5 ?_); exact rfl; exact rfl)
      | ((with_reducible refine wpList_load_row (o := ⟨some 14, .load 33 (.tmp 4), _, _, _, _⟩) rfl 33 (.tmp 4) rfl (w.heap.size + 1) ?_ 33 Z.toArray (0, 0) _ hat5 Try.underlying33 rfl hxi ?_); exact rfl)
      | ((with_reducible refine wpList_load_row (o := ⟨some 18, .load 33 (.tmp 4), _, _, _, _⟩) rfl 33 (.tmp 4) rfl (w.heap.size + 1) ?_ 33 Z.toArray (0, 0) _ hat5 Try.underlying33 rfl hxi ?_); exact rfl)
      | ((with_reducible refine wpList_load_row (o := ⟨some 24, .load 33 (.tmp 4), _, _, _, _⟩) rfl 33 (.tmp 4) rfl (w.heap.size + 1) ?_ 33 Z.toArray (0, 0) _ hat5 Try.underlying33 rfl hxi ?_); exact rfl)
      | ((with_reducible refine wpList_load_row (o := ⟨some 33, .load 33 (.tmp 4), _, _, _, _⟩) rfl 33 (.tmp 4) rfl (w.heap.size + 1) ?_ 33 Z.toArray (0, 0) _ hat5 Try.underlying33 rfl hxi ?_); exact rfl)
      | ((with_reducible refine wpList_load_row (o := ⟨some 38, .load 33 (.tmp 4), _, _, _, _⟩) rfl 33 (.tmp 4) rfl (w.heap.size + 1) ?_ 33 Z.toArray (0, 0) _ hat5 Try.underlying33 rfl hxi ?_); exact rfl)
      | ((with_reducible refine wpList_load_row (o := ⟨some 43, .load 33 (.tmp 4), _, _, _, _⟩) rfl 33 (.tmp 4) rfl (w.heap.size + 1) ?_ 33 Z.toArray (0, 0) _ hat5 Try.underlying33 rfl hxi ?_); exact rfl)
      | ((with_reducible refine wpList_stored (o := ⟨none, .store 33 (.tmp 2) (.tmp 14), _, _, _, none⟩) rfl 33 (.tmp 2) (.tmp 14) rfl (.pointer (some ⟨w.heap.size, 0, none⟩)) (.agg Z.toArray) ?_ ?_ w6 hst6 ?_); exact rfl; exact rfl)
      | ((with_reducible refine wpList_stored (o := ⟨none, .store 33 (.tmp 2) (.tmp 18), _, _, _, none⟩) rfl 33 (.tmp 2) (.tmp 18) rfl (.pointer (some ⟨w.heap.size, 0, none⟩)) (.agg Z.toArray) ?_ ?_ w6 hst6 ?_); exact rfl; exact rfl)
      | ((with_reducible refine wpList_stored (o := ⟨none, .store 33 (.tmp 2) (.tmp 24), _, _, _, none⟩) rfl 33 (.tmp 2) (.tmp 24) rfl (.pointer (some ⟨w.heap.size, 0, none⟩)) (.agg Z.toArray) ?_ ?_ w6 hst6 ?_); exact rfl; exact rfl)
      | ((with_reducible refine wpList_stored (o := ⟨none, .store 33 (.tmp 2) (.tmp 33), _, _, _, none⟩) rfl 33 (.tmp 2) (.tmp 33) rfl (.pointer (some ⟨w.heap.size, 0, none⟩)) (.agg Z.toArray) ?_ ?_ w6 hst6 ?_); exact rfl; exact rfl)
      | ((with_reducible refine wpList_stored (o := ⟨none, .store 33 (.tmp 2) (.tmp 38), _, _, _, none⟩) rfl 33 (.tmp 2) (.tmp 38) rfl (.pointer (some ⟨w.heap.size, 0, none⟩)) (.agg Z.toArray) ?_ ?_ w6 hst6 ?_); exact rfl; exact rfl)
      | ((with_reducible refine wpList_stored (o := ⟨none, .store 33 (.tmp 2) (.tmp 43), _, _, _, none⟩) rfl 33 (.tmp 2) (.tmp 43) rfl (.pointer (some ⟨w.heap.size, 0, none⟩)) (.agg Z.toArray) ?_ ?_ w6 hst6 ?_); exact rfl; exact rfl)
      | (go_at_call 33; refine HG.out.mono ?_; rintro _ _ ⟨rfl, rfl⟩))
    exact bodyPost_ret (ret_hd (p := 2) (q := 3) (by kernel_rfl) rfl HT.out.1 Hd.zero_wide rfl) rfl ⟨by rw [hdV, ← HZ.out]; rfl, HT.out.2⟩
  rw [if_neg h4] at hE ⊢
  by_cases h5 : z < m
  · rw [if_pos h5]
    clear hE
    go_enter Try.func19, Try.ntmps19
    go_wp2_with (first
      | (with_reducible refine wpList_alloc_zero (o := ⟨some 2, .alloc 33, _, _, _, _⟩) rfl 33 rfl Z.toArray hz ?_)
      | (with_reducible refine wpList_alloc_zero (o := ⟨some 4, .alloc 33, _, _, _, _⟩) rfl 33 rfl Z.toArray hz ?_)
      | ((with_reducible refine wpList_stored (o := ⟨none, .store 33 (.tmp 4) (.tmp 10), _, _, _, none⟩) rfl 33 (.tmp 4) (.tmp 10) rfl (.pointer (some ⟨w.heap.size + 1, 0, none⟩)) (.agg Z.toArray) ?_ ?_ w5 hst5 ?_); exact rfl; exact rfl)
      | ((with_reducible refine wpList_load_row (o := ⟨some 14, .load 33 (.tmp 4), _, _, _, _⟩) rfl 33 (.tmp 4) rfl (w.heap.size + 1) ?_ 33 Z.toArray (0, 0) _ hat5 Try.underlying33 rfl hxi ?_); exact rfl)
      | ((with_reducible refine wpList_load_row (o := ⟨some 18, .load 33 (.tmp 4), _, _, _, _⟩) rfl 33 (.tmp 4) rfl (w.heap.size + 1) ?_ 33 Z.toArray (0, 0) _ hat5 Try.underlying33 rfl hxi ?_); exact rfl)
      | ((with_reducible refine wpList_load_row (o := ⟨some 24, .load 33 (.tmp 4), _, _, _, _⟩) rfl 33 (.tmp 4) rfl (w.heap.size + 1) ?_ 33 Z.toArray (0, 0) _ hat5 Try.underlying33 rfl hxi ?_); exact rfl)
      | ((with_reducible refine wpList_load_row (o := ⟨some 33, .load 33 (.tmp 4), _, _, _, _⟩) rfl 33 (.tmp 4) rfl (w.heap.size + 1) ?_ 33 Z.toArray (0, 0) _ hat5 Try.underlying33 rfl hxi ?_); exact rfl)
      | ((with_reducible refine wpList_load_row (o := ⟨some 38, .load 33 (.tmp 4), _, _, _, _⟩) rfl 33 (.tmp 4) rfl (w.heap.size + 1) ?_ 33 Z.toArray (0, 0) _ hat5 Try.underlying33 rfl hxi ?_); exact rfl)
      | ((with_reducible refine wpList_load_row (o := ⟨some 43, .load 33 (.tmp 4), _, _, _, _⟩) rfl 33 (.tmp 4) rfl (w.heap.size + 1) ?_ 33 Z.toArray (0, 0) _ hat5 Try.underlying33 rfl hxi ?_); exact rfl)
      | ((with_reducible refine wpList_stored (o := ⟨none, .store 33 (.tmp 2) (.tmp 14), _, _, _, none⟩) rfl 33 (.tmp 2) (.tmp 14) rfl (.pointer (some ⟨w.heap.size, 0, none⟩)) (.agg Z.toArray) ?_ ?_ w6 hst6 ?_); exact rfl; exact rfl)
      | ((with_reducible refine wpList_stored (o := ⟨none, .store 33 (.tmp 2) (.tmp 18), _, _, _, none⟩) rfl 33 (.tmp 2) (.tmp 18) rfl (.pointer (some ⟨w.heap.size, 0, none⟩)) (.agg Z.toArray) ?_ ?_ w6 hst6 ?_); exact rfl; exact rfl)
      | ((with_reducible refine wpList_stored (o := ⟨none, .store 33 (.tmp 2) (.tmp 24), _, _, _, none⟩) rfl 33 (.tmp 2) (.tmp 24) rfl (.pointer (some ⟨w.heap.size, 0, none⟩)) (.agg Z.toArray) ?_ ?_ w6 hst6 ?_); exact rfl; exact rfl)
      | ((with_reducible refine wpList_stored (o := ⟨none, .store 33 (.tmp 2) (.tmp 33), _, _, _, none⟩) rfl 33 (.tmp 2) (.tmp 33) rfl (.pointer (some ⟨w.heap.size, 0, none⟩)) (.agg Z.toArray) ?_ ?_ w6 hst6 ?_); exact rfl; exact rfl)
      | ((with_reducible refine wpList_stored (o := ⟨none, .store 33 (.tmp 2) (.tmp 38), _, _, _, none⟩) rfl 33 (.tmp 2) (.tmp 38) rfl (.pointer (some ⟨w.heap.size, 0, none⟩)) (.agg Z.toArray) ?_ ?_ w6 hst6 ?_); exact rfl; exact rfl)
      | ((with_reducible refine wpList_stored (o := ⟨none, .store 33 (.tmp 2) (.tmp 43), _, _, _, none⟩) rfl 33 (.tmp 2) (.tmp 43) rfl (.pointer (some ⟨w.heap.size, 0, none⟩)) (.agg Z.toArray) ?_ ?_ w6 hst6 ?_); exact rfl; exact rfl)
      | (go_at_call 33; refine HG.out.mono ?_; rintro _ _ ⟨rfl, rfl⟩))
    exact bodyPost_ret (ret_hd (p := 2) (q := 3) (by kernel_rfl) rfl HT.out.1 Hd.zero_wide rfl) rfl ⟨by rw [hdV, ← HZ.out]; rfl, HT.out.2⟩
  rw [if_neg h5] at hE ⊢
  by_cases h6 : y.toNat = 0
  · rw [if_pos h6]
    have k7 : ((y.toNat : Int) == 0) = true := by rw [h6]; rfl
    clear hE h6
    go_enter Try.func19, Try.ntmps19
    go_wp2_with (first
      | (with_reducible refine wpList_alloc_zero (o := ⟨some 2, .alloc 33, _, _, _, _⟩) rfl 33 rfl Z.toArray hz ?_)
      | (with_reducible refine wpList_alloc_zero (o := ⟨some 4, .alloc 33, _, _, _, _⟩) rfl 33 rfl Z.toArray hz ?_)
      | ((with_reducible refine wpList_stored (o := ⟨none, .store 33 (.tmp 4) (.tmp 10), _, _, _, none⟩) rfl 33 (.tmp 4) (.tmp 10) rfl (.pointer (some ⟨w.heap.size + 1, 0, none⟩)) (.agg Z.toArray) ?_ ?_ w5 hst5 ?_); exact rfl; exact rfl)
      | ((with_reducible refine wpList_load_row (o := ⟨some 14, .load 33 (.tmp 4), _, _, _, _⟩) rfl 33 (.tmp 4) rfl (w.heap.size + 1) ?_ 33 Z.toArray (0, 0) _ hat5 Try.underlying33 rfl hxi ?_); exact rfl)
      | ((with_reducible refine wpList_load_row (o := ⟨some 18, .load 33 (.tmp 4), _, _, _, _⟩) rfl 33 (.tmp 4) rfl (w.heap.size + 1) ?_ 33 Z.toArray (0, 0) _ hat5 Try.underlying33 rfl hxi ?_); exact rfl)
      | ((with_reducible refine wpList_load_row (o := ⟨some 24, .load 33 (.tmp 4), _, _, _, _⟩) rfl 33 (.tmp 4) rfl (w.heap.size + 1) ?_ 33 Z.toArray (0, 0) _ hat5 Try.underlying33 rfl hxi ?_); exact rfl)
      | ((with_reducible refine wpList_load_row (o := ⟨some 33, .load 33 (.tmp 4), _, _, _, _⟩) rfl 33 (.tmp 4) rfl (w.heap.size + 1) ?_ 33 Z.toArray (0, 0) _ hat5 Try.underlying33 rfl hxi ?_); exact rfl)
      | ((with_reducible refine wpList_load_row (o := ⟨some 38, .load 33 (.tmp 4), _, _, _, _⟩) rfl 33 (.tmp 4) rfl (w.heap.size + 1) ?_ 33 Z.toArray (0, 0) _ hat5 Try.underlying33 rfl hxi ?_); exact rfl)
      | ((with_reducible refine wpList_load_row (o := ⟨some 43, .load 33 (.tmp 4), _, _, _, _⟩) rfl 33 (.tmp 4) rfl (w.heap.size + 1) ?_ 33 Z.toArray (0, 0) _ hat5 Try.underlying33 rfl hxi ?_); exact rfl)
      | ((with_reducible refine wpList_stored (o := ⟨none, .store 33 (.tmp 2) (.tmp 14), _, _, _, none⟩) rfl 33 (.tmp 2) (.tmp 14) rfl (.pointer (some ⟨w.heap.size, 0, none⟩)) (.agg Z.toArray) ?_ ?_ w6 hst6 ?_); exact rfl; exact rfl)
      | ((with_reducible refine wpList_stored (o := ⟨none, .store 33 (.tmp 2) (.tmp 18), _, _, _, none⟩) rfl 33 (.tmp 2) (.tmp 18) rfl (.pointer (some ⟨w.heap.size, 0, none⟩)) (.agg Z.toArray) ?_ ?_ w6 hst6 ?_); exact rfl; exact rfl)
      | ((with_reducible refine wpList_stored (o := ⟨none, .store 33 (.tmp 2) (.tmp 24), _, _, _, none⟩) rfl 33 (.tmp 2) (.tmp 24) rfl (.pointer (some ⟨w.heap.size, 0, none⟩)) (.agg Z.toArray) ?_ ?_ w6 hst6 ?_); exact rfl; exact rfl)
      | ((with_reducible refine wpList_stored (o := ⟨none, .store 33 (.tmp 2) (.tmp 33), _, _, _, none⟩) rfl 33 (.tmp 2) (.tmp 33) rfl (.pointer (some ⟨w.heap.size, 0, none⟩)) (.agg Z.toArray) ?_ ?_ w6 hst6 ?_); exact rfl; exact rfl)
      | ((with_reducible refine wpList_stored (o := ⟨none, .store 33 (.tmp 2) (.tmp 38), _, _, _, none⟩) rfl 33 (.tmp 2) (.tmp 38) rfl (.pointer (some ⟨w.heap.size, 0, none⟩)) (.agg Z.toArray) ?_ ?_ w6 hst6 ?_); exact rfl; exact rfl)
      | ((with_reducible refine wpList_stored (o := ⟨none, .store 33 (.tmp 2) (.tmp 43), _, _, _, none⟩) rfl 33 (.tmp 2) (.tmp 43) rfl (.pointer (some ⟨w.heap.size, 0, none⟩)) (.agg Z.toArray) ?_ ?_ w6 hst6 ?_); exact rfl; exact rfl)
      | (go_at_call 33; refine HG.out.mono ?_; rintro _ _ ⟨rfl, rfl⟩))
    exact bodyPost_ret (ret_hd (p := 2) (q := 3) (by kernel_rfl) rfl HT.out.1 Hd.zero_wide rfl) rfl ⟨by rw [hdV, ← HZ.out]; rfl, HT.out.2⟩
  · rw [if_neg h6] at hE
    exact absurd rfl hE
set_option maxRecDepth 100000 in
set_option maxHeartbeats 2000000 in
theorem rsxRead_good {A : Option Addr} {c : Nat} {l : List UInt8} {w : World} (hr : Rd w w.heap.size (.slice A l.length c) (cellsB l)) (hE : sxE1 l = 0) :
    Calls Try.prog 19 #[.slice A l.length c] w fun e w' => e = .returned (.tuple #[hdV (sxRead l), .int .i64 ((sxErr l : Nat) : Int)]) ∧ Below w.heap.size w w' := by
  have hz : ∀ w, (zeroValue 33).run Try.prog w = .ok (.agg (hdC Hd.zero).toArray) w := zero_hd
  have hbu : ∀ W, (Instr.build 33 #[]).run Try.prog W = .ok (.agg (hdC Hd.zero).toArray) W := build_hd0
  obtain ⟨w5, w6, w7, hst5, hst6, hsc5, hat5, hatg, hb5, hs5, HT6, hst7, HT7⟩ := rif_start w
  have hxi := info_hdA Hd.zero_wide
  have hln := hdC_length Hd.zero_wide
  have hr5 := (hr.below hb5).more (B' := w5.heap.size) (by omega)
  obtain ⟨g1, g2, g3, g4, g5⟩ := sxE1_no hE
  have hEr := sxErr_two hE
  have hRd0 : (sxErr l ≠ 0 → sxRead l = Hd.zero) ∧ (sxErr l = 0 → sxRead l = (sxWalk 8 (sxFirst l) (l.drop 40)).2) := ⟨fun h => by unfold sxRead; rw [if_neg h], fun h => by unfold sxRead; rw [if_pos h]⟩
  have hfw := sxFirst_wide g2
  have hlc : l.length ≤ c := by
    obtain ⟨_, _, e, hlc, _, _⟩ := hr.bytes
    injection e with e1 e2 e3
    omega
  obtain ⟨b, o, rfl, hbl, hc⟩ := hr.addr (by omega)
  have hcell : Hid (∀ W, Below w.heap.size w W → ∀ k, k < l.length → W.cell? ⟨b, o + k, none⟩ = some (.int .u8 ((l.getD k 0).toNat : Int))) := Lib.hid fun W hW k hk => by
    have := (hW.cell (p := ⟨b, o + k, none⟩) (by show b < w.heap.size; omega)).trans (hc k hk)
    rw [this, getD_cell hk]
  have hg := refGet_any _ _ l 4 2 w5 w5.heap.size hr5 (by omega) (by omega) (by omega)
  rw [ofBe_two l 4 (by omega)] at hg
  have hql := num2_lt l 4
  obtain ⟨q, hq⟩ : ∃ q, q = num2 l 4 := ⟨_, rfl⟩
  rw [← hq] at hg hql g4
  obtain ⟨m, hm⟩ : ∃ m, m = l.length := ⟨_, rfl⟩
  have c0 := hcell.out w5 hb5 0 (by omega)
  have c7 := hcell.out w5 hb5 7 (by omega)
  have c6 := hcell.out w5 hb5 6 (by omega)
  rw [Nat.add_zero] at c0
  obtain ⟨A1, hA1, kc1⟩ := cut_lh (P := Try.prog) (t := 22) Try.underlying22 (i := _) (e := 5) rfl rfl (some ⟨b, o, none⟩) l.length c 8 24 (by omega) (by omega) 8 24 rfl rfl
  obtain ⟨A2, hA2, kc2⟩ := cut_lh (P := Try.prog) (t := 22) Try.underlying22 (i := _) (e := 5) rfl rfl (some ⟨b, o, none⟩) l.length c 24 40 (by omega) (by omega) 24 40 rfl rfl
  have r1 := hr5.cut (lo := 8) (hi := 24) (by omega) (by omega)
  have r2 := hr5.cut (lo := 24) (hi := 40) (by omega) (by omega)
  rw [← hA1] at r1
  rw [← hA2] at r2
  rw [show ((cellsB l).take 24).drop 8 = cellsB ((l.drop 8).take 16) by rw [cellsB_take, cellsB_drop, List.drop_take]] at r1
  rw [show ((cellsB l).take 40).drop 24 = cellsB ((l.drop 24).take 16) by rw [cellsB_take, cellsB_drop, List.drop_take]] at r2
  obtain ⟨x1, hx1⟩ : ∃ x1, x1 = (l.drop 8).take 16 := ⟨_, rfl⟩
  obtain ⟨x2, hx2⟩ : ∃ x2, x2 = (l.drop 24).take 16 := ⟨_, rfl⟩
  have l1 : x1.length = 16 := by rw [hx1]; simp; omega
  have l2 : x2.length = 16 := by rw [hx2]; simp; omega
  rw [← hx1] at r1
  rw [← hx2] at r2
  rw [show 24 - 8 = x1.length by omega] at r1
  rw [show 40 - 24 = x2.length by omega] at r2
  obtain ⟨cc1, hcc1⟩ : ∃ y, y = c - 8 := ⟨_, rfl⟩
  obtain ⟨cc2, hcc2⟩ : ∃ y, y = c - 24 := ⟨_, rfl⟩
  rw [← hcc1] at kc1 r1
  rw [← hcc2] at kc2 r2
  obtain ⟨C1, hC1⟩ : ∃ C1, C1 = (adC (ad6 x1)).toArray := ⟨_, rfl⟩
  obtain ⟨C2, hC2⟩ : ∃ C2, C2 = (adC (ad6 x2)).toArray := ⟨_, rfl⟩
  have H1 : Hid (∀ W, Below w5.heap.size w5 W → Calls Try.prog 35 #[.slice A1 16 cc1] W fun e w' => e = .returned (.agg C1) ∧ Below W.heap.size W w') := Lib.hid fun W hW => by
    have := rsxOf_any (r1.below hW) hW.size l1
    rw [l1, adV, ← hC1] at this
    exact this
  have H2 : Hid (∀ W, Below w5.heap.size w5 W → Calls Try.prog 35 #[.slice A2 16 cc2] W fun e w' => e = .returned (.agg C2) ∧ Below W.heap.size W w') := Lib.hid fun W hW => by
    have := rsxOf_any (r2.below hW) hW.size l2
    rw [l2, adV, ← hC2] at this
    exact this
  obtain ⟨y6, hy6⟩ : ∃ y, y = l.getD 6 0 := ⟨_, rfl⟩
  obtain ⟨y7, hy7⟩ : ∃ y, y = l.getD 7 0 := ⟨_, rfl⟩
  have hH : sxFirst l = ⟨true, y6, 40, ad6 x1, ad6 x2, false, y7⟩ := by
    unfold sxFirst
    rw [hy6, hy7, hx1, hx2]
  have hbd := build_hd6 y6 40 (ad6 x1) (ad6 x2) (ad6_wide l1) (ad6_wide l2) y7
  rw [← hH, adV, adV, ← hC1, ← hC2] at hbd
  have hcS : Hid (∀ W, Below w5.heap.size w5 W → W.cell? ⟨b, o + 6, none⟩ = some (.int .u8 (y6.toNat : Int)) ∧ W.cell? ⟨b, o + 7, none⟩ = some (.int .u8 (y7.toNat : Int))) := Lib.hid fun W hW => by
    have hW2 : Below w.heap.size w W := hb5.trans (hW.mono (by omega))
    rw [hy6, hy7]
    exact ⟨hcell.out W hW2 6 (by omega), hcell.out W hW2 7 (by omega)⟩
  have hSt6 : Hid (∀ W g, w5.heap.size ≤ g → W.heap[g]? = some (.cells (hdC Hd.zero).toArray 33 (0, 0)) → Below w5.heap.size w5 W → ∃ W', (Instr.storeAt 33 (.pointer (some ⟨g, 0, none⟩)) (.agg (hdC (sxFirst l)).toArray)).run Try.prog W = .ok () W' ∧ Below w5.heap.size w5 W' ∧ SxSt w g l 0 (sxFirst l) 40 W') := Lib.hid fun W g hg hat hW => by
    obtain ⟨W', hst, hat', hgr, _⟩ := store_hd (w := W) (g := g) (a := Hd.zero) (b := sxFirst l) hat Hd.zero_wide hfw
    have hb' : Below w5.heap.size w5 W' := grown_below hW hgr hg
    exact ⟨W', hst, hb', hat', hfw, rfl, g2, hat5.below hb' (by omega), hatg.below hb' (by omega), hb5.trans (hb'.mono (by omega)), by omega, rfl⟩
  rw [← hy7] at c7 g5
  rw [← hy6] at c6
  obtain ⟨x, hx⟩ : ∃ x, x = l.getD 0 0 := ⟨_, rfl⟩
  rw [← hx] at c0 g3
  have hxl := x.toNat_lt
  obtain ⟨p, hp⟩ : ∃ p, p = x.toNat / 16 := ⟨_, rfl⟩
  have hpd : (x.toNat : Int).tdiv 16 = (p : Int) := by rw [Int.tdiv_eq_ediv_of_nonneg (by omega)]; omega
  have k3 : ((p : Int) % 256 != 6) = false := by simp; omega
  have k7 : ((y7.toNat : Int) == 0) = false := beq_zero g5
  have hqw : IntKind.i64.wrap (q : Int) = (q : Int) := IntWalk.i64_in _ (by omega)
  have hzw : IntKind.i64.wrap (40 + (q : Int)) = (m : Int) := by rw [IntWalk.i64_in _ (by omega)]; omega
  have n0 : (0 : Int) < (m : Int) := by omega
  have n7 : (7 : Int) < (m : Int) := by omega
  have n6 : (6 : Int) < (m : Int) := by omega
  have q1 : ¬ 2048 < m := by omega
  have q2 : ¬ m < 40 := by omega
  have hM := Lib.hid (And.intro hm g1)
  rw [← hm] at hg kc1 kc2
  have HG := Lib.hid hg
  rw [← hm]
  clear hg hr hr5 hc hbl hlc hx hp hxl hq hql hE g1 g2 g3 g4 g5 hatg HT6 HT7 hst6 hst7 hA1 hA2 r1 r2 hx1 hx2 l1 l2 hcc1 hcc2 hC1 hC2 hy6 hy7 hH hfw hb5 hat5 hm
  rw [hdV] at hbd
  obtain ⟨Z, hZ⟩ : ∃ Z, Z = hdC Hd.zero := ⟨_, rfl⟩
  rw [← hZ] at hz hbu hst5 hsc5 hSt6 hln hxi
  obtain ⟨D, hD⟩ : ∃ D, D = hdC (sxFirst l) := ⟨_, rfl⟩
  rw [← hD] at hbd hSt6
  have HZ := Lib.hid hZ
  clear hD hZ
  go_enter Try.func19, Try.ntmps19
  go_wp2_with (first
    | (with_reducible refine wpList_alloc_zero (o := ⟨some 2, .alloc 33, _, _, _, _⟩) rfl 33 rfl Z.toArray hz ?_)
    | (with_reducible refine wpList_alloc_zero (o := ⟨some 4, .alloc 33, _, _, _, _⟩) rfl 33 rfl Z.toArray hz ?_)
    | ((with_reducible refine wpList_stored (o := ⟨none, .store 33 (.tmp 4) (.tmp 10), _, _, _, none⟩) rfl 33 (.tmp 4) (.tmp 10) rfl (.pointer (some ⟨w.heap.size + 1, 0, none⟩)) (.agg Z.toArray) ?_ ?_ w5 hst5 ?_); exact rfl; exact rfl)
    | (go_at_call 33; refine HG.out.mono ?_; rintro _ _ ⟨rfl, rfl⟩))
  clear hst5 hsc5 c0 c6 c7 HG
  rename_i Q' q3 q4 K1 hK
  refine Code.wp_mono (Q := Exit.then (fun a' W => ∃ (g6 : Nat), a' = ⟨#[.slice (some ⟨b, o, none⟩) m c, a'.tmps.getD 1 undef, .pointer (some ⟨w.heap.size, 0, none⟩), .int .i64 0, .pointer (some ⟨w.heap.size + 1, 0, none⟩), .int .i64 (m : Int), .pointer (some ⟨g6, 0, none⟩), a'.tmps.getD 7 undef, a'.tmps.getD 8 undef, a'.tmps.getD 9 undef, a'.tmps.getD 10 undef, a'.tmps.getD 11 undef, a'.tmps.getD 12 undef, a'.tmps.getD 13 undef, a'.tmps.getD 14 undef, a'.tmps.getD 15 undef, a'.tmps.getD 16 undef, a'.tmps.getD 17 undef, a'.tmps.getD 18 undef, a'.tmps.getD 19 undef, a'.tmps.getD 20 undef, a'.tmps.getD 21 undef, a'.tmps.getD 22 undef, a'.tmps.getD 23 undef, a'.tmps.getD 24 undef, a'.tmps.getD 25 undef, a'.tmps.getD 26 undef, a'.tmps.getD 27 undef, a'.tmps.getD 28 undef, a'.tmps.getD 29 undef, a'.tmps.getD 30 undef, a'.tmps.getD 31 undef, a'.tmps.getD 32 undef, a'.tmps.getD 33 undef, a'.tmps.getD 34 undef, a'.tmps.getD 35 undef, a'.tmps.getD 36 undef, a'.tmps.getD 37 undef, a'.tmps.getD 38 undef, a'.tmps.getD 39 undef, a'.tmps.getD 40 undef, a'.tmps.getD 41 undef, a'.tmps.getD 42 undef, a'.tmps.getD 43 undef, a'.tmps.getD 44 undef, a'.tmps.getD 45 undef, a'.tmps.getD 46 undef, a'.tmps.getD 47 undef, a'.tmps.getD 48 undef, a'.tmps.getD 49 undef, a'.tmps.getD 50 undef, a'.tmps.getD 51 undef, a'.tmps.getD 52 undef, a'.tmps.getD 53 undef, a'.tmps.getD 54 undef, a'.tmps.getD 55 undef, a'.tmps.getD 56 undef, a'.tmps.getD 57 undef, a'.tmps.getD 58 undef, a'.tmps.getD 59 undef, a'.tmps.getD 60 undef, a'.tmps.getD 61 undef, a'.tmps.getD 62 undef, a'.tmps.getD 63 undef, a'.tmps.getD 64 undef, a'.tmps.getD 65 undef, a'.tmps.getD 66 undef, a'.tmps.getD 67 undef, a'.tmps.getD 68 undef, a'.tmps.getD 69 undef, a'.tmps.getD 70 undef, a'.tmps.getD 71 undef, a'.tmps.getD 72 undef, a'.tmps.getD 73 undef, a'.tmps.getD 74 undef, a'.tmps.getD 75 undef, a'.tmps.getD 76 undef, a'.tmps.getD 77 undef, a'.tmps.getD 78 undef, a'.tmps.getD 79 undef, a'.tmps.getD 80 undef, a'.tmps.getD 81 undef, a'.tmps.getD 82 undef, a'.tmps.getD 83 undef, a'.tmps.getD 84 undef, a'.tmps.getD 85 undef, a'.tmps.getD 86 undef, a'.tmps.getD 87 undef, a'.tmps.getD 88 undef, a'.tmps.getD 89 undef, a'.tmps.getD 90 undef, a'.tmps.getD 91 undef, a'.tmps.getD 92 undef, a'.tmps.getD 93 undef, a'.tmps.getD 94 undef, a'.tmps.getD 95 undef, a'.tmps.getD 96 undef, a'.tmps.getD 97 undef, a'.tmps.getD 98 undef, a'.tmps.getD 99 undef, a'.tmps.getD 100 undef, a'.tmps.getD 101 undef, a'.tmps.getD 102 undef, a'.tmps.getD 103 undef, a'.tmps.getD 104 undef, a'.tmps.getD 105 undef, a'.tmps.getD 106 undef, a'.tmps.getD 107 undef, a'.tmps.getD 108 undef, a'.tmps.getD 109 undef, a'.tmps.getD 110 undef, a'.tmps.getD 111 undef, a'.tmps.getD 112 undef, a'.tmps.getD 113 undef, a'.tmps.getD 114 undef, a'.tmps.getD 115 undef, a'.tmps.getD 116 undef, a'.tmps.getD 117 undef, a'.tmps.getD 118 undef, a'.tmps.getD 119 undef, a'.tmps.getD 120 undef, a'.tmps.getD 121 undef, a'.tmps.getD 122 undef, a'.tmps.getD 123 undef, a'.tmps.getD 124 undef, a'.tmps.getD 125 undef, a'.tmps.getD 126 undef, a'.tmps.getD 127 undef, a'.tmps.getD 128 undef, a'.tmps.getD 129 undef, a'.tmps.getD 130 undef, a'.tmps.getD 131 undef, a'.tmps.getD 132 undef, a'.tmps.getD 133 undef, a'.tmps.getD 134 undef, a'.tmps.getD 135 undef, a'.tmps.getD 136 undef, a'.tmps.getD 137 undef, a'.tmps.getD 138 undef, a'.tmps.getD 139 undef, a'.tmps.getD 140 undef, a'.tmps.getD 141 undef, a'.tmps.getD 142 undef, a'.tmps.getD 143 undef, a'.tmps.getD 144 undef], []⟩ ∧ Hid (SxSt w g6 l 0 (sxFirst l) 40 W)) Q') (fun e a' W h => ?_) ?jn
  case jn =>
    clear hK
    have HBL := Lib.hid (drew_self w5)
    refine wp_region_held_drew (S := fun w' => w'.cell? ⟨b, o + 6, none⟩ = some (.int .u8 (y6.toNat : Int)) ∧ w'.cell? ⟨b, o + 7, none⟩ = some (.int .u8 (y7.toNat : Int))) (by kernel_rfl) (hcS.out _ (drew_self w5)) (fun hHeld => ?_)
    refine th 0 ?_
    go_frame
    refine th 1 ?_
    go_frame
    refine th 2 (v := .int .u8 (y6.toNat : Int)) ?_ (hy := fun wy hSw => by (obtain ⟨s6, s7⟩ := hSw; go_simp <;> with_reducible rfl))
    go_frame
    refine th 3 ?_
    go_frame
    refine th 4 (v := .slice A1 16 cc1) ?_ (hy := fun wy hSw => by (obtain ⟨s6, s7⟩ := hSw; go_simp <;> with_reducible rfl))
    go_frame
    refine th 6 ?_
    go_frame
    refine th 7 (v := .slice A2 16 cc2) ?_ (hy := fun wy hSw => by (obtain ⟨s6, s7⟩ := hSw; go_simp <;> with_reducible rfl))
    go_frame
    refine th 9 ?_
    go_frame
    refine th 10 ?_
    go_frame
    refine th 11 (v := .int .u8 (y7.toNat : Int)) ?_ (hy := fun wy hSw => by (obtain ⟨s6, s7⟩ := hSw; go_simp <;> with_reducible rfl))
    go_frame
    refine wpAnyH_ready (rs := [5, 13]) (by kernel_rfl) (by simp) (AllReadyH.cons (o := ⟨some 49, .call { callee := .value (.func 35), args := #[.tmp 48], argTypes := #[22] }, _, _, _, none⟩) rfl (fun K hK => ?_) (AllReadyH.cons (o := ⟨some 6, .alloc 33, _, _, _, none⟩) rfl (fun K hK => ?_) AllReadyH.nil))
    · rw [if_pos (by kernel_rfl)]
      go_simp
      refine (H1.out _ HBL.out).mono ?_
      rintro _ wa ⟨rfl, hb⟩
      replace HBL := Lib.hid (up HBL.out hb)
      clear hb
      dsimp only
      refine hK.out _ _ (hcS.out _ HBL.out) (fun _ => ?_)
      clear hK K
      try go_frame
      refine wpAnyH_ready (rs := [8, 13]) (by kernel_rfl) (by simp) (AllReadyH.cons (o := ⟨some 52, .call { callee := .value (.func 35), args := #[.tmp 51], argTypes := #[22] }, _, _, _, none⟩) rfl (fun K hK => ?_) (AllReadyH.cons (o := ⟨some 6, .alloc 33, _, _, _, none⟩) rfl (fun K hK => ?_) AllReadyH.nil))
      · rw [if_pos (by kernel_rfl)]
        go_simp
        refine (H2.out _ HBL.out).mono ?_
        rintro _ wb ⟨rfl, hb⟩
        replace HBL := Lib.hid (up HBL.out hb)
        clear hb
        dsimp only
        refine hK.out _ _ (hcS.out _ HBL.out) (fun _ => ?_)
        clear hK K
        try go_frame
        refine th 12 (v := .agg D.toArray) ?_ (hy := fun wy hSw => by exact exec_bld6 (k1 := 0) (k2 := 1) (k3 := 2) (k4 := 3) (k5 := 4) (k6 := 6) (a1 := .const (.bool true)) (a2 := .tmp 46) (a3 := .const (.int .i64 40)) (a4 := .tmp 49) (a5 := .tmp 52) (a6 := .tmp 55) rfl (u1 := .bool true) (u2 := .int .u8 (y6.toNat : Int)) (u3 := .int .i64 40) (u4 := .agg C1) (u5 := .agg C2) (u6 := .int .u8 (y7.toNat : Int)) rfl rfl rfl rfl rfl rfl (hbd _))
        go_frame
        refine wpAnyH_ready (rs := [13]) (by kernel_rfl) (by simp) (AllReadyH.cons (o := ⟨some 6, .alloc 33, _, _, _, none⟩) rfl (fun K hK => ?_) AllReadyH.nil)
        rw [if_pos (by kernel_rfl)]
        refine wp_run (.pointer (some ⟨wb.heap.size, 0, none⟩)) _ (exec_allocZ rfl hz _) ?_
        have hb := up_alloc HBL.out (.cells Z.toArray 33)
        have ha := heap_alloc_last wb (.cells Z.toArray 33)
        obtain ⟨g6, hg6⟩ : ∃ g, g = wb.heap.size := ⟨_, rfl⟩
        have hle : w5.heap.size ≤ wb.heap.size := HBL.out.size
        rw [← hg6] at ha hle ⊢
        generalize wb.alloc (.cells Z.toArray 33) = wz at hb ha ⊢
        replace HBL := Lib.hid hb
        have HA6 := Lib.hid (And.intro ha hle)
        clear hb ha hle hg6
        refine hK.out _ _ (hcS.out _ HBL.out) (fun _ => ?_)
        clear hK K
        try go_frame
        refine wpAnyH_ready (rs := [14]) (by kernel_rfl) (by simp) (AllReadyH.cons (o := ⟨none, .store 33 (.tmp 6) (.tmp 56), _, _, _, none⟩) rfl (fun K hK => ?_) AllReadyH.nil)
        rw [if_pos (by kernel_rfl)]
        obtain ⟨w8, hst8, hb8, hS8⟩ := hSt6.out _ g6 HA6.out.2 HA6.out.1 HBL.out
        refine wp_skip w8 (exec_store rfl (vx := .pointer (some ⟨g6, 0, none⟩)) rfl (vy := .agg D.toArray) rfl hst8) ?_
        have HS8 := Lib.hid hS8
        have HB8 := Lib.hid hb8
        clear hst8 hb8 hS8 HA6
        refine hK.out _ _ (hcS.out _ HB8.out) (fun _ => ?_)
        clear hK K
        try go_frame
        refine wpAnyH_done (by kernel_rfl) ?_ _
        exact ⟨_, rfl, HS8⟩
      · rw [if_pos (by kernel_rfl)]
        refine wp_run (.pointer (some ⟨wa.heap.size, 0, none⟩)) _ (exec_allocZ rfl hz _) ?_
        have hb := up_alloc HBL.out (.cells Z.toArray 33)
        have ha := heap_alloc_last wa (.cells Z.toArray 33)
        obtain ⟨g6, hg6⟩ : ∃ g, g = wa.heap.size := ⟨_, rfl⟩
        have hle : w5.heap.size ≤ wa.heap.size := HBL.out.size
        rw [← hg6] at ha hle ⊢
        generalize wa.alloc (.cells Z.toArray 33) = wz at hb ha ⊢
        replace HBL := Lib.hid hb
        have HA6 := Lib.hid (And.intro ha hle)
        clear hb ha hle hg6
        refine hK.out _ _ (hcS.out _ HBL.out) (fun _ => ?_)
        clear hK K
        try go_frame
        refine wpAnyH_ready (rs := [8]) (by kernel_rfl) (by simp) (AllReadyH.cons (o := ⟨some 52, .call { callee := .value (.func 35), args := #[.tmp 51], argTypes := #[22] }, _, _, _, none⟩) rfl (fun K hK => ?_) AllReadyH.nil)
        rw [if_pos (by kernel_rfl)]
        go_simp
        refine (H2.out _ HBL.out).mono ?_
        rintro _ wb ⟨rfl, hb⟩
        replace HA6 := Lib.hid (And.intro ((hb.block _ (Array.getElem?_eq_some_iff.1 HA6.out.1).1).trans HA6.out.1) HA6.out.2)
        replace HBL := Lib.hid (up HBL.out hb)
        clear hb
        dsimp only
        refine hK.out _ _ (hcS.out _ HBL.out) (fun _ => ?_)
        clear hK K
        try go_frame
        refine th 12 (v := .agg D.toArray) ?_ (hy := fun wy hSw => by exact exec_bld6 (k1 := 0) (k2 := 1) (k3 := 2) (k4 := 3) (k5 := 4) (k6 := 6) (a1 := .const (.bool true)) (a2 := .tmp 46) (a3 := .const (.int .i64 40)) (a4 := .tmp 49) (a5 := .tmp 52) (a6 := .tmp 55) rfl (u1 := .bool true) (u2 := .int .u8 (y6.toNat : Int)) (u3 := .int .i64 40) (u4 := .agg C1) (u5 := .agg C2) (u6 := .int .u8 (y7.toNat : Int)) rfl rfl rfl rfl rfl rfl (hbd _))
        go_frame
        refine wpAnyH_ready (rs := [14]) (by kernel_rfl) (by simp) (AllReadyH.cons (o := ⟨none, .store 33 (.tmp 6) (.tmp 56), _, _, _, none⟩) rfl (fun K hK => ?_) AllReadyH.nil)
        rw [if_pos (by kernel_rfl)]
        obtain ⟨w8, hst8, hb8, hS8⟩ := hSt6.out _ g6 HA6.out.2 HA6.out.1 HBL.out
        refine wp_skip w8 (exec_store rfl (vx := .pointer (some ⟨g6, 0, none⟩)) rfl (vy := .agg D.toArray) rfl hst8) ?_
        have HS8 := Lib.hid hS8
        have HB8 := Lib.hid hb8
        clear hst8 hb8 hS8 HA6
        refine hK.out _ _ (hcS.out _ HB8.out) (fun _ => ?_)
        clear hK K
        try go_frame
        refine wpAnyH_done (by kernel_rfl) ?_ _
        exact ⟨_, rfl, HS8⟩
    · rw [if_pos (by kernel_rfl)]
      refine wp_run (.pointer (some ⟨w5.drew.heap.size, 0, none⟩)) _ (exec_allocZ rfl hz _) ?_
      have hb := up_alloc HBL.out (.cells Z.toArray 33)
      have ha := heap_alloc_last w5.drew (.cells Z.toArray 33)
      obtain ⟨g6, hg6⟩ : ∃ g, g = w5.drew.heap.size := ⟨_, rfl⟩
      have hle : w5.heap.size ≤ w5.drew.heap.size := HBL.out.size
      rw [← hg6] at ha hle ⊢
      generalize w5.drew.alloc (.cells Z.toArray 33) = wz at hb ha ⊢
      replace HBL := Lib.hid hb
      have HA6 := Lib.hid (And.intro ha hle)
      clear hb ha hle hg6
      refine hK.out _ _ (hcS.out _ HBL.out) (fun _ => ?_)
      clear hK K
      try go_frame
      refine wpAnyH_ready (rs := [5]) (by kernel_rfl) (by simp) (AllReadyH.cons (o := ⟨some 49, .call { callee := .value (.func 35), args := #[.tmp 48], argTypes := #[22] }, _, _, _, none⟩) rfl (fun K hK => ?_) AllReadyH.nil)
      rw [if_pos (by kernel_rfl)]
      go_simp
      refine (H1.out _ HBL.out).mono ?_
      rintro _ wa ⟨rfl, hb⟩
      replace HA6 := Lib.hid (And.intro ((hb.block _ (Array.getElem?_eq_some_iff.1 HA6.out.1).1).trans HA6.out.1) HA6.out.2)
      replace HBL := Lib.hid (up HBL.out hb)
      clear hb
      dsimp only
      refine hK.out _ _ (hcS.out _ HBL.out) (fun _ => ?_)
      clear hK K
      try go_frame
      refine wpAnyH_ready (rs := [8]) (by kernel_rfl) (by simp) (AllReadyH.cons (o := ⟨some 52, .call { callee := .value (.func 35), args := #[.tmp 51], argTypes := #[22] }, _, _, _, none⟩) rfl (fun K hK => ?_) AllReadyH.nil)
      rw [if_pos (by kernel_rfl)]
      go_simp
      refine (H2.out _ HBL.out).mono ?_
      rintro _ wb ⟨rfl, hb⟩
      replace HA6 := Lib.hid (And.intro ((hb.block _ (Array.getElem?_eq_some_iff.1 HA6.out.1).1).trans HA6.out.1) HA6.out.2)
      replace HBL := Lib.hid (up HBL.out hb)
      clear hb
      dsimp only
      refine hK.out _ _ (hcS.out _ HBL.out) (fun _ => ?_)
      clear hK K
      try go_frame
      refine th 12 (v := .agg D.toArray) ?_ (hy := fun wy hSw => by exact exec_bld6 (k1 := 0) (k2 := 1) (k3 := 2) (k4 := 3) (k5 := 4) (k6 := 6) (a1 := .const (.bool true)) (a2 := .tmp 46) (a3 := .const (.int .i64 40)) (a4 := .tmp 49) (a5 := .tmp 52) (a6 := .tmp 55) rfl (u1 := .bool true) (u2 := .int .u8 (y6.toNat : Int)) (u3 := .int .i64 40) (u4 := .agg C1) (u5 := .agg C2) (u6 := .int .u8 (y7.toNat : Int)) rfl rfl rfl rfl rfl rfl (hbd _))
      go_frame
      refine wpAnyH_ready (rs := [14]) (by kernel_rfl) (by simp) (AllReadyH.cons (o := ⟨none, .store 33 (.tmp 6) (.tmp 56), _, _, _, none⟩) rfl (fun K hK => ?_) AllReadyH.nil)
      rw [if_pos (by kernel_rfl)]
      obtain ⟨w8, hst8, hb8, hS8⟩ := hSt6.out _ g6 HA6.out.2 HA6.out.1 HBL.out
      refine wp_skip w8 (exec_store rfl (vx := .pointer (some ⟨g6, 0, none⟩)) rfl (vy := .agg D.toArray) rfl hst8) ?_
      have HS8 := Lib.hid hS8
      have HB8 := Lib.hid hb8
      clear hst8 hb8 hS8 HA6
      refine hK.out _ _ (hcS.out _ HB8.out) (fun _ => ?_)
      clear hK K
      try go_frame
      refine wpAnyH_done (by kernel_rfl) ?_ _
      exact ⟨_, rfl, HS8⟩
  cases e
  all_goals try exact h
  obtain ⟨g6, e1, HS0⟩ := h
  obtain ⟨g, hg⟩ : ∃ g : Nat → Value, ∀ k, g k = a'.tmps.getD k undef := ⟨_, fun _ => rfl⟩
  simp only [← hg] at e1
  clear hg
  subst e1
  clear hcS hSt6 H1 H2 hbd kc1 kc2 hzw hqw hpd k3 k7 n6 n7 n0 q1 q2
  go_wp2_with fail
  go_loopw [7] (fun iv wr => ∃ (n : Nat) (h' : Hd) (p : Nat), n ≤ 8 ∧ iv = .int .i64 (n : Int) ∧ Hid (SxSt w g6 l n h' p wr)) (fun iv _ => 9 - (intOf iv).toNat)
  case atStart => exact ⟨0, sxFirst l, 40, by omega, rfl, HS0⟩
  case round =>
    obtain ⟨n, h', p, hn8, rfl, HS⟩ := hrel
    clear HS0
    have c1 := hdC_proto HS.out.cur
    have c2 := hdC_two HS.out.cur
    rw [HS.out.pos] at c2
    have c37 := hdC_part HS.out.wide HS.out.cur
    have hbt := Lib.hid (fun W => rsxBetween_any h'.proto W)
    have hn9 : (n : Int) < 9 := by omega
    have hcur : wr.heap[g6]? = some (.cells (hdC h').toArray 33 (0, 0)) := HS.out.cur
    have hnon : wr.heap[w.heap.size + 1]? = some (.cells Z.toArray 33 (0, 0)) := by rw [HZ.out]; exact HS.out.none4
    obtain ⟨wz, hstz0, hatz, hbz⟩ := HS.out.end_ Hd.zero_wide
    have hstz : (Instr.storeAt 33 (.pointer (some ⟨w.heap.size, 0, none⟩)) (.agg Z.toArray)).run Try.prog wr = .ok () wz := by rw [HZ.out]; exact hstz0
    have HTz := Lib.hid (And.intro hatz hbz)
    clear hstz0 hatz hbz
    by_cases hs : stands h'.proto = true
    · rw [hs] at hbt
      by_cases hn : n = 8
      · subst hn
        have hE : sxErr l = 10 := by
          rw [hEr, ← HS.out.walk, show 8 - 8 = 0 from rfl]
          unfold sxWalk
          rw [if_pos hs]
        have hR := hRd0.1 (by omega)
        have HER := Lib.hid (And.intro hE hR)
        clear hEr hRd0 hE hR hs
        go_wp2_with (first
          | (go_at_call 36; refine (hbt.out _).mono ?_; rintro _ w1 ⟨rfl, rfl⟩)
          | ((with_reducible refine wpList_load_row (o := ⟨some 68, .load 33 (.tmp 4), _, _, _, _⟩) rfl 33 (.tmp 4) rfl (w.heap.size + 1) ?_ 33 Z.toArray (0, 0) _ hnon Try.underlying33 rfl hxi ?_); exact rfl)
          | ((with_reducible refine wpList_stored (o := ⟨none, .store 33 (.tmp 2) (.tmp 68), _, _, _, none⟩) rfl 33 (.tmp 2) (.tmp 68) rfl (.pointer (some ⟨w.heap.size, 0, none⟩)) (.agg Z.toArray) ?_ ?_ wz hstz ?_); exact rfl; exact rfl))
        exact bodyPost_ret (ret_hd (p := 2) (q := 3) (by kernel_rfl) rfl HTz.out.1 Hd.zero_wide rfl) rfl ⟨by rw [HER.out.1, HER.out.2, hdV]; rfl, HTz.out.2⟩
      · have kn8 : ((n : Int) == 8) = false := by simp; omega
        have hj : ∃ j, 8 - n = j + 1 ∧ (j < 7 ↔ 0 < n) ∧ j = 8 - (n + 1) := ⟨7 - n, by omega, by omega, by omega⟩
        obtain ⟨j, hj1, hj2, hj3⟩ := hj
        by_cases hz0 : h'.proto = 0 ∧ 0 < n
        · have hE : sxErr l = 4 := by
            rw [hEr, ← HS.out.walk, hj1]
            unfold sxWalk
            rw [if_pos hs, if_pos ⟨hz0.1, hj2.2 hz0.2⟩]
          have hR := hRd0.1 (by omega)
          have HER := Lib.hid (And.intro hE hR)
          obtain ⟨hz1, hz2⟩ := hz0
          rw [hz1] at c1 hbt
          have hn0 : (0 : Int) < (n : Int) := by omega
          clear hEr hRd0 hE hR hs hn hj1 hj2 hj3 hz1
          go_wp2_with (first
            | (go_at_call 36; refine (hbt.out _).mono ?_; rintro _ w1 ⟨rfl, rfl⟩)
            | ((with_reducible refine wpList_load_row (o := ⟨some 76, .load 33 (.tmp 4), _, _, _, _⟩) rfl 33 (.tmp 4) rfl (w.heap.size + 1) ?_ 33 Z.toArray (0, 0) _ hnon Try.underlying33 rfl hxi ?_); exact rfl)
            | ((with_reducible refine wpList_stored (o := ⟨none, .store 33 (.tmp 2) (.tmp 76), _, _, _, none⟩) rfl 33 (.tmp 2) (.tmp 76) rfl (.pointer (some ⟨w.heap.size, 0, none⟩)) (.agg Z.toArray) ?_ ?_ wz hstz ?_); exact rfl; exact rfl))
          exact bodyPost_ret (ret_hd (p := 2) (q := 3) (by kernel_rfl) rfl HTz.out.1 Hd.zero_wide rfl) rfl ⟨by rw [HER.out.1, HER.out.2, hdV]; rfl, HTz.out.2⟩
        · have hstep : Hid (sxPassE h'.proto (l.drop p) ≠ 0 → sxErr l = 9) := Lib.hid fun hne => by
            rw [hEr, ← HS.out.walk, hj1]
            unfold sxWalk
            rw [if_pos hs, if_neg (fun hc => hz0 ⟨hc.1, hj2.1 hc.2⟩), if_pos hne]
          have hnext : Hid (sxPassE h'.proto (l.drop p) = 0 → sxWalk (8 - (n + 1)) (sxNext h' (l.drop p)) (l.drop (p + sxSize h'.proto (l.drop p))) = sxWalk 8 (sxFirst l) (l.drop 40)) := Lib.hid fun he => by
            rw [← HS.out.walk, hj1, ← hj3]
            conv => rhs; unfold sxWalk
            rw [if_pos hs, if_neg (fun hc => hz0 ⟨hc.1, hj2.1 hc.2⟩), if_neg (by omega), List.drop_drop]
          have hpm : p ≤ m := by rw [hM.out.1]; exact HS.out.le
          have hm2 : m ≤ 2048 := by rw [hM.out.1]; exact hM.out.2
          have hrl : (l.drop p).length = m - p := by rw [List.length_drop, hM.out.1]
          have hsub : IntKind.i64.wrap ((m : Int) - (p : Int)) = ((m - p : Nat) : Int) := by rw [IntWalk.i64_in _ (by omega)]; omega
          have kz : (h'.proto = 0 ∧ ((h'.proto.toNat : Int) == 0) = true ∧ ¬ (0 : Int) < (n : Int)) ∨ ((h'.proto.toNat : Int) == 0) = false := by
            by_cases hp0 : h'.proto = 0
            · exact .inl ⟨hp0, by rw [hp0]; rfl, by have : ¬ 0 < n := fun h => hz0 ⟨hp0, h⟩; omega⟩
            · exact .inr (beq_u8 (k := 0) (toNat_ne hp0))
          obtain ⟨d, hd⟩ : ∃ d, d = m - p := ⟨_, rfl⟩
          rw [← hd] at hsub hrl
          have hn7 : n < 8 := by omega
          clear hs hn hj1 hj2 hj3 hz0
          by_cases h8 : d < 8
          · have hE := hstep.out (by unfold sxPassE; rw [if_pos (.inl (by omega))]; decide)
            have hR := hRd0.1 (by omega)
            have HER := Lib.hid (And.intro hE hR)
            clear hEr hRd0 hE hR hstep hnext hd hpm hm2 hrl
            rcases kz with ⟨hp0, kz1, kz2⟩ | kz
            · rw [hp0] at c1 hbt
              clear kz1
              go_wp2_with (first
                | (go_at_call 36; refine (hbt.out _).mono ?_; rintro _ w1 ⟨rfl, rfl⟩)
                | ((with_reducible refine wpList_load_row (o := ⟨some 83, .load 33 (.tmp 4), _, _, _, _⟩) rfl 33 (.tmp 4) rfl (w.heap.size + 1) ?_ 33 Z.toArray (0, 0) _ hnon Try.underlying33 rfl hxi ?_); exact rfl)
                | ((with_reducible refine wpList_stored (o := ⟨none, .store 33 (.tmp 2) (.tmp 83), _, _, _, none⟩) rfl 33 (.tmp 2) (.tmp 83) rfl (.pointer (some ⟨w.heap.size, 0, none⟩)) (.agg Z.toArray) ?_ ?_ wz hstz ?_); exact rfl; exact rfl))
              exact bodyPost_ret (ret_hd (p := 2) (q := 3) (by kernel_rfl) rfl HTz.out.1 Hd.zero_wide rfl) rfl ⟨by rw [HER.out.1, HER.out.2, hdV]; rfl, HTz.out.2⟩
            · skip
              go_wp2_with (first
                | (go_at_call 36; refine (hbt.out _).mono ?_; rintro _ w1 ⟨rfl, rfl⟩)
                | ((with_reducible refine wpList_load_row (o := ⟨some 83, .load 33 (.tmp 4), _, _, _, _⟩) rfl 33 (.tmp 4) rfl (w.heap.size + 1) ?_ 33 Z.toArray (0, 0) _ hnon Try.underlying33 rfl hxi ?_); exact rfl)
                | ((with_reducible refine wpList_stored (o := ⟨none, .store 33 (.tmp 2) (.tmp 83), _, _, _, none⟩) rfl 33 (.tmp 2) (.tmp 83) rfl (.pointer (some ⟨w.heap.size, 0, none⟩)) (.agg Z.toArray) ?_ ?_ wz hstz ?_); exact rfl; exact rfl))
              exact bodyPost_ret (ret_hd (p := 2) (q := 3) (by kernel_rfl) rfl HTz.out.1 Hd.zero_wide rfl) rfl ⟨by rw [HER.out.1, HER.out.2, hdV]; rfl, HTz.out.2⟩
          · have h8i : ¬ (d : Int) < 8 := by omega
            have c1b := hcell.out wr HS.out.bel (p + 1) (by rw [← hM.out.1]; omega)
            have c0b := hcell.out wr HS.out.bel (p + 0) (by rw [← hM.out.1]; omega)
            have gd : ∀ k, (l.drop p).getD k 0 = l.getD (p + k) 0 := fun k => by simp [List.getD_eq_getElem?_getD, List.getElem?_drop]
            have gd0 := gd 0
            have gd1 := gd 1
            obtain ⟨x0, hx0⟩ : ∃ y, y = l.getD (p + 0) 0 := ⟨_, rfl⟩
            obtain ⟨x1, hx1⟩ : ∃ y, y = l.getD (p + 1) 0 := ⟨_, rfl⟩
            rw [← hx0] at c0b gd0
            rw [← hx1] at c1b gd1
            rw [Nat.add_zero] at c0b
            have hx1l := x1.toNat_lt
            have hw1 : IntKind.i64.wrap ((p : Int) + 1) = ((p + 1 : Nat) : Int) := by rw [IntWalk.i64_in _ (by omega)]; omega
            have hlt0 : (p : Int) < (m : Int) := by omega
            have hlt1 : ((p + 1 : Nat) : Int) < (m : Int) := by omega
            have hcx : IntKind.i64.wrap (x1.toNat : Int) = (x1.toNat : Int) := IntWalk.i64_in _ (by omega)
            have hw8 : IntKind.i64.wrap (8 * (x1.toNat : Int)) = ((8 * x1.toNat : Nat) : Int) := by rw [IntWalk.i64_in _ (by omega)]; omega
            obtain ⟨s1, hs1⟩ : ∃ y, y = 8 * x1.toNat := ⟨_, rfl⟩
            rw [← hs1] at hw8
            have hw88 : IntKind.i64.wrap (8 + (s1 : Int)) = ((8 + s1 : Nat) : Int) := by rw [IntWalk.i64_in _ (by omega)]; omega
            obtain ⟨s2, hs2⟩ : ∃ y, y = 8 + s1 := ⟨_, rfl⟩
            rw [← hs2] at hw88
            obtain ⟨p1, hp1⟩ : ∃ y, y = p + 1 := ⟨_, rfl⟩
            rw [← hp1] at hw1 hlt1 c1b
            have hS27 : Hid (wr.cell? ⟨g6, 2, none⟩ = some (.int .i64 (p : Int)) ∧ wr.cell? ⟨b, o + p1, none⟩ = some (.int .u8 (x1.toNat : Int))) := Lib.hid ⟨c2, c1b⟩
            have hBy : Hid (∀ W', wr.grownBy W' (some g6) → W'.cell? ⟨b, o + p, none⟩ = some (.int .u8 (x0.toNat : Int))) := Lib.hid fun W' hg => by
              have := hcell.out W' (grown_below HS.out.bel hg (by have := HS.out.new; omega)) (p + 0) (by rw [← hM.out.1]; omega)
              rw [← hx0] at this
              exact this
            have f1 := HS.out.cur.free 1
            have f2 := HS.out.cur.free 2
            have f37 := HS.out.cur.free 37
            by_cases h44 : h'.proto = 44
            · have hsz : sxSize h'.proto (l.drop p) = 8 := by unfold sxSize; rw [if_pos h44]
              have hPE : sxPassE h'.proto (l.drop p) = 0 := by unfold sxPassE; rw [hsz, if_neg (by omega)]
              have hnx := hnext.out hPE
              rw [hsz] at hnx
              have hw2 : IntKind.i64.wrap ((p : Int) + 2) = ((p + 2 : Nat) : Int) := by rw [IntWalk.i64_in _ (by omega)]; omega
              have hw3 : IntKind.i64.wrap ((p : Int) + 3) = ((p + 3 : Nat) : Int) := by rw [IntWalk.i64_in _ (by omega)]; omega
              have hwn : IntKind.i64.wrap ((p : Int) + 8) = ((p + 8 : Nat) : Int) := by rw [IntWalk.i64_in _ (by omega)]; omega
              have c2b := hcell.out wr HS.out.bel (p + 2) (by rw [← hM.out.1]; omega)
              have c3b := hcell.out wr HS.out.bel (p + 3) (by rw [← hM.out.1]; omega)
              have gd2 := gd 2
              have gd3 := gd 3
              obtain ⟨x2, hx2⟩ : ∃ y, y = l.getD (p + 2) 0 := ⟨_, rfl⟩
              obtain ⟨x3, hx3⟩ : ∃ y, y = l.getD (p + 3) 0 := ⟨_, rfl⟩
              rw [← hx2] at c2b gd2
              rw [← hx3] at c3b gd3
              have hx2l := x2.toNat_lt
              have hx3l := x3.toNat_lt
              have hcx2 : IntKind.i64.wrap (x2.toNat : Int) = (x2.toNat : Int) := IntWalk.i64_in _ (by omega)
              have hcx3 : IntKind.i64.wrap (x3.toNat : Int) = (x3.toNat : Int) := IntWalk.i64_in _ (by omega)
              have hm2x : IntKind.i64.wrap ((x2.toNat : Int) * 256) = ((x2.toNat * 256 : Nat) : Int) := by rw [IntWalk.i64_in _ (by omega)]; omega
              obtain ⟨u, hu⟩ : ∃ y, y = x2.toNat * 256 := ⟨_, rfl⟩
              rw [← hu] at hm2x
              have hadd : IntKind.i64.wrap ((u : Int) + (x3.toNat : Int)) = ((u + x3.toNat : Nat) : Int) := by rw [IntWalk.i64_in _ (by omega)]; omega
              obtain ⟨K, hKd⟩ : ∃ y, y = u + x3.toNat := ⟨_, rfl⟩
              rw [← hKd] at hadd
              have hbits : sxBits (l.drop p) = decide (K / 8 ≠ 0 ∨ K % 2 = 1) := by
                unfold sxBits num2
                rw [gd2, gd3, hKd, hu]
              have hKq : (K : Int).tdiv 8 = ((K / 8 : Nat) : Int) := by rw [Int.tdiv_eq_ediv_of_nonneg (by omega)]; rfl
              have hKr : (K : Int).tmod 2 = ((K % 2 : Nat) : Int) := by rw [Int.tmod_eq_emod_of_nonneg (by omega)]; rfl
              obtain ⟨Kq, hKq2⟩ : ∃ y, y = K / 8 := ⟨_, rfl⟩
              obtain ⟨Kr, hKr2⟩ : ∃ y, y = K % 2 := ⟨_, rfl⟩
              rw [← hKq2] at hKq hbits
              rw [← hKr2] at hKr hbits
              have hKqw : IntKind.i64.wrap (Kq : Int) = (Kq : Int) := IntWalk.i64_in _ (by omega)
              have hlt2 : ((p + 2 : Nat) : Int) < (m : Int) := by omega
              have hlt3 : ((p + 3 : Nat) : Int) < (m : Int) := by omega
              obtain ⟨p2, hp2⟩ : ∃ y, y = p + 2 := ⟨_, rfl⟩
              obtain ⟨p3, hp3⟩ : ∃ y, y = p + 3 := ⟨_, rfl⟩
              obtain ⟨pn, hpn⟩ : ∃ y, y = p + 8 := ⟨_, rfl⟩
              rw [← hp2] at hw2 hlt2 c2b
              rw [← hp3] at hw3 hlt3 c3b
              rw [← hpn] at hwn hnx
              have hS30 : Hid (wr.cell? ⟨g6, 2, none⟩ = some (.int .i64 (p : Int)) ∧ wr.cell? ⟨b, o + p2, none⟩ = some (.int .u8 (x2.toNat : Int)) ∧ wr.cell? ⟨b, o + p3, none⟩ = some (.int .u8 (x3.toNat : Int))) := Lib.hid ⟨c2, c2b, c3b⟩
              have hFin : Hid (∀ b' : Bool, b' = (h'.part || sxBits (l.drop p)) → SxSt w g6 l (n + 1) (sxNext h' (l.drop p)) pn (((wr.setCell ⟨g6, 37, none⟩ (.bool b')).setCell ⟨g6, 1, none⟩ (.int .u8 (x0.toNat : Int))).setCell ⟨g6, 2, none⟩ (.int .i64 (pn : Int)))) := Lib.hid fun b' hb' => by
                obtain ⟨n1, n2⟩ := (HS.out.cur.parted HS.out.wide b').next x0 (pn : Int)
                have e : sxNext h' (l.drop p) = ⟨h'.six, x0, (pn : Int), h'.src, h'.dst, b', h'.hops⟩ := by
                  unfold sxNext
                  rw [hsz, gd0, HS.out.pos, hpn, hb', decide_eq_true h44]
                  rfl
                rw [e] at hnx ⊢
                exact HS.out.keep (grown_two (grown_one _ _ _ _) n2) n1 HS.out.wide rfl (by rw [← hM.out.1]; omega) hnx
              have hBy37 : Hid (∀ b' : Bool, (wr.setCell ⟨g6, 37, none⟩ (.bool b')).cell? ⟨b, o + p, none⟩ = some (.int .u8 (x0.toNat : Int)) ∧ ((wr.setCell ⟨g6, 37, none⟩ (.bool b')).setCell ⟨g6, 1, none⟩ (.int .u8 (x0.toNat : Int))).cell? ⟨b, o + p, none⟩ = some (.int .u8 (x0.toNat : Int)) ∧ (((wr.setCell ⟨g6, 37, none⟩ (.bool b')).setCell ⟨g6, 1, none⟩ (.int .u8 (x0.toNat : Int))).setCell ⟨g6, 2, none⟩ (.int .i64 (pn : Int))).cell? ⟨b, o + p, none⟩ = some (.int .u8 (x0.toNat : Int))) := Lib.hid fun b' => ⟨hBy.out _ (grown_one _ _ _ _), hBy.out _ (grown_two (grown_one _ _ _ _) (grown_one _ _ _ _)), hBy.out _ (grown_two (grown_two (grown_one _ _ _ _) (grown_one _ _ _ _)) (grown_one _ _ _ _))⟩
              have hq37 : Hid (∀ b' : Bool, (wr.setCell ⟨g6, 37, none⟩ (.bool b')).cell? ⟨g6, 2, none⟩ = some (.int .i64 (p : Int)) ∧ (wr.setCell ⟨g6, 37, none⟩ (.bool b')).frozen? ⟨g6, 1, none⟩ = false ∧ (wr.setCell ⟨g6, 37, none⟩ (.bool b')).frozen? ⟨g6, 2, none⟩ = false ∧ (wr.setCell ⟨g6, 37, none⟩ (.bool b')).cell? ⟨g6, 1, none⟩ = some (.int .u8 44)) := Lib.hid fun b' => by
                have hp' := HS.out.cur.parted HS.out.wide b'
                have e2 := hdC_two hp'
                have e1 := hdC_proto hp'
                rw [show (⟨h'.six, h'.proto, h'.pos, h'.src, h'.dst, b', h'.hops⟩ : Hd).pos = (p : Int) from HS.out.pos] at e2
                rw [show (⟨h'.six, h'.proto, h'.pos, h'.src, h'.dst, b', h'.hops⟩ : Hd).proto = 44 from h44] at e1
                exact ⟨e2, hp'.free 1, hp'.free 2, e1⟩
              have kz0 : ((h'.proto.toNat : Int) == 0) = false := by rw [h44]; rfl
              rw [h44] at c1 hbt
              have h8n : ¬ (d : Int) < 8 := h8i
              generalize sxBits (l.drop p) = β at hbits hFin
              generalize h'.part = α at c37 hFin
              clear kz hnext hstep hEr hRd0 hnx hPE hsz h44 hpm hm2 hrl hd gd gd0 gd1 gd2 gd3 hx0 hx1 hx2 hx3 hx1l hx2l hx3l hp1 hp2 hp3 hpn hs1 hs2 hu hKd hKq2 hKr2 h8 c0b c2b c3b hS27 kz0
              cases α with
              | true =>
                clear hbits hKq hKr hKqw
                obtain ⟨v2, v1, v3, v4⟩ := hq37.out true
                have c0b := (hBy37.out true).1
                have HFN := Lib.hid (hFin.out true rfl)
                clear hFin hq37 hstz hnon hcur HTz c0b
                go_wp2_with (first
                  | (go_at_call 36; refine (hbt.out _).mono ?_; rintro _ w1 ⟨rfl, rfl⟩))
                refine wp_region_held_drew (S := fun w' => w'.cell? ⟨g6, 2, none⟩ = some (.int .i64 (p : Int)) ∧ w'.cell? ⟨b, o + p2, none⟩ = some (.int .u8 (x2.toNat : Int)) ∧ w'.cell? ⟨b, o + p3, none⟩ = some (.int .u8 (x3.toNat : Int))) (by kernel_rfl) hS30.out (fun hHeld => ?_)
                refine th 0 ?_
                go_frame
                refine th 1 ?_
                go_frame
                refine th 2 (v := .int .i64 (p : Int)) ?_ (hy := fun wy hSw => by (obtain ⟨t1, t2, t3⟩ := hSw; go_simp <;> with_reducible rfl))
                go_frame
                refine th 3 (v := .int .i64 (p2 : Int)) ?_ (hy := fun wy hSw => by (go_simp <;> with_reducible rfl))
                go_frame
                refine th 4 (v := .pointer (some ⟨b, o + p2, none⟩)) ?_ (hy := fun wy hSw => by (go_simp <;> with_reducible rfl))
                go_frame
                refine th 5 (v := .int .u8 (x2.toNat : Int)) ?_ (hy := fun wy hSw => by (obtain ⟨t1, t2, t3⟩ := hSw; go_simp <;> with_reducible rfl))
                go_frame
                refine th 6 (v := .int .i64 (x2.toNat : Int)) ?_ (hy := fun wy hSw => by (go_simp <;> with_reducible rfl))
                go_frame
                refine th 7 (v := .int .i64 (u : Int)) ?_ (hy := fun wy hSw => by (go_simp <;> with_reducible rfl))
                go_frame
                refine th 8 ?_
                go_frame
                refine th 9 ?_
                go_frame
                refine th 10 (v := .int .i64 (p : Int)) ?_ (hy := fun wy hSw => by (obtain ⟨t1, t2, t3⟩ := hSw; go_simp <;> with_reducible rfl))
                go_frame
                refine th 11 (v := .int .i64 (p3 : Int)) ?_ (hy := fun wy hSw => by (go_simp <;> with_reducible rfl))
                go_frame
                refine th 12 (v := .pointer (some ⟨b, o + p3, none⟩)) ?_ (hy := fun wy hSw => by (go_simp <;> with_reducible rfl))
                go_frame
                refine th 13 (v := .int .u8 (x3.toNat : Int)) ?_ (hy := fun wy hSw => by (obtain ⟨t1, t2, t3⟩ := hSw; go_simp <;> with_reducible rfl))
                go_frame
                refine th 14 (v := .int .i64 (x3.toNat : Int)) ?_ (hy := fun wy hSw => by (go_simp <;> with_reducible rfl))
                go_frame
                refine th 15 (v := .int .i64 (K : Int)) ?_ (hy := fun wy hSw => by (go_simp <;> with_reducible rfl))
                go_frame
                refine th 16 ?_
                go_frame
                refine wpAnyH_done (by kernel_rfl) ?_ _
                go_wp2_with fail
                refine wp_region_held_drew (S := fun w' => w'.cell? ⟨b, o + p, none⟩ = some (.int .u8 (x0.toNat : Int))) (by kernel_rfl) (hBy37.out true).1 (fun hHeld => ?_)
                refine th 0 ?_
                go_frame
                refine th 1 ?_
                go_frame
                refine th 5 ?_
                go_frame
                refine th 7 ?_
                go_frame
                refine wpAnyH_ready (rs := [2, 6]) (by kernel_rfl) (by simp) (AllReadyH.cons (o := ⟨some 135, .load 3 (.tmp 134), _, _, _, none⟩) rfl (fun K hK => ?_) (AllReadyH.cons (o := ⟨some 139, .load 3 (.tmp 138), _, _, _, none⟩) rfl (fun K hK => ?_) AllReadyH.nil))
                · rw [if_pos (by kernel_rfl)]
                  go_simp
                  refine hK.out _ _ ((hBy37.out true).1) (fun _ => ?_)
                  clear hK K
                  try go_frame
                  refine th 3 (v := .pointer (some ⟨b, o + p, none⟩)) ?_ (hy := fun wy hSw => by (go_simp <;> with_reducible rfl))
                  go_frame
                  refine th 4 (v := .int .u8 (x0.toNat : Int)) ?_ (hy := fun wy hSw => by (go_simp <;> with_reducible rfl))
                  go_frame
                  refine wpAnyH_ready (rs := [6]) (by kernel_rfl) (by simp) (AllReadyH.cons (o := ⟨some 139, .load 3 (.tmp 138), _, _, _, none⟩) rfl (fun K hK => ?_) AllReadyH.nil)
                  rw [if_pos (by kernel_rfl)]
                  go_simp
                  refine hK.out _ _ ((hBy37.out true).1) (fun _ => ?_)
                  clear hK K
                  try go_frame
                  refine th 8 (v := .int .i64 (pn : Int)) ?_ (hy := fun wy hSw => by (go_simp <;> with_reducible rfl))
                  go_frame
                  refine th 9 ?_
                  go_frame
                  refine wpAnyH_ready (rs := [10]) (by kernel_rfl) (by simp) (AllReadyH.cons (o := ⟨none, .store 5 (.tmp 142) (.tmp 137), _, _, _, none⟩) rfl (fun K hK => ?_) AllReadyH.nil)
                  rw [if_pos (by kernel_rfl)]
                  go_simp
                  refine hK.out _ _ ((hBy37.out true).2.1) (fun _ => ?_)
                  clear hK K
                  try go_frame
                  refine th 11 ?_
                  go_frame
                  refine wpAnyH_ready (rs := [12]) (by kernel_rfl) (by simp) (AllReadyH.cons (o := ⟨none, .store 3 (.tmp 143) (.tmp 141), _, _, _, none⟩) rfl (fun K hK => ?_) AllReadyH.nil)
                  rw [if_pos (by kernel_rfl)]
                  go_simp
                  refine hK.out _ _ ((hBy37.out true).2.2) (fun _ => ?_)
                  clear hK K
                  try go_frame
                  refine wpAnyH_done (by kernel_rfl) ?_ _
                  go_wp2_with fail
                  exact ⟨⟨n + 1, _, pn, by omega, by go_num, Lib.hid HFN.out.drew.drew⟩, by simp [intOf]; omega⟩
                · rw [if_pos (by kernel_rfl)]
                  go_simp
                  refine hK.out _ _ ((hBy37.out true).1) (fun _ => ?_)
                  clear hK K
                  try go_frame
                  refine th 8 (v := .int .i64 (pn : Int)) ?_ (hy := fun wy hSw => by (go_simp <;> with_reducible rfl))
                  go_frame
                  refine wpAnyH_ready (rs := [2]) (by kernel_rfl) (by simp) (AllReadyH.cons (o := ⟨some 135, .load 3 (.tmp 134), _, _, _, none⟩) rfl (fun K hK => ?_) AllReadyH.nil)
                  rw [if_pos (by kernel_rfl)]
                  go_simp
                  refine hK.out _ _ ((hBy37.out true).1) (fun _ => ?_)
                  clear hK K
                  try go_frame
                  refine th 3 (v := .pointer (some ⟨b, o + p, none⟩)) ?_ (hy := fun wy hSw => by (go_simp <;> with_reducible rfl))
                  go_frame
                  refine th 4 (v := .int .u8 (x0.toNat : Int)) ?_ (hy := fun wy hSw => by (go_simp <;> with_reducible rfl))
                  go_frame
                  refine th 9 ?_
                  go_frame
                  refine wpAnyH_ready (rs := [10]) (by kernel_rfl) (by simp) (AllReadyH.cons (o := ⟨none, .store 5 (.tmp 142) (.tmp 137), _, _, _, none⟩) rfl (fun K hK => ?_) AllReadyH.nil)
                  rw [if_pos (by kernel_rfl)]
                  go_simp
                  refine hK.out _ _ ((hBy37.out true).2.1) (fun _ => ?_)
                  clear hK K
                  try go_frame
                  refine th 11 ?_
                  go_frame
                  refine wpAnyH_ready (rs := [12]) (by kernel_rfl) (by simp) (AllReadyH.cons (o := ⟨none, .store 3 (.tmp 143) (.tmp 141), _, _, _, none⟩) rfl (fun K hK => ?_) AllReadyH.nil)
                  rw [if_pos (by kernel_rfl)]
                  go_simp
                  refine hK.out _ _ ((hBy37.out true).2.2) (fun _ => ?_)
                  clear hK K
                  try go_frame
                  refine wpAnyH_done (by kernel_rfl) ?_ _
                  go_wp2_with fail
                  exact ⟨⟨n + 1, _, pn, by omega, by go_num, Lib.hid HFN.out.drew.drew⟩, by simp [intOf]; omega⟩
              | false =>
                by_cases kq : Kq = 0
                · have kqi : ((Kq : Int) != 0) = false := by rw [kq]; rfl
                  by_cases kr : Kr = 1
                  · have kri : ((Kr : Int) == 1) = true := by rw [kr]; rfl
                    have hβ : β = true := by rw [hbits]; exact decide_eq_true (.inr kr)
                    subst hβ
                    clear hbits kq kr
                    obtain ⟨v2, v1, v3, v4⟩ := hq37.out true
                    have c0b := (hBy37.out true).1
                    have HFN := Lib.hid (hFin.out true rfl)
                    clear hFin hq37 hstz hnon hcur HTz c0b
                    go_wp2_with (first
                      | (go_at_call 36; refine (hbt.out _).mono ?_; rintro _ w1 ⟨rfl, rfl⟩))
                    refine wp_region_held_drew (S := fun w' => w'.cell? ⟨g6, 2, none⟩ = some (.int .i64 (p : Int)) ∧ w'.cell? ⟨b, o + p2, none⟩ = some (.int .u8 (x2.toNat : Int)) ∧ w'.cell? ⟨b, o + p3, none⟩ = some (.int .u8 (x3.toNat : Int))) (by kernel_rfl) hS30.out (fun hHeld => ?_)
                    refine th 0 ?_
                    go_frame
                    refine th 1 ?_
                    go_frame
                    refine th 2 (v := .int .i64 (p : Int)) ?_ (hy := fun wy hSw => by (obtain ⟨t1, t2, t3⟩ := hSw; go_simp <;> with_reducible rfl))
                    go_frame
                    refine th 3 (v := .int .i64 (p2 : Int)) ?_ (hy := fun wy hSw => by (go_simp <;> with_reducible rfl))
                    go_frame
                    refine th 4 (v := .pointer (some ⟨b, o + p2, none⟩)) ?_ (hy := fun wy hSw => by (go_simp <;> with_reducible rfl))
                    go_frame
                    refine th 5 (v := .int .u8 (x2.toNat : Int)) ?_ (hy := fun wy hSw => by (obtain ⟨t1, t2, t3⟩ := hSw; go_simp <;> with_reducible rfl))
                    go_frame
                    refine th 6 (v := .int .i64 (x2.toNat : Int)) ?_ (hy := fun wy hSw => by (go_simp <;> with_reducible rfl))
                    go_frame
                    refine th 7 (v := .int .i64 (u : Int)) ?_ (hy := fun wy hSw => by (go_simp <;> with_reducible rfl))
                    go_frame
                    refine th 8 ?_
                    go_frame
                    refine th 9 ?_
                    go_frame
                    refine th 10 (v := .int .i64 (p : Int)) ?_ (hy := fun wy hSw => by (obtain ⟨t1, t2, t3⟩ := hSw; go_simp <;> with_reducible rfl))
                    go_frame
                    refine th 11 (v := .int .i64 (p3 : Int)) ?_ (hy := fun wy hSw => by (go_simp <;> with_reducible rfl))
                    go_frame
                    refine th 12 (v := .pointer (some ⟨b, o + p3, none⟩)) ?_ (hy := fun wy hSw => by (go_simp <;> with_reducible rfl))
                    go_frame
                    refine th 13 (v := .int .u8 (x3.toNat : Int)) ?_ (hy := fun wy hSw => by (obtain ⟨t1, t2, t3⟩ := hSw; go_simp <;> with_reducible rfl))
                    go_frame
                    refine th 14 (v := .int .i64 (x3.toNat : Int)) ?_ (hy := fun wy hSw => by (go_simp <;> with_reducible rfl))
                    go_frame
                    refine th 15 (v := .int .i64 (K : Int)) ?_ (hy := fun wy hSw => by (go_simp <;> with_reducible rfl))
                    go_frame
                    refine th 16 ?_
                    go_frame
                    refine wpAnyH_done (by kernel_rfl) ?_ _
                    go_wp2_with fail
                    refine wp_region_held_drew (S := fun w' => w'.cell? ⟨b, o + p, none⟩ = some (.int .u8 (x0.toNat : Int))) (by kernel_rfl) (hBy37.out true).1 (fun hHeld => ?_)
                    refine th 0 ?_
                    go_frame
                    refine th 1 ?_
                    go_frame
                    refine th 5 ?_
                    go_frame
                    refine th 7 ?_
                    go_frame
                    refine wpAnyH_ready (rs := [2, 6]) (by kernel_rfl) (by simp) (AllReadyH.cons (o := ⟨some 135, .load 3 (.tmp 134), _, _, _, none⟩) rfl (fun K hK => ?_) (AllReadyH.cons (o := ⟨some 139, .load 3 (.tmp 138), _, _, _, none⟩) rfl (fun K hK => ?_) AllReadyH.nil))
                    · rw [if_pos (by kernel_rfl)]
                      go_simp
                      refine hK.out _ _ ((hBy37.out true).1) (fun _ => ?_)
                      clear hK K
                      try go_frame
                      refine th 3 (v := .pointer (some ⟨b, o + p, none⟩)) ?_ (hy := fun wy hSw => by (go_simp <;> with_reducible rfl))
                      go_frame
                      refine th 4 (v := .int .u8 (x0.toNat : Int)) ?_ (hy := fun wy hSw => by (go_simp <;> with_reducible rfl))
                      go_frame
                      refine wpAnyH_ready (rs := [6]) (by kernel_rfl) (by simp) (AllReadyH.cons (o := ⟨some 139, .load 3 (.tmp 138), _, _, _, none⟩) rfl (fun K hK => ?_) AllReadyH.nil)
                      rw [if_pos (by kernel_rfl)]
                      go_simp
                      refine hK.out _ _ ((hBy37.out true).1) (fun _ => ?_)
                      clear hK K
                      try go_frame
                      refine th 8 (v := .int .i64 (pn : Int)) ?_ (hy := fun wy hSw => by (go_simp <;> with_reducible rfl))
                      go_frame
                      refine th 9 ?_
                      go_frame
                      refine wpAnyH_ready (rs := [10]) (by kernel_rfl) (by simp) (AllReadyH.cons (o := ⟨none, .store 5 (.tmp 142) (.tmp 137), _, _, _, none⟩) rfl (fun K hK => ?_) AllReadyH.nil)
                      rw [if_pos (by kernel_rfl)]
                      go_simp
                      refine hK.out _ _ ((hBy37.out true).2.1) (fun _ => ?_)
                      clear hK K
                      try go_frame
                      refine th 11 ?_
                      go_frame
                      refine wpAnyH_ready (rs := [12]) (by kernel_rfl) (by simp) (AllReadyH.cons (o := ⟨none, .store 3 (.tmp 143) (.tmp 141), _, _, _, none⟩) rfl (fun K hK => ?_) AllReadyH.nil)
                      rw [if_pos (by kernel_rfl)]
                      go_simp
                      refine hK.out _ _ ((hBy37.out true).2.2) (fun _ => ?_)
                      clear hK K
                      try go_frame
                      refine wpAnyH_done (by kernel_rfl) ?_ _
                      go_wp2_with fail
                      exact ⟨⟨n + 1, _, pn, by omega, by go_num, Lib.hid HFN.out.drew.drew⟩, by simp [intOf]; omega⟩
                    · rw [if_pos (by kernel_rfl)]
                      go_simp
                      refine hK.out _ _ ((hBy37.out true).1) (fun _ => ?_)
                      clear hK K
                      try go_frame
                      refine th 8 (v := .int .i64 (pn : Int)) ?_ (hy := fun wy hSw => by (go_simp <;> with_reducible rfl))
                      go_frame
                      refine wpAnyH_ready (rs := [2]) (by kernel_rfl) (by simp) (AllReadyH.cons (o := ⟨some 135, .load 3 (.tmp 134), _, _, _, none⟩) rfl (fun K hK => ?_) AllReadyH.nil)
                      rw [if_pos (by kernel_rfl)]
                      go_simp
                      refine hK.out _ _ ((hBy37.out true).1) (fun _ => ?_)
                      clear hK K
                      try go_frame
                      refine th 3 (v := .pointer (some ⟨b, o + p, none⟩)) ?_ (hy := fun wy hSw => by (go_simp <;> with_reducible rfl))
                      go_frame
                      refine th 4 (v := .int .u8 (x0.toNat : Int)) ?_ (hy := fun wy hSw => by (go_simp <;> with_reducible rfl))
                      go_frame
                      refine th 9 ?_
                      go_frame
                      refine wpAnyH_ready (rs := [10]) (by kernel_rfl) (by simp) (AllReadyH.cons (o := ⟨none, .store 5 (.tmp 142) (.tmp 137), _, _, _, none⟩) rfl (fun K hK => ?_) AllReadyH.nil)
                      rw [if_pos (by kernel_rfl)]
                      go_simp
                      refine hK.out _ _ ((hBy37.out true).2.1) (fun _ => ?_)
                      clear hK K
                      try go_frame
                      refine th 11 ?_
                      go_frame
                      refine wpAnyH_ready (rs := [12]) (by kernel_rfl) (by simp) (AllReadyH.cons (o := ⟨none, .store 3 (.tmp 143) (.tmp 141), _, _, _, none⟩) rfl (fun K hK => ?_) AllReadyH.nil)
                      rw [if_pos (by kernel_rfl)]
                      go_simp
                      refine hK.out _ _ ((hBy37.out true).2.2) (fun _ => ?_)
                      clear hK K
                      try go_frame
                      refine wpAnyH_done (by kernel_rfl) ?_ _
                      go_wp2_with fail
                      exact ⟨⟨n + 1, _, pn, by omega, by go_num, Lib.hid HFN.out.drew.drew⟩, by simp [intOf]; omega⟩
                  · have kri : ((Kr : Int) == 1) = false := beq_false_of_ne (by omega)
                    have hβ : β = false := by rw [hbits]; exact decide_eq_false (by omega)
                    subst hβ
                    clear hbits kq kr
                    obtain ⟨v2, v1, v3, v4⟩ := hq37.out false
                    have c0b := (hBy37.out false).1
                    have HFN := Lib.hid (hFin.out false rfl)
                    clear hFin hq37 hstz hnon hcur HTz c0b
                    go_wp2_with (first
                      | (go_at_call 36; refine (hbt.out _).mono ?_; rintro _ w1 ⟨rfl, rfl⟩))
                    refine wp_region_held_drew (S := fun w' => w'.cell? ⟨g6, 2, none⟩ = some (.int .i64 (p : Int)) ∧ w'.cell? ⟨b, o + p2, none⟩ = some (.int .u8 (x2.toNat : Int)) ∧ w'.cell? ⟨b, o + p3, none⟩ = some (.int .u8 (x3.toNat : Int))) (by kernel_rfl) hS30.out (fun hHeld => ?_)
                    refine th 0 ?_
                    go_frame
                    refine th 1 ?_
                    go_frame
                    refine th 2 (v := .int .i64 (p : Int)) ?_ (hy := fun wy hSw => by (obtain ⟨t1, t2, t3⟩ := hSw; go_simp <;> with_reducible rfl))
                    go_frame
                    refine th 3 (v := .int .i64 (p2 : Int)) ?_ (hy := fun wy hSw => by (go_simp <;> with_reducible rfl))
                    go_frame
                    refine th 4 (v := .pointer (some ⟨b, o + p2, none⟩)) ?_ (hy := fun wy hSw => by (go_simp <;> with_reducible rfl))
                    go_frame
                    refine th 5 (v := .int .u8 (x2.toNat : Int)) ?_ (hy := fun wy hSw => by (obtain ⟨t1, t2, t3⟩ := hSw; go_simp <;> with_reducible rfl))
                    go_frame
                    refine th 6 (v := .int .i64 (x2.toNat : Int)) ?_ (hy := fun wy hSw => by (go_simp <;> with_reducible rfl))
                    go_frame
                    refine th 7 (v := .int .i64 (u : Int)) ?_ (hy := fun wy hSw => by (go_simp <;> with_reducible rfl))
                    go_frame
                    refine th 8 ?_
                    go_frame
                    refine th 9 ?_
                    go_frame
                    refine th 10 (v := .int .i64 (p : Int)) ?_ (hy := fun wy hSw => by (obtain ⟨t1, t2, t3⟩ := hSw; go_simp <;> with_reducible rfl))
                    go_frame
                    refine th 11 (v := .int .i64 (p3 : Int)) ?_ (hy := fun wy hSw => by (go_simp <;> with_reducible rfl))
                    go_frame
                    refine th 12 (v := .pointer (some ⟨b, o + p3, none⟩)) ?_ (hy := fun wy hSw => by (go_simp <;> with_reducible rfl))
                    go_frame
                    refine th 13 (v := .int .u8 (x3.toNat : Int)) ?_ (hy := fun wy hSw => by (obtain ⟨t1, t2, t3⟩ := hSw; go_simp <;> with_reducible rfl))
                    go_frame
                    refine th 14 (v := .int .i64 (x3.toNat : Int)) ?_ (hy := fun wy hSw => by (go_simp <;> with_reducible rfl))
                    go_frame
                    refine th 15 (v := .int .i64 (K : Int)) ?_ (hy := fun wy hSw => by (go_simp <;> with_reducible rfl))
                    go_frame
                    refine th 16 ?_
                    go_frame
                    refine wpAnyH_done (by kernel_rfl) ?_ _
                    go_wp2_with fail
                    refine wp_region_held_drew (S := fun w' => w'.cell? ⟨b, o + p, none⟩ = some (.int .u8 (x0.toNat : Int))) (by kernel_rfl) (hBy37.out false).1 (fun hHeld => ?_)
                    refine th 0 ?_
                    go_frame
                    refine th 1 ?_
                    go_frame
                    refine th 5 ?_
                    go_frame
                    refine th 7 ?_
                    go_frame
                    refine wpAnyH_ready (rs := [2, 6]) (by kernel_rfl) (by simp) (AllReadyH.cons (o := ⟨some 135, .load 3 (.tmp 134), _, _, _, none⟩) rfl (fun K hK => ?_) (AllReadyH.cons (o := ⟨some 139, .load 3 (.tmp 138), _, _, _, none⟩) rfl (fun K hK => ?_) AllReadyH.nil))
                    · rw [if_pos (by kernel_rfl)]
                      go_simp
                      refine hK.out _ _ ((hBy37.out false).1) (fun _ => ?_)
                      clear hK K
                      try go_frame
                      refine th 3 (v := .pointer (some ⟨b, o + p, none⟩)) ?_ (hy := fun wy hSw => by (go_simp <;> with_reducible rfl))
                      go_frame
                      refine th 4 (v := .int .u8 (x0.toNat : Int)) ?_ (hy := fun wy hSw => by (go_simp <;> with_reducible rfl))
                      go_frame
                      refine wpAnyH_ready (rs := [6]) (by kernel_rfl) (by simp) (AllReadyH.cons (o := ⟨some 139, .load 3 (.tmp 138), _, _, _, none⟩) rfl (fun K hK => ?_) AllReadyH.nil)
                      rw [if_pos (by kernel_rfl)]
                      go_simp
                      refine hK.out _ _ ((hBy37.out false).1) (fun _ => ?_)
                      clear hK K
                      try go_frame
                      refine th 8 (v := .int .i64 (pn : Int)) ?_ (hy := fun wy hSw => by (go_simp <;> with_reducible rfl))
                      go_frame
                      refine th 9 ?_
                      go_frame
                      refine wpAnyH_ready (rs := [10]) (by kernel_rfl) (by simp) (AllReadyH.cons (o := ⟨none, .store 5 (.tmp 142) (.tmp 137), _, _, _, none⟩) rfl (fun K hK => ?_) AllReadyH.nil)
                      rw [if_pos (by kernel_rfl)]
                      go_simp
                      refine hK.out _ _ ((hBy37.out false).2.1) (fun _ => ?_)
                      clear hK K
                      try go_frame
                      refine th 11 ?_
                      go_frame
                      refine wpAnyH_ready (rs := [12]) (by kernel_rfl) (by simp) (AllReadyH.cons (o := ⟨none, .store 3 (.tmp 143) (.tmp 141), _, _, _, none⟩) rfl (fun K hK => ?_) AllReadyH.nil)
                      rw [if_pos (by kernel_rfl)]
                      go_simp
                      refine hK.out _ _ ((hBy37.out false).2.2) (fun _ => ?_)
                      clear hK K
                      try go_frame
                      refine wpAnyH_done (by kernel_rfl) ?_ _
                      go_wp2_with fail
                      exact ⟨⟨n + 1, _, pn, by omega, by go_num, Lib.hid HFN.out.drew.drew⟩, by simp [intOf]; omega⟩
                    · rw [if_pos (by kernel_rfl)]
                      go_simp
                      refine hK.out _ _ ((hBy37.out false).1) (fun _ => ?_)
                      clear hK K
                      try go_frame
                      refine th 8 (v := .int .i64 (pn : Int)) ?_ (hy := fun wy hSw => by (go_simp <;> with_reducible rfl))
                      go_frame
                      refine wpAnyH_ready (rs := [2]) (by kernel_rfl) (by simp) (AllReadyH.cons (o := ⟨some 135, .load 3 (.tmp 134), _, _, _, none⟩) rfl (fun K hK => ?_) AllReadyH.nil)
                      rw [if_pos (by kernel_rfl)]
                      go_simp
                      refine hK.out _ _ ((hBy37.out false).1) (fun _ => ?_)
                      clear hK K
                      try go_frame
                      refine th 3 (v := .pointer (some ⟨b, o + p, none⟩)) ?_ (hy := fun wy hSw => by (go_simp <;> with_reducible rfl))
                      go_frame
                      refine th 4 (v := .int .u8 (x0.toNat : Int)) ?_ (hy := fun wy hSw => by (go_simp <;> with_reducible rfl))
                      go_frame
                      refine th 9 ?_
                      go_frame
                      refine wpAnyH_ready (rs := [10]) (by kernel_rfl) (by simp) (AllReadyH.cons (o := ⟨none, .store 5 (.tmp 142) (.tmp 137), _, _, _, none⟩) rfl (fun K hK => ?_) AllReadyH.nil)
                      rw [if_pos (by kernel_rfl)]
                      go_simp
                      refine hK.out _ _ ((hBy37.out false).2.1) (fun _ => ?_)
                      clear hK K
                      try go_frame
                      refine th 11 ?_
                      go_frame
                      refine wpAnyH_ready (rs := [12]) (by kernel_rfl) (by simp) (AllReadyH.cons (o := ⟨none, .store 3 (.tmp 143) (.tmp 141), _, _, _, none⟩) rfl (fun K hK => ?_) AllReadyH.nil)
                      rw [if_pos (by kernel_rfl)]
                      go_simp
                      refine hK.out _ _ ((hBy37.out false).2.2) (fun _ => ?_)
                      clear hK K
                      try go_frame
                      refine wpAnyH_done (by kernel_rfl) ?_ _
                      go_wp2_with fail
                      exact ⟨⟨n + 1, _, pn, by omega, by go_num, Lib.hid HFN.out.drew.drew⟩, by simp [intOf]; omega⟩
                · have kqi : ((Kq : Int) != 0) = true := by simpa using kq
                  have hβ : β = true := by rw [hbits]; exact decide_eq_true (.inl kq)
                  subst hβ
                  clear hbits kq
                  obtain ⟨v2, v1, v3, v4⟩ := hq37.out true
                  have c0b := (hBy37.out true).1
                  have HFN := Lib.hid (hFin.out true rfl)
                  clear hFin hq37 hstz hnon hcur HTz c0b
                  go_wp2_with (first
                    | (go_at_call 36; refine (hbt.out _).mono ?_; rintro _ w1 ⟨rfl, rfl⟩))
                  refine wp_region_held_drew (S := fun w' => w'.cell? ⟨g6, 2, none⟩ = some (.int .i64 (p : Int)) ∧ w'.cell? ⟨b, o + p2, none⟩ = some (.int .u8 (x2.toNat : Int)) ∧ w'.cell? ⟨b, o + p3, none⟩ = some (.int .u8 (x3.toNat : Int))) (by kernel_rfl) hS30.out (fun hHeld => ?_)
                  refine th 0 ?_
                  go_frame
                  refine th 1 ?_
                  go_frame
                  refine th 2 (v := .int .i64 (p : Int)) ?_ (hy := fun wy hSw => by (obtain ⟨t1, t2, t3⟩ := hSw; go_simp <;> with_reducible rfl))
                  go_frame
                  refine th 3 (v := .int .i64 (p2 : Int)) ?_ (hy := fun wy hSw => by (go_simp <;> with_reducible rfl))
                  go_frame
                  refine th 4 (v := .pointer (some ⟨b, o + p2, none⟩)) ?_ (hy := fun wy hSw => by (go_simp <;> with_reducible rfl))
                  go_frame
                  refine th 5 (v := .int .u8 (x2.toNat : Int)) ?_ (hy := fun wy hSw => by (obtain ⟨t1, t2, t3⟩ := hSw; go_simp <;> with_reducible rfl))
                  go_frame
                  refine th 6 (v := .int .i64 (x2.toNat : Int)) ?_ (hy := fun wy hSw => by (go_simp <;> with_reducible rfl))
                  go_frame
                  refine th 7 (v := .int .i64 (u : Int)) ?_ (hy := fun wy hSw => by (go_simp <;> with_reducible rfl))
                  go_frame
                  refine th 8 ?_
                  go_frame
                  refine th 9 ?_
                  go_frame
                  refine th 10 (v := .int .i64 (p : Int)) ?_ (hy := fun wy hSw => by (obtain ⟨t1, t2, t3⟩ := hSw; go_simp <;> with_reducible rfl))
                  go_frame
                  refine th 11 (v := .int .i64 (p3 : Int)) ?_ (hy := fun wy hSw => by (go_simp <;> with_reducible rfl))
                  go_frame
                  refine th 12 (v := .pointer (some ⟨b, o + p3, none⟩)) ?_ (hy := fun wy hSw => by (go_simp <;> with_reducible rfl))
                  go_frame
                  refine th 13 (v := .int .u8 (x3.toNat : Int)) ?_ (hy := fun wy hSw => by (obtain ⟨t1, t2, t3⟩ := hSw; go_simp <;> with_reducible rfl))
                  go_frame
                  refine th 14 (v := .int .i64 (x3.toNat : Int)) ?_ (hy := fun wy hSw => by (go_simp <;> with_reducible rfl))
                  go_frame
                  refine th 15 (v := .int .i64 (K : Int)) ?_ (hy := fun wy hSw => by (go_simp <;> with_reducible rfl))
                  go_frame
                  refine th 16 ?_
                  go_frame
                  refine wpAnyH_done (by kernel_rfl) ?_ _
                  go_wp2_with fail
                  refine wp_region_held_drew (S := fun w' => w'.cell? ⟨b, o + p, none⟩ = some (.int .u8 (x0.toNat : Int))) (by kernel_rfl) (hBy37.out true).1 (fun hHeld => ?_)
                  refine th 0 ?_
                  go_frame
                  refine th 1 ?_
                  go_frame
                  refine th 5 ?_
                  go_frame
                  refine th 7 ?_
                  go_frame
                  refine wpAnyH_ready (rs := [2, 6]) (by kernel_rfl) (by simp) (AllReadyH.cons (o := ⟨some 135, .load 3 (.tmp 134), _, _, _, none⟩) rfl (fun K hK => ?_) (AllReadyH.cons (o := ⟨some 139, .load 3 (.tmp 138), _, _, _, none⟩) rfl (fun K hK => ?_) AllReadyH.nil))
                  · rw [if_pos (by kernel_rfl)]
                    go_simp
                    refine hK.out _ _ ((hBy37.out true).1) (fun _ => ?_)
                    clear hK K
                    try go_frame
                    refine th 3 (v := .pointer (some ⟨b, o + p, none⟩)) ?_ (hy := fun wy hSw => by (go_simp <;> with_reducible rfl))
                    go_frame
                    refine th 4 (v := .int .u8 (x0.toNat : Int)) ?_ (hy := fun wy hSw => by (go_simp <;> with_reducible rfl))
                    go_frame
                    refine wpAnyH_ready (rs := [6]) (by kernel_rfl) (by simp) (AllReadyH.cons (o := ⟨some 139, .load 3 (.tmp 138), _, _, _, none⟩) rfl (fun K hK => ?_) AllReadyH.nil)
                    rw [if_pos (by kernel_rfl)]
                    go_simp
                    refine hK.out _ _ ((hBy37.out true).1) (fun _ => ?_)
                    clear hK K
                    try go_frame
                    refine th 8 (v := .int .i64 (pn : Int)) ?_ (hy := fun wy hSw => by (go_simp <;> with_reducible rfl))
                    go_frame
                    refine th 9 ?_
                    go_frame
                    refine wpAnyH_ready (rs := [10]) (by kernel_rfl) (by simp) (AllReadyH.cons (o := ⟨none, .store 5 (.tmp 142) (.tmp 137), _, _, _, none⟩) rfl (fun K hK => ?_) AllReadyH.nil)
                    rw [if_pos (by kernel_rfl)]
                    go_simp
                    refine hK.out _ _ ((hBy37.out true).2.1) (fun _ => ?_)
                    clear hK K
                    try go_frame
                    refine th 11 ?_
                    go_frame
                    refine wpAnyH_ready (rs := [12]) (by kernel_rfl) (by simp) (AllReadyH.cons (o := ⟨none, .store 3 (.tmp 143) (.tmp 141), _, _, _, none⟩) rfl (fun K hK => ?_) AllReadyH.nil)
                    rw [if_pos (by kernel_rfl)]
                    go_simp
                    refine hK.out _ _ ((hBy37.out true).2.2) (fun _ => ?_)
                    clear hK K
                    try go_frame
                    refine wpAnyH_done (by kernel_rfl) ?_ _
                    go_wp2_with fail
                    exact ⟨⟨n + 1, _, pn, by omega, by go_num, Lib.hid HFN.out.drew.drew⟩, by simp [intOf]; omega⟩
                  · rw [if_pos (by kernel_rfl)]
                    go_simp
                    refine hK.out _ _ ((hBy37.out true).1) (fun _ => ?_)
                    clear hK K
                    try go_frame
                    refine th 8 (v := .int .i64 (pn : Int)) ?_ (hy := fun wy hSw => by (go_simp <;> with_reducible rfl))
                    go_frame
                    refine wpAnyH_ready (rs := [2]) (by kernel_rfl) (by simp) (AllReadyH.cons (o := ⟨some 135, .load 3 (.tmp 134), _, _, _, none⟩) rfl (fun K hK => ?_) AllReadyH.nil)
                    rw [if_pos (by kernel_rfl)]
                    go_simp
                    refine hK.out _ _ ((hBy37.out true).1) (fun _ => ?_)
                    clear hK K
                    try go_frame
                    refine th 3 (v := .pointer (some ⟨b, o + p, none⟩)) ?_ (hy := fun wy hSw => by (go_simp <;> with_reducible rfl))
                    go_frame
                    refine th 4 (v := .int .u8 (x0.toNat : Int)) ?_ (hy := fun wy hSw => by (go_simp <;> with_reducible rfl))
                    go_frame
                    refine th 9 ?_
                    go_frame
                    refine wpAnyH_ready (rs := [10]) (by kernel_rfl) (by simp) (AllReadyH.cons (o := ⟨none, .store 5 (.tmp 142) (.tmp 137), _, _, _, none⟩) rfl (fun K hK => ?_) AllReadyH.nil)
                    rw [if_pos (by kernel_rfl)]
                    go_simp
                    refine hK.out _ _ ((hBy37.out true).2.1) (fun _ => ?_)
                    clear hK K
                    try go_frame
                    refine th 11 ?_
                    go_frame
                    refine wpAnyH_ready (rs := [12]) (by kernel_rfl) (by simp) (AllReadyH.cons (o := ⟨none, .store 3 (.tmp 143) (.tmp 141), _, _, _, none⟩) rfl (fun K hK => ?_) AllReadyH.nil)
                    rw [if_pos (by kernel_rfl)]
                    go_simp
                    refine hK.out _ _ ((hBy37.out true).2.2) (fun _ => ?_)
                    clear hK K
                    try go_frame
                    refine wpAnyH_done (by kernel_rfl) ?_ _
                    go_wp2_with fail
                    exact ⟨⟨n + 1, _, pn, by omega, by go_num, Lib.hid HFN.out.drew.drew⟩, by simp [intOf]; omega⟩
            · have k44 : ((h'.proto.toNat : Int) == 44) = false := beq_u8 (k := 44) (toNat_ne h44)
              have hsz : sxSize h'.proto (l.drop p) = s2 := by unfold sxSize; rw [if_neg h44, gd1, hs2, hs1]
              by_cases hds : d < s2
              · have hE := hstep.out (by unfold sxPassE; rw [hsz, if_pos (.inr (by omega))]; decide)
                have hR := hRd0.1 (by omega)
                have HER := Lib.hid (And.intro hE hR)
                have hdsi : (d : Int) < (s2 : Int) := by omega
                clear hstep hnext hEr hRd0 hE hR hsz h44 hpm hm2 hrl hd gd gd0 gd1 hx0 hx1 hx1l hp1 hs1 hs2 h8 c0b hBy hS27
                rcases kz with ⟨hp0, kz1, kz2⟩ | kz
                · rw [hp0] at c1 hbt
                  clear kz1 k44
                  go_wp2_with (first
                    | (go_at_call 36; refine (hbt.out _).mono ?_; rintro _ w1 ⟨rfl, rfl⟩)
                    | ((with_reducible refine wpList_load_row (o := ⟨some 132, .load 33 (.tmp 4), _, _, _, _⟩) rfl 33 (.tmp 4) rfl (w.heap.size + 1) ?_ 33 Z.toArray (0, 0) _ hnon Try.underlying33 rfl hxi ?_); exact rfl)
                    | ((with_reducible refine wpList_stored (o := ⟨none, .store 33 (.tmp 2) (.tmp 132), _, _, _, none⟩) rfl 33 (.tmp 2) (.tmp 132) rfl (.pointer (some ⟨w.heap.size, 0, none⟩)) (.agg Z.toArray) ?_ ?_ wz hstz ?_); exact rfl; exact rfl))
                  exact bodyPost_ret (ret_hd (p := 2) (q := 3) (by kernel_rfl) rfl HTz.out.1 Hd.zero_wide rfl) rfl ⟨by rw [HER.out.1, HER.out.2, hdV]; rfl, HTz.out.2⟩
                · skip
                  go_wp2_with (first
                    | (go_at_call 36; refine (hbt.out _).mono ?_; rintro _ w1 ⟨rfl, rfl⟩)
                    | ((with_reducible refine wpList_load_row (o := ⟨some 132, .load 33 (.tmp 4), _, _, _, _⟩) rfl 33 (.tmp 4) rfl (w.heap.size + 1) ?_ 33 Z.toArray (0, 0) _ hnon Try.underlying33 rfl hxi ?_); exact rfl)
                    | ((with_reducible refine wpList_stored (o := ⟨none, .store 33 (.tmp 2) (.tmp 132), _, _, _, none⟩) rfl 33 (.tmp 2) (.tmp 132) rfl (.pointer (some ⟨w.heap.size, 0, none⟩)) (.agg Z.toArray) ?_ ?_ wz hstz ?_); exact rfl; exact rfl))
                  exact bodyPost_ret (ret_hd (p := 2) (q := 3) (by kernel_rfl) rfl HTz.out.1 Hd.zero_wide rfl) rfl ⟨by rw [HER.out.1, HER.out.2, hdV]; rfl, HTz.out.2⟩
              · have hdsi : ¬ (d : Int) < (s2 : Int) := by omega
                have hPE : sxPassE h'.proto (l.drop p) = 0 := by unfold sxPassE; rw [hsz, if_neg (by omega)]
                have hnx := hnext.out hPE
                rw [hsz] at hnx
                have hwn : IntKind.i64.wrap ((p : Int) + (s2 : Int)) = ((p + s2 : Nat) : Int) := by rw [IntWalk.i64_in _ (by omega)]; omega
                obtain ⟨pn, hpn⟩ : ∃ y, y = p + s2 := ⟨_, rfl⟩
                rw [← hpn] at hwn hnx
                have hFin : Hid (SxSt w g6 l (n + 1) (sxNext h' (l.drop p)) pn ((wr.setCell ⟨g6, 1, none⟩ (.int .u8 (x0.toNat : Int))).setCell ⟨g6, 2, none⟩ (.int .i64 (pn : Int)))) := Lib.hid <| by
                  obtain ⟨n1, n2⟩ := HS.out.cur.next x0 (pn : Int)
                  have e : sxNext h' (l.drop p) = ⟨h'.six, x0, (pn : Int), h'.src, h'.dst, h'.part, h'.hops⟩ := by
                    unfold sxNext
                    rw [hsz, gd0, HS.out.pos, hpn, decide_eq_false h44, Bool.false_and, Bool.or_false]
                    rfl
                  rw [e] at hnx ⊢
                  exact HS.out.keep n2 n1 HS.out.wide rfl (by rw [← hM.out.1]; omega) hnx
                have hBy1 : Hid ((wr.setCell ⟨g6, 1, none⟩ (.int .u8 (x0.toNat : Int))).cell? ⟨b, o + p, none⟩ = some (.int .u8 (x0.toNat : Int)) ∧ ((wr.setCell ⟨g6, 1, none⟩ (.int .u8 (x0.toNat : Int))).setCell ⟨g6, 2, none⟩ (.int .i64 (pn : Int))).cell? ⟨b, o + p, none⟩ = some (.int .u8 (x0.toNat : Int))) := Lib.hid ⟨hBy.out _ (grown_one _ _ _ _), hBy.out _ (grown_two (grown_one _ _ _ _) (grown_one _ _ _ _))⟩
                clear hnext hstep hEr hRd0 hnx hPE hsz h44 hpm hm2 hrl hd gd gd0 gd1 hx0 hx1 hx1l hp1 hpn hs1 hs2 h8 hS27
                rcases kz with ⟨hp0, kz1, kz2⟩ | kz
                · rw [hp0] at c1 hbt
                  clear kz1 k44
                  have HFN := hFin
                  clear hstz hnon hcur HTz
                  go_wp2_with (first
                    | (go_at_call 36; refine (hbt.out _).mono ?_; rintro _ w1 ⟨rfl, rfl⟩))
                  refine wp_region_held_drew (S := fun w' => w'.cell? ⟨b, o + p, none⟩ = some (.int .u8 (x0.toNat : Int))) (by kernel_rfl) c0b (fun hHeld => ?_)
                  refine th 0 ?_
                  go_frame
                  refine th 1 ?_
                  go_frame
                  refine th 5 ?_
                  go_frame
                  refine th 7 ?_
                  go_frame
                  refine wpAnyH_ready (rs := [2, 6]) (by kernel_rfl) (by simp) (AllReadyH.cons (o := ⟨some 135, .load 3 (.tmp 134), _, _, _, none⟩) rfl (fun K hK => ?_) (AllReadyH.cons (o := ⟨some 139, .load 3 (.tmp 138), _, _, _, none⟩) rfl (fun K hK => ?_) AllReadyH.nil))
                  · rw [if_pos (by kernel_rfl)]
                    go_simp
                    refine hK.out _ _ (c0b) (fun _ => ?_)
                    clear hK K
                    try go_frame
                    refine th 3 (v := .pointer (some ⟨b, o + p, none⟩)) ?_ (hy := fun wy hSw => by (go_simp <;> with_reducible rfl))
                    go_frame
                    refine th 4 (v := .int .u8 (x0.toNat : Int)) ?_ (hy := fun wy hSw => by (go_simp <;> with_reducible rfl))
                    go_frame
                    refine wpAnyH_ready (rs := [6]) (by kernel_rfl) (by simp) (AllReadyH.cons (o := ⟨some 139, .load 3 (.tmp 138), _, _, _, none⟩) rfl (fun K hK => ?_) AllReadyH.nil)
                    rw [if_pos (by kernel_rfl)]
                    go_simp
                    refine hK.out _ _ (c0b) (fun _ => ?_)
                    clear hK K
                    try go_frame
                    refine th 8 (v := .int .i64 (pn : Int)) ?_ (hy := fun wy hSw => by (go_simp <;> with_reducible rfl))
                    go_frame
                    refine th 9 ?_
                    go_frame
                    refine wpAnyH_ready (rs := [10]) (by kernel_rfl) (by simp) (AllReadyH.cons (o := ⟨none, .store 5 (.tmp 142) (.tmp 137), _, _, _, none⟩) rfl (fun K hK => ?_) AllReadyH.nil)
                    rw [if_pos (by kernel_rfl)]
                    go_simp
                    refine hK.out _ _ (hBy1.out.1) (fun _ => ?_)
                    clear hK K
                    try go_frame
                    refine th 11 ?_
                    go_frame
                    refine wpAnyH_ready (rs := [12]) (by kernel_rfl) (by simp) (AllReadyH.cons (o := ⟨none, .store 3 (.tmp 143) (.tmp 141), _, _, _, none⟩) rfl (fun K hK => ?_) AllReadyH.nil)
                    rw [if_pos (by kernel_rfl)]
                    go_simp
                    refine hK.out _ _ (hBy1.out.2) (fun _ => ?_)
                    clear hK K
                    try go_frame
                    refine wpAnyH_done (by kernel_rfl) ?_ _
                    go_wp2_with fail
                    exact ⟨⟨n + 1, _, pn, by omega, by go_num, Lib.hid HFN.out.drew⟩, by simp [intOf]; omega⟩
                  · rw [if_pos (by kernel_rfl)]
                    go_simp
                    refine hK.out _ _ (c0b) (fun _ => ?_)
                    clear hK K
                    try go_frame
                    refine th 8 (v := .int .i64 (pn : Int)) ?_ (hy := fun wy hSw => by (go_simp <;> with_reducible rfl))
                    go_frame
                    refine wpAnyH_ready (rs := [2]) (by kernel_rfl) (by simp) (AllReadyH.cons (o := ⟨some 135, .load 3 (.tmp 134), _, _, _, none⟩) rfl (fun K hK => ?_) AllReadyH.nil)
                    rw [if_pos (by kernel_rfl)]
                    go_simp
                    refine hK.out _ _ (c0b) (fun _ => ?_)
                    clear hK K
                    try go_frame
                    refine th 3 (v := .pointer (some ⟨b, o + p, none⟩)) ?_ (hy := fun wy hSw => by (go_simp <;> with_reducible rfl))
                    go_frame
                    refine th 4 (v := .int .u8 (x0.toNat : Int)) ?_ (hy := fun wy hSw => by (go_simp <;> with_reducible rfl))
                    go_frame
                    refine th 9 ?_
                    go_frame
                    refine wpAnyH_ready (rs := [10]) (by kernel_rfl) (by simp) (AllReadyH.cons (o := ⟨none, .store 5 (.tmp 142) (.tmp 137), _, _, _, none⟩) rfl (fun K hK => ?_) AllReadyH.nil)
                    rw [if_pos (by kernel_rfl)]
                    go_simp
                    refine hK.out _ _ (hBy1.out.1) (fun _ => ?_)
                    clear hK K
                    try go_frame
                    refine th 11 ?_
                    go_frame
                    refine wpAnyH_ready (rs := [12]) (by kernel_rfl) (by simp) (AllReadyH.cons (o := ⟨none, .store 3 (.tmp 143) (.tmp 141), _, _, _, none⟩) rfl (fun K hK => ?_) AllReadyH.nil)
                    rw [if_pos (by kernel_rfl)]
                    go_simp
                    refine hK.out _ _ (hBy1.out.2) (fun _ => ?_)
                    clear hK K
                    try go_frame
                    refine wpAnyH_done (by kernel_rfl) ?_ _
                    go_wp2_with fail
                    exact ⟨⟨n + 1, _, pn, by omega, by go_num, Lib.hid HFN.out.drew⟩, by simp [intOf]; omega⟩
                · skip
                  have HFN := hFin
                  clear hstz hnon hcur HTz
                  go_wp2_with (first
                    | (go_at_call 36; refine (hbt.out _).mono ?_; rintro _ w1 ⟨rfl, rfl⟩))
                  refine wp_region_held_drew (S := fun w' => w'.cell? ⟨b, o + p, none⟩ = some (.int .u8 (x0.toNat : Int))) (by kernel_rfl) c0b (fun hHeld => ?_)
                  refine th 0 ?_
                  go_frame
                  refine th 1 ?_
                  go_frame
                  refine th 5 ?_
                  go_frame
                  refine th 7 ?_
                  go_frame
                  refine wpAnyH_ready (rs := [2, 6]) (by kernel_rfl) (by simp) (AllReadyH.cons (o := ⟨some 135, .load 3 (.tmp 134), _, _, _, none⟩) rfl (fun K hK => ?_) (AllReadyH.cons (o := ⟨some 139, .load 3 (.tmp 138), _, _, _, none⟩) rfl (fun K hK => ?_) AllReadyH.nil))
                  · rw [if_pos (by kernel_rfl)]
                    go_simp
                    refine hK.out _ _ (c0b) (fun _ => ?_)
                    clear hK K
                    try go_frame
                    refine th 3 (v := .pointer (some ⟨b, o + p, none⟩)) ?_ (hy := fun wy hSw => by (go_simp <;> with_reducible rfl))
                    go_frame
                    refine th 4 (v := .int .u8 (x0.toNat : Int)) ?_ (hy := fun wy hSw => by (go_simp <;> with_reducible rfl))
                    go_frame
                    refine wpAnyH_ready (rs := [6]) (by kernel_rfl) (by simp) (AllReadyH.cons (o := ⟨some 139, .load 3 (.tmp 138), _, _, _, none⟩) rfl (fun K hK => ?_) AllReadyH.nil)
                    rw [if_pos (by kernel_rfl)]
                    go_simp
                    refine hK.out _ _ (c0b) (fun _ => ?_)
                    clear hK K
                    try go_frame
                    refine th 8 (v := .int .i64 (pn : Int)) ?_ (hy := fun wy hSw => by (go_simp <;> with_reducible rfl))
                    go_frame
                    refine th 9 ?_
                    go_frame
                    refine wpAnyH_ready (rs := [10]) (by kernel_rfl) (by simp) (AllReadyH.cons (o := ⟨none, .store 5 (.tmp 142) (.tmp 137), _, _, _, none⟩) rfl (fun K hK => ?_) AllReadyH.nil)
                    rw [if_pos (by kernel_rfl)]
                    go_simp
                    refine hK.out _ _ (hBy1.out.1) (fun _ => ?_)
                    clear hK K
                    try go_frame
                    refine th 11 ?_
                    go_frame
                    refine wpAnyH_ready (rs := [12]) (by kernel_rfl) (by simp) (AllReadyH.cons (o := ⟨none, .store 3 (.tmp 143) (.tmp 141), _, _, _, none⟩) rfl (fun K hK => ?_) AllReadyH.nil)
                    rw [if_pos (by kernel_rfl)]
                    go_simp
                    refine hK.out _ _ (hBy1.out.2) (fun _ => ?_)
                    clear hK K
                    try go_frame
                    refine wpAnyH_done (by kernel_rfl) ?_ _
                    go_wp2_with fail
                    exact ⟨⟨n + 1, _, pn, by omega, by go_num, Lib.hid HFN.out.drew⟩, by simp [intOf]; omega⟩
                  · rw [if_pos (by kernel_rfl)]
                    go_simp
                    refine hK.out _ _ (c0b) (fun _ => ?_)
                    clear hK K
                    try go_frame
                    refine th 8 (v := .int .i64 (pn : Int)) ?_ (hy := fun wy hSw => by (go_simp <;> with_reducible rfl))
                    go_frame
                    refine wpAnyH_ready (rs := [2]) (by kernel_rfl) (by simp) (AllReadyH.cons (o := ⟨some 135, .load 3 (.tmp 134), _, _, _, none⟩) rfl (fun K hK => ?_) AllReadyH.nil)
                    rw [if_pos (by kernel_rfl)]
                    go_simp
                    refine hK.out _ _ (c0b) (fun _ => ?_)
                    clear hK K
                    try go_frame
                    refine th 3 (v := .pointer (some ⟨b, o + p, none⟩)) ?_ (hy := fun wy hSw => by (go_simp <;> with_reducible rfl))
                    go_frame
                    refine th 4 (v := .int .u8 (x0.toNat : Int)) ?_ (hy := fun wy hSw => by (go_simp <;> with_reducible rfl))
                    go_frame
                    refine th 9 ?_
                    go_frame
                    refine wpAnyH_ready (rs := [10]) (by kernel_rfl) (by simp) (AllReadyH.cons (o := ⟨none, .store 5 (.tmp 142) (.tmp 137), _, _, _, none⟩) rfl (fun K hK => ?_) AllReadyH.nil)
                    rw [if_pos (by kernel_rfl)]
                    go_simp
                    refine hK.out _ _ (hBy1.out.1) (fun _ => ?_)
                    clear hK K
                    try go_frame
                    refine th 11 ?_
                    go_frame
                    refine wpAnyH_ready (rs := [12]) (by kernel_rfl) (by simp) (AllReadyH.cons (o := ⟨none, .store 3 (.tmp 143) (.tmp 141), _, _, _, none⟩) rfl (fun K hK => ?_) AllReadyH.nil)
                    rw [if_pos (by kernel_rfl)]
                    go_simp
                    refine hK.out _ _ (hBy1.out.2) (fun _ => ?_)
                    clear hK K
                    try go_frame
                    refine wpAnyH_done (by kernel_rfl) ?_ _
                    go_wp2_with fail
                    exact ⟨⟨n + 1, _, pn, by omega, by go_num, Lib.hid HFN.out.drew⟩, by simp [intOf]; omega⟩
    · have hsf : stands h'.proto = false := by simpa using hs
      rw [hsf] at hbt
      have hW : sxWalk 8 (sxFirst l) (l.drop 40) = (0, h') := by rw [← HS.out.walk]; exact sxWalk_no hsf
      have hE : sxErr l = 0 := by rw [hEr, hW]
      have hR := hRd0.2 hE
      rw [hW] at hR
      have HER := Lib.hid (And.intro hE hR)
      have hyi := info_hdA HS.out.wide
      obtain ⟨wy, hsty, haty, hby⟩ := HS.out.end_ HS.out.wide
      have HTy := Lib.hid (And.intro haty hby)
      have Hwd := Lib.hid HS.out.wide
      clear hEr hRd0 hW hE hR hs hsf haty hby
      obtain ⟨Y, hY⟩ : ∃ Y, Y = hdC h' := ⟨_, rfl⟩
      rw [← hY] at hcur hsty hyi
      have HY := Lib.hid hY
      clear hY
      go_wp2_with (first
        | (go_at_call 36; refine (hbt.out _).mono ?_; rintro _ w1 ⟨rfl, rfl⟩)
        | ((with_reducible refine wpList_load_row (o := ⟨some 65, .load 33 (.tmp 6), _, _, _, _⟩) rfl 33 (.tmp 6) rfl (g6) ?_ 33 Y.toArray (0, 0) _ hcur Try.underlying33 rfl hyi ?_); exact rfl)
        | ((with_reducible refine wpList_stored (o := ⟨none, .store 33 (.tmp 2) (.tmp 65), _, _, _, none⟩) rfl 33 (.tmp 2) (.tmp 65) rfl (.pointer (some ⟨w.heap.size, 0, none⟩)) (.agg Y.toArray) ?_ ?_ wy hsty ?_); exact rfl; exact rfl))
      exact bodyPost_ret (ret_hd (p := 2) (q := 3) (by kernel_rfl) rfl HTy.out.1 Hwd.out rfl) rfl ⟨by rw [HER.out.1, HER.out.2, hdV, ← HY.out]; rfl, HTy.out.2⟩
theorem rsxRead_any {A : Option Addr} {c : Nat} {l : List UInt8} {w : World} (hr : Rd w w.heap.size (.slice A l.length c) (cellsB l)) :
    Calls Try.prog 19 #[.slice A l.length c] w fun e w' => e = .returned (.tuple #[hdV (sxRead l), .int .i64 ((sxErr l : Nat) : Int)]) ∧ Below w.heap.size w w' := by
  by_cases hE : sxE1 l = 0
  · exact rsxRead_good hr hE
  · have e := sxErr_one hE
    have e2 : sxRead l = Hd.zero := by unfold sxRead; rw [if_neg (by rw [e]; exact hE)]
    rw [e, e2]
    exact rsxRead_bad hr hE
end Go.Proofs.Ytejppekcniehpaa
