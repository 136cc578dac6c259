/-
  The walk of SegOther.
-/
import Derived.Test.YtalchhfpdojjjaaSegSpoiltWalk
namespace Go.Proofs.Ytalchhfpdojjjaa
open Go.RowKit
theorem Mine.aside {w : World} {base : Nat} {e : TypeId} {v : Value} {xs : List Value} (h : Mine w base e v xs) {b i : Nat} {u : Value} (hb : b + 1 ≤ base) : Mine (w.setCell ⟨b, i, none⟩ u) base e v xs := by
  refine h.grown ⟨rfl, rfl, rfl, by simp, fun k _ hk => heap_setCell_other w _ k u (fun e => hk (by rw [e]))⟩ (row := some b) (.inr fun e => ?_)
  have := h.block _ e
  omega
/-- The last byte of where to. -/
def Hd.last (h : Hd) (z : UInt8) : Hd := ⟨h.six, h.proto, h.pos, h.src, ⟨h.dst.six, h.dst.b.set 15 z⟩, h.part, h.hops⟩
theorem Hd.last_wide {h : Hd} (hw : h.Wide) (z : UInt8) : (h.last z).Wide := ⟨hw.1, by show (h.dst.b.set 15 z).length = 16; rw [List.length_set]; exact hw.2⟩
theorem hdC_last {h : Hd} (hw : h.Wide) (z : UInt8) : (hdC h).toArray.setIfInBounds 36 (.int .u8 (z.toNat : Int)) = (hdC (h.last z)).toArray := by
  obtain ⟨s0, p0, n0, ⟨s1, x1⟩, ⟨s2, x2⟩, q0, k0⟩ := h
  obtain ⟨a1, a2, a3, a4, a5, a6, a7, a8, a9, a10, a11, a12, a13, a14, a15, a16, rfl⟩ := list16 hw.1
  obtain ⟨b1, b2, b3, b4, b5, b6, b7, b8, b9, b10, b11, b12, b13, b14, b15, b16, rfl⟩ := list16 hw.2
  rfl
theorem hdC_at36 {h : Hd} (hw : h.Wide) : ∃ x, h.dst.b[15]? = some x ∧ (hdC h)[36]? = some (.int .u8 (x.toNat : Int)) := by
  obtain ⟨s0, p0, n0, ⟨s1, x1⟩, ⟨s2, x2⟩, q0, k0⟩ := h
  obtain ⟨a1, a2, a3, a4, a5, a6, a7, a8, a9, a10, a11, a12, a13, a14, a15, a16, rfl⟩ := list16 hw.1
  obtain ⟨b1, b2, b3, b4, b5, b6, b7, b8, b9, b10, b11, b12, b13, b14, b15, b16, rfl⟩ := list16 hw.2
  exact ⟨b16, rfl, rfl⟩
set_option maxRecDepth 100000 in
set_option maxHeartbeats 1000000 in
theorem segOther_walk (h : Hd) (s0 : Sg) (y0 : Int) (w : World) (hh : h.Wide ∧ -9223372036854775808 ≤ h.pos ∧ h.pos ≤ 9223372036854775807) (hs0 : s0.src < 65536 ∧ s0.dst < 65536) (wy : (Lit.int .u8 y0).wf = true) :
    Calls Try.prog 6 #[hdV h, sgV s0, .int .u8 y0] w fun e w' => e = .returned (.bool true) ∧ Below w.heap.size w w' := by
  have hw := hh.1
  clear hh
  obtain ⟨y, rfl⟩ := lit_u8 wy
  clear wy
  obtain ⟨s, hsd⟩ : ∃ s : Sg, s = ⟨s0.src, s0.dst, s0.flags, s0.sumAt, false, s0.data⟩ := ⟨_, rfl⟩
  have hs : s.src < 65536 ∧ s.dst < 65536 := by rw [hsd]; exact hs0
  have hz0 : s.zero = false := by rw [hsd]
  have hset : (sgC s0).toArray.setIfInBounds 4 (.bool false) = (sgC s).toArray := by rw [hsd]; rfl
  have hlen6 : (sgC s0).toArray.size = 6 := rfl
  clear hs0 hsd
  obtain ⟨X, hX⟩ : ∃ X, X = (w.alloc (.cells (hdC h).toArray 26)).alloc (.cells (sgC s).toArray 34) := ⟨_, rfl⟩
  have hXs : X.heap.size = w.heap.size + 1 + 1 := by rw [hX]; simp
  have hXb := Lib.hid (show Below w.heap.size w X by rw [hX]; exact up_alloc (up_alloc (Below.refl _ _) _) _)
  have hat0 : X.heap[w.heap.size]? = some (.cells (hdC h).toArray 26 (0, 0)) := by
    rw [hX]; exact (heap_alloc_old _ _ (by simp)).trans (heap_alloc_last w _)
  have hat1 : X.heap[w.heap.size + 1]? = some (.cells (sgC s).toArray 34 (0, 0)) := by
    rw [hX]
    have := heap_alloc_last (w.alloc (.cells (hdC h).toArray 26)) (.cells (sgC s).toArray 34)
    rwa [show (w.alloc (.cells (hdC h).toArray 26)).heap.size = w.heap.size + 1 by simp] at this
  have hi := info_hdA hw
  have hsi := info_sgA s
  have hlv := Lib.hid sgLives_any
  have hbl := Lib.hid (up_alloc (Below.refl X.heap.size X) (.cells (cellsB [1, 2, 3]).toArray 5))
  have hlit := rd_lit X 5 [1, 2, 3] (by simp)
  by_cases hok : (h.proto = 6 ∨ h.proto = 17) ∧ sgMay h s = true
  · obtain ⟨hp, hm⟩ := hok
    obtain ⟨N, hN⟩ : ∃ N, N = (sgBytes h s [1, 2, 3]).length := ⟨_, rfl⟩
    have hN13 : 11 ≤ N ∧ N ≤ 25 := by
      rw [hN, sgBytes_length]
      rcases hp with e | e <;> rw [e] <;> decide
    obtain ⟨x, hx, hx36⟩ := hdC_at36 hw
    have hadd := sgU8_add x y
    have hC' := hdC_last hw (x + y)
    have hE : (y = 0 → sgErr (h.last (x + y)) (sgBytes h s [1, 2, 3]) = 0) ∧ (y ≠ 0 → sgErr (h.last (x + y)) (sgBytes h s [1, 2, 3]) = 5) := by
      refine ⟨fun hy => ?_, fun hy => ?_⟩
      · subst hy
        have e : h.last (x + 0) = h := by
          have : h.dst.b.set 15 (x + 0) = h.dst.b := by
            rw [show x + 0 = x by simp]
            apply List.ext_getElem?
            intro j
            rw [List.getElem?_set]
            split
            · rename_i hj
              subst hj
              rw [if_pos (by rw [show h.dst.b.length = 16 from hw.2]; omega), hx]
            · rfl
          unfold Hd.last
          rw [this]
        rw [e]
        exact (sgBack h hw s hs hp hm [1, 2, 3] (by simp)).1
      · have hne : x + y ≠ x := fun e => hy (by
          have h2 : x + y = x + 0 := by rw [e]; simp
          exact UInt8.add_right_inj _ |>.1 h2)
        exact sgOther h hw s hs hz0 hp hm [1, 2, 3] (by simp) x (x + y) hx hne
    have hwr : Hid (Calls Try.prog 13 #[.agg (hdC h).toArray, .agg (sgC s).toArray, .slice (some ⟨X.heap.size, 0, none⟩) 3 3] (X.alloc (.cells (cellsB [1, 2, 3]).toArray 5)) fun e w' => ∃ A c, e = .returned (.tuple #[.slice A N c, .int .i64 0]) ∧ w'.cell? ⟨w.heap.size, 36, none⟩ = some (.int .u8 (x.toNat : Int)) ∧ w'.frozen? ⟨w.heap.size, 36, none⟩ = false ∧ (Rd (w'.setCell ⟨w.heap.size, 36, none⟩ (.int .u8 (((x.toNat : Int) + (y.toNat : Int)) % 256))) (w'.setCell ⟨w.heap.size, 36, none⟩ (.int .u8 (((x.toNat : Int) + (y.toNat : Int)) % 256))).heap.size (.slice A N c) (cellsB (sgBytes h s [1, 2, 3])) ∧ Below w.heap.size w (w'.setCell ⟨w.heap.size, 36, none⟩ (.int .u8 (((x.toNat : Int) + (y.toNat : Int)) % 256)))) ∧ (w'.setCell ⟨w.heap.size, 36, none⟩ (.int .u8 (((x.toNat : Int) + (y.toNat : Int)) % 256))).heap[w.heap.size]? = some (.cells (hdC (h.last (x + y))).toArray 26 (0, 0))) := Lib.hid <| by
      have hz : (X.alloc (.cells (cellsB [1, 2, 3]).toArray 5)).heap.size = X.heap.size + 1 := by simp
      refine (sgWrite_ok h hw s hs hp hm _ 3 [1, 2, 3] (by simp) (X.alloc (.cells (cellsB [1, 2, 3]).toArray 5)) (by rw [hz]; exact hlit)).mono ?_
      rintro e w' ⟨v, rfl, hv, hb⟩
      have hv2 := hv.weaken (base' := X.heap.size) (by rw [hz]; omega)
      have hbX : Below X.heap.size X w' := up hbl.out hb
      have hat : w'.heap[w.heap.size]? = some (.cells (hdC h).toArray 26 (0, 0)) := (hbX.block _ (by omega)).trans hat0
      have hv3 := hv2.aside (b := w.heap.size) (i := 36) (u := .int .u8 (((x.toNat : Int) + (y.toNat : Int)) % 256)) (by omega)
      obtain ⟨A, c, rfl, hr⟩ := mine_slice (w := w) hv3 hN.symm
      refine ⟨A, c, rfl, ?_, frozen_of_row w' _ 36 _ _ hat, ⟨hr, (up hXb.out hbX).setCell (p := ⟨w.heap.size, 36, none⟩) (Nat.le_refl _) _⟩, ?_⟩
      · rw [cell_of_row w' _ 36 _ _ _ hat]
        simpa using hx36
      · rw [hadd, heap_setCell_same w' _ 36 _ _ _ hat, hC']
    have hw2 := Hd.last_wide hw (x + y)
    have hi2 := info_hdA hw2
    have hrd : Hid (∀ W A c, Rd W W.heap.size (.slice A N c) (cellsB (sgBytes h s [1, 2, 3])) → Calls Try.prog 11 #[.agg (hdC (h.last (x + y))).toArray, .slice A N c] W fun e w' => ∃ D : List Value, D.length = 6 ∧ e = .returned (.tuple #[.agg D.toArray, .int .i64 ((sgErr (h.last (x + y)) (sgBytes h s [1, 2, 3]) : Nat) : Int)]) ∧ ∃ w3, (storeCells ⟨w'.heap.size, 0, none⟩ D).run Try.prog (w'.alloc (.cells (sgC Sg.none).toArray 34)) = .ok () w3 ∧ Below W.heap.size W w3) := Lib.hid fun W A c hr => by
      rw [hN] at hr ⊢
      refine (sgRead_any (h.last (x + y)) hw2 hr (by omega)).mono ?_
      rintro e w' ⟨rfl, hb⟩
      obtain ⟨W', _, hat, hgr, _, hsc⟩ := store_sg (w := w'.alloc (.cells (sgC Sg.none).toArray 34)) (g := w'.heap.size) (a := Sg.none) (b := sgRead (h.last (x + y)) (sgBytes h s [1, 2, 3])) (heap_alloc_last w' _)
      exact ⟨_, rfl, rfl, W', hsc, grown_below (up_alloc hb _) hgr hb.size⟩
    have hzs : ∀ w, (zeroValue 34).run Try.prog w = .ok (.agg (sgC Sg.none).toArray) w := zero_sg
    clear hx hx36 hN hadd hlit hs hm hp hw hbl hC' hw2 hz0
    generalize sgErr (h.last (x + y)) (sgBytes h s [1, 2, 3]) = er at *
    generalize sgC Sg.none = ZS at *
    unfold hdV sgV
    generalize (hdC (h.last (x + y))).toArray = C2 at *
    generalize (hdC h).toArray = C at *
    generalize (sgC s).toArray = SC at *
    generalize (sgC s0).toArray = SC0 at *
    by_cases hy : y = 0
    · have hyb : ((y.toNat : Int) == 0) = true := by rw [hy]; rfl
      have he0 := hE.1 hy
      subst he0
      clear hE hy hN13
      subst hX
      rw [hXs] at hwr
      clear hXs
      go_enter Try.func6, Try.ntmps6
      go_wp2_with (first
        | ((with_reducible refine wpList_load_row (o := ⟨some 13, .load 26 (.tmp 3), _, _, _, _⟩) rfl 26 (.tmp 3) rfl w.heap.size ?_ 26 C (0, 0) _ hat0 Try.underlying26 rfl hi ?_); exact rfl)
        | ((with_reducible refine wpList_load_row (o := ⟨some 14, .load 34 (.tmp 4), _, _, _, _⟩) rfl 34 (.tmp 4) rfl (w.heap.size + 1) ?_ 34 SC (0, 0) _ hat1 Try.underlying34 rfl hsi ?_); exact rfl)
        | (go_at_call 13; refine hwr.out.mono ?_; rintro _ w1 ⟨A, c, rfl, kc, kf, ⟨kr, kb⟩, hath⟩; have HR := Lib.hid kr; have HB := Lib.hid kb; clear kr kb hat0 hat1 hwr)
        | ((with_reducible refine wpList_load_row (o := ⟨some 32, .load 26 (.tmp 3), _, _, _, _⟩) rfl 26 (.tmp 3) rfl w.heap.size ?_ 26 C2 (0, 0) _ hath Try.underlying26 rfl hi2 ?_); exact rfl)
        | (go_at_call 11; refine (hrd.out _ _ _ HR.out).mono ?_; rintro _ w2 ⟨D, hDl, rfl, w3, hst, hb3⟩; have HB3 := Lib.hid (up HB.out hb3); clear hb3)
        | (with_reducible refine wpList_alloc_zero (o := ⟨some 9, .alloc 34, _, _, _, _⟩) rfl 34 rfl ZS.toArray hzs ?_)
        | (go_at_call 9; refine (hlv.out _).mono ?_; rintro _ w4 ⟨rfl, hb4⟩))
      go_ret
      exact ⟨rfl, up HB3.out hb4⟩
    · have hyb : ((y.toNat : Int) == 0) = false := beq_zero (fun e => hy (UInt8.toNat_inj.1 e))
      have he0 := hE.2 hy
      subst he0
      clear hE hy hN13
      subst hX
      rw [hXs] at hwr
      clear hXs
      go_enter Try.func6, Try.ntmps6
      go_wp2_with (first
        | ((with_reducible refine wpList_load_row (o := ⟨some 13, .load 26 (.tmp 3), _, _, _, _⟩) rfl 26 (.tmp 3) rfl w.heap.size ?_ 26 C (0, 0) _ hat0 Try.underlying26 rfl hi ?_); exact rfl)
        | ((with_reducible refine wpList_load_row (o := ⟨some 14, .load 34 (.tmp 4), _, _, _, _⟩) rfl 34 (.tmp 4) rfl (w.heap.size + 1) ?_ 34 SC (0, 0) _ hat1 Try.underlying34 rfl hsi ?_); exact rfl)
        | (go_at_call 13; refine hwr.out.mono ?_; rintro _ w1 ⟨A, c, rfl, kc, kf, ⟨kr, kb⟩, hath⟩; have HR := Lib.hid kr; have HB := Lib.hid kb; clear kr kb hat0 hat1 hwr)
        | ((with_reducible refine wpList_load_row (o := ⟨some 32, .load 26 (.tmp 3), _, _, _, _⟩) rfl 26 (.tmp 3) rfl w.heap.size ?_ 26 C2 (0, 0) _ hath Try.underlying26 rfl hi2 ?_); exact rfl)
        | (go_at_call 11; refine (hrd.out _ _ _ HR.out).mono ?_; rintro _ w2 ⟨D, hDl, rfl, w3, hst, hb3⟩; have HB3 := Lib.hid (up HB.out hb3); clear hb3)
        | (with_reducible refine wpList_alloc_zero (o := ⟨some 9, .alloc 34, _, _, _, _⟩) rfl 34 rfl ZS.toArray hzs ?_)
        | (go_at_call 9; refine (hlv.out _).mono ?_; rintro _ w4 ⟨rfl, hb4⟩))
      go_ret
      exact ⟨rfl, up HB3.out hb4⟩
  · have hwr := Lib.hid (fun v W => sgWrite_err h hw s hok v W)
    clear hok hlit hs hw hz0
    unfold hdV sgV at *
    generalize (hdC h).toArray = C at *
    generalize (sgC s).toArray = SC at *
    generalize (sgC s0).toArray = SC0 at *
    subst hX
    clear hXs
    go_enter Try.func6, Try.ntmps6
    go_wp2_with (first
      | ((with_reducible refine wpList_load_row (o := ⟨some 13, .load 26 (.tmp 3), _, _, _, _⟩) rfl 26 (.tmp 3) rfl w.heap.size ?_ 26 C (0, 0) _ hat0 Try.underlying26 rfl hi ?_); exact rfl)
      | ((with_reducible refine wpList_load_row (o := ⟨some 14, .load 34 (.tmp 4), _, _, _, _⟩) rfl 34 (.tmp 4) rfl (w.heap.size + 1) ?_ 34 SC (0, 0) _ hat1 Try.underlying34 rfl hsi ?_); exact rfl)
      | (go_at_call 13; refine (hwr.out _ _).mono ?_; rintro _ w1 ⟨E, rfl, hE, hbw⟩; have HB1 := Lib.hid (up (up hXb.out hbl.out) hbw); clear hbw)
      | (go_at_call 9; refine (hlv.out _).mono ?_; rintro _ w4 ⟨rfl, hb4⟩))
    go_ret
    exact ⟨rfl, up HB1.out hb4⟩
end Go.Proofs.Ytalchhfpdojjjaa
