/-
  The walk of SegSpoilt.
-/
import Derived.Test.YtalchhfpdojjjaaSgI
import Derived.Test.YtalchhfpdojjjaaMineSet
import Derived.StillTailTactics
namespace Go.Proofs.Ytalchhfpdojjjaa
open Go.RowKit
theorem sgU8_add (x y : UInt8) : ((x.toNat : Int) + (y.toNat : Int)) % 256 = ((x + y).toNat : Int) := by
  rw [UInt8.toNat_add]
  omega
/-- Write of whatever head: an error, or bytes. -/
theorem sgWrite_err (h : Hd) (hw : h.Wide) (s : Sg) (hne : ¬ ((h.proto = 6 ∨ h.proto = 17) ∧ sgMay h s = true)) (v : Value) (w : World) :
    Calls Try.prog 13 #[hdV h, sgV s, v] w fun e w' => ∃ E : Int, e = .returned (.tuple #[.slice none 0 0, .int .i64 E]) ∧ (E != 0) = true ∧ Below w.heap.size w w' := by
  by_cases hp : h.proto = 6 ∨ h.proto = 17
  · have hm : sgMay h s = false := by
      cases hx : sgMay h s with
      | false => rfl
      | true => exact absurd ⟨hp, hx⟩ hne
    exact (sgWrite_arg h hw s hp hm v w).mono fun e w' h => ⟨1, h.1, rfl, h.2⟩
  · exact (sgWrite_none h hw s (fun e => hp (.inl e)) (fun e => hp (.inr e)) v w).mono fun e w' h => ⟨6, h.1, rfl, h.2⟩
set_option maxRecDepth 100000 in
set_option maxHeartbeats 1000000 in
theorem segSpoilt_walk (h : Hd) (s0 : Sg) (ds : List UInt8) (w : World) (hh : h.Wide ∧ -9223372036854775808 ≤ h.pos ∧ h.pos ≤ 9223372036854775807) (hs0 : s0.src < 65536 ∧ s0.dst < 65536) (hd : ds.length = 3) :
    Calls Try.prog 5 #[hdV h, sgV s0, .agg (cellsB ds).toArray] w fun e w' => e = .returned (.bool true) ∧ Below w.heap.size w w' := by
  have hw := hh.1
  clear hh
  obtain ⟨s, hsd⟩ : ∃ s : Sg, s = ⟨s0.src, s0.dst, s0.flags, s0.sumAt, false, s0.data⟩ := ⟨_, rfl⟩
  have hs : s.src < 65536 ∧ s.dst < 65536 := by rw [hsd]; exact hs0
  have hz0 : s.zero = false := by rw [hsd]
  have hset : (sgC s0).toArray.setIfInBounds 4 (.bool false) = (sgC s).toArray := by rw [hsd]; rfl
  have hlen6 : (sgC s0).toArray.size = 6 := rfl
  obtain ⟨a, y, d3, rfl⟩ : ∃ a y d3, ds = [a, y, d3] := by
    match ds, hd with
    | [a, y, d], _ => exact ⟨a, y, d, rfl⟩
  clear hd hs0 hsd
  obtain ⟨X, hX⟩ : ∃ X, X = ((w.alloc (.cells (hdC h).toArray 26)).alloc (.cells (sgC s).toArray 34)).alloc (.cells (cellsB [a, y, d3]).toArray 39) := ⟨_, rfl⟩
  have hXs : X.heap.size = w.heap.size + 1 + 1 + 1 := by rw [hX]; simp
  have hXb := Lib.hid (show Below w.heap.size w X by rw [hX]; exact up_alloc (up_alloc (up_alloc (Below.refl _ _) _) _) _)
  have hat0 : X.heap[w.heap.size]? = some (.cells (hdC h).toArray 26 (0, 0)) := by
    rw [hX]; exact (heap_alloc_old _ _ (by simp; omega)).trans ((heap_alloc_old _ _ (by simp)).trans (heap_alloc_last w _))
  have hat1 : X.heap[w.heap.size + 1]? = some (.cells (sgC s).toArray 34 (0, 0)) := by
    rw [hX]
    refine (heap_alloc_old _ _ (by simp)).trans ?_
    have := heap_alloc_last (w.alloc (.cells (hdC h).toArray 26)) (.cells (sgC s).toArray 34)
    rwa [show (w.alloc (.cells (hdC h).toArray 26)).heap.size = w.heap.size + 1 by simp] at this
  have hat2 : X.heap[w.heap.size + 1 + 1]? = some (.cells (cellsB [a, y, d3]).toArray 39 (0, 0)) := by
    rw [hX]
    have := heap_alloc_last ((w.alloc (.cells (hdC h).toArray 26)).alloc (.cells (sgC s).toArray 34)) (.cells (cellsB [a, y, d3]).toArray 39)
    rwa [show ((w.alloc (.cells (hdC h).toArray 26)).alloc (.cells (sgC s).toArray 34)).heap.size = w.heap.size + 1 + 1 by simp] at this
  have hi := info_hdA hw
  have hsi := info_sgA s
  have hlv := Lib.hid sgLives_any
  have hbl := Lib.hid (up_alloc (Below.refl X.heap.size X) (.cells (cellsB [1, 2, 3, 4, 5]).toArray 5))
  have hlit := rd_lit X 5 [1, 2, 3, 4, 5] (by simp)
  by_cases hok : (h.proto = 6 ∨ h.proto = 17) ∧ sgMay h s = true
  · obtain ⟨hp, hm⟩ := hok
    obtain ⟨N, hN⟩ : ∃ N, N = (sgBytes h s [1, 2, 3, 4, 5]).length := ⟨_, rfl⟩
    have hN13 : 13 ≤ N ∧ N ≤ 25 := by
      rw [hN, sgBytes_length]
      rcases hp with e | e <;> rw [e] <;> decide
    have hwr : Hid (Calls Try.prog 13 #[.agg (hdC h).toArray, .agg (sgC s).toArray, .slice (some ⟨X.heap.size, 0, none⟩) 5 5] (X.alloc (.cells (cellsB [1, 2, 3, 4, 5]).toArray 5)) fun e w' => ∃ g c, e = .returned (.tuple #[.slice (some ⟨g, 0, none⟩) N c, .int .i64 0]) ∧ X.heap.size ≤ g ∧ Mine w' X.heap.size 5 (.slice (some ⟨g, 0, none⟩) N c) (cellsB (sgBytes h s [1, 2, 3, 4, 5])) ∧ Below X.heap.size X w') := Lib.hid <| by
      have hz : (X.alloc (.cells (cellsB [1, 2, 3, 4, 5]).toArray 5)).heap.size = X.heap.size + 1 := by simp
      refine (sgWrite_ok h hw s hs hp hm _ 5 [1, 2, 3, 4, 5] (by simp) (X.alloc (.cells (cellsB [1, 2, 3, 4, 5]).toArray 5)) (by rw [hz]; exact hlit)).mono ?_
      rintro e w' ⟨v, rfl, hv, hb⟩
      obtain ⟨g, c, rfl, _, _⟩ := hv.addr (by rw [← hN]; omega)
      rw [← hN] at hv ⊢
      have hv2 := hv.weaken (base' := X.heap.size) (by rw [hz]; omega)
      exact ⟨g, c, rfl, hv2.lt.1, hv2, up hbl.out hb⟩
    obtain ⟨k, hk⟩ : ∃ k, k = a.toNat % N := ⟨_, rfl⟩
    have hkN : k < N := by rw [hk]; exact Nat.mod_lt _ (by omega)
    have hkm : (a.toNat : Int).tmod (N : Int) = (k : Int) := by rw [Int.tmod_eq_emod_of_nonneg (by omega), hk]; rfl
    obtain ⟨x, hx⟩ : ∃ x, (sgBytes h s [1, 2, 3, 4, 5])[k]? = some x := ⟨_, List.getElem?_eq_getElem (by omega)⟩
    have hadd := sgU8_add x y
    have hcx : (cellsB (sgBytes h s [1, 2, 3, 4, 5]))[k]? = some (.int .u8 (x.toNat : Int)) := by
      have hj := cellsB_at (sgBytes h s [1, 2, 3, 4, 5]) k (by omega)
      rw [List.getElem?_eq_getElem (show k < (sgBytes h s [1, 2, 3, 4, 5]).length by omega)] at hx
      rw [hj, Option.some.inj hx]
    obtain ⟨bs, hbs⟩ : ∃ bs, bs = (sgBytes h s [1, 2, 3, 4, 5]).set k (x + y) := ⟨_, rfl⟩
    have hbl5 : bs.length = N := by rw [hbs, List.length_set, hN]
    have hE : (y = 0 → sgErr h bs = 0) ∧ (y ≠ 0 → ((sgErr h bs : Int) == 0) = (sgRead h bs).zero) := by
      refine ⟨fun hy => ?_, fun hy => ?_⟩
      · subst hy
        have e : bs = sgBytes h s [1, 2, 3, 4, 5] := by
          rw [hbs, show x + 0 = x by simp]
          apply List.ext_getElem?
          intro j
          rw [List.getElem?_set]
          split
          · rename_i hj
            subst hj
            rw [if_pos (by omega), hx]
          · rfl
        rw [e]
        exact (sgBack h hw s hs hp hm [1, 2, 3, 4, 5] (by simp)).1
      · have hne : x + y ≠ x := fun e => hy (by
          have h2 : x + y = x + 0 := by rw [e]; simp
          exact UInt8.add_right_inj _ |>.1 h2)
        have h1 := sgSpoilt h hw s hs hz0 hp hm [1, 2, 3, 4, 5] (by simp) k x (x + y) hx hne
        rw [← hbs] at h1
        by_cases he : sgErr h bs = 0
        · rw [h1.1 he, he]; rfl
        · have : (sgRead h bs).zero = false := by
            cases hzr : (sgRead h bs).zero with
            | false => rfl
            | true => exact absurd (h1.2 hzr) he
          rw [this]
          exact beq_zero he
    have hK : Hid (∀ W g c, X.heap.size ≤ g → Mine W X.heap.size 5 (.slice (some ⟨g, 0, none⟩) N c) (cellsB (sgBytes h s [1, 2, 3, 4, 5])) → Below X.heap.size X W → (W.cell? ⟨g, k, none⟩ = some (.int .u8 (x.toNat : Int)) ∧ W.frozen? ⟨g, k, none⟩ = false ∧ W.cell? ⟨w.heap.size + 1 + 1, 0, none⟩ = some (.int .u8 (a.toNat : Int)) ∧ W.cell? ⟨w.heap.size + 1 + 1, 1, none⟩ = some (.int .u8 (y.toNat : Int))) ∧ (Rd (W.setCell ⟨g, k, none⟩ (.int .u8 (((x.toNat : Int) + (y.toNat : Int)) % 256))).drew (W.setCell ⟨g, k, none⟩ (.int .u8 (((x.toNat : Int) + (y.toNat : Int)) % 256))).drew.heap.size (.slice (some ⟨g, 0, none⟩) N c) (cellsB bs) ∧ Below X.heap.size X (W.setCell ⟨g, k, none⟩ (.int .u8 (((x.toNat : Int) + (y.toNat : Int)) % 256))).drew)) := Lib.hid fun W g c hg hv hb => by
      have h3 := (hv.stored k (.int .u8 ((x + y).toNat : Int))).drew
      rw [cellsB_set, ← hbs] at h3
      rw [hadd]
      have c0 : W.heap[w.heap.size + 1 + 1]? = some (.cells (cellsB [a, y, d3]).toArray 39 (0, 0)) := (hb.block _ (by omega)).trans hat2
      exact ⟨⟨hv.cellAt hcx, hv.free k, by rw [cell_of_row W _ 0 _ _ _ c0]; rfl, by rw [cell_of_row W _ 1 _ _ _ c0]; rfl⟩, h3.rd, (hb.setCell (p := ⟨g, k, none⟩) hg _).drew⟩
    have hC : Hid (∀ W, Below X.heap.size X W → W.heap[w.heap.size]? = some (.cells (hdC h).toArray 26 (0, 0)) ∧ W.cell? ⟨w.heap.size + 1 + 1, 1, none⟩ = some (.int .u8 (y.toNat : Int))) := Lib.hid fun W hb => by
      have c0 : W.heap[w.heap.size + 1 + 1]? = some (.cells (cellsB [a, y, d3]).toArray 39 (0, 0)) := (hb.block _ (by omega)).trans hat2
      exact ⟨(hb.block _ (by omega)).trans hat0, by rw [cell_of_row W _ 1 _ _ _ c0]; rfl⟩
    obtain ⟨zb, hzb⟩ : ∃ zb, zb = (sgRead h bs).zero := ⟨_, rfl⟩
    have hrd : Hid (∀ W A c, Rd W W.heap.size (.slice A N c) (cellsB bs) → Calls Try.prog 11 #[.agg (hdC h).toArray, .slice A N c] W fun e w' => e = .returned (.tuple #[.agg (sgC (sgRead h bs)).toArray, .int .i64 ((sgErr h bs : Nat) : Int)]) ∧ Below W.heap.size W w') := Lib.hid fun W A c hr => by
      rw [← hbl5] at hr ⊢
      exact sgRead_any h hw hr (by omega)
    have hS2 : Hid (∀ W : World, Below X.heap.size X W → ∃ W', (storeCells ⟨W.heap.size, 0, none⟩ (sgC (sgRead h bs))).run Try.prog (W.alloc (.cells (sgC Sg.none).toArray 34)) = .ok () W' ∧ W'.cell? ⟨W.heap.size, 4, none⟩ = some (.bool zb) ∧ W'.cell? ⟨w.heap.size + 1 + 1, 1, none⟩ = some (.int .u8 (y.toNat : Int)) ∧ Below X.heap.size X W') := Lib.hid fun W hb => by
      obtain ⟨W', _, hat, hgr, _, hsc⟩ := store_sg (w := W.alloc (.cells (sgC Sg.none).toArray 34)) (g := W.heap.size) (a := Sg.none) (b := sgRead h bs) (heap_alloc_last W _)
      have hb2 : Below X.heap.size X W' := grown_below (up_alloc hb _) hgr hb.size
      refine ⟨W', hsc, ?_, (hC.out W' hb2).2, hb2⟩
      rw [hzb]
      exact (sgC_cell hat).2.2.2.2.1
    have hzs : ∀ w, (zeroValue 34).run Try.prog w = .ok (.agg (sgC Sg.none).toArray) w := zero_sg
    have hRl : (sgC (sgRead h bs)).length = 6 := rfl
    rw [← hzb] at hE
    clear hx hcx hbs hbl5 hN hk hadd hlit hs hm hp hw hat2 hbl
    generalize hRC : sgC (sgRead h bs) = RC at *
    generalize sgErr h bs = er at *
    generalize sgC Sg.none = ZS at *
    clear hRC hzb
    unfold hdV sgV
    generalize hCC : (hdC h).toArray = C at *
    generalize hSC : (sgC s).toArray = SC at *
    generalize (sgC s0).toArray = SC0 at *
    clear hCC hSC hz0
    have k1 : (k : Int) < (N : Int) := by omega
    have k2 : (0 : Int) ≤ (k : Int) := by omega
    have k3 : (k : Int).toNat = k := rfl
    have hN0 : ((N : Int) == 0) = false := beq_zero (by omega)
    have hN13' := hN13.1
    have hal := a.toNat_lt
    have hkw : Hid (wrap64 (a.toNat : Int) = (a.toNat : Int)) := Lib.hid (IntWalk.wrap64_in _ (by omega))
    clear hal
    by_cases hy : y = 0
    · have hyb : ((y.toNat : Int) == 0) = true := by rw [hy]; rfl
      have he0 := hE.1 hy
      subst he0
      clear hE hy hkN hN13
      subst hX
      rw [hXs] at hwr hK hC hS2
      clear hXs
      replace hkw := hkw.out
      go_enter Try.func5, Try.ntmps5
      go_wp2_with (first
        | ((with_reducible refine wpList_load_row (o := ⟨some 14, .load 26 (.tmp 3), _, _, _, _⟩) rfl 26 (.tmp 3) rfl w.heap.size ?_ 26 C (0, 0) _ hat0 Try.underlying26 rfl hi ?_); exact rfl)
        | ((with_reducible refine wpList_load_row (o := ⟨some 15, .load 34 (.tmp 4), _, _, _, _⟩) rfl 34 (.tmp 4) rfl (w.heap.size + 1) ?_ 34 SC (0, 0) _ hat1 Try.underlying34 rfl hsi ?_); exact rfl)
        | (go_at_call 13; refine hwr.out.mono ?_; rintro _ w1 ⟨g, c, rfl, hg, hv, hbw⟩; obtain ⟨⟨kc, kf, c0, c1⟩, kr, kb⟩ := hK.out w1 g c hg hv hbw; have HR := Lib.hid kr; have HB := Lib.hid kb; clear hv hbw kr kb hg hat0 hat1 hwr))
      have kcd : w1.drew.cell? ⟨g, k, none⟩ = some (.int .u8 (x.toNat : Int)) := kc
      have kfd : w1.drew.frozen? ⟨g, k, none⟩ = false := kf
      have c1d : w1.drew.cell? ⟨w.heap.size + 1 + 1, 1, none⟩ = some (.int .u8 (y.toNat : Int)) := c1
      refine wp_region_held_drew (S := fun w' => w'.cell? ⟨w.heap.size + 1 + 1, 1, none⟩ = some (.int .u8 (y.toNat : Int))) (by kernel_rfl) c1d (fun hHeld => ?_)
      refine th 0 ?_
      go_frame
      refine th 1 ?_
      go_frame
      refine th 2 ?_
      go_frame
      refine th 3 ?_
      go_frame
      refine th 4 ?_
      go_frame
      refine th 6 ?_
      go_frame
      refine th 7 ?_
      go_frame
      refine wpAnyH_ready (rs := [5]) (by kernel_rfl) (by simp) (AllReadyH.cons (o := ⟨some 38, .load 5 (.tmp 37), _, _, _, none⟩) rfl (fun K hK => ?_) AllReadyH.nil)
      rw [if_pos (by kernel_rfl)]
      go_simp
      refine hK.out _ _ (c1d) (fun _ => ?_)
      clear hK K
      try go_frame
      refine th 8 ?_
      go_frame
      refine th 9 ?_
      go_frame
      refine wpAnyH_ready (rs := [10]) (by kernel_rfl) (by simp) (AllReadyH.cons (o := ⟨none, .store 5 (.tmp 42) (.tmp 41), _, _, _, none⟩) rfl (fun K hK => ?_) AllReadyH.nil)
      rw [if_pos (by kernel_rfl)]
      go_simp
      refine hK.out _ _ ((hC.out _ HB.out).2) (fun _ => ?_)
      clear hK K
      try go_frame
      refine wpAnyH_done (by kernel_rfl) ?_ _
      obtain ⟨hath, _⟩ := hC.out _ HB.out
      rw [IntKind.wrap_u8']
      go_wp2_with (first
        | ((with_reducible refine wpList_load_row (o := ⟨some 44, .load 26 (.tmp 3), _, _, _, _⟩) rfl 26 (.tmp 3) rfl w.heap.size ?_ 26 C (0, 0) _ hath Try.underlying26 rfl hi ?_); exact rfl)
        | (go_at_call 11; refine (hrd.out _ _ _ HR.out).mono ?_; rintro _ w2 ⟨rfl, hb2⟩; obtain ⟨w3, hst, c4, c5, hb3⟩ := hS2.out w2 (HB.out.trans (hb2.mono (by have := HB.out.size; simp at this ⊢; omega))); have HB3 := Lib.hid (hXb.out.trans (hb3.mono (by omega))); clear hb2 hb3)
        | (with_reducible refine wpList_alloc_zero (o := ⟨some 10, .alloc 34, _, _, _, _⟩) rfl 34 rfl ZS.toArray hzs ?_)
        | (go_at_call 9; refine (hlv.out _).mono ?_; rintro _ w4 ⟨rfl, hb4⟩))
      go_ret
      exact ⟨rfl, up HB3.out hb4⟩
    · have hyb : ((y.toNat : Int) == 0) = false := beq_zero (fun e => hy (UInt8.toNat_inj.1 e))
      have he0 := hE.2 hy
      clear hE hy hkN hN13
      subst hX
      rw [hXs] at hwr hK hC hS2
      clear hXs
      replace hkw := hkw.out
      go_enter Try.func5, Try.ntmps5
      go_wp2_with (first
        | ((with_reducible refine wpList_load_row (o := ⟨some 14, .load 26 (.tmp 3), _, _, _, _⟩) rfl 26 (.tmp 3) rfl w.heap.size ?_ 26 C (0, 0) _ hat0 Try.underlying26 rfl hi ?_); exact rfl)
        | ((with_reducible refine wpList_load_row (o := ⟨some 15, .load 34 (.tmp 4), _, _, _, _⟩) rfl 34 (.tmp 4) rfl (w.heap.size + 1) ?_ 34 SC (0, 0) _ hat1 Try.underlying34 rfl hsi ?_); exact rfl)
        | (go_at_call 13; refine hwr.out.mono ?_; rintro _ w1 ⟨g, c, rfl, hg, hv, hbw⟩; obtain ⟨⟨kc, kf, c0, c1⟩, kr, kb⟩ := hK.out w1 g c hg hv hbw; have HR := Lib.hid kr; have HB := Lib.hid kb; clear hv hbw kr kb hg hat0 hat1 hwr))
      have kcd : w1.drew.cell? ⟨g, k, none⟩ = some (.int .u8 (x.toNat : Int)) := kc
      have kfd : w1.drew.frozen? ⟨g, k, none⟩ = false := kf
      have c1d : w1.drew.cell? ⟨w.heap.size + 1 + 1, 1, none⟩ = some (.int .u8 (y.toNat : Int)) := c1
      refine wp_region_held_drew (S := fun w' => w'.cell? ⟨w.heap.size + 1 + 1, 1, none⟩ = some (.int .u8 (y.toNat : Int))) (by kernel_rfl) c1d (fun hHeld => ?_)
      refine th 0 ?_
      go_frame
      refine th 1 ?_
      go_frame
      refine th 2 ?_
      go_frame
      refine th 3 ?_
      go_frame
      refine th 4 ?_
      go_frame
      refine th 6 ?_
      go_frame
      refine th 7 ?_
      go_frame
      refine wpAnyH_ready (rs := [5]) (by kernel_rfl) (by simp) (AllReadyH.cons (o := ⟨some 38, .load 5 (.tmp 37), _, _, _, none⟩) rfl (fun K hK => ?_) AllReadyH.nil)
      rw [if_pos (by kernel_rfl)]
      go_simp
      refine hK.out _ _ (c1d) (fun _ => ?_)
      clear hK K
      try go_frame
      refine th 8 ?_
      go_frame
      refine th 9 ?_
      go_frame
      refine wpAnyH_ready (rs := [10]) (by kernel_rfl) (by simp) (AllReadyH.cons (o := ⟨none, .store 5 (.tmp 42) (.tmp 41), _, _, _, none⟩) rfl (fun K hK => ?_) AllReadyH.nil)
      rw [if_pos (by kernel_rfl)]
      go_simp
      refine hK.out _ _ ((hC.out _ HB.out).2) (fun _ => ?_)
      clear hK K
      try go_frame
      refine wpAnyH_done (by kernel_rfl) ?_ _
      obtain ⟨hath, _⟩ := hC.out _ HB.out
      rw [IntKind.wrap_u8']
      go_wp2_with (first
        | ((with_reducible refine wpList_load_row (o := ⟨some 44, .load 26 (.tmp 3), _, _, _, _⟩) rfl 26 (.tmp 3) rfl w.heap.size ?_ 26 C (0, 0) _ hath Try.underlying26 rfl hi ?_); exact rfl)
        | (go_at_call 11; refine (hrd.out _ _ _ HR.out).mono ?_; rintro _ w2 ⟨rfl, hb2⟩; obtain ⟨w3, hst, c4, c5, hb3⟩ := hS2.out w2 (HB.out.trans (hb2.mono (by have := HB.out.size; simp at this ⊢; omega))); have HB3 := Lib.hid (hXb.out.trans (hb3.mono (by omega))); clear hb2 hb3)
        | (with_reducible refine wpList_alloc_zero (o := ⟨some 10, .alloc 34, _, _, _, _⟩) rfl 34 rfl ZS.toArray hzs ?_)
        | (go_at_call 9; refine (hlv.out _).mono ?_; rintro _ w4 ⟨rfl, hb4⟩))
      go_ret
      exact ⟨rfl, up HB3.out hb4⟩
  · have hwr := Lib.hid (fun v W => sgWrite_err h hw s hok v W)
    clear hok hlit hs hw hz0 hat2
    unfold hdV sgV at *
    generalize (hdC h).toArray = C at *
    generalize (sgC s).toArray = SC at *
    generalize (sgC s0).toArray = SC0 at *
    subst hX
    clear hXs
    go_enter Try.func5, Try.ntmps5
    go_wp2_with (first
      | ((with_reducible refine wpList_load_row (o := ⟨some 14, .load 26 (.tmp 3), _, _, _, _⟩) rfl 26 (.tmp 3) rfl w.heap.size ?_ 26 C (0, 0) _ hat0 Try.underlying26 rfl hi ?_); exact rfl)
      | ((with_reducible refine wpList_load_row (o := ⟨some 15, .load 34 (.tmp 4), _, _, _, _⟩) rfl 34 (.tmp 4) rfl (w.heap.size + 1) ?_ 34 SC (0, 0) _ hat1 Try.underlying34 rfl hsi ?_); exact rfl)
      | (go_at_call 13; refine (hwr.out _ _).mono ?_; rintro _ w1 ⟨E, rfl, hE, hbw⟩; have HB1 := Lib.hid (up (up hXb.out hbl.out) hbw); clear hbw)
      | (go_at_call 9; refine (hlv.out _).mono ?_; rintro _ w4 ⟨rfl, hb4⟩))
    go_ret
    exact ⟨rfl, up HB1.out hb4⟩
end Go.Proofs.Ytalchhfpdojjjaa
