/-
  The walk of IpfourSpoilt.
-/
import Derived.Test.YtepibdjglfaniaaIfL
import Derived.Test.YtepibdjglfaniaaHdOpen
import Derived.Test.YtepibdjglfaniaaMineSet
namespace Go.Proofs.Ytepibdjglfaniaa
open Go.RowKit
theorem u8_of {n : Int} (h : (Lit.int .u8 n).wf = true) : ∃ x : UInt8, n = (x.toNat : Int) := lit_u8 h
theorem u8_add (x y : UInt8) : IntKind.u8.wrap ((x.toNat : Int) + (y.toNat : Int)) = ((x + y).toNat : Int) := by
  rw [IntKind.wrap_u8', UInt8.toNat_add]
  omega
set_option maxRecDepth 100000 in
set_option maxHeartbeats 1000000 in
theorem ipfourSpoilt_walk (h : Hd) (a b : Int) (w : World) (hh : h.Wide ∧ -9223372036854775808 ≤ h.pos ∧ h.pos ≤ 9223372036854775807) (wa : (Lit.int .u8 a).wf = true) (wb : (Lit.int .u8 b).wf = true) :
    Calls Try.prog 4 #[hdV h, .int .u8 a, .int .u8 b] w fun e w' => e = .returned (.bool true) ∧ Below w.heap.size w w' := by
  have hw := hh.1
  clear hh
  rw [hdV]
  obtain ⟨at_, rfl⟩ := u8_of wa
  obtain ⟨y, rfl⟩ := u8_of wb
  clear wa wb
  have hat : HdAt (w.alloc (.cells (hdC h).toArray 28)) w.heap.size h := heap_alloc_last w (.cells (hdC h).toArray 28)
  have hat0 := hat
  unfold HdAt at hat0
  have hb0 := up_alloc (Below.refl w.heap.size w) (.cells (hdC h).toArray 28)
  have hb1 := up_alloc hb0 (.cells (cellsB [1, 2, 3]).toArray 5)
  have hi := info_hdA hw
  have hlv := Lib.hid ifLives_any
  have hz0 : (w.alloc (.cells (hdC h).toArray 28)).heap.size = w.heap.size + 1 := by simp
  have hlit := rd_lit (w.alloc (.cells (hdC h).toArray 28)) 5 [1, 2, 3] (by simp)
  rw [hz0] at hlit
  by_cases hm : h.may = true
  · have hlen := ifBytes_length h hw hm [1, 2, 3] (by simp)
    have hlen23 : (ifBytes h [1, 2, 3]).length = 23 := hlen
    have hwr : Hid (Calls Try.prog 10 #[.agg (hdC h).toArray, .slice (some ⟨w.heap.size + 1, 0, none⟩) 3 3] ((w.alloc (.cells (hdC h).toArray 28)).alloc (.cells (cellsB [1, 2, 3]).toArray 5)) fun e w' => ∃ g c, e = .returned (.tuple #[.slice (some ⟨g, 0, none⟩) 23 c, .int .i64 0]) ∧ w.heap.size ≤ g ∧ Mine w' w.heap.size 5 (.slice (some ⟨g, 0, none⟩) 23 c) (cellsB (ifBytes h [1, 2, 3])) ∧ Below w.heap.size w w') := Lib.hid <| by
      refine (ifWrite_ok h hw hm _ 3 [1, 2, 3] (by simp) ((w.alloc (.cells (hdC h).toArray 28)).alloc (.cells (cellsB [1, 2, 3]).toArray 5)) (w.heap.size + 1 + 1) (by simp) hlit).mono ?_
      rintro e w' ⟨v, rfl, hv, hb⟩
      obtain ⟨g, c, rfl, _, _⟩ := hv.addr (by omega)
      rw [hlen23] at hv ⊢
      have hv2 := hv.weaken (base' := w.heap.size) (by simp; omega)
      exact ⟨g, c, rfl, hv2.lt.1, hv2, up hb1 hb⟩
    obtain ⟨i, hi20⟩ : ∃ i, i = at_.toNat % 20 := ⟨_, rfl⟩
    have hil : i < 20 := by omega
    have him : (at_.toNat : Int).tmod 20 = (i : Int) := by rw [Int.tmod_eq_emod_of_nonneg (by omega)]; omega
    obtain ⟨x, hx⟩ : ∃ x, (ifBytes h [1, 2, 3])[i]? = some x := ⟨_, List.getElem?_eq_getElem (by omega)⟩
    obtain ⟨z, hz⟩ : ∃ z, z = x + y := ⟨_, rfl⟩
    have hadd := u8_add x y
    rw [← hz] at hadd
    have hcx : (cellsB (ifBytes h [1, 2, 3]))[i]? = some (.int .u8 (x.toNat : Int)) := by
      have hj := cellsB_at (ifBytes h [1, 2, 3]) i (by omega)
      rw [List.getElem?_eq_getElem (show i < (ifBytes h [1, 2, 3]).length by omega)] at hx
      rw [hj, Option.some.inj hx]
    obtain ⟨bs, hbs⟩ : ∃ bs, bs = (ifBytes h [1, 2, 3]).set i z := ⟨_, rfl⟩
    have hbl : bs.length = 23 := by rw [hbs, List.length_set]; exact hlen23
    have hE : ((ifErr bs : Int) == 0) = ((y.toNat : Int) == 0) := by
      by_cases hy : y = 0
      · subst hy
        have : z = x := by rw [hz]; simp
        rw [this] at hbs
        have e : bs = ifBytes h [1, 2, 3] := by
          rw [hbs]
          apply List.ext_getElem?
          intro k
          rw [List.getElem?_set]
          split
          · rename_i hk
            subst hk
            rw [if_pos (by omega), hx]
          · rfl
        rw [e, (ifBack h hw hm [1, 2, 3] (by simp)).1]
        rfl
      · have hne : z ≠ x := fun e => hy (by
          rw [hz] at e
          have h2 : x + y = x + 0 := by rw [e]; simp
          exact UInt8.add_right_inj _ |>.1 h2)
        have h1 := ifSpoilt h hw hm [1, 2, 3] rfl i hil x z hx hne
        rw [← hbs] at h1
        have h2 : y.toNat ≠ 0 := fun e => hy (UInt8.toNat_inj.1 e)
        rw [show ((ifErr bs : Int) == 0) = false by simp; omega, show ((y.toNat : Int) == 0) = false by simp; omega]
    have hS : Hid (∀ W g c, w.heap.size ≤ g → Mine W w.heap.size 5 (.slice (some ⟨g, 0, none⟩) 23 c) (cellsB (ifBytes h [1, 2, 3])) → Below w.heap.size w W → W.cell? ⟨g, i, none⟩ = some (.int .u8 (x.toNat : Int)) ∧ W.frozen? ⟨g, i, none⟩ = false ∧ Rd (W.setCell ⟨g, i, none⟩ (.int .u8 (z.toNat : Int))) (W.setCell ⟨g, i, none⟩ (.int .u8 (z.toNat : Int))).heap.size (.slice (some ⟨g, 0, none⟩) 23 c) (cellsB bs) ∧ Below w.heap.size w (W.setCell ⟨g, i, none⟩ (.int .u8 (z.toNat : Int)))) := Lib.hid fun W g c hg hv hb => by
      have h3 := hv.stored i (.int .u8 (z.toNat : Int))
      rw [cellsB_set, ← hbs] at h3
      exact ⟨hv.cellAt hcx, hv.free i, h3.rd, hb.setCell (p := ⟨g, i, none⟩) hg _⟩
    have hrd : Hid (∀ W A c, Rd W W.heap.size (.slice A 23 c) (cellsB bs) → Calls Try.prog 7 #[.slice A 23 c] W fun e w' => ∃ D : List Value, e = .returned (.tuple #[.agg D.toArray, .int .i64 ((ifErr bs : Nat) : Int)]) ∧ D.length = 39 ∧ (∀ u ∈ D, u.oneCell' = true) ∧ Below W.heap.size W w') := Lib.hid fun W A c hr => by
      rw [← hbl] at hr ⊢
      refine (ifRead_any hr).mono ?_
      rintro e w' ⟨rfl, hb⟩
      exact ⟨_, rfl, hdC_length (ifRead_wide bs), hdC_one _, hb⟩
    have hzz : ∀ w, (zeroValue 28).run Try.prog w = .ok (.agg (hdC Hd.zero).toArray) w := zero_hd
    have hZl := hdC_length Hd.zero_wide
    clear hlen hlen23 hx hz hcx hbs hbl hi20 hlit hb0 hb1 hz0 hat
    generalize ifErr bs = er at *
    generalize hdC Hd.zero = Z at *
    generalize (hdC h).toArray = C at *
    obtain ⟨pb, hpb⟩ : ∃ pb : Bool, pb = ((y.toNat : Int) == 0) := ⟨_, rfl⟩
    rw [← hpb] at hE
    have hpb' : ((y.toNat : Int) == 0) = pb := hpb.symm
    clear hpb hw hm
    have hi1 : (i : Int) < 23 := by omega
    go_enter Try.func4, Try.ntmps4
    go_wp2_with (first
      | ((with_reducible refine wpList_load_row (o := ⟨some 12, .load 28 (.tmp 3), _, _, _, _⟩) rfl 28 (.tmp 3) rfl w.heap.size ?_ 28 C (0, 0) _ hat0 Try.underlying28 rfl hi ?_); exact rfl)
      | (go_at_call 10; refine hwr.out.mono ?_; rintro _ w1 ⟨g, c, rfl, hg, hv, hbw⟩; obtain ⟨kc, kf, kr, kb⟩ := hS.out w1 g c hg hv hbw; have HR := Lib.hid kr; have HB := Lib.hid kb; clear hv hbw kr kb hg)
      | (go_at_call 7; refine (hrd.out _ _ _ HR.out).mono ?_; rintro _ w2 ⟨D, rfl, hDl, hD1, hb2⟩; have HB2 := Lib.hid (up_alloc (up HB.out hb2) (.cells D.toArray 28)); have hxi : (Try.prog.info? 28).map (·.size) = some D.toArray.size := (by rw [List.size_toArray, hDl]; kernel_rfl); have hzs : Z.toArray.size = D.toArray.size := (by rw [List.size_toArray, List.size_toArray, hDl, hZl]); have hxa := all_oneCell_toArray hD1; clear hb2 hDl hD1)
      | (with_reducible refine wpList_alloc_zero (o := ⟨some 9, .alloc 28, _, _, _, _⟩) rfl 28 rfl Z.toArray hzz ?_)
      | ((with_reducible refine wpList_store_new (o := ⟨none, .store 28 (.tmp 9) (.tmp 37), _, _, _, _⟩) rfl 28 (.tmp 9) (.tmp 37) rfl Z.toArray D.toArray ?_ ?_ hxi hzs hxa ?_); exact rfl; exact rfl)
      | (go_at_call 9; refine (hlv.out _).mono ?_; rintro _ w3 ⟨rfl, hb3⟩))
    go_ret
    exact ⟨rfl, up HB2.out hb3⟩
  · have hmf : h.may = false := by simpa using hm
    have hwr := Lib.hid (fun v W => ifWrite_arg h hw hmf v W)
    clear hlit hb0 hb1 hz0 hat hw hm hmf
    have HB := Lib.hid (up_alloc (up_alloc (Below.refl w.heap.size w) (.cells (hdC h).toArray 28)) (.cells (cellsB [1, 2, 3]).toArray 5))
    rw [hdV] at hwr
    generalize (hdC h).toArray = C at *
    go_enter Try.func4, Try.ntmps4
    go_wp2_with (first
      | ((with_reducible refine wpList_load_row (o := ⟨some 12, .load 28 (.tmp 3), _, _, _, _⟩) rfl 28 (.tmp 3) rfl w.heap.size ?_ 28 C (0, 0) _ hat0 Try.underlying28 rfl hi ?_); exact rfl)
      | (go_at_call 10; refine (hwr.out _ _).mono ?_; rintro _ w1 ⟨rfl, hbw⟩)
      | (go_at_call 9; refine (hlv.out _).mono ?_; rintro _ w3 ⟨rfl, hb3⟩))
    go_ret
    exact ⟨rfl, up (up HB.out hbw) hb3⟩
end Go.Proofs.Ytepibdjglfaniaa
