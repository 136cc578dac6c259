/-
  Parse: a contract.
-/
import Derived.Test.YtejppekcniehpaaPkC
import Derived.Test.YtejppekcniehpaaSgE
import Derived.Test.YtejppekcniehpaaNumC
namespace Go.Proofs.Ytejppekcniehpaa
open Go.RowKit
theorem exec_allocP {ρ : Operand → Value} {P : Program} {o : Oper} {t : TypeId} (ho : o.op = .alloc t) {Z : Array Value} (hz : ∀ w, (zeroValue t).run P w = .ok (.agg Z) w) (w : World) : (execOp ρ o).run P w = .ok (.value (.pointer (some ⟨w.heap.size, 0, none⟩))) (w.alloc (.cells Z t)) := by
  unfold execOp
  simp only [ho, Instr.alloc, Sem.run_bind, hz, Result.andThen_ok]
  rfl
theorem build_pk0 (W : World) : (Instr.build 39 #[]).run Try.prog W = .ok (pkV Pk.none) W := by kernel_rfl
theorem build_pk (h : Hd) (hh : h.Wide) (s : Sg) (f : Fl) (hf : f.Wide) (W : World) : (Instr.build 39 #[(0, hdV h), (1, sgV s), (2, flV f)]).run Try.prog W = .ok (pkV ⟨h, s, f⟩) W := by
  obtain ⟨s0, p0, n0, ⟨s1, x1⟩, ⟨s2, x2⟩, q0, k0⟩ := h
  obtain ⟨⟨s3, x3⟩, ⟨s4, x4⟩, u1, u2, u3⟩ := f
  obtain ⟨a1, a2, a3, a4, a5, a6, a7, a8, a9, a10, a11, a12, a13, a14, a15, a16, rfl⟩ := list16 hh.1
  obtain ⟨b1, b2, b3, b4, b5, b6, b7, b8, b9, b10, b11, b12, b13, b14, b15, b16, rfl⟩ := list16 hh.2
  obtain ⟨c1, c2, c3, c4, c5, c6, c7, c8, c9, c10, c11, c12, c13, c14, c15, c16, rfl⟩ := list16 hf.1
  obtain ⟨d1, d2, d3, d4, d5, d6, d7, d8, d9, d10, d11, d12, d13, d14, d15, d16, rfl⟩ := list16 hf.2.1
  kernel_rfl
/-- One row of cells read whole, where a block holds it. -/
theorem row_range {w : World} {g : Nat} {t : TypeId} {l : List Value} (h : w.heap[g]? = some (.cells l.toArray t (0, 0))) : w.rangeAt g 0 l := rangeAt_block h fun j u hu => by rw [Nat.zero_add]; exact hu
theorem hdC_pos {a : Hd} {w : World} {g : Nat} (hg : HdAt w g a) : w.cell? ⟨g, 2, none⟩ = some (.int .i64 a.pos) := by
  rw [cell_of_row w g 2 _ _ _ hg]; rfl
set_option maxRecDepth 100000 in
set_option maxHeartbeats 1000000 in
theorem pkParse_any {A : Option Addr} {c : Nat} {l : List UInt8} {w : World} (hr : Rd w w.heap.size (.slice A l.length c) (cellsB l)) :
    Calls Try.prog 23 #[.slice A l.length c] w fun e w' => e = .returned (.tuple #[pkV (pkRead l), .int .i64 ((pkErr l : Nat) : Int)]) ∧ Below w.heap.size w w' := by
  have hz : ∀ w, (zeroValue 39).run Try.prog w = .ok (.agg (pkC Pk.none).toArray) w := zero_pk
  have hzh : ∀ w, (zeroValue 33).run Try.prog w = .ok (.agg (hdC Hd.zero).toArray) w := zero_hd
  have hzs : ∀ w, (zeroValue 35).run Try.prog w = .ok (.agg (sgC Sg.none).toArray) w := zero_sg
  have hbu : ∀ W, (Instr.build 39 #[]).run Try.prog W = .ok (.agg (pkC Pk.none).toArray) W := build_pk0
  obtain ⟨_, _, e, hlc, _, _⟩ := hr.bytes
  injection e with e1 e2 e3
  subst e3
  clear e1 e2
  obtain ⟨X, hX⟩ : ∃ X, X = w.alloc (.cells (pkC Pk.none).toArray 39) := ⟨_, rfl⟩
  have hXs : X.heap.size = w.heap.size + 1 := by rw [hX]; simp
  have h0 : X.heap[w.heap.size]? = some (.cells (pkC Pk.none).toArray 39 (0, 0)) := by rw [hX]; exact heap_alloc_last w _
  have hb0 : Below w.heap.size w X := by rw [hX]; exact up_alloc (Below.refl _ _) _
  have hrX : Rd X X.heap.size (.slice A l.length c) (cellsB l) := (hr.below hb0).more hb0.size
  have hS : Hid (∀ y : Pk, y.Wide → ∀ W, Below X.heap.size X W → ∃ W', (Instr.storeAt 39 (.pointer (some ⟨w.heap.size, 0, none⟩)) (.agg (pkC y).toArray)).run Try.prog W = .ok () W' ∧ PkAt W' w.heap.size y ∧ Below w.heap.size w W' ∧ W.grownBy W' (some w.heap.size)) := Lib.hid fun y hy W hW => by
    obtain ⟨W', hst, hat, hgr, _⟩ := store_pk (w := W) (g := w.heap.size) (a := Pk.none) (b := y) ((hW.block _ (by omega)).trans h0) Pk.none_wide hy
    exact ⟨W', hst, hat, grown_below (up hb0 hW) hgr (Nat.le_refl _), hgr⟩
  have hq := Lib.hid (pkRead1_any hrX)
  have hHw := pkRH_wide l
  have hHi := info_hdA hHw
  have hHi2 := info_hd hHw
  have hH2 : Hid (∀ W : World, Below X.heap.size X W → ∃ W', (Instr.storeAt 33 (.pointer (some ⟨W.heap.size, 0, none⟩)) (.agg (hdC (pkRH l)).toArray)).run Try.prog (W.alloc (.cells (hdC Hd.zero).toArray 33)) = .ok () W' ∧ HdAt W' W.heap.size (pkRH l) ∧ Below X.heap.size X W' ∧ W.heap.size < W'.heap.size) := Lib.hid fun W hW => by
    obtain ⟨W', hst, hat, hgr, _⟩ := store_hd (w := W.alloc (.cells (hdC Hd.zero).toArray 33)) (g := W.heap.size) (a := Hd.zero) (b := pkRH l) (heap_alloc_last W _) Hd.zero_wide hHw
    exact ⟨W', hst, hat, grown_below (up_alloc hW _) hgr hW.size, by have := hgr.size; simp at this; omega⟩
  have hNone : pkErr l ≠ 0 → pkRead l = Pk.none := fun h => by unfold pkRead; rw [if_neg h]
  have hIs := pkErr_is l
  by_cases hE : pkRE l = 0
  · rw [if_neg (by omega)] at hIs
    rw [hE] at hq
    obtain ⟨p, hp, p1, p2, p3⟩ := pkRE_pos hE
    have hpc : ∀ {W : World} {g : Nat}, HdAt W g (pkRH l) → W.cell? ⟨g, 2, none⟩ = some (.int .i64 (p : Int)) := fun h => by rw [hdC_pos h, hp]
    cases hpt : (pkRH l).part with
    | true =>
      rw [hpt, if_pos rfl] at hIs
      rw [hNone (by omega), hIs]
      have hS0 := Lib.hid (hS.out Pk.none Pk.none_wide)
      have hpa : Hid (∀ {W : World} {g : Nat}, HdAt W g (pkRH l) → W.cell? ⟨g, 37, none⟩ = some (.bool true)) := Lib.hid fun h => by rw [hdC_part hHw h, hpt]
      clear hS hNone hIs hE hHw hpt hp hpc p1 p2 p3 hr hrX hlc hXs h0 hb0 hHi2
      unfold pkV hdV at *
      generalize pkRH l = H at *
      generalize hdC Hd.zero = ZH at *
      generalize l.length = m at *
      subst hX
      generalize hZ : pkC Pk.none = Z at *
      have HZ := Lib.hid hZ
      clear hZ
      go_enter Try.func23, Try.ntmps23
      go_wp2_with (first
        | (with_reducible refine wpList_alloc_zero (o := ⟨some 2, .alloc 39, _, _, _, _⟩) rfl 39 rfl Z.toArray hz ?_)
        | (go_at_call 41; refine hq.out.mono ?_; rintro _ w1 ⟨rfl, hb1⟩; obtain ⟨w2, hst2, hat2, hb2, hlt2⟩ := hH2.out _ hb1; have HB2 := Lib.hid hb2; have hc37 := hpa.out hat2; obtain ⟨w3, hst3, hat3, hb3, _⟩ := hS0.out _ HB2.out; have HT := Lib.hid (And.intro hat3 hb3); clear hat3 hb3; clear hat2; clear hb1 hb2)
        | (with_reducible refine wpList_alloc_zero (o := ⟨some 4, .alloc 33, _, _, _, _⟩) rfl 33 rfl ZH.toArray hzh ?_)
        | ((with_reducible refine wpList_stored (o := ⟨none, .store 33 (.tmp 4) (.tmp 10), _, _, _, none⟩) rfl 33 (.tmp 4) (.tmp 10) rfl (.pointer (some ⟨w1.heap.size, 0, none⟩)) (.agg (hdC H).toArray) ?_ ?_ w2 hst2 ?_); exact rfl; exact rfl)
        | ((with_reducible refine wpList_stored (o := ⟨none, .store 39 (.tmp 2) (.tmp 20), _, _, _, none⟩) rfl 39 (.tmp 2) (.tmp 20) rfl (.pointer (some ⟨w.heap.size, 0, none⟩)) (.agg Z.toArray) ?_ ?_ w3 hst3 ?_); exact rfl; exact rfl))
      exact bodyPost_ret (ret_pk (p := 2) (q := 3) (by kernel_rfl) rfl HT.out.1 Pk.none_wide rfl) rfl ⟨by rw [← HZ.out]; rfl, HT.out.2⟩
    | false =>
      rw [hpt, if_neg (by decide)] at hIs
      have hpa : Hid (∀ {W : World} {g : Nat}, HdAt W g (pkRH l) → W.cell? ⟨g, 37, none⟩ = some (.bool false)) := Lib.hid fun h => by rw [hdC_part hHw h, hpt]
      obtain ⟨A2, hA2, kh⟩ := cut_l (P := Try.prog) (t := 22) Try.underlying22 (i := _) (e := 5) rfl rfl A l.length c p p2 (p : Int) rfl
      have hr2 := hrX.cut (lo := p) (hi := l.length) p2 (Nat.le_refl _)
      rw [← hA2, List.take_of_length_le (by rw [cellsB_length]; exact Nat.le_refl _), cellsB_drop] at hr2
      have hdl : (l.drop p).length = l.length - p := List.length_drop ..
      rw [hp, Int.toNat_natCast] at hIs
      have hsg : Hid (∀ W, Below X.heap.size X W → Calls Try.prog 42 #[.agg (hdC (pkRH l)).toArray, .slice A2 (l.length - p) (c - p)] W fun e w' => e = .returned (.tuple #[.agg (sgC (sgRead (pkRH l) (l.drop p))).toArray, .int .i64 ((pkErr l : Nat) : Int)]) ∧ Below W.heap.size W w') := Lib.hid fun W hW => by
        have h3 := (hr2.below hW).more hW.size
        rw [← hdl] at h3 ⊢
        rw [hIs]
        exact sgRead_any (pkRH l) hHw h3 (by omega)
      have hSi := info_sg (sgRead (pkRH l) (l.drop p))
      have hSw := sgRead_ports (pkRH l) (l.drop p)
      have hRis : pkErr l = 0 → pkRead l = ⟨pkRH l, sgRead (pkRH l) (l.drop p), pkFlow (pkRH l) (sgRead (pkRH l) (l.drop p))⟩ := fun h => by
        have := pkRead_is h
        rw [hp, Int.toNat_natCast] at this
        exact this
      have hss : Hid (∀ (w2 : World), Below X.heap.size X w2 → ∀ W g, w2.heap.size ≤ g → W.heap[g]? = some (.cells (sgC Sg.none).toArray 35 (0, 0)) → Below w2.heap.size w2 W → ∃ W', (Instr.storeAt 35 (.pointer (some ⟨g, 0, none⟩)) (.agg (sgC (sgRead (pkRH l) (l.drop p))).toArray)).run Try.prog W = .ok () W' ∧ Below w2.heap.size w2 W' ∧ W'.heap[g]? = some (.cells (sgC (sgRead (pkRH l) (l.drop p))).toArray 35 (0, 0))) := Lib.hid fun w2 _ W g hg hat hW => by
        obtain ⟨W', hst, hat, hgr, _⟩ := store_sg (w := W) (g := g) (a := Sg.none) (b := sgRead (pkRH l) (l.drop p)) hat
        exact ⟨W', hst, grown_below hW hgr hg, hat⟩
      have hb2 : ∀ W, (Instr.build 39 #[(0, .agg (hdC (pkRH l)).toArray), (1, .agg (sgC (sgRead (pkRH l) (l.drop p))).toArray), (2, .agg (flC (pkFlow (pkRH l) (sgRead (pkRH l) (l.drop p)))).toArray)]).run Try.prog W = .ok (.agg (pkC ⟨pkRH l, sgRead (pkRH l) (l.drop p), pkFlow (pkRH l) (sgRead (pkRH l) (l.drop p))⟩).toArray) W := fun W => build_pk _ hHw _ _ ⟨hHw.1, hHw.2, hSw⟩ W
      have hfl : Hid (∀ W, Calls Try.prog 43 #[.agg (hdC (pkRH l)).toArray, .agg (sgC (sgRead (pkRH l) (l.drop p))).toArray] W fun e w' => e = .returned (.agg (flC (pkFlow (pkRH l) (sgRead (pkRH l) (l.drop p)))).toArray) ∧ Below W.heap.size W w') := Lib.hid fun W => pkFlow_any _ hHw _ hSw W
      have hpi : (p : Int) ≤ (l.length : Int) := by omega
      have hp0 : (0 : Int) ≤ (p : Int) := by omega
      have hYw : Pk.Wide ⟨pkRH l, sgRead (pkRH l) (l.drop p), pkFlow (pkRH l) (sgRead (pkRH l) (l.drop p))⟩ := ⟨hHw, hHw.1, hHw.2, hSw⟩
      have hrow : Hid (∀ {W : World} {g : Nat}, HdAt W g (pkRH l) → W.heap[g]? = some (.cells (hdC (pkRH l)).toArray 33 (0, 0))) := Lib.hid fun h => h
      clear hIs hHw hpt hp p1 p2 p3 hr hrX hlc h0 hb0 hr2 hdl hA2 hE hSw
      unfold pkV hdV at *
      generalize hYY : (⟨pkRH l, sgRead (pkRH l) (l.drop p), pkFlow (pkRH l) (sgRead (pkRH l) (l.drop p))⟩ : Pk) = Y at *
      generalize flC (pkFlow (pkRH l) (sgRead (pkRH l) (l.drop p))) = FL at *
      generalize sgRead (pkRH l) (l.drop p) = SG at *
      generalize hSC : sgC SG = SC at *
      generalize pkRH l = H at *
      generalize hCH : hdC H = CH at *
      generalize hdC Hd.zero = ZH at *
      generalize hZS : sgC Sg.none = ZS at *
      generalize l.length = m at *
      generalize hn2 : m - p = n2 at *
      generalize hc2 : c - p = c2 at *
      clear hn2 hc2 hSC hZS hCH
      by_cases hE : pkErr l = 0
      · have hRY := hRis hE
        rw [hE] at hsg
        rw [hRY, hE]
        have hSy := Lib.hid (hS.out Y hYw)
        have HYw := Lib.hid hYw
        clear hS hRis hNone hE hRY hYw hYY
        subst hX
        generalize pkC Pk.none = Z at *
        generalize hDY : pkC Y = D at *
        have HDY := Lib.hid hDY
        clear hDY
        go_enter Try.func23, Try.ntmps23
        go_wp2_with (first
          | (with_reducible refine wpList_alloc_zero (o := ⟨some 2, .alloc 39, _, _, _, _⟩) rfl 39 rfl Z.toArray hz ?_)
          | (go_at_call 41; refine hq.out.mono ?_; rintro _ w1 ⟨rfl, hb1⟩; obtain ⟨w2, hst2, hat2, hb2, hlt2⟩ := hH2.out _ hb1; have HB2 := Lib.hid hb2; have hc37 := hpa.out hat2; have HB1 := Lib.hid (show w.heap.size < w1.heap.size by have := hb1.size; simp at this; omega); have HW2 := Lib.hid hat2; have hlt := hlt2; clear hlt2 hat2; clear hb1 hb2)
          | (with_reducible refine wpList_alloc_zero (o := ⟨some 4, .alloc 33, _, _, _, _⟩) rfl 33 rfl ZH.toArray hzh ?_)
          | ((with_reducible refine wpList_stored (o := ⟨none, .store 33 (.tmp 4) (.tmp 10), _, _, _, none⟩) rfl 33 (.tmp 4) (.tmp 10) rfl (.pointer (some ⟨w1.heap.size, 0, none⟩)) (.agg CH.toArray) ?_ ?_ w2 hst2 ?_); exact rfl; exact rfl))
        have hAt : Hid (∀ W, Below w2.heap.size w2 W → W.heap[w1.heap.size]? = some (.cells CH.toArray 33 (0, 0)) ∧ W.cell? ⟨w1.heap.size, 2, none⟩ = some (.int .i64 (p : Int))) := Lib.hid fun W hW => by
          have h1 := HW2.out.below hW hlt
          exact ⟨hrow.out h1, hpc h1⟩
        obtain ⟨g4, hg4⟩ : ∃ g, g = w1.heap.size := ⟨_, rfl⟩
        have HBL := Lib.hid (drew_self w2)
        have hss2 := Lib.hid (hss.out w2 HB2.out)
        rw [← hg4] at hAt hlt ⊢
        have hG4 : Hid (w.heap.size < g4) := Lib.hid (by have := HB1.out; omega)
        clear hst2 hc37 hg4 hss HW2 hq hH2
        refine wp_region_held_drew (S := fun w' => w'.heap[g4]? = some (.cells CH.toArray 33 (0, 0)) ∧ w'.cell? ⟨g4, 2, none⟩ = some (.int .i64 (p : Int))) (by kernel_rfl) (hAt.out _ HBL.out) (fun hHeld => ?_)
        refine th 0 (v := .agg CH.toArray) ?_ (hy := fun wy hSw => by exact exec_load (t := 33) (x := .tmp 4) rfl (pv := .pointer (some ⟨g4, 0, none⟩)) rfl (run_loadAt_mid wy g4 0 33 CH _ (row_range hSw.1) Try.underlying33 rfl hHi2))
        go_frame
        refine th 1 ?_
        go_frame
        refine th 2 ?_
        go_frame
        refine th 3 (v := .int .i64 (p : Int)) ?_ (hy := fun wy hSw => by (obtain ⟨_, s2⟩ := hSw; go_simp <;> with_reducible rfl))
        go_frame
        refine th 4 ?_
        go_frame
        refine wpAnyH_ready (rs := [5, 9]) (by kernel_rfl) (by simp) (AllReadyH.cons (o := ⟨some 28, .call { callee := .value (.func 42), args := #[.tmp 23, .tmp 27], argTypes := #[33, 22] }, _, _, _, none⟩) rfl (fun K hK => ?_) (AllReadyH.cons (o := ⟨some 6, .alloc 35, _, _, _, none⟩) rfl (fun K hK => ?_) AllReadyH.nil))
        · rw [if_pos (by kernel_rfl)]
          go_simp
          refine (hsg.out _ (HB2.out.trans (HBL.out.mono HB2.out.size))).mono ?_
          rintro _ wS ⟨rfl, hb⟩
          replace HBL := Lib.hid (up HBL.out hb)
          clear hb
          dsimp only
          refine hK.out _ _ (hAt.out _ HBL.out) (fun _ => ?_)
          clear hK K
          try go_frame
          refine th 6 ?_
          go_frame
          refine th 7 ?_
          go_frame
          refine th 8 ?_
          go_frame
          refine wpAnyH_ready (rs := [9]) (by kernel_rfl) (by simp) (AllReadyH.cons (o := ⟨some 6, .alloc 35, _, _, _, none⟩) rfl (fun K hK => ?_) AllReadyH.nil)
          rw [if_pos (by kernel_rfl)]
          refine wp_run (.pointer (some ⟨wS.heap.size, 0, none⟩)) _ (exec_allocP rfl hzs _) ?_
          have hb := up_alloc HBL.out (.cells ZS.toArray 35)
          have ha := heap_alloc_last wS (.cells ZS.toArray 35)
          obtain ⟨g6, hg6⟩ : ∃ g, g = wS.heap.size := ⟨_, rfl⟩
          have hle : w2.heap.size ≤ wS.heap.size := HBL.out.size
          rw [← hg6] at ha hle ⊢
          generalize wS.alloc (.cells ZS.toArray 35) = wa at hb ha ⊢
          replace HBL := Lib.hid hb
          have HA6 := Lib.hid (And.intro ha hle)
          clear hb ha hle hg6
          refine hK.out _ _ (hAt.out _ HBL.out) (fun _ => ?_)
          clear hK K
          try go_frame
          refine wpAnyH_ready (rs := [10]) (by kernel_rfl) (by simp) (AllReadyH.cons (o := ⟨none, .store 35 (.tmp 6) (.tmp 29), _, _, _, none⟩) rfl (fun K hK => ?_) AllReadyH.nil)
          rw [if_pos (by kernel_rfl)]
          obtain ⟨w4, hst4, hb4, hr4⟩ := hss2.out _ g6 HA6.out.2 HA6.out.1 HBL.out
          refine wp_skip w4 (exec_store rfl (vx := .pointer (some ⟨g6, 0, none⟩)) rfl (vy := .agg SC.toArray) rfl hst4) ?_
          replace HBL := Lib.hid hb4
          have HR4 := Lib.hid hr4
          have HL6 := Lib.hid (Array.getElem?_eq_some_iff.1 hr4).1
          have HG6 := Lib.hid (show g4 < g6 by have := HA6.out.2; omega)
          clear hst4 hb4 hr4 HA6
          refine hK.out _ _ (hAt.out _ HBL.out) (fun _ => ?_)
          clear hK K
          try go_frame
          refine th 11 ?_
          go_frame
          refine wpAnyH_done (by kernel_rfl) ?_ _
          have hRow : Hid (∀ W, Below w4.heap.size w4 W → W.heap[g4]? = some (.cells CH.toArray 33 (0, 0)) ∧ W.heap[g6]? = some (.cells SC.toArray 35 (0, 0))) := Lib.hid fun W hW => ⟨(hW.block _ (by have := HBL.out.size; omega)).trans (hAt.out _ HBL.out).1, (hW.block _ HL6.out).trans HR4.out⟩
          have hF6 : Hid (∀ W W', Below w4.heap.size w4 W → W.grownBy W' (some w.heap.size) → W'.heap[g4]? = some (.cells CH.toArray 33 (0, 0)) ∧ W'.heap[g6]? = some (.cells SC.toArray 35 (0, 0))) := Lib.hid fun W W' hW hg => by
            obtain ⟨r1, r2⟩ := hRow.out W hW
            have n1 : some g4 ≠ some w.heap.size := fun e => by have := hG4.out; cases e; omega
            have n2 : some g6 ≠ some w.heap.size := fun e => by have := HG6.out; have := hG4.out; cases e; omega
            exact ⟨(hg.block _ (Array.getElem?_eq_some_iff.1 r1).1 n1).trans r1, (hg.block _ (Array.getElem?_eq_some_iff.1 r2).1 n2).trans r2⟩
          go_wp2_with fail
          refine wp_region_held_drew (S := fun w' => w'.heap[g4]? = some (.cells CH.toArray 33 (0, 0)) ∧ w'.heap[g6]? = some (.cells SC.toArray 35 (0, 0))) (by kernel_rfl) (hRow.out _ (drew_self _)) (fun hHeld => ?_)
          refine th 0 (v := .agg CH.toArray) ?_ (hy := fun wy hSw => by exact exec_load (t := 33) (x := .tmp 4) rfl (pv := .pointer (some ⟨g4, 0, none⟩)) rfl (run_loadAt_mid wy g4 0 33 CH _ (row_range hSw.1) Try.underlying33 rfl hHi2))
          go_frame
          refine th 1 (v := .agg SC.toArray) ?_ (hy := fun wy hSw => by exact exec_load (t := 35) (x := .tmp 6) rfl (pv := .pointer (some ⟨g6, 0, none⟩)) rfl (run_loadAt_mid wy g6 0 35 SC _ (row_range hSw.2) Try.underlying35 rfl hSi))
          go_frame
          refine th 2 (v := .agg CH.toArray) ?_ (hy := fun wy hSw => by exact exec_load (t := 33) (x := .tmp 4) rfl (pv := .pointer (some ⟨g4, 0, none⟩)) rfl (run_loadAt_mid wy g4 0 33 CH _ (row_range hSw.1) Try.underlying33 rfl hHi2))
          go_frame
          refine th 3 (v := .agg SC.toArray) ?_ (hy := fun wy hSw => by exact exec_load (t := 35) (x := .tmp 6) rfl (pv := .pointer (some ⟨g6, 0, none⟩)) rfl (run_loadAt_mid wy g6 0 35 SC _ (row_range hSw.2) Try.underlying35 rfl hSi))
          go_frame
          refine wpAnyH_ready (rs := [4]) (by kernel_rfl) (by simp) (AllReadyH.cons (o := ⟨some 39, .call { callee := .value (.func 43), args := #[.tmp 37, .tmp 38], argTypes := #[33, 35] }, _, _, _, none⟩) rfl (fun K hK => ?_) AllReadyH.nil)
          rw [if_pos (by kernel_rfl)]
          go_simp
          refine (hfl.out _).mono ?_
          rintro _ w5 ⟨rfl, hb⟩
          have HB5 := Lib.hid (drew_start hb)
          clear hb
          dsimp only
          refine hK.out _ _ (hRow.out _ HB5.out) (fun _ => ?_)
          clear hK K
          try go_frame
          refine th 5 (v := .agg D.toArray) ?_ (hy := fun wy hSw => by exact exec_bld3 (k1 := 0) (k2 := 1) (k3 := 2) (a1 := .tmp 35) (a2 := .tmp 36) (a3 := .tmp 39) rfl (u1 := .agg CH.toArray) (u2 := .agg SC.toArray) (u3 := .agg FL.toArray) rfl rfl rfl (hb2 _))
          go_frame
          refine wpAnyH_ready (rs := [6]) (by kernel_rfl) (by simp) (AllReadyH.cons (o := ⟨none, .store 39 (.tmp 2) (.tmp 40), _, _, _, none⟩) rfl (fun K hK => ?_) AllReadyH.nil)
          rw [if_pos (by kernel_rfl)]
          obtain ⟨w6, hst6, hat6, hb6, hgr6⟩ := hSy.out w5 (HB2.out.trans ((up HBL.out HB5.out).mono HB2.out.size))
          refine wp_skip w6 (exec_store rfl (vx := .pointer (some ⟨w.heap.size, 0, none⟩)) rfl (vy := .agg D.toArray) rfl hst6) ?_
          have HT := Lib.hid (And.intro hat6 hb6)
          have hs6 := hF6.out _ _ HB5.out hgr6
          clear hst6 hat6 hb6 hgr6
          refine hK.out _ _ (hs6) (fun _ => ?_)
          clear hK K
          try go_frame
          refine th 7 ?_
          go_frame
          refine wpAnyH_done (by kernel_rfl) ?_ _
          go_wp2_with fail
          exact bodyPost_ret (ret_pk (p := 2) (q := 3) (by kernel_rfl) rfl HT.out.1 HYw.out rfl) rfl ⟨by rw [← HDY.out]; rfl, HT.out.2⟩
        · rw [if_pos (by kernel_rfl)]
          refine wp_run (.pointer (some ⟨w2.drew.heap.size, 0, none⟩)) _ (exec_allocP rfl hzs _) ?_
          have hb := up_alloc HBL.out (.cells ZS.toArray 35)
          have ha := heap_alloc_last w2.drew (.cells ZS.toArray 35)
          obtain ⟨g6, hg6⟩ : ∃ g, g = w2.drew.heap.size := ⟨_, rfl⟩
          have hle : w2.heap.size ≤ w2.drew.heap.size := HBL.out.size
          rw [← hg6] at ha hle ⊢
          generalize w2.drew.alloc (.cells ZS.toArray 35) = wa at hb ha ⊢
          replace HBL := Lib.hid hb
          have HA6 := Lib.hid (And.intro ha hle)
          clear hb ha hle hg6
          refine hK.out _ _ (hAt.out _ HBL.out) (fun _ => ?_)
          clear hK K
          try go_frame
          refine wpAnyH_ready (rs := [5]) (by kernel_rfl) (by simp) (AllReadyH.cons (o := ⟨some 28, .call { callee := .value (.func 42), args := #[.tmp 23, .tmp 27], argTypes := #[33, 22] }, _, _, _, none⟩) rfl (fun K hK => ?_) AllReadyH.nil)
          rw [if_pos (by kernel_rfl)]
          go_simp
          refine (hsg.out _ (HB2.out.trans (HBL.out.mono HB2.out.size))).mono ?_
          rintro _ wS ⟨rfl, hb⟩
          replace HA6 := Lib.hid (And.intro ((hb.block _ (Array.getElem?_eq_some_iff.1 HA6.out.1).1).trans HA6.out.1) HA6.out.2)
          replace HBL := Lib.hid (up HBL.out hb)
          clear hb
          dsimp only
          refine hK.out _ _ (hAt.out _ HBL.out) (fun _ => ?_)
          clear hK K
          try go_frame
          refine th 6 ?_
          go_frame
          refine th 7 ?_
          go_frame
          refine th 8 ?_
          go_frame
          refine wpAnyH_ready (rs := [10]) (by kernel_rfl) (by simp) (AllReadyH.cons (o := ⟨none, .store 35 (.tmp 6) (.tmp 29), _, _, _, none⟩) rfl (fun K hK => ?_) AllReadyH.nil)
          rw [if_pos (by kernel_rfl)]
          obtain ⟨w4, hst4, hb4, hr4⟩ := hss2.out _ g6 HA6.out.2 HA6.out.1 HBL.out
          refine wp_skip w4 (exec_store rfl (vx := .pointer (some ⟨g6, 0, none⟩)) rfl (vy := .agg SC.toArray) rfl hst4) ?_
          replace HBL := Lib.hid hb4
          have HR4 := Lib.hid hr4
          have HL6 := Lib.hid (Array.getElem?_eq_some_iff.1 hr4).1
          have HG6 := Lib.hid (show g4 < g6 by have := HA6.out.2; omega)
          clear hst4 hb4 hr4 HA6
          refine hK.out _ _ (hAt.out _ HBL.out) (fun _ => ?_)
          clear hK K
          try go_frame
          refine th 11 ?_
          go_frame
          refine wpAnyH_done (by kernel_rfl) ?_ _
          have hRow : Hid (∀ W, Below w4.heap.size w4 W → W.heap[g4]? = some (.cells CH.toArray 33 (0, 0)) ∧ W.heap[g6]? = some (.cells SC.toArray 35 (0, 0))) := Lib.hid fun W hW => ⟨(hW.block _ (by have := HBL.out.size; omega)).trans (hAt.out _ HBL.out).1, (hW.block _ HL6.out).trans HR4.out⟩
          have hF6 : Hid (∀ W W', Below w4.heap.size w4 W → W.grownBy W' (some w.heap.size) → W'.heap[g4]? = some (.cells CH.toArray 33 (0, 0)) ∧ W'.heap[g6]? = some (.cells SC.toArray 35 (0, 0))) := Lib.hid fun W W' hW hg => by
            obtain ⟨r1, r2⟩ := hRow.out W hW
            have n1 : some g4 ≠ some w.heap.size := fun e => by have := hG4.out; cases e; omega
            have n2 : some g6 ≠ some w.heap.size := fun e => by have := HG6.out; have := hG4.out; cases e; omega
            exact ⟨(hg.block _ (Array.getElem?_eq_some_iff.1 r1).1 n1).trans r1, (hg.block _ (Array.getElem?_eq_some_iff.1 r2).1 n2).trans r2⟩
          go_wp2_with fail
          refine wp_region_held_drew (S := fun w' => w'.heap[g4]? = some (.cells CH.toArray 33 (0, 0)) ∧ w'.heap[g6]? = some (.cells SC.toArray 35 (0, 0))) (by kernel_rfl) (hRow.out _ (drew_self _)) (fun hHeld => ?_)
          refine th 0 (v := .agg CH.toArray) ?_ (hy := fun wy hSw => by exact exec_load (t := 33) (x := .tmp 4) rfl (pv := .pointer (some ⟨g4, 0, none⟩)) rfl (run_loadAt_mid wy g4 0 33 CH _ (row_range hSw.1) Try.underlying33 rfl hHi2))
          go_frame
          refine th 1 (v := .agg SC.toArray) ?_ (hy := fun wy hSw => by exact exec_load (t := 35) (x := .tmp 6) rfl (pv := .pointer (some ⟨g6, 0, none⟩)) rfl (run_loadAt_mid wy g6 0 35 SC _ (row_range hSw.2) Try.underlying35 rfl hSi))
          go_frame
          refine th 2 (v := .agg CH.toArray) ?_ (hy := fun wy hSw => by exact exec_load (t := 33) (x := .tmp 4) rfl (pv := .pointer (some ⟨g4, 0, none⟩)) rfl (run_loadAt_mid wy g4 0 33 CH _ (row_range hSw.1) Try.underlying33 rfl hHi2))
          go_frame
          refine th 3 (v := .agg SC.toArray) ?_ (hy := fun wy hSw => by exact exec_load (t := 35) (x := .tmp 6) rfl (pv := .pointer (some ⟨g6, 0, none⟩)) rfl (run_loadAt_mid wy g6 0 35 SC _ (row_range hSw.2) Try.underlying35 rfl hSi))
          go_frame
          refine wpAnyH_ready (rs := [4]) (by kernel_rfl) (by simp) (AllReadyH.cons (o := ⟨some 39, .call { callee := .value (.func 43), args := #[.tmp 37, .tmp 38], argTypes := #[33, 35] }, _, _, _, none⟩) rfl (fun K hK => ?_) AllReadyH.nil)
          rw [if_pos (by kernel_rfl)]
          go_simp
          refine (hfl.out _).mono ?_
          rintro _ w5 ⟨rfl, hb⟩
          have HB5 := Lib.hid (drew_start hb)
          clear hb
          dsimp only
          refine hK.out _ _ (hRow.out _ HB5.out) (fun _ => ?_)
          clear hK K
          try go_frame
          refine th 5 (v := .agg D.toArray) ?_ (hy := fun wy hSw => by exact exec_bld3 (k1 := 0) (k2 := 1) (k3 := 2) (a1 := .tmp 35) (a2 := .tmp 36) (a3 := .tmp 39) rfl (u1 := .agg CH.toArray) (u2 := .agg SC.toArray) (u3 := .agg FL.toArray) rfl rfl rfl (hb2 _))
          go_frame
          refine wpAnyH_ready (rs := [6]) (by kernel_rfl) (by simp) (AllReadyH.cons (o := ⟨none, .store 39 (.tmp 2) (.tmp 40), _, _, _, none⟩) rfl (fun K hK => ?_) AllReadyH.nil)
          rw [if_pos (by kernel_rfl)]
          obtain ⟨w6, hst6, hat6, hb6, hgr6⟩ := hSy.out w5 (HB2.out.trans ((up HBL.out HB5.out).mono HB2.out.size))
          refine wp_skip w6 (exec_store rfl (vx := .pointer (some ⟨w.heap.size, 0, none⟩)) rfl (vy := .agg D.toArray) rfl hst6) ?_
          have HT := Lib.hid (And.intro hat6 hb6)
          have hs6 := hF6.out _ _ HB5.out hgr6
          clear hst6 hat6 hb6 hgr6
          refine hK.out _ _ (hs6) (fun _ => ?_)
          clear hK K
          try go_frame
          refine th 7 ?_
          go_frame
          refine wpAnyH_done (by kernel_rfl) ?_ _
          go_wp2_with fail
          exact bodyPost_ret (ret_pk (p := 2) (q := 3) (by kernel_rfl) rfl HT.out.1 HYw.out rfl) rfl ⟨by rw [← HDY.out]; rfl, HT.out.2⟩
      · rw [hNone hE]
        have hS0 := Lib.hid (hS.out Pk.none Pk.none_wide)
        have k1 := beq_zero hE
        have k2 := bne_zero hE
        generalize pkErr l = er at *
        clear hS hRis hNone hE hYw hYY hfl hb2
        subst hX
        generalize hZ : pkC Pk.none = Z at *
        have HZ := Lib.hid hZ
        clear hZ
        go_enter Try.func23, Try.ntmps23
        go_wp2_with (first
          | (with_reducible refine wpList_alloc_zero (o := ⟨some 2, .alloc 39, _, _, _, _⟩) rfl 39 rfl Z.toArray hz ?_)
          | (go_at_call 41; refine hq.out.mono ?_; rintro _ w1 ⟨rfl, hb1⟩; obtain ⟨w2, hst2, hat2, hb2, hlt2⟩ := hH2.out _ hb1; have HB2 := Lib.hid hb2; have hc37 := hpa.out hat2; have HW2 := Lib.hid hat2; have hlt := hlt2; clear hlt2 hat2; clear hb1 hb2)
          | (with_reducible refine wpList_alloc_zero (o := ⟨some 4, .alloc 33, _, _, _, _⟩) rfl 33 rfl ZH.toArray hzh ?_)
          | ((with_reducible refine wpList_stored (o := ⟨none, .store 33 (.tmp 4) (.tmp 10), _, _, _, none⟩) rfl 33 (.tmp 4) (.tmp 10) rfl (.pointer (some ⟨w1.heap.size, 0, none⟩)) (.agg CH.toArray) ?_ ?_ w2 hst2 ?_); exact rfl; exact rfl))
        have hAt : Hid (∀ W, Below w2.heap.size w2 W → W.heap[w1.heap.size]? = some (.cells CH.toArray 33 (0, 0)) ∧ W.cell? ⟨w1.heap.size, 2, none⟩ = some (.int .i64 (p : Int))) := Lib.hid fun W hW => by
          have h1 := HW2.out.below hW hlt
          exact ⟨hrow.out h1, hpc h1⟩
        obtain ⟨g4, hg4⟩ : ∃ g, g = w1.heap.size := ⟨_, rfl⟩
        have HBL := Lib.hid (drew_self w2)
        have hss2 := Lib.hid (hss.out w2 HB2.out)
        rw [← hg4] at hAt hlt ⊢
        clear hst2 hc37 hg4 hss HW2 hq hH2
        refine wp_region_held_drew (S := fun w' => w'.heap[g4]? = some (.cells CH.toArray 33 (0, 0)) ∧ w'.cell? ⟨g4, 2, none⟩ = some (.int .i64 (p : Int))) (by kernel_rfl) (hAt.out _ HBL.out) (fun hHeld => ?_)
        refine th 0 (v := .agg CH.toArray) ?_ (hy := fun wy hSw => by exact exec_load (t := 33) (x := .tmp 4) rfl (pv := .pointer (some ⟨g4, 0, none⟩)) rfl (run_loadAt_mid wy g4 0 33 CH _ (row_range hSw.1) Try.underlying33 rfl hHi2))
        go_frame
        refine th 1 ?_
        go_frame
        refine th 2 ?_
        go_frame
        refine th 3 (v := .int .i64 (p : Int)) ?_ (hy := fun wy hSw => by (obtain ⟨_, s2⟩ := hSw; go_simp <;> with_reducible rfl))
        go_frame
        refine th 4 ?_
        go_frame
        refine wpAnyH_ready (rs := [5, 9]) (by kernel_rfl) (by simp) (AllReadyH.cons (o := ⟨some 28, .call { callee := .value (.func 42), args := #[.tmp 23, .tmp 27], argTypes := #[33, 22] }, _, _, _, none⟩) rfl (fun K hK => ?_) (AllReadyH.cons (o := ⟨some 6, .alloc 35, _, _, _, none⟩) rfl (fun K hK => ?_) AllReadyH.nil))
        · rw [if_pos (by kernel_rfl)]
          go_simp
          refine (hsg.out _ (HB2.out.trans (HBL.out.mono HB2.out.size))).mono ?_
          rintro _ wS ⟨rfl, hb⟩
          replace HBL := Lib.hid (up HBL.out hb)
          clear hb
          dsimp only
          refine hK.out _ _ (hAt.out _ HBL.out) (fun _ => ?_)
          clear hK K
          try go_frame
          refine th 6 ?_
          go_frame
          refine th 7 ?_
          go_frame
          refine th 8 ?_
          go_frame
          refine wpAnyH_ready (rs := [9]) (by kernel_rfl) (by simp) (AllReadyH.cons (o := ⟨some 6, .alloc 35, _, _, _, none⟩) rfl (fun K hK => ?_) AllReadyH.nil)
          rw [if_pos (by kernel_rfl)]
          refine wp_run (.pointer (some ⟨wS.heap.size, 0, none⟩)) _ (exec_allocP rfl hzs _) ?_
          have hb := up_alloc HBL.out (.cells ZS.toArray 35)
          have ha := heap_alloc_last wS (.cells ZS.toArray 35)
          obtain ⟨g6, hg6⟩ : ∃ g, g = wS.heap.size := ⟨_, rfl⟩
          have hle : w2.heap.size ≤ wS.heap.size := HBL.out.size
          rw [← hg6] at ha hle ⊢
          generalize wS.alloc (.cells ZS.toArray 35) = wa at hb ha ⊢
          replace HBL := Lib.hid hb
          have HA6 := Lib.hid (And.intro ha hle)
          clear hb ha hle hg6
          refine hK.out _ _ (hAt.out _ HBL.out) (fun _ => ?_)
          clear hK K
          try go_frame
          refine wpAnyH_ready (rs := [10]) (by kernel_rfl) (by simp) (AllReadyH.cons (o := ⟨none, .store 35 (.tmp 6) (.tmp 29), _, _, _, none⟩) rfl (fun K hK => ?_) AllReadyH.nil)
          rw [if_pos (by kernel_rfl)]
          obtain ⟨w4, hst4, hb4, hr4⟩ := hss2.out _ g6 HA6.out.2 HA6.out.1 HBL.out
          refine wp_skip w4 (exec_store rfl (vx := .pointer (some ⟨g6, 0, none⟩)) rfl (vy := .agg SC.toArray) rfl hst4) ?_
          replace HBL := Lib.hid hb4
          have HR4 := Lib.hid hr4
          have HL6 := Lib.hid (Array.getElem?_eq_some_iff.1 hr4).1
          clear hst4 hb4 hr4 HA6
          refine hK.out _ _ (hAt.out _ HBL.out) (fun _ => ?_)
          clear hK K
          try go_frame
          refine th 11 ?_
          go_frame
          refine wpAnyH_done (by kernel_rfl) ?_ _
          obtain ⟨w5, hst5, hat5, hb5, _⟩ := hS0.out w4 (HB2.out.trans (HBL.out.mono HB2.out.size))
          have HT := Lib.hid (And.intro hat5 hb5)
          clear hat5 hb5
          go_wp2_with (first
            | ((with_reducible refine wpList_stored (o := ⟨none, .store 39 (.tmp 2) (.tmp 33), _, _, _, none⟩) rfl 39 (.tmp 2) (.tmp 33) rfl (.pointer (some ⟨w.heap.size, 0, none⟩)) (.agg Z.toArray) ?_ ?_ w5 hst5 ?_); exact rfl; exact rfl))
          exact bodyPost_ret (ret_pk (p := 2) (q := 3) (by kernel_rfl) rfl HT.out.1 Pk.none_wide rfl) rfl ⟨by rw [← HZ.out]; rfl, HT.out.2⟩
        · rw [if_pos (by kernel_rfl)]
          refine wp_run (.pointer (some ⟨w2.drew.heap.size, 0, none⟩)) _ (exec_allocP rfl hzs _) ?_
          have hb := up_alloc HBL.out (.cells ZS.toArray 35)
          have ha := heap_alloc_last w2.drew (.cells ZS.toArray 35)
          obtain ⟨g6, hg6⟩ : ∃ g, g = w2.drew.heap.size := ⟨_, rfl⟩
          have hle : w2.heap.size ≤ w2.drew.heap.size := HBL.out.size
          rw [← hg6] at ha hle ⊢
          generalize w2.drew.alloc (.cells ZS.toArray 35) = wa at hb ha ⊢
          replace HBL := Lib.hid hb
          have HA6 := Lib.hid (And.intro ha hle)
          clear hb ha hle hg6
          refine hK.out _ _ (hAt.out _ HBL.out) (fun _ => ?_)
          clear hK K
          try go_frame
          refine wpAnyH_ready (rs := [5]) (by kernel_rfl) (by simp) (AllReadyH.cons (o := ⟨some 28, .call { callee := .value (.func 42), args := #[.tmp 23, .tmp 27], argTypes := #[33, 22] }, _, _, _, none⟩) rfl (fun K hK => ?_) AllReadyH.nil)
          rw [if_pos (by kernel_rfl)]
          go_simp
          refine (hsg.out _ (HB2.out.trans (HBL.out.mono HB2.out.size))).mono ?_
          rintro _ wS ⟨rfl, hb⟩
          replace HA6 := Lib.hid (And.intro ((hb.block _ (Array.getElem?_eq_some_iff.1 HA6.out.1).1).trans HA6.out.1) HA6.out.2)
          replace HBL := Lib.hid (up HBL.out hb)
          clear hb
          dsimp only
          refine hK.out _ _ (hAt.out _ HBL.out) (fun _ => ?_)
          clear hK K
          try go_frame
          refine th 6 ?_
          go_frame
          refine th 7 ?_
          go_frame
          refine th 8 ?_
          go_frame
          refine wpAnyH_ready (rs := [10]) (by kernel_rfl) (by simp) (AllReadyH.cons (o := ⟨none, .store 35 (.tmp 6) (.tmp 29), _, _, _, none⟩) rfl (fun K hK => ?_) AllReadyH.nil)
          rw [if_pos (by kernel_rfl)]
          obtain ⟨w4, hst4, hb4, hr4⟩ := hss2.out _ g6 HA6.out.2 HA6.out.1 HBL.out
          refine wp_skip w4 (exec_store rfl (vx := .pointer (some ⟨g6, 0, none⟩)) rfl (vy := .agg SC.toArray) rfl hst4) ?_
          replace HBL := Lib.hid hb4
          have HR4 := Lib.hid hr4
          have HL6 := Lib.hid (Array.getElem?_eq_some_iff.1 hr4).1
          clear hst4 hb4 hr4 HA6
          refine hK.out _ _ (hAt.out _ HBL.out) (fun _ => ?_)
          clear hK K
          try go_frame
          refine th 11 ?_
          go_frame
          refine wpAnyH_done (by kernel_rfl) ?_ _
          obtain ⟨w5, hst5, hat5, hb5, _⟩ := hS0.out w4 (HB2.out.trans (HBL.out.mono HB2.out.size))
          have HT := Lib.hid (And.intro hat5 hb5)
          clear hat5 hb5
          go_wp2_with (first
            | ((with_reducible refine wpList_stored (o := ⟨none, .store 39 (.tmp 2) (.tmp 33), _, _, _, none⟩) rfl 39 (.tmp 2) (.tmp 33) rfl (.pointer (some ⟨w.heap.size, 0, none⟩)) (.agg Z.toArray) ?_ ?_ w5 hst5 ?_); exact rfl; exact rfl))
          exact bodyPost_ret (ret_pk (p := 2) (q := 3) (by kernel_rfl) rfl HT.out.1 Pk.none_wide rfl) rfl ⟨by rw [← HZ.out]; rfl, HT.out.2⟩
  · rw [if_pos hE] at hIs
    rw [hNone (by omega), hIs]
    have hS0 := Lib.hid (hS.out Pk.none Pk.none_wide)
    have k1 := beq_zero hE
    have k2 := bne_zero hE
    clear hS hNone hIs hE hHw hr hrX hlc hXs h0 hb0 hHi2
    unfold pkV hdV at *
    generalize pkRE l = er at *
    generalize pkRH l = H at *
    generalize hdC Hd.zero = ZH at *
    generalize l.length = m at *
    subst hX
    generalize hZ : pkC Pk.none = Z at *
    have HZ := Lib.hid hZ
    clear hZ
    go_enter Try.func23, Try.ntmps23
    go_wp2_with (first
      | (with_reducible refine wpList_alloc_zero (o := ⟨some 2, .alloc 39, _, _, _, _⟩) rfl 39 rfl Z.toArray hz ?_)
      | (go_at_call 41; refine hq.out.mono ?_; rintro _ w1 ⟨rfl, hb1⟩; obtain ⟨w2, hst2, hat2, hb2, hlt2⟩ := hH2.out _ hb1; have HB2 := Lib.hid hb2; obtain ⟨w3, hst3, hat3, hb3, _⟩ := hS0.out _ HB2.out; have HT := Lib.hid (And.intro hat3 hb3); clear hat3 hb3; clear hat2; clear hb1 hb2)
      | (with_reducible refine wpList_alloc_zero (o := ⟨some 4, .alloc 33, _, _, _, _⟩) rfl 33 rfl ZH.toArray hzh ?_)
      | ((with_reducible refine wpList_stored (o := ⟨none, .store 33 (.tmp 4) (.tmp 10), _, _, _, none⟩) rfl 33 (.tmp 4) (.tmp 10) rfl (.pointer (some ⟨w1.heap.size, 0, none⟩)) (.agg (hdC H).toArray) ?_ ?_ w2 hst2 ?_); exact rfl; exact rfl)
      | ((with_reducible refine wpList_stored (o := ⟨none, .store 39 (.tmp 2) (.tmp 20), _, _, _, none⟩) rfl 39 (.tmp 2) (.tmp 20) rfl (.pointer (some ⟨w.heap.size, 0, none⟩)) (.agg Z.toArray) ?_ ?_ w3 hst3 ?_); exact rfl; exact rfl))
    exact bodyPost_ret (ret_pk (p := 2) (q := 3) (by kernel_rfl) rfl HT.out.1 Pk.none_wide rfl) rfl ⟨by rw [← HZ.out]; rfl, HT.out.2⟩
end Go.Proofs.Ytejppekcniehpaa
