/-
  The document's device: Crash: contract.
-/
import Derived.Test.YtmifaneolfciiaaRefF
namespace Go.Proofs.Ytmifaneolfciiaa
open Go.RowKit
/-- The document's device behind a loss of power. -/
def Ref.crash (x : Ref) (ks : List Int) : Ref := { L := lose (vers x.W) x.waits ks x.L, W := [], f := fun _ => -1, n := x.n }
theorem mem_waitsR {x : Ref} {i : Nat} : i ∈ x.waits ↔ i < x.L.length ∧ vers x.W i ≠ [] := by
  unfold Ref.waits waitsUp
  simp
section
variable {w w' : World} {G G' : Nat → Prop} {q : Nat} {vL vA vB : Value} {ls bs : List Value} {x : Ref}
/-- The loop's round, in words. -/
structure LostR (w1 wr : World) (G : Nat → Prop) (q : Nat) (vL vA vB : Value) (bs : List Value) (x : Ref) (ks : List Int) (j : Nat) (ls : List Value) (L : List (List UInt8)) : Prop where
  le : j ≤ x.waits.length ∧ j ≤ ks.length
  ref : RefIs wr G q vL vA vB ls bs { x with L := L }
  len : L.length = x.L.length
  grow : w1.grownBy wr vL.ownBlock
  rest : lose (vers x.W) (x.waits.drop j) (ks.drop j) L = lose (vers x.W) x.waits ks x.L
theorem rwaiting_cells (h : RefIs w G q vL vA vB ls bs x) (hn : x.n < 1000000) : Calls Try.prog 14 #[at0 q] w fun e w' => ∃ A c, e = .returned (.slice A x.waits.length c) ∧ Below w.heap.size w w' ∧
    ∀ (j : Nat) (hj : j < x.waits.length), ∃ g, A = some ⟨g, 0, none⟩ ∧ w.heap.size ≤ g ∧ g < w'.heap.size ∧ w'.cell? ⟨g, j, none⟩ = some (.int .i64 (x.waits[j] : Int)) := by
  refine (rwaiting_any h hn).mono ?_
  rintro e w' ⟨v, rfl, hown, hb⟩
  obtain ⟨A, c, rfl⟩ := hown.form
  rw [cellsN_length] at *
  refine ⟨A, c, rfl, hb, fun j hj => ?_⟩
  obtain ⟨g, c', cur, e1, hg, _⟩ := hown.at_ (by rw [cellsN_length]; omega)
  injection e1 with e1 e2 e3
  subst e1
  exact ⟨g, rfl, hown.lt.1, hown.lt.2, hown.cellAt (cellsN_at _ j hj)⟩
/-- All calls go well again. -/
theorem RefIs.calm (h : RefIs w G q vL vA vB ls bs x) {w' : World} (top : w'.heap[q]? = some (.cells (refCells { x with f := fun _ => -1 } vL vA vB).toArray 40 (0, 0))) (hg : w.grownBy w' (some q)) : RefIs w' G q vL vA vB ls bs { x with f := fun _ => -1 } :=
  h.head (n := x.n) top hg (Nat.le_refl _) fun _ => ⟨by decide, by decide⟩
theorem RefIs.calmed (h : RefIs w G q vL vA vB ls bs x) : RefIs ((((w.setCell ⟨q, 3, none⟩ (.int .i64 (-1))).setCell ⟨q, 4, none⟩ (.int .i64 (-1))).setCell ⟨q, 5, none⟩ (.int .i64 (-1))).setCell ⟨q, 6, none⟩ (.int .i64 (-1))) G q vL vA vB ls bs { x with f := fun _ => -1 } ∧
    Only G w ((((w.setCell ⟨q, 3, none⟩ (.int .i64 (-1))).setCell ⟨q, 4, none⟩ (.int .i64 (-1))).setCell ⟨q, 5, none⟩ (.int .i64 (-1))).setCell ⟨q, 6, none⟩ (.int .i64 (-1))) := by
  have t1 := heap_setCell_same w q 3 _ 40 (.int .i64 (-1)) h.top
  have t2 := heap_setCell_same _ q 4 _ 40 (.int .i64 (-1)) t1
  have t3 := heap_setCell_same _ q 5 _ 40 (.int .i64 (-1)) t2
  have t4 := heap_setCell_same _ q 6 _ 40 (.int .i64 (-1)) t3
  have s : ∀ (j : Nat) (v : Value) (w : World), Only G w (w.setCell ⟨q, j, none⟩ v) := fun j v w => Only.setCell (p := ⟨q, j, none⟩) h.inG.1 v
  exact ⟨h.calm (t4.trans (by simp [refCells])) ((((grown_cell w q 3 _).trans (grown_cell _ q 4 _)).trans (grown_cell _ q 5 _)).trans (grown_cell _ q 6 _)), (((s 3 _ w).trans (s 4 _ _)).trans (s 5 _ _)).trans (s 6 _ _)⟩
theorem calm_world (w : World) {q : Nat} (hq : q < w.heap.size) (a b c d : Value) (o o' : Obj) : ((((((w.alloc o).alloc o').setCell ⟨q, 3, none⟩ a).setCell ⟨q, 4, none⟩ b).setCell ⟨q, 5, none⟩ c).setCell ⟨q, 6, none⟩ d) = ((((((w.setCell ⟨q, 3, none⟩ a).setCell ⟨q, 4, none⟩ b).setCell ⟨q, 5, none⟩ c).setCell ⟨q, 6, none⟩ d).alloc o).alloc o') := by
  have hq' : ∀ (w : World) (j : Nat) (v : Value), q < w.heap.size → q < (w.setCell ⟨q, j, none⟩ v).heap.size := fun w j v h => by simpa using h
  have one : ∀ (w : World) (j : Nat) (v : Value), q < w.heap.size → ((w.alloc o).alloc o').setCell ⟨q, j, none⟩ v = ((w.setCell ⟨q, j, none⟩ v).alloc o).alloc o' := fun w j v h => by
    rw [World.setCell_alloc_past _ _ _ _ (by simp; omega), World.setCell_alloc_past _ _ _ _ h]
  rw [one w 3 a hq, one _ 4 b (hq' _ _ _ hq), one _ 5 c (hq' _ _ _ (hq' _ _ _ hq)), one _ 6 d (hq' _ _ _ (hq' _ _ _ (hq' _ _ _ hq)))]
set_option maxRecDepth 100000 in
set_option maxHeartbeats 4000000 in
theorem rcrash_any {A : Option Addr} {c : Nat} {ks : List Int} (h : RefIs w G q vL vA vB ls bs x) (hn : x.n < 1000000) (hks : RdN w G A ks) (hkl : ks.length < 1000000) (hG : ∀ k, w.heap.size ≤ k → G k) :
    Calls Try.prog 17 #[at0 q, .slice A ks.length c] w fun e w' => ∃ vA' vB' ls', e = .returned (.tuple #[]) ∧ RefIs w' G q vL vA' vB' ls' [] (x.crash ks) ∧ Only G w w' := by
  have hwc := rwaiting_cells h hn
  have hwl : x.waits.length < 1000000 := by
    have h1 := waitsUp_le x.W x.L.length
    have h2 := h.size
    unfold Ref.waits
    omega
  obtain ⟨K, hK⟩ : ∃ K, K = ks.length := ⟨_, rfl⟩
  obtain ⟨N, hN⟩ : ∃ N, N = x.waits.length := ⟨_, rfl⟩
  rw [← hK] at hkl ⊢
  rw [← hN] at hwl
  have hwc' : Calls Try.prog 14 #[at0 q] w fun e w' => ∃ A c, e = .returned (.slice A N c) ∧ Below w.heap.size w w' ∧
    ∀ (j : Nat) (hj : j < x.waits.length), ∃ g, A = some ⟨g, 0, none⟩ ∧ w.heap.size ≤ g ∧ g < w'.heap.size ∧ w'.cell? ⟨g, j, none⟩ = some (.int .i64 (x.waits[j] : Int)) := by rw [hN]; exact hwc
  have Hwc := Lib.hid hwc'
  have HK := Lib.hid hK
  have HN := Lib.hid hN
  have HG := Lib.hid hG
  have Hks := Lib.hid hks
  have Hn := Lib.hid hn
  have H := Lib.hid h
  clear hK hN hwc hwc' hG hks hn h
  go_enter Try.func17, Try.ntmps17
  go_wp2_with (go_at_call 14; refine Hwc.out.mono ?_; rintro e w1 ⟨Av, cv, rfl, hb1, hcv⟩; have Hcv := Lib.hid hcv; clear hcv)
  have hd1 := H.out.below hb1
  have ho1 : Only G w w1 := Only.of_below hb1
  have Hd1 := Lib.hid hd1
  clear hd1
  go_loopw [5] (fun iv wr => ∃ j ls' L, iv = .int .i64 (j : Nat) ∧ LostR w1 wr G q vL vA vB bs x ks j ls' L) (fun iv _ => N - (intOf iv).toNat)
  case atStart => exact ⟨0, ls, x.L, rfl, ⟨⟨Nat.zero_le _, Nat.zero_le _⟩, Hd1.out, rfl, World.grownBy.refl _ _, rfl⟩⟩
  case round =>
    obtain ⟨j, ls', L, rfl, hl⟩ := hrel
    have hjN : j ≤ N := by rw [HN.out]; exact hl.le.1
    have hjK : j ≤ K := by rw [HK.out]; exact hl.le.2
    by_cases hgo : j < N ∧ j < K
    · obtain ⟨hj1, hj2⟩ := hgo
      have hj1' : j < x.waits.length := by rw [← HN.out]; exact hj1
      have hj2' : j < ks.length := by rw [← HK.out]; exact hj2
      obtain ⟨gv, rfl, hgv1, hgv2, hcell⟩ := Hcv.out j hj1'
      obtain ⟨lb, lo, rfl, hlb1, hlbG, hcells⟩ := Hks.out (by omega)
      have hcellk := hcells j hj2'
      have hcell' : wr.cell? ⟨gv, j, none⟩ = some (.int .i64 (x.waits[j] : Int)) := (World.cell?_of_block (a := ⟨gv, j, none⟩) (hl.grow.block gv hgv2 (fun e => by have := (H.out.rL.block gv e.symm).2; omega))).trans hcell
      have hcellk' : wr.cell? ⟨lb, lo + j, none⟩ = some (.int .i64 ks[j]) := (World.cell?_of_block (a := ⟨lb, lo + j, none⟩) (hl.grow.block lb (Nat.lt_of_lt_of_le hlb1 hb1.size) (fun e => hlbG (H.out.inG.2.1 lb e.symm)))).trans ((hb1.cell (p := ⟨lb, lo + j, none⟩) hlb1).trans hcellk)
      obtain ⟨i, hi⟩ : ∃ i, i = x.waits[j] := ⟨_, rfl⟩
      obtain ⟨k, hk⟩ : ∃ k, k = ks[j] := ⟨_, rfl⟩
      have hmem := mem_waitsR.1 (hi ▸ List.getElem_mem hj1')
      rw [← hi] at hcell'
      rw [← hk] at hcellk'
      obtain ⟨m, hm⟩ : ∃ m, m = (vers x.W i).length := ⟨_, rfl⟩
      have hp0 : 0 < m := by rw [hm]; exact List.length_pos_iff.2 hmem.2
      have hmn : m < 1000000 := by
        have h1 := H.out.few
        have h2 : (vers x.W i).length ≤ x.W.length := by unfold vers; rw [List.length_map]; exact List.length_filter_le _ _
        have h3 := Hn.out
        omega
      obtain ⟨Z, hZ⟩ : ∃ Z : Int, Z = if (m : Int) < k then (m : Int) else k := ⟨_, rfl⟩
      have hnext := fun M (hM : M = if 0 < Z then L.set i ((vers x.W i).getD (Z - 1).toNat []) else L) => lost_next (Q := vers x.W) (ws := x.waits) (ks := ks) (L := L) (M := M) hj1' hj2' (q := Z) (by rw [← hi, ← hk, ← hm]; exact hZ) (by rw [← hi, ← hm]; exact hp0) (by rw [← hi]; exact hM)
      have hv := versions_len (hl.ref.keep (w' := wr.drew) fun _ _ _ => rfl) Hn.out i hm.symm
      have Hv := Lib.hid hv
      have hgvlt : gv < wr.heap.size := Nat.lt_of_lt_of_le hgv2 hl.grow.size
      have hlblt : lb < wr.heap.size := Nat.lt_of_lt_of_le hlb1 (Nat.le_trans hb1.size hl.grow.size)
      have j0 : (0 : Int) ≤ (j : Int) := by omega
      have j1 : (j : Int) < (N : Int) := by omega
      have j2 : (j : Int) < (K : Int) := by omega
      have j3 : (j : Int).toNat = j := by omega
      have Hl := Lib.hid hl
      have Hmem := Lib.hid hmem
      have Hnext := Lib.hid hnext
      have HZ := Lib.hid hZ
      have Hm := Lib.hid hm
      clear hv hl hnext hcells hcellk hcell hZ hm hi hk hmem hj1' hj2'
      go_wp2_with fail
      go_region_held3 (fun w' : World => w'.cell? ⟨gv, j, none⟩ = some (.int .i64 (i : Int)) ∧ w'.cell? ⟨lb, lo + j, none⟩ = some (.int .i64 k))
        (first | exact ⟨hcell', hcellk'⟩ | exact ⟨(hb2.cell (p := ⟨gv, j, none⟩) hgvlt).trans hcell', (hb2.cell (p := ⟨lb, lo + j, none⟩) hlblt).trans hcellk'⟩)
        (first | (go_at_call 32; refine Hv.out.mono ?_; rintro e w2 ⟨A2, c2, rfl, hb2, hall⟩; have Hall := Lib.hid hall; clear hall))
      rename_i hHeld
      obtain ⟨hvv, hvk⟩ := hHeld
      have hl2 : RefIs w2 G q vL vA vB ls' bs { x with L := L } := (Hl.out.ref.keep (w' := wr.drew) fun _ _ _ => rfl).below hb2
      have g2 : w1.grownBy w2 vL.ownBlock := (Hl.out.grow.trans (grown_drew _ _)).trans ⟨hb2.os, hb2.tape, hb2.output, hb2.size, fun k hk _ => hb2.block k hk⟩
      obtain ⟨AL, cL, hA, c0, hlast⟩ := hl2.last_at
      have hiL : i < L.length := by rw [Hl.out.len]; exact Hmem.out.1
      obtain ⟨gL, gu, cu, rfl, hgL, hGL, hgLq, hcL, _⟩ := hlast i hiL
      have hfL : w2.frozen? ⟨gL, i, none⟩ = false := by
        have := hl2.rL
        rw [hA] at this
        exact this.free i
      obtain ⟨n, hnn⟩ : ∃ n, n = L.length := ⟨_, rfl⟩
      rw [show ({ x with L := L } : Ref).L.length = n from hnn.symm] at c0 hA
      rw [← hnn] at hiL
      have s0 : (0 : Int) ≤ (i : Int) := by omega
      have s1 : (i : Int) < (n : Int) := by omega
      have s2 : (i : Int).toNat = i := by omega
      have Hnn := Lib.hid hnn
      clear hlast hnn hb2
      by_cases hz : 0 < Z
      · obtain ⟨idx, hidx⟩ : ∃ idx : Nat, Z = (idx : Int) + 1 := ⟨(Z - 1).toNat, by omega⟩
        have him : idx < m := by
          have := HZ.out
          split at this <;> omega
        obtain ⟨g3, gu3, cu3, rfl, hg31, hg32, hc3, hsec3⟩ := Hall.out idx him
        have hd2 : RefIs (w2.setCell ⟨gL, i, none⟩ (.slice (some ⟨gu3, 0, none⟩) 256 cu3)).drew G q vL vA vB (ls'.set i (.slice (some ⟨gu3, 0, none⟩) 256 cu3)) bs { x with L := L.set i ((vers x.W i).getD idx []) } :=
          (hl2.set_last (i := i) hA hsec3).keep fun _ _ _ => rfl
        have hgr : w1.grownBy (w2.setCell ⟨gL, i, none⟩ (.slice (some ⟨gu3, 0, none⟩) 256 cu3)).drew vL.ownBlock := by
          refine (g2.trans ?_).trans (grown_drew _ _)
          rw [hA]
          exact grown_cell _ _ _ _
        have hrest := Hnext.out (L.set i ((vers x.W i).getD idx [])) (by rw [if_pos hz]; congr 2; omega)
        have hfin : LostR w1 (w2.setCell ⟨gL, i, none⟩ (.slice (some ⟨gu3, 0, none⟩) 256 cu3)).drew G q vL vA vB bs x ks (j + 1) (ls'.set i (.slice (some ⟨gu3, 0, none⟩) 256 cu3)) (L.set i ((vers x.W i).getD idx [])) :=
          ⟨⟨by rw [← HN.out]; omega, by rw [← HK.out]; omega⟩, hd2, by rw [List.length_set]; exact Hl.out.len, hgr, hrest.trans Hl.out.rest⟩
        have Hfin := Lib.hid hfin
        clear hd2 hgr hrest hfin hl2 g2 hA hsec3 Hall Hnext
        have x0 : (0 : Int) ≤ (idx : Int) := by omega
        have x2 : (idx : Int).toNat = idx := by omega
        have xw : IntKind.i64.wrap (idx : Int) = (idx : Int) := IntWalk.i64_in _ (by omega)
        by_cases hmk : (m : Int) < k
        · obtain rfl : m = idx + 1 := by
            have := HZ.out
            rw [if_pos hmk] at this
            omega
          have x1 : (idx : Int) < (idx : Int) + 1 := by omega
          have t1 : decide ((idx : Int) + 1 < k) = true := by rw [decide_eq_true_eq]; omega
          clear HZ hz hidx Hl Hm him hmk
          go_wp2_with fail
          go_still_tail 14, (by kernel_rfl)
          go_wp2_with fail
          go_roundw
          case rel => exact ⟨j + 1, _, _, by go_num, Hfin.out⟩
          case measure => simp [intOf]; omega
        · obtain rfl : k = (idx : Int) + 1 := by
            have := HZ.out
            rw [if_neg hmk] at this
            omega
          have x1 : (idx : Int) < (m : Int) := by omega
          have t1 : decide ((m : Int) < (idx : Int) + 1) = false := by rw [decide_eq_false_iff_not]; exact hmk
          clear HZ hz hidx Hl Hm hmk
          go_wp2_with fail
          go_still_tail 14, (by kernel_rfl)
          go_wp2_with fail
          go_roundw
          case rel => exact ⟨j + 1, _, _, by go_num, Hfin.out⟩
          case measure => simp [intOf]; omega
      · have hk0 : k ≤ 0 := by
          have := HZ.out
          split at this <;> omega
        have t1 : decide ((m : Int) < k) = false := by rw [decide_eq_false_iff_not]; omega
        have t2 : decide (0 < k) = false := by rw [decide_eq_false_iff_not]; omega
        have hfin : LostR w1 w2 G q vL vA vB bs x ks (j + 1) ls' L :=
          ⟨⟨by rw [← HN.out]; omega, by rw [← HK.out]; omega⟩, hl2, Hl.out.len, g2, (Hnext.out L (by rw [if_neg hz])).trans Hl.out.rest⟩
        have Hfin := Lib.hid hfin
        clear hfin hl2 g2 hA Hall Hnext HZ hz Hl Hm hk0
        go_wp2_with fail
        go_roundw
        case rel => exact ⟨j + 1, _, _, by go_num, Hfin.out⟩
        case measure => simp [intOf]; omega
    · have hrest := hl.rest
      have hnone : lose (vers x.W) (x.waits.drop j) (ks.drop j) L = L := by
        by_cases h1 : j < N
        · have h2 : j = K := by omega
          rw [h2, HK.out, List.drop_length, lose_none]
        · have h2 : j = N := by omega
          rw [h2, HN.out, List.drop_length]
          rfl
      rw [hnone] at hrest
      have hd := hl.ref
      rw [hrest] at hd
      have hGr : ∀ k, wr.heap.size ≤ k → G k := fun k hk => HG.out k (Nat.le_trans hb1.size (Nat.le_trans hl.grow.size hk))
      have hcl := hd.clear hGr
      have hocl : ∀ u v o o', Only G w ((((wr.alloc o).alloc o').setCell ⟨q, 1, none⟩ u).setCell ⟨q, 2, none⟩ v) := fun u v o o' => ho1.trans ((Only.grown hl.grow fun g e => H.out.inG.2.1 g e).trans (only_clear hd.inG.1 u v o o'))
      have top := hd.top
      have f1 := hd.free 1
      have f2 := hd.free 2
      have f3 := hd.free 3
      have f4 := hd.free 4
      have f5 := hd.free 5
      have f6 := hd.free 6
      have c1 := hd.c1
      have c2 := hd.c2
      have c3 := hd.cf (k := 0) (by omega)
      have c4 := hd.cf (k := 1) (by omega)
      have c5 := hd.cf (k := 2) (by omega)
      have c6 := hd.cf (k := 3) (by omega)
      have hqlt := hd.lt
      rw [clear_world _ hqlt] at hcl
      simp only [clear_world _ hqlt] at hocl
      have hcm := hcl.calmed
      have hqs : ∀ u v, q < ((wr.setCell ⟨q, 1, none⟩ u).setCell ⟨q, 2, none⟩ v).heap.size := fun u v => by simpa using hqlt
      rw [calm_world _ (hqs _ _)] at hcm
      have Hcl := Lib.hid hcm.1
      have Hocl := Lib.hid ((hocl _ _ _ _).trans hcm.2)
      by_cases h1 : j < N
      · have h2 : decide ((j : Int) < (K : Int)) = false := by rw [decide_eq_false_iff_not]; omega
        clear hd hcl hocl hcm hrest hnone hGr hl hqs
        go_wp2_with fail
        go_end0
        exact ⟨rfl, ⟨_, _, _, Hcl.out⟩, Hocl.out⟩
      · have h2 : decide ((j : Int) < (N : Int)) = false := by rw [decide_eq_false_iff_not]; omega
        clear hd hcl hocl hcm hrest hnone hGr hl hqs
        go_wp2_with fail
        go_end0
        exact ⟨rfl, ⟨_, _, _, Hcl.out⟩, Hocl.out⟩
end
end Go.Proofs.Ytmifaneolfciiaa
