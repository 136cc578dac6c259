/-
  The document's Write of a segment: of one that is always written.
  The document's Write of a packet of IPv4, and its Build: of one that is always built.
  The document's Build of one that is always built; law 17's lives.
-/
import Derived.Test.YtejppekcniehpaaNtG
import Derived.Test.YtejppekcniehpaaAdBy
import Derived.Test.YtejppekcniehpaaPkD
import Derived.Test.YtejppekcniehpaaNtS
import Derived.Test.YtejppekcniehpaaPkG
namespace Go.Proofs.Ytejppekcniehpaa
open Go.RowKit
theorem mine_block {w : World} {B : Nat} {v : Value} {l : List UInt8} (h : Mine w B 5 v (cellsB l)) (hl : l.length ≠ 0) : ∃ g c, v = .slice (some ⟨g, 0, none⟩) l.length c ∧ B ≤ g ∧ g < w.heap.size := by
  have hlt := World.ownsRow.lt h
  rcases h.2 with ⟨_, hn⟩ | ⟨g, cap, cur, e, hB, hg, hnc, hcm, _, ht⟩
  · rw [cellsB_length] at hn; omega
  · rw [cellsB_length] at e
    subst e
    exact ⟨g, cap, rfl, hB, (hlt g rfl).2⟩
/-- What is appended. -/
theorem mine_more {w : World} {B : Nat} {v x : Value} {l m : List UInt8} (h : Mine w B 5 v (cellsB l)) (hB : B ≤ w.heap.size) (hx : Rd w w.heap.size x (cellsB m)) (hl : l.length + m.length ≤ 100000) : ∃ v2 w2, (Builtin.append_ #[22, 22] 22 #[v, x]).run Try.prog w = .ok v2 w2 ∧ Mine w2 B 5 v2 (cellsB (l ++ m)) ∧ Below B w w2 := by
  obtain ⟨i, hi, hz0, hz1, hz2⟩ := info_parts info_u8
  obtain ⟨v2, w2, r2, m2, g2, _⟩ := run_append_rd (P := Try.prog) B 22 22 5 i _ 1 Try.underlying22 hi hz0 hz1 hz2 rfl v _ h w.heap.size _ _ hx (cellsB_one _) (by simp [cellsB_length]; omega) (by unfold maxLen; simp [cellsB_length]; omega) hB
  rw [← cellsB_append] at m2
  exact ⟨v2, w2, r2, m2, (Below.refl B w).grown g2 hB fun k hk => (World.ownsRow.lt h k hk).1⟩
theorem put_as {W : World} {A : Option Addr} {m c : Nat} {l r : List UInt8} (h : Rd W W.heap.size (.slice A m c) (cellsB l)) (hm : l.length = m) {n : Nat} {nn : Int} (hnn : nn = (n : Int)) (hn : n < 65536) (hl : l.length ≤ 1000) (hr : l ++ be 2 n = r) :
    Calls Try.prog 32 #[.slice A m c, .int .u64 nn, .int .i64 2] W fun e w' => ∃ v, e = .returned v ∧ Mine w' W.heap.size 5 v (cellsB r) ∧ Below W.heap.size W w' := by
  subst hm hnn hr
  exact refPut_any A c l n 2 W W.heap.size h (Nat.le_refl _) (by omega) (by omega) (by omega) (by omega)
def sRaw : List UInt8 := [0, 5, 0, 6, 0, 9, 0, 0, 7]
theorem sRaw_sum : sumOf (sgPseudo (bdHd flSome 9) 9 ++ sRaw) = 63697 := by kernel_rfl
theorem sRaw_set : cellsB (bdSeg flSome 0 9 [7]) = ((cellsB sRaw).set 6 (.int .u8 248)).set 7 (.int .u8 209) := by kernel_rfl
set_option maxRecDepth 100000 in
set_option maxHeartbeats 1000000 in
theorem rsWrite_some {A : Option Addr} {c : Nat} {w : World} (hr : Rd w w.heap.size (.slice A 1 c) (cellsB [7])) :
    Calls Try.prog 38 #[.agg (hdC (bdHd flSome 9)).toArray, .agg (sgC (bdSg flSome 0)).toArray, .slice A 1 c] w fun e w' => ∃ A' c', e = .returned (.tuple #[.slice A' 9 c', .int .i64 0]) ∧ Rd w' w'.heap.size (.slice A' 9 c') (cellsB (bdSeg flSome 0 9 [7])) ∧ Below w.heap.size w w' := by
  have hw : (bdHd flSome 9).Wide := ⟨rfl, rfl⟩
  obtain ⟨X1, hX1⟩ : ∃ X, X = w.alloc (.cells (hdC (bdHd flSome 9)).toArray 33) := ⟨_, rfl⟩
  obtain ⟨X, hX⟩ : ∃ X, X = X1.alloc (.cells (sgC (bdSg flSome 0)).toArray 35) := ⟨_, rfl⟩
  have hs1 : X1.heap.size = w.heap.size + 1 := by rw [hX1]; simp
  have hs2 : X.heap.size = w.heap.size + 1 + 1 := by rw [hX]; simp [hs1]
  have hb1 : Below w.heap.size w X1 := by rw [hX1]; exact up_alloc (Below.refl _ _) _
  have hb2 : Below w.heap.size w X := by rw [hX]; exact up_alloc hb1 _
  have h3 : X.heap[w.heap.size]? = some (.cells (hdC (bdHd flSome 9)).toArray 33 (0, 0)) := by rw [hX]; refine (heap_alloc_old _ _ (by omega)).trans ?_; rw [hX1]; exact heap_alloc_last w _
  have h4 : X.heap[w.heap.size + 1]? = some (.cells (sgC (bdSg flSome 0)).toArray 35 (0, 0)) := by rw [hX, ← hs1]; exact heap_alloc_last X1 _
  have hF : Hid (∀ W, Below X.heap.size X W → (W.cell? ⟨w.heap.size, 1, none⟩ = some (.int .u8 17) ∧ W.cell? ⟨w.heap.size, 0, none⟩ = some (.bool false) ∧ W.cell? ⟨w.heap.size, 3, none⟩ = some (.bool false) ∧ W.cell? ⟨w.heap.size, 20, none⟩ = some (.bool false)) ∧ (W.rangeAt w.heap.size 3 (adC Ad.zero) ∧ W.rangeAt w.heap.size 20 (adC Ad.zero) ∧ W.rangeAt w.heap.size 0 (hdC (bdHd flSome 9))) ∧ (W.cell? ⟨w.heap.size + 1, 0, none⟩ = some (.int .u16 5) ∧ W.cell? ⟨w.heap.size + 1, 1, none⟩ = some (.int .u16 6) ∧ W.cell? ⟨w.heap.size + 1, 4, none⟩ = some (.bool false))) := Lib.hid fun W hW => by
    have k3 := (hW.block _ (by omega)).trans h3
    have k4 := (hW.block _ (by omega)).trans h4
    refine ⟨⟨?_, ?_, ?_, ?_⟩, ⟨?_, ?_, ?_⟩, ?_, ?_, ?_⟩
    · rw [cell_of_row W _ 1 _ _ _ k3]; rfl
    · rw [cell_of_row W _ 0 _ _ _ k3]; rfl
    · rw [cell_of_row W _ 3 _ _ _ k3]; rfl
    · rw [cell_of_row W _ 20 _ _ _ k3]; rfl
    · exact hdC_src (a := bdHd flSome 9) k3
    · exact hdC_dst (a := bdHd flSome 9) hw k3
    · exact row_range k3
    · rw [cell_of_row W _ 0 _ _ _ k4]; rfl
    · rw [cell_of_row W _ 1 _ _ _ k4]; rfl
    · rw [cell_of_row W _ 4 _ _ _ k4]; rfl
  have hup : Hid (∀ W, Below X.heap.size X W → Below w.heap.size w W ∧ Rd W W.heap.size (.slice A 1 c) (cellsB [7])) := Lib.hid fun W hW => ⟨up hb2 hW, (hr.below (up hb2 hW)).more (up hb2 hW).size⟩
  have hGood : Hid (∀ W, Calls Try.prog 12 #[.agg (adC Ad.zero).toArray] W fun e w' => e = .returned (.bool true) ∧ Below W.heap.size W w') := Lib.hid fun W => rfGood_any Ad.zero W rfl
  have hiA : (Try.prog.info? 25).map (·.size) = some (adC Ad.zero).length := info_ad rfl
  have hiH := info_hd hw
  have hPut1 : Hid (∀ W, Calls Try.prog 32 #[.slice (some ⟨W.heap.size, 0, none⟩) 0 0, .int .u64 5, .int .i64 2] (W.alloc (.cells #[] 5)) fun e w' => ∃ A c, e = .returned (.slice A 2 c) ∧ Rd w' w'.heap.size (.slice A 2 c) (cellsB [0, 5]) ∧ Below W.heap.size W w') := Lib.hid fun W => by
    refine (put_as (l := []) (n := 5) (r := [0, 5]) (Mine.empty W W.heap.size 5 (Nat.le_refl _)).rd rfl rfl (by omega) (by simp) rfl).mono ?_
    rintro e w' ⟨v, rfl, hv, hb⟩
    obtain ⟨A, c, rfl, hr⟩ := mine_slice (w := W) hv (n := 2) rfl
    exact ⟨A, c, rfl, hr, up (up_alloc (Below.refl _ _) _) hb⟩
  have hPut2 : Hid (∀ W A c, Rd W W.heap.size (.slice A 2 c) (cellsB [0, 5]) → Calls Try.prog 32 #[.slice A 2 c, .int .u64 6, .int .i64 2] W fun e w' => ∃ A c, e = .returned (.slice A 4 c) ∧ Rd w' w'.heap.size (.slice A 4 c) (cellsB [0, 5, 0, 6]) ∧ Below W.heap.size W w') := Lib.hid fun W A c h => by
    refine (put_as (n := 6) (r := [0, 5, 0, 6]) h rfl rfl (by omega) (by simp) rfl).mono ?_
    rintro e w' ⟨v, rfl, hv, hb⟩
    obtain ⟨A, c, rfl, hr⟩ := mine_slice (w := W) hv (n := 4) rfl
    exact ⟨A, c, rfl, hr, hb⟩
  have hlit : Hid (∀ W : World, Rd (W.alloc (.cells #[.int .u8 0, .int .u8 0] 5)) (W.alloc (.cells #[.int .u8 0, .int .u8 0] 5)).heap.size (.slice (some ⟨W.heap.size, 0, none⟩) 2 2) (cellsB [0, 0])) := Lib.hid fun W => by
    have := rd_lit W 5 [0, 0] (by simp)
    rw [show (W.alloc (.cells #[.int .u8 0, .int .u8 0] 5)).heap.size = W.heap.size + 1 by simp]
    exact this
  have hPut3 : Hid (∀ W A4 c4, Below X.heap.size X W → Rd W W.heap.size (.slice A4 4 c4) (cellsB [0, 5, 0, 6]) → Calls Try.prog 32 #[.slice A4 4 c4, .int .u64 9, .int .i64 2] W fun e w' => ∃ v, e = .returned v ∧ ∃ v2 w2, (Builtin.append_ #[22, 22] 22 #[v, .slice (some ⟨w'.heap.size, 0, none⟩) 2 2]).run Try.prog (w'.alloc (.cells #[.int .u8 0, .int .u8 0] 5)) = .ok v2 w2 ∧ ∃ g cc w3, (Builtin.append_ #[22, 22] 22 #[v2, .slice A 1 c]).run Try.prog w2 = .ok (.slice (some ⟨g, 0, none⟩) 9 cc) w3 ∧ X.heap.size ≤ g ∧ Mine w3 X.heap.size 5 (.slice (some ⟨g, 0, none⟩) 9 cc) (cellsB sRaw) ∧ Below X.heap.size X w3) := Lib.hid fun W A4 c4 hW h => by
    refine (put_as (n := 9) (r := [0, 5, 0, 6, 0, 9]) h rfl rfl (by omega) (by simp) rfl).mono ?_
    rintro e w' ⟨v, rfl, hv, hb⟩
    have hW' := up hW hb
    have hlb := up_alloc hW' (.cells #[.int .u8 0, .int .u8 0] 5)
    obtain ⟨v2, w2, r2, m2, b2⟩ := mine_more ((hv.weaken hW.size).alloc (.cells #[.int .u8 0, .int .u8 0] 5)) hlb.size (hlit.out w') (by simp)
    have b2' := hlb.trans b2
    obtain ⟨v3, w3, r3, m3, b3⟩ := mine_more m2 b2'.size (hup.out w2 b2').2 (by simp)
    obtain ⟨g, cc, rfl, hg, _⟩ := mine_block m3 (by simp)
    exact ⟨v, rfl, v2, w2, r2, g, cc, w3, r3, hg, m3, b2'.trans b3⟩
  have hPs : Hid (∀ W g cc, Below X.heap.size X W → Mine W X.heap.size 5 (.slice (some ⟨g, 0, none⟩) 9 cc) (cellsB sRaw) → Calls Try.prog 17 #[.agg (hdC (bdHd flSome 9)).toArray, .int .i64 9] W fun e w' => ∃ v, e = .returned v ∧ ∃ v2 w2, (Builtin.append_ #[22, 22] 22 #[v, .slice (some ⟨g, 0, none⟩) 9 cc]).run Try.prog w' = .ok v2 w2 ∧ ∃ A n c', v2 = .slice A n c' ∧ Calls Try.prog 16 #[.slice A n c'] w2 (fun e w3 => e = .returned (.int .u16 63697) ∧ w2 = w3) ∧ Mine w2 X.heap.size 5 (.slice (some ⟨g, 0, none⟩) 9 cc) (cellsB sRaw) ∧ Below X.heap.size X w2) := Lib.hid fun W g cc hW hM => by
    refine (rsPseudo_any (bdHd flSome 9) hw 9 9 rfl (by omega) W).mono ?_
    rintro e w' ⟨v, rfl, hv, hb⟩
    obtain ⟨v2, w2, r2, m2, b2⟩ := mine_more hv hb.size (hM.kept hb).rd (by have := (sgPseudo_length hw 9).2.1; have : sRaw.length = 9 := rfl; omega)
    obtain ⟨A, c', rfl, _, _, hr2⟩ := m2.rd.bytes
    refine ⟨v, rfl, _, w2, r2, A, _, c', rfl, ?_, hM.kept (hb.trans b2), hW.trans ((hb.trans b2).mono hW.size)⟩
    have := rinSum_any rfl (by have := (sgPseudo_length hw 9).2.1; have : sRaw.length = 9 := rfl; rw [List.length_append]; omega) hr2
    rw [sRaw_sum] at this
    exact this
  have hEnd : Hid (∀ W g cc, Below X.heap.size X W → X.heap.size ≤ g → Mine W X.heap.size 5 (.slice (some ⟨g, 0, none⟩) 9 cc) (cellsB sRaw) → Rd ((W.setCell ⟨g, 6, none⟩ (.int .u8 248)).setCell ⟨g, 7, none⟩ (.int .u8 209)) ((W.setCell ⟨g, 6, none⟩ (.int .u8 248)).setCell ⟨g, 7, none⟩ (.int .u8 209)).heap.size (.slice (some ⟨g, 0, none⟩) 9 cc) (cellsB (bdSeg flSome 0 9 [7])) ∧ Below w.heap.size w ((W.setCell ⟨g, 6, none⟩ (.int .u8 248)).setCell ⟨g, 7, none⟩ (.int .u8 209))) := Lib.hid fun W g cc hW hg hM => by
    rw [sRaw_set]
    exact ⟨((hM.stored 6 _).stored 7 _).rd, ((up hb2 hW).setCell (p := ⟨g, 6, none⟩) (by show w.heap.size ≤ g; omega) _).setCell (p := ⟨g, 7, none⟩) (by show w.heap.size ≤ g; omega) _⟩
  have hLook : Hid (∀ W g cc, Mine W X.heap.size 5 (.slice (some ⟨g, 0, none⟩) 9 cc) (cellsB sRaw) → W.cell? ⟨g, 6, none⟩ = some (.int .u8 0) ∧ W.cell? ⟨g, 7, none⟩ = some (.int .u8 0) ∧ W.frozen? ⟨g, 6, none⟩ = false ∧ W.frozen? ⟨g, 7, none⟩ = false) := Lib.hid fun W g cc h => ⟨h.cellAt rfl, h.cellAt rfl, h.free 6, h.free 7⟩
  obtain ⟨⟨c31, c30, c33, c320⟩, ⟨r33, r320, r30⟩, c40, c41, c44⟩ := hF.out X (Below.refl _ _)
  clear hr hs1 hs2 hb1 hb2 h3 h4 hw
  generalize hCH : (hdC (bdHd flSome 9)) = CH at *
  generalize (sgC (bdSg flSome 0)) = CS at *
  generalize hAZ : adC Ad.zero = AZ at *
  clear hCH hAZ
  have HB := Lib.hid (Below.refl X.heap.size X)
  subst hX hX1
  go_enter Try.func38, Try.ntmps38
  go_wp2_with (first
    | ((with_reducible refine wpList_load_mid_g (op := ⟨some 30, .load 25 (.tmp 29), _, _, _, _⟩) ?_ 25 (.tmp 29) rfl w.heap.size 3 ?_ AZ _ r33 Try.underlying25 rfl hiA ?_); kernel_rfl; exact rfl)
    | ((with_reducible refine wpList_load_mid_g (op := ⟨some 36, .load 25 (.tmp 35), _, _, _, _⟩) ?_ 25 (.tmp 35) rfl w.heap.size 20 ?_ AZ _ r320 Try.underlying25 rfl hiA ?_); kernel_rfl; exact rfl)
    | (go_at_call 12; refine (hGood.out _).mono ?_; rintro _ w1 ⟨rfl, hb1⟩; replace HB := Lib.hid (up HB.out hb1); clear c31 c30 c33 c320 r33 r320 r30 c40 c41 c44 hb1; obtain ⟨⟨c31, c30, c33, c320⟩, ⟨r33, r320, r30⟩, c40, c41, c44⟩ := hF.out _ HB.out))
  clear c31 c30 c33 c320 r33 r320 r30 c40 c41 c44 hGood
  have u5 : IntKind.u64.wrap 5 = 5 := IntWalk.u64_in _ (by omega)
  have u6 : IntKind.u64.wrap 6 = 6 := IntWalk.u64_in _ (by omega)
  have u9 : IntKind.u64.wrap 9 = 9 := IntWalk.u64_in _ (by omega)
  have i9 : IntKind.i64.wrap 9 = 9 := IntWalk.i64_in _ (by omega)
  have i7 : IntKind.i64.wrap 7 = 7 := IntWalk.i64_in _ (by omega)
  have n1 : IntKind.u16.wrap 248 = 248 := IntWalk.u16_in _ (by omega)
  have HD := Lib.hid (up HB.out (drew_self _))
  have hS : Hid (∀ W, Below ((w.alloc (.cells CH.toArray 33)).alloc (.cells CS.toArray 35)).heap.size ((w.alloc (.cells CH.toArray 33)).alloc (.cells CS.toArray 35)) W → W.cell? ⟨w.heap.size + 1, 0, none⟩ = some (.int .u16 5) ∧ W.cell? ⟨w.heap.size + 1, 1, none⟩ = some (.int .u16 6)) := Lib.hid fun W hW => ⟨(hF.out W hW).2.2.1, (hF.out W hW).2.2.2.1⟩
  refine wp_region_held_drew (S := fun w' => w'.cell? ⟨w.heap.size + 1, 0, none⟩ = some (.int .u16 5) ∧ w'.cell? ⟨w.heap.size + 1, 1, none⟩ = some (.int .u16 6)) (by kernel_rfl) (hS.out _ HD.out) (fun hHeld => ?_)
  refine th 1 ?_
  go_frame
  refine th 2 (v := .int .u16 5) ?_ (hy := fun wy hSw => by (obtain ⟨s1, s2⟩ := hSw; go_simp <;> with_reducible rfl))
  go_frame
  refine th 3 (v := .int .u64 5) ?_ (hy := fun wy hSw => by (go_simp <;> with_reducible rfl))
  go_frame
  refine th 5 ?_
  go_frame
  refine th 6 (v := .int .u16 6) ?_ (hy := fun wy hSw => by (obtain ⟨s1, s2⟩ := hSw; go_simp <;> with_reducible rfl))
  go_frame
  refine th 7 (v := .int .u64 6) ?_ (hy := fun wy hSw => by (go_simp <;> with_reducible rfl))
  go_frame
  refine wpAnyH_ready (rs := [0]) (by kernel_rfl) (by simp) (AllReadyH.cons (o := ⟨some 61, .buildSlice 22 0 #[], _, _, _, none⟩) rfl (fun K hK => ?_) AllReadyH.nil)
  rw [if_pos (by kernel_rfl)]
  go_simp
  refine hK.out _ _ (hS.out _ (up_alloc HD.out (.cells #[] 5))) (fun _ => ?_)
  clear hK K
  try go_frame
  refine wpAnyH_ready (rs := [4]) (by kernel_rfl) (by simp) (AllReadyH.cons (o := ⟨some 65, .call { callee := .value (.func 32), args := #[.tmp 61, .tmp 64, .const (.int .i64 2)], argTypes := #[22, 63, 3] }, _, _, _, none⟩) rfl (fun K hK => ?_) AllReadyH.nil)
  rw [if_pos (by kernel_rfl)]
  go_simp
  refine (hPut1.out w1.drew).mono ?_
  rintro _ w2 ⟨A2, c2, rfl, hr2, hb2⟩
  replace HD := Lib.hid (up HD.out hb2)
  have HR2 := Lib.hid hr2
  clear hr2 hb2
  dsimp only
  refine hK.out _ _ (hS.out _ HD.out) (fun _ => ?_)
  clear hK K
  try go_frame
  refine wpAnyH_ready (rs := [8]) (by kernel_rfl) (by simp) (AllReadyH.cons (o := ⟨some 69, .call { callee := .value (.func 32), args := #[.tmp 65, .tmp 68, .const (.int .i64 2)], argTypes := #[22, 63, 3] }, _, _, _, none⟩) rfl (fun K hK => ?_) AllReadyH.nil)
  rw [if_pos (by kernel_rfl)]
  go_simp
  refine (hPut2.out _ _ _ HR2.out).mono ?_
  rintro _ w3 ⟨A3, c3, rfl, hr3, hb3⟩
  replace HD := Lib.hid (up HD.out hb3)
  have HR3 := Lib.hid hr3
  clear hr3 hb3 HR2
  dsimp only
  refine hK.out _ _ (hS.out _ HD.out) (fun _ => ?_)
  clear hK K
  try go_frame
  refine th 9 ?_
  go_frame
  refine wpAnyH_done (by kernel_rfl) ?_ _
  have c31 := (hF.out _ HD.out).1.1
  go_wp2_with (first
    | (go_at_call 32; refine (hPut3.out _ _ _ HD.out HR3.out).mono ?_; rintro _ w4 ⟨v4, rfl, v5, w5, hrun5, g, cc, w6, hrun6, hg6, hm6, hb6⟩; have HD6 := Lib.hid hb6; have HM6 := Lib.hid hm6; have HG6 := Lib.hid hg6; obtain ⟨⟨c31, c30, _, _⟩, ⟨_, _, r30⟩, _, _, c44⟩ := hF.out _ hb6; clear hg6 hm6 hb6)
    | ((with_reducible refine wpList_run (o := ⟨some 85, .call { callee := .builtin .append, args := #[.tmp 83, .tmp 84], argTypes := #[22, 22] }, 22, _, _, _⟩) rfl v5 w5 (exec_append rfl (u := v4) rfl (v := .slice (some ⟨w4.heap.size, 0, none⟩) 2 2) rfl hrun5) ?_))
    | ((with_reducible refine wpList_run (o := ⟨some 88, .call { callee := .builtin .append, args := #[.tmp 86, .tmp 87], argTypes := #[22, 22] }, 22, _, _, _⟩) rfl (.slice (some ⟨g, 0, none⟩) 9 cc) w6 (exec_append rfl (u := v5) rfl (v := .slice A 1 c) rfl hrun6) ?_))
    | ((with_reducible refine wpList_load_mid (op := ⟨some 102, .load 33 (.tmp 3), _, _, _, _⟩) rfl 33 (.tmp 3) rfl w.heap.size 0 ?_ CH _ r30 Try.underlying33 rfl hiH ?_); exact rfl)
    | (go_at_call 17; refine (hPs.out _ _ _ HD6.out HM6.out).mono ?_; rintro _ w7 ⟨v7, rfl, v8, w8, hrun8, A9, n9, c9, rfl, hsum9, hm9, hb9⟩; have HS9 := Lib.hid hsum9; have HM9 := Lib.hid hm9; have HD9 := Lib.hid hb9; clear hsum9 hb9; obtain ⟨d6, d7, f6, f7⟩ := hLook.out _ _ _ hm9; clear hm9)
    | ((with_reducible refine wpList_run (o := ⟨some 107, .call { callee := .builtin .append, args := #[.tmp 105, .tmp 106], argTypes := #[22, 22] }, 22, _, _, _⟩) rfl (.slice A9 n9 c9) w8 (exec_append rfl (u := v7) rfl (v := .slice (some ⟨g, 0, none⟩) 9 cc) rfl hrun8) ?_))
    | (go_at_call 16; refine HS9.out.mono ?_; rintro _ w10 ⟨rfl, rfl⟩))
  go_ret2
  have HT := hEnd.out _ _ _ HD9.out HG6.out HM9.out
  exact ⟨_, _, rfl, HT.1, HT.2⟩
set_option maxRecDepth 100000 in
theorem rifFour_zero (w : World) : Calls Try.prog 51 #[.agg (adC Ad.zero).toArray] w fun e w' => e = .returned (.bool true) ∧ Below w.heap.size w w' := by
  have hat := heap_alloc_last w (.cells (adC Ad.zero).toArray 25)
  have hb := Lib.hid (up_alloc (Below.refl w.heap.size w) (.cells (adC Ad.zero).toArray 25))
  have c0 : (w.alloc (.cells (adC Ad.zero).toArray 25)).cell? ⟨w.heap.size, 0, none⟩ = some (.bool false) := adC_six hat
  have hrg := row_range hat
  have hG : Hid (∀ W, Calls Try.prog 12 #[.agg (adC Ad.zero).toArray] W fun e w' => e = .returned (.bool true) ∧ Below W.heap.size W w') := Lib.hid fun W => rfGood_any Ad.zero W rfl
  have hiA : (Try.prog.info? 25).map (·.size) = some (adC Ad.zero).length := info_ad rfl
  generalize hAZ : adC Ad.zero = AZ at *
  clear hAZ hat
  go_enter Try.func51, Try.ntmps51
  go_wp2_with (first
    | ((with_reducible refine wpList_load_mid_g (op := ⟨some 7, .load 25 (.tmp 1), _, _, _, _⟩) ?_ 25 (.tmp 1) rfl w.heap.size 0 ?_ AZ _ hrg Try.underlying25 rfl hiA ?_); kernel_rfl; exact rfl)
    | (go_at_call 12; refine (hG.out _).mono ?_; rintro _ w1 ⟨rfl, hb1⟩))
  go_ret
  exact ⟨rfl, up hb.out hb1⟩
def sHead : List UInt8 := [69, 0, 0, 29, 0, 0, 0, 0, 9, 17, 0, 0, 0, 0, 0, 0, 0, 0, 0, 0]
theorem sHead_sum : sumOf sHead = 45521 := by kernel_rfl
theorem sHead_set : cellsB (pkBytes flSome 0 9 [7]) = ((cellsB sHead).set 10 (.int .u8 177)).set 11 (.int .u8 209) ++ cellsB (bdSeg flSome 0 9 [7]) := by kernel_rfl
theorem sHead_two : ((cellsB sHead).set 10 (.int .u8 177)).set 11 (.int .u8 209) = cellsB ((sHead.set 10 177).set 11 209) := by kernel_rfl
set_option maxRecDepth 100000 in
set_option maxHeartbeats 1000000 in
theorem rifWrite_some {A : Option Addr} {c : Nat} {w : World} (hr : Rd w w.heap.size (.slice A 9 c) (cellsB (bdSeg flSome 0 9 [7]))) :
    Calls Try.prog 40 #[.agg (hdC (bdHd flSome 9)).toArray, .slice A 9 c] w fun e w' => ∃ A' c', e = .returned (.tuple #[.slice A' 29 c', .int .i64 0]) ∧ Rd w' w'.heap.size (.slice A' 29 c') (cellsB (pkBytes flSome 0 9 [7])) ∧ Below w.heap.size w w' := by
  have hw : (bdHd flSome 9).Wide := ⟨rfl, rfl⟩
  obtain ⟨X, hX⟩ : ∃ X, X = w.alloc (.cells (hdC (bdHd flSome 9)).toArray 33) := ⟨_, rfl⟩
  have hs : X.heap.size = w.heap.size + 1 := by rw [hX]; simp
  have hb0 : Below w.heap.size w X := by rw [hX]; exact up_alloc (Below.refl _ _) _
  have h2 : X.heap[w.heap.size]? = some (.cells (hdC (bdHd flSome 9)).toArray 33 (0, 0)) := by rw [hX]; exact heap_alloc_last w _
  have hF : Hid (∀ W, Below X.heap.size X W → (W.cell? ⟨w.heap.size, 0, none⟩ = some (.bool false) ∧ W.cell? ⟨w.heap.size, 1, none⟩ = some (.int .u8 17) ∧ W.cell? ⟨w.heap.size, 37, none⟩ = some (.bool false) ∧ W.cell? ⟨w.heap.size, 38, none⟩ = some (.int .u8 9)) ∧ (W.rangeAt w.heap.size 3 (adC Ad.zero) ∧ W.rangeAt w.heap.size 20 (adC Ad.zero))) := Lib.hid fun W hW => by
    have k := (hW.block _ (by omega)).trans h2
    refine ⟨⟨?_, ?_, ?_, ?_⟩, ?_, ?_⟩
    · rw [cell_of_row W _ 0 _ _ _ k]; rfl
    · rw [cell_of_row W _ 1 _ _ _ k]; rfl
    · rw [cell_of_row W _ 37 _ _ _ k]; rfl
    · rw [cell_of_row W _ 38 _ _ _ k]; rfl
    · exact hdC_src (a := bdHd flSome 9) k
    · exact hdC_dst (a := bdHd flSome 9) hw k
  have hup : Hid (∀ W, Below X.heap.size X W → Below w.heap.size w W ∧ Rd W W.heap.size (.slice A 9 c) (cellsB (bdSeg flSome 0 9 [7]))) := Lib.hid fun W hW => ⟨up hb0 hW, (hr.below (up hb0 hW)).more (up hb0 hW).size⟩
  have hFour : Hid (∀ W, Calls Try.prog 51 #[.agg (adC Ad.zero).toArray] W fun e w' => e = .returned (.bool true) ∧ Below W.heap.size W w') := Lib.hid rifFour_zero
  have hBy : Hid (∀ W, Calls Try.prog 14 #[.agg (adC Ad.zero).toArray] W fun e w' => ∃ A c, e = .returned (.slice A 4 c) ∧ Rd w' w'.heap.size (.slice A 4 c) (cellsB [0, 0, 0, 0]) ∧ Below W.heap.size W w') := Lib.hid fun W => by
    refine (rfBytes_any Ad.zero W rfl).mono ?_
    rintro e w' ⟨v, rfl, hv, hb⟩
    obtain ⟨A, c, rfl, hr⟩ := mine_slice (w := W) (l := [0, 0, 0, 0]) hv (n := 4) rfl
    exact ⟨A, c, rfl, hr, hb⟩
  have hiA : (Try.prog.info? 25).map (·.size) = some (adC Ad.zero).length := info_ad rfl
  have hlen : (bdSeg flSome 0 9 [7]).length = 9 := by kernel_rfl
  have hPut : Hid (∀ W, Below X.heap.size X W → Calls Try.prog 32 #[.slice (some ⟨W.heap.size, 0, none⟩) 2 2, .int .u64 29, .int .i64 2] (W.alloc (.cells #[.int .u8 69, .int .u8 0] 5)) fun e w' => ∃ v, e = .returned v ∧ Below X.heap.size X w' ∧ ∃ v2 w2, (Builtin.append_ #[22, 22] 22 #[v, .slice (some ⟨w'.heap.size, 0, none⟩) 8 8]).run Try.prog (w'.alloc (.cells #[.int .u8 0, .int .u8 0, .int .u8 0, .int .u8 0, .int .u8 9, .int .u8 17, .int .u8 0, .int .u8 0] 5)) = .ok v2 w2 ∧ Mine w2 X.heap.size 5 v2 (cellsB [69, 0, 0, 29, 0, 0, 0, 0, 9, 17, 0, 0]) ∧ Below X.heap.size X w2) := Lib.hid fun W hW => by
    have hl0 := rd_lit W 5 [69, 0] (by simp)
    have hsz : (W.alloc (.cells #[.int .u8 69, .int .u8 0] 5)).heap.size = W.heap.size + 1 := by simp
    have hb1 := up_alloc hW (.cells #[.int .u8 69, .int .u8 0] 5)
    refine (put_as (W := W.alloc (.cells #[.int .u8 69, .int .u8 0] 5)) (l := [69, 0]) (n := 29) (r := [69, 0, 0, 29]) (by rw [hsz]; exact hl0) rfl rfl (by omega) (by simp) rfl).mono ?_
    rintro e w' ⟨v, rfl, hv, hb⟩
    have hW' := up hb1 hb
    have hl1 := rd_lit w' 5 [0, 0, 0, 0, 9, 17, 0, 0] (by simp)
    have hlb := up_alloc hW' (.cells #[.int .u8 0, .int .u8 0, .int .u8 0, .int .u8 0, .int .u8 9, .int .u8 17, .int .u8 0, .int .u8 0] 5)
    obtain ⟨v2, w2, r2, m2, b2⟩ := mine_more ((hv.weaken (by rw [hsz]; have := hW.size; omega)).alloc (.cells #[.int .u8 0, .int .u8 0, .int .u8 0, .int .u8 0, .int .u8 9, .int .u8 17, .int .u8 0, .int .u8 0] 5)) hlb.size (m := [0, 0, 0, 0, 9, 17, 0, 0]) (by rw [show (w'.alloc (.cells #[.int .u8 0, .int .u8 0, .int .u8 0, .int .u8 0, .int .u8 9, .int .u8 17, .int .u8 0, .int .u8 0] 5)).heap.size = w'.heap.size + 1 by simp]; exact hl1) (by simp)
    exact ⟨v, rfl, hW', v2, w2, r2, m2, hlb.trans b2⟩
  have hAp1 : Hid (∀ W v A c, Below X.heap.size X W → Mine W X.heap.size 5 v (cellsB [69, 0, 0, 29, 0, 0, 0, 0, 9, 17, 0, 0]) → Rd W W.heap.size (.slice A 4 c) (cellsB [0, 0, 0, 0]) → ∃ v2 w2, (Builtin.append_ #[22, 22] 22 #[v, .slice A 4 c]).run Try.prog W = .ok v2 w2 ∧ Mine w2 X.heap.size 5 v2 (cellsB [69, 0, 0, 29, 0, 0, 0, 0, 9, 17, 0, 0, 0, 0, 0, 0]) ∧ Below X.heap.size X w2) := Lib.hid fun W v A c hW hv h4 => by
    obtain ⟨v2, w2, r2, m2, b2⟩ := mine_more hv hW.size h4 (by simp)
    exact ⟨v2, w2, r2, m2, hW.trans b2⟩
  have hAp2 : Hid (∀ W v A c, Below X.heap.size X W → Mine W X.heap.size 5 v (cellsB [69, 0, 0, 29, 0, 0, 0, 0, 9, 17, 0, 0, 0, 0, 0, 0]) → Rd W W.heap.size (.slice A 4 c) (cellsB [0, 0, 0, 0]) → ∃ g cc w2, (Builtin.append_ #[22, 22] 22 #[v, .slice A 4 c]).run Try.prog W = .ok (.slice (some ⟨g, 0, none⟩) 20 cc) w2 ∧ X.heap.size ≤ g ∧ Mine w2 X.heap.size 5 (.slice (some ⟨g, 0, none⟩) 20 cc) (cellsB sHead) ∧ Below X.heap.size X w2) := Lib.hid fun W v A c hW hv h4 => by
    obtain ⟨v2, w2, r2, m2, b2⟩ := mine_more hv hW.size h4 (by simp)
    obtain ⟨g, cc, rfl, hg, _⟩ := mine_block m2 (by simp)
    exact ⟨g, cc, w2, r2, hg, m2, hW.trans b2⟩
  have hSum : Hid (∀ W g cc, Mine W X.heap.size 5 (.slice (some ⟨g, 0, none⟩) 20 cc) (cellsB sHead) → Calls Try.prog 16 #[.slice (some ⟨g, 0, none⟩) 20 cc] W fun e w' => e = .returned (.int .u16 45521) ∧ W = w') := Lib.hid fun W g cc h => by
    have := rinSum_any (l := sHead) (n := 20) rfl (by omega) h.rd
    rw [sHead_sum] at this
    exact this
  have hLook : Hid (∀ W g cc, Mine W X.heap.size 5 (.slice (some ⟨g, 0, none⟩) 20 cc) (cellsB sHead) → W.cell? ⟨g, 10, none⟩ = some (.int .u8 0) ∧ W.cell? ⟨g, 11, none⟩ = some (.int .u8 0) ∧ W.frozen? ⟨g, 10, none⟩ = false ∧ W.frozen? ⟨g, 11, none⟩ = false) := Lib.hid fun W g cc h => ⟨h.cellAt rfl, h.cellAt rfl, h.free 10, h.free 11⟩
  have hEnd : Hid (∀ W g cc, Below X.heap.size X W → X.heap.size ≤ g → Mine W X.heap.size 5 (.slice (some ⟨g, 0, none⟩) 20 cc) (cellsB sHead) → ∃ A' c' w2, (Builtin.append_ #[22, 22] 22 #[.slice (some ⟨g, 0, none⟩) 20 cc, .slice A 9 c]).run Try.prog ((W.setCell ⟨g, 10, none⟩ (.int .u8 177)).setCell ⟨g, 11, none⟩ (.int .u8 209)) = .ok (.slice A' 29 c') w2 ∧ Rd w2 w2.heap.size (.slice A' 29 c') (cellsB (pkBytes flSome 0 9 [7])) ∧ Below w.heap.size w w2) := Lib.hid fun W g cc hW hg hM => by
    have hm := (hM.stored 10 (.int .u8 177)).stored 11 (.int .u8 209)
    have hb := (hW.setCell (p := ⟨g, 10, none⟩) (by show X.heap.size ≤ g; omega) (.int .u8 177)).setCell (p := ⟨g, 11, none⟩) (by show X.heap.size ≤ g; omega) (.int .u8 209)
    rw [sHead_two] at hm
    obtain ⟨v2, w2, r2, m2, b2⟩ := mine_more hm hb.size (hup.out _ hb).2 (by rw [hlen]; simp [sHead])
    obtain ⟨A', c', rfl, hr2⟩ := mine_slice (w := W) m2 (n := 29) (by rw [List.length_append, hlen]; rfl)
    refine ⟨A', c', w2, r2, ?_, up hb0 (hb.trans b2)⟩
    rw [sHead_set, sHead_two, ← cellsB_append]
    exact hr2
  obtain ⟨⟨c0, c1, c37, c38⟩, r3, r20⟩ := hF.out X (Below.refl _ _)
  have HB := Lib.hid (Below.refl X.heap.size X)
  have u29 : IntKind.u64.wrap 29 = 29 := IntWalk.u64_in _ (by omega)
  have i29 : IntKind.i64.wrap 29 = 29 := IntWalk.i64_in _ (by omega)
  have n1 : IntKind.u16.wrap 177 = 177 := IntWalk.u16_in _ (by omega)
  clear hr hs hb0 h2 hw hlen
  generalize hCH : (hdC (bdHd flSome 9)) = CH at *
  generalize hAZ : adC Ad.zero = AZ at *
  generalize bdSeg flSome 0 9 [7] = SEG at *
  generalize pkBytes flSome 0 9 [7] = PB at *
  clear hCH hAZ
  subst hX
  go_enter Try.func40, Try.ntmps40
  go_wp2_with (first
    | ((with_reducible refine wpList_load_mid_g (op := ⟨some 12, .load 25 (.tmp 11), _, _, _, _⟩) ?_ 25 (.tmp 11) rfl w.heap.size 3 ?_ AZ _ r3 Try.underlying25 rfl hiA ?_); kernel_rfl; exact rfl)
    | ((with_reducible refine wpList_load_mid_g (op := ⟨some 18, .load 25 (.tmp 17), _, _, _, _⟩) ?_ 25 (.tmp 17) rfl w.heap.size 20 ?_ AZ _ r20 Try.underlying25 rfl hiA ?_); kernel_rfl; exact rfl)
    | (go_at_call 51; refine (hFour.out _).mono ?_; rintro _ w1 ⟨rfl, hb1⟩; replace HB := Lib.hid (up HB.out hb1); clear c0 c1 c37 c38 r3 r20 hb1; obtain ⟨⟨c0, c1, c37, c38⟩, r3, r20⟩ := hF.out _ HB.out)
    | (go_at_call 32; refine (hPut.out _ HB.out).mono ?_; rintro _ w2 ⟨v2, rfl, hb2, v3, w3, hrun3, hm3, hb3⟩; clear c0 c1 c37 c38 r3 r20; obtain ⟨⟨c0, c1, c37, c38⟩, r3, r20⟩ := hF.out _ hb2; have HM := Lib.hid hm3; have HD := Lib.hid hb3; clear hm3 hb2 hb3)
    | ((with_reducible refine wpList_run (o := ⟨some 48, .call { callee := .builtin .append, args := #[.tmp 42, .tmp 47], argTypes := #[22, 22] }, 22, _, _, _⟩) rfl v3 w3 (exec_append rfl (u := v2) rfl (v := .slice (some ⟨w2.heap.size, 0, none⟩) 8 8) rfl hrun3) ?_)))
  clear hFour c0 c1 c37 c38 r3 r20 hPut
  have hS : Hid (∀ W, Below (w.alloc (.cells CH.toArray 33)).heap.size (w.alloc (.cells CH.toArray 33)) W → W.rangeAt w.heap.size 3 AZ ∧ W.rangeAt w.heap.size 20 AZ) := Lib.hid fun W hW => (hF.out W hW).2
  replace HD := Lib.hid HD.out.drew
  replace HM := Lib.hid HM.out.drew
  refine wp_region_held_drew (S := fun w' => w'.rangeAt w.heap.size 3 AZ ∧ w'.rangeAt w.heap.size 20 AZ) (by kernel_rfl) (hS.out _ HD.out) (fun hHeld => ?_)
  refine th 0 ?_
  go_frame
  refine th 1 ?_
  go_frame
  refine th 2 (v := .agg AZ.toArray) ?_ (hy := fun wy hSw => by exact exec_load (t := 25) (x := .tmp 50) rfl (pv := .pointer (some ⟨w.heap.size, 3, none⟩)) rfl (run_loadAt_mid wy w.heap.size 3 25 AZ _ hSw.1 Try.underlying25 rfl hiA))
  go_frame
  refine th 5 ?_
  go_frame
  refine th 6 (v := .agg AZ.toArray) ?_ (hy := fun wy hSw => by exact exec_load (t := 25) (x := .tmp 54) rfl (pv := .pointer (some ⟨w.heap.size, 20, none⟩)) rfl (run_loadAt_mid wy w.heap.size 20 25 AZ _ hSw.2 Try.underlying25 rfl hiA))
  go_frame
  refine wpAnyH_ready (rs := [3]) (by kernel_rfl) (by simp) (AllReadyH.cons (o := ⟨some 52, .call { callee := .value (.func 14), args := #[.tmp 51], argTypes := #[25] }, _, _, _, none⟩) rfl (fun K hK => ?_) AllReadyH.nil)
  rw [if_pos (by kernel_rfl)]
  go_simp
  refine (hBy.out _).mono ?_
  rintro _ w4 ⟨A4, c4, rfl, hr4, hb4⟩
  obtain ⟨v5, w5, hrun5, hm5, hb5⟩ := hAp1.out _ _ _ _ (up HD.out hb4) (HM.out.kept hb4) hr4
  replace HD := Lib.hid (up HD.out hb4)
  have HM5 := Lib.hid hm5
  have HD5 := Lib.hid hb5
  clear hr4 hb4 hm5 hb5 HM
  dsimp only
  refine hK.out _ _ (hS.out _ HD.out) (fun _ => ?_)
  clear hK K
  try go_frame
  refine wpAnyH_ready (rs := [4]) (by kernel_rfl) (by simp) (AllReadyH.cons (o := ⟨some 53, .call { callee := .builtin .append, args := #[.tmp 49, .tmp 52], argTypes := #[22, 22] }, 22, _, _, none⟩) rfl (fun K hK => ?_) AllReadyH.nil)
  rw [if_pos (by kernel_rfl)]
  refine wp_run v5 w5 (exec_append rfl (u := v3) rfl (v := .slice A4 4 c4) rfl hrun5) ?_
  refine hK.out _ _ (hS.out _ HD5.out) (fun _ => ?_)
  clear hK K hrun5
  try go_frame
  refine wpAnyH_ready (rs := [7]) (by kernel_rfl) (by simp) (AllReadyH.cons (o := ⟨some 56, .call { callee := .value (.func 14), args := #[.tmp 55], argTypes := #[25] }, _, _, _, none⟩) rfl (fun K hK => ?_) AllReadyH.nil)
  rw [if_pos (by kernel_rfl)]
  go_simp
  refine (hBy.out _).mono ?_
  rintro _ w6 ⟨A6, c6, rfl, hr6, hb6⟩
  obtain ⟨g, cc, w7, hrun7, hg7, hm7, hb7⟩ := hAp2.out _ _ _ _ (up HD5.out hb6) (HM5.out.kept hb6) hr6
  replace HD5 := Lib.hid (up HD5.out hb6)
  obtain ⟨d6, d7, f6, f7⟩ := hLook.out _ _ _ hm7
  obtain ⟨A9, c9, w9, hrun9, hr9, hb9⟩ := hEnd.out _ _ _ hb7 hg7 hm7
  have HT := Lib.hid (And.intro hr9 hb9)
  have HM7 := Lib.hid hm7
  have HD7 := Lib.hid hb7
  clear hr6 hb6 hm7 hb7 hg7 hr9 hb9 HM5
  dsimp only
  refine hK.out _ _ (hS.out _ HD5.out) (fun _ => ?_)
  clear hK K
  try go_frame
  refine wpAnyH_ready (rs := [8]) (by kernel_rfl) (by simp) (AllReadyH.cons (o := ⟨some 57, .call { callee := .builtin .append, args := #[.tmp 53, .tmp 56], argTypes := #[22, 22] }, 22, _, _, none⟩) rfl (fun K hK => ?_) AllReadyH.nil)
  rw [if_pos (by kernel_rfl)]
  refine wp_run (.slice (some ⟨g, 0, none⟩) 20 cc) w7 (exec_append rfl (u := v5) rfl (v := .slice A6 4 c6) rfl hrun7) ?_
  refine hK.out _ _ (hS.out _ HD7.out) (fun _ => ?_)
  clear hK K hrun7
  try go_frame
  refine th 9 ?_
  go_frame
  refine wpAnyH_done (by kernel_rfl) ?_ _
  go_wp2_with (first
    | (go_at_call 16; refine (hSum.out _ _ _ HM7.out).mono ?_; rintro _ w8 ⟨rfl, rfl⟩)
    | ((with_reducible refine wpList_run (o := ⟨some 72, .call { callee := .builtin .append, args := #[.tmp 70, .tmp 71], argTypes := #[22, 22] }, 22, _, _, _⟩) rfl (.slice A9 29 c9) w9 (exec_append rfl (u := .slice (some ⟨g, 0, none⟩) 20 cc) rfl (v := .slice A 9 c) rfl hrun9) ?_)))
  go_ret2
  exact ⟨_, _, rfl, HT.out.1, HT.out.2⟩
set_option maxRecDepth 100000 in
set_option maxHeartbeats 1000000 in
theorem rpkBuild_some {A : Option Addr} {c : Nat} {w : World} (hr : Rd w w.heap.size (.slice A 1 c) (cellsB [7])) :
    Calls Try.prog 21 #[.agg (flC flSome).toArray, .int .u8 0, .int .u8 9, .slice A 1 c] w fun e w' => ∃ A' c', e = .returned (.tuple #[.slice A' 29 c', .int .i64 0]) ∧ Rd w' w'.heap.size (.slice A' 29 c') (cellsB (pkBytes flSome 0 9 [7])) ∧ Below w.heap.size w w' := by
  have hw : (bdHd flSome 9).Wide := ⟨rfl, rfl⟩
  obtain ⟨X, hX⟩ : ∃ X, X = w.alloc (.cells (flC flSome).toArray 37) := ⟨_, rfl⟩
  have hs : X.heap.size = w.heap.size + 1 := by rw [hX]; simp
  have hb0 : Below w.heap.size w X := by rw [hX]; exact up_alloc (Below.refl _ _) _
  have h4 : X.heap[w.heap.size]? = some (.cells (flC flSome).toArray 37 (0, 0)) := by rw [hX]; exact heap_alloc_last w _
  obtain ⟨X2, hX2⟩ : ∃ X2, X2 = X.alloc (.cells (hdC Hd.zero).toArray 33) := ⟨_, rfl⟩
  have hs2 : X2.heap.size = w.heap.size + 1 + 1 := by rw [hX2]; simp [hs]
  obtain ⟨X3, hst, hat, hgr, hsz, hsc⟩ := store_hd (w := X2) (g := w.heap.size + 1) (a := Hd.zero) (b := bdHd flSome 9) (by rw [hX2, ← hs]; exact heap_alloc_last X _) Hd.zero_wide hw
  have hb3 : Below w.heap.size w X3 := grown_below (by rw [hX2]; exact up_alloc hb0 _) hgr (by omega)
  have h43 : X3.heap[w.heap.size]? = some (.cells (flC flSome).toArray 37 (0, 0)) := by
    refine (hgr.block _ (by omega) (fun e => by have := Option.some.inj e; omega)).trans ?_
    rw [hX2]
    exact (heap_alloc_old _ _ (by omega)).trans h4
  have hcf : ∀ W : World, W.heap[w.heap.size]? = some (.cells (flC flSome).toArray 37 (0, 0)) → (W.cell? ⟨w.heap.size, 0, none⟩ = some (.bool false) ∧ W.cell? ⟨w.heap.size, 36, none⟩ = some (.int .u8 17) ∧ W.cell? ⟨w.heap.size, 34, none⟩ = some (.int .u16 5) ∧ W.cell? ⟨w.heap.size, 35, none⟩ = some (.int .u16 6)) ∧ W.rangeAt w.heap.size 0 (adC Ad.zero) ∧ W.rangeAt w.heap.size 17 (adC Ad.zero) := fun W k => by
    refine ⟨⟨?_, ?_, ?_, ?_⟩, ?_, ?_⟩
    · rw [cell_of_row W _ 0 _ _ _ k]; rfl
    · rw [cell_of_row W _ 36 _ _ _ k]; rfl
    · rw [cell_of_row W _ 34 _ _ _ k]; rfl
    · rw [cell_of_row W _ 35 _ _ _ k]; rfl
    · exact rangeAt_block k fun j u hu => by
        have hj := (List.getElem?_eq_some_iff.1 hu).1
        rw [flC, List.getElem?_append_left (by rw [Nat.zero_add]; exact hj), Nat.zero_add]
        exact hu
    · exact rangeAt_block k fun j u hu => by
        have hj := (List.getElem?_eq_some_iff.1 hu).1
        have hl : (adC flSome.src).length = 17 := rfl
        rw [flC, List.getElem?_append_right (by omega), hl, Nat.add_sub_cancel_left, List.getElem?_append_left (by exact hj)]
        exact hu
  obtain ⟨⟨c0, c36, _, _⟩, r0, r17⟩ := hcf X h4
  obtain ⟨⟨_, _, c34, c35⟩, _, _⟩ := hcf X3 h43
  have hrg : X3.rangeAt (w.heap.size + 1) 0 (hdC (bdHd flSome 9)) := row_range hat
  have hiA : (Try.prog.info? 25).map (·.size) = some (adC Ad.zero).length := info_ad rfl
  have hiH := info_hd hw
  have hzh : ∀ w, (zeroValue 33).run Try.prog w = .ok (.agg (hdC Hd.zero).toArray) w := zero_hd
  have hbH : ∀ W, (Instr.build 33 #[(0, .bool false), (1, .int .u8 17), (3, .agg (adC Ad.zero).toArray), (4, .agg (adC Ad.zero).toArray), (6, .int .u8 9)]).run Try.prog W = .ok (.agg (hdC (bdHd flSome 9)).toArray) W := fun W => by kernel_rfl
  have hbS : ∀ W, (Instr.build 35 #[(0, .int .u16 5), (1, .int .u16 6), (2, .int .u8 0)]).run Try.prog W = .ok (.agg (sgC (bdSg flSome 0)).toArray) W := fun W => by kernel_rfl
  have hSeg := Lib.hid (rsWrite_some ((hr.below hb3).more hb3.size))
  have hLk : Hid (∀ W, Below X3.heap.size X3 W → W.rangeAt (w.heap.size + 1) 0 (hdC (bdHd flSome 9)) ∧ W.cell? ⟨w.heap.size + 1, 0, none⟩ = some (.bool false)) := Lib.hid fun W hW => by
    have h1 := hat.below hW (by omega)
    exact ⟨row_range h1, by rw [hdC_six h1]; rfl⟩
  have hIf : Hid (∀ W A c, Below X3.heap.size X3 W → Rd W W.heap.size (.slice A 9 c) (cellsB (bdSeg flSome 0 9 [7])) → Calls Try.prog 40 #[.agg (hdC (bdHd flSome 9)).toArray, .slice A 9 c] W fun e w' => ∃ A' c', e = .returned (.tuple #[.slice A' 29 c', .int .i64 0]) ∧ Rd w' w'.heap.size (.slice A' 29 c') (cellsB (pkBytes flSome 0 9 [7])) ∧ Below w.heap.size w w') := Lib.hid fun W A c hW h => by
    refine (rifWrite_some h).mono ?_
    rintro e w' ⟨A', c', e1, e2, e3⟩
    exact ⟨A', c', e1, e2, up (up hb3 hW) e3⟩
  have hCl := hdC_length hw
  clear hr hs hb0 h4 hs2 hat hgr hsz hb3 h43 hcf hw
  generalize hCH : hdC (bdHd flSome 9) = CH at *
  generalize hCS : sgC (bdSg flSome 0) = CS at *
  generalize hAZ : adC Ad.zero = AZ at *
  generalize bdSeg flSome 0 9 [7] = SEG at *
  generalize pkBytes flSome 0 9 [7] = PB at *
  generalize hdC Hd.zero = ZH at *
  generalize hFS : (flC flSome).toArray = FS at *
  clear hCH hCS hAZ hFS
  subst hX2 hX
  go_enter Try.func21, Try.ntmps21
  go_wp2_with (first
    | ((with_reducible refine wpList_load_mid (op := ⟨some 19, .load 25 (.tmp 18), _, _, _, _⟩) rfl 25 (.tmp 18) rfl w.heap.size 0 ?_ AZ _ r0 Try.underlying25 rfl hiA ?_); exact rfl)
    | ((with_reducible refine wpList_load_mid (op := ⟨some 21, .load 25 (.tmp 20), _, _, _, _⟩) rfl 25 (.tmp 20) rfl w.heap.size 17 ?_ AZ _ r17 Try.underlying25 rfl hiA ?_); exact rfl)
    | ((with_reducible refine wpList_run (o := ⟨some 23, .build 33 #[(0, .tmp 15), (1, .tmp 17), (3, .tmp 19), (4, .tmp 21), (6, .tmp 22)], _, _, _, _⟩) rfl (.agg CH.toArray) (w.alloc (.cells FS 37)) ?_ ?_); exact exec_bld5 (k1 := 0) (k2 := 1) (k3 := 3) (k4 := 4) (k5 := 6) rfl (u1 := .bool false) rfl (u2 := .int .u8 17) rfl (u3 := .agg AZ.toArray) rfl (u4 := .agg AZ.toArray) rfl (u5 := .int .u8 9) rfl (hbH _))
    | (with_reducible refine wpList_alloc_zero (o := ⟨some 10, .alloc 33, _, _, _, _⟩) rfl 33 rfl ZH.toArray hzh ?_)
    | ((with_reducible refine wpList_stored (o := ⟨none, .store 33 (.tmp 10) (.tmp 23), _, _, _, none⟩) rfl 33 (.tmp 10) (.tmp 23) rfl (.pointer (some ⟨w.heap.size + 1, 0, none⟩)) (.agg CH.toArray) ?_ ?_ X3 hst ?_); exact rfl; exact rfl)
    | ((with_reducible refine wpList_load_mid (op := ⟨some 25, .load 33 (.tmp 10), _, _, _, _⟩) rfl 33 (.tmp 10) rfl (w.heap.size + 1) 0 ?_ CH _ hrg Try.underlying33 rfl hiH ?_); exact rfl)
    | ((with_reducible refine wpList_run (o := ⟨some 31, .build 35 #[(0, .tmp 27), (1, .tmp 29), (2, .tmp 30)], _, _, _, _⟩) rfl (.agg CS.toArray) X3 ?_ ?_); exact exec_bld3 (k1 := 0) (k2 := 1) (k3 := 2) rfl (u1 := .int .u16 5) rfl (u2 := .int .u16 6) rfl (u3 := .int .u8 0) rfl (hbS _))
    | (go_at_call 38; refine hSeg.out.mono ?_; rintro _ w5 ⟨A5, c5, rfl, hr5, hb5⟩; obtain ⟨hrg5, c05⟩ := hLk.out _ hb5; have HI := Lib.hid (hIf.out _ _ _ hb5 hr5); clear hr5 hb5)
    | ((with_reducible refine wpList_load_mid (op := ⟨some 47, .load 33 (.tmp 10), _, _, _, _⟩) rfl 33 (.tmp 10) rfl (w.heap.size + 1) 0 ?_ CH _ hrg5 Try.underlying33 rfl hiH ?_); exact rfl)
    | (go_at_call 40; refine HI.out.mono ?_; rintro _ w6 ⟨A6, c6, rfl, hr6, hb6⟩; have HT := Lib.hid (And.intro hr6 hb6); clear hr6 hb6))
  go_ret2
  exact ⟨_, _, rfl, HT.out.1, HT.out.2⟩
theorem exec_bldL {ρ : Operand → Value} {o : Oper} {t : TypeId} {k : Nat} {a : Operand} (ho : o.op = .build t #[(k, a)]) {u : Value} (ha : ρ a = u) {v : Value} {P : Program} {w : World} (hrun : (Instr.build t #[(k, u)]).run P w = .ok v w) : (execOp ρ o).run P w = .ok (.value v) w := by
  unfold execOp
  simp only [ho, List.map_toArray, List.map_cons, List.map_nil, ha, Sem.run_bind, hrun, Result.andThen_ok, Sem.run_pure]
def toL : Ad := ⟨false, [0, 0, 0, 0, 0, 0, 0, 0, 0, 0, 0, 0, 10, 0, 0, 0]⟩
theorem some_may : PkMay flSome 0 9 [7] := ⟨flSome_wide, .inr rfl, by decide, by decide, by decide⟩
set_option maxRecDepth 100000 in
set_option maxHeartbeats 1000000 in
theorem ntLives_any (w : World) : Calls Try.prog 9 #[] w fun e w' => e = .returned (.bool true) ∧ Below w.heap.size w w' := by
  have hzp : ∀ w, (zeroValue 39).run Try.prog w = .ok (.agg (pkC Pk.none).toArray) w := zero_pk
  obtain ⟨hE, hR⟩ := pkBack some_may
  have hlen : (pkBytes flSome 0 9 [7]).length = 29 := by
    rw [pkBytes_length some_may, some_may.seg_length]
    rfl
  have htw : toL.Wide := rfl
  have hErr : ntErr (pkBytes flSome 0 9 [7]) toL 80 = 0 := ntErr_ok hE ⟨rfl, by rw [hR]; rfl, by omega⟩
  obtain ⟨hE2, hR2, _, _⟩ := ntRes_ok (.inr rfl) htw (by omega) hErr
  rw [hR] at hR2
  have hpw : (ntPk (bdPk flSome 0 9 [7]) 1 toL 80).Wide := ⟨⟨rfl, rfl⟩, rfl, rfl, by decide, by decide⟩
  have hsm : Hid (∀ W, Calls Try.prog 22 #[] W fun e w' => e = .returned (.agg (flC flSome).toArray) ∧ Below W.heap.size W w') := Lib.hid pkSome_any
  have hbd : Hid (∀ W, Calls Try.prog 21 #[.agg (flC flSome).toArray, .int .u8 0, .int .u8 9, .slice (some ⟨W.heap.size, 0, none⟩) 1 1] (W.alloc (.cells #[.int .u8 7] 5)) fun e w' => ∃ A2 c2, e = .returned (.tuple #[.slice A2 29 c2, .int .i64 0]) ∧ Rd w' w'.heap.size (.slice A2 29 c2) (cellsB (pkBytes flSome 0 9 [7])) ∧ Below W.heap.size W w') := Lib.hid fun W => by
    have hs : (W.alloc (.cells #[.int .u8 7] 5)).heap.size = W.heap.size + 1 := by simp
    refine (rpkBuild_some (w := W.alloc (.cells #[.int .u8 7] 5)) (by rw [hs]; exact rd_lit W 5 [7] (by simp))).mono ?_
    rintro e w' ⟨A2, c2, rfl, hr, hb⟩
    exact ⟨A2, c2, rfl, hr, up (up_alloc (Below.refl W.heap.size W) _) hb⟩
  have hTo : Hid (∀ W A c, Rd W W.heap.size (.slice A 29 c) (cellsB (pkBytes flSome 0 9 [7])) → Calls Try.prog 5 #[.slice A 29 c, .agg (adC toL).toArray, .int .u16 80] W fun e w' => ∃ A' n' c', e = .returned (.tuple #[.slice A' n' c', .int .i64 0]) ∧ Rd w' w'.heap.size (.slice A' n' c') (cellsB (ntRes (pkBytes flSome 0 9 [7]) 1 toL 80)) ∧ Below W.heap.size W w') := Lib.hid fun W A c hr => by
    rw [← hlen] at hr ⊢
    have := ntTo_any hr (by omega) htw (port := 80) (by omega)
    rw [hErr] at this
    exact this
  have hps : Hid (∀ W A2 n2 c2, Rd W W.heap.size (.slice A2 n2 c2) (cellsB (ntRes (pkBytes flSome 0 9 [7]) 1 toL 80)) → Calls Try.prog 8 #[.slice A2 n2 c2] W fun e w' => e = .returned (.tuple #[.agg (pkC (ntPk (bdPk flSome 0 9 [7]) 1 toL 80)).toArray, .int .i64 0]) ∧ Below W.heap.size W w') := Lib.hid fun W A2 n2 c2 hr => by
    obtain ⟨A3, c3, e, _, _, hr3⟩ := hr.bytes
    rw [e]
    have := rpkParse_any hr3
    rw [hE2, hR2] at this
    exact this
  have hSt : Hid (∀ W : World, ∃ W', (Instr.storeAt 39 (.pointer (some ⟨W.heap.size, 0, none⟩)) (.agg (pkC (ntPk (bdPk flSome 0 9 [7]) 1 toL 80)).toArray)).run Try.prog (W.alloc (.cells (pkC Pk.none).toArray 39)) = .ok () W' ∧ (storeCells ⟨W.heap.size, 0, none⟩ (pkC (ntPk (bdPk flSome 0 9 [7]) 1 toL 80))).run Try.prog (W.alloc (.cells (pkC Pk.none).toArray 39)) = .ok () W' ∧ Below W.heap.size W W' ∧ W'.cell? ⟨W.heap.size, 80, none⟩ = some (.int .u16 80) ∧ W'.cell? ⟨W.heap.size, 75, none⟩ = some (.int .u8 10)) := Lib.hid fun W => by
    obtain ⟨W', hst, hat, hgr, hsz, hsc⟩ := store_pk (w := W.alloc (.cells (pkC Pk.none).toArray 39)) (g := W.heap.size) (a := Pk.none) (b := ntPk (bdPk flSome 0 9 [7]) 1 toL 80) (heap_alloc_last W _) Pk.none_wide hpw
    refine ⟨W', hst, hsc, grown_below (up_alloc (Below.refl _ _) _) hgr (Nat.le_refl _), ?_, ?_⟩
    · rw [cell_of_row W' _ 80 _ _ _ hat]; kernel_rfl
    · rw [cell_of_row W' _ 75 _ _ _ hat]; kernel_rfl
  have hPl := pkC_length hpw
  have hb23 : ∀ W, (Instr.build 23 #[(12, .int .u8 10)]).run Try.prog W = .ok (.agg (cellsB toL.b).toArray) W := fun W => by kernel_rfl
  have hb25 : ∀ W, (Instr.build 25 #[(1, .agg (cellsB toL.b).toArray)]).run Try.prog W = .ok (.agg (adC toL).toArray) W := fun W => by kernel_rfl
  clear hE hR hlen hpw hErr hE2 hR2 htw
  generalize ntRes (pkBytes flSome 0 9 [7]) 1 toL 80 = R at *
  generalize pkBytes flSome 0 9 [7] = bs at *
  generalize ntPk (bdPk flSome 0 9 [7]) 1 toL 80 = Y at *
  generalize flC flSome = FS at *
  generalize pkC Pk.none = ZP at *
  generalize hPC : pkC Y = PC at *
  generalize hTB : cellsB toL.b = TB at *
  generalize hTA : adC toL = TA at *
  clear hPC hTB hTA
  go_enter Try.func9, Try.ntmps9
  go_wp2_with (first
    | (go_at_call 22; refine (hsm.out _).mono ?_; rintro _ w0 ⟨rfl, hb0⟩; have HB0 := Lib.hid hb0; clear hb0)
    | (go_at_call 21; refine (hbd.out _).mono ?_; rintro _ w1 ⟨A2, c2, rfl, hr1, hb1⟩; have HB1 := Lib.hid (up HB0.out hb1); have HR1 := Lib.hid hr1; clear hb1 hr1)
    | ((with_reducible refine wpList_run (o := ⟨some 15, .build 23 #[(12, .const (.int .u8 10))], _, _, _, _⟩) rfl (.agg TB.toArray) w1 ?_ ?_); exact exec_bldL (k := 12) rfl (u := .int .u8 10) rfl (hb23 _))
    | ((with_reducible refine wpList_run (o := ⟨some 16, .build 25 #[(1, .tmp 15)], _, _, _, _⟩) rfl (.agg TA.toArray) w1 ?_ ?_); exact exec_bldL (k := 1) rfl (u := .agg TB.toArray) rfl (hb25 _))
    | (go_at_call 5; refine (hTo.out _ _ _ HR1.out).mono ?_; rintro _ w2 ⟨A3, n3, c3, rfl, hr2, hb2⟩; have HB2 := Lib.hid (up HB1.out hb2); have HR2 := Lib.hid hr2; clear hb2 hr2)
    | (go_at_call 8; refine (hps.out _ _ _ _ HR2.out).mono ?_; rintro _ w3 ⟨rfl, hb3⟩; obtain ⟨w4, hst, hsc, hb4, c80, c75⟩ := hSt.out w3; have HB3 := Lib.hid (up (up HB2.out hb3) hb4); clear hb3 hb4)
    | (with_reducible refine wpList_alloc_zero (o := ⟨some 5, .alloc 39, _, _, _, _⟩) rfl 39 rfl ZP.toArray hzp ?_)
    | ((with_reducible refine wpList_stored (o := ⟨none, .store 39 (.tmp 5) (.tmp 23), _, _, _, none⟩) rfl 39 (.tmp 5) (.tmp 23) rfl (.pointer (some ⟨w3.heap.size, 0, none⟩)) (.agg PC.toArray) ?_ ?_ w4 hst ?_); exact rfl; exact rfl))
  go_ret
  exact ⟨rfl, HB3.out⟩
end Go.Proofs.Ytejppekcniehpaa
