/-
  Split of package node: contract where there are halves, of a node that is no leaf.
-/
import Derived.Test.YtceefoopehoalaaNdSplitC
namespace Go.Proofs.Ytceefoopehoalaa
open Go.RowKit
set_option maxRecDepth 100000 in
set_option maxHeartbeats 4000000 in
theorem split_not {n : Nd} {K V D : Value} {w : World} (hn : NdIs w w.heap.size K V D n) (hsn : n.Snd) (hsh : n.Short 1000000) (hln : n.leaf = false) (most : Nat) (hm : most + 2 = n.keys.length) (hm1 : 1 ≤ most) :
    Calls Try.prog 23 #[ndVal false K V D] w fun e w' => SplitOut n false most w e w' := by
  have hs1 := fun (W : World) (hW : Below w.heap.size w W) => sound_any ((hn.below hW).more hW.size) (Nat.le_refl _) hsh
  have hs2 := fun (W : World) (hW : Below w.heap.size w W) => half_any ((hn.below hW).more hW.size) (Nat.le_refl _) hsn hsh.1 most hm1 (by omega)
  rw [sndB_iff.2 hsn, hln] at hs1
  rw [hln] at hs2
  have hsz := fun k => (hsn.keys k)
  obtain ⟨A1, c1, A2, c2, A3, c3, rfl, rfl, rfl⟩ := hn.form
  obtain ⟨a, ha⟩ : ∃ x, x = n.keys.length := ⟨_, rfl⟩
  obtain ⟨b, hb⟩ : ∃ x, x = n.vals.length := ⟨_, rfl⟩
  obtain ⟨d, hd⟩ : ∃ x, x = n.kids.length := ⟨_, rfl⟩
  have hab : d = a + 1 := by rw [ha, hd]; exact (hsn.ofNot hln).2.2
  have ha6 : a ≤ 1000000 := by rw [ha]; exact hsh.1
  rw [← ha, ← hb, ← hd] at hs1 hs2 hn
  rw [← ha] at hm hsz
  rw [← ha, ← hb, ← hd]
  obtain ⟨bk, ok, rfl, hbk⟩ := hn.keys.addr (by omega)
  obtain ⟨-, hac, hcx⟩ := hn.keys.len
  have hdc : b ≤ c2 ∧ d ≤ c3 := ⟨hn.vals.len.2.1, by have hkk := hn.kids; obtain ⟨_, _, e, g, _⟩ := hkk; injection e with _ e1 e2; rw [← e1, ← e2] at g; exact g⟩
  have hst := SpS.start (w0 := w) (lf := false) (K := .slice (some ⟨bk, ok, none⟩) a c1) (V := .slice A2 b c2) (D := .slice A3 d c3)
  obtain ⟨x0, x1, x2, x3⟩ := hst.box
  have hc1 := hs1 _ hst.below
  have HN := Lib.hid hn
  have HSt := Lib.hid hst
  have HS2 := Lib.hid hs2
  have HSn := Lib.hid hsn
  have HSh := Lib.hid hsh
  have HLn := Lib.hid hln
  have HSz := Lib.hid hsz
  have Ha := Lib.hid ha
  have HBk := Lib.hid hbk
  have HNum := Lib.hid (And.intro hm (And.intro hab (And.intro ha6 (And.intro hac (And.intro hcx (And.intro hm1 hdc))))))
  clear hm hab hac hcx hdc hm1
  clear hn hst hs1 hs2 hsn hsh hln ha hb hd hsz hbk
  go_enter Try.func23, Try.ntmps23
  go_wp2_with fail
  refine hc1.mono ?_
  rintro e w1 ⟨rfl, hb1⟩
  have HS1 := Lib.hid (HSt.out.kept hb1)
  clear x0 x1 x2 x3 hc1 hb1 HSt
  obtain ⟨x0, x1, x2, x3⟩ := HS1.out.box
  have hc2 := HS2.out _ HS1.out.below
  obtain ⟨hm, hab, -, hac, hcx, hm1, hdc⟩ := HNum.out
  have ew : IntKind.i64.wrap ((a : Int) - 2) = (most : Int) := by rw [show ((a : Int) - 2) = (most : Int) by omega]; exact IntWalk.i64_in _ (by omega)
  have e3 : 3 ≤ a := by omega
  clear HS2 hm hm1 hab hac hcx hdc
  go_wp2_with fail
  refine hc2.mono ?_
  rintro e w2 ⟨h, rfl, hH, hb2⟩
  have HS_2 := Lib.hid (HS1.out.kept hb2)
  have hh1 := hH.lo
  have hh2 := hH.hi
  have HH := Lib.hid hH
  obtain ⟨hm, hab, -, hac, hcx, hm1, hdc⟩ := HNum.out
  have hha : h < a := by omega
  clear x0 x1 x2 x3 hc2 hb2 HS1 hH ew
  obtain ⟨iT, hiT, hT0, hT1, hT2⟩ := info_parts info_row
  obtain ⟨iI, hiI, hI0, hI1, hI2⟩ := info_parts info_int
  have hw1 : IntKind.i64.wrap ((h : Int) + 1) = ((h + 1 : Nat) : Int) := by rw [IntWalk.i64_in _ (by omega)]; rfl
  have hk1 := cut_h (P := Try.prog) Try.underlying24 hiT hT1 (some ⟨bk, ok, none⟩) a c1 h (by omega) _ rfl
  have hk2 := cut_h (P := Try.prog) Try.underlying25 hiI hI1 A3 d c3 (h + 1) (by omega) _ hw1
  obtain ⟨B1, hB1, hk3⟩ := cut_l (P := Try.prog) Try.underlying24 hiT hT1 (some ⟨bk, ok, none⟩) a c1 (h + 1) (by omega) _ hw1
  obtain ⟨B2, hB2, hk4⟩ := cut_l (P := Try.prog) Try.underlying25 hiI hI1 A3 d c3 (h + 1) (by omega) _ hw1
  have HK1 := Lib.hid hk1
  have HK2 := Lib.hid hk2
  have HK3 := Lib.hid hk3
  have HK4 := Lib.hid hk4
  have HB1 := Lib.hid hB1
  have HB2 := Lib.hid hB2
  clear hm hm1 hab hac hcx hdc
  clear hk1 hk2 hk3 hk4 hiT hT0 hT1 hT2 hB1 hB2 hw1 hiI hI0 hI1 hI2
  go_wp2_with fail
  obtain ⟨wd, hwd⟩ : ∃ x, x = w2.drew := ⟨_, rfl⟩
  have HS_wd : Hid (SpS w wd false (.slice (some ⟨bk, ok, none⟩) a c1) (.slice A2 b c2) (.slice A3 d c3)) := Lib.hid (by rw [hwd]; exact HS_2.out.kept (Below.refl _ _).drew)
  have Zwd := Lib.hid (show wd.heap.size = w2.heap.size by rw [hwd]; rfl)
  have S0 : (fun w' => w'.cell? ⟨w.heap.size, 0, none⟩ = some (.bool false) ∧ w'.cell? ⟨w.heap.size, 1, none⟩ = some (.slice (some ⟨bk, ok, none⟩) a c1) ∧ w'.cell? ⟨w.heap.size, 2, none⟩ = some (.slice A2 b c2) ∧ w'.cell? ⟨w.heap.size, 3, none⟩ = some (.slice A3 d c3)) wd := ⟨HS_wd.out.box.c0, HS_wd.out.box.c1, HS_wd.out.box.c2, HS_wd.out.box.c3⟩
  refine wp_region_late (S := fun w' => w'.cell? ⟨w.heap.size, 0, none⟩ = some (.bool false) ∧ w'.cell? ⟨w.heap.size, 1, none⟩ = some (.slice (some ⟨bk, ok, none⟩) a c1) ∧ w'.cell? ⟨w.heap.size, 2, none⟩ = some (.slice A2 b c2) ∧ w'.cell? ⟨w.heap.size, 3, none⟩ = some (.slice A3 d c3)) [11] (by kernel_rfl) (by rw [← hwd]; exact S0) (fun hHeld => ?_)
  rw [← hwd]
  clear hwd
  refine' anyU_take0 (i := 0) (oi := ⟨some 74, .fieldAddr 27 (.tmp 1) 1, _, _, _, none⟩) (v := _) rfl (by kernel_rfl) (fun _ _ _ h => h) (Or.inl ⟨by rfl, ?hy26⟩) (by assumption) ?rest26
  case hy26 => (intro w hSw; go_simp <;> with_reducible rfl)
  case rest26 =>
  go_frame
  refine' anyU_take (i := 1) (oi := ⟨some 75, .load 24 (.tmp 74), _, _, _, none⟩) (v := _) rfl (by kernel_rfl) (fun _ _ _ h => h) (Or.inl ⟨by rfl, ?hy27⟩) (by assumption) ?rest27
  case hy27 => (intro w hSw; obtain ⟨s0, s1, s2, s3⟩ := hSw; go_simp <;> with_reducible rfl)
  case rest27 =>
  go_frame
  refine' anyU_take0 (i := 2) (oi := ⟨some 76, .move (.tmp 10), _, _, _, none⟩) (v := _) rfl (by kernel_rfl) (fun _ _ _ h => h) (Or.inl ⟨by rfl, ?hy28⟩) (by assumption) ?rest28
  case hy28 => (intro w hSw; go_simp <;> with_reducible rfl)
  case rest28 =>
  go_frame
  refine' anyU_take0 (i := 3) (oi := ⟨some 77, .slice 24 (.tmp 75) none (some (.tmp 76)) none, _, _, _, none⟩) (v := .slice (some ⟨bk, ok, none⟩) h c1) rfl (by kernel_rfl) (fun _ _ _ h => h) (Or.inl ⟨by rfl, ?hy29⟩) (by assumption) ?rest29
  case hy29 => (intro w hSw; exact exec_cut (x := .tmp 75) (lo := none) (hi := (some (.tmp 76))) rfl (v := .slice (some ⟨bk, ok, none⟩) a c1) rfl (l := none) rfl (h := some (.int .i64 (h : Int))) rfl (HK1.out _))
  case rest29 =>
  go_frame
  refine' anyU_take0 (i := 4) (oi := ⟨some 78, .fieldAddr 27 (.tmp 1) 3, _, _, _, none⟩) (v := _) rfl (by kernel_rfl) (fun _ _ _ h => h) (Or.inl ⟨by rfl, ?hy30⟩) (by assumption) ?rest30
  case hy30 => (intro w hSw; go_simp <;> with_reducible rfl)
  case rest30 =>
  go_frame
  refine' anyU_take (i := 5) (oi := ⟨some 79, .load 25 (.tmp 78), _, _, _, none⟩) (v := _) rfl (by kernel_rfl) (fun _ _ _ h => h) (Or.inl ⟨by rfl, ?hy31⟩) (by assumption) ?rest31
  case hy31 => (intro w hSw; obtain ⟨s0, s1, s2, s3⟩ := hSw; go_simp <;> with_reducible rfl)
  case rest31 =>
  go_frame
  refine' anyU_take0 (i := 6) (oi := ⟨some 80, .move (.tmp 10), _, _, _, none⟩) (v := _) rfl (by kernel_rfl) (fun _ _ _ h => h) (Or.inl ⟨by rfl, ?hy32⟩) (by assumption) ?rest32
  case hy32 => (intro w hSw; go_simp <;> with_reducible rfl)
  case rest32 =>
  go_frame
  refine' anyU_take0 (i := 7) (oi := ⟨some 81, .binOp .add 3 (.tmp 80) (.const (.int .i64 1)) 3, _, _, _, none⟩) (v := _) rfl (by kernel_rfl) (fun _ _ _ h => h) (Or.inl ⟨by rfl, ?hy33⟩) (by assumption) ?rest33
  case hy33 => (intro w hSw; go_simp <;> with_reducible rfl)
  case rest33 =>
  go_frame
  refine' anyU_take0 (i := 8) (oi := ⟨some 82, .slice 25 (.tmp 79) none (some (.tmp 81)) none, _, _, _, none⟩) (v := .slice A3 (h + 1) c3) rfl (by kernel_rfl) (fun _ _ _ h => h) (Or.inl ⟨by rfl, ?hy34⟩) (by assumption) ?rest34
  case hy34 => (intro w hSw; exact exec_cut (x := .tmp 79) (lo := none) (hi := (some (.tmp 81))) rfl (v := .slice A3 d c3) rfl (l := none) rfl (h := some (.int .i64 (IntKind.i64.wrap ((h : Int) + 1)))) rfl (HK2.out _))
  case rest34 =>
  go_frame
  refine' anyU_take0 (i := 9) (oi := ⟨some 83, .build 27 #[(1, .tmp 77), (3, .tmp 82)], _, _, _, none⟩) (v := _) rfl (by kernel_rfl) (fun _ _ _ h => h) (Or.inl ⟨by rfl, ?hy35⟩) (by assumption) ?rest35
  case hy35 => (intro w hSw; go_simp <;> with_reducible rfl)
  case rest35 =>
  go_frame
  refine anyU_ready (rs := [10]) (by kernel_rfl) (by simp) (AllU.cons (o := ⟨some 11, .alloc 27, _, _, _, none⟩) rfl (fun K hK => ?_) (fun h => absurd h (by decide)) AllU.nil)
  rw [if_pos (by rfl)]
  obtain ⟨we, hu⟩ : ∃ u, u = wd.alloc (.cells #[.bool false, .slice none 0 0, .slice none 0 0, .slice none 0 0] 27) := ⟨_, rfl⟩
  have hb : Below wd.heap.size wd we := by rw [hu]; exact (Below.refl wd.heap.size wd).alloc (Nat.le_refl _) (.cells #[.bool false, .slice none 0 0, .slice none 0 0, .slice none 0 0] 27)
  have hpp : we.heap[wd.heap.size]? = some (.cells #[.bool false, .slice none 0 0, .slice none 0 0, .slice none 0 0] 27 (0, 0)) := by rw [hu]; exact heap_alloc_last wd _
  have HS_we := Lib.hid (HS_wd.out.kept hb)
  have Pp := Lib.hid hpp
  have Sx := Lib.hid (And.intro HS_we.out.box.c0 (And.intro HS_we.out.box.c1 (And.intro HS_we.out.box.c2 HS_we.out.box.c3)))
  have NB := Lib.hid (show w.heap.size + 1 + 1 < wd.heap.size from HS_wd.out.lt)
  go_simp
  rw [← hu]
  refine hK.out _ _ (fun _ => Sx.out) ?_
  clear hK K hb hpp hu
  try go_frame
  obtain ⟨y0, y1, y2, y3, f0, f1, f2, f3⟩ := out_cells Pp.out
  refine anyU_ready (rs := [11]) (by kernel_rfl) (by simp) (AllU.cons (o := ⟨none, .store 27 (.tmp 11) (.tmp 83), _, _, _, none⟩) rfl (fun K hK => ?_) (fun _ => by kernel_rfl) AllU.nil)
  rw [if_pos (by rfl)]
  go_simp
  refine hK.out _ _ (fun h => absurd h (by decide)) ?_
  clear hK K
  try go_frame
  refine anyU_done (by kernel_rfl) ?_ _
  obtain ⟨w3, hW⟩ : ∃ X, X = store4 we wd.heap.size false (.slice (some ⟨bk, ok, none⟩) h c1) (.slice none 0 0) (.slice A3 (h + 1) c3) := ⟨_, rfl⟩
  have hb := store4_below (w := we) (lf := false) (K := .slice (some ⟨bk, ok, none⟩) h c1) (V := .slice none 0 0) (D := .slice A3 (h + 1) c3) (Nat.le_refl wd.heap.size)
  have htp := store4_top (lf := false) (K := .slice (some ⟨bk, ok, none⟩) h c1) (V := .slice none 0 0) (D := .slice A3 (h + 1) c3) Pp.out
  rw [← hW] at hb htp
  have hss : SpS w w3 false (.slice (some ⟨bk, ok, none⟩) a c1) (.slice A2 b c2) (.slice A3 d c3) := by rw [hW]; exact HS_we.out.set NB.out
  obtain ⟨p, hp⟩ : ∃ p, p = wd.heap.size := ⟨_, rfl⟩
  have HP := Lib.hid (show w.heap.size + 1 + 1 < p by rw [hp]; exact NB.out)
  rw [← hp] at htp hW ⊢
  have HS_3 : Hid (SpA w w3 false (.slice (some ⟨bk, ok, none⟩) a c1) (.slice A2 b c2) (.slice A3 d c3) p (.slice (some ⟨bk, ok, none⟩) h c1) (.slice none 0 0) (.slice A3 (h + 1) c3)) := Lib.hid ⟨hss, htp⟩
  clear hss hp
  unfold store4 at hW
  rw [← hW]
  clear hW hb htp y0 y1 y2 y3 f0 f1 f2 f3 Pp Sx HS_we HS_wd hHeld S0
  go_wp2_with fail
  obtain ⟨wf, hwf⟩ : ∃ x, x = w3.drew := ⟨_, rfl⟩
  have HS_wf : Hid (SpA w wf false (.slice (some ⟨bk, ok, none⟩) a c1) (.slice A2 b c2) (.slice A3 d c3) p (.slice (some ⟨bk, ok, none⟩) h c1) (.slice none 0 0) (.slice A3 (h + 1) c3)) := Lib.hid (by rw [hwf]; exact HS_3.out.kept (Below.refl _ _).drew)
  have Zwf := Lib.hid (show wf.heap.size = w3.heap.size by rw [hwf]; rfl)
  have S0 : (fun w' => w'.cell? ⟨w.heap.size, 0, none⟩ = some (.bool false) ∧ w'.cell? ⟨w.heap.size, 1, none⟩ = some (.slice (some ⟨bk, ok, none⟩) a c1) ∧ w'.cell? ⟨w.heap.size, 2, none⟩ = some (.slice A2 b c2) ∧ w'.cell? ⟨w.heap.size, 3, none⟩ = some (.slice A3 d c3)) wf := ⟨HS_wf.out.s.box.c0, HS_wf.out.s.box.c1, HS_wf.out.s.box.c2, HS_wf.out.s.box.c3⟩
  have LPQ := Lib.hid (show p < wf.heap.size from (Array.getElem?_eq_some_iff.1 HS_wf.out.topA).1)
  refine wp_region_late (S := fun w' => w'.cell? ⟨w.heap.size, 0, none⟩ = some (.bool false) ∧ w'.cell? ⟨w.heap.size, 1, none⟩ = some (.slice (some ⟨bk, ok, none⟩) a c1) ∧ w'.cell? ⟨w.heap.size, 2, none⟩ = some (.slice A2 b c2) ∧ w'.cell? ⟨w.heap.size, 3, none⟩ = some (.slice A3 d c3)) [12] (by kernel_rfl) (by rw [← hwf]; exact S0) (fun hHeld => ?_)
  rw [← hwf]
  clear hwf
  refine' anyU_take0 (i := 0) (oi := ⟨some 84, .fieldAddr 27 (.tmp 1) 1, _, _, _, none⟩) (v := _) rfl (by kernel_rfl) (fun _ _ _ h => h) (Or.inl ⟨by rfl, ?hy36⟩) (by assumption) ?rest36
  case hy36 => (intro w hSw; go_simp <;> with_reducible rfl)
  case rest36 =>
  go_frame
  refine' anyU_take (i := 1) (oi := ⟨some 85, .load 24 (.tmp 84), _, _, _, none⟩) (v := _) rfl (by kernel_rfl) (fun _ _ _ h => h) (Or.inl ⟨by rfl, ?hy37⟩) (by assumption) ?rest37
  case hy37 => (intro w hSw; obtain ⟨s0, s1, s2, s3⟩ := hSw; go_simp <;> with_reducible rfl)
  case rest37 =>
  go_frame
  refine' anyU_take0 (i := 2) (oi := ⟨some 86, .move (.tmp 10), _, _, _, none⟩) (v := _) rfl (by kernel_rfl) (fun _ _ _ h => h) (Or.inl ⟨by rfl, ?hy38⟩) (by assumption) ?rest38
  case hy38 => (intro w hSw; go_simp <;> with_reducible rfl)
  case rest38 =>
  go_frame
  refine' anyU_take0 (i := 3) (oi := ⟨some 87, .binOp .add 3 (.tmp 86) (.const (.int .i64 1)) 3, _, _, _, none⟩) (v := _) rfl (by kernel_rfl) (fun _ _ _ h => h) (Or.inl ⟨by rfl, ?hy39⟩) (by assumption) ?rest39
  case hy39 => (intro w hSw; go_simp <;> with_reducible rfl)
  case rest39 =>
  go_frame
  refine' anyU_take0 (i := 4) (oi := ⟨some 88, .slice 24 (.tmp 85) (some (.tmp 87)) none none, _, _, _, none⟩) (v := .slice B1 (a - (h + 1)) (c1 - (h + 1))) rfl (by kernel_rfl) (fun _ _ _ h => h) (Or.inl ⟨by rfl, ?hy40⟩) (by assumption) ?rest40
  case hy40 => (intro w hSw; exact exec_cut (x := .tmp 85) (lo := (some (.tmp 87))) (hi := none) rfl (v := .slice (some ⟨bk, ok, none⟩) a c1) rfl (l := some (.int .i64 (IntKind.i64.wrap ((h : Int) + 1)))) rfl (h := none) rfl (HK3.out _))
  case rest40 =>
  go_frame
  refine' anyU_take0 (i := 5) (oi := ⟨some 89, .fieldAddr 27 (.tmp 1) 3, _, _, _, none⟩) (v := _) rfl (by kernel_rfl) (fun _ _ _ h => h) (Or.inl ⟨by rfl, ?hy41⟩) (by assumption) ?rest41
  case hy41 => (intro w hSw; go_simp <;> with_reducible rfl)
  case rest41 =>
  go_frame
  refine' anyU_take (i := 6) (oi := ⟨some 90, .load 25 (.tmp 89), _, _, _, none⟩) (v := _) rfl (by kernel_rfl) (fun _ _ _ h => h) (Or.inl ⟨by rfl, ?hy42⟩) (by assumption) ?rest42
  case hy42 => (intro w hSw; obtain ⟨s0, s1, s2, s3⟩ := hSw; go_simp <;> with_reducible rfl)
  case rest42 =>
  go_frame
  refine' anyU_take0 (i := 7) (oi := ⟨some 91, .move (.tmp 10), _, _, _, none⟩) (v := _) rfl (by kernel_rfl) (fun _ _ _ h => h) (Or.inl ⟨by rfl, ?hy43⟩) (by assumption) ?rest43
  case hy43 => (intro w hSw; go_simp <;> with_reducible rfl)
  case rest43 =>
  go_frame
  refine' anyU_take0 (i := 8) (oi := ⟨some 92, .binOp .add 3 (.tmp 91) (.const (.int .i64 1)) 3, _, _, _, none⟩) (v := _) rfl (by kernel_rfl) (fun _ _ _ h => h) (Or.inl ⟨by rfl, ?hy44⟩) (by assumption) ?rest44
  case hy44 => (intro w hSw; go_simp <;> with_reducible rfl)
  case rest44 =>
  go_frame
  refine' anyU_take0 (i := 9) (oi := ⟨some 93, .slice 25 (.tmp 90) (some (.tmp 92)) none none, _, _, _, none⟩) (v := .slice B2 (d - (h + 1)) (c3 - (h + 1))) rfl (by kernel_rfl) (fun _ _ _ h => h) (Or.inl ⟨by rfl, ?hy45⟩) (by assumption) ?rest45
  case hy45 => (intro w hSw; exact exec_cut (x := .tmp 90) (lo := (some (.tmp 92))) (hi := none) rfl (v := .slice A3 d c3) rfl (l := some (.int .i64 (IntKind.i64.wrap ((h : Int) + 1)))) rfl (h := none) rfl (HK4.out _))
  case rest45 =>
  go_frame
  refine' anyU_take0 (i := 10) (oi := ⟨some 94, .build 27 #[(1, .tmp 88), (3, .tmp 93)], _, _, _, none⟩) (v := _) rfl (by kernel_rfl) (fun _ _ _ h => h) (Or.inl ⟨by rfl, ?hy46⟩) (by assumption) ?rest46
  case hy46 => (intro w hSw; go_simp <;> with_reducible rfl)
  case rest46 =>
  go_frame
  refine anyU_ready (rs := [11]) (by kernel_rfl) (by simp) (AllU.cons (o := ⟨some 12, .alloc 27, _, _, _, none⟩) rfl (fun K hK => ?_) (fun h => absurd h (by decide)) AllU.nil)
  rw [if_pos (by rfl)]
  obtain ⟨wg, hu⟩ : ∃ u, u = wf.alloc (.cells #[.bool false, .slice none 0 0, .slice none 0 0, .slice none 0 0] 27) := ⟨_, rfl⟩
  have hb : Below wf.heap.size wf wg := by rw [hu]; exact (Below.refl wf.heap.size wf).alloc (Nat.le_refl _) (.cells #[.bool false, .slice none 0 0, .slice none 0 0, .slice none 0 0] 27)
  have hpp : wg.heap[wf.heap.size]? = some (.cells #[.bool false, .slice none 0 0, .slice none 0 0, .slice none 0 0] 27 (0, 0)) := by rw [hu]; exact heap_alloc_last wf _
  have HS_wg := Lib.hid (HS_wf.out.kept hb)
  have Pp := Lib.hid hpp
  have Sx := Lib.hid (And.intro HS_wg.out.s.box.c0 (And.intro HS_wg.out.s.box.c1 (And.intro HS_wg.out.s.box.c2 HS_wg.out.s.box.c3)))
  have NB := Lib.hid (show w.heap.size + 1 + 1 < wf.heap.size from HS_wf.out.s.lt)
  go_simp
  rw [← hu]
  refine hK.out _ _ (fun _ => Sx.out) ?_
  clear hK K hb hpp hu
  try go_frame
  obtain ⟨y0, y1, y2, y3, f0, f1, f2, f3⟩ := out_cells Pp.out
  refine anyU_ready (rs := [12]) (by kernel_rfl) (by simp) (AllU.cons (o := ⟨none, .store 27 (.tmp 12) (.tmp 94), _, _, _, none⟩) rfl (fun K hK => ?_) (fun _ => by kernel_rfl) AllU.nil)
  rw [if_pos (by rfl)]
  go_simp
  refine hK.out _ _ (fun h => absurd h (by decide)) ?_
  clear hK K
  try go_frame
  refine anyU_done (by kernel_rfl) ?_ _
  obtain ⟨w4, hW⟩ : ∃ X, X = store4 wg wf.heap.size false (.slice B1 (a - (h + 1)) (c1 - (h + 1))) (.slice none 0 0) (.slice B2 (d - (h + 1)) (c3 - (h + 1))) := ⟨_, rfl⟩
  have hb := store4_below (w := wg) (lf := false) (K := .slice B1 (a - (h + 1)) (c1 - (h + 1))) (V := .slice none 0 0) (D := .slice B2 (d - (h + 1)) (c3 - (h + 1))) (Nat.le_refl wf.heap.size)
  have htp := store4_top (lf := false) (K := .slice B1 (a - (h + 1)) (c1 - (h + 1))) (V := .slice none 0 0) (D := .slice B2 (d - (h + 1)) (c3 - (h + 1))) Pp.out
  rw [← hW] at hb htp
  have hss : SpS w w4 false (.slice (some ⟨bk, ok, none⟩) a c1) (.slice A2 b c2) (.slice A3 d c3) := by rw [hW]; exact HS_wg.out.s.set NB.out
  have hta := (hb.block _ LPQ.out).trans HS_wg.out.topA
  obtain ⟨q, hq⟩ : ∃ q, q = wf.heap.size := ⟨_, rfl⟩
  have HPQ := Lib.hid (show w.heap.size + 1 + 1 < p ∧ w.heap.size + 1 + 1 < q from ⟨HP.out, by rw [hq]; exact NB.out⟩)
  rw [← hq] at htp hW ⊢
  have HS_4 : Hid (SpT w w4 false (.slice (some ⟨bk, ok, none⟩) a c1) (.slice A2 b c2) (.slice A3 d c3) p q (.slice (some ⟨bk, ok, none⟩) h c1) (.slice none 0 0) (.slice A3 (h + 1) c3) (.slice B1 (a - (h + 1)) (c1 - (h + 1))) (.slice none 0 0) (.slice B2 (d - (h + 1)) (c3 - (h + 1)))) := Lib.hid ⟨hss, hta, htp⟩
  clear hss hq hta LPQ
  unfold store4 at hW
  rw [← hW]
  clear hW hb htp y0 y1 y2 y3 f0 f1 f2 f3 Pp Sx HS_wg HS_wf hHeld S0
  go_wp2_with fail
  obtain ⟨Ak, m, cm, hkc, hkr, hkm, -, -⟩ := HN.out.keys.cell hha
  have hlow : NdIs w w.heap.size (.slice (some ⟨bk, ok, none⟩) h c1) (.slice none 0 0) (.slice A3 (h + 1) c3) (n.lower h) := HN.out.lowerNot HLn.out (by omega) (by obtain ⟨-, hab, -⟩ := HNum.out; omega)
  have hupp : NdIs w w.heap.size (.slice B1 (a - (h + 1)) (c1 - (h + 1))) (.slice none 0 0) (.slice B2 (d - (h + 1)) (c3 - (h + 1))) (n.upper h) := by
    rw [HB1.out, HB2.out]
    exact HN.out.upperNot HLn.out (by omega) (by obtain ⟨-, hab, -⟩ := HNum.out; omega)
  have hgo : h + 1 < n.keys.length := by obtain ⟨hm, -⟩ := HNum.out; rw [← Ha.out]; omega
  have hsl := HSn.out.lower hh1 (by rw [← Ha.out]; exact hha)
  have hsu := HSn.out.upper (k := h) (by rw [HLn.out]; exact hgo)
  have hkl : (n.keys.getD h []).length ≤ 24 := (HSz.out h hha).1.len.2
  obtain ⟨key, hkey⟩ : ∃ x, x = n.keys.getD h [] := ⟨_, rfl⟩
  rw [← hkey] at hkr hkl
  have HKey := Lib.hid hkey
  have HLo := Lib.hid hlow
  have HUp := Lib.hid hupp
  have HKc := Lib.hid hkc
  have HKr := Lib.hid hkr
  have HKl := Lib.hid hkl
  have HSl := Lib.hid hsl
  have HSu := Lib.hid hsu
  have CL := Lib.hid (show (n.lower h).leaf = false from (n.lower_leaf h).trans HLn.out)
  have CU := Lib.hid (show (n.upper h).leaf = false from (n.upper_leaf h).trans HLn.out)
  clear hlow hupp hkc hkr hkl hsl hsu hgo hkey hkm
  have T8 : ∀ {W : World}, SpT w W false (.slice (some ⟨bk, ok, none⟩) a c1) (.slice A2 b c2) (.slice A3 d c3) p q (.slice (some ⟨bk, ok, none⟩) h c1) (.slice none 0 0) (.slice A3 (h + 1) c3) (.slice B1 (a - (h + 1)) (c1 - (h + 1))) (.slice none 0 0) (.slice B2 (d - (h + 1)) (c3 - (h + 1))) → (fun w' => w'.cell? ⟨w.heap.size, 1, none⟩ = some (.slice (some ⟨bk, ok, none⟩) a c1) ∧ w'.cell? ⟨p, 0, none⟩ = some (.bool false) ∧ w'.cell? ⟨p, 1, none⟩ = some (.slice (some ⟨bk, ok, none⟩) h c1) ∧ w'.cell? ⟨p, 2, none⟩ = some (.slice none 0 0) ∧ w'.cell? ⟨p, 3, none⟩ = some (.slice A3 (h + 1) c3) ∧ w'.cell? ⟨q, 0, none⟩ = some (.bool false) ∧ w'.cell? ⟨q, 1, none⟩ = some (.slice B1 (a - (h + 1)) (c1 - (h + 1))) ∧ w'.cell? ⟨q, 2, none⟩ = some (.slice none 0 0) ∧ w'.cell? ⟨q, 3, none⟩ = some (.slice B2 (d - (h + 1)) (c3 - (h + 1))) ∧ w'.cell? ⟨bk, ok + h, none⟩ = some (.slice Ak m cm)) W := fun {W} hT => by
    obtain ⟨a0, a1, a2, a3⟩ := box_of_top hT.topA
    obtain ⟨b0, b1, b2, b3⟩ := box_of_top hT.topB
    exact ⟨hT.s.box.c1, a0, a1, a2, a3, b0, b1, b2, b3, (hT.s.below.cell HBk.out).trans HKc.out⟩
  have ST9 : ∀ {W : World} {N : Nat} {x y z : Value}, (fun w' => w'.cell? ⟨w.heap.size, 1, none⟩ = some (.slice (some ⟨bk, ok, none⟩) a c1) ∧ w'.cell? ⟨p, 0, none⟩ = some (.bool false) ∧ w'.cell? ⟨p, 1, none⟩ = some (.slice (some ⟨bk, ok, none⟩) h c1) ∧ w'.cell? ⟨p, 2, none⟩ = some (.slice none 0 0) ∧ w'.cell? ⟨p, 3, none⟩ = some (.slice A3 (h + 1) c3) ∧ w'.cell? ⟨q, 0, none⟩ = some (.bool false) ∧ w'.cell? ⟨q, 1, none⟩ = some (.slice B1 (a - (h + 1)) (c1 - (h + 1))) ∧ w'.cell? ⟨q, 2, none⟩ = some (.slice none 0 0) ∧ w'.cell? ⟨q, 3, none⟩ = some (.slice B2 (d - (h + 1)) (c3 - (h + 1))) ∧ w'.cell? ⟨bk, ok + h, none⟩ = some (.slice Ak m cm)) W → w.heap.size < N → N ≠ p ∧ N ≠ q → (fun w' => w'.cell? ⟨w.heap.size, 1, none⟩ = some (.slice (some ⟨bk, ok, none⟩) a c1) ∧ w'.cell? ⟨p, 0, none⟩ = some (.bool false) ∧ w'.cell? ⟨p, 1, none⟩ = some (.slice (some ⟨bk, ok, none⟩) h c1) ∧ w'.cell? ⟨p, 2, none⟩ = some (.slice none 0 0) ∧ w'.cell? ⟨p, 3, none⟩ = some (.slice A3 (h + 1) c3) ∧ w'.cell? ⟨q, 0, none⟩ = some (.bool false) ∧ w'.cell? ⟨q, 1, none⟩ = some (.slice B1 (a - (h + 1)) (c1 - (h + 1))) ∧ w'.cell? ⟨q, 2, none⟩ = some (.slice none 0 0) ∧ w'.cell? ⟨q, 3, none⟩ = some (.slice B2 (d - (h + 1)) (c3 - (h + 1))) ∧ w'.cell? ⟨bk, ok + h, none⟩ = some (.slice Ak m cm)) (store4 W N false x y z) := fun {W N x y z} hS hN hNp => by
    have hc : ∀ a : Addr, a.block ≠ N → (store4 W N false x y z).cell? a = W.cell? a := fun a ha => World.cell?_of_block (w := W) (a := a) (store4_other ha)
    obtain ⟨s0, s1, s2, s3, s4, s5, s6, s7, s8, s9⟩ := hS
    have hbk := HBk.out
    exact ⟨(hc _ (show w.heap.size ≠ N by omega)).trans s0, (hc _ (Ne.symm hNp.1)).trans s1, (hc _ (Ne.symm hNp.1)).trans s2, (hc _ (Ne.symm hNp.1)).trans s3, (hc _ (Ne.symm hNp.1)).trans s4, (hc _ (Ne.symm hNp.2)).trans s5, (hc _ (Ne.symm hNp.2)).trans s6, (hc _ (Ne.symm hNp.2)).trans s7, (hc _ (Ne.symm hNp.2)).trans s8, (hc _ (show bk ≠ N by omega)).trans s9⟩
  obtain ⟨wh, hwh⟩ : ∃ x, x = w4.drew := ⟨_, rfl⟩
  have HS_wh : Hid (SpT w wh false (.slice (some ⟨bk, ok, none⟩) a c1) (.slice A2 b c2) (.slice A3 d c3) p q (.slice (some ⟨bk, ok, none⟩) h c1) (.slice none 0 0) (.slice A3 (h + 1) c3) (.slice B1 (a - (h + 1)) (c1 - (h + 1))) (.slice none 0 0) (.slice B2 (d - (h + 1)) (c3 - (h + 1)))) := Lib.hid (by rw [hwh]; exact HS_4.out.kept (Below.refl _ _).drew)
  have Zwh := Lib.hid (show wh.heap.size = w4.heap.size by rw [hwh]; rfl)
  have S0 : (fun w' => w'.cell? ⟨w.heap.size, 1, none⟩ = some (.slice (some ⟨bk, ok, none⟩) a c1) ∧ w'.cell? ⟨p, 0, none⟩ = some (.bool false) ∧ w'.cell? ⟨p, 1, none⟩ = some (.slice (some ⟨bk, ok, none⟩) h c1) ∧ w'.cell? ⟨p, 2, none⟩ = some (.slice none 0 0) ∧ w'.cell? ⟨p, 3, none⟩ = some (.slice A3 (h + 1) c3) ∧ w'.cell? ⟨q, 0, none⟩ = some (.bool false) ∧ w'.cell? ⟨q, 1, none⟩ = some (.slice B1 (a - (h + 1)) (c1 - (h + 1))) ∧ w'.cell? ⟨q, 2, none⟩ = some (.slice none 0 0) ∧ w'.cell? ⟨q, 3, none⟩ = some (.slice B2 (d - (h + 1)) (c3 - (h + 1))) ∧ w'.cell? ⟨bk, ok + h, none⟩ = some (.slice Ak m cm)) wh := T8 HS_wh.out
  obtain ⟨base, hbase⟩ : ∃ x, x = wh.heap.size := ⟨_, rfl⟩
  have HT0 := Lib.hid HS_wh.out
  have BL0 := Lib.hid (Nat.le_of_eq hbase)
  have BN := Lib.hid (show w.heap.size + 1 + 1 < base by rw [hbase]; exact HS_wh.out.s.lt)
  clear hbase HS_4 HS_wh HS_2 Zwh Zwf Zwd HK1 HK2 HK3 HK4
  refine wp_region_late (S := fun w' => w'.cell? ⟨w.heap.size, 1, none⟩ = some (.slice (some ⟨bk, ok, none⟩) a c1) ∧ w'.cell? ⟨p, 0, none⟩ = some (.bool false) ∧ w'.cell? ⟨p, 1, none⟩ = some (.slice (some ⟨bk, ok, none⟩) h c1) ∧ w'.cell? ⟨p, 2, none⟩ = some (.slice none 0 0) ∧ w'.cell? ⟨p, 3, none⟩ = some (.slice A3 (h + 1) c3) ∧ w'.cell? ⟨q, 0, none⟩ = some (.bool false) ∧ w'.cell? ⟨q, 1, none⟩ = some (.slice B1 (a - (h + 1)) (c1 - (h + 1))) ∧ w'.cell? ⟨q, 2, none⟩ = some (.slice none 0 0) ∧ w'.cell? ⟨q, 3, none⟩ = some (.slice B2 (d - (h + 1)) (c3 - (h + 1))) ∧ w'.cell? ⟨bk, ok + h, none⟩ = some (.slice Ak m cm)) [] (by kernel_rfl) (by rw [← hwh]; exact S0) (fun hHeld => ?_)
  rw [← hwh]
  clear hwh
  refine' anyU_take (i := 0) (oi := ⟨some 95, .load 27 (.tmp 11), _, _, _, none⟩) (v := _) rfl (by kernel_rfl) (fun _ _ _ h => h) (Or.inl ⟨by rfl, ?hy47⟩) (by assumption) ?rest47
  case hy47 => (intro w hSw; obtain ⟨s0, s1, s2, s3, s4, s5, s6, s7, s8, s9⟩ := hSw; go_simp <;> with_reducible rfl)
  case rest47 =>
  go_frame
  refine' anyU_take0 (i := 2) (oi := ⟨some 97, .fieldAddr 27 (.tmp 1) 1, _, _, _, none⟩) (v := _) rfl (by kernel_rfl) (fun _ _ _ h => h) (Or.inl ⟨by rfl, ?hy48⟩) (by assumption) ?rest48
  case hy48 => (intro w hSw; go_simp <;> with_reducible rfl)
  case rest48 =>
  go_frame
  refine' anyU_take (i := 3) (oi := ⟨some 98, .load 24 (.tmp 97), _, _, _, none⟩) (v := _) rfl (by kernel_rfl) (fun _ _ _ h => h) (Or.inl ⟨by rfl, ?hy49⟩) (by assumption) ?rest49
  case hy49 => (intro w hSw; obtain ⟨s0, s1, s2, s3, s4, s5, s6, s7, s8, s9⟩ := hSw; go_simp <;> with_reducible rfl)
  case rest49 =>
  go_frame
  refine' anyU_take0 (i := 4) (oi := ⟨some 99, .move (.tmp 10), _, _, _, none⟩) (v := _) rfl (by kernel_rfl) (fun _ _ _ h => h) (Or.inl ⟨by rfl, ?hy50⟩) (by assumption) ?rest50
  case hy50 => (intro w hSw; go_simp <;> with_reducible rfl)
  case rest50 =>
  go_frame
  refine' anyU_take0 (i := 5) (oi := ⟨some 100, .indexAddr 24 (.tmp 98) (.tmp 99), _, _, _, none⟩) (v := _) rfl (by kernel_rfl) (fun _ _ _ h => h) (Or.inl ⟨by rfl, ?hy51⟩) (by assumption) ?rest51
  case hy51 => (intro w hSw; go_simp <;> with_reducible rfl)
  case rest51 =>
  go_frame
  refine' anyU_take (i := 6) (oi := ⟨some 101, .load 22 (.tmp 100), _, _, _, none⟩) (v := _) rfl (by kernel_rfl) (fun _ _ _ h => h) (Or.inl ⟨by rfl, ?hy52⟩) (by assumption) ?rest52
  case hy52 => (intro w hSw; obtain ⟨s0, s1, s2, s3, s4, s5, s6, s7, s8, s9⟩ := hSw; go_simp <;> with_reducible rfl)
  case rest52 =>
  go_frame
  refine' anyU_take (i := 9) (oi := ⟨some 104, .load 27 (.tmp 12), _, _, _, none⟩) (v := _) rfl (by kernel_rfl) (fun _ _ _ h => h) (Or.inl ⟨by rfl, ?hy53⟩) (by assumption) ?rest53
  case hy53 => (intro w hSw; obtain ⟨s0, s1, s2, s3, s4, s5, s6, s7, s8, s9⟩ := hSw; go_simp <;> with_reducible rfl)
  case rest53 =>
  go_frame
  refine anyU_ready (rs := [1, 7]) (by kernel_rfl) (by simp) (AllU.cons (o := ⟨some 96, .call { callee := .value (.func 41), args := #[.tmp 95], argTypes := #[27] }, _, _, _, none⟩) rfl (fun K hK => ?_) (fun h => absurd h (by decide)) (AllU.cons (o := ⟨some 102, .buildSlice 24 1 #[(0, .tmp 101)], _, _, _, none⟩) rfl (fun K hK => ?_) (fun h => absurd h (by decide)) AllU.nil))
  · rw [if_pos (by rfl)]
    go_simp
    refine (copied_as ((HLo.out.below HT0.out.s.below).more HT0.out.s.below.size) CL.out (n.lower_short h HSh.out) HSl.out.small).mono ?_
    rintro e v1 ⟨X1, i1, j1, X2, i2, j2, X3, i3, j3, rfl, hn, hb⟩
    have HT1 := Lib.hid (HT0.out.kept hb)
    have BL1 := Lib.hid (Nat.le_trans BL0.out hb.size)
    have FA1 := Lib.hid (hn.weaken BL0.out)
    dsimp only
    have Sx1 := Lib.hid (T8 HT1.out)
    refine hK.out _ _ (fun _ => Sx1.out) ?_
    clear hK K  hn hb HT0 BL0
    try go_frame
    refine anyU_ready (rs := [7]) (by kernel_rfl) (by simp) (AllU.cons (o := ⟨some 102, .buildSlice 24 1 #[(0, .tmp 101)], _, _, _, none⟩) rfl (fun K hK => ?_) (fun h => absurd h (by decide)) AllU.nil)
    rw [if_pos (by rfl)]
    obtain ⟨v2, hu⟩ : ∃ u, u = v1.alloc (.cells #[.slice Ak m cm] 22) := ⟨_, rfl⟩
    have hb : Below v1.heap.size v1 v2 := by rw [hu]; exact (Below.refl v1.heap.size v1).alloc (Nat.le_refl _) (.cells #[.slice Ak m cm] 22)
    have hmy : RdAll v2 v2.heap.size (.slice (some ⟨v1.heap.size, 0, none⟩) 1 1) [key] := by rw [hu]; simpa using RdAll.lit1 v1 22 _ key ((HKr.out.below HT1.out.s.below).more HT1.out.s.below.size)
    have HT2 := Lib.hid (HT1.out.kept hb)
    have BL2 := Lib.hid (Nat.le_trans BL1.out hb.size)
    have FA2 := Lib.hid (FA1.out.kept hb)
    have My2 := Lib.hid hmy
    go_simp
    rw [← hu]
    have Sx2 := Lib.hid (T8 HT2.out)
    refine hK.out _ _ (fun _ => Sx2.out) ?_
    clear hK K Sx1 hu hb hmy HT1 BL1 FA1
    try go_frame
    refine anyU_ready (rs := [8]) (by kernel_rfl) (by simp) (AllU.cons (o := ⟨some 103, .call { callee := .value (.func 43), args := #[.tmp 102], argTypes := #[24] }, _, _, _, none⟩) rfl (fun K hK => ?_) (fun h => absurd h (by decide)) AllU.nil)
    rw [if_pos (by rfl)]
    go_simp
    refine (bytes_any _ 1 1 [key] _ _ My2.out (Nat.le_refl _) (by have := HKl.out; simp; omega)).mono ?_
    rintro e v3 ⟨kv, rfl, hm, hb⟩
    rw [show [key].flatten = key by simp] at hm
    obtain ⟨Av, cv, rfl⟩ := hm.form
    have HT3 := Lib.hid (HT2.out.kept hb)
    have BL3 := Lib.hid (Nat.le_trans BL2.out hb.size)
    have FA3 := Lib.hid (FA2.out.kept hb)
    have My3 := Lib.hid ((My2.out.below hb).more hb.size)
    have Kv3 := Lib.hid (hm.weaken BL2.out)
    dsimp only
    have Sx3 := Lib.hid (T8 HT3.out)
    refine hK.out _ _ (fun _ => Sx3.out) ?_
    clear hK K Sx2 hm hb HT2 BL2 FA2 My2
    try go_frame
    refine anyU_ready (rs := [10]) (by kernel_rfl) (by simp) (AllU.cons (o := ⟨some 105, .call { callee := .value (.func 41), args := #[.tmp 104], argTypes := #[27] }, _, _, _, none⟩) rfl (fun K hK => ?_) (fun h => absurd h (by decide)) AllU.nil)
    rw [if_pos (by rfl)]
    go_simp
    refine (copied_as ((HUp.out.below HT3.out.s.below).more HT3.out.s.below.size) CU.out (n.upper_short h HSh.out) HSu.out.small).mono ?_
    rintro e v4 ⟨Y1, k1, l1, Y2, k2, l2, Y3, k3, l3, rfl, hn, hb⟩
    have HT4 := Lib.hid (HT3.out.kept hb)
    have BL4 := Lib.hid (Nat.le_trans BL3.out hb.size)
    have FA4 := Lib.hid (FA3.out.kept hb)
    have Kv4 := Lib.hid (Kv3.out.frK (B0 := 0) (Fr.below (hb)) (fun _ _ e => by cases e))
    have FB4 := Lib.hid (hn.weaken BL3.out)
    dsimp only
    have Sx4 := Lib.hid (T8 HT4.out)
    refine hK.out _ _ (fun _ => Sx4.out) ?_
    clear hK K Sx3 hn hb HT3 BL3 FA3 Kv3
    try go_frame
    refine anyU_ready (rs := [11]) (by kernel_rfl) (by simp) (AllU.cons (o := ⟨none, .store 27 (.tmp 2) (.tmp 96), _, _, _, none⟩) rfl (fun K hK => ?_) (fun h => absurd h (by decide)) AllU.nil)
    rw [if_pos (by rfl)]
    obtain ⟨y0, y1, y2, y3, f0, f1, f2, f3⟩ := out_cells HT4.out.s.outA
    go_simp
    obtain ⟨Wa, hWa⟩ : ∃ X, X = store4 v4 (w.heap.size + 1) false (.slice X1 i1 j1) (.slice X2 i2 j2) (.slice X3 i3 j3) := ⟨_, rfl⟩
    have hta := store4_top (lf := false) (K := .slice X1 i1 j1) (V := .slice X2 i2 j2) (D := .slice X3 i3 j3) HT4.out.s.outA
    have htb := (store4_other (w := v4) (N := w.heap.size + 1) (lf := false) (K := .slice X1 i1 j1) (V := .slice X2 i2 j2) (D := .slice X3 i3 j3) (show w.heap.size + 1 + 1 ≠ w.heap.size + 1 by omega)).trans HT4.out.s.outB
    have hbe := HT4.out.s.below.trans (store4_below (w := v4) (lf := false) (K := .slice X1 i1 j1) (V := .slice X2 i2 j2) (D := .slice X3 i3 j3) (show w.heap.size ≤ w.heap.size + 1 by omega))
    have hfa := FA4.out.store4 (lf := false) (K := .slice X1 i1 j1) (V := .slice X2 i2 j2) (D := .slice X3 i3 j3) (N := w.heap.size + 1) (by have := BN.out; omega)
    have hfb := FB4.out.store4 (lf := false) (K := .slice X1 i1 j1) (V := .slice X2 i2 j2) (D := .slice X3 i3 j3) (N := w.heap.size + 1) (by have := BN.out; omega)
    have hkv := Kv4.out.frK (B0 := 0) (g := none) (w' := store4 v4 (w.heap.size + 1) false (.slice X1 i1 j1) (.slice X2 i2 j2) (.slice X3 i3 j3)) ⟨Nat.le_of_eq store4_size.symm, fun k _ h2 _ => store4_other (by have := BN.out; omega)⟩ (fun _ _ e => by cases e)
    rw [← hWa] at hta htb hbe hfa hfb hkv
    have hsy : (fun w' => w'.cell? ⟨w.heap.size, 1, none⟩ = some (.slice (some ⟨bk, ok, none⟩) a c1) ∧ w'.cell? ⟨p, 0, none⟩ = some (.bool false) ∧ w'.cell? ⟨p, 1, none⟩ = some (.slice (some ⟨bk, ok, none⟩) h c1) ∧ w'.cell? ⟨p, 2, none⟩ = some (.slice none 0 0) ∧ w'.cell? ⟨p, 3, none⟩ = some (.slice A3 (h + 1) c3) ∧ w'.cell? ⟨q, 0, none⟩ = some (.bool false) ∧ w'.cell? ⟨q, 1, none⟩ = some (.slice B1 (a - (h + 1)) (c1 - (h + 1))) ∧ w'.cell? ⟨q, 2, none⟩ = some (.slice none 0 0) ∧ w'.cell? ⟨q, 3, none⟩ = some (.slice B2 (d - (h + 1)) (c3 - (h + 1))) ∧ w'.cell? ⟨bk, ok + h, none⟩ = some (.slice Ak m cm)) Wa := by
      rw [hWa]
      exact ST9 (T8 HT4.out) (by omega) (by have := BN.out; have := HPQ.out; omega)
    have SyA := Lib.hid hsy
    unfold store4 at hWa
    rw [← hWa]
    refine hK.out _ _ (fun _ => SyA.out) ?_
    clear hK K hsy
    try go_frame
    have HTa := Lib.hid hta
    have HTb := Lib.hid htb
    have HBe := Lib.hid hbe
    have HFa := Lib.hid hfa
    have HFb := Lib.hid hfb
    have HKv := Lib.hid hkv
    clear hWa hta htb hbe hfa hfb hkv y0 y1 y2 y3 f0 f1 f2 f3 FA4 FB4 Kv4 HT4
    refine anyU_ready (rs := [12]) (by kernel_rfl) (by simp) (AllU.cons (o := ⟨some 3, .assign (.tmp 103), _, _, _, none⟩) rfl (fun K hK => ?_) (fun h => absurd h (by decide)) AllU.nil)
    rw [if_pos (by rfl)]
    go_simp
    refine hK.out _ _ (fun _ => SyA.out) ?_
    clear hK K
    try go_frame
    refine anyU_ready (rs := [13]) (by kernel_rfl) (by simp) (AllU.cons (o := ⟨none, .store 27 (.tmp 4) (.tmp 105), _, _, _, none⟩) rfl (fun K hK => ?_) (fun h => absurd h (by decide)) AllU.nil)
    rw [if_pos (by rfl)]
    obtain ⟨y0, y1, y2, y3, f0, f1, f2, f3⟩ := out_cells HTb.out
    go_simp
    obtain ⟨Wb, hWb⟩ : ∃ X, X = store4 Wa (w.heap.size + 1 + 1) false (.slice Y1 k1 l1) (.slice Y2 k2 l2) (.slice Y3 k3 l3) := ⟨_, rfl⟩
    have htb := store4_top (lf := false) (K := .slice Y1 k1 l1) (V := .slice Y2 k2 l2) (D := .slice Y3 k3 l3) HTb.out
    have hta := (store4_other (w := Wa) (N := w.heap.size + 1 + 1) (lf := false) (K := .slice Y1 k1 l1) (V := .slice Y2 k2 l2) (D := .slice Y3 k3 l3) (show w.heap.size + 1 ≠ w.heap.size + 1 + 1 by omega)).trans HTa.out
    have hbe := HBe.out.trans (store4_below (w := Wa) (lf := false) (K := .slice Y1 k1 l1) (V := .slice Y2 k2 l2) (D := .slice Y3 k3 l3) (show w.heap.size ≤ w.heap.size + 1 + 1 by omega))
    have hfa := HFa.out.store4 (lf := false) (K := .slice Y1 k1 l1) (V := .slice Y2 k2 l2) (D := .slice Y3 k3 l3) (N := w.heap.size + 1 + 1) (by have := BN.out; omega)
    have hfb := HFb.out.store4 (lf := false) (K := .slice Y1 k1 l1) (V := .slice Y2 k2 l2) (D := .slice Y3 k3 l3) (N := w.heap.size + 1 + 1) (by have := BN.out; omega)
    have hkv := HKv.out.frK (B0 := 0) (g := none) (w' := store4 Wa (w.heap.size + 1 + 1) false (.slice Y1 k1 l1) (.slice Y2 k2 l2) (.slice Y3 k3 l3)) ⟨Nat.le_of_eq store4_size.symm, fun k _ h2 _ => store4_other (by have := BN.out; omega)⟩ (fun _ _ e => by cases e)
    rw [← hWb] at hta htb hbe hfa hfb hkv
    have hsy : (fun w' => w'.cell? ⟨w.heap.size, 1, none⟩ = some (.slice (some ⟨bk, ok, none⟩) a c1) ∧ w'.cell? ⟨p, 0, none⟩ = some (.bool false) ∧ w'.cell? ⟨p, 1, none⟩ = some (.slice (some ⟨bk, ok, none⟩) h c1) ∧ w'.cell? ⟨p, 2, none⟩ = some (.slice none 0 0) ∧ w'.cell? ⟨p, 3, none⟩ = some (.slice A3 (h + 1) c3) ∧ w'.cell? ⟨q, 0, none⟩ = some (.bool false) ∧ w'.cell? ⟨q, 1, none⟩ = some (.slice B1 (a - (h + 1)) (c1 - (h + 1))) ∧ w'.cell? ⟨q, 2, none⟩ = some (.slice none 0 0) ∧ w'.cell? ⟨q, 3, none⟩ = some (.slice B2 (d - (h + 1)) (c3 - (h + 1))) ∧ w'.cell? ⟨bk, ok + h, none⟩ = some (.slice Ak m cm)) Wb := by
      rw [hWb]
      exact ST9 SyA.out (by omega) (by have := BN.out; have := HPQ.out; omega)
    have SyB := Lib.hid hsy
    unfold store4 at hWb
    rw [← hWb]
    refine hK.out _ _ (fun _ => SyB.out) ?_
    clear hK K hsy SyA
    try go_frame
    obtain ⟨p0, p1, p2, p3⟩ := box_of_top hta
    obtain ⟨q0, q1, q2, q3⟩ := box_of_top htb
    have HBe2 := Lib.hid hbe
    have HFa2 := Lib.hid (hfa.weaken (b1 := w.heap.size) (by have := BN.out; omega))
    have HFb2 := Lib.hid (hfb.weaken (b1 := w.heap.size) (by have := BN.out; omega))
    have HKv2 := Lib.hid (hkv.weaken (base' := w.heap.size) (by have := BN.out; omega))
    clear hWb hta htb hbe hfa hfb hkv y0 y1 y2 y3 f0 f1 f2 f3 HTa HTb HBe HFa HFb HKv
    refine anyU_ready (rs := [14]) (by kernel_rfl) (by simp) (AllU.cons (o := ⟨some 5, .assign (.const (.bool true)), _, _, _, none⟩) rfl (fun K hK => ?_) (fun h => absurd h (by decide)) AllU.nil)
    rw [if_pos (by rfl)]
    go_simp
    refine hK.out _ _ (fun _ => SyB.out) ?_
    clear hK K
    try go_frame
    refine anyU_done (by kernel_rfl) ?_ _
    go_wp2_with fail
    exact bodyPost_ret (v := .tuple #[ndVal false (.slice X1 i1 j1) (.slice X2 i2 j2) (.slice X3 i3 j3), .slice Av (cellsB key).length cv, ndVal false (.slice Y1 k1 l1) (.slice Y2 k2 l2) (.slice Y3 k3 l3), .bool true]) (by simp [results, Try.results23, go_sem, p0, p1, p2, p3, q0, q1, q2, q3]) rfl ⟨h, _, _, _, _, _, _, _, HH.out, rfl, HFa2.out, (by rw [← HKey.out]; exact HKv2.out), HFb2.out, HBe2.out⟩
  · rw [if_pos (by rfl)]
    obtain ⟨v1, hu⟩ : ∃ u, u = wh.alloc (.cells #[.slice Ak m cm] 22) := ⟨_, rfl⟩
    have hb : Below wh.heap.size wh v1 := by rw [hu]; exact (Below.refl wh.heap.size wh).alloc (Nat.le_refl _) (.cells #[.slice Ak m cm] 22)
    have hmy : RdAll v1 v1.heap.size (.slice (some ⟨wh.heap.size, 0, none⟩) 1 1) [key] := by rw [hu]; simpa using RdAll.lit1 wh 22 _ key ((HKr.out.below HT0.out.s.below).more HT0.out.s.below.size)
    have HT1 := Lib.hid (HT0.out.kept hb)
    have BL1 := Lib.hid (Nat.le_trans BL0.out hb.size)
    have My1 := Lib.hid hmy
    go_simp
    rw [← hu]
    have Sx1 := Lib.hid (T8 HT1.out)
    refine hK.out _ _ (fun _ => Sx1.out) ?_
    clear hK K  hu hb hmy HT0 BL0
    try go_frame
    refine anyU_ready (rs := [1]) (by kernel_rfl) (by simp) (AllU.cons (o := ⟨some 96, .call { callee := .value (.func 41), args := #[.tmp 95], argTypes := #[27] }, _, _, _, none⟩) rfl (fun K hK => ?_) (fun h => absurd h (by decide)) AllU.nil)
    rw [if_pos (by rfl)]
    go_simp
    refine (copied_as ((HLo.out.below HT1.out.s.below).more HT1.out.s.below.size) CL.out (n.lower_short h HSh.out) HSl.out.small).mono ?_
    rintro e v2 ⟨X1, i1, j1, X2, i2, j2, X3, i3, j3, rfl, hn, hb⟩
    have HT2 := Lib.hid (HT1.out.kept hb)
    have BL2 := Lib.hid (Nat.le_trans BL1.out hb.size)
    have My2 := Lib.hid ((My1.out.below hb).more hb.size)
    have FA2 := Lib.hid (hn.weaken BL1.out)
    dsimp only
    have Sx2 := Lib.hid (T8 HT2.out)
    refine hK.out _ _ (fun _ => Sx2.out) ?_
    clear hK K Sx1 hn hb HT1 BL1 My1
    try go_frame
    refine anyU_ready (rs := [8]) (by kernel_rfl) (by simp) (AllU.cons (o := ⟨some 103, .call { callee := .value (.func 43), args := #[.tmp 102], argTypes := #[24] }, _, _, _, none⟩) rfl (fun K hK => ?_) (fun h => absurd h (by decide)) AllU.nil)
    rw [if_pos (by rfl)]
    go_simp
    refine (bytes_any _ 1 1 [key] _ _ My2.out (Nat.le_refl _) (by have := HKl.out; simp; omega)).mono ?_
    rintro e v3 ⟨kv, rfl, hm, hb⟩
    rw [show [key].flatten = key by simp] at hm
    obtain ⟨Av, cv, rfl⟩ := hm.form
    have HT3 := Lib.hid (HT2.out.kept hb)
    have BL3 := Lib.hid (Nat.le_trans BL2.out hb.size)
    have FA3 := Lib.hid (FA2.out.kept hb)
    have My3 := Lib.hid ((My2.out.below hb).more hb.size)
    have Kv3 := Lib.hid (hm.weaken BL2.out)
    dsimp only
    have Sx3 := Lib.hid (T8 HT3.out)
    refine hK.out _ _ (fun _ => Sx3.out) ?_
    clear hK K Sx2 hm hb HT2 BL2 FA2 My2
    try go_frame
    refine anyU_ready (rs := [10]) (by kernel_rfl) (by simp) (AllU.cons (o := ⟨some 105, .call { callee := .value (.func 41), args := #[.tmp 104], argTypes := #[27] }, _, _, _, none⟩) rfl (fun K hK => ?_) (fun h => absurd h (by decide)) AllU.nil)
    rw [if_pos (by rfl)]
    go_simp
    refine (copied_as ((HUp.out.below HT3.out.s.below).more HT3.out.s.below.size) CU.out (n.upper_short h HSh.out) HSu.out.small).mono ?_
    rintro e v4 ⟨Y1, k1, l1, Y2, k2, l2, Y3, k3, l3, rfl, hn, hb⟩
    have HT4 := Lib.hid (HT3.out.kept hb)
    have BL4 := Lib.hid (Nat.le_trans BL3.out hb.size)
    have FA4 := Lib.hid (FA3.out.kept hb)
    have Kv4 := Lib.hid (Kv3.out.frK (B0 := 0) (Fr.below (hb)) (fun _ _ e => by cases e))
    have FB4 := Lib.hid (hn.weaken BL3.out)
    dsimp only
    have Sx4 := Lib.hid (T8 HT4.out)
    refine hK.out _ _ (fun _ => Sx4.out) ?_
    clear hK K Sx3 hn hb HT3 BL3 FA3 Kv3
    try go_frame
    refine anyU_ready (rs := [11]) (by kernel_rfl) (by simp) (AllU.cons (o := ⟨none, .store 27 (.tmp 2) (.tmp 96), _, _, _, none⟩) rfl (fun K hK => ?_) (fun h => absurd h (by decide)) AllU.nil)
    rw [if_pos (by rfl)]
    obtain ⟨y0, y1, y2, y3, f0, f1, f2, f3⟩ := out_cells HT4.out.s.outA
    go_simp
    obtain ⟨Wa, hWa⟩ : ∃ X, X = store4 v4 (w.heap.size + 1) false (.slice X1 i1 j1) (.slice X2 i2 j2) (.slice X3 i3 j3) := ⟨_, rfl⟩
    have hta := store4_top (lf := false) (K := .slice X1 i1 j1) (V := .slice X2 i2 j2) (D := .slice X3 i3 j3) HT4.out.s.outA
    have htb := (store4_other (w := v4) (N := w.heap.size + 1) (lf := false) (K := .slice X1 i1 j1) (V := .slice X2 i2 j2) (D := .slice X3 i3 j3) (show w.heap.size + 1 + 1 ≠ w.heap.size + 1 by omega)).trans HT4.out.s.outB
    have hbe := HT4.out.s.below.trans (store4_below (w := v4) (lf := false) (K := .slice X1 i1 j1) (V := .slice X2 i2 j2) (D := .slice X3 i3 j3) (show w.heap.size ≤ w.heap.size + 1 by omega))
    have hfa := FA4.out.store4 (lf := false) (K := .slice X1 i1 j1) (V := .slice X2 i2 j2) (D := .slice X3 i3 j3) (N := w.heap.size + 1) (by have := BN.out; omega)
    have hfb := FB4.out.store4 (lf := false) (K := .slice X1 i1 j1) (V := .slice X2 i2 j2) (D := .slice X3 i3 j3) (N := w.heap.size + 1) (by have := BN.out; omega)
    have hkv := Kv4.out.frK (B0 := 0) (g := none) (w' := store4 v4 (w.heap.size + 1) false (.slice X1 i1 j1) (.slice X2 i2 j2) (.slice X3 i3 j3)) ⟨Nat.le_of_eq store4_size.symm, fun k _ h2 _ => store4_other (by have := BN.out; omega)⟩ (fun _ _ e => by cases e)
    rw [← hWa] at hta htb hbe hfa hfb hkv
    have hsy : (fun w' => w'.cell? ⟨w.heap.size, 1, none⟩ = some (.slice (some ⟨bk, ok, none⟩) a c1) ∧ w'.cell? ⟨p, 0, none⟩ = some (.bool false) ∧ w'.cell? ⟨p, 1, none⟩ = some (.slice (some ⟨bk, ok, none⟩) h c1) ∧ w'.cell? ⟨p, 2, none⟩ = some (.slice none 0 0) ∧ w'.cell? ⟨p, 3, none⟩ = some (.slice A3 (h + 1) c3) ∧ w'.cell? ⟨q, 0, none⟩ = some (.bool false) ∧ w'.cell? ⟨q, 1, none⟩ = some (.slice B1 (a - (h + 1)) (c1 - (h + 1))) ∧ w'.cell? ⟨q, 2, none⟩ = some (.slice none 0 0) ∧ w'.cell? ⟨q, 3, none⟩ = some (.slice B2 (d - (h + 1)) (c3 - (h + 1))) ∧ w'.cell? ⟨bk, ok + h, none⟩ = some (.slice Ak m cm)) Wa := by
      rw [hWa]
      exact ST9 (T8 HT4.out) (by omega) (by have := BN.out; have := HPQ.out; omega)
    have SyA := Lib.hid hsy
    unfold store4 at hWa
    rw [← hWa]
    refine hK.out _ _ (fun _ => SyA.out) ?_
    clear hK K hsy
    try go_frame
    have HTa := Lib.hid hta
    have HTb := Lib.hid htb
    have HBe := Lib.hid hbe
    have HFa := Lib.hid hfa
    have HFb := Lib.hid hfb
    have HKv := Lib.hid hkv
    clear hWa hta htb hbe hfa hfb hkv y0 y1 y2 y3 f0 f1 f2 f3 FA4 FB4 Kv4 HT4
    refine anyU_ready (rs := [12]) (by kernel_rfl) (by simp) (AllU.cons (o := ⟨some 3, .assign (.tmp 103), _, _, _, none⟩) rfl (fun K hK => ?_) (fun h => absurd h (by decide)) AllU.nil)
    rw [if_pos (by rfl)]
    go_simp
    refine hK.out _ _ (fun _ => SyA.out) ?_
    clear hK K
    try go_frame
    refine anyU_ready (rs := [13]) (by kernel_rfl) (by simp) (AllU.cons (o := ⟨none, .store 27 (.tmp 4) (.tmp 105), _, _, _, none⟩) rfl (fun K hK => ?_) (fun h => absurd h (by decide)) AllU.nil)
    rw [if_pos (by rfl)]
    obtain ⟨y0, y1, y2, y3, f0, f1, f2, f3⟩ := out_cells HTb.out
    go_simp
    obtain ⟨Wb, hWb⟩ : ∃ X, X = store4 Wa (w.heap.size + 1 + 1) false (.slice Y1 k1 l1) (.slice Y2 k2 l2) (.slice Y3 k3 l3) := ⟨_, rfl⟩
    have htb := store4_top (lf := false) (K := .slice Y1 k1 l1) (V := .slice Y2 k2 l2) (D := .slice Y3 k3 l3) HTb.out
    have hta := (store4_other (w := Wa) (N := w.heap.size + 1 + 1) (lf := false) (K := .slice Y1 k1 l1) (V := .slice Y2 k2 l2) (D := .slice Y3 k3 l3) (show w.heap.size + 1 ≠ w.heap.size + 1 + 1 by omega)).trans HTa.out
    have hbe := HBe.out.trans (store4_below (w := Wa) (lf := false) (K := .slice Y1 k1 l1) (V := .slice Y2 k2 l2) (D := .slice Y3 k3 l3) (show w.heap.size ≤ w.heap.size + 1 + 1 by omega))
    have hfa := HFa.out.store4 (lf := false) (K := .slice Y1 k1 l1) (V := .slice Y2 k2 l2) (D := .slice Y3 k3 l3) (N := w.heap.size + 1 + 1) (by have := BN.out; omega)
    have hfb := HFb.out.store4 (lf := false) (K := .slice Y1 k1 l1) (V := .slice Y2 k2 l2) (D := .slice Y3 k3 l3) (N := w.heap.size + 1 + 1) (by have := BN.out; omega)
    have hkv := HKv.out.frK (B0 := 0) (g := none) (w' := store4 Wa (w.heap.size + 1 + 1) false (.slice Y1 k1 l1) (.slice Y2 k2 l2) (.slice Y3 k3 l3)) ⟨Nat.le_of_eq store4_size.symm, fun k _ h2 _ => store4_other (by have := BN.out; omega)⟩ (fun _ _ e => by cases e)
    rw [← hWb] at hta htb hbe hfa hfb hkv
    have hsy : (fun w' => w'.cell? ⟨w.heap.size, 1, none⟩ = some (.slice (some ⟨bk, ok, none⟩) a c1) ∧ w'.cell? ⟨p, 0, none⟩ = some (.bool false) ∧ w'.cell? ⟨p, 1, none⟩ = some (.slice (some ⟨bk, ok, none⟩) h c1) ∧ w'.cell? ⟨p, 2, none⟩ = some (.slice none 0 0) ∧ w'.cell? ⟨p, 3, none⟩ = some (.slice A3 (h + 1) c3) ∧ w'.cell? ⟨q, 0, none⟩ = some (.bool false) ∧ w'.cell? ⟨q, 1, none⟩ = some (.slice B1 (a - (h + 1)) (c1 - (h + 1))) ∧ w'.cell? ⟨q, 2, none⟩ = some (.slice none 0 0) ∧ w'.cell? ⟨q, 3, none⟩ = some (.slice B2 (d - (h + 1)) (c3 - (h + 1))) ∧ w'.cell? ⟨bk, ok + h, none⟩ = some (.slice Ak m cm)) Wb := by
      rw [hWb]
      exact ST9 SyA.out (by omega) (by have := BN.out; have := HPQ.out; omega)
    have SyB := Lib.hid hsy
    unfold store4 at hWb
    rw [← hWb]
    refine hK.out _ _ (fun _ => SyB.out) ?_
    clear hK K hsy SyA
    try go_frame
    obtain ⟨p0, p1, p2, p3⟩ := box_of_top hta
    obtain ⟨q0, q1, q2, q3⟩ := box_of_top htb
    have HBe2 := Lib.hid hbe
    have HFa2 := Lib.hid (hfa.weaken (b1 := w.heap.size) (by have := BN.out; omega))
    have HFb2 := Lib.hid (hfb.weaken (b1 := w.heap.size) (by have := BN.out; omega))
    have HKv2 := Lib.hid (hkv.weaken (base' := w.heap.size) (by have := BN.out; omega))
    clear hWb hta htb hbe hfa hfb hkv y0 y1 y2 y3 f0 f1 f2 f3 HTa HTb HBe HFa HFb HKv
    refine anyU_ready (rs := [14]) (by kernel_rfl) (by simp) (AllU.cons (o := ⟨some 5, .assign (.const (.bool true)), _, _, _, none⟩) rfl (fun K hK => ?_) (fun h => absurd h (by decide)) AllU.nil)
    rw [if_pos (by rfl)]
    go_simp
    refine hK.out _ _ (fun _ => SyB.out) ?_
    clear hK K
    try go_frame
    refine anyU_done (by kernel_rfl) ?_ _
    go_wp2_with fail
    exact bodyPost_ret (v := .tuple #[ndVal false (.slice X1 i1 j1) (.slice X2 i2 j2) (.slice X3 i3 j3), .slice Av (cellsB key).length cv, ndVal false (.slice Y1 k1 l1) (.slice Y2 k2 l2) (.slice Y3 k3 l3), .bool true]) (by simp [results, Try.results23, go_sem, p0, p1, p2, p3, q0, q1, q2, q3]) rfl ⟨h, _, _, _, _, _, _, _, HH.out, rfl, HFa2.out, (by rw [← HKey.out]; exact HKv2.out), HFb2.out, HBe2.out⟩
end Go.Proofs.Ytceefoopehoalaa
