/-
  Split of package node: contract where there are halves.
-/
import Derived.Test.YtceefoopehoalaaNdSplitB
import Derived.Test.YtceefoopehoalaaNdSplitN
namespace Go.Proofs.Ytceefoopehoalaa
open Go.RowKit
theorem exec_cut {P : Program} {w w' : World} {o : Oper} {ρ : Operand → Value} {t : TypeId} {x : Operand} {lo hi : Option Operand} (ho : o.op = .slice t x lo hi none) {v r : Value} {l h : Option Value} (hx : ρ x = v) (hl : lo.map ρ = l) (hh : hi.map ρ = h) (hrun : (Instr.sliceAt t v l h none).run P w = .ok r w') : (execOp ρ o).run P w = .ok (.value r) w' := by
  unfold execOp
  simp only [ho, hx, hl, hh, Option.map_none, Sem.run_bind, hrun, Result.andThen_ok, Sem.run_pure]
/-- What Split tells of a node that has halves. -/
def SplitOut (n : Nd) (lf : Bool) (most : Nat) (w : World) (e : Ending) (w' : World) : Prop :=
  ∃ h K1 V1 D1 kv K2 V2 D2, n.Half most h ∧ e = .returned (.tuple #[ndVal lf K1 V1 D1, kv, ndVal lf K2 V2 D2, .bool true]) ∧ NdNew w' w.heap.size K1 V1 D1 (n.lower h) ∧ Mine w' w.heap.size 5 kv (cellsB (n.keys.getD h [])) ∧ NdNew w' w.heap.size K2 V2 D2 (n.upper h) ∧ Below w.heap.size w w'
/-- Split at work: both halves, as slices of the node's own rows, in their blocks p and q. -/
structure SpA (w0 w : World) (lf : Bool) (K V D : Value) (p : Nat) (K1 V1 D1 : Value) : Prop where
  s : SpS w0 w lf K V D
  topA : w.heap[p]? = some (.cells #[.bool lf, K1, V1, D1] 27 (0, 0))
structure SpT (w0 w : World) (lf : Bool) (K V D : Value) (p q : Nat) (K1 V1 D1 K2 V2 D2 : Value) : Prop where
  s : SpS w0 w lf K V D
  topA : w.heap[p]? = some (.cells #[.bool lf, K1, V1, D1] 27 (0, 0))
  topB : w.heap[q]? = some (.cells #[.bool lf, K2, V2, D2] 27 (0, 0))
section
variable {w0 w w' : World} {lf : Bool} {K V D K1 V1 D1 K2 V2 D2 : Value} {p q : Nat}
theorem SpA.kept (h : SpA w0 w lf K V D p K1 V1 D1) (hb : Below w.heap.size w w') : SpA w0 w' lf K V D p K1 V1 D1 :=
  ⟨h.s.kept hb, (hb.block _ (Array.getElem?_eq_some_iff.1 h.topA).1).trans h.topA⟩
theorem SpS.set {N : Nat} {a : Bool} {x y z : Value} (h : SpS w0 w lf K V D) (hN : w0.heap.size + 1 + 1 < N) : SpS w0 (store4 w N a x y z) lf K V D :=
  ⟨h.box.later (B := N) (by omega) (store4_below (Nat.le_refl _)), (store4_other (by omega)).trans h.outA, (store4_other (by omega)).trans h.outB, h.below.trans (store4_below (by omega))⟩
theorem SpT.kept (h : SpT w0 w lf K V D p q K1 V1 D1 K2 V2 D2) (hb : Below w.heap.size w w') : SpT w0 w' lf K V D p q K1 V1 D1 K2 V2 D2 :=
  ⟨h.s.kept hb, (hb.block _ (Array.getElem?_eq_some_iff.1 h.topA).1).trans h.topA, (hb.block _ (Array.getElem?_eq_some_iff.1 h.topB).1).trans h.topB⟩
theorem copied_as {n : Nd} {lf : Bool} {K V D : Value} {w : World} (hr : NdIs w w.heap.size K V D n) (hlf : n.leaf = lf) (hsh : n.Short 1000000) (hsm : n.Small) :
    Calls Try.prog 41 #[ndVal lf K V D] w fun e w' => ∃ A1 n1 c1 A2 n2 c2 A3 n3 c3, e = .returned (ndVal lf (.slice A1 n1 c1) (.slice A2 n2 c2) (.slice A3 n3 c3)) ∧ NdNew w' w.heap.size (.slice A1 n1 c1) (.slice A2 n2 c2) (.slice A3 n3 c3) n ∧ Below w.heap.size w w' := by
  subst hlf
  refine (copied_any hr hsh hsm).mono ?_
  rintro e w' ⟨K', V', D', rfl, hn, hb⟩
  obtain ⟨A1, n1, c1, A2, n2, c2, A3, n3, c3, rfl, rfl, rfl⟩ := hn.is.slices
  exact ⟨_, _, _, _, _, _, _, _, _, rfl, hn, hb⟩
theorem Nd.lower_leaf (n : Nd) (k : Nat) : (n.lower k).leaf = n.leaf := by unfold Nd.lower; cases h : n.leaf <;> rfl
theorem Nd.upper_leaf (n : Nd) (k : Nat) : (n.upper k).leaf = n.leaf := by unfold Nd.upper; cases h : n.leaf <;> rfl
theorem Nd.lower_short (n : Nd) (k : Nat) {m : Nat} (h : n.Short m) : (n.lower k).Short m := by
  have h1 := h.1; have h2 := h.2.1; have h3 := h.2.2
  unfold Nd.lower
  split <;> refine ⟨?_, ?_, ?_⟩ <;> simp <;> omega
theorem Nd.upper_short (n : Nd) (k : Nat) {m : Nat} (h : n.Short m) : (n.upper k).Short m := by
  have h1 := h.1; have h2 := h.2.1; have h3 := h.2.2
  unfold Nd.upper
  split <;> refine ⟨?_, ?_, ?_⟩ <;> simp <;> omega
end
set_option maxRecDepth 100000 in
set_option maxHeartbeats 4000000 in
theorem split_leaf {n : Nd} {K V D : Value} {w : World} (hn : NdIs w w.heap.size K V D n) (hsn : n.Snd) (hsh : n.Short 1000000) (hln : n.leaf = true) (most : Nat) (hm : most + 1 = n.keys.length) (hm1 : 1 ≤ most) :
    Calls Try.prog 23 #[ndVal true K V D] w fun e w' => SplitOut n true most w e w' := by
  have hs1 := fun (W : World) (hW : Below w.heap.size w W) => sound_any ((hn.below hW).more hW.size) (Nat.le_refl _) hsh
  have hs2 := fun (W : World) (hW : Below w.heap.size w W) => half_any ((hn.below hW).more hW.size) (Nat.le_refl _) hsn hsh.1 most hm1 (by omega)
  rw [sndB_iff.2 hsn, hln] at hs1
  rw [hln] at hs2
  have hsz := fun k => (hsn.keys k)
  obtain ⟨A1, c1, A2, c2, A3, c3, rfl, rfl, rfl⟩ := hn.form
  obtain ⟨a, ha⟩ : ∃ x, x = n.keys.length := ⟨_, rfl⟩
  obtain ⟨b, hb⟩ : ∃ x, x = n.vals.length := ⟨_, rfl⟩
  obtain ⟨d, hd⟩ : ∃ x, x = n.kids.length := ⟨_, rfl⟩
  have hab : b = a := by rw [ha, hb]; exact (hsn.ofLeaf hln).2
  have ha6 : a ≤ 1000000 := by rw [ha]; exact hsh.1
  rw [← ha, ← hb, ← hd] at hs1 hs2 hn
  rw [← ha] at hm hsz
  rw [← ha, ← hb, ← hd]
  obtain ⟨bk, ok, rfl, hbk⟩ := hn.keys.addr (by omega)
  obtain ⟨-, hac, hcx⟩ := hn.keys.len
  have hdc : b ≤ c2 ∧ d ≤ c3 := ⟨hn.vals.len.2.1, by have hkk := hn.kids; obtain ⟨_, _, e, g, _⟩ := hkk; injection e with _ e1 e2; rw [← e1, ← e2] at g; exact g⟩
  have hst := SpS.start (w0 := w) (lf := true) (K := .slice (some ⟨bk, ok, none⟩) a c1) (V := .slice A2 b c2) (D := .slice A3 d c3)
  obtain ⟨x0, x1, x2, x3⟩ := hst.box
  have hc1 := hs1 _ hst.below
  have HN := Lib.hid hn
  have HSt := Lib.hid hst
  have HS2 := Lib.hid hs2
  have HSn := Lib.hid hsn
  have HSh := Lib.hid hsh
  have HLn := Lib.hid hln
  have HSz := Lib.hid hsz
  have Ha := Lib.hid ha
  have HBk := Lib.hid hbk
  have HNum := Lib.hid (And.intro hm (And.intro hab (And.intro ha6 (And.intro hac (And.intro hcx (And.intro hm1 hdc))))))
  clear hm hab hac hcx hdc hm1
  clear hn hst hs1 hs2 hsn hsh hln ha hb hd hsz hbk
  go_enter Try.func23, Try.ntmps23
  go_wp2_with fail
  refine hc1.mono ?_
  rintro e w1 ⟨rfl, hb1⟩
  have HS1 := Lib.hid (HSt.out.kept hb1)
  clear x0 x1 x2 x3 hc1 hb1 HSt
  obtain ⟨x0, x1, x2, x3⟩ := HS1.out.box
  have hc2 := HS2.out _ HS1.out.below
  obtain ⟨hm, hab, -, hac, hcx, hm1, hdc⟩ := HNum.out
  have ew : IntKind.i64.wrap ((a : Int) - 1) = (most : Int) := by rw [← hm]; push_cast; rw [Int.add_sub_cancel]; exact IntWalk.i64_in _ (by omega)
  have e2 : 2 ≤ a := by omega
  clear HS2 hm hm1 hab hac hcx hdc
  go_wp2_with fail
  refine hc2.mono ?_
  rintro e w2 ⟨h, rfl, hH, hb2⟩
  have HS_2 := Lib.hid (HS1.out.kept hb2)
  have hh1 := hH.lo
  have hh2 := hH.hi
  have HH := Lib.hid hH
  obtain ⟨hm, hab, -, hac, hcx, hm1, hdc⟩ := HNum.out
  have hha : h < a := by omega
  clear x0 x1 x2 x3 hc2 hb2 HS1 hH ew
  obtain ⟨iT, hiT, hT0, hT1, hT2⟩ := info_parts info_row
  have hk1 := cut_h (P := Try.prog) Try.underlying24 hiT hT1 (some ⟨bk, ok, none⟩) a c1 h (by omega) _ rfl
  have hk2 := cut_h (P := Try.prog) Try.underlying24 hiT hT1 A2 b c2 h (by omega) _ rfl
  obtain ⟨B1, hB1, hk3⟩ := cut_l (P := Try.prog) Try.underlying24 hiT hT1 (some ⟨bk, ok, none⟩) a c1 h (by omega) _ rfl
  obtain ⟨B2, hB2, hk4⟩ := cut_l (P := Try.prog) Try.underlying24 hiT hT1 A2 b c2 h (by omega) _ rfl
  have HK1 := Lib.hid hk1
  have HK2 := Lib.hid hk2
  have HK3 := Lib.hid hk3
  have HK4 := Lib.hid hk4
  have HB1 := Lib.hid hB1
  have HB2 := Lib.hid hB2
  clear hm hm1 hab hac hcx hdc
  clear hk1 hk2 hk3 hk4 hiT hT0 hT1 hT2 hB1 hB2
  go_wp2_with fail
  obtain ⟨wd, hwd⟩ : ∃ x, x = w2.drew := ⟨_, rfl⟩
  have HS_wd : Hid (SpS w wd true (.slice (some ⟨bk, ok, none⟩) a c1) (.slice A2 b c2) (.slice A3 d c3)) := Lib.hid (by rw [hwd]; exact HS_2.out.kept (Below.refl _ _).drew)
  have Zwd := Lib.hid (show wd.heap.size = w2.heap.size by rw [hwd]; rfl)
  have S0 : (fun w' => w'.cell? ⟨w.heap.size, 0, none⟩ = some (.bool true) ∧ w'.cell? ⟨w.heap.size, 1, none⟩ = some (.slice (some ⟨bk, ok, none⟩) a c1) ∧ w'.cell? ⟨w.heap.size, 2, none⟩ = some (.slice A2 b c2) ∧ w'.cell? ⟨w.heap.size, 3, none⟩ = some (.slice A3 d c3)) wd := ⟨HS_wd.out.box.c0, HS_wd.out.box.c1, HS_wd.out.box.c2, HS_wd.out.box.c3⟩
  refine wp_region_late (S := fun w' => w'.cell? ⟨w.heap.size, 0, none⟩ = some (.bool true) ∧ w'.cell? ⟨w.heap.size, 1, none⟩ = some (.slice (some ⟨bk, ok, none⟩) a c1) ∧ w'.cell? ⟨w.heap.size, 2, none⟩ = some (.slice A2 b c2) ∧ w'.cell? ⟨w.heap.size, 3, none⟩ = some (.slice A3 d c3)) [10] (by kernel_rfl) (by rw [← hwd]; exact S0) (fun hHeld => ?_)
  rw [← hwd]
  clear hwd
  refine' anyU_take0 (i := 0) (oi := ⟨some 33, .fieldAddr 27 (.tmp 1) 1, _, _, _, none⟩) (v := _) rfl (by kernel_rfl) (fun _ _ _ h => h) (Or.inl ⟨by rfl, ?hy1⟩) (by assumption) ?rest1
  case hy1 => (intro w hSw; go_simp <;> with_reducible rfl)
  case rest1 =>
  go_frame
  refine' anyU_take (i := 1) (oi := ⟨some 34, .load 24 (.tmp 33), _, _, _, none⟩) (v := _) rfl (by kernel_rfl) (fun _ _ _ h => h) (Or.inl ⟨by rfl, ?hy2⟩) (by assumption) ?rest2
  case hy2 => (intro w hSw; obtain ⟨s0, s1, s2, s3⟩ := hSw; go_simp <;> with_reducible rfl)
  case rest2 =>
  go_frame
  refine' anyU_take0 (i := 2) (oi := ⟨some 35, .move (.tmp 7), _, _, _, none⟩) (v := _) rfl (by kernel_rfl) (fun _ _ _ h => h) (Or.inl ⟨by rfl, ?hy3⟩) (by assumption) ?rest3
  case hy3 => (intro w hSw; go_simp <;> with_reducible rfl)
  case rest3 =>
  go_frame
  refine' anyU_take0 (i := 3) (oi := ⟨some 36, .slice 24 (.tmp 34) none (some (.tmp 35)) none, _, _, _, none⟩) (v := .slice (some ⟨bk, ok, none⟩) h c1) rfl (by kernel_rfl) (fun _ _ _ h => h) (Or.inl ⟨by rfl, ?hy4⟩) (by assumption) ?rest4
  case hy4 => (intro w hSw; exact exec_cut (x := .tmp 34) (lo := none) (hi := (some (.tmp 35))) rfl (v := .slice (some ⟨bk, ok, none⟩) a c1) rfl (l := none) rfl (h := some (.int .i64 (h : Int))) rfl (HK1.out _))
  case rest4 =>
  go_frame
  refine' anyU_take0 (i := 4) (oi := ⟨some 37, .fieldAddr 27 (.tmp 1) 2, _, _, _, none⟩) (v := _) rfl (by kernel_rfl) (fun _ _ _ h => h) (Or.inl ⟨by rfl, ?hy5⟩) (by assumption) ?rest5
  case hy5 => (intro w hSw; go_simp <;> with_reducible rfl)
  case rest5 =>
  go_frame
  refine' anyU_take (i := 5) (oi := ⟨some 38, .load 24 (.tmp 37), _, _, _, none⟩) (v := _) rfl (by kernel_rfl) (fun _ _ _ h => h) (Or.inl ⟨by rfl, ?hy6⟩) (by assumption) ?rest6
  case hy6 => (intro w hSw; obtain ⟨s0, s1, s2, s3⟩ := hSw; go_simp <;> with_reducible rfl)
  case rest6 =>
  go_frame
  refine' anyU_take0 (i := 6) (oi := ⟨some 39, .move (.tmp 7), _, _, _, none⟩) (v := _) rfl (by kernel_rfl) (fun _ _ _ h => h) (Or.inl ⟨by rfl, ?hy7⟩) (by assumption) ?rest7
  case hy7 => (intro w hSw; go_simp <;> with_reducible rfl)
  case rest7 =>
  go_frame
  refine' anyU_take0 (i := 7) (oi := ⟨some 40, .slice 24 (.tmp 38) none (some (.tmp 39)) none, _, _, _, none⟩) (v := .slice A2 h c2) rfl (by kernel_rfl) (fun _ _ _ h => h) (Or.inl ⟨by rfl, ?hy8⟩) (by assumption) ?rest8
  case hy8 => (intro w hSw; exact exec_cut (x := .tmp 38) (lo := none) (hi := (some (.tmp 39))) rfl (v := .slice A2 b c2) rfl (l := none) rfl (h := some (.int .i64 (h : Int))) rfl (HK2.out _))
  case rest8 =>
  go_frame
  refine' anyU_take0 (i := 8) (oi := ⟨some 41, .build 27 #[(0, .const (.bool true)), (1, .tmp 36), (2, .tmp 40)], _, _, _, none⟩) (v := _) rfl (by kernel_rfl) (fun _ _ _ h => h) (Or.inl ⟨by rfl, ?hy9⟩) (by assumption) ?rest9
  case hy9 => (intro w hSw; go_simp <;> with_reducible rfl)
  case rest9 =>
  go_frame
  refine anyU_ready (rs := [9]) (by kernel_rfl) (by simp) (AllU.cons (o := ⟨some 8, .alloc 27, _, _, _, none⟩) rfl (fun K hK => ?_) (fun h => absurd h (by decide)) AllU.nil)
  rw [if_pos (by rfl)]
  obtain ⟨we, hu⟩ : ∃ u, u = wd.alloc (.cells #[.bool false, .slice none 0 0, .slice none 0 0, .slice none 0 0] 27) := ⟨_, rfl⟩
  have hb : Below wd.heap.size wd we := by rw [hu]; exact (Below.refl wd.heap.size wd).alloc (Nat.le_refl _) (.cells #[.bool false, .slice none 0 0, .slice none 0 0, .slice none 0 0] 27)
  have hpp : we.heap[wd.heap.size]? = some (.cells #[.bool false, .slice none 0 0, .slice none 0 0, .slice none 0 0] 27 (0, 0)) := by rw [hu]; exact heap_alloc_last wd _
  have HS_we := Lib.hid (HS_wd.out.kept hb)
  have Pp := Lib.hid hpp
  have Sx := Lib.hid (And.intro HS_we.out.box.c0 (And.intro HS_we.out.box.c1 (And.intro HS_we.out.box.c2 HS_we.out.box.c3)))
  have NB := Lib.hid (show w.heap.size + 1 + 1 < wd.heap.size from HS_wd.out.lt)
  go_simp
  rw [← hu]
  refine hK.out _ _ (fun _ => Sx.out) ?_
  clear hK K hb hpp hu
  try go_frame
  obtain ⟨y0, y1, y2, y3, f0, f1, f2, f3⟩ := out_cells Pp.out
  refine anyU_ready (rs := [10]) (by kernel_rfl) (by simp) (AllU.cons (o := ⟨none, .store 27 (.tmp 8) (.tmp 41), _, _, _, none⟩) rfl (fun K hK => ?_) (fun _ => by kernel_rfl) AllU.nil)
  rw [if_pos (by rfl)]
  go_simp
  refine hK.out _ _ (fun h => absurd h (by decide)) ?_
  clear hK K
  try go_frame
  refine anyU_done (by kernel_rfl) ?_ _
  obtain ⟨w3, hW⟩ : ∃ X, X = store4 we wd.heap.size true (.slice (some ⟨bk, ok, none⟩) h c1) (.slice A2 h c2) (.slice none 0 0) := ⟨_, rfl⟩
  have hb := store4_below (w := we) (lf := true) (K := .slice (some ⟨bk, ok, none⟩) h c1) (V := .slice A2 h c2) (D := .slice none 0 0) (Nat.le_refl wd.heap.size)
  have htp := store4_top (lf := true) (K := .slice (some ⟨bk, ok, none⟩) h c1) (V := .slice A2 h c2) (D := .slice none 0 0) Pp.out
  rw [← hW] at hb htp
  have hss : SpS w w3 true (.slice (some ⟨bk, ok, none⟩) a c1) (.slice A2 b c2) (.slice A3 d c3) := by rw [hW]; exact HS_we.out.set NB.out
  obtain ⟨p, hp⟩ : ∃ p, p = wd.heap.size := ⟨_, rfl⟩
  have HP := Lib.hid (show w.heap.size + 1 + 1 < p by rw [hp]; exact NB.out)
  rw [← hp] at htp hW ⊢
  have HS_3 : Hid (SpA w w3 true (.slice (some ⟨bk, ok, none⟩) a c1) (.slice A2 b c2) (.slice A3 d c3) p (.slice (some ⟨bk, ok, none⟩) h c1) (.slice A2 h c2) (.slice none 0 0)) := Lib.hid ⟨hss, htp⟩
  clear hss hp
  unfold store4 at hW
  rw [← hW]
  clear hW hb htp y0 y1 y2 y3 f0 f1 f2 f3 Pp Sx HS_we HS_wd hHeld S0
  go_wp2_with fail
  obtain ⟨wf, hwf⟩ : ∃ x, x = w3.drew := ⟨_, rfl⟩
  have HS_wf : Hid (SpA w wf true (.slice (some ⟨bk, ok, none⟩) a c1) (.slice A2 b c2) (.slice A3 d c3) p (.slice (some ⟨bk, ok, none⟩) h c1) (.slice A2 h c2) (.slice none 0 0)) := Lib.hid (by rw [hwf]; exact HS_3.out.kept (Below.refl _ _).drew)
  have Zwf := Lib.hid (show wf.heap.size = w3.heap.size by rw [hwf]; rfl)
  have S0 : (fun w' => w'.cell? ⟨w.heap.size, 0, none⟩ = some (.bool true) ∧ w'.cell? ⟨w.heap.size, 1, none⟩ = some (.slice (some ⟨bk, ok, none⟩) a c1) ∧ w'.cell? ⟨w.heap.size, 2, none⟩ = some (.slice A2 b c2) ∧ w'.cell? ⟨w.heap.size, 3, none⟩ = some (.slice A3 d c3)) wf := ⟨HS_wf.out.s.box.c0, HS_wf.out.s.box.c1, HS_wf.out.s.box.c2, HS_wf.out.s.box.c3⟩
  have LPQ := Lib.hid (show p < wf.heap.size from (Array.getElem?_eq_some_iff.1 HS_wf.out.topA).1)
  refine wp_region_late (S := fun w' => w'.cell? ⟨w.heap.size, 0, none⟩ = some (.bool true) ∧ w'.cell? ⟨w.heap.size, 1, none⟩ = some (.slice (some ⟨bk, ok, none⟩) a c1) ∧ w'.cell? ⟨w.heap.size, 2, none⟩ = some (.slice A2 b c2) ∧ w'.cell? ⟨w.heap.size, 3, none⟩ = some (.slice A3 d c3)) [10] (by kernel_rfl) (by rw [← hwf]; exact S0) (fun hHeld => ?_)
  rw [← hwf]
  clear hwf
  refine' anyU_take0 (i := 0) (oi := ⟨some 42, .fieldAddr 27 (.tmp 1) 1, _, _, _, none⟩) (v := _) rfl (by kernel_rfl) (fun _ _ _ h => h) (Or.inl ⟨by rfl, ?hy10⟩) (by assumption) ?rest10
  case hy10 => (intro w hSw; go_simp <;> with_reducible rfl)
  case rest10 =>
  go_frame
  refine' anyU_take (i := 1) (oi := ⟨some 43, .load 24 (.tmp 42), _, _, _, none⟩) (v := _) rfl (by kernel_rfl) (fun _ _ _ h => h) (Or.inl ⟨by rfl, ?hy11⟩) (by assumption) ?rest11
  case hy11 => (intro w hSw; obtain ⟨s0, s1, s2, s3⟩ := hSw; go_simp <;> with_reducible rfl)
  case rest11 =>
  go_frame
  refine' anyU_take0 (i := 2) (oi := ⟨some 44, .move (.tmp 7), _, _, _, none⟩) (v := _) rfl (by kernel_rfl) (fun _ _ _ h => h) (Or.inl ⟨by rfl, ?hy12⟩) (by assumption) ?rest12
  case hy12 => (intro w hSw; go_simp <;> with_reducible rfl)
  case rest12 =>
  go_frame
  refine' anyU_take0 (i := 3) (oi := ⟨some 45, .slice 24 (.tmp 43) (some (.tmp 44)) none none, _, _, _, none⟩) (v := .slice B1 (a - h) (c1 - h)) rfl (by kernel_rfl) (fun _ _ _ h => h) (Or.inl ⟨by rfl, ?hy13⟩) (by assumption) ?rest13
  case hy13 => (intro w hSw; exact exec_cut (x := .tmp 43) (lo := (some (.tmp 44))) (hi := none) rfl (v := .slice (some ⟨bk, ok, none⟩) a c1) rfl (l := some (.int .i64 (h : Int))) rfl (h := none) rfl (HK3.out _))
  case rest13 =>
  go_frame
  refine' anyU_take0 (i := 4) (oi := ⟨some 46, .fieldAddr 27 (.tmp 1) 2, _, _, _, none⟩) (v := _) rfl (by kernel_rfl) (fun _ _ _ h => h) (Or.inl ⟨by rfl, ?hy14⟩) (by assumption) ?rest14
  case hy14 => (intro w hSw; go_simp <;> with_reducible rfl)
  case rest14 =>
  go_frame
  refine' anyU_take (i := 5) (oi := ⟨some 47, .load 24 (.tmp 46), _, _, _, none⟩) (v := _) rfl (by kernel_rfl) (fun _ _ _ h => h) (Or.inl ⟨by rfl, ?hy15⟩) (by assumption) ?rest15
  case hy15 => (intro w hSw; obtain ⟨s0, s1, s2, s3⟩ := hSw; go_simp <;> with_reducible rfl)
  case rest15 =>
  go_frame
  refine' anyU_take0 (i := 6) (oi := ⟨some 48, .move (.tmp 7), _, _, _, none⟩) (v := _) rfl (by kernel_rfl) (fun _ _ _ h => h) (Or.inl ⟨by rfl, ?hy16⟩) (by assumption) ?rest16
  case hy16 => (intro w hSw; go_simp <;> with_reducible rfl)
  case rest16 =>
  go_frame
  refine' anyU_take0 (i := 7) (oi := ⟨some 49, .slice 24 (.tmp 47) (some (.tmp 48)) none none, _, _, _, none⟩) (v := .slice B2 (b - h) (c2 - h)) rfl (by kernel_rfl) (fun _ _ _ h => h) (Or.inl ⟨by rfl, ?hy17⟩) (by assumption) ?rest17
  case hy17 => (intro w hSw; exact exec_cut (x := .tmp 47) (lo := (some (.tmp 48))) (hi := none) rfl (v := .slice A2 b c2) rfl (l := some (.int .i64 (h : Int))) rfl (h := none) rfl (HK4.out _))
  case rest17 =>
  go_frame
  refine' anyU_take0 (i := 8) (oi := ⟨some 50, .build 27 #[(0, .const (.bool true)), (1, .tmp 45), (2, .tmp 49)], _, _, _, none⟩) (v := _) rfl (by kernel_rfl) (fun _ _ _ h => h) (Or.inl ⟨by rfl, ?hy18⟩) (by assumption) ?rest18
  case hy18 => (intro w hSw; go_simp <;> with_reducible rfl)
  case rest18 =>
  go_frame
  refine anyU_ready (rs := [9]) (by kernel_rfl) (by simp) (AllU.cons (o := ⟨some 9, .alloc 27, _, _, _, none⟩) rfl (fun K hK => ?_) (fun h => absurd h (by decide)) AllU.nil)
  rw [if_pos (by rfl)]
  obtain ⟨wg, hu⟩ : ∃ u, u = wf.alloc (.cells #[.bool false, .slice none 0 0, .slice none 0 0, .slice none 0 0] 27) := ⟨_, rfl⟩
  have hb : Below wf.heap.size wf wg := by rw [hu]; exact (Below.refl wf.heap.size wf).alloc (Nat.le_refl _) (.cells #[.bool false, .slice none 0 0, .slice none 0 0, .slice none 0 0] 27)
  have hpp : wg.heap[wf.heap.size]? = some (.cells #[.bool false, .slice none 0 0, .slice none 0 0, .slice none 0 0] 27 (0, 0)) := by rw [hu]; exact heap_alloc_last wf _
  have HS_wg := Lib.hid (HS_wf.out.kept hb)
  have Pp := Lib.hid hpp
  have Sx := Lib.hid (And.intro HS_wg.out.s.box.c0 (And.intro HS_wg.out.s.box.c1 (And.intro HS_wg.out.s.box.c2 HS_wg.out.s.box.c3)))
  have NB := Lib.hid (show w.heap.size + 1 + 1 < wf.heap.size from HS_wf.out.s.lt)
  go_simp
  rw [← hu]
  refine hK.out _ _ (fun _ => Sx.out) ?_
  clear hK K hb hpp hu
  try go_frame
  obtain ⟨y0, y1, y2, y3, f0, f1, f2, f3⟩ := out_cells Pp.out
  refine anyU_ready (rs := [10]) (by kernel_rfl) (by simp) (AllU.cons (o := ⟨none, .store 27 (.tmp 9) (.tmp 50), _, _, _, none⟩) rfl (fun K hK => ?_) (fun _ => by kernel_rfl) AllU.nil)
  rw [if_pos (by rfl)]
  go_simp
  refine hK.out _ _ (fun h => absurd h (by decide)) ?_
  clear hK K
  try go_frame
  refine anyU_done (by kernel_rfl) ?_ _
  obtain ⟨w4, hW⟩ : ∃ X, X = store4 wg wf.heap.size true (.slice B1 (a - h) (c1 - h)) (.slice B2 (b - h) (c2 - h)) (.slice none 0 0) := ⟨_, rfl⟩
  have hb := store4_below (w := wg) (lf := true) (K := .slice B1 (a - h) (c1 - h)) (V := .slice B2 (b - h) (c2 - h)) (D := .slice none 0 0) (Nat.le_refl wf.heap.size)
  have htp := store4_top (lf := true) (K := .slice B1 (a - h) (c1 - h)) (V := .slice B2 (b - h) (c2 - h)) (D := .slice none 0 0) Pp.out
  rw [← hW] at hb htp
  have hss : SpS w w4 true (.slice (some ⟨bk, ok, none⟩) a c1) (.slice A2 b c2) (.slice A3 d c3) := by rw [hW]; exact HS_wg.out.s.set NB.out
  have hta := (hb.block _ LPQ.out).trans HS_wg.out.topA
  obtain ⟨q, hq⟩ : ∃ q, q = wf.heap.size := ⟨_, rfl⟩
  have HPQ := Lib.hid (show w.heap.size + 1 + 1 < p ∧ w.heap.size + 1 + 1 < q from ⟨HP.out, by rw [hq]; exact NB.out⟩)
  rw [← hq] at htp hW ⊢
  have HS_4 : Hid (SpT w w4 true (.slice (some ⟨bk, ok, none⟩) a c1) (.slice A2 b c2) (.slice A3 d c3) p q (.slice (some ⟨bk, ok, none⟩) h c1) (.slice A2 h c2) (.slice none 0 0) (.slice B1 (a - h) (c1 - h)) (.slice B2 (b - h) (c2 - h)) (.slice none 0 0)) := Lib.hid ⟨hss, hta, htp⟩
  clear hss hq hta LPQ
  unfold store4 at hW
  rw [← hW]
  clear hW hb htp y0 y1 y2 y3 f0 f1 f2 f3 Pp Sx HS_wg HS_wf hHeld S0
  go_wp2_with fail
  obtain ⟨Ak, m, cm, hkc, hkr, hkm, -, -⟩ := HN.out.keys.cell hha
  have hlow : NdIs w w.heap.size (.slice (some ⟨bk, ok, none⟩) h c1) (.slice A2 h c2) (.slice none 0 0) (n.lower h) := HN.out.lowerLeaf HLn.out (by omega) (by obtain ⟨-, hab, -⟩ := HNum.out; omega)
  have hupp : NdIs w w.heap.size (.slice B1 (a - h) (c1 - h)) (.slice B2 (b - h) (c2 - h)) (.slice none 0 0) (n.upper h) := by
    rw [HB1.out, HB2.out]
    exact HN.out.upperLeaf HLn.out (by omega) (by obtain ⟨-, hab, -⟩ := HNum.out; omega)
  have hgo : h + 0 < n.keys.length := by obtain ⟨hm, -⟩ := HNum.out; rw [← Ha.out]; omega
  have hsl := HSn.out.lower hh1 (by rw [← Ha.out]; exact hha)
  have hsu := HSn.out.upper (k := h) (by rw [HLn.out]; exact hgo)
  have hkl : (n.keys.getD h []).length ≤ 24 := (HSz.out h hha).1.len.2
  obtain ⟨key, hkey⟩ : ∃ x, x = n.keys.getD h [] := ⟨_, rfl⟩
  rw [← hkey] at hkr hkl
  have HKey := Lib.hid hkey
  have HLo := Lib.hid hlow
  have HUp := Lib.hid hupp
  have HKc := Lib.hid hkc
  have HKr := Lib.hid hkr
  have HKl := Lib.hid hkl
  have HSl := Lib.hid hsl
  have HSu := Lib.hid hsu
  have CL := Lib.hid (show (n.lower h).leaf = true from (n.lower_leaf h).trans HLn.out)
  have CU := Lib.hid (show (n.upper h).leaf = true from (n.upper_leaf h).trans HLn.out)
  clear hlow hupp hkc hkr hkl hsl hsu hgo hkey hkm
  have T8 : ∀ {W : World}, SpT w W true (.slice (some ⟨bk, ok, none⟩) a c1) (.slice A2 b c2) (.slice A3 d c3) p q (.slice (some ⟨bk, ok, none⟩) h c1) (.slice A2 h c2) (.slice none 0 0) (.slice B1 (a - h) (c1 - h)) (.slice B2 (b - h) (c2 - h)) (.slice none 0 0) → (fun w' => w'.cell? ⟨w.heap.size, 1, none⟩ = some (.slice (some ⟨bk, ok, none⟩) a c1) ∧ w'.cell? ⟨p, 0, none⟩ = some (.bool true) ∧ w'.cell? ⟨p, 1, none⟩ = some (.slice (some ⟨bk, ok, none⟩) h c1) ∧ w'.cell? ⟨p, 2, none⟩ = some (.slice A2 h c2) ∧ w'.cell? ⟨p, 3, none⟩ = some (.slice none 0 0) ∧ w'.cell? ⟨q, 0, none⟩ = some (.bool true) ∧ w'.cell? ⟨q, 1, none⟩ = some (.slice B1 (a - h) (c1 - h)) ∧ w'.cell? ⟨q, 2, none⟩ = some (.slice B2 (b - h) (c2 - h)) ∧ w'.cell? ⟨q, 3, none⟩ = some (.slice none 0 0) ∧ w'.cell? ⟨bk, ok + h, none⟩ = some (.slice Ak m cm)) W := fun {W} hT => by
    obtain ⟨a0, a1, a2, a3⟩ := box_of_top hT.topA
    obtain ⟨b0, b1, b2, b3⟩ := box_of_top hT.topB
    exact ⟨hT.s.box.c1, a0, a1, a2, a3, b0, b1, b2, b3, (hT.s.below.cell HBk.out).trans HKc.out⟩
  have ST9 : ∀ {W : World} {N : Nat} {x y z : Value}, (fun w' => w'.cell? ⟨w.heap.size, 1, none⟩ = some (.slice (some ⟨bk, ok, none⟩) a c1) ∧ w'.cell? ⟨p, 0, none⟩ = some (.bool true) ∧ w'.cell? ⟨p, 1, none⟩ = some (.slice (some ⟨bk, ok, none⟩) h c1) ∧ w'.cell? ⟨p, 2, none⟩ = some (.slice A2 h c2) ∧ w'.cell? ⟨p, 3, none⟩ = some (.slice none 0 0) ∧ w'.cell? ⟨q, 0, none⟩ = some (.bool true) ∧ w'.cell? ⟨q, 1, none⟩ = some (.slice B1 (a - h) (c1 - h)) ∧ w'.cell? ⟨q, 2, none⟩ = some (.slice B2 (b - h) (c2 - h)) ∧ w'.cell? ⟨q, 3, none⟩ = some (.slice none 0 0) ∧ w'.cell? ⟨bk, ok + h, none⟩ = some (.slice Ak m cm)) W → w.heap.size < N → N ≠ p ∧ N ≠ q → (fun w' => w'.cell? ⟨w.heap.size, 1, none⟩ = some (.slice (some ⟨bk, ok, none⟩) a c1) ∧ w'.cell? ⟨p, 0, none⟩ = some (.bool true) ∧ w'.cell? ⟨p, 1, none⟩ = some (.slice (some ⟨bk, ok, none⟩) h c1) ∧ w'.cell? ⟨p, 2, none⟩ = some (.slice A2 h c2) ∧ w'.cell? ⟨p, 3, none⟩ = some (.slice none 0 0) ∧ w'.cell? ⟨q, 0, none⟩ = some (.bool true) ∧ w'.cell? ⟨q, 1, none⟩ = some (.slice B1 (a - h) (c1 - h)) ∧ w'.cell? ⟨q, 2, none⟩ = some (.slice B2 (b - h) (c2 - h)) ∧ w'.cell? ⟨q, 3, none⟩ = some (.slice none 0 0) ∧ w'.cell? ⟨bk, ok + h, none⟩ = some (.slice Ak m cm)) (store4 W N true x y z) := fun {W N x y z} hS hN hNp => by
    have hc : ∀ a : Addr, a.block ≠ N → (store4 W N true x y z).cell? a = W.cell? a := fun a ha => World.cell?_of_block (w := W) (a := a) (store4_other ha)
    obtain ⟨s0, s1, s2, s3, s4, s5, s6, s7, s8, s9⟩ := hS
    have hbk := HBk.out
    exact ⟨(hc _ (show w.heap.size ≠ N by omega)).trans s0, (hc _ (Ne.symm hNp.1)).trans s1, (hc _ (Ne.symm hNp.1)).trans s2, (hc _ (Ne.symm hNp.1)).trans s3, (hc _ (Ne.symm hNp.1)).trans s4, (hc _ (Ne.symm hNp.2)).trans s5, (hc _ (Ne.symm hNp.2)).trans s6, (hc _ (Ne.symm hNp.2)).trans s7, (hc _ (Ne.symm hNp.2)).trans s8, (hc _ (show bk ≠ N by omega)).trans s9⟩
  obtain ⟨wh, hwh⟩ : ∃ x, x = w4.drew := ⟨_, rfl⟩
  have HS_wh : Hid (SpT w wh true (.slice (some ⟨bk, ok, none⟩) a c1) (.slice A2 b c2) (.slice A3 d c3) p q (.slice (some ⟨bk, ok, none⟩) h c1) (.slice A2 h c2) (.slice none 0 0) (.slice B1 (a - h) (c1 - h)) (.slice B2 (b - h) (c2 - h)) (.slice none 0 0)) := Lib.hid (by rw [hwh]; exact HS_4.out.kept (Below.refl _ _).drew)
  have Zwh := Lib.hid (show wh.heap.size = w4.heap.size by rw [hwh]; rfl)
  have S0 : (fun w' => w'.cell? ⟨w.heap.size, 1, none⟩ = some (.slice (some ⟨bk, ok, none⟩) a c1) ∧ w'.cell? ⟨p, 0, none⟩ = some (.bool true) ∧ w'.cell? ⟨p, 1, none⟩ = some (.slice (some ⟨bk, ok, none⟩) h c1) ∧ w'.cell? ⟨p, 2, none⟩ = some (.slice A2 h c2) ∧ w'.cell? ⟨p, 3, none⟩ = some (.slice none 0 0) ∧ w'.cell? ⟨q, 0, none⟩ = some (.bool true) ∧ w'.cell? ⟨q, 1, none⟩ = some (.slice B1 (a - h) (c1 - h)) ∧ w'.cell? ⟨q, 2, none⟩ = some (.slice B2 (b - h) (c2 - h)) ∧ w'.cell? ⟨q, 3, none⟩ = some (.slice none 0 0) ∧ w'.cell? ⟨bk, ok + h, none⟩ = some (.slice Ak m cm)) wh := T8 HS_wh.out
  obtain ⟨base, hbase⟩ : ∃ x, x = wh.heap.size := ⟨_, rfl⟩
  have HT0 := Lib.hid HS_wh.out
  have BL0 := Lib.hid (Nat.le_of_eq hbase)
  have BN := Lib.hid (show w.heap.size + 1 + 1 < base by rw [hbase]; exact HS_wh.out.s.lt)
  clear hbase HS_4 HS_wh HS_2 Zwh Zwf Zwd HK1 HK2 HK3 HK4
  refine wp_region_late (S := fun w' => w'.cell? ⟨w.heap.size, 1, none⟩ = some (.slice (some ⟨bk, ok, none⟩) a c1) ∧ w'.cell? ⟨p, 0, none⟩ = some (.bool true) ∧ w'.cell? ⟨p, 1, none⟩ = some (.slice (some ⟨bk, ok, none⟩) h c1) ∧ w'.cell? ⟨p, 2, none⟩ = some (.slice A2 h c2) ∧ w'.cell? ⟨p, 3, none⟩ = some (.slice none 0 0) ∧ w'.cell? ⟨q, 0, none⟩ = some (.bool true) ∧ w'.cell? ⟨q, 1, none⟩ = some (.slice B1 (a - h) (c1 - h)) ∧ w'.cell? ⟨q, 2, none⟩ = some (.slice B2 (b - h) (c2 - h)) ∧ w'.cell? ⟨q, 3, none⟩ = some (.slice none 0 0) ∧ w'.cell? ⟨bk, ok + h, none⟩ = some (.slice Ak m cm)) [] (by kernel_rfl) (by rw [← hwh]; exact S0) (fun hHeld => ?_)
  rw [← hwh]
  clear hwh
  refine' anyU_take (i := 0) (oi := ⟨some 51, .load 27 (.tmp 8), _, _, _, none⟩) (v := _) rfl (by kernel_rfl) (fun _ _ _ h => h) (Or.inl ⟨by rfl, ?hy19⟩) (by assumption) ?rest19
  case hy19 => (intro w hSw; obtain ⟨s0, s1, s2, s3, s4, s5, s6, s7, s8, s9⟩ := hSw; go_simp <;> with_reducible rfl)
  case rest19 =>
  go_frame
  refine' anyU_take0 (i := 2) (oi := ⟨some 53, .fieldAddr 27 (.tmp 1) 1, _, _, _, none⟩) (v := _) rfl (by kernel_rfl) (fun _ _ _ h => h) (Or.inl ⟨by rfl, ?hy20⟩) (by assumption) ?rest20
  case hy20 => (intro w hSw; go_simp <;> with_reducible rfl)
  case rest20 =>
  go_frame
  refine' anyU_take (i := 3) (oi := ⟨some 54, .load 24 (.tmp 53), _, _, _, none⟩) (v := _) rfl (by kernel_rfl) (fun _ _ _ h => h) (Or.inl ⟨by rfl, ?hy21⟩) (by assumption) ?rest21
  case hy21 => (intro w hSw; obtain ⟨s0, s1, s2, s3, s4, s5, s6, s7, s8, s9⟩ := hSw; go_simp <;> with_reducible rfl)
  case rest21 =>
  go_frame
  refine' anyU_take0 (i := 4) (oi := ⟨some 55, .move (.tmp 7), _, _, _, none⟩) (v := _) rfl (by kernel_rfl) (fun _ _ _ h => h) (Or.inl ⟨by rfl, ?hy22⟩) (by assumption) ?rest22
  case hy22 => (intro w hSw; go_simp <;> with_reducible rfl)
  case rest22 =>
  go_frame
  refine' anyU_take0 (i := 5) (oi := ⟨some 56, .indexAddr 24 (.tmp 54) (.tmp 55), _, _, _, none⟩) (v := _) rfl (by kernel_rfl) (fun _ _ _ h => h) (Or.inl ⟨by rfl, ?hy23⟩) (by assumption) ?rest23
  case hy23 => (intro w hSw; go_simp <;> with_reducible rfl)
  case rest23 =>
  go_frame
  refine' anyU_take (i := 6) (oi := ⟨some 57, .load 22 (.tmp 56), _, _, _, none⟩) (v := _) rfl (by kernel_rfl) (fun _ _ _ h => h) (Or.inl ⟨by rfl, ?hy24⟩) (by assumption) ?rest24
  case hy24 => (intro w hSw; obtain ⟨s0, s1, s2, s3, s4, s5, s6, s7, s8, s9⟩ := hSw; go_simp <;> with_reducible rfl)
  case rest24 =>
  go_frame
  refine' anyU_take (i := 9) (oi := ⟨some 60, .load 27 (.tmp 9), _, _, _, none⟩) (v := _) rfl (by kernel_rfl) (fun _ _ _ h => h) (Or.inl ⟨by rfl, ?hy25⟩) (by assumption) ?rest25
  case hy25 => (intro w hSw; obtain ⟨s0, s1, s2, s3, s4, s5, s6, s7, s8, s9⟩ := hSw; go_simp <;> with_reducible rfl)
  case rest25 =>
  go_frame
  refine anyU_ready (rs := [1, 7]) (by kernel_rfl) (by simp) (AllU.cons (o := ⟨some 52, .call { callee := .value (.func 41), args := #[.tmp 51], argTypes := #[27] }, _, _, _, none⟩) rfl (fun K hK => ?_) (fun h => absurd h (by decide)) (AllU.cons (o := ⟨some 58, .buildSlice 24 1 #[(0, .tmp 57)], _, _, _, none⟩) rfl (fun K hK => ?_) (fun h => absurd h (by decide)) AllU.nil))
  · rw [if_pos (by rfl)]
    go_simp
    refine (copied_as ((HLo.out.below HT0.out.s.below).more HT0.out.s.below.size) CL.out (n.lower_short h HSh.out) HSl.out.small).mono ?_
    rintro e v1 ⟨X1, i1, j1, X2, i2, j2, X3, i3, j3, rfl, hn, hb⟩
    have HT1 := Lib.hid (HT0.out.kept hb)
    have BL1 := Lib.hid (Nat.le_trans BL0.out hb.size)
    have FA1 := Lib.hid (hn.weaken BL0.out)
    dsimp only
    have Sx1 := Lib.hid (T8 HT1.out)
    refine hK.out _ _ (fun _ => Sx1.out) ?_
    clear hK K  hn hb HT0 BL0
    try go_frame
    refine anyU_ready (rs := [7]) (by kernel_rfl) (by simp) (AllU.cons (o := ⟨some 58, .buildSlice 24 1 #[(0, .tmp 57)], _, _, _, none⟩) rfl (fun K hK => ?_) (fun h => absurd h (by decide)) AllU.nil)
    rw [if_pos (by rfl)]
    obtain ⟨v2, hu⟩ : ∃ u, u = v1.alloc (.cells #[.slice Ak m cm] 22) := ⟨_, rfl⟩
    have hb : Below v1.heap.size v1 v2 := by rw [hu]; exact (Below.refl v1.heap.size v1).alloc (Nat.le_refl _) (.cells #[.slice Ak m cm] 22)
    have hmy : RdAll v2 v2.heap.size (.slice (some ⟨v1.heap.size, 0, none⟩) 1 1) [key] := by rw [hu]; simpa using RdAll.lit1 v1 22 _ key ((HKr.out.below HT1.out.s.below).more HT1.out.s.below.size)
    have HT2 := Lib.hid (HT1.out.kept hb)
    have BL2 := Lib.hid (Nat.le_trans BL1.out hb.size)
    have FA2 := Lib.hid (FA1.out.kept hb)
    have My2 := Lib.hid hmy
    go_simp
    rw [← hu]
    have Sx2 := Lib.hid (T8 HT2.out)
    refine hK.out _ _ (fun _ => Sx2.out) ?_
    clear hK K Sx1 hu hb hmy HT1 BL1 FA1
    try go_frame
    refine anyU_ready (rs := [8]) (by kernel_rfl) (by simp) (AllU.cons (o := ⟨some 59, .call { callee := .value (.func 43), args := #[.tmp 58], argTypes := #[24] }, _, _, _, none⟩) rfl (fun K hK => ?_) (fun h => absurd h (by decide)) AllU.nil)
    rw [if_pos (by rfl)]
    go_simp
    refine (bytes_any _ 1 1 [key] _ _ My2.out (Nat.le_refl _) (by have := HKl.out; simp; omega)).mono ?_
    rintro e v3 ⟨kv, rfl, hm, hb⟩
    rw [show [key].flatten = key by simp] at hm
    obtain ⟨Av, cv, rfl⟩ := hm.form
    have HT3 := Lib.hid (HT2.out.kept hb)
    have BL3 := Lib.hid (Nat.le_trans BL2.out hb.size)
    have FA3 := Lib.hid (FA2.out.kept hb)
    have My3 := Lib.hid ((My2.out.below hb).more hb.size)
    have Kv3 := Lib.hid (hm.weaken BL2.out)
    dsimp only
    have Sx3 := Lib.hid (T8 HT3.out)
    refine hK.out _ _ (fun _ => Sx3.out) ?_
    clear hK K Sx2 hm hb HT2 BL2 FA2 My2
    try go_frame
    refine anyU_ready (rs := [10]) (by kernel_rfl) (by simp) (AllU.cons (o := ⟨some 61, .call { callee := .value (.func 41), args := #[.tmp 60], argTypes := #[27] }, _, _, _, none⟩) rfl (fun K hK => ?_) (fun h => absurd h (by decide)) AllU.nil)
    rw [if_pos (by rfl)]
    go_simp
    refine (copied_as ((HUp.out.below HT3.out.s.below).more HT3.out.s.below.size) CU.out (n.upper_short h HSh.out) HSu.out.small).mono ?_
    rintro e v4 ⟨Y1, k1, l1, Y2, k2, l2, Y3, k3, l3, rfl, hn, hb⟩
    have HT4 := Lib.hid (HT3.out.kept hb)
    have BL4 := Lib.hid (Nat.le_trans BL3.out hb.size)
    have FA4 := Lib.hid (FA3.out.kept hb)
    have Kv4 := Lib.hid (Kv3.out.frK (B0 := 0) (Fr.below (hb)) (fun _ _ e => by cases e))
    have FB4 := Lib.hid (hn.weaken BL3.out)
    dsimp only
    have Sx4 := Lib.hid (T8 HT4.out)
    refine hK.out _ _ (fun _ => Sx4.out) ?_
    clear hK K Sx3 hn hb HT3 BL3 FA3 Kv3
    try go_frame
    refine anyU_ready (rs := [11]) (by kernel_rfl) (by simp) (AllU.cons (o := ⟨none, .store 27 (.tmp 2) (.tmp 52), _, _, _, none⟩) rfl (fun K hK => ?_) (fun h => absurd h (by decide)) AllU.nil)
    rw [if_pos (by rfl)]
    obtain ⟨y0, y1, y2, y3, f0, f1, f2, f3⟩ := out_cells HT4.out.s.outA
    go_simp
    obtain ⟨Wa, hWa⟩ : ∃ X, X = store4 v4 (w.heap.size + 1) true (.slice X1 i1 j1) (.slice X2 i2 j2) (.slice X3 i3 j3) := ⟨_, rfl⟩
    have hta := store4_top (lf := true) (K := .slice X1 i1 j1) (V := .slice X2 i2 j2) (D := .slice X3 i3 j3) HT4.out.s.outA
    have htb := (store4_other (w := v4) (N := w.heap.size + 1) (lf := true) (K := .slice X1 i1 j1) (V := .slice X2 i2 j2) (D := .slice X3 i3 j3) (show w.heap.size + 1 + 1 ≠ w.heap.size + 1 by omega)).trans HT4.out.s.outB
    have hbe := HT4.out.s.below.trans (store4_below (w := v4) (lf := true) (K := .slice X1 i1 j1) (V := .slice X2 i2 j2) (D := .slice X3 i3 j3) (show w.heap.size ≤ w.heap.size + 1 by omega))
    have hfa := FA4.out.store4 (lf := true) (K := .slice X1 i1 j1) (V := .slice X2 i2 j2) (D := .slice X3 i3 j3) (N := w.heap.size + 1) (by have := BN.out; omega)
    have hfb := FB4.out.store4 (lf := true) (K := .slice X1 i1 j1) (V := .slice X2 i2 j2) (D := .slice X3 i3 j3) (N := w.heap.size + 1) (by have := BN.out; omega)
    have hkv := Kv4.out.frK (B0 := 0) (g := none) (w' := store4 v4 (w.heap.size + 1) true (.slice X1 i1 j1) (.slice X2 i2 j2) (.slice X3 i3 j3)) ⟨Nat.le_of_eq store4_size.symm, fun k _ h2 _ => store4_other (by have := BN.out; omega)⟩ (fun _ _ e => by cases e)
    rw [← hWa] at hta htb hbe hfa hfb hkv
    have hsy : (fun w' => w'.cell? ⟨w.heap.size, 1, none⟩ = some (.slice (some ⟨bk, ok, none⟩) a c1) ∧ w'.cell? ⟨p, 0, none⟩ = some (.bool true) ∧ w'.cell? ⟨p, 1, none⟩ = some (.slice (some ⟨bk, ok, none⟩) h c1) ∧ w'.cell? ⟨p, 2, none⟩ = some (.slice A2 h c2) ∧ w'.cell? ⟨p, 3, none⟩ = some (.slice none 0 0) ∧ w'.cell? ⟨q, 0, none⟩ = some (.bool true) ∧ w'.cell? ⟨q, 1, none⟩ = some (.slice B1 (a - h) (c1 - h)) ∧ w'.cell? ⟨q, 2, none⟩ = some (.slice B2 (b - h) (c2 - h)) ∧ w'.cell? ⟨q, 3, none⟩ = some (.slice none 0 0) ∧ w'.cell? ⟨bk, ok + h, none⟩ = some (.slice Ak m cm)) Wa := by
      rw [hWa]
      exact ST9 (T8 HT4.out) (by omega) (by have := BN.out; have := HPQ.out; omega)
    have SyA := Lib.hid hsy
    unfold store4 at hWa
    rw [← hWa]
    refine hK.out _ _ (fun _ => SyA.out) ?_
    clear hK K hsy
    try go_frame
    have HTa := Lib.hid hta
    have HTb := Lib.hid htb
    have HBe := Lib.hid hbe
    have HFa := Lib.hid hfa
    have HFb := Lib.hid hfb
    have HKv := Lib.hid hkv
    clear hWa hta htb hbe hfa hfb hkv y0 y1 y2 y3 f0 f1 f2 f3 FA4 FB4 Kv4 HT4
    refine anyU_ready (rs := [12]) (by kernel_rfl) (by simp) (AllU.cons (o := ⟨some 3, .assign (.tmp 59), _, _, _, none⟩) rfl (fun K hK => ?_) (fun h => absurd h (by decide)) AllU.nil)
    rw [if_pos (by rfl)]
    go_simp
    refine hK.out _ _ (fun _ => SyA.out) ?_
    clear hK K
    try go_frame
    refine anyU_ready (rs := [13]) (by kernel_rfl) (by simp) (AllU.cons (o := ⟨none, .store 27 (.tmp 4) (.tmp 61), _, _, _, none⟩) rfl (fun K hK => ?_) (fun h => absurd h (by decide)) AllU.nil)
    rw [if_pos (by rfl)]
    obtain ⟨y0, y1, y2, y3, f0, f1, f2, f3⟩ := out_cells HTb.out
    go_simp
    obtain ⟨Wb, hWb⟩ : ∃ X, X = store4 Wa (w.heap.size + 1 + 1) true (.slice Y1 k1 l1) (.slice Y2 k2 l2) (.slice Y3 k3 l3) := ⟨_, rfl⟩
    have htb := store4_top (lf := true) (K := .slice Y1 k1 l1) (V := .slice Y2 k2 l2) (D := .slice Y3 k3 l3) HTb.out
    have hta := (store4_other (w := Wa) (N := w.heap.size + 1 + 1) (lf := true) (K := .slice Y1 k1 l1) (V := .slice Y2 k2 l2) (D := .slice Y3 k3 l3) (show w.heap.size + 1 ≠ w.heap.size + 1 + 1 by omega)).trans HTa.out
    have hbe := HBe.out.trans (store4_below (w := Wa) (lf := true) (K := .slice Y1 k1 l1) (V := .slice Y2 k2 l2) (D := .slice Y3 k3 l3) (show w.heap.size ≤ w.heap.size + 1 + 1 by omega))
    have hfa := HFa.out.store4 (lf := true) (K := .slice Y1 k1 l1) (V := .slice Y2 k2 l2) (D := .slice Y3 k3 l3) (N := w.heap.size + 1 + 1) (by have := BN.out; omega)
    have hfb := HFb.out.store4 (lf := true) (K := .slice Y1 k1 l1) (V := .slice Y2 k2 l2) (D := .slice Y3 k3 l3) (N := w.heap.size + 1 + 1) (by have := BN.out; omega)
    have hkv := HKv.out.frK (B0 := 0) (g := none) (w' := store4 Wa (w.heap.size + 1 + 1) true (.slice Y1 k1 l1) (.slice Y2 k2 l2) (.slice Y3 k3 l3)) ⟨Nat.le_of_eq store4_size.symm, fun k _ h2 _ => store4_other (by have := BN.out; omega)⟩ (fun _ _ e => by cases e)
    rw [← hWb] at hta htb hbe hfa hfb hkv
    have hsy : (fun w' => w'.cell? ⟨w.heap.size, 1, none⟩ = some (.slice (some ⟨bk, ok, none⟩) a c1) ∧ w'.cell? ⟨p, 0, none⟩ = some (.bool true) ∧ w'.cell? ⟨p, 1, none⟩ = some (.slice (some ⟨bk, ok, none⟩) h c1) ∧ w'.cell? ⟨p, 2, none⟩ = some (.slice A2 h c2) ∧ w'.cell? ⟨p, 3, none⟩ = some (.slice none 0 0) ∧ w'.cell? ⟨q, 0, none⟩ = some (.bool true) ∧ w'.cell? ⟨q, 1, none⟩ = some (.slice B1 (a - h) (c1 - h)) ∧ w'.cell? ⟨q, 2, none⟩ = some (.slice B2 (b - h) (c2 - h)) ∧ w'.cell? ⟨q, 3, none⟩ = some (.slice none 0 0) ∧ w'.cell? ⟨bk, ok + h, none⟩ = some (.slice Ak m cm)) Wb := by
      rw [hWb]
      exact ST9 SyA.out (by omega) (by have := BN.out; have := HPQ.out; omega)
    have SyB := Lib.hid hsy
    unfold store4 at hWb
    rw [← hWb]
    refine hK.out _ _ (fun _ => SyB.out) ?_
    clear hK K hsy SyA
    try go_frame
    obtain ⟨p0, p1, p2, p3⟩ := box_of_top hta
    obtain ⟨q0, q1, q2, q3⟩ := box_of_top htb
    have HBe2 := Lib.hid hbe
    have HFa2 := Lib.hid (hfa.weaken (b1 := w.heap.size) (by have := BN.out; omega))
    have HFb2 := Lib.hid (hfb.weaken (b1 := w.heap.size) (by have := BN.out; omega))
    have HKv2 := Lib.hid (hkv.weaken (base' := w.heap.size) (by have := BN.out; omega))
    clear hWb hta htb hbe hfa hfb hkv y0 y1 y2 y3 f0 f1 f2 f3 HTa HTb HBe HFa HFb HKv
    refine anyU_ready (rs := [14]) (by kernel_rfl) (by simp) (AllU.cons (o := ⟨some 5, .assign (.const (.bool true)), _, _, _, none⟩) rfl (fun K hK => ?_) (fun h => absurd h (by decide)) AllU.nil)
    rw [if_pos (by rfl)]
    go_simp
    refine hK.out _ _ (fun _ => SyB.out) ?_
    clear hK K
    try go_frame
    refine anyU_done (by kernel_rfl) ?_ _
    go_wp2_with fail
    exact bodyPost_ret (v := .tuple #[ndVal true (.slice X1 i1 j1) (.slice X2 i2 j2) (.slice X3 i3 j3), .slice Av (cellsB key).length cv, ndVal true (.slice Y1 k1 l1) (.slice Y2 k2 l2) (.slice Y3 k3 l3), .bool true]) (by simp [results, Try.results23, go_sem, p0, p1, p2, p3, q0, q1, q2, q3]) rfl ⟨h, _, _, _, _, _, _, _, HH.out, rfl, HFa2.out, (by rw [← HKey.out]; exact HKv2.out), HFb2.out, HBe2.out⟩
  · rw [if_pos (by rfl)]
    obtain ⟨v1, hu⟩ : ∃ u, u = wh.alloc (.cells #[.slice Ak m cm] 22) := ⟨_, rfl⟩
    have hb : Below wh.heap.size wh v1 := by rw [hu]; exact (Below.refl wh.heap.size wh).alloc (Nat.le_refl _) (.cells #[.slice Ak m cm] 22)
    have hmy : RdAll v1 v1.heap.size (.slice (some ⟨wh.heap.size, 0, none⟩) 1 1) [key] := by rw [hu]; simpa using RdAll.lit1 wh 22 _ key ((HKr.out.below HT0.out.s.below).more HT0.out.s.below.size)
    have HT1 := Lib.hid (HT0.out.kept hb)
    have BL1 := Lib.hid (Nat.le_trans BL0.out hb.size)
    have My1 := Lib.hid hmy
    go_simp
    rw [← hu]
    have Sx1 := Lib.hid (T8 HT1.out)
    refine hK.out _ _ (fun _ => Sx1.out) ?_
    clear hK K  hu hb hmy HT0 BL0
    try go_frame
    refine anyU_ready (rs := [1]) (by kernel_rfl) (by simp) (AllU.cons (o := ⟨some 52, .call { callee := .value (.func 41), args := #[.tmp 51], argTypes := #[27] }, _, _, _, none⟩) rfl (fun K hK => ?_) (fun h => absurd h (by decide)) AllU.nil)
    rw [if_pos (by rfl)]
    go_simp
    refine (copied_as ((HLo.out.below HT1.out.s.below).more HT1.out.s.below.size) CL.out (n.lower_short h HSh.out) HSl.out.small).mono ?_
    rintro e v2 ⟨X1, i1, j1, X2, i2, j2, X3, i3, j3, rfl, hn, hb⟩
    have HT2 := Lib.hid (HT1.out.kept hb)
    have BL2 := Lib.hid (Nat.le_trans BL1.out hb.size)
    have My2 := Lib.hid ((My1.out.below hb).more hb.size)
    have FA2 := Lib.hid (hn.weaken BL1.out)
    dsimp only
    have Sx2 := Lib.hid (T8 HT2.out)
    refine hK.out _ _ (fun _ => Sx2.out) ?_
    clear hK K Sx1 hn hb HT1 BL1 My1
    try go_frame
    refine anyU_ready (rs := [8]) (by kernel_rfl) (by simp) (AllU.cons (o := ⟨some 59, .call { callee := .value (.func 43), args := #[.tmp 58], argTypes := #[24] }, _, _, _, none⟩) rfl (fun K hK => ?_) (fun h => absurd h (by decide)) AllU.nil)
    rw [if_pos (by rfl)]
    go_simp
    refine (bytes_any _ 1 1 [key] _ _ My2.out (Nat.le_refl _) (by have := HKl.out; simp; omega)).mono ?_
    rintro e v3 ⟨kv, rfl, hm, hb⟩
    rw [show [key].flatten = key by simp] at hm
    obtain ⟨Av, cv, rfl⟩ := hm.form
    have HT3 := Lib.hid (HT2.out.kept hb)
    have BL3 := Lib.hid (Nat.le_trans BL2.out hb.size)
    have FA3 := Lib.hid (FA2.out.kept hb)
    have My3 := Lib.hid ((My2.out.below hb).more hb.size)
    have Kv3 := Lib.hid (hm.weaken BL2.out)
    dsimp only
    have Sx3 := Lib.hid (T8 HT3.out)
    refine hK.out _ _ (fun _ => Sx3.out) ?_
    clear hK K Sx2 hm hb HT2 BL2 FA2 My2
    try go_frame
    refine anyU_ready (rs := [10]) (by kernel_rfl) (by simp) (AllU.cons (o := ⟨some 61, .call { callee := .value (.func 41), args := #[.tmp 60], argTypes := #[27] }, _, _, _, none⟩) rfl (fun K hK => ?_) (fun h => absurd h (by decide)) AllU.nil)
    rw [if_pos (by rfl)]
    go_simp
    refine (copied_as ((HUp.out.below HT3.out.s.below).more HT3.out.s.below.size) CU.out (n.upper_short h HSh.out) HSu.out.small).mono ?_
    rintro e v4 ⟨Y1, k1, l1, Y2, k2, l2, Y3, k3, l3, rfl, hn, hb⟩
    have HT4 := Lib.hid (HT3.out.kept hb)
    have BL4 := Lib.hid (Nat.le_trans BL3.out hb.size)
    have FA4 := Lib.hid (FA3.out.kept hb)
    have Kv4 := Lib.hid (Kv3.out.frK (B0 := 0) (Fr.below (hb)) (fun _ _ e => by cases e))
    have FB4 := Lib.hid (hn.weaken BL3.out)
    dsimp only
    have Sx4 := Lib.hid (T8 HT4.out)
    refine hK.out _ _ (fun _ => Sx4.out) ?_
    clear hK K Sx3 hn hb HT3 BL3 FA3 Kv3
    try go_frame
    refine anyU_ready (rs := [11]) (by kernel_rfl) (by simp) (AllU.cons (o := ⟨none, .store 27 (.tmp 2) (.tmp 52), _, _, _, none⟩) rfl (fun K hK => ?_) (fun h => absurd h (by decide)) AllU.nil)
    rw [if_pos (by rfl)]
    obtain ⟨y0, y1, y2, y3, f0, f1, f2, f3⟩ := out_cells HT4.out.s.outA
    go_simp
    obtain ⟨Wa, hWa⟩ : ∃ X, X = store4 v4 (w.heap.size + 1) true (.slice X1 i1 j1) (.slice X2 i2 j2) (.slice X3 i3 j3) := ⟨_, rfl⟩
    have hta := store4_top (lf := true) (K := .slice X1 i1 j1) (V := .slice X2 i2 j2) (D := .slice X3 i3 j3) HT4.out.s.outA
    have htb := (store4_other (w := v4) (N := w.heap.size + 1) (lf := true) (K := .slice X1 i1 j1) (V := .slice X2 i2 j2) (D := .slice X3 i3 j3) (show w.heap.size + 1 + 1 ≠ w.heap.size + 1 by omega)).trans HT4.out.s.outB
    have hbe := HT4.out.s.below.trans (store4_below (w := v4) (lf := true) (K := .slice X1 i1 j1) (V := .slice X2 i2 j2) (D := .slice X3 i3 j3) (show w.heap.size ≤ w.heap.size + 1 by omega))
    have hfa := FA4.out.store4 (lf := true) (K := .slice X1 i1 j1) (V := .slice X2 i2 j2) (D := .slice X3 i3 j3) (N := w.heap.size + 1) (by have := BN.out; omega)
    have hfb := FB4.out.store4 (lf := true) (K := .slice X1 i1 j1) (V := .slice X2 i2 j2) (D := .slice X3 i3 j3) (N := w.heap.size + 1) (by have := BN.out; omega)
    have hkv := Kv4.out.frK (B0 := 0) (g := none) (w' := store4 v4 (w.heap.size + 1) true (.slice X1 i1 j1) (.slice X2 i2 j2) (.slice X3 i3 j3)) ⟨Nat.le_of_eq store4_size.symm, fun k _ h2 _ => store4_other (by have := BN.out; omega)⟩ (fun _ _ e => by cases e)
    rw [← hWa] at hta htb hbe hfa hfb hkv
    have hsy : (fun w' => w'.cell? ⟨w.heap.size, 1, none⟩ = some (.slice (some ⟨bk, ok, none⟩) a c1) ∧ w'.cell? ⟨p, 0, none⟩ = some (.bool true) ∧ w'.cell? ⟨p, 1, none⟩ = some (.slice (some ⟨bk, ok, none⟩) h c1) ∧ w'.cell? ⟨p, 2, none⟩ = some (.slice A2 h c2) ∧ w'.cell? ⟨p, 3, none⟩ = some (.slice none 0 0) ∧ w'.cell? ⟨q, 0, none⟩ = some (.bool true) ∧ w'.cell? ⟨q, 1, none⟩ = some (.slice B1 (a - h) (c1 - h)) ∧ w'.cell? ⟨q, 2, none⟩ = some (.slice B2 (b - h) (c2 - h)) ∧ w'.cell? ⟨q, 3, none⟩ = some (.slice none 0 0) ∧ w'.cell? ⟨bk, ok + h, none⟩ = some (.slice Ak m cm)) Wa := by
      rw [hWa]
      exact ST9 (T8 HT4.out) (by omega) (by have := BN.out; have := HPQ.out; omega)
    have SyA := Lib.hid hsy
    unfold store4 at hWa
    rw [← hWa]
    refine hK.out _ _ (fun _ => SyA.out) ?_
    clear hK K hsy
    try go_frame
    have HTa := Lib.hid hta
    have HTb := Lib.hid htb
    have HBe := Lib.hid hbe
    have HFa := Lib.hid hfa
    have HFb := Lib.hid hfb
    have HKv := Lib.hid hkv
    clear hWa hta htb hbe hfa hfb hkv y0 y1 y2 y3 f0 f1 f2 f3 FA4 FB4 Kv4 HT4
    refine anyU_ready (rs := [12]) (by kernel_rfl) (by simp) (AllU.cons (o := ⟨some 3, .assign (.tmp 59), _, _, _, none⟩) rfl (fun K hK => ?_) (fun h => absurd h (by decide)) AllU.nil)
    rw [if_pos (by rfl)]
    go_simp
    refine hK.out _ _ (fun _ => SyA.out) ?_
    clear hK K
    try go_frame
    refine anyU_ready (rs := [13]) (by kernel_rfl) (by simp) (AllU.cons (o := ⟨none, .store 27 (.tmp 4) (.tmp 61), _, _, _, none⟩) rfl (fun K hK => ?_) (fun h => absurd h (by decide)) AllU.nil)
    rw [if_pos (by rfl)]
    obtain ⟨y0, y1, y2, y3, f0, f1, f2, f3⟩ := out_cells HTb.out
    go_simp
    obtain ⟨Wb, hWb⟩ : ∃ X, X = store4 Wa (w.heap.size + 1 + 1) true (.slice Y1 k1 l1) (.slice Y2 k2 l2) (.slice Y3 k3 l3) := ⟨_, rfl⟩
    have htb := store4_top (lf := true) (K := .slice Y1 k1 l1) (V := .slice Y2 k2 l2) (D := .slice Y3 k3 l3) HTb.out
    have hta := (store4_other (w := Wa) (N := w.heap.size + 1 + 1) (lf := true) (K := .slice Y1 k1 l1) (V := .slice Y2 k2 l2) (D := .slice Y3 k3 l3) (show w.heap.size + 1 ≠ w.heap.size + 1 + 1 by omega)).trans HTa.out
    have hbe := HBe.out.trans (store4_below (w := Wa) (lf := true) (K := .slice Y1 k1 l1) (V := .slice Y2 k2 l2) (D := .slice Y3 k3 l3) (show w.heap.size ≤ w.heap.size + 1 + 1 by omega))
    have hfa := HFa.out.store4 (lf := true) (K := .slice Y1 k1 l1) (V := .slice Y2 k2 l2) (D := .slice Y3 k3 l3) (N := w.heap.size + 1 + 1) (by have := BN.out; omega)
    have hfb := HFb.out.store4 (lf := true) (K := .slice Y1 k1 l1) (V := .slice Y2 k2 l2) (D := .slice Y3 k3 l3) (N := w.heap.size + 1 + 1) (by have := BN.out; omega)
    have hkv := HKv.out.frK (B0 := 0) (g := none) (w' := store4 Wa (w.heap.size + 1 + 1) true (.slice Y1 k1 l1) (.slice Y2 k2 l2) (.slice Y3 k3 l3)) ⟨Nat.le_of_eq store4_size.symm, fun k _ h2 _ => store4_other (by have := BN.out; omega)⟩ (fun _ _ e => by cases e)
    rw [← hWb] at hta htb hbe hfa hfb hkv
    have hsy : (fun w' => w'.cell? ⟨w.heap.size, 1, none⟩ = some (.slice (some ⟨bk, ok, none⟩) a c1) ∧ w'.cell? ⟨p, 0, none⟩ = some (.bool true) ∧ w'.cell? ⟨p, 1, none⟩ = some (.slice (some ⟨bk, ok, none⟩) h c1) ∧ w'.cell? ⟨p, 2, none⟩ = some (.slice A2 h c2) ∧ w'.cell? ⟨p, 3, none⟩ = some (.slice none 0 0) ∧ w'.cell? ⟨q, 0, none⟩ = some (.bool true) ∧ w'.cell? ⟨q, 1, none⟩ = some (.slice B1 (a - h) (c1 - h)) ∧ w'.cell? ⟨q, 2, none⟩ = some (.slice B2 (b - h) (c2 - h)) ∧ w'.cell? ⟨q, 3, none⟩ = some (.slice none 0 0) ∧ w'.cell? ⟨bk, ok + h, none⟩ = some (.slice Ak m cm)) Wb := by
      rw [hWb]
      exact ST9 SyA.out (by omega) (by have := BN.out; have := HPQ.out; omega)
    have SyB := Lib.hid hsy
    unfold store4 at hWb
    rw [← hWb]
    refine hK.out _ _ (fun _ => SyB.out) ?_
    clear hK K hsy SyA
    try go_frame
    obtain ⟨p0, p1, p2, p3⟩ := box_of_top hta
    obtain ⟨q0, q1, q2, q3⟩ := box_of_top htb
    have HBe2 := Lib.hid hbe
    have HFa2 := Lib.hid (hfa.weaken (b1 := w.heap.size) (by have := BN.out; omega))
    have HFb2 := Lib.hid (hfb.weaken (b1 := w.heap.size) (by have := BN.out; omega))
    have HKv2 := Lib.hid (hkv.weaken (base' := w.heap.size) (by have := BN.out; omega))
    clear hWb hta htb hbe hfa hfb hkv y0 y1 y2 y3 f0 f1 f2 f3 HTa HTb HBe HFa HFb HKv
    refine anyU_ready (rs := [14]) (by kernel_rfl) (by simp) (AllU.cons (o := ⟨some 5, .assign (.const (.bool true)), _, _, _, none⟩) rfl (fun K hK => ?_) (fun h => absurd h (by decide)) AllU.nil)
    rw [if_pos (by rfl)]
    go_simp
    refine hK.out _ _ (fun _ => SyB.out) ?_
    clear hK K
    try go_frame
    refine anyU_done (by kernel_rfl) ?_ _
    go_wp2_with fail
    exact bodyPost_ret (v := .tuple #[ndVal true (.slice X1 i1 j1) (.slice X2 i2 j2) (.slice X3 i3 j3), .slice Av (cellsB key).length cv, ndVal true (.slice Y1 k1 l1) (.slice Y2 k2 l2) (.slice Y3 k3 l3), .bool true]) (by simp [results, Try.results23, go_sem, p0, p1, p2, p3, q0, q1, q2, q3]) rfl ⟨h, _, _, _, _, _, _, _, HH.out, rfl, HFa2.out, (by rw [← HKey.out]; exact HKv2.out), HFb2.out, HBe2.out⟩
end Go.Proofs.Ytceefoopehoalaa
