/-
  What is cut off a node: Few of layer 7, by contract.
-/
import Derived.Test.YtceefoopehoalaaNdFewA
namespace Go.Proofs.Ytceefoopehoalaa
open Go.RowKit
/-- What is left of a node. -/
def cutNd (n : Nd) : Nd := ⟨n.leaf, cutL n.keys, cutL n.vals, n.kids.take 41⟩
/-- Few at work. -/
structure FewW (w0 w : World) (lf : Bool) (K V D uK uV : Value) (ks vs : List (List UInt8)) (g : Option Nat) : Prop where
  box : NdBox w w0.heap.size lf K V D
  out : w.heap[w0.heap.size + 1]? = some (.cells #[.bool false, .slice none 0 0, .slice none 0 0, .slice none 0 0] 27 (0, 0))
  rK : OwnT w 0 (w0.heap.size + 2) uK ks
  rV : OwnT w 0 (w0.heap.size + 2) uV vs
  e : ∀ b, g = some b → Mine w (w0.heap.size + 2) 3 (.slice (some ⟨b, 0, none⟩) 0 0) (cellsI [])
  le : w0.heap.size + 2 ≤ w.heap.size
  below : Below w0.heap.size w0 w
section
variable {w0 w w' : World} {lf : Bool} {K V D uK uV v X : Value} {ks vs ls : List (List UInt8)} {g : Option Nat} {n : Nd} {ds : List Int}
theorem FewW.cells (h : FewW w0 w lf K V D uK uV ks vs g) : w.cell? ⟨w0.heap.size, 0, none⟩ = some (.bool lf) ∧ w.cell? ⟨w0.heap.size, 1, none⟩ = some K ∧ w.cell? ⟨w0.heap.size, 2, none⟩ = some V := ⟨h.box.c0, h.box.c1, h.box.c2⟩
theorem FewW.kept (h : FewW w0 w lf K V D uK uV ks vs g) (hb : Below w.heap.size w w') : FewW w0 w' lf K V D uK uV ks vs g :=
  ⟨h.box.later h.box.lt hb, (hb.block _ (by have := h.le; omega)).trans h.out, h.rK.keep (Fr.below hb) (RowB.none _ _) (Nat.zero_le _) (fun _ _ e => by cases e), h.rV.keep (Fr.below hb) (RowB.none _ _) (Nat.zero_le _) (fun _ _ e => by cases e), fun b e => (h.e b e).kept hb, Nat.le_trans h.le hb.size, up h.below hb⟩
theorem FewW.drew (h : FewW w0 w lf K V D uK uV ks vs g) : FewW w0 w.drew lf K V D uK uV ks vs g := h.kept (Below.refl _ _).drew
theorem FewW.empty (h : FewW w0 w lf K V D uK uV ks vs g) : FewW w0 (w.alloc (.cells #[] 3)) lf K V D uK uV ks vs (some w.heap.size) := by
  have h1 := h.kept ((Below.refl _ _).alloc (Nat.le_refl _) (.cells #[] 3))
  exact ⟨h1.box, h1.out, h1.rK, h1.rV, fun b e => (by injection e with e; subst e; exact Mine.empty w _ _ h.le), h1.le, h1.below⟩
theorem FewW.empty' (h : FewW w0 w lf K V D uK uV ks vs g) {m : Nat} (hm : w.heap.size = m) : FewW w0 (w.alloc (.cells #[] 3)) lf K V D uK uV ks vs (some m) := by
  subst hm
  exact h.empty
theorem FewW.textsK (h : FewW w0 w lf K V D (.slice none 0 0) uV [] vs g) (hr : NdIs w0 w0.heap.size K V D n) : Calls Try.prog 34 #[K] w fun e w' => ∃ A' n' c', e = .returned (.slice A' n' c') ∧ FewW w0 w' lf K V D (.slice A' n' c') uV (cutL n.keys) vs g := by
  obtain ⟨A, c, rfl, hk⟩ := hr.keys.form
  refine (texts_any A _ c n.keys w w0.heap.size (hk.below h.below) h.below.size).mono ?_
  rintro e w' ⟨A', n', c', rfl, ho, hb⟩
  have h1 := h.kept hb
  exact ⟨A', n', c', rfl, h1.box, h1.out, ho.weaken h.le, h1.rV, h1.e, h1.le, h1.below⟩
theorem FewW.textsV (h : FewW w0 w lf K V D uK (.slice none 0 0) ks [] g) (hr : NdIs w0 w0.heap.size K V D n) : Calls Try.prog 34 #[V] w fun e w' => ∃ A' n' c', e = .returned (.slice A' n' c') ∧ FewW w0 w' lf K V D uK (.slice A' n' c') ks (cutL n.vals) g := by
  obtain ⟨A, c, rfl, hk⟩ := hr.vals.form
  refine (texts_any A _ c n.vals w w0.heap.size (hk.below h.below) h.below.size).mono ?_
  rintro e w' ⟨A', n', c', rfl, ho, hb⟩
  have h1 := h.kept hb
  exact ⟨A', n', c', rfl, h1.box, h1.out, h1.rK, ho.weaken h.le, h1.e, h1.le, h1.below⟩
/-- Behind the append: all is there. -/
structure FewZ (w0 w : World) (lf : Bool) (K V D uK uV uD : Value) (n : Nd) : Prop where
  box : NdBox w w0.heap.size lf K V D
  out : w.heap[w0.heap.size + 1]? = some (.cells #[.bool false, .slice none 0 0, .slice none 0 0, .slice none 0 0] 27 (0, 0))
  new : NdNew w (w0.heap.size + 2) uK uV uD n
  below : Below w0.heap.size w0 w
theorem FewW.app {b : Nat} (h : FewW w0 w lf K V D uK uV ks vs (some b)) (hx : Rd w0 w0.heap.size X (cellsI ds)) (hd : ds.length ≤ 1000) :
    ∃ A n c w', (Builtin.append_ #[25, 25] 25 #[.slice (some ⟨b, 0, none⟩) 0 0, X]).run Try.prog w = .ok (.slice A n c) w' ∧ FewZ w0 w' lf K V D uK uV (.slice A n c) ⟨lf, ks, vs, ds⟩ := by
  obtain ⟨i, hi, hz0, hz1, hz2⟩ := info_parts info_int
  have hm0 := h.e b rfl
  obtain ⟨v', w', hrun, hm, hgr, hob⟩ := run_append_rd (P := Try.prog) (w := w) (w0.heap.size + 2) 25 25 3 i _ 8 Try.underlying25 hi hz0 hz1 hz2 rfl _ (cellsI []) hm0 w0.heap.size X (cellsI ds) (hx.below h.below) (cellsI_one _) (by rw [cellsI_length, cellsI_length]; simp; omega) (by unfold maxLen; rw [cellsI_length, cellsI_length]; simp; omega) h.le
  rw [← cellsI_append] at hm
  obtain ⟨A, c, rfl⟩ := hm.form
  have hrow := hm0.rowB (by decide : (3 : TypeId) ≠ 5)
  have hb : Below (w0.heap.size + 2) w w' := (Below.refl _ _).grown hgr h.le fun k hk => (hm0.block k hk).1
  refine ⟨A, _, c, w', hrun, ⟨h.box.later (by omega) hb, (hb.block _ (by omega)).trans h.out, ⟨h.rK.keep (Fr.grown hgr) hrow (Nat.zero_le _) fun k h1 h2 => ?_, h.rV.keep (Fr.grown hgr) hrow (Nat.zero_le _) fun k h1 h2 => ?_, hm⟩, h.below.trans (hb.mono (by omega))⟩⟩
  · obtain ⟨ws, hmk, _⟩ := h.rK
    rcases hmk.apart hm0 (by decide) with e | e
    · rw [e] at h1; cases h1
    · exact e (h1.trans h2.symm)
  · obtain ⟨ws, hmk, _⟩ := h.rV
    rcases hmk.apart hm0 (by decide) with e | e
    · rw [e] at h1; cases h1
    · exact e (h1.trans h2.symm)
theorem FewW.start : FewW w0 ((w0.alloc (.cells #[.bool lf, K, V, D] 27)).alloc (.cells #[.bool false, .slice none 0 0, .slice none 0 0, .slice none 0 0] 27)) lf K V D (.slice none 0 0) (.slice none 0 0) [] [] none := by
  have e1 : (w0.alloc (.cells #[.bool lf, K, V, D] 27)).heap.size = w0.heap.size + 1 := by simp
  refine ⟨(NdBox.made w0 lf K V D).later (by simp) ((Below.refl (w0.alloc (.cells #[.bool lf, K, V, D] 27)).heap.size _).alloc (Nat.le_refl _) _), ?_, OwnT.nil _ _ _, OwnT.nil _ _ _, (fun b e => by cases e), by simp, ((Below.refl _ _).alloc (Nat.le_refl _) _).alloc (by rw [e1]; omega) _⟩
  rw [← e1]
  exact heap_alloc_last _ _
end
set_option maxRecDepth 100000 in
set_option maxHeartbeats 800000 in
theorem fewNd_all {n : Nd} {K V D : Value} {w : World} (hr : NdIs w w.heap.size K V D n) (hk : n.kids.length ≤ 41) :
    Calls Try.prog 14 #[ndVal n.leaf K V D] w fun e w' => ∃ K' V' D', e = .returned (ndVal n.leaf K' V' D') ∧ NdNew w' w.heap.size K' V' D' (cutNd n) ∧ Below w.heap.size w w' := by
  obtain ⟨A1, c1, A2, c2, A3, c3, rfl, rfl, rfl⟩ := hr.form
  obtain ⟨_, hdc, hdm⟩ := hr.kids.lenI
  have hxd : Rd w w.heap.size (.slice A3 n.kids.length c3) (cellsI (n.kids.take 41)) := by rw [List.take_of_length_le hk]; exact hr.kids
  obtain ⟨lf, hlf⟩ : ∃ x, x = n.leaf := ⟨_, rfl⟩
  have hct : cutNd n = ⟨lf, cutL n.keys, cutL n.vals, n.kids.take 41⟩ := by rw [hlf]; rfl
  obtain ⟨a, ha⟩ : ∃ x, x = n.keys.length := ⟨_, rfl⟩
  obtain ⟨b, hb⟩ : ∃ x, x = n.vals.length := ⟨_, rfl⟩
  obtain ⟨d, hd⟩ : ∃ x, x = n.kids.length := ⟨_, rfl⟩
  rw [← ha, ← hb, ← hd] at hr
  rw [← hd] at hdc hk hxd
  rw [← hlf, ← ha, ← hb, ← hd]
  have hs0 := FewW.start (w0 := w) (lf := lf) (K := .slice A1 a c1) (V := .slice A2 b c2) (D := .slice A3 d c3)
  obtain ⟨x0, x1, x2, x3⟩ := hs0.box
  have S0 := hs0.drew.cells
  have Hs0 := Lib.hid hs0.drew
  have HR := Lib.hid hr
  have HXD := Lib.hid hxd
  have HDL := Lib.hid (show (n.kids.take 41).length ≤ 1000 by simp; omega)
  have HCt := Lib.hid hct
  clear hs0 hr hxd hct ha hb hd hlf
  go_enter Try.func14, Try.ntmps14
  go_wp2_with fail
  refine wp_region_late (S := fun w' => w'.cell? ⟨w.heap.size, 0, none⟩ = some (.bool lf) ∧ w'.cell? ⟨w.heap.size, 1, none⟩ = some (.slice A1 a c1) ∧ w'.cell? ⟨w.heap.size, 2, none⟩ = some (.slice A2 b c2)) [12] (by kernel_rfl) S0 (fun hHeld => ?_)
  refine' anyU_take0 (i := 0) (oi := ⟨some 11, .fieldAddr 27 (.tmp 1) 0, _, _, _, none⟩) (v := _) rfl (by kernel_rfl) (fun _ _ _ h => h) (Or.inl ⟨by rfl, ?hy1⟩) (by assumption) ?rest1
  case hy1 => (intro w hSw; go_simp <;> with_reducible rfl)
  case rest1 =>
  go_frame
  refine' anyU_take (i := 1) (oi := ⟨some 12, .load 4 (.tmp 11), _, _, _, none⟩) (v := _) rfl (by kernel_rfl) (fun _ _ _ h => h) (Or.inl ⟨by rfl, ?hy2⟩) (by assumption) ?rest2
  case hy2 => (intro w hSw; obtain ⟨s0, s1, s2⟩ := hSw; go_simp <;> with_reducible rfl)
  case rest2 =>
  go_frame
  refine' anyU_take0 (i := 2) (oi := ⟨some 13, .fieldAddr 27 (.tmp 1) 1, _, _, _, none⟩) (v := _) rfl (by kernel_rfl) (fun _ _ _ h => h) (Or.inl ⟨by rfl, ?hy3⟩) (by assumption) ?rest3
  case hy3 => (intro w hSw; go_simp <;> with_reducible rfl)
  case rest3 =>
  go_frame
  refine' anyU_take (i := 3) (oi := ⟨some 14, .load 24 (.tmp 13), _, _, _, none⟩) (v := _) rfl (by kernel_rfl) (fun _ _ _ h => h) (Or.inl ⟨by rfl, ?hy4⟩) (by assumption) ?rest4
  case hy4 => (intro w hSw; obtain ⟨s0, s1, s2⟩ := hSw; go_simp <;> with_reducible rfl)
  case rest4 =>
  go_frame
  refine' anyU_take0 (i := 5) (oi := ⟨some 16, .fieldAddr 27 (.tmp 1) 2, _, _, _, none⟩) (v := _) rfl (by kernel_rfl) (fun _ _ _ h => h) (Or.inl ⟨by rfl, ?hy5⟩) (by assumption) ?rest5
  case hy5 => (intro w hSw; go_simp <;> with_reducible rfl)
  case rest5 =>
  go_frame
  refine' anyU_take (i := 6) (oi := ⟨some 17, .load 24 (.tmp 16), _, _, _, none⟩) (v := _) rfl (by kernel_rfl) (fun _ _ _ h => h) (Or.inl ⟨by rfl, ?hy6⟩) (by assumption) ?rest6
  case hy6 => (intro w hSw; obtain ⟨s0, s1, s2⟩ := hSw; go_simp <;> with_reducible rfl)
  case rest6 =>
  go_frame
  refine' anyU_take0 (i := 9) (oi := ⟨some 20, .move (.tmp 3), _, _, _, none⟩) (v := _) rfl (by kernel_rfl) (fun _ _ _ h => h) (Or.inl ⟨by rfl, ?hy7⟩) (by assumption) ?rest7
  case hy7 => (intro w hSw; go_simp <;> with_reducible rfl)
  case rest7 =>
  go_frame
  refine anyU_ready (rs := [4, 8]) (by kernel_rfl) (by simp) (AllU.cons (o := ⟨some 15, .call { callee := .value (.func 34), args := #[.tmp 14], argTypes := #[24] }, _, _, _, none⟩) rfl (fun K hK => ?_) (fun h => absurd h (by decide)) (AllU.cons (o := ⟨some 19, .buildSlice 25 0 #[], _, _, _, none⟩) rfl (fun K hK => ?_) (fun h => absurd h (by decide)) AllU.nil))
  · rw [if_pos (by rfl)]
    go_simp
    refine (Hs0.out.textsK HR.out).mono ?_
    rintro e wa ⟨Aa, na, ca, rfl, ha⟩
    have Hs1 := Lib.hid ha
    have Sa := Lib.hid ha.cells
    clear ha
    dsimp only
    refine hK.out _ _ (fun _ => Sa.out) ?_
    clear hK K
    try go_frame
    refine anyU_ready (rs := [7, 8]) (by kernel_rfl) (by simp) (AllU.cons (o := ⟨some 18, .call { callee := .value (.func 34), args := #[.tmp 17], argTypes := #[24] }, _, _, _, none⟩) rfl (fun K hK => ?_) (fun h => absurd h (by decide)) (AllU.cons (o := ⟨some 19, .buildSlice 25 0 #[], _, _, _, none⟩) rfl (fun K hK => ?_) (fun h => absurd h (by decide)) AllU.nil))
    · rw [if_pos (by rfl)]
      go_simp
      refine (Hs1.out.textsV HR.out).mono ?_
      rintro e wb ⟨Ab, nb, cb, rfl, hb⟩
      have Hs2 := Lib.hid hb
      have Sb := Lib.hid hb.cells
      clear hb
      dsimp only
      refine hK.out _ _ (fun _ => Sb.out) ?_
      clear hK K
      try go_frame
      refine anyU_ready (rs := [8]) (by kernel_rfl) (by simp) (AllU.cons (o := ⟨some 19, .buildSlice 25 0 #[], _, _, _, none⟩) rfl (fun K hK => ?_) (fun h => absurd h (by decide)) AllU.nil)
      rw [if_pos (by rfl)]
      have Hs3 := Lib.hid (Hs2.out.empty' rfl)
      have Sc := Lib.hid Hs3.out.cells
      go_simp
      refine hK.out _ _ (fun _ => Sc.out) ?_
      clear hK K
      try go_frame
      refine anyU_ready (rs := [10]) (by kernel_rfl) (by simp) (AllU.cons (o := ⟨some 21, .call { callee := .builtin .append, args := #[.tmp 19, .tmp 20], argTypes := #[25, 25] }, _, _, _, none⟩) rfl (fun K hK => ?_) (fun h => absurd h (by decide)) AllU.nil)
      rw [if_pos (by rfl)]
      obtain ⟨Az, nz, cz, wz, hrz, hz⟩ := Hs3.out.app HXD.out HDL.out
      have Hz := Lib.hid hz
      have Sz := Lib.hid (And.intro hz.box.c0 (And.intro hz.box.c1 hz.box.c2))
      have Hrz := Lib.hid hrz
      clear hz hrz
      refine wp_run (.slice Az nz cz) wz (exec_append (t := 25) (x := .tmp 19) (y := .tmp 20) rfl rfl rfl Hrz.out) ?_
      refine hK.out _ _ (fun _ => Sz.out) ?_
      clear hK K
      go_frame
      obtain ⟨y0, y1, y2, y3, f0, f1, f2, f3⟩ := out_cells Hz.out.out
      refine' anyU_take0 (i := 11) (oi := ⟨some 22, .build 27 #[(0, .tmp 12), (1, .tmp 15), (2, .tmp 18), (3, .tmp 21)], _, _, _, none⟩) (v := _) rfl (by kernel_rfl) (fun _ _ _ h => h) (Or.inl ⟨by rfl, ?hy8⟩) (by assumption) ?rest8
      case hy8 => (intro w hSw; go_simp <;> with_reducible rfl)
      case rest8 =>
      go_frame
      refine anyU_ready (rs := [12]) (by kernel_rfl) (by simp) (AllU.cons (o := ⟨none, .store 27 (.tmp 2) (.tmp 22), _, _, _, none⟩) rfl (fun K hK => ?_) (fun _ => by kernel_rfl) AllU.nil)
      rw [if_pos (by rfl)]
      go_simp
      refine hK.out _ _ (fun h => absurd h (by decide)) ?_
      clear hK K
      try go_frame
      refine anyU_done (by kernel_rfl) ?_ _
      obtain ⟨W, hW⟩ : ∃ W, W = store4 wz (w.heap.size + 1) lf (.slice Aa na ca) (.slice Ab nb cb) (.slice Az nz cz) := ⟨_, rfl⟩
      have hbox := box_of_top (store4_top (lf := lf) (K := .slice Aa na ca) (V := .slice Ab nb cb) (D := .slice Az nz cz) Hz.out.out)
      have hfi := Hz.out.new.store4 (lf := lf) (K := .slice Aa na ca) (V := .slice Ab nb cb) (D := .slice Az nz cz) (N := w.heap.size + 1) (by omega)
      have hfb := Hz.out.below.trans (store4_below (w := wz) (lf := lf) (K := .slice Aa na ca) (V := .slice Ab nb cb) (D := .slice Az nz cz) (show w.heap.size ≤ w.heap.size + 1 by omega))
      rw [← hW] at hbox hfi hfb
      obtain ⟨q0, q1, q2, q3⟩ := hbox
      have HFi := Lib.hid hfi
      have HFb := Lib.hid hfb
      unfold store4 at hW
      rw [← hW]
      clear hW hfi hfb y0 y1 y2 y3 f0 f1 f2 f3
      go_wp2_with fail
      exact bodyPost_ret (v := ndVal lf (.slice Aa na ca) (.slice Ab nb cb) (.slice Az nz cz)) (by simp [results, Try.results14, go_sem, q0, q1, q2, q3]) rfl ⟨_, _, _, rfl, by rw [HCt.out]; exact HFi.out.weaken (by omega), HFb.out⟩
    · rw [if_pos (by rfl)]
      have Hs2 := Lib.hid (Hs1.out.empty' rfl)
      have Sc := Lib.hid Hs2.out.cells
      go_simp
      refine hK.out _ _ (fun _ => Sc.out) ?_
      clear hK K
      try go_frame
      refine anyU_ready (rs := [7]) (by kernel_rfl) (by simp) (AllU.cons (o := ⟨some 18, .call { callee := .value (.func 34), args := #[.tmp 17], argTypes := #[24] }, _, _, _, none⟩) rfl (fun K hK => ?_) (fun h => absurd h (by decide)) AllU.nil)
      rw [if_pos (by rfl)]
      go_simp
      refine (Hs2.out.textsV HR.out).mono ?_
      rintro e wb ⟨Ab, nb, cb, rfl, hb⟩
      have Hs3 := Lib.hid hb
      have Sb := Lib.hid hb.cells
      clear hb
      dsimp only
      refine hK.out _ _ (fun _ => Sb.out) ?_
      clear hK K
      try go_frame
      refine anyU_ready (rs := [10]) (by kernel_rfl) (by simp) (AllU.cons (o := ⟨some 21, .call { callee := .builtin .append, args := #[.tmp 19, .tmp 20], argTypes := #[25, 25] }, _, _, _, none⟩) rfl (fun K hK => ?_) (fun h => absurd h (by decide)) AllU.nil)
      rw [if_pos (by rfl)]
      obtain ⟨Az, nz, cz, wz, hrz, hz⟩ := Hs3.out.app HXD.out HDL.out
      have Hz := Lib.hid hz
      have Sz := Lib.hid (And.intro hz.box.c0 (And.intro hz.box.c1 hz.box.c2))
      have Hrz := Lib.hid hrz
      clear hz hrz
      refine wp_run (.slice Az nz cz) wz (exec_append (t := 25) (x := .tmp 19) (y := .tmp 20) rfl rfl rfl Hrz.out) ?_
      refine hK.out _ _ (fun _ => Sz.out) ?_
      clear hK K
      go_frame
      obtain ⟨y0, y1, y2, y3, f0, f1, f2, f3⟩ := out_cells Hz.out.out
      refine' anyU_take0 (i := 11) (oi := ⟨some 22, .build 27 #[(0, .tmp 12), (1, .tmp 15), (2, .tmp 18), (3, .tmp 21)], _, _, _, none⟩) (v := _) rfl (by kernel_rfl) (fun _ _ _ h => h) (Or.inl ⟨by rfl, ?hy9⟩) (by assumption) ?rest9
      case hy9 => (intro w hSw; go_simp <;> with_reducible rfl)
      case rest9 =>
      go_frame
      refine anyU_ready (rs := [12]) (by kernel_rfl) (by simp) (AllU.cons (o := ⟨none, .store 27 (.tmp 2) (.tmp 22), _, _, _, none⟩) rfl (fun K hK => ?_) (fun _ => by kernel_rfl) AllU.nil)
      rw [if_pos (by rfl)]
      go_simp
      refine hK.out _ _ (fun h => absurd h (by decide)) ?_
      clear hK K
      try go_frame
      refine anyU_done (by kernel_rfl) ?_ _
      obtain ⟨W, hW⟩ : ∃ W, W = store4 wz (w.heap.size + 1) lf (.slice Aa na ca) (.slice Ab nb cb) (.slice Az nz cz) := ⟨_, rfl⟩
      have hbox := box_of_top (store4_top (lf := lf) (K := .slice Aa na ca) (V := .slice Ab nb cb) (D := .slice Az nz cz) Hz.out.out)
      have hfi := Hz.out.new.store4 (lf := lf) (K := .slice Aa na ca) (V := .slice Ab nb cb) (D := .slice Az nz cz) (N := w.heap.size + 1) (by omega)
      have hfb := Hz.out.below.trans (store4_below (w := wz) (lf := lf) (K := .slice Aa na ca) (V := .slice Ab nb cb) (D := .slice Az nz cz) (show w.heap.size ≤ w.heap.size + 1 by omega))
      rw [← hW] at hbox hfi hfb
      obtain ⟨q0, q1, q2, q3⟩ := hbox
      have HFi := Lib.hid hfi
      have HFb := Lib.hid hfb
      unfold store4 at hW
      rw [← hW]
      clear hW hfi hfb y0 y1 y2 y3 f0 f1 f2 f3
      go_wp2_with fail
      exact bodyPost_ret (v := ndVal lf (.slice Aa na ca) (.slice Ab nb cb) (.slice Az nz cz)) (by simp [results, Try.results14, go_sem, q0, q1, q2, q3]) rfl ⟨_, _, _, rfl, by rw [HCt.out]; exact HFi.out.weaken (by omega), HFb.out⟩
  · rw [if_pos (by rfl)]
    have Hs1 := Lib.hid (Hs0.out.empty' (m := w.heap.size + 1 + 1) (by simp))
    have Sc := Lib.hid Hs1.out.cells
    go_simp
    refine hK.out _ _ (fun _ => Sc.out) ?_
    clear hK K
    try go_frame
    refine anyU_ready (rs := [4]) (by kernel_rfl) (by simp) (AllU.cons (o := ⟨some 15, .call { callee := .value (.func 34), args := #[.tmp 14], argTypes := #[24] }, _, _, _, none⟩) rfl (fun K hK => ?_) (fun h => absurd h (by decide)) AllU.nil)
    rw [if_pos (by rfl)]
    go_simp
    refine (Hs1.out.textsK HR.out).mono ?_
    rintro e wa ⟨Aa, na, ca, rfl, ha⟩
    have Hs2 := Lib.hid ha
    have Sa := Lib.hid ha.cells
    clear ha
    dsimp only
    refine hK.out _ _ (fun _ => Sa.out) ?_
    clear hK K
    try go_frame
    refine anyU_ready (rs := [7]) (by kernel_rfl) (by simp) (AllU.cons (o := ⟨some 18, .call { callee := .value (.func 34), args := #[.tmp 17], argTypes := #[24] }, _, _, _, none⟩) rfl (fun K hK => ?_) (fun h => absurd h (by decide)) AllU.nil)
    rw [if_pos (by rfl)]
    go_simp
    refine (Hs2.out.textsV HR.out).mono ?_
    rintro e wb ⟨Ab, nb, cb, rfl, hb⟩
    have Hs3 := Lib.hid hb
    have Sb := Lib.hid hb.cells
    clear hb
    dsimp only
    refine hK.out _ _ (fun _ => Sb.out) ?_
    clear hK K
    try go_frame
    refine anyU_ready (rs := [10]) (by kernel_rfl) (by simp) (AllU.cons (o := ⟨some 21, .call { callee := .builtin .append, args := #[.tmp 19, .tmp 20], argTypes := #[25, 25] }, _, _, _, none⟩) rfl (fun K hK => ?_) (fun h => absurd h (by decide)) AllU.nil)
    rw [if_pos (by rfl)]
    obtain ⟨Az, nz, cz, wz, hrz, hz⟩ := Hs3.out.app HXD.out HDL.out
    have Hz := Lib.hid hz
    have Sz := Lib.hid (And.intro hz.box.c0 (And.intro hz.box.c1 hz.box.c2))
    have Hrz := Lib.hid hrz
    clear hz hrz
    refine wp_run (.slice Az nz cz) wz (exec_append (t := 25) (x := .tmp 19) (y := .tmp 20) rfl rfl rfl Hrz.out) ?_
    refine hK.out _ _ (fun _ => Sz.out) ?_
    clear hK K
    go_frame
    obtain ⟨y0, y1, y2, y3, f0, f1, f2, f3⟩ := out_cells Hz.out.out
    refine' anyU_take0 (i := 11) (oi := ⟨some 22, .build 27 #[(0, .tmp 12), (1, .tmp 15), (2, .tmp 18), (3, .tmp 21)], _, _, _, none⟩) (v := _) rfl (by kernel_rfl) (fun _ _ _ h => h) (Or.inl ⟨by rfl, ?hy10⟩) (by assumption) ?rest10
    case hy10 => (intro w hSw; go_simp <;> with_reducible rfl)
    case rest10 =>
    go_frame
    refine anyU_ready (rs := [12]) (by kernel_rfl) (by simp) (AllU.cons (o := ⟨none, .store 27 (.tmp 2) (.tmp 22), _, _, _, none⟩) rfl (fun K hK => ?_) (fun _ => by kernel_rfl) AllU.nil)
    rw [if_pos (by rfl)]
    go_simp
    refine hK.out _ _ (fun h => absurd h (by decide)) ?_
    clear hK K
    try go_frame
    refine anyU_done (by kernel_rfl) ?_ _
    obtain ⟨W, hW⟩ : ∃ W, W = store4 wz (w.heap.size + 1) lf (.slice Aa na ca) (.slice Ab nb cb) (.slice Az nz cz) := ⟨_, rfl⟩
    have hbox := box_of_top (store4_top (lf := lf) (K := .slice Aa na ca) (V := .slice Ab nb cb) (D := .slice Az nz cz) Hz.out.out)
    have hfi := Hz.out.new.store4 (lf := lf) (K := .slice Aa na ca) (V := .slice Ab nb cb) (D := .slice Az nz cz) (N := w.heap.size + 1) (by omega)
    have hfb := Hz.out.below.trans (store4_below (w := wz) (lf := lf) (K := .slice Aa na ca) (V := .slice Ab nb cb) (D := .slice Az nz cz) (show w.heap.size ≤ w.heap.size + 1 by omega))
    rw [← hW] at hbox hfi hfb
    obtain ⟨q0, q1, q2, q3⟩ := hbox
    have HFi := Lib.hid hfi
    have HFb := Lib.hid hfb
    unfold store4 at hW
    rw [← hW]
    clear hW hfi hfb y0 y1 y2 y3 f0 f1 f2 f3
    go_wp2_with fail
    exact bodyPost_ret (v := ndVal lf (.slice Aa na ca) (.slice Ab nb cb) (.slice Az nz cz)) (by simp [results, Try.results14, go_sem, q0, q1, q2, q3]) rfl ⟨_, _, _, rfl, by rw [HCt.out]; exact HFi.out.weaken (by omega), HFb.out⟩
set_option maxRecDepth 100000 in
set_option maxHeartbeats 800000 in
theorem fewNd_cut {n : Nd} {K V D : Value} {w : World} (hr : NdIs w w.heap.size K V D n) (hk : 41 < n.kids.length) :
    Calls Try.prog 14 #[ndVal n.leaf K V D] w fun e w' => ∃ K' V' D', e = .returned (ndVal n.leaf K' V' D') ∧ NdNew w' w.heap.size K' V' D' (cutNd n) ∧ Below w.heap.size w w' := by
  obtain ⟨A1, c1, A2, c2, A3, c3, rfl, rfl, rfl⟩ := hr.form
  obtain ⟨_, hdc, hdm⟩ := hr.kids.lenI
  have hxd : Rd w w.heap.size (.slice A3 41 c3) (cellsI (n.kids.take 41)) := by
    have := hr.kids.upto (hi := 41) (by omega)
    unfold cellsI at this ⊢
    rwa [← List.map_take] at this
  obtain ⟨lf, hlf⟩ : ∃ x, x = n.leaf := ⟨_, rfl⟩
  have hct : cutNd n = ⟨lf, cutL n.keys, cutL n.vals, n.kids.take 41⟩ := by rw [hlf]; rfl
  obtain ⟨a, ha⟩ : ∃ x, x = n.keys.length := ⟨_, rfl⟩
  obtain ⟨b, hb⟩ : ∃ x, x = n.vals.length := ⟨_, rfl⟩
  obtain ⟨d, hd⟩ : ∃ x, x = n.kids.length := ⟨_, rfl⟩
  rw [← ha, ← hb, ← hd] at hr
  rw [← hd] at hdc hk
  rw [← hlf, ← ha, ← hb, ← hd]
  have hs0 := FewW.start (w0 := w) (lf := lf) (K := .slice A1 a c1) (V := .slice A2 b c2) (D := .slice A3 d c3)
  obtain ⟨x0, x1, x2, x3⟩ := hs0.box
  have S0 := hs0.drew.cells
  have Hs0 := Lib.hid hs0.drew
  have HR := Lib.hid hr
  have HXD := Lib.hid hxd
  have HDL := Lib.hid (show (n.kids.take 41).length ≤ 1000 by simp; omega)
  have HCt := Lib.hid hct
  clear hs0 hr hxd hct ha hb hd hlf
  go_enter Try.func14, Try.ntmps14
  go_wp2_with fail
  refine wp_region_late (S := fun w' => w'.cell? ⟨w.heap.size, 0, none⟩ = some (.bool lf) ∧ w'.cell? ⟨w.heap.size, 1, none⟩ = some (.slice A1 a c1) ∧ w'.cell? ⟨w.heap.size, 2, none⟩ = some (.slice A2 b c2)) [12] (by kernel_rfl) S0 (fun hHeld => ?_)
  refine' anyU_take0 (i := 0) (oi := ⟨some 11, .fieldAddr 27 (.tmp 1) 0, _, _, _, none⟩) (v := _) rfl (by kernel_rfl) (fun _ _ _ h => h) (Or.inl ⟨by rfl, ?hy11⟩) (by assumption) ?rest11
  case hy11 => (intro w hSw; go_simp <;> with_reducible rfl)
  case rest11 =>
  go_frame
  refine' anyU_take (i := 1) (oi := ⟨some 12, .load 4 (.tmp 11), _, _, _, none⟩) (v := _) rfl (by kernel_rfl) (fun _ _ _ h => h) (Or.inl ⟨by rfl, ?hy12⟩) (by assumption) ?rest12
  case hy12 => (intro w hSw; obtain ⟨s0, s1, s2⟩ := hSw; go_simp <;> with_reducible rfl)
  case rest12 =>
  go_frame
  refine' anyU_take0 (i := 2) (oi := ⟨some 13, .fieldAddr 27 (.tmp 1) 1, _, _, _, none⟩) (v := _) rfl (by kernel_rfl) (fun _ _ _ h => h) (Or.inl ⟨by rfl, ?hy13⟩) (by assumption) ?rest13
  case hy13 => (intro w hSw; go_simp <;> with_reducible rfl)
  case rest13 =>
  go_frame
  refine' anyU_take (i := 3) (oi := ⟨some 14, .load 24 (.tmp 13), _, _, _, none⟩) (v := _) rfl (by kernel_rfl) (fun _ _ _ h => h) (Or.inl ⟨by rfl, ?hy14⟩) (by assumption) ?rest14
  case hy14 => (intro w hSw; obtain ⟨s0, s1, s2⟩ := hSw; go_simp <;> with_reducible rfl)
  case rest14 =>
  go_frame
  refine' anyU_take0 (i := 5) (oi := ⟨some 16, .fieldAddr 27 (.tmp 1) 2, _, _, _, none⟩) (v := _) rfl (by kernel_rfl) (fun _ _ _ h => h) (Or.inl ⟨by rfl, ?hy15⟩) (by assumption) ?rest15
  case hy15 => (intro w hSw; go_simp <;> with_reducible rfl)
  case rest15 =>
  go_frame
  refine' anyU_take (i := 6) (oi := ⟨some 17, .load 24 (.tmp 16), _, _, _, none⟩) (v := _) rfl (by kernel_rfl) (fun _ _ _ h => h) (Or.inl ⟨by rfl, ?hy16⟩) (by assumption) ?rest16
  case hy16 => (intro w hSw; obtain ⟨s0, s1, s2⟩ := hSw; go_simp <;> with_reducible rfl)
  case rest16 =>
  go_frame
  refine' anyU_take0 (i := 9) (oi := ⟨some 20, .move (.tmp 3), _, _, _, none⟩) (v := _) rfl (by kernel_rfl) (fun _ _ _ h => h) (Or.inl ⟨by rfl, ?hy17⟩) (by assumption) ?rest17
  case hy17 => (intro w hSw; go_simp <;> with_reducible rfl)
  case rest17 =>
  go_frame
  refine anyU_ready (rs := [4, 8]) (by kernel_rfl) (by simp) (AllU.cons (o := ⟨some 15, .call { callee := .value (.func 34), args := #[.tmp 14], argTypes := #[24] }, _, _, _, none⟩) rfl (fun K hK => ?_) (fun h => absurd h (by decide)) (AllU.cons (o := ⟨some 19, .buildSlice 25 0 #[], _, _, _, none⟩) rfl (fun K hK => ?_) (fun h => absurd h (by decide)) AllU.nil))
  · rw [if_pos (by rfl)]
    go_simp
    refine (Hs0.out.textsK HR.out).mono ?_
    rintro e wa ⟨Aa, na, ca, rfl, ha⟩
    have Hs1 := Lib.hid ha
    have Sa := Lib.hid ha.cells
    clear ha
    dsimp only
    refine hK.out _ _ (fun _ => Sa.out) ?_
    clear hK K
    try go_frame
    refine anyU_ready (rs := [7, 8]) (by kernel_rfl) (by simp) (AllU.cons (o := ⟨some 18, .call { callee := .value (.func 34), args := #[.tmp 17], argTypes := #[24] }, _, _, _, none⟩) rfl (fun K hK => ?_) (fun h => absurd h (by decide)) (AllU.cons (o := ⟨some 19, .buildSlice 25 0 #[], _, _, _, none⟩) rfl (fun K hK => ?_) (fun h => absurd h (by decide)) AllU.nil))
    · rw [if_pos (by rfl)]
      go_simp
      refine (Hs1.out.textsV HR.out).mono ?_
      rintro e wb ⟨Ab, nb, cb, rfl, hb⟩
      have Hs2 := Lib.hid hb
      have Sb := Lib.hid hb.cells
      clear hb
      dsimp only
      refine hK.out _ _ (fun _ => Sb.out) ?_
      clear hK K
      try go_frame
      refine anyU_ready (rs := [8]) (by kernel_rfl) (by simp) (AllU.cons (o := ⟨some 19, .buildSlice 25 0 #[], _, _, _, none⟩) rfl (fun K hK => ?_) (fun h => absurd h (by decide)) AllU.nil)
      rw [if_pos (by rfl)]
      have Hs3 := Lib.hid (Hs2.out.empty' rfl)
      have Sc := Lib.hid Hs3.out.cells
      go_simp
      refine hK.out _ _ (fun _ => Sc.out) ?_
      clear hK K
      try go_frame
      refine anyU_ready (rs := [10]) (by kernel_rfl) (by simp) (AllU.cons (o := ⟨some 21, .call { callee := .builtin .append, args := #[.tmp 19, .tmp 20], argTypes := #[25, 25] }, _, _, _, none⟩) rfl (fun K hK => ?_) (fun h => absurd h (by decide)) AllU.nil)
      rw [if_pos (by rfl)]
      obtain ⟨Az, nz, cz, wz, hrz, hz⟩ := Hs3.out.app HXD.out HDL.out
      have Hz := Lib.hid hz
      have Sz := Lib.hid (And.intro hz.box.c0 (And.intro hz.box.c1 hz.box.c2))
      have Hrz := Lib.hid hrz
      clear hz hrz
      refine wp_run (.slice Az nz cz) wz (exec_append (t := 25) (x := .tmp 19) (y := .tmp 20) rfl rfl rfl Hrz.out) ?_
      refine hK.out _ _ (fun _ => Sz.out) ?_
      clear hK K
      go_frame
      obtain ⟨y0, y1, y2, y3, f0, f1, f2, f3⟩ := out_cells Hz.out.out
      refine' anyU_take0 (i := 11) (oi := ⟨some 22, .build 27 #[(0, .tmp 12), (1, .tmp 15), (2, .tmp 18), (3, .tmp 21)], _, _, _, none⟩) (v := _) rfl (by kernel_rfl) (fun _ _ _ h => h) (Or.inl ⟨by rfl, ?hy18⟩) (by assumption) ?rest18
      case hy18 => (intro w hSw; go_simp <;> with_reducible rfl)
      case rest18 =>
      go_frame
      refine anyU_ready (rs := [12]) (by kernel_rfl) (by simp) (AllU.cons (o := ⟨none, .store 27 (.tmp 2) (.tmp 22), _, _, _, none⟩) rfl (fun K hK => ?_) (fun _ => by kernel_rfl) AllU.nil)
      rw [if_pos (by rfl)]
      go_simp
      refine hK.out _ _ (fun h => absurd h (by decide)) ?_
      clear hK K
      try go_frame
      refine anyU_done (by kernel_rfl) ?_ _
      obtain ⟨W, hW⟩ : ∃ W, W = store4 wz (w.heap.size + 1) lf (.slice Aa na ca) (.slice Ab nb cb) (.slice Az nz cz) := ⟨_, rfl⟩
      have hbox := box_of_top (store4_top (lf := lf) (K := .slice Aa na ca) (V := .slice Ab nb cb) (D := .slice Az nz cz) Hz.out.out)
      have hfi := Hz.out.new.store4 (lf := lf) (K := .slice Aa na ca) (V := .slice Ab nb cb) (D := .slice Az nz cz) (N := w.heap.size + 1) (by omega)
      have hfb := Hz.out.below.trans (store4_below (w := wz) (lf := lf) (K := .slice Aa na ca) (V := .slice Ab nb cb) (D := .slice Az nz cz) (show w.heap.size ≤ w.heap.size + 1 by omega))
      rw [← hW] at hbox hfi hfb
      obtain ⟨q0, q1, q2, q3⟩ := hbox
      have HFi := Lib.hid hfi
      have HFb := Lib.hid hfb
      unfold store4 at hW
      rw [← hW]
      clear hW hfi hfb y0 y1 y2 y3 f0 f1 f2 f3
      go_wp2_with fail
      exact bodyPost_ret (v := ndVal lf (.slice Aa na ca) (.slice Ab nb cb) (.slice Az nz cz)) (by simp [results, Try.results14, go_sem, q0, q1, q2, q3]) rfl ⟨_, _, _, rfl, by rw [HCt.out]; exact HFi.out.weaken (by omega), HFb.out⟩
    · rw [if_pos (by rfl)]
      have Hs2 := Lib.hid (Hs1.out.empty' rfl)
      have Sc := Lib.hid Hs2.out.cells
      go_simp
      refine hK.out _ _ (fun _ => Sc.out) ?_
      clear hK K
      try go_frame
      refine anyU_ready (rs := [7]) (by kernel_rfl) (by simp) (AllU.cons (o := ⟨some 18, .call { callee := .value (.func 34), args := #[.tmp 17], argTypes := #[24] }, _, _, _, none⟩) rfl (fun K hK => ?_) (fun h => absurd h (by decide)) AllU.nil)
      rw [if_pos (by rfl)]
      go_simp
      refine (Hs2.out.textsV HR.out).mono ?_
      rintro e wb ⟨Ab, nb, cb, rfl, hb⟩
      have Hs3 := Lib.hid hb
      have Sb := Lib.hid hb.cells
      clear hb
      dsimp only
      refine hK.out _ _ (fun _ => Sb.out) ?_
      clear hK K
      try go_frame
      refine anyU_ready (rs := [10]) (by kernel_rfl) (by simp) (AllU.cons (o := ⟨some 21, .call { callee := .builtin .append, args := #[.tmp 19, .tmp 20], argTypes := #[25, 25] }, _, _, _, none⟩) rfl (fun K hK => ?_) (fun h => absurd h (by decide)) AllU.nil)
      rw [if_pos (by rfl)]
      obtain ⟨Az, nz, cz, wz, hrz, hz⟩ := Hs3.out.app HXD.out HDL.out
      have Hz := Lib.hid hz
      have Sz := Lib.hid (And.intro hz.box.c0 (And.intro hz.box.c1 hz.box.c2))
      have Hrz := Lib.hid hrz
      clear hz hrz
      refine wp_run (.slice Az nz cz) wz (exec_append (t := 25) (x := .tmp 19) (y := .tmp 20) rfl rfl rfl Hrz.out) ?_
      refine hK.out _ _ (fun _ => Sz.out) ?_
      clear hK K
      go_frame
      obtain ⟨y0, y1, y2, y3, f0, f1, f2, f3⟩ := out_cells Hz.out.out
      refine' anyU_take0 (i := 11) (oi := ⟨some 22, .build 27 #[(0, .tmp 12), (1, .tmp 15), (2, .tmp 18), (3, .tmp 21)], _, _, _, none⟩) (v := _) rfl (by kernel_rfl) (fun _ _ _ h => h) (Or.inl ⟨by rfl, ?hy19⟩) (by assumption) ?rest19
      case hy19 => (intro w hSw; go_simp <;> with_reducible rfl)
      case rest19 =>
      go_frame
      refine anyU_ready (rs := [12]) (by kernel_rfl) (by simp) (AllU.cons (o := ⟨none, .store 27 (.tmp 2) (.tmp 22), _, _, _, none⟩) rfl (fun K hK => ?_) (fun _ => by kernel_rfl) AllU.nil)
      rw [if_pos (by rfl)]
      go_simp
      refine hK.out _ _ (fun h => absurd h (by decide)) ?_
      clear hK K
      try go_frame
      refine anyU_done (by kernel_rfl) ?_ _
      obtain ⟨W, hW⟩ : ∃ W, W = store4 wz (w.heap.size + 1) lf (.slice Aa na ca) (.slice Ab nb cb) (.slice Az nz cz) := ⟨_, rfl⟩
      have hbox := box_of_top (store4_top (lf := lf) (K := .slice Aa na ca) (V := .slice Ab nb cb) (D := .slice Az nz cz) Hz.out.out)
      have hfi := Hz.out.new.store4 (lf := lf) (K := .slice Aa na ca) (V := .slice Ab nb cb) (D := .slice Az nz cz) (N := w.heap.size + 1) (by omega)
      have hfb := Hz.out.below.trans (store4_below (w := wz) (lf := lf) (K := .slice Aa na ca) (V := .slice Ab nb cb) (D := .slice Az nz cz) (show w.heap.size ≤ w.heap.size + 1 by omega))
      rw [← hW] at hbox hfi hfb
      obtain ⟨q0, q1, q2, q3⟩ := hbox
      have HFi := Lib.hid hfi
      have HFb := Lib.hid hfb
      unfold store4 at hW
      rw [← hW]
      clear hW hfi hfb y0 y1 y2 y3 f0 f1 f2 f3
      go_wp2_with fail
      exact bodyPost_ret (v := ndVal lf (.slice Aa na ca) (.slice Ab nb cb) (.slice Az nz cz)) (by simp [results, Try.results14, go_sem, q0, q1, q2, q3]) rfl ⟨_, _, _, rfl, by rw [HCt.out]; exact HFi.out.weaken (by omega), HFb.out⟩
  · rw [if_pos (by rfl)]
    have Hs1 := Lib.hid (Hs0.out.empty' (m := w.heap.size + 1 + 1) (by simp))
    have Sc := Lib.hid Hs1.out.cells
    go_simp
    refine hK.out _ _ (fun _ => Sc.out) ?_
    clear hK K
    try go_frame
    refine anyU_ready (rs := [4]) (by kernel_rfl) (by simp) (AllU.cons (o := ⟨some 15, .call { callee := .value (.func 34), args := #[.tmp 14], argTypes := #[24] }, _, _, _, none⟩) rfl (fun K hK => ?_) (fun h => absurd h (by decide)) AllU.nil)
    rw [if_pos (by rfl)]
    go_simp
    refine (Hs1.out.textsK HR.out).mono ?_
    rintro e wa ⟨Aa, na, ca, rfl, ha⟩
    have Hs2 := Lib.hid ha
    have Sa := Lib.hid ha.cells
    clear ha
    dsimp only
    refine hK.out _ _ (fun _ => Sa.out) ?_
    clear hK K
    try go_frame
    refine anyU_ready (rs := [7]) (by kernel_rfl) (by simp) (AllU.cons (o := ⟨some 18, .call { callee := .value (.func 34), args := #[.tmp 17], argTypes := #[24] }, _, _, _, none⟩) rfl (fun K hK => ?_) (fun h => absurd h (by decide)) AllU.nil)
    rw [if_pos (by rfl)]
    go_simp
    refine (Hs2.out.textsV HR.out).mono ?_
    rintro e wb ⟨Ab, nb, cb, rfl, hb⟩
    have Hs3 := Lib.hid hb
    have Sb := Lib.hid hb.cells
    clear hb
    dsimp only
    refine hK.out _ _ (fun _ => Sb.out) ?_
    clear hK K
    try go_frame
    refine anyU_ready (rs := [10]) (by kernel_rfl) (by simp) (AllU.cons (o := ⟨some 21, .call { callee := .builtin .append, args := #[.tmp 19, .tmp 20], argTypes := #[25, 25] }, _, _, _, none⟩) rfl (fun K hK => ?_) (fun h => absurd h (by decide)) AllU.nil)
    rw [if_pos (by rfl)]
    obtain ⟨Az, nz, cz, wz, hrz, hz⟩ := Hs3.out.app HXD.out HDL.out
    have Hz := Lib.hid hz
    have Sz := Lib.hid (And.intro hz.box.c0 (And.intro hz.box.c1 hz.box.c2))
    have Hrz := Lib.hid hrz
    clear hz hrz
    refine wp_run (.slice Az nz cz) wz (exec_append (t := 25) (x := .tmp 19) (y := .tmp 20) rfl rfl rfl Hrz.out) ?_
    refine hK.out _ _ (fun _ => Sz.out) ?_
    clear hK K
    go_frame
    obtain ⟨y0, y1, y2, y3, f0, f1, f2, f3⟩ := out_cells Hz.out.out
    refine' anyU_take0 (i := 11) (oi := ⟨some 22, .build 27 #[(0, .tmp 12), (1, .tmp 15), (2, .tmp 18), (3, .tmp 21)], _, _, _, none⟩) (v := _) rfl (by kernel_rfl) (fun _ _ _ h => h) (Or.inl ⟨by rfl, ?hy20⟩) (by assumption) ?rest20
    case hy20 => (intro w hSw; go_simp <;> with_reducible rfl)
    case rest20 =>
    go_frame
    refine anyU_ready (rs := [12]) (by kernel_rfl) (by simp) (AllU.cons (o := ⟨none, .store 27 (.tmp 2) (.tmp 22), _, _, _, none⟩) rfl (fun K hK => ?_) (fun _ => by kernel_rfl) AllU.nil)
    rw [if_pos (by rfl)]
    go_simp
    refine hK.out _ _ (fun h => absurd h (by decide)) ?_
    clear hK K
    try go_frame
    refine anyU_done (by kernel_rfl) ?_ _
    obtain ⟨W, hW⟩ : ∃ W, W = store4 wz (w.heap.size + 1) lf (.slice Aa na ca) (.slice Ab nb cb) (.slice Az nz cz) := ⟨_, rfl⟩
    have hbox := box_of_top (store4_top (lf := lf) (K := .slice Aa na ca) (V := .slice Ab nb cb) (D := .slice Az nz cz) Hz.out.out)
    have hfi := Hz.out.new.store4 (lf := lf) (K := .slice Aa na ca) (V := .slice Ab nb cb) (D := .slice Az nz cz) (N := w.heap.size + 1) (by omega)
    have hfb := Hz.out.below.trans (store4_below (w := wz) (lf := lf) (K := .slice Aa na ca) (V := .slice Ab nb cb) (D := .slice Az nz cz) (show w.heap.size ≤ w.heap.size + 1 by omega))
    rw [← hW] at hbox hfi hfb
    obtain ⟨q0, q1, q2, q3⟩ := hbox
    have HFi := Lib.hid hfi
    have HFb := Lib.hid hfb
    unfold store4 at hW
    rw [← hW]
    clear hW hfi hfb y0 y1 y2 y3 f0 f1 f2 f3
    go_wp2_with fail
    exact bodyPost_ret (v := ndVal lf (.slice Aa na ca) (.slice Ab nb cb) (.slice Az nz cz)) (by simp [results, Try.results14, go_sem, q0, q1, q2, q3]) rfl ⟨_, _, _, rfl, by rw [HCt.out]; exact HFi.out.weaken (by omega), HFb.out⟩
theorem fewNd_any {n : Nd} {K V D : Value} {w : World} (hr : NdIs w w.heap.size K V D n) :
    Calls Try.prog 14 #[ndVal n.leaf K V D] w fun e w' => ∃ K' V' D', e = .returned (ndVal n.leaf K' V' D') ∧ NdNew w' w.heap.size K' V' D' (cutNd n) ∧ Below w.heap.size w w' := by
  rcases Nat.lt_or_ge 41 n.kids.length with h | h
  · exact fewNd_cut hr h
  · exact fewNd_all hr h
end Go.Proofs.Ytceefoopehoalaa
