/-
  A node in new memory: copies, copied of package node, by contracts.
-/
import Derived.Test.YtceefoopehoalaaNdConcat
import Derived.Test.YtceefoopehoalaaNdFew
namespace Go.Proofs.Ytceefoopehoalaa
open Go.RowKit
set_option maxHeartbeats 400000 in
theorem copies_any (A : Option Addr) (n c : Nat) (ls : List (List UInt8)) (w : World) (B : Nat) (hr : RdAll w B (.slice A n c) ls) (hB : B ≤ w.heap.size) (hn : n ≤ 1000000) (hkl : ∀ j, j < n → (ls.getD j []).length ≤ 1000000) :
    Calls Try.prog 56 #[.slice A n c] w fun e w' => ∃ A' n' c', e = .returned (.slice A' n' c') ∧ OwnT w' 0 w.heap.size (.slice A' n' c') ls ∧ Below w.heap.size w w' := by
  obtain ⟨hl, hnc, hcm⟩ := hr.len
  have hmore := fun k (h : k < n) => take_more ls [] (k := k) (by omega)
  have hall : ls.take n = ls := by rw [hl, List.take_length]
  have hlen : ∀ k, (ls.take k).length ≤ k := fun k => by simp; omega
  have HM := Lib.hid hmore
  have HA := Lib.hid hall
  have HL := Lib.hid hlen
  have HK := Lib.hid hkl
  clear hl hmore hall hlen hkl
  go_enter Try.func56, Try.ntmps56
  go_wp2_with fail
  go_loopw [3, 8] (fun ov iv wr => ∃ (k : Nat) (A1 : Option Addr) (n1 c1 : Nat), k ≤ n ∧ iv = .int .i64 (k : Int) ∧ ov = .slice A1 n1 c1 ∧ Hid (OwnT wr 0 w.heap.size (.slice A1 n1 c1) (ls.take k) ∧ Below w.heap.size w wr)) (fun _ iv _ => n - (intOf iv).toNat)
  case atStart => exact ⟨0, _, _, _, Nat.zero_le _, rfl, rfl, Lib.hid ⟨OwnT.nil _ _ _, Below.refl _ _⟩⟩
  case round =>
    obtain ⟨k, A1, n1, c1, hk, rfl, rfl, HI⟩ := hrel
    by_cases hlt : k < n
    · have hrw := hr.below (HI.out.2.mono hB)
      obtain ⟨b, o, rfl, hb⟩ := hr.addr (by omega)
      obtain ⟨A', m, c', hc, hp, hm, hmc, hmx⟩ := hrw.cell hlt
      have hby := bytes_one (.slice A' m c') (ls.getD k []) 22 wr B hp (Nat.le_trans hB HI.out.2.size) (by have := HK.out k hlt; omega)
      have HF := Lib.hid hby
      clear hrw hp hm hby
      go_wp2_with (first
        | (go_at_call 43; refine HF.out.mono ?_; rintro e w2 ⟨v2, rfl, hown2, hb2⟩; obtain ⟨A2, c2, rfl⟩ := hown2.form; have Ht2 := Lib.hid (hown2.txt (B0 := 0) HI.out.2.size); have Hb2 := Lib.hid hb2; have Ho2 := Lib.hid (HI.out.1.keep (Fr.below hb2) (RowB.none _ _) (Nat.zero_le _) (fun _ _ e => by cases e)); clear hown2 hb2)
        | (at_builtin; refine wpList_append_T rfl (.tmp 12) (.tmp 16) rfl rfl (.slice A1 n1 c1) _ rfl (Ho2.out.keep (Fr.alloc _ _) (RowB.none _ _) (Nat.zero_le _) (fun _ _ e => by cases e)) _ _ rfl (RdT.lit1 Ht2.out (Nat.zero_le _) _) (by have := HL.out k; simp at this ⊢; omega) (by have := HI.out.2.size; have := Hb2.out.size; simp; omega) (Nat.zero_le _) ?_; intro A3 n3 c3 w3 ho3 hb3 _; have Ho3 := Lib.hid ho3; have Hb3 := Lib.hid (((up HI.out.2 Hb2.out).alloc (by have := HI.out.2.size; have := Hb2.out.size; omega) (.cells #[.slice A2 _ c2] 22)).trans hb3); clear ho3 hb3))
      go_roundw
      case rel =>
        refine ⟨k + 1, _, _, _, by omega, by go_num, rfl, Lib.hid ⟨?_, Hb3.out⟩⟩
        rw [← HM.out k hlt]
        exact Ho3.out
      case measure => simp [intOf]; omega
    · have h5 : n ≤ k := by omega
      have Hk := Lib.hid (show k = n by omega)
      clear hlt
      go_wp2_with fail
      go_ret
      refine ⟨_, _, _, rfl, ?_, HI.out.2⟩
      rw [← HA.out, ← Hk.out]
      exact HI.out.1
/-- copied at work. -/
structure CopW (w0 w : World) (lf : Bool) (K V D uK uV : Value) (ks vs : List (List UInt8)) (ds : List Int) (g : Option Nat) : Prop where
  box : NdBox w w0.heap.size lf K V D
  out : w.heap[w0.heap.size + 1]? = some (.cells #[.bool false, .slice none 0 0, .slice none 0 0, .slice none 0 0] 27 (0, 0))
  rK : OwnT w 0 (w0.heap.size + 2) uK ks
  rV : OwnT w 0 (w0.heap.size + 2) uV vs
  e : ∀ b, g = some b → RdRowsI w w.heap.size (.slice (some ⟨b, 0, none⟩) 1 1) [ds]
  le : w0.heap.size + 2 ≤ w.heap.size
  below : Below w0.heap.size w0 w
section
variable {w0 w w' : World} {lf : Bool} {K V D uK uV v X : Value} {ks vs ls : List (List UInt8)} {g : Option Nat} {n : Nd} {ds : List Int}
theorem RdRowsI.more {w : World} {B B' : Nat} {x : Value} {lss : List (List Int)} (h : RdRowsI w B x lss) (hB : B ≤ B') : RdRowsI w B' x lss := by
  obtain ⟨vs, h1, h2, h3⟩ := h
  exact ⟨vs, h1.more hB, h2, fun k u l a b => (h3 k u l a b).more hB⟩
theorem CopW.cells (h : CopW w0 w lf K V D uK uV ks vs ds g) : w.cell? ⟨w0.heap.size, 0, none⟩ = some (.bool lf) ∧ w.cell? ⟨w0.heap.size, 1, none⟩ = some K ∧ w.cell? ⟨w0.heap.size, 2, none⟩ = some V ∧ w.cell? ⟨w0.heap.size, 3, none⟩ = some D := ⟨h.box.c0, h.box.c1, h.box.c2, h.box.c3⟩
theorem CopW.kept (h : CopW w0 w lf K V D uK uV ks vs ds g) (hb : Below w.heap.size w w') : CopW w0 w' lf K V D uK uV ks vs ds g :=
  ⟨h.box.later h.box.lt hb, (hb.block _ (by have := h.le; omega)).trans h.out, h.rK.keep (Fr.below hb) (RowB.none _ _) (Nat.zero_le _) (fun _ _ e => by cases e), h.rV.keep (Fr.below hb) (RowB.none _ _) (Nat.zero_le _) (fun _ _ e => by cases e), fun b e => ((h.e b e).below hb).more hb.size, Nat.le_trans h.le hb.size, up h.below hb⟩
theorem CopW.drew (h : CopW w0 w lf K V D uK uV ks vs ds g) : CopW w0 w.drew lf K V D uK uV ks vs ds g := h.kept (Below.refl _ _).drew
theorem CopW.lit (h : CopW w0 w lf K V D uK uV ks vs ds g) (hr : Rd w0 w0.heap.size D (cellsI ds)) {m : Nat} (hm : w.heap.size = m) : CopW w0 (w.alloc (.cells #[D] 25)) lf K V D uK uV ks vs ds (some m) := by
  subst hm
  have h1 := h.kept ((Below.refl _ _).alloc (Nat.le_refl _) (.cells #[D] 25))
  refine ⟨h1.box, h1.out, h1.rK, h1.rV, fun b e => ?_, h1.le, h1.below⟩
  injection e with e
  subst e
  exact (RdRowsI.lit1 w 25 (a := D) (la := ds) ((hr.below h.below).more h.below.size)).more (by simp)
theorem CopW.copyK (h : CopW w0 w lf K V D (.slice none 0 0) uV [] vs ds g) (hr : NdIs w0 w0.heap.size K V D n) (hn : n.keys.length ≤ 1000000) (hkl : ∀ j, j < n.keys.length → (n.keys.getD j []).length ≤ 1000000) : Calls Try.prog 56 #[K] w fun e w' => ∃ A' n' c', e = .returned (.slice A' n' c') ∧ CopW w0 w' lf K V D (.slice A' n' c') uV n.keys vs ds g := by
  obtain ⟨A, c, rfl, hk⟩ := hr.keys.form
  refine (copies_any A _ c n.keys w w0.heap.size (hk.below h.below) h.below.size hn hkl).mono ?_
  rintro e w' ⟨A', n', c', rfl, ho, hb⟩
  have h1 := h.kept hb
  exact ⟨A', n', c', rfl, h1.box, h1.out, ho.weaken h.le, h1.rV, h1.e, h1.le, h1.below⟩
theorem CopW.copyV (h : CopW w0 w lf K V D uK (.slice none 0 0) ks [] ds g) (hr : NdIs w0 w0.heap.size K V D n) (hn : n.vals.length ≤ 1000000) (hkl : ∀ j, j < n.vals.length → (n.vals.getD j []).length ≤ 1000000) : Calls Try.prog 56 #[V] w fun e w' => ∃ A' n' c', e = .returned (.slice A' n' c') ∧ CopW w0 w' lf K V D uK (.slice A' n' c') ks n.vals ds g := by
  obtain ⟨A, c, rfl, hk⟩ := hr.vals.form
  refine (copies_any A _ c n.vals w w0.heap.size (hk.below h.below) h.below.size hn hkl).mono ?_
  rintro e w' ⟨A', n', c', rfl, ho, hb⟩
  have h1 := h.kept hb
  exact ⟨A', n', c', rfl, h1.box, h1.out, h1.rK, ho.weaken h.le, h1.e, h1.le, h1.below⟩
theorem CopW.concat {b : Nat} (h : CopW w0 w lf K V D uK uV ks vs ds (some b)) (hn : ds.length ≤ 1000000) : Calls Try.prog 45 #[.slice (some ⟨b, 0, none⟩) 1 1] w fun e w' => ∃ A' n' c', e = .returned (.slice A' n' c') ∧ FewZ w0 w' lf K V D uK uV (.slice A' n' c') ⟨lf, ks, vs, ds⟩ := by
  refine (concatI_any _ 1 1 [ds] w w.heap.size (h.e b rfl) (Nat.le_refl _) (by omega) (by simpa using hn)).mono ?_
  rintro e w' ⟨v, rfl, ho, hb⟩
  rw [show [ds].flatten = ds by simp] at ho
  obtain ⟨A', c', rfl⟩ := ho.form
  have h1 := h.kept hb
  exact ⟨A', _, c', rfl, h1.box, h1.out, ⟨h1.rK, h1.rV, ho.weaken h.le⟩, h1.below⟩
theorem CopW.start : CopW w0 ((w0.alloc (.cells #[.bool lf, K, V, D] 27)).alloc (.cells #[.bool false, .slice none 0 0, .slice none 0 0, .slice none 0 0] 27)) lf K V D (.slice none 0 0) (.slice none 0 0) [] [] ds none := by
  have e1 : (w0.alloc (.cells #[.bool lf, K, V, D] 27)).heap.size = w0.heap.size + 1 := by simp
  refine ⟨(NdBox.made w0 lf K V D).later (by simp) ((Below.refl (w0.alloc (.cells #[.bool lf, K, V, D] 27)).heap.size _).alloc (Nat.le_refl _) _), ?_, OwnT.nil _ _ _, OwnT.nil _ _ _, (fun b e => by cases e), by simp, ((Below.refl _ _).alloc (Nat.le_refl _) _).alloc (by rw [e1]; omega) _⟩
  rw [← e1]
  exact heap_alloc_last _ _
end
/-- All lengths of a node's texts are small. -/
def Nd.Small (n : Nd) : Prop := (∀ j, j < n.keys.length → (n.keys.getD j []).length ≤ 1000000) ∧ (∀ j, j < n.vals.length → (n.vals.getD j []).length ≤ 1000000)
set_option maxRecDepth 100000 in
set_option maxHeartbeats 800000 in
theorem copied_any {n : Nd} {K V D : Value} {w : World} (hr : NdIs w w.heap.size K V D n) (hsh : n.Short 1000000) (hsm : n.Small) :
    Calls Try.prog 41 #[ndVal n.leaf K V D] w fun e w' => ∃ K' V' D', e = .returned (ndVal n.leaf K' V' D') ∧ NdNew w' w.heap.size K' V' D' n ∧ Below w.heap.size w w' := by
  obtain ⟨A1, c1, A2, c2, A3, c3, rfl, rfl, rfl⟩ := hr.form
  obtain ⟨lf, hlf⟩ : ∃ x, x = n.leaf := ⟨_, rfl⟩
  have hct : n = ⟨lf, n.keys, n.vals, n.kids⟩ := by rw [hlf]
  obtain ⟨a, ha⟩ : ∃ x, x = n.keys.length := ⟨_, rfl⟩
  obtain ⟨b, hb⟩ : ∃ x, x = n.vals.length := ⟨_, rfl⟩
  obtain ⟨d, hd⟩ : ∃ x, x = n.kids.length := ⟨_, rfl⟩
  rw [← ha, ← hb, ← hd] at hr
  rw [← hlf, ← ha, ← hb, ← hd]
  have hs0 := CopW.start (w0 := w) (lf := lf) (K := .slice A1 a c1) (V := .slice A2 b c2) (D := .slice A3 d c3) (ds := n.kids)
  obtain ⟨x0, x1, x2, x3⟩ := hs0.box
  have S0 := hs0.drew.cells
  have Hs0 := Lib.hid hs0.drew
  have HR := Lib.hid hr
  have HSh := Lib.hid hsh
  have HSm := Lib.hid hsm
  have HCt := Lib.hid hct
  clear hs0 hr hct ha hb hd hlf hsh hsm
  go_enter Try.func41, Try.ntmps41
  go_wp2_with fail
  refine wp_region_late (S := fun w' => w'.cell? ⟨w.heap.size, 0, none⟩ = some (.bool lf) ∧ w'.cell? ⟨w.heap.size, 1, none⟩ = some (.slice A1 a c1) ∧ w'.cell? ⟨w.heap.size, 2, none⟩ = some (.slice A2 b c2) ∧ w'.cell? ⟨w.heap.size, 3, none⟩ = some (.slice A3 d c3)) [13] (by kernel_rfl) S0 (fun hHeld => ?_)
  refine' anyU_take0 (i := 0) (oi := ⟨some 3, .fieldAddr 27 (.tmp 1) 0, _, _, _, none⟩) (v := _) rfl (by kernel_rfl) (fun _ _ _ h => h) (Or.inl ⟨by rfl, ?hy1⟩) (by assumption) ?rest1
  case hy1 => (intro w hSw; go_simp <;> with_reducible rfl)
  case rest1 =>
  go_frame
  refine' anyU_take (i := 1) (oi := ⟨some 4, .load 4 (.tmp 3), _, _, _, none⟩) (v := _) rfl (by kernel_rfl) (fun _ _ _ h => h) (Or.inl ⟨by rfl, ?hy2⟩) (by assumption) ?rest2
  case hy2 => (intro w hSw; obtain ⟨s0, s1, s2, s3⟩ := hSw; go_simp <;> with_reducible rfl)
  case rest2 =>
  go_frame
  refine' anyU_take0 (i := 2) (oi := ⟨some 5, .fieldAddr 27 (.tmp 1) 1, _, _, _, none⟩) (v := _) rfl (by kernel_rfl) (fun _ _ _ h => h) (Or.inl ⟨by rfl, ?hy3⟩) (by assumption) ?rest3
  case hy3 => (intro w hSw; go_simp <;> with_reducible rfl)
  case rest3 =>
  go_frame
  refine' anyU_take (i := 3) (oi := ⟨some 6, .load 24 (.tmp 5), _, _, _, none⟩) (v := _) rfl (by kernel_rfl) (fun _ _ _ h => h) (Or.inl ⟨by rfl, ?hy4⟩) (by assumption) ?rest4
  case hy4 => (intro w hSw; obtain ⟨s0, s1, s2, s3⟩ := hSw; go_simp <;> with_reducible rfl)
  case rest4 =>
  go_frame
  refine' anyU_take0 (i := 5) (oi := ⟨some 8, .fieldAddr 27 (.tmp 1) 2, _, _, _, none⟩) (v := _) rfl (by kernel_rfl) (fun _ _ _ h => h) (Or.inl ⟨by rfl, ?hy5⟩) (by assumption) ?rest5
  case hy5 => (intro w hSw; go_simp <;> with_reducible rfl)
  case rest5 =>
  go_frame
  refine' anyU_take (i := 6) (oi := ⟨some 9, .load 24 (.tmp 8), _, _, _, none⟩) (v := _) rfl (by kernel_rfl) (fun _ _ _ h => h) (Or.inl ⟨by rfl, ?hy6⟩) (by assumption) ?rest6
  case hy6 => (intro w hSw; obtain ⟨s0, s1, s2, s3⟩ := hSw; go_simp <;> with_reducible rfl)
  case rest6 =>
  go_frame
  refine' anyU_take0 (i := 8) (oi := ⟨some 11, .fieldAddr 27 (.tmp 1) 3, _, _, _, none⟩) (v := _) rfl (by kernel_rfl) (fun _ _ _ h => h) (Or.inl ⟨by rfl, ?hy7⟩) (by assumption) ?rest7
  case hy7 => (intro w hSw; go_simp <;> with_reducible rfl)
  case rest7 =>
  go_frame
  refine' anyU_take (i := 9) (oi := ⟨some 12, .load 25 (.tmp 11), _, _, _, none⟩) (v := _) rfl (by kernel_rfl) (fun _ _ _ h => h) (Or.inl ⟨by rfl, ?hy8⟩) (by assumption) ?rest8
  case hy8 => (intro w hSw; obtain ⟨s0, s1, s2, s3⟩ := hSw; go_simp <;> with_reducible rfl)
  case rest8 =>
  go_frame
  refine anyU_ready (rs := [4, 10]) (by kernel_rfl) (by simp) (AllU.cons (o := ⟨some 7, .call { callee := .value (.func 56), args := #[.tmp 6], argTypes := #[24] }, _, _, _, none⟩) rfl (fun K hK => ?_) (fun h => absurd h (by decide)) (AllU.cons (o := ⟨some 13, .buildSlice 81 1 #[(0, .tmp 12)], _, _, _, none⟩) rfl (fun K hK => ?_) (fun h => absurd h (by decide)) AllU.nil))
  · rw [if_pos (by rfl)]
    go_simp
    refine (Hs0.out.copyK HR.out HSh.out.1 HSm.out.1).mono ?_
    rintro e wa ⟨Aa, na, ca, rfl, ha⟩
    have Hs1 := Lib.hid ha
    have Sa := Lib.hid ha.cells
    clear ha
    dsimp only
    refine hK.out _ _ (fun _ => Sa.out) ?_
    clear hK K
    try go_frame
    refine anyU_ready (rs := [7, 10]) (by kernel_rfl) (by simp) (AllU.cons (o := ⟨some 10, .call { callee := .value (.func 56), args := #[.tmp 9], argTypes := #[24] }, _, _, _, none⟩) rfl (fun K hK => ?_) (fun h => absurd h (by decide)) (AllU.cons (o := ⟨some 13, .buildSlice 81 1 #[(0, .tmp 12)], _, _, _, none⟩) rfl (fun K hK => ?_) (fun h => absurd h (by decide)) AllU.nil))
    · rw [if_pos (by rfl)]
      go_simp
      refine (Hs1.out.copyV HR.out HSh.out.2.1 HSm.out.2).mono ?_
      rintro e wb ⟨Ab, nb, cb, rfl, hb⟩
      have Hs2 := Lib.hid hb
      have Sb := Lib.hid hb.cells
      clear hb
      dsimp only
      refine hK.out _ _ (fun _ => Sb.out) ?_
      clear hK K
      try go_frame
      refine anyU_ready (rs := [10]) (by kernel_rfl) (by simp) (AllU.cons (o := ⟨some 13, .buildSlice 81 1 #[(0, .tmp 12)], _, _, _, none⟩) rfl (fun K hK => ?_) (fun h => absurd h (by decide)) AllU.nil)
      rw [if_pos (by rfl)]
      have Hs3 := Lib.hid (Hs2.out.lit HR.out.kids rfl)
      have Sc := Lib.hid Hs3.out.cells
      go_simp
      refine hK.out _ _ (fun _ => Sc.out) ?_
      clear hK K
      try go_frame
      refine anyU_ready (rs := [11]) (by kernel_rfl) (by simp) (AllU.cons (o := ⟨some 14, .call { callee := .value (.func 45), args := #[.tmp 13], argTypes := #[81] }, _, _, _, none⟩) rfl (fun K hK => ?_) (fun h => absurd h (by decide)) AllU.nil)
      rw [if_pos (by rfl)]
      go_simp
      refine (Hs3.out.concat HSh.out.2.2).mono ?_
      rintro e wz ⟨Az, nz, cz, rfl, hz⟩
      have Hz := Lib.hid hz
      have Sz := Lib.hid (And.intro hz.box.c0 (And.intro hz.box.c1 (And.intro hz.box.c2 hz.box.c3)))
      clear hz
      dsimp only
      refine hK.out _ _ (fun _ => Sz.out) ?_
      clear hK K
      try go_frame
      obtain ⟨y0, y1, y2, y3, f0, f1, f2, f3⟩ := out_cells Hz.out.out
      refine' anyU_take0 (i := 12) (oi := ⟨some 15, .build 27 #[(0, .tmp 4), (1, .tmp 7), (2, .tmp 10), (3, .tmp 14)], _, _, _, none⟩) (v := _) rfl (by kernel_rfl) (fun _ _ _ h => h) (Or.inl ⟨by rfl, ?hy9⟩) (by assumption) ?rest9
      case hy9 => (intro w hSw; go_simp <;> with_reducible rfl)
      case rest9 =>
      go_frame
      refine anyU_ready (rs := [13]) (by kernel_rfl) (by simp) (AllU.cons (o := ⟨none, .store 27 (.tmp 2) (.tmp 15), _, _, _, none⟩) rfl (fun K hK => ?_) (fun _ => by kernel_rfl) AllU.nil)
      rw [if_pos (by rfl)]
      go_simp
      refine hK.out _ _ (fun h => absurd h (by decide)) ?_
      clear hK K
      try go_frame
      refine anyU_done (by kernel_rfl) ?_ _
      obtain ⟨W, hW⟩ : ∃ W, W = store4 wz (w.heap.size + 1) lf (.slice Aa na ca) (.slice Ab nb cb) (.slice Az nz cz) := ⟨_, rfl⟩
      have hbox := box_of_top (store4_top (lf := lf) (K := .slice Aa na ca) (V := .slice Ab nb cb) (D := .slice Az nz cz) Hz.out.out)
      have hfi := Hz.out.new.store4 (lf := lf) (K := .slice Aa na ca) (V := .slice Ab nb cb) (D := .slice Az nz cz) (N := w.heap.size + 1) (by omega)
      have hfb := Hz.out.below.trans (store4_below (w := wz) (lf := lf) (K := .slice Aa na ca) (V := .slice Ab nb cb) (D := .slice Az nz cz) (show w.heap.size ≤ w.heap.size + 1 by omega))
      rw [← hW] at hbox hfi hfb
      obtain ⟨q0, q1, q2, q3⟩ := hbox
      have HFi := Lib.hid hfi
      have HFb := Lib.hid hfb
      unfold store4 at hW
      rw [← hW]
      clear hW hfi hfb y0 y1 y2 y3 f0 f1 f2 f3
      go_wp2_with fail
      exact bodyPost_ret (v := ndVal lf (.slice Aa na ca) (.slice Ab nb cb) (.slice Az nz cz)) (by simp [results, Try.results41, go_sem, q0, q1, q2, q3]) rfl ⟨_, _, _, rfl, by rw [HCt.out]; exact HFi.out.weaken (by omega), HFb.out⟩
    · rw [if_pos (by rfl)]
      have Hs2 := Lib.hid (Hs1.out.lit HR.out.kids rfl)
      have Sc := Lib.hid Hs2.out.cells
      go_simp
      refine hK.out _ _ (fun _ => Sc.out) ?_
      clear hK K
      try go_frame
      refine anyU_ready (rs := [7]) (by kernel_rfl) (by simp) (AllU.cons (o := ⟨some 10, .call { callee := .value (.func 56), args := #[.tmp 9], argTypes := #[24] }, _, _, _, none⟩) rfl (fun K hK => ?_) (fun h => absurd h (by decide)) AllU.nil)
      rw [if_pos (by rfl)]
      go_simp
      refine (Hs2.out.copyV HR.out HSh.out.2.1 HSm.out.2).mono ?_
      rintro e wb ⟨Ab, nb, cb, rfl, hb⟩
      have Hs3 := Lib.hid hb
      have Sb := Lib.hid hb.cells
      clear hb
      dsimp only
      refine hK.out _ _ (fun _ => Sb.out) ?_
      clear hK K
      try go_frame
      refine anyU_ready (rs := [11]) (by kernel_rfl) (by simp) (AllU.cons (o := ⟨some 14, .call { callee := .value (.func 45), args := #[.tmp 13], argTypes := #[81] }, _, _, _, none⟩) rfl (fun K hK => ?_) (fun h => absurd h (by decide)) AllU.nil)
      rw [if_pos (by rfl)]
      go_simp
      refine (Hs3.out.concat HSh.out.2.2).mono ?_
      rintro e wz ⟨Az, nz, cz, rfl, hz⟩
      have Hz := Lib.hid hz
      have Sz := Lib.hid (And.intro hz.box.c0 (And.intro hz.box.c1 (And.intro hz.box.c2 hz.box.c3)))
      clear hz
      dsimp only
      refine hK.out _ _ (fun _ => Sz.out) ?_
      clear hK K
      try go_frame
      obtain ⟨y0, y1, y2, y3, f0, f1, f2, f3⟩ := out_cells Hz.out.out
      refine' anyU_take0 (i := 12) (oi := ⟨some 15, .build 27 #[(0, .tmp 4), (1, .tmp 7), (2, .tmp 10), (3, .tmp 14)], _, _, _, none⟩) (v := _) rfl (by kernel_rfl) (fun _ _ _ h => h) (Or.inl ⟨by rfl, ?hy10⟩) (by assumption) ?rest10
      case hy10 => (intro w hSw; go_simp <;> with_reducible rfl)
      case rest10 =>
      go_frame
      refine anyU_ready (rs := [13]) (by kernel_rfl) (by simp) (AllU.cons (o := ⟨none, .store 27 (.tmp 2) (.tmp 15), _, _, _, none⟩) rfl (fun K hK => ?_) (fun _ => by kernel_rfl) AllU.nil)
      rw [if_pos (by rfl)]
      go_simp
      refine hK.out _ _ (fun h => absurd h (by decide)) ?_
      clear hK K
      try go_frame
      refine anyU_done (by kernel_rfl) ?_ _
      obtain ⟨W, hW⟩ : ∃ W, W = store4 wz (w.heap.size + 1) lf (.slice Aa na ca) (.slice Ab nb cb) (.slice Az nz cz) := ⟨_, rfl⟩
      have hbox := box_of_top (store4_top (lf := lf) (K := .slice Aa na ca) (V := .slice Ab nb cb) (D := .slice Az nz cz) Hz.out.out)
      have hfi := Hz.out.new.store4 (lf := lf) (K := .slice Aa na ca) (V := .slice Ab nb cb) (D := .slice Az nz cz) (N := w.heap.size + 1) (by omega)
      have hfb := Hz.out.below.trans (store4_below (w := wz) (lf := lf) (K := .slice Aa na ca) (V := .slice Ab nb cb) (D := .slice Az nz cz) (show w.heap.size ≤ w.heap.size + 1 by omega))
      rw [← hW] at hbox hfi hfb
      obtain ⟨q0, q1, q2, q3⟩ := hbox
      have HFi := Lib.hid hfi
      have HFb := Lib.hid hfb
      unfold store4 at hW
      rw [← hW]
      clear hW hfi hfb y0 y1 y2 y3 f0 f1 f2 f3
      go_wp2_with fail
      exact bodyPost_ret (v := ndVal lf (.slice Aa na ca) (.slice Ab nb cb) (.slice Az nz cz)) (by simp [results, Try.results41, go_sem, q0, q1, q2, q3]) rfl ⟨_, _, _, rfl, by rw [HCt.out]; exact HFi.out.weaken (by omega), HFb.out⟩
  · rw [if_pos (by rfl)]
    have Hs1 := Lib.hid (Hs0.out.lit HR.out.kids (m := w.heap.size + 1 + 1) (by simp))
    have Sc := Lib.hid Hs1.out.cells
    go_simp
    refine hK.out _ _ (fun _ => Sc.out) ?_
    clear hK K
    try go_frame
    refine anyU_ready (rs := [4]) (by kernel_rfl) (by simp) (AllU.cons (o := ⟨some 7, .call { callee := .value (.func 56), args := #[.tmp 6], argTypes := #[24] }, _, _, _, none⟩) rfl (fun K hK => ?_) (fun h => absurd h (by decide)) AllU.nil)
    rw [if_pos (by rfl)]
    go_simp
    refine (Hs1.out.copyK HR.out HSh.out.1 HSm.out.1).mono ?_
    rintro e wa ⟨Aa, na, ca, rfl, ha⟩
    have Hs2 := Lib.hid ha
    have Sa := Lib.hid ha.cells
    clear ha
    dsimp only
    refine hK.out _ _ (fun _ => Sa.out) ?_
    clear hK K
    try go_frame
    refine anyU_ready (rs := [7]) (by kernel_rfl) (by simp) (AllU.cons (o := ⟨some 10, .call { callee := .value (.func 56), args := #[.tmp 9], argTypes := #[24] }, _, _, _, none⟩) rfl (fun K hK => ?_) (fun h => absurd h (by decide)) AllU.nil)
    rw [if_pos (by rfl)]
    go_simp
    refine (Hs2.out.copyV HR.out HSh.out.2.1 HSm.out.2).mono ?_
    rintro e wb ⟨Ab, nb, cb, rfl, hb⟩
    have Hs3 := Lib.hid hb
    have Sb := Lib.hid hb.cells
    clear hb
    dsimp only
    refine hK.out _ _ (fun _ => Sb.out) ?_
    clear hK K
    try go_frame
    refine anyU_ready (rs := [11]) (by kernel_rfl) (by simp) (AllU.cons (o := ⟨some 14, .call { callee := .value (.func 45), args := #[.tmp 13], argTypes := #[81] }, _, _, _, none⟩) rfl (fun K hK => ?_) (fun h => absurd h (by decide)) AllU.nil)
    rw [if_pos (by rfl)]
    go_simp
    refine (Hs3.out.concat HSh.out.2.2).mono ?_
    rintro e wz ⟨Az, nz, cz, rfl, hz⟩
    have Hz := Lib.hid hz
    have Sz := Lib.hid (And.intro hz.box.c0 (And.intro hz.box.c1 (And.intro hz.box.c2 hz.box.c3)))
    clear hz
    dsimp only
    refine hK.out _ _ (fun _ => Sz.out) ?_
    clear hK K
    try go_frame
    obtain ⟨y0, y1, y2, y3, f0, f1, f2, f3⟩ := out_cells Hz.out.out
    refine' anyU_take0 (i := 12) (oi := ⟨some 15, .build 27 #[(0, .tmp 4), (1, .tmp 7), (2, .tmp 10), (3, .tmp 14)], _, _, _, none⟩) (v := _) rfl (by kernel_rfl) (fun _ _ _ h => h) (Or.inl ⟨by rfl, ?hy11⟩) (by assumption) ?rest11
    case hy11 => (intro w hSw; go_simp <;> with_reducible rfl)
    case rest11 =>
    go_frame
    refine anyU_ready (rs := [13]) (by kernel_rfl) (by simp) (AllU.cons (o := ⟨none, .store 27 (.tmp 2) (.tmp 15), _, _, _, none⟩) rfl (fun K hK => ?_) (fun _ => by kernel_rfl) AllU.nil)
    rw [if_pos (by rfl)]
    go_simp
    refine hK.out _ _ (fun h => absurd h (by decide)) ?_
    clear hK K
    try go_frame
    refine anyU_done (by kernel_rfl) ?_ _
    obtain ⟨W, hW⟩ : ∃ W, W = store4 wz (w.heap.size + 1) lf (.slice Aa na ca) (.slice Ab nb cb) (.slice Az nz cz) := ⟨_, rfl⟩
    have hbox := box_of_top (store4_top (lf := lf) (K := .slice Aa na ca) (V := .slice Ab nb cb) (D := .slice Az nz cz) Hz.out.out)
    have hfi := Hz.out.new.store4 (lf := lf) (K := .slice Aa na ca) (V := .slice Ab nb cb) (D := .slice Az nz cz) (N := w.heap.size + 1) (by omega)
    have hfb := Hz.out.below.trans (store4_below (w := wz) (lf := lf) (K := .slice Aa na ca) (V := .slice Ab nb cb) (D := .slice Az nz cz) (show w.heap.size ≤ w.heap.size + 1 by omega))
    rw [← hW] at hbox hfi hfb
    obtain ⟨q0, q1, q2, q3⟩ := hbox
    have HFi := Lib.hid hfi
    have HFb := Lib.hid hfb
    unfold store4 at hW
    rw [← hW]
    clear hW hfi hfb y0 y1 y2 y3 f0 f1 f2 f3
    go_wp2_with fail
    exact bodyPost_ret (v := ndVal lf (.slice Aa na ca) (.slice Ab nb cb) (.slice Az nz cz)) (by simp [results, Try.results41, go_sem, q0, q1, q2, q3]) rfl ⟨_, _, _, rfl, by rw [HCt.out]; exact HFi.out.weaken (by omega), HFb.out⟩
end Go.Proofs.Ytceefoopehoalaa
