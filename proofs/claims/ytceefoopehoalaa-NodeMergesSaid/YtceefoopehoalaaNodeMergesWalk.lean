/-
  The walk of NodeMerges.
-/
import Derived.Test.YtceefoopehoalaaNdMergeG
namespace Go.Proofs.Ytceefoopehoalaa
open Go.RowKit
set_option maxRecDepth 100000 in
set_option maxHeartbeats 4000000 in
theorem nodeMerges_walk (n0 : Nd) (K0 V0 D0 : Value) (n1 : Nd) (K1 V1 D1 v : Value) (l : List UInt8) (w : World) (hn : NdIs w w.heap.size K0 V0 D0 n0) (hm : NdIs w w.heap.size K1 V1 D1 n1) (hv : Rd w w.heap.size v (cellsB l)) :
    Calls Try.prog 7 #[ndVal n0.leaf K0 V0 D0, ndVal n1.leaf K1 V1 D1, v] w fun e w' => e = .returned (.bool true) ∧ Below w.heap.size w w' := by
  obtain ⟨A1, p1, c1, A2, p2, c2, A3, p3, c3, rfl, rfl, rfl⟩ := hn.slices
  obtain ⟨B1, m1, d1, B2, m2, d2, B3, m3, d3, rfl, rfl, rfl⟩ := hm.slices
  obtain ⟨Av, cv, rfl, -, -, -⟩ := hv.bytes
  obtain ⟨vl, hvl⟩ : ∃ x, x = l.length := ⟨_, rfl⟩
  rw [← hvl] at hv ⊢
  have ht := Tops.start (w0 := w) (la := n0.leaf) (K := .slice A1 p1 c1) (V := .slice A2 p2 c2) (D := .slice A3 p3 c3) (lb := n1.leaf) (K' := .slice B1 m1 d1) (V' := .slice B2 m2 d2) (D' := .slice B3 m3 d3)
  have hfa := fun (W : World) (hW : Below w.heap.size w W) => fewNd_any ((hn.below hW).more hW.size)
  have hfb := fun (W : World) (hW : Below w.heap.size w W) => fewNd_any ((hm.below hW).more hW.size)
  have hfk := fun (W : World) (hW : Below w.heap.size w W) => few_any _ l 30 W w.heap.size (hv.below hW) hW.size (by omega)
  have ca := cutNd_cut n0
  have cb := cutNd_cut n1
  have ea : (cutNd n0).leaf = n0.leaf := rfl
  have eb : (cutNd n1).leaf = n1.leaf := rfl
  obtain ⟨a, ha⟩ : ∃ x, x = cutNd n0 := ⟨_, rfl⟩
  obtain ⟨b, hb⟩ : ∃ x, x = cutNd n1 := ⟨_, rfl⟩
  rw [← ha] at ca ea hfa
  rw [← hb] at cb eb hfb
  rw [← ea] at hfa ht ⊢
  rw [← eb] at hfb ht ⊢
  obtain ⟨la, hla⟩ : ∃ x, x = a.leaf := ⟨_, rfl⟩
  obtain ⟨lb, hlb⟩ : ∃ x, x = b.leaf := ⟨_, rfl⟩
  rw [← hla] at hfa ht ⊢
  rw [← hlb] at hfb ht ⊢
  obtain ⟨W1, hW1⟩ : ∃ x, x = (w.alloc (.cells #[.bool la, .slice A1 p1 c1, .slice A2 p2 c2, .slice A3 p3 c3] 27)).alloc (.cells #[.bool lb, .slice B1 m1 d1, .slice B2 m2 d2, .slice B3 m3 d3] 27) := ⟨_, rfl⟩
  rw [← hW1] at ht
  have HW1 := Lib.hid hW1
  have S0 := ht.drew.cells
  have hlt1 := ht.drew.lt
  have HT0 := Lib.hid ht.drew
  have HFa := Lib.hid hfa
  have HFb := Lib.hid hfb
  have HFk := Lib.hid hfk
  have CA := Lib.hid ca
  have CB := Lib.hid cb
  have LA := Lib.hid hla
  have LB := Lib.hid hlb
  have HSa := Lib.hid hlt1
  clear hn hm hv hvl ht hfa hfb hfk ca cb ea eb ha hb hla hlb hW1 hlt1
  go_enter Try.func7, Try.ntmps7
  go_wp2_with fail
  rw [← HW1.out]
  clear HW1
  rename_i Q' K hK
  refine Code.wp_mono (Q := Exit.then (fun a' W => ∃ (C1 : Option Addr) (q1 g1 : Nat) (C2 : Option Addr) (q2 g2 : Nat) (C3 : Option Addr) (q3 g3 : Nat) (E1 : Option Addr) (r1 k1 : Nat) (E2 : Option Addr) (r2 k2 : Nat) (E3 : Option Addr) (r3 k3 : Nat) (Ak : Option Addr) (kl ck : Nat) (key : List UInt8) (t10 t11 t12 t13 t14 t15 : Value), a' = ⟨#[ndVal la (.slice A1 p1 c1) (.slice A2 p2 c2) (.slice A3 p3 c3), ndVal lb (.slice B1 m1 d1) (.slice B2 m2 d2) (.slice B3 m3 d3), .slice Ak kl ck, .pointer (some ⟨w.heap.size, 0, none⟩), .pointer (some ⟨w.heap.size + 1, 0, none⟩), undef, .bool false, undef, undef, undef, t10, t11, t12, t13, t14, t15, undef, undef, undef, undef, undef, undef, undef, undef, undef, undef, undef, undef, undef, undef, undef, undef, undef, undef, undef, undef, undef, undef, undef, undef, undef, undef, undef, undef, undef, undef, undef, undef, undef, undef, undef, undef, undef, undef, undef, undef, undef, undef, undef, undef, undef, undef, undef, undef, undef, undef, undef, undef, undef, undef, undef, undef, undef, undef, undef, undef, undef, undef, undef, undef, undef, undef, undef, undef, undef, undef, undef, undef, undef, undef, undef, undef, undef, undef, undef, undef, undef, undef, undef, undef, undef, undef, undef, undef], []⟩ ∧ Hid (Law2 w W W.heap.size (.slice C1 q1 g1) (.slice C2 q2 g2) (.slice C3 q3 g3) (.slice E1 r1 k1) (.slice E2 r2 k2) (.slice E3 r3 k3) (.slice Ak kl ck) a b key) ∧ Hid (key.length ≤ 30)) Q') (fun e a' W h => ?_) ?_
  rotate_left
  clear hK
  · refine wp_region_late (S := fun w' => w'.cell? ⟨w.heap.size, 0, none⟩ = some (.bool la) ∧ w'.cell? ⟨w.heap.size, 1, none⟩ = some (.slice A1 p1 c1) ∧ w'.cell? ⟨w.heap.size, 2, none⟩ = some (.slice A2 p2 c2) ∧ w'.cell? ⟨w.heap.size, 3, none⟩ = some (.slice A3 p3 c3) ∧ w'.cell? ⟨w.heap.size + 1, 0, none⟩ = some (.bool lb) ∧ w'.cell? ⟨w.heap.size + 1, 1, none⟩ = some (.slice B1 m1 d1) ∧ w'.cell? ⟨w.heap.size + 1, 2, none⟩ = some (.slice B2 m2 d2) ∧ w'.cell? ⟨w.heap.size + 1, 3, none⟩ = some (.slice B3 m3 d3)) [6, 7, 8] (by kernel_rfl) S0 (fun hHeld => ?_)
    refine' anyU_take (i := 0) (oi := ⟨some 10, .load 27 (.tmp 3), _, _, _, none⟩) (v := _) rfl (by kernel_rfl) (fun _ _ _ h => h) (Or.inl ⟨by rfl, ?hy1⟩) (by assumption) ?rest1
    case hy1 => (intro w hSw; obtain ⟨s0, s1, s2, s3, s4, s5, s6, s7⟩ := hSw; go_simp <;> with_reducible rfl)
    case rest1 =>
    go_frame
    refine' anyU_take0 (i := 4) (oi := ⟨some 14, .move (.tmp 2), _, _, _, none⟩) (v := _) rfl (by kernel_rfl) (fun _ _ _ h => h) (Or.inl ⟨by rfl, ?hy2⟩) (by assumption) ?rest2
    case hy2 => (intro w hSw; go_simp <;> with_reducible rfl)
    case rest2 =>
    go_frame
    refine anyU_ready (rs := [1, 2]) (by kernel_rfl) (by simp) (AllU.cons (o := ⟨some 11, .call { callee := .value (.func 14), args := #[.tmp 10], argTypes := #[27] }, _, _, _, none⟩) rfl (fun K hK => ?_) (fun h => absurd h (by decide)) (AllU.cons (o := ⟨some 12, .load 27 (.tmp 4), _, _, _, none⟩) rfl (fun K hK => ?_) (fun h => absurd h (by decide)) AllU.nil))
    · rw [if_pos (by rfl)]
      go_simp
      refine (HFa.out _ HT0.out.below).mono ?_
      rintro e wa ⟨Ka, Va, Da, rfl, hna, hba⟩
      obtain ⟨C1, q1, g1, C2, q2, g2, C3, q3, g3, rfl, rfl, rfl⟩ := hna.is.slices
      have hta := HT0.out.kept hba
      have Sa := Lib.hid hta.cells
      have HTa := Lib.hid hta
      have HNa := Lib.hid hna
      clear hna hba hta
      dsimp only
      refine hK.out _ _ (fun _ => Sa.out) ?_
      clear hK K
      try go_frame
      refine anyU_ready (rs := [2]) (by kernel_rfl) (by simp) (AllU.cons (o := ⟨some 12, .load 27 (.tmp 4), _, _, _, none⟩) rfl (fun K hK => ?_) (fun h => absurd h (by decide)) AllU.nil)
      rw [if_pos (by rfl)]
      obtain ⟨s0, s1, s2, s3, s4, s5, s6, s7⟩ := Sa.out
      go_simp
      refine hK.out _ _ (fun _ => ⟨s0, s1, s2, s3, s4, s5, s6, s7⟩) ?_
      clear hK K s0 s1 s2 s3 s4 s5 s6 s7
      try go_frame
      refine anyU_ready (rs := [3]) (by kernel_rfl) (by simp) (AllU.cons (o := ⟨some 13, .call { callee := .value (.func 14), args := #[.tmp 12], argTypes := #[27] }, _, _, _, none⟩) rfl (fun K hK => ?_) (fun h => absurd h (by decide)) AllU.nil)
      rw [if_pos (by rfl)]
      go_simp
      refine (HFb.out _ HTa.out.below).mono ?_
      rintro e wb ⟨Kb, Vb, Db, rfl, hnb, hbb⟩
      obtain ⟨E1, r1, k1, E2, r2, k2, E3, r3, k3, rfl, rfl, rfl⟩ := hnb.is.slices
      have htb := HTa.out.kept hbb
      have Sb := Lib.hid htb.cells
      have HTb := Lib.hid htb
      have HNa2 := Lib.hid (HNa.out.kept hbb)
      have HNb := Lib.hid hnb
      clear hnb hbb htb HNa
      dsimp only
      refine hK.out _ _ (fun _ => Sb.out) ?_
      clear hK K
      try go_frame
      refine anyU_ready (rs := [5]) (by kernel_rfl) (by simp) (AllU.cons (o := ⟨some 15, .call { callee := .value (.func 9), args := #[.tmp 14, .const (.int .i64 30)], argTypes := #[22, 3] }, _, _, _, none⟩) rfl (fun K hK => ?_) (fun h => absurd h (by decide)) AllU.nil)
      rw [if_pos (by rfl)]
      go_simp
      refine (HFk.out _ HTb.out.below).mono ?_
      rintro e wc ⟨vk, rfl, hkm, hbc⟩
      have htc := HTb.out.kept hbc
      obtain ⟨ta0, ta1, ta2, ta3, tf0, tf1, tf2, tf3⟩ := out_cells htc.ta
      have Sc := Lib.hid htc.cells
      have HTc := Lib.hid htc
      have HNa3 := Lib.hid (HNa2.out.kept hbc)
      have HNb3 := Lib.hid (HNb.out.kept hbc)
      have hkl : (l.take 30).length ≤ 30 := by simp; omega
      obtain ⟨key, hkey⟩ : ∃ x, x = l.take 30 := ⟨_, rfl⟩
      rw [← hkey] at hkm hkl
      obtain ⟨Ak, ck, rfl⟩ := hkm.form
      rw [cellsB_length] at hkm
      rw [cellsB_length]
      obtain ⟨kl, hkl2⟩ : ∃ x, x = key.length := ⟨_, rfl⟩
      rw [← hkl2] at hkm
      rw [← hkl2]
      have HKm := Lib.hid hkm
      have HKl := Lib.hid hkl
      have HLtb := Lib.hid HTb.out.lt
      clear hkm hkl hkey hbc htc HNa2 HNb HTb HFa HFb HFk hkl2
      dsimp only
      refine hK.out _ _ (fun _ => Sc.out) ?_
      clear hK K
      try go_frame
      refine anyU_ready (rs := [6]) (by kernel_rfl) (by simp) (AllU.cons (o := ⟨none, .store 27 (.tmp 3) (.tmp 11), _, _, _, none⟩) rfl (fun K hK => ?_) (fun _ => by kernel_rfl) AllU.nil)
      rw [if_pos (by rfl)]
      go_simp
      refine hK.out _ _ (fun h => absurd h (by decide)) ?_
      clear hK K
      try go_frame
      obtain ⟨Wa, hWa⟩ : ∃ W, W = store4 wc w.heap.size la (.slice C1 q1 g1) (.slice C2 q2 g2) (.slice C3 q3 g3) := ⟨_, rfl⟩
      have htd := HTc.out.storeA (l2 := la) (K2 := .slice C1 q1 g1) (V2 := .slice C2 q2 g2) (D2 := .slice C3 q3 g3)
      have hsa := HSa.out
      have hsb := HLtb.out
      have hna4 := HNa3.out.store4 (lf := la) (K := .slice C1 q1 g1) (V := .slice C2 q2 g2) (D := .slice C3 q3 g3) (N := w.heap.size) (by omega)
      have hnb4 := HNb3.out.store4 (lf := la) (K := .slice C1 q1 g1) (V := .slice C2 q2 g2) (D := .slice C3 q3 g3) (N := w.heap.size) (by have := HTa.out.lt; omega)
      have hk4 := HKm.out.frK (B0 := 0) (g := none) (w' := store4 wc w.heap.size la (.slice C1 q1 g1) (.slice C2 q2 g2) (.slice C3 q3 g3)) ⟨Nat.le_of_eq store4_size.symm, fun k _ h2 _ => store4_other (by omega)⟩ (fun _ _ e => by cases e)
      rw [← hWa] at htd hna4 hnb4 hk4
      unfold store4 at hWa
      rw [← hWa]
      clear ta0 ta1 ta2 ta3 tf0 tf1 tf2 tf3 hWa
      obtain ⟨tb0, tb1, tb2, tb3, tg0, tg1, tg2, tg3⟩ := out_cells htd.tb
      have HTd := Lib.hid htd
      have HNa4 := Lib.hid hna4
      have HNb4 := Lib.hid hnb4
      have HK4 := Lib.hid hk4
      clear htd hna4 hnb4 hk4 HNa3 HNb3 HKm HTc hsa hsb
      refine anyU_ready (rs := [7]) (by kernel_rfl) (by simp) (AllU.cons (o := ⟨none, .store 27 (.tmp 4) (.tmp 13), _, _, _, none⟩) rfl (fun K hK => ?_) (fun _ => by kernel_rfl) AllU.nil)
      rw [if_pos (by rfl)]
      go_simp
      refine hK.out _ _ (fun h => absurd h (by decide)) ?_
      clear hK K
      try go_frame
      refine anyU_ready (rs := [8]) (by kernel_rfl) (by simp) (AllU.cons (o := ⟨some 2, .assign (.tmp 15), _, _, _, none⟩) rfl (fun K hK => ?_) (fun _ => by kernel_rfl) AllU.nil)
      rw [if_pos (by rfl)]
      go_simp
      refine hK.out _ _ (fun h => absurd h (by decide)) ?_
      clear hK K
      try go_frame
      refine anyU_done (by kernel_rfl) ?_ _
      obtain ⟨Wb, hWb⟩ : ∃ W, W = store4 Wa (w.heap.size + 1) lb (.slice E1 r1 k1) (.slice E2 r2 k2) (.slice E3 r3 k3) := ⟨_, rfl⟩
      have hte := HTd.out.storeB (l2 := lb) (K2 := .slice E1 r1 k1) (V2 := .slice E2 r2 k2) (D2 := .slice E3 r3 k3)
      have hsa := HSa.out
      have hna5 := HNa4.out.store4 (lf := lb) (K := .slice E1 r1 k1) (V := .slice E2 r2 k2) (D := .slice E3 r3 k3) (N := w.heap.size + 1) (by omega)
      have hnb5 := HNb4.out.store4 (lf := lb) (K := .slice E1 r1 k1) (V := .slice E2 r2 k2) (D := .slice E3 r3 k3) (N := w.heap.size + 1) (by have := HTa.out.lt; omega)
      have hk5 := HK4.out.frK (B0 := 0) (g := none) (w' := store4 Wa (w.heap.size + 1) lb (.slice E1 r1 k1) (.slice E2 r2 k2) (.slice E3 r3 k3)) ⟨Nat.le_of_eq store4_size.symm, fun k _ h2 _ => store4_other (by have := HLtb.out; omega)⟩ (fun _ _ e => by cases e)
      rw [← hWb] at hte hna5 hnb5 hk5
      unfold store4 at hWb
      rw [← hWb]
      exact ⟨_, _, _, _, _, _, _, _, _, _, _, _, _, _, _, _, _, _, _, _, _, key, _, _, _, _, _, _, rfl, Lib.hid ⟨by rw [← LA.out, ← LB.out]; exact hte, hna5.is, hnb5.is, hk5.rd, hte.lt, Nat.le_refl _⟩, HKl⟩
    · rw [if_pos (by rfl)]
      obtain ⟨s0, s1, s2, s3, s4, s5, s6, s7⟩ := S0
      go_simp
      refine hK.out _ _ (fun _ => ⟨s0, s1, s2, s3, s4, s5, s6, s7⟩) ?_
      clear hK K s0 s1 s2 s3 s4 s5 s6 s7
      try go_frame
      refine anyU_ready (rs := [1]) (by kernel_rfl) (by simp) (AllU.cons (o := ⟨some 11, .call { callee := .value (.func 14), args := #[.tmp 10], argTypes := #[27] }, _, _, _, none⟩) rfl (fun K hK => ?_) (fun h => absurd h (by decide)) AllU.nil)
      rw [if_pos (by rfl)]
      go_simp
      refine (HFa.out _ HT0.out.below).mono ?_
      rintro e wa ⟨Ka, Va, Da, rfl, hna, hba⟩
      obtain ⟨C1, q1, g1, C2, q2, g2, C3, q3, g3, rfl, rfl, rfl⟩ := hna.is.slices
      have hta := HT0.out.kept hba
      have Sa := Lib.hid hta.cells
      have HTa := Lib.hid hta
      have HNa := Lib.hid hna
      clear hna hba hta
      dsimp only
      refine hK.out _ _ (fun _ => Sa.out) ?_
      clear hK K
      try go_frame
      refine anyU_ready (rs := [3]) (by kernel_rfl) (by simp) (AllU.cons (o := ⟨some 13, .call { callee := .value (.func 14), args := #[.tmp 12], argTypes := #[27] }, _, _, _, none⟩) rfl (fun K hK => ?_) (fun h => absurd h (by decide)) AllU.nil)
      rw [if_pos (by rfl)]
      go_simp
      refine (HFb.out _ HTa.out.below).mono ?_
      rintro e wb ⟨Kb, Vb, Db, rfl, hnb, hbb⟩
      obtain ⟨E1, r1, k1, E2, r2, k2, E3, r3, k3, rfl, rfl, rfl⟩ := hnb.is.slices
      have htb := HTa.out.kept hbb
      have Sb := Lib.hid htb.cells
      have HTb := Lib.hid htb
      have HNa2 := Lib.hid (HNa.out.kept hbb)
      have HNb := Lib.hid hnb
      clear hnb hbb htb HNa
      dsimp only
      refine hK.out _ _ (fun _ => Sb.out) ?_
      clear hK K
      try go_frame
      refine anyU_ready (rs := [5]) (by kernel_rfl) (by simp) (AllU.cons (o := ⟨some 15, .call { callee := .value (.func 9), args := #[.tmp 14, .const (.int .i64 30)], argTypes := #[22, 3] }, _, _, _, none⟩) rfl (fun K hK => ?_) (fun h => absurd h (by decide)) AllU.nil)
      rw [if_pos (by rfl)]
      go_simp
      refine (HFk.out _ HTb.out.below).mono ?_
      rintro e wc ⟨vk, rfl, hkm, hbc⟩
      have htc := HTb.out.kept hbc
      obtain ⟨ta0, ta1, ta2, ta3, tf0, tf1, tf2, tf3⟩ := out_cells htc.ta
      have Sc := Lib.hid htc.cells
      have HTc := Lib.hid htc
      have HNa3 := Lib.hid (HNa2.out.kept hbc)
      have HNb3 := Lib.hid (HNb.out.kept hbc)
      have hkl : (l.take 30).length ≤ 30 := by simp; omega
      obtain ⟨key, hkey⟩ : ∃ x, x = l.take 30 := ⟨_, rfl⟩
      rw [← hkey] at hkm hkl
      obtain ⟨Ak, ck, rfl⟩ := hkm.form
      rw [cellsB_length] at hkm
      rw [cellsB_length]
      obtain ⟨kl, hkl2⟩ : ∃ x, x = key.length := ⟨_, rfl⟩
      rw [← hkl2] at hkm
      rw [← hkl2]
      have HKm := Lib.hid hkm
      have HKl := Lib.hid hkl
      have HLtb := Lib.hid HTb.out.lt
      clear hkm hkl hkey hbc htc HNa2 HNb HTb HFa HFb HFk hkl2
      dsimp only
      refine hK.out _ _ (fun _ => Sc.out) ?_
      clear hK K
      try go_frame
      refine anyU_ready (rs := [6]) (by kernel_rfl) (by simp) (AllU.cons (o := ⟨none, .store 27 (.tmp 3) (.tmp 11), _, _, _, none⟩) rfl (fun K hK => ?_) (fun _ => by kernel_rfl) AllU.nil)
      rw [if_pos (by rfl)]
      go_simp
      refine hK.out _ _ (fun h => absurd h (by decide)) ?_
      clear hK K
      try go_frame
      obtain ⟨Wa, hWa⟩ : ∃ W, W = store4 wc w.heap.size la (.slice C1 q1 g1) (.slice C2 q2 g2) (.slice C3 q3 g3) := ⟨_, rfl⟩
      have htd := HTc.out.storeA (l2 := la) (K2 := .slice C1 q1 g1) (V2 := .slice C2 q2 g2) (D2 := .slice C3 q3 g3)
      have hsa := HSa.out
      have hsb := HLtb.out
      have hna4 := HNa3.out.store4 (lf := la) (K := .slice C1 q1 g1) (V := .slice C2 q2 g2) (D := .slice C3 q3 g3) (N := w.heap.size) (by omega)
      have hnb4 := HNb3.out.store4 (lf := la) (K := .slice C1 q1 g1) (V := .slice C2 q2 g2) (D := .slice C3 q3 g3) (N := w.heap.size) (by have := HTa.out.lt; omega)
      have hk4 := HKm.out.frK (B0 := 0) (g := none) (w' := store4 wc w.heap.size la (.slice C1 q1 g1) (.slice C2 q2 g2) (.slice C3 q3 g3)) ⟨Nat.le_of_eq store4_size.symm, fun k _ h2 _ => store4_other (by omega)⟩ (fun _ _ e => by cases e)
      rw [← hWa] at htd hna4 hnb4 hk4
      unfold store4 at hWa
      rw [← hWa]
      clear ta0 ta1 ta2 ta3 tf0 tf1 tf2 tf3 hWa
      obtain ⟨tb0, tb1, tb2, tb3, tg0, tg1, tg2, tg3⟩ := out_cells htd.tb
      have HTd := Lib.hid htd
      have HNa4 := Lib.hid hna4
      have HNb4 := Lib.hid hnb4
      have HK4 := Lib.hid hk4
      clear htd hna4 hnb4 hk4 HNa3 HNb3 HKm HTc hsa hsb
      refine anyU_ready (rs := [7]) (by kernel_rfl) (by simp) (AllU.cons (o := ⟨none, .store 27 (.tmp 4) (.tmp 13), _, _, _, none⟩) rfl (fun K hK => ?_) (fun _ => by kernel_rfl) AllU.nil)
      rw [if_pos (by rfl)]
      go_simp
      refine hK.out _ _ (fun h => absurd h (by decide)) ?_
      clear hK K
      try go_frame
      refine anyU_ready (rs := [8]) (by kernel_rfl) (by simp) (AllU.cons (o := ⟨some 2, .assign (.tmp 15), _, _, _, none⟩) rfl (fun K hK => ?_) (fun _ => by kernel_rfl) AllU.nil)
      rw [if_pos (by rfl)]
      go_simp
      refine hK.out _ _ (fun h => absurd h (by decide)) ?_
      clear hK K
      try go_frame
      refine anyU_done (by kernel_rfl) ?_ _
      obtain ⟨Wb, hWb⟩ : ∃ W, W = store4 Wa (w.heap.size + 1) lb (.slice E1 r1 k1) (.slice E2 r2 k2) (.slice E3 r3 k3) := ⟨_, rfl⟩
      have hte := HTd.out.storeB (l2 := lb) (K2 := .slice E1 r1 k1) (V2 := .slice E2 r2 k2) (D2 := .slice E3 r3 k3)
      have hsa := HSa.out
      have hna5 := HNa4.out.store4 (lf := lb) (K := .slice E1 r1 k1) (V := .slice E2 r2 k2) (D := .slice E3 r3 k3) (N := w.heap.size + 1) (by omega)
      have hnb5 := HNb4.out.store4 (lf := lb) (K := .slice E1 r1 k1) (V := .slice E2 r2 k2) (D := .slice E3 r3 k3) (N := w.heap.size + 1) (by have := HTa.out.lt; omega)
      have hk5 := HK4.out.frK (B0 := 0) (g := none) (w' := store4 Wa (w.heap.size + 1) lb (.slice E1 r1 k1) (.slice E2 r2 k2) (.slice E3 r3 k3)) ⟨Nat.le_of_eq store4_size.symm, fun k _ h2 _ => store4_other (by have := HLtb.out; omega)⟩ (fun _ _ e => by cases e)
      rw [← hWb] at hte hna5 hnb5 hk5
      unfold store4 at hWb
      rw [← hWb]
      exact ⟨_, _, _, _, _, _, _, _, _, _, _, _, _, _, _, _, _, _, _, _, _, key, _, _, _, _, _, _, rfl, Lib.hid ⟨by rw [← LA.out, ← LB.out]; exact hte, hna5.is, hnb5.is, hk5.rd, hte.lt, Nat.le_refl _⟩, HKl⟩
  cases e
  all_goals try exact h
  obtain ⟨C1, q1, g1, C2, q2, g2, C3, q3, g3, E1, r1, k1, E2, r2, k2, E3, r3, k3, Ak, kl, ck, key, t10, t11, t12, t13, t14, t15, rfl, HLw, HKl⟩ := h
  clear HSa HT0 HFa HFb HFk S0
  go_wp2_with fail
  have LW0 := Lib.hid HLw.out.drew
  have S0 := LW0.out.t.cells
  have HSa := Lib.hid (show a.Short 40000 from ⟨by have := CA.out.k; omega, by have := CA.out.v; omega, by have := CA.out.d; omega⟩)
  have HSb := Lib.hid (show b.Short 40000 from ⟨by have := CB.out.k; omega, by have := CB.out.v; omega, by have := CB.out.d; omega⟩)
  rename_i K hK
  refine Code.wp_mono (Q := Exit.then (fun a' W' => ∃ (p : Nat) (M1 : Option Addr) (z1 o1 : Nat) (M2 : Option Addr) (z2 o2 : Nat) (M3 : Option Addr) (z3 o3 : Nat) (t16 t17 t18 t19 t20 t21 t22 t23 t24 t25 t26 : Value), a' = ⟨#[ndVal la (.slice A1 p1 c1) (.slice A2 p2 c2) (.slice A3 p3 c3), ndVal lb (.slice B1 m1 d1) (.slice B2 m2 d2) (.slice B3 m3 d3), .slice Ak kl ck, .pointer (some ⟨w.heap.size, 0, none⟩), .pointer (some ⟨w.heap.size + 1, 0, none⟩), undef, .bool false, .pointer (some ⟨p, 0, none⟩), .bool (joinsB a key b), undef, t10, t11, t12, t13, t14, t15, t16, t17, t18, t19, t20, t21, t22, t23, t24, t25, t26, undef, undef, undef, undef, undef, undef, undef, undef, undef, undef, undef, undef, undef, undef, undef, undef, undef, undef, undef, undef, undef, undef, undef, undef, undef, undef, undef, undef, undef, undef, undef, undef, undef, undef, undef, undef, undef, undef, undef, undef, undef, undef, undef, undef, undef, undef, undef, undef, undef, undef, undef, undef, undef, undef, undef, undef, undef, undef, undef, undef, undef, undef, undef, undef, undef, undef, undef, undef, undef, undef, undef, undef, undef, undef, undef, undef, undef], []⟩ ∧ Hid (Law2 w W' W.heap.size (.slice C1 q1 g1) (.slice C2 q2 g2) (.slice C3 q3 g3) (.slice E1 r1 k1) (.slice E2 r2 k2) (.slice E3 r3 k3) (.slice Ak kl ck) a b key) ∧ Hid (W'.heap[p]? = some (.cells #[.bool (a.merged key b).leaf, .slice M1 z1 o1, .slice M2 z2 o2, .slice M3 z3 o3] 27 (0, 0))) ∧ Hid (NdIs W' W'.heap.size (.slice M1 z1 o1) (.slice M2 z2 o2) (.slice M3 z3 o3) (a.merged key b))) Q') (fun e a' W' h => ?_) ?_
  rotate_left
  clear hK
  · refine wp_region_late (S := fun w' => w'.cell? ⟨w.heap.size, 0, none⟩ = some (.bool a.leaf) ∧ w'.cell? ⟨w.heap.size, 1, none⟩ = some (.slice C1 q1 g1) ∧ w'.cell? ⟨w.heap.size, 2, none⟩ = some (.slice C2 q2 g2) ∧ w'.cell? ⟨w.heap.size, 3, none⟩ = some (.slice C3 q3 g3) ∧ w'.cell? ⟨w.heap.size + 1, 0, none⟩ = some (.bool b.leaf) ∧ w'.cell? ⟨w.heap.size + 1, 1, none⟩ = some (.slice E1 r1 k1) ∧ w'.cell? ⟨w.heap.size + 1, 2, none⟩ = some (.slice E2 r2 k2) ∧ w'.cell? ⟨w.heap.size + 1, 3, none⟩ = some (.slice E3 r3 k3)) [12, 13] (by kernel_rfl) S0 (fun hHeld => ?_)
    refine' anyU_take (i := 0) (oi := ⟨some 17, .load 27 (.tmp 3), _, _, _, none⟩) (v := _) rfl (by kernel_rfl) (fun _ _ _ h => h) (Or.inl ⟨by rfl, ?hy3⟩) (by assumption) ?rest3
    case hy3 => (intro w hSw; obtain ⟨s0, s1, s2, s3, s4, s5, s6, s7⟩ := hSw; go_simp <;> with_reducible rfl)
    case rest3 =>
    go_frame
    refine' anyU_take0 (i := 3) (oi := ⟨some 20, .move (.tmp 2), _, _, _, none⟩) (v := _) rfl (by kernel_rfl) (fun _ _ _ h => h) (Or.inl ⟨by rfl, ?hy4⟩) (by assumption) ?rest4
    case hy4 => (intro w hSw; go_simp <;> with_reducible rfl)
    case rest4 =>
    go_frame
    refine' anyU_take (i := 5) (oi := ⟨some 22, .load 27 (.tmp 4), _, _, _, none⟩) (v := _) rfl (by kernel_rfl) (fun _ _ _ h => h) (Or.inl ⟨by rfl, ?hy5⟩) (by assumption) ?rest5
    case hy5 => (intro w hSw; obtain ⟨s0, s1, s2, s3, s4, s5, s6, s7⟩ := hSw; go_simp <;> with_reducible rfl)
    case rest5 =>
    go_frame
    refine anyU_ready (rs := [1, 2, 11]) (by kernel_rfl) (by simp) (AllU.cons (o := ⟨some 18, .call { callee := .value (.func 14), args := #[.tmp 17], argTypes := #[27] }, _, _, _, none⟩) rfl (fun K hK => ?_) (fun h => absurd h (by decide)) (AllU.cons (o := ⟨some 19, .buildSlice 22 0 #[], _, _, _, none⟩) rfl (fun K hK => ?_) (fun h => absurd h (by decide)) (AllU.cons (o := ⟨some 7, .alloc 27, _, _, _, none⟩) rfl (fun K hK => ?_) (fun h => absurd h (by decide)) AllU.nil)))
    · rw [if_pos (by rfl)]
      go_simp
      refine (few2 (LW0.out.ia.more LW0.out.le) CA.out rfl).mono ?_
      rintro e u1 ⟨F1, i1, j1, F2, i2, j2, F3, i3, j3, rfl, hn, hb⟩
      have LW1 := Lib.hid (LW0.out.kept (hb.mono LW0.out.le))
      have Fa1 := Lib.hid hn
      have Sx1 := Lib.hid LW1.out.t.cells
      dsimp only
      refine hK.out _ _ (fun _ => Sx1.out) ?_
      clear hK K  hn hb LW0
      try go_frame
      refine anyU_ready (rs := [2, 11]) (by kernel_rfl) (by simp) (AllU.cons (o := ⟨some 19, .buildSlice 22 0 #[], _, _, _, none⟩) rfl (fun K hK => ?_) (fun h => absurd h (by decide)) (AllU.cons (o := ⟨some 7, .alloc 27, _, _, _, none⟩) rfl (fun K hK => ?_) (fun h => absurd h (by decide)) AllU.nil))
      · rw [if_pos (by rfl)]
        obtain ⟨u2, hu⟩ : ∃ u, u = u1.alloc (.cells #[] 5) := ⟨_, rfl⟩
        have hb : Below u1.heap.size u1 u2 := by rw [hu]; exact (Below.refl u1.heap.size u1).alloc (Nat.le_refl _) (.cells #[] 5)
        have hmy : Mine u2 u1.heap.size 5 (.slice (some ⟨u1.heap.size, 0, none⟩) 0 0) [] := by rw [hu]; exact Mine.empty u1 _ 5 (Nat.le_refl _)
        have hel : u1.heap.size < u2.heap.size := by rw [hu]; simp
        have LW2 := Lib.hid (LW1.out.kept (hb.mono LW1.out.le))
        have Fa2 := Lib.hid (Fa1.out.kept hb)
        have My2 := Lib.hid hmy
        have El2 := Lib.hid hel
        have EB := Lib.hid (show W.heap.size ≤ u1.heap.size from LW1.out.le)
        have Fi2 := Lib.hid (Fa1.out.is.below hb)
        have Sx2 := Lib.hid LW2.out.t.cells
        go_simp
        rw [← hu]
        refine hK.out _ _ (fun _ => Sx2.out) ?_
        clear hK K Sx1 hu hb hmy hel LW1 Fa1
        try go_frame
        refine anyU_ready (rs := [4, 11]) (by kernel_rfl) (by simp) (AllU.cons (o := ⟨some 21, .call { callee := .builtin .append, args := #[.tmp 19, .tmp 20], argTypes := #[22, 22] }, _, _, _, none⟩) rfl (fun K hK => ?_) (fun h => absurd h (by decide)) (AllU.cons (o := ⟨some 7, .alloc 27, _, _, _, none⟩) rfl (fun K hK => ?_) (fun h => absurd h (by decide)) AllU.nil))
        · rw [if_pos (by rfl)]
          obtain ⟨Ac, nc, cc, u3, hrun, hk4, hbe, hgr⟩ := appKey My2.out LW2.out.ik HKl.out (Nat.le_of_lt El2.out)
          have Hrun := Lib.hid hrun
          have LW3 := Lib.hid (LW2.out.kept (hbe.mono EB.out))
          have Fa3 := Lib.hid ((Fi2.out.below hbe).more (Nat.le_trans (Nat.le_of_lt El2.out) hbe.size))
          have Fk3 := Lib.hid hk4
          have Sx3 := Lib.hid LW3.out.t.cells
          clear hrun hk4 hbe hgr
          refine wp_run (.slice Ac nc cc) u3 (exec_append (t := 22) (x := .tmp 19) (y := .tmp 20) rfl rfl rfl Hrun.out) ?_
          refine hK.out _ _ (fun _ => Sx3.out) ?_
          clear hK K Sx2 Hrun LW2 Fa2 My2 El2 EB Fi2
          go_frame
          refine anyU_ready (rs := [6, 11]) (by kernel_rfl) (by simp) (AllU.cons (o := ⟨some 23, .call { callee := .value (.func 14), args := #[.tmp 22], argTypes := #[27] }, _, _, _, none⟩) rfl (fun K hK => ?_) (fun h => absurd h (by decide)) (AllU.cons (o := ⟨some 7, .alloc 27, _, _, _, none⟩) rfl (fun K hK => ?_) (fun h => absurd h (by decide)) AllU.nil))
          · rw [if_pos (by rfl)]
            go_simp
            refine (few2 (LW3.out.ib.more LW3.out.le) CB.out rfl).mono ?_
            rintro e u4 ⟨G1, x1, y1, G2, x2, y2, G3, x3, y3, rfl, hn, hb⟩
            have LW4 := Lib.hid (LW3.out.kept (hb.mono LW3.out.le))
            have Fa4 := Lib.hid ((Fa3.out.below hb).more hb.size)
            have Fk4 := Lib.hid ((Fk3.out.below hb).more hb.size)
            have Fb4 := Lib.hid hn.is
            have Sx4 := Lib.hid LW4.out.t.cells
            dsimp only
            refine hK.out _ _ (fun _ => Sx4.out) ?_
            clear hK K Sx3 hn hb LW3 Fa3 Fk3
            try go_frame
            refine anyU_ready (rs := [7, 11]) (by kernel_rfl) (by simp) (AllU.cons (o := ⟨some 24, .call { callee := .value (.func 25), args := #[.tmp 18, .tmp 21, .tmp 23], argTypes := #[27, 22, 27] }, _, _, _, none⟩) rfl (fun K hK => ?_) (fun h => absurd h (by decide)) (AllU.cons (o := ⟨some 7, .alloc 27, _, _, _, none⟩) rfl (fun K hK => ?_) (fun h => absurd h (by decide)) AllU.nil))
            · rw [if_pos (by rfl)]
              go_simp
              refine (merge_any Fa4.out Fb4.out Fk4.out HSa.out HSb.out).mono ?_
              rintro e u5 ⟨Kr, Vr, Dr, rfl, hn, hb⟩
              obtain ⟨M1, z1, o1, M2, z2, o2, M3, z3, o3, rfl, rfl, rfl⟩ := hn.is.slices
              have LW5 := Lib.hid (LW4.out.kept (hb.mono LW4.out.le))
              have Fa5 := Lib.hid ((Fa4.out.below hb).more hb.size)
              have Fk5 := Lib.hid ((Fk4.out.below hb).more hb.size)
              have Fb5 := Lib.hid ((Fb4.out.below hb).more hb.size)
              have Fr5 := Lib.hid hn
              have Sx5 := Lib.hid LW5.out.t.cells
              dsimp only
              refine hK.out _ _ (fun _ => Sx5.out) ?_
              clear hK K Sx4 hn hb LW4 Fa4 Fk4 Fb4
              try go_frame
              refine' anyU_take0 (i := 8) (oi := ⟨some 16, .move (.tmp 24), _, _, _, none⟩) (v := _) rfl (by kernel_rfl) (fun _ _ _ h => h) (Or.inl ⟨by rfl, ?hy6⟩) (by assumption) ?rest6
              case hy6 => (intro w hSw; go_simp <;> with_reducible rfl)
              case rest6 =>
              go_frame
              refine' anyU_take0 (i := 9) (oi := ⟨some 25, .extract (.tmp 16) 0, _, _, _, none⟩) (v := _) rfl (by kernel_rfl) (fun _ _ _ h => h) (Or.inl ⟨by rfl, ?hy7⟩) (by assumption) ?rest7
              case hy7 => (intro w hSw; go_simp <;> with_reducible rfl)
              case rest7 =>
              go_frame
              refine' anyU_take0 (i := 10) (oi := ⟨some 26, .extract (.tmp 16) 1, _, _, _, none⟩) (v := _) rfl (by kernel_rfl) (fun _ _ _ h => h) (Or.inl ⟨by rfl, ?hy8⟩) (by assumption) ?rest8
              case hy8 => (intro w hSw; go_simp <;> with_reducible rfl)
              case rest8 =>
              go_frame
              refine anyU_ready (rs := [11]) (by kernel_rfl) (by simp) (AllU.cons (o := ⟨some 7, .alloc 27, _, _, _, none⟩) rfl (fun K hK => ?_) (fun h => absurd h (by decide)) AllU.nil)
              rw [if_pos (by rfl)]
              obtain ⟨u6, hu⟩ : ∃ u, u = u5.alloc (.cells #[.bool false, .slice none 0 0, .slice none 0 0, .slice none 0 0] 27) := ⟨_, rfl⟩
              have hb : Below u5.heap.size u5 u6 := by rw [hu]; exact (Below.refl u5.heap.size u5).alloc (Nat.le_refl _) (.cells #[.bool false, .slice none 0 0, .slice none 0 0, .slice none 0 0] 27)
              have hpp : u6.heap[u5.heap.size]? = some (.cells #[.bool false, .slice none 0 0, .slice none 0 0, .slice none 0 0] 27 (0, 0)) := by rw [hu]; exact heap_alloc_last u5 _
              have LW6 := Lib.hid (LW5.out.kept (hb.mono LW5.out.le))
              have Fa6 := Lib.hid ((Fa5.out.below hb).more hb.size)
              have Fk6 := Lib.hid ((Fk5.out.below hb).more hb.size)
              have Fb6 := Lib.hid ((Fb5.out.below hb).more hb.size)
              have Fr6 := Lib.hid (Fr5.out.kept hb)
              have Pp6 := Lib.hid hpp
              have PB := Lib.hid (show W.heap.size ≤ u5.heap.size from LW5.out.le)
              have FrI := Lib.hid (Fr5.out.is.below hb)
              have Sx6 := Lib.hid LW6.out.t.cells
              go_simp
              rw [← hu]
              refine hK.out _ _ (fun _ => Sx6.out) ?_
              clear hK K Sx5 hu hb hpp LW5 Fa5 Fk5 Fb5 Fr5
              try go_frame
              refine anyU_ready (rs := [12]) (by kernel_rfl) (by simp) (AllU.cons (o := ⟨none, .store 27 (.tmp 7) (.tmp 25), _, _, _, none⟩) rfl (fun K hK => ?_) (fun _ => by kernel_rfl) AllU.nil)
              rw [if_pos (by rfl)]
              obtain ⟨y0, y1, y2, y3, f0, f1, f2, f3⟩ := out_cells Pp6.out
              go_simp
              refine hK.out _ _ (fun h => absurd h (by decide)) ?_
              clear hK K
              try go_frame
              refine anyU_ready (rs := [13]) (by kernel_rfl) (by simp) (AllU.cons (o := ⟨some 8, .assign (.tmp 26), _, _, _, none⟩) rfl (fun K hK => ?_) (fun _ => by kernel_rfl) AllU.nil)
              rw [if_pos (by rfl)]
              go_simp
              refine hK.out _ _ (fun h => absurd h (by decide)) ?_
              clear hK K
              try go_frame
              refine anyU_done (by kernel_rfl) ?_ _
              obtain ⟨Wd, hWd⟩ : ∃ X, X = store4 u6 (u5.heap.size) (a.merged key b).leaf (.slice M1 z1 o1) (.slice M2 z2 o2) (.slice M3 z3 o3) := ⟨_, rfl⟩
              have hb := store4_below (w := u6) (lf := (a.merged key b).leaf) (K := .slice M1 z1 o1) (V := .slice M2 z2 o2) (D := .slice M3 z3 o3) (Nat.le_refl (u5.heap.size))
              have htp := store4_top (lf := (a.merged key b).leaf) (K := .slice M1 z1 o1) (V := .slice M2 z2 o2) (D := .slice M3 z3 o3) Pp6.out
              have hri := (FrI.out.below hb).more (Nat.le_trans (Nat.le_of_lt (Array.getElem?_eq_some_iff.1 Pp6.out).1) hb.size)
              rw [← hWd] at hb htp hri
              unfold store4 at hWd
              rw [← hWd]
              exact ⟨_, M1, z1, o1, M2, z2, o2, M3, z3, o3, _, _, _, _, _, _, _, _, _, _, _, rfl, Lib.hid (LW6.out.kept (hb.mono PB.out)), Lib.hid htp, Lib.hid hri⟩
            · rw [if_pos (by rfl)]
              obtain ⟨u5, hu⟩ : ∃ u, u = u4.alloc (.cells #[.bool false, .slice none 0 0, .slice none 0 0, .slice none 0 0] 27) := ⟨_, rfl⟩
              have hb : Below u4.heap.size u4 u5 := by rw [hu]; exact (Below.refl u4.heap.size u4).alloc (Nat.le_refl _) (.cells #[.bool false, .slice none 0 0, .slice none 0 0, .slice none 0 0] 27)
              have hpp : u5.heap[u4.heap.size]? = some (.cells #[.bool false, .slice none 0 0, .slice none 0 0, .slice none 0 0] 27 (0, 0)) := by rw [hu]; exact heap_alloc_last u4 _
              have LW5 := Lib.hid (LW4.out.kept (hb.mono LW4.out.le))
              have Fa5 := Lib.hid ((Fa4.out.below hb).more hb.size)
              have Fk5 := Lib.hid ((Fk4.out.below hb).more hb.size)
              have Fb5 := Lib.hid ((Fb4.out.below hb).more hb.size)
              have Pp5 := Lib.hid hpp
              have PB := Lib.hid (show W.heap.size ≤ u4.heap.size from LW4.out.le)
              have Sx5 := Lib.hid LW5.out.t.cells
              go_simp
              rw [← hu]
              refine hK.out _ _ (fun _ => Sx5.out) ?_
              clear hK K Sx4 hu hb hpp LW4 Fa4 Fk4 Fb4
              try go_frame
              refine anyU_ready (rs := [7]) (by kernel_rfl) (by simp) (AllU.cons (o := ⟨some 24, .call { callee := .value (.func 25), args := #[.tmp 18, .tmp 21, .tmp 23], argTypes := #[27, 22, 27] }, _, _, _, none⟩) rfl (fun K hK => ?_) (fun h => absurd h (by decide)) AllU.nil)
              rw [if_pos (by rfl)]
              go_simp
              refine (merge_any Fa5.out Fb5.out Fk5.out HSa.out HSb.out).mono ?_
              rintro e u6 ⟨Kr, Vr, Dr, rfl, hn, hb⟩
              obtain ⟨M1, z1, o1, M2, z2, o2, M3, z3, o3, rfl, rfl, rfl⟩ := hn.is.slices
              have LW6 := Lib.hid (LW5.out.kept (hb.mono LW5.out.le))
              have Fa6 := Lib.hid ((Fa5.out.below hb).more hb.size)
              have Fk6 := Lib.hid ((Fk5.out.below hb).more hb.size)
              have Fb6 := Lib.hid ((Fb5.out.below hb).more hb.size)
              have Pp6 := Lib.hid ((hb.block _ (Array.getElem?_eq_some_iff.1 Pp5.out).1).trans Pp5.out)
              have Fr6 := Lib.hid hn
              have PR := Lib.hid (show u4.heap.size < u5.heap.size from (Array.getElem?_eq_some_iff.1 Pp5.out).1)
              have Sx6 := Lib.hid LW6.out.t.cells
              dsimp only
              refine hK.out _ _ (fun _ => Sx6.out) ?_
              clear hK K Sx5 hn hb LW5 Fa5 Fk5 Fb5 Pp5
              try go_frame
              refine' anyU_take0 (i := 8) (oi := ⟨some 16, .move (.tmp 24), _, _, _, none⟩) (v := _) rfl (by kernel_rfl) (fun _ _ _ h => h) (Or.inl ⟨by rfl, ?hy9⟩) (by assumption) ?rest9
              case hy9 => (intro w hSw; go_simp <;> with_reducible rfl)
              case rest9 =>
              go_frame
              refine' anyU_take0 (i := 9) (oi := ⟨some 25, .extract (.tmp 16) 0, _, _, _, none⟩) (v := _) rfl (by kernel_rfl) (fun _ _ _ h => h) (Or.inl ⟨by rfl, ?hy10⟩) (by assumption) ?rest10
              case hy10 => (intro w hSw; go_simp <;> with_reducible rfl)
              case rest10 =>
              go_frame
              refine' anyU_take0 (i := 10) (oi := ⟨some 26, .extract (.tmp 16) 1, _, _, _, none⟩) (v := _) rfl (by kernel_rfl) (fun _ _ _ h => h) (Or.inl ⟨by rfl, ?hy11⟩) (by assumption) ?rest11
              case hy11 => (intro w hSw; go_simp <;> with_reducible rfl)
              case rest11 =>
              go_frame
              refine anyU_ready (rs := [12]) (by kernel_rfl) (by simp) (AllU.cons (o := ⟨none, .store 27 (.tmp 7) (.tmp 25), _, _, _, none⟩) rfl (fun K hK => ?_) (fun _ => by kernel_rfl) AllU.nil)
              rw [if_pos (by rfl)]
              obtain ⟨y0, y1, y2, y3, f0, f1, f2, f3⟩ := out_cells Pp6.out
              go_simp
              refine hK.out _ _ (fun h => absurd h (by decide)) ?_
              clear hK K
              try go_frame
              refine anyU_ready (rs := [13]) (by kernel_rfl) (by simp) (AllU.cons (o := ⟨some 8, .assign (.tmp 26), _, _, _, none⟩) rfl (fun K hK => ?_) (fun _ => by kernel_rfl) AllU.nil)
              rw [if_pos (by rfl)]
              go_simp
              refine hK.out _ _ (fun h => absurd h (by decide)) ?_
              clear hK K
              try go_frame
              refine anyU_done (by kernel_rfl) ?_ _
              obtain ⟨Wd, hWd⟩ : ∃ X, X = store4 u6 (u4.heap.size) (a.merged key b).leaf (.slice M1 z1 o1) (.slice M2 z2 o2) (.slice M3 z3 o3) := ⟨_, rfl⟩
              have hb := store4_below (w := u6) (lf := (a.merged key b).leaf) (K := .slice M1 z1 o1) (V := .slice M2 z2 o2) (D := .slice M3 z3 o3) (Nat.le_refl (u4.heap.size))
              have htp := store4_top (lf := (a.merged key b).leaf) (K := .slice M1 z1 o1) (V := .slice M2 z2 o2) (D := .slice M3 z3 o3) Pp6.out
              have hri := (Fr6.out.store4 (lf := (a.merged key b).leaf) (K := .slice M1 z1 o1) (V := .slice M2 z2 o2) (D := .slice M3 z3 o3) (N := u4.heap.size) PR.out).is
              rw [← hWd] at hb htp hri
              unfold store4 at hWd
              rw [← hWd]
              exact ⟨_, M1, z1, o1, M2, z2, o2, M3, z3, o3, _, _, _, _, _, _, _, _, _, _, _, rfl, Lib.hid (LW6.out.kept (hb.mono PB.out)), Lib.hid htp, Lib.hid hri⟩
          · rw [if_pos (by rfl)]
            obtain ⟨u4, hu⟩ : ∃ u, u = u3.alloc (.cells #[.bool false, .slice none 0 0, .slice none 0 0, .slice none 0 0] 27) := ⟨_, rfl⟩
            have hb : Below u3.heap.size u3 u4 := by rw [hu]; exact (Below.refl u3.heap.size u3).alloc (Nat.le_refl _) (.cells #[.bool false, .slice none 0 0, .slice none 0 0, .slice none 0 0] 27)
            have hpp : u4.heap[u3.heap.size]? = some (.cells #[.bool false, .slice none 0 0, .slice none 0 0, .slice none 0 0] 27 (0, 0)) := by rw [hu]; exact heap_alloc_last u3 _
            have LW4 := Lib.hid (LW3.out.kept (hb.mono LW3.out.le))
            have Fa4 := Lib.hid ((Fa3.out.below hb).more hb.size)
            have Fk4 := Lib.hid ((Fk3.out.below hb).more hb.size)
            have Pp4 := Lib.hid hpp
            have PB := Lib.hid (show W.heap.size ≤ u3.heap.size from LW3.out.le)
            have Sx4 := Lib.hid LW4.out.t.cells
            go_simp
            rw [← hu]
            refine hK.out _ _ (fun _ => Sx4.out) ?_
            clear hK K Sx3 hu hb hpp LW3 Fa3 Fk3
            try go_frame
            refine anyU_ready (rs := [6]) (by kernel_rfl) (by simp) (AllU.cons (o := ⟨some 23, .call { callee := .value (.func 14), args := #[.tmp 22], argTypes := #[27] }, _, _, _, none⟩) rfl (fun K hK => ?_) (fun h => absurd h (by decide)) AllU.nil)
            rw [if_pos (by rfl)]
            go_simp
            refine (few2 (LW4.out.ib.more LW4.out.le) CB.out rfl).mono ?_
            rintro e u5 ⟨G1, x1, y1, G2, x2, y2, G3, x3, y3, rfl, hn, hb⟩
            have LW5 := Lib.hid (LW4.out.kept (hb.mono LW4.out.le))
            have Fa5 := Lib.hid ((Fa4.out.below hb).more hb.size)
            have Fk5 := Lib.hid ((Fk4.out.below hb).more hb.size)
            have Pp5 := Lib.hid ((hb.block _ (Array.getElem?_eq_some_iff.1 Pp4.out).1).trans Pp4.out)
            have Fb5 := Lib.hid hn.is
            have Sx5 := Lib.hid LW5.out.t.cells
            dsimp only
            refine hK.out _ _ (fun _ => Sx5.out) ?_
            clear hK K Sx4 hn hb LW4 Fa4 Fk4 Pp4
            try go_frame
            refine anyU_ready (rs := [7]) (by kernel_rfl) (by simp) (AllU.cons (o := ⟨some 24, .call { callee := .value (.func 25), args := #[.tmp 18, .tmp 21, .tmp 23], argTypes := #[27, 22, 27] }, _, _, _, none⟩) rfl (fun K hK => ?_) (fun h => absurd h (by decide)) AllU.nil)
            rw [if_pos (by rfl)]
            go_simp
            refine (merge_any Fa5.out Fb5.out Fk5.out HSa.out HSb.out).mono ?_
            rintro e u6 ⟨Kr, Vr, Dr, rfl, hn, hb⟩
            obtain ⟨M1, z1, o1, M2, z2, o2, M3, z3, o3, rfl, rfl, rfl⟩ := hn.is.slices
            have LW6 := Lib.hid (LW5.out.kept (hb.mono LW5.out.le))
            have Fa6 := Lib.hid ((Fa5.out.below hb).more hb.size)
            have Fk6 := Lib.hid ((Fk5.out.below hb).more hb.size)
            have Fb6 := Lib.hid ((Fb5.out.below hb).more hb.size)
            have Pp6 := Lib.hid ((hb.block _ (Array.getElem?_eq_some_iff.1 Pp5.out).1).trans Pp5.out)
            have Fr6 := Lib.hid hn
            have PR := Lib.hid (show u3.heap.size < u5.heap.size from (Array.getElem?_eq_some_iff.1 Pp5.out).1)
            have Sx6 := Lib.hid LW6.out.t.cells
            dsimp only
            refine hK.out _ _ (fun _ => Sx6.out) ?_
            clear hK K Sx5 hn hb LW5 Fa5 Fk5 Fb5 Pp5
            try go_frame
            refine' anyU_take0 (i := 8) (oi := ⟨some 16, .move (.tmp 24), _, _, _, none⟩) (v := _) rfl (by kernel_rfl) (fun _ _ _ h => h) (Or.inl ⟨by rfl, ?hy12⟩) (by assumption) ?rest12
            case hy12 => (intro w hSw; go_simp <;> with_reducible rfl)
            case rest12 =>
            go_frame
            refine' anyU_take0 (i := 9) (oi := ⟨some 25, .extract (.tmp 16) 0, _, _, _, none⟩) (v := _) rfl (by kernel_rfl) (fun _ _ _ h => h) (Or.inl ⟨by rfl, ?hy13⟩) (by assumption) ?rest13
            case hy13 => (intro w hSw; go_simp <;> with_reducible rfl)
            case rest13 =>
            go_frame
            refine' anyU_take0 (i := 10) (oi := ⟨some 26, .extract (.tmp 16) 1, _, _, _, none⟩) (v := _) rfl (by kernel_rfl) (fun _ _ _ h => h) (Or.inl ⟨by rfl, ?hy14⟩) (by assumption) ?rest14
            case hy14 => (intro w hSw; go_simp <;> with_reducible rfl)
            case rest14 =>
            go_frame
            refine anyU_ready (rs := [12]) (by kernel_rfl) (by simp) (AllU.cons (o := ⟨none, .store 27 (.tmp 7) (.tmp 25), _, _, _, none⟩) rfl (fun K hK => ?_) (fun _ => by kernel_rfl) AllU.nil)
            rw [if_pos (by rfl)]
            obtain ⟨y0, y1, y2, y3, f0, f1, f2, f3⟩ := out_cells Pp6.out
            go_simp
            refine hK.out _ _ (fun h => absurd h (by decide)) ?_
            clear hK K
            try go_frame
            refine anyU_ready (rs := [13]) (by kernel_rfl) (by simp) (AllU.cons (o := ⟨some 8, .assign (.tmp 26), _, _, _, none⟩) rfl (fun K hK => ?_) (fun _ => by kernel_rfl) AllU.nil)
            rw [if_pos (by rfl)]
            go_simp
            refine hK.out _ _ (fun h => absurd h (by decide)) ?_
            clear hK K
            try go_frame
            refine anyU_done (by kernel_rfl) ?_ _
            obtain ⟨Wd, hWd⟩ : ∃ X, X = store4 u6 (u3.heap.size) (a.merged key b).leaf (.slice M1 z1 o1) (.slice M2 z2 o2) (.slice M3 z3 o3) := ⟨_, rfl⟩
            have hb := store4_below (w := u6) (lf := (a.merged key b).leaf) (K := .slice M1 z1 o1) (V := .slice M2 z2 o2) (D := .slice M3 z3 o3) (Nat.le_refl (u3.heap.size))
            have htp := store4_top (lf := (a.merged key b).leaf) (K := .slice M1 z1 o1) (V := .slice M2 z2 o2) (D := .slice M3 z3 o3) Pp6.out
            have hri := (Fr6.out.store4 (lf := (a.merged key b).leaf) (K := .slice M1 z1 o1) (V := .slice M2 z2 o2) (D := .slice M3 z3 o3) (N := u3.heap.size) PR.out).is
            rw [← hWd] at hb htp hri
            unfold store4 at hWd
            rw [← hWd]
            exact ⟨_, M1, z1, o1, M2, z2, o2, M3, z3, o3, _, _, _, _, _, _, _, _, _, _, _, rfl, Lib.hid (LW6.out.kept (hb.mono PB.out)), Lib.hid htp, Lib.hid hri⟩
        · rw [if_pos (by rfl)]
          obtain ⟨u3, hu⟩ : ∃ u, u = u2.alloc (.cells #[.bool false, .slice none 0 0, .slice none 0 0, .slice none 0 0] 27) := ⟨_, rfl⟩
          have hb : Below u2.heap.size u2 u3 := by rw [hu]; exact (Below.refl u2.heap.size u2).alloc (Nat.le_refl _) (.cells #[.bool false, .slice none 0 0, .slice none 0 0, .slice none 0 0] 27)
          have hpp : u3.heap[u2.heap.size]? = some (.cells #[.bool false, .slice none 0 0, .slice none 0 0, .slice none 0 0] 27 (0, 0)) := by rw [hu]; exact heap_alloc_last u2 _
          have LW3 := Lib.hid (LW2.out.kept (hb.mono LW2.out.le))
          have Fa3 := Lib.hid (Fa2.out.kept hb)
          have My3 := Lib.hid (My2.out.kept hb)
          have El3 := Lib.hid (show u1.heap.size < u3.heap.size from Nat.lt_of_lt_of_le El2.out hb.size)
          have Fi3 := Lib.hid (Fi2.out.below (hb.mono (Nat.le_of_lt El2.out)))
          have Pp3 := Lib.hid hpp
          have PB := Lib.hid (show W.heap.size ≤ u2.heap.size from LW2.out.le)
          have PE := Lib.hid (show u2.heap.size ≠ u1.heap.size from fun x => by have := El2.out; omega)
          have Sx3 := Lib.hid LW3.out.t.cells
          go_simp
          rw [← hu]
          refine hK.out _ _ (fun _ => Sx3.out) ?_
          clear hK K Sx2 hu hb hpp LW2 Fa2 My2 El2 Fi2
          try go_frame
          refine anyU_ready (rs := [4]) (by kernel_rfl) (by simp) (AllU.cons (o := ⟨some 21, .call { callee := .builtin .append, args := #[.tmp 19, .tmp 20], argTypes := #[22, 22] }, _, _, _, none⟩) rfl (fun K hK => ?_) (fun h => absurd h (by decide)) AllU.nil)
          rw [if_pos (by rfl)]
          obtain ⟨Ac, nc, cc, u4, hrun, hk4, hbe, hgr⟩ := appKey My3.out LW3.out.ik HKl.out (Nat.le_of_lt El3.out)
          have Hrun := Lib.hid hrun
          have LW4 := Lib.hid (LW3.out.kept (hbe.mono EB.out))
          have Fa4 := Lib.hid ((Fi3.out.below hbe).more (Nat.le_trans (Nat.le_of_lt El3.out) hbe.size))
          have Fk4 := Lib.hid hk4
          have Pp4 := Lib.hid ((hgr.block _ (Array.getElem?_eq_some_iff.1 Pp3.out).1 (fun x => by injection x with x; have := PE.out; omega)).trans Pp3.out)
          have Sx4 := Lib.hid LW4.out.t.cells
          clear hrun hk4 hbe hgr
          refine wp_run (.slice Ac nc cc) u4 (exec_append (t := 22) (x := .tmp 19) (y := .tmp 20) rfl rfl rfl Hrun.out) ?_
          refine hK.out _ _ (fun _ => Sx4.out) ?_
          clear hK K Sx3 Hrun LW3 Fa3 My3 El3 EB Fi3 Pp3 PE
          go_frame
          refine anyU_ready (rs := [6]) (by kernel_rfl) (by simp) (AllU.cons (o := ⟨some 23, .call { callee := .value (.func 14), args := #[.tmp 22], argTypes := #[27] }, _, _, _, none⟩) rfl (fun K hK => ?_) (fun h => absurd h (by decide)) AllU.nil)
          rw [if_pos (by rfl)]
          go_simp
          refine (few2 (LW4.out.ib.more LW4.out.le) CB.out rfl).mono ?_
          rintro e u5 ⟨G1, x1, y1, G2, x2, y2, G3, x3, y3, rfl, hn, hb⟩
          have LW5 := Lib.hid (LW4.out.kept (hb.mono LW4.out.le))
          have Fa5 := Lib.hid ((Fa4.out.below hb).more hb.size)
          have Fk5 := Lib.hid ((Fk4.out.below hb).more hb.size)
          have Pp5 := Lib.hid ((hb.block _ (Array.getElem?_eq_some_iff.1 Pp4.out).1).trans Pp4.out)
          have Fb5 := Lib.hid hn.is
          have Sx5 := Lib.hid LW5.out.t.cells
          dsimp only
          refine hK.out _ _ (fun _ => Sx5.out) ?_
          clear hK K Sx4 hn hb LW4 Fa4 Fk4 Pp4
          try go_frame
          refine anyU_ready (rs := [7]) (by kernel_rfl) (by simp) (AllU.cons (o := ⟨some 24, .call { callee := .value (.func 25), args := #[.tmp 18, .tmp 21, .tmp 23], argTypes := #[27, 22, 27] }, _, _, _, none⟩) rfl (fun K hK => ?_) (fun h => absurd h (by decide)) AllU.nil)
          rw [if_pos (by rfl)]
          go_simp
          refine (merge_any Fa5.out Fb5.out Fk5.out HSa.out HSb.out).mono ?_
          rintro e u6 ⟨Kr, Vr, Dr, rfl, hn, hb⟩
          obtain ⟨M1, z1, o1, M2, z2, o2, M3, z3, o3, rfl, rfl, rfl⟩ := hn.is.slices
          have LW6 := Lib.hid (LW5.out.kept (hb.mono LW5.out.le))
          have Fa6 := Lib.hid ((Fa5.out.below hb).more hb.size)
          have Fk6 := Lib.hid ((Fk5.out.below hb).more hb.size)
          have Fb6 := Lib.hid ((Fb5.out.below hb).more hb.size)
          have Pp6 := Lib.hid ((hb.block _ (Array.getElem?_eq_some_iff.1 Pp5.out).1).trans Pp5.out)
          have Fr6 := Lib.hid hn
          have PR := Lib.hid (show u2.heap.size < u5.heap.size from (Array.getElem?_eq_some_iff.1 Pp5.out).1)
          have Sx6 := Lib.hid LW6.out.t.cells
          dsimp only
          refine hK.out _ _ (fun _ => Sx6.out) ?_
          clear hK K Sx5 hn hb LW5 Fa5 Fk5 Fb5 Pp5
          try go_frame
          refine' anyU_take0 (i := 8) (oi := ⟨some 16, .move (.tmp 24), _, _, _, none⟩) (v := _) rfl (by kernel_rfl) (fun _ _ _ h => h) (Or.inl ⟨by rfl, ?hy15⟩) (by assumption) ?rest15
          case hy15 => (intro w hSw; go_simp <;> with_reducible rfl)
          case rest15 =>
          go_frame
          refine' anyU_take0 (i := 9) (oi := ⟨some 25, .extract (.tmp 16) 0, _, _, _, none⟩) (v := _) rfl (by kernel_rfl) (fun _ _ _ h => h) (Or.inl ⟨by rfl, ?hy16⟩) (by assumption) ?rest16
          case hy16 => (intro w hSw; go_simp <;> with_reducible rfl)
          case rest16 =>
          go_frame
          refine' anyU_take0 (i := 10) (oi := ⟨some 26, .extract (.tmp 16) 1, _, _, _, none⟩) (v := _) rfl (by kernel_rfl) (fun _ _ _ h => h) (Or.inl ⟨by rfl, ?hy17⟩) (by assumption) ?rest17
          case hy17 => (intro w hSw; go_simp <;> with_reducible rfl)
          case rest17 =>
          go_frame
          refine anyU_ready (rs := [12]) (by kernel_rfl) (by simp) (AllU.cons (o := ⟨none, .store 27 (.tmp 7) (.tmp 25), _, _, _, none⟩) rfl (fun K hK => ?_) (fun _ => by kernel_rfl) AllU.nil)
          rw [if_pos (by rfl)]
          obtain ⟨y0, y1, y2, y3, f0, f1, f2, f3⟩ := out_cells Pp6.out
          go_simp
          refine hK.out _ _ (fun h => absurd h (by decide)) ?_
          clear hK K
          try go_frame
          refine anyU_ready (rs := [13]) (by kernel_rfl) (by simp) (AllU.cons (o := ⟨some 8, .assign (.tmp 26), _, _, _, none⟩) rfl (fun K hK => ?_) (fun _ => by kernel_rfl) AllU.nil)
          rw [if_pos (by rfl)]
          go_simp
          refine hK.out _ _ (fun h => absurd h (by decide)) ?_
          clear hK K
          try go_frame
          refine anyU_done (by kernel_rfl) ?_ _
          obtain ⟨Wd, hWd⟩ : ∃ X, X = store4 u6 (u2.heap.size) (a.merged key b).leaf (.slice M1 z1 o1) (.slice M2 z2 o2) (.slice M3 z3 o3) := ⟨_, rfl⟩
          have hb := store4_below (w := u6) (lf := (a.merged key b).leaf) (K := .slice M1 z1 o1) (V := .slice M2 z2 o2) (D := .slice M3 z3 o3) (Nat.le_refl (u2.heap.size))
          have htp := store4_top (lf := (a.merged key b).leaf) (K := .slice M1 z1 o1) (V := .slice M2 z2 o2) (D := .slice M3 z3 o3) Pp6.out
          have hri := (Fr6.out.store4 (lf := (a.merged key b).leaf) (K := .slice M1 z1 o1) (V := .slice M2 z2 o2) (D := .slice M3 z3 o3) (N := u2.heap.size) PR.out).is
          rw [← hWd] at hb htp hri
          unfold store4 at hWd
          rw [← hWd]
          exact ⟨_, M1, z1, o1, M2, z2, o2, M3, z3, o3, _, _, _, _, _, _, _, _, _, _, _, rfl, Lib.hid (LW6.out.kept (hb.mono PB.out)), Lib.hid htp, Lib.hid hri⟩
      · rw [if_pos (by rfl)]
        obtain ⟨u2, hu⟩ : ∃ u, u = u1.alloc (.cells #[.bool false, .slice none 0 0, .slice none 0 0, .slice none 0 0] 27) := ⟨_, rfl⟩
        have hb : Below u1.heap.size u1 u2 := by rw [hu]; exact (Below.refl u1.heap.size u1).alloc (Nat.le_refl _) (.cells #[.bool false, .slice none 0 0, .slice none 0 0, .slice none 0 0] 27)
        have hpp : u2.heap[u1.heap.size]? = some (.cells #[.bool false, .slice none 0 0, .slice none 0 0, .slice none 0 0] 27 (0, 0)) := by rw [hu]; exact heap_alloc_last u1 _
        have LW2 := Lib.hid (LW1.out.kept (hb.mono LW1.out.le))
        have Fa2 := Lib.hid (Fa1.out.kept hb)
        have Pp2 := Lib.hid hpp
        have PB := Lib.hid (show W.heap.size ≤ u1.heap.size from LW1.out.le)
        have Sx2 := Lib.hid LW2.out.t.cells
        go_simp
        rw [← hu]
        refine hK.out _ _ (fun _ => Sx2.out) ?_
        clear hK K Sx1 hu hb hpp LW1 Fa1
        try go_frame
        refine anyU_ready (rs := [2]) (by kernel_rfl) (by simp) (AllU.cons (o := ⟨some 19, .buildSlice 22 0 #[], _, _, _, none⟩) rfl (fun K hK => ?_) (fun h => absurd h (by decide)) AllU.nil)
        rw [if_pos (by rfl)]
        obtain ⟨u3, hu⟩ : ∃ u, u = u2.alloc (.cells #[] 5) := ⟨_, rfl⟩
        have hb : Below u2.heap.size u2 u3 := by rw [hu]; exact (Below.refl u2.heap.size u2).alloc (Nat.le_refl _) (.cells #[] 5)
        have hmy : Mine u3 u2.heap.size 5 (.slice (some ⟨u2.heap.size, 0, none⟩) 0 0) [] := by rw [hu]; exact Mine.empty u2 _ 5 (Nat.le_refl _)
        have hel : u2.heap.size < u3.heap.size := by rw [hu]; simp
        have LW3 := Lib.hid (LW2.out.kept (hb.mono LW2.out.le))
        have Fa3 := Lib.hid (Fa2.out.kept hb)
        have Pp3 := Lib.hid ((hb.block _ (Array.getElem?_eq_some_iff.1 Pp2.out).1).trans Pp2.out)
        have My3 := Lib.hid hmy
        have El3 := Lib.hid hel
        have EB := Lib.hid (show W.heap.size ≤ u2.heap.size from LW2.out.le)
        have Fi3 := Lib.hid (Fa2.out.is.below hb)
        have PE := Lib.hid (show u1.heap.size ≠ u2.heap.size from Nat.ne_of_lt (Array.getElem?_eq_some_iff.1 Pp2.out).1)
        have Sx3 := Lib.hid LW3.out.t.cells
        go_simp
        rw [← hu]
        refine hK.out _ _ (fun _ => Sx3.out) ?_
        clear hK K Sx2 hu hb hmy hel LW2 Fa2 Pp2
        try go_frame
        refine anyU_ready (rs := [4]) (by kernel_rfl) (by simp) (AllU.cons (o := ⟨some 21, .call { callee := .builtin .append, args := #[.tmp 19, .tmp 20], argTypes := #[22, 22] }, _, _, _, none⟩) rfl (fun K hK => ?_) (fun h => absurd h (by decide)) AllU.nil)
        rw [if_pos (by rfl)]
        obtain ⟨Ac, nc, cc, u4, hrun, hk4, hbe, hgr⟩ := appKey My3.out LW3.out.ik HKl.out (Nat.le_of_lt El3.out)
        have Hrun := Lib.hid hrun
        have LW4 := Lib.hid (LW3.out.kept (hbe.mono EB.out))
        have Fa4 := Lib.hid ((Fi3.out.below hbe).more (Nat.le_trans (Nat.le_of_lt El3.out) hbe.size))
        have Fk4 := Lib.hid hk4
        have Pp4 := Lib.hid ((hgr.block _ (Array.getElem?_eq_some_iff.1 Pp3.out).1 (fun x => by injection x with x; have := PE.out; omega)).trans Pp3.out)
        have Sx4 := Lib.hid LW4.out.t.cells
        clear hrun hk4 hbe hgr
        refine wp_run (.slice Ac nc cc) u4 (exec_append (t := 22) (x := .tmp 19) (y := .tmp 20) rfl rfl rfl Hrun.out) ?_
        refine hK.out _ _ (fun _ => Sx4.out) ?_
        clear hK K Sx3 Hrun LW3 Fa3 My3 El3 EB Fi3 Pp3 PE
        go_frame
        refine anyU_ready (rs := [6]) (by kernel_rfl) (by simp) (AllU.cons (o := ⟨some 23, .call { callee := .value (.func 14), args := #[.tmp 22], argTypes := #[27] }, _, _, _, none⟩) rfl (fun K hK => ?_) (fun h => absurd h (by decide)) AllU.nil)
        rw [if_pos (by rfl)]
        go_simp
        refine (few2 (LW4.out.ib.more LW4.out.le) CB.out rfl).mono ?_
        rintro e u5 ⟨G1, x1, y1, G2, x2, y2, G3, x3, y3, rfl, hn, hb⟩
        have LW5 := Lib.hid (LW4.out.kept (hb.mono LW4.out.le))
        have Fa5 := Lib.hid ((Fa4.out.below hb).more hb.size)
        have Fk5 := Lib.hid ((Fk4.out.below hb).more hb.size)
        have Pp5 := Lib.hid ((hb.block _ (Array.getElem?_eq_some_iff.1 Pp4.out).1).trans Pp4.out)
        have Fb5 := Lib.hid hn.is
        have Sx5 := Lib.hid LW5.out.t.cells
        dsimp only
        refine hK.out _ _ (fun _ => Sx5.out) ?_
        clear hK K Sx4 hn hb LW4 Fa4 Fk4 Pp4
        try go_frame
        refine anyU_ready (rs := [7]) (by kernel_rfl) (by simp) (AllU.cons (o := ⟨some 24, .call { callee := .value (.func 25), args := #[.tmp 18, .tmp 21, .tmp 23], argTypes := #[27, 22, 27] }, _, _, _, none⟩) rfl (fun K hK => ?_) (fun h => absurd h (by decide)) AllU.nil)
        rw [if_pos (by rfl)]
        go_simp
        refine (merge_any Fa5.out Fb5.out Fk5.out HSa.out HSb.out).mono ?_
        rintro e u6 ⟨Kr, Vr, Dr, rfl, hn, hb⟩
        obtain ⟨M1, z1, o1, M2, z2, o2, M3, z3, o3, rfl, rfl, rfl⟩ := hn.is.slices
        have LW6 := Lib.hid (LW5.out.kept (hb.mono LW5.out.le))
        have Fa6 := Lib.hid ((Fa5.out.below hb).more hb.size)
        have Fk6 := Lib.hid ((Fk5.out.below hb).more hb.size)
        have Fb6 := Lib.hid ((Fb5.out.below hb).more hb.size)
        have Pp6 := Lib.hid ((hb.block _ (Array.getElem?_eq_some_iff.1 Pp5.out).1).trans Pp5.out)
        have Fr6 := Lib.hid hn
        have PR := Lib.hid (show u1.heap.size < u5.heap.size from (Array.getElem?_eq_some_iff.1 Pp5.out).1)
        have Sx6 := Lib.hid LW6.out.t.cells
        dsimp only
        refine hK.out _ _ (fun _ => Sx6.out) ?_
        clear hK K Sx5 hn hb LW5 Fa5 Fk5 Fb5 Pp5
        try go_frame
        refine' anyU_take0 (i := 8) (oi := ⟨some 16, .move (.tmp 24), _, _, _, none⟩) (v := _) rfl (by kernel_rfl) (fun _ _ _ h => h) (Or.inl ⟨by rfl, ?hy18⟩) (by assumption) ?rest18
        case hy18 => (intro w hSw; go_simp <;> with_reducible rfl)
        case rest18 =>
        go_frame
        refine' anyU_take0 (i := 9) (oi := ⟨some 25, .extract (.tmp 16) 0, _, _, _, none⟩) (v := _) rfl (by kernel_rfl) (fun _ _ _ h => h) (Or.inl ⟨by rfl, ?hy19⟩) (by assumption) ?rest19
        case hy19 => (intro w hSw; go_simp <;> with_reducible rfl)
        case rest19 =>
        go_frame
        refine' anyU_take0 (i := 10) (oi := ⟨some 26, .extract (.tmp 16) 1, _, _, _, none⟩) (v := _) rfl (by kernel_rfl) (fun _ _ _ h => h) (Or.inl ⟨by rfl, ?hy20⟩) (by assumption) ?rest20
        case hy20 => (intro w hSw; go_simp <;> with_reducible rfl)
        case rest20 =>
        go_frame
        refine anyU_ready (rs := [12]) (by kernel_rfl) (by simp) (AllU.cons (o := ⟨none, .store 27 (.tmp 7) (.tmp 25), _, _, _, none⟩) rfl (fun K hK => ?_) (fun _ => by kernel_rfl) AllU.nil)
        rw [if_pos (by rfl)]
        obtain ⟨y0, y1, y2, y3, f0, f1, f2, f3⟩ := out_cells Pp6.out
        go_simp
        refine hK.out _ _ (fun h => absurd h (by decide)) ?_
        clear hK K
        try go_frame
        refine anyU_ready (rs := [13]) (by kernel_rfl) (by simp) (AllU.cons (o := ⟨some 8, .assign (.tmp 26), _, _, _, none⟩) rfl (fun K hK => ?_) (fun _ => by kernel_rfl) AllU.nil)
        rw [if_pos (by rfl)]
        go_simp
        refine hK.out _ _ (fun h => absurd h (by decide)) ?_
        clear hK K
        try go_frame
        refine anyU_done (by kernel_rfl) ?_ _
        obtain ⟨Wd, hWd⟩ : ∃ X, X = store4 u6 (u1.heap.size) (a.merged key b).leaf (.slice M1 z1 o1) (.slice M2 z2 o2) (.slice M3 z3 o3) := ⟨_, rfl⟩
        have hb := store4_below (w := u6) (lf := (a.merged key b).leaf) (K := .slice M1 z1 o1) (V := .slice M2 z2 o2) (D := .slice M3 z3 o3) (Nat.le_refl (u1.heap.size))
        have htp := store4_top (lf := (a.merged key b).leaf) (K := .slice M1 z1 o1) (V := .slice M2 z2 o2) (D := .slice M3 z3 o3) Pp6.out
        have hri := (Fr6.out.store4 (lf := (a.merged key b).leaf) (K := .slice M1 z1 o1) (V := .slice M2 z2 o2) (D := .slice M3 z3 o3) (N := u1.heap.size) PR.out).is
        rw [← hWd] at hb htp hri
        unfold store4 at hWd
        rw [← hWd]
        exact ⟨_, M1, z1, o1, M2, z2, o2, M3, z3, o3, _, _, _, _, _, _, _, _, _, _, _, rfl, Lib.hid (LW6.out.kept (hb.mono PB.out)), Lib.hid htp, Lib.hid hri⟩
    · rw [if_pos (by rfl)]
      obtain ⟨u1, hu⟩ : ∃ u, u = (W.alloc (.cells #[] 5)).drew := ⟨_, rfl⟩
      have hb : Below W.drew.heap.size W.drew u1 := by rw [hu]; exact (Below.refl W.drew.heap.size W.drew).alloc (Nat.le_refl _) (.cells #[] 5)
      have hmy : Mine u1 W.heap.size 5 (.slice (some ⟨W.heap.size, 0, none⟩) 0 0) [] := by rw [hu]; exact Mine.empty W.drew _ 5 (Nat.le_refl _)
      have hel : W.heap.size < u1.heap.size := by rw [hu]; simp
      have LW1 := Lib.hid (LW0.out.kept (hb.mono LW0.out.le))
      have My1 := Lib.hid hmy
      have El1 := Lib.hid hel
      have EB := Lib.hid (show W.heap.size ≤ W.heap.size from LW0.out.le)
      have Sx1 := Lib.hid LW1.out.t.cells
      go_simp
      rw [← hu]
      refine hK.out _ _ (fun _ => Sx1.out) ?_
      clear hK K  hu hb hmy hel LW0
      try go_frame
      refine anyU_ready (rs := [1, 11]) (by kernel_rfl) (by simp) (AllU.cons (o := ⟨some 18, .call { callee := .value (.func 14), args := #[.tmp 17], argTypes := #[27] }, _, _, _, none⟩) rfl (fun K hK => ?_) (fun h => absurd h (by decide)) (AllU.cons (o := ⟨some 7, .alloc 27, _, _, _, none⟩) rfl (fun K hK => ?_) (fun h => absurd h (by decide)) AllU.nil))
      · rw [if_pos (by rfl)]
        go_simp
        refine (few2 (LW1.out.ia.more LW1.out.le) CA.out rfl).mono ?_
        rintro e u2 ⟨F1, i1, j1, F2, i2, j2, F3, i3, j3, rfl, hn, hb⟩
        have LW2 := Lib.hid (LW1.out.kept (hb.mono LW1.out.le))
        have My2 := Lib.hid (My1.out.kept hb)
        have El2 := Lib.hid (show W.heap.size < u2.heap.size from Nat.lt_of_lt_of_le El1.out hb.size)
        have Fa2 := Lib.hid hn
        have EA := Lib.hid El1.out
        have Sx2 := Lib.hid LW2.out.t.cells
        dsimp only
        refine hK.out _ _ (fun _ => Sx2.out) ?_
        clear hK K Sx1 hn hb LW1 My1 El1
        try go_frame
        refine anyU_ready (rs := [4, 11]) (by kernel_rfl) (by simp) (AllU.cons (o := ⟨some 21, .call { callee := .builtin .append, args := #[.tmp 19, .tmp 20], argTypes := #[22, 22] }, _, _, _, none⟩) rfl (fun K hK => ?_) (fun h => absurd h (by decide)) (AllU.cons (o := ⟨some 7, .alloc 27, _, _, _, none⟩) rfl (fun K hK => ?_) (fun h => absurd h (by decide)) AllU.nil))
        · rw [if_pos (by rfl)]
          obtain ⟨Ac, nc, cc, u3, hrun, hk4, hbe, hgr⟩ := appKey My2.out LW2.out.ik HKl.out (Nat.le_of_lt El2.out)
          have Hrun := Lib.hid hrun
          have LW3 := Lib.hid (LW2.out.kept (hbe.mono EB.out))
          have Fa3 := Lib.hid (Fa2.out.keep (Fr.inner hgr (Nat.zero_le _) EA.out)).is
          have Fk3 := Lib.hid hk4
          have Sx3 := Lib.hid LW3.out.t.cells
          clear hrun hk4 hbe hgr
          refine wp_run (.slice Ac nc cc) u3 (exec_append (t := 22) (x := .tmp 19) (y := .tmp 20) rfl rfl rfl Hrun.out) ?_
          refine hK.out _ _ (fun _ => Sx3.out) ?_
          clear hK K Sx2 Hrun LW2 Fa2 My2 El2 EB EA
          go_frame
          refine anyU_ready (rs := [6, 11]) (by kernel_rfl) (by simp) (AllU.cons (o := ⟨some 23, .call { callee := .value (.func 14), args := #[.tmp 22], argTypes := #[27] }, _, _, _, none⟩) rfl (fun K hK => ?_) (fun h => absurd h (by decide)) (AllU.cons (o := ⟨some 7, .alloc 27, _, _, _, none⟩) rfl (fun K hK => ?_) (fun h => absurd h (by decide)) AllU.nil))
          · rw [if_pos (by rfl)]
            go_simp
            refine (few2 (LW3.out.ib.more LW3.out.le) CB.out rfl).mono ?_
            rintro e u4 ⟨G1, x1, y1, G2, x2, y2, G3, x3, y3, rfl, hn, hb⟩
            have LW4 := Lib.hid (LW3.out.kept (hb.mono LW3.out.le))
            have Fa4 := Lib.hid ((Fa3.out.below hb).more hb.size)
            have Fk4 := Lib.hid ((Fk3.out.below hb).more hb.size)
            have Fb4 := Lib.hid hn.is
            have Sx4 := Lib.hid LW4.out.t.cells
            dsimp only
            refine hK.out _ _ (fun _ => Sx4.out) ?_
            clear hK K Sx3 hn hb LW3 Fa3 Fk3
            try go_frame
            refine anyU_ready (rs := [7, 11]) (by kernel_rfl) (by simp) (AllU.cons (o := ⟨some 24, .call { callee := .value (.func 25), args := #[.tmp 18, .tmp 21, .tmp 23], argTypes := #[27, 22, 27] }, _, _, _, none⟩) rfl (fun K hK => ?_) (fun h => absurd h (by decide)) (AllU.cons (o := ⟨some 7, .alloc 27, _, _, _, none⟩) rfl (fun K hK => ?_) (fun h => absurd h (by decide)) AllU.nil))
            · rw [if_pos (by rfl)]
              go_simp
              refine (merge_any Fa4.out Fb4.out Fk4.out HSa.out HSb.out).mono ?_
              rintro e u5 ⟨Kr, Vr, Dr, rfl, hn, hb⟩
              obtain ⟨M1, z1, o1, M2, z2, o2, M3, z3, o3, rfl, rfl, rfl⟩ := hn.is.slices
              have LW5 := Lib.hid (LW4.out.kept (hb.mono LW4.out.le))
              have Fa5 := Lib.hid ((Fa4.out.below hb).more hb.size)
              have Fk5 := Lib.hid ((Fk4.out.below hb).more hb.size)
              have Fb5 := Lib.hid ((Fb4.out.below hb).more hb.size)
              have Fr5 := Lib.hid hn
              have Sx5 := Lib.hid LW5.out.t.cells
              dsimp only
              refine hK.out _ _ (fun _ => Sx5.out) ?_
              clear hK K Sx4 hn hb LW4 Fa4 Fk4 Fb4
              try go_frame
              refine' anyU_take0 (i := 8) (oi := ⟨some 16, .move (.tmp 24), _, _, _, none⟩) (v := _) rfl (by kernel_rfl) (fun _ _ _ h => h) (Or.inl ⟨by rfl, ?hy21⟩) (by assumption) ?rest21
              case hy21 => (intro w hSw; go_simp <;> with_reducible rfl)
              case rest21 =>
              go_frame
              refine' anyU_take0 (i := 9) (oi := ⟨some 25, .extract (.tmp 16) 0, _, _, _, none⟩) (v := _) rfl (by kernel_rfl) (fun _ _ _ h => h) (Or.inl ⟨by rfl, ?hy22⟩) (by assumption) ?rest22
              case hy22 => (intro w hSw; go_simp <;> with_reducible rfl)
              case rest22 =>
              go_frame
              refine' anyU_take0 (i := 10) (oi := ⟨some 26, .extract (.tmp 16) 1, _, _, _, none⟩) (v := _) rfl (by kernel_rfl) (fun _ _ _ h => h) (Or.inl ⟨by rfl, ?hy23⟩) (by assumption) ?rest23
              case hy23 => (intro w hSw; go_simp <;> with_reducible rfl)
              case rest23 =>
              go_frame
              refine anyU_ready (rs := [11]) (by kernel_rfl) (by simp) (AllU.cons (o := ⟨some 7, .alloc 27, _, _, _, none⟩) rfl (fun K hK => ?_) (fun h => absurd h (by decide)) AllU.nil)
              rw [if_pos (by rfl)]
              obtain ⟨u6, hu⟩ : ∃ u, u = u5.alloc (.cells #[.bool false, .slice none 0 0, .slice none 0 0, .slice none 0 0] 27) := ⟨_, rfl⟩
              have hb : Below u5.heap.size u5 u6 := by rw [hu]; exact (Below.refl u5.heap.size u5).alloc (Nat.le_refl _) (.cells #[.bool false, .slice none 0 0, .slice none 0 0, .slice none 0 0] 27)
              have hpp : u6.heap[u5.heap.size]? = some (.cells #[.bool false, .slice none 0 0, .slice none 0 0, .slice none 0 0] 27 (0, 0)) := by rw [hu]; exact heap_alloc_last u5 _
              have LW6 := Lib.hid (LW5.out.kept (hb.mono LW5.out.le))
              have Fa6 := Lib.hid ((Fa5.out.below hb).more hb.size)
              have Fk6 := Lib.hid ((Fk5.out.below hb).more hb.size)
              have Fb6 := Lib.hid ((Fb5.out.below hb).more hb.size)
              have Fr6 := Lib.hid (Fr5.out.kept hb)
              have Pp6 := Lib.hid hpp
              have PB := Lib.hid (show W.heap.size ≤ u5.heap.size from LW5.out.le)
              have FrI := Lib.hid (Fr5.out.is.below hb)
              have Sx6 := Lib.hid LW6.out.t.cells
              go_simp
              rw [← hu]
              refine hK.out _ _ (fun _ => Sx6.out) ?_
              clear hK K Sx5 hu hb hpp LW5 Fa5 Fk5 Fb5 Fr5
              try go_frame
              refine anyU_ready (rs := [12]) (by kernel_rfl) (by simp) (AllU.cons (o := ⟨none, .store 27 (.tmp 7) (.tmp 25), _, _, _, none⟩) rfl (fun K hK => ?_) (fun _ => by kernel_rfl) AllU.nil)
              rw [if_pos (by rfl)]
              obtain ⟨y0, y1, y2, y3, f0, f1, f2, f3⟩ := out_cells Pp6.out
              go_simp
              refine hK.out _ _ (fun h => absurd h (by decide)) ?_
              clear hK K
              try go_frame
              refine anyU_ready (rs := [13]) (by kernel_rfl) (by simp) (AllU.cons (o := ⟨some 8, .assign (.tmp 26), _, _, _, none⟩) rfl (fun K hK => ?_) (fun _ => by kernel_rfl) AllU.nil)
              rw [if_pos (by rfl)]
              go_simp
              refine hK.out _ _ (fun h => absurd h (by decide)) ?_
              clear hK K
              try go_frame
              refine anyU_done (by kernel_rfl) ?_ _
              obtain ⟨Wd, hWd⟩ : ∃ X, X = store4 u6 (u5.heap.size) (a.merged key b).leaf (.slice M1 z1 o1) (.slice M2 z2 o2) (.slice M3 z3 o3) := ⟨_, rfl⟩
              have hb := store4_below (w := u6) (lf := (a.merged key b).leaf) (K := .slice M1 z1 o1) (V := .slice M2 z2 o2) (D := .slice M3 z3 o3) (Nat.le_refl (u5.heap.size))
              have htp := store4_top (lf := (a.merged key b).leaf) (K := .slice M1 z1 o1) (V := .slice M2 z2 o2) (D := .slice M3 z3 o3) Pp6.out
              have hri := (FrI.out.below hb).more (Nat.le_trans (Nat.le_of_lt (Array.getElem?_eq_some_iff.1 Pp6.out).1) hb.size)
              rw [← hWd] at hb htp hri
              unfold store4 at hWd
              rw [← hWd]
              exact ⟨_, M1, z1, o1, M2, z2, o2, M3, z3, o3, _, _, _, _, _, _, _, _, _, _, _, rfl, Lib.hid (LW6.out.kept (hb.mono PB.out)), Lib.hid htp, Lib.hid hri⟩
            · rw [if_pos (by rfl)]
              obtain ⟨u5, hu⟩ : ∃ u, u = u4.alloc (.cells #[.bool false, .slice none 0 0, .slice none 0 0, .slice none 0 0] 27) := ⟨_, rfl⟩
              have hb : Below u4.heap.size u4 u5 := by rw [hu]; exact (Below.refl u4.heap.size u4).alloc (Nat.le_refl _) (.cells #[.bool false, .slice none 0 0, .slice none 0 0, .slice none 0 0] 27)
              have hpp : u5.heap[u4.heap.size]? = some (.cells #[.bool false, .slice none 0 0, .slice none 0 0, .slice none 0 0] 27 (0, 0)) := by rw [hu]; exact heap_alloc_last u4 _
              have LW5 := Lib.hid (LW4.out.kept (hb.mono LW4.out.le))
              have Fa5 := Lib.hid ((Fa4.out.below hb).more hb.size)
              have Fk5 := Lib.hid ((Fk4.out.below hb).more hb.size)
              have Fb5 := Lib.hid ((Fb4.out.below hb).more hb.size)
              have Pp5 := Lib.hid hpp
              have PB := Lib.hid (show W.heap.size ≤ u4.heap.size from LW4.out.le)
              have Sx5 := Lib.hid LW5.out.t.cells
              go_simp
              rw [← hu]
              refine hK.out _ _ (fun _ => Sx5.out) ?_
              clear hK K Sx4 hu hb hpp LW4 Fa4 Fk4 Fb4
              try go_frame
              refine anyU_ready (rs := [7]) (by kernel_rfl) (by simp) (AllU.cons (o := ⟨some 24, .call { callee := .value (.func 25), args := #[.tmp 18, .tmp 21, .tmp 23], argTypes := #[27, 22, 27] }, _, _, _, none⟩) rfl (fun K hK => ?_) (fun h => absurd h (by decide)) AllU.nil)
              rw [if_pos (by rfl)]
              go_simp
              refine (merge_any Fa5.out Fb5.out Fk5.out HSa.out HSb.out).mono ?_
              rintro e u6 ⟨Kr, Vr, Dr, rfl, hn, hb⟩
              obtain ⟨M1, z1, o1, M2, z2, o2, M3, z3, o3, rfl, rfl, rfl⟩ := hn.is.slices
              have LW6 := Lib.hid (LW5.out.kept (hb.mono LW5.out.le))
              have Fa6 := Lib.hid ((Fa5.out.below hb).more hb.size)
              have Fk6 := Lib.hid ((Fk5.out.below hb).more hb.size)
              have Fb6 := Lib.hid ((Fb5.out.below hb).more hb.size)
              have Pp6 := Lib.hid ((hb.block _ (Array.getElem?_eq_some_iff.1 Pp5.out).1).trans Pp5.out)
              have Fr6 := Lib.hid hn
              have PR := Lib.hid (show u4.heap.size < u5.heap.size from (Array.getElem?_eq_some_iff.1 Pp5.out).1)
              have Sx6 := Lib.hid LW6.out.t.cells
              dsimp only
              refine hK.out _ _ (fun _ => Sx6.out) ?_
              clear hK K Sx5 hn hb LW5 Fa5 Fk5 Fb5 Pp5
              try go_frame
              refine' anyU_take0 (i := 8) (oi := ⟨some 16, .move (.tmp 24), _, _, _, none⟩) (v := _) rfl (by kernel_rfl) (fun _ _ _ h => h) (Or.inl ⟨by rfl, ?hy24⟩) (by assumption) ?rest24
              case hy24 => (intro w hSw; go_simp <;> with_reducible rfl)
              case rest24 =>
              go_frame
              refine' anyU_take0 (i := 9) (oi := ⟨some 25, .extract (.tmp 16) 0, _, _, _, none⟩) (v := _) rfl (by kernel_rfl) (fun _ _ _ h => h) (Or.inl ⟨by rfl, ?hy25⟩) (by assumption) ?rest25
              case hy25 => (intro w hSw; go_simp <;> with_reducible rfl)
              case rest25 =>
              go_frame
              refine' anyU_take0 (i := 10) (oi := ⟨some 26, .extract (.tmp 16) 1, _, _, _, none⟩) (v := _) rfl (by kernel_rfl) (fun _ _ _ h => h) (Or.inl ⟨by rfl, ?hy26⟩) (by assumption) ?rest26
              case hy26 => (intro w hSw; go_simp <;> with_reducible rfl)
              case rest26 =>
              go_frame
              refine anyU_ready (rs := [12]) (by kernel_rfl) (by simp) (AllU.cons (o := ⟨none, .store 27 (.tmp 7) (.tmp 25), _, _, _, none⟩) rfl (fun K hK => ?_) (fun _ => by kernel_rfl) AllU.nil)
              rw [if_pos (by rfl)]
              obtain ⟨y0, y1, y2, y3, f0, f1, f2, f3⟩ := out_cells Pp6.out
              go_simp
              refine hK.out _ _ (fun h => absurd h (by decide)) ?_
              clear hK K
              try go_frame
              refine anyU_ready (rs := [13]) (by kernel_rfl) (by simp) (AllU.cons (o := ⟨some 8, .assign (.tmp 26), _, _, _, none⟩) rfl (fun K hK => ?_) (fun _ => by kernel_rfl) AllU.nil)
              rw [if_pos (by rfl)]
              go_simp
              refine hK.out _ _ (fun h => absurd h (by decide)) ?_
              clear hK K
              try go_frame
              refine anyU_done (by kernel_rfl) ?_ _
              obtain ⟨Wd, hWd⟩ : ∃ X, X = store4 u6 (u4.heap.size) (a.merged key b).leaf (.slice M1 z1 o1) (.slice M2 z2 o2) (.slice M3 z3 o3) := ⟨_, rfl⟩
              have hb := store4_below (w := u6) (lf := (a.merged key b).leaf) (K := .slice M1 z1 o1) (V := .slice M2 z2 o2) (D := .slice M3 z3 o3) (Nat.le_refl (u4.heap.size))
              have htp := store4_top (lf := (a.merged key b).leaf) (K := .slice M1 z1 o1) (V := .slice M2 z2 o2) (D := .slice M3 z3 o3) Pp6.out
              have hri := (Fr6.out.store4 (lf := (a.merged key b).leaf) (K := .slice M1 z1 o1) (V := .slice M2 z2 o2) (D := .slice M3 z3 o3) (N := u4.heap.size) PR.out).is
              rw [← hWd] at hb htp hri
              unfold store4 at hWd
              rw [← hWd]
              exact ⟨_, M1, z1, o1, M2, z2, o2, M3, z3, o3, _, _, _, _, _, _, _, _, _, _, _, rfl, Lib.hid (LW6.out.kept (hb.mono PB.out)), Lib.hid htp, Lib.hid hri⟩
          · rw [if_pos (by rfl)]
            obtain ⟨u4, hu⟩ : ∃ u, u = u3.alloc (.cells #[.bool false, .slice none 0 0, .slice none 0 0, .slice none 0 0] 27) := ⟨_, rfl⟩
            have hb : Below u3.heap.size u3 u4 := by rw [hu]; exact (Below.refl u3.heap.size u3).alloc (Nat.le_refl _) (.cells #[.bool false, .slice none 0 0, .slice none 0 0, .slice none 0 0] 27)
            have hpp : u4.heap[u3.heap.size]? = some (.cells #[.bool false, .slice none 0 0, .slice none 0 0, .slice none 0 0] 27 (0, 0)) := by rw [hu]; exact heap_alloc_last u3 _
            have LW4 := Lib.hid (LW3.out.kept (hb.mono LW3.out.le))
            have Fa4 := Lib.hid ((Fa3.out.below hb).more hb.size)
            have Fk4 := Lib.hid ((Fk3.out.below hb).more hb.size)
            have Pp4 := Lib.hid hpp
            have PB := Lib.hid (show W.heap.size ≤ u3.heap.size from LW3.out.le)
            have Sx4 := Lib.hid LW4.out.t.cells
            go_simp
            rw [← hu]
            refine hK.out _ _ (fun _ => Sx4.out) ?_
            clear hK K Sx3 hu hb hpp LW3 Fa3 Fk3
            try go_frame
            refine anyU_ready (rs := [6]) (by kernel_rfl) (by simp) (AllU.cons (o := ⟨some 23, .call { callee := .value (.func 14), args := #[.tmp 22], argTypes := #[27] }, _, _, _, none⟩) rfl (fun K hK => ?_) (fun h => absurd h (by decide)) AllU.nil)
            rw [if_pos (by rfl)]
            go_simp
            refine (few2 (LW4.out.ib.more LW4.out.le) CB.out rfl).mono ?_
            rintro e u5 ⟨G1, x1, y1, G2, x2, y2, G3, x3, y3, rfl, hn, hb⟩
            have LW5 := Lib.hid (LW4.out.kept (hb.mono LW4.out.le))
            have Fa5 := Lib.hid ((Fa4.out.below hb).more hb.size)
            have Fk5 := Lib.hid ((Fk4.out.below hb).more hb.size)
            have Pp5 := Lib.hid ((hb.block _ (Array.getElem?_eq_some_iff.1 Pp4.out).1).trans Pp4.out)
            have Fb5 := Lib.hid hn.is
            have Sx5 := Lib.hid LW5.out.t.cells
            dsimp only
            refine hK.out _ _ (fun _ => Sx5.out) ?_
            clear hK K Sx4 hn hb LW4 Fa4 Fk4 Pp4
            try go_frame
            refine anyU_ready (rs := [7]) (by kernel_rfl) (by simp) (AllU.cons (o := ⟨some 24, .call { callee := .value (.func 25), args := #[.tmp 18, .tmp 21, .tmp 23], argTypes := #[27, 22, 27] }, _, _, _, none⟩) rfl (fun K hK => ?_) (fun h => absurd h (by decide)) AllU.nil)
            rw [if_pos (by rfl)]
            go_simp
            refine (merge_any Fa5.out Fb5.out Fk5.out HSa.out HSb.out).mono ?_
            rintro e u6 ⟨Kr, Vr, Dr, rfl, hn, hb⟩
            obtain ⟨M1, z1, o1, M2, z2, o2, M3, z3, o3, rfl, rfl, rfl⟩ := hn.is.slices
            have LW6 := Lib.hid (LW5.out.kept (hb.mono LW5.out.le))
            have Fa6 := Lib.hid ((Fa5.out.below hb).more hb.size)
            have Fk6 := Lib.hid ((Fk5.out.below hb).more hb.size)
            have Fb6 := Lib.hid ((Fb5.out.below hb).more hb.size)
            have Pp6 := Lib.hid ((hb.block _ (Array.getElem?_eq_some_iff.1 Pp5.out).1).trans Pp5.out)
            have Fr6 := Lib.hid hn
            have PR := Lib.hid (show u3.heap.size < u5.heap.size from (Array.getElem?_eq_some_iff.1 Pp5.out).1)
            have Sx6 := Lib.hid LW6.out.t.cells
            dsimp only
            refine hK.out _ _ (fun _ => Sx6.out) ?_
            clear hK K Sx5 hn hb LW5 Fa5 Fk5 Fb5 Pp5
            try go_frame
            refine' anyU_take0 (i := 8) (oi := ⟨some 16, .move (.tmp 24), _, _, _, none⟩) (v := _) rfl (by kernel_rfl) (fun _ _ _ h => h) (Or.inl ⟨by rfl, ?hy27⟩) (by assumption) ?rest27
            case hy27 => (intro w hSw; go_simp <;> with_reducible rfl)
            case rest27 =>
            go_frame
            refine' anyU_take0 (i := 9) (oi := ⟨some 25, .extract (.tmp 16) 0, _, _, _, none⟩) (v := _) rfl (by kernel_rfl) (fun _ _ _ h => h) (Or.inl ⟨by rfl, ?hy28⟩) (by assumption) ?rest28
            case hy28 => (intro w hSw; go_simp <;> with_reducible rfl)
            case rest28 =>
            go_frame
            refine' anyU_take0 (i := 10) (oi := ⟨some 26, .extract (.tmp 16) 1, _, _, _, none⟩) (v := _) rfl (by kernel_rfl) (fun _ _ _ h => h) (Or.inl ⟨by rfl, ?hy29⟩) (by assumption) ?rest29
            case hy29 => (intro w hSw; go_simp <;> with_reducible rfl)
            case rest29 =>
            go_frame
            refine anyU_ready (rs := [12]) (by kernel_rfl) (by simp) (AllU.cons (o := ⟨none, .store 27 (.tmp 7) (.tmp 25), _, _, _, none⟩) rfl (fun K hK => ?_) (fun _ => by kernel_rfl) AllU.nil)
            rw [if_pos (by rfl)]
            obtain ⟨y0, y1, y2, y3, f0, f1, f2, f3⟩ := out_cells Pp6.out
            go_simp
            refine hK.out _ _ (fun h => absurd h (by decide)) ?_
            clear hK K
            try go_frame
            refine anyU_ready (rs := [13]) (by kernel_rfl) (by simp) (AllU.cons (o := ⟨some 8, .assign (.tmp 26), _, _, _, none⟩) rfl (fun K hK => ?_) (fun _ => by kernel_rfl) AllU.nil)
            rw [if_pos (by rfl)]
            go_simp
            refine hK.out _ _ (fun h => absurd h (by decide)) ?_
            clear hK K
            try go_frame
            refine anyU_done (by kernel_rfl) ?_ _
            obtain ⟨Wd, hWd⟩ : ∃ X, X = store4 u6 (u3.heap.size) (a.merged key b).leaf (.slice M1 z1 o1) (.slice M2 z2 o2) (.slice M3 z3 o3) := ⟨_, rfl⟩
            have hb := store4_below (w := u6) (lf := (a.merged key b).leaf) (K := .slice M1 z1 o1) (V := .slice M2 z2 o2) (D := .slice M3 z3 o3) (Nat.le_refl (u3.heap.size))
            have htp := store4_top (lf := (a.merged key b).leaf) (K := .slice M1 z1 o1) (V := .slice M2 z2 o2) (D := .slice M3 z3 o3) Pp6.out
            have hri := (Fr6.out.store4 (lf := (a.merged key b).leaf) (K := .slice M1 z1 o1) (V := .slice M2 z2 o2) (D := .slice M3 z3 o3) (N := u3.heap.size) PR.out).is
            rw [← hWd] at hb htp hri
            unfold store4 at hWd
            rw [← hWd]
            exact ⟨_, M1, z1, o1, M2, z2, o2, M3, z3, o3, _, _, _, _, _, _, _, _, _, _, _, rfl, Lib.hid (LW6.out.kept (hb.mono PB.out)), Lib.hid htp, Lib.hid hri⟩
        · rw [if_pos (by rfl)]
          obtain ⟨u3, hu⟩ : ∃ u, u = u2.alloc (.cells #[.bool false, .slice none 0 0, .slice none 0 0, .slice none 0 0] 27) := ⟨_, rfl⟩
          have hb : Below u2.heap.size u2 u3 := by rw [hu]; exact (Below.refl u2.heap.size u2).alloc (Nat.le_refl _) (.cells #[.bool false, .slice none 0 0, .slice none 0 0, .slice none 0 0] 27)
          have hpp : u3.heap[u2.heap.size]? = some (.cells #[.bool false, .slice none 0 0, .slice none 0 0, .slice none 0 0] 27 (0, 0)) := by rw [hu]; exact heap_alloc_last u2 _
          have LW3 := Lib.hid (LW2.out.kept (hb.mono LW2.out.le))
          have Fa3 := Lib.hid (Fa2.out.kept hb)
          have My3 := Lib.hid (My2.out.kept hb)
          have El3 := Lib.hid (show W.heap.size < u3.heap.size from Nat.lt_of_lt_of_le El2.out hb.size)
          have Pp3 := Lib.hid hpp
          have PB := Lib.hid (show W.heap.size ≤ u2.heap.size from LW2.out.le)
          have PE := Lib.hid (show u2.heap.size ≠ W.heap.size from fun x => by have := El2.out; omega)
          have Sx3 := Lib.hid LW3.out.t.cells
          go_simp
          rw [← hu]
          refine hK.out _ _ (fun _ => Sx3.out) ?_
          clear hK K Sx2 hu hb hpp LW2 Fa2 My2 El2
          try go_frame
          refine anyU_ready (rs := [4]) (by kernel_rfl) (by simp) (AllU.cons (o := ⟨some 21, .call { callee := .builtin .append, args := #[.tmp 19, .tmp 20], argTypes := #[22, 22] }, _, _, _, none⟩) rfl (fun K hK => ?_) (fun h => absurd h (by decide)) AllU.nil)
          rw [if_pos (by rfl)]
          obtain ⟨Ac, nc, cc, u4, hrun, hk4, hbe, hgr⟩ := appKey My3.out LW3.out.ik HKl.out (Nat.le_of_lt El3.out)
          have Hrun := Lib.hid hrun
          have LW4 := Lib.hid (LW3.out.kept (hbe.mono EB.out))
          have Fa4 := Lib.hid (Fa3.out.keep (Fr.inner hgr (Nat.zero_le _) EA.out)).is
          have Fk4 := Lib.hid hk4
          have Pp4 := Lib.hid ((hgr.block _ (Array.getElem?_eq_some_iff.1 Pp3.out).1 (fun x => by injection x with x; have := PE.out; omega)).trans Pp3.out)
          have Sx4 := Lib.hid LW4.out.t.cells
          clear hrun hk4 hbe hgr
          refine wp_run (.slice Ac nc cc) u4 (exec_append (t := 22) (x := .tmp 19) (y := .tmp 20) rfl rfl rfl Hrun.out) ?_
          refine hK.out _ _ (fun _ => Sx4.out) ?_
          clear hK K Sx3 Hrun LW3 Fa3 My3 El3 EB EA Pp3 PE
          go_frame
          refine anyU_ready (rs := [6]) (by kernel_rfl) (by simp) (AllU.cons (o := ⟨some 23, .call { callee := .value (.func 14), args := #[.tmp 22], argTypes := #[27] }, _, _, _, none⟩) rfl (fun K hK => ?_) (fun h => absurd h (by decide)) AllU.nil)
          rw [if_pos (by rfl)]
          go_simp
          refine (few2 (LW4.out.ib.more LW4.out.le) CB.out rfl).mono ?_
          rintro e u5 ⟨G1, x1, y1, G2, x2, y2, G3, x3, y3, rfl, hn, hb⟩
          have LW5 := Lib.hid (LW4.out.kept (hb.mono LW4.out.le))
          have Fa5 := Lib.hid ((Fa4.out.below hb).more hb.size)
          have Fk5 := Lib.hid ((Fk4.out.below hb).more hb.size)
          have Pp5 := Lib.hid ((hb.block _ (Array.getElem?_eq_some_iff.1 Pp4.out).1).trans Pp4.out)
          have Fb5 := Lib.hid hn.is
          have Sx5 := Lib.hid LW5.out.t.cells
          dsimp only
          refine hK.out _ _ (fun _ => Sx5.out) ?_
          clear hK K Sx4 hn hb LW4 Fa4 Fk4 Pp4
          try go_frame
          refine anyU_ready (rs := [7]) (by kernel_rfl) (by simp) (AllU.cons (o := ⟨some 24, .call { callee := .value (.func 25), args := #[.tmp 18, .tmp 21, .tmp 23], argTypes := #[27, 22, 27] }, _, _, _, none⟩) rfl (fun K hK => ?_) (fun h => absurd h (by decide)) AllU.nil)
          rw [if_pos (by rfl)]
          go_simp
          refine (merge_any Fa5.out Fb5.out Fk5.out HSa.out HSb.out).mono ?_
          rintro e u6 ⟨Kr, Vr, Dr, rfl, hn, hb⟩
          obtain ⟨M1, z1, o1, M2, z2, o2, M3, z3, o3, rfl, rfl, rfl⟩ := hn.is.slices
          have LW6 := Lib.hid (LW5.out.kept (hb.mono LW5.out.le))
          have Fa6 := Lib.hid ((Fa5.out.below hb).more hb.size)
          have Fk6 := Lib.hid ((Fk5.out.below hb).more hb.size)
          have Fb6 := Lib.hid ((Fb5.out.below hb).more hb.size)
          have Pp6 := Lib.hid ((hb.block _ (Array.getElem?_eq_some_iff.1 Pp5.out).1).trans Pp5.out)
          have Fr6 := Lib.hid hn
          have PR := Lib.hid (show u2.heap.size < u5.heap.size from (Array.getElem?_eq_some_iff.1 Pp5.out).1)
          have Sx6 := Lib.hid LW6.out.t.cells
          dsimp only
          refine hK.out _ _ (fun _ => Sx6.out) ?_
          clear hK K Sx5 hn hb LW5 Fa5 Fk5 Fb5 Pp5
          try go_frame
          refine' anyU_take0 (i := 8) (oi := ⟨some 16, .move (.tmp 24), _, _, _, none⟩) (v := _) rfl (by kernel_rfl) (fun _ _ _ h => h) (Or.inl ⟨by rfl, ?hy30⟩) (by assumption) ?rest30
          case hy30 => (intro w hSw; go_simp <;> with_reducible rfl)
          case rest30 =>
          go_frame
          refine' anyU_take0 (i := 9) (oi := ⟨some 25, .extract (.tmp 16) 0, _, _, _, none⟩) (v := _) rfl (by kernel_rfl) (fun _ _ _ h => h) (Or.inl ⟨by rfl, ?hy31⟩) (by assumption) ?rest31
          case hy31 => (intro w hSw; go_simp <;> with_reducible rfl)
          case rest31 =>
          go_frame
          refine' anyU_take0 (i := 10) (oi := ⟨some 26, .extract (.tmp 16) 1, _, _, _, none⟩) (v := _) rfl (by kernel_rfl) (fun _ _ _ h => h) (Or.inl ⟨by rfl, ?hy32⟩) (by assumption) ?rest32
          case hy32 => (intro w hSw; go_simp <;> with_reducible rfl)
          case rest32 =>
          go_frame
          refine anyU_ready (rs := [12]) (by kernel_rfl) (by simp) (AllU.cons (o := ⟨none, .store 27 (.tmp 7) (.tmp 25), _, _, _, none⟩) rfl (fun K hK => ?_) (fun _ => by kernel_rfl) AllU.nil)
          rw [if_pos (by rfl)]
          obtain ⟨y0, y1, y2, y3, f0, f1, f2, f3⟩ := out_cells Pp6.out
          go_simp
          refine hK.out _ _ (fun h => absurd h (by decide)) ?_
          clear hK K
          try go_frame
          refine anyU_ready (rs := [13]) (by kernel_rfl) (by simp) (AllU.cons (o := ⟨some 8, .assign (.tmp 26), _, _, _, none⟩) rfl (fun K hK => ?_) (fun _ => by kernel_rfl) AllU.nil)
          rw [if_pos (by rfl)]
          go_simp
          refine hK.out _ _ (fun h => absurd h (by decide)) ?_
          clear hK K
          try go_frame
          refine anyU_done (by kernel_rfl) ?_ _
          obtain ⟨Wd, hWd⟩ : ∃ X, X = store4 u6 (u2.heap.size) (a.merged key b).leaf (.slice M1 z1 o1) (.slice M2 z2 o2) (.slice M3 z3 o3) := ⟨_, rfl⟩
          have hb := store4_below (w := u6) (lf := (a.merged key b).leaf) (K := .slice M1 z1 o1) (V := .slice M2 z2 o2) (D := .slice M3 z3 o3) (Nat.le_refl (u2.heap.size))
          have htp := store4_top (lf := (a.merged key b).leaf) (K := .slice M1 z1 o1) (V := .slice M2 z2 o2) (D := .slice M3 z3 o3) Pp6.out
          have hri := (Fr6.out.store4 (lf := (a.merged key b).leaf) (K := .slice M1 z1 o1) (V := .slice M2 z2 o2) (D := .slice M3 z3 o3) (N := u2.heap.size) PR.out).is
          rw [← hWd] at hb htp hri
          unfold store4 at hWd
          rw [← hWd]
          exact ⟨_, M1, z1, o1, M2, z2, o2, M3, z3, o3, _, _, _, _, _, _, _, _, _, _, _, rfl, Lib.hid (LW6.out.kept (hb.mono PB.out)), Lib.hid htp, Lib.hid hri⟩
      · rw [if_pos (by rfl)]
        obtain ⟨u2, hu⟩ : ∃ u, u = u1.alloc (.cells #[.bool false, .slice none 0 0, .slice none 0 0, .slice none 0 0] 27) := ⟨_, rfl⟩
        have hb : Below u1.heap.size u1 u2 := by rw [hu]; exact (Below.refl u1.heap.size u1).alloc (Nat.le_refl _) (.cells #[.bool false, .slice none 0 0, .slice none 0 0, .slice none 0 0] 27)
        have hpp : u2.heap[u1.heap.size]? = some (.cells #[.bool false, .slice none 0 0, .slice none 0 0, .slice none 0 0] 27 (0, 0)) := by rw [hu]; exact heap_alloc_last u1 _
        have LW2 := Lib.hid (LW1.out.kept (hb.mono LW1.out.le))
        have My2 := Lib.hid (My1.out.kept hb)
        have El2 := Lib.hid (show W.heap.size < u2.heap.size from Nat.lt_of_lt_of_le El1.out hb.size)
        have Pp2 := Lib.hid hpp
        have PB := Lib.hid (show W.heap.size ≤ u1.heap.size from LW1.out.le)
        have PE := Lib.hid (show u1.heap.size ≠ W.heap.size from fun x => by have := El1.out; omega)
        have Sx2 := Lib.hid LW2.out.t.cells
        go_simp
        rw [← hu]
        refine hK.out _ _ (fun _ => Sx2.out) ?_
        clear hK K Sx1 hu hb hpp LW1 My1 El1
        try go_frame
        refine anyU_ready (rs := [1]) (by kernel_rfl) (by simp) (AllU.cons (o := ⟨some 18, .call { callee := .value (.func 14), args := #[.tmp 17], argTypes := #[27] }, _, _, _, none⟩) rfl (fun K hK => ?_) (fun h => absurd h (by decide)) AllU.nil)
        rw [if_pos (by rfl)]
        go_simp
        refine (few2 (LW2.out.ia.more LW2.out.le) CA.out rfl).mono ?_
        rintro e u3 ⟨F1, i1, j1, F2, i2, j2, F3, i3, j3, rfl, hn, hb⟩
        have LW3 := Lib.hid (LW2.out.kept (hb.mono LW2.out.le))
        have My3 := Lib.hid (My2.out.kept hb)
        have El3 := Lib.hid (show W.heap.size < u3.heap.size from Nat.lt_of_lt_of_le El2.out hb.size)
        have Pp3 := Lib.hid ((hb.block _ (Array.getElem?_eq_some_iff.1 Pp2.out).1).trans Pp2.out)
        have Fa3 := Lib.hid hn
        have EA := Lib.hid El2.out
        have Sx3 := Lib.hid LW3.out.t.cells
        dsimp only
        refine hK.out _ _ (fun _ => Sx3.out) ?_
        clear hK K Sx2 hn hb LW2 My2 El2 Pp2
        try go_frame
        refine anyU_ready (rs := [4]) (by kernel_rfl) (by simp) (AllU.cons (o := ⟨some 21, .call { callee := .builtin .append, args := #[.tmp 19, .tmp 20], argTypes := #[22, 22] }, _, _, _, none⟩) rfl (fun K hK => ?_) (fun h => absurd h (by decide)) AllU.nil)
        rw [if_pos (by rfl)]
        obtain ⟨Ac, nc, cc, u4, hrun, hk4, hbe, hgr⟩ := appKey My3.out LW3.out.ik HKl.out (Nat.le_of_lt El3.out)
        have Hrun := Lib.hid hrun
        have LW4 := Lib.hid (LW3.out.kept (hbe.mono EB.out))
        have Fa4 := Lib.hid (Fa3.out.keep (Fr.inner hgr (Nat.zero_le _) EA.out)).is
        have Fk4 := Lib.hid hk4
        have Pp4 := Lib.hid ((hgr.block _ (Array.getElem?_eq_some_iff.1 Pp3.out).1 (fun x => by injection x with x; have := PE.out; omega)).trans Pp3.out)
        have Sx4 := Lib.hid LW4.out.t.cells
        clear hrun hk4 hbe hgr
        refine wp_run (.slice Ac nc cc) u4 (exec_append (t := 22) (x := .tmp 19) (y := .tmp 20) rfl rfl rfl Hrun.out) ?_
        refine hK.out _ _ (fun _ => Sx4.out) ?_
        clear hK K Sx3 Hrun LW3 Fa3 My3 El3 EB EA Pp3 PE
        go_frame
        refine anyU_ready (rs := [6]) (by kernel_rfl) (by simp) (AllU.cons (o := ⟨some 23, .call { callee := .value (.func 14), args := #[.tmp 22], argTypes := #[27] }, _, _, _, none⟩) rfl (fun K hK => ?_) (fun h => absurd h (by decide)) AllU.nil)
        rw [if_pos (by rfl)]
        go_simp
        refine (few2 (LW4.out.ib.more LW4.out.le) CB.out rfl).mono ?_
        rintro e u5 ⟨G1, x1, y1, G2, x2, y2, G3, x3, y3, rfl, hn, hb⟩
        have LW5 := Lib.hid (LW4.out.kept (hb.mono LW4.out.le))
        have Fa5 := Lib.hid ((Fa4.out.below hb).more hb.size)
        have Fk5 := Lib.hid ((Fk4.out.below hb).more hb.size)
        have Pp5 := Lib.hid ((hb.block _ (Array.getElem?_eq_some_iff.1 Pp4.out).1).trans Pp4.out)
        have Fb5 := Lib.hid hn.is
        have Sx5 := Lib.hid LW5.out.t.cells
        dsimp only
        refine hK.out _ _ (fun _ => Sx5.out) ?_
        clear hK K Sx4 hn hb LW4 Fa4 Fk4 Pp4
        try go_frame
        refine anyU_ready (rs := [7]) (by kernel_rfl) (by simp) (AllU.cons (o := ⟨some 24, .call { callee := .value (.func 25), args := #[.tmp 18, .tmp 21, .tmp 23], argTypes := #[27, 22, 27] }, _, _, _, none⟩) rfl (fun K hK => ?_) (fun h => absurd h (by decide)) AllU.nil)
        rw [if_pos (by rfl)]
        go_simp
        refine (merge_any Fa5.out Fb5.out Fk5.out HSa.out HSb.out).mono ?_
        rintro e u6 ⟨Kr, Vr, Dr, rfl, hn, hb⟩
        obtain ⟨M1, z1, o1, M2, z2, o2, M3, z3, o3, rfl, rfl, rfl⟩ := hn.is.slices
        have LW6 := Lib.hid (LW5.out.kept (hb.mono LW5.out.le))
        have Fa6 := Lib.hid ((Fa5.out.below hb).more hb.size)
        have Fk6 := Lib.hid ((Fk5.out.below hb).more hb.size)
        have Fb6 := Lib.hid ((Fb5.out.below hb).more hb.size)
        have Pp6 := Lib.hid ((hb.block _ (Array.getElem?_eq_some_iff.1 Pp5.out).1).trans Pp5.out)
        have Fr6 := Lib.hid hn
        have PR := Lib.hid (show u1.heap.size < u5.heap.size from (Array.getElem?_eq_some_iff.1 Pp5.out).1)
        have Sx6 := Lib.hid LW6.out.t.cells
        dsimp only
        refine hK.out _ _ (fun _ => Sx6.out) ?_
        clear hK K Sx5 hn hb LW5 Fa5 Fk5 Fb5 Pp5
        try go_frame
        refine' anyU_take0 (i := 8) (oi := ⟨some 16, .move (.tmp 24), _, _, _, none⟩) (v := _) rfl (by kernel_rfl) (fun _ _ _ h => h) (Or.inl ⟨by rfl, ?hy33⟩) (by assumption) ?rest33
        case hy33 => (intro w hSw; go_simp <;> with_reducible rfl)
        case rest33 =>
        go_frame
        refine' anyU_take0 (i := 9) (oi := ⟨some 25, .extract (.tmp 16) 0, _, _, _, none⟩) (v := _) rfl (by kernel_rfl) (fun _ _ _ h => h) (Or.inl ⟨by rfl, ?hy34⟩) (by assumption) ?rest34
        case hy34 => (intro w hSw; go_simp <;> with_reducible rfl)
        case rest34 =>
        go_frame
        refine' anyU_take0 (i := 10) (oi := ⟨some 26, .extract (.tmp 16) 1, _, _, _, none⟩) (v := _) rfl (by kernel_rfl) (fun _ _ _ h => h) (Or.inl ⟨by rfl, ?hy35⟩) (by assumption) ?rest35
        case hy35 => (intro w hSw; go_simp <;> with_reducible rfl)
        case rest35 =>
        go_frame
        refine anyU_ready (rs := [12]) (by kernel_rfl) (by simp) (AllU.cons (o := ⟨none, .store 27 (.tmp 7) (.tmp 25), _, _, _, none⟩) rfl (fun K hK => ?_) (fun _ => by kernel_rfl) AllU.nil)
        rw [if_pos (by rfl)]
        obtain ⟨y0, y1, y2, y3, f0, f1, f2, f3⟩ := out_cells Pp6.out
        go_simp
        refine hK.out _ _ (fun h => absurd h (by decide)) ?_
        clear hK K
        try go_frame
        refine anyU_ready (rs := [13]) (by kernel_rfl) (by simp) (AllU.cons (o := ⟨some 8, .assign (.tmp 26), _, _, _, none⟩) rfl (fun K hK => ?_) (fun _ => by kernel_rfl) AllU.nil)
        rw [if_pos (by rfl)]
        go_simp
        refine hK.out _ _ (fun h => absurd h (by decide)) ?_
        clear hK K
        try go_frame
        refine anyU_done (by kernel_rfl) ?_ _
        obtain ⟨Wd, hWd⟩ : ∃ X, X = store4 u6 (u1.heap.size) (a.merged key b).leaf (.slice M1 z1 o1) (.slice M2 z2 o2) (.slice M3 z3 o3) := ⟨_, rfl⟩
        have hb := store4_below (w := u6) (lf := (a.merged key b).leaf) (K := .slice M1 z1 o1) (V := .slice M2 z2 o2) (D := .slice M3 z3 o3) (Nat.le_refl (u1.heap.size))
        have htp := store4_top (lf := (a.merged key b).leaf) (K := .slice M1 z1 o1) (V := .slice M2 z2 o2) (D := .slice M3 z3 o3) Pp6.out
        have hri := (Fr6.out.store4 (lf := (a.merged key b).leaf) (K := .slice M1 z1 o1) (V := .slice M2 z2 o2) (D := .slice M3 z3 o3) (N := u1.heap.size) PR.out).is
        rw [← hWd] at hb htp hri
        unfold store4 at hWd
        rw [← hWd]
        exact ⟨_, M1, z1, o1, M2, z2, o2, M3, z3, o3, _, _, _, _, _, _, _, _, _, _, _, rfl, Lib.hid (LW6.out.kept (hb.mono PB.out)), Lib.hid htp, Lib.hid hri⟩
    · rw [if_pos (by rfl)]
      obtain ⟨u1, hu⟩ : ∃ u, u = (W.alloc (.cells #[.bool false, .slice none 0 0, .slice none 0 0, .slice none 0 0] 27)).drew := ⟨_, rfl⟩
      have hb : Below W.drew.heap.size W.drew u1 := by rw [hu]; exact (Below.refl W.drew.heap.size W.drew).alloc (Nat.le_refl _) (.cells #[.bool false, .slice none 0 0, .slice none 0 0, .slice none 0 0] 27)
      have hpp : u1.heap[W.heap.size]? = some (.cells #[.bool false, .slice none 0 0, .slice none 0 0, .slice none 0 0] 27 (0, 0)) := by rw [hu]; exact heap_alloc_last W.drew _
      have LW1 := Lib.hid (LW0.out.kept (hb.mono LW0.out.le))
      have Pp1 := Lib.hid hpp
      have PB := Lib.hid (show W.heap.size ≤ W.heap.size from LW0.out.le)
      have Sx1 := Lib.hid LW1.out.t.cells
      go_simp
      rw [← hu]
      refine hK.out _ _ (fun _ => Sx1.out) ?_
      clear hK K  hu hb hpp LW0
      try go_frame
      refine anyU_ready (rs := [1, 2]) (by kernel_rfl) (by simp) (AllU.cons (o := ⟨some 18, .call { callee := .value (.func 14), args := #[.tmp 17], argTypes := #[27] }, _, _, _, none⟩) rfl (fun K hK => ?_) (fun h => absurd h (by decide)) (AllU.cons (o := ⟨some 19, .buildSlice 22 0 #[], _, _, _, none⟩) rfl (fun K hK => ?_) (fun h => absurd h (by decide)) AllU.nil))
      · rw [if_pos (by rfl)]
        go_simp
        refine (few2 (LW1.out.ia.more LW1.out.le) CA.out rfl).mono ?_
        rintro e u2 ⟨F1, i1, j1, F2, i2, j2, F3, i3, j3, rfl, hn, hb⟩
        have LW2 := Lib.hid (LW1.out.kept (hb.mono LW1.out.le))
        have Pp2 := Lib.hid ((hb.block _ (Array.getElem?_eq_some_iff.1 Pp1.out).1).trans Pp1.out)
        have Fa2 := Lib.hid hn
        have Sx2 := Lib.hid LW2.out.t.cells
        dsimp only
        refine hK.out _ _ (fun _ => Sx2.out) ?_
        clear hK K Sx1 hn hb LW1 Pp1
        try go_frame
        refine anyU_ready (rs := [2]) (by kernel_rfl) (by simp) (AllU.cons (o := ⟨some 19, .buildSlice 22 0 #[], _, _, _, none⟩) rfl (fun K hK => ?_) (fun h => absurd h (by decide)) AllU.nil)
        rw [if_pos (by rfl)]
        obtain ⟨u3, hu⟩ : ∃ u, u = u2.alloc (.cells #[] 5) := ⟨_, rfl⟩
        have hb : Below u2.heap.size u2 u3 := by rw [hu]; exact (Below.refl u2.heap.size u2).alloc (Nat.le_refl _) (.cells #[] 5)
        have hmy : Mine u3 u2.heap.size 5 (.slice (some ⟨u2.heap.size, 0, none⟩) 0 0) [] := by rw [hu]; exact Mine.empty u2 _ 5 (Nat.le_refl _)
        have hel : u2.heap.size < u3.heap.size := by rw [hu]; simp
        have LW3 := Lib.hid (LW2.out.kept (hb.mono LW2.out.le))
        have Fa3 := Lib.hid (Fa2.out.kept hb)
        have Pp3 := Lib.hid ((hb.block _ (Array.getElem?_eq_some_iff.1 Pp2.out).1).trans Pp2.out)
        have My3 := Lib.hid hmy
        have El3 := Lib.hid hel
        have EB := Lib.hid (show W.heap.size ≤ u2.heap.size from LW2.out.le)
        have Fi3 := Lib.hid (Fa2.out.is.below hb)
        have PE := Lib.hid (show W.heap.size ≠ u2.heap.size from Nat.ne_of_lt (Array.getElem?_eq_some_iff.1 Pp2.out).1)
        have Sx3 := Lib.hid LW3.out.t.cells
        go_simp
        rw [← hu]
        refine hK.out _ _ (fun _ => Sx3.out) ?_
        clear hK K Sx2 hu hb hmy hel LW2 Fa2 Pp2
        try go_frame
        refine anyU_ready (rs := [4]) (by kernel_rfl) (by simp) (AllU.cons (o := ⟨some 21, .call { callee := .builtin .append, args := #[.tmp 19, .tmp 20], argTypes := #[22, 22] }, _, _, _, none⟩) rfl (fun K hK => ?_) (fun h => absurd h (by decide)) AllU.nil)
        rw [if_pos (by rfl)]
        obtain ⟨Ac, nc, cc, u4, hrun, hk4, hbe, hgr⟩ := appKey My3.out LW3.out.ik HKl.out (Nat.le_of_lt El3.out)
        have Hrun := Lib.hid hrun
        have LW4 := Lib.hid (LW3.out.kept (hbe.mono EB.out))
        have Fa4 := Lib.hid ((Fi3.out.below hbe).more (Nat.le_trans (Nat.le_of_lt El3.out) hbe.size))
        have Fk4 := Lib.hid hk4
        have Pp4 := Lib.hid ((hgr.block _ (Array.getElem?_eq_some_iff.1 Pp3.out).1 (fun x => by injection x with x; have := PE.out; omega)).trans Pp3.out)
        have Sx4 := Lib.hid LW4.out.t.cells
        clear hrun hk4 hbe hgr
        refine wp_run (.slice Ac nc cc) u4 (exec_append (t := 22) (x := .tmp 19) (y := .tmp 20) rfl rfl rfl Hrun.out) ?_
        refine hK.out _ _ (fun _ => Sx4.out) ?_
        clear hK K Sx3 Hrun LW3 Fa3 My3 El3 EB Fi3 Pp3 PE
        go_frame
        refine anyU_ready (rs := [6]) (by kernel_rfl) (by simp) (AllU.cons (o := ⟨some 23, .call { callee := .value (.func 14), args := #[.tmp 22], argTypes := #[27] }, _, _, _, none⟩) rfl (fun K hK => ?_) (fun h => absurd h (by decide)) AllU.nil)
        rw [if_pos (by rfl)]
        go_simp
        refine (few2 (LW4.out.ib.more LW4.out.le) CB.out rfl).mono ?_
        rintro e u5 ⟨G1, x1, y1, G2, x2, y2, G3, x3, y3, rfl, hn, hb⟩
        have LW5 := Lib.hid (LW4.out.kept (hb.mono LW4.out.le))
        have Fa5 := Lib.hid ((Fa4.out.below hb).more hb.size)
        have Fk5 := Lib.hid ((Fk4.out.below hb).more hb.size)
        have Pp5 := Lib.hid ((hb.block _ (Array.getElem?_eq_some_iff.1 Pp4.out).1).trans Pp4.out)
        have Fb5 := Lib.hid hn.is
        have Sx5 := Lib.hid LW5.out.t.cells
        dsimp only
        refine hK.out _ _ (fun _ => Sx5.out) ?_
        clear hK K Sx4 hn hb LW4 Fa4 Fk4 Pp4
        try go_frame
        refine anyU_ready (rs := [7]) (by kernel_rfl) (by simp) (AllU.cons (o := ⟨some 24, .call { callee := .value (.func 25), args := #[.tmp 18, .tmp 21, .tmp 23], argTypes := #[27, 22, 27] }, _, _, _, none⟩) rfl (fun K hK => ?_) (fun h => absurd h (by decide)) AllU.nil)
        rw [if_pos (by rfl)]
        go_simp
        refine (merge_any Fa5.out Fb5.out Fk5.out HSa.out HSb.out).mono ?_
        rintro e u6 ⟨Kr, Vr, Dr, rfl, hn, hb⟩
        obtain ⟨M1, z1, o1, M2, z2, o2, M3, z3, o3, rfl, rfl, rfl⟩ := hn.is.slices
        have LW6 := Lib.hid (LW5.out.kept (hb.mono LW5.out.le))
        have Fa6 := Lib.hid ((Fa5.out.below hb).more hb.size)
        have Fk6 := Lib.hid ((Fk5.out.below hb).more hb.size)
        have Fb6 := Lib.hid ((Fb5.out.below hb).more hb.size)
        have Pp6 := Lib.hid ((hb.block _ (Array.getElem?_eq_some_iff.1 Pp5.out).1).trans Pp5.out)
        have Fr6 := Lib.hid hn
        have PR := Lib.hid (show W.heap.size < u5.heap.size from (Array.getElem?_eq_some_iff.1 Pp5.out).1)
        have Sx6 := Lib.hid LW6.out.t.cells
        dsimp only
        refine hK.out _ _ (fun _ => Sx6.out) ?_
        clear hK K Sx5 hn hb LW5 Fa5 Fk5 Fb5 Pp5
        try go_frame
        refine' anyU_take0 (i := 8) (oi := ⟨some 16, .move (.tmp 24), _, _, _, none⟩) (v := _) rfl (by kernel_rfl) (fun _ _ _ h => h) (Or.inl ⟨by rfl, ?hy36⟩) (by assumption) ?rest36
        case hy36 => (intro w hSw; go_simp <;> with_reducible rfl)
        case rest36 =>
        go_frame
        refine' anyU_take0 (i := 9) (oi := ⟨some 25, .extract (.tmp 16) 0, _, _, _, none⟩) (v := _) rfl (by kernel_rfl) (fun _ _ _ h => h) (Or.inl ⟨by rfl, ?hy37⟩) (by assumption) ?rest37
        case hy37 => (intro w hSw; go_simp <;> with_reducible rfl)
        case rest37 =>
        go_frame
        refine' anyU_take0 (i := 10) (oi := ⟨some 26, .extract (.tmp 16) 1, _, _, _, none⟩) (v := _) rfl (by kernel_rfl) (fun _ _ _ h => h) (Or.inl ⟨by rfl, ?hy38⟩) (by assumption) ?rest38
        case hy38 => (intro w hSw; go_simp <;> with_reducible rfl)
        case rest38 =>
        go_frame
        refine anyU_ready (rs := [12]) (by kernel_rfl) (by simp) (AllU.cons (o := ⟨none, .store 27 (.tmp 7) (.tmp 25), _, _, _, none⟩) rfl (fun K hK => ?_) (fun _ => by kernel_rfl) AllU.nil)
        rw [if_pos (by rfl)]
        obtain ⟨y0, y1, y2, y3, f0, f1, f2, f3⟩ := out_cells Pp6.out
        go_simp
        refine hK.out _ _ (fun h => absurd h (by decide)) ?_
        clear hK K
        try go_frame
        refine anyU_ready (rs := [13]) (by kernel_rfl) (by simp) (AllU.cons (o := ⟨some 8, .assign (.tmp 26), _, _, _, none⟩) rfl (fun K hK => ?_) (fun _ => by kernel_rfl) AllU.nil)
        rw [if_pos (by rfl)]
        go_simp
        refine hK.out _ _ (fun h => absurd h (by decide)) ?_
        clear hK K
        try go_frame
        refine anyU_done (by kernel_rfl) ?_ _
        obtain ⟨Wd, hWd⟩ : ∃ X, X = store4 u6 (W.heap.size) (a.merged key b).leaf (.slice M1 z1 o1) (.slice M2 z2 o2) (.slice M3 z3 o3) := ⟨_, rfl⟩
        have hb := store4_below (w := u6) (lf := (a.merged key b).leaf) (K := .slice M1 z1 o1) (V := .slice M2 z2 o2) (D := .slice M3 z3 o3) (Nat.le_refl (W.heap.size))
        have htp := store4_top (lf := (a.merged key b).leaf) (K := .slice M1 z1 o1) (V := .slice M2 z2 o2) (D := .slice M3 z3 o3) Pp6.out
        have hri := (Fr6.out.store4 (lf := (a.merged key b).leaf) (K := .slice M1 z1 o1) (V := .slice M2 z2 o2) (D := .slice M3 z3 o3) (N := W.heap.size) PR.out).is
        rw [← hWd] at hb htp hri
        unfold store4 at hWd
        rw [← hWd]
        exact ⟨_, M1, z1, o1, M2, z2, o2, M3, z3, o3, _, _, _, _, _, _, _, _, _, _, _, rfl, Lib.hid (LW6.out.kept (hb.mono PB.out)), Lib.hid htp, Lib.hid hri⟩
      · rw [if_pos (by rfl)]
        obtain ⟨u2, hu⟩ : ∃ u, u = u1.alloc (.cells #[] 5) := ⟨_, rfl⟩
        have hb : Below u1.heap.size u1 u2 := by rw [hu]; exact (Below.refl u1.heap.size u1).alloc (Nat.le_refl _) (.cells #[] 5)
        have hmy : Mine u2 u1.heap.size 5 (.slice (some ⟨u1.heap.size, 0, none⟩) 0 0) [] := by rw [hu]; exact Mine.empty u1 _ 5 (Nat.le_refl _)
        have hel : u1.heap.size < u2.heap.size := by rw [hu]; simp
        have LW2 := Lib.hid (LW1.out.kept (hb.mono LW1.out.le))
        have Pp2 := Lib.hid ((hb.block _ (Array.getElem?_eq_some_iff.1 Pp1.out).1).trans Pp1.out)
        have My2 := Lib.hid hmy
        have El2 := Lib.hid hel
        have EB := Lib.hid (show W.heap.size ≤ u1.heap.size from LW1.out.le)
        have PE := Lib.hid (show W.heap.size ≠ u1.heap.size from Nat.ne_of_lt (Array.getElem?_eq_some_iff.1 Pp1.out).1)
        have Sx2 := Lib.hid LW2.out.t.cells
        go_simp
        rw [← hu]
        refine hK.out _ _ (fun _ => Sx2.out) ?_
        clear hK K Sx1 hu hb hmy hel LW1 Pp1
        try go_frame
        refine anyU_ready (rs := [1]) (by kernel_rfl) (by simp) (AllU.cons (o := ⟨some 18, .call { callee := .value (.func 14), args := #[.tmp 17], argTypes := #[27] }, _, _, _, none⟩) rfl (fun K hK => ?_) (fun h => absurd h (by decide)) AllU.nil)
        rw [if_pos (by rfl)]
        go_simp
        refine (few2 (LW2.out.ia.more LW2.out.le) CA.out rfl).mono ?_
        rintro e u3 ⟨F1, i1, j1, F2, i2, j2, F3, i3, j3, rfl, hn, hb⟩
        have LW3 := Lib.hid (LW2.out.kept (hb.mono LW2.out.le))
        have My3 := Lib.hid (My2.out.kept hb)
        have El3 := Lib.hid (show u1.heap.size < u3.heap.size from Nat.lt_of_lt_of_le El2.out hb.size)
        have Pp3 := Lib.hid ((hb.block _ (Array.getElem?_eq_some_iff.1 Pp2.out).1).trans Pp2.out)
        have Fa3 := Lib.hid hn
        have EA := Lib.hid El2.out
        have Sx3 := Lib.hid LW3.out.t.cells
        dsimp only
        refine hK.out _ _ (fun _ => Sx3.out) ?_
        clear hK K Sx2 hn hb LW2 My2 El2 Pp2
        try go_frame
        refine anyU_ready (rs := [4]) (by kernel_rfl) (by simp) (AllU.cons (o := ⟨some 21, .call { callee := .builtin .append, args := #[.tmp 19, .tmp 20], argTypes := #[22, 22] }, _, _, _, none⟩) rfl (fun K hK => ?_) (fun h => absurd h (by decide)) AllU.nil)
        rw [if_pos (by rfl)]
        obtain ⟨Ac, nc, cc, u4, hrun, hk4, hbe, hgr⟩ := appKey My3.out LW3.out.ik HKl.out (Nat.le_of_lt El3.out)
        have Hrun := Lib.hid hrun
        have LW4 := Lib.hid (LW3.out.kept (hbe.mono EB.out))
        have Fa4 := Lib.hid (Fa3.out.keep (Fr.inner hgr (Nat.zero_le _) EA.out)).is
        have Fk4 := Lib.hid hk4
        have Pp4 := Lib.hid ((hgr.block _ (Array.getElem?_eq_some_iff.1 Pp3.out).1 (fun x => by injection x with x; have := PE.out; omega)).trans Pp3.out)
        have Sx4 := Lib.hid LW4.out.t.cells
        clear hrun hk4 hbe hgr
        refine wp_run (.slice Ac nc cc) u4 (exec_append (t := 22) (x := .tmp 19) (y := .tmp 20) rfl rfl rfl Hrun.out) ?_
        refine hK.out _ _ (fun _ => Sx4.out) ?_
        clear hK K Sx3 Hrun LW3 Fa3 My3 El3 EB EA Pp3 PE
        go_frame
        refine anyU_ready (rs := [6]) (by kernel_rfl) (by simp) (AllU.cons (o := ⟨some 23, .call { callee := .value (.func 14), args := #[.tmp 22], argTypes := #[27] }, _, _, _, none⟩) rfl (fun K hK => ?_) (fun h => absurd h (by decide)) AllU.nil)
        rw [if_pos (by rfl)]
        go_simp
        refine (few2 (LW4.out.ib.more LW4.out.le) CB.out rfl).mono ?_
        rintro e u5 ⟨G1, x1, y1, G2, x2, y2, G3, x3, y3, rfl, hn, hb⟩
        have LW5 := Lib.hid (LW4.out.kept (hb.mono LW4.out.le))
        have Fa5 := Lib.hid ((Fa4.out.below hb).more hb.size)
        have Fk5 := Lib.hid ((Fk4.out.below hb).more hb.size)
        have Pp5 := Lib.hid ((hb.block _ (Array.getElem?_eq_some_iff.1 Pp4.out).1).trans Pp4.out)
        have Fb5 := Lib.hid hn.is
        have Sx5 := Lib.hid LW5.out.t.cells
        dsimp only
        refine hK.out _ _ (fun _ => Sx5.out) ?_
        clear hK K Sx4 hn hb LW4 Fa4 Fk4 Pp4
        try go_frame
        refine anyU_ready (rs := [7]) (by kernel_rfl) (by simp) (AllU.cons (o := ⟨some 24, .call { callee := .value (.func 25), args := #[.tmp 18, .tmp 21, .tmp 23], argTypes := #[27, 22, 27] }, _, _, _, none⟩) rfl (fun K hK => ?_) (fun h => absurd h (by decide)) AllU.nil)
        rw [if_pos (by rfl)]
        go_simp
        refine (merge_any Fa5.out Fb5.out Fk5.out HSa.out HSb.out).mono ?_
        rintro e u6 ⟨Kr, Vr, Dr, rfl, hn, hb⟩
        obtain ⟨M1, z1, o1, M2, z2, o2, M3, z3, o3, rfl, rfl, rfl⟩ := hn.is.slices
        have LW6 := Lib.hid (LW5.out.kept (hb.mono LW5.out.le))
        have Fa6 := Lib.hid ((Fa5.out.below hb).more hb.size)
        have Fk6 := Lib.hid ((Fk5.out.below hb).more hb.size)
        have Fb6 := Lib.hid ((Fb5.out.below hb).more hb.size)
        have Pp6 := Lib.hid ((hb.block _ (Array.getElem?_eq_some_iff.1 Pp5.out).1).trans Pp5.out)
        have Fr6 := Lib.hid hn
        have PR := Lib.hid (show W.heap.size < u5.heap.size from (Array.getElem?_eq_some_iff.1 Pp5.out).1)
        have Sx6 := Lib.hid LW6.out.t.cells
        dsimp only
        refine hK.out _ _ (fun _ => Sx6.out) ?_
        clear hK K Sx5 hn hb LW5 Fa5 Fk5 Fb5 Pp5
        try go_frame
        refine' anyU_take0 (i := 8) (oi := ⟨some 16, .move (.tmp 24), _, _, _, none⟩) (v := _) rfl (by kernel_rfl) (fun _ _ _ h => h) (Or.inl ⟨by rfl, ?hy39⟩) (by assumption) ?rest39
        case hy39 => (intro w hSw; go_simp <;> with_reducible rfl)
        case rest39 =>
        go_frame
        refine' anyU_take0 (i := 9) (oi := ⟨some 25, .extract (.tmp 16) 0, _, _, _, none⟩) (v := _) rfl (by kernel_rfl) (fun _ _ _ h => h) (Or.inl ⟨by rfl, ?hy40⟩) (by assumption) ?rest40
        case hy40 => (intro w hSw; go_simp <;> with_reducible rfl)
        case rest40 =>
        go_frame
        refine' anyU_take0 (i := 10) (oi := ⟨some 26, .extract (.tmp 16) 1, _, _, _, none⟩) (v := _) rfl (by kernel_rfl) (fun _ _ _ h => h) (Or.inl ⟨by rfl, ?hy41⟩) (by assumption) ?rest41
        case hy41 => (intro w hSw; go_simp <;> with_reducible rfl)
        case rest41 =>
        go_frame
        refine anyU_ready (rs := [12]) (by kernel_rfl) (by simp) (AllU.cons (o := ⟨none, .store 27 (.tmp 7) (.tmp 25), _, _, _, none⟩) rfl (fun K hK => ?_) (fun _ => by kernel_rfl) AllU.nil)
        rw [if_pos (by rfl)]
        obtain ⟨y0, y1, y2, y3, f0, f1, f2, f3⟩ := out_cells Pp6.out
        go_simp
        refine hK.out _ _ (fun h => absurd h (by decide)) ?_
        clear hK K
        try go_frame
        refine anyU_ready (rs := [13]) (by kernel_rfl) (by simp) (AllU.cons (o := ⟨some 8, .assign (.tmp 26), _, _, _, none⟩) rfl (fun K hK => ?_) (fun _ => by kernel_rfl) AllU.nil)
        rw [if_pos (by rfl)]
        go_simp
        refine hK.out _ _ (fun h => absurd h (by decide)) ?_
        clear hK K
        try go_frame
        refine anyU_done (by kernel_rfl) ?_ _
        obtain ⟨Wd, hWd⟩ : ∃ X, X = store4 u6 (W.heap.size) (a.merged key b).leaf (.slice M1 z1 o1) (.slice M2 z2 o2) (.slice M3 z3 o3) := ⟨_, rfl⟩
        have hb := store4_below (w := u6) (lf := (a.merged key b).leaf) (K := .slice M1 z1 o1) (V := .slice M2 z2 o2) (D := .slice M3 z3 o3) (Nat.le_refl (W.heap.size))
        have htp := store4_top (lf := (a.merged key b).leaf) (K := .slice M1 z1 o1) (V := .slice M2 z2 o2) (D := .slice M3 z3 o3) Pp6.out
        have hri := (Fr6.out.store4 (lf := (a.merged key b).leaf) (K := .slice M1 z1 o1) (V := .slice M2 z2 o2) (D := .slice M3 z3 o3) (N := W.heap.size) PR.out).is
        rw [← hWd] at hb htp hri
        unfold store4 at hWd
        rw [← hWd]
        exact ⟨_, M1, z1, o1, M2, z2, o2, M3, z3, o3, _, _, _, _, _, _, _, _, _, _, _, rfl, Lib.hid (LW6.out.kept (hb.mono PB.out)), Lib.hid htp, Lib.hid hri⟩
  cases e
  all_goals try exact h
  obtain ⟨p, M1, z1, o1, M2, z2, o2, M3, z3, o3, t16, t17, t18, t19, t20, t21, t22, t23, t24, t25, t26, rfl, HLw2, HTp, HRi⟩ := h
  clear LW0 S0 HLw
  go_wp2_with fail
  have LM0 := Lib.hid (show LawM w W'.drew W'.heap.size (.slice C1 q1 g1) (.slice C2 q2 g2) (.slice C3 q3 g3) (.slice E1 r1 k1) (.slice E2 r2 k2) (.slice E3 r3 k3) (.slice Ak kl ck) a b key p (.slice M1 z1 o1) (.slice M2 z2 o2) (.slice M3 z3 o3) (a.merged key b) from (LawM.mk (HLw2.out.more HLw2.out.le (Nat.le_refl _)) HTp.out HRi.out (Array.getElem?_eq_some_iff.1 HTp.out).1).drew)
  have S0 := LM0.out.law.t.cells
  clear HLw2 HTp HRi
  rename_i K hK
  refine Code.wp_mono (Q := Exit.then (fun a' W2 => ∃ (q : Nat) (Ay : Option Addr) (ny cy : Nat) (t27 t28 t29 t30 t31 t32 t33 : Value), a' = ⟨#[ndVal la (.slice A1 p1 c1) (.slice A2 p2 c2) (.slice A3 p3 c3), ndVal lb (.slice B1 m1 d1) (.slice B2 m2 d2) (.slice B3 m3 d3), .slice Ak kl ck, .pointer (some ⟨w.heap.size, 0, none⟩), .pointer (some ⟨w.heap.size + 1, 0, none⟩), undef, .bool false, .pointer (some ⟨p, 0, none⟩), .bool (joinsB a key b), .pointer (some ⟨q, 0, none⟩), t10, t11, t12, t13, t14, t15, t16, t17, t18, t19, t20, t21, t22, t23, t24, t25, t26, t27, t28, t29, t30, t31, t32, t33, undef, undef, undef, undef, undef, undef, undef, undef, undef, undef, undef, undef, undef, undef, undef, undef, undef, undef, undef, undef, undef, undef, undef, undef, undef, undef, undef, undef, undef, undef, undef, undef, undef, undef, undef, undef, undef, undef, undef, undef, undef, undef, undef, undef, undef, undef, undef, undef, undef, undef, undef, undef, undef, undef, undef, undef, undef, undef, undef, undef, undef, undef, undef, undef, undef, undef, undef, undef, undef, undef], []⟩ ∧ Hid (LawM w W2 W'.heap.size (.slice C1 q1 g1) (.slice C2 q2 g2) (.slice C3 q3 g3) (.slice E1 r1 k1) (.slice E2 r2 k2) (.slice E3 r3 k3) (.slice Ak kl ck) a b key p (.slice M1 z1 o1) (.slice M2 z2 o2) (.slice M3 z3 o3) (a.merged key b)) ∧ Hid (NdMx W2 W'.heap.size q a.leaf (.slice Ay ny cy) (.slice none 0 0) (.slice none 0 0) (.slice Ay ny cy) a.keys [] [])) Q') (fun e a' W2 h => ?_) ?_
  rotate_left
  clear hK
  · refine wp_region_late (S := fun w' => w'.cell? ⟨w.heap.size, 0, none⟩ = some (.bool a.leaf) ∧ w'.cell? ⟨w.heap.size, 1, none⟩ = some (.slice C1 q1 g1) ∧ w'.cell? ⟨w.heap.size, 2, none⟩ = some (.slice C2 q2 g2) ∧ w'.cell? ⟨w.heap.size, 3, none⟩ = some (.slice C3 q3 g3) ∧ w'.cell? ⟨w.heap.size + 1, 0, none⟩ = some (.bool b.leaf) ∧ w'.cell? ⟨w.heap.size + 1, 1, none⟩ = some (.slice E1 r1 k1) ∧ w'.cell? ⟨w.heap.size + 1, 2, none⟩ = some (.slice E2 r2 k2) ∧ w'.cell? ⟨w.heap.size + 1, 3, none⟩ = some (.slice E3 r3 k3)) [8] (by kernel_rfl) S0 (fun hHeld => ?_)
    refine' anyU_take0 (i := 0) (oi := ⟨some 27, .fieldAddr 27 (.tmp 3) 0, _, _, _, none⟩) (v := _) rfl (by kernel_rfl) (fun _ _ _ h => h) (Or.inl ⟨by rfl, ?hy42⟩) (by assumption) ?rest42
    case hy42 => (intro w hSw; go_simp <;> with_reducible rfl)
    case rest42 =>
    go_frame
    refine' anyU_take (i := 1) (oi := ⟨some 28, .load 4 (.tmp 27), _, _, _, none⟩) (v := _) rfl (by kernel_rfl) (fun _ _ _ h => h) (Or.inl ⟨by rfl, ?hy43⟩) (by assumption) ?rest43
    case hy43 => (intro w hSw; obtain ⟨s0, s1, s2, s3, s4, s5, s6, s7⟩ := hSw; go_simp <;> with_reducible rfl)
    case rest43 =>
    go_frame
    refine' anyU_take0 (i := 3) (oi := ⟨some 30, .fieldAddr 27 (.tmp 3) 1, _, _, _, none⟩) (v := _) rfl (by kernel_rfl) (fun _ _ _ h => h) (Or.inl ⟨by rfl, ?hy44⟩) (by assumption) ?rest44
    case hy44 => (intro w hSw; go_simp <;> with_reducible rfl)
    case rest44 =>
    go_frame
    refine' anyU_take (i := 4) (oi := ⟨some 31, .load 24 (.tmp 30), _, _, _, none⟩) (v := _) rfl (by kernel_rfl) (fun _ _ _ h => h) (Or.inl ⟨by rfl, ?hy45⟩) (by assumption) ?rest45
    case hy45 => (intro w hSw; obtain ⟨s0, s1, s2, s3, s4, s5, s6, s7⟩ := hSw; go_simp <;> with_reducible rfl)
    case rest45 =>
    go_frame
    refine anyU_ready (rs := [2, 7]) (by kernel_rfl) (by simp) (AllU.cons (o := ⟨some 29, .buildSlice 24 0 #[], _, _, _, none⟩) rfl (fun K hK => ?_) (fun h => absurd h (by decide)) (AllU.cons (o := ⟨some 9, .alloc 27, _, _, _, none⟩) rfl (fun K hK => ?_) (fun h => absurd h (by decide)) AllU.nil))
    · rw [if_pos (by rfl)]
      obtain ⟨v1, hu⟩ : ∃ u, u = (W'.alloc (.cells #[] 22)).drew := ⟨_, rfl⟩
      have hb : Below W'.drew.heap.size W'.drew v1 := by rw [hu]; exact (Below.refl W'.drew.heap.size W'.drew).alloc (Nat.le_refl _) (.cells #[] 22)
      have hmy : OwnT v1 W'.heap.size W'.heap.size (.slice (some ⟨W'.heap.size, 0, none⟩) 0 0) [] := by rw [hu]; exact OwnT.empty W'.drew _ _ LM0.out.le
      have LM1 := Lib.hid (LM0.out.kept (hb.mono LM0.out.le))
      have My1 := Lib.hid hmy
      have Sx1 := Lib.hid LM1.out.law.t.cells
      go_simp
      rw [← hu]
      refine hK.out _ _ (fun _ => Sx1.out) ?_
      clear hK K  hu hb hmy LM0
      try go_frame
      refine anyU_ready (rs := [5, 7]) (by kernel_rfl) (by simp) (AllU.cons (o := ⟨some 32, .call { callee := .builtin .append, args := #[.tmp 29, .tmp 31], argTypes := #[24, 24] }, _, _, _, none⟩) rfl (fun K hK => ?_) (fun h => absurd h (by decide)) (AllU.cons (o := ⟨some 9, .alloc 27, _, _, _, none⟩) rfl (fun K hK => ?_) (fun h => absurd h (by decide)) AllU.nil))
      · rw [if_pos (by rfl)]
        obtain ⟨Ay, ny, cy, v2, hrun, ho, hg, hb, hv⟩ := My1.out.append (LM1.out.law.ia.keys.rdT (base := W'.heap.size) (Nat.le_refl _) LM1.out.le) (by have := CA.out.k; simp; omega) LM1.out.le (Nat.le_refl _)
        rw [List.nil_append] at ho
        have Hrun := Lib.hid hrun
        have LM2 := Lib.hid (LM1.out.kept hb)
        have My2 := Lib.hid ho
        have Sx2 := Lib.hid LM2.out.law.t.cells
        clear hrun ho hg hb hv
        refine wp_run (.slice Ay ny cy) v2 (exec_append (t := 24) (x := .tmp 29) (y := .tmp 31) rfl rfl rfl Hrun.out) ?_
        refine hK.out _ _ (fun _ => Sx2.out) ?_
        clear hK K Sx1 Hrun LM1 My1
        go_frame
        refine' anyU_take0 (i := 6) (oi := ⟨some 33, .build 27 #[(0, .tmp 28), (1, .tmp 32)], _, _, _, none⟩) (v := _) rfl (by kernel_rfl) (fun _ _ _ h => h) (Or.inl ⟨by rfl, ?hy46⟩) (by assumption) ?rest46
        case hy46 => (intro w hSw; go_simp <;> with_reducible rfl)
        case rest46 =>
        go_frame
        refine anyU_ready (rs := [7]) (by kernel_rfl) (by simp) (AllU.cons (o := ⟨some 9, .alloc 27, _, _, _, none⟩) rfl (fun K hK => ?_) (fun h => absurd h (by decide)) AllU.nil)
        rw [if_pos (by rfl)]
        obtain ⟨v3, hu⟩ : ∃ u, u = v2.alloc (.cells #[.bool false, .slice none 0 0, .slice none 0 0, .slice none 0 0] 27) := ⟨_, rfl⟩
        have hb : Below v2.heap.size v2 v3 := by rw [hu]; exact (Below.refl v2.heap.size v2).alloc (Nat.le_refl _) (.cells #[.bool false, .slice none 0 0, .slice none 0 0, .slice none 0 0] 27)
        have hpp : v3.heap[v2.heap.size]? = some (.cells #[.bool false, .slice none 0 0, .slice none 0 0, .slice none 0 0] 27 (0, 0)) := by rw [hu]; exact heap_alloc_last v2 _
        have LM3 := Lib.hid (LM2.out.kept (hb.mono LM2.out.le))
        have My3 := Lib.hid (My2.out.keep (Fr.below hb) (RowB.none _ _) (Nat.le_refl _) (fun _ _ e => by cases e))
        have Pp3 := Lib.hid hpp
        have PB := Lib.hid (show W'.heap.size ≤ v2.heap.size from LM2.out.le)
        have NQ := Lib.hid (show (.slice Ay ny cy : Value).ownBlock ≠ some (v2.heap.size) from fun z => by have := (My2.out.block _ z).2; omega)
        have Sx3 := Lib.hid LM3.out.law.t.cells
        go_simp
        rw [← hu]
        refine hK.out _ _ (fun _ => Sx3.out) ?_
        clear hK K Sx2 hu hb hpp LM2 My2
        try go_frame
        refine anyU_ready (rs := [8]) (by kernel_rfl) (by simp) (AllU.cons (o := ⟨none, .store 27 (.tmp 9) (.tmp 33), _, _, _, none⟩) rfl (fun K hK => ?_) (fun _ => by kernel_rfl) AllU.nil)
        rw [if_pos (by rfl)]
        obtain ⟨y0, y1, y2, y3, f0, f1, f2, f3⟩ := out_cells Pp3.out
        go_simp
        refine hK.out _ _ (fun h => absurd h (by decide)) ?_
        clear hK K
        try go_frame
        refine anyU_done (by kernel_rfl) ?_ _
        obtain ⟨Wd, hWd⟩ : ∃ X, X = store4 v3 (v2.heap.size) a.leaf (.slice Ay ny cy) (.slice none 0 0) (.slice none 0 0) := ⟨_, rfl⟩
        have hb := store4_below (w := v3) (lf := a.leaf) (K := .slice Ay ny cy) (V := .slice none 0 0) (D := .slice none 0 0) PB.out
        have hnx := NdMx.made (lf := a.leaf) Pp3.out My3.out NQ.out PB.out
        rw [← hWd] at hb hnx
        unfold store4 at hWd
        rw [← hWd]
        exact ⟨_, Ay, ny, cy, _, _, _, _, _, _, _, rfl, Lib.hid (LM3.out.kept hb), Lib.hid hnx⟩
      · rw [if_pos (by rfl)]
        obtain ⟨v2, hu⟩ : ∃ u, u = v1.alloc (.cells #[.bool false, .slice none 0 0, .slice none 0 0, .slice none 0 0] 27) := ⟨_, rfl⟩
        have hb : Below v1.heap.size v1 v2 := by rw [hu]; exact (Below.refl v1.heap.size v1).alloc (Nat.le_refl _) (.cells #[.bool false, .slice none 0 0, .slice none 0 0, .slice none 0 0] 27)
        have hpp : v2.heap[v1.heap.size]? = some (.cells #[.bool false, .slice none 0 0, .slice none 0 0, .slice none 0 0] 27 (0, 0)) := by rw [hu]; exact heap_alloc_last v1 _
        have LM2 := Lib.hid (LM1.out.kept (hb.mono LM1.out.le))
        have My2 := Lib.hid (My1.out.keep (Fr.below hb) (RowB.none _ _) (Nat.le_refl _) (fun _ _ e => by cases e))
        have Pp2 := Lib.hid hpp
        have PB := Lib.hid (show W'.heap.size ≤ v1.heap.size from LM1.out.le)
        have PE := Lib.hid (show W'.heap.size ≠ v1.heap.size from fun z => by have := (My1.out.block (W'.heap.size) rfl).2; omega)
        have Sx2 := Lib.hid LM2.out.law.t.cells
        go_simp
        rw [← hu]
        refine hK.out _ _ (fun _ => Sx2.out) ?_
        clear hK K Sx1 hu hb hpp LM1 My1
        try go_frame
        refine anyU_ready (rs := [5]) (by kernel_rfl) (by simp) (AllU.cons (o := ⟨some 32, .call { callee := .builtin .append, args := #[.tmp 29, .tmp 31], argTypes := #[24, 24] }, _, _, _, none⟩) rfl (fun K hK => ?_) (fun h => absurd h (by decide)) AllU.nil)
        rw [if_pos (by rfl)]
        obtain ⟨Ay, ny, cy, v3, hrun, ho, hg, hb, hv⟩ := My2.out.append (LM2.out.law.ia.keys.rdT (base := W'.heap.size) (Nat.le_refl _) LM2.out.le) (by have := CA.out.k; simp; omega) LM2.out.le (Nat.le_refl _)
        rw [List.nil_append] at ho
        have Hrun := Lib.hid hrun
        have LM3 := Lib.hid (LM2.out.kept hb)
        have My3 := Lib.hid ho
        have hq := (Array.getElem?_eq_some_iff.1 Pp2.out).1
        have NQ := Lib.hid (show (.slice Ay ny cy : Value).ownBlock ≠ some (v1.heap.size) from hv.elim (fun x => by rw [x]; exact fun z => PE.out (Option.some.inj z)) (fun x => by rw [x]; exact fun z => by have := Option.some.inj z; omega))
        have Pp3 := Lib.hid ((hg.block _ hq (fun x => PE.out (Option.some.inj x).symm)).trans Pp2.out)
        clear hq
        have Sx3 := Lib.hid LM3.out.law.t.cells
        clear hrun ho hg hb hv
        refine wp_run (.slice Ay ny cy) v3 (exec_append (t := 24) (x := .tmp 29) (y := .tmp 31) rfl rfl rfl Hrun.out) ?_
        refine hK.out _ _ (fun _ => Sx3.out) ?_
        clear hK K Sx2 Hrun LM2 My2 Pp2 PE
        go_frame
        refine' anyU_take0 (i := 6) (oi := ⟨some 33, .build 27 #[(0, .tmp 28), (1, .tmp 32)], _, _, _, none⟩) (v := _) rfl (by kernel_rfl) (fun _ _ _ h => h) (Or.inl ⟨by rfl, ?hy47⟩) (by assumption) ?rest47
        case hy47 => (intro w hSw; go_simp <;> with_reducible rfl)
        case rest47 =>
        go_frame
        refine anyU_ready (rs := [8]) (by kernel_rfl) (by simp) (AllU.cons (o := ⟨none, .store 27 (.tmp 9) (.tmp 33), _, _, _, none⟩) rfl (fun K hK => ?_) (fun _ => by kernel_rfl) AllU.nil)
        rw [if_pos (by rfl)]
        obtain ⟨y0, y1, y2, y3, f0, f1, f2, f3⟩ := out_cells Pp3.out
        go_simp
        refine hK.out _ _ (fun h => absurd h (by decide)) ?_
        clear hK K
        try go_frame
        refine anyU_done (by kernel_rfl) ?_ _
        obtain ⟨Wd, hWd⟩ : ∃ X, X = store4 v3 (v1.heap.size) a.leaf (.slice Ay ny cy) (.slice none 0 0) (.slice none 0 0) := ⟨_, rfl⟩
        have hb := store4_below (w := v3) (lf := a.leaf) (K := .slice Ay ny cy) (V := .slice none 0 0) (D := .slice none 0 0) PB.out
        have hnx := NdMx.made (lf := a.leaf) Pp3.out My3.out NQ.out PB.out
        rw [← hWd] at hb hnx
        unfold store4 at hWd
        rw [← hWd]
        exact ⟨_, Ay, ny, cy, _, _, _, _, _, _, _, rfl, Lib.hid (LM3.out.kept hb), Lib.hid hnx⟩
    · rw [if_pos (by rfl)]
      obtain ⟨v1, hu⟩ : ∃ u, u = (W'.alloc (.cells #[.bool false, .slice none 0 0, .slice none 0 0, .slice none 0 0] 27)).drew := ⟨_, rfl⟩
      have hb : Below W'.drew.heap.size W'.drew v1 := by rw [hu]; exact (Below.refl W'.drew.heap.size W'.drew).alloc (Nat.le_refl _) (.cells #[.bool false, .slice none 0 0, .slice none 0 0, .slice none 0 0] 27)
      have hpp : v1.heap[W'.heap.size]? = some (.cells #[.bool false, .slice none 0 0, .slice none 0 0, .slice none 0 0] 27 (0, 0)) := by rw [hu]; exact heap_alloc_last W'.drew _
      have LM1 := Lib.hid (LM0.out.kept (hb.mono LM0.out.le))
      have Pp1 := Lib.hid hpp
      have PB := Lib.hid (show W'.heap.size ≤ W'.heap.size from LM0.out.le)
      have Sx1 := Lib.hid LM1.out.law.t.cells
      go_simp
      rw [← hu]
      refine hK.out _ _ (fun _ => Sx1.out) ?_
      clear hK K  hu hb hpp LM0
      try go_frame
      refine anyU_ready (rs := [2]) (by kernel_rfl) (by simp) (AllU.cons (o := ⟨some 29, .buildSlice 24 0 #[], _, _, _, none⟩) rfl (fun K hK => ?_) (fun h => absurd h (by decide)) AllU.nil)
      rw [if_pos (by rfl)]
      obtain ⟨v2, hu⟩ : ∃ u, u = v1.alloc (.cells #[] 22) := ⟨_, rfl⟩
      have hb : Below v1.heap.size v1 v2 := by rw [hu]; exact (Below.refl v1.heap.size v1).alloc (Nat.le_refl _) (.cells #[] 22)
      have hmy : OwnT v2 W'.heap.size W'.heap.size (.slice (some ⟨v1.heap.size, 0, none⟩) 0 0) [] := by rw [hu]; exact OwnT.empty v1 _ _ LM1.out.le
      have LM2 := Lib.hid (LM1.out.kept (hb.mono LM1.out.le))
      have Pp2 := Lib.hid ((hb.block _ (Array.getElem?_eq_some_iff.1 Pp1.out).1).trans Pp1.out)
      have My2 := Lib.hid hmy
      have PE := Lib.hid (show v1.heap.size ≠ W'.heap.size from Nat.ne_of_gt (Array.getElem?_eq_some_iff.1 Pp1.out).1)
      have Sx2 := Lib.hid LM2.out.law.t.cells
      go_simp
      rw [← hu]
      refine hK.out _ _ (fun _ => Sx2.out) ?_
      clear hK K Sx1 hu hb hmy LM1 Pp1
      try go_frame
      refine anyU_ready (rs := [5]) (by kernel_rfl) (by simp) (AllU.cons (o := ⟨some 32, .call { callee := .builtin .append, args := #[.tmp 29, .tmp 31], argTypes := #[24, 24] }, _, _, _, none⟩) rfl (fun K hK => ?_) (fun h => absurd h (by decide)) AllU.nil)
      rw [if_pos (by rfl)]
      obtain ⟨Ay, ny, cy, v3, hrun, ho, hg, hb, hv⟩ := My2.out.append (LM2.out.law.ia.keys.rdT (base := W'.heap.size) (Nat.le_refl _) LM2.out.le) (by have := CA.out.k; simp; omega) LM2.out.le (Nat.le_refl _)
      rw [List.nil_append] at ho
      have Hrun := Lib.hid hrun
      have LM3 := Lib.hid (LM2.out.kept hb)
      have My3 := Lib.hid ho
      have hq := (Array.getElem?_eq_some_iff.1 Pp2.out).1
      have NQ := Lib.hid (show (.slice Ay ny cy : Value).ownBlock ≠ some (W'.heap.size) from hv.elim (fun x => by rw [x]; exact fun z => PE.out (Option.some.inj z)) (fun x => by rw [x]; exact fun z => by have := Option.some.inj z; omega))
      have Pp3 := Lib.hid ((hg.block _ hq (fun x => PE.out (Option.some.inj x).symm)).trans Pp2.out)
      clear hq
      have Sx3 := Lib.hid LM3.out.law.t.cells
      clear hrun ho hg hb hv
      refine wp_run (.slice Ay ny cy) v3 (exec_append (t := 24) (x := .tmp 29) (y := .tmp 31) rfl rfl rfl Hrun.out) ?_
      refine hK.out _ _ (fun _ => Sx3.out) ?_
      clear hK K Sx2 Hrun LM2 My2 Pp2 PE
      go_frame
      refine' anyU_take0 (i := 6) (oi := ⟨some 33, .build 27 #[(0, .tmp 28), (1, .tmp 32)], _, _, _, none⟩) (v := _) rfl (by kernel_rfl) (fun _ _ _ h => h) (Or.inl ⟨by rfl, ?hy48⟩) (by assumption) ?rest48
      case hy48 => (intro w hSw; go_simp <;> with_reducible rfl)
      case rest48 =>
      go_frame
      refine anyU_ready (rs := [8]) (by kernel_rfl) (by simp) (AllU.cons (o := ⟨none, .store 27 (.tmp 9) (.tmp 33), _, _, _, none⟩) rfl (fun K hK => ?_) (fun _ => by kernel_rfl) AllU.nil)
      rw [if_pos (by rfl)]
      obtain ⟨y0, y1, y2, y3, f0, f1, f2, f3⟩ := out_cells Pp3.out
      go_simp
      refine hK.out _ _ (fun h => absurd h (by decide)) ?_
      clear hK K
      try go_frame
      refine anyU_done (by kernel_rfl) ?_ _
      obtain ⟨Wd, hWd⟩ : ∃ X, X = store4 v3 (W'.heap.size) a.leaf (.slice Ay ny cy) (.slice none 0 0) (.slice none 0 0) := ⟨_, rfl⟩
      have hb := store4_below (w := v3) (lf := a.leaf) (K := .slice Ay ny cy) (V := .slice none 0 0) (D := .slice none 0 0) PB.out
      have hnx := NdMx.made (lf := a.leaf) Pp3.out My3.out NQ.out PB.out
      rw [← hWd] at hb hnx
      unfold store4 at hWd
      rw [← hWd]
      exact ⟨_, Ay, ny, cy, _, _, _, _, _, _, _, rfl, Lib.hid (LM3.out.kept hb), Lib.hid hnx⟩
  cases e
  all_goals try exact h
  obtain ⟨q, Ay, ny, cy, t27, t28, t29, t30, t31, t32, t33, rfl, HLM, HNX⟩ := h
  clear LM0 S0
  obtain ⟨B0, hB0⟩ : ∃ x, x = W'.heap.size := ⟨_, rfl⟩
  rw [← hB0] at HLM HNX
  clear hB0
  have hshort := Lib.hid (show a.keys.length ≤ 40 ∧ b.keys.length ≤ 40 from ⟨CA.out.k, CB.out.k⟩)
  obtain ⟨x0, x1, x2, x3, x4, x5, x6, x7⟩ := HLM.out.law.t.cells
  obtain ⟨n0c, n1c, n2c, n3c⟩ := HNX.out.box
  cases hal : a.leaf
  · rw [hal] at x0 n0c
    have hkx := HNX.out.kept ((Below.refl _ _).alloc (Nat.le_refl _) (.cells #[.slice Ak kl ck] 22))
    have hlt := RdT.lit1 (HLM.out.law.ik.txt (base := B0) (Nat.le_refl _) HLM.out.le) (Nat.le_refl _) 22
    obtain ⟨Ax, nx, cx, wx, hrx, hxx, hbx⟩ := hkx.appK hlt (by have := hshort.out; simp; omega) (by have := HLM.out.le; simp; omega)
    have hL := ((HLM.out.kept ((Below.refl _ _).alloc HLM.out.le (.cells #[.slice Ak kl ck] 22))).kept hbx).set (v := .slice Ax nx cx) HNX.out.lo 1
    have hxs := hxx.setK
    obtain ⟨b0, b1, b2, b3, bf0, bf1, bf2, bf3⟩ := out_cells hxx.top
    obtain ⟨e0, e1, e2, e3⟩ := hxs.box
    obtain ⟨l0, l1, l2, l3, l4, l5, l6, l7⟩ := hL.law.t.cells
    obtain ⟨Az, nz, cz, wz, hrz, hzz, hbz⟩ := hxs.appK (hL.law.ib.keys.rdT (base := B0) (Nat.le_refl _) hL.le) (by have := hshort.out; simp; omega) hL.le
    obtain ⟨d0, d1, d2, d3, df0, df1, df2, df3⟩ := out_cells hzz.top
    have HL6 := Lib.hid ((hL.kept hbz).set (v := .slice Az nz cz) HNX.out.lo 1)
    have HX6 := Lib.hid hzz.setK
    have Hrx := Lib.hid hrx
    have Hrz := Lib.hid hrz
    clear hkx hlt hrx hxx hbx hL hxs hrz hzz hbz HLM HNX
    go_wp2_with (at_builtin; first | refine wpList_append_run rfl (.tmp 38) (.tmp 40) rfl _ _ rfl rfl Hrx.out ?_ | refine wpList_append_run rfl (.tmp 44) (.tmp 46) rfl _ _ rfl rfl Hrz.out ?_)
    obtain ⟨W6, hW6⟩ : ∃ X, X = wz.setCell ⟨q, 1, none⟩ (.slice Az nz cz) := ⟨_, rfl⟩
    rw [← hW6] at HL6 HX6 ⊢
    clear hW6 x0 x1 x2 x3 x4 x5 x6 x7 n0c n1c n2c n3c d0 d1 d2 d3 df0 df1 df2 df3 Hrz Hrx b0 b1 b2 b3 bf0 bf1 bf2 bf3 e0 e1 e2 e3 l0 l1 l2 l3 l4 l5 l6 l7
    have LMa7 := Lib.hid HL6.out.drew
    have NXa7 := Lib.hid HX6.out.drew
    have S0 := LMa7.out.law.t.cells
    refine wp_region_late (S := fun w' => w'.cell? ⟨w.heap.size, 0, none⟩ = some (.bool a.leaf) ∧ w'.cell? ⟨w.heap.size, 1, none⟩ = some (.slice C1 q1 g1) ∧ w'.cell? ⟨w.heap.size, 2, none⟩ = some (.slice C2 q2 g2) ∧ w'.cell? ⟨w.heap.size, 3, none⟩ = some (.slice C3 q3 g3) ∧ w'.cell? ⟨w.heap.size + 1, 0, none⟩ = some (.bool b.leaf) ∧ w'.cell? ⟨w.heap.size + 1, 1, none⟩ = some (.slice E1 r1 k1) ∧ w'.cell? ⟨w.heap.size + 1, 2, none⟩ = some (.slice E2 r2 k2) ∧ w'.cell? ⟨w.heap.size + 1, 3, none⟩ = some (.slice E3 r3 k3)) [8] (by kernel_rfl) S0 (fun hHeld => ?_)
    refine' anyU_take0 (i := 1) (oi := ⟨some 50, .fieldAddr 27 (.tmp 3) 2, _, _, _, none⟩) (v := _) rfl (by kernel_rfl) (fun _ _ _ h => h) (Or.inl ⟨by rfl, ?hy49⟩) (by assumption) ?rest49
    case hy49 => (intro w hSw; go_simp <;> with_reducible rfl)
    case rest49 =>
    go_frame
    refine' anyU_take (i := 2) (oi := ⟨some 51, .load 24 (.tmp 50), _, _, _, none⟩) (v := _) rfl (by kernel_rfl) (fun _ _ _ h => h) (Or.inl ⟨by rfl, ?hy50⟩) (by assumption) ?rest50
    case hy50 => (intro w hSw; obtain ⟨s0, s1, s2, s3, s4, s5, s6, s7⟩ := hSw; go_simp <;> with_reducible rfl)
    case rest50 =>
    go_frame
    refine' anyU_take0 (i := 4) (oi := ⟨some 53, .fieldAddr 27 (.tmp 4) 2, _, _, _, none⟩) (v := _) rfl (by kernel_rfl) (fun _ _ _ h => h) (Or.inl ⟨by rfl, ?hy51⟩) (by assumption) ?rest51
    case hy51 => (intro w hSw; go_simp <;> with_reducible rfl)
    case rest51 =>
    go_frame
    refine' anyU_take (i := 5) (oi := ⟨some 54, .load 24 (.tmp 53), _, _, _, none⟩) (v := _) rfl (by kernel_rfl) (fun _ _ _ h => h) (Or.inl ⟨by rfl, ?hy52⟩) (by assumption) ?rest52
    case hy52 => (intro w hSw; obtain ⟨s0, s1, s2, s3, s4, s5, s6, s7⟩ := hSw; go_simp <;> with_reducible rfl)
    case rest52 =>
    go_frame
    refine anyU_ready (rs := [0]) (by kernel_rfl) (by simp) (AllU.cons (o := ⟨some 49, .buildSlice 24 0 #[], _, _, _, none⟩) rfl (fun K hK => ?_) (fun h => absurd h (by decide)) AllU.nil)
    rw [if_pos (by rfl)]
    obtain ⟨vb, hu⟩ : ∃ u, u = (W6.alloc (.cells #[] 22)).drew := ⟨_, rfl⟩
    have hb : Below W6.drew.heap.size W6.drew vb := by rw [hu]; exact (Below.refl W6.drew.heap.size W6.drew).alloc (Nat.le_refl _) (.cells #[] 22)
    have hmy : OwnT vb B0 W6.heap.size (.slice (some ⟨W6.heap.size, 0, none⟩) 0 0) ([]) := by rw [hu]; exact OwnT.empty W6.drew B0 W6.heap.size (Nat.le_refl _)
    have LMb := Lib.hid (LMa7.out.kept (hb.mono LMa7.out.le))
    have Myb := Lib.hid hmy
    have Tb := Lib.hid hb
    have Sxb := Lib.hid LMb.out.law.t.cells
    go_simp
    rw [← hu]
    refine hK.out _ _ (fun _ => Sxb.out) ?_
    clear hK K hu hb hmy
    try go_frame
    refine anyU_ready (rs := [3]) (by kernel_rfl) (by simp) (AllU.cons (o := ⟨some 52, .call { callee := .builtin .append, args := #[.tmp 49, .tmp 51], argTypes := #[24, 24] }, _, _, _, none⟩) rfl (fun K hK => ?_) (fun h => absurd h (by decide)) AllU.nil)
    rw [if_pos (by rfl)]
    obtain ⟨Ac, nc, cc, vc, hrun, ho, hg, hb, hv⟩ := Myb.out.append (LMb.out.law.ia.vals.rdT (base := W6.heap.size) (Nat.le_refl _) LMb.out.le) (by have := CA.out.v; have := CB.out.v; simp; omega) Tb.out.size LMa7.out.le
    have Hrun := Lib.hid hrun
    have LMc := Lib.hid (LMb.out.kept (hb.mono LMa7.out.le))
    have Myc := Lib.hid ho
    have Tc := Lib.hid (Tb.out.trans hb)
    have Sxc := Lib.hid LMc.out.law.t.cells
    clear hrun ho hb hg hv
    refine wp_run (.slice Ac nc cc) vc (exec_append (t := 24) (x := .tmp 49) (y := .tmp 51) rfl rfl rfl Hrun.out) ?_
    refine hK.out _ _ (fun _ => Sxc.out) ?_
    clear hK K Hrun Sxb
    go_frame
    refine anyU_ready (rs := [6]) (by kernel_rfl) (by simp) (AllU.cons (o := ⟨some 55, .call { callee := .builtin .append, args := #[.tmp 52, .tmp 54], argTypes := #[24, 24] }, _, _, _, none⟩) rfl (fun K hK => ?_) (fun h => absurd h (by decide)) AllU.nil)
    rw [if_pos (by rfl)]
    obtain ⟨Ad, nd, cd, vd, hrun, ho, hg, hb, hv⟩ := Myc.out.append (LMc.out.law.ib.vals.rdT (base := W6.heap.size) (Nat.le_refl _) LMc.out.le) (by have := CA.out.v; have := CB.out.v; simp; omega) Tc.out.size LMa7.out.le
    have Hrun := Lib.hid hrun
    have LMd := Lib.hid (LMc.out.kept (hb.mono LMa7.out.le))
    have Myd := Lib.hid ho
    have Td := Lib.hid (Tc.out.trans hb)
    have Sxd := Lib.hid LMd.out.law.t.cells
    clear hrun ho hb hg hv
    refine wp_run (.slice Ad nd cd) vd (exec_append (t := 24) (x := .tmp 52) (y := .tmp 54) rfl rfl rfl Hrun.out) ?_
    refine hK.out _ _ (fun _ => Sxd.out) ?_
    clear hK K Hrun Sxc
    go_frame
    refine' anyU_take0 (i := 7) (oi := ⟨some 56, .fieldAddr 27 (.tmp 9) 2, _, _, _, none⟩) (v := _) rfl (by kernel_rfl) (fun _ _ _ h => h) (Or.inl ⟨by rfl, ?hy53⟩) (by assumption) ?rest53
    case hy53 => (intro w hSw; go_simp <;> with_reducible rfl)
    case rest53 =>
    go_frame
    refine anyU_ready (rs := [8]) (by kernel_rfl) (by simp) (AllU.cons (o := ⟨none, .store 24 (.tmp 56) (.tmp 55), _, _, _, none⟩) rfl (fun K hK => ?_) (fun _ => by kernel_rfl) AllU.nil)
    rw [if_pos (by rfl)]
    have hnx := NXa7.out.kept Td.out
    obtain ⟨y0, y1, y2, y3, f0, f1, f2, f3⟩ := out_cells hnx.top
    have NXd := Lib.hid hnx
    clear hnx
    go_simp
    refine hK.out _ _ (fun h => absurd h (by decide)) ?_
    clear hK K
    try go_frame
    refine anyU_done (by kernel_rfl) ?_ _
    have HL7 := Lib.hid (LMd.out.set (v := .slice Ad nd cd) NXd.out.lo 2)
    have HX7 := Lib.hid (NXd.out.putV Myd.out NXa7.out.lt)
    obtain ⟨W7, hW⟩ : ∃ X, X = vd.setCell ⟨q, 2, none⟩ (.slice Ad nd cd) := ⟨_, rfl⟩
    rw [← hW] at HL7 HX7 ⊢
    clear hW y0 y1 y2 y3 f0 f1 f2 f3 NXd LMb LMc LMd Myb Myc Myd Tb Tc Td S0 hHeld Sxd LMa7 NXa7 HL6 HX6
    go_wp2_with fail
    have LMa8 := Lib.hid HL7.out.drew
    have NXa8 := Lib.hid HX7.out.drew
    have S0 := LMa8.out.law.t.cells
    refine wp_region_late (S := fun w' => w'.cell? ⟨w.heap.size, 0, none⟩ = some (.bool a.leaf) ∧ w'.cell? ⟨w.heap.size, 1, none⟩ = some (.slice C1 q1 g1) ∧ w'.cell? ⟨w.heap.size, 2, none⟩ = some (.slice C2 q2 g2) ∧ w'.cell? ⟨w.heap.size, 3, none⟩ = some (.slice C3 q3 g3) ∧ w'.cell? ⟨w.heap.size + 1, 0, none⟩ = some (.bool b.leaf) ∧ w'.cell? ⟨w.heap.size + 1, 1, none⟩ = some (.slice E1 r1 k1) ∧ w'.cell? ⟨w.heap.size + 1, 2, none⟩ = some (.slice E2 r2 k2) ∧ w'.cell? ⟨w.heap.size + 1, 3, none⟩ = some (.slice E3 r3 k3)) [8] (by kernel_rfl) S0 (fun hHeld => ?_)
    refine' anyU_take0 (i := 1) (oi := ⟨some 58, .fieldAddr 27 (.tmp 3) 3, _, _, _, none⟩) (v := _) rfl (by kernel_rfl) (fun _ _ _ h => h) (Or.inl ⟨by rfl, ?hy54⟩) (by assumption) ?rest54
    case hy54 => (intro w hSw; go_simp <;> with_reducible rfl)
    case rest54 =>
    go_frame
    refine' anyU_take (i := 2) (oi := ⟨some 59, .load 25 (.tmp 58), _, _, _, none⟩) (v := _) rfl (by kernel_rfl) (fun _ _ _ h => h) (Or.inl ⟨by rfl, ?hy55⟩) (by assumption) ?rest55
    case hy55 => (intro w hSw; obtain ⟨s0, s1, s2, s3, s4, s5, s6, s7⟩ := hSw; go_simp <;> with_reducible rfl)
    case rest55 =>
    go_frame
    refine' anyU_take0 (i := 4) (oi := ⟨some 61, .fieldAddr 27 (.tmp 4) 3, _, _, _, none⟩) (v := _) rfl (by kernel_rfl) (fun _ _ _ h => h) (Or.inl ⟨by rfl, ?hy56⟩) (by assumption) ?rest56
    case hy56 => (intro w hSw; go_simp <;> with_reducible rfl)
    case rest56 =>
    go_frame
    refine' anyU_take (i := 5) (oi := ⟨some 62, .load 25 (.tmp 61), _, _, _, none⟩) (v := _) rfl (by kernel_rfl) (fun _ _ _ h => h) (Or.inl ⟨by rfl, ?hy57⟩) (by assumption) ?rest57
    case hy57 => (intro w hSw; obtain ⟨s0, s1, s2, s3, s4, s5, s6, s7⟩ := hSw; go_simp <;> with_reducible rfl)
    case rest57 =>
    go_frame
    refine anyU_ready (rs := [0]) (by kernel_rfl) (by simp) (AllU.cons (o := ⟨some 57, .buildSlice 25 0 #[], _, _, _, none⟩) rfl (fun K hK => ?_) (fun h => absurd h (by decide)) AllU.nil)
    rw [if_pos (by rfl)]
    obtain ⟨vb, hu⟩ : ∃ u, u = (W7.alloc (.cells #[] 3)).drew := ⟨_, rfl⟩
    have hb : Below W7.drew.heap.size W7.drew vb := by rw [hu]; exact (Below.refl W7.drew.heap.size W7.drew).alloc (Nat.le_refl _) (.cells #[] 3)
    have hmy : Mine vb W7.heap.size 3 (.slice (some ⟨W7.heap.size, 0, none⟩) 0 0) (cellsI ([])) := by rw [hu]; exact Mine.empty W7.drew _ 3 (Nat.le_refl _)
    have LMb := Lib.hid (LMa8.out.kept (hb.mono LMa8.out.le))
    have Myb := Lib.hid hmy
    have Tb := Lib.hid hb
    have Sxb := Lib.hid LMb.out.law.t.cells
    go_simp
    rw [← hu]
    refine hK.out _ _ (fun _ => Sxb.out) ?_
    clear hK K hu hb hmy
    try go_frame
    refine anyU_ready (rs := [3]) (by kernel_rfl) (by simp) (AllU.cons (o := ⟨some 60, .call { callee := .builtin .append, args := #[.tmp 57, .tmp 59], argTypes := #[25, 25] }, _, _, _, none⟩) rfl (fun K hK => ?_) (fun h => absurd h (by decide)) AllU.nil)
    rw [if_pos (by rfl)]
    obtain ⟨Ac, nc, cc, vc, hrun, ho, hb⟩ := Mine.appI Myb.out LMb.out.law.ia.kids (by have := CA.out.d; have := CB.out.d; simp; omega) Tb.out.size
    have Hrun := Lib.hid hrun
    have LMc := Lib.hid (LMb.out.kept (hb.mono LMa8.out.le))
    have Myc := Lib.hid ho
    have Tc := Lib.hid (Tb.out.trans hb)
    have Sxc := Lib.hid LMc.out.law.t.cells
    clear hrun ho hb
    refine wp_run (.slice Ac nc cc) vc (exec_append (t := 25) (x := .tmp 57) (y := .tmp 59) rfl rfl rfl Hrun.out) ?_
    refine hK.out _ _ (fun _ => Sxc.out) ?_
    clear hK K Hrun Sxb
    go_frame
    refine anyU_ready (rs := [6]) (by kernel_rfl) (by simp) (AllU.cons (o := ⟨some 63, .call { callee := .builtin .append, args := #[.tmp 60, .tmp 62], argTypes := #[25, 25] }, _, _, _, none⟩) rfl (fun K hK => ?_) (fun h => absurd h (by decide)) AllU.nil)
    rw [if_pos (by rfl)]
    obtain ⟨Ad, nd, cd, vd, hrun, ho, hb⟩ := Mine.appI Myc.out LMc.out.law.ib.kids (by have := CA.out.d; have := CB.out.d; simp; omega) Tc.out.size
    have Hrun := Lib.hid hrun
    have LMd := Lib.hid (LMc.out.kept (hb.mono LMa8.out.le))
    have Myd := Lib.hid ho
    have Td := Lib.hid (Tc.out.trans hb)
    have Sxd := Lib.hid LMd.out.law.t.cells
    clear hrun ho hb
    refine wp_run (.slice Ad nd cd) vd (exec_append (t := 25) (x := .tmp 60) (y := .tmp 62) rfl rfl rfl Hrun.out) ?_
    refine hK.out _ _ (fun _ => Sxd.out) ?_
    clear hK K Hrun Sxc
    go_frame
    refine' anyU_take0 (i := 7) (oi := ⟨some 64, .fieldAddr 27 (.tmp 9) 3, _, _, _, none⟩) (v := _) rfl (by kernel_rfl) (fun _ _ _ h => h) (Or.inl ⟨by rfl, ?hy58⟩) (by assumption) ?rest58
    case hy58 => (intro w hSw; go_simp <;> with_reducible rfl)
    case rest58 =>
    go_frame
    refine anyU_ready (rs := [8]) (by kernel_rfl) (by simp) (AllU.cons (o := ⟨none, .store 25 (.tmp 64) (.tmp 63), _, _, _, none⟩) rfl (fun K hK => ?_) (fun _ => by kernel_rfl) AllU.nil)
    rw [if_pos (by rfl)]
    have hnx := NXa8.out.kept Td.out
    obtain ⟨y0, y1, y2, y3, f0, f1, f2, f3⟩ := out_cells hnx.top
    have NXd := Lib.hid hnx
    clear hnx
    go_simp
    refine hK.out _ _ (fun h => absurd h (by decide)) ?_
    clear hK K
    try go_frame
    refine anyU_done (by kernel_rfl) ?_ _
    have HL8 := Lib.hid (LMd.out.set (v := .slice Ad nd cd) NXd.out.lo 3)
    have HX8 := Lib.hid (NXd.out.putD Myd.out NXa8.out.lt)
    obtain ⟨W8, hW⟩ : ∃ X, X = vd.setCell ⟨q, 3, none⟩ (.slice Ad nd cd) := ⟨_, rfl⟩
    rw [← hW] at HL8 HX8 ⊢
    clear hW y0 y1 y2 y3 f0 f1 f2 f3 NXd LMb LMc LMd Myb Myc Myd Tb Tc Td S0 hHeld Sxd LMa8 NXa8 HL7 HX7
    simp only [List.nil_append] at HX8
    have hj : joinsB a key b = (sndB a && sndB b && (false == b.leaf) && sndB (⟨false, (a.keys ++ [key]) ++ b.keys, a.vals ++ b.vals, a.kids ++ b.kids⟩ : Nd)) ∧ (joinsB a key b = true → a.joined key b = (⟨false, (a.keys ++ [key]) ++ b.keys, a.vals ++ b.vals, a.kids ++ b.kids⟩ : Nd)) := by have := joins_law (a := a) (b := b) (key := key); rw [hal] at this; simpa using this
    rw [hal] at HX8
    have hkx := keys_small (lawKeys CA.out CB.out HKl.out).2
    have hxs : (⟨false, (a.keys ++ [key]) ++ b.keys, a.vals ++ b.vals, a.kids ++ b.kids⟩ : Nd).Short 1000000 := ⟨by have := hshort.out; simp; omega, by have := CA.out.v; have := CB.out.v; simp; omega, by have := CA.out.d; have := CB.out.d; simp; omega⟩
    have HKX := Lib.hid hkx
    have HXS := Lib.hid hxs
    have HJ := Lib.hid hj
    have HAL := Lib.hid hal
    clear hkx hxs hj hal
    cases hbl : b.leaf
    · have HBL := Lib.hid hbl
      clear hbl
      cases hjb : joinsB a key b
      · have hmg : a.merged key b = ⟨false, [], [], []⟩ := by unfold Nd.merged; rw [hjb]; rfl
        rw [hmg] at HL8
        have HJB := Lib.hid hjb
        clear hmg hjb
        cases ka : sndB a
        · have HKa := Lib.hid ka
          clear ka
          obtain ⟨x0, x1, x2, x3, x4, x5, x6, x7⟩ := HL8.out.law.t.cells
          rw [HAL.out] at x0
          rw [HBL.out] at x4
          obtain ⟨v0, v1, v2, v3⟩ := HX8.out.box
          obtain ⟨u0, u1, u2, u3⟩ := box_of_top HL8.out.tp
          dsimp only at u0
          have hc := rsound_any HL8.out.law.ia HL8.out.le CA.out.short CA.out.small.1
          rw [HAL.out, HKa.out] at hc
          go_wp2_with fail
          refine hc.mono ?_
          rintro e w9 ⟨rfl, hb⟩
          have HL9 := Lib.hid (HL8.out.kept (hb.mono HL8.out.le))
          have HX9 := Lib.hid (HX8.out.kept hb)
          clear x0 x1 x2 x3 x4 x5 x6 x7 v0 v1 v2 v3 u0 u1 u2 u3 hc hb
          obtain ⟨x0, x1, x2, x3, x4, x5, x6, x7⟩ := HL9.out.law.t.cells
          rw [HAL.out] at x0
          rw [HBL.out] at x4
          obtain ⟨v0, v1, v2, v3⟩ := HX9.out.box
          obtain ⟨u0, u1, u2, u3⟩ := box_of_top HL9.out.tp
          dsimp only at u0
          have hc := same7_yes HL9.out.ri (NdNew.mk (w := w9) (base := 0) (OwnT.nil _ _ _) (OwnT.nil _ _ _) (Mine.nil _ _ _)).is HL9.out.le (Nat.le_refl _) ⟨Nat.zero_le _, Nat.zero_le _, Nat.zero_le _⟩
          dsimp only at hc
          go_wp2_with fail
          refine hc.mono ?_
          rintro e w10 ⟨rfl, hb⟩
          have HL10 := Lib.hid (HL9.out.kept (hb.mono HL9.out.le))
          clear x0 x1 x2 x3 x4 x5 x6 x7 v0 v1 v2 v3 u0 u1 u2 u3 hc hb
          go_wp2_with fail
          refine (lives07_any _).mono ?_
          rintro e w11 ⟨rfl, hb⟩
          have HB := Lib.hid (up HL10.out.law.t.below hb)
          clear hb
          go_wp2_with fail
          go_ret
          exact ⟨rfl, HB.out⟩
        · have HKa := Lib.hid ka
          clear ka
          obtain ⟨x0, x1, x2, x3, x4, x5, x6, x7⟩ := HL8.out.law.t.cells
          rw [HAL.out] at x0
          rw [HBL.out] at x4
          obtain ⟨v0, v1, v2, v3⟩ := HX8.out.box
          obtain ⟨u0, u1, u2, u3⟩ := box_of_top HL8.out.tp
          dsimp only at u0
          have hc := rsound_any HL8.out.law.ia HL8.out.le CA.out.short CA.out.small.1
          rw [HAL.out, HKa.out] at hc
          go_wp2_with fail
          refine hc.mono ?_
          rintro e w9 ⟨rfl, hb⟩
          have HL9 := Lib.hid (HL8.out.kept (hb.mono HL8.out.le))
          have HX9 := Lib.hid (HX8.out.kept hb)
          clear x0 x1 x2 x3 x4 x5 x6 x7 v0 v1 v2 v3 u0 u1 u2 u3 hc hb
          cases kb : sndB b
          · have HKb := Lib.hid kb
            clear kb
            obtain ⟨x0, x1, x2, x3, x4, x5, x6, x7⟩ := HL9.out.law.t.cells
            rw [HAL.out] at x0
            rw [HBL.out] at x4
            obtain ⟨v0, v1, v2, v3⟩ := HX9.out.box
            obtain ⟨u0, u1, u2, u3⟩ := box_of_top HL9.out.tp
            dsimp only at u0
            have hc := rsound_any HL9.out.law.ib HL9.out.le CB.out.short CB.out.small.1
            rw [HBL.out, HKb.out] at hc
            go_wp2_with fail
            refine hc.mono ?_
            rintro e w10 ⟨rfl, hb⟩
            have HL10 := Lib.hid (HL9.out.kept (hb.mono HL9.out.le))
            have HX10 := Lib.hid (HX9.out.kept hb)
            clear x0 x1 x2 x3 x4 x5 x6 x7 v0 v1 v2 v3 u0 u1 u2 u3 hc hb
            obtain ⟨x0, x1, x2, x3, x4, x5, x6, x7⟩ := HL10.out.law.t.cells
            rw [HAL.out] at x0
            rw [HBL.out] at x4
            obtain ⟨v0, v1, v2, v3⟩ := HX10.out.box
            obtain ⟨u0, u1, u2, u3⟩ := box_of_top HL10.out.tp
            dsimp only at u0
            have hc := same7_yes HL10.out.ri (NdNew.mk (w := w10) (base := 0) (OwnT.nil _ _ _) (OwnT.nil _ _ _) (Mine.nil _ _ _)).is HL10.out.le (Nat.le_refl _) ⟨Nat.zero_le _, Nat.zero_le _, Nat.zero_le _⟩
            dsimp only at hc
            go_wp2_with fail
            refine hc.mono ?_
            rintro e w11 ⟨rfl, hb⟩
            have HL11 := Lib.hid (HL10.out.kept (hb.mono HL10.out.le))
            clear x0 x1 x2 x3 x4 x5 x6 x7 v0 v1 v2 v3 u0 u1 u2 u3 hc hb
            go_wp2_with fail
            refine (lives07_any _).mono ?_
            rintro e w12 ⟨rfl, hb⟩
            have HB := Lib.hid (up HL11.out.law.t.below hb)
            clear hb
            go_wp2_with fail
            go_ret
            exact ⟨rfl, HB.out⟩
          · have HKb := Lib.hid kb
            clear kb
            obtain ⟨x0, x1, x2, x3, x4, x5, x6, x7⟩ := HL9.out.law.t.cells
            rw [HAL.out] at x0
            rw [HBL.out] at x4
            obtain ⟨v0, v1, v2, v3⟩ := HX9.out.box
            obtain ⟨u0, u1, u2, u3⟩ := box_of_top HL9.out.tp
            dsimp only at u0
            have hc := rsound_any HL9.out.law.ib HL9.out.le CB.out.short CB.out.small.1
            rw [HBL.out, HKb.out] at hc
            go_wp2_with fail
            refine hc.mono ?_
            rintro e w10 ⟨rfl, hb⟩
            have HL10 := Lib.hid (HL9.out.kept (hb.mono HL9.out.le))
            have HX10 := Lib.hid (HX9.out.kept hb)
            clear x0 x1 x2 x3 x4 x5 x6 x7 v0 v1 v2 v3 u0 u1 u2 u3 hc hb
            have HKx := Lib.hid (show sndB (⟨false, (a.keys ++ [key]) ++ b.keys, a.vals ++ b.vals, a.kids ++ b.kids⟩ : Nd) = false by have h := HJ.out.1; rw [HJB.out, HKa.out, HKb.out, HBL.out] at h; simpa using h.symm)
            obtain ⟨x0, x1, x2, x3, x4, x5, x6, x7⟩ := HL10.out.law.t.cells
            rw [HAL.out] at x0
            rw [HBL.out] at x4
            obtain ⟨v0, v1, v2, v3⟩ := HX10.out.box
            obtain ⟨u0, u1, u2, u3⟩ := box_of_top HL10.out.tp
            dsimp only at u0
            have hc := rsound_any HX10.out.is (Nat.le_refl _) HXS.out HKX.out
            rw [HKx.out] at hc
            go_wp2_with fail
            refine hc.mono ?_
            rintro e w11 ⟨rfl, hb⟩
            have HL11 := Lib.hid (HL10.out.kept (hb.mono HL10.out.le))
            have HX11 := Lib.hid (HX10.out.kept hb)
            clear x0 x1 x2 x3 x4 x5 x6 x7 v0 v1 v2 v3 u0 u1 u2 u3 hc hb
            obtain ⟨x0, x1, x2, x3, x4, x5, x6, x7⟩ := HL11.out.law.t.cells
            rw [HAL.out] at x0
            rw [HBL.out] at x4
            obtain ⟨v0, v1, v2, v3⟩ := HX11.out.box
            obtain ⟨u0, u1, u2, u3⟩ := box_of_top HL11.out.tp
            dsimp only at u0
            have hc := same7_yes HL11.out.ri (NdNew.mk (w := w11) (base := 0) (OwnT.nil _ _ _) (OwnT.nil _ _ _) (Mine.nil _ _ _)).is HL11.out.le (Nat.le_refl _) ⟨Nat.zero_le _, Nat.zero_le _, Nat.zero_le _⟩
            dsimp only at hc
            go_wp2_with fail
            refine hc.mono ?_
            rintro e w12 ⟨rfl, hb⟩
            have HL12 := Lib.hid (HL11.out.kept (hb.mono HL11.out.le))
            clear x0 x1 x2 x3 x4 x5 x6 x7 v0 v1 v2 v3 u0 u1 u2 u3 hc hb
            go_wp2_with fail
            refine (lives07_any _).mono ?_
            rintro e w13 ⟨rfl, hb⟩
            have HB := Lib.hid (up HL12.out.law.t.below hb)
            clear hb
            go_wp2_with fail
            go_ret
            exact ⟨rfl, HB.out⟩
      · have hmg : a.merged key b = (⟨false, (a.keys ++ [key]) ++ b.keys, a.vals ++ b.vals, a.kids ++ b.kids⟩ : Nd) := by unfold Nd.merged; rw [if_pos hjb]; exact HJ.out.2 hjb
        rw [hmg] at HL8
        have h4 := HJ.out.1
        rw [hjb] at h4
        replace h4 := h4.symm
        simp only [Bool.and_eq_true] at h4
        obtain ⟨⟨⟨ka, kb⟩, -⟩, kx⟩ := h4
        have HKa := Lib.hid ka
        have HKb := Lib.hid kb
        have HKx := Lib.hid kx
        clear ka kb kx hmg hjb
        obtain ⟨x0, x1, x2, x3, x4, x5, x6, x7⟩ := HL8.out.law.t.cells
        rw [HAL.out] at x0
        rw [HBL.out] at x4
        obtain ⟨v0, v1, v2, v3⟩ := HX8.out.box
        obtain ⟨u0, u1, u2, u3⟩ := box_of_top HL8.out.tp
        dsimp only at u0
        have hc := rsound_any HL8.out.law.ia HL8.out.le CA.out.short CA.out.small.1
        rw [HAL.out, HKa.out] at hc
        go_wp2_with fail
        refine hc.mono ?_
        rintro e w9 ⟨rfl, hb⟩
        have HL9 := Lib.hid (HL8.out.kept (hb.mono HL8.out.le))
        have HX9 := Lib.hid (HX8.out.kept hb)
        clear x0 x1 x2 x3 x4 x5 x6 x7 v0 v1 v2 v3 u0 u1 u2 u3 hc hb
        obtain ⟨x0, x1, x2, x3, x4, x5, x6, x7⟩ := HL9.out.law.t.cells
        rw [HAL.out] at x0
        rw [HBL.out] at x4
        obtain ⟨v0, v1, v2, v3⟩ := HX9.out.box
        obtain ⟨u0, u1, u2, u3⟩ := box_of_top HL9.out.tp
        dsimp only at u0
        have hc := rsound_any HL9.out.law.ib HL9.out.le CB.out.short CB.out.small.1
        rw [HBL.out, HKb.out] at hc
        go_wp2_with fail
        refine hc.mono ?_
        rintro e w10 ⟨rfl, hb⟩
        have HL10 := Lib.hid (HL9.out.kept (hb.mono HL9.out.le))
        have HX10 := Lib.hid (HX9.out.kept hb)
        clear x0 x1 x2 x3 x4 x5 x6 x7 v0 v1 v2 v3 u0 u1 u2 u3 hc hb
        obtain ⟨x0, x1, x2, x3, x4, x5, x6, x7⟩ := HL10.out.law.t.cells
        rw [HAL.out] at x0
        rw [HBL.out] at x4
        obtain ⟨v0, v1, v2, v3⟩ := HX10.out.box
        obtain ⟨u0, u1, u2, u3⟩ := box_of_top HL10.out.tp
        dsimp only at u0
        have hc := rsound_any HX10.out.is (Nat.le_refl _) HXS.out HKX.out
        rw [HKx.out] at hc
        go_wp2_with fail
        refine hc.mono ?_
        rintro e w11 ⟨rfl, hb⟩
        have HL11 := Lib.hid (HL10.out.kept (hb.mono HL10.out.le))
        have HX11 := Lib.hid (HX10.out.kept hb)
        clear x0 x1 x2 x3 x4 x5 x6 x7 v0 v1 v2 v3 u0 u1 u2 u3 hc hb
        obtain ⟨x0, x1, x2, x3, x4, x5, x6, x7⟩ := HL11.out.law.t.cells
        rw [HAL.out] at x0
        rw [HBL.out] at x4
        obtain ⟨v0, v1, v2, v3⟩ := HX11.out.box
        obtain ⟨u0, u1, u2, u3⟩ := box_of_top HL11.out.tp
        dsimp only at u0
        have hc := same7_yes HL11.out.ri HX11.out.is HL11.out.le (Nat.le_refl _) HXS.out
        dsimp only at hc
        go_wp2_with fail
        refine hc.mono ?_
        rintro e w12 ⟨rfl, hb⟩
        have HL12 := Lib.hid (HL11.out.kept (hb.mono HL11.out.le))
        clear x0 x1 x2 x3 x4 x5 x6 x7 v0 v1 v2 v3 u0 u1 u2 u3 hc hb
        go_wp2_with fail
        refine (lives07_any _).mono ?_
        rintro e w13 ⟨rfl, hb⟩
        have HB := Lib.hid (up HL12.out.law.t.below hb)
        clear hb
        go_wp2_with fail
        go_ret
        exact ⟨rfl, HB.out⟩
    · have HBL := Lib.hid hbl
      clear hbl
      have hjb : joinsB a key b = false := by rw [HJ.out.1, HBL.out]; simp
      rw [hjb]
      have hmg : a.merged key b = ⟨false, [], [], []⟩ := by unfold Nd.merged; rw [hjb]; rfl
      rw [hmg] at HL8
      have HJB := Lib.hid hjb
      clear hmg hjb
      cases ka : sndB a
      · have HKa := Lib.hid ka
        clear ka
        obtain ⟨x0, x1, x2, x3, x4, x5, x6, x7⟩ := HL8.out.law.t.cells
        rw [HAL.out] at x0
        rw [HBL.out] at x4
        obtain ⟨v0, v1, v2, v3⟩ := HX8.out.box
        obtain ⟨u0, u1, u2, u3⟩ := box_of_top HL8.out.tp
        dsimp only at u0
        have hc := rsound_any HL8.out.law.ia HL8.out.le CA.out.short CA.out.small.1
        rw [HAL.out, HKa.out] at hc
        go_wp2_with fail
        refine hc.mono ?_
        rintro e w9 ⟨rfl, hb⟩
        have HL9 := Lib.hid (HL8.out.kept (hb.mono HL8.out.le))
        have HX9 := Lib.hid (HX8.out.kept hb)
        clear x0 x1 x2 x3 x4 x5 x6 x7 v0 v1 v2 v3 u0 u1 u2 u3 hc hb
        obtain ⟨x0, x1, x2, x3, x4, x5, x6, x7⟩ := HL9.out.law.t.cells
        rw [HAL.out] at x0
        rw [HBL.out] at x4
        obtain ⟨v0, v1, v2, v3⟩ := HX9.out.box
        obtain ⟨u0, u1, u2, u3⟩ := box_of_top HL9.out.tp
        dsimp only at u0
        have hc := same7_yes HL9.out.ri (NdNew.mk (w := w9) (base := 0) (OwnT.nil _ _ _) (OwnT.nil _ _ _) (Mine.nil _ _ _)).is HL9.out.le (Nat.le_refl _) ⟨Nat.zero_le _, Nat.zero_le _, Nat.zero_le _⟩
        dsimp only at hc
        go_wp2_with fail
        refine hc.mono ?_
        rintro e w10 ⟨rfl, hb⟩
        have HL10 := Lib.hid (HL9.out.kept (hb.mono HL9.out.le))
        clear x0 x1 x2 x3 x4 x5 x6 x7 v0 v1 v2 v3 u0 u1 u2 u3 hc hb
        go_wp2_with fail
        refine (lives07_any _).mono ?_
        rintro e w11 ⟨rfl, hb⟩
        have HB := Lib.hid (up HL10.out.law.t.below hb)
        clear hb
        go_wp2_with fail
        go_ret
        exact ⟨rfl, HB.out⟩
      · have HKa := Lib.hid ka
        clear ka
        obtain ⟨x0, x1, x2, x3, x4, x5, x6, x7⟩ := HL8.out.law.t.cells
        rw [HAL.out] at x0
        rw [HBL.out] at x4
        obtain ⟨v0, v1, v2, v3⟩ := HX8.out.box
        obtain ⟨u0, u1, u2, u3⟩ := box_of_top HL8.out.tp
        dsimp only at u0
        have hc := rsound_any HL8.out.law.ia HL8.out.le CA.out.short CA.out.small.1
        rw [HAL.out, HKa.out] at hc
        go_wp2_with fail
        refine hc.mono ?_
        rintro e w9 ⟨rfl, hb⟩
        have HL9 := Lib.hid (HL8.out.kept (hb.mono HL8.out.le))
        have HX9 := Lib.hid (HX8.out.kept hb)
        clear x0 x1 x2 x3 x4 x5 x6 x7 v0 v1 v2 v3 u0 u1 u2 u3 hc hb
        cases kb : sndB b
        · have HKb := Lib.hid kb
          clear kb
          obtain ⟨x0, x1, x2, x3, x4, x5, x6, x7⟩ := HL9.out.law.t.cells
          rw [HAL.out] at x0
          rw [HBL.out] at x4
          obtain ⟨v0, v1, v2, v3⟩ := HX9.out.box
          obtain ⟨u0, u1, u2, u3⟩ := box_of_top HL9.out.tp
          dsimp only at u0
          have hc := rsound_any HL9.out.law.ib HL9.out.le CB.out.short CB.out.small.1
          rw [HBL.out, HKb.out] at hc
          go_wp2_with fail
          refine hc.mono ?_
          rintro e w10 ⟨rfl, hb⟩
          have HL10 := Lib.hid (HL9.out.kept (hb.mono HL9.out.le))
          have HX10 := Lib.hid (HX9.out.kept hb)
          clear x0 x1 x2 x3 x4 x5 x6 x7 v0 v1 v2 v3 u0 u1 u2 u3 hc hb
          obtain ⟨x0, x1, x2, x3, x4, x5, x6, x7⟩ := HL10.out.law.t.cells
          rw [HAL.out] at x0
          rw [HBL.out] at x4
          obtain ⟨v0, v1, v2, v3⟩ := HX10.out.box
          obtain ⟨u0, u1, u2, u3⟩ := box_of_top HL10.out.tp
          dsimp only at u0
          have hc := same7_yes HL10.out.ri (NdNew.mk (w := w10) (base := 0) (OwnT.nil _ _ _) (OwnT.nil _ _ _) (Mine.nil _ _ _)).is HL10.out.le (Nat.le_refl _) ⟨Nat.zero_le _, Nat.zero_le _, Nat.zero_le _⟩
          dsimp only at hc
          go_wp2_with fail
          refine hc.mono ?_
          rintro e w11 ⟨rfl, hb⟩
          have HL11 := Lib.hid (HL10.out.kept (hb.mono HL10.out.le))
          clear x0 x1 x2 x3 x4 x5 x6 x7 v0 v1 v2 v3 u0 u1 u2 u3 hc hb
          go_wp2_with fail
          refine (lives07_any _).mono ?_
          rintro e w12 ⟨rfl, hb⟩
          have HB := Lib.hid (up HL11.out.law.t.below hb)
          clear hb
          go_wp2_with fail
          go_ret
          exact ⟨rfl, HB.out⟩
        · have HKb := Lib.hid kb
          clear kb
          obtain ⟨x0, x1, x2, x3, x4, x5, x6, x7⟩ := HL9.out.law.t.cells
          rw [HAL.out] at x0
          rw [HBL.out] at x4
          obtain ⟨v0, v1, v2, v3⟩ := HX9.out.box
          obtain ⟨u0, u1, u2, u3⟩ := box_of_top HL9.out.tp
          dsimp only at u0
          have hc := rsound_any HL9.out.law.ib HL9.out.le CB.out.short CB.out.small.1
          rw [HBL.out, HKb.out] at hc
          go_wp2_with fail
          refine hc.mono ?_
          rintro e w10 ⟨rfl, hb⟩
          have HL10 := Lib.hid (HL9.out.kept (hb.mono HL9.out.le))
          have HX10 := Lib.hid (HX9.out.kept hb)
          clear x0 x1 x2 x3 x4 x5 x6 x7 v0 v1 v2 v3 u0 u1 u2 u3 hc hb
          obtain ⟨x0, x1, x2, x3, x4, x5, x6, x7⟩ := HL10.out.law.t.cells
          rw [HAL.out] at x0
          rw [HBL.out] at x4
          obtain ⟨v0, v1, v2, v3⟩ := HX10.out.box
          obtain ⟨u0, u1, u2, u3⟩ := box_of_top HL10.out.tp
          dsimp only at u0
          have hc := same7_yes HL10.out.ri (NdNew.mk (w := w10) (base := 0) (OwnT.nil _ _ _) (OwnT.nil _ _ _) (Mine.nil _ _ _)).is HL10.out.le (Nat.le_refl _) ⟨Nat.zero_le _, Nat.zero_le _, Nat.zero_le _⟩
          dsimp only at hc
          go_wp2_with fail
          refine hc.mono ?_
          rintro e w11 ⟨rfl, hb⟩
          have HL11 := Lib.hid (HL10.out.kept (hb.mono HL10.out.le))
          clear x0 x1 x2 x3 x4 x5 x6 x7 v0 v1 v2 v3 u0 u1 u2 u3 hc hb
          go_wp2_with fail
          refine (lives07_any _).mono ?_
          rintro e w12 ⟨rfl, hb⟩
          have HB := Lib.hid (up HL11.out.law.t.below hb)
          clear hb
          go_wp2_with fail
          go_ret
          exact ⟨rfl, HB.out⟩
  · rw [hal] at x0 n0c
    obtain ⟨Az, nz, cz, wz, hrz, hzz, hbz⟩ := HNX.out.appK (HLM.out.law.ib.keys.rdT (base := B0) (Nat.le_refl _) HLM.out.le) (by have := hshort.out; omega) HLM.out.le
    obtain ⟨d0, d1, d2, d3, df0, df1, df2, df3⟩ := out_cells hzz.top
    have HL6 := Lib.hid ((HLM.out.kept hbz).set (v := .slice Az nz cz) HNX.out.lo 1)
    have HX6 := Lib.hid hzz.setK
    have Hrz := Lib.hid hrz
    clear hrz hzz hbz HLM HNX
    go_wp2_with (at_builtin; refine wpList_append_run rfl (.tmp 44) (.tmp 46) rfl _ _ rfl rfl Hrz.out ?_)
    obtain ⟨W6, hW6⟩ : ∃ X, X = wz.setCell ⟨q, 1, none⟩ (.slice Az nz cz) := ⟨_, rfl⟩
    rw [← hW6] at HL6 HX6 ⊢
    clear hW6 x0 x1 x2 x3 x4 x5 x6 x7 n0c n1c n2c n3c d0 d1 d2 d3 df0 df1 df2 df3 Hrz
    have LMa7 := Lib.hid HL6.out.drew
    have NXa7 := Lib.hid HX6.out.drew
    have S0 := LMa7.out.law.t.cells
    refine wp_region_late (S := fun w' => w'.cell? ⟨w.heap.size, 0, none⟩ = some (.bool a.leaf) ∧ w'.cell? ⟨w.heap.size, 1, none⟩ = some (.slice C1 q1 g1) ∧ w'.cell? ⟨w.heap.size, 2, none⟩ = some (.slice C2 q2 g2) ∧ w'.cell? ⟨w.heap.size, 3, none⟩ = some (.slice C3 q3 g3) ∧ w'.cell? ⟨w.heap.size + 1, 0, none⟩ = some (.bool b.leaf) ∧ w'.cell? ⟨w.heap.size + 1, 1, none⟩ = some (.slice E1 r1 k1) ∧ w'.cell? ⟨w.heap.size + 1, 2, none⟩ = some (.slice E2 r2 k2) ∧ w'.cell? ⟨w.heap.size + 1, 3, none⟩ = some (.slice E3 r3 k3)) [8] (by kernel_rfl) S0 (fun hHeld => ?_)
    refine' anyU_take0 (i := 1) (oi := ⟨some 50, .fieldAddr 27 (.tmp 3) 2, _, _, _, none⟩) (v := _) rfl (by kernel_rfl) (fun _ _ _ h => h) (Or.inl ⟨by rfl, ?hy59⟩) (by assumption) ?rest59
    case hy59 => (intro w hSw; go_simp <;> with_reducible rfl)
    case rest59 =>
    go_frame
    refine' anyU_take (i := 2) (oi := ⟨some 51, .load 24 (.tmp 50), _, _, _, none⟩) (v := _) rfl (by kernel_rfl) (fun _ _ _ h => h) (Or.inl ⟨by rfl, ?hy60⟩) (by assumption) ?rest60
    case hy60 => (intro w hSw; obtain ⟨s0, s1, s2, s3, s4, s5, s6, s7⟩ := hSw; go_simp <;> with_reducible rfl)
    case rest60 =>
    go_frame
    refine' anyU_take0 (i := 4) (oi := ⟨some 53, .fieldAddr 27 (.tmp 4) 2, _, _, _, none⟩) (v := _) rfl (by kernel_rfl) (fun _ _ _ h => h) (Or.inl ⟨by rfl, ?hy61⟩) (by assumption) ?rest61
    case hy61 => (intro w hSw; go_simp <;> with_reducible rfl)
    case rest61 =>
    go_frame
    refine' anyU_take (i := 5) (oi := ⟨some 54, .load 24 (.tmp 53), _, _, _, none⟩) (v := _) rfl (by kernel_rfl) (fun _ _ _ h => h) (Or.inl ⟨by rfl, ?hy62⟩) (by assumption) ?rest62
    case hy62 => (intro w hSw; obtain ⟨s0, s1, s2, s3, s4, s5, s6, s7⟩ := hSw; go_simp <;> with_reducible rfl)
    case rest62 =>
    go_frame
    refine anyU_ready (rs := [0]) (by kernel_rfl) (by simp) (AllU.cons (o := ⟨some 49, .buildSlice 24 0 #[], _, _, _, none⟩) rfl (fun K hK => ?_) (fun h => absurd h (by decide)) AllU.nil)
    rw [if_pos (by rfl)]
    obtain ⟨vb, hu⟩ : ∃ u, u = (W6.alloc (.cells #[] 22)).drew := ⟨_, rfl⟩
    have hb : Below W6.drew.heap.size W6.drew vb := by rw [hu]; exact (Below.refl W6.drew.heap.size W6.drew).alloc (Nat.le_refl _) (.cells #[] 22)
    have hmy : OwnT vb B0 W6.heap.size (.slice (some ⟨W6.heap.size, 0, none⟩) 0 0) ([]) := by rw [hu]; exact OwnT.empty W6.drew B0 W6.heap.size (Nat.le_refl _)
    have LMb := Lib.hid (LMa7.out.kept (hb.mono LMa7.out.le))
    have Myb := Lib.hid hmy
    have Tb := Lib.hid hb
    have Sxb := Lib.hid LMb.out.law.t.cells
    go_simp
    rw [← hu]
    refine hK.out _ _ (fun _ => Sxb.out) ?_
    clear hK K hu hb hmy
    try go_frame
    refine anyU_ready (rs := [3]) (by kernel_rfl) (by simp) (AllU.cons (o := ⟨some 52, .call { callee := .builtin .append, args := #[.tmp 49, .tmp 51], argTypes := #[24, 24] }, _, _, _, none⟩) rfl (fun K hK => ?_) (fun h => absurd h (by decide)) AllU.nil)
    rw [if_pos (by rfl)]
    obtain ⟨Ac, nc, cc, vc, hrun, ho, hg, hb, hv⟩ := Myb.out.append (LMb.out.law.ia.vals.rdT (base := W6.heap.size) (Nat.le_refl _) LMb.out.le) (by have := CA.out.v; have := CB.out.v; simp; omega) Tb.out.size LMa7.out.le
    have Hrun := Lib.hid hrun
    have LMc := Lib.hid (LMb.out.kept (hb.mono LMa7.out.le))
    have Myc := Lib.hid ho
    have Tc := Lib.hid (Tb.out.trans hb)
    have Sxc := Lib.hid LMc.out.law.t.cells
    clear hrun ho hb hg hv
    refine wp_run (.slice Ac nc cc) vc (exec_append (t := 24) (x := .tmp 49) (y := .tmp 51) rfl rfl rfl Hrun.out) ?_
    refine hK.out _ _ (fun _ => Sxc.out) ?_
    clear hK K Hrun Sxb
    go_frame
    refine anyU_ready (rs := [6]) (by kernel_rfl) (by simp) (AllU.cons (o := ⟨some 55, .call { callee := .builtin .append, args := #[.tmp 52, .tmp 54], argTypes := #[24, 24] }, _, _, _, none⟩) rfl (fun K hK => ?_) (fun h => absurd h (by decide)) AllU.nil)
    rw [if_pos (by rfl)]
    obtain ⟨Ad, nd, cd, vd, hrun, ho, hg, hb, hv⟩ := Myc.out.append (LMc.out.law.ib.vals.rdT (base := W6.heap.size) (Nat.le_refl _) LMc.out.le) (by have := CA.out.v; have := CB.out.v; simp; omega) Tc.out.size LMa7.out.le
    have Hrun := Lib.hid hrun
    have LMd := Lib.hid (LMc.out.kept (hb.mono LMa7.out.le))
    have Myd := Lib.hid ho
    have Td := Lib.hid (Tc.out.trans hb)
    have Sxd := Lib.hid LMd.out.law.t.cells
    clear hrun ho hb hg hv
    refine wp_run (.slice Ad nd cd) vd (exec_append (t := 24) (x := .tmp 52) (y := .tmp 54) rfl rfl rfl Hrun.out) ?_
    refine hK.out _ _ (fun _ => Sxd.out) ?_
    clear hK K Hrun Sxc
    go_frame
    refine' anyU_take0 (i := 7) (oi := ⟨some 56, .fieldAddr 27 (.tmp 9) 2, _, _, _, none⟩) (v := _) rfl (by kernel_rfl) (fun _ _ _ h => h) (Or.inl ⟨by rfl, ?hy63⟩) (by assumption) ?rest63
    case hy63 => (intro w hSw; go_simp <;> with_reducible rfl)
    case rest63 =>
    go_frame
    refine anyU_ready (rs := [8]) (by kernel_rfl) (by simp) (AllU.cons (o := ⟨none, .store 24 (.tmp 56) (.tmp 55), _, _, _, none⟩) rfl (fun K hK => ?_) (fun _ => by kernel_rfl) AllU.nil)
    rw [if_pos (by rfl)]
    have hnx := NXa7.out.kept Td.out
    obtain ⟨y0, y1, y2, y3, f0, f1, f2, f3⟩ := out_cells hnx.top
    have NXd := Lib.hid hnx
    clear hnx
    go_simp
    refine hK.out _ _ (fun h => absurd h (by decide)) ?_
    clear hK K
    try go_frame
    refine anyU_done (by kernel_rfl) ?_ _
    have HL7 := Lib.hid (LMd.out.set (v := .slice Ad nd cd) NXd.out.lo 2)
    have HX7 := Lib.hid (NXd.out.putV Myd.out NXa7.out.lt)
    obtain ⟨W7, hW⟩ : ∃ X, X = vd.setCell ⟨q, 2, none⟩ (.slice Ad nd cd) := ⟨_, rfl⟩
    rw [← hW] at HL7 HX7 ⊢
    clear hW y0 y1 y2 y3 f0 f1 f2 f3 NXd LMb LMc LMd Myb Myc Myd Tb Tc Td S0 hHeld Sxd LMa7 NXa7 HL6 HX6
    go_wp2_with fail
    have LMa8 := Lib.hid HL7.out.drew
    have NXa8 := Lib.hid HX7.out.drew
    have S0 := LMa8.out.law.t.cells
    refine wp_region_late (S := fun w' => w'.cell? ⟨w.heap.size, 0, none⟩ = some (.bool a.leaf) ∧ w'.cell? ⟨w.heap.size, 1, none⟩ = some (.slice C1 q1 g1) ∧ w'.cell? ⟨w.heap.size, 2, none⟩ = some (.slice C2 q2 g2) ∧ w'.cell? ⟨w.heap.size, 3, none⟩ = some (.slice C3 q3 g3) ∧ w'.cell? ⟨w.heap.size + 1, 0, none⟩ = some (.bool b.leaf) ∧ w'.cell? ⟨w.heap.size + 1, 1, none⟩ = some (.slice E1 r1 k1) ∧ w'.cell? ⟨w.heap.size + 1, 2, none⟩ = some (.slice E2 r2 k2) ∧ w'.cell? ⟨w.heap.size + 1, 3, none⟩ = some (.slice E3 r3 k3)) [8] (by kernel_rfl) S0 (fun hHeld => ?_)
    refine' anyU_take0 (i := 1) (oi := ⟨some 58, .fieldAddr 27 (.tmp 3) 3, _, _, _, none⟩) (v := _) rfl (by kernel_rfl) (fun _ _ _ h => h) (Or.inl ⟨by rfl, ?hy64⟩) (by assumption) ?rest64
    case hy64 => (intro w hSw; go_simp <;> with_reducible rfl)
    case rest64 =>
    go_frame
    refine' anyU_take (i := 2) (oi := ⟨some 59, .load 25 (.tmp 58), _, _, _, none⟩) (v := _) rfl (by kernel_rfl) (fun _ _ _ h => h) (Or.inl ⟨by rfl, ?hy65⟩) (by assumption) ?rest65
    case hy65 => (intro w hSw; obtain ⟨s0, s1, s2, s3, s4, s5, s6, s7⟩ := hSw; go_simp <;> with_reducible rfl)
    case rest65 =>
    go_frame
    refine' anyU_take0 (i := 4) (oi := ⟨some 61, .fieldAddr 27 (.tmp 4) 3, _, _, _, none⟩) (v := _) rfl (by kernel_rfl) (fun _ _ _ h => h) (Or.inl ⟨by rfl, ?hy66⟩) (by assumption) ?rest66
    case hy66 => (intro w hSw; go_simp <;> with_reducible rfl)
    case rest66 =>
    go_frame
    refine' anyU_take (i := 5) (oi := ⟨some 62, .load 25 (.tmp 61), _, _, _, none⟩) (v := _) rfl (by kernel_rfl) (fun _ _ _ h => h) (Or.inl ⟨by rfl, ?hy67⟩) (by assumption) ?rest67
    case hy67 => (intro w hSw; obtain ⟨s0, s1, s2, s3, s4, s5, s6, s7⟩ := hSw; go_simp <;> with_reducible rfl)
    case rest67 =>
    go_frame
    refine anyU_ready (rs := [0]) (by kernel_rfl) (by simp) (AllU.cons (o := ⟨some 57, .buildSlice 25 0 #[], _, _, _, none⟩) rfl (fun K hK => ?_) (fun h => absurd h (by decide)) AllU.nil)
    rw [if_pos (by rfl)]
    obtain ⟨vb, hu⟩ : ∃ u, u = (W7.alloc (.cells #[] 3)).drew := ⟨_, rfl⟩
    have hb : Below W7.drew.heap.size W7.drew vb := by rw [hu]; exact (Below.refl W7.drew.heap.size W7.drew).alloc (Nat.le_refl _) (.cells #[] 3)
    have hmy : Mine vb W7.heap.size 3 (.slice (some ⟨W7.heap.size, 0, none⟩) 0 0) (cellsI ([])) := by rw [hu]; exact Mine.empty W7.drew _ 3 (Nat.le_refl _)
    have LMb := Lib.hid (LMa8.out.kept (hb.mono LMa8.out.le))
    have Myb := Lib.hid hmy
    have Tb := Lib.hid hb
    have Sxb := Lib.hid LMb.out.law.t.cells
    go_simp
    rw [← hu]
    refine hK.out _ _ (fun _ => Sxb.out) ?_
    clear hK K hu hb hmy
    try go_frame
    refine anyU_ready (rs := [3]) (by kernel_rfl) (by simp) (AllU.cons (o := ⟨some 60, .call { callee := .builtin .append, args := #[.tmp 57, .tmp 59], argTypes := #[25, 25] }, _, _, _, none⟩) rfl (fun K hK => ?_) (fun h => absurd h (by decide)) AllU.nil)
    rw [if_pos (by rfl)]
    obtain ⟨Ac, nc, cc, vc, hrun, ho, hb⟩ := Mine.appI Myb.out LMb.out.law.ia.kids (by have := CA.out.d; have := CB.out.d; simp; omega) Tb.out.size
    have Hrun := Lib.hid hrun
    have LMc := Lib.hid (LMb.out.kept (hb.mono LMa8.out.le))
    have Myc := Lib.hid ho
    have Tc := Lib.hid (Tb.out.trans hb)
    have Sxc := Lib.hid LMc.out.law.t.cells
    clear hrun ho hb
    refine wp_run (.slice Ac nc cc) vc (exec_append (t := 25) (x := .tmp 57) (y := .tmp 59) rfl rfl rfl Hrun.out) ?_
    refine hK.out _ _ (fun _ => Sxc.out) ?_
    clear hK K Hrun Sxb
    go_frame
    refine anyU_ready (rs := [6]) (by kernel_rfl) (by simp) (AllU.cons (o := ⟨some 63, .call { callee := .builtin .append, args := #[.tmp 60, .tmp 62], argTypes := #[25, 25] }, _, _, _, none⟩) rfl (fun K hK => ?_) (fun h => absurd h (by decide)) AllU.nil)
    rw [if_pos (by rfl)]
    obtain ⟨Ad, nd, cd, vd, hrun, ho, hb⟩ := Mine.appI Myc.out LMc.out.law.ib.kids (by have := CA.out.d; have := CB.out.d; simp; omega) Tc.out.size
    have Hrun := Lib.hid hrun
    have LMd := Lib.hid (LMc.out.kept (hb.mono LMa8.out.le))
    have Myd := Lib.hid ho
    have Td := Lib.hid (Tc.out.trans hb)
    have Sxd := Lib.hid LMd.out.law.t.cells
    clear hrun ho hb
    refine wp_run (.slice Ad nd cd) vd (exec_append (t := 25) (x := .tmp 60) (y := .tmp 62) rfl rfl rfl Hrun.out) ?_
    refine hK.out _ _ (fun _ => Sxd.out) ?_
    clear hK K Hrun Sxc
    go_frame
    refine' anyU_take0 (i := 7) (oi := ⟨some 64, .fieldAddr 27 (.tmp 9) 3, _, _, _, none⟩) (v := _) rfl (by kernel_rfl) (fun _ _ _ h => h) (Or.inl ⟨by rfl, ?hy68⟩) (by assumption) ?rest68
    case hy68 => (intro w hSw; go_simp <;> with_reducible rfl)
    case rest68 =>
    go_frame
    refine anyU_ready (rs := [8]) (by kernel_rfl) (by simp) (AllU.cons (o := ⟨none, .store 25 (.tmp 64) (.tmp 63), _, _, _, none⟩) rfl (fun K hK => ?_) (fun _ => by kernel_rfl) AllU.nil)
    rw [if_pos (by rfl)]
    have hnx := NXa8.out.kept Td.out
    obtain ⟨y0, y1, y2, y3, f0, f1, f2, f3⟩ := out_cells hnx.top
    have NXd := Lib.hid hnx
    clear hnx
    go_simp
    refine hK.out _ _ (fun h => absurd h (by decide)) ?_
    clear hK K
    try go_frame
    refine anyU_done (by kernel_rfl) ?_ _
    have HL8 := Lib.hid (LMd.out.set (v := .slice Ad nd cd) NXd.out.lo 3)
    have HX8 := Lib.hid (NXd.out.putD Myd.out NXa8.out.lt)
    obtain ⟨W8, hW⟩ : ∃ X, X = vd.setCell ⟨q, 3, none⟩ (.slice Ad nd cd) := ⟨_, rfl⟩
    rw [← hW] at HL8 HX8 ⊢
    clear hW y0 y1 y2 y3 f0 f1 f2 f3 NXd LMb LMc LMd Myb Myc Myd Tb Tc Td S0 hHeld Sxd LMa8 NXa8 HL7 HX7
    simp only [List.nil_append] at HX8
    have hj : joinsB a key b = (sndB a && sndB b && (true == b.leaf) && sndB (⟨true, a.keys ++ b.keys, a.vals ++ b.vals, a.kids ++ b.kids⟩ : Nd)) ∧ (joinsB a key b = true → a.joined key b = (⟨true, a.keys ++ b.keys, a.vals ++ b.vals, a.kids ++ b.kids⟩ : Nd)) := by have := joins_law (a := a) (b := b) (key := key); rw [hal] at this; simpa using this
    rw [hal] at HX8
    have hkx := keys_small (lawKeys CA.out CB.out HKl.out).1
    have hxs : (⟨true, a.keys ++ b.keys, a.vals ++ b.vals, a.kids ++ b.kids⟩ : Nd).Short 1000000 := ⟨by have := hshort.out; simp; omega, by have := CA.out.v; have := CB.out.v; simp; omega, by have := CA.out.d; have := CB.out.d; simp; omega⟩
    have HKX := Lib.hid hkx
    have HXS := Lib.hid hxs
    have HJ := Lib.hid hj
    have HAL := Lib.hid hal
    clear hkx hxs hj hal
    cases hbl : b.leaf
    · have HBL := Lib.hid hbl
      clear hbl
      have hjb : joinsB a key b = false := by rw [HJ.out.1, HBL.out]; simp
      rw [hjb]
      have hmg : a.merged key b = ⟨false, [], [], []⟩ := by unfold Nd.merged; rw [hjb]; rfl
      rw [hmg] at HL8
      have HJB := Lib.hid hjb
      clear hmg hjb
      cases ka : sndB a
      · have HKa := Lib.hid ka
        clear ka
        obtain ⟨x0, x1, x2, x3, x4, x5, x6, x7⟩ := HL8.out.law.t.cells
        rw [HAL.out] at x0
        rw [HBL.out] at x4
        obtain ⟨v0, v1, v2, v3⟩ := HX8.out.box
        obtain ⟨u0, u1, u2, u3⟩ := box_of_top HL8.out.tp
        dsimp only at u0
        have hc := rsound_any HL8.out.law.ia HL8.out.le CA.out.short CA.out.small.1
        rw [HAL.out, HKa.out] at hc
        go_wp2_with fail
        refine hc.mono ?_
        rintro e w9 ⟨rfl, hb⟩
        have HL9 := Lib.hid (HL8.out.kept (hb.mono HL8.out.le))
        have HX9 := Lib.hid (HX8.out.kept hb)
        clear x0 x1 x2 x3 x4 x5 x6 x7 v0 v1 v2 v3 u0 u1 u2 u3 hc hb
        obtain ⟨x0, x1, x2, x3, x4, x5, x6, x7⟩ := HL9.out.law.t.cells
        rw [HAL.out] at x0
        rw [HBL.out] at x4
        obtain ⟨v0, v1, v2, v3⟩ := HX9.out.box
        obtain ⟨u0, u1, u2, u3⟩ := box_of_top HL9.out.tp
        dsimp only at u0
        have hc := same7_yes HL9.out.ri (NdNew.mk (w := w9) (base := 0) (OwnT.nil _ _ _) (OwnT.nil _ _ _) (Mine.nil _ _ _)).is HL9.out.le (Nat.le_refl _) ⟨Nat.zero_le _, Nat.zero_le _, Nat.zero_le _⟩
        dsimp only at hc
        go_wp2_with fail
        refine hc.mono ?_
        rintro e w10 ⟨rfl, hb⟩
        have HL10 := Lib.hid (HL9.out.kept (hb.mono HL9.out.le))
        clear x0 x1 x2 x3 x4 x5 x6 x7 v0 v1 v2 v3 u0 u1 u2 u3 hc hb
        go_wp2_with fail
        refine (lives07_any _).mono ?_
        rintro e w11 ⟨rfl, hb⟩
        have HB := Lib.hid (up HL10.out.law.t.below hb)
        clear hb
        go_wp2_with fail
        go_ret
        exact ⟨rfl, HB.out⟩
      · have HKa := Lib.hid ka
        clear ka
        obtain ⟨x0, x1, x2, x3, x4, x5, x6, x7⟩ := HL8.out.law.t.cells
        rw [HAL.out] at x0
        rw [HBL.out] at x4
        obtain ⟨v0, v1, v2, v3⟩ := HX8.out.box
        obtain ⟨u0, u1, u2, u3⟩ := box_of_top HL8.out.tp
        dsimp only at u0
        have hc := rsound_any HL8.out.law.ia HL8.out.le CA.out.short CA.out.small.1
        rw [HAL.out, HKa.out] at hc
        go_wp2_with fail
        refine hc.mono ?_
        rintro e w9 ⟨rfl, hb⟩
        have HL9 := Lib.hid (HL8.out.kept (hb.mono HL8.out.le))
        have HX9 := Lib.hid (HX8.out.kept hb)
        clear x0 x1 x2 x3 x4 x5 x6 x7 v0 v1 v2 v3 u0 u1 u2 u3 hc hb
        cases kb : sndB b
        · have HKb := Lib.hid kb
          clear kb
          obtain ⟨x0, x1, x2, x3, x4, x5, x6, x7⟩ := HL9.out.law.t.cells
          rw [HAL.out] at x0
          rw [HBL.out] at x4
          obtain ⟨v0, v1, v2, v3⟩ := HX9.out.box
          obtain ⟨u0, u1, u2, u3⟩ := box_of_top HL9.out.tp
          dsimp only at u0
          have hc := rsound_any HL9.out.law.ib HL9.out.le CB.out.short CB.out.small.1
          rw [HBL.out, HKb.out] at hc
          go_wp2_with fail
          refine hc.mono ?_
          rintro e w10 ⟨rfl, hb⟩
          have HL10 := Lib.hid (HL9.out.kept (hb.mono HL9.out.le))
          have HX10 := Lib.hid (HX9.out.kept hb)
          clear x0 x1 x2 x3 x4 x5 x6 x7 v0 v1 v2 v3 u0 u1 u2 u3 hc hb
          obtain ⟨x0, x1, x2, x3, x4, x5, x6, x7⟩ := HL10.out.law.t.cells
          rw [HAL.out] at x0
          rw [HBL.out] at x4
          obtain ⟨v0, v1, v2, v3⟩ := HX10.out.box
          obtain ⟨u0, u1, u2, u3⟩ := box_of_top HL10.out.tp
          dsimp only at u0
          have hc := same7_yes HL10.out.ri (NdNew.mk (w := w10) (base := 0) (OwnT.nil _ _ _) (OwnT.nil _ _ _) (Mine.nil _ _ _)).is HL10.out.le (Nat.le_refl _) ⟨Nat.zero_le _, Nat.zero_le _, Nat.zero_le _⟩
          dsimp only at hc
          go_wp2_with fail
          refine hc.mono ?_
          rintro e w11 ⟨rfl, hb⟩
          have HL11 := Lib.hid (HL10.out.kept (hb.mono HL10.out.le))
          clear x0 x1 x2 x3 x4 x5 x6 x7 v0 v1 v2 v3 u0 u1 u2 u3 hc hb
          go_wp2_with fail
          refine (lives07_any _).mono ?_
          rintro e w12 ⟨rfl, hb⟩
          have HB := Lib.hid (up HL11.out.law.t.below hb)
          clear hb
          go_wp2_with fail
          go_ret
          exact ⟨rfl, HB.out⟩
        · have HKb := Lib.hid kb
          clear kb
          obtain ⟨x0, x1, x2, x3, x4, x5, x6, x7⟩ := HL9.out.law.t.cells
          rw [HAL.out] at x0
          rw [HBL.out] at x4
          obtain ⟨v0, v1, v2, v3⟩ := HX9.out.box
          obtain ⟨u0, u1, u2, u3⟩ := box_of_top HL9.out.tp
          dsimp only at u0
          have hc := rsound_any HL9.out.law.ib HL9.out.le CB.out.short CB.out.small.1
          rw [HBL.out, HKb.out] at hc
          go_wp2_with fail
          refine hc.mono ?_
          rintro e w10 ⟨rfl, hb⟩
          have HL10 := Lib.hid (HL9.out.kept (hb.mono HL9.out.le))
          have HX10 := Lib.hid (HX9.out.kept hb)
          clear x0 x1 x2 x3 x4 x5 x6 x7 v0 v1 v2 v3 u0 u1 u2 u3 hc hb
          obtain ⟨x0, x1, x2, x3, x4, x5, x6, x7⟩ := HL10.out.law.t.cells
          rw [HAL.out] at x0
          rw [HBL.out] at x4
          obtain ⟨v0, v1, v2, v3⟩ := HX10.out.box
          obtain ⟨u0, u1, u2, u3⟩ := box_of_top HL10.out.tp
          dsimp only at u0
          have hc := same7_yes HL10.out.ri (NdNew.mk (w := w10) (base := 0) (OwnT.nil _ _ _) (OwnT.nil _ _ _) (Mine.nil _ _ _)).is HL10.out.le (Nat.le_refl _) ⟨Nat.zero_le _, Nat.zero_le _, Nat.zero_le _⟩
          dsimp only at hc
          go_wp2_with fail
          refine hc.mono ?_
          rintro e w11 ⟨rfl, hb⟩
          have HL11 := Lib.hid (HL10.out.kept (hb.mono HL10.out.le))
          clear x0 x1 x2 x3 x4 x5 x6 x7 v0 v1 v2 v3 u0 u1 u2 u3 hc hb
          go_wp2_with fail
          refine (lives07_any _).mono ?_
          rintro e w12 ⟨rfl, hb⟩
          have HB := Lib.hid (up HL11.out.law.t.below hb)
          clear hb
          go_wp2_with fail
          go_ret
          exact ⟨rfl, HB.out⟩
    · have HBL := Lib.hid hbl
      clear hbl
      cases hjb : joinsB a key b
      · have hmg : a.merged key b = ⟨false, [], [], []⟩ := by unfold Nd.merged; rw [hjb]; rfl
        rw [hmg] at HL8
        have HJB := Lib.hid hjb
        clear hmg hjb
        cases ka : sndB a
        · have HKa := Lib.hid ka
          clear ka
          obtain ⟨x0, x1, x2, x3, x4, x5, x6, x7⟩ := HL8.out.law.t.cells
          rw [HAL.out] at x0
          rw [HBL.out] at x4
          obtain ⟨v0, v1, v2, v3⟩ := HX8.out.box
          obtain ⟨u0, u1, u2, u3⟩ := box_of_top HL8.out.tp
          dsimp only at u0
          have hc := rsound_any HL8.out.law.ia HL8.out.le CA.out.short CA.out.small.1
          rw [HAL.out, HKa.out] at hc
          go_wp2_with fail
          refine hc.mono ?_
          rintro e w9 ⟨rfl, hb⟩
          have HL9 := Lib.hid (HL8.out.kept (hb.mono HL8.out.le))
          have HX9 := Lib.hid (HX8.out.kept hb)
          clear x0 x1 x2 x3 x4 x5 x6 x7 v0 v1 v2 v3 u0 u1 u2 u3 hc hb
          obtain ⟨x0, x1, x2, x3, x4, x5, x6, x7⟩ := HL9.out.law.t.cells
          rw [HAL.out] at x0
          rw [HBL.out] at x4
          obtain ⟨v0, v1, v2, v3⟩ := HX9.out.box
          obtain ⟨u0, u1, u2, u3⟩ := box_of_top HL9.out.tp
          dsimp only at u0
          have hc := same7_yes HL9.out.ri (NdNew.mk (w := w9) (base := 0) (OwnT.nil _ _ _) (OwnT.nil _ _ _) (Mine.nil _ _ _)).is HL9.out.le (Nat.le_refl _) ⟨Nat.zero_le _, Nat.zero_le _, Nat.zero_le _⟩
          dsimp only at hc
          go_wp2_with fail
          refine hc.mono ?_
          rintro e w10 ⟨rfl, hb⟩
          have HL10 := Lib.hid (HL9.out.kept (hb.mono HL9.out.le))
          clear x0 x1 x2 x3 x4 x5 x6 x7 v0 v1 v2 v3 u0 u1 u2 u3 hc hb
          go_wp2_with fail
          refine (lives07_any _).mono ?_
          rintro e w11 ⟨rfl, hb⟩
          have HB := Lib.hid (up HL10.out.law.t.below hb)
          clear hb
          go_wp2_with fail
          go_ret
          exact ⟨rfl, HB.out⟩
        · have HKa := Lib.hid ka
          clear ka
          obtain ⟨x0, x1, x2, x3, x4, x5, x6, x7⟩ := HL8.out.law.t.cells
          rw [HAL.out] at x0
          rw [HBL.out] at x4
          obtain ⟨v0, v1, v2, v3⟩ := HX8.out.box
          obtain ⟨u0, u1, u2, u3⟩ := box_of_top HL8.out.tp
          dsimp only at u0
          have hc := rsound_any HL8.out.law.ia HL8.out.le CA.out.short CA.out.small.1
          rw [HAL.out, HKa.out] at hc
          go_wp2_with fail
          refine hc.mono ?_
          rintro e w9 ⟨rfl, hb⟩
          have HL9 := Lib.hid (HL8.out.kept (hb.mono HL8.out.le))
          have HX9 := Lib.hid (HX8.out.kept hb)
          clear x0 x1 x2 x3 x4 x5 x6 x7 v0 v1 v2 v3 u0 u1 u2 u3 hc hb
          cases kb : sndB b
          · have HKb := Lib.hid kb
            clear kb
            obtain ⟨x0, x1, x2, x3, x4, x5, x6, x7⟩ := HL9.out.law.t.cells
            rw [HAL.out] at x0
            rw [HBL.out] at x4
            obtain ⟨v0, v1, v2, v3⟩ := HX9.out.box
            obtain ⟨u0, u1, u2, u3⟩ := box_of_top HL9.out.tp
            dsimp only at u0
            have hc := rsound_any HL9.out.law.ib HL9.out.le CB.out.short CB.out.small.1
            rw [HBL.out, HKb.out] at hc
            go_wp2_with fail
            refine hc.mono ?_
            rintro e w10 ⟨rfl, hb⟩
            have HL10 := Lib.hid (HL9.out.kept (hb.mono HL9.out.le))
            have HX10 := Lib.hid (HX9.out.kept hb)
            clear x0 x1 x2 x3 x4 x5 x6 x7 v0 v1 v2 v3 u0 u1 u2 u3 hc hb
            obtain ⟨x0, x1, x2, x3, x4, x5, x6, x7⟩ := HL10.out.law.t.cells
            rw [HAL.out] at x0
            rw [HBL.out] at x4
            obtain ⟨v0, v1, v2, v3⟩ := HX10.out.box
            obtain ⟨u0, u1, u2, u3⟩ := box_of_top HL10.out.tp
            dsimp only at u0
            have hc := same7_yes HL10.out.ri (NdNew.mk (w := w10) (base := 0) (OwnT.nil _ _ _) (OwnT.nil _ _ _) (Mine.nil _ _ _)).is HL10.out.le (Nat.le_refl _) ⟨Nat.zero_le _, Nat.zero_le _, Nat.zero_le _⟩
            dsimp only at hc
            go_wp2_with fail
            refine hc.mono ?_
            rintro e w11 ⟨rfl, hb⟩
            have HL11 := Lib.hid (HL10.out.kept (hb.mono HL10.out.le))
            clear x0 x1 x2 x3 x4 x5 x6 x7 v0 v1 v2 v3 u0 u1 u2 u3 hc hb
            go_wp2_with fail
            refine (lives07_any _).mono ?_
            rintro e w12 ⟨rfl, hb⟩
            have HB := Lib.hid (up HL11.out.law.t.below hb)
            clear hb
            go_wp2_with fail
            go_ret
            exact ⟨rfl, HB.out⟩
          · have HKb := Lib.hid kb
            clear kb
            obtain ⟨x0, x1, x2, x3, x4, x5, x6, x7⟩ := HL9.out.law.t.cells
            rw [HAL.out] at x0
            rw [HBL.out] at x4
            obtain ⟨v0, v1, v2, v3⟩ := HX9.out.box
            obtain ⟨u0, u1, u2, u3⟩ := box_of_top HL9.out.tp
            dsimp only at u0
            have hc := rsound_any HL9.out.law.ib HL9.out.le CB.out.short CB.out.small.1
            rw [HBL.out, HKb.out] at hc
            go_wp2_with fail
            refine hc.mono ?_
            rintro e w10 ⟨rfl, hb⟩
            have HL10 := Lib.hid (HL9.out.kept (hb.mono HL9.out.le))
            have HX10 := Lib.hid (HX9.out.kept hb)
            clear x0 x1 x2 x3 x4 x5 x6 x7 v0 v1 v2 v3 u0 u1 u2 u3 hc hb
            have HKx := Lib.hid (show sndB (⟨true, a.keys ++ b.keys, a.vals ++ b.vals, a.kids ++ b.kids⟩ : Nd) = false by have h := HJ.out.1; rw [HJB.out, HKa.out, HKb.out, HBL.out] at h; simpa using h.symm)
            obtain ⟨x0, x1, x2, x3, x4, x5, x6, x7⟩ := HL10.out.law.t.cells
            rw [HAL.out] at x0
            rw [HBL.out] at x4
            obtain ⟨v0, v1, v2, v3⟩ := HX10.out.box
            obtain ⟨u0, u1, u2, u3⟩ := box_of_top HL10.out.tp
            dsimp only at u0
            have hc := rsound_any HX10.out.is (Nat.le_refl _) HXS.out HKX.out
            rw [HKx.out] at hc
            go_wp2_with fail
            refine hc.mono ?_
            rintro e w11 ⟨rfl, hb⟩
            have HL11 := Lib.hid (HL10.out.kept (hb.mono HL10.out.le))
            have HX11 := Lib.hid (HX10.out.kept hb)
            clear x0 x1 x2 x3 x4 x5 x6 x7 v0 v1 v2 v3 u0 u1 u2 u3 hc hb
            obtain ⟨x0, x1, x2, x3, x4, x5, x6, x7⟩ := HL11.out.law.t.cells
            rw [HAL.out] at x0
            rw [HBL.out] at x4
            obtain ⟨v0, v1, v2, v3⟩ := HX11.out.box
            obtain ⟨u0, u1, u2, u3⟩ := box_of_top HL11.out.tp
            dsimp only at u0
            have hc := same7_yes HL11.out.ri (NdNew.mk (w := w11) (base := 0) (OwnT.nil _ _ _) (OwnT.nil _ _ _) (Mine.nil _ _ _)).is HL11.out.le (Nat.le_refl _) ⟨Nat.zero_le _, Nat.zero_le _, Nat.zero_le _⟩
            dsimp only at hc
            go_wp2_with fail
            refine hc.mono ?_
            rintro e w12 ⟨rfl, hb⟩
            have HL12 := Lib.hid (HL11.out.kept (hb.mono HL11.out.le))
            clear x0 x1 x2 x3 x4 x5 x6 x7 v0 v1 v2 v3 u0 u1 u2 u3 hc hb
            go_wp2_with fail
            refine (lives07_any _).mono ?_
            rintro e w13 ⟨rfl, hb⟩
            have HB := Lib.hid (up HL12.out.law.t.below hb)
            clear hb
            go_wp2_with fail
            go_ret
            exact ⟨rfl, HB.out⟩
      · have hmg : a.merged key b = (⟨true, a.keys ++ b.keys, a.vals ++ b.vals, a.kids ++ b.kids⟩ : Nd) := by unfold Nd.merged; rw [if_pos hjb]; exact HJ.out.2 hjb
        rw [hmg] at HL8
        have h4 := HJ.out.1
        rw [hjb] at h4
        replace h4 := h4.symm
        simp only [Bool.and_eq_true] at h4
        obtain ⟨⟨⟨ka, kb⟩, -⟩, kx⟩ := h4
        have HKa := Lib.hid ka
        have HKb := Lib.hid kb
        have HKx := Lib.hid kx
        clear ka kb kx hmg hjb
        obtain ⟨x0, x1, x2, x3, x4, x5, x6, x7⟩ := HL8.out.law.t.cells
        rw [HAL.out] at x0
        rw [HBL.out] at x4
        obtain ⟨v0, v1, v2, v3⟩ := HX8.out.box
        obtain ⟨u0, u1, u2, u3⟩ := box_of_top HL8.out.tp
        dsimp only at u0
        have hc := rsound_any HL8.out.law.ia HL8.out.le CA.out.short CA.out.small.1
        rw [HAL.out, HKa.out] at hc
        go_wp2_with fail
        refine hc.mono ?_
        rintro e w9 ⟨rfl, hb⟩
        have HL9 := Lib.hid (HL8.out.kept (hb.mono HL8.out.le))
        have HX9 := Lib.hid (HX8.out.kept hb)
        clear x0 x1 x2 x3 x4 x5 x6 x7 v0 v1 v2 v3 u0 u1 u2 u3 hc hb
        obtain ⟨x0, x1, x2, x3, x4, x5, x6, x7⟩ := HL9.out.law.t.cells
        rw [HAL.out] at x0
        rw [HBL.out] at x4
        obtain ⟨v0, v1, v2, v3⟩ := HX9.out.box
        obtain ⟨u0, u1, u2, u3⟩ := box_of_top HL9.out.tp
        dsimp only at u0
        have hc := rsound_any HL9.out.law.ib HL9.out.le CB.out.short CB.out.small.1
        rw [HBL.out, HKb.out] at hc
        go_wp2_with fail
        refine hc.mono ?_
        rintro e w10 ⟨rfl, hb⟩
        have HL10 := Lib.hid (HL9.out.kept (hb.mono HL9.out.le))
        have HX10 := Lib.hid (HX9.out.kept hb)
        clear x0 x1 x2 x3 x4 x5 x6 x7 v0 v1 v2 v3 u0 u1 u2 u3 hc hb
        obtain ⟨x0, x1, x2, x3, x4, x5, x6, x7⟩ := HL10.out.law.t.cells
        rw [HAL.out] at x0
        rw [HBL.out] at x4
        obtain ⟨v0, v1, v2, v3⟩ := HX10.out.box
        obtain ⟨u0, u1, u2, u3⟩ := box_of_top HL10.out.tp
        dsimp only at u0
        have hc := rsound_any HX10.out.is (Nat.le_refl _) HXS.out HKX.out
        rw [HKx.out] at hc
        go_wp2_with fail
        refine hc.mono ?_
        rintro e w11 ⟨rfl, hb⟩
        have HL11 := Lib.hid (HL10.out.kept (hb.mono HL10.out.le))
        have HX11 := Lib.hid (HX10.out.kept hb)
        clear x0 x1 x2 x3 x4 x5 x6 x7 v0 v1 v2 v3 u0 u1 u2 u3 hc hb
        obtain ⟨x0, x1, x2, x3, x4, x5, x6, x7⟩ := HL11.out.law.t.cells
        rw [HAL.out] at x0
        rw [HBL.out] at x4
        obtain ⟨v0, v1, v2, v3⟩ := HX11.out.box
        obtain ⟨u0, u1, u2, u3⟩ := box_of_top HL11.out.tp
        dsimp only at u0
        have hc := same7_yes HL11.out.ri HX11.out.is HL11.out.le (Nat.le_refl _) HXS.out
        dsimp only at hc
        go_wp2_with fail
        refine hc.mono ?_
        rintro e w12 ⟨rfl, hb⟩
        have HL12 := Lib.hid (HL11.out.kept (hb.mono HL11.out.le))
        clear x0 x1 x2 x3 x4 x5 x6 x7 v0 v1 v2 v3 u0 u1 u2 u3 hc hb
        go_wp2_with fail
        refine (lives07_any _).mono ?_
        rintro e w13 ⟨rfl, hb⟩
        have HB := Lib.hid (up HL12.out.law.t.below hb)
        clear hb
        go_wp2_with fail
        go_ret
        exact ⟨rfl, HB.out⟩
end Go.Proofs.Ytceefoopehoalaa
