/-
  read of package node of what is no leaf, by contract.
-/
import Derived.Test.YtceefoopehoalaaNdS
namespace Go.Proofs.Ytceefoopehoalaa
open Go.RowKit
set_option maxRecDepth 100000 in
set_option maxHeartbeats 1600000 in
theorem read_not (A : Option Addr) (c : Nat) (b : List UInt8) (w : World) (hr : Rd w w.heap.size (.slice A b.length c) (cellsB b)) (hl : b.length ≤ 100000000) :
    Calls Try.prog 28 #[.bool false, .slice A b.length c] w fun e w' => ∃ K V D, e = .returned (ndVal false K V D) ∧ NdNew w' w.heap.size K V D (rdAt false b (getN b 0 1)).1 ∧ Below w.heap.size w w' := by
  have hnum := fun (w1 : World) (h : RdW w w1 false (.slice A b.length c) 0 (.slice none 0 0) (.slice none 0 0) (.slice none 0 0) (.slice none 0 0) (.slice none 0 0) (.slice none 0 0) [] [] []) => h.number (s := 1) hr (by omega) (by omega) (by omega)
  have htext := fun (w1 : World) (at_ : Nat) (tK tV tD : Value) (ks vs : List (List UInt8)) (ds : List Int) (h : RdW w w1 false (.slice A b.length c) at_ tK tV tD tK tV tD ks vs ds) (ha : at_ ≤ 900000) => h.text hr hl ha
  have hstart := RdW.start (w0 := w) (lf := false) (bv := .slice A b.length c)
  have hnum2 := fun (w1 : World) (at_ : Nat) (tK tV tD : Value) (ks vs : List (List UInt8)) (ds : List Int) (h : RdW w w1 false (.slice A b.length c) at_ tK tV tD tK tV tD ks vs ds) (ha : at_ ≤ 900000) => h.number (s := 2) hr (by omega) (by omega) ha
  have hlen := rdAt_len false b
  have hcnt := getN_byte b 0
  obtain ⟨nb, hbv⟩ : ∃ nb, nb = b.length := ⟨_, rfl⟩
  rw [← hbv] at hnum hnum2 htext hstart ⊢
  obtain ⟨n, hn⟩ : ∃ n, n = getN b 0 1 := ⟨_, rfl⟩
  rw [← hn] at hnum hcnt ⊢
  have HN0 := Lib.hid (hnum _ hstart)
  have HT := Lib.hid htext
  have HN2 := Lib.hid hnum2
  have HL := Lib.hid hlen
  have HB := Lib.hid hbv
  clear hnum hnum2 htext hstart hlen hr hl hn hbv
  go_enter Try.func28, Try.ntmps28
  go_wp2_with fail
  refine HN0.out.mono ?_
  rintro e w1 ⟨rfl, h1⟩
  have hnk := HN2.out w1.drew _ _ _ _ _ _ _ h1.drew (by omega)
  obtain ⟨xk, hxk⟩ : ∃ x, x = getN b (0 + 1) 2 := ⟨_, rfl⟩
  have hini : rdAt false b 0 = (⟨false, [], [], [(getN b 1 2 : Int)]⟩, 3) := by simp [rdAt]
  rw [← hxk] at hnk
  rw [show getN b 1 2 = getN b (0 + 1) 2 from rfl, ← hxk] at hini
  have HIni := Lib.hid hini
  have HNk := Lib.hid hnk
  have HWk := Lib.hid h1
  have HShk := Lib.hid (show ([] : List Int).length ≤ 1000 by simp)
  clear h1 hnk hini hxk
  go_wp2_with fail
  have S0 : w1.cell? ⟨w.heap.size + 1, 3, none⟩ = some (.slice none 0 0) := HWk.out.nm.c3
  refine wp_region_late (S := fun w' => w'.cell? ⟨w.heap.size + 1, 3, none⟩ = some (.slice none 0 0)) [6] (by kernel_rfl) S0 (fun hHeld => ?_)
  refine' anyU_take0 (i := 0) (oi := ⟨some 15, .fieldAddr 27 (.tmp 5) 3, _, _, _, none⟩) (v := _) rfl (by kernel_rfl) (fun _ _ _ h => h) (Or.inl ⟨by rfl, ?hy7⟩) (by assumption) ?rest7
  case hy7 => (intro w hSw; go_simp <;> with_reducible rfl)
  case rest7 =>
  go_frame
  refine' anyU_take (i := 1) (oi := ⟨some 16, .load 25 (.tmp 15), _, _, _, none⟩) (v := _) rfl (by kernel_rfl) (fun _ _ _ h => h) (Or.inl ⟨by rfl, ?hy8⟩) (by assumption) ?rest8
  case hy8 => (intro w hSw; obtain s1 := hSw; go_simp <;> with_reducible rfl)
  case rest8 =>
  go_frame
  refine anyU_ready (rs := [2]) (by kernel_rfl) (by simp) (AllU.cons (o := ⟨some 17, .call { callee := .value (.func 49), args := #[.tmp 6, .const (.int .i64 2)], argTypes := #[74, 3] }, _, _, _, none⟩) rfl (fun K hK => ?_) (fun h => absurd h (by decide)) AllU.nil)
  rw [if_pos (by rfl)]
  go_simp
  refine (HNk.out).mono ?_
  rintro e wa ⟨rfl, ha⟩
  obtain ⟨Ank, nnk, cnk, wb, hrb, hb⟩ := ha.kidded (xk : Int) (by have := HShk.out; omega)
  have Sa := Lib.hid (ha.nm.c3)
  have Sb := Lib.hid ((ha.lit (.cells #[.int .i64 (xk : Int)] 3)).nm.c3)
  have Sc := Lib.hid hb.nm.c3
  have Hrb := Lib.hid hrb
  have Hb := Lib.hid hb
  clear ha hrb hb
  dsimp only
  refine hK.out _ _ (fun _ => Sa.out) ?_
  clear hK K
  try go_frame
  refine anyU_ready (rs := [3]) (by kernel_rfl) (by simp) (AllU.cons (o := ⟨some 18, .buildSlice 25 1 #[(0, .tmp 17)], _, _, _, none⟩) rfl (fun K hK => ?_) (fun h => absurd h (by decide)) AllU.nil)
  rw [if_pos (by rfl)]
  go_simp
  refine hK.out _ _ (fun _ => Sb.out) ?_
  clear hK K
  try go_frame
  refine anyU_ready (rs := [4]) (by kernel_rfl) (by simp) (AllU.cons (o := ⟨some 19, .call { callee := .builtin .append, args := #[.tmp 16, .tmp 18], argTypes := #[25, 25] }, _, _, _, none⟩) rfl (fun K hK => ?_) (fun h => absurd h (by decide)) AllU.nil)
  rw [if_pos (by rfl)]
  refine wp_run (.slice Ank nnk cnk) wb (exec_append (t := 25) (x := .tmp 16) (y := .tmp 18) rfl rfl rfl Hrb.out) ?_
  refine hK.out _ _ (fun _ => Sc.out) ?_
  clear hK K
  go_frame
  have fzb := Hb.out.nm.fz 3
  have cb := Sc.out
  refine' anyU_take0 (i := 5) (oi := ⟨some 20, .fieldAddr 27 (.tmp 5) 3, _, _, _, none⟩) (v := _) rfl (by kernel_rfl) (fun _ _ _ h => h) (Or.inl ⟨by rfl, ?hy9⟩) (by assumption) ?rest9
  case hy9 => (intro w hSw; go_simp <;> with_reducible rfl)
  case rest9 =>
  go_frame
  refine anyU_ready (rs := [6]) (by kernel_rfl) (by simp) (AllU.cons (o := ⟨none, .store 25 (.tmp 20) (.tmp 19), _, _, _, none⟩) rfl (fun K hK => ?_) (fun _ => by kernel_rfl) AllU.nil)
  rw [if_pos (by rfl)]
  go_simp
  refine hK.out _ _ (fun h => absurd h (by decide)) ?_
  clear hK K
  try go_frame
  refine anyU_done (by kernel_rfl) ?_ _
  go_wp2_with fail
  have hw0 := Hb.out.setD
  obtain ⟨w9, hw9⟩ : ∃ wv, wv = wb.setCell ⟨w.heap.size + 1, 3, none⟩ (.slice Ank nnk cnk) := ⟨_, rfl⟩
  rw [← hw9] at hw0 ⊢
  have H1 : Hid (RdW w w9 false (.slice A nb c) (rdAt false b 0).2 (.slice none 0 0) (.slice none 0 0) (.slice Ank nnk cnk) (.slice none 0 0) (.slice none 0 0) (.slice Ank nnk cnk) (rdAt false b 0).1.keys (rdAt false b 0).1.vals (rdAt false b 0).1.kids) := Lib.hid (by rw [HIni.out]; exact hw0)
  clear hw0 hw9 Hb Sa Sb Sc Hrb fzb cb S0
  go_loopw [22] (fun iv wr => ∃ (k : Nat) (tK tV tD : Value), k ≤ n ∧ iv = .int .i64 (k : Int) ∧ Hid (RdW w wr false (.slice A nb c) (rdAt false b k).2 tK tV tD tK tV tD (rdAt false b k).1.keys (rdAt false b k).1.vals (rdAt false b k).1.kids)) (fun iv _ => n - (intOf iv).toNat)
  case atStart => exact ⟨0, _, _, _, Nat.zero_le _, rfl, H1⟩
  case round =>
    obtain ⟨k, tK, tV, tD, hkn, rfl, HI⟩ := hrel
    by_cases hk : k < n
    · have hl1 := HL.out k
      obtain ⟨at_, hat⟩ : ∃ a, a = (rdAt false b k).2 := ⟨_, rfl⟩
      obtain ⟨ks, hks⟩ : ∃ a, a = (rdAt false b k).1.keys := ⟨_, rfl⟩
      obtain ⟨vs, hvs⟩ : ∃ a, a = (rdAt false b k).1.vals := ⟨_, rfl⟩
      obtain ⟨ds, hds⟩ : ∃ a, a = (rdAt false b k).1.kids := ⟨_, rfl⟩
      have hw := HI.out
      rw [← hat, ← hks, ← hvs, ← hds] at hw hl1
      have hm1 := getN_byte b at_
      have hstep : rdAt false b (k + 1) = (⟨false, ks ++ [cutT b (at_ + 1) (getN b at_ 1)], vs, ds ++ [(getN b (at_ + 1 + getN b at_ 1) 2 : Int)]⟩, at_ + 1 + getN b at_ 1 + 2) := by rw [hks, hvs, hds, hat]; rfl
      have htx := HT.out wr.drew at_ tK tV tD ks vs ds hw.drew (by omega)
      obtain ⟨La, hLa⟩ : ∃ L, L = cutT b (at_ + 1) (getN b at_ 1) := ⟨_, rfl⟩
      rw [← hLa] at htx hstep
      have HWa := Lib.hid hw
      have HNa := Lib.hid htx
      have HStep := Lib.hid hstep
      have HSha := Lib.hid (show ks.length ≤ 1000 by omega)
      have HShb := Lib.hid (show ds.length ≤ 1000 by omega)
      have HAt := Lib.hid (show at_ + 1 + getN b at_ 1 ≤ 900000 by omega)
      clear hl1 hat hks hvs hds hw hm1 hstep htx HI hLa
      go_wp2_with fail
      have S0 : wr.cell? ⟨w.heap.size + 1, 1, none⟩ = some tK := HWa.out.nm.c1
      refine wp_region_late (S := fun w' => w'.cell? ⟨w.heap.size + 1, 1, none⟩ = some tK) [6] (by kernel_rfl) S0 (fun hHeld => ?_)
      refine' anyU_take0 (i := 0) (oi := ⟨some 24, .fieldAddr 27 (.tmp 5) 1, _, _, _, none⟩) (v := _) rfl (by kernel_rfl) (fun _ _ _ h => h) (Or.inl ⟨by rfl, ?hy1⟩) (by assumption) ?rest1
      case hy1 => (intro w hSw; go_simp <;> with_reducible rfl)
      case rest1 =>
      go_frame
      refine' anyU_take (i := 1) (oi := ⟨some 25, .load 24 (.tmp 24), _, _, _, none⟩) (v := _) rfl (by kernel_rfl) (fun _ _ _ h => h) (Or.inl ⟨by rfl, ?hy2⟩) (by assumption) ?rest2
      case hy2 => (intro w hSw; obtain s1 := hSw; go_simp <;> with_reducible rfl)
      case rest2 =>
      go_frame
      refine anyU_ready (rs := [2]) (by kernel_rfl) (by simp) (AllU.cons (o := ⟨some 26, .call { callee := .value (.func 50), args := #[.tmp 6], argTypes := #[74] }, _, _, _, none⟩) rfl (fun K hK => ?_) (fun h => absurd h (by decide)) AllU.nil)
      rw [if_pos (by rfl)]
      go_simp
      refine (HNa.out).mono ?_
      rintro e wa ⟨A1, c1, rfl, hu, ha⟩
      obtain ⟨Ana, nna, cna, wb, hrb, hb⟩ := HWa.out.drew.keyed hu ha (by have := HSha.out; omega)
      have Sa := Lib.hid (ha.nm.c1)
      have Sb := Lib.hid ((ha.lit (.cells #[.slice A1 La.length c1] 22)).nm.c1)
      have Sc := Lib.hid hb.nm.c1
      have Hrb := Lib.hid hrb
      have Hb := Lib.hid hb
      clear ha hrb hb hu
      dsimp only
      refine hK.out _ _ (fun _ => Sa.out) ?_
      clear hK K
      try go_frame
      refine anyU_ready (rs := [3]) (by kernel_rfl) (by simp) (AllU.cons (o := ⟨some 27, .buildSlice 24 1 #[(0, .tmp 26)], _, _, _, none⟩) rfl (fun K hK => ?_) (fun h => absurd h (by decide)) AllU.nil)
      rw [if_pos (by rfl)]
      go_simp
      refine hK.out _ _ (fun _ => Sb.out) ?_
      clear hK K
      try go_frame
      refine anyU_ready (rs := [4]) (by kernel_rfl) (by simp) (AllU.cons (o := ⟨some 28, .call { callee := .builtin .append, args := #[.tmp 25, .tmp 27], argTypes := #[24, 24] }, _, _, _, none⟩) rfl (fun K hK => ?_) (fun h => absurd h (by decide)) AllU.nil)
      rw [if_pos (by rfl)]
      refine wp_run (.slice Ana nna cna) wb (exec_append (t := 24) (x := .tmp 25) (y := .tmp 27) rfl rfl rfl Hrb.out) ?_
      refine hK.out _ _ (fun _ => Sc.out) ?_
      clear hK K
      go_frame
      have fzb := Hb.out.nm.fz 1
      have cb := Sc.out
      refine' anyU_take0 (i := 5) (oi := ⟨some 29, .fieldAddr 27 (.tmp 5) 1, _, _, _, none⟩) (v := _) rfl (by kernel_rfl) (fun _ _ _ h => h) (Or.inl ⟨by rfl, ?hy3⟩) (by assumption) ?rest3
      case hy3 => (intro w hSw; go_simp <;> with_reducible rfl)
      case rest3 =>
      go_frame
      refine anyU_ready (rs := [6]) (by kernel_rfl) (by simp) (AllU.cons (o := ⟨none, .store 24 (.tmp 29) (.tmp 28), _, _, _, none⟩) rfl (fun K hK => ?_) (fun _ => by kernel_rfl) AllU.nil)
      rw [if_pos (by rfl)]
      go_simp
      refine hK.out _ _ (fun h => absurd h (by decide)) ?_
      clear hK K
      try go_frame
      refine anyU_done (by kernel_rfl) ?_ _
      go_wp2_with fail
      have hw2 := Hb.out.setK
      obtain ⟨wv, hwv⟩ : ∃ wv, wv = wb.setCell ⟨w.heap.size + 1, 1, none⟩ (.slice Ana nna cna) := ⟨_, rfl⟩
      rw [← hwv] at hw2 ⊢
      have hnk2 := HN2.out wv.drew _ _ _ _ _ _ _ hw2.drew HAt.out
      have hstep := HStep.out
      obtain ⟨xb, hxb⟩ : ∃ x, x = getN b (at_ + 1 + getN b at_ 1) 2 := ⟨_, rfl⟩
      rw [← hxb] at hnk2 hstep
      have HStep2 := Lib.hid hstep
      have HWb := Lib.hid hw2
      have HNb := Lib.hid hnk2
      clear hw2 hnk2 hwv hstep HStep hxb Hb Sa Sb Sc Hrb fzb cb S0
      have S0 : wv.cell? ⟨w.heap.size + 1, 3, none⟩ = some tD := HWb.out.nm.c3
      refine wp_region_late (S := fun w' => w'.cell? ⟨w.heap.size + 1, 3, none⟩ = some tD) [6] (by kernel_rfl) S0 (fun hHeld => ?_)
      refine' anyU_take0 (i := 0) (oi := ⟨some 37, .fieldAddr 27 (.tmp 5) 3, _, _, _, none⟩) (v := _) rfl (by kernel_rfl) (fun _ _ _ h => h) (Or.inl ⟨by rfl, ?hy10⟩) (by assumption) ?rest10
      case hy10 => (intro w hSw; go_simp <;> with_reducible rfl)
      case rest10 =>
      go_frame
      refine' anyU_take (i := 1) (oi := ⟨some 38, .load 25 (.tmp 37), _, _, _, none⟩) (v := _) rfl (by kernel_rfl) (fun _ _ _ h => h) (Or.inl ⟨by rfl, ?hy11⟩) (by assumption) ?rest11
      case hy11 => (intro w hSw; obtain s1 := hSw; go_simp <;> with_reducible rfl)
      case rest11 =>
      go_frame
      refine anyU_ready (rs := [2]) (by kernel_rfl) (by simp) (AllU.cons (o := ⟨some 39, .call { callee := .value (.func 49), args := #[.tmp 6, .const (.int .i64 2)], argTypes := #[74, 3] }, _, _, _, none⟩) rfl (fun K hK => ?_) (fun h => absurd h (by decide)) AllU.nil)
      rw [if_pos (by rfl)]
      go_simp
      refine (HNb.out).mono ?_
      rintro e wa ⟨rfl, ha⟩
      obtain ⟨Anb, nnb, cnb, wb, hrb, hb⟩ := ha.kidded (xb : Int) (by have := HShb.out; omega)
      have Sa := Lib.hid (ha.nm.c3)
      have Sb := Lib.hid ((ha.lit (.cells #[.int .i64 (xb : Int)] 3)).nm.c3)
      have Sc := Lib.hid hb.nm.c3
      have Hrb := Lib.hid hrb
      have Hb := Lib.hid hb
      clear ha hrb hb
      dsimp only
      refine hK.out _ _ (fun _ => Sa.out) ?_
      clear hK K
      try go_frame
      refine anyU_ready (rs := [3]) (by kernel_rfl) (by simp) (AllU.cons (o := ⟨some 40, .buildSlice 25 1 #[(0, .tmp 39)], _, _, _, none⟩) rfl (fun K hK => ?_) (fun h => absurd h (by decide)) AllU.nil)
      rw [if_pos (by rfl)]
      go_simp
      refine hK.out _ _ (fun _ => Sb.out) ?_
      clear hK K
      try go_frame
      refine anyU_ready (rs := [4]) (by kernel_rfl) (by simp) (AllU.cons (o := ⟨some 41, .call { callee := .builtin .append, args := #[.tmp 38, .tmp 40], argTypes := #[25, 25] }, _, _, _, none⟩) rfl (fun K hK => ?_) (fun h => absurd h (by decide)) AllU.nil)
      rw [if_pos (by rfl)]
      refine wp_run (.slice Anb nnb cnb) wb (exec_append (t := 25) (x := .tmp 38) (y := .tmp 40) rfl rfl rfl Hrb.out) ?_
      refine hK.out _ _ (fun _ => Sc.out) ?_
      clear hK K
      go_frame
      have fzb := Hb.out.nm.fz 3
      have cb := Sc.out
      refine' anyU_take0 (i := 5) (oi := ⟨some 42, .fieldAddr 27 (.tmp 5) 3, _, _, _, none⟩) (v := _) rfl (by kernel_rfl) (fun _ _ _ h => h) (Or.inl ⟨by rfl, ?hy12⟩) (by assumption) ?rest12
      case hy12 => (intro w hSw; go_simp <;> with_reducible rfl)
      case rest12 =>
      go_frame
      refine anyU_ready (rs := [6]) (by kernel_rfl) (by simp) (AllU.cons (o := ⟨none, .store 25 (.tmp 42) (.tmp 41), _, _, _, none⟩) rfl (fun K hK => ?_) (fun _ => by kernel_rfl) AllU.nil)
      rw [if_pos (by rfl)]
      go_simp
      refine hK.out _ _ (fun h => absurd h (by decide)) ?_
      clear hK K
      try go_frame
      refine anyU_done (by kernel_rfl) ?_ _
      go_wp2_with fail
      have hw3 := Hb.out.setD
      go_roundw
      case rel =>
        refine ⟨k + 1, .slice Ana nna cna, tV, .slice Anb nnb cnb, by omega, by go_num, Lib.hid ?_⟩
        rw [HStep2.out]
        exact hw3
      case measure => simp [intOf]; omega
    · have : k = n := by omega
      subst this
      have hw := HI.out
      obtain ⟨A1, n1, c1, A2, n2, c2, A3, n3, c3, rfl, rfl, rfl⟩ := hw.nm.is.slices
      obtain ⟨x0, x1, x2, x3⟩ := hw.nm.box
      obtain ⟨y0, y1, y2, y3, f0, f1, f2, f3⟩ := out_cells hw.out
      obtain ⟨W, hW⟩ : ∃ W, W = store4 wr w.heap.size false (.slice A1 n1 c1) (.slice A2 n2 c2) (.slice A3 n3 c3) := ⟨_, rfl⟩
      have hbx := box_of_top (store4_top (lf := false) (K := .slice A1 n1 c1) (V := .slice A2 n2 c2) (D := .slice A3 n3 c3) hw.out)
      have hfi := (hw.nm.new rfl).store4 (lf := false) (K := .slice A1 n1 c1) (V := .slice A2 n2 c2) (D := .slice A3 n3 c3) (N := w.heap.size) (by omega)
      have hfb := hw.below.trans (store4_below (w := wr) (lf := false) (K := .slice A1 n1 c1) (V := .slice A2 n2 c2) (D := .slice A3 n3 c3) (Nat.le_refl w.heap.size))
      rw [← hW] at hbx hfi hfb
      obtain ⟨q0, q1, q2, q3⟩ := hbx
      have HFi := Lib.hid hfi
      have HFb := Lib.hid hfb
      have HWW := Lib.hid hW
      clear hw HI hfi hfb hW
      go_wp2_with fail
      have hW := HWW.out
      unfold store4 at hW
      rw [← hW]
      refine bodyPost_ret (v := ndVal false (.slice A1 n1 c1) (.slice A2 n2 c2) (.slice A3 n3 c3)) (by simp [results, Try.results28, go_sem, q0, q1, q2, q3]) rfl ⟨_, _, _, rfl, ?_, HFb.out⟩
      have hx := HFi.out
      have e := rdAt_leaf false b k
      obtain ⟨rd, hrd⟩ : ∃ r, r = (rdAt false b k).1 := ⟨_, rfl⟩
      rw [← hrd] at e hx ⊢
      obtain ⟨l1, l2, l3, l4⟩ := rd
      dsimp only at e hx
      subst e
      exact (NdNew.mk hx.keys hx.vals hx.kids).weaken (by omega)
end Go.Proofs.Ytceefoopehoalaa
