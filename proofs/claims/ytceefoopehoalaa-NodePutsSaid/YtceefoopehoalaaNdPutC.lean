/-
  Put and Delete of package node: contracts where there is something to put, or to delete.
-/
import Derived.Test.YtceefoopehoalaaNdPutA
import Derived.Test.YtceefoopehoalaaLate2
namespace Go.Proofs.Ytceefoopehoalaa
open Go.RowKit
set_option maxRecDepth 100000 in
set_option maxHeartbeats 4000000 in
theorem put_good {n : Nd} {K V D kv vv : Value} {key val : List UInt8} {w : World} (hn : NdIs w w.heap.size K V D n) (hk : Rd w w.heap.size kv (cellsB key)) (hv : Rd w w.heap.size vv (cellsB val)) (hsh : n.Short 40000) (hG : n.MayPut key val) :
    Calls Try.prog 19 #[ndVal true K V D, kv, vv] w fun e w' => PutOut (n.put key val) w e w' := by
  obtain ⟨hln, hs, hko, hvo⟩ := hG
  have hsh1 : n.Short 1000000 := ⟨by have := hsh.1; omega, by have := hsh.2.1; omega, by have := hsh.2.2; omega⟩
  have hnk : n.kids = [] := List.eq_nil_of_length_eq_zero (hs.ofLeaf hln).1
  have hvk : n.vals.length = n.keys.length := (hs.ofLeaf hln).2
  have hsm : (n.put key val).Short 1000000 := ⟨Nat.le_trans (putL_len atN_le) (by have := hsh.1; omega), Nat.le_trans (putL_len (by rw [hvk]; exact atN_le)) (by have := hsh.2.1; omega), Nat.zero_le _⟩
  have hsl := Nd.put_small hs hko.2 hvo
  have hfi := fun (W : World) (hW : Below w.heap.size w W) => find_any ((hn.below hW).more hW.size) (Nat.le_refl _) ((hk.below hW).more hW.size) (Nat.le_refl _) hsh1.1
  have hs1 := fun (W : World) (hW : Below w.heap.size w W) => sound_any ((hn.below hW).more hW.size) (Nat.le_refl _) hsh1
  rw [hln] at hfi hs1
  rw [sndB_iff.2 hs] at hs1
  have hple : atN n.keys key ≤ n.keys.length := atN_le
  have hplt := fun h => isN_lt hs.keys (key := key) h
  obtain ⟨A1, c1, A2, c2, A3, c3, rfl, rfl, rfl⟩ := hn.form
  have hg1 := hn.keys.len.2.1
  have hg2 := hn.vals.len.2.1
  obtain ⟨Ak, ck, rfl, -, -, -⟩ := hk.bytes
  obtain ⟨Av, cv, rfl, -, -, -⟩ := hv.bytes
  obtain ⟨a, ha⟩ : ∃ x, x = n.keys.length := ⟨_, rfl⟩
  obtain ⟨b, hb⟩ : ∃ x, x = n.vals.length := ⟨_, rfl⟩
  obtain ⟨d, hd⟩ : ∃ x, x = n.kids.length := ⟨_, rfl⟩
  obtain ⟨kl, hkl⟩ : ∃ x, x = key.length := ⟨_, rfl⟩
  obtain ⟨vl, hvl⟩ : ∃ x, x = val.length := ⟨_, rfl⟩
  obtain ⟨p, hp⟩ : ∃ x, x = atN n.keys key := ⟨_, rfl⟩
  obtain ⟨th, hth⟩ : ∃ x, x = isN n.keys key := ⟨_, rfl⟩
  rw [show belowN n.keys key n.keys.length = p from hp.symm, show hasN n.keys key n.keys.length = th from hth.symm] at hfi
  rw [← hkl] at hfi hk
  rw [← hvl] at hv
  rw [← ha, ← hb, ← hd] at hfi hs1 hn
  rw [← ha] at hvk hg1
  rw [← hb] at hvk hg2
  rw [← hp, ← ha] at hple
  rw [← hp, ← hth, ← ha] at hplt
  have ha4 : a ≤ 40000 := by rw [ha]; exact hsh.1
  have he1 : (n.put key val).keys = n.keys.take p ++ key :: n.keys.drop (p + th.toNat) := by rw [hp, hth]; rfl
  have he2 : (n.put key val).vals = n.vals.take p ++ val :: n.vals.drop (p + th.toNat) := by rw [hp, hth]; rfl
  have hlk : n.keys.length = a := ha.symm
  have hlv : n.vals.length = b := hb.symm
  rw [← ha, ← hb, ← hd, ← hkl, ← hvl]
  have hkm := fun (W : World) => keymay_any Ak kl ck W
  have hvm := fun (W : World) => valmay_any Av vl cv W
  have hko2 : 1 ≤ kl ∧ kl ≤ 24 := by rw [hkl]; exact hko
  have hvo2 : vl ≤ 24 := by rw [hvl]; exact hvo
  simp only [decide_eq_true hko2] at hkm
  simp only [decide_eq_true hvo2] at hvm
  have hst := PtW.start (w0 := w) (lf := true) (tK := .slice A1 a c1) (tV := .slice A2 b c2) (tD := .slice A3 d c3)
  obtain ⟨x0, x1, x2, x3⟩ := hst.box
  have hcc := hs1 _ hst.below
  have HSt := Lib.hid hst
  have HN := Lib.hid hn
  have HK := Lib.hid hk
  have HV := Lib.hid hv
  have HFi := Lib.hid hfi
  have HKm := Lib.hid hkm
  have HVm := Lib.hid hvm
  have HE1' := Lib.hid he1
  have HE2' := Lib.hid he2
  have HLk := Lib.hid (And.intro hlk hlv)
  have HNk := Lib.hid hnk
  have HSm := Lib.hid hsm
  have HSl := Lib.hid hsl
  have HNum := Lib.hid (And.intro hvk (And.intro hple (And.intro hplt (And.intro hg1 (And.intro hg2 ha4)))))
  have hp4 : p ≤ 40000 := by omega
  clear hn hk hv hst hs1 hfi hkm hvm he1 he2 hlk hlv hnk hsm hsl hvk hple hplt hg1 hg2 ha4 ha hb hd hkl hvl hp hth hko hvo hko2 hvo2 hsh hsh1 hs hln
  go_enter Try.func19, Try.ntmps19
  go_wp2_with fail
  refine hcc.mono ?_
  rintro e w1 ⟨rfl, hb1⟩
  have HS1 := Lib.hid (HSt.out.kept hb1)
  have hkc := HKm.out w1
  clear x0 x1 x2 x3 hcc hb1 HSt HKm
  go_wp2_with fail
  refine hkc.mono ?_
  rintro e w2 ⟨rfl, rfl⟩
  have hvc := HVm.out w1
  clear hkc HVm
  go_wp2_with fail
  refine hvc.mono ?_
  rintro e w3 ⟨rfl, rfl⟩
  have hfc := HFi.out w1 HS1.out.below
  obtain ⟨x0, x1, x2, x3⟩ := HS1.out.box
  clear hvc HFi
  go_wp2_with fail
  refine hfc.mono ?_
  rintro e w4 ⟨rfl, hb4⟩
  have HS_4 := Lib.hid (HS1.out.kept hb4)
  clear hfc hb4 x0 x1 x2 x3 HS1
  obtain ⟨hvk, hple, hplt, hg1, hg2, ha4⟩ := HNum.out
  cases th
  · obtain ⟨iT, hiT, hT0, hT1, hT2⟩ := info_parts info_row
    have hk1 := cut_h (P := Try.prog) Try.underlying24 hiT hT1 A1 a c1 p (by omega) _ rfl
    have hk2 := cut_h (P := Try.prog) Try.underlying24 hiT hT1 A2 b c2 p (by omega) _ rfl
    obtain ⟨F1, hF1, hk3⟩ := cut_l (P := Try.prog) Try.underlying24 hiT hT1 A1 a c1 (p) (by omega) ((p : Int)) (by omega)
    obtain ⟨F2, hF2, hk4⟩ := cut_l (P := Try.prog) Try.underlying24 hiT hT1 A2 b c2 (p) (by omega) ((p : Int)) (by omega)
    have hlo1 := HN.out.keys.upto (show p ≤ a by omega)
    have hlo2 := HN.out.vals.upto (show p ≤ b by omega)
    have hup1 := HN.out.keys.behind (show p ≤ a by omega)
    have hup2 := HN.out.vals.behind (show p ≤ b by omega)
    rw [← hF1] at hup1
    rw [← hF2] at hup2
    have HK1 := Lib.hid hk1
    have HK2 := Lib.hid hk2
    have HK3 := Lib.hid hk3
    have HK4 := Lib.hid hk4
    have HLo1 := Lib.hid hlo1
    have HLo2 := Lib.hid hlo2
    have HUp1 := Lib.hid hup1
    have HUp2 := Lib.hid hup2
    clear hk1 hk2 hk3 hk4 hiT hT0 hT1 hT2 hF1 hF2 hlo1 hlo2 hup1 hup2
    have HE1 := Lib.hid (show (n.put key val).keys = n.keys.take p ++ key :: n.keys.drop (p) from HE1'.out)
    have HE2 := Lib.hid (show (n.put key val).vals = n.vals.take p ++ val :: n.vals.drop (p) from HE2'.out)
    have hw : IntKind.i64.wrap ((p : Int) + 1) = (p : Int) + 1 := IntWalk.i64_in _ (by omega)
    clear hvk hple hplt hg1 hg2 ha4 HE1' HE2'
    go_wp2_with fail
    clear hw
    obtain ⟨wd, hwd⟩ : ∃ x, x = w4.drew := ⟨_, rfl⟩
    have HS_wd : Hid (PtW w wd true (.slice A1 a c1) (.slice A2 b c2) (.slice A3 d c3)) := Lib.hid (by rw [hwd]; exact HS_4.out.kept (Below.refl _ _).drew)
    have Zwd := Lib.hid (show wd.heap.size = w4.heap.size by rw [hwd]; rfl)
    have S0 : (fun w' => w'.cell? ⟨w.heap.size, 1, none⟩ = some (.slice A1 a c1)) wd := HS_wd.out.box.c1
    have hcat := HS_wd.out.catKey HLo1.out HK.out HUp1.out (by have := HLk.out.1; have := HLk.out.2; obtain ⟨hvk, -, -, -, -, ha4⟩ := HNum.out; simp; omega)
    obtain ⟨wda, hwda⟩ : ∃ u, u = wd.alloc (.cells #[.slice Ak kl ck] 22) := ⟨_, rfl⟩
    have zwda : wda.heap.size = wd.heap.size + 1 := by rw [hwda]; simp
    have HS_wda : Hid (PtW w wda true (.slice A1 a c1) (.slice A2 b c2) (.slice A3 d c3)) := Lib.hid (by rw [hwda]; exact HS_wd.out.kept ((Below.refl _ _).alloc (Nat.le_refl _) _))
    rw [← hwda] at hcat
    obtain ⟨wdb, hwdb⟩ : ∃ u, u = wda.alloc (.cells #[.slice A1 p c1, .slice (some ⟨wd.heap.size, 0, none⟩) 1 1, .slice F1 (a - p) (c1 - p)] 24) := ⟨_, rfl⟩
    have zwdb : wdb.heap.size = wda.heap.size + 1 := by rw [hwdb]; simp
    have HS_wdb : Hid (PtW w wdb true (.slice A1 a c1) (.slice A2 b c2) (.slice A3 d c3)) := Lib.hid (by rw [hwdb]; exact HS_wda.out.kept ((Below.refl _ _).alloc (Nat.le_refl _) _))
    rw [← hwdb] at hcat
    rw [← zwda] at hcat
    have HCat := Lib.hid hcat
    have HE_wda := Lib.hid hwda
    have HE_wdb := Lib.hid hwdb
    clear hcat hwda zwda hwdb zwdb
    refine wp_region_late (S := fun w' => w'.cell? ⟨w.heap.size, 1, none⟩ = some (.slice A1 a c1)) [13] (by kernel_rfl) (by rw [← hwd]; exact S0) (fun hHeld => ?_)
    rw [← hwd]
    clear hwd
    refine' anyU_take0 (i := 0) (oi := ⟨some 40, .fieldAddr 27 (.tmp 3) 1, _, _, _, none⟩) (v := _) rfl (by kernel_rfl) (fun _ _ _ h => h) (Or.inl ⟨by rfl, ?hy1⟩) (by assumption) ?rest1
    case hy1 => (intro w hSw; go_simp <;> with_reducible rfl)
    case rest1 =>
    go_frame
    refine' anyU_take (i := 1) (oi := ⟨some 41, .load 24 (.tmp 40), _, _, _, none⟩) (v := _) rfl (by kernel_rfl) (fun _ _ _ h => h) (Or.inl ⟨by rfl, ?hy2⟩) (by assumption) ?rest2
    case hy2 => (intro w hSw; obtain s0 := hSw; go_simp <;> with_reducible rfl)
    case rest2 =>
    go_frame
    refine' anyU_take0 (i := 2) (oi := ⟨some 42, .move (.tmp 8), _, _, _, none⟩) (v := _) rfl (by kernel_rfl) (fun _ _ _ h => h) (Or.inl ⟨by rfl, ?hy3⟩) (by assumption) ?rest3
    case hy3 => (intro w hSw; go_simp <;> with_reducible rfl)
    case rest3 =>
    go_frame
    refine' anyU_take0 (i := 3) (oi := ⟨some 43, .slice 24 (.tmp 41) none (some (.tmp 42)) none, _, _, _, none⟩) (v := .slice A1 p c1) rfl (by kernel_rfl) (fun _ _ _ h => h) (Or.inl ⟨by rfl, ?hy4⟩) (by assumption) ?rest4
    case hy4 => (intro w hSw; exact exec_cut (x := .tmp 41) (lo := none) (hi := (some (.tmp 42))) rfl (v := .slice A1 a c1) rfl (l := none) rfl (h := some (.int .i64 (p : Int))) rfl (HK1.out _))
    case rest4 =>
    go_frame
    refine' anyU_take0 (i := 4) (oi := ⟨some 44, .move (.tmp 1), _, _, _, none⟩) (v := _) rfl (by kernel_rfl) (fun _ _ _ h => h) (Or.inl ⟨by rfl, ?hy5⟩) (by assumption) ?rest5
    case hy5 => (intro w hSw; go_simp <;> with_reducible rfl)
    case rest5 =>
    go_frame
    refine' anyU_take0 (i := 6) (oi := ⟨some 46, .fieldAddr 27 (.tmp 3) 1, _, _, _, none⟩) (v := _) rfl (by kernel_rfl) (fun _ _ _ h => h) (Or.inl ⟨by rfl, ?hy6⟩) (by assumption) ?rest6
    case hy6 => (intro w hSw; go_simp <;> with_reducible rfl)
    case rest6 =>
    go_frame
    refine' anyU_take (i := 7) (oi := ⟨some 47, .load 24 (.tmp 46), _, _, _, none⟩) (v := _) rfl (by kernel_rfl) (fun _ _ _ h => h) (Or.inl ⟨by rfl, ?hy7⟩) (by assumption) ?rest7
    case hy7 => (intro w hSw; obtain s0 := hSw; go_simp <;> with_reducible rfl)
    case rest7 =>
    go_frame
    refine' anyU_take0 (i := 8) (oi := ⟨some 48, .move (.tmp 10), _, _, _, none⟩) (v := _) rfl (by kernel_rfl) (fun _ _ _ h => h) (Or.inl ⟨by rfl, ?hy8⟩) (by assumption) ?rest8
    case hy8 => (intro w hSw; go_simp <;> with_reducible rfl)
    case rest8 =>
    go_frame
    refine' anyU_take0 (i := 9) (oi := ⟨some 49, .slice 24 (.tmp 47) (some (.tmp 48)) none none, _, _, _, none⟩) (v := .slice F1 (a - p) (c1 - p)) rfl (by kernel_rfl) (fun _ _ _ h => h) (Or.inl ⟨by rfl, ?hy9⟩) (by assumption) ?rest9
    case hy9 => (intro w hSw; exact exec_cut (x := .tmp 47) (lo := (some (.tmp 48))) (hi := none) rfl (v := .slice A1 a c1) rfl (l := some (.int .i64 ((p : Int)))) rfl (h := none) rfl (HK3.out _))
    case rest9 =>
    go_frame
    refine anyU_ready (rs := [5]) (by kernel_rfl) (by simp) (AllU.cons (o := ⟨some 45, .buildSlice 24 1 #[(0, .tmp 44)], _, _, _, none⟩) rfl (fun K hK => ?_) (fun h => absurd h (by decide)) AllU.nil)
    rw [if_pos (by rfl)]
    have Sxwda := HS_wda.out.box.c1
    go_simp
    rw [← HE_wda.out]
    refine hK.out _ _ (fun _ => Sxwda) ?_
    clear hK K
    try go_frame
    refine anyU_ready (rs := [10]) (by kernel_rfl) (by simp) (AllU.cons (o := ⟨some 50, .buildSlice 79 3 #[(0, .tmp 43), (1, .tmp 45), (2, .tmp 49)], _, _, _, none⟩) rfl (fun K hK => ?_) (fun h => absurd h (by decide)) AllU.nil)
    rw [if_pos (by rfl)]
    have Sxwdb := HS_wdb.out.box.c1
    go_simp
    rw [← HE_wdb.out]
    refine hK.out _ _ (fun _ => Sxwdb) ?_
    clear hK K
    try go_frame
    refine anyU_ready (rs := [11]) (by kernel_rfl) (by simp) (AllU.cons (o := ⟨some 51, .call { callee := .value (.func 40), args := #[.tmp 50], argTypes := #[79] }, _, _, _, none⟩) rfl (fun K hK => ?_) (fun h => absurd h (by decide)) AllU.nil)
    rw [if_pos (by rfl)]
    go_simp
    refine HCat.out.mono ?_
    rintro e wz ⟨AK, nK, cK, rfl, hz, hoz, hbz⟩
    have HS_z := Lib.hid hz
    have HO_z := Lib.hid hoz
    
    have Sxz := hz.box.c1
    dsimp only
    refine hK.out _ _ (fun _ => Sxz) ?_
    clear hK K hz hoz hbz
    try go_frame
    obtain ⟨y0, y1, y2, y3, f0, f1, f2, f3⟩ := out_cells HS_z.out.top
    refine' anyU_take0 (i := 12) (oi := ⟨some 52, .fieldAddr 27 (.tmp 3) 1, _, _, _, none⟩) (v := _) rfl (by kernel_rfl) (fun _ _ _ h => h) (Or.inl ⟨by rfl, ?hy10⟩) (by assumption) ?rest10
    case hy10 => (intro w hSw; go_simp <;> with_reducible rfl)
    case rest10 =>
    go_frame
    refine anyU_ready (rs := [13]) (by kernel_rfl) (by simp) (AllU.cons (o := ⟨none, .store 24 (.tmp 52) (.tmp 51), _, _, _, none⟩) rfl (fun K hK => ?_) (fun _ => by kernel_rfl) AllU.nil)
    rw [if_pos (by rfl)]
    go_simp
    refine hK.out _ _ (fun h => absurd h (by decide)) ?_
    clear hK K
    try go_frame
    refine anyU_done (by kernel_rfl) ?_ _
    obtain ⟨w5, hW⟩ : ∃ X, X = wz.setCell ⟨w.heap.size, 1, none⟩ (.slice AK nK cK) := ⟨_, rfl⟩
    have hs := HS_z.out.setK (.slice AK nK cK)
    have ho := PtW.rowSet HO_z.out 1 (.slice AK nK cK)
    rw [← hW] at hs ho
    rw [← hW]
    have HS_w5 := Lib.hid hs
    have HO_w5 := Lib.hid ho
    clear hW hs ho y0 y1 y2 y3 f0 f1 f2 f3 HS_z HO_z S0 hHeld HS_wda HE_wda Sxwda HS_wdb HE_wdb Sxwdb HS_wd Sxz HCat
    go_wp2_with fail
    obtain ⟨wf, hwf⟩ : ∃ x, x = w5.drew := ⟨_, rfl⟩
    have HS_wf : Hid (PtW w wf true (.slice AK nK cK) (.slice A2 b c2) (.slice A3 d c3)) := Lib.hid (by rw [hwf]; exact HS_w5.out.kept (Below.refl _ _).drew)
    have Zwf := Lib.hid (show wf.heap.size = w5.heap.size by rw [hwf]; rfl)
    have S0 : (fun w' => w'.cell? ⟨w.heap.size, 2, none⟩ = some (.slice A2 b c2)) wf := HS_wf.out.box.c2
    have HO_wf : Hid (OwnT wf w.heap.size (w.heap.size + 2) (.slice AK nK cK) (n.keys.take p ++ key :: n.keys.drop (p))) := Lib.hid (by rw [hwf]; exact PtW.rowKept HO_w5.out (Below.refl _ _).drew)
    have hcat := HS_wf.out.catKey HLo2.out HV.out HUp2.out (by have := HLk.out.1; have := HLk.out.2; obtain ⟨hvk, -, -, -, -, ha4⟩ := HNum.out; simp; omega)
    obtain ⟨wfa, hwfa⟩ : ∃ u, u = wf.alloc (.cells #[.slice Av vl cv] 22) := ⟨_, rfl⟩
    have zwfa : wfa.heap.size = wf.heap.size + 1 := by rw [hwfa]; simp
    have HS_wfa : Hid (PtW w wfa true (.slice AK nK cK) (.slice A2 b c2) (.slice A3 d c3)) := Lib.hid (by rw [hwfa]; exact HS_wf.out.kept ((Below.refl _ _).alloc (Nat.le_refl _) _))
    rw [← hwfa] at hcat
    obtain ⟨wfb, hwfb⟩ : ∃ u, u = wfa.alloc (.cells #[.slice A2 p c2, .slice (some ⟨wf.heap.size, 0, none⟩) 1 1, .slice F2 (b - p) (c2 - p)] 24) := ⟨_, rfl⟩
    have zwfb : wfb.heap.size = wfa.heap.size + 1 := by rw [hwfb]; simp
    have HS_wfb : Hid (PtW w wfb true (.slice AK nK cK) (.slice A2 b c2) (.slice A3 d c3)) := Lib.hid (by rw [hwfb]; exact HS_wfa.out.kept ((Below.refl _ _).alloc (Nat.le_refl _) _))
    rw [← hwfb] at hcat
    rw [← zwfa] at hcat
    have HCat := Lib.hid hcat
    have HE_wfa := Lib.hid hwfa
    have HE_wfb := Lib.hid hwfb
    clear hcat hwfa zwfa hwfb zwfb
    refine wp_region_late (S := fun w' => w'.cell? ⟨w.heap.size, 2, none⟩ = some (.slice A2 b c2)) [13] (by kernel_rfl) (by rw [← hwf]; exact S0) (fun hHeld => ?_)
    rw [← hwf]
    clear hwf
    refine' anyU_take0 (i := 0) (oi := ⟨some 53, .fieldAddr 27 (.tmp 3) 2, _, _, _, none⟩) (v := _) rfl (by kernel_rfl) (fun _ _ _ h => h) (Or.inl ⟨by rfl, ?hy11⟩) (by assumption) ?rest11
    case hy11 => (intro w hSw; go_simp <;> with_reducible rfl)
    case rest11 =>
    go_frame
    refine' anyU_take (i := 1) (oi := ⟨some 54, .load 24 (.tmp 53), _, _, _, none⟩) (v := _) rfl (by kernel_rfl) (fun _ _ _ h => h) (Or.inl ⟨by rfl, ?hy12⟩) (by assumption) ?rest12
    case hy12 => (intro w hSw; obtain s0 := hSw; go_simp <;> with_reducible rfl)
    case rest12 =>
    go_frame
    refine' anyU_take0 (i := 2) (oi := ⟨some 55, .move (.tmp 8), _, _, _, none⟩) (v := _) rfl (by kernel_rfl) (fun _ _ _ h => h) (Or.inl ⟨by rfl, ?hy13⟩) (by assumption) ?rest13
    case hy13 => (intro w hSw; go_simp <;> with_reducible rfl)
    case rest13 =>
    go_frame
    refine' anyU_take0 (i := 3) (oi := ⟨some 56, .slice 24 (.tmp 54) none (some (.tmp 55)) none, _, _, _, none⟩) (v := .slice A2 p c2) rfl (by kernel_rfl) (fun _ _ _ h => h) (Or.inl ⟨by rfl, ?hy14⟩) (by assumption) ?rest14
    case hy14 => (intro w hSw; exact exec_cut (x := .tmp 54) (lo := none) (hi := (some (.tmp 55))) rfl (v := .slice A2 b c2) rfl (l := none) rfl (h := some (.int .i64 (p : Int))) rfl (HK2.out _))
    case rest14 =>
    go_frame
    refine' anyU_take0 (i := 4) (oi := ⟨some 57, .move (.tmp 2), _, _, _, none⟩) (v := _) rfl (by kernel_rfl) (fun _ _ _ h => h) (Or.inl ⟨by rfl, ?hy15⟩) (by assumption) ?rest15
    case hy15 => (intro w hSw; go_simp <;> with_reducible rfl)
    case rest15 =>
    go_frame
    refine' anyU_take0 (i := 6) (oi := ⟨some 59, .fieldAddr 27 (.tmp 3) 2, _, _, _, none⟩) (v := _) rfl (by kernel_rfl) (fun _ _ _ h => h) (Or.inl ⟨by rfl, ?hy16⟩) (by assumption) ?rest16
    case hy16 => (intro w hSw; go_simp <;> with_reducible rfl)
    case rest16 =>
    go_frame
    refine' anyU_take (i := 7) (oi := ⟨some 60, .load 24 (.tmp 59), _, _, _, none⟩) (v := _) rfl (by kernel_rfl) (fun _ _ _ h => h) (Or.inl ⟨by rfl, ?hy17⟩) (by assumption) ?rest17
    case hy17 => (intro w hSw; obtain s0 := hSw; go_simp <;> with_reducible rfl)
    case rest17 =>
    go_frame
    refine' anyU_take0 (i := 8) (oi := ⟨some 61, .move (.tmp 10), _, _, _, none⟩) (v := _) rfl (by kernel_rfl) (fun _ _ _ h => h) (Or.inl ⟨by rfl, ?hy18⟩) (by assumption) ?rest18
    case hy18 => (intro w hSw; go_simp <;> with_reducible rfl)
    case rest18 =>
    go_frame
    refine' anyU_take0 (i := 9) (oi := ⟨some 62, .slice 24 (.tmp 60) (some (.tmp 61)) none none, _, _, _, none⟩) (v := .slice F2 (b - p) (c2 - p)) rfl (by kernel_rfl) (fun _ _ _ h => h) (Or.inl ⟨by rfl, ?hy19⟩) (by assumption) ?rest19
    case hy19 => (intro w hSw; exact exec_cut (x := .tmp 60) (lo := (some (.tmp 61))) (hi := none) rfl (v := .slice A2 b c2) rfl (l := some (.int .i64 ((p : Int)))) rfl (h := none) rfl (HK4.out _))
    case rest19 =>
    go_frame
    refine anyU_ready (rs := [5]) (by kernel_rfl) (by simp) (AllU.cons (o := ⟨some 58, .buildSlice 24 1 #[(0, .tmp 57)], _, _, _, none⟩) rfl (fun K hK => ?_) (fun h => absurd h (by decide)) AllU.nil)
    rw [if_pos (by rfl)]
    have Sxwfa := HS_wfa.out.box.c2
    go_simp
    rw [← HE_wfa.out]
    refine hK.out _ _ (fun _ => Sxwfa) ?_
    clear hK K
    try go_frame
    refine anyU_ready (rs := [10]) (by kernel_rfl) (by simp) (AllU.cons (o := ⟨some 63, .buildSlice 79 3 #[(0, .tmp 56), (1, .tmp 58), (2, .tmp 62)], _, _, _, none⟩) rfl (fun K hK => ?_) (fun h => absurd h (by decide)) AllU.nil)
    rw [if_pos (by rfl)]
    have Sxwfb := HS_wfb.out.box.c2
    go_simp
    rw [← HE_wfb.out]
    refine hK.out _ _ (fun _ => Sxwfb) ?_
    clear hK K
    try go_frame
    refine anyU_ready (rs := [11]) (by kernel_rfl) (by simp) (AllU.cons (o := ⟨some 64, .call { callee := .value (.func 40), args := #[.tmp 63], argTypes := #[79] }, _, _, _, none⟩) rfl (fun K hK => ?_) (fun h => absurd h (by decide)) AllU.nil)
    rw [if_pos (by rfl)]
    go_simp
    refine HCat.out.mono ?_
    rintro e wz ⟨AV, nV, cV, rfl, hz, hoz, hbz⟩
    have HS_z := Lib.hid hz
    have HO_z := Lib.hid hoz
    have HO_y := Lib.hid (PtW.rowKept HO_wf.out hbz)
    have Sxz := hz.box.c2
    dsimp only
    refine hK.out _ _ (fun _ => Sxz) ?_
    clear hK K hz hoz hbz
    try go_frame
    obtain ⟨y0, y1, y2, y3, f0, f1, f2, f3⟩ := out_cells HS_z.out.top
    refine' anyU_take0 (i := 12) (oi := ⟨some 65, .fieldAddr 27 (.tmp 3) 2, _, _, _, none⟩) (v := _) rfl (by kernel_rfl) (fun _ _ _ h => h) (Or.inl ⟨by rfl, ?hy20⟩) (by assumption) ?rest20
    case hy20 => (intro w hSw; go_simp <;> with_reducible rfl)
    case rest20 =>
    go_frame
    refine anyU_ready (rs := [13]) (by kernel_rfl) (by simp) (AllU.cons (o := ⟨none, .store 24 (.tmp 65) (.tmp 64), _, _, _, none⟩) rfl (fun K hK => ?_) (fun _ => by kernel_rfl) AllU.nil)
    rw [if_pos (by rfl)]
    go_simp
    refine hK.out _ _ (fun h => absurd h (by decide)) ?_
    clear hK K
    try go_frame
    refine anyU_done (by kernel_rfl) ?_ _
    obtain ⟨w6, hW⟩ : ∃ X, X = wz.setCell ⟨w.heap.size, 2, none⟩ (.slice AV nV cV) := ⟨_, rfl⟩
    have hs := HS_z.out.setV (.slice AV nV cV)
    have ho := PtW.rowSet HO_z.out 2 (.slice AV nV cV)
    have hq := PtW.rowSet HO_y.out 2 (.slice AV nV cV)
    rw [← hW] at hs ho hq
    rw [← hW]
    have HS_w6 := Lib.hid hs
    have HO_w6 := Lib.hid ho
    have HQ_w6 := Lib.hid hq
    clear hW hs ho hq y0 y1 y2 y3 f0 f1 f2 f3 HS_z HO_z S0 hHeld HS_wfa HE_wfa Sxwfa HS_wfb HE_wfb Sxwfb HS_wf Sxz HCat
    have his : NdIs w6 w6.heap.size (.slice AK nK cK) (.slice AV nV cV) (.slice A3 d c3) (n.put key val) := ⟨by rw [HE1.out]; exact HQ_w6.out.rd, by rw [HE2.out]; exact HO_w6.out.rd, by
      have hk := (HN.out.kids.below HS_w6.out.below).more HS_w6.out.below.size
      rw [HNk.out] at hk
      exact hk⟩
    have hco := copied_as his (lf := true) rfl HSm.out HSl.out
    obtain ⟨x0, x1, x2, x3⟩ := HS_w6.out.box
    have HCo := Lib.hid hco
    clear his hco
    go_wp2_with fail
    refine HCo.out.mono ?_
    rintro e w9 ⟨X1, i1, j1, X2, i2, j2, X3, i3, j3, rfl, hn9, hb9⟩
    have hs9 := HS_w6.out.kept hb9
    have hlt := HS_w6.out.lt
    clear x0 x1 x2 x3
    obtain ⟨y0, y1, y2, y3, f0, f1, f2, f3⟩ := out_cells hs9.out
    obtain ⟨W, hW⟩ : ∃ W, W = store4 w9 (w.heap.size + 1) true (.slice X1 i1 j1) (.slice X2 i2 j2) (.slice X3 i3 j3) := ⟨_, rfl⟩
    have hbox := box_of_top (store4_top (lf := true) (K := .slice X1 i1 j1) (V := .slice X2 i2 j2) (D := .slice X3 i3 j3) hs9.out)
    have hfi := hn9.store4 (lf := true) (K := .slice X1 i1 j1) (V := .slice X2 i2 j2) (D := .slice X3 i3 j3) (N := w.heap.size + 1) hlt
    have hfb := hs9.below.trans (store4_below (w := w9) (lf := true) (K := .slice X1 i1 j1) (V := .slice X2 i2 j2) (D := .slice X3 i3 j3) (show w.heap.size ≤ w.heap.size + 1 by omega))
    rw [← hW] at hbox hfi hfb
    have hfi := hfi.weaken (b1 := w.heap.size) (by omega)
    obtain ⟨q0, q1, q2, q3⟩ := hbox
    have HFi := Lib.hid hfi
    have HFb := Lib.hid hfb
    have HWW := Lib.hid hW
    clear hfi hfb hW hn9 hb9 hs9 hlt
    go_wp2_with fail
    have hW := HWW.out
    unfold store4 at hW
    rw [← hW]
    exact bodyPost_ret (v := .tuple #[ndVal true (.slice X1 i1 j1) (.slice X2 i2 j2) (.slice X3 i3 j3), .bool true]) (by simp [results, Try.results19, go_sem, q0, q1, q2, q3]) rfl ⟨_, _, _, rfl, HFi.out, HFb.out⟩
  · have hpl := hplt rfl
    obtain ⟨iT, hiT, hT0, hT1, hT2⟩ := info_parts info_row
    have hk1 := cut_h (P := Try.prog) Try.underlying24 hiT hT1 A1 a c1 p (by omega) _ rfl
    have hk2 := cut_h (P := Try.prog) Try.underlying24 hiT hT1 A2 b c2 p (by omega) _ rfl
    obtain ⟨F1, hF1, hk3⟩ := cut_l (P := Try.prog) Try.underlying24 hiT hT1 A1 a c1 (p + 1) (by omega) ((p : Int) + 1) (by omega)
    obtain ⟨F2, hF2, hk4⟩ := cut_l (P := Try.prog) Try.underlying24 hiT hT1 A2 b c2 (p + 1) (by omega) ((p : Int) + 1) (by omega)
    have hlo1 := HN.out.keys.upto (show p ≤ a by omega)
    have hlo2 := HN.out.vals.upto (show p ≤ b by omega)
    have hup1 := HN.out.keys.behind (show p + 1 ≤ a by omega)
    have hup2 := HN.out.vals.behind (show p + 1 ≤ b by omega)
    rw [← hF1] at hup1
    rw [← hF2] at hup2
    have HK1 := Lib.hid hk1
    have HK2 := Lib.hid hk2
    have HK3 := Lib.hid hk3
    have HK4 := Lib.hid hk4
    have HLo1 := Lib.hid hlo1
    have HLo2 := Lib.hid hlo2
    have HUp1 := Lib.hid hup1
    have HUp2 := Lib.hid hup2
    clear hk1 hk2 hk3 hk4 hiT hT0 hT1 hT2 hF1 hF2 hlo1 hlo2 hup1 hup2
    have HE1 := Lib.hid (show (n.put key val).keys = n.keys.take p ++ key :: n.keys.drop (p + 1) from HE1'.out)
    have HE2 := Lib.hid (show (n.put key val).vals = n.vals.take p ++ val :: n.vals.drop (p + 1) from HE2'.out)
    have hw : IntKind.i64.wrap ((p : Int) + 1) = (p : Int) + 1 := IntWalk.i64_in _ (by omega)
    clear hvk hple hplt hg1 hg2 ha4 HE1' HE2' hpl
    go_wp2_with fail
    clear hw
    obtain ⟨wd, hwd⟩ : ∃ x, x = w4.drew := ⟨_, rfl⟩
    have HS_wd : Hid (PtW w wd true (.slice A1 a c1) (.slice A2 b c2) (.slice A3 d c3)) := Lib.hid (by rw [hwd]; exact HS_4.out.kept (Below.refl _ _).drew)
    have Zwd := Lib.hid (show wd.heap.size = w4.heap.size by rw [hwd]; rfl)
    have S0 : (fun w' => w'.cell? ⟨w.heap.size, 1, none⟩ = some (.slice A1 a c1)) wd := HS_wd.out.box.c1
    have hcat := HS_wd.out.catKey HLo1.out HK.out HUp1.out (by have := HLk.out.1; have := HLk.out.2; obtain ⟨hvk, -, -, -, -, ha4⟩ := HNum.out; simp; omega)
    obtain ⟨wda, hwda⟩ : ∃ u, u = wd.alloc (.cells #[.slice Ak kl ck] 22) := ⟨_, rfl⟩
    have zwda : wda.heap.size = wd.heap.size + 1 := by rw [hwda]; simp
    have HS_wda : Hid (PtW w wda true (.slice A1 a c1) (.slice A2 b c2) (.slice A3 d c3)) := Lib.hid (by rw [hwda]; exact HS_wd.out.kept ((Below.refl _ _).alloc (Nat.le_refl _) _))
    rw [← hwda] at hcat
    obtain ⟨wdb, hwdb⟩ : ∃ u, u = wda.alloc (.cells #[.slice A1 p c1, .slice (some ⟨wd.heap.size, 0, none⟩) 1 1, .slice F1 (a - (p + 1)) (c1 - (p + 1))] 24) := ⟨_, rfl⟩
    have zwdb : wdb.heap.size = wda.heap.size + 1 := by rw [hwdb]; simp
    have HS_wdb : Hid (PtW w wdb true (.slice A1 a c1) (.slice A2 b c2) (.slice A3 d c3)) := Lib.hid (by rw [hwdb]; exact HS_wda.out.kept ((Below.refl _ _).alloc (Nat.le_refl _) _))
    rw [← hwdb] at hcat
    rw [← zwda] at hcat
    have HCat := Lib.hid hcat
    have HE_wda := Lib.hid hwda
    have HE_wdb := Lib.hid hwdb
    clear hcat hwda zwda hwdb zwdb
    refine wp_region_late (S := fun w' => w'.cell? ⟨w.heap.size, 1, none⟩ = some (.slice A1 a c1)) [13] (by kernel_rfl) (by rw [← hwd]; exact S0) (fun hHeld => ?_)
    rw [← hwd]
    clear hwd
    refine' anyU_take0 (i := 0) (oi := ⟨some 40, .fieldAddr 27 (.tmp 3) 1, _, _, _, none⟩) (v := _) rfl (by kernel_rfl) (fun _ _ _ h => h) (Or.inl ⟨by rfl, ?hy21⟩) (by assumption) ?rest21
    case hy21 => (intro w hSw; go_simp <;> with_reducible rfl)
    case rest21 =>
    go_frame
    refine' anyU_take (i := 1) (oi := ⟨some 41, .load 24 (.tmp 40), _, _, _, none⟩) (v := _) rfl (by kernel_rfl) (fun _ _ _ h => h) (Or.inl ⟨by rfl, ?hy22⟩) (by assumption) ?rest22
    case hy22 => (intro w hSw; obtain s0 := hSw; go_simp <;> with_reducible rfl)
    case rest22 =>
    go_frame
    refine' anyU_take0 (i := 2) (oi := ⟨some 42, .move (.tmp 8), _, _, _, none⟩) (v := _) rfl (by kernel_rfl) (fun _ _ _ h => h) (Or.inl ⟨by rfl, ?hy23⟩) (by assumption) ?rest23
    case hy23 => (intro w hSw; go_simp <;> with_reducible rfl)
    case rest23 =>
    go_frame
    refine' anyU_take0 (i := 3) (oi := ⟨some 43, .slice 24 (.tmp 41) none (some (.tmp 42)) none, _, _, _, none⟩) (v := .slice A1 p c1) rfl (by kernel_rfl) (fun _ _ _ h => h) (Or.inl ⟨by rfl, ?hy24⟩) (by assumption) ?rest24
    case hy24 => (intro w hSw; exact exec_cut (x := .tmp 41) (lo := none) (hi := (some (.tmp 42))) rfl (v := .slice A1 a c1) rfl (l := none) rfl (h := some (.int .i64 (p : Int))) rfl (HK1.out _))
    case rest24 =>
    go_frame
    refine' anyU_take0 (i := 4) (oi := ⟨some 44, .move (.tmp 1), _, _, _, none⟩) (v := _) rfl (by kernel_rfl) (fun _ _ _ h => h) (Or.inl ⟨by rfl, ?hy25⟩) (by assumption) ?rest25
    case hy25 => (intro w hSw; go_simp <;> with_reducible rfl)
    case rest25 =>
    go_frame
    refine' anyU_take0 (i := 6) (oi := ⟨some 46, .fieldAddr 27 (.tmp 3) 1, _, _, _, none⟩) (v := _) rfl (by kernel_rfl) (fun _ _ _ h => h) (Or.inl ⟨by rfl, ?hy26⟩) (by assumption) ?rest26
    case hy26 => (intro w hSw; go_simp <;> with_reducible rfl)
    case rest26 =>
    go_frame
    refine' anyU_take (i := 7) (oi := ⟨some 47, .load 24 (.tmp 46), _, _, _, none⟩) (v := _) rfl (by kernel_rfl) (fun _ _ _ h => h) (Or.inl ⟨by rfl, ?hy27⟩) (by assumption) ?rest27
    case hy27 => (intro w hSw; obtain s0 := hSw; go_simp <;> with_reducible rfl)
    case rest27 =>
    go_frame
    refine' anyU_take0 (i := 8) (oi := ⟨some 48, .move (.tmp 10), _, _, _, none⟩) (v := _) rfl (by kernel_rfl) (fun _ _ _ h => h) (Or.inl ⟨by rfl, ?hy28⟩) (by assumption) ?rest28
    case hy28 => (intro w hSw; go_simp <;> with_reducible rfl)
    case rest28 =>
    go_frame
    refine' anyU_take0 (i := 9) (oi := ⟨some 49, .slice 24 (.tmp 47) (some (.tmp 48)) none none, _, _, _, none⟩) (v := .slice F1 (a - (p + 1)) (c1 - (p + 1))) rfl (by kernel_rfl) (fun _ _ _ h => h) (Or.inl ⟨by rfl, ?hy29⟩) (by assumption) ?rest29
    case hy29 => (intro w hSw; exact exec_cut (x := .tmp 47) (lo := (some (.tmp 48))) (hi := none) rfl (v := .slice A1 a c1) rfl (l := some (.int .i64 ((p : Int) + 1))) rfl (h := none) rfl (HK3.out _))
    case rest29 =>
    go_frame
    refine anyU_ready (rs := [5]) (by kernel_rfl) (by simp) (AllU.cons (o := ⟨some 45, .buildSlice 24 1 #[(0, .tmp 44)], _, _, _, none⟩) rfl (fun K hK => ?_) (fun h => absurd h (by decide)) AllU.nil)
    rw [if_pos (by rfl)]
    have Sxwda := HS_wda.out.box.c1
    go_simp
    rw [← HE_wda.out]
    refine hK.out _ _ (fun _ => Sxwda) ?_
    clear hK K
    try go_frame
    refine anyU_ready (rs := [10]) (by kernel_rfl) (by simp) (AllU.cons (o := ⟨some 50, .buildSlice 79 3 #[(0, .tmp 43), (1, .tmp 45), (2, .tmp 49)], _, _, _, none⟩) rfl (fun K hK => ?_) (fun h => absurd h (by decide)) AllU.nil)
    rw [if_pos (by rfl)]
    have Sxwdb := HS_wdb.out.box.c1
    go_simp
    rw [← HE_wdb.out]
    refine hK.out _ _ (fun _ => Sxwdb) ?_
    clear hK K
    try go_frame
    refine anyU_ready (rs := [11]) (by kernel_rfl) (by simp) (AllU.cons (o := ⟨some 51, .call { callee := .value (.func 40), args := #[.tmp 50], argTypes := #[79] }, _, _, _, none⟩) rfl (fun K hK => ?_) (fun h => absurd h (by decide)) AllU.nil)
    rw [if_pos (by rfl)]
    go_simp
    refine HCat.out.mono ?_
    rintro e wz ⟨AK, nK, cK, rfl, hz, hoz, hbz⟩
    have HS_z := Lib.hid hz
    have HO_z := Lib.hid hoz
    
    have Sxz := hz.box.c1
    dsimp only
    refine hK.out _ _ (fun _ => Sxz) ?_
    clear hK K hz hoz hbz
    try go_frame
    obtain ⟨y0, y1, y2, y3, f0, f1, f2, f3⟩ := out_cells HS_z.out.top
    refine' anyU_take0 (i := 12) (oi := ⟨some 52, .fieldAddr 27 (.tmp 3) 1, _, _, _, none⟩) (v := _) rfl (by kernel_rfl) (fun _ _ _ h => h) (Or.inl ⟨by rfl, ?hy30⟩) (by assumption) ?rest30
    case hy30 => (intro w hSw; go_simp <;> with_reducible rfl)
    case rest30 =>
    go_frame
    refine anyU_ready (rs := [13]) (by kernel_rfl) (by simp) (AllU.cons (o := ⟨none, .store 24 (.tmp 52) (.tmp 51), _, _, _, none⟩) rfl (fun K hK => ?_) (fun _ => by kernel_rfl) AllU.nil)
    rw [if_pos (by rfl)]
    go_simp
    refine hK.out _ _ (fun h => absurd h (by decide)) ?_
    clear hK K
    try go_frame
    refine anyU_done (by kernel_rfl) ?_ _
    obtain ⟨w5, hW⟩ : ∃ X, X = wz.setCell ⟨w.heap.size, 1, none⟩ (.slice AK nK cK) := ⟨_, rfl⟩
    have hs := HS_z.out.setK (.slice AK nK cK)
    have ho := PtW.rowSet HO_z.out 1 (.slice AK nK cK)
    rw [← hW] at hs ho
    rw [← hW]
    have HS_w5 := Lib.hid hs
    have HO_w5 := Lib.hid ho
    clear hW hs ho y0 y1 y2 y3 f0 f1 f2 f3 HS_z HO_z S0 hHeld HS_wda HE_wda Sxwda HS_wdb HE_wdb Sxwdb HS_wd Sxz HCat
    go_wp2_with fail
    obtain ⟨wf, hwf⟩ : ∃ x, x = w5.drew := ⟨_, rfl⟩
    have HS_wf : Hid (PtW w wf true (.slice AK nK cK) (.slice A2 b c2) (.slice A3 d c3)) := Lib.hid (by rw [hwf]; exact HS_w5.out.kept (Below.refl _ _).drew)
    have Zwf := Lib.hid (show wf.heap.size = w5.heap.size by rw [hwf]; rfl)
    have S0 : (fun w' => w'.cell? ⟨w.heap.size, 2, none⟩ = some (.slice A2 b c2)) wf := HS_wf.out.box.c2
    have HO_wf : Hid (OwnT wf w.heap.size (w.heap.size + 2) (.slice AK nK cK) (n.keys.take p ++ key :: n.keys.drop (p + 1))) := Lib.hid (by rw [hwf]; exact PtW.rowKept HO_w5.out (Below.refl _ _).drew)
    have hcat := HS_wf.out.catKey HLo2.out HV.out HUp2.out (by have := HLk.out.1; have := HLk.out.2; obtain ⟨hvk, -, -, -, -, ha4⟩ := HNum.out; simp; omega)
    obtain ⟨wfa, hwfa⟩ : ∃ u, u = wf.alloc (.cells #[.slice Av vl cv] 22) := ⟨_, rfl⟩
    have zwfa : wfa.heap.size = wf.heap.size + 1 := by rw [hwfa]; simp
    have HS_wfa : Hid (PtW w wfa true (.slice AK nK cK) (.slice A2 b c2) (.slice A3 d c3)) := Lib.hid (by rw [hwfa]; exact HS_wf.out.kept ((Below.refl _ _).alloc (Nat.le_refl _) _))
    rw [← hwfa] at hcat
    obtain ⟨wfb, hwfb⟩ : ∃ u, u = wfa.alloc (.cells #[.slice A2 p c2, .slice (some ⟨wf.heap.size, 0, none⟩) 1 1, .slice F2 (b - (p + 1)) (c2 - (p + 1))] 24) := ⟨_, rfl⟩
    have zwfb : wfb.heap.size = wfa.heap.size + 1 := by rw [hwfb]; simp
    have HS_wfb : Hid (PtW w wfb true (.slice AK nK cK) (.slice A2 b c2) (.slice A3 d c3)) := Lib.hid (by rw [hwfb]; exact HS_wfa.out.kept ((Below.refl _ _).alloc (Nat.le_refl _) _))
    rw [← hwfb] at hcat
    rw [← zwfa] at hcat
    have HCat := Lib.hid hcat
    have HE_wfa := Lib.hid hwfa
    have HE_wfb := Lib.hid hwfb
    clear hcat hwfa zwfa hwfb zwfb
    refine wp_region_late (S := fun w' => w'.cell? ⟨w.heap.size, 2, none⟩ = some (.slice A2 b c2)) [13] (by kernel_rfl) (by rw [← hwf]; exact S0) (fun hHeld => ?_)
    rw [← hwf]
    clear hwf
    refine' anyU_take0 (i := 0) (oi := ⟨some 53, .fieldAddr 27 (.tmp 3) 2, _, _, _, none⟩) (v := _) rfl (by kernel_rfl) (fun _ _ _ h => h) (Or.inl ⟨by rfl, ?hy31⟩) (by assumption) ?rest31
    case hy31 => (intro w hSw; go_simp <;> with_reducible rfl)
    case rest31 =>
    go_frame
    refine' anyU_take (i := 1) (oi := ⟨some 54, .load 24 (.tmp 53), _, _, _, none⟩) (v := _) rfl (by kernel_rfl) (fun _ _ _ h => h) (Or.inl ⟨by rfl, ?hy32⟩) (by assumption) ?rest32
    case hy32 => (intro w hSw; obtain s0 := hSw; go_simp <;> with_reducible rfl)
    case rest32 =>
    go_frame
    refine' anyU_take0 (i := 2) (oi := ⟨some 55, .move (.tmp 8), _, _, _, none⟩) (v := _) rfl (by kernel_rfl) (fun _ _ _ h => h) (Or.inl ⟨by rfl, ?hy33⟩) (by assumption) ?rest33
    case hy33 => (intro w hSw; go_simp <;> with_reducible rfl)
    case rest33 =>
    go_frame
    refine' anyU_take0 (i := 3) (oi := ⟨some 56, .slice 24 (.tmp 54) none (some (.tmp 55)) none, _, _, _, none⟩) (v := .slice A2 p c2) rfl (by kernel_rfl) (fun _ _ _ h => h) (Or.inl ⟨by rfl, ?hy34⟩) (by assumption) ?rest34
    case hy34 => (intro w hSw; exact exec_cut (x := .tmp 54) (lo := none) (hi := (some (.tmp 55))) rfl (v := .slice A2 b c2) rfl (l := none) rfl (h := some (.int .i64 (p : Int))) rfl (HK2.out _))
    case rest34 =>
    go_frame
    refine' anyU_take0 (i := 4) (oi := ⟨some 57, .move (.tmp 2), _, _, _, none⟩) (v := _) rfl (by kernel_rfl) (fun _ _ _ h => h) (Or.inl ⟨by rfl, ?hy35⟩) (by assumption) ?rest35
    case hy35 => (intro w hSw; go_simp <;> with_reducible rfl)
    case rest35 =>
    go_frame
    refine' anyU_take0 (i := 6) (oi := ⟨some 59, .fieldAddr 27 (.tmp 3) 2, _, _, _, none⟩) (v := _) rfl (by kernel_rfl) (fun _ _ _ h => h) (Or.inl ⟨by rfl, ?hy36⟩) (by assumption) ?rest36
    case hy36 => (intro w hSw; go_simp <;> with_reducible rfl)
    case rest36 =>
    go_frame
    refine' anyU_take (i := 7) (oi := ⟨some 60, .load 24 (.tmp 59), _, _, _, none⟩) (v := _) rfl (by kernel_rfl) (fun _ _ _ h => h) (Or.inl ⟨by rfl, ?hy37⟩) (by assumption) ?rest37
    case hy37 => (intro w hSw; obtain s0 := hSw; go_simp <;> with_reducible rfl)
    case rest37 =>
    go_frame
    refine' anyU_take0 (i := 8) (oi := ⟨some 61, .move (.tmp 10), _, _, _, none⟩) (v := _) rfl (by kernel_rfl) (fun _ _ _ h => h) (Or.inl ⟨by rfl, ?hy38⟩) (by assumption) ?rest38
    case hy38 => (intro w hSw; go_simp <;> with_reducible rfl)
    case rest38 =>
    go_frame
    refine' anyU_take0 (i := 9) (oi := ⟨some 62, .slice 24 (.tmp 60) (some (.tmp 61)) none none, _, _, _, none⟩) (v := .slice F2 (b - (p + 1)) (c2 - (p + 1))) rfl (by kernel_rfl) (fun _ _ _ h => h) (Or.inl ⟨by rfl, ?hy39⟩) (by assumption) ?rest39
    case hy39 => (intro w hSw; exact exec_cut (x := .tmp 60) (lo := (some (.tmp 61))) (hi := none) rfl (v := .slice A2 b c2) rfl (l := some (.int .i64 ((p : Int) + 1))) rfl (h := none) rfl (HK4.out _))
    case rest39 =>
    go_frame
    refine anyU_ready (rs := [5]) (by kernel_rfl) (by simp) (AllU.cons (o := ⟨some 58, .buildSlice 24 1 #[(0, .tmp 57)], _, _, _, none⟩) rfl (fun K hK => ?_) (fun h => absurd h (by decide)) AllU.nil)
    rw [if_pos (by rfl)]
    have Sxwfa := HS_wfa.out.box.c2
    go_simp
    rw [← HE_wfa.out]
    refine hK.out _ _ (fun _ => Sxwfa) ?_
    clear hK K
    try go_frame
    refine anyU_ready (rs := [10]) (by kernel_rfl) (by simp) (AllU.cons (o := ⟨some 63, .buildSlice 79 3 #[(0, .tmp 56), (1, .tmp 58), (2, .tmp 62)], _, _, _, none⟩) rfl (fun K hK => ?_) (fun h => absurd h (by decide)) AllU.nil)
    rw [if_pos (by rfl)]
    have Sxwfb := HS_wfb.out.box.c2
    go_simp
    rw [← HE_wfb.out]
    refine hK.out _ _ (fun _ => Sxwfb) ?_
    clear hK K
    try go_frame
    refine anyU_ready (rs := [11]) (by kernel_rfl) (by simp) (AllU.cons (o := ⟨some 64, .call { callee := .value (.func 40), args := #[.tmp 63], argTypes := #[79] }, _, _, _, none⟩) rfl (fun K hK => ?_) (fun h => absurd h (by decide)) AllU.nil)
    rw [if_pos (by rfl)]
    go_simp
    refine HCat.out.mono ?_
    rintro e wz ⟨AV, nV, cV, rfl, hz, hoz, hbz⟩
    have HS_z := Lib.hid hz
    have HO_z := Lib.hid hoz
    have HO_y := Lib.hid (PtW.rowKept HO_wf.out hbz)
    have Sxz := hz.box.c2
    dsimp only
    refine hK.out _ _ (fun _ => Sxz) ?_
    clear hK K hz hoz hbz
    try go_frame
    obtain ⟨y0, y1, y2, y3, f0, f1, f2, f3⟩ := out_cells HS_z.out.top
    refine' anyU_take0 (i := 12) (oi := ⟨some 65, .fieldAddr 27 (.tmp 3) 2, _, _, _, none⟩) (v := _) rfl (by kernel_rfl) (fun _ _ _ h => h) (Or.inl ⟨by rfl, ?hy40⟩) (by assumption) ?rest40
    case hy40 => (intro w hSw; go_simp <;> with_reducible rfl)
    case rest40 =>
    go_frame
    refine anyU_ready (rs := [13]) (by kernel_rfl) (by simp) (AllU.cons (o := ⟨none, .store 24 (.tmp 65) (.tmp 64), _, _, _, none⟩) rfl (fun K hK => ?_) (fun _ => by kernel_rfl) AllU.nil)
    rw [if_pos (by rfl)]
    go_simp
    refine hK.out _ _ (fun h => absurd h (by decide)) ?_
    clear hK K
    try go_frame
    refine anyU_done (by kernel_rfl) ?_ _
    obtain ⟨w6, hW⟩ : ∃ X, X = wz.setCell ⟨w.heap.size, 2, none⟩ (.slice AV nV cV) := ⟨_, rfl⟩
    have hs := HS_z.out.setV (.slice AV nV cV)
    have ho := PtW.rowSet HO_z.out 2 (.slice AV nV cV)
    have hq := PtW.rowSet HO_y.out 2 (.slice AV nV cV)
    rw [← hW] at hs ho hq
    rw [← hW]
    have HS_w6 := Lib.hid hs
    have HO_w6 := Lib.hid ho
    have HQ_w6 := Lib.hid hq
    clear hW hs ho hq y0 y1 y2 y3 f0 f1 f2 f3 HS_z HO_z S0 hHeld HS_wfa HE_wfa Sxwfa HS_wfb HE_wfb Sxwfb HS_wf Sxz HCat
    have his : NdIs w6 w6.heap.size (.slice AK nK cK) (.slice AV nV cV) (.slice A3 d c3) (n.put key val) := ⟨by rw [HE1.out]; exact HQ_w6.out.rd, by rw [HE2.out]; exact HO_w6.out.rd, by
      have hk := (HN.out.kids.below HS_w6.out.below).more HS_w6.out.below.size
      rw [HNk.out] at hk
      exact hk⟩
    have hco := copied_as his (lf := true) rfl HSm.out HSl.out
    obtain ⟨x0, x1, x2, x3⟩ := HS_w6.out.box
    have HCo := Lib.hid hco
    clear his hco
    go_wp2_with fail
    refine HCo.out.mono ?_
    rintro e w9 ⟨X1, i1, j1, X2, i2, j2, X3, i3, j3, rfl, hn9, hb9⟩
    have hs9 := HS_w6.out.kept hb9
    have hlt := HS_w6.out.lt
    clear x0 x1 x2 x3
    obtain ⟨y0, y1, y2, y3, f0, f1, f2, f3⟩ := out_cells hs9.out
    obtain ⟨W, hW⟩ : ∃ W, W = store4 w9 (w.heap.size + 1) true (.slice X1 i1 j1) (.slice X2 i2 j2) (.slice X3 i3 j3) := ⟨_, rfl⟩
    have hbox := box_of_top (store4_top (lf := true) (K := .slice X1 i1 j1) (V := .slice X2 i2 j2) (D := .slice X3 i3 j3) hs9.out)
    have hfi := hn9.store4 (lf := true) (K := .slice X1 i1 j1) (V := .slice X2 i2 j2) (D := .slice X3 i3 j3) (N := w.heap.size + 1) hlt
    have hfb := hs9.below.trans (store4_below (w := w9) (lf := true) (K := .slice X1 i1 j1) (V := .slice X2 i2 j2) (D := .slice X3 i3 j3) (show w.heap.size ≤ w.heap.size + 1 by omega))
    rw [← hW] at hbox hfi hfb
    have hfi := hfi.weaken (b1 := w.heap.size) (by omega)
    obtain ⟨q0, q1, q2, q3⟩ := hbox
    have HFi := Lib.hid hfi
    have HFb := Lib.hid hfb
    have HWW := Lib.hid hW
    clear hfi hfb hW hn9 hb9 hs9 hlt
    go_wp2_with fail
    have hW := HWW.out
    unfold store4 at hW
    rw [← hW]
    exact bodyPost_ret (v := .tuple #[ndVal true (.slice X1 i1 j1) (.slice X2 i2 j2) (.slice X3 i3 j3), .bool true]) (by simp [results, Try.results19, go_sem, q0, q1, q2, q3]) rfl ⟨_, _, _, rfl, HFi.out, HFb.out⟩
set_option maxRecDepth 100000 in
set_option maxHeartbeats 4000000 in
theorem del_good {n : Nd} {K V D kv : Value} {key : List UInt8} {w : World} (hn : NdIs w w.heap.size K V D n) (hk : Rd w w.heap.size kv (cellsB key)) (hsh : n.Short 40000) (hG : n.MayDel key) :
    Calls Try.prog 20 #[ndVal true K V D, kv] w fun e w' => PutOut (n.del key) w e w' := by
  obtain ⟨hln, hs, hth⟩ := hG
  have hsh1 : n.Short 1000000 := ⟨by have := hsh.1; omega, by have := hsh.2.1; omega, by have := hsh.2.2; omega⟩
  have hnk : n.kids = [] := List.eq_nil_of_length_eq_zero (hs.ofLeaf hln).1
  have hvk : n.vals.length = n.keys.length := (hs.ofLeaf hln).2
  have hsm : (n.del key).Short 1000000 := ⟨Nat.le_trans delL_len (by have := hsh.1; omega), Nat.le_trans delL_len (by have := hsh.2.1; omega), Nat.zero_le _⟩
  have hsl := Nd.del_small hs (key := key)
  have hfi := fun (W : World) (hW : Below w.heap.size w W) => find_any ((hn.below hW).more hW.size) (Nat.le_refl _) ((hk.below hW).more hW.size) (Nat.le_refl _) hsh1.1
  have hs1 := fun (W : World) (hW : Below w.heap.size w W) => sound_any ((hn.below hW).more hW.size) (Nat.le_refl _) hsh1
  rw [hln] at hfi hs1
  rw [sndB_iff.2 hs] at hs1
  have hple := isN_lt hs.keys hth
  obtain ⟨A1, c1, A2, c2, A3, c3, rfl, rfl, rfl⟩ := hn.form
  have hg1 := hn.keys.len.2.1
  have hg2 := hn.vals.len.2.1
  obtain ⟨Ak, ck, rfl, -, -, -⟩ := hk.bytes
  obtain ⟨a, ha⟩ : ∃ x, x = n.keys.length := ⟨_, rfl⟩
  obtain ⟨b, hb⟩ : ∃ x, x = n.vals.length := ⟨_, rfl⟩
  obtain ⟨d, hd⟩ : ∃ x, x = n.kids.length := ⟨_, rfl⟩
  obtain ⟨kl, hkl⟩ : ∃ x, x = key.length := ⟨_, rfl⟩
  obtain ⟨p, hp⟩ : ∃ x, x = atN n.keys key := ⟨_, rfl⟩
  rw [show belowN n.keys key n.keys.length = p from hp.symm, show hasN n.keys key n.keys.length = true from hth] at hfi
  rw [← hkl] at hfi hk
  rw [← ha, ← hb, ← hd] at hfi hs1 hn
  rw [← ha] at hvk hg1
  rw [← hb] at hvk hg2
  rw [← hp, ← ha] at hple
  have ha4 : a ≤ 40000 := by rw [ha]; exact hsh.1
  have he1 : (n.del key).keys = n.keys.take p ++ n.keys.drop (p + 1) := by rw [hp]; rfl
  have he2 : (n.del key).vals = n.vals.take p ++ n.vals.drop (p + 1) := by rw [hp]; rfl
  have hlk : n.keys.length = a := ha.symm
  have hlv : n.vals.length = b := hb.symm
  rw [← ha, ← hb, ← hd, ← hkl]
  have hst := PtW.start (w0 := w) (lf := true) (tK := .slice A1 a c1) (tV := .slice A2 b c2) (tD := .slice A3 d c3)
  obtain ⟨x0, x1, x2, x3⟩ := hst.box
  have hcc := hs1 _ hst.below
  have HSt := Lib.hid hst
  have HN := Lib.hid hn
  have HK := Lib.hid hk
  have HFi := Lib.hid hfi
  have HE1 := Lib.hid he1
  have HE2 := Lib.hid he2
  have HLk := Lib.hid (And.intro hlk hlv)
  have HNk := Lib.hid hnk
  have HSm := Lib.hid hsm
  have HSl := Lib.hid hsl
  have HNum := Lib.hid (And.intro hvk (And.intro hple (And.intro hg1 (And.intro hg2 ha4))))
  have hp4 : p ≤ 40000 := by omega
  clear hn hk hst hs1 hfi he1 he2 hlk hlv hnk hsm hsl hvk hple hg1 hg2 ha4 ha hb hd hkl hp hth hsh hsh1 hs hln
  go_enter Try.func20, Try.ntmps20
  go_wp2_with fail
  refine hcc.mono ?_
  rintro e w1 ⟨rfl, hb1⟩
  have HS1 := Lib.hid (HSt.out.kept hb1)
  have hfc := HFi.out w1 HS1.out.below
  clear x0 x1 x2 x3 hcc hb1 HSt HFi
  obtain ⟨x0, x1, x2, x3⟩ := HS1.out.box
  go_wp2_with fail
  refine hfc.mono ?_
  rintro e w4 ⟨rfl, hb4⟩
  have HS_4 := Lib.hid (HS1.out.kept hb4)
  clear hfc hb4 x0 x1 x2 x3 HS1
  obtain ⟨hvk, hple, hg1, hg2, ha4⟩ := HNum.out
  obtain ⟨iT, hiT, hT0, hT1, hT2⟩ := info_parts info_row
  have hk1 := cut_h (P := Try.prog) Try.underlying24 hiT hT1 A1 a c1 p (by omega) _ rfl
  have hk2 := cut_h (P := Try.prog) Try.underlying24 hiT hT1 A2 b c2 p (by omega) _ rfl
  obtain ⟨F1, hF1, hk3⟩ := cut_l (P := Try.prog) Try.underlying24 hiT hT1 A1 a c1 (p + 1) (by omega) (IntKind.i64.wrap ((p : Int) + 1)) (by rw [IntWalk.i64_in _ (by omega)]; omega)
  obtain ⟨F2, hF2, hk4⟩ := cut_l (P := Try.prog) Try.underlying24 hiT hT1 A2 b c2 (p + 1) (by omega) (IntKind.i64.wrap ((p : Int) + 1)) (by rw [IntWalk.i64_in _ (by omega)]; omega)
  have hlo1 := HN.out.keys.upto (show p ≤ a by omega)
  have hlo2 := HN.out.vals.upto (show p ≤ b by omega)
  have hup1 := HN.out.keys.behind (show p + 1 ≤ a by omega)
  have hup2 := HN.out.vals.behind (show p + 1 ≤ b by omega)
  rw [← hF1] at hup1
  rw [← hF2] at hup2
  have HK1 := Lib.hid hk1
  have HK2 := Lib.hid hk2
  have HK3 := Lib.hid hk3
  have HK4 := Lib.hid hk4
  have HLo1 := Lib.hid hlo1
  have HLo2 := Lib.hid hlo2
  have HUp1 := Lib.hid hup1
  have HUp2 := Lib.hid hup2
  clear hk1 hk2 hk3 hk4 hiT hT0 hT1 hT2 hF1 hF2 hlo1 hlo2 hup1 hup2
  clear hvk hple hg1 hg2 ha4
  go_wp2_with fail
  obtain ⟨wd, hwd⟩ : ∃ x, x = w4.drew := ⟨_, rfl⟩
  have HS_wd : Hid (PtW w wd true (.slice A1 a c1) (.slice A2 b c2) (.slice A3 d c3)) := Lib.hid (by rw [hwd]; exact HS_4.out.kept (Below.refl _ _).drew)
  have Zwd := Lib.hid (show wd.heap.size = w4.heap.size by rw [hwd]; rfl)
  have S0 : (fun w' => w'.cell? ⟨w.heap.size, 1, none⟩ = some (.slice A1 a c1)) wd := HS_wd.out.box.c1
  have hcat := HS_wd.out.cat HLo1.out HUp1.out (by have := HLk.out.1; have := HLk.out.2; obtain ⟨hvk, -, -, -, ha4⟩ := HNum.out; simp; omega)
  obtain ⟨wdb, hwdb⟩ : ∃ u, u = wd.alloc (.cells #[.slice A1 p c1, .slice F1 (a - (p + 1)) (c1 - (p + 1))] 24) := ⟨_, rfl⟩
  have zwdb : wdb.heap.size = wd.heap.size + 1 := by rw [hwdb]; simp
  have HS_wdb : Hid (PtW w wdb true (.slice A1 a c1) (.slice A2 b c2) (.slice A3 d c3)) := Lib.hid (by rw [hwdb]; exact HS_wd.out.kept ((Below.refl _ _).alloc (Nat.le_refl _) _))
  rw [← hwdb] at hcat
  have HCat := Lib.hid hcat
  have HE_wdb := Lib.hid hwdb
  clear hcat hwdb zwdb
  refine wp_region_late (S := fun w' => w'.cell? ⟨w.heap.size, 1, none⟩ = some (.slice A1 a c1)) [12] (by kernel_rfl) (by rw [← hwd]; exact S0) (fun hHeld => ?_)
  rw [← hwd]
  clear hwd
  refine' anyU_take0 (i := 0) (oi := ⟨some 26, .fieldAddr 27 (.tmp 2) 1, _, _, _, none⟩) (v := _) rfl (by kernel_rfl) (fun _ _ _ h => h) (Or.inl ⟨by rfl, ?hy41⟩) (by assumption) ?rest41
  case hy41 => (intro w hSw; go_simp <;> with_reducible rfl)
  case rest41 =>
  go_frame
  refine' anyU_take (i := 1) (oi := ⟨some 27, .load 24 (.tmp 26), _, _, _, none⟩) (v := _) rfl (by kernel_rfl) (fun _ _ _ h => h) (Or.inl ⟨by rfl, ?hy42⟩) (by assumption) ?rest42
  case hy42 => (intro w hSw; obtain s0 := hSw; go_simp <;> with_reducible rfl)
  case rest42 =>
  go_frame
  refine' anyU_take0 (i := 2) (oi := ⟨some 28, .move (.tmp 6), _, _, _, none⟩) (v := _) rfl (by kernel_rfl) (fun _ _ _ h => h) (Or.inl ⟨by rfl, ?hy43⟩) (by assumption) ?rest43
  case hy43 => (intro w hSw; go_simp <;> with_reducible rfl)
  case rest43 =>
  go_frame
  refine' anyU_take0 (i := 3) (oi := ⟨some 29, .slice 24 (.tmp 27) none (some (.tmp 28)) none, _, _, _, none⟩) (v := .slice A1 p c1) rfl (by kernel_rfl) (fun _ _ _ h => h) (Or.inl ⟨by rfl, ?hy44⟩) (by assumption) ?rest44
  case hy44 => (intro w hSw; exact exec_cut (x := .tmp 27) (lo := none) (hi := (some (.tmp 28))) rfl (v := .slice A1 a c1) rfl (l := none) rfl (h := some (.int .i64 (p : Int))) rfl (HK1.out _))
  case rest44 =>
  go_frame
  refine' anyU_take0 (i := 4) (oi := ⟨some 30, .fieldAddr 27 (.tmp 2) 1, _, _, _, none⟩) (v := _) rfl (by kernel_rfl) (fun _ _ _ h => h) (Or.inl ⟨by rfl, ?hy45⟩) (by assumption) ?rest45
  case hy45 => (intro w hSw; go_simp <;> with_reducible rfl)
  case rest45 =>
  go_frame
  refine' anyU_take (i := 5) (oi := ⟨some 31, .load 24 (.tmp 30), _, _, _, none⟩) (v := _) rfl (by kernel_rfl) (fun _ _ _ h => h) (Or.inl ⟨by rfl, ?hy46⟩) (by assumption) ?rest46
  case hy46 => (intro w hSw; obtain s0 := hSw; go_simp <;> with_reducible rfl)
  case rest46 =>
  go_frame
  refine' anyU_take0 (i := 6) (oi := ⟨some 32, .move (.tmp 6), _, _, _, none⟩) (v := _) rfl (by kernel_rfl) (fun _ _ _ h => h) (Or.inl ⟨by rfl, ?hy47⟩) (by assumption) ?rest47
  case hy47 => (intro w hSw; go_simp <;> with_reducible rfl)
  case rest47 =>
  go_frame
  refine' anyU_take0 (i := 7) (oi := ⟨some 33, .binOp .add 3 (.tmp 32) (.const (.int .i64 1)) 3, _, _, _, none⟩) (v := _) rfl (by kernel_rfl) (fun _ _ _ h => h) (Or.inl ⟨by rfl, ?hy48⟩) (by assumption) ?rest48
  case hy48 => (intro w hSw; go_simp <;> with_reducible rfl)
  case rest48 =>
  go_frame
  refine' anyU_take0 (i := 8) (oi := ⟨some 34, .slice 24 (.tmp 31) (some (.tmp 33)) none none, _, _, _, none⟩) (v := .slice F1 (a - (p + 1)) (c1 - (p + 1))) rfl (by kernel_rfl) (fun _ _ _ h => h) (Or.inl ⟨by rfl, ?hy49⟩) (by assumption) ?rest49
  case hy49 => (intro w hSw; exact exec_cut (x := .tmp 31) (lo := (some (.tmp 33))) (hi := none) rfl (v := .slice A1 a c1) rfl (l := some (.int .i64 (IntKind.i64.wrap ((p : Int) + 1)))) rfl (h := none) rfl (HK3.out _))
  case rest49 =>
  go_frame
  refine anyU_ready (rs := [9]) (by kernel_rfl) (by simp) (AllU.cons (o := ⟨some 35, .buildSlice 79 2 #[(0, .tmp 29), (1, .tmp 34)], _, _, _, none⟩) rfl (fun K hK => ?_) (fun h => absurd h (by decide)) AllU.nil)
  rw [if_pos (by rfl)]
  have Sxwdb := HS_wdb.out.box.c1
  go_simp
  rw [← HE_wdb.out]
  refine hK.out _ _ (fun _ => Sxwdb) ?_
  clear hK K
  try go_frame
  refine anyU_ready (rs := [10]) (by kernel_rfl) (by simp) (AllU.cons (o := ⟨some 36, .call { callee := .value (.func 40), args := #[.tmp 35], argTypes := #[79] }, _, _, _, none⟩) rfl (fun K hK => ?_) (fun h => absurd h (by decide)) AllU.nil)
  rw [if_pos (by rfl)]
  go_simp
  refine HCat.out.mono ?_
  rintro e wz ⟨AK, nK, cK, rfl, hz, hoz, hbz⟩
  have HS_z := Lib.hid hz
  have HO_z := Lib.hid hoz
  
  have Sxz := hz.box.c1
  dsimp only
  refine hK.out _ _ (fun _ => Sxz) ?_
  clear hK K hz hoz hbz
  try go_frame
  obtain ⟨y0, y1, y2, y3, f0, f1, f2, f3⟩ := out_cells HS_z.out.top
  refine' anyU_take0 (i := 11) (oi := ⟨some 37, .fieldAddr 27 (.tmp 2) 1, _, _, _, none⟩) (v := _) rfl (by kernel_rfl) (fun _ _ _ h => h) (Or.inl ⟨by rfl, ?hy50⟩) (by assumption) ?rest50
  case hy50 => (intro w hSw; go_simp <;> with_reducible rfl)
  case rest50 =>
  go_frame
  refine anyU_ready (rs := [12]) (by kernel_rfl) (by simp) (AllU.cons (o := ⟨none, .store 24 (.tmp 37) (.tmp 36), _, _, _, none⟩) rfl (fun K hK => ?_) (fun _ => by kernel_rfl) AllU.nil)
  rw [if_pos (by rfl)]
  go_simp
  refine hK.out _ _ (fun h => absurd h (by decide)) ?_
  clear hK K
  try go_frame
  refine anyU_done (by kernel_rfl) ?_ _
  obtain ⟨w5, hW⟩ : ∃ X, X = wz.setCell ⟨w.heap.size, 1, none⟩ (.slice AK nK cK) := ⟨_, rfl⟩
  have hs := HS_z.out.setK (.slice AK nK cK)
  have ho := PtW.rowSet HO_z.out 1 (.slice AK nK cK)
  rw [← hW] at hs ho
  rw [← hW]
  have HS_w5 := Lib.hid hs
  have HO_w5 := Lib.hid ho
  clear hW hs ho y0 y1 y2 y3 f0 f1 f2 f3 HS_z HO_z S0 hHeld HS_wdb HE_wdb Sxwdb HS_wd Sxz HCat
  go_wp2_with fail
  obtain ⟨wf, hwf⟩ : ∃ x, x = w5.drew := ⟨_, rfl⟩
  have HS_wf : Hid (PtW w wf true (.slice AK nK cK) (.slice A2 b c2) (.slice A3 d c3)) := Lib.hid (by rw [hwf]; exact HS_w5.out.kept (Below.refl _ _).drew)
  have Zwf := Lib.hid (show wf.heap.size = w5.heap.size by rw [hwf]; rfl)
  have S0 : (fun w' => w'.cell? ⟨w.heap.size, 2, none⟩ = some (.slice A2 b c2)) wf := HS_wf.out.box.c2
  have HO_wf : Hid (OwnT wf w.heap.size (w.heap.size + 2) (.slice AK nK cK) (n.keys.take p ++ n.keys.drop (p + 1))) := Lib.hid (by rw [hwf]; exact PtW.rowKept HO_w5.out (Below.refl _ _).drew)
  have hcat := HS_wf.out.cat HLo2.out HUp2.out (by have := HLk.out.1; have := HLk.out.2; obtain ⟨hvk, -, -, -, ha4⟩ := HNum.out; simp; omega)
  obtain ⟨wfb, hwfb⟩ : ∃ u, u = wf.alloc (.cells #[.slice A2 p c2, .slice F2 (b - (p + 1)) (c2 - (p + 1))] 24) := ⟨_, rfl⟩
  have zwfb : wfb.heap.size = wf.heap.size + 1 := by rw [hwfb]; simp
  have HS_wfb : Hid (PtW w wfb true (.slice AK nK cK) (.slice A2 b c2) (.slice A3 d c3)) := Lib.hid (by rw [hwfb]; exact HS_wf.out.kept ((Below.refl _ _).alloc (Nat.le_refl _) _))
  rw [← hwfb] at hcat
  have HCat := Lib.hid hcat
  have HE_wfb := Lib.hid hwfb
  clear hcat hwfb zwfb
  refine wp_region_late (S := fun w' => w'.cell? ⟨w.heap.size, 2, none⟩ = some (.slice A2 b c2)) [12] (by kernel_rfl) (by rw [← hwf]; exact S0) (fun hHeld => ?_)
  rw [← hwf]
  clear hwf
  refine' anyU_take0 (i := 0) (oi := ⟨some 38, .fieldAddr 27 (.tmp 2) 2, _, _, _, none⟩) (v := _) rfl (by kernel_rfl) (fun _ _ _ h => h) (Or.inl ⟨by rfl, ?hy51⟩) (by assumption) ?rest51
  case hy51 => (intro w hSw; go_simp <;> with_reducible rfl)
  case rest51 =>
  go_frame
  refine' anyU_take (i := 1) (oi := ⟨some 39, .load 24 (.tmp 38), _, _, _, none⟩) (v := _) rfl (by kernel_rfl) (fun _ _ _ h => h) (Or.inl ⟨by rfl, ?hy52⟩) (by assumption) ?rest52
  case hy52 => (intro w hSw; obtain s0 := hSw; go_simp <;> with_reducible rfl)
  case rest52 =>
  go_frame
  refine' anyU_take0 (i := 2) (oi := ⟨some 40, .move (.tmp 6), _, _, _, none⟩) (v := _) rfl (by kernel_rfl) (fun _ _ _ h => h) (Or.inl ⟨by rfl, ?hy53⟩) (by assumption) ?rest53
  case hy53 => (intro w hSw; go_simp <;> with_reducible rfl)
  case rest53 =>
  go_frame
  refine' anyU_take0 (i := 3) (oi := ⟨some 41, .slice 24 (.tmp 39) none (some (.tmp 40)) none, _, _, _, none⟩) (v := .slice A2 p c2) rfl (by kernel_rfl) (fun _ _ _ h => h) (Or.inl ⟨by rfl, ?hy54⟩) (by assumption) ?rest54
  case hy54 => (intro w hSw; exact exec_cut (x := .tmp 39) (lo := none) (hi := (some (.tmp 40))) rfl (v := .slice A2 b c2) rfl (l := none) rfl (h := some (.int .i64 (p : Int))) rfl (HK2.out _))
  case rest54 =>
  go_frame
  refine' anyU_take0 (i := 4) (oi := ⟨some 42, .fieldAddr 27 (.tmp 2) 2, _, _, _, none⟩) (v := _) rfl (by kernel_rfl) (fun _ _ _ h => h) (Or.inl ⟨by rfl, ?hy55⟩) (by assumption) ?rest55
  case hy55 => (intro w hSw; go_simp <;> with_reducible rfl)
  case rest55 =>
  go_frame
  refine' anyU_take (i := 5) (oi := ⟨some 43, .load 24 (.tmp 42), _, _, _, none⟩) (v := _) rfl (by kernel_rfl) (fun _ _ _ h => h) (Or.inl ⟨by rfl, ?hy56⟩) (by assumption) ?rest56
  case hy56 => (intro w hSw; obtain s0 := hSw; go_simp <;> with_reducible rfl)
  case rest56 =>
  go_frame
  refine' anyU_take0 (i := 6) (oi := ⟨some 44, .move (.tmp 6), _, _, _, none⟩) (v := _) rfl (by kernel_rfl) (fun _ _ _ h => h) (Or.inl ⟨by rfl, ?hy57⟩) (by assumption) ?rest57
  case hy57 => (intro w hSw; go_simp <;> with_reducible rfl)
  case rest57 =>
  go_frame
  refine' anyU_take0 (i := 7) (oi := ⟨some 45, .binOp .add 3 (.tmp 44) (.const (.int .i64 1)) 3, _, _, _, none⟩) (v := _) rfl (by kernel_rfl) (fun _ _ _ h => h) (Or.inl ⟨by rfl, ?hy58⟩) (by assumption) ?rest58
  case hy58 => (intro w hSw; go_simp <;> with_reducible rfl)
  case rest58 =>
  go_frame
  refine' anyU_take0 (i := 8) (oi := ⟨some 46, .slice 24 (.tmp 43) (some (.tmp 45)) none none, _, _, _, none⟩) (v := .slice F2 (b - (p + 1)) (c2 - (p + 1))) rfl (by kernel_rfl) (fun _ _ _ h => h) (Or.inl ⟨by rfl, ?hy59⟩) (by assumption) ?rest59
  case hy59 => (intro w hSw; exact exec_cut (x := .tmp 43) (lo := (some (.tmp 45))) (hi := none) rfl (v := .slice A2 b c2) rfl (l := some (.int .i64 (IntKind.i64.wrap ((p : Int) + 1)))) rfl (h := none) rfl (HK4.out _))
  case rest59 =>
  go_frame
  refine anyU_ready (rs := [9]) (by kernel_rfl) (by simp) (AllU.cons (o := ⟨some 47, .buildSlice 79 2 #[(0, .tmp 41), (1, .tmp 46)], _, _, _, none⟩) rfl (fun K hK => ?_) (fun h => absurd h (by decide)) AllU.nil)
  rw [if_pos (by rfl)]
  have Sxwfb := HS_wfb.out.box.c2
  go_simp
  rw [← HE_wfb.out]
  refine hK.out _ _ (fun _ => Sxwfb) ?_
  clear hK K
  try go_frame
  refine anyU_ready (rs := [10]) (by kernel_rfl) (by simp) (AllU.cons (o := ⟨some 48, .call { callee := .value (.func 40), args := #[.tmp 47], argTypes := #[79] }, _, _, _, none⟩) rfl (fun K hK => ?_) (fun h => absurd h (by decide)) AllU.nil)
  rw [if_pos (by rfl)]
  go_simp
  refine HCat.out.mono ?_
  rintro e wz ⟨AV, nV, cV, rfl, hz, hoz, hbz⟩
  have HS_z := Lib.hid hz
  have HO_z := Lib.hid hoz
  have HO_y := Lib.hid (PtW.rowKept HO_wf.out hbz)
  have Sxz := hz.box.c2
  dsimp only
  refine hK.out _ _ (fun _ => Sxz) ?_
  clear hK K hz hoz hbz
  try go_frame
  obtain ⟨y0, y1, y2, y3, f0, f1, f2, f3⟩ := out_cells HS_z.out.top
  refine' anyU_take0 (i := 11) (oi := ⟨some 49, .fieldAddr 27 (.tmp 2) 2, _, _, _, none⟩) (v := _) rfl (by kernel_rfl) (fun _ _ _ h => h) (Or.inl ⟨by rfl, ?hy60⟩) (by assumption) ?rest60
  case hy60 => (intro w hSw; go_simp <;> with_reducible rfl)
  case rest60 =>
  go_frame
  refine anyU_ready (rs := [12]) (by kernel_rfl) (by simp) (AllU.cons (o := ⟨none, .store 24 (.tmp 49) (.tmp 48), _, _, _, none⟩) rfl (fun K hK => ?_) (fun _ => by kernel_rfl) AllU.nil)
  rw [if_pos (by rfl)]
  go_simp
  refine hK.out _ _ (fun h => absurd h (by decide)) ?_
  clear hK K
  try go_frame
  refine anyU_done (by kernel_rfl) ?_ _
  obtain ⟨w6, hW⟩ : ∃ X, X = wz.setCell ⟨w.heap.size, 2, none⟩ (.slice AV nV cV) := ⟨_, rfl⟩
  have hs := HS_z.out.setV (.slice AV nV cV)
  have ho := PtW.rowSet HO_z.out 2 (.slice AV nV cV)
  have hq := PtW.rowSet HO_y.out 2 (.slice AV nV cV)
  rw [← hW] at hs ho hq
  rw [← hW]
  have HS_w6 := Lib.hid hs
  have HO_w6 := Lib.hid ho
  have HQ_w6 := Lib.hid hq
  clear hW hs ho hq y0 y1 y2 y3 f0 f1 f2 f3 HS_z HO_z S0 hHeld HS_wfb HE_wfb Sxwfb HS_wf Sxz HCat
  have his : NdIs w6 w6.heap.size (.slice AK nK cK) (.slice AV nV cV) (.slice A3 d c3) (n.del key) := ⟨by rw [HE1.out]; exact HQ_w6.out.rd, by rw [HE2.out]; exact HO_w6.out.rd, by
    have hk := (HN.out.kids.below HS_w6.out.below).more HS_w6.out.below.size
    rw [HNk.out] at hk
    exact hk⟩
  have hco := copied_as his (lf := true) rfl HSm.out HSl.out
  obtain ⟨x0, x1, x2, x3⟩ := HS_w6.out.box
  have HCo := Lib.hid hco
  clear his hco
  go_wp2_with fail
  refine HCo.out.mono ?_
  rintro e w9 ⟨X1, i1, j1, X2, i2, j2, X3, i3, j3, rfl, hn9, hb9⟩
  have hs9 := HS_w6.out.kept hb9
  have hlt := HS_w6.out.lt
  clear x0 x1 x2 x3
  obtain ⟨y0, y1, y2, y3, f0, f1, f2, f3⟩ := out_cells hs9.out
  obtain ⟨W, hW⟩ : ∃ W, W = store4 w9 (w.heap.size + 1) true (.slice X1 i1 j1) (.slice X2 i2 j2) (.slice X3 i3 j3) := ⟨_, rfl⟩
  have hbox := box_of_top (store4_top (lf := true) (K := .slice X1 i1 j1) (V := .slice X2 i2 j2) (D := .slice X3 i3 j3) hs9.out)
  have hfi := hn9.store4 (lf := true) (K := .slice X1 i1 j1) (V := .slice X2 i2 j2) (D := .slice X3 i3 j3) (N := w.heap.size + 1) hlt
  have hfb := hs9.below.trans (store4_below (w := w9) (lf := true) (K := .slice X1 i1 j1) (V := .slice X2 i2 j2) (D := .slice X3 i3 j3) (show w.heap.size ≤ w.heap.size + 1 by omega))
  rw [← hW] at hbox hfi hfb
  have hfi := hfi.weaken (b1 := w.heap.size) (by omega)
  obtain ⟨q0, q1, q2, q3⟩ := hbox
  have HFi := Lib.hid hfi
  have HFb := Lib.hid hfb
  have HWW := Lib.hid hW
  clear hfi hfb hW hn9 hb9 hs9 hlt
  go_wp2_with fail
  have hW := HWW.out
  unfold store4 at hW
  rw [← hW]
  exact bodyPost_ret (v := .tuple #[ndVal true (.slice X1 i1 j1) (.slice X2 i2 j2) (.slice X3 i3 j3), .bool true]) (by simp [results, Try.results20, go_sem, q0, q1, q2, q3]) rfl ⟨_, _, _, rfl, HFi.out, HFb.out⟩
end Go.Proofs.Ytceefoopehoalaa
