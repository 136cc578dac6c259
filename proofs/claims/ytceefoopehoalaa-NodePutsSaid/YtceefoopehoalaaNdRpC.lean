/-
  The document's own Put of layer 7.
-/
import Derived.Test.YtceefoopehoalaaNdRpA
namespace Go.Proofs.Ytceefoopehoalaa
open Go.RowKit
section
variable {p d j : Nat} {x : List UInt8} {xs : List (List UInt8)}
theorem putS_other (h : j ≠ p) (hj : j < xs.length) : putS p d x xs (j + 1) = putS p d x xs j ++ [xs.getD j []] := by
  rw [putS, if_neg h, if_pos ⟨hj, fun g => h g.2⟩, List.append_nil]
theorem putS_past (h : j ≠ p) (hj : ¬ j < xs.length) : putS p d x xs (j + 1) = putS p d x xs j := by
  rw [putS, if_neg h, if_neg (fun g => hj g.1), List.append_nil, List.append_nil]
theorem putS_only (hj : ¬ (p < xs.length ∧ ¬ d = 1)) : putS p d x xs (p + 1) = putS p d x xs p ++ [x] := by
  rw [putS, if_pos rfl, if_neg (fun g => hj ⟨g.1, fun e => g.2 ⟨e, rfl⟩⟩), List.append_nil]
theorem putS_both (hj : p < xs.length) (hd : ¬ d = 1) : putS p d x xs (p + 1) = (putS p d x xs p ++ [x]) ++ [xs.getD p []] := by
  rw [putS, if_pos rfl, if_pos ⟨hj, fun g => hd g.1⟩]
theorem putS_len : ∀ i, (putS p d x xs i).length ≤ 2 * i
  | 0 => Nat.le_refl _
  | i + 1 => by
    have := putS_len i
    rw [putS]
    split <;> split <;> simp <;> omega
end
set_option maxRecDepth 100000 in
set_option maxHeartbeats 8000000 in
theorem rput_any {n : Nd} {K V D kv vv : Value} {key val : List UInt8} {w : World} {B0 : Nat} (hB0 : B0 ≤ w.heap.size) (hn : NdIs w B0 K V D n) (hk : Rd w B0 kv (cellsB key)) (hv : Rd w B0 vv (cellsB val)) (hsh : n.Short 40000) (hG : n.MayPut key val) :
    Calls Try.prog 21 #[ndVal true K V D, kv, vv] w fun e w' => RpOut (n.put key val) B0 w e w' := by
  obtain ⟨hln, hs, hko, hvo⟩ := hG
  have hvk : n.vals.length = n.keys.length := (hs.ofLeaf hln).2
  have hple : atN n.keys key ≤ n.keys.length := atN_le
  have hplt := fun h => isN_lt hs.keys (key := key) h
  have hiff := fun j (h : j < n.keys.length) => isN_iff hs.keys (key := key) h
  have hlo := fun j (h : j < atN n.keys key) => atN_lt hs.keys h
  have hhi := fun j (h : atN n.keys key ≤ j) (g : j < n.keys.length) => atN_ge hs.keys h g
  obtain ⟨A1, c1, A2, c2, A3, c3, rfl, rfl, rfl⟩ := hn.form
  have hadk := fun (h : 0 < n.keys.length) => hn.keys.addr h
  have hadv := fun (h : 0 < n.vals.length) => hn.vals.addr h
  have hck := fun (b o : Nat) (he : A1 = some ⟨b, o, none⟩) j (h : j < n.keys.length) => (show RdAll w B0 (.slice (some ⟨b, o, none⟩) n.keys.length c1) n.keys by rw [← he]; exact hn.keys).cell h
  have hcv := fun (b o : Nat) (he : A2 = some ⟨b, o, none⟩) j (h : j < n.vals.length) => (show RdAll w B0 (.slice (some ⟨b, o, none⟩) n.vals.length c2) n.vals by rw [← he]; exact hn.vals).cell h
  obtain ⟨Ak, ck, rfl, -, -, -⟩ := hk.bytes
  obtain ⟨Av, cv, rfl, -, -, -⟩ := hv.bytes
  obtain ⟨a, ha⟩ : ∃ x, x = n.keys.length := ⟨_, rfl⟩
  obtain ⟨d, hd⟩ : ∃ x, x = n.kids.length := ⟨_, rfl⟩
  obtain ⟨kl, hkl⟩ : ∃ x, x = key.length := ⟨_, rfl⟩
  obtain ⟨vl, hvl⟩ : ∃ x, x = val.length := ⟨_, rfl⟩
  obtain ⟨p, hp⟩ : ∃ x, x = atN n.keys key := ⟨_, rfl⟩
  obtain ⟨th, hth⟩ : ∃ x, x = isN n.keys key := ⟨_, rfl⟩
  have hput : n.put key val = ⟨true, putL p th.toNat key n.keys, putL p th.toNat val n.vals, []⟩ := by rw [hp, hth]; rfl
  have hpt : p + th.toNat ≤ n.keys.length := by
    cases th
    · rw [hp]; exact hple
    · have := hplt hth.symm; rw [hp]; simp; omega
  have hall1 := putS_all (k := p) (d := th.toNat) (x := key) (xs := n.keys) (by cases th <;> simp) hpt
  have hall2 := putS_all (k := p) (d := th.toNat) (x := val) (xs := n.vals) (by cases th <;> simp) (by rw [hvk]; exact hpt)
  rw [hput, hvk]
  rw [hvk] at hcv hall2 hadv
  rw [← hp] at hiff hlo hhi hple
  rw [← hth] at hiff
  rw [← hkl] at hk
  rw [← hvl] at hv
  rw [← ha] at hiff hhi hadk hadv hck hcv hall1 hall2 hple hpt
  have hlk : n.keys.length = a ∧ n.vals.length = a := ⟨ha.symm, by rw [hvk]; exact ha.symm⟩
  rw [← ha, ← hd, ← hkl, ← hvl]
  have ha4 : a ≤ 40000 := by rw [ha]; exact hsh.1
  have hcm := fun (W : World) (hW : Below w.heap.size w W) (b o : Nat) (he : A1 = some ⟨b, o, none⟩) j (h : j < a) (A' : Option Addr) (m c' : Nat) (hr : Rd w B0 (.slice A' m c') (cellsB (n.keys.getD j []))) => cmp_any (hr.below (hW.mono hB0)) (hk.below (hW.mono hB0)) (Nat.le_trans hB0 hW.size) (Nat.le_trans hB0 hW.size) (by have := (hs.keys j (by omega)).1.len; omega) (by have := hko.2; omega)
  have hst := RpW.start (w0 := w) hB0 (K := .slice A1 a c1) (V := .slice A2 a c2) (D := .slice A3 d c3)
  obtain ⟨W0, hW0⟩ : ∃ X, X = ((w.alloc (.cells #[.bool true, .slice A1 a c1, .slice A2 a c2, .slice A3 d c3] 27)).alloc (.cells #[.bool false, .slice none 0 0, .slice none 0 0, .slice none 0 0] 27)).alloc (.cells #[.bool true, .slice none 0 0, .slice none 0 0, .slice none 0 0] 27) := ⟨_, rfl⟩
  rw [← hW0] at hst
  have HW0 := Lib.hid hW0
  have HSt := Lib.hid hst
  have HK := Lib.hid hk
  have HV := Lib.hid hv
  have HIff := Lib.hid hiff
  have HLo := Lib.hid hlo
  have HHi := Lib.hid hhi
  have HAk := Lib.hid hadk
  have HAv := Lib.hid hadv
  have HCk := Lib.hid hck
  have HCv := Lib.hid hcv
  have HCm := Lib.hid hcm
  have HAll := Lib.hid (And.intro hall1 hall2)
  have HLk := Lib.hid hlk
  have HPt := Lib.hid hpt
  have HPl := Lib.hid hple
  clear hW0 hst hn hk hv hsh hiff hlo hhi hadk hadv hck hcv hcm hall1 hall2 hlk hpt hple hplt hvk hs hln hput ha hd hkl hvl hp hth hko hvo
  go_enter Try.func21, Try.ntmps21
  go_wp2_with fail
  rw [← HW0.out]
  clear HW0
  go_loopw [8, 9] (fun dv iv wr => ∃ (k : Nat) (q : Bool) (T1 T2 : Option Addr) (t1 e1 t2 e2 : Nat), k ≤ a + 1 ∧ iv = .int .i64 (k : Int) ∧ dv = .bool q ∧ Hid (q = decide (p < k)) ∧ Hid (RpW w B0 wr (.slice A1 a c1) (.slice A2 a c2) (.slice A3 d c3) (.slice T1 t1 e1) (.slice T2 t2 e2) (.slice T1 t1 e1) (.slice T2 t2 e2) (putS p th.toNat key n.keys k) (putS p th.toNat val n.vals k))) (fun _ iv _ => a + 2 - (intOf iv).toNat)
  case atStart => exact ⟨0, false, _, _, _, _, _, _, Nat.zero_le _, rfl, rfl, Lib.hid (by simp), HSt.out⟩
  case round =>
    obtain ⟨k, q, T1, T2, t1, e1, t2, e2, hk, rfl, rfl, HQ, HR⟩ := hrel
    obtain ⟨x0, x1, x2, x3⟩ := HR.out.box
    by_cases hlt : k < a + 1
    · by_cases hka : k < a
      · obtain ⟨bk, ok, rfl, hbk⟩ := HAk.out (by omega)
        obtain ⟨bv, ov, rfl, hbv⟩ := HAv.out (by omega)
        have HBk := Lib.hid (And.intro (show bk < w.heap.size by omega) (show bv < w.heap.size by omega))
        obtain ⟨Ac, mc, cc, hkc, hkr, -, -, -⟩ := HCk.out bk ok rfl k hka
        obtain ⟨Bc, nc, dc, hvc, hvr, -, -, -⟩ := HCv.out bv ov rfl k hka
        have hif := HIff.out k hka
        have hcm := HCm.out wr HR.out.below bk ok rfl k hka Ac mc cc hkr
        have hkcr := (HR.out.below.cell (p := ⟨bk, ok + k, none⟩) HBk.out.1).trans hkc
        have hlo := HLo.out k
        have hhi := fun h => HHi.out k h hka
        obtain ⟨kk, hkk⟩ : ∃ x, x = n.keys.getD k [] := ⟨_, rfl⟩
        obtain ⟨vv, hvv⟩ : ∃ x, x = n.vals.getD k [] := ⟨_, rfl⟩
        rw [← hkk] at hkr hif hcm hlo hhi
        rw [← hvv] at hvr
        have HKk := Lib.hid hkk
        have HVv := Lib.hid hvv
        have HKr := Lib.hid hkr
        have HVr := Lib.hid hvr
        have HKc := Lib.hid hkc
        have HVc := Lib.hid hvc
        obtain ⟨x, hx⟩ : ∃ x, x = dcmp kk key := ⟨_, rfl⟩
        have he : (x < 0 ↔ cmpB kk key < 0) := by rw [hx]; exact dcmp_neg
        rw [← hx] at hcm
        have HCx := Lib.hid hcm
        clear hkc hkr hvc hvr hkk hvv hbk hbv hx hcm
        rcases Nat.lt_trichotomy k p with hkp | hkp | hkp
        · have hq : q = false := by rw [HQ.out]; simp; omega
          subst hq
          have hx0 : x < 0 := he.2 (hlo hkp)
          have HKne := Lib.hid (show ¬ kk = key from fun h => by have := (hif.1 h).2; omega)
          have HP := Lib.hid (show k ≠ p by omega)
          have HD := Lib.hid (show false = decide (p < k + 1) by simp; omega)
          have t5 : ¬ ((k : Int) = (a : Int)) := by omega
          have t6 : decide ((0 : Int) ≤ x) = false := by simp; omega
          clear hlo hhi hif he hx0 hkp HQ
          go_wp2_with fail
          refine HCx.out.mono ?_
          rintro e w3 ⟨rfl, hb3⟩
          have HR3 := Lib.hid (HR.out.kept hb3)
          clear hb3 HCx x0 x1 x2 x3 hkcr HR t5
          obtain ⟨x0, x1, x2, x3⟩ := HR3.out.box
          have S7_ : (fun w' : World => w'.cell? ⟨w.heap.size, 1, none⟩ = some (.slice (some ⟨bk, ok, none⟩) a c1) ∧ w'.cell? ⟨bk, ok + k, none⟩ = some (.slice Ac mc cc) ∧ (convert 22 9 (.slice Ac mc cc)).run Try.prog w' = .ok (.string ⟨kk.toArray⟩) w' ∧ (convert 22 9 (.slice Ak kl ck)).run Try.prog w' = .ok (.string ⟨key.toArray⟩) w') w3.drew := ⟨HR3.out.box.c1, (HR3.out.below.cell HBk.out.1).trans HKc.out, run_string_rd (P := Try.prog) 22 9 5 Try.underlying22 Try.underlying5 Try.underlying9 (HKr.out.below (HR3.out.below.mono hB0)).drew, run_string_rd (P := Try.prog) 22 9 5 Try.underlying22 Try.underlying5 Try.underlying9 (HK.out.below (HR3.out.below.mono hB0)).drew⟩
          have H7 := Lib.hid S7_
          clear S7_
          have k0 : (0 : Int) ≤ (k : Int) := by omega
          have k1 : (k : Int) < (a : Int) := by omega
          have k3 : (k : Int).toNat = k := by omega
          have t7 : (kk == key) = false := by simp [HKne.out]
          go_wp2_with fail
          go_region_held3 (fun w' => w'.cell? ⟨w.heap.size, 1, none⟩ = some (.slice (some ⟨bk, ok, none⟩) a c1) ∧ w'.cell? ⟨bk, ok + k, none⟩ = some (.slice Ac mc cc) ∧ (convert 22 9 (.slice Ac mc cc)).run Try.prog w' = .ok (.string ⟨kk.toArray⟩) w' ∧ (convert 22 9 (.slice Ak kl ck)).run Try.prog w' = .ok (.string ⟨key.toArray⟩) w') (exact H7.out) (fail)
          have HR7 := Lib.hid (HR3.out.kept (Below.refl _ _).drew)
          clear H7 k0 k1 k3 t7
          go_wp2_with fail
          have T_ : ∀ {W : World} {uK uV : Value} {lk lv : List (List UInt8)}, RpW w B0 W (.slice (some ⟨bk, ok, none⟩) a c1) (.slice (some ⟨bv, ov, none⟩) a c2) (.slice A3 d c3) (.slice T1 t1 e1) (.slice T2 t2 e2) uK uV lk lv → (fun w' => w'.cell? ⟨w.heap.size, 1, none⟩ = some (.slice (some ⟨bk, ok, none⟩) a c1) ∧ w'.cell? ⟨w.heap.size, 2, none⟩ = some (.slice (some ⟨bv, ov, none⟩) a c2) ∧ w'.cell? ⟨w.heap.size + 1 + 1, 1, none⟩ = some (.slice T1 t1 e1) ∧ w'.cell? ⟨w.heap.size + 1 + 1, 2, none⟩ = some (.slice T2 t2 e2) ∧ w'.cell? ⟨bk, ok + k, none⟩ = some (.slice Ac mc cc) ∧ w'.cell? ⟨bv, ov + k, none⟩ = some (.slice Bc nc dc)) W := fun {W uK uV lk lv} hT => by
            exact ⟨hT.box.c1, hT.box.c2, hT.nm.c1, hT.nm.c2, (hT.below.cell HBk.out.1).trans HKc.out, (hT.below.cell HBk.out.2).trans HVc.out⟩
          obtain ⟨wdb, hwdb⟩ : ∃ x, x = w3.drew.drew := ⟨_, rfl⟩
          have HS_wdb : Hid (RpW w B0 wdb (.slice (some ⟨bk, ok, none⟩) a c1) (.slice (some ⟨bv, ov, none⟩) a c2) (.slice A3 d c3) (.slice T1 t1 e1) (.slice T2 t2 e2) (.slice T1 t1 e1) (.slice T2 t2 e2) (putS p th.toNat key n.keys k) (putS p th.toNat val n.vals k)) := Lib.hid (by rw [hwdb]; exact HR7.out.kept (Below.refl _ _).drew)
          have Zwdb := Lib.hid (show wdb.heap.size = w3.drew.heap.size by rw [hwdb]; rfl)
          have S0 : (fun w' => w'.cell? ⟨w.heap.size, 1, none⟩ = some (.slice (some ⟨bk, ok, none⟩) a c1) ∧ w'.cell? ⟨w.heap.size, 2, none⟩ = some (.slice (some ⟨bv, ov, none⟩) a c2) ∧ w'.cell? ⟨w.heap.size + 1 + 1, 1, none⟩ = some (.slice T1 t1 e1) ∧ w'.cell? ⟨w.heap.size + 1 + 1, 2, none⟩ = some (.slice T2 t2 e2) ∧ w'.cell? ⟨bk, ok + k, none⟩ = some (.slice Ac mc cc) ∧ w'.cell? ⟨bv, ov + k, none⟩ = some (.slice Bc nc dc)) wdb := T_ HS_wdb.out
          have HR0 := Lib.hid HS_wdb.out
          refine wp_region_late (S := fun w' => w'.cell? ⟨w.heap.size, 1, none⟩ = some (.slice (some ⟨bk, ok, none⟩) a c1) ∧ w'.cell? ⟨w.heap.size, 2, none⟩ = some (.slice (some ⟨bv, ov, none⟩) a c2) ∧ w'.cell? ⟨w.heap.size + 1 + 1, 1, none⟩ = some (.slice T1 t1 e1) ∧ w'.cell? ⟨w.heap.size + 1 + 1, 2, none⟩ = some (.slice T2 t2 e2) ∧ w'.cell? ⟨bk, ok + k, none⟩ = some (.slice Ac mc cc) ∧ w'.cell? ⟨bv, ov + k, none⟩ = some (.slice Bc nc dc)) [19, 20, 21] (by kernel_rfl) (by rw [← hwdb]; exact S0) (fun hHeld => ?_)
          rw [← hwdb]
          clear hwdb
          refine' anyU_take0 (i := 0) (oi := ⟨some 65, .fieldAddr 27 (.tmp 7) 1, _, _, _, none⟩) (v := _) rfl (by kernel_rfl) (fun _ _ _ h => h) (Or.inl ⟨by rfl, ?hy1⟩) (by assumption) ?rest1
          case hy1 => (intro w hSw; go_simp <;> with_reducible rfl)
          case rest1 =>
          go_frame
          refine' anyU_take (i := 1) (oi := ⟨some 66, .load 24 (.tmp 65), _, _, _, none⟩) (v := _) rfl (by kernel_rfl) (fun _ _ _ h => h) (Or.inl ⟨by rfl, ?hy2⟩) (by assumption) ?rest2
          case hy2 => (intro w hSw; obtain ⟨s0, s1, s2, s3, s4, s5⟩ := hSw; go_simp <;> with_reducible rfl)
          case rest2 =>
          go_frame
          refine' anyU_take0 (i := 2) (oi := ⟨some 67, .fieldAddr 27 (.tmp 3) 1, _, _, _, none⟩) (v := _) rfl (by kernel_rfl) (fun _ _ _ h => h) (Or.inl ⟨by rfl, ?hy3⟩) (by assumption) ?rest3
          case hy3 => (intro w hSw; go_simp <;> with_reducible rfl)
          case rest3 =>
          go_frame
          refine' anyU_take (i := 3) (oi := ⟨some 68, .load 24 (.tmp 67), _, _, _, none⟩) (v := _) rfl (by kernel_rfl) (fun _ _ _ h => h) (Or.inl ⟨by rfl, ?hy4⟩) (by assumption) ?rest4
          case hy4 => (intro w hSw; obtain ⟨s0, s1, s2, s3, s4, s5⟩ := hSw; go_simp <;> with_reducible rfl)
          case rest4 =>
          go_frame
          refine' anyU_take0 (i := 4) (oi := ⟨some 69, .move (.tmp 9), _, _, _, none⟩) (v := _) rfl (by kernel_rfl) (fun _ _ _ h => h) (Or.inl ⟨by rfl, ?hy5⟩) (by assumption) ?rest5
          case hy5 => (intro w hSw; go_simp <;> with_reducible rfl)
          case rest5 =>
          go_frame
          refine' anyU_take0 (i := 5) (oi := ⟨some 70, .indexAddr 24 (.tmp 68) (.tmp 69), _, _, _, none⟩) (v := _) rfl (by kernel_rfl) (fun _ _ _ h => h) (Or.inl ⟨by rfl, ?hy6⟩) (by assumption) ?rest6
          case hy6 => (intro w hSw; go_simp <;> with_reducible rfl)
          case rest6 =>
          go_frame
          refine' anyU_take (i := 6) (oi := ⟨some 71, .load 22 (.tmp 70), _, _, _, none⟩) (v := _) rfl (by kernel_rfl) (fun _ _ _ h => h) (Or.inl ⟨by rfl, ?hy7⟩) (by assumption) ?rest7
          case hy7 => (intro w hSw; obtain ⟨s0, s1, s2, s3, s4, s5⟩ := hSw; go_simp <;> with_reducible rfl)
          case rest7 =>
          go_frame
          refine' anyU_take0 (i := 9) (oi := ⟨some 74, .fieldAddr 27 (.tmp 7) 2, _, _, _, none⟩) (v := _) rfl (by kernel_rfl) (fun _ _ _ h => h) (Or.inl ⟨by rfl, ?hy8⟩) (by assumption) ?rest8
          case hy8 => (intro w hSw; go_simp <;> with_reducible rfl)
          case rest8 =>
          go_frame
          refine' anyU_take (i := 10) (oi := ⟨some 75, .load 24 (.tmp 74), _, _, _, none⟩) (v := _) rfl (by kernel_rfl) (fun _ _ _ h => h) (Or.inl ⟨by rfl, ?hy9⟩) (by assumption) ?rest9
          case hy9 => (intro w hSw; obtain ⟨s0, s1, s2, s3, s4, s5⟩ := hSw; go_simp <;> with_reducible rfl)
          case rest9 =>
          go_frame
          refine' anyU_take0 (i := 11) (oi := ⟨some 76, .fieldAddr 27 (.tmp 3) 2, _, _, _, none⟩) (v := _) rfl (by kernel_rfl) (fun _ _ _ h => h) (Or.inl ⟨by rfl, ?hy10⟩) (by assumption) ?rest10
          case hy10 => (intro w hSw; go_simp <;> with_reducible rfl)
          case rest10 =>
          go_frame
          refine' anyU_take2 [14, 15, 16, 17, 19, 20, 21] (i := 12) (oi := ⟨some 77, .load 24 (.tmp 76), _, _, _, none⟩) (v := _) rfl (by kernel_rfl) (fun _ _ _ h => h) (Or.inl ⟨by rfl, ?hy11⟩) (by assumption) ?rest11
          case hy11 => (intro w hSw; obtain ⟨s0, s1, s2, s3, s4, s5⟩ := hSw; go_simp <;> with_reducible rfl)
          case rest11 =>
          go_frame
          refine' anyU_take0 (i := 13) (oi := ⟨some 78, .move (.tmp 9), _, _, _, none⟩) (v := _) rfl (by kernel_rfl) (fun _ _ _ h => h) (Or.inl ⟨by rfl, ?hy12⟩) (by assumption) ?rest12
          case hy12 => (intro w hSw; go_simp <;> with_reducible rfl)
          case rest12 =>
          go_frame
          refine' anyU_take0 (i := 14) (oi := ⟨some 79, .indexAddr 24 (.tmp 77) (.tmp 78), _, _, _, none⟩) (v := _) rfl (by kernel_rfl) (fun _ _ _ h => h) (Or.inl ⟨by rfl, ?hy13⟩) (by assumption) ?rest13
          case hy13 => (intro w hSw; go_simp <;> with_reducible rfl)
          case rest13 =>
          go_frame
          refine' anyU_take2 [16, 17, 19, 20, 21] (i := 15) (oi := ⟨some 80, .load 22 (.tmp 79), _, _, _, none⟩) (v := _) rfl (by kernel_rfl) (fun _ _ _ h => h) (Or.inl ⟨by rfl, ?hy14⟩) (by assumption) ?rest14
          case hy14 => (intro w hSw; obtain ⟨s0, s1, s2, s3, s4, s5⟩ := hSw; go_simp <;> with_reducible rfl)
          case rest14 =>
          go_frame
          refine anyU_ready (rs := [7, 16]) (by kernel_rfl) (by simp) (AllU.cons (o := ⟨some 72, .buildSlice 24 1 #[(0, .tmp 71)], _, _, _, none⟩) rfl (fun K hK => ?_) (fun h => absurd h (by decide)) (AllU.cons (o := ⟨some 81, .buildSlice 24 1 #[(0, .tmp 80)], _, _, _, none⟩) rfl (fun K hK => ?_) (fun h => absurd h (by decide)) AllU.nil))
          · rw [if_pos (by rfl)]
            obtain ⟨v1b, hu⟩ : ∃ u, u = wdb.alloc (.cells #[.slice Ac mc cc] 22) := ⟨_, rfl⟩
            have hb : Below wdb.heap.size wdb v1b := by rw [hu]; exact (Below.refl wdb.heap.size wdb).alloc (Nat.le_refl _) (.cells #[.slice Ac mc cc] 22)
            have hrw : RowT v1b B0 (w.heap.size + 1 + 1 + 1) wdb.heap.size (.slice Ac mc cc) (kk) := by rw [hu]; exact RowT.lit (HR0.out.txt HKr.out) (by omega)
            have HR1 := Lib.hid (HR0.out.kept hb)
            have HKr1 := Lib.hid hrw
            go_simp
            rw [← hu]
            have Sx1 := T_ HR1.out
            refine hK.out _ _ (fun _ => Sx1) ?_
            clear hK K S0 hu hb hrw
            try go_frame
            refine anyU_ready (rs := [8, 16]) (by kernel_rfl) (by simp) (AllU.cons (o := ⟨some 73, .call { callee := .builtin .append, args := #[.tmp 66, .tmp 72], argTypes := #[24, 24] }, _, _, _, none⟩) rfl (fun K hK => ?_) (fun h => absurd h (by decide)) (AllU.cons (o := ⟨some 81, .buildSlice 24 1 #[(0, .tmp 80)], _, _, _, none⟩) rfl (fun K hK => ?_) (fun h => absurd h (by decide)) AllU.nil))
            · rw [if_pos (by rfl)]
              obtain ⟨P1b, n1b, d1b, v2b, hrun, hr2, hg, hbb⟩ := HR1.out.appK HKr1.out (by have := putS_len (p := p) (d := th.toNat) (x := key) (xs := n.keys) k; simp; omega)
              have Hrun := Lib.hid hrun
              have HR2 := Lib.hid hr2
              clear hrun hr2 hg hbb
              refine wp_run (.slice P1b n1b d1b) v2b (exec_append (t := 24) (x := .tmp 66) (y := .tmp 72) rfl rfl rfl Hrun.out) ?_
              have Sx2 := T_ HR2.out
              refine hK.out _ _ (fun _ => Sx2) ?_
              clear hK K Sx1 Hrun
              go_frame
              refine' anyU_take0 (i := 18) (oi := ⟨some 83, .fieldAddr 27 (.tmp 7) 1, _, _, _, none⟩) (v := _) rfl (by kernel_rfl) (fun _ _ _ h => h) (Or.inl ⟨by rfl, ?hy15⟩) (by assumption) ?rest15
              case hy15 => (intro w hSw; go_simp <;> with_reducible rfl)
              case rest15 =>
              go_frame
              refine anyU_ready (rs := [16]) (by kernel_rfl) (by simp) (AllU.cons (o := ⟨some 81, .buildSlice 24 1 #[(0, .tmp 80)], _, _, _, none⟩) rfl (fun K hK => ?_) (fun h => absurd h (by decide)) AllU.nil)
              rw [if_pos (by rfl)]
              obtain ⟨v3b, hu⟩ : ∃ u, u = v2b.alloc (.cells #[.slice Bc nc dc] 22) := ⟨_, rfl⟩
              have hb : Below v2b.heap.size v2b v3b := by rw [hu]; exact (Below.refl v2b.heap.size v2b).alloc (Nat.le_refl _) (.cells #[.slice Bc nc dc] 22)
              have hrw : RowT v3b B0 (w.heap.size + 1 + 1 + 1) v2b.heap.size (.slice Bc nc dc) (vv) := by rw [hu]; exact RowT.lit (HR2.out.txt HVr.out) (by omega)
              have HR3 := Lib.hid (HR2.out.kept hb)
              have HVr3 := Lib.hid hrw
              go_simp
              rw [← hu]
              have Sx3 := T_ HR3.out
              refine hK.out _ _ (fun _ => Sx3) ?_
              clear hK K Sx2 hu hb hrw
              try go_frame
              refine anyU_ready (rs := [17]) (by kernel_rfl) (by simp) (AllU.cons (o := ⟨some 82, .call { callee := .builtin .append, args := #[.tmp 75, .tmp 81], argTypes := #[24, 24] }, _, _, _, none⟩) rfl (fun K hK => ?_) (fun h => absurd h (by decide)) AllU.nil)
              rw [if_pos (by rfl)]
              obtain ⟨P2b, n2b, d2b, v4b, hrun, hr2, hg, hbb⟩ := HR3.out.appV HVr3.out (by have := putS_len (p := p) (d := th.toNat) (x := val) (xs := n.vals) k; simp; omega)
              have Hrun := Lib.hid hrun
              have HR4 := Lib.hid hr2
              clear hrun hr2 hg hbb
              refine wp_run (.slice P2b n2b d2b) v4b (exec_append (t := 24) (x := .tmp 75) (y := .tmp 81) rfl rfl rfl Hrun.out) ?_
              have Sx4 := T_ HR4.out
              refine hK.out _ _ (fun _ => Sx4) ?_
              clear hK K Sx3 Hrun
              go_frame
              refine anyU_ready (rs := [19]) (by kernel_rfl) (by simp) (AllU.cons (o := ⟨none, .store 24 (.tmp 83) (.tmp 73), _, _, _, none⟩) rfl (fun K hK => ?_) (fun _ => by kernel_rfl) AllU.nil)
              rw [if_pos (by rfl)]
              obtain ⟨y0, y1, y2, y3, f0, f1, f2, f3⟩ := out_cells HR4.out.nm.top
              go_simp
              refine hK.out _ _ (fun h => absurd h (by decide)) ?_
              clear hK K
              try go_frame
              obtain ⟨Wa, hWa⟩ : ∃ X, X = v4b.setCell ⟨w.heap.size + 1 + 1, 1, none⟩ (.slice P1b n1b d1b) := ⟨_, rfl⟩
              have hra := HR4.out.setK
              rw [← hWa] at hra
              rw [← hWa]
              have HRa := Lib.hid hra
              clear hWa hra y0 y1 y2 y3 f0 f1 f2 f3
              refine anyU_ready (rs := [20]) (by kernel_rfl) (by simp) (AllU.cons (o := ⟨some 84, .fieldAddr 27 (.tmp 7) 2, _, _, _, none⟩) rfl (fun K hK => ?_) (fun _ => by kernel_rfl) AllU.nil)
              rw [if_pos (by rfl)]
              go_simp
              refine hK.out _ _ (fun h => absurd h (by decide)) ?_
              clear hK K
              try go_frame
              refine anyU_ready (rs := [21]) (by kernel_rfl) (by simp) (AllU.cons (o := ⟨none, .store 24 (.tmp 84) (.tmp 82), _, _, _, none⟩) rfl (fun K hK => ?_) (fun _ => by kernel_rfl) AllU.nil)
              rw [if_pos (by rfl)]
              obtain ⟨y0, y1, y2, y3, f0, f1, f2, f3⟩ := out_cells HRa.out.nm.top
              go_simp
              refine hK.out _ _ (fun h => absurd h (by decide)) ?_
              clear hK K
              try go_frame
              obtain ⟨wzb, hWb⟩ : ∃ X, X = Wa.setCell ⟨w.heap.size + 1 + 1, 2, none⟩ (.slice P2b n2b d2b) := ⟨_, rfl⟩
              have hrb := HRa.out.setV
              rw [← hWb] at hrb
              rw [← hWb]
              have HRbb := Lib.hid hrb
              clear hWb hrb y0 y1 y2 y3 f0 f1 f2 f3 HRa Sx4
              refine anyU_done (by kernel_rfl) ?_ _
              go_wp2_with fail
              go_roundw
              case rel =>
                refine ⟨k + 1, false, P1b, P2b, n1b, d1b, n2b, d2b, by omega, by go_num, rfl, Lib.hid (HD.out), Lib.hid ?_⟩
                rw [putS_other HP.out (by rw [HLk.out.1]; exact hka), putS_other HP.out (by rw [HLk.out.2]; exact hka), ← HKk.out, ← HVv.out]
                exact HRbb.out
              case measure => simp [intOf];  omega
            · rw [if_pos (by rfl)]
              obtain ⟨v2b, hu⟩ : ∃ u, u = v1b.alloc (.cells #[.slice Bc nc dc] 22) := ⟨_, rfl⟩
              have hb : Below v1b.heap.size v1b v2b := by rw [hu]; exact (Below.refl v1b.heap.size v1b).alloc (Nat.le_refl _) (.cells #[.slice Bc nc dc] 22)
              have hrw : RowT v2b B0 (w.heap.size + 1 + 1 + 1) v1b.heap.size (.slice Bc nc dc) (vv) := by rw [hu]; exact RowT.lit (HR1.out.txt HVr.out) (by omega)
              have HR2 := Lib.hid (HR1.out.kept hb)
              have NE := Lib.hid HR1.out.neK
              have HKr2 := Lib.hid (HKr1.out.kept hb (by omega))
              have HVr2 := Lib.hid hrw
              go_simp
              rw [← hu]
              have Sx2 := T_ HR2.out
              refine hK.out _ _ (fun _ => Sx2) ?_
              clear hK K Sx1 hu hb hrw
              try go_frame
              refine anyU_ready (rs := [8]) (by kernel_rfl) (by simp) (AllU.cons (o := ⟨some 73, .call { callee := .builtin .append, args := #[.tmp 66, .tmp 72], argTypes := #[24, 24] }, _, _, _, none⟩) rfl (fun K hK => ?_) (fun h => absurd h (by decide)) AllU.nil)
              rw [if_pos (by rfl)]
              obtain ⟨P1b, n1b, d1b, v3b, hrun, hr2, hg, hbb⟩ := HR2.out.appK HKr2.out (by have := putS_len (p := p) (d := th.toNat) (x := key) (xs := n.keys) k; simp; omega)
              have Hrun := Lib.hid hrun
              have HR3 := Lib.hid hr2
              have HVr3 := Lib.hid (HVr2.out.grown hg NE.out HR2.out.nm.rK.rowB (by omega))
              clear hrun hr2 hg hbb
              refine wp_run (.slice P1b n1b d1b) v3b (exec_append (t := 24) (x := .tmp 66) (y := .tmp 72) rfl rfl rfl Hrun.out) ?_
              have Sx3 := T_ HR3.out
              refine hK.out _ _ (fun _ => Sx3) ?_
              clear hK K Sx2 Hrun
              go_frame
              refine' anyU_take0 (i := 18) (oi := ⟨some 83, .fieldAddr 27 (.tmp 7) 1, _, _, _, none⟩) (v := _) rfl (by kernel_rfl) (fun _ _ _ h => h) (Or.inl ⟨by rfl, ?hy16⟩) (by assumption) ?rest16
              case hy16 => (intro w hSw; go_simp <;> with_reducible rfl)
              case rest16 =>
              go_frame
              refine anyU_ready (rs := [17]) (by kernel_rfl) (by simp) (AllU.cons (o := ⟨some 82, .call { callee := .builtin .append, args := #[.tmp 75, .tmp 81], argTypes := #[24, 24] }, _, _, _, none⟩) rfl (fun K hK => ?_) (fun h => absurd h (by decide)) AllU.nil)
              rw [if_pos (by rfl)]
              obtain ⟨P2b, n2b, d2b, v4b, hrun, hr2, hg, hbb⟩ := HR3.out.appV HVr3.out (by have := putS_len (p := p) (d := th.toNat) (x := val) (xs := n.vals) k; simp; omega)
              have Hrun := Lib.hid hrun
              have HR4 := Lib.hid hr2
              clear hrun hr2 hg hbb
              refine wp_run (.slice P2b n2b d2b) v4b (exec_append (t := 24) (x := .tmp 75) (y := .tmp 81) rfl rfl rfl Hrun.out) ?_
              have Sx4 := T_ HR4.out
              refine hK.out _ _ (fun _ => Sx4) ?_
              clear hK K Sx3 Hrun
              go_frame
              refine anyU_ready (rs := [19]) (by kernel_rfl) (by simp) (AllU.cons (o := ⟨none, .store 24 (.tmp 83) (.tmp 73), _, _, _, none⟩) rfl (fun K hK => ?_) (fun _ => by kernel_rfl) AllU.nil)
              rw [if_pos (by rfl)]
              obtain ⟨y0, y1, y2, y3, f0, f1, f2, f3⟩ := out_cells HR4.out.nm.top
              go_simp
              refine hK.out _ _ (fun h => absurd h (by decide)) ?_
              clear hK K
              try go_frame
              obtain ⟨Wa, hWa⟩ : ∃ X, X = v4b.setCell ⟨w.heap.size + 1 + 1, 1, none⟩ (.slice P1b n1b d1b) := ⟨_, rfl⟩
              have hra := HR4.out.setK
              rw [← hWa] at hra
              rw [← hWa]
              have HRa := Lib.hid hra
              clear hWa hra y0 y1 y2 y3 f0 f1 f2 f3
              refine anyU_ready (rs := [20]) (by kernel_rfl) (by simp) (AllU.cons (o := ⟨some 84, .fieldAddr 27 (.tmp 7) 2, _, _, _, none⟩) rfl (fun K hK => ?_) (fun _ => by kernel_rfl) AllU.nil)
              rw [if_pos (by rfl)]
              go_simp
              refine hK.out _ _ (fun h => absurd h (by decide)) ?_
              clear hK K
              try go_frame
              refine anyU_ready (rs := [21]) (by kernel_rfl) (by simp) (AllU.cons (o := ⟨none, .store 24 (.tmp 84) (.tmp 82), _, _, _, none⟩) rfl (fun K hK => ?_) (fun _ => by kernel_rfl) AllU.nil)
              rw [if_pos (by rfl)]
              obtain ⟨y0, y1, y2, y3, f0, f1, f2, f3⟩ := out_cells HRa.out.nm.top
              go_simp
              refine hK.out _ _ (fun h => absurd h (by decide)) ?_
              clear hK K
              try go_frame
              obtain ⟨wzb, hWb⟩ : ∃ X, X = Wa.setCell ⟨w.heap.size + 1 + 1, 2, none⟩ (.slice P2b n2b d2b) := ⟨_, rfl⟩
              have hrb := HRa.out.setV
              rw [← hWb] at hrb
              rw [← hWb]
              have HRbb := Lib.hid hrb
              clear hWb hrb y0 y1 y2 y3 f0 f1 f2 f3 HRa Sx4
              refine anyU_done (by kernel_rfl) ?_ _
              go_wp2_with fail
              go_roundw
              case rel =>
                refine ⟨k + 1, false, P1b, P2b, n1b, d1b, n2b, d2b, by omega, by go_num, rfl, Lib.hid (HD.out), Lib.hid ?_⟩
                rw [putS_other HP.out (by rw [HLk.out.1]; exact hka), putS_other HP.out (by rw [HLk.out.2]; exact hka), ← HKk.out, ← HVv.out]
                exact HRbb.out
              case measure => simp [intOf];  omega
          · rw [if_pos (by rfl)]
            obtain ⟨v1b, hu⟩ : ∃ u, u = wdb.alloc (.cells #[.slice Bc nc dc] 22) := ⟨_, rfl⟩
            have hb : Below wdb.heap.size wdb v1b := by rw [hu]; exact (Below.refl wdb.heap.size wdb).alloc (Nat.le_refl _) (.cells #[.slice Bc nc dc] 22)
            have hrw : RowT v1b B0 (w.heap.size + 1 + 1 + 1) wdb.heap.size (.slice Bc nc dc) (vv) := by rw [hu]; exact RowT.lit (HR0.out.txt HVr.out) (by omega)
            have HR1 := Lib.hid (HR0.out.kept hb)
            have NE := Lib.hid HR0.out.neK
            have HVr1 := Lib.hid hrw
            go_simp
            rw [← hu]
            have Sx1 := T_ HR1.out
            refine hK.out _ _ (fun _ => Sx1) ?_
            clear hK K S0 hu hb hrw
            try go_frame
            refine anyU_ready (rs := [7]) (by kernel_rfl) (by simp) (AllU.cons (o := ⟨some 72, .buildSlice 24 1 #[(0, .tmp 71)], _, _, _, none⟩) rfl (fun K hK => ?_) (fun h => absurd h (by decide)) AllU.nil)
            rw [if_pos (by rfl)]
            obtain ⟨v2b, hu⟩ : ∃ u, u = v1b.alloc (.cells #[.slice Ac mc cc] 22) := ⟨_, rfl⟩
            have hb : Below v1b.heap.size v1b v2b := by rw [hu]; exact (Below.refl v1b.heap.size v1b).alloc (Nat.le_refl _) (.cells #[.slice Ac mc cc] 22)
            have hrw : RowT v2b B0 (w.heap.size + 1 + 1 + 1) v1b.heap.size (.slice Ac mc cc) (kk) := by rw [hu]; exact RowT.lit (HR1.out.txt HKr.out) (by omega)
            have HR2 := Lib.hid (HR1.out.kept hb)
            have HVr2 := Lib.hid (HVr1.out.kept hb (by omega))
            have HKr2 := Lib.hid hrw
            go_simp
            rw [← hu]
            have Sx2 := T_ HR2.out
            refine hK.out _ _ (fun _ => Sx2) ?_
            clear hK K Sx1 hu hb hrw
            try go_frame
            refine anyU_ready (rs := [8]) (by kernel_rfl) (by simp) (AllU.cons (o := ⟨some 73, .call { callee := .builtin .append, args := #[.tmp 66, .tmp 72], argTypes := #[24, 24] }, _, _, _, none⟩) rfl (fun K hK => ?_) (fun h => absurd h (by decide)) AllU.nil)
            rw [if_pos (by rfl)]
            obtain ⟨P1b, n1b, d1b, v3b, hrun, hr2, hg, hbb⟩ := HR2.out.appK HKr2.out (by have := putS_len (p := p) (d := th.toNat) (x := key) (xs := n.keys) k; simp; omega)
            have Hrun := Lib.hid hrun
            have HR3 := Lib.hid hr2
            have HVr3 := Lib.hid (HVr2.out.grown hg NE.out HR2.out.nm.rK.rowB (by omega))
            clear hrun hr2 hg hbb
            refine wp_run (.slice P1b n1b d1b) v3b (exec_append (t := 24) (x := .tmp 66) (y := .tmp 72) rfl rfl rfl Hrun.out) ?_
            have Sx3 := T_ HR3.out
            refine hK.out _ _ (fun _ => Sx3) ?_
            clear hK K Sx2 Hrun
            go_frame
            refine' anyU_take0 (i := 18) (oi := ⟨some 83, .fieldAddr 27 (.tmp 7) 1, _, _, _, none⟩) (v := _) rfl (by kernel_rfl) (fun _ _ _ h => h) (Or.inl ⟨by rfl, ?hy17⟩) (by assumption) ?rest17
            case hy17 => (intro w hSw; go_simp <;> with_reducible rfl)
            case rest17 =>
            go_frame
            refine anyU_ready (rs := [17]) (by kernel_rfl) (by simp) (AllU.cons (o := ⟨some 82, .call { callee := .builtin .append, args := #[.tmp 75, .tmp 81], argTypes := #[24, 24] }, _, _, _, none⟩) rfl (fun K hK => ?_) (fun h => absurd h (by decide)) AllU.nil)
            rw [if_pos (by rfl)]
            obtain ⟨P2b, n2b, d2b, v4b, hrun, hr2, hg, hbb⟩ := HR3.out.appV HVr3.out (by have := putS_len (p := p) (d := th.toNat) (x := val) (xs := n.vals) k; simp; omega)
            have Hrun := Lib.hid hrun
            have HR4 := Lib.hid hr2
            clear hrun hr2 hg hbb
            refine wp_run (.slice P2b n2b d2b) v4b (exec_append (t := 24) (x := .tmp 75) (y := .tmp 81) rfl rfl rfl Hrun.out) ?_
            have Sx4 := T_ HR4.out
            refine hK.out _ _ (fun _ => Sx4) ?_
            clear hK K Sx3 Hrun
            go_frame
            refine anyU_ready (rs := [19]) (by kernel_rfl) (by simp) (AllU.cons (o := ⟨none, .store 24 (.tmp 83) (.tmp 73), _, _, _, none⟩) rfl (fun K hK => ?_) (fun _ => by kernel_rfl) AllU.nil)
            rw [if_pos (by rfl)]
            obtain ⟨y0, y1, y2, y3, f0, f1, f2, f3⟩ := out_cells HR4.out.nm.top
            go_simp
            refine hK.out _ _ (fun h => absurd h (by decide)) ?_
            clear hK K
            try go_frame
            obtain ⟨Wa, hWa⟩ : ∃ X, X = v4b.setCell ⟨w.heap.size + 1 + 1, 1, none⟩ (.slice P1b n1b d1b) := ⟨_, rfl⟩
            have hra := HR4.out.setK
            rw [← hWa] at hra
            rw [← hWa]
            have HRa := Lib.hid hra
            clear hWa hra y0 y1 y2 y3 f0 f1 f2 f3
            refine anyU_ready (rs := [20]) (by kernel_rfl) (by simp) (AllU.cons (o := ⟨some 84, .fieldAddr 27 (.tmp 7) 2, _, _, _, none⟩) rfl (fun K hK => ?_) (fun _ => by kernel_rfl) AllU.nil)
            rw [if_pos (by rfl)]
            go_simp
            refine hK.out _ _ (fun h => absurd h (by decide)) ?_
            clear hK K
            try go_frame
            refine anyU_ready (rs := [21]) (by kernel_rfl) (by simp) (AllU.cons (o := ⟨none, .store 24 (.tmp 84) (.tmp 82), _, _, _, none⟩) rfl (fun K hK => ?_) (fun _ => by kernel_rfl) AllU.nil)
            rw [if_pos (by rfl)]
            obtain ⟨y0, y1, y2, y3, f0, f1, f2, f3⟩ := out_cells HRa.out.nm.top
            go_simp
            refine hK.out _ _ (fun h => absurd h (by decide)) ?_
            clear hK K
            try go_frame
            obtain ⟨wzb, hWb⟩ : ∃ X, X = Wa.setCell ⟨w.heap.size + 1 + 1, 2, none⟩ (.slice P2b n2b d2b) := ⟨_, rfl⟩
            have hrb := HRa.out.setV
            rw [← hWb] at hrb
            rw [← hWb]
            have HRbb := Lib.hid hrb
            clear hWb hrb y0 y1 y2 y3 f0 f1 f2 f3 HRa Sx4
            refine anyU_done (by kernel_rfl) ?_ _
            go_wp2_with fail
            go_roundw
            case rel =>
              refine ⟨k + 1, false, P1b, P2b, n1b, d1b, n2b, d2b, by omega, by go_num, rfl, Lib.hid (HD.out), Lib.hid ?_⟩
              rw [putS_other HP.out (by rw [HLk.out.1]; exact hka), putS_other HP.out (by rw [HLk.out.2]; exact hka), ← HKk.out, ← HVv.out]
              exact HRbb.out
            case measure => simp [intOf];  omega
        · have hq : q = false := by rw [HQ.out]; simp; omega
          subst hq
          have hx0 : ¬ x < 0 := fun h => by have := he.1 h; have := hhi (by omega); omega
          have HP := Lib.hid hkp
          have HD := Lib.hid (show true = decide (p < k + 1) by simp; omega)
          have t5 : ¬ ((k : Int) = (a : Int)) := by omega
          have t6 : decide ((0 : Int) ≤ x) = true := by simp; omega
          by_cases hth : th = true
          · have HKeq := Lib.hid (show kk = key from hif.2 ⟨hth, hkp⟩)
            have HT := Lib.hid hth
            clear hlo hhi hif he hx0 hkp HQ hth
            go_wp2_with fail
            refine HCx.out.mono ?_
            rintro e w3 ⟨rfl, hb3⟩
            have HR3 := Lib.hid (HR.out.kept hb3)
            clear hb3 HCx x0 x1 x2 x3 hkcr HR t5
            obtain ⟨x0, x1, x2, x3⟩ := HR3.out.box
            go_wp2_with fail
            have T_ : ∀ {W : World} {uK uV : Value} {lk lv : List (List UInt8)}, RpW w B0 W (.slice (some ⟨bk, ok, none⟩) a c1) (.slice (some ⟨bv, ov, none⟩) a c2) (.slice A3 d c3) (.slice T1 t1 e1) (.slice T2 t2 e2) uK uV lk lv → (fun w' => w'.cell? ⟨w.heap.size + 1 + 1, 1, none⟩ = some (.slice T1 t1 e1) ∧ w'.cell? ⟨w.heap.size + 1 + 1, 2, none⟩ = some (.slice T2 t2 e2)) W := fun {W uK uV lk lv} hT => by
              exact ⟨hT.nm.c1, hT.nm.c2⟩
            obtain ⟨wd, hwd⟩ : ∃ x, x = w3.drew := ⟨_, rfl⟩
            have HS_wd : Hid (RpW w B0 wd (.slice (some ⟨bk, ok, none⟩) a c1) (.slice (some ⟨bv, ov, none⟩) a c2) (.slice A3 d c3) (.slice T1 t1 e1) (.slice T2 t2 e2) (.slice T1 t1 e1) (.slice T2 t2 e2) (putS p th.toNat key n.keys k) (putS p th.toNat val n.vals k)) := Lib.hid (by rw [hwd]; exact HR3.out.kept (Below.refl _ _).drew)
            have Zwd := Lib.hid (show wd.heap.size = w3.heap.size by rw [hwd]; rfl)
            have S0 : (fun w' => w'.cell? ⟨w.heap.size + 1 + 1, 1, none⟩ = some (.slice T1 t1 e1) ∧ w'.cell? ⟨w.heap.size + 1 + 1, 2, none⟩ = some (.slice T2 t2 e2)) wd := T_ HS_wd.out
            have HR0 := Lib.hid HS_wd.out
            refine wp_region_late (S := fun w' => w'.cell? ⟨w.heap.size + 1 + 1, 1, none⟩ = some (.slice T1 t1 e1) ∧ w'.cell? ⟨w.heap.size + 1 + 1, 2, none⟩ = some (.slice T2 t2 e2)) [11, 12, 13, 14] (by kernel_rfl) (by rw [← hwd]; exact S0) (fun hHeld => ?_)
            rw [← hwd]
            clear hwd
            refine' anyU_take0 (i := 0) (oi := ⟨some 37, .fieldAddr 27 (.tmp 7) 1, _, _, _, none⟩) (v := _) rfl (by kernel_rfl) (fun _ _ _ h => h) (Or.inl ⟨by rfl, ?hy18⟩) (by assumption) ?rest18
            case hy18 => (intro w hSw; go_simp <;> with_reducible rfl)
            case rest18 =>
            go_frame
            refine' anyU_take (i := 1) (oi := ⟨some 38, .load 24 (.tmp 37), _, _, _, none⟩) (v := _) rfl (by kernel_rfl) (fun _ _ _ h => h) (Or.inl ⟨by rfl, ?hy19⟩) (by assumption) ?rest19
            case hy19 => (intro w hSw; obtain ⟨s0, s1⟩ := hSw; go_simp <;> with_reducible rfl)
            case rest19 =>
            go_frame
            refine' anyU_take0 (i := 2) (oi := ⟨some 39, .move (.tmp 1), _, _, _, none⟩) (v := _) rfl (by kernel_rfl) (fun _ _ _ h => h) (Or.inl ⟨by rfl, ?hy20⟩) (by assumption) ?rest20
            case hy20 => (intro w hSw; go_simp <;> with_reducible rfl)
            case rest20 =>
            go_frame
            refine' anyU_take0 (i := 5) (oi := ⟨some 42, .fieldAddr 27 (.tmp 7) 2, _, _, _, none⟩) (v := _) rfl (by kernel_rfl) (fun _ _ _ h => h) (Or.inl ⟨by rfl, ?hy21⟩) (by assumption) ?rest21
            case hy21 => (intro w hSw; go_simp <;> with_reducible rfl)
            case rest21 =>
            go_frame
            refine' anyU_take (i := 6) (oi := ⟨some 43, .load 24 (.tmp 42), _, _, _, none⟩) (v := _) rfl (by kernel_rfl) (fun _ _ _ h => h) (Or.inl ⟨by rfl, ?hy22⟩) (by assumption) ?rest22
            case hy22 => (intro w hSw; obtain ⟨s0, s1⟩ := hSw; go_simp <;> with_reducible rfl)
            case rest22 =>
            go_frame
            refine' anyU_take0 (i := 7) (oi := ⟨some 44, .move (.tmp 2), _, _, _, none⟩) (v := _) rfl (by kernel_rfl) (fun _ _ _ h => h) (Or.inl ⟨by rfl, ?hy23⟩) (by assumption) ?rest23
            case hy23 => (intro w hSw; go_simp <;> with_reducible rfl)
            case rest23 =>
            go_frame
            refine anyU_ready (rs := [3, 8]) (by kernel_rfl) (by simp) (AllU.cons (o := ⟨some 40, .buildSlice 24 1 #[(0, .tmp 39)], _, _, _, none⟩) rfl (fun K hK => ?_) (fun h => absurd h (by decide)) (AllU.cons (o := ⟨some 45, .buildSlice 24 1 #[(0, .tmp 44)], _, _, _, none⟩) rfl (fun K hK => ?_) (fun h => absurd h (by decide)) AllU.nil))
            · rw [if_pos (by rfl)]
              obtain ⟨v1, hu⟩ : ∃ u, u = wd.alloc (.cells #[.slice Ak kl ck] 22) := ⟨_, rfl⟩
              have hb : Below wd.heap.size wd v1 := by rw [hu]; exact (Below.refl wd.heap.size wd).alloc (Nat.le_refl _) (.cells #[.slice Ak kl ck] 22)
              have hrw : RowT v1 B0 (w.heap.size + 1 + 1 + 1) wd.heap.size (.slice Ak kl ck) (key) := by rw [hu]; exact RowT.lit (HR0.out.txt HK.out) (by omega)
              have HR1 := Lib.hid (HR0.out.kept hb)
              have HKr1 := Lib.hid hrw
              go_simp
              rw [← hu]
              have Sx1 := T_ HR1.out
              refine hK.out _ _ (fun _ => Sx1) ?_
              clear hK K S0 hu hb hrw
              try go_frame
              refine anyU_ready (rs := [4, 8]) (by kernel_rfl) (by simp) (AllU.cons (o := ⟨some 41, .call { callee := .builtin .append, args := #[.tmp 38, .tmp 40], argTypes := #[24, 24] }, _, _, _, none⟩) rfl (fun K hK => ?_) (fun h => absurd h (by decide)) (AllU.cons (o := ⟨some 45, .buildSlice 24 1 #[(0, .tmp 44)], _, _, _, none⟩) rfl (fun K hK => ?_) (fun h => absurd h (by decide)) AllU.nil))
              · rw [if_pos (by rfl)]
                obtain ⟨P1, n1, d1, v2, hrun, hr2, hg, hbb⟩ := HR1.out.appK HKr1.out (by have := putS_len (p := p) (d := th.toNat) (x := key) (xs := n.keys) k; simp; omega)
                have Hrun := Lib.hid hrun
                have HR2 := Lib.hid hr2
                clear hrun hr2 hg hbb
                refine wp_run (.slice P1 n1 d1) v2 (exec_append (t := 24) (x := .tmp 38) (y := .tmp 40) rfl rfl rfl Hrun.out) ?_
                have Sx2 := T_ HR2.out
                refine hK.out _ _ (fun _ => Sx2) ?_
                clear hK K Sx1 Hrun
                go_frame
                refine' anyU_take0 (i := 10) (oi := ⟨some 47, .fieldAddr 27 (.tmp 7) 1, _, _, _, none⟩) (v := _) rfl (by kernel_rfl) (fun _ _ _ h => h) (Or.inl ⟨by rfl, ?hy24⟩) (by assumption) ?rest24
                case hy24 => (intro w hSw; go_simp <;> with_reducible rfl)
                case rest24 =>
                go_frame
                refine anyU_ready (rs := [8]) (by kernel_rfl) (by simp) (AllU.cons (o := ⟨some 45, .buildSlice 24 1 #[(0, .tmp 44)], _, _, _, none⟩) rfl (fun K hK => ?_) (fun h => absurd h (by decide)) AllU.nil)
                rw [if_pos (by rfl)]
                obtain ⟨v3, hu⟩ : ∃ u, u = v2.alloc (.cells #[.slice Av vl cv] 22) := ⟨_, rfl⟩
                have hb : Below v2.heap.size v2 v3 := by rw [hu]; exact (Below.refl v2.heap.size v2).alloc (Nat.le_refl _) (.cells #[.slice Av vl cv] 22)
                have hrw : RowT v3 B0 (w.heap.size + 1 + 1 + 1) v2.heap.size (.slice Av vl cv) (val) := by rw [hu]; exact RowT.lit (HR2.out.txt HV.out) (by omega)
                have HR3 := Lib.hid (HR2.out.kept hb)
                have HVr3 := Lib.hid hrw
                go_simp
                rw [← hu]
                have Sx3 := T_ HR3.out
                refine hK.out _ _ (fun _ => Sx3) ?_
                clear hK K Sx2 hu hb hrw
                try go_frame
                refine anyU_ready (rs := [9]) (by kernel_rfl) (by simp) (AllU.cons (o := ⟨some 46, .call { callee := .builtin .append, args := #[.tmp 43, .tmp 45], argTypes := #[24, 24] }, _, _, _, none⟩) rfl (fun K hK => ?_) (fun h => absurd h (by decide)) AllU.nil)
                rw [if_pos (by rfl)]
                obtain ⟨P2, n2, d2, v4, hrun, hr2, hg, hbb⟩ := HR3.out.appV HVr3.out (by have := putS_len (p := p) (d := th.toNat) (x := val) (xs := n.vals) k; simp; omega)
                have Hrun := Lib.hid hrun
                have HR4 := Lib.hid hr2
                clear hrun hr2 hg hbb
                refine wp_run (.slice P2 n2 d2) v4 (exec_append (t := 24) (x := .tmp 43) (y := .tmp 45) rfl rfl rfl Hrun.out) ?_
                have Sx4 := T_ HR4.out
                refine hK.out _ _ (fun _ => Sx4) ?_
                clear hK K Sx3 Hrun
                go_frame
                refine anyU_ready (rs := [11]) (by kernel_rfl) (by simp) (AllU.cons (o := ⟨none, .store 24 (.tmp 47) (.tmp 41), _, _, _, none⟩) rfl (fun K hK => ?_) (fun _ => by kernel_rfl) AllU.nil)
                rw [if_pos (by rfl)]
                obtain ⟨y0, y1, y2, y3, f0, f1, f2, f3⟩ := out_cells HR4.out.nm.top
                go_simp
                refine hK.out _ _ (fun h => absurd h (by decide)) ?_
                clear hK K
                try go_frame
                obtain ⟨Wa, hWa⟩ : ∃ X, X = v4.setCell ⟨w.heap.size + 1 + 1, 1, none⟩ (.slice P1 n1 d1) := ⟨_, rfl⟩
                have hra := HR4.out.setK
                rw [← hWa] at hra
                rw [← hWa]
                have HRa := Lib.hid hra
                clear hWa hra y0 y1 y2 y3 f0 f1 f2 f3
                refine anyU_ready (rs := [12]) (by kernel_rfl) (by simp) (AllU.cons (o := ⟨some 48, .fieldAddr 27 (.tmp 7) 2, _, _, _, none⟩) rfl (fun K hK => ?_) (fun _ => by kernel_rfl) AllU.nil)
                rw [if_pos (by rfl)]
                go_simp
                refine hK.out _ _ (fun h => absurd h (by decide)) ?_
                clear hK K
                try go_frame
                refine anyU_ready (rs := [13]) (by kernel_rfl) (by simp) (AllU.cons (o := ⟨none, .store 24 (.tmp 48) (.tmp 46), _, _, _, none⟩) rfl (fun K hK => ?_) (fun _ => by kernel_rfl) AllU.nil)
                rw [if_pos (by rfl)]
                obtain ⟨y0, y1, y2, y3, f0, f1, f2, f3⟩ := out_cells HRa.out.nm.top
                go_simp
                refine hK.out _ _ (fun h => absurd h (by decide)) ?_
                clear hK K
                try go_frame
                obtain ⟨wz, hWb⟩ : ∃ X, X = Wa.setCell ⟨w.heap.size + 1 + 1, 2, none⟩ (.slice P2 n2 d2) := ⟨_, rfl⟩
                have hrb := HRa.out.setV
                rw [← hWb] at hrb
                rw [← hWb]
                have HRb := Lib.hid hrb
                clear hWb hrb y0 y1 y2 y3 f0 f1 f2 f3 HRa Sx4
                refine anyU_ready (rs := [14]) (by kernel_rfl) (by simp) (AllU.cons (o := ⟨some 8, .assign (.const (.bool true)), _, _, _, none⟩) rfl (fun K hK => ?_) (fun _ => by kernel_rfl) AllU.nil)
                rw [if_pos (by rfl)]
                go_simp
                refine hK.out _ _ (fun h => absurd h (by decide)) ?_
                clear hK K
                try go_frame
                refine anyU_done (by kernel_rfl) ?_ _
                obtain ⟨x0, x1, x2, x3⟩ := HRb.out.box
                have S7_ : (fun w' : World => w'.cell? ⟨w.heap.size, 1, none⟩ = some (.slice (some ⟨bk, ok, none⟩) a c1) ∧ w'.cell? ⟨bk, ok + k, none⟩ = some (.slice Ac mc cc) ∧ (convert 22 9 (.slice Ac mc cc)).run Try.prog w' = .ok (.string ⟨kk.toArray⟩) w' ∧ (convert 22 9 (.slice Ak kl ck)).run Try.prog w' = .ok (.string ⟨key.toArray⟩) w') wz.drew := ⟨HRb.out.box.c1, (HRb.out.below.cell HBk.out.1).trans HKc.out, run_string_rd (P := Try.prog) 22 9 5 Try.underlying22 Try.underlying5 Try.underlying9 (HKr.out.below (HRb.out.below.mono hB0)).drew, run_string_rd (P := Try.prog) 22 9 5 Try.underlying22 Try.underlying5 Try.underlying9 (HK.out.below (HRb.out.below.mono hB0)).drew⟩
                have H7 := Lib.hid S7_
                clear S7_
                have k0 : (0 : Int) ≤ (k : Int) := by omega
                have k1 : (k : Int) < (a : Int) := by omega
                have k3 : (k : Int).toNat = k := by omega
                have t7 : (kk == key) = true := by rw [HKeq.out]; simp
                go_wp2_with fail
                go_region_held3 (fun w' => w'.cell? ⟨w.heap.size, 1, none⟩ = some (.slice (some ⟨bk, ok, none⟩) a c1) ∧ w'.cell? ⟨bk, ok + k, none⟩ = some (.slice Ac mc cc) ∧ (convert 22 9 (.slice Ac mc cc)).run Try.prog w' = .ok (.string ⟨kk.toArray⟩) w' ∧ (convert 22 9 (.slice Ak kl ck)).run Try.prog w' = .ok (.string ⟨key.toArray⟩) w') (exact H7.out) (fail)
                have HR7 := Lib.hid (HRb.out.kept (Below.refl _ _).drew)
                clear H7 k0 k1 k3 t7
                go_wp2_with fail
                go_roundw
                case rel =>
                  refine ⟨k + 1, true, P1, P2, n1, d1, n2, d2, by omega, by go_num, rfl, Lib.hid (HD.out), Lib.hid ?_⟩
                  rw [show putS p th.toNat key n.keys (k + 1) = putS p th.toNat key n.keys k ++ [key] by rw [HP.out]; exact putS_only (fun g => g.2 (by rw [HT.out]; rfl)), show putS p th.toNat val n.vals (k + 1) = putS p th.toNat val n.vals k ++ [val] by rw [HP.out]; exact putS_only (fun g => g.2 (by rw [HT.out]; rfl))]
                  exact HR7.out
                case measure => simp [intOf];  omega
              · rw [if_pos (by rfl)]
                obtain ⟨v2, hu⟩ : ∃ u, u = v1.alloc (.cells #[.slice Av vl cv] 22) := ⟨_, rfl⟩
                have hb : Below v1.heap.size v1 v2 := by rw [hu]; exact (Below.refl v1.heap.size v1).alloc (Nat.le_refl _) (.cells #[.slice Av vl cv] 22)
                have hrw : RowT v2 B0 (w.heap.size + 1 + 1 + 1) v1.heap.size (.slice Av vl cv) (val) := by rw [hu]; exact RowT.lit (HR1.out.txt HV.out) (by omega)
                have HR2 := Lib.hid (HR1.out.kept hb)
                have NE := Lib.hid HR1.out.neK
                have HKr2 := Lib.hid (HKr1.out.kept hb (by omega))
                have HVr2 := Lib.hid hrw
                go_simp
                rw [← hu]
                have Sx2 := T_ HR2.out
                refine hK.out _ _ (fun _ => Sx2) ?_
                clear hK K Sx1 hu hb hrw
                try go_frame
                refine anyU_ready (rs := [4]) (by kernel_rfl) (by simp) (AllU.cons (o := ⟨some 41, .call { callee := .builtin .append, args := #[.tmp 38, .tmp 40], argTypes := #[24, 24] }, _, _, _, none⟩) rfl (fun K hK => ?_) (fun h => absurd h (by decide)) AllU.nil)
                rw [if_pos (by rfl)]
                obtain ⟨P1, n1, d1, v3, hrun, hr2, hg, hbb⟩ := HR2.out.appK HKr2.out (by have := putS_len (p := p) (d := th.toNat) (x := key) (xs := n.keys) k; simp; omega)
                have Hrun := Lib.hid hrun
                have HR3 := Lib.hid hr2
                have HVr3 := Lib.hid (HVr2.out.grown hg NE.out HR2.out.nm.rK.rowB (by omega))
                clear hrun hr2 hg hbb
                refine wp_run (.slice P1 n1 d1) v3 (exec_append (t := 24) (x := .tmp 38) (y := .tmp 40) rfl rfl rfl Hrun.out) ?_
                have Sx3 := T_ HR3.out
                refine hK.out _ _ (fun _ => Sx3) ?_
                clear hK K Sx2 Hrun
                go_frame
                refine' anyU_take0 (i := 10) (oi := ⟨some 47, .fieldAddr 27 (.tmp 7) 1, _, _, _, none⟩) (v := _) rfl (by kernel_rfl) (fun _ _ _ h => h) (Or.inl ⟨by rfl, ?hy25⟩) (by assumption) ?rest25
                case hy25 => (intro w hSw; go_simp <;> with_reducible rfl)
                case rest25 =>
                go_frame
                refine anyU_ready (rs := [9]) (by kernel_rfl) (by simp) (AllU.cons (o := ⟨some 46, .call { callee := .builtin .append, args := #[.tmp 43, .tmp 45], argTypes := #[24, 24] }, _, _, _, none⟩) rfl (fun K hK => ?_) (fun h => absurd h (by decide)) AllU.nil)
                rw [if_pos (by rfl)]
                obtain ⟨P2, n2, d2, v4, hrun, hr2, hg, hbb⟩ := HR3.out.appV HVr3.out (by have := putS_len (p := p) (d := th.toNat) (x := val) (xs := n.vals) k; simp; omega)
                have Hrun := Lib.hid hrun
                have HR4 := Lib.hid hr2
                clear hrun hr2 hg hbb
                refine wp_run (.slice P2 n2 d2) v4 (exec_append (t := 24) (x := .tmp 43) (y := .tmp 45) rfl rfl rfl Hrun.out) ?_
                have Sx4 := T_ HR4.out
                refine hK.out _ _ (fun _ => Sx4) ?_
                clear hK K Sx3 Hrun
                go_frame
                refine anyU_ready (rs := [11]) (by kernel_rfl) (by simp) (AllU.cons (o := ⟨none, .store 24 (.tmp 47) (.tmp 41), _, _, _, none⟩) rfl (fun K hK => ?_) (fun _ => by kernel_rfl) AllU.nil)
                rw [if_pos (by rfl)]
                obtain ⟨y0, y1, y2, y3, f0, f1, f2, f3⟩ := out_cells HR4.out.nm.top
                go_simp
                refine hK.out _ _ (fun h => absurd h (by decide)) ?_
                clear hK K
                try go_frame
                obtain ⟨Wa, hWa⟩ : ∃ X, X = v4.setCell ⟨w.heap.size + 1 + 1, 1, none⟩ (.slice P1 n1 d1) := ⟨_, rfl⟩
                have hra := HR4.out.setK
                rw [← hWa] at hra
                rw [← hWa]
                have HRa := Lib.hid hra
                clear hWa hra y0 y1 y2 y3 f0 f1 f2 f3
                refine anyU_ready (rs := [12]) (by kernel_rfl) (by simp) (AllU.cons (o := ⟨some 48, .fieldAddr 27 (.tmp 7) 2, _, _, _, none⟩) rfl (fun K hK => ?_) (fun _ => by kernel_rfl) AllU.nil)
                rw [if_pos (by rfl)]
                go_simp
                refine hK.out _ _ (fun h => absurd h (by decide)) ?_
                clear hK K
                try go_frame
                refine anyU_ready (rs := [13]) (by kernel_rfl) (by simp) (AllU.cons (o := ⟨none, .store 24 (.tmp 48) (.tmp 46), _, _, _, none⟩) rfl (fun K hK => ?_) (fun _ => by kernel_rfl) AllU.nil)
                rw [if_pos (by rfl)]
                obtain ⟨y0, y1, y2, y3, f0, f1, f2, f3⟩ := out_cells HRa.out.nm.top
                go_simp
                refine hK.out _ _ (fun h => absurd h (by decide)) ?_
                clear hK K
                try go_frame
                obtain ⟨wz, hWb⟩ : ∃ X, X = Wa.setCell ⟨w.heap.size + 1 + 1, 2, none⟩ (.slice P2 n2 d2) := ⟨_, rfl⟩
                have hrb := HRa.out.setV
                rw [← hWb] at hrb
                rw [← hWb]
                have HRb := Lib.hid hrb
                clear hWb hrb y0 y1 y2 y3 f0 f1 f2 f3 HRa Sx4
                refine anyU_ready (rs := [14]) (by kernel_rfl) (by simp) (AllU.cons (o := ⟨some 8, .assign (.const (.bool true)), _, _, _, none⟩) rfl (fun K hK => ?_) (fun _ => by kernel_rfl) AllU.nil)
                rw [if_pos (by rfl)]
                go_simp
                refine hK.out _ _ (fun h => absurd h (by decide)) ?_
                clear hK K
                try go_frame
                refine anyU_done (by kernel_rfl) ?_ _
                obtain ⟨x0, x1, x2, x3⟩ := HRb.out.box
                have S7_ : (fun w' : World => w'.cell? ⟨w.heap.size, 1, none⟩ = some (.slice (some ⟨bk, ok, none⟩) a c1) ∧ w'.cell? ⟨bk, ok + k, none⟩ = some (.slice Ac mc cc) ∧ (convert 22 9 (.slice Ac mc cc)).run Try.prog w' = .ok (.string ⟨kk.toArray⟩) w' ∧ (convert 22 9 (.slice Ak kl ck)).run Try.prog w' = .ok (.string ⟨key.toArray⟩) w') wz.drew := ⟨HRb.out.box.c1, (HRb.out.below.cell HBk.out.1).trans HKc.out, run_string_rd (P := Try.prog) 22 9 5 Try.underlying22 Try.underlying5 Try.underlying9 (HKr.out.below (HRb.out.below.mono hB0)).drew, run_string_rd (P := Try.prog) 22 9 5 Try.underlying22 Try.underlying5 Try.underlying9 (HK.out.below (HRb.out.below.mono hB0)).drew⟩
                have H7 := Lib.hid S7_
                clear S7_
                have k0 : (0 : Int) ≤ (k : Int) := by omega
                have k1 : (k : Int) < (a : Int) := by omega
                have k3 : (k : Int).toNat = k := by omega
                have t7 : (kk == key) = true := by rw [HKeq.out]; simp
                go_wp2_with fail
                go_region_held3 (fun w' => w'.cell? ⟨w.heap.size, 1, none⟩ = some (.slice (some ⟨bk, ok, none⟩) a c1) ∧ w'.cell? ⟨bk, ok + k, none⟩ = some (.slice Ac mc cc) ∧ (convert 22 9 (.slice Ac mc cc)).run Try.prog w' = .ok (.string ⟨kk.toArray⟩) w' ∧ (convert 22 9 (.slice Ak kl ck)).run Try.prog w' = .ok (.string ⟨key.toArray⟩) w') (exact H7.out) (fail)
                have HR7 := Lib.hid (HRb.out.kept (Below.refl _ _).drew)
                clear H7 k0 k1 k3 t7
                go_wp2_with fail
                go_roundw
                case rel =>
                  refine ⟨k + 1, true, P1, P2, n1, d1, n2, d2, by omega, by go_num, rfl, Lib.hid (HD.out), Lib.hid ?_⟩
                  rw [show putS p th.toNat key n.keys (k + 1) = putS p th.toNat key n.keys k ++ [key] by rw [HP.out]; exact putS_only (fun g => g.2 (by rw [HT.out]; rfl)), show putS p th.toNat val n.vals (k + 1) = putS p th.toNat val n.vals k ++ [val] by rw [HP.out]; exact putS_only (fun g => g.2 (by rw [HT.out]; rfl))]
                  exact HR7.out
                case measure => simp [intOf];  omega
            · rw [if_pos (by rfl)]
              obtain ⟨v1, hu⟩ : ∃ u, u = wd.alloc (.cells #[.slice Av vl cv] 22) := ⟨_, rfl⟩
              have hb : Below wd.heap.size wd v1 := by rw [hu]; exact (Below.refl wd.heap.size wd).alloc (Nat.le_refl _) (.cells #[.slice Av vl cv] 22)
              have hrw : RowT v1 B0 (w.heap.size + 1 + 1 + 1) wd.heap.size (.slice Av vl cv) (val) := by rw [hu]; exact RowT.lit (HR0.out.txt HV.out) (by omega)
              have HR1 := Lib.hid (HR0.out.kept hb)
              have NE := Lib.hid HR0.out.neK
              have HVr1 := Lib.hid hrw
              go_simp
              rw [← hu]
              have Sx1 := T_ HR1.out
              refine hK.out _ _ (fun _ => Sx1) ?_
              clear hK K S0 hu hb hrw
              try go_frame
              refine anyU_ready (rs := [3]) (by kernel_rfl) (by simp) (AllU.cons (o := ⟨some 40, .buildSlice 24 1 #[(0, .tmp 39)], _, _, _, none⟩) rfl (fun K hK => ?_) (fun h => absurd h (by decide)) AllU.nil)
              rw [if_pos (by rfl)]
              obtain ⟨v2, hu⟩ : ∃ u, u = v1.alloc (.cells #[.slice Ak kl ck] 22) := ⟨_, rfl⟩
              have hb : Below v1.heap.size v1 v2 := by rw [hu]; exact (Below.refl v1.heap.size v1).alloc (Nat.le_refl _) (.cells #[.slice Ak kl ck] 22)
              have hrw : RowT v2 B0 (w.heap.size + 1 + 1 + 1) v1.heap.size (.slice Ak kl ck) (key) := by rw [hu]; exact RowT.lit (HR1.out.txt HK.out) (by omega)
              have HR2 := Lib.hid (HR1.out.kept hb)
              have HVr2 := Lib.hid (HVr1.out.kept hb (by omega))
              have HKr2 := Lib.hid hrw
              go_simp
              rw [← hu]
              have Sx2 := T_ HR2.out
              refine hK.out _ _ (fun _ => Sx2) ?_
              clear hK K Sx1 hu hb hrw
              try go_frame
              refine anyU_ready (rs := [4]) (by kernel_rfl) (by simp) (AllU.cons (o := ⟨some 41, .call { callee := .builtin .append, args := #[.tmp 38, .tmp 40], argTypes := #[24, 24] }, _, _, _, none⟩) rfl (fun K hK => ?_) (fun h => absurd h (by decide)) AllU.nil)
              rw [if_pos (by rfl)]
              obtain ⟨P1, n1, d1, v3, hrun, hr2, hg, hbb⟩ := HR2.out.appK HKr2.out (by have := putS_len (p := p) (d := th.toNat) (x := key) (xs := n.keys) k; simp; omega)
              have Hrun := Lib.hid hrun
              have HR3 := Lib.hid hr2
              have HVr3 := Lib.hid (HVr2.out.grown hg NE.out HR2.out.nm.rK.rowB (by omega))
              clear hrun hr2 hg hbb
              refine wp_run (.slice P1 n1 d1) v3 (exec_append (t := 24) (x := .tmp 38) (y := .tmp 40) rfl rfl rfl Hrun.out) ?_
              have Sx3 := T_ HR3.out
              refine hK.out _ _ (fun _ => Sx3) ?_
              clear hK K Sx2 Hrun
              go_frame
              refine' anyU_take0 (i := 10) (oi := ⟨some 47, .fieldAddr 27 (.tmp 7) 1, _, _, _, none⟩) (v := _) rfl (by kernel_rfl) (fun _ _ _ h => h) (Or.inl ⟨by rfl, ?hy26⟩) (by assumption) ?rest26
              case hy26 => (intro w hSw; go_simp <;> with_reducible rfl)
              case rest26 =>
              go_frame
              refine anyU_ready (rs := [9]) (by kernel_rfl) (by simp) (AllU.cons (o := ⟨some 46, .call { callee := .builtin .append, args := #[.tmp 43, .tmp 45], argTypes := #[24, 24] }, _, _, _, none⟩) rfl (fun K hK => ?_) (fun h => absurd h (by decide)) AllU.nil)
              rw [if_pos (by rfl)]
              obtain ⟨P2, n2, d2, v4, hrun, hr2, hg, hbb⟩ := HR3.out.appV HVr3.out (by have := putS_len (p := p) (d := th.toNat) (x := val) (xs := n.vals) k; simp; omega)
              have Hrun := Lib.hid hrun
              have HR4 := Lib.hid hr2
              clear hrun hr2 hg hbb
              refine wp_run (.slice P2 n2 d2) v4 (exec_append (t := 24) (x := .tmp 43) (y := .tmp 45) rfl rfl rfl Hrun.out) ?_
              have Sx4 := T_ HR4.out
              refine hK.out _ _ (fun _ => Sx4) ?_
              clear hK K Sx3 Hrun
              go_frame
              refine anyU_ready (rs := [11]) (by kernel_rfl) (by simp) (AllU.cons (o := ⟨none, .store 24 (.tmp 47) (.tmp 41), _, _, _, none⟩) rfl (fun K hK => ?_) (fun _ => by kernel_rfl) AllU.nil)
              rw [if_pos (by rfl)]
              obtain ⟨y0, y1, y2, y3, f0, f1, f2, f3⟩ := out_cells HR4.out.nm.top
              go_simp
              refine hK.out _ _ (fun h => absurd h (by decide)) ?_
              clear hK K
              try go_frame
              obtain ⟨Wa, hWa⟩ : ∃ X, X = v4.setCell ⟨w.heap.size + 1 + 1, 1, none⟩ (.slice P1 n1 d1) := ⟨_, rfl⟩
              have hra := HR4.out.setK
              rw [← hWa] at hra
              rw [← hWa]
              have HRa := Lib.hid hra
              clear hWa hra y0 y1 y2 y3 f0 f1 f2 f3
              refine anyU_ready (rs := [12]) (by kernel_rfl) (by simp) (AllU.cons (o := ⟨some 48, .fieldAddr 27 (.tmp 7) 2, _, _, _, none⟩) rfl (fun K hK => ?_) (fun _ => by kernel_rfl) AllU.nil)
              rw [if_pos (by rfl)]
              go_simp
              refine hK.out _ _ (fun h => absurd h (by decide)) ?_
              clear hK K
              try go_frame
              refine anyU_ready (rs := [13]) (by kernel_rfl) (by simp) (AllU.cons (o := ⟨none, .store 24 (.tmp 48) (.tmp 46), _, _, _, none⟩) rfl (fun K hK => ?_) (fun _ => by kernel_rfl) AllU.nil)
              rw [if_pos (by rfl)]
              obtain ⟨y0, y1, y2, y3, f0, f1, f2, f3⟩ := out_cells HRa.out.nm.top
              go_simp
              refine hK.out _ _ (fun h => absurd h (by decide)) ?_
              clear hK K
              try go_frame
              obtain ⟨wz, hWb⟩ : ∃ X, X = Wa.setCell ⟨w.heap.size + 1 + 1, 2, none⟩ (.slice P2 n2 d2) := ⟨_, rfl⟩
              have hrb := HRa.out.setV
              rw [← hWb] at hrb
              rw [← hWb]
              have HRb := Lib.hid hrb
              clear hWb hrb y0 y1 y2 y3 f0 f1 f2 f3 HRa Sx4
              refine anyU_ready (rs := [14]) (by kernel_rfl) (by simp) (AllU.cons (o := ⟨some 8, .assign (.const (.bool true)), _, _, _, none⟩) rfl (fun K hK => ?_) (fun _ => by kernel_rfl) AllU.nil)
              rw [if_pos (by rfl)]
              go_simp
              refine hK.out _ _ (fun h => absurd h (by decide)) ?_
              clear hK K
              try go_frame
              refine anyU_done (by kernel_rfl) ?_ _
              obtain ⟨x0, x1, x2, x3⟩ := HRb.out.box
              have S7_ : (fun w' : World => w'.cell? ⟨w.heap.size, 1, none⟩ = some (.slice (some ⟨bk, ok, none⟩) a c1) ∧ w'.cell? ⟨bk, ok + k, none⟩ = some (.slice Ac mc cc) ∧ (convert 22 9 (.slice Ac mc cc)).run Try.prog w' = .ok (.string ⟨kk.toArray⟩) w' ∧ (convert 22 9 (.slice Ak kl ck)).run Try.prog w' = .ok (.string ⟨key.toArray⟩) w') wz.drew := ⟨HRb.out.box.c1, (HRb.out.below.cell HBk.out.1).trans HKc.out, run_string_rd (P := Try.prog) 22 9 5 Try.underlying22 Try.underlying5 Try.underlying9 (HKr.out.below (HRb.out.below.mono hB0)).drew, run_string_rd (P := Try.prog) 22 9 5 Try.underlying22 Try.underlying5 Try.underlying9 (HK.out.below (HRb.out.below.mono hB0)).drew⟩
              have H7 := Lib.hid S7_
              clear S7_
              have k0 : (0 : Int) ≤ (k : Int) := by omega
              have k1 : (k : Int) < (a : Int) := by omega
              have k3 : (k : Int).toNat = k := by omega
              have t7 : (kk == key) = true := by rw [HKeq.out]; simp
              go_wp2_with fail
              go_region_held3 (fun w' => w'.cell? ⟨w.heap.size, 1, none⟩ = some (.slice (some ⟨bk, ok, none⟩) a c1) ∧ w'.cell? ⟨bk, ok + k, none⟩ = some (.slice Ac mc cc) ∧ (convert 22 9 (.slice Ac mc cc)).run Try.prog w' = .ok (.string ⟨kk.toArray⟩) w' ∧ (convert 22 9 (.slice Ak kl ck)).run Try.prog w' = .ok (.string ⟨key.toArray⟩) w') (exact H7.out) (fail)
              have HR7 := Lib.hid (HRb.out.kept (Below.refl _ _).drew)
              clear H7 k0 k1 k3 t7
              go_wp2_with fail
              go_roundw
              case rel =>
                refine ⟨k + 1, true, P1, P2, n1, d1, n2, d2, by omega, by go_num, rfl, Lib.hid (HD.out), Lib.hid ?_⟩
                rw [show putS p th.toNat key n.keys (k + 1) = putS p th.toNat key n.keys k ++ [key] by rw [HP.out]; exact putS_only (fun g => g.2 (by rw [HT.out]; rfl)), show putS p th.toNat val n.vals (k + 1) = putS p th.toNat val n.vals k ++ [val] by rw [HP.out]; exact putS_only (fun g => g.2 (by rw [HT.out]; rfl))]
                exact HR7.out
              case measure => simp [intOf];  omega
          · have HKne := Lib.hid (show ¬ kk = key from fun h => hth (hif.1 h).1)
            have HT := Lib.hid hth
            clear hlo hhi hif he hx0 hkp HQ hth
            go_wp2_with fail
            refine HCx.out.mono ?_
            rintro e w3 ⟨rfl, hb3⟩
            have HR3 := Lib.hid (HR.out.kept hb3)
            clear hb3 HCx x0 x1 x2 x3 hkcr HR t5
            obtain ⟨x0, x1, x2, x3⟩ := HR3.out.box
            go_wp2_with fail
            have T_ : ∀ {W : World} {uK uV : Value} {lk lv : List (List UInt8)}, RpW w B0 W (.slice (some ⟨bk, ok, none⟩) a c1) (.slice (some ⟨bv, ov, none⟩) a c2) (.slice A3 d c3) (.slice T1 t1 e1) (.slice T2 t2 e2) uK uV lk lv → (fun w' => w'.cell? ⟨w.heap.size + 1 + 1, 1, none⟩ = some (.slice T1 t1 e1) ∧ w'.cell? ⟨w.heap.size + 1 + 1, 2, none⟩ = some (.slice T2 t2 e2)) W := fun {W uK uV lk lv} hT => by
              exact ⟨hT.nm.c1, hT.nm.c2⟩
            obtain ⟨wd, hwd⟩ : ∃ x, x = w3.drew := ⟨_, rfl⟩
            have HS_wd : Hid (RpW w B0 wd (.slice (some ⟨bk, ok, none⟩) a c1) (.slice (some ⟨bv, ov, none⟩) a c2) (.slice A3 d c3) (.slice T1 t1 e1) (.slice T2 t2 e2) (.slice T1 t1 e1) (.slice T2 t2 e2) (putS p th.toNat key n.keys k) (putS p th.toNat val n.vals k)) := Lib.hid (by rw [hwd]; exact HR3.out.kept (Below.refl _ _).drew)
            have Zwd := Lib.hid (show wd.heap.size = w3.heap.size by rw [hwd]; rfl)
            have S0 : (fun w' => w'.cell? ⟨w.heap.size + 1 + 1, 1, none⟩ = some (.slice T1 t1 e1) ∧ w'.cell? ⟨w.heap.size + 1 + 1, 2, none⟩ = some (.slice T2 t2 e2)) wd := T_ HS_wd.out
            have HR0 := Lib.hid HS_wd.out
            refine wp_region_late (S := fun w' => w'.cell? ⟨w.heap.size + 1 + 1, 1, none⟩ = some (.slice T1 t1 e1) ∧ w'.cell? ⟨w.heap.size + 1 + 1, 2, none⟩ = some (.slice T2 t2 e2)) [11, 12, 13, 14] (by kernel_rfl) (by rw [← hwd]; exact S0) (fun hHeld => ?_)
            rw [← hwd]
            clear hwd
            refine' anyU_take0 (i := 0) (oi := ⟨some 37, .fieldAddr 27 (.tmp 7) 1, _, _, _, none⟩) (v := _) rfl (by kernel_rfl) (fun _ _ _ h => h) (Or.inl ⟨by rfl, ?hy44⟩) (by assumption) ?rest44
            case hy44 => (intro w hSw; go_simp <;> with_reducible rfl)
            case rest44 =>
            go_frame
            refine' anyU_take (i := 1) (oi := ⟨some 38, .load 24 (.tmp 37), _, _, _, none⟩) (v := _) rfl (by kernel_rfl) (fun _ _ _ h => h) (Or.inl ⟨by rfl, ?hy45⟩) (by assumption) ?rest45
            case hy45 => (intro w hSw; obtain ⟨s0, s1⟩ := hSw; go_simp <;> with_reducible rfl)
            case rest45 =>
            go_frame
            refine' anyU_take0 (i := 2) (oi := ⟨some 39, .move (.tmp 1), _, _, _, none⟩) (v := _) rfl (by kernel_rfl) (fun _ _ _ h => h) (Or.inl ⟨by rfl, ?hy46⟩) (by assumption) ?rest46
            case hy46 => (intro w hSw; go_simp <;> with_reducible rfl)
            case rest46 =>
            go_frame
            refine' anyU_take0 (i := 5) (oi := ⟨some 42, .fieldAddr 27 (.tmp 7) 2, _, _, _, none⟩) (v := _) rfl (by kernel_rfl) (fun _ _ _ h => h) (Or.inl ⟨by rfl, ?hy47⟩) (by assumption) ?rest47
            case hy47 => (intro w hSw; go_simp <;> with_reducible rfl)
            case rest47 =>
            go_frame
            refine' anyU_take (i := 6) (oi := ⟨some 43, .load 24 (.tmp 42), _, _, _, none⟩) (v := _) rfl (by kernel_rfl) (fun _ _ _ h => h) (Or.inl ⟨by rfl, ?hy48⟩) (by assumption) ?rest48
            case hy48 => (intro w hSw; obtain ⟨s0, s1⟩ := hSw; go_simp <;> with_reducible rfl)
            case rest48 =>
            go_frame
            refine' anyU_take0 (i := 7) (oi := ⟨some 44, .move (.tmp 2), _, _, _, none⟩) (v := _) rfl (by kernel_rfl) (fun _ _ _ h => h) (Or.inl ⟨by rfl, ?hy49⟩) (by assumption) ?rest49
            case hy49 => (intro w hSw; go_simp <;> with_reducible rfl)
            case rest49 =>
            go_frame
            refine anyU_ready (rs := [3, 8]) (by kernel_rfl) (by simp) (AllU.cons (o := ⟨some 40, .buildSlice 24 1 #[(0, .tmp 39)], _, _, _, none⟩) rfl (fun K hK => ?_) (fun h => absurd h (by decide)) (AllU.cons (o := ⟨some 45, .buildSlice 24 1 #[(0, .tmp 44)], _, _, _, none⟩) rfl (fun K hK => ?_) (fun h => absurd h (by decide)) AllU.nil))
            · rw [if_pos (by rfl)]
              obtain ⟨v1, hu⟩ : ∃ u, u = wd.alloc (.cells #[.slice Ak kl ck] 22) := ⟨_, rfl⟩
              have hb : Below wd.heap.size wd v1 := by rw [hu]; exact (Below.refl wd.heap.size wd).alloc (Nat.le_refl _) (.cells #[.slice Ak kl ck] 22)
              have hrw : RowT v1 B0 (w.heap.size + 1 + 1 + 1) wd.heap.size (.slice Ak kl ck) (key) := by rw [hu]; exact RowT.lit (HR0.out.txt HK.out) (by omega)
              have HR1 := Lib.hid (HR0.out.kept hb)
              have HKr1 := Lib.hid hrw
              go_simp
              rw [← hu]
              have Sx1 := T_ HR1.out
              refine hK.out _ _ (fun _ => Sx1) ?_
              clear hK K S0 hu hb hrw
              try go_frame
              refine anyU_ready (rs := [4, 8]) (by kernel_rfl) (by simp) (AllU.cons (o := ⟨some 41, .call { callee := .builtin .append, args := #[.tmp 38, .tmp 40], argTypes := #[24, 24] }, _, _, _, none⟩) rfl (fun K hK => ?_) (fun h => absurd h (by decide)) (AllU.cons (o := ⟨some 45, .buildSlice 24 1 #[(0, .tmp 44)], _, _, _, none⟩) rfl (fun K hK => ?_) (fun h => absurd h (by decide)) AllU.nil))
              · rw [if_pos (by rfl)]
                obtain ⟨P1, n1, d1, v2, hrun, hr2, hg, hbb⟩ := HR1.out.appK HKr1.out (by have := putS_len (p := p) (d := th.toNat) (x := key) (xs := n.keys) k; simp; omega)
                have Hrun := Lib.hid hrun
                have HR2 := Lib.hid hr2
                clear hrun hr2 hg hbb
                refine wp_run (.slice P1 n1 d1) v2 (exec_append (t := 24) (x := .tmp 38) (y := .tmp 40) rfl rfl rfl Hrun.out) ?_
                have Sx2 := T_ HR2.out
                refine hK.out _ _ (fun _ => Sx2) ?_
                clear hK K Sx1 Hrun
                go_frame
                refine' anyU_take0 (i := 10) (oi := ⟨some 47, .fieldAddr 27 (.tmp 7) 1, _, _, _, none⟩) (v := _) rfl (by kernel_rfl) (fun _ _ _ h => h) (Or.inl ⟨by rfl, ?hy50⟩) (by assumption) ?rest50
                case hy50 => (intro w hSw; go_simp <;> with_reducible rfl)
                case rest50 =>
                go_frame
                refine anyU_ready (rs := [8]) (by kernel_rfl) (by simp) (AllU.cons (o := ⟨some 45, .buildSlice 24 1 #[(0, .tmp 44)], _, _, _, none⟩) rfl (fun K hK => ?_) (fun h => absurd h (by decide)) AllU.nil)
                rw [if_pos (by rfl)]
                obtain ⟨v3, hu⟩ : ∃ u, u = v2.alloc (.cells #[.slice Av vl cv] 22) := ⟨_, rfl⟩
                have hb : Below v2.heap.size v2 v3 := by rw [hu]; exact (Below.refl v2.heap.size v2).alloc (Nat.le_refl _) (.cells #[.slice Av vl cv] 22)
                have hrw : RowT v3 B0 (w.heap.size + 1 + 1 + 1) v2.heap.size (.slice Av vl cv) (val) := by rw [hu]; exact RowT.lit (HR2.out.txt HV.out) (by omega)
                have HR3 := Lib.hid (HR2.out.kept hb)
                have HVr3 := Lib.hid hrw
                go_simp
                rw [← hu]
                have Sx3 := T_ HR3.out
                refine hK.out _ _ (fun _ => Sx3) ?_
                clear hK K Sx2 hu hb hrw
                try go_frame
                refine anyU_ready (rs := [9]) (by kernel_rfl) (by simp) (AllU.cons (o := ⟨some 46, .call { callee := .builtin .append, args := #[.tmp 43, .tmp 45], argTypes := #[24, 24] }, _, _, _, none⟩) rfl (fun K hK => ?_) (fun h => absurd h (by decide)) AllU.nil)
                rw [if_pos (by rfl)]
                obtain ⟨P2, n2, d2, v4, hrun, hr2, hg, hbb⟩ := HR3.out.appV HVr3.out (by have := putS_len (p := p) (d := th.toNat) (x := val) (xs := n.vals) k; simp; omega)
                have Hrun := Lib.hid hrun
                have HR4 := Lib.hid hr2
                clear hrun hr2 hg hbb
                refine wp_run (.slice P2 n2 d2) v4 (exec_append (t := 24) (x := .tmp 43) (y := .tmp 45) rfl rfl rfl Hrun.out) ?_
                have Sx4 := T_ HR4.out
                refine hK.out _ _ (fun _ => Sx4) ?_
                clear hK K Sx3 Hrun
                go_frame
                refine anyU_ready (rs := [11]) (by kernel_rfl) (by simp) (AllU.cons (o := ⟨none, .store 24 (.tmp 47) (.tmp 41), _, _, _, none⟩) rfl (fun K hK => ?_) (fun _ => by kernel_rfl) AllU.nil)
                rw [if_pos (by rfl)]
                obtain ⟨y0, y1, y2, y3, f0, f1, f2, f3⟩ := out_cells HR4.out.nm.top
                go_simp
                refine hK.out _ _ (fun h => absurd h (by decide)) ?_
                clear hK K
                try go_frame
                obtain ⟨Wa, hWa⟩ : ∃ X, X = v4.setCell ⟨w.heap.size + 1 + 1, 1, none⟩ (.slice P1 n1 d1) := ⟨_, rfl⟩
                have hra := HR4.out.setK
                rw [← hWa] at hra
                rw [← hWa]
                have HRa := Lib.hid hra
                clear hWa hra y0 y1 y2 y3 f0 f1 f2 f3
                refine anyU_ready (rs := [12]) (by kernel_rfl) (by simp) (AllU.cons (o := ⟨some 48, .fieldAddr 27 (.tmp 7) 2, _, _, _, none⟩) rfl (fun K hK => ?_) (fun _ => by kernel_rfl) AllU.nil)
                rw [if_pos (by rfl)]
                go_simp
                refine hK.out _ _ (fun h => absurd h (by decide)) ?_
                clear hK K
                try go_frame
                refine anyU_ready (rs := [13]) (by kernel_rfl) (by simp) (AllU.cons (o := ⟨none, .store 24 (.tmp 48) (.tmp 46), _, _, _, none⟩) rfl (fun K hK => ?_) (fun _ => by kernel_rfl) AllU.nil)
                rw [if_pos (by rfl)]
                obtain ⟨y0, y1, y2, y3, f0, f1, f2, f3⟩ := out_cells HRa.out.nm.top
                go_simp
                refine hK.out _ _ (fun h => absurd h (by decide)) ?_
                clear hK K
                try go_frame
                obtain ⟨wz, hWb⟩ : ∃ X, X = Wa.setCell ⟨w.heap.size + 1 + 1, 2, none⟩ (.slice P2 n2 d2) := ⟨_, rfl⟩
                have hrb := HRa.out.setV
                rw [← hWb] at hrb
                rw [← hWb]
                have HRb := Lib.hid hrb
                clear hWb hrb y0 y1 y2 y3 f0 f1 f2 f3 HRa Sx4
                refine anyU_ready (rs := [14]) (by kernel_rfl) (by simp) (AllU.cons (o := ⟨some 8, .assign (.const (.bool true)), _, _, _, none⟩) rfl (fun K hK => ?_) (fun _ => by kernel_rfl) AllU.nil)
                rw [if_pos (by rfl)]
                go_simp
                refine hK.out _ _ (fun h => absurd h (by decide)) ?_
                clear hK K
                try go_frame
                refine anyU_done (by kernel_rfl) ?_ _
                obtain ⟨x0, x1, x2, x3⟩ := HRb.out.box
                have S7_ : (fun w' : World => w'.cell? ⟨w.heap.size, 1, none⟩ = some (.slice (some ⟨bk, ok, none⟩) a c1) ∧ w'.cell? ⟨bk, ok + k, none⟩ = some (.slice Ac mc cc) ∧ (convert 22 9 (.slice Ac mc cc)).run Try.prog w' = .ok (.string ⟨kk.toArray⟩) w' ∧ (convert 22 9 (.slice Ak kl ck)).run Try.prog w' = .ok (.string ⟨key.toArray⟩) w') wz.drew := ⟨HRb.out.box.c1, (HRb.out.below.cell HBk.out.1).trans HKc.out, run_string_rd (P := Try.prog) 22 9 5 Try.underlying22 Try.underlying5 Try.underlying9 (HKr.out.below (HRb.out.below.mono hB0)).drew, run_string_rd (P := Try.prog) 22 9 5 Try.underlying22 Try.underlying5 Try.underlying9 (HK.out.below (HRb.out.below.mono hB0)).drew⟩
                have H7 := Lib.hid S7_
                clear S7_
                have k0 : (0 : Int) ≤ (k : Int) := by omega
                have k1 : (k : Int) < (a : Int) := by omega
                have k3 : (k : Int).toNat = k := by omega
                have t7 : (kk == key) = false := by simp [HKne.out]
                go_wp2_with fail
                go_region_held3 (fun w' => w'.cell? ⟨w.heap.size, 1, none⟩ = some (.slice (some ⟨bk, ok, none⟩) a c1) ∧ w'.cell? ⟨bk, ok + k, none⟩ = some (.slice Ac mc cc) ∧ (convert 22 9 (.slice Ac mc cc)).run Try.prog w' = .ok (.string ⟨kk.toArray⟩) w' ∧ (convert 22 9 (.slice Ak kl ck)).run Try.prog w' = .ok (.string ⟨key.toArray⟩) w') (exact H7.out) (fail)
                have HR7 := Lib.hid (HRb.out.kept (Below.refl _ _).drew)
                clear H7 k0 k1 k3 t7
                go_wp2_with fail
                have T_ : ∀ {W : World} {uK uV : Value} {lk lv : List (List UInt8)}, RpW w B0 W (.slice (some ⟨bk, ok, none⟩) a c1) (.slice (some ⟨bv, ov, none⟩) a c2) (.slice A3 d c3) (.slice P1 n1 d1) (.slice P2 n2 d2) uK uV lk lv → (fun w' => w'.cell? ⟨w.heap.size, 1, none⟩ = some (.slice (some ⟨bk, ok, none⟩) a c1) ∧ w'.cell? ⟨w.heap.size, 2, none⟩ = some (.slice (some ⟨bv, ov, none⟩) a c2) ∧ w'.cell? ⟨w.heap.size + 1 + 1, 1, none⟩ = some (.slice P1 n1 d1) ∧ w'.cell? ⟨w.heap.size + 1 + 1, 2, none⟩ = some (.slice P2 n2 d2) ∧ w'.cell? ⟨bk, ok + k, none⟩ = some (.slice Ac mc cc) ∧ w'.cell? ⟨bv, ov + k, none⟩ = some (.slice Bc nc dc)) W := fun {W uK uV lk lv} hT => by
                  exact ⟨hT.box.c1, hT.box.c2, hT.nm.c1, hT.nm.c2, (hT.below.cell HBk.out.1).trans HKc.out, (hT.below.cell HBk.out.2).trans HVc.out⟩
                obtain ⟨wdb, hwdb⟩ : ∃ x, x = wz.drew.drew := ⟨_, rfl⟩
                have HS_wdb : Hid (RpW w B0 wdb (.slice (some ⟨bk, ok, none⟩) a c1) (.slice (some ⟨bv, ov, none⟩) a c2) (.slice A3 d c3) (.slice P1 n1 d1) (.slice P2 n2 d2) (.slice P1 n1 d1) (.slice P2 n2 d2) (putS p th.toNat key n.keys k ++ [key]) (putS p th.toNat val n.vals k ++ [val])) := Lib.hid (by rw [hwdb]; exact HR7.out.kept (Below.refl _ _).drew)
                have Zwdb := Lib.hid (show wdb.heap.size = wz.drew.heap.size by rw [hwdb]; rfl)
                have S0 : (fun w' => w'.cell? ⟨w.heap.size, 1, none⟩ = some (.slice (some ⟨bk, ok, none⟩) a c1) ∧ w'.cell? ⟨w.heap.size, 2, none⟩ = some (.slice (some ⟨bv, ov, none⟩) a c2) ∧ w'.cell? ⟨w.heap.size + 1 + 1, 1, none⟩ = some (.slice P1 n1 d1) ∧ w'.cell? ⟨w.heap.size + 1 + 1, 2, none⟩ = some (.slice P2 n2 d2) ∧ w'.cell? ⟨bk, ok + k, none⟩ = some (.slice Ac mc cc) ∧ w'.cell? ⟨bv, ov + k, none⟩ = some (.slice Bc nc dc)) wdb := T_ HS_wdb.out
                have HR0 := Lib.hid HS_wdb.out
                refine wp_region_late (S := fun w' => w'.cell? ⟨w.heap.size, 1, none⟩ = some (.slice (some ⟨bk, ok, none⟩) a c1) ∧ w'.cell? ⟨w.heap.size, 2, none⟩ = some (.slice (some ⟨bv, ov, none⟩) a c2) ∧ w'.cell? ⟨w.heap.size + 1 + 1, 1, none⟩ = some (.slice P1 n1 d1) ∧ w'.cell? ⟨w.heap.size + 1 + 1, 2, none⟩ = some (.slice P2 n2 d2) ∧ w'.cell? ⟨bk, ok + k, none⟩ = some (.slice Ac mc cc) ∧ w'.cell? ⟨bv, ov + k, none⟩ = some (.slice Bc nc dc)) [19, 20, 21] (by kernel_rfl) (by rw [← hwdb]; exact S0) (fun hHeld => ?_)
                rw [← hwdb]
                clear hwdb
                refine' anyU_take0 (i := 0) (oi := ⟨some 65, .fieldAddr 27 (.tmp 7) 1, _, _, _, none⟩) (v := _) rfl (by kernel_rfl) (fun _ _ _ h => h) (Or.inl ⟨by rfl, ?hy27⟩) (by assumption) ?rest27
                case hy27 => (intro w hSw; go_simp <;> with_reducible rfl)
                case rest27 =>
                go_frame
                refine' anyU_take (i := 1) (oi := ⟨some 66, .load 24 (.tmp 65), _, _, _, none⟩) (v := _) rfl (by kernel_rfl) (fun _ _ _ h => h) (Or.inl ⟨by rfl, ?hy28⟩) (by assumption) ?rest28
                case hy28 => (intro w hSw; obtain ⟨s0, s1, s2, s3, s4, s5⟩ := hSw; go_simp <;> with_reducible rfl)
                case rest28 =>
                go_frame
                refine' anyU_take0 (i := 2) (oi := ⟨some 67, .fieldAddr 27 (.tmp 3) 1, _, _, _, none⟩) (v := _) rfl (by kernel_rfl) (fun _ _ _ h => h) (Or.inl ⟨by rfl, ?hy29⟩) (by assumption) ?rest29
                case hy29 => (intro w hSw; go_simp <;> with_reducible rfl)
                case rest29 =>
                go_frame
                refine' anyU_take (i := 3) (oi := ⟨some 68, .load 24 (.tmp 67), _, _, _, none⟩) (v := _) rfl (by kernel_rfl) (fun _ _ _ h => h) (Or.inl ⟨by rfl, ?hy30⟩) (by assumption) ?rest30
                case hy30 => (intro w hSw; obtain ⟨s0, s1, s2, s3, s4, s5⟩ := hSw; go_simp <;> with_reducible rfl)
                case rest30 =>
                go_frame
                refine' anyU_take0 (i := 4) (oi := ⟨some 69, .move (.tmp 9), _, _, _, none⟩) (v := _) rfl (by kernel_rfl) (fun _ _ _ h => h) (Or.inl ⟨by rfl, ?hy31⟩) (by assumption) ?rest31
                case hy31 => (intro w hSw; go_simp <;> with_reducible rfl)
                case rest31 =>
                go_frame
                refine' anyU_take0 (i := 5) (oi := ⟨some 70, .indexAddr 24 (.tmp 68) (.tmp 69), _, _, _, none⟩) (v := _) rfl (by kernel_rfl) (fun _ _ _ h => h) (Or.inl ⟨by rfl, ?hy32⟩) (by assumption) ?rest32
                case hy32 => (intro w hSw; go_simp <;> with_reducible rfl)
                case rest32 =>
                go_frame
                refine' anyU_take (i := 6) (oi := ⟨some 71, .load 22 (.tmp 70), _, _, _, none⟩) (v := _) rfl (by kernel_rfl) (fun _ _ _ h => h) (Or.inl ⟨by rfl, ?hy33⟩) (by assumption) ?rest33
                case hy33 => (intro w hSw; obtain ⟨s0, s1, s2, s3, s4, s5⟩ := hSw; go_simp <;> with_reducible rfl)
                case rest33 =>
                go_frame
                refine' anyU_take0 (i := 9) (oi := ⟨some 74, .fieldAddr 27 (.tmp 7) 2, _, _, _, none⟩) (v := _) rfl (by kernel_rfl) (fun _ _ _ h => h) (Or.inl ⟨by rfl, ?hy34⟩) (by assumption) ?rest34
                case hy34 => (intro w hSw; go_simp <;> with_reducible rfl)
                case rest34 =>
                go_frame
                refine' anyU_take (i := 10) (oi := ⟨some 75, .load 24 (.tmp 74), _, _, _, none⟩) (v := _) rfl (by kernel_rfl) (fun _ _ _ h => h) (Or.inl ⟨by rfl, ?hy35⟩) (by assumption) ?rest35
                case hy35 => (intro w hSw; obtain ⟨s0, s1, s2, s3, s4, s5⟩ := hSw; go_simp <;> with_reducible rfl)
                case rest35 =>
                go_frame
                refine' anyU_take0 (i := 11) (oi := ⟨some 76, .fieldAddr 27 (.tmp 3) 2, _, _, _, none⟩) (v := _) rfl (by kernel_rfl) (fun _ _ _ h => h) (Or.inl ⟨by rfl, ?hy36⟩) (by assumption) ?rest36
                case hy36 => (intro w hSw; go_simp <;> with_reducible rfl)
                case rest36 =>
                go_frame
                refine' anyU_take2 [14, 15, 16, 17, 19, 20, 21] (i := 12) (oi := ⟨some 77, .load 24 (.tmp 76), _, _, _, none⟩) (v := _) rfl (by kernel_rfl) (fun _ _ _ h => h) (Or.inl ⟨by rfl, ?hy37⟩) (by assumption) ?rest37
                case hy37 => (intro w hSw; obtain ⟨s0, s1, s2, s3, s4, s5⟩ := hSw; go_simp <;> with_reducible rfl)
                case rest37 =>
                go_frame
                refine' anyU_take0 (i := 13) (oi := ⟨some 78, .move (.tmp 9), _, _, _, none⟩) (v := _) rfl (by kernel_rfl) (fun _ _ _ h => h) (Or.inl ⟨by rfl, ?hy38⟩) (by assumption) ?rest38
                case hy38 => (intro w hSw; go_simp <;> with_reducible rfl)
                case rest38 =>
                go_frame
                refine' anyU_take0 (i := 14) (oi := ⟨some 79, .indexAddr 24 (.tmp 77) (.tmp 78), _, _, _, none⟩) (v := _) rfl (by kernel_rfl) (fun _ _ _ h => h) (Or.inl ⟨by rfl, ?hy39⟩) (by assumption) ?rest39
                case hy39 => (intro w hSw; go_simp <;> with_reducible rfl)
                case rest39 =>
                go_frame
                refine' anyU_take2 [16, 17, 19, 20, 21] (i := 15) (oi := ⟨some 80, .load 22 (.tmp 79), _, _, _, none⟩) (v := _) rfl (by kernel_rfl) (fun _ _ _ h => h) (Or.inl ⟨by rfl, ?hy40⟩) (by assumption) ?rest40
                case hy40 => (intro w hSw; obtain ⟨s0, s1, s2, s3, s4, s5⟩ := hSw; go_simp <;> with_reducible rfl)
                case rest40 =>
                go_frame
                refine anyU_ready (rs := [7, 16]) (by kernel_rfl) (by simp) (AllU.cons (o := ⟨some 72, .buildSlice 24 1 #[(0, .tmp 71)], _, _, _, none⟩) rfl (fun K hK => ?_) (fun h => absurd h (by decide)) (AllU.cons (o := ⟨some 81, .buildSlice 24 1 #[(0, .tmp 80)], _, _, _, none⟩) rfl (fun K hK => ?_) (fun h => absurd h (by decide)) AllU.nil))
                · rw [if_pos (by rfl)]
                  obtain ⟨v1b, hu⟩ : ∃ u, u = wdb.alloc (.cells #[.slice Ac mc cc] 22) := ⟨_, rfl⟩
                  have hb : Below wdb.heap.size wdb v1b := by rw [hu]; exact (Below.refl wdb.heap.size wdb).alloc (Nat.le_refl _) (.cells #[.slice Ac mc cc] 22)
                  have hrw : RowT v1b B0 (w.heap.size + 1 + 1 + 1) wdb.heap.size (.slice Ac mc cc) (kk) := by rw [hu]; exact RowT.lit (HR0.out.txt HKr.out) (by omega)
                  have HR1 := Lib.hid (HR0.out.kept hb)
                  have HKr1 := Lib.hid hrw
                  go_simp
                  rw [← hu]
                  have Sx1 := T_ HR1.out
                  refine hK.out _ _ (fun _ => Sx1) ?_
                  clear hK K S0 hu hb hrw
                  try go_frame
                  refine anyU_ready (rs := [8, 16]) (by kernel_rfl) (by simp) (AllU.cons (o := ⟨some 73, .call { callee := .builtin .append, args := #[.tmp 66, .tmp 72], argTypes := #[24, 24] }, _, _, _, none⟩) rfl (fun K hK => ?_) (fun h => absurd h (by decide)) (AllU.cons (o := ⟨some 81, .buildSlice 24 1 #[(0, .tmp 80)], _, _, _, none⟩) rfl (fun K hK => ?_) (fun h => absurd h (by decide)) AllU.nil))
                  · rw [if_pos (by rfl)]
                    obtain ⟨P1b, n1b, d1b, v2b, hrun, hr2, hg, hbb⟩ := HR1.out.appK HKr1.out (by have := putS_len (p := p) (d := th.toNat) (x := key) (xs := n.keys) k; simp; omega)
                    have Hrun := Lib.hid hrun
                    have HR2 := Lib.hid hr2
                    clear hrun hr2 hg hbb
                    refine wp_run (.slice P1b n1b d1b) v2b (exec_append (t := 24) (x := .tmp 66) (y := .tmp 72) rfl rfl rfl Hrun.out) ?_
                    have Sx2 := T_ HR2.out
                    refine hK.out _ _ (fun _ => Sx2) ?_
                    clear hK K Sx1 Hrun
                    go_frame
                    refine' anyU_take0 (i := 18) (oi := ⟨some 83, .fieldAddr 27 (.tmp 7) 1, _, _, _, none⟩) (v := _) rfl (by kernel_rfl) (fun _ _ _ h => h) (Or.inl ⟨by rfl, ?hy41⟩) (by assumption) ?rest41
                    case hy41 => (intro w hSw; go_simp <;> with_reducible rfl)
                    case rest41 =>
                    go_frame
                    refine anyU_ready (rs := [16]) (by kernel_rfl) (by simp) (AllU.cons (o := ⟨some 81, .buildSlice 24 1 #[(0, .tmp 80)], _, _, _, none⟩) rfl (fun K hK => ?_) (fun h => absurd h (by decide)) AllU.nil)
                    rw [if_pos (by rfl)]
                    obtain ⟨v3b, hu⟩ : ∃ u, u = v2b.alloc (.cells #[.slice Bc nc dc] 22) := ⟨_, rfl⟩
                    have hb : Below v2b.heap.size v2b v3b := by rw [hu]; exact (Below.refl v2b.heap.size v2b).alloc (Nat.le_refl _) (.cells #[.slice Bc nc dc] 22)
                    have hrw : RowT v3b B0 (w.heap.size + 1 + 1 + 1) v2b.heap.size (.slice Bc nc dc) (vv) := by rw [hu]; exact RowT.lit (HR2.out.txt HVr.out) (by omega)
                    have HR3 := Lib.hid (HR2.out.kept hb)
                    have HVr3 := Lib.hid hrw
                    go_simp
                    rw [← hu]
                    have Sx3 := T_ HR3.out
                    refine hK.out _ _ (fun _ => Sx3) ?_
                    clear hK K Sx2 hu hb hrw
                    try go_frame
                    refine anyU_ready (rs := [17]) (by kernel_rfl) (by simp) (AllU.cons (o := ⟨some 82, .call { callee := .builtin .append, args := #[.tmp 75, .tmp 81], argTypes := #[24, 24] }, _, _, _, none⟩) rfl (fun K hK => ?_) (fun h => absurd h (by decide)) AllU.nil)
                    rw [if_pos (by rfl)]
                    obtain ⟨P2b, n2b, d2b, v4b, hrun, hr2, hg, hbb⟩ := HR3.out.appV HVr3.out (by have := putS_len (p := p) (d := th.toNat) (x := val) (xs := n.vals) k; simp; omega)
                    have Hrun := Lib.hid hrun
                    have HR4 := Lib.hid hr2
                    clear hrun hr2 hg hbb
                    refine wp_run (.slice P2b n2b d2b) v4b (exec_append (t := 24) (x := .tmp 75) (y := .tmp 81) rfl rfl rfl Hrun.out) ?_
                    have Sx4 := T_ HR4.out
                    refine hK.out _ _ (fun _ => Sx4) ?_
                    clear hK K Sx3 Hrun
                    go_frame
                    refine anyU_ready (rs := [19]) (by kernel_rfl) (by simp) (AllU.cons (o := ⟨none, .store 24 (.tmp 83) (.tmp 73), _, _, _, none⟩) rfl (fun K hK => ?_) (fun _ => by kernel_rfl) AllU.nil)
                    rw [if_pos (by rfl)]
                    obtain ⟨y0, y1, y2, y3, f0, f1, f2, f3⟩ := out_cells HR4.out.nm.top
                    go_simp
                    refine hK.out _ _ (fun h => absurd h (by decide)) ?_
                    clear hK K
                    try go_frame
                    obtain ⟨Wa, hWa⟩ : ∃ X, X = v4b.setCell ⟨w.heap.size + 1 + 1, 1, none⟩ (.slice P1b n1b d1b) := ⟨_, rfl⟩
                    have hra := HR4.out.setK
                    rw [← hWa] at hra
                    rw [← hWa]
                    have HRa := Lib.hid hra
                    clear hWa hra y0 y1 y2 y3 f0 f1 f2 f3
                    refine anyU_ready (rs := [20]) (by kernel_rfl) (by simp) (AllU.cons (o := ⟨some 84, .fieldAddr 27 (.tmp 7) 2, _, _, _, none⟩) rfl (fun K hK => ?_) (fun _ => by kernel_rfl) AllU.nil)
                    rw [if_pos (by rfl)]
                    go_simp
                    refine hK.out _ _ (fun h => absurd h (by decide)) ?_
                    clear hK K
                    try go_frame
                    refine anyU_ready (rs := [21]) (by kernel_rfl) (by simp) (AllU.cons (o := ⟨none, .store 24 (.tmp 84) (.tmp 82), _, _, _, none⟩) rfl (fun K hK => ?_) (fun _ => by kernel_rfl) AllU.nil)
                    rw [if_pos (by rfl)]
                    obtain ⟨y0, y1, y2, y3, f0, f1, f2, f3⟩ := out_cells HRa.out.nm.top
                    go_simp
                    refine hK.out _ _ (fun h => absurd h (by decide)) ?_
                    clear hK K
                    try go_frame
                    obtain ⟨wzb, hWb⟩ : ∃ X, X = Wa.setCell ⟨w.heap.size + 1 + 1, 2, none⟩ (.slice P2b n2b d2b) := ⟨_, rfl⟩
                    have hrb := HRa.out.setV
                    rw [← hWb] at hrb
                    rw [← hWb]
                    have HRbb := Lib.hid hrb
                    clear hWb hrb y0 y1 y2 y3 f0 f1 f2 f3 HRa Sx4
                    refine anyU_done (by kernel_rfl) ?_ _
                    go_wp2_with fail
                    go_roundw
                    case rel =>
                      refine ⟨k + 1, true, P1b, P2b, n1b, d1b, n2b, d2b, by omega, by go_num, rfl, Lib.hid (HD.out), Lib.hid ?_⟩
                      rw [show putS p th.toNat key n.keys (k + 1) = (putS p th.toNat key n.keys k ++ [key]) ++ [n.keys.getD k []] by rw [HP.out]; exact putS_both (by rw [HLk.out.1, ← HP.out]; exact hka) (fun g => HT.out (by revert g; cases th <;> simp)), show putS p th.toNat val n.vals (k + 1) = (putS p th.toNat val n.vals k ++ [val]) ++ [n.vals.getD k []] by rw [HP.out]; exact putS_both (by rw [HLk.out.2, ← HP.out]; exact hka) (fun g => HT.out (by revert g; cases th <;> simp)), ← HKk.out, ← HVv.out]
                      exact HRbb.out
                    case measure => simp [intOf];  omega
                  · rw [if_pos (by rfl)]
                    obtain ⟨v2b, hu⟩ : ∃ u, u = v1b.alloc (.cells #[.slice Bc nc dc] 22) := ⟨_, rfl⟩
                    have hb : Below v1b.heap.size v1b v2b := by rw [hu]; exact (Below.refl v1b.heap.size v1b).alloc (Nat.le_refl _) (.cells #[.slice Bc nc dc] 22)
                    have hrw : RowT v2b B0 (w.heap.size + 1 + 1 + 1) v1b.heap.size (.slice Bc nc dc) (vv) := by rw [hu]; exact RowT.lit (HR1.out.txt HVr.out) (by omega)
                    have HR2 := Lib.hid (HR1.out.kept hb)
                    have NE := Lib.hid HR1.out.neK
                    have HKr2 := Lib.hid (HKr1.out.kept hb (by omega))
                    have HVr2 := Lib.hid hrw
                    go_simp
                    rw [← hu]
                    have Sx2 := T_ HR2.out
                    refine hK.out _ _ (fun _ => Sx2) ?_
                    clear hK K Sx1 hu hb hrw
                    try go_frame
                    refine anyU_ready (rs := [8]) (by kernel_rfl) (by simp) (AllU.cons (o := ⟨some 73, .call { callee := .builtin .append, args := #[.tmp 66, .tmp 72], argTypes := #[24, 24] }, _, _, _, none⟩) rfl (fun K hK => ?_) (fun h => absurd h (by decide)) AllU.nil)
                    rw [if_pos (by rfl)]
                    obtain ⟨P1b, n1b, d1b, v3b, hrun, hr2, hg, hbb⟩ := HR2.out.appK HKr2.out (by have := putS_len (p := p) (d := th.toNat) (x := key) (xs := n.keys) k; simp; omega)
                    have Hrun := Lib.hid hrun
                    have HR3 := Lib.hid hr2
                    have HVr3 := Lib.hid (HVr2.out.grown hg NE.out HR2.out.nm.rK.rowB (by omega))
                    clear hrun hr2 hg hbb
                    refine wp_run (.slice P1b n1b d1b) v3b (exec_append (t := 24) (x := .tmp 66) (y := .tmp 72) rfl rfl rfl Hrun.out) ?_
                    have Sx3 := T_ HR3.out
                    refine hK.out _ _ (fun _ => Sx3) ?_
                    clear hK K Sx2 Hrun
                    go_frame
                    refine' anyU_take0 (i := 18) (oi := ⟨some 83, .fieldAddr 27 (.tmp 7) 1, _, _, _, none⟩) (v := _) rfl (by kernel_rfl) (fun _ _ _ h => h) (Or.inl ⟨by rfl, ?hy42⟩) (by assumption) ?rest42
                    case hy42 => (intro w hSw; go_simp <;> with_reducible rfl)
                    case rest42 =>
                    go_frame
                    refine anyU_ready (rs := [17]) (by kernel_rfl) (by simp) (AllU.cons (o := ⟨some 82, .call { callee := .builtin .append, args := #[.tmp 75, .tmp 81], argTypes := #[24, 24] }, _, _, _, none⟩) rfl (fun K hK => ?_) (fun h => absurd h (by decide)) AllU.nil)
                    rw [if_pos (by rfl)]
                    obtain ⟨P2b, n2b, d2b, v4b, hrun, hr2, hg, hbb⟩ := HR3.out.appV HVr3.out (by have := putS_len (p := p) (d := th.toNat) (x := val) (xs := n.vals) k; simp; omega)
                    have Hrun := Lib.hid hrun
                    have HR4 := Lib.hid hr2
                    clear hrun hr2 hg hbb
                    refine wp_run (.slice P2b n2b d2b) v4b (exec_append (t := 24) (x := .tmp 75) (y := .tmp 81) rfl rfl rfl Hrun.out) ?_
                    have Sx4 := T_ HR4.out
                    refine hK.out _ _ (fun _ => Sx4) ?_
                    clear hK K Sx3 Hrun
                    go_frame
                    refine anyU_ready (rs := [19]) (by kernel_rfl) (by simp) (AllU.cons (o := ⟨none, .store 24 (.tmp 83) (.tmp 73), _, _, _, none⟩) rfl (fun K hK => ?_) (fun _ => by kernel_rfl) AllU.nil)
                    rw [if_pos (by rfl)]
                    obtain ⟨y0, y1, y2, y3, f0, f1, f2, f3⟩ := out_cells HR4.out.nm.top
                    go_simp
                    refine hK.out _ _ (fun h => absurd h (by decide)) ?_
                    clear hK K
                    try go_frame
                    obtain ⟨Wa, hWa⟩ : ∃ X, X = v4b.setCell ⟨w.heap.size + 1 + 1, 1, none⟩ (.slice P1b n1b d1b) := ⟨_, rfl⟩
                    have hra := HR4.out.setK
                    rw [← hWa] at hra
                    rw [← hWa]
                    have HRa := Lib.hid hra
                    clear hWa hra y0 y1 y2 y3 f0 f1 f2 f3
                    refine anyU_ready (rs := [20]) (by kernel_rfl) (by simp) (AllU.cons (o := ⟨some 84, .fieldAddr 27 (.tmp 7) 2, _, _, _, none⟩) rfl (fun K hK => ?_) (fun _ => by kernel_rfl) AllU.nil)
                    rw [if_pos (by rfl)]
                    go_simp
                    refine hK.out _ _ (fun h => absurd h (by decide)) ?_
                    clear hK K
                    try go_frame
                    refine anyU_ready (rs := [21]) (by kernel_rfl) (by simp) (AllU.cons (o := ⟨none, .store 24 (.tmp 84) (.tmp 82), _, _, _, none⟩) rfl (fun K hK => ?_) (fun _ => by kernel_rfl) AllU.nil)
                    rw [if_pos (by rfl)]
                    obtain ⟨y0, y1, y2, y3, f0, f1, f2, f3⟩ := out_cells HRa.out.nm.top
                    go_simp
                    refine hK.out _ _ (fun h => absurd h (by decide)) ?_
                    clear hK K
                    try go_frame
                    obtain ⟨wzb, hWb⟩ : ∃ X, X = Wa.setCell ⟨w.heap.size + 1 + 1, 2, none⟩ (.slice P2b n2b d2b) := ⟨_, rfl⟩
                    have hrb := HRa.out.setV
                    rw [← hWb] at hrb
                    rw [← hWb]
                    have HRbb := Lib.hid hrb
                    clear hWb hrb y0 y1 y2 y3 f0 f1 f2 f3 HRa Sx4
                    refine anyU_done (by kernel_rfl) ?_ _
                    go_wp2_with fail
                    go_roundw
                    case rel =>
                      refine ⟨k + 1, true, P1b, P2b, n1b, d1b, n2b, d2b, by omega, by go_num, rfl, Lib.hid (HD.out), Lib.hid ?_⟩
                      rw [show putS p th.toNat key n.keys (k + 1) = (putS p th.toNat key n.keys k ++ [key]) ++ [n.keys.getD k []] by rw [HP.out]; exact putS_both (by rw [HLk.out.1, ← HP.out]; exact hka) (fun g => HT.out (by revert g; cases th <;> simp)), show putS p th.toNat val n.vals (k + 1) = (putS p th.toNat val n.vals k ++ [val]) ++ [n.vals.getD k []] by rw [HP.out]; exact putS_both (by rw [HLk.out.2, ← HP.out]; exact hka) (fun g => HT.out (by revert g; cases th <;> simp)), ← HKk.out, ← HVv.out]
                      exact HRbb.out
                    case measure => simp [intOf];  omega
                · rw [if_pos (by rfl)]
                  obtain ⟨v1b, hu⟩ : ∃ u, u = wdb.alloc (.cells #[.slice Bc nc dc] 22) := ⟨_, rfl⟩
                  have hb : Below wdb.heap.size wdb v1b := by rw [hu]; exact (Below.refl wdb.heap.size wdb).alloc (Nat.le_refl _) (.cells #[.slice Bc nc dc] 22)
                  have hrw : RowT v1b B0 (w.heap.size + 1 + 1 + 1) wdb.heap.size (.slice Bc nc dc) (vv) := by rw [hu]; exact RowT.lit (HR0.out.txt HVr.out) (by omega)
                  have HR1 := Lib.hid (HR0.out.kept hb)
                  have NE := Lib.hid HR0.out.neK
                  have HVr1 := Lib.hid hrw
                  go_simp
                  rw [← hu]
                  have Sx1 := T_ HR1.out
                  refine hK.out _ _ (fun _ => Sx1) ?_
                  clear hK K S0 hu hb hrw
                  try go_frame
                  refine anyU_ready (rs := [7]) (by kernel_rfl) (by simp) (AllU.cons (o := ⟨some 72, .buildSlice 24 1 #[(0, .tmp 71)], _, _, _, none⟩) rfl (fun K hK => ?_) (fun h => absurd h (by decide)) AllU.nil)
                  rw [if_pos (by rfl)]
                  obtain ⟨v2b, hu⟩ : ∃ u, u = v1b.alloc (.cells #[.slice Ac mc cc] 22) := ⟨_, rfl⟩
                  have hb : Below v1b.heap.size v1b v2b := by rw [hu]; exact (Below.refl v1b.heap.size v1b).alloc (Nat.le_refl _) (.cells #[.slice Ac mc cc] 22)
                  have hrw : RowT v2b B0 (w.heap.size + 1 + 1 + 1) v1b.heap.size (.slice Ac mc cc) (kk) := by rw [hu]; exact RowT.lit (HR1.out.txt HKr.out) (by omega)
                  have HR2 := Lib.hid (HR1.out.kept hb)
                  have HVr2 := Lib.hid (HVr1.out.kept hb (by omega))
                  have HKr2 := Lib.hid hrw
                  go_simp
                  rw [← hu]
                  have Sx2 := T_ HR2.out
                  refine hK.out _ _ (fun _ => Sx2) ?_
                  clear hK K Sx1 hu hb hrw
                  try go_frame
                  refine anyU_ready (rs := [8]) (by kernel_rfl) (by simp) (AllU.cons (o := ⟨some 73, .call { callee := .builtin .append, args := #[.tmp 66, .tmp 72], argTypes := #[24, 24] }, _, _, _, none⟩) rfl (fun K hK => ?_) (fun h => absurd h (by decide)) AllU.nil)
                  rw [if_pos (by rfl)]
                  obtain ⟨P1b, n1b, d1b, v3b, hrun, hr2, hg, hbb⟩ := HR2.out.appK HKr2.out (by have := putS_len (p := p) (d := th.toNat) (x := key) (xs := n.keys) k; simp; omega)
                  have Hrun := Lib.hid hrun
                  have HR3 := Lib.hid hr2
                  have HVr3 := Lib.hid (HVr2.out.grown hg NE.out HR2.out.nm.rK.rowB (by omega))
                  clear hrun hr2 hg hbb
                  refine wp_run (.slice P1b n1b d1b) v3b (exec_append (t := 24) (x := .tmp 66) (y := .tmp 72) rfl rfl rfl Hrun.out) ?_
                  have Sx3 := T_ HR3.out
                  refine hK.out _ _ (fun _ => Sx3) ?_
                  clear hK K Sx2 Hrun
                  go_frame
                  refine' anyU_take0 (i := 18) (oi := ⟨some 83, .fieldAddr 27 (.tmp 7) 1, _, _, _, none⟩) (v := _) rfl (by kernel_rfl) (fun _ _ _ h => h) (Or.inl ⟨by rfl, ?hy43⟩) (by assumption) ?rest43
                  case hy43 => (intro w hSw; go_simp <;> with_reducible rfl)
                  case rest43 =>
                  go_frame
                  refine anyU_ready (rs := [17]) (by kernel_rfl) (by simp) (AllU.cons (o := ⟨some 82, .call { callee := .builtin .append, args := #[.tmp 75, .tmp 81], argTypes := #[24, 24] }, _, _, _, none⟩) rfl (fun K hK => ?_) (fun h => absurd h (by decide)) AllU.nil)
                  rw [if_pos (by rfl)]
                  obtain ⟨P2b, n2b, d2b, v4b, hrun, hr2, hg, hbb⟩ := HR3.out.appV HVr3.out (by have := putS_len (p := p) (d := th.toNat) (x := val) (xs := n.vals) k; simp; omega)
                  have Hrun := Lib.hid hrun
                  have HR4 := Lib.hid hr2
                  clear hrun hr2 hg hbb
                  refine wp_run (.slice P2b n2b d2b) v4b (exec_append (t := 24) (x := .tmp 75) (y := .tmp 81) rfl rfl rfl Hrun.out) ?_
                  have Sx4 := T_ HR4.out
                  refine hK.out _ _ (fun _ => Sx4) ?_
                  clear hK K Sx3 Hrun
                  go_frame
                  refine anyU_ready (rs := [19]) (by kernel_rfl) (by simp) (AllU.cons (o := ⟨none, .store 24 (.tmp 83) (.tmp 73), _, _, _, none⟩) rfl (fun K hK => ?_) (fun _ => by kernel_rfl) AllU.nil)
                  rw [if_pos (by rfl)]
                  obtain ⟨y0, y1, y2, y3, f0, f1, f2, f3⟩ := out_cells HR4.out.nm.top
                  go_simp
                  refine hK.out _ _ (fun h => absurd h (by decide)) ?_
                  clear hK K
                  try go_frame
                  obtain ⟨Wa, hWa⟩ : ∃ X, X = v4b.setCell ⟨w.heap.size + 1 + 1, 1, none⟩ (.slice P1b n1b d1b) := ⟨_, rfl⟩
                  have hra := HR4.out.setK
                  rw [← hWa] at hra
                  rw [← hWa]
                  have HRa := Lib.hid hra
                  clear hWa hra y0 y1 y2 y3 f0 f1 f2 f3
                  refine anyU_ready (rs := [20]) (by kernel_rfl) (by simp) (AllU.cons (o := ⟨some 84, .fieldAddr 27 (.tmp 7) 2, _, _, _, none⟩) rfl (fun K hK => ?_) (fun _ => by kernel_rfl) AllU.nil)
                  rw [if_pos (by rfl)]
                  go_simp
                  refine hK.out _ _ (fun h => absurd h (by decide)) ?_
                  clear hK K
                  try go_frame
                  refine anyU_ready (rs := [21]) (by kernel_rfl) (by simp) (AllU.cons (o := ⟨none, .store 24 (.tmp 84) (.tmp 82), _, _, _, none⟩) rfl (fun K hK => ?_) (fun _ => by kernel_rfl) AllU.nil)
                  rw [if_pos (by rfl)]
                  obtain ⟨y0, y1, y2, y3, f0, f1, f2, f3⟩ := out_cells HRa.out.nm.top
                  go_simp
                  refine hK.out _ _ (fun h => absurd h (by decide)) ?_
                  clear hK K
                  try go_frame
                  obtain ⟨wzb, hWb⟩ : ∃ X, X = Wa.setCell ⟨w.heap.size + 1 + 1, 2, none⟩ (.slice P2b n2b d2b) := ⟨_, rfl⟩
                  have hrb := HRa.out.setV
                  rw [← hWb] at hrb
                  rw [← hWb]
                  have HRbb := Lib.hid hrb
                  clear hWb hrb y0 y1 y2 y3 f0 f1 f2 f3 HRa Sx4
                  refine anyU_done (by kernel_rfl) ?_ _
                  go_wp2_with fail
                  go_roundw
                  case rel =>
                    refine ⟨k + 1, true, P1b, P2b, n1b, d1b, n2b, d2b, by omega, by go_num, rfl, Lib.hid (HD.out), Lib.hid ?_⟩
                    rw [show putS p th.toNat key n.keys (k + 1) = (putS p th.toNat key n.keys k ++ [key]) ++ [n.keys.getD k []] by rw [HP.out]; exact putS_both (by rw [HLk.out.1, ← HP.out]; exact hka) (fun g => HT.out (by revert g; cases th <;> simp)), show putS p th.toNat val n.vals (k + 1) = (putS p th.toNat val n.vals k ++ [val]) ++ [n.vals.getD k []] by rw [HP.out]; exact putS_both (by rw [HLk.out.2, ← HP.out]; exact hka) (fun g => HT.out (by revert g; cases th <;> simp)), ← HKk.out, ← HVv.out]
                    exact HRbb.out
                  case measure => simp [intOf];  omega
              · rw [if_pos (by rfl)]
                obtain ⟨v2, hu⟩ : ∃ u, u = v1.alloc (.cells #[.slice Av vl cv] 22) := ⟨_, rfl⟩
                have hb : Below v1.heap.size v1 v2 := by rw [hu]; exact (Below.refl v1.heap.size v1).alloc (Nat.le_refl _) (.cells #[.slice Av vl cv] 22)
                have hrw : RowT v2 B0 (w.heap.size + 1 + 1 + 1) v1.heap.size (.slice Av vl cv) (val) := by rw [hu]; exact RowT.lit (HR1.out.txt HV.out) (by omega)
                have HR2 := Lib.hid (HR1.out.kept hb)
                have NE := Lib.hid HR1.out.neK
                have HKr2 := Lib.hid (HKr1.out.kept hb (by omega))
                have HVr2 := Lib.hid hrw
                go_simp
                rw [← hu]
                have Sx2 := T_ HR2.out
                refine hK.out _ _ (fun _ => Sx2) ?_
                clear hK K Sx1 hu hb hrw
                try go_frame
                refine anyU_ready (rs := [4]) (by kernel_rfl) (by simp) (AllU.cons (o := ⟨some 41, .call { callee := .builtin .append, args := #[.tmp 38, .tmp 40], argTypes := #[24, 24] }, _, _, _, none⟩) rfl (fun K hK => ?_) (fun h => absurd h (by decide)) AllU.nil)
                rw [if_pos (by rfl)]
                obtain ⟨P1, n1, d1, v3, hrun, hr2, hg, hbb⟩ := HR2.out.appK HKr2.out (by have := putS_len (p := p) (d := th.toNat) (x := key) (xs := n.keys) k; simp; omega)
                have Hrun := Lib.hid hrun
                have HR3 := Lib.hid hr2
                have HVr3 := Lib.hid (HVr2.out.grown hg NE.out HR2.out.nm.rK.rowB (by omega))
                clear hrun hr2 hg hbb
                refine wp_run (.slice P1 n1 d1) v3 (exec_append (t := 24) (x := .tmp 38) (y := .tmp 40) rfl rfl rfl Hrun.out) ?_
                have Sx3 := T_ HR3.out
                refine hK.out _ _ (fun _ => Sx3) ?_
                clear hK K Sx2 Hrun
                go_frame
                refine' anyU_take0 (i := 10) (oi := ⟨some 47, .fieldAddr 27 (.tmp 7) 1, _, _, _, none⟩) (v := _) rfl (by kernel_rfl) (fun _ _ _ h => h) (Or.inl ⟨by rfl, ?hy51⟩) (by assumption) ?rest51
                case hy51 => (intro w hSw; go_simp <;> with_reducible rfl)
                case rest51 =>
                go_frame
                refine anyU_ready (rs := [9]) (by kernel_rfl) (by simp) (AllU.cons (o := ⟨some 46, .call { callee := .builtin .append, args := #[.tmp 43, .tmp 45], argTypes := #[24, 24] }, _, _, _, none⟩) rfl (fun K hK => ?_) (fun h => absurd h (by decide)) AllU.nil)
                rw [if_pos (by rfl)]
                obtain ⟨P2, n2, d2, v4, hrun, hr2, hg, hbb⟩ := HR3.out.appV HVr3.out (by have := putS_len (p := p) (d := th.toNat) (x := val) (xs := n.vals) k; simp; omega)
                have Hrun := Lib.hid hrun
                have HR4 := Lib.hid hr2
                clear hrun hr2 hg hbb
                refine wp_run (.slice P2 n2 d2) v4 (exec_append (t := 24) (x := .tmp 43) (y := .tmp 45) rfl rfl rfl Hrun.out) ?_
                have Sx4 := T_ HR4.out
                refine hK.out _ _ (fun _ => Sx4) ?_
                clear hK K Sx3 Hrun
                go_frame
                refine anyU_ready (rs := [11]) (by kernel_rfl) (by simp) (AllU.cons (o := ⟨none, .store 24 (.tmp 47) (.tmp 41), _, _, _, none⟩) rfl (fun K hK => ?_) (fun _ => by kernel_rfl) AllU.nil)
                rw [if_pos (by rfl)]
                obtain ⟨y0, y1, y2, y3, f0, f1, f2, f3⟩ := out_cells HR4.out.nm.top
                go_simp
                refine hK.out _ _ (fun h => absurd h (by decide)) ?_
                clear hK K
                try go_frame
                obtain ⟨Wa, hWa⟩ : ∃ X, X = v4.setCell ⟨w.heap.size + 1 + 1, 1, none⟩ (.slice P1 n1 d1) := ⟨_, rfl⟩
                have hra := HR4.out.setK
                rw [← hWa] at hra
                rw [← hWa]
                have HRa := Lib.hid hra
                clear hWa hra y0 y1 y2 y3 f0 f1 f2 f3
                refine anyU_ready (rs := [12]) (by kernel_rfl) (by simp) (AllU.cons (o := ⟨some 48, .fieldAddr 27 (.tmp 7) 2, _, _, _, none⟩) rfl (fun K hK => ?_) (fun _ => by kernel_rfl) AllU.nil)
                rw [if_pos (by rfl)]
                go_simp
                refine hK.out _ _ (fun h => absurd h (by decide)) ?_
                clear hK K
                try go_frame
                refine anyU_ready (rs := [13]) (by kernel_rfl) (by simp) (AllU.cons (o := ⟨none, .store 24 (.tmp 48) (.tmp 46), _, _, _, none⟩) rfl (fun K hK => ?_) (fun _ => by kernel_rfl) AllU.nil)
                rw [if_pos (by rfl)]
                obtain ⟨y0, y1, y2, y3, f0, f1, f2, f3⟩ := out_cells HRa.out.nm.top
                go_simp
                refine hK.out _ _ (fun h => absurd h (by decide)) ?_
                clear hK K
                try go_frame
                obtain ⟨wz, hWb⟩ : ∃ X, X = Wa.setCell ⟨w.heap.size + 1 + 1, 2, none⟩ (.slice P2 n2 d2) := ⟨_, rfl⟩
                have hrb := HRa.out.setV
                rw [← hWb] at hrb
                rw [← hWb]
                have HRb := Lib.hid hrb
                clear hWb hrb y0 y1 y2 y3 f0 f1 f2 f3 HRa Sx4
                refine anyU_ready (rs := [14]) (by kernel_rfl) (by simp) (AllU.cons (o := ⟨some 8, .assign (.const (.bool true)), _, _, _, none⟩) rfl (fun K hK => ?_) (fun _ => by kernel_rfl) AllU.nil)
                rw [if_pos (by rfl)]
                go_simp
                refine hK.out _ _ (fun h => absurd h (by decide)) ?_
                clear hK K
                try go_frame
                refine anyU_done (by kernel_rfl) ?_ _
                obtain ⟨x0, x1, x2, x3⟩ := HRb.out.box
                have S7_ : (fun w' : World => w'.cell? ⟨w.heap.size, 1, none⟩ = some (.slice (some ⟨bk, ok, none⟩) a c1) ∧ w'.cell? ⟨bk, ok + k, none⟩ = some (.slice Ac mc cc) ∧ (convert 22 9 (.slice Ac mc cc)).run Try.prog w' = .ok (.string ⟨kk.toArray⟩) w' ∧ (convert 22 9 (.slice Ak kl ck)).run Try.prog w' = .ok (.string ⟨key.toArray⟩) w') wz.drew := ⟨HRb.out.box.c1, (HRb.out.below.cell HBk.out.1).trans HKc.out, run_string_rd (P := Try.prog) 22 9 5 Try.underlying22 Try.underlying5 Try.underlying9 (HKr.out.below (HRb.out.below.mono hB0)).drew, run_string_rd (P := Try.prog) 22 9 5 Try.underlying22 Try.underlying5 Try.underlying9 (HK.out.below (HRb.out.below.mono hB0)).drew⟩
                have H7 := Lib.hid S7_
                clear S7_
                have k0 : (0 : Int) ≤ (k : Int) := by omega
                have k1 : (k : Int) < (a : Int) := by omega
                have k3 : (k : Int).toNat = k := by omega
                have t7 : (kk == key) = false := by simp [HKne.out]
                go_wp2_with fail
                go_region_held3 (fun w' => w'.cell? ⟨w.heap.size, 1, none⟩ = some (.slice (some ⟨bk, ok, none⟩) a c1) ∧ w'.cell? ⟨bk, ok + k, none⟩ = some (.slice Ac mc cc) ∧ (convert 22 9 (.slice Ac mc cc)).run Try.prog w' = .ok (.string ⟨kk.toArray⟩) w' ∧ (convert 22 9 (.slice Ak kl ck)).run Try.prog w' = .ok (.string ⟨key.toArray⟩) w') (exact H7.out) (fail)
                have HR7 := Lib.hid (HRb.out.kept (Below.refl _ _).drew)
                clear H7 k0 k1 k3 t7
                go_wp2_with fail
                have T_ : ∀ {W : World} {uK uV : Value} {lk lv : List (List UInt8)}, RpW w B0 W (.slice (some ⟨bk, ok, none⟩) a c1) (.slice (some ⟨bv, ov, none⟩) a c2) (.slice A3 d c3) (.slice P1 n1 d1) (.slice P2 n2 d2) uK uV lk lv → (fun w' => w'.cell? ⟨w.heap.size, 1, none⟩ = some (.slice (some ⟨bk, ok, none⟩) a c1) ∧ w'.cell? ⟨w.heap.size, 2, none⟩ = some (.slice (some ⟨bv, ov, none⟩) a c2) ∧ w'.cell? ⟨w.heap.size + 1 + 1, 1, none⟩ = some (.slice P1 n1 d1) ∧ w'.cell? ⟨w.heap.size + 1 + 1, 2, none⟩ = some (.slice P2 n2 d2) ∧ w'.cell? ⟨bk, ok + k, none⟩ = some (.slice Ac mc cc) ∧ w'.cell? ⟨bv, ov + k, none⟩ = some (.slice Bc nc dc)) W := fun {W uK uV lk lv} hT => by
                  exact ⟨hT.box.c1, hT.box.c2, hT.nm.c1, hT.nm.c2, (hT.below.cell HBk.out.1).trans HKc.out, (hT.below.cell HBk.out.2).trans HVc.out⟩
                obtain ⟨wdb, hwdb⟩ : ∃ x, x = wz.drew.drew := ⟨_, rfl⟩
                have HS_wdb : Hid (RpW w B0 wdb (.slice (some ⟨bk, ok, none⟩) a c1) (.slice (some ⟨bv, ov, none⟩) a c2) (.slice A3 d c3) (.slice P1 n1 d1) (.slice P2 n2 d2) (.slice P1 n1 d1) (.slice P2 n2 d2) (putS p th.toNat key n.keys k ++ [key]) (putS p th.toNat val n.vals k ++ [val])) := Lib.hid (by rw [hwdb]; exact HR7.out.kept (Below.refl _ _).drew)
                have Zwdb := Lib.hid (show wdb.heap.size = wz.drew.heap.size by rw [hwdb]; rfl)
                have S0 : (fun w' => w'.cell? ⟨w.heap.size, 1, none⟩ = some (.slice (some ⟨bk, ok, none⟩) a c1) ∧ w'.cell? ⟨w.heap.size, 2, none⟩ = some (.slice (some ⟨bv, ov, none⟩) a c2) ∧ w'.cell? ⟨w.heap.size + 1 + 1, 1, none⟩ = some (.slice P1 n1 d1) ∧ w'.cell? ⟨w.heap.size + 1 + 1, 2, none⟩ = some (.slice P2 n2 d2) ∧ w'.cell? ⟨bk, ok + k, none⟩ = some (.slice Ac mc cc) ∧ w'.cell? ⟨bv, ov + k, none⟩ = some (.slice Bc nc dc)) wdb := T_ HS_wdb.out
                have HR0 := Lib.hid HS_wdb.out
                refine wp_region_late (S := fun w' => w'.cell? ⟨w.heap.size, 1, none⟩ = some (.slice (some ⟨bk, ok, none⟩) a c1) ∧ w'.cell? ⟨w.heap.size, 2, none⟩ = some (.slice (some ⟨bv, ov, none⟩) a c2) ∧ w'.cell? ⟨w.heap.size + 1 + 1, 1, none⟩ = some (.slice P1 n1 d1) ∧ w'.cell? ⟨w.heap.size + 1 + 1, 2, none⟩ = some (.slice P2 n2 d2) ∧ w'.cell? ⟨bk, ok + k, none⟩ = some (.slice Ac mc cc) ∧ w'.cell? ⟨bv, ov + k, none⟩ = some (.slice Bc nc dc)) [19, 20, 21] (by kernel_rfl) (by rw [← hwdb]; exact S0) (fun hHeld => ?_)
                rw [← hwdb]
                clear hwdb
                refine' anyU_take0 (i := 0) (oi := ⟨some 65, .fieldAddr 27 (.tmp 7) 1, _, _, _, none⟩) (v := _) rfl (by kernel_rfl) (fun _ _ _ h => h) (Or.inl ⟨by rfl, ?hy27⟩) (by assumption) ?rest27
                case hy27 => (intro w hSw; go_simp <;> with_reducible rfl)
                case rest27 =>
                go_frame
                refine' anyU_take (i := 1) (oi := ⟨some 66, .load 24 (.tmp 65), _, _, _, none⟩) (v := _) rfl (by kernel_rfl) (fun _ _ _ h => h) (Or.inl ⟨by rfl, ?hy28⟩) (by assumption) ?rest28
                case hy28 => (intro w hSw; obtain ⟨s0, s1, s2, s3, s4, s5⟩ := hSw; go_simp <;> with_reducible rfl)
                case rest28 =>
                go_frame
                refine' anyU_take0 (i := 2) (oi := ⟨some 67, .fieldAddr 27 (.tmp 3) 1, _, _, _, none⟩) (v := _) rfl (by kernel_rfl) (fun _ _ _ h => h) (Or.inl ⟨by rfl, ?hy29⟩) (by assumption) ?rest29
                case hy29 => (intro w hSw; go_simp <;> with_reducible rfl)
                case rest29 =>
                go_frame
                refine' anyU_take (i := 3) (oi := ⟨some 68, .load 24 (.tmp 67), _, _, _, none⟩) (v := _) rfl (by kernel_rfl) (fun _ _ _ h => h) (Or.inl ⟨by rfl, ?hy30⟩) (by assumption) ?rest30
                case hy30 => (intro w hSw; obtain ⟨s0, s1, s2, s3, s4, s5⟩ := hSw; go_simp <;> with_reducible rfl)
                case rest30 =>
                go_frame
                refine' anyU_take0 (i := 4) (oi := ⟨some 69, .move (.tmp 9), _, _, _, none⟩) (v := _) rfl (by kernel_rfl) (fun _ _ _ h => h) (Or.inl ⟨by rfl, ?hy31⟩) (by assumption) ?rest31
                case hy31 => (intro w hSw; go_simp <;> with_reducible rfl)
                case rest31 =>
                go_frame
                refine' anyU_take0 (i := 5) (oi := ⟨some 70, .indexAddr 24 (.tmp 68) (.tmp 69), _, _, _, none⟩) (v := _) rfl (by kernel_rfl) (fun _ _ _ h => h) (Or.inl ⟨by rfl, ?hy32⟩) (by assumption) ?rest32
                case hy32 => (intro w hSw; go_simp <;> with_reducible rfl)
                case rest32 =>
                go_frame
                refine' anyU_take (i := 6) (oi := ⟨some 71, .load 22 (.tmp 70), _, _, _, none⟩) (v := _) rfl (by kernel_rfl) (fun _ _ _ h => h) (Or.inl ⟨by rfl, ?hy33⟩) (by assumption) ?rest33
                case hy33 => (intro w hSw; obtain ⟨s0, s1, s2, s3, s4, s5⟩ := hSw; go_simp <;> with_reducible rfl)
                case rest33 =>
                go_frame
                refine' anyU_take0 (i := 9) (oi := ⟨some 74, .fieldAddr 27 (.tmp 7) 2, _, _, _, none⟩) (v := _) rfl (by kernel_rfl) (fun _ _ _ h => h) (Or.inl ⟨by rfl, ?hy34⟩) (by assumption) ?rest34
                case hy34 => (intro w hSw; go_simp <;> with_reducible rfl)
                case rest34 =>
                go_frame
                refine' anyU_take (i := 10) (oi := ⟨some 75, .load 24 (.tmp 74), _, _, _, none⟩) (v := _) rfl (by kernel_rfl) (fun _ _ _ h => h) (Or.inl ⟨by rfl, ?hy35⟩) (by assumption) ?rest35
                case hy35 => (intro w hSw; obtain ⟨s0, s1, s2, s3, s4, s5⟩ := hSw; go_simp <;> with_reducible rfl)
                case rest35 =>
                go_frame
                refine' anyU_take0 (i := 11) (oi := ⟨some 76, .fieldAddr 27 (.tmp 3) 2, _, _, _, none⟩) (v := _) rfl (by kernel_rfl) (fun _ _ _ h => h) (Or.inl ⟨by rfl, ?hy36⟩) (by assumption) ?rest36
                case hy36 => (intro w hSw; go_simp <;> with_reducible rfl)
                case rest36 =>
                go_frame
                refine' anyU_take2 [14, 15, 16, 17, 19, 20, 21] (i := 12) (oi := ⟨some 77, .load 24 (.tmp 76), _, _, _, none⟩) (v := _) rfl (by kernel_rfl) (fun _ _ _ h => h) (Or.inl ⟨by rfl, ?hy37⟩) (by assumption) ?rest37
                case hy37 => (intro w hSw; obtain ⟨s0, s1, s2, s3, s4, s5⟩ := hSw; go_simp <;> with_reducible rfl)
                case rest37 =>
                go_frame
                refine' anyU_take0 (i := 13) (oi := ⟨some 78, .move (.tmp 9), _, _, _, none⟩) (v := _) rfl (by kernel_rfl) (fun _ _ _ h => h) (Or.inl ⟨by rfl, ?hy38⟩) (by assumption) ?rest38
                case hy38 => (intro w hSw; go_simp <;> with_reducible rfl)
                case rest38 =>
                go_frame
                refine' anyU_take0 (i := 14) (oi := ⟨some 79, .indexAddr 24 (.tmp 77) (.tmp 78), _, _, _, none⟩) (v := _) rfl (by kernel_rfl) (fun _ _ _ h => h) (Or.inl ⟨by rfl, ?hy39⟩) (by assumption) ?rest39
                case hy39 => (intro w hSw; go_simp <;> with_reducible rfl)
                case rest39 =>
                go_frame
                refine' anyU_take2 [16, 17, 19, 20, 21] (i := 15) (oi := ⟨some 80, .load 22 (.tmp 79), _, _, _, none⟩) (v := _) rfl (by kernel_rfl) (fun _ _ _ h => h) (Or.inl ⟨by rfl, ?hy40⟩) (by assumption) ?rest40
                case hy40 => (intro w hSw; obtain ⟨s0, s1, s2, s3, s4, s5⟩ := hSw; go_simp <;> with_reducible rfl)
                case rest40 =>
                go_frame
                refine anyU_ready (rs := [7, 16]) (by kernel_rfl) (by simp) (AllU.cons (o := ⟨some 72, .buildSlice 24 1 #[(0, .tmp 71)], _, _, _, none⟩) rfl (fun K hK => ?_) (fun h => absurd h (by decide)) (AllU.cons (o := ⟨some 81, .buildSlice 24 1 #[(0, .tmp 80)], _, _, _, none⟩) rfl (fun K hK => ?_) (fun h => absurd h (by decide)) AllU.nil))
                · rw [if_pos (by rfl)]
                  obtain ⟨v1b, hu⟩ : ∃ u, u = wdb.alloc (.cells #[.slice Ac mc cc] 22) := ⟨_, rfl⟩
                  have hb : Below wdb.heap.size wdb v1b := by rw [hu]; exact (Below.refl wdb.heap.size wdb).alloc (Nat.le_refl _) (.cells #[.slice Ac mc cc] 22)
                  have hrw : RowT v1b B0 (w.heap.size + 1 + 1 + 1) wdb.heap.size (.slice Ac mc cc) (kk) := by rw [hu]; exact RowT.lit (HR0.out.txt HKr.out) (by omega)
                  have HR1 := Lib.hid (HR0.out.kept hb)
                  have HKr1 := Lib.hid hrw
                  go_simp
                  rw [← hu]
                  have Sx1 := T_ HR1.out
                  refine hK.out _ _ (fun _ => Sx1) ?_
                  clear hK K S0 hu hb hrw
                  try go_frame
                  refine anyU_ready (rs := [8, 16]) (by kernel_rfl) (by simp) (AllU.cons (o := ⟨some 73, .call { callee := .builtin .append, args := #[.tmp 66, .tmp 72], argTypes := #[24, 24] }, _, _, _, none⟩) rfl (fun K hK => ?_) (fun h => absurd h (by decide)) (AllU.cons (o := ⟨some 81, .buildSlice 24 1 #[(0, .tmp 80)], _, _, _, none⟩) rfl (fun K hK => ?_) (fun h => absurd h (by decide)) AllU.nil))
                  · rw [if_pos (by rfl)]
                    obtain ⟨P1b, n1b, d1b, v2b, hrun, hr2, hg, hbb⟩ := HR1.out.appK HKr1.out (by have := putS_len (p := p) (d := th.toNat) (x := key) (xs := n.keys) k; simp; omega)
                    have Hrun := Lib.hid hrun
                    have HR2 := Lib.hid hr2
                    clear hrun hr2 hg hbb
                    refine wp_run (.slice P1b n1b d1b) v2b (exec_append (t := 24) (x := .tmp 66) (y := .tmp 72) rfl rfl rfl Hrun.out) ?_
                    have Sx2 := T_ HR2.out
                    refine hK.out _ _ (fun _ => Sx2) ?_
                    clear hK K Sx1 Hrun
                    go_frame
                    refine' anyU_take0 (i := 18) (oi := ⟨some 83, .fieldAddr 27 (.tmp 7) 1, _, _, _, none⟩) (v := _) rfl (by kernel_rfl) (fun _ _ _ h => h) (Or.inl ⟨by rfl, ?hy41⟩) (by assumption) ?rest41
                    case hy41 => (intro w hSw; go_simp <;> with_reducible rfl)
                    case rest41 =>
                    go_frame
                    refine anyU_ready (rs := [16]) (by kernel_rfl) (by simp) (AllU.cons (o := ⟨some 81, .buildSlice 24 1 #[(0, .tmp 80)], _, _, _, none⟩) rfl (fun K hK => ?_) (fun h => absurd h (by decide)) AllU.nil)
                    rw [if_pos (by rfl)]
                    obtain ⟨v3b, hu⟩ : ∃ u, u = v2b.alloc (.cells #[.slice Bc nc dc] 22) := ⟨_, rfl⟩
                    have hb : Below v2b.heap.size v2b v3b := by rw [hu]; exact (Below.refl v2b.heap.size v2b).alloc (Nat.le_refl _) (.cells #[.slice Bc nc dc] 22)
                    have hrw : RowT v3b B0 (w.heap.size + 1 + 1 + 1) v2b.heap.size (.slice Bc nc dc) (vv) := by rw [hu]; exact RowT.lit (HR2.out.txt HVr.out) (by omega)
                    have HR3 := Lib.hid (HR2.out.kept hb)
                    have HVr3 := Lib.hid hrw
                    go_simp
                    rw [← hu]
                    have Sx3 := T_ HR3.out
                    refine hK.out _ _ (fun _ => Sx3) ?_
                    clear hK K Sx2 hu hb hrw
                    try go_frame
                    refine anyU_ready (rs := [17]) (by kernel_rfl) (by simp) (AllU.cons (o := ⟨some 82, .call { callee := .builtin .append, args := #[.tmp 75, .tmp 81], argTypes := #[24, 24] }, _, _, _, none⟩) rfl (fun K hK => ?_) (fun h => absurd h (by decide)) AllU.nil)
                    rw [if_pos (by rfl)]
                    obtain ⟨P2b, n2b, d2b, v4b, hrun, hr2, hg, hbb⟩ := HR3.out.appV HVr3.out (by have := putS_len (p := p) (d := th.toNat) (x := val) (xs := n.vals) k; simp; omega)
                    have Hrun := Lib.hid hrun
                    have HR4 := Lib.hid hr2
                    clear hrun hr2 hg hbb
                    refine wp_run (.slice P2b n2b d2b) v4b (exec_append (t := 24) (x := .tmp 75) (y := .tmp 81) rfl rfl rfl Hrun.out) ?_
                    have Sx4 := T_ HR4.out
                    refine hK.out _ _ (fun _ => Sx4) ?_
                    clear hK K Sx3 Hrun
                    go_frame
                    refine anyU_ready (rs := [19]) (by kernel_rfl) (by simp) (AllU.cons (o := ⟨none, .store 24 (.tmp 83) (.tmp 73), _, _, _, none⟩) rfl (fun K hK => ?_) (fun _ => by kernel_rfl) AllU.nil)
                    rw [if_pos (by rfl)]
                    obtain ⟨y0, y1, y2, y3, f0, f1, f2, f3⟩ := out_cells HR4.out.nm.top
                    go_simp
                    refine hK.out _ _ (fun h => absurd h (by decide)) ?_
                    clear hK K
                    try go_frame
                    obtain ⟨Wa, hWa⟩ : ∃ X, X = v4b.setCell ⟨w.heap.size + 1 + 1, 1, none⟩ (.slice P1b n1b d1b) := ⟨_, rfl⟩
                    have hra := HR4.out.setK
                    rw [← hWa] at hra
                    rw [← hWa]
                    have HRa := Lib.hid hra
                    clear hWa hra y0 y1 y2 y3 f0 f1 f2 f3
                    refine anyU_ready (rs := [20]) (by kernel_rfl) (by simp) (AllU.cons (o := ⟨some 84, .fieldAddr 27 (.tmp 7) 2, _, _, _, none⟩) rfl (fun K hK => ?_) (fun _ => by kernel_rfl) AllU.nil)
                    rw [if_pos (by rfl)]
                    go_simp
                    refine hK.out _ _ (fun h => absurd h (by decide)) ?_
                    clear hK K
                    try go_frame
                    refine anyU_ready (rs := [21]) (by kernel_rfl) (by simp) (AllU.cons (o := ⟨none, .store 24 (.tmp 84) (.tmp 82), _, _, _, none⟩) rfl (fun K hK => ?_) (fun _ => by kernel_rfl) AllU.nil)
                    rw [if_pos (by rfl)]
                    obtain ⟨y0, y1, y2, y3, f0, f1, f2, f3⟩ := out_cells HRa.out.nm.top
                    go_simp
                    refine hK.out _ _ (fun h => absurd h (by decide)) ?_
                    clear hK K
                    try go_frame
                    obtain ⟨wzb, hWb⟩ : ∃ X, X = Wa.setCell ⟨w.heap.size + 1 + 1, 2, none⟩ (.slice P2b n2b d2b) := ⟨_, rfl⟩
                    have hrb := HRa.out.setV
                    rw [← hWb] at hrb
                    rw [← hWb]
                    have HRbb := Lib.hid hrb
                    clear hWb hrb y0 y1 y2 y3 f0 f1 f2 f3 HRa Sx4
                    refine anyU_done (by kernel_rfl) ?_ _
                    go_wp2_with fail
                    go_roundw
                    case rel =>
                      refine ⟨k + 1, true, P1b, P2b, n1b, d1b, n2b, d2b, by omega, by go_num, rfl, Lib.hid (HD.out), Lib.hid ?_⟩
                      rw [show putS p th.toNat key n.keys (k + 1) = (putS p th.toNat key n.keys k ++ [key]) ++ [n.keys.getD k []] by rw [HP.out]; exact putS_both (by rw [HLk.out.1, ← HP.out]; exact hka) (fun g => HT.out (by revert g; cases th <;> simp)), show putS p th.toNat val n.vals (k + 1) = (putS p th.toNat val n.vals k ++ [val]) ++ [n.vals.getD k []] by rw [HP.out]; exact putS_both (by rw [HLk.out.2, ← HP.out]; exact hka) (fun g => HT.out (by revert g; cases th <;> simp)), ← HKk.out, ← HVv.out]
                      exact HRbb.out
                    case measure => simp [intOf];  omega
                  · rw [if_pos (by rfl)]
                    obtain ⟨v2b, hu⟩ : ∃ u, u = v1b.alloc (.cells #[.slice Bc nc dc] 22) := ⟨_, rfl⟩
                    have hb : Below v1b.heap.size v1b v2b := by rw [hu]; exact (Below.refl v1b.heap.size v1b).alloc (Nat.le_refl _) (.cells #[.slice Bc nc dc] 22)
                    have hrw : RowT v2b B0 (w.heap.size + 1 + 1 + 1) v1b.heap.size (.slice Bc nc dc) (vv) := by rw [hu]; exact RowT.lit (HR1.out.txt HVr.out) (by omega)
                    have HR2 := Lib.hid (HR1.out.kept hb)
                    have NE := Lib.hid HR1.out.neK
                    have HKr2 := Lib.hid (HKr1.out.kept hb (by omega))
                    have HVr2 := Lib.hid hrw
                    go_simp
                    rw [← hu]
                    have Sx2 := T_ HR2.out
                    refine hK.out _ _ (fun _ => Sx2) ?_
                    clear hK K Sx1 hu hb hrw
                    try go_frame
                    refine anyU_ready (rs := [8]) (by kernel_rfl) (by simp) (AllU.cons (o := ⟨some 73, .call { callee := .builtin .append, args := #[.tmp 66, .tmp 72], argTypes := #[24, 24] }, _, _, _, none⟩) rfl (fun K hK => ?_) (fun h => absurd h (by decide)) AllU.nil)
                    rw [if_pos (by rfl)]
                    obtain ⟨P1b, n1b, d1b, v3b, hrun, hr2, hg, hbb⟩ := HR2.out.appK HKr2.out (by have := putS_len (p := p) (d := th.toNat) (x := key) (xs := n.keys) k; simp; omega)
                    have Hrun := Lib.hid hrun
                    have HR3 := Lib.hid hr2
                    have HVr3 := Lib.hid (HVr2.out.grown hg NE.out HR2.out.nm.rK.rowB (by omega))
                    clear hrun hr2 hg hbb
                    refine wp_run (.slice P1b n1b d1b) v3b (exec_append (t := 24) (x := .tmp 66) (y := .tmp 72) rfl rfl rfl Hrun.out) ?_
                    have Sx3 := T_ HR3.out
                    refine hK.out _ _ (fun _ => Sx3) ?_
                    clear hK K Sx2 Hrun
                    go_frame
                    refine' anyU_take0 (i := 18) (oi := ⟨some 83, .fieldAddr 27 (.tmp 7) 1, _, _, _, none⟩) (v := _) rfl (by kernel_rfl) (fun _ _ _ h => h) (Or.inl ⟨by rfl, ?hy42⟩) (by assumption) ?rest42
                    case hy42 => (intro w hSw; go_simp <;> with_reducible rfl)
                    case rest42 =>
                    go_frame
                    refine anyU_ready (rs := [17]) (by kernel_rfl) (by simp) (AllU.cons (o := ⟨some 82, .call { callee := .builtin .append, args := #[.tmp 75, .tmp 81], argTypes := #[24, 24] }, _, _, _, none⟩) rfl (fun K hK => ?_) (fun h => absurd h (by decide)) AllU.nil)
                    rw [if_pos (by rfl)]
                    obtain ⟨P2b, n2b, d2b, v4b, hrun, hr2, hg, hbb⟩ := HR3.out.appV HVr3.out (by have := putS_len (p := p) (d := th.toNat) (x := val) (xs := n.vals) k; simp; omega)
                    have Hrun := Lib.hid hrun
                    have HR4 := Lib.hid hr2
                    clear hrun hr2 hg hbb
                    refine wp_run (.slice P2b n2b d2b) v4b (exec_append (t := 24) (x := .tmp 75) (y := .tmp 81) rfl rfl rfl Hrun.out) ?_
                    have Sx4 := T_ HR4.out
                    refine hK.out _ _ (fun _ => Sx4) ?_
                    clear hK K Sx3 Hrun
                    go_frame
                    refine anyU_ready (rs := [19]) (by kernel_rfl) (by simp) (AllU.cons (o := ⟨none, .store 24 (.tmp 83) (.tmp 73), _, _, _, none⟩) rfl (fun K hK => ?_) (fun _ => by kernel_rfl) AllU.nil)
                    rw [if_pos (by rfl)]
                    obtain ⟨y0, y1, y2, y3, f0, f1, f2, f3⟩ := out_cells HR4.out.nm.top
                    go_simp
                    refine hK.out _ _ (fun h => absurd h (by decide)) ?_
                    clear hK K
                    try go_frame
                    obtain ⟨Wa, hWa⟩ : ∃ X, X = v4b.setCell ⟨w.heap.size + 1 + 1, 1, none⟩ (.slice P1b n1b d1b) := ⟨_, rfl⟩
                    have hra := HR4.out.setK
                    rw [← hWa] at hra
                    rw [← hWa]
                    have HRa := Lib.hid hra
                    clear hWa hra y0 y1 y2 y3 f0 f1 f2 f3
                    refine anyU_ready (rs := [20]) (by kernel_rfl) (by simp) (AllU.cons (o := ⟨some 84, .fieldAddr 27 (.tmp 7) 2, _, _, _, none⟩) rfl (fun K hK => ?_) (fun _ => by kernel_rfl) AllU.nil)
                    rw [if_pos (by rfl)]
                    go_simp
                    refine hK.out _ _ (fun h => absurd h (by decide)) ?_
                    clear hK K
                    try go_frame
                    refine anyU_ready (rs := [21]) (by kernel_rfl) (by simp) (AllU.cons (o := ⟨none, .store 24 (.tmp 84) (.tmp 82), _, _, _, none⟩) rfl (fun K hK => ?_) (fun _ => by kernel_rfl) AllU.nil)
                    rw [if_pos (by rfl)]
                    obtain ⟨y0, y1, y2, y3, f0, f1, f2, f3⟩ := out_cells HRa.out.nm.top
                    go_simp
                    refine hK.out _ _ (fun h => absurd h (by decide)) ?_
                    clear hK K
                    try go_frame
                    obtain ⟨wzb, hWb⟩ : ∃ X, X = Wa.setCell ⟨w.heap.size + 1 + 1, 2, none⟩ (.slice P2b n2b d2b) := ⟨_, rfl⟩
                    have hrb := HRa.out.setV
                    rw [← hWb] at hrb
                    rw [← hWb]
                    have HRbb := Lib.hid hrb
                    clear hWb hrb y0 y1 y2 y3 f0 f1 f2 f3 HRa Sx4
                    refine anyU_done (by kernel_rfl) ?_ _
                    go_wp2_with fail
                    go_roundw
                    case rel =>
                      refine ⟨k + 1, true, P1b, P2b, n1b, d1b, n2b, d2b, by omega, by go_num, rfl, Lib.hid (HD.out), Lib.hid ?_⟩
                      rw [show putS p th.toNat key n.keys (k + 1) = (putS p th.toNat key n.keys k ++ [key]) ++ [n.keys.getD k []] by rw [HP.out]; exact putS_both (by rw [HLk.out.1, ← HP.out]; exact hka) (fun g => HT.out (by revert g; cases th <;> simp)), show putS p th.toNat val n.vals (k + 1) = (putS p th.toNat val n.vals k ++ [val]) ++ [n.vals.getD k []] by rw [HP.out]; exact putS_both (by rw [HLk.out.2, ← HP.out]; exact hka) (fun g => HT.out (by revert g; cases th <;> simp)), ← HKk.out, ← HVv.out]
                      exact HRbb.out
                    case measure => simp [intOf];  omega
                · rw [if_pos (by rfl)]
                  obtain ⟨v1b, hu⟩ : ∃ u, u = wdb.alloc (.cells #[.slice Bc nc dc] 22) := ⟨_, rfl⟩
                  have hb : Below wdb.heap.size wdb v1b := by rw [hu]; exact (Below.refl wdb.heap.size wdb).alloc (Nat.le_refl _) (.cells #[.slice Bc nc dc] 22)
                  have hrw : RowT v1b B0 (w.heap.size + 1 + 1 + 1) wdb.heap.size (.slice Bc nc dc) (vv) := by rw [hu]; exact RowT.lit (HR0.out.txt HVr.out) (by omega)
                  have HR1 := Lib.hid (HR0.out.kept hb)
                  have NE := Lib.hid HR0.out.neK
                  have HVr1 := Lib.hid hrw
                  go_simp
                  rw [← hu]
                  have Sx1 := T_ HR1.out
                  refine hK.out _ _ (fun _ => Sx1) ?_
                  clear hK K S0 hu hb hrw
                  try go_frame
                  refine anyU_ready (rs := [7]) (by kernel_rfl) (by simp) (AllU.cons (o := ⟨some 72, .buildSlice 24 1 #[(0, .tmp 71)], _, _, _, none⟩) rfl (fun K hK => ?_) (fun h => absurd h (by decide)) AllU.nil)
                  rw [if_pos (by rfl)]
                  obtain ⟨v2b, hu⟩ : ∃ u, u = v1b.alloc (.cells #[.slice Ac mc cc] 22) := ⟨_, rfl⟩
                  have hb : Below v1b.heap.size v1b v2b := by rw [hu]; exact (Below.refl v1b.heap.size v1b).alloc (Nat.le_refl _) (.cells #[.slice Ac mc cc] 22)
                  have hrw : RowT v2b B0 (w.heap.size + 1 + 1 + 1) v1b.heap.size (.slice Ac mc cc) (kk) := by rw [hu]; exact RowT.lit (HR1.out.txt HKr.out) (by omega)
                  have HR2 := Lib.hid (HR1.out.kept hb)
                  have HVr2 := Lib.hid (HVr1.out.kept hb (by omega))
                  have HKr2 := Lib.hid hrw
                  go_simp
                  rw [← hu]
                  have Sx2 := T_ HR2.out
                  refine hK.out _ _ (fun _ => Sx2) ?_
                  clear hK K Sx1 hu hb hrw
                  try go_frame
                  refine anyU_ready (rs := [8]) (by kernel_rfl) (by simp) (AllU.cons (o := ⟨some 73, .call { callee := .builtin .append, args := #[.tmp 66, .tmp 72], argTypes := #[24, 24] }, _, _, _, none⟩) rfl (fun K hK => ?_) (fun h => absurd h (by decide)) AllU.nil)
                  rw [if_pos (by rfl)]
                  obtain ⟨P1b, n1b, d1b, v3b, hrun, hr2, hg, hbb⟩ := HR2.out.appK HKr2.out (by have := putS_len (p := p) (d := th.toNat) (x := key) (xs := n.keys) k; simp; omega)
                  have Hrun := Lib.hid hrun
                  have HR3 := Lib.hid hr2
                  have HVr3 := Lib.hid (HVr2.out.grown hg NE.out HR2.out.nm.rK.rowB (by omega))
                  clear hrun hr2 hg hbb
                  refine wp_run (.slice P1b n1b d1b) v3b (exec_append (t := 24) (x := .tmp 66) (y := .tmp 72) rfl rfl rfl Hrun.out) ?_
                  have Sx3 := T_ HR3.out
                  refine hK.out _ _ (fun _ => Sx3) ?_
                  clear hK K Sx2 Hrun
                  go_frame
                  refine' anyU_take0 (i := 18) (oi := ⟨some 83, .fieldAddr 27 (.tmp 7) 1, _, _, _, none⟩) (v := _) rfl (by kernel_rfl) (fun _ _ _ h => h) (Or.inl ⟨by rfl, ?hy43⟩) (by assumption) ?rest43
                  case hy43 => (intro w hSw; go_simp <;> with_reducible rfl)
                  case rest43 =>
                  go_frame
                  refine anyU_ready (rs := [17]) (by kernel_rfl) (by simp) (AllU.cons (o := ⟨some 82, .call { callee := .builtin .append, args := #[.tmp 75, .tmp 81], argTypes := #[24, 24] }, _, _, _, none⟩) rfl (fun K hK => ?_) (fun h => absurd h (by decide)) AllU.nil)
                  rw [if_pos (by rfl)]
                  obtain ⟨P2b, n2b, d2b, v4b, hrun, hr2, hg, hbb⟩ := HR3.out.appV HVr3.out (by have := putS_len (p := p) (d := th.toNat) (x := val) (xs := n.vals) k; simp; omega)
                  have Hrun := Lib.hid hrun
                  have HR4 := Lib.hid hr2
                  clear hrun hr2 hg hbb
                  refine wp_run (.slice P2b n2b d2b) v4b (exec_append (t := 24) (x := .tmp 75) (y := .tmp 81) rfl rfl rfl Hrun.out) ?_
                  have Sx4 := T_ HR4.out
                  refine hK.out _ _ (fun _ => Sx4) ?_
                  clear hK K Sx3 Hrun
                  go_frame
                  refine anyU_ready (rs := [19]) (by kernel_rfl) (by simp) (AllU.cons (o := ⟨none, .store 24 (.tmp 83) (.tmp 73), _, _, _, none⟩) rfl (fun K hK => ?_) (fun _ => by kernel_rfl) AllU.nil)
                  rw [if_pos (by rfl)]
                  obtain ⟨y0, y1, y2, y3, f0, f1, f2, f3⟩ := out_cells HR4.out.nm.top
                  go_simp
                  refine hK.out _ _ (fun h => absurd h (by decide)) ?_
                  clear hK K
                  try go_frame
                  obtain ⟨Wa, hWa⟩ : ∃ X, X = v4b.setCell ⟨w.heap.size + 1 + 1, 1, none⟩ (.slice P1b n1b d1b) := ⟨_, rfl⟩
                  have hra := HR4.out.setK
                  rw [← hWa] at hra
                  rw [← hWa]
                  have HRa := Lib.hid hra
                  clear hWa hra y0 y1 y2 y3 f0 f1 f2 f3
                  refine anyU_ready (rs := [20]) (by kernel_rfl) (by simp) (AllU.cons (o := ⟨some 84, .fieldAddr 27 (.tmp 7) 2, _, _, _, none⟩) rfl (fun K hK => ?_) (fun _ => by kernel_rfl) AllU.nil)
                  rw [if_pos (by rfl)]
                  go_simp
                  refine hK.out _ _ (fun h => absurd h (by decide)) ?_
                  clear hK K
                  try go_frame
                  refine anyU_ready (rs := [21]) (by kernel_rfl) (by simp) (AllU.cons (o := ⟨none, .store 24 (.tmp 84) (.tmp 82), _, _, _, none⟩) rfl (fun K hK => ?_) (fun _ => by kernel_rfl) AllU.nil)
                  rw [if_pos (by rfl)]
                  obtain ⟨y0, y1, y2, y3, f0, f1, f2, f3⟩ := out_cells HRa.out.nm.top
                  go_simp
                  refine hK.out _ _ (fun h => absurd h (by decide)) ?_
                  clear hK K
                  try go_frame
                  obtain ⟨wzb, hWb⟩ : ∃ X, X = Wa.setCell ⟨w.heap.size + 1 + 1, 2, none⟩ (.slice P2b n2b d2b) := ⟨_, rfl⟩
                  have hrb := HRa.out.setV
                  rw [← hWb] at hrb
                  rw [← hWb]
                  have HRbb := Lib.hid hrb
                  clear hWb hrb y0 y1 y2 y3 f0 f1 f2 f3 HRa Sx4
                  refine anyU_done (by kernel_rfl) ?_ _
                  go_wp2_with fail
                  go_roundw
                  case rel =>
                    refine ⟨k + 1, true, P1b, P2b, n1b, d1b, n2b, d2b, by omega, by go_num, rfl, Lib.hid (HD.out), Lib.hid ?_⟩
                    rw [show putS p th.toNat key n.keys (k + 1) = (putS p th.toNat key n.keys k ++ [key]) ++ [n.keys.getD k []] by rw [HP.out]; exact putS_both (by rw [HLk.out.1, ← HP.out]; exact hka) (fun g => HT.out (by revert g; cases th <;> simp)), show putS p th.toNat val n.vals (k + 1) = (putS p th.toNat val n.vals k ++ [val]) ++ [n.vals.getD k []] by rw [HP.out]; exact putS_both (by rw [HLk.out.2, ← HP.out]; exact hka) (fun g => HT.out (by revert g; cases th <;> simp)), ← HKk.out, ← HVv.out]
                    exact HRbb.out
                  case measure => simp [intOf];  omega
            · rw [if_pos (by rfl)]
              obtain ⟨v1, hu⟩ : ∃ u, u = wd.alloc (.cells #[.slice Av vl cv] 22) := ⟨_, rfl⟩
              have hb : Below wd.heap.size wd v1 := by rw [hu]; exact (Below.refl wd.heap.size wd).alloc (Nat.le_refl _) (.cells #[.slice Av vl cv] 22)
              have hrw : RowT v1 B0 (w.heap.size + 1 + 1 + 1) wd.heap.size (.slice Av vl cv) (val) := by rw [hu]; exact RowT.lit (HR0.out.txt HV.out) (by omega)
              have HR1 := Lib.hid (HR0.out.kept hb)
              have NE := Lib.hid HR0.out.neK
              have HVr1 := Lib.hid hrw
              go_simp
              rw [← hu]
              have Sx1 := T_ HR1.out
              refine hK.out _ _ (fun _ => Sx1) ?_
              clear hK K S0 hu hb hrw
              try go_frame
              refine anyU_ready (rs := [3]) (by kernel_rfl) (by simp) (AllU.cons (o := ⟨some 40, .buildSlice 24 1 #[(0, .tmp 39)], _, _, _, none⟩) rfl (fun K hK => ?_) (fun h => absurd h (by decide)) AllU.nil)
              rw [if_pos (by rfl)]
              obtain ⟨v2, hu⟩ : ∃ u, u = v1.alloc (.cells #[.slice Ak kl ck] 22) := ⟨_, rfl⟩
              have hb : Below v1.heap.size v1 v2 := by rw [hu]; exact (Below.refl v1.heap.size v1).alloc (Nat.le_refl _) (.cells #[.slice Ak kl ck] 22)
              have hrw : RowT v2 B0 (w.heap.size + 1 + 1 + 1) v1.heap.size (.slice Ak kl ck) (key) := by rw [hu]; exact RowT.lit (HR1.out.txt HK.out) (by omega)
              have HR2 := Lib.hid (HR1.out.kept hb)
              have HVr2 := Lib.hid (HVr1.out.kept hb (by omega))
              have HKr2 := Lib.hid hrw
              go_simp
              rw [← hu]
              have Sx2 := T_ HR2.out
              refine hK.out _ _ (fun _ => Sx2) ?_
              clear hK K Sx1 hu hb hrw
              try go_frame
              refine anyU_ready (rs := [4]) (by kernel_rfl) (by simp) (AllU.cons (o := ⟨some 41, .call { callee := .builtin .append, args := #[.tmp 38, .tmp 40], argTypes := #[24, 24] }, _, _, _, none⟩) rfl (fun K hK => ?_) (fun h => absurd h (by decide)) AllU.nil)
              rw [if_pos (by rfl)]
              obtain ⟨P1, n1, d1, v3, hrun, hr2, hg, hbb⟩ := HR2.out.appK HKr2.out (by have := putS_len (p := p) (d := th.toNat) (x := key) (xs := n.keys) k; simp; omega)
              have Hrun := Lib.hid hrun
              have HR3 := Lib.hid hr2
              have HVr3 := Lib.hid (HVr2.out.grown hg NE.out HR2.out.nm.rK.rowB (by omega))
              clear hrun hr2 hg hbb
              refine wp_run (.slice P1 n1 d1) v3 (exec_append (t := 24) (x := .tmp 38) (y := .tmp 40) rfl rfl rfl Hrun.out) ?_
              have Sx3 := T_ HR3.out
              refine hK.out _ _ (fun _ => Sx3) ?_
              clear hK K Sx2 Hrun
              go_frame
              refine' anyU_take0 (i := 10) (oi := ⟨some 47, .fieldAddr 27 (.tmp 7) 1, _, _, _, none⟩) (v := _) rfl (by kernel_rfl) (fun _ _ _ h => h) (Or.inl ⟨by rfl, ?hy52⟩) (by assumption) ?rest52
              case hy52 => (intro w hSw; go_simp <;> with_reducible rfl)
              case rest52 =>
              go_frame
              refine anyU_ready (rs := [9]) (by kernel_rfl) (by simp) (AllU.cons (o := ⟨some 46, .call { callee := .builtin .append, args := #[.tmp 43, .tmp 45], argTypes := #[24, 24] }, _, _, _, none⟩) rfl (fun K hK => ?_) (fun h => absurd h (by decide)) AllU.nil)
              rw [if_pos (by rfl)]
              obtain ⟨P2, n2, d2, v4, hrun, hr2, hg, hbb⟩ := HR3.out.appV HVr3.out (by have := putS_len (p := p) (d := th.toNat) (x := val) (xs := n.vals) k; simp; omega)
              have Hrun := Lib.hid hrun
              have HR4 := Lib.hid hr2
              clear hrun hr2 hg hbb
              refine wp_run (.slice P2 n2 d2) v4 (exec_append (t := 24) (x := .tmp 43) (y := .tmp 45) rfl rfl rfl Hrun.out) ?_
              have Sx4 := T_ HR4.out
              refine hK.out _ _ (fun _ => Sx4) ?_
              clear hK K Sx3 Hrun
              go_frame
              refine anyU_ready (rs := [11]) (by kernel_rfl) (by simp) (AllU.cons (o := ⟨none, .store 24 (.tmp 47) (.tmp 41), _, _, _, none⟩) rfl (fun K hK => ?_) (fun _ => by kernel_rfl) AllU.nil)
              rw [if_pos (by rfl)]
              obtain ⟨y0, y1, y2, y3, f0, f1, f2, f3⟩ := out_cells HR4.out.nm.top
              go_simp
              refine hK.out _ _ (fun h => absurd h (by decide)) ?_
              clear hK K
              try go_frame
              obtain ⟨Wa, hWa⟩ : ∃ X, X = v4.setCell ⟨w.heap.size + 1 + 1, 1, none⟩ (.slice P1 n1 d1) := ⟨_, rfl⟩
              have hra := HR4.out.setK
              rw [← hWa] at hra
              rw [← hWa]
              have HRa := Lib.hid hra
              clear hWa hra y0 y1 y2 y3 f0 f1 f2 f3
              refine anyU_ready (rs := [12]) (by kernel_rfl) (by simp) (AllU.cons (o := ⟨some 48, .fieldAddr 27 (.tmp 7) 2, _, _, _, none⟩) rfl (fun K hK => ?_) (fun _ => by kernel_rfl) AllU.nil)
              rw [if_pos (by rfl)]
              go_simp
              refine hK.out _ _ (fun h => absurd h (by decide)) ?_
              clear hK K
              try go_frame
              refine anyU_ready (rs := [13]) (by kernel_rfl) (by simp) (AllU.cons (o := ⟨none, .store 24 (.tmp 48) (.tmp 46), _, _, _, none⟩) rfl (fun K hK => ?_) (fun _ => by kernel_rfl) AllU.nil)
              rw [if_pos (by rfl)]
              obtain ⟨y0, y1, y2, y3, f0, f1, f2, f3⟩ := out_cells HRa.out.nm.top
              go_simp
              refine hK.out _ _ (fun h => absurd h (by decide)) ?_
              clear hK K
              try go_frame
              obtain ⟨wz, hWb⟩ : ∃ X, X = Wa.setCell ⟨w.heap.size + 1 + 1, 2, none⟩ (.slice P2 n2 d2) := ⟨_, rfl⟩
              have hrb := HRa.out.setV
              rw [← hWb] at hrb
              rw [← hWb]
              have HRb := Lib.hid hrb
              clear hWb hrb y0 y1 y2 y3 f0 f1 f2 f3 HRa Sx4
              refine anyU_ready (rs := [14]) (by kernel_rfl) (by simp) (AllU.cons (o := ⟨some 8, .assign (.const (.bool true)), _, _, _, none⟩) rfl (fun K hK => ?_) (fun _ => by kernel_rfl) AllU.nil)
              rw [if_pos (by rfl)]
              go_simp
              refine hK.out _ _ (fun h => absurd h (by decide)) ?_
              clear hK K
              try go_frame
              refine anyU_done (by kernel_rfl) ?_ _
              obtain ⟨x0, x1, x2, x3⟩ := HRb.out.box
              have S7_ : (fun w' : World => w'.cell? ⟨w.heap.size, 1, none⟩ = some (.slice (some ⟨bk, ok, none⟩) a c1) ∧ w'.cell? ⟨bk, ok + k, none⟩ = some (.slice Ac mc cc) ∧ (convert 22 9 (.slice Ac mc cc)).run Try.prog w' = .ok (.string ⟨kk.toArray⟩) w' ∧ (convert 22 9 (.slice Ak kl ck)).run Try.prog w' = .ok (.string ⟨key.toArray⟩) w') wz.drew := ⟨HRb.out.box.c1, (HRb.out.below.cell HBk.out.1).trans HKc.out, run_string_rd (P := Try.prog) 22 9 5 Try.underlying22 Try.underlying5 Try.underlying9 (HKr.out.below (HRb.out.below.mono hB0)).drew, run_string_rd (P := Try.prog) 22 9 5 Try.underlying22 Try.underlying5 Try.underlying9 (HK.out.below (HRb.out.below.mono hB0)).drew⟩
              have H7 := Lib.hid S7_
              clear S7_
              have k0 : (0 : Int) ≤ (k : Int) := by omega
              have k1 : (k : Int) < (a : Int) := by omega
              have k3 : (k : Int).toNat = k := by omega
              have t7 : (kk == key) = false := by simp [HKne.out]
              go_wp2_with fail
              go_region_held3 (fun w' => w'.cell? ⟨w.heap.size, 1, none⟩ = some (.slice (some ⟨bk, ok, none⟩) a c1) ∧ w'.cell? ⟨bk, ok + k, none⟩ = some (.slice Ac mc cc) ∧ (convert 22 9 (.slice Ac mc cc)).run Try.prog w' = .ok (.string ⟨kk.toArray⟩) w' ∧ (convert 22 9 (.slice Ak kl ck)).run Try.prog w' = .ok (.string ⟨key.toArray⟩) w') (exact H7.out) (fail)
              have HR7 := Lib.hid (HRb.out.kept (Below.refl _ _).drew)
              clear H7 k0 k1 k3 t7
              go_wp2_with fail
              have T_ : ∀ {W : World} {uK uV : Value} {lk lv : List (List UInt8)}, RpW w B0 W (.slice (some ⟨bk, ok, none⟩) a c1) (.slice (some ⟨bv, ov, none⟩) a c2) (.slice A3 d c3) (.slice P1 n1 d1) (.slice P2 n2 d2) uK uV lk lv → (fun w' => w'.cell? ⟨w.heap.size, 1, none⟩ = some (.slice (some ⟨bk, ok, none⟩) a c1) ∧ w'.cell? ⟨w.heap.size, 2, none⟩ = some (.slice (some ⟨bv, ov, none⟩) a c2) ∧ w'.cell? ⟨w.heap.size + 1 + 1, 1, none⟩ = some (.slice P1 n1 d1) ∧ w'.cell? ⟨w.heap.size + 1 + 1, 2, none⟩ = some (.slice P2 n2 d2) ∧ w'.cell? ⟨bk, ok + k, none⟩ = some (.slice Ac mc cc) ∧ w'.cell? ⟨bv, ov + k, none⟩ = some (.slice Bc nc dc)) W := fun {W uK uV lk lv} hT => by
                exact ⟨hT.box.c1, hT.box.c2, hT.nm.c1, hT.nm.c2, (hT.below.cell HBk.out.1).trans HKc.out, (hT.below.cell HBk.out.2).trans HVc.out⟩
              obtain ⟨wdb, hwdb⟩ : ∃ x, x = wz.drew.drew := ⟨_, rfl⟩
              have HS_wdb : Hid (RpW w B0 wdb (.slice (some ⟨bk, ok, none⟩) a c1) (.slice (some ⟨bv, ov, none⟩) a c2) (.slice A3 d c3) (.slice P1 n1 d1) (.slice P2 n2 d2) (.slice P1 n1 d1) (.slice P2 n2 d2) (putS p th.toNat key n.keys k ++ [key]) (putS p th.toNat val n.vals k ++ [val])) := Lib.hid (by rw [hwdb]; exact HR7.out.kept (Below.refl _ _).drew)
              have Zwdb := Lib.hid (show wdb.heap.size = wz.drew.heap.size by rw [hwdb]; rfl)
              have S0 : (fun w' => w'.cell? ⟨w.heap.size, 1, none⟩ = some (.slice (some ⟨bk, ok, none⟩) a c1) ∧ w'.cell? ⟨w.heap.size, 2, none⟩ = some (.slice (some ⟨bv, ov, none⟩) a c2) ∧ w'.cell? ⟨w.heap.size + 1 + 1, 1, none⟩ = some (.slice P1 n1 d1) ∧ w'.cell? ⟨w.heap.size + 1 + 1, 2, none⟩ = some (.slice P2 n2 d2) ∧ w'.cell? ⟨bk, ok + k, none⟩ = some (.slice Ac mc cc) ∧ w'.cell? ⟨bv, ov + k, none⟩ = some (.slice Bc nc dc)) wdb := T_ HS_wdb.out
              have HR0 := Lib.hid HS_wdb.out
              refine wp_region_late (S := fun w' => w'.cell? ⟨w.heap.size, 1, none⟩ = some (.slice (some ⟨bk, ok, none⟩) a c1) ∧ w'.cell? ⟨w.heap.size, 2, none⟩ = some (.slice (some ⟨bv, ov, none⟩) a c2) ∧ w'.cell? ⟨w.heap.size + 1 + 1, 1, none⟩ = some (.slice P1 n1 d1) ∧ w'.cell? ⟨w.heap.size + 1 + 1, 2, none⟩ = some (.slice P2 n2 d2) ∧ w'.cell? ⟨bk, ok + k, none⟩ = some (.slice Ac mc cc) ∧ w'.cell? ⟨bv, ov + k, none⟩ = some (.slice Bc nc dc)) [19, 20, 21] (by kernel_rfl) (by rw [← hwdb]; exact S0) (fun hHeld => ?_)
              rw [← hwdb]
              clear hwdb
              refine' anyU_take0 (i := 0) (oi := ⟨some 65, .fieldAddr 27 (.tmp 7) 1, _, _, _, none⟩) (v := _) rfl (by kernel_rfl) (fun _ _ _ h => h) (Or.inl ⟨by rfl, ?hy27⟩) (by assumption) ?rest27
              case hy27 => (intro w hSw; go_simp <;> with_reducible rfl)
              case rest27 =>
              go_frame
              refine' anyU_take (i := 1) (oi := ⟨some 66, .load 24 (.tmp 65), _, _, _, none⟩) (v := _) rfl (by kernel_rfl) (fun _ _ _ h => h) (Or.inl ⟨by rfl, ?hy28⟩) (by assumption) ?rest28
              case hy28 => (intro w hSw; obtain ⟨s0, s1, s2, s3, s4, s5⟩ := hSw; go_simp <;> with_reducible rfl)
              case rest28 =>
              go_frame
              refine' anyU_take0 (i := 2) (oi := ⟨some 67, .fieldAddr 27 (.tmp 3) 1, _, _, _, none⟩) (v := _) rfl (by kernel_rfl) (fun _ _ _ h => h) (Or.inl ⟨by rfl, ?hy29⟩) (by assumption) ?rest29
              case hy29 => (intro w hSw; go_simp <;> with_reducible rfl)
              case rest29 =>
              go_frame
              refine' anyU_take (i := 3) (oi := ⟨some 68, .load 24 (.tmp 67), _, _, _, none⟩) (v := _) rfl (by kernel_rfl) (fun _ _ _ h => h) (Or.inl ⟨by rfl, ?hy30⟩) (by assumption) ?rest30
              case hy30 => (intro w hSw; obtain ⟨s0, s1, s2, s3, s4, s5⟩ := hSw; go_simp <;> with_reducible rfl)
              case rest30 =>
              go_frame
              refine' anyU_take0 (i := 4) (oi := ⟨some 69, .move (.tmp 9), _, _, _, none⟩) (v := _) rfl (by kernel_rfl) (fun _ _ _ h => h) (Or.inl ⟨by rfl, ?hy31⟩) (by assumption) ?rest31
              case hy31 => (intro w hSw; go_simp <;> with_reducible rfl)
              case rest31 =>
              go_frame
              refine' anyU_take0 (i := 5) (oi := ⟨some 70, .indexAddr 24 (.tmp 68) (.tmp 69), _, _, _, none⟩) (v := _) rfl (by kernel_rfl) (fun _ _ _ h => h) (Or.inl ⟨by rfl, ?hy32⟩) (by assumption) ?rest32
              case hy32 => (intro w hSw; go_simp <;> with_reducible rfl)
              case rest32 =>
              go_frame
              refine' anyU_take (i := 6) (oi := ⟨some 71, .load 22 (.tmp 70), _, _, _, none⟩) (v := _) rfl (by kernel_rfl) (fun _ _ _ h => h) (Or.inl ⟨by rfl, ?hy33⟩) (by assumption) ?rest33
              case hy33 => (intro w hSw; obtain ⟨s0, s1, s2, s3, s4, s5⟩ := hSw; go_simp <;> with_reducible rfl)
              case rest33 =>
              go_frame
              refine' anyU_take0 (i := 9) (oi := ⟨some 74, .fieldAddr 27 (.tmp 7) 2, _, _, _, none⟩) (v := _) rfl (by kernel_rfl) (fun _ _ _ h => h) (Or.inl ⟨by rfl, ?hy34⟩) (by assumption) ?rest34
              case hy34 => (intro w hSw; go_simp <;> with_reducible rfl)
              case rest34 =>
              go_frame
              refine' anyU_take (i := 10) (oi := ⟨some 75, .load 24 (.tmp 74), _, _, _, none⟩) (v := _) rfl (by kernel_rfl) (fun _ _ _ h => h) (Or.inl ⟨by rfl, ?hy35⟩) (by assumption) ?rest35
              case hy35 => (intro w hSw; obtain ⟨s0, s1, s2, s3, s4, s5⟩ := hSw; go_simp <;> with_reducible rfl)
              case rest35 =>
              go_frame
              refine' anyU_take0 (i := 11) (oi := ⟨some 76, .fieldAddr 27 (.tmp 3) 2, _, _, _, none⟩) (v := _) rfl (by kernel_rfl) (fun _ _ _ h => h) (Or.inl ⟨by rfl, ?hy36⟩) (by assumption) ?rest36
              case hy36 => (intro w hSw; go_simp <;> with_reducible rfl)
              case rest36 =>
              go_frame
              refine' anyU_take2 [14, 15, 16, 17, 19, 20, 21] (i := 12) (oi := ⟨some 77, .load 24 (.tmp 76), _, _, _, none⟩) (v := _) rfl (by kernel_rfl) (fun _ _ _ h => h) (Or.inl ⟨by rfl, ?hy37⟩) (by assumption) ?rest37
              case hy37 => (intro w hSw; obtain ⟨s0, s1, s2, s3, s4, s5⟩ := hSw; go_simp <;> with_reducible rfl)
              case rest37 =>
              go_frame
              refine' anyU_take0 (i := 13) (oi := ⟨some 78, .move (.tmp 9), _, _, _, none⟩) (v := _) rfl (by kernel_rfl) (fun _ _ _ h => h) (Or.inl ⟨by rfl, ?hy38⟩) (by assumption) ?rest38
              case hy38 => (intro w hSw; go_simp <;> with_reducible rfl)
              case rest38 =>
              go_frame
              refine' anyU_take0 (i := 14) (oi := ⟨some 79, .indexAddr 24 (.tmp 77) (.tmp 78), _, _, _, none⟩) (v := _) rfl (by kernel_rfl) (fun _ _ _ h => h) (Or.inl ⟨by rfl, ?hy39⟩) (by assumption) ?rest39
              case hy39 => (intro w hSw; go_simp <;> with_reducible rfl)
              case rest39 =>
              go_frame
              refine' anyU_take2 [16, 17, 19, 20, 21] (i := 15) (oi := ⟨some 80, .load 22 (.tmp 79), _, _, _, none⟩) (v := _) rfl (by kernel_rfl) (fun _ _ _ h => h) (Or.inl ⟨by rfl, ?hy40⟩) (by assumption) ?rest40
              case hy40 => (intro w hSw; obtain ⟨s0, s1, s2, s3, s4, s5⟩ := hSw; go_simp <;> with_reducible rfl)
              case rest40 =>
              go_frame
              refine anyU_ready (rs := [7, 16]) (by kernel_rfl) (by simp) (AllU.cons (o := ⟨some 72, .buildSlice 24 1 #[(0, .tmp 71)], _, _, _, none⟩) rfl (fun K hK => ?_) (fun h => absurd h (by decide)) (AllU.cons (o := ⟨some 81, .buildSlice 24 1 #[(0, .tmp 80)], _, _, _, none⟩) rfl (fun K hK => ?_) (fun h => absurd h (by decide)) AllU.nil))
              · rw [if_pos (by rfl)]
                obtain ⟨v1b, hu⟩ : ∃ u, u = wdb.alloc (.cells #[.slice Ac mc cc] 22) := ⟨_, rfl⟩
                have hb : Below wdb.heap.size wdb v1b := by rw [hu]; exact (Below.refl wdb.heap.size wdb).alloc (Nat.le_refl _) (.cells #[.slice Ac mc cc] 22)
                have hrw : RowT v1b B0 (w.heap.size + 1 + 1 + 1) wdb.heap.size (.slice Ac mc cc) (kk) := by rw [hu]; exact RowT.lit (HR0.out.txt HKr.out) (by omega)
                have HR1 := Lib.hid (HR0.out.kept hb)
                have HKr1 := Lib.hid hrw
                go_simp
                rw [← hu]
                have Sx1 := T_ HR1.out
                refine hK.out _ _ (fun _ => Sx1) ?_
                clear hK K S0 hu hb hrw
                try go_frame
                refine anyU_ready (rs := [8, 16]) (by kernel_rfl) (by simp) (AllU.cons (o := ⟨some 73, .call { callee := .builtin .append, args := #[.tmp 66, .tmp 72], argTypes := #[24, 24] }, _, _, _, none⟩) rfl (fun K hK => ?_) (fun h => absurd h (by decide)) (AllU.cons (o := ⟨some 81, .buildSlice 24 1 #[(0, .tmp 80)], _, _, _, none⟩) rfl (fun K hK => ?_) (fun h => absurd h (by decide)) AllU.nil))
                · rw [if_pos (by rfl)]
                  obtain ⟨P1b, n1b, d1b, v2b, hrun, hr2, hg, hbb⟩ := HR1.out.appK HKr1.out (by have := putS_len (p := p) (d := th.toNat) (x := key) (xs := n.keys) k; simp; omega)
                  have Hrun := Lib.hid hrun
                  have HR2 := Lib.hid hr2
                  clear hrun hr2 hg hbb
                  refine wp_run (.slice P1b n1b d1b) v2b (exec_append (t := 24) (x := .tmp 66) (y := .tmp 72) rfl rfl rfl Hrun.out) ?_
                  have Sx2 := T_ HR2.out
                  refine hK.out _ _ (fun _ => Sx2) ?_
                  clear hK K Sx1 Hrun
                  go_frame
                  refine' anyU_take0 (i := 18) (oi := ⟨some 83, .fieldAddr 27 (.tmp 7) 1, _, _, _, none⟩) (v := _) rfl (by kernel_rfl) (fun _ _ _ h => h) (Or.inl ⟨by rfl, ?hy41⟩) (by assumption) ?rest41
                  case hy41 => (intro w hSw; go_simp <;> with_reducible rfl)
                  case rest41 =>
                  go_frame
                  refine anyU_ready (rs := [16]) (by kernel_rfl) (by simp) (AllU.cons (o := ⟨some 81, .buildSlice 24 1 #[(0, .tmp 80)], _, _, _, none⟩) rfl (fun K hK => ?_) (fun h => absurd h (by decide)) AllU.nil)
                  rw [if_pos (by rfl)]
                  obtain ⟨v3b, hu⟩ : ∃ u, u = v2b.alloc (.cells #[.slice Bc nc dc] 22) := ⟨_, rfl⟩
                  have hb : Below v2b.heap.size v2b v3b := by rw [hu]; exact (Below.refl v2b.heap.size v2b).alloc (Nat.le_refl _) (.cells #[.slice Bc nc dc] 22)
                  have hrw : RowT v3b B0 (w.heap.size + 1 + 1 + 1) v2b.heap.size (.slice Bc nc dc) (vv) := by rw [hu]; exact RowT.lit (HR2.out.txt HVr.out) (by omega)
                  have HR3 := Lib.hid (HR2.out.kept hb)
                  have HVr3 := Lib.hid hrw
                  go_simp
                  rw [← hu]
                  have Sx3 := T_ HR3.out
                  refine hK.out _ _ (fun _ => Sx3) ?_
                  clear hK K Sx2 hu hb hrw
                  try go_frame
                  refine anyU_ready (rs := [17]) (by kernel_rfl) (by simp) (AllU.cons (o := ⟨some 82, .call { callee := .builtin .append, args := #[.tmp 75, .tmp 81], argTypes := #[24, 24] }, _, _, _, none⟩) rfl (fun K hK => ?_) (fun h => absurd h (by decide)) AllU.nil)
                  rw [if_pos (by rfl)]
                  obtain ⟨P2b, n2b, d2b, v4b, hrun, hr2, hg, hbb⟩ := HR3.out.appV HVr3.out (by have := putS_len (p := p) (d := th.toNat) (x := val) (xs := n.vals) k; simp; omega)
                  have Hrun := Lib.hid hrun
                  have HR4 := Lib.hid hr2
                  clear hrun hr2 hg hbb
                  refine wp_run (.slice P2b n2b d2b) v4b (exec_append (t := 24) (x := .tmp 75) (y := .tmp 81) rfl rfl rfl Hrun.out) ?_
                  have Sx4 := T_ HR4.out
                  refine hK.out _ _ (fun _ => Sx4) ?_
                  clear hK K Sx3 Hrun
                  go_frame
                  refine anyU_ready (rs := [19]) (by kernel_rfl) (by simp) (AllU.cons (o := ⟨none, .store 24 (.tmp 83) (.tmp 73), _, _, _, none⟩) rfl (fun K hK => ?_) (fun _ => by kernel_rfl) AllU.nil)
                  rw [if_pos (by rfl)]
                  obtain ⟨y0, y1, y2, y3, f0, f1, f2, f3⟩ := out_cells HR4.out.nm.top
                  go_simp
                  refine hK.out _ _ (fun h => absurd h (by decide)) ?_
                  clear hK K
                  try go_frame
                  obtain ⟨Wa, hWa⟩ : ∃ X, X = v4b.setCell ⟨w.heap.size + 1 + 1, 1, none⟩ (.slice P1b n1b d1b) := ⟨_, rfl⟩
                  have hra := HR4.out.setK
                  rw [← hWa] at hra
                  rw [← hWa]
                  have HRa := Lib.hid hra
                  clear hWa hra y0 y1 y2 y3 f0 f1 f2 f3
                  refine anyU_ready (rs := [20]) (by kernel_rfl) (by simp) (AllU.cons (o := ⟨some 84, .fieldAddr 27 (.tmp 7) 2, _, _, _, none⟩) rfl (fun K hK => ?_) (fun _ => by kernel_rfl) AllU.nil)
                  rw [if_pos (by rfl)]
                  go_simp
                  refine hK.out _ _ (fun h => absurd h (by decide)) ?_
                  clear hK K
                  try go_frame
                  refine anyU_ready (rs := [21]) (by kernel_rfl) (by simp) (AllU.cons (o := ⟨none, .store 24 (.tmp 84) (.tmp 82), _, _, _, none⟩) rfl (fun K hK => ?_) (fun _ => by kernel_rfl) AllU.nil)
                  rw [if_pos (by rfl)]
                  obtain ⟨y0, y1, y2, y3, f0, f1, f2, f3⟩ := out_cells HRa.out.nm.top
                  go_simp
                  refine hK.out _ _ (fun h => absurd h (by decide)) ?_
                  clear hK K
                  try go_frame
                  obtain ⟨wzb, hWb⟩ : ∃ X, X = Wa.setCell ⟨w.heap.size + 1 + 1, 2, none⟩ (.slice P2b n2b d2b) := ⟨_, rfl⟩
                  have hrb := HRa.out.setV
                  rw [← hWb] at hrb
                  rw [← hWb]
                  have HRbb := Lib.hid hrb
                  clear hWb hrb y0 y1 y2 y3 f0 f1 f2 f3 HRa Sx4
                  refine anyU_done (by kernel_rfl) ?_ _
                  go_wp2_with fail
                  go_roundw
                  case rel =>
                    refine ⟨k + 1, true, P1b, P2b, n1b, d1b, n2b, d2b, by omega, by go_num, rfl, Lib.hid (HD.out), Lib.hid ?_⟩
                    rw [show putS p th.toNat key n.keys (k + 1) = (putS p th.toNat key n.keys k ++ [key]) ++ [n.keys.getD k []] by rw [HP.out]; exact putS_both (by rw [HLk.out.1, ← HP.out]; exact hka) (fun g => HT.out (by revert g; cases th <;> simp)), show putS p th.toNat val n.vals (k + 1) = (putS p th.toNat val n.vals k ++ [val]) ++ [n.vals.getD k []] by rw [HP.out]; exact putS_both (by rw [HLk.out.2, ← HP.out]; exact hka) (fun g => HT.out (by revert g; cases th <;> simp)), ← HKk.out, ← HVv.out]
                    exact HRbb.out
                  case measure => simp [intOf];  omega
                · rw [if_pos (by rfl)]
                  obtain ⟨v2b, hu⟩ : ∃ u, u = v1b.alloc (.cells #[.slice Bc nc dc] 22) := ⟨_, rfl⟩
                  have hb : Below v1b.heap.size v1b v2b := by rw [hu]; exact (Below.refl v1b.heap.size v1b).alloc (Nat.le_refl _) (.cells #[.slice Bc nc dc] 22)
                  have hrw : RowT v2b B0 (w.heap.size + 1 + 1 + 1) v1b.heap.size (.slice Bc nc dc) (vv) := by rw [hu]; exact RowT.lit (HR1.out.txt HVr.out) (by omega)
                  have HR2 := Lib.hid (HR1.out.kept hb)
                  have NE := Lib.hid HR1.out.neK
                  have HKr2 := Lib.hid (HKr1.out.kept hb (by omega))
                  have HVr2 := Lib.hid hrw
                  go_simp
                  rw [← hu]
                  have Sx2 := T_ HR2.out
                  refine hK.out _ _ (fun _ => Sx2) ?_
                  clear hK K Sx1 hu hb hrw
                  try go_frame
                  refine anyU_ready (rs := [8]) (by kernel_rfl) (by simp) (AllU.cons (o := ⟨some 73, .call { callee := .builtin .append, args := #[.tmp 66, .tmp 72], argTypes := #[24, 24] }, _, _, _, none⟩) rfl (fun K hK => ?_) (fun h => absurd h (by decide)) AllU.nil)
                  rw [if_pos (by rfl)]
                  obtain ⟨P1b, n1b, d1b, v3b, hrun, hr2, hg, hbb⟩ := HR2.out.appK HKr2.out (by have := putS_len (p := p) (d := th.toNat) (x := key) (xs := n.keys) k; simp; omega)
                  have Hrun := Lib.hid hrun
                  have HR3 := Lib.hid hr2
                  have HVr3 := Lib.hid (HVr2.out.grown hg NE.out HR2.out.nm.rK.rowB (by omega))
                  clear hrun hr2 hg hbb
                  refine wp_run (.slice P1b n1b d1b) v3b (exec_append (t := 24) (x := .tmp 66) (y := .tmp 72) rfl rfl rfl Hrun.out) ?_
                  have Sx3 := T_ HR3.out
                  refine hK.out _ _ (fun _ => Sx3) ?_
                  clear hK K Sx2 Hrun
                  go_frame
                  refine' anyU_take0 (i := 18) (oi := ⟨some 83, .fieldAddr 27 (.tmp 7) 1, _, _, _, none⟩) (v := _) rfl (by kernel_rfl) (fun _ _ _ h => h) (Or.inl ⟨by rfl, ?hy42⟩) (by assumption) ?rest42
                  case hy42 => (intro w hSw; go_simp <;> with_reducible rfl)
                  case rest42 =>
                  go_frame
                  refine anyU_ready (rs := [17]) (by kernel_rfl) (by simp) (AllU.cons (o := ⟨some 82, .call { callee := .builtin .append, args := #[.tmp 75, .tmp 81], argTypes := #[24, 24] }, _, _, _, none⟩) rfl (fun K hK => ?_) (fun h => absurd h (by decide)) AllU.nil)
                  rw [if_pos (by rfl)]
                  obtain ⟨P2b, n2b, d2b, v4b, hrun, hr2, hg, hbb⟩ := HR3.out.appV HVr3.out (by have := putS_len (p := p) (d := th.toNat) (x := val) (xs := n.vals) k; simp; omega)
                  have Hrun := Lib.hid hrun
                  have HR4 := Lib.hid hr2
                  clear hrun hr2 hg hbb
                  refine wp_run (.slice P2b n2b d2b) v4b (exec_append (t := 24) (x := .tmp 75) (y := .tmp 81) rfl rfl rfl Hrun.out) ?_
                  have Sx4 := T_ HR4.out
                  refine hK.out _ _ (fun _ => Sx4) ?_
                  clear hK K Sx3 Hrun
                  go_frame
                  refine anyU_ready (rs := [19]) (by kernel_rfl) (by simp) (AllU.cons (o := ⟨none, .store 24 (.tmp 83) (.tmp 73), _, _, _, none⟩) rfl (fun K hK => ?_) (fun _ => by kernel_rfl) AllU.nil)
                  rw [if_pos (by rfl)]
                  obtain ⟨y0, y1, y2, y3, f0, f1, f2, f3⟩ := out_cells HR4.out.nm.top
                  go_simp
                  refine hK.out _ _ (fun h => absurd h (by decide)) ?_
                  clear hK K
                  try go_frame
                  obtain ⟨Wa, hWa⟩ : ∃ X, X = v4b.setCell ⟨w.heap.size + 1 + 1, 1, none⟩ (.slice P1b n1b d1b) := ⟨_, rfl⟩
                  have hra := HR4.out.setK
                  rw [← hWa] at hra
                  rw [← hWa]
                  have HRa := Lib.hid hra
                  clear hWa hra y0 y1 y2 y3 f0 f1 f2 f3
                  refine anyU_ready (rs := [20]) (by kernel_rfl) (by simp) (AllU.cons (o := ⟨some 84, .fieldAddr 27 (.tmp 7) 2, _, _, _, none⟩) rfl (fun K hK => ?_) (fun _ => by kernel_rfl) AllU.nil)
                  rw [if_pos (by rfl)]
                  go_simp
                  refine hK.out _ _ (fun h => absurd h (by decide)) ?_
                  clear hK K
                  try go_frame
                  refine anyU_ready (rs := [21]) (by kernel_rfl) (by simp) (AllU.cons (o := ⟨none, .store 24 (.tmp 84) (.tmp 82), _, _, _, none⟩) rfl (fun K hK => ?_) (fun _ => by kernel_rfl) AllU.nil)
                  rw [if_pos (by rfl)]
                  obtain ⟨y0, y1, y2, y3, f0, f1, f2, f3⟩ := out_cells HRa.out.nm.top
                  go_simp
                  refine hK.out _ _ (fun h => absurd h (by decide)) ?_
                  clear hK K
                  try go_frame
                  obtain ⟨wzb, hWb⟩ : ∃ X, X = Wa.setCell ⟨w.heap.size + 1 + 1, 2, none⟩ (.slice P2b n2b d2b) := ⟨_, rfl⟩
                  have hrb := HRa.out.setV
                  rw [← hWb] at hrb
                  rw [← hWb]
                  have HRbb := Lib.hid hrb
                  clear hWb hrb y0 y1 y2 y3 f0 f1 f2 f3 HRa Sx4
                  refine anyU_done (by kernel_rfl) ?_ _
                  go_wp2_with fail
                  go_roundw
                  case rel =>
                    refine ⟨k + 1, true, P1b, P2b, n1b, d1b, n2b, d2b, by omega, by go_num, rfl, Lib.hid (HD.out), Lib.hid ?_⟩
                    rw [show putS p th.toNat key n.keys (k + 1) = (putS p th.toNat key n.keys k ++ [key]) ++ [n.keys.getD k []] by rw [HP.out]; exact putS_both (by rw [HLk.out.1, ← HP.out]; exact hka) (fun g => HT.out (by revert g; cases th <;> simp)), show putS p th.toNat val n.vals (k + 1) = (putS p th.toNat val n.vals k ++ [val]) ++ [n.vals.getD k []] by rw [HP.out]; exact putS_both (by rw [HLk.out.2, ← HP.out]; exact hka) (fun g => HT.out (by revert g; cases th <;> simp)), ← HKk.out, ← HVv.out]
                    exact HRbb.out
                  case measure => simp [intOf];  omega
              · rw [if_pos (by rfl)]
                obtain ⟨v1b, hu⟩ : ∃ u, u = wdb.alloc (.cells #[.slice Bc nc dc] 22) := ⟨_, rfl⟩
                have hb : Below wdb.heap.size wdb v1b := by rw [hu]; exact (Below.refl wdb.heap.size wdb).alloc (Nat.le_refl _) (.cells #[.slice Bc nc dc] 22)
                have hrw : RowT v1b B0 (w.heap.size + 1 + 1 + 1) wdb.heap.size (.slice Bc nc dc) (vv) := by rw [hu]; exact RowT.lit (HR0.out.txt HVr.out) (by omega)
                have HR1 := Lib.hid (HR0.out.kept hb)
                have NE := Lib.hid HR0.out.neK
                have HVr1 := Lib.hid hrw
                go_simp
                rw [← hu]
                have Sx1 := T_ HR1.out
                refine hK.out _ _ (fun _ => Sx1) ?_
                clear hK K S0 hu hb hrw
                try go_frame
                refine anyU_ready (rs := [7]) (by kernel_rfl) (by simp) (AllU.cons (o := ⟨some 72, .buildSlice 24 1 #[(0, .tmp 71)], _, _, _, none⟩) rfl (fun K hK => ?_) (fun h => absurd h (by decide)) AllU.nil)
                rw [if_pos (by rfl)]
                obtain ⟨v2b, hu⟩ : ∃ u, u = v1b.alloc (.cells #[.slice Ac mc cc] 22) := ⟨_, rfl⟩
                have hb : Below v1b.heap.size v1b v2b := by rw [hu]; exact (Below.refl v1b.heap.size v1b).alloc (Nat.le_refl _) (.cells #[.slice Ac mc cc] 22)
                have hrw : RowT v2b B0 (w.heap.size + 1 + 1 + 1) v1b.heap.size (.slice Ac mc cc) (kk) := by rw [hu]; exact RowT.lit (HR1.out.txt HKr.out) (by omega)
                have HR2 := Lib.hid (HR1.out.kept hb)
                have HVr2 := Lib.hid (HVr1.out.kept hb (by omega))
                have HKr2 := Lib.hid hrw
                go_simp
                rw [← hu]
                have Sx2 := T_ HR2.out
                refine hK.out _ _ (fun _ => Sx2) ?_
                clear hK K Sx1 hu hb hrw
                try go_frame
                refine anyU_ready (rs := [8]) (by kernel_rfl) (by simp) (AllU.cons (o := ⟨some 73, .call { callee := .builtin .append, args := #[.tmp 66, .tmp 72], argTypes := #[24, 24] }, _, _, _, none⟩) rfl (fun K hK => ?_) (fun h => absurd h (by decide)) AllU.nil)
                rw [if_pos (by rfl)]
                obtain ⟨P1b, n1b, d1b, v3b, hrun, hr2, hg, hbb⟩ := HR2.out.appK HKr2.out (by have := putS_len (p := p) (d := th.toNat) (x := key) (xs := n.keys) k; simp; omega)
                have Hrun := Lib.hid hrun
                have HR3 := Lib.hid hr2
                have HVr3 := Lib.hid (HVr2.out.grown hg NE.out HR2.out.nm.rK.rowB (by omega))
                clear hrun hr2 hg hbb
                refine wp_run (.slice P1b n1b d1b) v3b (exec_append (t := 24) (x := .tmp 66) (y := .tmp 72) rfl rfl rfl Hrun.out) ?_
                have Sx3 := T_ HR3.out
                refine hK.out _ _ (fun _ => Sx3) ?_
                clear hK K Sx2 Hrun
                go_frame
                refine' anyU_take0 (i := 18) (oi := ⟨some 83, .fieldAddr 27 (.tmp 7) 1, _, _, _, none⟩) (v := _) rfl (by kernel_rfl) (fun _ _ _ h => h) (Or.inl ⟨by rfl, ?hy43⟩) (by assumption) ?rest43
                case hy43 => (intro w hSw; go_simp <;> with_reducible rfl)
                case rest43 =>
                go_frame
                refine anyU_ready (rs := [17]) (by kernel_rfl) (by simp) (AllU.cons (o := ⟨some 82, .call { callee := .builtin .append, args := #[.tmp 75, .tmp 81], argTypes := #[24, 24] }, _, _, _, none⟩) rfl (fun K hK => ?_) (fun h => absurd h (by decide)) AllU.nil)
                rw [if_pos (by rfl)]
                obtain ⟨P2b, n2b, d2b, v4b, hrun, hr2, hg, hbb⟩ := HR3.out.appV HVr3.out (by have := putS_len (p := p) (d := th.toNat) (x := val) (xs := n.vals) k; simp; omega)
                have Hrun := Lib.hid hrun
                have HR4 := Lib.hid hr2
                clear hrun hr2 hg hbb
                refine wp_run (.slice P2b n2b d2b) v4b (exec_append (t := 24) (x := .tmp 75) (y := .tmp 81) rfl rfl rfl Hrun.out) ?_
                have Sx4 := T_ HR4.out
                refine hK.out _ _ (fun _ => Sx4) ?_
                clear hK K Sx3 Hrun
                go_frame
                refine anyU_ready (rs := [19]) (by kernel_rfl) (by simp) (AllU.cons (o := ⟨none, .store 24 (.tmp 83) (.tmp 73), _, _, _, none⟩) rfl (fun K hK => ?_) (fun _ => by kernel_rfl) AllU.nil)
                rw [if_pos (by rfl)]
                obtain ⟨y0, y1, y2, y3, f0, f1, f2, f3⟩ := out_cells HR4.out.nm.top
                go_simp
                refine hK.out _ _ (fun h => absurd h (by decide)) ?_
                clear hK K
                try go_frame
                obtain ⟨Wa, hWa⟩ : ∃ X, X = v4b.setCell ⟨w.heap.size + 1 + 1, 1, none⟩ (.slice P1b n1b d1b) := ⟨_, rfl⟩
                have hra := HR4.out.setK
                rw [← hWa] at hra
                rw [← hWa]
                have HRa := Lib.hid hra
                clear hWa hra y0 y1 y2 y3 f0 f1 f2 f3
                refine anyU_ready (rs := [20]) (by kernel_rfl) (by simp) (AllU.cons (o := ⟨some 84, .fieldAddr 27 (.tmp 7) 2, _, _, _, none⟩) rfl (fun K hK => ?_) (fun _ => by kernel_rfl) AllU.nil)
                rw [if_pos (by rfl)]
                go_simp
                refine hK.out _ _ (fun h => absurd h (by decide)) ?_
                clear hK K
                try go_frame
                refine anyU_ready (rs := [21]) (by kernel_rfl) (by simp) (AllU.cons (o := ⟨none, .store 24 (.tmp 84) (.tmp 82), _, _, _, none⟩) rfl (fun K hK => ?_) (fun _ => by kernel_rfl) AllU.nil)
                rw [if_pos (by rfl)]
                obtain ⟨y0, y1, y2, y3, f0, f1, f2, f3⟩ := out_cells HRa.out.nm.top
                go_simp
                refine hK.out _ _ (fun h => absurd h (by decide)) ?_
                clear hK K
                try go_frame
                obtain ⟨wzb, hWb⟩ : ∃ X, X = Wa.setCell ⟨w.heap.size + 1 + 1, 2, none⟩ (.slice P2b n2b d2b) := ⟨_, rfl⟩
                have hrb := HRa.out.setV
                rw [← hWb] at hrb
                rw [← hWb]
                have HRbb := Lib.hid hrb
                clear hWb hrb y0 y1 y2 y3 f0 f1 f2 f3 HRa Sx4
                refine anyU_done (by kernel_rfl) ?_ _
                go_wp2_with fail
                go_roundw
                case rel =>
                  refine ⟨k + 1, true, P1b, P2b, n1b, d1b, n2b, d2b, by omega, by go_num, rfl, Lib.hid (HD.out), Lib.hid ?_⟩
                  rw [show putS p th.toNat key n.keys (k + 1) = (putS p th.toNat key n.keys k ++ [key]) ++ [n.keys.getD k []] by rw [HP.out]; exact putS_both (by rw [HLk.out.1, ← HP.out]; exact hka) (fun g => HT.out (by revert g; cases th <;> simp)), show putS p th.toNat val n.vals (k + 1) = (putS p th.toNat val n.vals k ++ [val]) ++ [n.vals.getD k []] by rw [HP.out]; exact putS_both (by rw [HLk.out.2, ← HP.out]; exact hka) (fun g => HT.out (by revert g; cases th <;> simp)), ← HKk.out, ← HVv.out]
                  exact HRbb.out
                case measure => simp [intOf];  omega
        · have hq : q = true := by rw [HQ.out]; simp; omega
          subst hq
          have HKne := Lib.hid (show ¬ kk = key from fun h => by have := (hif.1 h).2; omega)
          have HP := Lib.hid (show k ≠ p by omega)
          have HD := Lib.hid (show true = decide (p < k + 1) by simp; omega)
          clear hlo hhi hif he hkp HQ HCx
          have S7_ : (fun w' : World => w'.cell? ⟨w.heap.size, 1, none⟩ = some (.slice (some ⟨bk, ok, none⟩) a c1) ∧ w'.cell? ⟨bk, ok + k, none⟩ = some (.slice Ac mc cc) ∧ (convert 22 9 (.slice Ac mc cc)).run Try.prog w' = .ok (.string ⟨kk.toArray⟩) w' ∧ (convert 22 9 (.slice Ak kl ck)).run Try.prog w' = .ok (.string ⟨key.toArray⟩) w') wr.drew := ⟨HR.out.box.c1, (HR.out.below.cell HBk.out.1).trans HKc.out, run_string_rd (P := Try.prog) 22 9 5 Try.underlying22 Try.underlying5 Try.underlying9 (HKr.out.below (HR.out.below.mono hB0)).drew, run_string_rd (P := Try.prog) 22 9 5 Try.underlying22 Try.underlying5 Try.underlying9 (HK.out.below (HR.out.below.mono hB0)).drew⟩
          have H7 := Lib.hid S7_
          clear S7_
          have k0 : (0 : Int) ≤ (k : Int) := by omega
          have k1 : (k : Int) < (a : Int) := by omega
          have k3 : (k : Int).toNat = k := by omega
          have t7 : (kk == key) = false := by simp [HKne.out]
          go_wp2_with fail
          go_region_held3 (fun w' => w'.cell? ⟨w.heap.size, 1, none⟩ = some (.slice (some ⟨bk, ok, none⟩) a c1) ∧ w'.cell? ⟨bk, ok + k, none⟩ = some (.slice Ac mc cc) ∧ (convert 22 9 (.slice Ac mc cc)).run Try.prog w' = .ok (.string ⟨kk.toArray⟩) w' ∧ (convert 22 9 (.slice Ak kl ck)).run Try.prog w' = .ok (.string ⟨key.toArray⟩) w') (exact H7.out) (fail)
          have HR7 := Lib.hid (HR.out.kept (Below.refl _ _).drew)
          clear H7 k0 k1 k3 t7
          go_wp2_with fail
          have T_ : ∀ {W : World} {uK uV : Value} {lk lv : List (List UInt8)}, RpW w B0 W (.slice (some ⟨bk, ok, none⟩) a c1) (.slice (some ⟨bv, ov, none⟩) a c2) (.slice A3 d c3) (.slice T1 t1 e1) (.slice T2 t2 e2) uK uV lk lv → (fun w' => w'.cell? ⟨w.heap.size, 1, none⟩ = some (.slice (some ⟨bk, ok, none⟩) a c1) ∧ w'.cell? ⟨w.heap.size, 2, none⟩ = some (.slice (some ⟨bv, ov, none⟩) a c2) ∧ w'.cell? ⟨w.heap.size + 1 + 1, 1, none⟩ = some (.slice T1 t1 e1) ∧ w'.cell? ⟨w.heap.size + 1 + 1, 2, none⟩ = some (.slice T2 t2 e2) ∧ w'.cell? ⟨bk, ok + k, none⟩ = some (.slice Ac mc cc) ∧ w'.cell? ⟨bv, ov + k, none⟩ = some (.slice Bc nc dc)) W := fun {W uK uV lk lv} hT => by
            exact ⟨hT.box.c1, hT.box.c2, hT.nm.c1, hT.nm.c2, (hT.below.cell HBk.out.1).trans HKc.out, (hT.below.cell HBk.out.2).trans HVc.out⟩
          obtain ⟨wdb, hwdb⟩ : ∃ x, x = wr.drew.drew := ⟨_, rfl⟩
          have HS_wdb : Hid (RpW w B0 wdb (.slice (some ⟨bk, ok, none⟩) a c1) (.slice (some ⟨bv, ov, none⟩) a c2) (.slice A3 d c3) (.slice T1 t1 e1) (.slice T2 t2 e2) (.slice T1 t1 e1) (.slice T2 t2 e2) (putS p th.toNat key n.keys k) (putS p th.toNat val n.vals k)) := Lib.hid (by rw [hwdb]; exact HR7.out.kept (Below.refl _ _).drew)
          have Zwdb := Lib.hid (show wdb.heap.size = wr.drew.heap.size by rw [hwdb]; rfl)
          have S0 : (fun w' => w'.cell? ⟨w.heap.size, 1, none⟩ = some (.slice (some ⟨bk, ok, none⟩) a c1) ∧ w'.cell? ⟨w.heap.size, 2, none⟩ = some (.slice (some ⟨bv, ov, none⟩) a c2) ∧ w'.cell? ⟨w.heap.size + 1 + 1, 1, none⟩ = some (.slice T1 t1 e1) ∧ w'.cell? ⟨w.heap.size + 1 + 1, 2, none⟩ = some (.slice T2 t2 e2) ∧ w'.cell? ⟨bk, ok + k, none⟩ = some (.slice Ac mc cc) ∧ w'.cell? ⟨bv, ov + k, none⟩ = some (.slice Bc nc dc)) wdb := T_ HS_wdb.out
          have HR0 := Lib.hid HS_wdb.out
          refine wp_region_late (S := fun w' => w'.cell? ⟨w.heap.size, 1, none⟩ = some (.slice (some ⟨bk, ok, none⟩) a c1) ∧ w'.cell? ⟨w.heap.size, 2, none⟩ = some (.slice (some ⟨bv, ov, none⟩) a c2) ∧ w'.cell? ⟨w.heap.size + 1 + 1, 1, none⟩ = some (.slice T1 t1 e1) ∧ w'.cell? ⟨w.heap.size + 1 + 1, 2, none⟩ = some (.slice T2 t2 e2) ∧ w'.cell? ⟨bk, ok + k, none⟩ = some (.slice Ac mc cc) ∧ w'.cell? ⟨bv, ov + k, none⟩ = some (.slice Bc nc dc)) [19, 20, 21] (by kernel_rfl) (by rw [← hwdb]; exact S0) (fun hHeld => ?_)
          rw [← hwdb]
          clear hwdb
          refine' anyU_take0 (i := 0) (oi := ⟨some 65, .fieldAddr 27 (.tmp 7) 1, _, _, _, none⟩) (v := _) rfl (by kernel_rfl) (fun _ _ _ h => h) (Or.inl ⟨by rfl, ?hy53⟩) (by assumption) ?rest53
          case hy53 => (intro w hSw; go_simp <;> with_reducible rfl)
          case rest53 =>
          go_frame
          refine' anyU_take (i := 1) (oi := ⟨some 66, .load 24 (.tmp 65), _, _, _, none⟩) (v := _) rfl (by kernel_rfl) (fun _ _ _ h => h) (Or.inl ⟨by rfl, ?hy54⟩) (by assumption) ?rest54
          case hy54 => (intro w hSw; obtain ⟨s0, s1, s2, s3, s4, s5⟩ := hSw; go_simp <;> with_reducible rfl)
          case rest54 =>
          go_frame
          refine' anyU_take0 (i := 2) (oi := ⟨some 67, .fieldAddr 27 (.tmp 3) 1, _, _, _, none⟩) (v := _) rfl (by kernel_rfl) (fun _ _ _ h => h) (Or.inl ⟨by rfl, ?hy55⟩) (by assumption) ?rest55
          case hy55 => (intro w hSw; go_simp <;> with_reducible rfl)
          case rest55 =>
          go_frame
          refine' anyU_take (i := 3) (oi := ⟨some 68, .load 24 (.tmp 67), _, _, _, none⟩) (v := _) rfl (by kernel_rfl) (fun _ _ _ h => h) (Or.inl ⟨by rfl, ?hy56⟩) (by assumption) ?rest56
          case hy56 => (intro w hSw; obtain ⟨s0, s1, s2, s3, s4, s5⟩ := hSw; go_simp <;> with_reducible rfl)
          case rest56 =>
          go_frame
          refine' anyU_take0 (i := 4) (oi := ⟨some 69, .move (.tmp 9), _, _, _, none⟩) (v := _) rfl (by kernel_rfl) (fun _ _ _ h => h) (Or.inl ⟨by rfl, ?hy57⟩) (by assumption) ?rest57
          case hy57 => (intro w hSw; go_simp <;> with_reducible rfl)
          case rest57 =>
          go_frame
          refine' anyU_take0 (i := 5) (oi := ⟨some 70, .indexAddr 24 (.tmp 68) (.tmp 69), _, _, _, none⟩) (v := _) rfl (by kernel_rfl) (fun _ _ _ h => h) (Or.inl ⟨by rfl, ?hy58⟩) (by assumption) ?rest58
          case hy58 => (intro w hSw; go_simp <;> with_reducible rfl)
          case rest58 =>
          go_frame
          refine' anyU_take (i := 6) (oi := ⟨some 71, .load 22 (.tmp 70), _, _, _, none⟩) (v := _) rfl (by kernel_rfl) (fun _ _ _ h => h) (Or.inl ⟨by rfl, ?hy59⟩) (by assumption) ?rest59
          case hy59 => (intro w hSw; obtain ⟨s0, s1, s2, s3, s4, s5⟩ := hSw; go_simp <;> with_reducible rfl)
          case rest59 =>
          go_frame
          refine' anyU_take0 (i := 9) (oi := ⟨some 74, .fieldAddr 27 (.tmp 7) 2, _, _, _, none⟩) (v := _) rfl (by kernel_rfl) (fun _ _ _ h => h) (Or.inl ⟨by rfl, ?hy60⟩) (by assumption) ?rest60
          case hy60 => (intro w hSw; go_simp <;> with_reducible rfl)
          case rest60 =>
          go_frame
          refine' anyU_take (i := 10) (oi := ⟨some 75, .load 24 (.tmp 74), _, _, _, none⟩) (v := _) rfl (by kernel_rfl) (fun _ _ _ h => h) (Or.inl ⟨by rfl, ?hy61⟩) (by assumption) ?rest61
          case hy61 => (intro w hSw; obtain ⟨s0, s1, s2, s3, s4, s5⟩ := hSw; go_simp <;> with_reducible rfl)
          case rest61 =>
          go_frame
          refine' anyU_take0 (i := 11) (oi := ⟨some 76, .fieldAddr 27 (.tmp 3) 2, _, _, _, none⟩) (v := _) rfl (by kernel_rfl) (fun _ _ _ h => h) (Or.inl ⟨by rfl, ?hy62⟩) (by assumption) ?rest62
          case hy62 => (intro w hSw; go_simp <;> with_reducible rfl)
          case rest62 =>
          go_frame
          refine' anyU_take2 [14, 15, 16, 17, 19, 20, 21] (i := 12) (oi := ⟨some 77, .load 24 (.tmp 76), _, _, _, none⟩) (v := _) rfl (by kernel_rfl) (fun _ _ _ h => h) (Or.inl ⟨by rfl, ?hy63⟩) (by assumption) ?rest63
          case hy63 => (intro w hSw; obtain ⟨s0, s1, s2, s3, s4, s5⟩ := hSw; go_simp <;> with_reducible rfl)
          case rest63 =>
          go_frame
          refine' anyU_take0 (i := 13) (oi := ⟨some 78, .move (.tmp 9), _, _, _, none⟩) (v := _) rfl (by kernel_rfl) (fun _ _ _ h => h) (Or.inl ⟨by rfl, ?hy64⟩) (by assumption) ?rest64
          case hy64 => (intro w hSw; go_simp <;> with_reducible rfl)
          case rest64 =>
          go_frame
          refine' anyU_take0 (i := 14) (oi := ⟨some 79, .indexAddr 24 (.tmp 77) (.tmp 78), _, _, _, none⟩) (v := _) rfl (by kernel_rfl) (fun _ _ _ h => h) (Or.inl ⟨by rfl, ?hy65⟩) (by assumption) ?rest65
          case hy65 => (intro w hSw; go_simp <;> with_reducible rfl)
          case rest65 =>
          go_frame
          refine' anyU_take2 [16, 17, 19, 20, 21] (i := 15) (oi := ⟨some 80, .load 22 (.tmp 79), _, _, _, none⟩) (v := _) rfl (by kernel_rfl) (fun _ _ _ h => h) (Or.inl ⟨by rfl, ?hy66⟩) (by assumption) ?rest66
          case hy66 => (intro w hSw; obtain ⟨s0, s1, s2, s3, s4, s5⟩ := hSw; go_simp <;> with_reducible rfl)
          case rest66 =>
          go_frame
          refine anyU_ready (rs := [7, 16]) (by kernel_rfl) (by simp) (AllU.cons (o := ⟨some 72, .buildSlice 24 1 #[(0, .tmp 71)], _, _, _, none⟩) rfl (fun K hK => ?_) (fun h => absurd h (by decide)) (AllU.cons (o := ⟨some 81, .buildSlice 24 1 #[(0, .tmp 80)], _, _, _, none⟩) rfl (fun K hK => ?_) (fun h => absurd h (by decide)) AllU.nil))
          · rw [if_pos (by rfl)]
            obtain ⟨v1b, hu⟩ : ∃ u, u = wdb.alloc (.cells #[.slice Ac mc cc] 22) := ⟨_, rfl⟩
            have hb : Below wdb.heap.size wdb v1b := by rw [hu]; exact (Below.refl wdb.heap.size wdb).alloc (Nat.le_refl _) (.cells #[.slice Ac mc cc] 22)
            have hrw : RowT v1b B0 (w.heap.size + 1 + 1 + 1) wdb.heap.size (.slice Ac mc cc) (kk) := by rw [hu]; exact RowT.lit (HR0.out.txt HKr.out) (by omega)
            have HR1 := Lib.hid (HR0.out.kept hb)
            have HKr1 := Lib.hid hrw
            go_simp
            rw [← hu]
            have Sx1 := T_ HR1.out
            refine hK.out _ _ (fun _ => Sx1) ?_
            clear hK K S0 hu hb hrw
            try go_frame
            refine anyU_ready (rs := [8, 16]) (by kernel_rfl) (by simp) (AllU.cons (o := ⟨some 73, .call { callee := .builtin .append, args := #[.tmp 66, .tmp 72], argTypes := #[24, 24] }, _, _, _, none⟩) rfl (fun K hK => ?_) (fun h => absurd h (by decide)) (AllU.cons (o := ⟨some 81, .buildSlice 24 1 #[(0, .tmp 80)], _, _, _, none⟩) rfl (fun K hK => ?_) (fun h => absurd h (by decide)) AllU.nil))
            · rw [if_pos (by rfl)]
              obtain ⟨P1b, n1b, d1b, v2b, hrun, hr2, hg, hbb⟩ := HR1.out.appK HKr1.out (by have := putS_len (p := p) (d := th.toNat) (x := key) (xs := n.keys) k; simp; omega)
              have Hrun := Lib.hid hrun
              have HR2 := Lib.hid hr2
              clear hrun hr2 hg hbb
              refine wp_run (.slice P1b n1b d1b) v2b (exec_append (t := 24) (x := .tmp 66) (y := .tmp 72) rfl rfl rfl Hrun.out) ?_
              have Sx2 := T_ HR2.out
              refine hK.out _ _ (fun _ => Sx2) ?_
              clear hK K Sx1 Hrun
              go_frame
              refine' anyU_take0 (i := 18) (oi := ⟨some 83, .fieldAddr 27 (.tmp 7) 1, _, _, _, none⟩) (v := _) rfl (by kernel_rfl) (fun _ _ _ h => h) (Or.inl ⟨by rfl, ?hy67⟩) (by assumption) ?rest67
              case hy67 => (intro w hSw; go_simp <;> with_reducible rfl)
              case rest67 =>
              go_frame
              refine anyU_ready (rs := [16]) (by kernel_rfl) (by simp) (AllU.cons (o := ⟨some 81, .buildSlice 24 1 #[(0, .tmp 80)], _, _, _, none⟩) rfl (fun K hK => ?_) (fun h => absurd h (by decide)) AllU.nil)
              rw [if_pos (by rfl)]
              obtain ⟨v3b, hu⟩ : ∃ u, u = v2b.alloc (.cells #[.slice Bc nc dc] 22) := ⟨_, rfl⟩
              have hb : Below v2b.heap.size v2b v3b := by rw [hu]; exact (Below.refl v2b.heap.size v2b).alloc (Nat.le_refl _) (.cells #[.slice Bc nc dc] 22)
              have hrw : RowT v3b B0 (w.heap.size + 1 + 1 + 1) v2b.heap.size (.slice Bc nc dc) (vv) := by rw [hu]; exact RowT.lit (HR2.out.txt HVr.out) (by omega)
              have HR3 := Lib.hid (HR2.out.kept hb)
              have HVr3 := Lib.hid hrw
              go_simp
              rw [← hu]
              have Sx3 := T_ HR3.out
              refine hK.out _ _ (fun _ => Sx3) ?_
              clear hK K Sx2 hu hb hrw
              try go_frame
              refine anyU_ready (rs := [17]) (by kernel_rfl) (by simp) (AllU.cons (o := ⟨some 82, .call { callee := .builtin .append, args := #[.tmp 75, .tmp 81], argTypes := #[24, 24] }, _, _, _, none⟩) rfl (fun K hK => ?_) (fun h => absurd h (by decide)) AllU.nil)
              rw [if_pos (by rfl)]
              obtain ⟨P2b, n2b, d2b, v4b, hrun, hr2, hg, hbb⟩ := HR3.out.appV HVr3.out (by have := putS_len (p := p) (d := th.toNat) (x := val) (xs := n.vals) k; simp; omega)
              have Hrun := Lib.hid hrun
              have HR4 := Lib.hid hr2
              clear hrun hr2 hg hbb
              refine wp_run (.slice P2b n2b d2b) v4b (exec_append (t := 24) (x := .tmp 75) (y := .tmp 81) rfl rfl rfl Hrun.out) ?_
              have Sx4 := T_ HR4.out
              refine hK.out _ _ (fun _ => Sx4) ?_
              clear hK K Sx3 Hrun
              go_frame
              refine anyU_ready (rs := [19]) (by kernel_rfl) (by simp) (AllU.cons (o := ⟨none, .store 24 (.tmp 83) (.tmp 73), _, _, _, none⟩) rfl (fun K hK => ?_) (fun _ => by kernel_rfl) AllU.nil)
              rw [if_pos (by rfl)]
              obtain ⟨y0, y1, y2, y3, f0, f1, f2, f3⟩ := out_cells HR4.out.nm.top
              go_simp
              refine hK.out _ _ (fun h => absurd h (by decide)) ?_
              clear hK K
              try go_frame
              obtain ⟨Wa, hWa⟩ : ∃ X, X = v4b.setCell ⟨w.heap.size + 1 + 1, 1, none⟩ (.slice P1b n1b d1b) := ⟨_, rfl⟩
              have hra := HR4.out.setK
              rw [← hWa] at hra
              rw [← hWa]
              have HRa := Lib.hid hra
              clear hWa hra y0 y1 y2 y3 f0 f1 f2 f3
              refine anyU_ready (rs := [20]) (by kernel_rfl) (by simp) (AllU.cons (o := ⟨some 84, .fieldAddr 27 (.tmp 7) 2, _, _, _, none⟩) rfl (fun K hK => ?_) (fun _ => by kernel_rfl) AllU.nil)
              rw [if_pos (by rfl)]
              go_simp
              refine hK.out _ _ (fun h => absurd h (by decide)) ?_
              clear hK K
              try go_frame
              refine anyU_ready (rs := [21]) (by kernel_rfl) (by simp) (AllU.cons (o := ⟨none, .store 24 (.tmp 84) (.tmp 82), _, _, _, none⟩) rfl (fun K hK => ?_) (fun _ => by kernel_rfl) AllU.nil)
              rw [if_pos (by rfl)]
              obtain ⟨y0, y1, y2, y3, f0, f1, f2, f3⟩ := out_cells HRa.out.nm.top
              go_simp
              refine hK.out _ _ (fun h => absurd h (by decide)) ?_
              clear hK K
              try go_frame
              obtain ⟨wzb, hWb⟩ : ∃ X, X = Wa.setCell ⟨w.heap.size + 1 + 1, 2, none⟩ (.slice P2b n2b d2b) := ⟨_, rfl⟩
              have hrb := HRa.out.setV
              rw [← hWb] at hrb
              rw [← hWb]
              have HRbb := Lib.hid hrb
              clear hWb hrb y0 y1 y2 y3 f0 f1 f2 f3 HRa Sx4
              refine anyU_done (by kernel_rfl) ?_ _
              go_wp2_with fail
              go_roundw
              case rel =>
                refine ⟨k + 1, true, P1b, P2b, n1b, d1b, n2b, d2b, by omega, by go_num, rfl, Lib.hid (HD.out), Lib.hid ?_⟩
                rw [putS_other HP.out (by rw [HLk.out.1]; exact hka), putS_other HP.out (by rw [HLk.out.2]; exact hka), ← HKk.out, ← HVv.out]
                exact HRbb.out
              case measure => simp [intOf];  omega
            · rw [if_pos (by rfl)]
              obtain ⟨v2b, hu⟩ : ∃ u, u = v1b.alloc (.cells #[.slice Bc nc dc] 22) := ⟨_, rfl⟩
              have hb : Below v1b.heap.size v1b v2b := by rw [hu]; exact (Below.refl v1b.heap.size v1b).alloc (Nat.le_refl _) (.cells #[.slice Bc nc dc] 22)
              have hrw : RowT v2b B0 (w.heap.size + 1 + 1 + 1) v1b.heap.size (.slice Bc nc dc) (vv) := by rw [hu]; exact RowT.lit (HR1.out.txt HVr.out) (by omega)
              have HR2 := Lib.hid (HR1.out.kept hb)
              have NE := Lib.hid HR1.out.neK
              have HKr2 := Lib.hid (HKr1.out.kept hb (by omega))
              have HVr2 := Lib.hid hrw
              go_simp
              rw [← hu]
              have Sx2 := T_ HR2.out
              refine hK.out _ _ (fun _ => Sx2) ?_
              clear hK K Sx1 hu hb hrw
              try go_frame
              refine anyU_ready (rs := [8]) (by kernel_rfl) (by simp) (AllU.cons (o := ⟨some 73, .call { callee := .builtin .append, args := #[.tmp 66, .tmp 72], argTypes := #[24, 24] }, _, _, _, none⟩) rfl (fun K hK => ?_) (fun h => absurd h (by decide)) AllU.nil)
              rw [if_pos (by rfl)]
              obtain ⟨P1b, n1b, d1b, v3b, hrun, hr2, hg, hbb⟩ := HR2.out.appK HKr2.out (by have := putS_len (p := p) (d := th.toNat) (x := key) (xs := n.keys) k; simp; omega)
              have Hrun := Lib.hid hrun
              have HR3 := Lib.hid hr2
              have HVr3 := Lib.hid (HVr2.out.grown hg NE.out HR2.out.nm.rK.rowB (by omega))
              clear hrun hr2 hg hbb
              refine wp_run (.slice P1b n1b d1b) v3b (exec_append (t := 24) (x := .tmp 66) (y := .tmp 72) rfl rfl rfl Hrun.out) ?_
              have Sx3 := T_ HR3.out
              refine hK.out _ _ (fun _ => Sx3) ?_
              clear hK K Sx2 Hrun
              go_frame
              refine' anyU_take0 (i := 18) (oi := ⟨some 83, .fieldAddr 27 (.tmp 7) 1, _, _, _, none⟩) (v := _) rfl (by kernel_rfl) (fun _ _ _ h => h) (Or.inl ⟨by rfl, ?hy68⟩) (by assumption) ?rest68
              case hy68 => (intro w hSw; go_simp <;> with_reducible rfl)
              case rest68 =>
              go_frame
              refine anyU_ready (rs := [17]) (by kernel_rfl) (by simp) (AllU.cons (o := ⟨some 82, .call { callee := .builtin .append, args := #[.tmp 75, .tmp 81], argTypes := #[24, 24] }, _, _, _, none⟩) rfl (fun K hK => ?_) (fun h => absurd h (by decide)) AllU.nil)
              rw [if_pos (by rfl)]
              obtain ⟨P2b, n2b, d2b, v4b, hrun, hr2, hg, hbb⟩ := HR3.out.appV HVr3.out (by have := putS_len (p := p) (d := th.toNat) (x := val) (xs := n.vals) k; simp; omega)
              have Hrun := Lib.hid hrun
              have HR4 := Lib.hid hr2
              clear hrun hr2 hg hbb
              refine wp_run (.slice P2b n2b d2b) v4b (exec_append (t := 24) (x := .tmp 75) (y := .tmp 81) rfl rfl rfl Hrun.out) ?_
              have Sx4 := T_ HR4.out
              refine hK.out _ _ (fun _ => Sx4) ?_
              clear hK K Sx3 Hrun
              go_frame
              refine anyU_ready (rs := [19]) (by kernel_rfl) (by simp) (AllU.cons (o := ⟨none, .store 24 (.tmp 83) (.tmp 73), _, _, _, none⟩) rfl (fun K hK => ?_) (fun _ => by kernel_rfl) AllU.nil)
              rw [if_pos (by rfl)]
              obtain ⟨y0, y1, y2, y3, f0, f1, f2, f3⟩ := out_cells HR4.out.nm.top
              go_simp
              refine hK.out _ _ (fun h => absurd h (by decide)) ?_
              clear hK K
              try go_frame
              obtain ⟨Wa, hWa⟩ : ∃ X, X = v4b.setCell ⟨w.heap.size + 1 + 1, 1, none⟩ (.slice P1b n1b d1b) := ⟨_, rfl⟩
              have hra := HR4.out.setK
              rw [← hWa] at hra
              rw [← hWa]
              have HRa := Lib.hid hra
              clear hWa hra y0 y1 y2 y3 f0 f1 f2 f3
              refine anyU_ready (rs := [20]) (by kernel_rfl) (by simp) (AllU.cons (o := ⟨some 84, .fieldAddr 27 (.tmp 7) 2, _, _, _, none⟩) rfl (fun K hK => ?_) (fun _ => by kernel_rfl) AllU.nil)
              rw [if_pos (by rfl)]
              go_simp
              refine hK.out _ _ (fun h => absurd h (by decide)) ?_
              clear hK K
              try go_frame
              refine anyU_ready (rs := [21]) (by kernel_rfl) (by simp) (AllU.cons (o := ⟨none, .store 24 (.tmp 84) (.tmp 82), _, _, _, none⟩) rfl (fun K hK => ?_) (fun _ => by kernel_rfl) AllU.nil)
              rw [if_pos (by rfl)]
              obtain ⟨y0, y1, y2, y3, f0, f1, f2, f3⟩ := out_cells HRa.out.nm.top
              go_simp
              refine hK.out _ _ (fun h => absurd h (by decide)) ?_
              clear hK K
              try go_frame
              obtain ⟨wzb, hWb⟩ : ∃ X, X = Wa.setCell ⟨w.heap.size + 1 + 1, 2, none⟩ (.slice P2b n2b d2b) := ⟨_, rfl⟩
              have hrb := HRa.out.setV
              rw [← hWb] at hrb
              rw [← hWb]
              have HRbb := Lib.hid hrb
              clear hWb hrb y0 y1 y2 y3 f0 f1 f2 f3 HRa Sx4
              refine anyU_done (by kernel_rfl) ?_ _
              go_wp2_with fail
              go_roundw
              case rel =>
                refine ⟨k + 1, true, P1b, P2b, n1b, d1b, n2b, d2b, by omega, by go_num, rfl, Lib.hid (HD.out), Lib.hid ?_⟩
                rw [putS_other HP.out (by rw [HLk.out.1]; exact hka), putS_other HP.out (by rw [HLk.out.2]; exact hka), ← HKk.out, ← HVv.out]
                exact HRbb.out
              case measure => simp [intOf];  omega
          · rw [if_pos (by rfl)]
            obtain ⟨v1b, hu⟩ : ∃ u, u = wdb.alloc (.cells #[.slice Bc nc dc] 22) := ⟨_, rfl⟩
            have hb : Below wdb.heap.size wdb v1b := by rw [hu]; exact (Below.refl wdb.heap.size wdb).alloc (Nat.le_refl _) (.cells #[.slice Bc nc dc] 22)
            have hrw : RowT v1b B0 (w.heap.size + 1 + 1 + 1) wdb.heap.size (.slice Bc nc dc) (vv) := by rw [hu]; exact RowT.lit (HR0.out.txt HVr.out) (by omega)
            have HR1 := Lib.hid (HR0.out.kept hb)
            have NE := Lib.hid HR0.out.neK
            have HVr1 := Lib.hid hrw
            go_simp
            rw [← hu]
            have Sx1 := T_ HR1.out
            refine hK.out _ _ (fun _ => Sx1) ?_
            clear hK K S0 hu hb hrw
            try go_frame
            refine anyU_ready (rs := [7]) (by kernel_rfl) (by simp) (AllU.cons (o := ⟨some 72, .buildSlice 24 1 #[(0, .tmp 71)], _, _, _, none⟩) rfl (fun K hK => ?_) (fun h => absurd h (by decide)) AllU.nil)
            rw [if_pos (by rfl)]
            obtain ⟨v2b, hu⟩ : ∃ u, u = v1b.alloc (.cells #[.slice Ac mc cc] 22) := ⟨_, rfl⟩
            have hb : Below v1b.heap.size v1b v2b := by rw [hu]; exact (Below.refl v1b.heap.size v1b).alloc (Nat.le_refl _) (.cells #[.slice Ac mc cc] 22)
            have hrw : RowT v2b B0 (w.heap.size + 1 + 1 + 1) v1b.heap.size (.slice Ac mc cc) (kk) := by rw [hu]; exact RowT.lit (HR1.out.txt HKr.out) (by omega)
            have HR2 := Lib.hid (HR1.out.kept hb)
            have HVr2 := Lib.hid (HVr1.out.kept hb (by omega))
            have HKr2 := Lib.hid hrw
            go_simp
            rw [← hu]
            have Sx2 := T_ HR2.out
            refine hK.out _ _ (fun _ => Sx2) ?_
            clear hK K Sx1 hu hb hrw
            try go_frame
            refine anyU_ready (rs := [8]) (by kernel_rfl) (by simp) (AllU.cons (o := ⟨some 73, .call { callee := .builtin .append, args := #[.tmp 66, .tmp 72], argTypes := #[24, 24] }, _, _, _, none⟩) rfl (fun K hK => ?_) (fun h => absurd h (by decide)) AllU.nil)
            rw [if_pos (by rfl)]
            obtain ⟨P1b, n1b, d1b, v3b, hrun, hr2, hg, hbb⟩ := HR2.out.appK HKr2.out (by have := putS_len (p := p) (d := th.toNat) (x := key) (xs := n.keys) k; simp; omega)
            have Hrun := Lib.hid hrun
            have HR3 := Lib.hid hr2
            have HVr3 := Lib.hid (HVr2.out.grown hg NE.out HR2.out.nm.rK.rowB (by omega))
            clear hrun hr2 hg hbb
            refine wp_run (.slice P1b n1b d1b) v3b (exec_append (t := 24) (x := .tmp 66) (y := .tmp 72) rfl rfl rfl Hrun.out) ?_
            have Sx3 := T_ HR3.out
            refine hK.out _ _ (fun _ => Sx3) ?_
            clear hK K Sx2 Hrun
            go_frame
            refine' anyU_take0 (i := 18) (oi := ⟨some 83, .fieldAddr 27 (.tmp 7) 1, _, _, _, none⟩) (v := _) rfl (by kernel_rfl) (fun _ _ _ h => h) (Or.inl ⟨by rfl, ?hy69⟩) (by assumption) ?rest69
            case hy69 => (intro w hSw; go_simp <;> with_reducible rfl)
            case rest69 =>
            go_frame
            refine anyU_ready (rs := [17]) (by kernel_rfl) (by simp) (AllU.cons (o := ⟨some 82, .call { callee := .builtin .append, args := #[.tmp 75, .tmp 81], argTypes := #[24, 24] }, _, _, _, none⟩) rfl (fun K hK => ?_) (fun h => absurd h (by decide)) AllU.nil)
            rw [if_pos (by rfl)]
            obtain ⟨P2b, n2b, d2b, v4b, hrun, hr2, hg, hbb⟩ := HR3.out.appV HVr3.out (by have := putS_len (p := p) (d := th.toNat) (x := val) (xs := n.vals) k; simp; omega)
            have Hrun := Lib.hid hrun
            have HR4 := Lib.hid hr2
            clear hrun hr2 hg hbb
            refine wp_run (.slice P2b n2b d2b) v4b (exec_append (t := 24) (x := .tmp 75) (y := .tmp 81) rfl rfl rfl Hrun.out) ?_
            have Sx4 := T_ HR4.out
            refine hK.out _ _ (fun _ => Sx4) ?_
            clear hK K Sx3 Hrun
            go_frame
            refine anyU_ready (rs := [19]) (by kernel_rfl) (by simp) (AllU.cons (o := ⟨none, .store 24 (.tmp 83) (.tmp 73), _, _, _, none⟩) rfl (fun K hK => ?_) (fun _ => by kernel_rfl) AllU.nil)
            rw [if_pos (by rfl)]
            obtain ⟨y0, y1, y2, y3, f0, f1, f2, f3⟩ := out_cells HR4.out.nm.top
            go_simp
            refine hK.out _ _ (fun h => absurd h (by decide)) ?_
            clear hK K
            try go_frame
            obtain ⟨Wa, hWa⟩ : ∃ X, X = v4b.setCell ⟨w.heap.size + 1 + 1, 1, none⟩ (.slice P1b n1b d1b) := ⟨_, rfl⟩
            have hra := HR4.out.setK
            rw [← hWa] at hra
            rw [← hWa]
            have HRa := Lib.hid hra
            clear hWa hra y0 y1 y2 y3 f0 f1 f2 f3
            refine anyU_ready (rs := [20]) (by kernel_rfl) (by simp) (AllU.cons (o := ⟨some 84, .fieldAddr 27 (.tmp 7) 2, _, _, _, none⟩) rfl (fun K hK => ?_) (fun _ => by kernel_rfl) AllU.nil)
            rw [if_pos (by rfl)]
            go_simp
            refine hK.out _ _ (fun h => absurd h (by decide)) ?_
            clear hK K
            try go_frame
            refine anyU_ready (rs := [21]) (by kernel_rfl) (by simp) (AllU.cons (o := ⟨none, .store 24 (.tmp 84) (.tmp 82), _, _, _, none⟩) rfl (fun K hK => ?_) (fun _ => by kernel_rfl) AllU.nil)
            rw [if_pos (by rfl)]
            obtain ⟨y0, y1, y2, y3, f0, f1, f2, f3⟩ := out_cells HRa.out.nm.top
            go_simp
            refine hK.out _ _ (fun h => absurd h (by decide)) ?_
            clear hK K
            try go_frame
            obtain ⟨wzb, hWb⟩ : ∃ X, X = Wa.setCell ⟨w.heap.size + 1 + 1, 2, none⟩ (.slice P2b n2b d2b) := ⟨_, rfl⟩
            have hrb := HRa.out.setV
            rw [← hWb] at hrb
            rw [← hWb]
            have HRbb := Lib.hid hrb
            clear hWb hrb y0 y1 y2 y3 f0 f1 f2 f3 HRa Sx4
            refine anyU_done (by kernel_rfl) ?_ _
            go_wp2_with fail
            go_roundw
            case rel =>
              refine ⟨k + 1, true, P1b, P2b, n1b, d1b, n2b, d2b, by omega, by go_num, rfl, Lib.hid (HD.out), Lib.hid ?_⟩
              rw [putS_other HP.out (by rw [HLk.out.1]; exact hka), putS_other HP.out (by rw [HLk.out.2]; exact hka), ← HKk.out, ← HVv.out]
              exact HRbb.out
            case measure => simp [intOf];  omega
      · have hak : a = k := by omega
        subst hak
        by_cases hap : a = p
        · have hq : q = false := by rw [HQ.out]; simp; omega
          subst hq
          have HP := Lib.hid hap
          have HD := Lib.hid (show true = decide (p < a + 1) by simp; omega)
          clear hap HQ hka
          go_wp2_with fail
          have T_ : ∀ {W : World} {uK uV : Value} {lk lv : List (List UInt8)}, RpW w B0 W (.slice A1 a c1) (.slice A2 a c2) (.slice A3 d c3) (.slice T1 t1 e1) (.slice T2 t2 e2) uK uV lk lv → (fun w' => w'.cell? ⟨w.heap.size + 1 + 1, 1, none⟩ = some (.slice T1 t1 e1) ∧ w'.cell? ⟨w.heap.size + 1 + 1, 2, none⟩ = some (.slice T2 t2 e2)) W := fun {W uK uV lk lv} hT => by
            exact ⟨hT.nm.c1, hT.nm.c2⟩
          obtain ⟨wd, hwd⟩ : ∃ x, x = wr.drew := ⟨_, rfl⟩
          have HS_wd : Hid (RpW w B0 wd (.slice A1 a c1) (.slice A2 a c2) (.slice A3 d c3) (.slice T1 t1 e1) (.slice T2 t2 e2) (.slice T1 t1 e1) (.slice T2 t2 e2) (putS p th.toNat key n.keys a) (putS p th.toNat val n.vals a)) := Lib.hid (by rw [hwd]; exact HR.out.kept (Below.refl _ _).drew)
          have Zwd := Lib.hid (show wd.heap.size = wr.heap.size by rw [hwd]; rfl)
          have S0 : (fun w' => w'.cell? ⟨w.heap.size + 1 + 1, 1, none⟩ = some (.slice T1 t1 e1) ∧ w'.cell? ⟨w.heap.size + 1 + 1, 2, none⟩ = some (.slice T2 t2 e2)) wd := T_ HS_wd.out
          have HR0 := Lib.hid HS_wd.out
          refine wp_region_late (S := fun w' => w'.cell? ⟨w.heap.size + 1 + 1, 1, none⟩ = some (.slice T1 t1 e1) ∧ w'.cell? ⟨w.heap.size + 1 + 1, 2, none⟩ = some (.slice T2 t2 e2)) [11, 12, 13, 14] (by kernel_rfl) (by rw [← hwd]; exact S0) (fun hHeld => ?_)
          rw [← hwd]
          clear hwd
          refine' anyU_take0 (i := 0) (oi := ⟨some 37, .fieldAddr 27 (.tmp 7) 1, _, _, _, none⟩) (v := _) rfl (by kernel_rfl) (fun _ _ _ h => h) (Or.inl ⟨by rfl, ?hy86⟩) (by assumption) ?rest86
          case hy86 => (intro w hSw; go_simp <;> with_reducible rfl)
          case rest86 =>
          go_frame
          refine' anyU_take (i := 1) (oi := ⟨some 38, .load 24 (.tmp 37), _, _, _, none⟩) (v := _) rfl (by kernel_rfl) (fun _ _ _ h => h) (Or.inl ⟨by rfl, ?hy87⟩) (by assumption) ?rest87
          case hy87 => (intro w hSw; obtain ⟨s0, s1⟩ := hSw; go_simp <;> with_reducible rfl)
          case rest87 =>
          go_frame
          refine' anyU_take0 (i := 2) (oi := ⟨some 39, .move (.tmp 1), _, _, _, none⟩) (v := _) rfl (by kernel_rfl) (fun _ _ _ h => h) (Or.inl ⟨by rfl, ?hy88⟩) (by assumption) ?rest88
          case hy88 => (intro w hSw; go_simp <;> with_reducible rfl)
          case rest88 =>
          go_frame
          refine' anyU_take0 (i := 5) (oi := ⟨some 42, .fieldAddr 27 (.tmp 7) 2, _, _, _, none⟩) (v := _) rfl (by kernel_rfl) (fun _ _ _ h => h) (Or.inl ⟨by rfl, ?hy89⟩) (by assumption) ?rest89
          case hy89 => (intro w hSw; go_simp <;> with_reducible rfl)
          case rest89 =>
          go_frame
          refine' anyU_take (i := 6) (oi := ⟨some 43, .load 24 (.tmp 42), _, _, _, none⟩) (v := _) rfl (by kernel_rfl) (fun _ _ _ h => h) (Or.inl ⟨by rfl, ?hy90⟩) (by assumption) ?rest90
          case hy90 => (intro w hSw; obtain ⟨s0, s1⟩ := hSw; go_simp <;> with_reducible rfl)
          case rest90 =>
          go_frame
          refine' anyU_take0 (i := 7) (oi := ⟨some 44, .move (.tmp 2), _, _, _, none⟩) (v := _) rfl (by kernel_rfl) (fun _ _ _ h => h) (Or.inl ⟨by rfl, ?hy91⟩) (by assumption) ?rest91
          case hy91 => (intro w hSw; go_simp <;> with_reducible rfl)
          case rest91 =>
          go_frame
          refine anyU_ready (rs := [3, 8]) (by kernel_rfl) (by simp) (AllU.cons (o := ⟨some 40, .buildSlice 24 1 #[(0, .tmp 39)], _, _, _, none⟩) rfl (fun K hK => ?_) (fun h => absurd h (by decide)) (AllU.cons (o := ⟨some 45, .buildSlice 24 1 #[(0, .tmp 44)], _, _, _, none⟩) rfl (fun K hK => ?_) (fun h => absurd h (by decide)) AllU.nil))
          · rw [if_pos (by rfl)]
            obtain ⟨v1, hu⟩ : ∃ u, u = wd.alloc (.cells #[.slice Ak kl ck] 22) := ⟨_, rfl⟩
            have hb : Below wd.heap.size wd v1 := by rw [hu]; exact (Below.refl wd.heap.size wd).alloc (Nat.le_refl _) (.cells #[.slice Ak kl ck] 22)
            have hrw : RowT v1 B0 (w.heap.size + 1 + 1 + 1) wd.heap.size (.slice Ak kl ck) (key) := by rw [hu]; exact RowT.lit (HR0.out.txt HK.out) (by omega)
            have HR1 := Lib.hid (HR0.out.kept hb)
            have HKr1 := Lib.hid hrw
            go_simp
            rw [← hu]
            have Sx1 := T_ HR1.out
            refine hK.out _ _ (fun _ => Sx1) ?_
            clear hK K S0 hu hb hrw
            try go_frame
            refine anyU_ready (rs := [4, 8]) (by kernel_rfl) (by simp) (AllU.cons (o := ⟨some 41, .call { callee := .builtin .append, args := #[.tmp 38, .tmp 40], argTypes := #[24, 24] }, _, _, _, none⟩) rfl (fun K hK => ?_) (fun h => absurd h (by decide)) (AllU.cons (o := ⟨some 45, .buildSlice 24 1 #[(0, .tmp 44)], _, _, _, none⟩) rfl (fun K hK => ?_) (fun h => absurd h (by decide)) AllU.nil))
            · rw [if_pos (by rfl)]
              obtain ⟨P1, n1, d1, v2, hrun, hr2, hg, hbb⟩ := HR1.out.appK HKr1.out (by have := putS_len (p := p) (d := th.toNat) (x := key) (xs := n.keys) a; simp; omega)
              have Hrun := Lib.hid hrun
              have HR2 := Lib.hid hr2
              clear hrun hr2 hg hbb
              refine wp_run (.slice P1 n1 d1) v2 (exec_append (t := 24) (x := .tmp 38) (y := .tmp 40) rfl rfl rfl Hrun.out) ?_
              have Sx2 := T_ HR2.out
              refine hK.out _ _ (fun _ => Sx2) ?_
              clear hK K Sx1 Hrun
              go_frame
              refine' anyU_take0 (i := 10) (oi := ⟨some 47, .fieldAddr 27 (.tmp 7) 1, _, _, _, none⟩) (v := _) rfl (by kernel_rfl) (fun _ _ _ h => h) (Or.inl ⟨by rfl, ?hy92⟩) (by assumption) ?rest92
              case hy92 => (intro w hSw; go_simp <;> with_reducible rfl)
              case rest92 =>
              go_frame
              refine anyU_ready (rs := [8]) (by kernel_rfl) (by simp) (AllU.cons (o := ⟨some 45, .buildSlice 24 1 #[(0, .tmp 44)], _, _, _, none⟩) rfl (fun K hK => ?_) (fun h => absurd h (by decide)) AllU.nil)
              rw [if_pos (by rfl)]
              obtain ⟨v3, hu⟩ : ∃ u, u = v2.alloc (.cells #[.slice Av vl cv] 22) := ⟨_, rfl⟩
              have hb : Below v2.heap.size v2 v3 := by rw [hu]; exact (Below.refl v2.heap.size v2).alloc (Nat.le_refl _) (.cells #[.slice Av vl cv] 22)
              have hrw : RowT v3 B0 (w.heap.size + 1 + 1 + 1) v2.heap.size (.slice Av vl cv) (val) := by rw [hu]; exact RowT.lit (HR2.out.txt HV.out) (by omega)
              have HR3 := Lib.hid (HR2.out.kept hb)
              have HVr3 := Lib.hid hrw
              go_simp
              rw [← hu]
              have Sx3 := T_ HR3.out
              refine hK.out _ _ (fun _ => Sx3) ?_
              clear hK K Sx2 hu hb hrw
              try go_frame
              refine anyU_ready (rs := [9]) (by kernel_rfl) (by simp) (AllU.cons (o := ⟨some 46, .call { callee := .builtin .append, args := #[.tmp 43, .tmp 45], argTypes := #[24, 24] }, _, _, _, none⟩) rfl (fun K hK => ?_) (fun h => absurd h (by decide)) AllU.nil)
              rw [if_pos (by rfl)]
              obtain ⟨P2, n2, d2, v4, hrun, hr2, hg, hbb⟩ := HR3.out.appV HVr3.out (by have := putS_len (p := p) (d := th.toNat) (x := val) (xs := n.vals) a; simp; omega)
              have Hrun := Lib.hid hrun
              have HR4 := Lib.hid hr2
              clear hrun hr2 hg hbb
              refine wp_run (.slice P2 n2 d2) v4 (exec_append (t := 24) (x := .tmp 43) (y := .tmp 45) rfl rfl rfl Hrun.out) ?_
              have Sx4 := T_ HR4.out
              refine hK.out _ _ (fun _ => Sx4) ?_
              clear hK K Sx3 Hrun
              go_frame
              refine anyU_ready (rs := [11]) (by kernel_rfl) (by simp) (AllU.cons (o := ⟨none, .store 24 (.tmp 47) (.tmp 41), _, _, _, none⟩) rfl (fun K hK => ?_) (fun _ => by kernel_rfl) AllU.nil)
              rw [if_pos (by rfl)]
              obtain ⟨y0, y1, y2, y3, f0, f1, f2, f3⟩ := out_cells HR4.out.nm.top
              go_simp
              refine hK.out _ _ (fun h => absurd h (by decide)) ?_
              clear hK K
              try go_frame
              obtain ⟨Wa, hWa⟩ : ∃ X, X = v4.setCell ⟨w.heap.size + 1 + 1, 1, none⟩ (.slice P1 n1 d1) := ⟨_, rfl⟩
              have hra := HR4.out.setK
              rw [← hWa] at hra
              rw [← hWa]
              have HRa := Lib.hid hra
              clear hWa hra y0 y1 y2 y3 f0 f1 f2 f3
              refine anyU_ready (rs := [12]) (by kernel_rfl) (by simp) (AllU.cons (o := ⟨some 48, .fieldAddr 27 (.tmp 7) 2, _, _, _, none⟩) rfl (fun K hK => ?_) (fun _ => by kernel_rfl) AllU.nil)
              rw [if_pos (by rfl)]
              go_simp
              refine hK.out _ _ (fun h => absurd h (by decide)) ?_
              clear hK K
              try go_frame
              refine anyU_ready (rs := [13]) (by kernel_rfl) (by simp) (AllU.cons (o := ⟨none, .store 24 (.tmp 48) (.tmp 46), _, _, _, none⟩) rfl (fun K hK => ?_) (fun _ => by kernel_rfl) AllU.nil)
              rw [if_pos (by rfl)]
              obtain ⟨y0, y1, y2, y3, f0, f1, f2, f3⟩ := out_cells HRa.out.nm.top
              go_simp
              refine hK.out _ _ (fun h => absurd h (by decide)) ?_
              clear hK K
              try go_frame
              obtain ⟨wz, hWb⟩ : ∃ X, X = Wa.setCell ⟨w.heap.size + 1 + 1, 2, none⟩ (.slice P2 n2 d2) := ⟨_, rfl⟩
              have hrb := HRa.out.setV
              rw [← hWb] at hrb
              rw [← hWb]
              have HRb := Lib.hid hrb
              clear hWb hrb y0 y1 y2 y3 f0 f1 f2 f3 HRa Sx4
              refine anyU_ready (rs := [14]) (by kernel_rfl) (by simp) (AllU.cons (o := ⟨some 8, .assign (.const (.bool true)), _, _, _, none⟩) rfl (fun K hK => ?_) (fun _ => by kernel_rfl) AllU.nil)
              rw [if_pos (by rfl)]
              go_simp
              refine hK.out _ _ (fun h => absurd h (by decide)) ?_
              clear hK K
              try go_frame
              refine anyU_done (by kernel_rfl) ?_ _
              obtain ⟨x0, x1, x2, x3⟩ := HRb.out.box
              have S7_ := HRb.out.box.c1
              have k9 : ¬ ((a : Int) < (a : Int)) := by omega
              go_wp2_with fail
              refine wp_region_held_drew (S := fun w' => w'.cell? ⟨w.heap.size, 1, none⟩ = some (.slice A1 a c1)) (by kernel_rfl) S7_ (fun hHeld => ?_)
              refine' wpAnyH_take (i := 0) (oi := ⟨some 49, .move (.tmp 9), _, _, _, none⟩) (v := _) rfl (by kernel_rfl) (by kernel_rfl) (by kernel_rfl) (fun _ _ _ h => h) (Or.inl ⟨by rfl, ?hy70⟩) (by assumption) ?rest70
              case hy70 => (intro w hSw; obtain s0 := hSw; go_simp <;> with_reducible rfl)
              case rest70 =>
              go_frame
              refine' wpAnyH_take (i := 1) (oi := ⟨some 50, .fieldAddr 27 (.tmp 3) 1, _, _, _, none⟩) (v := _) rfl (by kernel_rfl) (by kernel_rfl) (by kernel_rfl) (fun _ _ _ h => h) (Or.inl ⟨by rfl, ?hy71⟩) (by assumption) ?rest71
              case hy71 => (intro w hSw; obtain s0 := hSw; go_simp <;> with_reducible rfl)
              case rest71 =>
              go_frame
              refine' wpAnyH_take (i := 2) (oi := ⟨some 51, .load 24 (.tmp 50), _, _, _, none⟩) (v := _) rfl (by kernel_rfl) (by kernel_rfl) (by kernel_rfl) (fun _ _ _ h => h) (Or.inl ⟨by rfl, ?hy72⟩) (by assumption) ?rest72
              case hy72 => (intro w hSw; obtain s0 := hSw; go_simp <;> with_reducible rfl)
              case rest72 =>
              go_frame
              refine' wpAnyH_take (i := 3) (oi := ⟨some 52, .call { callee := .builtin .len, args := #[.tmp 51], argTypes := #[24] }, _, _, _, none⟩) (v := _) rfl (by kernel_rfl) (by kernel_rfl) (by kernel_rfl) (fun _ _ _ h => h) (Or.inl ⟨by rfl, ?hy73⟩) (by assumption) ?rest73
              case hy73 => (intro w hSw; obtain s0 := hSw; go_simp <;> with_reducible rfl)
              case rest73 =>
              go_frame
              refine' wpAnyH_take (i := 4) (oi := ⟨some 53, .binOp .lss 3 (.tmp 49) (.tmp 52) 3, _, _, _, none⟩) (v := _) rfl (by kernel_rfl) (by kernel_rfl) (by kernel_rfl) (fun _ _ _ h => h) (Or.inl ⟨by rfl, ?hy74⟩) (by assumption) ?rest74
              case hy74 => (intro w hSw; obtain s0 := hSw; go_simp <;> with_reducible rfl)
              case rest74 =>
              go_frame
              refine' wpAnyH_take (i := 5) (oi := ⟨some 54, .move (.tmp 53), _, _, _, none⟩) (v := _) rfl (by kernel_rfl) (by kernel_rfl) (by kernel_rfl) (fun _ _ _ h => h) (Or.inl ⟨by rfl, ?hy75⟩) (by assumption) ?rest75
              case hy75 => (intro w hSw; obtain s0 := hSw; go_simp <;> with_reducible rfl)
              case rest75 =>
              go_frame
              refine' wpAnyH_take (i := 6) (oi := ⟨some 55, .fieldAddr 27 (.tmp 3) 1, _, _, _, some (5, true)⟩) (v := undef) rfl (by kernel_rfl) (by kernel_rfl) (by kernel_rfl) (fun _ _ _ h => h) (Or.inr ⟨by rfl, rfl⟩) (by assumption) ?rest76
              case rest76 =>
              go_frame
              refine' wpAnyH_take (i := 7) (oi := ⟨some 56, .load 24 (.tmp 55), _, _, _, some (5, true)⟩) (v := undef) rfl (by kernel_rfl) (by kernel_rfl) (by kernel_rfl) (fun _ _ _ h => h) (Or.inr ⟨by rfl, rfl⟩) (by assumption) ?rest77
              case rest77 =>
              go_frame
              refine' wpAnyH_take (i := 8) (oi := ⟨some 57, .move (.tmp 9), _, _, _, some (5, true)⟩) (v := undef) rfl (by kernel_rfl) (by kernel_rfl) (by kernel_rfl) (fun _ _ _ h => h) (Or.inr ⟨by rfl, rfl⟩) (by assumption) ?rest78
              case rest78 =>
              go_frame
              refine' wpAnyH_take (i := 9) (oi := ⟨some 58, .indexAddr 24 (.tmp 56) (.tmp 57), _, _, _, some (5, true)⟩) (v := undef) rfl (by kernel_rfl) (by kernel_rfl) (by kernel_rfl) (fun _ _ _ h => h) (Or.inr ⟨by rfl, rfl⟩) (by assumption) ?rest79
              case rest79 =>
              go_frame
              refine' wpAnyH_take (i := 10) (oi := ⟨some 59, .load 22 (.tmp 58), _, _, _, some (5, true)⟩) (v := undef) rfl (by kernel_rfl) (by kernel_rfl) (by kernel_rfl) (fun _ _ _ h => h) (Or.inr ⟨by rfl, rfl⟩) (by assumption) ?rest80
              case rest80 =>
              go_frame
              refine' wpAnyH_take (i := 11) (oi := ⟨some 60, .convert 22 9 (.tmp 59), _, _, _, some (5, true)⟩) (v := undef) rfl (by kernel_rfl) (by kernel_rfl) (by kernel_rfl) (fun _ _ _ h => h) (Or.inr ⟨by rfl, rfl⟩) (by assumption) ?rest81
              case rest81 =>
              go_frame
              refine' wpAnyH_take (i := 12) (oi := ⟨some 61, .move (.tmp 1), _, _, _, some (5, true)⟩) (v := undef) rfl (by kernel_rfl) (by kernel_rfl) (by kernel_rfl) (fun _ _ _ h => h) (Or.inr ⟨by rfl, rfl⟩) (by assumption) ?rest82
              case rest82 =>
              go_frame
              refine' wpAnyH_take (i := 13) (oi := ⟨some 62, .convert 22 9 (.tmp 61), _, _, _, some (5, true)⟩) (v := undef) rfl (by kernel_rfl) (by kernel_rfl) (by kernel_rfl) (fun _ _ _ h => h) (Or.inr ⟨by rfl, rfl⟩) (by assumption) ?rest83
              case rest83 =>
              go_frame
              refine' wpAnyH_take (i := 14) (oi := ⟨some 63, .binOp .neq 9 (.tmp 60) (.tmp 62) 9, _, _, _, some (5, true)⟩) (v := undef) rfl (by kernel_rfl) (by kernel_rfl) (by kernel_rfl) (fun _ _ _ h => h) (Or.inr ⟨by rfl, rfl⟩) (by assumption) ?rest84
              case rest84 =>
              go_frame
              refine' wpAnyH_take (i := 15) (oi := ⟨some 64, .pick (.tmp 54) (.tmp 63) (.const (.bool false)), _, _, _, none⟩) (v := _) rfl (by kernel_rfl) (by kernel_rfl) (by kernel_rfl) (fun _ _ _ h => h) (Or.inl ⟨by rfl, ?hy85⟩) (by assumption) ?rest85
              case hy85 => (intro w hSw; obtain s0 := hSw; go_simp <;> with_reducible rfl)
              case rest85 =>
              go_frame
              refine wpAnyH_done (by kernel_rfl) ?_ _
              have HR7 := Lib.hid (HRb.out.kept (Below.refl _ _).drew)
              clear S7_ hHeld k9
              go_wp2_with fail
              go_roundw
              case rel =>
                refine ⟨a + 1, true, P1, P2, n1, d1, n2, d2, by omega, by go_num, rfl, Lib.hid (HD.out), Lib.hid ?_⟩
                rw [show putS p th.toNat key n.keys (a + 1) = putS p th.toNat key n.keys a ++ [key] by rw [HP.out]; exact putS_only (fun g => by have := HLk.out.1; have := HP.out; omega), show putS p th.toNat val n.vals (a + 1) = putS p th.toNat val n.vals a ++ [val] by rw [HP.out]; exact putS_only (fun g => by have := HLk.out.2; have := HP.out; omega)]
                exact HR7.out
              case measure => simp [intOf] <;> omega
            · rw [if_pos (by rfl)]
              obtain ⟨v2, hu⟩ : ∃ u, u = v1.alloc (.cells #[.slice Av vl cv] 22) := ⟨_, rfl⟩
              have hb : Below v1.heap.size v1 v2 := by rw [hu]; exact (Below.refl v1.heap.size v1).alloc (Nat.le_refl _) (.cells #[.slice Av vl cv] 22)
              have hrw : RowT v2 B0 (w.heap.size + 1 + 1 + 1) v1.heap.size (.slice Av vl cv) (val) := by rw [hu]; exact RowT.lit (HR1.out.txt HV.out) (by omega)
              have HR2 := Lib.hid (HR1.out.kept hb)
              have NE := Lib.hid HR1.out.neK
              have HKr2 := Lib.hid (HKr1.out.kept hb (by omega))
              have HVr2 := Lib.hid hrw
              go_simp
              rw [← hu]
              have Sx2 := T_ HR2.out
              refine hK.out _ _ (fun _ => Sx2) ?_
              clear hK K Sx1 hu hb hrw
              try go_frame
              refine anyU_ready (rs := [4]) (by kernel_rfl) (by simp) (AllU.cons (o := ⟨some 41, .call { callee := .builtin .append, args := #[.tmp 38, .tmp 40], argTypes := #[24, 24] }, _, _, _, none⟩) rfl (fun K hK => ?_) (fun h => absurd h (by decide)) AllU.nil)
              rw [if_pos (by rfl)]
              obtain ⟨P1, n1, d1, v3, hrun, hr2, hg, hbb⟩ := HR2.out.appK HKr2.out (by have := putS_len (p := p) (d := th.toNat) (x := key) (xs := n.keys) a; simp; omega)
              have Hrun := Lib.hid hrun
              have HR3 := Lib.hid hr2
              have HVr3 := Lib.hid (HVr2.out.grown hg NE.out HR2.out.nm.rK.rowB (by omega))
              clear hrun hr2 hg hbb
              refine wp_run (.slice P1 n1 d1) v3 (exec_append (t := 24) (x := .tmp 38) (y := .tmp 40) rfl rfl rfl Hrun.out) ?_
              have Sx3 := T_ HR3.out
              refine hK.out _ _ (fun _ => Sx3) ?_
              clear hK K Sx2 Hrun
              go_frame
              refine' anyU_take0 (i := 10) (oi := ⟨some 47, .fieldAddr 27 (.tmp 7) 1, _, _, _, none⟩) (v := _) rfl (by kernel_rfl) (fun _ _ _ h => h) (Or.inl ⟨by rfl, ?hy93⟩) (by assumption) ?rest93
              case hy93 => (intro w hSw; go_simp <;> with_reducible rfl)
              case rest93 =>
              go_frame
              refine anyU_ready (rs := [9]) (by kernel_rfl) (by simp) (AllU.cons (o := ⟨some 46, .call { callee := .builtin .append, args := #[.tmp 43, .tmp 45], argTypes := #[24, 24] }, _, _, _, none⟩) rfl (fun K hK => ?_) (fun h => absurd h (by decide)) AllU.nil)
              rw [if_pos (by rfl)]
              obtain ⟨P2, n2, d2, v4, hrun, hr2, hg, hbb⟩ := HR3.out.appV HVr3.out (by have := putS_len (p := p) (d := th.toNat) (x := val) (xs := n.vals) a; simp; omega)
              have Hrun := Lib.hid hrun
              have HR4 := Lib.hid hr2
              clear hrun hr2 hg hbb
              refine wp_run (.slice P2 n2 d2) v4 (exec_append (t := 24) (x := .tmp 43) (y := .tmp 45) rfl rfl rfl Hrun.out) ?_
              have Sx4 := T_ HR4.out
              refine hK.out _ _ (fun _ => Sx4) ?_
              clear hK K Sx3 Hrun
              go_frame
              refine anyU_ready (rs := [11]) (by kernel_rfl) (by simp) (AllU.cons (o := ⟨none, .store 24 (.tmp 47) (.tmp 41), _, _, _, none⟩) rfl (fun K hK => ?_) (fun _ => by kernel_rfl) AllU.nil)
              rw [if_pos (by rfl)]
              obtain ⟨y0, y1, y2, y3, f0, f1, f2, f3⟩ := out_cells HR4.out.nm.top
              go_simp
              refine hK.out _ _ (fun h => absurd h (by decide)) ?_
              clear hK K
              try go_frame
              obtain ⟨Wa, hWa⟩ : ∃ X, X = v4.setCell ⟨w.heap.size + 1 + 1, 1, none⟩ (.slice P1 n1 d1) := ⟨_, rfl⟩
              have hra := HR4.out.setK
              rw [← hWa] at hra
              rw [← hWa]
              have HRa := Lib.hid hra
              clear hWa hra y0 y1 y2 y3 f0 f1 f2 f3
              refine anyU_ready (rs := [12]) (by kernel_rfl) (by simp) (AllU.cons (o := ⟨some 48, .fieldAddr 27 (.tmp 7) 2, _, _, _, none⟩) rfl (fun K hK => ?_) (fun _ => by kernel_rfl) AllU.nil)
              rw [if_pos (by rfl)]
              go_simp
              refine hK.out _ _ (fun h => absurd h (by decide)) ?_
              clear hK K
              try go_frame
              refine anyU_ready (rs := [13]) (by kernel_rfl) (by simp) (AllU.cons (o := ⟨none, .store 24 (.tmp 48) (.tmp 46), _, _, _, none⟩) rfl (fun K hK => ?_) (fun _ => by kernel_rfl) AllU.nil)
              rw [if_pos (by rfl)]
              obtain ⟨y0, y1, y2, y3, f0, f1, f2, f3⟩ := out_cells HRa.out.nm.top
              go_simp
              refine hK.out _ _ (fun h => absurd h (by decide)) ?_
              clear hK K
              try go_frame
              obtain ⟨wz, hWb⟩ : ∃ X, X = Wa.setCell ⟨w.heap.size + 1 + 1, 2, none⟩ (.slice P2 n2 d2) := ⟨_, rfl⟩
              have hrb := HRa.out.setV
              rw [← hWb] at hrb
              rw [← hWb]
              have HRb := Lib.hid hrb
              clear hWb hrb y0 y1 y2 y3 f0 f1 f2 f3 HRa Sx4
              refine anyU_ready (rs := [14]) (by kernel_rfl) (by simp) (AllU.cons (o := ⟨some 8, .assign (.const (.bool true)), _, _, _, none⟩) rfl (fun K hK => ?_) (fun _ => by kernel_rfl) AllU.nil)
              rw [if_pos (by rfl)]
              go_simp
              refine hK.out _ _ (fun h => absurd h (by decide)) ?_
              clear hK K
              try go_frame
              refine anyU_done (by kernel_rfl) ?_ _
              obtain ⟨x0, x1, x2, x3⟩ := HRb.out.box
              have S7_ := HRb.out.box.c1
              have k9 : ¬ ((a : Int) < (a : Int)) := by omega
              go_wp2_with fail
              refine wp_region_held_drew (S := fun w' => w'.cell? ⟨w.heap.size, 1, none⟩ = some (.slice A1 a c1)) (by kernel_rfl) S7_ (fun hHeld => ?_)
              refine' wpAnyH_take (i := 0) (oi := ⟨some 49, .move (.tmp 9), _, _, _, none⟩) (v := _) rfl (by kernel_rfl) (by kernel_rfl) (by kernel_rfl) (fun _ _ _ h => h) (Or.inl ⟨by rfl, ?hy70⟩) (by assumption) ?rest70
              case hy70 => (intro w hSw; obtain s0 := hSw; go_simp <;> with_reducible rfl)
              case rest70 =>
              go_frame
              refine' wpAnyH_take (i := 1) (oi := ⟨some 50, .fieldAddr 27 (.tmp 3) 1, _, _, _, none⟩) (v := _) rfl (by kernel_rfl) (by kernel_rfl) (by kernel_rfl) (fun _ _ _ h => h) (Or.inl ⟨by rfl, ?hy71⟩) (by assumption) ?rest71
              case hy71 => (intro w hSw; obtain s0 := hSw; go_simp <;> with_reducible rfl)
              case rest71 =>
              go_frame
              refine' wpAnyH_take (i := 2) (oi := ⟨some 51, .load 24 (.tmp 50), _, _, _, none⟩) (v := _) rfl (by kernel_rfl) (by kernel_rfl) (by kernel_rfl) (fun _ _ _ h => h) (Or.inl ⟨by rfl, ?hy72⟩) (by assumption) ?rest72
              case hy72 => (intro w hSw; obtain s0 := hSw; go_simp <;> with_reducible rfl)
              case rest72 =>
              go_frame
              refine' wpAnyH_take (i := 3) (oi := ⟨some 52, .call { callee := .builtin .len, args := #[.tmp 51], argTypes := #[24] }, _, _, _, none⟩) (v := _) rfl (by kernel_rfl) (by kernel_rfl) (by kernel_rfl) (fun _ _ _ h => h) (Or.inl ⟨by rfl, ?hy73⟩) (by assumption) ?rest73
              case hy73 => (intro w hSw; obtain s0 := hSw; go_simp <;> with_reducible rfl)
              case rest73 =>
              go_frame
              refine' wpAnyH_take (i := 4) (oi := ⟨some 53, .binOp .lss 3 (.tmp 49) (.tmp 52) 3, _, _, _, none⟩) (v := _) rfl (by kernel_rfl) (by kernel_rfl) (by kernel_rfl) (fun _ _ _ h => h) (Or.inl ⟨by rfl, ?hy74⟩) (by assumption) ?rest74
              case hy74 => (intro w hSw; obtain s0 := hSw; go_simp <;> with_reducible rfl)
              case rest74 =>
              go_frame
              refine' wpAnyH_take (i := 5) (oi := ⟨some 54, .move (.tmp 53), _, _, _, none⟩) (v := _) rfl (by kernel_rfl) (by kernel_rfl) (by kernel_rfl) (fun _ _ _ h => h) (Or.inl ⟨by rfl, ?hy75⟩) (by assumption) ?rest75
              case hy75 => (intro w hSw; obtain s0 := hSw; go_simp <;> with_reducible rfl)
              case rest75 =>
              go_frame
              refine' wpAnyH_take (i := 6) (oi := ⟨some 55, .fieldAddr 27 (.tmp 3) 1, _, _, _, some (5, true)⟩) (v := undef) rfl (by kernel_rfl) (by kernel_rfl) (by kernel_rfl) (fun _ _ _ h => h) (Or.inr ⟨by rfl, rfl⟩) (by assumption) ?rest76
              case rest76 =>
              go_frame
              refine' wpAnyH_take (i := 7) (oi := ⟨some 56, .load 24 (.tmp 55), _, _, _, some (5, true)⟩) (v := undef) rfl (by kernel_rfl) (by kernel_rfl) (by kernel_rfl) (fun _ _ _ h => h) (Or.inr ⟨by rfl, rfl⟩) (by assumption) ?rest77
              case rest77 =>
              go_frame
              refine' wpAnyH_take (i := 8) (oi := ⟨some 57, .move (.tmp 9), _, _, _, some (5, true)⟩) (v := undef) rfl (by kernel_rfl) (by kernel_rfl) (by kernel_rfl) (fun _ _ _ h => h) (Or.inr ⟨by rfl, rfl⟩) (by assumption) ?rest78
              case rest78 =>
              go_frame
              refine' wpAnyH_take (i := 9) (oi := ⟨some 58, .indexAddr 24 (.tmp 56) (.tmp 57), _, _, _, some (5, true)⟩) (v := undef) rfl (by kernel_rfl) (by kernel_rfl) (by kernel_rfl) (fun _ _ _ h => h) (Or.inr ⟨by rfl, rfl⟩) (by assumption) ?rest79
              case rest79 =>
              go_frame
              refine' wpAnyH_take (i := 10) (oi := ⟨some 59, .load 22 (.tmp 58), _, _, _, some (5, true)⟩) (v := undef) rfl (by kernel_rfl) (by kernel_rfl) (by kernel_rfl) (fun _ _ _ h => h) (Or.inr ⟨by rfl, rfl⟩) (by assumption) ?rest80
              case rest80 =>
              go_frame
              refine' wpAnyH_take (i := 11) (oi := ⟨some 60, .convert 22 9 (.tmp 59), _, _, _, some (5, true)⟩) (v := undef) rfl (by kernel_rfl) (by kernel_rfl) (by kernel_rfl) (fun _ _ _ h => h) (Or.inr ⟨by rfl, rfl⟩) (by assumption) ?rest81
              case rest81 =>
              go_frame
              refine' wpAnyH_take (i := 12) (oi := ⟨some 61, .move (.tmp 1), _, _, _, some (5, true)⟩) (v := undef) rfl (by kernel_rfl) (by kernel_rfl) (by kernel_rfl) (fun _ _ _ h => h) (Or.inr ⟨by rfl, rfl⟩) (by assumption) ?rest82
              case rest82 =>
              go_frame
              refine' wpAnyH_take (i := 13) (oi := ⟨some 62, .convert 22 9 (.tmp 61), _, _, _, some (5, true)⟩) (v := undef) rfl (by kernel_rfl) (by kernel_rfl) (by kernel_rfl) (fun _ _ _ h => h) (Or.inr ⟨by rfl, rfl⟩) (by assumption) ?rest83
              case rest83 =>
              go_frame
              refine' wpAnyH_take (i := 14) (oi := ⟨some 63, .binOp .neq 9 (.tmp 60) (.tmp 62) 9, _, _, _, some (5, true)⟩) (v := undef) rfl (by kernel_rfl) (by kernel_rfl) (by kernel_rfl) (fun _ _ _ h => h) (Or.inr ⟨by rfl, rfl⟩) (by assumption) ?rest84
              case rest84 =>
              go_frame
              refine' wpAnyH_take (i := 15) (oi := ⟨some 64, .pick (.tmp 54) (.tmp 63) (.const (.bool false)), _, _, _, none⟩) (v := _) rfl (by kernel_rfl) (by kernel_rfl) (by kernel_rfl) (fun _ _ _ h => h) (Or.inl ⟨by rfl, ?hy85⟩) (by assumption) ?rest85
              case hy85 => (intro w hSw; obtain s0 := hSw; go_simp <;> with_reducible rfl)
              case rest85 =>
              go_frame
              refine wpAnyH_done (by kernel_rfl) ?_ _
              have HR7 := Lib.hid (HRb.out.kept (Below.refl _ _).drew)
              clear S7_ hHeld k9
              go_wp2_with fail
              go_roundw
              case rel =>
                refine ⟨a + 1, true, P1, P2, n1, d1, n2, d2, by omega, by go_num, rfl, Lib.hid (HD.out), Lib.hid ?_⟩
                rw [show putS p th.toNat key n.keys (a + 1) = putS p th.toNat key n.keys a ++ [key] by rw [HP.out]; exact putS_only (fun g => by have := HLk.out.1; have := HP.out; omega), show putS p th.toNat val n.vals (a + 1) = putS p th.toNat val n.vals a ++ [val] by rw [HP.out]; exact putS_only (fun g => by have := HLk.out.2; have := HP.out; omega)]
                exact HR7.out
              case measure => simp [intOf] <;> omega
          · rw [if_pos (by rfl)]
            obtain ⟨v1, hu⟩ : ∃ u, u = wd.alloc (.cells #[.slice Av vl cv] 22) := ⟨_, rfl⟩
            have hb : Below wd.heap.size wd v1 := by rw [hu]; exact (Below.refl wd.heap.size wd).alloc (Nat.le_refl _) (.cells #[.slice Av vl cv] 22)
            have hrw : RowT v1 B0 (w.heap.size + 1 + 1 + 1) wd.heap.size (.slice Av vl cv) (val) := by rw [hu]; exact RowT.lit (HR0.out.txt HV.out) (by omega)
            have HR1 := Lib.hid (HR0.out.kept hb)
            have NE := Lib.hid HR0.out.neK
            have HVr1 := Lib.hid hrw
            go_simp
            rw [← hu]
            have Sx1 := T_ HR1.out
            refine hK.out _ _ (fun _ => Sx1) ?_
            clear hK K S0 hu hb hrw
            try go_frame
            refine anyU_ready (rs := [3]) (by kernel_rfl) (by simp) (AllU.cons (o := ⟨some 40, .buildSlice 24 1 #[(0, .tmp 39)], _, _, _, none⟩) rfl (fun K hK => ?_) (fun h => absurd h (by decide)) AllU.nil)
            rw [if_pos (by rfl)]
            obtain ⟨v2, hu⟩ : ∃ u, u = v1.alloc (.cells #[.slice Ak kl ck] 22) := ⟨_, rfl⟩
            have hb : Below v1.heap.size v1 v2 := by rw [hu]; exact (Below.refl v1.heap.size v1).alloc (Nat.le_refl _) (.cells #[.slice Ak kl ck] 22)
            have hrw : RowT v2 B0 (w.heap.size + 1 + 1 + 1) v1.heap.size (.slice Ak kl ck) (key) := by rw [hu]; exact RowT.lit (HR1.out.txt HK.out) (by omega)
            have HR2 := Lib.hid (HR1.out.kept hb)
            have HVr2 := Lib.hid (HVr1.out.kept hb (by omega))
            have HKr2 := Lib.hid hrw
            go_simp
            rw [← hu]
            have Sx2 := T_ HR2.out
            refine hK.out _ _ (fun _ => Sx2) ?_
            clear hK K Sx1 hu hb hrw
            try go_frame
            refine anyU_ready (rs := [4]) (by kernel_rfl) (by simp) (AllU.cons (o := ⟨some 41, .call { callee := .builtin .append, args := #[.tmp 38, .tmp 40], argTypes := #[24, 24] }, _, _, _, none⟩) rfl (fun K hK => ?_) (fun h => absurd h (by decide)) AllU.nil)
            rw [if_pos (by rfl)]
            obtain ⟨P1, n1, d1, v3, hrun, hr2, hg, hbb⟩ := HR2.out.appK HKr2.out (by have := putS_len (p := p) (d := th.toNat) (x := key) (xs := n.keys) a; simp; omega)
            have Hrun := Lib.hid hrun
            have HR3 := Lib.hid hr2
            have HVr3 := Lib.hid (HVr2.out.grown hg NE.out HR2.out.nm.rK.rowB (by omega))
            clear hrun hr2 hg hbb
            refine wp_run (.slice P1 n1 d1) v3 (exec_append (t := 24) (x := .tmp 38) (y := .tmp 40) rfl rfl rfl Hrun.out) ?_
            have Sx3 := T_ HR3.out
            refine hK.out _ _ (fun _ => Sx3) ?_
            clear hK K Sx2 Hrun
            go_frame
            refine' anyU_take0 (i := 10) (oi := ⟨some 47, .fieldAddr 27 (.tmp 7) 1, _, _, _, none⟩) (v := _) rfl (by kernel_rfl) (fun _ _ _ h => h) (Or.inl ⟨by rfl, ?hy94⟩) (by assumption) ?rest94
            case hy94 => (intro w hSw; go_simp <;> with_reducible rfl)
            case rest94 =>
            go_frame
            refine anyU_ready (rs := [9]) (by kernel_rfl) (by simp) (AllU.cons (o := ⟨some 46, .call { callee := .builtin .append, args := #[.tmp 43, .tmp 45], argTypes := #[24, 24] }, _, _, _, none⟩) rfl (fun K hK => ?_) (fun h => absurd h (by decide)) AllU.nil)
            rw [if_pos (by rfl)]
            obtain ⟨P2, n2, d2, v4, hrun, hr2, hg, hbb⟩ := HR3.out.appV HVr3.out (by have := putS_len (p := p) (d := th.toNat) (x := val) (xs := n.vals) a; simp; omega)
            have Hrun := Lib.hid hrun
            have HR4 := Lib.hid hr2
            clear hrun hr2 hg hbb
            refine wp_run (.slice P2 n2 d2) v4 (exec_append (t := 24) (x := .tmp 43) (y := .tmp 45) rfl rfl rfl Hrun.out) ?_
            have Sx4 := T_ HR4.out
            refine hK.out _ _ (fun _ => Sx4) ?_
            clear hK K Sx3 Hrun
            go_frame
            refine anyU_ready (rs := [11]) (by kernel_rfl) (by simp) (AllU.cons (o := ⟨none, .store 24 (.tmp 47) (.tmp 41), _, _, _, none⟩) rfl (fun K hK => ?_) (fun _ => by kernel_rfl) AllU.nil)
            rw [if_pos (by rfl)]
            obtain ⟨y0, y1, y2, y3, f0, f1, f2, f3⟩ := out_cells HR4.out.nm.top
            go_simp
            refine hK.out _ _ (fun h => absurd h (by decide)) ?_
            clear hK K
            try go_frame
            obtain ⟨Wa, hWa⟩ : ∃ X, X = v4.setCell ⟨w.heap.size + 1 + 1, 1, none⟩ (.slice P1 n1 d1) := ⟨_, rfl⟩
            have hra := HR4.out.setK
            rw [← hWa] at hra
            rw [← hWa]
            have HRa := Lib.hid hra
            clear hWa hra y0 y1 y2 y3 f0 f1 f2 f3
            refine anyU_ready (rs := [12]) (by kernel_rfl) (by simp) (AllU.cons (o := ⟨some 48, .fieldAddr 27 (.tmp 7) 2, _, _, _, none⟩) rfl (fun K hK => ?_) (fun _ => by kernel_rfl) AllU.nil)
            rw [if_pos (by rfl)]
            go_simp
            refine hK.out _ _ (fun h => absurd h (by decide)) ?_
            clear hK K
            try go_frame
            refine anyU_ready (rs := [13]) (by kernel_rfl) (by simp) (AllU.cons (o := ⟨none, .store 24 (.tmp 48) (.tmp 46), _, _, _, none⟩) rfl (fun K hK => ?_) (fun _ => by kernel_rfl) AllU.nil)
            rw [if_pos (by rfl)]
            obtain ⟨y0, y1, y2, y3, f0, f1, f2, f3⟩ := out_cells HRa.out.nm.top
            go_simp
            refine hK.out _ _ (fun h => absurd h (by decide)) ?_
            clear hK K
            try go_frame
            obtain ⟨wz, hWb⟩ : ∃ X, X = Wa.setCell ⟨w.heap.size + 1 + 1, 2, none⟩ (.slice P2 n2 d2) := ⟨_, rfl⟩
            have hrb := HRa.out.setV
            rw [← hWb] at hrb
            rw [← hWb]
            have HRb := Lib.hid hrb
            clear hWb hrb y0 y1 y2 y3 f0 f1 f2 f3 HRa Sx4
            refine anyU_ready (rs := [14]) (by kernel_rfl) (by simp) (AllU.cons (o := ⟨some 8, .assign (.const (.bool true)), _, _, _, none⟩) rfl (fun K hK => ?_) (fun _ => by kernel_rfl) AllU.nil)
            rw [if_pos (by rfl)]
            go_simp
            refine hK.out _ _ (fun h => absurd h (by decide)) ?_
            clear hK K
            try go_frame
            refine anyU_done (by kernel_rfl) ?_ _
            obtain ⟨x0, x1, x2, x3⟩ := HRb.out.box
            have S7_ := HRb.out.box.c1
            have k9 : ¬ ((a : Int) < (a : Int)) := by omega
            go_wp2_with fail
            refine wp_region_held_drew (S := fun w' => w'.cell? ⟨w.heap.size, 1, none⟩ = some (.slice A1 a c1)) (by kernel_rfl) S7_ (fun hHeld => ?_)
            refine' wpAnyH_take (i := 0) (oi := ⟨some 49, .move (.tmp 9), _, _, _, none⟩) (v := _) rfl (by kernel_rfl) (by kernel_rfl) (by kernel_rfl) (fun _ _ _ h => h) (Or.inl ⟨by rfl, ?hy70⟩) (by assumption) ?rest70
            case hy70 => (intro w hSw; obtain s0 := hSw; go_simp <;> with_reducible rfl)
            case rest70 =>
            go_frame
            refine' wpAnyH_take (i := 1) (oi := ⟨some 50, .fieldAddr 27 (.tmp 3) 1, _, _, _, none⟩) (v := _) rfl (by kernel_rfl) (by kernel_rfl) (by kernel_rfl) (fun _ _ _ h => h) (Or.inl ⟨by rfl, ?hy71⟩) (by assumption) ?rest71
            case hy71 => (intro w hSw; obtain s0 := hSw; go_simp <;> with_reducible rfl)
            case rest71 =>
            go_frame
            refine' wpAnyH_take (i := 2) (oi := ⟨some 51, .load 24 (.tmp 50), _, _, _, none⟩) (v := _) rfl (by kernel_rfl) (by kernel_rfl) (by kernel_rfl) (fun _ _ _ h => h) (Or.inl ⟨by rfl, ?hy72⟩) (by assumption) ?rest72
            case hy72 => (intro w hSw; obtain s0 := hSw; go_simp <;> with_reducible rfl)
            case rest72 =>
            go_frame
            refine' wpAnyH_take (i := 3) (oi := ⟨some 52, .call { callee := .builtin .len, args := #[.tmp 51], argTypes := #[24] }, _, _, _, none⟩) (v := _) rfl (by kernel_rfl) (by kernel_rfl) (by kernel_rfl) (fun _ _ _ h => h) (Or.inl ⟨by rfl, ?hy73⟩) (by assumption) ?rest73
            case hy73 => (intro w hSw; obtain s0 := hSw; go_simp <;> with_reducible rfl)
            case rest73 =>
            go_frame
            refine' wpAnyH_take (i := 4) (oi := ⟨some 53, .binOp .lss 3 (.tmp 49) (.tmp 52) 3, _, _, _, none⟩) (v := _) rfl (by kernel_rfl) (by kernel_rfl) (by kernel_rfl) (fun _ _ _ h => h) (Or.inl ⟨by rfl, ?hy74⟩) (by assumption) ?rest74
            case hy74 => (intro w hSw; obtain s0 := hSw; go_simp <;> with_reducible rfl)
            case rest74 =>
            go_frame
            refine' wpAnyH_take (i := 5) (oi := ⟨some 54, .move (.tmp 53), _, _, _, none⟩) (v := _) rfl (by kernel_rfl) (by kernel_rfl) (by kernel_rfl) (fun _ _ _ h => h) (Or.inl ⟨by rfl, ?hy75⟩) (by assumption) ?rest75
            case hy75 => (intro w hSw; obtain s0 := hSw; go_simp <;> with_reducible rfl)
            case rest75 =>
            go_frame
            refine' wpAnyH_take (i := 6) (oi := ⟨some 55, .fieldAddr 27 (.tmp 3) 1, _, _, _, some (5, true)⟩) (v := undef) rfl (by kernel_rfl) (by kernel_rfl) (by kernel_rfl) (fun _ _ _ h => h) (Or.inr ⟨by rfl, rfl⟩) (by assumption) ?rest76
            case rest76 =>
            go_frame
            refine' wpAnyH_take (i := 7) (oi := ⟨some 56, .load 24 (.tmp 55), _, _, _, some (5, true)⟩) (v := undef) rfl (by kernel_rfl) (by kernel_rfl) (by kernel_rfl) (fun _ _ _ h => h) (Or.inr ⟨by rfl, rfl⟩) (by assumption) ?rest77
            case rest77 =>
            go_frame
            refine' wpAnyH_take (i := 8) (oi := ⟨some 57, .move (.tmp 9), _, _, _, some (5, true)⟩) (v := undef) rfl (by kernel_rfl) (by kernel_rfl) (by kernel_rfl) (fun _ _ _ h => h) (Or.inr ⟨by rfl, rfl⟩) (by assumption) ?rest78
            case rest78 =>
            go_frame
            refine' wpAnyH_take (i := 9) (oi := ⟨some 58, .indexAddr 24 (.tmp 56) (.tmp 57), _, _, _, some (5, true)⟩) (v := undef) rfl (by kernel_rfl) (by kernel_rfl) (by kernel_rfl) (fun _ _ _ h => h) (Or.inr ⟨by rfl, rfl⟩) (by assumption) ?rest79
            case rest79 =>
            go_frame
            refine' wpAnyH_take (i := 10) (oi := ⟨some 59, .load 22 (.tmp 58), _, _, _, some (5, true)⟩) (v := undef) rfl (by kernel_rfl) (by kernel_rfl) (by kernel_rfl) (fun _ _ _ h => h) (Or.inr ⟨by rfl, rfl⟩) (by assumption) ?rest80
            case rest80 =>
            go_frame
            refine' wpAnyH_take (i := 11) (oi := ⟨some 60, .convert 22 9 (.tmp 59), _, _, _, some (5, true)⟩) (v := undef) rfl (by kernel_rfl) (by kernel_rfl) (by kernel_rfl) (fun _ _ _ h => h) (Or.inr ⟨by rfl, rfl⟩) (by assumption) ?rest81
            case rest81 =>
            go_frame
            refine' wpAnyH_take (i := 12) (oi := ⟨some 61, .move (.tmp 1), _, _, _, some (5, true)⟩) (v := undef) rfl (by kernel_rfl) (by kernel_rfl) (by kernel_rfl) (fun _ _ _ h => h) (Or.inr ⟨by rfl, rfl⟩) (by assumption) ?rest82
            case rest82 =>
            go_frame
            refine' wpAnyH_take (i := 13) (oi := ⟨some 62, .convert 22 9 (.tmp 61), _, _, _, some (5, true)⟩) (v := undef) rfl (by kernel_rfl) (by kernel_rfl) (by kernel_rfl) (fun _ _ _ h => h) (Or.inr ⟨by rfl, rfl⟩) (by assumption) ?rest83
            case rest83 =>
            go_frame
            refine' wpAnyH_take (i := 14) (oi := ⟨some 63, .binOp .neq 9 (.tmp 60) (.tmp 62) 9, _, _, _, some (5, true)⟩) (v := undef) rfl (by kernel_rfl) (by kernel_rfl) (by kernel_rfl) (fun _ _ _ h => h) (Or.inr ⟨by rfl, rfl⟩) (by assumption) ?rest84
            case rest84 =>
            go_frame
            refine' wpAnyH_take (i := 15) (oi := ⟨some 64, .pick (.tmp 54) (.tmp 63) (.const (.bool false)), _, _, _, none⟩) (v := _) rfl (by kernel_rfl) (by kernel_rfl) (by kernel_rfl) (fun _ _ _ h => h) (Or.inl ⟨by rfl, ?hy85⟩) (by assumption) ?rest85
            case hy85 => (intro w hSw; obtain s0 := hSw; go_simp <;> with_reducible rfl)
            case rest85 =>
            go_frame
            refine wpAnyH_done (by kernel_rfl) ?_ _
            have HR7 := Lib.hid (HRb.out.kept (Below.refl _ _).drew)
            clear S7_ hHeld k9
            go_wp2_with fail
            go_roundw
            case rel =>
              refine ⟨a + 1, true, P1, P2, n1, d1, n2, d2, by omega, by go_num, rfl, Lib.hid (HD.out), Lib.hid ?_⟩
              rw [show putS p th.toNat key n.keys (a + 1) = putS p th.toNat key n.keys a ++ [key] by rw [HP.out]; exact putS_only (fun g => by have := HLk.out.1; have := HP.out; omega), show putS p th.toNat val n.vals (a + 1) = putS p th.toNat val n.vals a ++ [val] by rw [HP.out]; exact putS_only (fun g => by have := HLk.out.2; have := HP.out; omega)]
              exact HR7.out
            case measure => simp [intOf] <;> omega
        · have hq : q = true := by rw [HQ.out]; have := HPl.out; simp; omega
          subst hq
          have HP := Lib.hid (show a ≠ p from hap)
          have HD := Lib.hid (show true = decide (p < a + 1) by have := HPl.out; simp; omega)
          clear hap HQ hka
          have S7_ := HR.out.box.c1
          have k9 : ¬ ((a : Int) < (a : Int)) := by omega
          go_wp2_with fail
          refine wp_region_held_drew (S := fun w' => w'.cell? ⟨w.heap.size, 1, none⟩ = some (.slice A1 a c1)) (by kernel_rfl) S7_ (fun hHeld => ?_)
          refine' wpAnyH_take (i := 0) (oi := ⟨some 49, .move (.tmp 9), _, _, _, none⟩) (v := _) rfl (by kernel_rfl) (by kernel_rfl) (by kernel_rfl) (fun _ _ _ h => h) (Or.inl ⟨by rfl, ?hy95⟩) (by assumption) ?rest95
          case hy95 => (intro w hSw; obtain s0 := hSw; go_simp <;> with_reducible rfl)
          case rest95 =>
          go_frame
          refine' wpAnyH_take (i := 1) (oi := ⟨some 50, .fieldAddr 27 (.tmp 3) 1, _, _, _, none⟩) (v := _) rfl (by kernel_rfl) (by kernel_rfl) (by kernel_rfl) (fun _ _ _ h => h) (Or.inl ⟨by rfl, ?hy96⟩) (by assumption) ?rest96
          case hy96 => (intro w hSw; obtain s0 := hSw; go_simp <;> with_reducible rfl)
          case rest96 =>
          go_frame
          refine' wpAnyH_take (i := 2) (oi := ⟨some 51, .load 24 (.tmp 50), _, _, _, none⟩) (v := _) rfl (by kernel_rfl) (by kernel_rfl) (by kernel_rfl) (fun _ _ _ h => h) (Or.inl ⟨by rfl, ?hy97⟩) (by assumption) ?rest97
          case hy97 => (intro w hSw; obtain s0 := hSw; go_simp <;> with_reducible rfl)
          case rest97 =>
          go_frame
          refine' wpAnyH_take (i := 3) (oi := ⟨some 52, .call { callee := .builtin .len, args := #[.tmp 51], argTypes := #[24] }, _, _, _, none⟩) (v := _) rfl (by kernel_rfl) (by kernel_rfl) (by kernel_rfl) (fun _ _ _ h => h) (Or.inl ⟨by rfl, ?hy98⟩) (by assumption) ?rest98
          case hy98 => (intro w hSw; obtain s0 := hSw; go_simp <;> with_reducible rfl)
          case rest98 =>
          go_frame
          refine' wpAnyH_take (i := 4) (oi := ⟨some 53, .binOp .lss 3 (.tmp 49) (.tmp 52) 3, _, _, _, none⟩) (v := _) rfl (by kernel_rfl) (by kernel_rfl) (by kernel_rfl) (fun _ _ _ h => h) (Or.inl ⟨by rfl, ?hy99⟩) (by assumption) ?rest99
          case hy99 => (intro w hSw; obtain s0 := hSw; go_simp <;> with_reducible rfl)
          case rest99 =>
          go_frame
          refine' wpAnyH_take (i := 5) (oi := ⟨some 54, .move (.tmp 53), _, _, _, none⟩) (v := _) rfl (by kernel_rfl) (by kernel_rfl) (by kernel_rfl) (fun _ _ _ h => h) (Or.inl ⟨by rfl, ?hy100⟩) (by assumption) ?rest100
          case hy100 => (intro w hSw; obtain s0 := hSw; go_simp <;> with_reducible rfl)
          case rest100 =>
          go_frame
          refine' wpAnyH_take (i := 6) (oi := ⟨some 55, .fieldAddr 27 (.tmp 3) 1, _, _, _, some (5, true)⟩) (v := undef) rfl (by kernel_rfl) (by kernel_rfl) (by kernel_rfl) (fun _ _ _ h => h) (Or.inr ⟨by rfl, rfl⟩) (by assumption) ?rest101
          case rest101 =>
          go_frame
          refine' wpAnyH_take (i := 7) (oi := ⟨some 56, .load 24 (.tmp 55), _, _, _, some (5, true)⟩) (v := undef) rfl (by kernel_rfl) (by kernel_rfl) (by kernel_rfl) (fun _ _ _ h => h) (Or.inr ⟨by rfl, rfl⟩) (by assumption) ?rest102
          case rest102 =>
          go_frame
          refine' wpAnyH_take (i := 8) (oi := ⟨some 57, .move (.tmp 9), _, _, _, some (5, true)⟩) (v := undef) rfl (by kernel_rfl) (by kernel_rfl) (by kernel_rfl) (fun _ _ _ h => h) (Or.inr ⟨by rfl, rfl⟩) (by assumption) ?rest103
          case rest103 =>
          go_frame
          refine' wpAnyH_take (i := 9) (oi := ⟨some 58, .indexAddr 24 (.tmp 56) (.tmp 57), _, _, _, some (5, true)⟩) (v := undef) rfl (by kernel_rfl) (by kernel_rfl) (by kernel_rfl) (fun _ _ _ h => h) (Or.inr ⟨by rfl, rfl⟩) (by assumption) ?rest104
          case rest104 =>
          go_frame
          refine' wpAnyH_take (i := 10) (oi := ⟨some 59, .load 22 (.tmp 58), _, _, _, some (5, true)⟩) (v := undef) rfl (by kernel_rfl) (by kernel_rfl) (by kernel_rfl) (fun _ _ _ h => h) (Or.inr ⟨by rfl, rfl⟩) (by assumption) ?rest105
          case rest105 =>
          go_frame
          refine' wpAnyH_take (i := 11) (oi := ⟨some 60, .convert 22 9 (.tmp 59), _, _, _, some (5, true)⟩) (v := undef) rfl (by kernel_rfl) (by kernel_rfl) (by kernel_rfl) (fun _ _ _ h => h) (Or.inr ⟨by rfl, rfl⟩) (by assumption) ?rest106
          case rest106 =>
          go_frame
          refine' wpAnyH_take (i := 12) (oi := ⟨some 61, .move (.tmp 1), _, _, _, some (5, true)⟩) (v := undef) rfl (by kernel_rfl) (by kernel_rfl) (by kernel_rfl) (fun _ _ _ h => h) (Or.inr ⟨by rfl, rfl⟩) (by assumption) ?rest107
          case rest107 =>
          go_frame
          refine' wpAnyH_take (i := 13) (oi := ⟨some 62, .convert 22 9 (.tmp 61), _, _, _, some (5, true)⟩) (v := undef) rfl (by kernel_rfl) (by kernel_rfl) (by kernel_rfl) (fun _ _ _ h => h) (Or.inr ⟨by rfl, rfl⟩) (by assumption) ?rest108
          case rest108 =>
          go_frame
          refine' wpAnyH_take (i := 14) (oi := ⟨some 63, .binOp .neq 9 (.tmp 60) (.tmp 62) 9, _, _, _, some (5, true)⟩) (v := undef) rfl (by kernel_rfl) (by kernel_rfl) (by kernel_rfl) (fun _ _ _ h => h) (Or.inr ⟨by rfl, rfl⟩) (by assumption) ?rest109
          case rest109 =>
          go_frame
          refine' wpAnyH_take (i := 15) (oi := ⟨some 64, .pick (.tmp 54) (.tmp 63) (.const (.bool false)), _, _, _, none⟩) (v := _) rfl (by kernel_rfl) (by kernel_rfl) (by kernel_rfl) (fun _ _ _ h => h) (Or.inl ⟨by rfl, ?hy110⟩) (by assumption) ?rest110
          case hy110 => (intro w hSw; obtain s0 := hSw; go_simp <;> with_reducible rfl)
          case rest110 =>
          go_frame
          refine wpAnyH_done (by kernel_rfl) ?_ _
          have HR7 := Lib.hid (HR.out.kept (Below.refl _ _).drew)
          clear S7_ hHeld k9
          go_wp2_with fail
          go_roundw
          case rel =>
            refine ⟨a + 1, true, T1, T2, t1, e1, t2, e2, by omega, by go_num, rfl, Lib.hid (HD.out), Lib.hid ?_⟩
            rw [putS_past HP.out (by rw [HLk.out.1]; omega), putS_past HP.out (by rw [HLk.out.2]; omega)]
            exact HR7.out
          case measure => simp [intOf] <;> omega
    · have hka : k = a + 1 := by omega
      have HKa := Lib.hid hka
      obtain ⟨z0, z1, z2, z3, -, -, -, -⟩ := out_cells HR.out.nm.top
      obtain ⟨y0, y1, y2, y3, f0, f1, f2, f3⟩ := out_cells HR.out.out
      have hdn := HR.out.done
      rw [hka, HAll.out.1, HAll.out.2] at hdn
      have hbx := box_of_top (store4_top (lf := true) (K := .slice T1 t1 e1) (V := .slice T2 t2 e2) (D := .slice none 0 0) HR.out.out)
      obtain ⟨W, hW⟩ : ∃ X, X = store4 wr (w.heap.size + 1) true (.slice T1 t1 e1) (.slice T2 t2 e2) (.slice none 0 0) := ⟨_, rfl⟩
      rw [← hW] at hdn hbx
      obtain ⟨q0, q1, q2, q3⟩ := hbx
      have HDn := Lib.hid hdn
      have HWW := Lib.hid hW
      clear hdn hW hka hlt
      have hlt : ¬ ((k : Int) ≤ (a : Int)) := by have := HKa.out; omega
      go_wp2_with fail
      have hW := HWW.out
      unfold store4 at hW
      rw [← hW]
      exact bodyPost_ret (v := ndVal true (.slice T1 t1 e1) (.slice T2 t2 e2) (.slice none 0 0)) (by simp [results, Try.results21, go_sem, q0, q1, q2, q3]) rfl ⟨_, _, rfl, HDn.out.1, HDn.out.2.1, HDn.out.2.2⟩
end Go.Proofs.Ytceefoopehoalaa
