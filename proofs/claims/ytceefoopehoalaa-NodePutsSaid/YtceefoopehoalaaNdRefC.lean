/-
  The document's own Below of layer 7, by contract.
-/
import Derived.Test.YtceefoopehoalaaNdFind
import Derived.Test.YtceefoopehoalaaNdRefB
namespace Go.Proofs.Ytceefoopehoalaa
open Go.RowKit
set_option maxRecDepth 100000 in
set_option maxHeartbeats 1000000 in
theorem rbelow_any {n : Nd} {K V D : Value} {w : World} {B C : Nat} {v : Value} {key : List UInt8} (hr : NdIs w B K V D n) (hB : B ≤ w.heap.size) (hv : Rd w C v (cellsB key)) (hC : C ≤ w.heap.size) (hs : n.keys.length ≤ 1000000) (hkl : ∀ j, j < n.keys.length → (n.keys.getD j []).length ≤ 1000000) (hky : key.length ≤ 1000000) :
    Calls Try.prog 17 #[ndVal n.leaf K V D, v] w fun e w' => e = .returned (.tuple #[.int .i64 (belowN n.keys key n.keys.length : Nat), .bool (hasN n.keys key n.keys.length)]) ∧ Below w.heap.size w w' := by
  obtain ⟨A1, c1, A2, c2, A3, c3, rfl, rfl, rfl⟩ := hr.form
  have hcells := fun (b o : Nat) (he : A1 = some ⟨b, o, none⟩) k (hk : k < n.keys.length) => (show RdAll w B (.slice (some ⟨b, o, none⟩) n.keys.length c1) n.keys by rw [← he]; exact hr.keys).later hB hk
  have haddr := fun (h : 0 < n.keys.length) => hr.keys.addr h
  have hkey := fun (W : World) (hW : Below w.heap.size w W) => hv.below (hW.mono hC)
  have hle := fun k => belowN_le n.keys key k
  obtain ⟨lf, hlf⟩ : ∃ x, x = n.leaf := ⟨_, rfl⟩
  obtain ⟨a, ha⟩ : ∃ x, x = n.keys.length := ⟨_, rfl⟩
  rw [← ha] at hs hcells haddr hkl ⊢
  rw [← hlf]
  have hb0 : Below w.heap.size w (w.alloc (.cells #[.bool lf, .slice A1 a c1, .slice A2 n.vals.length c2, .slice A3 n.kids.length c3] 27)) := (Below.refl _ _).alloc (Nat.le_refl _) _
  have hbox := NdBox.made w lf (.slice A1 a c1) (.slice A2 n.vals.length c2) (.slice A3 n.kids.length c3)
  have HC := Lib.hid hcells
  have HA := Lib.hid haddr
  have HK := Lib.hid hkey
  have HL := Lib.hid hle
  have H0 := Lib.hid hb0
  have HX := Lib.hid hbox
  have HKL := Lib.hid hkl
  have HKY := Lib.hid hky
  have HCs := Lib.hid hC
  clear hr hB hv hC hcells haddr hkey hle hb0 hlf ha hbox hkl hky
  go_enter Try.func17, Try.ntmps17
  go_wp2_with fail
  go_loopw [6, 7, 8] (fun bv tv iv wr => ∃ k : Nat, k ≤ a ∧ iv = .int .i64 (k : Int) ∧ bv = .int .i64 (belowN n.keys key k : Nat) ∧ tv = .bool (hasN n.keys key k) ∧ Hid (NdBox wr w.heap.size lf (.slice A1 a c1) (.slice A2 n.vals.length c2) (.slice A3 n.kids.length c3) ∧ Below w.heap.size w wr)) (fun _ _ iv _ => a - (intOf iv).toNat)
  case atStart => exact ⟨0, Nat.zero_le _, rfl, rfl, rfl, Lib.hid ⟨HX.out, H0.out⟩⟩
  case round =>
    obtain ⟨k, hk, rfl, rfl, rfl, HI⟩ := hrel
    obtain ⟨x0, x1, x2, x3⟩ := HI.out.1
    by_cases hlt : k < a
    · obtain ⟨bk, ok, rfl, _⟩ := HA.out (by omega)
      obtain ⟨A', m, c', hm, hmc, hmx, hcl⟩ := HC.out bk ok rfl k hlt
      have hck := (hcl wr HI.out.2).1
      have hcmp := cmp_any (hcl wr HI.out.2).2.1 (HK.out wr HI.out.2) HI.out.2.size (Nat.le_trans HCs.out HI.out.2.size) (HKL.out k hlt) HKY.out
      have hb := HL.out k
      have hst : belowN n.keys key (k + 1) = belowN n.keys key k + (if cmpB (n.keys.getD k []) key < 0 then 1 else 0) := rfl
      have hsh : hasN n.keys key (k + 1) = (hasN n.keys key k || decide (n.keys.getD k [] = key)) := rfl
      obtain ⟨kk, hkk⟩ : ∃ x, x = n.keys.getD k [] := ⟨_, rfl⟩
      rw [← hkk] at hcmp hst hsh
      obtain ⟨x, hx⟩ : ∃ x, x = dcmp kk key := ⟨_, rfl⟩
      have he : (x < 0 ↔ cmpB kk key < 0) := by rw [hx]; exact dcmp_neg
      rw [← hx] at hcmp
      obtain ⟨p, hp⟩ : ∃ x, x = belowN n.keys key k := ⟨_, rfl⟩
      obtain ⟨q, hq⟩ : ∃ x, x = hasN n.keys key k := ⟨_, rfl⟩
      rw [← hp] at hb hst ⊢
      rw [← hq] at hsh ⊢
      have HCm := Lib.hid hcmp
      have Hst := Lib.hid hst
      have Hsh := Lib.hid hsh
      have He := Lib.hid he
      have Hcl := Lib.hid hcl
      have HKK := Lib.hid hkk
      have k0 : (0 : Int) ≤ (k : Int) := by omega
      have k1 : (k : Int) < (a : Int) := by omega
      have k3 : (k : Int).toNat = k := by omega
      have HS := Lib.hid (fun (W : World) (hW : Below wr.heap.size wr W) => (show W.cell? ⟨w.heap.size, 1, none⟩ = some (.slice (some ⟨bk, ok, none⟩) a c1) ∧ W.cell? ⟨bk, ok + k, none⟩ = some (.slice A' m c') ∧ (convert 22 9 (.slice A' m c')).run Try.prog W = .ok (.string ⟨kk.toArray⟩) W ∧ (convert 22 9 v).run Try.prog W = .ok (.string ⟨key.toArray⟩) W from
        ⟨(hW.cell (p := ⟨w.heap.size, 1, none⟩) HI.out.1.lt).trans x1, (Hcl.out W (up HI.out.2 hW)).1, (by rw [HKK.out]; exact run_string_rd (P := Try.prog) 22 9 5 Try.underlying22 Try.underlying5 Try.underlying9 (Hcl.out W (up HI.out.2 hW)).2.1), run_string_rd (P := Try.prog) 22 9 5 Try.underlying22 Try.underlying5 Try.underlying9 (HK.out W (up HI.out.2 hW))⟩))
      clear hm hcl hcmp hst hsh hx he hp hq hkk
      by_cases h1 : x < 0
      · have t4 : decide (x < 0) = true := by simp; omega
        have H1 := Lib.hid h1
        clear h1
        go_wp2_with (go_at_call 35; refine HCm.out.mono ?_; rintro e w3 ⟨rfl, hb3⟩; have HX3 := Lib.hid (HI.out.1.later HI.out.1.lt hb3); have Hb3 := Lib.hid (up HI.out.2 hb3); have HSS := Lib.hid hb3; clear hb3)
        have S3 := HS.out w3.drew HSS.out.drew
        clear x0 x1 x2 x3 hck
        cases q
        · have Hkk := Lib.hid (show n.keys.getD k [] = kk from HKK.out.symm)
          by_cases hkk : kk = key
          · have t5 : (kk == key) = true := by rw [hkk]; simp
            have Hkey := Lib.hid hkk
            clear hkk
            go_region_held3 (fun w' => w'.cell? ⟨w.heap.size, 1, none⟩ = some (.slice (some ⟨bk, ok, none⟩) a c1) ∧ w'.cell? ⟨bk, ok + k, none⟩ = some (.slice A' m c') ∧ (convert 22 9 (.slice A' m c')).run Try.prog w' = .ok (.string ⟨kk.toArray⟩) w' ∧ (convert 22 9 v).run Try.prog w' = .ok (.string ⟨key.toArray⟩) w') (exact S3) (fail)
            go_wp2_with fail
            go_roundw
            case rel =>
              refine ⟨k + 1, by omega, by go_num, ?_, ?_, Lib.hid ⟨HX3.out.later HX3.out.lt (Below.refl _ _).drew, Hb3.out.drew⟩⟩
              · rw [Hst.out, if_pos (He.out.1 H1.out)]; go_num
              · rw [Hsh.out, decide_eq_true Hkey.out]; rfl
            case measure => simp [intOf]; omega
          · have t5 : (kk == key) = false := by simp [hkk]
            have Hkey := Lib.hid hkk
            clear hkk
            go_region_held3 (fun w' => w'.cell? ⟨w.heap.size, 1, none⟩ = some (.slice (some ⟨bk, ok, none⟩) a c1) ∧ w'.cell? ⟨bk, ok + k, none⟩ = some (.slice A' m c') ∧ (convert 22 9 (.slice A' m c')).run Try.prog w' = .ok (.string ⟨kk.toArray⟩) w' ∧ (convert 22 9 v).run Try.prog w' = .ok (.string ⟨key.toArray⟩) w') (exact S3) (fail)
            go_wp2_with fail
            go_roundw
            case rel =>
              refine ⟨k + 1, by omega, by go_num, ?_, ?_, Lib.hid ⟨HX3.out.later HX3.out.lt (Below.refl _ _).drew, Hb3.out.drew⟩⟩
              · rw [Hst.out, if_pos (He.out.1 H1.out)]; go_num
              · rw [Hsh.out, decide_eq_false Hkey.out]; rfl
            case measure => simp [intOf]; omega
        · refine wp_region_held_drew (S := fun w' => w'.cell? ⟨w.heap.size, 1, none⟩ = some (.slice (some ⟨bk, ok, none⟩) a c1) ∧ w'.cell? ⟨bk, ok + k, none⟩ = some (.slice A' m c') ∧ (convert 22 9 (.slice A' m c')).run Try.prog w' = .ok (.string ⟨kk.toArray⟩) w' ∧ (convert 22 9 v).run Try.prog w' = .ok (.string ⟨key.toArray⟩) w') (by kernel_rfl) S3 (fun hHeld => ?_)
          refine' wpAnyH_take (i := 0) (oi := ⟨some 26, .move (.tmp 7), _, _, _, none⟩) (v := _) rfl (by kernel_rfl) (by kernel_rfl) (by kernel_rfl) (fun _ _ _ h => h) (Or.inl ⟨by rfl, ?hy1⟩) (by assumption) ?rest1
          case hy1 => (intro w hSw; obtain ⟨s0, s1, s2, s3⟩ := hSw; go_simp <;> with_reducible rfl)
          case rest1 =>
          go_frame
          refine' wpAnyH_take (i := 1) (oi := ⟨some 27, .move (.tmp 26), _, _, _, none⟩) (v := _) rfl (by kernel_rfl) (by kernel_rfl) (by kernel_rfl) (fun _ _ _ h => h) (Or.inl ⟨by rfl, ?hy2⟩) (by assumption) ?rest2
          case hy2 => (intro w hSw; obtain ⟨s0, s1, s2, s3⟩ := hSw; go_simp <;> with_reducible rfl)
          case rest2 =>
          go_frame
          refine' wpAnyH_take (i := 2) (oi := ⟨some 28, .fieldAddr 27 (.tmp 2) 1, _, _, _, some (1, false)⟩) (v := undef) rfl (by kernel_rfl) (by kernel_rfl) (by kernel_rfl) (fun _ _ _ h => h) (Or.inr ⟨by rfl, rfl⟩) (by assumption) ?rest3
          case rest3 =>
          go_frame
          refine' wpAnyH_take (i := 3) (oi := ⟨some 29, .load 24 (.tmp 28), _, _, _, some (1, false)⟩) (v := undef) rfl (by kernel_rfl) (by kernel_rfl) (by kernel_rfl) (fun _ _ _ h => h) (Or.inr ⟨by rfl, rfl⟩) (by assumption) ?rest4
          case rest4 =>
          go_frame
          refine' wpAnyH_take (i := 4) (oi := ⟨some 30, .move (.tmp 8), _, _, _, some (1, false)⟩) (v := undef) rfl (by kernel_rfl) (by kernel_rfl) (by kernel_rfl) (fun _ _ _ h => h) (Or.inr ⟨by rfl, rfl⟩) (by assumption) ?rest5
          case rest5 =>
          go_frame
          refine' wpAnyH_take (i := 5) (oi := ⟨some 31, .indexAddr 24 (.tmp 29) (.tmp 30), _, _, _, some (1, false)⟩) (v := undef) rfl (by kernel_rfl) (by kernel_rfl) (by kernel_rfl) (fun _ _ _ h => h) (Or.inr ⟨by rfl, rfl⟩) (by assumption) ?rest6
          case rest6 =>
          go_frame
          refine' wpAnyH_take (i := 6) (oi := ⟨some 32, .load 22 (.tmp 31), _, _, _, some (1, false)⟩) (v := undef) rfl (by kernel_rfl) (by kernel_rfl) (by kernel_rfl) (fun _ _ _ h => h) (Or.inr ⟨by rfl, rfl⟩) (by assumption) ?rest7
          case rest7 =>
          go_frame
          refine' wpAnyH_take (i := 7) (oi := ⟨some 33, .convert 22 9 (.tmp 32), _, _, _, some (1, false)⟩) (v := undef) rfl (by kernel_rfl) (by kernel_rfl) (by kernel_rfl) (fun _ _ _ h => h) (Or.inr ⟨by rfl, rfl⟩) (by assumption) ?rest8
          case rest8 =>
          go_frame
          refine' wpAnyH_take (i := 8) (oi := ⟨some 34, .move (.tmp 1), _, _, _, some (1, false)⟩) (v := undef) rfl (by kernel_rfl) (by kernel_rfl) (by kernel_rfl) (fun _ _ _ h => h) (Or.inr ⟨by rfl, rfl⟩) (by assumption) ?rest9
          case rest9 =>
          go_frame
          refine' wpAnyH_take (i := 9) (oi := ⟨some 35, .convert 22 9 (.tmp 34), _, _, _, some (1, false)⟩) (v := undef) rfl (by kernel_rfl) (by kernel_rfl) (by kernel_rfl) (fun _ _ _ h => h) (Or.inr ⟨by rfl, rfl⟩) (by assumption) ?rest10
          case rest10 =>
          go_frame
          refine' wpAnyH_take (i := 10) (oi := ⟨some 36, .binOp .eql 9 (.tmp 33) (.tmp 35) 9, _, _, _, some (1, false)⟩) (v := undef) rfl (by kernel_rfl) (by kernel_rfl) (by kernel_rfl) (fun _ _ _ h => h) (Or.inr ⟨by rfl, rfl⟩) (by assumption) ?rest11
          case rest11 =>
          go_frame
          refine' wpAnyH_take (i := 11) (oi := ⟨some 37, .pick (.tmp 27) (.const (.bool true)) (.tmp 36), _, _, _, none⟩) (v := _) rfl (by kernel_rfl) (by kernel_rfl) (by kernel_rfl) (fun _ _ _ h => h) (Or.inl ⟨by rfl, ?hy12⟩) (by assumption) ?rest12
          case hy12 => (intro w hSw; obtain ⟨s0, s1, s2, s3⟩ := hSw; go_simp <;> with_reducible rfl)
          case rest12 =>
          go_frame
          refine' wpAnyH_take (i := 12) (oi := ⟨some 7, .assign (.tmp 37), _, _, _, none⟩) (v := _) rfl (by kernel_rfl) (by kernel_rfl) (by kernel_rfl) (fun _ _ _ h => h) (Or.inl ⟨by rfl, ?hy13⟩) (by assumption) ?rest13
          case hy13 => (intro w hSw; obtain ⟨s0, s1, s2, s3⟩ := hSw; go_simp <;> with_reducible rfl)
          case rest13 =>
          go_frame
          refine wpAnyH_done (by kernel_rfl) ?_ _
          go_wp2_with fail
          go_roundw
          case rel =>
            refine ⟨k + 1, by omega, by go_num, ?_, ?_, Lib.hid ⟨HX3.out.later HX3.out.lt (Below.refl _ _).drew, Hb3.out.drew⟩⟩
            · rw [Hst.out, if_pos (He.out.1 H1.out)]; go_num
            · rw [Hsh.out, Bool.true_or]
          case measure => simp [intOf]; omega
      · have t4 : decide (x < 0) = false := by simp; omega
        have H1 := Lib.hid (show ¬ cmpB kk key < 0 from fun h => by have := He.out.2 h; omega)
        clear h1
        go_wp2_with (go_at_call 35; refine HCm.out.mono ?_; rintro e w3 ⟨rfl, hb3⟩; have HX3 := Lib.hid (HI.out.1.later HI.out.1.lt hb3); have Hb3 := Lib.hid (up HI.out.2 hb3); have HSS := Lib.hid hb3; clear hb3)
        have S3 := HS.out w3.drew HSS.out.drew
        clear x0 x1 x2 x3 hck
        cases q
        · have Hkk := Lib.hid (show n.keys.getD k [] = kk from HKK.out.symm)
          by_cases hkk : kk = key
          · have t5 : (kk == key) = true := by rw [hkk]; simp
            have Hkey := Lib.hid hkk
            clear hkk
            go_region_held3 (fun w' => w'.cell? ⟨w.heap.size, 1, none⟩ = some (.slice (some ⟨bk, ok, none⟩) a c1) ∧ w'.cell? ⟨bk, ok + k, none⟩ = some (.slice A' m c') ∧ (convert 22 9 (.slice A' m c')).run Try.prog w' = .ok (.string ⟨kk.toArray⟩) w' ∧ (convert 22 9 v).run Try.prog w' = .ok (.string ⟨key.toArray⟩) w') (exact S3) (fail)
            go_wp2_with fail
            go_roundw
            case rel =>
              refine ⟨k + 1, by omega, by go_num, ?_, ?_, Lib.hid ⟨HX3.out.later HX3.out.lt (Below.refl _ _).drew, Hb3.out.drew⟩⟩
              · rw [Hst.out, if_neg (by have := H1.out; omega)]; rfl
              · rw [Hsh.out, decide_eq_true Hkey.out]; rfl
            case measure => simp [intOf]; omega
          · have t5 : (kk == key) = false := by simp [hkk]
            have Hkey := Lib.hid hkk
            clear hkk
            go_region_held3 (fun w' => w'.cell? ⟨w.heap.size, 1, none⟩ = some (.slice (some ⟨bk, ok, none⟩) a c1) ∧ w'.cell? ⟨bk, ok + k, none⟩ = some (.slice A' m c') ∧ (convert 22 9 (.slice A' m c')).run Try.prog w' = .ok (.string ⟨kk.toArray⟩) w' ∧ (convert 22 9 v).run Try.prog w' = .ok (.string ⟨key.toArray⟩) w') (exact S3) (fail)
            go_wp2_with fail
            go_roundw
            case rel =>
              refine ⟨k + 1, by omega, by go_num, ?_, ?_, Lib.hid ⟨HX3.out.later HX3.out.lt (Below.refl _ _).drew, Hb3.out.drew⟩⟩
              · rw [Hst.out, if_neg (by have := H1.out; omega)]; rfl
              · rw [Hsh.out, decide_eq_false Hkey.out]; rfl
            case measure => simp [intOf]; omega
        · refine wp_region_held_drew (S := fun w' => w'.cell? ⟨w.heap.size, 1, none⟩ = some (.slice (some ⟨bk, ok, none⟩) a c1) ∧ w'.cell? ⟨bk, ok + k, none⟩ = some (.slice A' m c') ∧ (convert 22 9 (.slice A' m c')).run Try.prog w' = .ok (.string ⟨kk.toArray⟩) w' ∧ (convert 22 9 v).run Try.prog w' = .ok (.string ⟨key.toArray⟩) w') (by kernel_rfl) S3 (fun hHeld => ?_)
          refine' wpAnyH_take (i := 0) (oi := ⟨some 26, .move (.tmp 7), _, _, _, none⟩) (v := _) rfl (by kernel_rfl) (by kernel_rfl) (by kernel_rfl) (fun _ _ _ h => h) (Or.inl ⟨by rfl, ?hy14⟩) (by assumption) ?rest14
          case hy14 => (intro w hSw; obtain ⟨s0, s1, s2, s3⟩ := hSw; go_simp <;> with_reducible rfl)
          case rest14 =>
          go_frame
          refine' wpAnyH_take (i := 1) (oi := ⟨some 27, .move (.tmp 26), _, _, _, none⟩) (v := _) rfl (by kernel_rfl) (by kernel_rfl) (by kernel_rfl) (fun _ _ _ h => h) (Or.inl ⟨by rfl, ?hy15⟩) (by assumption) ?rest15
          case hy15 => (intro w hSw; obtain ⟨s0, s1, s2, s3⟩ := hSw; go_simp <;> with_reducible rfl)
          case rest15 =>
          go_frame
          refine' wpAnyH_take (i := 2) (oi := ⟨some 28, .fieldAddr 27 (.tmp 2) 1, _, _, _, some (1, false)⟩) (v := undef) rfl (by kernel_rfl) (by kernel_rfl) (by kernel_rfl) (fun _ _ _ h => h) (Or.inr ⟨by rfl, rfl⟩) (by assumption) ?rest16
          case rest16 =>
          go_frame
          refine' wpAnyH_take (i := 3) (oi := ⟨some 29, .load 24 (.tmp 28), _, _, _, some (1, false)⟩) (v := undef) rfl (by kernel_rfl) (by kernel_rfl) (by kernel_rfl) (fun _ _ _ h => h) (Or.inr ⟨by rfl, rfl⟩) (by assumption) ?rest17
          case rest17 =>
          go_frame
          refine' wpAnyH_take (i := 4) (oi := ⟨some 30, .move (.tmp 8), _, _, _, some (1, false)⟩) (v := undef) rfl (by kernel_rfl) (by kernel_rfl) (by kernel_rfl) (fun _ _ _ h => h) (Or.inr ⟨by rfl, rfl⟩) (by assumption) ?rest18
          case rest18 =>
          go_frame
          refine' wpAnyH_take (i := 5) (oi := ⟨some 31, .indexAddr 24 (.tmp 29) (.tmp 30), _, _, _, some (1, false)⟩) (v := undef) rfl (by kernel_rfl) (by kernel_rfl) (by kernel_rfl) (fun _ _ _ h => h) (Or.inr ⟨by rfl, rfl⟩) (by assumption) ?rest19
          case rest19 =>
          go_frame
          refine' wpAnyH_take (i := 6) (oi := ⟨some 32, .load 22 (.tmp 31), _, _, _, some (1, false)⟩) (v := undef) rfl (by kernel_rfl) (by kernel_rfl) (by kernel_rfl) (fun _ _ _ h => h) (Or.inr ⟨by rfl, rfl⟩) (by assumption) ?rest20
          case rest20 =>
          go_frame
          refine' wpAnyH_take (i := 7) (oi := ⟨some 33, .convert 22 9 (.tmp 32), _, _, _, some (1, false)⟩) (v := undef) rfl (by kernel_rfl) (by kernel_rfl) (by kernel_rfl) (fun _ _ _ h => h) (Or.inr ⟨by rfl, rfl⟩) (by assumption) ?rest21
          case rest21 =>
          go_frame
          refine' wpAnyH_take (i := 8) (oi := ⟨some 34, .move (.tmp 1), _, _, _, some (1, false)⟩) (v := undef) rfl (by kernel_rfl) (by kernel_rfl) (by kernel_rfl) (fun _ _ _ h => h) (Or.inr ⟨by rfl, rfl⟩) (by assumption) ?rest22
          case rest22 =>
          go_frame
          refine' wpAnyH_take (i := 9) (oi := ⟨some 35, .convert 22 9 (.tmp 34), _, _, _, some (1, false)⟩) (v := undef) rfl (by kernel_rfl) (by kernel_rfl) (by kernel_rfl) (fun _ _ _ h => h) (Or.inr ⟨by rfl, rfl⟩) (by assumption) ?rest23
          case rest23 =>
          go_frame
          refine' wpAnyH_take (i := 10) (oi := ⟨some 36, .binOp .eql 9 (.tmp 33) (.tmp 35) 9, _, _, _, some (1, false)⟩) (v := undef) rfl (by kernel_rfl) (by kernel_rfl) (by kernel_rfl) (fun _ _ _ h => h) (Or.inr ⟨by rfl, rfl⟩) (by assumption) ?rest24
          case rest24 =>
          go_frame
          refine' wpAnyH_take (i := 11) (oi := ⟨some 37, .pick (.tmp 27) (.const (.bool true)) (.tmp 36), _, _, _, none⟩) (v := _) rfl (by kernel_rfl) (by kernel_rfl) (by kernel_rfl) (fun _ _ _ h => h) (Or.inl ⟨by rfl, ?hy25⟩) (by assumption) ?rest25
          case hy25 => (intro w hSw; obtain ⟨s0, s1, s2, s3⟩ := hSw; go_simp <;> with_reducible rfl)
          case rest25 =>
          go_frame
          refine' wpAnyH_take (i := 12) (oi := ⟨some 7, .assign (.tmp 37), _, _, _, none⟩) (v := _) rfl (by kernel_rfl) (by kernel_rfl) (by kernel_rfl) (fun _ _ _ h => h) (Or.inl ⟨by rfl, ?hy26⟩) (by assumption) ?rest26
          case hy26 => (intro w hSw; obtain ⟨s0, s1, s2, s3⟩ := hSw; go_simp <;> with_reducible rfl)
          case rest26 =>
          go_frame
          refine wpAnyH_done (by kernel_rfl) ?_ _
          go_wp2_with fail
          go_roundw
          case rel =>
            refine ⟨k + 1, by omega, by go_num, ?_, ?_, Lib.hid ⟨HX3.out.later HX3.out.lt (Below.refl _ _).drew, Hb3.out.drew⟩⟩
            · rw [Hst.out, if_neg (by have := H1.out; omega)]; rfl
            · rw [Hsh.out, Bool.true_or]
          case measure => simp [intOf]; omega
    · have h5 : a ≤ k := by omega
      have hk2 : k = a := by omega
      have Hk := Lib.hid hk2
      clear hlt hk2
      go_wp2_with fail
      go_ret2
      exact ⟨by rw [Hk.out]; rfl, HI.out.2⟩
end Go.Proofs.Ytceefoopehoalaa
