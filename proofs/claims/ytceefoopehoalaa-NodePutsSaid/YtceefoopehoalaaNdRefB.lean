/-
  The document's own Sound of layer 7, by contract.
-/
import Derived.Test.YtceefoopehoalaaNdRefA
namespace Go.Proofs.Ytceefoopehoalaa
open Go.RowKit
theorem snd_no {n : Nd} {k : Nat} (hk : k < n.keys.length) (h : ¬ KeyAt n.keys k) : false = sndB n := (sndB_not fun g => h (g.keys k hk)).symm
theorem snd_noV {n : Nd} {k : Nat} (hk : k < n.vals.length) (h : ¬ (n.vals.getD k []).length ≤ 24) : false = sndB n := (sndB_not fun g => h (g.vals k hk)).symm
theorem snd_noD {n : Nd} {k : Nat} (hk : k < n.kids.length) (h : ¬ KidOk (n.kids.getD k 0)) : false = sndB n := (sndB_not fun g => h (g.kids k hk)).symm
theorem snd_end {n : Nd} (hk : KeysOk n.keys) (hv : ValsOk n.vals) (hd : KidsOk n.kids) : sndB n = (if n.leaf then (decide (n.vals.length = n.keys.length) && decide (n.kids.length = 0)) else (decide (0 < n.keys.length) && decide (n.kids.length = n.keys.length + 1) && decide (n.vals.length = 0))) := by
  rw [Bool.eq_iff_iff, sndB_iff]
  cases hl : n.leaf
  · rw [if_neg (by decide)]
    simp only [Bool.and_eq_true, decide_eq_true_eq]
    exact ⟨fun g => ⟨⟨(g.ofNot hl).2.1, (g.ofNot hl).2.2⟩, (g.ofNot hl).1⟩, fun g => ⟨hk, hv, hd, fun h => (by rw [hl] at h; cases h), fun _ => ⟨g.2, g.1.1, g.1.2⟩⟩⟩
  · rw [if_pos rfl]
    simp only [Bool.and_eq_true, decide_eq_true_eq]
    exact ⟨fun g => ⟨(g.ofLeaf hl).2, (g.ofLeaf hl).1⟩, fun g => ⟨hk, hv, hd, fun _ => ⟨g.2, g.1⟩, fun h => (by rw [hl] at h; cases h)⟩⟩
set_option maxRecDepth 100000 in
set_option maxHeartbeats 1000000 in
theorem rsound_any {n : Nd} {K V D : Value} {w : World} {B : Nat} (hr : NdIs w B K V D n) (hB : B ≤ w.heap.size) (hs : n.Short 1000000) (hkl : ∀ j, j < n.keys.length → (n.keys.getD j []).length ≤ 1000000) :
    Calls Try.prog 15 #[ndVal n.leaf K V D] w fun e w' => e = .returned (.bool (sndB n)) ∧ Below w.heap.size w w' := by
  obtain ⟨A1, c1, A2, c2, A3, c3, rfl, rfl, rfl⟩ := hr.form
  obtain ⟨hs1, hs2, hs3⟩ := hs
  have hno := fun k (hk : k < n.keys.length) => snd_no (n := n) hk
  have hnoV := fun k (hk : k < n.vals.length) => snd_noV (n := n) hk
  have hnoD := fun k (hk : k < n.kids.length) => snd_noD (n := n) hk
  have hend := fun h1 h2 h3 => snd_end (n := n) h1 h2 h3
  have hcells := fun (b o : Nat) (he : A1 = some ⟨b, o, none⟩) k (hk : k < n.keys.length) => (show RdAll w B (.slice (some ⟨b, o, none⟩) n.keys.length c1) n.keys by rw [← he]; exact hr.keys).later hB hk
  have hcellsV := fun (b o : Nat) (he : A2 = some ⟨b, o, none⟩) k (hk : k < n.vals.length) => (show RdAll w B (.slice (some ⟨b, o, none⟩) n.vals.length c2) n.vals by rw [← he]; exact hr.vals).later hB hk
  have hcellsD := fun (W : World) (hW : Below w.heap.size w W) (b o : Nat) (he : A3 = some ⟨b, o, none⟩) k (hk : k < n.kids.length) => ((show Rd w w.heap.size (.slice (some ⟨b, o, none⟩) n.kids.length c3) (cellsI n.kids) by rw [← he]; exact hr.kids.more hB).below hW).cellI hk
  have haddr := fun (h : 0 < n.keys.length) => hr.keys.addr h
  have haddrV := fun (h : 0 < n.vals.length) => hr.vals.addr h
  have haddrD := fun (h : 0 < n.kids.length) => hr.kids.addrI h
  obtain ⟨lf, hlf⟩ : ∃ x, x = n.leaf := ⟨_, rfl⟩
  obtain ⟨a, ha⟩ : ∃ x, x = n.keys.length := ⟨_, rfl⟩
  obtain ⟨b, hb⟩ : ∃ x, x = n.vals.length := ⟨_, rfl⟩
  obtain ⟨d, hd⟩ : ∃ x, x = n.kids.length := ⟨_, rfl⟩
  rw [← ha] at hs1 hno hcells hkl haddr ⊢
  rw [← hb] at hs2 hnoV hcellsV haddrV ⊢
  rw [← hd] at hs3 hnoD hcellsD haddrD ⊢
  rw [← ha, ← hb, ← hd, ← hlf] at hend
  rw [← hlf]
  have hb0 : Below w.heap.size w (w.alloc (.cells #[.bool lf, .slice A1 a c1, .slice A2 b c2, .slice A3 d c3] 27)) := (Below.refl _ _).alloc (Nat.le_refl _) _
  have hbox := NdBox.made w lf (.slice A1 a c1) (.slice A2 b c2) (.slice A3 d c3)
  have HX := Lib.hid hbox
  have H0 := Lib.hid hb0
  have HNo := Lib.hid hno
  have HNoV := Lib.hid hnoV
  have HNoD := Lib.hid hnoD
  have HEnd := Lib.hid hend
  have HC := Lib.hid hcells
  have HCV := Lib.hid hcellsV
  have HCD := Lib.hid hcellsD
  have HAd := Lib.hid haddr
  have HAdV := Lib.hid haddrV
  have HAdD := Lib.hid haddrD
  have HKL := Lib.hid hkl
  have Ha := Lib.hid ha
  have Hb := Lib.hid hb
  have Hd := Lib.hid hd
  clear hr hB hno hnoV hnoD hend hcells hcellsV hcellsD haddr haddrV haddrD hlf ha hb hd hb0 hbox hkl
  go_enter Try.func15, Try.ntmps15
  go_wp2_with fail
  go_loopw [3] (fun iv wr => ∃ k : Nat, k ≤ a ∧ iv = .int .i64 (k : Int) ∧ Hid ((∀ j, j < k → KeyAt n.keys j) ∧ NdBox wr w.heap.size lf (.slice A1 a c1) (.slice A2 b c2) (.slice A3 d c3) ∧ Below w.heap.size w wr)) (fun iv _ => a - (intOf iv).toNat)
  case atStart => exact ⟨0, Nat.zero_le _, rfl, Lib.hid ⟨fun j h => by omega, HX.out, H0.out⟩⟩
  case round =>
    obtain ⟨k, hk, rfl, HI⟩ := hrel
    by_cases hlt : k < a
    · obtain ⟨bk, ok, rfl, _⟩ := HAd.out (by omega)
      obtain ⟨A', m, c', hm, hmc, hmx, hcl⟩ := HC.out bk ok rfl k hlt
      have hm2 : m ≤ 1000000 := by rw [hm]; exact HKL.out k hlt
      obtain ⟨x0, x1, x2, x3⟩ := HI.out.2.1
      have hck := (hcl wr HI.out.2.2).1
      have Hcl := Lib.hid hcl
      have Hm := Lib.hid hm
      have k0 : (0 : Int) ≤ (k : Int) := by omega
      have k1 : (k : Int) < (a : Int) := by omega
      have k3 : (k : Int).toNat = k := by omega
      clear hm hcl x0 x2 x3
      by_cases h1 : 1 ≤ m
      · by_cases h2 : m ≤ 24
        · by_cases hk0 : 0 < k
          · obtain ⟨j, hj⟩ : ∃ j, k = j + 1 := ⟨k - 1, by omega⟩
            obtain ⟨A9, m9, c9, hm9, hmc9, hmx9, hcl9⟩ := HC.out bk ok rfl j (by omega)
            have hcj := (hcl9 wr HI.out.2.2).1
            have hwr : IntKind.i64.wrap ((k : Int) - 1) = (j : Int) := by rw [IntWalk.i64_in _ (by omega)]; omega
            have j0 : (0 : Int) ≤ (j : Int) := by omega
            have j1 : (j : Int) < (a : Int) := by omega
            have j3 : (j : Int).toNat = j := by omega
            have hcmp := fun (W : World) (hW : Below w.heap.size w W) => cmp_any (hcl9 W hW).2.1 (Hcl.out W hW).2.1 hW.size hW.size (HKL.out j (by omega)) (by rw [← Hm.out]; exact hm2)
            obtain ⟨x, hx⟩ : ∃ x, x = dcmp (n.keys.getD j []) (n.keys.getD k []) := ⟨_, rfl⟩
            rw [← hx] at hcmp
            have HCm := Lib.hid hcmp
            have hsg : (x < 0 ↔ cmpB (n.keys.getD j []) (n.keys.getD k []) < 0) := by rw [hx]; exact dcmp_neg
            have Hsg := Lib.hid hsg
            have Hj := Lib.hid hj
            have S0 : wr.drew.cell? ⟨w.heap.size, 1, none⟩ = some (.slice (some ⟨bk, ok, none⟩) a c1) ∧ wr.drew.cell? ⟨bk, ok + k, none⟩ = some (.slice A' m c') ∧ wr.drew.cell? ⟨bk, ok + j, none⟩ = some (.slice A9 m9 c9) := ⟨x1, hck, hcj⟩
            have HcS := Lib.hid (fun (W : World) (hW : Below wr.heap.size wr W) => (⟨(hW.cell (p := ⟨w.heap.size, 1, none⟩) HI.out.2.1.lt).trans x1, (Hcl.out W (up HI.out.2.2 hW)).1, (hcl9 W (up HI.out.2.2 hW)).1⟩ : W.cell? ⟨w.heap.size, 1, none⟩ = some (.slice (some ⟨bk, ok, none⟩) a c1) ∧ W.cell? ⟨bk, ok + k, none⟩ = some (.slice A' m c') ∧ W.cell? ⟨bk, ok + j, none⟩ = some (.slice A9 m9 c9)))
            have t1 : decide ((m : Int) < 1) = false := by simp; omega
            have t2 : decide ((24 : Int) < (m : Int)) = false := by simp; omega
            have t3 : decide (0 < k) = true := by simp; omega
            have Hh1 := Lib.hid h1
            have Hh2 := Lib.hid h2
            have Hk0 := Lib.hid hk0
            clear hm9 hcl9 hcmp hx hsg hj hck hcj h1 h2 hk0
            by_cases hneg : x < 0
            · have t4 : decide ((0 : Int) ≤ x) = false := by simp; omega
              have Hneg := Lib.hid hneg
              clear hneg
              go_wp2_with fail
              go_region_held3 (fun w' => w'.cell? ⟨w.heap.size, 1, none⟩ = some (.slice (some ⟨bk, ok, none⟩) a c1) ∧ w'.cell? ⟨bk, ok + k, none⟩ = some (.slice A' m c') ∧ w'.cell? ⟨bk, ok + j, none⟩ = some (.slice A9 m9 c9))
                (first | exact S3.out | exact S0)
                (first | (go_at_call 35; refine (HCm.out _ HI.out.2.2.drew).mono ?_; rintro e w3 ⟨rfl, hb3⟩; have Hb3 := Lib.hid ((up_drew (Below.refl wr.heap.size wr)).trans hb3); have S3 := Lib.hid (HcS.out _ Hb3.out); clear hb3))
              go_wp2_with fail
              go_roundw
              case rel => exact ⟨k + 1, by omega, by go_num, Lib.hid ⟨fun i hi => by
                by_cases e : i = k
                · subst e; refine ⟨⟨by rw [← Hm.out]; exact Hh1.out, by rw [← Hm.out]; exact Hh2.out⟩, fun _ => ?_⟩
                  rw [show i - 1 = j by have := Hj.out; omega]
                  exact Hsg.out.1 Hneg.out
                · exact HI.out.1 i (by omega), HI.out.2.1.later HI.out.2.1.lt Hb3.out, up HI.out.2.2 Hb3.out⟩⟩
              case measure => simp [intOf]; omega
            · have t4 : decide ((0 : Int) ≤ x) = true := by simp; omega
              have Hneg := Lib.hid hneg
              clear hneg
              go_wp2_with fail
              go_region_held3 (fun w' => w'.cell? ⟨w.heap.size, 1, none⟩ = some (.slice (some ⟨bk, ok, none⟩) a c1) ∧ w'.cell? ⟨bk, ok + k, none⟩ = some (.slice A' m c') ∧ w'.cell? ⟨bk, ok + j, none⟩ = some (.slice A9 m9 c9))
                (first | exact S3.out | exact S0)
                (first | (go_at_call 35; refine (HCm.out _ HI.out.2.2.drew).mono ?_; rintro e w3 ⟨rfl, hb3⟩; have Hb3 := Lib.hid ((up_drew (Below.refl wr.heap.size wr)).trans hb3); have S3 := Lib.hid (HcS.out _ Hb3.out); clear hb3))
              go_wp2_with fail
              go_ret
              exact ⟨by rw [← HNo.out k hlt (fun g => by
                have := g.2 Hk0.out
                rw [show k - 1 = j by have := Hj.out; omega] at this
                have h9 := Hsg.out.2 this
                have h8 := Hneg.out
                omega)]; rfl, up HI.out.2.2 Hb3.out⟩
          · have t1 : decide ((m : Int) < 1) = false := by simp; omega
            have t2 : decide ((24 : Int) < (m : Int)) = false := by simp; omega
            have t3 : decide (0 < k) = false := by simp; omega
            have Hh1 := Lib.hid h1
            have Hh2 := Lib.hid h2
            have Hk0 := Lib.hid hk0
            clear h1 h2 hk0
            go_wp2_with fail
            refine wp_region_held_drew (S := fun w' => w'.cell? ⟨w.heap.size, 1, none⟩ = some (.slice (some ⟨bk, ok, none⟩) a c1) ∧ w'.cell? ⟨bk, ok + k, none⟩ = some (.slice A' m c')) (by kernel_rfl) ⟨x1, hck⟩ (fun hHeld => ?_)
            refine' wpAnyH_take (i := 0) (oi := ⟨some 13, .fieldAddr 27 (.tmp 1) 1, _, _, _, none⟩) (v := _) rfl (by kernel_rfl) (by kernel_rfl) (by kernel_rfl) (fun _ _ _ h => h) (Or.inl ⟨by rfl, ?hy1⟩) (by assumption) ?rest1
            case hy1 => (intro w hSw; obtain ⟨s0, s1⟩ := hSw; go_simp <;> with_reducible rfl)
            case rest1 =>
            go_frame
            refine' wpAnyH_take (i := 1) (oi := ⟨some 14, .load 24 (.tmp 13), _, _, _, none⟩) (v := _) rfl (by kernel_rfl) (by kernel_rfl) (by kernel_rfl) (fun _ _ _ h => h) (Or.inl ⟨by rfl, ?hy2⟩) (by assumption) ?rest2
            case hy2 => (intro w hSw; obtain ⟨s0, s1⟩ := hSw; go_simp <;> with_reducible rfl)
            case rest2 =>
            go_frame
            refine' wpAnyH_take (i := 2) (oi := ⟨some 15, .move (.tmp 3), _, _, _, none⟩) (v := _) rfl (by kernel_rfl) (by kernel_rfl) (by kernel_rfl) (fun _ _ _ h => h) (Or.inl ⟨by rfl, ?hy3⟩) (by assumption) ?rest3
            case hy3 => (intro w hSw; obtain ⟨s0, s1⟩ := hSw; go_simp <;> with_reducible rfl)
            case rest3 =>
            go_frame
            refine' wpAnyH_take (i := 3) (oi := ⟨some 16, .indexAddr 24 (.tmp 14) (.tmp 15), _, _, _, none⟩) (v := _) rfl (by kernel_rfl) (by kernel_rfl) (by kernel_rfl) (fun _ _ _ h => h) (Or.inl ⟨by rfl, ?hy4⟩) (by assumption) ?rest4
            case hy4 => (intro w hSw; obtain ⟨s0, s1⟩ := hSw; go_simp <;> with_reducible rfl)
            case rest4 =>
            go_frame
            refine' wpAnyH_take (i := 4) (oi := ⟨some 17, .load 22 (.tmp 16), _, _, _, none⟩) (v := _) rfl (by kernel_rfl) (by kernel_rfl) (by kernel_rfl) (fun _ _ _ h => h) (Or.inl ⟨by rfl, ?hy5⟩) (by assumption) ?rest5
            case hy5 => (intro w hSw; obtain ⟨s0, s1⟩ := hSw; go_simp <;> with_reducible rfl)
            case rest5 =>
            go_frame
            refine' wpAnyH_take (i := 5) (oi := ⟨some 18, .call { callee := .builtin .len, args := #[.tmp 17], argTypes := #[22] }, _, _, _, none⟩) (v := _) rfl (by kernel_rfl) (by kernel_rfl) (by kernel_rfl) (fun _ _ _ h => h) (Or.inl ⟨by rfl, ?hy6⟩) (by assumption) ?rest6
            case hy6 => (intro w hSw; obtain ⟨s0, s1⟩ := hSw; go_simp <;> with_reducible rfl)
            case rest6 =>
            go_frame
            refine' wpAnyH_take (i := 6) (oi := ⟨some 19, .binOp .lss 3 (.tmp 18) (.const (.int .i64 1)) 3, _, _, _, none⟩) (v := _) rfl (by kernel_rfl) (by kernel_rfl) (by kernel_rfl) (fun _ _ _ h => h) (Or.inl ⟨by rfl, ?hy7⟩) (by assumption) ?rest7
            case hy7 => (intro w hSw; obtain ⟨s0, s1⟩ := hSw; go_simp <;> with_reducible rfl)
            case rest7 =>
            go_frame
            refine' wpAnyH_take (i := 7) (oi := ⟨some 20, .move (.tmp 19), _, _, _, none⟩) (v := _) rfl (by kernel_rfl) (by kernel_rfl) (by kernel_rfl) (fun _ _ _ h => h) (Or.inl ⟨by rfl, ?hy8⟩) (by assumption) ?rest8
            case hy8 => (intro w hSw; obtain ⟨s0, s1⟩ := hSw; go_simp <;> with_reducible rfl)
            case rest8 =>
            go_frame
            refine' wpAnyH_take (i := 8) (oi := ⟨some 21, .fieldAddr 27 (.tmp 1) 1, _, _, _, some (7, false)⟩) (v := _) rfl (by kernel_rfl) (by kernel_rfl) (by kernel_rfl) (fun _ _ _ h => h) (Or.inl ⟨by rfl, ?hy9⟩) (by assumption) ?rest9
            case hy9 => (intro w hSw; obtain ⟨s0, s1⟩ := hSw; go_simp <;> with_reducible rfl)
            case rest9 =>
            go_frame
            refine' wpAnyH_take (i := 9) (oi := ⟨some 22, .load 24 (.tmp 21), _, _, _, some (7, false)⟩) (v := _) rfl (by kernel_rfl) (by kernel_rfl) (by kernel_rfl) (fun _ _ _ h => h) (Or.inl ⟨by rfl, ?hy10⟩) (by assumption) ?rest10
            case hy10 => (intro w hSw; obtain ⟨s0, s1⟩ := hSw; go_simp <;> with_reducible rfl)
            case rest10 =>
            go_frame
            refine' wpAnyH_take (i := 10) (oi := ⟨some 23, .move (.tmp 3), _, _, _, some (7, false)⟩) (v := _) rfl (by kernel_rfl) (by kernel_rfl) (by kernel_rfl) (fun _ _ _ h => h) (Or.inl ⟨by rfl, ?hy11⟩) (by assumption) ?rest11
            case hy11 => (intro w hSw; obtain ⟨s0, s1⟩ := hSw; go_simp <;> with_reducible rfl)
            case rest11 =>
            go_frame
            refine' wpAnyH_take (i := 11) (oi := ⟨some 24, .indexAddr 24 (.tmp 22) (.tmp 23), _, _, _, some (7, false)⟩) (v := _) rfl (by kernel_rfl) (by kernel_rfl) (by kernel_rfl) (fun _ _ _ h => h) (Or.inl ⟨by rfl, ?hy12⟩) (by assumption) ?rest12
            case hy12 => (intro w hSw; obtain ⟨s0, s1⟩ := hSw; go_simp <;> with_reducible rfl)
            case rest12 =>
            go_frame
            refine' wpAnyH_take (i := 12) (oi := ⟨some 25, .load 22 (.tmp 24), _, _, _, some (7, false)⟩) (v := _) rfl (by kernel_rfl) (by kernel_rfl) (by kernel_rfl) (fun _ _ _ h => h) (Or.inl ⟨by rfl, ?hy13⟩) (by assumption) ?rest13
            case hy13 => (intro w hSw; obtain ⟨s0, s1⟩ := hSw; go_simp <;> with_reducible rfl)
            case rest13 =>
            go_frame
            refine' wpAnyH_take (i := 13) (oi := ⟨some 26, .call { callee := .builtin .len, args := #[.tmp 25], argTypes := #[22] }, _, _, _, some (7, false)⟩) (v := _) rfl (by kernel_rfl) (by kernel_rfl) (by kernel_rfl) (fun _ _ _ h => h) (Or.inl ⟨by rfl, ?hy14⟩) (by assumption) ?rest14
            case hy14 => (intro w hSw; obtain ⟨s0, s1⟩ := hSw; go_simp <;> with_reducible rfl)
            case rest14 =>
            go_frame
            refine' wpAnyH_take (i := 14) (oi := ⟨some 27, .binOp .gtr 3 (.tmp 26) (.const (.int .i64 24)) 3, _, _, _, some (7, false)⟩) (v := _) rfl (by kernel_rfl) (by kernel_rfl) (by kernel_rfl) (fun _ _ _ h => h) (Or.inl ⟨by rfl, ?hy15⟩) (by assumption) ?rest15
            case hy15 => (intro w hSw; obtain ⟨s0, s1⟩ := hSw; go_simp <;> with_reducible rfl)
            case rest15 =>
            go_frame
            refine' wpAnyH_take (i := 15) (oi := ⟨some 28, .pick (.tmp 20) (.const (.bool true)) (.tmp 27), _, _, _, none⟩) (v := _) rfl (by kernel_rfl) (by kernel_rfl) (by kernel_rfl) (fun _ _ _ h => h) (Or.inl ⟨by rfl, ?hy16⟩) (by assumption) ?rest16
            case hy16 => (intro w hSw; obtain ⟨s0, s1⟩ := hSw; go_simp <;> with_reducible rfl)
            case rest16 =>
            go_frame
            refine' wpAnyH_take (i := 16) (oi := ⟨some 29, .move (.tmp 28), _, _, _, none⟩) (v := _) rfl (by kernel_rfl) (by kernel_rfl) (by kernel_rfl) (fun _ _ _ h => h) (Or.inl ⟨by rfl, ?hy17⟩) (by assumption) ?rest17
            case hy17 => (intro w hSw; obtain ⟨s0, s1⟩ := hSw; go_simp <;> with_reducible rfl)
            case rest17 =>
            go_frame
            refine' wpAnyH_take (i := 17) (oi := ⟨some 30, .move (.tmp 3), _, _, _, some (16, false)⟩) (v := _) rfl (by kernel_rfl) (by kernel_rfl) (by kernel_rfl) (fun _ _ _ h => h) (Or.inl ⟨by rfl, ?hy18⟩) (by assumption) ?rest18
            case hy18 => (intro w hSw; obtain ⟨s0, s1⟩ := hSw; go_simp <;> with_reducible rfl)
            case rest18 =>
            go_frame
            refine' wpAnyH_take (i := 18) (oi := ⟨some 31, .binOp .gtr 3 (.tmp 30) (.const (.int .i64 0)) 3, _, _, _, some (16, false)⟩) (v := _) rfl (by kernel_rfl) (by kernel_rfl) (by kernel_rfl) (fun _ _ _ h => h) (Or.inl ⟨by rfl, ?hy19⟩) (by assumption) ?rest19
            case hy19 => (intro w hSw; obtain ⟨s0, s1⟩ := hSw; go_simp <;> with_reducible rfl)
            case rest19 =>
            go_frame
            refine' wpAnyH_take (i := 19) (oi := ⟨some 32, .move (.tmp 31), _, _, _, some (16, false)⟩) (v := _) rfl (by kernel_rfl) (by kernel_rfl) (by kernel_rfl) (fun _ _ _ h => h) (Or.inl ⟨by rfl, ?hy20⟩) (by assumption) ?rest20
            case hy20 => (intro w hSw; obtain ⟨s0, s1⟩ := hSw; go_simp <;> with_reducible rfl)
            case rest20 =>
            go_frame
            refine' wpAnyH_take (i := 20) (oi := ⟨some 33, .fieldAddr 27 (.tmp 1) 1, _, _, _, some (19, true)⟩) (v := undef) rfl (by kernel_rfl) (by kernel_rfl) (by kernel_rfl) (fun _ _ _ h => h) (Or.inr ⟨by rfl, rfl⟩) (by assumption) ?rest21
            case rest21 =>
            go_frame
            refine' wpAnyH_take (i := 21) (oi := ⟨some 34, .load 24 (.tmp 33), _, _, _, some (19, true)⟩) (v := undef) rfl (by kernel_rfl) (by kernel_rfl) (by kernel_rfl) (fun _ _ _ h => h) (Or.inr ⟨by rfl, rfl⟩) (by assumption) ?rest22
            case rest22 =>
            go_frame
            refine' wpAnyH_take (i := 22) (oi := ⟨some 35, .move (.tmp 3), _, _, _, some (19, true)⟩) (v := undef) rfl (by kernel_rfl) (by kernel_rfl) (by kernel_rfl) (fun _ _ _ h => h) (Or.inr ⟨by rfl, rfl⟩) (by assumption) ?rest23
            case rest23 =>
            go_frame
            refine' wpAnyH_take (i := 23) (oi := ⟨some 36, .binOp .sub 3 (.tmp 35) (.const (.int .i64 1)) 3, _, _, _, some (19, true)⟩) (v := undef) rfl (by kernel_rfl) (by kernel_rfl) (by kernel_rfl) (fun _ _ _ h => h) (Or.inr ⟨by rfl, rfl⟩) (by assumption) ?rest24
            case rest24 =>
            go_frame
            refine' wpAnyH_take (i := 24) (oi := ⟨some 37, .indexAddr 24 (.tmp 34) (.tmp 36), _, _, _, some (19, true)⟩) (v := undef) rfl (by kernel_rfl) (by kernel_rfl) (by kernel_rfl) (fun _ _ _ h => h) (Or.inr ⟨by rfl, rfl⟩) (by assumption) ?rest25
            case rest25 =>
            go_frame
            refine' wpAnyH_take (i := 25) (oi := ⟨some 38, .load 22 (.tmp 37), _, _, _, some (19, true)⟩) (v := undef) rfl (by kernel_rfl) (by kernel_rfl) (by kernel_rfl) (fun _ _ _ h => h) (Or.inr ⟨by rfl, rfl⟩) (by assumption) ?rest26
            case rest26 =>
            go_frame
            refine' wpAnyH_take (i := 26) (oi := ⟨some 39, .fieldAddr 27 (.tmp 1) 1, _, _, _, some (19, true)⟩) (v := undef) rfl (by kernel_rfl) (by kernel_rfl) (by kernel_rfl) (fun _ _ _ h => h) (Or.inr ⟨by rfl, rfl⟩) (by assumption) ?rest27
            case rest27 =>
            go_frame
            refine' wpAnyH_take (i := 27) (oi := ⟨some 40, .load 24 (.tmp 39), _, _, _, some (19, true)⟩) (v := undef) rfl (by kernel_rfl) (by kernel_rfl) (by kernel_rfl) (fun _ _ _ h => h) (Or.inr ⟨by rfl, rfl⟩) (by assumption) ?rest28
            case rest28 =>
            go_frame
            refine' wpAnyH_take (i := 28) (oi := ⟨some 41, .move (.tmp 3), _, _, _, some (19, true)⟩) (v := undef) rfl (by kernel_rfl) (by kernel_rfl) (by kernel_rfl) (fun _ _ _ h => h) (Or.inr ⟨by rfl, rfl⟩) (by assumption) ?rest29
            case rest29 =>
            go_frame
            refine' wpAnyH_take (i := 29) (oi := ⟨some 42, .indexAddr 24 (.tmp 40) (.tmp 41), _, _, _, some (19, true)⟩) (v := undef) rfl (by kernel_rfl) (by kernel_rfl) (by kernel_rfl) (fun _ _ _ h => h) (Or.inr ⟨by rfl, rfl⟩) (by assumption) ?rest30
            case rest30 =>
            go_frame
            refine' wpAnyH_take (i := 30) (oi := ⟨some 43, .load 22 (.tmp 42), _, _, _, some (19, true)⟩) (v := undef) rfl (by kernel_rfl) (by kernel_rfl) (by kernel_rfl) (fun _ _ _ h => h) (Or.inr ⟨by rfl, rfl⟩) (by assumption) ?rest31
            case rest31 =>
            go_frame
            refine' wpAnyH_take (i := 31) (oi := ⟨some 44, .call { callee := .value (.func 35), args := #[.tmp 38, .tmp 43], argTypes := #[22, 22] }, _, _, _, some (19, true)⟩) (v := undef) rfl (by kernel_rfl) (by kernel_rfl) (by kernel_rfl) (fun _ _ _ h => h) (Or.inr ⟨by rfl, rfl⟩) (by assumption) ?rest32
            case rest32 =>
            go_frame
            refine' wpAnyH_take (i := 32) (oi := ⟨some 45, .binOp .geq 3 (.tmp 44) (.const (.int .i64 0)) 3, _, _, _, some (19, true)⟩) (v := undef) rfl (by kernel_rfl) (by kernel_rfl) (by kernel_rfl) (fun _ _ _ h => h) (Or.inr ⟨by rfl, rfl⟩) (by assumption) ?rest33
            case rest33 =>
            go_frame
            refine' wpAnyH_take (i := 33) (oi := ⟨some 46, .pick (.tmp 32) (.tmp 45) (.const (.bool false)), _, _, _, some (16, false)⟩) (v := _) rfl (by kernel_rfl) (by kernel_rfl) (by kernel_rfl) (fun _ _ _ h => h) (Or.inl ⟨by rfl, ?hy34⟩) (by assumption) ?rest34
            case hy34 => (intro w hSw; obtain ⟨s0, s1⟩ := hSw; go_simp <;> with_reducible rfl)
            case rest34 =>
            go_frame
            refine' wpAnyH_take (i := 34) (oi := ⟨some 47, .pick (.tmp 29) (.const (.bool true)) (.tmp 46), _, _, _, none⟩) (v := _) rfl (by kernel_rfl) (by kernel_rfl) (by kernel_rfl) (fun _ _ _ h => h) (Or.inl ⟨by rfl, ?hy35⟩) (by assumption) ?rest35
            case hy35 => (intro w hSw; obtain ⟨s0, s1⟩ := hSw; go_simp <;> with_reducible rfl)
            case rest35 =>
            go_frame
            refine wpAnyH_done (by kernel_rfl) ?_ _
            go_wp2_with fail
            go_roundw
            case rel => exact ⟨k + 1, by omega, by go_num, Lib.hid ⟨fun i hi => by
                obtain rfl : i = k := by have := Hk0.out; omega
                exact ⟨⟨by rw [← Hm.out]; exact Hh1.out, by rw [← Hm.out]; exact Hh2.out⟩, fun h => absurd h Hk0.out⟩, HI.out.2.1.later HI.out.2.1.lt ((Below.refl _ _).drew), HI.out.2.2.drew⟩⟩
            case measure => simp [intOf]; omega
        · have t1 : decide ((m : Int) < 1) = false := by simp; omega
          have t2 : decide ((24 : Int) < (m : Int)) = true := by simp; omega
          have H2 := Lib.hid h2
          clear h1 h2
          go_wp2_with fail
          refine wp_region_held_drew (S := fun w' => w'.cell? ⟨w.heap.size, 1, none⟩ = some (.slice (some ⟨bk, ok, none⟩) a c1) ∧ w'.cell? ⟨bk, ok + k, none⟩ = some (.slice A' m c')) (by kernel_rfl) ⟨x1, hck⟩ (fun hHeld => ?_)
          refine' wpAnyH_take (i := 0) (oi := ⟨some 13, .fieldAddr 27 (.tmp 1) 1, _, _, _, none⟩) (v := _) rfl (by kernel_rfl) (by kernel_rfl) (by kernel_rfl) (fun _ _ _ h => h) (Or.inl ⟨by rfl, ?hy36⟩) (by assumption) ?rest36
          case hy36 => (intro w hSw; obtain ⟨s0, s1⟩ := hSw; go_simp <;> with_reducible rfl)
          case rest36 =>
          go_frame
          refine' wpAnyH_take (i := 1) (oi := ⟨some 14, .load 24 (.tmp 13), _, _, _, none⟩) (v := _) rfl (by kernel_rfl) (by kernel_rfl) (by kernel_rfl) (fun _ _ _ h => h) (Or.inl ⟨by rfl, ?hy37⟩) (by assumption) ?rest37
          case hy37 => (intro w hSw; obtain ⟨s0, s1⟩ := hSw; go_simp <;> with_reducible rfl)
          case rest37 =>
          go_frame
          refine' wpAnyH_take (i := 2) (oi := ⟨some 15, .move (.tmp 3), _, _, _, none⟩) (v := _) rfl (by kernel_rfl) (by kernel_rfl) (by kernel_rfl) (fun _ _ _ h => h) (Or.inl ⟨by rfl, ?hy38⟩) (by assumption) ?rest38
          case hy38 => (intro w hSw; obtain ⟨s0, s1⟩ := hSw; go_simp <;> with_reducible rfl)
          case rest38 =>
          go_frame
          refine' wpAnyH_take (i := 3) (oi := ⟨some 16, .indexAddr 24 (.tmp 14) (.tmp 15), _, _, _, none⟩) (v := _) rfl (by kernel_rfl) (by kernel_rfl) (by kernel_rfl) (fun _ _ _ h => h) (Or.inl ⟨by rfl, ?hy39⟩) (by assumption) ?rest39
          case hy39 => (intro w hSw; obtain ⟨s0, s1⟩ := hSw; go_simp <;> with_reducible rfl)
          case rest39 =>
          go_frame
          refine' wpAnyH_take (i := 4) (oi := ⟨some 17, .load 22 (.tmp 16), _, _, _, none⟩) (v := _) rfl (by kernel_rfl) (by kernel_rfl) (by kernel_rfl) (fun _ _ _ h => h) (Or.inl ⟨by rfl, ?hy40⟩) (by assumption) ?rest40
          case hy40 => (intro w hSw; obtain ⟨s0, s1⟩ := hSw; go_simp <;> with_reducible rfl)
          case rest40 =>
          go_frame
          refine' wpAnyH_take (i := 5) (oi := ⟨some 18, .call { callee := .builtin .len, args := #[.tmp 17], argTypes := #[22] }, _, _, _, none⟩) (v := _) rfl (by kernel_rfl) (by kernel_rfl) (by kernel_rfl) (fun _ _ _ h => h) (Or.inl ⟨by rfl, ?hy41⟩) (by assumption) ?rest41
          case hy41 => (intro w hSw; obtain ⟨s0, s1⟩ := hSw; go_simp <;> with_reducible rfl)
          case rest41 =>
          go_frame
          refine' wpAnyH_take (i := 6) (oi := ⟨some 19, .binOp .lss 3 (.tmp 18) (.const (.int .i64 1)) 3, _, _, _, none⟩) (v := _) rfl (by kernel_rfl) (by kernel_rfl) (by kernel_rfl) (fun _ _ _ h => h) (Or.inl ⟨by rfl, ?hy42⟩) (by assumption) ?rest42
          case hy42 => (intro w hSw; obtain ⟨s0, s1⟩ := hSw; go_simp <;> with_reducible rfl)
          case rest42 =>
          go_frame
          refine' wpAnyH_take (i := 7) (oi := ⟨some 20, .move (.tmp 19), _, _, _, none⟩) (v := _) rfl (by kernel_rfl) (by kernel_rfl) (by kernel_rfl) (fun _ _ _ h => h) (Or.inl ⟨by rfl, ?hy43⟩) (by assumption) ?rest43
          case hy43 => (intro w hSw; obtain ⟨s0, s1⟩ := hSw; go_simp <;> with_reducible rfl)
          case rest43 =>
          go_frame
          refine' wpAnyH_take (i := 8) (oi := ⟨some 21, .fieldAddr 27 (.tmp 1) 1, _, _, _, some (7, false)⟩) (v := _) rfl (by kernel_rfl) (by kernel_rfl) (by kernel_rfl) (fun _ _ _ h => h) (Or.inl ⟨by rfl, ?hy44⟩) (by assumption) ?rest44
          case hy44 => (intro w hSw; obtain ⟨s0, s1⟩ := hSw; go_simp <;> with_reducible rfl)
          case rest44 =>
          go_frame
          refine' wpAnyH_take (i := 9) (oi := ⟨some 22, .load 24 (.tmp 21), _, _, _, some (7, false)⟩) (v := _) rfl (by kernel_rfl) (by kernel_rfl) (by kernel_rfl) (fun _ _ _ h => h) (Or.inl ⟨by rfl, ?hy45⟩) (by assumption) ?rest45
          case hy45 => (intro w hSw; obtain ⟨s0, s1⟩ := hSw; go_simp <;> with_reducible rfl)
          case rest45 =>
          go_frame
          refine' wpAnyH_take (i := 10) (oi := ⟨some 23, .move (.tmp 3), _, _, _, some (7, false)⟩) (v := _) rfl (by kernel_rfl) (by kernel_rfl) (by kernel_rfl) (fun _ _ _ h => h) (Or.inl ⟨by rfl, ?hy46⟩) (by assumption) ?rest46
          case hy46 => (intro w hSw; obtain ⟨s0, s1⟩ := hSw; go_simp <;> with_reducible rfl)
          case rest46 =>
          go_frame
          refine' wpAnyH_take (i := 11) (oi := ⟨some 24, .indexAddr 24 (.tmp 22) (.tmp 23), _, _, _, some (7, false)⟩) (v := _) rfl (by kernel_rfl) (by kernel_rfl) (by kernel_rfl) (fun _ _ _ h => h) (Or.inl ⟨by rfl, ?hy47⟩) (by assumption) ?rest47
          case hy47 => (intro w hSw; obtain ⟨s0, s1⟩ := hSw; go_simp <;> with_reducible rfl)
          case rest47 =>
          go_frame
          refine' wpAnyH_take (i := 12) (oi := ⟨some 25, .load 22 (.tmp 24), _, _, _, some (7, false)⟩) (v := _) rfl (by kernel_rfl) (by kernel_rfl) (by kernel_rfl) (fun _ _ _ h => h) (Or.inl ⟨by rfl, ?hy48⟩) (by assumption) ?rest48
          case hy48 => (intro w hSw; obtain ⟨s0, s1⟩ := hSw; go_simp <;> with_reducible rfl)
          case rest48 =>
          go_frame
          refine' wpAnyH_take (i := 13) (oi := ⟨some 26, .call { callee := .builtin .len, args := #[.tmp 25], argTypes := #[22] }, _, _, _, some (7, false)⟩) (v := _) rfl (by kernel_rfl) (by kernel_rfl) (by kernel_rfl) (fun _ _ _ h => h) (Or.inl ⟨by rfl, ?hy49⟩) (by assumption) ?rest49
          case hy49 => (intro w hSw; obtain ⟨s0, s1⟩ := hSw; go_simp <;> with_reducible rfl)
          case rest49 =>
          go_frame
          refine' wpAnyH_take (i := 14) (oi := ⟨some 27, .binOp .gtr 3 (.tmp 26) (.const (.int .i64 24)) 3, _, _, _, some (7, false)⟩) (v := _) rfl (by kernel_rfl) (by kernel_rfl) (by kernel_rfl) (fun _ _ _ h => h) (Or.inl ⟨by rfl, ?hy50⟩) (by assumption) ?rest50
          case hy50 => (intro w hSw; obtain ⟨s0, s1⟩ := hSw; go_simp <;> with_reducible rfl)
          case rest50 =>
          go_frame
          refine' wpAnyH_take (i := 15) (oi := ⟨some 28, .pick (.tmp 20) (.const (.bool true)) (.tmp 27), _, _, _, none⟩) (v := _) rfl (by kernel_rfl) (by kernel_rfl) (by kernel_rfl) (fun _ _ _ h => h) (Or.inl ⟨by rfl, ?hy51⟩) (by assumption) ?rest51
          case hy51 => (intro w hSw; obtain ⟨s0, s1⟩ := hSw; go_simp <;> with_reducible rfl)
          case rest51 =>
          go_frame
          refine' wpAnyH_take (i := 16) (oi := ⟨some 29, .move (.tmp 28), _, _, _, none⟩) (v := _) rfl (by kernel_rfl) (by kernel_rfl) (by kernel_rfl) (fun _ _ _ h => h) (Or.inl ⟨by rfl, ?hy52⟩) (by assumption) ?rest52
          case hy52 => (intro w hSw; obtain ⟨s0, s1⟩ := hSw; go_simp <;> with_reducible rfl)
          case rest52 =>
          go_frame
          refine' wpAnyH_take (i := 17) (oi := ⟨some 30, .move (.tmp 3), _, _, _, some (16, false)⟩) (v := undef) rfl (by kernel_rfl) (by kernel_rfl) (by kernel_rfl) (fun _ _ _ h => h) (Or.inr ⟨by rfl, rfl⟩) (by assumption) ?rest53
          case rest53 =>
          go_frame
          refine' wpAnyH_take (i := 18) (oi := ⟨some 31, .binOp .gtr 3 (.tmp 30) (.const (.int .i64 0)) 3, _, _, _, some (16, false)⟩) (v := undef) rfl (by kernel_rfl) (by kernel_rfl) (by kernel_rfl) (fun _ _ _ h => h) (Or.inr ⟨by rfl, rfl⟩) (by assumption) ?rest54
          case rest54 =>
          go_frame
          refine' wpAnyH_take (i := 19) (oi := ⟨some 32, .move (.tmp 31), _, _, _, some (16, false)⟩) (v := undef) rfl (by kernel_rfl) (by kernel_rfl) (by kernel_rfl) (fun _ _ _ h => h) (Or.inr ⟨by rfl, rfl⟩) (by assumption) ?rest55
          case rest55 =>
          go_frame
          refine' wpAnyH_take (i := 20) (oi := ⟨some 33, .fieldAddr 27 (.tmp 1) 1, _, _, _, some (19, true)⟩) (v := undef) rfl (by kernel_rfl) (by kernel_rfl) (by kernel_rfl) (fun _ _ _ h => h) (Or.inr ⟨by rfl, rfl⟩) (by assumption) ?rest56
          case rest56 =>
          go_frame
          refine' wpAnyH_take (i := 21) (oi := ⟨some 34, .load 24 (.tmp 33), _, _, _, some (19, true)⟩) (v := undef) rfl (by kernel_rfl) (by kernel_rfl) (by kernel_rfl) (fun _ _ _ h => h) (Or.inr ⟨by rfl, rfl⟩) (by assumption) ?rest57
          case rest57 =>
          go_frame
          refine' wpAnyH_take (i := 22) (oi := ⟨some 35, .move (.tmp 3), _, _, _, some (19, true)⟩) (v := undef) rfl (by kernel_rfl) (by kernel_rfl) (by kernel_rfl) (fun _ _ _ h => h) (Or.inr ⟨by rfl, rfl⟩) (by assumption) ?rest58
          case rest58 =>
          go_frame
          refine' wpAnyH_take (i := 23) (oi := ⟨some 36, .binOp .sub 3 (.tmp 35) (.const (.int .i64 1)) 3, _, _, _, some (19, true)⟩) (v := undef) rfl (by kernel_rfl) (by kernel_rfl) (by kernel_rfl) (fun _ _ _ h => h) (Or.inr ⟨by rfl, rfl⟩) (by assumption) ?rest59
          case rest59 =>
          go_frame
          refine' wpAnyH_take (i := 24) (oi := ⟨some 37, .indexAddr 24 (.tmp 34) (.tmp 36), _, _, _, some (19, true)⟩) (v := undef) rfl (by kernel_rfl) (by kernel_rfl) (by kernel_rfl) (fun _ _ _ h => h) (Or.inr ⟨by rfl, rfl⟩) (by assumption) ?rest60
          case rest60 =>
          go_frame
          refine' wpAnyH_take (i := 25) (oi := ⟨some 38, .load 22 (.tmp 37), _, _, _, some (19, true)⟩) (v := undef) rfl (by kernel_rfl) (by kernel_rfl) (by kernel_rfl) (fun _ _ _ h => h) (Or.inr ⟨by rfl, rfl⟩) (by assumption) ?rest61
          case rest61 =>
          go_frame
          refine' wpAnyH_take (i := 26) (oi := ⟨some 39, .fieldAddr 27 (.tmp 1) 1, _, _, _, some (19, true)⟩) (v := undef) rfl (by kernel_rfl) (by kernel_rfl) (by kernel_rfl) (fun _ _ _ h => h) (Or.inr ⟨by rfl, rfl⟩) (by assumption) ?rest62
          case rest62 =>
          go_frame
          refine' wpAnyH_take (i := 27) (oi := ⟨some 40, .load 24 (.tmp 39), _, _, _, some (19, true)⟩) (v := undef) rfl (by kernel_rfl) (by kernel_rfl) (by kernel_rfl) (fun _ _ _ h => h) (Or.inr ⟨by rfl, rfl⟩) (by assumption) ?rest63
          case rest63 =>
          go_frame
          refine' wpAnyH_take (i := 28) (oi := ⟨some 41, .move (.tmp 3), _, _, _, some (19, true)⟩) (v := undef) rfl (by kernel_rfl) (by kernel_rfl) (by kernel_rfl) (fun _ _ _ h => h) (Or.inr ⟨by rfl, rfl⟩) (by assumption) ?rest64
          case rest64 =>
          go_frame
          refine' wpAnyH_take (i := 29) (oi := ⟨some 42, .indexAddr 24 (.tmp 40) (.tmp 41), _, _, _, some (19, true)⟩) (v := undef) rfl (by kernel_rfl) (by kernel_rfl) (by kernel_rfl) (fun _ _ _ h => h) (Or.inr ⟨by rfl, rfl⟩) (by assumption) ?rest65
          case rest65 =>
          go_frame
          refine' wpAnyH_take (i := 30) (oi := ⟨some 43, .load 22 (.tmp 42), _, _, _, some (19, true)⟩) (v := undef) rfl (by kernel_rfl) (by kernel_rfl) (by kernel_rfl) (fun _ _ _ h => h) (Or.inr ⟨by rfl, rfl⟩) (by assumption) ?rest66
          case rest66 =>
          go_frame
          refine' wpAnyH_take (i := 31) (oi := ⟨some 44, .call { callee := .value (.func 35), args := #[.tmp 38, .tmp 43], argTypes := #[22, 22] }, _, _, _, some (19, true)⟩) (v := undef) rfl (by kernel_rfl) (by kernel_rfl) (by kernel_rfl) (fun _ _ _ h => h) (Or.inr ⟨by rfl, rfl⟩) (by assumption) ?rest67
          case rest67 =>
          go_frame
          refine' wpAnyH_take (i := 32) (oi := ⟨some 45, .binOp .geq 3 (.tmp 44) (.const (.int .i64 0)) 3, _, _, _, some (19, true)⟩) (v := undef) rfl (by kernel_rfl) (by kernel_rfl) (by kernel_rfl) (fun _ _ _ h => h) (Or.inr ⟨by rfl, rfl⟩) (by assumption) ?rest68
          case rest68 =>
          go_frame
          refine' wpAnyH_take (i := 33) (oi := ⟨some 46, .pick (.tmp 32) (.tmp 45) (.const (.bool false)), _, _, _, some (16, false)⟩) (v := undef) rfl (by kernel_rfl) (by kernel_rfl) (by kernel_rfl) (fun _ _ _ h => h) (Or.inr ⟨by rfl, rfl⟩) (by assumption) ?rest69
          case rest69 =>
          go_frame
          refine' wpAnyH_take (i := 34) (oi := ⟨some 47, .pick (.tmp 29) (.const (.bool true)) (.tmp 46), _, _, _, none⟩) (v := _) rfl (by kernel_rfl) (by kernel_rfl) (by kernel_rfl) (fun _ _ _ h => h) (Or.inl ⟨by rfl, ?hy70⟩) (by assumption) ?rest70
          case hy70 => (intro w hSw; obtain ⟨s0, s1⟩ := hSw; go_simp <;> with_reducible rfl)
          case rest70 =>
          go_frame
          refine wpAnyH_done (by kernel_rfl) ?_ _
          go_wp2_with fail
          go_ret
          exact ⟨by rw [← HNo.out k hlt (fun g => H2.out (by rw [Hm.out]; exact g.1.2))]; rfl, HI.out.2.2.drew⟩
      · have t1 : decide ((m : Int) < 1) = true := by simp; omega
        have H1 := Lib.hid h1
        clear h1
        go_wp2_with fail
        refine wp_region_held_drew (S := fun w' => w'.cell? ⟨w.heap.size, 1, none⟩ = some (.slice (some ⟨bk, ok, none⟩) a c1) ∧ w'.cell? ⟨bk, ok + k, none⟩ = some (.slice A' m c')) (by kernel_rfl) ⟨x1, hck⟩ (fun hHeld => ?_)
        refine' wpAnyH_take (i := 0) (oi := ⟨some 13, .fieldAddr 27 (.tmp 1) 1, _, _, _, none⟩) (v := _) rfl (by kernel_rfl) (by kernel_rfl) (by kernel_rfl) (fun _ _ _ h => h) (Or.inl ⟨by rfl, ?hy71⟩) (by assumption) ?rest71
        case hy71 => (intro w hSw; obtain ⟨s0, s1⟩ := hSw; go_simp <;> with_reducible rfl)
        case rest71 =>
        go_frame
        refine' wpAnyH_take (i := 1) (oi := ⟨some 14, .load 24 (.tmp 13), _, _, _, none⟩) (v := _) rfl (by kernel_rfl) (by kernel_rfl) (by kernel_rfl) (fun _ _ _ h => h) (Or.inl ⟨by rfl, ?hy72⟩) (by assumption) ?rest72
        case hy72 => (intro w hSw; obtain ⟨s0, s1⟩ := hSw; go_simp <;> with_reducible rfl)
        case rest72 =>
        go_frame
        refine' wpAnyH_take (i := 2) (oi := ⟨some 15, .move (.tmp 3), _, _, _, none⟩) (v := _) rfl (by kernel_rfl) (by kernel_rfl) (by kernel_rfl) (fun _ _ _ h => h) (Or.inl ⟨by rfl, ?hy73⟩) (by assumption) ?rest73
        case hy73 => (intro w hSw; obtain ⟨s0, s1⟩ := hSw; go_simp <;> with_reducible rfl)
        case rest73 =>
        go_frame
        refine' wpAnyH_take (i := 3) (oi := ⟨some 16, .indexAddr 24 (.tmp 14) (.tmp 15), _, _, _, none⟩) (v := _) rfl (by kernel_rfl) (by kernel_rfl) (by kernel_rfl) (fun _ _ _ h => h) (Or.inl ⟨by rfl, ?hy74⟩) (by assumption) ?rest74
        case hy74 => (intro w hSw; obtain ⟨s0, s1⟩ := hSw; go_simp <;> with_reducible rfl)
        case rest74 =>
        go_frame
        refine' wpAnyH_take (i := 4) (oi := ⟨some 17, .load 22 (.tmp 16), _, _, _, none⟩) (v := _) rfl (by kernel_rfl) (by kernel_rfl) (by kernel_rfl) (fun _ _ _ h => h) (Or.inl ⟨by rfl, ?hy75⟩) (by assumption) ?rest75
        case hy75 => (intro w hSw; obtain ⟨s0, s1⟩ := hSw; go_simp <;> with_reducible rfl)
        case rest75 =>
        go_frame
        refine' wpAnyH_take (i := 5) (oi := ⟨some 18, .call { callee := .builtin .len, args := #[.tmp 17], argTypes := #[22] }, _, _, _, none⟩) (v := _) rfl (by kernel_rfl) (by kernel_rfl) (by kernel_rfl) (fun _ _ _ h => h) (Or.inl ⟨by rfl, ?hy76⟩) (by assumption) ?rest76
        case hy76 => (intro w hSw; obtain ⟨s0, s1⟩ := hSw; go_simp <;> with_reducible rfl)
        case rest76 =>
        go_frame
        refine' wpAnyH_take (i := 6) (oi := ⟨some 19, .binOp .lss 3 (.tmp 18) (.const (.int .i64 1)) 3, _, _, _, none⟩) (v := _) rfl (by kernel_rfl) (by kernel_rfl) (by kernel_rfl) (fun _ _ _ h => h) (Or.inl ⟨by rfl, ?hy77⟩) (by assumption) ?rest77
        case hy77 => (intro w hSw; obtain ⟨s0, s1⟩ := hSw; go_simp <;> with_reducible rfl)
        case rest77 =>
        go_frame
        refine' wpAnyH_take (i := 7) (oi := ⟨some 20, .move (.tmp 19), _, _, _, none⟩) (v := _) rfl (by kernel_rfl) (by kernel_rfl) (by kernel_rfl) (fun _ _ _ h => h) (Or.inl ⟨by rfl, ?hy78⟩) (by assumption) ?rest78
        case hy78 => (intro w hSw; obtain ⟨s0, s1⟩ := hSw; go_simp <;> with_reducible rfl)
        case rest78 =>
        go_frame
        refine' wpAnyH_take (i := 8) (oi := ⟨some 21, .fieldAddr 27 (.tmp 1) 1, _, _, _, some (7, false)⟩) (v := undef) rfl (by kernel_rfl) (by kernel_rfl) (by kernel_rfl) (fun _ _ _ h => h) (Or.inr ⟨by rfl, rfl⟩) (by assumption) ?rest79
        case rest79 =>
        go_frame
        refine' wpAnyH_take (i := 9) (oi := ⟨some 22, .load 24 (.tmp 21), _, _, _, some (7, false)⟩) (v := undef) rfl (by kernel_rfl) (by kernel_rfl) (by kernel_rfl) (fun _ _ _ h => h) (Or.inr ⟨by rfl, rfl⟩) (by assumption) ?rest80
        case rest80 =>
        go_frame
        refine' wpAnyH_take (i := 10) (oi := ⟨some 23, .move (.tmp 3), _, _, _, some (7, false)⟩) (v := undef) rfl (by kernel_rfl) (by kernel_rfl) (by kernel_rfl) (fun _ _ _ h => h) (Or.inr ⟨by rfl, rfl⟩) (by assumption) ?rest81
        case rest81 =>
        go_frame
        refine' wpAnyH_take (i := 11) (oi := ⟨some 24, .indexAddr 24 (.tmp 22) (.tmp 23), _, _, _, some (7, false)⟩) (v := undef) rfl (by kernel_rfl) (by kernel_rfl) (by kernel_rfl) (fun _ _ _ h => h) (Or.inr ⟨by rfl, rfl⟩) (by assumption) ?rest82
        case rest82 =>
        go_frame
        refine' wpAnyH_take (i := 12) (oi := ⟨some 25, .load 22 (.tmp 24), _, _, _, some (7, false)⟩) (v := undef) rfl (by kernel_rfl) (by kernel_rfl) (by kernel_rfl) (fun _ _ _ h => h) (Or.inr ⟨by rfl, rfl⟩) (by assumption) ?rest83
        case rest83 =>
        go_frame
        refine' wpAnyH_take (i := 13) (oi := ⟨some 26, .call { callee := .builtin .len, args := #[.tmp 25], argTypes := #[22] }, _, _, _, some (7, false)⟩) (v := undef) rfl (by kernel_rfl) (by kernel_rfl) (by kernel_rfl) (fun _ _ _ h => h) (Or.inr ⟨by rfl, rfl⟩) (by assumption) ?rest84
        case rest84 =>
        go_frame
        refine' wpAnyH_take (i := 14) (oi := ⟨some 27, .binOp .gtr 3 (.tmp 26) (.const (.int .i64 24)) 3, _, _, _, some (7, false)⟩) (v := undef) rfl (by kernel_rfl) (by kernel_rfl) (by kernel_rfl) (fun _ _ _ h => h) (Or.inr ⟨by rfl, rfl⟩) (by assumption) ?rest85
        case rest85 =>
        go_frame
        refine' wpAnyH_take (i := 15) (oi := ⟨some 28, .pick (.tmp 20) (.const (.bool true)) (.tmp 27), _, _, _, none⟩) (v := _) rfl (by kernel_rfl) (by kernel_rfl) (by kernel_rfl) (fun _ _ _ h => h) (Or.inl ⟨by rfl, ?hy86⟩) (by assumption) ?rest86
        case hy86 => (intro w hSw; obtain ⟨s0, s1⟩ := hSw; go_simp <;> with_reducible rfl)
        case rest86 =>
        go_frame
        refine' wpAnyH_take (i := 16) (oi := ⟨some 29, .move (.tmp 28), _, _, _, none⟩) (v := _) rfl (by kernel_rfl) (by kernel_rfl) (by kernel_rfl) (fun _ _ _ h => h) (Or.inl ⟨by rfl, ?hy87⟩) (by assumption) ?rest87
        case hy87 => (intro w hSw; obtain ⟨s0, s1⟩ := hSw; go_simp <;> with_reducible rfl)
        case rest87 =>
        go_frame
        refine' wpAnyH_take (i := 17) (oi := ⟨some 30, .move (.tmp 3), _, _, _, some (16, false)⟩) (v := undef) rfl (by kernel_rfl) (by kernel_rfl) (by kernel_rfl) (fun _ _ _ h => h) (Or.inr ⟨by rfl, rfl⟩) (by assumption) ?rest88
        case rest88 =>
        go_frame
        refine' wpAnyH_take (i := 18) (oi := ⟨some 31, .binOp .gtr 3 (.tmp 30) (.const (.int .i64 0)) 3, _, _, _, some (16, false)⟩) (v := undef) rfl (by kernel_rfl) (by kernel_rfl) (by kernel_rfl) (fun _ _ _ h => h) (Or.inr ⟨by rfl, rfl⟩) (by assumption) ?rest89
        case rest89 =>
        go_frame
        refine' wpAnyH_take (i := 19) (oi := ⟨some 32, .move (.tmp 31), _, _, _, some (16, false)⟩) (v := undef) rfl (by kernel_rfl) (by kernel_rfl) (by kernel_rfl) (fun _ _ _ h => h) (Or.inr ⟨by rfl, rfl⟩) (by assumption) ?rest90
        case rest90 =>
        go_frame
        refine' wpAnyH_take (i := 20) (oi := ⟨some 33, .fieldAddr 27 (.tmp 1) 1, _, _, _, some (19, true)⟩) (v := undef) rfl (by kernel_rfl) (by kernel_rfl) (by kernel_rfl) (fun _ _ _ h => h) (Or.inr ⟨by rfl, rfl⟩) (by assumption) ?rest91
        case rest91 =>
        go_frame
        refine' wpAnyH_take (i := 21) (oi := ⟨some 34, .load 24 (.tmp 33), _, _, _, some (19, true)⟩) (v := undef) rfl (by kernel_rfl) (by kernel_rfl) (by kernel_rfl) (fun _ _ _ h => h) (Or.inr ⟨by rfl, rfl⟩) (by assumption) ?rest92
        case rest92 =>
        go_frame
        refine' wpAnyH_take (i := 22) (oi := ⟨some 35, .move (.tmp 3), _, _, _, some (19, true)⟩) (v := undef) rfl (by kernel_rfl) (by kernel_rfl) (by kernel_rfl) (fun _ _ _ h => h) (Or.inr ⟨by rfl, rfl⟩) (by assumption) ?rest93
        case rest93 =>
        go_frame
        refine' wpAnyH_take (i := 23) (oi := ⟨some 36, .binOp .sub 3 (.tmp 35) (.const (.int .i64 1)) 3, _, _, _, some (19, true)⟩) (v := undef) rfl (by kernel_rfl) (by kernel_rfl) (by kernel_rfl) (fun _ _ _ h => h) (Or.inr ⟨by rfl, rfl⟩) (by assumption) ?rest94
        case rest94 =>
        go_frame
        refine' wpAnyH_take (i := 24) (oi := ⟨some 37, .indexAddr 24 (.tmp 34) (.tmp 36), _, _, _, some (19, true)⟩) (v := undef) rfl (by kernel_rfl) (by kernel_rfl) (by kernel_rfl) (fun _ _ _ h => h) (Or.inr ⟨by rfl, rfl⟩) (by assumption) ?rest95
        case rest95 =>
        go_frame
        refine' wpAnyH_take (i := 25) (oi := ⟨some 38, .load 22 (.tmp 37), _, _, _, some (19, true)⟩) (v := undef) rfl (by kernel_rfl) (by kernel_rfl) (by kernel_rfl) (fun _ _ _ h => h) (Or.inr ⟨by rfl, rfl⟩) (by assumption) ?rest96
        case rest96 =>
        go_frame
        refine' wpAnyH_take (i := 26) (oi := ⟨some 39, .fieldAddr 27 (.tmp 1) 1, _, _, _, some (19, true)⟩) (v := undef) rfl (by kernel_rfl) (by kernel_rfl) (by kernel_rfl) (fun _ _ _ h => h) (Or.inr ⟨by rfl, rfl⟩) (by assumption) ?rest97
        case rest97 =>
        go_frame
        refine' wpAnyH_take (i := 27) (oi := ⟨some 40, .load 24 (.tmp 39), _, _, _, some (19, true)⟩) (v := undef) rfl (by kernel_rfl) (by kernel_rfl) (by kernel_rfl) (fun _ _ _ h => h) (Or.inr ⟨by rfl, rfl⟩) (by assumption) ?rest98
        case rest98 =>
        go_frame
        refine' wpAnyH_take (i := 28) (oi := ⟨some 41, .move (.tmp 3), _, _, _, some (19, true)⟩) (v := undef) rfl (by kernel_rfl) (by kernel_rfl) (by kernel_rfl) (fun _ _ _ h => h) (Or.inr ⟨by rfl, rfl⟩) (by assumption) ?rest99
        case rest99 =>
        go_frame
        refine' wpAnyH_take (i := 29) (oi := ⟨some 42, .indexAddr 24 (.tmp 40) (.tmp 41), _, _, _, some (19, true)⟩) (v := undef) rfl (by kernel_rfl) (by kernel_rfl) (by kernel_rfl) (fun _ _ _ h => h) (Or.inr ⟨by rfl, rfl⟩) (by assumption) ?rest100
        case rest100 =>
        go_frame
        refine' wpAnyH_take (i := 30) (oi := ⟨some 43, .load 22 (.tmp 42), _, _, _, some (19, true)⟩) (v := undef) rfl (by kernel_rfl) (by kernel_rfl) (by kernel_rfl) (fun _ _ _ h => h) (Or.inr ⟨by rfl, rfl⟩) (by assumption) ?rest101
        case rest101 =>
        go_frame
        refine' wpAnyH_take (i := 31) (oi := ⟨some 44, .call { callee := .value (.func 35), args := #[.tmp 38, .tmp 43], argTypes := #[22, 22] }, _, _, _, some (19, true)⟩) (v := undef) rfl (by kernel_rfl) (by kernel_rfl) (by kernel_rfl) (fun _ _ _ h => h) (Or.inr ⟨by rfl, rfl⟩) (by assumption) ?rest102
        case rest102 =>
        go_frame
        refine' wpAnyH_take (i := 32) (oi := ⟨some 45, .binOp .geq 3 (.tmp 44) (.const (.int .i64 0)) 3, _, _, _, some (19, true)⟩) (v := undef) rfl (by kernel_rfl) (by kernel_rfl) (by kernel_rfl) (fun _ _ _ h => h) (Or.inr ⟨by rfl, rfl⟩) (by assumption) ?rest103
        case rest103 =>
        go_frame
        refine' wpAnyH_take (i := 33) (oi := ⟨some 46, .pick (.tmp 32) (.tmp 45) (.const (.bool false)), _, _, _, some (16, false)⟩) (v := undef) rfl (by kernel_rfl) (by kernel_rfl) (by kernel_rfl) (fun _ _ _ h => h) (Or.inr ⟨by rfl, rfl⟩) (by assumption) ?rest104
        case rest104 =>
        go_frame
        refine' wpAnyH_take (i := 34) (oi := ⟨some 47, .pick (.tmp 29) (.const (.bool true)) (.tmp 46), _, _, _, none⟩) (v := _) rfl (by kernel_rfl) (by kernel_rfl) (by kernel_rfl) (fun _ _ _ h => h) (Or.inl ⟨by rfl, ?hy105⟩) (by assumption) ?rest105
        case hy105 => (intro w hSw; obtain ⟨s0, s1⟩ := hSw; go_simp <;> with_reducible rfl)
        case rest105 =>
        go_frame
        refine wpAnyH_done (by kernel_rfl) ?_ _
        go_wp2_with fail
        go_ret
        exact ⟨by rw [← HNo.out k hlt (fun g => H1.out (by rw [Hm.out]; exact g.1.1))]; rfl, HI.out.2.2.drew⟩
    · have hke : k = a := by omega
      have h5 : a ≤ k := by omega
      have HKeys := Lib.hid (show KeysOk n.keys from fun j hj => HI.out.1 j (by rw [hke, Ha.out]; exact hj))
      obtain ⟨x0, x1, x2, x3⟩ := HI.out.2.1
      have HX1 := Lib.hid HI.out.2.1
      have HB1 := Lib.hid HI.out.2.2
      clear HI hke hlt
      go_wp2_with fail
      clear x0 x1 x2 x3
      go_loopw [4] (fun iv wr => ∃ k : Nat, k ≤ b ∧ iv = .int .i64 (k : Int) ∧ Hid ((∀ j, j < k → (n.vals.getD j []).length ≤ 24) ∧ NdBox wr w.heap.size lf (.slice A1 a c1) (.slice A2 b c2) (.slice A3 d c3) ∧ Below w.heap.size w wr)) (fun iv _ => b - (intOf iv).toNat)
      case atStart => exact ⟨0, Nat.zero_le _, rfl, Lib.hid ⟨fun j h => by omega, HX1.out, HB1.out⟩⟩
      case round =>
        obtain ⟨k9, hk9, rfl, HI⟩ := hrel
        obtain ⟨x0, x1, x2, x3⟩ := HI.out.2.1
        by_cases hlt : k9 < b
        · obtain ⟨bk, ok, rfl, _⟩ := HAdV.out (by omega)
          obtain ⟨A', m, c', hm, hmc, hmx, hcl⟩ := HCV.out bk ok rfl k9 hlt
          have hck := (hcl wr HI.out.2.2).1
          have Hm := Lib.hid hm
          clear hm hcl
          by_cases h2 : m ≤ 24
          · go_wp2_with fail
            go_roundw
            case rel => exact ⟨k9 + 1, by omega, by go_num, Lib.hid ⟨fun i hi => by
                by_cases e : i = k9
                · subst e; rw [← Hm.out]; exact h2
                · exact HI.out.1 i (by omega), HI.out.2⟩⟩
            case measure => simp [intOf]; omega
          · have h3 : 24 < m := by omega
            have H2 := Lib.hid h2
            clear h2
            go_wp2_with fail
            go_ret
            exact ⟨by rw [← HNoV.out k9 hlt (fun g => H2.out (by rw [Hm.out]; exact g))]; rfl, HI.out.2.2⟩
        · have hke : k9 = b := by omega
          have h6 : b ≤ k9 := by omega
          have HVals := Lib.hid (show ValsOk n.vals from fun j hj => HI.out.1 j (by rw [hke, Hb.out]; exact hj))
          have HX2 := Lib.hid HI.out.2.1
          have HB2 := Lib.hid HI.out.2.2
          clear HI hke hlt
          go_wp2_with fail
          clear x0 x1 x2 x3
          go_loopw [5] (fun iv wr => ∃ k : Nat, k ≤ d ∧ iv = .int .i64 (k : Int) ∧ Hid ((∀ j, j < k → KidOk (n.kids.getD j 0)) ∧ NdBox wr w.heap.size lf (.slice A1 a c1) (.slice A2 b c2) (.slice A3 d c3) ∧ Below w.heap.size w wr)) (fun iv _ => d - (intOf iv).toNat)
          case atStart => exact ⟨0, Nat.zero_le _, rfl, Lib.hid ⟨fun j h => by omega, HX2.out, HB2.out⟩⟩
          case round =>
            obtain ⟨k8, hk8, rfl, HI⟩ := hrel
            obtain ⟨x0, x1, x2, x3⟩ := HI.out.2.1
            by_cases hlt : k8 < d
            · obtain ⟨bk, ok, rfl, _⟩ := HAdD.out (by omega)
              have hck := HCD.out wr HI.out.2.2 bk ok rfl k8 hlt
              obtain ⟨z, hz⟩ : ∃ z, z = n.kids.getD k8 0 := ⟨_, rfl⟩
              rw [← hz] at hck
              have Hz := Lib.hid hz
              clear hz
              by_cases h1 : z < 0
              · go_wp2_with fail
                go_ret
                exact ⟨by rw [← HNoD.out k8 hlt (fun g => by have := g.1; rw [← Hz.out] at this; omega)]; rfl, HI.out.2.2⟩
              · by_cases h2 : z ≤ 1599
                · go_wp2_with fail
                  go_roundw
                  case rel => exact ⟨k8 + 1, by omega, by go_num, Lib.hid ⟨fun i hi => by
                      by_cases e : i = k8
                      · subst e; rw [← Hz.out]; exact ⟨by omega, by omega⟩
                      · exact HI.out.1 i (by omega), HI.out.2⟩⟩
                  case measure => simp [intOf]; omega
                · have h3 : 1599 < z := by omega
                  clear h2
                  go_wp2_with fail
                  go_ret
                  exact ⟨by rw [← HNoD.out k8 hlt (fun g => by have := g.2; rw [← Hz.out] at this; omega)]; rfl, HI.out.2.2⟩
            · have hke : k8 = d := by omega
              have h7 : d ≤ k8 := by omega
              have HKids := Lib.hid (show KidsOk n.kids from fun j hj => HI.out.1 j (by rw [hke, Hd.out]; exact hj))
              have he := HEnd.out HKeys.out HVals.out HKids.out
              have HB3 := Lib.hid HI.out.2.2
              clear HI hke hlt
              cases lf
              · rw [if_neg (by decide)] at he
                by_cases e1 : 0 < a
                · by_cases e2 : d = a + 1
                  · by_cases e3 : b = 0
                    · have t1 : ((d : Int) == (a : Int) + 1) = true := by rw [e2]; simp
                      have t2 : ((b : Int) == 0) = true := by rw [e3]; rfl
                      have He := Lib.hid (show sndB n = true by rw [he]; simp [e1, e2, e3])
                      clear he e2 e3
                      go_wp2_with fail
                      go_ret
                      exact ⟨by first | (rw [He.out]; rfl) | (rw [He.out]; exact congrArg (fun x => Ending.returned (Value.bool x)) t2), HB3.out⟩
                    · have t1 : ((d : Int) == (a : Int) + 1) = true := by rw [e2]; simp
                      have t2 : ((b : Int) == 0) = false := by rw [beq_eq_false_iff_ne]; omega
                      have He := Lib.hid (show sndB n = false by rw [he]; simp [e3])
                      clear he e2 e3
                      go_wp2_with fail
                      go_ret
                      exact ⟨by first | (rw [He.out]; rfl) | (rw [He.out]; exact congrArg (fun x => Ending.returned (Value.bool x)) t2), HB3.out⟩
                  · have t1 : ((d : Int) == (a : Int) + 1) = false := by rw [beq_eq_false_iff_ne]; omega
                    have He := Lib.hid (show sndB n = false by rw [he]; simp [e2])
                    clear he e2
                    go_wp2_with fail
                    go_ret
                    exact ⟨by first | (rw [He.out]; rfl) | (rw [He.out]; exact congrArg (fun x => Ending.returned (Value.bool x)) t2), HB3.out⟩
                · have t1 : (a : Int) ≤ 0 := by omega
                  have He := Lib.hid (show sndB n = false by rw [he]; simp [e1])
                  clear he
                  go_wp2_with fail
                  go_ret
                  exact ⟨by first | (rw [He.out]; rfl) | (rw [He.out]; exact congrArg (fun x => Ending.returned (Value.bool x)) t2), HB3.out⟩
              · rw [if_pos rfl] at he
                by_cases e1 : b = a
                · by_cases e2 : d = 0
                  · have t1 : ((b : Int) == (a : Int)) = true := by rw [e1]; simp
                    have t2 : ((d : Int) == 0) = true := by rw [e2]; rfl
                    have He := Lib.hid (show sndB n = true by rw [he]; simp [e1, e2])
                    clear he e1 e2
                    go_wp2_with fail
                    go_ret
                    exact ⟨by first | (rw [He.out]; rfl) | (rw [He.out]; exact congrArg (fun x => Ending.returned (Value.bool x)) t2), HB3.out⟩
                  · have t1 : ((b : Int) == (a : Int)) = true := by rw [e1]; simp
                    have t2 : ((d : Int) == 0) = false := by rw [beq_eq_false_iff_ne]; omega
                    have He := Lib.hid (show sndB n = false by rw [he]; simp [e2])
                    clear he e1 e2
                    go_wp2_with fail
                    go_ret
                    exact ⟨by first | (rw [He.out]; rfl) | (rw [He.out]; exact congrArg (fun x => Ending.returned (Value.bool x)) t2), HB3.out⟩
                · have t1 : ((b : Int) == (a : Int)) = false := by rw [beq_eq_false_iff_ne]; omega
                  have He := Lib.hid (show sndB n = false by rw [he]; simp [e1])
                  clear he e1
                  go_wp2_with fail
                  go_ret
                  exact ⟨by first | (rw [He.out]; rfl) | (rw [He.out]; exact congrArg (fun x => Ending.returned (Value.bool x)) t2), HB3.out⟩
end Go.Proofs.Ytceefoopehoalaa
