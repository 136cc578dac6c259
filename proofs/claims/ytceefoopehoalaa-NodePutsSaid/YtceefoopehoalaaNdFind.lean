/-
  Find, Kid of package node, by contracts.
-/
import Derived.Test.YtceefoopehoalaaNdRefA
namespace Go.Proofs.Ytceefoopehoalaa
open Go.RowKit
/-- How many of the first k keys are below a key. -/
def belowN (ks : List (List UInt8)) (key : List UInt8) : Nat → Nat
  | 0 => 0
  | k + 1 => belowN ks key k + (if cmpB (ks.getD k []) key < 0 then 1 else 0)
/-- How many of the first k keys are a key, or below it. -/
def uptoN (ks : List (List UInt8)) (key : List UInt8) : Nat → Nat
  | 0 => 0
  | k + 1 => uptoN ks key k + (if cmpB (ks.getD k []) key ≤ 0 then 1 else 0)
/-- Whether one of the first k keys is a key. -/
def hasN (ks : List (List UInt8)) (key : List UInt8) : Nat → Bool
  | 0 => false
  | k + 1 => hasN ks key k || decide (ks.getD k [] = key)
theorem belowN_le (ks : List (List UInt8)) (key : List UInt8) : ∀ k, belowN ks key k ≤ k
  | 0 => Nat.le_refl _
  | k + 1 => by have := belowN_le ks key k; unfold belowN; split <;> omega
theorem uptoN_le (ks : List (List UInt8)) (key : List UInt8) : ∀ k, uptoN ks key k ≤ k
  | 0 => Nat.le_refl _
  | k + 1 => by have := uptoN_le ks key k; unfold uptoN; split <;> omega
theorem cmpB_eq {a b : List UInt8} : cmpB a b = 0 ↔ a = b := ⟨cmpB_zero, fun h => by rw [h]; exact cmpB_self b⟩
set_option maxHeartbeats 1000000 in
theorem find_any {n : Nd} {K V D : Value} {w : World} {B C : Nat} {v : Value} {key : List UInt8} (hr : NdIs w B K V D n) (hB : B ≤ w.heap.size) (hv : Rd w C v (cellsB key)) (hC : C ≤ w.heap.size) (hs : n.keys.length ≤ 1000000) :
    Calls Try.prog 16 #[ndVal n.leaf K V D, v] w fun e w' => e = .returned (.tuple #[.int .i64 (belowN n.keys key n.keys.length : Nat), .bool (hasN n.keys key n.keys.length)]) ∧ Below w.heap.size w w' := by
  obtain ⟨A1, c1, A2, c2, A3, c3, rfl, rfl, rfl⟩ := hr.form
  have hcells := fun (b o : Nat) (he : A1 = some ⟨b, o, none⟩) k (hk : k < n.keys.length) => (show RdAll w B (.slice (some ⟨b, o, none⟩) n.keys.length c1) n.keys by rw [← he]; exact hr.keys).later hB hk
  have haddr := fun (h : 0 < n.keys.length) => hr.keys.addr h
  have hkey := fun (W : World) (hW : Below w.heap.size w W) => hv.below (hW.mono hC)
  have hle := fun k => belowN_le n.keys key k
  obtain ⟨lf, hlf⟩ : ∃ x, x = n.leaf := ⟨_, rfl⟩
  obtain ⟨a, ha⟩ : ∃ x, x = n.keys.length := ⟨_, rfl⟩
  rw [← ha] at hs hcells haddr ⊢
  rw [← hlf]
  have hb0 : Below w.heap.size w (w.alloc (.cells #[.bool lf, .slice A1 a c1, .slice A2 n.vals.length c2, .slice A3 n.kids.length c3] 27)) := (Below.refl _ _).alloc (Nat.le_refl _) _
  have hbox := NdBox.made w lf (.slice A1 a c1) (.slice A2 n.vals.length c2) (.slice A3 n.kids.length c3)
  have HC := Lib.hid hcells
  have HA := Lib.hid haddr
  have HK := Lib.hid hkey
  have HL := Lib.hid hle
  have H0 := Lib.hid hb0
  obtain ⟨x0, x1, x2, x3⟩ := hbox
  clear hr hB hv hC hcells haddr hkey hle hb0 hlf ha
  go_enter Try.func16, Try.ntmps16
  go_wp2_with fail
  clear x0 x1 x2 x3
  go_loopw [6, 7, 14] (fun bv tv iv wr => ∃ k : Nat, k ≤ a ∧ iv = .int .i64 (k : Int) ∧ bv = .int .i64 (belowN n.keys key k : Nat) ∧ tv = .bool (hasN n.keys key k) ∧ Hid (Below w.heap.size w wr)) (fun _ _ iv _ => a - (intOf iv).toNat)
  case atStart => exact ⟨0, Nat.zero_le _, rfl, rfl, rfl, H0⟩
  case round =>
    obtain ⟨k, hk, rfl, rfl, rfl, HI⟩ := hrel
    by_cases hlt : k < a
    · obtain ⟨bk, ok, rfl, _⟩ := HA.out (by omega)
      obtain ⟨A', m, c', hm, hmc, hmx, hcl⟩ := HC.out bk ok rfl k hlt
      have hck := (hcl wr HI.out).1
      have hcmp := bcmp_any (hcl wr HI.out).2.1 (HK.out wr HI.out)
      have hb := HL.out k
      have hst : belowN n.keys key (k + 1) = belowN n.keys key k + (if cmpB (n.keys.getD k []) key < 0 then 1 else 0) := rfl
      have hsh : hasN n.keys key (k + 1) = (hasN n.keys key k || decide (n.keys.getD k [] = key)) := rfl
      obtain ⟨x, hx⟩ : ∃ x, x = cmpB (n.keys.getD k []) key := ⟨_, rfl⟩
      have he : (x = 0 ↔ n.keys.getD k [] = key) := by rw [hx]; exact cmpB_eq
      rw [← hx] at hcmp hst
      obtain ⟨p, hp⟩ : ∃ x, x = belowN n.keys key k := ⟨_, rfl⟩
      obtain ⟨q, hq⟩ : ∃ x, x = hasN n.keys key k := ⟨_, rfl⟩
      rw [← hp] at hb hst ⊢
      rw [← hq] at hsh ⊢
      have HCm := Lib.hid hcmp
      have Hst := Lib.hid hst
      have Hsh := Lib.hid hsh
      have He := Lib.hid he
      clear hm hcl hcmp hst hsh hx he hp hq
      by_cases h1 : x < 0
      · go_wp2_with (go_at_call 36; refine HCm.out.mono ?_; rintro e w3 ⟨rfl, rfl⟩)
        go_roundw
        case rel =>
          refine ⟨k + 1, by omega, by go_num, ?_, ?_, HI⟩
          · rw [Hst.out, if_pos h1]; go_num
          · rw [Hsh.out, decide_eq_false (fun e => by have := He.out.2 e; omega), Bool.or_false]
        case measure => simp [intOf]; omega
      · by_cases h2 : x = 0
        · have H2 := Lib.hid h2
          have t1 : decide (x < 0) = false := by simp; omega
          have t2 : (x == 0) = true := by rw [h2]; rfl
          clear h1 h2
          go_wp2_with (go_at_call 36; refine HCm.out.mono ?_; rintro e w3 ⟨rfl, rfl⟩)
          go_roundw
          case rel =>
            refine ⟨k + 1, by omega, by go_num, ?_, ?_, HI⟩
            · rw [Hst.out, if_neg (by have := H2.out; omega)]; rfl
            · rw [Hsh.out, decide_eq_true (He.out.1 H2.out), Bool.or_true]
          case measure => simp [intOf]; omega
        · have H2 := Lib.hid h2
          have H1 := Lib.hid h1
          have t1 : decide (x < 0) = false := by simp; omega
          have t2 : (x == 0) = false := by rw [beq_eq_false_iff_ne]; exact h2
          clear h1 h2
          go_wp2_with (go_at_call 36; refine HCm.out.mono ?_; rintro e w3 ⟨rfl, rfl⟩)
          go_roundw
          case rel =>
            refine ⟨k + 1, by omega, by go_num, ?_, ?_, HI⟩
            · rw [Hst.out, if_neg (by have := H1.out; omega)]; rfl
            · rw [Hsh.out, decide_eq_false (fun e => H2.out (He.out.2 e)), Bool.or_false]
          case measure => simp [intOf]; omega
    · have h5 : a ≤ k := by omega
      have hk2 : k = a := by omega
      have Hk := Lib.hid hk2
      clear hlt hk2
      go_wp2_with fail
      go_ret2
      exact ⟨by rw [Hk.out]; rfl, HI.out⟩
set_option maxHeartbeats 1000000 in
theorem kid_any {n : Nd} {K V D : Value} {w : World} {B C : Nat} {v : Value} {key : List UInt8} (hr : NdIs w B K V D n) (hB : B ≤ w.heap.size) (hv : Rd w C v (cellsB key)) (hC : C ≤ w.heap.size) (hs : n.keys.length ≤ 1000000) :
    Calls Try.prog 18 #[ndVal n.leaf K V D, v] w fun e w' => e = .returned (.int .i64 (uptoN n.keys key n.keys.length : Nat)) ∧ Below w.heap.size w w' := by
  obtain ⟨A1, c1, A2, c2, A3, c3, rfl, rfl, rfl⟩ := hr.form
  have hcells := fun (b o : Nat) (he : A1 = some ⟨b, o, none⟩) k (hk : k < n.keys.length) => (show RdAll w B (.slice (some ⟨b, o, none⟩) n.keys.length c1) n.keys by rw [← he]; exact hr.keys).later hB hk
  have haddr := fun (h : 0 < n.keys.length) => hr.keys.addr h
  have hkey := fun (W : World) (hW : Below w.heap.size w W) => hv.below (hW.mono hC)
  have hle := fun k => uptoN_le n.keys key k
  obtain ⟨lf, hlf⟩ : ∃ x, x = n.leaf := ⟨_, rfl⟩
  obtain ⟨a, ha⟩ : ∃ x, x = n.keys.length := ⟨_, rfl⟩
  rw [← ha] at hs hcells haddr ⊢
  rw [← hlf]
  have hb0 : Below w.heap.size w (w.alloc (.cells #[.bool lf, .slice A1 a c1, .slice A2 n.vals.length c2, .slice A3 n.kids.length c3] 27)) := (Below.refl _ _).alloc (Nat.le_refl _) _
  have hbox := NdBox.made w lf (.slice A1 a c1) (.slice A2 n.vals.length c2) (.slice A3 n.kids.length c3)
  have HC := Lib.hid hcells
  have HA := Lib.hid haddr
  have HK := Lib.hid hkey
  have HL := Lib.hid hle
  have H0 := Lib.hid hb0
  obtain ⟨x0, x1, x2, x3⟩ := hbox
  clear hr hB hv hC hcells haddr hkey hle hb0 hlf ha
  go_enter Try.func18, Try.ntmps18
  go_wp2_with fail
  clear x0 x1 x2 x3
  go_loopw [5, 11] (fun bv iv wr => ∃ k : Nat, k ≤ a ∧ iv = .int .i64 (k : Int) ∧ bv = .int .i64 (uptoN n.keys key k : Nat) ∧ Hid (Below w.heap.size w wr)) (fun _ iv _ => a - (intOf iv).toNat)
  case atStart => exact ⟨0, Nat.zero_le _, rfl, rfl, H0⟩
  case round =>
    obtain ⟨k, hk, rfl, rfl, HI⟩ := hrel
    by_cases hlt : k < a
    · obtain ⟨bk, ok, rfl, _⟩ := HA.out (by omega)
      obtain ⟨A', m, c', hm, hmc, hmx, hcl⟩ := HC.out bk ok rfl k hlt
      have hck := (hcl wr HI.out).1
      have hcmp := bcmp_any (hcl wr HI.out).2.1 (HK.out wr HI.out)
      have hb := HL.out k
      have hst : uptoN n.keys key (k + 1) = uptoN n.keys key k + (if cmpB (n.keys.getD k []) key ≤ 0 then 1 else 0) := rfl
      obtain ⟨x, hx⟩ : ∃ x, x = cmpB (n.keys.getD k []) key := ⟨_, rfl⟩
      rw [← hx] at hcmp hst
      obtain ⟨p, hp⟩ : ∃ x, x = uptoN n.keys key k := ⟨_, rfl⟩
      rw [← hp] at hb hst ⊢
      have HCm := Lib.hid hcmp
      have Hst := Lib.hid hst
      clear hm hcl hcmp hst hx hp
      by_cases h1 : x ≤ 0
      · go_wp2_with (go_at_call 36; refine HCm.out.mono ?_; rintro e w3 ⟨rfl, rfl⟩)
        go_roundw
        case rel =>
          refine ⟨k + 1, by omega, by go_num, ?_, HI⟩
          rw [Hst.out, if_pos h1]; go_num
        case measure => simp [intOf]; omega
      · have h2 : 0 < x := by omega
        go_wp2_with (go_at_call 36; refine HCm.out.mono ?_; rintro e w3 ⟨rfl, rfl⟩)
        go_roundw
        case rel =>
          refine ⟨k + 1, by omega, by go_num, ?_, HI⟩
          rw [Hst.out, if_neg (by omega)]; rfl
        case measure => simp [intOf]; omega
    · have h5 : a ≤ k := by omega
      have hk2 : k = a := by omega
      have Hk := Lib.hid hk2
      clear hlt hk2
      go_wp2_with fail
      go_ret
      exact ⟨by rw [Hk.out]; rfl, HI.out⟩
end Go.Proofs.Ytceefoopehoalaa
