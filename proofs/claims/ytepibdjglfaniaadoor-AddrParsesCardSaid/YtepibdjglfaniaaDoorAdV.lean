/-
  The document's digits of a number: a contract.
-/
import Derived.Test.YtepibdjglfaniaaDoorAdL
namespace Go.Proofs.YtepibdjglfaniaaDoor
open Go.RowKit
abbrev s16 : ByteArray := ⟨#[48, 49, 50, 51, 52, 53, 54, 55, 56, 57, 97, 98, 99, 100, 101, 102]⟩
theorem s16_all : ∀ d : Fin 16, s16.extract d.val (d.val + 1) = ⟨#[hexc d.val]⟩ := by decide +kernel
theorem s16_cut {d : Nat} (h : d < 16) : s16.extract d (d + 1) = ⟨#[hexc d]⟩ := s16_all ⟨d, h⟩
set_option maxRecDepth 100000 in
theorem rfNum_small (base n : Nat) (hb : base ≤ 16) (hn : n < base) (w : World) :
    Calls Tryd.prog 35 #[.int .i64 (n : Int), .int .i64 (base : Int)] w fun e w' => e = .returned (.string ⟨(digs base n).toArray⟩) ∧ Below w.heap.size w w' := by
  have hcut := s16_cut (show n < 16 by omega)
  rw [digs_small hn]
  have t0 : decide ((n : Int) < (base : Int)) = true := by simp [hn]
  have hn16 : (n : Int) < 16 := by omega
  have hn0 : (0 : Int) ≤ (n : Int) := by omega
  go_enter Tryd.func35, Tryd.ntmps35
  go_wp2_with fail
  go_ret
  exact ⟨rfl, Below.refl _ _⟩
set_option maxRecDepth 100000 in
theorem rfNum_big10 (n q r : Nat) (hn : 10 ≤ n) (hn6 : n ≤ 65535) (hq : q = n / 10) (hr : r = n % 10) (w : World)
    (h1 : ∀ w, Calls Tryd.prog 35 #[.int .i64 (q : Int), .int .i64 10] w fun e w' => e = .returned (.string ⟨(digs 10 q).toArray⟩) ∧ Below w.heap.size w w')
    (h3 : ∀ w, Calls Tryd.prog 35 #[.int .i64 (r : Int), .int .i64 10] w fun e w' => e = .returned (.string ⟨(digs 10 r).toArray⟩) ∧ Below w.heap.size w w') :
    Calls Tryd.prog 35 #[.int .i64 (n : Int), .int .i64 10] w fun e w' => e = .returned (.string ⟨(digs 10 n).toArray⟩) ∧ Below w.heap.size w w' := by
  have hrb : r < 10 := by rw [hr]; exact Nat.mod_lt _ (by omega)
  have hres : (⟨(digs 10 q).toArray⟩ : ByteArray) ++ ⟨(digs 10 r).toArray⟩ = ⟨(digs 10 n).toArray⟩ := by
    have e : digs 10 n = digs 10 q ++ digs 10 r := by rw [digs_big hn (by omega), digs_small hrb, hq, hr]
    rw [e]
    apply Go.WideShapes.bytes_inj
    show ((⟨(digs 10 q).toArray⟩ : ByteArray) ++ ⟨(digs 10 r).toArray⟩).data.toList = _
    rw [ByteArray.data_append]
    simp
  have hq1 : (n : Int) / (10 : Int) = (q : Int) := by rw [hq]; exact (Int.natCast_ediv n 10).symm
  have hq2 : (n : Int).tdiv (10 : Int) = (q : Int) := by rw [hq]; exact (Int.ofNat_tdiv n 10).symm
  have hr1 : (n : Int) % (10 : Int) = (r : Int) := by rw [hr]; exact (Int.natCast_emod n 10).symm
  have hr2 : (n : Int).tmod (10 : Int) = (r : Int) := by rw [hr]; exact (Int.ofNat_tmod n 10).symm
  have t0 : decide ((n : Int) < (10 : Int)) = false := by simp; omega
  have hq6 : (q : Int) ≤ 65535 := by have : q ≤ n := by rw [hq]; exact Nat.div_le_self _ _
                                     omega
  have hr6 : (r : Int) ≤ 16 := by omega
  have hwq : IntKind.i64.wrap (q : Int) = (q : Int) := IntWalk.i64_in _ (by omega)
  have hwr : IntKind.i64.wrap (r : Int) = (r : Int) := IntWalk.i64_in _ (by omega)
  have hquo : ∀ W, (binOp .quo 3 (.int .i64 (n : Int)) (.int .i64 10)).run Tryd.prog W = .ok (.int .i64 (q : Int)) W := fun W => by
    simp [binOp, go_sem, hq1, hq2, hwq, Tryd.underlying3]
  have hrem : ∀ W, (binOp .rem 3 (.int .i64 (n : Int)) (.int .i64 10)).run Tryd.prog W = .ok (.int .i64 (r : Int)) W := fun W => by
    simp [binOp, go_sem, hr1, hr2, hwr, Tryd.underlying3]
  have hsA : ((⟨(digs 10 q).toArray⟩ : ByteArray).size : Int) ≤ 100 := by
    have := digs_short (base := 10) (by omega) 16 q (by omega) (Nat.lt_of_lt_of_le (by omega : q < 2 ^ 16) (Nat.pow_le_pow_left (by omega) 16))
    simp [ByteArray.size]; omega
  have hsB : ((⟨(digs 10 r).toArray⟩ : ByteArray).size : Int) ≤ 100 := by
    rw [digs_small hrb]; simp [ByteArray.size]
  generalize (⟨(digs 10 q).toArray⟩ : ByteArray) = A at *
  generalize (⟨(digs 10 r).toArray⟩ : ByteArray) = B at *
  generalize (⟨(digs 10 n).toArray⟩ : ByteArray) = D at *
  have hsum : ¬ 9223372036854775807 < A.size + B.size := by omega
  have H1 := Lib.hid h1
  have H3 := Lib.hid h3
  have HR := Lib.hid hres
  clear h1 h3 hres hq hr hrb hn6
  go_enter Tryd.func35, Tryd.ntmps35
  go_wp2_with fail
  go_region_held3 (fun _ => True) (exact trivial)
    (first
      | (go_at_call 35; refine (H1.out _).mono ?_; rintro _ w2 ⟨rfl, hb2⟩; clear H1)
      | (go_at_call 35; refine (H3.out _).mono ?_; rintro _ w3 ⟨rfl, hb3⟩))
  go_wp2_with fail
  go_ret
  exact ⟨by rw [← HR.out]; rfl, up (up (up_drew (Below.refl _ _)) hb2) hb3⟩
set_option maxRecDepth 100000 in
theorem rfNum_big16 (n q r : Nat) (hn : 16 ≤ n) (hn6 : n ≤ 65535) (hq : q = n / 16) (hr : r = n % 16) (w : World)
    (h1 : ∀ w, Calls Tryd.prog 35 #[.int .i64 (q : Int), .int .i64 16] w fun e w' => e = .returned (.string ⟨(digs 16 q).toArray⟩) ∧ Below w.heap.size w w')
    (h3 : ∀ w, Calls Tryd.prog 35 #[.int .i64 (r : Int), .int .i64 16] w fun e w' => e = .returned (.string ⟨(digs 16 r).toArray⟩) ∧ Below w.heap.size w w') :
    Calls Tryd.prog 35 #[.int .i64 (n : Int), .int .i64 16] w fun e w' => e = .returned (.string ⟨(digs 16 n).toArray⟩) ∧ Below w.heap.size w w' := by
  have hrb : r < 16 := by rw [hr]; exact Nat.mod_lt _ (by omega)
  have hres : (⟨(digs 16 q).toArray⟩ : ByteArray) ++ ⟨(digs 16 r).toArray⟩ = ⟨(digs 16 n).toArray⟩ := by
    have e : digs 16 n = digs 16 q ++ digs 16 r := by rw [digs_big hn (by omega), digs_small hrb, hq, hr]
    rw [e]
    apply Go.WideShapes.bytes_inj
    show ((⟨(digs 16 q).toArray⟩ : ByteArray) ++ ⟨(digs 16 r).toArray⟩).data.toList = _
    rw [ByteArray.data_append]
    simp
  have hq1 : (n : Int) / (16 : Int) = (q : Int) := by rw [hq]; exact (Int.natCast_ediv n 16).symm
  have hq2 : (n : Int).tdiv (16 : Int) = (q : Int) := by rw [hq]; exact (Int.ofNat_tdiv n 16).symm
  have hr1 : (n : Int) % (16 : Int) = (r : Int) := by rw [hr]; exact (Int.natCast_emod n 16).symm
  have hr2 : (n : Int).tmod (16 : Int) = (r : Int) := by rw [hr]; exact (Int.ofNat_tmod n 16).symm
  have t0 : decide ((n : Int) < (16 : Int)) = false := by simp; omega
  have hq6 : (q : Int) ≤ 65535 := by have : q ≤ n := by rw [hq]; exact Nat.div_le_self _ _
                                     omega
  have hr6 : (r : Int) ≤ 16 := by omega
  have hwq : IntKind.i64.wrap (q : Int) = (q : Int) := IntWalk.i64_in _ (by omega)
  have hwr : IntKind.i64.wrap (r : Int) = (r : Int) := IntWalk.i64_in _ (by omega)
  have hquo : ∀ W, (binOp .quo 3 (.int .i64 (n : Int)) (.int .i64 16)).run Tryd.prog W = .ok (.int .i64 (q : Int)) W := fun W => by
    simp [binOp, go_sem, hq1, hq2, hwq, Tryd.underlying3]
  have hrem : ∀ W, (binOp .rem 3 (.int .i64 (n : Int)) (.int .i64 16)).run Tryd.prog W = .ok (.int .i64 (r : Int)) W := fun W => by
    simp [binOp, go_sem, hr1, hr2, hwr, Tryd.underlying3]
  have hsA : ((⟨(digs 16 q).toArray⟩ : ByteArray).size : Int) ≤ 100 := by
    have := digs_short (base := 16) (by omega) 16 q (by omega) (Nat.lt_of_lt_of_le (by omega : q < 2 ^ 16) (Nat.pow_le_pow_left (by omega) 16))
    simp [ByteArray.size]; omega
  have hsB : ((⟨(digs 16 r).toArray⟩ : ByteArray).size : Int) ≤ 100 := by
    rw [digs_small hrb]; simp [ByteArray.size]
  generalize (⟨(digs 16 q).toArray⟩ : ByteArray) = A at *
  generalize (⟨(digs 16 r).toArray⟩ : ByteArray) = B at *
  generalize (⟨(digs 16 n).toArray⟩ : ByteArray) = D at *
  have hsum : ¬ 9223372036854775807 < A.size + B.size := by omega
  have H1 := Lib.hid h1
  have H3 := Lib.hid h3
  have HR := Lib.hid hres
  clear h1 h3 hres hq hr hrb hn6
  go_enter Tryd.func35, Tryd.ntmps35
  go_wp2_with fail
  go_region_held3 (fun _ => True) (exact trivial)
    (first
      | (go_at_call 35; refine (H1.out _).mono ?_; rintro _ w2 ⟨rfl, hb2⟩; clear H1)
      | (go_at_call 35; refine (H3.out _).mono ?_; rintro _ w3 ⟨rfl, hb3⟩))
  go_wp2_with fail
  go_ret
  exact ⟨by rw [← HR.out]; rfl, up (up (up_drew (Below.refl _ _)) hb2) hb3⟩
/-- The digits of a number. -/
theorem rfNum_any {base : Nat} (hb : base = 10 ∨ base = 16) : ∀ (n : Nat), n ≤ 65535 → ∀ w : World, Calls Tryd.prog 35 #[.int .i64 (n : Int), .int .i64 (base : Int)] w fun e w' => e = .returned (.string ⟨(digs base n).toArray⟩) ∧ Below w.heap.size w w' := by
  intro n
  induction n using Nat.strongRecOn with
  | _ n ih =>
    intro hn w
    by_cases hs : n < base
    · exact rfNum_small base n (by omega) hs w
    · rcases hb with rfl | rfl
      · exact rfNum_big10 n _ _ (by omega) hn rfl rfl w (fun w => ih (n / 10) (by omega) (by omega) w) (fun w => rfNum_small 10 (n % 10) (by omega) (by omega) w)
      · exact rfNum_big16 n _ _ (by omega) hn rfl rfl w (fun w => ih (n / 16) (by omega) (by omega) w) (fun w => rfNum_small 16 (n % 16) (by omega) (by omega) w)
end Go.Proofs.YtepibdjglfaniaaDoor
