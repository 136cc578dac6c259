/-
  The law SpaceAll, walked.
-/
import Derived.Test.YtllhilnajjohiaaSpI
namespace Go.Proofs.Ytllhilnajjohiaa
open Go.RowKit
theorem u8_of_lit {n : Int} (h : (Lit.int .u8 n).wf = true) : ∃ k : Nat, n = (k : Int) ∧ k < 256 := by
  have : 0 ≤ n ∧ n ≤ 255 := by simpa [Lit.wf, IntKind.min, IntKind.max, IntKind.bits, IntKind.signed] using h
  exact ⟨n.toNat, by omega, by omega⟩
set_option maxRecDepth 100000 in
theorem spaceAll_walk (n first : Int) (w : World) (hn : (Lit.int .u8 n).wf = true) (hf : (Lit.int .u8 first).wf = true) :
    Calls Try.prog 6 #[.int .u8 n, .int .u8 first] w fun e w' => e = .returned (.bool true) ∧ Below w.heap.size w w' := by
  obtain ⟨p, rfl, hp⟩ := u8_of_lit hn
  obtain ⟨q, rfl, hq⟩ := u8_of_lit hf
  obtain ⟨k, hk⟩ : ∃ k, k = 1 + p := ⟨_, rfl⟩
  obtain ⟨f, hf'⟩ : ∃ f, f = q % (k + 1) := ⟨_, rfl⟩
  have hfk : f ≤ k := by rw [hf']; have := Nat.mod_lt q (show 0 < k + 1 by omega); omega
  have t1 : 1 + (p : Int) = (k : Int) := by omega
  have t2 : (q : Int).tmod ((k : Int) + 1) = (f : Int) := by
    rw [hf', show (k : Int) + 1 = ((k + 1 : Nat) : Int) by omega]
    rfl
  have t3 : ¬ k + 1 = 0 := by omega
  have t4 : IntKind.i64.wrap ((k : Int) + 1) = (k : Int) + 1 := IntWalk.i64_in _ (by omega)
  have t5 : IntKind.i64.wrap (f : Int) = (f : Int) := IntWalk.i64_in _ (by omega)
  have t6 : IntKind.i64.wrap (k : Int) = (k : Int) := IntWalk.i64_in _ (by omega)
  have hk1 : 1 ≤ k := by omega
  have hk2 : k ≤ 1600 := by omega
  have e1 : ((k - f : Nat) : Int) = (k : Int) - (f : Int) := by omega
  have t7 : IntKind.i64.wrap ((k : Int) - (f : Int)) = (k : Int) - (f : Int) := IntWalk.i64_in _ (by omega)
  clear hn hf hf' hk
  go_enter Try.func6, Try.ntmps6
  go_wp2_with (first
    | (go_at_call 7; refine (new_ok k f hk1 hk2 hfk).mono ?_; rintro e w1 ⟨a, rfl, ha, h1, hb1⟩; have HI := Lib.hid (And.intro ha (And.intro h1 hb1)); clear ha h1 hb1)
    | (go_at_call 23; refine (upto_room (n := k) (i := f) (f := f) HI.out.2.1 (Nat.le_refl _)).mono ?_; rintro e w2 ⟨rfl, hb2⟩; rw [e1]; have HI2 := Lib.hid (And.intro HI.out.1 (And.intro (HI.out.2.1.below hb2) (HI.out.2.2.trans (hb2.mono HI.out.2.2.size)))); clear hb2))
  clear e1 t1 t2 t3 t4 t5 t6 t7
  have Hfk := Lib.hid hfk
  have H0 : Hid (w.heap.size ≤ a ∧ SpcIs w2 a (Spc.upto k f f) ∧ Below w.heap.size w w2) := HI2
  clear HI HI2
  go_loopw [9] (fun iv wr => ∃ i : Nat, i ≤ k ∧ iv = .int .i64 (i : Int) ∧ Hid (f ≤ i ∧ w.heap.size ≤ a ∧ SpcIs wr a (Spc.upto k i f) ∧ Below w.heap.size w wr)) (fun iv _ => k - (intOf iv).toNat)
  case atStart => exact ⟨f, Hfk.out, rfl, Lib.hid ⟨Nat.le_refl _, H0.out⟩⟩
  case round =>
    obtain ⟨i, hi, rfl, HI⟩ := hrel
    by_cases hik : i < k
    · go_wp2_with (go_at_call 16; refine (upto_alloc HI.out.2.2.1 HI.out.1 hik).mono ?_; rintro e w3 ⟨rfl, h3, ho3⟩; have HI3 := Lib.hid (And.intro HI.out.2.1 (And.intro h3 (HI.out.2.2.2.trans (ho3.new HI.out.2.1 HI.out.2.2.2.size)))); clear h3 ho3)
      go_roundw
      case rel => exact ⟨i + 1, by omega, by go_num, Lib.hid ⟨by have := HI.out.1; omega, HI3.out⟩⟩
      case measure => simp [intOf]; omega
    · have : i = k := by omega
      subst this
      have Hz : Hid (((i - i : Nat) : Int) = 0) := Lib.hid (by omega)
      go_wp2_with (first
        | (go_at_call 16; refine (upto_full HI.out.2.2.1 Hfk.out).mono ?_; rintro e w3 ⟨rfl, h3, ho3⟩; have HI3 := Lib.hid (And.intro h3 (HI.out.2.2.2.trans (ho3.new HI.out.2.1 HI.out.2.2.2.size))); clear h3 ho3)
        | (go_at_call 23; refine (upto_room HI3.out.1 Hfk.out).mono ?_; rintro e w4 ⟨rfl, hb4⟩; rw [Hz.out]; have HI4 := Lib.hid (HI3.out.2.trans (hb4.mono HI3.out.2.size)); clear hb4)
        | (go_at_call 8; refine (lives06_any _).mono ?_; rintro e w5 ⟨rfl, hb5⟩; have HI5 := Lib.hid (HI4.out.trans (hb5.mono HI4.out.size)); clear hb5))
      go_ret
      exact ⟨rfl, HI5.out⟩
end Go.Proofs.Ytllhilnajjohiaa
