/-
  A space of which the first pages are taken; 'lives' of the statements on spaces: contract.
-/
import Derived.Test.YtllhilnajjohiaaSpH
namespace Go.Proofs.Ytllhilnajjohiaa
open Go.RowKit
/-- A space of n pages, of which the first i are taken, the first f were. -/
def Spc.upto (n i f : Nat) : Spc := ⟨n, below i, below f⟩
theorem Spc.upto_held {n i f : Nat} (h : f ≤ i) : (Spc.upto n i f).held = below i := by
  funext j
  show (decide (j < i) || decide (j < f)) = decide (j < i)
  by_cases h1 : j < i
  · simp [h1]
  · have : ¬ j < f := by omega
    simp [h1, this]
theorem Spc.upto_put (n i f : Nat) : (Spc.upto n i f).put i true = Spc.upto n (i + 1) f := by
  unfold Spc.put Spc.upto
  simp only [below_put]
theorem below_least (i : Nat) : LeastNot (below i) i := ⟨fun j hj => by simp [below, hj], by simp [below]⟩
theorem below_free (i : Nat) : ∀ n, _root_.Go.Proofs.Ytllhilnajjohiaa.free (below i) n = n - i
  | 0 => by simp [_root_.Go.Proofs.Ytllhilnajjohiaa.free]
  | n + 1 => by
    rw [_root_.Go.Proofs.Ytllhilnajjohiaa.free, below_free i n]
    by_cases h : n < i
    · simp only [below, h, decide_true, if_true]; omega
    · simp only [below, h, decide_false]; simp; omega
section
variable {w w' : World} {a n i f : Nat}
theorem upto_alloc (h : SpcIs w a (Spc.upto n i f)) (hf : f ≤ i) (hi : i < n) : Calls Try.prog 16 #[spAt a] w fun e w' => e = .returned (.tuple #[.int .i64 (i : Int), .int .i64 0]) ∧ SpcIs w' a (Spc.upto n (i + 1) f) ∧ Only (fun k => k = a) w w' := by
  have := alloc_yes h (m := i) (by rw [Spc.upto_held hf]; exact below_least i) hi
  rwa [Spc.upto_put] at this
theorem upto_full (h : SpcIs w a (Spc.upto n n f)) (hf : f ≤ n) : Calls Try.prog 16 #[spAt a] w fun e w' => e = .returned (.tuple #[.int .i64 (-1), .int .i64 2]) ∧ SpcIs w' a (Spc.upto n n f) ∧ Only (fun k => k = a) w w' :=
  alloc_no h fun j hj => by
    have hj' : j < n := hj
    rw [Spc.upto_held hf]
    simp [below, hj']
theorem upto_room (h : SpcIs w a (Spc.upto n i f)) (hf : f ≤ i) : Calls Try.prog 23 #[spAt a] w fun e w' => e = .returned (.int .i64 ((n - i : Nat) : Int)) ∧ Below w.heap.size w w' := by
  have := room_any h
  rw [Spc.upto_held hf, below_free] at this
  exact this
theorem Only.new {a : Nat} (h : Only (fun k => k = a) w w') {B : Nat} (hB : B ≤ a) (hBw : B ≤ w.heap.size) : Below B w w' := (h.mono (F' := fun k => B ≤ k) fun k _ hk => by omega).below hBw
end
theorem lives06_any (w : World) : Calls Try.prog 8 #[] w fun e w' => e = .returned (.bool true) ∧ Below w.heap.size w w' := by
  go_enter Try.func8, Try.ntmps8
  go_wp2_with (first
    | (go_at_call 7; refine (new_ok 16 2 (by omega) (by omega) (by omega)).mono ?_; rintro e w1 ⟨a, rfl, ha, h1, hb1⟩; have HI := Lib.hid (And.intro ha (And.intro h1 hb1)); clear ha h1 hb1)
    | (go_at_call 16; refine (upto_alloc (n := 16) (i := 2) (f := 2) HI.out.2.1 (by omega) (by omega)).mono ?_; rintro e w2 ⟨rfl, h2, ho2⟩; have HI2 := Lib.hid (And.intro h2 (HI.out.2.2.trans (ho2.new HI.out.1 HI.out.2.2.size))); clear h2 ho2)
    | (go_at_call 23; refine (upto_room HI2.out.1 (by omega)).mono ?_; rintro e w3 ⟨rfl, hb3⟩; have HI3 := Lib.hid (HI2.out.2.trans (hb3.mono HI2.out.2.size)); clear hb3))
  go_ret
  exact ⟨rfl, HI3.out⟩
end Go.Proofs.Ytllhilnajjohiaa
