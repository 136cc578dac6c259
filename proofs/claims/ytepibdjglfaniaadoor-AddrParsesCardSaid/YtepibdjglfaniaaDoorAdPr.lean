/-
  The document's reader of addresses: its mathematics, and what its stores do.
-/
import Derived.Test.YtepibdjglfaniaaDoorAdDi
import Derived.Test.YtepibdjglfaniaaDoorAdO
import Derived.Test.YtepibdjglfaniaaDoorAdRef
import Derived.Test.YtepibdjglfaniaaDoorAdT
namespace Go.Proofs.YtepibdjglfaniaaDoor
open Go.RowKit
theorem idx_at {s : List UInt8} {i : Nat} (h : i < s.length) (W : World) : (Instr.index 9 (.string ⟨s.toArray⟩) (.int .i64 (i : Int))).run Tryd.prog W = .ok (.int .u8 ((s[i]).toNat : Int)) W := by
  have hs : (⟨s.toArray⟩ : ByteArray).size = s.length := by simp [ByteArray.size]
  have h2 : i < (⟨s.toArray⟩ : ByteArray).size := by omega
  have e : (⟨s.toArray⟩ : ByteArray)[i]'h2 = s[i] := by
    show (s.toArray)[i]'(by simpa using h) = s[i]
    simp
  rw [run_index_string W 9 ⟨s.toArray⟩ .i64 (i : Int) Tryd.underlying9, dif_pos ⟨by omega, by rw [hs]; omega⟩]
  simp only [Int.toNat_natCast]
  rw [e]
/-- The reader's state behind j letters, and behind all and the end. -/
def stAt (six : Bool) (s : List UInt8) (j : Nat) : RSt := if j ≤ s.length then (s.take j).foldl (RSt.step six) RSt.new else (s.foldl (RSt.step six) RSt.new).mark six
theorem stAt_zero (six : Bool) (s : List UInt8) : stAt six s 0 = RSt.new := by simp [stAt]
theorem stAt_next {six : Bool} {s : List UInt8} {j : Nat} (h : j < s.length) : stAt six s (j + 1) = (stAt six s j).step six s[j] := by
  rw [stAt, stAt, if_pos (by omega), if_pos (by omega), List.take_add_one, List.getElem?_eq_getElem h, Option.toList_some, List.foldl_append]
  rfl
theorem stAt_last (six : Bool) (s : List UInt8) : stAt six s (s.length + 1) = (stAt six s s.length).mark six := by
  rw [stAt, stAt, if_neg (by omega), if_pos (Nat.le_refl _), List.take_length]
theorem stAt_all (six : Bool) (s : List UInt8) : (⟨six, (stAt six s (s.length + 1)).B⟩ : Ad) = rread six s := by
  rw [stAt, if_neg (by omega)]; rfl
theorem stAt_ok (six : Bool) (s : List UInt8) (j : Nat) : (stAt six s j).Ok six := by
  rw [stAt]
  split
  · exact (RSt.ok_new six).fold _
  · exact ((RSt.ok_new six).fold _).mark
theorem colon_next {s : List UInt8} {i : Nat} (h : i < s.length) : decide (58 ∈ s.take (i + 1)) = (decide (58 ∈ s.take i) || decide (s[i] = 58)) := by
  rw [List.take_add_one, List.getElem?_eq_getElem h, Option.toList_some, Bool.eq_iff_iff, Bool.or_eq_true, decide_eq_true_iff, decide_eq_true_iff, decide_eq_true_iff, List.mem_append, List.mem_singleton]
  exact or_congr Iff.rfl ⟨fun h => h.symm, fun h => h.symm⟩
theorem AdAt.six_set {w : World} {g : Nat} {a : Ad} (h : AdAt w g a) (b : Bool) : AdAt (w.setCell ⟨g, 0, none⟩ (.bool b)) g ⟨b, a.b⟩ := AdAt.set h (by simp [adC])
/-- A number laid, at IPv6. -/
theorem put_six {w : World} {g k n p r : Nat} {B : List UInt8} (h : AdAt w g ⟨true, B⟩) (hB : B.length = 16) (hk : k < 8) (hp : p = 2 * k) (hr : r = 2 * k + 1) (hn : n < 65536) :
    AdAt ((w.setCell ⟨g, 1 + p, none⟩ (.int .u8 ((n / 256 : Nat) : Int))).setCell ⟨g, 1 + r, none⟩ (.int .u8 ((n % 256 : Nat) : Int))) g ⟨true, putN true B k n⟩ := by
  have e1 : ((UInt8.ofNat (n / 256)).toNat : Int) = ((n / 256 : Nat) : Int) := by rw [UInt8.toNat_ofNat']; omega
  have e2 : ((UInt8.ofNat (n % 256)).toNat : Int) = ((n % 256 : Nat) : Int) := by rw [UInt8.toNat_ofNat']; omega
  rw [← e1, ← e2]
  refine AdAt.set (a := ⟨true, B.set p (UInt8.ofNat (n / 256))⟩) (AdAt.set h ?_) ?_
  · simp [adC, cellsB, Nat.add_comm 1, List.map_set]
  · simp [adC, cellsB, Nat.add_comm 1, List.map_set, putN, hk, hp, hr]
theorem put_four {w : World} {g k n : Nat} {B : List UInt8} (h : AdAt w g ⟨false, B⟩) (hk : k < 4) :
    AdAt (w.setCell ⟨g, 1 + (12 + k), none⟩ (.int .u8 ((n % 256 : Nat) : Int))) g ⟨false, putN false B k n⟩ := by
  have e2 : ((UInt8.ofNat (n % 256)).toNat : Int) = ((n % 256 : Nat) : Int) := by rw [UInt8.toNat_ofNat']; omega
  rw [← e2]
  refine AdAt.set h ?_
  simp [adC, cellsB, Nat.add_comm 1, List.map_set, putN, hk]
theorem stAt_k (six : Bool) (s : List UInt8) (j : Nat) : (stAt six s j).k ≤ j := by
  rw [stAt]
  split
  · have := RSt.step_k (six := six) (s.take j) RSt.new
    have h0 : RSt.new.k = 0 := rfl
    rw [List.length_take] at this
    omega
  · have := RSt.step_k (six := six) s RSt.new
    have h0 : RSt.new.k = 0 := rfl
    show (s.foldl (RSt.step six) RSt.new).k + 1 ≤ j
    omega
end Go.Proofs.YtepibdjglfaniaaDoor
