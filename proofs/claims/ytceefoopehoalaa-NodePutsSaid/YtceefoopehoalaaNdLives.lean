/-
  lives of layer 7: a leaf is written and read: contract.
-/
import Derived.Test.YtceefoopehoalaaNdW
import Derived.Lib.SlBytesConst
namespace Go.Proofs.Ytceefoopehoalaa
open Go.RowKit
/-- The leaf that lives writes and reads. -/
def ndLive : Nd := ⟨true, [[97]], [[49]], []⟩
theorem ndLive_fit : ndLive.Fit := by
  refine ⟨⟨fun j hj => ?_, fun j hj => ?_, fun j hj => absurd hj (Nat.not_lt_zero _), fun _ => ⟨rfl, rfl⟩, fun h => by cases h⟩, by decide, by decide⟩
  · obtain rfl : j = 0 := by simp [ndLive] at hj; omega
    exact ⟨⟨by decide, by decide⟩, fun h => absurd h (by omega)⟩
  · obtain rfl : j = 0 := by simp [ndLive] at hj; omega
    decide
theorem ndLive_bytes : ndLive.bytes = [1, 1, 97, 1, 49] := by decide
theorem rd_lit (w : World) (e : TypeId) (m : Nat × Nat) (l : List UInt8) (h : l.length ≤ 1000) : Rd (w.alloc (.cells (cellsB l).toArray e m)) (w.alloc (.cells (cellsB l).toArray e m)).heap.size (.slice (some ⟨w.heap.size, 0, none⟩) l.length l.length) (cellsB l) := by
  have := rd_const w e m l (by unfold maxLen; omega)
  simpa using this
theorem live_is (w : World) : NdIs ((((w.alloc (.cells #[.int .u8 97] 5 (1, 2))).alloc (.cells #[.slice (some ⟨w.heap.size, 0, none⟩) 1 1] 22)).alloc (.cells #[.int .u8 49] 5 (1, 2))).alloc (.cells #[.slice (some ⟨w.heap.size + 1 + 1, 0, none⟩) 1 1] 22))
    ((((w.alloc (.cells #[.int .u8 97] 5 (1, 2))).alloc (.cells #[.slice (some ⟨w.heap.size, 0, none⟩) 1 1] 22)).alloc (.cells #[.int .u8 49] 5 (1, 2))).alloc (.cells #[.slice (some ⟨w.heap.size + 1 + 1, 0, none⟩) 1 1] 22)).heap.size
    (.slice (some ⟨w.heap.size + 1, 0, none⟩) 1 1) (.slice (some ⟨w.heap.size + 1 + 1 + 1, 0, none⟩) 1 1) (.slice none 0 0) ndLive := by
  obtain ⟨w1, h1⟩ : ∃ w1, w1 = w.alloc (.cells #[.int .u8 97] 5 (1, 2)) := ⟨_, rfl⟩
  have r1 : Rd w1 w1.heap.size (.slice (some ⟨w.heap.size, 0, none⟩) 1 1) (cellsB [97]) := by rw [h1]; exact rd_lit w _ (1, 2) [97] (by decide)
  have s1 : w1.heap.size = w.heap.size + 1 := by rw [h1]; simp
  rw [← h1, ← s1]
  obtain ⟨w2, h2⟩ : ∃ w2, w2 = w1.alloc (.cells #[.slice (some ⟨w.heap.size, 0, none⟩) 1 1] 22) := ⟨_, rfl⟩
  have r2 := RdAll.lit1 w1 22 _ [97] r1
  have s2 : w2.heap.size = w1.heap.size + 1 := by rw [h2]; simp
  rw [← h2, ← s2] at r2
  rw [← h2, ← s2]
  obtain ⟨w3, h3⟩ : ∃ w3, w3 = w2.alloc (.cells #[.int .u8 49] 5 (1, 2)) := ⟨_, rfl⟩
  have r3 : Rd w3 w3.heap.size (.slice (some ⟨w2.heap.size, 0, none⟩) 1 1) (cellsB [49]) := by rw [h3]; exact rd_lit w2 _ (1, 2) [49] (by decide)
  have s3 : w3.heap.size = w2.heap.size + 1 := by rw [h3]; simp
  have k3 := r2.alloc (Nat.le_refl _) (.cells #[.int .u8 49] 5 (1, 2))
  rw [← h3] at k3
  rw [← h3, ← s3]
  have r4 := RdAll.lit1 w3 22 _ [49] r3
  have k4 := (k3.more (show w2.heap.size ≤ w3.heap.size by omega)).alloc (Nat.le_refl _) (.cells #[.slice (some ⟨w2.heap.size, 0, none⟩) 1 1] 22)
  rw [show w3.heap.size + 1 = (w3.alloc (.cells #[.slice (some ⟨w2.heap.size, 0, none⟩) 1 1] 22)).heap.size by simp] at r4
  exact ⟨k4.more (by simp), r4, Rd.nil _ _⟩
set_option maxHeartbeats 1600000 in
theorem lives07_any (w : World) : Calls Try.prog 13 #[] w fun e w' => e = .returned (.bool true) ∧ Below w.heap.size w w' := by
  have henc := fun (W : World) (h : NdIs W W.heap.size (.slice (some ⟨w.heap.size + 1, 0, none⟩) 1 1) (.slice (some ⟨w.heap.size + 1 + 1 + 1, 0, none⟩) 1 1) (.slice none 0 0) ndLive) => encode_good h (Nat.le_refl _) (by unfold Nd.Short ndLive; decide) ndLive_fit
  have hdec := fun (W : World) (A : Option Addr) (c : Nat) => decode_good A c W ndLive_fit
  rw [ndLive_bytes] at henc hdec
  have hdec := fun (W : World) => hdec (W.alloc (.cells #[.int .u8 1, .int .u8 1, .int .u8 97, .int .u8 1, .int .u8 49] 5 (5, 6))) _ _ (rd_lit W _ (5, 6) [1, 1, 97, 1, 49] (by decide))
  have hE := henc _ (live_is w)
  have HE : Hid (Calls Try.prog 26 #[ndVal true (.slice (some ⟨w.heap.size + 1, 0, none⟩) 1 1) (.slice (some ⟨w.heap.size + 1 + 1 + 1, 0, none⟩) 1 1) (.slice none 0 0)] _ _) := Lib.hid hE
  have HD : Hid (∀ W : World, Calls Try.prog 10 #[.bool true, .slice (some ⟨W.heap.size, 0, none⟩) 5 5] (W.alloc (.cells #[.int .u8 1, .int .u8 1, .int .u8 97, .int .u8 1, .int .u8 49] 5 (5, 6))) _) := Lib.hid hdec
  clear henc hdec hE
  have kc := fun (w : World) (C : Array Value) (n c : Nat) => Lib.run_convert_bytes_const (P := Try.prog) w 22 5 C n c Try.underlying22 Try.underlying5
  have kc2 : (convert 22 22 (.slice (some ⟨w.heap.size + 1 + 1, 0, none⟩) 1 1)).run Try.prog (((w.alloc (.cells #[.int .u8 97] 5 (1, 2))).alloc (.cells #[.slice (some ⟨w.heap.size, 0, none⟩) 1 1] 22)).alloc (.cells #[.int .u8 49] 5)) = .ok (.slice (some ⟨w.heap.size + 1 + 1, 0, none⟩) 1 1) (((w.alloc (.cells #[.int .u8 97] 5 (1, 2))).alloc (.cells #[.slice (some ⟨w.heap.size, 0, none⟩) 1 1] 22)).alloc (.cells #[.int .u8 49] 5 (1, 2))) := by
    have := kc ((w.alloc (.cells #[.int .u8 97] 5 (1, 2))).alloc (.cells #[.slice (some ⟨w.heap.size, 0, none⟩) 1 1] 22)) #[.int .u8 49] 1 1
    simpa using this
  go_enter Try.func13, Try.ntmps13
  go_wp2_with fail
  refine HE.out.mono ?_
  rintro e w1 ⟨v, rfl, hown, hb⟩
  have Hb1 := Lib.hid (((((Below.refl w.heap.size w).alloc (Nat.le_refl _) (.cells #[.int .u8 97] 5 (1, 2))).alloc (by simp) (.cells #[.slice (some ⟨w.heap.size, 0, none⟩) 1 1] 22)).alloc (by simp; omega) (.cells #[.int .u8 49] 5 (1, 2))).alloc (by simp; omega) (.cells #[.slice (some ⟨w.heap.size + 1 + 1, 0, none⟩) 1 1] 22) |>.trans (hb.mono (by simp; omega)))
  have Ho1 := Lib.hid hown.rd
  clear hown hb kc2
  go_wp2_with fail
  refine (HD.out _).mono ?_
  rintro e w2 ⟨K, V, D, rfl, hn, hb⟩
  obtain ⟨A1, c1, A2, c2, A3, c3, rfl, rfl, rfl⟩ := hn.is.form
  have Hb2 := Lib.hid ((Hb1.out.alloc Hb1.out.size (.cells #[.int .u8 1, .int .u8 1, .int .u8 97, .int .u8 1, .int .u8 49] 5 (5, 6))).trans (hb.mono (by have := Hb1.out.size; simp; omega)))
  have e1 : ndLive.keys.length = 1 := rfl
  have hr2 := ((Ho1.out.alloc (Nat.le_refl _) (.cells #[.int .u8 1, .int .u8 1, .int .u8 97, .int .u8 1, .int .u8 49] 5 (5, 6))).below (hb.mono (by simp)))
  rw [e1]
  have hs := run_string_kept (P := Try.prog) 22 9 5 Try.underlying22 Try.underlying5 Try.underlying9 hr2 ((Below.refl w1.heap.size w2).alloc (by have := hb.size; simp at this; omega) (.cells #[.bool ndLive.leaf, .slice A1 1 c1, .slice A2 ndLive.vals.length c2, .slice A3 ndLive.kids.length c3] 27))
  clear hn hb hr2 e1 kc
  go_wp2_with fail
  go_ret
  exact ⟨rfl, up_alloc Hb2.out _⟩
end Go.Proofs.Ytceefoopehoalaa
