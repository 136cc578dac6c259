/-
  The document's own Encode of layer 7: contract.
-/
import Derived.Test.YtceefoopehoalaaNdRefG
namespace Go.Proofs.Ytceefoopehoalaa
open Go.RowKit
set_option maxHeartbeats 1600000 in
theorem rencode_good {n : Nd} {K V D : Value} {w : World} {B : Nat} (hr : NdIs w B K V D n) (hB : B ≤ w.heap.size) (hsh : n.Short 1000000) (hf : n.Fit) (hkl : ∀ j, j < n.keys.length → (n.keys.getD j []).length ≤ 1000000) :
    Calls Try.prog 32 #[ndVal n.leaf K V D] w fun e w' => ∃ v, e = .returned (.tuple #[v, .int .i64 0]) ∧ Mine w' w.heap.size 5 v (cellsB n.bytes) ∧ Below w.heap.size w w' := by
  have hsnd := fun (W : World) (hb : Below w.heap.size w W) => rsound_any (hr.below (hb.mono hB)) (Nat.le_trans hB hb.size) hsh hkl
  have hby := fun (W : World) (hb : Below w.heap.size w W) => rbytes_loop (hr.below (hb.mono hB)) (Nat.le_trans hB hb.size) hf.snd hf.few
  rw [sndB_iff.2 hf.snd] at hsnd
  have hlen : n.bytes.length ≤ 232 := by rw [n.bytes_len]; exact hf.fit
  have hk := hf.few
  obtain ⟨A1, n1, c1, A2, n2, c2, A3, n3, c3, rfl, rfl, rfl⟩ := hr.slices
  have hn1 : n1 = n.keys.length := hr.keys.len.1
  obtain ⟨lf, hlf⟩ : ∃ x, x = n.leaf := ⟨_, rfl⟩
  rw [← hn1] at hk
  rw [← hlf] at hsnd hby ⊢
  obtain ⟨L, hL⟩ : ∃ L, L = n.bytes := ⟨_, rfl⟩
  rw [← hL] at hby hlen ⊢
  have hb0 : Below w.heap.size w (w.alloc (.cells #[.bool lf, .slice A1 n1 c1, .slice A2 n2 c2, .slice A3 n3 c3] 27)) := (Below.refl _ _).alloc (Nat.le_refl _) _
  have hbox := NdBox.made w lf (.slice A1 n1 c1) (.slice A2 n2 c2) (.slice A3 n3 c3)
  have h1 := hsnd _ hb0
  have HX := Lib.hid hbox
  have H0 := Lib.hid hb0
  have HY := Lib.hid hby
  have hk2 : (n1 : Int) ≤ 255 := by omega
  obtain ⟨x0, x1, x2, x3⟩ := hbox
  clear hr hB hsh hf hkl hsnd hby hk hn1 hlf hb0 hL
  go_enter Try.func32, Try.ntmps32
  go_wp2_with fail
  refine h1.mono ?_
  rintro e w1 ⟨rfl, hb⟩
  have Hb1 := Lib.hid (up H0.out hb)
  have HX1 := Lib.hid (HX.out.later HX.out.lt hb)
  clear x0 x1 x2 x3 hb h1
  obtain ⟨x0, x1, x2, x3⟩ := HX1.out
  have h2 := HY.out _ Hb1.out
  go_wp2_with fail
  refine h2.mono ?_
  rintro e w2 ⟨v, rfl, hown, hb⟩
  obtain ⟨Av, cv, rfl⟩ := hown.form
  rw [cellsB_length] at hown ⊢
  have hl2 : (L.length : Int) ≤ 232 := by omega
  have Hown := Lib.hid hown
  have Hb2 := Lib.hid (up Hb1.out hb)
  have Hsz := Lib.hid Hb1.out.size
  clear hown hb h2
  obtain ⟨nL, hnL⟩ : ∃ x, x = L.length := ⟨_, rfl⟩
  rw [← hnL] at hl2 ⊢
  have Hown2 : Hid (Mine w2 w1.heap.size 5 (.slice Av nL cv) (cellsB L)) := Lib.hid (by rw [hnL]; exact Hown.out)
  clear hnL Hown hlen
  go_wp2_with fail
  go_ret2
  exact ⟨_, rfl, Hown2.out.weaken Hsz.out, Hb2.out⟩
set_option maxHeartbeats 1600000 in
theorem rencode_bad {n : Nd} {K V D : Value} {w : World} {B : Nat} (hr : NdIs w B K V D n) (hB : B ≤ w.heap.size) (hsh : n.Short 1000000) (hf : ¬ n.Fit) (hkl : ∀ j, j < n.keys.length → (n.keys.getD j []).length ≤ 1000000) :
    ∃ x : Int, (x = 4 ∨ x = 10) ∧ Calls Try.prog 32 #[ndVal n.leaf K V D] w fun e w' => ∃ A c, e = .returned (.tuple #[.slice A 0 c, .int .i64 x]) ∧ Mine w' w.heap.size 5 (.slice A 0 c) (cellsB []) ∧ Below w.heap.size w w' := by
  have hsnd := fun (W : World) (hb : Below w.heap.size w W) => rsound_any (hr.below (hb.mono hB)) (Nat.le_trans hB hb.size) hsh hkl
  have hn255 := hsh.1
  by_cases hs : n.Snd ∧ n.keys.length ≤ 255
  · have hby := fun (W : World) (hb : Below w.heap.size w W) => rbytes_loop (hr.below (hb.mono hB)) (Nat.le_trans hB hb.size) hs.1 hs.2
    rw [sndB_iff.2 hs.1] at hsnd
    have hlen : 232 < n.bytes.length := by
      rw [n.bytes_len]
      rcases Nat.lt_or_ge 232 n.size with h | h
      · exact h
      · exact absurd ⟨hs.1, hs.2, h⟩ hf
    have hlen2 : n.bytes.length ≤ 20000 := by rw [n.bytes_len]; unfold Nd.size; have := n.cells_le hs.1 n.keys.length (Nat.le_refl _); have := hs.2; split <;> omega
    have hk := hs.2
    refine ⟨10, .inr rfl, ?_⟩
    obtain ⟨A1, n1, c1, A2, n2, c2, A3, n3, c3, rfl, rfl, rfl⟩ := hr.slices
    have hn1 : n1 = n.keys.length := hr.keys.len.1
    obtain ⟨lf, hlf⟩ : ∃ x, x = n.leaf := ⟨_, rfl⟩
    rw [← hn1] at hk
    rw [← hlf] at hsnd hby ⊢
    obtain ⟨L, hL⟩ : ∃ L, L = n.bytes := ⟨_, rfl⟩
    rw [← hL] at hby hlen hlen2
    have hb0 : Below w.heap.size w (w.alloc (.cells #[.bool lf, .slice A1 n1 c1, .slice A2 n2 c2, .slice A3 n3 c3] 27)) := (Below.refl _ _).alloc (Nat.le_refl _) _
    have hbox := NdBox.made w lf (.slice A1 n1 c1) (.slice A2 n2 c2) (.slice A3 n3 c3)
    have h1 := hsnd _ hb0
    have HX := Lib.hid hbox
    have H0 := Lib.hid hb0
    have HY := Lib.hid hby
    have hk2 : (n1 : Int) ≤ 255 := by omega
    obtain ⟨x0, x1, x2, x3⟩ := hbox
    clear hr hB hsh hf hkl hsnd hby hk hn1 hlf hb0 hL hs hn255
    go_enter Try.func32, Try.ntmps32
    go_wp2_with fail
    refine h1.mono ?_
    rintro e w1 ⟨rfl, hb⟩
    have Hb1 := Lib.hid (up H0.out hb)
    have HX1 := Lib.hid (HX.out.later HX.out.lt hb)
    clear x0 x1 x2 x3 hb h1
    obtain ⟨x0, x1, x2, x3⟩ := HX1.out
    have h2 := HY.out _ Hb1.out
    go_wp2_with fail
    refine h2.mono ?_
    rintro e w2 ⟨v, rfl, hown, hb⟩
    obtain ⟨Av, cv, rfl⟩ := hown.form
    rw [cellsB_length] at hown ⊢
    have hl2 : (232 : Int) < (L.length : Int) := by omega
    have Hb2 := Lib.hid (up Hb1.out hb)
    clear hown hb h2
    obtain ⟨nL, hnL⟩ : ∃ x, x = L.length := ⟨_, rfl⟩
    rw [← hnL] at hl2 ⊢
    clear hnL hlen hlen2
    go_wp2_with fail
    go_ret2
    exact ⟨_, _, rfl, Mine.empty w2 _ _ Hb2.out.size, Hb2.out.alloc Hb2.out.size _⟩
  · refine ⟨4, .inl rfl, ?_⟩
    obtain ⟨A1, n1, c1, A2, n2, c2, A3, n3, c3, rfl, rfl, rfl⟩ := hr.slices
    have hn1 : n1 = n.keys.length := hr.keys.len.1
    obtain ⟨lf, hlf⟩ : ∃ x, x = n.leaf := ⟨_, rfl⟩
    rw [← hlf] at hsnd ⊢
    rw [← hn1] at hs hn255
    have hb0 : Below w.heap.size w (w.alloc (.cells #[.bool lf, .slice A1 n1 c1, .slice A2 n2 c2, .slice A3 n3 c3] 27)) := (Below.refl _ _).alloc (Nat.le_refl _) _
    have hbox := NdBox.made w lf (.slice A1 n1 c1) (.slice A2 n2 c2) (.slice A3 n3 c3)
    have h1 := hsnd _ hb0
    have HX := Lib.hid hbox
    have H0 := Lib.hid hb0
    obtain ⟨x0, x1, x2, x3⟩ := hbox
    by_cases hs2 : n.Snd
    · have hk2 : (255 : Int) < (n1 : Int) := by
        rcases Nat.lt_or_ge 255 n1 with h | h
        · omega
        · exact absurd ⟨hs2, h⟩ hs
      rw [sndB_iff.2 hs2] at h1
      clear hr hB hsh hf hkl hsnd hn1 hlf hb0 hs hs2
      go_enter Try.func32, Try.ntmps32
      go_wp2_with fail
      refine h1.mono ?_
      rintro e w1 ⟨rfl, hb⟩
      have Hb1 := Lib.hid (up H0.out hb)
      have HX1 := Lib.hid (HX.out.later HX.out.lt hb)
      clear x0 x1 x2 x3 hb h1
      obtain ⟨x0, x1, x2, x3⟩ := HX1.out
      go_wp2_with fail
      go_ret2
      exact ⟨_, _, rfl, Mine.empty w1 _ _ Hb1.out.size, Hb1.out.alloc Hb1.out.size _⟩
    · rw [sndB_not hs2] at h1
      clear hr hB hsh hf hkl hsnd hn1 hlf hb0 hs hs2
      go_enter Try.func32, Try.ntmps32
      go_wp2_with fail
      refine h1.mono ?_
      rintro e w1 ⟨rfl, hb⟩
      have Hb1 := Lib.hid (up H0.out hb)
      clear x0 x1 x2 x3 hb h1
      go_wp2_with fail
      go_ret2
      exact ⟨_, _, rfl, Mine.empty w1 _ _ Hb1.out.size, Hb1.out.alloc Hb1.out.size _⟩
end Go.Proofs.Ytceefoopehoalaa
