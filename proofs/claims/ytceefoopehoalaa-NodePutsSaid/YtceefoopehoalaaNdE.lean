/-
  Size, half of package node, by contracts.
-/
import Derived.Test.YtceefoopehoalaaNdD
namespace Go.Proofs.Ytceefoopehoalaa
open Go.RowKit
/-- How many bytes a sound node has. -/
def Nd.size (n : Nd) : Nat := (if n.leaf then 1 else 3) + n.cells n.keys.length
/-- h is the least number of first cells that have at least half of all bytes; most, if that is less. -/
structure Nd.Half (n : Nd) (most h : Nat) : Prop where
  lo : 1 ≤ h
  hi : h ≤ most
  enough : h < most → n.cells n.keys.length ≤ 2 * n.cells h
  least : ∀ j, 1 ≤ j → j < h → 2 * n.cells j < n.cells n.keys.length
theorem Nd.Half.one {n : Nd} {most h g : Nat} (a : n.Half most h) (b : n.Half most g) : h = g := by
  have h1 := a.lo; have h2 := a.hi; have g1 := b.lo; have g2 := b.hi
  rcases Nat.lt_trichotomy h g with e | e | e
  · have := a.enough (by omega); have := b.least h h1 e; omega
  · exact e
  · have := b.enough (by omega); have := a.least g g1 e; omega
set_option maxHeartbeats 1000000 in
theorem size_any {n : Nd} {K V D : Value} {w : World} {B : Nat} (hr : NdIs w B K V D n) (hB : B ≤ w.heap.size) (hs : n.Snd) (hsh : n.Short 1000000) :
    Calls Try.prog 46 #[ndVal n.leaf K V D] w fun e w' => e = .returned (.int .i64 (n.size : Nat)) ∧ Below w.heap.size w w' := by
  have hsnd := fun (W : World) (hb : Below w.heap.size w W) => sound_any (hr.below (hb.mono hB)) (Nat.le_trans hB hb.size) hsh
  have hcall := fun (W : World) (hb : Below w.heap.size w W) => cells_any (hr.below (hb.mono hB)) (Nat.le_trans hB hb.size) hs hsh.1
  rw [sndB_iff.2 hs] at hsnd
  have hle := n.cells_le hs n.keys.length (Nat.le_refl _)
  have hn := hsh.1
  obtain ⟨A1, c1, A2, c2, A3, c3, rfl, rfl, rfl⟩ := hr.form
  obtain ⟨q, hq⟩ : ∃ q, q = n.cells n.keys.length := ⟨_, rfl⟩
  have hsz : n.size = (if n.leaf then 1 else 3) + q := by rw [hq]; rfl
  obtain ⟨z, hz⟩ : ∃ z, z = n.size := ⟨_, rfl⟩
  obtain ⟨lf, hlf⟩ : ∃ lf, lf = n.leaf := ⟨_, rfl⟩
  rw [← hq] at hcall hle
  rw [← hz] at hsz ⊢
  rw [← hlf] at hcall hsnd hsz ⊢
  have HS := Lib.hid hsnd
  have HC := Lib.hid hcall
  have HZ := Lib.hid hsz
  have hq2 : q ≤ 50000000 := by omega
  clear hcall hsnd hle hs hr hB hq hlf hz hsz hsh hn
  have hb0 : Below w.heap.size w (w.alloc (.cells #[.bool lf, .slice A1 n.keys.length c1, .slice A2 n.vals.length c2, .slice A3 n.kids.length c3] 27)) := (Below.refl _ _).alloc (Nat.le_refl _) _
  have hbox := NdBox.made w lf (.slice A1 n.keys.length c1) (.slice A2 n.vals.length c2) (.slice A3 n.kids.length c3)
  have h1 := HS.out _ hb0
  have HB := Lib.hid hb0
  have HX := Lib.hid hbox
  clear hb0 hbox
  cases lf
  · have HZ : Hid (z = 3 + q) := HZ
    go_enter Try.func46, Try.ntmps46
    go_wp2_with (go_at_call 37; refine h1.mono ?_; rintro e w1 ⟨rfl, hb⟩; obtain ⟨x0, x1, x2, x3⟩ := HX.out.later HX.out.lt hb; have Hb1 := Lib.hid (up HB.out hb); have h2 := HC.out _ Hb1.out; clear hb h1)
    refine h2.mono ?_
    rintro e w2 ⟨rfl, hb⟩
    have Hb2 := Lib.hid (up Hb1.out hb)
    clear hb h2
    go_wp2_with fail
    go_ret
    exact ⟨by rw [HZ.out]; simp, Hb2.out⟩
  · have HZ : Hid (z = 1 + q) := HZ
    go_enter Try.func46, Try.ntmps46
    go_wp2_with (go_at_call 37; refine h1.mono ?_; rintro e w1 ⟨rfl, hb⟩; obtain ⟨x0, x1, x2, x3⟩ := HX.out.later HX.out.lt hb; have Hb1 := Lib.hid (up HB.out hb); have h2 := HC.out _ Hb1.out; clear hb h1)
    refine h2.mono ?_
    rintro e w2 ⟨rfl, hb⟩
    have Hb2 := Lib.hid (up Hb1.out hb)
    clear hb h2
    go_wp2_with fail
    go_ret
    exact ⟨by rw [HZ.out]; simp, Hb2.out⟩
set_option maxHeartbeats 1000000 in
theorem half_any {n : Nd} {K V D : Value} {w : World} {B : Nat} (hr : NdIs w B K V D n) (hB : B ≤ w.heap.size) (hs : n.Snd) (hn : n.keys.length ≤ 1000000) (most : Nat) (hm1 : 1 ≤ most) (hm2 : most < n.keys.length) :
    Calls Try.prog 42 #[ndVal n.leaf K V D, .int .i64 (most : Int)] w fun e w' => ∃ h : Nat, e = .returned (.int .i64 (h : Int)) ∧ n.Half most h ∧ Below w.heap.size w w' := by
  have hcall := fun (W : World) (hb : Below w.heap.size w W) (i : Nat) (hi : i < n.keys.length) => cellsize_any (hr.below (hb.mono hB)) hs i hi hn
  have hall := fun (W : World) (hb : Below w.heap.size w W) => cells_any (hr.below (hb.mono hB)) (Nat.le_trans hB hb.size) hs hn
  have hle := fun k (hk : k ≤ n.keys.length) => n.cells_le hs k hk
  obtain ⟨A1, c1, A2, c2, A3, c3, rfl, rfl, rfl⟩ := hr.form
  obtain ⟨lf, hlf⟩ : ∃ lf, lf = n.leaf := ⟨_, rfl⟩
  obtain ⟨a, ha⟩ : ∃ a, a = n.keys.length := ⟨_, rfl⟩
  obtain ⟨q, hq⟩ : ∃ q, q = n.cells a := ⟨_, rfl⟩
  have hq1 := hle a (by omega)
  rw [← ha] at hn hm2 hcall hle hall ⊢
  rw [← hq] at hq1 hall
  rw [← hlf] at hcall hall ⊢
  have hc0 := hcall
  have HC := Lib.hid hcall
  have HA := Lib.hid hall
  have HL := Lib.hid hle
  have Hq := Lib.hid hq
  have Ha := Lib.hid ha
  have hq2 : q ≤ 50000000 := by omega
  clear hcall hle hs hr hB hlf ha hall hq hq1 hc0
  have hb0 : Below w.heap.size w (w.alloc (.cells #[.bool lf, .slice A1 a c1, .slice A2 n.vals.length c2, .slice A3 n.kids.length c3] 27)) := (Below.refl _ _).alloc (Nat.le_refl _) _
  have hbox := NdBox.made w lf (.slice A1 a c1) (.slice A2 n.vals.length c2) (.slice A3 n.kids.length c3)
  have h1 := HA.out _ hb0
  have HB := Lib.hid hb0
  have HX := Lib.hid hbox
  clear hb0 hbox
  go_enter Try.func42, Try.ntmps42
  go_wp2_with (go_at_call 57; refine h1.mono ?_; rintro e w1 ⟨rfl, hb⟩; obtain ⟨x0, x1, x2, x3⟩ := HX.out.later HX.out.lt hb; have Hb1 := Lib.hid (up HB.out hb); have h2 := HC.out _ Hb1.out 0 (by omega); have HX1 := Lib.hid (NdBox.mk x0 x1 x2 x3); clear hb h1)
  refine h2.mono ?_
  rintro e w2 ⟨rfl, hb⟩
  have Hb2 := Lib.hid (up Hb1.out hb)
  have HX2 := Lib.hid (HX1.out.later HX1.out.lt hb)
  clear hb h2 x0 x1 x2 x3
  have hc1 : n.cell 0 = n.cells 1 := by simp [Nd.cells]
  rw [hc1]
  clear hc1
  go_wp2_with fail
  go_loopw [6, 7] (fun iv sv wr => ∃ k : Nat, 1 ≤ k ∧ k ≤ most ∧ iv = .int .i64 (k : Int) ∧ sv = .int .i64 (n.cells k : Nat) ∧ Hid (NdBox wr w.heap.size lf (.slice A1 a c1) (.slice A2 n.vals.length c2) (.slice A3 n.kids.length c3) ∧ Below w.heap.size w wr ∧ ∀ j, 1 ≤ j → j < k → 2 * n.cells j < n.cells a)) (fun iv _ _ => a - (intOf iv).toNat)
  case atStart => exact ⟨1, Nat.le_refl _, hm1, rfl, rfl, Lib.hid ⟨HX2.out, Hb2.out, fun j h g => by omega⟩⟩
  case round =>
    obtain ⟨k, hk1, hk, rfl, rfl, HI⟩ := hrel
    obtain ⟨p, hp⟩ : ∃ p, p = n.cells k := ⟨_, rfl⟩
    have hp1 := HL.out k (by omega)
    rw [← hp] at hp1 ⊢
    have Hp := Lib.hid hp
    have hp2 : p ≤ 50000000 := by omega
    clear hp hp1
    by_cases hlt : k < most
    · by_cases h2 : 2 * p < q
      · obtain ⟨⟨x0, x1, x2, x3⟩, hbel, hj⟩ := HI.out
        have hcc := HC.out wr hbel k (by omega)
        have hl1 := HL.out (k + 1) (by omega)
        have e1 : n.cells (k + 1) = n.cells k + n.cell k := rfl
        rw [e1] at hl1
        obtain ⟨x, hx⟩ : ∃ x, x = n.cell k := ⟨_, rfl⟩
        rw [← hx] at hl1 hcc
        have hx2 : x ≤ 50000000 := by omega
        have Hx := Lib.hid hx
        have Hbel := Lib.hid hbel
        clear hx e1 hbel hj hl1
        go_wp2_with (go_at_call 58; refine hcc.mono ?_; rintro e w' ⟨rfl, hb⟩)
        go_roundw
        case rel => exact ⟨k + 1, by omega, by omega, by go_num, by show _ = Value.int .i64 ((n.cells k + n.cell k : Nat) : Int); rw [← Hp.out, ← Hx.out]; go_num, Lib.hid ⟨(HI.out.1).later HI.out.1.lt hb, up Hbel.out hb, fun j g1 g2 => by
          by_cases e : j = k
          · subst e; rw [← Hp.out, ← Hq.out]; exact h2
          · exact HI.out.2.2 j g1 (by omega)⟩⟩
        case measure => simp [intOf]; omega
      · have h2i : decide ((2 : Int) * (p : Int) < (q : Int)) = false := by simp; omega
        have H2 := Lib.hid h2
        clear h2
        go_wp2_with fail
        go_ret
        refine ⟨k, rfl, ⟨hk1, hk, fun _ => ?_, fun j g1 g2 => ?_⟩, HI.out.2.1⟩
        · rw [← Ha.out, ← Hq.out, ← Hp.out]; have := H2.out; omega
        · rw [← Ha.out]; exact HI.out.2.2 j g1 g2
    · have hkm : decide ((k : Int) < (most : Int)) = false := by simp; omega
      have Hlt := Lib.hid hlt
      clear hlt
      go_wp2_with fail
      go_ret
      refine ⟨k, rfl, ⟨hk1, hk, fun g => absurd g Hlt.out, fun j g1 g2 => ?_⟩, HI.out.2.1⟩
      rw [← Ha.out]; exact HI.out.2.2 j g1 g2
end Go.Proofs.Ytceefoopehoalaa
