/-
  A node in memory; Sound of package node, by contract.
-/
import Derived.Test.YtceefoopehoalaaNdB
namespace Go.Proofs.Ytceefoopehoalaa
open Go.RowKit
/-- The lists of a node, in memory below B. -/
structure NdIs (w : World) (B : Nat) (K V D : Value) (n : Nd) : Prop where
  keys : RdAll w B K n.keys
  vals : RdAll w B V n.vals
  kids : Rd w B D (cellsI n.kids)
/-- The value of a node. -/
abbrev ndVal (lf : Bool) (K V D : Value) : Value := .agg #[.bool lf, K, V, D]
section
variable {w w' : World} {B B' : Nat} {K V D : Value} {n : Nd}
theorem RdAll.more {v : Value} {ls : List (List UInt8)} (h : RdAll w B v ls) (hB : B ≤ B') : RdAll w B' v ls := by
  obtain ⟨vs, h1, h2, h3⟩ := h
  exact ⟨vs, h1.more hB, h2, fun k u l a b => (h3 k u l a b).more hB⟩
theorem RdAll.alloc {v : Value} {ls : List (List UInt8)} (h : RdAll w B v ls) (hB : B ≤ w.heap.size) (o : Obj) : RdAll (w.alloc o) B v ls := h.keep fun p hp => World.cell?_alloc_lt w o p (by omega)
theorem NdIs.below (h : NdIs w B K V D n) (hb : Below B w w') : NdIs w' B K V D n := ⟨h.keys.below hb, h.vals.below hb, h.kids.below hb⟩
theorem NdIs.more (h : NdIs w B K V D n) (hB : B ≤ B') : NdIs w B' K V D n := ⟨h.keys.more hB, h.vals.more hB, h.kids.more hB⟩
theorem NdIs.alloc (h : NdIs w B K V D n) (hB : B ≤ w.heap.size) (o : Obj) : NdIs (w.alloc o) B K V D n := ⟨h.keys.alloc hB o, h.vals.alloc hB o, h.kids.alloc hB o⟩
theorem NdIs.drew (h : NdIs w B K V D n) : NdIs w.drew B K V D n := ⟨h.keys, h.vals, h.kids⟩
/-- A node's lists are slices. -/
theorem NdIs.form (h : NdIs w B K V D n) : ∃ (A1 : Option Addr) (c1 : Nat) (A2 : Option Addr) (c2 : Nat) (A3 : Option Addr) (c3 : Nat),
    K = .slice A1 n.keys.length c1 ∧ V = .slice A2 n.vals.length c2 ∧ D = .slice A3 n.kids.length c3 := by
  obtain ⟨A1, c1, e1, _⟩ := h.keys.form
  obtain ⟨A2, c2, e2, _⟩ := h.vals.form
  obtain ⟨A3, c3, e3, _⟩ := h.kids
  rw [cellsI_length] at e3
  exact ⟨A1, c1, A2, c2, A3, c3, e1, e2, e3⟩
end
noncomputable def sndB (n : Nd) : Bool := @decide n.Snd (Classical.propDecidable _)
theorem sndB_iff {n : Nd} : sndB n = true ↔ n.Snd := by simp [sndB]
theorem sndB_not {n : Nd} (h : ¬ n.Snd) : sndB n = false := by simpa [sndB] using h
theorem snd_keys {n : Nd} (h : keysB n.keys = false) : sndB n = false := sndB_not fun g => by rw [keysB_iff.2 g.keys] at h; cases h
theorem snd_leaf {n : Nd} (hl : n.leaf = true) (hk : keysB n.keys = true) (h0 : n.kids.length = 0) (h1 : n.vals.length = n.keys.length) : sndB n = valsB n.vals := by
  rw [Bool.eq_iff_iff, sndB_iff, valsB_iff]
  exact ⟨fun g => g.vals, fun g => ⟨keysB_iff.1 hk, g, fun j hj => by omega, fun _ => ⟨h0, h1⟩, fun h => by rw [hl] at h; cases h⟩⟩
theorem snd_not {n : Nd} (hl : n.leaf = false) (hk : keysB n.keys = true) (h0 : n.vals.length = 0) (h1 : 0 < n.keys.length) (h2 : n.kids.length = n.keys.length + 1) : sndB n = kidsB n.kids := by
  rw [Bool.eq_iff_iff, sndB_iff, kidsB_iff]
  exact ⟨fun g => g.kids, fun g => ⟨keysB_iff.1 hk, fun j hj => by omega, g, fun h => (by rw [hl] at h; cases h), fun _ => ⟨h0, h1, h2⟩⟩⟩
/-- That a node's lists are short: for the walk's bounds alone. -/
def Nd.Short (n : Nd) (m : Nat) : Prop := n.keys.length ≤ m ∧ n.vals.length ≤ m ∧ n.kids.length ≤ m

set_option maxHeartbeats 1000000 in
theorem sound_any {n : Nd} {K V D : Value} {w : World} {B : Nat} (hr : NdIs w B K V D n) (hB : B ≤ w.heap.size) (hs : n.Short 1000000) :
    Calls Try.prog 37 #[ndVal n.leaf K V D] w fun e w' => e = .returned (.bool (sndB n)) ∧ Below w.heap.size w w' := by
  obtain ⟨A1, c1, A2, c2, A3, c3, rfl, rfl, rfl⟩ := hr.form
  have hk := fun o => keys_any A1 n.keys.length c1 n.keys (w.alloc o) B (hr.keys.alloc hB o) hs.1
  have hv := fun o => vals_any A2 n.vals.length c2 n.vals (w.alloc o) B (hr.vals.alloc hB o) hs.2.1
  have hd := fun o => kids_any A3 n.kids.length c3 n.kids (w.alloc o) B (hr.kids.alloc hB o) hs.2.2
  obtain ⟨hs1, hs2, hs3⟩ := hs
  obtain ⟨lf, hlf⟩ : ∃ lf, lf = n.leaf := ⟨_, rfl⟩
  obtain ⟨a, ha⟩ : ∃ a, a = n.keys.length := ⟨_, rfl⟩
  obtain ⟨b, hb⟩ : ∃ b, b = n.vals.length := ⟨_, rfl⟩
  obtain ⟨d, hdd⟩ : ∃ d, d = n.kids.length := ⟨_, rfl⟩
  rw [← ha] at hs1 hk ⊢
  rw [← hb] at hs2 hv ⊢
  rw [← hdd] at hs3 hd ⊢
  rw [← hlf]
  have Ha := Lib.hid ha
  have Hb := Lib.hid hb
  have Hd := Lib.hid hdd
  have Hlf := Lib.hid hlf
  have HV := Lib.hid hv
  have HD := Lib.hid hd
  clear ha hb hdd hlf hr hv hd
  cases hkb : keysB n.keys
  · rw [hkb] at hk
    have HK := Lib.hid hk
    have Hkb := Lib.hid hkb
    clear hk hkb
    go_enter Try.func37, Try.ntmps37
    go_wp2_with (go_at_call 52; refine (HK.out _).mono ?_; rintro e w' ⟨rfl, rfl⟩)
    go_ret
    exact ⟨by rw [snd_keys Hkb.out]; rfl, (Below.refl _ _).alloc (Nat.le_refl _) _⟩
  · rw [hkb] at hk
    have HK := Lib.hid hk
    have Hkb := Lib.hid hkb
    clear hk hkb
    cases lf
    · by_cases h1 : b = 0
      · by_cases h2 : 0 < a
        · by_cases h3 : d = a + 1
          · have h3i : ((d : Int) == (a : Int) + 1) = true := by rw [h3]; simp
            have h1i : ((b : Int) == 0) = true := by rw [h1]; rfl
            have H1 := Lib.hid h1
            have H3 := Lib.hid h3
            clear h1 h3
            go_enter Try.func37, Try.ntmps37
            go_wp2_with (first | (go_at_call 52; refine (HK.out _).mono ?_; rintro e w' ⟨rfl, rfl⟩) | (go_at_call 54; refine (HD.out _).mono ?_; rintro e w' ⟨rfl, rfl⟩))
            go_ret
            exact ⟨by rw [snd_not Hlf.out.symm Hkb.out (by rw [← Hb.out]; exact H1.out) (by rw [← Ha.out]; exact h2) (by rw [← Ha.out, ← Hd.out]; exact H3.out)]; rfl, (Below.refl _ _).alloc (Nat.le_refl _) _⟩
          · have h3i : ((d : Int) == (a : Int) + 1) = false := by rw [beq_eq_false_iff_ne]; omega
            have h1i : ((b : Int) == 0) = true := by rw [h1]; rfl
            have H3 := Lib.hid h3
            clear h1 h3
            go_enter Try.func37, Try.ntmps37
            go_wp2_with (first | (go_at_call 52; refine (HK.out _).mono ?_; rintro e w' ⟨rfl, rfl⟩))
            go_ret
            exact ⟨by rw [sndB_not fun g => H3.out (by rw [Ha.out, Hd.out]; exact (g.ofNot Hlf.out.symm).2.2)]; rfl, (Below.refl _ _).alloc (Nat.le_refl _) _⟩
        · have h1i : ((b : Int) == 0) = true := by rw [h1]; rfl
          have h2i : decide ((0 : Int) < (a : Int)) = false := by simp; omega
          have H2 := Lib.hid h2
          clear h1 h2
          go_enter Try.func37, Try.ntmps37
          go_wp2_with (first | (go_at_call 52; refine (HK.out _).mono ?_; rintro e w' ⟨rfl, rfl⟩))
          go_ret
          exact ⟨by rw [sndB_not fun g => H2.out (by rw [Ha.out]; exact (g.ofNot Hlf.out.symm).2.1)]; rfl, (Below.refl _ _).alloc (Nat.le_refl _) _⟩
      · have h1i : ((b : Int) == 0) = false := by rw [beq_eq_false_iff_ne]; omega
        have H1 := Lib.hid h1
        clear h1
        go_enter Try.func37, Try.ntmps37
        go_wp2_with (first | (go_at_call 52; refine (HK.out _).mono ?_; rintro e w' ⟨rfl, rfl⟩))
        go_ret
        exact ⟨by rw [sndB_not fun g => H1.out (by rw [Hb.out]; exact (g.ofNot Hlf.out.symm).1)]; rfl, (Below.refl _ _).alloc (Nat.le_refl _) _⟩
    · by_cases h1 : d = 0
      · by_cases h2 : b = a
        · have h1i : ((d : Int) == 0) = true := by rw [h1]; rfl
          have h2i : ((b : Int) == (a : Int)) = true := by rw [h2]; simp
          have H1 := Lib.hid h1
          have H2 := Lib.hid h2
          clear h1 h2
          go_enter Try.func37, Try.ntmps37
          go_wp2_with (first | (go_at_call 52; refine (HK.out _).mono ?_; rintro e w' ⟨rfl, rfl⟩) | (go_at_call 53; refine (HV.out _).mono ?_; rintro e w' ⟨rfl, rfl⟩))
          go_ret
          exact ⟨by rw [snd_leaf Hlf.out.symm Hkb.out (by rw [← Hd.out]; exact H1.out) (by rw [← Ha.out, ← Hb.out]; exact H2.out)]; rfl, (Below.refl _ _).alloc (Nat.le_refl _) _⟩
        · have h1i : ((d : Int) == 0) = true := by rw [h1]; rfl
          have h2i : ((b : Int) == (a : Int)) = false := by rw [beq_eq_false_iff_ne]; omega
          have H2 := Lib.hid h2
          clear h1 h2
          go_enter Try.func37, Try.ntmps37
          go_wp2_with (first | (go_at_call 52; refine (HK.out _).mono ?_; rintro e w' ⟨rfl, rfl⟩))
          go_ret
          exact ⟨by rw [sndB_not fun g => H2.out (by rw [Ha.out, Hb.out]; exact (g.ofLeaf Hlf.out.symm).2)]; rfl, (Below.refl _ _).alloc (Nat.le_refl _) _⟩
      · have h1i : ((d : Int) == 0) = false := by rw [beq_eq_false_iff_ne]; omega
        have H1 := Lib.hid h1
        clear h1
        go_enter Try.func37, Try.ntmps37
        go_wp2_with (first | (go_at_call 52; refine (HK.out _).mono ?_; rintro e w' ⟨rfl, rfl⟩))
        go_ret
        exact ⟨by rw [sndB_not fun g => H1.out (by rw [Hd.out]; exact (g.ofLeaf Hlf.out.symm).1)]; rfl, (Below.refl _ _).alloc (Nat.le_refl _) _⟩
end Go.Proofs.Ytceefoopehoalaa
