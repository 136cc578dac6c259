/-
  cellSize, cellsSize, Size of package node, by contracts.
-/
import Derived.Test.YtceefoopehoalaaNdC
namespace Go.Proofs.Ytceefoopehoalaa
open Go.RowKit
/-- A node lies in block N. -/
structure NdBox (w : World) (N : Nat) (lf : Bool) (K V D : Value) : Prop where
  c0 : w.cell? ⟨N, 0, none⟩ = some (.bool lf)
  c1 : w.cell? ⟨N, 1, none⟩ = some K
  c2 : w.cell? ⟨N, 2, none⟩ = some V
  c3 : w.cell? ⟨N, 3, none⟩ = some D
theorem NdBox.later {w w' : World} {N B : Nat} {lf : Bool} {K V D : Value} (h : NdBox w N lf K V D) (hN : N < B) (hb : Below B w w') : NdBox w' N lf K V D :=
  ⟨(hb.cell (p := ⟨N, 0, none⟩) hN).trans h.c0, (hb.cell (p := ⟨N, 1, none⟩) hN).trans h.c1, (hb.cell (p := ⟨N, 2, none⟩) hN).trans h.c2, (hb.cell (p := ⟨N, 3, none⟩) hN).trans h.c3⟩
theorem NdBox.made (w : World) (lf : Bool) (K V D : Value) : NdBox (w.alloc (.cells #[.bool lf, K, V, D] 27)) w.heap.size lf K V D :=
  ⟨by rw [World.cell?_alloc_mark]; rfl, by rw [World.cell?_alloc_mark]; rfl, by rw [World.cell?_alloc_mark]; rfl, by rw [World.cell?_alloc_mark]; rfl⟩
theorem NdBox.lt {w : World} {N : Nat} {lf : Bool} {K V D : Value} (h : NdBox w N lf K V D) : N < w.heap.size := World.block_lt_of_cell? w _ h.c0

/-- How many bytes cell i has. -/
def Nd.cell (n : Nd) (i : Nat) : Nat := 1 + (n.keys.getD i []).length + (if n.leaf then 1 + (n.vals.getD i []).length else 2)
/-- How many bytes the first k cells have. -/
def Nd.cells (n : Nd) : Nat → Nat
  | 0 => 0
  | k + 1 => n.cells k + n.cell k
theorem Nd.cell_le {n : Nd} (h : n.Snd) {i : Nat} (hi : i < n.keys.length) : n.cell i ≤ 50 := by
  unfold Nd.cell
  have h1 := (h.keys i hi).1.2
  split
  · rename_i hl
    have := h.vals i (by rw [(h.ofLeaf hl).2]; exact hi)
    omega
  · omega
theorem Nd.cells_le {n : Nd} (h : n.Snd) : ∀ k, k ≤ n.keys.length → n.cells k ≤ 50 * k
  | 0, _ => Nat.le_refl _
  | k + 1, hk => by
    have := Nd.cells_le h k (by omega)
    have := n.cell_le h (i := k) (by omega)
    unfold Nd.cells
    omega
set_option maxHeartbeats 1000000 in
theorem cellsize_any {n : Nd} {K V D : Value} {w : World} {B : Nat} (hr : NdIs w B K V D n) (hs : n.Snd) (i : Nat) (hi : i < n.keys.length) (hn : n.keys.length ≤ 1000000) :
    Calls Try.prog 58 #[ndVal n.leaf K V D, .int .i64 (i : Int)] w fun e w' => e = .returned (.int .i64 (n.cell i : Nat)) ∧ Below w.heap.size w w' := by
  obtain ⟨A1, c1, A2, c2, A3, c3, rfl, rfl, rfl⟩ := hr.form
  have h1 := (hs.keys i hi).1.2
  obtain ⟨b, o, rfl, hb⟩ := hr.keys.addr (by omega)
  obtain ⟨A', m, c', hc, _, hm, hmc, hmx⟩ := hr.keys.cell hi
  have hc1 := fun o => (World.cell?_alloc_lt w o _ (World.block_lt_of_cell? _ _ hc)).trans hc
  rw [← hm] at h1
  obtain ⟨lf, hlf⟩ : ∃ lf, lf = n.leaf := ⟨_, rfl⟩
  have hce : n.cell i = 1 + m + (if lf then 1 + (n.vals.getD i []).length else 2) := by unfold Nd.cell; rw [hm, hlf]
  rw [← hlf]
  cases lf
  · rw [if_neg (by decide)] at hce
    rw [hce]
    obtain ⟨a, ha⟩ : ∃ a, a = n.keys.length := ⟨_, rfl⟩
    rw [← ha] at hi hn ⊢
    clear hce ha hlf hs hr hm
    have hc1 := hc1 (.cells #[.bool false, .slice (some ⟨b, o, none⟩) a c1, .slice A2 n.vals.length c2, .slice A3 n.kids.length c3] 27)
    go_enter Try.func58, Try.ntmps58
    go_wp2_with fail
    go_ret
    exact ⟨by simp, (Below.refl _ _).alloc (Nat.le_refl _) _⟩
  · rw [if_pos rfl] at hce
    have h2 := hs.vals i (by rw [(hs.ofLeaf hlf.symm).2]; exact hi)
    have hl2 := (hs.ofLeaf hlf.symm).2
    obtain ⟨b2, o2, rfl, hb2⟩ := hr.vals.addr (by omega)
    obtain ⟨A2', m2, c2', hc2, _, hm2, hmc2, hmx2⟩ := hr.vals.cell (k := i) (by omega)
    have hc2 := fun o => (World.cell?_alloc_lt w o _ (World.block_lt_of_cell? _ _ hc2)).trans hc2
    rw [← hm2] at hce h2
    rw [hce]
    rw [hl2]
    obtain ⟨a, ha⟩ : ∃ a, a = n.keys.length := ⟨_, rfl⟩
    rw [← ha] at hi hn ⊢
    clear hce ha hlf hs hr hm hm2 hl2
    have hc1 := hc1 (.cells #[.bool true, .slice (some ⟨b, o, none⟩) a c1, .slice (some ⟨b2, o2, none⟩) a c2, .slice A3 n.kids.length c3] 27)
    have hc2 := hc2 (.cells #[.bool true, .slice (some ⟨b, o, none⟩) a c1, .slice (some ⟨b2, o2, none⟩) a c2, .slice A3 n.kids.length c3] 27)
    go_enter Try.func58, Try.ntmps58
    go_wp2_with fail
    go_ret
    exact ⟨by simp; omega, (Below.refl _ _).alloc (Nat.le_refl _) _⟩
set_option maxHeartbeats 1000000 in
theorem cells_any {n : Nd} {K V D : Value} {w : World} {B : Nat} (hr : NdIs w B K V D n) (hB : B ≤ w.heap.size) (hs : n.Snd) (hn : n.keys.length ≤ 1000000) :
    Calls Try.prog 57 #[ndVal n.leaf K V D] w fun e w' => e = .returned (.int .i64 (n.cells n.keys.length : Nat)) ∧ Below w.heap.size w w' := by
  have hcall := fun (W : World) (hb : Below w.heap.size w W) (i : Nat) (hi : i < n.keys.length) => cellsize_any (hr.below (hb.mono hB)) hs i hi hn
  have hle := fun k (hk : k ≤ n.keys.length) => n.cells_le hs k hk
  obtain ⟨A1, c1, A2, c2, A3, c3, rfl, rfl, rfl⟩ := hr.form
  obtain ⟨lf, hlf⟩ : ∃ lf, lf = n.leaf := ⟨_, rfl⟩
  obtain ⟨a, ha⟩ : ∃ a, a = n.keys.length := ⟨_, rfl⟩
  rw [← ha] at hn hcall hle ⊢
  rw [← hlf] at hcall ⊢
  have HC := Lib.hid hcall
  have HL := Lib.hid hle
  clear hcall hle hs hr hB hlf ha
  go_enter Try.func57, Try.ntmps57
  go_wp2_with fail
  have hb0 : Below w.heap.size w (w.alloc (.cells #[.bool lf, .slice A1 a c1, .slice A2 n.vals.length c2, .slice A3 n.kids.length c3] 27)) := (Below.refl _ _).alloc (Nat.le_refl _) _
  have hbox := NdBox.made w lf (.slice A1 a c1) (.slice A2 n.vals.length c2) (.slice A3 n.kids.length c3)
  have HB := Lib.hid hb0
  have HX := Lib.hid hbox
  clear hb0 hbox
  go_loopw [3, 8] (fun sv iv wr => ∃ k : Nat, k ≤ a ∧ iv = .int .i64 (k : Int) ∧ sv = .int .i64 (n.cells k : Nat) ∧ Hid (NdBox wr w.heap.size lf (.slice A1 a c1) (.slice A2 n.vals.length c2) (.slice A3 n.kids.length c3) ∧ Below w.heap.size w wr)) (fun _ iv _ => a - (intOf iv).toNat)
  case atStart => exact ⟨0, Nat.zero_le _, rfl, rfl, Lib.hid ⟨HX.out, HB.out⟩⟩
  case round =>
    obtain ⟨k, hk, rfl, rfl, HI⟩ := hrel
    by_cases hlt : k < a
    · obtain ⟨⟨x0, x1, x2, x3⟩, hbel⟩ := HI.out
      have hcc := HC.out wr hbel k hlt
      have hl1 := HL.out (k + 1) (by omega)
      have e1 : n.cells (k + 1) = n.cells k + n.cell k := rfl
      rw [e1] at hl1
      obtain ⟨q, hq⟩ : ∃ q, q = n.cells k := ⟨_, rfl⟩
      obtain ⟨x, hx⟩ : ∃ x, x = n.cell k := ⟨_, rfl⟩
      rw [← hq, ← hx] at hl1
      rw [← hx] at hcc
      rw [← hq]
      have Hq := Lib.hid hq
      have Hx := Lib.hid hx
      have Hbel := Lib.hid hbel
      clear hq hx e1 hbel
      go_wp2_with (go_at_call 58; refine hcc.mono ?_; rintro e w' ⟨rfl, hb⟩)
      go_roundw
      case rel => exact ⟨k + 1, by omega, by go_num, by show _ = Value.int .i64 ((n.cells k + n.cell k : Nat) : Int); rw [← Hq.out, ← Hx.out]; go_num, Lib.hid ⟨(HI.out.1).later HI.out.1.lt hb, up Hbel.out hb⟩⟩
      case measure => simp [intOf]; omega
    · have : k = a := by omega
      subst this
      go_wp2_with fail
      go_ret
      exact ⟨rfl, HI.out.2⟩
end Go.Proofs.Ytceefoopehoalaa
