/-
  What is written of a node, as data; number and Encode of package node, by contracts.
-/
import Derived.Test.YtceefoopehoalaaNdE
import Derived.Test.YtceefoopehoalaaOwnRows
import Derived.Test.YtceefoopehoalaaNumCut
import Derived.Deep.RegionHeld3
namespace Go.Proofs.Ytceefoopehoalaa
open Go.RowKit
set_option maxHeartbeats 400000 in
theorem number_any (x s : Nat) (w : World) (hx : x ≤ 1000000) (h1 : 1 ≤ s) (h2 : s ≤ 8) :
    Calls Try.prog 47 #[.int .i64 (x : Int), .int .i64 (s : Int)] w fun e w' => ∃ A c, e = .returned (.slice A s c) ∧ Mine w' w.heap.size 5 (.slice A s c) (cellsB (be s x)) ∧ Below w.heap.size w w' := by
  have hp := put_yes none 0 [] x s w 0 (Rd.nil _ _) (Nat.zero_le _) (by simp) h1 h2
  rw [List.nil_append] at hp
  have HP := Lib.hid hp
  clear hp
  go_enter Try.func47, Try.ntmps47
  go_wp2_with (go_at_call 60; refine HP.out.mono ?_; rintro e w' ⟨v', rfl, hown, hb⟩)
  go_ret
  obtain ⟨A, c, rfl⟩ := hown.form
  rw [cellsB_length, be_length] at hown ⊢
  exact ⟨A, c, rfl, hown, hb⟩
/-- The text at place k of a row that was there, in whatever later world. -/
theorem RdAll.later {w : World} {B b o n c : Nat} {ls : List (List UInt8)} (h : RdAll w B (.slice (some ⟨b, o, none⟩) n c) ls) (hB : B ≤ w.heap.size) {k : Nat} (hk : k < n) :
    ∃ A' m c', m = (ls.getD k []).length ∧ m ≤ c' ∧ c' ≤ 9223372036854775807 ∧ ∀ W, Below w.heap.size w W → W.cell? ⟨b, o + k, none⟩ = some (.slice A' m c') ∧ Rd W w.heap.size (.slice A' m c') (cellsB (ls.getD k [])) ∧
      ∀ gs : List (Option Nat), (∀ g ∈ gs, ∀ k, g = some k → w.heap.size ≤ k) → Far W W.heap.size gs (.slice A' m c') (cellsB (ls.getD k [])) := by
  obtain ⟨A', m, c', hc, hp, hm, h1, h2⟩ := h.cell hk
  refine ⟨A', m, c', hm, h1, h2, fun W hW => ⟨(hW.cell (p := ⟨b, o + k, none⟩) (World.block_lt_of_cell? _ _ hc)).trans hc, (hp.more hB).below hW, fun gs hg => (((hp.more hB).below hW).far hg).more hW.size⟩⟩
/-- A row of the call's own lies above what was there. -/
theorem OwnAll.above {w : World} {B : Nat} {v : Value} {ls : List (List UInt8)} (h : OwnAll w (B + 1) v ls) : ∀ g ∈ [v.ownBlock], ∀ k, g = some k → B ≤ k := fun g hg k e => by
  rw [List.mem_singleton] at hg
  subst hg
  have := (h.block k e).1
  omega
theorem Mine.farAll {w w' : World} {e : TypeId} {v x : Value} {xs : List Value} {base : Nat} {ls : List (List UInt8)} (h : Mine w' w.heap.size e x xs) (ho : OwnAll w base v ls) : Far w' w'.heap.size [v.ownBlock] x xs :=
  h.far fun g hg k e => by
    rw [List.mem_singleton] at hg
    subst hg
    exact (ho.block k e).2
/-- What stands ahead of the cells. -/
def Nd.head (n : Nd) : List (List UInt8) := be 1 n.keys.length :: (if n.leaf then [] else [be 2 (n.kids.getD 0 0).toNat])
/-- The parts of cell i. -/
def Nd.cellParts (n : Nd) (i : Nat) : List (List UInt8) :=
  [be 1 (n.keys.getD i []).length, n.keys.getD i []] ++ (if n.leaf then [be 1 (n.vals.getD i []).length, n.vals.getD i []] else [be 2 (n.kids.getD (i + 1) 0).toNat])
/-- All parts up to the first k cells. -/
def Nd.parts (n : Nd) : Nat → List (List UInt8)
  | 0 => n.head
  | k + 1 => n.parts k ++ n.cellParts k
/-- What is written of a node. -/
def Nd.bytes (n : Nd) : List UInt8 := (n.parts n.keys.length).flatten
theorem Nd.parts_len (n : Nd) : ∀ k, (n.parts k).length ≤ 2 + 4 * k
  | 0 => by unfold Nd.parts Nd.head; split <;> simp
  | k + 1 => by
    have := n.parts_len k
    unfold Nd.parts Nd.cellParts
    rw [List.length_append]
    split <;> simp <;> omega
theorem Nd.parts_size (n : Nd) : ∀ k, (n.parts k).flatten.length = (if n.leaf then 1 else 3) + n.cells k
  | 0 => by
    unfold Nd.parts Nd.head Nd.cells
    split <;> simp [be_length]
  | k + 1 => by
    have := n.parts_size k
    unfold Nd.parts Nd.cellParts Nd.cells Nd.cell
    rw [List.flatten_append, List.length_append, this]
    split <;> simp [be_length] <;> omega
theorem Nd.bytes_len (n : Nd) : n.bytes.length = n.size := n.parts_size _
theorem Nd.parts_leaf {n : Nd} (h : n.leaf = true) (k : Nat) : n.parts (k + 1) = (n.parts k ++ [be 1 (n.keys.getD k []).length, n.keys.getD k []]) ++ [be 1 (n.vals.getD k []).length, n.vals.getD k []] := by
  rw [Nd.parts, Nd.cellParts, if_pos h, List.append_assoc]
theorem Nd.parts_not {n : Nd} (h : n.leaf = false) (k : Nat) : n.parts (k + 1) = (n.parts k ++ [be 1 (n.keys.getD k []).length, n.keys.getD k []]) ++ [be 2 (n.kids.getD (k + 1) 0).toNat] := by
  rw [Nd.parts, Nd.cellParts, if_neg (by simp [h]), List.append_assoc]

set_option maxHeartbeats 1000000 in
theorem encode_form {n : Nd} {K V D : Value} {w : World} {B : Nat} (hr : NdIs w B K V D n) (hB : B ≤ w.heap.size) (hsh : n.Short 1000000) (hno : ¬ n.Snd ∨ 255 < n.keys.length) :
    Calls Try.prog 26 #[ndVal n.leaf K V D] w fun e w' => e = .returned (.tuple #[.slice none 0 0, .int .i64 4]) ∧ Below w.heap.size w w' := by
  have hsnd := fun (W : World) (hb : Below w.heap.size w W) => sound_any (hr.below (hb.mono hB)) (Nat.le_trans hB hb.size) hsh
  have hn := hsh.1
  obtain ⟨A1, c1, A2, c2, A3, c3, rfl, rfl, rfl⟩ := hr.form
  obtain ⟨lf, hlf⟩ : ∃ lf, lf = n.leaf := ⟨_, rfl⟩
  obtain ⟨a, ha⟩ : ∃ a, a = n.keys.length := ⟨_, rfl⟩
  rw [← hlf] at hsnd ⊢
  rw [← ha] at hsnd hn hno ⊢
  have hb0 : Below w.heap.size w (w.alloc (.cells #[.bool lf, .slice A1 a c1, .slice A2 n.vals.length c2, .slice A3 n.kids.length c3] 27)) := (Below.refl _ _).alloc (Nat.le_refl _) _
  have hbox := NdBox.made w lf (.slice A1 a c1) (.slice A2 n.vals.length c2) (.slice A3 n.kids.length c3)
  have h1 := hsnd _ hb0
  have HB := Lib.hid hb0
  have HX := Lib.hid hbox
  by_cases hs : n.Snd
  · have hl : 255 < a := by rcases hno with h | h; exact absurd hs h; exact h
    have hli : (255 : Int) < (a : Int) := by omega
    rw [sndB_iff.2 hs] at h1
    clear hb0 hbox hsnd hr hB hlf ha hs hno hl
    go_enter Try.func26, Try.ntmps26
    go_wp2_with (go_at_call 37; refine h1.mono ?_; rintro e w1 ⟨rfl, hb⟩; obtain ⟨x0, x1, x2, x3⟩ := HX.out.later HX.out.lt hb; have Hb1 := Lib.hid (up HB.out hb); clear hb h1)
    go_ret2
    exact ⟨rfl, Hb1.out⟩
  · rw [sndB_not hs] at h1
    clear hb0 hbox hsnd hr hB hlf ha hs hno
    go_enter Try.func26, Try.ntmps26
    go_wp2_with (go_at_call 37; refine h1.mono ?_; rintro e w1 ⟨rfl, hb⟩; obtain ⟨x0, x1, x2, x3⟩ := HX.out.later HX.out.lt hb; have Hb1 := Lib.hid (up HB.out hb); clear hb h1)
    go_ret2
    exact ⟨rfl, Hb1.out⟩
set_option maxHeartbeats 1000000 in
theorem encode_long {n : Nd} {K V D : Value} {w : World} {B : Nat} (hr : NdIs w B K V D n) (hB : B ≤ w.heap.size) (hsh : n.Short 1000000) (hs : n.Snd) (hk : n.keys.length ≤ 255) (hlong : 232 < n.size) :
    Calls Try.prog 26 #[ndVal n.leaf K V D] w fun e w' => e = .returned (.tuple #[.slice none 0 0, .int .i64 10]) ∧ Below w.heap.size w w' := by
  have hsnd := fun (W : World) (hb : Below w.heap.size w W) => sound_any (hr.below (hb.mono hB)) (Nat.le_trans hB hb.size) hsh
  have hsize := fun (W : World) (hb : Below w.heap.size w W) => size_any (hr.below (hb.mono hB)) (Nat.le_trans hB hb.size) hs hsh
  obtain ⟨A1, c1, A2, c2, A3, c3, rfl, rfl, rfl⟩ := hr.form
  obtain ⟨lf, hlf⟩ : ∃ lf, lf = n.leaf := ⟨_, rfl⟩
  obtain ⟨a, ha⟩ : ∃ a, a = n.keys.length := ⟨_, rfl⟩
  obtain ⟨z, hz⟩ : ∃ z, z = n.size := ⟨_, rfl⟩
  rw [← hlf] at hsnd hsize ⊢
  rw [← hz] at hsize hlong
  rw [← ha] at hsnd hk hsize ⊢
  have hb0 : Below w.heap.size w (w.alloc (.cells #[.bool lf, .slice A1 a c1, .slice A2 n.vals.length c2, .slice A3 n.kids.length c3] 27)) := (Below.refl _ _).alloc (Nat.le_refl _) _
  have hbox := NdBox.made w lf (.slice A1 a c1) (.slice A2 n.vals.length c2) (.slice A3 n.kids.length c3)
  have h1 := hsnd _ hb0
  rw [sndB_iff.2 hs] at h1
  have HB := Lib.hid hb0
  have HX := Lib.hid hbox
  have HZ := Lib.hid hsize
  have hk2 : (a : Int) ≤ 255 := by omega
  have hlong2 : (232 : Int) < (z : Int) := by omega
  clear hb0 hbox hsnd hsize hr hB hlf ha hs hz hk hlong hsh
  go_enter Try.func26, Try.ntmps26
  go_wp2_with (go_at_call 37; refine h1.mono ?_; rintro e w1 ⟨rfl, hb⟩; obtain ⟨x0, x1, x2, x3⟩ := HX.out.later HX.out.lt hb; have Hb1 := Lib.hid (up HB.out hb); clear hb h1)
  refine (HZ.out _ Hb1.out).mono ?_
  rintro e w2 ⟨rfl, hb⟩
  have Hb2 := Lib.hid (up Hb1.out hb)
  clear hb
  go_wp2_with fail
  go_ret2
  exact ⟨rfl, Hb2.out⟩
end Go.Proofs.Ytceefoopehoalaa
