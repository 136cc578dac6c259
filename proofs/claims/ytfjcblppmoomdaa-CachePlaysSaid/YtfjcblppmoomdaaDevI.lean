/-
  New, and what is told of no device; a sector of one byte; that what is flushed lasts.
-/
import Derived.Test.YtfjcblppmoomdaaDevF
namespace Go.Proofs.Ytfjcblppmoomdaa
open Go.RowKit
theorem madeCells_all (z : Array Value) (c : Value) (m n : Nat) (hm : 0 < m) (hz : z = Array.replicate m c) : madeCells z n = (List.replicate n c).toArray := by
  subst hz
  apply Array.ext_getElem?
  intro i
  simp only [madeCells, Array.getElem?_map, Array.size_replicate, List.getElem?_toArray]
  by_cases hi : i < n
  · have h1 : i % m < m := Nat.mod_lt _ hm
    simp [hi, h1]
  · simp [hi]
theorem cellsB_replicate (n : Nat) (b : UInt8) : cellsB (List.replicate n b) = List.replicate n (.int .u8 (b.toNat : Int)) := by simp [cellsB]
theorem flat_replicate (n : Nat) (l : List UInt8) (b : UInt8) (h : l = List.replicate 256 b) : flat (List.replicate n l) = List.replicate (n * 256) (.int .u8 (b.toNat : Int)) := by
  subst h
  induction n with
  | zero => simp [flat]
  | succ n ih => rw [List.replicate_succ, flat_cons, ih, cellsB_replicate, List.replicate_append_replicate]; congr 1; omega
/-- A sector of noughts. -/
def blank : List UInt8 := List.replicate 256 0
/-- A new device. -/
def Dev.new (n : Nat) : Dev := { f := fun _ => (false, 0), L := List.replicate n blank, Q := fun _ => [], n := 0 }
theorem wide_blank (n : Nat) : Wide (List.replicate n blank) := fun l hl => by rw [List.eq_of_mem_replicate hl]; exact List.length_replicate
set_option maxRecDepth 100000 in
theorem new_no {n : Int} (w : World) (h : n < 16 ∨ 1600 < n) : Calls Try.prog 8 #[.int .i64 n] w fun e w' => e = .returned (.tuple #[.pointer none, .int .i64 1]) ∧ w = w' := by
  rcases h with h | h
  · go_enter Try.func8, Try.ntmps8
    go_wp2_with fail
    go_ret2
    exact ⟨rfl, rfl⟩
  · have h1 : ¬ n < 16 := by omega
    go_enter Try.func8, Try.ntmps8
    go_wp2_with fail
    go_ret2
    exact ⟨rfl, rfl⟩
set_option maxRecDepth 100000 in
set_option maxHeartbeats 400000 in
theorem new_ok {n : Nat} (w : World) (F : Nat → Prop) (h : 16 ≤ n ∧ n ≤ 1600) (hF : ∀ k, w.heap.size ≤ k → F k) :
    Calls Try.prog 8 #[.int .i64 (n : Int)] w fun e w' => e = .returned (.tuple #[at0 (w.heap.size + 2), .int .i64 0]) ∧
      DevIs w' F (w.heap.size + 2) w.heap.size (w.heap.size + 1) (fun _ => .slice none 0 0) (.map []) (Dev.new n) ∧ Below w.heap.size w w' := by
  obtain ⟨i, hi, hz0, hz1, hz2⟩ := info_parts info_sector'
  have hmk := run_makeSlice (P := Try.prog) w 64 85 i _ Try.underlying64 hi hz0 .i64 .i64 (n : Int) (n : Int) (by omega) (by omega) (by rw [hz1]; omega) (by rw [hz2]; omega) (by omega)
  rw [hz1] at hmk
  have hcl : (Value.agg (Array.replicate 256 (Value.int .u8 0))).cells = Array.replicate 256 (Value.int .u8 0) := rfl
  rw [hcl, madeCells_all _ (.int .u8 0) 256 _ (by omega) rfl] at hmk
  have hfl : List.replicate ((n : Int).toNat * 256) (Value.int .u8 0) = flat (Dev.new n).L := by
    rw [show (Dev.new n).L = List.replicate n blank from rfl, flat_replicate n blank 0 rfl]
    simp
  rw [hfl] at hmk
  obtain ⟨C, hC⟩ : ∃ C, C = (flat (Dev.new n).L).toArray := ⟨_, rfl⟩
  rw [← hC] at hmk
  have hmm := @run_makeMap Try.prog
  have hnt : (n : Int).toNat = n := by omega
  rw [hnt] at hmk
  have hw : DevIs (((w.alloc (.cells C 85)).alloc (.map #[] 0)).alloc (.cells (devCells (Dev.new n) w.heap.size (w.heap.size + 1)).toArray 71)) F (w.heap.size + 2) w.heap.size (w.heap.size + 1) (fun _ => .slice none 0 0) (.map []) (Dev.new n) := by
    have hno : ∀ kl, Maps.has (DataW.map [] : DataW Value) kl = false := fun kl => rfl
    have s1 : (w.alloc (.cells C 85)).heap.size = w.heap.size + 1 := by simp
    have s2 : ((w.alloc (.cells C 85)).alloc (.map #[] 0)).heap.size = w.heap.size + 2 := by simp
    refine ⟨?_, ?_, ?_, fun i _ => Maps.atKey_of_not_has (hno _) _, fun i _ => World.ownsRow_nil _ _ _ _, fun i _ => ?_, fun kl hk => ?_, fun _ _ _ _ _ => .inl rfl, fun i g _ e => ?_, ⟨by omega, by omega, by omega⟩, ⟨hF _ (by omega), hF _ (by omega), hF _ (by omega)⟩, wide_blank n, fun _ => ?_, ?_, fun _ => Nat.zero_le _, fun _ => Nat.zero_le _⟩
    · rw [← s2]; exact heap_alloc_last _ _
    · rw [heap_alloc_old _ _ (by rw [s2]; omega), heap_alloc_old _ _ (by rw [s1]; omega), ← hC]; exact heap_alloc_last _ _
    · refine World.ownsMap.alloc ?_ _
      rw [← s1]
      exact World.ownsMap_made _ _ _ _
    · simp [hno, Dev.new]
    · rw [hno] at hk; cases hk
    · cases e
    · intro l hl; cases hl
    · simp [Dev.new, h.1, h.2]
  have Hw := Lib.hid hw
  have hdc : (devCells (Dev.new n) w.heap.size (w.heap.size + 1)).toArray = #[.bool false, .int .i64 0, .bool false, .int .i64 0, .bool false, .int .i64 0, .bool false, .int .i64 0, .slice (some ⟨w.heap.size, 0, none⟩) n n, .map (some (w.heap.size + 1)), .int .i64 0] := by
    simp [devCells, Dev.new]
  have Hdc := Lib.hid hdc
  clear hC hfl hw hdc hz0 hz1 hz2 hi
  have t1 : decide ((n : Int) < 16) = false := by simp; omega
  have t2 : decide (1600 < (n : Int)) = false := by simp; omega
  have Hn := Kept.mk h
  clear h hnt
  have Hmk := Lib.hid hmk
  clear hmk
  go_enter Try.func8, Try.ntmps8
  go_wp2_with ((with_reducible refine wpList_run (o := ⟨some 11, .makeSlice 64 (.tmp 10) (.tmp 10), _, _, _, none⟩) rfl (.slice (some ⟨w.heap.size, 0, none⟩) n n) (w.alloc (.cells C 85)) ?_ ?_); exact exec_makeSlice (t := 64) (x := .tmp 10) (y := .tmp 10) rfl (u := .int .i64 (n : Int)) rfl (v := .int .i64 (n : Int)) rfl Hmk.out)
  go_ret2
  have hfin := Hw.out
  rw [Hdc.out] at hfin
  exact ⟨rfl, hfin, (((Below.refl _ _).alloc (Nat.le_refl _) _).alloc (by simp) _).alloc (by simp; omega) _⟩
theorem crash_nil (v : Value) (w : World) : Calls Try.prog 26 #[.pointer none, v] w fun e w' => e = .returned (.tuple #[]) ∧ w = w' := by
  go_enter Try.func26, Try.ntmps26
  go_wp2_with fail
  refine bodyPost_ret (results_none rfl _ _ _) rfl ?_
  exact ⟨rfl, rfl⟩
theorem fail_nil (a b : Int) (w : World) : Calls Try.prog 19 #[.pointer none, .int .i64 a, .int .i64 b] w fun e w' => e = .returned (.int .i64 1) ∧ w = w' := by
  go_enter Try.func19, Try.ntmps19
  go_wp2_with fail
  go_ret
  exact ⟨rfl, rfl⟩
/-- A sector of one byte, as far as it was written: k of its bytes. -/
def upTo256 (b : UInt8) (k : Nat) : List UInt8 := List.replicate k b ++ List.replicate (256 - k) 0
theorem upTo256_length (b : UInt8) (k : Nat) (h : k ≤ 256) : (upTo256 b k).length = 256 := by simp [upTo256]; omega
theorem upTo256_all (b : UInt8) : upTo256 b 256 = List.replicate 256 b := by unfold upTo256; rw [Nat.sub_self, List.replicate_zero, List.append_nil]
theorem upTo256_set (b : UInt8) (k : Nat) (h : k < 256) : (cellsB (upTo256 b k)).set k (.int .u8 (b.toNat : Int)) = cellsB (upTo256 b (k + 1)) := by
  unfold cellsB
  rw [← List.map_set]
  congr 1
  apply List.ext_getElem?
  intro j
  rw [List.getElem?_set]
  unfold upTo256
  by_cases hj : k = j
  · subst hj
    rw [if_pos rfl, if_pos (by simp; omega), List.getElem?_append_left (by simp)]
    simp
  · rw [if_neg hj]
    by_cases h1 : j < k
    · rw [List.getElem?_append_left (by simp; omega), List.getElem?_append_left (by simp; omega)]
      simp [h1, Nat.lt_succ_of_lt h1]
    · rw [List.getElem?_append_right (by simp; omega), List.getElem?_append_right (by simp; omega)]
      simp only [List.length_replicate, List.getElem?_replicate]
      by_cases h2 : j < 256
      · rw [if_pos (by omega), if_pos (by omega)]
      · rw [if_neg (by omega), if_neg (by omega)]
end Go.Proofs.Ytfjcblppmoomdaa
