/-
  New of a cache: its contract; a device and a cache that a law makes.
-/
import Derived.Test.YtfjcblppmoomdaaCacheH
namespace Go.Proofs.Ytfjcblppmoomdaa
open Go.RowKit
/-- A new cache. -/
def Cch.new (n : Nat) : Cch := ⟨List.replicate n Frm.zero, 0⟩
theorem Cch.new_len (n : Nat) : (Cch.new n).L.length = n := List.length_replicate
theorem new_getD (n i : Nat) : (Cch.new n).L.getD i Frm.zero = Frm.zero := by
  rw [List.getD_eq_getElem?_getD]
  show ((List.replicate n Frm.zero)[i]?).getD Frm.zero = _
  rw [List.getElem?_replicate]
  split <;> rfl
theorem zero_wide : (Frm.zero).b.length = 256 := List.length_replicate
theorem new_broad (n : Nat) : Broad (Cch.new n).L := fun f hf => by rw [List.eq_of_mem_replicate hf]; exact zero_wide
theorem made_rows (n : Nat) : madeCells (frCells Frm.zero).toArray (n * 261) = (rows (Cch.new n).L).toArray := by
  have hl : (rows (Cch.new n).L).length = n * 261 := by
    have := chunks_length (new_broad n).cells
    rw [Cch.new_len] at this
    exact this
  have hz : (frCells Frm.zero).length = 261 := frCells_length zero_wide
  apply Array.ext_getElem?
  intro i
  simp only [madeCells, Array.getElem?_map, List.getElem?_toArray, List.size_toArray]
  rw [hz]
  by_cases hi : i < n * 261
  · have h1 : i / 261 < (Cch.new n).L.length := by rw [Cch.new_len]; exact Nat.div_lt_of_lt_mul (by omega)
    have h2 : i % 261 < 261 := Nat.mod_lt _ (by omega)
    have e : (Cch.new n).L[i / 261] = Frm.zero := List.getElem_replicate ..
    have h3 : (frCells (Cch.new n).L[i / 261])[i % 261]? = some ((frCells Frm.zero)[i % 261]'(by rw [hz]; exact h2)) := by rw [e]; exact List.getElem?_eq_getElem _
    have h4 := chunks_get (new_broad n).cells h1 h3
    rw [show i / 261 * 261 + i % 261 = i by omega] at h4
    unfold rows
    rw [h4]
    have h5 : (Array.range (n * 261))[i]? = some i := by simp [hi]
    rw [h5]
    simp only [Option.map_some]
    rw [getElem!_pos _ _ (by simp [hz]; exact h2)]
    simp
  · rw [List.getElem?_eq_none (by omega)]
    simp; omega
theorem info_frame' : (Try.prog.info? 94).map (fun i => (i.zero, i.size, i.bytes)) = some (some (.agg (frCells Frm.zero).toArray), 261, 288) := by kernel_rfl
set_option maxRecDepth 100000 in
theorem cnew_nil (n : Int) (w : World) : Calls Try.prog 9 #[.pointer none, .int .i64 n] w fun e w' => e = .returned (.tuple #[.pointer none, .int .i64 1]) ∧ w = w' := by
  go_enter Try.func9, Try.ntmps9
  go_wp2_with fail
  go_ret2
  exact ⟨rfl, rfl⟩
set_option maxRecDepth 100000 in
theorem cnew_no (p : Nat) {n : Int} (w : World) (h : n < 8 ∨ 64 < n) : Calls Try.prog 9 #[at0 p, .int .i64 n] w fun e w' => e = .returned (.tuple #[.pointer none, .int .i64 1]) ∧ w = w' := by
  rcases h with h | h
  · go_enter Try.func9, Try.ntmps9
    go_wp2_with fail
    go_ret2
    exact ⟨rfl, rfl⟩
  · have h1 : ¬ n < 8 := by omega
    go_enter Try.func9, Try.ntmps9
    go_wp2_with fail
    go_ret2
    exact ⟨rfl, rfl⟩
set_option maxRecDepth 100000 in
set_option maxHeartbeats 400000 in
theorem cnew_ok (p : Nat) {n : Nat} (w : World) (h : 8 ≤ n ∧ n ≤ 64) :
    Calls Try.prog 9 #[at0 p, .int .i64 (n : Int)] w fun e w' => e = .returned (.tuple #[at0 (w.heap.size + 1), .int .i64 0]) ∧ CacheIs w' (w.heap.size + 1) w.heap.size p (Cch.new n) ∧ Below w.heap.size w w' := by
  obtain ⟨i, hi, hz0, hz1, hz2⟩ := info_parts info_frame'
  have hmk := run_makeSlice (P := Try.prog) w 72 94 i _ Try.underlying72 hi hz0 .i64 .i64 (n : Int) (n : Int) (by omega) (by omega) (by rw [hz1]; omega) (by rw [hz2]; omega) (by omega)
  rw [hz1] at hmk
  have hnt : (n : Int).toNat = n := by omega
  have hcl : (Value.agg (frCells Frm.zero).toArray).cells = (frCells Frm.zero).toArray := rfl
  rw [hcl, hnt, made_rows] at hmk
  obtain ⟨C, hC⟩ : ∃ C, C = (rows (Cch.new n).L).toArray := ⟨_, rfl⟩
  rw [← hC] at hmk
  have hw : CacheIs ((w.alloc (.cells C 94)).alloc (.cells #[.slice (some ⟨w.heap.size, 0, none⟩) n n, .int .i64 0, at0 p] 76)) (w.heap.size + 1) w.heap.size p (Cch.new n) := by
    have s1 : (w.alloc (.cells C 94)).heap.size = w.heap.size + 1 := by simp
    refine ⟨?_, ?_, new_broad n, by omega, by rw [Cch.new_len]; exact h, by rw [Cch.new_len]; show 0 < n; omega⟩
    · have := heap_alloc_last (w.alloc (.cells C 94)) (.cells #[.slice (some ⟨w.heap.size, 0, none⟩) n n, .int .i64 0, at0 p] 76)
      rw [s1] at this
      rw [this]
      simp [cchCells, Cch.new_len]
      rfl
    · rw [heap_alloc_old _ _ (by rw [s1]; omega), ← hC]; exact heap_alloc_last _ _
  have Hw := Lib.hid hw
  have Hmk := Lib.hid hmk
  have t1 : decide ((n : Int) < 8) = false := by simp; omega
  have t2 : decide (64 < (n : Int)) = false := by simp; omega
  clear hC hw hmk hz0 hz1 hz2 hi hnt hcl h
  go_enter Try.func9, Try.ntmps9
  go_wp2_with ((with_reducible refine wpList_run (o := ⟨some 17, .makeSlice 72 (.tmp 16) (.tmp 16), _, _, _, none⟩) rfl (.slice (some ⟨w.heap.size, 0, none⟩) n n) (w.alloc (.cells C 94)) ?_ ?_); exact exec_makeSlice (t := 72) (x := .tmp 16) (y := .tmp 16) rfl (u := .int .i64 (n : Int)) rfl (v := .int .i64 (n : Int)) rfl Hmk.out)
  go_ret2
  exact ⟨rfl, Hw.out, ((Below.refl _ _).alloc (Nat.le_refl _) _).alloc (by simp) _⟩
section
variable {w w1 w2 w' : World} {c bf p : Nat} {x : Cch} {d : Dev}
/-- The blocks of what a law makes, but for the cache's own two. -/
abbrev Made (b c bf : Nat) : Nat → Prop := fun k => b ≤ k ∧ k ≠ c ∧ k ≠ bf
theorem CD.start {b bl bm : Nat} {S : Nat → Value} {D : DataW Value} (hd : DevIs w1 (fun k => b ≤ k) p bl bm S D d) (hc : CacheIs w2 c bf p x) (hb : Below w1.heap.size w1 w2) (h1 : w1.heap.size ≤ c) (h2 : w1.heap.size ≤ bf) : CD w2 (Made b c bf) c bf p x d := by
  refine ⟨hc, ⟨bl, bm, S, D, ?_⟩, fun e => e.2.1 rfl, fun e => e.2.2 rfl⟩
  exact (hd.mono (F' := Made b c bf) fun k hk hf => ⟨hf, by omega, by omega⟩).below hb
theorem CD.fresh {b : Nat} (h : CD w (Made b c bf) c bf p x d) (hb : b ≤ w.heap.size) : ∀ k, w.heap.size ≤ k → Made b c bf k := fun k hk => ⟨by omega, by have := h.lt.1; omega, by have := h.lt.2; omega⟩
theorem Only.low {b : Nat} (ho : Only (Foot (Made b c bf) c bf) w w') (h1 : b ≤ c) (h2 : b ≤ bf) (hb : b ≤ w.heap.size) : Below b w w' :=
  Only.below (ho.mono fun k _ hk => by
    rcases hk with hk | hk | hk
    · exact hk.1
    · omega
    · omega) hb
end
end Go.Proofs.Ytfjcblppmoomdaa
