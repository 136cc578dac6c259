import Derived.Test.YtfjcblppmoomdaaDevB
namespace Go.Proofs.Ytfjcblppmoomdaa
open Go.RowKit
set_option maxRecDepth 100000 in
theorem fails_not {w : World} {p k : Nat} (hk : k < 4) (h1 : w.cell? ⟨p, k * 2, none⟩ = some (.bool false)) : Calls Try.prog 41 #[at0 p, .int .i64 k] w fun e w' => e = .returned (.bool false) ∧ w = w' := by
  go_enter Try.func41, Try.ntmps41
  go_wp2_with fail
  go_ret
  exact ⟨rfl, rfl⟩
set_option maxRecDepth 100000 in
theorem fails_later {w : World} {p k a : Nat} (hk : k < 4) (h1 : w.cell? ⟨p, k * 2, none⟩ = some (.bool true)) (h2 : w.cell? ⟨p, k * 2 + 1, none⟩ = some (.int .i64 ((a : Int) + 1))) (ha : a < 9223372036854775807) (hf : w.frozen? ⟨p, k * 2 + 1, none⟩ = false) :
    Calls Try.prog 41 #[at0 p, .int .i64 k] w fun e w' => e = .returned (.bool false) ∧ w.setCell ⟨p, k * 2 + 1, none⟩ (.int .i64 (a : Int)) = w' := by
  go_enter Try.func41, Try.ntmps41
  go_wp2_with fail
  go_ret
  exact ⟨rfl, rfl⟩
set_option maxRecDepth 100000 in
theorem fails_now {w : World} {p k : Nat} (hk : k < 4) (h1 : w.cell? ⟨p, k * 2, none⟩ = some (.bool true)) (h2 : w.cell? ⟨p, k * 2 + 1, none⟩ = some (.int .i64 0)) (hf : w.frozen? ⟨p, k * 2, none⟩ = false) :
    Calls Try.prog 41 #[at0 p, .int .i64 k] w fun e w' => e = .returned (.bool true) ∧ w.setCell ⟨p, k * 2, none⟩ (.bool false) = w' := by
  go_enter Try.func41, Try.ntmps41
  go_wp2_with fail
  go_ret
  exact ⟨rfl, rfl⟩
theorem info_sector : (Try.prog.info? 85).map (·.size) = some 256 := by kernel_rfl
theorem zero_sector : ∃ Z : Array Value, Z.size = 256 ∧ Z = Array.replicate 256 (.int .u8 0) ∧ ∀ w, (zeroValue 85).run Try.prog w = .ok (.agg Z) w := by
  refine ⟨Array.replicate 256 (.int .u8 0), by simp, rfl, (zero_of_info (n := 256) ?_).1⟩
  kernel_rfl
theorem bytesAll_one (l : List UInt8) : (cellsB l).toArray.all (·.oneCell') = true := all_oneCell_toArray (cellsB_one l)
/-- The map at bm has v for key i, in whatever world that has the map as w has it. -/
def Look (w : World) (bm : Nat) (i : Int) (v : Value) : Prop :=
  bm < w.heap.size ∧ ∀ w' : World, w'.heap[bm]? = w.heap[bm]? → (Instr.lookup 65 (.map (some bm)) (.int .i64 i) false).run Try.prog w' = .ok v w'
theorem Look.alloc {w : World} {bm : Nat} {i : Int} {v : Value} (h : Look w bm i v) (o : Obj) : (Instr.lookup 65 (.map (some bm)) (.int .i64 i) false).run Try.prog (w.alloc o) = .ok v (w.alloc o) :=
  h.2 _ (heap_alloc_old w o h.1)
theorem cell_alloc {w : World} {a : Addr} {v : Value} (h : w.cell? a = some v) (o : Obj) : (w.alloc o).cell? a = some v := (World.cell?_alloc_lt _ _ _ (World.block_lt_of_cell? w _ h)).trans h
set_option maxRecDepth 100000 in
set_option maxHeartbeats 400000 in
theorem now_some {w : World} {p bm g : Nat} {i : Int} {n c : Nat} {l : List UInt8} (hc : w.cell? ⟨p, 9, none⟩ = some (.map (some bm)))
    (hl : Look w bm i (.slice (some ⟨g, 0, none⟩) (n + 1) c)) (hn : n < 1000000) (hl256 : l.length = 256)
    (hr : w.rangeAt g (n * 256) (cellsB l)) : Calls Try.prog 42 #[at0 p, .int .i64 i] w fun e w' => e = .returned (.agg (cellsB l).toArray) ∧ Below w.heap.size w w' := by
  obtain ⟨Z, hZ, hZ0, hz⟩ := zero_sector
  clear hZ0
  have hl2 : (cellsB l).toArray.size = 256 := by simp [cellsB_length, hl256]
  have i1 : (Try.prog.info? 85).map (·.size) = some (cellsB l).length := by rw [info_sector, cellsB_length, hl256]
  have i2 : (Try.prog.info? 85).map (·.size) = some (cellsB l).toArray.size := by rw [info_sector, hl2]
  have Hl2 := Kept.mk hl2
  have HZ := Kept.mk hZ
  have I1 := Kept.mk i1
  have I2 := Kept.mk i2
  have hrw := World.rangeAt_alloc hr (.cells Z 85)
  have hc' := cell_alloc hc (.cells Z 85)
  have hl' := hl.alloc (.cells Z 85)
  clear hl2 hZ hl256 hr hc hl i1 i2
  go_enter Try.func42, Try.ntmps42
  go_wp2_with (first
   | (with_reducible refine wpList_alloc_zero (o := ⟨some 4, .alloc 85, _, _, _, _⟩) rfl 85 rfl Z hz ?_)
   | ((with_reducible refine wpList_load_mid (op := ⟨some 20, .load 85 (.tmp 19), _, _, _, _⟩) rfl 85 (.tmp 19) rfl g (n * 256) ?_ (cellsB l) (.array 256 5) hrw Try.underlying85 rfl I1.out ?_); exact rfl)
   | ((with_reducible refine wpList_store_new (o := ⟨none, .store 85 (.tmp 4) (.tmp 20), _, _, _, _⟩) rfl 85 (.tmp 4) (.tmp 20) rfl Z (cellsB l).toArray ?_ ?_ I2.out (HZ.out.trans Hl2.out.symm) (bytesAll_one l) ?_); exact rfl; exact rfl))
  refine bodyPost_ret (v := .agg (cellsB l).toArray) ?_ rfl ⟨rfl, (Below.refl _ _).alloc (Nat.le_refl _) _⟩
  exact results_cell_row (p := 4) (ty := 85) (by kernel_rfl) _ _ w.heap.size 85 (cellsB l).toArray (0, 0) (.array 256 5) rfl (heap_alloc_last w _) Try.underlying85 rfl I2.out
set_option maxRecDepth 100000 in
set_option maxHeartbeats 400000 in
theorem now_none {w : World} {p bm bl : Nat} {i n : Nat} {l : List UInt8} (hc : w.cell? ⟨p, 9, none⟩ = some (.map (some bm))) (hc8 : w.cell? ⟨p, 8, none⟩ = some (.slice (some ⟨bl, 0, none⟩) n n))
    (hl : Look w bm i (.slice none 0 0)) (hi : i < n) (hl256 : l.length = 256)
    (hr : w.rangeAt bl (i * 256) (cellsB l)) : Calls Try.prog 42 #[at0 p, .int .i64 i] w fun e w' => e = .returned (.agg (cellsB l).toArray) ∧ Below w.heap.size w w' := by
  obtain ⟨Z, hZ, hZ0, hz⟩ := zero_sector
  clear hZ0
  have hl2 : (cellsB l).toArray.size = 256 := by simp [cellsB_length, hl256]
  have i1 : (Try.prog.info? 85).map (·.size) = some (cellsB l).length := by rw [info_sector, cellsB_length, hl256]
  have i2 : (Try.prog.info? 85).map (·.size) = some (cellsB l).toArray.size := by rw [info_sector, hl2]
  have Hl2 := Kept.mk hl2
  have HZ := Kept.mk hZ
  have I1 := Kept.mk i1
  have I2 := Kept.mk i2
  have hrw := World.rangeAt_alloc hr (.cells Z 85)
  have hc' := cell_alloc hc (.cells Z 85)
  have hc8' := cell_alloc hc8 (.cells Z 85)
  have hl' := hl.alloc (.cells Z 85)
  clear hl2 hZ hl256 hr hc hc8 hl i1 i2
  go_enter Try.func42, Try.ntmps42
  go_wp2_with (first
   | (with_reducible refine wpList_alloc_zero (o := ⟨some 4, .alloc 85, _, _, _, _⟩) rfl 85 rfl Z hz ?_)
   | ((with_reducible refine wpList_load_mid (op := ⟨some 27, .load 85 (.tmp 26), _, _, _, _⟩) rfl 85 (.tmp 26) rfl bl (i * 256) ?_ (cellsB l) (.array 256 5) hrw Try.underlying85 rfl I1.out ?_); exact rfl)
   | ((with_reducible refine wpList_store_new (o := ⟨none, .store 85 (.tmp 4) (.tmp 27), _, _, _, _⟩) rfl 85 (.tmp 4) (.tmp 27) rfl Z (cellsB l).toArray ?_ ?_ I2.out (HZ.out.trans Hl2.out.symm) (bytesAll_one l) ?_); exact rfl; exact rfl))
  refine bodyPost_ret (v := .agg (cellsB l).toArray) ?_ rfl ⟨rfl, (Below.refl _ _).alloc (Nat.le_refl _) _⟩
  exact results_cell_row (p := 4) (ty := 85) (by kernel_rfl) _ _ w.heap.size 85 (cellsB l).toArray (0, 0) (.array 256 5) rfl (heap_alloc_last w _) Try.underlying85 rfl I2.out

/-! ### On a device -/
/-- A sector's bytes now. -/
def Dev.now (d : Dev) (i : Nat) : List UInt8 := (d.Q i).getLast?.getD (d.L.getD i [])
section
variable {w : World} {F : Nat → Prop} {p bl bm : Nat} {S : Nat → Value} {D : DataW Value} {d : Dev}
theorem keyed_int : Maps.Keyed Try.prog 3 := Maps.int_keyed Try.underlying3
theorem zero_slice (w : World) : (zeroValue 64).run Try.prog w = .ok (.slice none 0 0) w := by kernel_rfl
theorem DevIs.nil (h : DevIs w F p bl bm S D d) {i : Nat} (hi : i < d.L.length) (hq : d.Q i = []) : S i = .slice none 0 0 := by
  have h1 : Maps.has D (keyL i) = false := by
    rw [← Bool.not_eq_true]
    exact fun h2 => ((h.has i hi).1 h2) hq
  have h2 := h.at_ i hi
  rw [Maps.atKey_of_not_has h1] at h2
  injection h2 with h2
  exact h2.symm
theorem DevIs.look (h : DevIs w F p bl bm S D d) {i : Nat} (hi : i < d.L.length) : Look w bm (i : Int) (S i) := by
  refine ⟨h.map.lt, fun w' hw => ?_⟩
  have hm : w'.ownsMap Try.prog 3 asHeld bm d.n D := by
    obtain ⟨es, clock, hb, rest⟩ := h.map
    exact ⟨es, clock, hw.trans hb, rest⟩
  have hs := h.size
  have hk : keyOf Try.prog 3 (.int .i64 (i : Int)) = some (keyL i) := Maps.keyOf_int_mk Try.underlying3 (WalkArith.wf_i64 (by omega))
  obtain ⟨v, ps, hrun, hv⟩ := hm.lookup keyed_int Try.underlying65 (zero_slice w') (z := .slice none 0 0) (zd := .held (.slice none 0 0)) (zp := []) rfl hk
  rw [h.at_ i hi] at hv
  have : v = S i := (by simpa [asHeld] using hv : v = S i ∧ ps = []).1
  subst this
  exact hrun
theorem Dev.now_wide (h : DevIs w F p bl bm S D d) {i : Nat} (hi : i < d.L.length) : (d.now i).length = 256 := by
  unfold Dev.now
  rcases hq : (d.Q i).getLast? with _ | l
  · simp only [Option.getD_none, List.getD_eq_getElem?_getD, List.getElem?_eq_getElem hi, Option.getD_some]
    exact h.wl.at_ hi
  · exact h.wq i l (List.mem_of_getLast? hq)
theorem now_any (h : DevIs w F p bl bm S D d) {i : Nat} (hi : i < d.L.length) (hn : d.n < 1000000) : Calls Try.prog 42 #[at0 p, .int .i64 i] w fun e w' => e = .returned (.agg (cellsB (d.now i)).toArray) ∧ Below w.heap.size w w' := by
  have hlook := h.look hi
  have hrow := h.row i hi
  have hw := Dev.now_wide h hi
  rcases hrow.2 with ⟨hS, h0⟩ | ⟨g, cap, cur, hS, _, hg, hnc, _, hcs, htake⟩
  · have hq : d.Q i = [] := List.eq_nil_of_length_eq_zero h0
    rw [hS] at hlook
    refine now_none h.c9 h.c8 hlook hi hw ?_
    have : d.now i = d.L[i] := by simp [Dev.now, hq, List.getD_eq_getElem?_getD, List.getElem?_eq_getElem hi]
    rw [this]
    exact rangeAt_block h.last fun j u hu => flat_get h.wl hi hu
  · by_cases hq : d.Q i = []
    · have hn : S i = .slice none 0 0 := h.nil hi hq
      rw [hn] at hS
      cases hS
    · obtain ⟨m, hm⟩ : ∃ m, (d.Q i).length = m + 1 := ⟨(d.Q i).length - 1, by have := List.length_pos_iff.2 hq; omega⟩
      have hf := h.few i
      have hlt : m < (d.Q i).length := by omega
      have hnow : d.now i = (d.Q i)[m] := by
        unfold Dev.now
        rw [List.getLast?_eq_getElem?, List.getElem?_eq_getElem (by omega)]
        simp [hm]
      rw [hS, hm] at hlook
      refine now_some h.c9 hlook (by omega) hw ?_
      rw [hnow]
      intro j u hu
      rw [cell_of_row w g (m * 256 + j) cur 85 (0, 0) hg]
      have := flat_get (h.wq i) hlt hu
      rw [← htake, List.getElem?_take] at this
      split at this
      · simpa using this
      · cases this
end
end Go.Proofs.Ytfjcblppmoomdaa
