/-
  What is to fail, and reading, on a device: contracts.
-/
import Derived.Test.YtfjcblppmoomdaaDevC
namespace Go.Proofs.Ytfjcblppmoomdaa
open Go.RowKit
/-- Is this call of kind k the one that is to fail? -/
def Dev.burns (d : Dev) (k : Nat) : Bool := (d.f k).1 && (d.f k).2 == 0
/-- The device behind that question. -/
def Dev.burn (d : Dev) (k : Nat) : Dev :=
  { d with f := fun j => if j = k ∧ (d.f k).1 = true then (if (d.f k).2 = 0 then (false, 0) else (true, (d.f k).2 - 1)) else d.f j }
section
variable {w : World} {F : Nat → Prop} {p bl bm : Nat} {S : Nat → Value} {D : DataW Value} {d : Dev}
theorem DevIs.top_set (h : DevIs w F p bl bm S D d) {j : Nat} {v : Value} {d' : Dev} (hc : (devCells d bl bm).set j v = devCells d' bl bm) (hL : d'.L = d.L) (hQ : d'.Q = d.Q) (hn : d.n ≤ d'.n) (hf : ∀ k, (d'.f k).2 ≤ 9223372036854775807) :
    DevIs (w.setCell ⟨p, j, none⟩ v) F p bl bm S D d' := by
  have ho : ∀ k, k ≠ p → (w.setCell ⟨p, j, none⟩ v).heap[k]? = w.heap[k]? := fun k hk => heap_setCell_other w _ k v hk
  obtain ⟨h1, h2, h3, h4, h5, h6, h7, h8, h9, h10, h11, h12, h13, h14, h15, h16⟩ := h
  have top : (w.setCell ⟨p, j, none⟩ v).heap[p]? = some (.cells (devCells d' bl bm).toArray 71 (0, 0)) := by
    rw [← hc]
    have := heap_setCell_same w p j _ 71 v h1
    simpa using this
  refine ⟨top, ?_, ?_, ?_, ?_, ?_, ?_, ?_, ?_, h10, h11, ?_, ?_, ?_, ?_, hf⟩
  · rw [hL]; exact (ho bl h10.1.symm).trans h2
  · obtain ⟨es, clock, hb, F, hs, hD⟩ := h3
    exact ⟨es, clock, (ho bm h10.2.1.symm).trans hb, F, Nat.le_trans hs hn, hD⟩
  · rw [hL]; exact h4
  · rw [hL, hQ]
    intro i hi
    refine ⟨(h5 i hi).1, ?_⟩
    rcases (h5 i hi).2 with hn | ⟨g, cap, cur, e, hb, hg, rest⟩
    · exact .inl hn
    · exact .inr ⟨g, cap, cur, e, hb, (ho g (h9 i g hi (by rw [e]; rfl)).2.1).trans hg, rest⟩
  · rw [hL, hQ]; exact h6
  · rw [hL]; exact h7
  · rw [hL]; exact h8
  · rw [hL]; exact h9
  · rw [hL]; exact h12
  · rw [hQ]; exact h13
  · rw [hL]; exact h14
  · rw [hQ]; exact fun i => Nat.le_trans (h15 i) hn
theorem Dev.burn_fuel (hf : ∀ k, (d.f k).2 ≤ 9223372036854775807) (k : Nat) : ∀ j, ((d.burn k).f j).2 ≤ 9223372036854775807 := by
  intro j
  unfold Dev.burn
  have := hf k
  have := hf j
  simp only
  split
  · split <;> simp; omega
  · omega
theorem fails_any (h : DevIs w F p bl bm S D d) {k : Nat} (hk : k < 4) : Calls Try.prog 41 #[at0 p, .int .i64 (k : Int)] w fun e w' => e = .returned (.bool (d.burns k)) ∧ DevIs w' F p bl bm S D (d.burn k) ∧ Only F w w' := by
  have t1 := h.told hk
  have t2 := h.ahead hk
  rw [Nat.mul_comm] at t1 t2
  rcases h1 : (d.f k).1 with _ | _
  · rw [h1] at t1
    refine (fails_not hk t1).mono ?_
    rintro e w' ⟨rfl, rfl⟩
    have e1 : d.burns k = false := by simp [Dev.burns, h1]
    have e2 : d.burn k = d := by simp [Dev.burn, h1]
    rw [e1, e2]
    exact ⟨rfl, h, Only.refl _ _⟩
  · rw [h1] at t1
    rcases h2 : (d.f k).2 with _ | a
    · rw [h2] at t2
      refine (fails_now hk t1 t2 (h.free _)).mono ?_
      rintro e w' ⟨rfl, rfl⟩
      have e1 : d.burns k = true := by simp [Dev.burns, h1, h2]
      rw [e1]
      refine ⟨rfl, h.top_set ?_ rfl rfl (Nat.le_refl _) (Dev.burn_fuel h.fuel k), Only.setCell h.inF.1 _⟩
      match k, hk, h1, h2 with
      | 0, _, h1, h2 => simp [devCells, Dev.burn, h1, h2]
      | 1, _, h1, h2 => simp [devCells, Dev.burn, h1, h2]
      | 2, _, h1, h2 => simp [devCells, Dev.burn, h1, h2]
      | 3, _, h1, h2 => simp [devCells, Dev.burn, h1, h2]
    · rw [h2] at t2
      have hfu := h.fuel k
      rw [h2] at hfu
      refine (fails_later hk t1 (by simpa using t2) (by omega) (h.free _)).mono ?_
      rintro e w' ⟨rfl, rfl⟩
      have e1 : d.burns k = false := by simp [Dev.burns, h1, h2]
      rw [e1]
      refine ⟨rfl, h.top_set ?_ rfl rfl (Nat.le_refl _) (Dev.burn_fuel h.fuel k), Only.setCell h.inF.1 _⟩
      match k, hk, h1, h2 with
      | 0, _, h1, h2 => simp [devCells, Dev.burn, h1, h2]
      | 1, _, h1, h2 => simp [devCells, Dev.burn, h1, h2]
      | 2, _, h1, h2 => simp [devCells, Dev.burn, h1, h2]
      | 3, _, h1, h2 => simp [devCells, Dev.burn, h1, h2]

set_option maxRecDepth 100000 in
/-! ### Read -/
theorem read_arg {i : Int} (h : DevIs w F p bl bm S D d) (hi : i < 0 ∨ (d.L.length : Int) ≤ i) : Calls Try.prog 20 #[at0 p, .int .i64 i] w fun e w' => e = .returned (.tuple #[.slice none 0 0, .int .i64 1]) ∧ w = w' := by
  have hh := Lib.hid (has_no h.c8 hi)
  go_enter Try.func20, Try.ntmps20
  go_wp2_with (go_at_call 40; refine hh.out.mono ?_; rintro e w' ⟨rfl, rfl⟩)
  go_ret2
  exact ⟨rfl, rfl⟩
set_option maxRecDepth 100000 in
theorem read_nil (i : Int) (w : World) : Calls Try.prog 20 #[.pointer none, .int .i64 i] w fun e w' => e = .returned (.tuple #[.slice none 0 0, .int .i64 1]) ∧ w = w' := by
  go_enter Try.func20, Try.ntmps20
  go_wp2_with (go_at_call 40; refine (has_nil _ _).mono ?_; rintro e w' ⟨rfl, rfl⟩)
  go_ret2
  exact ⟨rfl, rfl⟩
set_option maxRecDepth 100000 in
theorem read_io {i : Nat} (h : DevIs w F p bl bm S D d) (hi : i < d.L.length) (hb : d.burns 1 = true) : Calls Try.prog 20 #[at0 p, .int .i64 (i : Int)] w fun e w' => e = .returned (.tuple #[.slice none 0 0, .int .i64 3]) ∧ DevIs w' F p bl bm S D (d.burn 1) ∧ Only F w w' := by
  have hh := Lib.hid (has_yes h.c8 hi)
  have hf := fails_any h (k := 1) (by omega)
  rw [hb] at hf
  have hf := Lib.hid hf
  clear h hb hi
  go_enter Try.func20, Try.ntmps20
  go_wp2_with (first
    | (go_at_call 40; refine hh.out.mono ?_; rintro e w' ⟨rfl, rfl⟩)
    | (go_at_call 41; refine hf.out.mono ?_; rintro e w' ⟨rfl, hd, ho⟩))
  go_ret2
  exact ⟨rfl, hd, ho⟩
set_option maxRecDepth 100000 in
set_option maxHeartbeats 400000 in
theorem read_ok {i : Nat} (h : DevIs w F p bl bm S D d) (hi : i < d.L.length) (hb : d.burns 1 = false) (hn : d.n < 1000000) :
    Calls Try.prog 20 #[at0 p, .int .i64 (i : Int)] w fun e w' => ∃ g, e = .returned (.tuple #[.slice (some ⟨g, 0, none⟩) 256 256, .int .i64 0]) ∧ w'.heap[g]? = some (.cells (cellsB (d.now i)).toArray 85 (0, 0)) ∧ w.heap.size ≤ g ∧ DevIs w' F p bl bm S D (d.burn 1) ∧ Only F w w' := by
  have hh := Lib.hid (has_yes h.c8 hi)
  have hf := fails_any h (k := 1) (by omega)
  have hw := Dev.now_wide h hi
  rw [hb] at hf
  have hf := Lib.hid hf
  have hnow : ∀ w1, DevIs w1 F p bl bm S D (d.burn 1) → Calls Try.prog 42 #[at0 p, .int .i64 i] w1 fun e w' => e = .returned (.agg (cellsB (d.now i)).toArray) ∧ Below w1.heap.size w1 w' := fun w1 h1 => now_any h1 hi hn
  obtain ⟨l, hl⟩ : ∃ l, l = d.now i := ⟨_, rfl⟩
  rw [← hl] at hnow hw ⊢
  have Hnow := Lib.hid hnow
  have hl2 : (cellsB l).toArray.size = 256 := by simp [cellsB_length, hw]
  have i2 : (Try.prog.info? 85).map (·.size) = some (cellsB l).toArray.size := by rw [info_sector, hl2]
  obtain ⟨Z, hZ, hZ0, hz⟩ := zero_sector
  have Hl2 := Kept.mk hl2
  have HZ := Kept.mk hZ
  have I2 := Kept.mk i2
  clear h hb hi hnow hl hw hl2 i2 hZ hZ0 hn
  go_enter Try.func20, Try.ntmps20
  go_wp2_with (first
    | (go_at_call 40; refine hh.out.mono ?_; rintro e w' ⟨rfl, rfl⟩)
    | (go_at_call 41; refine hf.out.mono ?_; rintro e w1 ⟨rfl, hd, ho⟩)
    | (go_at_call 42; refine (Hnow.out _ hd).mono ?_; rintro e w2 ⟨rfl, hb2⟩)
    | (with_reducible refine wpList_alloc_zero (o := ⟨some 6, .alloc 85, _, _, _, _⟩) rfl 85 rfl Z hz ?_)
    | ((with_reducible refine wpList_store_new (o := ⟨none, .store 85 (.tmp 6) (.tmp 17), _, _, _, _⟩) rfl 85 (.tmp 6) (.tmp 17) rfl Z (cellsB l).toArray ?_ ?_ I2.out (HZ.out.trans Hl2.out.symm) (bytesAll_one l) ?_); exact rfl; exact rfl))
  go_ret2
  refine ⟨w2.heap.size, rfl, heap_alloc_last _ _, Nat.le_trans ho.size hb2.size, ?_, ?_⟩
  · exact (hd.below hb2).below ((Below.refl _ _).alloc (Nat.le_refl _) _)
  · exact ho.trans ((Only.of_below hb2).trans (Only.alloc _ _ _))
end
end Go.Proofs.Ytfjcblppmoomdaa
