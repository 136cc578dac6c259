/-
  A set of pages: put in, taken out; the least that is not; what is behind the greatest; how many: contracts.
-/
import Derived.Test.YtllhilnajjohiaaSpA
namespace Go.Proofs.Ytllhilnajjohiaa
open Go.RowKit
/-- Where page no lies. -/
theorem split8 (no : Nat) (hno : no < 1600) : ∃ k j, k < 200 ∧ j < 8 ∧ no = 8 * k + j := ⟨no / 8, no % 8, by omega, by omega, by omega⟩
theorem quo8 (k j : Nat) (hj : j < 8) : ((8 * k + j : Nat) : Int).tdiv 8 = (k : Int) := by
  have : ((8 * k + j : Nat) : Int).tdiv 8 = (((8 * k + j) / 8 : Nat) : Int) := rfl
  rw [this]; omega
theorem rem8 (k j : Nat) (hj : j < 8) : ((8 * k + j : Nat) : Int).tmod 8 = (j : Int) := by
  have : ((8 * k + j : Nat) : Int).tmod 8 = (((8 * k + j) % 8 : Nat) : Int) := rfl
  rw [this]; omega
set_option maxRecDepth 100000 in
theorem setadd_any {w : World} {g o : Nat} {f : Nat → Bool} (h : SetAt w g o f) (hfz : ∀ k, k < 200 → w.frozen? ⟨g, o + k, none⟩ = false) {no : Nat} (hno : no < 1600) :
    Calls Try.prog 25 #[ptrAt g o, .int .i64 (no : Int)] w fun e w' => e = .returned (.tuple #[]) ∧ (w.setCell ⟨g, o + no / 8, none⟩ (.int .u8 (byteN (put f no true) (no / 8) : Int))).drew = w' := by
  obtain ⟨k, j, hk, hj, e0⟩ := split8 no hno
  have hc := h k hk
  have hb := bit_added f k hj
  have hp := wrap_pow hj
  have e1 := quo8 k j hj
  have e2 := rem8 k j hj
  have hf := hfz k hk
  rw [← e0] at hb e1 e2
  have e3 : (j : Int).toNat = j := by simp
  have e4 : no / 8 = k := by omega
  have e5 : (0 : Int) ≤ (k : Int) := by omega
  have e6 : (k : Int) < 200 := by omega
  have e7 : (k : Int).toNat = k := by simp
  have e8 : (0 : Int) ≤ (j : Int) := by omega
  have e9 : (j : Int) ≤ 8 := by omega
  have e10 : IntKind.i64.wrap (k : Int) = k := IntWalk.i64_in _ (by omega)
  rw [e4]
  obtain ⟨x, hxe⟩ : ∃ x, x = byteN f k := ⟨_, rfl⟩
  obtain ⟨y, hye⟩ : ∃ y, y = byteN (put f no true) k := ⟨_, rfl⟩
  rw [← hxe] at hc hb
  rw [← hye] at hb ⊢
  clear h hfz hxe hye e0 e4
  go_enter Try.func25, Try.ntmps25
  go_wp2_with fail
  go_still_tail 12, (by kernel_rfl)
  go_wp2_with fail
  go_end0
  exact ⟨rfl, rfl⟩
set_option maxRecDepth 100000 in
theorem setremove_any {w : World} {g o : Nat} {f : Nat → Bool} (h : SetAt w g o f) (hfz : ∀ k, k < 200 → w.frozen? ⟨g, o + k, none⟩ = false) {no : Nat} (hno : no < 1600) :
    Calls Try.prog 28 #[ptrAt g o, .int .i64 (no : Int)] w fun e w' => e = .returned (.tuple #[]) ∧ (w.setCell ⟨g, o + no / 8, none⟩ (.int .u8 (byteN (put f no false) (no / 8) : Int))).drew = w' := by
  obtain ⟨k, j, hk, hj, e0⟩ := split8 no hno
  have hc := h k hk
  have hb := bit_removed f k hj
  have hp := wrap_pow hj
  have e1 := quo8 k j hj
  have e2 := rem8 k j hj
  have hf := hfz k hk
  rw [← e0] at hb e1 e2
  have e3 : (j : Int).toNat = j := by simp
  have e4 : no / 8 = k := by omega
  have e5 : (0 : Int) ≤ (k : Int) := by omega
  have e6 : (k : Int) < 200 := by omega
  have e7 : (k : Int).toNat = k := by simp
  have e8 : (0 : Int) ≤ (j : Int) := by omega
  have e9 : (j : Int) ≤ 8 := by omega
  have e10 : IntKind.i64.wrap (k : Int) = k := IntWalk.i64_in _ (by omega)
  rw [e4]
  obtain ⟨x, hxe⟩ : ∃ x, x = byteN f k := ⟨_, rfl⟩
  obtain ⟨y, hye⟩ : ∃ y, y = byteN (put f no false) k := ⟨_, rfl⟩
  rw [← hxe] at hc hb
  rw [← hye] at hb ⊢
  clear h hfz hxe hye e0 e4
  go_enter Try.func28, Try.ntmps28
  go_wp2_with fail
  go_still_tail 12, (by kernel_rfl)
  go_wp2_with fail
  go_end0
  exact ⟨rfl, rfl⟩
theorem SetAt.put {w : World} {g o : Nat} {f : Nat → Bool} (h : SetAt w g o f) (no : Nat) (v : Bool) : SetAt (w.setCell ⟨g, o + no / 8, none⟩ (.int .u8 (byteN (put f no v) (no / 8) : Int))).drew g o (put f no v) := fun k hk => by
  rw [World.cell?_drew]
  by_cases e : k = no / 8
  · subst e
    exact World.cell?_setCell_same _ _ _ (h _ hk)
  · rw [World.cell?_setCell_other _ _ _ _ (by simp only [ne_eq, Addr.mk.injEq]; omega), byteN_other f v e]
    exact h k hk
theorem SetAt.lt {w : World} {g o : Nat} {f : Nat → Bool} (h : SetAt w g o f) : g < w.heap.size := World.block_lt_of_cell? w _ (h 0 (by omega))
theorem SetAt.below {w w' : World} {g o : Nat} {f : Nat → Bool} (h : SetAt w g o f) (hb : Below w.heap.size w w') : SetAt w' g o f := fun k hk => (hb.cell (p := ⟨g, o + k, none⟩) h.lt).trans (h k hk)
set_option maxRecDepth 100000 in
theorem setleast_any {w : World} {g o : Nat} {f : Nat → Bool} (h : SetAt w g o f) :
    Calls Try.prog 30 #[ptrAt g o] w fun e w' => ∃ m : Nat, e = .returned (.int .i64 (m : Int)) ∧ m ≤ 1600 ∧ (∀ i, i < m → f i = true) ∧ (m < 1600 → f m = false) ∧ Below w.heap.size w w' := by
  go_enter Try.func30, Try.ntmps30
  go_wp2_with fail
  go_loopw [6] (fun i wr => ∃ k : Nat, k ≤ 200 ∧ i = .int .i64 (k : Int) ∧ Hid (∀ i, i < 8 * k → f i = true) ∧ Below w.heap.size w wr) (fun i _ => 200 - (intOf i).toNat)
  case atStart => exact ⟨0, by omega, rfl, Lib.hid fun i hi => by omega, Below.refl _ _⟩
  case round =>
    obtain ⟨k, hk, rfl, ha, hb⟩ := hrel
    by_cases hk2 : k < 200
    · have hc := h.below hb k hk2
      have hx := byteN_lt f k
      have hl := fun e => least_byte (k := k) ha.out e
      have hm := fun e => full_more (k := k) ha.out e
      obtain ⟨x, hxe⟩ : ∃ x, x = byteN f k := ⟨_, rfl⟩
      rw [← hxe] at hc hx hl hm
      have e5 : (0 : Int) ≤ (k : Int) := by omega
      have e6 : (k : Int) < 200 := by omega
      have e7 : (k : Int).toNat = k := by simp
      by_cases h255 : x = 255
      · subst h255
        have Hm := Lib.hid (hm rfl)
        clear hm hl hx hxe
        go_wp2_with fail
        go_still (by kernel_rfl)
        go_wp2_with fail
        go_roundw
        case rel => exact ⟨k + 1, by omega, by go_num, Hm, hb.drew⟩
        case measure => simp [intOf]; omega
      · obtain ⟨hl1, hl2⟩ := hl h255
        have ht := turned8 x hx
        have hn0 : ((255 - x : Nat) : Int) ≤ 255 := by omega
        have e8 : decide ((x : Int) = 255) = false := by simp; omega
        obtain ⟨y, hy⟩ : ∃ y, y = 255 - x := ⟨_, rfl⟩
        rw [← hy] at hl1 hl2 ht hn0
        obtain ⟨z, hz⟩ : ∃ z, z = Lib.trailingZeros8 y := ⟨_, rfl⟩
        have e9 : (Lib.trailingZeros8 (y : Int).toNat : Int) = (z : Int) := by rw [hz]; rfl
        rw [← hz] at hl1 hl2
        have Hl2 := Lib.hid hl2
        clear hm hl hxe hl2 hy hz
        go_wp2_with fail
        go_still (by kernel_rfl)
        go_wp2_with (go_at_call 42; refine (ntz8_any y _ (by omega) hn0).mono ?_; rintro e w' ⟨rfl, rfl⟩; rw [e9])
        go_ret
        exact ⟨8 * k + z, by simp, by omega, Hl2.out.ahead, fun _ => Hl2.out.at_, hb.drew⟩
    · have : k = 200 := by omega
      subst this
      go_wp2_with fail
      go_ret
      exact ⟨1600, rfl, Nat.le_refl _, fun i hi => ha.out i (by omega), fun h => by omega, hb⟩
end Go.Proofs.Ytllhilnajjohiaa
