/-
  The document's space: Alloc, Free, Commit, Abort: contracts.
-/
import Derived.Test.YtllhilnajjohiaaSrA
namespace Go.Proofs.Ytllhilnajjohiaa
open Go.RowKit
section
variable {w w' : World} {p gn cn gs cs : Nat} {x : Spc}
set_option maxHeartbeats 400000 in
theorem ralloc_yes (h : RefSp w p gn cn gs cs x) {m : Nat} (hm : LeastNot x.held m) (hmn : m < x.n) : Calls Try.prog 17 #[spAt p] w fun e w' => e = .returned (.tuple #[.int .i64 (m : Int), .int .i64 0]) ∧ RefSp w' p gn cn gs cs (x.put m true) ∧ Only (fun k => k = gn) w w' := by
  have h0 := h.c0
  have h1 := h.c1
  have hs := h.ok.size
  have hN := Lib.hid (fun i hi => h.cN (i := i) hi)
  have hS := Lib.hid (fun i hi => h.cS (i := i) hi)
  have hcn := h.rN.caps.1
  have hcs := h.rS.caps.1
  have hfz := h.rN.free m
  have hfin : Hid (RefSp (w.setCell ⟨gn, m, none⟩ (.bool true)) p gn cn gs cs (x.put m true) ∧ Only (fun k => k = gn) w (w.setCell ⟨gn, m, none⟩ (.bool true))) := Lib.hid ⟨h.setN hmn true, Only.setCell (F := fun k => k = gn) (p := ⟨gn, m, none⟩) rfl _⟩
  obtain ⟨n, hn⟩ : ∃ n, n = x.n := ⟨_, rfl⟩
  rw [← hn] at h0 h1 hs hN hS hcn hcs hmn
  have Hm := Lib.hid hm
  clear h hn hm
  go_enter Try.func17, Try.ntmps17
  go_wp2_with fail
  go_loop [4] (fun i => ∃ (k : Nat), k ≤ m ∧ i = .int .i64 (k : Int)) (fun i => n - (intOf i).toNat)
  case atStart => exact ⟨0, by omega, rfl⟩
  case round =>
    obtain ⟨k, hk, rfl⟩ := hrel
    have hk2 : k < n := by omega
    have e1 := hN.out k hk2
    have e2 := hS.out k hk2
    have k0 : (0 : Int) ≤ (k : Int) := by omega
    have k1 : (k : Int) < (n : Int) := by omega
    have k2 : (k : Int).toNat = k := by simp
    rcases held_or (x := x) k with ⟨a1, a3⟩ | ⟨a1, a2, a3⟩ | ⟨a1, a2, a3⟩
    · have hne : k ≠ m := fun e => by subst e; rw [Hm.out.at_] at a3; cases a3
      rw [a1] at e1
      clear e2 a1 a3
      go_wp2_with fail
      go_round
      case rel => exact ⟨k + 1, by omega, by go_num⟩
      case measure => simp [intOf]; omega
    · have hne : k ≠ m := fun e => by subst e; rw [Hm.out.at_] at a3; cases a3
      rw [a1] at e1
      rw [a2] at e2
      clear a1 a2 a3
      go_wp2_with fail
      go_round
      case rel => exact ⟨k + 1, by omega, by go_num⟩
      case measure => simp [intOf]; omega
    · have he : k = m := by
        refine Nat.le_antisymm hk (Nat.le_of_not_lt fun hlt => ?_)
        have := Hm.out.ahead k hlt
        rw [a3] at this
        cases this
      subst he
      rw [a1] at e1
      rw [a2] at e2
      clear a1 a2 a3
      go_wp2_with fail
      go_ret2
      exact ⟨rfl, hfin.out⟩
theorem ralloc_no (h : RefSp w p gn cn gs cs x) (hm : ∀ i, i < x.n → x.held i = true) : Calls Try.prog 17 #[spAt p] w fun e w' => e = .returned (.tuple #[.int .i64 (-1), .int .i64 2]) ∧ w = w' := by
  have h0 := h.c0
  have h1 := h.c1
  have hs := h.ok.size
  have hN := Lib.hid (fun i hi => h.cN (i := i) hi)
  have hS := Lib.hid (fun i hi => h.cS (i := i) hi)
  have hcn := h.rN.caps.1
  have hcs := h.rS.caps.1
  obtain ⟨n, hn⟩ : ∃ n, n = x.n := ⟨_, rfl⟩
  rw [← hn] at h0 h1 hs hN hS hcn hcs hm
  have Hm := Lib.hid hm
  clear h hn hm
  go_enter Try.func17, Try.ntmps17
  go_wp2_with fail
  go_loop [4] (fun i => ∃ (k : Nat), k ≤ n ∧ i = .int .i64 (k : Int)) (fun i => n - (intOf i).toNat)
  case atStart => exact ⟨0, by omega, rfl⟩
  case round =>
    obtain ⟨k, hk, rfl⟩ := hrel
    by_cases hk2 : k < n
    · have e1 := hN.out k hk2
      have e2 := hS.out k hk2
      have k0 : (0 : Int) ≤ (k : Int) := by omega
      have k1 : (k : Int) < (n : Int) := by omega
      have k2 : (k : Int).toNat = k := by simp
      rcases held_or (x := x) k with ⟨a1, a3⟩ | ⟨a1, a2, a3⟩ | ⟨a1, a2, a3⟩
      · rw [a1] at e1
        clear e2 a1 a3
        go_wp2_with fail
        go_round
        case rel => exact ⟨k + 1, by omega, by go_num⟩
        case measure => simp [intOf]; omega
      · rw [a1] at e1
        rw [a2] at e2
        clear a1 a2 a3
        go_wp2_with fail
        go_round
        case rel => exact ⟨k + 1, by omega, by go_num⟩
        case measure => simp [intOf]; omega
      · rw [Hm.out k hk2] at a3
        cases a3
    · have : k = n := by omega
      subst this
      go_wp2_with fail
      go_ret2
      exact ⟨rfl, rfl⟩
theorem rfree_any (h : RefSp w p gn cn gs cs x) (no : Int) : Calls Try.prog 11 #[spAt p, .int .i64 no] w fun e w' => e = .returned (.int .i64 (x.freeErr no)) ∧ RefSp w' p gn cn gs cs (x.freed no) ∧ Only (fun k => k = gn) w w' := by
  have h0 := h.c0
  have hcn := h.rN.caps.1
  rcases page_or x.n no with ho | ⟨k, rfl, hk⟩
  · have he : x.freeErr no = 1 ∧ x.freed no = x := by
      unfold Spc.freeErr Spc.freed
      rw [if_pos ho, if_pos ho]
      exact ⟨rfl, rfl⟩
    rw [he.1, he.2]
    have H := Lib.hid h
    obtain ⟨n, hn⟩ : ∃ n, n = x.n := ⟨_, rfl⟩
    rw [← hn] at h0 ho hcn
    clear h hn he
    by_cases hz : no < 0
    · have z1 : decide (no < 0) = true := by simp [hz]
      clear ho
      go_enter Try.func11, Try.ntmps11
      go_wp2_with fail
      go_ret
      exact ⟨rfl, H.out, Only.refl _ _⟩
    · have z1 : decide (no < 0) = false := by simp; omega
      have z2 : decide ((n : Int) ≤ no) = true := by simp; omega
      clear ho hz
      go_enter Try.func11, Try.ntmps11
      go_wp2_with fail
      go_ret
      exact ⟨rfl, H.out, Only.refl _ _⟩
  · have hb : ¬ ((k : Int) < 0 ∨ (x.n : Int) ≤ (k : Int)) := by omega
    have hfin : Hid (RefSp (w.setCell ⟨gn, k, none⟩ (.bool false)) p gn cn gs cs (x.put k false) ∧ Only (fun k => k = gn) w (w.setCell ⟨gn, k, none⟩ (.bool false))) := Lib.hid ⟨h.setN hk false, Only.setCell (F := fun k => k = gn) (p := ⟨gn, k, none⟩) rfl _⟩
    have hfz := h.rN.free k
    have e1 := h.cN hk
    have H := Lib.hid h
    have k0 : (0 : Int) ≤ (k : Int) := by omega
    have k2 : (k : Int).toNat = k := by simp
    unfold Spc.freeErr Spc.freed
    rw [if_neg hb, if_neg hb, k2]
    obtain ⟨n, hn⟩ : ∃ n, n = x.n := ⟨_, rfl⟩
    rw [← hn] at h0 hk hcn
    have k1 : (k : Int) < (n : Int) := by omega
    have z1 : decide ((k : Int) < 0) = false := by simp
    have z2 : decide ((n : Int) ≤ (k : Int)) = false := by simp; omega
    clear h hn hb
    cases ht : x.now k
    · rw [ht] at e1
      rw [if_neg (by simp), if_neg (by simp)]
      clear ht
      go_enter Try.func11, Try.ntmps11
      go_wp2_with fail
      go_ret
      exact ⟨rfl, H.out, Only.refl _ _⟩
    · rw [ht] at e1
      rw [if_pos rfl, if_pos rfl]
      clear ht
      go_enter Try.func11, Try.ntmps11
      go_wp2_with fail
      go_ret
      exact ⟨rfl, hfin.out⟩
set_option maxHeartbeats 400000 in
theorem rcommit_any (h : RefSp w p gn cn gs cs x) : Calls Try.prog 13 #[spAt p] w fun e w' => e = .returned (.tuple #[]) ∧ ∃ gs' cs', w.heap.size ≤ gs' ∧ RefSp w' p gn cn gs' cs' x.commit ∧ Only (fun k => k = p) w w' := by
  obtain ⟨i, hi, hz0, hz1, hz2⟩ := info_parts info_bool
  have h0 := h.c0
  have h1 := h.c1
  have hs := h.ok.size
  have hp := frozen_of_row w p 1 _ _ h.top
  have hcut := h.rN.rd.alloc (Nat.le_refl _) (.cells #[] 4)
  have hlen := boolC_length x.now x.n
  have hone := boolC_one x.now x.n
  have H := Lib.hid h
  obtain ⟨n, hn⟩ : ∃ n, n = x.n := ⟨_, rfl⟩
  obtain ⟨L, hL⟩ : ∃ L, L = boolC x.now x.n := ⟨_, rfl⟩
  rw [← hL] at hcut hlen hone
  rw [← hn] at h0 h1 hs hcut hlen
  have hlt := h.lt
  have HL := Lib.hid hL
  have Hn := Lib.hid hn
  clear h hL hn
  have hp1 : p < w.heap.size := hlt.1
  go_enter Try.func13, Try.ntmps13
  go_wp2_with (at_builtin; refine wpList_append_rd rfl _ _ 53 rfl w.heap.size 4 i _ 1 Try.underlying53 hi hz0 hz1 hz2 rfl _ [] rfl (Mine.empty w _ 4 (Nat.le_refl _)) w.heap.size _ _ rfl hcut hone (by simp; omega) (by unfold maxLen; simp; omega) (by simp) ?_
               intro v1 w1 hown hbel _ _
               rw [List.nil_append] at hown
               obtain ⟨g, c, rfl, _⟩ := hown.head (by omega)
               rw [hlen] at hown
               have hb1 : Below w.heap.size w w1 := ((Below.refl _ _).alloc (Nat.le_refl _) _).trans hbel
               have k0 := (hb1.cell (p := ⟨p, 1, none⟩) hp1).trans h1
               have k1 := (hb1.frozen (p := ⟨p, 1, none⟩) hp1).trans hp
               have Hown := Lib.hid hown
               have Hb1 := Lib.hid hb1
               clear hown hbel hb1)
  go_end0
  have hown := Hown.out
  have h' := H.out.below Hb1.out
  have hg := hown.lt
  refine ⟨rfl, g, c, hg.1, ⟨?_, ?_, ?_, ⟨by omega, h'.ne.2.1, by omega⟩, ⟨h'.ok.size, h'.ok.now, h'.ok.now⟩⟩, (Only.of_below Hb1.out |>.mono fun k hk he => absurd hk he).trans (Only.setCell (F := fun k => k = p) (p := ⟨p, 1, none⟩) rfl _)⟩
  · rw [heap_setCell_same w1 p 1 _ _ _ h'.top, Hn.out]
    rfl
  · exact h'.rN.stay (heap_setCell_other w1 _ gn _ h'.ne.2.1.symm)
  · have := (hown.weaken (Nat.zero_le _)).stay (w' := w1.setCell ⟨p, 1, none⟩ (.slice (some ⟨g, 0, none⟩) n c)) (heap_setCell_other w1 _ g _ (show g ≠ p by omega))
    rw [HL.out, Hn.out] at this
    rw [Hn.out]
    exact this
set_option maxHeartbeats 400000 in
theorem rabort_any (h : RefSp w p gn cn gs cs x) : Calls Try.prog 15 #[spAt p] w fun e w' => e = .returned (.tuple #[]) ∧ ∃ gn' cn', w.heap.size ≤ gn' ∧ RefSp w' p gn' cn' gs cs x.abort ∧ Only (fun k => k = p) w w' := by
  obtain ⟨i, hi, hz0, hz1, hz2⟩ := info_parts info_bool
  have h0 := h.c0
  have h1 := h.c1
  have hs := h.ok.size
  have hp := frozen_of_row w p 0 _ _ h.top
  have hcut := h.rS.rd.alloc (Nat.le_refl _) (.cells #[] 4)
  have hlen := boolC_length x.sure x.n
  have hone := boolC_one x.sure x.n
  have H := Lib.hid h
  obtain ⟨n, hn⟩ : ∃ n, n = x.n := ⟨_, rfl⟩
  obtain ⟨L, hL⟩ : ∃ L, L = boolC x.sure x.n := ⟨_, rfl⟩
  rw [← hL] at hcut hlen hone
  rw [← hn] at h0 h1 hs hcut hlen
  have hlt := h.lt
  have HL := Lib.hid hL
  have Hn := Lib.hid hn
  clear h hL hn
  have hp1 : p < w.heap.size := hlt.1
  go_enter Try.func15, Try.ntmps15
  go_wp2_with (at_builtin; refine wpList_append_rd rfl _ _ 53 rfl w.heap.size 4 i _ 1 Try.underlying53 hi hz0 hz1 hz2 rfl _ [] rfl (Mine.empty w _ 4 (Nat.le_refl _)) w.heap.size _ _ rfl hcut hone (by simp; omega) (by unfold maxLen; simp; omega) (by simp) ?_
               intro v1 w1 hown hbel _ _
               rw [List.nil_append] at hown
               obtain ⟨g, c, rfl, _⟩ := hown.head (by omega)
               rw [hlen] at hown
               have hb1 : Below w.heap.size w w1 := ((Below.refl _ _).alloc (Nat.le_refl _) _).trans hbel
               have k0 := (hb1.cell (p := ⟨p, 0, none⟩) hp1).trans h0
               have k1 := (hb1.frozen (p := ⟨p, 0, none⟩) hp1).trans hp
               have Hown := Lib.hid hown
               have Hb1 := Lib.hid hb1
               clear hown hbel hb1)
  go_end0
  have hown := Hown.out
  have h' := H.out.below Hb1.out
  have hg := hown.lt
  refine ⟨rfl, g, c, hg.1, ⟨?_, ?_, ?_, ⟨by omega, by omega, h'.ne.2.2⟩, ⟨h'.ok.size, h'.ok.sure, h'.ok.sure⟩⟩, (Only.of_below Hb1.out |>.mono fun k hk he => absurd hk he).trans (Only.setCell (F := fun k => k = p) (p := ⟨p, 0, none⟩) rfl _)⟩
  · rw [heap_setCell_same w1 p 0 _ _ _ h'.top, Hn.out]
    rfl
  · have := (hown.weaken (Nat.zero_le _)).stay (w' := w1.setCell ⟨p, 0, none⟩ (.slice (some ⟨g, 0, none⟩) n c)) (heap_setCell_other w1 _ g _ (show g ≠ p by omega))
    rw [HL.out, Hn.out] at this
    rw [Hn.out]
    exact this
  · exact h'.rS.stay (heap_setCell_other w1 _ gs _ h'.ne.2.2.symm)
end
end Go.Proofs.Ytllhilnajjohiaa
