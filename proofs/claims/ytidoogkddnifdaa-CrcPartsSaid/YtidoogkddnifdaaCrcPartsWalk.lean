/-
  The walk of CrcParts.
-/
import Derived.Test.YtidoogkddnifdaaLaw02
namespace Go.Proofs.Ytidoogkddnifdaa
open Go.RowKit
theorem RdAll.lit3 (w : World) (e : TypeId) (a b c : Value) (l m n : List UInt8) (h : Rd w w.heap.size a (cellsB l)) (h2 : Rd w w.heap.size b (cellsB m)) (h3 : Rd w w.heap.size c (cellsB n)) :
    RdAll (w.alloc (.cells #[a, b, c] e)) (w.heap.size + 1) (.slice (some ⟨w.heap.size, 0, none⟩) 3 3) [l, m, n] := by
  refine RdAll.lit w e [a, b, c] [l, m, n] rfl (by unfold maxLen; simp) fun k u x hu hm => ?_
  match k, hu, hm with
  | 0, hu, hm => simp at hu hm; subst hu hm; exact h
  | 1, hu, hm => simp at hu hm; subst hu hm; exact h2
  | 2, hu, hm => simp at hu hm; subst hu hm; exact h3
theorem RdAll.none (w : World) : RdAll w w.heap.size (.slice none 0 0) [] := ⟨[], Rd.nil w _, rfl, fun k u l a _ => by simp at a⟩
theorem crcParts_none (w : World) : Calls Try.prog 10 #[.slice none 0 0] w fun e w' => e = .returned (.int .u32 0) ∧ w = w' := by
  have h := crcParts_any _ _ _ [] w _ (RdAll.none w)
  rw [show ([] : List (List UInt8)).flatten = [] from rfl, crcOf_nil] at h
  exact h
theorem crcParts_three (a b c : Value) (l m n k : List UInt8) (w : World) (h : Rd w w.heap.size a (cellsB l)) (h2 : Rd w w.heap.size b (cellsB m)) (h3 : Rd w w.heap.size c (cellsB n)) (hk : k = l ++ m ++ n) :
    Calls Try.prog 10 #[.slice (some ⟨w.heap.size, 0, none⟩) 3 3] (w.alloc (.cells #[a, b, c] 22)) fun e w' => e = .returned (.int .u32 (crcOf k : Nat)) ∧ Below w.heap.size w w' := by
  subst hk
  have hp := crcParts_any _ _ _ _ _ _ (RdAll.lit3 w 22 a b c l m n h h2 h3)
  rw [show [l, m, n].flatten = l ++ m ++ n by simp] at hp
  exact hp.mono fun e w' ⟨h1, h2⟩ => ⟨h1, h2 ▸ (Below.refl _ _).alloc (Nat.le_refl _) _⟩
set_option maxHeartbeats 1000000 in
theorem crcParts_walk (v : Value) (l : List UInt8) (v2 : Value) (l2 : List UInt8) (v3 : Value) (l3 : List UInt8) (w : World) (h : Rd w w.heap.size v (cellsB l)) (h2 : Rd w w.heap.size v2 (cellsB l2)) (h3 : Rd w w.heap.size v3 (cellsB l3)) :
    Calls Try.prog 4 #[v, v2, v3] w fun e w' => e = .returned (.bool true) ∧ Below w.heap.size w w' := by
  obtain ⟨i, hi, hz0, hz1, hz2⟩ := info_parts info_u8
  obtain ⟨A, c, rfl, _, _, h⟩ := h.bytes
  obtain ⟨Ab, cb, rfl, _, _, h2⟩ := h2.bytes
  obtain ⟨Ac, cc, rfl, _, _, h3⟩ := h3.bytes
  obtain ⟨m, hm, hfew⟩ := few_cut 80 _ l w _ h (Nat.le_refl _) (by omega)
  have Hfew := Lib.hid hfew
  clear hfew
  go_enter Try.func4, Try.ntmps4
  go_wp2_with (first
    | (go_at_call 6; refine Hfew.out.mono ?_; rintro e w1 ⟨A1, c1, rfl, g1, hr1, hbel1⟩; obtain ⟨m2, hm2, hfew2⟩ := few_cut 80 _ l2 w1 _ (h2.below hbel1) hbel1.size (by omega); have Hfew2 := Lib.hid hfew2; clear hfew2 Hfew)
    | (go_at_call 6; refine Hfew2.out.mono ?_; rintro e w2 ⟨A2, c2, rfl, g2, hr2, hbel2⟩; obtain ⟨m3, hm3, hfew3⟩ := few_cut 80 _ l3 w2 _ (h3.below (up hbel1 hbel2)) (up hbel1 hbel2).size (by omega); have Hfew3 := Lib.hid hfew3; clear hfew3 Hfew2)
    | (go_at_call 6; refine Hfew3.out.mono ?_; rintro e w3 ⟨A3, c3, rfl, g3, hr3, hbel3⟩; have k1 := (hr1.below (up hbel2 hbel3)).more (up hbel2 hbel3).size; have k2 := (hr2.below hbel3).more hbel3.size; obtain ⟨k, hk⟩ : ∃ k, k = m ++ m2 ++ m3 := ⟨_, rfl⟩; have hp := Lib.hid (crcParts_three _ _ _ m m2 m3 k w3 k1 k2 hr3 hk); have Hk := Lib.hid hk; clear hk Hfew3)
    | (go_at_call 10; refine hp.out.mono ?_; rintro e w4 ⟨rfl, hbel4⟩; have j1 := k1.below hbel4; have j2 := k2.below hbel4; have j3 := hr3.below hbel4; clear hp)
    | (at_builtin; refine wpList_append_rd rfl (.tmp 18) _ 22 rfl w4.heap.size 5 i _ 1 Try.underlying22 hi hz0 hz1 hz2 rfl _ [] rfl (Mine.empty w4 _ 5 (Nat.le_refl _)) _ _ _ rfl (j1.alloc hbel4.size _) (cellsB_one _) (by rw [cellsB_length]; simp; omega) (by unfold maxLen; rw [cellsB_length]; simp; omega) (by simp) ?_; intro v5 w5 hown5 hbel5 _ _; have hb5 : Below w4.heap.size w4 w5 := ((Below.refl _ _).alloc (Nat.le_refl _) _).trans hbel5; clear hbel5)
    | (at_builtin; refine wpList_append_rd rfl (.tmp 20) _ 22 rfl w4.heap.size 5 i _ 1 Try.underlying22 hi hz0 hz1 hz2 rfl _ _ rfl hown5 _ _ _ rfl (j2.below (hb5.mono hbel4.size)) (cellsB_one _) (by rw [List.nil_append, cellsB_length, cellsB_length]; omega) (by unfold maxLen; rw [List.nil_append, cellsB_length, cellsB_length]; omega) hb5.size ?_; intro v6 w6 hown6 hbel6 _ _; have hb6 := hb5.trans hbel6; clear hbel6)
    | (at_builtin; refine wpList_append_rd rfl (.tmp 22) _ 22 rfl w4.heap.size 5 i _ 1 Try.underlying22 hi hz0 hz1 hz2 rfl _ _ rfl hown6 _ _ _ rfl (j3.below (hb6.mono hbel4.size)) (cellsB_one _) (by rw [List.nil_append, List.length_append, cellsB_length, cellsB_length, cellsB_length]; omega) (by unfold maxLen; rw [List.nil_append, List.length_append, cellsB_length, cellsB_length, cellsB_length]; omega) hb6.size ?_; intro v7 w7 hown7 hbel7 _ _; have hb7 := hb6.trans hbel7; clear hbel7; rw [List.nil_append, ← cellsB_append, ← cellsB_append, ← Hk.out] at hown7; obtain ⟨A7, c7, rfl, _, _, hr7⟩ := hown7.rd.bytes)
    | (go_at_call 8; refine (crcRefSum_any A7 c7 k _ _ hr7).mono ?_; rintro e w8 ⟨rfl, rfl⟩)
    | (go_at_call 10; refine (crcParts_none _).mono ?_; rintro e w9 ⟨rfl, rfl⟩)
    | (go_at_call 9; refine (lives02_any _).mono ?_; rintro e w10 ⟨rfl, hbel10⟩))
  go_ret
  exact ⟨rfl, up (up (up (up (up hbel1 hbel2) hbel3) hbel4) hb7) hbel10⟩
end Go.Proofs.Ytidoogkddnifdaa
