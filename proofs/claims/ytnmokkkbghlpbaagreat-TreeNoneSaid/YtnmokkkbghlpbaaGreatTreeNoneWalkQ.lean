/-
  TreeNone, walked.
-/
import Derived.Test.YtnmokkkbghlpbaaGreatQ1
import Derived.Test.YtnmokkkbghlpbaaGreatQ2
import Derived.Test.YtnmokkkbghlpbaaGreatQ3
import Derived.Test.YtnmokkkbghlpbaaGreatQ4
namespace Go.Proofs.YtnmokkkbghlpbaaGreat
open Go.RowKit
set_option maxRecDepth 100000 in
set_option maxHeartbeats 4000000 in
theorem treeNone_walk (root height : Int) (v : Value) (l : List UInt8) (w : World) (_ : (Lit.int .i64 root).wf = true) (_ : (Lit.int .i64 height).wf = true) (hr : Rd w w.heap.size v (cellsB l)) :
    Calls Tryz.prog 8 #[.int .i64 root, .int .i64 height, v] w fun e w' => e = .returned (.bool true) ∧ Below w.heap.size w w' := by
  have HFew := Lib.hid (few_any v l 30 w _ hr (Nat.le_refl _) (by omega))
  obtain ⟨A0, c0, rfl, _⟩ := hr.bytes
  obtain ⟨n0, hn0⟩ : ∃ y, y = l.length := ⟨_, rfl⟩
  rw [← hn0] at HFew ⊢
  have HLives := Lib.hid trLives
  have HBeg := Lib.hid (fun W => trBegin_ok W (n := 40) (by omega))
  clear hr hn0
  go_enter Tryz.func8, Tryz.ntmps8
  go_wp2_with fail
  refine HFew.out.mono ?_
  rintro e w1 ⟨v1, rfl, hm1, hb1⟩
  obtain ⟨A1, c1, e1, _⟩ := hm1.rd.bytes
  obtain ⟨n1, hn1⟩ : ∃ y, y = (l.take 30).length := ⟨_, rfl⟩
  rw [← hn1] at e1
  subst e1
  have HB1 := Lib.hid hb1
  clear hm1 hb1 hn1
  go_wp2_with (first
    | (go_at_call 27; refine (trGet_nil _ _).mono ?_; rintro e w2 ⟨rfl, rfl⟩)
    | (go_at_call 24; refine (trDelete_nil A1 n1 c1 _).mono ?_; rintro e w2 ⟨rfl, hb2⟩; have HB2 := Lib.hid (HB1.out.trans (hb2.mono HB1.out.size)); clear hb2)
    | (go_at_call 15; refine (trScan_nil _ _ _ _).mono ?_; rintro e w3 ⟨rfl, rfl⟩))
  refine (HBeg.out _).mono ?_
  rintro e w3 ⟨st, N, c, bf, p, s, t, rfl, hB, hb3⟩
  have st1 : w3.cell? ⟨st, 1, none⟩ = some (at0 c) := by rw [cell_of_row w3 st 1 _ _ (0, 0) hB.top]; rfl
  have st2 : w3.cell? ⟨st, 2, none⟩ = some (spAt s) := by rw [cell_of_row w3 st 2 _ _ (0, 0) hB.top]; rfl
  have HB3 := Lib.hid (HB2.out.trans (hb3.mono HB2.out.size))
  obtain ⟨bl, bm, S, D, hdev⟩ := hB.ts.cd.dev
  have k2 := hB.ts.cd.k2
  have hc8 := hdev.c8
  rw [show (Dev.new 40).L.length = 40 from List.length_replicate] at hc8
  have HK := Lib.hid (And.intro k2 hc8)
  have Sd := Lib.hid (show w3.drew.cell? ⟨st, 1, none⟩ = some (at0 c) ∧ w3.drew.cell? ⟨st, 2, none⟩ = some (spAt s) from ⟨st1, st2⟩)
  clear hB hb3 hdev k2 hc8
  by_cases a0 : height < 0
  · have hnew := trNew_no (w := w3.drew) s 1 (root := root) (height := height) (n := 40) HK.out.1 HK.out.2 (by unfold TrGood; omega)
    have HNw := Lib.hid hnew
    clear hnew
    go_wp2_with fail
    go_region_held3 (fun X => X.cell? ⟨st, 1, none⟩ = some (at0 c) ∧ X.cell? ⟨st, 2, none⟩ = some (spAt s))
      (first | with_reducible exact Sd.out | with_reducible exact S4.out)
      (first
        | (go_at_call 18; refine HNw.out.mono ?_; rintro e w4 ⟨rfl, hw4⟩; have HB4 := Lib.hid (show Below w.heap.size w w4 from by rw [← hw4]; exact up_drew HB3.out); have S4 := Lib.hid (show w4.cell? ⟨st, 1, none⟩ = some (at0 c) ∧ w4.cell? ⟨st, 2, none⟩ = some (spAt s) from by rw [← hw4]; exact ⟨st1, st2⟩); clear hw4))
    go_wp2_with (first
      | (go_at_call 23; refine (trPut_nil _ _ _ _ _ _ _).mono ?_; rintro e w5 ⟨rfl, hb5⟩; have HB5 := Lib.hid (HB4.out.trans (hb5.mono HB4.out.size)); clear hb5)
      | (go_at_call 17; refine (HLives.out _).mono ?_; rintro e w6 ⟨rfl, hb6⟩; have HB6 := Lib.hid (HB5.out.trans (hb6.mono HB5.out.size)); clear hb6))
    go_ret
    exact ⟨rfl, HB6.out⟩
  by_cases a1 : 12 < height
  · have hnew := trNew_no (w := w3.drew) s 1 (root := root) (height := height) (n := 40) HK.out.1 HK.out.2 (by unfold TrGood; omega)
    have HNw := Lib.hid hnew
    clear hnew
    go_wp2_with fail
    go_region_held3 (fun X => X.cell? ⟨st, 1, none⟩ = some (at0 c) ∧ X.cell? ⟨st, 2, none⟩ = some (spAt s))
      (first | with_reducible exact Sd.out | with_reducible exact S4.out)
      (first
        | (go_at_call 18; refine HNw.out.mono ?_; rintro e w4 ⟨rfl, hw4⟩; have HB4 := Lib.hid (show Below w.heap.size w w4 from by rw [← hw4]; exact up_drew HB3.out); have S4 := Lib.hid (show w4.cell? ⟨st, 1, none⟩ = some (at0 c) ∧ w4.cell? ⟨st, 2, none⟩ = some (spAt s) from by rw [← hw4]; exact ⟨st1, st2⟩); clear hw4))
    go_wp2_with (first
      | (go_at_call 23; refine (trPut_nil _ _ _ _ _ _ _).mono ?_; rintro e w5 ⟨rfl, hb5⟩; have HB5 := Lib.hid (HB4.out.trans (hb5.mono HB4.out.size)); clear hb5)
      | (go_at_call 17; refine (HLives.out _).mono ?_; rintro e w6 ⟨rfl, hb6⟩; have HB6 := Lib.hid (HB5.out.trans (hb6.mono HB5.out.size)); clear hb6))
    go_ret
    exact ⟨rfl, HB6.out⟩
  by_cases a2 : root < 0
  · have hnew := trNew_no (w := w3.drew) s 1 (root := root) (height := height) (n := 40) HK.out.1 HK.out.2 (by unfold TrGood; omega)
    have HNw := Lib.hid hnew
    clear hnew
    go_wp2_with fail
    go_region_held3 (fun X => X.cell? ⟨st, 1, none⟩ = some (at0 c) ∧ X.cell? ⟨st, 2, none⟩ = some (spAt s))
      (first | with_reducible exact Sd.out | with_reducible exact S4.out)
      (first
        | (go_at_call 18; refine HNw.out.mono ?_; rintro e w4 ⟨rfl, hw4⟩; have HB4 := Lib.hid (show Below w.heap.size w w4 from by rw [← hw4]; exact up_drew HB3.out); have S4 := Lib.hid (show w4.cell? ⟨st, 1, none⟩ = some (at0 c) ∧ w4.cell? ⟨st, 2, none⟩ = some (spAt s) from by rw [← hw4]; exact ⟨st1, st2⟩); clear hw4))
    go_wp2_with (first
      | (go_at_call 23; refine (trPut_nil _ _ _ _ _ _ _).mono ?_; rintro e w5 ⟨rfl, hb5⟩; have HB5 := Lib.hid (HB4.out.trans (hb5.mono HB4.out.size)); clear hb5)
      | (go_at_call 17; refine (HLives.out _).mono ?_; rintro e w6 ⟨rfl, hb6⟩; have HB6 := Lib.hid (HB5.out.trans (hb6.mono HB5.out.size)); clear hb6))
    go_ret
    exact ⟨rfl, HB6.out⟩
  by_cases a3 : 40 ≤ root
  · have hnew := trNew_no (w := w3.drew) s 1 (root := root) (height := height) (n := 40) HK.out.1 HK.out.2 (by unfold TrGood; omega)
    have HNw := Lib.hid hnew
    clear hnew
    go_wp2_with fail
    go_region_held3 (fun X => X.cell? ⟨st, 1, none⟩ = some (at0 c) ∧ X.cell? ⟨st, 2, none⟩ = some (spAt s))
      (first | with_reducible exact Sd.out | with_reducible exact S4.out)
      (first
        | (go_at_call 18; refine HNw.out.mono ?_; rintro e w4 ⟨rfl, hw4⟩; have HB4 := Lib.hid (show Below w.heap.size w w4 from by rw [← hw4]; exact up_drew HB3.out); have S4 := Lib.hid (show w4.cell? ⟨st, 1, none⟩ = some (at0 c) ∧ w4.cell? ⟨st, 2, none⟩ = some (spAt s) from by rw [← hw4]; exact ⟨st1, st2⟩); clear hw4))
    go_wp2_with (first
      | (go_at_call 23; refine (trPut_nil _ _ _ _ _ _ _).mono ?_; rintro e w5 ⟨rfl, hb5⟩; have HB5 := Lib.hid (HB4.out.trans (hb5.mono HB4.out.size)); clear hb5)
      | (go_at_call 17; refine (HLives.out _).mono ?_; rintro e w6 ⟨rfl, hb6⟩; have HB6 := Lib.hid (HB5.out.trans (hb6.mono HB5.out.size)); clear hb6))
    go_ret
    exact ⟨rfl, HB6.out⟩
  by_cases r : root = 0
  · by_cases q : height = 0
    · subst r q
      have hnew := trNew_ok (w := w3.drew) s 1 (root := 0) (height := 0) HK.out.1 HK.out.2 (by omega) (by omega) (by simp)
      have HNw := Lib.hid hnew
      clear hnew
      go_wp2_with fail
      go_region_held3 (fun X => X.cell? ⟨st, 1, none⟩ = some (at0 c) ∧ X.cell? ⟨st, 2, none⟩ = some (spAt s))
        (first | with_reducible exact Sd.out | with_reducible exact S4.out)
        (first
          | (go_at_call 18; refine HNw.out.mono ?_; rintro e w4 ⟨rfl, hw4⟩; have HB4 := Lib.hid (show Below w.heap.size w w4 from by rw [← hw4]; exact up_alloc (up_drew HB3.out) _); have S4 := Lib.hid (show w4.cell? ⟨st, 1, none⟩ = some (at0 c) ∧ w4.cell? ⟨st, 2, none⟩ = some (spAt s) from by rw [← hw4]; exact ⟨(World.cell?_alloc_lt w3.drew _ _ (World.block_lt_of_cell? w3 _ st1)).trans st1, (World.cell?_alloc_lt w3.drew _ _ (World.block_lt_of_cell? w3 _ st2)).trans st2⟩); clear hw4))
      go_wp2_with (first
        | (go_at_call 23; refine (trPut_nil _ _ _ _ _ _ _).mono ?_; rintro e w5 ⟨rfl, hb5⟩; have HB5 := Lib.hid (HB4.out.trans (hb5.mono HB4.out.size)); clear hb5)
        | (go_at_call 17; refine (HLives.out _).mono ?_; rintro e w6 ⟨rfl, hb6⟩; have HB6 := Lib.hid (HB5.out.trans (hb6.mono HB5.out.size)); clear hb6))
      go_ret
      exact ⟨rfl, HB6.out⟩
    · have q0 : (height == 0) = false := by rw [beq_eq_false_iff_ne]; exact q
      have r0 : (root == 0) = true := by rw [beq_iff_eq]; exact r
      have hnew := trNew_no (w := w3.drew) s 1 (root := root) (height := height) (n := 40) HK.out.1 HK.out.2 (by unfold TrGood; omega)
      clear q r
      have HNw := Lib.hid hnew
      clear hnew
      go_wp2_with fail
      go_region_held3 (fun X => X.cell? ⟨st, 1, none⟩ = some (at0 c) ∧ X.cell? ⟨st, 2, none⟩ = some (spAt s))
        (first | with_reducible exact Sd.out | with_reducible exact S4.out)
        (first
          | (go_at_call 18; refine HNw.out.mono ?_; rintro e w4 ⟨rfl, hw4⟩; have HB4 := Lib.hid (show Below w.heap.size w w4 from by rw [← hw4]; exact up_drew HB3.out); have S4 := Lib.hid (show w4.cell? ⟨st, 1, none⟩ = some (at0 c) ∧ w4.cell? ⟨st, 2, none⟩ = some (spAt s) from by rw [← hw4]; exact ⟨st1, st2⟩); clear hw4))
      go_wp2_with (first
        | (go_at_call 23; refine (trPut_nil _ _ _ _ _ _ _).mono ?_; rintro e w5 ⟨rfl, hb5⟩; have HB5 := Lib.hid (HB4.out.trans (hb5.mono HB4.out.size)); clear hb5)
        | (go_at_call 17; refine (HLives.out _).mono ?_; rintro e w6 ⟨rfl, hb6⟩; have HB6 := Lib.hid (HB5.out.trans (hb6.mono HB5.out.size)); clear hb6))
      go_ret
      exact ⟨rfl, HB6.out⟩
  · by_cases q : height = 0
    · have r0 : (root == 0) = false := by rw [beq_eq_false_iff_ne]; exact r
      have q0 : (height == 0) = true := by rw [beq_iff_eq]; exact q
      have hnew := trNew_no (w := w3.drew) s 1 (root := root) (height := height) (n := 40) HK.out.1 HK.out.2 (by unfold TrGood; omega)
      clear q r
      have HNw := Lib.hid hnew
      clear hnew
      go_wp2_with fail
      go_region_held3 (fun X => X.cell? ⟨st, 1, none⟩ = some (at0 c) ∧ X.cell? ⟨st, 2, none⟩ = some (spAt s))
        (first | with_reducible exact Sd.out | with_reducible exact S4.out)
        (first
          | (go_at_call 18; refine HNw.out.mono ?_; rintro e w4 ⟨rfl, hw4⟩; have HB4 := Lib.hid (show Below w.heap.size w w4 from by rw [← hw4]; exact up_drew HB3.out); have S4 := Lib.hid (show w4.cell? ⟨st, 1, none⟩ = some (at0 c) ∧ w4.cell? ⟨st, 2, none⟩ = some (spAt s) from by rw [← hw4]; exact ⟨st1, st2⟩); clear hw4))
      go_wp2_with (first
        | (go_at_call 23; refine (trPut_nil _ _ _ _ _ _ _).mono ?_; rintro e w5 ⟨rfl, hb5⟩; have HB5 := Lib.hid (HB4.out.trans (hb5.mono HB4.out.size)); clear hb5)
        | (go_at_call 17; refine (HLives.out _).mono ?_; rintro e w6 ⟨rfl, hb6⟩; have HB6 := Lib.hid (HB5.out.trans (hb6.mono HB5.out.size)); clear hb6))
      go_ret
      exact ⟨rfl, HB6.out⟩
    · obtain ⟨rn, rfl⟩ : ∃ k : Nat, root = k := ⟨root.toNat, by omega⟩
      obtain ⟨hn, rfl⟩ : ∃ k : Nat, height = k := ⟨height.toNat, by omega⟩
      have q0 : ((hn : Int) == 0) = false := by rw [beq_eq_false_iff_ne]; exact q
      have r0 : ((rn : Int) == 0) = false := by rw [beq_eq_false_iff_ne]; exact r
      have hnew := trNew_ok (w := w3.drew) s 1 (root := rn) (height := hn) HK.out.1 HK.out.2 (by omega) (by omega) (by omega)
      clear q r
      have HNw := Lib.hid hnew
      clear hnew
      go_wp2_with fail
      go_region_held3 (fun X => X.cell? ⟨st, 1, none⟩ = some (at0 c) ∧ X.cell? ⟨st, 2, none⟩ = some (spAt s))
        (first | with_reducible exact Sd.out | with_reducible exact S4.out)
        (first
          | (go_at_call 18; refine HNw.out.mono ?_; rintro e w4 ⟨rfl, hw4⟩; have HB4 := Lib.hid (show Below w.heap.size w w4 from by rw [← hw4]; exact up_alloc (up_drew HB3.out) _); have S4 := Lib.hid (show w4.cell? ⟨st, 1, none⟩ = some (at0 c) ∧ w4.cell? ⟨st, 2, none⟩ = some (spAt s) from by rw [← hw4]; exact ⟨(World.cell?_alloc_lt w3.drew _ _ (World.block_lt_of_cell? w3 _ st1)).trans st1, (World.cell?_alloc_lt w3.drew _ _ (World.block_lt_of_cell? w3 _ st2)).trans st2⟩); clear hw4))
      go_wp2_with (first
        | (go_at_call 23; refine (trPut_nil _ _ _ _ _ _ _).mono ?_; rintro e w5 ⟨rfl, hb5⟩; have HB5 := Lib.hid (HB4.out.trans (hb5.mono HB4.out.size)); clear hb5)
        | (go_at_call 17; refine (HLives.out _).mono ?_; rintro e w6 ⟨rfl, hb6⟩; have HB6 := Lib.hid (HB5.out.trans (hb6.mono HB5.out.size)); clear hb6))
      go_ret
      exact ⟨rfl, HB6.out⟩
end Go.Proofs.YtnmokkkbghlpbaaGreat
