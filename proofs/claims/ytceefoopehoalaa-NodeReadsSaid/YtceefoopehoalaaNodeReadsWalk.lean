/-
  The walk of NodeReads.
-/
import Derived.Test.YtceefoopehoalaaNdLaw
import Derived.Test.YtceefoopehoalaaNdW
import Derived.Test.YtceefoopehoalaaNdRefL
namespace Go.Proofs.Ytceefoopehoalaa
open Go.RowKit
theorem zero_is (w : World) : NdIs w w.heap.size (.slice none 0 0) (.slice none 0 0) (.slice none 0 0) ⟨false, [], [], []⟩ := (NdNew.mk (base := 0) (OwnT.nil _ _ _) (OwnT.nil _ _ _) (Mine.nil _ _ _)).is
theorem zero_short : (⟨false, [], [], []⟩ : Nd).Short 1000000 := ⟨Nat.zero_le _, Nat.zero_le _, Nat.zero_le _⟩
set_option maxHeartbeats 1600000 in
theorem nodeReads_bad (lf : Bool) (v : Value) (w : World) (m : List UInt8) (hbl : m.length ≤ 300)
    (hfew : Calls Try.prog 9 #[v, .int .i64 (300 : Int)] w fun e w1 => ∃ A c, e = .returned (.slice A m.length c) ∧ m.length ≤ c ∧ Rd w1 w1.heap.size (.slice A m.length c) (cellsB m) ∧ Below w.heap.size w w1) (hno : ∀ n : Nd, n.Fit → n.leaf = lf → n.bytes ≠ m) :
    Calls Try.prog 3 #[.bool lf, v] w fun e w' => e = .returned (.bool true) ∧ Below w.heap.size w w' := by
  obtain ⟨i, hi, hz0, hz1, hz2⟩ := info_parts info_u8
  have hd1 := fun (A : Option Addr) (c : Nat) (W : World) (h : Rd W W.heap.size (.slice A m.length c) (cellsB m)) => decode_bad lf A c m W h (by omega) hno
  have hd2 := fun (A : Option Addr) (c : Nat) (W : World) (h : Rd W W.heap.size (.slice A m.length c) (cellsB m)) => rdecode_bad lf A c m W h (by omega) hno
  have Hfew := Lib.hid hfew
  have Hd1 := Lib.hid hd1
  have Hd2 := Lib.hid hd2
  clear hfew hd1 hd2 hno
  go_enter Try.func3, Try.ntmps3
  go_wp2_with fail
  refine Hfew.out.mono ?_
  rintro e w1 ⟨A1, c1, rfl, hc1, hr1, hb1⟩
  go_wp2_with (at_builtin; refine wpList_append_rd rfl (.tmp 13) (.tmp 14) 22 rfl w1.heap.size 5 i _ 1 Try.underlying22 hi hz0 hz1 hz2 rfl _ [] rfl (Mine.empty w1 _ 5 (Nat.le_refl _)) _ _ _ rfl (hr1.alloc (Nat.le_refl _) _) (cellsB_one _) (by rw [cellsB_length]; simp; omega) (by unfold maxLen; rw [cellsB_length]; simp; omega) (by simp) ?_; intro v2 w2 hown2 hbel2 hx1 hx2; clear hx1 hx2; rw [List.nil_append] at hown2)
  obtain ⟨A2, c2, rfl, _, _, hr2⟩ := hown2.rd.bytes
  have hb2 : Below w1.heap.size w1 w2 := ((Below.refl _ _).alloc (Nat.le_refl _) _).trans hbel2
  have hrm2 := (hr1.below hb2).more hb2.size
  have hbm2 : Below w.heap.size w w2 := up hb1 hb2
  have hd1 := Hd1.out _ _ _ hr2
  have HRm2 := Lib.hid hrm2
  have HBm2 := Lib.hid hbm2
  clear hown2 hbel2 hb2 hb1 hr1 hr2 hrm2 hbm2
  refine hd1.mono ?_
  rintro e w3 ⟨rfl, hb3⟩
  have HRm3 := Lib.hid ((HRm2.out.below hb3).more hb3.size)
  have HBm3 := Lib.hid (up HBm2.out hb3)
  have hbx := NdBox.made w3 false (.slice none 0 0) (.slice none 0 0) (.slice none 0 0)
  have hb4 := (Below.refl w3.heap.size w3).alloc (Nat.le_refl _) (.cells #[.bool false, .slice none 0 0, .slice none 0 0, .slice none 0 0] 27)
  have hrd4 := (HRm3.out.below hb4).more hb4.size
  have hd2 := Hd2.out _ _ _ hrd4
  have HB4 := Lib.hid (up HBm3.out hb4)
  have HX4 := Lib.hid hbx
  clear hd1 hb3 hbx hb4 hrd4
  go_wp2_with fail
  refine hd2.mono ?_
  rintro e w5 ⟨rfl, hb5⟩
  have hb6 := hb5.alloc hb5.size (.cells #[.bool false, .slice none 0 0, .slice none 0 0, .slice none 0 0] 27)
  have hx6 := HX4.out.later (by simp) hb6
  have HB6 := Lib.hid (up HB4.out hb6)
  have hbm6 := (Below.refl w5.heap.size w5).alloc (Nat.le_refl _) (.cells #[.bool false, .slice none 0 0, .slice none 0 0, .slice none 0 0] 27)
  have hby := NdBox.made w5 false (.slice none 0 0) (.slice none 0 0) (.slice none 0 0)
  have hsame := same7_yes (zero_is (w5.alloc (.cells #[.bool false, .slice none 0 0, .slice none 0 0, .slice none 0 0] 27))) (zero_is (w5.alloc (.cells #[.bool false, .slice none 0 0, .slice none 0 0, .slice none 0 0] 27))) (Nat.le_refl _) (Nat.le_refl _) zero_short
  obtain ⟨x0, x1, x2, x3⟩ := hx6
  obtain ⟨y0, y1, y2, y3⟩ := hby
  clear hd2 hb5 hb6 hbm6
  go_wp2_with fail
  refine hsame.mono ?_
  rintro e w7 ⟨rfl, hb7⟩
  have HB7 := Lib.hid (up HB6.out hb7)
  clear hsame hb7 x0 x1 x2 x3 y0 y1 y2 y3
  go_wp2_with fail
  refine (lives07_any _).mono ?_
  rintro e w9 ⟨rfl, hb9⟩
  go_wp2_with fail
  go_ret
  exact ⟨rfl, up HB7.out hb9⟩
set_option maxHeartbeats 1600000 in
theorem nodeReads_good (v : Value) (w : World) {n : Nd} (hf : n.Fit) 
    (hfew : Calls Try.prog 9 #[v, .int .i64 (300 : Int)] w fun e w1 => ∃ A c, e = .returned (.slice A n.bytes.length c) ∧ n.bytes.length ≤ c ∧ Rd w1 w1.heap.size (.slice A n.bytes.length c) (cellsB n.bytes) ∧ Below w.heap.size w w1) :
    Calls Try.prog 3 #[.bool n.leaf, v] w fun e w' => e = .returned (.bool true) ∧ Below w.heap.size w w' := by
  obtain ⟨i, hi, hz0, hz1, hz2⟩ := info_parts info_u8
  have hbl : n.bytes.length ≤ 232 := by rw [n.bytes_len]; exact hf.fit
  have hd1 := fun (A : Option Addr) (c : Nat) (W : World) (h : Rd W W.heap.size (.slice A n.bytes.length c) (cellsB n.bytes)) => decode_good A c W hf h
  have hd2 := fun (A : Option Addr) (c : Nat) (W : World) (h : Rd W W.heap.size (.slice A n.bytes.length c) (cellsB n.bytes)) => rdecode_good A c W hf h
  have hsh : n.Short 1000000 := by have := short_rd n.leaf n.bytes; rwa [n.read_back hf] at this
  have hsame := fun (W : World) (K V D K' V' D' : Value) (g1 : NdIs W W.heap.size K V D n) (g2 : NdIs W W.heap.size K' V' D' n) => same7_yes g1 g2 (Nat.le_refl _) (Nat.le_refl _) hsh
  obtain ⟨lf, hlf⟩ : ∃ x, x = n.leaf := ⟨_, rfl⟩
  obtain ⟨m, hmm⟩ : ∃ x, x = n.bytes := ⟨_, rfl⟩
  rw [← hlf, ← hmm] at hd1 hd2
  rw [← hlf] at hsame
  rw [← hmm] at hfew hbl
  rw [← hlf]
  have Hfew := Lib.hid hfew
  have Hd1 := Lib.hid hd1
  have Hd2 := Lib.hid hd2
  have HSame := Lib.hid hsame
  clear hfew hd1 hd2 hmm hlf hf hsame hsh
  go_enter Try.func3, Try.ntmps3
  go_wp2_with fail
  refine Hfew.out.mono ?_
  rintro e w1 ⟨A1, c1, rfl, hc1, hr1, hb1⟩
  go_wp2_with (at_builtin; refine wpList_append_rd rfl (.tmp 13) (.tmp 14) 22 rfl w1.heap.size 5 i _ 1 Try.underlying22 hi hz0 hz1 hz2 rfl _ [] rfl (Mine.empty w1 _ 5 (Nat.le_refl _)) _ _ _ rfl (hr1.alloc (Nat.le_refl _) _) (cellsB_one _) (by rw [cellsB_length]; simp; omega) (by unfold maxLen; rw [cellsB_length]; simp; omega) (by simp) ?_; intro v2 w2 hown2 hbel2 hx1 hx2; clear hx1 hx2; rw [List.nil_append] at hown2)
  obtain ⟨A2, c2, rfl, _, _, hr2⟩ := hown2.rd.bytes
  have hb2 : Below w1.heap.size w1 w2 := ((Below.refl _ _).alloc (Nat.le_refl _) _).trans hbel2
  have hrm2 := (hr1.below hb2).more hb2.size
  have hbm2 : Below w.heap.size w w2 := up hb1 hb2
  have hd1 := Hd1.out _ _ _ hr2
  have HRm2 := Lib.hid hrm2
  have HBm2 := Lib.hid hbm2
  clear hown2 hbel2 hb2 hb1 hr1 hr2 hrm2 hbm2
  refine hd1.mono ?_
  rintro e w3 ⟨K, V, D, rfl, hn3, hb3⟩
  obtain ⟨B1, n1, d1, B2, n2, d2, B3, n3, d3, rfl, rfl, rfl⟩ := hn3.is.slices
  have HN3 := Lib.hid hn3.is
  have HRm3 := Lib.hid ((HRm2.out.below hb3).more hb3.size)
  have HBm3 := Lib.hid (up HBm2.out hb3)
  have hbx := NdBox.made w3 lf (.slice B1 n1 d1) (.slice B2 n2 d2) (.slice B3 n3 d3)
  have hb4 := (Below.refl w3.heap.size w3).alloc (Nat.le_refl _) (.cells #[.bool lf, .slice B1 n1 d1, .slice B2 n2 d2, .slice B3 n3 d3] 27)
  have hrd4 := (HRm3.out.below hb4).more hb4.size
  have hd2 := Hd2.out _ _ _ hrd4
  have HB4 := Lib.hid (up HBm3.out hb4)
  have HX4 := Lib.hid hbx
  have HN4 := Lib.hid ((HN3.out.below hb4).more hb4.size)
  clear hn3
  clear hd1 hb3 hbx hb4 hrd4
  go_wp2_with fail
  refine hd2.mono ?_
  rintro e w5 ⟨K', V', D', rfl, hn5, hb5⟩
  obtain ⟨C1, k1, e1, C2, k2, e2, C3, k3, e3, rfl, rfl, rfl⟩ := hn5.is.slices
  have HN5 := Lib.hid ((HN4.out.below hb5).more hb5.size)
  have HM5 := Lib.hid hn5.is
  have hb6 := hb5.alloc hb5.size (.cells #[.bool lf, .slice C1 k1 e1, .slice C2 k2 e2, .slice C3 k3 e3] 27)
  have hx6 := HX4.out.later (by simp) hb6
  have HB6 := Lib.hid (up HB4.out hb6)
  have hbm6 := (Below.refl w5.heap.size w5).alloc (Nat.le_refl _) (.cells #[.bool lf, .slice C1 k1 e1, .slice C2 k2 e2, .slice C3 k3 e3] 27)
  have hby := NdBox.made w5 lf (.slice C1 k1 e1) (.slice C2 k2 e2) (.slice C3 k3 e3)
  have hsame := HSame.out _ _ _ _ _ _ _ ((HN5.out.below hbm6).more hbm6.size) ((HM5.out.below hbm6).more hbm6.size)
  clear hn5
  obtain ⟨x0, x1, x2, x3⟩ := hx6
  obtain ⟨y0, y1, y2, y3⟩ := hby
  clear hd2 hb5 hb6 hbm6
  go_wp2_with fail
  refine hsame.mono ?_
  rintro e w7 ⟨rfl, hb7⟩
  have HB7 := Lib.hid (up HB6.out hb7)
  clear hsame hb7 x0 x1 x2 x3 y0 y1 y2 y3
  go_wp2_with fail
  refine (lives07_any _).mono ?_
  rintro e w9 ⟨rfl, hb9⟩
  go_wp2_with fail
  go_ret
  exact ⟨rfl, up HB7.out hb9⟩
theorem nodeReads_walk (lf : Bool) (v : Value) (l : List UInt8) (w : World) (hv : Rd w w.heap.size v (cellsB l)) :
    Calls Try.prog 3 #[.bool lf, v] w fun e w' => e = .returned (.bool true) ∧ Below w.heap.size w w' := by
  obtain ⟨m, hm, hfew⟩ := few_cut 300 v l w w.heap.size hv (Nat.le_refl _) (by omega)
  by_cases h : ∃ n : Nd, n.Fit ∧ n.leaf = lf ∧ n.bytes = m
  · obtain ⟨n, h1, rfl, rfl⟩ := h
    exact nodeReads_good v w h1 hfew
  · exact nodeReads_bad lf v w m hm hfew fun n h1 h2 h3 => h ⟨n, h1, h2, h3⟩
end Go.Proofs.Ytceefoopehoalaa
