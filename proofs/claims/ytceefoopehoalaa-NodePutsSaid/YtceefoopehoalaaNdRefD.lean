/-
  The document's own Cell, Bytes of layer 7, by contracts.
-/
import Derived.Test.YtceefoopehoalaaNdLaw
import Derived.Test.YtceefoopehoalaaNdH
import Derived.Test.YtceefoopehoalaaRefNumP
namespace Go.Proofs.Ytceefoopehoalaa
open Go.RowKit
theorem be1_cells {m : Nat} (h : m < 256) : (#[Value.int .u8 (m : Int)] : Array Value).toList = cellsB (be 1 m) := by
  simp [be, cellsB]
  omega
theorem rd_byte {w : World} {m : Nat} (h : m < 256) : Rd (w.alloc (.cells #[.int .u8 (m : Int)] 5)) (w.heap.size + 1) (.slice (some ⟨w.heap.size, 0, none⟩) 1 1) (cellsB (be 1 m)) := by
  have := rd_const w 5 (0, 0) (be 1 m) (by rw [be_length]; unfold maxLen; omega)
  rw [← be1_cells h] at this ⊢
  rw [be_length] at this
  simpa using this
set_option maxRecDepth 100000 in
set_option maxHeartbeats 1600000 in
theorem rcell_leaf {n : Nd} {K V D : Value} {w : World} {B : Nat} (hr : NdIs w B K V D n) (hB : B ≤ w.heap.size) (hs : n.Snd) (hl : n.leaf = true) (i : Nat) (hi : i < n.keys.length) (hn : n.keys.length ≤ 1000000) :
    Calls Try.prog 44 #[ndVal true K V D, .int .i64 (i : Int)] w fun e w' => ∃ v, e = .returned v ∧ Mine w' w.heap.size 5 v (cellsB (n.cellParts i).flatten) ∧ Below w.heap.size w w' := by
  obtain ⟨ti, hti, hz0, hz1, hz2⟩ := info_parts info_u8
  have hk := (hs.keys i hi).1.2
  have hvl := (hs.ofLeaf hl).2
  have hv := hs.vals i (by rw [hvl]; exact hi)
  have hparts : (n.cellParts i).flatten = (be 1 (n.keys.getD i []).length ++ n.keys.getD i [] ++ be 1 (n.vals.getD i []).length) ++ n.vals.getD i [] := by
    unfold Nd.cellParts; rw [if_pos hl]; simp
  obtain ⟨A1, c1, A2, c2, A3, c3, rfl, rfl, rfl⟩ := hr.form
  obtain ⟨b, o, rfl, _⟩ := hr.keys.addr (by omega)
  obtain ⟨Ak, mk, ck, hmk, hmk2, hmk3, hkl⟩ := hr.keys.later hB hi
  obtain ⟨b2, o2, rfl, _⟩ := hr.vals.addr (by omega)
  obtain ⟨Av, mv, cv, hmv, hmv2, hmv3, hvll⟩ := hr.vals.later hB (k := i) (by omega)
  rw [hvl] at hr ⊢
  rw [hparts]
  rw [← hmk, ← hmv]
  rw [← hmk] at hk
  rw [← hmv] at hv
  obtain ⟨key, hkey⟩ : ∃ x, x = n.keys.getD i [] := ⟨_, rfl⟩
  obtain ⟨val, hval⟩ : ∃ x, x = n.vals.getD i [] := ⟨_, rfl⟩
  rw [← hkey] at hkl hmk ⊢
  rw [← hval] at hvll hmv ⊢
  obtain ⟨a, ha⟩ : ∃ x, x = n.keys.length := ⟨_, rfl⟩
  rw [← ha] at hi hn ⊢
  have hb0 : Below w.heap.size w (w.alloc (.cells #[.bool true, .slice (some ⟨b, o, none⟩) a c1, .slice (some ⟨b2, o2, none⟩) a c2, .slice A3 n.kids.length c3] 27)) := (Below.refl _ _).alloc (Nat.le_refl _) _
  have hbox := NdBox.made w true (.slice (some ⟨b, o, none⟩) a c1) (.slice (some ⟨b2, o2, none⟩) a c2) (.slice A3 n.kids.length c3)
  have hs0 : (w.alloc (.cells #[.bool true, .slice (some ⟨b, o, none⟩) a c1, .slice (some ⟨b2, o2, none⟩) a c2, .slice A3 n.kids.length c3] 27)).heap.size = w.heap.size + 1 := by simp
  obtain ⟨w1, hw1⟩ : ∃ x, x = w.alloc (.cells #[.bool true, .slice (some ⟨b, o, none⟩) a c1, .slice (some ⟨b2, o2, none⟩) a c2, .slice A3 n.kids.length c3] 27) := ⟨_, rfl⟩
  rw [← hw1] at hb0 hbox hs0
  obtain ⟨x0, x1, x2, x3⟩ := hbox
  have HSt := Lib.hid (fun (W : World) (h : Below (w.heap.size + 1) w1 W) => (show (W.cell? ⟨w.heap.size, 1, none⟩ = some (.slice (some ⟨b, o, none⟩) a c1) ∧ W.cell? ⟨b, o + i, none⟩ = some (.slice Ak mk ck)) ∧ (W.cell? ⟨w.heap.size, 2, none⟩ = some (.slice (some ⟨b2, o2, none⟩) a c2) ∧ W.cell? ⟨b2, o2 + i, none⟩ = some (.slice Av mv cv)) ∧ W.cell? ⟨w.heap.size, 0, none⟩ = some (.bool true) ∧ Rd W w.heap.size (.slice Ak mk ck) (cellsB key) ∧ Rd W w.heap.size (.slice Av mv cv) (cellsB val) from
    ⟨⟨(h.cell (p := ⟨w.heap.size, 1, none⟩) (Nat.lt_succ_self _)).trans x1, (hkl W (hb0.trans (h.mono (Nat.le_succ _)))).1⟩, ⟨(h.cell (p := ⟨w.heap.size, 2, none⟩) (Nat.lt_succ_self _)).trans x2, (hvll W (hb0.trans (h.mono (Nat.le_succ _)))).1⟩, (h.cell (p := ⟨w.heap.size, 0, none⟩) (Nat.lt_succ_self _)).trans x0, (hkl W (hb0.trans (h.mono (Nat.le_succ _)))).2.1, (hvll W (hb0.trans (h.mono (Nat.le_succ _)))).2.1⟩))
  have i0 : (0 : Int) ≤ (i : Int) := by omega
  have i1 : (i : Int) < (a : Int) := by omega
  have i3 : (i : Int).toNat = i := by omega
  have u1 : IntKind.u8.wrap (mk : Int) = (mk : Int) := IntWalk.u8_in _ (by omega)
  have u2 : IntKind.u8.wrap (mv : Int) = (mv : Int) := IntWalk.u8_in _ (by omega)
  have m1 : (mk : Int) % 256 = (mk : Int) := by omega
  have m2 : (mv : Int) % 256 = (mv : Int) := by omega
  have HS1 := Lib.hid hs0
  have HB0 := Lib.hid hb0
  have S1 := Lib.hid (HSt.out w1.drew (Below.refl _ _).drew).1
  have S2 := Lib.hid (HSt.out (w1.alloc (.cells #[.int .u8 (mk : Int)] 5)).drew (((Below.refl _ _).alloc (by have := HS1.out; omega) _).drew))
  have hkl2 : key.length ≤ 24 := by omega
  have hvl2 : val.length ≤ 24 := by omega
  have Hkl := Lib.hid hkl2
  have Hvl := Lib.hid hvl2
  have hmine := Mine.lit w1.drew (w.heap.size + 1) 5 #[.int .u8 (mk : Int)] 1 (by show _ ≤ w1.heap.size; omega) rfl (by unfold maxLen; simp)
  rw [be1_cells (show mk < 256 by omega)] at hmine
  have HMi := Lib.hid hmine
  have HW1 := Lib.hid hw1
  have hvb := Lib.hid (show mv < 256 by omega)
  clear hr hB hs hl hvl hparts hkl hvll hmk hmv hkey hval ha hb0 x0 x1 x2 x3 hs0 hw1 hkl2 hvl2 hmine hk hv
  go_enter Try.func44, Try.ntmps44
  go_wp2_with fail
  rw [← HW1.out]
  go_region_held3 (fun w' => w'.cell? ⟨w.heap.size, 1, none⟩ = some (.slice (some ⟨b, o, none⟩) a c1) ∧ w'.cell? ⟨b, o + i, none⟩ = some (.slice Ak mk ck))
    (first | exact S3.out.1 | exact S2.out.1 | exact S1.out)
    (first | (refine step_append_rd rfl (.tmp 13) (.tmp 18) 22 (by rfl) (w.heap.size + 1) 5 ti _ 1 Try.underlying22 hti hz0 hz1 hz2 rfl _ (cellsB (be 1 mk)) (by rfl) HMi.out w.heap.size _ _ (by rfl) S2.out.2.2.2.1 (cellsB_one _) (by have := Hkl.out; rw [cellsB_length, cellsB_length, be_length]; omega) (by have := Hkl.out; unfold maxLen; rw [cellsB_length, cellsB_length, be_length]; omega) (by have := HS1.out; simp; omega) ?_; intro v3 w3 ho3 hb3 _ _; have Hb3 := Lib.hid ((((Below.refl (w.heap.size + 1) w1).alloc (by have := HS1.out; omega) (.cells #[.int .u8 (mk : Int)] 5)).drew).trans hb3); have Ho3 := Lib.hid ho3; have S3 := Lib.hid (HSt.out w3 Hb3.out); clear ho3 hb3))
  have x0 := S3.out.2.2.1
  have S4 := Lib.hid (HSt.out w3.drew Hb3.out.drew)
  have hb4 := (Hb3.out.drew).alloc (by have := HS1.out; have := Hb3.out.size; show _ ≤ w3.heap.size; omega) (.cells #[.int .u8 (mv : Int)] 5)
  have S5 := Lib.hid (HSt.out _ hb4)
  have Hb4 := Lib.hid hb4
  have Ho4 := Lib.hid (Ho3.out.alloc (.cells #[.int .u8 (mv : Int)] 5))
  clear hb4
  go_wp2_with fail
  go_region_held3 (fun w' => w'.cell? ⟨w.heap.size, 2, none⟩ = some (.slice (some ⟨b2, o2, none⟩) a c2) ∧ w'.cell? ⟨b2, o2 + i, none⟩ = some (.slice Av mv cv))
    (first | exact S9.out.2.1 | exact S7.out.2.1 | exact S5.out.2.1 | exact S4.out.2.1)
    (first
    | (refine step_append_rd rfl (.tmp 22) (.tmp 30) 22 (by rfl) (w.heap.size + 1) 5 ti _ 1 Try.underlying22 hti hz0 hz1 hz2 rfl v3 _ (by rfl) Ho4.out (w3.heap.size + 1) _ (cellsB (be 1 mv)) (by rfl) (rd_byte (w := w3) hvb.out) (cellsB_one _) (by have := Hkl.out; simp [cellsB_length, be_length]; omega) (by have := Hkl.out; unfold maxLen; simp [cellsB_length, be_length]; omega) (by have := HS1.out; have := Hb3.out.size; simp; omega) ?_; intro v7 w7 ho7 hb7 _ _; have Hb7 := Lib.hid (Hb4.out.trans hb7); have Ho7 := Lib.hid ho7; have S7 := Lib.hid (HSt.out w7 Hb7.out); clear ho7 hb7)
    | (refine step_append_rd rfl (.tmp 31) (.tmp 36) 22 (by rfl) (w.heap.size + 1) 5 ti _ 1 Try.underlying22 hti hz0 hz1 hz2 rfl v7 _ (by rfl) Ho7.out w.heap.size _ _ (by rfl) S7.out.2.2.2.2 (cellsB_one _) (by have := Hkl.out; have := Hvl.out; simp [cellsB_length, be_length]; omega) (by have := Hkl.out; have := Hvl.out; unfold maxLen; simp [cellsB_length, be_length]; omega) (by have := HS1.out; have := Hb7.out.size; omega) ?_; intro v9 w9 ho9 hb9 _ _; have Hb9 := Lib.hid (Hb7.out.trans hb9); have Ho9 := Lib.hid ho9; have S9 := Lib.hid (HSt.out w9 Hb9.out); clear ho9 hb9))
  go_wp2_with fail
  go_ret
  refine ⟨_, rfl, ?_, HB0.out.trans (Hb9.out.mono (Nat.le_succ _))⟩
  have h := Ho9.out.weaken (base' := w.heap.size) (Nat.le_succ _)
  rw [← cellsB_append, ← cellsB_append, ← cellsB_append] at h
  exact h
end Go.Proofs.Ytceefoopehoalaa
