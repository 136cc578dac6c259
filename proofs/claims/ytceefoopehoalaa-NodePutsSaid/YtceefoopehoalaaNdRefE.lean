/-
  The document's own Cell of what is no leaf: contract.
-/
import Derived.Test.YtceefoopehoalaaNdRefD
namespace Go.Proofs.Ytceefoopehoalaa
open Go.RowKit
set_option maxRecDepth 100000 in
set_option maxHeartbeats 1600000 in
theorem rcell_not {n : Nd} {K V D : Value} {w : World} {B : Nat} (hr : NdIs w B K V D n) (hB : B ≤ w.heap.size) (hs : n.Snd) (hl : n.leaf = false) (i : Nat) (hi : i < n.keys.length) (hn : n.keys.length ≤ 1000000) :
    Calls Try.prog 44 #[ndVal false K V D, .int .i64 (i : Int)] w fun e w' => ∃ v, e = .returned v ∧ Mine w' w.heap.size 5 v (cellsB (n.cellParts i).flatten) ∧ Below w.heap.size w w' := by
  obtain ⟨ti, hti, hz0, hz1, hz2⟩ := info_parts info_u8
  have hk := (hs.keys i hi).1.2
  have hdl := (hs.ofNot hl).2.2
  have hparts : (n.cellParts i).flatten = (be 1 (n.keys.getD i []).length ++ n.keys.getD i []) ++ be 2 (n.kids.getD (i + 1) 0).toNat := by
    unfold Nd.cellParts; rw [if_neg (by simp [hl])]; simp
  obtain ⟨A1, c1, A2, c2, A3, c3, rfl, rfl, rfl⟩ := hr.form
  obtain ⟨b, o, rfl, _⟩ := hr.keys.addr (by omega)
  obtain ⟨Ak, mk, ck, hmk, hmk2, hmk3, hkl⟩ := hr.keys.later hB hi
  obtain ⟨b3, o3, rfl, _⟩ := hr.kids.addrI (by omega)
  obtain ⟨x, hx, hx2, hxc⟩ := hr.kids.laterI hs.kids (k := i + 1) (by omega)
  rw [hdl] at hr ⊢
  rw [hparts]
  rw [← hmk, ← hx, Int.toNat_natCast]
  rw [← hmk] at hk
  obtain ⟨key, hkey⟩ : ∃ x, x = n.keys.getD i [] := ⟨_, rfl⟩
  rw [← hkey] at hkl hmk ⊢
  obtain ⟨a, ha⟩ : ∃ x, x = n.keys.length := ⟨_, rfl⟩
  rw [← ha] at hi hn ⊢
  have hb0 : Below w.heap.size w (w.alloc (.cells #[.bool false, .slice (some ⟨b, o, none⟩) a c1, .slice A2 n.vals.length c2, .slice (some ⟨b3, o3, none⟩) (a + 1) c3] 27)) := (Below.refl _ _).alloc (Nat.le_refl _) _
  have hbox := NdBox.made w false (.slice (some ⟨b, o, none⟩) a c1) (.slice A2 n.vals.length c2) (.slice (some ⟨b3, o3, none⟩) (a + 1) c3)
  have hs0 : (w.alloc (.cells #[.bool false, .slice (some ⟨b, o, none⟩) a c1, .slice A2 n.vals.length c2, .slice (some ⟨b3, o3, none⟩) (a + 1) c3] 27)).heap.size = w.heap.size + 1 := by simp
  obtain ⟨w1, hw1⟩ : ∃ x, x = w.alloc (.cells #[.bool false, .slice (some ⟨b, o, none⟩) a c1, .slice A2 n.vals.length c2, .slice (some ⟨b3, o3, none⟩) (a + 1) c3] 27) := ⟨_, rfl⟩
  rw [← hw1] at hb0 hbox hs0
  obtain ⟨x0, x1, x2, x3⟩ := hbox
  have HSt := Lib.hid (fun (W : World) (h : Below (w.heap.size + 1) w1 W) => (show (W.cell? ⟨w.heap.size, 1, none⟩ = some (.slice (some ⟨b, o, none⟩) a c1) ∧ W.cell? ⟨b, o + i, none⟩ = some (.slice Ak mk ck)) ∧ (W.cell? ⟨w.heap.size, 3, none⟩ = some (.slice (some ⟨b3, o3, none⟩) (a + 1) c3) ∧ W.cell? ⟨b3, o3 + (i + 1), none⟩ = some (.int .i64 (x : Int))) ∧ W.cell? ⟨w.heap.size, 0, none⟩ = some (.bool false) ∧ Rd W w.heap.size (.slice Ak mk ck) (cellsB key) from
    ⟨⟨(h.cell (p := ⟨w.heap.size, 1, none⟩) (Nat.lt_succ_self _)).trans x1, (hkl W (hb0.trans (h.mono (Nat.le_succ _)))).1⟩, ⟨(h.cell (p := ⟨w.heap.size, 3, none⟩) (Nat.lt_succ_self _)).trans x3, hxc W (hb0.trans (h.mono (Nat.le_succ _)))⟩, (h.cell (p := ⟨w.heap.size, 0, none⟩) (Nat.lt_succ_self _)).trans x0, (hkl W (hb0.trans (h.mono (Nat.le_succ _)))).2.1⟩))
  have i0 : (0 : Int) ≤ (i : Int) := by omega
  have i1 : (i : Int) < (a : Int) := by omega
  have i3 : (i : Int).toNat = i := by omega
  have u1 : IntKind.u8.wrap (mk : Int) = (mk : Int) := IntWalk.u8_in _ (by omega)
  have u2 : IntKind.u64.wrap (x : Int) = (x : Int) := IntWalk.u64_in _ (by omega)
  have m1 : (mk : Int) % 256 = (mk : Int) := by omega
  have HS1 := Lib.hid hs0
  have HB0 := Lib.hid hb0
  have S1 := Lib.hid (HSt.out w1.drew (Below.refl _ _).drew).1
  have S2 := Lib.hid (HSt.out (w1.alloc (.cells #[.int .u8 (mk : Int)] 5)).drew (((Below.refl _ _).alloc (by have := HS1.out; omega) _).drew))
  have hkl2 : key.length ≤ 24 := by omega
  have Hkl := Lib.hid hkl2
  have hmine := Mine.lit w1.drew (w.heap.size + 1) 5 #[.int .u8 (mk : Int)] 1 (by show _ ≤ w1.heap.size; omega) rfl (by unfold maxLen; simp)
  rw [be1_cells (show mk < 256 by omega)] at hmine
  have HMi := Lib.hid hmine
  have HW1 := Lib.hid hw1
  clear hr hB hs hl hdl hparts hkl hmk hkey ha hb0 x0 x1 x2 x3 hs0 hw1 hkl2 hmine hk hx hxc
  go_enter Try.func44, Try.ntmps44
  go_wp2_with fail
  rw [← HW1.out]
  go_region_held3 (fun w' => w'.cell? ⟨w.heap.size, 1, none⟩ = some (.slice (some ⟨b, o, none⟩) a c1) ∧ w'.cell? ⟨b, o + i, none⟩ = some (.slice Ak mk ck))
    (first | exact S3.out.1 | exact S2.out.1 | exact S1.out)
    (first | (refine step_append_rd rfl (.tmp 13) (.tmp 18) 22 (by rfl) (w.heap.size + 1) 5 ti _ 1 Try.underlying22 hti hz0 hz1 hz2 rfl _ (cellsB (be 1 mk)) (by rfl) HMi.out w.heap.size _ _ (by rfl) S2.out.2.2.2 (cellsB_one _) (by have := Hkl.out; rw [cellsB_length, cellsB_length, be_length]; omega) (by have := Hkl.out; unfold maxLen; rw [cellsB_length, cellsB_length, be_length]; omega) (by have := HS1.out; simp; omega) ?_; intro v3 w3 ho3 hb3 _ _; have Hb3 := Lib.hid ((((Below.refl (w.heap.size + 1) w1).alloc (by have := HS1.out; omega) (.cells #[.int .u8 (mk : Int)] 5)).drew).trans hb3); have Ho3 := Lib.hid ho3; have S3 := Lib.hid (HSt.out w3 Hb3.out); clear ho3 hb3))
  have x0 := S3.out.2.2.1
  have x3 := S3.out.2.1.1
  have x4 := S3.out.2.1.2
  have ho3 := Ho3.out
  rw [← cellsB_append] at ho3
  obtain ⟨L, hL⟩ : ∃ L, L = be 1 mk ++ key := ⟨_, rfl⟩
  have hLl : L.length ≤ 100 := by have := Hkl.out; rw [hL]; simp [be_length]; omega
  rw [← hL] at ho3
  have HLL := Lib.hid hL
  obtain ⟨A9, c9, rfl⟩ := ho3.form
  rw [cellsB_length] at ho3 ⊢
  have hput := refPut_any A9 c9 L x 2 w3 w3.heap.size ho3.rd (Nat.le_refl _) (by omega) (by omega) (by omega) (by omega)
  obtain ⟨nl, hnl⟩ : ∃ x, x = L.length := ⟨_, rfl⟩
  rw [← hnl] at hput ⊢
  have HPut := Lib.hid hput
  clear ho3 hL hLl hput hnl Ho3
  go_wp2_with fail
  refine HPut.out.mono ?_
  rintro e w5 ⟨v5, rfl, hown5, hb5⟩
  go_wp2_with fail
  go_ret
  rw [HLL.out] at hown5
  exact ⟨_, rfl, hown5.weaken (HB0.out.trans (Hb3.out.mono (Nat.le_succ _))).size, up (HB0.out.trans (Hb3.out.mono (Nat.le_succ _))) hb5⟩
end Go.Proofs.Ytceefoopehoalaa
