/-
  The document's own Bytes of layer 7: contract.
-/
import Derived.Test.YtceefoopehoalaaNdRefE
namespace Go.Proofs.Ytceefoopehoalaa
open Go.RowKit
theorem rcell_any {n : Nd} {K V D : Value} {w : World} {B : Nat} (hr : NdIs w B K V D n) (hB : B ≤ w.heap.size) (hs : n.Snd) (i : Nat) (hi : i < n.keys.length) (hn : n.keys.length ≤ 1000000) :
    Calls Try.prog 44 #[ndVal n.leaf K V D, .int .i64 (i : Int)] w fun e w' => ∃ v, e = .returned v ∧ Mine w' w.heap.size 5 v (cellsB (n.cellParts i).flatten) ∧ Below w.heap.size w w' := by
  cases hl : n.leaf
  · exact rcell_not hr hB hs hl i hi hn
  · exact rcell_leaf hr hB hs hl i hi hn
theorem Nd.cellParts_len (n : Nd) (i : Nat) : (n.cellParts i).flatten.length = n.cell i := by
  unfold Nd.cellParts Nd.cell
  split <;> simp [be_length] <;> omega
theorem Nd.parts_next (n : Nd) (k : Nat) : (n.parts (k + 1)).flatten = (n.parts k).flatten ++ (n.cellParts k).flatten := by rw [Nd.parts, List.flatten_append]
set_option maxHeartbeats 1600000 in
theorem rbytes_loop {n : Nd} {K V D : Value} {w : World} {B : Nat} (hr : NdIs w B K V D n) (hB : B ≤ w.heap.size) (hs : n.Snd) (hk : n.keys.length ≤ 255) :
    Calls Try.prog 27 #[ndVal n.leaf K V D] w fun e w' => ∃ v, e = .returned v ∧ Mine w' w.heap.size 5 v (cellsB n.bytes) ∧ Below w.heap.size w w' := by
  obtain ⟨ti, hti, hz0, hz1, hz2⟩ := info_parts info_u8
  have hcell := fun (W : World) (hW : Below w.heap.size w W) (i : Nat) (hi : i < n.keys.length) => rcell_any (hr.below (hW.mono hB)) (Nat.le_trans hB hW.size) hs i hi (by omega)
  have hnext := n.parts_next
  have hsz := n.parts_size
  have hcl := fun k (h : k ≤ n.keys.length) => n.cells_le hs k h
  have hbytes : n.bytes = (n.parts n.keys.length).flatten := rfl
  have hpl := n.cellParts_len
  have hc1 := fun k (h : k < n.keys.length) => n.cell_le hs h
  obtain ⟨A1, c1, A2, c2, A3, c3, rfl, rfl, rfl⟩ := hr.form
  obtain ⟨lf, hlf⟩ : ∃ x, x = n.leaf := ⟨_, rfl⟩
  obtain ⟨a, ha⟩ : ∃ x, x = n.keys.length := ⟨_, rfl⟩
  have hkids : lf = false → ∃ (b3 o3 x : Nat), A3 = some ⟨b3, o3, none⟩ ∧ n.kids.length = a + 1 ∧ x < 1600 ∧ (n.parts 0).flatten = be 1 a ++ be 2 x ∧ ∀ W, Below w.heap.size w W → W.cell? ⟨b3, o3, none⟩ = some (.int .i64 (x : Int)) := fun h => by
    have hl : n.leaf = false := by rw [← hlf]; exact h
    have hd := (hs.ofNot hl).2.2
    obtain ⟨b3, o3, e3, _⟩ := hr.kids.addrI (by omega)
    subst e3
    obtain ⟨x, hx, hx2, hxc⟩ := hr.kids.laterI hs.kids (k := 0) (by omega)
    exact ⟨b3, o3, x, rfl, by rw [hd, ha], hx2, by unfold Nd.parts Nd.head; rw [if_neg (by simp [hl]), ← hx, ha]; simp, hxc⟩
  have hhead : lf = true → (n.parts 0).flatten = be 1 a := fun h => by unfold Nd.parts Nd.head; rw [if_pos (by rw [← hlf]; exact h), ha]; simp
  rw [← ha] at hk hcell hcl hbytes hc1 ⊢
  rw [← hlf] at hcell ⊢
  have hb0 : Below w.heap.size w (w.alloc (.cells #[.bool lf, .slice A1 a c1, .slice A2 n.vals.length c2, .slice A3 n.kids.length c3] 27)) := (Below.refl _ _).alloc (Nat.le_refl _) _
  have hbox := NdBox.made w lf (.slice A1 a c1) (.slice A2 n.vals.length c2) (.slice A3 n.kids.length c3)
  have hs0 : (w.alloc (.cells #[.bool lf, .slice A1 a c1, .slice A2 n.vals.length c2, .slice A3 n.kids.length c3] 27)).heap.size = w.heap.size + 1 := by simp
  obtain ⟨w1, hw1⟩ : ∃ x, x = w.alloc (.cells #[.bool lf, .slice A1 a c1, .slice A2 n.vals.length c2, .slice A3 n.kids.length c3] 27) := ⟨_, rfl⟩
  rw [← hw1] at hb0 hbox hs0
  have hb2 : Below (w.heap.size + 1) w1 (w1.alloc (.cells #[.int .u8 (a : Int)] 5)) := (Below.refl _ _).alloc (by omega) _
  have hmine := Mine.lit w1 (w.heap.size + 1) 5 #[.int .u8 (a : Int)] 1 (by omega) rfl (by unfold maxLen; simp)
  rw [be1_cells (show a < 256 by omega), hs0] at hmine
  have hbox2 := hbox.later (Nat.lt_succ_self _) hb2
  have hb3 := hb0.trans (hb2.mono (Nat.le_succ _))
  have HMi := Lib.hid hmine
  have HX2 := Lib.hid hbox2
  have HB3 := Lib.hid hb3
  have HC := Lib.hid hcell
  have HNx := Lib.hid hnext
  have HSz := Lib.hid hsz
  have HCl := Lib.hid hcl
  have HBy := Lib.hid hbytes
  have HPl := Lib.hid hpl
  have HC1 := Lib.hid hc1
  have HKd := Lib.hid hkids
  have HHd := Lib.hid hhead
  have HS0 := Lib.hid hs0
  have u1 : IntKind.u8.wrap (a : Int) = (a : Int) := IntWalk.u8_in _ (by omega)
  have m1 : (a : Int) % 256 = (a : Int) := by omega
  obtain ⟨x0, x1, x2, x3⟩ := hbox
  obtain ⟨y0, y1, y2, y3⟩ := hbox2
  clear hr hB hs hcell hnext hsz hcl hbytes hpl hc1 hkids hhead hlf ha hb0 hs0 hb2 hmine hb3
  subst hw1
  cases lf
  · obtain ⟨b3, o3, x, rfl, hdl, hx2, hp0, hxc⟩ := HKd.out rfl
    rw [hdl] at x3 y3 HX2 HC HB3 HMi HS0 x0 x1 x2 y0 y1 y2 ⊢
    have hx := hxc _ HB3.out
    have u2 : IntKind.u64.wrap (x : Int) = (x : Int) := IntWalk.u64_in _ (by omega)
    have hput := refPut_any (some ⟨w.heap.size + 1, 0, none⟩) 1 (be 1 a) x 2 _ _ (HMi.out.rd) (Nat.le_refl _) (by simp [be_length]) (by omega) (by omega) (by omega)
    rw [be_length] at hput
    have HPut := Lib.hid hput
    have HP0 := Lib.hid hp0
    clear hput hp0 hxc hdl HKd HHd
    go_enter Try.func27, Try.ntmps27
    go_wp2_with fail
    refine HPut.out.mono ?_
    rintro e w5 ⟨v5, rfl, hown5, hb5⟩
    have HO5 := Lib.hid hown5
    have HB5 := Lib.hid (up HB3.out hb5)
    have HX5 := Lib.hid (HX2.out.later HX2.out.lt hb5)
    clear hown5 hb5 x0 x1 x2 x3 y0 y1 y2 y3 hx
    go_wp2_with fail
    go_loopw [3, 4] (fun bv iv wr => ∃ k : Nat, k ≤ a ∧ iv = .int .i64 (k : Int) ∧ Hid (Mine wr (w.heap.size + 1) 5 bv (cellsB (n.parts k).flatten) ∧ NdBox wr w.heap.size false (.slice A1 a c1) (.slice A2 n.vals.length c2) (.slice (some ⟨b3, o3, none⟩) (a + 1) c3) ∧ Below w.heap.size w wr)) (fun _ iv _ => a - (intOf iv).toNat)
    case atStart => exact ⟨0, Nat.zero_le _, rfl, Lib.hid ⟨by rw [HP0.out]; exact HO5.out.weaken (by simp), HX5.out, HB5.out⟩⟩
    case round =>
      obtain ⟨k, hk1, rfl, HI⟩ := hrel
      by_cases hlt : k < a
      · obtain ⟨x0, x1, x2, x3⟩ := HI.out.2.1
        have hcc := HC.out wr HI.out.2.2 k hlt
        have hl1 := HSz.out k
        have hl2 := HCl.out k hk1
        have hl3 := HPl.out k
        have hl4 := HC1.out k hlt
        have hnx := HNx.out k
        have hM := HI.out.1
        obtain ⟨P, hP⟩ : ∃ P, P = (n.parts k).flatten := ⟨_, rfl⟩
        obtain ⟨Q, hQ⟩ : ∃ P, P = (n.cellParts k).flatten := ⟨_, rfl⟩
        rw [← hP] at hl1 hnx hM
        rw [← hQ] at hl3 hnx hcc
        have hPl : P.length ≤ 20000 := by rw [hl1]; split <;> omega
        have hQl : Q.length ≤ 50 := by omega
        have HPl2 := Lib.hid hPl
        have HQl := Lib.hid hQl
        have HM := Lib.hid hM
        have HCC := Lib.hid hcc
        have HNn := Lib.hid hnx
        have HXX := Lib.hid HI.out.2
        clear hcc hl1 hl2 hl3 hl4 hnx hM hP hQ hPl hQl HI
        go_wp2_with (first
          | (go_at_call 44; refine HCC.out.mono ?_; rintro e w5 ⟨v5, rfl, hown5, hb5⟩; have Ho5 := Lib.hid hown5.rd; have Hm5 := Lib.hid (HM.out.kept hb5); have Hb5 := Lib.hid hb5; clear hown5 hb5)
          | (at_builtin; refine wpList_append_rd rfl (.tmp 27) (.tmp 30) 22 rfl (w.heap.size + 1) 5 ti _ 1 Try.underlying22 hti hz0 hz1 hz2 rfl u3 (cellsB P) rfl Hm5.out _ _ (cellsB Q) rfl Ho5.out (cellsB_one _) (by have := HPl2.out; have := HQl.out; rw [cellsB_length, cellsB_length]; omega) (by have := HPl2.out; have := HQl.out; unfold maxLen; rw [cellsB_length, cellsB_length]; omega) (by have := HXX.out.1.lt; have := Hb5.out.size; omega) ?_; intro v6 w6 ho6 hb6 _ _))
        go_roundw
        case rel =>
          refine ⟨k + 1, by omega, by go_num, Lib.hid ⟨?_, (HXX.out.1.later HXX.out.1.lt Hb5.out).later (Nat.lt_succ_self _) hb6, (up HXX.out.2 Hb5.out).trans (hb6.mono (Nat.le_succ _))⟩⟩
          rw [HNn.out, cellsB_append]
          exact ho6
        case measure => simp [intOf]; omega
      · have h5 : a ≤ k := by omega
        have Hk := Lib.hid (show k = a by omega)
        obtain ⟨x0, x1, x2, x3⟩ := HI.out.2.1
        clear hlt
        go_wp2_with fail
        go_ret
        refine ⟨_, rfl, ?_, HI.out.2.2⟩
        rw [HBy.out, ← Hk.out]
        exact HI.out.1.weaken (Nat.le_succ _)
  · have HP0 := Lib.hid (HHd.out rfl)
    clear HKd HHd
    go_enter Try.func27, Try.ntmps27
    go_wp2_with fail
    clear x0 x1 x2 x3 y0 y1 y2 y3
    go_loopw [3, 4] (fun bv iv wr => ∃ k : Nat, k ≤ a ∧ iv = .int .i64 (k : Int) ∧ Hid (Mine wr (w.heap.size + 1) 5 bv (cellsB (n.parts k).flatten) ∧ NdBox wr w.heap.size true (.slice A1 a c1) (.slice A2 n.vals.length c2) (.slice A3 n.kids.length c3) ∧ Below w.heap.size w wr)) (fun _ iv _ => a - (intOf iv).toNat)
    case atStart => exact ⟨0, Nat.zero_le _, rfl, Lib.hid ⟨by rw [HP0.out]; exact HMi.out, HX2.out, HB3.out⟩⟩
    case round =>
      obtain ⟨k, hk1, rfl, HI⟩ := hrel
      by_cases hlt : k < a
      · obtain ⟨x0, x1, x2, x3⟩ := HI.out.2.1
        have hcc := HC.out wr HI.out.2.2 k hlt
        have hl1 := HSz.out k
        have hl2 := HCl.out k hk1
        have hl3 := HPl.out k
        have hl4 := HC1.out k hlt
        have hnx := HNx.out k
        have hM := HI.out.1
        obtain ⟨P, hP⟩ : ∃ P, P = (n.parts k).flatten := ⟨_, rfl⟩
        obtain ⟨Q, hQ⟩ : ∃ P, P = (n.cellParts k).flatten := ⟨_, rfl⟩
        rw [← hP] at hl1 hnx hM
        rw [← hQ] at hl3 hnx hcc
        have hPl : P.length ≤ 20000 := by rw [hl1]; split <;> omega
        have hQl : Q.length ≤ 50 := by omega
        have HPl2 := Lib.hid hPl
        have HQl := Lib.hid hQl
        have HM := Lib.hid hM
        have HCC := Lib.hid hcc
        have HNn := Lib.hid hnx
        have HXX := Lib.hid HI.out.2
        clear hcc hl1 hl2 hl3 hl4 hnx hM hP hQ hPl hQl HI
        go_wp2_with (first
          | (go_at_call 44; refine HCC.out.mono ?_; rintro e w5 ⟨v5, rfl, hown5, hb5⟩; have Ho5 := Lib.hid hown5.rd; have Hm5 := Lib.hid (HM.out.kept hb5); have Hb5 := Lib.hid hb5; clear hown5 hb5)
          | (at_builtin; refine wpList_append_rd rfl (.tmp 27) (.tmp 30) 22 rfl (w.heap.size + 1) 5 ti _ 1 Try.underlying22 hti hz0 hz1 hz2 rfl u3 (cellsB P) rfl Hm5.out _ _ (cellsB Q) rfl Ho5.out (cellsB_one _) (by have := HPl2.out; have := HQl.out; rw [cellsB_length, cellsB_length]; omega) (by have := HPl2.out; have := HQl.out; unfold maxLen; rw [cellsB_length, cellsB_length]; omega) (by have := HXX.out.1.lt; have := Hb5.out.size; omega) ?_; intro v6 w6 ho6 hb6 _ _))
        go_roundw
        case rel =>
          refine ⟨k + 1, by omega, by go_num, Lib.hid ⟨?_, (HXX.out.1.later HXX.out.1.lt Hb5.out).later (Nat.lt_succ_self _) hb6, (up HXX.out.2 Hb5.out).trans (hb6.mono (Nat.le_succ _))⟩⟩
          rw [HNn.out, cellsB_append]
          exact ho6
        case measure => simp [intOf]; omega
      · have h5 : a ≤ k := by omega
        have Hk := Lib.hid (show k = a by omega)
        obtain ⟨x0, x1, x2, x3⟩ := HI.out.2.1
        clear hlt
        go_wp2_with fail
        go_ret
        refine ⟨_, rfl, ?_, HI.out.2.2⟩
        rw [HBy.out, ← Hk.out]
        exact HI.out.1.weaken (Nat.le_succ _)
end Go.Proofs.Ytceefoopehoalaa
