/-
  The walk of HashByte.
-/
import Derived.Test.YtcandokefhbneaaHaLives
import Derived.Test.YtcandokefhbneaaMineSet
import Derived.Test.YtcandokefhbneaaStored
import Derived.Test.YtcandokefhbneaaNumC
import Derived.Test.YtcandokefhbneaaCuts
import Derived.StillTailTactics
namespace Go.Proofs.Ytcandokefhbneaa
open Go.RowKit
theorem haOne_at (seed : Nat) (hs : seed < 18446744073709551616) (s : Nat) {l : List UInt8} (h0 : s = haSum seed l) {cur : World} {a : Value} (h : Rd cur cur.heap.size a (cellsB l)) : ∀ W, Below (cur.alloc (.cells #[a] 23)).heap.size (cur.alloc (.cells #[a] 23)) W → Calls Try.prog 8 #[.int .u64 (seed : Int), .slice (some ⟨cur.heap.size, 0, none⟩) 1 1] W fun e w' => e = .returned (.int .u64 (s : Int)) ∧ Below W.heap.size W w' := fun W hW => by
  have h2 := haParts_any seed _ _ _ _ _ _ hs ((RdAll.lit1 cur 23 a l h).below (hW.mono (by simp)))
  rw [show [l].flatten = l by simp, ← h0] at h2
  exact h2.mono fun e w' h => ⟨h.1, h.2 ▸ Below.refl _ _⟩
theorem haU8_add (x y : UInt8) : ((x.toNat : Int) + (y.toNat : Int)) % 256 = ((x + y).toNat : Int) := by
  rw [UInt8.toNat_add]
  omega
theorem haByte_eq {seed : Nat} (hs : seed < 18446744073709551616) (l : List UInt8) (k : Nat) (x y : UInt8) (hk : k < l.length) (hx : x = l[k]) : ((haSum seed l : Int) == (haSum seed (l.set k (x + y)) : Int)) = decide (y = 0) := by
  have h := haSum_set hs l k (x + y) hk
  rw [List.getD_eq_getElem?_getD, List.getElem?_eq_getElem hk, Option.getD_some, ← hx] at h
  have h2 : x = x + y ↔ y = 0 := by
    constructor
    · intro e
      have e2 : x + 0 = x + y := by rw [UInt8.add_zero]; exact e
      exact (UInt8.add_right_inj _ |>.1 e2).symm
    · intro e
      rw [e, UInt8.add_zero]
  rw [Bool.eq_iff_iff, beq_iff_eq, decide_eq_true_iff, ← h2, ← h]
  omega
theorem haZero_eq (y : UInt8) : ((y.toNat : Int) == 0) = decide (y = 0) := by
  rw [Bool.eq_iff_iff, beq_iff_eq, decide_eq_true_iff, ← UInt8.toNat_inj]
  simp
set_option maxRecDepth 100000 in
set_option maxHeartbeats 1000000 in
theorem hashByte_walk (n : Int) (v : Value) (l : List UInt8) (ds : List UInt8) (w : World) (wn : (Lit.int .u64 n).wf = true) (h : Rd w w.heap.size v (cellsB l)) (hd : ds.length = 2) :
    Calls Try.prog 6 #[.int .u64 n, v, .agg (cellsB ds).toArray] w fun e w' => e = .returned (.bool true) ∧ Below w.heap.size w w' := by
  have hb : 0 ≤ n ∧ n ≤ 18446744073709551615 := by simpa [Lit.wf, IntKind.min, IntKind.max, IntKind.bits, IntKind.signed] using wn
  obtain ⟨seed, rfl⟩ := Int.eq_ofNat_of_zero_le hb.1
  have hseed : seed < 18446744073709551616 := by omega
  have HS := Kept.mk hseed
  clear hb wn hseed
  obtain ⟨a, y, rfl⟩ : ∃ a y, ds = [a, y] := by
    match ds, hd with
    | [a, y], _ => exact ⟨a, y, rfl⟩
  clear hd
  obtain ⟨i, hi, hz0, hz1, hz2⟩ := info_parts info_u8
  obtain ⟨A, c, rfl, _, _, h⟩ := h.bytes
  obtain ⟨W, hW⟩ : ∃ W, W = w.alloc (.cells (cellsB [a, y]).toArray 41) := ⟨_, rfl⟩
  have hbel0 : Below w.heap.size w W := hW ▸ (Below.refl _ _).alloc (Nat.le_refl _) _
  have hat : W.heap[w.heap.size]? = some (.cells (cellsB [a, y]).toArray 41 (0, 0)) := by rw [hW]; exact heap_alloc_last w _
  have hlt : w.heap.size < W.heap.size := by rw [hW]; simp
  have hF : Hid (∀ V, Below W.heap.size W V → V.cell? ⟨w.heap.size, 0, none⟩ = some (.int .u8 (a.toNat : Int)) ∧ V.cell? ⟨w.heap.size, 1, none⟩ = some (.int .u8 (y.toNat : Int))) := Lib.hid fun V hV => by
    have c0 := (hV.block _ hlt).trans hat
    exact ⟨by rw [cell_of_row V _ 0 _ _ _ c0]; rfl, by rw [cell_of_row V _ 1 _ _ _ c0]; rfl⟩
  obtain ⟨m, hm, hfew⟩ := few_cut 60 _ l W _ (h.below hbel0) hbel0.size (by omega)
  have HW := Lib.hid hW
  have Hfew := Lib.hid hfew
  have H0 := Lib.hid hbel0
  clear hfew hbel0 hat h
  generalize hCC : (cellsB [a, y]).toArray = CC at *
  clear hCC
  by_cases hm0 : m.length = 0
  · have hz : ((m.length : Int) == 0) = true := by rw [hm0]; rfl
    clear hm0 hW
    go_enter Try.func6, Try.ntmps6
    go_wp2_with fail
    rw [← HW.out]
    refine Hfew.out.mono ?_
    rintro e w1 ⟨A1, c1, rfl, g1, hr1, hbel1⟩
    have H1 := Lib.hid (up H0.out hbel1)
    clear hbel1 hr1 g1 Hfew
    go_wp2_with fail
    refine (lives18_any _).mono ?_
    rintro e w2 ⟨rfl, hbel2⟩
    have H2 := Lib.hid (up H1.out hbel2)
    clear hbel2
    go_wp2_with fail
    go_ret
    exact ⟨rfl, H2.out⟩
  · have hz : ((m.length : Int) == 0) = false := beq_zero hm0
    obtain ⟨k, hk⟩ : ∃ k : Nat, k = a.toNat % m.length := ⟨_, rfl⟩
    have hkm : k < m.length := by rw [hk]; exact Nat.mod_lt _ (by omega)
    have hk' : (a.toNat : Int).tmod (m.length : Int) = (k : Int) := by rw [Int.tmod_eq_emod_of_nonneg (by omega), hk]; rfl
    have hal := a.toNat_lt
    have hkw : Hid (wrap64 (a.toNat : Int) = (a.toNat : Int)) := Lib.hid (IntWalk.wrap64_in _ (by omega))
    have haw : IntKind.i64.wrap (a.toNat : Int) = (a.toNat : Int) := IntWalk.i64_in _ (by omega)
    have h1 : 1 ≤ m.length := by omega
    clear hal hk
    go_enter Try.func6, Try.ntmps6
    go_wp2_with fail
    rw [← HW.out]
    refine Hfew.out.mono ?_
    rintro e w1 ⟨A1, c1, rfl, g1, hr1, hbel1⟩
    have HB1 := Lib.hid hbel1
    have hfr := (hF.out _ hbel1).1
    clear hbel1 Hfew hm0 hW
    replace hkw := hkw.out
    go_wp2_with (first
      | (at_builtin; refine wpList_append_rd rfl _ _ 23 rfl w1.heap.size 5 i _ 1 Try.underlying23 hi hz0 hz1 hz2 rfl _ [] rfl (Mine.empty w1 _ 5 (Nat.le_refl _)) _ _ _ rfl (hr1.alloc (Nat.le_refl _) _) (cellsB_one _) (by rw [cellsB_length]; simp; omega) (by unfold maxLen; rw [cellsB_length]; simp; omega) (by simp) ?_; intro v2 w2 hown2 hbel2 _ _; rw [List.nil_append] at hown2; obtain ⟨g, c2, rfl, hc2, _⟩ := hown2.addr (by omega); have hb2 : Below w1.heap.size w1 w2 := ((Below.refl _ _).alloc (Nat.le_refl _) _).trans hbel2; have c0 := (hF.out _ (HB1.out.trans (hb2.mono HB1.out.size))).1; clear hbel2))
    obtain ⟨x, hx⟩ : ∃ x, x = m[k] := ⟨_, rfl⟩
    obtain ⟨d, hdd⟩ : ∃ d, d = decide (y = 0) := ⟨_, rfl⟩
    have hcx := hown2.cellAt (j := k) (u := .int .u8 (x.toNat : Int)) (by rw [cellsB_at _ _ hkm, hx])
    have hfz := hown2.free k
    have HB2 : Hid (Below W.heap.size W w2) := Lib.hid (HB1.out.trans (hb2.mono HB1.out.size))
    have c1y := (hF.out _ HB2.out).2
    have hown3 := (hown2.stored k (.int .u8 (((x.toNat : Int) + (y.toNat : Int)) % 256))).drew
    rw [haU8_add, cellsB_set, ← haU8_add] at hown3
    have hgs := hown2.lt
    have hb3 : Below w1.heap.size w1 (w2.setCell ⟨g, k, none⟩ (.int .u8 (((x.toNat : Int) + (y.toNat : Int)) % 256))).drew := (hb2.setCell (p := ⟨g, k, none⟩) hgs.1 _).drew
    obtain ⟨s1, hs1⟩ : ∃ s, s = haSum seed m := ⟨_, rfl⟩
    obtain ⟨s2, hs2⟩ : ∃ s, s = haSum seed (m.set k (x + y)) := ⟨_, rfl⟩
    have e1 : ((s1 : Int) == (s2 : Int)) = d := by rw [hs1, hs2, hdd]; exact haByte_eq HS.out m k x y hkm hx
    have e2 : ((y.toNat : Int) == 0) = d := by rw [hdd]; exact haZero_eq y
    have HE := Lib.hid (And.intro e1 e2)
    have HH := Lib.hid (And.intro hown3 hb3)
    have HR1 := Lib.hid hr1
    replace hs1 := Lib.hid hs1
    replace hs2 := Lib.hid hs2
    clear hx hdd hown3 hb3 hown2 hgs hb2 c0 hr1 e1 e2 hfr hkw hk' haw hz
    have k1 : (k : Int) < (m.length : Int) := by omega
    have k2 : (0 : Int) ≤ (k : Int) := by omega
    have k3 : (k : Int).toNat = k := rfl
    go_still_tail 10, (by kernel_rfl)
    change wpList _ _ _ _ _ w2.drew
    go_wp2_with fail
    obtain ⟨Y, hY⟩ : ∃ Y, Y = (w2.setCell ⟨g, k, none⟩ (.int .u8 (((x.toNat : Int) + (y.toNat : Int)) % 256))).drew := ⟨_, rfl⟩
    rw [IntKind.wrap_u8', ← hY]
    rw [← hY] at HH
    have HM : Hid (Rd Y.drew Y.drew.heap.size (.slice A1 m.length c1) (cellsB m)) := Lib.hid ((HR1.out.below HH.out.2).more HH.out.2.size).drew
    have HC : Hid (Rd Y.drew Y.drew.heap.size (.slice (some ⟨g, 0, none⟩) m.length c2) (cellsB (m.set k (x + y)))) := Lib.hid HH.out.1.rd.drew
    have hYW : Below W.heap.size W Y := HB1.out.trans (HH.out.2.mono HB1.out.size)
    have hYb : Hid (Below w.heap.size w Y) := Lib.hid (up H0.out hYW)
    replace hF : Hid (∀ V, Below Y.heap.size Y V → V.cell? ⟨w.heap.size, 1, none⟩ = some (.int .u8 (y.toNat : Int))) := Lib.hid fun V hV => (hF.out V (up hYW hV)).2
    have HBL : Hid (Below Y.heap.size Y Y.drew) := Lib.hid (Below.refl _ _).drew
    obtain ⟨e1, e2⟩ := HE.out
    clear hY HH HR1 HB1 HB2 H0 HW hYW HE hcx hfz c1y k1 k2 k3
    refine wp_region_held_drew (S := fun w' => w'.cell? ⟨w.heap.size, 1, none⟩ = some (.int .u8 (y.toNat : Int))) (by kernel_rfl) (hF.out _ HBL.out) (fun hHeld => ?_)
    refine th 0 ?_
    go_frame
    refine th 1 ?_
    go_frame
    refine th 4 ?_
    go_frame
    refine th 5 ?_
    go_frame
    refine th 9 ?_
    go_frame
    refine th 10 (v := .int .u8 (y.toNat : Int)) ?_ (hy := fun wy hSw => by (go_simp <;> with_reducible rfl))
    go_frame
    refine th 11 (v := .bool d) ?_ (hy := fun wy hSw => by (go_simp <;> first | with_reducible rfl | simp))
    go_frame
    refine wpAnyH_ready (rs := [2, 6]) (by kernel_rfl) (by simp) (AllReadyH.cons (o := ⟨some 36, .buildSlice 43 1 #[(0, .tmp 35)], _, _, _, none⟩) rfl (fun K hK => ?_) (AllReadyH.cons (o := ⟨some 40, .buildSlice 43 1 #[(0, .tmp 39)], _, _, _, none⟩) rfl (fun K hK => ?_) AllReadyH.nil))
    · rw [if_pos (by kernel_rfl)]
      go_simp
      rw [show (Y.alloc (.cells #[.slice A1 m.length c1] 23)).drew = Y.drew.alloc (.cells #[.slice A1 m.length c1] 23) from rfl]
      have hb := up_alloc (Below.refl Y.drew.heap.size Y.drew) (.cells #[.slice A1 m.length c1] 23)
      have hr := haOne_at seed HS.out s1 hs1.out HM.out
      generalize Y.drew.alloc (.cells #[.slice A1 m.length c1] 23) = ws1 at hb hr ⊢
      replace HM := Lib.hid ((HM.out.below hb).more hb.size)
      replace HC := Lib.hid ((HC.out.below hb).more hb.size)
      replace HBL := Lib.hid (up HBL.out hb)
      have HA := Lib.hid hr
      clear hb hr
      refine hK.out _ _ (hF.out _ HBL.out) (fun _ => ?_)
      clear hK K
      try go_frame
      refine wpAnyH_ready (rs := [3, 6]) (by kernel_rfl) (by simp) (AllReadyH.cons (o := ⟨some 37, .call { callee := .value (.func 8), args := #[.tmp 34, .tmp 36], argTypes := #[22, 43] }, _, _, _, none⟩) rfl (fun K hK => ?_) (AllReadyH.cons (o := ⟨some 40, .buildSlice 43 1 #[(0, .tmp 39)], _, _, _, none⟩) rfl (fun K hK => ?_) AllReadyH.nil))
      · rw [if_pos (by kernel_rfl)]
        go_simp
        refine (HA.out _ (Below.refl _ _)).mono ?_
        rintro _ ws2 ⟨rfl, hb⟩
        replace HM := Lib.hid ((HM.out.below hb).more hb.size)
        replace HC := Lib.hid ((HC.out.below hb).more hb.size)
        replace HA := Lib.hid (fun W hW => HA.out W (up hb hW))
        replace HBL := Lib.hid (up HBL.out hb)
        clear hb
        dsimp only
        refine hK.out _ _ (hF.out _ HBL.out) (fun _ => ?_)
        clear hK K
        try go_frame
        refine wpAnyH_ready (rs := [6]) (by kernel_rfl) (by simp) (AllReadyH.cons (o := ⟨some 40, .buildSlice 43 1 #[(0, .tmp 39)], _, _, _, none⟩) rfl (fun K hK => ?_) AllReadyH.nil)
        rw [if_pos (by kernel_rfl)]
        go_simp
        have hb := up_alloc (Below.refl ws2.heap.size ws2) (.cells #[.slice (some ⟨g, 0, none⟩) m.length c2] 23)
        have hr := haOne_at seed HS.out s2 hs2.out HC.out
        generalize ws2.alloc (.cells #[.slice (some ⟨g, 0, none⟩) m.length c2] 23) = ws3 at hb hr ⊢
        replace HM := Lib.hid ((HM.out.below hb).more hb.size)
        replace HC := Lib.hid ((HC.out.below hb).more hb.size)
        replace HA := Lib.hid (fun W hW => HA.out W (up hb hW))
        replace HBL := Lib.hid (up HBL.out hb)
        have HD := Lib.hid hr
        clear hb hr
        refine hK.out _ _ (hF.out _ HBL.out) (fun _ => ?_)
        clear hK K
        try go_frame
        refine wpAnyH_ready (rs := [7]) (by kernel_rfl) (by simp) (AllReadyH.cons (o := ⟨some 41, .call { callee := .value (.func 8), args := #[.tmp 38, .tmp 40], argTypes := #[22, 43] }, _, _, _, none⟩) rfl (fun K hK => ?_) AllReadyH.nil)
        rw [if_pos (by kernel_rfl)]
        go_simp
        refine (HD.out _ (Below.refl _ _)).mono ?_
        rintro _ ws4 ⟨rfl, hb⟩
        replace HM := Lib.hid ((HM.out.below hb).more hb.size)
        replace HC := Lib.hid ((HC.out.below hb).more hb.size)
        replace HA := Lib.hid (fun W hW => HA.out W (up hb hW))
        replace HD := Lib.hid (fun W hW => HD.out W (up hb hW))
        replace HBL := Lib.hid (up HBL.out hb)
        clear hb
        dsimp only
        refine hK.out _ _ (hF.out _ HBL.out) (fun _ => ?_)
        clear hK K
        try go_frame
        refine th 8 (v := .bool d) ?_ (hy := fun wy hSw => by (go_simp <;> first | with_reducible rfl | simp))
        go_frame
        refine th 12 (v := .bool true) ?_ (hy := fun wy hSw => by (go_simp <;> first | with_reducible rfl | simp))
        go_frame
        refine th 13 (v := .bool true) ?_ (hy := fun wy hSw => by (go_simp <;> first | with_reducible rfl | simp))
        go_frame
        refine wpAnyH_ready (rs := [14]) (by kernel_rfl) (by simp) (AllReadyH.cons (o := ⟨some 48, .call { callee := .value (.func 10), args := #[], argTypes := #[] }, _, _, _, some (13, true)⟩) rfl (fun K hK => ?_) AllReadyH.nil)
        rw [if_pos (by kernel_rfl)]
        go_simp
        refine (lives18_any _).mono ?_
        rintro _ ws5 ⟨rfl, hb⟩
        replace HM := Lib.hid ((HM.out.below hb).more hb.size)
        replace HC := Lib.hid ((HC.out.below hb).more hb.size)
        replace HA := Lib.hid (fun W hW => HA.out W (up hb hW))
        replace HD := Lib.hid (fun W hW => HD.out W (up hb hW))
        replace HBL := Lib.hid (up HBL.out hb)
        clear hb
        dsimp only
        refine hK.out _ _ (hF.out _ HBL.out) (fun _ => ?_)
        clear hK K
        try go_frame
        refine th 15 ?_
        go_frame
        refine th 16 ?_
        go_frame
        refine wpAnyH_done (by kernel_rfl) ?_ _
        go_wp2_with fail
        go_ret
        exact ⟨rfl, hYb.out.trans (HBL.out.mono hYb.out.size)⟩
      · rw [if_pos (by kernel_rfl)]
        go_simp
        have hb := up_alloc (Below.refl ws1.heap.size ws1) (.cells #[.slice (some ⟨g, 0, none⟩) m.length c2] 23)
        have hr := haOne_at seed HS.out s2 hs2.out HC.out
        generalize ws1.alloc (.cells #[.slice (some ⟨g, 0, none⟩) m.length c2] 23) = ws2 at hb hr ⊢
        replace HM := Lib.hid ((HM.out.below hb).more hb.size)
        replace HC := Lib.hid ((HC.out.below hb).more hb.size)
        replace HA := Lib.hid (fun W hW => HA.out W (up hb hW))
        replace HBL := Lib.hid (up HBL.out hb)
        have HD := Lib.hid hr
        clear hb hr
        refine hK.out _ _ (hF.out _ HBL.out) (fun _ => ?_)
        clear hK K
        try go_frame
        refine wpAnyH_ready (rs := [3]) (by kernel_rfl) (by simp) (AllReadyH.cons (o := ⟨some 37, .call { callee := .value (.func 8), args := #[.tmp 34, .tmp 36], argTypes := #[22, 43] }, _, _, _, none⟩) rfl (fun K hK => ?_) AllReadyH.nil)
        rw [if_pos (by kernel_rfl)]
        go_simp
        refine (HA.out _ (Below.refl _ _)).mono ?_
        rintro _ ws3 ⟨rfl, hb⟩
        replace HM := Lib.hid ((HM.out.below hb).more hb.size)
        replace HC := Lib.hid ((HC.out.below hb).more hb.size)
        replace HA := Lib.hid (fun W hW => HA.out W (up hb hW))
        replace HD := Lib.hid (fun W hW => HD.out W (up hb hW))
        replace HBL := Lib.hid (up HBL.out hb)
        clear hb
        dsimp only
        refine hK.out _ _ (hF.out _ HBL.out) (fun _ => ?_)
        clear hK K
        try go_frame
        refine wpAnyH_ready (rs := [7]) (by kernel_rfl) (by simp) (AllReadyH.cons (o := ⟨some 41, .call { callee := .value (.func 8), args := #[.tmp 38, .tmp 40], argTypes := #[22, 43] }, _, _, _, none⟩) rfl (fun K hK => ?_) AllReadyH.nil)
        rw [if_pos (by kernel_rfl)]
        go_simp
        refine (HD.out _ (Below.refl _ _)).mono ?_
        rintro _ ws4 ⟨rfl, hb⟩
        replace HM := Lib.hid ((HM.out.below hb).more hb.size)
        replace HC := Lib.hid ((HC.out.below hb).more hb.size)
        replace HA := Lib.hid (fun W hW => HA.out W (up hb hW))
        replace HD := Lib.hid (fun W hW => HD.out W (up hb hW))
        replace HBL := Lib.hid (up HBL.out hb)
        clear hb
        dsimp only
        refine hK.out _ _ (hF.out _ HBL.out) (fun _ => ?_)
        clear hK K
        try go_frame
        refine th 8 (v := .bool d) ?_ (hy := fun wy hSw => by (go_simp <;> first | with_reducible rfl | simp))
        go_frame
        refine th 12 (v := .bool true) ?_ (hy := fun wy hSw => by (go_simp <;> first | with_reducible rfl | simp))
        go_frame
        refine th 13 (v := .bool true) ?_ (hy := fun wy hSw => by (go_simp <;> first | with_reducible rfl | simp))
        go_frame
        refine wpAnyH_ready (rs := [14]) (by kernel_rfl) (by simp) (AllReadyH.cons (o := ⟨some 48, .call { callee := .value (.func 10), args := #[], argTypes := #[] }, _, _, _, some (13, true)⟩) rfl (fun K hK => ?_) AllReadyH.nil)
        rw [if_pos (by kernel_rfl)]
        go_simp
        refine (lives18_any _).mono ?_
        rintro _ ws5 ⟨rfl, hb⟩
        replace HM := Lib.hid ((HM.out.below hb).more hb.size)
        replace HC := Lib.hid ((HC.out.below hb).more hb.size)
        replace HA := Lib.hid (fun W hW => HA.out W (up hb hW))
        replace HD := Lib.hid (fun W hW => HD.out W (up hb hW))
        replace HBL := Lib.hid (up HBL.out hb)
        clear hb
        dsimp only
        refine hK.out _ _ (hF.out _ HBL.out) (fun _ => ?_)
        clear hK K
        try go_frame
        refine th 15 ?_
        go_frame
        refine th 16 ?_
        go_frame
        refine wpAnyH_done (by kernel_rfl) ?_ _
        go_wp2_with fail
        go_ret
        exact ⟨rfl, hYb.out.trans (HBL.out.mono hYb.out.size)⟩
    · rw [if_pos (by kernel_rfl)]
      go_simp
      rw [show (Y.alloc (.cells #[.slice (some ⟨g, 0, none⟩) m.length c2] 23)).drew = Y.drew.alloc (.cells #[.slice (some ⟨g, 0, none⟩) m.length c2] 23) from rfl]
      have hb := up_alloc (Below.refl Y.drew.heap.size Y.drew) (.cells #[.slice (some ⟨g, 0, none⟩) m.length c2] 23)
      have hr := haOne_at seed HS.out s2 hs2.out HC.out
      generalize Y.drew.alloc (.cells #[.slice (some ⟨g, 0, none⟩) m.length c2] 23) = ws1 at hb hr ⊢
      replace HM := Lib.hid ((HM.out.below hb).more hb.size)
      replace HC := Lib.hid ((HC.out.below hb).more hb.size)
      replace HBL := Lib.hid (up HBL.out hb)
      have HD := Lib.hid hr
      clear hb hr
      refine hK.out _ _ (hF.out _ HBL.out) (fun _ => ?_)
      clear hK K
      try go_frame
      refine wpAnyH_ready (rs := [2]) (by kernel_rfl) (by simp) (AllReadyH.cons (o := ⟨some 36, .buildSlice 43 1 #[(0, .tmp 35)], _, _, _, none⟩) rfl (fun K hK => ?_) AllReadyH.nil)
      rw [if_pos (by kernel_rfl)]
      go_simp
      have hb := up_alloc (Below.refl ws1.heap.size ws1) (.cells #[.slice A1 m.length c1] 23)
      have hr := haOne_at seed HS.out s1 hs1.out HM.out
      generalize ws1.alloc (.cells #[.slice A1 m.length c1] 23) = ws2 at hb hr ⊢
      replace HM := Lib.hid ((HM.out.below hb).more hb.size)
      replace HC := Lib.hid ((HC.out.below hb).more hb.size)
      replace HD := Lib.hid (fun W hW => HD.out W (up hb hW))
      replace HBL := Lib.hid (up HBL.out hb)
      have HA := Lib.hid hr
      clear hb hr
      refine hK.out _ _ (hF.out _ HBL.out) (fun _ => ?_)
      clear hK K
      try go_frame
      refine wpAnyH_ready (rs := [3]) (by kernel_rfl) (by simp) (AllReadyH.cons (o := ⟨some 37, .call { callee := .value (.func 8), args := #[.tmp 34, .tmp 36], argTypes := #[22, 43] }, _, _, _, none⟩) rfl (fun K hK => ?_) AllReadyH.nil)
      rw [if_pos (by kernel_rfl)]
      go_simp
      refine (HA.out _ (Below.refl _ _)).mono ?_
      rintro _ ws3 ⟨rfl, hb⟩
      replace HM := Lib.hid ((HM.out.below hb).more hb.size)
      replace HC := Lib.hid ((HC.out.below hb).more hb.size)
      replace HD := Lib.hid (fun W hW => HD.out W (up hb hW))
      replace HA := Lib.hid (fun W hW => HA.out W (up hb hW))
      replace HBL := Lib.hid (up HBL.out hb)
      clear hb
      dsimp only
      refine hK.out _ _ (hF.out _ HBL.out) (fun _ => ?_)
      clear hK K
      try go_frame
      refine wpAnyH_ready (rs := [7]) (by kernel_rfl) (by simp) (AllReadyH.cons (o := ⟨some 41, .call { callee := .value (.func 8), args := #[.tmp 38, .tmp 40], argTypes := #[22, 43] }, _, _, _, none⟩) rfl (fun K hK => ?_) AllReadyH.nil)
      rw [if_pos (by kernel_rfl)]
      go_simp
      refine (HD.out _ (Below.refl _ _)).mono ?_
      rintro _ ws4 ⟨rfl, hb⟩
      replace HM := Lib.hid ((HM.out.below hb).more hb.size)
      replace HC := Lib.hid ((HC.out.below hb).more hb.size)
      replace HD := Lib.hid (fun W hW => HD.out W (up hb hW))
      replace HA := Lib.hid (fun W hW => HA.out W (up hb hW))
      replace HBL := Lib.hid (up HBL.out hb)
      clear hb
      dsimp only
      refine hK.out _ _ (hF.out _ HBL.out) (fun _ => ?_)
      clear hK K
      try go_frame
      refine th 8 (v := .bool d) ?_ (hy := fun wy hSw => by (go_simp <;> first | with_reducible rfl | simp))
      go_frame
      refine th 12 (v := .bool true) ?_ (hy := fun wy hSw => by (go_simp <;> first | with_reducible rfl | simp))
      go_frame
      refine th 13 (v := .bool true) ?_ (hy := fun wy hSw => by (go_simp <;> first | with_reducible rfl | simp))
      go_frame
      refine wpAnyH_ready (rs := [14]) (by kernel_rfl) (by simp) (AllReadyH.cons (o := ⟨some 48, .call { callee := .value (.func 10), args := #[], argTypes := #[] }, _, _, _, some (13, true)⟩) rfl (fun K hK => ?_) AllReadyH.nil)
      rw [if_pos (by kernel_rfl)]
      go_simp
      refine (lives18_any _).mono ?_
      rintro _ ws5 ⟨rfl, hb⟩
      replace HM := Lib.hid ((HM.out.below hb).more hb.size)
      replace HC := Lib.hid ((HC.out.below hb).more hb.size)
      replace HD := Lib.hid (fun W hW => HD.out W (up hb hW))
      replace HA := Lib.hid (fun W hW => HA.out W (up hb hW))
      replace HBL := Lib.hid (up HBL.out hb)
      clear hb
      dsimp only
      refine hK.out _ _ (hF.out _ HBL.out) (fun _ => ?_)
      clear hK K
      try go_frame
      refine th 15 ?_
      go_frame
      refine th 16 ?_
      go_frame
      refine wpAnyH_done (by kernel_rfl) ?_ _
      go_wp2_with fail
      go_ret
      exact ⟨rfl, hYb.out.trans (HBL.out.mono hYb.out.size)⟩
end Go.Proofs.Ytcandokefhbneaa
