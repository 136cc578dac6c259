/-
  The document's Parse: a contract.
-/
import Derived.Test.YtejppekcniehpaaPkD
import Derived.Test.YtejppekcniehpaaSgN
import Derived.Test.YtejppekcniehpaaIfU
import Derived.Test.YtejppekcniehpaaSxS
namespace Go.Proofs.Ytejppekcniehpaa
open Go.RowKit
/-- The two blocks that the reader begins with. -/
theorem rpk_start (w : World) : ∃ w5, (storeCells ⟨w.heap.size + 1, 0, none⟩ (pkC Pk.none)).run Try.prog ((w.alloc (.cells (pkC Pk.none).toArray 39)).alloc (.cells (pkC Pk.none).toArray 39)) = .ok () w5 ∧ PkAt w5 (w.heap.size + 1) Pk.none ∧ PkAt w5 w.heap.size Pk.none ∧ Below w.heap.size w w5 ∧ w5.heap.size = w.heap.size + 1 + 1 := by
  have h0 := heap_alloc_last w (.cells (pkC Pk.none).toArray 39)
  have h1 := heap_alloc_last (w.alloc (.cells (pkC Pk.none).toArray 39)) (.cells (pkC Pk.none).toArray 39)
  have h01 := (heap_alloc_old (w.alloc (.cells (pkC Pk.none).toArray 39)) (.cells (pkC Pk.none).toArray 39) (show w.heap.size < _ by simp)).trans h0
  rw [show (w.alloc (.cells (pkC Pk.none).toArray 39)).heap.size = w.heap.size + 1 by simp] at h1
  obtain ⟨w5, _, hat5, hgr5, hs5, hsc5⟩ := store_pk (b := Pk.none) h1 Pk.none_wide Pk.none_wide
  exact ⟨w5, hsc5, hat5, (hgr5.block _ (by simp; omega) (fun e => by simp at e)).trans h01, grown_below (up_alloc (up_alloc (Below.refl _ _) _) _) hgr5 (Nat.le_succ _), by rw [hs5]; simp⟩
set_option maxRecDepth 100000 in
set_option maxHeartbeats 1000000 in
theorem rpkParse_short {A : Option Addr} {c : Nat} {l : List UInt8} {w : World} (hr : Rd w w.heap.size (.slice A l.length c) (cellsB l)) (h : l.length = 0 ∨ (pkHi l ≠ 4 ∧ pkHi l ≠ 6)) :
    Calls Try.prog 8 #[.slice A l.length c] w fun e w' => e = .returned (.tuple #[pkV (pkRead l), .int .i64 ((pkErr l : Nat) : Int)]) ∧ Below w.heap.size w w' := by
  have hz : ∀ w, (zeroValue 39).run Try.prog w = .ok (.agg (pkC Pk.none).toArray) w := zero_pk
  have hbu : ∀ W, (Instr.build 39 #[]).run Try.prog W = .ok (.agg (pkC Pk.none).toArray) W := build_pk0
  obtain ⟨w5, hsc5, hat5, hatg, hb5, hs5⟩ := rpk_start w
  have hxi := info_pkA Pk.none_wide
  have hln := pkC_length Pk.none_wide
  have hr5 : Rd w5 w5.heap.size (.slice A l.length c) (cellsB l) := (hr.below hb5).more (by omega)
  have hS : Hid (∀ y : Pk, y.Wide → ∀ W, Below w5.heap.size w5 W → ∃ W', (Instr.storeAt 39 (.pointer (some ⟨w.heap.size, 0, none⟩)) (.agg (pkC y).toArray)).run Try.prog W = .ok () W' ∧ PkAt W' w.heap.size y ∧ Below w.heap.size w W') := Lib.hid fun y hy W hW => by
    obtain ⟨W', hst, hat, hgr, _⟩ := store_pk (w := W) (g := w.heap.size) (a := Pk.none) (b := y) ((hW.block _ (by omega)).trans hatg) Pk.none_wide hy
    exact ⟨W', hst, hat, grown_below (hb5.trans (hW.mono (by omega))) hgr (Nat.le_refl _)⟩
  have hN4 : Hid (∀ W, Below w5.heap.size w5 W → W.heap[w.heap.size + 1]? = some (.cells (pkC Pk.none).toArray 39 (0, 0))) := Lib.hid fun W hW => (hW.block _ (by omega)).trans hat5
  have hNone : pkErr l ≠ 0 → pkRead l = Pk.none := fun h => by unfold pkRead; rw [if_neg h]
  have hIs := pkErr_is l
  obtain ⟨w6, hst6, hat6, hb6⟩ := hS.out Pk.none Pk.none_wide w5 (Below.refl _ _)
  have HT := Lib.hid (And.intro hat6 hb6)
  have hn4 := hN4.out w5 (Below.refl _ _)
  obtain ⟨m, hm⟩ : ∃ m, m = l.length := ⟨_, rfl⟩
  by_cases h0 : m = 0
  · have e : pkErr l = 9 := by unfold pkErr; rw [if_pos (by omega)]
    rw [hNone (by omega), e, ← hm, h0]
    unfold pkV
    obtain ⟨Z, hZ⟩ : ∃ Z, Z = pkC Pk.none := ⟨_, rfl⟩
    rw [← hZ] at hz hbu hsc5 hst6 hn4 hxi hln ⊢
    have HZ := Lib.hid hZ
    clear hZ hS hN4 hNone hIs hr hr5 hatg hb5 hat5 hat6 hb6 h hm h0 e
    go_enter Try.func8, Try.ntmps8
    go_wp2_with (first
      | (with_reducible refine wpList_alloc_zero (o := ⟨some 2, .alloc 39, _, _, _, _⟩) rfl 39 rfl Z.toArray hz ?_)
      | (with_reducible refine wpList_alloc_zero (o := ⟨some 4, .alloc 39, _, _, _, _⟩) rfl 39 rfl Z.toArray hz ?_)
      | ((with_reducible refine wpList_load_row (o := ⟨some 13, .load 39 (.tmp 4), _, _, _, _⟩) rfl 39 (.tmp 4) rfl (w.heap.size + 1) ?_ 39 Z.toArray (0, 0) _ hn4 Try.underlying39 rfl hxi ?_); exact rfl)
      | ((with_reducible refine wpList_stored (o := ⟨none, .store 39 (.tmp 2) (.tmp 13), _, _, _, none⟩) rfl 39 (.tmp 2) (.tmp 13) rfl (.pointer (some ⟨w.heap.size, 0, none⟩)) (.agg Z.toArray) ?_ ?_ w6 hst6 ?_); exact rfl; exact rfl))
    exact bodyPost_ret (ret_pk (p := 2) (q := 3) (by kernel_rfl) rfl HT.out.1 Pk.none_wide rfl) rfl ⟨by rw [pkV, ← HZ.out]; rfl, HT.out.2⟩
  · have h2 : pkHi l ≠ 4 ∧ pkHi l ≠ 6 := by
      rcases h with h | h
      · omega
      · exact h
    have e : pkErr l = 12 := by unfold pkErr; rw [if_neg (by omega), if_pos h2]
    rw [hNone (by omega), e]
    obtain ⟨b, o, rfl, hbl, hc⟩ := hr5.addr (by omega)
    have c0 := hc 0 (by omega)
    rw [getD_cell (by omega), Nat.add_zero] at c0
    obtain ⟨x, hx⟩ : ∃ x, x = l.getD 0 0 := ⟨_, rfl⟩
    rw [← hx] at c0
    have hxl := x.toNat_lt
    obtain ⟨p, hp⟩ : ∃ p, p = x.toNat / 16 := ⟨_, rfl⟩
    have hpd : (x.toNat : Int).tdiv 16 = (p : Int) := by rw [Int.tdiv_eq_ediv_of_nonneg (by omega)]; omega
    have hHi : pkHi l = p := by unfold pkHi; rw [← hx, hp]
    rw [hHi] at h2
    have k4 : ((p : Int) % 256 != 4) = true := by simp; omega
    have k6 : ((p : Int) % 256 != 6) = true := by simp; omega
    have hn0 : ((m : Int) == 0) = false := beq_zero h0
    have n0 : (0 : Int) < (m : Int) := by omega
    rw [← hm]
    unfold pkV
    obtain ⟨Z, hZ⟩ : ∃ Z, Z = pkC Pk.none := ⟨_, rfl⟩
    rw [← hZ] at hz hbu hsc5 hst6 hn4 hxi hln ⊢
    have HZ := Lib.hid hZ
    clear hZ hS hN4 hNone hIs hr hr5 hatg hb5 hat5 hat6 hb6 h hm h0 e hc hbl hx hp h2 hHi
    go_enter Try.func8, Try.ntmps8
    go_wp2_with (first
      | (with_reducible refine wpList_alloc_zero (o := ⟨some 2, .alloc 39, _, _, _, _⟩) rfl 39 rfl Z.toArray hz ?_)
      | (with_reducible refine wpList_alloc_zero (o := ⟨some 4, .alloc 39, _, _, _, _⟩) rfl 39 rfl Z.toArray hz ?_)
      | ((with_reducible refine wpList_load_row (o := ⟨some 26, .load 39 (.tmp 4), _, _, _, _⟩) rfl 39 (.tmp 4) rfl (w.heap.size + 1) ?_ 39 Z.toArray (0, 0) _ hn4 Try.underlying39 rfl hxi ?_); exact rfl)
      | ((with_reducible refine wpList_stored (o := ⟨none, .store 39 (.tmp 2) (.tmp 26), _, _, _, none⟩) rfl 39 (.tmp 2) (.tmp 26) rfl (.pointer (some ⟨w.heap.size, 0, none⟩)) (.agg Z.toArray) ?_ ?_ w6 hst6 ?_); exact rfl; exact rfl))
    exact bodyPost_ret (ret_pk (p := 2) (q := 3) (by kernel_rfl) rfl HT.out.1 Pk.none_wide rfl) rfl ⟨by rw [pkV, ← HZ.out]; rfl, HT.out.2⟩
set_option maxRecDepth 100000 in
set_option maxHeartbeats 1000000 in
theorem rpkParse_4 {A : Option Addr} {c : Nat} {l : List UInt8} {w : World} (hr : Rd w w.heap.size (.slice A l.length c) (cellsB l)) (h0 : l.length ≠ 0) (hHi : pkHi l = 4) :
    Calls Try.prog 8 #[.slice A l.length c] w fun e w' => e = .returned (.tuple #[pkV (pkRead l), .int .i64 ((pkErr l : Nat) : Int)]) ∧ Below w.heap.size w w' := by
  have hz : ∀ w, (zeroValue 39).run Try.prog w = .ok (.agg (pkC Pk.none).toArray) w := zero_pk
  have hbu : ∀ W, (Instr.build 39 #[]).run Try.prog W = .ok (.agg (pkC Pk.none).toArray) W := build_pk0
  obtain ⟨w5, hsc5, hat5, hatg, hb5, hs5⟩ := rpk_start w
  have hxi := info_pkA Pk.none_wide
  have hln := pkC_length Pk.none_wide
  have hr5 : Rd w5 w5.heap.size (.slice A l.length c) (cellsB l) := (hr.below hb5).more (by omega)
  have hS : Hid (∀ y : Pk, y.Wide → ∀ W, Below w5.heap.size w5 W → ∃ W', (Instr.storeAt 39 (.pointer (some ⟨w.heap.size, 0, none⟩)) (.agg (pkC y).toArray)).run Try.prog W = .ok () W' ∧ PkAt W' w.heap.size y ∧ Below w.heap.size w W') := Lib.hid fun y hy W hW => by
    obtain ⟨W', hst, hat, hgr, _⟩ := store_pk (w := W) (g := w.heap.size) (a := Pk.none) (b := y) ((hW.block _ (by omega)).trans hatg) Pk.none_wide hy
    exact ⟨W', hst, hat, grown_below (hb5.trans (hW.mono (by omega))) hgr (Nat.le_refl _)⟩
  have hN4 : Hid (∀ W, Below w5.heap.size w5 W → W.heap[w.heap.size + 1]? = some (.cells (pkC Pk.none).toArray 39 (0, 0))) := Lib.hid fun W hW => (hW.block _ (by omega)).trans hat5
  have hNone : pkErr l ≠ 0 → pkRead l = Pk.none := fun h => by unfold pkRead; rw [if_neg h]
  have hIs := pkErr_is l
  have hzh : ∀ w, (zeroValue 33).run Try.prog w = .ok (.agg (hdC Hd.zero).toArray) w := zero_hd
  have hzs : ∀ w, (zeroValue 35).run Try.prog w = .ok (.agg (sgC Sg.none).toArray) w := zero_sg
  have eE : pkRE l = ifErr l := by unfold pkRE; rw [if_neg h0, if_pos hHi]
  have eH : pkRH l = ifRead l := by unfold pkRH; rw [if_neg h0, if_pos hHi]
  have hlc : l.length ≤ c := by
    obtain ⟨_, _, e, hlc, _, _⟩ := hr.bytes
    injection e with e1 e2 e3
    omega
  obtain ⟨m, hm⟩ : ∃ m, m = l.length := ⟨_, rfl⟩
  obtain ⟨b, o, rfl, hbl, hc⟩ := hr5.addr (by omega)
  have hX : Hid (∀ W, Below w5.heap.size w5 W → W.cell? ⟨b, o, none⟩ = some (.int .u8 ((l.getD 0 0).toNat : Int))) := Lib.hid fun W hW => by
    have c0 := hc 0 (by omega)
    rw [getD_cell (by omega), Nat.add_zero] at c0
    exact (hW.cell (p := ⟨b, o, none⟩) hbl).trans c0
  obtain ⟨x, hx⟩ : ∃ x, x = l.getD 0 0 := ⟨_, rfl⟩
  rw [← hx] at hX
  have hxl := x.toNat_lt
  have hpd : (x.toNat : Int).tdiv 16 = 4 := by
    have : x.toNat / 16 = 4 := by rw [hx]; exact hHi
    rw [Int.tdiv_eq_ediv_of_nonneg (by omega)]; omega
  have c0 := hX.out w5 (Below.refl _ _)
  have hn0 : ((m : Int) == 0) = false := beq_zero (by omega)
  have n0 : (0 : Int) < (m : Int) := by omega
  have hSh : Hid (∀ (y : Hd), y.Wide → ∀ W, Below w5.heap.size w5 W → ∃ W', (storeCells ⟨W.heap.size, 0, none⟩ (hdC y)).run Try.prog (W.alloc (.cells (hdC Hd.zero).toArray 33)) = .ok () W' ∧ HdAt W' W.heap.size y ∧ Below w5.heap.size w5 W' ∧ W.heap.size < W'.heap.size) := Lib.hid fun y hy W hW => by
    obtain ⟨W', _, hat, hgr, hsz, hsc⟩ := store_hd (w := W.alloc (.cells (hdC Hd.zero).toArray 33)) (g := W.heap.size) (a := Hd.zero) (b := y) (heap_alloc_last W _) Hd.zero_wide hy
    exact ⟨W', hsc, hat, grown_below (up_alloc hW _) hgr hW.size, by rw [hsz]; simp⟩
  have hq : Hid (Calls Try.prog 18 #[.slice (some ⟨b, o, none⟩) l.length c] w5 fun e w' => e = .returned (.tuple #[.agg (hdC (pkRH l)).toArray, .int .i64 ((pkRE l : Nat) : Int)]) ∧ Below w5.heap.size w5 w') := Lib.hid (by rw [eE, eH]; exact rifRead_any hr5)
  have hHw := pkRH_wide l
  have hSh1 := Lib.hid (hSh.out (pkRH l) hHw)
  have hl4 := hdC_length hHw
  have hHi1 := info_hdA hHw
  have hHi2 := info_hd hHw
  by_cases hE : pkRE l = 0
  · rw [if_neg (by omega)] at hIs
    rw [hE] at hq
    obtain ⟨p, hp, p1, p2, p3⟩ := pkRE_pos hE
    have hpc : ∀ {W : World} {g : Nat}, HdAt W g (pkRH l) → W.cell? ⟨g, 2, none⟩ = some (.int .i64 (p : Int)) := fun h => by rw [hdC_pos h, hp]
    cases hpt : (pkRH l).part with
    | true =>
      rw [hpt, if_pos rfl] at hIs
      rw [hNone (by omega), hIs]
      have hS0 := Lib.hid (hS.out Pk.none Pk.none_wide)
      have hpa : Hid (∀ {W : World} {g : Nat}, HdAt W g (pkRH l) → W.cell? ⟨g, 37, none⟩ = some (.bool true)) := Lib.hid fun h => by rw [hdC_part hHw h, hpt]
      clear hS hNone hIs hE hHw hpt hp hpc p1 p2 p3 hr hr5 hlc hb5 hHi1 hHi2 hatg hat5 hc hbl hx hHi h0 eE eH hSh hxl
      unfold pkV
      rw [← hm] at *
      clear hm
      generalize hdC Hd.zero = ZH at *
      obtain ⟨Z, hZ⟩ : ∃ Z, Z = pkC Pk.none := ⟨_, rfl⟩
      rw [← hZ] at hz hbu hsc5 hS0 hN4 hxi hln ⊢
      have HZ := Lib.hid hZ
      clear hZ
      go_enter Try.func8, Try.ntmps8
      go_wp2_with (first
        | (with_reducible refine wpList_alloc_zero (o := ⟨some 2, .alloc 39, _, _, _, _⟩) rfl 39 rfl Z.toArray hz ?_)
        | (with_reducible refine wpList_alloc_zero (o := ⟨some 4, .alloc 39, _, _, _, _⟩) rfl 39 rfl Z.toArray hz ?_)
        | (go_at_call 18; refine hq.out.mono ?_; rintro _ w6 ⟨rfl, hb6⟩; obtain ⟨w7, hsc7, hat7, hb7, hlt7⟩ := hSh1.out _ hb6; have hle7 := hb6.size; have c07 := hX.out w7 hb7; have hc37 := hpa.out hat7; obtain ⟨wn, hstn, hatn, hbn⟩ := hS0.out w7 hb7; have HT := Lib.hid (And.intro hatn hbn); have hn4 := hN4.out w7 hb7; clear hatn hbn; clear hb7 hat7 hlt7; clear hb6)
        | (with_reducible refine wpList_alloc_zero (o := ⟨some 5, .alloc 33, _, _, _, _⟩) rfl 33 rfl ZH.toArray hzh ?_)
        | ((with_reducible refine wpList_load_row (o := ⟨some 48, .load 39 (.tmp 4), _, _, _, _⟩) rfl 39 (.tmp 4) rfl (w.heap.size + 1) ?_ 39 Z.toArray (0, 0) _ hn4 Try.underlying39 rfl hxi ?_); exact rfl)
        | ((with_reducible refine wpList_stored (o := ⟨none, .store 39 (.tmp 2) (.tmp 48), _, _, _, none⟩) rfl 39 (.tmp 2) (.tmp 48) rfl (.pointer (some ⟨w.heap.size, 0, none⟩)) (.agg Z.toArray) ?_ ?_ wn hstn ?_); exact rfl; exact rfl))
      exact bodyPost_ret (ret_pk (p := 2) (q := 3) (by kernel_rfl) rfl HT.out.1 Pk.none_wide rfl) rfl ⟨by rw [pkV, ← HZ.out]; rfl, HT.out.2⟩
    | false =>
      rw [hpt, if_neg (by decide)] at hIs
      have hpa : Hid (∀ {W : World} {g : Nat}, HdAt W g (pkRH l) → W.cell? ⟨g, 37, none⟩ = some (.bool false)) := Lib.hid fun h => by rw [hdC_part hHw h, hpt]
      obtain ⟨A2, hA2, kh⟩ := cut_l (P := Try.prog) (t := 22) Try.underlying22 (i := _) (e := 5) rfl rfl (some ⟨b, o, none⟩) l.length c p p2 (p : Int) rfl
      have hr2 := hr5.cut (lo := p) (hi := l.length) p2 (Nat.le_refl _)
      rw [← hA2, List.take_of_length_le (by rw [cellsB_length]; exact Nat.le_refl _), cellsB_drop] at hr2
      have hdl : (l.drop p).length = l.length - p := List.length_drop ..
      rw [hp, Int.toNat_natCast] at hIs
      have hsg : Hid (∀ W, Below w5.heap.size w5 W → Calls Try.prog 20 #[.agg (hdC (pkRH l)).toArray, .slice A2 (l.length - p) (c - p)] W fun e w' => e = .returned (.tuple #[.agg (sgC (sgRead (pkRH l) (l.drop p))).toArray, .int .i64 ((pkErr l : Nat) : Int)]) ∧ Below W.heap.size W w') := Lib.hid fun W hW => by
        have h3 := (hr2.below hW).more hW.size
        rw [← hdl] at h3 ⊢
        rw [hIs]
        exact rsRead_any (pkRH l) hHw h3 (by omega)
      have hSi := info_sgA (sgRead (pkRH l) (l.drop p))
      have hSw := sgRead_ports (pkRH l) (l.drop p)
      have hRis : pkErr l = 0 → pkRead l = ⟨pkRH l, sgRead (pkRH l) (l.drop p), pkFlow (pkRH l) (sgRead (pkRH l) (l.drop p))⟩ := fun h => by
        have := pkRead_is h
        rw [hp, Int.toNat_natCast] at this
        exact this
      have hss : Hid (∀ (w2 W : World) (g : Nat), w2.heap.size ≤ g → W.heap[g]? = some (.cells (sgC Sg.none).toArray 35 (0, 0)) → Below w2.heap.size w2 W → ∃ W', (Instr.storeAt 35 (.pointer (some ⟨g, 0, none⟩)) (.agg (sgC (sgRead (pkRH l) (l.drop p))).toArray)).run Try.prog W = .ok () W' ∧ Below w2.heap.size w2 W' ∧ SgAt W' g (sgRead (pkRH l) (l.drop p))) := Lib.hid fun w2 W g hg hat hW => by
        obtain ⟨W', hst, hat, hgr, _⟩ := store_sg (w := W) (g := g) (a := Sg.none) (b := sgRead (pkRH l) (l.drop p)) hat
        exact ⟨W', hst, grown_below hW hgr hg, hat⟩
      have hb2 : ∀ W, (Instr.build 39 #[(0, .agg (hdC (pkRH l)).toArray), (1, .agg (sgC (sgRead (pkRH l) (l.drop p))).toArray), (2, .agg (flC (pkFlow (pkRH l) (sgRead (pkRH l) (l.drop p)))).toArray)]).run Try.prog W = .ok (.agg (pkC ⟨pkRH l, sgRead (pkRH l) (l.drop p), pkFlow (pkRH l) (sgRead (pkRH l) (l.drop p))⟩).toArray) W := fun W => build_pk _ hHw _ _ ⟨hHw.1, hHw.2, hSw⟩ W
      have hbf : ∀ W, (Instr.build 37 #[(0, .agg (adC (pkRH l).src).toArray), (1, .agg (adC (pkRH l).dst).toArray), (2, .int .u16 ((sgRead (pkRH l) (l.drop p)).src : Int)), (3, .int .u16 ((sgRead (pkRH l) (l.drop p)).dst : Int)), (4, .int .u8 ((pkRH l).proto.toNat : Int))]).run Try.prog W = .ok (.agg (flC (pkFlow (pkRH l) (sgRead (pkRH l) (l.drop p)))).toArray) W := fun W => build_fl _ _ hHw.1 hHw.2 _ _ _ W
      have hLdS : Hid (∀ {W : World} {g : Nat}, SgAt W g (sgRead (pkRH l) (l.drop p)) → W.heap[g]? = some (.cells (sgC (sgRead (pkRH l) (l.drop p))).toArray 35 (0, 0)) ∧ W.cell? ⟨g, 0, none⟩ = some (.int .u16 ((sgRead (pkRH l) (l.drop p)).src : Int)) ∧ W.cell? ⟨g, 1, none⟩ = some (.int .u16 ((sgRead (pkRH l) (l.drop p)).dst : Int))) := Lib.hid fun h => ⟨h, (sgC_cell h).1, (sgC_cell h).2.1⟩
      have hLdH : Hid (∀ {W : World} {g : Nat}, HdAt W g (pkRH l) → (W.heap[g]? = some (.cells (hdC (pkRH l)).toArray 33 (0, 0)) ∧ W.cell? ⟨g, 1, none⟩ = some (.int .u8 ((pkRH l).proto.toNat : Int))) ∧ W.rangeAt g 3 (adC (pkRH l).src) ∧ W.rangeAt g 20 (adC (pkRH l).dst)) := Lib.hid fun h => ⟨⟨h, hdC_proto h⟩, hdC_src h, hdC_dst hHw h⟩
      have hpi : (p : Int) ≤ (l.length : Int) := by omega
      have hp0 : (0 : Int) ≤ (p : Int) := by omega
      have hYw : Pk.Wide ⟨pkRH l, sgRead (pkRH l) (l.drop p), pkFlow (pkRH l) (sgRead (pkRH l) (l.drop p))⟩ := ⟨hHw, hHw.1, hHw.2, hSw⟩
      have i1 := info_ad hHw.1
      have i2 := info_ad hHw.2
      clear hIs hHw hpt hp p1 p2 p3 hr hr5 hlc hb5 hr2 hdl hA2 hE hSw hatg hat5 hc hbl hx hHi h0 eE eH hSh hxl
      unfold pkV
      rw [← hm] at *
      generalize hYY : (⟨pkRH l, sgRead (pkRH l) (l.drop p), pkFlow (pkRH l) (sgRead (pkRH l) (l.drop p))⟩ : Pk) = Y at *
      generalize flC (pkFlow (pkRH l) (sgRead (pkRH l) (l.drop p))) = FL at *
      generalize sgRead (pkRH l) (l.drop p) = SGv at *
      generalize hSC : sgC SGv = SC at *
      generalize SGv.src = u1 at *
      generalize SGv.dst = u2 at *
      generalize hdC Hd.zero = ZH at *
      generalize adC (pkRH l).src = C1 at *
      generalize adC (pkRH l).dst = C2 at *
      generalize (pkRH l).proto = pr at *
      generalize hCH : hdC (pkRH l) = CH at *
      generalize hZS : sgC Sg.none = ZS at *
      generalize hn2 : m - p = n2 at *
      generalize hc2 : c - p = c2 at *
      have hCHr := Lib.hid hCH
      clear hn2 hc2 hSC hZS hCH hm
      obtain ⟨Z, hZ⟩ : ∃ Z, Z = pkC Pk.none := ⟨_, rfl⟩
      by_cases hE : pkErr l = 0
      · have hRY := hRis hE
        rw [hE] at hsg
        rw [hRY, hE]
        have hSy := Lib.hid (hS.out Y hYw)
        have HYw := Lib.hid hYw
        rw [← hZ] at hz hbu hsc5 hxi hln
        clear hS hRis hNone hE hRY hYw hYY hZ hN4
        generalize hDY : pkC Y = D at *
        have HDY := Lib.hid hDY
        clear hDY
        go_enter Try.func8, Try.ntmps8
        go_wp2_with (first
          | (with_reducible refine wpList_alloc_zero (o := ⟨some 2, .alloc 39, _, _, _, _⟩) rfl 39 rfl Z.toArray hz ?_)
          | (with_reducible refine wpList_alloc_zero (o := ⟨some 4, .alloc 39, _, _, _, _⟩) rfl 39 rfl Z.toArray hz ?_)
          | (go_at_call 18; refine hq.out.mono ?_; rintro _ w6 ⟨rfl, hb6⟩; obtain ⟨w7, hsc7, hat7, hb7, hlt7⟩ := hSh1.out _ hb6; have hle7 := hb6.size; have c07 := hX.out w7 hb7; have hc37 := hpa.out hat7; have HW := Lib.hid hat7; have HBW := Lib.hid hb7; have HLW := Lib.hid hlt7; clear hb7 hat7 hlt7; clear hb6)
          | (with_reducible refine wpList_alloc_zero (o := ⟨some 5, .alloc 33, _, _, _, _⟩) rfl 33 rfl ZH.toArray hzh ?_))
        have hAt : Hid (∀ W, Below w7.heap.size w7 W → W.heap[w6.heap.size]? = some (.cells CH.toArray 33 (0, 0)) ∧ W.cell? ⟨w6.heap.size, 2, none⟩ = some (.int .i64 (p : Int))) := Lib.hid fun W hW => by
          have h1 := HW.out.below hW HLW.out
          exact ⟨by rw [← hCHr.out]; exact h1, hpc h1⟩
        obtain ⟨g4, hg4⟩ : ∃ g, g = w6.heap.size := ⟨_, rfl⟩
        have HBL := Lib.hid (drew_self w7)
        have HL4 := HLW
        rw [← hg4] at hAt HL4 HW ⊢
        have hss2 := Lib.hid (hss.out w7)
        clear hc37 hg4 hss hq
        refine wp_region_held_drew (S := fun w' => w'.heap[g4]? = some (.cells CH.toArray 33 (0, 0)) ∧ w'.cell? ⟨g4, 2, none⟩ = some (.int .i64 (p : Int))) (by kernel_rfl) (hAt.out _ HBL.out) (fun hHeld => ?_)
        refine th 0 (v := .agg CH.toArray) ?_ (hy := fun wy hSw => by exact exec_load (t := 33) (x := .tmp 5) rfl (pv := .pointer (some ⟨g4, 0, none⟩)) rfl (run_loadAt_mid wy g4 0 33 CH _ (row_range hSw.1) Try.underlying33 rfl hHi2))
        go_frame
        refine th 1 ?_
        go_frame
        refine th 2 ?_
        go_frame
        refine th 3 (v := .int .i64 (p : Int)) ?_ (hy := fun wy hSw => by (obtain ⟨_, s2⟩ := hSw; go_simp <;> with_reducible rfl))
        go_frame
        refine th 4 ?_
        go_frame
        refine wpAnyH_ready (rs := [5, 9]) (by kernel_rfl) (by simp) (AllReadyH.cons (o := ⟨some 55, .call { callee := .value (.func 20), args := #[.tmp 50, .tmp 54], argTypes := #[33, 22] }, _, _, _, none⟩) rfl (fun K hK => ?_) (AllReadyH.cons (o := ⟨some 7, .alloc 35, _, _, _, none⟩) rfl (fun K hK => ?_) AllReadyH.nil))
        · rw [if_pos (by kernel_rfl)]
          go_simp
          refine (hsg.out _ (HBW.out.trans (HBL.out.mono HBW.out.size))).mono ?_
          rintro _ wS ⟨rfl, hb⟩
          replace HBL := Lib.hid (up HBL.out hb)
          clear hb
          dsimp only
          refine hK.out _ _ (hAt.out _ HBL.out) (fun _ => ?_)
          clear hK K
          try go_frame
          refine th 6 ?_
          go_frame
          refine th 7 ?_
          go_frame
          refine th 8 ?_
          go_frame
          refine wpAnyH_ready (rs := [9]) (by kernel_rfl) (by simp) (AllReadyH.cons (o := ⟨some 7, .alloc 35, _, _, _, none⟩) rfl (fun K hK => ?_) AllReadyH.nil)
          rw [if_pos (by kernel_rfl)]
          refine wp_run (.pointer (some ⟨wS.heap.size, 0, none⟩)) _ (exec_allocP rfl hzs _) ?_
          have hb := up_alloc HBL.out (.cells ZS.toArray 35)
          have ha := heap_alloc_last wS (.cells ZS.toArray 35)
          obtain ⟨g6, hg6⟩ : ∃ g, g = wS.heap.size := ⟨_, rfl⟩
          have hle : w7.heap.size ≤ wS.heap.size := HBL.out.size
          rw [← hg6] at ha hle ⊢
          generalize wS.alloc (.cells ZS.toArray 35) = wa at hb ha ⊢
          replace HBL := Lib.hid hb
          have HA6 := Lib.hid (And.intro ha hle)
          clear hb ha hle hg6
          refine hK.out _ _ (hAt.out _ HBL.out) (fun _ => ?_)
          clear hK K
          try go_frame
          refine wpAnyH_ready (rs := [10]) (by kernel_rfl) (by simp) (AllReadyH.cons (o := ⟨none, .store 35 (.tmp 7) (.tmp 56), _, _, _, none⟩) rfl (fun K hK => ?_) AllReadyH.nil)
          rw [if_pos (by kernel_rfl)]
          obtain ⟨wq, hstq, hbq, hrq⟩ := hss2.out _ g6 HA6.out.2 HA6.out.1 HBL.out
          refine wp_skip wq (exec_store rfl (vx := .pointer (some ⟨g6, 0, none⟩)) rfl (vy := .agg SC.toArray) rfl hstq) ?_
          replace HBL := Lib.hid hbq
          have HR4 := Lib.hid hrq
          clear hstq hbq hrq HA6
          refine hK.out _ _ (hAt.out _ HBL.out) (fun _ => ?_)
          clear hK K
          try go_frame
          refine th 11 ?_
          go_frame
          refine wpAnyH_done (by kernel_rfl) ?_ _
          obtain ⟨q63, q0, q1⟩ := hLdS.out HR4.out
          obtain ⟨⟨q62, qp⟩, q3, q20⟩ := hLdH.out (HW.out.below HBL.out HL4.out)
          obtain ⟨wn, hstn, hatn, hbn⟩ := hSy.out wq (HBW.out.trans (HBL.out.mono HBW.out.size))
          have HT := Lib.hid (And.intro hatn hbn)
          clear hatn hbn
          go_wp2_with (first
            | ((with_reducible refine wpList_load_row (o := ⟨some 62, .load 33 (.tmp 5), _, _, _, _⟩) rfl 33 (.tmp 5) rfl g4 ?_ 33 CH.toArray (0, 0) _ q62 Try.underlying33 rfl hHi1 ?_); exact rfl)
            | ((with_reducible refine wpList_load_row (o := ⟨some 63, .load 35 (.tmp 7), _, _, _, _⟩) rfl 35 (.tmp 7) rfl g6 ?_ 35 SC.toArray (0, 0) _ q63 Try.underlying35 rfl hSi ?_); exact rfl)
            | ((with_reducible refine wpList_load_mid_g (op := ⟨some 65, .load 25 (.tmp 64), _, _, _, _⟩) (by kernel_rfl) 25 (.tmp 64) rfl g4 3 ?_ C1 _ q3 Try.underlying25 rfl i1 ?_); exact rfl)
            | ((with_reducible refine wpList_load_mid_g (op := ⟨some 67, .load 25 (.tmp 66), _, _, _, _⟩) (by kernel_rfl) 25 (.tmp 66) rfl g4 20 ?_ C2 _ q20 Try.underlying25 rfl i2 ?_); exact rfl)
            | ((with_reducible refine wpList_run (o := ⟨some 74, .build 37 #[(0, .tmp 65), (1, .tmp 67), (2, .tmp 69), (3, .tmp 71), (4, .tmp 73)], _, _, _, _⟩) rfl (.agg FL.toArray) wq ?_ ?_); exact exec_bld5 (k1 := 0) (k2 := 1) (k3 := 2) (k4 := 3) (k5 := 4) rfl (u1 := .agg C1.toArray) (u2 := .agg C2.toArray) (u3 := .int .u16 (u1 : Int)) (u4 := .int .u16 (u2 : Int)) (u5 := .int .u8 (pr.toNat : Int)) rfl rfl rfl rfl rfl (hbf _))
            | ((with_reducible refine wpList_run (o := ⟨some 75, .build 39 #[(0, .tmp 62), (1, .tmp 63), (2, .tmp 74)], _, _, _, _⟩) rfl (.agg D.toArray) wq ?_ ?_); exact exec_bld3 (k1 := 0) (k2 := 1) (k3 := 2) rfl (u1 := .agg CH.toArray) (u2 := .agg SC.toArray) (u3 := .agg FL.toArray) rfl rfl rfl (hb2 _))
            | ((with_reducible refine wpList_stored (o := ⟨none, .store 39 (.tmp 2) (.tmp 75), _, _, _, none⟩) rfl 39 (.tmp 2) (.tmp 75) rfl (.pointer (some ⟨w.heap.size, 0, none⟩)) (.agg D.toArray) ?_ ?_ wn hstn ?_); exact rfl; exact rfl))
          exact bodyPost_ret (ret_pk (p := 2) (q := 3) (by kernel_rfl) rfl HT.out.1 HYw.out rfl) rfl ⟨by rw [← HDY.out]; rfl, HT.out.2⟩
        · rw [if_pos (by kernel_rfl)]
          refine wp_run (.pointer (some ⟨w7.drew.heap.size, 0, none⟩)) _ (exec_allocP rfl hzs _) ?_
          have hb := up_alloc HBL.out (.cells ZS.toArray 35)
          have ha := heap_alloc_last w7.drew (.cells ZS.toArray 35)
          obtain ⟨g6, hg6⟩ : ∃ g, g = w7.drew.heap.size := ⟨_, rfl⟩
          have hle : w7.heap.size ≤ w7.drew.heap.size := HBL.out.size
          rw [← hg6] at ha hle ⊢
          generalize w7.drew.alloc (.cells ZS.toArray 35) = wa at hb ha ⊢
          replace HBL := Lib.hid hb
          have HA6 := Lib.hid (And.intro ha hle)
          clear hb ha hle hg6
          refine hK.out _ _ (hAt.out _ HBL.out) (fun _ => ?_)
          clear hK K
          try go_frame
          refine wpAnyH_ready (rs := [5]) (by kernel_rfl) (by simp) (AllReadyH.cons (o := ⟨some 55, .call { callee := .value (.func 20), args := #[.tmp 50, .tmp 54], argTypes := #[33, 22] }, _, _, _, none⟩) rfl (fun K hK => ?_) AllReadyH.nil)
          rw [if_pos (by kernel_rfl)]
          go_simp
          refine (hsg.out _ (HBW.out.trans (HBL.out.mono HBW.out.size))).mono ?_
          rintro _ wS ⟨rfl, hb⟩
          replace HA6 := Lib.hid (And.intro ((hb.block _ (Array.getElem?_eq_some_iff.1 HA6.out.1).1).trans HA6.out.1) HA6.out.2)
          replace HBL := Lib.hid (up HBL.out hb)
          clear hb
          dsimp only
          refine hK.out _ _ (hAt.out _ HBL.out) (fun _ => ?_)
          clear hK K
          try go_frame
          refine th 6 ?_
          go_frame
          refine th 7 ?_
          go_frame
          refine th 8 ?_
          go_frame
          refine wpAnyH_ready (rs := [10]) (by kernel_rfl) (by simp) (AllReadyH.cons (o := ⟨none, .store 35 (.tmp 7) (.tmp 56), _, _, _, none⟩) rfl (fun K hK => ?_) AllReadyH.nil)
          rw [if_pos (by kernel_rfl)]
          obtain ⟨wq, hstq, hbq, hrq⟩ := hss2.out _ g6 HA6.out.2 HA6.out.1 HBL.out
          refine wp_skip wq (exec_store rfl (vx := .pointer (some ⟨g6, 0, none⟩)) rfl (vy := .agg SC.toArray) rfl hstq) ?_
          replace HBL := Lib.hid hbq
          have HR4 := Lib.hid hrq
          clear hstq hbq hrq HA6
          refine hK.out _ _ (hAt.out _ HBL.out) (fun _ => ?_)
          clear hK K
          try go_frame
          refine th 11 ?_
          go_frame
          refine wpAnyH_done (by kernel_rfl) ?_ _
          obtain ⟨q63, q0, q1⟩ := hLdS.out HR4.out
          obtain ⟨⟨q62, qp⟩, q3, q20⟩ := hLdH.out (HW.out.below HBL.out HL4.out)
          obtain ⟨wn, hstn, hatn, hbn⟩ := hSy.out wq (HBW.out.trans (HBL.out.mono HBW.out.size))
          have HT := Lib.hid (And.intro hatn hbn)
          clear hatn hbn
          go_wp2_with (first
            | ((with_reducible refine wpList_load_row (o := ⟨some 62, .load 33 (.tmp 5), _, _, _, _⟩) rfl 33 (.tmp 5) rfl g4 ?_ 33 CH.toArray (0, 0) _ q62 Try.underlying33 rfl hHi1 ?_); exact rfl)
            | ((with_reducible refine wpList_load_row (o := ⟨some 63, .load 35 (.tmp 7), _, _, _, _⟩) rfl 35 (.tmp 7) rfl g6 ?_ 35 SC.toArray (0, 0) _ q63 Try.underlying35 rfl hSi ?_); exact rfl)
            | ((with_reducible refine wpList_load_mid_g (op := ⟨some 65, .load 25 (.tmp 64), _, _, _, _⟩) (by kernel_rfl) 25 (.tmp 64) rfl g4 3 ?_ C1 _ q3 Try.underlying25 rfl i1 ?_); exact rfl)
            | ((with_reducible refine wpList_load_mid_g (op := ⟨some 67, .load 25 (.tmp 66), _, _, _, _⟩) (by kernel_rfl) 25 (.tmp 66) rfl g4 20 ?_ C2 _ q20 Try.underlying25 rfl i2 ?_); exact rfl)
            | ((with_reducible refine wpList_run (o := ⟨some 74, .build 37 #[(0, .tmp 65), (1, .tmp 67), (2, .tmp 69), (3, .tmp 71), (4, .tmp 73)], _, _, _, _⟩) rfl (.agg FL.toArray) wq ?_ ?_); exact exec_bld5 (k1 := 0) (k2 := 1) (k3 := 2) (k4 := 3) (k5 := 4) rfl (u1 := .agg C1.toArray) (u2 := .agg C2.toArray) (u3 := .int .u16 (u1 : Int)) (u4 := .int .u16 (u2 : Int)) (u5 := .int .u8 (pr.toNat : Int)) rfl rfl rfl rfl rfl (hbf _))
            | ((with_reducible refine wpList_run (o := ⟨some 75, .build 39 #[(0, .tmp 62), (1, .tmp 63), (2, .tmp 74)], _, _, _, _⟩) rfl (.agg D.toArray) wq ?_ ?_); exact exec_bld3 (k1 := 0) (k2 := 1) (k3 := 2) rfl (u1 := .agg CH.toArray) (u2 := .agg SC.toArray) (u3 := .agg FL.toArray) rfl rfl rfl (hb2 _))
            | ((with_reducible refine wpList_stored (o := ⟨none, .store 39 (.tmp 2) (.tmp 75), _, _, _, none⟩) rfl 39 (.tmp 2) (.tmp 75) rfl (.pointer (some ⟨w.heap.size, 0, none⟩)) (.agg D.toArray) ?_ ?_ wn hstn ?_); exact rfl; exact rfl))
          exact bodyPost_ret (ret_pk (p := 2) (q := 3) (by kernel_rfl) rfl HT.out.1 HYw.out rfl) rfl ⟨by rw [← HDY.out]; rfl, HT.out.2⟩
      · rw [hNone hE]
        have hS0 := Lib.hid (hS.out Pk.none Pk.none_wide)
        have k1 := beq_zero hE
        have k2 := bne_zero hE
        rw [← hZ] at hz hbu hsc5 hxi hln hS0 hN4 ⊢
        generalize pkErr l = er at *
        have HZ := Lib.hid hZ
        clear hS hRis hNone hE hYw hYY hb2 hZ hbf hLdS hLdH
        go_enter Try.func8, Try.ntmps8
        go_wp2_with (first
          | (with_reducible refine wpList_alloc_zero (o := ⟨some 2, .alloc 39, _, _, _, _⟩) rfl 39 rfl Z.toArray hz ?_)
          | (with_reducible refine wpList_alloc_zero (o := ⟨some 4, .alloc 39, _, _, _, _⟩) rfl 39 rfl Z.toArray hz ?_)
          | (go_at_call 18; refine hq.out.mono ?_; rintro _ w6 ⟨rfl, hb6⟩; obtain ⟨w7, hsc7, hat7, hb7, hlt7⟩ := hSh1.out _ hb6; have hle7 := hb6.size; have c07 := hX.out w7 hb7; have hc37 := hpa.out hat7; have HW := Lib.hid hat7; have HBW := Lib.hid hb7; have HLW := Lib.hid hlt7; clear hb7 hat7 hlt7; clear hb6)
          | (with_reducible refine wpList_alloc_zero (o := ⟨some 5, .alloc 33, _, _, _, _⟩) rfl 33 rfl ZH.toArray hzh ?_))
        have hAt : Hid (∀ W, Below w7.heap.size w7 W → W.heap[w6.heap.size]? = some (.cells CH.toArray 33 (0, 0)) ∧ W.cell? ⟨w6.heap.size, 2, none⟩ = some (.int .i64 (p : Int))) := Lib.hid fun W hW => by
          have h1 := HW.out.below hW HLW.out
          exact ⟨by rw [← hCHr.out]; exact h1, hpc h1⟩
        obtain ⟨g4, hg4⟩ : ∃ g, g = w6.heap.size := ⟨_, rfl⟩
        have HBL := Lib.hid (drew_self w7)
        have HL4 := HLW
        rw [← hg4] at hAt HL4 HW ⊢
        have hss2 := Lib.hid (hss.out w7)
        clear hc37 hg4 hss hq
        refine wp_region_held_drew (S := fun w' => w'.heap[g4]? = some (.cells CH.toArray 33 (0, 0)) ∧ w'.cell? ⟨g4, 2, none⟩ = some (.int .i64 (p : Int))) (by kernel_rfl) (hAt.out _ HBL.out) (fun hHeld => ?_)
        refine th 0 (v := .agg CH.toArray) ?_ (hy := fun wy hSw => by exact exec_load (t := 33) (x := .tmp 5) rfl (pv := .pointer (some ⟨g4, 0, none⟩)) rfl (run_loadAt_mid wy g4 0 33 CH _ (row_range hSw.1) Try.underlying33 rfl hHi2))
        go_frame
        refine th 1 ?_
        go_frame
        refine th 2 ?_
        go_frame
        refine th 3 (v := .int .i64 (p : Int)) ?_ (hy := fun wy hSw => by (obtain ⟨_, s2⟩ := hSw; go_simp <;> with_reducible rfl))
        go_frame
        refine th 4 ?_
        go_frame
        refine wpAnyH_ready (rs := [5, 9]) (by kernel_rfl) (by simp) (AllReadyH.cons (o := ⟨some 55, .call { callee := .value (.func 20), args := #[.tmp 50, .tmp 54], argTypes := #[33, 22] }, _, _, _, none⟩) rfl (fun K hK => ?_) (AllReadyH.cons (o := ⟨some 7, .alloc 35, _, _, _, none⟩) rfl (fun K hK => ?_) AllReadyH.nil))
        · rw [if_pos (by kernel_rfl)]
          go_simp
          refine (hsg.out _ (HBW.out.trans (HBL.out.mono HBW.out.size))).mono ?_
          rintro _ wS ⟨rfl, hb⟩
          replace HBL := Lib.hid (up HBL.out hb)
          clear hb
          dsimp only
          refine hK.out _ _ (hAt.out _ HBL.out) (fun _ => ?_)
          clear hK K
          try go_frame
          refine th 6 ?_
          go_frame
          refine th 7 ?_
          go_frame
          refine th 8 ?_
          go_frame
          refine wpAnyH_ready (rs := [9]) (by kernel_rfl) (by simp) (AllReadyH.cons (o := ⟨some 7, .alloc 35, _, _, _, none⟩) rfl (fun K hK => ?_) AllReadyH.nil)
          rw [if_pos (by kernel_rfl)]
          refine wp_run (.pointer (some ⟨wS.heap.size, 0, none⟩)) _ (exec_allocP rfl hzs _) ?_
          have hb := up_alloc HBL.out (.cells ZS.toArray 35)
          have ha := heap_alloc_last wS (.cells ZS.toArray 35)
          obtain ⟨g6, hg6⟩ : ∃ g, g = wS.heap.size := ⟨_, rfl⟩
          have hle : w7.heap.size ≤ wS.heap.size := HBL.out.size
          rw [← hg6] at ha hle ⊢
          generalize wS.alloc (.cells ZS.toArray 35) = wa at hb ha ⊢
          replace HBL := Lib.hid hb
          have HA6 := Lib.hid (And.intro ha hle)
          clear hb ha hle hg6
          refine hK.out _ _ (hAt.out _ HBL.out) (fun _ => ?_)
          clear hK K
          try go_frame
          refine wpAnyH_ready (rs := [10]) (by kernel_rfl) (by simp) (AllReadyH.cons (o := ⟨none, .store 35 (.tmp 7) (.tmp 56), _, _, _, none⟩) rfl (fun K hK => ?_) AllReadyH.nil)
          rw [if_pos (by kernel_rfl)]
          obtain ⟨wq, hstq, hbq, hrq⟩ := hss2.out _ g6 HA6.out.2 HA6.out.1 HBL.out
          refine wp_skip wq (exec_store rfl (vx := .pointer (some ⟨g6, 0, none⟩)) rfl (vy := .agg SC.toArray) rfl hstq) ?_
          replace HBL := Lib.hid hbq
          have HR4 := Lib.hid hrq
          clear hstq hbq hrq HA6
          refine hK.out _ _ (hAt.out _ HBL.out) (fun _ => ?_)
          clear hK K
          try go_frame
          refine th 11 ?_
          go_frame
          refine wpAnyH_done (by kernel_rfl) ?_ _
          have hbX := HBW.out.trans (HBL.out.mono HBW.out.size)
          obtain ⟨wn, hstn, hatn, hbn⟩ := hS0.out wq hbX
          have HT := Lib.hid (And.intro hatn hbn)
          have hn4 := hN4.out wq hbX
          clear hatn hbn hbX
          go_wp2_with (first
            | ((with_reducible refine wpList_load_row (o := ⟨some 60, .load 39 (.tmp 4), _, _, _, _⟩) rfl 39 (.tmp 4) rfl (w.heap.size + 1) ?_ 39 Z.toArray (0, 0) _ hn4 Try.underlying39 rfl hxi ?_); exact rfl)
            | ((with_reducible refine wpList_stored (o := ⟨none, .store 39 (.tmp 2) (.tmp 60), _, _, _, none⟩) rfl 39 (.tmp 2) (.tmp 60) rfl (.pointer (some ⟨w.heap.size, 0, none⟩)) (.agg Z.toArray) ?_ ?_ wn hstn ?_); exact rfl; exact rfl))
          exact bodyPost_ret (ret_pk (p := 2) (q := 3) (by kernel_rfl) rfl HT.out.1 Pk.none_wide rfl) rfl ⟨by rw [pkV, ← HZ.out]; rfl, HT.out.2⟩
        · rw [if_pos (by kernel_rfl)]
          refine wp_run (.pointer (some ⟨w7.drew.heap.size, 0, none⟩)) _ (exec_allocP rfl hzs _) ?_
          have hb := up_alloc HBL.out (.cells ZS.toArray 35)
          have ha := heap_alloc_last w7.drew (.cells ZS.toArray 35)
          obtain ⟨g6, hg6⟩ : ∃ g, g = w7.drew.heap.size := ⟨_, rfl⟩
          have hle : w7.heap.size ≤ w7.drew.heap.size := HBL.out.size
          rw [← hg6] at ha hle ⊢
          generalize w7.drew.alloc (.cells ZS.toArray 35) = wa at hb ha ⊢
          replace HBL := Lib.hid hb
          have HA6 := Lib.hid (And.intro ha hle)
          clear hb ha hle hg6
          refine hK.out _ _ (hAt.out _ HBL.out) (fun _ => ?_)
          clear hK K
          try go_frame
          refine wpAnyH_ready (rs := [5]) (by kernel_rfl) (by simp) (AllReadyH.cons (o := ⟨some 55, .call { callee := .value (.func 20), args := #[.tmp 50, .tmp 54], argTypes := #[33, 22] }, _, _, _, none⟩) rfl (fun K hK => ?_) AllReadyH.nil)
          rw [if_pos (by kernel_rfl)]
          go_simp
          refine (hsg.out _ (HBW.out.trans (HBL.out.mono HBW.out.size))).mono ?_
          rintro _ wS ⟨rfl, hb⟩
          replace HA6 := Lib.hid (And.intro ((hb.block _ (Array.getElem?_eq_some_iff.1 HA6.out.1).1).trans HA6.out.1) HA6.out.2)
          replace HBL := Lib.hid (up HBL.out hb)
          clear hb
          dsimp only
          refine hK.out _ _ (hAt.out _ HBL.out) (fun _ => ?_)
          clear hK K
          try go_frame
          refine th 6 ?_
          go_frame
          refine th 7 ?_
          go_frame
          refine th 8 ?_
          go_frame
          refine wpAnyH_ready (rs := [10]) (by kernel_rfl) (by simp) (AllReadyH.cons (o := ⟨none, .store 35 (.tmp 7) (.tmp 56), _, _, _, none⟩) rfl (fun K hK => ?_) AllReadyH.nil)
          rw [if_pos (by kernel_rfl)]
          obtain ⟨wq, hstq, hbq, hrq⟩ := hss2.out _ g6 HA6.out.2 HA6.out.1 HBL.out
          refine wp_skip wq (exec_store rfl (vx := .pointer (some ⟨g6, 0, none⟩)) rfl (vy := .agg SC.toArray) rfl hstq) ?_
          replace HBL := Lib.hid hbq
          have HR4 := Lib.hid hrq
          clear hstq hbq hrq HA6
          refine hK.out _ _ (hAt.out _ HBL.out) (fun _ => ?_)
          clear hK K
          try go_frame
          refine th 11 ?_
          go_frame
          refine wpAnyH_done (by kernel_rfl) ?_ _
          have hbX := HBW.out.trans (HBL.out.mono HBW.out.size)
          obtain ⟨wn, hstn, hatn, hbn⟩ := hS0.out wq hbX
          have HT := Lib.hid (And.intro hatn hbn)
          have hn4 := hN4.out wq hbX
          clear hatn hbn hbX
          go_wp2_with (first
            | ((with_reducible refine wpList_load_row (o := ⟨some 60, .load 39 (.tmp 4), _, _, _, _⟩) rfl 39 (.tmp 4) rfl (w.heap.size + 1) ?_ 39 Z.toArray (0, 0) _ hn4 Try.underlying39 rfl hxi ?_); exact rfl)
            | ((with_reducible refine wpList_stored (o := ⟨none, .store 39 (.tmp 2) (.tmp 60), _, _, _, none⟩) rfl 39 (.tmp 2) (.tmp 60) rfl (.pointer (some ⟨w.heap.size, 0, none⟩)) (.agg Z.toArray) ?_ ?_ wn hstn ?_); exact rfl; exact rfl))
          exact bodyPost_ret (ret_pk (p := 2) (q := 3) (by kernel_rfl) rfl HT.out.1 Pk.none_wide rfl) rfl ⟨by rw [pkV, ← HZ.out]; rfl, HT.out.2⟩
  · rw [if_pos hE] at hIs
    rw [hNone (by omega), hIs]
    have hS0 := Lib.hid (hS.out Pk.none Pk.none_wide)
    have k1 := beq_zero hE
    have k2 := bne_zero hE
    clear hS hNone hIs hE hHw hr hr5 hlc hb5 hHi1 hHi2 hatg hat5 hc hbl hx hHi h0 eE eH hSh hxl
    unfold pkV
    rw [← hm] at *
    clear hm
    generalize pkRE l = er at *
    generalize hdC Hd.zero = ZH at *
    obtain ⟨Z, hZ⟩ : ∃ Z, Z = pkC Pk.none := ⟨_, rfl⟩
    rw [← hZ] at hz hbu hsc5 hS0 hN4 hxi hln ⊢
    have HZ := Lib.hid hZ
    clear hZ
    go_enter Try.func8, Try.ntmps8
    go_wp2_with (first
      | (with_reducible refine wpList_alloc_zero (o := ⟨some 2, .alloc 39, _, _, _, _⟩) rfl 39 rfl Z.toArray hz ?_)
      | (with_reducible refine wpList_alloc_zero (o := ⟨some 4, .alloc 39, _, _, _, _⟩) rfl 39 rfl Z.toArray hz ?_)
      | (go_at_call 18; refine hq.out.mono ?_; rintro _ w6 ⟨rfl, hb6⟩; obtain ⟨w7, hsc7, hat7, hb7, hlt7⟩ := hSh1.out _ hb6; have hle7 := hb6.size; have c07 := hX.out w7 hb7; obtain ⟨wn, hstn, hatn, hbn⟩ := hS0.out w7 hb7; have HT := Lib.hid (And.intro hatn hbn); have hn4 := hN4.out w7 hb7; clear hatn hbn; clear hb7 hat7 hlt7; clear hb6)
      | (with_reducible refine wpList_alloc_zero (o := ⟨some 5, .alloc 33, _, _, _, _⟩) rfl 33 rfl ZH.toArray hzh ?_)
      | ((with_reducible refine wpList_load_row (o := ⟨some 44, .load 39 (.tmp 4), _, _, _, _⟩) rfl 39 (.tmp 4) rfl (w.heap.size + 1) ?_ 39 Z.toArray (0, 0) _ hn4 Try.underlying39 rfl hxi ?_); exact rfl)
      | ((with_reducible refine wpList_stored (o := ⟨none, .store 39 (.tmp 2) (.tmp 44), _, _, _, none⟩) rfl 39 (.tmp 2) (.tmp 44) rfl (.pointer (some ⟨w.heap.size, 0, none⟩)) (.agg Z.toArray) ?_ ?_ wn hstn ?_); exact rfl; exact rfl))
    exact bodyPost_ret (ret_pk (p := 2) (q := 3) (by kernel_rfl) rfl HT.out.1 Pk.none_wide rfl) rfl ⟨by rw [pkV, ← HZ.out]; rfl, HT.out.2⟩
set_option maxRecDepth 100000 in
set_option maxHeartbeats 1000000 in
theorem rpkParse_6 {A : Option Addr} {c : Nat} {l : List UInt8} {w : World} (hr : Rd w w.heap.size (.slice A l.length c) (cellsB l)) (h0 : l.length ≠ 0) (hHi : pkHi l = 6) :
    Calls Try.prog 8 #[.slice A l.length c] w fun e w' => e = .returned (.tuple #[pkV (pkRead l), .int .i64 ((pkErr l : Nat) : Int)]) ∧ Below w.heap.size w w' := by
  have hz : ∀ w, (zeroValue 39).run Try.prog w = .ok (.agg (pkC Pk.none).toArray) w := zero_pk
  have hbu : ∀ W, (Instr.build 39 #[]).run Try.prog W = .ok (.agg (pkC Pk.none).toArray) W := build_pk0
  obtain ⟨w5, hsc5, hat5, hatg, hb5, hs5⟩ := rpk_start w
  have hxi := info_pkA Pk.none_wide
  have hln := pkC_length Pk.none_wide
  have hr5 : Rd w5 w5.heap.size (.slice A l.length c) (cellsB l) := (hr.below hb5).more (by omega)
  have hS : Hid (∀ y : Pk, y.Wide → ∀ W, Below w5.heap.size w5 W → ∃ W', (Instr.storeAt 39 (.pointer (some ⟨w.heap.size, 0, none⟩)) (.agg (pkC y).toArray)).run Try.prog W = .ok () W' ∧ PkAt W' w.heap.size y ∧ Below w.heap.size w W') := Lib.hid fun y hy W hW => by
    obtain ⟨W', hst, hat, hgr, _⟩ := store_pk (w := W) (g := w.heap.size) (a := Pk.none) (b := y) ((hW.block _ (by omega)).trans hatg) Pk.none_wide hy
    exact ⟨W', hst, hat, grown_below (hb5.trans (hW.mono (by omega))) hgr (Nat.le_refl _)⟩
  have hN4 : Hid (∀ W, Below w5.heap.size w5 W → W.heap[w.heap.size + 1]? = some (.cells (pkC Pk.none).toArray 39 (0, 0))) := Lib.hid fun W hW => (hW.block _ (by omega)).trans hat5
  have hNone : pkErr l ≠ 0 → pkRead l = Pk.none := fun h => by unfold pkRead; rw [if_neg h]
  have hIs := pkErr_is l
  have hzh : ∀ w, (zeroValue 33).run Try.prog w = .ok (.agg (hdC Hd.zero).toArray) w := zero_hd
  have hzs : ∀ w, (zeroValue 35).run Try.prog w = .ok (.agg (sgC Sg.none).toArray) w := zero_sg
  have eE : pkRE l = sxErr l := by unfold pkRE; rw [if_neg h0, if_neg (by omega), if_pos hHi]
  have eH : pkRH l = sxRead l := by unfold pkRH; rw [if_neg h0, if_neg (by omega), if_pos hHi]
  have hlc : l.length ≤ c := by
    obtain ⟨_, _, e, hlc, _, _⟩ := hr.bytes
    injection e with e1 e2 e3
    omega
  obtain ⟨m, hm⟩ : ∃ m, m = l.length := ⟨_, rfl⟩
  obtain ⟨b, o, rfl, hbl, hc⟩ := hr5.addr (by omega)
  have hX : Hid (∀ W, Below w5.heap.size w5 W → W.cell? ⟨b, o, none⟩ = some (.int .u8 ((l.getD 0 0).toNat : Int))) := Lib.hid fun W hW => by
    have c0 := hc 0 (by omega)
    rw [getD_cell (by omega), Nat.add_zero] at c0
    exact (hW.cell (p := ⟨b, o, none⟩) hbl).trans c0
  obtain ⟨x, hx⟩ : ∃ x, x = l.getD 0 0 := ⟨_, rfl⟩
  rw [← hx] at hX
  have hxl := x.toNat_lt
  have hpd : (x.toNat : Int).tdiv 16 = 6 := by
    have : x.toNat / 16 = 6 := by rw [hx]; exact hHi
    rw [Int.tdiv_eq_ediv_of_nonneg (by omega)]; omega
  have c0 := hX.out w5 (Below.refl _ _)
  have hn0 : ((m : Int) == 0) = false := beq_zero (by omega)
  have n0 : (0 : Int) < (m : Int) := by omega
  have hSh : Hid (∀ (y : Hd), y.Wide → ∀ W, Below w5.heap.size w5 W → ∃ W', (storeCells ⟨W.heap.size, 0, none⟩ (hdC y)).run Try.prog (W.alloc (.cells (hdC Hd.zero).toArray 33)) = .ok () W' ∧ HdAt W' W.heap.size y ∧ Below w5.heap.size w5 W' ∧ W.heap.size < W'.heap.size) := Lib.hid fun y hy W hW => by
    obtain ⟨W', _, hat, hgr, hsz, hsc⟩ := store_hd (w := W.alloc (.cells (hdC Hd.zero).toArray 33)) (g := W.heap.size) (a := Hd.zero) (b := y) (heap_alloc_last W _) Hd.zero_wide hy
    exact ⟨W', hsc, hat, grown_below (up_alloc hW _) hgr hW.size, by rw [hsz]; simp⟩
  have hq : Hid (Calls Try.prog 18 #[.slice (some ⟨b, o, none⟩) l.length c] w5 fun e w' => e = .returned (.tuple #[.agg (hdC (ifRead l)).toArray, .int .i64 ((ifErr l : Nat) : Int)]) ∧ Below w5.heap.size w5 w') := Lib.hid (rifRead_any hr5)
  have hq6 : Hid (∀ W, Below w5.heap.size w5 W → Calls Try.prog 19 #[.slice (some ⟨b, o, none⟩) l.length c] W fun e w' => e = .returned (.tuple #[.agg (hdC (pkRH l)).toArray, .int .i64 ((pkRE l : Nat) : Int)]) ∧ Below W.heap.size W w') := Lib.hid fun W hW => by rw [eE, eH]; exact rsxRead_any ((hr5.below hW).more hW.size)
  have hHw := pkRH_wide l
  have hSh1 := Lib.hid (hSh.out (ifRead l) (ifRead_wide l))
  have hl4 := hdC_length (ifRead_wide l)
  have hSh2 : Hid (∀ (g5 : Nat) (W : World), w5.heap.size ≤ g5 → HdAt W g5 (ifRead l) → Below w5.heap.size w5 W → ∃ W', (Instr.storeAt 33 (.pointer (some ⟨g5, 0, none⟩)) (.agg (hdC (pkRH l)).toArray)).run Try.prog W = .ok () W' ∧ HdAt W' g5 (pkRH l) ∧ Below w5.heap.size w5 W' ∧ W'.heap.size = W.heap.size) := Lib.hid fun g5 W hg hat hW => by
    obtain ⟨W', hst, hat', hgr, hsz, _⟩ := store_hd (w := W) (g := g5) (a := ifRead l) (b := pkRH l) hat (ifRead_wide l) hHw
    exact ⟨W', hst, hat', grown_below hW hgr hg, hsz⟩
  have hkeep : Hid (∀ (g5 : Nat) (W W' : World), HdAt W g5 (ifRead l) → Below W.heap.size W W' → g5 < W.heap.size → HdAt W' g5 (ifRead l)) := Lib.hid fun g5 W W' h hb hg => h.below hb hg
  have hHi1 := info_hdA hHw
  have hHi2 := info_hd hHw
  by_cases hE : pkRE l = 0
  · rw [if_neg (by omega)] at hIs
    rw [hE] at hq6
    obtain ⟨p, hp, p1, p2, p3⟩ := pkRE_pos hE
    have hpc : ∀ {W : World} {g : Nat}, HdAt W g (pkRH l) → W.cell? ⟨g, 2, none⟩ = some (.int .i64 (p : Int)) := fun h => by rw [hdC_pos h, hp]
    cases hpt : (pkRH l).part with
    | true =>
      rw [hpt, if_pos rfl] at hIs
      rw [hNone (by omega), hIs]
      have hS0 := Lib.hid (hS.out Pk.none Pk.none_wide)
      have hpa : Hid (∀ {W : World} {g : Nat}, HdAt W g (pkRH l) → W.cell? ⟨g, 37, none⟩ = some (.bool true)) := Lib.hid fun h => by rw [hdC_part hHw h, hpt]
      clear hS hNone hIs hE hHw hpt hp hpc p1 p2 p3 hr hr5 hlc hb5 hHi1 hHi2 hatg hat5 hc hbl hx hHi h0 eE eH hSh hxl
      unfold pkV
      rw [← hm] at *
      clear hm
      generalize hdC Hd.zero = ZH at *
      generalize hdC (ifRead l) = CF at *
      generalize ifErr l = ef at *
      obtain ⟨Z, hZ⟩ : ∃ Z, Z = pkC Pk.none := ⟨_, rfl⟩
      rw [← hZ] at hz hbu hsc5 hS0 hN4 hxi hln ⊢
      have HZ := Lib.hid hZ
      clear hZ
      go_enter Try.func8, Try.ntmps8
      go_wp2_with (first
        | (with_reducible refine wpList_alloc_zero (o := ⟨some 2, .alloc 39, _, _, _, _⟩) rfl 39 rfl Z.toArray hz ?_)
        | (with_reducible refine wpList_alloc_zero (o := ⟨some 4, .alloc 39, _, _, _, _⟩) rfl 39 rfl Z.toArray hz ?_)
        | (go_at_call 18; refine hq.out.mono ?_; rintro _ w6 ⟨rfl, hb6⟩; obtain ⟨w7, hsc7, hat7, hb7, hlt7⟩ := hSh1.out _ hb6; have hle7 := hb6.size; have HB7 := Lib.hid hb7; have HA7 := Lib.hid hat7; have HLT := Lib.hid hlt7; have HLE := Lib.hid hle7; have c07 := hX.out w7 hb7; clear hb7 hat7 hlt7 hle7; clear hb6)
        | (with_reducible refine wpList_alloc_zero (o := ⟨some 5, .alloc 33, _, _, _, _⟩) rfl 33 rfl ZH.toArray hzh ?_)
        | (go_at_call 19; refine (hq6.out _ HB7.out).mono ?_; rintro _ w8 ⟨rfl, hb8⟩; obtain ⟨w9, hst9, hat9, hb9, hsz9⟩ := hSh2.out _ _ HLE.out (hkeep.out _ _ _ HA7.out hb8 HLT.out) (HB7.out.trans (hb8.mono HB7.out.size)); have hlt9 : w6.heap.size < w9.heap.size := (Array.getElem?_eq_some_iff.1 hat9).1; have hc37 := hpa.out hat9; obtain ⟨wn, hstn, hatn, hbn⟩ := hS0.out w9 hb9; have HT := Lib.hid (And.intro hatn hbn); have hn4 := hN4.out w9 hb9; clear hatn hbn; clear hb9 hat9 hlt9; clear hb8)
        | ((with_reducible refine wpList_stored (o := ⟨none, .store 33 (.tmp 5) (.tmp 40), _, _, _, none⟩) rfl 33 (.tmp 5) (.tmp 40) rfl (.pointer (some ⟨w6.heap.size, 0, none⟩)) (.agg (hdC (pkRH l)).toArray) ?_ ?_ w9 hst9 ?_); exact rfl; exact rfl)
        | ((with_reducible refine wpList_load_row (o := ⟨some 48, .load 39 (.tmp 4), _, _, _, _⟩) rfl 39 (.tmp 4) rfl (w.heap.size + 1) ?_ 39 Z.toArray (0, 0) _ hn4 Try.underlying39 rfl hxi ?_); exact rfl)
        | ((with_reducible refine wpList_stored (o := ⟨none, .store 39 (.tmp 2) (.tmp 48), _, _, _, none⟩) rfl 39 (.tmp 2) (.tmp 48) rfl (.pointer (some ⟨w.heap.size, 0, none⟩)) (.agg Z.toArray) ?_ ?_ wn hstn ?_); exact rfl; exact rfl))
      exact bodyPost_ret (ret_pk (p := 2) (q := 3) (by kernel_rfl) rfl HT.out.1 Pk.none_wide rfl) rfl ⟨by rw [pkV, ← HZ.out]; rfl, HT.out.2⟩
    | false =>
      rw [hpt, if_neg (by decide)] at hIs
      have hpa : Hid (∀ {W : World} {g : Nat}, HdAt W g (pkRH l) → W.cell? ⟨g, 37, none⟩ = some (.bool false)) := Lib.hid fun h => by rw [hdC_part hHw h, hpt]
      obtain ⟨A2, hA2, kh⟩ := cut_l (P := Try.prog) (t := 22) Try.underlying22 (i := _) (e := 5) rfl rfl (some ⟨b, o, none⟩) l.length c p p2 (p : Int) rfl
      have hr2 := hr5.cut (lo := p) (hi := l.length) p2 (Nat.le_refl _)
      rw [← hA2, List.take_of_length_le (by rw [cellsB_length]; exact Nat.le_refl _), cellsB_drop] at hr2
      have hdl : (l.drop p).length = l.length - p := List.length_drop ..
      rw [hp, Int.toNat_natCast] at hIs
      have hsg : Hid (∀ W, Below w5.heap.size w5 W → Calls Try.prog 20 #[.agg (hdC (pkRH l)).toArray, .slice A2 (l.length - p) (c - p)] W fun e w' => e = .returned (.tuple #[.agg (sgC (sgRead (pkRH l) (l.drop p))).toArray, .int .i64 ((pkErr l : Nat) : Int)]) ∧ Below W.heap.size W w') := Lib.hid fun W hW => by
        have h3 := (hr2.below hW).more hW.size
        rw [← hdl] at h3 ⊢
        rw [hIs]
        exact rsRead_any (pkRH l) hHw h3 (by omega)
      have hSi := info_sgA (sgRead (pkRH l) (l.drop p))
      have hSw := sgRead_ports (pkRH l) (l.drop p)
      have hRis : pkErr l = 0 → pkRead l = ⟨pkRH l, sgRead (pkRH l) (l.drop p), pkFlow (pkRH l) (sgRead (pkRH l) (l.drop p))⟩ := fun h => by
        have := pkRead_is h
        rw [hp, Int.toNat_natCast] at this
        exact this
      have hss : Hid (∀ (w2 W : World) (g : Nat), w2.heap.size ≤ g → W.heap[g]? = some (.cells (sgC Sg.none).toArray 35 (0, 0)) → Below w2.heap.size w2 W → ∃ W', (Instr.storeAt 35 (.pointer (some ⟨g, 0, none⟩)) (.agg (sgC (sgRead (pkRH l) (l.drop p))).toArray)).run Try.prog W = .ok () W' ∧ Below w2.heap.size w2 W' ∧ SgAt W' g (sgRead (pkRH l) (l.drop p))) := Lib.hid fun w2 W g hg hat hW => by
        obtain ⟨W', hst, hat, hgr, _⟩ := store_sg (w := W) (g := g) (a := Sg.none) (b := sgRead (pkRH l) (l.drop p)) hat
        exact ⟨W', hst, grown_below hW hgr hg, hat⟩
      have hb2 : ∀ W, (Instr.build 39 #[(0, .agg (hdC (pkRH l)).toArray), (1, .agg (sgC (sgRead (pkRH l) (l.drop p))).toArray), (2, .agg (flC (pkFlow (pkRH l) (sgRead (pkRH l) (l.drop p)))).toArray)]).run Try.prog W = .ok (.agg (pkC ⟨pkRH l, sgRead (pkRH l) (l.drop p), pkFlow (pkRH l) (sgRead (pkRH l) (l.drop p))⟩).toArray) W := fun W => build_pk _ hHw _ _ ⟨hHw.1, hHw.2, hSw⟩ W
      have hbf : ∀ W, (Instr.build 37 #[(0, .agg (adC (pkRH l).src).toArray), (1, .agg (adC (pkRH l).dst).toArray), (2, .int .u16 ((sgRead (pkRH l) (l.drop p)).src : Int)), (3, .int .u16 ((sgRead (pkRH l) (l.drop p)).dst : Int)), (4, .int .u8 ((pkRH l).proto.toNat : Int))]).run Try.prog W = .ok (.agg (flC (pkFlow (pkRH l) (sgRead (pkRH l) (l.drop p)))).toArray) W := fun W => build_fl _ _ hHw.1 hHw.2 _ _ _ W
      have hLdS : Hid (∀ {W : World} {g : Nat}, SgAt W g (sgRead (pkRH l) (l.drop p)) → W.heap[g]? = some (.cells (sgC (sgRead (pkRH l) (l.drop p))).toArray 35 (0, 0)) ∧ W.cell? ⟨g, 0, none⟩ = some (.int .u16 ((sgRead (pkRH l) (l.drop p)).src : Int)) ∧ W.cell? ⟨g, 1, none⟩ = some (.int .u16 ((sgRead (pkRH l) (l.drop p)).dst : Int))) := Lib.hid fun h => ⟨h, (sgC_cell h).1, (sgC_cell h).2.1⟩
      have hLdH : Hid (∀ {W : World} {g : Nat}, HdAt W g (pkRH l) → (W.heap[g]? = some (.cells (hdC (pkRH l)).toArray 33 (0, 0)) ∧ W.cell? ⟨g, 1, none⟩ = some (.int .u8 ((pkRH l).proto.toNat : Int))) ∧ W.rangeAt g 3 (adC (pkRH l).src) ∧ W.rangeAt g 20 (adC (pkRH l).dst)) := Lib.hid fun h => ⟨⟨h, hdC_proto h⟩, hdC_src h, hdC_dst hHw h⟩
      have hpi : (p : Int) ≤ (l.length : Int) := by omega
      have hp0 : (0 : Int) ≤ (p : Int) := by omega
      have hYw : Pk.Wide ⟨pkRH l, sgRead (pkRH l) (l.drop p), pkFlow (pkRH l) (sgRead (pkRH l) (l.drop p))⟩ := ⟨hHw, hHw.1, hHw.2, hSw⟩
      have i1 := info_ad hHw.1
      have i2 := info_ad hHw.2
      clear hIs hHw hpt hp p1 p2 p3 hr hr5 hlc hb5 hr2 hdl hA2 hE hSw hatg hat5 hc hbl hx hHi h0 eE eH hSh hxl
      unfold pkV
      rw [← hm] at *
      generalize hYY : (⟨pkRH l, sgRead (pkRH l) (l.drop p), pkFlow (pkRH l) (sgRead (pkRH l) (l.drop p))⟩ : Pk) = Y at *
      generalize flC (pkFlow (pkRH l) (sgRead (pkRH l) (l.drop p))) = FL at *
      generalize sgRead (pkRH l) (l.drop p) = SGv at *
      generalize hSC : sgC SGv = SC at *
      generalize SGv.src = u1 at *
      generalize SGv.dst = u2 at *
      generalize hdC Hd.zero = ZH at *
      generalize hdC (ifRead l) = CF at *
      generalize ifErr l = ef at *
      generalize adC (pkRH l).src = C1 at *
      generalize adC (pkRH l).dst = C2 at *
      generalize (pkRH l).proto = pr at *
      generalize hCH : hdC (pkRH l) = CH at *
      generalize hZS : sgC Sg.none = ZS at *
      generalize hn2 : m - p = n2 at *
      generalize hc2 : c - p = c2 at *
      have hCHr := Lib.hid hCH
      clear hn2 hc2 hSC hZS hCH hm
      obtain ⟨Z, hZ⟩ : ∃ Z, Z = pkC Pk.none := ⟨_, rfl⟩
      by_cases hE : pkErr l = 0
      · have hRY := hRis hE
        rw [hE] at hsg
        rw [hRY, hE]
        have hSy := Lib.hid (hS.out Y hYw)
        have HYw := Lib.hid hYw
        rw [← hZ] at hz hbu hsc5 hxi hln
        clear hS hRis hNone hE hRY hYw hYY hZ hN4
        generalize hDY : pkC Y = D at *
        have HDY := Lib.hid hDY
        clear hDY
        go_enter Try.func8, Try.ntmps8
        go_wp2_with (first
          | (with_reducible refine wpList_alloc_zero (o := ⟨some 2, .alloc 39, _, _, _, _⟩) rfl 39 rfl Z.toArray hz ?_)
          | (with_reducible refine wpList_alloc_zero (o := ⟨some 4, .alloc 39, _, _, _, _⟩) rfl 39 rfl Z.toArray hz ?_)
          | (go_at_call 18; refine hq.out.mono ?_; rintro _ w6 ⟨rfl, hb6⟩; obtain ⟨w7, hsc7, hat7, hb7, hlt7⟩ := hSh1.out _ hb6; have hle7 := hb6.size; have HB7 := Lib.hid hb7; have HA7 := Lib.hid hat7; have HLT := Lib.hid hlt7; have HLE := Lib.hid hle7; have c07 := hX.out w7 hb7; clear hb7 hat7 hlt7 hle7; clear hb6)
          | (with_reducible refine wpList_alloc_zero (o := ⟨some 5, .alloc 33, _, _, _, _⟩) rfl 33 rfl ZH.toArray hzh ?_)
          | (go_at_call 19; refine (hq6.out _ HB7.out).mono ?_; rintro _ w8 ⟨rfl, hb8⟩; obtain ⟨w9, hst9, hat9, hb9, hsz9⟩ := hSh2.out _ _ HLE.out (hkeep.out _ _ _ HA7.out hb8 HLT.out) (HB7.out.trans (hb8.mono HB7.out.size)); have hlt9 : w6.heap.size < w9.heap.size := (Array.getElem?_eq_some_iff.1 hat9).1; have hc37 := hpa.out hat9; have HW := Lib.hid hat9; have HBW := Lib.hid hb9; have HLW := Lib.hid hlt9; clear hb9 hat9 hlt9; clear hb8)
          | ((with_reducible refine wpList_stored (o := ⟨none, .store 33 (.tmp 5) (.tmp 40), _, _, _, none⟩) rfl 33 (.tmp 5) (.tmp 40) rfl (.pointer (some ⟨w6.heap.size, 0, none⟩)) (.agg CH.toArray) ?_ ?_ w9 hst9 ?_); exact rfl; exact rfl))
        have hAt : Hid (∀ W, Below w9.heap.size w9 W → W.heap[w6.heap.size]? = some (.cells CH.toArray 33 (0, 0)) ∧ W.cell? ⟨w6.heap.size, 2, none⟩ = some (.int .i64 (p : Int))) := Lib.hid fun W hW => by
          have h1 := HW.out.below hW HLW.out
          exact ⟨by rw [← hCHr.out]; exact h1, hpc h1⟩
        obtain ⟨g4, hg4⟩ : ∃ g, g = w6.heap.size := ⟨_, rfl⟩
        have HBL := Lib.hid (drew_self w9)
        have HL4 := HLW
        rw [← hg4] at hAt HL4 HW ⊢
        have hss2 := Lib.hid (hss.out w9)
        clear hc37 hg4 hss hq
        refine wp_region_held_drew (S := fun w' => w'.heap[g4]? = some (.cells CH.toArray 33 (0, 0)) ∧ w'.cell? ⟨g4, 2, none⟩ = some (.int .i64 (p : Int))) (by kernel_rfl) (hAt.out _ HBL.out) (fun hHeld => ?_)
        refine th 0 (v := .agg CH.toArray) ?_ (hy := fun wy hSw => by exact exec_load (t := 33) (x := .tmp 5) rfl (pv := .pointer (some ⟨g4, 0, none⟩)) rfl (run_loadAt_mid wy g4 0 33 CH _ (row_range hSw.1) Try.underlying33 rfl hHi2))
        go_frame
        refine th 1 ?_
        go_frame
        refine th 2 ?_
        go_frame
        refine th 3 (v := .int .i64 (p : Int)) ?_ (hy := fun wy hSw => by (obtain ⟨_, s2⟩ := hSw; go_simp <;> with_reducible rfl))
        go_frame
        refine th 4 ?_
        go_frame
        refine wpAnyH_ready (rs := [5, 9]) (by kernel_rfl) (by simp) (AllReadyH.cons (o := ⟨some 55, .call { callee := .value (.func 20), args := #[.tmp 50, .tmp 54], argTypes := #[33, 22] }, _, _, _, none⟩) rfl (fun K hK => ?_) (AllReadyH.cons (o := ⟨some 7, .alloc 35, _, _, _, none⟩) rfl (fun K hK => ?_) AllReadyH.nil))
        · rw [if_pos (by kernel_rfl)]
          go_simp
          refine (hsg.out _ (HBW.out.trans (HBL.out.mono HBW.out.size))).mono ?_
          rintro _ wS ⟨rfl, hb⟩
          replace HBL := Lib.hid (up HBL.out hb)
          clear hb
          dsimp only
          refine hK.out _ _ (hAt.out _ HBL.out) (fun _ => ?_)
          clear hK K
          try go_frame
          refine th 6 ?_
          go_frame
          refine th 7 ?_
          go_frame
          refine th 8 ?_
          go_frame
          refine wpAnyH_ready (rs := [9]) (by kernel_rfl) (by simp) (AllReadyH.cons (o := ⟨some 7, .alloc 35, _, _, _, none⟩) rfl (fun K hK => ?_) AllReadyH.nil)
          rw [if_pos (by kernel_rfl)]
          refine wp_run (.pointer (some ⟨wS.heap.size, 0, none⟩)) _ (exec_allocP rfl hzs _) ?_
          have hb := up_alloc HBL.out (.cells ZS.toArray 35)
          have ha := heap_alloc_last wS (.cells ZS.toArray 35)
          obtain ⟨g6, hg6⟩ : ∃ g, g = wS.heap.size := ⟨_, rfl⟩
          have hle : w9.heap.size ≤ wS.heap.size := HBL.out.size
          rw [← hg6] at ha hle ⊢
          generalize wS.alloc (.cells ZS.toArray 35) = wa at hb ha ⊢
          replace HBL := Lib.hid hb
          have HA6 := Lib.hid (And.intro ha hle)
          clear hb ha hle hg6
          refine hK.out _ _ (hAt.out _ HBL.out) (fun _ => ?_)
          clear hK K
          try go_frame
          refine wpAnyH_ready (rs := [10]) (by kernel_rfl) (by simp) (AllReadyH.cons (o := ⟨none, .store 35 (.tmp 7) (.tmp 56), _, _, _, none⟩) rfl (fun K hK => ?_) AllReadyH.nil)
          rw [if_pos (by kernel_rfl)]
          obtain ⟨wq, hstq, hbq, hrq⟩ := hss2.out _ g6 HA6.out.2 HA6.out.1 HBL.out
          refine wp_skip wq (exec_store rfl (vx := .pointer (some ⟨g6, 0, none⟩)) rfl (vy := .agg SC.toArray) rfl hstq) ?_
          replace HBL := Lib.hid hbq
          have HR4 := Lib.hid hrq
          clear hstq hbq hrq HA6
          refine hK.out _ _ (hAt.out _ HBL.out) (fun _ => ?_)
          clear hK K
          try go_frame
          refine th 11 ?_
          go_frame
          refine wpAnyH_done (by kernel_rfl) ?_ _
          obtain ⟨q63, q0, q1⟩ := hLdS.out HR4.out
          obtain ⟨⟨q62, qp⟩, q3, q20⟩ := hLdH.out (HW.out.below HBL.out HL4.out)
          obtain ⟨wn, hstn, hatn, hbn⟩ := hSy.out wq (HBW.out.trans (HBL.out.mono HBW.out.size))
          have HT := Lib.hid (And.intro hatn hbn)
          clear hatn hbn
          go_wp2_with (first
            | ((with_reducible refine wpList_load_row (o := ⟨some 62, .load 33 (.tmp 5), _, _, _, _⟩) rfl 33 (.tmp 5) rfl g4 ?_ 33 CH.toArray (0, 0) _ q62 Try.underlying33 rfl hHi1 ?_); exact rfl)
            | ((with_reducible refine wpList_load_row (o := ⟨some 63, .load 35 (.tmp 7), _, _, _, _⟩) rfl 35 (.tmp 7) rfl g6 ?_ 35 SC.toArray (0, 0) _ q63 Try.underlying35 rfl hSi ?_); exact rfl)
            | ((with_reducible refine wpList_load_mid_g (op := ⟨some 65, .load 25 (.tmp 64), _, _, _, _⟩) (by kernel_rfl) 25 (.tmp 64) rfl g4 3 ?_ C1 _ q3 Try.underlying25 rfl i1 ?_); exact rfl)
            | ((with_reducible refine wpList_load_mid_g (op := ⟨some 67, .load 25 (.tmp 66), _, _, _, _⟩) (by kernel_rfl) 25 (.tmp 66) rfl g4 20 ?_ C2 _ q20 Try.underlying25 rfl i2 ?_); exact rfl)
            | ((with_reducible refine wpList_run (o := ⟨some 74, .build 37 #[(0, .tmp 65), (1, .tmp 67), (2, .tmp 69), (3, .tmp 71), (4, .tmp 73)], _, _, _, _⟩) rfl (.agg FL.toArray) wq ?_ ?_); exact exec_bld5 (k1 := 0) (k2 := 1) (k3 := 2) (k4 := 3) (k5 := 4) rfl (u1 := .agg C1.toArray) (u2 := .agg C2.toArray) (u3 := .int .u16 (u1 : Int)) (u4 := .int .u16 (u2 : Int)) (u5 := .int .u8 (pr.toNat : Int)) rfl rfl rfl rfl rfl (hbf _))
            | ((with_reducible refine wpList_run (o := ⟨some 75, .build 39 #[(0, .tmp 62), (1, .tmp 63), (2, .tmp 74)], _, _, _, _⟩) rfl (.agg D.toArray) wq ?_ ?_); exact exec_bld3 (k1 := 0) (k2 := 1) (k3 := 2) rfl (u1 := .agg CH.toArray) (u2 := .agg SC.toArray) (u3 := .agg FL.toArray) rfl rfl rfl (hb2 _))
            | ((with_reducible refine wpList_stored (o := ⟨none, .store 39 (.tmp 2) (.tmp 75), _, _, _, none⟩) rfl 39 (.tmp 2) (.tmp 75) rfl (.pointer (some ⟨w.heap.size, 0, none⟩)) (.agg D.toArray) ?_ ?_ wn hstn ?_); exact rfl; exact rfl))
          exact bodyPost_ret (ret_pk (p := 2) (q := 3) (by kernel_rfl) rfl HT.out.1 HYw.out rfl) rfl ⟨by rw [← HDY.out]; rfl, HT.out.2⟩
        · rw [if_pos (by kernel_rfl)]
          refine wp_run (.pointer (some ⟨w9.drew.heap.size, 0, none⟩)) _ (exec_allocP rfl hzs _) ?_
          have hb := up_alloc HBL.out (.cells ZS.toArray 35)
          have ha := heap_alloc_last w9.drew (.cells ZS.toArray 35)
          obtain ⟨g6, hg6⟩ : ∃ g, g = w9.drew.heap.size := ⟨_, rfl⟩
          have hle : w9.heap.size ≤ w9.drew.heap.size := HBL.out.size
          rw [← hg6] at ha hle ⊢
          generalize w9.drew.alloc (.cells ZS.toArray 35) = wa at hb ha ⊢
          replace HBL := Lib.hid hb
          have HA6 := Lib.hid (And.intro ha hle)
          clear hb ha hle hg6
          refine hK.out _ _ (hAt.out _ HBL.out) (fun _ => ?_)
          clear hK K
          try go_frame
          refine wpAnyH_ready (rs := [5]) (by kernel_rfl) (by simp) (AllReadyH.cons (o := ⟨some 55, .call { callee := .value (.func 20), args := #[.tmp 50, .tmp 54], argTypes := #[33, 22] }, _, _, _, none⟩) rfl (fun K hK => ?_) AllReadyH.nil)
          rw [if_pos (by kernel_rfl)]
          go_simp
          refine (hsg.out _ (HBW.out.trans (HBL.out.mono HBW.out.size))).mono ?_
          rintro _ wS ⟨rfl, hb⟩
          replace HA6 := Lib.hid (And.intro ((hb.block _ (Array.getElem?_eq_some_iff.1 HA6.out.1).1).trans HA6.out.1) HA6.out.2)
          replace HBL := Lib.hid (up HBL.out hb)
          clear hb
          dsimp only
          refine hK.out _ _ (hAt.out _ HBL.out) (fun _ => ?_)
          clear hK K
          try go_frame
          refine th 6 ?_
          go_frame
          refine th 7 ?_
          go_frame
          refine th 8 ?_
          go_frame
          refine wpAnyH_ready (rs := [10]) (by kernel_rfl) (by simp) (AllReadyH.cons (o := ⟨none, .store 35 (.tmp 7) (.tmp 56), _, _, _, none⟩) rfl (fun K hK => ?_) AllReadyH.nil)
          rw [if_pos (by kernel_rfl)]
          obtain ⟨wq, hstq, hbq, hrq⟩ := hss2.out _ g6 HA6.out.2 HA6.out.1 HBL.out
          refine wp_skip wq (exec_store rfl (vx := .pointer (some ⟨g6, 0, none⟩)) rfl (vy := .agg SC.toArray) rfl hstq) ?_
          replace HBL := Lib.hid hbq
          have HR4 := Lib.hid hrq
          clear hstq hbq hrq HA6
          refine hK.out _ _ (hAt.out _ HBL.out) (fun _ => ?_)
          clear hK K
          try go_frame
          refine th 11 ?_
          go_frame
          refine wpAnyH_done (by kernel_rfl) ?_ _
          obtain ⟨q63, q0, q1⟩ := hLdS.out HR4.out
          obtain ⟨⟨q62, qp⟩, q3, q20⟩ := hLdH.out (HW.out.below HBL.out HL4.out)
          obtain ⟨wn, hstn, hatn, hbn⟩ := hSy.out wq (HBW.out.trans (HBL.out.mono HBW.out.size))
          have HT := Lib.hid (And.intro hatn hbn)
          clear hatn hbn
          go_wp2_with (first
            | ((with_reducible refine wpList_load_row (o := ⟨some 62, .load 33 (.tmp 5), _, _, _, _⟩) rfl 33 (.tmp 5) rfl g4 ?_ 33 CH.toArray (0, 0) _ q62 Try.underlying33 rfl hHi1 ?_); exact rfl)
            | ((with_reducible refine wpList_load_row (o := ⟨some 63, .load 35 (.tmp 7), _, _, _, _⟩) rfl 35 (.tmp 7) rfl g6 ?_ 35 SC.toArray (0, 0) _ q63 Try.underlying35 rfl hSi ?_); exact rfl)
            | ((with_reducible refine wpList_load_mid_g (op := ⟨some 65, .load 25 (.tmp 64), _, _, _, _⟩) (by kernel_rfl) 25 (.tmp 64) rfl g4 3 ?_ C1 _ q3 Try.underlying25 rfl i1 ?_); exact rfl)
            | ((with_reducible refine wpList_load_mid_g (op := ⟨some 67, .load 25 (.tmp 66), _, _, _, _⟩) (by kernel_rfl) 25 (.tmp 66) rfl g4 20 ?_ C2 _ q20 Try.underlying25 rfl i2 ?_); exact rfl)
            | ((with_reducible refine wpList_run (o := ⟨some 74, .build 37 #[(0, .tmp 65), (1, .tmp 67), (2, .tmp 69), (3, .tmp 71), (4, .tmp 73)], _, _, _, _⟩) rfl (.agg FL.toArray) wq ?_ ?_); exact exec_bld5 (k1 := 0) (k2 := 1) (k3 := 2) (k4 := 3) (k5 := 4) rfl (u1 := .agg C1.toArray) (u2 := .agg C2.toArray) (u3 := .int .u16 (u1 : Int)) (u4 := .int .u16 (u2 : Int)) (u5 := .int .u8 (pr.toNat : Int)) rfl rfl rfl rfl rfl (hbf _))
            | ((with_reducible refine wpList_run (o := ⟨some 75, .build 39 #[(0, .tmp 62), (1, .tmp 63), (2, .tmp 74)], _, _, _, _⟩) rfl (.agg D.toArray) wq ?_ ?_); exact exec_bld3 (k1 := 0) (k2 := 1) (k3 := 2) rfl (u1 := .agg CH.toArray) (u2 := .agg SC.toArray) (u3 := .agg FL.toArray) rfl rfl rfl (hb2 _))
            | ((with_reducible refine wpList_stored (o := ⟨none, .store 39 (.tmp 2) (.tmp 75), _, _, _, none⟩) rfl 39 (.tmp 2) (.tmp 75) rfl (.pointer (some ⟨w.heap.size, 0, none⟩)) (.agg D.toArray) ?_ ?_ wn hstn ?_); exact rfl; exact rfl))
          exact bodyPost_ret (ret_pk (p := 2) (q := 3) (by kernel_rfl) rfl HT.out.1 HYw.out rfl) rfl ⟨by rw [← HDY.out]; rfl, HT.out.2⟩
      · rw [hNone hE]
        have hS0 := Lib.hid (hS.out Pk.none Pk.none_wide)
        have k1 := beq_zero hE
        have k2 := bne_zero hE
        rw [← hZ] at hz hbu hsc5 hxi hln hS0 hN4 ⊢
        generalize pkErr l = er at *
        have HZ := Lib.hid hZ
        clear hS hRis hNone hE hYw hYY hb2 hZ hbf hLdS hLdH
        go_enter Try.func8, Try.ntmps8
        go_wp2_with (first
          | (with_reducible refine wpList_alloc_zero (o := ⟨some 2, .alloc 39, _, _, _, _⟩) rfl 39 rfl Z.toArray hz ?_)
          | (with_reducible refine wpList_alloc_zero (o := ⟨some 4, .alloc 39, _, _, _, _⟩) rfl 39 rfl Z.toArray hz ?_)
          | (go_at_call 18; refine hq.out.mono ?_; rintro _ w6 ⟨rfl, hb6⟩; obtain ⟨w7, hsc7, hat7, hb7, hlt7⟩ := hSh1.out _ hb6; have hle7 := hb6.size; have HB7 := Lib.hid hb7; have HA7 := Lib.hid hat7; have HLT := Lib.hid hlt7; have HLE := Lib.hid hle7; have c07 := hX.out w7 hb7; clear hb7 hat7 hlt7 hle7; clear hb6)
          | (with_reducible refine wpList_alloc_zero (o := ⟨some 5, .alloc 33, _, _, _, _⟩) rfl 33 rfl ZH.toArray hzh ?_)
          | (go_at_call 19; refine (hq6.out _ HB7.out).mono ?_; rintro _ w8 ⟨rfl, hb8⟩; obtain ⟨w9, hst9, hat9, hb9, hsz9⟩ := hSh2.out _ _ HLE.out (hkeep.out _ _ _ HA7.out hb8 HLT.out) (HB7.out.trans (hb8.mono HB7.out.size)); have hlt9 : w6.heap.size < w9.heap.size := (Array.getElem?_eq_some_iff.1 hat9).1; have hc37 := hpa.out hat9; have HW := Lib.hid hat9; have HBW := Lib.hid hb9; have HLW := Lib.hid hlt9; clear hb9 hat9 hlt9; clear hb8)
          | ((with_reducible refine wpList_stored (o := ⟨none, .store 33 (.tmp 5) (.tmp 40), _, _, _, none⟩) rfl 33 (.tmp 5) (.tmp 40) rfl (.pointer (some ⟨w6.heap.size, 0, none⟩)) (.agg CH.toArray) ?_ ?_ w9 hst9 ?_); exact rfl; exact rfl))
        have hAt : Hid (∀ W, Below w9.heap.size w9 W → W.heap[w6.heap.size]? = some (.cells CH.toArray 33 (0, 0)) ∧ W.cell? ⟨w6.heap.size, 2, none⟩ = some (.int .i64 (p : Int))) := Lib.hid fun W hW => by
          have h1 := HW.out.below hW HLW.out
          exact ⟨by rw [← hCHr.out]; exact h1, hpc h1⟩
        obtain ⟨g4, hg4⟩ : ∃ g, g = w6.heap.size := ⟨_, rfl⟩
        have HBL := Lib.hid (drew_self w9)
        have HL4 := HLW
        rw [← hg4] at hAt HL4 HW ⊢
        have hss2 := Lib.hid (hss.out w9)
        clear hc37 hg4 hss hq
        refine wp_region_held_drew (S := fun w' => w'.heap[g4]? = some (.cells CH.toArray 33 (0, 0)) ∧ w'.cell? ⟨g4, 2, none⟩ = some (.int .i64 (p : Int))) (by kernel_rfl) (hAt.out _ HBL.out) (fun hHeld => ?_)
        refine th 0 (v := .agg CH.toArray) ?_ (hy := fun wy hSw => by exact exec_load (t := 33) (x := .tmp 5) rfl (pv := .pointer (some ⟨g4, 0, none⟩)) rfl (run_loadAt_mid wy g4 0 33 CH _ (row_range hSw.1) Try.underlying33 rfl hHi2))
        go_frame
        refine th 1 ?_
        go_frame
        refine th 2 ?_
        go_frame
        refine th 3 (v := .int .i64 (p : Int)) ?_ (hy := fun wy hSw => by (obtain ⟨_, s2⟩ := hSw; go_simp <;> with_reducible rfl))
        go_frame
        refine th 4 ?_
        go_frame
        refine wpAnyH_ready (rs := [5, 9]) (by kernel_rfl) (by simp) (AllReadyH.cons (o := ⟨some 55, .call { callee := .value (.func 20), args := #[.tmp 50, .tmp 54], argTypes := #[33, 22] }, _, _, _, none⟩) rfl (fun K hK => ?_) (AllReadyH.cons (o := ⟨some 7, .alloc 35, _, _, _, none⟩) rfl (fun K hK => ?_) AllReadyH.nil))
        · rw [if_pos (by kernel_rfl)]
          go_simp
          refine (hsg.out _ (HBW.out.trans (HBL.out.mono HBW.out.size))).mono ?_
          rintro _ wS ⟨rfl, hb⟩
          replace HBL := Lib.hid (up HBL.out hb)
          clear hb
          dsimp only
          refine hK.out _ _ (hAt.out _ HBL.out) (fun _ => ?_)
          clear hK K
          try go_frame
          refine th 6 ?_
          go_frame
          refine th 7 ?_
          go_frame
          refine th 8 ?_
          go_frame
          refine wpAnyH_ready (rs := [9]) (by kernel_rfl) (by simp) (AllReadyH.cons (o := ⟨some 7, .alloc 35, _, _, _, none⟩) rfl (fun K hK => ?_) AllReadyH.nil)
          rw [if_pos (by kernel_rfl)]
          refine wp_run (.pointer (some ⟨wS.heap.size, 0, none⟩)) _ (exec_allocP rfl hzs _) ?_
          have hb := up_alloc HBL.out (.cells ZS.toArray 35)
          have ha := heap_alloc_last wS (.cells ZS.toArray 35)
          obtain ⟨g6, hg6⟩ : ∃ g, g = wS.heap.size := ⟨_, rfl⟩
          have hle : w9.heap.size ≤ wS.heap.size := HBL.out.size
          rw [← hg6] at ha hle ⊢
          generalize wS.alloc (.cells ZS.toArray 35) = wa at hb ha ⊢
          replace HBL := Lib.hid hb
          have HA6 := Lib.hid (And.intro ha hle)
          clear hb ha hle hg6
          refine hK.out _ _ (hAt.out _ HBL.out) (fun _ => ?_)
          clear hK K
          try go_frame
          refine wpAnyH_ready (rs := [10]) (by kernel_rfl) (by simp) (AllReadyH.cons (o := ⟨none, .store 35 (.tmp 7) (.tmp 56), _, _, _, none⟩) rfl (fun K hK => ?_) AllReadyH.nil)
          rw [if_pos (by kernel_rfl)]
          obtain ⟨wq, hstq, hbq, hrq⟩ := hss2.out _ g6 HA6.out.2 HA6.out.1 HBL.out
          refine wp_skip wq (exec_store rfl (vx := .pointer (some ⟨g6, 0, none⟩)) rfl (vy := .agg SC.toArray) rfl hstq) ?_
          replace HBL := Lib.hid hbq
          have HR4 := Lib.hid hrq
          clear hstq hbq hrq HA6
          refine hK.out _ _ (hAt.out _ HBL.out) (fun _ => ?_)
          clear hK K
          try go_frame
          refine th 11 ?_
          go_frame
          refine wpAnyH_done (by kernel_rfl) ?_ _
          have hbX := HBW.out.trans (HBL.out.mono HBW.out.size)
          obtain ⟨wn, hstn, hatn, hbn⟩ := hS0.out wq hbX
          have HT := Lib.hid (And.intro hatn hbn)
          have hn4 := hN4.out wq hbX
          clear hatn hbn hbX
          go_wp2_with (first
            | ((with_reducible refine wpList_load_row (o := ⟨some 60, .load 39 (.tmp 4), _, _, _, _⟩) rfl 39 (.tmp 4) rfl (w.heap.size + 1) ?_ 39 Z.toArray (0, 0) _ hn4 Try.underlying39 rfl hxi ?_); exact rfl)
            | ((with_reducible refine wpList_stored (o := ⟨none, .store 39 (.tmp 2) (.tmp 60), _, _, _, none⟩) rfl 39 (.tmp 2) (.tmp 60) rfl (.pointer (some ⟨w.heap.size, 0, none⟩)) (.agg Z.toArray) ?_ ?_ wn hstn ?_); exact rfl; exact rfl))
          exact bodyPost_ret (ret_pk (p := 2) (q := 3) (by kernel_rfl) rfl HT.out.1 Pk.none_wide rfl) rfl ⟨by rw [pkV, ← HZ.out]; rfl, HT.out.2⟩
        · rw [if_pos (by kernel_rfl)]
          refine wp_run (.pointer (some ⟨w9.drew.heap.size, 0, none⟩)) _ (exec_allocP rfl hzs _) ?_
          have hb := up_alloc HBL.out (.cells ZS.toArray 35)
          have ha := heap_alloc_last w9.drew (.cells ZS.toArray 35)
          obtain ⟨g6, hg6⟩ : ∃ g, g = w9.drew.heap.size := ⟨_, rfl⟩
          have hle : w9.heap.size ≤ w9.drew.heap.size := HBL.out.size
          rw [← hg6] at ha hle ⊢
          generalize w9.drew.alloc (.cells ZS.toArray 35) = wa at hb ha ⊢
          replace HBL := Lib.hid hb
          have HA6 := Lib.hid (And.intro ha hle)
          clear hb ha hle hg6
          refine hK.out _ _ (hAt.out _ HBL.out) (fun _ => ?_)
          clear hK K
          try go_frame
          refine wpAnyH_ready (rs := [5]) (by kernel_rfl) (by simp) (AllReadyH.cons (o := ⟨some 55, .call { callee := .value (.func 20), args := #[.tmp 50, .tmp 54], argTypes := #[33, 22] }, _, _, _, none⟩) rfl (fun K hK => ?_) AllReadyH.nil)
          rw [if_pos (by kernel_rfl)]
          go_simp
          refine (hsg.out _ (HBW.out.trans (HBL.out.mono HBW.out.size))).mono ?_
          rintro _ wS ⟨rfl, hb⟩
          replace HA6 := Lib.hid (And.intro ((hb.block _ (Array.getElem?_eq_some_iff.1 HA6.out.1).1).trans HA6.out.1) HA6.out.2)
          replace HBL := Lib.hid (up HBL.out hb)
          clear hb
          dsimp only
          refine hK.out _ _ (hAt.out _ HBL.out) (fun _ => ?_)
          clear hK K
          try go_frame
          refine th 6 ?_
          go_frame
          refine th 7 ?_
          go_frame
          refine th 8 ?_
          go_frame
          refine wpAnyH_ready (rs := [10]) (by kernel_rfl) (by simp) (AllReadyH.cons (o := ⟨none, .store 35 (.tmp 7) (.tmp 56), _, _, _, none⟩) rfl (fun K hK => ?_) AllReadyH.nil)
          rw [if_pos (by kernel_rfl)]
          obtain ⟨wq, hstq, hbq, hrq⟩ := hss2.out _ g6 HA6.out.2 HA6.out.1 HBL.out
          refine wp_skip wq (exec_store rfl (vx := .pointer (some ⟨g6, 0, none⟩)) rfl (vy := .agg SC.toArray) rfl hstq) ?_
          replace HBL := Lib.hid hbq
          have HR4 := Lib.hid hrq
          clear hstq hbq hrq HA6
          refine hK.out _ _ (hAt.out _ HBL.out) (fun _ => ?_)
          clear hK K
          try go_frame
          refine th 11 ?_
          go_frame
          refine wpAnyH_done (by kernel_rfl) ?_ _
          have hbX := HBW.out.trans (HBL.out.mono HBW.out.size)
          obtain ⟨wn, hstn, hatn, hbn⟩ := hS0.out wq hbX
          have HT := Lib.hid (And.intro hatn hbn)
          have hn4 := hN4.out wq hbX
          clear hatn hbn hbX
          go_wp2_with (first
            | ((with_reducible refine wpList_load_row (o := ⟨some 60, .load 39 (.tmp 4), _, _, _, _⟩) rfl 39 (.tmp 4) rfl (w.heap.size + 1) ?_ 39 Z.toArray (0, 0) _ hn4 Try.underlying39 rfl hxi ?_); exact rfl)
            | ((with_reducible refine wpList_stored (o := ⟨none, .store 39 (.tmp 2) (.tmp 60), _, _, _, none⟩) rfl 39 (.tmp 2) (.tmp 60) rfl (.pointer (some ⟨w.heap.size, 0, none⟩)) (.agg Z.toArray) ?_ ?_ wn hstn ?_); exact rfl; exact rfl))
          exact bodyPost_ret (ret_pk (p := 2) (q := 3) (by kernel_rfl) rfl HT.out.1 Pk.none_wide rfl) rfl ⟨by rw [pkV, ← HZ.out]; rfl, HT.out.2⟩
  · rw [if_pos hE] at hIs
    rw [hNone (by omega), hIs]
    have hS0 := Lib.hid (hS.out Pk.none Pk.none_wide)
    have k1 := beq_zero hE
    have k2 := bne_zero hE
    clear hS hNone hIs hE hHw hr hr5 hlc hb5 hHi1 hHi2 hatg hat5 hc hbl hx hHi h0 eE eH hSh hxl
    unfold pkV
    rw [← hm] at *
    clear hm
    generalize pkRE l = er at *
    generalize hdC Hd.zero = ZH at *
    generalize hdC (ifRead l) = CF at *
    generalize ifErr l = ef at *
    obtain ⟨Z, hZ⟩ : ∃ Z, Z = pkC Pk.none := ⟨_, rfl⟩
    rw [← hZ] at hz hbu hsc5 hS0 hN4 hxi hln ⊢
    have HZ := Lib.hid hZ
    clear hZ
    go_enter Try.func8, Try.ntmps8
    go_wp2_with (first
      | (with_reducible refine wpList_alloc_zero (o := ⟨some 2, .alloc 39, _, _, _, _⟩) rfl 39 rfl Z.toArray hz ?_)
      | (with_reducible refine wpList_alloc_zero (o := ⟨some 4, .alloc 39, _, _, _, _⟩) rfl 39 rfl Z.toArray hz ?_)
      | (go_at_call 18; refine hq.out.mono ?_; rintro _ w6 ⟨rfl, hb6⟩; obtain ⟨w7, hsc7, hat7, hb7, hlt7⟩ := hSh1.out _ hb6; have hle7 := hb6.size; have HB7 := Lib.hid hb7; have HA7 := Lib.hid hat7; have HLT := Lib.hid hlt7; have HLE := Lib.hid hle7; have c07 := hX.out w7 hb7; clear hb7 hat7 hlt7 hle7; clear hb6)
      | (with_reducible refine wpList_alloc_zero (o := ⟨some 5, .alloc 33, _, _, _, _⟩) rfl 33 rfl ZH.toArray hzh ?_)
      | (go_at_call 19; refine (hq6.out _ HB7.out).mono ?_; rintro _ w8 ⟨rfl, hb8⟩; obtain ⟨w9, hst9, hat9, hb9, hsz9⟩ := hSh2.out _ _ HLE.out (hkeep.out _ _ _ HA7.out hb8 HLT.out) (HB7.out.trans (hb8.mono HB7.out.size)); have hlt9 : w6.heap.size < w9.heap.size := (Array.getElem?_eq_some_iff.1 hat9).1; obtain ⟨wn, hstn, hatn, hbn⟩ := hS0.out w9 hb9; have HT := Lib.hid (And.intro hatn hbn); have hn4 := hN4.out w9 hb9; clear hatn hbn; clear hb9 hat9 hlt9; clear hb8)
      | ((with_reducible refine wpList_stored (o := ⟨none, .store 33 (.tmp 5) (.tmp 40), _, _, _, none⟩) rfl 33 (.tmp 5) (.tmp 40) rfl (.pointer (some ⟨w6.heap.size, 0, none⟩)) (.agg (hdC (pkRH l)).toArray) ?_ ?_ w9 hst9 ?_); exact rfl; exact rfl)
      | ((with_reducible refine wpList_load_row (o := ⟨some 44, .load 39 (.tmp 4), _, _, _, _⟩) rfl 39 (.tmp 4) rfl (w.heap.size + 1) ?_ 39 Z.toArray (0, 0) _ hn4 Try.underlying39 rfl hxi ?_); exact rfl)
      | ((with_reducible refine wpList_stored (o := ⟨none, .store 39 (.tmp 2) (.tmp 44), _, _, _, none⟩) rfl 39 (.tmp 2) (.tmp 44) rfl (.pointer (some ⟨w.heap.size, 0, none⟩)) (.agg Z.toArray) ?_ ?_ wn hstn ?_); exact rfl; exact rfl))
    exact bodyPost_ret (ret_pk (p := 2) (q := 3) (by kernel_rfl) rfl HT.out.1 Pk.none_wide rfl) rfl ⟨by rw [pkV, ← HZ.out]; rfl, HT.out.2⟩
theorem rpkParse_any {A : Option Addr} {c : Nat} {l : List UInt8} {w : World} (hr : Rd w w.heap.size (.slice A l.length c) (cellsB l)) :
    Calls Try.prog 8 #[.slice A l.length c] w fun e w' => e = .returned (.tuple #[pkV (pkRead l), .int .i64 ((pkErr l : Nat) : Int)]) ∧ Below w.heap.size w w' := by
  by_cases h0 : l.length = 0
  · exact rpkParse_short hr (.inl h0)
  · by_cases h4 : pkHi l = 4
    · exact rpkParse_4 hr h0 h4
    · by_cases h6 : pkHi l = 6
      · exact rpkParse_6 hr h0 h6
      · exact rpkParse_short hr (.inr ⟨h4, h6⟩)
end Go.Proofs.Ytejppekcniehpaa
