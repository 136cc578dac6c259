/-
  The document's Read of a segment of UDP, way by way.
-/
import Derived.Test.YtejppekcniehpaaSgK
import Derived.Test.YtejppekcniehpaaAdEq
namespace Go.Proofs.Ytejppekcniehpaa
open Go.RowKit
set_option maxRecDepth 100000 in
set_option maxHeartbeats 1000000 in
theorem rsRead_uz4 {A : Option Addr} {c : Nat} {l : List UInt8} {w : World} (h : Hd) (hw : h.Wide) (hr : Rd w w.heap.size (.slice A l.length c) (cellsB l)) (hl : l.length ≤ 100000) (hp : h.proto = 17) (h1 : ¬ l.length < 8) (h2 : ¬ num2 l 4 < 8) (h3 : num2 l 4 = l.length) (hz0 : num2 l 6 = 0) (h6 : h.six = false) (hq : num2 l 0 = 0 ∨ num2 l 2 = 0) :
    Calls Try.prog 20 #[hdV h, .slice A l.length c] w fun e w' => e = .returned (.tuple #[sgV (Sg.none), .int .i64 4]) ∧ Below w.heap.size w w' := by
  obtain ⟨X1, X, hst1, hst2, HX⟩ := RsAt.start h w
  obtain ⟨⟨hH, hR, c0, c1⟩, ⟨hN, _⟩, _⟩ := HX.looks
  have hi := info_hdA hw
  have hiR := info_hd hw
  have hz : ∀ W, (zeroValue 35).run Try.prog W = .ok (.agg (sgC Sg.none).toArray) W := zero_sg
  have hbu : ∀ W, (Instr.build 35 #[]).run Try.prog W = .ok (.agg (sgC Sg.none).toArray) W := build_sg0
  have hZl : (sgC Sg.none).length = 6 := rfl
  have hZi := info_sgA Sg.none
  have HB := Lib.hid HX.below
  have c1' : X.cell? ⟨w.heap.size, 1, none⟩ = some (.int .u8 17) := by rw [c1, hp]; rfl
  clear c1
  obtain ⟨b, o, rfl, hb, hc⟩ := hr.addr (by omega)
  have hcell : ∀ j (hj : j < l.length), X.cell? ⟨b, o + j, none⟩ = some (.int .u8 ((l[j]).toNat : Int)) := fun j hj => (HX.below.cell (show b < w.heap.size from hb)).trans (hc j hj)
  have c6 := hcell 6 (by omega)
  have c7 := hcell 7 (by omega)
  obtain ⟨x6, hx6⟩ : ∃ x, x = l[6]'(by omega) := ⟨_, rfl⟩
  obtain ⟨x7, hx7⟩ : ∃ x, x = l[7]'(by omega) := ⟨_, rfl⟩
  have hn6 : num2 l 6 = x6.toNat * 256 + x7.toNat := by
    unfold num2
    rw [hx6, hx7, List.getD_eq_getElem?_getD, List.getElem?_eq_getElem (by omega), List.getD_eq_getElem?_getD, List.getElem?_eq_getElem (by omega)]
    rfl
  rw [← hx6] at c6
  rw [← hx7] at c7
  have i6 : (6 : Int) < (l.length : Int) := by omega
  have i7 : (7 : Int) < (l.length : Int) := by omega
  have hgets : ∀ W, Below w.heap.size w W → ∀ (a : Nat) (aa : Int), aa = (a : Int) → a + 2 ≤ 8 → Calls Try.prog 33 #[.slice (some ⟨b, o, none⟩) l.length c, .int .i64 aa, .int .i64 2] W fun e w' => e = .returned (.int .u64 ((num2 l a : Nat) : Int)) ∧ W = w' := fun W hW a aa ha h8 => rsGet_any (hr.below hW) ha (by omega)
  have hg4 := Lib.hid (fun W hW => hgets W hW 4 4 rfl (by omega))
  have hlt4 := num2_lt l 4
  obtain ⟨q4, hq4⟩ : ∃ q, q = num2 l 4 := ⟨_, rfl⟩
  rw [← hq4] at hg4 hlt4 h2 h3
  have hw4 : IntKind.i64.wrap (q4 : Int) = (q4 : Int) := IntWalk.i64_in _ (by omega)
  have ne4 : ((q4 : Int) == (l.length : Int)) = true := by simp; omega
  have nlt : ¬ q4 < l.length := by omega
  have ngt : ¬ l.length < q4 := by omega
  clear h3
  have hn6z := hn6
  rw [hz0] at hn6z
  clear hn6
  have hn6 := hn6z
  clear hn6z
  have h60 : x6.toNat = 0 := by omega
  have h70 : x7.toNat = 0 := by omega
  have z6 : ((x6.toNat : Int) == 0) = true := by rw [h60]; rfl
  have z7 : ((x7.toNat : Int) == 0) = true := by rw [h70]; rfl
  clear h60 h70
  obtain ⟨Y, hstY, HY⟩ := HX.put ⟨0, 0, 0, 6, true, 8⟩
  have hbt := build_rsUdp true
  unfold sgV at hbt
  generalize hSS : (⟨0, 0, 0, 6, true, 8⟩ : Sg) = SS at *
  have hSSz : SS.zero = true := by rw [← hSS]
  obtain ⟨⟨_, hRY, c0Y, c1Y⟩, ⟨hNY, _⟩, zY, _⟩ := HY.looks
  rw [hSSz] at zY
  rw [h6] at c0Y c0
  clear hgets
  have hgets : ∀ W, Below w.heap.size w W → ∀ (a : Nat) (aa : Int), aa = (a : Int) → a + 2 ≤ 8 → Calls Try.prog 33 #[.slice (some ⟨b, o, none⟩) l.length c, .int .i64 aa, .int .i64 2] W fun e w' => e = .returned (.int .u64 ((num2 l a : Nat) : Int)) ∧ W = w' := fun W hW a aa ha h8 => rsGet_any (hr.below hW) ha (by omega)
  have hg0 := Lib.hid (fun W hW => hgets W hW 0 0 rfl (by omega))
  have hg2 := Lib.hid (fun W hW => hgets W hW 2 2 rfl (by omega))
  have hlt0 := num2_lt l 0
  have hlt2 := num2_lt l 2
  generalize num2 l 0 = q0 at *
  generalize num2 l 2 = q2 at *
  have hw0 : IntKind.u16.wrap (q0 : Int) = (q0 : Int) := IntWalk.u16_in _ (by omega)
  have hw2 : IntKind.u16.wrap (q2 : Int) = (q2 : Int) := IntWalk.u16_in _ (by omega)
  obtain ⟨S2, hS2⟩ : ∃ S2 : Sg, S2 = ⟨q0, q2, SS.flags, SS.sumAt, SS.zero, SS.data⟩ := ⟨_, rfl⟩
  have HE : Hid (∀ L, RsAt h w L SS → (L.heap[w.heap.size]? = L.heap[w.heap.size]? ∧ Below w.heap.size w L) ∧ ((∃ u, L.cell? ⟨w.heap.size + 1 + 1 + 1, 0, none⟩ = some (.int .u16 u)) ∧ (∃ u, L.cell? ⟨w.heap.size + 1 + 1 + 1, 1, none⟩ = some (.int .u16 u)) ∧ L.frozen? ⟨w.heap.size + 1 + 1 + 1, 0, none⟩ = false ∧ L.frozen? ⟨w.heap.size + 1 + 1 + 1, 1, none⟩ = false) ∧ ((L.setCell ⟨w.heap.size + 1 + 1 + 1, 0, none⟩ (.int .u16 (q0 : Int))).setCell ⟨w.heap.size + 1 + 1 + 1, 1, none⟩ (.int .u16 (q2 : Int))).heap[w.heap.size + 1 + 1]? = some (.cells (sgC Sg.none).toArray 35 (0, 0)) ∧ ((L.setCell ⟨w.heap.size + 1 + 1 + 1, 0, none⟩ (.int .u16 (q0 : Int))).setCell ⟨w.heap.size + 1 + 1 + 1, 1, none⟩ (.int .u16 (q2 : Int))).heap[w.heap.size + 1 + 1 + 1]? = some (.cells (sgC S2).toArray 35 (0, 0)) ∧ ∃ w9, (storeCells ⟨w.heap.size + 1, 0, none⟩ (sgC (Sg.none))).run Try.prog ((L.setCell ⟨w.heap.size + 1 + 1 + 1, 0, none⟩ (.int .u16 (q0 : Int))).setCell ⟨w.heap.size + 1 + 1 + 1, 1, none⟩ (.int .u16 (q2 : Int))) = .ok () w9 ∧ Hid (SgAt w9 (w.heap.size + 1) (Sg.none) ∧ Below w.heap.size w w9)) := Lib.hid fun L HL => by
    obtain ⟨_, _, _, d0, d1, e0, e1⟩ := HL.looks
    have H1 : RsAt h w (L.setCell ⟨w.heap.size + 1 + 1 + 1, 0, none⟩ (.int .u16 (q0 : Int))) ⟨q0, SS.dst, SS.flags, SS.sumAt, SS.zero, SS.data⟩ := HL.set rfl
    have H2 : RsAt h w ((L.setCell ⟨w.heap.size + 1 + 1 + 1, 0, none⟩ (.int .u16 (q0 : Int))).setCell ⟨w.heap.size + 1 + 1 + 1, 1, none⟩ (.int .u16 (q2 : Int))) S2 := by rw [hS2]; exact H1.set rfl
    obtain ⟨w9, h1, h2, h3⟩ := H2.tell (Sg.none)
    exact ⟨⟨rfl, HL.below⟩, ⟨d0, d1, e0, e1⟩, H2.zero, H2.cur, w9, h1, Lib.hid ⟨h2, h3⟩⟩
  obtain ⟨⟨_, hbL⟩, ⟨⟨u0, d0⟩, ⟨u1, d1⟩, e0, e1⟩, hN2, hS2c, w9, hst9, HT⟩ := HE.out _ HY
  have HBL := Lib.hid hbL
  clear hbL
  clear hcell hc hx6 hx7 hn6 hq4 hlt4
  generalize l.length = m at *
  clear HX HY hp hr hl hw hSS hSSz hS2 hgets hlt0 hlt2 hz0
  generalize hCS : sgC SS = CS at *
  have hCSl : CS.length = 6 := by rw [← hCS]; rfl
  have hC2i := info_sgA S2
  generalize hC2 : sgC S2 = C2 at *
  have HC2 := Lib.hid hC2
  have hC2l : C2.length = 6 := by rw [← hC2]; rfl
  clear hC2
  generalize hZ : sgC Sg.none = Z at *
  have HZ := Lib.hid hZ
  generalize hCH : hdC h = CH at *
  unfold hdV
  rw [hCH]
  clear hZ hCH
  by_cases h0 : q0 = 0
  · have p0 : ((q0 : Int) == 0) = true := by rw [h0]; rfl
    clear h0 hq
    go_enter Try.func20, Try.ntmps20
    go_wp2_with (first
      | (with_reducible refine wpList_alloc_zero (o := ⟨some 4, .alloc 35, _, _, _, _⟩) rfl 35 rfl Z.toArray hz ?_)
      | (with_reducible refine wpList_alloc_zero (o := ⟨some 6, .alloc 35, _, _, _, _⟩) rfl 35 rfl Z.toArray hz ?_)
      | (with_reducible refine wpList_alloc_zero (o := ⟨some 7, .alloc 35, _, _, _, _⟩) rfl 35 rfl Z.toArray hz ?_)
      | (go_at_call 33; have hx1 := hg4; clear hx1; refine (hg4.out _ HB.out).mono ?_; rintro _ wx ⟨rfl, rfl⟩; clear hg4)
      | ((with_reducible refine wpList_run (o := ⟨some 65, .build 35 #[(3, .const (.int .i64 6)), (5, .const (.int .i64 8)), (4, .tmp 64)], _, _, _, none⟩) rfl (.agg CS.toArray) X ?_ ?_); exact exec_bldS3 (k := 3) (k2 := 5) (k3 := 4) rfl (u := .int .i64 6) (u2 := .int .i64 8) (u3 := .bool true) rfl rfl rfl (hbt _))
      | (go_at_call 33; have hx1 := hg0; clear hx1; refine (hg0.out _ HBL.out).mono ?_; rintro _ wx ⟨rfl, rfl⟩; clear hg0)
      | (go_at_call 33; have hx1 := hg2; clear hx1; refine (hg2.out _ HBL.out).mono ?_; rintro _ wx ⟨rfl, rfl⟩; clear hg2)
      | ((with_reducible refine wpList_load_row (o := ⟨some 119, .load 35 (.tmp 6), _, _, _, _⟩) rfl 35 (.tmp 6) rfl (w.heap.size + 1 + 1) ?_ 35 Z.toArray (0, 0) _ hN2 Try.underlying35 rfl hZi ?_); exact rfl))
    exact bodyPost_ret (ret_sg (p := 4) (q := 5) (by kernel_rfl) rfl HT.out.1 rfl) rfl ⟨by rw [← HZ.out]; rfl, HT.out.2⟩
  · have h22 : q2 = 0 := hq.resolve_left h0
    have p0 := beq_zero h0
    have p2 : ((q2 : Int) == 0) = true := by rw [h22]; rfl
    clear h0 h22 hq
    go_enter Try.func20, Try.ntmps20
    go_wp2_with (first
      | (with_reducible refine wpList_alloc_zero (o := ⟨some 4, .alloc 35, _, _, _, _⟩) rfl 35 rfl Z.toArray hz ?_)
      | (with_reducible refine wpList_alloc_zero (o := ⟨some 6, .alloc 35, _, _, _, _⟩) rfl 35 rfl Z.toArray hz ?_)
      | (with_reducible refine wpList_alloc_zero (o := ⟨some 7, .alloc 35, _, _, _, _⟩) rfl 35 rfl Z.toArray hz ?_)
      | (go_at_call 33; have hx1 := hg4; clear hx1; refine (hg4.out _ HB.out).mono ?_; rintro _ wx ⟨rfl, rfl⟩; clear hg4)
      | ((with_reducible refine wpList_run (o := ⟨some 65, .build 35 #[(3, .const (.int .i64 6)), (5, .const (.int .i64 8)), (4, .tmp 64)], _, _, _, none⟩) rfl (.agg CS.toArray) X ?_ ?_); exact exec_bldS3 (k := 3) (k2 := 5) (k3 := 4) rfl (u := .int .i64 6) (u2 := .int .i64 8) (u3 := .bool true) rfl rfl rfl (hbt _))
      | (go_at_call 33; have hx1 := hg0; clear hx1; refine (hg0.out _ HBL.out).mono ?_; rintro _ wx ⟨rfl, rfl⟩; clear hg0)
      | (go_at_call 33; have hx1 := hg2; clear hx1; refine (hg2.out _ HBL.out).mono ?_; rintro _ wx ⟨rfl, rfl⟩; clear hg2)
      | ((with_reducible refine wpList_load_row (o := ⟨some 119, .load 35 (.tmp 6), _, _, _, _⟩) rfl 35 (.tmp 6) rfl (w.heap.size + 1 + 1) ?_ 35 Z.toArray (0, 0) _ hN2 Try.underlying35 rfl hZi ?_); exact rfl))
    exact bodyPost_ret (ret_sg (p := 4) (q := 5) (by kernel_rfl) rfl HT.out.1 rfl) rfl ⟨by rw [← HZ.out]; rfl, HT.out.2⟩
set_option maxRecDepth 100000 in
set_option maxHeartbeats 1000000 in
theorem rsRead_us4 {A : Option Addr} {c : Nat} {l : List UInt8} {w : World} (h : Hd) (hw : h.Wide) (hr : Rd w w.heap.size (.slice A l.length c) (cellsB l)) (hl : l.length ≤ 100000) (hp : h.proto = 17) (h1 : ¬ l.length < 8) (h2 : ¬ num2 l 4 < 8) (h3 : num2 l 4 = l.length) (hz0 : num2 l 6 ≠ 0) (hok : sgOk h l = true) (hq : num2 l 0 = 0 ∨ num2 l 2 = 0) :
    Calls Try.prog 20 #[hdV h, .slice A l.length c] w fun e w' => e = .returned (.tuple #[sgV (Sg.none), .int .i64 4]) ∧ Below w.heap.size w w' := by
  obtain ⟨X1, X, hst1, hst2, HX⟩ := RsAt.start h w
  obtain ⟨⟨hH, hR, c0, c1⟩, ⟨hN, _⟩, _⟩ := HX.looks
  have hi := info_hdA hw
  have hiR := info_hd hw
  have hz : ∀ W, (zeroValue 35).run Try.prog W = .ok (.agg (sgC Sg.none).toArray) W := zero_sg
  have hbu : ∀ W, (Instr.build 35 #[]).run Try.prog W = .ok (.agg (sgC Sg.none).toArray) W := build_sg0
  have hZl : (sgC Sg.none).length = 6 := rfl
  have hZi := info_sgA Sg.none
  have HB := Lib.hid HX.below
  have c1' : X.cell? ⟨w.heap.size, 1, none⟩ = some (.int .u8 17) := by rw [c1, hp]; rfl
  clear c1
  obtain ⟨b, o, rfl, hb, hc⟩ := hr.addr (by omega)
  have hcell : ∀ j (hj : j < l.length), X.cell? ⟨b, o + j, none⟩ = some (.int .u8 ((l[j]).toNat : Int)) := fun j hj => (HX.below.cell (show b < w.heap.size from hb)).trans (hc j hj)
  have c6 := hcell 6 (by omega)
  have c7 := hcell 7 (by omega)
  obtain ⟨x6, hx6⟩ : ∃ x, x = l[6]'(by omega) := ⟨_, rfl⟩
  obtain ⟨x7, hx7⟩ : ∃ x, x = l[7]'(by omega) := ⟨_, rfl⟩
  have hn6 : num2 l 6 = x6.toNat * 256 + x7.toNat := by
    unfold num2
    rw [hx6, hx7, List.getD_eq_getElem?_getD, List.getElem?_eq_getElem (by omega), List.getD_eq_getElem?_getD, List.getElem?_eq_getElem (by omega)]
    rfl
  rw [← hx6] at c6
  rw [← hx7] at c7
  have i6 : (6 : Int) < (l.length : Int) := by omega
  have i7 : (7 : Int) < (l.length : Int) := by omega
  have hgets : ∀ W, Below w.heap.size w W → ∀ (a : Nat) (aa : Int), aa = (a : Int) → a + 2 ≤ 8 → Calls Try.prog 33 #[.slice (some ⟨b, o, none⟩) l.length c, .int .i64 aa, .int .i64 2] W fun e w' => e = .returned (.int .u64 ((num2 l a : Nat) : Int)) ∧ W = w' := fun W hW a aa ha h8 => rsGet_any (hr.below hW) ha (by omega)
  have hg4 := Lib.hid (fun W hW => hgets W hW 4 4 rfl (by omega))
  have hlt4 := num2_lt l 4
  obtain ⟨q4, hq4⟩ : ∃ q, q = num2 l 4 := ⟨_, rfl⟩
  rw [← hq4] at hg4 hlt4 h2 h3
  have hw4 : IntKind.i64.wrap (q4 : Int) = (q4 : Int) := IntWalk.i64_in _ (by omega)
  have ne4 : ((q4 : Int) == (l.length : Int)) = true := by simp; omega
  have nlt : ¬ q4 < l.length := by omega
  have ngt : ¬ l.length < q4 := by omega
  clear h3
  by_cases h60 : x6 = 0
  · have z6 : ((x6.toNat : Int) == 0) = true := by rw [h60]; rfl
    have z7 : ((x7.toNat : Int) == 0) = false := beq_zero (by rw [h60] at hn6; intro e; rw [e] at hn6; exact hz0 hn6)
    obtain ⟨Y, hstY, HY⟩ := HX.put ⟨0, 0, 0, 6, false, 8⟩
    have hbt := build_rsUdp false
    unfold sgV at hbt
    generalize hSS : (⟨0, 0, 0, 6, false, 8⟩ : Sg) = SS at *
    have hSSz : SS.zero = false := by rw [← hSS]
    obtain ⟨⟨_, hRY, c0Y, c1Y⟩, ⟨hNY, _⟩, zY, _⟩ := HY.looks
    rw [hSSz] at zY
    have hGood : Hid (Calls Try.prog 37 #[.agg (hdC h).toArray, .slice (some ⟨b, o, none⟩) l.length c] Y fun e w' => e = .returned (.bool true) ∧ Below Y.heap.size Y w') := Lib.hid (by
      have := rsGood_any h hw ((hr.below HY.below).more HY.below.size) hl
      rw [hok, hdV] at this
      exact this)
    have HYn : Hid (∀ W, Below Y.heap.size Y W → RsAt h w W SS) := Lib.hid fun W hW => HY.next hW
    clear hgets
    have hgets : ∀ W, Below w.heap.size w W → ∀ (a : Nat) (aa : Int), aa = (a : Int) → a + 2 ≤ 8 → Calls Try.prog 33 #[.slice (some ⟨b, o, none⟩) l.length c, .int .i64 aa, .int .i64 2] W fun e w' => e = .returned (.int .u64 ((num2 l a : Nat) : Int)) ∧ W = w' := fun W hW a aa ha h8 => rsGet_any (hr.below hW) ha (by omega)
    have hg0 := Lib.hid (fun W hW => hgets W hW 0 0 rfl (by omega))
    have hg2 := Lib.hid (fun W hW => hgets W hW 2 2 rfl (by omega))
    have hlt0 := num2_lt l 0
    have hlt2 := num2_lt l 2
    generalize num2 l 0 = q0 at *
    generalize num2 l 2 = q2 at *
    have hw0 : IntKind.u16.wrap (q0 : Int) = (q0 : Int) := IntWalk.u16_in _ (by omega)
    have hw2 : IntKind.u16.wrap (q2 : Int) = (q2 : Int) := IntWalk.u16_in _ (by omega)
    obtain ⟨S2, hS2⟩ : ∃ S2 : Sg, S2 = ⟨q0, q2, SS.flags, SS.sumAt, SS.zero, SS.data⟩ := ⟨_, rfl⟩
    have HE : Hid (∀ L, RsAt h w L SS → (L.heap[w.heap.size]? = L.heap[w.heap.size]? ∧ Below w.heap.size w L) ∧ ((∃ u, L.cell? ⟨w.heap.size + 1 + 1 + 1, 0, none⟩ = some (.int .u16 u)) ∧ (∃ u, L.cell? ⟨w.heap.size + 1 + 1 + 1, 1, none⟩ = some (.int .u16 u)) ∧ L.frozen? ⟨w.heap.size + 1 + 1 + 1, 0, none⟩ = false ∧ L.frozen? ⟨w.heap.size + 1 + 1 + 1, 1, none⟩ = false) ∧ ((L.setCell ⟨w.heap.size + 1 + 1 + 1, 0, none⟩ (.int .u16 (q0 : Int))).setCell ⟨w.heap.size + 1 + 1 + 1, 1, none⟩ (.int .u16 (q2 : Int))).heap[w.heap.size + 1 + 1]? = some (.cells (sgC Sg.none).toArray 35 (0, 0)) ∧ ((L.setCell ⟨w.heap.size + 1 + 1 + 1, 0, none⟩ (.int .u16 (q0 : Int))).setCell ⟨w.heap.size + 1 + 1 + 1, 1, none⟩ (.int .u16 (q2 : Int))).heap[w.heap.size + 1 + 1 + 1]? = some (.cells (sgC S2).toArray 35 (0, 0)) ∧ ∃ w9, (storeCells ⟨w.heap.size + 1, 0, none⟩ (sgC (Sg.none))).run Try.prog ((L.setCell ⟨w.heap.size + 1 + 1 + 1, 0, none⟩ (.int .u16 (q0 : Int))).setCell ⟨w.heap.size + 1 + 1 + 1, 1, none⟩ (.int .u16 (q2 : Int))) = .ok () w9 ∧ Hid (SgAt w9 (w.heap.size + 1) (Sg.none) ∧ Below w.heap.size w w9)) := Lib.hid fun L HL => by
      obtain ⟨_, _, _, d0, d1, e0, e1⟩ := HL.looks
      have H1 : RsAt h w (L.setCell ⟨w.heap.size + 1 + 1 + 1, 0, none⟩ (.int .u16 (q0 : Int))) ⟨q0, SS.dst, SS.flags, SS.sumAt, SS.zero, SS.data⟩ := HL.set rfl
      have H2 : RsAt h w ((L.setCell ⟨w.heap.size + 1 + 1 + 1, 0, none⟩ (.int .u16 (q0 : Int))).setCell ⟨w.heap.size + 1 + 1 + 1, 1, none⟩ (.int .u16 (q2 : Int))) S2 := by rw [hS2]; exact H1.set rfl
      obtain ⟨w9, h1, h2, h3⟩ := H2.tell (Sg.none)
      exact ⟨⟨rfl, HL.below⟩, ⟨d0, d1, e0, e1⟩, H2.zero, H2.cur, w9, h1, Lib.hid ⟨h2, h3⟩⟩
    clear hcell hc hx6 hx7 hn6 hq4 hlt4
    generalize l.length = m at *
    clear HX HY hp hr hl hw hSS hSSz hS2 hgets hlt0 hlt2 hz0 hok
    generalize hCS : sgC SS = CS at *
    have hCSl : CS.length = 6 := by rw [← hCS]; rfl
    have hC2i := info_sgA S2
    generalize hC2 : sgC S2 = C2 at *
    have HC2 := Lib.hid hC2
    have hC2l : C2.length = 6 := by rw [← hC2]; rfl
    clear hC2
    generalize hZ : sgC Sg.none = Z at *
    have HZ := Lib.hid hZ
    generalize hCH : hdC h = CH at *
    unfold hdV
    rw [hCH]
    clear hZ hCH
    by_cases h0 : q0 = 0
    · have p0 : ((q0 : Int) == 0) = true := by rw [h0]; rfl
      clear h0 hq
      go_enter Try.func20, Try.ntmps20
      go_wp2_with (first
        | (with_reducible refine wpList_alloc_zero (o := ⟨some 4, .alloc 35, _, _, _, _⟩) rfl 35 rfl Z.toArray hz ?_)
        | (with_reducible refine wpList_alloc_zero (o := ⟨some 6, .alloc 35, _, _, _, _⟩) rfl 35 rfl Z.toArray hz ?_)
        | (with_reducible refine wpList_alloc_zero (o := ⟨some 7, .alloc 35, _, _, _, _⟩) rfl 35 rfl Z.toArray hz ?_)
        | (go_at_call 33; have hx1 := hg4; clear hx1; refine (hg4.out _ HB.out).mono ?_; rintro _ wx ⟨rfl, rfl⟩; clear hg4)
        | ((with_reducible refine wpList_run (o := ⟨some 65, .build 35 #[(3, .const (.int .i64 6)), (5, .const (.int .i64 8)), (4, .tmp 64)], _, _, _, none⟩) rfl (.agg CS.toArray) X ?_ ?_); exact exec_bldS3 (k := 3) (k2 := 5) (k3 := 4) rfl (u := .int .i64 6) (u2 := .int .i64 8) (u3 := .bool false) rfl rfl rfl (hbt _))
        | ((with_reducible refine wpList_load_mid_g (op := ⟨some 97, .load 33 (.tmp 2), _, _, _, _⟩) (by kernel_rfl) 33 (.tmp 2) rfl w.heap.size 0 ?_ CH _ hRY Try.underlying33 rfl hiR ?_); exact rfl)
        | (go_at_call 37; refine hGood.out.mono ?_; rintro _ w2 ⟨rfl, hb2⟩; obtain ⟨⟨_, hbL⟩, ⟨⟨u0, d0⟩, ⟨u1, d1⟩, e0, e1⟩, hN2, hS2c, w9, hst9, HT⟩ := HE.out _ (HYn.out _ hb2); have HBL := Lib.hid hbL; clear hb2 hbL)
        | (go_at_call 33; have hx1 := hg0; clear hx1; refine (hg0.out _ HBL.out).mono ?_; rintro _ wx ⟨rfl, rfl⟩; clear hg0)
        | (go_at_call 33; have hx1 := hg2; clear hx1; refine (hg2.out _ HBL.out).mono ?_; rintro _ wx ⟨rfl, rfl⟩; clear hg2)
        | ((with_reducible refine wpList_load_row (o := ⟨some 119, .load 35 (.tmp 6), _, _, _, _⟩) rfl 35 (.tmp 6) rfl (w.heap.size + 1 + 1) ?_ 35 Z.toArray (0, 0) _ hN2 Try.underlying35 rfl hZi ?_); exact rfl))
      exact bodyPost_ret (ret_sg (p := 4) (q := 5) (by kernel_rfl) rfl HT.out.1 rfl) rfl ⟨by rw [← HZ.out]; rfl, HT.out.2⟩
    · have h22 : q2 = 0 := hq.resolve_left h0
      have p0 := beq_zero h0
      have p2 : ((q2 : Int) == 0) = true := by rw [h22]; rfl
      clear h0 h22 hq
      go_enter Try.func20, Try.ntmps20
      go_wp2_with (first
        | (with_reducible refine wpList_alloc_zero (o := ⟨some 4, .alloc 35, _, _, _, _⟩) rfl 35 rfl Z.toArray hz ?_)
        | (with_reducible refine wpList_alloc_zero (o := ⟨some 6, .alloc 35, _, _, _, _⟩) rfl 35 rfl Z.toArray hz ?_)
        | (with_reducible refine wpList_alloc_zero (o := ⟨some 7, .alloc 35, _, _, _, _⟩) rfl 35 rfl Z.toArray hz ?_)
        | (go_at_call 33; have hx1 := hg4; clear hx1; refine (hg4.out _ HB.out).mono ?_; rintro _ wx ⟨rfl, rfl⟩; clear hg4)
        | ((with_reducible refine wpList_run (o := ⟨some 65, .build 35 #[(3, .const (.int .i64 6)), (5, .const (.int .i64 8)), (4, .tmp 64)], _, _, _, none⟩) rfl (.agg CS.toArray) X ?_ ?_); exact exec_bldS3 (k := 3) (k2 := 5) (k3 := 4) rfl (u := .int .i64 6) (u2 := .int .i64 8) (u3 := .bool false) rfl rfl rfl (hbt _))
        | ((with_reducible refine wpList_load_mid_g (op := ⟨some 97, .load 33 (.tmp 2), _, _, _, _⟩) (by kernel_rfl) 33 (.tmp 2) rfl w.heap.size 0 ?_ CH _ hRY Try.underlying33 rfl hiR ?_); exact rfl)
        | (go_at_call 37; refine hGood.out.mono ?_; rintro _ w2 ⟨rfl, hb2⟩; obtain ⟨⟨_, hbL⟩, ⟨⟨u0, d0⟩, ⟨u1, d1⟩, e0, e1⟩, hN2, hS2c, w9, hst9, HT⟩ := HE.out _ (HYn.out _ hb2); have HBL := Lib.hid hbL; clear hb2 hbL)
        | (go_at_call 33; have hx1 := hg0; clear hx1; refine (hg0.out _ HBL.out).mono ?_; rintro _ wx ⟨rfl, rfl⟩; clear hg0)
        | (go_at_call 33; have hx1 := hg2; clear hx1; refine (hg2.out _ HBL.out).mono ?_; rintro _ wx ⟨rfl, rfl⟩; clear hg2)
        | ((with_reducible refine wpList_load_row (o := ⟨some 119, .load 35 (.tmp 6), _, _, _, _⟩) rfl 35 (.tmp 6) rfl (w.heap.size + 1 + 1) ?_ 35 Z.toArray (0, 0) _ hN2 Try.underlying35 rfl hZi ?_); exact rfl))
      exact bodyPost_ret (ret_sg (p := 4) (q := 5) (by kernel_rfl) rfl HT.out.1 rfl) rfl ⟨by rw [← HZ.out]; rfl, HT.out.2⟩
  · have z6 : ((x6.toNat : Int) == 0) = false := beq_zero (fun e => h60 (UInt8.toNat_inj.1 e))
    obtain ⟨Y, hstY, HY⟩ := HX.put ⟨0, 0, 0, 6, false, 8⟩
    have hbt := build_rsUdp false
    unfold sgV at hbt
    generalize hSS : (⟨0, 0, 0, 6, false, 8⟩ : Sg) = SS at *
    have hSSz : SS.zero = false := by rw [← hSS]
    obtain ⟨⟨_, hRY, c0Y, c1Y⟩, ⟨hNY, _⟩, zY, _⟩ := HY.looks
    rw [hSSz] at zY
    have hGood : Hid (Calls Try.prog 37 #[.agg (hdC h).toArray, .slice (some ⟨b, o, none⟩) l.length c] Y fun e w' => e = .returned (.bool true) ∧ Below Y.heap.size Y w') := Lib.hid (by
      have := rsGood_any h hw ((hr.below HY.below).more HY.below.size) hl
      rw [hok, hdV] at this
      exact this)
    have HYn : Hid (∀ W, Below Y.heap.size Y W → RsAt h w W SS) := Lib.hid fun W hW => HY.next hW
    clear hgets
    have hgets : ∀ W, Below w.heap.size w W → ∀ (a : Nat) (aa : Int), aa = (a : Int) → a + 2 ≤ 8 → Calls Try.prog 33 #[.slice (some ⟨b, o, none⟩) l.length c, .int .i64 aa, .int .i64 2] W fun e w' => e = .returned (.int .u64 ((num2 l a : Nat) : Int)) ∧ W = w' := fun W hW a aa ha h8 => rsGet_any (hr.below hW) ha (by omega)
    have hg0 := Lib.hid (fun W hW => hgets W hW 0 0 rfl (by omega))
    have hg2 := Lib.hid (fun W hW => hgets W hW 2 2 rfl (by omega))
    have hlt0 := num2_lt l 0
    have hlt2 := num2_lt l 2
    generalize num2 l 0 = q0 at *
    generalize num2 l 2 = q2 at *
    have hw0 : IntKind.u16.wrap (q0 : Int) = (q0 : Int) := IntWalk.u16_in _ (by omega)
    have hw2 : IntKind.u16.wrap (q2 : Int) = (q2 : Int) := IntWalk.u16_in _ (by omega)
    obtain ⟨S2, hS2⟩ : ∃ S2 : Sg, S2 = ⟨q0, q2, SS.flags, SS.sumAt, SS.zero, SS.data⟩ := ⟨_, rfl⟩
    have HE : Hid (∀ L, RsAt h w L SS → (L.heap[w.heap.size]? = L.heap[w.heap.size]? ∧ Below w.heap.size w L) ∧ ((∃ u, L.cell? ⟨w.heap.size + 1 + 1 + 1, 0, none⟩ = some (.int .u16 u)) ∧ (∃ u, L.cell? ⟨w.heap.size + 1 + 1 + 1, 1, none⟩ = some (.int .u16 u)) ∧ L.frozen? ⟨w.heap.size + 1 + 1 + 1, 0, none⟩ = false ∧ L.frozen? ⟨w.heap.size + 1 + 1 + 1, 1, none⟩ = false) ∧ ((L.setCell ⟨w.heap.size + 1 + 1 + 1, 0, none⟩ (.int .u16 (q0 : Int))).setCell ⟨w.heap.size + 1 + 1 + 1, 1, none⟩ (.int .u16 (q2 : Int))).heap[w.heap.size + 1 + 1]? = some (.cells (sgC Sg.none).toArray 35 (0, 0)) ∧ ((L.setCell ⟨w.heap.size + 1 + 1 + 1, 0, none⟩ (.int .u16 (q0 : Int))).setCell ⟨w.heap.size + 1 + 1 + 1, 1, none⟩ (.int .u16 (q2 : Int))).heap[w.heap.size + 1 + 1 + 1]? = some (.cells (sgC S2).toArray 35 (0, 0)) ∧ ∃ w9, (storeCells ⟨w.heap.size + 1, 0, none⟩ (sgC (Sg.none))).run Try.prog ((L.setCell ⟨w.heap.size + 1 + 1 + 1, 0, none⟩ (.int .u16 (q0 : Int))).setCell ⟨w.heap.size + 1 + 1 + 1, 1, none⟩ (.int .u16 (q2 : Int))) = .ok () w9 ∧ Hid (SgAt w9 (w.heap.size + 1) (Sg.none) ∧ Below w.heap.size w w9)) := Lib.hid fun L HL => by
      obtain ⟨_, _, _, d0, d1, e0, e1⟩ := HL.looks
      have H1 : RsAt h w (L.setCell ⟨w.heap.size + 1 + 1 + 1, 0, none⟩ (.int .u16 (q0 : Int))) ⟨q0, SS.dst, SS.flags, SS.sumAt, SS.zero, SS.data⟩ := HL.set rfl
      have H2 : RsAt h w ((L.setCell ⟨w.heap.size + 1 + 1 + 1, 0, none⟩ (.int .u16 (q0 : Int))).setCell ⟨w.heap.size + 1 + 1 + 1, 1, none⟩ (.int .u16 (q2 : Int))) S2 := by rw [hS2]; exact H1.set rfl
      obtain ⟨w9, h1, h2, h3⟩ := H2.tell (Sg.none)
      exact ⟨⟨rfl, HL.below⟩, ⟨d0, d1, e0, e1⟩, H2.zero, H2.cur, w9, h1, Lib.hid ⟨h2, h3⟩⟩
    clear hcell hc hx6 hx7 hn6 hq4 hlt4
    generalize l.length = m at *
    clear HX HY hp hr hl hw hSS hSSz hS2 hgets hlt0 hlt2 hz0 hok
    generalize hCS : sgC SS = CS at *
    have hCSl : CS.length = 6 := by rw [← hCS]; rfl
    have hC2i := info_sgA S2
    generalize hC2 : sgC S2 = C2 at *
    have HC2 := Lib.hid hC2
    have hC2l : C2.length = 6 := by rw [← hC2]; rfl
    clear hC2
    generalize hZ : sgC Sg.none = Z at *
    have HZ := Lib.hid hZ
    generalize hCH : hdC h = CH at *
    unfold hdV
    rw [hCH]
    clear hZ hCH
    by_cases h0 : q0 = 0
    · have p0 : ((q0 : Int) == 0) = true := by rw [h0]; rfl
      clear h0 hq
      go_enter Try.func20, Try.ntmps20
      go_wp2_with (first
        | (with_reducible refine wpList_alloc_zero (o := ⟨some 4, .alloc 35, _, _, _, _⟩) rfl 35 rfl Z.toArray hz ?_)
        | (with_reducible refine wpList_alloc_zero (o := ⟨some 6, .alloc 35, _, _, _, _⟩) rfl 35 rfl Z.toArray hz ?_)
        | (with_reducible refine wpList_alloc_zero (o := ⟨some 7, .alloc 35, _, _, _, _⟩) rfl 35 rfl Z.toArray hz ?_)
        | (go_at_call 33; have hx1 := hg4; clear hx1; refine (hg4.out _ HB.out).mono ?_; rintro _ wx ⟨rfl, rfl⟩; clear hg4)
        | ((with_reducible refine wpList_run (o := ⟨some 65, .build 35 #[(3, .const (.int .i64 6)), (5, .const (.int .i64 8)), (4, .tmp 64)], _, _, _, none⟩) rfl (.agg CS.toArray) X ?_ ?_); exact exec_bldS3 (k := 3) (k2 := 5) (k3 := 4) rfl (u := .int .i64 6) (u2 := .int .i64 8) (u3 := .bool false) rfl rfl rfl (hbt _))
        | ((with_reducible refine wpList_load_mid_g (op := ⟨some 97, .load 33 (.tmp 2), _, _, _, _⟩) (by kernel_rfl) 33 (.tmp 2) rfl w.heap.size 0 ?_ CH _ hRY Try.underlying33 rfl hiR ?_); exact rfl)
        | (go_at_call 37; refine hGood.out.mono ?_; rintro _ w2 ⟨rfl, hb2⟩; obtain ⟨⟨_, hbL⟩, ⟨⟨u0, d0⟩, ⟨u1, d1⟩, e0, e1⟩, hN2, hS2c, w9, hst9, HT⟩ := HE.out _ (HYn.out _ hb2); have HBL := Lib.hid hbL; clear hb2 hbL)
        | (go_at_call 33; have hx1 := hg0; clear hx1; refine (hg0.out _ HBL.out).mono ?_; rintro _ wx ⟨rfl, rfl⟩; clear hg0)
        | (go_at_call 33; have hx1 := hg2; clear hx1; refine (hg2.out _ HBL.out).mono ?_; rintro _ wx ⟨rfl, rfl⟩; clear hg2)
        | ((with_reducible refine wpList_load_row (o := ⟨some 119, .load 35 (.tmp 6), _, _, _, _⟩) rfl 35 (.tmp 6) rfl (w.heap.size + 1 + 1) ?_ 35 Z.toArray (0, 0) _ hN2 Try.underlying35 rfl hZi ?_); exact rfl))
      exact bodyPost_ret (ret_sg (p := 4) (q := 5) (by kernel_rfl) rfl HT.out.1 rfl) rfl ⟨by rw [← HZ.out]; rfl, HT.out.2⟩
    · have h22 : q2 = 0 := hq.resolve_left h0
      have p0 := beq_zero h0
      have p2 : ((q2 : Int) == 0) = true := by rw [h22]; rfl
      clear h0 h22 hq
      go_enter Try.func20, Try.ntmps20
      go_wp2_with (first
        | (with_reducible refine wpList_alloc_zero (o := ⟨some 4, .alloc 35, _, _, _, _⟩) rfl 35 rfl Z.toArray hz ?_)
        | (with_reducible refine wpList_alloc_zero (o := ⟨some 6, .alloc 35, _, _, _, _⟩) rfl 35 rfl Z.toArray hz ?_)
        | (with_reducible refine wpList_alloc_zero (o := ⟨some 7, .alloc 35, _, _, _, _⟩) rfl 35 rfl Z.toArray hz ?_)
        | (go_at_call 33; have hx1 := hg4; clear hx1; refine (hg4.out _ HB.out).mono ?_; rintro _ wx ⟨rfl, rfl⟩; clear hg4)
        | ((with_reducible refine wpList_run (o := ⟨some 65, .build 35 #[(3, .const (.int .i64 6)), (5, .const (.int .i64 8)), (4, .tmp 64)], _, _, _, none⟩) rfl (.agg CS.toArray) X ?_ ?_); exact exec_bldS3 (k := 3) (k2 := 5) (k3 := 4) rfl (u := .int .i64 6) (u2 := .int .i64 8) (u3 := .bool false) rfl rfl rfl (hbt _))
        | ((with_reducible refine wpList_load_mid_g (op := ⟨some 97, .load 33 (.tmp 2), _, _, _, _⟩) (by kernel_rfl) 33 (.tmp 2) rfl w.heap.size 0 ?_ CH _ hRY Try.underlying33 rfl hiR ?_); exact rfl)
        | (go_at_call 37; refine hGood.out.mono ?_; rintro _ w2 ⟨rfl, hb2⟩; obtain ⟨⟨_, hbL⟩, ⟨⟨u0, d0⟩, ⟨u1, d1⟩, e0, e1⟩, hN2, hS2c, w9, hst9, HT⟩ := HE.out _ (HYn.out _ hb2); have HBL := Lib.hid hbL; clear hb2 hbL)
        | (go_at_call 33; have hx1 := hg0; clear hx1; refine (hg0.out _ HBL.out).mono ?_; rintro _ wx ⟨rfl, rfl⟩; clear hg0)
        | (go_at_call 33; have hx1 := hg2; clear hx1; refine (hg2.out _ HBL.out).mono ?_; rintro _ wx ⟨rfl, rfl⟩; clear hg2)
        | ((with_reducible refine wpList_load_row (o := ⟨some 119, .load 35 (.tmp 6), _, _, _, _⟩) rfl 35 (.tmp 6) rfl (w.heap.size + 1 + 1) ?_ 35 Z.toArray (0, 0) _ hN2 Try.underlying35 rfl hZi ?_); exact rfl))
      exact bodyPost_ret (ret_sg (p := 4) (q := 5) (by kernel_rfl) rfl HT.out.1 rfl) rfl ⟨by rw [← HZ.out]; rfl, HT.out.2⟩
set_option maxRecDepth 100000 in
set_option maxHeartbeats 1000000 in
theorem rsRead_uz0 {A : Option Addr} {c : Nat} {l : List UInt8} {w : World} (h : Hd) (hw : h.Wide) (hr : Rd w w.heap.size (.slice A l.length c) (cellsB l)) (hl : l.length ≤ 100000) (hp : h.proto = 17) (h1 : ¬ l.length < 8) (h2 : ¬ num2 l 4 < 8) (h3 : num2 l 4 = l.length) (hz0 : num2 l 6 = 0) (h6 : h.six = false) (hq0 : num2 l 0 ≠ 0) (hq2 : num2 l 2 ≠ 0) :
    Calls Try.prog 20 #[hdV h, .slice A l.length c] w fun e w' => e = .returned (.tuple #[sgV (sgHd h l), .int .i64 0]) ∧ Below w.heap.size w w' := by
  obtain ⟨X1, X, hst1, hst2, HX⟩ := RsAt.start h w
  obtain ⟨⟨hH, hR, c0, c1⟩, ⟨hN, _⟩, _⟩ := HX.looks
  have hi := info_hdA hw
  have hiR := info_hd hw
  have hz : ∀ W, (zeroValue 35).run Try.prog W = .ok (.agg (sgC Sg.none).toArray) W := zero_sg
  have hbu : ∀ W, (Instr.build 35 #[]).run Try.prog W = .ok (.agg (sgC Sg.none).toArray) W := build_sg0
  have hZl : (sgC Sg.none).length = 6 := rfl
  have hZi := info_sgA Sg.none
  have HB := Lib.hid HX.below
  have c1' : X.cell? ⟨w.heap.size, 1, none⟩ = some (.int .u8 17) := by rw [c1, hp]; rfl
  clear c1
  obtain ⟨b, o, rfl, hb, hc⟩ := hr.addr (by omega)
  have hcell : ∀ j (hj : j < l.length), X.cell? ⟨b, o + j, none⟩ = some (.int .u8 ((l[j]).toNat : Int)) := fun j hj => (HX.below.cell (show b < w.heap.size from hb)).trans (hc j hj)
  have c6 := hcell 6 (by omega)
  have c7 := hcell 7 (by omega)
  obtain ⟨x6, hx6⟩ : ∃ x, x = l[6]'(by omega) := ⟨_, rfl⟩
  obtain ⟨x7, hx7⟩ : ∃ x, x = l[7]'(by omega) := ⟨_, rfl⟩
  have hn6 : num2 l 6 = x6.toNat * 256 + x7.toNat := by
    unfold num2
    rw [hx6, hx7, List.getD_eq_getElem?_getD, List.getElem?_eq_getElem (by omega), List.getD_eq_getElem?_getD, List.getElem?_eq_getElem (by omega)]
    rfl
  rw [← hx6] at c6
  rw [← hx7] at c7
  have i6 : (6 : Int) < (l.length : Int) := by omega
  have i7 : (7 : Int) < (l.length : Int) := by omega
  have hgets : ∀ W, Below w.heap.size w W → ∀ (a : Nat) (aa : Int), aa = (a : Int) → a + 2 ≤ 8 → Calls Try.prog 33 #[.slice (some ⟨b, o, none⟩) l.length c, .int .i64 aa, .int .i64 2] W fun e w' => e = .returned (.int .u64 ((num2 l a : Nat) : Int)) ∧ W = w' := fun W hW a aa ha h8 => rsGet_any (hr.below hW) ha (by omega)
  have hg4 := Lib.hid (fun W hW => hgets W hW 4 4 rfl (by omega))
  have hlt4 := num2_lt l 4
  obtain ⟨q4, hq4⟩ : ∃ q, q = num2 l 4 := ⟨_, rfl⟩
  rw [← hq4] at hg4 hlt4 h2 h3
  have hw4 : IntKind.i64.wrap (q4 : Int) = (q4 : Int) := IntWalk.i64_in _ (by omega)
  have ne4 : ((q4 : Int) == (l.length : Int)) = true := by simp; omega
  have nlt : ¬ q4 < l.length := by omega
  have ngt : ¬ l.length < q4 := by omega
  clear h3
  have hn6z := hn6
  rw [hz0] at hn6z
  clear hn6
  have hn6 := hn6z
  clear hn6z
  have h60 : x6.toNat = 0 := by omega
  have h70 : x7.toNat = 0 := by omega
  have z6 : ((x6.toNat : Int) == 0) = true := by rw [h60]; rfl
  have z7 : ((x7.toNat : Int) == 0) = true := by rw [h70]; rfl
  clear h60 h70
  obtain ⟨Y, hstY, HY⟩ := HX.put ⟨0, 0, 0, 6, true, 8⟩
  have hbt := build_rsUdp true
  unfold sgV at hbt
  generalize hSS : (⟨0, 0, 0, 6, true, 8⟩ : Sg) = SS at *
  have hSSz : SS.zero = true := by rw [← hSS]
  obtain ⟨⟨_, hRY, c0Y, c1Y⟩, ⟨hNY, _⟩, zY, _⟩ := HY.looks
  rw [hSSz] at zY
  rw [h6] at c0Y c0
  have hY2 : sgHd h l = ⟨num2 l 0, num2 l 2, SS.flags, SS.sumAt, SS.zero, SS.data⟩ := by unfold sgHd; rw [if_neg (by rw [hp]; decide), ← hSS]; congr 1; exact decide_eq_true hz0
  rw [hY2]
  clear hgets
  have hgets : ∀ W, Below w.heap.size w W → ∀ (a : Nat) (aa : Int), aa = (a : Int) → a + 2 ≤ 8 → Calls Try.prog 33 #[.slice (some ⟨b, o, none⟩) l.length c, .int .i64 aa, .int .i64 2] W fun e w' => e = .returned (.int .u64 ((num2 l a : Nat) : Int)) ∧ W = w' := fun W hW a aa ha h8 => rsGet_any (hr.below hW) ha (by omega)
  have hg0 := Lib.hid (fun W hW => hgets W hW 0 0 rfl (by omega))
  have hg2 := Lib.hid (fun W hW => hgets W hW 2 2 rfl (by omega))
  have hlt0 := num2_lt l 0
  have hlt2 := num2_lt l 2
  generalize num2 l 0 = q0 at *
  generalize num2 l 2 = q2 at *
  have hw0 : IntKind.u16.wrap (q0 : Int) = (q0 : Int) := IntWalk.u16_in _ (by omega)
  have hw2 : IntKind.u16.wrap (q2 : Int) = (q2 : Int) := IntWalk.u16_in _ (by omega)
  obtain ⟨S2, hS2⟩ : ∃ S2 : Sg, S2 = ⟨q0, q2, SS.flags, SS.sumAt, SS.zero, SS.data⟩ := ⟨_, rfl⟩
  have HE : Hid (∀ L, RsAt h w L SS → (L.heap[w.heap.size]? = L.heap[w.heap.size]? ∧ Below w.heap.size w L) ∧ ((∃ u, L.cell? ⟨w.heap.size + 1 + 1 + 1, 0, none⟩ = some (.int .u16 u)) ∧ (∃ u, L.cell? ⟨w.heap.size + 1 + 1 + 1, 1, none⟩ = some (.int .u16 u)) ∧ L.frozen? ⟨w.heap.size + 1 + 1 + 1, 0, none⟩ = false ∧ L.frozen? ⟨w.heap.size + 1 + 1 + 1, 1, none⟩ = false) ∧ ((L.setCell ⟨w.heap.size + 1 + 1 + 1, 0, none⟩ (.int .u16 (q0 : Int))).setCell ⟨w.heap.size + 1 + 1 + 1, 1, none⟩ (.int .u16 (q2 : Int))).heap[w.heap.size + 1 + 1]? = some (.cells (sgC Sg.none).toArray 35 (0, 0)) ∧ ((L.setCell ⟨w.heap.size + 1 + 1 + 1, 0, none⟩ (.int .u16 (q0 : Int))).setCell ⟨w.heap.size + 1 + 1 + 1, 1, none⟩ (.int .u16 (q2 : Int))).heap[w.heap.size + 1 + 1 + 1]? = some (.cells (sgC S2).toArray 35 (0, 0)) ∧ ∃ w9, (storeCells ⟨w.heap.size + 1, 0, none⟩ (sgC (S2))).run Try.prog ((L.setCell ⟨w.heap.size + 1 + 1 + 1, 0, none⟩ (.int .u16 (q0 : Int))).setCell ⟨w.heap.size + 1 + 1 + 1, 1, none⟩ (.int .u16 (q2 : Int))) = .ok () w9 ∧ Hid (SgAt w9 (w.heap.size + 1) (S2) ∧ Below w.heap.size w w9)) := Lib.hid fun L HL => by
    obtain ⟨_, _, _, d0, d1, e0, e1⟩ := HL.looks
    have H1 : RsAt h w (L.setCell ⟨w.heap.size + 1 + 1 + 1, 0, none⟩ (.int .u16 (q0 : Int))) ⟨q0, SS.dst, SS.flags, SS.sumAt, SS.zero, SS.data⟩ := HL.set rfl
    have H2 : RsAt h w ((L.setCell ⟨w.heap.size + 1 + 1 + 1, 0, none⟩ (.int .u16 (q0 : Int))).setCell ⟨w.heap.size + 1 + 1 + 1, 1, none⟩ (.int .u16 (q2 : Int))) S2 := by rw [hS2]; exact H1.set rfl
    obtain ⟨w9, h1, h2, h3⟩ := H2.tell (S2)
    exact ⟨⟨rfl, HL.below⟩, ⟨d0, d1, e0, e1⟩, H2.zero, H2.cur, w9, h1, Lib.hid ⟨h2, h3⟩⟩
  rw [← hS2]
  obtain ⟨⟨_, hbL⟩, ⟨⟨u0, d0⟩, ⟨u1, d1⟩, e0, e1⟩, hN2, hS2c, w9, hst9, HT⟩ := HE.out _ HY
  have HBL := Lib.hid hbL
  clear hbL
  clear hcell hc hx6 hx7 hn6 hq4 hlt4
  generalize l.length = m at *
  clear HX HY hp hr hl hw hSS hSSz hS2 hgets hlt0 hlt2 hz0 hY2
  have p0 := beq_zero hq0
  have p2 := beq_zero hq2
  clear hq0 hq2
  generalize hCS : sgC SS = CS at *
  have hCSl : CS.length = 6 := by rw [← hCS]; rfl
  have hC2i := info_sgA S2
  generalize hC2 : sgC S2 = C2 at *
  have HC2 := Lib.hid hC2
  have hC2l : C2.length = 6 := by rw [← hC2]; rfl
  clear hC2
  generalize hZ : sgC Sg.none = Z at *
  have HZ := Lib.hid hZ
  generalize hCH : hdC h = CH at *
  unfold hdV
  rw [hCH]
  clear hZ hCH
  go_enter Try.func20, Try.ntmps20
  go_wp2_with (first
    | (with_reducible refine wpList_alloc_zero (o := ⟨some 4, .alloc 35, _, _, _, _⟩) rfl 35 rfl Z.toArray hz ?_)
    | (with_reducible refine wpList_alloc_zero (o := ⟨some 6, .alloc 35, _, _, _, _⟩) rfl 35 rfl Z.toArray hz ?_)
    | (with_reducible refine wpList_alloc_zero (o := ⟨some 7, .alloc 35, _, _, _, _⟩) rfl 35 rfl Z.toArray hz ?_)
    | (go_at_call 33; have hx1 := hg4; clear hx1; refine (hg4.out _ HB.out).mono ?_; rintro _ wx ⟨rfl, rfl⟩; clear hg4)
    | ((with_reducible refine wpList_run (o := ⟨some 65, .build 35 #[(3, .const (.int .i64 6)), (5, .const (.int .i64 8)), (4, .tmp 64)], _, _, _, none⟩) rfl (.agg CS.toArray) X ?_ ?_); exact exec_bldS3 (k := 3) (k2 := 5) (k3 := 4) rfl (u := .int .i64 6) (u2 := .int .i64 8) (u3 := .bool true) rfl rfl rfl (hbt _))
    | (go_at_call 33; have hx1 := hg0; clear hx1; refine (hg0.out _ HBL.out).mono ?_; rintro _ wx ⟨rfl, rfl⟩; clear hg0)
    | (go_at_call 33; have hx1 := hg2; clear hx1; refine (hg2.out _ HBL.out).mono ?_; rintro _ wx ⟨rfl, rfl⟩; clear hg2)
    | ((with_reducible refine wpList_load_row (o := ⟨some 120, .load 35 (.tmp 7), _, _, _, _⟩) rfl 35 (.tmp 7) rfl (w.heap.size + 1 + 1 + 1) ?_ 35 C2.toArray (0, 0) _ hS2c Try.underlying35 rfl hC2i ?_); exact rfl))
  exact bodyPost_ret (ret_sg (p := 4) (q := 5) (by kernel_rfl) rfl HT.out.1 rfl) rfl ⟨by rw [← HC2.out]; rfl, HT.out.2⟩
set_option maxRecDepth 100000 in
set_option maxHeartbeats 1000000 in
theorem rsRead_us0 {A : Option Addr} {c : Nat} {l : List UInt8} {w : World} (h : Hd) (hw : h.Wide) (hr : Rd w w.heap.size (.slice A l.length c) (cellsB l)) (hl : l.length ≤ 100000) (hp : h.proto = 17) (h1 : ¬ l.length < 8) (h2 : ¬ num2 l 4 < 8) (h3 : num2 l 4 = l.length) (hz0 : num2 l 6 ≠ 0) (hok : sgOk h l = true) (hq0 : num2 l 0 ≠ 0) (hq2 : num2 l 2 ≠ 0) :
    Calls Try.prog 20 #[hdV h, .slice A l.length c] w fun e w' => e = .returned (.tuple #[sgV (sgHd h l), .int .i64 0]) ∧ Below w.heap.size w w' := by
  obtain ⟨X1, X, hst1, hst2, HX⟩ := RsAt.start h w
  obtain ⟨⟨hH, hR, c0, c1⟩, ⟨hN, _⟩, _⟩ := HX.looks
  have hi := info_hdA hw
  have hiR := info_hd hw
  have hz : ∀ W, (zeroValue 35).run Try.prog W = .ok (.agg (sgC Sg.none).toArray) W := zero_sg
  have hbu : ∀ W, (Instr.build 35 #[]).run Try.prog W = .ok (.agg (sgC Sg.none).toArray) W := build_sg0
  have hZl : (sgC Sg.none).length = 6 := rfl
  have hZi := info_sgA Sg.none
  have HB := Lib.hid HX.below
  have c1' : X.cell? ⟨w.heap.size, 1, none⟩ = some (.int .u8 17) := by rw [c1, hp]; rfl
  clear c1
  obtain ⟨b, o, rfl, hb, hc⟩ := hr.addr (by omega)
  have hcell : ∀ j (hj : j < l.length), X.cell? ⟨b, o + j, none⟩ = some (.int .u8 ((l[j]).toNat : Int)) := fun j hj => (HX.below.cell (show b < w.heap.size from hb)).trans (hc j hj)
  have c6 := hcell 6 (by omega)
  have c7 := hcell 7 (by omega)
  obtain ⟨x6, hx6⟩ : ∃ x, x = l[6]'(by omega) := ⟨_, rfl⟩
  obtain ⟨x7, hx7⟩ : ∃ x, x = l[7]'(by omega) := ⟨_, rfl⟩
  have hn6 : num2 l 6 = x6.toNat * 256 + x7.toNat := by
    unfold num2
    rw [hx6, hx7, List.getD_eq_getElem?_getD, List.getElem?_eq_getElem (by omega), List.getD_eq_getElem?_getD, List.getElem?_eq_getElem (by omega)]
    rfl
  rw [← hx6] at c6
  rw [← hx7] at c7
  have i6 : (6 : Int) < (l.length : Int) := by omega
  have i7 : (7 : Int) < (l.length : Int) := by omega
  have hgets : ∀ W, Below w.heap.size w W → ∀ (a : Nat) (aa : Int), aa = (a : Int) → a + 2 ≤ 8 → Calls Try.prog 33 #[.slice (some ⟨b, o, none⟩) l.length c, .int .i64 aa, .int .i64 2] W fun e w' => e = .returned (.int .u64 ((num2 l a : Nat) : Int)) ∧ W = w' := fun W hW a aa ha h8 => rsGet_any (hr.below hW) ha (by omega)
  have hg4 := Lib.hid (fun W hW => hgets W hW 4 4 rfl (by omega))
  have hlt4 := num2_lt l 4
  obtain ⟨q4, hq4⟩ : ∃ q, q = num2 l 4 := ⟨_, rfl⟩
  rw [← hq4] at hg4 hlt4 h2 h3
  have hw4 : IntKind.i64.wrap (q4 : Int) = (q4 : Int) := IntWalk.i64_in _ (by omega)
  have ne4 : ((q4 : Int) == (l.length : Int)) = true := by simp; omega
  have nlt : ¬ q4 < l.length := by omega
  have ngt : ¬ l.length < q4 := by omega
  clear h3
  by_cases h60 : x6 = 0
  · have z6 : ((x6.toNat : Int) == 0) = true := by rw [h60]; rfl
    have z7 : ((x7.toNat : Int) == 0) = false := beq_zero (by rw [h60] at hn6; intro e; rw [e] at hn6; exact hz0 hn6)
    obtain ⟨Y, hstY, HY⟩ := HX.put ⟨0, 0, 0, 6, false, 8⟩
    have hbt := build_rsUdp false
    unfold sgV at hbt
    generalize hSS : (⟨0, 0, 0, 6, false, 8⟩ : Sg) = SS at *
    have hSSz : SS.zero = false := by rw [← hSS]
    obtain ⟨⟨_, hRY, c0Y, c1Y⟩, ⟨hNY, _⟩, zY, _⟩ := HY.looks
    rw [hSSz] at zY
    have hGood : Hid (Calls Try.prog 37 #[.agg (hdC h).toArray, .slice (some ⟨b, o, none⟩) l.length c] Y fun e w' => e = .returned (.bool true) ∧ Below Y.heap.size Y w') := Lib.hid (by
      have := rsGood_any h hw ((hr.below HY.below).more HY.below.size) hl
      rw [hok, hdV] at this
      exact this)
    have HYn : Hid (∀ W, Below Y.heap.size Y W → RsAt h w W SS) := Lib.hid fun W hW => HY.next hW
    have hY2 : sgHd h l = ⟨num2 l 0, num2 l 2, SS.flags, SS.sumAt, SS.zero, SS.data⟩ := by unfold sgHd; rw [if_neg (by rw [hp]; decide), ← hSS]; congr 1; exact decide_eq_false hz0
    rw [hY2]
    clear hgets
    have hgets : ∀ W, Below w.heap.size w W → ∀ (a : Nat) (aa : Int), aa = (a : Int) → a + 2 ≤ 8 → Calls Try.prog 33 #[.slice (some ⟨b, o, none⟩) l.length c, .int .i64 aa, .int .i64 2] W fun e w' => e = .returned (.int .u64 ((num2 l a : Nat) : Int)) ∧ W = w' := fun W hW a aa ha h8 => rsGet_any (hr.below hW) ha (by omega)
    have hg0 := Lib.hid (fun W hW => hgets W hW 0 0 rfl (by omega))
    have hg2 := Lib.hid (fun W hW => hgets W hW 2 2 rfl (by omega))
    have hlt0 := num2_lt l 0
    have hlt2 := num2_lt l 2
    generalize num2 l 0 = q0 at *
    generalize num2 l 2 = q2 at *
    have hw0 : IntKind.u16.wrap (q0 : Int) = (q0 : Int) := IntWalk.u16_in _ (by omega)
    have hw2 : IntKind.u16.wrap (q2 : Int) = (q2 : Int) := IntWalk.u16_in _ (by omega)
    obtain ⟨S2, hS2⟩ : ∃ S2 : Sg, S2 = ⟨q0, q2, SS.flags, SS.sumAt, SS.zero, SS.data⟩ := ⟨_, rfl⟩
    have HE : Hid (∀ L, RsAt h w L SS → (L.heap[w.heap.size]? = L.heap[w.heap.size]? ∧ Below w.heap.size w L) ∧ ((∃ u, L.cell? ⟨w.heap.size + 1 + 1 + 1, 0, none⟩ = some (.int .u16 u)) ∧ (∃ u, L.cell? ⟨w.heap.size + 1 + 1 + 1, 1, none⟩ = some (.int .u16 u)) ∧ L.frozen? ⟨w.heap.size + 1 + 1 + 1, 0, none⟩ = false ∧ L.frozen? ⟨w.heap.size + 1 + 1 + 1, 1, none⟩ = false) ∧ ((L.setCell ⟨w.heap.size + 1 + 1 + 1, 0, none⟩ (.int .u16 (q0 : Int))).setCell ⟨w.heap.size + 1 + 1 + 1, 1, none⟩ (.int .u16 (q2 : Int))).heap[w.heap.size + 1 + 1]? = some (.cells (sgC Sg.none).toArray 35 (0, 0)) ∧ ((L.setCell ⟨w.heap.size + 1 + 1 + 1, 0, none⟩ (.int .u16 (q0 : Int))).setCell ⟨w.heap.size + 1 + 1 + 1, 1, none⟩ (.int .u16 (q2 : Int))).heap[w.heap.size + 1 + 1 + 1]? = some (.cells (sgC S2).toArray 35 (0, 0)) ∧ ∃ w9, (storeCells ⟨w.heap.size + 1, 0, none⟩ (sgC (S2))).run Try.prog ((L.setCell ⟨w.heap.size + 1 + 1 + 1, 0, none⟩ (.int .u16 (q0 : Int))).setCell ⟨w.heap.size + 1 + 1 + 1, 1, none⟩ (.int .u16 (q2 : Int))) = .ok () w9 ∧ Hid (SgAt w9 (w.heap.size + 1) (S2) ∧ Below w.heap.size w w9)) := Lib.hid fun L HL => by
      obtain ⟨_, _, _, d0, d1, e0, e1⟩ := HL.looks
      have H1 : RsAt h w (L.setCell ⟨w.heap.size + 1 + 1 + 1, 0, none⟩ (.int .u16 (q0 : Int))) ⟨q0, SS.dst, SS.flags, SS.sumAt, SS.zero, SS.data⟩ := HL.set rfl
      have H2 : RsAt h w ((L.setCell ⟨w.heap.size + 1 + 1 + 1, 0, none⟩ (.int .u16 (q0 : Int))).setCell ⟨w.heap.size + 1 + 1 + 1, 1, none⟩ (.int .u16 (q2 : Int))) S2 := by rw [hS2]; exact H1.set rfl
      obtain ⟨w9, h1, h2, h3⟩ := H2.tell (S2)
      exact ⟨⟨rfl, HL.below⟩, ⟨d0, d1, e0, e1⟩, H2.zero, H2.cur, w9, h1, Lib.hid ⟨h2, h3⟩⟩
    rw [← hS2]
    clear hcell hc hx6 hx7 hn6 hq4 hlt4
    generalize l.length = m at *
    clear HX HY hp hr hl hw hSS hSSz hS2 hgets hlt0 hlt2 hz0 hY2 hok
    have p0 := beq_zero hq0
    have p2 := beq_zero hq2
    clear hq0 hq2
    generalize hCS : sgC SS = CS at *
    have hCSl : CS.length = 6 := by rw [← hCS]; rfl
    have hC2i := info_sgA S2
    generalize hC2 : sgC S2 = C2 at *
    have HC2 := Lib.hid hC2
    have hC2l : C2.length = 6 := by rw [← hC2]; rfl
    clear hC2
    generalize hZ : sgC Sg.none = Z at *
    have HZ := Lib.hid hZ
    generalize hCH : hdC h = CH at *
    unfold hdV
    rw [hCH]
    clear hZ hCH
    go_enter Try.func20, Try.ntmps20
    go_wp2_with (first
      | (with_reducible refine wpList_alloc_zero (o := ⟨some 4, .alloc 35, _, _, _, _⟩) rfl 35 rfl Z.toArray hz ?_)
      | (with_reducible refine wpList_alloc_zero (o := ⟨some 6, .alloc 35, _, _, _, _⟩) rfl 35 rfl Z.toArray hz ?_)
      | (with_reducible refine wpList_alloc_zero (o := ⟨some 7, .alloc 35, _, _, _, _⟩) rfl 35 rfl Z.toArray hz ?_)
      | (go_at_call 33; have hx1 := hg4; clear hx1; refine (hg4.out _ HB.out).mono ?_; rintro _ wx ⟨rfl, rfl⟩; clear hg4)
      | ((with_reducible refine wpList_run (o := ⟨some 65, .build 35 #[(3, .const (.int .i64 6)), (5, .const (.int .i64 8)), (4, .tmp 64)], _, _, _, none⟩) rfl (.agg CS.toArray) X ?_ ?_); exact exec_bldS3 (k := 3) (k2 := 5) (k3 := 4) rfl (u := .int .i64 6) (u2 := .int .i64 8) (u3 := .bool false) rfl rfl rfl (hbt _))
      | ((with_reducible refine wpList_load_mid_g (op := ⟨some 97, .load 33 (.tmp 2), _, _, _, _⟩) (by kernel_rfl) 33 (.tmp 2) rfl w.heap.size 0 ?_ CH _ hRY Try.underlying33 rfl hiR ?_); exact rfl)
      | (go_at_call 37; refine hGood.out.mono ?_; rintro _ w2 ⟨rfl, hb2⟩; obtain ⟨⟨_, hbL⟩, ⟨⟨u0, d0⟩, ⟨u1, d1⟩, e0, e1⟩, hN2, hS2c, w9, hst9, HT⟩ := HE.out _ (HYn.out _ hb2); have HBL := Lib.hid hbL; clear hb2 hbL)
      | (go_at_call 33; have hx1 := hg0; clear hx1; refine (hg0.out _ HBL.out).mono ?_; rintro _ wx ⟨rfl, rfl⟩; clear hg0)
      | (go_at_call 33; have hx1 := hg2; clear hx1; refine (hg2.out _ HBL.out).mono ?_; rintro _ wx ⟨rfl, rfl⟩; clear hg2)
      | ((with_reducible refine wpList_load_row (o := ⟨some 120, .load 35 (.tmp 7), _, _, _, _⟩) rfl 35 (.tmp 7) rfl (w.heap.size + 1 + 1 + 1) ?_ 35 C2.toArray (0, 0) _ hS2c Try.underlying35 rfl hC2i ?_); exact rfl))
    exact bodyPost_ret (ret_sg (p := 4) (q := 5) (by kernel_rfl) rfl HT.out.1 rfl) rfl ⟨by rw [← HC2.out]; rfl, HT.out.2⟩
  · have z6 : ((x6.toNat : Int) == 0) = false := beq_zero (fun e => h60 (UInt8.toNat_inj.1 e))
    obtain ⟨Y, hstY, HY⟩ := HX.put ⟨0, 0, 0, 6, false, 8⟩
    have hbt := build_rsUdp false
    unfold sgV at hbt
    generalize hSS : (⟨0, 0, 0, 6, false, 8⟩ : Sg) = SS at *
    have hSSz : SS.zero = false := by rw [← hSS]
    obtain ⟨⟨_, hRY, c0Y, c1Y⟩, ⟨hNY, _⟩, zY, _⟩ := HY.looks
    rw [hSSz] at zY
    have hGood : Hid (Calls Try.prog 37 #[.agg (hdC h).toArray, .slice (some ⟨b, o, none⟩) l.length c] Y fun e w' => e = .returned (.bool true) ∧ Below Y.heap.size Y w') := Lib.hid (by
      have := rsGood_any h hw ((hr.below HY.below).more HY.below.size) hl
      rw [hok, hdV] at this
      exact this)
    have HYn : Hid (∀ W, Below Y.heap.size Y W → RsAt h w W SS) := Lib.hid fun W hW => HY.next hW
    have hY2 : sgHd h l = ⟨num2 l 0, num2 l 2, SS.flags, SS.sumAt, SS.zero, SS.data⟩ := by unfold sgHd; rw [if_neg (by rw [hp]; decide), ← hSS]; congr 1; exact decide_eq_false hz0
    rw [hY2]
    clear hgets
    have hgets : ∀ W, Below w.heap.size w W → ∀ (a : Nat) (aa : Int), aa = (a : Int) → a + 2 ≤ 8 → Calls Try.prog 33 #[.slice (some ⟨b, o, none⟩) l.length c, .int .i64 aa, .int .i64 2] W fun e w' => e = .returned (.int .u64 ((num2 l a : Nat) : Int)) ∧ W = w' := fun W hW a aa ha h8 => rsGet_any (hr.below hW) ha (by omega)
    have hg0 := Lib.hid (fun W hW => hgets W hW 0 0 rfl (by omega))
    have hg2 := Lib.hid (fun W hW => hgets W hW 2 2 rfl (by omega))
    have hlt0 := num2_lt l 0
    have hlt2 := num2_lt l 2
    generalize num2 l 0 = q0 at *
    generalize num2 l 2 = q2 at *
    have hw0 : IntKind.u16.wrap (q0 : Int) = (q0 : Int) := IntWalk.u16_in _ (by omega)
    have hw2 : IntKind.u16.wrap (q2 : Int) = (q2 : Int) := IntWalk.u16_in _ (by omega)
    obtain ⟨S2, hS2⟩ : ∃ S2 : Sg, S2 = ⟨q0, q2, SS.flags, SS.sumAt, SS.zero, SS.data⟩ := ⟨_, rfl⟩
    have HE : Hid (∀ L, RsAt h w L SS → (L.heap[w.heap.size]? = L.heap[w.heap.size]? ∧ Below w.heap.size w L) ∧ ((∃ u, L.cell? ⟨w.heap.size + 1 + 1 + 1, 0, none⟩ = some (.int .u16 u)) ∧ (∃ u, L.cell? ⟨w.heap.size + 1 + 1 + 1, 1, none⟩ = some (.int .u16 u)) ∧ L.frozen? ⟨w.heap.size + 1 + 1 + 1, 0, none⟩ = false ∧ L.frozen? ⟨w.heap.size + 1 + 1 + 1, 1, none⟩ = false) ∧ ((L.setCell ⟨w.heap.size + 1 + 1 + 1, 0, none⟩ (.int .u16 (q0 : Int))).setCell ⟨w.heap.size + 1 + 1 + 1, 1, none⟩ (.int .u16 (q2 : Int))).heap[w.heap.size + 1 + 1]? = some (.cells (sgC Sg.none).toArray 35 (0, 0)) ∧ ((L.setCell ⟨w.heap.size + 1 + 1 + 1, 0, none⟩ (.int .u16 (q0 : Int))).setCell ⟨w.heap.size + 1 + 1 + 1, 1, none⟩ (.int .u16 (q2 : Int))).heap[w.heap.size + 1 + 1 + 1]? = some (.cells (sgC S2).toArray 35 (0, 0)) ∧ ∃ w9, (storeCells ⟨w.heap.size + 1, 0, none⟩ (sgC (S2))).run Try.prog ((L.setCell ⟨w.heap.size + 1 + 1 + 1, 0, none⟩ (.int .u16 (q0 : Int))).setCell ⟨w.heap.size + 1 + 1 + 1, 1, none⟩ (.int .u16 (q2 : Int))) = .ok () w9 ∧ Hid (SgAt w9 (w.heap.size + 1) (S2) ∧ Below w.heap.size w w9)) := Lib.hid fun L HL => by
      obtain ⟨_, _, _, d0, d1, e0, e1⟩ := HL.looks
      have H1 : RsAt h w (L.setCell ⟨w.heap.size + 1 + 1 + 1, 0, none⟩ (.int .u16 (q0 : Int))) ⟨q0, SS.dst, SS.flags, SS.sumAt, SS.zero, SS.data⟩ := HL.set rfl
      have H2 : RsAt h w ((L.setCell ⟨w.heap.size + 1 + 1 + 1, 0, none⟩ (.int .u16 (q0 : Int))).setCell ⟨w.heap.size + 1 + 1 + 1, 1, none⟩ (.int .u16 (q2 : Int))) S2 := by rw [hS2]; exact H1.set rfl
      obtain ⟨w9, h1, h2, h3⟩ := H2.tell (S2)
      exact ⟨⟨rfl, HL.below⟩, ⟨d0, d1, e0, e1⟩, H2.zero, H2.cur, w9, h1, Lib.hid ⟨h2, h3⟩⟩
    rw [← hS2]
    clear hcell hc hx6 hx7 hn6 hq4 hlt4
    generalize l.length = m at *
    clear HX HY hp hr hl hw hSS hSSz hS2 hgets hlt0 hlt2 hz0 hY2 hok
    have p0 := beq_zero hq0
    have p2 := beq_zero hq2
    clear hq0 hq2
    generalize hCS : sgC SS = CS at *
    have hCSl : CS.length = 6 := by rw [← hCS]; rfl
    have hC2i := info_sgA S2
    generalize hC2 : sgC S2 = C2 at *
    have HC2 := Lib.hid hC2
    have hC2l : C2.length = 6 := by rw [← hC2]; rfl
    clear hC2
    generalize hZ : sgC Sg.none = Z at *
    have HZ := Lib.hid hZ
    generalize hCH : hdC h = CH at *
    unfold hdV
    rw [hCH]
    clear hZ hCH
    go_enter Try.func20, Try.ntmps20
    go_wp2_with (first
      | (with_reducible refine wpList_alloc_zero (o := ⟨some 4, .alloc 35, _, _, _, _⟩) rfl 35 rfl Z.toArray hz ?_)
      | (with_reducible refine wpList_alloc_zero (o := ⟨some 6, .alloc 35, _, _, _, _⟩) rfl 35 rfl Z.toArray hz ?_)
      | (with_reducible refine wpList_alloc_zero (o := ⟨some 7, .alloc 35, _, _, _, _⟩) rfl 35 rfl Z.toArray hz ?_)
      | (go_at_call 33; have hx1 := hg4; clear hx1; refine (hg4.out _ HB.out).mono ?_; rintro _ wx ⟨rfl, rfl⟩; clear hg4)
      | ((with_reducible refine wpList_run (o := ⟨some 65, .build 35 #[(3, .const (.int .i64 6)), (5, .const (.int .i64 8)), (4, .tmp 64)], _, _, _, none⟩) rfl (.agg CS.toArray) X ?_ ?_); exact exec_bldS3 (k := 3) (k2 := 5) (k3 := 4) rfl (u := .int .i64 6) (u2 := .int .i64 8) (u3 := .bool false) rfl rfl rfl (hbt _))
      | ((with_reducible refine wpList_load_mid_g (op := ⟨some 97, .load 33 (.tmp 2), _, _, _, _⟩) (by kernel_rfl) 33 (.tmp 2) rfl w.heap.size 0 ?_ CH _ hRY Try.underlying33 rfl hiR ?_); exact rfl)
      | (go_at_call 37; refine hGood.out.mono ?_; rintro _ w2 ⟨rfl, hb2⟩; obtain ⟨⟨_, hbL⟩, ⟨⟨u0, d0⟩, ⟨u1, d1⟩, e0, e1⟩, hN2, hS2c, w9, hst9, HT⟩ := HE.out _ (HYn.out _ hb2); have HBL := Lib.hid hbL; clear hb2 hbL)
      | (go_at_call 33; have hx1 := hg0; clear hx1; refine (hg0.out _ HBL.out).mono ?_; rintro _ wx ⟨rfl, rfl⟩; clear hg0)
      | (go_at_call 33; have hx1 := hg2; clear hx1; refine (hg2.out _ HBL.out).mono ?_; rintro _ wx ⟨rfl, rfl⟩; clear hg2)
      | ((with_reducible refine wpList_load_row (o := ⟨some 120, .load 35 (.tmp 7), _, _, _, _⟩) rfl 35 (.tmp 7) rfl (w.heap.size + 1 + 1 + 1) ?_ 35 C2.toArray (0, 0) _ hS2c Try.underlying35 rfl hC2i ?_); exact rfl))
    exact bodyPost_ret (ret_sg (p := 4) (q := 5) (by kernel_rfl) rfl HT.out.1 rfl) rfl ⟨by rw [← HC2.out]; rfl, HT.out.2⟩
end Go.Proofs.Ytejppekcniehpaa
