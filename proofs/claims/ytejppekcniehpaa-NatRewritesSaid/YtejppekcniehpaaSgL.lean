/-
  The document's Read of a segment of TCP, way by way.
-/
import Derived.Test.YtejppekcniehpaaSgK
import Derived.Test.YtejppekcniehpaaAdEq
namespace Go.Proofs.Ytejppekcniehpaa
open Go.RowKit
set_option maxRecDepth 100000 in
set_option maxHeartbeats 1000000 in
theorem rsRead_none {A : Option Addr} {c : Nat} {l : List UInt8} {w : World} (h : Hd) (hw : h.Wide) (hr : Rd w w.heap.size (.slice A l.length c) (cellsB l)) (hl : l.length ≤ 100000) (h6 : h.proto ≠ 6) (h17 : h.proto ≠ 17) :
    Calls Try.prog 20 #[hdV h, .slice A l.length c] w fun e w' => e = .returned (.tuple #[sgV (Sg.none), .int .i64 6]) ∧ Below w.heap.size w w' := by
  obtain ⟨X1, X, hst1, hst2, HX⟩ := RsAt.start h w
  obtain ⟨⟨hH, hR, c0, c1⟩, ⟨hN, _⟩, _⟩ := HX.looks
  have hi := info_hdA hw
  have hiR := info_hd hw
  have hz : ∀ W, (zeroValue 35).run Try.prog W = .ok (.agg (sgC Sg.none).toArray) W := zero_sg
  have hbu : ∀ W, (Instr.build 35 #[]).run Try.prog W = .ok (.agg (sgC Sg.none).toArray) W := build_sg0
  have hZl : (sgC Sg.none).length = 6 := rfl
  have hZi := info_sgA Sg.none
  have HB := Lib.hid HX.below
  have k6 : ((h.proto.toNat : Int) == 6) = false := u8_ne h6
  have k17 : ((h.proto.toNat : Int) == 17) = false := u8_ne h17
  have n6 : ((h.proto.toNat : Int) != 6) = true := by rw [bne, k6]; rfl
  have n17 : ((h.proto.toNat : Int) != 17) = true := by rw [bne, k17]; rfl
  obtain ⟨w9, hst9, hat9, hb9⟩ := HX.tell Sg.none
  have HT := Lib.hid (And.intro hat9 hb9)
  clear hat9 hb9
  generalize h.proto.toNat = p at *
  clear HX h6 h17 hr hl hw hi hiR
  generalize hZ : sgC Sg.none = Z at *
  have HZ := Lib.hid hZ
  generalize hCH : hdC h = CH at *
  unfold hdV
  rw [hCH]
  clear hZ hCH
  go_enter Try.func20, Try.ntmps20
  go_wp2_with (first
    | (with_reducible refine wpList_alloc_zero (o := ⟨some 4, .alloc 35, _, _, _, _⟩) rfl 35 rfl Z.toArray hz ?_)
    | (with_reducible refine wpList_alloc_zero (o := ⟨some 6, .alloc 35, _, _, _, _⟩) rfl 35 rfl Z.toArray hz ?_)
    | (with_reducible refine wpList_alloc_zero (o := ⟨some 7, .alloc 35, _, _, _, _⟩) rfl 35 rfl Z.toArray hz ?_)
    | ((with_reducible refine wpList_load_row (o := ⟨some 24, .load 35 (.tmp 6), _, _, _, _⟩) rfl 35 (.tmp 6) rfl (w.heap.size + 1 + 1) ?_ 35 Z.toArray (0, 0) _ hN Try.underlying35 rfl hZi ?_); exact rfl))
  exact bodyPost_ret (ret_sg (p := 4) (q := 5) (by kernel_rfl) rfl HT.out.1 rfl) rfl ⟨by rw [← HZ.out]; rfl, HT.out.2⟩
set_option maxRecDepth 100000 in
set_option maxHeartbeats 1000000 in
theorem rsRead_t9 {A : Option Addr} {c : Nat} {l : List UInt8} {w : World} (h : Hd) (hw : h.Wide) (hr : Rd w w.heap.size (.slice A l.length c) (cellsB l)) (hl : l.length ≤ 100000) (hp : h.proto = 6) (h1 : l.length < 20) :
    Calls Try.prog 20 #[hdV h, .slice A l.length c] w fun e w' => e = .returned (.tuple #[sgV (Sg.none), .int .i64 9]) ∧ Below w.heap.size w w' := by
  obtain ⟨X1, X, hst1, hst2, HX⟩ := RsAt.start h w
  obtain ⟨⟨hH, hR, c0, c1⟩, ⟨hN, _⟩, _⟩ := HX.looks
  have hi := info_hdA hw
  have hiR := info_hd hw
  have hz : ∀ W, (zeroValue 35).run Try.prog W = .ok (.agg (sgC Sg.none).toArray) W := zero_sg
  have hbu : ∀ W, (Instr.build 35 #[]).run Try.prog W = .ok (.agg (sgC Sg.none).toArray) W := build_sg0
  have hZl : (sgC Sg.none).length = 6 := rfl
  have hZi := info_sgA Sg.none
  have HB := Lib.hid HX.below
  have c1' : X.cell? ⟨w.heap.size, 1, none⟩ = some (.int .u8 6) := by rw [c1, hp]; rfl
  clear c1
  obtain ⟨w9, hst9, hat9, hb9⟩ := HX.tell Sg.none
  have HT := Lib.hid (And.intro hat9 hb9)
  clear hat9 hb9
  generalize l.length = m at *
  clear HX hp hr hl hw hi hiR
  generalize hZ : sgC Sg.none = Z at *
  have HZ := Lib.hid hZ
  generalize hCH : hdC h = CH at *
  unfold hdV
  rw [hCH]
  clear hZ hCH
  go_enter Try.func20, Try.ntmps20
  go_wp2_with (first
    | (with_reducible refine wpList_alloc_zero (o := ⟨some 4, .alloc 35, _, _, _, _⟩) rfl 35 rfl Z.toArray hz ?_)
    | (with_reducible refine wpList_alloc_zero (o := ⟨some 6, .alloc 35, _, _, _, _⟩) rfl 35 rfl Z.toArray hz ?_)
    | (with_reducible refine wpList_alloc_zero (o := ⟨some 7, .alloc 35, _, _, _, _⟩) rfl 35 rfl Z.toArray hz ?_)
    | ((with_reducible refine wpList_load_row (o := ⟨some 29, .load 35 (.tmp 6), _, _, _, _⟩) rfl 35 (.tmp 6) rfl (w.heap.size + 1 + 1) ?_ 35 Z.toArray (0, 0) _ hN Try.underlying35 rfl hZi ?_); exact rfl))
  exact bodyPost_ret (ret_sg (p := 4) (q := 5) (by kernel_rfl) rfl HT.out.1 rfl) rfl ⟨by rw [← HZ.out]; rfl, HT.out.2⟩
set_option maxRecDepth 100000 in
set_option maxHeartbeats 1000000 in
theorem rsRead_u9 {A : Option Addr} {c : Nat} {l : List UInt8} {w : World} (h : Hd) (hw : h.Wide) (hr : Rd w w.heap.size (.slice A l.length c) (cellsB l)) (hl : l.length ≤ 100000) (hp : h.proto = 17) (h1 : l.length < 8) :
    Calls Try.prog 20 #[hdV h, .slice A l.length c] w fun e w' => e = .returned (.tuple #[sgV (Sg.none), .int .i64 9]) ∧ Below w.heap.size w w' := by
  obtain ⟨X1, X, hst1, hst2, HX⟩ := RsAt.start h w
  obtain ⟨⟨hH, hR, c0, c1⟩, ⟨hN, _⟩, _⟩ := HX.looks
  have hi := info_hdA hw
  have hiR := info_hd hw
  have hz : ∀ W, (zeroValue 35).run Try.prog W = .ok (.agg (sgC Sg.none).toArray) W := zero_sg
  have hbu : ∀ W, (Instr.build 35 #[]).run Try.prog W = .ok (.agg (sgC Sg.none).toArray) W := build_sg0
  have hZl : (sgC Sg.none).length = 6 := rfl
  have hZi := info_sgA Sg.none
  have HB := Lib.hid HX.below
  have c1' : X.cell? ⟨w.heap.size, 1, none⟩ = some (.int .u8 17) := by rw [c1, hp]; rfl
  clear c1
  obtain ⟨w9, hst9, hat9, hb9⟩ := HX.tell Sg.none
  have HT := Lib.hid (And.intro hat9 hb9)
  clear hat9 hb9
  generalize l.length = m at *
  clear HX hp hr hl hw hi hiR
  generalize hZ : sgC Sg.none = Z at *
  have HZ := Lib.hid hZ
  generalize hCH : hdC h = CH at *
  unfold hdV
  rw [hCH]
  clear hZ hCH
  go_enter Try.func20, Try.ntmps20
  go_wp2_with (first
    | (with_reducible refine wpList_alloc_zero (o := ⟨some 4, .alloc 35, _, _, _, _⟩) rfl 35 rfl Z.toArray hz ?_)
    | (with_reducible refine wpList_alloc_zero (o := ⟨some 6, .alloc 35, _, _, _, _⟩) rfl 35 rfl Z.toArray hz ?_)
    | (with_reducible refine wpList_alloc_zero (o := ⟨some 7, .alloc 35, _, _, _, _⟩) rfl 35 rfl Z.toArray hz ?_)
    | ((with_reducible refine wpList_load_row (o := ⟨some 29, .load 35 (.tmp 6), _, _, _, _⟩) rfl 35 (.tmp 6) rfl (w.heap.size + 1 + 1) ?_ 35 Z.toArray (0, 0) _ hN Try.underlying35 rfl hZi ?_); exact rfl))
  exact bodyPost_ret (ret_sg (p := 4) (q := 5) (by kernel_rfl) rfl HT.out.1 rfl) rfl ⟨by rw [← HZ.out]; rfl, HT.out.2⟩
set_option maxRecDepth 100000 in
set_option maxHeartbeats 1000000 in
theorem rsRead_t4 {A : Option Addr} {c : Nat} {l : List UInt8} {w : World} (h : Hd) (hw : h.Wide) (hr : Rd w w.heap.size (.slice A l.length c) (cellsB l)) (hl : l.length ≤ 100000) (hp : h.proto = 6) (h1 : ¬ l.length < 20) (h2 : sgN l < 20) :
    Calls Try.prog 20 #[hdV h, .slice A l.length c] w fun e w' => e = .returned (.tuple #[sgV (Sg.none), .int .i64 4]) ∧ Below w.heap.size w w' := by
  obtain ⟨X1, X, hst1, hst2, HX⟩ := RsAt.start h w
  obtain ⟨⟨hH, hR, c0, c1⟩, ⟨hN, _⟩, _⟩ := HX.looks
  have hi := info_hdA hw
  have hiR := info_hd hw
  have hz : ∀ W, (zeroValue 35).run Try.prog W = .ok (.agg (sgC Sg.none).toArray) W := zero_sg
  have hbu : ∀ W, (Instr.build 35 #[]).run Try.prog W = .ok (.agg (sgC Sg.none).toArray) W := build_sg0
  have hZl : (sgC Sg.none).length = 6 := rfl
  have hZi := info_sgA Sg.none
  have HB := Lib.hid HX.below
  have c1' : X.cell? ⟨w.heap.size, 1, none⟩ = some (.int .u8 6) := by rw [c1, hp]; rfl
  clear c1
  obtain ⟨b, o, rfl, hb, hc⟩ := hr.addr (by omega)
  have hcell : ∀ j (hj : j < l.length), X.cell? ⟨b, o + j, none⟩ = some (.int .u8 ((l[j]).toNat : Int)) := fun j hj => (HX.below.cell (show b < w.heap.size from hb)).trans (hc j hj)
  have c12 := hcell 12 (by omega)
  obtain ⟨x, hx⟩ : ∃ x, x = l[12]'(by omega) := ⟨_, rfl⟩
  have hgx : (l.getD 12 0).toNat = x.toNat := by rw [hx, List.getD_eq_getElem?_getD, List.getElem?_eq_getElem (by omega)]; rfl
  rw [← hx] at c12
  have hxl := x.toNat_lt
  obtain ⟨p, hpd⟩ : ∃ p, p = x.toNat / 16 := ⟨_, rfl⟩
  have hNe : sgN l = p * 4 := by unfold sgN; rw [hgx, hpd]
  have q1 : (x.toNat : Int).tdiv 16 = (p : Int) := by rw [Int.tdiv_eq_ediv_of_nonneg (by omega)]; omega
  have q2 : (p : Int) % 256 = (p : Int) := by omega
  obtain ⟨k, hk⟩ : ∃ k, k = p * 4 := ⟨_, rfl⟩
  rw [hNe, ← hk] at h2
  have q3 : (p : Int) * 4 = (k : Int) := by omega
  have q4 : IntKind.i64.wrap (k : Int) = (k : Int) := IntWalk.i64_in _ (by omega)
  have q5 : IntKind.i64.wrap (p : Int) = (p : Int) := IntWalk.i64_in _ (by omega)
  obtain ⟨w9, hst9, hat9, hb9⟩ := HX.tell Sg.none
  have HT := Lib.hid (And.intro hat9 hb9)
  clear hat9 hb9
  clear hcell hgx hx hxl hpd hNe hk hc
  generalize l.length = m at *
  clear HX hp hr hl hw hi hiR
  generalize hZ : sgC Sg.none = Z at *
  have HZ := Lib.hid hZ
  generalize hCH : hdC h = CH at *
  unfold hdV
  rw [hCH]
  clear hZ hCH
  go_enter Try.func20, Try.ntmps20
  go_wp2_with (first
    | (with_reducible refine wpList_alloc_zero (o := ⟨some 4, .alloc 35, _, _, _, _⟩) rfl 35 rfl Z.toArray hz ?_)
    | (with_reducible refine wpList_alloc_zero (o := ⟨some 6, .alloc 35, _, _, _, _⟩) rfl 35 rfl Z.toArray hz ?_)
    | (with_reducible refine wpList_alloc_zero (o := ⟨some 7, .alloc 35, _, _, _, _⟩) rfl 35 rfl Z.toArray hz ?_)
    | ((with_reducible refine wpList_load_row (o := ⟨some 41, .load 35 (.tmp 6), _, _, _, _⟩) rfl 35 (.tmp 6) rfl (w.heap.size + 1 + 1) ?_ 35 Z.toArray (0, 0) _ hN Try.underlying35 rfl hZi ?_); exact rfl))
  exact bodyPost_ret (ret_sg (p := 4) (q := 5) (by kernel_rfl) rfl HT.out.1 rfl) rfl ⟨by rw [← HZ.out]; rfl, HT.out.2⟩
set_option maxRecDepth 100000 in
set_option maxHeartbeats 1000000 in
theorem rsRead_t9b {A : Option Addr} {c : Nat} {l : List UInt8} {w : World} (h : Hd) (hw : h.Wide) (hr : Rd w w.heap.size (.slice A l.length c) (cellsB l)) (hl : l.length ≤ 100000) (hp : h.proto = 6) (h1 : ¬ l.length < 20) (h2 : ¬ sgN l < 20) (h3 : l.length < sgN l) :
    Calls Try.prog 20 #[hdV h, .slice A l.length c] w fun e w' => e = .returned (.tuple #[sgV (Sg.none), .int .i64 9]) ∧ Below w.heap.size w w' := by
  obtain ⟨X1, X, hst1, hst2, HX⟩ := RsAt.start h w
  obtain ⟨⟨hH, hR, c0, c1⟩, ⟨hN, _⟩, _⟩ := HX.looks
  have hi := info_hdA hw
  have hiR := info_hd hw
  have hz : ∀ W, (zeroValue 35).run Try.prog W = .ok (.agg (sgC Sg.none).toArray) W := zero_sg
  have hbu : ∀ W, (Instr.build 35 #[]).run Try.prog W = .ok (.agg (sgC Sg.none).toArray) W := build_sg0
  have hZl : (sgC Sg.none).length = 6 := rfl
  have hZi := info_sgA Sg.none
  have HB := Lib.hid HX.below
  have c1' : X.cell? ⟨w.heap.size, 1, none⟩ = some (.int .u8 6) := by rw [c1, hp]; rfl
  clear c1
  obtain ⟨b, o, rfl, hb, hc⟩ := hr.addr (by omega)
  have hcell : ∀ j (hj : j < l.length), X.cell? ⟨b, o + j, none⟩ = some (.int .u8 ((l[j]).toNat : Int)) := fun j hj => (HX.below.cell (show b < w.heap.size from hb)).trans (hc j hj)
  have c12 := hcell 12 (by omega)
  obtain ⟨x, hx⟩ : ∃ x, x = l[12]'(by omega) := ⟨_, rfl⟩
  have hgx : (l.getD 12 0).toNat = x.toNat := by rw [hx, List.getD_eq_getElem?_getD, List.getElem?_eq_getElem (by omega)]; rfl
  rw [← hx] at c12
  have hxl := x.toNat_lt
  obtain ⟨p, hpd⟩ : ∃ p, p = x.toNat / 16 := ⟨_, rfl⟩
  have hNe : sgN l = p * 4 := by unfold sgN; rw [hgx, hpd]
  have q1 : (x.toNat : Int).tdiv 16 = (p : Int) := by rw [Int.tdiv_eq_ediv_of_nonneg (by omega)]; omega
  have q2 : (p : Int) % 256 = (p : Int) := by omega
  obtain ⟨k, hk⟩ : ∃ k, k = p * 4 := ⟨_, rfl⟩
  rw [hNe, ← hk] at h2 h3
  have q3 : (p : Int) * 4 = (k : Int) := by omega
  have q4 : IntKind.i64.wrap (k : Int) = (k : Int) := IntWalk.i64_in _ (by omega)
  have q5 : IntKind.i64.wrap (p : Int) = (p : Int) := IntWalk.i64_in _ (by omega)
  obtain ⟨w9, hst9, hat9, hb9⟩ := HX.tell Sg.none
  have HT := Lib.hid (And.intro hat9 hb9)
  clear hat9 hb9
  clear hcell hgx hx hxl hpd hNe hk hc
  generalize l.length = m at *
  clear HX hp hr hl hw hi hiR
  generalize hZ : sgC Sg.none = Z at *
  have HZ := Lib.hid hZ
  generalize hCH : hdC h = CH at *
  unfold hdV
  rw [hCH]
  clear hZ hCH
  go_enter Try.func20, Try.ntmps20
  go_wp2_with (first
    | (with_reducible refine wpList_alloc_zero (o := ⟨some 4, .alloc 35, _, _, _, _⟩) rfl 35 rfl Z.toArray hz ?_)
    | (with_reducible refine wpList_alloc_zero (o := ⟨some 6, .alloc 35, _, _, _, _⟩) rfl 35 rfl Z.toArray hz ?_)
    | (with_reducible refine wpList_alloc_zero (o := ⟨some 7, .alloc 35, _, _, _, _⟩) rfl 35 rfl Z.toArray hz ?_)
    | ((with_reducible refine wpList_load_row (o := ⟨some 46, .load 35 (.tmp 6), _, _, _, _⟩) rfl 35 (.tmp 6) rfl (w.heap.size + 1 + 1) ?_ 35 Z.toArray (0, 0) _ hN Try.underlying35 rfl hZi ?_); exact rfl))
  exact bodyPost_ret (ret_sg (p := 4) (q := 5) (by kernel_rfl) rfl HT.out.1 rfl) rfl ⟨by rw [← HZ.out]; rfl, HT.out.2⟩
set_option maxRecDepth 100000 in
set_option maxHeartbeats 1000000 in
theorem rsRead_t5 {A : Option Addr} {c : Nat} {l : List UInt8} {w : World} (h : Hd) (hw : h.Wide) (hr : Rd w w.heap.size (.slice A l.length c) (cellsB l)) (hl : l.length ≤ 100000) (hp : h.proto = 6) (h1 : ¬ l.length < 20) (h2 : ¬ sgN l < 20) (h3 : ¬ l.length < sgN l) (hok : sgOk h l = false) :
    Calls Try.prog 20 #[hdV h, .slice A l.length c] w fun e w' => e = .returned (.tuple #[sgV (Sg.none), .int .i64 5]) ∧ Below w.heap.size w w' := by
  obtain ⟨X1, X, hst1, hst2, HX⟩ := RsAt.start h w
  obtain ⟨⟨hH, hR, c0, c1⟩, ⟨hN, _⟩, _⟩ := HX.looks
  have hi := info_hdA hw
  have hiR := info_hd hw
  have hz : ∀ W, (zeroValue 35).run Try.prog W = .ok (.agg (sgC Sg.none).toArray) W := zero_sg
  have hbu : ∀ W, (Instr.build 35 #[]).run Try.prog W = .ok (.agg (sgC Sg.none).toArray) W := build_sg0
  have hZl : (sgC Sg.none).length = 6 := rfl
  have hZi := info_sgA Sg.none
  have HB := Lib.hid HX.below
  have c1' : X.cell? ⟨w.heap.size, 1, none⟩ = some (.int .u8 6) := by rw [c1, hp]; rfl
  clear c1
  obtain ⟨b, o, rfl, hb, hc⟩ := hr.addr (by omega)
  have hcell : ∀ j (hj : j < l.length), X.cell? ⟨b, o + j, none⟩ = some (.int .u8 ((l[j]).toNat : Int)) := fun j hj => (HX.below.cell (show b < w.heap.size from hb)).trans (hc j hj)
  have c12 := hcell 12 (by omega)
  obtain ⟨x, hx⟩ : ∃ x, x = l[12]'(by omega) := ⟨_, rfl⟩
  have hgx : (l.getD 12 0).toNat = x.toNat := by rw [hx, List.getD_eq_getElem?_getD, List.getElem?_eq_getElem (by omega)]; rfl
  rw [← hx] at c12
  have hxl := x.toNat_lt
  obtain ⟨p, hpd⟩ : ∃ p, p = x.toNat / 16 := ⟨_, rfl⟩
  have hNe : sgN l = p * 4 := by unfold sgN; rw [hgx, hpd]
  have q1 : (x.toNat : Int).tdiv 16 = (p : Int) := by rw [Int.tdiv_eq_ediv_of_nonneg (by omega)]; omega
  have q2 : (p : Int) % 256 = (p : Int) := by omega
  obtain ⟨k, hk⟩ : ∃ k, k = p * 4 := ⟨_, rfl⟩
  rw [hNe, ← hk] at h2 h3
  have q3 : (p : Int) * 4 = (k : Int) := by omega
  have q4 : IntKind.i64.wrap (k : Int) = (k : Int) := IntWalk.i64_in _ (by omega)
  have q5 : IntKind.i64.wrap (p : Int) = (p : Int) := IntWalk.i64_in _ (by omega)
  have c13 := hcell 13 (by omega)
  obtain ⟨f, hf⟩ : ∃ f, f = l[13]'(by omega) := ⟨_, rfl⟩
  have hgf : l.getD 13 0 = f := by rw [hf, List.getD_eq_getElem?_getD, List.getElem?_eq_getElem (by omega)]; rfl
  rw [← hf] at c13
  have n13 : (13 : Int) < (l.length : Int) := by omega
  obtain ⟨Y, hstY, HY⟩ := HX.put ⟨0, 0, f, 16, false, (k : Int)⟩
  have hbt := build_rsTcp f (k : Int)
  unfold sgV at hbt
  generalize hSS : (⟨0, 0, f, 16, false, (k : Int)⟩ : Sg) = SS at *
  have hSSz : SS.zero = false := by rw [← hSS]
  obtain ⟨⟨_, hRY, c0Y, c1Y⟩, ⟨hNY, _⟩, zY, _⟩ := HY.looks
  rw [hSSz] at zY
  have hGood : Hid (Calls Try.prog 37 #[.agg (hdC h).toArray, .slice (some ⟨b, o, none⟩) l.length c] Y fun e w' => e = .returned (.bool false) ∧ Below Y.heap.size Y w') := Lib.hid (by
    have := rsGood_any h hw ((hr.below HY.below).more HY.below.size) hl
    rw [hok, hdV] at this
    exact this)
  have HE : Hid (∀ W, Below Y.heap.size Y W → ∃ w9, (storeCells ⟨w.heap.size + 1, 0, none⟩ (sgC Sg.none)).run Try.prog W = .ok () w9 ∧ W.heap[w.heap.size + 1 + 1]? = some (.cells (sgC Sg.none).toArray 35 (0, 0)) ∧ Hid (SgAt w9 (w.heap.size + 1) Sg.none ∧ Below w.heap.size w w9)) := Lib.hid fun W hW => by
    obtain ⟨w9, h1, h2, h3⟩ := (HY.next hW).tell Sg.none
    exact ⟨w9, h1, (HY.next hW).zero, Lib.hid ⟨h2, h3⟩⟩
  clear hcell hgx hx hxl hpd hNe hk hc
  clear hf hgf
  generalize l.length = m at *
  clear HX HY hp hr hl hw hok hSS hSSz
  generalize hCS : sgC SS = CS at *
  have hCSl : CS.length = 6 := by rw [← hCS]; rfl
  generalize hZ : sgC Sg.none = Z at *
  have HZ := Lib.hid hZ
  generalize hCH : hdC h = CH at *
  unfold hdV
  rw [hCH]
  clear hZ hCH
  go_enter Try.func20, Try.ntmps20
  go_wp2_with (first
    | (with_reducible refine wpList_alloc_zero (o := ⟨some 4, .alloc 35, _, _, _, _⟩) rfl 35 rfl Z.toArray hz ?_)
    | (with_reducible refine wpList_alloc_zero (o := ⟨some 6, .alloc 35, _, _, _, _⟩) rfl 35 rfl Z.toArray hz ?_)
    | (with_reducible refine wpList_alloc_zero (o := ⟨some 7, .alloc 35, _, _, _, _⟩) rfl 35 rfl Z.toArray hz ?_)
    | ((with_reducible refine wpList_run (o := ⟨some 51, .build 35 #[(2, .tmp 49), (3, .const (.int .i64 16)), (5, .tmp 50)], _, _, _, none⟩) rfl (.agg CS.toArray) X ?_ ?_); exact exec_bldS3 (k := 2) (k2 := 3) (k3 := 5) rfl (u := .int .u8 (f.toNat : Int)) (u2 := .int .i64 16) (u3 := .int .i64 (k : Int)) rfl rfl rfl (hbt _))
    | ((with_reducible refine wpList_load_mid_g (op := ⟨some 97, .load 33 (.tmp 2), _, _, _, _⟩) (by kernel_rfl) 33 (.tmp 2) rfl w.heap.size 0 ?_ CH _ hRY Try.underlying33 rfl hiR ?_); exact rfl)
    | (go_at_call 37; refine hGood.out.mono ?_; rintro _ w2 ⟨rfl, hb2⟩; obtain ⟨w9, hst9, hN2, HT⟩ := HE.out _ hb2; clear hb2)
    | ((with_reducible refine wpList_load_row (o := ⟨some 102, .load 35 (.tmp 6), _, _, _, _⟩) rfl 35 (.tmp 6) rfl (w.heap.size + 1 + 1) ?_ 35 Z.toArray (0, 0) _ hN2 Try.underlying35 rfl hZi ?_); exact rfl))
  exact bodyPost_ret (ret_sg (p := 4) (q := 5) (by kernel_rfl) rfl HT.out.1 rfl) rfl ⟨by rw [← HZ.out]; rfl, HT.out.2⟩
set_option maxRecDepth 100000 in
set_option maxHeartbeats 1000000 in
theorem rsRead_t4b {A : Option Addr} {c : Nat} {l : List UInt8} {w : World} (h : Hd) (hw : h.Wide) (hr : Rd w w.heap.size (.slice A l.length c) (cellsB l)) (hl : l.length ≤ 100000) (hp : h.proto = 6) (h1 : ¬ l.length < 20) (h2 : ¬ sgN l < 20) (h3 : ¬ l.length < sgN l) (hok : sgOk h l = true) (hq : num2 l 0 = 0 ∨ num2 l 2 = 0) :
    Calls Try.prog 20 #[hdV h, .slice A l.length c] w fun e w' => e = .returned (.tuple #[sgV (Sg.none), .int .i64 4]) ∧ Below w.heap.size w w' := by
  obtain ⟨X1, X, hst1, hst2, HX⟩ := RsAt.start h w
  obtain ⟨⟨hH, hR, c0, c1⟩, ⟨hN, _⟩, _⟩ := HX.looks
  have hi := info_hdA hw
  have hiR := info_hd hw
  have hz : ∀ W, (zeroValue 35).run Try.prog W = .ok (.agg (sgC Sg.none).toArray) W := zero_sg
  have hbu : ∀ W, (Instr.build 35 #[]).run Try.prog W = .ok (.agg (sgC Sg.none).toArray) W := build_sg0
  have hZl : (sgC Sg.none).length = 6 := rfl
  have hZi := info_sgA Sg.none
  have HB := Lib.hid HX.below
  have c1' : X.cell? ⟨w.heap.size, 1, none⟩ = some (.int .u8 6) := by rw [c1, hp]; rfl
  clear c1
  obtain ⟨b, o, rfl, hb, hc⟩ := hr.addr (by omega)
  have hcell : ∀ j (hj : j < l.length), X.cell? ⟨b, o + j, none⟩ = some (.int .u8 ((l[j]).toNat : Int)) := fun j hj => (HX.below.cell (show b < w.heap.size from hb)).trans (hc j hj)
  have c12 := hcell 12 (by omega)
  obtain ⟨x, hx⟩ : ∃ x, x = l[12]'(by omega) := ⟨_, rfl⟩
  have hgx : (l.getD 12 0).toNat = x.toNat := by rw [hx, List.getD_eq_getElem?_getD, List.getElem?_eq_getElem (by omega)]; rfl
  rw [← hx] at c12
  have hxl := x.toNat_lt
  obtain ⟨p, hpd⟩ : ∃ p, p = x.toNat / 16 := ⟨_, rfl⟩
  have hNe : sgN l = p * 4 := by unfold sgN; rw [hgx, hpd]
  have q1 : (x.toNat : Int).tdiv 16 = (p : Int) := by rw [Int.tdiv_eq_ediv_of_nonneg (by omega)]; omega
  have q2 : (p : Int) % 256 = (p : Int) := by omega
  obtain ⟨k, hk⟩ : ∃ k, k = p * 4 := ⟨_, rfl⟩
  rw [hNe, ← hk] at h2 h3
  have q3 : (p : Int) * 4 = (k : Int) := by omega
  have q4 : IntKind.i64.wrap (k : Int) = (k : Int) := IntWalk.i64_in _ (by omega)
  have q5 : IntKind.i64.wrap (p : Int) = (p : Int) := IntWalk.i64_in _ (by omega)
  have c13 := hcell 13 (by omega)
  obtain ⟨f, hf⟩ : ∃ f, f = l[13]'(by omega) := ⟨_, rfl⟩
  have hgf : l.getD 13 0 = f := by rw [hf, List.getD_eq_getElem?_getD, List.getElem?_eq_getElem (by omega)]; rfl
  rw [← hf] at c13
  have n13 : (13 : Int) < (l.length : Int) := by omega
  obtain ⟨Y, hstY, HY⟩ := HX.put ⟨0, 0, f, 16, false, (k : Int)⟩
  have hbt := build_rsTcp f (k : Int)
  unfold sgV at hbt
  generalize hSS : (⟨0, 0, f, 16, false, (k : Int)⟩ : Sg) = SS at *
  have hSSz : SS.zero = false := by rw [← hSS]
  obtain ⟨⟨_, hRY, c0Y, c1Y⟩, ⟨hNY, _⟩, zY, _⟩ := HY.looks
  rw [hSSz] at zY
  have hGood : Hid (Calls Try.prog 37 #[.agg (hdC h).toArray, .slice (some ⟨b, o, none⟩) l.length c] Y fun e w' => e = .returned (.bool true) ∧ Below Y.heap.size Y w') := Lib.hid (by
    have := rsGood_any h hw ((hr.below HY.below).more HY.below.size) hl
    rw [hok, hdV] at this
    exact this)
  have HYn : Hid (∀ W, Below Y.heap.size Y W → RsAt h w W SS) := Lib.hid fun W hW => HY.next hW
  have hgets : ∀ W, Below w.heap.size w W → ∀ (a : Nat) (aa : Int), aa = (a : Int) → a + 2 ≤ 8 → Calls Try.prog 33 #[.slice (some ⟨b, o, none⟩) l.length c, .int .i64 aa, .int .i64 2] W fun e w' => e = .returned (.int .u64 ((num2 l a : Nat) : Int)) ∧ W = w' := fun W hW a aa ha h8 => rsGet_any (hr.below hW) ha (by omega)
  have hg0 := Lib.hid (fun W hW => hgets W hW 0 0 rfl (by omega))
  have hg2 := Lib.hid (fun W hW => hgets W hW 2 2 rfl (by omega))
  have hlt0 := num2_lt l 0
  have hlt2 := num2_lt l 2
  generalize num2 l 0 = q0 at *
  generalize num2 l 2 = q2 at *
  have hw0 : IntKind.u16.wrap (q0 : Int) = (q0 : Int) := IntWalk.u16_in _ (by omega)
  have hw2 : IntKind.u16.wrap (q2 : Int) = (q2 : Int) := IntWalk.u16_in _ (by omega)
  obtain ⟨S2, hS2⟩ : ∃ S2 : Sg, S2 = ⟨q0, q2, SS.flags, SS.sumAt, SS.zero, SS.data⟩ := ⟨_, rfl⟩
  have HE : Hid (∀ L, RsAt h w L SS → (L.heap[w.heap.size]? = L.heap[w.heap.size]? ∧ Below w.heap.size w L) ∧ ((∃ u, L.cell? ⟨w.heap.size + 1 + 1 + 1, 0, none⟩ = some (.int .u16 u)) ∧ (∃ u, L.cell? ⟨w.heap.size + 1 + 1 + 1, 1, none⟩ = some (.int .u16 u)) ∧ L.frozen? ⟨w.heap.size + 1 + 1 + 1, 0, none⟩ = false ∧ L.frozen? ⟨w.heap.size + 1 + 1 + 1, 1, none⟩ = false) ∧ ((L.setCell ⟨w.heap.size + 1 + 1 + 1, 0, none⟩ (.int .u16 (q0 : Int))).setCell ⟨w.heap.size + 1 + 1 + 1, 1, none⟩ (.int .u16 (q2 : Int))).heap[w.heap.size + 1 + 1]? = some (.cells (sgC Sg.none).toArray 35 (0, 0)) ∧ ((L.setCell ⟨w.heap.size + 1 + 1 + 1, 0, none⟩ (.int .u16 (q0 : Int))).setCell ⟨w.heap.size + 1 + 1 + 1, 1, none⟩ (.int .u16 (q2 : Int))).heap[w.heap.size + 1 + 1 + 1]? = some (.cells (sgC S2).toArray 35 (0, 0)) ∧ ∃ w9, (storeCells ⟨w.heap.size + 1, 0, none⟩ (sgC (Sg.none))).run Try.prog ((L.setCell ⟨w.heap.size + 1 + 1 + 1, 0, none⟩ (.int .u16 (q0 : Int))).setCell ⟨w.heap.size + 1 + 1 + 1, 1, none⟩ (.int .u16 (q2 : Int))) = .ok () w9 ∧ Hid (SgAt w9 (w.heap.size + 1) (Sg.none) ∧ Below w.heap.size w w9)) := Lib.hid fun L HL => by
    obtain ⟨_, _, _, d0, d1, e0, e1⟩ := HL.looks
    have H1 : RsAt h w (L.setCell ⟨w.heap.size + 1 + 1 + 1, 0, none⟩ (.int .u16 (q0 : Int))) ⟨q0, SS.dst, SS.flags, SS.sumAt, SS.zero, SS.data⟩ := HL.set rfl
    have H2 : RsAt h w ((L.setCell ⟨w.heap.size + 1 + 1 + 1, 0, none⟩ (.int .u16 (q0 : Int))).setCell ⟨w.heap.size + 1 + 1 + 1, 1, none⟩ (.int .u16 (q2 : Int))) S2 := by rw [hS2]; exact H1.set rfl
    obtain ⟨w9, h1, h2, h3⟩ := H2.tell (Sg.none)
    exact ⟨⟨rfl, HL.below⟩, ⟨d0, d1, e0, e1⟩, H2.zero, H2.cur, w9, h1, Lib.hid ⟨h2, h3⟩⟩
  clear hcell hgx hx hxl hpd hNe hk hc
  clear hf hgf
  generalize l.length = m at *
  clear HX HY hp hr hl hw hok hSS hSSz hS2 hgets hlt0 hlt2
  generalize hCS : sgC SS = CS at *
  have hCSl : CS.length = 6 := by rw [← hCS]; rfl
  have hC2i := info_sgA S2
  generalize hC2 : sgC S2 = C2 at *
  have HC2 := Lib.hid hC2
  have hC2l : C2.length = 6 := by rw [← hC2]; rfl
  clear hC2
  generalize hZ : sgC Sg.none = Z at *
  have HZ := Lib.hid hZ
  generalize hCH : hdC h = CH at *
  unfold hdV
  rw [hCH]
  clear hZ hCH
  by_cases h0 : q0 = 0
  · have p0 : ((q0 : Int) == 0) = true := by rw [h0]; rfl
    clear h0 hq
    go_enter Try.func20, Try.ntmps20
    go_wp2_with (first
      | (with_reducible refine wpList_alloc_zero (o := ⟨some 4, .alloc 35, _, _, _, _⟩) rfl 35 rfl Z.toArray hz ?_)
      | (with_reducible refine wpList_alloc_zero (o := ⟨some 6, .alloc 35, _, _, _, _⟩) rfl 35 rfl Z.toArray hz ?_)
      | (with_reducible refine wpList_alloc_zero (o := ⟨some 7, .alloc 35, _, _, _, _⟩) rfl 35 rfl Z.toArray hz ?_)
      | ((with_reducible refine wpList_run (o := ⟨some 51, .build 35 #[(2, .tmp 49), (3, .const (.int .i64 16)), (5, .tmp 50)], _, _, _, none⟩) rfl (.agg CS.toArray) X ?_ ?_); exact exec_bldS3 (k := 2) (k2 := 3) (k3 := 5) rfl (u := .int .u8 (f.toNat : Int)) (u2 := .int .i64 16) (u3 := .int .i64 (k : Int)) rfl rfl rfl (hbt _))
      | ((with_reducible refine wpList_load_mid_g (op := ⟨some 97, .load 33 (.tmp 2), _, _, _, _⟩) (by kernel_rfl) 33 (.tmp 2) rfl w.heap.size 0 ?_ CH _ hRY Try.underlying33 rfl hiR ?_); exact rfl)
      | (go_at_call 37; refine hGood.out.mono ?_; rintro _ w2 ⟨rfl, hb2⟩; obtain ⟨⟨_, hbL⟩, ⟨⟨u0, d0⟩, ⟨u1, d1⟩, e0, e1⟩, hN2, hS2c, w9, hst9, HT⟩ := HE.out _ (HYn.out _ hb2); have HBL := Lib.hid hbL; clear hb2 hbL)
      | (go_at_call 33; have hx1 := hg0; clear hx1; refine (hg0.out _ HBL.out).mono ?_; rintro _ wx ⟨rfl, rfl⟩; clear hg0)
      | (go_at_call 33; have hx1 := hg2; clear hx1; refine (hg2.out _ HBL.out).mono ?_; rintro _ wx ⟨rfl, rfl⟩; clear hg2)
      | ((with_reducible refine wpList_load_row (o := ⟨some 119, .load 35 (.tmp 6), _, _, _, _⟩) rfl 35 (.tmp 6) rfl (w.heap.size + 1 + 1) ?_ 35 Z.toArray (0, 0) _ hN2 Try.underlying35 rfl hZi ?_); exact rfl))
    exact bodyPost_ret (ret_sg (p := 4) (q := 5) (by kernel_rfl) rfl HT.out.1 rfl) rfl ⟨by rw [← HZ.out]; rfl, HT.out.2⟩
  · have h22 : q2 = 0 := hq.resolve_left h0
    have p0 := beq_zero h0
    have p2 : ((q2 : Int) == 0) = true := by rw [h22]; rfl
    clear h0 h22 hq
    go_enter Try.func20, Try.ntmps20
    go_wp2_with (first
      | (with_reducible refine wpList_alloc_zero (o := ⟨some 4, .alloc 35, _, _, _, _⟩) rfl 35 rfl Z.toArray hz ?_)
      | (with_reducible refine wpList_alloc_zero (o := ⟨some 6, .alloc 35, _, _, _, _⟩) rfl 35 rfl Z.toArray hz ?_)
      | (with_reducible refine wpList_alloc_zero (o := ⟨some 7, .alloc 35, _, _, _, _⟩) rfl 35 rfl Z.toArray hz ?_)
      | ((with_reducible refine wpList_run (o := ⟨some 51, .build 35 #[(2, .tmp 49), (3, .const (.int .i64 16)), (5, .tmp 50)], _, _, _, none⟩) rfl (.agg CS.toArray) X ?_ ?_); exact exec_bldS3 (k := 2) (k2 := 3) (k3 := 5) rfl (u := .int .u8 (f.toNat : Int)) (u2 := .int .i64 16) (u3 := .int .i64 (k : Int)) rfl rfl rfl (hbt _))
      | ((with_reducible refine wpList_load_mid_g (op := ⟨some 97, .load 33 (.tmp 2), _, _, _, _⟩) (by kernel_rfl) 33 (.tmp 2) rfl w.heap.size 0 ?_ CH _ hRY Try.underlying33 rfl hiR ?_); exact rfl)
      | (go_at_call 37; refine hGood.out.mono ?_; rintro _ w2 ⟨rfl, hb2⟩; obtain ⟨⟨_, hbL⟩, ⟨⟨u0, d0⟩, ⟨u1, d1⟩, e0, e1⟩, hN2, hS2c, w9, hst9, HT⟩ := HE.out _ (HYn.out _ hb2); have HBL := Lib.hid hbL; clear hb2 hbL)
      | (go_at_call 33; have hx1 := hg0; clear hx1; refine (hg0.out _ HBL.out).mono ?_; rintro _ wx ⟨rfl, rfl⟩; clear hg0)
      | (go_at_call 33; have hx1 := hg2; clear hx1; refine (hg2.out _ HBL.out).mono ?_; rintro _ wx ⟨rfl, rfl⟩; clear hg2)
      | ((with_reducible refine wpList_load_row (o := ⟨some 119, .load 35 (.tmp 6), _, _, _, _⟩) rfl 35 (.tmp 6) rfl (w.heap.size + 1 + 1) ?_ 35 Z.toArray (0, 0) _ hN2 Try.underlying35 rfl hZi ?_); exact rfl))
    exact bodyPost_ret (ret_sg (p := 4) (q := 5) (by kernel_rfl) rfl HT.out.1 rfl) rfl ⟨by rw [← HZ.out]; rfl, HT.out.2⟩
set_option maxRecDepth 100000 in
set_option maxHeartbeats 1000000 in
theorem rsRead_t0 {A : Option Addr} {c : Nat} {l : List UInt8} {w : World} (h : Hd) (hw : h.Wide) (hr : Rd w w.heap.size (.slice A l.length c) (cellsB l)) (hl : l.length ≤ 100000) (hp : h.proto = 6) (h1 : ¬ l.length < 20) (h2 : ¬ sgN l < 20) (h3 : ¬ l.length < sgN l) (hok : sgOk h l = true) (hq0 : num2 l 0 ≠ 0) (hq2 : num2 l 2 ≠ 0) :
    Calls Try.prog 20 #[hdV h, .slice A l.length c] w fun e w' => e = .returned (.tuple #[sgV (sgHd h l), .int .i64 0]) ∧ Below w.heap.size w w' := by
  obtain ⟨X1, X, hst1, hst2, HX⟩ := RsAt.start h w
  obtain ⟨⟨hH, hR, c0, c1⟩, ⟨hN, _⟩, _⟩ := HX.looks
  have hi := info_hdA hw
  have hiR := info_hd hw
  have hz : ∀ W, (zeroValue 35).run Try.prog W = .ok (.agg (sgC Sg.none).toArray) W := zero_sg
  have hbu : ∀ W, (Instr.build 35 #[]).run Try.prog W = .ok (.agg (sgC Sg.none).toArray) W := build_sg0
  have hZl : (sgC Sg.none).length = 6 := rfl
  have hZi := info_sgA Sg.none
  have HB := Lib.hid HX.below
  have c1' : X.cell? ⟨w.heap.size, 1, none⟩ = some (.int .u8 6) := by rw [c1, hp]; rfl
  clear c1
  obtain ⟨b, o, rfl, hb, hc⟩ := hr.addr (by omega)
  have hcell : ∀ j (hj : j < l.length), X.cell? ⟨b, o + j, none⟩ = some (.int .u8 ((l[j]).toNat : Int)) := fun j hj => (HX.below.cell (show b < w.heap.size from hb)).trans (hc j hj)
  have c12 := hcell 12 (by omega)
  obtain ⟨x, hx⟩ : ∃ x, x = l[12]'(by omega) := ⟨_, rfl⟩
  have hgx : (l.getD 12 0).toNat = x.toNat := by rw [hx, List.getD_eq_getElem?_getD, List.getElem?_eq_getElem (by omega)]; rfl
  rw [← hx] at c12
  have hxl := x.toNat_lt
  obtain ⟨p, hpd⟩ : ∃ p, p = x.toNat / 16 := ⟨_, rfl⟩
  have hNe : sgN l = p * 4 := by unfold sgN; rw [hgx, hpd]
  have q1 : (x.toNat : Int).tdiv 16 = (p : Int) := by rw [Int.tdiv_eq_ediv_of_nonneg (by omega)]; omega
  have q2 : (p : Int) % 256 = (p : Int) := by omega
  obtain ⟨k, hk⟩ : ∃ k, k = p * 4 := ⟨_, rfl⟩
  rw [hNe, ← hk] at h2 h3
  have q3 : (p : Int) * 4 = (k : Int) := by omega
  have q4 : IntKind.i64.wrap (k : Int) = (k : Int) := IntWalk.i64_in _ (by omega)
  have q5 : IntKind.i64.wrap (p : Int) = (p : Int) := IntWalk.i64_in _ (by omega)
  have c13 := hcell 13 (by omega)
  obtain ⟨f, hf⟩ : ∃ f, f = l[13]'(by omega) := ⟨_, rfl⟩
  have hgf : l.getD 13 0 = f := by rw [hf, List.getD_eq_getElem?_getD, List.getElem?_eq_getElem (by omega)]; rfl
  rw [← hf] at c13
  have n13 : (13 : Int) < (l.length : Int) := by omega
  obtain ⟨Y, hstY, HY⟩ := HX.put ⟨0, 0, f, 16, false, (k : Int)⟩
  have hbt := build_rsTcp f (k : Int)
  unfold sgV at hbt
  generalize hSS : (⟨0, 0, f, 16, false, (k : Int)⟩ : Sg) = SS at *
  have hSSz : SS.zero = false := by rw [← hSS]
  obtain ⟨⟨_, hRY, c0Y, c1Y⟩, ⟨hNY, _⟩, zY, _⟩ := HY.looks
  rw [hSSz] at zY
  have hGood : Hid (Calls Try.prog 37 #[.agg (hdC h).toArray, .slice (some ⟨b, o, none⟩) l.length c] Y fun e w' => e = .returned (.bool true) ∧ Below Y.heap.size Y w') := Lib.hid (by
    have := rsGood_any h hw ((hr.below HY.below).more HY.below.size) hl
    rw [hok, hdV] at this
    exact this)
  have HYn : Hid (∀ W, Below Y.heap.size Y W → RsAt h w W SS) := Lib.hid fun W hW => HY.next hW
  have hY2 : sgHd h l = ⟨num2 l 0, num2 l 2, SS.flags, SS.sumAt, SS.zero, SS.data⟩ := by unfold sgHd; rw [if_pos hp, ← hSS, hNe, hgf, ← hk]
  rw [hY2]
  have hgets : ∀ W, Below w.heap.size w W → ∀ (a : Nat) (aa : Int), aa = (a : Int) → a + 2 ≤ 8 → Calls Try.prog 33 #[.slice (some ⟨b, o, none⟩) l.length c, .int .i64 aa, .int .i64 2] W fun e w' => e = .returned (.int .u64 ((num2 l a : Nat) : Int)) ∧ W = w' := fun W hW a aa ha h8 => rsGet_any (hr.below hW) ha (by omega)
  have hg0 := Lib.hid (fun W hW => hgets W hW 0 0 rfl (by omega))
  have hg2 := Lib.hid (fun W hW => hgets W hW 2 2 rfl (by omega))
  have hlt0 := num2_lt l 0
  have hlt2 := num2_lt l 2
  generalize num2 l 0 = q0 at *
  generalize num2 l 2 = q2 at *
  have hw0 : IntKind.u16.wrap (q0 : Int) = (q0 : Int) := IntWalk.u16_in _ (by omega)
  have hw2 : IntKind.u16.wrap (q2 : Int) = (q2 : Int) := IntWalk.u16_in _ (by omega)
  obtain ⟨S2, hS2⟩ : ∃ S2 : Sg, S2 = ⟨q0, q2, SS.flags, SS.sumAt, SS.zero, SS.data⟩ := ⟨_, rfl⟩
  have HE : Hid (∀ L, RsAt h w L SS → (L.heap[w.heap.size]? = L.heap[w.heap.size]? ∧ Below w.heap.size w L) ∧ ((∃ u, L.cell? ⟨w.heap.size + 1 + 1 + 1, 0, none⟩ = some (.int .u16 u)) ∧ (∃ u, L.cell? ⟨w.heap.size + 1 + 1 + 1, 1, none⟩ = some (.int .u16 u)) ∧ L.frozen? ⟨w.heap.size + 1 + 1 + 1, 0, none⟩ = false ∧ L.frozen? ⟨w.heap.size + 1 + 1 + 1, 1, none⟩ = false) ∧ ((L.setCell ⟨w.heap.size + 1 + 1 + 1, 0, none⟩ (.int .u16 (q0 : Int))).setCell ⟨w.heap.size + 1 + 1 + 1, 1, none⟩ (.int .u16 (q2 : Int))).heap[w.heap.size + 1 + 1]? = some (.cells (sgC Sg.none).toArray 35 (0, 0)) ∧ ((L.setCell ⟨w.heap.size + 1 + 1 + 1, 0, none⟩ (.int .u16 (q0 : Int))).setCell ⟨w.heap.size + 1 + 1 + 1, 1, none⟩ (.int .u16 (q2 : Int))).heap[w.heap.size + 1 + 1 + 1]? = some (.cells (sgC S2).toArray 35 (0, 0)) ∧ ∃ w9, (storeCells ⟨w.heap.size + 1, 0, none⟩ (sgC (S2))).run Try.prog ((L.setCell ⟨w.heap.size + 1 + 1 + 1, 0, none⟩ (.int .u16 (q0 : Int))).setCell ⟨w.heap.size + 1 + 1 + 1, 1, none⟩ (.int .u16 (q2 : Int))) = .ok () w9 ∧ Hid (SgAt w9 (w.heap.size + 1) (S2) ∧ Below w.heap.size w w9)) := Lib.hid fun L HL => by
    obtain ⟨_, _, _, d0, d1, e0, e1⟩ := HL.looks
    have H1 : RsAt h w (L.setCell ⟨w.heap.size + 1 + 1 + 1, 0, none⟩ (.int .u16 (q0 : Int))) ⟨q0, SS.dst, SS.flags, SS.sumAt, SS.zero, SS.data⟩ := HL.set rfl
    have H2 : RsAt h w ((L.setCell ⟨w.heap.size + 1 + 1 + 1, 0, none⟩ (.int .u16 (q0 : Int))).setCell ⟨w.heap.size + 1 + 1 + 1, 1, none⟩ (.int .u16 (q2 : Int))) S2 := by rw [hS2]; exact H1.set rfl
    obtain ⟨w9, h1, h2, h3⟩ := H2.tell (S2)
    exact ⟨⟨rfl, HL.below⟩, ⟨d0, d1, e0, e1⟩, H2.zero, H2.cur, w9, h1, Lib.hid ⟨h2, h3⟩⟩
  rw [← hS2]
  clear hcell hgx hx hxl hpd hNe hk hc
  clear hf hgf
  generalize l.length = m at *
  clear HX HY hp hr hl hw hok hSS hSSz hS2 hgets hlt0 hlt2 hY2
  have p0 := beq_zero hq0
  have p2 := beq_zero hq2
  clear hq0 hq2
  generalize hCS : sgC SS = CS at *
  have hCSl : CS.length = 6 := by rw [← hCS]; rfl
  have hC2i := info_sgA S2
  generalize hC2 : sgC S2 = C2 at *
  have HC2 := Lib.hid hC2
  have hC2l : C2.length = 6 := by rw [← hC2]; rfl
  clear hC2
  generalize hZ : sgC Sg.none = Z at *
  have HZ := Lib.hid hZ
  generalize hCH : hdC h = CH at *
  unfold hdV
  rw [hCH]
  clear hZ hCH
  go_enter Try.func20, Try.ntmps20
  go_wp2_with (first
    | (with_reducible refine wpList_alloc_zero (o := ⟨some 4, .alloc 35, _, _, _, _⟩) rfl 35 rfl Z.toArray hz ?_)
    | (with_reducible refine wpList_alloc_zero (o := ⟨some 6, .alloc 35, _, _, _, _⟩) rfl 35 rfl Z.toArray hz ?_)
    | (with_reducible refine wpList_alloc_zero (o := ⟨some 7, .alloc 35, _, _, _, _⟩) rfl 35 rfl Z.toArray hz ?_)
    | ((with_reducible refine wpList_run (o := ⟨some 51, .build 35 #[(2, .tmp 49), (3, .const (.int .i64 16)), (5, .tmp 50)], _, _, _, none⟩) rfl (.agg CS.toArray) X ?_ ?_); exact exec_bldS3 (k := 2) (k2 := 3) (k3 := 5) rfl (u := .int .u8 (f.toNat : Int)) (u2 := .int .i64 16) (u3 := .int .i64 (k : Int)) rfl rfl rfl (hbt _))
    | ((with_reducible refine wpList_load_mid_g (op := ⟨some 97, .load 33 (.tmp 2), _, _, _, _⟩) (by kernel_rfl) 33 (.tmp 2) rfl w.heap.size 0 ?_ CH _ hRY Try.underlying33 rfl hiR ?_); exact rfl)
    | (go_at_call 37; refine hGood.out.mono ?_; rintro _ w2 ⟨rfl, hb2⟩; obtain ⟨⟨_, hbL⟩, ⟨⟨u0, d0⟩, ⟨u1, d1⟩, e0, e1⟩, hN2, hS2c, w9, hst9, HT⟩ := HE.out _ (HYn.out _ hb2); have HBL := Lib.hid hbL; clear hb2 hbL)
    | (go_at_call 33; have hx1 := hg0; clear hx1; refine (hg0.out _ HBL.out).mono ?_; rintro _ wx ⟨rfl, rfl⟩; clear hg0)
    | (go_at_call 33; have hx1 := hg2; clear hx1; refine (hg2.out _ HBL.out).mono ?_; rintro _ wx ⟨rfl, rfl⟩; clear hg2)
    | ((with_reducible refine wpList_load_row (o := ⟨some 120, .load 35 (.tmp 7), _, _, _, _⟩) rfl 35 (.tmp 7) rfl (w.heap.size + 1 + 1 + 1) ?_ 35 C2.toArray (0, 0) _ hS2c Try.underlying35 rfl hC2i ?_); exact rfl))
  exact bodyPost_ret (ret_sg (p := 4) (q := 5) (by kernel_rfl) rfl HT.out.1 rfl) rfl ⟨by rw [← HC2.out]; rfl, HT.out.2⟩
end Go.Proofs.Ytejppekcniehpaa
