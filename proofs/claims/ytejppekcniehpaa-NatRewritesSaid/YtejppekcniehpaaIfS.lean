/-
  The document's reader of heads of IPv4: Read, by contract.
-/
import Derived.Test.YtejppekcniehpaaIfR
import Derived.Test.YtejppekcniehpaaIfD
import Derived.Test.YtejppekcniehpaaRefNum
import Derived.Test.YtejppekcniehpaaInetC
namespace Go.Proofs.Ytejppekcniehpaa
open Go.RowKit
/-- The two blocks that the reader begins with. -/
theorem rif_start (w : World) : ∃ w5 w6 w7, (Instr.storeAt 33 (.pointer (some ⟨w.heap.size + 1, 0, none⟩)) (.agg (hdC Hd.zero).toArray)).run Try.prog ((w.alloc (.cells (hdC Hd.zero).toArray 33)).alloc (.cells (hdC Hd.zero).toArray 33)) = .ok () w5 ∧
    (Instr.storeAt 33 (.pointer (some ⟨w.heap.size, 0, none⟩)) (.agg (hdC Hd.zero).toArray)).run Try.prog w5 = .ok () w6 ∧ (storeCells ⟨w.heap.size + 1, 0, none⟩ (hdC Hd.zero)).run Try.prog ((w.alloc (.cells (hdC Hd.zero).toArray 33)).alloc (.cells (hdC Hd.zero).toArray 33)) = .ok () w5 ∧ HdAt w5 (w.heap.size + 1) Hd.zero ∧ HdAt w5 w.heap.size Hd.zero ∧ Below w.heap.size w w5 ∧ w5.heap.size = w.heap.size + 1 + 1 ∧ (HdAt w6 w.heap.size Hd.zero ∧ Below w.heap.size w w6) ∧
    (Instr.storeAt 33 (.pointer (some ⟨w.heap.size, 0, none⟩)) (.agg (hdC Hd.zero).toArray)).run Try.prog w5.drew = .ok () w7 ∧ HdAt w7 w.heap.size Hd.zero ∧ Below w.heap.size w w7 := by
  have h0 := heap_alloc_last w (.cells (hdC Hd.zero).toArray 33)
  have h1 := heap_alloc_last (w.alloc (.cells (hdC Hd.zero).toArray 33)) (.cells (hdC Hd.zero).toArray 33)
  have h01 := (heap_alloc_old (w.alloc (.cells (hdC Hd.zero).toArray 33)) (.cells (hdC Hd.zero).toArray 33) (show w.heap.size < _ by simp)).trans h0
  rw [show (w.alloc (.cells (hdC Hd.zero).toArray 33)).heap.size = w.heap.size + 1 by simp] at h1
  obtain ⟨w5, hst5, hat5, hgr5, hs5, hsc5⟩ := store_hd (b := Hd.zero) h1 Hd.zero_wide Hd.zero_wide
  have h5 : HdAt w5 w.heap.size Hd.zero := (hgr5.block _ (by simp; omega) (fun e => by simp at e)).trans h01
  have hb5 : Below w.heap.size w w5 := grown_below (up_alloc (up_alloc (Below.refl _ _) _) _) hgr5 (Nat.le_succ _)
  obtain ⟨w6, hst6, hat6, hgr6, _⟩ := store_hd (b := Hd.zero) h5 Hd.zero_wide Hd.zero_wide
  obtain ⟨w7, hst7, hat7, hgr7, _⟩ := store_hd (w := w5.drew) (b := Hd.zero) h5 Hd.zero_wide Hd.zero_wide
  exact ⟨w5, w6, w7, hst5, hst6, hsc5, hat5, h5, hb5, by rw [hs5]; simp, ⟨hat6, grown_below hb5 hgr6 (Nat.le_refl _)⟩, hst7, hat7, grown_below (up_drew hb5) hgr7 (Nat.le_refl _)⟩
theorem getD_cell {l : List UInt8} {k : Nat} (h : k < l.length) : l[k] = l.getD k 0 := by rw [List.getD_eq_getElem?_getD, List.getElem?_eq_getElem h]; rfl
set_option maxRecDepth 100000 in
set_option maxHeartbeats 1000000 in
theorem rifRead_w1 {A : Option Addr} {c : Nat} {l : List UInt8} {w : World} (hr : Rd w w.heap.size (.slice A l.length c) (cellsB l)) (h1 : 2048 < l.length) :
    Calls Try.prog 18 #[.slice A l.length c] w fun e w' => e = .returned (.tuple #[hdV Hd.zero, .int .i64 10]) ∧ Below w.heap.size w w' := by
  obtain ⟨_, _, e, hlc, _, _⟩ := hr.bytes
  injection e with e1 e2 e3
  subst e3
  clear e1 e2
  have hz : ∀ w, (zeroValue 33).run Try.prog w = .ok (.agg (hdC Hd.zero).toArray) w := zero_hd
  have hbu : ∀ W, (Instr.build 33 #[]).run Try.prog W = .ok (.agg (hdC Hd.zero).toArray) W := build_hd0
  obtain ⟨w5, w6, w7, hst5, hst6, hsc5, hat5, hatg, hb5, hs5, HT6, hst7, HT7⟩ := rif_start w
  have hxi := info_hdA Hd.zero_wide
  have hln := hdC_length Hd.zero_wide
  have HT := Lib.hid HT6
  have hr5 := (hr.below hb5).more (B' := w5.heap.size) (by omega)
  obtain ⟨m, hm⟩ : ∃ m, m = l.length := ⟨_, rfl⟩
  rw [← hm] at h1 ⊢
  clear hm
  unfold HdAt at hat5
  clear hr hr5 hatg hb5 HT6 HT7 hlc hst7
  rw [hdV]
  obtain ⟨Z, hZ⟩ : ∃ Z, Z = hdC Hd.zero := ⟨_, rfl⟩
  rw [← hZ] at hz hbu hst5 hst6 hsc5 hat5 hxi hln ⊢
  have HZ := Lib.hid hZ
  clear hZ
  go_enter Try.func18, Try.ntmps18
  go_wp2_with (first
    | (with_reducible refine wpList_alloc_zero (o := ⟨some 2, .alloc 33, _, _, _, _⟩) rfl 33 rfl Z.toArray hz ?_)
    | (with_reducible refine wpList_alloc_zero (o := ⟨some 4, .alloc 33, _, _, _, _⟩) rfl 33 rfl Z.toArray hz ?_)
    | ((with_reducible refine wpList_stored (o := ⟨none, .store 33 (.tmp 4) (.tmp 7), _, _, _, none⟩) rfl 33 (.tmp 4) (.tmp 7) rfl (.pointer (some ⟨w.heap.size + 1, 0, none⟩)) (.agg Z.toArray) ?_ ?_ w5 hst5 ?_); exact rfl; exact rfl)
    | ((with_reducible refine wpList_load_row (o := ⟨some 11, .load 33 (.tmp 4), _, _, _, _⟩) rfl 33 (.tmp 4) rfl (w.heap.size + 1) ?_ 33 Z.toArray (0, 0) _ hat5 Try.underlying33 rfl hxi ?_); exact rfl)
    | ((with_reducible refine wpList_stored (o := ⟨none, .store 33 (.tmp 2) (.tmp 11), _, _, _, none⟩) rfl 33 (.tmp 2) (.tmp 11) rfl (.pointer (some ⟨w.heap.size, 0, none⟩)) (.agg Z.toArray) ?_ ?_ w6 hst6 ?_); exact rfl; exact rfl))
  exact bodyPost_ret (ret_hd (p := 2) (q := 3) (by kernel_rfl) rfl HT.out.1 Hd.zero_wide rfl) rfl ⟨by rw [hdV, ← HZ.out]; rfl, HT.out.2⟩
set_option maxRecDepth 100000 in
set_option maxHeartbeats 1000000 in
theorem rifRead_w2 {A : Option Addr} {c : Nat} {l : List UInt8} {w : World} (hr : Rd w w.heap.size (.slice A l.length c) (cellsB l)) (h1 : ¬ 2048 < l.length) (h2 : l.length < 20) :
    Calls Try.prog 18 #[.slice A l.length c] w fun e w' => e = .returned (.tuple #[hdV Hd.zero, .int .i64 9]) ∧ Below w.heap.size w w' := by
  obtain ⟨_, _, e, hlc, _, _⟩ := hr.bytes
  injection e with e1 e2 e3
  subst e3
  clear e1 e2
  have hz : ∀ w, (zeroValue 33).run Try.prog w = .ok (.agg (hdC Hd.zero).toArray) w := zero_hd
  have hbu : ∀ W, (Instr.build 33 #[]).run Try.prog W = .ok (.agg (hdC Hd.zero).toArray) W := build_hd0
  obtain ⟨w5, w6, w7, hst5, hst6, hsc5, hat5, hatg, hb5, hs5, HT6, hst7, HT7⟩ := rif_start w
  have hxi := info_hdA Hd.zero_wide
  have hln := hdC_length Hd.zero_wide
  have HT := Lib.hid HT6
  have hr5 := (hr.below hb5).more (B' := w5.heap.size) (by omega)
  obtain ⟨m, hm⟩ : ∃ m, m = l.length := ⟨_, rfl⟩
  rw [← hm] at h1 h2 ⊢
  clear hm
  unfold HdAt at hat5
  clear hr hr5 hatg hb5 HT6 HT7 hlc hst7
  rw [hdV]
  obtain ⟨Z, hZ⟩ : ∃ Z, Z = hdC Hd.zero := ⟨_, rfl⟩
  rw [← hZ] at hz hbu hst5 hst6 hsc5 hat5 hxi hln ⊢
  have HZ := Lib.hid hZ
  clear hZ
  go_enter Try.func18, Try.ntmps18
  go_wp2_with (first
    | (with_reducible refine wpList_alloc_zero (o := ⟨some 2, .alloc 33, _, _, _, _⟩) rfl 33 rfl Z.toArray hz ?_)
    | (with_reducible refine wpList_alloc_zero (o := ⟨some 4, .alloc 33, _, _, _, _⟩) rfl 33 rfl Z.toArray hz ?_)
    | ((with_reducible refine wpList_stored (o := ⟨none, .store 33 (.tmp 4) (.tmp 7), _, _, _, none⟩) rfl 33 (.tmp 4) (.tmp 7) rfl (.pointer (some ⟨w.heap.size + 1, 0, none⟩)) (.agg Z.toArray) ?_ ?_ w5 hst5 ?_); exact rfl; exact rfl)
    | ((with_reducible refine wpList_load_row (o := ⟨some 15, .load 33 (.tmp 4), _, _, _, _⟩) rfl 33 (.tmp 4) rfl (w.heap.size + 1) ?_ 33 Z.toArray (0, 0) _ hat5 Try.underlying33 rfl hxi ?_); exact rfl)
    | ((with_reducible refine wpList_stored (o := ⟨none, .store 33 (.tmp 2) (.tmp 15), _, _, _, none⟩) rfl 33 (.tmp 2) (.tmp 15) rfl (.pointer (some ⟨w.heap.size, 0, none⟩)) (.agg Z.toArray) ?_ ?_ w6 hst6 ?_); exact rfl; exact rfl))
  exact bodyPost_ret (ret_hd (p := 2) (q := 3) (by kernel_rfl) rfl HT.out.1 Hd.zero_wide rfl) rfl ⟨by rw [hdV, ← HZ.out]; rfl, HT.out.2⟩
set_option maxRecDepth 100000 in
set_option maxHeartbeats 1000000 in
theorem rifRead_w3 {A : Option Addr} {c : Nat} {l : List UInt8} {w : World} (hr : Rd w w.heap.size (.slice A l.length c) (cellsB l)) (h1 : ¬ 2048 < l.length) (h2 : ¬ l.length < 20) (h3 : (l.getD 0 0).toNat / 16 ≠ 4) :
    Calls Try.prog 18 #[.slice A l.length c] w fun e w' => e = .returned (.tuple #[hdV Hd.zero, .int .i64 12]) ∧ Below w.heap.size w w' := by
  obtain ⟨_, _, e, hlc, _, _⟩ := hr.bytes
  injection e with e1 e2 e3
  subst e3
  clear e1 e2
  have hz : ∀ w, (zeroValue 33).run Try.prog w = .ok (.agg (hdC Hd.zero).toArray) w := zero_hd
  have hbu : ∀ W, (Instr.build 33 #[]).run Try.prog W = .ok (.agg (hdC Hd.zero).toArray) W := build_hd0
  obtain ⟨w5, w6, w7, hst5, hst6, hsc5, hat5, hatg, hb5, hs5, HT6, hst7, HT7⟩ := rif_start w
  have hxi := info_hdA Hd.zero_wide
  have hln := hdC_length Hd.zero_wide
  have HT := Lib.hid HT6
  have hr5 := (hr.below hb5).more (B' := w5.heap.size) (by omega)
  have b1 : 20 ≤ l.length := by omega
  obtain ⟨b, o, rfl, hbl, hc⟩ := hr5.addr (by omega)
  have c0 := hc 0 (by omega)
  rw [getD_cell (by omega), Nat.add_zero] at c0
  obtain ⟨x, hx⟩ : ∃ x, x = l.getD 0 0 := ⟨_, rfl⟩
  rw [← hx] at c0 h3
  have hxl := x.toNat_lt
  obtain ⟨p, hp⟩ : ∃ p, p = x.toNat / 16 := ⟨_, rfl⟩
  have hpd : (x.toNat : Int).tdiv 16 = (p : Int) := by rw [Int.tdiv_eq_ediv_of_nonneg (by omega)]; omega
  rw [← hp] at h3
  have k3 : ((p : Int) % 256 != 4) = true := by simp; omega
  obtain ⟨m, hm⟩ : ∃ m, m = l.length := ⟨_, rfl⟩
  rw [← hm] at h1 h2 b1 ⊢
  clear hm hx hp hc h3 hbl
  unfold HdAt at hat5
  clear hr hr5 hatg hb5 HT6 HT7 hlc hst7
  rw [hdV]
  obtain ⟨Z, hZ⟩ : ∃ Z, Z = hdC Hd.zero := ⟨_, rfl⟩
  rw [← hZ] at hz hbu hst5 hst6 hsc5 hat5 hxi hln ⊢
  have HZ := Lib.hid hZ
  clear hZ
  go_enter Try.func18, Try.ntmps18
  go_wp2_with (first
    | (with_reducible refine wpList_alloc_zero (o := ⟨some 2, .alloc 33, _, _, _, _⟩) rfl 33 rfl Z.toArray hz ?_)
    | (with_reducible refine wpList_alloc_zero (o := ⟨some 4, .alloc 33, _, _, _, _⟩) rfl 33 rfl Z.toArray hz ?_)
    | ((with_reducible refine wpList_stored (o := ⟨none, .store 33 (.tmp 4) (.tmp 7), _, _, _, none⟩) rfl 33 (.tmp 4) (.tmp 7) rfl (.pointer (some ⟨w.heap.size + 1, 0, none⟩)) (.agg Z.toArray) ?_ ?_ w5 hst5 ?_); exact rfl; exact rfl)
    | ((with_reducible refine wpList_load_row (o := ⟨some 21, .load 33 (.tmp 4), _, _, _, _⟩) rfl 33 (.tmp 4) rfl (w.heap.size + 1) ?_ 33 Z.toArray (0, 0) _ hat5 Try.underlying33 rfl hxi ?_); exact rfl)
    | ((with_reducible refine wpList_stored (o := ⟨none, .store 33 (.tmp 2) (.tmp 21), _, _, _, none⟩) rfl 33 (.tmp 2) (.tmp 21) rfl (.pointer (some ⟨w.heap.size, 0, none⟩)) (.agg Z.toArray) ?_ ?_ w6 hst6 ?_); exact rfl; exact rfl))
  exact bodyPost_ret (ret_hd (p := 2) (q := 3) (by kernel_rfl) rfl HT.out.1 Hd.zero_wide rfl) rfl ⟨by rw [hdV, ← HZ.out]; rfl, HT.out.2⟩
set_option maxRecDepth 100000 in
set_option maxHeartbeats 1000000 in
theorem rifRead_w4 {A : Option Addr} {c : Nat} {l : List UInt8} {w : World} (hr : Rd w w.heap.size (.slice A l.length c) (cellsB l)) (h1 : ¬ 2048 < l.length) (h2 : ¬ l.length < 20) (h3 : (l.getD 0 0).toNat / 16 = 4) (h4 : ifN l < 20) :
    Calls Try.prog 18 #[.slice A l.length c] w fun e w' => e = .returned (.tuple #[hdV Hd.zero, .int .i64 4]) ∧ Below w.heap.size w w' := by
  obtain ⟨_, _, e, hlc, _, _⟩ := hr.bytes
  injection e with e1 e2 e3
  subst e3
  clear e1 e2
  have hz : ∀ w, (zeroValue 33).run Try.prog w = .ok (.agg (hdC Hd.zero).toArray) w := zero_hd
  have hbu : ∀ W, (Instr.build 33 #[]).run Try.prog W = .ok (.agg (hdC Hd.zero).toArray) W := build_hd0
  obtain ⟨w5, w6, w7, hst5, hst6, hsc5, hat5, hatg, hb5, hs5, HT6, hst7, HT7⟩ := rif_start w
  have hxi := info_hdA Hd.zero_wide
  have hln := hdC_length Hd.zero_wide
  have HT := Lib.hid HT7
  have hr5 := (hr.below hb5).more (B' := w5.heap.size) (by omega)
  have b1 : 20 ≤ l.length := by omega
  obtain ⟨b, o, rfl, hbl, hc⟩ := hr5.addr (by omega)
  have c0 := hc 0 (by omega)
  rw [getD_cell (by omega), Nat.add_zero] at c0
  obtain ⟨x, hx⟩ : ∃ x, x = l.getD 0 0 := ⟨_, rfl⟩
  rw [← hx] at c0 h3
  have hxl := x.toNat_lt
  obtain ⟨p, hp⟩ : ∃ p, p = x.toNat / 16 := ⟨_, rfl⟩
  have hpd : (x.toNat : Int).tdiv 16 = (p : Int) := by rw [Int.tdiv_eq_ediv_of_nonneg (by omega)]; omega
  rw [← hp] at h3
  have k3 : ((p : Int) % 256 != 4) = false := by simp; omega
  obtain ⟨r, hr16⟩ : ∃ r, r = x.toNat % 16 := ⟨_, rfl⟩
  have hrm : (x.toNat : Int).tmod 16 = (r : Int) := by rw [Int.tmod_eq_emod_of_nonneg (by omega)]; omega
  have hrw : IntKind.i64.wrap (r : Int) = (r : Int) := IntWalk.i64_in _ (by omega)
  obtain ⟨n, hn⟩ : ∃ n, n = ifN l := ⟨_, rfl⟩
  have hn4 : n = 4 * r := by rw [hn, hr16]; unfold ifN; rw [← hx]; omega
  have hnw : IntKind.i64.wrap (4 * (r : Int)) = (n : Int) := by rw [IntWalk.i64_in _ (by omega)]; omega
  have hg := refGet_any _ _ l 2 2 w5.drew w5.heap.size hr5.drew (by omega) (by omega) (by omega)
  rw [ofBe_two l 2 (by omega)] at hg
  have hql := num2_lt l 2
  obtain ⟨q, hq⟩ : ∃ q, q = num2 l 2 := ⟨_, rfl⟩
  rw [← hq] at hg hql
  have hqw : IntKind.i64.wrap (q : Int) = (q : Int) := IntWalk.i64_in _ (by omega)
  have HG := Lib.hid hg
  have n0 : 0 < l.length := by omega
  rw [← hn] at h4
  have k4 : (n : Int) < 20 := by omega
  obtain ⟨m, hm⟩ : ∃ m, m = l.length := ⟨_, rfl⟩
  rw [← hm] at h1 h2 b1 n0 HG  ⊢
  clear hm hx hp hc hbl hr16 hql hg h3 hq hn hn4 hxl
  unfold HdAt at hat5
  have hat5d : w5.drew.heap[w.heap.size + 1]? = some (.cells (hdC Hd.zero).toArray 33 (0, 0)) := hat5
  clear hat5
  clear hr hr5 hatg hb5 HT6 HT7 hlc hst6
  rw [hdV]
  obtain ⟨Z, hZ⟩ : ∃ Z, Z = hdC Hd.zero := ⟨_, rfl⟩
  rw [← hZ] at hz hbu hst5 hst7 hsc5 hat5d hxi hln ⊢
  have HZ := Lib.hid hZ
  clear hZ
  go_enter Try.func18, Try.ntmps18
  go_wp2_with (first
    | (with_reducible refine wpList_alloc_zero (o := ⟨some 2, .alloc 33, _, _, _, _⟩) rfl 33 rfl Z.toArray hz ?_)
    | (with_reducible refine wpList_alloc_zero (o := ⟨some 4, .alloc 33, _, _, _, _⟩) rfl 33 rfl Z.toArray hz ?_)
    | ((with_reducible refine wpList_stored (o := ⟨none, .store 33 (.tmp 4) (.tmp 7), _, _, _, none⟩) rfl 33 (.tmp 4) (.tmp 7) rfl (.pointer (some ⟨w.heap.size + 1, 0, none⟩)) (.agg Z.toArray) ?_ ?_ w5 hst5 ?_); exact rfl; exact rfl))
  go_region_held3 (fun w' => w'.cell? ⟨b, o, none⟩ = some (.int .u8 (x.toNat : Int)))
    (first | exact c0)
    (first | (go_at_call 33; refine HG.out.mono ?_; rintro _ _ ⟨rfl, rfl⟩))
  go_wp2_with (first
    | ((with_reducible refine wpList_load_row (o := ⟨some 33, .load 33 (.tmp 4), _, _, _, _⟩) rfl 33 (.tmp 4) rfl (w.heap.size + 1) ?_ 33 Z.toArray (0, 0) _ hat5d Try.underlying33 rfl hxi ?_); exact rfl)
    | ((with_reducible refine wpList_stored (o := ⟨none, .store 33 (.tmp 2) (.tmp 33), _, _, _, none⟩) rfl 33 (.tmp 2) (.tmp 33) rfl (.pointer (some ⟨w.heap.size, 0, none⟩)) (.agg Z.toArray) ?_ ?_ w7 hst7 ?_); exact rfl; exact rfl))
  exact bodyPost_ret (ret_hd (p := 2) (q := 3) (by kernel_rfl) rfl HT.out.1 Hd.zero_wide rfl) rfl ⟨by rw [hdV, ← HZ.out]; rfl, HT.out.2⟩
set_option maxRecDepth 100000 in
set_option maxHeartbeats 1000000 in
theorem rifRead_w5 {A : Option Addr} {c : Nat} {l : List UInt8} {w : World} (hr : Rd w w.heap.size (.slice A l.length c) (cellsB l)) (h1 : ¬ 2048 < l.length) (h2 : ¬ l.length < 20) (h3 : (l.getD 0 0).toNat / 16 = 4) (h4 : ¬ ifN l < 20) (h5 : l.length < ifN l) :
    Calls Try.prog 18 #[.slice A l.length c] w fun e w' => e = .returned (.tuple #[hdV Hd.zero, .int .i64 9]) ∧ Below w.heap.size w w' := by
  obtain ⟨_, _, e, hlc, _, _⟩ := hr.bytes
  injection e with e1 e2 e3
  subst e3
  clear e1 e2
  have hz : ∀ w, (zeroValue 33).run Try.prog w = .ok (.agg (hdC Hd.zero).toArray) w := zero_hd
  have hbu : ∀ W, (Instr.build 33 #[]).run Try.prog W = .ok (.agg (hdC Hd.zero).toArray) W := build_hd0
  obtain ⟨w5, w6, w7, hst5, hst6, hsc5, hat5, hatg, hb5, hs5, HT6, hst7, HT7⟩ := rif_start w
  have hxi := info_hdA Hd.zero_wide
  have hln := hdC_length Hd.zero_wide
  have HT := Lib.hid HT7
  have hr5 := (hr.below hb5).more (B' := w5.heap.size) (by omega)
  have b1 : 20 ≤ l.length := by omega
  obtain ⟨b, o, rfl, hbl, hc⟩ := hr5.addr (by omega)
  have c0 := hc 0 (by omega)
  rw [getD_cell (by omega), Nat.add_zero] at c0
  obtain ⟨x, hx⟩ : ∃ x, x = l.getD 0 0 := ⟨_, rfl⟩
  rw [← hx] at c0 h3
  have hxl := x.toNat_lt
  obtain ⟨p, hp⟩ : ∃ p, p = x.toNat / 16 := ⟨_, rfl⟩
  have hpd : (x.toNat : Int).tdiv 16 = (p : Int) := by rw [Int.tdiv_eq_ediv_of_nonneg (by omega)]; omega
  rw [← hp] at h3
  have k3 : ((p : Int) % 256 != 4) = false := by simp; omega
  obtain ⟨r, hr16⟩ : ∃ r, r = x.toNat % 16 := ⟨_, rfl⟩
  have hrm : (x.toNat : Int).tmod 16 = (r : Int) := by rw [Int.tmod_eq_emod_of_nonneg (by omega)]; omega
  have hrw : IntKind.i64.wrap (r : Int) = (r : Int) := IntWalk.i64_in _ (by omega)
  obtain ⟨n, hn⟩ : ∃ n, n = ifN l := ⟨_, rfl⟩
  have hn4 : n = 4 * r := by rw [hn, hr16]; unfold ifN; rw [← hx]; omega
  have hnw : IntKind.i64.wrap (4 * (r : Int)) = (n : Int) := by rw [IntWalk.i64_in _ (by omega)]; omega
  have hg := refGet_any _ _ l 2 2 w5.drew w5.heap.size hr5.drew (by omega) (by omega) (by omega)
  rw [ofBe_two l 2 (by omega)] at hg
  have hql := num2_lt l 2
  obtain ⟨q, hq⟩ : ∃ q, q = num2 l 2 := ⟨_, rfl⟩
  rw [← hq] at hg hql
  have hqw : IntKind.i64.wrap (q : Int) = (q : Int) := IntWalk.i64_in _ (by omega)
  have HG := Lib.hid hg
  have n0 : 0 < l.length := by omega
  rw [← hn] at h4
  have k4 : (20 : Int) ≤ (n : Int) := by omega
  rw [← hn] at h5
  obtain ⟨m, hm⟩ : ∃ m, m = l.length := ⟨_, rfl⟩
  rw [← hm] at h1 h2 b1 n0 HG h5 ⊢
  clear hm hx hp hc hbl hr16 hql hg h3 hq hn hn4 hxl
  unfold HdAt at hat5
  have hat5d : w5.drew.heap[w.heap.size + 1]? = some (.cells (hdC Hd.zero).toArray 33 (0, 0)) := hat5
  clear hat5
  clear hr hr5 hatg hb5 HT6 HT7 hlc hst6
  rw [hdV]
  obtain ⟨Z, hZ⟩ : ∃ Z, Z = hdC Hd.zero := ⟨_, rfl⟩
  rw [← hZ] at hz hbu hst5 hst7 hsc5 hat5d hxi hln ⊢
  have HZ := Lib.hid hZ
  clear hZ
  go_enter Try.func18, Try.ntmps18
  go_wp2_with (first
    | (with_reducible refine wpList_alloc_zero (o := ⟨some 2, .alloc 33, _, _, _, _⟩) rfl 33 rfl Z.toArray hz ?_)
    | (with_reducible refine wpList_alloc_zero (o := ⟨some 4, .alloc 33, _, _, _, _⟩) rfl 33 rfl Z.toArray hz ?_)
    | ((with_reducible refine wpList_stored (o := ⟨none, .store 33 (.tmp 4) (.tmp 7), _, _, _, none⟩) rfl 33 (.tmp 4) (.tmp 7) rfl (.pointer (some ⟨w.heap.size + 1, 0, none⟩)) (.agg Z.toArray) ?_ ?_ w5 hst5 ?_); exact rfl; exact rfl))
  go_region_held3 (fun w' => w'.cell? ⟨b, o, none⟩ = some (.int .u8 (x.toNat : Int)))
    (first | exact c0)
    (first | (go_at_call 33; refine HG.out.mono ?_; rintro _ _ ⟨rfl, rfl⟩))
  go_wp2_with (first
    | ((with_reducible refine wpList_load_row (o := ⟨some 38, .load 33 (.tmp 4), _, _, _, _⟩) rfl 33 (.tmp 4) rfl (w.heap.size + 1) ?_ 33 Z.toArray (0, 0) _ hat5d Try.underlying33 rfl hxi ?_); exact rfl)
    | ((with_reducible refine wpList_stored (o := ⟨none, .store 33 (.tmp 2) (.tmp 38), _, _, _, none⟩) rfl 33 (.tmp 2) (.tmp 38) rfl (.pointer (some ⟨w.heap.size, 0, none⟩)) (.agg Z.toArray) ?_ ?_ w7 hst7 ?_); exact rfl; exact rfl))
  exact bodyPost_ret (ret_hd (p := 2) (q := 3) (by kernel_rfl) rfl HT.out.1 Hd.zero_wide rfl) rfl ⟨by rw [hdV, ← HZ.out]; rfl, HT.out.2⟩
set_option maxRecDepth 100000 in
set_option maxHeartbeats 1000000 in
theorem rifRead_w6 {A : Option Addr} {c : Nat} {l : List UInt8} {w : World} (hr : Rd w w.heap.size (.slice A l.length c) (cellsB l)) (h1 : ¬ 2048 < l.length) (h2 : ¬ l.length < 20) (h3 : (l.getD 0 0).toNat / 16 = 4) (h4 : ¬ ifN l < 20) (h5 : ¬ l.length < ifN l) (h6 : num2 l 2 < ifN l) :
    Calls Try.prog 18 #[.slice A l.length c] w fun e w' => e = .returned (.tuple #[hdV Hd.zero, .int .i64 4]) ∧ Below w.heap.size w w' := by
  obtain ⟨_, _, e, hlc, _, _⟩ := hr.bytes
  injection e with e1 e2 e3
  subst e3
  clear e1 e2
  have hz : ∀ w, (zeroValue 33).run Try.prog w = .ok (.agg (hdC Hd.zero).toArray) w := zero_hd
  have hbu : ∀ W, (Instr.build 33 #[]).run Try.prog W = .ok (.agg (hdC Hd.zero).toArray) W := build_hd0
  obtain ⟨w5, w6, w7, hst5, hst6, hsc5, hat5, hatg, hb5, hs5, HT6, hst7, HT7⟩ := rif_start w
  have hxi := info_hdA Hd.zero_wide
  have hln := hdC_length Hd.zero_wide
  have HT := Lib.hid HT7
  have hr5 := (hr.below hb5).more (B' := w5.heap.size) (by omega)
  have b1 : 20 ≤ l.length := by omega
  obtain ⟨b, o, rfl, hbl, hc⟩ := hr5.addr (by omega)
  have c0 := hc 0 (by omega)
  rw [getD_cell (by omega), Nat.add_zero] at c0
  obtain ⟨x, hx⟩ : ∃ x, x = l.getD 0 0 := ⟨_, rfl⟩
  rw [← hx] at c0 h3
  have hxl := x.toNat_lt
  obtain ⟨p, hp⟩ : ∃ p, p = x.toNat / 16 := ⟨_, rfl⟩
  have hpd : (x.toNat : Int).tdiv 16 = (p : Int) := by rw [Int.tdiv_eq_ediv_of_nonneg (by omega)]; omega
  rw [← hp] at h3
  have k3 : ((p : Int) % 256 != 4) = false := by simp; omega
  obtain ⟨r, hr16⟩ : ∃ r, r = x.toNat % 16 := ⟨_, rfl⟩
  have hrm : (x.toNat : Int).tmod 16 = (r : Int) := by rw [Int.tmod_eq_emod_of_nonneg (by omega)]; omega
  have hrw : IntKind.i64.wrap (r : Int) = (r : Int) := IntWalk.i64_in _ (by omega)
  obtain ⟨n, hn⟩ : ∃ n, n = ifN l := ⟨_, rfl⟩
  have hn4 : n = 4 * r := by rw [hn, hr16]; unfold ifN; rw [← hx]; omega
  have hnw : IntKind.i64.wrap (4 * (r : Int)) = (n : Int) := by rw [IntWalk.i64_in _ (by omega)]; omega
  have hg := refGet_any _ _ l 2 2 w5.drew w5.heap.size hr5.drew (by omega) (by omega) (by omega)
  rw [ofBe_two l 2 (by omega)] at hg
  have hql := num2_lt l 2
  obtain ⟨q, hq⟩ : ∃ q, q = num2 l 2 := ⟨_, rfl⟩
  rw [← hq] at hg hql
  have hqw : IntKind.i64.wrap (q : Int) = (q : Int) := IntWalk.i64_in _ (by omega)
  have HG := Lib.hid hg
  have n0 : 0 < l.length := by omega
  rw [← hn] at h4
  have k4 : (20 : Int) ≤ (n : Int) := by omega
  rw [← hn] at h5
  rw [← hn, ← hq] at h6
  obtain ⟨m, hm⟩ : ∃ m, m = l.length := ⟨_, rfl⟩
  rw [← hm] at h1 h2 b1 n0 HG h5 ⊢
  clear hm hx hp hc hbl hr16 hql hg h3 hq hn hn4 hxl
  unfold HdAt at hat5
  have hat5d : w5.drew.heap[w.heap.size + 1]? = some (.cells (hdC Hd.zero).toArray 33 (0, 0)) := hat5
  clear hat5
  clear hr hr5 hatg hb5 HT6 HT7 hlc hst6
  rw [hdV]
  obtain ⟨Z, hZ⟩ : ∃ Z, Z = hdC Hd.zero := ⟨_, rfl⟩
  rw [← hZ] at hz hbu hst5 hst7 hsc5 hat5d hxi hln ⊢
  have HZ := Lib.hid hZ
  clear hZ
  go_enter Try.func18, Try.ntmps18
  go_wp2_with (first
    | (with_reducible refine wpList_alloc_zero (o := ⟨some 2, .alloc 33, _, _, _, _⟩) rfl 33 rfl Z.toArray hz ?_)
    | (with_reducible refine wpList_alloc_zero (o := ⟨some 4, .alloc 33, _, _, _, _⟩) rfl 33 rfl Z.toArray hz ?_)
    | ((with_reducible refine wpList_stored (o := ⟨none, .store 33 (.tmp 4) (.tmp 7), _, _, _, none⟩) rfl 33 (.tmp 4) (.tmp 7) rfl (.pointer (some ⟨w.heap.size + 1, 0, none⟩)) (.agg Z.toArray) ?_ ?_ w5 hst5 ?_); exact rfl; exact rfl))
  go_region_held3 (fun w' => w'.cell? ⟨b, o, none⟩ = some (.int .u8 (x.toNat : Int)))
    (first | exact c0)
    (first | (go_at_call 33; refine HG.out.mono ?_; rintro _ _ ⟨rfl, rfl⟩))
  go_wp2_with (first
    | ((with_reducible refine wpList_load_row (o := ⟨some 42, .load 33 (.tmp 4), _, _, _, _⟩) rfl 33 (.tmp 4) rfl (w.heap.size + 1) ?_ 33 Z.toArray (0, 0) _ hat5d Try.underlying33 rfl hxi ?_); exact rfl)
    | ((with_reducible refine wpList_stored (o := ⟨none, .store 33 (.tmp 2) (.tmp 42), _, _, _, none⟩) rfl 33 (.tmp 2) (.tmp 42) rfl (.pointer (some ⟨w.heap.size, 0, none⟩)) (.agg Z.toArray) ?_ ?_ w7 hst7 ?_); exact rfl; exact rfl))
  exact bodyPost_ret (ret_hd (p := 2) (q := 3) (by kernel_rfl) rfl HT.out.1 Hd.zero_wide rfl) rfl ⟨by rw [hdV, ← HZ.out]; rfl, HT.out.2⟩
set_option maxRecDepth 100000 in
set_option maxHeartbeats 1000000 in
theorem rifRead_w7 {A : Option Addr} {c : Nat} {l : List UInt8} {w : World} (hr : Rd w w.heap.size (.slice A l.length c) (cellsB l)) (h1 : ¬ 2048 < l.length) (h2 : ¬ l.length < 20) (h3 : (l.getD 0 0).toNat / 16 = 4) (h4 : ¬ ifN l < 20) (h5 : ¬ l.length < ifN l) (h6 : ¬ num2 l 2 < ifN l) (h7 : l.length < num2 l 2) :
    Calls Try.prog 18 #[.slice A l.length c] w fun e w' => e = .returned (.tuple #[hdV Hd.zero, .int .i64 9]) ∧ Below w.heap.size w w' := by
  obtain ⟨_, _, e, hlc, _, _⟩ := hr.bytes
  injection e with e1 e2 e3
  subst e3
  clear e1 e2
  have hz : ∀ w, (zeroValue 33).run Try.prog w = .ok (.agg (hdC Hd.zero).toArray) w := zero_hd
  have hbu : ∀ W, (Instr.build 33 #[]).run Try.prog W = .ok (.agg (hdC Hd.zero).toArray) W := build_hd0
  obtain ⟨w5, w6, w7, hst5, hst6, hsc5, hat5, hatg, hb5, hs5, HT6, hst7, HT7⟩ := rif_start w
  have hxi := info_hdA Hd.zero_wide
  have hln := hdC_length Hd.zero_wide
  have HT := Lib.hid HT7
  have hr5 := (hr.below hb5).more (B' := w5.heap.size) (by omega)
  have b1 : 20 ≤ l.length := by omega
  obtain ⟨b, o, rfl, hbl, hc⟩ := hr5.addr (by omega)
  have c0 := hc 0 (by omega)
  rw [getD_cell (by omega), Nat.add_zero] at c0
  obtain ⟨x, hx⟩ : ∃ x, x = l.getD 0 0 := ⟨_, rfl⟩
  rw [← hx] at c0 h3
  have hxl := x.toNat_lt
  obtain ⟨p, hp⟩ : ∃ p, p = x.toNat / 16 := ⟨_, rfl⟩
  have hpd : (x.toNat : Int).tdiv 16 = (p : Int) := by rw [Int.tdiv_eq_ediv_of_nonneg (by omega)]; omega
  rw [← hp] at h3
  have k3 : ((p : Int) % 256 != 4) = false := by simp; omega
  obtain ⟨r, hr16⟩ : ∃ r, r = x.toNat % 16 := ⟨_, rfl⟩
  have hrm : (x.toNat : Int).tmod 16 = (r : Int) := by rw [Int.tmod_eq_emod_of_nonneg (by omega)]; omega
  have hrw : IntKind.i64.wrap (r : Int) = (r : Int) := IntWalk.i64_in _ (by omega)
  obtain ⟨n, hn⟩ : ∃ n, n = ifN l := ⟨_, rfl⟩
  have hn4 : n = 4 * r := by rw [hn, hr16]; unfold ifN; rw [← hx]; omega
  have hnw : IntKind.i64.wrap (4 * (r : Int)) = (n : Int) := by rw [IntWalk.i64_in _ (by omega)]; omega
  have hg := refGet_any _ _ l 2 2 w5.drew w5.heap.size hr5.drew (by omega) (by omega) (by omega)
  rw [ofBe_two l 2 (by omega)] at hg
  have hql := num2_lt l 2
  obtain ⟨q, hq⟩ : ∃ q, q = num2 l 2 := ⟨_, rfl⟩
  rw [← hq] at hg hql
  have hqw : IntKind.i64.wrap (q : Int) = (q : Int) := IntWalk.i64_in _ (by omega)
  have HG := Lib.hid hg
  have n0 : 0 < l.length := by omega
  rw [← hn] at h4
  have k4 : (20 : Int) ≤ (n : Int) := by omega
  rw [← hn] at h5
  rw [← hn, ← hq] at h6
  rw [← hq] at h7
  obtain ⟨m, hm⟩ : ∃ m, m = l.length := ⟨_, rfl⟩
  rw [← hm] at h1 h2 b1 n0 HG h5 h7 ⊢
  clear hm hx hp hc hbl hr16 hql hg h3 hq hn hn4 hxl
  unfold HdAt at hat5
  have hat5d : w5.drew.heap[w.heap.size + 1]? = some (.cells (hdC Hd.zero).toArray 33 (0, 0)) := hat5
  clear hat5
  clear hr hr5 hatg hb5 HT6 HT7 hlc hst6
  rw [hdV]
  obtain ⟨Z, hZ⟩ : ∃ Z, Z = hdC Hd.zero := ⟨_, rfl⟩
  rw [← hZ] at hz hbu hst5 hst7 hsc5 hat5d hxi hln ⊢
  have HZ := Lib.hid hZ
  clear hZ
  go_enter Try.func18, Try.ntmps18
  go_wp2_with (first
    | (with_reducible refine wpList_alloc_zero (o := ⟨some 2, .alloc 33, _, _, _, _⟩) rfl 33 rfl Z.toArray hz ?_)
    | (with_reducible refine wpList_alloc_zero (o := ⟨some 4, .alloc 33, _, _, _, _⟩) rfl 33 rfl Z.toArray hz ?_)
    | ((with_reducible refine wpList_stored (o := ⟨none, .store 33 (.tmp 4) (.tmp 7), _, _, _, none⟩) rfl 33 (.tmp 4) (.tmp 7) rfl (.pointer (some ⟨w.heap.size + 1, 0, none⟩)) (.agg Z.toArray) ?_ ?_ w5 hst5 ?_); exact rfl; exact rfl))
  go_region_held3 (fun w' => w'.cell? ⟨b, o, none⟩ = some (.int .u8 (x.toNat : Int)))
    (first | exact c0)
    (first | (go_at_call 33; refine HG.out.mono ?_; rintro _ _ ⟨rfl, rfl⟩))
  go_wp2_with (first
    | ((with_reducible refine wpList_load_row (o := ⟨some 47, .load 33 (.tmp 4), _, _, _, _⟩) rfl 33 (.tmp 4) rfl (w.heap.size + 1) ?_ 33 Z.toArray (0, 0) _ hat5d Try.underlying33 rfl hxi ?_); exact rfl)
    | ((with_reducible refine wpList_stored (o := ⟨none, .store 33 (.tmp 2) (.tmp 47), _, _, _, none⟩) rfl 33 (.tmp 2) (.tmp 47) rfl (.pointer (some ⟨w.heap.size, 0, none⟩)) (.agg Z.toArray) ?_ ?_ w7 hst7 ?_); exact rfl; exact rfl))
  exact bodyPost_ret (ret_hd (p := 2) (q := 3) (by kernel_rfl) rfl HT.out.1 Hd.zero_wide rfl) rfl ⟨by rw [hdV, ← HZ.out]; rfl, HT.out.2⟩
set_option maxRecDepth 100000 in
set_option maxHeartbeats 1000000 in
theorem rifRead_w8 {A : Option Addr} {c : Nat} {l : List UInt8} {w : World} (hr : Rd w w.heap.size (.slice A l.length c) (cellsB l)) (h1 : ¬ 2048 < l.length) (h2 : ¬ l.length < 20) (h3 : (l.getD 0 0).toNat / 16 = 4) (h4 : ¬ ifN l < 20) (h5 : ¬ l.length < ifN l) (h6 : ¬ num2 l 2 < ifN l) (h7 : ¬ l.length < num2 l 2) (h8 : num2 l 2 < l.length) :
    Calls Try.prog 18 #[.slice A l.length c] w fun e w' => e = .returned (.tuple #[hdV Hd.zero, .int .i64 10]) ∧ Below w.heap.size w w' := by
  obtain ⟨_, _, e, hlc, _, _⟩ := hr.bytes
  injection e with e1 e2 e3
  subst e3
  clear e1 e2
  have hz : ∀ w, (zeroValue 33).run Try.prog w = .ok (.agg (hdC Hd.zero).toArray) w := zero_hd
  have hbu : ∀ W, (Instr.build 33 #[]).run Try.prog W = .ok (.agg (hdC Hd.zero).toArray) W := build_hd0
  obtain ⟨w5, w6, w7, hst5, hst6, hsc5, hat5, hatg, hb5, hs5, HT6, hst7, HT7⟩ := rif_start w
  have hxi := info_hdA Hd.zero_wide
  have hln := hdC_length Hd.zero_wide
  have HT := Lib.hid HT7
  have hr5 := (hr.below hb5).more (B' := w5.heap.size) (by omega)
  have b1 : 20 ≤ l.length := by omega
  obtain ⟨b, o, rfl, hbl, hc⟩ := hr5.addr (by omega)
  have c0 := hc 0 (by omega)
  rw [getD_cell (by omega), Nat.add_zero] at c0
  obtain ⟨x, hx⟩ : ∃ x, x = l.getD 0 0 := ⟨_, rfl⟩
  rw [← hx] at c0 h3
  have hxl := x.toNat_lt
  obtain ⟨p, hp⟩ : ∃ p, p = x.toNat / 16 := ⟨_, rfl⟩
  have hpd : (x.toNat : Int).tdiv 16 = (p : Int) := by rw [Int.tdiv_eq_ediv_of_nonneg (by omega)]; omega
  rw [← hp] at h3
  have k3 : ((p : Int) % 256 != 4) = false := by simp; omega
  obtain ⟨r, hr16⟩ : ∃ r, r = x.toNat % 16 := ⟨_, rfl⟩
  have hrm : (x.toNat : Int).tmod 16 = (r : Int) := by rw [Int.tmod_eq_emod_of_nonneg (by omega)]; omega
  have hrw : IntKind.i64.wrap (r : Int) = (r : Int) := IntWalk.i64_in _ (by omega)
  obtain ⟨n, hn⟩ : ∃ n, n = ifN l := ⟨_, rfl⟩
  have hn4 : n = 4 * r := by rw [hn, hr16]; unfold ifN; rw [← hx]; omega
  have hnw : IntKind.i64.wrap (4 * (r : Int)) = (n : Int) := by rw [IntWalk.i64_in _ (by omega)]; omega
  have hg := refGet_any _ _ l 2 2 w5.drew w5.heap.size hr5.drew (by omega) (by omega) (by omega)
  rw [ofBe_two l 2 (by omega)] at hg
  have hql := num2_lt l 2
  obtain ⟨q, hq⟩ : ∃ q, q = num2 l 2 := ⟨_, rfl⟩
  rw [← hq] at hg hql
  have hqw : IntKind.i64.wrap (q : Int) = (q : Int) := IntWalk.i64_in _ (by omega)
  have HG := Lib.hid hg
  have n0 : 0 < l.length := by omega
  rw [← hn] at h4
  have k4 : (20 : Int) ≤ (n : Int) := by omega
  rw [← hn] at h5
  rw [← hn, ← hq] at h6
  rw [← hq] at h7
  rw [← hq] at h8
  obtain ⟨m, hm⟩ : ∃ m, m = l.length := ⟨_, rfl⟩
  rw [← hm] at h1 h2 b1 n0 HG h5 h7 h8 ⊢
  clear hm hx hp hc hbl hr16 hql hg h3 hq hn hn4 hxl
  unfold HdAt at hat5
  have hat5d : w5.drew.heap[w.heap.size + 1]? = some (.cells (hdC Hd.zero).toArray 33 (0, 0)) := hat5
  clear hat5
  clear hr hr5 hatg hb5 HT6 HT7 hlc hst6
  rw [hdV]
  obtain ⟨Z, hZ⟩ : ∃ Z, Z = hdC Hd.zero := ⟨_, rfl⟩
  rw [← hZ] at hz hbu hst5 hst7 hsc5 hat5d hxi hln ⊢
  have HZ := Lib.hid hZ
  clear hZ
  go_enter Try.func18, Try.ntmps18
  go_wp2_with (first
    | (with_reducible refine wpList_alloc_zero (o := ⟨some 2, .alloc 33, _, _, _, _⟩) rfl 33 rfl Z.toArray hz ?_)
    | (with_reducible refine wpList_alloc_zero (o := ⟨some 4, .alloc 33, _, _, _, _⟩) rfl 33 rfl Z.toArray hz ?_)
    | ((with_reducible refine wpList_stored (o := ⟨none, .store 33 (.tmp 4) (.tmp 7), _, _, _, none⟩) rfl 33 (.tmp 4) (.tmp 7) rfl (.pointer (some ⟨w.heap.size + 1, 0, none⟩)) (.agg Z.toArray) ?_ ?_ w5 hst5 ?_); exact rfl; exact rfl))
  go_region_held3 (fun w' => w'.cell? ⟨b, o, none⟩ = some (.int .u8 (x.toNat : Int)))
    (first | exact c0)
    (first | (go_at_call 33; refine HG.out.mono ?_; rintro _ _ ⟨rfl, rfl⟩))
  go_wp2_with (first
    | ((with_reducible refine wpList_load_row (o := ⟨some 52, .load 33 (.tmp 4), _, _, _, _⟩) rfl 33 (.tmp 4) rfl (w.heap.size + 1) ?_ 33 Z.toArray (0, 0) _ hat5d Try.underlying33 rfl hxi ?_); exact rfl)
    | ((with_reducible refine wpList_stored (o := ⟨none, .store 33 (.tmp 2) (.tmp 52), _, _, _, none⟩) rfl 33 (.tmp 2) (.tmp 52) rfl (.pointer (some ⟨w.heap.size, 0, none⟩)) (.agg Z.toArray) ?_ ?_ w7 hst7 ?_); exact rfl; exact rfl))
  exact bodyPost_ret (ret_hd (p := 2) (q := 3) (by kernel_rfl) rfl HT.out.1 Hd.zero_wide rfl) rfl ⟨by rw [hdV, ← HZ.out]; rfl, HT.out.2⟩
set_option maxRecDepth 100000 in
set_option maxHeartbeats 1000000 in
theorem rifRead_w9 {A : Option Addr} {c : Nat} {l : List UInt8} {w : World} (hr : Rd w w.heap.size (.slice A l.length c) (cellsB l)) (h1 : ¬ 2048 < l.length) (h2 : ¬ l.length < 20) (h3 : (l.getD 0 0).toNat / 16 = 4) (h4 : ¬ ifN l < 20) (h5 : ¬ l.length < ifN l) (h6 : ¬ num2 l 2 < ifN l) (h7 : ¬ l.length < num2 l 2) (h8 : ¬ num2 l 2 < l.length) (h9 : sumOf (l.take (ifN l)) ≠ 0) :
    Calls Try.prog 18 #[.slice A l.length c] w fun e w' => e = .returned (.tuple #[hdV Hd.zero, .int .i64 5]) ∧ Below w.heap.size w w' := by
  obtain ⟨_, _, e, hlc, _, _⟩ := hr.bytes
  injection e with e1 e2 e3
  subst e3
  clear e1 e2
  have hz : ∀ w, (zeroValue 33).run Try.prog w = .ok (.agg (hdC Hd.zero).toArray) w := zero_hd
  have hbu : ∀ W, (Instr.build 33 #[]).run Try.prog W = .ok (.agg (hdC Hd.zero).toArray) W := build_hd0
  obtain ⟨w5, w6, w7, hst5, hst6, hsc5, hat5, hatg, hb5, hs5, HT6, hst7, HT7⟩ := rif_start w
  have hxi := info_hdA Hd.zero_wide
  have hln := hdC_length Hd.zero_wide
  have HT := Lib.hid HT7
  have hr5 := (hr.below hb5).more (B' := w5.heap.size) (by omega)
  have b1 : 20 ≤ l.length := by omega
  obtain ⟨b, o, rfl, hbl, hc⟩ := hr5.addr (by omega)
  have c0 := hc 0 (by omega)
  rw [getD_cell (by omega), Nat.add_zero] at c0
  obtain ⟨x, hx⟩ : ∃ x, x = l.getD 0 0 := ⟨_, rfl⟩
  rw [← hx] at c0 h3
  have hxl := x.toNat_lt
  obtain ⟨p, hp⟩ : ∃ p, p = x.toNat / 16 := ⟨_, rfl⟩
  have hpd : (x.toNat : Int).tdiv 16 = (p : Int) := by rw [Int.tdiv_eq_ediv_of_nonneg (by omega)]; omega
  rw [← hp] at h3
  have k3 : ((p : Int) % 256 != 4) = false := by simp; omega
  obtain ⟨r, hr16⟩ : ∃ r, r = x.toNat % 16 := ⟨_, rfl⟩
  have hrm : (x.toNat : Int).tmod 16 = (r : Int) := by rw [Int.tmod_eq_emod_of_nonneg (by omega)]; omega
  have hrw : IntKind.i64.wrap (r : Int) = (r : Int) := IntWalk.i64_in _ (by omega)
  obtain ⟨n, hn⟩ : ∃ n, n = ifN l := ⟨_, rfl⟩
  have hn4 : n = 4 * r := by rw [hn, hr16]; unfold ifN; rw [← hx]; omega
  have hnw : IntKind.i64.wrap (4 * (r : Int)) = (n : Int) := by rw [IntWalk.i64_in _ (by omega)]; omega
  have hg := refGet_any _ _ l 2 2 w5.drew w5.heap.size hr5.drew (by omega) (by omega) (by omega)
  rw [ofBe_two l 2 (by omega)] at hg
  have hql := num2_lt l 2
  obtain ⟨q, hq⟩ : ∃ q, q = num2 l 2 := ⟨_, rfl⟩
  rw [← hq] at hg hql
  have hqw : IntKind.i64.wrap (q : Int) = (q : Int) := IntWalk.i64_in _ (by omega)
  have HG := Lib.hid hg
  have n0 : 0 < l.length := by omega
  rw [← hn] at h4
  have k4 : (20 : Int) ≤ (n : Int) := by omega
  rw [← hn] at h5
  rw [← hn, ← hq] at h6
  rw [← hq] at h7
  rw [← hq] at h8
  have kh := cut_h (P := Try.prog) (t := 22) Try.underlying22 (i := _) (e := 5) rfl rfl (some ⟨b, o, none⟩) l.length c n (by omega) (n : Int) rfl
  have hrt := (hr5.drew).upto (hi := n) (by omega)
  rw [cellsB_take] at hrt
  have hsum := rinSum_any (l := l.take n) (n := n) (by rw [List.length_take]; omega) (by omega) hrt
  rw [← hn] at h9
  obtain ⟨s, hs⟩ : ∃ s, s = sumOf (l.take n) := ⟨_, rfl⟩
  rw [← hs] at hsum
  have HS := Lib.hid hsum
  clear hsum hrt
  rw [← hs] at h9
  have k9 := bne_zero h9
  clear hs h9
  obtain ⟨m, hm⟩ : ∃ m, m = l.length := ⟨_, rfl⟩
  rw [← hm] at h1 h2 b1 n0 HG h5 h7 h8 kh ⊢
  clear hm hx hp hc hbl hr16 hql hg h3 hq hn hn4 hxl
  unfold HdAt at hat5
  have hat5d : w5.drew.heap[w.heap.size + 1]? = some (.cells (hdC Hd.zero).toArray 33 (0, 0)) := hat5
  clear hat5
  clear hr hr5 hatg hb5 HT6 HT7 hlc hst6
  rw [hdV]
  obtain ⟨Z, hZ⟩ : ∃ Z, Z = hdC Hd.zero := ⟨_, rfl⟩
  rw [← hZ] at hz hbu hst5 hst7 hsc5 hat5d hxi hln ⊢
  have HZ := Lib.hid hZ
  clear hZ
  go_enter Try.func18, Try.ntmps18
  go_wp2_with (first
    | (with_reducible refine wpList_alloc_zero (o := ⟨some 2, .alloc 33, _, _, _, _⟩) rfl 33 rfl Z.toArray hz ?_)
    | (with_reducible refine wpList_alloc_zero (o := ⟨some 4, .alloc 33, _, _, _, _⟩) rfl 33 rfl Z.toArray hz ?_)
    | ((with_reducible refine wpList_stored (o := ⟨none, .store 33 (.tmp 4) (.tmp 7), _, _, _, none⟩) rfl 33 (.tmp 4) (.tmp 7) rfl (.pointer (some ⟨w.heap.size + 1, 0, none⟩)) (.agg Z.toArray) ?_ ?_ w5 hst5 ?_); exact rfl; exact rfl))
  go_region_held3 (fun w' => w'.cell? ⟨b, o, none⟩ = some (.int .u8 (x.toNat : Int)))
    (first | exact c0)
    (first | (go_at_call 33; refine HG.out.mono ?_; rintro _ _ ⟨rfl, rfl⟩))
  go_wp2_with (first
    | ((with_reducible refine wpList_load_row (o := ⟨some 58, .load 33 (.tmp 4), _, _, _, _⟩) rfl 33 (.tmp 4) rfl (w.heap.size + 1) ?_ 33 Z.toArray (0, 0) _ hat5d Try.underlying33 rfl hxi ?_); exact rfl)
    | ((with_reducible refine wpList_stored (o := ⟨none, .store 33 (.tmp 2) (.tmp 58), _, _, _, none⟩) rfl 33 (.tmp 2) (.tmp 58) rfl (.pointer (some ⟨w.heap.size, 0, none⟩)) (.agg Z.toArray) ?_ ?_ w7 hst7 ?_); exact rfl; exact rfl)
    | (go_at_call 16; refine HS.out.mono ?_; rintro _ _ ⟨rfl, rfl⟩))
  exact bodyPost_ret (ret_hd (p := 2) (q := 3) (by kernel_rfl) rfl HT.out.1 Hd.zero_wide rfl) rfl ⟨by rw [hdV, ← HZ.out]; rfl, HT.out.2⟩
set_option maxRecDepth 100000 in
set_option maxHeartbeats 1000000 in
theorem rifRead_w10 {A : Option Addr} {c : Nat} {l : List UInt8} {w : World} (hr : Rd w w.heap.size (.slice A l.length c) (cellsB l)) (h1 : ¬ 2048 < l.length) (h2 : ¬ l.length < 20) (h3 : (l.getD 0 0).toNat / 16 = 4) (h4 : ¬ ifN l < 20) (h5 : ¬ l.length < ifN l) (h6 : ¬ num2 l 2 < ifN l) (h7 : ¬ l.length < num2 l 2) (h8 : ¬ num2 l 2 < l.length) (h9 : sumOf (l.take (ifN l)) = 0) (h10 : (l.getD 8 0).toNat = 0) :
    Calls Try.prog 18 #[.slice A l.length c] w fun e w' => e = .returned (.tuple #[hdV Hd.zero, .int .i64 4]) ∧ Below w.heap.size w w' := by
  obtain ⟨_, _, e, hlc, _, _⟩ := hr.bytes
  injection e with e1 e2 e3
  subst e3
  clear e1 e2
  have hz : ∀ w, (zeroValue 33).run Try.prog w = .ok (.agg (hdC Hd.zero).toArray) w := zero_hd
  have hbu : ∀ W, (Instr.build 33 #[]).run Try.prog W = .ok (.agg (hdC Hd.zero).toArray) W := build_hd0
  obtain ⟨w5, w6, w7, hst5, hst6, hsc5, hat5, hatg, hb5, hs5, HT6, hst7, HT7⟩ := rif_start w
  have hxi := info_hdA Hd.zero_wide
  have hln := hdC_length Hd.zero_wide
  have HT := Lib.hid HT7
  have hr5 := (hr.below hb5).more (B' := w5.heap.size) (by omega)
  have b1 : 20 ≤ l.length := by omega
  obtain ⟨b, o, rfl, hbl, hc⟩ := hr5.addr (by omega)
  have c0 := hc 0 (by omega)
  rw [getD_cell (by omega), Nat.add_zero] at c0
  obtain ⟨x, hx⟩ : ∃ x, x = l.getD 0 0 := ⟨_, rfl⟩
  rw [← hx] at c0 h3
  have hxl := x.toNat_lt
  obtain ⟨p, hp⟩ : ∃ p, p = x.toNat / 16 := ⟨_, rfl⟩
  have hpd : (x.toNat : Int).tdiv 16 = (p : Int) := by rw [Int.tdiv_eq_ediv_of_nonneg (by omega)]; omega
  rw [← hp] at h3
  have k3 : ((p : Int) % 256 != 4) = false := by simp; omega
  obtain ⟨r, hr16⟩ : ∃ r, r = x.toNat % 16 := ⟨_, rfl⟩
  have hrm : (x.toNat : Int).tmod 16 = (r : Int) := by rw [Int.tmod_eq_emod_of_nonneg (by omega)]; omega
  have hrw : IntKind.i64.wrap (r : Int) = (r : Int) := IntWalk.i64_in _ (by omega)
  obtain ⟨n, hn⟩ : ∃ n, n = ifN l := ⟨_, rfl⟩
  have hn4 : n = 4 * r := by rw [hn, hr16]; unfold ifN; rw [← hx]; omega
  have hnw : IntKind.i64.wrap (4 * (r : Int)) = (n : Int) := by rw [IntWalk.i64_in _ (by omega)]; omega
  have hg := refGet_any _ _ l 2 2 w5.drew w5.heap.size hr5.drew (by omega) (by omega) (by omega)
  rw [ofBe_two l 2 (by omega)] at hg
  have hql := num2_lt l 2
  obtain ⟨q, hq⟩ : ∃ q, q = num2 l 2 := ⟨_, rfl⟩
  rw [← hq] at hg hql
  have hqw : IntKind.i64.wrap (q : Int) = (q : Int) := IntWalk.i64_in _ (by omega)
  have HG := Lib.hid hg
  have n0 : 0 < l.length := by omega
  rw [← hn] at h4
  have k4 : (20 : Int) ≤ (n : Int) := by omega
  rw [← hn] at h5
  rw [← hn, ← hq] at h6
  rw [← hq] at h7
  rw [← hq] at h8
  have kh := cut_h (P := Try.prog) (t := 22) Try.underlying22 (i := _) (e := 5) rfl rfl (some ⟨b, o, none⟩) l.length c n (by omega) (n : Int) rfl
  have hrt := (hr5.drew).upto (hi := n) (by omega)
  rw [cellsB_take] at hrt
  have hsum := rinSum_any (l := l.take n) (n := n) (by rw [List.length_take]; omega) (by omega) hrt
  rw [← hn] at h9
  obtain ⟨s, hs⟩ : ∃ s, s = sumOf (l.take n) := ⟨_, rfl⟩
  rw [← hs] at hsum
  have HS := Lib.hid hsum
  clear hsum hrt
  rw [← hs] at h9
  rw [h9] at HS
  have d8 := hc 8 (by omega)
  have d6 := hc 6 (by omega)
  rw [getD_cell (by omega)] at d8 d6
  have c8 : w5.drew.cell? ⟨b, o + 8, none⟩ = some (.int .u8 ((l.getD 8 0).toNat : Int)) := d8
  have c6 : w5.drew.cell? ⟨b, o + 6, none⟩ = some (.int .u8 ((l.getD 6 0).toNat : Int)) := d6
  clear hs h9 d8 d6
  rw [h10] at c8
  generalize (l.getD 6 0).toNat = y6 at c6
  clear h10
  obtain ⟨m, hm⟩ : ∃ m, m = l.length := ⟨_, rfl⟩
  rw [← hm] at h1 h2 b1 n0 HG h5 h7 h8 kh ⊢
  clear hm hx hp hc hbl hr16 hql hg h3 hq hn hn4 hxl
  unfold HdAt at hat5
  have hat5d : w5.drew.heap[w.heap.size + 1]? = some (.cells (hdC Hd.zero).toArray 33 (0, 0)) := hat5
  clear hat5
  clear hr hr5 hatg hb5 HT6 HT7 hlc hst6
  rw [hdV]
  obtain ⟨Z, hZ⟩ : ∃ Z, Z = hdC Hd.zero := ⟨_, rfl⟩
  rw [← hZ] at hz hbu hst5 hst7 hsc5 hat5d hxi hln ⊢
  have HZ := Lib.hid hZ
  clear hZ
  go_enter Try.func18, Try.ntmps18
  go_wp2_with (first
    | (with_reducible refine wpList_alloc_zero (o := ⟨some 2, .alloc 33, _, _, _, _⟩) rfl 33 rfl Z.toArray hz ?_)
    | (with_reducible refine wpList_alloc_zero (o := ⟨some 4, .alloc 33, _, _, _, _⟩) rfl 33 rfl Z.toArray hz ?_)
    | ((with_reducible refine wpList_stored (o := ⟨none, .store 33 (.tmp 4) (.tmp 7), _, _, _, none⟩) rfl 33 (.tmp 4) (.tmp 7) rfl (.pointer (some ⟨w.heap.size + 1, 0, none⟩)) (.agg Z.toArray) ?_ ?_ w5 hst5 ?_); exact rfl; exact rfl))
  go_region_held3 (fun w' => w'.cell? ⟨b, o, none⟩ = some (.int .u8 (x.toNat : Int)))
    (first | exact c0)
    (first | (go_at_call 33; refine HG.out.mono ?_; rintro _ _ ⟨rfl, rfl⟩))
  go_wp2_with (first
    | ((with_reducible refine wpList_load_row (o := ⟨some 69, .load 33 (.tmp 4), _, _, _, _⟩) rfl 33 (.tmp 4) rfl (w.heap.size + 1) ?_ 33 Z.toArray (0, 0) _ hat5d Try.underlying33 rfl hxi ?_); exact rfl)
    | ((with_reducible refine wpList_stored (o := ⟨none, .store 33 (.tmp 2) (.tmp 69), _, _, _, none⟩) rfl 33 (.tmp 2) (.tmp 69) rfl (.pointer (some ⟨w.heap.size, 0, none⟩)) (.agg Z.toArray) ?_ ?_ w7 hst7 ?_); exact rfl; exact rfl)
    | (go_at_call 16; refine HS.out.mono ?_; rintro _ _ ⟨rfl, rfl⟩))
  exact bodyPost_ret (ret_hd (p := 2) (q := 3) (by kernel_rfl) rfl HT.out.1 Hd.zero_wide rfl) rfl ⟨by rw [hdV, ← HZ.out]; rfl, HT.out.2⟩
set_option maxRecDepth 100000 in
set_option maxHeartbeats 1000000 in
theorem rifRead_w11 {A : Option Addr} {c : Nat} {l : List UInt8} {w : World} (hr : Rd w w.heap.size (.slice A l.length c) (cellsB l)) (h1 : ¬ 2048 < l.length) (h2 : ¬ l.length < 20) (h3 : (l.getD 0 0).toNat / 16 = 4) (h4 : ¬ ifN l < 20) (h5 : ¬ l.length < ifN l) (h6 : ¬ num2 l 2 < ifN l) (h7 : ¬ l.length < num2 l 2) (h8 : ¬ num2 l 2 < l.length) (h9 : sumOf (l.take (ifN l)) = 0) (h10 : (l.getD 8 0).toNat ≠ 0) (h11 : 128 ≤ (l.getD 6 0).toNat) :
    Calls Try.prog 18 #[.slice A l.length c] w fun e w' => e = .returned (.tuple #[hdV Hd.zero, .int .i64 4]) ∧ Below w.heap.size w w' := by
  obtain ⟨_, _, e, hlc, _, _⟩ := hr.bytes
  injection e with e1 e2 e3
  subst e3
  clear e1 e2
  have hz : ∀ w, (zeroValue 33).run Try.prog w = .ok (.agg (hdC Hd.zero).toArray) w := zero_hd
  have hbu : ∀ W, (Instr.build 33 #[]).run Try.prog W = .ok (.agg (hdC Hd.zero).toArray) W := build_hd0
  obtain ⟨w5, w6, w7, hst5, hst6, hsc5, hat5, hatg, hb5, hs5, HT6, hst7, HT7⟩ := rif_start w
  have hxi := info_hdA Hd.zero_wide
  have hln := hdC_length Hd.zero_wide
  have HT := Lib.hid HT7
  have hr5 := (hr.below hb5).more (B' := w5.heap.size) (by omega)
  have b1 : 20 ≤ l.length := by omega
  obtain ⟨b, o, rfl, hbl, hc⟩ := hr5.addr (by omega)
  have c0 := hc 0 (by omega)
  rw [getD_cell (by omega), Nat.add_zero] at c0
  obtain ⟨x, hx⟩ : ∃ x, x = l.getD 0 0 := ⟨_, rfl⟩
  rw [← hx] at c0 h3
  have hxl := x.toNat_lt
  obtain ⟨p, hp⟩ : ∃ p, p = x.toNat / 16 := ⟨_, rfl⟩
  have hpd : (x.toNat : Int).tdiv 16 = (p : Int) := by rw [Int.tdiv_eq_ediv_of_nonneg (by omega)]; omega
  rw [← hp] at h3
  have k3 : ((p : Int) % 256 != 4) = false := by simp; omega
  obtain ⟨r, hr16⟩ : ∃ r, r = x.toNat % 16 := ⟨_, rfl⟩
  have hrm : (x.toNat : Int).tmod 16 = (r : Int) := by rw [Int.tmod_eq_emod_of_nonneg (by omega)]; omega
  have hrw : IntKind.i64.wrap (r : Int) = (r : Int) := IntWalk.i64_in _ (by omega)
  obtain ⟨n, hn⟩ : ∃ n, n = ifN l := ⟨_, rfl⟩
  have hn4 : n = 4 * r := by rw [hn, hr16]; unfold ifN; rw [← hx]; omega
  have hnw : IntKind.i64.wrap (4 * (r : Int)) = (n : Int) := by rw [IntWalk.i64_in _ (by omega)]; omega
  have hg := refGet_any _ _ l 2 2 w5.drew w5.heap.size hr5.drew (by omega) (by omega) (by omega)
  rw [ofBe_two l 2 (by omega)] at hg
  have hql := num2_lt l 2
  obtain ⟨q, hq⟩ : ∃ q, q = num2 l 2 := ⟨_, rfl⟩
  rw [← hq] at hg hql
  have hqw : IntKind.i64.wrap (q : Int) = (q : Int) := IntWalk.i64_in _ (by omega)
  have HG := Lib.hid hg
  have n0 : 0 < l.length := by omega
  rw [← hn] at h4
  have k4 : (20 : Int) ≤ (n : Int) := by omega
  rw [← hn] at h5
  rw [← hn, ← hq] at h6
  rw [← hq] at h7
  rw [← hq] at h8
  have kh := cut_h (P := Try.prog) (t := 22) Try.underlying22 (i := _) (e := 5) rfl rfl (some ⟨b, o, none⟩) l.length c n (by omega) (n : Int) rfl
  have hrt := (hr5.drew).upto (hi := n) (by omega)
  rw [cellsB_take] at hrt
  have hsum := rinSum_any (l := l.take n) (n := n) (by rw [List.length_take]; omega) (by omega) hrt
  rw [← hn] at h9
  obtain ⟨s, hs⟩ : ∃ s, s = sumOf (l.take n) := ⟨_, rfl⟩
  rw [← hs] at hsum
  have HS := Lib.hid hsum
  clear hsum hrt
  rw [← hs] at h9
  rw [h9] at HS
  have d8 := hc 8 (by omega)
  have d6 := hc 6 (by omega)
  rw [getD_cell (by omega)] at d8 d6
  have c8 : w5.drew.cell? ⟨b, o + 8, none⟩ = some (.int .u8 ((l.getD 8 0).toNat : Int)) := d8
  have c6 : w5.drew.cell? ⟨b, o + 6, none⟩ = some (.int .u8 ((l.getD 6 0).toNat : Int)) := d6
  clear hs h9 d8 d6
  have k10 := beq_zero h10
  generalize (l.getD 8 0).toNat = y8 at c8 k10
  obtain ⟨y6, hy6⟩ : ∃ y, y = (l.getD 6 0).toNat := ⟨_, rfl⟩
  rw [← hy6] at c6 h11
  have k11 : (128 : Int) ≤ (y6 : Int) := by omega
  clear h10 hy6 h11
  obtain ⟨m, hm⟩ : ∃ m, m = l.length := ⟨_, rfl⟩
  rw [← hm] at h1 h2 b1 n0 HG h5 h7 h8 kh ⊢
  clear hm hx hp hc hbl hr16 hql hg h3 hq hn hn4 hxl
  unfold HdAt at hat5
  have hat5d : w5.drew.heap[w.heap.size + 1]? = some (.cells (hdC Hd.zero).toArray 33 (0, 0)) := hat5
  clear hat5
  clear hr hr5 hatg hb5 HT6 HT7 hlc hst6
  rw [hdV]
  obtain ⟨Z, hZ⟩ : ∃ Z, Z = hdC Hd.zero := ⟨_, rfl⟩
  rw [← hZ] at hz hbu hst5 hst7 hsc5 hat5d hxi hln ⊢
  have HZ := Lib.hid hZ
  clear hZ
  go_enter Try.func18, Try.ntmps18
  go_wp2_with (first
    | (with_reducible refine wpList_alloc_zero (o := ⟨some 2, .alloc 33, _, _, _, _⟩) rfl 33 rfl Z.toArray hz ?_)
    | (with_reducible refine wpList_alloc_zero (o := ⟨some 4, .alloc 33, _, _, _, _⟩) rfl 33 rfl Z.toArray hz ?_)
    | ((with_reducible refine wpList_stored (o := ⟨none, .store 33 (.tmp 4) (.tmp 7), _, _, _, none⟩) rfl 33 (.tmp 4) (.tmp 7) rfl (.pointer (some ⟨w.heap.size + 1, 0, none⟩)) (.agg Z.toArray) ?_ ?_ w5 hst5 ?_); exact rfl; exact rfl))
  go_region_held3 (fun w' => w'.cell? ⟨b, o, none⟩ = some (.int .u8 (x.toNat : Int)))
    (first | exact c0)
    (first | (go_at_call 33; refine HG.out.mono ?_; rintro _ _ ⟨rfl, rfl⟩))
  go_wp2_with (first
    | ((with_reducible refine wpList_load_row (o := ⟨some 69, .load 33 (.tmp 4), _, _, _, _⟩) rfl 33 (.tmp 4) rfl (w.heap.size + 1) ?_ 33 Z.toArray (0, 0) _ hat5d Try.underlying33 rfl hxi ?_); exact rfl)
    | ((with_reducible refine wpList_stored (o := ⟨none, .store 33 (.tmp 2) (.tmp 69), _, _, _, none⟩) rfl 33 (.tmp 2) (.tmp 69) rfl (.pointer (some ⟨w.heap.size, 0, none⟩)) (.agg Z.toArray) ?_ ?_ w7 hst7 ?_); exact rfl; exact rfl)
    | (go_at_call 16; refine HS.out.mono ?_; rintro _ _ ⟨rfl, rfl⟩))
  exact bodyPost_ret (ret_hd (p := 2) (q := 3) (by kernel_rfl) rfl HT.out.1 Hd.zero_wide rfl) rfl ⟨by rw [hdV, ← HZ.out]; rfl, HT.out.2⟩
end Go.Proofs.Ytejppekcniehpaa
