/-
  Read's ways: whole, readTCP, readUDP.
  Read's ways: readUDP.
  Read of a segment: a contract.
-/
import Derived.Test.YtejppekcniehpaaSgB
import Derived.Test.YtejppekcniehpaaAdC
import Derived.Test.YtejppekcniehpaaAdEq
namespace Go.Proofs.Ytejppekcniehpaa
open Go.RowKit
/-- What is wrong with a segment but for its ports. -/
def tcpE (h : Hd) (b : List UInt8) : Nat := if b.length < 20 then 9 else if sgN b < 20 then 4 else if b.length < sgN b then 9 else if sgOk h b = true then 0 else 5
def udpW (b : List UInt8) : Nat := if b.length < 8 then 9 else if num2 b 4 < 8 then 4 else if b.length < num2 b 4 then 9 else if num2 b 4 < b.length then 10 else 0
def udpE (h : Hd) (b : List UInt8) : Nat := if udpW b = 0 then (if num2 b 6 = 0 then (if h.six then 4 else 0) else if sgOk h b = true then 0 else 5) else udpW b
def tcpHd (b : List UInt8) : Sg := ⟨num2 b 0, num2 b 2, b.getD 13 0, 16, false, (sgN b : Nat)⟩
def udpHd (b : List UInt8) : Sg := ⟨num2 b 0, num2 b 2, 0, 6, decide (num2 b 6 = 0), 8⟩
theorem udpW_no {b : List UInt8} (h : udpW b = 0) : 8 ≤ b.length := by
  unfold udpW at h
  split at h
  · omega
  · omega
set_option maxRecDepth 100000 in
theorem sgWhole_any {A : Option Addr} {c : Nat} {l : List UInt8} {w : World} {B : Nat} (hr : Rd w B (.slice A l.length c) (cellsB l)) :
    Calls Try.prog 78 #[.slice A l.length c] w fun e w' => e = .returned (.int .i64 ((udpW l : Nat) : Int)) ∧ w = w' := by
  unfold udpW
  obtain ⟨m, hm⟩ : ∃ m, m = l.length := ⟨_, rfl⟩
  by_cases h1 : m < 8
  · rw [if_pos (by omega), ← hm]
    clear hr hm
    go_enter Try.func78, Try.ntmps78
    go_wp2_with fail
    go_ret
    exact ⟨rfl, rfl⟩
  have Hf := Lib.hid (sgNumber_any hr (a := 4) (by omega))
  rw [if_neg (by omega)]
  have hlt := num2_lt l 4
  obtain ⟨q, hq⟩ : ∃ q, q = num2 l 4 := ⟨_, rfl⟩
  rw [← hq] at Hf hlt ⊢
  rw [← hm] at Hf ⊢
  have hc : IntKind.i64.wrap (q : Int) = (q : Int) := IntWalk.i64_in _ (by omega)
  clear hr hm hq hlt
  by_cases h2 : q < 8
  · rw [if_pos h2]
    go_enter Try.func78, Try.ntmps78
    go_wp2_with (go_at_call 77; refine Hf.out.mono ?_; rintro e w1 ⟨rfl, rfl⟩)
    go_ret
    exact ⟨rfl, rfl⟩
  rw [if_neg h2]
  by_cases h3 : m < q
  · rw [if_pos h3]
    go_enter Try.func78, Try.ntmps78
    go_wp2_with (go_at_call 77; refine Hf.out.mono ?_; rintro e w1 ⟨rfl, rfl⟩)
    go_ret
    exact ⟨rfl, rfl⟩
  rw [if_neg h3]
  by_cases h4 : q < m
  · rw [if_pos h4]
    go_enter Try.func78, Try.ntmps78
    go_wp2_with (go_at_call 77; refine Hf.out.mono ?_; rintro e w1 ⟨rfl, rfl⟩)
    go_ret
    exact ⟨rfl, rfl⟩
  rw [if_neg h4]
  go_enter Try.func78, Try.ntmps78
  go_wp2_with (go_at_call 77; refine Hf.out.mono ?_; rintro e w1 ⟨rfl, rfl⟩)
  go_ret
  exact ⟨rfl, rfl⟩
/-- Where a head is read: the packet's head at g, what is told at g + 1. -/
structure SgStart (h : Hd) (w X : World) (Z : List Value) : Prop where
  size : X.heap.size = w.heap.size + 1 + 1
  head : HdAt X w.heap.size h
  below : Below w.heap.size w X
  store : ∀ (y : Sg) W, Below X.heap.size X W → ∃ W', (storeCells ⟨w.heap.size + 1, 0, none⟩ (sgC y)).run Try.prog W = .ok () W' ∧ (Instr.storeAt 35 (.pointer (some ⟨w.heap.size + 1, 0, none⟩)) (sgV y)).run Try.prog W = .ok () W' ∧ SgAt W' (w.heap.size + 1) y ∧ Below w.heap.size w W'
  zero : ∀ W, (zeroValue 35).run Try.prog W = .ok (.agg Z.toArray) W
  build : ∀ W, (Instr.build 35 #[]).run Try.prog W = .ok (.agg Z.toArray) W
  none : sgC Sg.none = Z
  len : Z.length = 6
theorem SgStart.of (h : Hd) (w : World) : SgStart h w ((w.alloc (.cells (hdC h).toArray 33)).alloc (.cells (sgC Sg.none).toArray 35)) (sgC Sg.none) := by
  have hb := up_alloc (up_alloc (Below.refl w.heap.size w) (.cells (hdC h).toArray 33)) (.cells (sgC Sg.none).toArray 35)
  refine ⟨by simp, heap_alloc_old _ _ (by simp) |>.trans (heap_alloc_last w _), hb, fun y W hW => ?_, zero_sg, build_sg0, rfl, rfl⟩
  have h0 := heap_alloc_last (w.alloc (.cells (hdC h).toArray 33)) (.cells (sgC Sg.none).toArray 35)
  rw [show (w.alloc (.cells (hdC h).toArray 33)).heap.size = w.heap.size + 1 by simp] at h0
  obtain ⟨W', hst, hat, hgr, _, hsc⟩ := store_sg (w := W) (g := w.heap.size + 1) (a := Sg.none) (b := y) ((hW.block _ (by simp)).trans h0)
  exact ⟨W', hsc, hst, hat, grown_below (up hb hW) hgr (by omega)⟩
set_option maxRecDepth 100000 in
set_option maxHeartbeats 1000000 in
theorem sgTcp_any (h : Hd) (hw : h.Wide) {A : Option Addr} {c : Nat} {l : List UInt8} {w : World} (hr : Rd w w.heap.size (.slice A l.length c) (cellsB l)) (hl : l.length ≤ 100000) :
    Calls Try.prog 67 #[hdV h, .slice A l.length c] w fun e w' => e = .returned (.tuple #[sgV (if tcpE h l = 0 then tcpHd l else Sg.none), .int .i64 ((tcpE h l : Nat) : Int)]) ∧ Below w.heap.size w w' := by
  have st := SgStart.of h w
  obtain ⟨X, hX⟩ : ∃ X, X = (w.alloc (.cells (hdC h).toArray 33)).alloc (.cells (sgC Sg.none).toArray 35) := ⟨_, rfl⟩
  rw [← hX] at st
  have hat : HdAt X w.heap.size h := st.head
  unfold HdAt at hat
  have hi := info_hdA hw
  have hXb := Lib.hid st.below
  have hXs := Lib.hid st.size
  have hG : Hid (Calls Try.prog 76 #[.agg (hdC h).toArray, .slice A l.length c] X fun e w' => e = .returned (.bool (sgOk h l)) ∧ Below X.heap.size X w') := Lib.hid (sgGood_any h hw ((hr.below hXb.out).more hXb.out.size) hl)
  have hz := st.zero
  have hbu := st.build
  obtain ⟨m, hm⟩ : ∃ m, m = l.length := ⟨_, rfl⟩
  rw [hdV]
  generalize hZ : sgC Sg.none = Z at st hX hz hbu
  by_cases h1 : m < 20
  · have hE : tcpE h l = 9 := by unfold tcpE; rw [if_pos (by omega)]
    rw [hE, if_neg (by decide), ← hm]
    have hS0 := st.store Sg.none
    rw [st.none] at hS0
    replace hS0 := Lib.hid hS0
    have hZl := st.len
    have HZ := Lib.hid st.none
    clear st
    obtain ⟨w3, hst, _, hat3, hbel⟩ := hS0.out _ (Below.refl _ _)
    have HT := Lib.hid (And.intro hat3 hbel)
    clear hat3 hbel hS0
    clear hr hG hZ hE hm hl hXb hXs hw hat hi
    subst hX
    generalize (hdC h).toArray = C at *
    go_enter Try.func67, Try.ntmps67
    go_wp2_with (first
      | (with_reducible refine wpList_alloc_zero (o := ⟨some 4, .alloc 35, _, _, _, _⟩) rfl 35 rfl Z.toArray hz ?_)
      | ((with_reducible refine wpList_stored (o := ⟨none, .store 35 (.tmp 4) (.tmp 10), _, _, _, none⟩) rfl 35 (.tmp 4) (.tmp 10) rfl (.pointer (some ⟨w.heap.size + 1, 0, none⟩)) (.agg Z.toArray) ?_ ?_ w3 hst ?_); exact rfl; exact rfl))
    exact bodyPost_ret (ret_sg (p := 4) (q := 5) (by kernel_rfl) rfl HT.out.1 rfl) rfl ⟨by rw [← HZ.out]; rfl, HT.out.2⟩
  obtain ⟨b, o, rfl, hb, hc⟩ := hr.addr (by omega)
  have hcell : ∀ W, Below w.heap.size w W → ∀ j (hj : j < l.length), W.cell? ⟨b, o + j, none⟩ = some (.int .u8 ((l[j]).toNat : Int)) := fun W hW j hj => (hW.cell (show b < w.heap.size from hb)).trans (hc j hj)
  have c12 := hcell X st.below 12 (by omega)
  obtain ⟨x, hx⟩ : ∃ x, x = l[12]'(by omega) := ⟨_, rfl⟩
  have hgx : (l.getD 12 0).toNat = x.toNat := by rw [hx, List.getD_eq_getElem?_getD, List.getElem?_eq_getElem (by omega)]; rfl
  rw [← hx] at c12
  have hxl := x.toNat_lt
  obtain ⟨p, hp⟩ : ∃ p, p = x.toNat / 16 := ⟨_, rfl⟩
  have hN : sgN l = p * 4 := by unfold sgN; rw [hgx, hp]
  have k2 : (x.toNat : Int) / 16 = (p : Int) := by omega
  have hp2 : p < 16 := by omega
  have hE : tcpE h l = if p * 4 < 20 then 4 else if m < p * 4 then 9 else if sgOk h l = true then 0 else 5 := by unfold tcpE; rw [if_neg (by omega), hN, hm]
  by_cases h2 : p < 5
  · rw [if_pos (by omega)] at hE
    rw [hE, if_neg (by decide), ← hm]
    have hS0 := st.store Sg.none
    rw [st.none] at hS0
    replace hS0 := Lib.hid hS0
    have hZl := st.len
    have HZ := Lib.hid st.none
    clear st
    obtain ⟨w3, hst, _, hat3, hbel⟩ := hS0.out _ (Below.refl _ _)
    have HT := Lib.hid (And.intro hat3 hbel)
    clear hat3 hbel hS0
    clear hr hG hZ hE hl hXb hXs hw hat hi hcell hc hgx hxl hN hx hp hm
    subst hX
    generalize (hdC h).toArray = C at *
    go_enter Try.func67, Try.ntmps67
    go_wp2_with (first
      | (with_reducible refine wpList_alloc_zero (o := ⟨some 4, .alloc 35, _, _, _, _⟩) rfl 35 rfl Z.toArray hz ?_)
      | ((with_reducible refine wpList_stored (o := ⟨none, .store 35 (.tmp 4) (.tmp 18), _, _, _, none⟩) rfl 35 (.tmp 4) (.tmp 18) rfl (.pointer (some ⟨w.heap.size + 1, 0, none⟩)) (.agg Z.toArray) ?_ ?_ w3 hst ?_); exact rfl; exact rfl))
    exact bodyPost_ret (ret_sg (p := 4) (q := 5) (by kernel_rfl) rfl HT.out.1 rfl) rfl ⟨by rw [← HZ.out]; rfl, HT.out.2⟩
  rw [if_neg (by omega)] at hE
  by_cases h3 : m < p * 4
  · rw [if_pos h3] at hE
    rw [hE, if_neg (by decide), ← hm]
    have hS0 := st.store Sg.none
    rw [st.none] at hS0
    replace hS0 := Lib.hid hS0
    have hZl := st.len
    have HZ := Lib.hid st.none
    clear st
    obtain ⟨w3, hst, _, hat3, hbel⟩ := hS0.out _ (Below.refl _ _)
    have HT := Lib.hid (And.intro hat3 hbel)
    clear hat3 hbel hS0
    clear hr hG hZ hE hl hXb hXs hw hat hi hcell hc hgx hxl hN hx hp hm
    subst hX
    generalize (hdC h).toArray = C at *
    go_enter Try.func67, Try.ntmps67
    go_wp2_with (first
      | (with_reducible refine wpList_alloc_zero (o := ⟨some 4, .alloc 35, _, _, _, _⟩) rfl 35 rfl Z.toArray hz ?_)
      | ((with_reducible refine wpList_stored (o := ⟨none, .store 35 (.tmp 4) (.tmp 24), _, _, _, none⟩) rfl 35 (.tmp 4) (.tmp 24) rfl (.pointer (some ⟨w.heap.size + 1, 0, none⟩)) (.agg Z.toArray) ?_ ?_ w3 hst ?_); exact rfl; exact rfl))
    exact bodyPost_ret (ret_sg (p := 4) (q := 5) (by kernel_rfl) rfl HT.out.1 rfl) rfl ⟨by rw [← HZ.out]; rfl, HT.out.2⟩
  rw [if_neg h3] at hE
  cases hok : sgOk h l with
  | false =>
    rw [hok, if_neg (by decide)] at hE
    rw [hok] at hG
    rw [hE, if_neg (by decide), ← hm]
    rw [← hm] at hG
    have hS0 := st.store Sg.none
    rw [st.none] at hS0
    replace hS0 := Lib.hid hS0
    have hZl := st.len
    have HZ := Lib.hid st.none
    clear st
    clear hr hZ hE hl hXb hXs hw hcell hc hgx hxl hN hx hp hm hok
    subst hX
    generalize (hdC h).toArray = C at *
    go_enter Try.func67, Try.ntmps67
    go_wp2_with (first
      | (with_reducible refine wpList_alloc_zero (o := ⟨some 4, .alloc 35, _, _, _, _⟩) rfl 35 rfl Z.toArray hz ?_)
      | ((with_reducible refine wpList_load_row (o := ⟨some 25, .load 33 (.tmp 2), _, _, _, _⟩) rfl 33 (.tmp 2) rfl w.heap.size ?_ 33 C (0, 0) _ hat Try.underlying33 rfl hi ?_); exact rfl)
      | (go_at_call 76; refine hG.out.mono ?_; rintro _ w2 ⟨rfl, hb2⟩; obtain ⟨w3, hst, _, hat3, hbel⟩ := hS0.out _ hb2; have HT := Lib.hid (And.intro hat3 hbel); clear hat3 hbel hb2)
      | ((with_reducible refine wpList_stored (o := ⟨none, .store 35 (.tmp 4) (.tmp 29), _, _, _, none⟩) rfl 35 (.tmp 4) (.tmp 29) rfl (.pointer (some ⟨w.heap.size + 1, 0, none⟩)) (.agg Z.toArray) ?_ ?_ w3 hst ?_); exact rfl; exact rfl))
    exact bodyPost_ret (ret_sg (p := 4) (q := 5) (by kernel_rfl) rfl HT.out.1 rfl) rfl ⟨by rw [← HZ.out]; rfl, HT.out.2⟩
  | true =>
    rw [hok, if_pos rfl] at hE
    rw [hok] at hG
    have hcF := Lib.hid (fun W hW => hcell W hW 13 (by omega))
    have hNum : Hid (∀ W, Below w.heap.size w W → ∀ (a : Nat) (aa : Int), aa = (a : Int) → a + 2 ≤ 4 → Calls Try.prog 77 #[.slice (some ⟨b, o, none⟩) l.length c, .int .i64 aa] W fun e w' => e = .returned (.int .u16 ((num2 l a : Nat) : Int)) ∧ W = w') := Lib.hid fun W hW a aa ha h4 => by
      subst ha
      exact sgNumber_any (hr.below hW) (by omega)
    obtain ⟨y, hy⟩ : ∃ y, y = l[13]'(by omega) := ⟨_, rfl⟩
    have hgy : l.getD 13 0 = y := by rw [hy, List.getD_eq_getElem?_getD, List.getElem?_eq_getElem (by omega)]; rfl
    rw [← hy] at hcF
    have hT : tcpHd l = ⟨num2 l 0, num2 l 2, y, 16, false, (p * 4 : Nat)⟩ := by unfold tcpHd; rw [hgy, hN]
    obtain ⟨k, hk⟩ : ∃ k, k = p * 4 := ⟨_, rfl⟩
    have hk4 : (p : Int) * 4 = (k : Int) := by omega
    rw [← hk] at hT
    have hbt := build_sgTcp (num2 l 0) (num2 l 2) y (k : Int)
    have hS1 := st.store (tcpHd l)
    rw [← hT] at hbt
    unfold sgV at hS1 hbt ⊢
    replace hS1 := Lib.hid hS1
    rw [hE, if_pos rfl, ← hm]
    rw [← hm] at hG hNum
    obtain ⟨q0, hq0⟩ : ∃ q0, q0 = num2 l 0 := ⟨_, rfl⟩
    obtain ⟨q2, hq2⟩ : ∃ q2, q2 = num2 l 2 := ⟨_, rfl⟩
    have hN0 := Lib.hid (fun W hW => hNum.out W hW 0 0 rfl (by omega))
    have hN2 := Lib.hid (fun W hW => hNum.out W hW 2 2 rfl (by omega))
    rw [← hq0] at hbt hN0
    rw [← hq2] at hbt hN2
    have hw4 : IntKind.i64.wrap ((p : Int) * 4) = (k : Int) := by rw [hk4]; exact IntWalk.i64_in _ (by omega)
    have hw5 : IntKind.i64.wrap (k : Int) = (k : Int) := IntWalk.i64_in _ (by omega)
    have n13 : (13 : Int) < (m : Int) := by omega
    have hge : ¬ m < k := by omega
    have hge5 : (5 : Int) ≤ (p : Int) := by omega
    have hwH := hw
    clear hr hcell hc hgx hxl hN hE hok hx hp hy hgy hT hNum hw hq0 hq2 hm hl h1 h2 h3 hk hZ hi st
    generalize tcpHd l = Y at *
    generalize hYC : sgC Y = D at *
    have HYC := Lib.hid hYC
    subst hX
    have hi := info_hdA hwH
    generalize (hdC h).toArray = C at *
    go_enter Try.func67, Try.ntmps67
    go_wp2_with (first
      | (with_reducible refine wpList_alloc_zero (o := ⟨some 4, .alloc 35, _, _, _, _⟩) rfl 35 rfl Z.toArray hz ?_)
      | ((with_reducible refine wpList_load_row (o := ⟨some 25, .load 33 (.tmp 2), _, _, _, _⟩) rfl 33 (.tmp 2) rfl w.heap.size ?_ 33 C (0, 0) _ hat Try.underlying33 rfl hi ?_); exact rfl)
      | (go_at_call 76; refine hG.out.mono ?_; rintro _ w2 ⟨rfl, hb2⟩; obtain ⟨w3, _, hst, hat3, hbel⟩ := hS1.out _ (up_drew hb2); have HB2 := Lib.hid (up hXb.out hb2); have c13 := hcF.out w2 HB2.out; have HT := Lib.hid (And.intro hat3 hbel); clear hat3 hbel hb2))
    refine wp_region_held_drew (S := fun w' => w'.cell? ⟨b, o + 13, none⟩ = some (.int .u8 (y.toNat : Int))) (by kernel_rfl) c13 (fun hHeld => ?_)
    refine th 0 ?_
    go_frame
    refine th 2 ?_
    go_frame
    refine th 4 ?_
    go_frame
    refine th 5 ?_
    go_frame
    refine th 6 ?_
    go_frame
    refine th 7 ?_
    go_frame
    refine th 8 ?_
    go_frame
    refine wpAnyH_ready (rs := [1]) (by kernel_rfl) (by simp) (AllReadyH.cons (o := ⟨some 31, .call { callee := .value (.func 77), args := #[.tmp 30, .const (.int .i64 0)], argTypes := #[22, 3] }, _, _, _, none⟩) rfl (fun K hK => ?_) AllReadyH.nil)
    rw [if_pos (by kernel_rfl)]
    go_simp
    refine (hN0.out _ (up_drew HB2.out)).mono ?_
    rintro _ wx ⟨rfl, rfl⟩
    dsimp only
    refine hK.out _ _ (c13) (fun _ => ?_)
    clear hK K
    try go_frame
    refine wpAnyH_ready (rs := [3]) (by kernel_rfl) (by simp) (AllReadyH.cons (o := ⟨some 33, .call { callee := .value (.func 77), args := #[.tmp 32, .const (.int .i64 2)], argTypes := #[22, 3] }, _, _, _, none⟩) rfl (fun K hK => ?_) AllReadyH.nil)
    rw [if_pos (by kernel_rfl)]
    go_simp
    refine (hN2.out _ (up_drew HB2.out)).mono ?_
    rintro _ wx ⟨rfl, rfl⟩
    dsimp only
    refine hK.out _ _ (c13) (fun _ => ?_)
    clear hK K
    try go_frame
    refine th 9 (v := .agg D.toArray) ?_ (hy := fun wy hSw => by exact exec_bld5 (k1 := 0) (k2 := 1) (k3 := 2) (k4 := 3) (k5 := 5) (a1 := .tmp 31) (a2 := .tmp 33) (a3 := .tmp 36) (a4 := .const (.int .i64 16)) (a5 := .tmp 38) rfl (u1 := .int .u16 (q0 : Int)) (u2 := .int .u16 (q2 : Int)) (u3 := .int .u8 (y.toNat : Int)) (u4 := .int .i64 16) (u5 := .int .i64 (k : Int)) rfl rfl rfl rfl rfl (hbt _))
    go_frame
    refine wpAnyH_ready (rs := [10]) (by kernel_rfl) (by simp) (AllReadyH.cons (o := ⟨none, .store 35 (.tmp 4) (.tmp 39), _, _, _, none⟩) rfl (fun K hK => ?_) AllReadyH.nil)
    rw [if_pos (by kernel_rfl)]
    refine wp_skip w3 (exec_store rfl (vx := .pointer (some ⟨w.heap.size + 1, 0, none⟩)) rfl (vy := .agg D.toArray) rfl hst) ?_
    refine hK.out _ _ (hcF.out _ HT.out.2) (fun _ => ?_)
    clear hK K
    try go_frame
    refine th 11 ?_
    go_frame
    refine wpAnyH_done (by kernel_rfl) ?_ _
    go_wp2_with fail
    exact bodyPost_ret (ret_sg (p := 4) (q := 5) (by kernel_rfl) rfl HT.out.1 rfl) rfl ⟨by rw [← HYC.out]; rfl, HT.out.2⟩
set_option maxRecDepth 100000 in
set_option maxHeartbeats 1000000 in
theorem sgUdp_any (h : Hd) (hw : h.Wide) {A : Option Addr} {c : Nat} {l : List UInt8} {w : World} (hr : Rd w w.heap.size (.slice A l.length c) (cellsB l)) (hl : l.length ≤ 100000) :
    Calls Try.prog 68 #[hdV h, .slice A l.length c] w fun e w' => e = .returned (.tuple #[sgV (if udpE h l = 0 then udpHd l else Sg.none), .int .i64 ((udpE h l : Nat) : Int)]) ∧ Below w.heap.size w w' := by
  have st := SgStart.of h w
  obtain ⟨X, hX⟩ : ∃ X, X = (w.alloc (.cells (hdC h).toArray 33)).alloc (.cells (sgC Sg.none).toArray 35) := ⟨_, rfl⟩
  rw [← hX] at st
  have hat : HdAt X w.heap.size h := st.head
  have hrg : X.rangeAt w.heap.size 0 (hdC h) := rangeAt_block hat fun j u hu => by rw [Nat.zero_add]; exact hu
  have c0 := hdC_six hat
  have hi := info_hd hw
  have hrX := (hr.below st.below).more st.below.size
  have hG : Hid (Calls Try.prog 76 #[.agg (hdC h).toArray, .slice A l.length c] X fun e w' => e = .returned (.bool (sgOk h l)) ∧ Below X.heap.size X w') := Lib.hid (sgGood_any h hw hrX hl)
  have hW := Lib.hid (sgWhole_any hrX)
  have hN : 8 ≤ l.length → ∀ W, Below w.heap.size w W → ∀ (a : Nat) (aa : Int), aa = (a : Int) → a + 2 ≤ 8 → Calls Try.prog 77 #[.slice A l.length c, .int .i64 aa] W fun e w' => e = .returned (.int .u16 ((num2 l a : Nat) : Int)) ∧ W = w' := fun h8 W hW a aa ha h4 => by
    subst ha
    exact sgNumber_any (hr.below hW) (by omega)
  have hXb := Lib.hid st.below
  have hz := st.zero
  have hbu := st.build
  clear hr hrX hat
  rw [hdV]
  generalize hZ : sgC Sg.none = Z at st hX hz hbu
  by_cases h1 : udpW l = 0
  · have h8 := udpW_no h1
    have hE : udpE h l = if num2 l 6 = 0 then (if h.six then 4 else 0) else if sgOk h l = true then 0 else 5 := by unfold udpE; rw [if_pos h1]
    rw [h1] at hW
    have hN6 := Lib.hid (fun W hW => hN h8 W hW 6 6 rfl (by omega))
    have hN0 := Lib.hid (fun W hW => hN h8 W hW 0 0 rfl (by omega))
    have hN2 := Lib.hid (fun W hW => hN h8 W hW 2 2 rfl (by omega))
    have hU : udpHd l = ⟨num2 l 0, num2 l 2, 0, 6, decide (num2 l 6 = 0), 8⟩ := rfl
    have hbt := build_sgUdp (num2 l 0) (num2 l 2) (decide (num2 l 6 = 0))
    rw [← hU] at hbt
    have hS1 := st.store (udpHd l)
    unfold sgV at hS1 hbt
    replace hS1 := Lib.hid hS1
    generalize hdC h = Ch at *
    obtain ⟨m, hm⟩ : ∃ m, m = l.length := ⟨_, rfl⟩
    obtain ⟨q0, hq0⟩ : ∃ q, q = num2 l 0 := ⟨_, rfl⟩
    obtain ⟨q2, hq2⟩ : ∃ q, q = num2 l 2 := ⟨_, rfl⟩
    obtain ⟨q6, hq6⟩ : ∃ q, q = num2 l 6 := ⟨_, rfl⟩
    rw [← hq6] at hE
    rw [← hm] at hG hW hN6 hN0 hN2 ⊢
    rw [← hq0] at hN0 hbt
    rw [← hq2] at hN2 hbt
    rw [← hq6] at hN6 hbt
    clear hm hq0 hq2 hq6 h8 hN hl hw hZ hU h1
    generalize udpHd l = Y at *
    by_cases h6 : q6 = 0
    · rw [if_pos h6] at hE
      subst h6
      rw [decide_eq_true (rfl : 0 = 0)] at hbt
      clear hG
      cases hsix : h.six with
      | true =>
        rw [hsix, if_pos rfl] at hE
        rw [hsix] at c0
        rw [hE, if_neg (by decide)]
        have hS0 := st.store Sg.none
        rw [st.none] at hS0
        replace hS0 := Lib.hid hS0
        have hZl := st.len
        have HZ := Lib.hid st.none
        clear st
        obtain ⟨w3, hst, _, hat3, hbel⟩ := hS0.out _ (Below.refl _ _)
        have HT := Lib.hid (And.intro hat3 hbel)
        clear hat3 hbel hS0
        clear hE hS1 hN0 hN2 hbt
        subst hX
        go_enter Try.func68, Try.ntmps68
        go_wp2_with (first
          | (with_reducible refine wpList_alloc_zero (o := ⟨some 4, .alloc 35, _, _, _, _⟩) rfl 35 rfl Z.toArray hz ?_)
          | (go_at_call 78; refine hW.out.mono ?_; rintro _ w1 ⟨rfl, rfl⟩)
          | (go_at_call 77; have hx1 := hN6; clear hx1; refine (hN6.out _ hXb.out).mono ?_; rintro _ wx ⟨rfl, rfl⟩; clear hN6))
        exact bodyPost_ret (ret_sg (p := 4) (q := 5) (by kernel_rfl) rfl HT.out.1 rfl) rfl ⟨by rw [← HZ.out]; rfl, HT.out.2⟩
      | false =>
        rw [hsix, if_neg (by decide)] at hE
        rw [hsix] at c0
        rw [hE, if_pos rfl]
        clear hE
        have hSx := hS1
        obtain ⟨w3, hst, _, hat3, hbel⟩ := hSx.out _ (Below.refl _ _)
        have HT := Lib.hid (And.intro hat3 hbel)
        clear hat3 hbel hS1 st hSx
        generalize hYC : sgC Y = D at *
        have hDl : D.length = 6 := by rw [← hYC]; rfl
        have HYC := Lib.hid hYC
        clear hYC
        subst hX
        go_enter Try.func68, Try.ntmps68
        go_wp2_with (first
          | (with_reducible refine wpList_alloc_zero (o := ⟨some 4, .alloc 35, _, _, _, _⟩) rfl 35 rfl Z.toArray hz ?_)
          | (go_at_call 78; refine hW.out.mono ?_; rintro _ w1 ⟨rfl, rfl⟩)
          | (go_at_call 77; have hx1 := hN6; clear hx1; refine (hN6.out _ hXb.out).mono ?_; rintro _ wx ⟨rfl, rfl⟩; clear hN6)
          | (go_at_call 77; have hx1 := hN0; clear hx1; refine (hN0.out _ hXb.out).mono ?_; rintro _ wx ⟨rfl, rfl⟩; clear hN0)
          | (go_at_call 77; have hx1 := hN2; clear hx1; refine (hN2.out _ hXb.out).mono ?_; rintro _ wx ⟨rfl, rfl⟩; clear hN2)
          | ((with_reducible refine wpList_run (o := ⟨some 37, .build 35 #[(0, .tmp 33), (1, .tmp 35), (3, .const (.int .i64 6)), (4, .tmp 36), (5, .const (.int .i64 8))], _, _, _, _⟩) rfl (.agg D.toArray) ((w.alloc (.cells Ch.toArray 33)).alloc (.cells Z.toArray 35)) ?_ ?_); exact exec_bld5 (k1 := 0) (k2 := 1) (k3 := 3) (k4 := 4) (k5 := 5) rfl (u1 := .int .u16 (q0 : Int)) (u2 := .int .u16 (q2 : Int)) (u3 := .int .i64 6) (u4 := .bool true) (u5 := .int .i64 8) rfl rfl rfl rfl rfl (hbt _)))
        exact bodyPost_ret (ret_sg (p := 4) (q := 5) (by kernel_rfl) rfl HT.out.1 rfl) rfl ⟨by rw [← HYC.out]; rfl, HT.out.2⟩
    · rw [if_neg h6] at hE
      rw [decide_eq_false h6] at hbt
      have k6 := beq_zero h6
      cases hok : sgOk h l with
      | true =>
        rw [hok, if_pos rfl] at hE
        rw [hok] at hG
        rw [hE, if_pos rfl]
        clear hE st
        have hSx := hS1
        generalize hYC : sgC Y = D at *
        have hDl : D.length = 6 := by rw [← hYC]; rfl
        have HYC := Lib.hid hYC
        clear hYC
        subst hX
        clear hS1
        go_enter Try.func68, Try.ntmps68
        go_wp2_with (first
          | (with_reducible refine wpList_alloc_zero (o := ⟨some 4, .alloc 35, _, _, _, _⟩) rfl 35 rfl Z.toArray hz ?_)
          | (go_at_call 78; refine hW.out.mono ?_; rintro _ w1 ⟨rfl, rfl⟩)
          | (go_at_call 77; have hx1 := hN6; clear hx1; refine (hN6.out _ hXb.out).mono ?_; rintro _ wx ⟨rfl, rfl⟩; clear hN6)
          | ((with_reducible refine wpList_load_mid_g (op := ⟨some 26, .load 33 (.tmp 2), _, _, _, _⟩) (by kernel_rfl) 33 (.tmp 2) rfl w.heap.size 0 ?_ Ch _ hrg Try.underlying33 rfl hi ?_); exact rfl)
          | (go_at_call 76; refine hG.out.mono ?_; rintro _ w2 ⟨rfl, hb2⟩; obtain ⟨w3, hst, _, hat3, hbel⟩ := hSx.out _ hb2; have HB2 := Lib.hid (up hXb.out hb2); have HT := Lib.hid (And.intro hat3 hbel); clear hat3 hbel hb2)
          | (go_at_call 77; have hx1 := hN0; clear hx1; refine (hN0.out _ HB2.out).mono ?_; rintro _ wx ⟨rfl, rfl⟩; clear hN0)
          | (go_at_call 77; have hx1 := hN2; clear hx1; refine (hN2.out _ HB2.out).mono ?_; rintro _ wx ⟨rfl, rfl⟩; clear hN2)
          | ((with_reducible refine wpList_run (o := ⟨some 37, .build 35 #[(0, .tmp 33), (1, .tmp 35), (3, .const (.int .i64 6)), (4, .tmp 36), (5, .const (.int .i64 8))], _, _, _, _⟩) rfl (.agg D.toArray) w2 ?_ ?_); exact exec_bld5 (k1 := 0) (k2 := 1) (k3 := 3) (k4 := 4) (k5 := 5) rfl (u1 := .int .u16 (q0 : Int)) (u2 := .int .u16 (q2 : Int)) (u3 := .int .i64 6) (u4 := .bool false) (u5 := .int .i64 8) rfl rfl rfl rfl rfl (hbt _)))
        exact bodyPost_ret (ret_sg (p := 4) (q := 5) (by kernel_rfl) rfl HT.out.1 rfl) rfl ⟨by rw [← HYC.out]; rfl, HT.out.2⟩
      | false =>
        rw [hok, if_neg (by decide)] at hE
        rw [hok] at hG
        rw [hE, if_neg (by decide)]
        have hS0 := st.store Sg.none
        rw [st.none] at hS0
        replace hS0 := Lib.hid hS0
        have hZl := st.len
        have HZ := Lib.hid st.none
        clear st
        have hSx := hS0
        clear hE hS1 hS0 hbt
        subst hX
        go_enter Try.func68, Try.ntmps68
        go_wp2_with (first
          | (with_reducible refine wpList_alloc_zero (o := ⟨some 4, .alloc 35, _, _, _, _⟩) rfl 35 rfl Z.toArray hz ?_)
          | (go_at_call 78; refine hW.out.mono ?_; rintro _ w1 ⟨rfl, rfl⟩)
          | (go_at_call 77; have hx1 := hN6; clear hx1; refine (hN6.out _ hXb.out).mono ?_; rintro _ wx ⟨rfl, rfl⟩; clear hN6)
          | ((with_reducible refine wpList_load_mid_g (op := ⟨some 26, .load 33 (.tmp 2), _, _, _, _⟩) (by kernel_rfl) 33 (.tmp 2) rfl w.heap.size 0 ?_ Ch _ hrg Try.underlying33 rfl hi ?_); exact rfl)
          | (go_at_call 76; refine hG.out.mono ?_; rintro _ w2 ⟨rfl, hb2⟩; obtain ⟨w3, hst, _, hat3, hbel⟩ := hSx.out _ hb2; have HB2 := Lib.hid (up hXb.out hb2); have HT := Lib.hid (And.intro hat3 hbel); clear hat3 hbel hb2))
        exact bodyPost_ret (ret_sg (p := 4) (q := 5) (by kernel_rfl) rfl HT.out.1 rfl) rfl ⟨by rw [← HZ.out]; rfl, HT.out.2⟩
  · have hE : udpE h l = udpW l := by unfold udpE; rw [if_neg h1]
    rw [hE, if_neg h1]
    have k1 := beq_zero h1
    have k2 := bne_zero h1
    generalize udpW l = E at *
    generalize hdC h = Ch at *
    generalize l.length = m at *
    have hS0 := st.store Sg.none
    rw [st.none] at hS0
    replace hS0 := Lib.hid hS0
    have hZl := st.len
    have HZ := Lib.hid st.none
    clear st
    obtain ⟨w3, hst, _, hat3, hbel⟩ := hS0.out _ (Below.refl _ _)
    have HT := Lib.hid (And.intro hat3 hbel)
    clear hat3 hbel hS0
    clear hE hN hG h1 hl hw hZ
    subst hX
    go_enter Try.func68, Try.ntmps68
    go_wp2_with (first
      | (with_reducible refine wpList_alloc_zero (o := ⟨some 4, .alloc 35, _, _, _, _⟩) rfl 35 rfl Z.toArray hz ?_)
      | (go_at_call 78; refine hW.out.mono ?_; rintro _ w1 ⟨rfl, rfl⟩))
    exact bodyPost_ret (ret_sg (p := 4) (q := 5) (by kernel_rfl) rfl HT.out.1 rfl) rfl ⟨by rw [← HZ.out]; rfl, HT.out.2⟩
def hdE (h : Hd) (b : List UInt8) : Nat := if h.proto = 6 then tcpE h b else if h.proto = 17 then udpE h b else 6
theorem sgErr_parts (h : Hd) (b : List UInt8) : sgErr h b = if hdE h b = 0 then sgPorts b else hdE h b := by
  unfold sgErr hdE sgTcp sgUdp tcpE udpE udpW
  by_cases h6 : h.proto = 6
  · rw [if_pos h6, if_pos h6]
    repeat' split
    all_goals first | rfl | omega
  · rw [if_neg h6, if_neg h6]
    by_cases h17 : h.proto = 17
    · rw [if_pos h17, if_pos h17]
      repeat' split
      all_goals first | rfl | omega
    · rw [if_neg h17, if_neg h17, if_neg (by omega)]
theorem u8_ne {p : UInt8} {k : UInt8} (h : p ≠ k) : ((p.toNat : Int) == (k.toNat : Int)) = false := by
  have : p.toNat ≠ k.toNat := fun e => h (UInt8.toNat_inj.1 e)
  simp; omega
set_option maxRecDepth 100000 in
set_option maxHeartbeats 1000000 in
theorem sgHead_any (h : Hd) (hw : h.Wide) {A : Option Addr} {c : Nat} {l : List UInt8} {w : World} (hr : Rd w w.heap.size (.slice A l.length c) (cellsB l)) (hl : l.length ≤ 100000) :
    Calls Try.prog 54 #[hdV h, .slice A l.length c] w fun e w' => e = .returned (.tuple #[sgV (if hdE h l = 0 then sgHd h l else Sg.none), .int .i64 ((hdE h l : Nat) : Int)]) ∧ Below w.heap.size w w' := by
  have st := SgStart.of h w
  obtain ⟨X, hX⟩ : ∃ X, X = (w.alloc (.cells (hdC h).toArray 33)).alloc (.cells (sgC Sg.none).toArray 35) := ⟨_, rfl⟩
  rw [← hX] at st
  have hat : HdAt X w.heap.size h := st.head
  have c1 := hdC_proto hat
  unfold HdAt at hat
  have hi := info_hdA hw
  have hXb := Lib.hid st.below
  have hrX := (hr.below st.below).more st.below.size
  have hT := sgTcp_any h hw hrX hl
  have hU := sgUdp_any h hw hrX hl
  have hz := st.zero
  have hbu := st.build
  have hS := Lib.hid st.store
  clear hr hrX hw
  rw [hdV] at hT hU ⊢
  by_cases h6 : h.proto = 6
  · have hE : hdE h l = tcpE h l := by unfold hdE; rw [if_pos h6]
    have hH : sgHd h l = tcpHd l := by unfold sgHd tcpHd; rw [if_pos h6]
    rw [hE, hH]
    have c1' : X.cell? ⟨w.heap.size, 1, none⟩ = some (.int .u8 6) := by rw [c1, h6]; rfl
    clear hE hH hU c1 h6
    generalize (if tcpE h l = 0 then tcpHd l else Sg.none) = Y at *
    generalize tcpE h l = E at *
    generalize l.length = m at *
    generalize hZ : sgC Sg.none = Z at *
    unfold sgV at hT hS ⊢
    generalize hYC : sgC Y = D at *
    have hDl : D.length = 6 := by rw [← hYC]; rfl
    replace hS := Lib.hid (hS.out Y)
    rw [hYC] at hS
    have HYC := Lib.hid hYC
    have HT := Lib.hid hT
    generalize (hdC h).toArray = C at *
    clear hT hYC hZ st hl
    subst hX
    go_enter Try.func54, Try.ntmps54
    go_wp2_with (first
      | (with_reducible refine wpList_alloc_zero (o := ⟨some 4, .alloc 35, _, _, _, _⟩) rfl 35 rfl Z.toArray hz ?_)
      | ((with_reducible refine wpList_load_row (o := ⟨some 10, .load 33 (.tmp 2), _, _, _, _⟩) rfl 33 (.tmp 2) rfl w.heap.size ?_ 33 C (0, 0) _ hat Try.underlying33 rfl hi ?_); exact rfl)
      | (go_at_call 67; refine HT.out.mono ?_; rintro _ w2 ⟨rfl, hb2⟩; obtain ⟨w3, hst, _, hat3, hbel⟩ := hS.out _ hb2; have HR := Lib.hid (And.intro hat3 hbel); clear hat3 hbel hb2))
    exact bodyPost_ret (ret_sg (p := 4) (q := 5) (by kernel_rfl) rfl HR.out.1 rfl) rfl ⟨by rw [← HYC.out]; rfl, HR.out.2⟩
  · have n6 := u8_ne h6
    by_cases h17 : h.proto = 17
    · have hE : hdE h l = udpE h l := by unfold hdE; rw [if_neg h6, if_pos h17]
      have hH : sgHd h l = udpHd l := by unfold sgHd udpHd; rw [if_neg h6]
      rw [hE, hH]
      have c1' : X.cell? ⟨w.heap.size, 1, none⟩ = some (.int .u8 17) := by rw [c1, h17]; rfl
      clear hE hH hT c1 h6 h17 n6
      generalize (if udpE h l = 0 then udpHd l else Sg.none) = Y at *
      generalize udpE h l = E at *
      generalize l.length = m at *
      generalize hZ : sgC Sg.none = Z at *
      unfold sgV at hU hS ⊢
      generalize hYC : sgC Y = D at *
      have hDl : D.length = 6 := by rw [← hYC]; rfl
      replace hS := Lib.hid (hS.out Y)
      rw [hYC] at hS
      have HYC := Lib.hid hYC
      have HT := Lib.hid hU
      generalize (hdC h).toArray = C at *
      clear hU hYC hZ st hl
      subst hX
      go_enter Try.func54, Try.ntmps54
      go_wp2_with (first
        | (with_reducible refine wpList_alloc_zero (o := ⟨some 4, .alloc 35, _, _, _, _⟩) rfl 35 rfl Z.toArray hz ?_)
        | ((with_reducible refine wpList_load_row (o := ⟨some 17, .load 33 (.tmp 2), _, _, _, _⟩) rfl 33 (.tmp 2) rfl w.heap.size ?_ 33 C (0, 0) _ hat Try.underlying33 rfl hi ?_); exact rfl)
        | (go_at_call 68; refine HT.out.mono ?_; rintro _ w2 ⟨rfl, hb2⟩; obtain ⟨w3, hst, _, hat3, hbel⟩ := hS.out _ hb2; have HR := Lib.hid (And.intro hat3 hbel); clear hat3 hbel hb2))
      exact bodyPost_ret (ret_sg (p := 4) (q := 5) (by kernel_rfl) rfl HR.out.1 rfl) rfl ⟨by rw [← HYC.out]; rfl, HR.out.2⟩
    · have n17 := u8_ne h17
      have hE : hdE h l = 6 := by unfold hdE; rw [if_neg h6, if_neg h17]
      rw [hE, if_neg (by decide)]
      have hS0 := hS.out Sg.none
      rw [st.none] at hS0
      have hZl := st.len
      generalize l.length = m at *
      generalize hZ : sgC Sg.none = Z at *
      have HZ := Lib.hid hZ
      obtain ⟨w3, hst, _, hat3, hbel⟩ := hS0 _ (Below.refl _ _)
      have HT := Lib.hid (And.intro hat3 hbel)
      have k6 : ((h.proto.toNat : Int) == 6) = false := n6
      have k17 : ((h.proto.toNat : Int) == 17) = false := n17
      generalize h.proto.toNat = p at *
      generalize (hdC h).toArray = C at *
      clear hat3 hbel hS hS0 hT hU hE hZ st hl h6 h17 n6 n17
      subst hX
      go_enter Try.func54, Try.ntmps54
      go_wp2_with (first
        | (with_reducible refine wpList_alloc_zero (o := ⟨some 4, .alloc 35, _, _, _, _⟩) rfl 35 rfl Z.toArray hz ?_))
      exact bodyPost_ret (ret_sg (p := 4) (q := 5) (by kernel_rfl) rfl HT.out.1 rfl) rfl ⟨by rw [← HZ.out]; rfl, HT.out.2⟩
set_option maxRecDepth 100000 in
set_option maxHeartbeats 1000000 in
theorem sgRead_any (h : Hd) (hw : h.Wide) {A : Option Addr} {c : Nat} {l : List UInt8} {w : World} (hr : Rd w w.heap.size (.slice A l.length c) (cellsB l)) (hl : l.length ≤ 100000) :
    Calls Try.prog 42 #[hdV h, .slice A l.length c] w fun e w' => e = .returned (.tuple #[sgV (sgRead h l), .int .i64 ((sgErr h l : Nat) : Int)]) ∧ Below w.heap.size w w' := by
  have st := SgStart.of h w
  obtain ⟨X, hX⟩ : ∃ X, X = (w.alloc (.cells (hdC h).toArray 33)).alloc (.cells (sgC Sg.none).toArray 35) := ⟨_, rfl⟩
  rw [← hX] at st
  have hat : HdAt X w.heap.size h := st.head
  unfold HdAt at hat
  have hi := info_hdA hw
  have hXb := Lib.hid st.below
  have hXs := Lib.hid st.size
  have hrX := (hr.below st.below).more st.below.size
  have hH := sgHead_any h hw hrX hl
  have hz := st.zero
  have hbu := st.build
  have hS := Lib.hid st.store
  have hZl := st.len
  clear hr hrX hw
  rw [hdV] at hH ⊢
  have hsrc : (sgHd h l).src = num2 l 0 ∧ (sgHd h l).dst = num2 l 2 := by unfold sgHd; split <;> exact ⟨rfl, rfl⟩
  have hE := sgErr_parts h l
  obtain ⟨y, hy⟩ : ∃ y, y = if hdE h l = 0 then sgHd h l else Sg.none := ⟨_, rfl⟩
  rw [← hy] at hH
  have hP : Hid (∀ W, Calls Try.prog 55 #[sgV y] W fun e w' => e = .returned (.bool (y.src != 0 && y.dst != 0)) ∧ Below W.heap.size W w') := Lib.hid fun W => sgPorted_any y W
  -- The head is laid into a block of its own.
  have hS2 : Hid (∀ W : World, ∃ W', (storeCells ⟨W.heap.size, 0, none⟩ (sgC y)).run Try.prog (W.alloc (.cells (sgC Sg.none).toArray 35)) = .ok () W' ∧ SgAt W' W.heap.size y ∧ Below W.heap.size W W') := Lib.hid fun W => by
    obtain ⟨W', _, hat, hgr, _, hsc⟩ := store_sg (w := W.alloc (.cells (sgC Sg.none).toArray 35)) (g := W.heap.size) (a := Sg.none) (b := y) (heap_alloc_last W _)
    exact ⟨W', hsc, hat, grown_below (up_alloc (Below.refl _ _) _) hgr (Nat.le_refl _)⟩
  have hyi := info_sg y
  by_cases h0 : hdE h l = 0
  · rw [if_pos h0] at hE hy
    rw [h0] at hH
    by_cases hp : num2 l 0 = 0 ∨ num2 l 2 = 0
    · have hb : (y.src != 0 && y.dst != 0) = false := by
        rw [hy, hsrc.1, hsrc.2]
        rcases hp with h | h <;> simp [h]
      have hE4 : sgErr h l = 4 := by rw [hE]; unfold sgPorts; rw [if_pos hp]
      have hR : sgRead h l = Sg.none := by unfold sgRead; rw [hE4]; rfl
      rw [hb] at hP
      rw [hE4, hR]
      have hS0 := hS.out Sg.none
      clear hE4 hR hb hE hy hsrc h0 hp hS
      unfold sgV at *
      replace hS0 := Lib.hid hS0
      have hyr : Hid (∀ W, SgAt W W.heap.size y → True) := Lib.hid fun _ _ => trivial
      generalize hZ : sgC Sg.none = Z at *
      have HZ := Lib.hid hZ
      generalize hYC : sgC y = D at *
      have hDl : D.length = 6 := by rw [← hYC]; rfl
      have hAt : Hid (∀ W g, SgAt W g y → W.heap[g]? = some (.cells D.toArray 35 (0, 0)) ∧ W.rangeAt g 0 D) := Lib.hid fun W g h => by
        unfold SgAt at h
        rw [hYC] at h
        exact ⟨h, rangeAt_block h fun j u hu => by rw [Nat.zero_add]; exact hu⟩
      generalize (hdC h).toArray = C at *
      generalize l.length = m at *
      clear st hZ hYC hl hyr
      subst hX
      go_enter Try.func42, Try.ntmps42
      go_wp2_with (first
        | (with_reducible refine wpList_alloc_zero (o := ⟨some 4, .alloc 35, _, _, _, _⟩) rfl 35 rfl Z.toArray hz ?_)
        | ((with_reducible refine wpList_load_row (o := ⟨some 9, .load 33 (.tmp 2), _, _, _, _⟩) rfl 33 (.tmp 2) rfl w.heap.size ?_ 33 C (0, 0) _ hat Try.underlying33 rfl hi ?_); exact rfl)
        | (go_at_call 54; refine hH.mono ?_; rintro _ w1 ⟨rfl, hb1⟩; clear hH; obtain ⟨w2, hst2, hat2, hb2⟩ := hS2.out w1; have HB2 := Lib.hid (up hb1 hb2); have hb2s := Lib.hid hb1; obtain ⟨_, hrg⟩ := hAt.out _ _ hat2; clear hb1 hb2 hat2)
        | (with_reducible refine wpList_alloc_zero (o := ⟨some 6, .alloc 35, _, _, _, _⟩) rfl 35 rfl Z.toArray hz ?_)
        | ((with_reducible refine wpList_load_mid_g (op := ⟨some 17, .load 35 (.tmp 6), _, _, _, _⟩) (by kernel_rfl) 35 (.tmp 6) rfl w1.heap.size 0 ?_ D _ hrg Try.underlying35 rfl hyi ?_); exact rfl)
        | (go_at_call 55; refine (hP.out _).mono ?_; rintro _ w4 ⟨rfl, hb4⟩; obtain ⟨w3, hst, _, hat3, hbel⟩ := hS0.out _ (up HB2.out hb4); have HR := Lib.hid (And.intro hat3 hbel); clear hat3 hbel hb4))
      exact bodyPost_ret (ret_sg (p := 4) (q := 5) (by kernel_rfl) rfl HR.out.1 rfl) rfl ⟨by rw [← HZ.out]; rfl, HR.out.2⟩
    · have hb : (y.src != 0 && y.dst != 0) = true := by
        rw [hy, hsrc.1, hsrc.2]
        simp
        omega
      have hE0 : sgErr h l = 0 := by rw [hE]; unfold sgPorts; rw [if_neg hp]
      have hR : sgRead h l = y := by unfold sgRead; rw [if_pos hE0, hy]
      rw [hb] at hP
      rw [hE0, hR]
      have hS0 := hS.out y
      clear hE0 hR hb hE hy hsrc h0 hp hS
      unfold sgV at *
      replace hS0 := Lib.hid hS0
      generalize hZ : sgC Sg.none = Z at *
      have HZ := Lib.hid hZ
      generalize hYC : sgC y = D at *
      have hDl : D.length = 6 := by rw [← hYC]; rfl
      have HD := Lib.hid hYC
      have hAt : Hid (∀ W g, SgAt W g y → W.heap[g]? = some (.cells D.toArray 35 (0, 0)) ∧ W.rangeAt g 0 D) := Lib.hid fun W g h => by
        unfold SgAt at h
        rw [hYC] at h
        exact ⟨h, rangeAt_block h fun j u hu => by rw [Nat.zero_add]; exact hu⟩
      generalize (hdC h).toArray = C at *
      generalize l.length = m at *
      have hyA : (Try.prog.info? 35).map (·.size) = some D.toArray.size := by rw [List.size_toArray]; exact hyi
      clear st hZ hYC hl hZl
      subst hX
      go_enter Try.func42, Try.ntmps42
      go_wp2_with (first
        | (with_reducible refine wpList_alloc_zero (o := ⟨some 4, .alloc 35, _, _, _, _⟩) rfl 35 rfl Z.toArray hz ?_)
        | ((with_reducible refine wpList_load_row (o := ⟨some 9, .load 33 (.tmp 2), _, _, _, _⟩) rfl 33 (.tmp 2) rfl w.heap.size ?_ 33 C (0, 0) _ hat Try.underlying33 rfl hi ?_); exact rfl)
        | (go_at_call 54; refine hH.mono ?_; rintro _ w1 ⟨rfl, hb1⟩; clear hH; obtain ⟨w2, hst2, hat2, hb2⟩ := hS2.out w1; have HB2 := Lib.hid (up hb1 hb2); have hb2s := Lib.hid hb1; obtain ⟨_, hrg⟩ := hAt.out _ _ hat2; have HA2 := Lib.hid hat2; have HL2 := Lib.hid (show w1.heap.size < w2.heap.size from (Array.getElem?_eq_some_iff.1 hat2).1); clear hb1 hb2 hat2)
        | (with_reducible refine wpList_alloc_zero (o := ⟨some 6, .alloc 35, _, _, _, _⟩) rfl 35 rfl Z.toArray hz ?_)
        | ((with_reducible refine wpList_load_mid_g (op := ⟨some 17, .load 35 (.tmp 6), _, _, _, _⟩) (by kernel_rfl) 35 (.tmp 6) rfl w1.heap.size 0 ?_ D _ hrg Try.underlying35 rfl hyi ?_); exact rfl)
        | (go_at_call 55; refine (hP.out _).mono ?_; rintro _ w4 ⟨rfl, hb4⟩; obtain ⟨w3, hst, _, hat3, hbel⟩ := hS0.out _ (up HB2.out hb4); have HR := Lib.hid (And.intro hat3 hbel); have hat4 := (hAt.out _ _ (HA2.out.below hb4 HL2.out)).1; clear hat3 hbel hb4)
        | ((with_reducible refine wpList_load_row (o := ⟨some 25, .load 35 (.tmp 6), _, _, _, _⟩) rfl 35 (.tmp 6) rfl w1.heap.size ?_ 35 D.toArray (0, 0) _ hat4 Try.underlying35 rfl hyA ?_); exact rfl))
      exact bodyPost_ret (ret_sg (p := 4) (q := 5) (by kernel_rfl) rfl HR.out.1 rfl) rfl ⟨by rw [← HD.out]; rfl, HR.out.2⟩
  · rw [if_neg h0] at hE hy
    have hR : sgRead h l = Sg.none := by unfold sgRead; rw [if_neg (by omega)]
    rw [hE, hR]
    have k1 := beq_zero h0
    have k2 := bne_zero h0
    have hS0 := hS.out Sg.none
    subst hy
    clear hE hR hsrc h0 hS hP
    unfold sgV at *
    replace hS0 := Lib.hid hS0
    generalize hdE h l = E at *
    generalize hZ : sgC Sg.none = Z at *
    have HZ := Lib.hid hZ
    generalize (hdC h).toArray = C at *
    generalize l.length = m at *
    clear st hZ hl
    subst hX
    go_enter Try.func42, Try.ntmps42
    go_wp2_with (first
      | (with_reducible refine wpList_alloc_zero (o := ⟨some 4, .alloc 35, _, _, _, _⟩) rfl 35 rfl Z.toArray hz ?_)
      | ((with_reducible refine wpList_load_row (o := ⟨some 9, .load 33 (.tmp 2), _, _, _, _⟩) rfl 33 (.tmp 2) rfl w.heap.size ?_ 33 C (0, 0) _ hat Try.underlying33 rfl hi ?_); exact rfl)
      | (go_at_call 54; refine hH.mono ?_; rintro _ w1 ⟨rfl, hb1⟩; clear hH; obtain ⟨w2, hst2, hat2, hb2⟩ := hS2.out w1; have HB2 := Lib.hid (up hb1 hb2); have hb2s := Lib.hid hb1; obtain ⟨w3, hst, _, hat3, hbel⟩ := hS0.out _ HB2.out; have HR := Lib.hid (And.intro hat3 hbel); clear hat3 hbel; clear hb1 hb2 hat2)
      | (with_reducible refine wpList_alloc_zero (o := ⟨some 6, .alloc 35, _, _, _, _⟩) rfl 35 rfl Z.toArray hz ?_))
    exact bodyPost_ret (ret_sg (p := 4) (q := 5) (by kernel_rfl) rfl HR.out.1 rfl) rfl ⟨by rw [← HZ.out]; rfl, HR.out.2⟩
end Go.Proofs.Ytejppekcniehpaa
