/-
  Read's ways: whole, readTCP, readUDP.
-/
import Derived.Test.YtalchhfpdojjjaaSgB
import Derived.Test.YtalchhfpdojjjaaAdC
namespace Go.Proofs.Ytalchhfpdojjjaa
open Go.RowKit
/-- What is wrong with a segment but for its ports. -/
def tcpE (h : Hd) (b : List UInt8) : Nat := if b.length < 20 then 9 else if sgN b < 20 then 4 else if b.length < sgN b then 9 else if sgOk h b = true then 0 else 5
def udpW (b : List UInt8) : Nat := if b.length < 8 then 9 else if num2 b 4 < 8 then 4 else if b.length < num2 b 4 then 9 else if num2 b 4 < b.length then 10 else 0
def udpE (h : Hd) (b : List UInt8) : Nat := if udpW b = 0 then (if num2 b 6 = 0 then (if h.six then 4 else 0) else if sgOk h b = true then 0 else 5) else udpW b
def tcpHd (b : List UInt8) : Sg := ⟨num2 b 0, num2 b 2, b.getD 13 0, 16, false, (sgN b : Nat)⟩
def udpHd (b : List UInt8) : Sg := ⟨num2 b 0, num2 b 2, 0, 6, decide (num2 b 6 = 0), 8⟩
theorem udpW_no {b : List UInt8} (h : udpW b = 0) : 8 ≤ b.length := by
  unfold udpW at h
  split at h
  · omega
  · omega
set_option maxRecDepth 100000 in
theorem sgWhole_any {A : Option Addr} {c : Nat} {l : List UInt8} {w : World} {B : Nat} (hr : Rd w B (.slice A l.length c) (cellsB l)) :
    Calls Try.prog 38 #[.slice A l.length c] w fun e w' => e = .returned (.int .i64 ((udpW l : Nat) : Int)) ∧ w = w' := by
  unfold udpW
  obtain ⟨m, hm⟩ : ∃ m, m = l.length := ⟨_, rfl⟩
  by_cases h1 : m < 8
  · rw [if_pos (by omega), ← hm]
    clear hr hm
    go_enter Try.func38, Try.ntmps38
    go_wp2_with fail
    go_ret
    exact ⟨rfl, rfl⟩
  have Hf := Lib.hid (sgNumber_any hr (a := 4) (by omega))
  rw [if_neg (by omega)]
  have hlt := num2_lt l 4
  obtain ⟨q, hq⟩ : ∃ q, q = num2 l 4 := ⟨_, rfl⟩
  rw [← hq] at Hf hlt ⊢
  rw [← hm] at Hf ⊢
  have hc : IntKind.i64.wrap (q : Int) = (q : Int) := IntWalk.i64_in _ (by omega)
  clear hr hm hq hlt
  by_cases h2 : q < 8
  · rw [if_pos h2]
    go_enter Try.func38, Try.ntmps38
    go_wp2_with (go_at_call 37; refine Hf.out.mono ?_; rintro e w1 ⟨rfl, rfl⟩)
    go_ret
    exact ⟨rfl, rfl⟩
  rw [if_neg h2]
  by_cases h3 : m < q
  · rw [if_pos h3]
    go_enter Try.func38, Try.ntmps38
    go_wp2_with (go_at_call 37; refine Hf.out.mono ?_; rintro e w1 ⟨rfl, rfl⟩)
    go_ret
    exact ⟨rfl, rfl⟩
  rw [if_neg h3]
  by_cases h4 : q < m
  · rw [if_pos h4]
    go_enter Try.func38, Try.ntmps38
    go_wp2_with (go_at_call 37; refine Hf.out.mono ?_; rintro e w1 ⟨rfl, rfl⟩)
    go_ret
    exact ⟨rfl, rfl⟩
  rw [if_neg h4]
  go_enter Try.func38, Try.ntmps38
  go_wp2_with (go_at_call 37; refine Hf.out.mono ?_; rintro e w1 ⟨rfl, rfl⟩)
  go_ret
  exact ⟨rfl, rfl⟩
/-- Where a head is read: the packet's head at g, what is told at g + 1. -/
structure SgStart (h : Hd) (w X : World) (Z : List Value) : Prop where
  size : X.heap.size = w.heap.size + 1 + 1
  head : HdAt X w.heap.size h
  below : Below w.heap.size w X
  store : ∀ (y : Sg) W, Below X.heap.size X W → ∃ W', (storeCells ⟨w.heap.size + 1, 0, none⟩ (sgC y)).run Try.prog W = .ok () W' ∧ (Instr.storeAt 34 (.pointer (some ⟨w.heap.size + 1, 0, none⟩)) (sgV y)).run Try.prog W = .ok () W' ∧ SgAt W' (w.heap.size + 1) y ∧ Below w.heap.size w W'
  zero : ∀ W, (zeroValue 34).run Try.prog W = .ok (.agg Z.toArray) W
  build : ∀ W, (Instr.build 34 #[]).run Try.prog W = .ok (.agg Z.toArray) W
  none : sgC Sg.none = Z
  len : Z.length = 6
theorem SgStart.of (h : Hd) (w : World) : SgStart h w ((w.alloc (.cells (hdC h).toArray 26)).alloc (.cells (sgC Sg.none).toArray 34)) (sgC Sg.none) := by
  have hb := up_alloc (up_alloc (Below.refl w.heap.size w) (.cells (hdC h).toArray 26)) (.cells (sgC Sg.none).toArray 34)
  refine ⟨by simp, heap_alloc_old _ _ (by simp) |>.trans (heap_alloc_last w _), hb, fun y W hW => ?_, zero_sg, build_sg0, rfl, rfl⟩
  have h0 := heap_alloc_last (w.alloc (.cells (hdC h).toArray 26)) (.cells (sgC Sg.none).toArray 34)
  rw [show (w.alloc (.cells (hdC h).toArray 26)).heap.size = w.heap.size + 1 by simp] at h0
  obtain ⟨W', hst, hat, hgr, _, hsc⟩ := store_sg (w := W) (g := w.heap.size + 1) (a := Sg.none) (b := y) ((hW.block _ (by simp)).trans h0)
  exact ⟨W', hsc, hst, hat, grown_below (up hb hW) hgr (by omega)⟩
set_option maxRecDepth 100000 in
set_option maxHeartbeats 1000000 in
theorem sgTcp_any (h : Hd) (hw : h.Wide) {A : Option Addr} {c : Nat} {l : List UInt8} {w : World} (hr : Rd w w.heap.size (.slice A l.length c) (cellsB l)) (hl : l.length ≤ 100000) :
    Calls Try.prog 30 #[hdV h, .slice A l.length c] w fun e w' => e = .returned (.tuple #[sgV (if tcpE h l = 0 then tcpHd l else Sg.none), .int .i64 ((tcpE h l : Nat) : Int)]) ∧ Below w.heap.size w w' := by
  have st := SgStart.of h w
  obtain ⟨X, hX⟩ : ∃ X, X = (w.alloc (.cells (hdC h).toArray 26)).alloc (.cells (sgC Sg.none).toArray 34) := ⟨_, rfl⟩
  rw [← hX] at st
  have hat : HdAt X w.heap.size h := st.head
  unfold HdAt at hat
  have hi := info_hdA hw
  have hXb := Lib.hid st.below
  have hXs := Lib.hid st.size
  have hG : Hid (Calls Try.prog 36 #[.agg (hdC h).toArray, .slice A l.length c] X fun e w' => e = .returned (.bool (sgOk h l)) ∧ Below X.heap.size X w') := Lib.hid (sgGood_any h hw ((hr.below hXb.out).more hXb.out.size) hl)
  have hz := st.zero
  have hbu := st.build
  obtain ⟨m, hm⟩ : ∃ m, m = l.length := ⟨_, rfl⟩
  rw [hdV]
  generalize hZ : sgC Sg.none = Z at st hX hz hbu
  by_cases h1 : m < 20
  · have hE : tcpE h l = 9 := by unfold tcpE; rw [if_pos (by omega)]
    rw [hE, if_neg (by decide), ← hm]
    have hS0 := st.store Sg.none
    rw [st.none] at hS0
    replace hS0 := Lib.hid hS0
    have hZl := st.len
    have HZ := Lib.hid st.none
    clear st
    obtain ⟨w3, hst, _, hat3, hbel⟩ := hS0.out _ (Below.refl _ _)
    have HT := Lib.hid (And.intro hat3 hbel)
    clear hat3 hbel hS0
    clear hr hG hZ hE hm hl hXb hXs hw hat hi
    subst hX
    generalize (hdC h).toArray = C at *
    go_enter Try.func30, Try.ntmps30
    go_wp2_with (first
      | (with_reducible refine wpList_alloc_zero (o := ⟨some 4, .alloc 34, _, _, _, _⟩) rfl 34 rfl Z.toArray hz ?_)
      | ((with_reducible refine wpList_stored (o := ⟨none, .store 34 (.tmp 4) (.tmp 10), _, _, _, none⟩) rfl 34 (.tmp 4) (.tmp 10) rfl (.pointer (some ⟨w.heap.size + 1, 0, none⟩)) (.agg Z.toArray) ?_ ?_ w3 hst ?_); exact rfl; exact rfl))
    exact bodyPost_ret (ret_sg (p := 4) (q := 5) (by kernel_rfl) rfl HT.out.1 rfl) rfl ⟨by rw [← HZ.out]; rfl, HT.out.2⟩
  obtain ⟨b, o, rfl, hb, hc⟩ := hr.addr (by omega)
  have hcell : ∀ W, Below w.heap.size w W → ∀ j (hj : j < l.length), W.cell? ⟨b, o + j, none⟩ = some (.int .u8 ((l[j]).toNat : Int)) := fun W hW j hj => (hW.cell (show b < w.heap.size from hb)).trans (hc j hj)
  have c12 := hcell X st.below 12 (by omega)
  obtain ⟨x, hx⟩ : ∃ x, x = l[12]'(by omega) := ⟨_, rfl⟩
  have hgx : (l.getD 12 0).toNat = x.toNat := by rw [hx, List.getD_eq_getElem?_getD, List.getElem?_eq_getElem (by omega)]; rfl
  rw [← hx] at c12
  have hxl := x.toNat_lt
  obtain ⟨p, hp⟩ : ∃ p, p = x.toNat / 16 := ⟨_, rfl⟩
  have hN : sgN l = p * 4 := by unfold sgN; rw [hgx, hp]
  have k2 : (x.toNat : Int) / 16 = (p : Int) := by omega
  have hp2 : p < 16 := by omega
  have hE : tcpE h l = if p * 4 < 20 then 4 else if m < p * 4 then 9 else if sgOk h l = true then 0 else 5 := by unfold tcpE; rw [if_neg (by omega), hN, hm]
  by_cases h2 : p < 5
  · rw [if_pos (by omega)] at hE
    rw [hE, if_neg (by decide), ← hm]
    have hS0 := st.store Sg.none
    rw [st.none] at hS0
    replace hS0 := Lib.hid hS0
    have hZl := st.len
    have HZ := Lib.hid st.none
    clear st
    obtain ⟨w3, hst, _, hat3, hbel⟩ := hS0.out _ (Below.refl _ _)
    have HT := Lib.hid (And.intro hat3 hbel)
    clear hat3 hbel hS0
    clear hr hG hZ hE hl hXb hXs hw hat hi hcell hc hgx hxl hN hx hp hm
    subst hX
    generalize (hdC h).toArray = C at *
    go_enter Try.func30, Try.ntmps30
    go_wp2_with (first
      | (with_reducible refine wpList_alloc_zero (o := ⟨some 4, .alloc 34, _, _, _, _⟩) rfl 34 rfl Z.toArray hz ?_)
      | ((with_reducible refine wpList_stored (o := ⟨none, .store 34 (.tmp 4) (.tmp 18), _, _, _, none⟩) rfl 34 (.tmp 4) (.tmp 18) rfl (.pointer (some ⟨w.heap.size + 1, 0, none⟩)) (.agg Z.toArray) ?_ ?_ w3 hst ?_); exact rfl; exact rfl))
    exact bodyPost_ret (ret_sg (p := 4) (q := 5) (by kernel_rfl) rfl HT.out.1 rfl) rfl ⟨by rw [← HZ.out]; rfl, HT.out.2⟩
  rw [if_neg (by omega)] at hE
  by_cases h3 : m < p * 4
  · rw [if_pos h3] at hE
    rw [hE, if_neg (by decide), ← hm]
    have hS0 := st.store Sg.none
    rw [st.none] at hS0
    replace hS0 := Lib.hid hS0
    have hZl := st.len
    have HZ := Lib.hid st.none
    clear st
    obtain ⟨w3, hst, _, hat3, hbel⟩ := hS0.out _ (Below.refl _ _)
    have HT := Lib.hid (And.intro hat3 hbel)
    clear hat3 hbel hS0
    clear hr hG hZ hE hl hXb hXs hw hat hi hcell hc hgx hxl hN hx hp hm
    subst hX
    generalize (hdC h).toArray = C at *
    go_enter Try.func30, Try.ntmps30
    go_wp2_with (first
      | (with_reducible refine wpList_alloc_zero (o := ⟨some 4, .alloc 34, _, _, _, _⟩) rfl 34 rfl Z.toArray hz ?_)
      | ((with_reducible refine wpList_stored (o := ⟨none, .store 34 (.tmp 4) (.tmp 24), _, _, _, none⟩) rfl 34 (.tmp 4) (.tmp 24) rfl (.pointer (some ⟨w.heap.size + 1, 0, none⟩)) (.agg Z.toArray) ?_ ?_ w3 hst ?_); exact rfl; exact rfl))
    exact bodyPost_ret (ret_sg (p := 4) (q := 5) (by kernel_rfl) rfl HT.out.1 rfl) rfl ⟨by rw [← HZ.out]; rfl, HT.out.2⟩
  rw [if_neg h3] at hE
  cases hok : sgOk h l with
  | false =>
    rw [hok, if_neg (by decide)] at hE
    rw [hok] at hG
    rw [hE, if_neg (by decide), ← hm]
    rw [← hm] at hG
    have hS0 := st.store Sg.none
    rw [st.none] at hS0
    replace hS0 := Lib.hid hS0
    have hZl := st.len
    have HZ := Lib.hid st.none
    clear st
    clear hr hZ hE hl hXb hXs hw hcell hc hgx hxl hN hx hp hm hok
    subst hX
    generalize (hdC h).toArray = C at *
    go_enter Try.func30, Try.ntmps30
    go_wp2_with (first
      | (with_reducible refine wpList_alloc_zero (o := ⟨some 4, .alloc 34, _, _, _, _⟩) rfl 34 rfl Z.toArray hz ?_)
      | ((with_reducible refine wpList_load_row (o := ⟨some 25, .load 26 (.tmp 2), _, _, _, _⟩) rfl 26 (.tmp 2) rfl w.heap.size ?_ 26 C (0, 0) _ hat Try.underlying26 rfl hi ?_); exact rfl)
      | (go_at_call 36; refine hG.out.mono ?_; rintro _ w2 ⟨rfl, hb2⟩; obtain ⟨w3, hst, _, hat3, hbel⟩ := hS0.out _ hb2; have HT := Lib.hid (And.intro hat3 hbel); clear hat3 hbel hb2)
      | ((with_reducible refine wpList_stored (o := ⟨none, .store 34 (.tmp 4) (.tmp 29), _, _, _, none⟩) rfl 34 (.tmp 4) (.tmp 29) rfl (.pointer (some ⟨w.heap.size + 1, 0, none⟩)) (.agg Z.toArray) ?_ ?_ w3 hst ?_); exact rfl; exact rfl))
    exact bodyPost_ret (ret_sg (p := 4) (q := 5) (by kernel_rfl) rfl HT.out.1 rfl) rfl ⟨by rw [← HZ.out]; rfl, HT.out.2⟩
  | true =>
    rw [hok, if_pos rfl] at hE
    rw [hok] at hG
    have hcF := Lib.hid (fun W hW => hcell W hW 13 (by omega))
    have hNum : Hid (∀ W, Below w.heap.size w W → ∀ (a : Nat) (aa : Int), aa = (a : Int) → a + 2 ≤ 4 → Calls Try.prog 37 #[.slice (some ⟨b, o, none⟩) l.length c, .int .i64 aa] W fun e w' => e = .returned (.int .u16 ((num2 l a : Nat) : Int)) ∧ W = w') := Lib.hid fun W hW a aa ha h4 => by
      subst ha
      exact sgNumber_any (hr.below hW) (by omega)
    obtain ⟨y, hy⟩ : ∃ y, y = l[13]'(by omega) := ⟨_, rfl⟩
    have hgy : l.getD 13 0 = y := by rw [hy, List.getD_eq_getElem?_getD, List.getElem?_eq_getElem (by omega)]; rfl
    rw [← hy] at hcF
    have hT : tcpHd l = ⟨num2 l 0, num2 l 2, y, 16, false, (p * 4 : Nat)⟩ := by unfold tcpHd; rw [hgy, hN]
    obtain ⟨k, hk⟩ : ∃ k, k = p * 4 := ⟨_, rfl⟩
    have hk4 : (p : Int) * 4 = (k : Int) := by omega
    rw [← hk] at hT
    have hbt := build_sgTcp (num2 l 0) (num2 l 2) y (k : Int)
    have hS1 := st.store (tcpHd l)
    rw [← hT] at hbt
    unfold sgV at hS1 hbt ⊢
    replace hS1 := Lib.hid hS1
    rw [hE, if_pos rfl, ← hm]
    rw [← hm] at hG hNum
    obtain ⟨q0, hq0⟩ : ∃ q0, q0 = num2 l 0 := ⟨_, rfl⟩
    obtain ⟨q2, hq2⟩ : ∃ q2, q2 = num2 l 2 := ⟨_, rfl⟩
    have hN0 := Lib.hid (fun W hW => hNum.out W hW 0 0 rfl (by omega))
    have hN2 := Lib.hid (fun W hW => hNum.out W hW 2 2 rfl (by omega))
    rw [← hq0] at hbt hN0
    rw [← hq2] at hbt hN2
    have hw4 : IntKind.i64.wrap ((p : Int) * 4) = (k : Int) := by rw [hk4]; exact IntWalk.i64_in _ (by omega)
    have hw5 : IntKind.i64.wrap (k : Int) = (k : Int) := IntWalk.i64_in _ (by omega)
    have n13 : (13 : Int) < (m : Int) := by omega
    have hge : ¬ m < k := by omega
    have hge5 : (5 : Int) ≤ (p : Int) := by omega
    have hwH := hw
    clear hr hcell hc hgx hxl hN hE hok hx hp hy hgy hT hNum hw hq0 hq2 hm hl h1 h2 h3 hk hZ hi st
    generalize tcpHd l = Y at *
    generalize hYC : sgC Y = D at *
    have HYC := Lib.hid hYC
    subst hX
    have hi := info_hdA hwH
    generalize (hdC h).toArray = C at *
    go_enter Try.func30, Try.ntmps30
    go_wp2_with (first
      | (with_reducible refine wpList_alloc_zero (o := ⟨some 4, .alloc 34, _, _, _, _⟩) rfl 34 rfl Z.toArray hz ?_)
      | ((with_reducible refine wpList_load_row (o := ⟨some 25, .load 26 (.tmp 2), _, _, _, _⟩) rfl 26 (.tmp 2) rfl w.heap.size ?_ 26 C (0, 0) _ hat Try.underlying26 rfl hi ?_); exact rfl)
      | (go_at_call 36; refine hG.out.mono ?_; rintro _ w2 ⟨rfl, hb2⟩; obtain ⟨w3, _, hst, hat3, hbel⟩ := hS1.out _ (up_drew hb2); have HB2 := Lib.hid (up hXb.out hb2); have c13 := hcF.out w2 HB2.out; have HT := Lib.hid (And.intro hat3 hbel); clear hat3 hbel hb2))
    refine wp_region_held_drew (S := fun w' => w'.cell? ⟨b, o + 13, none⟩ = some (.int .u8 (y.toNat : Int))) (by kernel_rfl) c13 (fun hHeld => ?_)
    refine th 0 ?_
    go_frame
    refine th 2 ?_
    go_frame
    refine th 4 ?_
    go_frame
    refine th 5 ?_
    go_frame
    refine th 6 ?_
    go_frame
    refine th 7 ?_
    go_frame
    refine th 8 ?_
    go_frame
    refine wpAnyH_ready (rs := [1]) (by kernel_rfl) (by simp) (AllReadyH.cons (o := ⟨some 31, .call { callee := .value (.func 37), args := #[.tmp 30, .const (.int .i64 0)], argTypes := #[27, 3] }, _, _, _, none⟩) rfl (fun K hK => ?_) AllReadyH.nil)
    rw [if_pos (by kernel_rfl)]
    go_simp
    refine (hN0.out _ (up_drew HB2.out)).mono ?_
    rintro _ wx ⟨rfl, rfl⟩
    dsimp only
    refine hK.out _ _ (c13) (fun _ => ?_)
    clear hK K
    try go_frame
    refine wpAnyH_ready (rs := [3]) (by kernel_rfl) (by simp) (AllReadyH.cons (o := ⟨some 33, .call { callee := .value (.func 37), args := #[.tmp 32, .const (.int .i64 2)], argTypes := #[27, 3] }, _, _, _, none⟩) rfl (fun K hK => ?_) AllReadyH.nil)
    rw [if_pos (by kernel_rfl)]
    go_simp
    refine (hN2.out _ (up_drew HB2.out)).mono ?_
    rintro _ wx ⟨rfl, rfl⟩
    dsimp only
    refine hK.out _ _ (c13) (fun _ => ?_)
    clear hK K
    try go_frame
    refine th 9 (v := .agg D.toArray) ?_ (hy := fun wy hSw => by exact exec_bld5 (k1 := 0) (k2 := 1) (k3 := 2) (k4 := 3) (k5 := 5) (a1 := .tmp 31) (a2 := .tmp 33) (a3 := .tmp 36) (a4 := .const (.int .i64 16)) (a5 := .tmp 38) rfl (u1 := .int .u16 (q0 : Int)) (u2 := .int .u16 (q2 : Int)) (u3 := .int .u8 (y.toNat : Int)) (u4 := .int .i64 16) (u5 := .int .i64 (k : Int)) rfl rfl rfl rfl rfl (hbt _))
    go_frame
    refine wpAnyH_ready (rs := [10]) (by kernel_rfl) (by simp) (AllReadyH.cons (o := ⟨none, .store 34 (.tmp 4) (.tmp 39), _, _, _, none⟩) rfl (fun K hK => ?_) AllReadyH.nil)
    rw [if_pos (by kernel_rfl)]
    refine wp_skip w3 (exec_store rfl (vx := .pointer (some ⟨w.heap.size + 1, 0, none⟩)) rfl (vy := .agg D.toArray) rfl hst) ?_
    refine hK.out _ _ (hcF.out _ HT.out.2) (fun _ => ?_)
    clear hK K
    try go_frame
    refine th 11 ?_
    go_frame
    refine wpAnyH_done (by kernel_rfl) ?_ _
    go_wp2_with fail
    exact bodyPost_ret (ret_sg (p := 4) (q := 5) (by kernel_rfl) rfl HT.out.1 rfl) rfl ⟨by rw [← HYC.out]; rfl, HT.out.2⟩
end Go.Proofs.Ytalchhfpdojjjaa
