/-
  Small functions of package seg: number, ported, Pseudo, good.
-/
import Derived.Test.YtejppekcniehpaaSgA
import Derived.Test.YtejppekcniehpaaAdC
import Derived.Test.YtejppekcniehpaaNumC
import Derived.Test.YtejppekcniehpaaInetB
import Derived.Test.YtejppekcniehpaaCuts
namespace Go.Proofs.Ytejppekcniehpaa
open Go.RowKit
theorem mine_of {w' : World} {b : Nat} {e : Ending} {l : List UInt8} {Z : Prop} (h : ∃ v, e = .returned v ∧ Mine w' b 5 v (cellsB l) ∧ Z) : ∃ A n c, e = .returned (.slice A n c) ∧ Mine w' b 5 (.slice A n c) (cellsB l) ∧ Z := by
  obtain ⟨v, rfl, hv, hz⟩ := h
  obtain ⟨A, c, rfl, _⟩ := hv.rd.bytes
  exact ⟨A, _, c, rfl, hv, hz⟩
theorem rd_of {w' : World} {b : Nat} {e : Ending} {l : List UInt8} {Z : Prop} (h : ∃ v, e = .returned v ∧ Mine w' b 5 v (cellsB l) ∧ Z) : ∃ A n c, e = .returned (.slice A n c) ∧ Rd w' w'.heap.size (.slice A n c) (cellsB l) ∧ Z := by
  obtain ⟨A, n, c, e, h, z⟩ := mine_of h
  exact ⟨A, n, c, e, h.rd, z⟩
set_option maxRecDepth 100000 in
theorem sgNumber_any {A : Option Addr} {c : Nat} {l : List UInt8} {w : World} {B : Nat} (hr : Rd w B (.slice A l.length c) (cellsB l)) {a : Nat} (h : a + 2 ≤ l.length) :
    Calls Try.prog 77 #[.slice A l.length c, .int .i64 (a : Int)] w fun e w' => e = .returned (.int .u16 ((num2 l a : Nat) : Int)) ∧ w = w' := by
  have hg := get_yes A c l a 2 w B hr (by omega) (by omega) h
  rw [ofBe_two l a h] at hg
  have hlt := num2_lt l a
  obtain ⟨q, hq⟩ : ∃ q, q = num2 l a := ⟨_, rfl⟩
  rw [← hq] at hg hlt ⊢
  have hc : IntKind.u16.wrap (q : Int) = (q : Int) := IntWalk.u16_in _ (by omega)
  have Hg := Lib.hid hg
  clear hg hq hr h hlt
  go_enter Try.func77, Try.ntmps77
  go_wp2_with (go_at_call 79; refine Hg.out.mono ?_; rintro e w1 ⟨rfl, rfl⟩)
  go_ret
  exact ⟨rfl, rfl⟩
set_option maxRecDepth 100000 in
theorem sgPorted_any (s : Sg) (w : World) : Calls Try.prog 55 #[sgV s] w fun e w' => e = .returned (.bool (s.src != 0 && s.dst != 0)) ∧ Below w.heap.size w w' := by
  obtain ⟨c0, c1, _⟩ := sgC_cell (heap_alloc_last w (.cells (sgC s).toArray 35) : SgAt _ _ s)
  have hb := up_alloc (Below.refl w.heap.size w) (.cells (sgC s).toArray 35)
  have Hb := Lib.hid hb
  obtain ⟨a, ha⟩ : ∃ a, a = s.src := ⟨_, rfl⟩
  obtain ⟨b, hb'⟩ : ∃ b, b = s.dst := ⟨_, rfl⟩
  rw [← ha] at c0 ⊢
  rw [← hb'] at c1 ⊢
  rw [sgV]
  generalize (sgC s).toArray = C at *
  clear hb ha hb'
  by_cases h : a = 0
  · subst h
    have c0' : (w.alloc (.cells C 35)).cell? ⟨w.heap.size, 0, none⟩ = some (.int .u16 0) := c0
    clear c0
    go_enter Try.func55, Try.ntmps55
    go_wp2_with fail
    go_ret
    exact ⟨rfl, Hb.out⟩
  · have k1 := bne_zero h
    have e1 : (a != 0) = true := by simpa using h
    rw [e1]
    have e2 : ((b : Int) != 0) = (b != 0) := by
      by_cases h0 : b = 0
      · subst h0; rfl
      · rw [bne_zero h0]; symm; simpa using h0
    rw [Bool.true_and]
    clear h e1
    go_enter Try.func55, Try.ntmps55
    go_wp2_with fail
    go_ret
    exact ⟨rfl, Hb.out⟩
set_option maxRecDepth 100000 in
set_option maxHeartbeats 1000000 in
theorem sgPseudo_any (h : Hd) (hw : h.Wide) (z : Int) (n : Nat) (hz : IntKind.u64.wrap z = (n : Int)) (w : World) :
    Calls Try.prog 48 #[hdV h, .int .i64 z] w fun e w' => ∃ v, e = .returned v ∧ Mine w' w.heap.size 5 v (cellsB (sgPseudo h n)) ∧ Below w.heap.size w w' := by
  have hat : HdAt (w.alloc (.cells (hdC h).toArray 33)) w.heap.size h := heap_alloc_last w (.cells (hdC h).toArray 33)
  have hb0 := up_alloc (Below.refl w.heap.size w) (.cells (hdC h).toArray 33)
  have i1 := info_ad hw.1
  have i2 := info_ad hw.2
  have hF : Hid (∀ W, Below (w.alloc (.cells (hdC h).toArray 33)).heap.size (w.alloc (.cells (hdC h).toArray 33)) W → (W.cell? ⟨w.heap.size, 0, none⟩ = some (.bool h.six) ∧ W.cell? ⟨w.heap.size, 1, none⟩ = some (.int .u8 (h.proto.toNat : Int))) ∧ W.rangeAt w.heap.size 3 (adC h.src) ∧ W.rangeAt w.heap.size 20 (adC h.dst)) := Lib.hid fun W hW => by
    have h1 : HdAt W w.heap.size h := hat.below hW (by simp)
    exact ⟨⟨hdC_six h1, hdC_proto h1⟩, hdC_src h1, hdC_dst hw h1⟩
  have hD : Hid (∀ W, Below (w.alloc (.cells (hdC h).toArray 33)).heap.size (w.alloc (.cells (hdC h).toArray 33)) W → Below w.heap.size w W) := Lib.hid fun W hW => up hb0 hW
  have ll1 := own_length hw.1
  have ll2 := own_length hw.2
  have hl1 : h.src.own.length ≤ 16 := by rw [ll1]; split <;> omega
  have hl2 : h.dst.own.length ≤ 16 := by rw [ll2]; split <;> omega
  have H2 : Hid (∀ W, Calls Try.prog 45 #[.agg (adC h.src).toArray] W fun e w' => ∃ A n c, e = .returned (.slice A n c) ∧ Rd w' w'.heap.size (.slice A n c) (cellsB h.src.own) ∧ Below W.heap.size W w') := Lib.hid fun W => (adBytes_any h.src W hw.1).mono fun e w' h => rd_of h
  have H3 : Hid (∀ W, Calls Try.prog 45 #[.agg (adC h.dst).toArray] W fun e w' => ∃ A n c, e = .returned (.slice A n c) ∧ Rd w' w'.heap.size (.slice A n c) (cellsB h.dst.own) ∧ Below W.heap.size W w') := Lib.hid fun W => (adBytes_any h.dst W hw.2).mono fun e w' h => rd_of h
  have H4 : Hid (∀ W a b, Rd W W.heap.size a (cellsB h.src.own) → Rd W W.heap.size b (cellsB h.dst.own) → Calls Try.prog 25 #[.slice (some ⟨W.heap.size, 0, none⟩) 2 2] (W.alloc (.cells #[a, b] 22)) fun e w' => ∃ A n c, e = .returned (.slice A n c) ∧ Rd w' w'.heap.size (.slice A n c) (cellsB (h.src.own ++ h.dst.own)) ∧ Below W.heap.size W w') := Lib.hid fun W a b h4 h5 =>
    (bytes_two _ _ h.src.own h.dst.own 22 W W.heap.size h4 h5 (Nat.le_refl _) (by omega)).mono fun e w' h => rd_of h
  have hol : (h.src.own ++ h.dst.own).length ≤ 32 := by rw [List.length_append]; omega
  have hps : sgPseudo h n = if h.six then (h.src.own ++ h.dst.own) ++ be 4 n ++ [0, 0, 0, h.proto] else (h.src.own ++ h.dst.own) ++ [0, h.proto] ++ be 2 n := by
    unfold sgPseudo
    split <;> simp only [List.append_assoc]
  have HP : Hid (∀ W v (l : List UInt8) (k : Nat) (kk : Int), kk = (k : Int) → l.length ≤ 100 → 1 ≤ k → k ≤ 8 → Rd W W.heap.size v (cellsB l) → Calls Try.prog 46 #[v, .int .u64 (n : Int), .int .i64 kk] W fun e w' => ∃ A m c, e = .returned (.slice A m c) ∧ Mine w' W.heap.size 5 (.slice A m c) (cellsB (l ++ be k n)) ∧ Below W.heap.size W w') := Lib.hid fun W v l k kk hk hl h1 h2 hr => by
    subst hk
    obtain ⟨A, c, rfl, _, _, hr⟩ := hr.bytes
    exact (put_yes A c l n k W W.heap.size hr (Nat.le_refl _) (by omega) h1 h2).mono fun e w' h => mine_of h
  rw [hps, hdV]
  obtain ⟨p, hp⟩ : ∃ p, p = h.proto := ⟨_, rfl⟩
  rw [← hp] at hF ⊢
  cases hx : h.six with
  | true =>
    rw [hx] at hF
    rw [if_pos rfl]
    have H5 : Hid (∀ W v, Rd W W.heap.size v (cellsB (h.src.own ++ h.dst.own ++ be 4 n)) → ∀ u, Rd W W.heap.size u (cellsB [0, 0, 0, p]) → Calls Try.prog 25 #[.slice (some ⟨W.heap.size, 0, none⟩) 2 2] (W.alloc (.cells #[v, u] 22)) fun e w' => ∃ v', e = .returned v' ∧ Mine w' W.heap.size 5 v' (cellsB ((h.src.own ++ h.dst.own) ++ be 4 n ++ [0, 0, 0, p])) ∧ Below W.heap.size W w') := Lib.hid fun W v hv u hu =>
      bytes_two _ _ _ _ 22 W W.heap.size hv hu (Nat.le_refl _) (by rw [List.length_append, be_length]; simp; omega)
    have HL : Hid (∀ W : World, Rd (W.alloc (.cells #[.int .u8 0, .int .u8 0, .int .u8 0, .int .u8 (p.toNat : Int)] 5)) (W.heap.size + 1) (.slice (some ⟨W.heap.size, 0, none⟩) 4 4) (cellsB [0, 0, 0, p])) := Lib.hid fun W => rd_lit W 5 [0, 0, 0, p] (by simp)
    have H6 : Hid (∀ W v, Rd W W.heap.size v (cellsB (h.src.own ++ h.dst.own ++ be 4 n)) → Calls Try.prog 25 #[.slice (some ⟨W.heap.size + 1, 0, none⟩) 2 2] ((W.alloc (.cells #[.int .u8 0, .int .u8 0, .int .u8 0, .int .u8 (p.toNat : Int)] 5)).alloc (.cells #[v, .slice (some ⟨W.heap.size, 0, none⟩) 4 4] 22)) fun e w' => ∃ A m c, e = .returned (.slice A m c) ∧ Mine w' W.heap.size 5 (.slice A m c) (cellsB ((h.src.own ++ h.dst.own) ++ be 4 n ++ [0, 0, 0, p])) ∧ Below W.heap.size W w') := Lib.hid fun W v hv => by
      have hs : (W.alloc (.cells #[.int .u8 0, .int .u8 0, .int .u8 0, .int .u8 (p.toNat : Int)] 5)).heap.size = W.heap.size + 1 := by simp
      have := H5.out (W.alloc (.cells #[.int .u8 0, .int .u8 0, .int .u8 0, .int .u8 (p.toNat : Int)] 5)) v ((hv.alloc (Nat.le_refl _) _).more (by rw [hs]; omega)) (.slice (some ⟨W.heap.size, 0, none⟩) 4 4) (by rw [hs]; exact HL.out W)
      rw [hs] at this
      refine this.mono fun e w' h => ?_
      obtain ⟨A, m, c, e1, e2, e3⟩ := mine_of h
      exact ⟨A, m, c, e1, e2.weaken (by omega), (up_alloc (Below.refl W.heap.size W) _).trans (e3.mono (by omega))⟩
    have Hol := Lib.hid hol
    clear hps hp hx hw hat hb0 ll1 ll2 hl1 hl2 hol
    generalize h.src.own ++ h.dst.own = E at *
    generalize h.src.own = E1 at *
    generalize h.dst.own = E2 at *
    generalize hC1 : adC h.src = C1 at *
    generalize hC2 : adC h.dst = C2 at *
    generalize (hdC h).toArray = C at *
    clear hC1 hC2
    go_enter Try.func48, Try.ntmps48
    go_wp2_with fail
    refine wp_region_held_drew (S := fun w' => w'.rangeAt w.heap.size 3 C1 ∧ w'.rangeAt w.heap.size 20 C2) (by kernel_rfl) (hF.out _ (Below.refl _ _)).2 (fun hHeld => ?_)
    refine th 0 ?_
    go_frame
    refine th 1 (v := .agg C1.toArray) ?_ (hy := fun wy hSw => by exact exec_load (t := 25) (x := .tmp 6) rfl (pv := .pointer (some ⟨w.heap.size, 3, none⟩)) rfl (run_loadAt_mid wy w.heap.size 3 25 C1 _ hSw.1 Try.underlying25 rfl i1))
    go_frame
    refine th 3 ?_
    go_frame
    refine th 4 (v := .agg C2.toArray) ?_ (hy := fun wy hSw => by exact exec_load (t := 25) (x := .tmp 9) rfl (pv := .pointer (some ⟨w.heap.size, 20, none⟩)) rfl (run_loadAt_mid wy w.heap.size 20 25 C2 _ hSw.2 Try.underlying25 rfl i2))
    go_frame
    refine wpAnyH_ready (rs := [2]) (by kernel_rfl) (by simp) (AllReadyH.cons (o := ⟨some 8, .call { callee := .value (.func 45), args := #[.tmp 7], argTypes := #[25] }, _, _, _, none⟩) rfl (fun K hK => ?_) AllReadyH.nil)
    rw [if_pos (by kernel_rfl)]
    go_simp
    refine (H2.out _).mono ?_
    rintro _ w4 ⟨A4, n4, c4, rfl, hr4, hb4⟩
    have HB4 := Lib.hid (drew_start hb4)
    have HR4 := Lib.hid hr4
    clear hr4 hb4
    dsimp only
    refine hK.out _ _ ((hF.out _ HB4.out).2) (fun _ => ?_)
    clear hK K
    try go_frame
    refine wpAnyH_ready (rs := [5]) (by kernel_rfl) (by simp) (AllReadyH.cons (o := ⟨some 11, .call { callee := .value (.func 45), args := #[.tmp 10], argTypes := #[25] }, _, _, _, none⟩) rfl (fun K hK => ?_) AllReadyH.nil)
    rw [if_pos (by kernel_rfl)]
    go_simp
    refine (H3.out _).mono ?_
    rintro _ w5 ⟨A5, n5, c5, rfl, hr5, hb5⟩
    have HB45 := Lib.hid hb5
    have HB5 := Lib.hid (up HB4.out hb5)
    have HR5 := Lib.hid hr5
    clear hr5 hb5
    dsimp only
    refine hK.out _ _ ((hF.out _ HB5.out).2) (fun _ => ?_)
    clear hK K
    try go_frame
    refine wpAnyH_ready (rs := [6]) (by kernel_rfl) (by simp) (AllReadyH.cons (o := ⟨some 12, .buildSlice 74 2 #[(0, .tmp 8), (1, .tmp 11)], _, _, _, none⟩) rfl (fun K hK => ?_) AllReadyH.nil)
    rw [if_pos (by kernel_rfl)]
    go_simp
    refine hK.out _ _ ((hF.out _ (up_alloc HB5.out _)).2) (fun _ => ?_)
    clear hK K
    try go_frame
    refine wpAnyH_ready (rs := [7]) (by kernel_rfl) (by simp) (AllReadyH.cons (o := ⟨some 13, .call { callee := .value (.func 25), args := #[.tmp 12], argTypes := #[74] }, _, _, _, none⟩) rfl (fun K hK => ?_) AllReadyH.nil)
    rw [if_pos (by kernel_rfl)]
    go_simp
    refine (H4.out _ _ _ ((HR4.out.below HB45.out).more HB45.out.size) HR5.out).mono ?_
    rintro _ w6 ⟨A6, n6, c6, rfl, hr6, hb6⟩
    have HB6 := Lib.hid (up HB5.out hb6)
    have HR6 := Lib.hid hr6
    clear hr6 hb6
    dsimp only
    refine hK.out _ _ ((hF.out _ HB6.out).2) (fun _ => ?_)
    clear hK K
    try go_frame
    refine th 8 ?_
    go_frame
    refine wpAnyH_done (by kernel_rfl) ?_ _
    have HR6d : Rd w6.drew w6.drew.heap.size (.slice A6 n6 c6) (cellsB E) := (HR6.out.below (drew_self w6)).more (drew_self w6).size
    clear HR4 HR5 HB45 H2 H3 H4
    have c0 := (hF.out _ HB6.out).1.1
    go_wp2_with fail
    refine wp_region_held_drew (S := fun w' => w'.cell? ⟨w.heap.size, 1, none⟩ = some (.int .u8 (p.toNat : Int))) (by kernel_rfl) (hF.out _ HB6.out).1.2 (fun hHeld => ?_)
    refine th 0 ?_
    go_frame
    refine th 1 ?_
    go_frame
    refine th 2 (v := .int .u64 (n : Int)) ?_ (hy := fun wy hSw => by (go_simp <;> with_reducible rfl))
    go_frame
    refine th 4 ?_
    go_frame
    refine th 5 ?_
    go_frame
    refine wpAnyH_ready (rs := [3, 6]) (by kernel_rfl) (by simp) (AllReadyH.cons (o := ⟨some 19, .call { callee := .value (.func 46), args := #[.tmp 16, .tmp 18, .const (.int .i64 4)], argTypes := #[22, 63, 3] }, _, _, _, none⟩) rfl (fun K hK => ?_) (AllReadyH.cons (o := ⟨some 22, .buildSlice 22 4 #[(0, .const (.int .u8 0)), (1, .const (.int .u8 0)), (2, .const (.int .u8 0)), (3, .tmp 21)], _, _, _, none⟩) rfl (fun K hK => ?_) AllReadyH.nil))
    · rw [if_pos (by kernel_rfl)]
      go_simp
      refine (HP.out w6.drew _ E 4 4 rfl (by have := Hol.out; omega) (by omega) (by omega) HR6d).mono ?_
      rintro _ w7 ⟨A7, n7, c7, rfl, hv7, hb7⟩
      have HB7 := Lib.hid (up HB6.out (drew_start hb7))
      have HR7 := Lib.hid hv7.rd
      clear hv7 hb7 HR6d
      dsimp only
      refine hK.out _ _ ((hF.out _ HB7.out).1.2) (fun _ => ?_)
      clear hK K
      try go_frame
      refine wpAnyH_ready (rs := [6]) (by kernel_rfl) (by simp) (AllReadyH.cons (o := ⟨some 22, .buildSlice 22 4 #[(0, .const (.int .u8 0)), (1, .const (.int .u8 0)), (2, .const (.int .u8 0)), (3, .tmp 21)], _, _, _, none⟩) rfl (fun K hK => ?_) AllReadyH.nil)
      rw [if_pos (by kernel_rfl)]
      go_simp
      refine hK.out _ _ ((hF.out _ (up_alloc HB7.out _)).1.2) (fun _ => ?_)
      clear hK K
      try go_frame
      refine wpAnyH_ready (rs := [7]) (by kernel_rfl) (by simp) (AllReadyH.cons (o := ⟨some 23, .buildSlice 74 2 #[(0, .tmp 19), (1, .tmp 22)], _, _, _, none⟩) rfl (fun K hK => ?_) AllReadyH.nil)
      rw [if_pos (by kernel_rfl)]
      go_simp
      refine hK.out _ _ ((hF.out _ (up_alloc (up_alloc HB7.out _) _)).1.2) (fun _ => ?_)
      clear hK K
      try go_frame
      refine wpAnyH_ready (rs := [8]) (by kernel_rfl) (by simp) (AllReadyH.cons (o := ⟨some 24, .call { callee := .value (.func 25), args := #[.tmp 23], argTypes := #[74] }, _, _, _, none⟩) rfl (fun K hK => ?_) AllReadyH.nil)
      rw [if_pos (by kernel_rfl)]
      go_simp
      refine (H6.out _ _ HR7.out).mono ?_
      rintro _ w8 ⟨A8, n8, c8, rfl, hv8, hb8⟩
      have HT := Lib.hid (And.intro (hv8.weaken (base' := w.heap.size) (by have := (hD.out _ HB7.out).size; omega)) (up (hD.out _ HB7.out) hb8))
      clear hv8
      dsimp only
      refine hK.out _ _ ((hF.out _ (up HB7.out hb8)).1.2) (fun _ => ?_)
      clear hK K
      try go_frame
      refine th 9 ?_
      go_frame
      refine wpAnyH_done (by kernel_rfl) ?_ _
      go_wp2_with fail
      go_ret
      exact ⟨_, rfl, HT.out.1, HT.out.2⟩
    · rw [if_pos (by kernel_rfl)]
      go_simp
      refine hK.out _ _ ((hF.out _ (up_alloc (up HB6.out (drew_self _)) _)).1.2) (fun _ => ?_)
      clear hK K
      try go_frame
      refine wpAnyH_ready (rs := [3]) (by kernel_rfl) (by simp) (AllReadyH.cons (o := ⟨some 19, .call { callee := .value (.func 46), args := #[.tmp 16, .tmp 18, .const (.int .i64 4)], argTypes := #[22, 63, 3] }, _, _, _, none⟩) rfl (fun K hK => ?_) AllReadyH.nil)
      rw [if_pos (by kernel_rfl)]
      go_simp
      refine (HP.out _ _ E 4 4 rfl (by have := Hol.out; omega) (by omega) (by omega) ((HR6d.alloc (Nat.le_refl _) _).more (by simp))).mono ?_
      rintro _ w7 ⟨A7, n7, c7, rfl, hv7, hb7⟩
      have HB7 := Lib.hid (up (up_alloc (up HB6.out (drew_self _)) (.cells #[.int .u8 0, .int .u8 0, .int .u8 0, .int .u8 (p.toNat : Int)] 5)) hb7)
      have HR7 := Lib.hid hv7.rd
      have HLx := Lib.hid (((HL.out w6.drew).below (hb7.mono (by simp))).more (B' := w7.heap.size) (by have := hb7.size; simp at this; simpa using this))
      clear hv7 hb7 HR6d
      dsimp only
      refine hK.out _ _ ((hF.out _ HB7.out).1.2) (fun _ => ?_)
      clear hK K
      try go_frame
      refine wpAnyH_ready (rs := [7]) (by kernel_rfl) (by simp) (AllReadyH.cons (o := ⟨some 23, .buildSlice 74 2 #[(0, .tmp 19), (1, .tmp 22)], _, _, _, none⟩) rfl (fun K hK => ?_) AllReadyH.nil)
      rw [if_pos (by kernel_rfl)]
      go_simp
      refine hK.out _ _ ((hF.out _ (up_alloc (HB7.out) _)).1.2) (fun _ => ?_)
      clear hK K
      try go_frame
      refine wpAnyH_ready (rs := [8]) (by kernel_rfl) (by simp) (AllReadyH.cons (o := ⟨some 24, .call { callee := .value (.func 25), args := #[.tmp 23], argTypes := #[74] }, _, _, _, none⟩) rfl (fun K hK => ?_) AllReadyH.nil)
      rw [if_pos (by kernel_rfl)]
      go_simp
      refine (H5.out _ _ HR7.out _ HLx.out).mono ?_
      rintro _ w8 ⟨v8, rfl, hv8, hb8⟩
      have HT := Lib.hid (And.intro (hv8.weaken (base' := w.heap.size) (by have := (hD.out _ HB7.out).size; omega)) (up (hD.out _ HB7.out) hb8))
      clear hv8
      dsimp only
      refine hK.out _ _ ((hF.out _ (up HB7.out hb8)).1.2) (fun _ => ?_)
      clear hK K
      try go_frame
      refine th 9 ?_
      go_frame
      refine wpAnyH_done (by kernel_rfl) ?_ _
      go_wp2_with fail
      go_ret
      exact ⟨_, rfl, HT.out.1, HT.out.2⟩
  | false =>
    rw [hx] at hF
    rw [if_neg (by decide)]
    have H5 : Hid (∀ W v, Rd W W.heap.size v (cellsB (h.src.own ++ h.dst.own)) → ∀ u, Rd W W.heap.size u (cellsB [0, p]) → Calls Try.prog 25 #[.slice (some ⟨W.heap.size, 0, none⟩) 2 2] (W.alloc (.cells #[v, u] 22)) fun e w' => ∃ v', e = .returned v' ∧ Mine w' W.heap.size 5 v' (cellsB ((h.src.own ++ h.dst.own) ++ [0, p])) ∧ Below W.heap.size W w') := Lib.hid fun W v hv u hu =>
      bytes_two _ _ _ _ 22 W W.heap.size hv hu (Nat.le_refl _) (by simp; omega)
    have HL : Hid (∀ W : World, Rd (W.alloc (.cells #[.int .u8 0, .int .u8 (p.toNat : Int)] 5)) (W.heap.size + 1) (.slice (some ⟨W.heap.size, 0, none⟩) 2 2) (cellsB [0, p])) := Lib.hid fun W => rd_lit W 5 [0, p] (by simp)
    have H6 : Hid (∀ W v, Rd W W.heap.size v (cellsB (h.src.own ++ h.dst.own)) → Calls Try.prog 25 #[.slice (some ⟨W.heap.size + 1, 0, none⟩) 2 2] ((W.alloc (.cells #[.int .u8 0, .int .u8 (p.toNat : Int)] 5)).alloc (.cells #[v, .slice (some ⟨W.heap.size, 0, none⟩) 2 2] 22)) fun e w' => ∃ A m c, e = .returned (.slice A m c) ∧ Mine w' W.heap.size 5 (.slice A m c) (cellsB ((h.src.own ++ h.dst.own) ++ [0, p])) ∧ Below W.heap.size W w') := Lib.hid fun W v hv => by
      have hs : (W.alloc (.cells #[.int .u8 0, .int .u8 (p.toNat : Int)] 5)).heap.size = W.heap.size + 1 := by simp
      have := H5.out (W.alloc (.cells #[.int .u8 0, .int .u8 (p.toNat : Int)] 5)) v ((hv.alloc (Nat.le_refl _) _).more (by rw [hs]; omega)) (.slice (some ⟨W.heap.size, 0, none⟩) 2 2) (by rw [hs]; exact HL.out W)
      rw [hs] at this
      refine this.mono fun e w' h => ?_
      obtain ⟨A, m, c, e1, e2, e3⟩ := mine_of h
      exact ⟨A, m, c, e1, e2.weaken (by omega), (up_alloc (Below.refl W.heap.size W) _).trans (e3.mono (by omega))⟩
    have Hol := Lib.hid hol
    clear hps hp hx hw hat hb0 ll1 ll2 hl1 hl2 hol
    generalize h.src.own ++ h.dst.own = E at *
    generalize h.src.own = E1 at *
    generalize h.dst.own = E2 at *
    generalize hC1 : adC h.src = C1 at *
    generalize hC2 : adC h.dst = C2 at *
    generalize (hdC h).toArray = C at *
    clear hC1 hC2
    go_enter Try.func48, Try.ntmps48
    go_wp2_with fail
    refine wp_region_held_drew (S := fun w' => w'.rangeAt w.heap.size 3 C1 ∧ w'.rangeAt w.heap.size 20 C2) (by kernel_rfl) (hF.out _ (Below.refl _ _)).2 (fun hHeld => ?_)
    refine th 0 ?_
    go_frame
    refine th 1 (v := .agg C1.toArray) ?_ (hy := fun wy hSw => by exact exec_load (t := 25) (x := .tmp 6) rfl (pv := .pointer (some ⟨w.heap.size, 3, none⟩)) rfl (run_loadAt_mid wy w.heap.size 3 25 C1 _ hSw.1 Try.underlying25 rfl i1))
    go_frame
    refine th 3 ?_
    go_frame
    refine th 4 (v := .agg C2.toArray) ?_ (hy := fun wy hSw => by exact exec_load (t := 25) (x := .tmp 9) rfl (pv := .pointer (some ⟨w.heap.size, 20, none⟩)) rfl (run_loadAt_mid wy w.heap.size 20 25 C2 _ hSw.2 Try.underlying25 rfl i2))
    go_frame
    refine wpAnyH_ready (rs := [2]) (by kernel_rfl) (by simp) (AllReadyH.cons (o := ⟨some 8, .call { callee := .value (.func 45), args := #[.tmp 7], argTypes := #[25] }, _, _, _, none⟩) rfl (fun K hK => ?_) AllReadyH.nil)
    rw [if_pos (by kernel_rfl)]
    go_simp
    refine (H2.out _).mono ?_
    rintro _ w4 ⟨A4, n4, c4, rfl, hr4, hb4⟩
    have HB4 := Lib.hid (drew_start hb4)
    have HR4 := Lib.hid hr4
    clear hr4 hb4
    dsimp only
    refine hK.out _ _ ((hF.out _ HB4.out).2) (fun _ => ?_)
    clear hK K
    try go_frame
    refine wpAnyH_ready (rs := [5]) (by kernel_rfl) (by simp) (AllReadyH.cons (o := ⟨some 11, .call { callee := .value (.func 45), args := #[.tmp 10], argTypes := #[25] }, _, _, _, none⟩) rfl (fun K hK => ?_) AllReadyH.nil)
    rw [if_pos (by kernel_rfl)]
    go_simp
    refine (H3.out _).mono ?_
    rintro _ w5 ⟨A5, n5, c5, rfl, hr5, hb5⟩
    have HB45 := Lib.hid hb5
    have HB5 := Lib.hid (up HB4.out hb5)
    have HR5 := Lib.hid hr5
    clear hr5 hb5
    dsimp only
    refine hK.out _ _ ((hF.out _ HB5.out).2) (fun _ => ?_)
    clear hK K
    try go_frame
    refine wpAnyH_ready (rs := [6]) (by kernel_rfl) (by simp) (AllReadyH.cons (o := ⟨some 12, .buildSlice 74 2 #[(0, .tmp 8), (1, .tmp 11)], _, _, _, none⟩) rfl (fun K hK => ?_) AllReadyH.nil)
    rw [if_pos (by kernel_rfl)]
    go_simp
    refine hK.out _ _ ((hF.out _ (up_alloc HB5.out _)).2) (fun _ => ?_)
    clear hK K
    try go_frame
    refine wpAnyH_ready (rs := [7]) (by kernel_rfl) (by simp) (AllReadyH.cons (o := ⟨some 13, .call { callee := .value (.func 25), args := #[.tmp 12], argTypes := #[74] }, _, _, _, none⟩) rfl (fun K hK => ?_) AllReadyH.nil)
    rw [if_pos (by kernel_rfl)]
    go_simp
    refine (H4.out _ _ _ ((HR4.out.below HB45.out).more HB45.out.size) HR5.out).mono ?_
    rintro _ w6 ⟨A6, n6, c6, rfl, hr6, hb6⟩
    have HB6 := Lib.hid (up HB5.out hb6)
    have HR6 := Lib.hid hr6
    clear hr6 hb6
    dsimp only
    refine hK.out _ _ ((hF.out _ HB6.out).2) (fun _ => ?_)
    clear hK K
    try go_frame
    refine th 8 ?_
    go_frame
    refine wpAnyH_done (by kernel_rfl) ?_ _
    clear HR4 HR5 HB45 H2 H3 H4
    obtain ⟨c0, c1⟩ := (hF.out _ HB6.out).1
    go_wp2_with (first
      | (go_at_call 25; refine (H6.out _ _ HR6.out).mono ?_; rintro _ w7 ⟨A7, n7, c7, rfl, hv7, hb7⟩; have HB7 := Lib.hid (up HB6.out hb7); have HR7 := Lib.hid hv7.rd; clear hv7 hb7)
      | (go_at_call 46; refine (HP.out _ _ (E ++ [0, p]) 2 2 rfl (by have := Hol.out; simp; omega) (by omega) (by omega) HR7.out).mono ?_; rintro _ w8 ⟨A8, n8, c8, rfl, hv8, hb8⟩; have HT := Lib.hid (And.intro (hv8.weaken (base' := w.heap.size) (by have := (hD.out _ HB7.out).size; omega)) (up (hD.out _ HB7.out) hb8)); clear hv8 hb8))
    go_ret
    exact ⟨_, rfl, HT.out.1, HT.out.2⟩
set_option maxRecDepth 100000 in
theorem sgGood_any (h : Hd) (hw : h.Wide) {A : Option Addr} {c : Nat} {l : List UInt8} {w : World} (hr : Rd w w.heap.size (.slice A l.length c) (cellsB l)) (hl : l.length ≤ 100000) :
    Calls Try.prog 76 #[hdV h, .slice A l.length c] w fun e w' => e = .returned (.bool (sgOk h l)) ∧ Below w.heap.size w w' := by
  have hat := heap_alloc_last w (.cells (hdC h).toArray 33)
  have hb0 := up_alloc (Below.refl w.heap.size w) (.cells (hdC h).toArray 33)
  have hi := info_hdA hw
  have hp := Lib.hid (fun W => (sgPseudo_any h hw (l.length : Int) l.length (IntWalk.u64_in _ (by omega)) W).mono fun e w' h => rd_of h)
  have hpl := (sgPseudo_length hw l.length).2.1
  have hok : sgOk h l = decide (sumOf (sgPseudo h l.length ++ l) = 0) := rfl
  have hG : Hid (∀ W v, Below (w.alloc (.cells (hdC h).toArray 33)).heap.size (w.alloc (.cells (hdC h).toArray 33)) W → Rd W W.heap.size v (cellsB (sgPseudo h l.length)) → Calls Try.prog 70 #[.slice (some ⟨W.heap.size, 0, none⟩) 2 2] (W.alloc (.cells #[v, .slice A l.length c] 22)) fun e w' => e = .returned (.bool (sgOk h l)) ∧ Below w.heap.size w w') := Lib.hid fun W v hW hv => by
    have := inGood_any (RdAll.lit2 W 22 _ _ _ _ hv ((hr.below (up hb0 hW)).more (up hb0 hW).size)) (by simp; omega)
    rw [show [sgPseudo h l.length, l].flatten = sgPseudo h l.length ++ l by simp, ← hok] at this
    refine this.mono ?_
    rintro e w' ⟨rfl, rfl⟩
    exact ⟨rfl, up_alloc (up hb0 hW) _⟩
  rw [hdV] at hp ⊢
  clear hr hpl hok hb0 hw
  generalize sgPseudo h l.length = P at *
  generalize sgOk h l = ok at *
  generalize l.length = m at *
  generalize (hdC h).toArray = C at *
  go_enter Try.func76, Try.ntmps76
  go_wp2_with (first
    | ((with_reducible refine wpList_load_row (o := ⟨some 5, .load 33 (.tmp 2), _, _, _, _⟩) rfl 33 (.tmp 2) rfl w.heap.size ?_ 33 C (0, 0) _ hat Try.underlying33 rfl hi ?_); exact rfl)
    | (go_at_call 48; refine (hp.out _).mono ?_; rintro _ w1 ⟨A1, n1, c1, rfl, hr1, hb1⟩; have HB1 := Lib.hid hb1; have HR1 := Lib.hid hr1; clear hb1 hr1)
    | (go_at_call 70; refine (hG.out _ _ HB1.out HR1.out).mono ?_; rintro _ w2 ⟨rfl, hb2⟩))
  go_ret
  exact ⟨rfl, hb2⟩
end Go.Proofs.Ytejppekcniehpaa
