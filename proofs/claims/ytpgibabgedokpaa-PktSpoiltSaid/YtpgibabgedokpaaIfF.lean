/-
  Which heads may be written: contracts of four, written.
  Write: contracts.
-/
import Derived.Test.YtpgibabgedokpaaIfB
import Derived.Test.YtpgibabgedokpaaAdC
import Derived.Test.YtpgibabgedokpaaNumC
import Derived.Test.YtpgibabgedokpaaInetB
namespace Go.Proofs.Ytpgibabgedokpaa
open Go.RowKit
set_option maxRecDepth 100000 in
theorem ifFour_any (a : Ad) (w : World) (ha : a.Wide) : Calls Try.prog 58 #[adV a] w fun e w' => e = .returned (.bool (is4 a)) ∧ Below w.heap.size w w' := by
  have hw := heap_alloc_last w (.cells (adC a).toArray 26)
  have h0 := adC_six hw
  have hr : (w.alloc (.cells (adC a).toArray 26)).rangeAt w.heap.size 0 (adC a) := rangeAt_block hw fun j u hu => by rw [Nat.zero_add]; exact hu
  have hg := fun w => adGood_any a w ha
  have hi := info_ad ha
  have hb0 := up_alloc (Below.refl w.heap.size w) (.cells (adC a).toArray 26)
  unfold is4
  rw [adV] at hg ⊢
  generalize a.six = s at h0 ⊢
  generalize a.good = g at hg ⊢
  have Hg := Lib.hid hg
  have Hb := Lib.hid hb0
  clear hw hg hb0
  generalize adC a = C at *
  cases s
  · go_enter Try.func58, Try.ntmps58
    go_wp2_with (first
      | ((with_reducible refine wpList_load_mid_g (op := ⟨some 7, .load 26 (.tmp 1), _, _, _, _⟩) ?_ 26 (.tmp 1) rfl w.heap.size 0 ?_ C _ hr Try.underlying26 rfl hi ?_); rfl; exact rfl)
      | (go_at_call 52; refine (Hg.out _).mono ?_; rintro _ w1 ⟨rfl, hb1⟩))
    go_ret
    exact ⟨rfl, up Hb.out hb1⟩
  · go_enter Try.func58, Try.ntmps58
    go_wp2_with fail
    go_ret
    exact ⟨rfl, Hb.out⟩
set_option maxRecDepth 100000 in
set_option maxHeartbeats 1000000 in
theorem ifWritten_any (h : Hd) (w : World) (hw : h.Wide) : Calls Try.prog 39 #[hdV h] w fun e w' => e = .returned (.bool h.may) ∧ Below w.heap.size w w' := by
  have hat : HdAt (w.alloc (.cells (hdC h).toArray 28)) w.heap.size h := heap_alloc_last w (.cells (hdC h).toArray 28)
  have hF : Hid (∀ W, Below (w.alloc (.cells (hdC h).toArray 28)).heap.size (w.alloc (.cells (hdC h).toArray 28)) W → HdAt W w.heap.size h ∧ Below w.heap.size w W) := Lib.hid fun W hW => ⟨hat.below hW (by simp), up (up_alloc (Below.refl w.heap.size w) _) hW⟩
  have c0 := hdC_six hat
  have r3 := hdC_src hat
  have hsrc := fun w => ifFour_any h.src w hw.1
  have hdst := fun w => ifFour_any h.dst w hw.2
  have i1 := info_ad hw.1
  have i2 := info_ad hw.2
  have hR : Hid (∀ W, Below (w.alloc (.cells (hdC h).toArray 28)).heap.size (w.alloc (.cells (hdC h).toArray 28)) W → W.rangeAt w.heap.size 20 (adC h.dst) ∧ W.cell? ⟨w.heap.size, 38, none⟩ = some (.int .u8 (h.hops.toNat : Int)) ∧ W.cell? ⟨w.heap.size, 37, none⟩ = some (.bool h.part)) := Lib.hid fun W hW => by
    have h1 := (hF.out W hW).1
    exact ⟨hdC_dst hw h1, hdC_hops hw h1, hdC_part hw h1⟩
  have hB : Hid (∀ W, Below (w.alloc (.cells (hdC h).toArray 28)).heap.size (w.alloc (.cells (hdC h).toArray 28)) W → Below w.heap.size w W) := Lib.hid fun W hW => (hF.out W hW).2
  have hm : h.may = (!h.six && is4 h.src && is4 h.dst && (h.hops != 0) && !h.part) := rfl
  have hk : ((h.hops.toNat : Int) != 0) = (h.hops != 0) := by
    by_cases e : h.hops = 0
    · rw [e]; rfl
    · have : h.hops.toNat ≠ 0 := fun e2 => e (UInt8.toNat_inj.1 e2)
      rw [show (h.hops != 0) = true by simpa using e]
      simp; omega
  rw [hm]
  rw [hdV]
  rw [adV] at hsrc hdst
  generalize is4 h.src = b1 at hsrc ⊢
  generalize is4 h.dst = b2 at hdst ⊢
  generalize h.part = b3 at hR ⊢
  generalize h.six = b0 at c0 ⊢
  generalize (h.hops != 0) = b4 at hk ⊢
  generalize (h.hops.toNat : Int) = kh at hk hR
  generalize hC : (hdC h).toArray = C at *
  generalize adC h.src = C1 at *
  generalize adC h.dst = C2 at *
  have Hs := Lib.hid hsrc
  have Hd' := Lib.hid hdst
  clear hsrc hdst hat hF hw hm hC
  cases b0
  · cases b1
    · go_enter Try.func39, Try.ntmps39
      go_wp2_with (first
        | ((with_reducible refine wpList_load_mid_g (op := ⟨some 8, .load 26 (.tmp 7), _, _, _, _⟩) ?_ 26 (.tmp 7) rfl w.heap.size 3 ?_ C1 _ r3 Try.underlying26 rfl i1 ?_); rfl; exact rfl)
        | (go_at_call 58; refine (Hs.out _).mono ?_; rintro _ w1 ⟨rfl, hb1⟩))
      go_ret
      exact ⟨rfl, hB.out _ hb1⟩
    · cases b2
      · go_enter Try.func39, Try.ntmps39
        go_wp2_with (first
          | ((with_reducible refine wpList_load_mid_g (op := ⟨some 8, .load 26 (.tmp 7), _, _, _, _⟩) ?_ 26 (.tmp 7) rfl w.heap.size 3 ?_ C1 _ r3 Try.underlying26 rfl i1 ?_); rfl; exact rfl)
          | ((with_reducible refine wpList_load_mid_g (op := ⟨some 13, .load 26 (.tmp 12), _, _, _, _⟩) ?_ 26 (.tmp 12) rfl w.heap.size 20 ?_ C2 _ r20 Try.underlying26 rfl i2 ?_); rfl; exact rfl)
          | (go_at_call 58; have hk1 := HB1; clear hk1; refine (Hd'.out _).mono ?_; rintro _ w2 ⟨rfl, hb2⟩; have HB2 := Lib.hid (up HB1.out hb2); clear hb2; obtain ⟨_, k38, k37⟩ := hR.out _ HB2.out)
          | (go_at_call 58; refine (Hs.out _).mono ?_; rintro _ w1 ⟨rfl, hb1⟩; have r20 := (hR.out _ hb1).1; have HB1 := Lib.hid hb1; clear hb1))
        go_ret
        exact ⟨rfl, hB.out _ HB2.out⟩
      · cases b4
        · go_enter Try.func39, Try.ntmps39
          go_wp2_with (first
            | ((with_reducible refine wpList_load_mid_g (op := ⟨some 8, .load 26 (.tmp 7), _, _, _, _⟩) ?_ 26 (.tmp 7) rfl w.heap.size 3 ?_ C1 _ r3 Try.underlying26 rfl i1 ?_); rfl; exact rfl)
            | ((with_reducible refine wpList_load_mid_g (op := ⟨some 13, .load 26 (.tmp 12), _, _, _, _⟩) ?_ 26 (.tmp 12) rfl w.heap.size 20 ?_ C2 _ r20 Try.underlying26 rfl i2 ?_); rfl; exact rfl)
            | (go_at_call 58; have hk1 := HB1; clear hk1; refine (Hd'.out _).mono ?_; rintro _ w2 ⟨rfl, hb2⟩; have HB2 := Lib.hid (up HB1.out hb2); clear hb2; obtain ⟨_, k38, k37⟩ := hR.out _ HB2.out)
            | (go_at_call 58; refine (Hs.out _).mono ?_; rintro _ w1 ⟨rfl, hb1⟩; have r20 := (hR.out _ hb1).1; have HB1 := Lib.hid hb1; clear hb1))
          go_ret
          exact ⟨rfl, hB.out _ HB2.out⟩
        · cases b3
          · go_enter Try.func39, Try.ntmps39
            go_wp2_with (first
              | ((with_reducible refine wpList_load_mid_g (op := ⟨some 8, .load 26 (.tmp 7), _, _, _, _⟩) ?_ 26 (.tmp 7) rfl w.heap.size 3 ?_ C1 _ r3 Try.underlying26 rfl i1 ?_); rfl; exact rfl)
              | ((with_reducible refine wpList_load_mid_g (op := ⟨some 13, .load 26 (.tmp 12), _, _, _, _⟩) ?_ 26 (.tmp 12) rfl w.heap.size 20 ?_ C2 _ r20 Try.underlying26 rfl i2 ?_); rfl; exact rfl)
              | (go_at_call 58; have hk1 := HB1; clear hk1; refine (Hd'.out _).mono ?_; rintro _ w2 ⟨rfl, hb2⟩; have HB2 := Lib.hid (up HB1.out hb2); clear hb2; obtain ⟨_, k38, k37⟩ := hR.out _ HB2.out)
              | (go_at_call 58; refine (Hs.out _).mono ?_; rintro _ w1 ⟨rfl, hb1⟩; have r20 := (hR.out _ hb1).1; have HB1 := Lib.hid hb1; clear hb1))
            go_ret
            exact ⟨rfl, hB.out _ HB2.out⟩
          · go_enter Try.func39, Try.ntmps39
            go_wp2_with (first
              | ((with_reducible refine wpList_load_mid_g (op := ⟨some 8, .load 26 (.tmp 7), _, _, _, _⟩) ?_ 26 (.tmp 7) rfl w.heap.size 3 ?_ C1 _ r3 Try.underlying26 rfl i1 ?_); rfl; exact rfl)
              | ((with_reducible refine wpList_load_mid_g (op := ⟨some 13, .load 26 (.tmp 12), _, _, _, _⟩) ?_ 26 (.tmp 12) rfl w.heap.size 20 ?_ C2 _ r20 Try.underlying26 rfl i2 ?_); rfl; exact rfl)
              | (go_at_call 58; have hk1 := HB1; clear hk1; refine (Hd'.out _).mono ?_; rintro _ w2 ⟨rfl, hb2⟩; have HB2 := Lib.hid (up HB1.out hb2); clear hb2; obtain ⟨_, k38, k37⟩ := hR.out _ HB2.out)
              | (go_at_call 58; refine (Hs.out _).mono ?_; rintro _ w1 ⟨rfl, hb1⟩; have r20 := (hR.out _ hb1).1; have HB1 := Lib.hid hb1; clear hb1))
            go_ret
            exact ⟨rfl, hB.out _ HB2.out⟩
  · go_enter Try.func39, Try.ntmps39
    go_wp2_with fail
    go_ret
    exact ⟨rfl, hB.out _ (Below.refl _ _)⟩
set_option maxRecDepth 100000 in
theorem ifWrite_arg (h : Hd) (hw : h.Wide) (hm : h.may = false) (v : Value) (w : World) :
    Calls Try.prog 21 #[hdV h, v] w fun e w' => e = .returned (.tuple #[.slice none 0 0, .int .i64 1]) ∧ Below w.heap.size w w' := by
  have hat := heap_alloc_last w (.cells (hdC h).toArray 28)
  have hb0 := up_alloc (Below.refl w.heap.size w) (.cells (hdC h).toArray 28)
  have hf := fun w => ifWritten_any h w hw
  have hi := info_hdA hw
  rw [hdV] at hf ⊢
  rw [hm] at hf
  have Hf := Lib.hid hf
  have Hb := Lib.hid hb0
  clear hf hb0 hw hm
  generalize (hdC h).toArray = C at *
  go_enter Try.func21, Try.ntmps21
  go_wp2_with (first
    | ((with_reducible refine wpList_load_row (o := ⟨some 10, .load 28 (.tmp 2), _, _, _, _⟩) rfl 28 (.tmp 2) rfl w.heap.size ?_ 28 C (0, 0) _ hat Try.underlying28 rfl hi ?_); exact rfl)
    | (go_at_call 39; refine (Hf.out _).mono ?_; rintro _ w1 ⟨rfl, hb1⟩))
  go_ret2
  exact ⟨rfl, up Hb.out hb1⟩
set_option maxRecDepth 100000 in
theorem ifWrite_long (h : Hd) (hw : h.Wide) (hm : h.may = true) (A : Option Addr) (n c : Nat) (hn : 2028 < n) (w : World) :
    Calls Try.prog 21 #[hdV h, .slice A n c] w fun e w' => e = .returned (.tuple #[.slice none 0 0, .int .i64 10]) ∧ Below w.heap.size w w' := by
  have hat := heap_alloc_last w (.cells (hdC h).toArray 28)
  have hb0 := up_alloc (Below.refl w.heap.size w) (.cells (hdC h).toArray 28)
  have hf := fun w => ifWritten_any h w hw
  have hi := info_hdA hw
  rw [hdV] at hf ⊢
  rw [hm] at hf
  have Hf := Lib.hid hf
  have Hb := Lib.hid hb0
  clear hf hb0 hw hm
  generalize (hdC h).toArray = C at *
  go_enter Try.func21, Try.ntmps21
  go_wp2_with (first
    | ((with_reducible refine wpList_load_row (o := ⟨some 10, .load 28 (.tmp 2), _, _, _, _⟩) rfl 28 (.tmp 2) rfl w.heap.size ?_ 28 C (0, 0) _ hat Try.underlying28 rfl hi ?_); exact rfl)
    | (go_at_call 39; refine (Hf.out _).mono ?_; rintro _ w1 ⟨rfl, hb1⟩))
  go_ret2
  exact ⟨rfl, up Hb.out hb1⟩
/-- What Write calls. -/
structure WrFacts (h : Hd) (data : List UInt8) (n s m : Nat) (F L : List UInt8) : Prop where
  put : ∀ (k : Nat) W, k < 65536 → Calls Try.prog 36 #[.slice none 0 0, .int .u64 (k : Int), .int .i64 2] W fun e w' => ∃ A2 c2, e = .returned (.slice A2 2 c2) ∧ Rd w' w'.heap.size (.slice A2 2 c2) (cellsB (be 2 k)) ∧ Below W.heap.size W w'
  first : ∀ W A2 c2, Rd W W.heap.size (.slice A2 2 c2) (cellsB (be 2 n)) → Calls Try.prog 37 #[.slice (some ⟨W.heap.size + 1 + 1, 0, none⟩) 3 3] (((W.alloc (.cells #[.int .u8 69, .int .u8 0] 5)).alloc (.cells #[.int .u8 0, .int .u8 0, .int .u8 0, .int .u8 0, .int .u8 (h.hops.toNat : Int), .int .u8 (h.proto.toNat : Int)] 5)).alloc (.cells #[.slice (some ⟨W.heap.size, 0, none⟩) 2 2, .slice A2 2 c2, .slice (some ⟨W.heap.size + 1, 0, none⟩) 6 6] 22)) fun e w' => ∃ A3 c3, e = .returned (.slice A3 10 c3) ∧ Rd w' w'.heap.size (.slice A3 10 c3) (cellsB F) ∧ Below W.heap.size W w'
  own : ∀ a : Ad, a = h.src ∨ a = h.dst → ∀ W, Calls Try.prog 38 #[.agg (adC a).toArray] W fun e w' => ∃ A4 c4, e = .returned (.slice A4 4 c4) ∧ Rd w' w'.heap.size (.slice A4 4 c4) (cellsB a.own) ∧ Below W.heap.size W w'
  last : ∀ W A4 c4 A5 c5, Rd W W.heap.size (.slice A4 4 c4) (cellsB h.src.own) → Rd W W.heap.size (.slice A5 4 c5) (cellsB h.dst.own) → Calls Try.prog 37 #[.slice (some ⟨W.heap.size, 0, none⟩) 2 2] (W.alloc (.cells #[.slice A4 4 c4, .slice A5 4 c5] 22)) fun e w' => ∃ A6 c6, e = .returned (.slice A6 8 c6) ∧ Rd w' w'.heap.size (.slice A6 8 c6) (cellsB L) ∧ Below W.heap.size W w'
  sum : ∀ W A3 c3 A6 c6, Rd W W.heap.size (.slice A3 10 c3) (cellsB F) → Rd W W.heap.size (.slice A6 8 c6) (cellsB L) → Calls Try.prog 40 #[.slice (some ⟨W.heap.size, 0, none⟩) 2 2] (W.alloc (.cells #[.slice A3 10 c3, .slice A6 8 c6] 22)) fun e w' => e = .returned (.int .u16 (s : Int)) ∧ W.alloc (.cells #[.slice A3 10 c3, .slice A6 8 c6] 22) = w'
  all : ∀ W A3 c3 A2 c2 A6 c6 A c, Rd W W.heap.size (.slice A3 10 c3) (cellsB F) → Rd W W.heap.size (.slice A2 2 c2) (cellsB (be 2 s)) → Rd W W.heap.size (.slice A6 8 c6) (cellsB L) → Rd W W.heap.size (.slice A m c) (cellsB data) → Calls Try.prog 37 #[.slice (some ⟨W.heap.size, 0, none⟩) 4 4] (W.alloc (.cells #[.slice A3 10 c3, .slice A2 2 c2, .slice A6 8 c6, .slice A m c] 22)) fun e w' => ∃ v', e = .returned v' ∧ Mine w' W.heap.size 5 v' (cellsB (ifBytes h data)) ∧ Below W.heap.size W w'
theorem wrFacts (h : Hd) (hw : h.Wide) (hm : h.may = true) (data : List UInt8) (hd : data.length ≤ 2028) : WrFacts h data (20 + data.length) (sumOf (ifFirst h (20 + data.length) ++ ifLast h)) data.length (ifFirst h (20 + data.length)) (ifLast h) := by
  have hmay := hm
  unfold Hd.may at hmay
  simp only [Bool.and_eq_true] at hmay
  obtain ⟨⟨⟨⟨_, h2⟩, h3⟩, _⟩, _⟩ := hmay
  obtain ⟨x, hx, _, ox⟩ := is4_form hw.1 h2
  obtain ⟨y, hy, _, oy⟩ := is4_form hw.2 h3
  have l1 : h.src.own.length = 4 := by rw [ox, hx]
  have l2 : h.dst.own.length = 4 := by rw [oy, hy]
  have lF : ∀ n, (ifFirst h n).length = 10 := fun n => by simp [ifFirst, be_length]
  have lL : (ifLast h).length = 8 := by simp [ifLast, l1, l2]
  refine ⟨?_, ?_, ?_, ?_, ?_, ?_⟩
  · intro k W hk
    refine (put_yes none 0 [] k 2 W W.heap.size (Rd.nil _ _) (Nat.le_refl _) (by simp) (by omega) (by omega)).mono ?_
    rintro e w' ⟨v, rfl, hv, hb⟩
    obtain ⟨A2, c2, rfl, hr⟩ := mine_slice (w := W) hv (n := 2) (by simp [be_length])
    exact ⟨A2, c2, rfl, hr, hb⟩
  · intro W A2 c2 hr
    have e1 := rd_lit W 5 [69, 0] (by simp)
    have e2 := rd_lit (W.alloc (.cells (cellsB [69, 0]).toArray 5)) 5 [0, 0, 0, 0, h.hops, h.proto] (by simp)
    have b1 := up_alloc (Below.refl W.heap.size W) (.cells (cellsB [69, 0]).toArray 5)
    have b2 := up_alloc b1 (.cells (cellsB [0, 0, 0, 0, h.hops, h.proto]).toArray 5)
    have hV : ((W.alloc (.cells (cellsB [69, 0]).toArray 5)).alloc (.cells (cellsB [0, 0, 0, 0, h.hops, h.proto]).toArray 5)).heap.size = W.heap.size + 1 + 1 := by simp
    have hV1 : (W.alloc (.cells (cellsB [69, 0]).toArray 5)).heap.size = W.heap.size + 1 := by simp
    have e1' := (e1.alloc (by rw [hV1]; exact Nat.le_refl _) (.cells (cellsB [0, 0, 0, 0, h.hops, h.proto]).toArray 5)).more (B' := W.heap.size + 1 + 1) (by omega)
    rw [hV1] at e2
    have hr' := (hr.below b2).more (B' := W.heap.size + 1 + 1) (by omega)
    have hc := bytes_three (w := (W.alloc (.cells (cellsB [69, 0]).toArray 5)).alloc (.cells (cellsB [0, 0, 0, 0, h.hops, h.proto]).toArray 5)) _ _ _ [69, 0] (be 2 (20 + data.length)) [0, 0, 0, 0, h.hops, h.proto] 22 (by rw [hV]; exact e1') (by rw [hV]; exact hr') (by rw [hV]; exact e2) (by simp [be_length])
    rw [hV] at hc
    refine hc.mono ?_
    rintro e w' ⟨v, rfl, hv, hb⟩
    rw [← List.append_assoc] at hv
    obtain ⟨A3, c3, rfl, hr3⟩ := mine_slice (w := W) hv (n := 10) (lF _)
    exact ⟨A3, c3, rfl, hr3, b2.trans (hb.mono (by omega))⟩
  · intro a ha W
    refine (adBytes_any a W (by rcases ha with rfl | rfl; exact hw.1; exact hw.2)).mono ?_
    rintro e w' ⟨v, rfl, hv, hb⟩
    obtain ⟨A4, c4, rfl, hr⟩ := mine_slice (w := W) hv (n := 4) (by rcases ha with rfl | rfl; exact l1; exact l2)
    exact ⟨A4, c4, rfl, hr, hb⟩
  · intro W A4 c4 A5 c5 h4 h5
    refine (bytes_two _ _ h.src.own h.dst.own 22 W W.heap.size h4 h5 (Nat.le_refl _) (by omega)).mono ?_
    rintro e w' ⟨v, rfl, hv, hb⟩
    obtain ⟨A6, c6, rfl, hr⟩ := mine_slice (w := W) hv (n := 8) lL
    exact ⟨A6, c6, rfl, hr, hb⟩
  · intro W A3 c3 A6 c6 h3 h6
    have := inSum_any (RdAll.lit2 W 22 _ _ _ _ h3 h6) (by simp [lF, lL])
    simpa using this
  · intro W A3 c3 A2 c2 A6 c6 A c h3 h2 h6 hA
    refine (bytes_four _ _ _ _ (ifFirst h (20 + data.length)) (be 2 (sumOf (ifFirst h (20 + data.length) ++ ifLast h))) (ifLast h) data 22 h3 h2 h6 hA (by rw [lF, be_length, lL]; omega)).mono ?_
    rintro e w' ⟨v, rfl, hv, hb⟩
    refine ⟨v, rfl, ?_, hb⟩
    unfold ifBytes
    simpa only [List.append_assoc] using hv
set_option maxRecDepth 100000 in
set_option maxHeartbeats 1000000 in
theorem ifWrite_ok (h : Hd) (hw : h.Wide) (hm : h.may = true) (A : Option Addr) (c : Nat) (data : List UInt8) (hd : data.length ≤ 2028) (w : World) (B : Nat) (hB : B ≤ w.heap.size) (hr : Rd w B (.slice A data.length c) (cellsB data)) :
    Calls Try.prog 21 #[hdV h, .slice A data.length c] w fun e w' => ∃ v, e = .returned (.tuple #[v, .int .i64 0]) ∧ Mine w' w.heap.size 5 v (cellsB (ifBytes h data)) ∧ Below w.heap.size w w' := by
  have hat : HdAt (w.alloc (.cells (hdC h).toArray 28)) w.heap.size h := heap_alloc_last w (.cells (hdC h).toArray 28)
  have hat0 := hat
  unfold HdAt at hat0
  have hb0 := up_alloc (Below.refl w.heap.size w) (.cells (hdC h).toArray 28)
  have hf := fun w => ifWritten_any h w hw
  have hi := info_hdA hw
  have i1 := info_ad hw.1
  have i2 := info_ad hw.2
  have H := wrFacts h hw hm data hd
  have hF : Hid (∀ W, Below (w.alloc (.cells (hdC h).toArray 28)).heap.size (w.alloc (.cells (hdC h).toArray 28)) W → W.cell? ⟨w.heap.size, 38, none⟩ = some (.int .u8 (h.hops.toNat : Int)) ∧ W.cell? ⟨w.heap.size, 1, none⟩ = some (.int .u8 (h.proto.toNat : Int)) ∧ W.rangeAt w.heap.size 3 (adC h.src) ∧ W.rangeAt w.heap.size 20 (adC h.dst)) := Lib.hid fun W hW => by
    have h1 : HdAt W w.heap.size h := hat.below hW (by simp)
    exact ⟨hdC_hops hw h1, hdC_proto h1, hdC_src h1, hdC_dst hw h1⟩
  have hD : Hid (∀ W, Below (w.alloc (.cells (hdC h).toArray 28)).heap.size (w.alloc (.cells (hdC h).toArray 28)) W → Rd W W.heap.size (.slice A data.length c) (cellsB data) ∧ Below w.heap.size w W) := Lib.hid fun W hW => ⟨(hr.below ((up hb0 hW).mono hB)).more (by have := (up hb0 hW).size; omega), up hb0 hW⟩
  rw [hdV] at hf ⊢
  rw [hm] at hf
  obtain ⟨m, hm'⟩ : ∃ m, m = data.length := ⟨_, rfl⟩
  obtain ⟨n, hn⟩ : ∃ n, n = 20 + data.length := ⟨_, rfl⟩
  rw [← hn] at H
  obtain ⟨s, hs⟩ : ∃ s, s = sumOf (ifFirst h n ++ ifLast h) := ⟨_, rfl⟩
  have hsl : s ≤ 65535 := by rw [hs]; exact sumOf_le _
  rw [← hs] at H
  have hwn : IntKind.i64.wrap (20 + (m : Int)) = (n : Int) := by rw [IntWalk.i64_in _ (by omega)]; omega
  have hwu : IntKind.u64.wrap (n : Int) = (n : Int) := IntWalk.u64_in _ (by omega)
  have hws : IntKind.u64.wrap (s : Int) = (s : Int) := IntWalk.u64_in _ (by omega)
  have HP1 := Lib.hid (fun W => H.put n W (by omega))
  have HP2 := Lib.hid (fun W => H.put s W (by omega))
  have Hf := Lib.hid hf
  have hd2 : (m : Int) ≤ 2028 := by omega
  rw [← hm'] at H hD ⊢
  have H1 := Lib.hid H.first
  have H2 := Lib.hid (H.own h.src (.inl rfl))
  have H3 := Lib.hid (H.own h.dst (.inr rfl))
  have H4 := Lib.hid H.last
  have H5 := Lib.hid H.sum
  have H6 := Lib.hid H.all
  clear hm' hn hs hf hb0 hw hm hat hd H hr hsl
  generalize ifFirst h n = F at *
  generalize ifLast h = L at *
  generalize hC1 : adC h.src = C1 at *
  generalize hC2 : adC h.dst = C2 at *
  generalize (hdC h).toArray = C at *
  clear hC1 hC2
  go_enter Try.func21, Try.ntmps21
  go_wp2_with (first
    | ((with_reducible refine wpList_load_row (o := ⟨some 10, .load 28 (.tmp 2), _, _, _, _⟩) rfl 28 (.tmp 2) rfl w.heap.size ?_ 28 C (0, 0) _ hat0 Try.underlying28 rfl hi ?_); exact rfl)
    | (go_at_call 39; refine (Hf.out _).mono ?_; rintro _ w1 ⟨rfl, hb1⟩; have HB1 := Lib.hid hb1; clear hb1)
    | (go_at_call 36; refine (HP1.out _).mono ?_; rintro _ w2 ⟨A2, c2, rfl, hr2, hb2⟩; have HB2 := Lib.hid (up HB1.out hb2); have HR2 := Lib.hid hr2; clear hr2 hb2; obtain ⟨k38, k1, _, _⟩ := hF.out _ (up_alloc HB2.out (.cells #[.int .u8 69, .int .u8 0] 5)))
    | (go_at_call 37; refine (H1.out _ _ _ HR2.out).mono ?_; rintro _ w3 ⟨A3, c3, rfl, hr3, hb3⟩; have HB3 := Lib.hid (up HB2.out hb3); have HR3 := Lib.hid hr3; clear hr3 hb3 k38 k1; have k3 := (hF.out _ HB3.out).2.2))
  refine wp_region_held_drew (S := fun w' => w'.rangeAt w.heap.size 3 C1 ∧ w'.rangeAt w.heap.size 20 C2) (by kernel_rfl) k3 (fun hHeld => ?_)
  refine' wpAnyH_take (i := 0) (oi := ⟨some 30, .fieldAddr 28 (.tmp 2) 3, _, _, _, none⟩) (v := _) rfl (by kernel_rfl) (by kernel_rfl) (by kernel_rfl) (fun _ _ _ h => h) (Or.inl ⟨by rfl, ?hy1⟩) (by assumption) ?rest1
  case hy1 => (intro w hSw; obtain _ := hSw; go_simp <;> with_reducible rfl)
  case rest1 =>
  go_frame
  refine' wpAnyH_take (i := 1) (oi := ⟨some 31, .load 26 (.tmp 30), _, _, _, none⟩) (v := .agg C1.toArray) rfl (by kernel_rfl) (by kernel_rfl) (by kernel_rfl) (fun _ _ _ h => h) (Or.inl ⟨by rfl, ?hy2⟩) (by assumption) ?rest2
  case hy2 => (intro wy hSw; exact exec_load (t := 26) (x := .tmp 30) rfl (pv := .pointer (some ⟨w.heap.size, 3, none⟩)) rfl (run_loadAt_mid wy w.heap.size 3 26 C1 _ hSw.1 Try.underlying26 rfl i1))
  case rest2 =>
  go_frame
  refine' wpAnyH_take (i := 3) (oi := ⟨some 33, .fieldAddr 28 (.tmp 2) 4, _, _, _, none⟩) (v := _) rfl (by kernel_rfl) (by kernel_rfl) (by kernel_rfl) (fun _ _ _ h => h) (Or.inl ⟨by rfl, ?hy3⟩) (by assumption) ?rest3
  case hy3 => (intro w hSw; obtain _ := hSw; go_simp <;> with_reducible rfl)
  case rest3 =>
  go_frame
  refine' wpAnyH_take (i := 4) (oi := ⟨some 34, .load 26 (.tmp 33), _, _, _, none⟩) (v := .agg C2.toArray) rfl (by kernel_rfl) (by kernel_rfl) (by kernel_rfl) (fun _ _ _ h => h) (Or.inl ⟨by rfl, ?hy4⟩) (by assumption) ?rest4
  case hy4 => (intro wy hSw; exact exec_load (t := 26) (x := .tmp 33) rfl (pv := .pointer (some ⟨w.heap.size, 20, none⟩)) rfl (run_loadAt_mid wy w.heap.size 20 26 C2 _ hSw.2 Try.underlying26 rfl i2))
  case rest4 =>
  go_frame
  refine wpAnyH_ready (rs := [2]) (by kernel_rfl) (by simp) (AllReadyH.cons (o := ⟨some 32, .call { callee := .value (.func 38), args := #[.tmp 31], argTypes := #[26] }, _, _, _, none⟩) rfl (fun K hK => ?_) AllReadyH.nil)
  rw [if_pos (by rfl)]
  go_simp
  refine (H2.out _).mono ?_
  rintro _ w4 ⟨A4, c4, rfl, hr4, hb4⟩
  have HB34 := Lib.hid (drew_start hb4)
  have HB4 := Lib.hid (up HB3.out HB34.out)
  have HR4 := Lib.hid hr4
  clear hr4 hb4
  dsimp only
  refine hK.out _ _ ((hF.out _ HB4.out).2.2) (fun _ => ?_)
  clear hK K
  try go_frame
  refine wpAnyH_ready (rs := [5]) (by kernel_rfl) (by simp) (AllReadyH.cons (o := ⟨some 35, .call { callee := .value (.func 38), args := #[.tmp 34], argTypes := #[26] }, _, _, _, none⟩) rfl (fun K hK => ?_) AllReadyH.nil)
  rw [if_pos (by rfl)]
  go_simp
  refine (H3.out _).mono ?_
  rintro _ w5 ⟨A5, c5, rfl, hr5, hb5⟩
  have HB45 := Lib.hid hb5
  have HB5 := Lib.hid (up HB4.out hb5)
  have HR5 := Lib.hid hr5
  clear hr5 hb5
  dsimp only
  refine hK.out _ _ ((hF.out _ HB5.out).2.2) (fun _ => ?_)
  clear hK K
  try go_frame
  refine wpAnyH_ready (rs := [6]) (by kernel_rfl) (by simp) (AllReadyH.cons (o := ⟨some 36, .buildSlice 85 2 #[(0, .tmp 32), (1, .tmp 35)], _, _, _, none⟩) rfl (fun K hK => ?_) AllReadyH.nil)
  rw [if_pos (by rfl)]
  go_simp
  refine hK.out _ _ ((hF.out _ (up_alloc HB5.out _)).2.2) (fun _ => ?_)
  clear hK K
  try go_frame
  refine wpAnyH_ready (rs := [7]) (by kernel_rfl) (by simp) (AllReadyH.cons (o := ⟨some 37, .call { callee := .value (.func 37), args := #[.tmp 36], argTypes := #[85] }, _, _, _, none⟩) rfl (fun K hK => ?_) AllReadyH.nil)
  rw [if_pos (by rfl)]
  go_simp
  refine (H4.out _ _ _ _ _ ((HR4.out.below HB45.out).more HB45.out.size) HR5.out).mono ?_
  rintro _ w6 ⟨A6, c6, rfl, hr6, hb6⟩
  have HB36 := Lib.hid (up (up HB34.out HB45.out) hb6)
  have HB6 := Lib.hid (up HB5.out hb6)
  have HR6 := Lib.hid hr6
  clear hr6 hb6
  dsimp only
  refine hK.out _ _ ((hF.out _ HB6.out).2.2) (fun _ => ?_)
  clear hK K
  try go_frame
  refine' wpAnyH_take (i := 8) (oi := ⟨some 8, .assign (.tmp 37), _, _, _, none⟩) (v := _) rfl (by kernel_rfl) (by kernel_rfl) (by kernel_rfl) (fun _ _ _ h => h) (Or.inl ⟨by rfl, ?hy5⟩) (by assumption) ?rest5
  case hy5 => (intro w hSw; obtain _ := hSw; go_simp <;> with_reducible rfl)
  case rest5 =>
  go_frame
  refine wpAnyH_done (by kernel_rfl) ?_ _
  clear k3
  go_wp2_with (first
    | (go_at_call 37; refine (H6.out _ _ _ _ _ _ _ _ _ ((HR3.out.below (HB36.out.trans (HB67.out.mono HB36.out.size))).more (HB36.out.trans (HB67.out.mono HB36.out.size)).size) HR7.out ((HR6.out.below HB67.out).more HB67.out.size) (hD.out _ HB7.out).1).mono ?_; rintro _ w8 ⟨v8, rfl, hv8, hb8⟩; have HT := Lib.hid (And.intro hv8 hb8); clear hv8 hb8)
    | (go_at_call 40; refine (H5.out _ _ _ _ _ ((HR3.out.below HB36.out).more HB36.out.size) HR6.out).mono ?_; rintro _ wx ⟨rfl, rfl⟩)
    | (go_at_call 36; refine (HP2.out _).mono ?_; rintro _ w7 ⟨A7, c7, rfl, hr7, hb7⟩; have HB67 := Lib.hid (up (up_alloc (Below.refl _ _) _) hb7); have HB7 := Lib.hid (up HB6.out HB67.out); have HR7 := Lib.hid hr7; clear hr7 hb7))
  go_ret2
  have hfin := (hD.out _ HB7.out).2
  exact ⟨_, rfl, HT.out.1.weaken hfin.size, up hfin HT.out.2⟩
end Go.Proofs.Ytpgibabgedokpaa
