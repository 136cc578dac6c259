/-
  Which heads may be written: contracts of four, written.
-/
import Derived.Test.YtepibdjglfaniaaIfA
import Derived.Test.YtepibdjglfaniaaAdC
namespace Go.Proofs.Ytepibdjglfaniaa
open Go.RowKit
set_option maxRecDepth 100000 in
theorem ifFour_any (a : Ad) (w : World) (ha : a.Wide) : Calls Try.prog 27 #[adV a] w fun e w' => e = .returned (.bool (is4 a)) ∧ Below w.heap.size w w' := by
  have hw := heap_alloc_last w (.cells (adC a).toArray 26)
  have h0 := adC_six hw
  have hr : (w.alloc (.cells (adC a).toArray 26)).rangeAt w.heap.size 0 (adC a) := rangeAt_block hw fun j u hu => by rw [Nat.zero_add]; exact hu
  have hg := fun w => adGood_any a w ha
  have hi := info_ad ha
  have hb0 := up_alloc (Below.refl w.heap.size w) (.cells (adC a).toArray 26)
  unfold is4
  rw [adV] at hg ⊢
  generalize a.six = s at h0 ⊢
  generalize a.good = g at hg ⊢
  have Hg := Lib.hid hg
  have Hb := Lib.hid hb0
  clear hw hg hb0
  generalize adC a = C at *
  cases s
  · go_enter Try.func27, Try.ntmps27
    go_wp2_with (first
      | ((with_reducible refine wpList_load_mid_g (op := ⟨some 7, .load 26 (.tmp 1), _, _, _, _⟩) ?_ 26 (.tmp 1) rfl w.heap.size 0 ?_ C _ hr Try.underlying26 rfl hi ?_); rfl; exact rfl)
      | (go_at_call 35; refine (Hg.out _).mono ?_; rintro _ w1 ⟨rfl, hb1⟩))
    go_ret
    exact ⟨rfl, up Hb.out hb1⟩
  · go_enter Try.func27, Try.ntmps27
    go_wp2_with fail
    go_ret
    exact ⟨rfl, Hb.out⟩
set_option maxRecDepth 100000 in
set_option maxHeartbeats 1000000 in
theorem ifWritten_any (h : Hd) (w : World) (hw : h.Wide) : Calls Try.prog 18 #[hdV h] w fun e w' => e = .returned (.bool h.may) ∧ Below w.heap.size w w' := by
  have hat : HdAt (w.alloc (.cells (hdC h).toArray 28)) w.heap.size h := heap_alloc_last w (.cells (hdC h).toArray 28)
  have hF : Hid (∀ W, Below (w.alloc (.cells (hdC h).toArray 28)).heap.size (w.alloc (.cells (hdC h).toArray 28)) W → HdAt W w.heap.size h ∧ Below w.heap.size w W) := Lib.hid fun W hW => ⟨hat.below hW (by simp), up (up_alloc (Below.refl w.heap.size w) _) hW⟩
  have c0 := hdC_six hat
  have r3 := hdC_src hat
  have hsrc := fun w => ifFour_any h.src w hw.1
  have hdst := fun w => ifFour_any h.dst w hw.2
  have i1 := info_ad hw.1
  have i2 := info_ad hw.2
  have hR : Hid (∀ W, Below (w.alloc (.cells (hdC h).toArray 28)).heap.size (w.alloc (.cells (hdC h).toArray 28)) W → W.rangeAt w.heap.size 20 (adC h.dst) ∧ W.cell? ⟨w.heap.size, 38, none⟩ = some (.int .u8 (h.hops.toNat : Int)) ∧ W.cell? ⟨w.heap.size, 37, none⟩ = some (.bool h.part)) := Lib.hid fun W hW => by
    have h1 := (hF.out W hW).1
    exact ⟨hdC_dst hw h1, hdC_hops hw h1, hdC_part hw h1⟩
  have hB : Hid (∀ W, Below (w.alloc (.cells (hdC h).toArray 28)).heap.size (w.alloc (.cells (hdC h).toArray 28)) W → Below w.heap.size w W) := Lib.hid fun W hW => (hF.out W hW).2
  have hm : h.may = (!h.six && is4 h.src && is4 h.dst && (h.hops != 0) && !h.part) := rfl
  have hk : ((h.hops.toNat : Int) != 0) = (h.hops != 0) := by
    by_cases e : h.hops = 0
    · rw [e]; rfl
    · have : h.hops.toNat ≠ 0 := fun e2 => e (UInt8.toNat_inj.1 e2)
      rw [show (h.hops != 0) = true by simpa using e]
      simp; omega
  rw [hm]
  rw [hdV]
  rw [adV] at hsrc hdst
  generalize is4 h.src = b1 at hsrc ⊢
  generalize is4 h.dst = b2 at hdst ⊢
  generalize h.part = b3 at hR ⊢
  generalize h.six = b0 at c0 ⊢
  generalize (h.hops != 0) = b4 at hk ⊢
  generalize (h.hops.toNat : Int) = kh at hk hR
  generalize hC : (hdC h).toArray = C at *
  generalize adC h.src = C1 at *
  generalize adC h.dst = C2 at *
  have Hs := Lib.hid hsrc
  have Hd' := Lib.hid hdst
  clear hsrc hdst hat hF hw hm hC
  cases b0
  · cases b1
    · go_enter Try.func18, Try.ntmps18
      go_wp2_with (first
        | ((with_reducible refine wpList_load_mid_g (op := ⟨some 8, .load 26 (.tmp 7), _, _, _, _⟩) ?_ 26 (.tmp 7) rfl w.heap.size 3 ?_ C1 _ r3 Try.underlying26 rfl i1 ?_); rfl; exact rfl)
        | (go_at_call 27; refine (Hs.out _).mono ?_; rintro _ w1 ⟨rfl, hb1⟩))
      go_ret
      exact ⟨rfl, hB.out _ hb1⟩
    · cases b2
      · go_enter Try.func18, Try.ntmps18
        go_wp2_with (first
          | ((with_reducible refine wpList_load_mid_g (op := ⟨some 8, .load 26 (.tmp 7), _, _, _, _⟩) ?_ 26 (.tmp 7) rfl w.heap.size 3 ?_ C1 _ r3 Try.underlying26 rfl i1 ?_); rfl; exact rfl)
          | ((with_reducible refine wpList_load_mid_g (op := ⟨some 13, .load 26 (.tmp 12), _, _, _, _⟩) ?_ 26 (.tmp 12) rfl w.heap.size 20 ?_ C2 _ r20 Try.underlying26 rfl i2 ?_); rfl; exact rfl)
          | (go_at_call 27; have hk1 := HB1; clear hk1; refine (Hd'.out _).mono ?_; rintro _ w2 ⟨rfl, hb2⟩; have HB2 := Lib.hid (up HB1.out hb2); clear hb2; obtain ⟨_, k38, k37⟩ := hR.out _ HB2.out)
          | (go_at_call 27; refine (Hs.out _).mono ?_; rintro _ w1 ⟨rfl, hb1⟩; have r20 := (hR.out _ hb1).1; have HB1 := Lib.hid hb1; clear hb1))
        go_ret
        exact ⟨rfl, hB.out _ HB2.out⟩
      · cases b4
        · go_enter Try.func18, Try.ntmps18
          go_wp2_with (first
            | ((with_reducible refine wpList_load_mid_g (op := ⟨some 8, .load 26 (.tmp 7), _, _, _, _⟩) ?_ 26 (.tmp 7) rfl w.heap.size 3 ?_ C1 _ r3 Try.underlying26 rfl i1 ?_); rfl; exact rfl)
            | ((with_reducible refine wpList_load_mid_g (op := ⟨some 13, .load 26 (.tmp 12), _, _, _, _⟩) ?_ 26 (.tmp 12) rfl w.heap.size 20 ?_ C2 _ r20 Try.underlying26 rfl i2 ?_); rfl; exact rfl)
            | (go_at_call 27; have hk1 := HB1; clear hk1; refine (Hd'.out _).mono ?_; rintro _ w2 ⟨rfl, hb2⟩; have HB2 := Lib.hid (up HB1.out hb2); clear hb2; obtain ⟨_, k38, k37⟩ := hR.out _ HB2.out)
            | (go_at_call 27; refine (Hs.out _).mono ?_; rintro _ w1 ⟨rfl, hb1⟩; have r20 := (hR.out _ hb1).1; have HB1 := Lib.hid hb1; clear hb1))
          go_ret
          exact ⟨rfl, hB.out _ HB2.out⟩
        · cases b3
          · go_enter Try.func18, Try.ntmps18
            go_wp2_with (first
              | ((with_reducible refine wpList_load_mid_g (op := ⟨some 8, .load 26 (.tmp 7), _, _, _, _⟩) ?_ 26 (.tmp 7) rfl w.heap.size 3 ?_ C1 _ r3 Try.underlying26 rfl i1 ?_); rfl; exact rfl)
              | ((with_reducible refine wpList_load_mid_g (op := ⟨some 13, .load 26 (.tmp 12), _, _, _, _⟩) ?_ 26 (.tmp 12) rfl w.heap.size 20 ?_ C2 _ r20 Try.underlying26 rfl i2 ?_); rfl; exact rfl)
              | (go_at_call 27; have hk1 := HB1; clear hk1; refine (Hd'.out _).mono ?_; rintro _ w2 ⟨rfl, hb2⟩; have HB2 := Lib.hid (up HB1.out hb2); clear hb2; obtain ⟨_, k38, k37⟩ := hR.out _ HB2.out)
              | (go_at_call 27; refine (Hs.out _).mono ?_; rintro _ w1 ⟨rfl, hb1⟩; have r20 := (hR.out _ hb1).1; have HB1 := Lib.hid hb1; clear hb1))
            go_ret
            exact ⟨rfl, hB.out _ HB2.out⟩
          · go_enter Try.func18, Try.ntmps18
            go_wp2_with (first
              | ((with_reducible refine wpList_load_mid_g (op := ⟨some 8, .load 26 (.tmp 7), _, _, _, _⟩) ?_ 26 (.tmp 7) rfl w.heap.size 3 ?_ C1 _ r3 Try.underlying26 rfl i1 ?_); rfl; exact rfl)
              | ((with_reducible refine wpList_load_mid_g (op := ⟨some 13, .load 26 (.tmp 12), _, _, _, _⟩) ?_ 26 (.tmp 12) rfl w.heap.size 20 ?_ C2 _ r20 Try.underlying26 rfl i2 ?_); rfl; exact rfl)
              | (go_at_call 27; have hk1 := HB1; clear hk1; refine (Hd'.out _).mono ?_; rintro _ w2 ⟨rfl, hb2⟩; have HB2 := Lib.hid (up HB1.out hb2); clear hb2; obtain ⟨_, k38, k37⟩ := hR.out _ HB2.out)
              | (go_at_call 27; refine (Hs.out _).mono ?_; rintro _ w1 ⟨rfl, hb1⟩; have r20 := (hR.out _ hb1).1; have HB1 := Lib.hid hb1; clear hb1))
            go_ret
            exact ⟨rfl, hB.out _ HB2.out⟩
  · go_enter Try.func18, Try.ntmps18
    go_wp2_with fail
    go_ret
    exact ⟨rfl, hB.out _ (Below.refl _ _)⟩
end Go.Proofs.Ytepibdjglfaniaa
