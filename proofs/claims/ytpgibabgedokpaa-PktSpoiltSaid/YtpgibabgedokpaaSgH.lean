/-
  Write of a segment: contracts.
-/
import Derived.Test.YtpgibabgedokpaaSgG
import Derived.Test.YtpgibabgedokpaaSgE
namespace Go.Proofs.Ytpgibabgedokpaa
open Go.RowKit
/-- What Write looks at, and calls. -/
structure SgwFacts (h : Hd) (s : Sg) (w X : World) (C SC C1 C2 CH : List Value) (r1 r2 r3 : Bool) : Prop where
  below : Below w.heap.size w X
  at_ : ∀ W, Below X.heap.size X W → W.cell? ⟨w.heap.size, 1, none⟩ = some (.int .u8 (h.proto.toNat : Int)) ∧ W.heap[w.heap.size]? = some (.cells CH.toArray 28 (0, 0)) ∧ W.heap[w.heap.size + 1]? = some (.cells SC.toArray 31 (0, 0)) ∧ W.rangeAt w.heap.size 0 C ∧ W.rangeAt w.heap.size 3 C1 ∧ W.rangeAt w.heap.size 20 C2
  ported : ∀ W, Calls Try.prog 25 #[.agg SC.toArray] W fun e w' => e = .returned (.bool r1) ∧ Below W.heap.size W w'
  src : ∀ W, Calls Try.prog 32 #[.agg CH.toArray, .agg C1.toArray] W fun e w' => e = .returned (.bool r2) ∧ Below W.heap.size W w'
  dst : ∀ W, Calls Try.prog 32 #[.agg CH.toArray, .agg C2.toArray] W fun e w' => e = .returned (.bool r3) ∧ Below W.heap.size W w'
  hi : (Try.prog.info? 28).map (·.size) = some C.length
  hiA : (Try.prog.info? 28).map (·.size) = some CH.toArray.size
  hsi : (Try.prog.info? 31).map (·.size) = some SC.toArray.size
  i1 : (Try.prog.info? 26).map (·.size) = some C1.length
  i2 : (Try.prog.info? 26).map (·.size) = some C2.length
theorem sgwFacts (h : Hd) (hw : h.Wide) (s : Sg) (w : World) : SgwFacts h s w ((w.alloc (.cells (hdC h).toArray 28)).alloc (.cells (sgC s).toArray 31)) (hdC h) (sgC s) (adC h.src) (adC h.dst) (hdC h) (s.src != 0 && s.dst != 0) (h.src.six == h.six && h.src.good) (h.dst.six == h.six && h.dst.good) := by
  have hat1 : HdAt ((w.alloc (.cells (hdC h).toArray 28)).alloc (.cells (sgC s).toArray 31)) w.heap.size h := (heap_alloc_old _ _ (by simp)).trans (heap_alloc_last w _)
  have hat2 : SgAt ((w.alloc (.cells (hdC h).toArray 28)).alloc (.cells (sgC s).toArray 31)) (w.heap.size + 1) s := by
    have := heap_alloc_last (w.alloc (.cells (hdC h).toArray 28)) (.cells (sgC s).toArray 31)
    rwa [show (w.alloc (.cells (hdC h).toArray 28)).heap.size = w.heap.size + 1 by simp] at this
  refine ⟨up_alloc (up_alloc (Below.refl _ _) _) _, fun W hW => ?_, fun W => sgPorted_any s W, fun W => sgFits_any h hw h.src hw.1 W, fun W => sgFits_any h hw h.dst hw.2 W, info_hd hw, info_hdA hw, info_sgA s, info_ad hw.1, info_ad hw.2⟩
  have h1 : HdAt W w.heap.size h := hat1.below hW (by simp; omega)
  exact ⟨hdC_proto h1, h1, hat2.below hW (by simp), rangeAt_block h1 fun j u hu => by rw [Nat.zero_add]; exact hu, hdC_src h1, hdC_dst hw h1⟩
theorem sgMay_is (h : Hd) (s : Sg) : sgMay h s = ((s.src != 0 && s.dst != 0) && (h.src.six == h.six && h.src.good) && (h.dst.six == h.six && h.dst.good)) := by
  unfold sgMay
  cases (s.src != 0) <;> cases (s.dst != 0) <;> cases (h.src.six == h.six) <;> cases (h.dst.six == h.six) <;> cases h.src.good <;> cases h.dst.good <;> rfl
set_option maxRecDepth 100000 in
set_option maxHeartbeats 1000000 in
theorem sgWrite_none (h : Hd) (hw : h.Wide) (s : Sg) (h6 : h.proto ≠ 6) (h17 : h.proto ≠ 17) (v : Value) (w : World) :
    Calls Try.prog 19 #[hdV h, sgV s, v] w fun e w' => e = .returned (.tuple #[.slice none 0 0, .int .i64 6]) ∧ Below w.heap.size w w' := by
  have HH := sgwFacts h hw s w
  obtain ⟨c1, _⟩ := HH.at_ _ (Below.refl _ _)
  have hb := Lib.hid HH.below
  have k6 : ((h.proto.toNat : Int) != 6) = true := by have := u8_ne h6; rw [bne, show ((h.proto.toNat : Int) == 6) = false from this]; rfl
  have k17 : ((h.proto.toNat : Int) != 17) = true := by have := u8_ne h17; rw [bne, show ((h.proto.toNat : Int) == 17) = false from this]; rfl
  unfold hdV sgV
  clear HH h6 h17 hw
  generalize (hdC h).toArray = C at *
  generalize (sgC s).toArray = SC at *
  generalize h.proto.toNat = p at *
  go_enter Try.func19, Try.ntmps19
  go_wp2_with fail
  go_ret2
  exact ⟨rfl, hb.out⟩
set_option maxRecDepth 100000 in
set_option maxHeartbeats 1000000 in
theorem sgWrite_arg (h : Hd) (hw : h.Wide) (s : Sg) (hp : h.proto = 6 ∨ h.proto = 17) (hm : sgMay h s = false) (v : Value) (w : World) :
    Calls Try.prog 19 #[hdV h, sgV s, v] w fun e w' => e = .returned (.tuple #[.slice none 0 0, .int .i64 1]) ∧ Below w.heap.size w w' := by
  obtain ⟨X, hX⟩ : ∃ X, X = (w.alloc (.cells (hdC h).toArray 28)).alloc (.cells (sgC s).toArray 31) := ⟨_, rfl⟩
  have HH := sgwFacts h hw s w
  rw [← hX] at HH
  obtain ⟨c1, hat1, hat2, hr0, _, _⟩ := HH.at_ _ (Below.refl _ _)
  have HA := Lib.hid HH.at_
  have hXb := Lib.hid HH.below
  have hi := HH.hi
  have hiA := HH.hiA
  have hsi := HH.hsi
  have i1 := HH.i1
  have i2 := HH.i2
  have HP := Lib.hid HH.ported
  have H1 := Lib.hid HH.src
  have H2 := Lib.hid HH.dst
  rw [sgMay_is] at hm
  clear HH hw
  unfold hdV sgV
  generalize hdC h = CH at *
  generalize sgC s = SC at *
  generalize adC h.src = C1 at *
  generalize adC h.dst = C2 at *
  generalize (s.src != 0 && s.dst != 0) = r1 at *
  generalize (h.src.six == h.six && h.src.good) = r2 at *
  generalize (h.dst.six == h.six && h.dst.good) = r3 at *
  rcases hp with hp | hp
  · have c6 : X.cell? ⟨w.heap.size, 1, none⟩ = some (.int .u8 6) := by rw [c1, hp]; rfl
    clear hp c1
    subst hX
    cases r1 with
    | false =>
      go_enter Try.func19, Try.ntmps19
      go_wp2_with (first
        | ((with_reducible refine wpList_load_row (o := ⟨some 16, .load 31 (.tmp 4), _, _, _, _⟩) rfl 31 (.tmp 4) rfl (w.heap.size + 1) ?_ 31 SC.toArray (0, 0) _ hat2 Try.underlying31 rfl hsi ?_); exact rfl)
        | (go_at_call 25; refine (HP.out _).mono ?_; rintro _ wp ⟨rfl, hb⟩; have HBP := Lib.hid hb; obtain ⟨_, _, _, hr1, hs1, _⟩ := HA.out _ HBP.out; clear hb HP hat1 hat2 hr0))
      go_ret2
      exact ⟨rfl, up hXb.out HBP.out⟩
    | true =>
      cases r2 with
      | false =>
        go_enter Try.func19, Try.ntmps19
        go_wp2_with (first
          | ((with_reducible refine wpList_load_row (o := ⟨some 16, .load 31 (.tmp 4), _, _, _, _⟩) rfl 31 (.tmp 4) rfl (w.heap.size + 1) ?_ 31 SC.toArray (0, 0) _ hat2 Try.underlying31 rfl hsi ?_); exact rfl)
          | (go_at_call 25; refine (HP.out _).mono ?_; rintro _ wp ⟨rfl, hb⟩; have HBP := Lib.hid hb; obtain ⟨_, _, _, hr1, hs1, _⟩ := HA.out _ HBP.out; clear hb HP hat1 hat2 hr0)
          | ((with_reducible refine wpList_load_mid_g (op := ⟨some 20, .load 28 (.tmp 3), _, _, _, _⟩) (by kernel_rfl) 28 (.tmp 3) rfl w.heap.size 0 ?_ CH _ hr1 Try.underlying28 rfl hi ?_); exact rfl)
          | ((with_reducible refine wpList_load_mid_g (op := ⟨some 22, .load 26 (.tmp 21), _, _, _, _⟩) (by kernel_rfl) 26 (.tmp 21) rfl w.heap.size 3 ?_ C1 _ hs1 Try.underlying26 rfl i1 ?_); exact rfl)
          | (go_at_call 32; refine (H1.out _).mono ?_; rintro _ wq ⟨rfl, hb⟩; have HBQ := Lib.hid (up HBP.out hb); obtain ⟨_, _, _, hr2, _, hs2⟩ := HA.out _ HBQ.out; clear hb H1 hr1 hs1))
        go_ret2
        exact ⟨rfl, up hXb.out HBQ.out⟩
      | true =>
        cases r3 with
        | false =>
          go_enter Try.func19, Try.ntmps19
          go_wp2_with (first
            | ((with_reducible refine wpList_load_row (o := ⟨some 16, .load 31 (.tmp 4), _, _, _, _⟩) rfl 31 (.tmp 4) rfl (w.heap.size + 1) ?_ 31 SC.toArray (0, 0) _ hat2 Try.underlying31 rfl hsi ?_); exact rfl)
            | (go_at_call 25; refine (HP.out _).mono ?_; rintro _ wp ⟨rfl, hb⟩; have HBP := Lib.hid hb; obtain ⟨_, _, _, hr1, hs1, _⟩ := HA.out _ HBP.out; clear hb HP hat1 hat2 hr0)
            | ((with_reducible refine wpList_load_mid_g (op := ⟨some 20, .load 28 (.tmp 3), _, _, _, _⟩) (by kernel_rfl) 28 (.tmp 3) rfl w.heap.size 0 ?_ CH _ hr1 Try.underlying28 rfl hi ?_); exact rfl)
            | ((with_reducible refine wpList_load_mid_g (op := ⟨some 22, .load 26 (.tmp 21), _, _, _, _⟩) (by kernel_rfl) 26 (.tmp 21) rfl w.heap.size 3 ?_ C1 _ hs1 Try.underlying26 rfl i1 ?_); exact rfl)
            | (go_at_call 32; have hx1 := HBQ; clear hx1; refine (H2.out _).mono ?_; rintro _ wr ⟨rfl, hb⟩; have HBR := Lib.hid (up HBQ.out hb); obtain ⟨c1r, hatr, hatsr, _, _, _⟩ := HA.out _ HBR.out; clear hb hr2 hs2)
            | (go_at_call 32; refine (H1.out _).mono ?_; rintro _ wq ⟨rfl, hb⟩; have HBQ := Lib.hid (up HBP.out hb); obtain ⟨_, _, _, hr2, _, hs2⟩ := HA.out _ HBQ.out; clear hb H1 hr1 hs1)
            | ((with_reducible refine wpList_load_mid_g (op := ⟨some 27, .load 28 (.tmp 3), _, _, _, _⟩) (by kernel_rfl) 28 (.tmp 3) rfl w.heap.size 0 ?_ CH _ hr2 Try.underlying28 rfl hi ?_); exact rfl)
            | ((with_reducible refine wpList_load_mid_g (op := ⟨some 29, .load 26 (.tmp 28), _, _, _, _⟩) (by kernel_rfl) 26 (.tmp 28) rfl w.heap.size 20 ?_ C2 _ hs2 Try.underlying26 rfl i2 ?_); exact rfl))
          go_ret2
          exact ⟨rfl, up hXb.out HBR.out⟩
        | true => exact absurd hm (by decide)
  · have c6 : X.cell? ⟨w.heap.size, 1, none⟩ = some (.int .u8 17) := by rw [c1, hp]; rfl
    clear hp c1
    subst hX
    cases r1 with
    | false =>
      go_enter Try.func19, Try.ntmps19
      go_wp2_with (first
        | ((with_reducible refine wpList_load_row (o := ⟨some 16, .load 31 (.tmp 4), _, _, _, _⟩) rfl 31 (.tmp 4) rfl (w.heap.size + 1) ?_ 31 SC.toArray (0, 0) _ hat2 Try.underlying31 rfl hsi ?_); exact rfl)
        | (go_at_call 25; refine (HP.out _).mono ?_; rintro _ wp ⟨rfl, hb⟩; have HBP := Lib.hid hb; obtain ⟨_, _, _, hr1, hs1, _⟩ := HA.out _ HBP.out; clear hb HP hat1 hat2 hr0))
      go_ret2
      exact ⟨rfl, up hXb.out HBP.out⟩
    | true =>
      cases r2 with
      | false =>
        go_enter Try.func19, Try.ntmps19
        go_wp2_with (first
          | ((with_reducible refine wpList_load_row (o := ⟨some 16, .load 31 (.tmp 4), _, _, _, _⟩) rfl 31 (.tmp 4) rfl (w.heap.size + 1) ?_ 31 SC.toArray (0, 0) _ hat2 Try.underlying31 rfl hsi ?_); exact rfl)
          | (go_at_call 25; refine (HP.out _).mono ?_; rintro _ wp ⟨rfl, hb⟩; have HBP := Lib.hid hb; obtain ⟨_, _, _, hr1, hs1, _⟩ := HA.out _ HBP.out; clear hb HP hat1 hat2 hr0)
          | ((with_reducible refine wpList_load_mid_g (op := ⟨some 20, .load 28 (.tmp 3), _, _, _, _⟩) (by kernel_rfl) 28 (.tmp 3) rfl w.heap.size 0 ?_ CH _ hr1 Try.underlying28 rfl hi ?_); exact rfl)
          | ((with_reducible refine wpList_load_mid_g (op := ⟨some 22, .load 26 (.tmp 21), _, _, _, _⟩) (by kernel_rfl) 26 (.tmp 21) rfl w.heap.size 3 ?_ C1 _ hs1 Try.underlying26 rfl i1 ?_); exact rfl)
          | (go_at_call 32; refine (H1.out _).mono ?_; rintro _ wq ⟨rfl, hb⟩; have HBQ := Lib.hid (up HBP.out hb); obtain ⟨_, _, _, hr2, _, hs2⟩ := HA.out _ HBQ.out; clear hb H1 hr1 hs1))
        go_ret2
        exact ⟨rfl, up hXb.out HBQ.out⟩
      | true =>
        cases r3 with
        | false =>
          go_enter Try.func19, Try.ntmps19
          go_wp2_with (first
            | ((with_reducible refine wpList_load_row (o := ⟨some 16, .load 31 (.tmp 4), _, _, _, _⟩) rfl 31 (.tmp 4) rfl (w.heap.size + 1) ?_ 31 SC.toArray (0, 0) _ hat2 Try.underlying31 rfl hsi ?_); exact rfl)
            | (go_at_call 25; refine (HP.out _).mono ?_; rintro _ wp ⟨rfl, hb⟩; have HBP := Lib.hid hb; obtain ⟨_, _, _, hr1, hs1, _⟩ := HA.out _ HBP.out; clear hb HP hat1 hat2 hr0)
            | ((with_reducible refine wpList_load_mid_g (op := ⟨some 20, .load 28 (.tmp 3), _, _, _, _⟩) (by kernel_rfl) 28 (.tmp 3) rfl w.heap.size 0 ?_ CH _ hr1 Try.underlying28 rfl hi ?_); exact rfl)
            | ((with_reducible refine wpList_load_mid_g (op := ⟨some 22, .load 26 (.tmp 21), _, _, _, _⟩) (by kernel_rfl) 26 (.tmp 21) rfl w.heap.size 3 ?_ C1 _ hs1 Try.underlying26 rfl i1 ?_); exact rfl)
            | (go_at_call 32; have hx1 := HBQ; clear hx1; refine (H2.out _).mono ?_; rintro _ wr ⟨rfl, hb⟩; have HBR := Lib.hid (up HBQ.out hb); obtain ⟨c1r, hatr, hatsr, _, _, _⟩ := HA.out _ HBR.out; clear hb hr2 hs2)
            | (go_at_call 32; refine (H1.out _).mono ?_; rintro _ wq ⟨rfl, hb⟩; have HBQ := Lib.hid (up HBP.out hb); obtain ⟨_, _, _, hr2, _, hs2⟩ := HA.out _ HBQ.out; clear hb H1 hr1 hs1)
            | ((with_reducible refine wpList_load_mid_g (op := ⟨some 27, .load 28 (.tmp 3), _, _, _, _⟩) (by kernel_rfl) 28 (.tmp 3) rfl w.heap.size 0 ?_ CH _ hr2 Try.underlying28 rfl hi ?_); exact rfl)
            | ((with_reducible refine wpList_load_mid_g (op := ⟨some 29, .load 26 (.tmp 28), _, _, _, _⟩) (by kernel_rfl) 26 (.tmp 28) rfl w.heap.size 20 ?_ C2 _ hs2 Try.underlying26 rfl i2 ?_); exact rfl))
          go_ret2
          exact ⟨rfl, up hXb.out HBR.out⟩
        | true => exact absurd hm (by decide)
theorem sgMay_three {h : Hd} {s : Sg} (hm : sgMay h s = true) : (s.src != 0 && s.dst != 0) = true ∧ (h.src.six == h.six && h.src.good) = true ∧ (h.dst.six == h.six && h.dst.good) = true := by
  rw [sgMay_is] at hm
  simp only [Bool.and_eq_true] at hm ⊢
  exact ⟨hm.1.1, hm.1.2, hm.2⟩
set_option maxRecDepth 100000 in
set_option maxHeartbeats 1000000 in
theorem sgWrite_long (h : Hd) (hw : h.Wide) (s : Sg) (hp : h.proto = 6 ∨ h.proto = 17) (hm : sgMay h s = true) (A : Option Addr) (n c : Nat) (hn : 1900 < n) (w : World) :
    Calls Try.prog 19 #[hdV h, sgV s, .slice A n c] w fun e w' => e = .returned (.tuple #[.slice none 0 0, .int .i64 10]) ∧ Below w.heap.size w w' := by
  obtain ⟨X, hX⟩ : ∃ X, X = (w.alloc (.cells (hdC h).toArray 28)).alloc (.cells (sgC s).toArray 31) := ⟨_, rfl⟩
  have HH := sgwFacts h hw s w
  rw [← hX] at HH
  obtain ⟨c1, hat1, hat2, hr0, _, _⟩ := HH.at_ _ (Below.refl _ _)
  have HA := Lib.hid HH.at_
  have hXb := Lib.hid HH.below
  have hi := HH.hi
  have hiA := HH.hiA
  have hsi := HH.hsi
  have i1 := HH.i1
  have i2 := HH.i2
  have HP := Lib.hid HH.ported
  have H1 := Lib.hid HH.src
  have H2 := Lib.hid HH.dst
  obtain ⟨m1, m2, m3⟩ := sgMay_three hm
  rw [m1] at HP
  rw [m2] at H1
  rw [m3] at H2
  clear HH hw hm m1 m2 m3
  unfold hdV sgV
  generalize hdC h = CH at *
  generalize sgC s = SC at *
  generalize adC h.src = C1 at *
  generalize adC h.dst = C2 at *
  rcases hp with hp | hp
  · have c6 : X.cell? ⟨w.heap.size, 1, none⟩ = some (.int .u8 6) := by rw [c1, hp]; rfl
    clear hp c1
    subst hX
    go_enter Try.func19, Try.ntmps19
    go_wp2_with (first
      | ((with_reducible refine wpList_load_row (o := ⟨some 16, .load 31 (.tmp 4), _, _, _, _⟩) rfl 31 (.tmp 4) rfl (w.heap.size + 1) ?_ 31 SC.toArray (0, 0) _ hat2 Try.underlying31 rfl hsi ?_); exact rfl)
      | (go_at_call 25; refine (HP.out _).mono ?_; rintro _ wp ⟨rfl, hb⟩; have HBP := Lib.hid hb; obtain ⟨_, _, _, hr1, hs1, _⟩ := HA.out _ HBP.out; clear hb HP hat1 hat2 hr0)
      | ((with_reducible refine wpList_load_mid_g (op := ⟨some 20, .load 28 (.tmp 3), _, _, _, _⟩) (by kernel_rfl) 28 (.tmp 3) rfl w.heap.size 0 ?_ CH _ hr1 Try.underlying28 rfl hi ?_); exact rfl)
      | ((with_reducible refine wpList_load_mid_g (op := ⟨some 22, .load 26 (.tmp 21), _, _, _, _⟩) (by kernel_rfl) 26 (.tmp 21) rfl w.heap.size 3 ?_ C1 _ hs1 Try.underlying26 rfl i1 ?_); exact rfl)
      | (go_at_call 32; have hx1 := HBQ; clear hx1; refine (H2.out _).mono ?_; rintro _ wr ⟨rfl, hb⟩; have HBR := Lib.hid (up HBQ.out hb); obtain ⟨c1r, hatr, hatsr, _, _, _⟩ := HA.out _ HBR.out; clear hb hr2 hs2)
      | (go_at_call 32; refine (H1.out _).mono ?_; rintro _ wq ⟨rfl, hb⟩; have HBQ := Lib.hid (up HBP.out hb); obtain ⟨_, _, _, hr2, _, hs2⟩ := HA.out _ HBQ.out; clear hb H1 hr1 hs1)
      | ((with_reducible refine wpList_load_mid_g (op := ⟨some 27, .load 28 (.tmp 3), _, _, _, _⟩) (by kernel_rfl) 28 (.tmp 3) rfl w.heap.size 0 ?_ CH _ hr2 Try.underlying28 rfl hi ?_); exact rfl)
      | ((with_reducible refine wpList_load_mid_g (op := ⟨some 29, .load 26 (.tmp 28), _, _, _, _⟩) (by kernel_rfl) 26 (.tmp 28) rfl w.heap.size 20 ?_ C2 _ hs2 Try.underlying26 rfl i2 ?_); exact rfl))
    go_ret2
    exact ⟨rfl, up hXb.out HBR.out⟩
  · have c6 : X.cell? ⟨w.heap.size, 1, none⟩ = some (.int .u8 17) := by rw [c1, hp]; rfl
    clear hp c1
    subst hX
    go_enter Try.func19, Try.ntmps19
    go_wp2_with (first
      | ((with_reducible refine wpList_load_row (o := ⟨some 16, .load 31 (.tmp 4), _, _, _, _⟩) rfl 31 (.tmp 4) rfl (w.heap.size + 1) ?_ 31 SC.toArray (0, 0) _ hat2 Try.underlying31 rfl hsi ?_); exact rfl)
      | (go_at_call 25; refine (HP.out _).mono ?_; rintro _ wp ⟨rfl, hb⟩; have HBP := Lib.hid hb; obtain ⟨_, _, _, hr1, hs1, _⟩ := HA.out _ HBP.out; clear hb HP hat1 hat2 hr0)
      | ((with_reducible refine wpList_load_mid_g (op := ⟨some 20, .load 28 (.tmp 3), _, _, _, _⟩) (by kernel_rfl) 28 (.tmp 3) rfl w.heap.size 0 ?_ CH _ hr1 Try.underlying28 rfl hi ?_); exact rfl)
      | ((with_reducible refine wpList_load_mid_g (op := ⟨some 22, .load 26 (.tmp 21), _, _, _, _⟩) (by kernel_rfl) 26 (.tmp 21) rfl w.heap.size 3 ?_ C1 _ hs1 Try.underlying26 rfl i1 ?_); exact rfl)
      | (go_at_call 32; have hx1 := HBQ; clear hx1; refine (H2.out _).mono ?_; rintro _ wr ⟨rfl, hb⟩; have HBR := Lib.hid (up HBQ.out hb); obtain ⟨c1r, hatr, hatsr, _, _, _⟩ := HA.out _ HBR.out; clear hb hr2 hs2)
      | (go_at_call 32; refine (H1.out _).mono ?_; rintro _ wq ⟨rfl, hb⟩; have HBQ := Lib.hid (up HBP.out hb); obtain ⟨_, _, _, hr2, _, hs2⟩ := HA.out _ HBQ.out; clear hb H1 hr1 hs1)
      | ((with_reducible refine wpList_load_mid_g (op := ⟨some 27, .load 28 (.tmp 3), _, _, _, _⟩) (by kernel_rfl) 28 (.tmp 3) rfl w.heap.size 0 ?_ CH _ hr2 Try.underlying28 rfl hi ?_); exact rfl)
      | ((with_reducible refine wpList_load_mid_g (op := ⟨some 29, .load 26 (.tmp 28), _, _, _, _⟩) (by kernel_rfl) 26 (.tmp 28) rfl w.heap.size 20 ?_ C2 _ hs2 Try.underlying26 rfl i2 ?_); exact rfl))
    go_ret2
    exact ⟨rfl, up hXb.out HBR.out⟩
set_option maxRecDepth 100000 in
set_option maxHeartbeats 1000000 in
theorem sgWrite_ok (h : Hd) (hw : h.Wide) (s : Sg) (hs : s.src < 65536 ∧ s.dst < 65536) (hp : h.proto = 6 ∨ h.proto = 17) (hm : sgMay h s = true) (A : Option Addr) (c : Nat) (data : List UInt8) (hd : data.length ≤ 1900) (w : World) (hr : Rd w w.heap.size (.slice A data.length c) (cellsB data)) :
    Calls Try.prog 19 #[hdV h, sgV s, .slice A data.length c] w fun e w' => ∃ v, e = .returned (.tuple #[v, .int .i64 0]) ∧ Mine w' w.heap.size 5 v (cellsB (sgBytes h s data)) ∧ Below w.heap.size w w' := by
  obtain ⟨X, hX⟩ : ∃ X, X = (w.alloc (.cells (hdC h).toArray 28)).alloc (.cells (sgC s).toArray 31) := ⟨_, rfl⟩
  have HH := sgwFacts h hw s w
  rw [← hX] at HH
  obtain ⟨c1, hat1, hat2, hr0, _, _⟩ := HH.at_ _ (Below.refl _ _)
  have HA := Lib.hid HH.at_
  have hXb := Lib.hid HH.below
  have hi := HH.hi
  have hiA := HH.hiA
  have hsi := HH.hsi
  have i1 := HH.i1
  have i2 := HH.i2
  have HP := Lib.hid HH.ported
  have H1 := Lib.hid HH.src
  have H2 := Lib.hid HH.dst
  obtain ⟨m1, m2, m3⟩ := sgMay_three hm
  rw [m1] at HP
  rw [m2] at H1
  rw [m3] at H2
  clear HH hm m1 m2 m3
  rcases hp with hp | hp
  · have c6 : X.cell? ⟨w.heap.size, 1, none⟩ = some (.int .u8 6) := by rw [c1, hp]; rfl
    have p6 : (h.proto.toNat : Int) = 6 := by rw [hp]; rfl
    rw [p6] at HA
    have HW : Hid (∀ W, Below X.heap.size X W → Calls Try.prog 33 #[hdV h, sgV s, .slice A data.length c] W fun e w' => ∃ v, e = .returned v ∧ Mine w' W.heap.size 5 v (cellsB (sgBytes h s data)) ∧ Below W.heap.size W w') := Lib.hid fun W hW => sgWriteTcp_any h hw hp s hs data hd A c W ((hr.below (up hXb.out hW)).more (up hXb.out hW).size)
    clear hr hw hs hp p6 c1
    unfold hdV sgV at HW ⊢
    generalize hdC h = CH at *
    generalize sgC s = SC at *
    generalize adC h.src = C1 at *
    generalize adC h.dst = C2 at *
    generalize sgBytes h s data = O at *
    have hdl : ¬ (1900 : Int) < (data.length : Int) := by omega
    generalize data.length = m at *
    subst hX
    go_enter Try.func19, Try.ntmps19
    go_wp2_with (first
      | ((with_reducible refine wpList_load_row (o := ⟨some 16, .load 31 (.tmp 4), _, _, _, _⟩) rfl 31 (.tmp 4) rfl (w.heap.size + 1) ?_ 31 SC.toArray (0, 0) _ hat2 Try.underlying31 rfl hsi ?_); exact rfl)
      | (go_at_call 25; refine (HP.out _).mono ?_; rintro _ wp ⟨rfl, hb⟩; have HBP := Lib.hid hb; obtain ⟨_, _, _, hr1, hs1, _⟩ := HA.out _ HBP.out; clear hb HP hat1 hat2 hr0)
      | ((with_reducible refine wpList_load_mid_g (op := ⟨some 20, .load 28 (.tmp 3), _, _, _, _⟩) (by kernel_rfl) 28 (.tmp 3) rfl w.heap.size 0 ?_ CH _ hr1 Try.underlying28 rfl hi ?_); exact rfl)
      | ((with_reducible refine wpList_load_mid_g (op := ⟨some 22, .load 26 (.tmp 21), _, _, _, _⟩) (by kernel_rfl) 26 (.tmp 21) rfl w.heap.size 3 ?_ C1 _ hs1 Try.underlying26 rfl i1 ?_); exact rfl)
      | (go_at_call 32; have hx1 := HBQ; clear hx1; refine (H2.out _).mono ?_; rintro _ wr ⟨rfl, hb⟩; have HBR := Lib.hid (up HBQ.out hb); obtain ⟨c1r, hatr, hatsr, _, _, _⟩ := HA.out _ HBR.out; clear hb hr2 hs2)
      | (go_at_call 32; refine (H1.out _).mono ?_; rintro _ wq ⟨rfl, hb⟩; have HBQ := Lib.hid (up HBP.out hb); obtain ⟨_, _, _, hr2, _, hs2⟩ := HA.out _ HBQ.out; clear hb H1 hr1 hs1)
      | ((with_reducible refine wpList_load_mid_g (op := ⟨some 27, .load 28 (.tmp 3), _, _, _, _⟩) (by kernel_rfl) 28 (.tmp 3) rfl w.heap.size 0 ?_ CH _ hr2 Try.underlying28 rfl hi ?_); exact rfl)
      | ((with_reducible refine wpList_load_mid_g (op := ⟨some 29, .load 26 (.tmp 28), _, _, _, _⟩) (by kernel_rfl) 26 (.tmp 28) rfl w.heap.size 20 ?_ C2 _ hs2 Try.underlying26 rfl i2 ?_); exact rfl)
      | ((with_reducible refine wpList_load_row (o := ⟨some 39, .load 28 (.tmp 3), _, _, _, _⟩) rfl 28 (.tmp 3) rfl w.heap.size ?_ 28 CH.toArray (0, 0) _ hatr Try.underlying28 rfl hiA ?_); exact rfl)
      | ((with_reducible refine wpList_load_row (o := ⟨some 40, .load 31 (.tmp 4), _, _, _, _⟩) rfl 31 (.tmp 4) rfl (w.heap.size + 1) ?_ 31 SC.toArray (0, 0) _ hatsr Try.underlying31 rfl hsi ?_); exact rfl)
      | (go_at_call 33; refine (HW.out _ HBR.out).mono ?_; rintro _ wz ⟨v, rfl, hv, hb⟩; have HT := Lib.hid (And.intro (hv.weaken (base' := w.heap.size) (by have := (up hXb.out HBR.out).size; omega)) (up (up hXb.out HBR.out) hb)); clear hv hb))
    go_ret2
    exact ⟨_, rfl, HT.out.1, HT.out.2⟩
  · have c6 : X.cell? ⟨w.heap.size, 1, none⟩ = some (.int .u8 17) := by rw [c1, hp]; rfl
    have p6 : (h.proto.toNat : Int) = 17 := by rw [hp]; rfl
    rw [p6] at HA
    have HW : Hid (∀ W, Below X.heap.size X W → Calls Try.prog 34 #[hdV h, sgV s, .slice A data.length c] W fun e w' => ∃ v, e = .returned v ∧ Mine w' W.heap.size 5 v (cellsB (sgBytes h s data)) ∧ Below W.heap.size W w') := Lib.hid fun W hW => sgWriteUdp_any h hw hp s hs data hd A c W ((hr.below (up hXb.out hW)).more (up hXb.out hW).size)
    clear hr hw hs hp p6 c1
    unfold hdV sgV at HW ⊢
    generalize hdC h = CH at *
    generalize sgC s = SC at *
    generalize adC h.src = C1 at *
    generalize adC h.dst = C2 at *
    generalize sgBytes h s data = O at *
    have hdl : ¬ (1900 : Int) < (data.length : Int) := by omega
    generalize data.length = m at *
    subst hX
    go_enter Try.func19, Try.ntmps19
    go_wp2_with (first
      | ((with_reducible refine wpList_load_row (o := ⟨some 16, .load 31 (.tmp 4), _, _, _, _⟩) rfl 31 (.tmp 4) rfl (w.heap.size + 1) ?_ 31 SC.toArray (0, 0) _ hat2 Try.underlying31 rfl hsi ?_); exact rfl)
      | (go_at_call 25; refine (HP.out _).mono ?_; rintro _ wp ⟨rfl, hb⟩; have HBP := Lib.hid hb; obtain ⟨_, _, _, hr1, hs1, _⟩ := HA.out _ HBP.out; clear hb HP hat1 hat2 hr0)
      | ((with_reducible refine wpList_load_mid_g (op := ⟨some 20, .load 28 (.tmp 3), _, _, _, _⟩) (by kernel_rfl) 28 (.tmp 3) rfl w.heap.size 0 ?_ CH _ hr1 Try.underlying28 rfl hi ?_); exact rfl)
      | ((with_reducible refine wpList_load_mid_g (op := ⟨some 22, .load 26 (.tmp 21), _, _, _, _⟩) (by kernel_rfl) 26 (.tmp 21) rfl w.heap.size 3 ?_ C1 _ hs1 Try.underlying26 rfl i1 ?_); exact rfl)
      | (go_at_call 32; have hx1 := HBQ; clear hx1; refine (H2.out _).mono ?_; rintro _ wr ⟨rfl, hb⟩; have HBR := Lib.hid (up HBQ.out hb); obtain ⟨c1r, hatr, hatsr, _, _, _⟩ := HA.out _ HBR.out; clear hb hr2 hs2)
      | (go_at_call 32; refine (H1.out _).mono ?_; rintro _ wq ⟨rfl, hb⟩; have HBQ := Lib.hid (up HBP.out hb); obtain ⟨_, _, _, hr2, _, hs2⟩ := HA.out _ HBQ.out; clear hb H1 hr1 hs1)
      | ((with_reducible refine wpList_load_mid_g (op := ⟨some 27, .load 28 (.tmp 3), _, _, _, _⟩) (by kernel_rfl) 28 (.tmp 3) rfl w.heap.size 0 ?_ CH _ hr2 Try.underlying28 rfl hi ?_); exact rfl)
      | ((with_reducible refine wpList_load_mid_g (op := ⟨some 29, .load 26 (.tmp 28), _, _, _, _⟩) (by kernel_rfl) 26 (.tmp 28) rfl w.heap.size 20 ?_ C2 _ hs2 Try.underlying26 rfl i2 ?_); exact rfl)
      | ((with_reducible refine wpList_load_row (o := ⟨some 43, .load 28 (.tmp 3), _, _, _, _⟩) rfl 28 (.tmp 3) rfl w.heap.size ?_ 28 CH.toArray (0, 0) _ hatr Try.underlying28 rfl hiA ?_); exact rfl)
      | ((with_reducible refine wpList_load_row (o := ⟨some 44, .load 31 (.tmp 4), _, _, _, _⟩) rfl 31 (.tmp 4) rfl (w.heap.size + 1) ?_ 31 SC.toArray (0, 0) _ hatsr Try.underlying31 rfl hsi ?_); exact rfl)
      | (go_at_call 34; refine (HW.out _ HBR.out).mono ?_; rintro _ wz ⟨v, rfl, hv, hb⟩; have HT := Lib.hid (And.intro (hv.weaken (base' := w.heap.size) (by have := (up hXb.out HBR.out).size; omega)) (up (up hXb.out HBR.out) hb)); clear hv hb))
    go_ret2
    exact ⟨_, rfl, HT.out.1, HT.out.2⟩
end Go.Proofs.Ytpgibabgedokpaa
