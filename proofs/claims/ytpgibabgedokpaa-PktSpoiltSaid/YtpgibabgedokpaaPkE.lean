/-
  Build: a contract.
-/
import Derived.Test.YtpgibabgedokpaaPkC
import Derived.Test.YtpgibabgedokpaaSgH
import Derived.Test.YtpgibabgedokpaaIfF
import Derived.Test.YtpgibabgedokpaaSxG
namespace Go.Proofs.Ytpgibabgedokpaa
open Go.RowKit
theorem build_bdHd (b : Bool) (p : UInt8) (x y : Ad) (hx : x.Wide) (hy : y.Wide) (k : UInt8) (W : World) : (Instr.build 28 #[(0, .bool b), (1, .int .u8 (p.toNat : Int)), (3, adV x), (4, adV y), (6, .int .u8 (k.toNat : Int))]).run Try.prog W = .ok (hdV ⟨b, p, 0, x, y, false, k⟩) W := by
  obtain ⟨s, B⟩ := x
  obtain ⟨s2, B2⟩ := y
  obtain ⟨a1, a2, a3, a4, a5, a6, a7, a8, a9, a10, a11, a12, a13, a14, a15, a16, rfl⟩ := list16 hx
  obtain ⟨b1, b2, b3, b4, b5, b6, b7, b8, b9, b10, b11, b12, b13, b14, b15, b16, rfl⟩ := list16 hy
  kernel_rfl
theorem build_bdSg (s d : Nat) (k : UInt8) (W : World) : (Instr.build 31 #[(0, .int .u16 (s : Int)), (1, .int .u16 (d : Int)), (2, .int .u8 (k.toNat : Int))]).run Try.prog W = .ok (sgV ⟨s, d, k, 0, false, 0⟩) W := by
  kernel_rfl
/-- What Build errs. -/
def pkBE (f : Fl) (flags hops : UInt8) (n : Nat) : Nat := if f.proto ≠ 6 ∧ f.proto ≠ 17 then 6 else if sgMay (bdHd f hops) (bdSg f flags) = false then 1 else if 1900 < n then 10 else if hops = 0 then 1 else 0
theorem PkMay.of {f : Fl} {flags hops : UInt8} {data : List UInt8} (hf : f.Wide) (h : pkBE f flags hops data.length = 0) : PkMay f flags hops data := by
  unfold pkBE at h
  by_cases h1 : f.proto ≠ 6 ∧ f.proto ≠ 17
  · rw [if_pos h1] at h; omega
  rw [if_neg h1] at h
  by_cases h2 : sgMay (bdHd f hops) (bdSg f flags) = false
  · rw [if_pos h2] at h; omega
  rw [if_neg h2] at h
  by_cases h3 : 1900 < data.length
  · rw [if_pos h3] at h; omega
  rw [if_neg h3] at h
  by_cases h4 : hops = 0
  · rw [if_pos h4] at h; omega
  refine ⟨hf, ?_, by simpa using h2, by omega, h4⟩
  by_cases h5 : f.proto = 6
  · exact .inl h5
  · by_cases h6 : f.proto = 17
    · exact .inr h6
    · exact absurd ⟨h5, h6⟩ h1
/-- What is so of Build's answer. -/
def PkBuilt (f : Fl) (flags hops : UInt8) (data : List UInt8) (B : Nat) (w' : World) (v : Value) : Prop :=
  if pkBE f flags hops data.length = 0 then Mine w' B 5 v (cellsB (pkBytes f flags hops data)) else v = .slice none 0 0
theorem PkBuilt.not {f : Fl} {flags hops : UInt8} {data : List UInt8} {B : Nat} {w' : World} (h : pkBE f flags hops data.length ≠ 0) : PkBuilt f flags hops data B w' (.slice none 0 0) := by
  unfold PkBuilt
  rw [if_neg h]
set_option maxRecDepth 100000 in
set_option maxHeartbeats 1000000 in
theorem pkBuild_any (f : Fl) (hf : f.Wide) (flags hops : UInt8) (A : Option Addr) (c : Nat) (data : List UInt8) (w : World) (hr : Rd w w.heap.size (.slice A data.length c) (cellsB data)) :
    Calls Try.prog 11 #[flV f, .int .u8 (flags.toNat : Int), .int .u8 (hops.toNat : Int), .slice A data.length c] w fun e w' => ∃ v, e = .returned (.tuple #[v, .int .i64 ((pkBE f flags hops data.length : Nat) : Int)]) ∧ PkBuilt f flags hops data w.heap.size w' v ∧ Below w.heap.size w w' := by
  have hzh : ∀ w, (zeroValue 28).run Try.prog w = .ok (.agg (hdC Hd.zero).toArray) w := zero_hd
  obtain ⟨X, hX⟩ : ∃ X, X = (w.alloc (.cells (flC f).toArray 33)).alloc (.cells (hdC Hd.zero).toArray 28) := ⟨_, rfl⟩
  have hXs : X.heap.size = w.heap.size + 1 + 1 := by rw [hX]; simp
  have hXb : Below w.heap.size w X := by rw [hX]; exact up_alloc (up_alloc (Below.refl _ _) _) _
  have at0' : FlAt (w.alloc (.cells (flC f).toArray 33)) w.heap.size f := heap_alloc_last w _
  have at0 : FlAt X w.heap.size f := by
    unfold FlAt
    rw [hX]; exact (heap_alloc_old _ _ (by simp)).trans (heap_alloc_last w _)
  have at1 : HdAt X (w.heap.size + 1) Hd.zero := by
    unfold HdAt
    rw [hX]
    have := heap_alloc_last (w.alloc (.cells (flC f).toArray 33)) (.cells (hdC Hd.zero).toArray 28)
    rwa [show (w.alloc (.cells (flC f).toArray 33)).heap.size = w.heap.size + 1 by simp] at this
  have hhw : (bdHd f hops).Wide := ⟨hf.1, hf.2.1⟩
  obtain ⟨w2, hst2, hat2, hgr2, hs2, hsc2⟩ := store_hd (b := bdHd f hops) at1 Hd.zero_wide hhw
  have hCl := hdC_length hhw
  have hb2 : Below w.heap.size w w2 := grown_below hXb hgr2 (by omega)
  have at2 : FlAt w2 w.heap.size f := (hgr2.block _ (by omega) (fun e => by injection e with e; omega)).trans at0
  have r1 := flC_src at0'
  have r2 := flC_dst hf at0'
  obtain ⟨_, _, c36⟩ := flC_rest hf at0'
  have c0 := flC_six at0'
  obtain ⟨c34, c35, _⟩ := flC_rest hf at2
  have i1 := info_ad hf.1
  have i2 := info_ad hf.2.1
  have hi := info_hdA hhw
  have hbu : ∀ W, (Instr.build 28 #[(0, .bool f.src.six), (1, .int .u8 (f.proto.toNat : Int)), (3, .agg (adC f.src).toArray), (4, .agg (adC f.dst).toArray), (6, .int .u8 (hops.toNat : Int))]).run Try.prog W = .ok (.agg (hdC (bdHd f hops)).toArray) W := fun W => build_bdHd _ _ _ _ hf.1 hf.2.1 _ W
  have hbs : ∀ W, (Instr.build 31 #[(0, .int .u16 (f.sport : Int)), (1, .int .u16 (f.dport : Int)), (2, .int .u8 (flags.toNat : Int))]).run Try.prog W = .ok (.agg (sgC (bdSg f flags)).toArray) W := fun W => build_bdSg _ _ _ W
  have hr2 := (hr.below hb2).more hb2.size
  have HB2 := Lib.hid hb2
  have hE0 : pkBE f flags hops data.length = if f.proto ≠ 6 ∧ f.proto ≠ 17 then 6 else if sgMay (bdHd f hops) (bdSg f flags) = false then 1 else if 1900 < data.length then 10 else if hops = 0 then 1 else 0 := rfl
  have hAt : Hid (∀ W, Below w2.heap.size w2 W → W.heap[w.heap.size + 1]? = some (.cells (hdC (bdHd f hops)).toArray 28 (0, 0)) ∧ W.cell? ⟨w.heap.size + 1, 0, none⟩ = some (.bool f.src.six)) := Lib.hid fun W hW => by
    have h1 : HdAt W (w.heap.size + 1) (bdHd f hops) := hat2.below hW (by omega)
    exact ⟨h1, hdC_six h1⟩
  by_cases hbad : pkBE f flags hops data.length = 0 ∨ (hops = 0 ∧ (f.proto = 6 ∨ f.proto = 17) ∧ sgMay (bdHd f hops) (bdSg f flags) = true ∧ data.length ≤ 1900)
  · have hp : f.proto = 6 ∨ f.proto = 17 := by
      rcases hbad with h | h
      · exact (PkMay.of hf h).proto
      · exact h.2.1
    have hm : sgMay (bdHd f hops) (bdSg f flags) = true := by
      rcases hbad with h | h
      · exact (PkMay.of hf h).may
      · exact h.2.2.1
    have hd : data.length ≤ 1900 := by
      rcases hbad with h | h
      · exact (PkMay.of hf h).few
      · exact h.2.2.2
    have hlen : (bdSeg f flags hops data).length ≤ 1920 := by
      have h2 : (bdSeg f flags hops data).length = (if (bdHd f hops).proto = 6 then 20 else 8) + data.length := sgBytes_length ..
      split at h2 <;> omega
    have hk := sgMay_parts hm
    obtain ⟨N, hN⟩ : ∃ N, N = (bdSeg f flags hops data).length := ⟨_, rfl⟩
    have hsw : Hid (Calls Try.prog 19 #[.agg (hdC (bdHd f hops)).toArray, .agg (sgC (bdSg f flags)).toArray, .slice A data.length c] w2 fun e w' => ∃ A2 c2, e = .returned (.tuple #[.slice A2 N c2, .int .i64 0]) ∧ Rd w' w'.heap.size (.slice A2 N c2) (cellsB (bdSeg f flags hops data)) ∧ Below w2.heap.size w2 w') := Lib.hid <| by
      refine (sgWrite_ok (bdHd f hops) hhw (bdSg f flags) ⟨hf.2.2.1, hf.2.2.2⟩ hp hm A c data hd w2 hr2).mono ?_
      rintro e w' ⟨v, rfl, hv, hb⟩
      obtain ⟨A2, c2, rfl, hr⟩ := mine_slice (w := w2) hv (n := N) hN.symm
      exact ⟨A2, c2, rfl, hr, hb⟩
    have hE : pkBE f flags hops data.length = if hops = 0 then 1 else 0 := by
      rw [hE0, if_neg (by rcases hp with h | h <;> simp [h]), if_neg (by rw [hm]; decide), if_neg (by omega)]
    cases h6 : f.src.six with
    | true =>
      have hip : Hid (∀ W A2 c2, Below w2.heap.size w2 W → Rd W W.heap.size (.slice A2 N c2) (cellsB (bdSeg f flags hops data)) → Calls Try.prog 20 #[.agg (hdC (bdHd f hops)).toArray, .slice A2 N c2] W fun e w' => ∃ v, e = .returned (.tuple #[v, .int .i64 ((pkBE f flags hops data.length : Nat) : Int)]) ∧ PkBuilt f flags hops data w.heap.size w' v ∧ Below W.heap.size W w') := Lib.hid fun W A2 c2 hW hrW => by
        by_cases hh : hops = 0
        · rw [if_pos hh] at hE
          have hmm : (bdHd f hops).may6 = false := by unfold Hd.may6 bdHd; rw [hh]; simp
          refine (sxWrite_arg (bdHd f hops) hhw hmm (.slice A2 N c2) W).mono ?_
          rintro e w' ⟨rfl, hb⟩
          exact ⟨_, by rw [hE]; rfl, PkBuilt.not (by omega), hb⟩
        · rw [if_neg hh] at hE
          have hM := PkMay.of (data := data) hf hE
          rw [hN] at hrW ⊢
          refine (sxWrite_ok (bdHd f hops) hhw (hM.six h6) A2 c2 (bdSeg f flags hops data) (by omega) W _ (Nat.le_refl _) hrW).mono ?_
          rintro e w' ⟨v, rfl, hv, hb⟩
          refine ⟨v, by rw [hE]; rfl, ?_, hb⟩
          unfold PkBuilt pkBytes
          rw [if_pos hE, if_pos h6]
          exact hv.weaken (base' := w.heap.size) (by have := hW.size; have := hb2.size; omega)
      rw [h6] at c0 hbu hAt
      clear hr hr2 hE hE0 hk hhw hm hd hp hbad hlen hN hXs hXb at0 at1 at2 at0' hat2 hgr2 hb2 hf
      obtain ⟨P, hP⟩ : ∃ P, P = PkBuilt f flags hops data := ⟨_, rfl⟩
      rw [← hP] at hip ⊢
      generalize pkBE f flags hops data.length = E at *
      unfold flV
      unfold hdV at *
      generalize (flC f).toArray = FC at *
      generalize adC f.src = C1 at *
      generalize adC f.dst = C2 at *
      generalize f.proto = pr at *
      generalize f.sport = q1 at *
      generalize f.dport = q2 at *
      generalize (hdC Hd.zero).toArray = ZH at *
      generalize hdC (bdHd f hops) = CH at *
      generalize (sgC (bdSg f flags)).toArray = SC at *
      generalize bdSeg f flags hops data = bs at *
      have ha2 := (hAt.out _ (Below.refl _ _)).1
      subst hX
      go_enter Try.func11, Try.ntmps11
      go_wp2_with (first
        | ((with_reducible refine wpList_load_mid_g (op := ⟨some 19, .load 26 (.tmp 18), _, _, _, _⟩) (by kernel_rfl) 26 (.tmp 18) rfl w.heap.size 0 ?_ C1 _ r1 Try.underlying26 rfl i1 ?_); exact rfl)
        | ((with_reducible refine wpList_load_mid_g (op := ⟨some 21, .load 26 (.tmp 20), _, _, _, _⟩) (by kernel_rfl) 26 (.tmp 20) rfl w.heap.size 17 ?_ C2 _ r2 Try.underlying26 rfl i2 ?_); exact rfl)
        | ((with_reducible refine wpList_run (o := ⟨some 23, .build 28 #[(0, .tmp 15), (1, .tmp 17), (3, .tmp 19), (4, .tmp 21), (6, .tmp 22)], _, _, _, _⟩) rfl (.agg CH.toArray) (w.alloc (.cells FC 33)) ?_ ?_); exact exec_bld5 (k1 := 0) (k2 := 1) (k3 := 3) (k4 := 4) (k5 := 6) rfl (u1 := .bool true) (u2 := .int .u8 (pr.toNat : Int)) (u3 := .agg C1.toArray) (u4 := .agg C2.toArray) (u5 := .int .u8 (hops.toNat : Int)) rfl rfl rfl rfl rfl (hbu _))
        | (with_reducible refine wpList_alloc_zero (o := ⟨some 10, .alloc 28, _, _, _, _⟩) rfl 28 rfl ZH hzh ?_)
        | ((with_reducible refine wpList_stored (o := ⟨none, .store 28 (.tmp 10) (.tmp 23), _, _, _, none⟩) rfl 28 (.tmp 10) (.tmp 23) rfl (.pointer (some ⟨w.heap.size + 1, 0, none⟩)) (.agg CH.toArray) ?_ ?_ w2 hst2 ?_); exact rfl; exact rfl)
        | ((with_reducible refine wpList_load_row (o := ⟨some 25, .load 28 (.tmp 10), _, _, _, _⟩) rfl 28 (.tmp 10) rfl (w.heap.size + 1) ?_ 28 CH.toArray (0, 0) _ ha2 Try.underlying28 rfl hi ?_); exact rfl)
        | ((with_reducible refine wpList_run (o := ⟨some 31, .build 31 #[(0, .tmp 27), (1, .tmp 29), (2, .tmp 30)], _, _, _, _⟩) rfl (.agg SC) w2 ?_ ?_); exact exec_bld3 (k1 := 0) (k2 := 1) (k3 := 2) rfl (u1 := .int .u16 (q1 : Int)) (u2 := .int .u16 (q2 : Int)) (u3 := .int .u8 (flags.toNat : Int)) rfl rfl rfl (hbs _))
        | (go_at_call 19; refine hsw.out.mono ?_; rintro _ w3 ⟨A2, c2, rfl, hr3, hb3⟩; obtain ⟨ha3, hc3⟩ := hAt.out _ hb3; have HR3 := Lib.hid hr3; have HB3 := Lib.hid hb3; clear hb3 hr3 hsw ha2 hst2)
        | ((with_reducible refine wpList_load_row (o := ⟨some 41, .load 28 (.tmp 10), _, _, _, _⟩) rfl 28 (.tmp 10) rfl (w.heap.size + 1) ?_ 28 CH.toArray (0, 0) _ ha3 Try.underlying28 rfl hi ?_); exact rfl)
        | (go_at_call 20; refine (hip.out _ _ _ HB3.out HR3.out).mono ?_; rintro _ w4 ⟨v, rfl, hv, hb4⟩; have HT := Lib.hid (And.intro hv (up (up HB2.out HB3.out) hb4)); clear hv hb4))
      go_ret2
      exact ⟨_, rfl, HT.out.1, HT.out.2⟩
    | false =>
      have hip : Hid (∀ W A2 c2, Below w2.heap.size w2 W → Rd W W.heap.size (.slice A2 N c2) (cellsB (bdSeg f flags hops data)) → Calls Try.prog 21 #[.agg (hdC (bdHd f hops)).toArray, .slice A2 N c2] W fun e w' => ∃ v, e = .returned (.tuple #[v, .int .i64 ((pkBE f flags hops data.length : Nat) : Int)]) ∧ PkBuilt f flags hops data w.heap.size w' v ∧ Below W.heap.size W w') := Lib.hid fun W A2 c2 hW hrW => by
        by_cases hh : hops = 0
        · rw [if_pos hh] at hE
          have hmm : (bdHd f hops).may = false := by unfold Hd.may bdHd; rw [hh]; simp
          refine (ifWrite_arg (bdHd f hops) hhw hmm (.slice A2 N c2) W).mono ?_
          rintro e w' ⟨rfl, hb⟩
          exact ⟨_, by rw [hE]; rfl, PkBuilt.not (by omega), hb⟩
        · rw [if_neg hh] at hE
          have hM := PkMay.of (data := data) hf hE
          rw [hN] at hrW ⊢
          refine (ifWrite_ok (bdHd f hops) hhw (hM.four h6) A2 c2 (bdSeg f flags hops data) (by omega) W _ (Nat.le_refl _) hrW).mono ?_
          rintro e w' ⟨v, rfl, hv, hb⟩
          refine ⟨v, by rw [hE]; rfl, ?_, hb⟩
          unfold PkBuilt pkBytes
          rw [if_pos hE, if_neg (by rw [h6]; decide)]
          exact hv.weaken (base' := w.heap.size) (by have := hW.size; have := hb2.size; omega)
      rw [h6] at c0 hbu hAt
      clear hr hr2 hE hE0 hk hhw hm hd hp hbad hlen hN hXs hXb at0 at1 at2 at0' hat2 hgr2 hb2 hf
      obtain ⟨P, hP⟩ : ∃ P, P = PkBuilt f flags hops data := ⟨_, rfl⟩
      rw [← hP] at hip ⊢
      generalize pkBE f flags hops data.length = E at *
      unfold flV
      unfold hdV at *
      generalize (flC f).toArray = FC at *
      generalize adC f.src = C1 at *
      generalize adC f.dst = C2 at *
      generalize f.proto = pr at *
      generalize f.sport = q1 at *
      generalize f.dport = q2 at *
      generalize (hdC Hd.zero).toArray = ZH at *
      generalize hdC (bdHd f hops) = CH at *
      generalize (sgC (bdSg f flags)).toArray = SC at *
      generalize bdSeg f flags hops data = bs at *
      have ha2 := (hAt.out _ (Below.refl _ _)).1
      subst hX
      go_enter Try.func11, Try.ntmps11
      go_wp2_with (first
        | ((with_reducible refine wpList_load_mid_g (op := ⟨some 19, .load 26 (.tmp 18), _, _, _, _⟩) (by kernel_rfl) 26 (.tmp 18) rfl w.heap.size 0 ?_ C1 _ r1 Try.underlying26 rfl i1 ?_); exact rfl)
        | ((with_reducible refine wpList_load_mid_g (op := ⟨some 21, .load 26 (.tmp 20), _, _, _, _⟩) (by kernel_rfl) 26 (.tmp 20) rfl w.heap.size 17 ?_ C2 _ r2 Try.underlying26 rfl i2 ?_); exact rfl)
        | ((with_reducible refine wpList_run (o := ⟨some 23, .build 28 #[(0, .tmp 15), (1, .tmp 17), (3, .tmp 19), (4, .tmp 21), (6, .tmp 22)], _, _, _, _⟩) rfl (.agg CH.toArray) (w.alloc (.cells FC 33)) ?_ ?_); exact exec_bld5 (k1 := 0) (k2 := 1) (k3 := 3) (k4 := 4) (k5 := 6) rfl (u1 := .bool false) (u2 := .int .u8 (pr.toNat : Int)) (u3 := .agg C1.toArray) (u4 := .agg C2.toArray) (u5 := .int .u8 (hops.toNat : Int)) rfl rfl rfl rfl rfl (hbu _))
        | (with_reducible refine wpList_alloc_zero (o := ⟨some 10, .alloc 28, _, _, _, _⟩) rfl 28 rfl ZH hzh ?_)
        | ((with_reducible refine wpList_stored (o := ⟨none, .store 28 (.tmp 10) (.tmp 23), _, _, _, none⟩) rfl 28 (.tmp 10) (.tmp 23) rfl (.pointer (some ⟨w.heap.size + 1, 0, none⟩)) (.agg CH.toArray) ?_ ?_ w2 hst2 ?_); exact rfl; exact rfl)
        | ((with_reducible refine wpList_load_row (o := ⟨some 25, .load 28 (.tmp 10), _, _, _, _⟩) rfl 28 (.tmp 10) rfl (w.heap.size + 1) ?_ 28 CH.toArray (0, 0) _ ha2 Try.underlying28 rfl hi ?_); exact rfl)
        | ((with_reducible refine wpList_run (o := ⟨some 31, .build 31 #[(0, .tmp 27), (1, .tmp 29), (2, .tmp 30)], _, _, _, _⟩) rfl (.agg SC) w2 ?_ ?_); exact exec_bld3 (k1 := 0) (k2 := 1) (k3 := 2) rfl (u1 := .int .u16 (q1 : Int)) (u2 := .int .u16 (q2 : Int)) (u3 := .int .u8 (flags.toNat : Int)) rfl rfl rfl (hbs _))
        | (go_at_call 19; refine hsw.out.mono ?_; rintro _ w3 ⟨A2, c2, rfl, hr3, hb3⟩; obtain ⟨ha3, hc3⟩ := hAt.out _ hb3; have HR3 := Lib.hid hr3; have HB3 := Lib.hid hb3; clear hb3 hr3 hsw ha2 hst2)
        | ((with_reducible refine wpList_load_row (o := ⟨some 46, .load 28 (.tmp 10), _, _, _, _⟩) rfl 28 (.tmp 10) rfl (w.heap.size + 1) ?_ 28 CH.toArray (0, 0) _ ha3 Try.underlying28 rfl hi ?_); exact rfl)
        | (go_at_call 21; refine (hip.out _ _ _ HB3.out HR3.out).mono ?_; rintro _ w4 ⟨v, rfl, hv, hb4⟩; have HT := Lib.hid (And.intro hv (up (up HB2.out HB3.out) hb4)); clear hv hb4))
      go_ret2
      exact ⟨_, rfl, HT.out.1, HT.out.2⟩
  · have hEne : pkBE f flags hops data.length ≠ 0 := fun h => hbad (.inl h)
    have hsw : Hid (Calls Try.prog 19 #[.agg (hdC (bdHd f hops)).toArray, .agg (sgC (bdSg f flags)).toArray, .slice A data.length c] w2 fun e w' => e = .returned (.tuple #[.slice none 0 0, .int .i64 ((pkBE f flags hops data.length : Nat) : Int)]) ∧ Below w2.heap.size w2 w') := Lib.hid <| by
      by_cases h1 : f.proto ≠ 6 ∧ f.proto ≠ 17
      · rw [hE0, if_pos h1]
        exact sgWrite_none (bdHd f hops) hhw (bdSg f flags) h1.1 h1.2 _ w2
      · have hp : f.proto = 6 ∨ f.proto = 17 := by
          by_cases h5 : f.proto = 6
          · exact .inl h5
          · by_cases h6 : f.proto = 17
            · exact .inr h6
            · exact absurd ⟨h5, h6⟩ h1
        rw [hE0, if_neg h1]
        by_cases h2 : sgMay (bdHd f hops) (bdSg f flags) = false
        · rw [if_pos h2]
          exact sgWrite_arg (bdHd f hops) hhw (bdSg f flags) hp h2 _ w2
        · rw [if_neg h2]
          have h2' : sgMay (bdHd f hops) (bdSg f flags) = true := by simpa using h2
          by_cases h3 : 1900 < data.length
          · rw [if_pos h3]
            exact sgWrite_long (bdHd f hops) hhw (bdSg f flags) hp h2' A data.length c h3 w2
          · exfalso
            apply hbad
            by_cases h4 : hops = 0
            · exact .inr ⟨h4, hp, h2', by omega⟩
            · refine .inl ?_
              rw [hE0, if_neg h1, if_neg h2, if_neg h3, if_neg h4]
    have hP0 : Hid (∀ w', PkBuilt f flags hops data w.heap.size w' (.slice none 0 0)) := Lib.hid fun w' => PkBuilt.not hEne
    have k1 := beq_zero hEne
    have k2 := bne_zero hEne
    clear hr hr2 hE0 hhw hbad hXs hXb at0 at1 at2 at0' hgr2 hb2 hf hEne
    obtain ⟨P, hP⟩ : ∃ P, P = PkBuilt f flags hops data := ⟨_, rfl⟩
    rw [← hP] at hP0 ⊢
    generalize pkBE f flags hops data.length = E at *
    unfold flV
    unfold hdV at *
    generalize (flC f).toArray = FC at *
    generalize adC f.src = C1 at *
    generalize adC f.dst = C2 at *
    generalize f.src.six = six at *
    generalize f.proto = pr at *
    generalize f.sport = q1 at *
    generalize f.dport = q2 at *
    generalize (hdC Hd.zero).toArray = ZH at *
    generalize hdC (bdHd f hops) = CH at *
    generalize (sgC (bdSg f flags)).toArray = SC at *
    have ha2 := (hAt.out _ (Below.refl _ _)).1
    clear hat2
    subst hX
    go_enter Try.func11, Try.ntmps11
    go_wp2_with (first
      | ((with_reducible refine wpList_load_mid_g (op := ⟨some 19, .load 26 (.tmp 18), _, _, _, _⟩) (by kernel_rfl) 26 (.tmp 18) rfl w.heap.size 0 ?_ C1 _ r1 Try.underlying26 rfl i1 ?_); exact rfl)
      | ((with_reducible refine wpList_load_mid_g (op := ⟨some 21, .load 26 (.tmp 20), _, _, _, _⟩) (by kernel_rfl) 26 (.tmp 20) rfl w.heap.size 17 ?_ C2 _ r2 Try.underlying26 rfl i2 ?_); exact rfl)
      | ((with_reducible refine wpList_run (o := ⟨some 23, .build 28 #[(0, .tmp 15), (1, .tmp 17), (3, .tmp 19), (4, .tmp 21), (6, .tmp 22)], _, _, _, _⟩) rfl (.agg CH.toArray) (w.alloc (.cells FC 33)) ?_ ?_); exact exec_bld5 (k1 := 0) (k2 := 1) (k3 := 3) (k4 := 4) (k5 := 6) rfl (u1 := .bool six) (u2 := .int .u8 (pr.toNat : Int)) (u3 := .agg C1.toArray) (u4 := .agg C2.toArray) (u5 := .int .u8 (hops.toNat : Int)) rfl rfl rfl rfl rfl (hbu _))
      | (with_reducible refine wpList_alloc_zero (o := ⟨some 10, .alloc 28, _, _, _, _⟩) rfl 28 rfl ZH hzh ?_)
      | ((with_reducible refine wpList_stored (o := ⟨none, .store 28 (.tmp 10) (.tmp 23), _, _, _, none⟩) rfl 28 (.tmp 10) (.tmp 23) rfl (.pointer (some ⟨w.heap.size + 1, 0, none⟩)) (.agg CH.toArray) ?_ ?_ w2 hst2 ?_); exact rfl; exact rfl)
      | ((with_reducible refine wpList_load_row (o := ⟨some 25, .load 28 (.tmp 10), _, _, _, _⟩) rfl 28 (.tmp 10) rfl (w.heap.size + 1) ?_ 28 CH.toArray (0, 0) _ ha2 Try.underlying28 rfl hi ?_); exact rfl)
      | ((with_reducible refine wpList_run (o := ⟨some 31, .build 31 #[(0, .tmp 27), (1, .tmp 29), (2, .tmp 30)], _, _, _, _⟩) rfl (.agg SC) w2 ?_ ?_); exact exec_bld3 (k1 := 0) (k2 := 1) (k3 := 2) rfl (u1 := .int .u16 (q1 : Int)) (u2 := .int .u16 (q2 : Int)) (u3 := .int .u8 (flags.toNat : Int)) rfl rfl rfl (hbs _))
      | (go_at_call 19; refine hsw.out.mono ?_; rintro _ w3 ⟨rfl, hb3⟩; have HB3 := Lib.hid hb3; clear hb3 hsw ha2 hst2))
    go_ret2
    exact ⟨_, rfl, hP0.out _, up HB2.out HB3.out⟩
end Go.Proofs.Ytpgibabgedokpaa
