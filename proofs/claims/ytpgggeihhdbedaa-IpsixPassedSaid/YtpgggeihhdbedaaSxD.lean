/-
  All heads between, passed: a contract of walk.
-/
import Derived.Test.YtpgggeihhdbedaaSxC
namespace Go.Proofs.Ytpgggeihhdbedaa
open Go.RowKit
theorem Rd.grownAt {w w' : World} {B g : Nat} {v : Value} {xs : List Value} (hr : Rd w B v xs) (hg : w.grownBy w' (some g)) (hB : B ≤ g) (hgw : g < w.heap.size) : Rd w' B v xs :=
  hr.keep fun p hp => World.cell?_of_block (hg.block p.block (by omega) (by simp; omega))
theorem sxPassE_two (p : UInt8) (r : List UInt8) : sxPassE p r = 0 ∨ sxPassE p r = 9 := by unfold sxPassE; split <;> simp
theorem sxPassE_no {p : UInt8} {r : List UInt8} (h : sxPassE p r = 0) : 8 ≤ r.length ∧ sxSize p r ≤ r.length := by
  unfold sxPassE at h
  split at h
  · simp at h
  · omega
/-- What holds of a path on its way. -/
structure PaSt (w : World) (g B : Nat) (h : Hd) (r : List UInt8) (T : Int) (k n : Nat) (h' : Hd) (r' : List UInt8) (A : Option Addr) (c : Nat) (wr : World) : Prop where
  sum : k + n = 8
  cells : PaAt wr g h' (.slice A r'.length c) n
  wide : h'.Wide
  rd : Rd wr B (.slice A r'.length c) (cellsB r')
  grown : w.grownBy wr (some g)
  pos : 0 ≤ h'.pos
  tot : h'.pos + (r'.length : Nat) = T
  walk : sxWalk k h' r' = sxWalk 8 h r
set_option maxRecDepth 100000 in
set_option maxHeartbeats 1000000 in
theorem sxWalk_any {w : World} {g : Nat} {h : Hd} {A : Option Addr} {c B : Nat} {r : List UInt8} (hp : PaAt w g h (.slice A r.length c) 0) (hw : h.Wide) (hr : Rd w B (.slice A r.length c) (cellsB r)) (hB : B ≤ g) (hpos : 0 ≤ h.pos) (htot : h.pos + (r.length : Nat) ≤ 100000) :
    Calls Try.prog 17 #[.pointer (some ⟨g, 0, none⟩)] w fun e w' => e = .returned (.int .i64 (((sxWalk 8 h r).1 : Nat) : Int)) ∧ w.grownBy w' (some g) ∧ ((sxWalk 8 h r).1 = 0 → ∃ v n, PaAt w' g (sxWalk 8 h r).2 v n) := by
  have hst : Hid (PaSt w g B h r (h.pos + (r.length : Nat)) 8 0 h r A c w) := Lib.hid ⟨rfl, hp, hw, hr, grown_none _ _, hpos, rfl, rfl⟩
  obtain ⟨T, hT⟩ : ∃ T, T = h.pos + (r.length : Nat) := ⟨_, rfl⟩
  rw [← hT] at hst htot
  have hgw := hp.lt
  clear hp hw hr hpos hT
  go_enter Try.func17, Try.ntmps17
  go_wp2_with fail
  go_loopw [] (fun wr => ∃ (k n : Nat) (h' : Hd) (r' : List UInt8) (A' : Option Addr) (c' : Nat), Hid (PaSt w g B h r T k n h' r' A' c' wr)) (fun wr => 8 - (intOf ((wr.cell? ⟨g, 40, none⟩).getD (.int .i64 0))).toNat)
  case atStart => exact ⟨8, 0, h, r, A, c, hst⟩
  case round =>
    obtain ⟨k, n, h', r', A', c', HS⟩ := hrel
    clear hst
    obtain ⟨c1, _, _, _, c40⟩ := HS.out.cells.cells HS.out.wide
    have hbt := Lib.hid (fun W => sxBetween_any h'.proto W)
    have hsum := HS.out.sum
    have hgw2 : g < wr.heap.size := HS.out.cells.lt
    by_cases hs : stands h'.proto = true
    · rw [hs] at hbt
      by_cases hn8 : n = 8
      · subst hn8
        have hE : (sxWalk 8 h r).1 = 10 := by
          have hk : k = 0 := by omega
          subst hk
          rw [← HS.out.walk]
          unfold sxWalk
          rw [if_pos hs]
        have HE := Lib.hid hE
        clear hE hsum hs
        go_wp2_with (go_at_call 18; refine (hbt.out _).mono ?_; rintro _ w1 ⟨rfl, rfl⟩)
        go_ret
        exact ⟨by rw [HE.out]; rfl, HS.out.grown, fun h => absurd h (by rw [HE.out]; decide)⟩
      · have kn8 : ((n : Int) == 8) = false := by simp; omega
        have hdec : Hid ((h'.proto = 0 ∧ 0 < n) ∨ ((h'.proto ≠ 0 ∨ n = 0))) := Lib.hid (by by_cases a : h'.proto = 0 <;> by_cases b : 0 < n <;> simp [a, b] <;> omega)
        have hsucc : Hid (∃ j, k = j + 1 ∧ j < 8 ∧ (j < 7 ↔ 0 < n)) := Lib.hid ⟨k - 1, by omega, by omega, by omega⟩
        by_cases hz : h'.proto = 0 ∧ 0 < n
        · have hE : (sxWalk 8 h r).1 = 4 := by
            obtain ⟨j, rfl, _, hj⟩ := hsucc.out
            rw [← HS.out.walk]
            unfold sxWalk
            rw [if_pos hs, if_pos ⟨hz.1, hj.2 hz.2⟩]
          obtain ⟨hz1, hz2⟩ := hz
          have HE := Lib.hid hE
          rw [hz1] at c1 hbt
          clear hE hsum hs hn8 hdec hsucc
          go_wp2_with (go_at_call 18; refine (hbt.out _).mono ?_; rintro _ w1 ⟨rfl, rfl⟩)
          go_ret
          exact ⟨by rw [HE.out]; rfl, HS.out.grown, fun h => absurd h (by rw [HE.out]; decide)⟩
        · have hpass := sxPass_any HS.out.cells HS.out.wide HS.out.rd hB ⟨HS.out.pos, by have := HS.out.tot; omega⟩ (by omega) (by have := HS.out.tot; have := HS.out.pos; omega)
          have hstep : Hid (sxPassE h'.proto r' ≠ 0 → (sxWalk 8 h r).1 = 9) := Lib.hid fun hne => by
            obtain ⟨j, rfl, _, hj⟩ := hsucc.out
            rw [← HS.out.walk]
            unfold sxWalk
            rw [if_pos hs, if_neg (fun hc => hz ⟨hc.1, hj.1 hc.2⟩), if_pos hne]
          have hnext : Hid (sxPassE h'.proto r' = 0 → ∀ w1, PaOut wr g h' r' n B w1 → ∃ A2 c2, PaSt w g B h r T (k - 1) (n + 1) (sxNext h' r') (r'.drop (sxSize h'.proto r')) A2 c2 w1) := Lib.hid fun hne w1 ⟨A2, c2, q1, q2, q3⟩ => by
            obtain ⟨j, rfl, _, hj⟩ := hsucc.out
            obtain ⟨z1, z2⟩ := sxPassE_no hne
            refine ⟨A2, c2, by omega, q1, HS.out.wide, q2.grownAt q3 hB hgw2, grown_two HS.out.grown q3, ?_, ?_, ?_⟩
            · have := HS.out.pos
              unfold sxNext
              dsimp only
              omega
            · have := HS.out.tot
              rw [List.length_drop]
              unfold sxNext
              dsimp only
              omega
            · rw [← HS.out.walk]
              conv => rhs; unfold sxWalk
              rw [if_pos hs, if_neg (fun hc => hz ⟨hc.1, hj.1 hc.2⟩), if_neg (by omega)]
              rfl
          have hmeas : Hid (∀ w1 A2 c2, PaSt w g B h r T (k - 1) (n + 1) (sxNext h' r') (r'.drop (sxSize h'.proto r')) A2 c2 w1 → w1.cell? ⟨g, 40, none⟩ = some (.int .i64 ((n + 1 : Nat) : Int))) := Lib.hid fun w1 A2 c2 q => (q.cells.cells q.wide).2.2.2.2
          have hn7 : n < 8 := by omega
          by_cases hp0 : h'.proto = 0
          · have hn0 : n = 0 := by
              rcases Nat.eq_zero_or_pos n with e | e
              · exact e
              · exact absurd ⟨hp0, e⟩ hz
            subst hn0
            have hkz : k = 8 := by omega
            rw [hp0] at c1 hbt
            rcases sxPassE_two h'.proto r' with he | he
            · rw [he] at hpass hnext
              have hPS := Lib.hid hpass
              clear hpass hs hz hp0 hdec hsucc hsum hn8 hstep
              go_wp2_with (first
                | (go_at_call 18; refine (hbt.out _).mono ?_; rintro _ w1 ⟨rfl, rfl⟩)
                | (go_at_call 23; refine hPS.out.mono ?_; rintro _ w1 ⟨rfl, _, hO⟩; obtain ⟨A2, c2, hS2⟩ := hnext.out (by trivial) w1 (hO (by trivial)); have HS2 := Lib.hid hS2; clear hO hS2))
              go_roundw
              case rel => exact ⟨_, _, _, _, _, _, HS2⟩
              case measure => rw [hmeas.out _ _ _ HS2.out, c40]; simp [intOf]
            · rw [he] at hpass hstep
              have hPS := Lib.hid hpass
              have hE := hstep.out (by decide)
              have HE := Lib.hid hE
              clear hE hpass hs hz hp0 hdec hsucc hsum hn8 hstep hnext hmeas
              go_wp2_with (first
                | (go_at_call 18; refine (hbt.out _).mono ?_; rintro _ w1 ⟨rfl, rfl⟩)
                | (go_at_call 23; refine hPS.out.mono ?_; rintro _ w1 ⟨rfl, hO, _⟩; obtain rfl := hO (by decide)))
              go_ret
              exact ⟨by rw [HE.out]; rfl, HS.out.grown, fun h => absurd h (by rw [HE.out]; decide)⟩
          · have kp : ((h'.proto.toNat : Int) == 0) = false := beq_u8 (k := 0) (toNat_ne hp0)
            rcases sxPassE_two h'.proto r' with he | he
            · rw [he] at hpass hnext
              have hPS := Lib.hid hpass
              clear hpass hs hz hp0 hdec hsucc hsum hn8 hstep
              go_wp2_with (first
                | (go_at_call 18; refine (hbt.out _).mono ?_; rintro _ w1 ⟨rfl, rfl⟩)
                | (go_at_call 23; refine hPS.out.mono ?_; rintro _ w1 ⟨rfl, _, hO⟩; obtain ⟨A2, c2, hS2⟩ := hnext.out (by trivial) w1 (hO (by trivial)); have HS2 := Lib.hid hS2; clear hO hS2))
              go_roundw
              case rel => exact ⟨_, _, _, _, _, _, HS2⟩
              case measure => rw [hmeas.out _ _ _ HS2.out, c40]; simp [intOf]; omega
            · rw [he] at hpass hstep
              have hPS := Lib.hid hpass
              have hE := hstep.out (by decide)
              have HE := Lib.hid hE
              clear hE hpass hs hz hp0 hdec hsucc hsum hn8 hstep hnext hmeas
              go_wp2_with (first
                | (go_at_call 18; refine (hbt.out _).mono ?_; rintro _ w1 ⟨rfl, rfl⟩)
                | (go_at_call 23; refine hPS.out.mono ?_; rintro _ w1 ⟨rfl, hO, _⟩; obtain rfl := hO (by decide)))
              go_ret
              exact ⟨by rw [HE.out]; rfl, HS.out.grown, fun h => absurd h (by rw [HE.out]; decide)⟩
    · have hsf : stands h'.proto = false := by simpa using hs
      rw [hsf] at hbt
      have hE : sxWalk 8 h r = (0, h') := by rw [← HS.out.walk]; exact sxWalk_no hsf
      have HE := Lib.hid hE
      clear hs hsum hE hsf
      go_wp2_with (go_at_call 18; refine (hbt.out _).mono ?_; rintro _ w1 ⟨rfl, rfl⟩)
      go_ret
      exact ⟨by rw [HE.out]; rfl, HS.out.grown, fun _ => ⟨_, _, by rw [HE.out]; exact HS.out.cells⟩⟩
end Go.Proofs.Ytpgggeihhdbedaa
