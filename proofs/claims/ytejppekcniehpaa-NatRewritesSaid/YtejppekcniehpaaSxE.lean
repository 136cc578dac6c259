/-
  All heads between, passed: a contract of walk.
  What the first head of a packet says: a contract.
-/
import Derived.Test.YtejppekcniehpaaSxC
namespace Go.Proofs.Ytejppekcniehpaa
open Go.RowKit
theorem Rd.grownAt {w w' : World} {B g : Nat} {v : Value} {xs : List Value} (hr : Rd w B v xs) (hg : w.grownBy w' (some g)) (hB : B ≤ g) (hgw : g < w.heap.size) : Rd w' B v xs :=
  hr.keep fun p hp => World.cell?_of_block (hg.block p.block (by omega) (by simp; omega))
theorem sxPassE_two (p : UInt8) (r : List UInt8) : sxPassE p r = 0 ∨ sxPassE p r = 9 := by unfold sxPassE; split <;> simp
theorem sxPassE_no {p : UInt8} {r : List UInt8} (h : sxPassE p r = 0) : 8 ≤ r.length ∧ sxSize p r ≤ r.length := by
  unfold sxPassE at h
  split at h
  · simp at h
  · omega
/-- What holds of a path on its way. -/
structure PaSt (w : World) (g B : Nat) (h : Hd) (r : List UInt8) (T : Int) (k n : Nat) (h' : Hd) (r' : List UInt8) (A : Option Addr) (c : Nat) (wr : World) : Prop where
  sum : k + n = 8
  cells : PaAt wr g h' (.slice A r'.length c) n
  wide : h'.Wide
  rd : Rd wr B (.slice A r'.length c) (cellsB r')
  grown : w.grownBy wr (some g)
  pos : 0 ≤ h'.pos
  tot : h'.pos + (r'.length : Nat) = T
  walk : sxWalk k h' r' = sxWalk 8 h r
set_option maxRecDepth 100000 in
set_option maxHeartbeats 1000000 in
theorem sxWalk_any {w : World} {g : Nat} {h : Hd} {A : Option Addr} {c B : Nat} {r : List UInt8} (hp : PaAt w g h (.slice A r.length c) 0) (hw : h.Wide) (hr : Rd w B (.slice A r.length c) (cellsB r)) (hB : B ≤ g) (hpos : 0 ≤ h.pos) (htot : h.pos + (r.length : Nat) ≤ 100000) :
    Calls Try.prog 66 #[.pointer (some ⟨g, 0, none⟩)] w fun e w' => e = .returned (.int .i64 (((sxWalk 8 h r).1 : Nat) : Int)) ∧ w.grownBy w' (some g) ∧ ((sxWalk 8 h r).1 = 0 → ∃ v n, PaAt w' g (sxWalk 8 h r).2 v n) := by
  have hst : Hid (PaSt w g B h r (h.pos + (r.length : Nat)) 8 0 h r A c w) := Lib.hid ⟨rfl, hp, hw, hr, grown_none _ _, hpos, rfl, rfl⟩
  obtain ⟨T, hT⟩ : ∃ T, T = h.pos + (r.length : Nat) := ⟨_, rfl⟩
  rw [← hT] at hst htot
  have hgw := hp.lt
  clear hp hw hr hpos hT
  go_enter Try.func66, Try.ntmps66
  go_wp2_with fail
  go_loopw [] (fun wr => ∃ (k n : Nat) (h' : Hd) (r' : List UInt8) (A' : Option Addr) (c' : Nat), Hid (PaSt w g B h r T k n h' r' A' c' wr)) (fun wr => 8 - (intOf ((wr.cell? ⟨g, 40, none⟩).getD (.int .i64 0))).toNat)
  case atStart => exact ⟨8, 0, h, r, A, c, hst⟩
  case round =>
    obtain ⟨k, n, h', r', A', c', HS⟩ := hrel
    clear hst
    obtain ⟨c1, _, _, _, c40⟩ := HS.out.cells.cells HS.out.wide
    have hbt := Lib.hid (fun W => sxBetween_any h'.proto W)
    have hsum := HS.out.sum
    have hgw2 : g < wr.heap.size := HS.out.cells.lt
    by_cases hs : stands h'.proto = true
    · rw [hs] at hbt
      by_cases hn8 : n = 8
      · subst hn8
        have hE : (sxWalk 8 h r).1 = 10 := by
          have hk : k = 0 := by omega
          subst hk
          rw [← HS.out.walk]
          unfold sxWalk
          rw [if_pos hs]
        have HE := Lib.hid hE
        clear hE hsum hs
        go_wp2_with (go_at_call 74; refine (hbt.out _).mono ?_; rintro _ w1 ⟨rfl, rfl⟩)
        go_ret
        exact ⟨by rw [HE.out]; rfl, HS.out.grown, fun h => absurd h (by rw [HE.out]; decide)⟩
      · have kn8 : ((n : Int) == 8) = false := by simp; omega
        have hdec : Hid ((h'.proto = 0 ∧ 0 < n) ∨ ((h'.proto ≠ 0 ∨ n = 0))) := Lib.hid (by by_cases a : h'.proto = 0 <;> by_cases b : 0 < n <;> simp [a, b] <;> omega)
        have hsucc : Hid (∃ j, k = j + 1 ∧ j < 8 ∧ (j < 7 ↔ 0 < n)) := Lib.hid ⟨k - 1, by omega, by omega, by omega⟩
        by_cases hz : h'.proto = 0 ∧ 0 < n
        · have hE : (sxWalk 8 h r).1 = 4 := by
            obtain ⟨j, rfl, _, hj⟩ := hsucc.out
            rw [← HS.out.walk]
            unfold sxWalk
            rw [if_pos hs, if_pos ⟨hz.1, hj.2 hz.2⟩]
          obtain ⟨hz1, hz2⟩ := hz
          have HE := Lib.hid hE
          rw [hz1] at c1 hbt
          clear hE hsum hs hn8 hdec hsucc
          go_wp2_with (go_at_call 74; refine (hbt.out _).mono ?_; rintro _ w1 ⟨rfl, rfl⟩)
          go_ret
          exact ⟨by rw [HE.out]; rfl, HS.out.grown, fun h => absurd h (by rw [HE.out]; decide)⟩
        · have hpass := sxPass_any HS.out.cells HS.out.wide HS.out.rd hB ⟨HS.out.pos, by have := HS.out.tot; omega⟩ (by omega) (by have := HS.out.tot; have := HS.out.pos; omega)
          have hstep : Hid (sxPassE h'.proto r' ≠ 0 → (sxWalk 8 h r).1 = 9) := Lib.hid fun hne => by
            obtain ⟨j, rfl, _, hj⟩ := hsucc.out
            rw [← HS.out.walk]
            unfold sxWalk
            rw [if_pos hs, if_neg (fun hc => hz ⟨hc.1, hj.1 hc.2⟩), if_pos hne]
          have hnext : Hid (sxPassE h'.proto r' = 0 → ∀ w1, PaOut wr g h' r' n B w1 → ∃ A2 c2, PaSt w g B h r T (k - 1) (n + 1) (sxNext h' r') (r'.drop (sxSize h'.proto r')) A2 c2 w1) := Lib.hid fun hne w1 ⟨A2, c2, q1, q2, q3⟩ => by
            obtain ⟨j, rfl, _, hj⟩ := hsucc.out
            obtain ⟨z1, z2⟩ := sxPassE_no hne
            refine ⟨A2, c2, by omega, q1, HS.out.wide, q2.grownAt q3 hB hgw2, grown_two HS.out.grown q3, ?_, ?_, ?_⟩
            · have := HS.out.pos
              unfold sxNext
              dsimp only
              omega
            · have := HS.out.tot
              rw [List.length_drop]
              unfold sxNext
              dsimp only
              omega
            · rw [← HS.out.walk]
              conv => rhs; unfold sxWalk
              rw [if_pos hs, if_neg (fun hc => hz ⟨hc.1, hj.1 hc.2⟩), if_neg (by omega)]
              rfl
          have hmeas : Hid (∀ w1 A2 c2, PaSt w g B h r T (k - 1) (n + 1) (sxNext h' r') (r'.drop (sxSize h'.proto r')) A2 c2 w1 → w1.cell? ⟨g, 40, none⟩ = some (.int .i64 ((n + 1 : Nat) : Int))) := Lib.hid fun w1 A2 c2 q => (q.cells.cells q.wide).2.2.2.2
          have hn7 : n < 8 := by omega
          by_cases hp0 : h'.proto = 0
          · have hn0 : n = 0 := by
              rcases Nat.eq_zero_or_pos n with e | e
              · exact e
              · exact absurd ⟨hp0, e⟩ hz
            subst hn0
            have hkz : k = 8 := by omega
            rw [hp0] at c1 hbt
            rcases sxPassE_two h'.proto r' with he | he
            · rw [he] at hpass hnext
              have hPS := Lib.hid hpass
              clear hpass hs hz hp0 hdec hsucc hsum hn8 hstep
              go_wp2_with (first
                | (go_at_call 74; refine (hbt.out _).mono ?_; rintro _ w1 ⟨rfl, rfl⟩)
                | (go_at_call 75; refine hPS.out.mono ?_; rintro _ w1 ⟨rfl, _, hO⟩; obtain ⟨A2, c2, hS2⟩ := hnext.out (by trivial) w1 (hO (by trivial)); have HS2 := Lib.hid hS2; clear hO hS2))
              go_roundw
              case rel => exact ⟨_, _, _, _, _, _, HS2⟩
              case measure => rw [hmeas.out _ _ _ HS2.out, c40]; simp [intOf]
            · rw [he] at hpass hstep
              have hPS := Lib.hid hpass
              have hE := hstep.out (by decide)
              have HE := Lib.hid hE
              clear hE hpass hs hz hp0 hdec hsucc hsum hn8 hstep hnext hmeas
              go_wp2_with (first
                | (go_at_call 74; refine (hbt.out _).mono ?_; rintro _ w1 ⟨rfl, rfl⟩)
                | (go_at_call 75; refine hPS.out.mono ?_; rintro _ w1 ⟨rfl, hO, _⟩; obtain rfl := hO (by decide)))
              go_ret
              exact ⟨by rw [HE.out]; rfl, HS.out.grown, fun h => absurd h (by rw [HE.out]; decide)⟩
          · have kp : ((h'.proto.toNat : Int) == 0) = false := beq_u8 (k := 0) (toNat_ne hp0)
            rcases sxPassE_two h'.proto r' with he | he
            · rw [he] at hpass hnext
              have hPS := Lib.hid hpass
              clear hpass hs hz hp0 hdec hsucc hsum hn8 hstep
              go_wp2_with (first
                | (go_at_call 74; refine (hbt.out _).mono ?_; rintro _ w1 ⟨rfl, rfl⟩)
                | (go_at_call 75; refine hPS.out.mono ?_; rintro _ w1 ⟨rfl, _, hO⟩; obtain ⟨A2, c2, hS2⟩ := hnext.out (by trivial) w1 (hO (by trivial)); have HS2 := Lib.hid hS2; clear hO hS2))
              go_roundw
              case rel => exact ⟨_, _, _, _, _, _, HS2⟩
              case measure => rw [hmeas.out _ _ _ HS2.out, c40]; simp [intOf]; omega
            · rw [he] at hpass hstep
              have hPS := Lib.hid hpass
              have hE := hstep.out (by decide)
              have HE := Lib.hid hE
              clear hE hpass hs hz hp0 hdec hsucc hsum hn8 hstep hnext hmeas
              go_wp2_with (first
                | (go_at_call 74; refine (hbt.out _).mono ?_; rintro _ w1 ⟨rfl, rfl⟩)
                | (go_at_call 75; refine hPS.out.mono ?_; rintro _ w1 ⟨rfl, hO, _⟩; obtain rfl := hO (by decide)))
              go_ret
              exact ⟨by rw [HE.out]; rfl, HS.out.grown, fun h => absurd h (by rw [HE.out]; decide)⟩
    · have hsf : stands h'.proto = false := by simpa using hs
      rw [hsf] at hbt
      have hE : sxWalk 8 h r = (0, h') := by rw [← HS.out.walk]; exact sxWalk_no hsf
      have HE := Lib.hid hE
      clear hs hsum hE hsf
      go_wp2_with (go_at_call 74; refine (hbt.out _).mono ?_; rintro _ w1 ⟨rfl, rfl⟩)
      go_ret
      exact ⟨by rw [HE.out]; rfl, HS.out.grown, fun _ => ⟨_, _, by rw [HE.out]; exact HS.out.cells⟩⟩
theorem build_hd6 (p : UInt8) (n : Int) (x y : Ad) (hx : x.Wide) (hy : y.Wide) (k : UInt8) (W : World) : (Instr.build 33 #[(0, .bool true), (1, .int .u8 (p.toNat : Int)), (2, .int .i64 n), (3, adV x), (4, adV y), (6, .int .u8 (k.toNat : Int))]).run Try.prog W = .ok (hdV ⟨true, p, n, x, y, false, k⟩) W := by
  obtain ⟨s, B⟩ := x
  obtain ⟨s2, B2⟩ := y
  obtain ⟨a1, a2, a3, a4, a5, a6, a7, a8, a9, a10, a11, a12, a13, a14, a15, a16, rfl⟩ := list16 hx
  obtain ⟨b1, b2, b3, b4, b5, b6, b7, b8, b9, b10, b11, b12, b13, b14, b15, b16, rfl⟩ := list16 hy
  kernel_rfl
set_option maxRecDepth 100000 in
theorem sxFirst_any {A : Option Addr} {c : Nat} {l : List UInt8} {w : World} (hr : Rd w w.heap.size (.slice A l.length c) (cellsB l)) (h : 40 ≤ l.length) (h60 : l.length ≤ 100000) :
    Calls Try.prog 65 #[.slice A l.length c] w fun e w' => e = .returned (hdV (sxFirst l)) ∧ Below w.heap.size w w' := by
  obtain ⟨_, _, e, hlc, _, _⟩ := hr.bytes
  injection e with e1 e2 e3
  subst e3
  clear e1 e2
  have hz : ∀ w, (zeroValue 33).run Try.prog w = .ok (.agg (hdC Hd.zero).toArray) w := zero_hd
  have hw := sxFirst_wide h
  have hr0 := hr.alloc (Nat.le_refl _) (.cells (hdC Hd.zero).toArray 33)
  have h0 := heap_alloc_last w (.cells (hdC Hd.zero).toArray 33)
  have hb0 := up_alloc (Below.refl w.heap.size w) (.cells (hdC Hd.zero).toArray 33)
  obtain ⟨X, hX⟩ : ∃ X, X = w.alloc (.cells (hdC Hd.zero).toArray 33) := ⟨_, rfl⟩
  have hXs : X.heap.size = w.heap.size + 1 := by rw [hX]; simp
  rw [← hX] at hr0 h0 hb0
  obtain ⟨A1, hA1, k1⟩ := cut_lh (P := Try.prog) (t := 22) Try.underlying22 (i := _) (e := 5) rfl rfl A l.length c 8 24 (by omega) (by omega) 8 24 rfl rfl
  obtain ⟨A2, hA2, k2⟩ := cut_lh (P := Try.prog) (t := 22) Try.underlying22 (i := _) (e := 5) rfl rfl A l.length c 24 40 (by omega) (by omega) 24 40 rfl rfl
  have r1 := hr0.cut (lo := 8) (hi := 24) (by omega) (by omega)
  have r2 := hr0.cut (lo := 24) (hi := 40) (by omega) (by omega)
  rw [← hA1] at r1
  rw [← hA2] at r2
  rw [show ((cellsB l).take 24).drop 8 = cellsB ((l.drop 8).take 16) by rw [cellsB_take, cellsB_drop, List.drop_take]] at r1
  rw [show ((cellsB l).take 40).drop 24 = cellsB ((l.drop 24).take 16) by rw [cellsB_take, cellsB_drop, List.drop_take]] at r2
  obtain ⟨x1, hx1⟩ : ∃ x1, x1 = (l.drop 8).take 16 := ⟨_, rfl⟩
  obtain ⟨x2, hx2⟩ : ∃ x2, x2 = (l.drop 24).take 16 := ⟨_, rfl⟩
  have l1 : x1.length = 16 := by rw [hx1]; simp; omega
  have l2 : x2.length = 16 := by rw [hx2]; simp; omega
  rw [← hx1] at r1
  rw [← hx2] at r2
  rw [show 24 - 8 = x1.length by omega] at r1
  rw [show 40 - 24 = x2.length by omega] at r2
  obtain ⟨c1, hc1⟩ : ∃ c1, c1 = c - 8 := ⟨_, rfl⟩
  obtain ⟨c2, hc2⟩ : ∃ c2, c2 = c - 24 := ⟨_, rfl⟩
  rw [← hc1] at k1 r1
  rw [← hc2] at k2 r2
  obtain ⟨C1, hC1⟩ : ∃ C1, C1 = (adC (ad6 x1)).toArray := ⟨_, rfl⟩
  obtain ⟨C2, hC2⟩ : ∃ C2, C2 = (adC (ad6 x2)).toArray := ⟨_, rfl⟩
  have H1 : Hid (∀ W, Below X.heap.size X W → Calls Try.prog 73 #[.slice A1 16 c1] W fun e w' => e = .returned (.agg C1) ∧ Below W.heap.size W w') := Lib.hid fun W hW => by
    have := sxAddress_any (r1.below (hW.mono (by omega))) (by have := hW.size; omega) l1
    rw [l1, adV, ← hC1] at this
    exact this
  have H2 : Hid (∀ W, Below X.heap.size X W → Calls Try.prog 73 #[.slice A2 16 c2] W fun e w' => e = .returned (.agg C2) ∧ Below W.heap.size W w') := Lib.hid fun W hW => by
    have := sxAddress_any (r2.below (hW.mono (by omega))) (by have := hW.size; omega) l2
    rw [l2, adV, ← hC2] at this
    exact this
  obtain ⟨b, o, rfl, hbl, hc⟩ := hr0.addr (by omega)
  have c9 := hc 6 (by omega)
  have c8 := hc 7 (by omega)
  obtain ⟨y9, hy9⟩ : ∃ y, y = l[6]'(by omega) := ⟨_, rfl⟩
  obtain ⟨y8, hy8⟩ : ∃ y, y = l[7]'(by omega) := ⟨_, rfl⟩
  have hg9 : l.getD 6 0 = y9 := by rw [hy9, getD_get (by omega)]
  have hg8 : l.getD 7 0 = y8 := by rw [hy8, getD_get (by omega)]
  rw [← hy9] at c9
  rw [← hy8] at c8
  obtain ⟨m, hm⟩ : ∃ m, m = l.length := ⟨_, rfl⟩
  have hH : sxFirst l = ⟨true, y9, 40, ad6 x1, ad6 x2, false, y8⟩ := by
    unfold sxFirst
    rw [hg9, hg8, hx1, hx2]
  have hbu := build_hd6 y9 40 (ad6 x1) (ad6 x2) (ad6_wide l1) (ad6_wide l2) y8
  rw [← hH, adV, adV, ← hC1, ← hC2] at hbu
  rw [← hm] at k1 k2 h h60 ⊢
  have hS : Hid (∀ W, Below X.heap.size X W → ∃ W', (Instr.storeAt 33 (.pointer (some ⟨w.heap.size, 0, none⟩)) (hdV (sxFirst l))).run Try.prog W = .ok () W' ∧ HdAt W' w.heap.size (sxFirst l) ∧ Below w.heap.size w W') := Lib.hid fun W hW => by
    obtain ⟨W', hst, hat, hgr, _⟩ := store_hd (w := W) (g := w.heap.size) (a := Hd.zero) (b := sxFirst l) ((hW.block _ (by omega)).trans h0) Hd.zero_wide hw
    exact ⟨W', hst, hat, grown_below (up hb0 hW) hgr (Nat.le_refl _)⟩
  have Hw := Lib.hid hw
  obtain ⟨D, hD⟩ : ∃ D, D = (hdC (sxFirst l)).toArray := ⟨_, rfl⟩
  rw [hdV, ← hD] at hbu hS ⊢
  have hDi : (Try.prog.info? 33).map (·.size) = some D.size := by rw [hD]; exact info_hdA hw
  have HD := Lib.hid hD
  clear hD
  generalize sxFirst l = y at hS Hw HD ⊢
  have Hc : Hid (∀ W, Below X.heap.size X W → W.cell? ⟨b, o + 6, none⟩ = some (.int .u8 (y9.toNat : Int)) ∧ W.cell? ⟨b, o + 7, none⟩ = some (.int .u8 (y8.toNat : Int))) := Lib.hid fun W hW => ⟨(hW.cell (by simp; omega)).trans c9, (hW.cell (by simp; omega)).trans c8⟩
  have Hc2 : Hid (∀ W, Below w.heap.size w W → W.cell? ⟨b, o + 6, none⟩ = some (.int .u8 (y9.toNat : Int)) ∧ W.cell? ⟨b, o + 7, none⟩ = some (.int .u8 (y8.toNat : Int))) := Lib.hid fun W hW => ⟨(hW.cell (by simp; omega)).trans ((hb0.cell (by simp; omega)).symm.trans c9), (hW.cell (by simp; omega)).trans ((hb0.cell (by simp; omega)).symm.trans c8)⟩
  clear hC1 hC2 hr hr0 h0 hb0 hA1 hA2 r1 r2 hx1 hx2 l1 l2 hc1 hc2 hc hy9 hy8 hg9 hg8 hm hH hw hbl hlc
  subst hX
  generalize hZ : hdC Hd.zero = Z at *
  clear hZ
  have n9 : (6 : Int) < (m : Int) := by omega
  have n8 : (7 : Int) < (m : Int) := by omega
  go_enter Try.func65, Try.ntmps65
  go_wp2_with (first
    | (with_reducible refine wpList_alloc_zero (o := ⟨some 2, .alloc 33, _, _, _, _⟩) rfl 33 rfl Z.toArray hz ?_))
  refine wp_region_held_drew (S := fun w' => w'.cell? ⟨b, o + 6, none⟩ = some (.int .u8 (y9.toNat : Int)) ∧ w'.cell? ⟨b, o + 7, none⟩ = some (.int .u8 (y8.toNat : Int))) (by kernel_rfl) ⟨c9, c8⟩ (fun hHeld => ?_)
  refine th 0 ?_ (hy := by (intro wy hSw; obtain ⟨s9, s8⟩ := hSw; go_simp <;> with_reducible rfl))
  go_frame
  refine th 1 ?_ (hy := by (intro wy hSw; obtain ⟨s9, s8⟩ := hSw; go_simp <;> with_reducible rfl))
  go_frame
  refine th 2 ?_ (hy := by (intro wy hSw; obtain ⟨s9, s8⟩ := hSw; go_simp <;> with_reducible rfl))
  go_frame
  refine th 3 ?_ (hy := by (intro wy hSw; obtain ⟨s9, s8⟩ := hSw; go_simp <;> with_reducible rfl))
  go_frame
  refine th 4 ?_ (hy := by (intro wy hSw; obtain ⟨s9, s8⟩ := hSw; go_simp <;> with_reducible rfl))
  go_frame
  refine th 6 ?_ (hy := by (intro wy hSw; obtain ⟨s9, s8⟩ := hSw; go_simp <;> with_reducible rfl))
  go_frame
  refine th 7 ?_ (hy := by (intro wy hSw; obtain ⟨s9, s8⟩ := hSw; go_simp <;> with_reducible rfl))
  go_frame
  refine th 9 ?_ (hy := by (intro wy hSw; obtain ⟨s9, s8⟩ := hSw; go_simp <;> with_reducible rfl))
  go_frame
  refine th 10 ?_ (hy := by (intro wy hSw; obtain ⟨s9, s8⟩ := hSw; go_simp <;> with_reducible rfl))
  go_frame
  refine th 11 ?_ (hy := by (intro wy hSw; obtain ⟨s9, s8⟩ := hSw; go_simp <;> with_reducible rfl))
  go_frame
  refine wpAnyH_ready (rs := [5]) (by kernel_rfl) (by simp) (AllReadyH.cons (o := ⟨some 8, .call { callee := .value (.func 73), args := #[.tmp 7], argTypes := #[22] }, _, _, _, none⟩) rfl (fun K hK => ?_) AllReadyH.nil)
  rw [if_pos (by kernel_rfl)]
  go_simp
  refine (H1.out _ (drew_self _)).mono ?_
  rintro _ w1 ⟨rfl, hb1⟩
  have HB1 := Lib.hid (drew_start hb1)
  clear hb1
  dsimp only
  refine hK.out _ _ (Hc.out w1 HB1.out) (fun _ => ?_)
  clear hK K
  try go_frame
  refine wpAnyH_ready (rs := [8]) (by kernel_rfl) (by simp) (AllReadyH.cons (o := ⟨some 11, .call { callee := .value (.func 73), args := #[.tmp 10], argTypes := #[22] }, _, _, _, none⟩) rfl (fun K hK => ?_) AllReadyH.nil)
  rw [if_pos (by kernel_rfl)]
  go_simp
  refine (H2.out _ HB1.out).mono ?_
  rintro _ w2 ⟨rfl, hb2⟩
  have HB2 := Lib.hid (up HB1.out hb2)
  clear hb2
  obtain ⟨w3, hst, hat, hbel⟩ := hS.out w2 HB2.out
  have HT := Lib.hid (And.intro hat hbel)
  clear hat hbel
  dsimp only
  refine hK.out _ _ (Hc.out w2 HB2.out) (fun _ => ?_)
  clear hK K
  try go_frame
  refine th 12 (v := .agg D) ?_ (hy := fun wy hSw => by exact exec_bld6 (k1 := 0) (k2 := 1) (k3 := 2) (k4 := 3) (k5 := 4) (k6 := 6) (a1 := .const (.bool true)) (a2 := .tmp 5) (a3 := .const (.int .i64 40)) (a4 := .tmp 8) (a5 := .tmp 11) (a6 := .tmp 14) rfl (u1 := .bool true) (u2 := .int .u8 (y9.toNat : Int)) (u3 := .int .i64 40) (u4 := .agg C1) (u5 := .agg C2) (u6 := .int .u8 (y8.toNat : Int)) rfl rfl rfl rfl rfl rfl (hbu _))
  go_frame
  refine wpAnyH_ready (rs := [13]) (by kernel_rfl) (by simp) (AllReadyH.cons (o := ⟨none, .store 33 (.tmp 2) (.tmp 15), _, _, _, none⟩) rfl (fun K hK => ?_) AllReadyH.nil)
  rw [if_pos (by kernel_rfl)]
  refine wp_skip w3 (exec_store rfl (vx := .pointer (some ⟨w.heap.size, 0, none⟩)) rfl (vy := .agg D) rfl hst) ?_
  refine hK.out _ _ (Hc2.out _ HT.out.2) (fun _ => ?_)
  clear hK K
  try go_frame
  refine wpAnyH_done (by kernel_rfl) ?_ _
  go_wp2_with fail
  refine bodyPost_ret (results_cell_row (p := 2) (ty := 33) (by kernel_rfl) _ _ w.heap.size 33 _ (0, 0) _ rfl (by rw [HD.out]; exact HT.out.1) Try.underlying33 rfl hDi) rfl ⟨rfl, HT.out.2⟩
end Go.Proofs.Ytejppekcniehpaa
