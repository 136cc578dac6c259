/-
  The walk of IpsixPassed.
-/
import Derived.Test.YtpgggeihhdbedaaSxJ
import Derived.Test.YtpgggeihhdbedaaHdOpen
namespace Go.Proofs.Ytpgggeihhdbedaa
open Go.RowKit
set_option maxRecDepth 100000 in
set_option maxHeartbeats 4000000 in
theorem ipsixPassed_walk (h : Hd) (vs : Value) (L0 : List UInt8) (vd : Value) (l : List UInt8) (w : World) (hh : h.Wide ∧ -9223372036854775808 ≤ h.pos ∧ h.pos ≤ 9223372036854775807) (hrs : Rd w w.heap.size vs (cellsB L0)) (hr : Rd w w.heap.size vd (cellsB l)) :
    Calls Try.prog 3 #[hdV h, vs, vd] w fun e w' => e = .returned (.bool true) ∧ Below w.heap.size w w' := by
  have hw := hh.1
  clear hh
  rw [hdV]
  obtain ⟨As, cs, rfl, hcs, _, hrs2⟩ := hrs.bytes
  obtain ⟨A0, c0, rfl, _, _, hr2⟩ := hr.bytes
  clear hrs hr
  have hrs := hrs2
  have hr := hr2
  clear hrs2 hr2
  obtain ⟨i, hi8, hz0, hz1, hz2⟩ := info_parts info_u8
  have hat : HdAt (w.alloc (.cells (hdC h).toArray 26)) w.heap.size h := heap_alloc_last w (.cells (hdC h).toArray 26)
  have hb0 := up_alloc (Below.refl w.heap.size w) (.cells (hdC h).toArray 26)
  have hlv := Lib.hid sxLives_any
  have hbtw := Lib.hid (fun W => rfBetween_any h.proto W)
  obtain ⟨d, hd⟩ : ∃ d, d = l.take 60 := ⟨_, rfl⟩
  have hdl : d.length ≤ 60 := by rw [hd, List.length_take]; omega
  obtain ⟨m, hm⟩ : ∃ m, m = d.length := ⟨_, rfl⟩
  obtain ⟨L, hL⟩ : ∃ L, L = L0.take 12 := ⟨_, rfl⟩
  have hLl : L.length ≤ 12 := by rw [hL, List.length_take]; omega
  obtain ⟨n, hn⟩ : ∃ n, n = L.length := ⟨_, rfl⟩
  have hn12 : n ≤ 12 := by omega
  have hcutL : n ≤ L0.length := by rw [hn, hL, List.length_take]; omega
  have hrL : Rd w w.heap.size (.slice As n cs) (cellsB L) := by
    have := hrs.upto (hi := n) hcutL
    rw [cellsB_take] at this
    rw [show L = L0.take n by rw [hn, hL, List.length_take]; rw [show L0.take (min 12 L0.length) = L0.take 12 by rcases Nat.le_total 12 L0.length with e | e; rw [Nat.min_eq_left e]; rw [Nat.min_eq_right e, List.take_of_length_le (Nat.le_refl _), List.take_of_length_le e]]]
    exact this
  have hfew : Hid (Calls Try.prog 5 #[.slice A0 l.length c0, .int .i64 60] (w.alloc (.cells (hdC h).toArray 26)) fun e w' => ∃ A c, e = .returned (.slice A m c) ∧ Mine w' (w.heap.size + 1) 5 (.slice A m c) (cellsB d) ∧ HdAt w' w.heap.size h ∧ Below w.heap.size w w') := Lib.hid <| by
    refine (few_any _ l 60 _ _ (hr.alloc (Nat.le_refl _) (.cells (hdC h).toArray 26)) (by simp) (by omega)).mono ?_
    rintro e w' ⟨v, rfl, hv, hb⟩
    rw [← hd] at hv
    obtain ⟨A, c, rfl, hr'⟩ := mine_slice (w := w) hv hm.symm
    exact ⟨A, c, rfl, by simpa using hv, hat.below hb (by simp), up hb0 hb⟩
  have htake : Hid ((12 < L0.length ∧ n = 12) ∨ (¬ 12 < L0.length ∧ n = L0.length)) := Lib.hid (by rw [hn, hL, List.length_take]; omega)
  obtain ⟨q, hq⟩ : ∃ q, q = l.length := ⟨_, rfl⟩
  rw [← hq] at hfew ⊢
  obtain ⟨q0, hq0⟩ : ∃ q0, q0 = L0.length := ⟨_, rfl⟩
  rw [← hq0] at htake hcs ⊢
  have hkc : Hid (12 < q0 → n = 12 → ∀ W : World, (Instr.sliceAt 27 (.slice As q0 cs) none (some (.int .i64 12)) none).run Try.prog W = .ok (.slice As n cs) W) := Lib.hid fun h12 hn2 => by
    have := cut_h (P := Try.prog) (t := 27) Try.underlying27 (i := _) (e := 5) rfl rfl As q0 cs 12 (by omega) 12 rfl
    rw [hn2]; exact this
  -- what stands in between
  obtain ⟨p, hp⟩ : ∃ p, p = h.proto := ⟨_, rfl⟩
  rw [← hp] at hbtw
  have hw17 : (⟨h.six, 17, h.pos, h.src, h.dst, h.part, h.hops⟩ : Hd).Wide := hw
  obtain ⟨h17, hh17⟩ : ∃ x : Hd, x = ⟨h.six, 17, h.pos, h.src, h.dst, h.part, h.hops⟩ := ⟨_, rfl⟩
  rw [← hh17] at hw17
  have hproto : Hid (∀ W, HdAt W w.heap.size h → W.cell? ⟨w.heap.size, 1, none⟩ = some (.int .u8 (p.toNat : Int)) ∧ W.frozen? ⟨w.heap.size, 1, none⟩ = false) := Lib.hid fun W hW => ⟨by rw [hp]; exact hdC_proto hW, frozen_of_row W _ _ _ _ hW⟩
  have hset17 : Hid (∀ W, HdAt W w.heap.size h → HdAt (W.setCell ⟨w.heap.size, 1, none⟩ (.int .u8 17)) w.heap.size h17) := Lib.hid fun W hW => by rw [hh17]; exact hW.kind hw 17
  have hsrc17 : Hid (h17.src = h.src) := Lib.hid (by rw [hh17])
  -- the sizes
  have hsz : Hid (∀ W, Below w.heap.size w W → ∀ k (hk : k < n), ∃ b o, As = some ⟨b, o, none⟩ ∧ b < w.heap.size ∧ W.cell? ⟨b, o + k, none⟩ = some (.int .u8 ((L.getD k 0).toNat : Int))) := Lib.hid fun W hW k hk => by
    obtain ⟨b, o, hAs, hb, hc⟩ := hrL.addr (by omega)
    rw [getD_get (show k < L.length by omega)]
    exact ⟨b, o, hAs, hb, (hW.cell (by simpa using hb)).trans (hc k (by omega))⟩
  have hchl := sxChain_length_le p L
  rcases htake.out with ⟨hbig, hn2⟩ | ⟨hbig, hn2⟩
  · have kc := hkc.out hbig hn2
    clear hkc hn2
    clear htake hcutL hL hq hrs hrL hr hd hb0 hat hcs
    clear hq0
    have Hn := Lib.hid hn
    have Hm := Lib.hid hm
    have Hh17 := Lib.hid hh17
    have Hw := Lib.hid hw
    have Hw17 := Lib.hid hw17
    have Hch := Lib.hid hchl
    have Hdl := Lib.hid hdl
    clear hn hm hh17 hw hw17 hp hchl hdl hLl
    by_cases hs : stands p = true
    · rw [hs] at hbtw
      clear hs
      go_enter Try.func3, Try.ntmps3
      go_wp2_with (first
        | (go_at_call 5; refine hfew.out.mono ?_; rintro _ w1 ⟨A1, c1, rfl, hd1, hat1, hb1⟩; have HD1 := Lib.hid hd1; have HAT1 := Lib.hid hat1; have HB1 := Lib.hid hb1; obtain ⟨kp, kf⟩ := hproto.out w1 hat1; clear hd1 hat1 hb1)
        | (go_at_call 6; refine (hbtw.out _).mono ?_; rintro _ w1x ⟨rfl, rfl⟩)
        | (go_at_call 7; refine (hlv.out _).mono ?_; rintro _ w7 ⟨rfl, hb7⟩))
      go_ret
      exact ⟨rfl, up HB1.out hb7⟩
    · have hsf : stands p = false := by simpa using hs
      rw [hsf] at hbtw
      go_enter Try.func3, Try.ntmps3
      go_wp2_with (first
        | (go_at_call 5; refine hfew.out.mono ?_; rintro _ w1 ⟨A1, c1, rfl, hd1, hat1, hb1⟩; have HD1 := Lib.hid hd1; have HAT1 := Lib.hid hat1; have HB1 := Lib.hid hb1; obtain ⟨kp, kf⟩ := hproto.out w1 hat1; clear hd1 hat1 hb1)
        | (go_at_call 6; refine (hbtw.out _).mono ?_; rintro _ w1x ⟨rfl, rfl⟩))
      go_loopw [8, 9] (fun av iv wr => ∃ k : Nat, k ≤ n ∧ iv = .int .i64 (k : Int) ∧ Hid (Mine wr w1.heap.size 5 av (cellsB (sxUpto p L k)) ∧ Below w1.heap.size w1 wr)) (fun _ iv _ => n - (intOf iv).toNat)
      case atStart => exact ⟨0, Nat.zero_le _, rfl, Lib.hid ⟨by rw [sxUpto_zero]; exact Mine.empty w1 _ 5 (Nat.le_refl _), up_alloc (Below.refl _ _) _⟩⟩
      case round =>
        obtain ⟨k, hk, rfl, HI⟩ := hrel
        by_cases hlt : k < n
        · have hn := Hn.out
          obtain ⟨bs, os, hAs, hbs, hcell⟩ := hsz.out wr (up HB1.out HI.out.2) k hlt
          subst hAs
          obtain ⟨s, hsd⟩ : ∃ s, s = L.getD k 0 := ⟨_, rfl⟩
          rw [← hsd] at hcell
          have hs4 := mod4_lt s
          have hsn : (s % 4).toNat = s.toNat % 4 := by rw [UInt8.toNat_mod]; rfl
          obtain ⟨q4, hq4⟩ : ∃ q, q = (s % 4).toNat := ⟨_, rfl⟩
          have hrem : (s.toNat : Int).tmod 4 = (q4 : Int) := by rw [Int.tmod_eq_emod_of_nonneg (by omega)]; omega
          rw [← hq4] at hs4
          obtain ⟨y8, hy8⟩ : ∃ y, y = 8 * q4 := ⟨_, rfl⟩
          have kw1 : IntKind.i64.wrap (8 * (q4 : Int)) = (y8 : Int) := by rw [IntWalk.i64_in _ (by omega)]; omega
          obtain ⟨N, hN⟩ : ∃ N, N = 8 + y8 := ⟨_, rfl⟩
          have kw2 : IntKind.i64.wrap (8 + (y8 : Int)) = (N : Int) := by rw [IntWalk.i64_in _ (by omega)]; omega
          have hNl : N ≤ 32 := by omega
          obtain ⟨nm, hnm⟩ : ∃ nm, n = nm + 1 := ⟨n - 1, by omega⟩
          have kw3 : IntKind.i64.wrap ((n : Int) - 1) = (nm : Int) := by rw [IntWalk.i64_in _ (by omega)]; omega
          have hq4i : (q4 : Int) < 256 := by omega
          have hN0 : 0 < N := by omega
          have hN1 : (1 : Int) < (N : Int) := by omega
          have HN := Lib.hid (show N = 8 + 8 * (s % 4).toNat by rw [← hq4]; omega)
          have HQ4 := Lib.hid hq4
          have hnext := Lib.hid (sxUpto_next p L k (by omega))
          rw [show L[k]'(by omega) = s by rw [hsd, getD_get (show k < L.length by omega)]] at hnext
          have hupl := sxUpto_length_le p L k
          have hextl := fun x => sxExt_length x s
          have hmk : Hid (∀ w2, w2.ownsRow wr.heap.size 5 1 (.slice (some ⟨wr.heap.size, 0, none⟩) N N) N (madeCells (Value.int IntKind.u8 0).cells (N * 1)).toList → wr.grownBy w2 none → w2.cell? ⟨bs, os + k, none⟩ = some (.int .u8 (s.toNat : Int))) := Lib.hid fun w2 _ hgr => (World.cell?_of_block (hgr.block bs (by have := HB1.out.size; have := HI.out.2.size; omega) (by simp))).trans hcell
          have hbd : Hid ((sxUpto p L k).length ≤ 384 ∧ ∀ x, (sxExt x s).length ≤ 32) := Lib.hid ⟨by omega, fun x => by rw [hextl x, ← HQ4.out]; omega⟩
          have hbase : Hid (∀ w3, Below wr.heap.size wr w3 → w1.heap.size ≤ w3.heap.size) := Lib.hid fun w3 hb3 => Nat.le_trans HI.out.2.size hb3.size
          have hiff : (if k + 1 = L.length then p else (60 : UInt8)) = if k = nm then p else 60 := by by_cases e : k = nm; rw [if_pos e, if_pos (by omega)]; rw [if_neg e, if_neg (by omega)]
          rw [hiff] at hnext
          clear hiff hy8 hN hsn hupl hextl hsd hq4 hs4 hn
          have hkl : (k : Int) < (n : Int) := by omega
          by_cases hend : k = nm
          · have ke : ((k : Int) == (nm : Int)) = true := by simp; omega
            rw [if_pos hend] at hnext
            clear hend hnm
            go_wp2_with (first
              | (at_make; refine wpList_make_full _ rfl _ _ 27 rfl wr.heap.size 5 i _ 1 Try.underlying27 hi8 hz0 hz1 _ _ _ _ N rfl rfl rfl rfl (by rw [hz2]; omega) (by unfold maxLen; omega) (Nat.le_refl _) ?_; intro w2 hown hgr; have hc2 := hmk.out w2 hown hgr; obtain ⟨⟨⟨kx0, kx1⟩, kf0, kf1⟩, hm3, hm4⟩ := ext_made s p HI.out.1 hown hgr HN.out; rw [← HQ4.out] at hm3 hm4; have HM := Lib.hid hm4; clear hm3 hm4 hown hgr)
              | (at_builtin; refine wpList_append_rd rfl (.tmp 60) (.tmp 61) 27 rfl w1.heap.size 5 i _ 1 Try.underlying27 hi8 hz0 hz1 hz2 rfl _ (cellsB (sxUpto p L k)) rfl HM.out.1 _ _ (cellsB (sxExt p s)) rfl HM.out.2.1 (cellsB_one _) (by have := hbd.out.1; have := hbd.out.2 p; rw [cellsB_length, cellsB_length]; omega) (by have := hbd.out.1; have := hbd.out.2 p; rw [cellsB_length, cellsB_length]; unfold maxLen; omega) (hbase.out _ HM.out.2.2) ?_; intro v4 w4 hown4 hbel4 _ _; have HO := Lib.hid (And.intro hown4 hbel4); clear hown4 hbel4))
            go_roundw
            case rel => exact ⟨k + 1, by omega, by go_num, Lib.hid ⟨by rw [hnext.out, cellsB_append]; exact HO.out.1, (HI.out.2.trans (HM.out.2.2.mono HI.out.2.size)).trans HO.out.2⟩⟩
            case measure => simp [intOf]; omega
          · have ke : ((k : Int) == (nm : Int)) = false := by simp; omega
            rw [if_neg hend] at hnext
            clear hend hnm
            go_wp2_with (first
              | (at_make; refine wpList_make_full _ rfl _ _ 27 rfl wr.heap.size 5 i _ 1 Try.underlying27 hi8 hz0 hz1 _ _ _ _ N rfl rfl rfl rfl (by rw [hz2]; omega) (by unfold maxLen; omega) (Nat.le_refl _) ?_; intro w2 hown hgr; have hc2 := hmk.out w2 hown hgr; obtain ⟨⟨⟨kx0, kx1⟩, kf0, kf1⟩, hm3, hm4⟩ := ext_made s p HI.out.1 hown hgr HN.out; rw [← HQ4.out] at hm3 hm4; have HM := Lib.hid hm3; clear hm3 hm4 hown hgr)
              | (at_builtin; refine wpList_append_rd rfl (.tmp 60) (.tmp 61) 27 rfl w1.heap.size 5 i _ 1 Try.underlying27 hi8 hz0 hz1 hz2 rfl _ (cellsB (sxUpto p L k)) rfl HM.out.1 _ _ (cellsB (sxExt 60 s)) rfl HM.out.2.1 (cellsB_one _) (by have := hbd.out.1; have := hbd.out.2 60; rw [cellsB_length, cellsB_length]; omega) (by have := hbd.out.1; have := hbd.out.2 60; rw [cellsB_length, cellsB_length]; unfold maxLen; omega) (hbase.out _ HM.out.2.2) ?_; intro v4 w4 hown4 hbel4 _ _; have HO := Lib.hid (And.intro hown4 hbel4); clear hown4 hbel4))
            go_roundw
            case rel => exact ⟨k + 1, by omega, by go_num, Lib.hid ⟨by rw [hnext.out, cellsB_append]; exact HO.out.1, (HI.out.2.trans (HM.out.2.2.mono HI.out.2.size)).trans HO.out.2⟩⟩
            case measure => simp [intOf]; omega
        · have hkn : n = k := by omega
          subst hkn
          clear hlt hk
          have hn := Hn.out
          have hchl := Hch.out
          have HATr := Lib.hid (HAT1.out.below HI.out.2 HAT1.out.lt)
          obtain ⟨kp2, kf2⟩ := hproto.out wr HATr.out
          obtain ⟨ch, hch⟩ : ∃ ch, ch = sxChain p L := ⟨_, rfl⟩
          have hA := HI.out.1
          rw [hn, sxUpto_all, ← hch] at hA
          obtain ⟨ln, hln⟩ : ∃ ln, ln = ch.length := ⟨_, rfl⟩
          obtain ⟨Aa, ca, hav, hrA⟩ := mine_slice (w := w) hA hln.symm
          subst hav
          have hb17 : Below w.heap.size w (wr.setCell ⟨w.heap.size, 1, none⟩ (.int .u8 17)) := (up HB1.out HI.out.2).setCell (p := ⟨w.heap.size, 1, none⟩) (Nat.le_refl _) (.int .u8 17)
          have hA17 : Mine (wr.setCell ⟨w.heap.size, 1, none⟩ (.int .u8 17)) w1.heap.size 5 (.slice Aa ln ca) (cellsB ch) := Mine.outside hA (by have := HAT1.out.lt; omega)
          have hD17 : Mine (wr.setCell ⟨w.heap.size, 1, none⟩ (.int .u8 17)) (w.heap.size + 1) 5 (.slice A1 m c1) (cellsB d) := Mine.outside (HD1.out.kept HI.out.2) (Nat.lt_succ_self _)
          have h17a := hset17.out wr HATr.out
          have hlch : ln ≤ 384 := by rw [hln, hch]; omega
          have hw1lt := HAT1.out.lt
          have hwrs := HI.out.2.size
          have Hln := Lib.hid hln
          have Hch2 := Lib.hid hch
          have HA17 := Lib.hid hA17
          have HD17 := Lib.hid hD17
          have Hb17 := Lib.hid hb17
          have H17a := Lib.hid h17a
          clear hA hrA HI hn hchl hln hch hA17 hD17 hb17 h17a
          go_wp2_with fail
          have hn := Hn.out
          have hm := Hm.out
          have hw := Hw.out
          have hw17 := Hw17.out
          have hdl := Hdl.out
          have hln := Hln.out
          have hch := Hch2.out
          have hA17 := HA17.out
          have hD17 := HD17.out
          have hb17 := Hb17.out
          have h17a := H17a.out
          clear HA17 HD17 Hb17 H17a
          generalize wr.setCell ⟨w.heap.size, 1, none⟩ (.int .u8 17) = X at *
          have hXs : w.heap.size < X.heap.size := h17a.lt
          have hkeep : Hid (∀ W, Below X.heap.size X W → HdAt W w.heap.size h17 ∧ W.rangeAt w.heap.size 0 (hdC h17)) := Lib.hid fun W hW => ⟨h17a.below hW hXs, (h17a.below hW hXs).whole⟩
          have hRA : Hid (∀ W, Below X.heap.size X W → Rd W W.heap.size (.slice Aa ln ca) (cellsB ch)) := Lib.hid fun W hW => (hA17.rd.below hW).more hW.size
          have hRD : Hid (∀ W, Below X.heap.size X W → Rd W W.heap.size (.slice A1 m c1) (cellsB d)) := Lib.hid fun W hW => (hD17.rd.below hW).more hW.size
          have HB17 := Lib.hid hb17
          have k17 := h17a.whole
          obtain ⟨cd, hcd⟩ : ∃ cd, cd = ch ++ d := ⟨_, rfl⟩
          have hcdl : cd.length = ln + m := by rw [hcd, List.length_append, hln, hm]
          have hcd0 := Lib.hid hcd
          have hmk2 : Hid (∀ W v3, Mine W X.heap.size 5 v3 ([] ++ cellsB ch) → Mine W X.heap.size 5 v3 (cellsB ch)) := Lib.hid fun W v3 h => by simpa using h
          have hmk3 : Hid (∀ W v3, Mine W X.heap.size 5 v3 (cellsB ch ++ cellsB d) → ∃ A4 c4, v3 = .slice A4 (ln + m) c4 ∧ Rd W W.heap.size (.slice A4 (ln + m) c4) (cellsB cd)) := Lib.hid fun W v3 h => by
            rw [← cellsB_append, ← hcd] at h
            exact mine_slice (w := w) h hcdl
          have hbd := Lib.hid (show ch.length ≤ 384 ∧ d.length ≤ 60 by omega)
          have hi17 := info_hd hw17
          obtain ⟨N4, hN4⟩ : ∃ N4, N4 = ln + m := ⟨_, rfl⟩
          rw [← hN4] at hmk3
          have hN4l : N4 ≤ 444 := by omega
          have hcd4 : cd.length = N4 := by omega
          clear hA17 hD17 h17a hb17 hcd hwrs hw1lt
          by_cases hmay : h17.may6 = true
          · have hlen := sxBytes_length h17 hw17 hmay cd
            obtain ⟨NN, hNN⟩ : ∃ NN, NN = 40 + N4 := ⟨_, rfl⟩
            have hlenN : (sxBytes h17 cd).length = NN := by rw [hlen, hcd4, hNN]
            have hwr : Hid (∀ W A c, Rd W W.heap.size (.slice A N4 c) (cellsB cd) → Calls Try.prog 8 #[.agg (hdC h17).toArray, .slice A N4 c] W fun e w' => ∃ gb cb, e = .returned (.tuple #[.slice (some ⟨gb, 0, none⟩) NN cb, .int .i64 0]) ∧ Mine w' W.heap.size 5 (.slice (some ⟨gb, 0, none⟩) NN cb) (cellsB (sxBytes h17 cd)) ∧ Below W.heap.size W w') := Lib.hid fun W A c hr => by
              rw [← hcd4] at hr ⊢
              refine (sxWrite_ok h17 hw17 hmay A c cd (by omega) W W.heap.size (Nat.le_refl _) hr).mono ?_
              rintro e w' ⟨v, rfl, hv, hb⟩
              obtain ⟨gb, cb, rfl, _, _⟩ := hv.addr (by omega)
              rw [hlenN] at hv ⊢
              exact ⟨gb, cb, rfl, hv, hb⟩
            obtain ⟨hp8, hp9⟩ := sxPassed h17 hw17 hmay L p (by simpa using hs) d (by rw [← hch, ← hcd0.out]; omega)
            rw [← hch, ← hcd0.out, ← hn] at hp8 hp9
            have hparts := Hd.may6_parts hmay
            have hslot : Hid (∀ W base gb cb, Mine W base 5 (.slice (some ⟨gb, 0, none⟩) NN cb) (cellsB (sxBytes h17 cd)) → base ≤ gb ∧ (∃ u, W.cell? ⟨gb, 6, none⟩ = some (.int .u8 u)) ∧ W.frozen? ⟨gb, 6, none⟩ = false ∧ ∀ x : UInt8, Mine (W.setCell ⟨gb, 6, none⟩ (.int .u8 (x.toNat : Int))) base 5 (.slice (some ⟨gb, 0, none⟩) NN cb) (cellsB ((sxBytes h17 cd).set 6 x)) ∧ Mine ((W.setCell ⟨gb, 6, none⟩ (.int .u8 (x.toNat : Int))).setCell ⟨gb, 6, none⟩ (.int .u8 60)) base 5 (.slice (some ⟨gb, 0, none⟩) NN cb) (cellsB ((sxBytes h17 cd).set 6 60))) := Lib.hid fun W base gb cb hM => by
              obtain ⟨s1, s2⟩ := hM.slot 6 (by omega)
              refine ⟨hM.lt.1, s1, s2, fun x => ?_⟩
              have t1 := hM.stored 6 (.int .u8 (x.toNat : Int))
              have t2 := t1.stored 6 (.int .u8 ((60 : UInt8).toNat : Int))
              rw [cellsB_set] at t1 t2
              rw [cellsB_set, List.set_set] at t2
              exact ⟨t1, t2⟩
            have hrd : Hid (∀ bs, bs.length = NN → ∀ W A c, Rd W W.heap.size (.slice A NN c) (cellsB bs) → Calls Try.prog 9 #[.slice A NN c] W fun e w' => e = .returned (.tuple #[.agg (hdC (sxRead bs)).toArray, .int .i64 ((sxErr bs : Nat) : Int)]) ∧ Below W.heap.size W w') := Lib.hid fun bs hbs W A c hr => by
              rw [← hbs] at hr ⊢
              exact sxRead_any hr
            have hNN40 : (40 : Int) ≤ (NN : Int) := by omega
            have h6NN : (6 : Int) < (NN : Int) := by omega
            have hsetl : ∀ x, ((sxBytes h17 cd).set 6 x).length = NN := fun x => by rw [List.length_set]; exact hlenN
            have hzz : ∀ w, (zeroValue 26).run Try.prog w = .ok (.agg (hdC Hd.zero).toArray) w := zero_hd
            have hzs : Hid (∀ y : Hd, y.Wide → (hdC Hd.zero).toArray.size = (hdC y).toArray.size) := Lib.hid fun y hy => by rw [List.size_toArray, List.size_toArray, hdC_length Hd.zero_wide, hdC_length hy]
            by_cases hn8 : 8 < n
            · obtain ⟨e1, e2⟩ := hp9 hn8
              rw [if_neg (by rintro rfl; simp at hn; omega)] at e1 e2
              have hrd2 := hrd.out _ (hsetl 60)
              rw [e1, e2] at hrd2
              have HRD := Lib.hid hrd2
              have hxa := all_oneCell_toArray (hdC_one Hd.zero)
              have hxi := info_hd Hd.zero_wide
              have hxiA := info_hdA Hd.zero_wide
              have hzs2 := hzs.out Hd.zero Hd.zero_wide
              have hbu : ∀ W, (Instr.build 26 #[]).run Try.prog W = .ok (.agg (hdC Hd.zero).toArray) W := build_hd0
              have heq := eql_hd Hd.zero Hd.zero Hd.zero_wide Hd.zero_wide
              rw [decide_eq_true rfl, hdV] at heq
              have hC : Hid (∀ W : World, (W.alloc (.cells (hdC Hd.zero).toArray 26)).rangeAt W.heap.size 0 (hdC Hd.zero)) := Lib.hid fun W => (show HdAt _ _ _ from heap_alloc_last W _).whole
              have kn : (8 : Int) < (n : Int) := by omega
              have kn0 : (0 : Int) < (n : Int) := by omega
              have HS2 := Lib.hid (fun W base gb cb hM => hslot.out W base gb cb hM)
              clear hp8 hp9 e1 e2 hrd hrd2 hzs hparts hlen hNN hlenN hmay hsetl hn8 hs hch hln hm hn hdl hn12 hw hN4 hN4l hcd4 hcdl hlch hXs hw17
              generalize sxBytes h17 cd = bs0 at *
              generalize hdC h17 = C17 at *
              generalize hdC Hd.zero = Z at *
              refine wp_region_held_drew (S := fun w' => w'.rangeAt w.heap.size 0 C17) (by kernel_rfl) k17 (fun hHeld => ?_)
              refine th 0 (v := .agg C17.toArray) ?_ (hy := fun wy hSw => by exact exec_load (t := 26) (x := .tmp 3) rfl (pv := .pointer (some ⟨w.heap.size, 0, none⟩)) rfl (run_loadAt_mid wy w.heap.size 0 26 C17 _ hSw Try.underlying26 rfl hi17))
              go_frame
              refine th 2 ?_
              go_frame
              refine th 4 ?_
              go_frame
              refine wpAnyH_ready (rs := [1]) (by kernel_rfl) (by simp) (AllReadyH.cons (o := ⟨some 66, .buildSlice 27 0 #[], _, _, _, none⟩) rfl (fun K hK => ?_) AllReadyH.nil)
              rw [if_pos (by kernel_rfl)]
              go_simp
              refine hK.out _ _ ((hkeep.out _ (up_alloc (drew_self _) _)).2) (fun _ => ?_)
              clear hK K
              try go_frame
              refine wpAnyH_ready (rs := [3]) (by kernel_rfl) (by simp) (AllReadyH.cons (o := ⟨some 68, .call { callee := .builtin .append, args := #[.tmp 66, .tmp 67], argTypes := #[27, 27] }, _, _, _, none⟩) rfl (fun K hK => ?_) AllReadyH.nil)
              rw [if_pos (by kernel_rfl)]
              refine op_append_rd rfl (.tmp 66) (.tmp 67) 27 (by rfl) X.heap.size 5 i _ 1 Try.underlying27 hi8 hz0 hz1 hz2 rfl _ [] (by rfl) (Mine.empty X.drew _ 5 (Nat.le_refl _)) _ _ (cellsB ch) (by rfl) (hRA.out _ (up_alloc (drew_self _) _)) (cellsB_one _) (by have := hbd.out.1; rw [cellsB_length]; simp; omega) (by have := hbd.out.1; rw [cellsB_length]; unfold maxLen; simp; omega) (by simp) ?_
              intro v3 w3 hown3 hbel3 _ _
              have HB3 := Lib.hid ((up_alloc (drew_self X) (.cells #[] 5)).trans hbel3)
              have HO3 := Lib.hid (hmk2.out _ _ hown3)
              clear hown3 hbel3
              refine hK.out _ _ ((hkeep.out _ HB3.out).2) (fun _ => ?_)
              clear hK K
              try go_frame
              refine wpAnyH_ready (rs := [5]) (by kernel_rfl) (by simp) (AllReadyH.cons (o := ⟨some 70, .call { callee := .builtin .append, args := #[.tmp 68, .tmp 69], argTypes := #[27, 27] }, _, _, _, none⟩) rfl (fun K hK => ?_) AllReadyH.nil)
              rw [if_pos (by kernel_rfl)]
              refine op_append_rd rfl (.tmp 68) (.tmp 69) 27 (by rfl) X.heap.size 5 i _ 1 Try.underlying27 hi8 hz0 hz1 hz2 rfl _ (cellsB ch) (by rfl) HO3.out _ _ (cellsB d) (by rfl) (hRD.out _ HB3.out) (cellsB_one _) (by have := hbd.out; rw [cellsB_length, cellsB_length]; omega) (by have := hbd.out; rw [cellsB_length, cellsB_length]; unfold maxLen; omega) HB3.out.size ?_
              intro v4 w4 hown4 hbel4 _ _
              have HB4 := Lib.hid (HB3.out.trans hbel4)
              obtain ⟨A4, c4, rfl, hr4⟩ := hmk3.out _ _ hown4
              have HR4 := Lib.hid hr4
              clear hown4 hbel4 hr4
              refine hK.out _ _ ((hkeep.out _ HB4.out).2) (fun _ => ?_)
              clear hK K
              try go_frame
              refine wpAnyH_ready (rs := [6]) (by kernel_rfl) (by simp) (AllReadyH.cons (o := ⟨some 71, .call { callee := .value (.func 8), args := #[.tmp 65, .tmp 70], argTypes := #[26, 27] }, _, _, _, none⟩) rfl (fun K hK => ?_) AllReadyH.nil)
              rw [if_pos (by kernel_rfl)]
              go_simp
              refine (hwr.out _ _ _ HR4.out).mono ?_
              rintro _ w5 ⟨gb, cb, rfl, hm5, hb5⟩
              have HB5 := Lib.hid (up HB4.out hb5)
              have HM5 := Lib.hid hm5
              have hge := HB4.out.size
              obtain ⟨hgb, ⟨u6, k6⟩, f6, hst6⟩ := hslot.out _ _ _ _ hm5
              have HGB := Lib.hid (show X.heap.size ≤ gb by omega)
              have HST := Lib.hid hst6
              clear hm5 hb5 hst6 hge hgb
              dsimp only
              refine hK.out _ _ ((hkeep.out _ HB5.out).2) (fun _ => ?_)
              clear hK K
              try go_frame
              refine th 7 ?_
              go_frame
              refine th 8 ?_
              go_frame
              refine th 9 ?_
              go_frame
              refine th 10 ?_
              go_frame
              refine th 11 ?_
              go_frame
              refine wpAnyH_done (by kernel_rfl) ?_ _
              clear k17
              have hb6 := Lib.hid ((HB5.out.setCell (p := ⟨gb, 6, none⟩) HGB.out (.int .u8 (p.toNat : Int))).setCell (p := ⟨gb, 6, none⟩) HGB.out (.int .u8 60))
              have HR6 := Lib.hid (HST.out p).2.rd
              go_wp2_with (first
                | (go_at_call 9; refine (HRD.out _ _ _ HR6.out).mono ?_; rintro _ w9 ⟨rfl, hb9⟩; have HB9 := Lib.hid (up_alloc (up hb6.out hb9) (.cells Z.toArray 26)); have k0 := hC.out w9; clear hb9)
                | (with_reducible refine wpList_alloc_zero (o := ⟨some 13, .alloc 26, _, _, _, _⟩) rfl 26 rfl Z.toArray hzz ?_)
                | ((with_reducible refine wpList_store_new (o := ⟨none, .store 26 (.tmp 13) (.tmp 91), _, _, _, _⟩) rfl 26 (.tmp 13) (.tmp 91) rfl Z.toArray Z.toArray ?_ ?_ hxiA rfl hxa ?_); exact rfl; exact rfl)
                | ((with_reducible refine wpList_load_mid_g (op := ⟨some 99, .load 26 (.tmp 13), _, _, _, _⟩) ?_ 26 (.tmp 13) rfl w9.heap.size 0 ?_ Z _ k0 Try.underlying26 rfl hxi ?_); rfl; exact rfl)
                | (go_at_call 7; refine (hlv.out _).mono ?_; rintro _ w10 ⟨rfl, hb10⟩))
              go_ret
              exact ⟨rfl, up (up HB17.out HB9.out) hb10⟩
            · obtain ⟨e1, e2⟩ := hp8 (by omega)
              obtain ⟨y, hy⟩ : ∃ y : Hd, y = ⟨h17.six, p, 40 + (ch.length : Nat), h17.src, h17.dst, h17.part, h17.hops⟩ := ⟨_, rfl⟩
              rw [← hy] at e2
              have hyw : y.Wide := by rw [hy]; exact hw17
              have hxa := all_oneCell_toArray (hdC_one y)
              have hxiA := info_hdA hyw
              have hzs2 := hzs.out y hyw
              have i3 := info_ad hw.1
              have heqa := eql_ad h.src h.src hw.1 hw.1
              rw [decide_eq_true rfl, adV] at heqa
              obtain ⟨P, hP⟩ : ∃ P, P = 40 + ln := ⟨_, rfl⟩
              have kwP : IntKind.i64.wrap (40 + (ln : Int)) = (P : Int) := by rw [IntWalk.i64_in _ (by omega)]; omega
              have hyp1 : y.proto = p := by rw [hy]
              have hyp2 : y.pos = (P : Int) := by rw [hy, hP, ← hln]; show (40 : Int) + _ = _; omega
              have hyp3 : y.src = h.src := by rw [hy]; exact hsrc17.out
              have hyp5 : y.part = false := by rw [hy]; exact hparts.2.2.2.2.1
              have hC : Hid (∀ W : World, Below X.heap.size X W → (W.alloc (.cells (hdC y).toArray 26)).cell? ⟨W.heap.size, 1, none⟩ = some (.int .u8 (p.toNat : Int)) ∧ (W.alloc (.cells (hdC y).toArray 26)).cell? ⟨W.heap.size, 2, none⟩ = some (.int .i64 (P : Int)) ∧ (W.alloc (.cells (hdC y).toArray 26)).rangeAt W.heap.size 3 (adC h.src) ∧ (W.alloc (.cells (hdC y).toArray 26)).rangeAt w.heap.size 3 (adC h.src) ∧ (W.alloc (.cells (hdC y).toArray 26)).cell? ⟨W.heap.size, 37, none⟩ = some (.bool false)) := Lib.hid fun W hW => by
                have a1 : HdAt (W.alloc (.cells (hdC y).toArray 26)) W.heap.size y := heap_alloc_last W _
                have a2 := (hkeep.out _ (up_alloc hW (.cells (hdC y).toArray 26))).1
                have s1 := hdC_proto a1
                have s2 : (W.alloc (.cells (hdC y).toArray 26)).cell? ⟨W.heap.size, 2, none⟩ = some (.int .i64 y.pos) := by rw [cell_of_row _ _ 2 _ _ _ a1]; rfl
                have s3 := hdC_src a1
                have s4 := hdC_src a2
                have s5 := hdC_part hyw a1
                rw [hsrc17.out] at s4
                rw [hyp1] at s1
                rw [hyp2] at s2
                rw [hyp3] at s3
                rw [hyp5] at s5
                exact ⟨s1, s2, s3, s4, s5⟩
              have hw8 : ¬ (8 : Int) < (n : Int) := by omega
              by_cases hn0 : n = 0
              · rw [if_pos (List.length_eq_zero_iff.1 (by omega))] at e1 e2
                have hrd2 := hrd.out _ (hsetl p)
                rw [e1, e2] at hrd2
                have HRD := Lib.hid hrd2
                have kn0 : ¬ (0 : Int) < (n : Int) := by omega
                clear hp8 hp9 e1 e2 hrd hrd2 hzs hparts hlen hNN hlenN hmay hsetl hn8 hs hch hln hm hn hdl hn12 hw hN4 hN4l hcd4 hcdl hlch hXs hw17 hn0 hyp1 hyp2 hyp3 hyp5 hy hyw hP
                generalize sxBytes h17 cd = bs0 at *
                generalize hdC h17 = C17 at *
                generalize hdC y = Y at *
                generalize hdC Hd.zero = Z at *
                generalize adC h.src = CS at *
                refine wp_region_held_drew (S := fun w' => w'.rangeAt w.heap.size 0 C17) (by kernel_rfl) k17 (fun hHeld => ?_)
                refine th 0 (v := .agg C17.toArray) ?_ (hy := fun wy hSw => by exact exec_load (t := 26) (x := .tmp 3) rfl (pv := .pointer (some ⟨w.heap.size, 0, none⟩)) rfl (run_loadAt_mid wy w.heap.size 0 26 C17 _ hSw Try.underlying26 rfl hi17))
                go_frame
                refine th 2 ?_
                go_frame
                refine th 4 ?_
                go_frame
                refine wpAnyH_ready (rs := [1]) (by kernel_rfl) (by simp) (AllReadyH.cons (o := ⟨some 66, .buildSlice 27 0 #[], _, _, _, none⟩) rfl (fun K hK => ?_) AllReadyH.nil)
                rw [if_pos (by kernel_rfl)]
                go_simp
                refine hK.out _ _ ((hkeep.out _ (up_alloc (drew_self _) _)).2) (fun _ => ?_)
                clear hK K
                try go_frame
                refine wpAnyH_ready (rs := [3]) (by kernel_rfl) (by simp) (AllReadyH.cons (o := ⟨some 68, .call { callee := .builtin .append, args := #[.tmp 66, .tmp 67], argTypes := #[27, 27] }, _, _, _, none⟩) rfl (fun K hK => ?_) AllReadyH.nil)
                rw [if_pos (by kernel_rfl)]
                refine op_append_rd rfl (.tmp 66) (.tmp 67) 27 (by rfl) X.heap.size 5 i _ 1 Try.underlying27 hi8 hz0 hz1 hz2 rfl _ [] (by rfl) (Mine.empty X.drew _ 5 (Nat.le_refl _)) _ _ (cellsB ch) (by rfl) (hRA.out _ (up_alloc (drew_self _) _)) (cellsB_one _) (by have := hbd.out.1; rw [cellsB_length]; simp; omega) (by have := hbd.out.1; rw [cellsB_length]; unfold maxLen; simp; omega) (by simp) ?_
                intro v3 w3 hown3 hbel3 _ _
                have HB3 := Lib.hid ((up_alloc (drew_self X) (.cells #[] 5)).trans hbel3)
                have HO3 := Lib.hid (hmk2.out _ _ hown3)
                clear hown3 hbel3
                refine hK.out _ _ ((hkeep.out _ HB3.out).2) (fun _ => ?_)
                clear hK K
                try go_frame
                refine wpAnyH_ready (rs := [5]) (by kernel_rfl) (by simp) (AllReadyH.cons (o := ⟨some 70, .call { callee := .builtin .append, args := #[.tmp 68, .tmp 69], argTypes := #[27, 27] }, _, _, _, none⟩) rfl (fun K hK => ?_) AllReadyH.nil)
                rw [if_pos (by kernel_rfl)]
                refine op_append_rd rfl (.tmp 68) (.tmp 69) 27 (by rfl) X.heap.size 5 i _ 1 Try.underlying27 hi8 hz0 hz1 hz2 rfl _ (cellsB ch) (by rfl) HO3.out _ _ (cellsB d) (by rfl) (hRD.out _ HB3.out) (cellsB_one _) (by have := hbd.out; rw [cellsB_length, cellsB_length]; omega) (by have := hbd.out; rw [cellsB_length, cellsB_length]; unfold maxLen; omega) HB3.out.size ?_
                intro v4 w4 hown4 hbel4 _ _
                have HB4 := Lib.hid (HB3.out.trans hbel4)
                obtain ⟨A4, c4, rfl, hr4⟩ := hmk3.out _ _ hown4
                have HR4 := Lib.hid hr4
                clear hown4 hbel4 hr4
                refine hK.out _ _ ((hkeep.out _ HB4.out).2) (fun _ => ?_)
                clear hK K
                try go_frame
                refine wpAnyH_ready (rs := [6]) (by kernel_rfl) (by simp) (AllReadyH.cons (o := ⟨some 71, .call { callee := .value (.func 8), args := #[.tmp 65, .tmp 70], argTypes := #[26, 27] }, _, _, _, none⟩) rfl (fun K hK => ?_) AllReadyH.nil)
                rw [if_pos (by kernel_rfl)]
                go_simp
                refine (hwr.out _ _ _ HR4.out).mono ?_
                rintro _ w5 ⟨gb, cb, rfl, hm5, hb5⟩
                have HB5 := Lib.hid (up HB4.out hb5)
                have HM5 := Lib.hid hm5
                have hge := HB4.out.size
                obtain ⟨hgb, ⟨u6, k6⟩, f6, hst6⟩ := hslot.out _ _ _ _ hm5
                have HGB := Lib.hid (show X.heap.size ≤ gb by omega)
                have HST := Lib.hid hst6
                clear hm5 hb5 hst6 hge hgb
                dsimp only
                refine hK.out _ _ ((hkeep.out _ HB5.out).2) (fun _ => ?_)
                clear hK K
                try go_frame
                refine th 7 ?_
                go_frame
                refine th 8 ?_
                go_frame
                refine th 9 ?_
                go_frame
                refine th 10 ?_
                go_frame
                refine th 11 ?_
                go_frame
                refine wpAnyH_done (by kernel_rfl) ?_ _
                clear k17
                have hb6 := Lib.hid (HB5.out.setCell (p := ⟨gb, 6, none⟩) HGB.out (.int .u8 (p.toNat : Int)))
                have HR6 := Lib.hid (HST.out p).1.rd
                go_wp2_with (first
                  | (go_at_call 9; refine (HRD.out _ _ _ HR6.out).mono ?_; rintro _ w9 ⟨rfl, hb9⟩; have HB9 := Lib.hid (up_alloc (up hb6.out hb9) (.cells Y.toArray 26)); obtain ⟨y1, y2, y3, y4, y5⟩ := hC.out w9 (up hb6.out hb9); clear hb9)
                  | (with_reducible refine wpList_alloc_zero (o := ⟨some 13, .alloc 26, _, _, _, _⟩) rfl 26 rfl Z.toArray hzz ?_)
                  | ((with_reducible refine wpList_store_new (o := ⟨none, .store 26 (.tmp 13) (.tmp 91), _, _, _, _⟩) rfl 26 (.tmp 13) (.tmp 91) rfl Z.toArray Y.toArray ?_ ?_ hxiA hzs2 hxa ?_); exact rfl; exact rfl)
                  | ((with_reducible refine wpList_load_mid_g (op := ⟨some 124, .load 24 (.tmp 123), _, _, _, _⟩) ?_ 24 (.tmp 123) rfl w9.heap.size 3 ?_ CS _ y3 Try.underlying24 rfl i3 ?_); rfl; exact rfl)
                  | ((with_reducible refine wpList_load_mid_g (op := ⟨some 126, .load 24 (.tmp 125), _, _, _, _⟩) ?_ 24 (.tmp 125) rfl w.heap.size 3 ?_ CS _ y4 Try.underlying24 rfl i3 ?_); rfl; exact rfl)
                  | (go_at_call 7; refine (hlv.out _).mono ?_; rintro _ w10 ⟨rfl, hb10⟩))
                go_ret
                exact ⟨rfl, up (up HB17.out HB9.out) hb10⟩
              · rw [if_neg (by rintro rfl; simp at hn; omega)] at e1 e2
                have hrd2 := hrd.out _ (hsetl 60)
                rw [e1, e2] at hrd2
                have HRD := Lib.hid hrd2
                have kn0 : (0 : Int) < (n : Int) := by omega
                clear hp8 hp9 e1 e2 hrd hrd2 hzs hparts hlen hNN hlenN hmay hsetl hn8 hs hch hln hm hn hdl hn12 hw hN4 hN4l hcd4 hcdl hlch hXs hw17 hn0 hyp1 hyp2 hyp3 hyp5 hy hyw hP
                generalize sxBytes h17 cd = bs0 at *
                generalize hdC h17 = C17 at *
                generalize hdC y = Y at *
                generalize hdC Hd.zero = Z at *
                generalize adC h.src = CS at *
                refine wp_region_held_drew (S := fun w' => w'.rangeAt w.heap.size 0 C17) (by kernel_rfl) k17 (fun hHeld => ?_)
                refine th 0 (v := .agg C17.toArray) ?_ (hy := fun wy hSw => by exact exec_load (t := 26) (x := .tmp 3) rfl (pv := .pointer (some ⟨w.heap.size, 0, none⟩)) rfl (run_loadAt_mid wy w.heap.size 0 26 C17 _ hSw Try.underlying26 rfl hi17))
                go_frame
                refine th 2 ?_
                go_frame
                refine th 4 ?_
                go_frame
                refine wpAnyH_ready (rs := [1]) (by kernel_rfl) (by simp) (AllReadyH.cons (o := ⟨some 66, .buildSlice 27 0 #[], _, _, _, none⟩) rfl (fun K hK => ?_) AllReadyH.nil)
                rw [if_pos (by kernel_rfl)]
                go_simp
                refine hK.out _ _ ((hkeep.out _ (up_alloc (drew_self _) _)).2) (fun _ => ?_)
                clear hK K
                try go_frame
                refine wpAnyH_ready (rs := [3]) (by kernel_rfl) (by simp) (AllReadyH.cons (o := ⟨some 68, .call { callee := .builtin .append, args := #[.tmp 66, .tmp 67], argTypes := #[27, 27] }, _, _, _, none⟩) rfl (fun K hK => ?_) AllReadyH.nil)
                rw [if_pos (by kernel_rfl)]
                refine op_append_rd rfl (.tmp 66) (.tmp 67) 27 (by rfl) X.heap.size 5 i _ 1 Try.underlying27 hi8 hz0 hz1 hz2 rfl _ [] (by rfl) (Mine.empty X.drew _ 5 (Nat.le_refl _)) _ _ (cellsB ch) (by rfl) (hRA.out _ (up_alloc (drew_self _) _)) (cellsB_one _) (by have := hbd.out.1; rw [cellsB_length]; simp; omega) (by have := hbd.out.1; rw [cellsB_length]; unfold maxLen; simp; omega) (by simp) ?_
                intro v3 w3 hown3 hbel3 _ _
                have HB3 := Lib.hid ((up_alloc (drew_self X) (.cells #[] 5)).trans hbel3)
                have HO3 := Lib.hid (hmk2.out _ _ hown3)
                clear hown3 hbel3
                refine hK.out _ _ ((hkeep.out _ HB3.out).2) (fun _ => ?_)
                clear hK K
                try go_frame
                refine wpAnyH_ready (rs := [5]) (by kernel_rfl) (by simp) (AllReadyH.cons (o := ⟨some 70, .call { callee := .builtin .append, args := #[.tmp 68, .tmp 69], argTypes := #[27, 27] }, _, _, _, none⟩) rfl (fun K hK => ?_) AllReadyH.nil)
                rw [if_pos (by kernel_rfl)]
                refine op_append_rd rfl (.tmp 68) (.tmp 69) 27 (by rfl) X.heap.size 5 i _ 1 Try.underlying27 hi8 hz0 hz1 hz2 rfl _ (cellsB ch) (by rfl) HO3.out _ _ (cellsB d) (by rfl) (hRD.out _ HB3.out) (cellsB_one _) (by have := hbd.out; rw [cellsB_length, cellsB_length]; omega) (by have := hbd.out; rw [cellsB_length, cellsB_length]; unfold maxLen; omega) HB3.out.size ?_
                intro v4 w4 hown4 hbel4 _ _
                have HB4 := Lib.hid (HB3.out.trans hbel4)
                obtain ⟨A4, c4, rfl, hr4⟩ := hmk3.out _ _ hown4
                have HR4 := Lib.hid hr4
                clear hown4 hbel4 hr4
                refine hK.out _ _ ((hkeep.out _ HB4.out).2) (fun _ => ?_)
                clear hK K
                try go_frame
                refine wpAnyH_ready (rs := [6]) (by kernel_rfl) (by simp) (AllReadyH.cons (o := ⟨some 71, .call { callee := .value (.func 8), args := #[.tmp 65, .tmp 70], argTypes := #[26, 27] }, _, _, _, none⟩) rfl (fun K hK => ?_) AllReadyH.nil)
                rw [if_pos (by kernel_rfl)]
                go_simp
                refine (hwr.out _ _ _ HR4.out).mono ?_
                rintro _ w5 ⟨gb, cb, rfl, hm5, hb5⟩
                have HB5 := Lib.hid (up HB4.out hb5)
                have HM5 := Lib.hid hm5
                have hge := HB4.out.size
                obtain ⟨hgb, ⟨u6, k6⟩, f6, hst6⟩ := hslot.out _ _ _ _ hm5
                have HGB := Lib.hid (show X.heap.size ≤ gb by omega)
                have HST := Lib.hid hst6
                clear hm5 hb5 hst6 hge hgb
                dsimp only
                refine hK.out _ _ ((hkeep.out _ HB5.out).2) (fun _ => ?_)
                clear hK K
                try go_frame
                refine th 7 ?_
                go_frame
                refine th 8 ?_
                go_frame
                refine th 9 ?_
                go_frame
                refine th 10 ?_
                go_frame
                refine th 11 ?_
                go_frame
                refine wpAnyH_done (by kernel_rfl) ?_ _
                clear k17
                have hb6 := Lib.hid ((HB5.out.setCell (p := ⟨gb, 6, none⟩) HGB.out (.int .u8 (p.toNat : Int))).setCell (p := ⟨gb, 6, none⟩) HGB.out (.int .u8 60))
                have HR6 := Lib.hid (HST.out p).2.rd
                go_wp2_with (first
                  | (go_at_call 9; refine (HRD.out _ _ _ HR6.out).mono ?_; rintro _ w9 ⟨rfl, hb9⟩; have HB9 := Lib.hid (up_alloc (up hb6.out hb9) (.cells Y.toArray 26)); obtain ⟨y1, y2, y3, y4, y5⟩ := hC.out w9 (up hb6.out hb9); clear hb9)
                  | (with_reducible refine wpList_alloc_zero (o := ⟨some 13, .alloc 26, _, _, _, _⟩) rfl 26 rfl Z.toArray hzz ?_)
                  | ((with_reducible refine wpList_store_new (o := ⟨none, .store 26 (.tmp 13) (.tmp 91), _, _, _, _⟩) rfl 26 (.tmp 13) (.tmp 91) rfl Z.toArray Y.toArray ?_ ?_ hxiA hzs2 hxa ?_); exact rfl; exact rfl)
                  | ((with_reducible refine wpList_load_mid_g (op := ⟨some 124, .load 24 (.tmp 123), _, _, _, _⟩) ?_ 24 (.tmp 123) rfl w9.heap.size 3 ?_ CS _ y3 Try.underlying24 rfl i3 ?_); rfl; exact rfl)
                  | ((with_reducible refine wpList_load_mid_g (op := ⟨some 126, .load 24 (.tmp 125), _, _, _, _⟩) ?_ 24 (.tmp 125) rfl w.heap.size 3 ?_ CS _ y4 Try.underlying24 rfl i3 ?_); rfl; exact rfl)
                  | (go_at_call 7; refine (hlv.out _).mono ?_; rintro _ w10 ⟨rfl, hb10⟩))
                go_ret
                exact ⟨rfl, up (up HB17.out HB9.out) hb10⟩
          · have hmf : h17.may6 = false := by simpa using hmay
            have hwr := Lib.hid (fun v W => sxWrite_arg h17 hw17 hmf v W)
            rw [hdV] at hwr
            clear hmay hmf hs hch hln hm hn hdl hn12 hw hN4 hN4l hcd4 hcdl hlch hXs hw17
            generalize hdC h17 = C17 at *
            refine wp_region_held_drew (S := fun w' => w'.rangeAt w.heap.size 0 C17) (by kernel_rfl) k17 (fun hHeld => ?_)
            refine th 0 (v := .agg C17.toArray) ?_ (hy := fun wy hSw => by exact exec_load (t := 26) (x := .tmp 3) rfl (pv := .pointer (some ⟨w.heap.size, 0, none⟩)) rfl (run_loadAt_mid wy w.heap.size 0 26 C17 _ hSw Try.underlying26 rfl hi17))
            go_frame
            refine th 2 ?_
            go_frame
            refine th 4 ?_
            go_frame
            refine wpAnyH_ready (rs := [1]) (by kernel_rfl) (by simp) (AllReadyH.cons (o := ⟨some 66, .buildSlice 27 0 #[], _, _, _, none⟩) rfl (fun K hK => ?_) AllReadyH.nil)
            rw [if_pos (by kernel_rfl)]
            go_simp
            refine hK.out _ _ ((hkeep.out _ (up_alloc (drew_self _) _)).2) (fun _ => ?_)
            clear hK K
            try go_frame
            refine wpAnyH_ready (rs := [3]) (by kernel_rfl) (by simp) (AllReadyH.cons (o := ⟨some 68, .call { callee := .builtin .append, args := #[.tmp 66, .tmp 67], argTypes := #[27, 27] }, _, _, _, none⟩) rfl (fun K hK => ?_) AllReadyH.nil)
            rw [if_pos (by kernel_rfl)]
            refine op_append_rd rfl (.tmp 66) (.tmp 67) 27 (by rfl) X.heap.size 5 i _ 1 Try.underlying27 hi8 hz0 hz1 hz2 rfl _ [] (by rfl) (Mine.empty X.drew _ 5 (Nat.le_refl _)) _ _ (cellsB ch) (by rfl) (hRA.out _ (up_alloc (drew_self _) _)) (cellsB_one _) (by have := hbd.out.1; rw [cellsB_length]; simp; omega) (by have := hbd.out.1; rw [cellsB_length]; unfold maxLen; simp; omega) (by simp) ?_
            intro v3 w3 hown3 hbel3 _ _
            have HB3 := Lib.hid ((up_alloc (drew_self X) (.cells #[] 5)).trans hbel3)
            have HO3 := Lib.hid (hmk2.out _ _ hown3)
            clear hown3 hbel3
            refine hK.out _ _ ((hkeep.out _ HB3.out).2) (fun _ => ?_)
            clear hK K
            try go_frame
            refine wpAnyH_ready (rs := [5]) (by kernel_rfl) (by simp) (AllReadyH.cons (o := ⟨some 70, .call { callee := .builtin .append, args := #[.tmp 68, .tmp 69], argTypes := #[27, 27] }, _, _, _, none⟩) rfl (fun K hK => ?_) AllReadyH.nil)
            rw [if_pos (by kernel_rfl)]
            refine op_append_rd rfl (.tmp 68) (.tmp 69) 27 (by rfl) X.heap.size 5 i _ 1 Try.underlying27 hi8 hz0 hz1 hz2 rfl _ (cellsB ch) (by rfl) HO3.out _ _ (cellsB d) (by rfl) (hRD.out _ HB3.out) (cellsB_one _) (by have := hbd.out; rw [cellsB_length, cellsB_length]; omega) (by have := hbd.out; rw [cellsB_length, cellsB_length]; unfold maxLen; omega) HB3.out.size ?_
            intro v4 w4 hown4 hbel4 _ _
            have HB4 := Lib.hid (HB3.out.trans hbel4)
            obtain ⟨A4, c4, rfl, hr4⟩ := hmk3.out _ _ hown4
            have HR4 := Lib.hid hr4
            clear hown4 hbel4 hr4
            refine hK.out _ _ ((hkeep.out _ HB4.out).2) (fun _ => ?_)
            clear hK K
            try go_frame
            refine wpAnyH_ready (rs := [6]) (by kernel_rfl) (by simp) (AllReadyH.cons (o := ⟨some 71, .call { callee := .value (.func 8), args := #[.tmp 65, .tmp 70], argTypes := #[26, 27] }, _, _, _, none⟩) rfl (fun K hK => ?_) AllReadyH.nil)
            rw [if_pos (by kernel_rfl)]
            go_simp
            refine (hwr.out _ _).mono ?_
            rintro _ w5 ⟨rfl, hb5⟩
            have HB5 := Lib.hid (up HB4.out hb5)
            clear hb5
            dsimp only
            refine hK.out _ _ ((hkeep.out _ HB5.out).2) (fun _ => ?_)
            clear hK K
            try go_frame
            refine th 7 ?_
            go_frame
            refine th 8 ?_
            go_frame
            refine th 9 ?_
            go_frame
            refine th 10 ?_
            go_frame
            refine th 11 ?_
            go_frame
            refine wpAnyH_done (by kernel_rfl) ?_ _
            clear k17
            go_wp2_with (go_at_call 7; refine (hlv.out _).mono ?_; rintro _ w7 ⟨rfl, hb7⟩)
            go_ret
            exact ⟨rfl, up (up HB17.out HB5.out) hb7⟩
  · subst hn2
    clear hkc
    clear htake hcutL hL hq hrs hrL hr hd hb0 hat hcs
    clear hq0
    have Hn := Lib.hid hn
    have Hm := Lib.hid hm
    have Hh17 := Lib.hid hh17
    have Hw := Lib.hid hw
    have Hw17 := Lib.hid hw17
    have Hch := Lib.hid hchl
    have Hdl := Lib.hid hdl
    clear hn hm hh17 hw hw17 hp hchl hdl hLl
    by_cases hs : stands p = true
    · rw [hs] at hbtw
      clear hs
      go_enter Try.func3, Try.ntmps3
      go_wp2_with (first
        | (go_at_call 5; refine hfew.out.mono ?_; rintro _ w1 ⟨A1, c1, rfl, hd1, hat1, hb1⟩; have HD1 := Lib.hid hd1; have HAT1 := Lib.hid hat1; have HB1 := Lib.hid hb1; obtain ⟨kp, kf⟩ := hproto.out w1 hat1; clear hd1 hat1 hb1)
        | (go_at_call 6; refine (hbtw.out _).mono ?_; rintro _ w1x ⟨rfl, rfl⟩)
        | (go_at_call 7; refine (hlv.out _).mono ?_; rintro _ w7 ⟨rfl, hb7⟩))
      go_ret
      exact ⟨rfl, up HB1.out hb7⟩
    · have hsf : stands p = false := by simpa using hs
      rw [hsf] at hbtw
      go_enter Try.func3, Try.ntmps3
      go_wp2_with (first
        | (go_at_call 5; refine hfew.out.mono ?_; rintro _ w1 ⟨A1, c1, rfl, hd1, hat1, hb1⟩; have HD1 := Lib.hid hd1; have HAT1 := Lib.hid hat1; have HB1 := Lib.hid hb1; obtain ⟨kp, kf⟩ := hproto.out w1 hat1; clear hd1 hat1 hb1)
        | (go_at_call 6; refine (hbtw.out _).mono ?_; rintro _ w1x ⟨rfl, rfl⟩))
      go_loopw [8, 9] (fun av iv wr => ∃ k : Nat, k ≤ n ∧ iv = .int .i64 (k : Int) ∧ Hid (Mine wr w1.heap.size 5 av (cellsB (sxUpto p L k)) ∧ Below w1.heap.size w1 wr)) (fun _ iv _ => n - (intOf iv).toNat)
      case atStart => exact ⟨0, Nat.zero_le _, rfl, Lib.hid ⟨by rw [sxUpto_zero]; exact Mine.empty w1 _ 5 (Nat.le_refl _), up_alloc (Below.refl _ _) _⟩⟩
      case round =>
        obtain ⟨k, hk, rfl, HI⟩ := hrel
        by_cases hlt : k < n
        · have hn := Hn.out
          obtain ⟨bs, os, hAs, hbs, hcell⟩ := hsz.out wr (up HB1.out HI.out.2) k hlt
          subst hAs
          obtain ⟨s, hsd⟩ : ∃ s, s = L.getD k 0 := ⟨_, rfl⟩
          rw [← hsd] at hcell
          have hs4 := mod4_lt s
          have hsn : (s % 4).toNat = s.toNat % 4 := by rw [UInt8.toNat_mod]; rfl
          obtain ⟨q4, hq4⟩ : ∃ q, q = (s % 4).toNat := ⟨_, rfl⟩
          have hrem : (s.toNat : Int).tmod 4 = (q4 : Int) := by rw [Int.tmod_eq_emod_of_nonneg (by omega)]; omega
          rw [← hq4] at hs4
          obtain ⟨y8, hy8⟩ : ∃ y, y = 8 * q4 := ⟨_, rfl⟩
          have kw1 : IntKind.i64.wrap (8 * (q4 : Int)) = (y8 : Int) := by rw [IntWalk.i64_in _ (by omega)]; omega
          obtain ⟨N, hN⟩ : ∃ N, N = 8 + y8 := ⟨_, rfl⟩
          have kw2 : IntKind.i64.wrap (8 + (y8 : Int)) = (N : Int) := by rw [IntWalk.i64_in _ (by omega)]; omega
          have hNl : N ≤ 32 := by omega
          obtain ⟨nm, hnm⟩ : ∃ nm, n = nm + 1 := ⟨n - 1, by omega⟩
          have kw3 : IntKind.i64.wrap ((n : Int) - 1) = (nm : Int) := by rw [IntWalk.i64_in _ (by omega)]; omega
          have hq4i : (q4 : Int) < 256 := by omega
          have hN0 : 0 < N := by omega
          have hN1 : (1 : Int) < (N : Int) := by omega
          have HN := Lib.hid (show N = 8 + 8 * (s % 4).toNat by rw [← hq4]; omega)
          have HQ4 := Lib.hid hq4
          have hnext := Lib.hid (sxUpto_next p L k (by omega))
          rw [show L[k]'(by omega) = s by rw [hsd, getD_get (show k < L.length by omega)]] at hnext
          have hupl := sxUpto_length_le p L k
          have hextl := fun x => sxExt_length x s
          have hmk : Hid (∀ w2, w2.ownsRow wr.heap.size 5 1 (.slice (some ⟨wr.heap.size, 0, none⟩) N N) N (madeCells (Value.int IntKind.u8 0).cells (N * 1)).toList → wr.grownBy w2 none → w2.cell? ⟨bs, os + k, none⟩ = some (.int .u8 (s.toNat : Int))) := Lib.hid fun w2 _ hgr => (World.cell?_of_block (hgr.block bs (by have := HB1.out.size; have := HI.out.2.size; omega) (by simp))).trans hcell
          have hbd : Hid ((sxUpto p L k).length ≤ 384 ∧ ∀ x, (sxExt x s).length ≤ 32) := Lib.hid ⟨by omega, fun x => by rw [hextl x, ← HQ4.out]; omega⟩
          have hbase : Hid (∀ w3, Below wr.heap.size wr w3 → w1.heap.size ≤ w3.heap.size) := Lib.hid fun w3 hb3 => Nat.le_trans HI.out.2.size hb3.size
          have hiff : (if k + 1 = L.length then p else (60 : UInt8)) = if k = nm then p else 60 := by by_cases e : k = nm; rw [if_pos e, if_pos (by omega)]; rw [if_neg e, if_neg (by omega)]
          rw [hiff] at hnext
          clear hiff hy8 hN hsn hupl hextl hsd hq4 hs4 hn
          have hkl : (k : Int) < (n : Int) := by omega
          by_cases hend : k = nm
          · have ke : ((k : Int) == (nm : Int)) = true := by simp; omega
            rw [if_pos hend] at hnext
            clear hend hnm
            go_wp2_with (first
              | (at_make; refine wpList_make_full _ rfl _ _ 27 rfl wr.heap.size 5 i _ 1 Try.underlying27 hi8 hz0 hz1 _ _ _ _ N rfl rfl rfl rfl (by rw [hz2]; omega) (by unfold maxLen; omega) (Nat.le_refl _) ?_; intro w2 hown hgr; have hc2 := hmk.out w2 hown hgr; obtain ⟨⟨⟨kx0, kx1⟩, kf0, kf1⟩, hm3, hm4⟩ := ext_made s p HI.out.1 hown hgr HN.out; rw [← HQ4.out] at hm3 hm4; have HM := Lib.hid hm4; clear hm3 hm4 hown hgr)
              | (at_builtin; refine wpList_append_rd rfl (.tmp 60) (.tmp 61) 27 rfl w1.heap.size 5 i _ 1 Try.underlying27 hi8 hz0 hz1 hz2 rfl _ (cellsB (sxUpto p L k)) rfl HM.out.1 _ _ (cellsB (sxExt p s)) rfl HM.out.2.1 (cellsB_one _) (by have := hbd.out.1; have := hbd.out.2 p; rw [cellsB_length, cellsB_length]; omega) (by have := hbd.out.1; have := hbd.out.2 p; rw [cellsB_length, cellsB_length]; unfold maxLen; omega) (hbase.out _ HM.out.2.2) ?_; intro v4 w4 hown4 hbel4 _ _; have HO := Lib.hid (And.intro hown4 hbel4); clear hown4 hbel4))
            go_roundw
            case rel => exact ⟨k + 1, by omega, by go_num, Lib.hid ⟨by rw [hnext.out, cellsB_append]; exact HO.out.1, (HI.out.2.trans (HM.out.2.2.mono HI.out.2.size)).trans HO.out.2⟩⟩
            case measure => simp [intOf]; omega
          · have ke : ((k : Int) == (nm : Int)) = false := by simp; omega
            rw [if_neg hend] at hnext
            clear hend hnm
            go_wp2_with (first
              | (at_make; refine wpList_make_full _ rfl _ _ 27 rfl wr.heap.size 5 i _ 1 Try.underlying27 hi8 hz0 hz1 _ _ _ _ N rfl rfl rfl rfl (by rw [hz2]; omega) (by unfold maxLen; omega) (Nat.le_refl _) ?_; intro w2 hown hgr; have hc2 := hmk.out w2 hown hgr; obtain ⟨⟨⟨kx0, kx1⟩, kf0, kf1⟩, hm3, hm4⟩ := ext_made s p HI.out.1 hown hgr HN.out; rw [← HQ4.out] at hm3 hm4; have HM := Lib.hid hm3; clear hm3 hm4 hown hgr)
              | (at_builtin; refine wpList_append_rd rfl (.tmp 60) (.tmp 61) 27 rfl w1.heap.size 5 i _ 1 Try.underlying27 hi8 hz0 hz1 hz2 rfl _ (cellsB (sxUpto p L k)) rfl HM.out.1 _ _ (cellsB (sxExt 60 s)) rfl HM.out.2.1 (cellsB_one _) (by have := hbd.out.1; have := hbd.out.2 60; rw [cellsB_length, cellsB_length]; omega) (by have := hbd.out.1; have := hbd.out.2 60; rw [cellsB_length, cellsB_length]; unfold maxLen; omega) (hbase.out _ HM.out.2.2) ?_; intro v4 w4 hown4 hbel4 _ _; have HO := Lib.hid (And.intro hown4 hbel4); clear hown4 hbel4))
            go_roundw
            case rel => exact ⟨k + 1, by omega, by go_num, Lib.hid ⟨by rw [hnext.out, cellsB_append]; exact HO.out.1, (HI.out.2.trans (HM.out.2.2.mono HI.out.2.size)).trans HO.out.2⟩⟩
            case measure => simp [intOf]; omega
        · have hkn : n = k := by omega
          subst hkn
          clear hlt hk
          have hn := Hn.out
          have hchl := Hch.out
          have HATr := Lib.hid (HAT1.out.below HI.out.2 HAT1.out.lt)
          obtain ⟨kp2, kf2⟩ := hproto.out wr HATr.out
          obtain ⟨ch, hch⟩ : ∃ ch, ch = sxChain p L := ⟨_, rfl⟩
          have hA := HI.out.1
          rw [hn, sxUpto_all, ← hch] at hA
          obtain ⟨ln, hln⟩ : ∃ ln, ln = ch.length := ⟨_, rfl⟩
          obtain ⟨Aa, ca, hav, hrA⟩ := mine_slice (w := w) hA hln.symm
          subst hav
          have hb17 : Below w.heap.size w (wr.setCell ⟨w.heap.size, 1, none⟩ (.int .u8 17)) := (up HB1.out HI.out.2).setCell (p := ⟨w.heap.size, 1, none⟩) (Nat.le_refl _) (.int .u8 17)
          have hA17 : Mine (wr.setCell ⟨w.heap.size, 1, none⟩ (.int .u8 17)) w1.heap.size 5 (.slice Aa ln ca) (cellsB ch) := Mine.outside hA (by have := HAT1.out.lt; omega)
          have hD17 : Mine (wr.setCell ⟨w.heap.size, 1, none⟩ (.int .u8 17)) (w.heap.size + 1) 5 (.slice A1 m c1) (cellsB d) := Mine.outside (HD1.out.kept HI.out.2) (Nat.lt_succ_self _)
          have h17a := hset17.out wr HATr.out
          have hlch : ln ≤ 384 := by rw [hln, hch]; omega
          have hw1lt := HAT1.out.lt
          have hwrs := HI.out.2.size
          have Hln := Lib.hid hln
          have Hch2 := Lib.hid hch
          have HA17 := Lib.hid hA17
          have HD17 := Lib.hid hD17
          have Hb17 := Lib.hid hb17
          have H17a := Lib.hid h17a
          clear hA hrA HI hn hchl hln hch hA17 hD17 hb17 h17a
          go_wp2_with fail
          have hn := Hn.out
          have hm := Hm.out
          have hw := Hw.out
          have hw17 := Hw17.out
          have hdl := Hdl.out
          have hln := Hln.out
          have hch := Hch2.out
          have hA17 := HA17.out
          have hD17 := HD17.out
          have hb17 := Hb17.out
          have h17a := H17a.out
          clear HA17 HD17 Hb17 H17a
          generalize wr.setCell ⟨w.heap.size, 1, none⟩ (.int .u8 17) = X at *
          have hXs : w.heap.size < X.heap.size := h17a.lt
          have hkeep : Hid (∀ W, Below X.heap.size X W → HdAt W w.heap.size h17 ∧ W.rangeAt w.heap.size 0 (hdC h17)) := Lib.hid fun W hW => ⟨h17a.below hW hXs, (h17a.below hW hXs).whole⟩
          have hRA : Hid (∀ W, Below X.heap.size X W → Rd W W.heap.size (.slice Aa ln ca) (cellsB ch)) := Lib.hid fun W hW => (hA17.rd.below hW).more hW.size
          have hRD : Hid (∀ W, Below X.heap.size X W → Rd W W.heap.size (.slice A1 m c1) (cellsB d)) := Lib.hid fun W hW => (hD17.rd.below hW).more hW.size
          have HB17 := Lib.hid hb17
          have k17 := h17a.whole
          obtain ⟨cd, hcd⟩ : ∃ cd, cd = ch ++ d := ⟨_, rfl⟩
          have hcdl : cd.length = ln + m := by rw [hcd, List.length_append, hln, hm]
          have hcd0 := Lib.hid hcd
          have hmk2 : Hid (∀ W v3, Mine W X.heap.size 5 v3 ([] ++ cellsB ch) → Mine W X.heap.size 5 v3 (cellsB ch)) := Lib.hid fun W v3 h => by simpa using h
          have hmk3 : Hid (∀ W v3, Mine W X.heap.size 5 v3 (cellsB ch ++ cellsB d) → ∃ A4 c4, v3 = .slice A4 (ln + m) c4 ∧ Rd W W.heap.size (.slice A4 (ln + m) c4) (cellsB cd)) := Lib.hid fun W v3 h => by
            rw [← cellsB_append, ← hcd] at h
            exact mine_slice (w := w) h hcdl
          have hbd := Lib.hid (show ch.length ≤ 384 ∧ d.length ≤ 60 by omega)
          have hi17 := info_hd hw17
          obtain ⟨N4, hN4⟩ : ∃ N4, N4 = ln + m := ⟨_, rfl⟩
          rw [← hN4] at hmk3
          have hN4l : N4 ≤ 444 := by omega
          have hcd4 : cd.length = N4 := by omega
          clear hA17 hD17 h17a hb17 hcd hwrs hw1lt
          by_cases hmay : h17.may6 = true
          · have hlen := sxBytes_length h17 hw17 hmay cd
            obtain ⟨NN, hNN⟩ : ∃ NN, NN = 40 + N4 := ⟨_, rfl⟩
            have hlenN : (sxBytes h17 cd).length = NN := by rw [hlen, hcd4, hNN]
            have hwr : Hid (∀ W A c, Rd W W.heap.size (.slice A N4 c) (cellsB cd) → Calls Try.prog 8 #[.agg (hdC h17).toArray, .slice A N4 c] W fun e w' => ∃ gb cb, e = .returned (.tuple #[.slice (some ⟨gb, 0, none⟩) NN cb, .int .i64 0]) ∧ Mine w' W.heap.size 5 (.slice (some ⟨gb, 0, none⟩) NN cb) (cellsB (sxBytes h17 cd)) ∧ Below W.heap.size W w') := Lib.hid fun W A c hr => by
              rw [← hcd4] at hr ⊢
              refine (sxWrite_ok h17 hw17 hmay A c cd (by omega) W W.heap.size (Nat.le_refl _) hr).mono ?_
              rintro e w' ⟨v, rfl, hv, hb⟩
              obtain ⟨gb, cb, rfl, _, _⟩ := hv.addr (by omega)
              rw [hlenN] at hv ⊢
              exact ⟨gb, cb, rfl, hv, hb⟩
            obtain ⟨hp8, hp9⟩ := sxPassed h17 hw17 hmay L p (by simpa using hs) d (by rw [← hch, ← hcd0.out]; omega)
            rw [← hch, ← hcd0.out, ← hn] at hp8 hp9
            have hparts := Hd.may6_parts hmay
            have hslot : Hid (∀ W base gb cb, Mine W base 5 (.slice (some ⟨gb, 0, none⟩) NN cb) (cellsB (sxBytes h17 cd)) → base ≤ gb ∧ (∃ u, W.cell? ⟨gb, 6, none⟩ = some (.int .u8 u)) ∧ W.frozen? ⟨gb, 6, none⟩ = false ∧ ∀ x : UInt8, Mine (W.setCell ⟨gb, 6, none⟩ (.int .u8 (x.toNat : Int))) base 5 (.slice (some ⟨gb, 0, none⟩) NN cb) (cellsB ((sxBytes h17 cd).set 6 x)) ∧ Mine ((W.setCell ⟨gb, 6, none⟩ (.int .u8 (x.toNat : Int))).setCell ⟨gb, 6, none⟩ (.int .u8 60)) base 5 (.slice (some ⟨gb, 0, none⟩) NN cb) (cellsB ((sxBytes h17 cd).set 6 60))) := Lib.hid fun W base gb cb hM => by
              obtain ⟨s1, s2⟩ := hM.slot 6 (by omega)
              refine ⟨hM.lt.1, s1, s2, fun x => ?_⟩
              have t1 := hM.stored 6 (.int .u8 (x.toNat : Int))
              have t2 := t1.stored 6 (.int .u8 ((60 : UInt8).toNat : Int))
              rw [cellsB_set] at t1 t2
              rw [cellsB_set, List.set_set] at t2
              exact ⟨t1, t2⟩
            have hrd : Hid (∀ bs, bs.length = NN → ∀ W A c, Rd W W.heap.size (.slice A NN c) (cellsB bs) → Calls Try.prog 9 #[.slice A NN c] W fun e w' => e = .returned (.tuple #[.agg (hdC (sxRead bs)).toArray, .int .i64 ((sxErr bs : Nat) : Int)]) ∧ Below W.heap.size W w') := Lib.hid fun bs hbs W A c hr => by
              rw [← hbs] at hr ⊢
              exact sxRead_any hr
            have hNN40 : (40 : Int) ≤ (NN : Int) := by omega
            have h6NN : (6 : Int) < (NN : Int) := by omega
            have hsetl : ∀ x, ((sxBytes h17 cd).set 6 x).length = NN := fun x => by rw [List.length_set]; exact hlenN
            have hzz : ∀ w, (zeroValue 26).run Try.prog w = .ok (.agg (hdC Hd.zero).toArray) w := zero_hd
            have hzs : Hid (∀ y : Hd, y.Wide → (hdC Hd.zero).toArray.size = (hdC y).toArray.size) := Lib.hid fun y hy => by rw [List.size_toArray, List.size_toArray, hdC_length Hd.zero_wide, hdC_length hy]
            by_cases hn8 : 8 < n
            · obtain ⟨e1, e2⟩ := hp9 hn8
              rw [if_neg (by rintro rfl; simp at hn; omega)] at e1 e2
              have hrd2 := hrd.out _ (hsetl 60)
              rw [e1, e2] at hrd2
              have HRD := Lib.hid hrd2
              have hxa := all_oneCell_toArray (hdC_one Hd.zero)
              have hxi := info_hd Hd.zero_wide
              have hxiA := info_hdA Hd.zero_wide
              have hzs2 := hzs.out Hd.zero Hd.zero_wide
              have hbu : ∀ W, (Instr.build 26 #[]).run Try.prog W = .ok (.agg (hdC Hd.zero).toArray) W := build_hd0
              have heq := eql_hd Hd.zero Hd.zero Hd.zero_wide Hd.zero_wide
              rw [decide_eq_true rfl, hdV] at heq
              have hC : Hid (∀ W : World, (W.alloc (.cells (hdC Hd.zero).toArray 26)).rangeAt W.heap.size 0 (hdC Hd.zero)) := Lib.hid fun W => (show HdAt _ _ _ from heap_alloc_last W _).whole
              have kn : (8 : Int) < (n : Int) := by omega
              have kn0 : (0 : Int) < (n : Int) := by omega
              have HS2 := Lib.hid (fun W base gb cb hM => hslot.out W base gb cb hM)
              clear hp8 hp9 e1 e2 hrd hrd2 hzs hparts hlen hNN hlenN hmay hsetl hn8 hs hch hln hm hn hdl hn12 hw hN4 hN4l hcd4 hcdl hlch hXs hw17
              generalize sxBytes h17 cd = bs0 at *
              generalize hdC h17 = C17 at *
              generalize hdC Hd.zero = Z at *
              refine wp_region_held_drew (S := fun w' => w'.rangeAt w.heap.size 0 C17) (by kernel_rfl) k17 (fun hHeld => ?_)
              refine th 0 (v := .agg C17.toArray) ?_ (hy := fun wy hSw => by exact exec_load (t := 26) (x := .tmp 3) rfl (pv := .pointer (some ⟨w.heap.size, 0, none⟩)) rfl (run_loadAt_mid wy w.heap.size 0 26 C17 _ hSw Try.underlying26 rfl hi17))
              go_frame
              refine th 2 ?_
              go_frame
              refine th 4 ?_
              go_frame
              refine wpAnyH_ready (rs := [1]) (by kernel_rfl) (by simp) (AllReadyH.cons (o := ⟨some 66, .buildSlice 27 0 #[], _, _, _, none⟩) rfl (fun K hK => ?_) AllReadyH.nil)
              rw [if_pos (by kernel_rfl)]
              go_simp
              refine hK.out _ _ ((hkeep.out _ (up_alloc (drew_self _) _)).2) (fun _ => ?_)
              clear hK K
              try go_frame
              refine wpAnyH_ready (rs := [3]) (by kernel_rfl) (by simp) (AllReadyH.cons (o := ⟨some 68, .call { callee := .builtin .append, args := #[.tmp 66, .tmp 67], argTypes := #[27, 27] }, _, _, _, none⟩) rfl (fun K hK => ?_) AllReadyH.nil)
              rw [if_pos (by kernel_rfl)]
              refine op_append_rd rfl (.tmp 66) (.tmp 67) 27 (by rfl) X.heap.size 5 i _ 1 Try.underlying27 hi8 hz0 hz1 hz2 rfl _ [] (by rfl) (Mine.empty X.drew _ 5 (Nat.le_refl _)) _ _ (cellsB ch) (by rfl) (hRA.out _ (up_alloc (drew_self _) _)) (cellsB_one _) (by have := hbd.out.1; rw [cellsB_length]; simp; omega) (by have := hbd.out.1; rw [cellsB_length]; unfold maxLen; simp; omega) (by simp) ?_
              intro v3 w3 hown3 hbel3 _ _
              have HB3 := Lib.hid ((up_alloc (drew_self X) (.cells #[] 5)).trans hbel3)
              have HO3 := Lib.hid (hmk2.out _ _ hown3)
              clear hown3 hbel3
              refine hK.out _ _ ((hkeep.out _ HB3.out).2) (fun _ => ?_)
              clear hK K
              try go_frame
              refine wpAnyH_ready (rs := [5]) (by kernel_rfl) (by simp) (AllReadyH.cons (o := ⟨some 70, .call { callee := .builtin .append, args := #[.tmp 68, .tmp 69], argTypes := #[27, 27] }, _, _, _, none⟩) rfl (fun K hK => ?_) AllReadyH.nil)
              rw [if_pos (by kernel_rfl)]
              refine op_append_rd rfl (.tmp 68) (.tmp 69) 27 (by rfl) X.heap.size 5 i _ 1 Try.underlying27 hi8 hz0 hz1 hz2 rfl _ (cellsB ch) (by rfl) HO3.out _ _ (cellsB d) (by rfl) (hRD.out _ HB3.out) (cellsB_one _) (by have := hbd.out; rw [cellsB_length, cellsB_length]; omega) (by have := hbd.out; rw [cellsB_length, cellsB_length]; unfold maxLen; omega) HB3.out.size ?_
              intro v4 w4 hown4 hbel4 _ _
              have HB4 := Lib.hid (HB3.out.trans hbel4)
              obtain ⟨A4, c4, rfl, hr4⟩ := hmk3.out _ _ hown4
              have HR4 := Lib.hid hr4
              clear hown4 hbel4 hr4
              refine hK.out _ _ ((hkeep.out _ HB4.out).2) (fun _ => ?_)
              clear hK K
              try go_frame
              refine wpAnyH_ready (rs := [6]) (by kernel_rfl) (by simp) (AllReadyH.cons (o := ⟨some 71, .call { callee := .value (.func 8), args := #[.tmp 65, .tmp 70], argTypes := #[26, 27] }, _, _, _, none⟩) rfl (fun K hK => ?_) AllReadyH.nil)
              rw [if_pos (by kernel_rfl)]
              go_simp
              refine (hwr.out _ _ _ HR4.out).mono ?_
              rintro _ w5 ⟨gb, cb, rfl, hm5, hb5⟩
              have HB5 := Lib.hid (up HB4.out hb5)
              have HM5 := Lib.hid hm5
              have hge := HB4.out.size
              obtain ⟨hgb, ⟨u6, k6⟩, f6, hst6⟩ := hslot.out _ _ _ _ hm5
              have HGB := Lib.hid (show X.heap.size ≤ gb by omega)
              have HST := Lib.hid hst6
              clear hm5 hb5 hst6 hge hgb
              dsimp only
              refine hK.out _ _ ((hkeep.out _ HB5.out).2) (fun _ => ?_)
              clear hK K
              try go_frame
              refine th 7 ?_
              go_frame
              refine th 8 ?_
              go_frame
              refine th 9 ?_
              go_frame
              refine th 10 ?_
              go_frame
              refine th 11 ?_
              go_frame
              refine wpAnyH_done (by kernel_rfl) ?_ _
              clear k17
              have hb6 := Lib.hid ((HB5.out.setCell (p := ⟨gb, 6, none⟩) HGB.out (.int .u8 (p.toNat : Int))).setCell (p := ⟨gb, 6, none⟩) HGB.out (.int .u8 60))
              have HR6 := Lib.hid (HST.out p).2.rd
              go_wp2_with (first
                | (go_at_call 9; refine (HRD.out _ _ _ HR6.out).mono ?_; rintro _ w9 ⟨rfl, hb9⟩; have HB9 := Lib.hid (up_alloc (up hb6.out hb9) (.cells Z.toArray 26)); have k0 := hC.out w9; clear hb9)
                | (with_reducible refine wpList_alloc_zero (o := ⟨some 13, .alloc 26, _, _, _, _⟩) rfl 26 rfl Z.toArray hzz ?_)
                | ((with_reducible refine wpList_store_new (o := ⟨none, .store 26 (.tmp 13) (.tmp 91), _, _, _, _⟩) rfl 26 (.tmp 13) (.tmp 91) rfl Z.toArray Z.toArray ?_ ?_ hxiA rfl hxa ?_); exact rfl; exact rfl)
                | ((with_reducible refine wpList_load_mid_g (op := ⟨some 99, .load 26 (.tmp 13), _, _, _, _⟩) ?_ 26 (.tmp 13) rfl w9.heap.size 0 ?_ Z _ k0 Try.underlying26 rfl hxi ?_); rfl; exact rfl)
                | (go_at_call 7; refine (hlv.out _).mono ?_; rintro _ w10 ⟨rfl, hb10⟩))
              go_ret
              exact ⟨rfl, up (up HB17.out HB9.out) hb10⟩
            · obtain ⟨e1, e2⟩ := hp8 (by omega)
              obtain ⟨y, hy⟩ : ∃ y : Hd, y = ⟨h17.six, p, 40 + (ch.length : Nat), h17.src, h17.dst, h17.part, h17.hops⟩ := ⟨_, rfl⟩
              rw [← hy] at e2
              have hyw : y.Wide := by rw [hy]; exact hw17
              have hxa := all_oneCell_toArray (hdC_one y)
              have hxiA := info_hdA hyw
              have hzs2 := hzs.out y hyw
              have i3 := info_ad hw.1
              have heqa := eql_ad h.src h.src hw.1 hw.1
              rw [decide_eq_true rfl, adV] at heqa
              obtain ⟨P, hP⟩ : ∃ P, P = 40 + ln := ⟨_, rfl⟩
              have kwP : IntKind.i64.wrap (40 + (ln : Int)) = (P : Int) := by rw [IntWalk.i64_in _ (by omega)]; omega
              have hyp1 : y.proto = p := by rw [hy]
              have hyp2 : y.pos = (P : Int) := by rw [hy, hP, ← hln]; show (40 : Int) + _ = _; omega
              have hyp3 : y.src = h.src := by rw [hy]; exact hsrc17.out
              have hyp5 : y.part = false := by rw [hy]; exact hparts.2.2.2.2.1
              have hC : Hid (∀ W : World, Below X.heap.size X W → (W.alloc (.cells (hdC y).toArray 26)).cell? ⟨W.heap.size, 1, none⟩ = some (.int .u8 (p.toNat : Int)) ∧ (W.alloc (.cells (hdC y).toArray 26)).cell? ⟨W.heap.size, 2, none⟩ = some (.int .i64 (P : Int)) ∧ (W.alloc (.cells (hdC y).toArray 26)).rangeAt W.heap.size 3 (adC h.src) ∧ (W.alloc (.cells (hdC y).toArray 26)).rangeAt w.heap.size 3 (adC h.src) ∧ (W.alloc (.cells (hdC y).toArray 26)).cell? ⟨W.heap.size, 37, none⟩ = some (.bool false)) := Lib.hid fun W hW => by
                have a1 : HdAt (W.alloc (.cells (hdC y).toArray 26)) W.heap.size y := heap_alloc_last W _
                have a2 := (hkeep.out _ (up_alloc hW (.cells (hdC y).toArray 26))).1
                have s1 := hdC_proto a1
                have s2 : (W.alloc (.cells (hdC y).toArray 26)).cell? ⟨W.heap.size, 2, none⟩ = some (.int .i64 y.pos) := by rw [cell_of_row _ _ 2 _ _ _ a1]; rfl
                have s3 := hdC_src a1
                have s4 := hdC_src a2
                have s5 := hdC_part hyw a1
                rw [hsrc17.out] at s4
                rw [hyp1] at s1
                rw [hyp2] at s2
                rw [hyp3] at s3
                rw [hyp5] at s5
                exact ⟨s1, s2, s3, s4, s5⟩
              have hw8 : ¬ (8 : Int) < (n : Int) := by omega
              by_cases hn0 : n = 0
              · rw [if_pos (List.length_eq_zero_iff.1 (by omega))] at e1 e2
                have hrd2 := hrd.out _ (hsetl p)
                rw [e1, e2] at hrd2
                have HRD := Lib.hid hrd2
                have kn0 : ¬ (0 : Int) < (n : Int) := by omega
                clear hp8 hp9 e1 e2 hrd hrd2 hzs hparts hlen hNN hlenN hmay hsetl hn8 hs hch hln hm hn hdl hn12 hw hN4 hN4l hcd4 hcdl hlch hXs hw17 hn0 hyp1 hyp2 hyp3 hyp5 hy hyw hP
                generalize sxBytes h17 cd = bs0 at *
                generalize hdC h17 = C17 at *
                generalize hdC y = Y at *
                generalize hdC Hd.zero = Z at *
                generalize adC h.src = CS at *
                refine wp_region_held_drew (S := fun w' => w'.rangeAt w.heap.size 0 C17) (by kernel_rfl) k17 (fun hHeld => ?_)
                refine th 0 (v := .agg C17.toArray) ?_ (hy := fun wy hSw => by exact exec_load (t := 26) (x := .tmp 3) rfl (pv := .pointer (some ⟨w.heap.size, 0, none⟩)) rfl (run_loadAt_mid wy w.heap.size 0 26 C17 _ hSw Try.underlying26 rfl hi17))
                go_frame
                refine th 2 ?_
                go_frame
                refine th 4 ?_
                go_frame
                refine wpAnyH_ready (rs := [1]) (by kernel_rfl) (by simp) (AllReadyH.cons (o := ⟨some 66, .buildSlice 27 0 #[], _, _, _, none⟩) rfl (fun K hK => ?_) AllReadyH.nil)
                rw [if_pos (by kernel_rfl)]
                go_simp
                refine hK.out _ _ ((hkeep.out _ (up_alloc (drew_self _) _)).2) (fun _ => ?_)
                clear hK K
                try go_frame
                refine wpAnyH_ready (rs := [3]) (by kernel_rfl) (by simp) (AllReadyH.cons (o := ⟨some 68, .call { callee := .builtin .append, args := #[.tmp 66, .tmp 67], argTypes := #[27, 27] }, _, _, _, none⟩) rfl (fun K hK => ?_) AllReadyH.nil)
                rw [if_pos (by kernel_rfl)]
                refine op_append_rd rfl (.tmp 66) (.tmp 67) 27 (by rfl) X.heap.size 5 i _ 1 Try.underlying27 hi8 hz0 hz1 hz2 rfl _ [] (by rfl) (Mine.empty X.drew _ 5 (Nat.le_refl _)) _ _ (cellsB ch) (by rfl) (hRA.out _ (up_alloc (drew_self _) _)) (cellsB_one _) (by have := hbd.out.1; rw [cellsB_length]; simp; omega) (by have := hbd.out.1; rw [cellsB_length]; unfold maxLen; simp; omega) (by simp) ?_
                intro v3 w3 hown3 hbel3 _ _
                have HB3 := Lib.hid ((up_alloc (drew_self X) (.cells #[] 5)).trans hbel3)
                have HO3 := Lib.hid (hmk2.out _ _ hown3)
                clear hown3 hbel3
                refine hK.out _ _ ((hkeep.out _ HB3.out).2) (fun _ => ?_)
                clear hK K
                try go_frame
                refine wpAnyH_ready (rs := [5]) (by kernel_rfl) (by simp) (AllReadyH.cons (o := ⟨some 70, .call { callee := .builtin .append, args := #[.tmp 68, .tmp 69], argTypes := #[27, 27] }, _, _, _, none⟩) rfl (fun K hK => ?_) AllReadyH.nil)
                rw [if_pos (by kernel_rfl)]
                refine op_append_rd rfl (.tmp 68) (.tmp 69) 27 (by rfl) X.heap.size 5 i _ 1 Try.underlying27 hi8 hz0 hz1 hz2 rfl _ (cellsB ch) (by rfl) HO3.out _ _ (cellsB d) (by rfl) (hRD.out _ HB3.out) (cellsB_one _) (by have := hbd.out; rw [cellsB_length, cellsB_length]; omega) (by have := hbd.out; rw [cellsB_length, cellsB_length]; unfold maxLen; omega) HB3.out.size ?_
                intro v4 w4 hown4 hbel4 _ _
                have HB4 := Lib.hid (HB3.out.trans hbel4)
                obtain ⟨A4, c4, rfl, hr4⟩ := hmk3.out _ _ hown4
                have HR4 := Lib.hid hr4
                clear hown4 hbel4 hr4
                refine hK.out _ _ ((hkeep.out _ HB4.out).2) (fun _ => ?_)
                clear hK K
                try go_frame
                refine wpAnyH_ready (rs := [6]) (by kernel_rfl) (by simp) (AllReadyH.cons (o := ⟨some 71, .call { callee := .value (.func 8), args := #[.tmp 65, .tmp 70], argTypes := #[26, 27] }, _, _, _, none⟩) rfl (fun K hK => ?_) AllReadyH.nil)
                rw [if_pos (by kernel_rfl)]
                go_simp
                refine (hwr.out _ _ _ HR4.out).mono ?_
                rintro _ w5 ⟨gb, cb, rfl, hm5, hb5⟩
                have HB5 := Lib.hid (up HB4.out hb5)
                have HM5 := Lib.hid hm5
                have hge := HB4.out.size
                obtain ⟨hgb, ⟨u6, k6⟩, f6, hst6⟩ := hslot.out _ _ _ _ hm5
                have HGB := Lib.hid (show X.heap.size ≤ gb by omega)
                have HST := Lib.hid hst6
                clear hm5 hb5 hst6 hge hgb
                dsimp only
                refine hK.out _ _ ((hkeep.out _ HB5.out).2) (fun _ => ?_)
                clear hK K
                try go_frame
                refine th 7 ?_
                go_frame
                refine th 8 ?_
                go_frame
                refine th 9 ?_
                go_frame
                refine th 10 ?_
                go_frame
                refine th 11 ?_
                go_frame
                refine wpAnyH_done (by kernel_rfl) ?_ _
                clear k17
                have hb6 := Lib.hid (HB5.out.setCell (p := ⟨gb, 6, none⟩) HGB.out (.int .u8 (p.toNat : Int)))
                have HR6 := Lib.hid (HST.out p).1.rd
                go_wp2_with (first
                  | (go_at_call 9; refine (HRD.out _ _ _ HR6.out).mono ?_; rintro _ w9 ⟨rfl, hb9⟩; have HB9 := Lib.hid (up_alloc (up hb6.out hb9) (.cells Y.toArray 26)); obtain ⟨y1, y2, y3, y4, y5⟩ := hC.out w9 (up hb6.out hb9); clear hb9)
                  | (with_reducible refine wpList_alloc_zero (o := ⟨some 13, .alloc 26, _, _, _, _⟩) rfl 26 rfl Z.toArray hzz ?_)
                  | ((with_reducible refine wpList_store_new (o := ⟨none, .store 26 (.tmp 13) (.tmp 91), _, _, _, _⟩) rfl 26 (.tmp 13) (.tmp 91) rfl Z.toArray Y.toArray ?_ ?_ hxiA hzs2 hxa ?_); exact rfl; exact rfl)
                  | ((with_reducible refine wpList_load_mid_g (op := ⟨some 124, .load 24 (.tmp 123), _, _, _, _⟩) ?_ 24 (.tmp 123) rfl w9.heap.size 3 ?_ CS _ y3 Try.underlying24 rfl i3 ?_); rfl; exact rfl)
                  | ((with_reducible refine wpList_load_mid_g (op := ⟨some 126, .load 24 (.tmp 125), _, _, _, _⟩) ?_ 24 (.tmp 125) rfl w.heap.size 3 ?_ CS _ y4 Try.underlying24 rfl i3 ?_); rfl; exact rfl)
                  | (go_at_call 7; refine (hlv.out _).mono ?_; rintro _ w10 ⟨rfl, hb10⟩))
                go_ret
                exact ⟨rfl, up (up HB17.out HB9.out) hb10⟩
              · rw [if_neg (by rintro rfl; simp at hn; omega)] at e1 e2
                have hrd2 := hrd.out _ (hsetl 60)
                rw [e1, e2] at hrd2
                have HRD := Lib.hid hrd2
                have kn0 : (0 : Int) < (n : Int) := by omega
                clear hp8 hp9 e1 e2 hrd hrd2 hzs hparts hlen hNN hlenN hmay hsetl hn8 hs hch hln hm hn hdl hn12 hw hN4 hN4l hcd4 hcdl hlch hXs hw17 hn0 hyp1 hyp2 hyp3 hyp5 hy hyw hP
                generalize sxBytes h17 cd = bs0 at *
                generalize hdC h17 = C17 at *
                generalize hdC y = Y at *
                generalize hdC Hd.zero = Z at *
                generalize adC h.src = CS at *
                refine wp_region_held_drew (S := fun w' => w'.rangeAt w.heap.size 0 C17) (by kernel_rfl) k17 (fun hHeld => ?_)
                refine th 0 (v := .agg C17.toArray) ?_ (hy := fun wy hSw => by exact exec_load (t := 26) (x := .tmp 3) rfl (pv := .pointer (some ⟨w.heap.size, 0, none⟩)) rfl (run_loadAt_mid wy w.heap.size 0 26 C17 _ hSw Try.underlying26 rfl hi17))
                go_frame
                refine th 2 ?_
                go_frame
                refine th 4 ?_
                go_frame
                refine wpAnyH_ready (rs := [1]) (by kernel_rfl) (by simp) (AllReadyH.cons (o := ⟨some 66, .buildSlice 27 0 #[], _, _, _, none⟩) rfl (fun K hK => ?_) AllReadyH.nil)
                rw [if_pos (by kernel_rfl)]
                go_simp
                refine hK.out _ _ ((hkeep.out _ (up_alloc (drew_self _) _)).2) (fun _ => ?_)
                clear hK K
                try go_frame
                refine wpAnyH_ready (rs := [3]) (by kernel_rfl) (by simp) (AllReadyH.cons (o := ⟨some 68, .call { callee := .builtin .append, args := #[.tmp 66, .tmp 67], argTypes := #[27, 27] }, _, _, _, none⟩) rfl (fun K hK => ?_) AllReadyH.nil)
                rw [if_pos (by kernel_rfl)]
                refine op_append_rd rfl (.tmp 66) (.tmp 67) 27 (by rfl) X.heap.size 5 i _ 1 Try.underlying27 hi8 hz0 hz1 hz2 rfl _ [] (by rfl) (Mine.empty X.drew _ 5 (Nat.le_refl _)) _ _ (cellsB ch) (by rfl) (hRA.out _ (up_alloc (drew_self _) _)) (cellsB_one _) (by have := hbd.out.1; rw [cellsB_length]; simp; omega) (by have := hbd.out.1; rw [cellsB_length]; unfold maxLen; simp; omega) (by simp) ?_
                intro v3 w3 hown3 hbel3 _ _
                have HB3 := Lib.hid ((up_alloc (drew_self X) (.cells #[] 5)).trans hbel3)
                have HO3 := Lib.hid (hmk2.out _ _ hown3)
                clear hown3 hbel3
                refine hK.out _ _ ((hkeep.out _ HB3.out).2) (fun _ => ?_)
                clear hK K
                try go_frame
                refine wpAnyH_ready (rs := [5]) (by kernel_rfl) (by simp) (AllReadyH.cons (o := ⟨some 70, .call { callee := .builtin .append, args := #[.tmp 68, .tmp 69], argTypes := #[27, 27] }, _, _, _, none⟩) rfl (fun K hK => ?_) AllReadyH.nil)
                rw [if_pos (by kernel_rfl)]
                refine op_append_rd rfl (.tmp 68) (.tmp 69) 27 (by rfl) X.heap.size 5 i _ 1 Try.underlying27 hi8 hz0 hz1 hz2 rfl _ (cellsB ch) (by rfl) HO3.out _ _ (cellsB d) (by rfl) (hRD.out _ HB3.out) (cellsB_one _) (by have := hbd.out; rw [cellsB_length, cellsB_length]; omega) (by have := hbd.out; rw [cellsB_length, cellsB_length]; unfold maxLen; omega) HB3.out.size ?_
                intro v4 w4 hown4 hbel4 _ _
                have HB4 := Lib.hid (HB3.out.trans hbel4)
                obtain ⟨A4, c4, rfl, hr4⟩ := hmk3.out _ _ hown4
                have HR4 := Lib.hid hr4
                clear hown4 hbel4 hr4
                refine hK.out _ _ ((hkeep.out _ HB4.out).2) (fun _ => ?_)
                clear hK K
                try go_frame
                refine wpAnyH_ready (rs := [6]) (by kernel_rfl) (by simp) (AllReadyH.cons (o := ⟨some 71, .call { callee := .value (.func 8), args := #[.tmp 65, .tmp 70], argTypes := #[26, 27] }, _, _, _, none⟩) rfl (fun K hK => ?_) AllReadyH.nil)
                rw [if_pos (by kernel_rfl)]
                go_simp
                refine (hwr.out _ _ _ HR4.out).mono ?_
                rintro _ w5 ⟨gb, cb, rfl, hm5, hb5⟩
                have HB5 := Lib.hid (up HB4.out hb5)
                have HM5 := Lib.hid hm5
                have hge := HB4.out.size
                obtain ⟨hgb, ⟨u6, k6⟩, f6, hst6⟩ := hslot.out _ _ _ _ hm5
                have HGB := Lib.hid (show X.heap.size ≤ gb by omega)
                have HST := Lib.hid hst6
                clear hm5 hb5 hst6 hge hgb
                dsimp only
                refine hK.out _ _ ((hkeep.out _ HB5.out).2) (fun _ => ?_)
                clear hK K
                try go_frame
                refine th 7 ?_
                go_frame
                refine th 8 ?_
                go_frame
                refine th 9 ?_
                go_frame
                refine th 10 ?_
                go_frame
                refine th 11 ?_
                go_frame
                refine wpAnyH_done (by kernel_rfl) ?_ _
                clear k17
                have hb6 := Lib.hid ((HB5.out.setCell (p := ⟨gb, 6, none⟩) HGB.out (.int .u8 (p.toNat : Int))).setCell (p := ⟨gb, 6, none⟩) HGB.out (.int .u8 60))
                have HR6 := Lib.hid (HST.out p).2.rd
                go_wp2_with (first
                  | (go_at_call 9; refine (HRD.out _ _ _ HR6.out).mono ?_; rintro _ w9 ⟨rfl, hb9⟩; have HB9 := Lib.hid (up_alloc (up hb6.out hb9) (.cells Y.toArray 26)); obtain ⟨y1, y2, y3, y4, y5⟩ := hC.out w9 (up hb6.out hb9); clear hb9)
                  | (with_reducible refine wpList_alloc_zero (o := ⟨some 13, .alloc 26, _, _, _, _⟩) rfl 26 rfl Z.toArray hzz ?_)
                  | ((with_reducible refine wpList_store_new (o := ⟨none, .store 26 (.tmp 13) (.tmp 91), _, _, _, _⟩) rfl 26 (.tmp 13) (.tmp 91) rfl Z.toArray Y.toArray ?_ ?_ hxiA hzs2 hxa ?_); exact rfl; exact rfl)
                  | ((with_reducible refine wpList_load_mid_g (op := ⟨some 124, .load 24 (.tmp 123), _, _, _, _⟩) ?_ 24 (.tmp 123) rfl w9.heap.size 3 ?_ CS _ y3 Try.underlying24 rfl i3 ?_); rfl; exact rfl)
                  | ((with_reducible refine wpList_load_mid_g (op := ⟨some 126, .load 24 (.tmp 125), _, _, _, _⟩) ?_ 24 (.tmp 125) rfl w.heap.size 3 ?_ CS _ y4 Try.underlying24 rfl i3 ?_); rfl; exact rfl)
                  | (go_at_call 7; refine (hlv.out _).mono ?_; rintro _ w10 ⟨rfl, hb10⟩))
                go_ret
                exact ⟨rfl, up (up HB17.out HB9.out) hb10⟩
          · have hmf : h17.may6 = false := by simpa using hmay
            have hwr := Lib.hid (fun v W => sxWrite_arg h17 hw17 hmf v W)
            rw [hdV] at hwr
            clear hmay hmf hs hch hln hm hn hdl hn12 hw hN4 hN4l hcd4 hcdl hlch hXs hw17
            generalize hdC h17 = C17 at *
            refine wp_region_held_drew (S := fun w' => w'.rangeAt w.heap.size 0 C17) (by kernel_rfl) k17 (fun hHeld => ?_)
            refine th 0 (v := .agg C17.toArray) ?_ (hy := fun wy hSw => by exact exec_load (t := 26) (x := .tmp 3) rfl (pv := .pointer (some ⟨w.heap.size, 0, none⟩)) rfl (run_loadAt_mid wy w.heap.size 0 26 C17 _ hSw Try.underlying26 rfl hi17))
            go_frame
            refine th 2 ?_
            go_frame
            refine th 4 ?_
            go_frame
            refine wpAnyH_ready (rs := [1]) (by kernel_rfl) (by simp) (AllReadyH.cons (o := ⟨some 66, .buildSlice 27 0 #[], _, _, _, none⟩) rfl (fun K hK => ?_) AllReadyH.nil)
            rw [if_pos (by kernel_rfl)]
            go_simp
            refine hK.out _ _ ((hkeep.out _ (up_alloc (drew_self _) _)).2) (fun _ => ?_)
            clear hK K
            try go_frame
            refine wpAnyH_ready (rs := [3]) (by kernel_rfl) (by simp) (AllReadyH.cons (o := ⟨some 68, .call { callee := .builtin .append, args := #[.tmp 66, .tmp 67], argTypes := #[27, 27] }, _, _, _, none⟩) rfl (fun K hK => ?_) AllReadyH.nil)
            rw [if_pos (by kernel_rfl)]
            refine op_append_rd rfl (.tmp 66) (.tmp 67) 27 (by rfl) X.heap.size 5 i _ 1 Try.underlying27 hi8 hz0 hz1 hz2 rfl _ [] (by rfl) (Mine.empty X.drew _ 5 (Nat.le_refl _)) _ _ (cellsB ch) (by rfl) (hRA.out _ (up_alloc (drew_self _) _)) (cellsB_one _) (by have := hbd.out.1; rw [cellsB_length]; simp; omega) (by have := hbd.out.1; rw [cellsB_length]; unfold maxLen; simp; omega) (by simp) ?_
            intro v3 w3 hown3 hbel3 _ _
            have HB3 := Lib.hid ((up_alloc (drew_self X) (.cells #[] 5)).trans hbel3)
            have HO3 := Lib.hid (hmk2.out _ _ hown3)
            clear hown3 hbel3
            refine hK.out _ _ ((hkeep.out _ HB3.out).2) (fun _ => ?_)
            clear hK K
            try go_frame
            refine wpAnyH_ready (rs := [5]) (by kernel_rfl) (by simp) (AllReadyH.cons (o := ⟨some 70, .call { callee := .builtin .append, args := #[.tmp 68, .tmp 69], argTypes := #[27, 27] }, _, _, _, none⟩) rfl (fun K hK => ?_) AllReadyH.nil)
            rw [if_pos (by kernel_rfl)]
            refine op_append_rd rfl (.tmp 68) (.tmp 69) 27 (by rfl) X.heap.size 5 i _ 1 Try.underlying27 hi8 hz0 hz1 hz2 rfl _ (cellsB ch) (by rfl) HO3.out _ _ (cellsB d) (by rfl) (hRD.out _ HB3.out) (cellsB_one _) (by have := hbd.out; rw [cellsB_length, cellsB_length]; omega) (by have := hbd.out; rw [cellsB_length, cellsB_length]; unfold maxLen; omega) HB3.out.size ?_
            intro v4 w4 hown4 hbel4 _ _
            have HB4 := Lib.hid (HB3.out.trans hbel4)
            obtain ⟨A4, c4, rfl, hr4⟩ := hmk3.out _ _ hown4
            have HR4 := Lib.hid hr4
            clear hown4 hbel4 hr4
            refine hK.out _ _ ((hkeep.out _ HB4.out).2) (fun _ => ?_)
            clear hK K
            try go_frame
            refine wpAnyH_ready (rs := [6]) (by kernel_rfl) (by simp) (AllReadyH.cons (o := ⟨some 71, .call { callee := .value (.func 8), args := #[.tmp 65, .tmp 70], argTypes := #[26, 27] }, _, _, _, none⟩) rfl (fun K hK => ?_) AllReadyH.nil)
            rw [if_pos (by kernel_rfl)]
            go_simp
            refine (hwr.out _ _).mono ?_
            rintro _ w5 ⟨rfl, hb5⟩
            have HB5 := Lib.hid (up HB4.out hb5)
            clear hb5
            dsimp only
            refine hK.out _ _ ((hkeep.out _ HB5.out).2) (fun _ => ?_)
            clear hK K
            try go_frame
            refine th 7 ?_
            go_frame
            refine th 8 ?_
            go_frame
            refine th 9 ?_
            go_frame
            refine th 10 ?_
            go_frame
            refine th 11 ?_
            go_frame
            refine wpAnyH_done (by kernel_rfl) ?_ _
            clear k17
            go_wp2_with (go_at_call 7; refine (hlv.out _).mono ?_; rintro _ w7 ⟨rfl, hb7⟩)
            go_ret
            exact ⟨rfl, up (up HB17.out HB5.out) hb7⟩
end Go.Proofs.Ytpgggeihhdbedaa
