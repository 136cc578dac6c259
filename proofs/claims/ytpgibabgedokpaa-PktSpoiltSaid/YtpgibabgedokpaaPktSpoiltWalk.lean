/-
  The walk of PktSpoilt.
-/
import Derived.Test.YtpgibabgedokpaaPkF
import Derived.Test.YtpgibabgedokpaaFlOpen
import Derived.Test.YtpgibabgedokpaaMineSet
import Derived.StillTailTactics
namespace Go.Proofs.Ytpgibabgedokpaa
open Go.RowKit
theorem pkU8_add (x y : UInt8) : ((x.toNat : Int) + (y.toNat : Int)) % 256 = ((x + y).toNat : Int) := by
  rw [UInt8.toNat_add]
  omega
theorem Mine.keepP {w w' : World} {v : Value} {xs : List Value} {base : Nat} {e : TypeId} (h : Mine w base e v xs) (hk : ∀ g, v.ownBlock = some g → w'.heap[g]? = w.heap[g]?) : Mine w' base e v xs := by
  refine ⟨h.1, ?_⟩
  rcases h.2 with hn | ⟨g, cap, cur, e', hb, hg, rest⟩
  · exact .inl hn
  · exact .inr ⟨g, cap, cur, e', hb, (hk g (by rw [e']; rfl)).trans hg, rest⟩
theorem pkRead_zero {l : List UInt8} (h : pkErr l = 0) : (pkRead l).sg.zero = (pkSg l).zero := by unfold pkRead; rw [if_pos h]
theorem pkRead_wide (l : List UInt8) : (pkRead l).Wide := by
  by_cases h : pkErr l = 0
  · rw [pkRead_is h]
    exact ⟨pkRH_wide l, (pkRH_wide l).1, (pkRH_wide l).2, sgRead_ports _ _⟩
  · unfold pkRead
    rw [if_neg h]
    exact Pk.none_wide
theorem rangeAt_keeps {w w' : World} {g o : Nat} {cs : List Value} (h : w.rangeAt g o cs) (hb : Below w.heap.size w w') (hg : g < w.heap.size) : w'.rangeAt g o cs := fun j u hu => (hb.cell (p := ⟨g, o + j, none⟩) hg).trans (h j u hu)
set_option maxRecDepth 100000 in
set_option maxHeartbeats 2000000 in
theorem pktSpoilt_walk (f : Fl) (flags hops : UInt8) (v1 : Value) (l : List UInt8) (a b : Nat) (w : World) (hf : f.Wide) (hv1 : Rd w w.heap.size v1 (cellsB l)) (ha : a < 65536) (hb : b < 65536) :
    Calls Try.prog 5 #[.agg (bdC f flags hops).toArray, v1, .agg #[.int .u16 (a : Int), .int .u16 (b : Int)]] w fun e w' => e = .returned (.bool true) ∧ Below w.heap.size w w' := by
  obtain ⟨X, hX⟩ : ∃ X, X = (w.alloc (.cells (bdC f flags hops).toArray 44)).alloc (.cells #[.int .u16 (a : Int), .int .u16 (b : Int)] 45) := ⟨_, rfl⟩
  have hXs : X.heap.size = w.heap.size + 1 + 1 := by rw [hX]; simp
  have hXb := Lib.hid (show Below w.heap.size w X by rw [hX]; exact up_alloc (up_alloc (Below.refl _ _) _) _)
  have at0 : X.heap[w.heap.size]? = some (.cells (bdC f flags hops).toArray 44 (0, 0)) := by
    rw [hX]; exact (heap_alloc_old _ _ (by simp)).trans (heap_alloc_last w _)
  have at1 : X.heap[w.heap.size + 1]? = some (.cells #[.int .u16 (a : Int), .int .u16 (b : Int)] 45 (0, 0)) := by
    rw [hX]
    have := heap_alloc_last (w.alloc (.cells (bdC f flags hops).toArray 44)) (.cells #[.int .u16 (a : Int), .int .u16 (b : Int)] 45)
    rwa [show (w.alloc (.cells (bdC f flags hops).toArray 44)).heap.size = w.heap.size + 1 by simp] at this
  have hX0 : Hid (∀ W, Below X.heap.size X W → (W.rangeAt w.heap.size 0 (flC f) ∧ W.cell? ⟨w.heap.size, 37, none⟩ = some (.int .u8 (flags.toNat : Int)) ∧ W.cell? ⟨w.heap.size, 38, none⟩ = some (.int .u8 (hops.toNat : Int))) ∧ W.cell? ⟨w.heap.size, 0, none⟩ = some (.bool f.src.six) ∧ W.cell? ⟨w.heap.size + 1, 0, none⟩ = some (.int .u16 (a : Int)) ∧ W.cell? ⟨w.heap.size + 1, 1, none⟩ = some (.int .u16 (b : Int))) := Lib.hid fun W hW => by
    have g0 := (hW.block _ (by omega)).trans at0
    have g1 := (hW.block _ (by omega)).trans at1
    have lf := flC_length hf
    refine ⟨⟨rangeAt_block g0 fun j u hu => ?_, ?_, ?_⟩, ?_, ?_, ?_⟩
    · rw [Nat.zero_add, bdC, List.getElem?_append_left (List.getElem?_eq_some_iff.1 hu).1]
      exact hu
    · rw [cell_of_row W _ 37 _ _ _ g0, List.getElem?_toArray, bdC, List.getElem?_append_right (by omega), lf]; rfl
    · rw [cell_of_row W _ 38 _ _ _ g0, List.getElem?_toArray, bdC, List.getElem?_append_right (by omega), lf]; rfl
    · rw [cell_of_row W _ 0 _ _ _ g0]; rfl
    · rw [cell_of_row W _ 0 _ _ _ g1]; rfl
    · rw [cell_of_row W _ 1 _ _ _ g1]; rfl
  have hvX : Rd X w.heap.size v1 (cellsB l) := hv1.below hXb.out
  have hlv := Lib.hid pkLives_any
  obtain ⟨d, hd⟩ : ∃ d, d = l.take 60 := ⟨_, rfl⟩
  have hdl : d.length ≤ 60 := by rw [hd, List.length_take]; omega
  have hfew : Hid (Calls Try.prog 6 #[v1, .int .i64 60] X fun e w' => ∃ A c, e = .returned (.slice A d.length c) ∧ Rd w' w'.heap.size (.slice A d.length c) (cellsB d) ∧ Below X.heap.size X w') := Lib.hid <| by
    refine (few_any v1 l 60 _ _ hvX (by omega) (by omega)).mono fun e w' hx => ?_
    rw [← hd] at hx
    obtain ⟨v, e1, e2, e3⟩ := hx
    obtain ⟨A, c, rfl, hr⟩ := mine_slice (w := X) e2 (n := d.length) rfl
    exact ⟨A, c, e1, hr, e3⟩
  have hfi := info_fl hf
  by_cases hM0 : pkBE f flags hops d.length = 0
  · have hM := PkMay.of (data := d) hf hM0
    obtain ⟨B0, hB0⟩ : ∃ B0, B0 = pkBytes f flags hops d := ⟨_, rfl⟩
    obtain ⟨N, hN⟩ : ∃ N, N = B0.length := ⟨_, rfl⟩
    have hN28 : 28 ≤ N ∧ N ≤ 120 := by
      rw [hN, hB0, pkBytes_length hM, hM.seg_length]
      constructor
      · split <;> split <;> omega
      · split <;> split <;> omega
    have hbd : Hid (∀ W A c, Rd W W.heap.size (.slice A d.length c) (cellsB d) → Calls Try.prog 11 #[.agg (flC f).toArray, .int .u8 (flags.toNat : Int), .int .u8 (hops.toNat : Int), .slice A d.length c] W fun e w' => ∃ g c2, e = .returned (.tuple #[.slice (some ⟨g, 0, none⟩) N c2, .int .i64 0]) ∧ W.heap.size ≤ g ∧ Mine w' W.heap.size 5 (.slice (some ⟨g, 0, none⟩) N c2) (cellsB B0) ∧ Below W.heap.size W w') := Lib.hid fun W A c hr => by
      refine (pkBuild_any f hf flags hops A c d W hr).mono ?_
      rintro e w' ⟨v, rfl, hv, hb⟩
      unfold PkBuilt at hv
      rw [if_pos hM0, ← hB0] at hv
      obtain ⟨g, c2, rfl, _, _⟩ := hv.addr (by omega)
      rw [← hN] at hv ⊢
      exact ⟨g, c2, by rw [hM0]; rfl, hv.lt.1, hv, hb⟩
    obtain ⟨k, hk⟩ : ∃ k, k = a % N := ⟨_, rfl⟩
    have hkN : k < N := by rw [hk]; exact Nat.mod_lt _ (by omega)
    have hkm : (a : Int).tmod (N : Int) = (k : Int) := by rw [Int.tmod_eq_emod_of_nonneg (by omega), hk]; rfl
    obtain ⟨x, hx⟩ : ∃ x, B0[k]? = some x := ⟨_, List.getElem?_eq_getElem (by omega)⟩
    obtain ⟨y, hyd⟩ : ∃ y, y = UInt8.ofNat b := ⟨_, rfl⟩
    have hyb2 : (y.toNat : Int) = (b : Int) % 256 := by rw [hyd]; simp
    have hcv : IntKind.u8.wrap (b : Int) = (y.toNat : Int) := by rw [IntKind.wrap_u8', hyb2]
    have hadd := pkU8_add x y
    have hcx : (cellsB B0)[k]? = some (.int .u8 (x.toNat : Int)) := by
      have hj := cellsB_at B0 k (by omega)
      rw [List.getElem?_eq_getElem (show k < B0.length by omega)] at hx
      rw [hj, Option.some.inj hx]
    obtain ⟨bs, hbs⟩ : ∃ bs, bs = B0.set k (x + y) := ⟨_, rfl⟩
    have hbl : bs.length = N := by rw [hbs, List.length_set, hN]
    obtain ⟨q1, q2⟩ := pkBack hM
    rw [← hB0] at q1 q2
    obtain ⟨P0, hP0⟩ : ∃ P0, P0 = pkRead B0 := ⟨_, rfl⟩
    obtain ⟨P2, hP2⟩ : ∃ P2, P2 = pkRead bs := ⟨_, rfl⟩
    obtain ⟨er, her⟩ : ∃ er, er = pkErr bs := ⟨_, rfl⟩
    have hw0 : P0.Wide := by rw [hP0]; exact pkRead_wide _
    have hw2 : P2.Wide := by rw [hP2]; exact pkRead_wide _
    have hE0 : y = 0 → er = 0 ∧ P2 = P0 := fun hy => by
      have e : bs = B0 := by
        rw [hbs, hy, show x + 0 = x by simp]
        apply List.ext_getElem?
        intro j
        rw [List.getElem?_set]
        split
        · rename_i hj
          subst hj
          rw [if_pos (by omega), hx]
        · rfl
      rw [her, hP2, hP0, e]
      exact ⟨q1, rfl⟩
    have hE1 : y ≠ 0 → er = 0 → (f.src.six = true ∧ (k < 4 ∨ k = 6 ∨ k = 7)) ∨ P2.sg.zero = true := fun hy he => by
      have hne : x + y ≠ x := fun e => hy (by
        have h2 : x + y = x + 0 := by rw [e]; simp
        exact UInt8.add_right_inj _ |>.1 h2)
      rw [her] at he
      rw [hP2, pkRead_zero he]
      rw [hbs] at he ⊢
      rw [hB0] at hx he ⊢
      cases h6 : f.src.six with
      | false => exact .inr (pkSpoilt4 hM h6 k x (x + y) hx hne he)
      | true =>
        by_cases hk7 : k < 4 ∨ k = 6 ∨ k = 7
        · exact .inl ⟨rfl, hk7⟩
        · exact .inr (pkSpoilt6 hM h6 k hk7 x (x + y) hx hne he)
    have hps : Hid (∀ W v, Rd W W.heap.size v (cellsB B0) → Calls Try.prog 7 #[v] W fun e w' => e = .returned (.tuple #[.agg (pkC P0).toArray, .int .i64 0]) ∧ Below W.heap.size W w') := Lib.hid fun W v hr => by
      obtain ⟨A, c, rfl, _, _, hr⟩ := hr.bytes
      have := pkParse_any hr
      rw [q1, ← hP0] at this
      exact this
    have hps2 : Hid (∀ W A c, Rd W W.heap.size (.slice A N c) (cellsB bs) → Calls Try.prog 7 #[.slice A N c] W fun e w' => e = .returned (.tuple #[.agg (pkC P2).toArray, .int .i64 (er : Int)]) ∧ Below W.heap.size W w') := Lib.hid fun W A c hr => by
      rw [← hbl] at hr ⊢
      rw [hP2, her]
      exact pkParse_any hr
    have hzp : ∀ w, (zeroValue 35).run Try.prog w = .ok (.agg (pkC Pk.none).toArray) w := zero_pk
    have hSt0 : Hid (∀ W : World, ∃ W', (storeCells ⟨W.heap.size, 0, none⟩ (pkC P0)).run Try.prog (W.alloc (.cells (pkC Pk.none).toArray 35)) = .ok () W' ∧ Below W.heap.size W W' ∧ W.heap.size < W'.heap.size ∧ PkAt W' W.heap.size P0) := Lib.hid fun W => by
      obtain ⟨W', _, hat, hgr, hsz, hsc⟩ := store_pk (w := W.alloc (.cells (pkC Pk.none).toArray 35)) (g := W.heap.size) (a := Pk.none) (b := P0) (heap_alloc_last W _) Pk.none_wide hw0
      exact ⟨W', hsc, grown_below (up_alloc (Below.refl _ _) _) hgr (Nat.le_refl _), by rw [hsz]; simp, hat⟩
    have hSt2 : Hid (∀ W : World, ∃ W', (storeCells ⟨W.heap.size, 0, none⟩ (pkC P2)).run Try.prog (W.alloc (.cells (pkC Pk.none).toArray 35)) = .ok () W' ∧ Below W.heap.size W W' ∧ W.heap.size < W'.heap.size ∧ PkAt W' W.heap.size P2) := Lib.hid fun W => by
      obtain ⟨W', _, hat, hgr, hsz, hsc⟩ := store_pk (w := W.alloc (.cells (pkC Pk.none).toArray 35)) (g := W.heap.size) (a := Pk.none) (b := P2) (heap_alloc_last W _) Pk.none_wide hw2
      exact ⟨W', hsc, grown_below (up_alloc (Below.refl _ _) _) hgr (Nat.le_refl _), by rw [hsz]; simp, hat⟩
    have hLz : Hid (∀ {W : World} {g : Nat}, PkAt W g P2 → W.rangeAt g 0 (pkC P2) ∧ W.cell? ⟨g, 43, none⟩ = some (.bool P2.sg.zero)) := Lib.hid fun h => ⟨row_range h, pkC_zero hw2 h⟩
    have hL0 : Hid (∀ {W : World} {g : Nat}, PkAt W g P0 → W.rangeAt g 0 (pkC P0)) := Lib.hid fun h => row_range h
    have hKs : Hid (∀ W B g c, Mine W B 5 (.slice (some ⟨g, 0, none⟩) N c) (cellsB B0) → (W.cell? ⟨g, k, none⟩ = some (.int .u8 (x.toNat : Int)) ∧ W.frozen? ⟨g, k, none⟩ = false) ∧ Rd (W.setCell ⟨g, k, none⟩ (.int .u8 (((x.toNat : Int) + (y.toNat : Int)) % 256))).drew (W.setCell ⟨g, k, none⟩ (.int .u8 (((x.toNat : Int) + (y.toNat : Int)) % 256))).drew.heap.size (.slice (some ⟨g, 0, none⟩) N c) (cellsB bs)) := Lib.hid fun W B g c hv => by
      have h3 := (hv.stored k (.int .u8 ((x + y).toNat : Int))).drew
      rw [cellsB_set, ← hbs] at h3
      rw [hadd]
      exact ⟨⟨hv.cellAt hcx, hv.free k⟩, h3.rd⟩
    have hpi0 := info_pk hw0
    have hpi2 := info_pk hw2
    have hpl0 := pkC_length hw0
    have hpl2 := pkC_length hw2
    have heq : P2 = P0 → ∀ W, (binOp .eql 35 (.agg (pkC P2).toArray) (.agg (pkC P0).toArray)).run Try.prog W = .ok (.bool true) W := fun h W => by
      have := eql_pk P2 P0 hw2 hw0 W
      rwa [decide_eq_true h] at this
    have k1 : (k : Int) < (N : Int) := by omega
    have k2 : (0 : Int) ≤ (k : Int) := by omega
    have k3 : (k : Int).toNat = k := rfl
    have hN0 : ((N : Int) == 0) = false := beq_zero (by omega)
    have hN28' : ¬ (N : Int) < 28 := by omega
    have hkw : Hid (wrap64 (a : Int) = (a : Int)) := Lib.hid (IntWalk.wrap64_in _ (by omega))
    have hB0s := Lib.hid (show B0.length ≤ 120 by omega)
    obtain ⟨i, hi8, hz0, hz1, hz2⟩ := info_parts info_u8
    clear hx hcx hbs hbl hN hk hadd hM q1 q2 hP0 hP2 her hw0 hw2 hB0 hM0 at0 at1 hvX hd hdl hv1 ha hb hf hyd hyb2
    obtain ⟨zb, hzb⟩ : ∃ zb, zb = P2.sg.zero := ⟨_, rfl⟩
    rw [← hzb] at hE1 hLz
    have hsix : Hid (f.src.six = f.src.six) := Lib.hid rfl
    generalize hs6 : f.src.six = six at *
    clear hs6 hsix hzb
    have hPk0 := Lib.hid (fun (W : World) (g : Nat) (h : PkAt W g P0) (W' : World) (e : W'.heap[g]? = W.heap[g]?) => hL0.out (show PkAt W' g P0 from e.trans h))
    generalize hPC0 : pkC P0 = PC0 at *
    generalize hPC2 : pkC P2 = PC2 at *
    generalize pkC Pk.none = ZP at *
    generalize flC f = FC at *
    generalize d.length = m at *
    clear hPC0 hPC2
    by_cases hy : y = 0
    · have hyb : ((y.toNat : Int) == 0) = true := by rw [hy]; rfl
      obtain ⟨he0, hPP⟩ := hE0 hy
      have heq' := heq hPP
      subst he0
      clear hE0 hE1 heq hPP hy hkN hN28
      subst hX
      rw [hXs] at *
      clear hXs
      replace hkw := hkw.out
      go_enter Try.func5, Try.ntmps5
      go_wp2_with (first
        | (go_at_call 6; refine hfew.out.mono ?_; rintro _ w1 ⟨A1, c1, rfl, hr1, hb1⟩; obtain ⟨⟨hF1, h37, h38⟩, _⟩ := hX0.out _ hb1; have HR1 := Lib.hid hr1; have HB1 := Lib.hid hb1; clear hr1 hb1)
        | ((with_reducible refine wpList_load_mid_g (op := ⟨some 19, .load 33 (.tmp 18), _, _, _, _⟩) (by kernel_rfl) 33 (.tmp 18) rfl w.heap.size 0 ?_ FC _ hF1 Try.underlying33 rfl hfi ?_); exact rfl)
        | (go_at_call 11; refine (hbd.out _ _ _ HR1.out).mono ?_; rintro _ w2 ⟨g, c2, rfl, hg, hv2, hb2⟩; have HV2 := Lib.hid hv2; have HG := Lib.hid hg; have HB2 := Lib.hid (HB1.out.trans (hb2.mono (by have := HB1.out.size; simp at this ⊢; omega))); have HG2 := Lib.hid hv2.lt.2; have HM := Mine.empty w2 w2.heap.size 5 (Nat.le_refl _); clear hv2 hg hb2 hF1 h37 h38)
        | (at_builtin; refine wpList_append_rd rfl (.tmp 35) (.tmp 36) 22 rfl w2.heap.size 5 i _ 1 Try.underlying22 hi8 hz0 hz1 hz2 rfl _ [] rfl HM _ _ (cellsB B0) rfl (HV2.out.rd.alloc (Nat.le_refl _) _) (cellsB_one _) (by have := hB0s.out; rw [cellsB_length]; simp; omega) (by have := hB0s.out; rw [cellsB_length]; unfold maxLen; simp; omega) (by simp) ?_; intro v3 w3 hown3 hb3 _ _; have HB3 := Lib.hid ((up_alloc (Below.refl w2.heap.size w2) (.cells #[] 5)).trans hb3); have HR3 := Lib.hid hown3.rd; clear hown3 hb3 HM)
        | (go_at_call 7; refine (hps.out _ _ HR3.out).mono ?_; rintro _ w4 ⟨rfl, hb4⟩; obtain ⟨w5, hst5, hb5, hlt5, hat5⟩ := hSt0.out w4; have HB5 := Lib.hid (up (up HB3.out hb4) hb5); have HL4 := Lib.hid (show w2.heap.size ≤ w4.heap.size by have := (up HB3.out hb4).size; omega); have HA5 := Lib.hid hat5; have HT5 := Lib.hid hlt5; obtain ⟨_, _, h50, _⟩ := hX0.out _ (HB2.out.trans (HB5.out.mono (by have := HB2.out.size; simp at this ⊢; omega))); clear hb4 hb5 hlt5 hat5)
        | (with_reducible refine wpList_alloc_zero (o := ⟨some 9, .alloc 35, _, _, _, _⟩) rfl 35 rfl ZP.toArray hzp ?_))
      clear hst5 h50
      have HV5 := Lib.hid (HV2.out.keepP (w' := w5) fun j hj => by
        have e : g = j := by simpa [Value.ownBlock] using hj
        exact HB5.out.block _ (by rw [← e]; exact HG2.out))
      obtain ⟨⟨kc, kf⟩, kr⟩ := hKs.out w5 _ g c2 HV5.out
      have HR6 := Lib.hid kr
      have hB5X := Lib.hid (HB2.out.trans (HB5.out.mono (by have := HB2.out.size; simp at this ⊢; omega)))
      have kcd : w5.drew.cell? ⟨g, k, none⟩ = some (.int .u8 (x.toNat : Int)) := kc
      have kfd : w5.drew.frozen? ⟨g, k, none⟩ = false := kf
      have c1d : w5.drew.cell? ⟨w.heap.size + 1, 1, none⟩ = some (.int .u16 (b : Int)) := (hX0.out _ hB5X.out).2.2.2
      have hB6X := Lib.hid (show Below (w.heap.size + 1 + 1) _ (w5.setCell ⟨g, k, none⟩ (.int .u8 (((x.toNat : Int) + (y.toNat : Int)) % 256))).drew from (hB5X.out.setCell (p := ⟨g, k, none⟩) (Nat.le_trans (by have := HB1.out.size; simp at this ⊢; omega) HG.out) _).drew)
      have c6d := (hX0.out _ hB6X.out).2.2.2
      have HPk6 := Lib.hid (hPk0.out w5 w4.heap.size HA5.out ((w5.setCell ⟨g, k, none⟩ (.int .u8 (((x.toNat : Int) + (y.toNat : Int)) % 256))).drew) (heap_setCell_other w5 ⟨g, k, none⟩ w4.heap.size _ (fun e => by have h1 := HG2.out; have h2 := HL4.out; have e' : w4.heap.size = g := e; omega)))
      have HT6 : Hid (w4.heap.size < (w5.setCell ⟨g, k, none⟩ (.int .u8 (((x.toNat : Int) + (y.toNat : Int)) % 256))).drew.heap.size) := Lib.hid (by simpa using HT5.out)
      clear kr kc kf HV2 HV5 HA5
      refine wp_region_held_drew (S := fun w' => w'.cell? ⟨w.heap.size + 1, 1, none⟩ = some (.int .u16 (b : Int))) (by kernel_rfl) c1d (fun hHeld => ?_)
      refine th 0 ?_
      go_frame
      refine th 1 ?_
      go_frame
      refine th 2 ?_
      go_frame
      refine th 3 ?_
      go_frame
      refine th 4 ?_
      go_frame
      refine th 6 ?_
      go_frame
      refine th 7 ?_
      go_frame
      refine th 8 (v := .int .u8 (y.toNat : Int)) ?_ (hy := fun wy hSw => by (go_simp <;> with_reducible rfl))
      go_frame
      refine wpAnyH_ready (rs := [5]) (by kernel_rfl) (by simp) (AllReadyH.cons (o := ⟨some 52, .load 5 (.tmp 51), _, _, _, none⟩) rfl (fun K hK => ?_) AllReadyH.nil)
      rw [if_pos (by kernel_rfl)]
      go_simp
      refine hK.out _ _ (c1d) (fun _ => ?_)
      clear hK K
      try go_frame
      refine th 9 ?_
      go_frame
      refine th 10 ?_
      go_frame
      refine wpAnyH_ready (rs := [11]) (by kernel_rfl) (by simp) (AllReadyH.cons (o := ⟨none, .store 5 (.tmp 57) (.tmp 56), _, _, _, none⟩) rfl (fun K hK => ?_) AllReadyH.nil)
      rw [if_pos (by kernel_rfl)]
      go_simp
      refine hK.out _ _ (c6d) (fun _ => ?_)
      clear hK K
      try go_frame
      refine wpAnyH_done (by kernel_rfl) ?_ _
      rw [IntKind.wrap_u8']
      generalize (w5.setCell ⟨g, k, none⟩ (.int .u8 (((x.toNat : Int) + (y.toNat : Int)) % 256))).drew = w6 at *
      have hr5' := Lib.hid (fun (W : World) (hW : Below w6.heap.size w6 W) => (rangeAt_keeps HPk6.out hW HT6.out))
      go_wp2_with (first
        | (go_at_call 7; refine (hps2.out _ _ _ HR6.out).mono ?_; rintro _ w7 ⟨rfl, hb7⟩; obtain ⟨w8, hst8, hb8, hlt8, hat8⟩ := hSt2.out w7; have HB8 := Lib.hid (up hb7 hb8); obtain ⟨hr8, hz8⟩ := hLz.out hat8; have hr5 := hr5'.out _ (up hb7 hb8); obtain ⟨_, h80, _, h81⟩ := hX0.out _ (hB6X.out.trans ((up hb7 hb8).mono (by have := hB6X.out.size; simp at this ⊢; omega))); have HB8X := Lib.hid (hXb.out.trans ((hB6X.out.trans ((up hb7 hb8).mono (by have := hB6X.out.size; simp at this ⊢; omega))).mono (by omega))); clear hb7 hb8 hlt8 hat8)
        | (with_reducible refine wpList_alloc_zero (o := ⟨some 12, .alloc 35, _, _, _, _⟩) rfl 35 rfl ZP.toArray hzp ?_)
        | ((with_reducible refine wpList_load_mid_g (op := ⟨some 74, .load 35 (.tmp 12), _, _, _, _⟩) (by kernel_rfl) 35 (.tmp 12) rfl w7.heap.size 0 ?_ PC2 _ hr8 Try.underlying35 rfl hpi2 ?_); exact rfl)
        | ((with_reducible refine wpList_load_mid_g (op := ⟨some 75, .load 35 (.tmp 9), _, _, _, _⟩) (by kernel_rfl) 35 (.tmp 9) rfl w4.heap.size 0 ?_ PC0 _ hr5 Try.underlying35 rfl hpi0 ?_); exact rfl)
        | (go_at_call 9; refine (hlv.out _).mono ?_; rintro _ w9 ⟨rfl, hb9⟩))
      go_ret
      exact ⟨rfl, up HB8X.out hb9⟩
    · have hyb : ((y.toNat : Int) == 0) = false := beq_zero (fun e => hy (UInt8.toNat_inj.1 e))
      have hE1' := Lib.hid (hE1 hy)
      clear hE0 hE1 heq hy hkN hN28
      subst hX
      rw [hXs] at *
      clear hXs
      replace hkw := hkw.out
      go_enter Try.func5, Try.ntmps5
      go_wp2_with (first
        | (go_at_call 6; refine hfew.out.mono ?_; rintro _ w1 ⟨A1, c1, rfl, hr1, hb1⟩; obtain ⟨⟨hF1, h37, h38⟩, _⟩ := hX0.out _ hb1; have HR1 := Lib.hid hr1; have HB1 := Lib.hid hb1; clear hr1 hb1)
        | ((with_reducible refine wpList_load_mid_g (op := ⟨some 19, .load 33 (.tmp 18), _, _, _, _⟩) (by kernel_rfl) 33 (.tmp 18) rfl w.heap.size 0 ?_ FC _ hF1 Try.underlying33 rfl hfi ?_); exact rfl)
        | (go_at_call 11; refine (hbd.out _ _ _ HR1.out).mono ?_; rintro _ w2 ⟨g, c2, rfl, hg, hv2, hb2⟩; have HV2 := Lib.hid hv2; have HG := Lib.hid hg; have HB2 := Lib.hid (HB1.out.trans (hb2.mono (by have := HB1.out.size; simp at this ⊢; omega))); have HG2 := Lib.hid hv2.lt.2; have HM := Mine.empty w2 w2.heap.size 5 (Nat.le_refl _); clear hv2 hg hb2 hF1 h37 h38)
        | (at_builtin; refine wpList_append_rd rfl (.tmp 35) (.tmp 36) 22 rfl w2.heap.size 5 i _ 1 Try.underlying22 hi8 hz0 hz1 hz2 rfl _ [] rfl HM _ _ (cellsB B0) rfl (HV2.out.rd.alloc (Nat.le_refl _) _) (cellsB_one _) (by have := hB0s.out; rw [cellsB_length]; simp; omega) (by have := hB0s.out; rw [cellsB_length]; unfold maxLen; simp; omega) (by simp) ?_; intro v3 w3 hown3 hb3 _ _; have HB3 := Lib.hid ((up_alloc (Below.refl w2.heap.size w2) (.cells #[] 5)).trans hb3); have HR3 := Lib.hid hown3.rd; clear hown3 hb3 HM)
        | (go_at_call 7; refine (hps.out _ _ HR3.out).mono ?_; rintro _ w4 ⟨rfl, hb4⟩; obtain ⟨w5, hst5, hb5, hlt5, hat5⟩ := hSt0.out w4; have HB5 := Lib.hid (up (up HB3.out hb4) hb5); have HL4 := Lib.hid (show w2.heap.size ≤ w4.heap.size by have := (up HB3.out hb4).size; omega); have HA5 := Lib.hid hat5; have HT5 := Lib.hid hlt5; obtain ⟨_, _, h50, _⟩ := hX0.out _ (HB2.out.trans (HB5.out.mono (by have := HB2.out.size; simp at this ⊢; omega))); clear hb4 hb5 hlt5 hat5)
        | (with_reducible refine wpList_alloc_zero (o := ⟨some 9, .alloc 35, _, _, _, _⟩) rfl 35 rfl ZP.toArray hzp ?_))
      clear hst5 h50
      have HV5 := Lib.hid (HV2.out.keepP (w' := w5) fun j hj => by
        have e : g = j := by simpa [Value.ownBlock] using hj
        exact HB5.out.block _ (by rw [← e]; exact HG2.out))
      obtain ⟨⟨kc, kf⟩, kr⟩ := hKs.out w5 _ g c2 HV5.out
      have HR6 := Lib.hid kr
      have hB5X := Lib.hid (HB2.out.trans (HB5.out.mono (by have := HB2.out.size; simp at this ⊢; omega)))
      have kcd : w5.drew.cell? ⟨g, k, none⟩ = some (.int .u8 (x.toNat : Int)) := kc
      have kfd : w5.drew.frozen? ⟨g, k, none⟩ = false := kf
      have c1d : w5.drew.cell? ⟨w.heap.size + 1, 1, none⟩ = some (.int .u16 (b : Int)) := (hX0.out _ hB5X.out).2.2.2
      have hB6X := Lib.hid (show Below (w.heap.size + 1 + 1) _ (w5.setCell ⟨g, k, none⟩ (.int .u8 (((x.toNat : Int) + (y.toNat : Int)) % 256))).drew from (hB5X.out.setCell (p := ⟨g, k, none⟩) (Nat.le_trans (by have := HB1.out.size; simp at this ⊢; omega) HG.out) _).drew)
      have c6d := (hX0.out _ hB6X.out).2.2.2
      have HPk6 := Lib.hid (hPk0.out w5 w4.heap.size HA5.out ((w5.setCell ⟨g, k, none⟩ (.int .u8 (((x.toNat : Int) + (y.toNat : Int)) % 256))).drew) (heap_setCell_other w5 ⟨g, k, none⟩ w4.heap.size _ (fun e => by have h1 := HG2.out; have h2 := HL4.out; have e' : w4.heap.size = g := e; omega)))
      have HT6 : Hid (w4.heap.size < (w5.setCell ⟨g, k, none⟩ (.int .u8 (((x.toNat : Int) + (y.toNat : Int)) % 256))).drew.heap.size) := Lib.hid (by simpa using HT5.out)
      clear kr kc kf HV2 HV5 HA5
      refine wp_region_held_drew (S := fun w' => w'.cell? ⟨w.heap.size + 1, 1, none⟩ = some (.int .u16 (b : Int))) (by kernel_rfl) c1d (fun hHeld => ?_)
      refine th 0 ?_
      go_frame
      refine th 1 ?_
      go_frame
      refine th 2 ?_
      go_frame
      refine th 3 ?_
      go_frame
      refine th 4 ?_
      go_frame
      refine th 6 ?_
      go_frame
      refine th 7 ?_
      go_frame
      refine th 8 (v := .int .u8 (y.toNat : Int)) ?_ (hy := fun wy hSw => by (go_simp <;> with_reducible rfl))
      go_frame
      refine wpAnyH_ready (rs := [5]) (by kernel_rfl) (by simp) (AllReadyH.cons (o := ⟨some 52, .load 5 (.tmp 51), _, _, _, none⟩) rfl (fun K hK => ?_) AllReadyH.nil)
      rw [if_pos (by kernel_rfl)]
      go_simp
      refine hK.out _ _ (c1d) (fun _ => ?_)
      clear hK K
      try go_frame
      refine th 9 ?_
      go_frame
      refine th 10 ?_
      go_frame
      refine wpAnyH_ready (rs := [11]) (by kernel_rfl) (by simp) (AllReadyH.cons (o := ⟨none, .store 5 (.tmp 57) (.tmp 56), _, _, _, none⟩) rfl (fun K hK => ?_) AllReadyH.nil)
      rw [if_pos (by kernel_rfl)]
      go_simp
      refine hK.out _ _ (c6d) (fun _ => ?_)
      clear hK K
      try go_frame
      refine wpAnyH_done (by kernel_rfl) ?_ _
      rw [IntKind.wrap_u8']
      generalize (w5.setCell ⟨g, k, none⟩ (.int .u8 (((x.toNat : Int) + (y.toNat : Int)) % 256))).drew = w6 at *
      obtain ⟨e0, he0⟩ : ∃ e0 : Bool, e0 = decide (er = 0) := ⟨_, rfl⟩
      cases e0 with
      | false =>
        have hne := bne_zero (of_decide_eq_false he0.symm)
        clear hE1' he0
        cases six with
        | false =>
          go_wp2_with (first
            | (go_at_call 7; refine (hps2.out _ _ _ HR6.out).mono ?_; rintro _ w7 ⟨rfl, hb7⟩; obtain ⟨w8, hst8, hb8, hlt8, hat8⟩ := hSt2.out w7; have HB8 := Lib.hid (up hb7 hb8); obtain ⟨hr8, hz8⟩ := hLz.out hat8; skip; obtain ⟨_, h80, _, h81⟩ := hX0.out _ (hB6X.out.trans ((up hb7 hb8).mono (by have := hB6X.out.size; simp at this ⊢; omega))); have HB8X := Lib.hid (hXb.out.trans ((hB6X.out.trans ((up hb7 hb8).mono (by have := hB6X.out.size; simp at this ⊢; omega))).mono (by omega))); clear hb7 hb8 hlt8 hat8)
            | (with_reducible refine wpList_alloc_zero (o := ⟨some 12, .alloc 35, _, _, _, _⟩) rfl 35 rfl ZP.toArray hzp ?_)
            | (go_at_call 9; refine (hlv.out _).mono ?_; rintro _ w9 ⟨rfl, hb9⟩))
          go_ret
          exact ⟨rfl, up HB8X.out hb9⟩
        | true =>
          by_cases q4 : k < 4
          · have q4i : (k : Int) < 4 := by omega
            clear q4
            go_wp2_with (first
              | (go_at_call 7; refine (hps2.out _ _ _ HR6.out).mono ?_; rintro _ w7 ⟨rfl, hb7⟩; obtain ⟨w8, hst8, hb8, hlt8, hat8⟩ := hSt2.out w7; have HB8 := Lib.hid (up hb7 hb8); obtain ⟨hr8, hz8⟩ := hLz.out hat8; skip; obtain ⟨_, h80, _, h81⟩ := hX0.out _ (hB6X.out.trans ((up hb7 hb8).mono (by have := hB6X.out.size; simp at this ⊢; omega))); have HB8X := Lib.hid (hXb.out.trans ((hB6X.out.trans ((up hb7 hb8).mono (by have := hB6X.out.size; simp at this ⊢; omega))).mono (by omega))); clear hb7 hb8 hlt8 hat8)
              | (with_reducible refine wpList_alloc_zero (o := ⟨some 12, .alloc 35, _, _, _, _⟩) rfl 35 rfl ZP.toArray hzp ?_)
              | (go_at_call 9; refine (hlv.out _).mono ?_; rintro _ w9 ⟨rfl, hb9⟩))
            go_ret
            exact ⟨rfl, up HB8X.out hb9⟩
          · have q4i : ¬ (k : Int) < 4 := by omega
            by_cases q6 : k = 6
            · have q6i : ((k : Int) == 6) = true := by rw [q6]; rfl
              clear q4 q6
              go_wp2_with (first
                | (go_at_call 7; refine (hps2.out _ _ _ HR6.out).mono ?_; rintro _ w7 ⟨rfl, hb7⟩; obtain ⟨w8, hst8, hb8, hlt8, hat8⟩ := hSt2.out w7; have HB8 := Lib.hid (up hb7 hb8); obtain ⟨hr8, hz8⟩ := hLz.out hat8; skip; obtain ⟨_, h80, _, h81⟩ := hX0.out _ (hB6X.out.trans ((up hb7 hb8).mono (by have := hB6X.out.size; simp at this ⊢; omega))); have HB8X := Lib.hid (hXb.out.trans ((hB6X.out.trans ((up hb7 hb8).mono (by have := hB6X.out.size; simp at this ⊢; omega))).mono (by omega))); clear hb7 hb8 hlt8 hat8)
                | (with_reducible refine wpList_alloc_zero (o := ⟨some 12, .alloc 35, _, _, _, _⟩) rfl 35 rfl ZP.toArray hzp ?_)
                | (go_at_call 9; refine (hlv.out _).mono ?_; rintro _ w9 ⟨rfl, hb9⟩))
              go_ret
              exact ⟨rfl, up HB8X.out hb9⟩
            · have q6i : ((k : Int) == 6) = false := beq_false_of_ne (by omega)
              by_cases q7 : k = 7
              · have q7i : ((k : Int) == 7) = true := by rw [q7]; rfl
                clear q4 q6 q7
                go_wp2_with (first
                  | (go_at_call 7; refine (hps2.out _ _ _ HR6.out).mono ?_; rintro _ w7 ⟨rfl, hb7⟩; obtain ⟨w8, hst8, hb8, hlt8, hat8⟩ := hSt2.out w7; have HB8 := Lib.hid (up hb7 hb8); obtain ⟨hr8, hz8⟩ := hLz.out hat8; skip; obtain ⟨_, h80, _, h81⟩ := hX0.out _ (hB6X.out.trans ((up hb7 hb8).mono (by have := hB6X.out.size; simp at this ⊢; omega))); have HB8X := Lib.hid (hXb.out.trans ((hB6X.out.trans ((up hb7 hb8).mono (by have := hB6X.out.size; simp at this ⊢; omega))).mono (by omega))); clear hb7 hb8 hlt8 hat8)
                  | (with_reducible refine wpList_alloc_zero (o := ⟨some 12, .alloc 35, _, _, _, _⟩) rfl 35 rfl ZP.toArray hzp ?_)
                  | (go_at_call 9; refine (hlv.out _).mono ?_; rintro _ w9 ⟨rfl, hb9⟩))
                go_ret
                exact ⟨rfl, up HB8X.out hb9⟩
              · have q7i : ((k : Int) == 7) = false := beq_false_of_ne (by omega)
                clear q4 q6 q7
                go_wp2_with (first
                  | (go_at_call 7; refine (hps2.out _ _ _ HR6.out).mono ?_; rintro _ w7 ⟨rfl, hb7⟩; obtain ⟨w8, hst8, hb8, hlt8, hat8⟩ := hSt2.out w7; have HB8 := Lib.hid (up hb7 hb8); obtain ⟨hr8, hz8⟩ := hLz.out hat8; skip; obtain ⟨_, h80, _, h81⟩ := hX0.out _ (hB6X.out.trans ((up hb7 hb8).mono (by have := hB6X.out.size; simp at this ⊢; omega))); have HB8X := Lib.hid (hXb.out.trans ((hB6X.out.trans ((up hb7 hb8).mono (by have := hB6X.out.size; simp at this ⊢; omega))).mono (by omega))); clear hb7 hb8 hlt8 hat8)
                  | (with_reducible refine wpList_alloc_zero (o := ⟨some 12, .alloc 35, _, _, _, _⟩) rfl 35 rfl ZP.toArray hzp ?_)
                  | (go_at_call 9; refine (hlv.out _).mono ?_; rintro _ w9 ⟨rfl, hb9⟩))
                go_ret
                exact ⟨rfl, up HB8X.out hb9⟩
      | true =>
        have he1 : er = 0 := of_decide_eq_true he0.symm
        have hF := hE1'.out he1
        subst he1
        clear hE1' he0
        cases six with
        | false =>
          have hz : zb = true := by simpa using hF
          subst hz
          clear hF
          go_wp2_with (first
            | (go_at_call 7; refine (hps2.out _ _ _ HR6.out).mono ?_; rintro _ w7 ⟨rfl, hb7⟩; obtain ⟨w8, hst8, hb8, hlt8, hat8⟩ := hSt2.out w7; have HB8 := Lib.hid (up hb7 hb8); obtain ⟨hr8, hz8⟩ := hLz.out hat8; skip; obtain ⟨_, h80, _, h81⟩ := hX0.out _ (hB6X.out.trans ((up hb7 hb8).mono (by have := hB6X.out.size; simp at this ⊢; omega))); have HB8X := Lib.hid (hXb.out.trans ((hB6X.out.trans ((up hb7 hb8).mono (by have := hB6X.out.size; simp at this ⊢; omega))).mono (by omega))); clear hb7 hb8 hlt8 hat8)
            | (with_reducible refine wpList_alloc_zero (o := ⟨some 12, .alloc 35, _, _, _, _⟩) rfl 35 rfl ZP.toArray hzp ?_)
            | (go_at_call 9; refine (hlv.out _).mono ?_; rintro _ w9 ⟨rfl, hb9⟩))
          go_ret
          exact ⟨rfl, up HB8X.out hb9⟩
        | true =>
          by_cases q4 : k < 4
          · have q4i : (k : Int) < 4 := by omega
            clear hF
            clear q4
            go_wp2_with (first
              | (go_at_call 7; refine (hps2.out _ _ _ HR6.out).mono ?_; rintro _ w7 ⟨rfl, hb7⟩; obtain ⟨w8, hst8, hb8, hlt8, hat8⟩ := hSt2.out w7; have HB8 := Lib.hid (up hb7 hb8); obtain ⟨hr8, hz8⟩ := hLz.out hat8; skip; obtain ⟨_, h80, _, h81⟩ := hX0.out _ (hB6X.out.trans ((up hb7 hb8).mono (by have := hB6X.out.size; simp at this ⊢; omega))); have HB8X := Lib.hid (hXb.out.trans ((hB6X.out.trans ((up hb7 hb8).mono (by have := hB6X.out.size; simp at this ⊢; omega))).mono (by omega))); clear hb7 hb8 hlt8 hat8)
              | (with_reducible refine wpList_alloc_zero (o := ⟨some 12, .alloc 35, _, _, _, _⟩) rfl 35 rfl ZP.toArray hzp ?_)
              | (go_at_call 9; refine (hlv.out _).mono ?_; rintro _ w9 ⟨rfl, hb9⟩))
            go_ret
            exact ⟨rfl, up HB8X.out hb9⟩
          · have q4i : ¬ (k : Int) < 4 := by omega
            by_cases q6 : k = 6
            · have q6i : ((k : Int) == 6) = true := by rw [q6]; rfl
              clear hF
              clear q4 q6
              go_wp2_with (first
                | (go_at_call 7; refine (hps2.out _ _ _ HR6.out).mono ?_; rintro _ w7 ⟨rfl, hb7⟩; obtain ⟨w8, hst8, hb8, hlt8, hat8⟩ := hSt2.out w7; have HB8 := Lib.hid (up hb7 hb8); obtain ⟨hr8, hz8⟩ := hLz.out hat8; skip; obtain ⟨_, h80, _, h81⟩ := hX0.out _ (hB6X.out.trans ((up hb7 hb8).mono (by have := hB6X.out.size; simp at this ⊢; omega))); have HB8X := Lib.hid (hXb.out.trans ((hB6X.out.trans ((up hb7 hb8).mono (by have := hB6X.out.size; simp at this ⊢; omega))).mono (by omega))); clear hb7 hb8 hlt8 hat8)
                | (with_reducible refine wpList_alloc_zero (o := ⟨some 12, .alloc 35, _, _, _, _⟩) rfl 35 rfl ZP.toArray hzp ?_)
                | (go_at_call 9; refine (hlv.out _).mono ?_; rintro _ w9 ⟨rfl, hb9⟩))
              go_ret
              exact ⟨rfl, up HB8X.out hb9⟩
            · have q6i : ((k : Int) == 6) = false := beq_false_of_ne (by omega)
              by_cases q7 : k = 7
              · have q7i : ((k : Int) == 7) = true := by rw [q7]; rfl
                clear hF
                clear q4 q6 q7
                go_wp2_with (first
                  | (go_at_call 7; refine (hps2.out _ _ _ HR6.out).mono ?_; rintro _ w7 ⟨rfl, hb7⟩; obtain ⟨w8, hst8, hb8, hlt8, hat8⟩ := hSt2.out w7; have HB8 := Lib.hid (up hb7 hb8); obtain ⟨hr8, hz8⟩ := hLz.out hat8; skip; obtain ⟨_, h80, _, h81⟩ := hX0.out _ (hB6X.out.trans ((up hb7 hb8).mono (by have := hB6X.out.size; simp at this ⊢; omega))); have HB8X := Lib.hid (hXb.out.trans ((hB6X.out.trans ((up hb7 hb8).mono (by have := hB6X.out.size; simp at this ⊢; omega))).mono (by omega))); clear hb7 hb8 hlt8 hat8)
                  | (with_reducible refine wpList_alloc_zero (o := ⟨some 12, .alloc 35, _, _, _, _⟩) rfl 35 rfl ZP.toArray hzp ?_)
                  | (go_at_call 9; refine (hlv.out _).mono ?_; rintro _ w9 ⟨rfl, hb9⟩))
                go_ret
                exact ⟨rfl, up HB8X.out hb9⟩
              · have q7i : ((k : Int) == 7) = false := beq_false_of_ne (by omega)
                have hz : zb = true := by
                  rcases hF with h | h
                  · omega
                  · exact h
                subst hz
                clear hF
                clear q4 q6 q7
                go_wp2_with (first
                  | (go_at_call 7; refine (hps2.out _ _ _ HR6.out).mono ?_; rintro _ w7 ⟨rfl, hb7⟩; obtain ⟨w8, hst8, hb8, hlt8, hat8⟩ := hSt2.out w7; have HB8 := Lib.hid (up hb7 hb8); obtain ⟨hr8, hz8⟩ := hLz.out hat8; skip; obtain ⟨_, h80, _, h81⟩ := hX0.out _ (hB6X.out.trans ((up hb7 hb8).mono (by have := hB6X.out.size; simp at this ⊢; omega))); have HB8X := Lib.hid (hXb.out.trans ((hB6X.out.trans ((up hb7 hb8).mono (by have := hB6X.out.size; simp at this ⊢; omega))).mono (by omega))); clear hb7 hb8 hlt8 hat8)
                  | (with_reducible refine wpList_alloc_zero (o := ⟨some 12, .alloc 35, _, _, _, _⟩) rfl 35 rfl ZP.toArray hzp ?_)
                  | (go_at_call 9; refine (hlv.out _).mono ?_; rintro _ w9 ⟨rfl, hb9⟩))
                go_ret
                exact ⟨rfl, up HB8X.out hb9⟩
  · have hne := bne_zero hM0
    have hbd : Hid (∀ W A c, Rd W W.heap.size (.slice A d.length c) (cellsB d) → Calls Try.prog 11 #[.agg (flC f).toArray, .int .u8 (flags.toNat : Int), .int .u8 (hops.toNat : Int), .slice A d.length c] W fun e w' => ∃ v, e = .returned (.tuple #[v, .int .i64 ((pkBE f flags hops d.length : Nat) : Int)]) ∧ Below W.heap.size W w') := Lib.hid fun W A c hr =>
      (pkBuild_any f hf flags hops A c d W hr).mono fun e w' ⟨v, h1, _, h3⟩ => ⟨v, h1, h3⟩
    clear hM0 at0 at1 hvX hd hdl hv1 ha hb hf
    generalize pkBE f flags hops d.length = E at *
    generalize d.length = m at *
    generalize flC f = FC at *
    subst hX
    rw [hXs] at *
    clear hXs
    go_enter Try.func5, Try.ntmps5
    go_wp2_with (first
      | (go_at_call 6; refine hfew.out.mono ?_; rintro _ w1 ⟨A1, c1, rfl, hr1, hb1⟩; obtain ⟨⟨hF1, h37, h38⟩, _⟩ := hX0.out _ hb1; have HR1 := Lib.hid hr1; have HB1 := Lib.hid hb1; clear hr1 hb1)
      | ((with_reducible refine wpList_load_mid_g (op := ⟨some 19, .load 33 (.tmp 18), _, _, _, _⟩) (by kernel_rfl) 33 (.tmp 18) rfl w.heap.size 0 ?_ FC _ hF1 Try.underlying33 rfl hfi ?_); exact rfl)
      | (go_at_call 11; refine (hbd.out _ _ _ HR1.out).mono ?_; rintro _ w2 ⟨v, rfl, hb2⟩; have HB2 := Lib.hid (up (hXb.out.trans (HB1.out.mono (by omega))) hb2); clear hb2)
      | (go_at_call 9; refine (hlv.out _).mono ?_; rintro _ w9 ⟨rfl, hb9⟩))
    go_ret
    exact ⟨rfl, up HB2.out hb9⟩
end Go.Proofs.Ytpgibabgedokpaa
