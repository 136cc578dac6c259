/-
  send, To, From: contracts.
-/
import Derived.Test.YtejppekcniehpaaNtR
import Derived.Test.YtejppekcniehpaaPkD
namespace Go.Proofs.Ytejppekcniehpaa
open Go.RowKit
theorem ntP_out (p : Pk) (which : Nat) (to : Ad) : (ntP p which to).head = ntHd p.head which to ∧ (ntP p which to).sg = p.sg := ⟨rfl, rfl⟩
theorem pkP_wide (l : List UInt8) : (pkRead l).Wide := by
  by_cases h : pkErr l = 0
  · rw [pkRead_is h]
    exact ⟨pkRH_wide l, (pkRH_wide l).1, (pkRH_wide l).2, sgRead_ports _ _⟩
  · unfold pkRead
    rw [if_neg h]
    exact Pk.none_wide
/-- A row of one's own that has the bytes l. -/
structure NtRow (w : World) (g c : Nat) (l : List UInt8) : Prop where
  row : ∃ sp : List Value, w.heap[g]? = some (.cells (cellsB l ++ sp).toArray 5 (0, 0))
  few : l.length ≤ c ∧ c ≤ 9223372036854775807
theorem nt_mine {w : World} {B : Nat} {v : Value} {l : List UInt8} (h : Mine w B 5 v (cellsB l)) (hl : l.length ≠ 0) : ∃ g c, v = .slice (some ⟨g, 0, none⟩) l.length c ∧ B ≤ g ∧ NtRow w g c l := by
  rcases h.2 with ⟨_, hn⟩ | ⟨g, cap, cur, e, hB, hg, hnc, hcm, _, ht⟩
  · rw [cellsB_length] at hn; omega
  · rw [cellsB_length] at e hnc ht
    refine ⟨g, cap, e, hB, ⟨cur.toList.drop l.length, ?_⟩, hnc, by unfold maxLen at hcm; omega⟩
    rw [hg, ← ht, Nat.mul_one, List.take_append_drop, Array.toArray_toList]
theorem NtRow.below {w w' : World} {g c : Nat} {l : List UInt8} (h : NtRow w g c l) (hb : Below w.heap.size w w') : NtRow w' g c l := by
  obtain ⟨⟨sp, hr⟩, hf⟩ := h
  exact ⟨⟨sp, (hb.block _ (Array.getElem?_eq_some_iff.1 hr).1).trans hr⟩, hf⟩
theorem NtRow.lt {w : World} {g c : Nat} {l : List UInt8} (h : NtRow w g c l) : g < w.heap.size := by
  obtain ⟨⟨sp, hr⟩, hf⟩ := h
  exact (Array.getElem?_eq_some_iff.1 hr).1
theorem RdAll.held {w : World} {B : Nat} {v : Value} {ls : List (List UInt8)} (h : RdAll w B v ls) (hB : B ≤ w.heap.size) (o : Obj) : RdAll (w.alloc o) B v ls := h.keep fun p hp => World.cell?_alloc_lt w o p (by omega)
def pc0 : List Value := pkC Pk.none ++ [.slice none 0 0]
theorem pc0_length : pc0.length = 83 := by simp [pc0, pkC_length Pk.none_wide]
theorem zero_pc (w : World) : (zeroValue 59).run Try.prog w = .ok (.agg pc0.toArray) w := by
  rw [Try.zeroValue59]
  kernel_rfl
theorem build_pc (p : Pk) (hp : p.Wide) (g n c : Nat) (W : World) : (Instr.build 59 #[(0, .agg (pkC p).toArray), (1, .slice (some ⟨g, 0, none⟩) n c)]).run Try.prog W = .ok (.agg (pcC p g n c).toArray) W := by
  obtain ⟨⟨s0, p0, n0, ⟨s1, x1⟩, ⟨s2, x2⟩, q0, k0⟩, ⟨t1, t2, t3, t4, t5, t6⟩, ⟨⟨s3, x3⟩, ⟨s4, x4⟩, u1, u2, u3⟩⟩ := p
  obtain ⟨a1, a2, a3, a4, a5, a6, a7, a8, a9, a10, a11, a12, a13, a14, a15, a16, rfl⟩ := list16 hp.1.1
  obtain ⟨b1, b2, b3, b4, b5, b6, b7, b8, b9, b10, b11, b12, b13, b14, b15, b16, rfl⟩ := list16 hp.1.2
  obtain ⟨c1, c2, c3, c4, c5, c6, c7, c8, c9, c10, c11, c12, c13, c14, c15, c16, rfl⟩ := list16 hp.2.1
  obtain ⟨d1, d2, d3, d4, d5, d6, d7, d8, d9, d10, d11, d12, d13, d14, d15, d16, rfl⟩ := list16 hp.2.2.1
  kernel_rfl
theorem exec_bldN {ρ : Operand → Value} {o : Oper} {t : TypeId} {k k2 : Nat} {a a2 : Operand} (ho : o.op = .build t #[(k, a), (k2, a2)]) {u u2 : Value} (ha : ρ a = u) (ha2 : ρ a2 = u2) {v : Value} {P : Program} {w : World} (hrun : (Instr.build t #[(k, u), (k2, u2)]).run P w = .ok v w) : (execOp ρ o).run P w = .ok (.value v) w := by
  unfold execOp
  simp only [ho, List.map_toArray, List.map_cons, List.map_nil, ha, ha2, Sem.run_bind, hrun, Result.andThen_ok, Sem.run_pure]
set_option maxRecDepth 100000 in
set_option maxHeartbeats 1000000 in
theorem ntSend_any {A : Option Addr} {c : Nat} {l : List UInt8} {w : World} (hr : Rd w w.heap.size (.slice A l.length c) (cellsB l)) (hl : l.length ≤ 100000) {which : Nat} (hw : which = 0 ∨ which = 1) {q : Int} (hq : q = (which : Int)) {to : Ad} (tw : to.Wide) {port : Nat} (hport : port < 65536) :
    Calls Try.prog 11 #[.slice A l.length c, .int .i64 q, .agg (adC to).toArray, .int .u16 (port : Int)] w fun e w' => ∃ A' n' c', e = .returned (.tuple #[.slice A' n' c', .int .i64 ((ntErr l to port : Nat) : Int)]) ∧ Rd w' w'.heap.size (.slice A' n' c') (cellsB (ntRes l which to port)) ∧ Below w.heap.size w w' := by
  have hz : ∀ w, (zeroValue 39).run Try.prog w = .ok (.agg (pkC Pk.none).toArray) w := zero_pk
  obtain ⟨X, hX⟩ : ∃ X, X = w.alloc (.cells (adC to).toArray 25) := ⟨_, rfl⟩
  have hXs : X.heap.size = w.heap.size + 1 := by rw [hX]; simp
  have hbX : Below w.heap.size w X := by rw [hX]; exact up_alloc (Below.refl _ _) _
  have hb6 : X.heap[w.heap.size]? = some (.cells (adC to).toArray 25 (0, 0)) := by rw [hX]; exact heap_alloc_last w _
  have hrX : Rd X X.heap.size (.slice A l.length c) (cellsB l) := (hr.below hbX).more hbX.size
  have hPw := pkP_wide l
  have hi := info_adA tw
  have hpar := Lib.hid (pkParse_any hrX)
  have hst10 : Hid (∀ W, Below X.heap.size X W → ∃ W', (Instr.storeAt 39 (.pointer (some ⟨W.heap.size, 0, none⟩)) (.agg (pkC (pkRead l)).toArray)).run Try.prog (W.alloc (.cells (pkC Pk.none).toArray 39)) = .ok () W' ∧ PkAt W' W.heap.size (pkRead l) ∧ Below X.heap.size X W' ∧ X.heap.size ≤ W.heap.size ∧ W.heap.size < W'.heap.size) := Lib.hid fun W hW => by
    obtain ⟨W', h1, h2, h3, h4, _⟩ := store_pk (w := W.alloc (.cells (pkC Pk.none).toArray 39)) (g := W.heap.size) (a := Pk.none) (b := pkRead l) (heap_alloc_last W _) Pk.none_wide hPw
    exact ⟨W', h1, h2, grown_below (up_alloc hW _) h3 hW.size, hW.size, by rw [h4]; simp⟩
  have hrow6 : Hid (∀ W, Below X.heap.size X W → W.heap[w.heap.size]? = some (.cells (adC to).toArray 25 (0, 0)) ∧ W.cell? ⟨w.heap.size, 0, none⟩ = some (.bool to.six)) := Lib.hid fun W hW => by
    have h1 := (hW.block _ (by omega)).trans hb6
    exact ⟨h1, adC_six h1⟩
  have hgood : Hid (∀ W, Calls Try.prog 24 #[.agg (adC to).toArray] W fun e w' => e = .returned (.bool to.good) ∧ Below W.heap.size W w') := Lib.hid fun W => adGood_any to W tw
  have hup : Hid (∀ W, Below X.heap.size X W → Below w.heap.size w W) := Lib.hid fun W hW => up hbX hW
  have hsix : Hid (∀ {W : World} {g : Nat}, PkAt W g (pkRead l) → W.cell? ⟨g, 0, none⟩ = some (.bool (pkRead l).head.six)) := Lib.hid fun h => by
    rw [cell_of_row _ _ 0 _ _ _ h]; rfl
  have hinfo : Option.map (fun x => x.size) (Try.prog.info? 39) = some (pkC (pkRead l)).length := info_pk hPw
  by_cases hE : pkErr l = 0
  rotate_left
  · rw [ntErr_of hE, ntRes_no (by rw [ntErr_of hE]; exact hE)]
    have k2 := bne_zero hE
    generalize pkErr l = er at *
    clear hE hgood hPw hXs hbX hb6 hr hrX hl hw hq hport hinfo hi tw
    unfold pkV at *
    generalize hZZ : pkC Pk.none = Z at *
    generalize hPP : pkC (pkRead l) = PC at *
    generalize hAA : adC to = AC at *
    subst hX
    go_enter Try.func11, Try.ntmps11
    go_wp2_with (first
      | ((with_reducible refine wpList_alloc_zero (o := ⟨some 10, .alloc 39, _, _, _, _⟩) rfl 39 rfl Z.toArray hz ?_))
      | (go_at_call 23; refine hpar.out.mono ?_; rintro _ w1 ⟨rfl, hb1⟩; obtain ⟨w2, hst2, hat2, hb2, hge2, hlt2⟩ := hst10.out _ hb1; obtain ⟨hr6, c6⟩ := hrow6.out _ hb2; have c10 := hsix.out hat2; have HB2 := Lib.hid hb2; have HA2 := Lib.hid (And.intro hat2 (And.intro hge2 hlt2)); clear hat2 hb2 hge2 hlt2 hb1)
      | ((with_reducible refine wpList_stored (o := ⟨none, .store 39 (.tmp 10) (.tmp 16), _, _, _, none⟩) rfl 39 (.tmp 10) (.tmp 16) rfl (.pointer (some ⟨w1.heap.size, 0, none⟩)) (.agg PC.toArray) ?_ ?_ w2 hst2 ?_); exact rfl; exact rfl))
    go_ret2
    exact ⟨_, _, _, rfl, Rd.nil _ _, hup.out _ HB2.out⟩
  rw [hE] at hpar
  by_cases hG : to.good = true ∧ to.six = (pkRead l).head.six ∧ port ≠ 0
  rotate_left
  · rw [ntErr_one hE hG, ntRes_no (by rw [ntErr_one hE hG]; omega)]
    clear hPw hXs hbX hb6 hr hrX hl hw hq hport hinfo tw hE
    cases g1 : to.good with
    | false =>
      rw [g1] at hgood
      clear hG g1
      unfold pkV at *
      generalize hZZ : pkC Pk.none = Z at *
      generalize hPP : pkC (pkRead l) = PC at *
      generalize hAA : adC to = AC at *
      subst hX
      go_enter Try.func11, Try.ntmps11
      go_wp2_with (first
        | ((with_reducible refine wpList_alloc_zero (o := ⟨some 10, .alloc 39, _, _, _, _⟩) rfl 39 rfl Z.toArray hz ?_))
        | (go_at_call 23; refine hpar.out.mono ?_; rintro _ w1 ⟨rfl, hb1⟩; obtain ⟨w2, hst2, hat2, hb2, hge2, hlt2⟩ := hst10.out _ hb1; obtain ⟨hr6, c6⟩ := hrow6.out _ hb2; have c10 := hsix.out hat2; have HB2 := Lib.hid hb2; have HA2 := Lib.hid (And.intro hat2 (And.intro hge2 hlt2)); clear hat2 hb2 hge2 hlt2 hb1)
        | ((with_reducible refine wpList_stored (o := ⟨none, .store 39 (.tmp 10) (.tmp 16), _, _, _, none⟩) rfl 39 (.tmp 10) (.tmp 16) rfl (.pointer (some ⟨w1.heap.size, 0, none⟩)) (.agg PC.toArray) ?_ ?_ w2 hst2 ?_); exact rfl; exact rfl)
        | ((with_reducible refine wpList_load_row (o := ⟨some 21, .load 25 (.tmp 6), _, _, _, _⟩) rfl 25 (.tmp 6) rfl w.heap.size ?_ 25 AC.toArray (0, 0) _ hr6 Try.underlying25 rfl hi ?_); exact rfl)
        | (go_at_call 24; refine (hgood.out _).mono ?_; rintro _ w3 ⟨rfl, hb3⟩; replace HB2 := Lib.hid (up HB2.out hb3); obtain ⟨hr6', c6'⟩ := hrow6.out _ HB2.out; have hA3 := HA2.out.1.below hb3 HA2.out.2.2; have c10' := hsix.out hA3; replace HA2 := Lib.hid (And.intro hA3 (And.intro HA2.out.2.1 (Nat.lt_of_lt_of_le HA2.out.2.2 hb3.size))); clear hb3 hA3))
      go_ret2
      exact ⟨_, _, _, rfl, Rd.nil _ _, hup.out _ HB2.out⟩
    | true =>
      rw [g1] at hgood
      by_cases g2 : to.six = (pkRead l).head.six
      · have g3 : port = 0 := Classical.byContradiction fun h => hG ⟨g1, g2, h⟩
        subst g3
        rw [g2] at hrow6
        clear hG g1 g2
        generalize (pkRead l).head.six = z at *
        have e1 : (z == z) = true := by simp
        have e2 : (z != z) = false := by simp
        unfold pkV at *
        generalize hZZ : pkC Pk.none = Z at *
        generalize hPP : pkC (pkRead l) = PC at *
        generalize hAA : adC to = AC at *
        subst hX
        go_enter Try.func11, Try.ntmps11
        go_wp2_with (first
          | ((with_reducible refine wpList_alloc_zero (o := ⟨some 10, .alloc 39, _, _, _, _⟩) rfl 39 rfl Z.toArray hz ?_))
          | (go_at_call 23; refine hpar.out.mono ?_; rintro _ w1 ⟨rfl, hb1⟩; obtain ⟨w2, hst2, hat2, hb2, hge2, hlt2⟩ := hst10.out _ hb1; obtain ⟨hr6, c6⟩ := hrow6.out _ hb2; have c10 := hsix.out hat2; have HB2 := Lib.hid hb2; have HA2 := Lib.hid (And.intro hat2 (And.intro hge2 hlt2)); clear hat2 hb2 hge2 hlt2 hb1)
          | ((with_reducible refine wpList_stored (o := ⟨none, .store 39 (.tmp 10) (.tmp 16), _, _, _, none⟩) rfl 39 (.tmp 10) (.tmp 16) rfl (.pointer (some ⟨w1.heap.size, 0, none⟩)) (.agg PC.toArray) ?_ ?_ w2 hst2 ?_); exact rfl; exact rfl)
          | ((with_reducible refine wpList_load_row (o := ⟨some 21, .load 25 (.tmp 6), _, _, _, _⟩) rfl 25 (.tmp 6) rfl w.heap.size ?_ 25 AC.toArray (0, 0) _ hr6 Try.underlying25 rfl hi ?_); exact rfl)
          | (go_at_call 24; refine (hgood.out _).mono ?_; rintro _ w3 ⟨rfl, hb3⟩; replace HB2 := Lib.hid (up HB2.out hb3); obtain ⟨hr6', c6'⟩ := hrow6.out _ HB2.out; have hA3 := HA2.out.1.below hb3 HA2.out.2.2; have c10' := hsix.out hA3; replace HA2 := Lib.hid (And.intro hA3 (And.intro HA2.out.2.1 (Nat.lt_of_lt_of_le HA2.out.2.2 hb3.size))); clear hb3 hA3))
        go_ret2
        exact ⟨_, _, _, rfl, Rd.nil _ _, hup.out _ HB2.out⟩
      · have e1 : (to.six == (pkRead l).head.six) = false := by simpa using g2
        have e2 : (to.six != (pkRead l).head.six) = true := by simpa using g2
        clear hG g1 g2
        generalize (pkRead l).head.six = z at *
        generalize to.six = y at *
        unfold pkV at *
        generalize hZZ : pkC Pk.none = Z at *
        generalize hPP : pkC (pkRead l) = PC at *
        generalize hAA : adC to = AC at *
        subst hX
        go_enter Try.func11, Try.ntmps11
        go_wp2_with (first
          | ((with_reducible refine wpList_alloc_zero (o := ⟨some 10, .alloc 39, _, _, _, _⟩) rfl 39 rfl Z.toArray hz ?_))
          | (go_at_call 23; refine hpar.out.mono ?_; rintro _ w1 ⟨rfl, hb1⟩; obtain ⟨w2, hst2, hat2, hb2, hge2, hlt2⟩ := hst10.out _ hb1; obtain ⟨hr6, c6⟩ := hrow6.out _ hb2; have c10 := hsix.out hat2; have HB2 := Lib.hid hb2; have HA2 := Lib.hid (And.intro hat2 (And.intro hge2 hlt2)); clear hat2 hb2 hge2 hlt2 hb1)
          | ((with_reducible refine wpList_stored (o := ⟨none, .store 39 (.tmp 10) (.tmp 16), _, _, _, none⟩) rfl 39 (.tmp 10) (.tmp 16) rfl (.pointer (some ⟨w1.heap.size, 0, none⟩)) (.agg PC.toArray) ?_ ?_ w2 hst2 ?_); exact rfl; exact rfl)
          | ((with_reducible refine wpList_load_row (o := ⟨some 21, .load 25 (.tmp 6), _, _, _, _⟩) rfl 25 (.tmp 6) rfl w.heap.size ?_ 25 AC.toArray (0, 0) _ hr6 Try.underlying25 rfl hi ?_); exact rfl)
          | (go_at_call 24; refine (hgood.out _).mono ?_; rintro _ w3 ⟨rfl, hb3⟩; replace HB2 := Lib.hid (up HB2.out hb3); obtain ⟨hr6', c6'⟩ := hrow6.out _ HB2.out; have hA3 := HA2.out.1.below hb3 HA2.out.2.2; have c10' := hsix.out hA3; replace HA2 := Lib.hid (And.intro hA3 (And.intro HA2.out.2.1 (Nat.lt_of_lt_of_le HA2.out.2.2 hb3.size))); clear hb3 hA3))
        go_ret2
        exact ⟨_, _, _, rfl, Rd.nil _ _, hup.out _ HB2.out⟩
  · have hErr := ntErr_ok hE hG
    obtain ⟨g1, g2, g3⟩ := hG
    have hM := ntMay hE hw tw g2
    have hRes : ntRes l which to port = ntOut l (pkRead l) (ntPos l) (ntK l) which to port := by unfold ntRes; rw [if_pos hErr]
    rw [hErr, hRes]
    have hR : Hid (∀ W m g c, NtAt w W m g c (ntP (pkRead l) which to) (ntOut l (pkRead l) (ntPos l) (ntK l) which to port) → ∃ A' n' c', W.cell? ⟨m, 82, none⟩ = some (.slice A' n' c') ∧ Rd W W.heap.size (.slice A' n' c') (cellsB (ntOut l (pkRead l) (ntPos l) (ntK l) which to port)) ∧ Below w.heap.size w W) := Lib.hid fun W m g c h => ⟨_, _, _, h.looks.1.1, h.rd, h.below⟩
    obtain ⟨ha, _⟩ := hM.addr
    have hlow := hM.low.1
    obtain ⟨hs1, hs2, hs3, hs4⟩ := hM.sum
    obtain ⟨l1, hl1⟩ : ∃ l1, l1 = layB l (ntAt (pkRead l).head.six which) to.own := ⟨_, rfl⟩
    have ll1 : l1.length = l.length := by rw [hl1]; exact layB_length (by omega)
    obtain ⟨l2, hl2⟩ : ∃ l2, l2 = layB l1 (ntPos l + 2 * which) (be 2 port) := ⟨_, rfl⟩
    have ll2 : l2.length = l.length := by rw [hl2, layB_length (by rw [be_length, ll1]; omega), ll1]
    obtain ⟨l3, hl3⟩ : ∃ l3, l3 = ntC l2 (pkRead l).head.six (ntPos l) := ⟨_, rfl⟩
    have ll3 : l3.length = l.length := by rw [hl3, ntC_length (by omega), ll2]
    have hO : ntOut l (pkRead l) (ntPos l) (ntK l) which to port = ntD l3 (ntHd (pkRead l).head which to) (ntPos l) (ntK l) (pkRead l).sg.zero := by unfold ntOut ntB; rw [← hl1, ← hl2, ← hl3]
    rw [hO] at hR ⊢
    have c1 : Hid (∀ W m g c, NtAt w W m g c (pkRead l) l → Calls Try.prog 26 #[.pointer (some ⟨m, 0, none⟩), .int .i64 q, .agg (adC to).toArray] W fun e w' => e = .returned (.tuple #[]) ∧ NtAt w w' m g c (ntP (pkRead l) which to) l1) := Lib.hid fun W m g c h => by rw [hl1]; exact ntReaddress_any h tw hw hq hM.own (by omega) hl
    have c2 : Hid (∀ W m g c, NtAt w W m g c (ntP (pkRead l) which to) l1 → W.cell? ⟨m, 2, none⟩ = some (.int .i64 ((ntPos l : Nat) : Int)) ∧ Calls Try.prog 27 #[.pointer (some ⟨m, 0, none⟩), .int .i64 ((ntPos l + 2 * which : Nat) : Int), .int .u16 (port : Int)] W fun e w' => e = .returned (.tuple #[]) ∧ NtAt w w' m g c (ntP (pkRead l) which to) l2) := Lib.hid fun W m g c h => by
      rw [hl2]
      refine ⟨?_, ntPut_as h rfl rfl (by have := hM.which_; omega) hport⟩
      rw [h.looks.1.2.2.2, (ntP_out _ _ _).1, (ntHd_proto _ _ _).2.1, hM.at_]
    have c3 : Hid (∀ W m g c, NtAt w W m g c (ntP (pkRead l) which to) l2 → Calls Try.prog 28 #[.pointer (some ⟨m, 0, none⟩)] W fun e w' => e = .returned (.tuple #[]) ∧ NtAt w w' m g c (ntP (pkRead l) which to) l3) := Lib.hid fun W m g c h => by
      have := ntSumHead_any h (ntPos l) (by rw [(ntP_out _ _ _).1, (ntHd_proto _ _ _).2.1, hM.at_]) ⟨by omega, by omega⟩ (by omega)
      rw [(ntP_out _ _ _).1, (ntHd_proto _ _ _).2.2.1, ← hl3] at this
      exact this
    have c4' : Hid (∀ W m g c, NtAt w W m g c (ntP (pkRead l) which to) l3 → Calls Try.prog 29 #[.pointer (some ⟨m, 0, none⟩)] W fun e w' => e = .returned (.tuple #[]) ∧ NtAt w w' m g c (ntP (pkRead l) which to) (ntD l3 (ntHd (pkRead l).head which to) (ntPos l) (ntK l) (pkRead l).sg.zero)) := Lib.hid fun W m g c h => by
      have := ntSumSeg_any h (ntPos l) (ntK l) (by rw [(ntP_out _ _ _).1, (ntHd_proto _ _ _).2.1, hM.at_]) (by rw [(ntP_out _ _ _).2]; exact hs1) ⟨by omega, by omega⟩ (by omega)
      rw [(ntP_out _ _ _).1, (ntP_out _ _ _).2] at this
      exact this
    have hm1 : IntKind.i64.wrap (q * 2) = ((2 * which : Nat) : Int) := by rw [IntWalk.i64_in _ (by have := hM.which_; omega)]; omega
    have hm2 : IntKind.i64.wrap (((ntPos l : Nat) : Int) + ((2 * which : Nat) : Int)) = ((ntPos l + 2 * which : Nat) : Int) := by rw [IntWalk.i64_in _ (by have := hM.which_; omega)]; omega
    have hBy : Hid (∀ W B v, RdAll W B (.slice v 1 1) [l] → B ≤ W.heap.size → Calls Try.prog 25 #[.slice v 1 1] W fun e w' => ∃ g c, e = .returned (.slice (some ⟨g, 0, none⟩) l.length c) ∧ W.heap.size ≤ g ∧ NtRow w' g c l ∧ Below W.heap.size W w') := Lib.hid fun W B v h hB => by
      refine (bytes_any v 1 1 [l] W B h hB (by simp; omega)).mono ?_
      rintro e w' ⟨v, rfl, hv, hb⟩
      rw [show [l].flatten = l by simp] at hv
      obtain ⟨g, c, rfl, hg, hr⟩ := nt_mine hv (by omega)
      exact ⟨g, c, rfl, hg, hr, hb⟩
    have hLit : Hid (∀ W, Below X.heap.size X W → RdAll (W.alloc (.cells #[.slice A l.length c] 22)) (W.heap.size + 1) (.slice (some ⟨W.heap.size, 0, none⟩) 1 1) [l]) := Lib.hid fun W hW => RdAll.lit1 W 22 _ _ ((hrX.below hW).more hW.size)
    have hPar : Hid (∀ W, Below X.heap.size X W → ∀ m g c', W.heap[m]? = some (.cells pc0.toArray 59 (0, 0)) → NtRow W g c' l → m ≠ g → X.heap.size ≤ m → X.heap.size ≤ g → ∃ W', (Instr.storeAt 59 (.pointer (some ⟨m, 0, none⟩)) (.agg (pcC (pkRead l) g l.length c').toArray)).run Try.prog W = .ok () W' ∧ NtAt w W' m g c' (pkRead l) l ∧ W.grownBy W' (some m)) := Lib.hid fun W hW m g c' hm hg hne h1 h2 => by
      obtain ⟨W', r1, r2, r3, _⟩ := store_rows (t := 59) (n := 83) hm pc0_length (pcC_length hPw g l.length c') (pcC_one _ _ _ _) (by kernel_rfl)
      obtain ⟨⟨sp, hr⟩, hf⟩ := hg
      have hb := up hbX hW
      exact ⟨W', r1, ⟨r2, ⟨sp, (r3.block _ (Array.getElem?_eq_some_iff.1 hr).1 (fun e => hne (by cases e; rfl))).trans hr⟩, hf, hne, ⟨by omega, by omega⟩, hPw, grown_below hb r3 (by omega)⟩, r3⟩
    have hbld : ∀ (g c : Nat) (W : World), (Instr.build 59 #[(0, .agg (pkC (pkRead l)).toArray), (1, .slice (some ⟨g, 0, none⟩) l.length c)]).run Try.prog W = .ok (.agg (pcC (pkRead l) g l.length c).toArray) W := fun g c W => build_pc _ hPw g _ c W
    have hzp : ∀ w, (zeroValue 59).run Try.prog w = .ok (.agg pc0.toArray) w := zero_pc
    have hg0 : (((port : Nat) : Int) == 0) = false := beq_zero g3
    rw [g1] at hgood
    rw [g2] at hrow6
    have hXw : Hid (w.heap.size < X.heap.size) := Lib.hid (by omega)
    clear hErr hRes hM ha hlow hs1 hs2 hs3 hs4 hl1 ll1 hl2 ll2 hl3 ll3 hO hPw hXs hbX hb6 hr hrX hl hw hq hport tw hE g1 g2 g3
    generalize ntD l3 (ntHd (pkRead l).head which to) (ntPos l) (ntK l) (pkRead l).sg.zero = lo at *
    generalize ntP (pkRead l) which to = pp at *
    generalize ntPos l + 2 * which = k2 at *
    generalize 2 * which = k1 at *
    generalize ntPos l = pos at *
    generalize (pkRead l).head.six = z at *
    have e1 : (z == z) = true := by simp
    have e2 : (z != z) = false := by simp
    generalize hp0 : pc0 = P0 at *
    generalize hpR : pkRead l = pr at *
    generalize hnn : l.length = n1 at *
    clear hp0
    unfold pkV at *
    generalize hZZ : pkC Pk.none = Z at *
    generalize hPP : pkC pr = PC at *
    generalize hAA : adC to = AC at *
    subst hX
    go_enter Try.func11, Try.ntmps11
    go_wp2_with (first
      | ((with_reducible refine wpList_alloc_zero (o := ⟨some 10, .alloc 39, _, _, _, _⟩) rfl 39 rfl Z.toArray hz ?_))
      | (go_at_call 23; refine hpar.out.mono ?_; rintro _ w1 ⟨rfl, hb1⟩; obtain ⟨w2, hst2, hat2, hb2, hge2, hlt2⟩ := hst10.out _ hb1; obtain ⟨hr6, c6⟩ := hrow6.out _ hb2; have c10 := hsix.out hat2; have HB2 := Lib.hid hb2; have HA2 := Lib.hid (And.intro hat2 (And.intro hge2 hlt2)); clear hat2 hb2 hge2 hlt2 hb1)
      | ((with_reducible refine wpList_stored (o := ⟨none, .store 39 (.tmp 10) (.tmp 16), _, _, _, none⟩) rfl 39 (.tmp 10) (.tmp 16) rfl (.pointer (some ⟨w1.heap.size, 0, none⟩)) (.agg PC.toArray) ?_ ?_ w2 hst2 ?_); exact rfl; exact rfl)
      | ((with_reducible refine wpList_load_row (o := ⟨some 21, .load 25 (.tmp 6), _, _, _, _⟩) rfl 25 (.tmp 6) rfl w.heap.size ?_ 25 AC.toArray (0, 0) _ hr6 Try.underlying25 rfl hi ?_); exact rfl)
      | (go_at_call 24; refine (hgood.out _).mono ?_; rintro _ w3 ⟨rfl, hb3⟩; replace HB2 := Lib.hid (up HB2.out hb3); obtain ⟨hr6', c6'⟩ := hrow6.out _ HB2.out; have hA3 := HA2.out.1.below hb3 HA2.out.2.2; have c10' := hsix.out hA3; replace HA2 := Lib.hid (And.intro hA3 (And.intro HA2.out.2.1 (Nat.lt_of_lt_of_le HA2.out.2.2 hb3.size))); clear hb3 hA3))
    have hRow : Hid (∀ W, Below w3.heap.size w3 W → W.heap[w1.heap.size]? = some (.cells PC.toArray 39 (0, 0))) := Lib.hid fun W hW => by
      rw [← hPP]
      exact HA2.out.1.below hW HA2.out.2.2
    have hBX : Hid (∀ W, Below w3.heap.size w3 W → Below (w.alloc (.cells AC.toArray 25)).heap.size (w.alloc (.cells AC.toArray 25)) W) := Lib.hid fun W hW => up HB2.out hW
    obtain ⟨g10, hg10⟩ : ∃ g, g = w1.heap.size := ⟨_, rfl⟩
    have hX3 : Hid ((w.alloc (.cells AC.toArray 25)).heap.size ≤ w3.heap.size) := Lib.hid HB2.out.size
    rw [← hg10] at hRow ⊢
    clear hst2 c10 c10' c6 c6' hr6 hr6' hg10 hpar hst10 hsix hgood hg0 e1 e2
    have HC := Lib.hid (drew_self w3)
    refine wp_region_held_drew (S := fun w' => w'.heap[g10]? = some (.cells PC.toArray 39 (0, 0))) (by kernel_rfl) (hRow.out _ HC.out) (fun hHeld => ?_)
    refine th 0 (v := .agg PC.toArray) ?_ (hy := fun wy hSw => by exact exec_load (t := 39) (x := .tmp 10) rfl (pv := .pointer (some ⟨g10, 0, none⟩)) rfl (run_loadAt_mid wy g10 0 39 PC _ (row_range hSw) Try.underlying39 rfl hinfo))
    go_frame
    refine th 1 ?_
    go_frame
    refine wpAnyH_ready (rs := [2, 5]) (by kernel_rfl) (by simp) (AllReadyH.cons (o := ⟨some 38, .buildSlice 74 1 #[(0, .tmp 37)], _, _, _, none⟩) rfl (fun K hK => ?_) (AllReadyH.cons (o := ⟨some 12, .alloc 59, _, _, _, none⟩) rfl (fun K hK => ?_) AllReadyH.nil))
    · rw [if_pos (by kernel_rfl)]
      go_simp
      have HL := Lib.hid (hLit.out _ (hBX.out _ HC.out))
      replace HC := Lib.hid (up_alloc HC.out (.cells #[.slice A n1 c] 22))
      refine hK.out _ _ (hRow.out _ HC.out) (fun _ => ?_)
      clear hK K
      try go_frame
      refine wpAnyH_ready (rs := [3, 5]) (by kernel_rfl) (by simp) (AllReadyH.cons (o := ⟨some 39, .call { callee := .value (.func 25), args := #[.tmp 38], argTypes := #[74] }, _, _, _, none⟩) rfl (fun K hK => ?_) (AllReadyH.cons (o := ⟨some 12, .alloc 59, _, _, _, none⟩) rfl (fun K hK => ?_) AllReadyH.nil))
      · rw [if_pos (by kernel_rfl)]
        go_simp
        refine (hBy.out _ _ _ HL.out (by simp)).mono ?_
        rintro _ w4 ⟨g, c4, rfl, hg4, hr4, hb4⟩
        have HG := Lib.hid (And.intro hr4 (Nat.le_trans HC.out.size hg4))
        have HG0 := Lib.hid hr4.lt
        replace HC := Lib.hid (up HC.out hb4)
        clear hr4 hg4 hb4 HL
        dsimp only
        refine hK.out _ _ (hRow.out _ HC.out) (fun _ => ?_)
        clear hK K
        try go_frame
        refine th 4 (v := .agg (pcC pr g n1 c4).toArray) ?_ (hy := fun wy hSw => by exact exec_bldN (k := 0) (k2 := 1) (a := .tmp 36) (a2 := .tmp 39) rfl (u := .agg PC.toArray) (u2 := .slice (some ⟨g, 0, none⟩) n1 c4) rfl rfl (hbld g c4 _))
        go_frame
        refine wpAnyH_ready (rs := [5]) (by kernel_rfl) (by simp) (AllReadyH.cons (o := ⟨some 12, .alloc 59, _, _, _, none⟩) rfl (fun K hK => ?_) AllReadyH.nil)
        rw [if_pos (by kernel_rfl)]
        obtain ⟨gm, hgm⟩ : ∃ gm, gm = w4.heap.size := ⟨_, rfl⟩
        refine wp_run (.pointer (some ⟨gm, 0, none⟩)) _ (by rw [hgm]; exact exec_allocP rfl hzp _) ?_
        have HM := Lib.hid (And.intro (heap_alloc_last w4 (.cells P0.toArray 59)) HC.out.size)
        rw [← hgm] at HM
        replace HC := Lib.hid (up_alloc HC.out (.cells P0.toArray 59))
        replace HG := Lib.hid (And.intro (HG.out.1.below (up_alloc (Below.refl _ _) (.cells P0.toArray 59))) HG.out.2)
        have HNE := Lib.hid (show gm ≠ g from hgm ▸ Nat.ne_of_gt HG0.out)
        clear hgm
        refine hK.out _ _ (hRow.out _ HC.out) (fun _ => ?_)
        clear hK K
        try go_frame
        refine wpAnyH_ready (rs := [6]) (by kernel_rfl) (by simp) (AllReadyH.cons (o := ⟨none, .store 59 (.tmp 12) (.tmp 40), _, _, _, none⟩) rfl (fun K hK => ?_) AllReadyH.nil)
        rw [if_pos (by kernel_rfl)]
        obtain ⟨w5, hst5, hat5, hgr5⟩ := hPar.out _ (hBX.out _ HC.out) _ g c4 HM.out.1 HG.out.1 HNE.out (Nat.le_trans hX3.out HM.out.2) (Nat.le_trans hX3.out HG.out.2)
        refine wp_skip w5 (exec_store rfl (vx := .pointer (some ⟨_, 0, none⟩)) rfl (vy := .agg (pcC pr g n1 c4).toArray) rfl hst5) ?_
        replace HC := Lib.hid (grown_below HC.out hgr5 HM.out.2)
        have HN := Lib.hid hat5
        clear hst5 hat5 hgr5 HM HG HNE HG0
        refine hK.out _ _ (hRow.out _ HC.out) (fun _ => ?_)
        clear hK K
        try go_frame
        refine wpAnyH_done (by kernel_rfl) ?_ _
        have hr6 := (hrow6.out _ (hBX.out _ HC.out)).1
        go_wp2_with (first
          | ((with_reducible refine wpList_load_row (o := ⟨some 42, .load 25 (.tmp 6), _, _, _, _⟩) rfl 25 (.tmp 6) rfl w.heap.size ?_ 25 AC.toArray (0, 0) _ hr6 Try.underlying25 rfl hi ?_); exact rfl)
          | (go_at_call 26; refine (c1.out _ _ _ _ HN.out).mono ?_; rintro _ w6 ⟨rfl, H6⟩; obtain ⟨cp, cc2⟩ := c2.out _ _ _ _ H6; have CC2 := Lib.hid cc2; clear H6 cc2 HN)
          | (go_at_call 27; refine CC2.out.mono ?_; rintro _ w7 ⟨rfl, H7⟩; have HN7 := Lib.hid H7; clear H7 cp)
          | (go_at_call 28; refine (c3.out _ _ _ _ HN7.out).mono ?_; rintro _ w8 ⟨rfl, H8⟩; have HN8 := Lib.hid H8; clear H8)
          | (go_at_call 29; refine (c4'.out _ _ _ _ HN8.out).mono ?_; rintro _ w9 ⟨rfl, H9⟩; obtain ⟨A9, n9, c9, cl, hr9, hb9⟩ := hR.out _ _ _ _ H9; have HT := Lib.hid (And.intro hr9 hb9); clear H9 hr9 hb9))
        go_ret2
        exact ⟨_, _, _, rfl, HT.out.1, HT.out.2⟩
      · rw [if_pos (by kernel_rfl)]
        obtain ⟨gm, hgm⟩ : ∃ gm, gm = (w3.drew.alloc (.cells #[.slice A n1 c] 22)).heap.size := ⟨_, rfl⟩
        refine wp_run (.pointer (some ⟨gm, 0, none⟩)) _ (by rw [hgm]; exact exec_allocP rfl hzp _) ?_
        have HM := Lib.hid (And.intro (heap_alloc_last (w3.drew.alloc (.cells #[.slice A n1 c] 22)) (.cells P0.toArray 59)) HC.out.size)
        rw [← hgm] at HM
        replace HC := Lib.hid (up_alloc HC.out (.cells P0.toArray 59))
        replace HL := Lib.hid (HL.out.held (by simp) (.cells P0.toArray 59))
        clear hgm
        refine hK.out _ _ (hRow.out _ HC.out) (fun _ => ?_)
        clear hK K
        try go_frame
        refine wpAnyH_ready (rs := [3]) (by kernel_rfl) (by simp) (AllReadyH.cons (o := ⟨some 39, .call { callee := .value (.func 25), args := #[.tmp 38], argTypes := #[74] }, _, _, _, none⟩) rfl (fun K hK => ?_) AllReadyH.nil)
        rw [if_pos (by kernel_rfl)]
        go_simp
        refine (hBy.out _ _ _ HL.out (by simp)).mono ?_
        rintro _ w4 ⟨g, c4, rfl, hg4, hr4, hb4⟩
        have HG := Lib.hid (And.intro hr4 (Nat.le_trans HC.out.size hg4))
        have HG0 := Lib.hid hr4.lt
        have HNE := Lib.hid (Nat.ne_of_lt (Nat.lt_of_lt_of_le (Array.getElem?_eq_some_iff.1 HM.out.1).1 hg4))
        replace HM := Lib.hid (And.intro ((hb4.block _ (Array.getElem?_eq_some_iff.1 HM.out.1).1).trans HM.out.1) HM.out.2)
        replace HC := Lib.hid (up HC.out hb4)
        clear hr4 hg4 hb4 HL
        dsimp only
        refine hK.out _ _ (hRow.out _ HC.out) (fun _ => ?_)
        clear hK K
        try go_frame
        refine th 4 (v := .agg (pcC pr g n1 c4).toArray) ?_ (hy := fun wy hSw => by exact exec_bldN (k := 0) (k2 := 1) (a := .tmp 36) (a2 := .tmp 39) rfl (u := .agg PC.toArray) (u2 := .slice (some ⟨g, 0, none⟩) n1 c4) rfl rfl (hbld g c4 _))
        go_frame
        refine wpAnyH_ready (rs := [6]) (by kernel_rfl) (by simp) (AllReadyH.cons (o := ⟨none, .store 59 (.tmp 12) (.tmp 40), _, _, _, none⟩) rfl (fun K hK => ?_) AllReadyH.nil)
        rw [if_pos (by kernel_rfl)]
        obtain ⟨w5, hst5, hat5, hgr5⟩ := hPar.out _ (hBX.out _ HC.out) _ g c4 HM.out.1 HG.out.1 HNE.out (Nat.le_trans hX3.out HM.out.2) (Nat.le_trans hX3.out HG.out.2)
        refine wp_skip w5 (exec_store rfl (vx := .pointer (some ⟨_, 0, none⟩)) rfl (vy := .agg (pcC pr g n1 c4).toArray) rfl hst5) ?_
        replace HC := Lib.hid (grown_below HC.out hgr5 HM.out.2)
        have HN := Lib.hid hat5
        clear hst5 hat5 hgr5 HM HG HNE HG0
        refine hK.out _ _ (hRow.out _ HC.out) (fun _ => ?_)
        clear hK K
        try go_frame
        refine wpAnyH_done (by kernel_rfl) ?_ _
        have hr6 := (hrow6.out _ (hBX.out _ HC.out)).1
        go_wp2_with (first
          | ((with_reducible refine wpList_load_row (o := ⟨some 42, .load 25 (.tmp 6), _, _, _, _⟩) rfl 25 (.tmp 6) rfl w.heap.size ?_ 25 AC.toArray (0, 0) _ hr6 Try.underlying25 rfl hi ?_); exact rfl)
          | (go_at_call 26; refine (c1.out _ _ _ _ HN.out).mono ?_; rintro _ w6 ⟨rfl, H6⟩; obtain ⟨cp, cc2⟩ := c2.out _ _ _ _ H6; have CC2 := Lib.hid cc2; clear H6 cc2 HN)
          | (go_at_call 27; refine CC2.out.mono ?_; rintro _ w7 ⟨rfl, H7⟩; have HN7 := Lib.hid H7; clear H7 cp)
          | (go_at_call 28; refine (c3.out _ _ _ _ HN7.out).mono ?_; rintro _ w8 ⟨rfl, H8⟩; have HN8 := Lib.hid H8; clear H8)
          | (go_at_call 29; refine (c4'.out _ _ _ _ HN8.out).mono ?_; rintro _ w9 ⟨rfl, H9⟩; obtain ⟨A9, n9, c9, cl, hr9, hb9⟩ := hR.out _ _ _ _ H9; have HT := Lib.hid (And.intro hr9 hb9); clear H9 hr9 hb9))
        go_ret2
        exact ⟨_, _, _, rfl, HT.out.1, HT.out.2⟩
    · rw [if_pos (by kernel_rfl)]
      obtain ⟨gm, hgm⟩ : ∃ gm, gm = w3.drew.heap.size := ⟨_, rfl⟩
      refine wp_run (.pointer (some ⟨gm, 0, none⟩)) _ (by rw [hgm]; exact exec_allocP rfl hzp _) ?_
      have HM := Lib.hid (And.intro (heap_alloc_last w3.drew (.cells P0.toArray 59)) HC.out.size)
      rw [← hgm] at HM
      replace HC := Lib.hid (up_alloc HC.out (.cells P0.toArray 59))
      generalize w3.drew.alloc (.cells P0.toArray 59) = wa at *
      clear hgm
      refine hK.out _ _ (hRow.out _ HC.out) (fun _ => ?_)
      clear hK K
      try go_frame
      refine wpAnyH_ready (rs := [2]) (by kernel_rfl) (by simp) (AllReadyH.cons (o := ⟨some 38, .buildSlice 74 1 #[(0, .tmp 37)], _, _, _, none⟩) rfl (fun K hK => ?_) AllReadyH.nil)
      rw [if_pos (by kernel_rfl)]
      go_simp
      have HL := Lib.hid (hLit.out _ (hBX.out _ HC.out))
      replace HC := Lib.hid (up_alloc HC.out (.cells #[.slice A n1 c] 22))
      replace HM := Lib.hid (And.intro ((heap_alloc_old _ (.cells #[.slice A n1 c] 22) (Array.getElem?_eq_some_iff.1 HM.out.1).1).trans HM.out.1) HM.out.2)
      refine hK.out _ _ (hRow.out _ HC.out) (fun _ => ?_)
      clear hK K
      try go_frame
      refine wpAnyH_ready (rs := [3]) (by kernel_rfl) (by simp) (AllReadyH.cons (o := ⟨some 39, .call { callee := .value (.func 25), args := #[.tmp 38], argTypes := #[74] }, _, _, _, none⟩) rfl (fun K hK => ?_) AllReadyH.nil)
      rw [if_pos (by kernel_rfl)]
      go_simp
      refine (hBy.out _ _ _ HL.out (by simp)).mono ?_
      rintro _ w4 ⟨g, c4, rfl, hg4, hr4, hb4⟩
      have HG := Lib.hid (And.intro hr4 (Nat.le_trans HC.out.size hg4))
      have HG0 := Lib.hid hr4.lt
      have HNE := Lib.hid (Nat.ne_of_lt (Nat.lt_of_lt_of_le (Array.getElem?_eq_some_iff.1 HM.out.1).1 hg4))
      replace HM := Lib.hid (And.intro ((hb4.block _ (Array.getElem?_eq_some_iff.1 HM.out.1).1).trans HM.out.1) HM.out.2)
      replace HC := Lib.hid (up HC.out hb4)
      clear hr4 hg4 hb4 HL
      dsimp only
      refine hK.out _ _ (hRow.out _ HC.out) (fun _ => ?_)
      clear hK K
      try go_frame
      refine th 4 (v := .agg (pcC pr g n1 c4).toArray) ?_ (hy := fun wy hSw => by exact exec_bldN (k := 0) (k2 := 1) (a := .tmp 36) (a2 := .tmp 39) rfl (u := .agg PC.toArray) (u2 := .slice (some ⟨g, 0, none⟩) n1 c4) rfl rfl (hbld g c4 _))
      go_frame
      refine wpAnyH_ready (rs := [6]) (by kernel_rfl) (by simp) (AllReadyH.cons (o := ⟨none, .store 59 (.tmp 12) (.tmp 40), _, _, _, none⟩) rfl (fun K hK => ?_) AllReadyH.nil)
      rw [if_pos (by kernel_rfl)]
      obtain ⟨w5, hst5, hat5, hgr5⟩ := hPar.out _ (hBX.out _ HC.out) _ g c4 HM.out.1 HG.out.1 HNE.out (Nat.le_trans hX3.out HM.out.2) (Nat.le_trans hX3.out HG.out.2)
      refine wp_skip w5 (exec_store rfl (vx := .pointer (some ⟨_, 0, none⟩)) rfl (vy := .agg (pcC pr g n1 c4).toArray) rfl hst5) ?_
      replace HC := Lib.hid (grown_below HC.out hgr5 HM.out.2)
      have HN := Lib.hid hat5
      clear hst5 hat5 hgr5 HM HG HNE HG0
      refine hK.out _ _ (hRow.out _ HC.out) (fun _ => ?_)
      clear hK K
      try go_frame
      refine wpAnyH_done (by kernel_rfl) ?_ _
      have hr6 := (hrow6.out _ (hBX.out _ HC.out)).1
      go_wp2_with (first
        | ((with_reducible refine wpList_load_row (o := ⟨some 42, .load 25 (.tmp 6), _, _, _, _⟩) rfl 25 (.tmp 6) rfl w.heap.size ?_ 25 AC.toArray (0, 0) _ hr6 Try.underlying25 rfl hi ?_); exact rfl)
        | (go_at_call 26; refine (c1.out _ _ _ _ HN.out).mono ?_; rintro _ w6 ⟨rfl, H6⟩; obtain ⟨cp, cc2⟩ := c2.out _ _ _ _ H6; have CC2 := Lib.hid cc2; clear H6 cc2 HN)
        | (go_at_call 27; refine CC2.out.mono ?_; rintro _ w7 ⟨rfl, H7⟩; have HN7 := Lib.hid H7; clear H7 cp)
        | (go_at_call 28; refine (c3.out _ _ _ _ HN7.out).mono ?_; rintro _ w8 ⟨rfl, H8⟩; have HN8 := Lib.hid H8; clear H8)
        | (go_at_call 29; refine (c4'.out _ _ _ _ HN8.out).mono ?_; rintro _ w9 ⟨rfl, H9⟩; obtain ⟨A9, n9, c9, cl, hr9, hb9⟩ := hR.out _ _ _ _ H9; have HT := Lib.hid (And.intro hr9 hb9); clear H9 hr9 hb9))
      go_ret2
      exact ⟨_, _, _, rfl, HT.out.1, HT.out.2⟩
set_option maxRecDepth 100000 in
theorem ntTo_any {A : Option Addr} {c : Nat} {l : List UInt8} {w : World} (hr : Rd w w.heap.size (.slice A l.length c) (cellsB l)) (hl : l.length ≤ 100000) {to : Ad} (tw : to.Wide) {port : Nat} (hport : port < 65536) :
    Calls Try.prog 5 #[.slice A l.length c, .agg (adC to).toArray, .int .u16 (port : Int)] w fun e w' => ∃ A' n' c', e = .returned (.tuple #[.slice A' n' c', .int .i64 ((ntErr l to port : Nat) : Int)]) ∧ Rd w' w'.heap.size (.slice A' n' c') (cellsB (ntRes l 1 to port)) ∧ Below w.heap.size w w' := by
  have hat := heap_alloc_last w (.cells (adC to).toArray 25)
  have hb0 := up_alloc (Below.refl w.heap.size w) (.cells (adC to).toArray 25)
  have hi := info_adA tw
  have hs : Hid (Calls Try.prog 11 #[.slice A l.length c, .int .i64 1, .agg (adC to).toArray, .int .u16 (port : Int)] (w.alloc (.cells (adC to).toArray 25)) fun e w' => ∃ A' n' c', e = .returned (.tuple #[.slice A' n' c', .int .i64 ((ntErr l to port : Nat) : Int)]) ∧ Rd w' w'.heap.size (.slice A' n' c') (cellsB (ntRes l 1 to port)) ∧ Below w.heap.size w w') := Lib.hid <| by
    refine (ntSend_any ((hr.below hb0).more hb0.size) hl (which := 1) (by omega) rfl tw hport).mono ?_
    rintro e w' ⟨A', n', c', e1, e2, e3⟩
    exact ⟨A', n', c', e1, e2, up hb0 e3⟩
  clear hr hl hport hb0
  generalize ntRes l 1 to port = R at *
  generalize ntErr l to port = E at *
  generalize l.length = m at *
  generalize (adC to).toArray = C at *
  go_enter Try.func5, Try.ntmps5
  go_wp2_with (first
    | ((with_reducible refine wpList_load_row (o := ⟨some 9, .load 25 (.tmp 4), _, _, _, _⟩) rfl 25 (.tmp 4) rfl w.heap.size ?_ 25 C (0, 0) _ hat Try.underlying25 rfl hi ?_); exact rfl)
    | (go_at_call 11; refine hs.out.mono ?_; rintro _ w1 ⟨A1, n1, c1, rfl, hr1, hb1⟩; have HT := Lib.hid (And.intro hr1 hb1); clear hr1 hb1))
  go_ret2
  exact ⟨_, _, _, rfl, HT.out.1, HT.out.2⟩
set_option maxRecDepth 100000 in
theorem ntFrom_any {A : Option Addr} {c : Nat} {l : List UInt8} {w : World} (hr : Rd w w.heap.size (.slice A l.length c) (cellsB l)) (hl : l.length ≤ 100000) {to : Ad} (tw : to.Wide) {port : Nat} (hport : port < 65536) :
    Calls Try.prog 6 #[.slice A l.length c, .agg (adC to).toArray, .int .u16 (port : Int)] w fun e w' => ∃ A' n' c', e = .returned (.tuple #[.slice A' n' c', .int .i64 ((ntErr l to port : Nat) : Int)]) ∧ Rd w' w'.heap.size (.slice A' n' c') (cellsB (ntRes l 0 to port)) ∧ Below w.heap.size w w' := by
  have hat := heap_alloc_last w (.cells (adC to).toArray 25)
  have hb0 := up_alloc (Below.refl w.heap.size w) (.cells (adC to).toArray 25)
  have hi := info_adA tw
  have hs : Hid (Calls Try.prog 11 #[.slice A l.length c, .int .i64 0, .agg (adC to).toArray, .int .u16 (port : Int)] (w.alloc (.cells (adC to).toArray 25)) fun e w' => ∃ A' n' c', e = .returned (.tuple #[.slice A' n' c', .int .i64 ((ntErr l to port : Nat) : Int)]) ∧ Rd w' w'.heap.size (.slice A' n' c') (cellsB (ntRes l 0 to port)) ∧ Below w.heap.size w w') := Lib.hid <| by
    refine (ntSend_any ((hr.below hb0).more hb0.size) hl (which := 0) (by omega) rfl tw hport).mono ?_
    rintro e w' ⟨A', n', c', e1, e2, e3⟩
    exact ⟨A', n', c', e1, e2, up hb0 e3⟩
  clear hr hl hport hb0
  generalize ntRes l 0 to port = R at *
  generalize ntErr l to port = E at *
  generalize l.length = m at *
  generalize (adC to).toArray = C at *
  go_enter Try.func6, Try.ntmps6
  go_wp2_with (first
    | ((with_reducible refine wpList_load_row (o := ⟨some 9, .load 25 (.tmp 4), _, _, _, _⟩) rfl 25 (.tmp 4) rfl w.heap.size ?_ 25 C (0, 0) _ hat Try.underlying25 rfl hi ?_); exact rfl)
    | (go_at_call 11; refine hs.out.mono ?_; rintro _ w1 ⟨A1, n1, c1, rfl, hr1, hb1⟩; have HT := Lib.hid (And.intro hr1 hb1); clear hr1 hb1))
  go_ret2
  exact ⟨_, _, _, rfl, HT.out.1, HT.out.2⟩
end Go.Proofs.Ytejppekcniehpaa
