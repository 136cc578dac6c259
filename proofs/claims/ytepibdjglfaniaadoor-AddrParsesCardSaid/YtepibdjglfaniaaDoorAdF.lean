/-
  Mask of what may be: a contract.
-/
import Derived.Test.YtepibdjglfaniaaDoorAdE
namespace Go.Proofs.YtepibdjglfaniaaDoor
open Go.RowKit
theorem build_pf (x : Ad) (hx : x.Wide) (b : Int) (W : World) : (Instr.build 37 #[(0, adV x), (1, .int .i64 b)]).run Tryd.prog W = .ok (pfV ⟨x, b⟩) W := by
  obtain ⟨s, B⟩ := x
  obtain ⟨a, b', c, d, e, f, g, i, j, k, m, n, o, p, q, r, rfl⟩ := list16 hx
  kernel_rfl
theorem exec_bld2 {ρ : Operand → Value} {o : Oper} {t : TypeId} {k k2 : Nat} {a a2 : Operand} (ho : o.op = .build t #[(k, a), (k2, a2)]) {u u2 : Value} (ha : ρ a = u) (ha2 : ρ a2 = u2) {v : Value} {P : Program} {w : World} (hrun : (Instr.build t #[(k, u), (k2, u2)]).run P w = .ok v w) : (execOp ρ o).run P w = .ok (.value v) w := by
  unfold execOp
  simp only [ho, List.map_toArray, List.map_cons, List.map_nil, ha, ha2, Sem.run_bind, hrun, Result.andThen_ok, Sem.run_pure]
theorem heap_setCell_at {w : World} {g j : Nat} {u : Value} {cs : Array Value} {t : TypeId} {fr : Nat × Nat} (h : w.heap[g]? = some (.cells cs t fr)) : (w.setCell ⟨g, j, none⟩ u).heap[g]? = some (.cells (cs.setIfInBounds j u) t fr) := by
  simp [World.setCell, Array.getElem?_modify, h]
/-- A byte of an address in a block, stored. -/
theorem AdAt.set {w : World} {g j : Nat} {a b : Ad} {u : Value} (h : AdAt w g a) (e : adC b = (adC a).set j u) : AdAt (w.setCell ⟨g, j, none⟩ u) g b := by
  rw [AdAt, heap_setCell_at h, e]
  simp
theorem PfAt.off {w : World} {g k j : Nat} {p : Pf} {u : Value} (h : PfAt w g p) (hk : g ≠ k) : PfAt (w.setCell ⟨k, j, none⟩ u) g p := (Below.heap_setCell w ⟨k, j, none⟩ u g hk).trans h
theorem AdAt.free {w : World} {g : Nat} {a : Ad} (h : AdAt w g a) (j : Nat) : w.frozen? ⟨g, j, none⟩ = false := by
  unfold AdAt at h
  unfold World.frozen?
  simp [h]
set_option maxRecDepth 100000 in
theorem adMask_ok (a : Ad) (n : Nat) (w : World) (ha : a.Wide) (hg : a.good = true) (hn : n ≤ 8 * a.own.length) :
    Calls Tryd.prog 71 #[adV a, .int .i64 (n : Int)] w fun e w' => e = .returned (.tuple #[pfV ⟨maskA a n, n⟩, .bool true]) ∧ Below w.heap.size w w' := by
  have hz : ∀ w, (zeroValue 37).run Tryd.prog w = .ok (.agg (pfC Pf.zero).toArray) w := zero_pf
  have hfirst := fun w => adFirst_any a w
  have hgood := fun w => adGood_any a w ha
  have hsl := own_slice a w.heap.size
  have hsz := info_adA ha
  have hln := pfC_length (p := Pf.zero) rfl
  have hm : ∃ m, m = 16 - a.from ∧ a.own.length = m := ⟨_, rfl, Ad.own_size ha⟩
  obtain ⟨m, hm, hm2⟩ := hm
  rw [← hm] at hsl
  have hmle : m ≤ 16 := by omega
  have hwm : IntKind.i64.wrap (8 * (m : Int)) = 8 * (m : Int) := IntWalk.i64_in _ (by omega)
  have hw0 := heap_alloc_last w (.cells (adC a).toArray 24)
  have hw1 := heap_alloc_last (w.alloc (.cells (adC a).toArray 24)) (.cells (pfC Pf.zero).toArray 37)
  have hw01 := (heap_alloc_old (w.alloc (.cells (adC a).toArray 24)) (.cells (pfC Pf.zero).toArray 37) (show w.heap.size < _ by simp)).trans hw0
  rw [show (w.alloc (.cells (adC a).toArray 24)).heap.size = w.heap.size + 1 by simp] at hw1
  have hbz := up_alloc (up_alloc (Below.refl w.heap.size w) (.cells (adC a).toArray 24)) (.cells (pfC Pf.zero).toArray 37)
  -- what each of the calls leaves
  have hA : Hid (∀ w1, Below ((w.alloc (.cells (adC a).toArray 24)).alloc (.cells (pfC Pf.zero).toArray 37)).heap.size ((w.alloc (.cells (adC a).toArray 24)).alloc (.cells (pfC Pf.zero).toArray 37)) w1 → w1.heap[w.heap.size]? = some (.cells (adC a).toArray 24 (0, 0))) := Lib.hid fun w1 hb => (hb.block _ (by simp; omega)).trans hw01
  have hP : Hid (∀ w1, Below ((w.alloc (.cells (adC a).toArray 24)).alloc (.cells (pfC Pf.zero).toArray 37)).heap.size ((w.alloc (.cells (adC a).toArray 24)).alloc (.cells (pfC Pf.zero).toArray 37)) w1 → PfAt w1 (w.heap.size + 1) Pf.zero ∧ Below w.heap.size w w1) := Lib.hid fun w1 hb => ⟨(hb.block _ (by simp)).trans hw1, up hbz hb⟩
  rw [hm2] at hn
  rw [hg] at hgood
  have hnm : (n : Int) ≤ 8 * (m : Int) := by omega
  have hn0 : (0 : Int) ≤ (n : Int) := by omega
  have Hf := Lib.hid hfirst
  have Hg := Lib.hid hgood
  have HA := Lib.hid (And.intro ha (And.intro hm hn))
  clear hfirst hgood hw0 hw1 hw01 hbz hm hm2 hg hn
  have hst := partA_start (a := a) n
  rw [adV] at Hf Hg ⊢
  generalize hC : adC a = C at *
  generalize hZ : pfC Pf.zero = Z at *
  generalize hfr : a.from = fr at Hf hsl
  have HC := Lib.hid (And.intro hC hfr)
  clear hC hZ hfr
  go_enter Tryd.func71, Tryd.ntmps71
  go_wp2_with (first
    | (with_reducible refine wpList_alloc_zero (o := ⟨some 4, .alloc 37, _, _, _, _⟩) rfl 37 rfl Z.toArray hz ?_)
    | ((with_reducible refine wpList_load_row (o := ⟨some 10, .load 24 (.tmp 2), _, _, _, _⟩) rfl 24 (.tmp 2) rfl w.heap.size ?_ 24 C.toArray (0, 0) _ (hA.out _ (Below.refl _ _)) Tryd.underlying24 rfl hsz ?_); exact rfl)
    | (go_at_call 19; refine (Hf.out _).mono ?_; rintro _ w1 ⟨rfl, hb1⟩; have hw1 := hA.out _ hb1)
    | ((with_reducible refine wpList_load_row (o := ⟨some 13, .load 24 (.tmp 2), _, _, _, _⟩) rfl 24 (.tmp 2) rfl w.heap.size ?_ 24 C.toArray (0, 0) _ hw1 Tryd.underlying24 rfl hsz ?_); exact rfl)
    | (go_at_call 11; refine (Hg.out _).mono ?_; rintro _ w2 ⟨rfl, hb2⟩; have HB := Lib.hid (And.intro (hA.out _ (up hb1 hb2)) (hP.out _ (up hb1 hb2))); clear hw1 hb1 hb2))
  go_loopw [7, 8] (fun cv iv wr => ∃ k c : Nat, n / 8 ≤ k ∧ k ≤ m ∧ c < 8 ∧ iv = .int .i64 (k : Int) ∧ cv = .int .i64 (c : Int) ∧ Hid ((k < m → c = keep n k) ∧ AdAt wr w.heap.size (partA a n k) ∧ PfAt wr (w.heap.size + 1) Pf.zero ∧ Below w.heap.size w wr)) (fun _ iv _ => m - (intOf iv).toNat)
  case atStart => exact ⟨n / 8, n % 8, Nat.le_refl _, by omega, Nat.mod_lt _ (by omega), by go_num, by go_num, Lib.hid ⟨fun _ => by unfold keep; omega, by rw [AdAt, hst, HC.out.1]; exact HB.out.1, HB.out.2⟩⟩
  case round =>
    obtain ⟨k, c, hk0, hk1, hc8, rfl, rfl, HI⟩ := hrel
    obtain ⟨hck, hat, hpf, hbel⟩ := HI.out
    by_cases hkm : k < m
    · obtain ⟨ha, hm, _⟩ := HA.out
      have hcell := partA_at ha n (show k < 16 - a.from by omega)
      have hnext := partA_next ha n (show k < 16 - a.from by omega)
      have hfr := HC.out.2
      obtain ⟨x, hx⟩ : ∃ x, x = a.own[k]'(by rw [Ad.own_size ha, ← hm]; exact hkm) := ⟨_, rfl⟩
      rw [← hx] at hcell hnext
      rw [hfr] at hcell hnext
      clear hx
      have hc0 : wr.cell? ⟨w.heap.size, 1 + fr + k, none⟩ = some (.int .u8 (x.toNat : Int)) := by
        rw [Nat.add_assoc]
        refine adC_range hat (fr + k) _ ?_
        rw [cellsB, List.getElem?_map, hcell]
        rfl
      have hf0 := hat.free (1 + fr + k)
      have hand := andNot_kb x hc8
      have hsh := shr_full ⟨c, hc8⟩
      dsimp only at hsh
      rw [← hck hkm, ← Nat.add_assoc] at hnext
      generalize (2 ^ (8 - c) - 1 : Nat) = f at hand hsh
      have hat2 := hat.set hnext
      generalize (kb x c).toNat = y at hand hat2
      have hpf2 := hpf.off (j := 1 + fr + k) (u := .int .u8 (y : Int)) (show w.heap.size + 1 ≠ w.heap.size by omega)
      have hbel2 := hbel.setCell (p := ⟨w.heap.size, 1 + fr + k, none⟩) (Nat.le_refl _) (.int .u8 (y : Int))
      have HN := Lib.hid (And.intro hat2 (And.intro hpf2 hbel2))
      have HK := Lib.hid (And.intro hk0 (And.intro hm hc8))
      have hki : (k : Int) < (m : Int) := by omega
      have hc0' : (0 : Int) ≤ (c : Int) := by omega
      have hc8' : (c : Int) ≤ 8 := by omega
      clear hat hpf hbel hcell hnext hat2 hpf2 hbel2 hck hfr ha hm hk0 HI hc8
      go_wp2_with fail
      go_region
      all_goals (go_wp2_with fail)
      obtain ⟨hk0, hm, _⟩ := HK.out
      exact ⟨⟨k + 1, 0, by omega, by omega, by omega, by go_num, rfl, Lib.hid ⟨fun _ => by unfold keep; omega, HN.out.1, HN.out.2.1, HN.out.2.2.drew⟩⟩, by simp [intOf]; omega⟩
    · have hkm2 : k = m := by omega
      subst hkm2
      obtain ⟨ha, hm, _⟩ := HA.out
      rw [partA_all ha n hm] at hat
      have hmw := maskA_wide ha n
      have hmi := info_adA hmw
      have hbu := build_pf _ hmw (n : Int)
      obtain ⟨x, hx⟩ : ∃ x, x = maskA a n := ⟨_, rfl⟩
      rw [← hx] at hat hmw hmi hbu
      have HX := Lib.hid hx
      clear hx
      obtain ⟨w5, hst5, hsc5, hat5, hgr5, _⟩ := store_pf (b := ⟨x, n⟩) hpf rfl hmw
      have HE := Lib.hid (And.intro hat5 (And.intro (grown_below hbel hgr5 (Nat.le_succ _)) hmw))
      rw [AdAt] at hat
      clear hpf hbel HI hat5 hgr5 hmw hck hm ha hsc5
      go_wp2_with (first
        | ((with_reducible refine wpList_load_row (o := ⟨some 46, .load 24 (.tmp 2), _, _, _, _⟩) rfl 24 (.tmp 2) rfl w.heap.size ?_ 24 (adC x).toArray (0, 0) _ hat Tryd.underlying24 rfl hmi ?_); exact rfl)
        | ((with_reducible refine wpList_run (o := ⟨some 48, .build 37 #[(0, .tmp 46), (1, .tmp 47)], _, _, _, none⟩) rfl (pfV ⟨x, n⟩) wr ?_ ?_); exact exec_bld2 (k := 0) (k2 := 1) (a := .tmp 46) (a2 := .tmp 47) rfl (u := adV x) (u2 := .int .i64 (n : Int)) rfl rfl (hbu wr))
        | ((with_reducible refine wpList_stored (o := ⟨none, .store 37 (.tmp 4) (.tmp 48), _, _, _, none⟩) rfl 37 (.tmp 4) (.tmp 48) rfl (.pointer (some ⟨w.heap.size + 1, 0, none⟩)) (pfV ⟨x, n⟩) ?_ ?_ w5 hst5 ?_); exact rfl; exact rfl))
      exact bodyPost_ret (ret_pf (p := 4) (q := 5) (by kernel_rfl) rfl HE.out.1 HE.out.2.2 rfl) rfl ⟨by rw [HX.out], HE.out.2.1⟩
/-- Mask. -/
theorem adMask_any (a : Ad) (bits : Int) (w : World) (ha : a.Wide) (h0 : -9223372036854775808 ≤ bits) (h1 : bits ≤ 9223372036854775807) :
    Calls Tryd.prog 71 #[adV a, .int .i64 bits] w fun e w' => e = .returned (.tuple #[pfV ((maskOf a bits).getD Pf.zero), .bool (maskOf a bits).isSome]) ∧ Below w.heap.size w w' := by
  cases h : maskOf a bits with
  | none => exact adMask_bad a bits w ha h0 h1 h
  | some p =>
    obtain ⟨hg, hb0, hb1, rfl⟩ := maskOf_some h
    obtain ⟨n, rfl⟩ : ∃ n : Nat, bits = n := ⟨bits.toNat, by omega⟩
    exact adMask_ok a n w ha hg (by omega)
end Go.Proofs.YtepibdjglfaniaaDoor
