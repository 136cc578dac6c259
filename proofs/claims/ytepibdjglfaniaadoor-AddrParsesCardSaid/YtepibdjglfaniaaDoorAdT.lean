/-
  The document's Mask: a contract.
-/
import Derived.Test.YtepibdjglfaniaaDoorAdS
import Derived.Test.YtepibdjglfaniaaDoorAdG
namespace Go.Proofs.YtepibdjglfaniaaDoor
open Go.RowKit
theorem PfAt.set {w : World} {g j : Nat} {x y : Ad} {n : Int} {u : Value} (h : PfAt w g ⟨x, n⟩) (hx : x.Wide) (hj : j < 17) (e : adC y = (adC x).set j u) : PfAt (w.setCell ⟨g, j, none⟩ u) g ⟨y, n⟩ := by
  have e2 : pfC ⟨y, n⟩ = (pfC ⟨x, n⟩).set j u := by
    show adC y ++ [Value.int .i64 n] = (adC x ++ [Value.int .i64 n]).set j u
    rw [List.set_append_left _ _ (by rw [adC_length hx]; exact hj), e]
  rw [PfAt, heap_setCell_at h, e2]
  simp
theorem AdAt.off {w : World} {g k j : Nat} {a : Ad} {u : Value} (h : AdAt w g a) (hk : g ≠ k) : AdAt (w.setCell ⟨k, j, none⟩ u) g a := (Below.heap_setCell w ⟨k, j, none⟩ u g hk).trans h
theorem PfAt.free {w : World} {g : Nat} {p : Pf} (h : PfAt w g p) (j : Nat) : w.frozen? ⟨g, j, none⟩ = false := by
  unfold PfAt at h
  unfold World.frozen?
  simp [h]
theorem build_ad1 (s : Bool) (W : World) : (Instr.build 24 #[(0, .bool s)]).run Tryd.prog W = .ok (adV ⟨s, List.replicate 16 0⟩) W := by kernel_rfl
theorem exec_bld1 {ρ : Operand → Value} {o : Oper} {t : TypeId} {k : Nat} {a : Operand} (ho : o.op = .build t #[(k, a)]) {u : Value} (ha : ρ a = u) {v : Value} {P : Program} {w : World} (hrun : (Instr.build t #[(k, u)]).run P w = .ok v w) : (execOp ρ o).run P w = .ok (.value v) w := by
  unfold execOp
  simp only [ho, List.map_toArray, List.map_cons, List.map_nil, ha, Sem.run_bind, hrun, Result.andThen_ok, Sem.run_pure]
theorem bit_is (x e : Nat) : (((x : Int) / 2 ^ e).tmod 2 == 1) = (x / 2 ^ e % 2 == 1) := by
  have h : ((x : Int) / 2 ^ e) = ((x / 2 ^ e : Nat) : Int) := by push_cast; rfl
  rw [h, show (2 : Int) = ((2 : Nat) : Int) from rfl, ← Int.ofNat_tmod, Bool.eq_iff_iff, beq_iff_eq, beq_iff_eq]
  omega
/-- A bit more. -/
theorem bitsA_more {a : Ad} (h : a.Wide) {k q r e : Nat} (hk : k = 8 * q + r) (hr : r < 8) (he : e = 7 - r) (hq : q < 16 - a.from) :
    ∃ x : UInt8, (adC a)[1 + (a.from + q)]? = some (.int .u8 (x.toNat : Int)) ∧ (adC (bitsA a k))[1 + (a.from + q)]? = some (.int .u8 ((kb x r).toNat : Int)) ∧
      (x.toNat / 2 ^ e % 2 ≠ 1 → adC (bitsA a (k + 1)) = adC (bitsA a k)) ∧
      (x.toNat / 2 ^ e % 2 = 1 → (kb x r).toNat + 2 ^ e ≤ 255 ∧ adC (bitsA a (k + 1)) = (adC (bitsA a k)).set (1 + (a.from + q)) (.int .u8 (((kb x r).toNat + 2 ^ e : Nat) : Int))) := by
  have h8 : k / 8 = q := by omega
  have hm8 : k % 8 = r := by omega
  obtain ⟨h1, h2⟩ := bitsA_next h (n := k) (by rw [h8]; exact hq)
  have hoq : a.own[q]? = some (a.own[q]'(by rw [Ad.own_size h]; exact hq)) := List.getElem?_eq_getElem _
  have hx : (a.own[k / 8]'(by rw [Ad.own_size h, h8]; exact hq)) = (a.own[q]'(by rw [Ad.own_size h]; exact hq)) := by congr 1
  rw [hx, h8, hm8] at h1 h2
  generalize (a.own[q]'(by rw [Ad.own_size h]; exact hq)) = x at h1 h2 hoq
  have hmore := kb_more x hr
  rw [← he] at hmore
  refine ⟨x, ?_, h2, fun hb => ?_, fun hb => ?_⟩
  · rw [Nat.add_comm, adC, List.getElem?_cons_succ, cellsB, List.getElem?_map]
    rw [Ad.own, List.getElem?_drop] at hoq
    rw [hoq]; rfl
  · rw [if_neg hb] at hmore
    replace hmore : (kb x (r + 1)).toNat = (kb x r).toNat := hmore
    rw [h1, hmore]
    obtain ⟨hlt, he2⟩ := List.getElem?_eq_some_iff.1 h2
    rw [← he2, List.set_getElem_self]
  · rw [if_pos hb] at hmore
    refine ⟨?_, by rw [h1, hmore]⟩
    rw [← hmore]
    have := (kb x (r + 1)).toNat_lt
    omega
set_option maxRecDepth 100000 in
theorem rfMask_ok (a : Ad) (n : Nat) (w : World) (ha : a.Wide) (hg : a.good = true) (hn : n ≤ 8 * a.own.length) :
    Calls Tryd.prog 41 #[adV a, .int .i64 (n : Int)] w fun e w' => e = .returned (.tuple #[pfV ⟨maskA a n, n⟩, .bool true]) ∧ Below w.heap.size w w' := by
  have hz : ∀ w, (zeroValue 37).run Tryd.prog w = .ok (.agg (pfC Pf.zero).toArray) w := zero_pf
  have hfirst := fun w => rfFrom_any a w
  have hgood := fun w => rfGood_any a w ha
  have hsz := info_adA ha
  have hln := pfC_length (p := Pf.zero) rfl
  have hm : ∃ m, m = 16 - a.from ∧ a.own.length = m := ⟨_, rfl, Ad.own_size ha⟩
  obtain ⟨m, hm, hm2⟩ := hm
  have hws : IntKind.i64.wrap (16 - ((a.from : Nat) : Int)) = (m : Int) := by rw [IntWalk.i64_in _ (by have := a.from_le; omega)]; have := a.from_le; omega
  have hmle : m ≤ 16 := by omega
  have hwm : IntKind.i64.wrap (8 * (m : Int)) = 8 * (m : Int) := IntWalk.i64_in _ (by omega)
  have hw0 := heap_alloc_last w (.cells (adC a).toArray 24)
  have hw1 := heap_alloc_last (w.alloc (.cells (adC a).toArray 24)) (.cells (pfC Pf.zero).toArray 37)
  have hw01 := (heap_alloc_old (w.alloc (.cells (adC a).toArray 24)) (.cells (pfC Pf.zero).toArray 37) (show w.heap.size < _ by simp)).trans hw0
  rw [show (w.alloc (.cells (adC a).toArray 24)).heap.size = w.heap.size + 1 by simp] at hw1
  have hbz := up_alloc (up_alloc (Below.refl w.heap.size w) (.cells (adC a).toArray 24)) (.cells (pfC Pf.zero).toArray 37)
  have hA : Hid (∀ w1, Below ((w.alloc (.cells (adC a).toArray 24)).alloc (.cells (pfC Pf.zero).toArray 37)).heap.size ((w.alloc (.cells (adC a).toArray 24)).alloc (.cells (pfC Pf.zero).toArray 37)) w1 → w1.heap[w.heap.size]? = some (.cells (adC a).toArray 24 (0, 0)) ∧ w1.cell? ⟨w.heap.size, 0, none⟩ = some (.bool a.six)) := Lib.hid fun w1 hb => ⟨(hb.block _ (by simp; omega)).trans hw01, adC_six ((hb.block _ (by simp; omega)).trans hw01)⟩
  have hP : Hid (∀ w1, Below ((w.alloc (.cells (adC a).toArray 24)).alloc (.cells (pfC Pf.zero).toArray 37)).heap.size ((w.alloc (.cells (adC a).toArray 24)).alloc (.cells (pfC Pf.zero).toArray 37)) w1 → PfAt w1 (w.heap.size + 1) Pf.zero ∧ w.heap.size + 2 ≤ w1.heap.size ∧ Below w.heap.size w w1) := Lib.hid fun w1 hb => ⟨(hb.block _ (by simp)).trans hw1, by have := hb.size; simp at this; omega, up hbz hb⟩
  rw [hm2] at hn
  rw [hg] at hgood
  have hnm : (n : Int) ≤ 8 * (m : Int) := by omega
  have hn0 : (0 : Int) ≤ (n : Int) := by omega
  have Hf := Lib.hid hfirst
  have Hg := Lib.hid hgood
  have HA := Lib.hid (And.intro ha (And.intro hm (And.intro hn hg)))
  clear hfirst hgood hw0 hw1 hw01 hbz hm hm2 hg hn
  -- what is laid at first
  have hb1 := build_ad1 a.six
  have hb2 := build_pf ⟨a.six, List.replicate 16 0⟩ rfl (n : Int)
  have hz0 := bitsA_zero ha
  have hw0' := bitsA_wide ha 0
  rw [← hz0] at hb1 hb2
  have hi0 := info_pfA (p := ⟨bitsA a 0, n⟩) hw0'
  have hzs : (pfC Pf.zero).toArray.size = (pfC ⟨bitsA a 0, n⟩).toArray.size := by rw [List.size_toArray, List.size_toArray, pfC_length (p := Pf.zero) rfl, pfC_length (p := ⟨bitsA a 0, n⟩) hw0']
  have hza := all_oneCell_toArray (pfC_one ⟨bitsA a 0, n⟩)
  have HL : Hid (∀ w1 : World, w.heap.size + 2 ≤ w1.heap.size → w1.heap[w.heap.size]? = some (.cells (adC a).toArray 24 (0, 0)) → PfAt w1 (w.heap.size + 1) Pf.zero → Below w.heap.size w w1 → AdAt (w1.alloc (.cells (pfC ⟨bitsA a 0, n⟩).toArray 37)) w.heap.size a ∧ PfAt (w1.alloc (.cells (pfC ⟨bitsA a 0, n⟩).toArray 37)) (w.heap.size + 1) Pf.zero ∧ PfAt (w1.alloc (.cells (pfC ⟨bitsA a 0, n⟩).toArray 37)) w1.heap.size ⟨bitsA a 0, n⟩ ∧ Below w.heap.size w (w1.alloc (.cells (pfC ⟨bitsA a 0, n⟩).toArray 37))) := Lib.hid fun w1 hs h1 h2 h3 => ⟨(heap_alloc_old w1 _ (by omega)).trans h1, (heap_alloc_old w1 _ (by omega)).trans h2, heap_alloc_last w1 _, up_alloc h3 _⟩
  rw [adV] at Hf Hg ⊢
  obtain ⟨six, hsix⟩ : ∃ s, s = a.six := ⟨_, rfl⟩
  rw [← hsix] at hA hb1
  obtain ⟨C, hC⟩ : ∃ C, C = adC a := ⟨_, rfl⟩
  rw [← hC] at hA hP Hf Hg hsz HL ⊢
  obtain ⟨Z, hZ⟩ : ∃ Z, Z = pfC Pf.zero := ⟨_, rfl⟩
  rw [← hZ] at hz hln hA hP hzs
  obtain ⟨Y, hY⟩ : ∃ Y, Y = pfC ⟨bitsA a 0, n⟩ := ⟨_, rfl⟩
  rw [← hY] at hi0 hzs hza HL
  rw [adV] at hb1
  rw [adV, pfV, ← hY] at hb2
  obtain ⟨D, hD⟩ : ∃ D, D = adC (bitsA a 0) := ⟨_, rfl⟩
  rw [← hD] at hb1 hb2
  obtain ⟨fr, hfr⟩ : ∃ f, f = a.from := ⟨_, rfl⟩
  rw [← hfr] at Hf hws
  have HC := Lib.hid (And.intro hC hfr)
  have hfrle : fr ≤ 12 := by rw [hfr]; exact a.from_le
  clear hC hZ hfr hY hD hsix hz0 hw0'
  go_enter Tryd.func41, Tryd.ntmps41
  go_wp2_with (first
    | (with_reducible refine wpList_alloc_zero (o := ⟨some 4, .alloc 37, _, _, _, _⟩) rfl 37 rfl Z.toArray hz ?_)
    | (with_reducible refine wpList_alloc_zero (o := ⟨some 7, .alloc 37, _, _, _, _⟩) rfl 37 rfl Z.toArray hz ?_)
    | ((with_reducible refine wpList_load_row (o := ⟨some 9, .load 24 (.tmp 2), _, _, _, _⟩) rfl 24 (.tmp 2) rfl w.heap.size ?_ 24 C.toArray (0, 0) _ (hA.out _ (Below.refl _ _)).1 Tryd.underlying24 rfl hsz ?_); exact rfl)
    | (go_at_call 17; refine (Hf.out _).mono ?_; rintro _ w1 ⟨rfl, hb1'⟩; have hw1 := (hA.out _ hb1').1)
    | ((with_reducible refine wpList_load_row (o := ⟨some 11, .load 24 (.tmp 2), _, _, _, _⟩) rfl 24 (.tmp 2) rfl w.heap.size ?_ 24 C.toArray (0, 0) _ hw1 Tryd.underlying24 rfl hsz ?_); exact rfl)
    | (go_at_call 7; refine (Hg.out _).mono ?_; rintro _ w2 ⟨rfl, hb2'⟩; have HB := Lib.hid (And.intro (hA.out _ (up hb1' hb2')).1 (hP.out _ (up hb1' hb2'))); have hsx := (hA.out _ (up hb1' hb2')).2; clear hw1 hb1' hb2')
    | ((with_reducible refine wpList_run (o := ⟨some 28, .build 24 #[(0, .tmp 27)], _, _, _, none⟩) rfl (.agg D.toArray) w2 ?_ ?_); exact exec_bld1 (k := 0) (a := .tmp 27) rfl (u := .bool six) rfl (hb1 w2))
    | ((with_reducible refine wpList_run (o := ⟨some 30, .build 37 #[(0, .tmp 28), (1, .tmp 29)], _, _, _, none⟩) rfl (.agg Y.toArray) w2 ?_ ?_); exact exec_bld2 (k := 0) (k2 := 1) (a := .tmp 28) (a2 := .tmp 29) rfl (u := .agg D.toArray) (u2 := .int .i64 (n : Int)) rfl rfl (hb2 w2))
    | ((with_reducible refine wpList_store_new (o := ⟨none, .store 37 (.tmp 7) (.tmp 30), _, _, _, _⟩) rfl 37 (.tmp 7) (.tmp 30) rfl Z.toArray Y.toArray ?_ ?_ hi0 hzs hza ?_); exact rfl; exact rfl))
  go_loopw [8] (fun iv wr => ∃ k : Nat, k ≤ n ∧ iv = .int .i64 (k : Int) ∧ Hid (AdAt wr w.heap.size a ∧ PfAt wr (w.heap.size + 1) Pf.zero ∧ PfAt wr w2.heap.size ⟨bitsA a k, n⟩ ∧ Below w.heap.size w wr)) (fun iv _ => n - (intOf iv).toNat)
  case atStart =>
    have h := HL.out w2 HB.out.2.2.1 HB.out.1 HB.out.2.1 HB.out.2.2.2
    exact ⟨0, by omega, rfl, Lib.hid h⟩
  case round =>
    obtain ⟨k, hkn, rfl, HI⟩ := hrel
    obtain ⟨hat, hpz, hpf, hbel⟩ := HI.out
    have hg2 := HB.out.2.2.1
    obtain ⟨ha, hm, hn, hg⟩ := HA.out
    by_cases hk : k < n
    · obtain ⟨q, hq⟩ : ∃ q, q = k / 8 := ⟨_, rfl⟩
      obtain ⟨r, hr⟩ : ∃ r, r = k % 8 := ⟨_, rfl⟩
      obtain ⟨e, he⟩ : ∃ e, e = 7 - r := ⟨_, rfl⟩
      have hr8 : r < 8 := by omega
      obtain ⟨x, hx1, hx2, hx3, hx4⟩ := bitsA_more ha (k := k) (q := q) (r := r) (e := e) (by omega) hr8 he (by omega)
      rw [← HC.out.2] at hx1 hx2 hx4
      have hc1 : wr.cell? ⟨w.heap.size, 1 + (fr + q), none⟩ = some (.int .u8 (x.toNat : Int)) := by
        rw [cell_of_row wr _ _ _ _ _ hat, List.getElem?_toArray]; exact hx1
      have hc2 : wr.cell? ⟨w2.heap.size, 1 + (fr + q), none⟩ = some (.int .u8 ((kb x r).toNat : Int)) := by
        rw [cell_of_row wr _ _ _ _ _ hpf, List.getElem?_toArray, pfC, List.getElem?_append_left (List.getElem?_eq_some_iff.1 hx2).1]
        exact hx2
      have hfz := hpf.free (1 + (fr + q))
      have hqi : (k : Int) / 8 = (q : Int) := by omega
      have hri : (k : Int) % 8 = (r : Int) := by omega
      have hei : (7 : Int) - (r : Int) = (e : Int) := by omega
      have hki : (k : Int) < (n : Int) := by omega
      have hqb : (fr : Int) + (q : Int) < 16 := by have := HC.out.2; omega
      have hri8 : (r : Int) < 8 := by omega
      have hei8 : (e : Int) < 8 := by omega
      have t0 : decide ((k : Int) < (n : Int)) = true := by simp [hk]
      by_cases hbit : x.toNat / 2 ^ e % 2 = 1
      · obtain ⟨h255, hset⟩ := hx4 hbit
        have hbt : (((x.toNat : Int) / 2 ^ e).tmod 2 == 1) = true := by rw [bit_is]; simpa using hbit
        have hv : (((kb x r).toNat : Int) + 2 ^ e) % 256 = (((kb x r).toNat + 2 ^ e : Nat) : Int) := by
          rw [Int.natCast_add, Int.natCast_pow]
          refine Int.emod_eq_of_lt ?_ ?_
          · have : (0 : Int) ≤ 2 ^ e := by exact_mod_cast Nat.zero_le (2 ^ e)
            omega
          · have : (((kb x r).toNat + 2 ^ e : Nat) : Int) ≤ 255 := by omega
            rw [Int.natCast_add, Int.natCast_pow] at this
            simp at this ⊢
            omega
        have hpf2 := hpf.set (bitsA_wide ha k) (show 1 + (fr + q) < 17 by omega) hset
        rw [← hv] at hpf2
        have hat2 := hat.off (j := 1 + (fr + q)) (u := .int .u8 ((((kb x r).toNat : Int) + 2 ^ e) % 256)) (show w.heap.size ≠ w2.heap.size by omega)
        have hpz2 := hpz.off (j := 1 + (fr + q)) (u := .int .u8 ((((kb x r).toNat : Int) + 2 ^ e) % 256)) (show w.heap.size + 1 ≠ w2.heap.size by omega)
        have hbel2 := hbel.setCell (p := ⟨w2.heap.size, 1 + (fr + q), none⟩) (by show w.heap.size ≤ w2.heap.size; omega) (.int .u8 ((((kb x r).toNat : Int) + 2 ^ e) % 256))
        have HN := Lib.hid (And.intro hat2 (And.intro hpz2 (And.intro hpf2 hbel2)))
        clear hx1 hx2 hx3 hx4 hat hpz hpf hbel hpf2 hat2 hpz2 hbel2 HI ha hm hn hg hq hr he hbit hv hset h255
        go_wp2_with fail
        exact ⟨⟨k + 1, by omega, by go_num, HN⟩, by simp [intOf]; omega⟩
      · have hpf2 : PfAt wr w2.heap.size ⟨bitsA a (k + 1), n⟩ := by
          rw [PfAt, pfC, hx3 hbit]; exact hpf
        have hbt : (((x.toNat : Int) / 2 ^ e).tmod 2 == 1) = false := by rw [bit_is]; simpa using hbit
        have HN := Lib.hid (And.intro hat (And.intro hpz (And.intro hpf2 hbel)))
        clear hx1 hx2 hx3 hx4 hat hpz hpf hbel hpf2 HI ha hm hn hg hq hr he hbit
        go_wp2_with fail
        exact ⟨⟨k + 1, by omega, by go_num, HN⟩, by simp [intOf]; omega⟩
    · have hkm2 : k = n := by omega
      subst hkm2
      rw [bitsA_mask ha hg] at hpf
      have hmw := maskA_wide ha k
      have hmi := info_pfA (p := ⟨maskA a k, k⟩) hmw
      obtain ⟨w5, hst5, hsc5, hat5, hgr5, _⟩ := store_pf (b := ⟨maskA a k, k⟩) hpz rfl hmw
      have HE := Lib.hid (And.intro hat5 (And.intro (grown_below hbel hgr5 (Nat.le_succ _)) hmw))
      rw [PfAt] at hpf
      have t0 : decide ((k : Int) < (k : Int)) = false := by simp
      clear hpz hbel HI hat5 hgr5 hmw hm ha hsc5 hn hg hat
      go_wp2_with (first
        | ((with_reducible refine wpList_load_row (o := ⟨some 71, .load 37 (.tmp 7), _, _, _, _⟩) rfl 37 (.tmp 7) rfl w2.heap.size ?_ 37 (pfC ⟨maskA a k, k⟩).toArray (0, 0) _ hpf Tryd.underlying37 rfl hmi ?_); exact rfl)
        | ((with_reducible refine wpList_stored (o := ⟨none, .store 37 (.tmp 4) (.tmp 71), _, _, _, none⟩) rfl 37 (.tmp 4) (.tmp 71) rfl (.pointer (some ⟨w.heap.size + 1, 0, none⟩)) (pfV ⟨maskA a k, k⟩) ?_ ?_ w5 hst5 ?_); exact rfl; exact rfl))
      exact bodyPost_ret (ret_pf (p := 4) (q := 5) (by kernel_rfl) rfl HE.out.1 HE.out.2.2 rfl) rfl ⟨rfl, HE.out.2.1⟩
/-- The document's Mask. -/
theorem rfMask_any (a : Ad) (bits : Int) (w : World) (ha : a.Wide) (h0 : -9223372036854775808 ≤ bits) (h1 : bits ≤ 9223372036854775807) :
    Calls Tryd.prog 41 #[adV a, .int .i64 bits] w fun e w' => e = .returned (.tuple #[pfV ((maskOf a bits).getD Pf.zero), .bool (maskOf a bits).isSome]) ∧ Below w.heap.size w w' := by
  cases h : maskOf a bits with
  | none => exact rfMask_bad a bits w ha h0 h1 h
  | some p =>
    obtain ⟨hg, hb0, hb1, rfl⟩ := maskOf_some h
    obtain ⟨n, rfl⟩ : ∃ n : Nat, bits = n := ⟨bits.toNat, by omega⟩
    exact rfMask_ok a n w ha hg (by omega)
end Go.Proofs.YtepibdjglfaniaaDoor
