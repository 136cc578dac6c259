/-
  A flow of a head and a segment; the flow of the other way; the law's flow; which head bytes have: contracts.
  Where a packet's segment begins; which head bytes have: contracts.
-/
import Derived.Test.YtejppekcniehpaaPkA
import Derived.Test.YtejppekcniehpaaIfD
import Derived.Test.YtejppekcniehpaaSxF
import Derived.Test.YtejppekcniehpaaSgB
import Derived.Test.YtejppekcniehpaaPkSpoilt
namespace Go.Proofs.Ytejppekcniehpaa
open Go.RowKit
theorem build_fl (x y : Ad) (hx : x.Wide) (hy : y.Wide) (s d : Nat) (p : UInt8) (W : World) : (Instr.build 37 #[(0, adV x), (1, adV y), (2, .int .u16 (s : Int)), (3, .int .u16 (d : Int)), (4, .int .u8 (p.toNat : Int))]).run Try.prog W = .ok (flV ⟨x, y, s, d, p⟩) W := by
  obtain ⟨s1, B⟩ := x
  obtain ⟨s2, B2⟩ := y
  obtain ⟨a1, a2, a3, a4, a5, a6, a7, a8, a9, a10, a11, a12, a13, a14, a15, a16, rfl⟩ := list16 hx
  obtain ⟨b1, b2, b3, b4, b5, b6, b7, b8, b9, b10, b11, b12, b13, b14, b15, b16, rfl⟩ := list16 hy
  kernel_rfl
def pkFlow (h : Hd) (s : Sg) : Fl := ⟨h.src, h.dst, s.src, s.dst, h.proto⟩
set_option maxRecDepth 100000 in
set_option maxHeartbeats 1000000 in
theorem pkFlow_any (h : Hd) (hw : h.Wide) (s : Sg) (hs : s.src < 65536 ∧ s.dst < 65536) (w : World) :
    Calls Try.prog 43 #[hdV h, sgV s] w fun e w' => e = .returned (flV (pkFlow h s)) ∧ Below w.heap.size w w' := by
  have hz : ∀ w, (zeroValue 37).run Try.prog w = .ok (.agg (flC Fl.zero).toArray) w := zero_fl
  obtain ⟨X, hX⟩ : ∃ X, X = ((w.alloc (.cells (hdC h).toArray 33)).alloc (.cells (sgC s).toArray 35)).alloc (.cells (flC Fl.zero).toArray 37) := ⟨_, rfl⟩
  have hXb := show Below w.heap.size w X by rw [hX]; exact up_alloc (up_alloc (up_alloc (Below.refl _ _) _) _) _
  have hXs : X.heap.size = w.heap.size + 1 + 1 + 1 := by rw [hX]; simp
  have at0 : HdAt X w.heap.size h := by
    unfold HdAt
    rw [hX]; exact (heap_alloc_old _ _ (by simp; omega)).trans ((heap_alloc_old _ _ (by simp)).trans (heap_alloc_last w _))
  have at1 : SgAt X (w.heap.size + 1) s := by
    unfold SgAt
    rw [hX]
    refine (heap_alloc_old _ _ (by simp)).trans ?_
    have := heap_alloc_last (w.alloc (.cells (hdC h).toArray 33)) (.cells (sgC s).toArray 35)
    rwa [show (w.alloc (.cells (hdC h).toArray 33)).heap.size = w.heap.size + 1 by simp] at this
  have at2 : FlAt X (w.heap.size + 1 + 1) Fl.zero := by
    unfold FlAt
    rw [hX]
    have := heap_alloc_last ((w.alloc (.cells (hdC h).toArray 33)).alloc (.cells (sgC s).toArray 35)) (.cells (flC Fl.zero).toArray 37)
    rwa [show ((w.alloc (.cells (hdC h).toArray 33)).alloc (.cells (sgC s).toArray 35)).heap.size = w.heap.size + 1 + 1 by simp] at this
  have hy : (pkFlow h s).Wide := ⟨hw.1, hw.2, hs⟩
  have r1 := hdC_src at0
  have r2 := hdC_dst hw at0
  have c1 := hdC_proto at0
  obtain ⟨c2, c3, _⟩ := sgC_cell at1
  obtain ⟨w3, hst, hat, hgr, _⟩ := store_fl (b := pkFlow h s) at2 Fl.zero_wide hy
  have HT := Lib.hid (And.intro hat (grown_below hXb hgr (by omega)))
  have hbu : ∀ W, (Instr.build 37 #[(0, .agg (adC h.src).toArray), (1, .agg (adC h.dst).toArray), (2, .int .u16 (s.src : Int)), (3, .int .u16 (s.dst : Int)), (4, .int .u8 (h.proto.toNat : Int))]).run Try.prog W = .ok (.agg (flC (pkFlow h s)).toArray) W := fun W => build_fl _ _ hw.1 hw.2 _ _ _ W
  have i1 := info_ad hw.1
  have i2 := info_ad hw.2
  have hfi := info_flA hy
  unfold FlAt at HT
  unfold hdV sgV flV at *
  clear hy hat hgr at0 at1 at2 hXb hw hs
  generalize (hdC h).toArray = CH at *
  generalize (sgC s).toArray = SC at *
  generalize adC h.src = C1 at *
  generalize adC h.dst = C2 at *
  generalize (flC (pkFlow h s)).toArray = D at *
  generalize (flC Fl.zero).toArray = Z at *
  generalize hs1 : s.src = q1 at *
  generalize hs2 : s.dst = q2 at *
  generalize hs3 : h.proto = q3 at *
  clear hs1 hs2 hs3
  subst hX
  go_enter Try.func43, Try.ntmps43
  go_wp2_with (first
    | (with_reducible refine wpList_alloc_zero (o := ⟨some 4, .alloc 37, _, _, _, _⟩) rfl 37 rfl Z hz ?_)
    | ((with_reducible refine wpList_load_mid_g (op := ⟨some 6, .load 25 (.tmp 5), _, _, _, _⟩) (by kernel_rfl) 25 (.tmp 5) rfl w.heap.size 3 ?_ C1 _ r1 Try.underlying25 rfl i1 ?_); exact rfl)
    | ((with_reducible refine wpList_load_mid_g (op := ⟨some 8, .load 25 (.tmp 7), _, _, _, _⟩) (by kernel_rfl) 25 (.tmp 7) rfl w.heap.size 20 ?_ C2 _ r2 Try.underlying25 rfl i2 ?_); exact rfl)
    | ((with_reducible refine wpList_run (o := ⟨some 15, .build 37 #[(0, .tmp 6), (1, .tmp 8), (2, .tmp 10), (3, .tmp 12), (4, .tmp 14)], _, _, _, _⟩) rfl (.agg D) (((w.alloc (.cells CH 33)).alloc (.cells SC 35)).alloc (.cells Z 37)) ?_ ?_); exact exec_bld5 (k1 := 0) (k2 := 1) (k3 := 2) (k4 := 3) (k5 := 4) rfl (u1 := .agg C1.toArray) (u2 := .agg C2.toArray) (u3 := .int .u16 (q1 : Int)) (u4 := .int .u16 (q2 : Int)) (u5 := .int .u8 (q3.toNat : Int)) rfl rfl rfl rfl rfl (hbu _))
    | ((with_reducible refine wpList_stored (o := ⟨none, .store 37 (.tmp 4) (.tmp 15), _, _, _, none⟩) rfl 37 (.tmp 4) (.tmp 15) rfl (.pointer (some ⟨w.heap.size + 1 + 1, 0, none⟩)) (.agg D) ?_ ?_ w3 hst ?_); exact rfl; exact rfl))
  exact bodyPost_ret (results_cell_row (p := 4) (ty := 37) (by kernel_rfl) _ _ (w.heap.size + 1 + 1) 37 _ (0, 0) _ rfl HT.out.1 Try.underlying37 rfl hfi) rfl ⟨rfl, HT.out.2⟩
/-- The fields of a flow in a block. -/
theorem flC_src {a : Fl} {w : World} {g : Nat} (hg : FlAt w g a) : w.rangeAt g 0 (adC a.src) := rangeAt_block hg fun j u hu => by
  have hj := (List.getElem?_eq_some_iff.1 hu).1
  rw [flC, Nat.zero_add, List.getElem?_append_left hj]
  exact hu
theorem flC_dst {a : Fl} (ha : a.Wide) {w : World} {g : Nat} (hg : FlAt w g a) : w.rangeAt g 17 (adC a.dst) := rangeAt_block hg fun j u hu => by
  have hj := (List.getElem?_eq_some_iff.1 hu).1
  have l1 := adC_length ha.1
  rw [flC, List.getElem?_append_right (by omega), l1, Nat.add_sub_cancel_left, List.getElem?_append_left hj]
  exact hu
theorem flC_rest {a : Fl} (ha : a.Wide) {w : World} {g : Nat} (hg : FlAt w g a) : w.cell? ⟨g, 34, none⟩ = some (.int .u16 (a.sport : Int)) ∧ w.cell? ⟨g, 35, none⟩ = some (.int .u16 (a.dport : Int)) ∧ w.cell? ⟨g, 36, none⟩ = some (.int .u8 (a.proto.toNat : Int)) := by
  have l1 := adC_length ha.1
  have l2 := adC_length ha.2.1
  refine ⟨?_, ?_, ?_⟩ <;> (rw [cell_of_row w g _ _ _ _ hg, List.getElem?_toArray, flC, List.getElem?_append_right (by omega), l1, List.getElem?_append_right (by omega), l2]; rfl)
theorem flC_six {a : Fl} {w : World} {g : Nat} (hg : FlAt w g a) : w.cell? ⟨g, 0, none⟩ = some (.bool a.src.six) := by
  rw [cell_of_row w g 0 _ _ _ hg]; rfl
theorem Fl.back_wide {f : Fl} (hf : f.Wide) : f.back.Wide := ⟨hf.2.1, hf.1, hf.2.2.2, hf.2.2.1⟩
/-- The law's flow. -/
def flSome : Fl := ⟨Ad.zero, Ad.zero, 5, 6, 17⟩
theorem flSome_wide : flSome.Wide := ⟨rfl, rfl, by decide, by decide⟩
theorem exec_bld3 {ρ : Operand → Value} {o : Oper} {t : TypeId} {k1 k2 k3 : Nat} {a1 a2 a3 : Operand} (ho : o.op = .build t #[(k1, a1), (k2, a2), (k3, a3)]) {u1 u2 u3 : Value} (h1 : ρ a1 = u1) (h2 : ρ a2 = u2) (h3 : ρ a3 = u3) {v : Value} {P : Program} {w : World} (hrun : (Instr.build t #[(k1, u1), (k2, u2), (k3, u3)]).run P w = .ok v w) : (execOp ρ o).run P w = .ok (.value v) w := by
  unfold execOp
  simp only [ho, List.map_toArray, List.map_cons, List.map_nil, h1, h2, h3, Sem.run_bind, hrun, Result.andThen_ok, Sem.run_pure]
set_option maxRecDepth 100000 in
theorem pkSome_any (w : World) : Calls Try.prog 22 #[] w fun e w' => e = .returned (flV flSome) ∧ Below w.heap.size w w' := by
  have hz : ∀ w, (zeroValue 37).run Try.prog w = .ok (.agg (flC Fl.zero).toArray) w := zero_fl
  have hbu : ∀ W, (Instr.build 37 #[(2, .int .u16 5), (3, .int .u16 6), (4, .int .u8 17)]).run Try.prog W = .ok (.agg (flC flSome).toArray) W := fun W => by kernel_rfl
  have hXb := up_alloc (Below.refl w.heap.size w) (.cells (flC Fl.zero).toArray 37)
  obtain ⟨w3, hst, hat, hgr, _⟩ := store_fl (a := Fl.zero) (b := flSome) (heap_alloc_last w (.cells (flC Fl.zero).toArray 37)) Fl.zero_wide flSome_wide
  have HT := Lib.hid (And.intro hat (grown_below hXb hgr (by omega)))
  have hfi := info_flA flSome_wide
  unfold FlAt at HT
  unfold flV at *
  clear hat hgr hXb
  generalize (flC flSome).toArray = D at *
  generalize (flC Fl.zero).toArray = Z at *
  go_enter Try.func22, Try.ntmps22
  go_wp2_with (first
    | (with_reducible refine wpList_alloc_zero (o := ⟨some 0, .alloc 37, _, _, _, _⟩) rfl 37 rfl Z hz ?_)
    | ((with_reducible refine wpList_run (o := ⟨some 1, .build 37 #[(2, .const (.int .u16 5)), (3, .const (.int .u16 6)), (4, .const (.int .u8 17))], _, _, _, _⟩) rfl (.agg D) (w.alloc (.cells Z 37)) ?_ ?_); exact exec_bld3 (k1 := 2) (k2 := 3) (k3 := 4) rfl (u1 := .int .u16 5) (u2 := .int .u16 6) (u3 := .int .u8 17) rfl rfl rfl (hbu _))
    | ((with_reducible refine wpList_stored (o := ⟨none, .store 37 (.tmp 0) (.tmp 1), _, _, _, none⟩) rfl 37 (.tmp 0) (.tmp 1) rfl (.pointer (some ⟨w.heap.size, 0, none⟩)) (.agg D) ?_ ?_ w3 hst ?_); exact rfl; exact rfl))
  exact bodyPost_ret (results_cell_row (p := 0) (ty := 37) (by kernel_rfl) _ _ w.heap.size 37 _ (0, 0) _ rfl HT.out.1 Try.underlying37 rfl hfi) rfl ⟨rfl, HT.out.2⟩
theorem sxWalk_pos : ∀ (k : Nat) (h : Hd) (r : List UInt8) (n : Nat), h.pos = (n : Int) → (sxWalk k h r).1 = 0 → ∃ m : Nat, (sxWalk k h r).2.pos = (m : Int) ∧ n ≤ m ∧ m ≤ n + r.length
  | 0, h, r, n, hp, he => by
    unfold sxWalk at he ⊢
    split at he
    · simp at he
    · rename_i hs
      rw [if_neg hs]
      exact ⟨n, hp, Nat.le_refl _, by omega⟩
  | k + 1, h, r, n, hp, he => by
    unfold sxWalk at he ⊢
    split at he
    · rename_i hs
      rw [if_pos hs]
      split at he
      · simp at he
      · rename_i h0
        rw [if_neg h0]
        split at he
        · simp at he
        · rename_i h1
          rw [if_neg h1]
          have hz : ¬ r.length < 8 ∧ ¬ r.length < sxSize h.proto r := by
            unfold sxPassE at h1
            split at h1
            · omega
            · rename_i h2; exact ⟨fun e => h2 (.inl e), fun e => h2 (.inr e)⟩
          obtain ⟨m, e1, e2, e3⟩ := sxWalk_pos k (sxNext h r) (r.drop (sxSize h.proto r)) (n + sxSize h.proto r) (by show h.pos + _ = _; rw [hp]; rfl) he
          rw [List.length_drop] at e3
          exact ⟨m, e1, by omega, by omega⟩
    · rename_i hs
      rw [if_neg hs]
      exact ⟨n, hp, Nat.le_refl _, by omega⟩
theorem sxRead_pos {l : List UInt8} (h : sxErr l = 0) : ∃ m : Nat, (sxRead l).pos = (m : Int) ∧ 40 ≤ m ∧ m ≤ l.length ∧ l.length ≤ 2048 := by
  have h1 : sxE1 l = 0 := by
    by_cases h1 : sxE1 l = 0
    · exact h1
    · rw [sxErr_one h1] at h; exact absurd h h1
  obtain ⟨g1, g2, _⟩ := sxE1_no h1
  obtain ⟨m, e1, e2, e3⟩ := sxWalk_pos 8 (sxFirst l) (l.drop 40) 40 rfl (by rw [← sxErr_two h1]; exact h)
  rw [List.length_drop] at e3
  refine ⟨m, ?_, e2, by omega, g1⟩
  unfold sxRead
  rw [if_pos h]
  exact e1
theorem ifRead_pos {l : List UInt8} (h : ifErr l = 0) : ∃ m : Nat, (ifRead l).pos = (m : Int) ∧ 20 ≤ m ∧ m ≤ l.length ∧ l.length ≤ 2048 := by
  have h1 : ifE1 l = 0 := by
    by_cases h1 : ifE1 l = 0
    · exact h1
    · rw [ifErr_one h1] at h; exact absurd h h1
  obtain ⟨g1, g2, _, g4, g5, _⟩ := ifE1_no h1
  refine ⟨ifN l, ?_, g4, g5, g1⟩
  unfold ifRead
  rw [if_pos h]
  show ((l.take (ifN l)).length : Int) = _
  rw [List.length_take, Nat.min_eq_left g5]
/-- What read says: an error, and a head. -/
def pkRE (l : List UInt8) : Nat := if l.length = 0 then 9 else if pkHi l = 4 then ifErr l else if pkHi l = 6 then sxErr l else 12
def pkRH (l : List UInt8) : Hd := if l.length = 0 then Hd.zero else if pkHi l = 4 then ifRead l else if pkHi l = 6 then sxRead l else Hd.zero
theorem pkRH_wide (l : List UInt8) : (pkRH l).Wide := by
  unfold pkRH
  split
  · exact Hd.zero_wide
  · split
    · exact ifRead_wide l
    · split
      · exact sxRead_wide l
      · exact Hd.zero_wide
theorem pkRE_pos {l : List UInt8} (h : pkRE l = 0) : ∃ m : Nat, (pkRH l).pos = (m : Int) ∧ 20 ≤ m ∧ m ≤ l.length ∧ l.length ≤ 2048 := by
  unfold pkRE at h
  unfold pkRH
  split at h
  · simp at h
  · rename_i h0
    rw [if_neg h0]
    split at h
    · rename_i h1; rw [if_pos h1]; exact ifRead_pos h
    · rename_i h1
      rw [if_neg h1]
      split at h
      · rename_i h2
        rw [if_pos h2]
        obtain ⟨m, e1, e2, e3, e4⟩ := sxRead_pos h
        exact ⟨m, e1, by omega, e3, e4⟩
      · simp at h
/-- What is wrong with a packet, by what read says. -/
theorem pkErr_is (l : List UInt8) : pkErr l = if pkRE l ≠ 0 then pkRE l else if (pkRH l).part then 13 else sgErr (pkRH l) (l.drop (pkRH l).pos.toNat) := by
  unfold pkErr pkBehind pkRE pkRH pkE pkH
  by_cases h0 : l.length = 0
  · rw [if_pos h0, if_pos h0, if_pos (by omega)]
  · rw [if_neg h0, if_neg h0, if_neg h0]
    by_cases h4 : pkHi l = 4
    · rw [if_neg (by omega), if_pos h4, if_pos h4, if_pos h4, if_pos h4]
    · by_cases h6 : pkHi l = 6
      · rw [if_neg (by omega), if_neg h4, if_neg h4, if_neg h4, if_neg h4, if_pos h6, if_pos h6]
      · rw [if_pos ⟨h4, h6⟩, if_neg h4, if_neg h6, if_pos (by omega)]
theorem pkRead_is {l : List UInt8} (h : pkErr l = 0) : pkRead l = ⟨pkRH l, sgRead (pkRH l) (l.drop (pkRH l).pos.toNat), pkFlow (pkRH l) (sgRead (pkRH l) (l.drop (pkRH l).pos.toNat))⟩ := by
  have e : pkH l = pkRH l := by
    obtain ⟨h1, _⟩ := pkErr_parts h
    have h0 : l.length ≠ 0 := fun h0 => by unfold pkErr at h; rw [if_pos h0] at h; omega
    unfold pkH pkRH
    rw [if_neg h0]
    by_cases h4 : pkHi l = 4
    · rw [if_pos h4, if_pos h4]
    · rw [if_neg h4, if_neg h4, if_pos (by omega)]
  unfold pkRead pkSg pkFlow
  rw [if_pos h, e]
theorem sgRead_ports (h : Hd) (b : List UInt8) : (sgRead h b).src < 65536 ∧ (sgRead h b).dst < 65536 := by
  unfold sgRead sgHd
  split
  · split <;> exact ⟨num2_lt _ _, num2_lt _ _⟩
  · exact ⟨by decide, by decide⟩
set_option maxRecDepth 100000 in
set_option maxHeartbeats 1000000 in
theorem pkRead1_any {A : Option Addr} {c : Nat} {l : List UInt8} {w : World} (hr : Rd w w.heap.size (.slice A l.length c) (cellsB l)) :
    Calls Try.prog 41 #[.slice A l.length c] w fun e w' => e = .returned (.tuple #[hdV (pkRH l), .int .i64 ((pkRE l : Nat) : Int)]) ∧ Below w.heap.size w w' := by
  have hz : ∀ w, (zeroValue 33).run Try.prog w = .ok (.agg (hdC Hd.zero).toArray) w := zero_hd
  have hbu : ∀ W, (Instr.build 33 #[]).run Try.prog W = .ok (.agg (hdC Hd.zero).toArray) W := build_hd0
  obtain ⟨X, hX⟩ : ∃ X, X = w.alloc (.cells (hdC Hd.zero).toArray 33) := ⟨_, rfl⟩
  have hXs : X.heap.size = w.heap.size + 1 := by rw [hX]; simp
  have h0 : X.heap[w.heap.size]? = some (.cells (hdC Hd.zero).toArray 33 (0, 0)) := by rw [hX]; exact heap_alloc_last w _
  have hb0 : Below w.heap.size w X := by rw [hX]; exact up_alloc (Below.refl _ _) _
  have hrX : Rd X X.heap.size (.slice A l.length c) (cellsB l) := (hr.below hb0).more hb0.size
  have hS : Hid (∀ y : Hd, y.Wide → ∀ W, Below X.heap.size X W → ∃ W', (Instr.storeAt 33 (.pointer (some ⟨w.heap.size, 0, none⟩)) (.agg (hdC y).toArray)).run Try.prog W = .ok () W' ∧ HdAt W' w.heap.size y ∧ Below w.heap.size w W') := Lib.hid fun y hy W hW => by
    obtain ⟨W', hst, hat, hgr, _⟩ := store_hd (w := W) (g := w.heap.size) (a := Hd.zero) (b := y) ((hW.block _ (by omega)).trans h0) Hd.zero_wide hy
    exact ⟨W', hst, hat, grown_below (up hb0 hW) hgr (Nat.le_refl _)⟩
  obtain ⟨m, hm⟩ : ∃ m, m = l.length := ⟨_, rfl⟩
  by_cases hn : m = 0
  · have e1 : pkRE l = 9 := by unfold pkRE; rw [if_pos (by omega)]
    have e2 : pkRH l = Hd.zero := by unfold pkRH; rw [if_pos (by omega)]
    rw [e1, e2, ← hm, hn]
    obtain ⟨w3, hst, hat, hbel⟩ := hS.out Hd.zero Hd.zero_wide _ (Below.refl _ _)
    have HT := Lib.hid (And.intro hat hbel)
    unfold hdV
    clear hat hbel e1 e2 hr hrX h0 hb0 hS hXs hm hn
    subst hX
    generalize hZ : hdC Hd.zero = Z at *
    have HZ := Lib.hid hZ
    clear hZ
    go_enter Try.func41, Try.ntmps41
    go_wp2_with (first
      | (with_reducible refine wpList_alloc_zero (o := ⟨some 2, .alloc 33, _, _, _, _⟩) rfl 33 rfl Z.toArray hz ?_)
      | ((with_reducible refine wpList_stored (o := ⟨none, .store 33 (.tmp 2) (.tmp 7), _, _, _, none⟩) rfl 33 (.tmp 2) (.tmp 7) rfl (.pointer (some ⟨w.heap.size, 0, none⟩)) (.agg Z.toArray) ?_ ?_ w3 hst ?_); exact rfl; exact rfl))
    exact bodyPost_ret (ret_hd (p := 2) (q := 3) (by kernel_rfl) rfl HT.out.1 Hd.zero_wide rfl) rfl ⟨by rw [← HZ.out]; rfl, HT.out.2⟩
  obtain ⟨b, o, hA, hbl, hc⟩ := hrX.addr (by omega)
  have c0 := hc 0 (by omega)
  rw [Nat.add_zero] at c0
  obtain ⟨x, hx⟩ : ∃ x, x = l[0]'(by omega) := ⟨_, rfl⟩
  have hgx : (l.getD 0 0).toNat = x.toNat := by rw [hx, List.getD_eq_getElem?_getD, List.getElem?_eq_getElem (by omega)]; rfl
  rw [← hx] at c0
  have hxl := x.toNat_lt
  obtain ⟨p, hp⟩ : ∃ p, p = x.toNat / 16 := ⟨_, rfl⟩
  have hHi : pkHi l = p := by unfold pkHi; rw [hgx, hp]
  have k2 : (x.toNat : Int) / 16 = (p : Int) := by omega
  have e1 : pkRE l = if p = 4 then ifErr l else if p = 6 then sxErr l else 12 := by unfold pkRE; rw [if_neg (by omega), hHi]
  have e2 : pkRH l = if p = 4 then ifRead l else if p = 6 then sxRead l else Hd.zero := by unfold pkRH; rw [if_neg (by omega), hHi]
  have q4 := ifRead_any hrX
  have q6 := sxRead_any hrX
  subst hA
  rw [e1, e2, ← hm]
  rw [← hm] at q4 q6
  have hn0 : ((m : Int) == 0) = false := beq_zero hn
  have hm1 : 0 < m := by omega
  by_cases p4 : p = 4
  · rw [if_pos p4, if_pos p4]
    rw [p4] at k2
    have hyw := ifRead_wide l
    have hSy := Lib.hid (hS.out (ifRead l) hyw)
    have Q := Lib.hid q4
    have Hw := Lib.hid hyw
    clear hS q4 q6 e1 e2 hHi hp hgx hx hc hbl hr hrX h0 hb0 hXs p4 hyw hm hn
    unfold hdV at *
    generalize ifRead l = y at *
    generalize ifErr l = E at *
    generalize hD : hdC y = D at *
    have HD := Lib.hid hD
    clear hD
    subst hX
    generalize hdC Hd.zero = Z at *
    go_enter Try.func41, Try.ntmps41
    go_wp2_with (first
      | (with_reducible refine wpList_alloc_zero (o := ⟨some 2, .alloc 33, _, _, _, _⟩) rfl 33 rfl Z.toArray hz ?_)
      | (go_at_call 52; refine Q.out.mono ?_; rintro _ w1 ⟨rfl, hb1⟩; obtain ⟨w3, hst, hat, hbel⟩ := hSy.out _ hb1; have HT := Lib.hid (And.intro hat hbel); clear hat hbel hb1)
      | ((with_reducible refine wpList_stored (o := ⟨none, .store 33 (.tmp 2) (.tmp 16), _, _, _, none⟩) rfl 33 (.tmp 2) (.tmp 16) rfl (.pointer (some ⟨w.heap.size, 0, none⟩)) (.agg D.toArray) ?_ ?_ w3 hst ?_); exact rfl; exact rfl))
    exact bodyPost_ret (ret_hd (p := 2) (q := 3) (by kernel_rfl) rfl HT.out.1 Hw.out rfl) rfl ⟨by rw [← HD.out]; rfl, HT.out.2⟩
  · rw [if_neg p4, if_neg p4]
    by_cases p6 : p = 6
    · rw [if_pos p6, if_pos p6]
      rw [p6] at k2
      have hyw := sxRead_wide l
      have hSy := Lib.hid (hS.out (sxRead l) hyw)
      have Q := Lib.hid q6
      have Hw := Lib.hid hyw
      clear hS q4 q6 e1 e2 hHi hp hgx hx hc hbl hr hrX h0 hb0 hXs p4 p6 hyw hm hn
      unfold hdV at *
      generalize sxRead l = y at *
      generalize sxErr l = E at *
      generalize hD : hdC y = D at *
      have HD := Lib.hid hD
      clear hD
      subst hX
      generalize hdC Hd.zero = Z at *
      go_enter Try.func41, Try.ntmps41
      go_wp2_with (first
        | (with_reducible refine wpList_alloc_zero (o := ⟨some 2, .alloc 33, _, _, _, _⟩) rfl 33 rfl Z.toArray hz ?_)
        | (go_at_call 53; refine Q.out.mono ?_; rintro _ w1 ⟨rfl, hb1⟩; obtain ⟨w3, hst, hat, hbel⟩ := hSy.out _ hb1; have HT := Lib.hid (And.intro hat hbel); clear hat hbel hb1)
        | ((with_reducible refine wpList_stored (o := ⟨none, .store 33 (.tmp 2) (.tmp 22), _, _, _, none⟩) rfl 33 (.tmp 2) (.tmp 22) rfl (.pointer (some ⟨w.heap.size, 0, none⟩)) (.agg D.toArray) ?_ ?_ w3 hst ?_); exact rfl; exact rfl))
      exact bodyPost_ret (ret_hd (p := 2) (q := 3) (by kernel_rfl) rfl HT.out.1 Hw.out rfl) rfl ⟨by rw [← HD.out]; rfl, HT.out.2⟩
    · rw [if_neg p6, if_neg p6]
      obtain ⟨w3, hst, hat, hbel⟩ := hS.out Hd.zero Hd.zero_wide _ (Below.refl _ _)
      have HT := Lib.hid (And.intro hat hbel)
      have p4' : ((p : Int) == 4) = false := by simp; omega
      have p6' : ((p : Int) == 6) = false := by simp; omega
      clear hat hbel hS q4 q6 e1 e2 hHi hp hgx hx hc hbl hr hrX h0 hb0 hXs p4 p6 hm hn
      unfold hdV
      subst hX
      generalize hZ : hdC Hd.zero = Z at *
      have HZ := Lib.hid hZ
      clear hZ
      go_enter Try.func41, Try.ntmps41
      go_wp2_with (first
        | (with_reducible refine wpList_alloc_zero (o := ⟨some 2, .alloc 33, _, _, _, _⟩) rfl 33 rfl Z.toArray hz ?_)
        | ((with_reducible refine wpList_stored (o := ⟨none, .store 33 (.tmp 2) (.tmp 24), _, _, _, none⟩) rfl 33 (.tmp 2) (.tmp 24) rfl (.pointer (some ⟨w.heap.size, 0, none⟩)) (.agg Z.toArray) ?_ ?_ w3 hst ?_); exact rfl; exact rfl))
      exact bodyPost_ret (ret_hd (p := 2) (q := 3) (by kernel_rfl) rfl HT.out.1 Hd.zero_wide rfl) rfl ⟨by rw [← HZ.out]; rfl, HT.out.2⟩
end Go.Proofs.Ytejppekcniehpaa
