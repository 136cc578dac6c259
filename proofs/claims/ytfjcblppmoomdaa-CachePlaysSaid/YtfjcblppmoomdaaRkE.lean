/-
  A region that draws its order and ends in stores that wait for all reads: what the reads need must hold behind each operation, but not behind those stores.
  The document's device: New, Flush, Crash: contracts.
-/
import Derived.Test.YtfjcblppmoomdaaRkB
import Derived.Test.YtfjcblppmoomdaaLate
namespace Go.Proofs.Ytfjcblppmoomdaa
open Go.RowKit
section
variable {w w' : World} {G G' Z Z' : Nat → Prop} {q : Nat} {vL vA vB : Value} {ls bs : List Value} {x : Ref}
theorem ne_of_kind {w : World} {a b : Nat} {c d : Array Value} {t u : TypeId} (ha : w.heap[a]? = some (.cells c t (0, 0))) (hb : w.heap[b]? = some (.cells d u (0, 0))) (hne : t ≠ u) : a ≠ b := fun e => by
  subst e
  rw [ha] at hb
  injection hb with hb
  injection hb with _ ht
  exact hne ht
/-- The writes that wait, one of them. -/
theorem RefIs.wait_at (h : RefIs w G Z q vL vA vB ls bs x) {k : Nat} (hk : k < x.W.length) : ∃ (gA cA gB cB gu cu s : Nat) (l : List UInt8), vA = .slice (some ⟨gA, 0, none⟩) x.W.length cA ∧ vB = .slice (some ⟨gB, 0, none⟩) x.W.length cB ∧
    w.cell? ⟨q, 1, none⟩ = some (.slice (some ⟨gA, 0, none⟩) x.W.length cA) ∧ w.cell? ⟨q, 2, none⟩ = some (.slice (some ⟨gB, 0, none⟩) x.W.length cB) ∧ w.cell? ⟨gA, k, none⟩ = some (.int .i64 (s : Int)) ∧ w.cell? ⟨gB, k, none⟩ = some (.slice (some ⟨gu, 0, none⟩) 256 cu) ∧
    SecIs w Z (.slice (some ⟨gu, 0, none⟩) 256 cu) l ∧ x.W[k]? = some ((s : Nat), l) ∧ s < x.L.length ∧ gB ≠ q ∧ gB ≠ gA ∧ gA ≠ q ∧ G gB ∧ gA < w.heap.size ∧ gB < w.heap.size ∧ w.frozen? ⟨gB, k, none⟩ = false := by
  have hlb : bs.length = x.W.length := by rw [h.eB.1, List.length_map]
  have hla : (cellsN (x.W.map (·.1))).length = x.W.length := by rw [cellsN_length, List.length_map]
  obtain ⟨gA, cA, cur, eA, hgA, _⟩ := h.rA.at_ (by omega)
  obtain ⟨gB, cB, cur', eB, hgB, _⟩ := h.rB.at_ (by omega)
  rw [hla] at eA
  rw [hlb] at eB
  obtain ⟨u, hu, hsec⟩ := h.eB.at_ (k := k) (by rw [List.length_map]; exact hk)
  obtain ⟨gu, cu, eu, _⟩ := hsec.at_
  rw [List.getElem_map] at hsec
  have h1 := h.rA
  have h2 := h.rB
  have h3 := h.c1
  have h4 := h.c2
  have h5 := h.inG.2.2.2
  rw [eA] at h1 h3
  rw [eB] at h2 h4 h5
  rw [eu] at hsec hu
  refine ⟨gA, cA, gB, cB, gu, cu, x.W[k].1, x.W[k].2, eA, eB, h3, h4, h1.cellAt ?_, h2.cellAt hu, hsec, List.getElem?_eq_getElem hk, h.at_ _ (List.getElem_mem hk), ne_of_kind hgB h.top (by decide), ne_of_kind hgB hgA (by decide), ne_of_kind hgA h.top (by decide), h5 gB rfl, h1.lt.2, h2.lt.2, h2.free k⟩
  rw [cellsN_at _ k (by rw [List.length_map]; exact hk), List.getElem_map]
/-- How many writes wait. -/
theorem RefIs.wait_len (h : RefIs w G Z q vL vA vB ls bs x) : ∃ A c, w.cell? ⟨q, 1, none⟩ = some (.slice A x.W.length c) := by
  obtain ⟨A, c, hA⟩ := h.rA.form
  rw [cellsN_length, List.length_map] at hA
  exact ⟨A, c, by rw [← hA]; exact h.c1⟩
theorem Mine.cell_other {base : Nat} {e : TypeId} {v : Value} {xs : List Value} (h : Mine w base e v xs) {g j : Nat} {u : Value} (hne : v.ownBlock ≠ some g) : Mine (w.setCell ⟨g, j, none⟩ u) base e v xs := h.keep fun k hk => heap_setCell_other w _ k u (fun e => hne (by rw [hk, e]))
/-- A sector that lasts is another one now. -/
theorem RefIs.set_last (h : RefIs w G Z q vL vA vB ls bs x) {g n c i : Nat} (hL : vL = .slice (some ⟨g, 0, none⟩) n c) {u : Value} {l : List UInt8} (hu : SecIs w Z u l) : RefIs (w.setCell ⟨g, i, none⟩ u) G Z q vL vA vB (ls.set i u) bs { x with L := x.L.set i l } := by
  have hg := grown_cell w g i u
  have hrL := h.rL
  have hrL' := h.rL
  rw [hL] at hrL
  obtain ⟨cur, hcur⟩ := hrL.held rfl
  have h5 : ∀ k cur, some g = some k → w.heap[k]? ≠ some (.cells cur 5 (0, 0)) := fun k cur e => h.rL.no5 (by decide) k cur (by rw [hL]; exact e)
  refine ⟨?_, ?_, ?_, ?_, ?_, ?_, h.apart, h.inG, ?_, h.few, ?_, h.fuse⟩
  · exact (heap_setCell_other w ⟨g, i, none⟩ q u (ne_of_kind h.top hcur (by decide))).trans h.top
  · have := hrL.stored i u
    rwa [← hL] at this
  · exact h.rA.cell_other fun e => by
      obtain ⟨c2, h2⟩ := h.rA.held e
      exact ne_of_kind hcur h2 (by decide) rfl
  · refine h.rB.cell_other fun e => ?_
    rcases h.apart with h1 | h1
    · rw [hL] at h1; cases h1
    · exact h1 (by rw [e, hL]; rfl)
  · exact (h.eL.other hg h5).set i (hu.other hg h5)
  · exact h.eB.other hg h5
  · intro y hy
    rw [List.length_set]
    exact h.at_ y hy
  · rw [List.length_set]; exact h.size
end
theorem rinfo_u8 : (Try.prog.info? 5).map (fun i => (i.zero, i.size, i.bytes)) = some (some (.int .u8 0), 1, 1) := by kernel_rfl
/-- A write of sector i. -/
def Ref.put (x : Ref) (i : Nat) (l : List UInt8) : Ref := { x with W := x.W ++ [(i, l)], n := x.n + 1 }
section
variable {w w' : World} {G G' Z Z' : Nat → Prop} {q : Nat} {vL vA vB : Value} {ls bs : List Value} {x : Ref}
theorem SecIs.keepOf {u : Value} {l : List UInt8} (h : SecIs w G u l) (hk : ∀ (k : Nat) (cur : Array Value), w.heap[k]? = some (.cells cur 5 (0, 0)) → w'.heap[k]? = w.heap[k]?) : SecIs w' G u l :=
  ⟨h.1, h.2.1.keep fun g hg => by obtain ⟨cur, hc⟩ := h.2.1.held hg; exact hk g cur hc, h.2.2⟩
theorem Elems.keepOf {vs : List Value} {ll : List (List UInt8)} (h : Elems w G vs ll) (hk : ∀ (k : Nat) (cur : Array Value), w.heap[k]? = some (.cells cur 5 (0, 0)) → w'.heap[k]? = w.heap[k]?) : Elems w' G vs ll := ⟨h.1, fun k u l a b => (h.2 k u l a b).keepOf hk⟩
theorem RefIs.put {w0 w3 w4 w6 : World} (h : RefIs w0 G Z q vL vA vB ls bs x) (hG : ∀ k, w0.heap.size ≤ k → G k) (hZ : ∀ k, w0.heap.size ≤ k → Z k) {i : Nat} (hi : i < x.L.length) {l : List UInt8} (hl : l.length = 256) {vA' vB' E v5 : Value} {o : Obj}
    (rA3 : Mine w3 0 3 vA' (cellsN (x.W.map (·.1)) ++ [.int .i64 (i : Int)])) (g3 : w0.grownBy w3 vA.ownBlock) (oA : vA'.ownBlock = vA.ownBlock ∨ ∀ k, vA'.ownBlock = some k → w0.heap.size ≤ k)
    (mE : Mine w3 w0.heap.size 5 E []) (g4 : w3.grownBy w4 E.ownBlock) (m5 : Mine w4 w0.heap.size 5 v5 (cellsB l))
    (rB6 : Mine w6 0 51 vB' (bs ++ [v5])) (g6 : (w4.alloc o).grownBy w6 vB.ownBlock) (oB : vB'.ownBlock = vB.ownBlock ∨ ∀ k, vB'.ownBlock = some k → w0.heap.size ≤ k) :
    RefIs (((w6.setCell ⟨q, 1, none⟩ vA').setCell ⟨q, 2, none⟩ vB').setCell ⟨q, 7, none⟩ (.int .i64 ((x.n : Int) + 1))) G Z q vL vA' vB' ls (bs ++ [v5]) (x.put i l) ∧
      Only G w0 (((w6.setCell ⟨q, 1, none⟩ vA').setCell ⟨q, 2, none⟩ vB').setCell ⟨q, 7, none⟩ (.int .i64 ((x.n : Int) + 1))) := by
  have hE : ∀ k, E.ownBlock = some k → w0.heap.size ≤ k := fun k hk => (mE.block k hk).1
  have s3 := g3.size
  have s4 := g4.size
  have s6 := g6.size
  rw [World.size_alloc] at s6
  have nqA : vA.ownBlock ≠ some q := h.rA.notAt h.top (by decide)
  have nqB : vB.ownBlock ≠ some q := h.rB.notAt h.top (by decide)
  have nqL : vL.ownBlock ≠ some q := h.rL.notAt h.top (by decide)
  have hq := h.lt
  have nAB : vB.ownBlock = none ∨ vB.ownBlock ≠ vA.ownBlock := h.rB.apart h.rA (by decide)
  have nAL : vL.ownBlock = none ∨ vL.ownBlock ≠ vA.ownBlock := h.rL.apart h.rA (by decide)
  have hold : ∀ k, k < w0.heap.size → some k ≠ vA.ownBlock → some k ≠ vB.ownBlock → w6.heap[k]? = w0.heap[k]? := fun k hk h1 h2 =>
    (g6.block k (by rw [World.size_alloc]; omega) h2).trans ((heap_alloc_old w4 o (by omega)).trans ((g4.block k (by omega) (fun e => by have := hE k e.symm; omega)).trans (g3.block k hk h1)))
  have top6 : w6.heap[q]? = some (.cells (refCells x vL vA vB).toArray 46 (0, 0)) := (hold q hq (fun e => nqA e.symm) (fun e => nqB e.symm)).trans h.top
  have t1 := heap_setCell_same w6 q 1 _ 46 vA' top6
  have t2 := heap_setCell_same (w6.setCell ⟨q, 1, none⟩ vA') q 2 _ 46 vB' t1
  have t3 := heap_setCell_same ((w6.setCell ⟨q, 1, none⟩ vA').setCell ⟨q, 2, none⟩ vB') q 7 _ 46 (.int .i64 ((x.n : Int) + 1)) t2
  obtain ⟨w9, hw9⟩ : ∃ w9, w9 = ((w6.setCell ⟨q, 1, none⟩ vA').setCell ⟨q, 2, none⟩ vB').setCell ⟨q, 7, none⟩ (.int .i64 ((x.n : Int) + 1)) := ⟨_, rfl⟩
  have o9 : ∀ k, k ≠ q → w9.heap[k]? = w6.heap[k]? := fun k hk => by
    rw [hw9]
    exact (heap_setCell_other _ _ k _ hk).trans ((heap_setCell_other _ _ k _ hk).trans (heap_setCell_other _ _ k _ hk))
  rw [← hw9] at t3 ⊢
  have s9 : w6.heap.size ≤ w9.heap.size := by rw [hw9]; simp
  -- the rows
  have mB4 : Mine (w4.alloc o) 0 51 vB bs := by
    refine (Mine.grown (Mine.grown h.rB g3 nAB) g4 ?_).alloc o
    rcases hb : vB.ownBlock with _ | k
    · exact .inl rfl
    · right
      intro e
      have h1 := hE k e.symm
      have h2 := (h.rB.block k hb).2
      omega
  have mA4 : Mine w6 0 3 vA' (cellsN (x.W.map (·.1)) ++ [.int .i64 (i : Int)]) := by
    have h1 : Mine (w4.alloc o) 0 3 vA' (cellsN (x.W.map (·.1)) ++ [.int .i64 (i : Int)]) := (rA3.grown g4 (rA3.apart mE (by decide))).alloc o
    exact h1.grown g6 (h1.apart mB4 (by decide))
  have m56 : Mine w6 w0.heap.size 5 v5 (cellsB l) := (m5.alloc o).grown g6 ((m5.alloc o).apart mB4 (by decide))
  have k5 : ∀ (k : Nat) (cur : Array Value), w0.heap[k]? = some (.cells cur 5 (0, 0)) → w9.heap[k]? = w0.heap[k]? := fun k cur hc => by
    refine (o9 k (fun e => ne_of_kind hc h.top (by decide) e)).trans (hold k (Array.getElem?_eq_some_iff.1 hc).1 (fun e => ?_) (fun e => ?_))
    · exact h.rA.no5 (by decide) k cur e.symm hc
    · exact h.rB.no5 (by decide) k cur e.symm hc
  have top6' : w6.heap[q]? = some (.cells (refCells x vL vA vB).toArray 46 (0, 0)) := top6
  refine ⟨⟨?_, ?_, ?_, ?_, ?_, ?_, ?_, ?_, ?_, ?_, h.size, h.fuse⟩, ?_, ?_, ?_, ?_, ?_⟩
  · simpa [refCells, Ref.put] using t3
  · refine h.rL.keep fun k hk => (o9 k (fun e => nqL (by rw [hk, e]))).trans (hold k (h.rL.block k hk).2 (fun e => ?_) (fun e => ?_))
    · rcases nAL with h1 | h1
      · rw [h1] at hk; cases hk
      · exact h1 (hk.trans e)
    · rcases h.apart with h1 | h1
      · rw [h1] at hk; cases hk
      · exact h1 (hk.trans e)
  · have e : cellsN ((x.put i l).W.map (·.1)) = cellsN (x.W.map (·.1)) ++ [.int .i64 (i : Int)] := by simp [Ref.put, cellsN]
    rw [e]
    exact mA4.keep fun k hk => o9 k fun e => mA4.notAt top6' (by decide) (by rw [hk, e])
  · exact rB6.keep fun k hk => o9 k fun e => rB6.notAt top6' (by decide) (by rw [hk, e])
  · exact h.eL.keepOf k5
  · have e : (x.put i l).W.map (·.2) = x.W.map (·.2) ++ [l] := by simp [Ref.put]
    rw [e]
    refine (h.eB.keepOf k5).snoc ⟨hl, ?_, fun k hk => hZ k (m5.block k hk).1⟩
    exact (m56.keep fun k hk => o9 k fun e => m56.notAt top6' (by decide) (by rw [hk, e])).weaken (Nat.zero_le _)
  · rcases oB with h1 | h1
    · rw [h1]; exact h.apart
    · rcases hb : vL.ownBlock with _ | k
      · exact .inl rfl
      · right
        intro e
        have h2 := h1 k e.symm
        have h3 := (h.rL.block k hb).2
        omega
  · refine ⟨h.inG.1, h.inG.2.1, fun k hk => ?_, fun k hk => ?_⟩
    · rcases oA with h1 | h1
      · exact h.inG.2.2.1 k (by rw [← h1]; exact hk)
      · exact hG k (h1 k hk)
    · rcases oB with h1 | h1
      · exact h.inG.2.2.2 k (by rw [← h1]; exact hk)
      · exact hG k (h1 k hk)
  · intro y hy
    rcases List.mem_append.1 hy with h1 | h1
    · exact h.at_ y h1
    · simp at h1; subst h1; exact hi
  · have := h.few
    simp [Ref.put]; omega
  · rw [hw9]; exact g6.os.trans (g4.os.trans g3.os)
  · rw [hw9]; exact g6.tape.trans (g4.tape.trans g3.tape)
  · rw [hw9]; exact g6.output.trans (g4.output.trans g3.output)
  · omega
  · intro k hk hn
    exact (o9 k (fun e => hn (e ▸ h.inG.1))).trans (hold k hk (fun e => hn (h.inG.2.2.1 k e.symm)) (fun e => hn (h.inG.2.2.2 k e.symm)))
end
theorem rd_block {w : World} {bb : Nat} {l : List UInt8} {t : TypeId} (h : w.heap[bb]? = some (.cells (cellsB l).toArray t (0, 0))) (hl : l.length = 256) : Rd w w.heap.size (.slice (some ⟨bb, 0, none⟩) 256 256) (cellsB l) := by
  refine ⟨some ⟨bb, 0, none⟩, 256, by rw [cellsB_length, hl], by rw [cellsB_length, hl]; omega, by unfold maxLen; omega, (fun h => by cases h), fun _ => ⟨bb, 0, rfl, (Array.getElem?_eq_some_iff.1 h).1, fun j v hv => ?_⟩⟩
  rw [Nat.zero_add, cell_of_row w bb j _ t (0, 0) h]
  simpa using hv
section
variable {w w' : World} {G G' Z Z' : Nat → Prop} {q : Nat} {vL vA vB : Value} {ls bs : List Value} {x : Ref}
set_option maxRecDepth 100000 in
set_option maxHeartbeats 4000000 in
theorem rwrite_ok {i bb cb : Nat} {l : List UInt8} (h : RefIs w G Z q vL vA vB ls bs x) (hi : i < x.L.length) (hb : x.burns 2 = false) (hn : x.n < 1000000) (hbb : SecIs w Z (.slice (some ⟨bb, 0, none⟩) 256 cb) l) (hbG : ¬ G bb) (hG : ∀ k, w.heap.size ≤ k → G k) (hZ : ∀ k, w.heap.size ≤ k → Z k) :
    Calls Try.prog 57 #[at0 q, .int .i64 (i : Int), .slice (some ⟨bb, 0, none⟩) 256 cb] w fun e w' => ∃ vA' vB' bs', e = .returned (.int .i64 0) ∧ RefIs w' G Z q vL vA' vB' ls bs' ((x.burn 2).put i l) ∧ Only G w w' := by
  have hh := Lib.hid (rhas_in h hi)
  have hf := burns_any h (k := 2) (by omega)
  rw [hb] at hf
  have Hf := Lib.hid hf
  have hbs : bb < w.heap.size := (hbb.2.1.block bb rfl).2
  have hl := hbb.1
  obtain ⟨ti, ti0, ti1, ti2, ti3⟩ := info_parts info_int
  obtain ⟨tb, tb0, tb1, tb2, tb3⟩ := info_parts rinfo_u8
  obtain ⟨tr, tr0, tr1, tr2, tr3⟩ := info_parts info_row
  have Hi := Lib.hid hi
  obtain ⟨x1, hx1⟩ : ∃ x1, x1 = x.burn 2 := ⟨_, rfl⟩
  have Hi1 : i < x1.L.length := by rw [hx1]; exact hi
  have hn1 : x1.n < 1000000 := by rw [hx1]; exact hn
  rw [← hx1] at Hf ⊢
  clear hf h hb hi Hi hx1
  go_enter Try.func57, Try.ntmps57
  go_wp2_with (first
    | (go_at_call 68; refine hh.out.mono ?_; rintro e w' ⟨rfl, rfl⟩)
    | (go_at_call 69; refine Hf.out.mono ?_; rintro e w1 ⟨rfl, hd, ho⟩))
  have hG1 : ∀ k, w1.heap.size ≤ k → G k := fun k hk => hG k (Nat.le_trans ho.size hk)
  have hbb1 : SecIs w1.drew Z (.slice (some ⟨bb, 0, none⟩) 256 cb) l := ⟨hl, hbb.2.1.keep fun g e => (by injection e with e; subst e; exact ho.block bb hbs hbG), hbb.2.2⟩
  have hbs1 : bb < w1.drew.heap.size := (hbb1.2.1.block bb rfl).2
  have hZ1 : ∀ k, w1.heap.size ≤ k → Z k := fun k hk => hZ k (Nat.le_trans ho.size hk)
  have hd0 : RefIs w1.drew G Z q vL vA vB ls bs x1 := hd.keep (fun _ _ _ => rfl) (fun _ _ _ => rfl)
  have hsz0 : w1.drew.heap.size = w1.heap.size := rfl
  have hlt := hd0.lt
  have few := hd0.few
  have hlA : (cellsN (x1.W.map (·.1))).length ≤ 1000000 := by rw [cellsN_length, List.length_map]; omega
  have hlB : bs.length ≤ 1000000 := by rw [hd0.eB.1, List.length_map]; omega
  -- the append onto At, in each of the three orders
  obtain ⟨vA1, wA1, runA1, ownA1, gA1, obA1⟩ := run_append_rd (P := Try.prog) (w := w1.drew.alloc (.cells #[.int .i64 (i : Int)] 3)) 0 39 39 3 ti _ 8 Try.underlying39 ti0 ti1 ti2 ti3 rfl vA _ (hd0.rA.alloc _) _ _ _ (rd_one w1.drew (.int .i64 (i : Int)) 3) (by simp [Value.oneCell']) (by simp; omega) (by unfold maxLen; simp; omega) (Nat.zero_le _)
  obtain ⟨vA2, wA2, runA2, ownA2, gA2, obA2⟩ := run_append_rd (P := Try.prog) (w := (w1.drew.alloc (.cells #[.int .i64 (i : Int)] 3)).alloc (.cells #[] 5)) 0 39 39 3 ti _ 8 Try.underlying39 ti0 ti1 ti2 ti3 rfl vA _ ((hd0.rA.alloc _).alloc _) _ _ _ ((rd_one w1.drew (.int .i64 (i : Int)) 3).alloc (by simp) (.cells #[] 5)) (by simp [Value.oneCell']) (by simp; omega) (by unfold maxLen; simp; omega) (Nat.zero_le _)
  obtain ⟨vA3, wA3, runA3, ownA3, gA3, obA3⟩ := run_append_rd (P := Try.prog) (w := (w1.drew.alloc (.cells #[] 5)).alloc (.cells #[.int .i64 (i : Int)] 3)) 0 39 39 3 ti _ 8 Try.underlying39 ti0 ti1 ti2 ti3 rfl vA _ ((hd0.rA.alloc _).alloc _) _ _ _ (rd_one (w1.drew.alloc (.cells #[] 5)) (.int .i64 (i : Int)) 3) (by simp [Value.oneCell']) (by simp; omega) (by unfold maxLen; simp; omega) (Nat.zero_le _)
  have eA2 : (w1.drew.alloc (.cells #[.int .i64 (i : Int)] 3)).heap.size = w1.heap.size + 1 := by simp [hsz0]
  have eA3 : (w1.drew.alloc (.cells #[] 5)).heap.size = w1.heap.size + 1 := by simp [hsz0]
  rw [eA3] at runA3
  have nqA : vA.ownBlock ≠ some q := hd0.rA.notAt hd0.top (by decide)
  -- what holds behind both
  have both : ∀ (w3 : World) (vA' : Value) (e : Nat), w1.drew.grownBy w3 vA.ownBlock → Mine w3 0 3 vA' (cellsN (x1.W.map (·.1)) ++ [.int .i64 (i : Int)]) → (vA'.ownBlock = vA.ownBlock ∨ ∀ k, vA'.ownBlock = some k → w1.drew.heap.size ≤ k) → Mine w3 w1.drew.heap.size 5 (.slice (some ⟨e, 0, none⟩) 0 0) [] →
      ∃ w4 g5 c5 w6 vB', (Builtin.append_ #[51, 51] 51 #[.slice (some ⟨e, 0, none⟩) 0 0, .slice (some ⟨bb, 0, none⟩) 256 cb]).run Try.prog w3 = .ok (.slice (some ⟨g5, 0, none⟩) 256 c5) w4 ∧
        (Builtin.append_ #[43, 43] 43 #[vB, .slice (some ⟨w4.heap.size, 0, none⟩) 1 1]).run Try.prog (w4.alloc (.cells #[.slice (some ⟨g5, 0, none⟩) 256 c5] 51)) = .ok vB' w6 ∧
        w3.cell? ⟨q, 1, none⟩ = some vA ∧ w3.cell? ⟨q, 2, none⟩ = some vB ∧ w4.cell? ⟨q, 1, none⟩ = some vA ∧ w4.cell? ⟨q, 2, none⟩ = some vB ∧ (w4.alloc (.cells #[.slice (some ⟨g5, 0, none⟩) 256 c5] 51)).cell? ⟨q, 1, none⟩ = some vA ∧ (w4.alloc (.cells #[.slice (some ⟨g5, 0, none⟩) 256 c5] 51)).cell? ⟨q, 2, none⟩ = some vB ∧
        w6.heap[q]? = some (.cells (refCells x1 vL vA vB).toArray 46 (0, 0)) ∧
        RefIs (((w6.setCell ⟨q, 1, none⟩ vA').setCell ⟨q, 2, none⟩ vB').setCell ⟨q, 7, none⟩ (.int .i64 ((x1.n : Int) + 1))) G Z q vL vA' vB' ls (bs ++ [.slice (some ⟨g5, 0, none⟩) 256 c5]) (x1.put i l) ∧
        Only G w1.drew (((w6.setCell ⟨q, 1, none⟩ vA').setCell ⟨q, 2, none⟩ vB').setCell ⟨q, 7, none⟩ (.int .i64 ((x1.n : Int) + 1))) := by
    intro w3 vA' e g3 rA3 oA mE
    have hbb3 : SecIs w3 Z (.slice (some ⟨bb, 0, none⟩) 256 cb) l := hbb1.other g3 (hd0.rA.no5 (by decide))
    have q3 : w3.heap[q]? = some (.cells (refCells x1 vL vA vB).toArray 46 (0, 0)) := (g3.block q hlt (fun e => nqA e.symm)).trans hd0.top
    obtain ⟨v5, w4, run5, own5, g4, ob5⟩ := run_append_rd (P := Try.prog) (w := w3) w1.drew.heap.size 51 51 5 tb _ 1 Try.underlying51 tb0 tb1 tb2 tb3 rfl _ [] mE _ _ _ hbb3.rd (cellsB_one l) (by simp [cellsB_length, hl]) (by unfold maxLen; simp [cellsB_length, hl]) g3.size
    rw [List.nil_append] at own5
    obtain ⟨g5, c5, cur5, e5, hg5, _, _⟩ := own5.at_ (by rw [cellsB_length, hl]; omega)
    rw [cellsB_length, hl] at e5
    subst e5
    have hE := (mE.block e rfl).1
    have q4 : w4.heap[q]? = some (.cells (refCells x1 vL vA vB).toArray 46 (0, 0)) := (g4.block q (Array.getElem?_eq_some_iff.1 q3).1 (fun e' => by injection e' with e'; have e2 : q = e := e'; omega)).trans q3
    have mB3 : Mine w3 0 51 vB bs := hd0.rB.grown g3 (hd0.rB.apart hd0.rA (by decide))
    have mB4 : Mine w4 0 51 vB bs := by
      refine mB3.grown g4 ?_
      rcases hb : vB.ownBlock with _ | k
      · exact .inl rfl
      · right
        intro e'
        injection e' with e'
        have e2 : k = e := e'
        have h2 := (hd0.rB.block k hb).2
        omega
    obtain ⟨vB', w6, run6, own6, g6, ob6⟩ := run_append_rd (P := Try.prog) (w := w4.alloc (.cells #[.slice (some ⟨g5, 0, none⟩) 256 c5] 51)) 0 43 43 51 tr _ 24 Try.underlying43 tr0 tr1 tr2 tr3 rfl vB bs (mB4.alloc _) _ _ _ (rd_one w4 (.slice (some ⟨g5, 0, none⟩) 256 c5) 51) (by simp [Value.oneCell']) (by simp; omega) (by unfold maxLen; simp; omega) (Nat.zero_le _)
    have oB : vB'.ownBlock = vB.ownBlock ∨ ∀ k, vB'.ownBlock = some k → w1.drew.heap.size ≤ k := by
      rcases ob6 with h1 | h1
      · exact .inl h1
      · right
        intro k hk
        rw [hk] at h1
        injection h1 with h1
        have := g3.size
        have := g4.size
        rw [World.size_alloc] at h1
        omega
    have hput := hd0.put hG1 hZ1 Hi1 hl rA3 g3 oA mE g4 own5 own6 g6 oB
    have q5 : (w4.alloc (.cells #[.slice (some ⟨g5, 0, none⟩) 256 c5] 51)).heap[q]? = some (.cells (refCells x1 vL vA vB).toArray 46 (0, 0)) := (heap_alloc_old w4 _ (Array.getElem?_eq_some_iff.1 q4).1).trans q4
    have q6 : w6.heap[q]? = some (.cells (refCells x1 vL vA vB).toArray 46 (0, 0)) := (g6.block q (Array.getElem?_eq_some_iff.1 q5).1 (fun e' => hd0.rB.notAt hd0.top (by decide) e'.symm)).trans q5
    exact ⟨w4, g5, c5, w6, vB', run5, run6, cell_of_row w3 q 1 _ 46 (0, 0) q3, cell_of_row w3 q 2 _ 46 (0, 0) q3, cell_of_row w4 q 1 _ 46 (0, 0) q4, cell_of_row w4 q 2 _ 46 (0, 0) q4, cell_of_row _ q 1 _ 46 (0, 0) q5, cell_of_row _ q 2 _ 46 (0, 0) q5, q6, hput.1, hput.2⟩
  have ga : ∀ o : Obj, w1.drew.grownBy (w1.drew.alloc o) vA.ownBlock := fun o => World.grownBy_alloc _ _ _
  have new : ∀ (v : Value) (k0 : Nat), w1.drew.heap.size ≤ k0 → (v.ownBlock = vA.ownBlock ∨ v.ownBlock = some k0) → (v.ownBlock = vA.ownBlock ∨ ∀ k, v.ownBlock = some k → w1.drew.heap.size ≤ k) := fun v k0 hk0 h => h.imp id fun h k hk => by
    rw [hk] at h; injection h with h; omega
  have s1 := gA1.size
  rw [World.size_alloc] at s1
  have Hb1 := Lib.hid (both (wA1.alloc (.cells #[] 5)) vA1 wA1.heap.size (((ga _).trans gA1).trans (World.grownBy_alloc _ _ _)) (ownA1.alloc _) (new vA1 _ (by simp) obA1) (Mine.empty wA1 _ 5 (by omega)))
  have Hb2 := Lib.hid (both wA2 vA2 (w1.heap.size + 1) (((ga _).trans (World.grownBy_alloc _ _ _)).trans gA2) ownA2 (new vA2 _ (by simp; omega) obA2) (by
    have h1 : Mine ((w1.drew.alloc (.cells #[.int .i64 (i : Int)] 3)).alloc (.cells #[] 5)) w1.drew.heap.size 5 (.slice (some ⟨(w1.drew.alloc (.cells #[.int .i64 (i : Int)] 3)).heap.size, 0, none⟩) 0 0) [] := Mine.empty _ _ 5 (by simp)
    rw [eA2] at h1
    exact h1.grown gA2 (h1.apart ((hd0.rA.alloc _).alloc _) (by decide))))
  have Hb3 := Lib.hid (both wA3 vA3 w1.drew.heap.size (((ga _).trans (World.grownBy_alloc _ _ _)).trans gA3) ownA3 (new vA3 _ (by simp; omega) obA3) (by
    have h1 : Mine ((w1.drew.alloc (.cells #[] 5)).alloc (.cells #[.int .i64 (i : Int)] 3)) w1.drew.heap.size 5 (.slice (some ⟨w1.drew.heap.size, 0, none⟩) 0 0) [] := (Mine.empty w1.drew _ 5 (Nat.le_refl _)).alloc _
    exact h1.grown gA3 (h1.apart ((hd0.rA.alloc _).alloc _) (by decide))))
  have c1 := hd0.c1
  have c2 := hd0.c2
  have ca : ∀ o : Obj, (w1.drew.alloc o).cell? ⟨q, 1, none⟩ = some vA ∧ (w1.drew.alloc o).cell? ⟨q, 2, none⟩ = some vB := fun o => ⟨cell_alloc c1 o, cell_alloc c2 o⟩
  have cb : ∀ o o' : Obj, ((w1.drew.alloc o).alloc o').cell? ⟨q, 1, none⟩ = some vA ∧ ((w1.drew.alloc o).alloc o').cell? ⟨q, 2, none⟩ = some vB := fun o o' => ⟨cell_alloc (ca o).1 o', cell_alloc (ca o).2 o'⟩
  have cA1 : wA1.cell? ⟨q, 1, none⟩ = some vA ∧ wA1.cell? ⟨q, 2, none⟩ = some vB := by
    have e : ∀ j, wA1.cell? ⟨q, j, none⟩ = (w1.drew.alloc (.cells #[.int .i64 (i : Int)] 3)).cell? ⟨q, j, none⟩ := fun j => World.cell?_of_block (a := ⟨q, j, none⟩) (gA1.block q (by rw [World.size_alloc]; omega) (fun e => nqA e.symm))
    rw [e, e]
    exact ca _
  have HrA1 := Lib.hid runA1
  have HrA2 := Lib.hid runA2
  have HrA3 := Lib.hid runA3
  have Hca := Lib.hid ca
  have Hcb := Lib.hid cb
  have HcA1 := Lib.hid cA1
  have Hho := Lib.hid ho
  clear runA1 runA2 runA3 ownA1 ownA2 ownA3 gA1 gA2 gA3 obA1 obA2 obA3 both ga new ca cb cA1 eA2 eA3 s1 hlA hlB few nqA hbb hbb1 hG1 hG hZ1 hZ hbG Hi1 hbs hbs1 hd hh Hf ho
  refine wp_region_late (S := fun w' => w'.cell? ⟨q, 1, none⟩ = some vA ∧ w'.cell? ⟨q, 2, none⟩ = some vB) [18, 19, 20, 21, 22, 23] (by kernel_rfl) ⟨c1, c2⟩ (fun hHeld => ?_)
  refine' anyU_take0 (i := 0) (oi := ⟨some 18, .move (.tmp 0), _, _, _, none⟩) (v := _) rfl (by kernel_rfl) (fun _ _ _ h => h) (Or.inl ⟨by rfl, ?hy0⟩) (by assumption) ?rest0
  case hy0 => (intro w hSw; go_simp <;> with_reducible rfl)
  case rest0 =>
  go_frame
  refine' anyU_take0 (i := 1) (oi := ⟨some 19, .move (.tmp 0), _, _, _, none⟩) (v := _) rfl (by kernel_rfl) (fun _ _ _ h => h) (Or.inl ⟨by rfl, ?hy1⟩) (by assumption) ?rest1
  case hy1 => (intro w hSw; go_simp <;> with_reducible rfl)
  case rest1 =>
  go_frame
  refine' anyU_take0 (i := 2) (oi := ⟨some 20, .move (.tmp 0), _, _, _, none⟩) (v := _) rfl (by kernel_rfl) (fun _ _ _ h => h) (Or.inl ⟨by rfl, ?hy2⟩) (by assumption) ?rest2
  case hy2 => (intro w hSw; go_simp <;> with_reducible rfl)
  case rest2 =>
  go_frame
  refine' anyU_take0 (i := 3) (oi := ⟨some 21, .nilCheck (.tmp 20), _, _, _, none⟩) (v := _) rfl (by kernel_rfl) (fun _ _ _ h => h) (Or.inl ⟨by rfl, ?hy3⟩) (by assumption) ?rest3
  case hy3 => (intro w hSw; go_simp <;> with_reducible rfl)
  case rest3 =>
  go_frame
  refine' anyU_take0 (i := 4) (oi := ⟨some 22, .fieldAddr 46 (.tmp 21) 1, _, _, _, none⟩) (v := _) rfl (by kernel_rfl) (fun _ _ _ h => h) (Or.inl ⟨by rfl, ?hy4⟩) (by assumption) ?rest4
  case hy4 => (intro w hSw; go_simp <;> with_reducible rfl)
  case rest4 =>
  go_frame
  refine' anyU_take (i := 5) (oi := ⟨some 23, .load 39 (.tmp 22), _, _, _, none⟩) (v := _) rfl (by kernel_rfl) (fun _ _ _ h => h) (Or.inl ⟨by rfl, ?hy5⟩) (by assumption) ?rest5
  case hy5 => (intro w hSw; obtain ⟨s1, s2⟩ := hSw; go_simp <;> with_reducible rfl)
  case rest5 =>
  go_frame
  refine' anyU_take0 (i := 6) (oi := ⟨some 24, .move (.tmp 1), _, _, _, none⟩) (v := _) rfl (by kernel_rfl) (fun _ _ _ h => h) (Or.inl ⟨by rfl, ?hy6⟩) (by assumption) ?rest6
  case hy6 => (intro w hSw; go_simp <;> with_reducible rfl)
  case rest6 =>
  go_frame
  refine' anyU_take0 (i := 9) (oi := ⟨some 27, .move (.tmp 0), _, _, _, none⟩) (v := _) rfl (by kernel_rfl) (fun _ _ _ h => h) (Or.inl ⟨by rfl, ?hy9⟩) (by assumption) ?rest9
  case hy9 => (intro w hSw; go_simp <;> with_reducible rfl)
  case rest9 =>
  go_frame
  refine' anyU_take0 (i := 10) (oi := ⟨some 28, .nilCheck (.tmp 27), _, _, _, none⟩) (v := _) rfl (by kernel_rfl) (fun _ _ _ h => h) (Or.inl ⟨by rfl, ?hy10⟩) (by assumption) ?rest10
  case hy10 => (intro w hSw; go_simp <;> with_reducible rfl)
  case rest10 =>
  go_frame
  refine' anyU_take0 (i := 11) (oi := ⟨some 29, .fieldAddr 46 (.tmp 28) 2, _, _, _, none⟩) (v := _) rfl (by kernel_rfl) (fun _ _ _ h => h) (Or.inl ⟨by rfl, ?hy11⟩) (by assumption) ?rest11
  case hy11 => (intro w hSw; go_simp <;> with_reducible rfl)
  case rest11 =>
  go_frame
  refine' anyU_take (i := 12) (oi := ⟨some 30, .load 43 (.tmp 29), _, _, _, none⟩) (v := _) rfl (by kernel_rfl) (fun _ _ _ h => h) (Or.inl ⟨by rfl, ?hy12⟩) (by assumption) ?rest12
  case hy12 => (intro w hSw; obtain ⟨s1, s2⟩ := hSw; go_simp <;> with_reducible rfl)
  case rest12 =>
  go_frame
  refine' anyU_take0 (i := 14) (oi := ⟨some 32, .move (.tmp 2), _, _, _, none⟩) (v := _) rfl (by kernel_rfl) (fun _ _ _ h => h) (Or.inl ⟨by rfl, ?hy14⟩) (by assumption) ?rest14
  case hy14 => (intro w hSw; go_simp <;> with_reducible rfl)
  case rest14 =>
  go_frame
  refine anyU_ready (rs := [7, 13]) (by kernel_rfl) (by simp) (AllU.cons (o := ⟨some 25, .buildSlice 39 1 #[(0, .tmp 24)], _, _, _, none⟩) rfl (fun K hK => ?b7) (fun h => absurd h (by decide)) (AllU.cons (o := ⟨some 31, .buildSlice 51 0 #[], _, _, _, none⟩) rfl (fun K hK => ?b13) (fun h => absurd h (by decide)) AllU.nil))
  case' b7 =>
    rw [if_pos (by rfl)]
    go_simp
    refine hK.out _ _ (fun _ => Hca.out _) ?_
    clear hK K
    try go_frame
    refine anyU_ready (rs := [8, 13]) (by kernel_rfl) (by simp) (AllU.cons (o := ⟨some 26, .call { callee := .builtin .append, args := #[.tmp 23, .tmp 25], argTypes := #[39, 39] }, _, _, _, none⟩) rfl (fun K hK => ?c8) (fun h => absurd h (by decide)) (AllU.cons (o := ⟨some 31, .buildSlice 51 0 #[], _, _, _, none⟩) rfl (fun K hK => ?c13) (fun h => absurd h (by decide)) AllU.nil))
    case' c8 =>
      rw [if_pos (by rfl)]
      refine wp_run vA1 wA1 (exec_append (t := 39) (x := .tmp 23) (y := .tmp 25) rfl (u := vA) rfl (v := .slice (some ⟨w1.drew.heap.size, 0, none⟩) 1 1) rfl HrA1.out) ?_
      refine hK.out _ _ (fun _ => HcA1.out) ?_
      clear hK K
      go_frame
      refine anyU_ready (rs := [13]) (by kernel_rfl) (by simp) (AllU.cons (o := ⟨some 31, .buildSlice 51 0 #[], _, _, _, none⟩) rfl (fun K hK => ?_) (fun h => absurd h (by decide)) AllU.nil)
      rw [if_pos (by rfl)]
      go_simp
      refine hK.out _ _ (fun _ => ⟨cell_alloc HcA1.out.1 _, cell_alloc HcA1.out.2 _⟩) ?_
      clear hK K
      try go_frame
      obtain ⟨w4, g5, c5, w6, vB', run5, run6, k1, k2, k3, k4, k5, k6, top6, hput, hpo⟩ := Hb1.out
      obtain ⟨vA', hvA⟩ : ∃ v, v = vA1 := ⟨_, rfl⟩
      rw [← hvA] at hput hpo ⊢
      clear Hb1 Hb2 Hb3 HrA1 HrA2 HrA3 HcA1 Hca Hcb
    case' c13 =>
      rw [if_pos (by rfl)]
      go_simp
      refine hK.out _ _ (fun _ => Hcb.out _ _) ?_
      clear hK K
      try go_frame
      refine anyU_ready (rs := [8]) (by kernel_rfl) (by simp) (AllU.cons (o := ⟨some 26, .call { callee := .builtin .append, args := #[.tmp 23, .tmp 25], argTypes := #[39, 39] }, _, _, _, none⟩) rfl (fun K hK => ?_) (fun h => absurd h (by decide)) AllU.nil)
      rw [if_pos (by rfl)]
      refine wp_run vA2 wA2 (exec_append (t := 39) (x := .tmp 23) (y := .tmp 25) rfl (u := vA) rfl (v := .slice (some ⟨w1.drew.heap.size, 0, none⟩) 1 1) rfl HrA2.out) ?_
      obtain ⟨w4, g5, c5, w6, vB', run5, run6, k1, k2, k3, k4, k5, k6, top6, hput, hpo⟩ := Hb2.out
      refine hK.out _ _ (fun _ => ⟨k1, k2⟩) ?_
      clear hK K
      go_frame
      obtain ⟨vA', hvA⟩ : ∃ v, v = vA2 := ⟨_, rfl⟩
      rw [← hvA] at hput hpo ⊢
      clear Hb1 Hb2 Hb3 HrA1 HrA2 HrA3 HcA1 Hca Hcb
  case' b13 =>
    rw [if_pos (by rfl)]
    go_simp
    refine hK.out _ _ (fun _ => Hca.out _) ?_
    clear hK K
    try go_frame
    refine anyU_ready (rs := [7]) (by kernel_rfl) (by simp) (AllU.cons (o := ⟨some 25, .buildSlice 39 1 #[(0, .tmp 24)], _, _, _, none⟩) rfl (fun K hK => ?_) (fun h => absurd h (by decide)) AllU.nil)
    rw [if_pos (by rfl)]
    go_simp
    refine hK.out _ _ (fun _ => Hcb.out _ _) ?_
    clear hK K
    try go_frame
    refine anyU_ready (rs := [8]) (by kernel_rfl) (by simp) (AllU.cons (o := ⟨some 26, .call { callee := .builtin .append, args := #[.tmp 23, .tmp 25], argTypes := #[39, 39] }, _, _, _, none⟩) rfl (fun K hK => ?_) (fun h => absurd h (by decide)) AllU.nil)
    rw [if_pos (by rfl)]
    refine wp_run vA3 wA3 (exec_append (t := 39) (x := .tmp 23) (y := .tmp 25) rfl (u := vA) rfl (v := .slice (some ⟨w1.heap.size + 1, 0, none⟩) 1 1) rfl HrA3.out) ?_
    obtain ⟨w4, g5, c5, w6, vB', run5, run6, k1, k2, k3, k4, k5, k6, top6, hput, hpo⟩ := Hb3.out
    refine hK.out _ _ (fun _ => ⟨k1, k2⟩) ?_
    clear hK K
    go_frame
    obtain ⟨vA', hvA⟩ : ∃ v, v = vA3 := ⟨_, rfl⟩
    rw [← hvA] at hput hpo ⊢
    clear Hb1 Hb2 Hb3 HrA1 HrA2 HrA3 HcA1 Hca Hcb
  all_goals
    clear c1 c2 hHeld
    have c61 : w6.cell? ⟨q, 1, none⟩ = some vA := cell_of_row w6 q 1 _ 46 (0, 0) top6
    have c62 : w6.cell? ⟨q, 2, none⟩ = some vB := cell_of_row w6 q 2 _ 46 (0, 0) top6
    have f61 : w6.frozen? ⟨q, 1, none⟩ = false := frozen_of_row w6 q 1 _ 46 top6
    have t1 := heap_setCell_same w6 q 1 _ 46 vA' top6
    have c72 : (w6.setCell ⟨q, 1, none⟩ vA').cell? ⟨q, 2, none⟩ = some vB := by rw [cell_of_row _ q 2 _ 46 (0, 0) t1]; simp [refCells]
    have f72 : (w6.setCell ⟨q, 1, none⟩ vA').frozen? ⟨q, 2, none⟩ = false := frozen_of_row _ q 2 _ 46 t1
    have t2 := heap_setCell_same (w6.setCell ⟨q, 1, none⟩ vA') q 2 _ 46 vB' t1
    have c87 : ((w6.setCell ⟨q, 1, none⟩ vA').setCell ⟨q, 2, none⟩ vB').cell? ⟨q, 7, none⟩ = some (.int .i64 (x1.n : Int)) := by rw [cell_of_row _ q 7 _ 46 (0, 0) t2]; simp [refCells]
    have f87 : ((w6.setCell ⟨q, 1, none⟩ vA').setCell ⟨q, 2, none⟩ vB').frozen? ⟨q, 7, none⟩ = false := frozen_of_row _ q 7 _ 46 t2
    have Hput := Lib.hid hput
    have Hpo := Lib.hid (Hho.out.trans ((Only.drew G w1).trans hpo))
    clear hput hpo t1 t2 top6 hvA
    obtain ⟨AA, cA', eA'⟩ := Hput.out.rA.form
    obtain ⟨AB, cB', eB'⟩ := Hput.out.rB.form
    obtain ⟨nA, hnA⟩ : ∃ n, n = (cellsN ((x1.put i l).W.map (·.1))).length := ⟨_, rfl⟩
    obtain ⟨nB, hnB⟩ : ∃ n, n = (bs ++ [Value.slice (some ⟨g5, 0, none⟩) 256 c5]).length := ⟨_, rfl⟩
    rw [← hnA] at eA'
    rw [← hnB] at eB'
    subst eA' eB'
    clear hnA hnB
    refine anyU_ready (rs := [15]) (by kernel_rfl) (by simp) (AllU.cons (o := ⟨some 33, .call { callee := .builtin .append, args := #[.tmp 31, .tmp 32], argTypes := #[51, 51] }, _, _, _, none⟩) rfl (fun K hK => ?_) (fun h => absurd h (by decide)) AllU.nil)
    rw [if_pos (by rfl)]
    refine wp_run (.slice (some ⟨g5, 0, none⟩) 256 c5) w4 (exec_append (t := 51) (x := .tmp 31) (y := .tmp 32) rfl rfl rfl run5) ?_
    refine hK.out _ _ (fun _ => ⟨k3, k4⟩) ?_
    clear hK K
    go_frame
    refine anyU_ready (rs := [16]) (by kernel_rfl) (by simp) (AllU.cons (o := ⟨some 34, .buildSlice 43 1 #[(0, .tmp 33)], _, _, _, none⟩) rfl (fun K hK => ?_) (fun h => absurd h (by decide)) AllU.nil)
    rw [if_pos (by rfl)]
    go_simp
    refine hK.out _ _ (fun _ => ⟨k5, k6⟩) ?_
    clear hK K
    try go_frame
    refine anyU_ready (rs := [17]) (by kernel_rfl) (by simp) (AllU.cons (o := ⟨some 35, .call { callee := .builtin .append, args := #[.tmp 30, .tmp 34], argTypes := #[43, 43] }, _, _, _, none⟩) rfl (fun K hK => ?_) (fun h => absurd h (by decide)) AllU.nil)
    rw [if_pos (by rfl)]
    refine wp_run (.slice AB nB cB') w6 (exec_append (t := 43) (x := .tmp 30) (y := .tmp 34) rfl rfl rfl run6) ?_
    refine hK.out _ _ (fun _ => ⟨c61, c62⟩) ?_
    clear hK K run5 run6 k1 k2 k3 k4 k5 k6
    go_frame
    refine anyU_ready (rs := [18]) (by kernel_rfl) (by simp) (AllU.cons (o := ⟨some 36, .nilCheck (.tmp 18), _, _, _, none⟩) rfl (fun K hK => ?_) (fun _ => by kernel_rfl) AllU.nil)
    rw [if_pos (by rfl)]
    go_simp
    refine hK.out _ _ (fun h => absurd h (by decide)) ?_
    clear hK K
    try go_frame
    refine anyU_ready (rs := [19]) (by kernel_rfl) (by simp) (AllU.cons (o := ⟨some 37, .fieldAddr 46 (.tmp 36) 1, _, _, _, none⟩) rfl (fun K hK => ?_) (fun _ => by kernel_rfl) AllU.nil)
    rw [if_pos (by rfl)]
    go_simp
    refine hK.out _ _ (fun h => absurd h (by decide)) ?_
    clear hK K
    try go_frame
    refine anyU_ready (rs := [20]) (by kernel_rfl) (by simp) (AllU.cons (o := ⟨none, .store 39 (.tmp 37) (.tmp 26), _, _, _, none⟩) rfl (fun K hK => ?_) (fun _ => by kernel_rfl) AllU.nil)
    rw [if_pos (by rfl)]
    go_simp
    refine hK.out _ _ (fun h => absurd h (by decide)) ?_
    clear hK K
    try go_frame
    refine anyU_ready (rs := [21]) (by kernel_rfl) (by simp) (AllU.cons (o := ⟨some 38, .nilCheck (.tmp 19), _, _, _, none⟩) rfl (fun K hK => ?_) (fun _ => by kernel_rfl) AllU.nil)
    rw [if_pos (by rfl)]
    go_simp
    refine hK.out _ _ (fun h => absurd h (by decide)) ?_
    clear hK K
    try go_frame
    refine anyU_ready (rs := [22]) (by kernel_rfl) (by simp) (AllU.cons (o := ⟨some 39, .fieldAddr 46 (.tmp 38) 2, _, _, _, none⟩) rfl (fun K hK => ?_) (fun _ => by kernel_rfl) AllU.nil)
    rw [if_pos (by rfl)]
    go_simp
    refine hK.out _ _ (fun h => absurd h (by decide)) ?_
    clear hK K
    try go_frame
    refine anyU_ready (rs := [23]) (by kernel_rfl) (by simp) (AllU.cons (o := ⟨none, .store 43 (.tmp 39) (.tmp 35), _, _, _, none⟩) rfl (fun K hK => ?_) (fun _ => by kernel_rfl) AllU.nil)
    rw [if_pos (by rfl)]
    go_simp
    refine hK.out _ _ (fun h => absurd h (by decide)) ?_
    clear hK K
    try go_frame
    refine anyU_done (by kernel_rfl) ?_ _
    obtain ⟨w8, hw8⟩ : ∃ w8, w8 = (w6.setCell ⟨q, 1, none⟩ (.slice AA nA cA')).setCell ⟨q, 2, none⟩ (.slice AB nB cB') := ⟨_, rfl⟩
    rw [← hw8] at Hput Hpo c87 f87 ⊢
    clear hw8 c61 c62 f61 c72 f72
    have hnw : IntKind.i64.wrap ((x1.n : Int) + 1) = (x1.n : Int) + 1 := IntWalk.i64_in _ (by omega)
    go_wp2_with fail
    go_ret
    exact ⟨_, _, _, rfl, Hput.out, Hpo.out⟩
end
/-- The writes that wait, laid onto the sectors, one behind the other. -/
def laid (L : List (List UInt8)) (W : List (Nat × List UInt8)) : List (List UInt8) := W.foldl (fun L y => L.set y.1 y.2) L
theorem laid_length (L : List (List UInt8)) : ∀ W, (laid L W).length = L.length := by
  intro W
  induction W generalizing L with
  | nil => rfl
  | cons y W ih => unfold laid at ih ⊢; rw [List.foldl_cons, ih, List.length_set]
theorem laid_succ (L : List (List UInt8)) (W : List (Nat × List UInt8)) {k s : Nat} {l : List UInt8} (h : W[k]? = some (s, l)) : (laid L (W.take k)).set s l = laid L (W.take (k + 1)) := by
  obtain ⟨hk, e⟩ := List.getElem?_eq_some_iff.1 h
  unfold laid
  rw [List.take_succ_eq_append_getElem hk, List.foldl_append, e]
  rfl
/-- The document's device behind a Flush. -/
def Ref.flush (x : Ref) : Ref := { x with L := laid x.L x.W, W := [] }
section
variable {w w' : World} {G G' Z Z' : Nat → Prop} {q : Nat} {vL vA vB : Value} {ls bs : List Value} {x : Ref}
set_option maxRecDepth 100000 in
theorem rflush_io (h : RefIs w G Z q vL vA vB ls bs x) (hb : x.burns 3 = true) : Calls Try.prog 58 #[at0 q] w fun e w' => e = .returned (.int .i64 3) ∧ RefIs w' G Z q vL vA vB ls bs (x.burn 3) ∧ Only G w w' := by
  have hf := burns_any h (k := 3) (by omega)
  rw [hb] at hf
  have Hf := Lib.hid hf
  clear h hb hf
  go_enter Try.func58, Try.ntmps58
  go_wp2_with (go_at_call 69; refine Hf.out.mono ?_; rintro e w1 ⟨rfl, hd, ho⟩)
  go_ret
  exact ⟨rfl, hd, ho⟩
/-- Nothing waits any more: two new empty lists. -/
theorem RefIs.clear (h : RefIs w G Z q vL vA vB ls bs x) (hG : ∀ k, w.heap.size ≤ k → G k) :
    RefIs (((((w.alloc (.cells #[] 3)).alloc (.cells #[] 51)).setCell ⟨q, 1, none⟩ (.slice (some ⟨w.heap.size, 0, none⟩) 0 0))).setCell ⟨q, 2, none⟩ (.slice (some ⟨w.heap.size + 1, 0, none⟩) 0 0)) G Z q vL (.slice (some ⟨w.heap.size, 0, none⟩) 0 0) (.slice (some ⟨w.heap.size + 1, 0, none⟩) 0 0) ls [] { x with W := [] } := by
  have hq := h.lt
  have s1 : (w.alloc (.cells #[] 3)).heap.size = w.heap.size + 1 := by simp
  have h2 : RefIs ((w.alloc (.cells #[] 3)).alloc (.cells #[] 51)) G Z q vL vA vB ls bs x := h.below (((Below.refl _ _).alloc (Nat.le_refl _) _).alloc (by simp) _)
  have mA : Mine ((w.alloc (.cells #[] 3)).alloc (.cells #[] 51)) 0 3 (.slice (some ⟨w.heap.size, 0, none⟩) 0 0) [] := (Mine.empty w 0 3 (Nat.zero_le _)).alloc _
  have mB : Mine ((w.alloc (.cells #[] 3)).alloc (.cells #[] 51)) 0 51 (.slice (some ⟨w.heap.size + 1, 0, none⟩) 0 0) [] := by
    have := Mine.empty (w.alloc (.cells #[] 3)) 0 51 (Nat.zero_le _)
    rwa [s1] at this
  obtain ⟨w2, hw2⟩ : ∃ w2, w2 = (w.alloc (.cells #[] 3)).alloc (.cells #[] 51) := ⟨_, rfl⟩
  rw [← hw2] at h2 mA mB ⊢
  have t1 := heap_setCell_same w2 q 1 _ 46 (.slice (some ⟨w.heap.size, 0, none⟩) 0 0) h2.top
  have t2 := heap_setCell_same (w2.setCell ⟨q, 1, none⟩ (.slice (some ⟨w.heap.size, 0, none⟩) 0 0)) q 2 _ 46 (.slice (some ⟨w.heap.size + 1, 0, none⟩) 0 0) t1
  obtain ⟨w9, hw9⟩ : ∃ w9, w9 = ((w2.setCell ⟨q, 1, none⟩ (.slice (some ⟨w.heap.size, 0, none⟩) 0 0))).setCell ⟨q, 2, none⟩ (.slice (some ⟨w.heap.size + 1, 0, none⟩) 0 0) := ⟨_, rfl⟩
  rw [← hw9] at t2 ⊢
  have o9 : ∀ k, k ≠ q → w9.heap[k]? = w2.heap[k]? := fun k hk => by
    rw [hw9]
    exact (heap_setCell_other _ _ k _ hk).trans (heap_setCell_other _ _ k _ hk)
  have o5 : ∀ (k : Nat) (cur : Array Value), w2.heap[k]? = some (.cells cur 5 (0, 0)) → w9.heap[k]? = w2.heap[k]? := fun k cur hk => o9 k (ne_of_kind hk h2.top (by decide))
  refine ⟨t2.trans (by simp [refCells]), h2.rL.keep fun g hg => o9 g fun e => h2.rL.notAt h2.top (by decide) (e ▸ hg), mA.keep fun g hg => o9 g ?_, mB.keep fun g hg => o9 g ?_, h2.eL.keepOf o5, Elems.nil _ _, ?_, ⟨h2.inG.1, h2.inG.2.1, fun g hg => ?_, fun g hg => ?_⟩, fun y hy => (by cases hy), Nat.zero_le _, h2.size, h2.fuse⟩
  · obtain rfl : w.heap.size = g := by injection hg
    omega
  · obtain rfl : w.heap.size + 1 = g := by injection hg
    omega
  · rcases hb : vL.ownBlock with _ | k
    · exact .inl rfl
    · right
      intro e
      injection e with e
      have := (h.rL.block k hb).2
      have e2 : k = w.heap.size + 1 := e
      omega
  · obtain rfl : w.heap.size = g := by injection hg
    exact hG _ (by omega)
  · obtain rfl : w.heap.size + 1 = g := by injection hg
    exact hG _ (by omega)
theorem clear_world (w : World) {q : Nat} (hq : q < w.heap.size) (u v : Value) (o o' : Obj) : (((w.alloc o).alloc o').setCell ⟨q, 1, none⟩ u).setCell ⟨q, 2, none⟩ v = (((w.setCell ⟨q, 1, none⟩ u).setCell ⟨q, 2, none⟩ v).alloc o).alloc o' := by
  rw [World.setCell_alloc_past _ _ _ _ (by simp; omega), World.setCell_alloc_past _ _ _ _ hq, World.setCell_alloc_past _ _ _ _ (by simp; omega), World.setCell_alloc_past _ _ _ _ (by simpa using hq)]
theorem only_clear (hq : G q) (u v : Value) (o o' : Obj) : Only G w ((((w.alloc o).alloc o').setCell ⟨q, 1, none⟩ u).setCell ⟨q, 2, none⟩ v) :=
  (((Only.alloc G w o).trans (Only.alloc G _ o')).trans (Only.setCell (p := ⟨q, 1, none⟩) hq _)).trans (Only.setCell (p := ⟨q, 2, none⟩) hq _)
set_option maxRecDepth 100000 in
set_option maxHeartbeats 4000000 in
theorem rflush_ok (h : RefIs w G Z q vL vA vB ls bs x) (hb : x.burns 3 = false) (hn : x.n < 1000000) (hG : ∀ k, w.heap.size ≤ k → G k) :
    Calls Try.prog 58 #[at0 q] w fun e w' => ∃ vA' vB' ls', e = .returned (.int .i64 0) ∧ RefIs w' G Z q vL vA' vB' ls' [] (x.burn 3).flush ∧ Only G w w' := by
  have hf := burns_any h (k := 3) (by omega)
  rw [hb] at hf
  have Hf := Lib.hid hf
  obtain ⟨x1, hx1⟩ : ∃ x1, x1 = x.burn 3 := ⟨_, rfl⟩
  have hn1 : x1.n < 1000000 := by rw [hx1]; exact hn
  have hfew1 : x1.W.length ≤ x1.n := by rw [hx1]; exact h.few
  rw [← hx1] at Hf ⊢
  obtain ⟨m, hm⟩ : ∃ m, m = x1.W.length := ⟨_, rfl⟩
  have hm1 : m < 1000000 := by omega
  have Hm := Lib.hid hm
  clear hf h hb hx1 hm hn hn1 hfew1
  go_enter Try.func58, Try.ntmps58
  go_wp2_with (go_at_call 69; refine Hf.out.mono ?_; rintro e w1 ⟨rfl, hd, ho⟩; have Hd1 := Lib.hid hd; clear hd)
  go_loopw [3] (fun iv wr => ∃ (k : Nat) (ls' : List Value), k ≤ m ∧ iv = .int .i64 (k : Int) ∧ RefIs wr G Z q vL vA vB ls' bs { x1 with L := laid x1.L (x1.W.take k) } ∧ Only G w wr) (fun iv _ => m - (intOf iv).toNat)
  case atStart => exact ⟨0, ls, by omega, rfl, Hd1.out, ho⟩
  case round =>
    obtain ⟨k, ls', hkm, rfl, hd, ho⟩ := hrel
    have hWm : ({ x1 with L := laid x1.L (x1.W.take k) } : Ref).W.length = m := Hm.out.symm
    by_cases hk : k < m
    · obtain ⟨gA, cA, gB, cB, gv, cv, s, l, eA, eB, d1, d2, d3, d4, hsec, hWk, hsl, n1, n2, n3, hGB, hgA, hgB, hfB⟩ := hd.wait_at (k := k) (by rw [hWm]; exact hk)
      rw [hWm] at d1 d2
      obtain ⟨A, c, hA, c0, hlast⟩ := hd.last_at
      obtain ⟨gL, gu, cu, rfl, hgL, hGL, hgLq, hcL, _⟩ := hlast s hsl
      have hfL : wr.frozen? ⟨gL, s, none⟩ = false := by
        have := hd.rL
        rw [hA] at this
        exact this.free s
      obtain ⟨n, hnn⟩ : ∃ n, n = ({ x1 with L := laid x1.L (x1.W.take k) } : Ref).L.length := ⟨_, rfl⟩
      rw [← hnn] at c0 hA hsl
      have hd2 : RefIs (wr.setCell ⟨gL, s, none⟩ (.slice (some ⟨gv, 0, none⟩) 256 cv)).drew G Z q vL vA vB (ls'.set s (.slice (some ⟨gv, 0, none⟩) 256 cv)) bs { x1 with L := laid x1.L (x1.W.take (k + 1)) } := by
        have h0 := hd.set_last (i := s) hA hsec
        have e : ({ x1 with L := laid x1.L (x1.W.take k) } : Ref).L.set s l = laid x1.L (x1.W.take (k + 1)) := laid_succ x1.L x1.W hWk
        rw [e] at h0
        exact h0.keep (fun _ _ _ => rfl) (fun _ _ _ => rfl)
      have ho2 : Only G w (wr.setCell ⟨gL, s, none⟩ (.slice (some ⟨gv, 0, none⟩) 256 cv)).drew := ho.trans ((Only.setCell (p := ⟨gL, s, none⟩) hGL _).trans (Only.drew _ _))
      have Hd2 := Lib.hid hd2
      have Ho2 := Lib.hid ho2
      have k0 : (0 : Int) ≤ (k : Int) := by omega
      have k1 : (k : Int) < (m : Int) := by omega
      have k2 : (k : Int).toNat = k := by omega
      have s0 : (0 : Int) ≤ (s : Int) := by omega
      have s1 : (s : Int) < (n : Int) := by omega
      have s2 : (s : Int).toNat = s := by omega
      clear hd ho hd2 ho2 hlast hA eA eB hsec hWk hWm hnn
      go_wp2_with fail
      go_still_tail 19, (by kernel_rfl)
      go_wp2_with fail
      go_roundw
      case rel => exact ⟨k + 1, _, by omega, by go_num, Hd2.out, Ho2.out⟩
      case measure => simp [intOf]; omega
    · have hkm2 : k = m := by omega
      obtain ⟨A1, c1, d1⟩ := hd.wait_len
      rw [hWm] at d1
      have hGr : ∀ k, wr.heap.size ≤ k → G k := fun k hk => hG k (Nat.le_trans ho.size hk)
      have hfin : RefIs wr G Z q vL vA vB ls' bs { x1 with L := laid x1.L x1.W } := by
        have : x1.W.take k = x1.W := by rw [hkm2, Hm.out]; exact List.take_length
        rwa [this] at hd
      have hcl := hfin.clear hGr
      have hocl : ∀ u v o o', Only G w ((((wr.alloc o).alloc o').setCell ⟨q, 1, none⟩ u).setCell ⟨q, 2, none⟩ v) := fun u v o o' => ho.trans (only_clear hd.inG.1 u v o o')
      have c2 := hd.c2
      have f1 := hd.free 1
      have f2 := hd.free 2
      have hqlt := hd.lt
      rw [clear_world _ hqlt] at hcl
      simp only [clear_world _ hqlt] at hocl
      have Hcl := Lib.hid hcl
      have Hocl := Lib.hid hocl
      clear hd hfin hcl hocl hWm hkm2 hGr
      go_wp2_with fail
      go_ret
      exact ⟨rfl, ⟨_, _, _, Hcl.out⟩, Hocl.out _ _ _ _⟩
end
end Go.Proofs.Ytfjcblppmoomdaa
