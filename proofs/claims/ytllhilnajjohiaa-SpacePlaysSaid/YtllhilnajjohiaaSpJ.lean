/-
  Arrays of bools in memory, beside a space: what the law on what is kept holds.
-/
import Derived.Test.YtllhilnajjohiaaSpI
namespace Go.Proofs.Ytllhilnajjohiaa
open Go.RowKit
/-- The cells of the first m bools. -/
def boolC (f : Nat → Bool) (m : Nat) : List Value := (List.range m).map fun i => .bool (f i)
theorem boolC_length (f : Nat → Bool) (m : Nat) : (boolC f m).length = m := by simp [boolC]
theorem boolC_get (f : Nat → Bool) {m i : Nat} (hi : i < m) : (boolC f m)[i]? = some (.bool (f i)) := by simp [boolC, hi]
theorem boolC_one (f : Nat → Bool) (m : Nat) : ∀ u ∈ boolC f m, u.oneCell' = true := by
  intro u hu
  obtain ⟨i, _, rfl⟩ := List.mem_map.1 hu
  rfl
theorem boolC_put (f : Nat → Bool) (m i : Nat) (v : Bool) : (boolC f m).set i (.bool v) = boolC (put f i v) m := by
  apply List.ext_getElem?
  intro j
  by_cases hj : j < m
  · by_cases h : j = i
    · subst h
      rw [List.getElem?_set_self (by rw [boolC_length]; exact hj), boolC_get _ hj, put_same]
    · rw [List.getElem?_set_ne (by omega), boolC_get _ hj, boolC_get _ hj, put_other f v h]
  · rw [List.getElem?_eq_none (by simp [boolC_length]; omega), List.getElem?_eq_none (by simp [boolC_length]; omega)]
theorem info_b60 : (Try.prog.info? 37).map (·.size) = some 60 := by kernel_rfl
theorem info_boolC (f : Nat → Bool) : (Try.prog.info? 37).map (·.size) = some (boolC f 60).length := by rw [info_b60, boolC_length]
theorem zero_b60 : ∃ Z : List Value, Z.length = 60 ∧ ∀ w, (zeroValue 37).run Try.prog w = .ok (.agg Z.toArray) w := by
  have h : ∀ w, (zeroValue 37).run Try.prog w = .ok (.agg (Array.replicate 60 (.bool false))) w := by
    refine (zero_of_info (n := 60) ?_).1
    kernel_rfl
  exact ⟨(Array.replicate 60 (.bool false)).toList, by rw [Array.length_toList, Array.size_replicate], h⟩
theorem build_b60 (w : World) : (Instr.build 37 #[(0, .bool true), (1, .bool true), (2, .bool true)]).run Try.prog w = .ok (.agg (boolC (below 3) 60).toArray) w := by kernel_rfl
theorem exec_build3 {ρ : Operand → Value} {o : Oper} {t : TypeId} {x y z : Operand} (ho : o.op = .build t #[(0, x), (1, y), (2, z)]) {u1 u2 u3 v : Value} (h1 : ρ x = u1) (h2 : ρ y = u2) (h3 : ρ z = u3) {P : Program} {w : World} (hrun : (Instr.build t #[(0, u1), (1, u2), (2, u3)]).run P w = .ok v w) : (execOp ρ o).run P w = .ok (.value v) w := by
  unfold execOp
  simp only [ho, List.map_toArray, List.map_cons, List.map_nil, h1, h2, h3, Sem.run_bind, hrun, Result.andThen_ok, Sem.run_pure]
/-- In wr there is the space x, and two arrays of its own: f, g. -/
structure KeptW (w wr : World) (a sb nb : Nat) (x : Spc) (f g : Nat → Bool) : Prop where
  sp : SpcIs wr a x
  n60 : x.n = 60
  s : wr.heap[sb]? = some (.cells (boolC f 60).toArray 37 (0, 0))
  n : wr.heap[nb]? = some (.cells (boolC g 60).toArray 37 (0, 0))
  ne : a ≠ sb ∧ a ≠ nb ∧ sb ≠ nb
  new : w.heap.size ≤ a ∧ w.heap.size ≤ sb ∧ w.heap.size ≤ nb
  below : Below w.heap.size w wr
section
variable {w wr w' : World} {a sb nb : Nat} {x y : Spc} {f g : Nat → Bool}
theorem KeptW.lt (h : KeptW w wr a sb nb x f g) : sb < wr.heap.size ∧ nb < wr.heap.size := ⟨(Array.getElem?_eq_some_iff.1 h.s).1, (Array.getElem?_eq_some_iff.1 h.n).1⟩
theorem KeptW.space (h : KeptW w wr a sb nb x f g) (hs : SpcIs w' a y) (hn : y.n = 60) (ho : Only (fun k => k = a) wr w') : KeptW w w' a sb nb y f g :=
  ⟨hs, hn, (ho.block sb h.lt.1 fun e => h.ne.1 e.symm).trans h.s, (ho.block nb h.lt.2 fun e => h.ne.2.1 e.symm).trans h.n, h.ne, h.new, h.below.trans (ho.new h.new.1 h.below.size)⟩
theorem KeptW.cS (h : KeptW w wr a sb nb x f g) {i : Nat} (hi : i < 60) : wr.cell? ⟨sb, i, none⟩ = some (.bool (f i)) := by
  rw [cell_of_row wr sb i _ _ (0, 0) h.s, List.getElem?_toArray, boolC_get f hi]
theorem KeptW.cN (h : KeptW w wr a sb nb x f g) {i : Nat} (hi : i < 60) : wr.cell? ⟨nb, i, none⟩ = some (.bool (g i)) := by
  rw [cell_of_row wr nb i _ _ (0, 0) h.n, List.getElem?_toArray, boolC_get g hi]
theorem KeptW.freeN (h : KeptW w wr a sb nb x f g) (i : Nat) : wr.frozen? ⟨nb, i, none⟩ = false := frozen_of_row wr nb i _ _ h.n
theorem KeptW.setN (h : KeptW w wr a sb nb x f g) (i : Nat) (v : Bool) : KeptW w (wr.setCell ⟨nb, i, none⟩ (.bool v)) a sb nb x f (put g i v) := by
  refine ⟨h.sp.keep (heap_setCell_other wr _ a _ h.ne.2.1), h.n60, ?_, ?_, h.ne, h.new, h.below.setCell h.new.2.2 _⟩
  · rw [heap_setCell_other wr _ sb _ h.ne.2.2]
    exact h.s
  · rw [heap_setCell_same wr nb i _ _ _ h.n, List.setIfInBounds_toArray, boolC_put]
theorem KeptW.rS (h : KeptW w wr a sb nb x f g) : wr.rangeAt sb 0 (boolC f 60) := rangeAt_block h.s fun j u hu => by rw [Nat.zero_add]; exact hu
theorem KeptW.rN (h : KeptW w wr a sb nb x f g) : wr.rangeAt nb 0 (boolC g 60) := rangeAt_block h.n fun j u hu => by rw [Nat.zero_add]; exact hu
/-- One array stored into the other. -/
theorem KeptW.copyS (h : KeptW w wr a sb nb x f g) : ∃ w', (Instr.storeAt 37 (.pointer (some ⟨sb, 0, none⟩)) (.agg (boolC g 60).toArray)).run Try.prog wr = .ok () w' ∧ KeptW w w' a sb nb x g g := by
  obtain ⟨w1, hrun, e1, e2, e3⟩ := store_agg (P := Try.prog) h.s (boolC_one g 60) (o := 0) (by rw [boolC_length, boolC_length]; omega) (info_boolC g)
  rw [Nat.zero_add, List.take_zero, List.nil_append, List.drop_of_length_le (by rw [boolC_length, boolC_length]; omega), List.append_nil] at e1
  refine ⟨w1, hrun, h.sp.keep (e2.block a h.sp.lt fun e => h.ne.1 (by injection e)), h.n60, e1, ?_, h.ne, h.new, h.below.grown e2 h.below.size fun k hk => by injection hk with hk; have := h.new; omega⟩
  rw [e2.block nb h.lt.2 fun e => h.ne.2.2 (by injection e with e; exact e.symm)]
  exact h.n
theorem KeptW.copyN (h : KeptW w wr a sb nb x f g) : ∃ w', (Instr.storeAt 37 (.pointer (some ⟨nb, 0, none⟩)) (.agg (boolC f 60).toArray)).run Try.prog wr = .ok () w' ∧ KeptW w w' a sb nb x f f := by
  obtain ⟨w1, hrun, e1, e2, e3⟩ := store_agg (P := Try.prog) h.n (boolC_one f 60) (o := 0) (by rw [boolC_length, boolC_length]; omega) (info_boolC f)
  rw [Nat.zero_add, List.take_zero, List.nil_append, List.drop_of_length_le (by rw [boolC_length, boolC_length]; omega), List.append_nil] at e1
  refine ⟨w1, hrun, h.sp.keep (e2.block a h.sp.lt fun e => h.ne.2.1 (by injection e)), h.n60, ?_, e1, h.ne, h.new, h.below.grown e2 h.below.size fun k hk => by injection hk with hk; have := h.new; omega⟩
  rw [e2.block sb h.lt.1 fun e => h.ne.2.2 (by injection e)]
  exact h.s
/-- Both arrays new, beside a space. -/
theorem KeptW.start {w1 : World} {Z : List Value} (hZ : Z.length = 60) (ha : w.heap.size ≤ a) (hs : SpcIs w1 a (Spc.new 60 3)) (hb : Below w.heap.size w w1) (h3 : Nat → Bool) (_e3 : h3 = _root_.Go.Proofs.Ytllhilnajjohiaa.below 3) :
    ∃ wa, (Instr.storeAt 37 (.pointer (some ⟨w1.heap.size, 0, none⟩)) (.agg (boolC h3 60).toArray)).run Try.prog ((w1.alloc (.cells Z.toArray 37)).alloc (.cells Z.toArray 37)) = .ok () wa ∧
    ∃ wb, (Instr.storeAt 37 (.pointer (some ⟨w1.heap.size + 1, 0, none⟩)) (.agg (boolC h3 60).toArray)).run Try.prog wa = .ok () wb ∧ KeptW w wb a w1.heap.size (w1.heap.size + 1) (Spc.new 60 3) h3 h3 := by
  have hz : ((w1.alloc (.cells Z.toArray 37)).alloc (.cells Z.toArray 37)).heap.size = w1.heap.size + 2 := by simp
  have hb1 := (hb.alloc hb.size (.cells Z.toArray 37)).alloc (by simp; have := hb.size; omega) (.cells Z.toArray 37)
  have hs1 : SpcIs ((w1.alloc (.cells Z.toArray 37)).alloc (.cells Z.toArray 37)) a (Spc.new 60 3) := hs.below ((((Below.refl w1.heap.size w1).alloc (Nat.le_refl _) _)).alloc (by simp) _)
  have h1 := (heap_alloc_old (w1.alloc (.cells Z.toArray 37)) (.cells Z.toArray 37) (show w1.heap.size < (w1.alloc (.cells Z.toArray 37)).heap.size by simp)).trans (heap_alloc_last w1 _)
  have h2 := heap_alloc_last (w1.alloc (.cells Z.toArray 37)) (.cells Z.toArray 37)
  rw [show (w1.alloc (.cells Z.toArray 37)).heap.size = w1.heap.size + 1 by simp] at h2
  have hlt := hs.lt
  generalize (w1.alloc (.cells Z.toArray 37)).alloc (.cells Z.toArray 37) = w2 at *
  obtain ⟨wa, hrun, e1, e2, e4⟩ := store_agg (P := Try.prog) h1 (boolC_one h3 60) (o := 0) (by rw [hZ, boolC_length]; omega) (info_boolC h3)
  rw [Nat.zero_add, List.take_zero, List.nil_append, List.drop_of_length_le (by rw [hZ, boolC_length]; omega), List.append_nil] at e1
  refine ⟨wa, hrun, ?_⟩
  have h2a := (e2.block (w1.heap.size + 1) (by omega) fun e => by injection e with e; omega).trans h2
  obtain ⟨wb, hrun2, f1, f2, f4⟩ := store_agg (P := Try.prog) h2a (boolC_one h3 60) (o := 0) (by rw [hZ, boolC_length]; omega) (info_boolC h3)
  rw [Nat.zero_add, List.take_zero, List.nil_append, List.drop_of_length_le (by rw [hZ, boolC_length]; omega), List.append_nil] at f1
  refine ⟨wb, hrun2, ?_, rfl, ?_, f1, ⟨by omega, by omega, by omega⟩, ⟨ha, hb.size, by have := hb.size; omega⟩, ?_⟩
  · exact (hs1.keep (e2.block a hs1.lt fun e => by injection e with e; omega)).keep (f2.block a (by have := hs1.lt; omega) fun e => by injection e with e; omega)
  · rw [f2.block w1.heap.size (by omega) fun e => by injection e with e; omega]
    exact e1
  · exact (hb1.grown e2 hb1.size fun k hk => by injection hk with hk; have := hb.size; omega).grown f2 (by have := hb1.size; omega) fun k hk => by injection hk with hk; have := hb.size; omega
end
end Go.Proofs.Ytllhilnajjohiaa
