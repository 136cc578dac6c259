/-
  Words for rows of sectors (256 bytes each) and for the device: sectors, one behind the other, in a block; what the blocks of a device hold.
  Cells in a row, stored as one value; an array by value, indexed: laws.
-/
import Derived.Test.YtcandokefhbneaaProg
import Derived.Test.YtcandokefhbneaaWords
import Derived.Deep.MidRow
import Derived.Laws.CopyRow
import Derived.Lib.Hide
import Derived.Maps.RangeWalk
import Derived.Deep.WholeRow
import Derived.Great.BuildSlice
import Derived.Deep.RegionHeld3
namespace Go.Proofs.Ytcandokefhbneaa
open Go.RowKit

/-! ### Sectors, one behind the other -/
/-- The cells of sectors, one behind the other. -/
def flat (L : List (List UInt8)) : List Value := L.flatMap cellsB
/-- Each has 256 bytes. -/
def Wide (L : List (List UInt8)) : Prop := ∀ l ∈ L, l.length = 256
theorem flat_nil : flat [] = [] := rfl
theorem flat_cons (l : List UInt8) (L : List (List UInt8)) : flat (l :: L) = cellsB l ++ flat L := rfl
theorem flat_append (L M : List (List UInt8)) : flat (L ++ M) = flat L ++ flat M := by simp [flat]
theorem Wide.tail {l : List UInt8} {L : List (List UInt8)} (h : Wide (l :: L)) : Wide L := fun m hm => h m (List.mem_cons_of_mem _ hm)
theorem Wide.append {L M : List (List UInt8)} (h : Wide L) (k : Wide M) : Wide (L ++ M) := fun m hm => (List.mem_append.1 hm).elim (h m) (k m)
theorem Wide.one {l : List UInt8} (h : l.length = 256) : Wide [l] := fun m hm => by simp at hm; subst hm; exact h
theorem Wide.set {L : List (List UInt8)} (h : Wide L) (i : Nat) {l : List UInt8} (hl : l.length = 256) : Wide (L.set i l) := fun m hm => by
  rcases List.mem_or_eq_of_mem_set hm with h1 | h1
  · exact h m h1
  · subst h1; exact hl
theorem Wide.at_ {L : List (List UInt8)} (h : Wide L) {i : Nat} (hi : i < L.length) : (L[i]).length = 256 := h _ (List.getElem_mem hi)
theorem flat_length : ∀ {L : List (List UInt8)}, Wide L → (flat L).length = L.length * 256
  | [], _ => rfl
  | l :: L, h => by rw [flat_cons, List.length_append, cellsB_length, h l (.head _), flat_length h.tail, List.length_cons]; omega
theorem flat_one (L : List (List UInt8)) : ∀ u ∈ flat L, u.oneCell' = true := by
  intro u hu
  obtain ⟨l, _, hl⟩ := List.mem_flatMap.1 hu
  exact cellsB_one l u hl
/-- Sector i is the 256 cells from 256 i on. -/
theorem flat_part : ∀ {L : List (List UInt8)}, Wide L → ∀ {i : Nat} (hi : i < L.length), ((flat L).drop (i * 256)).take 256 = cellsB L[i]
  | [], _, _, hi => by simp at hi
  | l :: L, h, 0, _ => by
    rw [flat_cons]
    have : (cellsB l).length = 256 := by rw [cellsB_length]; exact h l (.head _)
    rw [Nat.zero_mul, List.drop_zero, List.take_append_of_le_length (by omega), List.take_of_length_le (by omega)]
    rfl
  | l :: L, h, i + 1, hi => by
    rw [flat_cons]
    have : (cellsB l).length = 256 := by rw [cellsB_length]; exact h l (.head _)
    rw [show (i + 1) * 256 = (cellsB l).length + i * 256 by omega, ← List.drop_drop, List.drop_left]
    exact flat_part h.tail (Nat.lt_of_succ_lt_succ hi)
theorem flat_get {L : List (List UInt8)} (h : Wide L) {i : Nat} (hi : i < L.length) {j : Nat} {u : Value} (hu : (cellsB L[i])[j]? = some u) : (flat L)[i * 256 + j]? = some u := by
  rw [← flat_part h hi, List.getElem?_take] at hu
  split at hu
  · rwa [List.getElem?_drop] at hu
  · cases hu
theorem flat_set : ∀ {L : List (List UInt8)}, Wide L → ∀ {i : Nat}, i < L.length → ∀ (l : List UInt8), (flat L).take (i * 256) ++ cellsB l ++ (flat L).drop (i * 256 + 256) = flat (L.set i l)
  | [], _, _, hi, _ => by simp at hi
  | m :: L, h, 0, _, l => by
    have : (cellsB m).length = 256 := by rw [cellsB_length]; exact h m (.head _)
    rw [List.set_cons_zero, flat_cons, flat_cons, Nat.zero_mul, List.take_zero, List.nil_append, Nat.zero_add, ← this, List.drop_left]
  | m :: L, h, i + 1, hi, l => by
    have hm : (cellsB m).length = 256 := by rw [cellsB_length]; exact h m (.head _)
    have ih := flat_set h.tail (Nat.lt_of_succ_lt_succ hi) l
    rw [List.set_cons_succ, flat_cons, flat_cons, ← ih, show (i + 1) * 256 = (cellsB m).length + i * 256 by omega, List.take_length_add_append, show (cellsB m).length + i * 256 + 256 = (cellsB m).length + (i * 256 + 256) by omega, ← List.drop_drop, List.drop_left]
    simp only [List.append_assoc]

/-! ### A block of sectors -/
section
variable {P : Program} {w : World} {g : Nat} {t : TypeId} {cs : List Value}
theorem rangeAt_block {fr : Nat × Nat} {o : Nat} {xs : List Value} (hg : w.heap[g]? = some (.cells cs.toArray t fr)) (h : ∀ (j : Nat) (u : Value), xs[j]? = some u → cs[o + j]? = some u) : w.rangeAt g o xs := fun j u hu => by
  rw [cell_of_row w g (o + j) _ t fr hg]
  simpa using h j u hu
/-- A sector, read. -/
theorem load_sector (hg : w.heap[g]? = some (.cells cs.toArray t (0, 0))) {L : List (List UInt8)} (hL : Wide L) {i : Nat} (hi : i < L.length) (hpre : cs.take (L.length * 256) = flat L) {ty e : TypeId} (hu : P.underlying ty = some (.array 256 e)) (hz : (P.info? ty).map (·.size) = some 256) :
    (Instr.loadAt ty (.pointer (some ⟨g, i * 256, none⟩))).run P w = .ok (.agg (cellsB L[i]).toArray) w := by
  refine run_loadAt_mid w g (i * 256) ty (cellsB L[i]) _ (rangeAt_block hg fun j u hj => ?_) hu rfl (by rw [hz, cellsB_length, hL.at_ hi])
  have := flat_get hL hi hj
  rw [← hpre, List.getElem?_take] at this
  split at this
  · exact this
  · cases this
/-- 256 cells, stored. -/
theorem store_sector (hg : w.heap[g]? = some (.cells cs.toArray t (0, 0))) {l : List UInt8} (hl : l.length = 256) {o : Nat} (ho : o + 256 ≤ cs.length) {ty : TypeId} (hz : (P.info? ty).map (·.size) = some 256) :
    ∃ w', (Instr.storeAt ty (.pointer (some ⟨g, o, none⟩)) (.agg (cellsB l).toArray)).run P w = .ok () w' ∧ w'.heap[g]? = some (.cells (cs.take o ++ cellsB l ++ cs.drop (o + 256)).toArray t (0, 0)) ∧ w.grownBy w' (some g) ∧ w'.heap.size = w.heap.size := by
  have hlen : (cellsB l).length = 256 := by rw [cellsB_length, hl]
  have h := run_storeCells_at P g o t (cellsB l) 0 cs.toArray w hg (by simp [hlen]; omega) (cellsB_one l)
  cases hq : P.info? ty with
  | none => simp [hq] at hz
  | some i =>
    have hs : i.size = 256 := by simpa [hq] using hz
    simp only [Nat.add_zero, hlen] at h
    refine ⟨w.setRow g (cs.take o ++ cellsB l ++ cs.drop (o + 256)).toArray, ?_, setRow_heap w g cs.toArray _ t (0, 0) hg, ⟨rfl, rfl, rfl, by simp, fun k hk hne => setRow_other w g k _ (fun e => hne (by rw [e]))⟩, by simp⟩
    simp only [Instr.storeAt, Instr.sureAddr, Sem.run_bind, Sem.run_pure, Result.andThen_ok, storeVar, sizeOf, typeInfo]
    simp [hq, Value.cells, hs, hlen, h]
end

/-! ### At the operations -/
section
variable {P : Program} {w : World} {ops : Array Oper} {rest : List Oper} {o : Oper} {a : Act} {Q : Exit → Act → World → Prop}
/-- An operation whose run is known. -/
theorem wpList_run (hgd : o.guard = none) (v : Value) (w' : World) (hrun : (execOp a.eval o).run P w = .ok (.value v) w') (h : wpList P ops Q rest (a.put o.dst v) w') : wpList P ops Q (o :: rest) a w := by
  refine wpList_plain hgd fun K hK => ?_
  unfold Oper.wp
  rw [hrun]
  exact hK _ _ h
/-- A new variable that holds an array's zeros. -/
theorem wpList_alloc_zero (hgd : o.guard = none) (t : TypeId) (ho : o.op = .alloc t) (Z : Array Value) (hz : ∀ w, (zeroValue t).run P w = .ok (.agg Z) w)
    (h : wpList P ops Q rest (a.put o.dst (.pointer (some ⟨w.heap.size, 0, none⟩))) (w.alloc (.cells Z t))) : wpList P ops Q (o :: rest) a w := by
  refine wpList_run hgd _ _ ?_ h
  unfold execOp
  simp only [ho, Instr.alloc, Sem.run_bind, hz, Result.andThen_ok]
  rfl
/-- An array stored into the variable that was made last. -/
theorem wpList_store_new (hgd : o.guard = none) (t : TypeId) (x y : Operand) (ho : o.op = .store t x y) (Z c : Array Value) (hx : a.eval x = .pointer (some ⟨w.heap.size, 0, none⟩)) (hy : a.eval y = .agg c)
    (hi : (P.info? t).map (·.size) = some c.size) (hs : Z.size = c.size) (h1 : c.all (·.oneCell') = true)
    (h : wpList P ops Q rest (a.put o.dst undef) (w.alloc (.cells c t))) : wpList P ops Q (o :: rest) a (w.alloc (.cells Z t)) := by
  refine wpList_plain hgd fun K hK => ?_
  unfold Oper.wp execOp
  simp only [ho, hx, hy, run_storeAt_new w t Z c hi hs h1, Sem.run_bind, Result.andThen_ok]
  exact hK _ _ h
end

/-! ### An array as the one element of a new slice -/
theorem setAll_get (l : List Value) : ∀ (k : Nat) (arr : Array Value) (i : Nat), ((l.zipIdx k).foldl (fun cs (x : Value × Nat) => cs.setIfInBounds (0 + x.2) x.1) arr)[i]? = if k ≤ i ∧ i < k + l.length ∧ i < arr.size then l[i - k]? else arr[i]? := by
  induction l with
  | nil => intro k arr i; simp; intro h1 h2; omega
  | cons x l ih =>
    intro k arr i
    rw [List.zipIdx_cons, List.foldl_cons, ih]
    simp only [Nat.zero_add, Array.size_setIfInBounds, List.length_cons]
    by_cases h : k = i
    · subst h
      by_cases hs : k < arr.size
      · rw [if_neg (by omega), if_pos (by omega)]
        simp [hs]
      · rw [if_neg (by omega), if_neg (by omega)]
        rw [Array.getElem?_eq_none (by simp; omega), Array.getElem?_eq_none (by omega)]
    · by_cases h2 : k + 1 ≤ i ∧ i < k + 1 + l.length ∧ i < arr.size
      · rw [if_pos h2, if_pos (by omega)]
        rw [show i - k = (i - (k + 1)) + 1 by omega, List.getElem?_cons_succ]
      · rw [if_neg h2, if_neg (by omega)]
        rw [Array.getElem?_setIfInBounds_ne h]
theorem setAll_eq (c arr : Array Value) (h : arr.size = c.size) : c.zipIdx.foldl (fun cs (x : Value × Nat) => cs.setIfInBounds (0 + x.2) x.1) arr = c := by
  apply Array.ext_getElem?
  intro i
  rw [← Array.foldl_toList, Array.toList_zipIdx, setAll_get]
  by_cases hi : i < c.size
  · rw [if_pos (by simp; omega)]
    simp
  · rw [if_neg (by simp; omega), Array.getElem?_eq_none (by omega), Array.getElem?_eq_none (by omega)]
theorem fill_one (place : Nat → Option (Nat × Nat)) (c base : Array Value) (hp : place 0 = some (0, c.size)) (hb : base.size = c.size) : Instr.fill place base [(0, .agg c)] = some c := by
  have h := setAll_eq c base hb
  simp only [Nat.zero_add] at h
  simp [Instr.fill, hp, Value.cells, hb]
  simpa using h
section
variable {P : Program} {w : World} {ops : Array Oper} {o : Oper} {a : Act} {K : Act → World → Prop} {Q : Exit → Act → World → Prop} {E : Prop}
/-- In a region that draws its order: an operation whose run is known. -/
theorem step_run (hgd : o.guard = none) (v : Value) (w' : World) (hrun : (execOp a.eval o).run P w = .ok (.value v) w') (hK : K (a.put o.dst v) w') : if Region.wanted o (yielded ops a.tmps) = true then Oper.wp P o a w K Q else E := by
  have hw : Region.wanted o (yielded ops a.tmps) = true := by simp [Region.wanted, hgd]
  rw [if_pos hw]
  unfold Oper.wp
  rw [hrun]
  exact hK
theorem wp_run (v : Value) (w' : World) (hrun : (execOp a.eval o).run P w = .ok (.value v) w') (hK : K (a.put o.dst v) w') : Oper.wp P o a w K Q := by
  unfold Oper.wp
  rw [hrun]
  exact hK
theorem wp_skip (w' : World) (hrun : (execOp a.eval o).run P w = .ok .skip w') (hK : K (a.put o.dst undef) w') : Oper.wp P o a w K Q := by
  unfold Oper.wp
  rw [hrun]
  exact hK
/-- .. that yields nothing. -/
theorem step_skip (hgd : o.guard = none) (w' : World) (hrun : (execOp a.eval o).run P w = .ok .skip w') (hK : K (a.put o.dst undef) w') : if Region.wanted o (yielded ops a.tmps) = true then Oper.wp P o a w K Q else E := by
  have hw : Region.wanted o (yielded ops a.tmps) = true := by simp [Region.wanted, hgd]
  rw [if_pos hw]
  unfold Oper.wp
  rw [hrun]
  exact hK
theorem exec_load {ρ : Operand → Value} {t : TypeId} {x : Operand} (ho : o.op = .load t x) {pv v : Value} (hx : ρ x = pv) {w' : World} (hrun : (Instr.loadAt t pv).run P w = .ok v w') : (execOp ρ o).run P w = .ok (.value v) w' := by
  unfold execOp
  simp only [ho, hx, Sem.run_bind, hrun, Result.andThen_ok, Sem.run_pure]
theorem exec_slice_one {ρ : Operand → Value} {t : TypeId} {x : Operand} (ho : o.op = .buildSlice t 1 #[(0, x)]) {v u : Value} (hx : ρ x = v) {w' : World} (hrun : (Instr.buildSlice t 1 #[(0, v)]).run P w = .ok u w') : (execOp ρ o).run P w = .ok (.value u) w' := by
  unfold execOp
  simp only [ho, List.map_toArray, List.map_cons, List.map_nil, hx, Sem.run_bind, hrun, Result.andThen_ok, Sem.run_pure]
theorem exec_append {ρ : Operand → Value} {t : TypeId} {x y : Operand} (ho : o.op = .call { callee := .builtin .append, args := #[x, y], argTypes := #[t, t] }) {u v r : Value} (hx : ρ x = u) (hy : ρ y = v) {w' : World}
    (hrun : (Builtin.append_ #[t, t] o.type #[u, v]).run P w = .ok r w') : (execOp ρ o).run P w = .ok (.value r) w' := by
  unfold execOp
  simp only [ho, resolve, invoke, builtin, Sem.run_bind, Sem.run_pure, Result.andThen_ok, List.map_toArray, List.map_cons, List.map_nil, hx, hy, hrun]
theorem exec_mapUpdate {ρ : Operand → Value} {t : TypeId} {m x y : Operand} (ho : o.op = .mapUpdate t m x y) {vm vx vy : Value} (hm : ρ m = vm) (hx : ρ x = vx) (hy : ρ y = vy) {w' : World}
    (hrun : (Instr.mapUpdate t vm vx vy).run P w = .ok () w') : (execOp ρ o).run P w = .ok .skip w' := by
  unfold execOp
  simp only [ho, hm, hx, hy, Sem.run_bind, hrun, Result.andThen_ok, Sem.run_pure]
theorem exec_lookup {ρ : Operand → Value} {t : TypeId} {m x : Operand} {ok : Bool} (ho : o.op = .lookup t m x ok) {vm vx v : Value} (hm : ρ m = vm) (hx : ρ x = vx) {w' : World}
    (hrun : (Instr.lookup t vm vx ok).run P w = .ok v w') : (execOp ρ o).run P w = .ok (.value v) w' := by
  unfold execOp
  simp only [ho, hm, hx, Sem.run_bind, hrun, Result.andThen_ok, Sem.run_pure]
theorem exec_clear {ρ : Operand → Value} {t : TypeId} {x : Operand} (ho : o.op = .call { callee := .builtin .clear, args := #[x], argTypes := #[t] }) {u r : Value} (hx : ρ x = u) {w' : World}
    (hrun : (Builtin.clear_ #[t] o.type #[u]).run P w = .ok r w') : (execOp ρ o).run P w = .ok (.value r) w' := by
  unfold execOp
  simp only [ho, resolve, invoke, builtin, Sem.run_bind, Sem.run_pure, Result.andThen_ok, List.map_toArray, List.map_cons, List.map_nil, hx, hrun]
theorem exec_min {ρ : Operand → Value} {t : TypeId} {x y : Operand} (ho : o.op = .call { callee := .builtin .min, args := #[x, y], argTypes := #[t, t] }) {k : IntKind} {m n q : Int} (hx : ρ x = .int k m) (hy : ρ y = .int k n) (hq : q = if n < m then n else m) :
    (execOp ρ o).run P w = .ok (.value (.int k q)) w := by
  subst hq
  unfold execOp
  simp only [ho, resolve, invoke, builtin, Sem.run_bind, Sem.run_pure, Result.andThen_ok, List.map_toArray, List.map_cons, List.map_nil, hx, hy, Builtin.min_, List.foldlM_cons, List.foldlM_nil, Builtin.min2, Sem.run_bind, Sem.run_pure]
theorem exec_makeSlice {ρ : Operand → Value} {t : TypeId} {x y : Operand} (ho : o.op = .makeSlice t x y) {u v r : Value} (hx : ρ x = u) (hy : ρ y = v) {w' : World} (hrun : (Instr.makeSlice t u v).run P w = .ok r w') : (execOp ρ o).run P w = .ok (.value r) w' := by
  unfold execOp
  simp only [ho, hx, hy, Sem.run_bind, hrun, Result.andThen_ok, Sem.run_pure]
theorem exec_store {ρ : Operand → Value} {t : TypeId} {x y : Operand} (ho : o.op = .store t x y) {vx vy : Value} (hx : ρ x = vx) (hy : ρ y = vy) {w' : World}
    (hrun : (Instr.storeAt t vx vy).run P w = .ok () w') : (execOp ρ o).run P w = .ok .skip w' := by
  unfold execOp
  simp only [ho, hx, hy, Sem.run_bind, hrun, Result.andThen_ok, Sem.run_pure]
theorem run_slice_one (t e : TypeId) (c : Array Value) (ie : TypeInfo) (z : Value) (hu : P.underlying t = some (.slice e)) (hie : P.info? e = some ie) (hz : ie.zero = some z) (hs : ie.size = c.size) (hp : 0 < c.size) (hsm : c.size ≤ 65536) :
    (Instr.buildSlice t 1 #[(0, .agg c)]).run P w = .ok (.slice (some ⟨w.heap.size, 0, none⟩) 1 1) (w.alloc (.cells c e)) := by
  refine run_buildSlice w t e 1 _ c ie z hu hie hz (by omega) (by omega) ?_
  exact fill_one _ c _ (by simp [hs]) (by simp [hs])
end

/-! ### What may turn -/
/-- From w to w' nothing has turned but blocks that F lets, and new ones. -/
structure Only (F : Nat → Prop) (w w' : World) : Prop where
  os : w'.os = w.os
  tape : w'.tape = w.tape
  output : w'.output = w.output
  size : w.heap.size ≤ w'.heap.size
  block : ∀ k, k < w.heap.size → ¬ F k → w'.heap[k]? = w.heap[k]?
section
variable {F F' : Nat → Prop} {w w1 w2 : World}
theorem Only.refl (F : Nat → Prop) (w : World) : Only F w w := ⟨rfl, rfl, rfl, Nat.le_refl _, fun _ _ _ => rfl⟩
theorem Only.trans (h : Only F w w1) (k : Only F w1 w2) : Only F w w2 :=
  ⟨k.os.trans h.os, k.tape.trans h.tape, k.output.trans h.output, Nat.le_trans h.size k.size, fun i hi hn => (k.block i (Nat.lt_of_lt_of_le hi h.size) hn).trans (h.block i hi hn)⟩
theorem Only.mono (h : Only F w w1) (hF : ∀ k, k < w.heap.size → F k → F' k) : Only F' w w1 := ⟨h.os, h.tape, h.output, h.size, fun k hk hn => h.block k hk fun hf => hn (hF k hk hf)⟩
theorem Only.grown {row : Option Nat} (h : w.grownBy w1 row) (hr : ∀ g, row = some g → F g) : Only F w w1 :=
  ⟨h.os, h.tape, h.output, h.size, fun k hk hn => h.block k hk fun e => hn (hr k e.symm)⟩
theorem Only.of_below (h : Below w.heap.size w w1) : Only F w w1 := ⟨h.os, h.tape, h.output, h.size, fun k hk _ => h.block k hk⟩
theorem Only.alloc (F : Nat → Prop) (w : World) (o : Obj) : Only F w (w.alloc o) := Only.of_below ((Below.refl _ _).alloc (Nat.le_refl _) _)
theorem Only.drew (F : Nat → Prop) (w : World) : Only F w w.drew := ⟨rfl, rfl, rfl, Nat.le_refl _, fun _ _ _ => rfl⟩
theorem Only.below {B : Nat} (h : Only (fun k => B ≤ k) w w1) (hB : B ≤ w.heap.size) : Below B w w1 :=
  ⟨h.os, h.tape, h.output, h.size, fun k hk => h.block k (by omega) (by omega)⟩
theorem Only.setCell {p : Addr} (hp : F p.block) (v : Value) : Only F w (w.setCell p v) :=
  ⟨rfl, rfl, rfl, by simp, fun k _ hn => heap_setCell_other w p k v (fun e => hn (e ▸ hp))⟩
end
/-- Cells in a row, stored as one value. -/
theorem store_agg {P : Program} {w : World} {g : Nat} {t : TypeId} {cs : List Value} (hg : w.heap[g]? = some (.cells cs.toArray t (0, 0))) {ys : List Value} (h1 : ∀ u ∈ ys, u.oneCell' = true) {o : Nat} (ho : o + ys.length ≤ cs.length) {ty : TypeId} (hz : (P.info? ty).map (·.size) = some ys.length) :
    ∃ w', (Instr.storeAt ty (.pointer (some ⟨g, o, none⟩)) (.agg ys.toArray)).run P w = .ok () w' ∧ w'.heap[g]? = some (.cells (cs.take o ++ ys ++ cs.drop (o + ys.length)).toArray t (0, 0)) ∧ w.grownBy w' (some g) ∧ w'.heap.size = w.heap.size := by
  have h := run_storeCells_at P g o t ys 0 cs.toArray w hg (by simp; omega) h1
  cases hq : P.info? ty with
  | none => simp [hq] at hz
  | some i =>
    have hs : i.size = ys.length := by simpa [hq] using hz
    simp only [Nat.add_zero] at h
    refine ⟨w.setRow g (cs.take o ++ ys ++ cs.drop (o + ys.length)).toArray, ?_, setRow_heap w g cs.toArray _ t (0, 0) hg, ⟨rfl, rfl, rfl, by simp, fun k hk hne => setRow_other w g k _ (fun e => hne (by rw [e]))⟩, by simp⟩
    simp only [Instr.storeAt, Instr.sureAddr, Sem.run_bind, Sem.run_pure, Result.andThen_ok, storeVar, sizeOf, typeInfo]
    simp [hq, Value.cells, hs, h]
/-- A store whose run is known. -/
theorem wpList_stored {P : Program} {w : World} {ops : Array Oper} {rest : List Oper} {o : Oper} {a : Act} {Q : Exit → Act → World → Prop} (hgd : o.guard = none) (t : TypeId) (x y : Operand) (ho : o.op = .store t x y) (vx vy : Value) (hx : a.eval x = vx) (hy : a.eval y = vy) (w' : World)
    (hrun : (Instr.storeAt t vx vy).run P w = .ok () w') (h : wpList P ops Q rest (a.put o.dst undef) w') : wpList P ops Q (o :: rest) a w := by
  refine wpList_plain hgd fun K hK => ?_
  unfold Oper.wp
  rw [exec_store ho hx hy hrun]
  exact hK _ _ h
theorem exec_build0 {ρ : Operand → Value} {o : Oper} {t : TypeId} (ho : o.op = .build t #[]) {v : Value} {P : Program} {w : World} (hrun : (Instr.build t #[]).run P w = .ok v w) : (execOp ρ o).run P w = .ok (.value v) w := by
  unfold execOp
  simp only [ho, List.map_toArray, List.map_nil, Sem.run_bind, hrun, Result.andThen_ok, Sem.run_pure]
theorem exec_index {P : Program} {w : World} {ρ : Operand → Value} {o : Oper} {t : TypeId} {x y : Operand} (ho : o.op = .index t x y) {vx vy v : Value} (hx : ρ x = vx) (hy : ρ y = vy) {w' : World} (hrun : (Instr.index t vx vy).run P w = .ok v w') : (execOp ρ o).run P w = .ok (.value v) w' := by
  unfold execOp
  simp only [ho, hx, hy, Sem.run_bind, hrun, Result.andThen_ok, Sem.run_pure]
/-- An array of one-cell elements by value, indexed. -/
theorem run_index_one {P : Program} {w : World} {t e : TypeId} {n : Nat} {d : TypeDesc} (h : P.underlying t = some (.array n e)) (he : P.underlying e = some d) (hd : d.isRow = false) (hs : (P.info? e).map (·.size) = some 1) (cs : Array Value) (k : IntKind) {i : Nat} (hi : i < n) {v : Value} (hv : cs[i]? = some v) :
    (Instr.index t (.agg cs) (.int k (i : Int))).run P w = .ok v w := by
  cases hq : P.info? e with
  | none => simp [hq] at hs
  | some q =>
    have hs1 : q.size = 1 := by simpa [hq] using hs
    have ha : (isAgg e).run P w = .ok false w := by
      unfold isAgg
      cases d <;> simp_all [TypeDesc.isRow, underlying]
    have h1 : (0 : Int) ≤ (i : Int) ∧ (i : Int) < (n : Int) := by omega
    simp [Instr.index, run_underlying h, asIntOf, part, ha, sizeOf, typeInfo, hq, hs1, hi, hv]
end Go.Proofs.Ytcandokefhbneaa
