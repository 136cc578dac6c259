/-
  A cache in plain terms; the frames of it, one behind the other, in a block; what the blocks of a cache hold.
-/
import Derived.Test.YtfjcblppmoomdaaDevB
namespace Go.Proofs.Ytfjcblppmoomdaa
open Go.RowKit

/-! ### Rows of equal length, one behind the other -/
section
variable {α : Type} {g : α → List Value} {m : Nat}
theorem chunks_length {L : List α} (h : ∀ x ∈ L, (g x).length = m) : (L.flatMap g).length = L.length * m := by
  induction L with
  | nil => simp
  | cons a L ih =>
    rw [List.flatMap_cons, List.length_append, h a (.head _), ih fun x hx => h x (List.mem_cons_of_mem _ hx), List.length_cons, Nat.succ_mul]
    omega
theorem chunks_split {L : List α} {i : Nat} (hi : i < L.length) : L.flatMap g = (L.take i).flatMap g ++ (g L[i] ++ (L.drop (i + 1)).flatMap g) := by
  have e : L = L.take i ++ L[i] :: L.drop (i + 1) := by rw [List.getElem_cons_drop, List.take_append_drop]
  have e2 := congrArg (List.flatMap g) e
  rw [List.flatMap_append, List.flatMap_cons] at e2
  exact e2
theorem chunks_head {L : List α} (h : ∀ x ∈ L, (g x).length = m) {i : Nat} (hi : i ≤ L.length) : ((L.take i).flatMap g).length = i * m := by
  rw [chunks_length fun x hx => h x (List.mem_of_mem_take hx), List.length_take, Nat.min_eq_left hi]
theorem chunks_get {L : List α} (h : ∀ x ∈ L, (g x).length = m) {i : Nat} (hi : i < L.length) {j : Nat} {u : Value} (hu : (g L[i])[j]? = some u) : (L.flatMap g)[i * m + j]? = some u := by
  have hj := (List.getElem?_eq_some_iff.1 hu).1
  rw [chunks_split hi, List.getElem?_append_right (by rw [chunks_head h (Nat.le_of_lt hi)]; omega), chunks_head h (Nat.le_of_lt hi), Nat.add_sub_cancel_left, List.getElem?_append_left hj]
  exact hu
/-- Some cells of row i, in the place of others. -/
theorem chunks_put {L : List α} (h : ∀ x ∈ L, (g x).length = m) {i : Nat} (hi : i < L.length) {j : Nat} {ys : List Value} {y : α} (hj : j + ys.length ≤ m) (hy : (g L[i]).take j ++ ys ++ (g L[i]).drop (j + ys.length) = g y) :
    (L.flatMap g).take (i * m + j) ++ ys ++ (L.flatMap g).drop (i * m + j + ys.length) = (L.set i y).flatMap g := by
  have h1 := chunks_head h (Nat.le_of_lt hi)
  have h2 := h L[i] (List.getElem_mem hi)
  have e : (L.set i y).flatMap g = (L.take i).flatMap g ++ (g y ++ (L.drop (i + 1)).flatMap g) := by
    rw [List.set_eq_take_append_cons_drop, if_pos hi, List.flatMap_append, List.flatMap_cons]
  rw [e, chunks_split hi, ← hy, ← h1]
  rw [List.take_length_add_append, List.take_append_of_le_length (by omega), Nat.add_assoc, List.drop_length_add_append, List.drop_append_of_le_length (by omega)]
  simp only [List.append_assoc]
theorem chunks_set {L : List α} (h : ∀ x ∈ L, (g x).length = m) {i : Nat} (hi : i < L.length) {j : Nat} {v : Value} {y : α} (hj : j < m) (hy : (g L[i]).set j v = g y) :
    (L.flatMap g).set (i * m + j) v = (L.set i y).flatMap g := by
  have h2 := h L[i] (List.getElem_mem hi)
  have hlen := chunks_length h
  have hb : i * m + m ≤ L.length * m := by
    have := Nat.mul_le_mul_right m (show i + 1 ≤ L.length by omega)
    rw [Nat.succ_mul] at this
    exact this
  have := chunks_put h hi (j := j) (ys := [v]) (y := y) (by simp; omega) (by
    rw [← hy, List.set_eq_take_append_cons_drop, if_pos (by omega)]
    simp)
  rw [← this, List.set_eq_take_append_cons_drop, if_pos (by omega)]
  simp
end

/-! ### Frames -/
/-- A frame. -/
structure Frm where
  full : Bool
  no : Int
  b : List UInt8
  dirty : Bool
  used : Bool
  pins : Nat
/-- A frame that holds nothing. -/
def Frm.zero : Frm := ⟨false, 0, List.replicate 256 0, false, false, 0⟩
/-- The 261 cells of a frame. -/
def frCells (f : Frm) : List Value := .bool f.full :: .int .i64 f.no :: (cellsB f.b ++ [.bool f.dirty, .bool f.used, .int .i64 (f.pins : Int)])
/-- The cells of frames, one behind the other. -/
def rows (L : List Frm) : List Value := L.flatMap frCells
/-- Each has 256 bytes. -/
def Broad (L : List Frm) : Prop := ∀ f ∈ L, f.b.length = 256
theorem Broad.at_ {L : List Frm} (h : Broad L) {i : Nat} (hi : i < L.length) : (L[i]).b.length = 256 := h _ (List.getElem_mem hi)
theorem Broad.set {L : List Frm} (h : Broad L) (i : Nat) {f : Frm} (hf : f.b.length = 256) : Broad (L.set i f) := fun m hm => by
  rcases List.mem_or_eq_of_mem_set hm with h1 | h1
  · exact h m h1
  · subst h1; exact hf
theorem frCells_length {f : Frm} (h : f.b.length = 256) : (frCells f).length = 261 := by simp [frCells, cellsB_length, h]
theorem Broad.cells {L : List Frm} (h : Broad L) : ∀ f ∈ L, (frCells f).length = 261 := fun f hf => frCells_length (h f hf)
theorem frCells_one (f : Frm) : ∀ u ∈ frCells f, u.oneCell' = true := by
  intro u hu
  simp only [frCells, List.mem_cons, List.mem_append, List.not_mem_nil, or_false] at hu
  rcases hu with rfl | rfl | hu | rfl | rfl | rfl
  · rfl
  · rfl
  · exact cellsB_one _ u hu
  · rfl
  · rfl
  · rfl
theorem frCells_byte {f : Frm} {j : Nat} {u : Value} (hu : (cellsB f.b)[j]? = some u) : (frCells f)[2 + j]? = some u := by
  have hj := (List.getElem?_eq_some_iff.1 hu).1
  unfold frCells
  rw [Nat.add_comm, List.getElem?_cons_succ, List.getElem?_cons_succ, List.getElem?_append_left hj]
  exact hu
theorem frCells_tail {f : Frm} (h : f.b.length = 256) (k : Nat) : (frCells f)[258 + k]? = [Value.bool f.dirty, .bool f.used, .int .i64 (f.pins : Int)][k]? := by
  unfold frCells
  rw [show 258 + k = (256 + k) + 1 + 1 by omega, List.getElem?_cons_succ, List.getElem?_cons_succ, List.getElem?_append_right (by rw [cellsB_length, h]; omega), cellsB_length, h, Nat.add_sub_cancel_left]
theorem frCells_set0 (f : Frm) (x : Bool) : (frCells f).set 0 (.bool x) = frCells { f with full := x } := rfl
theorem frCells_set1 (f : Frm) (x : Int) : (frCells f).set 1 (.int .i64 x) = frCells { f with no := x } := rfl
theorem frCells_setT {f : Frm} (h : f.b.length = 256) (k : Nat) (v : Value) : (frCells f).set (258 + k) v = .bool f.full :: .int .i64 f.no :: (cellsB f.b ++ [Value.bool f.dirty, .bool f.used, .int .i64 (f.pins : Int)].set k v) := by
  unfold frCells
  rw [show 258 + k = (256 + k) + 1 + 1 by omega, List.set_cons_succ, List.set_cons_succ, List.set_append_right _ _ (by rw [cellsB_length, h]; omega), cellsB_length, h, Nat.add_sub_cancel_left]
theorem frCells_set258 {f : Frm} (h : f.b.length = 256) (x : Bool) : (frCells f).set 258 (.bool x) = frCells { f with dirty := x } := frCells_setT h 0 _
theorem frCells_set259 {f : Frm} (h : f.b.length = 256) (x : Bool) : (frCells f).set 259 (.bool x) = frCells { f with used := x } := frCells_setT h 1 _
theorem frCells_set260 {f : Frm} (h : f.b.length = 256) (x : Nat) : (frCells f).set 260 (.int .i64 (x : Int)) = frCells { f with pins := x } := frCells_setT h 2 _
theorem frCells_putB {f : Frm} (h : f.b.length = 256) {l : List UInt8} (hl : l.length = 256) : (frCells f).take 2 ++ cellsB l ++ (frCells f).drop (2 + (cellsB l).length) = frCells { f with b := l } := by
  rw [cellsB_length, hl]
  unfold frCells
  have : (cellsB f.b).length = 256 := by rw [cellsB_length, h]
  rw [show 2 + 256 = (256 + 0) + 1 + 1 by rfl, List.drop_succ_cons, List.drop_succ_cons, List.drop_append_of_le_length (by omega), List.drop_of_length_le (by omega)]
  rfl

/-! ### A cache -/
/-- A cache: its frames, its hand. -/
structure Cch where
  L : List Frm
  hand : Nat
/-- The cells of the cache's own block. -/
def cchCells (x : Cch) (bf p : Nat) : List Value := [.slice (some ⟨bf, 0, none⟩) x.L.length x.L.length, .int .i64 (x.hand : Int), at0 p]
/-- In w there is the cache x at block c, its frames in block bf; its device is at p. -/
structure CacheIs (w : World) (c bf p : Nat) (x : Cch) : Prop where
  top : w.heap[c]? = some (.cells (cchCells x bf p).toArray 76 (0, 0))
  frs : w.heap[bf]? = some (.cells (rows x.L).toArray 94 (0, 0))
  wide : Broad x.L
  ne : c ≠ bf
  size : 8 ≤ x.L.length ∧ x.L.length ≤ 64
  hand : x.hand < x.L.length
section
variable {w w' : World} {c bf p : Nat} {x : Cch}
theorem CacheIs.lt (h : CacheIs w c bf p x) : c < w.heap.size ∧ bf < w.heap.size := ⟨(Array.getElem?_eq_some_iff.1 h.top).1, (Array.getElem?_eq_some_iff.1 h.frs).1⟩
theorem CacheIs.keep (h : CacheIs w c bf p x) (h1 : w'.heap[c]? = w.heap[c]?) (h2 : w'.heap[bf]? = w.heap[bf]?) : CacheIs w' c bf p x := { h with top := h1.trans h.top, frs := h2.trans h.frs }
theorem CacheIs.below (h : CacheIs w c bf p x) (hb : Below w.heap.size w w') : CacheIs w' c bf p x := h.keep (hb.block c h.lt.1) (hb.block bf h.lt.2)
theorem CacheIs.only {F : Nat → Prop} (h : CacheIs w c bf p x) (ho : Only F w w') (h1 : ¬ F c) (h2 : ¬ F bf) : CacheIs w' c bf p x := h.keep (ho.block c h.lt.1 h1) (ho.block bf h.lt.2 h2)
theorem CacheIs.k0 (h : CacheIs w c bf p x) : w.cell? ⟨c, 0, none⟩ = some (.slice (some ⟨bf, 0, none⟩) x.L.length x.L.length) := by rw [cell_of_row w c 0 _ _ (0, 0) h.top]; rfl
theorem CacheIs.k1 (h : CacheIs w c bf p x) : w.cell? ⟨c, 1, none⟩ = some (.int .i64 (x.hand : Int)) := by rw [cell_of_row w c 1 _ _ (0, 0) h.top]; rfl
theorem CacheIs.k2 (h : CacheIs w c bf p x) : w.cell? ⟨c, 2, none⟩ = some (at0 p) := by rw [cell_of_row w c 2 _ _ (0, 0) h.top]; rfl
theorem CacheIs.freeC (h : CacheIs w c bf p x) (j : Nat) : w.frozen? ⟨c, j, none⟩ = false := frozen_of_row w c j _ _ h.top
theorem CacheIs.freeF (h : CacheIs w c bf p x) (j : Nat) : w.frozen? ⟨bf, j, none⟩ = false := frozen_of_row w bf j _ _ h.frs
theorem CacheIs.cellF (h : CacheIs w c bf p x) {i j : Nat} {v : Value} (hi : i < x.L.length) (hv : (frCells x.L[i])[j]? = some v) : w.cell? ⟨bf, i * 261 + j, none⟩ = some v := by
  rw [cell_of_row w bf (i * 261 + j) _ _ (0, 0) h.frs]
  rw [List.getElem?_toArray]
  exact chunks_get h.wide.cells hi hv
theorem CacheIs.f0 (h : CacheIs w c bf p x) {i : Nat} (hi : i < x.L.length) : w.cell? ⟨bf, i * 261, none⟩ = some (.bool x.L[i].full) := by
  have := h.cellF (j := 0) (v := .bool x.L[i].full) hi rfl
  rwa [Nat.add_zero] at this
theorem CacheIs.f1 (h : CacheIs w c bf p x) {i : Nat} (hi : i < x.L.length) : w.cell? ⟨bf, i * 261 + 1, none⟩ = some (.int .i64 x.L[i].no) := h.cellF (j := 1) hi rfl
theorem CacheIs.f258 (h : CacheIs w c bf p x) {i : Nat} (hi : i < x.L.length) : w.cell? ⟨bf, i * 261 + 258, none⟩ = some (.bool x.L[i].dirty) := h.cellF (j := 258) hi (frCells_tail (h.wide.at_ hi) 0)
theorem CacheIs.f259 (h : CacheIs w c bf p x) {i : Nat} (hi : i < x.L.length) : w.cell? ⟨bf, i * 261 + 259, none⟩ = some (.bool x.L[i].used) := h.cellF (j := 259) hi (frCells_tail (h.wide.at_ hi) 1)
theorem CacheIs.f260 (h : CacheIs w c bf p x) {i : Nat} (hi : i < x.L.length) : w.cell? ⟨bf, i * 261 + 260, none⟩ = some (.int .i64 (x.L[i].pins : Int)) := h.cellF (j := 260) hi (frCells_tail (h.wide.at_ hi) 2)
theorem CacheIs.bytes (h : CacheIs w c bf p x) {i : Nat} (hi : i < x.L.length) : w.rangeAt bf (i * 261 + 2) (cellsB x.L[i].b) := rangeAt_block h.frs fun j u hu => by
  rw [Nat.add_assoc]
  exact chunks_get h.wide.cells hi (frCells_byte hu)
/-- A cell of frame i, stored. -/
theorem CacheIs.set (h : CacheIs w c bf p x) {i j : Nat} {v : Value} {f : Frm} (hi : i < x.L.length) (hj : j < 261) (hf : (frCells x.L[i]).set j v = frCells f) (hb : f.b.length = 256) :
    CacheIs (w.setCell ⟨bf, i * 261 + j, none⟩ v) c bf p { x with L := x.L.set i f } := by
  refine ⟨?_, ?_, h.wide.set i hb, h.ne, ?_, ?_⟩
  · rw [heap_setCell_other w _ c v h.ne]
    have := h.top
    simpa [cchCells] using this
  · have := heap_setCell_same w bf (i * 261 + j) _ _ v h.frs
    rw [this]
    have e := chunks_set h.wide.cells hi hj hf
    simp only [List.setIfInBounds_toArray, rows, e]
  · simpa using h.size
  · simpa using h.hand
/-- The hand, set. -/
theorem CacheIs.turned (h : CacheIs w c bf p x) {k : Nat} (hk : k < x.L.length) : CacheIs (w.setCell ⟨c, 1, none⟩ (.int .i64 (k : Int))) c bf p { x with hand := k } := by
  refine ⟨?_, ?_, h.wide, h.ne, h.size, hk⟩
  · have := heap_setCell_same w c 1 _ _ (.int .i64 (k : Int)) h.top
    rw [this]
    rfl
  · rw [heap_setCell_other w _ bf _ h.ne.symm]
    exact h.frs
/-- Some cells of frame i, stored in a row. -/
theorem CacheIs.put (h : CacheIs w c bf p x) {i j : Nat} {ys : List Value} {f : Frm} (hi : i < x.L.length) (hj : j + ys.length ≤ 261) (hf : (frCells x.L[i]).take j ++ ys ++ (frCells x.L[i]).drop (j + ys.length) = frCells f) (hb : f.b.length = 256)
    (hw : w'.heap[bf]? = some (.cells ((rows x.L).take (i * 261 + j) ++ ys ++ (rows x.L).drop (i * 261 + j + ys.length)).toArray 94 (0, 0))) (hg : w.grownBy w' (some bf)) :
    CacheIs w' c bf p { x with L := x.L.set i f } := by
  refine ⟨?_, ?_, h.wide.set i hb, h.ne, by simpa using h.size, by simpa using h.hand⟩
  · rw [hg.block c h.lt.1 (fun e => h.ne (by injection e))]
    have := h.top
    simpa [cchCells] using this
  · rw [hw]
    have e := chunks_put h.wide.cells hi hj hf
    simp only [rows, e]
end
end Go.Proofs.Ytfjcblppmoomdaa
