/-
  A space in memory; its small calls, by contracts.
-/
import Derived.Test.YtllhilnajjohiaaSpC
import Derived.Test.YtllhilnajjohiaaStored
namespace Go.Proofs.Ytllhilnajjohiaa
open Go.RowKit
/-- A space: its number of pages, which are taken now, and in what was committed. -/
structure Spc where
  n : Nat
  now : Nat → Bool
  sure : Nat → Bool
/-- What stays so of a space. -/
structure Spc.Ok (x : Spc) : Prop where
  size : 1 ≤ x.n ∧ x.n ≤ 1600
  now : ∀ i, x.n ≤ i → x.now i = false
  sure : ∀ i, x.n ≤ i → x.sure i = false
/-- The cells of a set. -/
def setC (f : Nat → Bool) : List Value := cellsB (setB f 200)
theorem setC_length (f : Nat → Bool) : (setC f).length = 200 := by unfold setC; rw [cellsB_length, setB_length]
theorem setC_one (f : Nat → Bool) : ∀ u ∈ setC f, u.oneCell' = true := cellsB_one _
theorem setC_get (f : Nat → Bool) {k : Nat} (hk : k < 200) : (setC f)[k]? = some (.int .u8 (byteN f k : Int)) := setB_get f hk
theorem setC_put (f : Nat → Bool) (i : Nat) (v : Bool) : (setC f).set (i / 8) (.int .u8 (byteN (put f i v) (i / 8) : Int)) = setC (put f i v) := setB_put f 200 i v
/-- The cells of a space. -/
def spCells (n : Nat) (f g : Nat → Bool) : List Value := .int .i64 (n : Int) :: (setC f ++ setC g)
theorem spCells_length (n : Nat) (f g : Nat → Bool) : (spCells n f g).length = 401 := by simp [spCells, setC_length]
theorem spCells_now (n : Nat) (f g : Nat → Bool) {k : Nat} {u : Value} (h : (setC f)[k]? = some u) : (spCells n f g)[1 + k]? = some u := by
  have hk := (List.getElem?_eq_some_iff.1 h).1
  unfold spCells
  rw [Nat.add_comm, List.getElem?_cons_succ, List.getElem?_append_left hk]
  exact h
theorem spCells_sure (n : Nat) (f g : Nat → Bool) {k : Nat} {u : Value} (h : (setC g)[k]? = some u) : (spCells n f g)[201 + k]? = some u := by
  unfold spCells
  rw [show 201 + k = (200 + k) + 1 by omega, List.getElem?_cons_succ, List.getElem?_append_right (by rw [setC_length]; omega), setC_length, Nat.add_sub_cancel_left]
  exact h
theorem spCells_put (n : Nat) (f g : Nat → Bool) (i : Nat) (v : Bool) (hi : i < 1600) : (spCells n f g).set (1 + i / 8) (.int .u8 (byteN (put f i v) (i / 8) : Int)) = spCells n (put f i v) g := by
  unfold spCells
  rw [Nat.add_comm 1, List.set_cons_succ, List.set_append_left _ _ (by rw [setC_length]; omega), setC_put]
theorem spCells_sureNow (n : Nat) (f g : Nat → Bool) : (spCells n f g).take 201 ++ setC f ++ (spCells n f g).drop (201 + (setC f).length) = spCells n f f := by
  have h1 := setC_length f
  have h2 := setC_length g
  unfold spCells
  rw [h1, show 201 = 200 + 1 from rfl, List.take_succ_cons, show 200 + 1 + 200 = 400 + 1 from rfl, List.drop_succ_cons, List.take_append_of_le_length (by omega), List.take_of_length_le (by omega), List.drop_of_length_le (by simp [h1, h2])]
  simp
theorem spCells_nowSure (n : Nat) (f g : Nat → Bool) : (spCells n f g).take 1 ++ setC g ++ (spCells n f g).drop (1 + (setC g).length) = spCells n g g := by
  have h1 := setC_length f
  have h2 := setC_length g
  unfold spCells
  rw [h2, show 1 + 200 = 200 + 1 from rfl, List.drop_succ_cons, List.drop_append_of_le_length (by omega), List.drop_of_length_le (by omega)]
  simp
/-- In w there is the space x at block a. -/
structure SpcIs (w : World) (a : Nat) (x : Spc) : Prop where
  top : w.heap[a]? = some (.cells (spCells x.n x.now x.sure).toArray 51 (0, 0))
  ok : x.Ok
/-- A pointer to a block's head. -/
abbrev spAt (a : Nat) : Value := .pointer (some ⟨a, 0, none⟩)
section
variable {w w' : World} {a : Nat} {x : Spc}
theorem SpcIs.lt (h : SpcIs w a x) : a < w.heap.size := (Array.getElem?_eq_some_iff.1 h.top).1
theorem SpcIs.keep (h : SpcIs w a x) (h1 : w'.heap[a]? = w.heap[a]?) : SpcIs w' a x := ⟨h1.trans h.top, h.ok⟩
theorem SpcIs.below (h : SpcIs w a x) (hb : Below w.heap.size w w') : SpcIs w' a x := h.keep (hb.block a h.lt)
theorem SpcIs.only {F : Nat → Prop} (h : SpcIs w a x) (ho : Only F w w') (h1 : ¬ F a) : SpcIs w' a x := h.keep (ho.block a h.lt h1)
theorem SpcIs.c0 (h : SpcIs w a x) : w.cell? ⟨a, 0, none⟩ = some (.int .i64 (x.n : Int)) := by rw [cell_of_row w a 0 _ _ (0, 0) h.top]; rfl
theorem SpcIs.free (h : SpcIs w a x) (j : Nat) : w.frozen? ⟨a, j, none⟩ = false := frozen_of_row w a j _ _ h.top
theorem SpcIs.rNow (h : SpcIs w a x) : w.rangeAt a 1 (setC x.now) := fun j u hu => by
  rw [cell_of_row w a (1 + j) _ _ (0, 0) h.top, List.getElem?_toArray]
  exact spCells_now _ _ _ hu
theorem SpcIs.rSure (h : SpcIs w a x) : w.rangeAt a 201 (setC x.sure) := fun j u hu => by
  rw [cell_of_row w a (201 + j) _ _ (0, 0) h.top, List.getElem?_toArray]
  exact spCells_sure _ _ _ hu
theorem SpcIs.sNow (h : SpcIs w a x) : SetAt w a 1 x.now := SetAt.of_range h.rNow
theorem SpcIs.sSure (h : SpcIs w a x) : SetAt w a 201 x.sure := SetAt.of_range h.rSure
/-- Page i, taken or given back. -/
def Spc.put (x : Spc) (i : Nat) (v : Bool) : Spc := { x with now := Ytllhilnajjohiaa.put x.now i v }
theorem Spc.Ok.put (h : x.Ok) {i : Nat} (hi : i < x.n) (v : Bool) : (x.put i v).Ok := ⟨h.size, fun j hj => by
  have hj' : x.n ≤ j := hj
  show Ytllhilnajjohiaa.put x.now i v j = false
  rw [put_other x.now v (by omega)]
  exact h.now j hj', h.sure⟩
theorem SpcIs.put (h : SpcIs w a x) {i : Nat} (hi : i < x.n) (v : Bool) : SpcIs (w.setCell ⟨a, 1 + i / 8, none⟩ (.int .u8 (byteN (Ytllhilnajjohiaa.put x.now i v) (i / 8) : Int))).drew a (x.put i v) := by
  refine ⟨?_, h.ok.put hi v⟩
  have := heap_setCell_same w a (1 + i / 8) _ _ (.int .u8 (byteN (Ytllhilnajjohiaa.put x.now i v) (i / 8) : Int)) h.top
  show (w.setCell ⟨a, 1 + i / 8, none⟩ (.int .u8 (byteN (Ytllhilnajjohiaa.put x.now i v) (i / 8) : Int))).heap[a]? = _
  rw [this]
  simp only [List.setIfInBounds_toArray]
  have hs := h.ok.size
  rw [spCells_put _ _ _ _ _ (by omega)]
  rfl
theorem info_set : (Try.prog.info? 49).map (·.size) = some 200 := by kernel_rfl
theorem info_setC (f : Nat → Bool) : (Try.prog.info? 49).map (·.size) = some (setC f).length := by rw [info_set, setC_length]
theorem info_setA (f : Nat → Bool) : (Try.prog.info? 49).map (·.size) = some (setC f).toArray.size := by rw [info_set, List.size_toArray, setC_length]
theorem zero_set : ∃ Z : List Value, Z.length = 200 ∧ ∀ w, (zeroValue 49).run Try.prog w = .ok (.agg Z.toArray) w := by
  have h : ∀ w, (zeroValue 49).run Try.prog w = .ok (.agg (Array.replicate 200 (.int .u8 0))) w := by
    refine (zero_of_info (n := 200) ?_).1
    kernel_rfl
  exact ⟨(Array.replicate 200 (.int .u8 0)).toList, by rw [Array.length_toList, Array.size_replicate], h⟩
/-- What was committed is as it is now. -/
def Spc.commit (x : Spc) : Spc := { x with sure := x.now }
/-- What is now is as it was committed. -/
def Spc.abort (x : Spc) : Spc := { x with now := x.sure }
theorem commit_any (h : SpcIs w a x) : Calls Try.prog 12 #[spAt a] w fun e w' => e = .returned (.tuple #[]) ∧ SpcIs w' a x.commit ∧ Only (fun k => k = a) w w' := by
  obtain ⟨w1, hrun, e1, e2, e3⟩ := store_agg (P := Try.prog) h.top (setC_one x.now) (o := 201) (by rw [spCells_length, setC_length]; omega) (info_setC x.now)
  rw [spCells_sureNow] at e1
  have hi := info_setC x.now
  have hr := h.rNow
  have hfin : SpcIs w1 a x.commit ∧ Only (fun k => k = a) w w1 := ⟨⟨e1, h.ok.size, h.ok.now, h.ok.now⟩, Only.grown e2 fun g hg => (Option.some.inj hg).symm⟩
  have Hfin := Lib.hid hfin
  obtain ⟨Z, hZ⟩ : ∃ Z, Z = setC x.now := ⟨_, rfl⟩
  rw [← hZ] at hrun hi hr
  clear hfin e1 e2 e3 hZ h
  go_enter Try.func12, Try.ntmps12
  go_wp2_with (first
    | ((with_reducible refine wpList_load_mid (op := ⟨some 8, .load 49 (.tmp 7), _, _, _, _⟩) rfl 49 (.tmp 7) rfl a 1 ?_ Z (.array 200 5) hr Try.underlying49 rfl hi ?_); exact rfl)
    | ((with_reducible refine wpList_stored (o := ⟨none, .store 49 (.tmp 10) (.tmp 8), _, _, _, none⟩) rfl 49 (.tmp 10) (.tmp 8) rfl (.pointer (some ⟨a, 201, none⟩)) (.agg Z.toArray) ?_ ?_ w1 hrun ?_); exact rfl; exact rfl))
  go_end0
  exact ⟨rfl, Hfin.out⟩
end
end Go.Proofs.Ytllhilnajjohiaa
