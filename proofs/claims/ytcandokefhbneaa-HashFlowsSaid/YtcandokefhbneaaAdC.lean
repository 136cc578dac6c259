/-
  Addresses in memory; the address of four bytes.
  Small functions of package addr and of the document's own.
  An address's bytes, and the address of bytes: contracts, the program's and the document's.
  The address of bytes: a contract.
-/
import Derived.Test.YtcandokefhbneaaAdRef
import Derived.Test.YtcandokefhbneaaStored
import Derived.Stop.BytesEq
import Derived.Laws.CopyOwn
namespace Go.Proofs.Ytcandokefhbneaa
open Go.RowKit
/-- An address's cells, and its value. -/
def adC (a : Ad) : List Value := .bool a.six :: cellsB a.b
abbrev adV (a : Ad) : Value := .agg (adC a).toArray
def pfC (p : Pf) : List Value := adC p.a ++ [.int .i64 p.bits]
abbrev pfV (p : Pf) : Value := .agg (pfC p).toArray
theorem adC_length {a : Ad} (h : a.Wide) : (adC a).length = 17 := by simp [adC, cellsB_length]; exact h
theorem pfC_length {p : Pf} (h : p.a.Wide) : (pfC p).length = 18 := by simp [pfC, adC_length h]
theorem adC_one (a : Ad) : ∀ u ∈ adC a, u.oneCell' = true := by
  intro u hu
  rcases List.mem_cons.1 hu with rfl | hu
  · rfl
  · exact cellsB_one _ u hu
theorem pfC_one (p : Pf) : ∀ u ∈ pfC p, u.oneCell' = true := by
  intro u hu
  rcases List.mem_append.1 hu with hu | hu
  · exact adC_one _ u hu
  · simp at hu; subst hu; rfl
set_option maxRecDepth 100000 in
theorem adFirst_any (a : Ad) (w : World) : Calls Try.prog 23 #[adV a] w fun e w' => e = .returned (.int .i64 (a.from : Nat)) ∧ Below w.heap.size w w' := by
  unfold Ad.from
  obtain ⟨s, b⟩ := a
  have h1 : adC ⟨s, b⟩ = .bool s :: cellsB b := rfl
  rw [adV, h1]
  clear h1
  cases s
  · go_enter Try.func23, Try.ntmps23
    go_wp2_with fail
    go_ret
    exact ⟨rfl, (Below.refl _ _).alloc (Nat.le_refl _) _⟩
  · go_enter Try.func23, Try.ntmps23
    go_wp2_with fail
    go_ret
    exact ⟨rfl, (Below.refl _ _).alloc (Nat.le_refl _) _⟩
set_option maxRecDepth 100000 in
theorem rfFrom_any (a : Ad) (w : World) : Calls Try.prog 24 #[adV a] w fun e w' => e = .returned (.int .i64 (a.from : Nat)) ∧ Below w.heap.size w w' := by
  unfold Ad.from
  obtain ⟨s, b⟩ := a
  have h1 : adC ⟨s, b⟩ = .bool s :: cellsB b := rfl
  rw [adV, h1]
  clear h1
  cases s
  · go_enter Try.func24, Try.ntmps24
    go_wp2_with fail
    go_ret
    exact ⟨rfl, (Below.refl _ _).alloc (Nat.le_refl _) _⟩
  · go_enter Try.func24, Try.ntmps24
    go_wp2_with fail
    go_ret
    exact ⟨rfl, (Below.refl _ _).alloc (Nat.le_refl _) _⟩
/-- An address in a block of its own. -/
def AdAt (w : World) (g : Nat) (a : Ad) : Prop := w.heap[g]? = some (.cells (adC a).toArray 31 (0, 0))
theorem AdAt.lt {w : World} {g : Nat} {a : Ad} (h : AdAt w g a) : g < w.heap.size := (Array.getElem?_eq_some_iff.1 h).1
theorem AdAt.below {w w' : World} {g B : Nat} {a : Ad} (h : AdAt w g a) (hb : Below B w w') (hB : g < B) : AdAt w' g a := (hb.block g hB).trans h
theorem zero_ad (w : World) : (zeroValue 31).run Try.prog w = .ok (adV Ad.zero) w := by
  rw [Try.zeroValue31]
  simp [adC, Ad.zero, cellsB]
theorem info_ad {a : Ad} (h : a.Wide) : (Try.prog.info? 31).map (·.size) = some (adC a).length := by rw [adC_length h]; kernel_rfl
theorem info_adA {a : Ad} (h : a.Wide) : (Try.prog.info? 31).map (·.size) = some (adC a).toArray.size := by rw [List.size_toArray]; exact info_ad h
/-- A whole address, stored. -/
theorem store_ad {w : World} {g : Nat} {a b : Ad} (hg : AdAt w g a) (ha : a.Wide) (hb : b.Wide) : ∃ w', (Instr.storeAt 31 (.pointer (some ⟨g, 0, none⟩)) (adV b)).run Try.prog w = .ok () w' ∧ (storeCells ⟨g, 0, none⟩ (adC b)).run Try.prog w = .ok () w' ∧ AdAt w' g b ∧ w.grownBy w' (some g) ∧ w'.heap.size = w.heap.size := by
  have h := run_storeCells_at Try.prog g 0 31 (adC b) 0 (adC a).toArray w hg (by simp [adC_length ha, adC_length hb]) (adC_one b)
  have e : (adC a).take 0 ++ adC b ++ (adC a).drop (0 + (adC b).length) = adC b := by simp [adC_length ha, adC_length hb]
  simp only [Nat.add_zero] at h
  rw [e] at h
  have hs : (Try.prog.info? 31).map (·.size) = some 17 := by kernel_rfl
  cases hq : Try.prog.info? 31 with
  | none => simp [hq] at hs
  | some i =>
    have hi : i.size = 17 := by simpa [hq] using hs
    refine ⟨_, ?_, h, ?_, ⟨rfl, rfl, rfl, by simp, fun k hk hne => setRow_other w g k _ (fun e => hne (by rw [e]))⟩, by simp⟩
    · simp only [Instr.storeAt, Instr.sureAddr, Sem.run_bind, Sem.run_pure, Result.andThen_ok, storeVar, sizeOf, typeInfo]
      simp [hq, Value.cells, hi, h, adC_length hb]
    · exact setRow_heap w g (adC a).toArray (adC b).toArray _ (0, 0) hg
/-- A result of two: one lies in a block. -/
theorem results_cell_tmp {P : Program} {fn : Func} {p q : Tmp} {ty : TypeId} (h : fn.results = #[.cell p ty, .tmp q]) (tmps : Array Value) (w : World) (g : Nat) (t : TypeId) (cs : Array Value) (fr : Nat × Nat) (d : TypeDesc)
    (hp : tmps.getD p undef = .pointer (some ⟨g, 0, none⟩)) (hg : w.heap[g]? = some (.cells cs t fr))
    (hu : P.underlying ty = some d) (hd : (match d with | .struct _ | .array _ _ => true | _ => false) = true) (hi : (P.info? ty).map (·.size) = some cs.size) :
    (results fn tmps).run P w = .ok (.tuple #[.agg cs, tmps.getD q undef]) w := by
  have hp' : tmps[p]?.getD undef = .pointer (some ⟨g, 0, none⟩) := by simpa using hp
  simp [results, h, hp', asAddr, run_loadVar_row w g t ty cs fr d hg hu hd hi]
/-- The address of IPv4 of these bytes. -/
def four (a b c d : UInt8) : Ad := ⟨false, List.replicate 12 0 ++ [a, b, c, d]⟩
/-- Arrays of 16 bytes, compared. -/
theorem eql16 (xs ys : List UInt8) (hx : xs.length = 16) (hy : ys.length = 16) (w : World) : (binOp .eql 29 (.agg (cellsB xs).toArray) (.agg (cellsB ys).toArray)).run Try.prog w = .ok (.bool (xs == ys)) w :=
  run_eql_bytes w 29 5 16 Try.underlying29 Try.underlying5 Try.sizeOf5 xs ys hx hy
theorem adC_range {a : Ad} {w : World} {g : Nat} (hg : w.heap[g]? = some (.cells (adC a).toArray 31 (0, 0))) : w.rangeAt g 1 (cellsB a.b) := rangeAt_block hg fun j u hu => by
  rw [Nat.add_comm]
  exact hu
theorem adC_six {a : Ad} {w : World} {g : Nat} (hg : w.heap[g]? = some (.cells (adC a).toArray 31 (0, 0))) : w.cell? ⟨g, 0, none⟩ = some (.bool a.six) := by
  rw [cell_of_row w g 0 _ _ _ hg]; rfl
theorem adC_at {a : Ad} {w : World} {g i : Nat} (hg : w.heap[g]? = some (.cells (adC a).toArray 31 (0, 0))) (h : i < a.b.length) : w.cell? ⟨g, 1 + i, none⟩ = some (.int .u8 ((a.b[i]).toNat : Int)) :=
  adC_range hg i _ (cellsB_at _ _ h)
/-- An address's bytes, out of its value. -/
theorem field_bytes (x : Ad) (hx : x.Wide) (W : World) : (Instr.field 31 (adV x) 1).run Try.prog W = .ok (.agg (cellsB x.b).toArray) W := by
  have hl : (cellsB x.b).length = 16 := by rw [cellsB_length]; exact hx
  simp [Instr.field, part, run_underlying Try.underlying31, asAgg, isAgg, run_underlying Try.underlying29, go_sem]
  simp [adC, List.take_of_length_le, hl]
theorem info16 (l : List UInt8) (h : l.length = 16) : (Try.prog.info? 29).map (·.size) = some (cellsB l).length := by rw [cellsB_length, h]; kernel_rfl
theorem own_slice (a : Ad) (g : Nat) (W : World) : (Instr.sliceAt 29 (.pointer (some ⟨g, 1, none⟩)) (some (.int .i64 ((a.from : Nat) : Int))) none none).run Try.prog W = .ok (.slice (some ⟨g, 1 + a.from, none⟩) (16 - a.from) (16 - a.from)) W := by
  have hal : Try.prog.arrayLen 29 = 16 := by simp [Program.arrayLen, Try.underlying29]
  have hel : Try.prog.elem 29 = 5 := by simp [Program.elem, Try.underlying29]
  have hf : a.from ≤ 12 := by unfold Ad.from; split <;> omega
  rw [run_sliceAt_array_l W 29 _ (by rw [hal, hel]; exact Try.underlying29) .i64 _ (by omega) (by rw [hal]; omega), hel, Try.sizeOf5, hal]
  simp only [Result.andThen_ok, slicedAt, Int.toNat_natCast, Nat.mul_one]
  rw [if_neg (by omega)]
  simp [Addr.add]
theorem own_rd {a : Ad} {w : World} {g : Nat} (ha : a.Wide) (hg : w.heap[g]? = some (.cells (adC a).toArray 31 (0, 0))) : Rd w (g + 1) (.slice (some ⟨g, 1 + a.from, none⟩) (16 - a.from) (16 - a.from)) (cellsB a.own) := by
  have hl : (cellsB a.own).length = 16 - a.from := by rw [cellsB_length, Ad.own, List.length_drop, ha]
  refine ⟨_, 16 - a.from, by rw [hl], by rw [hl]; exact Nat.le_refl _, by unfold maxLen; omega, (fun h => by cases h), fun _ => ⟨g, 1 + a.from, rfl, Nat.lt_succ_self _, fun j u hu => ?_⟩⟩
  rw [Nat.add_assoc]
  refine adC_range hg (a.from + j) u ?_
  rw [Ad.own, ← cellsB_drop, List.getElem?_drop] at hu
  exact hu
set_option maxRecDepth 100000 in
theorem adBytes_any (a : Ad) (w : World) (ha : a.Wide) : Calls Try.prog 18 #[adV a] w fun e w' => ∃ v, e = .returned v ∧ Mine w' w.heap.size 5 v (cellsB a.own) ∧ Below w.heap.size w w' := by
  have hw := heap_alloc_last w (.cells (adC a).toArray 31)
  have hfirst := fun w => adFirst_any a w
  have hsl := own_slice a w.heap.size
  have hsz : (Try.prog.info? 31).map (·.size) = some (adC a).toArray.size := by rw [List.size_toArray, adC_length ha]; kernel_rfl
  rw [adV] at hfirst ⊢
  have hrd := own_rd ha hw
  have hlen : a.own.length ≤ 1000000000 := by rw [Ad.own, List.length_drop, ha]; omega
  have Hf := Lib.hid hfirst
  have Hrd := Lib.hid hrd
  have Hlen := Lib.hid hlen
  obtain ⟨C, hC⟩ : ∃ C, C = (adC a).toArray := ⟨_, rfl⟩
  rw [← hC] at hw Hf Hrd hsz ⊢
  obtain ⟨f, hf⟩ : ∃ f, f = a.from := ⟨_, rfl⟩
  rw [← hf] at hsl Hf Hrd
  obtain ⟨m, hm⟩ : ∃ m, m = 16 - f := ⟨_, rfl⟩
  rw [← hm] at hsl Hrd
  clear hfirst hrd hlen hC hf hm ha
  go_enter Try.func18, Try.ntmps18
  go_wp2_with (first
    | ((with_reducible refine wpList_load_row (o := ⟨some 4, .load 31 (.tmp 1), _, _, _, _⟩) rfl 31 (.tmp 1) rfl w.heap.size ?_ 31 C (0, 0) _ hw Try.underlying31 rfl hsz ?_); exact rfl)
    | (go_at_call 23; refine (Hf.out _).mono ?_; rintro _ w1 ⟨rfl, hb⟩)
    | (go_at_call 22; refine (bytes_one _ a.own 23 w1 _ (Hrd.out.below (hb.mono (by simp))) (by have := hb.size; simp at this; omega) Hlen.out).mono ?_; rintro _ w2 ⟨v, rfl, hv, hb2⟩))
  go_ret
  have hb1 := up (up_alloc (Below.refl _ w) (.cells C 31)) hb
  exact ⟨_, rfl, hv.weaken hb1.size, hb1.trans (hb2.mono hb1.size)⟩
theorem grown_below {w w1 w2 : World} {g : Nat} (h : Below w.heap.size w w1) (hg : w1.grownBy w2 (some g)) (hgw : w.heap.size ≤ g) : Below w.heap.size w w2 :=
  h.trans ((Only.grown (F := fun k => w.heap.size ≤ k) hg (fun k hk => by cases hk; exact hgw)).below h.size)
/-- An address that lies in a block, and a bool: returned. -/
theorem ret_ad {fn : Func} {p q : Tmp} (h : fn.results = #[.cell p 31, .tmp q]) {tmps : Array Value} {w : World} {g : Nat} {a : Ad} {b : Bool} (hp : tmps.getD p undef = .pointer (some ⟨g, 0, none⟩)) (hg : AdAt w g a) (ha : a.Wide) (hq : tmps.getD q undef = .bool b) :
    (results fn tmps).run Try.prog w = .ok (.tuple #[adV a, .bool b]) w := by
  rw [← hq]
  exact results_cell_tmp h tmps w g 31 (adC a).toArray (0, 0) _ hp hg Try.underlying31 rfl (info_adA ha)
end Go.Proofs.Ytcandokefhbneaa
