/-
  Addresses in memory; the address of four bytes.
-/
import Derived.Test.YtalchhfpdojjjaaAdRef
import Derived.Test.YtalchhfpdojjjaaDevA
import Derived.Test.YtalchhfpdojjjaaStored
import Derived.Stop.BytesEq
namespace Go.Proofs.Ytalchhfpdojjjaa
open Go.RowKit
/-- An address's cells, and its value. -/
def adC (a : Ad) : List Value := .bool a.six :: cellsB a.b
abbrev adV (a : Ad) : Value := .agg (adC a).toArray
def pfC (p : Pf) : List Value := adC p.a ++ [.int .i64 p.bits]
abbrev pfV (p : Pf) : Value := .agg (pfC p).toArray
theorem adC_length {a : Ad} (h : a.Wide) : (adC a).length = 17 := by simp [adC, cellsB_length]; exact h
theorem pfC_length {p : Pf} (h : p.a.Wide) : (pfC p).length = 18 := by simp [pfC, adC_length h]
theorem adC_one (a : Ad) : ∀ u ∈ adC a, u.oneCell' = true := by
  intro u hu
  rcases List.mem_cons.1 hu with rfl | hu
  · rfl
  · exact cellsB_one _ u hu
theorem pfC_one (p : Pf) : ∀ u ∈ pfC p, u.oneCell' = true := by
  intro u hu
  rcases List.mem_append.1 hu with hu | hu
  · exact adC_one _ u hu
  · simp at hu; subst hu; rfl
set_option maxRecDepth 100000 in
theorem adFirst_any (a : Ad) (w : World) : Calls Try.prog 26 #[adV a] w fun e w' => e = .returned (.int .i64 (a.from : Nat)) ∧ Below w.heap.size w w' := by
  unfold Ad.from
  obtain ⟨s, b⟩ := a
  have h1 : adC ⟨s, b⟩ = .bool s :: cellsB b := rfl
  rw [adV, h1]
  clear h1
  cases s
  · go_enter Try.func26, Try.ntmps26
    go_wp2_with fail
    go_ret
    exact ⟨rfl, (Below.refl _ _).alloc (Nat.le_refl _) _⟩
  · go_enter Try.func26, Try.ntmps26
    go_wp2_with fail
    go_ret
    exact ⟨rfl, (Below.refl _ _).alloc (Nat.le_refl _) _⟩
set_option maxRecDepth 100000 in
theorem rfFrom_any (a : Ad) (w : World) : Calls Try.prog 28 #[adV a] w fun e w' => e = .returned (.int .i64 (a.from : Nat)) ∧ Below w.heap.size w w' := by
  unfold Ad.from
  obtain ⟨s, b⟩ := a
  have h1 : adC ⟨s, b⟩ = .bool s :: cellsB b := rfl
  rw [adV, h1]
  clear h1
  cases s
  · go_enter Try.func28, Try.ntmps28
    go_wp2_with fail
    go_ret
    exact ⟨rfl, (Below.refl _ _).alloc (Nat.le_refl _) _⟩
  · go_enter Try.func28, Try.ntmps28
    go_wp2_with fail
    go_ret
    exact ⟨rfl, (Below.refl _ _).alloc (Nat.le_refl _) _⟩
/-- An address in a block of its own. -/
def AdAt (w : World) (g : Nat) (a : Ad) : Prop := w.heap[g]? = some (.cells (adC a).toArray 24 (0, 0))
theorem AdAt.lt {w : World} {g : Nat} {a : Ad} (h : AdAt w g a) : g < w.heap.size := (Array.getElem?_eq_some_iff.1 h).1
theorem AdAt.below {w w' : World} {g B : Nat} {a : Ad} (h : AdAt w g a) (hb : Below B w w') (hB : g < B) : AdAt w' g a := (hb.block g hB).trans h
theorem zero_ad (w : World) : (zeroValue 24).run Try.prog w = .ok (adV Ad.zero) w := by
  rw [Try.zeroValue24]
  simp [adC, Ad.zero, cellsB]
theorem info_ad {a : Ad} (h : a.Wide) : (Try.prog.info? 24).map (·.size) = some (adC a).length := by rw [adC_length h]; kernel_rfl
theorem info_adA {a : Ad} (h : a.Wide) : (Try.prog.info? 24).map (·.size) = some (adC a).toArray.size := by rw [List.size_toArray]; exact info_ad h
/-- A whole address, stored. -/
theorem store_ad {w : World} {g : Nat} {a b : Ad} (hg : AdAt w g a) (ha : a.Wide) (hb : b.Wide) : ∃ w', (Instr.storeAt 24 (.pointer (some ⟨g, 0, none⟩)) (adV b)).run Try.prog w = .ok () w' ∧ (storeCells ⟨g, 0, none⟩ (adC b)).run Try.prog w = .ok () w' ∧ AdAt w' g b ∧ w.grownBy w' (some g) ∧ w'.heap.size = w.heap.size := by
  have h := run_storeCells_at Try.prog g 0 24 (adC b) 0 (adC a).toArray w hg (by simp [adC_length ha, adC_length hb]) (adC_one b)
  have e : (adC a).take 0 ++ adC b ++ (adC a).drop (0 + (adC b).length) = adC b := by simp [adC_length ha, adC_length hb]
  simp only [Nat.add_zero] at h
  rw [e] at h
  have hs : (Try.prog.info? 24).map (·.size) = some 17 := by kernel_rfl
  cases hq : Try.prog.info? 24 with
  | none => simp [hq] at hs
  | some i =>
    have hi : i.size = 17 := by simpa [hq] using hs
    refine ⟨_, ?_, h, ?_, ⟨rfl, rfl, rfl, by simp, fun k hk hne => setRow_other w g k _ (fun e => hne (by rw [e]))⟩, by simp⟩
    · simp only [Instr.storeAt, Instr.sureAddr, Sem.run_bind, Sem.run_pure, Result.andThen_ok, storeVar, sizeOf, typeInfo]
      simp [hq, Value.cells, hi, h, adC_length hb]
    · exact setRow_heap w g (adC a).toArray (adC b).toArray _ (0, 0) hg
/-- A result of two: one lies in a block. -/
theorem results_cell_tmp {P : Program} {fn : Func} {p q : Tmp} {ty : TypeId} (h : fn.results = #[.cell p ty, .tmp q]) (tmps : Array Value) (w : World) (g : Nat) (t : TypeId) (cs : Array Value) (fr : Nat × Nat) (d : TypeDesc)
    (hp : tmps.getD p undef = .pointer (some ⟨g, 0, none⟩)) (hg : w.heap[g]? = some (.cells cs t fr))
    (hu : P.underlying ty = some d) (hd : (match d with | .struct _ | .array _ _ => true | _ => false) = true) (hi : (P.info? ty).map (·.size) = some cs.size) :
    (results fn tmps).run P w = .ok (.tuple #[.agg cs, tmps.getD q undef]) w := by
  have hp' : tmps[p]?.getD undef = .pointer (some ⟨g, 0, none⟩) := by simpa using hp
  simp [results, h, hp', asAddr, run_loadVar_row w g t ty cs fr d hg hu hd hi]
/-- The address of IPv4 of these bytes. -/
def four (a b c d : UInt8) : Ad := ⟨false, List.replicate 12 0 ++ [a, b, c, d]⟩
set_option maxRecDepth 100000 in
theorem adFour_any (a b c d : UInt8) (w : World) : Calls Try.prog 40 #[.int .u8 (a.toNat : Int), .int .u8 (b.toNat : Int), .int .u8 (c.toNat : Int), .int .u8 (d.toNat : Int)] w fun e w' => e = .returned (adV (four a b c d)) ∧ Below w.heap.size w w' := by
  go_enter Try.func40, Try.ntmps40
  go_wp2_with fail
  have e : (adC (four a b c d)).toArray = #[.bool false, .int .u8 0, .int .u8 0, .int .u8 0, .int .u8 0, .int .u8 0, .int .u8 0, .int .u8 0, .int .u8 0, .int .u8 0, .int .u8 0, .int .u8 0, .int .u8 0, .int .u8 (a.toNat : Int), .int .u8 (b.toNat : Int), .int .u8 (c.toNat : Int), .int .u8 (d.toNat : Int)] := by
    simp [adC, four, cellsB]
  refine bodyPost_ret (results_cell_row (p := 8) (ty := 24) (by kernel_rfl) _ _ w.heap.size 24 _ (0, 0) _ rfl (heap_alloc_last w _) Try.underlying24 rfl (by kernel_rfl)) rfl ⟨by rw [adV, e], (Below.refl _ _).alloc (Nat.le_refl _) _⟩
end Go.Proofs.Ytalchhfpdojjjaa
