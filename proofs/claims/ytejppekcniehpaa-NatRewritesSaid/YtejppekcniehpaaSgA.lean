/-
  Heads of TCP and UDP in memory.
-/
import Derived.Test.YtejppekcniehpaaSgMath
import Derived.Test.YtejppekcniehpaaHd
import Derived.Test.YtejppekcniehpaaStored
namespace Go.Proofs.Ytejppekcniehpaa
open Go.RowKit
/-- A segment's head's cells, and its value. -/
def sgC (s : Sg) : List Value := [.int .u16 (s.src : Int), .int .u16 (s.dst : Int), .int .u8 (s.flags.toNat : Int), .int .i64 s.sumAt, .bool s.zero, .int .i64 s.data]
abbrev sgV (s : Sg) : Value := .agg (sgC s).toArray
theorem sgC_length (s : Sg) : (sgC s).length = 6 := rfl
theorem sgC_one (s : Sg) : ∀ u ∈ sgC s, u.oneCell' = true := by
  intro u hu
  simp [sgC] at hu
  rcases hu with rfl | rfl | rfl | rfl | rfl | rfl <;> rfl
noncomputable instance : DecidableEq Sg := fun _ _ => Classical.propDecidable _
/-- A segment's head in a block of its own. -/
def SgAt (w : World) (g : Nat) (s : Sg) : Prop := w.heap[g]? = some (.cells (sgC s).toArray 35 (0, 0))
theorem SgAt.below {w w' : World} {g B : Nat} {s : Sg} (hg : SgAt w g s) (hb : Below B w w') (hB : g < B) : SgAt w' g s := (hb.block g hB).trans hg
theorem zero_sg (w : World) : (zeroValue 35).run Try.prog w = .ok (sgV Sg.none) w := by
  rw [Try.zeroValue35]
  simp [sgC, Sg.none]
theorem info_sg (s : Sg) : (Try.prog.info? 35).map (·.size) = some (sgC s).length := by rw [sgC_length]; kernel_rfl
theorem info_sgA (s : Sg) : (Try.prog.info? 35).map (·.size) = some (sgC s).toArray.size := by rw [List.size_toArray]; exact info_sg s
/-- A whole one, stored. -/
theorem store_sg {w : World} {g : Nat} {a b : Sg} (hg : SgAt w g a) : ∃ w', (Instr.storeAt 35 (.pointer (some ⟨g, 0, none⟩)) (sgV b)).run Try.prog w = .ok () w' ∧ SgAt w' g b ∧ w.grownBy w' (some g) ∧ w'.heap.size = w.heap.size ∧ (storeCells ⟨g, 0, none⟩ (sgC b)).run Try.prog w = .ok () w' := by
  have h := run_storeCells_at Try.prog g 0 35 (sgC b) 0 (sgC a).toArray w hg (by simp [sgC_length]) (sgC_one b)
  have e : (sgC a).take 0 ++ sgC b ++ (sgC a).drop (0 + (sgC b).length) = sgC b := by simp [sgC]
  simp only [Nat.add_zero] at h
  rw [e] at h
  have hs : (Try.prog.info? 35).map (·.size) = some 6 := by kernel_rfl
  cases hq : Try.prog.info? 35 with
  | none => simp [hq] at hs
  | some i =>
    have hi : i.size = 6 := by simpa [hq] using hs
    refine ⟨w.setRow g (sgC b).toArray, ?_, ?_, ⟨rfl, rfl, rfl, by simp, fun k hk hne => setRow_other w g k _ (fun e => hne (by rw [e]))⟩, by simp, h⟩
    · simp only [Instr.storeAt, Instr.sureAddr, Sem.run_bind, Sem.run_pure, Result.andThen_ok, storeVar, sizeOf, typeInfo]
      simp [hq, Value.cells, hi, h, sgC_length]
    · exact setRow_heap w g (sgC a).toArray (sgC b).toArray _ (0, 0) hg
/-- One that lies in a block, and an error: returned. -/
theorem ret_sg {fn : Func} {p q : Tmp} (h : fn.results = #[.cell p 35, .tmp q]) {tmps : Array Value} {w : World} {g : Nat} {a : Sg} {v : Value} (hp : tmps.getD p undef = .pointer (some ⟨g, 0, none⟩)) (hg : SgAt w g a) (hq : tmps.getD q undef = v) :
    (results fn tmps).run Try.prog w = .ok (.tuple #[sgV a, v]) w := by
  rw [← hq]
  exact results_cell_tmp h tmps w g 35 (sgC a).toArray (0, 0) _ hp hg Try.underlying35 rfl (info_sgA a)
/-- Built. -/
theorem build_sg0 (W : World) : (Instr.build 35 #[]).run Try.prog W = .ok (sgV Sg.none) W := by
  kernel_rfl
theorem build_sgTcp (s d : Nat) (f : UInt8) (n : Int) (W : World) : (Instr.build 35 #[(0, .int .u16 (s : Int)), (1, .int .u16 (d : Int)), (2, .int .u8 (f.toNat : Int)), (3, .int .i64 16), (5, .int .i64 n)]).run Try.prog W = .ok (sgV ⟨s, d, f, 16, false, n⟩) W := by
  kernel_rfl
theorem build_sgUdp (s d : Nat) (z : Bool) (W : World) : (Instr.build 35 #[(0, .int .u16 (s : Int)), (1, .int .u16 (d : Int)), (3, .int .i64 6), (4, .bool z), (5, .int .i64 8)]).run Try.prog W = .ok (sgV ⟨s, d, 0, 6, z, 8⟩) W := by
  kernel_rfl
theorem exec_bld5 {ρ : Operand → Value} {o : Oper} {t : TypeId} {k1 k2 k3 k4 k5 : Nat} {a1 a2 a3 a4 a5 : Operand} (ho : o.op = .build t #[(k1, a1), (k2, a2), (k3, a3), (k4, a4), (k5, a5)]) {u1 u2 u3 u4 u5 : Value} (h1 : ρ a1 = u1) (h2 : ρ a2 = u2) (h3 : ρ a3 = u3) (h4 : ρ a4 = u4) (h5 : ρ a5 = u5) {v : Value} {P : Program} {w : World} (hrun : (Instr.build t #[(k1, u1), (k2, u2), (k3, u3), (k4, u4), (k5, u5)]).run P w = .ok v w) : (execOp ρ o).run P w = .ok (.value v) w := by
  unfold execOp
  simp only [ho, List.map_toArray, List.map_cons, List.map_nil, h1, h2, h3, h4, h5, Sem.run_bind, hrun, Result.andThen_ok, Sem.run_pure]
/-- The fields of one in a block. -/
theorem sgC_cell {a : Sg} {w : World} {g : Nat} (hg : SgAt w g a) : w.cell? ⟨g, 0, none⟩ = some (.int .u16 (a.src : Int)) ∧ w.cell? ⟨g, 1, none⟩ = some (.int .u16 (a.dst : Int)) ∧ w.cell? ⟨g, 2, none⟩ = some (.int .u8 (a.flags.toNat : Int)) ∧ w.cell? ⟨g, 3, none⟩ = some (.int .i64 a.sumAt) ∧ w.cell? ⟨g, 4, none⟩ = some (.bool a.zero) ∧ w.cell? ⟨g, 5, none⟩ = some (.int .i64 a.data) := by
  refine ⟨?_, ?_, ?_, ?_, ?_, ?_⟩ <;> (rw [cell_of_row w g _ _ _ _ hg]; rfl)
/-- Compared. -/
theorem sg_parts (x : Sg) (W : World) :
    ((part 26 (sgC x).toArray 0).run Try.prog W = .ok (.int .u16 (x.src : Int)) W ∧ (part 26 (sgC x).toArray 1).run Try.prog W = .ok (.int .u16 (x.dst : Int)) W ∧ (part 5 (sgC x).toArray 2).run Try.prog W = .ok (.int .u8 (x.flags.toNat : Int)) W) ∧
    ((part 3 (sgC x).toArray 3).run Try.prog W = .ok (.int .i64 x.sumAt) W ∧ (part 4 (sgC x).toArray 4).run Try.prog W = .ok (.bool x.zero) W ∧ (part 3 (sgC x).toArray 5).run Try.prog W = .ok (.int .i64 x.data) W) := by
  refine ⟨⟨?_, ?_, ?_⟩, ?_, ?_, ?_⟩
  all_goals simp [part, isAgg, run_underlying Try.underlying4, run_underlying Try.underlying5, run_underlying Try.underlying3, run_underlying Try.underlying26, go_sem]
  all_goals simp [sgC]
theorem equal_sg (d : Nat) (a b : Sg) (w : World) : (Op.equalIn (d + 2) 35 (sgV a) (sgV b)).run Try.prog w = .ok (decide (a = b)) w := by
  rw [sgV, sgV, run_equalIn_struct w (d + 1) 35 _ _ (by kernel_rfl) (by kernel_rfl)]
  rw [show (Try.prog.fieldsOf 35).toList = [{ name := "Src", type := 26, offset := 0, embedded := false, tag := "", pkgPath := "", byteOffset := 0 }, { name := "Dst", type := 26, offset := 1, embedded := false, tag := "", pkgPath := "", byteOffset := 2 }, { name := "Flags", type := 5, offset := 2, embedded := false, tag := "", pkgPath := "", byteOffset := 4 }, { name := "SumAt", type := 3, offset := 3, embedded := false, tag := "", pkgPath := "", byteOffset := 8 }, { name := "Zero", type := 4, offset := 4, embedded := false, tag := "", pkgPath := "", byteOffset := 16 }, { name := "Data", type := 3, offset := 5, embedded := false, tag := "", pkgPath := "", byteOffset := 24 }] by kernel_rfl]
  obtain ⟨⟨pa1, pa2, pa3⟩, pa4, pa5, pa6⟩ := sg_parts a w
  obtain ⟨⟨pb1, pb2, pb3⟩, pb4, pb5, pb6⟩ := sg_parts b w
  have e1 := run_equalIn_int (P := Try.prog) w d 26 .u16 .u16 (a.src : Int) (b.src : Int) Try.underlying26
  have e2 := run_equalIn_int (P := Try.prog) w d 26 .u16 .u16 (a.dst : Int) (b.dst : Int) Try.underlying26
  have e3 := run_equalIn_int (P := Try.prog) w d 5 .u8 .u8 (a.flags.toNat : Int) (b.flags.toNat : Int) Try.underlying5
  have e4 := run_equalIn_int (P := Try.prog) w d 3 .i64 .i64 a.sumAt b.sumAt Try.underlying3
  have e5 := run_equalIn_bool' (P := Try.prog) w d 4 a.zero b.zero Try.underlying4
  have e6 := run_equalIn_int (P := Try.prog) w d 3 .i64 .i64 a.data b.data Try.underlying3
  simp only [Op.eqFields, Sem.run_bind, Sem.run_ite, pa1, pa2, pa3, pa4, pa5, pa6, pb1, pb2, pb3, pb4, pb5, pb6, Result.andThen_ok, e1, e2, e3, e4, e5, e6, Sem.run_pure]
  rw [if_pos (show "Src" ≠ "_" by decide), if_pos (show "Dst" ≠ "_" by decide), if_pos (show "Flags" ≠ "_" by decide), if_pos (show "SumAt" ≠ "_" by decide), if_pos (show "Zero" ≠ "_" by decide), if_pos (show "Data" ≠ "_" by decide)]
  obtain ⟨a1, a2, a3, a4, a5, a6⟩ := a
  obtain ⟨b1, b2, b3, b4, b5, b6⟩ := b
  simp only [Result.andThen_ok, Sg.mk.injEq]
  have hu : ∀ x y : UInt8, (((x.toNat : Nat) : Int) == ((y.toNat : Nat) : Int)) = decide (x = y) := fun x y => by
    by_cases h : x = y
    · subst h; simp
    · have : x.toNat ≠ y.toNat := fun e => h (UInt8.toNat_inj.1 e)
      rw [decide_eq_false h]; simp; omega
  have hn : ∀ x y : Nat, ((x : Int) == (y : Int)) = decide (x = y) := fun x y => by
    by_cases h : x = y
    · subst h; simp
    · rw [decide_eq_false h]; simp; omega
  simp only [hu, hn]
  by_cases c1 : a1 = b1 <;> by_cases c2 : a2 = b2 <;> by_cases c3 : a3 = b3 <;> by_cases c4 : a4 = b4 <;> by_cases c5 : a5 = b5 <;> by_cases c6 : a6 = b6 <;> simp [c1, c2, c3, c4, c5, c6]
theorem eql_sg (a b : Sg) (w : World) : (binOp .eql 35 (sgV a) (sgV b)).run Try.prog w = .ok (.bool (decide (a = b))) w := by
  rw [sgV, sgV, run_eql_struct]
  have := equal_sg 9998 a b w
  rw [sgV, sgV] at this
  rw [this]; rfl
end Go.Proofs.Ytejppekcniehpaa
