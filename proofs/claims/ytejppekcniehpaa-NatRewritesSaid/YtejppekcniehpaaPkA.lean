/-
  Flows and packets in memory.
-/
import Derived.Test.YtejppekcniehpaaPkSpoilt
import Derived.Test.YtejppekcniehpaaSgA
namespace Go.Proofs.Ytejppekcniehpaa
open Go.RowKit
/-- A flow's cells, and its value. -/
def flC (f : Fl) : List Value := adC f.src ++ (adC f.dst ++ [.int .u16 (f.sport : Int), .int .u16 (f.dport : Int), .int .u8 (f.proto.toNat : Int)])
abbrev flV (f : Fl) : Value := .agg (flC f).toArray
theorem flC_length {f : Fl} (hf : f.Wide) : (flC f).length = 37 := by simp [flC, adC_length hf.1, adC_length hf.2.1]
theorem flC_one (f : Fl) : ∀ u ∈ flC f, u.oneCell' = true := by
  intro u hu
  rcases List.mem_append.1 hu with hu | hu
  · exact adC_one _ u hu
  · rcases List.mem_append.1 hu with hu | hu
    · exact adC_one _ u hu
    · simp at hu
      rcases hu with rfl | rfl | rfl <;> rfl
noncomputable instance : DecidableEq Fl := fun _ _ => Classical.propDecidable _
noncomputable instance : DecidableEq Pk := fun _ _ => Classical.propDecidable _
/-- A packet's cells, and its value. -/
def Pk.Wide (p : Pk) : Prop := p.head.Wide ∧ p.flow.Wide
def pkC (p : Pk) : List Value := hdC p.head ++ (sgC p.sg ++ flC p.flow)
abbrev pkV (p : Pk) : Value := .agg (pkC p).toArray
theorem pkC_length {p : Pk} (hp : p.Wide) : (pkC p).length = 82 := by simp [pkC, hdC_length hp.1, sgC_length, flC_length hp.2]
theorem pkC_one (p : Pk) : ∀ u ∈ pkC p, u.oneCell' = true := by
  intro u hu
  rcases List.mem_append.1 hu with hu | hu
  · exact hdC_one _ u hu
  · rcases List.mem_append.1 hu with hu | hu
    · exact sgC_one _ u hu
    · exact flC_one _ u hu
theorem Fl.zero_wide : Fl.zero.Wide := ⟨rfl, rfl, by decide, by decide⟩
theorem Pk.none_wide : Pk.none.Wide := ⟨Hd.zero_wide, Fl.zero_wide⟩
def FlAt (w : World) (g : Nat) (f : Fl) : Prop := w.heap[g]? = some (.cells (flC f).toArray 37 (0, 0))
def PkAt (w : World) (g : Nat) (p : Pk) : Prop := w.heap[g]? = some (.cells (pkC p).toArray 39 (0, 0))
theorem PkAt.below {w w' : World} {g B : Nat} {h : Pk} (hg : PkAt w g h) (hb : Below B w w') (hB : g < B) : PkAt w' g h := (hb.block g hB).trans hg
theorem FlAt.below {w w' : World} {g B : Nat} {h : Fl} (hg : FlAt w g h) (hb : Below B w w') (hB : g < B) : FlAt w' g h := (hb.block g hB).trans hg
theorem zero_fl (w : World) : (zeroValue 37).run Try.prog w = .ok (flV Fl.zero) w := by
  rw [Try.zeroValue37]
  simp [flC, Fl.zero, adC, Ad.zero, cellsB]
theorem zero_pk (w : World) : (zeroValue 39).run Try.prog w = .ok (pkV Pk.none) w := by
  rw [Try.zeroValue39]
  kernel_rfl
theorem info_fl {f : Fl} (hf : f.Wide) : (Try.prog.info? 37).map (·.size) = some (flC f).length := by rw [flC_length hf]; kernel_rfl
theorem info_flA {f : Fl} (hf : f.Wide) : (Try.prog.info? 37).map (·.size) = some (flC f).toArray.size := by rw [List.size_toArray]; exact info_fl hf
theorem info_pk {p : Pk} (hp : p.Wide) : (Try.prog.info? 39).map (·.size) = some (pkC p).length := by rw [pkC_length hp]; kernel_rfl
theorem info_pkA {p : Pk} (hp : p.Wide) : (Try.prog.info? 39).map (·.size) = some (pkC p).toArray.size := by rw [List.size_toArray]; exact info_pk hp
/-- A whole struct, stored over another one of its kind. -/
theorem store_rows {w : World} {g n : Nat} {t : TypeId} {a b : List Value} (hg : w.heap[g]? = some (.cells a.toArray t (0, 0))) (ha : a.length = n) (hb : b.length = n) (ho : ∀ u ∈ b, u.oneCell' = true) (hs : (Try.prog.info? t).map (·.size) = some n) : ∃ w', (Instr.storeAt t (.pointer (some ⟨g, 0, none⟩)) (.agg b.toArray)).run Try.prog w = .ok () w' ∧ w'.heap[g]? = some (.cells b.toArray t (0, 0)) ∧ w.grownBy w' (some g) ∧ w'.heap.size = w.heap.size ∧ (storeCells ⟨g, 0, none⟩ b).run Try.prog w = .ok () w' := by
  have h := run_storeCells_at Try.prog g 0 t b 0 a.toArray w hg (by simp [ha, hb]) ho
  have e : a.take 0 ++ b ++ a.drop (0 + b.length) = b := by simp [ha, hb]
  simp only [Nat.add_zero] at h
  rw [e] at h
  cases hq : Try.prog.info? t with
  | none => simp [hq] at hs
  | some i =>
    have hi : i.size = n := by simpa [hq] using hs
    refine ⟨w.setRow g b.toArray, ?_, ?_, ⟨rfl, rfl, rfl, by simp, fun k hk hne => setRow_other w g k _ (fun e => hne (by rw [e]))⟩, by simp, h⟩
    · simp only [Instr.storeAt, Instr.sureAddr, Sem.run_bind, Sem.run_pure, Result.andThen_ok, storeVar, sizeOf, typeInfo]
      simp [hq, Value.cells, hi, h, hb]
    · exact setRow_heap w g a.toArray b.toArray _ (0, 0) hg
theorem store_fl {w : World} {g : Nat} {a b : Fl} (hg : FlAt w g a) (ha : a.Wide) (hb : b.Wide) : ∃ w', (Instr.storeAt 37 (.pointer (some ⟨g, 0, none⟩)) (flV b)).run Try.prog w = .ok () w' ∧ FlAt w' g b ∧ w.grownBy w' (some g) ∧ w'.heap.size = w.heap.size ∧ (storeCells ⟨g, 0, none⟩ (flC b)).run Try.prog w = .ok () w' :=
  store_rows hg (flC_length ha) (flC_length hb) (flC_one b) (by kernel_rfl)
theorem store_pk {w : World} {g : Nat} {a b : Pk} (hg : PkAt w g a) (ha : a.Wide) (hb : b.Wide) : ∃ w', (Instr.storeAt 39 (.pointer (some ⟨g, 0, none⟩)) (pkV b)).run Try.prog w = .ok () w' ∧ PkAt w' g b ∧ w.grownBy w' (some g) ∧ w'.heap.size = w.heap.size ∧ (storeCells ⟨g, 0, none⟩ (pkC b)).run Try.prog w = .ok () w' :=
  store_rows hg (pkC_length ha) (pkC_length hb) (pkC_one b) (by kernel_rfl)
/-- One that lies in a block, and an error: returned. -/
theorem ret_pk {fn : Func} {p q : Tmp} (h : fn.results = #[.cell p 39, .tmp q]) {tmps : Array Value} {w : World} {g : Nat} {a : Pk} {v : Value} (hp : tmps.getD p undef = .pointer (some ⟨g, 0, none⟩)) (hg : PkAt w g a) (ha : a.Wide) (hq : tmps.getD q undef = v) :
    (results fn tmps).run Try.prog w = .ok (.tuple #[pkV a, v]) w := by
  rw [← hq]
  exact results_cell_tmp h tmps w g 39 (pkC a).toArray (0, 0) _ hp hg Try.underlying39 rfl (info_pkA ha)
/-- The fields of a packet in a block. -/
theorem pkC_flow {a : Pk} (ha : a.Wide) {w : World} {g : Nat} (hg : PkAt w g a) : w.rangeAt g 45 (flC a.flow) := rangeAt_block hg fun j u hu => by
  have hj := (List.getElem?_eq_some_iff.1 hu).1
  have l1 := hdC_length ha.1
  have l2 := sgC_length a.sg
  rw [pkC, List.getElem?_append_right (by omega), l1, List.getElem?_append_right (by omega), l2, show 45 + j - 39 - 6 = j by omega]
  exact hu
theorem pkC_head {a : Pk} (ha : a.Wide) {w : World} {g : Nat} (hg : PkAt w g a) : w.rangeAt g 0 (hdC a.head) := rangeAt_block hg fun j u hu => by
  have hj := (List.getElem?_eq_some_iff.1 hu).1
  rw [pkC, List.getElem?_append_left (by omega), Nat.zero_add]
  exact hu
theorem pkC_hops {a : Pk} (ha : a.Wide) {w : World} {g : Nat} (hg : PkAt w g a) : w.cell? ⟨g, 38, none⟩ = some (.int .u8 (a.head.hops.toNat : Int)) := by
  have l1 := adC_length ha.1.1
  have l2 := adC_length ha.1.2
  rw [cell_of_row w g 38 _ _ _ hg, List.getElem?_toArray, pkC, List.getElem?_append_left (by rw [hdC_length ha.1]; omega), hdC]
  simp only [List.getElem?_cons_succ]
  rw [List.getElem?_append_right (by omega), l1, List.getElem?_append_right (by omega), l2]
  rfl
theorem pkC_zero {a : Pk} (ha : a.Wide) {w : World} {g : Nat} (hg : PkAt w g a) : w.cell? ⟨g, 43, none⟩ = some (.bool a.sg.zero) := by
  have l1 := hdC_length ha.1
  rw [cell_of_row w g 43 _ _ _ hg, List.getElem?_toArray, pkC, List.getElem?_append_right (by omega), l1, List.getElem?_append_left (by rw [sgC_length]; omega)]
  rfl
/-- Flows, compared. -/
theorem fl_parts (x : Fl) (hx : x.Wide) (W : World) :
    ((part 25 (flC x).toArray 0).run Try.prog W = .ok (adV x.src) W ∧ (part 25 (flC x).toArray 17).run Try.prog W = .ok (adV x.dst) W) ∧
    (part 26 (flC x).toArray 34).run Try.prog W = .ok (.int .u16 (x.sport : Int)) W ∧ (part 26 (flC x).toArray 35).run Try.prog W = .ok (.int .u16 (x.dport : Int)) W ∧ (part 5 (flC x).toArray 36).run Try.prog W = .ok (.int .u8 (x.proto.toNat : Int)) W := by
  have l1 := adC_length hx.1
  have l2 := adC_length hx.2.1
  refine ⟨⟨?_, ?_⟩, ?_, ?_, ?_⟩
  all_goals simp [part, isAgg, run_underlying Try.underlying5, run_underlying Try.underlying26, run_underlying Try.underlying25, go_sem]
  all_goals simp [flC, l1, l2, List.take_append_of_le_length, List.take_of_length_le]
theorem equal_fl (d : Nat) (a b : Fl) (ha : a.Wide) (hb : b.Wide) (w : World) : (Op.equalIn (d + 4) 37 (flV a) (flV b)).run Try.prog w = .ok (decide (a = b)) w := by
  rw [flV, flV, run_equalIn_struct w (d + 3) 37 _ _ (by kernel_rfl) (by kernel_rfl)]
  rw [show (Try.prog.fieldsOf 37).toList = [{ name := "Src", type := 25, offset := 0, embedded := false, tag := "", pkgPath := "", byteOffset := 0 }, { name := "Dst", type := 25, offset := 17, embedded := false, tag := "", pkgPath := "", byteOffset := 17 }, { name := "SrcPort", type := 26, offset := 34, embedded := false, tag := "", pkgPath := "", byteOffset := 34 }, { name := "DstPort", type := 26, offset := 35, embedded := false, tag := "", pkgPath := "", byteOffset := 36 }, { name := "Proto", type := 5, offset := 36, embedded := false, tag := "", pkgPath := "", byteOffset := 38 }] by kernel_rfl]
  obtain ⟨⟨pa1, pa2⟩, pa3, pa4, pa5⟩ := fl_parts a ha w
  obtain ⟨⟨pb1, pb2⟩, pb3, pb4, pb5⟩ := fl_parts b hb w
  have e1 := equal_ad d a.src b.src ha.1 hb.1 w
  have e2 := equal_ad d a.dst b.dst ha.2.1 hb.2.1 w
  have e3 := run_equalIn_int (P := Try.prog) w (d + 2) 26 .u16 .u16 (a.sport : Int) (b.sport : Int) Try.underlying26
  have e4 := run_equalIn_int (P := Try.prog) w (d + 2) 26 .u16 .u16 (a.dport : Int) (b.dport : Int) Try.underlying26
  have e5 := run_equalIn_int (P := Try.prog) w (d + 2) 5 .u8 .u8 (a.proto.toNat : Int) (b.proto.toNat : Int) Try.underlying5
  simp only [Op.eqFields, Sem.run_bind, Sem.run_ite, pa1, pa2, pa3, pa4, pa5, pb1, pb2, pb3, pb4, pb5, Result.andThen_ok, e1, e2, e3, e4, e5, Sem.run_pure]
  rw [if_pos (show "Src" ≠ "_" by decide), if_pos (show "Dst" ≠ "_" by decide), if_pos (show "SrcPort" ≠ "_" by decide), if_pos (show "DstPort" ≠ "_" by decide), if_pos (show "Proto" ≠ "_" by decide)]
  obtain ⟨s1, x1, p1, q1, k1⟩ := a
  obtain ⟨s2, x2, p2, q2, k2⟩ := b
  simp only [Result.andThen_ok, Fl.mk.injEq]
  have hu : ∀ x y : UInt8, (((x.toNat : Nat) : Int) == ((y.toNat : Nat) : Int)) = decide (x = y) := fun x y => by
    by_cases h : x = y
    · subst h; simp
    · have : x.toNat ≠ y.toNat := fun e => h (UInt8.toNat_inj.1 e)
      rw [decide_eq_false h]; simp; omega
  have hn : ∀ x y : Nat, ((x : Int) == (y : Int)) = decide (x = y) := fun x y => by
    by_cases h : x = y
    · subst h; simp
    · rw [decide_eq_false h]; simp; omega
  simp only [hu, hn]
  by_cases c1 : s1 = s2 <;> by_cases c2 : x1 = x2 <;> by_cases c3 : p1 = p2 <;> by_cases c4 : q1 = q2 <;> by_cases c5 : k1 = k2 <;> simp [c1, c2, c3, c4, c5]
theorem eql_fl (a b : Fl) (ha : a.Wide) (hb : b.Wide) (w : World) : (binOp .eql 37 (flV a) (flV b)).run Try.prog w = .ok (.bool (decide (a = b))) w := by
  rw [flV, flV, run_eql_struct]
  have := equal_fl 9996 a b ha hb w
  rw [flV, flV] at this
  rw [this]; rfl
/-- Packets, compared. -/
theorem pk_parts (x : Pk) (hx : x.Wide) (W : World) :
    (part 33 (pkC x).toArray 0).run Try.prog W = .ok (hdV x.head) W ∧ (part 35 (pkC x).toArray 39).run Try.prog W = .ok (sgV x.sg) W ∧ (part 37 (pkC x).toArray 45).run Try.prog W = .ok (flV x.flow) W := by
  have l1 := hdC_length hx.1
  have l2 := sgC_length x.sg
  have l3 := flC_length hx.2
  refine ⟨?_, ?_, ?_⟩
  all_goals simp [part, isAgg, run_underlying Try.underlying33, run_underlying Try.underlying35, run_underlying Try.underlying37, go_sem]
  · simp [pkC, l1]
  · simp [pkC, l1, l2]
  · have e : List.drop 45 (pkC x) = flC x.flow := by
      rw [pkC, List.drop_append, List.drop_of_length_le (by omega), List.nil_append, l1, List.drop_append, List.drop_of_length_le (by omega), List.nil_append, l2]
      rfl
    rw [e, List.take_of_length_le (by omega)]
theorem equal_pk (d : Nat) (a b : Pk) (ha : a.Wide) (hb : b.Wide) (w : World) : (Op.equalIn (d + 8) 39 (pkV a) (pkV b)).run Try.prog w = .ok (decide (a = b)) w := by
  rw [pkV, pkV, run_equalIn_struct w (d + 7) 39 _ _ (by kernel_rfl) (by kernel_rfl)]
  rw [show (Try.prog.fieldsOf 39).toList = [{ name := "Head", type := 33, offset := 0, embedded := false, tag := "", pkgPath := "", byteOffset := 0 }, { name := "Seg", type := 35, offset := 39, embedded := false, tag := "", pkgPath := "", byteOffset := 56 }, { name := "Flow", type := 37, offset := 45, embedded := false, tag := "", pkgPath := "", byteOffset := 88 }] by kernel_rfl]
  obtain ⟨pa1, pa2, pa3⟩ := pk_parts a ha w
  obtain ⟨pb1, pb2, pb3⟩ := pk_parts b hb w
  have e1 := equal_hd (d + 3) a.head b.head ha.1 hb.1 w
  have e2 := equal_sg (d + 5) a.sg b.sg w
  have e3 := equal_fl (d + 3) a.flow b.flow ha.2 hb.2 w
  simp only [Op.eqFields, Sem.run_bind, Sem.run_ite, pa1, pa2, pa3, pb1, pb2, pb3, Result.andThen_ok, e1, e2, e3, Sem.run_pure]
  rw [if_pos (show "Head" ≠ "_" by decide), if_pos (show "Seg" ≠ "_" by decide), if_pos (show "Flow" ≠ "_" by decide)]
  obtain ⟨s1, x1, p1⟩ := a
  obtain ⟨s2, x2, p2⟩ := b
  simp only [Result.andThen_ok, Pk.mk.injEq]
  by_cases c1 : s1 = s2 <;> by_cases c2 : x1 = x2 <;> by_cases c3 : p1 = p2 <;> simp [c1, c2, c3]
theorem eql_pk (a b : Pk) (ha : a.Wide) (hb : b.Wide) (w : World) : (binOp .eql 39 (pkV a) (pkV b)).run Try.prog w = .ok (.bool (decide (a = b))) w := by
  rw [pkV, pkV, run_eql_struct]
  have := equal_pk 9992 a b ha hb w
  rw [pkV, pkV] at this
  rw [this]; rfl
end Go.Proofs.Ytejppekcniehpaa
