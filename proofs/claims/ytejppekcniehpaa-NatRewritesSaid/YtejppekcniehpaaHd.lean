/-
  Heads of packets: in plain words, and in memory.
-/
import Derived.Test.YtejppekcniehpaaAdEq
namespace Go.Proofs.Ytejppekcniehpaa
open Go.RowKit
/-- A head: of IPv6 or not, what is carried, from where on, from whom, to whom, whether it is a part, how far it may go. -/
structure Hd where
  six : Bool
  proto : UInt8
  pos : Int
  src : Ad
  dst : Ad
  part : Bool
  hops : UInt8
def Hd.zero : Hd := ⟨false, 0, 0, Ad.zero, Ad.zero, false, 0⟩
def Hd.Wide (h : Hd) : Prop := h.src.Wide ∧ h.dst.Wide
theorem Hd.zero_wide : Hd.zero.Wide := ⟨rfl, rfl⟩
noncomputable instance : DecidableEq Hd := fun _ _ => Classical.propDecidable _
/-- A head's cells, and its value. -/
def hdC (h : Hd) : List Value := .bool h.six :: .int .u8 (h.proto.toNat : Int) :: .int .i64 h.pos :: (adC h.src ++ (adC h.dst ++ [.bool h.part, .int .u8 (h.hops.toNat : Int)]))
abbrev hdV (h : Hd) : Value := .agg (hdC h).toArray
theorem hdC_length {h : Hd} (hw : h.Wide) : (hdC h).length = 39 := by simp [hdC, adC_length hw.1, adC_length hw.2]
theorem hdC_one (h : Hd) : ∀ u ∈ hdC h, u.oneCell' = true := by
  intro u hu
  rcases List.mem_cons.1 hu with rfl | hu
  · rfl
  · rcases List.mem_cons.1 hu with rfl | hu
    · rfl
    · rcases List.mem_cons.1 hu with rfl | hu
      · rfl
      · rcases List.mem_append.1 hu with hu | hu
        · exact adC_one _ u hu
        · rcases List.mem_append.1 hu with hu | hu
          · exact adC_one _ u hu
          · simp at hu
            rcases hu with rfl | rfl <;> rfl
/-- A head in a block of its own. -/
def HdAt (w : World) (g : Nat) (h : Hd) : Prop := w.heap[g]? = some (.cells (hdC h).toArray 33 (0, 0))
theorem HdAt.lt {w : World} {g : Nat} {h : Hd} (hg : HdAt w g h) : g < w.heap.size := (Array.getElem?_eq_some_iff.1 hg).1
theorem HdAt.below {w w' : World} {g B : Nat} {h : Hd} (hg : HdAt w g h) (hb : Below B w w') (hB : g < B) : HdAt w' g h := (hb.block g hB).trans hg
theorem zero_hd (w : World) : (zeroValue 33).run Try.prog w = .ok (hdV Hd.zero) w := by
  rw [Try.zeroValue33]
  simp [hdC, Hd.zero, adC, Ad.zero, cellsB]
theorem info_hd {h : Hd} (hw : h.Wide) : (Try.prog.info? 33).map (·.size) = some (hdC h).length := by rw [hdC_length hw]; kernel_rfl
theorem info_hdA {h : Hd} (hw : h.Wide) : (Try.prog.info? 33).map (·.size) = some (hdC h).toArray.size := by rw [List.size_toArray]; exact info_hd hw
/-- A whole head, stored. -/
theorem store_hd {w : World} {g : Nat} {a b : Hd} (hg : HdAt w g a) (ha : a.Wide) (hb : b.Wide) : ∃ w', (Instr.storeAt 33 (.pointer (some ⟨g, 0, none⟩)) (hdV b)).run Try.prog w = .ok () w' ∧ HdAt w' g b ∧ w.grownBy w' (some g) ∧ w'.heap.size = w.heap.size ∧ (storeCells ⟨g, 0, none⟩ (hdC b)).run Try.prog w = .ok () w' := by
  have h := run_storeCells_at Try.prog g 0 33 (hdC b) 0 (hdC a).toArray w hg (by simp [hdC_length ha, hdC_length hb]) (hdC_one b)
  have e : (hdC a).take 0 ++ hdC b ++ (hdC a).drop (0 + (hdC b).length) = hdC b := by simp [hdC_length ha, hdC_length hb]
  simp only [Nat.add_zero] at h
  rw [e] at h
  have hs : (Try.prog.info? 33).map (·.size) = some 39 := by kernel_rfl
  cases hq : Try.prog.info? 33 with
  | none => simp [hq] at hs
  | some i =>
    have hi : i.size = 39 := by simpa [hq] using hs
    refine ⟨w.setRow g (hdC b).toArray, ?_, ?_, ⟨rfl, rfl, rfl, by simp, fun k hk hne => setRow_other w g k _ (fun e => hne (by rw [e]))⟩, by simp, h⟩
    · simp only [Instr.storeAt, Instr.sureAddr, Sem.run_bind, Sem.run_pure, Result.andThen_ok, storeVar, sizeOf, typeInfo]
      simp [hq, Value.cells, hi, h, hdC_length hb]
    · exact setRow_heap w g (hdC a).toArray (hdC b).toArray _ (0, 0) hg
/-- A head that lies in a block, and an error: returned. -/
theorem ret_hd {fn : Func} {p q : Tmp} (h : fn.results = #[.cell p 33, .tmp q]) {tmps : Array Value} {w : World} {g : Nat} {a : Hd} {v : Value} (hp : tmps.getD p undef = .pointer (some ⟨g, 0, none⟩)) (hg : HdAt w g a) (ha : a.Wide) (hq : tmps.getD q undef = v) :
    (results fn tmps).run Try.prog w = .ok (.tuple #[hdV a, v]) w := by
  rw [← hq]
  exact results_cell_tmp h tmps w g 33 (hdC a).toArray (0, 0) _ hp hg Try.underlying33 rfl (info_hdA ha)
/-- A head, built. -/
theorem build_hd (p : UInt8) (n : Int) (x y : Ad) (hx : x.Wide) (hy : y.Wide) (b : Bool) (k : UInt8) (W : World) : (Instr.build 33 #[(1, .int .u8 (p.toNat : Int)), (2, .int .i64 n), (3, adV x), (4, adV y), (5, .bool b), (6, .int .u8 (k.toNat : Int))]).run Try.prog W = .ok (hdV ⟨false, p, n, x, y, b, k⟩) W := by
  obtain ⟨s, B⟩ := x
  obtain ⟨s2, B2⟩ := y
  obtain ⟨a1, a2, a3, a4, a5, a6, a7, a8, a9, a10, a11, a12, a13, a14, a15, a16, rfl⟩ := list16 hx
  obtain ⟨b1, b2, b3, b4, b5, b6, b7, b8, b9, b10, b11, b12, b13, b14, b15, b16, rfl⟩ := list16 hy
  kernel_rfl
theorem build_hd0 (W : World) : (Instr.build 33 #[]).run Try.prog W = .ok (hdV Hd.zero) W := by
  kernel_rfl
theorem exec_bld6 {ρ : Operand → Value} {o : Oper} {t : TypeId} {k1 k2 k3 k4 k5 k6 : Nat} {a1 a2 a3 a4 a5 a6 : Operand} (ho : o.op = .build t #[(k1, a1), (k2, a2), (k3, a3), (k4, a4), (k5, a5), (k6, a6)]) {u1 u2 u3 u4 u5 u6 : Value} (h1 : ρ a1 = u1) (h2 : ρ a2 = u2) (h3 : ρ a3 = u3) (h4 : ρ a4 = u4) (h5 : ρ a5 = u5) (h6 : ρ a6 = u6) {v : Value} {P : Program} {w : World} (hrun : (Instr.build t #[(k1, u1), (k2, u2), (k3, u3), (k4, u4), (k5, u5), (k6, u6)]).run P w = .ok v w) : (execOp ρ o).run P w = .ok (.value v) w := by
  unfold execOp
  simp only [ho, List.map_toArray, List.map_cons, List.map_nil, h1, h2, h3, h4, h5, h6, Sem.run_bind, hrun, Result.andThen_ok, Sem.run_pure]
/-- The fields of a head in a block. -/
theorem hdC_six {a : Hd} {w : World} {g : Nat} (hg : HdAt w g a) : w.cell? ⟨g, 0, none⟩ = some (.bool a.six) := by
  rw [cell_of_row w g 0 _ _ _ hg]; rfl
theorem hdC_proto {a : Hd} {w : World} {g : Nat} (hg : HdAt w g a) : w.cell? ⟨g, 1, none⟩ = some (.int .u8 (a.proto.toNat : Int)) := by
  rw [cell_of_row w g 1 _ _ _ hg]; rfl
theorem hdC_src {a : Hd} {w : World} {g : Nat} (hg : HdAt w g a) : w.rangeAt g 3 (adC a.src) := rangeAt_block hg fun j u hu => by
  have hj := (List.getElem?_eq_some_iff.1 hu).1
  rw [hdC, Nat.add_comm]
  simp only [List.getElem?_cons_succ]
  rw [List.getElem?_append_left hj]
  exact hu
theorem hdC_dst {a : Hd} (ha : a.Wide) {w : World} {g : Nat} (hg : HdAt w g a) : w.rangeAt g 20 (adC a.dst) := rangeAt_block hg fun j u hu => by
  have hj := (List.getElem?_eq_some_iff.1 hu).1
  rw [hdC, show 20 + j = (17 + j) + 1 + 1 + 1 by omega]
  simp only [List.getElem?_cons_succ]
  rw [List.getElem?_append_right (by rw [adC_length ha.1]; omega), adC_length ha.1, Nat.add_sub_cancel_left, List.getElem?_append_left hj]
  exact hu
theorem hdC_part {a : Hd} (ha : a.Wide) {w : World} {g : Nat} (hg : HdAt w g a) : w.cell? ⟨g, 37, none⟩ = some (.bool a.part) := by
  rw [cell_of_row w g 37 _ _ _ hg, List.getElem?_toArray, hdC]
  simp only [List.getElem?_cons_succ]
  rw [List.getElem?_append_right (by rw [adC_length ha.1]; omega), adC_length ha.1, List.getElem?_append_right (by rw [adC_length ha.2]; omega), adC_length ha.2]
  rfl
theorem hdC_hops {a : Hd} (ha : a.Wide) {w : World} {g : Nat} (hg : HdAt w g a) : w.cell? ⟨g, 38, none⟩ = some (.int .u8 (a.hops.toNat : Int)) := by
  rw [cell_of_row w g 38 _ _ _ hg, List.getElem?_toArray, hdC]
  simp only [List.getElem?_cons_succ]
  rw [List.getElem?_append_right (by rw [adC_length ha.1]; omega), adC_length ha.1, List.getElem?_append_right (by rw [adC_length ha.2]; omega), adC_length ha.2]
  rfl
/-- Heads, compared. -/
theorem hd_parts (x : Hd) (hx : x.Wide) (W : World) :
    ((part 4 (hdC x).toArray 0).run Try.prog W = .ok (.bool x.six) W ∧ (part 5 (hdC x).toArray 1).run Try.prog W = .ok (.int .u8 (x.proto.toNat : Int)) W ∧ (part 3 (hdC x).toArray 2).run Try.prog W = .ok (.int .i64 x.pos) W) ∧
    ((part 25 (hdC x).toArray 3).run Try.prog W = .ok (adV x.src) W ∧ (part 25 (hdC x).toArray 20).run Try.prog W = .ok (adV x.dst) W) ∧
    (part 4 (hdC x).toArray 37).run Try.prog W = .ok (.bool x.part) W ∧ (part 5 (hdC x).toArray 38).run Try.prog W = .ok (.int .u8 (x.hops.toNat : Int)) W := by
  have l1 := adC_length hx.1
  have l2 := adC_length hx.2
  refine ⟨⟨?_, ?_, ?_⟩, ⟨?_, ?_⟩, ?_, ?_⟩
  all_goals simp [part, isAgg, run_underlying Try.underlying4, run_underlying Try.underlying5, run_underlying Try.underlying3, run_underlying Try.underlying25, go_sem]
  all_goals simp [hdC, l1, l2, List.take_append_of_le_length, List.take_of_length_le]
theorem equal_hd (d : Nat) (a b : Hd) (ha : a.Wide) (hb : b.Wide) (w : World) : (Op.equalIn (d + 4) 33 (hdV a) (hdV b)).run Try.prog w = .ok (decide (a = b)) w := by
  rw [hdV, hdV, run_equalIn_struct w (d + 3) 33 _ _ (by kernel_rfl) (by kernel_rfl)]
  rw [show (Try.prog.fieldsOf 33).toList = [{ name := "Six", type := 4, offset := 0, embedded := false, tag := "", pkgPath := "", byteOffset := 0 }, { name := "Proto", type := 5, offset := 1, embedded := false, tag := "", pkgPath := "", byteOffset := 1 }, { name := "At", type := 3, offset := 2, embedded := false, tag := "", pkgPath := "", byteOffset := 8 }, { name := "Src", type := 25, offset := 3, embedded := false, tag := "", pkgPath := "", byteOffset := 16 }, { name := "Dst", type := 25, offset := 20, embedded := false, tag := "", pkgPath := "", byteOffset := 33 }, { name := "Part", type := 4, offset := 37, embedded := false, tag := "", pkgPath := "", byteOffset := 50 }, { name := "Hops", type := 5, offset := 38, embedded := false, tag := "", pkgPath := "", byteOffset := 51 }] by kernel_rfl]
  obtain ⟨⟨pa1, pa2, pa3⟩, ⟨pa4, pa5⟩, pa6, pa7⟩ := hd_parts a ha w
  obtain ⟨⟨pb1, pb2, pb3⟩, ⟨pb4, pb5⟩, pb6, pb7⟩ := hd_parts b hb w
  have e1 := run_equalIn_bool' (P := Try.prog) w (d + 2) 4 a.six b.six Try.underlying4
  have e2 := run_equalIn_int (P := Try.prog) w (d + 2) 5 .u8 .u8 (a.proto.toNat : Int) (b.proto.toNat : Int) Try.underlying5
  have e3 := run_equalIn_int (P := Try.prog) w (d + 2) 3 .i64 .i64 a.pos b.pos Try.underlying3
  have e4 := equal_ad d a.src b.src ha.1 hb.1 w
  have e5 := equal_ad d a.dst b.dst ha.2 hb.2 w
  have e6 := run_equalIn_bool' (P := Try.prog) w (d + 2) 4 a.part b.part Try.underlying4
  have e7 := run_equalIn_int (P := Try.prog) w (d + 2) 5 .u8 .u8 (a.hops.toNat : Int) (b.hops.toNat : Int) Try.underlying5
  simp only [Op.eqFields, Sem.run_bind, Sem.run_ite, pa1, pa2, pa3, pa4, pa5, pa6, pa7, pb1, pb2, pb3, pb4, pb5, pb6, pb7, Result.andThen_ok, e1, e2, e3, e4, e5, e6, e7, Sem.run_pure]
  rw [if_pos (show "Six" ≠ "_" by decide), if_pos (show "Proto" ≠ "_" by decide), if_pos (show "At" ≠ "_" by decide), if_pos (show "Src" ≠ "_" by decide), if_pos (show "Dst" ≠ "_" by decide), if_pos (show "Part" ≠ "_" by decide), if_pos (show "Hops" ≠ "_" by decide)]
  obtain ⟨s1, p1, n1, x1, y1, q1, k1⟩ := a
  obtain ⟨s2, p2, n2, x2, y2, q2, k2⟩ := b
  simp only [Result.andThen_ok, Hd.mk.injEq]
  have hu : ∀ x y : UInt8, (((x.toNat : Nat) : Int) == ((y.toNat : Nat) : Int)) = decide (x = y) := fun x y => by
    by_cases h : x = y
    · subst h; simp
    · have : x.toNat ≠ y.toNat := fun e => h (UInt8.toNat_inj.1 e)
      rw [decide_eq_false h]; simp; omega
  simp only [hu]
  by_cases c1 : s1 = s2 <;> by_cases c2 : p1 = p2 <;> by_cases c3 : n1 = n2 <;> by_cases c4 : x1 = x2 <;> by_cases c5 : y1 = y2 <;> by_cases c6 : q1 = q2 <;> by_cases c7 : k1 = k2 <;> simp [c1, c2, c3, c4, c5, c6, c7]
theorem eql_hd (a b : Hd) (ha : a.Wide) (hb : b.Wide) (w : World) : (binOp .eql 33 (hdV a) (hdV b)).run Try.prog w = .ok (.bool (decide (a = b))) w := by
  rw [hdV, hdV, run_eql_struct]
  have := equal_hd 9996 a b ha hb w
  rw [hdV, hdV] at this
  rw [this]; rfl
end Go.Proofs.Ytejppekcniehpaa
