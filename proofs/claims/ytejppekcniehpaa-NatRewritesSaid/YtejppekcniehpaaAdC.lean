/-
  Addresses in memory; the address of four bytes.
  Small functions of package addr and of the document's own.
  An address's bytes, and the address of bytes: contracts, the program's and the document's.
  The address of bytes: a contract.
-/
import Derived.Test.YtejppekcniehpaaAdRef
import Derived.Test.YtejppekcniehpaaStored
import Derived.Stop.BytesEq
import Derived.Laws.CopyOwn
namespace Go.Proofs.Ytejppekcniehpaa
open Go.RowKit
/-- An address's cells, and its value. -/
def adC (a : Ad) : List Value := .bool a.six :: cellsB a.b
abbrev adV (a : Ad) : Value := .agg (adC a).toArray
def pfC (p : Pf) : List Value := adC p.a ++ [.int .i64 p.bits]
abbrev pfV (p : Pf) : Value := .agg (pfC p).toArray
theorem adC_length {a : Ad} (h : a.Wide) : (adC a).length = 17 := by simp [adC, cellsB_length]; exact h
theorem pfC_length {p : Pf} (h : p.a.Wide) : (pfC p).length = 18 := by simp [pfC, adC_length h]
theorem adC_one (a : Ad) : ∀ u ∈ adC a, u.oneCell' = true := by
  intro u hu
  rcases List.mem_cons.1 hu with rfl | hu
  · rfl
  · exact cellsB_one _ u hu
theorem pfC_one (p : Pf) : ∀ u ∈ pfC p, u.oneCell' = true := by
  intro u hu
  rcases List.mem_append.1 hu with hu | hu
  · exact adC_one _ u hu
  · simp at hu; subst hu; rfl
set_option maxRecDepth 100000 in
theorem adFirst_any (a : Ad) (w : World) : Calls Try.prog 56 #[adV a] w fun e w' => e = .returned (.int .i64 (a.from : Nat)) ∧ Below w.heap.size w w' := by
  unfold Ad.from
  obtain ⟨s, b⟩ := a
  have h1 : adC ⟨s, b⟩ = .bool s :: cellsB b := rfl
  rw [adV, h1]
  clear h1
  cases s
  · go_enter Try.func56, Try.ntmps56
    go_wp2_with fail
    go_ret
    exact ⟨rfl, (Below.refl _ _).alloc (Nat.le_refl _) _⟩
  · go_enter Try.func56, Try.ntmps56
    go_wp2_with fail
    go_ret
    exact ⟨rfl, (Below.refl _ _).alloc (Nat.le_refl _) _⟩
set_option maxRecDepth 100000 in
theorem rfFrom_any (a : Ad) (w : World) : Calls Try.prog 30 #[adV a] w fun e w' => e = .returned (.int .i64 (a.from : Nat)) ∧ Below w.heap.size w w' := by
  unfold Ad.from
  obtain ⟨s, b⟩ := a
  have h1 : adC ⟨s, b⟩ = .bool s :: cellsB b := rfl
  rw [adV, h1]
  clear h1
  cases s
  · go_enter Try.func30, Try.ntmps30
    go_wp2_with fail
    go_ret
    exact ⟨rfl, (Below.refl _ _).alloc (Nat.le_refl _) _⟩
  · go_enter Try.func30, Try.ntmps30
    go_wp2_with fail
    go_ret
    exact ⟨rfl, (Below.refl _ _).alloc (Nat.le_refl _) _⟩
/-- An address in a block of its own. -/
def AdAt (w : World) (g : Nat) (a : Ad) : Prop := w.heap[g]? = some (.cells (adC a).toArray 25 (0, 0))
theorem AdAt.lt {w : World} {g : Nat} {a : Ad} (h : AdAt w g a) : g < w.heap.size := (Array.getElem?_eq_some_iff.1 h).1
theorem AdAt.below {w w' : World} {g B : Nat} {a : Ad} (h : AdAt w g a) (hb : Below B w w') (hB : g < B) : AdAt w' g a := (hb.block g hB).trans h
theorem zero_ad (w : World) : (zeroValue 25).run Try.prog w = .ok (adV Ad.zero) w := by
  rw [Try.zeroValue25]
  simp [adC, Ad.zero, cellsB]
theorem info_ad {a : Ad} (h : a.Wide) : (Try.prog.info? 25).map (·.size) = some (adC a).length := by rw [adC_length h]; kernel_rfl
theorem info_adA {a : Ad} (h : a.Wide) : (Try.prog.info? 25).map (·.size) = some (adC a).toArray.size := by rw [List.size_toArray]; exact info_ad h
/-- A whole address, stored. -/
theorem store_ad {w : World} {g : Nat} {a b : Ad} (hg : AdAt w g a) (ha : a.Wide) (hb : b.Wide) : ∃ w', (Instr.storeAt 25 (.pointer (some ⟨g, 0, none⟩)) (adV b)).run Try.prog w = .ok () w' ∧ (storeCells ⟨g, 0, none⟩ (adC b)).run Try.prog w = .ok () w' ∧ AdAt w' g b ∧ w.grownBy w' (some g) ∧ w'.heap.size = w.heap.size := by
  have h := run_storeCells_at Try.prog g 0 25 (adC b) 0 (adC a).toArray w hg (by simp [adC_length ha, adC_length hb]) (adC_one b)
  have e : (adC a).take 0 ++ adC b ++ (adC a).drop (0 + (adC b).length) = adC b := by simp [adC_length ha, adC_length hb]
  simp only [Nat.add_zero] at h
  rw [e] at h
  have hs : (Try.prog.info? 25).map (·.size) = some 17 := by kernel_rfl
  cases hq : Try.prog.info? 25 with
  | none => simp [hq] at hs
  | some i =>
    have hi : i.size = 17 := by simpa [hq] using hs
    refine ⟨_, ?_, h, ?_, ⟨rfl, rfl, rfl, by simp, fun k hk hne => setRow_other w g k _ (fun e => hne (by rw [e]))⟩, by simp⟩
    · simp only [Instr.storeAt, Instr.sureAddr, Sem.run_bind, Sem.run_pure, Result.andThen_ok, storeVar, sizeOf, typeInfo]
      simp [hq, Value.cells, hi, h, adC_length hb]
    · exact setRow_heap w g (adC a).toArray (adC b).toArray _ (0, 0) hg
/-- A result of two: one lies in a block. -/
theorem results_cell_tmp {P : Program} {fn : Func} {p q : Tmp} {ty : TypeId} (h : fn.results = #[.cell p ty, .tmp q]) (tmps : Array Value) (w : World) (g : Nat) (t : TypeId) (cs : Array Value) (fr : Nat × Nat) (d : TypeDesc)
    (hp : tmps.getD p undef = .pointer (some ⟨g, 0, none⟩)) (hg : w.heap[g]? = some (.cells cs t fr))
    (hu : P.underlying ty = some d) (hd : (match d with | .struct _ | .array _ _ => true | _ => false) = true) (hi : (P.info? ty).map (·.size) = some cs.size) :
    (results fn tmps).run P w = .ok (.tuple #[.agg cs, tmps.getD q undef]) w := by
  have hp' : tmps[p]?.getD undef = .pointer (some ⟨g, 0, none⟩) := by simpa using hp
  simp [results, h, hp', asAddr, run_loadVar_row w g t ty cs fr d hg hu hd hi]
/-- The address of IPv4 of these bytes. -/
def four (a b c d : UInt8) : Ad := ⟨false, List.replicate 12 0 ++ [a, b, c, d]⟩
set_option maxRecDepth 100000 in
theorem adFour_any (a b c d : UInt8) (w : World) : Calls Try.prog 44 #[.int .u8 (a.toNat : Int), .int .u8 (b.toNat : Int), .int .u8 (c.toNat : Int), .int .u8 (d.toNat : Int)] w fun e w' => e = .returned (adV (four a b c d)) ∧ Below w.heap.size w w' := by
  go_enter Try.func44, Try.ntmps44
  go_wp2_with fail
  have e : (adC (four a b c d)).toArray = #[.bool false, .int .u8 0, .int .u8 0, .int .u8 0, .int .u8 0, .int .u8 0, .int .u8 0, .int .u8 0, .int .u8 0, .int .u8 0, .int .u8 0, .int .u8 0, .int .u8 0, .int .u8 (a.toNat : Int), .int .u8 (b.toNat : Int), .int .u8 (c.toNat : Int), .int .u8 (d.toNat : Int)] := by
    simp [adC, four, cellsB]
  refine bodyPost_ret (results_cell_row (p := 8) (ty := 25) (by kernel_rfl) _ _ w.heap.size 25 _ (0, 0) _ rfl (heap_alloc_last w _) Try.underlying25 rfl (by kernel_rfl)) rfl ⟨by rw [adV, e], (Below.refl _ _).alloc (Nat.le_refl _) _⟩
/-- Arrays of 16 bytes, compared. -/
theorem eql16 (xs ys : List UInt8) (hx : xs.length = 16) (hy : ys.length = 16) (w : World) : (binOp .eql 23 (.agg (cellsB xs).toArray) (.agg (cellsB ys).toArray)).run Try.prog w = .ok (.bool (xs == ys)) w :=
  run_eql_bytes w 23 5 16 Try.underlying23 Try.underlying5 Try.sizeOf5 xs ys hx hy
theorem adC_range {a : Ad} {w : World} {g : Nat} (hg : w.heap[g]? = some (.cells (adC a).toArray 25 (0, 0))) : w.rangeAt g 1 (cellsB a.b) := rangeAt_block hg fun j u hu => by
  rw [Nat.add_comm]
  exact hu
theorem adC_six {a : Ad} {w : World} {g : Nat} (hg : w.heap[g]? = some (.cells (adC a).toArray 25 (0, 0))) : w.cell? ⟨g, 0, none⟩ = some (.bool a.six) := by
  rw [cell_of_row w g 0 _ _ _ hg]; rfl
theorem adC_at {a : Ad} {w : World} {g i : Nat} (hg : w.heap[g]? = some (.cells (adC a).toArray 25 (0, 0))) (h : i < a.b.length) : w.cell? ⟨g, 1 + i, none⟩ = some (.int .u8 ((a.b[i]).toNat : Int)) :=
  adC_range hg i _ (cellsB_at _ _ h)
/-- An address's bytes, out of its value. -/
theorem field_bytes (x : Ad) (hx : x.Wide) (W : World) : (Instr.field 25 (adV x) 1).run Try.prog W = .ok (.agg (cellsB x.b).toArray) W := by
  have hl : (cellsB x.b).length = 16 := by rw [cellsB_length]; exact hx
  simp [Instr.field, part, run_underlying Try.underlying25, asAgg, isAgg, run_underlying Try.underlying23, go_sem]
  simp [adC, List.take_of_length_le, hl]
theorem info16 (l : List UInt8) (h : l.length = 16) : (Try.prog.info? 23).map (·.size) = some (cellsB l).length := by rw [cellsB_length, h]; kernel_rfl
set_option maxRecDepth 100000 in
theorem adGood_any (a : Ad) (w : World) (ha : a.Wide) : Calls Try.prog 24 #[adV a] w fun e w' => e = .returned (.bool a.good) ∧ Below w.heap.size w w' := by
  obtain ⟨s, B⟩ := a
  have hB : B.length = 16 := ha
  have hw := heap_alloc_last w (.cells (adC ⟨s, B⟩).toArray 25)
  have h0 := adC_six hw
  have hr := adC_range hw
  have c1 := adC_at hw (show 12 < B.length by omega)
  have c2 := adC_at hw (show 13 < B.length by omega)
  have c3 := adC_at hw (show 14 < B.length by omega)
  have c4 := adC_at hw (show 15 < B.length by omega)
  have hi := info16 B hB
  have hgood : (B == (four B[12] B[13] B[14] B[15]).b) = (Ad.mk false B).good := by
    obtain ⟨a, b, c, d, e, f, g, i, j, k, m, n, o, p, q, r, rfl⟩ := list16 hB
    rw [Bool.eq_iff_iff]
    simp [four, Ad.good]
  dsimp only at c1 c2 c3 c4 hr h0
  generalize B[12] = o at c1 hgood
  generalize B[13] = p at c2 hgood
  generalize B[14] = q at c3 hgood
  generalize B[15] = r at c4 hgood
  have heq := eql16 B (four o p q r).b hB rfl
  have hf := fun w => adFour_any o p q r w
  obtain ⟨x, hx⟩ : ∃ x, x = four o p q r := ⟨_, rfl⟩
  rw [← hx] at heq hf hgood
  have hfield : ∀ W, (Instr.field 25 (adV x) 1).run Try.prog W = .ok (.agg (cellsB x.b).toArray) W := fun W => field_bytes x (by rw [hx]; rfl) W
  have h1 : adC ⟨s, B⟩ = .bool s :: cellsB B := rfl
  obtain ⟨C, hC⟩ : ∃ C, C = adC ⟨s, B⟩ := ⟨_, rfl⟩
  rw [← hC] at hw h0 hr c1 c2 c3 c4
  rw [adV, ← hC]
  have Hf := Lib.hid hf
  have HC := Lib.hid hgood
  have u22 := Try.underlying23
  clear hf hC h1 hx ha hB hgood
  cases s
  · go_enter Try.func24, Try.ntmps24
    go_wp2_with fail
    go_region_held3 (fun w' => w'.cell? ⟨w.heap.size, 0, none⟩ = some (.bool false) ∧ w'.rangeAt w.heap.size 1 (cellsB B) ∧ w'.cell? ⟨w.heap.size, 1 + 12, none⟩ = some (.int .u8 (o.toNat : Int)) ∧ w'.cell? ⟨w.heap.size, 1 + 13, none⟩ = some (.int .u8 (p.toNat : Int)) ∧ w'.cell? ⟨w.heap.size, 1 + 14, none⟩ = some (.int .u8 (q.toNat : Int)) ∧ w'.cell? ⟨w.heap.size, 1 + 15, none⟩ = some (.int .u8 (r.toNat : Int)))
      (first | exact ⟨h0, hr, c1, c2, c3, c4⟩ | exact ⟨(hk _).trans h0, fun j v hj => (hk _).trans (hr j v hj), (hk _).trans c1, (hk _).trans c2, (hk _).trans c3, (hk _).trans c4⟩)
      (first | (go_at_call 44; refine (Hf.out _).mono ?_; rintro _ w1 ⟨rfl, hb⟩; have hk : ∀ o, w1.cell? ⟨w.heap.size, o, none⟩ = (w.alloc (.cells C.toArray 25)).cell? ⟨w.heap.size, o, none⟩ := fun o => hb.cell (by simp)))
    go_wp2_with fail
    go_ret
    exact ⟨congrArg _ (congrArg _ HC.out), up (up_drew (up_alloc (Below.refl _ _) _)) hb⟩
  · go_enter Try.func24, Try.ntmps24
    go_wp2_with fail
    go_region
    go_wp2_with fail
    go_ret
    exact ⟨rfl, up_drew (up_alloc (Below.refl _ _) _)⟩
theorem own_slice (a : Ad) (g : Nat) (W : World) : (Instr.sliceAt 23 (.pointer (some ⟨g, 1, none⟩)) (some (.int .i64 ((a.from : Nat) : Int))) none none).run Try.prog W = .ok (.slice (some ⟨g, 1 + a.from, none⟩) (16 - a.from) (16 - a.from)) W := by
  have hal : Try.prog.arrayLen 23 = 16 := by simp [Program.arrayLen, Try.underlying23]
  have hel : Try.prog.elem 23 = 5 := by simp [Program.elem, Try.underlying23]
  have hf : a.from ≤ 12 := by unfold Ad.from; split <;> omega
  rw [run_sliceAt_array_l W 23 _ (by rw [hal, hel]; exact Try.underlying23) .i64 _ (by omega) (by rw [hal]; omega), hel, Try.sizeOf5, hal]
  simp only [Result.andThen_ok, slicedAt, Int.toNat_natCast, Nat.mul_one]
  rw [if_neg (by omega)]
  simp [Addr.add]
theorem own_rd {a : Ad} {w : World} {g : Nat} (ha : a.Wide) (hg : w.heap[g]? = some (.cells (adC a).toArray 25 (0, 0))) : Rd w (g + 1) (.slice (some ⟨g, 1 + a.from, none⟩) (16 - a.from) (16 - a.from)) (cellsB a.own) := by
  have hl : (cellsB a.own).length = 16 - a.from := by rw [cellsB_length, Ad.own, List.length_drop, ha]
  refine ⟨_, 16 - a.from, by rw [hl], by rw [hl]; exact Nat.le_refl _, by unfold maxLen; omega, (fun h => by cases h), fun _ => ⟨g, 1 + a.from, rfl, Nat.lt_succ_self _, fun j u hu => ?_⟩⟩
  rw [Nat.add_assoc]
  refine adC_range hg (a.from + j) u ?_
  rw [Ad.own, ← cellsB_drop, List.getElem?_drop] at hu
  exact hu
set_option maxRecDepth 100000 in
theorem adBytes_any (a : Ad) (w : World) (ha : a.Wide) : Calls Try.prog 45 #[adV a] w fun e w' => ∃ v, e = .returned v ∧ Mine w' w.heap.size 5 v (cellsB a.own) ∧ Below w.heap.size w w' := by
  have hw := heap_alloc_last w (.cells (adC a).toArray 25)
  have hfirst := fun w => adFirst_any a w
  have hsl := own_slice a w.heap.size
  have hsz : (Try.prog.info? 25).map (·.size) = some (adC a).toArray.size := by rw [List.size_toArray, adC_length ha]; kernel_rfl
  rw [adV] at hfirst ⊢
  have hrd := own_rd ha hw
  have hlen : a.own.length ≤ 1000000000 := by rw [Ad.own, List.length_drop, ha]; omega
  have Hf := Lib.hid hfirst
  have Hrd := Lib.hid hrd
  have Hlen := Lib.hid hlen
  obtain ⟨C, hC⟩ : ∃ C, C = (adC a).toArray := ⟨_, rfl⟩
  rw [← hC] at hw Hf Hrd hsz ⊢
  obtain ⟨f, hf⟩ : ∃ f, f = a.from := ⟨_, rfl⟩
  rw [← hf] at hsl Hf Hrd
  obtain ⟨m, hm⟩ : ∃ m, m = 16 - f := ⟨_, rfl⟩
  rw [← hm] at hsl Hrd
  clear hfirst hrd hlen hC hf hm ha
  go_enter Try.func45, Try.ntmps45
  go_wp2_with (first
    | ((with_reducible refine wpList_load_row (o := ⟨some 4, .load 25 (.tmp 1), _, _, _, _⟩) rfl 25 (.tmp 1) rfl w.heap.size ?_ 25 C (0, 0) _ hw Try.underlying25 rfl hsz ?_); exact rfl)
    | (go_at_call 56; refine (Hf.out _).mono ?_; rintro _ w1 ⟨rfl, hb⟩)
    | (go_at_call 25; refine (bytes_one _ a.own 22 w1 _ (Hrd.out.below (hb.mono (by simp))) (by have := hb.size; simp at this; omega) Hlen.out).mono ?_; rintro _ w2 ⟨v, rfl, hv, hb2⟩))
  go_ret
  have hb1 := up (up_alloc (Below.refl _ w) (.cells C 25)) hb
  exact ⟨_, rfl, hv.weaken hb1.size, hb1.trans (hb2.mono hb1.size)⟩
theorem grown_below {w w1 w2 : World} {g : Nat} (h : Below w.heap.size w w1) (hg : w1.grownBy w2 (some g)) (hgw : w.heap.size ≤ g) : Below w.heap.size w w2 :=
  h.trans ((Only.grown (F := fun k => w.heap.size ≤ k) hg (fun k hk => by cases hk; exact hgw)).below h.size)
/-- An address that lies in a block, and a bool: returned. -/
theorem ret_ad {fn : Func} {p q : Tmp} (h : fn.results = #[.cell p 25, .tmp q]) {tmps : Array Value} {w : World} {g : Nat} {a : Ad} {b : Bool} (hp : tmps.getD p undef = .pointer (some ⟨g, 0, none⟩)) (hg : AdAt w g a) (ha : a.Wide) (hq : tmps.getD q undef = .bool b) :
    (results fn tmps).run Try.prog w = .ok (.tuple #[adV a, .bool b]) w := by
  rw [← hq]
  exact results_cell_tmp h tmps w g 25 (adC a).toArray (0, 0) _ hp hg Try.underlying25 rfl (info_adA ha)
set_option maxRecDepth 100000 in
theorem adOf_four (A : Option Addr) (c : Nat) (l : List UInt8) (w : World) (B : Nat) (hr : Rd w B (.slice A l.length c) (cellsB l)) (hB : B ≤ w.heap.size) (hl : l.length = 4) :
    Calls Try.prog 80 #[.slice A l.length c] w fun e w' => e = .returned (.tuple #[adV ⟨false, List.replicate 12 0 ++ l⟩, .bool true]) ∧ Below w.heap.size w w' := by
  obtain ⟨x, y, z, u, rfl⟩ : ∃ x y z u, l = [x, y, z, u] := by
    match l, hl with
    | [x, y, z, u], _ => exact ⟨x, y, z, u, rfl⟩
  obtain ⟨b, o, rfl, hb, hc⟩ := hr.addr (by simp)
  have hw := heap_alloc_last w (.cells (adC Ad.zero).toArray 25)
  have hcell : ∀ j, (w.alloc (.cells (adC Ad.zero).toArray 25)).cell? ⟨b, o + j, none⟩ = w.cell? ⟨b, o + j, none⟩ := fun j => World.cell?_alloc_lt w _ _ (show b < w.heap.size by omega)
  have c0 := (hcell 0).trans (hc 0 (by simp))
  have c1 := (hcell 1).trans (hc 1 (by simp))
  have c2 := (hcell 2).trans (hc 2 (by simp))
  have c3 := (hcell 3).trans (hc 3 (by simp))
  simp only [List.getElem_cons_zero, List.getElem_cons_succ] at c0 c1 c2 c3
  rw [Nat.add_zero] at c0
  have hz := zero_ad
  have hf := fun w => adFour_any x y z u w
  have hx : (four x y z u).Wide := rfl
  have e : four x y z u = ⟨false, List.replicate 12 0 ++ [x, y, z, u]⟩ := rfl
  rw [← e]
  generalize four x y z u = a at hf hx
  have hi := info_adA hx
  have Hf := Lib.hid hf
  have Hx := Lib.hid hx
  have Hw := Lib.hid hw
  obtain ⟨Z, hZ⟩ : ∃ Z, Z = (adC Ad.zero).toArray := ⟨_, rfl⟩
  rw [adV, ← hZ] at hz
  rw [← hZ] at c0 c1 c2 c3
  have HZ := Lib.hid hZ
  clear hf hx hw hcell hc hr e hl hZ
  simp only [List.length_cons, List.length_nil]
  go_enter Try.func80, Try.ntmps80
  go_wp2_with (first
    | (with_reducible refine wpList_alloc_zero (o := ⟨some 2, .alloc 25, _, _, _, _⟩) rfl 25 rfl Z hz ?_))
  go_region_held3 (fun w' => w'.cell? ⟨b, o, none⟩ = some (.int .u8 (x.toNat : Int)) ∧ w'.cell? ⟨b, o + 1, none⟩ = some (.int .u8 (y.toNat : Int)) ∧ w'.cell? ⟨b, o + 2, none⟩ = some (.int .u8 (z.toNat : Int)) ∧ w'.cell? ⟨b, o + 3, none⟩ = some (.int .u8 (u.toNat : Int)))
    (first | exact ⟨c0, c1, c2, c3⟩ | exact ⟨(hk _).trans c0, (hk _).trans c1, (hk _).trans c2, (hk _).trans c3⟩ | exact HS.out)
    (first | (go_at_call 44; refine (Hf.out _).mono ?_; rintro _ w1 ⟨rfl, hb1⟩; have hk : ∀ o, w1.cell? ⟨b, o, none⟩ = (w.alloc (.cells Z 25)).cell? ⟨b, o, none⟩ := (fun o => hb1.cell (by simp; omega)); have hln := adC_length Hx.out; obtain ⟨w2, hst, hsc, hat, hgr, hsz⟩ := store_ad (w := w1) (AdAt.below (B := (w.alloc (.cells Z 25)).heap.size) (g := w.heap.size) (a := Ad.zero) (by have h := Hw.out; rw [← HZ.out] at h; rw [AdAt, ← HZ.out]; exact h) hb1 (by simp)) rfl Hx.out; have HS : Hid (w2.cell? ⟨b, o, none⟩ = some (.int .u8 (x.toNat : Int)) ∧ w2.cell? ⟨b, o + 1, none⟩ = some (.int .u8 (y.toNat : Int)) ∧ w2.cell? ⟨b, o + 2, none⟩ = some (.int .u8 (z.toNat : Int)) ∧ w2.cell? ⟨b, o + 3, none⟩ = some (.int .u8 (u.toNat : Int))) := (Lib.hid (by have hq : ∀ o, w2.cell? ⟨b, o, none⟩ = w1.cell? ⟨b, o, none⟩ := (fun o => World.cell?_of_block (hgr.block b (by have := hb1.size; simp at this ⊢; omega) (fun e => by cases e; omega))); exact ⟨(hq _).trans ((hk _).trans c0), (hq _).trans ((hk _).trans c1), (hq _).trans ((hk _).trans c2), (hq _).trans ((hk _).trans c3)⟩))))
  go_wp2_with fail
  refine bodyPost_ret (ret_ad (p := 2) (q := 3) (by kernel_rfl) rfl hat Hx.out rfl) rfl ⟨rfl, ?_⟩
  exact grown_below (up (up_drew (up_alloc (Below.refl _ w) (.cells Z 25))) hb1) hgr (Nat.le_refl _)
set_option maxRecDepth 100000 in
theorem adOf_none_ (A : Option Addr) (c : Nat) (l : List UInt8) (w : World) (hl4 : l.length ≠ 4) (hl16 : l.length ≠ 16) :
    Calls Try.prog 80 #[.slice A l.length c] w fun e w' => e = .returned (.tuple #[adV Ad.zero, .bool false]) ∧ Below w.heap.size w w' := by
  have hw := heap_alloc_last w (.cells (adC Ad.zero).toArray 25)
  have hz := zero_ad
  have hln := adC_length (a := Ad.zero) rfl
  obtain ⟨w2, hst, hsc, hat, hgr, hsz⟩ := store_ad (w := w.alloc (.cells (adC Ad.zero).toArray 25)) (g := w.heap.size) (a := Ad.zero) (b := Ad.zero) hw rfl rfl
  have hbu : ∀ W, (Instr.build 25 #[]).run Try.prog W = .ok (adV Ad.zero) W := fun W => by
    simp [Instr.build, hz, go_sem]
  generalize l.length = n at hl4 hl16 ⊢
  have h4 : ((n : Int) == 4) = false := by simp; omega
  have h16 : ((n : Int) == 16) = false := by simp; omega
  have Hat := Lib.hid hat
  have Hbel := Lib.hid (grown_below (up_alloc (Below.refl _ w) (.cells (adC Ad.zero).toArray 25)) hgr (Nat.le_refl _))
  clear hat hgr hsz hw hl4 hl16
  generalize hZ : adC Ad.zero = Z at *
  go_enter Try.func80, Try.ntmps80
  go_wp2_with (first
    | (with_reducible refine wpList_alloc_zero (o := ⟨some 2, .alloc 25, _, _, _, _⟩) rfl 25 rfl Z.toArray hz ?_))
  exact bodyPost_ret (ret_ad (p := 2) (q := 3) (by kernel_rfl) rfl Hat.out rfl rfl) rfl ⟨rfl, Hbel.out⟩
set_option maxRecDepth 100000 in
theorem adOf_six (A : Option Addr) (c : Nat) (l : List UInt8) (w : World) (B : Nat) (hr : Rd w B (.slice A l.length c) (cellsB l)) (hB : B ≤ w.heap.size) (hl : l.length = 16) :
    Calls Try.prog 80 #[.slice A l.length c] w fun e w' => e = .returned (.tuple #[adV ⟨true, l⟩, .bool true]) ∧ Below w.heap.size w w' := by
  obtain ⟨b, o, rfl, hb, hc⟩ := hr.addr (by omega)
  have hz := zero_ad
  obtain ⟨x, hx⟩ : ∃ x : Ad, x = ⟨true, List.replicate 16 0⟩ := ⟨_, rfl⟩
  have hxw : x.Wide := by rw [hx]; rfl
  have h0 := heap_alloc_last w (.cells (adC Ad.zero).toArray 25)
  have h1 := heap_alloc_last (w.alloc (.cells (adC Ad.zero).toArray 25)) (.cells (adC x).toArray 25)
  have h01 := (heap_alloc_old (w.alloc (.cells (adC Ad.zero).toArray 25)) (.cells (adC x).toArray 25) (show w.heap.size < _ by simp)).trans h0
  rw [show (w.alloc (.cells (adC Ad.zero).toArray 25)).heap.size = w.heap.size + 1 by simp] at h1
  have hspl : splice (adC x) 1 (cellsB l) = adC ⟨true, l⟩ := by
    rw [hx]
    simp [splice, adC, cellsB, hl]
  have hbz := up_alloc (up_alloc (Below.refl w.heap.size w) (.cells (adC Ad.zero).toArray 25)) (.cells (adC x).toArray 25)
  have hsrc : ∀ j v, (cellsB l)[j]? = some v → ((w.alloc (.cells (adC Ad.zero).toArray 25)).alloc (.cells (adC x).toArray 25)).cell? ((⟨b, o, none⟩ : Addr).add j) = some v := fun j v hj => by
    rw [Addr.add_lit, hbz.cell (show b < w.heap.size by omega)]
    obtain ⟨_, _, e, _, _, _, h4⟩ := hr
    obtain ⟨b', o', e2, _, hc'⟩ := h4 (by rw [cellsB_length]; omega)
    injection e with e1
    rw [← e1] at e2
    cases e2
    exact hc' j v hj
  have hxi := info_adA hxw
  have hyw : (Ad.mk true l).Wide := hl
  have hyi := info_adA hyw
  generalize hy : Ad.mk true l = y at hspl hyw hyi ⊢
  have hS : Hid (∀ w2, w2.heap[w.heap.size + 1]? = some (.cells (splice (adC x) 1 (cellsB l)).toArray 25 (0, 0)) → Below (w.heap.size + 1) ((w.alloc (.cells (adC Ad.zero).toArray 25)).alloc (.cells (adC x).toArray 25)) w2 →
      w2.heap[w.heap.size + 1]? = some (.cells (adC y).toArray 25 (0, 0)) ∧ ∃ w3, (Instr.storeAt 25 (.pointer (some ⟨w.heap.size, 0, none⟩)) (adV y)).run Try.prog w2 = .ok () w3 ∧ AdAt w3 w.heap.size y ∧ Below w.heap.size w w3) := Lib.hid fun w2 hg hb2 => by
    rw [hspl] at hg
    obtain ⟨w3, hst, _, hat, hgr, _⟩ := store_ad (w := w2) (g := w.heap.size) (a := Ad.zero) (b := y) ((hb2.block _ (Nat.lt_succ_self _)).trans h01) rfl hyw
    exact ⟨hg, w3, hst, hat, grown_below (hbz.trans (hb2.mono (Nat.le_succ _))) hgr (Nat.le_refl _)⟩
  have hL : (cellsB l).length = Nat.min l.length 16 := by rw [cellsB_length, hl]; rfl
  have hfit : 1 + (cellsB l).length ≤ (adC x).length := by rw [cellsB_length, hl, adC_length hxw]; omega
  have hone := adC_one x
  have hzs : (adC Ad.zero).toArray.size = (adC x).toArray.size := by rw [List.size_toArray, List.size_toArray, adC_length hxw]; rfl
  have hxa := all_oneCell_toArray (adC_one x)
  have H1 := Lib.hid h1
  have HL := Lib.hid hL
  have Hfit := Lib.hid hfit
  have Hsrc := Lib.hid hsrc
  have Hy := Lib.hid hyw
  rw [hl] at HL ⊢
  have hne : ¬ adC Ad.zero = [] := by simp [adC]
  have hx2 : adC x = (adC Ad.zero).set 0 (.bool true) := by rw [hx]; rfl
  rw [hx2] at hxi hzs hxa H1 Hfit Hsrc hS
  clear hx2
  generalize hZ : adC Ad.zero = Z at *
  clear h0 h1 h01 hspl hbz hsrc hc hr hL hfit hy hyw hxw hx hone
  go_enter Try.func80, Try.ntmps80
  go_wp2_with (first
    | (with_reducible refine wpList_alloc_zero (o := ⟨some 2, .alloc 25, _, _, _, _⟩) rfl 25 rfl Z.toArray hz ?_)
    | (with_reducible refine wpList_alloc_zero (o := ⟨some 4, .alloc 25, _, _, _, _⟩) rfl 25 rfl Z.toArray hz ?_)
    | ((with_reducible refine wpList_store_new (o := ⟨none, .store 25 (.tmp 4) (.tmp 24), _, _, _, _⟩) rfl 25 (.tmp 4) (.tmp 24) rfl Z.toArray (Z.set 0 (.bool true)).toArray ?_ ?_ hxi hzs hxa ?_); exact (show Value.pointer (some ⟨w.heap.size + 1, 0, none⟩) = _ by simp); exact rfl)
    | (refine wpList_copy_splice rfl (.tmp 26) (.tmp 27) 22 22 rfl 5 Try.underlying22 (by kernel_rfl) _ _ _ _ _ _ rfl rfl (w.heap.size + 1) 1 (Z.set 0 (.bool true)) 25 H1.out (cellsB l) HL.out (fun hp => ⟨rfl, _, rfl, Hsrc.out⟩) Hfit.out (cellsB_one _) (w.heap.size + 1) _ (Below.refl _ _) (Nat.le_refl _) ?_; intro w2 hg2 hb2; obtain ⟨hg3, w3, hst, hat, hbel⟩ := hS.out w2 hg2.out hb2; have HB3 := Lib.hid (And.intro hat hbel); clear hg2 hb2 hat hbel)
    | ((with_reducible refine wpList_load_row (o := ⟨some 29, .load 25 (.tmp 4), _, _, _, _⟩) rfl 25 (.tmp 4) rfl (w.heap.size + 1) ?_ 25 (adC y).toArray (0, 0) _ hg3 Try.underlying25 rfl hyi ?_); exact rfl)
    | ((with_reducible refine wpList_stored (o := ⟨none, .store 25 (.tmp 2) (.tmp 29), _, _, _, none⟩) rfl 25 (.tmp 2) (.tmp 29) rfl (.pointer (some ⟨w.heap.size, 0, none⟩)) (adV y) ?_ ?_ w3 hst ?_); exact rfl; exact rfl))
  exact bodyPost_ret (ret_ad (p := 2) (q := 3) (by kernel_rfl) rfl HB3.out.1 Hy.out rfl) rfl ⟨rfl, HB3.out.2⟩
/-- The address of bytes, or that there is none. -/
theorem adOf_any (A : Option Addr) (c : Nat) (l : List UInt8) (w : World) (B : Nat) (hr : Rd w B (.slice A l.length c) (cellsB l)) (hB : B ≤ w.heap.size) :
    Calls Try.prog 80 #[.slice A l.length c] w fun e w' => e = .returned (.tuple #[adV ((adBytes l).getD Ad.zero), .bool (adBytes l).isSome]) ∧ Below w.heap.size w w' := by
  unfold adBytes
  by_cases h4 : l.length = 4
  · rw [if_pos h4]; exact adOf_four A c l w B hr hB h4
  · rw [if_neg h4]
    by_cases h16 : l.length = 16
    · rw [if_pos h16]; exact adOf_six A c l w B hr hB h16
    · rw [if_neg h16]; exact adOf_none_ A c l w h4 h16
end Go.Proofs.Ytejppekcniehpaa
