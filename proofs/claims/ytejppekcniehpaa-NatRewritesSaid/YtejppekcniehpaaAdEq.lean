/-
  Addresses, compared.
-/
import Derived.Test.YtejppekcniehpaaAdC
namespace Go.Proofs.Ytejppekcniehpaa
open Go.RowKit
theorem part_six (x : Ad) (W : World) : (part 4 (adC x).toArray 0).run Try.prog W = .ok (.bool x.six) W := by
  simp [part, isAgg, run_underlying Try.underlying4, go_sem]
  rfl
theorem part_b (x : Ad) (hx : x.Wide) (W : World) : (part 23 (adC x).toArray 1).run Try.prog W = .ok (.agg (cellsB x.b).toArray) W := by
  have hl : (cellsB x.b).length = 16 := by rw [cellsB_length]; exact hx
  simp [part, isAgg, run_underlying Try.underlying23, go_sem]
  simp [adC, List.take_of_length_le, hl]
theorem equal_ad (d : Nat) (a b : Ad) (ha : a.Wide) (hb : b.Wide) (w : World) : (Op.equalIn (d + 3) 25 (adV a) (adV b)).run Try.prog w = .ok (decide (a = b)) w := by
  rw [adV, adV, run_equalIn_struct w (d + 2) 25 _ _ (by kernel_rfl) (by kernel_rfl)]
  rw [show (Try.prog.fieldsOf 25).toList = [{ name := "Six", type := 4, offset := 0, embedded := false, tag := "", pkgPath := "", byteOffset := 0 }, { name := "B", type := 23, offset := 1, embedded := false, tag := "", pkgPath := "", byteOffset := 1 }] by kernel_rfl]
  have h16 : (Op.equalIn (d + 2) 23 (.agg (cellsB a.b).toArray) (.agg (cellsB b.b).toArray)).run Try.prog w = .ok (a.b == b.b) w := run_equalIn_bytes (P := Try.prog) w d 23 5 16 Try.underlying23 Try.underlying5 Try.sizeOf5 a.b b.b ha hb
  have hbo := run_equalIn_bool' (P := Try.prog) w (d + 1) 4 a.six b.six Try.underlying4
  simp only [Op.eqFields, Sem.run_bind, Sem.run_ite, part_six, part_b _ ha, part_b _ hb, Result.andThen_ok, hbo, Sem.run_pure]
  rw [if_pos (show "Six" ≠ "_" by decide), if_pos (show "B" ≠ "_" by decide), h16]
  obtain ⟨s, l⟩ := a
  obtain ⟨s2, l2⟩ := b
  simp only [Result.andThen_ok, Ad.mk.injEq]
  by_cases hs : s = s2
  · by_cases hl : l = l2 <;> simp [hs, hl]
  · simp [hs]
theorem eql_ad (a b : Ad) (ha : a.Wide) (hb : b.Wide) (w : World) : (binOp .eql 25 (adV a) (adV b)).run Try.prog w = .ok (.bool (decide (a = b))) w := by
  rw [adV, adV, run_eql_struct]
  have := equal_ad 9997 a b ha hb w
  rw [adV, adV] at this
  rw [this]; rfl
theorem neq_ad (a b : Ad) (ha : a.Wide) (hb : b.Wide) (w : World) : (binOp .neq 25 (adV a) (adV b)).run Try.prog w = .ok (.bool (!decide (a = b))) w := by
  rw [adV, adV, run_neq_struct]
  have := equal_ad 9997 a b ha hb w
  rw [adV, adV] at this
  rw [this]; rfl
theorem wpList_load_mid_g {P : Program} {ops : Array Oper} {rest : List Oper} {op : Oper} {a : Act} {w : World} {Q : Exit → Act → World → Prop} (hw : Region.wanted op (yielded ops a.tmps) = true) (ty : TypeId) (x : Operand) (ho : op.op = .load ty x)
    (b o : Nat) (hx : a.eval x = .pointer (some ⟨b, o, none⟩)) (cs : List Value) (d : TypeDesc) (hc : w.rangeAt b o cs)
    (hu : P.underlying ty = some d) (hd : d.isRow = true) (hi : (P.info? ty).map (·.size) = some cs.length)
    (h : wpList P ops Q rest (a.put op.dst (.agg cs.toArray)) w) : wpList P ops Q (op :: rest) a w :=
  wpList_step fun K hK => by rw [if_pos hw]; exact wp_load_mid ty x ho b o hx cs d hc hu hd hi (hK _ _ h)
end Go.Proofs.Ytejppekcniehpaa
