/-
  Addresses and prefixes, compared.
-/
import Derived.Test.YtepibdjglfaniaaDoorAdG
import Derived.Test.YtepibdjglfaniaaDoorAdEq
namespace Go.Proofs.YtepibdjglfaniaaDoor
open Go.RowKit
theorem part_ad (p : Pf) (hp : p.a.Wide) (W : World) : (part 24 (pfC p).toArray 0).run Tryd.prog W = .ok (adV p.a) W := by
  have hl : (adC p.a).length = 17 := adC_length hp
  simp [part, isAgg, run_underlying Tryd.underlying24, go_sem]
  simp [pfC, List.take_append_of_le_length, List.take_of_length_le, hl]
theorem part_bits (p : Pf) (hp : p.a.Wide) (W : World) : (part 3 (pfC p).toArray 17).run Tryd.prog W = .ok (.int .i64 p.bits) W := by
  have hl : (adC p.a).length = 17 := adC_length hp
  simp [part, isAgg, run_underlying Tryd.underlying3, go_sem]
  simp [pfC, hl]
theorem equal_pf (d : Nat) (a b : Pf) (ha : a.a.Wide) (hb : b.a.Wide) (w : World) : (Op.equalIn (d + 4) 37 (pfV a) (pfV b)).run Tryd.prog w = .ok (decide (a = b)) w := by
  rw [pfV, pfV, run_equalIn_struct w (d + 3) 37 _ _ (by kernel_rfl) (by kernel_rfl)]
  rw [show (Tryd.prog.fieldsOf 37).toList = [{ name := "Addr", type := 24, offset := 0, embedded := false, tag := "", pkgPath := "", byteOffset := 0 }, { name := "Bits", type := 3, offset := 17, embedded := false, tag := "", pkgPath := "", byteOffset := 24 }] by kernel_rfl]
  have h1 := equal_ad d a.a b.a ha hb w
  have h2 := run_equalIn_int (P := Tryd.prog) w (d + 2) 3 .i64 .i64 a.bits b.bits Tryd.underlying3
  simp only [Op.eqFields, Sem.run_bind, Sem.run_ite, part_ad _ ha, part_ad _ hb, part_bits _ ha, part_bits _ hb, Result.andThen_ok, h1, Sem.run_pure]
  rw [if_pos (show "Addr" ≠ "_" by decide), if_pos (show "Bits" ≠ "_" by decide), h2]
  obtain ⟨s, l⟩ := a
  obtain ⟨s2, l2⟩ := b
  simp only [Result.andThen_ok, Pf.mk.injEq]
  by_cases hs : s = s2
  · by_cases hl : l = l2 <;> simp [hs, hl]
  · simp [hs]
theorem eql_pf (a b : Pf) (ha : a.a.Wide) (hb : b.a.Wide) (w : World) : (binOp .eql 37 (pfV a) (pfV b)).run Tryd.prog w = .ok (.bool (decide (a = b))) w := by
  rw [pfV, pfV, run_eql_struct]
  have := equal_pf 9996 a b ha hb w
  rw [pfV, pfV] at this
  rw [this]; rfl
theorem neq_pf (a b : Pf) (ha : a.a.Wide) (hb : b.a.Wide) (w : World) : (binOp .neq 37 (pfV a) (pfV b)).run Tryd.prog w = .ok (.bool (!decide (a = b))) w := by
  rw [pfV, pfV, run_neq_struct]
  have := equal_pf 9996 a b ha hb w
  rw [pfV, pfV] at this
  rw [this]; rfl
end Go.Proofs.YtepibdjglfaniaaDoor
