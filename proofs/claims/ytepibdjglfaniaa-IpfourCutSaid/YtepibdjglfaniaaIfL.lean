/-
  lives: a contract.
-/
import Derived.Test.YtepibdjglfaniaaIfD
import Derived.Test.YtepibdjglfaniaaIfF
namespace Go.Proofs.Ytepibdjglfaniaa
open Go.RowKit
theorem wpList_run_g {P : Program} {ops : Array Oper} {rest : List Oper} {o : Oper} {a : Act} {w : World} {Q : Exit → Act → World → Prop} (hw : Region.wanted o (yielded ops a.tmps) = true) (v : Value) (w' : World) (hrun : (execOp a.eval o).run P w = .ok (.value v) w') (h : wpList P ops Q rest (a.put o.dst v) w') : wpList P ops Q (o :: rest) a w :=
  wpList_step fun K hK => by rw [if_pos hw]; exact wp_run v w' hrun (hK _ _ h)
theorem exec_bldTwo {ρ : Operand → Value} {o : Oper} {t : TypeId} {k k2 : Nat} {a a2 : Operand} (ho : o.op = .build t #[(k, a), (k2, a2)]) {u u2 : Value} (ha : ρ a = u) (ha2 : ρ a2 = u2) {v : Value} {P : Program} {w : World} (hrun : (Instr.build t #[(k, u), (k2, u2)]).run P w = .ok v w) : (execOp ρ o).run P w = .ok (.value v) w := by
  unfold execOp
  simp only [ho, List.map_toArray, List.map_cons, List.map_nil, ha, ha2, Sem.run_bind, hrun, Result.andThen_ok, Sem.run_pure]
theorem exec_bldThree {ρ : Operand → Value} {o : Oper} {t : TypeId} {k k2 k3 : Nat} {a a2 a3 : Operand} (ho : o.op = .build t #[(k, a), (k2, a2), (k3, a3)]) {u u2 u3 : Value} (ha : ρ a = u) (ha2 : ρ a2 = u2) (ha3 : ρ a3 = u3) {v : Value} {P : Program} {w : World} (hrun : (Instr.build t #[(k, u), (k2, u2), (k3, u3)]).run P w = .ok v w) : (execOp ρ o).run P w = .ok (.value v) w := by
  unfold execOp
  simp only [ho, List.map_toArray, List.map_cons, List.map_nil, ha, ha2, ha3, Sem.run_bind, hrun, Result.andThen_ok, Sem.run_pure]
/-- The head that lives asks for, as it is written and as it is read. -/
def hdL : Hd := ⟨false, 17, 0, Ad.zero, Ad.zero, false, 9⟩
def hdL2 : Hd := ⟨false, 17, 20, Ad.zero, Ad.zero, false, 9⟩
theorem hdL_wide : hdL.Wide := ⟨rfl, rfl⟩
theorem hdL2_wide : hdL2.Wide := ⟨rfl, rfl⟩
theorem hdL_may : hdL.may = true := by decide
set_option maxRecDepth 100000 in
set_option maxHeartbeats 1000000 in
theorem ifLives_any (w : World) : Calls Try.prog 9 #[] w fun e w' => e = .returned (.bool true) ∧ Below w.heap.size w w' := by
  have hz : ∀ w, (zeroValue 28).run Try.prog w = .ok (.agg (hdC Hd.zero).toArray) w := zero_hd
  have hb1 : ∀ W, (Instr.build 28 #[(1, .int .u8 17), (6, .int .u8 9)]).run Try.prog W = .ok (.agg (hdC hdL).toArray) W := fun W => by kernel_rfl
  have hb2 : ∀ W, (Instr.build 28 #[(1, .int .u8 17), (6, .int .u8 9), (2, .int .i64 20)]).run Try.prog W = .ok (.agg (hdC hdL2).toArray) W := fun W => by kernel_rfl
  have heq := eql_hd hdL2 hdL2 hdL2_wide hdL2_wide
  rw [decide_eq_true rfl, hdV] at heq
  have hlit := rd_lit w 5 [1, 2] (by simp)
  have hlen := ifBytes_length hdL hdL_wide hdL_may [1, 2] (by simp)
  have hwr : Hid (Calls Try.prog 10 #[.agg (hdC hdL).toArray, .slice (some ⟨w.heap.size, 0, none⟩) 2 2] (w.alloc (.cells (cellsB [1, 2]).toArray 5)) fun e w' => ∃ A2 c2, e = .returned (.tuple #[.slice A2 22 c2, .int .i64 0]) ∧ Rd w' w'.heap.size (.slice A2 22 c2) (cellsB (ifBytes hdL [1, 2])) ∧ Below w.heap.size w w') := Lib.hid <| by
    refine (ifWrite_ok hdL hdL_wide hdL_may _ 2 [1, 2] (by simp) (w.alloc (.cells (cellsB [1, 2]).toArray 5)) (w.heap.size + 1) (by simp) hlit).mono ?_
    rintro e w' ⟨v, rfl, hv, hb⟩
    obtain ⟨A2, c2, rfl, hr⟩ := mine_slice (w := w) hv (n := 22) hlen
    exact ⟨A2, c2, rfl, hr, up (up_alloc (Below.refl w.heap.size w) _) hb⟩
  obtain ⟨hE, hR⟩ := ifBack hdL hdL_wide hdL_may [1, 2] (by simp)
  have hrd : Hid (∀ W A2 c2, Rd W W.heap.size (.slice A2 22 c2) (cellsB (ifBytes hdL [1, 2])) → Calls Try.prog 7 #[.slice A2 22 c2] W fun e w' => e = .returned (.tuple #[.agg (hdC hdL2).toArray, .int .i64 0]) ∧ Below W.heap.size W w') := Lib.hid fun W A2 c2 hr => by
    have hl2 : (ifBytes hdL [1, 2]).length = 22 := hlen
    rw [← hl2] at hr ⊢
    have := ifRead_any hr
    rw [hE, hR] at this
    exact this
  have hzs : (hdC Hd.zero).toArray.size = (hdC hdL2).toArray.size := by rw [List.size_toArray, List.size_toArray, hdC_length Hd.zero_wide, hdC_length hdL2_wide]
  have hxa := all_oneCell_toArray (hdC_one hdL2)
  have hxi := info_hd hdL2_wide
  have hxiA := info_hdA hdL2_wide
  have hC : Hid (∀ W : World, (W.alloc (.cells (hdC hdL2).toArray 28)).rangeAt W.heap.size 0 (hdC hdL2)) := Lib.hid fun W => rangeAt_block (heap_alloc_last W _) fun j u hu => by rw [Nat.zero_add]; exact hu
  clear hE hR hlen hlit
  generalize ifBytes hdL [1, 2] = bs at *
  generalize hdC hdL = C1 at *
  generalize hdC hdL2 = C2 at *
  generalize hdC Hd.zero = Z at *
  go_enter Try.func9, Try.ntmps9
  go_wp2_with (first
    | ((with_reducible refine wpList_run (o := ⟨some 6, .build 28 #[(1, .const (.int .u8 17)), (6, .const (.int .u8 9))], _, _, _, none⟩) rfl (.agg C1.toArray) w ?_ ?_); exact exec_bldTwo (k := 1) (k2 := 6) (a := .const (.int .u8 17)) (a2 := .const (.int .u8 9)) rfl (u := .int .u8 17) (u2 := .int .u8 9) rfl rfl (hb1 w))
    | (go_at_call 10; refine hwr.out.mono ?_; rintro _ w1 ⟨A2, c2, rfl, hr2, hbw⟩; have HB1 := Lib.hid hbw; clear hbw; have HR := Lib.hid hr2; clear hr2)
    | (go_at_call 7; refine (hrd.out _ _ _ HR.out).mono ?_; rintro _ w2 ⟨rfl, hbr⟩; have HB2 := Lib.hid (up_alloc (up HB1.out hbr) (.cells C2.toArray 28)); clear hbr; have k3 := hC.out w2)
    | (with_reducible refine wpList_alloc_zero (o := ⟨some 3, .alloc 28, _, _, _, _⟩) rfl 28 rfl Z.toArray hz ?_)
    | ((with_reducible refine wpList_store_new (o := ⟨none, .store 28 (.tmp 3) (.tmp 14), _, _, _, _⟩) rfl 28 (.tmp 3) (.tmp 14) rfl Z.toArray C2.toArray ?_ ?_ hxiA hzs hxa ?_); exact rfl; exact rfl)
    | ((with_reducible refine wpList_load_mid_g (op := ⟨some 28, .load 28 (.tmp 3), _, _, _, _⟩) ?_ 28 (.tmp 3) rfl w2.heap.size 0 ?_ C2 _ k3 Try.underlying28 rfl hxi ?_); rfl; exact rfl)
    | ((with_reducible refine wpList_run_g (o := ⟨some 29, .build 28 #[(1, .const (.int .u8 17)), (6, .const (.int .u8 9)), (2, .const (.int .i64 20))], _, _, _, _⟩) ?_ (.agg C2.toArray) (w2.alloc (.cells C2.toArray 28)) ?_ ?_); rfl; exact exec_bldThree (k := 1) (k2 := 6) (k3 := 2) (a := .const (.int .u8 17)) (a2 := .const (.int .u8 9)) (a3 := .const (.int .i64 20)) rfl (u := .int .u8 17) (u2 := .int .u8 9) (u3 := .int .i64 20) rfl rfl rfl (hb2 _)))
  go_ret
  exact ⟨rfl, HB2.out⟩
end Go.Proofs.Ytepibdjglfaniaa
