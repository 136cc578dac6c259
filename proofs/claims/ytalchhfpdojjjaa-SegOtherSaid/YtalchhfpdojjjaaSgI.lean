/-
  Law 15's lives; a segment's head as an argument, by value, opened.
-/
import Derived.Test.YtalchhfpdojjjaaSgH
import Derived.Test.YtalchhfpdojjjaaHdOpen
namespace Go.Proofs.Ytalchhfpdojjjaa
open Go.RowKit
theorem exec_bldP2 {ρ : Operand → Value} {o : Oper} {t : TypeId} {k k2 : Nat} {a a2 : Operand} (ho : o.op = .build t #[(k, a), (k2, a2)]) {u u2 : Value} (ha : ρ a = u) (ha2 : ρ a2 = u2) {v : Value} {P : Program} {w : World} (hrun : (Instr.build t #[(k, u), (k2, u2)]).run P w = .ok v w) : (execOp ρ o).run P w = .ok (.value v) w := by
  unfold execOp
  simp only [ho, List.map_toArray, List.map_cons, List.map_nil, ha, ha2, Sem.run_bind, hrun, Result.andThen_ok, Sem.run_pure]
theorem exec_bldP4 {ρ : Operand → Value} {o : Oper} {t : TypeId} {k1 k2 k3 k4 : Nat} {a1 a2 a3 a4 : Operand} (ho : o.op = .build t #[(k1, a1), (k2, a2), (k3, a3), (k4, a4)]) {u1 u2 u3 u4 : Value} (h1 : ρ a1 = u1) (h2 : ρ a2 = u2) (h3 : ρ a3 = u3) (h4 : ρ a4 = u4) {v : Value} {P : Program} {w : World} (hrun : (Instr.build t #[(k1, u1), (k2, u2), (k3, u3), (k4, u4)]).run P w = .ok v w) : (execOp ρ o).run P w = .ok (.value v) w := by
  unfold execOp
  simp only [ho, List.map_toArray, List.map_cons, List.map_nil, h1, h2, h3, h4, Sem.run_bind, hrun, Result.andThen_ok, Sem.run_pure]
theorem wpList_run_gd {P : Program} {ops : Array Oper} {rest : List Oper} {o : Oper} {a : Act} {w : World} {Q : Exit → Act → World → Prop} (hw : Region.wanted o (yielded ops a.tmps) = true) (v : Value) (w' : World) (hrun : (execOp a.eval o).run P w = .ok (.value v) w') (h : wpList P ops Q rest (a.put o.dst v) w') : wpList P ops Q (o :: rest) a w :=
  wpList_step fun K hK => by
    rw [if_pos hw]
    unfold Oper.wp
    rw [hrun]
    exact hK _ _ h
/-- What lives asks for. -/
def sgLh : Hd := ⟨false, 17, 0, Ad.zero, Ad.zero, false, 9⟩
def sgLs : Sg := ⟨1, 2, 0, 0, false, 0⟩
def sgLr : Sg := ⟨1, 2, 0, 6, false, 8⟩
theorem sgLh_wide : sgLh.Wide := ⟨rfl, rfl⟩
theorem sgL_may : sgMay sgLh sgLs = true := by decide
set_option maxRecDepth 100000 in
set_option maxHeartbeats 1000000 in
theorem sgLives_any (w : World) : Calls Try.prog 9 #[] w fun e w' => e = .returned (.bool true) ∧ Below w.heap.size w w' := by
  have hz : ∀ w, (zeroValue 26).run Try.prog w = .ok (.agg (hdC Hd.zero).toArray) w := zero_hd
  have hzs : ∀ w, (zeroValue 34).run Try.prog w = .ok (.agg (sgC Sg.none).toArray) w := zero_sg
  have hb1 : ∀ W, (Instr.build 26 #[(1, .int .u8 17), (6, .int .u8 9)]).run Try.prog W = .ok (.agg (hdC sgLh).toArray) W := fun W => by kernel_rfl
  have hb2 : ∀ W, (Instr.build 34 #[(0, .int .u16 1), (1, .int .u16 2)]).run Try.prog W = .ok (.agg (sgC sgLs).toArray) W := fun W => by kernel_rfl
  have hb3 : ∀ W, (Instr.build 34 #[(0, .int .u16 1), (1, .int .u16 2), (3, .int .i64 6), (5, .int .i64 8)]).run Try.prog W = .ok (.agg (sgC sgLr).toArray) W := fun W => by kernel_rfl
  have heq := eql_sg sgLr sgLr
  rw [decide_eq_true rfl, sgV] at heq
  have hlen : (sgBytes sgLh sgLs [5]).length = 9 := sgBytes_length ..
  have hwr : Hid (∀ W, Calls Try.prog 13 #[.agg (hdC sgLh).toArray, .agg (sgC sgLs).toArray, .slice (some ⟨W.heap.size, 0, none⟩) 1 1] (W.alloc (.cells (cellsB [5]).toArray 5)) fun e w' => ∃ A2 c2, e = .returned (.tuple #[.slice A2 9 c2, .int .i64 0]) ∧ Rd w' w'.heap.size (.slice A2 9 c2) (cellsB (sgBytes sgLh sgLs [5])) ∧ Below W.heap.size W w') := Lib.hid fun W => by
    have hs : (W.alloc (.cells (cellsB [5]).toArray 5)).heap.size = W.heap.size + 1 := by simp
    refine (sgWrite_ok sgLh sgLh_wide sgLs (by decide) (.inr rfl) sgL_may _ 1 [5] (by simp) (W.alloc (.cells (cellsB [5]).toArray 5)) (by rw [hs]; exact rd_lit W 5 [5] (by simp))).mono ?_
    rintro e w' ⟨v, rfl, hv, hb⟩
    obtain ⟨A2, c2, rfl, hr⟩ := mine_slice (w := W) hv (n := 9) hlen
    exact ⟨A2, c2, rfl, hr, up (up_alloc (Below.refl W.heap.size W) _) hb⟩
  obtain ⟨hE, hR⟩ := sgBack sgLh sgLh_wide sgLs (by decide) (.inr rfl) sgL_may [5] (by simp)
  have hRr : sgRead sgLh (sgBytes sgLh sgLs [5]) = sgLr := by rw [hR]; rfl
  have hrd : Hid (∀ W A2 c2, Rd W W.heap.size (.slice A2 9 c2) (cellsB (sgBytes sgLh sgLs [5])) → Calls Try.prog 11 #[.agg (hdC sgLh).toArray, .slice A2 9 c2] W fun e w' => e = .returned (.tuple #[.agg (sgC sgLr).toArray, .int .i64 0]) ∧ Below W.heap.size W w') := Lib.hid fun W A2 c2 hr => by
    rw [← hlen] at hr ⊢
    have := sgRead_any sgLh sgLh_wide hr (by omega)
    rw [hE, hRr] at this
    exact this
  have hS2 : Hid (∀ W : World, ∃ W', (storeCells ⟨W.heap.size, 0, none⟩ (sgC sgLr)).run Try.prog (W.alloc (.cells (sgC Sg.none).toArray 34)) = .ok () W' ∧ W'.rangeAt W.heap.size 0 (sgC sgLr) ∧ Below W.heap.size W W') := Lib.hid fun W => by
    obtain ⟨W', _, hat, hgr, _, hsc⟩ := store_sg (w := W.alloc (.cells (sgC Sg.none).toArray 34)) (g := W.heap.size) (a := Sg.none) (b := sgLr) (heap_alloc_last W _)
    exact ⟨W', hsc, rangeAt_block hat fun j u hu => by rw [Nat.zero_add]; exact hu, grown_below (up_alloc (Below.refl _ _) _) hgr (Nat.le_refl _)⟩
  have hzh : (hdC Hd.zero).toArray.size = (hdC sgLh).toArray.size := rfl
  have hxh := all_oneCell_toArray (hdC_one sgLh)
  have hhi := info_hdA sgLh_wide
  have hsi := info_sg sgLr
  have hat0 := heap_alloc_last w (.cells (hdC sgLh).toArray 26)
  have hB0 := Lib.hid (up_alloc (Below.refl w.heap.size w) (.cells (hdC sgLh).toArray 26))
  have hsz : (w.alloc (.cells (hdC sgLh).toArray 26)).heap.size = w.heap.size + 1 := by simp
  have hwr0 := Lib.hid (hwr.out (w.alloc (.cells (hdC sgLh).toArray 26)))
  rw [hsz] at hwr0
  clear hE hR hRr hlen hwr
  have hRl : (sgC sgLr).length = 6 := rfl
  generalize sgBytes sgLh sgLs [5] = bs at *
  generalize hdC sgLh = CH at *
  generalize sgC sgLs = C1 at *
  generalize sgC sgLr = C2 at *
  generalize hdC Hd.zero = Z at *
  generalize sgC Sg.none = ZS at *
  go_enter Try.func9, Try.ntmps9
  go_wp2_with (first
    | ((with_reducible refine wpList_run (o := ⟨some 6, .build 26 #[(1, .const (.int .u8 17)), (6, .const (.int .u8 9))], _, _, _, none⟩) rfl (.agg CH.toArray) w ?_ ?_); exact exec_bldP2 (k := 1) (k2 := 6) (a := .const (.int .u8 17)) (a2 := .const (.int .u8 9)) rfl (u := .int .u8 17) (u2 := .int .u8 9) rfl rfl (hb1 w))
    | (with_reducible refine wpList_alloc_zero (o := ⟨some 1, .alloc 26, _, _, _, _⟩) rfl 26 rfl Z.toArray hz ?_)
    | ((with_reducible refine wpList_store_new (o := ⟨none, .store 26 (.tmp 1) (.tmp 6), _, _, _, _⟩) rfl 26 (.tmp 1) (.tmp 6) rfl Z.toArray CH.toArray ?_ ?_ hhi hzh hxh ?_); exact rfl; exact rfl)
    | ((with_reducible refine wpList_load_row (o := ⟨some 8, .load 26 (.tmp 1), _, _, _, _⟩) rfl 26 (.tmp 1) rfl w.heap.size ?_ 26 CH.toArray (0, 0) _ hat0 Try.underlying26 rfl hhi ?_); exact rfl)
    | ((with_reducible refine wpList_run (o := ⟨some 9, .build 34 #[(0, .const (.int .u16 1)), (1, .const (.int .u16 2))], _, _, _, none⟩) rfl (.agg C1.toArray) (w.alloc (.cells CH.toArray 26)) ?_ ?_); exact exec_bldP2 (k := 0) (k2 := 1) (a := .const (.int .u16 1)) (a2 := .const (.int .u16 2)) rfl (u := .int .u16 1) (u2 := .int .u16 2) rfl rfl (hb2 _))
    | (go_at_call 13; refine hwr0.out.mono ?_; rintro _ w1 ⟨A2, c2, rfl, hr2, hbw⟩; have hat1 := (hbw.block w.heap.size (by simp)).trans hat0; have HB1 := Lib.hid (hB0.out.trans (hbw.mono (by omega))); have HR := Lib.hid hr2; clear hr2 hbw hat0)
    | ((with_reducible refine wpList_load_row (o := ⟨some 15, .load 26 (.tmp 1), _, _, _, _⟩) rfl 26 (.tmp 1) rfl w.heap.size ?_ 26 CH.toArray (0, 0) _ hat1 Try.underlying26 rfl hhi ?_); exact rfl)
    | (go_at_call 11; refine (hrd.out _ _ _ HR.out).mono ?_; rintro _ w2 ⟨rfl, hbr⟩; obtain ⟨w3, hst, hrg, hb3⟩ := hS2.out w2; have HB2 := Lib.hid (up (up HB1.out hbr) hb3); clear hbr hb3)
    | (with_reducible refine wpList_alloc_zero (o := ⟨some 4, .alloc 34, _, _, _, _⟩) rfl 34 rfl ZS.toArray hzs ?_)
    | ((with_reducible refine wpList_load_mid_g (op := ⟨some 32, .load 34 (.tmp 4), _, _, _, _⟩) ?_ 34 (.tmp 4) rfl w2.heap.size 0 ?_ C2 _ hrg Try.underlying34 rfl hsi ?_); kernel_rfl; exact rfl)
    | ((with_reducible refine wpList_run_gd (o := ⟨some 33, .build 34 #[(0, .const (.int .u16 1)), (1, .const (.int .u16 2)), (3, .const (.int .i64 6)), (5, .const (.int .i64 8))], _, _, _, _⟩) ?_ (.agg C2.toArray) w3 ?_ ?_); kernel_rfl; exact exec_bldP4 (k1 := 0) (k2 := 1) (k3 := 3) (k4 := 5) (a1 := .const (.int .u16 1)) (a2 := .const (.int .u16 2)) (a3 := .const (.int .i64 6)) (a4 := .const (.int .i64 8)) rfl (u1 := .int .u16 1) (u2 := .int .u16 2) (u3 := .int .i64 6) (u4 := .int .i64 8) rfl rfl rfl rfl (hb3 _)))
  go_ret
  exact ⟨rfl, HB2.out⟩
end Go.Proofs.Ytalchhfpdojjjaa
namespace Go.Proofs.Ytalchhfpdojjjaa
open Go.ChangeShapes Go.WideShapes Go.ChangeAt Go.RowKit Go.Deep
section
variable {H : Type} {enc : TypeId × Value → H} {w : World} {base : Nat} {held : Bool}
theorem trod_struct6 {P : Program} {spare : Nat → Bool} {t : TypeId} {f0 f1 f2 f3 f4 f5 : Field} {fuel : Nat} {cs : List Value} {x : DataW H × List MemPlace} (ht : P.underlying t = some (.struct #[f0, f1, f2, f3, f4, f5])) (h : DataW.trod enc P w base spare held fuel t cs = some x) :
    ∃ y0 y1 y2 y3 y4 y5 n, cs.length = P.cellsOf t ∧ (DataW.trod enc P w base spare held n f0.type ((cs.drop f0.offset).take (P.cellsOf f0.type)) = some y0 ∧
      DataW.trod enc P w base spare held n f1.type ((cs.drop f1.offset).take (P.cellsOf f1.type)) = some y1 ∧
      DataW.trod enc P w base spare held n f2.type ((cs.drop f2.offset).take (P.cellsOf f2.type)) = some y2 ∧
      DataW.trod enc P w base spare held n f3.type ((cs.drop f3.offset).take (P.cellsOf f3.type)) = some y3) ∧
      DataW.trod enc P w base spare held n f4.type ((cs.drop f4.offset).take (P.cellsOf f4.type)) = some y4 ∧
      DataW.trod enc P w base spare held n f5.type ((cs.drop f5.offset).take (P.cellsOf f5.type)) = some y5 := by
  obtain ⟨xs, n, _, rfl, hl, hlen, hf⟩ := DataW.trod_struct ht h
  match xs, hlen with
  | [y0, y1, y2, y3, y4, y5], _ => exact ⟨y0, y1, y2, y3, y4, y5, n, hl, ⟨by simpa using hf 0 f0 rfl, by simpa using hf 1 f1 rfl, by simpa using hf 2 f2 rfl, by simpa using hf 3 f3 rfl⟩, by simpa using hf 4 f4 rfl, by simpa using hf 5 f5 rfl⟩
theorem lit_u16 {k : Int} (kw : (Lit.int .u16 k).wf = true) : ∃ x : Nat, x < 65536 ∧ k = (x : Int) := by
  have hb : 0 ≤ k ∧ k ≤ 65535 := by simpa [Lit.wf, IntKind.min, IntKind.max, IntKind.bits, IntKind.signed] using kw
  exact ⟨k.toNat, by omega, by omega⟩
theorem cells_sg {m : Nat} {cs : List Value} {y : DataW H × List MemPlace} (h : DataW.trod enc Try.prog w base (fun _ => true) held m 34 cs = some y) : ∃ s : Sg, cs = sgC s ∧ s.src < 65536 ∧ s.dst < 65536 := by
  obtain ⟨y0, y1, y2, y3, y4, y5, n, hl, ⟨h0, h1, h2, h3⟩, h4, h5⟩ := trod_struct6 Try.underlying34 h
  dsimp only at h0 h1 h2 h3 h4 h5
  rw [show Try.prog.cellsOf 34 = 6 by kernel_rfl] at hl
  rw [show Try.prog.cellsOf 4 = 1 by kernel_rfl] at h4
  rw [show Try.prog.cellsOf 5 = 1 by kernel_rfl] at h2
  rw [show Try.prog.cellsOf 32 = 1 by kernel_rfl] at h0 h1
  rw [show Try.prog.cellsOf 3 = 1 by kernel_rfl] at h3 h5
  obtain ⟨b0, k0, _, w0⟩ := DataW.trod_int Try.underlying32 h0
  obtain ⟨b1, k1, _, w1⟩ := DataW.trod_int Try.underlying32 h1
  obtain ⟨b2, k2, _, w2⟩ := DataW.trod_int Try.underlying5 h2
  obtain ⟨b3, k3, _, w3⟩ := DataW.trod_int Try.underlying3 h3
  obtain ⟨b4, k4, _⟩ := DataW.trod_bool Try.underlying4 h4
  obtain ⟨b5, k5, _, w5⟩ := DataW.trod_int Try.underlying3 h5
  obtain ⟨x0, l0, rfl⟩ := lit_u16 w0
  obtain ⟨x1, l1, rfl⟩ := lit_u16 w1
  obtain ⟨x2, rfl⟩ := lit_u8 w2
  refine ⟨⟨x0, x1, x2, b3, b4, b5⟩, ?_, l0, l1⟩
  have e : cs = (cs.drop 0).take 1 ++ ((cs.drop 1).take 1 ++ ((cs.drop 2).take 1 ++ ((cs.drop 3).take 1 ++ ((cs.drop 4).take 1 ++ (cs.drop 5).take 1)))) := by
    have e5 : (cs.drop 5).take 1 = cs.drop 5 := List.take_of_length_le (by rw [List.length_drop]; omega)
    have s : ∀ a c, 1 + a = c → (cs.drop a).take 1 ++ cs.drop c = cs.drop a := fun a c hc => by
      rw [← hc, Nat.add_comm, ← List.drop_drop]
      exact List.take_append_drop _ _
    rw [e5, s 4 5 rfl, s 3 4 rfl, s 2 3 rfl, s 1 2 rfl, s 0 1 rfl]
    rfl
  rw [e, k0, k1, k2, k3, k4, k5]
  rfl
set_option maxRecDepth 10000 in
theorem open_seg {r : Reach} {b0 : Nat} {v : Value} {d : DataW H} {p : List MemPlace} (hv : Value.okWide Try.prog w r b0 34 v) (h : DataW.Trod enc Try.prog w base (fun _ => true) held 34 v d p) : ∃ s : Sg, v = sgV s ∧ s.src < 65536 ∧ s.dst < 65536 := by
  simp only [Value.okWide, Try.underlying34] at hv
  obtain ⟨cs, rfl, _⟩ := hv
  obtain ⟨m, hm⟩ := h
  obtain ⟨a, e, hb⟩ := cells_sg hm
  refine ⟨a, ?_, hb⟩
  rw [sgV, ← e]
  rfl
end
end Go.Proofs.Ytalchhfpdojjjaa
