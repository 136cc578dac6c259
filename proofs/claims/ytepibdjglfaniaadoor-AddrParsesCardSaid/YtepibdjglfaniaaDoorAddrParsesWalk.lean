/-
  The walk of AddrParses.
-/
import Derived.Test.YtepibdjglfaniaaDoorAdPx
import Derived.Test.YtepibdjglfaniaaDoorAdQ
import Derived.Test.YtepibdjglfaniaaDoorAdU
namespace Go.Proofs.YtepibdjglfaniaaDoor
open Go.RowKit
/-- What was stored, still there. -/
theorem kept_row {X W : World} {C : Array Value} {t : TypeId} {g : Nat} (h : X.heap[g]? = some (.cells C t (0, 0))) (hg : g < X.heap.size) (hb : Below X.heap.size X W) : W.heap[g]? = some (.cells C t (0, 0)) := (hb.block g hg).trans h
theorem wpList_load_row_g {P : Program} {ops : Array Oper} {rest : List Oper} {o : Oper} {a : Act} {w : World} {Q : Exit → Act → World → Prop} (hw : Region.wanted o (yielded ops a.tmps) = true) (ty : TypeId) (x : Operand) (ho : o.op = .load ty x)
    (g : Nat) (hx : a.eval x = .pointer (some ⟨g, 0, none⟩)) (t : TypeId) (cs : Array Value) (fr : Nat × Nat) (d : TypeDesc) (hg : w.heap[g]? = some (.cells cs t fr))
    (hu : P.underlying ty = some d) (hd : (match d with | .struct _ | .array _ _ => true | _ => false) = true) (hi : (P.info? ty).map (·.size) = some cs.size)
    (h : wpList P ops Q rest (a.put o.dst (.agg cs)) w) : wpList P ops Q (o :: rest) a w :=
  wpList_step fun K hK => by rw [if_pos hw]; exact wp_load_row ty x ho g hx t cs fr d hg hu hd hi (hK _ _ h)
set_option maxRecDepth 100000 in
set_option maxHeartbeats 1000000 in
theorem addrParses_some (t : List UInt8) (s : ByteArray) (w : World) (ht : t.length ≤ 60) (hV : Vars w) (hcut : (s = ⟨t.toArray⟩) ∨ ((60 : Int) < (s.size : Int) ∧ ∀ W, (Instr.sliceAt 9 (.string s) none (some (.int .i64 60)) none).run Tryd.prog W = .ok (.string ⟨t.toArray⟩) W)) :
    Calls Tryd.prog 4 #[.string s] w fun e w' => e = .returned (.bool true) ∧ Below w.heap.size w w' := by
  have haw : ((adOf t).getD Ad.zero).Wide := by
    cases h : adOf t with
    | none => rfl
    | some x => exact (adOf_is h).1
  have hpw : ((pfOf t).getD Pf.zero).a.Wide := by
    cases h : pfOf t with
    | none => rfl
    | some x => exact (pfOf_is h).1
  have H1 : Hid (∀ W, Below w.heap.size w W → Calls Tryd.prog 13 #[.string ⟨t.toArray⟩] W fun e w' => e = .returned (.tuple #[.agg (adC ((adOf t).getD Ad.zero)).toArray, .bool (adOf t).isSome]) ∧ Below W.heap.size W w') := Lib.hid fun W hW => parse_any t W (by omega) (hV.up hW)
  have H2 : Hid (∀ W, Calls Tryd.prog 14 #[.string ⟨t.toArray⟩] W fun e w' => e = .returned (.tuple #[.agg (adC ((adOf t).getD Ad.zero)).toArray, .bool (adOf t).isSome]) ∧ Below W.heap.size W w') := Lib.hid fun W => rfParse_any t W (by omega) (fun a w ha => rfShow_any a w ha)
  have H3 : Hid (∀ W, Below w.heap.size w W → Calls Tryd.prog 15 #[.string ⟨t.toArray⟩] W fun e w' => e = .returned (.tuple #[.agg (pfC ((pfOf t).getD Pf.zero)).toArray, .bool (pfOf t).isSome]) ∧ Below W.heap.size W w') := Lib.hid fun W hW => parsePrefix_any t W (by omega) (hV.up hW)
  have H4 : Hid (∀ W, Calls Tryd.prog 16 #[.string ⟨t.toArray⟩] W fun e w' => e = .returned (.tuple #[.agg (pfC ((pfOf t).getD Pf.zero)).toArray, .bool (pfOf t).isSome]) ∧ Below W.heap.size W w') := Lib.hid fun W => rfParsePrefix_any t W (by omega)
  have HLv : Hid (∀ W, Below w.heap.size w W → Calls Tryd.prog 12 #[] W fun e w' => e = .returned (.bool true) ∧ Below W.heap.size W w') := Lib.hid fun W hW => lives_any W (hV.up hW)
  have hza : ∀ w, (zeroValue 24).run Tryd.prog w = .ok (.agg (adC Ad.zero).toArray) w := zero_ad
  have hzp : ∀ w, (zeroValue 37).run Tryd.prog w = .ok (.agg (pfC Pf.zero).toArray) w := zero_pf
  have ia := info_adA haw
  have ip := info_pfA hpw
  have oa := all_oneCell_toArray (adC_one ((adOf t).getD Ad.zero))
  have op := all_oneCell_toArray (pfC_one ((pfOf t).getD Pf.zero))
  have sa : (adC Ad.zero).toArray.size = (adC ((adOf t).getD Ad.zero)).toArray.size := by rw [List.size_toArray, List.size_toArray, adC_length (a := Ad.zero) rfl, adC_length haw]
  have sp : (pfC Pf.zero).toArray.size = (pfC ((pfOf t).getD Pf.zero)).toArray.size := by rw [List.size_toArray, List.size_toArray, pfC_length (p := Pf.zero) rfl, pfC_length hpw]
  have ea := eql_ad ((adOf t).getD Ad.zero) ((adOf t).getD Ad.zero) haw haw
  have ep := eql_pf ((pfOf t).getD Pf.zero) ((pfOf t).getD Pf.zero) hpw hpw
  rw [decide_eq_true rfl] at ea ep
  rw [adV] at ea
  rw [pfV] at ep
  have hsz : ((⟨t.toArray⟩ : ByteArray).size : Int) ≤ 60 := by simp [ByteArray.size]; omega
  generalize (adOf t).isSome = oka at *
  generalize (pfOf t).isSome = okp at *
  generalize (adC ((adOf t).getD Ad.zero)).toArray = Ca at *
  generalize (pfC ((pfOf t).getD Pf.zero)).toArray = Cp at *
  generalize (adC Ad.zero).toArray = Za at *
  generalize (pfC Pf.zero).toArray = Zp at *
  generalize (⟨t.toArray⟩ : ByteArray) = T at *
  clear haw hpw hV ht
  rcases hcut with rfl | ⟨h60, hct⟩
  · go_enter Tryd.func4, Tryd.ntmps4
    go_wp2_with (first
      | (go_at_call 13; refine (H1.out _ (Below.refl _ _)).mono ?_; rintro _ w1 ⟨rfl, hb1⟩; have B1 := Lib.hid (up_alloc hb1 (.cells Ca 24)); have G1 := Lib.hid (heap_alloc_last w1 (.cells Ca 24)); clear hb1)
      | (with_reducible refine wpList_alloc_zero (o := ⟨some 3, .alloc 24, _, _, _, _⟩) rfl 24 rfl Za hza ?_)
      | ((with_reducible refine wpList_store_new (o := ⟨none, .store 24 (.tmp 3) (.tmp 19), _, _, _, _⟩) rfl 24 (.tmp 3) (.tmp 19) rfl Za Ca ?_ ?_ ia sa oa ?_); exact rfl; exact rfl)
      | (go_at_call 14; refine (H2.out _).mono ?_; rintro _ w3 ⟨rfl, hb3⟩; have B23 := Lib.hid (up_alloc hb3 (.cells Ca 24)); have B3 := Lib.hid (up B1.out B23.out); have G3 := Lib.hid (heap_alloc_last w3 (.cells Ca 24)); clear hb3)
      | (with_reducible refine wpList_alloc_zero (o := ⟨some 5, .alloc 24, _, _, _, _⟩) rfl 24 rfl Za hza ?_)
      | ((with_reducible refine wpList_store_new (o := ⟨none, .store 24 (.tmp 5) (.tmp 24), _, _, _, _⟩) rfl 24 (.tmp 5) (.tmp 24) rfl Za Ca ?_ ?_ ia sa oa ?_); exact rfl; exact rfl)
      | (go_at_call 15; refine (H3.out _ B3.out).mono ?_; rintro _ w5 ⟨rfl, hb5⟩; have B45 := Lib.hid (up_alloc hb5 (.cells Cp 37)); have B5 := Lib.hid (up B3.out B45.out); have G5 := Lib.hid (heap_alloc_last w5 (.cells Cp 37)); clear hb5)
      | (with_reducible refine wpList_alloc_zero (o := ⟨some 7, .alloc 37, _, _, _, _⟩) rfl 37 rfl Zp hzp ?_)
      | ((with_reducible refine wpList_store_new (o := ⟨none, .store 37 (.tmp 7) (.tmp 29), _, _, _, _⟩) rfl 37 (.tmp 7) (.tmp 29) rfl Zp Cp ?_ ?_ ip sp op ?_); exact rfl; exact rfl)
      | (go_at_call 16; refine (H4.out _).mono ?_; rintro _ w7 ⟨rfl, hb7⟩; have B67 := Lib.hid (up_alloc hb7 (.cells Cp 37)); have B7 := Lib.hid (up B5.out B67.out); have g7 := heap_alloc_last w7 (.cells Cp 37); have g5 := kept_row G5.out (by simp) B67.out; have g3 := kept_row G3.out (by simp) (up B45.out B67.out); have g1 := kept_row G1.out (by simp) (up (up B23.out B45.out) B67.out); clear hb7)
      | (with_reducible refine wpList_alloc_zero (o := ⟨some 9, .alloc 37, _, _, _, _⟩) rfl 37 rfl Zp hzp ?_)
      | ((with_reducible refine wpList_store_new (o := ⟨none, .store 37 (.tmp 9) (.tmp 34), _, _, _, _⟩) rfl 37 (.tmp 9) (.tmp 34) rfl Zp Cp ?_ ?_ ip sp op ?_); exact rfl; exact rfl)
      | ((with_reducible refine wpList_load_row (o := ⟨some 36, .load 24 (.tmp 3), _, _, _, _⟩) rfl 24 (.tmp 3) rfl w1.heap.size ?_ 24 Ca (0, 0) _ g1 Tryd.underlying24 rfl ia ?_); exact rfl)
      | ((with_reducible refine wpList_load_row (o := ⟨some 37, .load 24 (.tmp 5), _, _, _, _⟩) rfl 24 (.tmp 5) rfl w3.heap.size ?_ 24 Ca (0, 0) _ g3 Tryd.underlying24 rfl ia ?_); exact rfl)
      | ((with_reducible refine wpList_load_row_g (o := ⟨some 45, .load 37 (.tmp 7), _, _, _, _⟩) ?_ 37 (.tmp 7) rfl w5.heap.size ?_ 37 Cp (0, 0) _ g5 Tryd.underlying37 rfl ip ?_); kernel_rfl; exact rfl)
      | ((with_reducible refine wpList_load_row_g (o := ⟨some 46, .load 37 (.tmp 9), _, _, _, _⟩) ?_ 37 (.tmp 9) rfl w7.heap.size ?_ 37 Cp (0, 0) _ g7 Tryd.underlying37 rfl ip ?_); kernel_rfl; exact rfl)
      | (go_at_call 12; refine (HLv.out _ B7.out).mono ?_; rintro _ w9 ⟨rfl, hb9⟩))
    go_ret
    exact ⟨rfl, up B7.out hb9⟩
  · go_enter Tryd.func4, Tryd.ntmps4
    go_wp2_with (first
      | (go_at_call 13; refine (H1.out _ (Below.refl _ _)).mono ?_; rintro _ w1 ⟨rfl, hb1⟩; have B1 := Lib.hid (up_alloc hb1 (.cells Ca 24)); have G1 := Lib.hid (heap_alloc_last w1 (.cells Ca 24)); clear hb1)
      | (with_reducible refine wpList_alloc_zero (o := ⟨some 3, .alloc 24, _, _, _, _⟩) rfl 24 rfl Za hza ?_)
      | ((with_reducible refine wpList_store_new (o := ⟨none, .store 24 (.tmp 3) (.tmp 19), _, _, _, _⟩) rfl 24 (.tmp 3) (.tmp 19) rfl Za Ca ?_ ?_ ia sa oa ?_); exact rfl; exact rfl)
      | (go_at_call 14; refine (H2.out _).mono ?_; rintro _ w3 ⟨rfl, hb3⟩; have B23 := Lib.hid (up_alloc hb3 (.cells Ca 24)); have B3 := Lib.hid (up B1.out B23.out); have G3 := Lib.hid (heap_alloc_last w3 (.cells Ca 24)); clear hb3)
      | (with_reducible refine wpList_alloc_zero (o := ⟨some 5, .alloc 24, _, _, _, _⟩) rfl 24 rfl Za hza ?_)
      | ((with_reducible refine wpList_store_new (o := ⟨none, .store 24 (.tmp 5) (.tmp 24), _, _, _, _⟩) rfl 24 (.tmp 5) (.tmp 24) rfl Za Ca ?_ ?_ ia sa oa ?_); exact rfl; exact rfl)
      | (go_at_call 15; refine (H3.out _ B3.out).mono ?_; rintro _ w5 ⟨rfl, hb5⟩; have B45 := Lib.hid (up_alloc hb5 (.cells Cp 37)); have B5 := Lib.hid (up B3.out B45.out); have G5 := Lib.hid (heap_alloc_last w5 (.cells Cp 37)); clear hb5)
      | (with_reducible refine wpList_alloc_zero (o := ⟨some 7, .alloc 37, _, _, _, _⟩) rfl 37 rfl Zp hzp ?_)
      | ((with_reducible refine wpList_store_new (o := ⟨none, .store 37 (.tmp 7) (.tmp 29), _, _, _, _⟩) rfl 37 (.tmp 7) (.tmp 29) rfl Zp Cp ?_ ?_ ip sp op ?_); exact rfl; exact rfl)
      | (go_at_call 16; refine (H4.out _).mono ?_; rintro _ w7 ⟨rfl, hb7⟩; have B67 := Lib.hid (up_alloc hb7 (.cells Cp 37)); have B7 := Lib.hid (up B5.out B67.out); have g7 := heap_alloc_last w7 (.cells Cp 37); have g5 := kept_row G5.out (by simp) B67.out; have g3 := kept_row G3.out (by simp) (up B45.out B67.out); have g1 := kept_row G1.out (by simp) (up (up B23.out B45.out) B67.out); clear hb7)
      | (with_reducible refine wpList_alloc_zero (o := ⟨some 9, .alloc 37, _, _, _, _⟩) rfl 37 rfl Zp hzp ?_)
      | ((with_reducible refine wpList_store_new (o := ⟨none, .store 37 (.tmp 9) (.tmp 34), _, _, _, _⟩) rfl 37 (.tmp 9) (.tmp 34) rfl Zp Cp ?_ ?_ ip sp op ?_); exact rfl; exact rfl)
      | ((with_reducible refine wpList_load_row (o := ⟨some 36, .load 24 (.tmp 3), _, _, _, _⟩) rfl 24 (.tmp 3) rfl w1.heap.size ?_ 24 Ca (0, 0) _ g1 Tryd.underlying24 rfl ia ?_); exact rfl)
      | ((with_reducible refine wpList_load_row (o := ⟨some 37, .load 24 (.tmp 5), _, _, _, _⟩) rfl 24 (.tmp 5) rfl w3.heap.size ?_ 24 Ca (0, 0) _ g3 Tryd.underlying24 rfl ia ?_); exact rfl)
      | ((with_reducible refine wpList_load_row_g (o := ⟨some 45, .load 37 (.tmp 7), _, _, _, _⟩) ?_ 37 (.tmp 7) rfl w5.heap.size ?_ 37 Cp (0, 0) _ g5 Tryd.underlying37 rfl ip ?_); kernel_rfl; exact rfl)
      | ((with_reducible refine wpList_load_row_g (o := ⟨some 46, .load 37 (.tmp 9), _, _, _, _⟩) ?_ 37 (.tmp 9) rfl w7.heap.size ?_ 37 Cp (0, 0) _ g7 Tryd.underlying37 rfl ip ?_); kernel_rfl; exact rfl)
      | (go_at_call 12; refine (HLv.out _ B7.out).mono ?_; rintro _ w9 ⟨rfl, hb9⟩))
    go_ret
    exact ⟨rfl, up B7.out hb9⟩
theorem addrParses_walk (s : ByteArray) (w : World) (_ : s.size ≤ maxLen) (hV : Vars w) :
    Calls Tryd.prog 4 #[.string s] w fun e w' => e = .returned (.bool true) ∧ Below w.heap.size w w' := by
  obtain ⟨⟨l⟩⟩ := s
  by_cases h : l.length ≤ 60
  · exact addrParses_some l _ w h hV (.inl rfl)
  · exact addrParses_some (l.take 60) _ w (by rw [List.length_take]; omega) hV (.inr ⟨by simp [ByteArray.size]; omega, fun W => cut_text l 60 (by omega) W⟩)
end Go.Proofs.YtepibdjglfaniaaDoor
