/-
  The small functions of a cache, by contracts: a frame's own, and which frame holds a sector, or none.
-/
import Derived.Test.YtfjcblppmoomdaaCacheA
import Derived.Test.YtfjcblppmoomdaaDevE
import Derived.Test.YtfjcblppmoomdaaStored
namespace Go.Proofs.Ytfjcblppmoomdaa
open Go.RowKit
/-- A pointer to frame i, or to none. -/
def frPtr (bf : Nat) : Option Nat → Value
  | none => .pointer none
  | some i => .pointer (some ⟨bf, i * 261, none⟩)
abbrev frAt (g o : Nat) : Value := .pointer (some ⟨g, o, none⟩)
set_option maxRecDepth 100000 in
theorem isFull_any {w : World} {g o : Nat} {b : Bool} (hc : w.cell? ⟨g, o, none⟩ = some (.bool b)) : Calls Try.prog 37 #[frAt g o] w fun e w' => e = .returned (.bool b) ∧ w = w' := by
  go_enter Try.func37, Try.ntmps37
  go_wp2_with fail
  go_ret
  exact ⟨rfl, rfl⟩
set_option maxRecDepth 100000 in
theorem isDirty_any {w : World} {g o : Nat} {b : Bool} (hc : w.cell? ⟨g, o + 258, none⟩ = some (.bool b)) : Calls Try.prog 39 #[frAt g o] w fun e w' => e = .returned (.bool b) ∧ w = w' := by
  go_enter Try.func39, Try.ntmps39
  go_wp2_with fail
  go_ret
  exact ⟨rfl, rfl⟩
set_option maxRecDepth 100000 in
theorem hold_any {w : World} {g o : Nat} {u v : Value} (no : Int) (h0 : w.cell? ⟨g, o, none⟩ = some u) (h1 : w.cell? ⟨g, o + 1, none⟩ = some v) (f0 : w.frozen? ⟨g, o, none⟩ = false) (f1 : w.frozen? ⟨g, o + 1, none⟩ = false) :
    Calls Try.prog 47 #[frAt g o, .int .i64 no] w fun e w' => e = .returned (.tuple #[]) ∧ (w.setCell ⟨g, o, none⟩ (.bool true)).setCell ⟨g, o + 1, none⟩ (.int .i64 no) = w' := by
  go_enter Try.func47, Try.ntmps47
  go_wp2_with fail
  go_end0
  exact ⟨rfl, rfl⟩
set_option maxRecDepth 100000 in
theorem pin_any {w : World} {g o n : Nat} (hn : n < 1000000) (h0 : w.cell? ⟨g, o + 260, none⟩ = some (.int .i64 (n : Int))) (f0 : w.frozen? ⟨g, o + 260, none⟩ = false) :
    Calls Try.prog 53 #[frAt g o] w fun e w' => e = .returned (.bool true) ∧ w.setCell ⟨g, o + 260, none⟩ (.int .i64 ((n : Int) + 1)) = w' := by
  go_enter Try.func53, Try.ntmps53
  go_wp2_with fail
  go_ret
  exact ⟨rfl, rfl⟩
set_option maxRecDepth 100000 in
theorem unpin_no {w : World} {g o : Nat} (h0 : w.cell? ⟨g, o + 260, none⟩ = some (.int .i64 0)) :
    Calls Try.prog 54 #[frAt g o] w fun e w' => e = .returned (.bool false) ∧ w = w' := by
  go_enter Try.func54, Try.ntmps54
  go_wp2_with fail
  go_ret
  exact ⟨rfl, rfl⟩
set_option maxRecDepth 100000 in
theorem unpin_yes {w : World} {g o n : Nat} (hn : n < 1000000) (h0 : w.cell? ⟨g, o + 260, none⟩ = some (.int .i64 ((n : Int) + 1))) (f0 : w.frozen? ⟨g, o + 260, none⟩ = false) :
    Calls Try.prog 54 #[frAt g o] w fun e w' => e = .returned (.bool true) ∧ w.setCell ⟨g, o + 260, none⟩ (.int .i64 (n : Int)) = w' := by
  have t1 : decide ((n : Int) + 1 = 0) = false := by simp; omega
  go_enter Try.func54, Try.ntmps54
  go_wp2_with fail
  go_ret
  exact ⟨rfl, rfl⟩
set_option maxRecDepth 100000 in
theorem drop_no {w : World} {g o n : Nat} (hn : 0 < n) (h0 : w.cell? ⟨g, o + 260, none⟩ = some (.int .i64 (n : Int))) :
    Calls Try.prog 55 #[frAt g o] w fun e w' => e = .returned (.bool false) ∧ w = w' := by
  have t1 : decide (0 < (n : Int)) = true := by simp; omega
  go_enter Try.func55, Try.ntmps55
  go_wp2_with fail
  go_ret
  exact ⟨rfl, rfl⟩
theorem info_frame : (Try.prog.info? 94).map (fun i => (i.zero, i.size)) = some (some (.agg (frCells Frm.zero).toArray), 261) := by kernel_rfl
theorem build_frame (w : World) : (Instr.build 94 #[]).run Try.prog w = .ok (.agg (frCells Frm.zero).toArray) w := by kernel_rfl
set_option maxRecDepth 100000 in
theorem drop_yes {w : World} {g o : Nat} {cs : List Value} {t : TypeId} (h0 : w.cell? ⟨g, o + 260, none⟩ = some (.int .i64 0)) (hg : w.heap[g]? = some (.cells cs.toArray t (0, 0))) (ho : o + 261 ≤ cs.length) :
    Calls Try.prog 55 #[frAt g o] w fun e w' => e = .returned (.bool true) ∧ w'.heap[g]? = some (.cells (cs.take o ++ frCells Frm.zero ++ cs.drop (o + (frCells Frm.zero).length)).toArray t (0, 0)) ∧ w.grownBy w' (some g) ∧ w'.heap.size = w.heap.size := by
  have hl : (frCells Frm.zero).length = 261 := frCells_length (by simp [Frm.zero])
  obtain ⟨w1, hrun, e1, e2, e3⟩ := store_agg (P := Try.prog) hg (frCells_one Frm.zero) (o := o) (by omega) (ty := 94) (by rw [hl]; have := info_frame; cases hq : Try.prog.info? 94 with
    | none => rw [hq] at this; cases this
    | some i => rw [hq] at this; have := congrArg Prod.snd (Option.some.inj this); simp at this; simp [this])
  obtain ⟨Z, hZ⟩ : ∃ Z, Z = frCells Frm.zero := ⟨_, rfl⟩
  have hz := build_frame
  rw [← hZ] at hrun e1 hz ⊢
  have He1 := Lib.hid e1
  have He2 := Lib.hid e2
  have He3 := Lib.hid e3
  clear hl hZ hg ho e1 e2 e3
  go_enter Try.func55, Try.ntmps55
  go_wp2_with (first
    | ((with_reducible refine wpList_run (o := ⟨some 9, .build 94 #[], _, _, _, none⟩) rfl (.agg Z.toArray) w ?_ ?_); exact exec_build0 rfl (hz _))
    | ((with_reducible refine wpList_stored (o := ⟨none, .store 94 (.tmp 10) (.tmp 9), _, _, _, none⟩) rfl 94 (.tmp 10) (.tmp 9) rfl (frAt g o) (.agg Z.toArray) ?_ ?_ w1 hrun ?_); exact rfl; exact rfl))
  go_ret
  exact ⟨rfl, He1.out, He2.out, He3.out⟩
end Go.Proofs.Ytfjcblppmoomdaa
