/-
  A space: New, by contracts.
-/
import Derived.Test.YtllhilnajjohiaaSpG
namespace Go.Proofs.Ytllhilnajjohiaa
open Go.RowKit
theorem exec_build1 {ρ : Operand → Value} {o : Oper} {t : TypeId} {x : Operand} (ho : o.op = .build t #[(0, x)]) {u v : Value} (hx : ρ x = u) {P : Program} {w : World} (hrun : (Instr.build t #[(0, u)]).run P w = .ok v w) : (execOp ρ o).run P w = .ok (.value v) w := by
  unfold execOp
  simp only [ho, List.map_toArray, List.map_cons, List.map_nil, hx, Sem.run_bind, hrun, Result.andThen_ok, Sem.run_pure]
theorem exec_box {ρ : Operand → Value} {o : Oper} {t : TypeId} {x : Operand} (ho : o.op = .box t x) {c : Array Value} (hx : ρ x = .agg c) {P : Program} {w : World} : (execOp ρ o).run P w = .ok (.value (.pointer (some ⟨w.heap.size, 0, none⟩))) (w.alloc (.cells c t)) := by
  unfold execOp
  simp only [ho, hx, Sem.run_bind, Instr.box, newVar, newRow, run_newObj_alloc, Sem.run_pure, Result.andThen_ok, Value.cells]
/-- No page. -/
def none_ : Nat → Bool := fun _ => false
set_option maxRecDepth 100000 in
theorem build_space (n : Int) (w : World) : (Instr.build 51 #[(0, .int .i64 n)]).run Try.prog w = .ok (.agg (.int .i64 n :: (setC none_ ++ setC none_)).toArray) w := by kernel_rfl
/-- The pages below k. -/
def below (k : Nat) : Nat → Bool := fun i => decide (i < k)
theorem below_zero : below 0 = none_ := by
  funext i
  simp [below, none_]
theorem below_put (k : Nat) : put (below k) k true = below (k + 1) := by
  funext i
  unfold put below
  by_cases h : i = k
  · subst h; simp
  · rw [if_neg h]
    by_cases h2 : i < k
    · simp [h2, Nat.lt_succ_of_lt h2]
    · have : ¬ i < k + 1 := by omega
      simp [h2, this]
/-- A new space. -/
def Spc.new (n first : Nat) : Spc := ⟨n, below first, below first⟩
section
variable {w w' : World}
theorem new_bad (n first : Int) (hb : ¬ (1 ≤ n ∧ n ≤ 1600) ∨ first < 0 ∨ n < first) : Calls Try.prog 7 #[.int .i64 n, .int .i64 first] w fun e w' => e = .returned (.tuple #[.pointer none, .int .i64 1]) ∧ w = w' := by
  have hm := mayBe_any n w
  by_cases h1 : 1 ≤ n ∧ n ≤ 1600
  · rw [show decide (1 ≤ n ∧ n ≤ 1600) = true by simp [h1]] at hm
    by_cases h2 : first < 0
    · clear hb
      go_enter Try.func7, Try.ntmps7
      go_wp2_with (go_at_call 24; refine hm.mono ?_; rintro e w' ⟨rfl, rfl⟩)
      go_ret2
      exact ⟨rfl, rfl⟩
    · have h3 : n < first := by omega
      clear hb
      go_enter Try.func7, Try.ntmps7
      go_wp2_with (go_at_call 24; refine hm.mono ?_; rintro e w' ⟨rfl, rfl⟩)
      go_ret2
      exact ⟨rfl, rfl⟩
  · rw [show decide (1 ≤ n ∧ n ≤ 1600) = false by simp; omega] at hm
    clear hb h1
    go_enter Try.func7, Try.ntmps7
    go_wp2_with (go_at_call 24; refine hm.mono ?_; rintro e w' ⟨rfl, rfl⟩)
    go_ret2
    exact ⟨rfl, rfl⟩
theorem new_ok (n first : Nat) (h1 : 1 ≤ n) (h2 : n ≤ 1600) (h3 : first ≤ n) : Calls Try.prog 7 #[.int .i64 (n : Int), .int .i64 (first : Int)] w fun e w' => ∃ a, e = .returned (.tuple #[spAt a, .int .i64 0]) ∧ w.heap.size ≤ a ∧ SpcIs w' a (Spc.new n first) ∧ Below w.heap.size w w' := by
  have hm := mayBe_any (n : Int) w
  rw [show decide (1 ≤ (n : Int) ∧ (n : Int) ≤ 1600) = true by simp; omega] at hm
  have hb := build_space (n : Int)
  have h0 : SpcIs (w.alloc (.cells (.int .i64 (n : Int) :: (setC none_ ++ setC none_)).toArray 51)) w.heap.size ⟨n, below 0, none_⟩ := ⟨by rw [below_zero]; exact heap_alloc_last _ _, ⟨h1, h2⟩, fun i _ => by simp [below], fun i _ => rfl⟩
  have H0 := Lib.hid h0
  have hw := (Below.refl w.heap.size w).alloc (Nat.le_refl _) (.cells (.int .i64 (n : Int) :: (setC none_ ++ setC none_)).toArray 51)
  have Hw := Lib.hid hw
  have H2 := Lib.hid h2
  have e1 : decide ((first : Int) < 0) = false := by simp
  have e2 : decide (n < first) = false := by simp; omega
  obtain ⟨Z, hZ⟩ : ∃ Z, Z = (Value.int .i64 (n : Int) :: (setC none_ ++ setC none_)).toArray := ⟨_, rfl⟩
  rw [← hZ] at hb H0 Hw
  clear h0 hw hZ
  go_enter Try.func7, Try.ntmps7
  go_wp2_with (first
    | (go_at_call 24; refine hm.mono ?_; rintro e w' ⟨rfl, rfl⟩)
    | ((with_reducible refine wpList_run (o := ⟨some 21, .build 51 #[(0, .tmp 20)], _, _, _, none⟩) rfl (.agg Z) w ?_ ?_); exact exec_build1 (u := .int .i64 (n : Int)) (v := .agg Z) rfl rfl (hb w))
    | ((with_reducible refine wpList_run (o := ⟨some 22, .box 51 (.tmp 21), _, _, _, none⟩) rfl (.pointer (some ⟨w.heap.size, 0, none⟩)) (w.alloc (.cells Z 51)) ?_ ?_); exact exec_box (c := Z) rfl rfl))
  generalize w.alloc (.cells Z 51) = w0 at H0 Hw ⊢
  clear hm hb e1 e2
  go_loopw [24] (fun iv wr => ∃ k : Nat, k ≤ first ∧ iv = .int .i64 (k : Int) ∧ Hid (SpcIs wr w.heap.size ⟨n, below k, none_⟩ ∧ Below w.heap.size w wr)) (fun iv _ => first - (intOf iv).toNat)
  case atStart => exact ⟨0, by omega, rfl, Lib.hid ⟨H0.out, Hw.out⟩⟩
  case round =>
    obtain ⟨k, hk, rfl, HI⟩ := hrel
    obtain ⟨hs, hb⟩ := HI.out
    by_cases hk2 : k < first
    · have ha := Lib.hid (added_any hs (k := k) (show k < n by omega))
      have Hb := Lib.hid hb
      clear hs hb HI
      go_wp2_with (go_at_call 25; refine ha.out.mono ?_; rintro e w1 ⟨rfl, k1, k2⟩; have Hk := Lib.hid (And.intro k1 k2); clear k1 k2)
      go_roundw
      case rel =>
        refine ⟨k + 1, by omega, by go_num, Lib.hid ⟨?_, ?_⟩⟩
        · have := Hk.out.1
          unfold Spc.put at this
          rw [below_put] at this
          exact this
        · exact Hb.out.trans ((Hk.out.2.mono (F' := fun k => w.heap.size ≤ k) fun j _ hj => by omega).below Hb.out.size)
      case measure => simp [intOf]; omega
    · have : k = first := by omega
      subst this
      have hc := Lib.hid (commit_any hs)
      have Hb := Lib.hid hb
      clear hs hb HI
      go_wp2_with (go_at_call 12; refine hc.out.mono ?_; rintro e w1 ⟨rfl, k1, k2⟩; have Hk := Lib.hid (And.intro k1 k2); clear k1 k2)
      go_ret2
      exact ⟨_, rfl, Nat.le_refl _, Hk.out.1, Hb.out.trans ((Hk.out.2.mono (F' := fun k => w.heap.size ≤ k) fun j _ hj => by omega).below Hb.out.size)⟩
end
end Go.Proofs.Ytllhilnajjohiaa
