/-
  For DevFlushed: writes of any sector, reads of a first byte, what a loss of power leaves alone; small arrays.
-/
import Derived.Test.YtmifaneolfciiaaDevKeptWalk
import Derived.Deep.QuietTactic
import Derived.BigQuiet
namespace Go.Proofs.Ytmifaneolfciiaa
open Go.RowKit
/-- Sector s, written, if there is one. -/
def Dev.sec (d : Dev) (s : Int) (l : List UInt8) : Dev := if 0 ≤ s ∧ s < (d.L.length : Int) then d.put s.toNat l else d
theorem Dev.sec_L (d : Dev) (s : Int) (l : List UInt8) : (d.sec s l).L = d.L := by unfold Dev.sec; split <;> rfl
theorem Dev.sec_f (d : Dev) (s : Int) (l : List UInt8) : (d.sec s l).f = d.f := by unfold Dev.sec; split <;> rfl
theorem Dev.sec_n (d : Dev) (s : Int) (l : List UInt8) : (d.sec s l).n ≤ d.n + 1 := by unfold Dev.sec; split <;> simp [Dev.put]
theorem Dev.sec_Q (d : Dev) (s : Int) (l : List UInt8) {j : Nat} (h : (j : Int) ≠ s) : (d.sec s l).Q j = d.Q j := by
  unfold Dev.sec
  split
  · simp only [Dev.put]
    rw [if_neg (by omega)]
  · rfl
/-- A sector's first byte. -/
def firstB (l : List UInt8) : UInt8 := l.headD 0
theorem firstB_cell {l : List UInt8} (h : l.length = 256) : (cellsB l)[0]? = some (.int .u8 ((firstB l).toNat : Int)) := by
  cases l with
  | nil => simp at h
  | cons a l => rfl
theorem lose_other (Q : Nat → List (List UInt8)) {i : Nat} : ∀ (ws : List Nat) (ks : List Int) (L : List (List UInt8)), i ∉ ws → (lose Q ws ks L).getD i [] = L.getD i []
  | [], _, _, _ => rfl
  | _ :: _, [], _, _ => rfl
  | j :: ws, k :: ks, L, h => by
    rw [lose, lose_other Q ws ks _ (fun e => h (List.mem_cons_of_mem _ e))]
    split
    · have : j ≠ i := fun e => h (e ▸ List.mem_cons_self ..)
      simp only [List.getD_eq_getElem?_getD]
      rw [List.getElem?_set_ne this]
    · rfl
theorem Dev.crash_low (d : Dev) (ks : List Int) {i : Nat} (h : d.Q i = []) : (d.crash ks).now i = d.L.getD i [] := by
  have : i ∉ d.waits := fun e => (mem_waits.1 e).2 h
  exact lose_other d.Q d.waits ks d.L this
theorem Dev.now_low (d : Dev) {i : Nat} (h : d.Q i = []) : d.now i = d.L.getD i [] := by simp [Dev.now, h]
/-- The first i of some bytes; then noughts. -/
def wasL (W : Nat → UInt8) (i : Nat) : List Value := (List.range 20).map fun j => Value.int .u8 (((if j < i then W j else 0) : UInt8).toNat : Int)
def dirtyL (B : Nat → Bool) : List Value := (List.range 20).map fun j => Value.bool (B j)
theorem wasL_at (W : Nat → UInt8) (i : Nat) {j : Nat} (hj : j < 20) : (wasL W i)[j]? = some (.int .u8 (((if j < i then W j else 0) : UInt8).toNat : Int)) := by simp [wasL, hj]
theorem dirtyL_at (B : Nat → Bool) {j : Nat} (hj : j < 20) : (dirtyL B)[j]? = some (.bool (B j)) := by simp [dirtyL, hj]
theorem wasL_set (W : Nat → UInt8) (i : Nat) : (wasL W i).set i (.int .u8 ((W i).toNat : Int)) = wasL W (i + 1) := by
  apply List.ext_getElem?
  intro j
  rw [List.getElem?_set]
  by_cases hj : j < 20
  · rw [wasL_at W (i + 1) hj]
    by_cases e : i = j
    · subst e
      simp [wasL, hj]
    · rw [if_neg e, wasL_at W i hj]
      by_cases h : j < i
      · rw [if_pos h, if_pos (by omega)]
      · rw [if_neg h, if_neg (by omega)]
  · have h1 : (wasL W (i + 1))[j]? = none := List.getElem?_eq_none (by simp [wasL]; omega)
    have h2 : (wasL W i)[j]? = none := List.getElem?_eq_none (by simp [wasL]; omega)
    rw [h1, h2]
    split
    · rw [if_neg (by simp [wasL]; omega)]
    · rfl
theorem dirtyL_set (B : Nat → Bool) (i : Nat) : (dirtyL B).set i (.bool true) = dirtyL fun j => if j = i then true else B j := by
  apply List.ext_getElem?
  intro j
  rw [List.getElem?_set]
  by_cases hj : j < 20
  · rw [dirtyL_at _ hj]
    by_cases e : i = j
    · subst e
      simp [dirtyL, hj]
    · rw [if_neg e, dirtyL_at _ hj, if_neg (fun h => e h.symm)]
  · have h1 : (dirtyL fun j => if j = i then true else B j)[j]? = none := List.getElem?_eq_none (by simp [dirtyL]; omega)
    have h2 : (dirtyL B)[j]? = none := List.getElem?_eq_none (by simp [dirtyL]; omega)
    rw [h1, h2]
    split
    · rw [if_neg (by simp [dirtyL]; omega)]
    · rfl
theorem wpList_store_same {P : Program} {w : World} {ops : Array Oper} {rest : List Oper} {o : Oper} {a : Act} {Q : Exit → Act → World → Prop} (hgd : o.guard = none) (t : TypeId) (x y : Operand) (ho : o.op = .store t x y) (g : Nat) (c : Array Value) (e : TypeId)
    (hx : a.eval x = .pointer (some ⟨g, 0, none⟩)) (hy : a.eval y = .agg c) (hg : w.heap[g]? = some (.cells c e (0, 0))) (hi : (P.info? t).map (·.size) = some c.size) (h1 : c.all (·.oneCell') = true)
    (h : wpList P ops Q rest (a.put o.dst undef) w) : wpList P ops Q (o :: rest) a w := by
  refine wpList_plain hgd fun K hK => ?_
  have hr := run_storeVar_row (P := P) w g e t c c hg hi rfl h1
  rw [setRow_self w g c e (0, 0) hg] at hr
  unfold Oper.wp execOp
  simp only [ho, hx, hy, Instr.storeAt, Instr.sureAddr, Sem.run_bind, Sem.run_pure, Result.andThen_ok, hr]
  exact hK _ _ h
section
variable {w : World} {F : Nat → Prop} {p bl bm : Nat} {S : Nat → Value} {D : DataW Value} {d : Dev}
theorem write_sec {s : Int} {bb : Nat} {l : List UInt8} (h : DevIs w (fun k => F k ∧ k ≠ bb) p bl bm S D d) (hf : ∀ k, (d.f k).1 = false) (hn : d.n < 1000000) (hl : l.length = 256) (hg : w.heap[bb]? = some (.cells (cellsB l).toArray 5 (0, 0))) (hF : ∀ k, w.heap.size ≤ k → F k) :
    Calls Try.prog 20 #[at0 p, .int .i64 s, .slice (some ⟨bb, 0, none⟩) 256 256] w fun e w' => ∃ S' D', e = .returned (.int .i64 (if 0 ≤ s ∧ s < (d.L.length : Int) then 0 else 1)) ∧ DevIs w' F p bl bm S' D' (d.sec s l) ∧ Only F w w' := by
  by_cases hs : 0 ≤ s ∧ s < (d.L.length : Int)
  · obtain ⟨i, rfl⟩ := Int.eq_ofNat_of_zero_le hs.1
    have h2 := write_far (i := i) (c := 256) h (by omega) (Dev.burns_idle _ _ (hf 2)) hn hl (range_new hg) (Array.getElem?_eq_some_iff.1 hg).1 hF
    rw [Dev.burn_idle _ _ (hf 2)] at h2
    unfold Dev.sec
    rw [if_pos hs, if_pos hs]
    exact h2
  · refine (write_arg h (by omega)).mono ?_
    rintro e w' ⟨rfl, rfl⟩
    unfold Dev.sec
    rw [if_neg hs, if_neg hs]
    exact ⟨S, D, rfl, h.mono fun k _ hk => hk.1, Only.refl _ _⟩
theorem read_sec {i : Nat} (h : DevIs w F p bl bm S D d) (hi : i < d.L.length) (hf : ∀ k, (d.f k).1 = false) (hn : d.n < 1000000) :
    Calls Try.prog 18 #[at0 p, .int .i64 (i : Int)] w fun e w' => ∃ g, e = .returned (.tuple #[.slice (some ⟨g, 0, none⟩) 256 256, .int .i64 0]) ∧ w'.cell? ⟨g, 0, none⟩ = some (.int .u8 ((firstB (d.now i)).toNat : Int)) ∧ DevIs w' F p bl bm S D d ∧ Only F w w' := by
  have h2 := read_ok h hi (Dev.burns_idle _ _ (hf 1)) hn
  rw [Dev.burn_idle _ _ (hf 1)] at h2
  refine h2.mono ?_
  rintro e w' ⟨g, rfl, hg, _, hd, ho⟩
  refine ⟨g, rfl, ?_, hd, ho⟩
  rw [cell_of_row w' g 0 _ 71 (0, 0) hg, List.getElem?_toArray]
  exact firstB_cell (Dev.now_wide h hi)
end
end Go.Proofs.Ytmifaneolfciiaa
