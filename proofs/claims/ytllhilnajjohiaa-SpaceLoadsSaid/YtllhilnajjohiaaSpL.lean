/-
  A space that is read from bytes: Load, by contracts.
-/
import Derived.Test.YtllhilnajjohiaaSpK
import Derived.Laws.CopyOwn
namespace Go.Proofs.Ytllhilnajjohiaa
open Go.RowKit
/-- The pages that bytes tell. -/
def setOf (l : List UInt8) : Nat → Bool := fun i => (l.getD (i / 8) 0).toNat.testBit (i % 8)
theorem setOf_out (l : List UInt8) {i : Nat} (h : 8 * l.length ≤ i) : setOf l i = false := by
  unfold setOf
  rw [List.getD_eq_getElem?_getD, List.getElem?_eq_none (by omega)]
  simp
theorem setOf_byte (l : List UInt8) (k : Nat) : byteN (setOf l) k = (l.getD k 0).toNat := by
  refine (byteN_eq (UInt8.toNat_lt _) fun j hj => ?_).symm
  unfold setOf
  rw [show (8 * k + j) / 8 = k by omega, show (8 * k + j) % 8 = j by omega]
theorem setB_setOf (l : List UInt8) : setB (setOf l) l.length = l := by
  apply List.ext_getElem?
  intro k
  by_cases hk : k < l.length
  · unfold setB
    rw [List.getElem?_map, List.getElem?_range hk, List.getElem?_eq_getElem hk]
    simp only [Option.map_some, setOf_byte, List.getD_eq_getElem?_getD, List.getElem?_eq_getElem hk, Option.getD_some]
    congr 1
    exact UInt8.ofNat_toNat
  · rw [List.getElem?_eq_none (by rw [setB_length]; omega), List.getElem?_eq_none (by omega)]
theorem setC_splice (l : List UInt8) (h : l.length ≤ 200) : cellsB l ++ (setC none_).drop l.length = setC (setOf l) := by
  apply List.ext_getElem?
  intro k
  by_cases hk : k < 200
  · rw [setC_get _ hk, setOf_byte]
    by_cases h2 : k < l.length
    · rw [List.getElem?_append_left (by rw [cellsB_length]; exact h2), List.getD_eq_getElem?_getD, List.getElem?_eq_getElem h2]
      unfold cellsB
      rw [List.getElem?_map, List.getElem?_eq_getElem h2]
      rfl
    · rw [List.getElem?_append_right (by rw [cellsB_length]; omega), cellsB_length, List.getElem?_drop, show l.length + (k - l.length) = k by omega, setC_get _ hk, List.getD_eq_getElem?_getD, List.getElem?_eq_none (by omega)]
      have : byteN none_ k = 0 := (byteN_eq (x := 0) (by omega) (fun j _ => by simp [none_])).symm
      rw [this]
      rfl
  · rw [List.getElem?_eq_none (by rw [List.length_append, cellsB_length, List.length_drop, setC_length]; omega), List.getElem?_eq_none (by rw [setC_length]; omega)]
theorem spCells_splice (n : Nat) (l : List UInt8) (h : l.length ≤ 200) : splice (spCells n none_ none_) 1 (cellsB l) = spCells n (setOf l) none_ := by
  unfold splice spCells
  rw [cellsB_length, List.take_succ_cons, List.take_zero, Nat.add_comm 1, List.drop_succ_cons, List.drop_append_of_le_length (by rw [setC_length]; exact h), ← List.append_assoc, ← setC_splice l h]
  simp
/-- A space that was read. -/
def Spc.load (n : Nat) (l : List UInt8) : Spc := ⟨n, setOf l, setOf l⟩
theorem Spc.load_bytes {n : Nat} {l : List UInt8} (h : l.length = (n + 7) / 8) : (Spc.load n l).bytes = l := by
  show setB (setOf l) ((n + 7) / 8) = l
  rw [← h, setB_setOf]
theorem reach_or {f : Nat → Bool} {m n : Nat} (h : ReachTo f m) : (n < m ∧ ∃ i, n ≤ i ∧ f i = true) ∨ (m ≤ n ∧ ∀ i, n ≤ i → f i = false) := by
  by_cases hm : n < m
  · exact .inl ⟨hm, m - 1, by omega, h.at_ (by omega)⟩
  · exact .inr ⟨by omega, fun i hi => h.behind i (by omega)⟩
section
variable {w w' : World}
theorem load_arg (n : Int) (A : Option Addr) (m c : Nat) (hb : ¬ (1 ≤ n ∧ n ≤ 1600)) : Calls Try.prog 20 #[.slice A m c, .int .i64 n] w fun e w' => e = .returned (.tuple #[.pointer none, .int .i64 1]) ∧ w = w' := by
  have hm := mayBe_any n w
  rw [show decide (1 ≤ n ∧ n ≤ 1600) = false by simp; omega] at hm
  clear hb
  go_enter Try.func20, Try.ntmps20
  go_wp2_with (go_at_call 24; refine hm.mono ?_; rintro e w' ⟨rfl, rfl⟩)
  go_ret2
  exact ⟨rfl, rfl⟩
theorem load_long (n : Nat) (A : Option Addr) (m c : Nat) (h1 : 1 ≤ n) (h2 : n ≤ 1600) (hm2 : m ≠ (n + 7) / 8) : Calls Try.prog 20 #[.slice A m c, .int .i64 (n : Int)] w fun e w' => e = .returned (.tuple #[.pointer none, .int .i64 4]) ∧ w = w' := by
  have hm := mayBe_any (n : Int) w
  rw [show decide (1 ≤ (n : Int) ∧ (n : Int) ≤ 1600) = true by simp; omega] at hm
  have hz := size_any n h2 w
  obtain ⟨z, hz0⟩ : ∃ z, z = (n + 7) / 8 := ⟨_, rfl⟩
  rw [← hz0] at hz hm2
  have t0 : ((m : Int) != (z : Int)) = true := by simp; omega
  clear hz0 hm2
  go_enter Try.func20, Try.ntmps20
  go_wp2_with (first
    | (go_at_call 24; refine hm.mono ?_; rintro e w' ⟨rfl, rfl⟩)
    | (go_at_call 38; refine hz.mono ?_; rintro e w' ⟨rfl, rfl⟩))
  go_ret2
  exact ⟨rfl, rfl⟩
set_option maxRecDepth 100000 in
set_option maxHeartbeats 1000000 in
theorem load_any (n : Nat) (A : Option Addr) (c : Nat) (l : List UInt8) (h1 : 1 ≤ n) (h2 : n ≤ 1600) (hl : l.length = (n + 7) / 8) (B : Nat) (hr : Rd w B (.slice A l.length c) (cellsB l)) (hB : B ≤ w.heap.size) :
    Calls Try.prog 20 #[.slice A l.length c, .int .i64 (n : Int)] w fun e w' => Below w.heap.size w w' ∧
      (((∃ i, n ≤ i ∧ setOf l i = true) ∧ e = .returned (.tuple #[.pointer none, .int .i64 4])) ∨ ((∀ i, n ≤ i → setOf l i = false) ∧ ∃ a, e = .returned (.tuple #[spAt a, .int .i64 0]) ∧ w.heap.size ≤ a ∧ SpcIs w' a (Spc.load n l))) := by
  have hm := mayBe_any (n : Int) w
  rw [show decide (1 ≤ (n : Int) ∧ (n : Int) ≤ 1600) = true by simp; omega] at hm
  have hz := size_any n h2 w
  have hl200 : l.length ≤ 200 := by omega
  rw [← hl] at hz
  have hb := build_space (n : Int)
  have htop := heap_alloc_last w (.cells (.int .i64 (n : Int) :: (setC none_ ++ setC none_)).toArray 51)
  have hrd := hr.alloc hB (.cells (.int .i64 (n : Int) :: (setC none_ ++ setC none_)).toArray 51)
  have hw := (Below.refl w.heap.size w).alloc (Nat.le_refl _) (.cells (.int .i64 (n : Int) :: (setC none_ ++ setC none_)).toArray 51)
  have hsrc : Hid (0 < (cellsB l).length → ∃ ad, A = some ad ∧ ∀ j v, (cellsB l)[j]? = some v → (w.alloc (.cells (.int .i64 (n : Int) :: (setC none_ ++ setC none_)).toArray 51)).cell? (ad.add j) = some v) := Lib.hid fun hp => by
    obtain ⟨A', c', e, _, _, _, h4⟩ := hrd
    injection e with e1 e2 e3
    obtain ⟨g, o, hA, _, hc⟩ := h4 hp
    refine ⟨⟨g, o, none⟩, e1.trans hA, fun j v hv => ?_⟩
    rw [Addr.add_lit]
    exact hc j v hv
  have hspl := spCells_splice n l hl200
  have hsz : 1 + (cellsB l).length ≤ (spCells n none_ none_).length := by rw [spCells_length, cellsB_length]; omega
  have hmin : (cellsB l).length = Nat.min l.length 200 := by rw [cellsB_length]; exact (Nat.min_eq_left hl200).symm
  obtain ⟨L, hL⟩ : ∃ L, L = cellsB l := ⟨_, rfl⟩
  obtain ⟨m, hm2⟩ : ∃ m, m = l.length := ⟨_, rfl⟩
  have hfin : Hid (∀ w2, w2.heap[w.heap.size]? = some (.cells (splice (spCells n none_ none_) 1 L).toArray 51 (0, 0)) → w2.heap[w.heap.size]? = some (.cells (spCells n (setOf l) none_).toArray 51 (0, 0)) ∧ SetAt w2 w.heap.size 1 (setOf l)) := Lib.hid fun w2 h => by
    rw [hL, hspl] at h
    refine ⟨h, SetAt.of_range fun j u hu => ?_⟩
    rw [cell_of_row w2 _ (1 + j) _ _ (0, 0) h, List.getElem?_toArray]
    exact spCells_now _ _ _ hu
  have Hone : Hid (∀ u ∈ L, u.oneCell' = true) := Lib.hid (by rw [hL]; exact cellsB_one l)
  have Hout : Hid (∀ i, 1600 ≤ i → setOf l i = false) := Lib.hid fun i hi => setOf_out l (by omega)
  rw [← hL] at hsrc hmin hsz
  rw [← hm2] at hmin hz ⊢
  have H2 := Lib.hid h2
  have Hmin := Lib.hid hmin
  have Hsz := Lib.hid hsz
  have Htop : Hid ((w.alloc (.cells (.int .i64 (n : Int) :: (setC none_ ++ setC none_)).toArray 51)).heap[w.heap.size]? = some (.cells (spCells n none_ none_).toArray 51 (0, 0))) := Lib.hid htop
  have Hw := Lib.hid hw
  obtain ⟨Z, hZ⟩ : ∃ Z, Z = (Value.int .i64 (n : Int) :: (setC none_ ++ setC none_)).toArray := ⟨_, rfl⟩
  rw [← hZ] at hb Htop Hw hsrc
  have hm200 : m ≤ 200 := by omega
  clear hw hZ hr hrd htop hmin hsz hspl hL hm2 hl hl200
  go_enter Try.func20, Try.ntmps20
  go_wp2_with (first
    | (go_at_call 24; refine hm.mono ?_; rintro e w' ⟨rfl, rfl⟩)
    | (go_at_call 38; refine hz.mono ?_; rintro e w' ⟨rfl, rfl⟩)
    | ((with_reducible refine wpList_run (o := ⟨some 16, .build 51 #[(0, .tmp 15)], _, _, _, none⟩) rfl (.agg Z) w ?_ ?_); exact exec_build1 (u := .int .i64 (n : Int)) (v := .agg Z) rfl rfl (hb w))
    | ((with_reducible refine wpList_run (o := ⟨some 17, .box 51 (.tmp 16), _, _, _, none⟩) rfl (.pointer (some ⟨w.heap.size, 0, none⟩)) (w.alloc (.cells Z 51)) ?_ ?_); exact exec_box (c := Z) rfl rfl)
    | (refine wpList_copy_splice rfl (.tmp 21) (.tmp 22) 39 39 rfl 5 Try.underlying39 (by kernel_rfl) _ _ _ _ _ _ rfl rfl w.heap.size 1 (spCells n none_ none_) 51 Htop.out L Hmin.out (fun hp => ⟨rfl, hsrc.out hp⟩) Hsz.out Hone.out w.heap.size w Hw.out (Nat.le_refl _) ?_; intro w2 hg2 hb2))
  obtain ⟨hg3, hs3⟩ := hfin.out w2 hg2.out
  have HG := Lib.hid hg3
  have HB2 := Lib.hid hb2
  have hreach := setreach_any hs3 Hout.out
  clear hg2 hb2 hg3 hs3
  refine hreach.mono ?_
  rintro e w3 ⟨r, rfl, hr1, hr2, rfl⟩
  rcases reach_or hr2 (n := n) with ⟨k1, k2⟩ | ⟨k1, k2⟩
  · have K2 := Lib.hid k2
    clear hreach hr2 k2 hm hz hb
    go_wp2_with fail
    go_ret2
    exact ⟨HB2.out, .inl ⟨K2.out, rfl⟩⟩
  · have hs0 : SpcIs w2 w.heap.size ⟨n, setOf l, none_⟩ := ⟨HG.out, ⟨h1, H2.out⟩, k2, fun _ _ => rfl⟩
    have hc := Lib.hid (commit_any hs0)
    have K2 := Lib.hid k2
    clear hreach hr2 k2 hs0 hm hz hb
    go_wp2_with (go_at_call 12; refine hc.out.mono ?_; rintro e w4 ⟨rfl, q1, q2⟩; have HQ := Lib.hid q1; have HO := Lib.hid (HB2.out.trans (q2.new (Nat.le_refl _) HB2.out.size)); clear q1 q2)
    go_ret2
    exact ⟨HO.out, .inr ⟨K2.out, _, rfl, Nat.le_refl _, HQ.out⟩⟩
end
end Go.Proofs.Ytllhilnajjohiaa
