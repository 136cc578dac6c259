/-
  Numbers as texts (strconv), to base 16: contracts.
-/
import Derived.Test.YtepibdjglfaniaaDoorAdI
import Derived.Laws.BitsAllLaws
import Derived.Test.YtepibdjglfaniaaDoorAdF
namespace Go.Proofs.YtepibdjglfaniaaDoor
open Go.RowKit Go.Sort
set_option maxRecDepth 100000 in
theorem tz16 (w : World) (hV : w.cell? ⟨7, 15, none⟩ = some (.int .u8 4)) : Calls Tryd.prog 93 #[.int .u64 16] w fun e w' => e = .returned (.int .i64 4) ∧ w = w' := by
  have e1 : IntKind.u64.wrap (-16) = 18446744073709551600 := by decide
  have e2 : bits BinOp.and IntKind.u64 16 18446744073709551600 = 16 := by decide +kernel
  have e3 : IntKind.u64.wrap 4573923408821661840 = 4573923408821661840 := by decide
  go_enter Tryd.func93, Tryd.ntmps93
  go_wp2_with fail
  go_ret
  exact ⟨rfl, rfl⟩
set_option maxRecDepth 100000 in
theorem tz16p (w : World) (hV : w.cell? ⟨7, 15, none⟩ = some (.int .u8 4)) : Calls Tryd.prog 88 #[.int .u64 16] w fun e w' => e = .returned (.int .i64 4) ∧ w = w' := by
  go_enter Tryd.func88, Tryd.ntmps88
  go_wp2_with (go_at_call 93; refine (tz16 _ hV).mono ?_; rintro e w' ⟨rfl, rfl⟩)
  go_ret
  exact ⟨rfl, rfl⟩
set_option maxRecDepth 100000 in
theorem pow16 (w : World) : Calls Tryd.prog 87 #[.int .i64 16] w fun e w' => e = .returned (.bool true) ∧ w = w' := by
  have e1 : bits BinOp.and IntKind.i64 16 15 = 0 := by decide +kernel
  go_enter Tryd.func87, Tryd.ntmps87
  go_wp2_with fail
  go_ret
  exact ⟨rfl, rfl⟩
/-! ### The digits, from the last one on -/
abbrev s36 : ByteArray := ⟨#[48, 49, 50, 51, 52, 53, 54, 55, 56, 57, 97, 98, 99, 100, 101, 102, 103, 104, 105, 106, 107, 108, 109, 110, 111, 112, 113, 114, 115, 116, 117, 118, 119, 120, 121, 122]⟩
theorem s36_all : ∀ d : Fin 16, s36[d.val]'(Nat.lt_of_lt_of_le d.isLt (by decide)) = hexc d.val := by decide +kernel
theorem s36_at {q : Nat} (h : q < 16) (W : World) : (Instr.index 9 (.string s36) (.int .u64 (q : Int))).run Tryd.prog W = .ok (.int .u8 ((hexc q).toNat : Int)) W := by
  have hs : s36.size = 36 := by decide
  rw [run_index_string W 9 s36 .u64 (q : Int) Tryd.underlying9, dif_pos ⟨by omega, by rw [hs]; omega⟩]
  have := s36_all ⟨q, h⟩
  simp only [Int.toNat_natCast]
  rw [← this]
theorem and15_all (v : Nat) (h : v < 65536) : bits .and .u64 (v : Int) 15 = ((v % 16 : Nat) : Int) := by
  rw [show (15 : Int) = ((15 : Nat) : Int) from rfl, u64_and_nat _ _ (by omega) (by omega)]
  exact congrArg _ (Nat.and_two_pow_sub_one_eq_mod v 4)
/-- The last digits, behind noughts. -/
def tailB (L : List UInt8) : List Value := cellsB (List.replicate (65 - L.length) 0 ++ L)
theorem tailB_set {L : List UInt8} (h : L.length < 65) (x : UInt8) : (tailB L).set (64 - L.length) (.int .u8 (x.toNat : Int)) = tailB (x :: L) := by
  obtain ⟨m, hm⟩ : ∃ m, 65 - L.length = m + 1 := ⟨64 - L.length, by omega⟩
  rw [tailB, tailB, List.length_cons, show 65 - (L.length + 1) = m by omega, hm, show 64 - L.length = m by omega, cellsB_append, cellsB_append]
  simp only [cellsB, List.map_replicate, List.map_cons]
  exact set_at m _ _ _
theorem tailB_at {L : List UInt8} (h : L.length < 65) : (tailB L)[64 - L.length]? = some (.int .u8 0) := by
  rw [tailB, cellsB, List.getElem?_map, List.getElem?_append_left (by simp; omega), List.getElem?_replicate, if_pos (by omega)]
  rfl
set_option maxHeartbeats 1600000 in
set_option maxRecDepth 100000 in
theorem fmtBits16_any (u : Nat) (hu : u ≤ 65535) (w : World) (hV : Vars w) :
    Calls Tryd.prog 76 #[.slice none 0 0, .int .u64 u, .int .i64 16, .bool false, .bool false] w fun e w' => e = .returned (.tuple #[.slice none 0 0, .string ⟨(digs 16 u).toArray⟩]) ∧ Below w.heap.size w w' := by
  have hz : ∀ w, (zeroValue 117).run Tryd.prog w = .ok (.agg (tailB []).toArray) w := fun w => by
    rw [Tryd.zeroValue117]; kernel_rfl
  have htz := fun w (h : w.cell? ⟨7, 15, none⟩ = some (.int .u8 4)) => tz16p w h
  have h4 : (w.alloc (.cells (tailB []).toArray 117)).cell? ⟨7, 15, none⟩ = some (.int .u8 4) := by
    rw [World.cell?_alloc_lt w _ _ (show 7 < w.heap.size by have := hV.size; omega)]
    exact hV.four
  have hw0 := heap_alloc_last w (.cells (tailB []).toArray 117)
  have hb0 := up_alloc (Below.refl w.heap.size w) (.cells (tailB []).toArray 117)
  have H0 := Lib.hid (And.intro hw0 hb0)
  have HTZ := Lib.hid htz
  generalize hT : tailB [] = T at *
  have HT := Lib.hid hT
  clear hw0 hb0 hV htz hT
  go_enter Tryd.func76, Tryd.ntmps76
  go_wp2_with (first
    | (with_reducible refine wpList_alloc_zero (o := ⟨some 12, .alloc 117, _, _, _, _⟩) rfl 117 rfl T.toArray hz ?_)
    | (go_at_call 87; refine (pow16 _).mono ?_; rintro e w' ⟨rfl, rfl⟩)
    | (go_at_call 88; refine (HTZ.out _ h4).mono ?_; rintro e w' ⟨rfl, rfl⟩))
  go_loopw [1, 13] (fun vu vi wr => ∃ (v j : Nat) (L : List UInt8), L.length ≤ 3 ∧ v < 16 ^ (4 - L.length) ∧ j = 64 - L.length ∧ vu = .int .u64 (v : Int) ∧ vi = .int .i64 ((j : Int) + 1) ∧ Hid (digs 16 u = digs 16 v ++ L ∧ wr.heap[w.heap.size]? = some (.cells (tailB L).toArray 117 (0, 0)) ∧ Below w.heap.size w wr)) (fun vu _ _ => (intOf vu).toNat)
  case atStart => exact ⟨u, 64, [], by simp, by simp; omega, rfl, rfl, rfl, Lib.hid ⟨by simp, by rw [HT.out]; exact H0.out.1, H0.out.2⟩⟩
  case round =>
    obtain ⟨v, j, L, hL, hv, hj, rfl, rfl, HI⟩ := hrel
    obtain ⟨hd, hat, hbel⟩ := HI.out
    have hv16 : v < 65536 := Nat.lt_of_lt_of_le hv (by rw [show (65536 : Nat) = 16 ^ 4 by decide]; exact Nat.pow_le_pow_right (by omega) (by omega))
    have hc : wr.cell? ⟨w.heap.size, j, none⟩ = some (.int .u8 0) := by
      rw [cell_of_row wr _ _ _ _ _ hat, List.getElem?_toArray, hj]
      exact tailB_at (by omega)
    have hf : wr.frozen? ⟨w.heap.size, j, none⟩ = false := by
      unfold World.frozen?
      simp [hat]
    have hjb : (j : Int) < 65 := by omega
    by_cases h16 : 16 ≤ v
    · have hand := and15_all v hv16
      have h36 := fun W => s36_at (show v % 16 < 16 from Nat.mod_lt _ (by omega)) W
      have hstep : digs 16 u = digs 16 (v / 16) ++ (hexc (v % 16) :: L) := by rw [hd, digs_big h16 (by omega), List.append_assoc]; rfl
      have hsetq := tailB_set (L := L) (by omega) (hexc (v % 16))
      rw [← hj] at hsetq
      have hq16 : v % 16 < 16 := Nat.mod_lt _ (by omega)
      obtain ⟨q, hq⟩ : ∃ q, q = v % 16 := ⟨_, rfl⟩
      rw [← hq] at hand h36 hstep hsetq hq16
      have h16i : (16 : Int) ≤ (v : Int) := by omega
      obtain ⟨z, hzz⟩ : ∃ z, z = v / 16 := ⟨_, rfl⟩
      rw [← hzz] at hstep
      have hdv : (v : Int) / 16 = (z : Int) := by omega
      have HS := Lib.hid (And.intro hstep (And.intro hsetq (And.intro hj (And.intro hL (And.intro hv (And.intro hq hzz))))))
      have HB := Lib.hid (And.intro hat hbel)
      clear hd HI hstep hsetq hj hat hbel hq hL hv hzz
      generalize hexc q = x at h36 HS
      go_wp2_with (first
        | ((refine wpList_run (o := ⟨some 53, _, _, _, _, none⟩) rfl (.int .u8 (x.toNat : Int)) wr ?_ ?_); exact exec_index rfl rfl rfl (h36 wr)))
      obtain ⟨hstep, hsetq, hj, hL, hv, hq, hzz⟩ := HS.out
      obtain ⟨hat, hbel⟩ := HB.out
      have h3 : L.length ≤ 2 := by
        rcases Nat.lt_or_ge L.length 3 with h | h
        · omega
        · have h0 : 4 - L.length = 1 := by omega
          rw [h0] at hv
          omega
      have hz3 : z < 16 ^ (4 - (x :: L).length) := by
        rw [show 4 - L.length = (4 - (x :: L).length) + 1 by simp only [List.length_cons]; omega, Nat.pow_succ] at hv
        rw [hzz]
        exact Nat.div_lt_of_lt_mul (by rw [Nat.mul_comm]; exact hv)
      refine ⟨⟨z, 64 - (x :: L).length, x :: L, by simp only [List.length_cons]; omega, hz3, rfl, rfl, by congr 1; simp only [List.length_cons]; omega, Lib.hid ⟨hstep, ?_, hbel.setCell (p := ⟨w.heap.size, j, none⟩) (Nat.le_refl _) _⟩⟩, by simp [intOf]; omega⟩
      rw [heap_setCell_at hat, ← hsetq]
      simp
    · have hlt : v < 16 := by omega
      have h36 := fun W => s36_at hlt W
      have hfin : digs 16 u = hexc v :: L := by rw [hd, digs_small hlt]; rfl
      have hsetq := tailB_set (L := L) (by omega) (hexc v)
      rw [← hj] at hsetq
      have h16i : (v : Int) < 16 := by omega
      have hv0 : (0 : Int) ≤ (v : Int) := by omega
      have hat2 : (wr.setCell ⟨w.heap.size, j, none⟩ (.int .u8 ((hexc v).toNat : Int))).heap[w.heap.size]? = some (.cells (tailB (hexc v :: L)).toArray 117 (0, 0)) := by
        rw [heap_setCell_at hat, ← hsetq]
        simp
      have hbel2 := hbel.setCell (p := ⟨w.heap.size, j, none⟩) (Nat.le_refl _) (.int .u8 ((hexc v).toNat : Int))
      have hll : (hexc v :: L).length = 65 - j := by simp only [List.length_cons]; omega
      have hal : Tryd.prog.arrayLen 117 = 65 := by simp [Program.arrayLen, Tryd.underlying117]
      have hel : Tryd.prog.elem 117 = 5 := by simp [Program.elem, Tryd.underlying117]
      have hsl : ∀ W, (Instr.sliceAt 117 (.pointer (some ⟨w.heap.size, 0, none⟩)) (some (.int .i64 (j : Int))) none none).run Tryd.prog W = .ok (.slice (some ⟨w.heap.size, j, none⟩) (65 - j) (65 - j)) W := fun W => by
        rw [run_sliceAt_array_l W 117 ⟨w.heap.size, 0, none⟩ (by rw [hal, hel]; exact Tryd.underlying117) .i64 (j : Int) (by omega) (by rw [hal]; omega), hel, Tryd.sizeOf5, hal]
        simp only [Result.andThen_ok, slicedAt, Int.toNat_natCast, Nat.mul_one]
        rw [if_neg (by omega)]
        simp [Addr.add]
        try omega
      have hcv : (convert 25 9 (.slice (some ⟨w.heap.size, j, none⟩) (65 - j) (65 - j))).run Tryd.prog (wr.setCell ⟨w.heap.size, j, none⟩ (.int .u8 ((hexc v).toNat : Int))) = .ok (.string ⟨(hexc v :: L).toArray⟩) (wr.setCell ⟨w.heap.size, j, none⟩ (.int .u8 ((hexc v).toNat : Int))) := by
        have h := run_convert_bytes_back (P := Tryd.prog) (wr.setCell ⟨w.heap.size, j, none⟩ (.int .u8 ((hexc v).toNat : Int))) 25 9 5 ⟨w.heap.size, j, none⟩ (65 - j) (hexc v :: L) Tryd.underlying25 Tryd.underlying5 Tryd.underlying9 (fun i hi => by
          rw [Lib.add_plain, cell_of_row _ _ _ _ _ _ hat2, List.getElem?_toArray, tailB, cellsB, List.getElem?_map, List.getElem?_append_right (by rw [List.length_replicate]; omega), List.length_replicate, show j + i - (65 - (hexc v :: L).length) = i by omega, List.getElem?_eq_getElem hi]
          rfl)
        rw [hll] at h
        exact h
      rw [← hfin] at hcv
      generalize hexc v = x at h36 hcv hbel2
      obtain ⟨n, hn⟩ : ∃ n, n = 65 - j := ⟨_, rfl⟩
      rw [← hn] at hsl hcv
      obtain ⟨D, hD⟩ : ∃ D, D = digs 16 u := ⟨_, rfl⟩
      rw [← hD] at hcv
      have HD := Lib.hid hD
      clear hD
      have HB2 := Lib.hid hbel2
      clear hd HI hfin hsetq hj hat hbel hL hv hat2 hll hal hel hbel2 hn
      go_wp2_with (first
        | ((refine wpList_run (o := ⟨some 62, _, _, _, _, none⟩) rfl (.int .u8 (x.toNat : Int)) wr ?_ ?_); exact exec_index rfl rfl rfl (h36 wr)))
      go_ret2
      exact ⟨by rw [← HD.out]; rfl, HB2.out⟩
set_option maxRecDepth 100000 in
theorem fmt16_any (u : Nat) (hu : u ≤ 65535) (w : World) (hV : Vars w) :
    Calls Tryd.prog 43 #[.int .u64 u, .int .i64 16] w fun e w' => e = .returned (.string ⟨(digs 16 u).toArray⟩) ∧ Below w.heap.size w w' := by
  have h := fmtBits16_any u hu w hV
  have H := Lib.hid h
  clear h hV
  have h2 : Calls Tryd.prog 57 #[.int .u64 u, .int .i64 16] w fun e w' => e = .returned (.string ⟨(digs 16 u).toArray⟩) ∧ Below w.heap.size w w' := by
    go_enter Tryd.func57, Tryd.ntmps57
    go_wp2_with (go_at_call 76; refine H.out.mono ?_; rintro e w' ⟨rfl, hb⟩)
    go_ret
    exact ⟨rfl, hb⟩
  have H2 := Lib.hid h2
  clear h2 H
  go_enter Tryd.func43, Tryd.ntmps43
  go_wp2_with (go_at_call 57; refine H2.out.mono ?_; rintro e w' ⟨rfl, hb⟩)
  go_ret
  exact ⟨rfl, hb⟩
/-- A number as a text, to either base. -/
theorem fmt_any {six : Bool} (u : Nat) (hu : u < 256 ^ siz six) (w : World) (hV : Vars w) :
    Calls Tryd.prog 43 #[.int .u64 u, .int .i64 (bas six : Nat)] w fun e w' => e = .returned (.string ⟨(digs (bas six) u).toArray⟩) ∧ Below w.heap.size w w' := by
  cases six
  · exact fmt10_any u (by simp [siz] at hu; omega) w hV
  · exact fmt16_any u (by simp [siz] at hu; omega) w hV
end Go.Proofs.YtepibdjglfaniaaDoor
