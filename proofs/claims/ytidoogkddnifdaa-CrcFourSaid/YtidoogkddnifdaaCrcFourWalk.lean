/-
  The walk of CrcFour.
-/
import Derived.Test.YtidoogkddnifdaaLaw02
import Derived.Test.YtidoogkddnifdaaCrcFourMath
import Derived.StillTailTactics
namespace Go.Proofs.Ytidoogkddnifdaa
open Go.RowKit
theorem Mine.some {w : World} {base : Nat} {e : TypeId} {v : Value} {xs : List Value} (h : Mine w base e v xs) (hp : 0 < xs.length) : ∃ g c, v = .slice (some ⟨g, 0, none⟩) xs.length c ∧ xs.length ≤ c ∧ base ≤ g ∧ g < w.heap.size := by
  have hlt := World.ownsRow.lt h
  rcases h.2 with ⟨rfl, hn⟩ | ⟨g, cap, cur, rfl, hbg, hg, hnc, hcm, hcs, htake⟩
  · omega
  · exact ⟨g, cap, rfl, hnc, hlt g rfl⟩
theorem byte_sum (x y : UInt8) : Value.int .u8 (IntKind.u8.wrap ((x.toNat : Int) + (y.toNat : Int))) = Value.int .u8 ((x + y).toNat : Int) := by
  rw [IntKind.wrap_u8', UInt8.toNat_add]
  simp
theorem bump_cells (m d : List UInt8) (k r : Nat) (x y : UInt8) (h : k + r < m.length) (hx : x = m[k + r]) (hy : y = d.getD r 0) :
    (cellsB (bump m d k r)).set (k + r) (.int .u8 (((x.toNat : Int) + (y.toNat : Int)) % 256)) = cellsB (bump m d k (r + 1)) := by
  rw [← bump_succ m d k r h, ← hx, ← hy]
  unfold cellsB
  rw [List.map_set]
  congr 2
theorem some_yes (d : List UInt8) (r : Nat) (h : someOf d r = true) : Value.bool true = Value.bool (someOf d (r + 1)) := by simp [someOf, h]
theorem some_no (d : List UInt8) (r : Nat) (y : UInt8) (hy : y = d.getD r 0) (h : ¬ someOf d r = true) : Value.bool ((y.toNat : Int) != 0) = Value.bool (someOf d (r + 1)) := by
  rw [someOf, ← hy, Bool.eq_false_iff.2 h, Bool.false_or]
  congr 1
  rw [Bool.eq_iff_iff]
  simp [← UInt8.toNat_inj]
theorem sums_unlike (m d : List UInt8) (k r : Nat) (h : k + r ≤ m.length) (hr : r ≤ 4) (hs : someOf d r = true) : (((crcOf m : Nat) : Int) == ((crcOf (bump m d k r) : Nat) : Int)) = false := by
  rw [beq_eq_false_iff_ne]
  have := bump_unlike m d k r h hr hs
  omega
set_option maxHeartbeats 1000000 in
theorem crcFour_core (v : Value) (l : List UInt8) (n : Nat) (d0 d1 d2 d3 : UInt8) (w : World) (h : Rd w w.heap.size v (cellsB l)) (hn : n ≤ 65535) :
    Calls Try.prog 5 #[v, .int .u16 (n : Int), .agg #[.int .u8 (d0.toNat : Int), .int .u8 (d1.toNat : Int), .int .u8 (d2.toNat : Int), .int .u8 (d3.toNat : Int)]] w fun e w' => e = .returned (.bool true) ∧ Below w.heap.size w w' := by
  obtain ⟨i, hi, hz0, hz1, hz2⟩ := info_parts info_u8
  obtain ⟨A, c, rfl, _, _, h⟩ := h.bytes
  obtain ⟨W, hW⟩ : ∃ W, W = w.alloc (.cells #[.int .u8 (d0.toNat : Int), .int .u8 (d1.toNat : Int), .int .u8 (d2.toNat : Int), .int .u8 (d3.toNat : Int)] 31) := ⟨_, rfl⟩
  have hbel0 : Below w.heap.size w W := hW ▸ (Below.refl _ _).alloc (Nat.le_refl _) _
  obtain ⟨m, hm, hfew⟩ := few_cut 300 _ l W _ (h.below hbel0) hbel0.size (by omega)
  have HW := Lib.hid hW
  have Hfew := Lib.hid hfew
  clear hfew hW
  by_cases hm0 : m.length = 0
  · have hz : ((m.length : Int) == 0) = true := by rw [hm0]; rfl
    clear hm0
    go_enter Try.func5, Try.ntmps5
    go_wp2_with (first
      | (go_at_call 6; rw [← HW.out]; refine Hfew.out.mono ?_; rintro e w1 ⟨A1, c1, rfl, g1, hr1, hbel1⟩)
      | (go_at_call 9; refine (lives02_any _).mono ?_; rintro e w2 ⟨rfl, hbel2⟩))
    go_ret
    exact ⟨rfl, up (up hbel0 hbel1) hbel2⟩
  · have hz : ((m.length : Int) == 0) = false := by rw [beq_eq_false_iff_ne]; omega
    obtain ⟨k, hk⟩ : ∃ k : Nat, k = n % m.length := ⟨_, rfl⟩
    have hkm : k < m.length := by rw [hk]; exact Nat.mod_lt _ (by omega)
    have hk' : (n : Int) % (m.length : Int) = (k : Int) := by rw [hk]; rfl
    have h1 : 1 ≤ m.length := by omega
    clear hm0 hk
    go_enter Try.func5, Try.ntmps5
    go_wp2_with (first
      | (go_at_call 6; rw [← HW.out]; refine Hfew.out.mono ?_; rintro e w1 ⟨A1, c1, rfl, g1, hr1, hbel1⟩)
      | (at_builtin; refine wpList_append_rd rfl _ _ 22 rfl w1.heap.size 5 i _ 1 Try.underlying22 hi hz0 hz1 hz2 rfl _ [] rfl (Mine.empty w1 _ 5 (Nat.le_refl _)) _ _ _ rfl (hr1.alloc (Nat.le_refl _) _) (cellsB_one _) (by rw [cellsB_length]; simp; omega) (by unfold maxLen; rw [cellsB_length]; simp; omega) (by simp) ?_; intro v2 w2 hown2 hbel2 hx1 hx2; clear hx1 hx2; rw [List.nil_append] at hown2))
    have hsz0 : w.heap.size < W.heap.size := by rw [HW.out]; simp
    have hsz1 := hbel1.size
    obtain ⟨g, c2, rfl, hc2, hg1, hg2⟩ := hown2.some (by rw [cellsB_length]; omega)
    rw [cellsB_length] at hc2 hown2 ⊢
    have hb2 : Below w1.heap.size w1 w2 := ((Below.refl _ _).alloc (Nat.le_refl _) _).trans hbel2
    have hby0 : ∀ (j : Nat), j < 4 → w1.cell? ⟨w.heap.size, j, none⟩ = some (.int .u8 (([d0, d1, d2, d3].getD j 0).toNat : Int)) := by
      intro j hj
      refine (hbel1.cell (p := ⟨w.heap.size, j, none⟩) (by simp; omega)).trans ?_
      rw [HW.out, World.cell?_alloc_mark]
      match j, hj with
      | 0, _ => rfl
      | 1, _ => rfl
      | 2, _ => rfl
      | 3, _ => rfl
    obtain ⟨d, hd⟩ : ∃ d, d = [d0, d1, d2, d3] := ⟨_, rfl⟩
    rw [← hd] at hby0
    have Hby0 := Lib.hid hby0
    clear hby0 hbel2 hd
    go_loopw [8, 10] (fun ov iv wr => ∃ r : Nat, r ≤ 4 ∧ k + r ≤ m.length ∧ iv = .int .i64 (r : Int) ∧ ov = .bool (someOf d r) ∧ Mine wr w1.heap.size 5 (.slice (some ⟨g, 0, none⟩) m.length c2) (cellsB (bump m d k r)) ∧ Below w1.heap.size w1 wr) (fun _ i _ => 4 - (intOf i).toNat)
    case atStart => exact ⟨0, by omega, by omega, rfl, rfl, by rw [bump_zero]; exact hown2, hb2⟩
    case round =>
      obtain ⟨r, hr4, hkr, rfl, rfl, hown, hbel⟩ := hrel
      by_cases hgo : r < 4 ∧ k + r < m.length
      · obtain ⟨hlt, hlk⟩ := hgo
        have t1 : decide ((r : Int) < 4) = true := by simp; omega
        have t2 : decide ((k : Int) + (r : Int) < (m.length : Int)) = true := by simp; omega
        obtain ⟨y, hy⟩ : ∃ y, y = d.getD r 0 := ⟨_, rfl⟩
        have hcy := (hbel.cell (p := ⟨w.heap.size, r, none⟩) (by simp; omega)).trans (Hby0.out r hlt)
        obtain ⟨x, hx⟩ : ∃ x, x = m[k + r] := ⟨_, rfl⟩
        have hcx := hown.cellAt (j := k + r) (u := .int .u8 (x.toNat : Int)) (by rw [cellsB_at _ _ (by rw [bump_length]; omega), bump_at m d k r hlk, hx])
        rw [← hy] at hcy
        have hfr := hown.free (k + r)
        have Hx := Lib.hid hx
        have Hy := Lib.hid hy
        clear hx hy
        go_wp2_with fail
        have s1 : IntKind.i64.wrap ((k : Int) + (r : Int)) = (k : Int) + (r : Int) := IntWalk.i64_in _ (by omega)
        have s2 : ((k : Int) + (r : Int)).toNat = k + r := by omega
        have s3 : (0 : Int) ≤ (k : Int) + (r : Int) := by omega
        have s4 : (k : Int) + (r : Int) < (m.length : Int) := by omega
        have s5 : (r : Int) < 4 := by omega
        have s6 : (0 : Int) ≤ (r : Int) := by omega
        have s7 : (r : Int).toNat = r := by omega
        go_still_tail 15, (by kernel_rfl)
        change wpList _ _ _ _ _ wr.drew
        have hcl := bump_cells m d k r x y hlk Hx.out Hy.out
        have hown3 := (hown.stored (k + r) (.int .u8 (((x.toNat : Int) + (y.toNat : Int)) % 256))).drew
        rw [hcl] at hown3
        have hbel3 := (hbel.setCell (p := ⟨g, k + r, none⟩) hg1 (.int .u8 (((x.toNat : Int) + (y.toNat : Int)) % 256))).drew
        clear hcl
        go_wp2_with fail
        all_goals
          go_roundw
          case rel => exact ⟨r + 1, by omega, by omega, by go_num, by first | exact some_yes d r (by assumption) | exact some_no d r y Hy.out (by assumption), hown3, hbel3⟩
          case measure => simp [intOf]; omega
      · have hex : decide ((r : Int) < 4) = false ∨ (decide ((r : Int) < 4) = true ∧ decide ((k : Int) + (r : Int) < (m.length : Int)) = false) := by simp; omega
        obtain ⟨q, hq⟩ : ∃ q, q = bump m d k r := ⟨_, rfl⟩
        have hql : q.length = m.length := by rw [hq, bump_length]
        have hrb := hown.rd
        rw [← hq, ← hql] at hrb
        have hrm := (hr1.below hbel).more hbel.size
        have hu := sums_unlike m d k r hkr hr4
        have he := bump_same m d k r
        rw [← hq] at hu he
        have hql' := Lib.hid hql
        have H1 := Lib.hid (crcSum_any _ _ m wr _ hrm (Nat.le_refl _))
        have H2 := fun (w' : World) (hb : Below wr.heap.size wr w') => crcSum_any _ _ q w' _ ((hrb.below hb).more hb.size) (Nat.le_refl _)
        rw [hql] at H2
        have H2 := Lib.hid H2
        clear hq hql hgo hown hrb hrm
        rcases hsome : someOf d r with _ | _
        · have hqm := he hsome
          subst hqm
          clear hu he
          have hz2 : (((crcOf q : Nat) : Int) == ((crcOf q : Nat) : Int)) = true := by simp
          rcases hex with t1 | ⟨t1, t2⟩
          all_goals
            go_wp2_with (first
              | (go_at_call 7; refine H1.out.mono ?_; rintro e w3 ⟨rfl, hbel3⟩)
              | (go_at_call 7; refine (H2.out _ hbel3).mono ?_; rintro e w4 ⟨rfl, hbel4⟩)
              | (go_at_call 9; refine (lives02_any _).mono ?_; rintro e w5 ⟨rfl, hbel5⟩))
            go_ret
            exact ⟨rfl, up (up (up (up (up hbel0 hbel1) hbel) hbel3) hbel4) hbel5⟩
        · have hu := hu hsome
          clear he
          have hu2 : (((crcOf m : Nat) : Int) != ((crcOf q : Nat) : Int)) = true := by simp only [bne, hu]; rfl
          rcases hex with t1 | ⟨t1, t2⟩
          all_goals
            go_wp2_with (first
              | (go_at_call 7; refine H1.out.mono ?_; rintro e w3 ⟨rfl, hbel3⟩)
              | (go_at_call 7; refine (H2.out _ hbel3).mono ?_; rintro e w4 ⟨rfl, hbel4⟩)
              | (go_at_call 9; refine (lives02_any _).mono ?_; rintro e w5 ⟨rfl, hbel5⟩))
            go_ret
            exact ⟨rfl, up (up (up (up (up hbel0 hbel1) hbel) hbel3) hbel4) hbel5⟩
theorem list4 {α : Type} : ∀ l : List α, l.length = 4 → ∃ a b c d, l = [a, b, c, d]
  | [a, b, c, d], _ => ⟨a, b, c, d, rfl⟩
theorem crcFour_walk (v : Value) (l : List UInt8) (a : Int) (ds : List UInt8) (w : World) (h : Rd w w.heap.size v (cellsB l)) (wa : (Lit.int .u16 a).wf = true) (hd : ds.length = 4) :
    Calls Try.prog 5 #[v, .int .u16 a, .agg (cellsB ds).toArray] w fun e w' => e = .returned (.bool true) ∧ Below w.heap.size w w' := by
  have hb : 0 ≤ a ∧ a ≤ 65535 := by simpa [Lit.wf, IntKind.min, IntKind.max, IntKind.bits, IntKind.signed] using wa
  obtain ⟨n, rfl⟩ := Int.eq_ofNat_of_zero_le hb.1
  obtain ⟨d0, d1, d2, d3, rfl⟩ := list4 ds hd
  exact crcFour_core v l n d0 d1 d2 d3 w h (by omega)
end Go.Proofs.Ytidoogkddnifdaa
