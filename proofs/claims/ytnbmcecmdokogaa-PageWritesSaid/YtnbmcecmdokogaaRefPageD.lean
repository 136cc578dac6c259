/-
  The document's own Decode of a page, by contracts.
-/
import Derived.Test.YtnbmcecmdokogaaRefPage
import Derived.Test.YtnbmcecmdokogaaPageDec
namespace Go.Proofs.Ytnbmcecmdokogaa
open Go.RowKit
theorem fieldAt_one (l : List UInt8) (a : Nat) (h : a < l.length) : fieldAt l a 1 = l[a].toNat := by
  unfold fieldAt
  rw [List.drop_eq_getElem_cons h, List.take_succ_cons, List.take_zero]
  simp [ofBe]
theorem front_iff (l : List UInt8) (h : 4 ≤ l.length) : l.take 4 = [83, 84, 78, 67] ↔ l[0].toNat = 83 ∧ l[1].toNat = 84 ∧ l[2].toNat = 78 ∧ l[3].toNat = 67 := by
  match l, h with
  | a :: b :: c :: d :: r, _ => simp [← UInt8.toNat_inj]
theorem cell_set3 {q : Addr} {N : Nat} {v : Value} (w : World) (u0 u1 u2 : Value) (h : q.block < N) (hc : w.cell? q = some v) : (((w.setCell ⟨N, 0, none⟩ u0).setCell ⟨N, 1, none⟩ u1).setCell ⟨N, 2, none⟩ u2).cell? q = some v := by
  rw [World.cell?_setCell_other _ _ _ _ (fun e => by subst e; exact Nat.lt_irrefl _ h), World.cell?_setCell_other _ _ _ _ (fun e => by subst e; exact Nat.lt_irrefl _ h), World.cell?_setCell_other _ _ _ _ (fun e => by subst e; exact Nat.lt_irrefl _ h)]
  exact hc
theorem fieldAt_two (l : List UInt8) (a : Nat) : fieldAt l a 2 < 65536 := by
  have h := ofBe_lt ((l.drop a).take 2) 0 0 (by simp)
  have h2 : ((l.drop a).take 2).length ≤ 2 := by simp; omega
  exact Nat.lt_of_lt_of_le h (by rw [Nat.zero_add]; exact Nat.pow_le_pow_right (by omega) h2)
theorem refGet_fld (A : Option Addr) (c : Nat) (l : List UInt8) (a s : Nat) (w : World) (B : Nat) (hr : Rd w B (.slice A l.length c) (cellsB l)) (h1 : 1 ≤ s) (h2 : s ≤ 8) (h3 : a + s ≤ l.length) :
    Calls Try.prog 24 #[.slice A l.length c, .int .i64 (a : Int), .int .i64 (s : Int)] w fun e w' => e = .returned (.int .u64 (fieldAt l a s : Nat)) ∧ w = w' := refGet_any A c l a s w B hr h1 h2 h3
theorem tail_all (l : List UInt8) (h : ∀ (k : Nat) (hk : k < l.length), 24 + fieldAt l 6 2 ≤ k → l[k] = 0) : pgTail l = true := by
  unfold pgTail
  rw [List.all_eq_true]
  intro x hx
  obtain ⟨i, hi, rfl⟩ := List.mem_iff_getElem.1 hx
  rw [List.getElem_drop, h _ _ (by omega)]; rfl
theorem tail_not (l : List UInt8) (k : Nat) (hk : k < l.length) (h1 : 24 + fieldAt l 6 2 ≤ k) (h : l[k] ≠ 0) : pgTail l = false := by
  rw [Bool.eq_false_iff]
  intro ht
  unfold pgTail at ht
  rw [List.all_eq_true] at ht
  have hm : l[k] ∈ l.drop (24 + fieldAt l 6 2) := by
    rw [List.mem_iff_getElem]
    refine ⟨k - (24 + fieldAt l 6 2), by simp; omega, ?_⟩
    rw [List.getElem_drop]
    congr 1
    omega
  exact h (by simpa using ht _ hm)
theorem zero_more {l : List UInt8} {a j : Nat} (h : ∀ (k : Nat) (hk : k < l.length), a ≤ k → k < j → l[k] = 0) (hj : j < l.length) (hz : l[j] = 0) : ∀ (k : Nat) (hk : k < l.length), a ≤ k → k < j + 1 → l[k] = 0 := by
  intro k hk h1 h2
  by_cases e : k = j
  · subst e; exact hz
  · exact h k hk h1 (by omega)
/-- The world behind Decode's two empty pages made. -/
abbrev refW (w : World) : World := (w.alloc (.cells #[.int .i64 0, .int .u64 0, .slice none 0 0] 25)).alloc (.cells #[.int .i64 0, .int .u64 0, .slice none 0 0] 25)
theorem refW_below (w : World) : Below w.heap.size w (refW w) := ((Below.refl _ _).alloc (Nat.le_refl _) _).alloc (by simp) _
/-- The two empty pages, as made, in a later world. -/
theorem refW_later {w w' : World} (hb : Below (w.heap.size + 2) (refW w) w') :
    (w'.cell? ⟨w.heap.size, 0, none⟩ = some (.int .i64 0) ∧ w'.cell? ⟨w.heap.size, 1, none⟩ = some (.int .u64 0) ∧ w'.cell? ⟨w.heap.size, 2, none⟩ = some (.slice none 0 0)) ∧
    (w'.cell? ⟨w.heap.size + 1, 0, none⟩ = some (.int .i64 0) ∧ w'.cell? ⟨w.heap.size + 1, 1, none⟩ = some (.int .u64 0) ∧ w'.cell? ⟨w.heap.size + 1, 2, none⟩ = some (.slice none 0 0)) ∧
    w'.frozen? ⟨w.heap.size, 0, none⟩ = false ∧ w'.frozen? ⟨w.heap.size, 1, none⟩ = false ∧ w'.frozen? ⟨w.heap.size, 2, none⟩ = false := by
  obtain ⟨a0, a1, a2, f0, f1, f2⟩ := pgW_later (w := w) (w' := refW w) ((Below.refl _ _).alloc (by simp) _)
  have hW : (pgW w).heap.size = w.heap.size + 1 := by simp
  refine ⟨⟨(hb.cell (p := ⟨w.heap.size, 0, none⟩) (by simp)).trans a0, (hb.cell (p := ⟨w.heap.size, 1, none⟩) (by simp)).trans a1, (hb.cell (p := ⟨w.heap.size, 2, none⟩) (by simp)).trans a2⟩,
    ⟨(hb.cell (p := ⟨w.heap.size + 1, 0, none⟩) (by simp)).trans ?_, (hb.cell (p := ⟨w.heap.size + 1, 1, none⟩) (by simp)).trans ?_, (hb.cell (p := ⟨w.heap.size + 1, 2, none⟩) (by simp)).trans ?_⟩,
    (hb.frozen (p := ⟨w.heap.size, 0, none⟩) (by simp)).trans f0, (hb.frozen (p := ⟨w.heap.size, 1, none⟩) (by simp)).trans f1, (hb.frozen (p := ⟨w.heap.size, 2, none⟩) (by simp)).trans f2⟩
  · rw [← hW, World.cell?_alloc_mark]; rfl
  · rw [← hW, World.cell?_alloc_mark]; rfl
  · rw [← hW, World.cell?_alloc_mark]; rfl
theorem bel3 {w w1 : World} (h : Below w.heap.size w w1) (a b c : Value) : Below w.heap.size w (((w1.setCell ⟨w.heap.size, 0, none⟩ a).setCell ⟨w.heap.size, 1, none⟩ b).setCell ⟨w.heap.size, 2, none⟩ c) :=
  ((h.setCell (Nat.le_refl _) _).setCell (Nat.le_refl _) _).setCell (Nat.le_refl _) _
set_option maxHeartbeats 1000000 in
theorem refDec_short (no : Int) (A : Option Addr) (n c : Nat) (w : World) (hn : n ≠ 256) :
    Calls Try.prog 14 #[.int .i64 no, .slice A n c] w fun e w' => e = .returned (.tuple #[pgZero, .int .i64 9]) ∧ Below w.heap.size w w' := by
  have hb : ((n : Int) != 256) = true := by rw [bne_iff_ne]; omega
  clear hn
  go_enter Try.func14, Try.ntmps14
  go_wp2_with fail
  exact bodyPost_ret (v := .tuple #[pgZero, .int .i64 9]) (by simp [results, Try.results14, go_sem]) rfl ⟨rfl, refW_below w⟩
set_option maxHeartbeats 1000000 in
theorem refDec_front (no : Int) (A : Option Addr) (c : Nat) (l : List UInt8) (w : World) (B : Nat) (hr : Rd w B (.slice A l.length c) (cellsB l)) (hB : B ≤ w.heap.size) (hl : l.length = 256) (hfront : l.take 4 ≠ [83, 84, 78, 67]) :
    Calls Try.prog 14 #[.int .i64 no, .slice A l.length c] w fun e w' => e = .returned (.tuple #[pgZero, .int .i64 4]) ∧ Below w.heap.size w w' := by
  obtain ⟨_, _, e, g1, g2, _⟩ := hr.bytes
  injection e with e1 e2 e3
  subst e3
  clear e1 e2
  have hb : ((l.length : Int) != 256) = false := by rw [hl]; rfl
  have hl6 : 256 ≤ l.length := by omega
  have hrW : Rd (refW w) w.heap.size (.slice A l.length c) (cellsB l) := (hr.below ((refW_below w).mono hB)).more hB
  obtain ⟨b, o, rfl, hbl, hc⟩ := hrW.addr (by omega)
  have k0 := hc 0 (by omega)
  have k1 := hc 1 (by omega)
  have k2 := hc 2 (by omega)
  have k3 := hc 3 (by omega)
  have k4 := hc 4 (by omega)
  rw [Nat.add_zero] at k0
  rw [ne_eq, front_iff l (by omega)] at hfront
  obtain ⟨x0, hx0⟩ : ∃ x, x = l[0] := ⟨_, rfl⟩
  obtain ⟨x1, hx1⟩ : ∃ x, x = l[1] := ⟨_, rfl⟩
  obtain ⟨x2, hx2⟩ : ∃ x, x = l[2] := ⟨_, rfl⟩
  obtain ⟨x3, hx3⟩ : ∃ x, x = l[3] := ⟨_, rfl⟩
  obtain ⟨x4, hx4⟩ : ∃ x, x = l[4] := ⟨_, rfl⟩
  rw [← hx0] at k0
  rw [← hx1] at k1
  rw [← hx2] at k2
  rw [← hx3] at k3
  rw [← hx4] at k4
  rw [← hx0, ← hx1, ← hx2, ← hx3] at hfront
  clear hx0 hx1 hx2 hx3 hx4 hl hr hrW hc
  by_cases h0 : x0.toNat = 83
  · by_cases h1 : x1.toNat = 84
    · by_cases h2 : x2.toNat = 78
      · have h3 : ¬ x3.toNat = 67 := fun e => hfront ⟨h0, h1, h2, e⟩
        have t0 : ((x0.toNat : Int) != 83) = false := by rw [h0]; rfl
        have t1 : ((x1.toNat : Int) != 84) = false := by rw [h1]; rfl
        have t2 : ((x2.toNat : Int) != 78) = false := by rw [h2]; rfl
        have t3 : ((x3.toNat : Int) != 67) = true := by rw [bne_iff_ne]; omega
        clear hfront
        go_enter Try.func14, Try.ntmps14
        go_wp2_with fail
        exact bodyPost_ret (v := .tuple #[pgZero, .int .i64 4]) (by simp [results, Try.results14, go_sem]) rfl ⟨rfl, refW_below w⟩
      · have t0 : ((x0.toNat : Int) != 83) = false := by rw [h0]; rfl
        have t1 : ((x1.toNat : Int) != 84) = false := by rw [h1]; rfl
        have t2 : ((x2.toNat : Int) != 78) = true := by rw [bne_iff_ne]; omega
        clear hfront
        go_enter Try.func14, Try.ntmps14
        go_wp2_with fail
        exact bodyPost_ret (v := .tuple #[pgZero, .int .i64 4]) (by simp [results, Try.results14, go_sem]) rfl ⟨rfl, refW_below w⟩
    · have t0 : ((x0.toNat : Int) != 83) = false := by rw [h0]; rfl
      have t1 : ((x1.toNat : Int) != 84) = true := by rw [bne_iff_ne]; omega
      clear hfront
      go_enter Try.func14, Try.ntmps14
      go_wp2_with fail
      exact bodyPost_ret (v := .tuple #[pgZero, .int .i64 4]) (by simp [results, Try.results14, go_sem]) rfl ⟨rfl, refW_below w⟩
  · have t0 : ((x0.toNat : Int) != 83) = true := by rw [bne_iff_ne]; omega
    clear hfront
    go_enter Try.func14, Try.ntmps14
    go_wp2_with fail
    exact bodyPost_ret (v := .tuple #[pgZero, .int .i64 4]) (by simp [results, Try.results14, go_sem]) rfl ⟨rfl, refW_below w⟩
set_option maxHeartbeats 1000000 in
theorem refDec_version (no : Int) (A : Option Addr) (c : Nat) (l : List UInt8) (w : World) (B : Nat) (hr : Rd w B (.slice A l.length c) (cellsB l)) (hB : B ≤ w.heap.size) (hl : l.length = 256) (hfront : l.take 4 = [83, 84, 78, 67]) (hv : fieldAt l 4 1 ≠ 1) :
    Calls Try.prog 14 #[.int .i64 no, .slice A l.length c] w fun e w' => e = .returned (.tuple #[pgZero, .int .i64 12]) ∧ Below w.heap.size w w' := by
  obtain ⟨_, _, e, g1, g2, _⟩ := hr.bytes
  injection e with e1 e2 e3
  subst e3
  clear e1 e2
  have hb : ((l.length : Int) != 256) = false := by rw [hl]; rfl
  have hl6 : 256 ≤ l.length := by omega
  have hrW : Rd (refW w) w.heap.size (.slice A l.length c) (cellsB l) := (hr.below ((refW_below w).mono hB)).more hB
  obtain ⟨b, o, rfl, hbl, hc⟩ := hrW.addr (by omega)
  have k0 := hc 0 (by omega)
  have k1 := hc 1 (by omega)
  have k2 := hc 2 (by omega)
  have k3 := hc 3 (by omega)
  have k4 := hc 4 (by omega)
  rw [Nat.add_zero] at k0
  have hv0 := fieldAt_one l 4 (by omega)
  rw [front_iff l (by omega)] at hfront
  obtain ⟨x0, hx0⟩ : ∃ x, x = l[0] := ⟨_, rfl⟩
  obtain ⟨x1, hx1⟩ : ∃ x, x = l[1] := ⟨_, rfl⟩
  obtain ⟨x2, hx2⟩ : ∃ x, x = l[2] := ⟨_, rfl⟩
  obtain ⟨x3, hx3⟩ : ∃ x, x = l[3] := ⟨_, rfl⟩
  obtain ⟨x4, hx4⟩ : ∃ x, x = l[4] := ⟨_, rfl⟩
  rw [← hx0] at k0
  rw [← hx1] at k1
  rw [← hx2] at k2
  rw [← hx3] at k3
  rw [← hx4] at k4
  rw [← hx0, ← hx1, ← hx2, ← hx3] at hfront
  rw [← hx4] at hv0
  obtain ⟨h0, h1, h2, h3⟩ := hfront
  have t0 : ((x0.toNat : Int) != 83) = false := by rw [h0]; rfl
  have t1 : ((x1.toNat : Int) != 84) = false := by rw [h1]; rfl
  have t2 : ((x2.toNat : Int) != 78) = false := by rw [h2]; rfl
  have t3 : ((x3.toNat : Int) != 67) = false := by rw [h3]; rfl
  have t4 : ((x4.toNat : Int) != 1) = true := by rw [bne_iff_ne]; omega
  clear hv hv0
  clear hx0 hx1 hx2 hx3 hx4 hl h0 h1 h2 h3 hr hc
  go_enter Try.func14, Try.ntmps14
  go_wp2_with fail
  exact bodyPost_ret (v := .tuple #[pgZero, .int .i64 12]) (by simp [results, Try.results14, go_sem]) rfl ⟨rfl, refW_below w⟩
set_option maxHeartbeats 1000000 in
theorem refDec_sum (no : Int) (A : Option Addr) (c : Nat) (l : List UInt8) (w : World) (B : Nat) (hr : Rd w B (.slice A l.length c) (cellsB l)) (hB : B ≤ w.heap.size) (hl : l.length = 256) (hfront : l.take 4 = [83, 84, 78, 67]) (hv : fieldAt l 4 1 = 1) (hsum : fieldAt l 20 4 ≠ pgSum l) :
    Calls Try.prog 14 #[.int .i64 no, .slice A l.length c] w fun e w' => e = .returned (.tuple #[pgZero, .int .i64 5]) ∧ Below w.heap.size w w' := by
  obtain ⟨_, _, e, g1, g2, _⟩ := hr.bytes
  injection e with e1 e2 e3
  subst e3
  clear e1 e2
  have hb : ((l.length : Int) != 256) = false := by rw [hl]; rfl
  have hl6 : 256 ≤ l.length := by omega
  have hrW : Rd (refW w) w.heap.size (.slice A l.length c) (cellsB l) := (hr.below ((refW_below w).mono hB)).more hB
  obtain ⟨b, o, rfl, hbl, hc⟩ := hrW.addr (by omega)
  have k0 := hc 0 (by omega)
  have k1 := hc 1 (by omega)
  have k2 := hc 2 (by omega)
  have k3 := hc 3 (by omega)
  have k4 := hc 4 (by omega)
  rw [Nat.add_zero] at k0
  have hv0 := fieldAt_one l 4 (by omega)
  rw [front_iff l (by omega)] at hfront
  obtain ⟨x0, hx0⟩ : ∃ x, x = l[0] := ⟨_, rfl⟩
  obtain ⟨x1, hx1⟩ : ∃ x, x = l[1] := ⟨_, rfl⟩
  obtain ⟨x2, hx2⟩ : ∃ x, x = l[2] := ⟨_, rfl⟩
  obtain ⟨x3, hx3⟩ : ∃ x, x = l[3] := ⟨_, rfl⟩
  obtain ⟨x4, hx4⟩ : ∃ x, x = l[4] := ⟨_, rfl⟩
  rw [← hx0] at k0
  rw [← hx1] at k1
  rw [← hx2] at k2
  rw [← hx3] at k3
  rw [← hx4] at k4
  rw [← hx0, ← hx1, ← hx2, ← hx3] at hfront
  rw [← hx4] at hv0
  obtain ⟨h0, h1, h2, h3⟩ := hfront
  have t0 : ((x0.toNat : Int) != 83) = false := by rw [h0]; rfl
  have t1 : ((x1.toNat : Int) != 84) = false := by rw [h1]; rfl
  have t2 : ((x2.toNat : Int) != 78) = false := by rw [h2]; rfl
  have t3 : ((x3.toNat : Int) != 67) = false := by rw [h3]; rfl
  have t4 : ((x4.toNat : Int) != 1) = false := by rw [← hv0, hv]; rfl
  have Hl := Lib.hid hl
  have hps : pgSum l < 4294967296 := crcOf_lt (l.take 20 ++ l.drop 24)
  have wv : IntKind.u64.wrap ((pgSum l : Nat) : Int) = ((pgSum l : Nat) : Int) := IntWalk.u64_in _ (by omega)
  clear hv hv0 hps
  have hs2 : (((fieldAt l 20 4 : Nat) : Int) != ((pgSum l : Nat) : Int)) = true := by rw [bne_iff_ne]; omega
  clear hsum
  clear hx0 hx1 hx2 hx3 hx4 hl h0 h1 h2 h3 hr hc
  go_enter Try.func14, Try.ntmps14
  go_wp2_with fail
  refine (refGet_fld _ c l 20 4 _ _ hrW (by omega) (by omega) (by omega)).mono ?_
  rintro e w' ⟨rfl, rfl⟩
  go_wp2_with fail
  refine (refPgSum_any _ c l _ _ hrW (by simp; omega) Hl.out).mono ?_
  rintro e w1 ⟨rfl, hb1⟩
  have hB1 : Below (w.heap.size + 2) (refW w) w1 := by simpa using hb1
  have hW1 : Below w.heap.size w w1 := (refW_below w).trans (hB1.mono (by omega))
  have hr1 : Rd w1 w.heap.size (.slice (some ⟨b, o, none⟩) l.length c) (cellsB l) := hrW.below (hB1.mono (by omega))
  obtain ⟨⟨q0, q1, q2⟩, ⟨p0, p1, p2⟩, f0, f1, f2⟩ := refW_later hB1
  go_wp2_with fail
  exact bodyPost_ret (v := .tuple #[pgZero, .int .i64 5]) (by simp [results, Try.results14, go_sem, q0, q1, q2]) rfl ⟨rfl, bel3 hW1 _ _ _⟩
set_option maxHeartbeats 1000000 in
theorem refDec_form1 (no : Int) (A : Option Addr) (c : Nat) (l : List UInt8) (w : World) (B : Nat) (hr : Rd w B (.slice A l.length c) (cellsB l)) (hB : B ≤ w.heap.size) (hl : l.length = 256) (hfront : l.take 4 = [83, 84, 78, 67]) (hv : fieldAt l 4 1 = 1) (hsum : fieldAt l 20 4 = pgSum l) (hk : fieldAt l 5 1 < 1) :
    Calls Try.prog 14 #[.int .i64 no, .slice A l.length c] w fun e w' => e = .returned (.tuple #[pgZero, .int .i64 4]) ∧ Below w.heap.size w w' := by
  obtain ⟨_, _, e, g1, g2, _⟩ := hr.bytes
  injection e with e1 e2 e3
  subst e3
  clear e1 e2
  have hb : ((l.length : Int) != 256) = false := by rw [hl]; rfl
  have hl6 : 256 ≤ l.length := by omega
  have hrW : Rd (refW w) w.heap.size (.slice A l.length c) (cellsB l) := (hr.below ((refW_below w).mono hB)).more hB
  obtain ⟨b, o, rfl, hbl, hc⟩ := hrW.addr (by omega)
  have k0 := hc 0 (by omega)
  have k1 := hc 1 (by omega)
  have k2 := hc 2 (by omega)
  have k3 := hc 3 (by omega)
  have k4 := hc 4 (by omega)
  rw [Nat.add_zero] at k0
  have hv0 := fieldAt_one l 4 (by omega)
  rw [front_iff l (by omega)] at hfront
  obtain ⟨x0, hx0⟩ : ∃ x, x = l[0] := ⟨_, rfl⟩
  obtain ⟨x1, hx1⟩ : ∃ x, x = l[1] := ⟨_, rfl⟩
  obtain ⟨x2, hx2⟩ : ∃ x, x = l[2] := ⟨_, rfl⟩
  obtain ⟨x3, hx3⟩ : ∃ x, x = l[3] := ⟨_, rfl⟩
  obtain ⟨x4, hx4⟩ : ∃ x, x = l[4] := ⟨_, rfl⟩
  rw [← hx0] at k0
  rw [← hx1] at k1
  rw [← hx2] at k2
  rw [← hx3] at k3
  rw [← hx4] at k4
  rw [← hx0, ← hx1, ← hx2, ← hx3] at hfront
  rw [← hx4] at hv0
  obtain ⟨h0, h1, h2, h3⟩ := hfront
  have hf5 := fieldAt_one l 5 (by omega)
  have k5 := hc 5 (by omega)
  obtain ⟨x5, hx5⟩ : ∃ x, x = l[5] := ⟨_, rfl⟩
  rw [← hx5] at k5 hf5
  have t0 : ((x0.toNat : Int) != 83) = false := by rw [h0]; rfl
  have t1 : ((x1.toNat : Int) != 84) = false := by rw [h1]; rfl
  have t2 : ((x2.toNat : Int) != 78) = false := by rw [h2]; rfl
  have t3 : ((x3.toNat : Int) != 67) = false := by rw [h3]; rfl
  have t4 : ((x4.toNat : Int) != 1) = false := by rw [← hv0, hv]; rfl
  have Hl := Lib.hid hl
  have hps : pgSum l < 4294967296 := crcOf_lt (l.take 20 ++ l.drop 24)
  have wv : IntKind.u64.wrap ((pgSum l : Nat) : Int) = ((pgSum l : Nat) : Int) := IntWalk.u64_in _ (by omega)
  clear hv hv0 hps
  have hs2 : (((fieldAt l 20 4 : Nat) : Int) != ((pgSum l : Nat) : Int)) = false := by rw [hsum]; simp
  have hn6 := fieldAt_two l 6
  have G6 := fun (W : World) (h : Rd W w.heap.size (.slice (some ⟨b, o, none⟩) l.length c) (cellsB l)) => refGet_fld (some ⟨b, o, none⟩) c l 6 2 W _ h (by omega) (by omega) (by omega)
  obtain ⟨n, hn⟩ : ∃ n, n = fieldAt l 6 2 := ⟨_, rfl⟩
  rw [← hn] at G6 hn6
  have wn : IntKind.i64.wrap (n : Int) = (n : Int) := IntWalk.i64_in _ (by omega)
  have HG6 := Lib.hid G6
  have Hc := Lib.hid hc
  have Hn := Lib.hid hn
  clear hsum G6 hn6
  have d1 : decide ((x5.toNat : Int) < 1) = true := by simp; omega
  clear hk hf5
  clear hx0 hx1 hx2 hx3 hx4 hx5 hl h0 h1 h2 h3 hr hc hn
  go_enter Try.func14, Try.ntmps14
  go_wp2_with fail
  refine (refGet_fld _ c l 20 4 _ _ hrW (by omega) (by omega) (by omega)).mono ?_
  rintro e w' ⟨rfl, rfl⟩
  go_wp2_with fail
  refine (refPgSum_any _ c l _ _ hrW (by simp; omega) Hl.out).mono ?_
  rintro e w1 ⟨rfl, hb1⟩
  have hB1 : Below (w.heap.size + 2) (refW w) w1 := by simpa using hb1
  have hW1 : Below w.heap.size w w1 := (refW_below w).trans (hB1.mono (by omega))
  have hr1 : Rd w1 w.heap.size (.slice (some ⟨b, o, none⟩) l.length c) (cellsB l) := hrW.below (hB1.mono (by omega))
  obtain ⟨⟨q0, q1, q2⟩, ⟨p0, p1, p2⟩, f0, f1, f2⟩ := refW_later hB1
  clear k0 k1 k2 k3 k4
  go_wp2_with fail
  clear wv
  refine (HG6.out _ hr1).mono ?_
  rintro e w' ⟨rfl, rfl⟩
  have k5' := (hB1.cell (p := ⟨b, o + 5, none⟩) (by show b < _; omega)).trans k5
  go_wp2_with fail
  exact bodyPost_ret (v := .tuple #[pgZero, .int .i64 4]) (by simp [results, Try.results14, go_sem, q0, q1, q2]) rfl ⟨rfl, bel3 hW1 _ _ _⟩
set_option maxHeartbeats 1000000 in
theorem refDec_form2 (no : Int) (A : Option Addr) (c : Nat) (l : List UInt8) (w : World) (B : Nat) (hr : Rd w B (.slice A l.length c) (cellsB l)) (hB : B ≤ w.heap.size) (hl : l.length = 256) (hfront : l.take 4 = [83, 84, 78, 67]) (hv : fieldAt l 4 1 = 1) (hsum : fieldAt l 20 4 = pgSum l) (hk : 4 < fieldAt l 5 1) :
    Calls Try.prog 14 #[.int .i64 no, .slice A l.length c] w fun e w' => e = .returned (.tuple #[pgZero, .int .i64 4]) ∧ Below w.heap.size w w' := by
  obtain ⟨_, _, e, g1, g2, _⟩ := hr.bytes
  injection e with e1 e2 e3
  subst e3
  clear e1 e2
  have hb : ((l.length : Int) != 256) = false := by rw [hl]; rfl
  have hl6 : 256 ≤ l.length := by omega
  have hrW : Rd (refW w) w.heap.size (.slice A l.length c) (cellsB l) := (hr.below ((refW_below w).mono hB)).more hB
  obtain ⟨b, o, rfl, hbl, hc⟩ := hrW.addr (by omega)
  have k0 := hc 0 (by omega)
  have k1 := hc 1 (by omega)
  have k2 := hc 2 (by omega)
  have k3 := hc 3 (by omega)
  have k4 := hc 4 (by omega)
  rw [Nat.add_zero] at k0
  have hv0 := fieldAt_one l 4 (by omega)
  rw [front_iff l (by omega)] at hfront
  obtain ⟨x0, hx0⟩ : ∃ x, x = l[0] := ⟨_, rfl⟩
  obtain ⟨x1, hx1⟩ : ∃ x, x = l[1] := ⟨_, rfl⟩
  obtain ⟨x2, hx2⟩ : ∃ x, x = l[2] := ⟨_, rfl⟩
  obtain ⟨x3, hx3⟩ : ∃ x, x = l[3] := ⟨_, rfl⟩
  obtain ⟨x4, hx4⟩ : ∃ x, x = l[4] := ⟨_, rfl⟩
  rw [← hx0] at k0
  rw [← hx1] at k1
  rw [← hx2] at k2
  rw [← hx3] at k3
  rw [← hx4] at k4
  rw [← hx0, ← hx1, ← hx2, ← hx3] at hfront
  rw [← hx4] at hv0
  obtain ⟨h0, h1, h2, h3⟩ := hfront
  have hf5 := fieldAt_one l 5 (by omega)
  have k5 := hc 5 (by omega)
  obtain ⟨x5, hx5⟩ : ∃ x, x = l[5] := ⟨_, rfl⟩
  rw [← hx5] at k5 hf5
  have t0 : ((x0.toNat : Int) != 83) = false := by rw [h0]; rfl
  have t1 : ((x1.toNat : Int) != 84) = false := by rw [h1]; rfl
  have t2 : ((x2.toNat : Int) != 78) = false := by rw [h2]; rfl
  have t3 : ((x3.toNat : Int) != 67) = false := by rw [h3]; rfl
  have t4 : ((x4.toNat : Int) != 1) = false := by rw [← hv0, hv]; rfl
  have Hl := Lib.hid hl
  have hps : pgSum l < 4294967296 := crcOf_lt (l.take 20 ++ l.drop 24)
  have wv : IntKind.u64.wrap ((pgSum l : Nat) : Int) = ((pgSum l : Nat) : Int) := IntWalk.u64_in _ (by omega)
  clear hv hv0 hps
  have hs2 : (((fieldAt l 20 4 : Nat) : Int) != ((pgSum l : Nat) : Int)) = false := by rw [hsum]; simp
  have hn6 := fieldAt_two l 6
  have G6 := fun (W : World) (h : Rd W w.heap.size (.slice (some ⟨b, o, none⟩) l.length c) (cellsB l)) => refGet_fld (some ⟨b, o, none⟩) c l 6 2 W _ h (by omega) (by omega) (by omega)
  obtain ⟨n, hn⟩ : ∃ n, n = fieldAt l 6 2 := ⟨_, rfl⟩
  rw [← hn] at G6 hn6
  have wn : IntKind.i64.wrap (n : Int) = (n : Int) := IntWalk.i64_in _ (by omega)
  have HG6 := Lib.hid G6
  have Hc := Lib.hid hc
  have Hn := Lib.hid hn
  clear hsum G6 hn6
  have d1 : decide ((x5.toNat : Int) < 1) = false := by simp; omega
  have d2 : decide (4 < (x5.toNat : Int)) = true := by simp; omega
  clear hk hf5
  clear hx0 hx1 hx2 hx3 hx4 hx5 hl h0 h1 h2 h3 hr hc hn
  go_enter Try.func14, Try.ntmps14
  go_wp2_with fail
  refine (refGet_fld _ c l 20 4 _ _ hrW (by omega) (by omega) (by omega)).mono ?_
  rintro e w' ⟨rfl, rfl⟩
  go_wp2_with fail
  refine (refPgSum_any _ c l _ _ hrW (by simp; omega) Hl.out).mono ?_
  rintro e w1 ⟨rfl, hb1⟩
  have hB1 : Below (w.heap.size + 2) (refW w) w1 := by simpa using hb1
  have hW1 : Below w.heap.size w w1 := (refW_below w).trans (hB1.mono (by omega))
  have hr1 : Rd w1 w.heap.size (.slice (some ⟨b, o, none⟩) l.length c) (cellsB l) := hrW.below (hB1.mono (by omega))
  obtain ⟨⟨q0, q1, q2⟩, ⟨p0, p1, p2⟩, f0, f1, f2⟩ := refW_later hB1
  clear k0 k1 k2 k3 k4
  go_wp2_with fail
  clear wv
  refine (HG6.out _ hr1).mono ?_
  rintro e w' ⟨rfl, rfl⟩
  have k5' := (hB1.cell (p := ⟨b, o + 5, none⟩) (by show b < _; omega)).trans k5
  go_wp2_with fail
  exact bodyPost_ret (v := .tuple #[pgZero, .int .i64 4]) (by simp [results, Try.results14, go_sem, q0, q1, q2]) rfl ⟨rfl, bel3 hW1 _ _ _⟩
set_option maxHeartbeats 1000000 in
theorem refDec_form3 (no : Int) (A : Option Addr) (c : Nat) (l : List UInt8) (w : World) (B : Nat) (hr : Rd w B (.slice A l.length c) (cellsB l)) (hB : B ≤ w.heap.size) (hl : l.length = 256) (hfront : l.take 4 = [83, 84, 78, 67]) (hv : fieldAt l 4 1 = 1) (hsum : fieldAt l 20 4 = pgSum l) (hk1 : 1 ≤ fieldAt l 5 1) (hk4 : fieldAt l 5 1 ≤ 4) (hlong : 232 < fieldAt l 6 2) :
    Calls Try.prog 14 #[.int .i64 no, .slice A l.length c] w fun e w' => e = .returned (.tuple #[pgZero, .int .i64 4]) ∧ Below w.heap.size w w' := by
  obtain ⟨_, _, e, g1, g2, _⟩ := hr.bytes
  injection e with e1 e2 e3
  subst e3
  clear e1 e2
  have hb : ((l.length : Int) != 256) = false := by rw [hl]; rfl
  have hl6 : 256 ≤ l.length := by omega
  have hrW : Rd (refW w) w.heap.size (.slice A l.length c) (cellsB l) := (hr.below ((refW_below w).mono hB)).more hB
  obtain ⟨b, o, rfl, hbl, hc⟩ := hrW.addr (by omega)
  have k0 := hc 0 (by omega)
  have k1 := hc 1 (by omega)
  have k2 := hc 2 (by omega)
  have k3 := hc 3 (by omega)
  have k4 := hc 4 (by omega)
  rw [Nat.add_zero] at k0
  have hv0 := fieldAt_one l 4 (by omega)
  rw [front_iff l (by omega)] at hfront
  obtain ⟨x0, hx0⟩ : ∃ x, x = l[0] := ⟨_, rfl⟩
  obtain ⟨x1, hx1⟩ : ∃ x, x = l[1] := ⟨_, rfl⟩
  obtain ⟨x2, hx2⟩ : ∃ x, x = l[2] := ⟨_, rfl⟩
  obtain ⟨x3, hx3⟩ : ∃ x, x = l[3] := ⟨_, rfl⟩
  obtain ⟨x4, hx4⟩ : ∃ x, x = l[4] := ⟨_, rfl⟩
  rw [← hx0] at k0
  rw [← hx1] at k1
  rw [← hx2] at k2
  rw [← hx3] at k3
  rw [← hx4] at k4
  rw [← hx0, ← hx1, ← hx2, ← hx3] at hfront
  rw [← hx4] at hv0
  obtain ⟨h0, h1, h2, h3⟩ := hfront
  have hf5 := fieldAt_one l 5 (by omega)
  have k5 := hc 5 (by omega)
  obtain ⟨x5, hx5⟩ : ∃ x, x = l[5] := ⟨_, rfl⟩
  rw [← hx5] at k5 hf5
  have t0 : ((x0.toNat : Int) != 83) = false := by rw [h0]; rfl
  have t1 : ((x1.toNat : Int) != 84) = false := by rw [h1]; rfl
  have t2 : ((x2.toNat : Int) != 78) = false := by rw [h2]; rfl
  have t3 : ((x3.toNat : Int) != 67) = false := by rw [h3]; rfl
  have t4 : ((x4.toNat : Int) != 1) = false := by rw [← hv0, hv]; rfl
  have Hl := Lib.hid hl
  have hps : pgSum l < 4294967296 := crcOf_lt (l.take 20 ++ l.drop 24)
  have wv : IntKind.u64.wrap ((pgSum l : Nat) : Int) = ((pgSum l : Nat) : Int) := IntWalk.u64_in _ (by omega)
  clear hv hv0 hps
  have hs2 : (((fieldAt l 20 4 : Nat) : Int) != ((pgSum l : Nat) : Int)) = false := by rw [hsum]; simp
  have hn6 := fieldAt_two l 6
  have G6 := fun (W : World) (h : Rd W w.heap.size (.slice (some ⟨b, o, none⟩) l.length c) (cellsB l)) => refGet_fld (some ⟨b, o, none⟩) c l 6 2 W _ h (by omega) (by omega) (by omega)
  obtain ⟨n, hn⟩ : ∃ n, n = fieldAt l 6 2 := ⟨_, rfl⟩
  rw [← hn] at G6 hn6
  have wn : IntKind.i64.wrap (n : Int) = (n : Int) := IntWalk.i64_in _ (by omega)
  have HG6 := Lib.hid G6
  have Hc := Lib.hid hc
  have Hn := Lib.hid hn
  clear hsum G6 hn6
  have d1 : decide ((x5.toNat : Int) < 1) = false := by simp; omega
  have d2 : decide (4 < (x5.toNat : Int)) = false := by simp; omega
  rw [← hn] at hlong
  have d3 : decide (232 < (n : Int)) = true := by simp; omega
  clear hk1 hk4 hf5
  clear hx0 hx1 hx2 hx3 hx4 hx5 hl h0 h1 h2 h3 hr hc hn
  go_enter Try.func14, Try.ntmps14
  go_wp2_with fail
  refine (refGet_fld _ c l 20 4 _ _ hrW (by omega) (by omega) (by omega)).mono ?_
  rintro e w' ⟨rfl, rfl⟩
  go_wp2_with fail
  refine (refPgSum_any _ c l _ _ hrW (by simp; omega) Hl.out).mono ?_
  rintro e w1 ⟨rfl, hb1⟩
  have hB1 : Below (w.heap.size + 2) (refW w) w1 := by simpa using hb1
  have hW1 : Below w.heap.size w w1 := (refW_below w).trans (hB1.mono (by omega))
  have hr1 : Rd w1 w.heap.size (.slice (some ⟨b, o, none⟩) l.length c) (cellsB l) := hrW.below (hB1.mono (by omega))
  obtain ⟨⟨q0, q1, q2⟩, ⟨p0, p1, p2⟩, f0, f1, f2⟩ := refW_later hB1
  clear k0 k1 k2 k3 k4
  go_wp2_with fail
  clear wv
  refine (HG6.out _ hr1).mono ?_
  rintro e w' ⟨rfl, rfl⟩
  have k5' := (hB1.cell (p := ⟨b, o + 5, none⟩) (by show b < _; omega)).trans k5
  go_wp2_with fail
  exact bodyPost_ret (v := .tuple #[pgZero, .int .i64 4]) (by simp [results, Try.results14, go_sem, q0, q1, q2]) rfl ⟨rfl, bel3 hW1 _ _ _⟩
set_option maxHeartbeats 1000000 in
theorem refDec_form4 (no : Int) (A : Option Addr) (c : Nat) (l : List UInt8) (w : World) (B : Nat) (hr : Rd w B (.slice A l.length c) (cellsB l)) (hB : B ≤ w.heap.size) (hl : l.length = 256) (hfront : l.take 4 = [83, 84, 78, 67]) (hv : fieldAt l 4 1 = 1) (hsum : fieldAt l 20 4 = pgSum l) (hk1 : 1 ≤ fieldAt l 5 1) (hk4 : fieldAt l 5 1 ≤ 4) (hlen : fieldAt l 6 2 ≤ 232) (htail : pgTail l = false) :
    Calls Try.prog 14 #[.int .i64 no, .slice A l.length c] w fun e w' => e = .returned (.tuple #[pgZero, .int .i64 4]) ∧ Below w.heap.size w w' := by
  obtain ⟨_, _, e, g1, g2, _⟩ := hr.bytes
  injection e with e1 e2 e3
  subst e3
  clear e1 e2
  have hb : ((l.length : Int) != 256) = false := by rw [hl]; rfl
  have hl6 : 256 ≤ l.length := by omega
  have hrW : Rd (refW w) w.heap.size (.slice A l.length c) (cellsB l) := (hr.below ((refW_below w).mono hB)).more hB
  obtain ⟨b, o, rfl, hbl, hc⟩ := hrW.addr (by omega)
  have k0 := hc 0 (by omega)
  have k1 := hc 1 (by omega)
  have k2 := hc 2 (by omega)
  have k3 := hc 3 (by omega)
  have k4 := hc 4 (by omega)
  rw [Nat.add_zero] at k0
  have hv0 := fieldAt_one l 4 (by omega)
  rw [front_iff l (by omega)] at hfront
  obtain ⟨x0, hx0⟩ : ∃ x, x = l[0] := ⟨_, rfl⟩
  obtain ⟨x1, hx1⟩ : ∃ x, x = l[1] := ⟨_, rfl⟩
  obtain ⟨x2, hx2⟩ : ∃ x, x = l[2] := ⟨_, rfl⟩
  obtain ⟨x3, hx3⟩ : ∃ x, x = l[3] := ⟨_, rfl⟩
  obtain ⟨x4, hx4⟩ : ∃ x, x = l[4] := ⟨_, rfl⟩
  rw [← hx0] at k0
  rw [← hx1] at k1
  rw [← hx2] at k2
  rw [← hx3] at k3
  rw [← hx4] at k4
  rw [← hx0, ← hx1, ← hx2, ← hx3] at hfront
  rw [← hx4] at hv0
  obtain ⟨h0, h1, h2, h3⟩ := hfront
  have hf5 := fieldAt_one l 5 (by omega)
  have k5 := hc 5 (by omega)
  obtain ⟨x5, hx5⟩ : ∃ x, x = l[5] := ⟨_, rfl⟩
  rw [← hx5] at k5 hf5
  have t0 : ((x0.toNat : Int) != 83) = false := by rw [h0]; rfl
  have t1 : ((x1.toNat : Int) != 84) = false := by rw [h1]; rfl
  have t2 : ((x2.toNat : Int) != 78) = false := by rw [h2]; rfl
  have t3 : ((x3.toNat : Int) != 67) = false := by rw [h3]; rfl
  have t4 : ((x4.toNat : Int) != 1) = false := by rw [← hv0, hv]; rfl
  have Hl := Lib.hid hl
  have hps : pgSum l < 4294967296 := crcOf_lt (l.take 20 ++ l.drop 24)
  have wv : IntKind.u64.wrap ((pgSum l : Nat) : Int) = ((pgSum l : Nat) : Int) := IntWalk.u64_in _ (by omega)
  clear hv hv0 hps
  have hs2 : (((fieldAt l 20 4 : Nat) : Int) != ((pgSum l : Nat) : Int)) = false := by rw [hsum]; simp
  have hn6 := fieldAt_two l 6
  have G6 := fun (W : World) (h : Rd W w.heap.size (.slice (some ⟨b, o, none⟩) l.length c) (cellsB l)) => refGet_fld (some ⟨b, o, none⟩) c l 6 2 W _ h (by omega) (by omega) (by omega)
  obtain ⟨n, hn⟩ : ∃ n, n = fieldAt l 6 2 := ⟨_, rfl⟩
  rw [← hn] at G6 hn6
  have wn : IntKind.i64.wrap (n : Int) = (n : Int) := IntWalk.i64_in _ (by omega)
  have HG6 := Lib.hid G6
  have Hc := Lib.hid hc
  have Hn := Lib.hid hn
  clear hsum G6 hn6
  have d1 : decide ((x5.toNat : Int) < 1) = false := by simp; omega
  have d2 : decide (4 < (x5.toNat : Int)) = false := by simp; omega
  rw [← hn] at hlen
  have d3 : decide (232 < (n : Int)) = false := by simp; omega
  have hn24 : (24 : Int) + (n : Int) = ((24 + n : Nat) : Int) := by omega
  have Hn24 := Lib.hid hn24
  clear hn24
  have Htail := Lib.hid htail
  clear htail
  clear hk1 hk4 hf5
  clear hx0 hx1 hx2 hx3 hx4 hx5 hl h0 h1 h2 h3 hr hc hn
  go_enter Try.func14, Try.ntmps14
  go_wp2_with fail
  refine (refGet_fld _ c l 20 4 _ _ hrW (by omega) (by omega) (by omega)).mono ?_
  rintro e w' ⟨rfl, rfl⟩
  go_wp2_with fail
  refine (refPgSum_any _ c l _ _ hrW (by simp; omega) Hl.out).mono ?_
  rintro e w1 ⟨rfl, hb1⟩
  have hB1 : Below (w.heap.size + 2) (refW w) w1 := by simpa using hb1
  have hW1 : Below w.heap.size w w1 := (refW_below w).trans (hB1.mono (by omega))
  have hr1 : Rd w1 w.heap.size (.slice (some ⟨b, o, none⟩) l.length c) (cellsB l) := hrW.below (hB1.mono (by omega))
  obtain ⟨⟨q0, q1, q2⟩, ⟨p0, p1, p2⟩, f0, f1, f2⟩ := refW_later hB1
  clear k0 k1 k2 k3 k4
  go_wp2_with fail
  clear wv
  refine (HG6.out _ hr1).mono ?_
  rintro e w' ⟨rfl, rfl⟩
  have k5' := (hB1.cell (p := ⟨b, o + 5, none⟩) (by show b < _; omega)).trans k5
  go_wp2_with fail
  have Hcw := Lib.hid (fun (j : Nat) (h : j < l.length) => (hB1.cell (p := ⟨b, o + j, none⟩) (by show b < _; omega)).trans (Hc.out j h))
  go_loop [8] (fun i => ∃ j : Nat, 24 + n ≤ j ∧ j ≤ l.length ∧ i = .int .i64 (j : Int) ∧ ∀ (k : Nat) (h : k < l.length), 24 + n ≤ k → k < j → l[k] = 0) (fun i => l.length - (intOf i).toNat)
  case atStart => exact ⟨24 + n, Nat.le_refl _, by omega, by rw [Hn24.out], fun k h a b => by omega⟩
  case round =>
    obtain ⟨j, hj1, hj2, rfl, hz⟩ := hrel
    have Hz := Lib.hid hz
    clear hz
    by_cases hlt : j < l.length
    · have hcell := Hcw.out j hlt
      have hlt2 : decide ((j : Int) < 256) = true := by have := Hl.out; simp; omega
      obtain ⟨x, hx⟩ : ∃ x, x = l[j] := ⟨_, rfl⟩
      rw [← hx] at hcell
      have Hx := Lib.hid hx
      clear hx
      by_cases hx0 : x = 0
      · have hxz : ((x.toNat : Int) != 0) = false := by rw [hx0]; rfl
        have Hx0 := Lib.hid hx0
        clear hx0
        go_wp2_with fail
        go_round
        case rel => exact ⟨j + 1, by omega, by omega, by go_num, zero_more Hz.out hlt (by rw [← Hx.out]; exact Hx0.out)⟩
        case measure => simp [intOf]; omega
      · have hxz : ((x.toNat : Int) != 0) = true := by
          rw [bne_iff_ne]; intro e; apply hx0; apply UInt8.toNat_inj.1; show _ = 0; omega
        clear hx0
        go_wp2_with fail
        exact bodyPost_ret (v := .tuple #[pgZero, .int .i64 4]) (by simp [results, Try.results14, go_sem, q0, q1, q2]) rfl ⟨rfl, bel3 hW1 _ _ _⟩
    · have hj256 : decide ((j : Int) < 256) = false := by have := Hl.out; simp; omega
      have hjj : l.length ≤ j := by omega
      have := tail_all l (fun k h a => Hz.out k h (by rw [Hn.out]; exact a) (by omega))
      rw [Htail.out] at this
      cases this
set_option maxHeartbeats 1000000 in
theorem refDec_num1 (no : Int) (A : Option Addr) (c : Nat) (l : List UInt8) (w : World) (B : Nat) (hr : Rd w B (.slice A l.length c) (cellsB l)) (hB : B ≤ w.heap.size) (hl : l.length = 256) (hfront : l.take 4 = [83, 84, 78, 67]) (hv : fieldAt l 4 1 = 1) (hsum : fieldAt l 20 4 = pgSum l) (hk1 : 1 ≤ fieldAt l 5 1) (hk4 : fieldAt l 5 1 ≤ 4) (hlen : fieldAt l 6 2 ≤ 232) (htail : pgTail l = true) (hno : no < 0) :
    Calls Try.prog 14 #[.int .i64 no, .slice A l.length c] w fun e w' => e = .returned (.tuple #[pgZero, .int .i64 1]) ∧ Below w.heap.size w w' := by
  obtain ⟨_, _, e, g1, g2, _⟩ := hr.bytes
  injection e with e1 e2 e3
  subst e3
  clear e1 e2
  have hb : ((l.length : Int) != 256) = false := by rw [hl]; rfl
  have hl6 : 256 ≤ l.length := by omega
  have hrW : Rd (refW w) w.heap.size (.slice A l.length c) (cellsB l) := (hr.below ((refW_below w).mono hB)).more hB
  obtain ⟨b, o, rfl, hbl, hc⟩ := hrW.addr (by omega)
  have k0 := hc 0 (by omega)
  have k1 := hc 1 (by omega)
  have k2 := hc 2 (by omega)
  have k3 := hc 3 (by omega)
  have k4 := hc 4 (by omega)
  rw [Nat.add_zero] at k0
  have hv0 := fieldAt_one l 4 (by omega)
  rw [front_iff l (by omega)] at hfront
  obtain ⟨x0, hx0⟩ : ∃ x, x = l[0] := ⟨_, rfl⟩
  obtain ⟨x1, hx1⟩ : ∃ x, x = l[1] := ⟨_, rfl⟩
  obtain ⟨x2, hx2⟩ : ∃ x, x = l[2] := ⟨_, rfl⟩
  obtain ⟨x3, hx3⟩ : ∃ x, x = l[3] := ⟨_, rfl⟩
  obtain ⟨x4, hx4⟩ : ∃ x, x = l[4] := ⟨_, rfl⟩
  rw [← hx0] at k0
  rw [← hx1] at k1
  rw [← hx2] at k2
  rw [← hx3] at k3
  rw [← hx4] at k4
  rw [← hx0, ← hx1, ← hx2, ← hx3] at hfront
  rw [← hx4] at hv0
  obtain ⟨h0, h1, h2, h3⟩ := hfront
  have hf5 := fieldAt_one l 5 (by omega)
  have k5 := hc 5 (by omega)
  obtain ⟨x5, hx5⟩ : ∃ x, x = l[5] := ⟨_, rfl⟩
  rw [← hx5] at k5 hf5
  have t0 : ((x0.toNat : Int) != 83) = false := by rw [h0]; rfl
  have t1 : ((x1.toNat : Int) != 84) = false := by rw [h1]; rfl
  have t2 : ((x2.toNat : Int) != 78) = false := by rw [h2]; rfl
  have t3 : ((x3.toNat : Int) != 67) = false := by rw [h3]; rfl
  have t4 : ((x4.toNat : Int) != 1) = false := by rw [← hv0, hv]; rfl
  have Hl := Lib.hid hl
  have hps : pgSum l < 4294967296 := crcOf_lt (l.take 20 ++ l.drop 24)
  have wv : IntKind.u64.wrap ((pgSum l : Nat) : Int) = ((pgSum l : Nat) : Int) := IntWalk.u64_in _ (by omega)
  clear hv hv0 hps
  have hs2 : (((fieldAt l 20 4 : Nat) : Int) != ((pgSum l : Nat) : Int)) = false := by rw [hsum]; simp
  have hn6 := fieldAt_two l 6
  have G6 := fun (W : World) (h : Rd W w.heap.size (.slice (some ⟨b, o, none⟩) l.length c) (cellsB l)) => refGet_fld (some ⟨b, o, none⟩) c l 6 2 W _ h (by omega) (by omega) (by omega)
  obtain ⟨n, hn⟩ : ∃ n, n = fieldAt l 6 2 := ⟨_, rfl⟩
  rw [← hn] at G6 hn6
  have wn : IntKind.i64.wrap (n : Int) = (n : Int) := IntWalk.i64_in _ (by omega)
  have HG6 := Lib.hid G6
  have Hc := Lib.hid hc
  have Hn := Lib.hid hn
  clear hsum G6 hn6
  have d1 : decide ((x5.toNat : Int) < 1) = false := by simp; omega
  have d2 : decide (4 < (x5.toNat : Int)) = false := by simp; omega
  rw [← hn] at hlen
  have d3 : decide (232 < (n : Int)) = false := by simp; omega
  have hn24 : (24 : Int) + (n : Int) = ((24 + n : Nat) : Int) := by omega
  have Hn24 := Lib.hid hn24
  clear hn24
  have Htail := Lib.hid htail
  clear htail
  clear hk1 hk4 hf5
  clear hx0 hx1 hx2 hx3 hx4 hx5 hl h0 h1 h2 h3 hr hc hn
  go_enter Try.func14, Try.ntmps14
  go_wp2_with fail
  refine (refGet_fld _ c l 20 4 _ _ hrW (by omega) (by omega) (by omega)).mono ?_
  rintro e w' ⟨rfl, rfl⟩
  go_wp2_with fail
  refine (refPgSum_any _ c l _ _ hrW (by simp; omega) Hl.out).mono ?_
  rintro e w1 ⟨rfl, hb1⟩
  have hB1 : Below (w.heap.size + 2) (refW w) w1 := by simpa using hb1
  have hW1 : Below w.heap.size w w1 := (refW_below w).trans (hB1.mono (by omega))
  have hr1 : Rd w1 w.heap.size (.slice (some ⟨b, o, none⟩) l.length c) (cellsB l) := hrW.below (hB1.mono (by omega))
  obtain ⟨⟨q0, q1, q2⟩, ⟨p0, p1, p2⟩, f0, f1, f2⟩ := refW_later hB1
  clear k0 k1 k2 k3 k4
  go_wp2_with fail
  clear wv
  refine (HG6.out _ hr1).mono ?_
  rintro e w' ⟨rfl, rfl⟩
  have k5' := (hB1.cell (p := ⟨b, o + 5, none⟩) (by show b < _; omega)).trans k5
  go_wp2_with fail
  have Hcw := Lib.hid (fun (j : Nat) (h : j < l.length) => (hB1.cell (p := ⟨b, o + j, none⟩) (by show b < _; omega)).trans (Hc.out j h))
  go_loop [8] (fun i => ∃ j : Nat, 24 + n ≤ j ∧ j ≤ l.length ∧ i = .int .i64 (j : Int) ∧ ∀ (k : Nat) (h : k < l.length), 24 + n ≤ k → k < j → l[k] = 0) (fun i => l.length - (intOf i).toNat)
  case atStart => exact ⟨24 + n, Nat.le_refl _, by omega, by rw [Hn24.out], fun k h a b => by omega⟩
  case round =>
    obtain ⟨j, hj1, hj2, rfl, hz⟩ := hrel
    have Hz := Lib.hid hz
    clear hz
    by_cases hlt : j < l.length
    · have hcell := Hcw.out j hlt
      have hlt2 : decide ((j : Int) < 256) = true := by have := Hl.out; simp; omega
      obtain ⟨x, hx⟩ : ∃ x, x = l[j] := ⟨_, rfl⟩
      rw [← hx] at hcell
      have Hx := Lib.hid hx
      clear hx
      by_cases hx0 : x = 0
      · have hxz : ((x.toNat : Int) != 0) = false := by rw [hx0]; rfl
        have Hx0 := Lib.hid hx0
        clear hx0
        go_wp2_with fail
        go_round
        case rel => exact ⟨j + 1, by omega, by omega, by go_num, zero_more Hz.out hlt (by rw [← Hx.out]; exact Hx0.out)⟩
        case measure => simp [intOf]; omega
      · exfalso
        have := tail_not l j hlt (by rw [← Hn.out]; exact hj1) (by rw [← Hx.out]; exact hx0)
        rw [Htail.out] at this
        cases this
    · have hj256 : decide ((j : Int) < 256) = false := by have := Hl.out; simp; omega
      go_wp2_with fail
      exact bodyPost_ret (v := .tuple #[pgZero, .int .i64 1]) (by simp [results, Try.results14, go_sem, q0, q1, q2]) rfl ⟨rfl, bel3 hW1 _ _ _⟩
set_option maxHeartbeats 1000000 in
theorem refDec_num2 (no : Int) (A : Option Addr) (c : Nat) (l : List UInt8) (w : World) (B : Nat) (hr : Rd w B (.slice A l.length c) (cellsB l)) (hB : B ≤ w.heap.size) (hl : l.length = 256) (hfront : l.take 4 = [83, 84, 78, 67]) (hv : fieldAt l 4 1 = 1) (hsum : fieldAt l 20 4 = pgSum l) (hk1 : 1 ≤ fieldAt l 5 1) (hk4 : fieldAt l 5 1 ≤ 4) (hlen : fieldAt l 6 2 ≤ 232) (htail : pgTail l = true) (hno1 : 0 ≤ no) (hno : 1599 < no) :
    Calls Try.prog 14 #[.int .i64 no, .slice A l.length c] w fun e w' => e = .returned (.tuple #[pgZero, .int .i64 1]) ∧ Below w.heap.size w w' := by
  obtain ⟨_, _, e, g1, g2, _⟩ := hr.bytes
  injection e with e1 e2 e3
  subst e3
  clear e1 e2
  have hb : ((l.length : Int) != 256) = false := by rw [hl]; rfl
  have hl6 : 256 ≤ l.length := by omega
  have hrW : Rd (refW w) w.heap.size (.slice A l.length c) (cellsB l) := (hr.below ((refW_below w).mono hB)).more hB
  obtain ⟨b, o, rfl, hbl, hc⟩ := hrW.addr (by omega)
  have k0 := hc 0 (by omega)
  have k1 := hc 1 (by omega)
  have k2 := hc 2 (by omega)
  have k3 := hc 3 (by omega)
  have k4 := hc 4 (by omega)
  rw [Nat.add_zero] at k0
  have hv0 := fieldAt_one l 4 (by omega)
  rw [front_iff l (by omega)] at hfront
  obtain ⟨x0, hx0⟩ : ∃ x, x = l[0] := ⟨_, rfl⟩
  obtain ⟨x1, hx1⟩ : ∃ x, x = l[1] := ⟨_, rfl⟩
  obtain ⟨x2, hx2⟩ : ∃ x, x = l[2] := ⟨_, rfl⟩
  obtain ⟨x3, hx3⟩ : ∃ x, x = l[3] := ⟨_, rfl⟩
  obtain ⟨x4, hx4⟩ : ∃ x, x = l[4] := ⟨_, rfl⟩
  rw [← hx0] at k0
  rw [← hx1] at k1
  rw [← hx2] at k2
  rw [← hx3] at k3
  rw [← hx4] at k4
  rw [← hx0, ← hx1, ← hx2, ← hx3] at hfront
  rw [← hx4] at hv0
  obtain ⟨h0, h1, h2, h3⟩ := hfront
  have hf5 := fieldAt_one l 5 (by omega)
  have k5 := hc 5 (by omega)
  obtain ⟨x5, hx5⟩ : ∃ x, x = l[5] := ⟨_, rfl⟩
  rw [← hx5] at k5 hf5
  have t0 : ((x0.toNat : Int) != 83) = false := by rw [h0]; rfl
  have t1 : ((x1.toNat : Int) != 84) = false := by rw [h1]; rfl
  have t2 : ((x2.toNat : Int) != 78) = false := by rw [h2]; rfl
  have t3 : ((x3.toNat : Int) != 67) = false := by rw [h3]; rfl
  have t4 : ((x4.toNat : Int) != 1) = false := by rw [← hv0, hv]; rfl
  have Hl := Lib.hid hl
  have hps : pgSum l < 4294967296 := crcOf_lt (l.take 20 ++ l.drop 24)
  have wv : IntKind.u64.wrap ((pgSum l : Nat) : Int) = ((pgSum l : Nat) : Int) := IntWalk.u64_in _ (by omega)
  clear hv hv0 hps
  have hs2 : (((fieldAt l 20 4 : Nat) : Int) != ((pgSum l : Nat) : Int)) = false := by rw [hsum]; simp
  have hn6 := fieldAt_two l 6
  have G6 := fun (W : World) (h : Rd W w.heap.size (.slice (some ⟨b, o, none⟩) l.length c) (cellsB l)) => refGet_fld (some ⟨b, o, none⟩) c l 6 2 W _ h (by omega) (by omega) (by omega)
  obtain ⟨n, hn⟩ : ∃ n, n = fieldAt l 6 2 := ⟨_, rfl⟩
  rw [← hn] at G6 hn6
  have wn : IntKind.i64.wrap (n : Int) = (n : Int) := IntWalk.i64_in _ (by omega)
  have HG6 := Lib.hid G6
  have Hc := Lib.hid hc
  have Hn := Lib.hid hn
  clear hsum G6 hn6
  have d1 : decide ((x5.toNat : Int) < 1) = false := by simp; omega
  have d2 : decide (4 < (x5.toNat : Int)) = false := by simp; omega
  rw [← hn] at hlen
  have d3 : decide (232 < (n : Int)) = false := by simp; omega
  have hn24 : (24 : Int) + (n : Int) = ((24 + n : Nat) : Int) := by omega
  have Hn24 := Lib.hid hn24
  clear hn24
  have Htail := Lib.hid htail
  clear htail
  have e1 : decide (no < 0) = false := by simp; omega
  clear hk1 hk4 hf5
  clear hx0 hx1 hx2 hx3 hx4 hx5 hl h0 h1 h2 h3 hr hc hn
  go_enter Try.func14, Try.ntmps14
  go_wp2_with fail
  refine (refGet_fld _ c l 20 4 _ _ hrW (by omega) (by omega) (by omega)).mono ?_
  rintro e w' ⟨rfl, rfl⟩
  go_wp2_with fail
  refine (refPgSum_any _ c l _ _ hrW (by simp; omega) Hl.out).mono ?_
  rintro e w1 ⟨rfl, hb1⟩
  have hB1 : Below (w.heap.size + 2) (refW w) w1 := by simpa using hb1
  have hW1 : Below w.heap.size w w1 := (refW_below w).trans (hB1.mono (by omega))
  have hr1 : Rd w1 w.heap.size (.slice (some ⟨b, o, none⟩) l.length c) (cellsB l) := hrW.below (hB1.mono (by omega))
  obtain ⟨⟨q0, q1, q2⟩, ⟨p0, p1, p2⟩, f0, f1, f2⟩ := refW_later hB1
  clear k0 k1 k2 k3 k4
  go_wp2_with fail
  clear wv
  refine (HG6.out _ hr1).mono ?_
  rintro e w' ⟨rfl, rfl⟩
  have k5' := (hB1.cell (p := ⟨b, o + 5, none⟩) (by show b < _; omega)).trans k5
  go_wp2_with fail
  have Hcw := Lib.hid (fun (j : Nat) (h : j < l.length) => (hB1.cell (p := ⟨b, o + j, none⟩) (by show b < _; omega)).trans (Hc.out j h))
  go_loop [8] (fun i => ∃ j : Nat, 24 + n ≤ j ∧ j ≤ l.length ∧ i = .int .i64 (j : Int) ∧ ∀ (k : Nat) (h : k < l.length), 24 + n ≤ k → k < j → l[k] = 0) (fun i => l.length - (intOf i).toNat)
  case atStart => exact ⟨24 + n, Nat.le_refl _, by omega, by rw [Hn24.out], fun k h a b => by omega⟩
  case round =>
    obtain ⟨j, hj1, hj2, rfl, hz⟩ := hrel
    have Hz := Lib.hid hz
    clear hz
    by_cases hlt : j < l.length
    · have hcell := Hcw.out j hlt
      have hlt2 : decide ((j : Int) < 256) = true := by have := Hl.out; simp; omega
      obtain ⟨x, hx⟩ : ∃ x, x = l[j] := ⟨_, rfl⟩
      rw [← hx] at hcell
      have Hx := Lib.hid hx
      clear hx
      by_cases hx0 : x = 0
      · have hxz : ((x.toNat : Int) != 0) = false := by rw [hx0]; rfl
        have Hx0 := Lib.hid hx0
        clear hx0
        go_wp2_with fail
        go_round
        case rel => exact ⟨j + 1, by omega, by omega, by go_num, zero_more Hz.out hlt (by rw [← Hx.out]; exact Hx0.out)⟩
        case measure => simp [intOf]; omega
      · exfalso
        have := tail_not l j hlt (by rw [← Hn.out]; exact hj1) (by rw [← Hx.out]; exact hx0)
        rw [Htail.out] at this
        cases this
    · have hj256 : decide ((j : Int) < 256) = false := by have := Hl.out; simp; omega
      go_wp2_with fail
      exact bodyPost_ret (v := .tuple #[pgZero, .int .i64 1]) (by simp [results, Try.results14, go_sem, q0, q1, q2]) rfl ⟨rfl, bel3 hW1 _ _ _⟩
set_option maxHeartbeats 1000000 in
theorem refDec_num3 (no : Int) (A : Option Addr) (c : Nat) (l : List UInt8) (w : World) (B : Nat) (hr : Rd w B (.slice A l.length c) (cellsB l)) (hB : B ≤ w.heap.size) (hl : l.length = 256) (hfront : l.take 4 = [83, 84, 78, 67]) (hv : fieldAt l 4 1 = 1) (hsum : fieldAt l 20 4 = pgSum l) (hk1 : 1 ≤ fieldAt l 5 1) (hk4 : fieldAt l 5 1 ≤ 4) (hlen : fieldAt l 6 2 ≤ 232) (htail : pgTail l = true) (hno1 : 0 ≤ no) (hno2 : no ≤ 1599) (hne : (fieldAt l 8 4 : Int) ≠ no) :
    Calls Try.prog 14 #[.int .i64 no, .slice A l.length c] w fun e w' => e = .returned (.tuple #[pgZero, .int .i64 1]) ∧ Below w.heap.size w w' := by
  obtain ⟨_, _, e, g1, g2, _⟩ := hr.bytes
  injection e with e1 e2 e3
  subst e3
  clear e1 e2
  have hb : ((l.length : Int) != 256) = false := by rw [hl]; rfl
  have hl6 : 256 ≤ l.length := by omega
  have hrW : Rd (refW w) w.heap.size (.slice A l.length c) (cellsB l) := (hr.below ((refW_below w).mono hB)).more hB
  obtain ⟨b, o, rfl, hbl, hc⟩ := hrW.addr (by omega)
  have k0 := hc 0 (by omega)
  have k1 := hc 1 (by omega)
  have k2 := hc 2 (by omega)
  have k3 := hc 3 (by omega)
  have k4 := hc 4 (by omega)
  rw [Nat.add_zero] at k0
  have hv0 := fieldAt_one l 4 (by omega)
  rw [front_iff l (by omega)] at hfront
  obtain ⟨x0, hx0⟩ : ∃ x, x = l[0] := ⟨_, rfl⟩
  obtain ⟨x1, hx1⟩ : ∃ x, x = l[1] := ⟨_, rfl⟩
  obtain ⟨x2, hx2⟩ : ∃ x, x = l[2] := ⟨_, rfl⟩
  obtain ⟨x3, hx3⟩ : ∃ x, x = l[3] := ⟨_, rfl⟩
  obtain ⟨x4, hx4⟩ : ∃ x, x = l[4] := ⟨_, rfl⟩
  rw [← hx0] at k0
  rw [← hx1] at k1
  rw [← hx2] at k2
  rw [← hx3] at k3
  rw [← hx4] at k4
  rw [← hx0, ← hx1, ← hx2, ← hx3] at hfront
  rw [← hx4] at hv0
  obtain ⟨h0, h1, h2, h3⟩ := hfront
  have hf5 := fieldAt_one l 5 (by omega)
  have k5 := hc 5 (by omega)
  obtain ⟨x5, hx5⟩ : ∃ x, x = l[5] := ⟨_, rfl⟩
  rw [← hx5] at k5 hf5
  have t0 : ((x0.toNat : Int) != 83) = false := by rw [h0]; rfl
  have t1 : ((x1.toNat : Int) != 84) = false := by rw [h1]; rfl
  have t2 : ((x2.toNat : Int) != 78) = false := by rw [h2]; rfl
  have t3 : ((x3.toNat : Int) != 67) = false := by rw [h3]; rfl
  have t4 : ((x4.toNat : Int) != 1) = false := by rw [← hv0, hv]; rfl
  have Hl := Lib.hid hl
  have hps : pgSum l < 4294967296 := crcOf_lt (l.take 20 ++ l.drop 24)
  have wv : IntKind.u64.wrap ((pgSum l : Nat) : Int) = ((pgSum l : Nat) : Int) := IntWalk.u64_in _ (by omega)
  clear hv hv0 hps
  have hs2 : (((fieldAt l 20 4 : Nat) : Int) != ((pgSum l : Nat) : Int)) = false := by rw [hsum]; simp
  have hn6 := fieldAt_two l 6
  have G6 := fun (W : World) (h : Rd W w.heap.size (.slice (some ⟨b, o, none⟩) l.length c) (cellsB l)) => refGet_fld (some ⟨b, o, none⟩) c l 6 2 W _ h (by omega) (by omega) (by omega)
  obtain ⟨n, hn⟩ : ∃ n, n = fieldAt l 6 2 := ⟨_, rfl⟩
  rw [← hn] at G6 hn6
  have wn : IntKind.i64.wrap (n : Int) = (n : Int) := IntWalk.i64_in _ (by omega)
  have HG6 := Lib.hid G6
  have Hc := Lib.hid hc
  have Hn := Lib.hid hn
  clear hsum G6 hn6
  have d1 : decide ((x5.toNat : Int) < 1) = false := by simp; omega
  have d2 : decide (4 < (x5.toNat : Int)) = false := by simp; omega
  rw [← hn] at hlen
  have d3 : decide (232 < (n : Int)) = false := by simp; omega
  have hn24 : (24 : Int) + (n : Int) = ((24 + n : Nat) : Int) := by omega
  have Hn24 := Lib.hid hn24
  clear hn24
  have Htail := Lib.hid htail
  clear htail
  have N8 := fun (W : World) (h : Rd W w.heap.size (.slice (some ⟨b, o, none⟩) l.length c) (cellsB l)) => refGet_fld (some ⟨b, o, none⟩) c l 8 4 W _ h (by omega) (by omega) (by omega)
  have HN8 := Lib.hid N8
  clear N8
  have e1 : decide (no < 0) = false := by simp; omega
  have e2 : decide (1599 < no) = false := by simp; omega
  have hne1 : (((fieldAt l 8 4 : Nat) : Int) != no) = true := by rw [bne_iff_ne]; exact hne
  clear hne hk1 hk4 hf5
  clear hx0 hx1 hx2 hx3 hx4 hx5 hl h0 h1 h2 h3 hr hc hn
  go_enter Try.func14, Try.ntmps14
  go_wp2_with fail
  refine (refGet_fld _ c l 20 4 _ _ hrW (by omega) (by omega) (by omega)).mono ?_
  rintro e w' ⟨rfl, rfl⟩
  go_wp2_with fail
  refine (refPgSum_any _ c l _ _ hrW (by simp; omega) Hl.out).mono ?_
  rintro e w1 ⟨rfl, hb1⟩
  have hB1 : Below (w.heap.size + 2) (refW w) w1 := by simpa using hb1
  have hW1 : Below w.heap.size w w1 := (refW_below w).trans (hB1.mono (by omega))
  have hr1 : Rd w1 w.heap.size (.slice (some ⟨b, o, none⟩) l.length c) (cellsB l) := hrW.below (hB1.mono (by omega))
  obtain ⟨⟨q0, q1, q2⟩, ⟨p0, p1, p2⟩, f0, f1, f2⟩ := refW_later hB1
  clear k0 k1 k2 k3 k4
  go_wp2_with fail
  clear wv
  refine (HG6.out _ hr1).mono ?_
  rintro e w' ⟨rfl, rfl⟩
  have k5' := (hB1.cell (p := ⟨b, o + 5, none⟩) (by show b < _; omega)).trans k5
  go_wp2_with fail
  have Hcw := Lib.hid (fun (j : Nat) (h : j < l.length) => (hB1.cell (p := ⟨b, o + j, none⟩) (by show b < _; omega)).trans (Hc.out j h))
  go_loop [8] (fun i => ∃ j : Nat, 24 + n ≤ j ∧ j ≤ l.length ∧ i = .int .i64 (j : Int) ∧ ∀ (k : Nat) (h : k < l.length), 24 + n ≤ k → k < j → l[k] = 0) (fun i => l.length - (intOf i).toNat)
  case atStart => exact ⟨24 + n, Nat.le_refl _, by omega, by rw [Hn24.out], fun k h a b => by omega⟩
  case round =>
    obtain ⟨j, hj1, hj2, rfl, hz⟩ := hrel
    have Hz := Lib.hid hz
    clear hz
    by_cases hlt : j < l.length
    · have hcell := Hcw.out j hlt
      have hlt2 : decide ((j : Int) < 256) = true := by have := Hl.out; simp; omega
      obtain ⟨x, hx⟩ : ∃ x, x = l[j] := ⟨_, rfl⟩
      rw [← hx] at hcell
      have Hx := Lib.hid hx
      clear hx
      by_cases hx0 : x = 0
      · have hxz : ((x.toNat : Int) != 0) = false := by rw [hx0]; rfl
        have Hx0 := Lib.hid hx0
        clear hx0
        go_wp2_with fail
        go_round
        case rel => exact ⟨j + 1, by omega, by omega, by go_num, zero_more Hz.out hlt (by rw [← Hx.out]; exact Hx0.out)⟩
        case measure => simp [intOf]; omega
      · exfalso
        have := tail_not l j hlt (by rw [← Hn.out]; exact hj1) (by rw [← Hx.out]; exact hx0)
        rw [Htail.out] at this
        cases this
    · have hj256 : decide ((j : Int) < 256) = false := by have := Hl.out; simp; omega
      go_wp2_with fail
      refine (HN8.out _ hr1).mono ?_
      rintro e w' ⟨rfl, rfl⟩
      go_wp2_with fail
      exact bodyPost_ret (v := .tuple #[pgZero, .int .i64 1]) (by simp [results, Try.results14, go_sem, q0, q1, q2]) rfl ⟨rfl, bel3 hW1 _ _ _⟩
end Go.Proofs.Ytnbmcecmdokogaa
