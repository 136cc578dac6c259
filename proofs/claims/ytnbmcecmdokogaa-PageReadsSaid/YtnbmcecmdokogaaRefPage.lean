/-
  The document's own page (stanchionref04): Sum and Encode, by contracts.
-/
import Derived.Test.YtnbmcecmdokogaaPageEnc
import Derived.Test.YtnbmcecmdokogaaRefNum
import Derived.Test.YtnbmcecmdokogaaRefCrc
import Derived.Deep.RegionHeld3
namespace Go.Proofs.Ytnbmcecmdokogaa
open Go.RowKit
set_option maxHeartbeats 1000000 in
theorem refPgSum_any (A : Option Addr) (c : Nat) (l : List UInt8) (w : World) (B : Nat) (hr : Rd w B (.slice A l.length c) (cellsB l)) (hB : B ≤ w.heap.size) (hl : l.length = 256) :
    Calls Try.prog 21 #[.slice A l.length c] w fun e w' => e = .returned (.int .u32 (pgSum l : Nat)) ∧ Below w.heap.size w w' := by
  obtain ⟨i, hi, hz0, hz1, hz2⟩ := info_parts info_u8
  obtain ⟨_, _, e, g1, g2, _⟩ := hr.bytes
  injection e with e1 e2 e3
  subst e3
  clear e1 e2
  have h20 : 20 ≤ l.length := by omega
  have h24 : 24 ≤ l.length := by omega
  have h24' : (24 : Int) ≤ (l.length : Int) := by omega
  have h20' : (20 : Int) ≤ (c : Int) := by omega
  have hc24 : ¬ c = 24 := by omega
  have r1 := hr.upto h20
  have r2 := hr.cut h24 (Nat.le_refl _)
  rw [if_neg hc24] at r2
  have ex2 : ((cellsB l).take l.length).drop 24 = cellsB (l.drop 24) := by rw [← cellsB_length l, List.take_length, cellsB_drop]
  rw [ex2] at r2
  rw [cellsB_take] at r1
  have ls1 : (l.take 20).length ≤ 256 := by simp; omega
  have ls2 : (l.drop 24).length ≤ 256 := by simp; omega
  obtain ⟨m1, em1⟩ : ∃ m, m = l.take 20 := ⟨_, rfl⟩
  obtain ⟨m2, em2⟩ : ∃ m, m = l.drop 24 := ⟨_, rfl⟩
  rw [← em1] at r1 ls1
  rw [← em2] at r2 ls2
  have es : pgSum l = crcOf (m1 ++ m2) := by rw [em1, em2]; rfl
  rw [es]
  obtain ⟨m, em⟩ : ∃ m, m = m1 ++ m2 := ⟨_, rfl⟩
  rw [← em]
  have Em := Lib.hid em
  clear em
  have Hr1 := Lib.hid (r1.more hB)
  have Hr2 := Lib.hid (r2.more hB)
  clear r1 r2 em1 em2 es ex2 hl
  go_enter Try.func21, Try.ntmps21
  go_wp2_with fail
  go_region_law (first
    | (refine step_append_rd rfl (.tmp 3) (.tmp 5) 23 (by rfl) w.heap.size 5 i _ 1 Try.underlying23 hi hz0 hz1 hz2 rfl _ [] (by rfl) (Mine.empty w.drew _ 5 (Nat.le_refl _)) w.heap.size _ _ (by rfl) ((Hr1.out.drew).alloc (Nat.le_refl _) _) (cellsB_one _) (by rw [cellsB_length]; simp; omega) (by unfold maxLen; rw [cellsB_length]; simp; omega) (by simp) ?_; intro v1 w1 hown1 hbel1 _ _; rw [List.nil_append] at hown1; have hb1 := (up_alloc (up_drew (Below.refl w.heap.size w)) _).trans hbel1)
    | (go_simp; go_at_call 27; refine (crcRefSum_any _ _ m _ _ hr3).mono ?_; rintro e w' ⟨rfl, rfl⟩)
    | (refine step_append_rd rfl (.tmp 6) (.tmp 8) 23 (by rfl) w.heap.size 5 i _ 1 Try.underlying23 hi hz0 hz1 hz2 rfl _ _ (by rfl) hown1 w.heap.size _ _ (by rfl) (Hr2.out.below hb1) (cellsB_one _) (by rw [cellsB_length, cellsB_length]; simp; omega) (by unfold maxLen; rw [cellsB_length, cellsB_length]; simp; omega) hb1.size ?_; intro v2 w2 hown2 hbel2 _ _; rw [← cellsB_append] at hown2; have hr3 := hown2.rd; rw [← Em.out] at hr3; obtain ⟨A3, c3, rfl, _, _, hr3⟩ := hr3.bytes))
  go_wp2_with fail
  go_ret
  exact ⟨rfl, hb1.trans hbel2⟩

/-- An empty slice that is not nil. -/
theorem rd_empty (w : World) (B g : Nat) : Rd w B (.slice (some ⟨g, 0, none⟩) 0 0) (cellsB []) := ⟨_, 0, rfl, Nat.le_refl _, Nat.zero_le _, (fun h => by cases h), fun h => absurd h (by simp [cellsB])⟩
set_option maxHeartbeats 1000000 in
theorem refEnc_arg (no kind gen : Int) (A : Option Addr) (n c : Nat) (w : World) (h : (no < 0 ∨ 1599 < no) ∨ kind < 1 ∨ 4 < kind) :
    Calls Try.prog 9 #[.int .i64 no, pgVal kind gen (.slice A n c)] w fun e w' => ∃ A' c', e = .returned (.tuple #[.slice A' 0 c', .int .i64 1]) ∧ Rd w' w'.heap.size (.slice A' 0 c') (cellsB []) ∧ Below w.heap.size w w' := by
  obtain ⟨c0, _, _⟩ := pgBox_cells w kind gen (.slice A n c)
  by_cases h1 : no < 0
  · clear h
    go_enter Try.func9, Try.ntmps9
    go_wp2_with fail
    go_ret2
    exact ⟨_, _, rfl, rd_empty _ _ _, ((Below.refl _ _).alloc (Nat.le_refl _) _).alloc (by simp) _⟩
  · by_cases h2 : 1599 < no
    · clear h
      go_enter Try.func9, Try.ntmps9
      go_wp2_with fail
      go_ret2
      exact ⟨_, _, rfl, rd_empty _ _ _, ((Below.refl _ _).alloc (Nat.le_refl _) _).alloc (by simp) _⟩
    · by_cases h3 : kind < 1
      · clear h
        go_enter Try.func9, Try.ntmps9
        go_wp2_with fail
        go_ret2
        exact ⟨_, _, rfl, rd_empty _ _ _, ((Below.refl _ _).alloc (Nat.le_refl _) _).alloc (by simp) _⟩
      · have h4 : 4 < kind := by omega
        clear h
        go_enter Try.func9, Try.ntmps9
        go_wp2_with fail
        go_ret2
        exact ⟨_, _, rfl, rd_empty _ _ _, ((Below.refl _ _).alloc (Nat.le_refl _) _).alloc (by simp) _⟩
set_option maxHeartbeats 1000000 in
theorem refEnc_long (no kind gen : Int) (A : Option Addr) (n c : Nat) (w : World) (h1 : 0 ≤ no) (h2 : no ≤ 1599) (h3 : 1 ≤ kind) (h4 : kind ≤ 4) (hn : 232 < n) (hn2 : n ≤ 9223372036854775807) :
    Calls Try.prog 9 #[.int .i64 no, pgVal kind gen (.slice A n c)] w fun e w' => ∃ A' c', e = .returned (.tuple #[.slice A' 0 c', .int .i64 10]) ∧ Rd w' w'.heap.size (.slice A' 0 c') (cellsB []) ∧ Below w.heap.size w w' := by
  obtain ⟨c0, _, c2⟩ := pgBox_cells w kind gen (.slice A n c)
  have d1 : decide (no < 0) = false := by simp; omega
  have d2 : decide (1599 < no) = false := by simp; omega
  have d3 : decide (kind < 1) = false := by simp; omega
  have d4 : decide (4 < kind) = false := by simp; omega
  go_enter Try.func9, Try.ntmps9
  go_wp2_with fail
  go_ret2
  exact ⟨_, _, rfl, rd_empty _ _ _, ((Below.refl _ _).alloc (Nat.le_refl _) _).alloc (by simp) _⟩
/-- The document's Put, what it gives under a name; a cell of an elder block is as it was. -/
theorem refPut_to {l l' : List UInt8} {n s : Nat} (e : l' = l ++ be s n) {A : Option Addr} {c : Nat} {w : World} {N : Nat} {u : Value} (hr : Rd w w.heap.size (.slice A l.length c) (cellsB l)) (hl : l.length ≤ 1000) (hn : n < 18446744073709551616) (h1 : 1 ≤ s) (h2 : s ≤ 8)
    (hN : N < w.heap.size) (hc : w.cell? ⟨N, 1, none⟩ = some u) :
    Calls Try.prog 19 #[.slice A l.length c, .int .u64 n, .int .i64 s] w fun e w' => ∃ A' c', e = .returned (.slice A' l'.length c') ∧ Mine w' w.heap.size 5 (.slice A' l'.length c') (cellsB l') ∧ Below w.heap.size w w' ∧ w'.cell? ⟨N, 1, none⟩ = some u ∧ N < w'.heap.size := by
  refine (refPut_any A c l n s w w.heap.size hr (Nat.le_refl _) (by omega) hn h1 h2).mono ?_
  rintro e' w' ⟨v', rfl, h3, h4⟩
  rw [← e] at h3
  obtain ⟨A', c', rfl, _, _, _⟩ := h3.rd.bytes
  exact ⟨A', c', rfl, h3, h4, (h4.cell (p := ⟨N, 1, none⟩) hN).trans hc, Nat.lt_of_lt_of_le hN h4.size⟩
/-- How long a slice value is. -/
def sliceLen : Value → Nat
  | .slice _ n _ => n
  | _ => 0
/-- Where a slice of the call's own that is not empty lies. -/
theorem Mine.head {w : World} {base : Nat} {e : TypeId} {A : Option Addr} {n c : Nat} {xs : List Value} (h : Mine w base e (.slice A n c) xs) (hp : 0 < n) : ∃ g, A = some ⟨g, 0, none⟩ ∧ base ≤ g ∧ g < w.heap.size := by
  have hlt := World.ownsRow.lt h
  rcases h.2 with ⟨e1, hn⟩ | ⟨g, cap, cur, e1, hbg, hg, hnc, hcm, hcs, htake⟩
  · injection e1 with e1 e2 e3; omega
  · injection e1 with e1 e2 e3
    subst e1
    exact ⟨g, rfl, hlt g rfl⟩
theorem spl_zero (l : List UInt8) (a : Nat) : spl l a [] = l := by simp [spl]
theorem spl_set (l q : List UInt8) (a r : Nat) (hr : r < q.length) (h : a + q.length ≤ l.length) :
    (cellsB (spl l a (q.take r))).set (a + r) (.int .u8 (q[r].toNat : Int)) = cellsB (spl l a (q.take (r + 1))) := by
  have ht : (q.take r).length = r := by simp; omega
  have ht2 : (q.take (r + 1)).length = r + 1 := by simp; omega
  have e0 : l.drop (a + r) = l[a + r]'(by omega) :: l.drop (a + r + 1) := List.drop_eq_getElem_cons (by omega)
  have e : (spl l a (q.take r)).set (a + r) q[r] = spl l a (q.take (r + 1)) := by
    unfold spl
    rw [ht, ht2, List.set_append_right _ _ (by simp; omega), List.set_append_right _ _ (by simp; omega)]
    have e1 : a + r - (l.take a).length - (q.take r).length = 0 := by simp; omega
    rw [e1, e0, List.set_cons_zero, List.take_succ_eq_append_getElem hr, List.append_assoc]
    rfl
  rw [← e]
  unfold cellsB
  rw [List.map_set]
theorem be_byte (x : UInt8) : be 1 x.toNat = [x] := by simp [be]
theorem refRaw_is (x : UInt8) (no gen k : Nat) (body : List UInt8) (hb : body.length ≤ 232) (hl : (([83, 84, 78, 67, 1, x] ++ be 2 body.length ++ be 4 no ++ be 8 gen ++ be 4 0 ++ body) ++ List.replicate k 0).length = 256) :
    (([83, 84, 78, 67, 1, x] ++ be 2 body.length ++ be 4 no ++ be 8 gen ++ be 4 0 ++ body) ++ List.replicate k 0) = pgRaw x.toNat no gen body := by
  have hk : k = 232 - body.length := by simp [be_length] at hl; omega
  rw [pgRaw_is _ _ _ _ hb, hk]
  unfold pgFront pgRest
  rw [be_byte, show be 1 1 = [1] by decide, show be 4 0 = List.replicate 4 0 by decide]
  simp [List.append_assoc]
theorem rd_six (w : World) (x : UInt8) : Rd (w.alloc (.cells #[.int .u8 83, .int .u8 84, .int .u8 78, .int .u8 67, .int .u8 1, .int .u8 (x.toNat : Int)] 5)) (w.heap.size + 1) (.slice (some ⟨w.heap.size, 0, none⟩) 6 6) (cellsB [83, 84, 78, 67, 1, x]) :=
  rd_const w 5 (0, 0) [83, 84, 78, 67, 1, x] (by unfold maxLen; simp)
set_option maxHeartbeats 1000000 in
set_option maxRecDepth 100000 in
theorem refEnc_ok (no gen : Nat) (x : UInt8) (A : Option Addr) (body : List UInt8) (c : Nat) (w : World) (B : Nat) (hr : Rd w B (.slice A body.length c) (cellsB body)) (hB : B ≤ w.heap.size)
    (h2 : no ≤ 1599) (h3 : 1 ≤ x.toNat) (h4 : x.toNat ≤ 4) (hn : body.length ≤ 232) (hgen : gen < 18446744073709551616) :
    Calls Try.prog 9 #[.int .i64 (no : Int), pgVal x.toNat gen (.slice A body.length c)] w fun e w' => ∃ v', e = .returned (.tuple #[v', .int .i64 0]) ∧ Mine w' w.heap.size 5 v' (cellsB (pgBytes x.toNat no gen body)) ∧ Below w.heap.size w w' := by
  obtain ⟨c0, c1, c2⟩ := pgBox_cells w x.toNat gen (.slice A body.length c)
  obtain ⟨i, hi, hz0, hz1, hz2⟩ := info_parts info_u8
  have hno : (no : Int) ≤ 1599 := by omega
  have d1 : decide ((no : Int) < 0) = false := by simp
  have d2 : decide (1599 < (no : Int)) = false := by simp; omega
  have d3 : decide ((x.toNat : Int) < 1) = false := by simp; omega
  have d4 : decide (4 < (x.toNat : Int)) = false := by simp; omega
  have d5 : decide (232 < (body.length : Int)) = false := by simp; omega
  have h4' : (x.toNat : Int) ≤ 4 := by omega
  have hbn : (body.length : Int) ≤ 232 := by omega
  obtain ⟨W, hW⟩ : ∃ W, W = w.alloc (.cells #[.int .i64 (x.toNat : Int), .int .u64 (gen : Int), .slice A body.length c] 25) := ⟨_, rfl⟩
  have hWs : W.heap.size = w.heap.size + 1 := by rw [hW]; simp
  have hbw : Below w.heap.size w W := by rw [hW]; exact (Below.refl _ _).alloc (Nat.le_refl _) _
  have hrW := hr.below (hbw.mono hB)
  have Hgen := Kept.mk hgen
  obtain ⟨l1, e1⟩ : ∃ l, l = [83, 84, 78, 67, 1, x] ++ be 2 body.length := ⟨_, rfl⟩
  have E1 := Lib.hid e1
  have hl1 : l1.length = 8 := by rw [e1]; simp [be_length]
  have Hl1 := Lib.hid hl1
  replace hl1 : l1.length ≤ 1000 := by omega
  obtain ⟨l2, e2⟩ : ∃ l, l = l1 ++ be 4 no := ⟨_, rfl⟩
  have hl2 : l2.length ≤ 1000 := by rw [e2]; simp [be_length, Hl1.out]
  have E2 := Lib.hid e2
  obtain ⟨l3, e3⟩ : ∃ l, l = l2 ++ be 8 gen := ⟨_, rfl⟩
  have hl3 : l3.length ≤ 1000 := by rw [e3, e2]; simp [be_length, Hl1.out]
  have E3 := Lib.hid e3
  obtain ⟨l4, e4⟩ : ∃ l, l = l3 ++ be 4 0 := ⟨_, rfl⟩
  have hl4 : l4.length = 24 := by rw [e4, e3, e2]; simp [be_length, Hl1.out]
  have E4 := Lib.hid e4
  have Hl4 := Lib.hid hl4
  replace hl4 : l4.length ≤ 1000 := by omega
  clear e2 e3 e4
  clear hgen e1
  go_enter Try.func9, Try.ntmps9
  go_wp2_with fail
  have six := rd_six W x
  rw [hW] at six
  refine (refPut_any _ _ [83, 84, 78, 67, 1, x] body.length 2 _ _ (by simpa using six) (by simp) (by simp) (by omega) (by omega) (by omega)).mono ?_
  rw [← E1.out]
  rintro e w1 ⟨v1, rfl, hown1, hbel1⟩
  have hB1 : Below (w.heap.size + 1) W w1 := by rw [hW]; exact ((Below.refl _ _).alloc (by simp) _).trans (hbel1.mono (by simp))
  have hown1 := hown1.weaken (base' := w.heap.size + 1) (by simp)
  have p1 : W.cell? ⟨w.heap.size, 1, none⟩ = some (.int .u64 (gen : Int)) := by rw [hW]; exact c1
  have p2 : W.cell? ⟨w.heap.size, 2, none⟩ = some (.slice A body.length c) := by rw [hW]; exact c2
  have q1 := (hB1.cell (p := ⟨w.heap.size, 1, none⟩) (Nat.lt_succ_self _)).trans p1
  have n1 : w.heap.size < w1.drew.heap.size := by have := hB1.size; show w.heap.size < w1.heap.size; omega
  obtain ⟨A1, k1, rfl, _, _, hr1⟩ := hown1.rd.bytes
  have Hw := Lib.hid hW
  clear c0 c1 c2 hbel1 hW six
  go_wp2_with fail
  have wno : IntKind.u64.wrap (no : Int) = (no : Int) := IntWalk.u64_in _ (by omega)
  go_region_held3 (fun w' => w'.cell? ⟨w.heap.size, 1, none⟩ = some (.int .u64 (gen : Int)))
    (first | exact s4 | exact s3 | exact s2 | exact q1)
    (first
    | ((have h := s3; clear h; go_at_call 19; refine (refPut_to E4.out hown3.rd hl3 (by omega) (by omega) (by omega) n3 s3).mono ?_; rintro e w4 ⟨A4, k4, rfl, hown4, hbel4, s4, n4⟩))
    | ((have h := s2; clear h; go_at_call 19; refine (refPut_to E3.out hown2.rd hl2 Hgen.out (by omega) (by omega) n2 s2).mono ?_; rintro e w3 ⟨A3, k3, rfl, hown3, hbel3, s3, n3⟩))
    | ((go_at_call 19; refine (refPut_to (w := w1.drew) E2.out hown1.rd.drew hl1 (by omega) (by omega) (by omega) n1 q1).mono ?_; rintro e w2 ⟨A2, k2, rfl, hown2, hbel2, s2, n2⟩)))
  clear wno
  have hB2 : Below (w.heap.size + 1) W w2 := (hB1.drew).trans (hbel2.mono n1)
  have hB3 : Below (w.heap.size + 1) W w3 := hB2.trans (hbel3.mono n2)
  have hB4 : Below (w.heap.size + 1) W w4 := hB3.trans (hbel4.mono n3)
  have hown := hown4.weaken (base' := w.heap.size + 1) n3
  have c2 := (hB4.cell (p := ⟨w.heap.size, 2, none⟩) (Nat.lt_succ_self _)).trans p2
  have hrb : Rd w4 B (.slice A body.length c) (cellsB body) := hrW.below (hB4.mono (by omega))
  have hn4 : w.heap.size + 1 ≤ w4.heap.size := n4
  have hlen5 : (cellsB l4).length + (cellsB body).length ≤ 256 := by rw [cellsB_length, cellsB_length, Hl4.out]; omega
  clear hB1 hB2 hB3 hbel2 hbel3 hbel4 hown1 hown2 hown3 hown4 s2 s3 s4 q1 n1 n2 n3 p1 hr1
  go_wp2_with (at_builtin; refine wpList_append_rd rfl (.tmp 48) (.tmp 50) 23 rfl (w.heap.size + 1) 5 i _ 1 Try.underlying23 hi hz0 hz1 hz2 rfl _ _ rfl hown B _ _ rfl hrb (cellsB_one _) (by omega) (by unfold maxLen; omega) hn4 ?_; intro v5 w5 hown5 hbel5 hx1 hx2; clear hx1 hx2)
  have hw5 : w.heap.size + 1 ≤ w5.heap.size := Nat.le_trans hn4 hbel5.size
  go_loopw [6] (fun v wr => ∃ (l : List UInt8) (A' : Option Addr) (c' : Nat), l.length ≤ 256 ∧ (∃ k, l = (l4 ++ body) ++ List.replicate k 0) ∧ v = .slice A' l.length c' ∧ Mine wr (w.heap.size + 1) 5 v (cellsB l) ∧ Below (w.heap.size + 1) w4 wr) (fun v _ => 256 - sliceLen v)
  case atStart =>
    rw [← cellsB_append] at hown5
    obtain ⟨A5, k5, rfl, _, _, _⟩ := hown5.rd.bytes
    exact ⟨l4 ++ body, A5, k5, by simp [Hl4.out]; omega, ⟨0, by simp⟩, rfl, hown5, hbel5⟩
  case round =>
    obtain ⟨l, A6, k6, hl, hk, rfl, hown6, hbel6⟩ := hrel
    have Hk := Lib.hid hk
    have hs6 := hbel6.size
    clear hk
    by_cases hlt : l.length < 256
    · go_wp2_with (at_builtin; refine wpList_append_rd rfl (.tmp 55) (.tmp 56) 23 rfl (w.heap.size + 1) 5 i _ 1 Try.underlying23 hi hz0 hz1 hz2 rfl _ _ rfl (hown6.alloc _) _ _ [.int .u8 0] rfl (Mine.lit wr (w.heap.size + 1) 5 #[.int .u8 0] 1 (by omega) rfl (by unfold maxLen; omega)).rd (cellsB_one [0]) (by rw [cellsB_length]; simp; omega) (by unfold maxLen; rw [cellsB_length]; simp; omega) (by simp; omega) ?_; intro v7 w7 hown7 hbel7 hx1 hx2; clear hx1 hx2)
      go_roundw
      case rel =>
        have e : cellsB l ++ [Value.int .u8 0] = cellsB (l ++ [0]) := by rw [cellsB_append]; rfl
        rw [e] at hown7
        obtain ⟨A7, k7, rfl, _, _, _⟩ := hown7.rd.bytes
        obtain ⟨k, hk⟩ := Hk.out
        exact ⟨l ++ [0], A7, k7, by simp; omega, ⟨k + 1, by rw [hk, List.append_assoc, List.replicate_succ']⟩, rfl, hown7, (hbel6.alloc (by omega) _).trans hbel7⟩
      case measure =>
        have e : cellsB l ++ [Value.int .u8 0] = cellsB (l ++ [0]) := by rw [cellsB_append]; rfl
        rw [e] at hown7
        obtain ⟨A7, k7, rfl, _, _, _⟩ := hown7.rd.bytes
        simp [sliceLen]; omega
    · have hl256 : l.length = 256 := by omega
      have Hl := Lib.hid hl256
      have hg : 0 < (cellsB l).length := by rw [cellsB_length]; omega
      clear hl256 hl
      obtain ⟨q, hq⟩ : ∃ q, q = be 4 (pgSum l) := ⟨_, rfl⟩
      have hql : q.length = 4 := by rw [hq, be_length]
      have Hq := Lib.hid hq
      have Hql := Lib.hid hql
      clear hq hql
      have hsl := crcOf_lt (l.take 20 ++ l.drop 24)
      have hs1 : pgSum l < 4294967296 := hsl
      have wv : IntKind.u64.wrap ((pgSum l : Nat) : Int) = ((pgSum l : Nat) : Int) := IntWalk.u64_in _ (by omega)
      have Hs1 := Kept.mk hs1
      clear hsl hs1
      go_wp2_with fail
      refine (refPgSum_any _ _ l _ _ hown6.rd (Nat.le_refl _) Hl.out).mono ?_
      rintro e w8 ⟨rfl, hb8⟩
      go_wp2_with fail
      refine (refNum_any (pgSum l) 4 _ (by have := Hs1.out; omega) (by omega) (by omega)).mono ?_
      rintro e w9 ⟨v9, rfl, hown9, hb9⟩
      rw [← Hq.out] at hown9
      obtain ⟨A9, k9, rfl, _, _, hr9⟩ := hown9.rd.bytes
      clear wv
      go_wp2_with fail
      obtain ⟨g, rfl, hg1, hg2⟩ := hown6.head (by rw [cellsB_length] at hg; exact hg)
      obtain ⟨g9, rfl, hg3, hg4⟩ := hown9.head (by rw [Hql.out]; omega)
      have hs8 := hb8.size
      have hs9 := hb9.size
      have hown6' := (hown6.kept hb8).kept hb9
      have hbel9 := (hbel6.trans (hb8.mono (by omega))).trans (hb9.mono (by omega))
      have hne : g < g9 := by omega
      have hown9' := hown9.weaken (base' := w.heap.size + 1) (by omega)
      clear hown6 hown9 hb8 hb9 hbel6 hr9 hs6 hg2 hg4 hs8 hs9 hg3
      go_loopw [8] (fun iv wr => ∃ r : Nat, r ≤ 4 ∧ iv = .int .i64 (r : Int) ∧ Mine wr (w.heap.size + 1) 5 (.slice (some ⟨g, 0, none⟩) l.length k6) (cellsB (spl l 20 (q.take r))) ∧ Mine wr (w.heap.size + 1) 5 (.slice (some ⟨g9, 0, none⟩) q.length k9) (cellsB q) ∧ Below (w.heap.size + 1) w4 wr) (fun iv _ => 4 - (intOf iv).toNat)
      case atStart => exact ⟨0, by omega, rfl, by rw [List.take_zero, spl_zero]; exact hown6', hown9', hbel9⟩
      case round =>
        obtain ⟨r, hr4, rfl, ho6, ho9, hbr⟩ := hrel
        clear hown6' hown9' hbel9
        by_cases hlr : r < 4
        · have hrq : r < q.length := by rw [Hql.out]; exact hlr
          have hsl : (spl l 20 (q.take r)).length = 256 := by rw [spl_length _ _ _ (by simp [Hl.out, Hql.out]; omega), Hl.out]
          have hcx := ho6.cellAt (cellsB_at (spl l 20 (q.take r)) (20 + r) (by rw [hsl]; omega))
          have hcy := ho9.cellAt (cellsB_at q r hrq)
          have hset := spl_set l q 20 r hrq (by rw [Hl.out, Hql.out]; omega)
          have hidx : 20 + r < l.length := by rw [Hl.out]; omega
          obtain ⟨u, hu⟩ : ∃ u, u = (spl l 20 (q.take r))[20 + r]'(by rw [hsl]; omega) := ⟨_, rfl⟩
          obtain ⟨y, hy⟩ : ∃ y, y = q[r] := ⟨_, rfl⟩
          rw [← hu] at hcx
          rw [← hy] at hcy hset
          have hfr := ho6.free (20 + r)
          have hown6n := ho6.stored (20 + r) (.int .u8 (y.toNat : Int))
          rw [hset] at hown6n
          have hown9n := ho9.grown (Lib.grownBy_setCell _ g (20 + r) (.int .u8 (y.toNat : Int))) (.inr fun e => by injection e with e; have e' : g9 = g := e; omega)
          have hbrn := hbr.setCell (p := ⟨g, 20 + r, none⟩) hg1 (.int .u8 (y.toNat : Int))
          clear hset hu hy hsl ho6 ho9 hbr
          have hidx' : (20 : Int) + (r : Int) < (l.length : Int) := by omega
          go_wp2_with fail
          go_roundw
          case rel => exact ⟨r + 1, by omega, by go_num, hown6n, hown9n, hbrn⟩
          case measure => simp [intOf]; omega
        · have h4 : r = 4 := by omega
          subst h4
          go_wp2_with fail
          go_ret2
          refine ⟨_, rfl, ?_, ?_⟩
          · obtain ⟨k, hk⟩ := Hk.out
            have hL := Hl.out
            rw [hk, E4.out, E3.out, E2.out, E1.out] at hL
            have hraw := refRaw_is x no gen k body hn hL
            have hlr : l = pgRaw x.toNat no gen body := by rw [hk, E4.out, E3.out, E2.out, E1.out]; exact hraw
            have hq4 : q.take 4 = q := List.take_of_length_le (by rw [Hql.out]; omega)
            have hfin : spl l 20 (q.take 4) = pgBytes x.toNat no gen body := by rw [hq4, Hq.out, hlr, pgRaw_sum _ _ _ _ hn]
            rw [hfin] at ho6
            exact ho6.weaken (Nat.le_succ _)
          · exact hbw.trans ((hB4.trans hbr).mono (Nat.le_succ _))
end Go.Proofs.Ytnbmcecmdokogaa
