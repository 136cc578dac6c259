/-
  CacheThrough: its walk.
-/
import Derived.Test.YtfjcblppmoomdaaCacheThroughStart
namespace Go.Proofs.Ytfjcblppmoomdaa
open Go.RowKit
set_option maxRecDepth 100000 in
set_option maxHeartbeats 4000000 in
theorem cacheThrough_walk (v : Value) (l : List Act3) (w : World) (h : Acts3 w v l) :
    Calls Try.prog 4 #[v] w fun e w' => e = .returned (.bool true) ∧ Below w.heap.size w w' := by
  obtain ⟨A, cl, rfl, p1, p2, p3⟩ := h.at_
  obtain ⟨n, hn⟩ : ∃ n, n = l.length := ⟨_, rfl⟩
  rw [← hn] at p1 ⊢
  have Hl : Hid (∀ k (_ : k < n), ∃ b o kind no by_, A = some ⟨b, o, none⟩ ∧ ∀ w', Below w.heap.size w w' →
    w'.cell? ⟨b, o + k * 3, none⟩ = some (.int .i64 kind) ∧ w'.cell? ⟨b, o + k * 3 + 1, none⟩ = some (.int .i64 no) ∧ w'.cell? ⟨b, o + k * 3 + 2, none⟩ = some (.int .u8 ((by_ : UInt8).toNat : Int))) := Lib.hid fun k hk => by
    obtain ⟨b, o, e1, e2⟩ := p3 k (hn ▸ hk)
    exact ⟨b, o, _, _, _, e1, e2⟩
  have Hnew := Lib.hid (new_ok (n := 24) w (fun k => w.heap.size ≤ k) ⟨by omega, by omega⟩ (fun k hk => hk))
  have Hcn := Lib.hid (thr_new w)
  obtain ⟨Z, hZ, hz0, hz1, hz2, hz3⟩ := zero24
  rw [← hZ] at Hcn
  have Hz2 := Lib.hid hz2
  have Hz3 := Lib.hid hz3
  clear h p3 hn hZ hz2 hz3
  go_enter Try.func4, Try.ntmps4
  go_wp2_with (first
    | (go_at_call 8; refine Hnew.out.mono ?_; rintro e w1 ⟨rfl, hd1, hb1⟩; have Hd1 := Lib.hid hd1; have Hb1 := Lib.hid hb1; clear hd1 hb1)
    | (go_at_call 9; refine (Hcn.out _ _ _ _ _ _ Hd1.out Hb1.out).mono ?_; rintro e w2 ⟨c, bf, rfl, hw2, hb2⟩; have Hw2 := Lib.hid hw2; have Hb2 := Lib.hid hb2; clear hw2 hb2)
    | ((with_reducible refine wpList_run (o := ⟨some 31, .build 56 #[], _, _, _, none⟩) rfl (.agg Z) w2 ?_ ?_); exact exec_build0 rfl (hz1 _))
    | (with_reducible refine wpList_alloc_zero (o := ⟨some 7, .alloc 56, _, _, _, _⟩) rfl 56 rfl Z hz0 ?_)
    | ((with_reducible refine wpList_store_new (o := ⟨none, .store 56 (.tmp 7) (.tmp 31), _, _, _, _⟩) rfl 56 (.tmp 7) (.tmp 31) rfl Z Z ?_ ?_ Hz2.out rfl Hz3.out ?_); exact rfl; exact rfl))
  obtain ⟨g, hg⟩ : ∃ g, g = w2.heap.size := ⟨_, rfl⟩
  obtain ⟨p, hpp⟩ : ∃ p, p = w.heap.size + 2 := ⟨_, rfl⟩
  rw [← hg]
  have HS0 : Hid (∃ hs x d, Thr w (w2.alloc (.cells Z 56)) (fun _ => False) g c bf p hs (ofBytes hs) (20 * 0) x d) := Lib.hid (by
    obtain ⟨x, d, hT⟩ := Hw2.out
    rw [hg, hpp]
    exact ⟨_, x, d, hT⟩)
  have Hz : Hid (w.heap.size ≤ g) := Lib.hid (by rw [hg]; exact Hb2.out.size)
  clear Hw2 Hb2 Hd1 Hb1 Hnew Hcn Hz2 Hz3 hz0 hz1 hg
  go_loopw [8] (fun iv wr => ∃ (k : Nat), k ≤ n ∧ k ≤ 60 ∧ iv = .int .i64 (k : Int) ∧ Hid (∃ hs x d, Thr w wr (fun _ => False) g c bf p hs (ofBytes hs) (20 * k) x d)) (fun iv _ => n - (intOf iv).toNat)
  case atStart => exact ⟨0, by omega, by omega, rfl, HS0⟩
  case round =>
    obtain ⟨k, hkn, hk60, rfl, HS⟩ := hrel
    obtain ⟨hs, x, d, hT⟩ := HS.out
    have hlow := hT.lw.low
    by_cases hgo : k < n ∧ k < 60
    · obtain ⟨hk1, hk2⟩ := hgo
      obtain ⟨b, o, kind, no, by_, rfl, hcell⟩ := Hl.out k hk1
      obtain ⟨c0, c1, c2⟩ := hcell wr hlow
      obtain ⟨ga, hga⟩ : ∃ ga, ga = wr.heap.size := ⟨_, rfl⟩
      obtain ⟨e3, he3⟩ : ∃ e3, kind.tmod 3 = e3 := ⟨_, rfl⟩
      have HT := Lib.hid hT
      have Hfull := Lib.hid (cfull_any by_)
      have Hmade : Hid (∀ (no : Int) (w3 : World), Below wr.heap.size wr w3 → w3.heap[ga]? = some (.cells #[.int .i64 kind, .int .i64 no, .int .u8 (by_.toNat : Int)] 37 (0, 0)) → Thr w w3 (fun k => k = ga) g c bf p hs (ofBytes hs) (20 * k) x d) := Lib.hid fun no w3 hb hh =>
        hT.more hb fun k hk => .inr (by have := (Array.getElem?_eq_some_iff.1 hh).1; omega)
      clear hT hcell HS hlow
      have HT0 := HT
      have Hgaw := Lib.hid (show wr.heap.size ≤ ga by omega)
      have hr : (∃ m : Nat, no = (m : Int) ∧ m < 24) ∨ (no < 0) ∨ (0 ≤ no ∧ 24 ≤ no) := by
        by_cases h1 : no < 0
        · exact .inr (.inl h1)
        · by_cases h2 : 24 ≤ no
          · exact .inr (.inr ⟨by omega, h2⟩)
          · exact .inl ⟨no.toNat, by omega, by omega⟩
      by_cases h31 : e3 = 1
      · subst h31
        rcases hr with ⟨m, rfl, hm⟩ | hr | ⟨hr0, hr⟩
        · have Hm := Lib.hid hm
          have r1 : ¬ 24 ≤ (m : Int) := by omega
          have r2 : (m : Int) < 24 := by omega
          have r3 : (0 : Int) ≤ (m : Int) := by omega
          have hb3 : Below wr.heap.size wr (wr.alloc (.cells #[.int .i64 kind, .int .i64 (m : Int), .int .u8 (by_.toNat : Int)] 37)) := (Below.refl _ _).alloc (Nat.le_refl _) _
          have hh3 : (wr.alloc (.cells #[.int .i64 kind, .int .i64 (m : Int), .int .u8 (by_.toNat : Int)] 37)).heap[ga]? = some (.cells #[.int .i64 kind, .int .i64 (m : Int), .int .u8 (by_.toNat : Int)] 37 (0, 0)) := by rw [hga]; exact heap_alloc_last _ _
          go_wp2_with fail
          obtain ⟨w3, hw3⟩ : ∃ w3, w3 = (wr.alloc (.cells #[.int .i64 kind, .int .i64 (m : Int), .int .u8 (by_.toNat : Int)] 37)) := ⟨_, rfl⟩
          rw [← hw3] at hb3 hh3
          have HT3 := Lib.hid (Hmade.out _ w3 hb3 hh3)
          have Hh3 := Lib.hid hh3
          have Hga := Lib.hid (show ga < w3.heap.size from (Array.getElem?_eq_some_iff.1 hh3).1)
          have HC : Hid (∀ (w' : World), w'.heap[ga]? = w3.heap[ga]? → w'.cell? ⟨ga, 0, none⟩ = some (.int .i64 kind) ∧ w'.cell? ⟨ga, 1, none⟩ = some (.int .i64 (m : Int)) ∧ w'.cell? ⟨ga, 2, none⟩ = some (.int .u8 (by_.toNat : Int))) := Lib.hid fun w' e => by
            obtain ⟨a, b, c, _⟩ := act_cells (e.trans hh3)
            exact ⟨a, b, c⟩
          rw [← hga, ← hw3]
          clear hw3 hb3 hh3 Hmade hga c0 c1 c2
          refine wp_region_held_drew (S := fun w' : World => w'.cell? ⟨ga, 1, none⟩ = some (.int .i64 (m : Int)) ∧ w'.cell? ⟨ga, 2, none⟩ = some (.int .u8 (by_.toNat : Int))) (by kernel_rfl) (HC.out w3 rfl).2 (fun hHeld => ?_)
          refine' wpAnyH_take (i := 0) (oi := ⟨some 59, .move (.tmp 5), _, _, _, none⟩) (v := _) rfl (by kernel_rfl) (by kernel_rfl) (by kernel_rfl) (fun _ _ _ h => h) (Or.inl ⟨by rfl, ?hy1⟩) (by assumption) ?rest1
          case hy1 => (intro w hSw; obtain ⟨s1, s2⟩ := hSw; go_simp <;> with_reducible rfl)
          case rest1 =>
          go_frame
          refine' wpAnyH_take (i := 1) (oi := ⟨some 60, .fieldAddr 37 (.tmp 9) 1, _, _, _, none⟩) (v := _) rfl (by kernel_rfl) (by kernel_rfl) (by kernel_rfl) (fun _ _ _ h => h) (Or.inl ⟨by rfl, ?hy2⟩) (by assumption) ?rest2
          case hy2 => (intro w hSw; obtain ⟨s1, s2⟩ := hSw; go_simp <;> with_reducible rfl)
          case rest2 =>
          go_frame
          refine' wpAnyH_take (i := 2) (oi := ⟨some 61, .load 3 (.tmp 60), _, _, _, none⟩) (v := _) rfl (by kernel_rfl) (by kernel_rfl) (by kernel_rfl) (fun _ _ _ h => h) (Or.inl ⟨by rfl, ?hy3⟩) (by assumption) ?rest3
          case hy3 => (intro w hSw; obtain ⟨s1, s2⟩ := hSw; go_simp <;> with_reducible rfl)
          case rest3 =>
          go_frame
          refine' wpAnyH_take (i := 3) (oi := ⟨some 62, .fieldAddr 37 (.tmp 9) 2, _, _, _, none⟩) (v := _) rfl (by kernel_rfl) (by kernel_rfl) (by kernel_rfl) (fun _ _ _ h => h) (Or.inl ⟨by rfl, ?hy4⟩) (by assumption) ?rest4
          case hy4 => (intro w hSw; obtain ⟨s1, s2⟩ := hSw; go_simp <;> with_reducible rfl)
          case rest4 =>
          go_frame
          refine' wpAnyH_take (i := 4) (oi := ⟨some 63, .load 5 (.tmp 62), _, _, _, none⟩) (v := _) rfl (by kernel_rfl) (by kernel_rfl) (by kernel_rfl) (fun _ _ _ h => h) (Or.inl ⟨by rfl, ?hy5⟩) (by assumption) ?rest5
          case hy5 => (intro w hSw; obtain ⟨s1, s2⟩ := hSw; go_simp <;> with_reducible rfl)
          case rest5 =>
          go_frame
          refine wpAnyH_ready (rs := [5]) (by kernel_rfl) (by simp) (AllReadyH.cons (o := ⟨some 64, .call { callee := .value (.func 23), args := #[.tmp 63], argTypes := #[5] }, _, _, _, none⟩) rfl (fun K hK => ?_) AllReadyH.nil)
          rw [if_pos (by rfl)]
          go_simp
          refine (Hfull.out _).mono ?_
          rintro e w5 ⟨g5, rfl, hg5, hh5, hb5⟩
          have e5 : w5.heap[ga]? = w3.heap[ga]? := hb5.block ga Hga.out
          have hb5d : Below w3.heap.size w3 w5 := (up_drew (Below.refl w3.heap.size w3)).trans hb5
          have S5 := Lib.hid (HC.out w5 e5).2
          have E5 := Lib.hid e5
          have Hg5 := Lib.hid hg5
          have Hh5 := Lib.hid hh5
          have Hb5 := Lib.hid hb5d
          clear e5 hg5 hh5 hb5 hb5d
          dsimp only
          refine hK.out _ _ (S5.out) (fun _ => ?_)
          clear hK K
          try go_frame
          refine wpAnyH_ready (rs := [6]) (by kernel_rfl) (by simp) (AllReadyH.cons (o := ⟨some 65, .call { callee := .value (.func 22), args := #[.tmp 59, .tmp 61, .tmp 64], argTypes := #[27, 3, 51] }, _, _, _, none⟩) rfl (fun K hK => ?_) AllReadyH.nil)
          rw [if_pos (by rfl)]
          go_simp
          refine (HT3.out.put (by omega) Hm.out Hb5.out Hg5.out (List.length_replicate) Hh5.out).mono ?_
          rintro e w6 ⟨rfl, hs6, ho6, hl6⟩
          have e6 : w6.heap[ga]? = w3.heap[ga]? := (ho6 ga rfl).trans E5.out
          have S6 := Lib.hid (HC.out w6 e6).2
          have E6 := Lib.hid e6
          have HS6 := Lib.hid hs6
          clear e6 hs6 ho6 hl6
          dsimp only
          refine hK.out _ _ (S6.out) (fun _ => ?_)
          clear hK K
          try go_frame
          refine' wpAnyH_take (i := 7) (oi := ⟨some 66, .binOp .neq 24 (.tmp 65) (.const (.int .i64 0)) 24, _, _, _, none⟩) (v := _) rfl (by kernel_rfl) (by kernel_rfl) (by kernel_rfl) (fun _ _ _ h => h) (Or.inl ⟨by rfl, ?hy6⟩) (by assumption) ?rest6
          case hy6 => (intro w hSw; obtain ⟨s1, s2⟩ := hSw; go_simp <;> with_reducible rfl)
          case rest6 =>
          go_frame
          refine wpAnyH_done (by kernel_rfl) ?_ _
          obtain ⟨z0, z1, z2⟩ := HC.out w6 E6.out
          have zc : w6.cell? ⟨g, m, none⟩ = some (.int .u8 ((hs.getD m 0).toNat : Int)) := by
            obtain ⟨xg, dg, hTg⟩ := HS6.out
            exact hTg.cell Hm.out
          have zf : w6.frozen? ⟨g, m, none⟩ = false := by
            obtain ⟨xg, dg, hTg⟩ := HS6.out
            exact hTg.free _
          have hne : ga ≠ g := fun e => by
            have h2 := HT0.out.lw.blk g (.inl rfl)
            have h3 := Hgaw.out
            omega
          have hne2 : g ≠ ga := fun e => hne e.symm
          have HS7 : Hid (∃ x d, Thr w (w6.setCell ⟨g, m, none⟩ (.int .u8 (by_.toNat : Int))) (fun k => k = ga) g c bf p (hs.set m by_) (ofBytes (hs.set m by_)) (20 * k + 1) x d) := Lib.hid (by
            obtain ⟨xg, dg, hTg⟩ := HS6.out
            exact ⟨xg, dg, hTg.stored Hm.out⟩)
          have E7 : Hid ((w6.setCell ⟨g, m, none⟩ (.int .u8 (by_.toNat : Int))).heap[ga]? = w3.heap[ga]?) := Lib.hid ((heap_setCell_other w6 ⟨g, m, none⟩ ga _ hne).trans E6.out)
          go_wp2_with (go_at_call 25; obtain ⟨xg, dg, hTg⟩ := HS7.out; refine (hTg.get (by omega) Hm.out).mono ?_; rintro e w8 ⟨v8, rfl, hr8, hs8, ho8, hl8⟩; have E8 := Lib.hid ((ho8 ga rfl).trans E7.out); have Hr8 := Lib.hid hr8; have HS8 := Lib.hid hs8; clear hr8 hs8 ho8 hl8 hTg xg dg)
          have HS8t : Hid (∃ x d, Thr w w8 (fun k => k = ga) g c bf p (hs.set m by_) (ofBytes (hs.set m by_)) (20 * k + 1 + 1) x d) := HS8
          obtain ⟨b8, hb8⟩ : ∃ b8, b8 = (hs.set m by_).getD m 0 := ⟨_, rfl⟩
          obtain ⟨l8, hl8⟩ : ∃ l8, l8 = List.replicate 256 b8 := ⟨_, rfl⟩
          have Hr8l : Hid (Rd w8 w8.heap.size v8 (cellsB l8)) := Lib.hid (by rw [hl8, hb8]; exact Hr8.out)
          have Hl8 := Lib.hid (show l8.length = 256 by rw [hl8]; exact List.length_replicate)
          have Hfull8 : Hid (∀ w, Calls Try.prog 23 #[.int .u8 (b8.toNat : Int)] w fun e w' => ∃ g, e = .returned (.slice (some ⟨g, 0, none⟩) 256 256) ∧ w.heap.size ≤ g ∧ w'.heap[g]? = some (.cells (cellsB l8).toArray 5 (0, 0)) ∧ Below w.heap.size w w') := Lib.hid (by rw [hl8]; exact cfull_any b8)
          have HS8b : Hid (∀ (w' : World), Below w8.heap.size w8 w' → w'.cell? ⟨ga, 1, none⟩ = some (.int .i64 (m : Int)) ∧ w'.cell? ⟨g, m, none⟩ = some (.int .u8 (b8.toNat : Int))) := Lib.hid fun w' hb => by
            obtain ⟨xg, dg, hTg⟩ := HS8t.out
            have h1 : ga < w8.heap.size := (Array.getElem?_eq_some_iff.1 (E8.out.trans Hh3.out)).1
            refine ⟨(HC.out w' ((hb.block ga h1).trans E8.out)).2.1, ?_⟩
            rw [hb8]
            exact (hb.cell (p := ⟨g, m, none⟩) (Array.getElem?_eq_some_iff.1 hTg.arr).1).trans (hTg.cell Hm.out)
          have S8 := Lib.hid (HS8b.out w8 (Below.refl _ _))
          have Hheld : Hid (∀ (w' : World), Below w8.heap.size w8 w' → Calls Try.prog 15 #[at0 c] w' fun e w2 => ∃ A n' cc, e = .returned (.slice A n' cc) ∧ n' ≤ 8 ∧ n' ≤ cc ∧ cc ≤ 9223372036854775807 ∧ Below w'.heap.size w' w2) := Lib.hid fun w' hb => by
            obtain ⟨xg, dg, hTg⟩ := HS8t.out
            exact (hTg.more hb fun _ => .inl).held
          have Hnext : Hid (∀ (w' : World), Below w8.heap.size w8 w' → ∃ hs x d, Thr w w' (fun _ => False) g c bf p hs (ofBytes hs) (20 * (k + 1)) x d) := Lib.hid fun w' hb => by
            obtain ⟨xg, dg, hTg⟩ := HS8t.out
            exact ⟨_, xg, dg, (hTg.more hb fun _ e => e.elim).le (by omega)⟩
          have He0 := Lib.hid (string_of (P := Try.prog) 51 9 5 Try.underlying51 Try.underlying5 Try.underlying9 Hr8l.out (up_drew (Below.refl w8.heap.size w8)))
          replace Hr8 := Hr8l
          clear hb8 hl8 HS8 HS8t Hr8l
          refine wp_region_held_drew (S := fun w' : World => w'.cell? ⟨ga, 1, none⟩ = some (.int .i64 (m : Int)) ∧ w'.cell? ⟨g, m, none⟩ = some (.int .u8 (b8.toNat : Int))) (by kernel_rfl) S8.out (fun hHeld => ?_)
          refine' wpAnyH_take (i := 0) (oi := ⟨some 88, .move (.tmp 11), _, _, _, none⟩) (v := _) rfl (by kernel_rfl) (by kernel_rfl) (by kernel_rfl) (fun _ _ _ h => h) (Or.inl ⟨by rfl, ?hy7⟩) (by assumption) ?rest7
          case hy7 => (intro w hSw; obtain ⟨s1, s2⟩ := hSw; go_simp <;> with_reducible rfl)
          case rest7 =>
          go_frame
          refine' wpAnyH_take (i := 1) (oi := ⟨some 89, .binOp .neq 24 (.tmp 88) (.const (.int .i64 0)) 24, _, _, _, none⟩) (v := _) rfl (by kernel_rfl) (by kernel_rfl) (by kernel_rfl) (fun _ _ _ h => h) (Or.inl ⟨by rfl, ?hy8⟩) (by assumption) ?rest8
          case hy8 => (intro w hSw; obtain ⟨s1, s2⟩ := hSw; go_simp <;> with_reducible rfl)
          case rest8 =>
          go_frame
          refine' wpAnyH_take (i := 2) (oi := ⟨some 90, .move (.tmp 89), _, _, _, none⟩) (v := _) rfl (by kernel_rfl) (by kernel_rfl) (by kernel_rfl) (fun _ _ _ h => h) (Or.inl ⟨by rfl, ?hy9⟩) (by assumption) ?rest9
          case hy9 => (intro w hSw; obtain ⟨s1, s2⟩ := hSw; go_simp <;> with_reducible rfl)
          case rest9 =>
          go_frame
          refine' wpAnyH_take (i := 3) (oi := ⟨some 91, .move (.tmp 10), _, _, _, some (2, false)⟩) (v := _) rfl (by kernel_rfl) (by kernel_rfl) (by kernel_rfl) (fun _ _ _ h => h) (Or.inl ⟨by rfl, ?hy10⟩) (by assumption) ?rest10
          case hy10 => (intro w hSw; obtain ⟨s1, s2⟩ := hSw; go_simp <;> with_reducible rfl)
          case rest10 =>
          go_frame
          refine' wpAnyH_take (i := 5) (oi := ⟨some 93, .fieldAddr 37 (.tmp 9) 1, _, _, _, some (2, false)⟩) (v := _) rfl (by kernel_rfl) (by kernel_rfl) (by kernel_rfl) (fun _ _ _ h => h) (Or.inl ⟨by rfl, ?hy11⟩) (by assumption) ?rest11
          case hy11 => (intro w hSw; obtain ⟨s1, s2⟩ := hSw; go_simp <;> with_reducible rfl)
          case rest11 =>
          go_frame
          refine' wpAnyH_take (i := 6) (oi := ⟨some 94, .load 3 (.tmp 93), _, _, _, some (2, false)⟩) (v := _) rfl (by kernel_rfl) (by kernel_rfl) (by kernel_rfl) (fun _ _ _ h => h) (Or.inl ⟨by rfl, ?hy12⟩) (by assumption) ?rest12
          case hy12 => (intro w hSw; obtain ⟨s1, s2⟩ := hSw; go_simp <;> with_reducible rfl)
          case rest12 =>
          go_frame
          refine' wpAnyH_take (i := 7) (oi := ⟨some 95, .indexAddr 56 (.tmp 7) (.tmp 94), _, _, _, some (2, false)⟩) (v := _) rfl (by kernel_rfl) (by kernel_rfl) (by kernel_rfl) (fun _ _ _ h => h) (Or.inl ⟨by rfl, ?hy13⟩) (by assumption) ?rest13
          case hy13 => (intro w hSw; obtain ⟨s1, s2⟩ := hSw; go_simp <;> with_reducible rfl)
          case rest13 =>
          go_frame
          refine' wpAnyH_take (i := 8) (oi := ⟨some 96, .load 5 (.tmp 95), _, _, _, some (2, false)⟩) (v := _) rfl (by kernel_rfl) (by kernel_rfl) (by kernel_rfl) (fun _ _ _ h => h) (Or.inl ⟨by rfl, ?hy14⟩) (by assumption) ?rest14
          case hy14 => (intro w hSw; obtain ⟨s1, s2⟩ := hSw; go_simp <;> with_reducible rfl)
          case rest14 =>
          go_frame
          refine wpAnyH_ready (rs := [4, 9]) (by kernel_rfl) (by simp) (AllReadyH.cons (o := ⟨some 92, .convert 51 9 (.tmp 91), _, _, _, some (2, false)⟩) rfl (fun K hK => ?_) (AllReadyH.cons (o := ⟨some 97, .call { callee := .value (.func 23), args := #[.tmp 96], argTypes := #[5] }, _, _, _, some (2, false)⟩) rfl (fun K hK => ?_) AllReadyH.nil))
          · rw [if_pos (by rfl)]
            refine wp_run (.string ⟨l8.toArray⟩) w8.drew (exec_conv (s := 51) (t := 9) (x := .tmp 91) rfl (v := v8) rfl He0.out) ?_
            refine hK.out _ _ (S8.out) (fun _ => ?_)
            clear hK K
            try go_frame
            refine wpAnyH_ready (rs := [9]) (by kernel_rfl) (by simp) (AllReadyH.cons (o := ⟨some 97, .call { callee := .value (.func 23), args := #[.tmp 96], argTypes := #[5] }, _, _, _, some (2, false)⟩) rfl (fun K hK => ?_) AllReadyH.nil)
            rw [if_pos (by rfl)]
            go_simp
            refine (Hfull8.out _).mono ?_
            rintro e w9 ⟨g9, rfl, hg9, hh9, hb9⟩
            have hb9d : Below w8.heap.size w8 w9 := (up_drew (Below.refl w8.heap.size w8)).trans hb9
            have He1 := Lib.hid (string_of (P := Try.prog) 51 9 5 Try.underlying51 Try.underlying5 Try.underlying9 Hr8.out hb9d)
            have Hs9 := Lib.hid (string_of (P := Try.prog) 51 9 5 Try.underlying51 Try.underlying5 Try.underlying9 (rd_whole hh9 Hl8.out) (Below.refl _ _))
            have S9 := Lib.hid (HS8b.out w9 hb9d)
            have Hb9 := Lib.hid hb9d
            clear hg9 hh9 hb9 hb9d
            dsimp only
            refine hK.out _ _ (S9.out) (fun _ => ?_)
            clear hK K
            try go_frame
            refine wpAnyH_ready (rs := [10]) (by kernel_rfl) (by simp) (AllReadyH.cons (o := ⟨some 98, .convert 51 9 (.tmp 97), _, _, _, some (2, false)⟩) rfl (fun K hK => ?_) AllReadyH.nil)
            rw [if_pos (by rfl)]
            refine wp_run (.string ⟨l8.toArray⟩) w9 (exec_conv (s := 51) (t := 9) (x := .tmp 97) rfl (v := .slice (some ⟨g9, 0, none⟩) 256 256) rfl Hs9.out) ?_
            refine hK.out _ _ (S9.out) (fun _ => ?_)
            clear hK K
            try go_frame
            refine' wpAnyH_take (i := 11) (oi := ⟨some 99, .binOp .neq 9 (.tmp 92) (.tmp 98) 9, _, _, _, some (2, false)⟩) (v := _) rfl (by kernel_rfl) (by kernel_rfl) (by kernel_rfl) (fun _ _ _ h => h) (Or.inl ⟨by rfl, ?hy15⟩) (by assumption) ?rest15
            case hy15 => (intro w hSw; obtain ⟨s1, s2⟩ := hSw; go_simp <;> with_reducible rfl)
            case rest15 =>
            go_frame
            refine' wpAnyH_take (i := 12) (oi := ⟨some 100, .pick (.tmp 90) (.const (.bool true)) (.tmp 99), _, _, _, none⟩) (v := _) rfl (by kernel_rfl) (by kernel_rfl) (by kernel_rfl) (fun _ _ _ h => h) (Or.inl ⟨by rfl, ?hy16⟩) (by assumption) ?rest16
            case hy16 => (intro w hSw; obtain ⟨s1, s2⟩ := hSw; go_simp <;> with_reducible rfl)
            case rest16 =>
            go_frame
            refine' wpAnyH_take (i := 13) (oi := ⟨some 101, .move (.tmp 100), _, _, _, none⟩) (v := _) rfl (by kernel_rfl) (by kernel_rfl) (by kernel_rfl) (fun _ _ _ h => h) (Or.inl ⟨by rfl, ?hy17⟩) (by assumption) ?rest17
            case hy17 => (intro w hSw; obtain ⟨s1, s2⟩ := hSw; go_simp <;> with_reducible rfl)
            case rest17 =>
            go_frame
            refine' wpAnyH_take (i := 14) (oi := ⟨some 102, .move (.tmp 5), _, _, _, some (13, false)⟩) (v := _) rfl (by kernel_rfl) (by kernel_rfl) (by kernel_rfl) (fun _ _ _ h => h) (Or.inl ⟨by rfl, ?hy18⟩) (by assumption) ?rest18
            case hy18 => (intro w hSw; obtain ⟨s1, s2⟩ := hSw; go_simp <;> with_reducible rfl)
            case rest18 =>
            go_frame
            refine wpAnyH_ready (rs := [15]) (by kernel_rfl) (by simp) (AllReadyH.cons (o := ⟨some 103, .call { callee := .value (.func 15), args := #[.tmp 102], argTypes := #[27] }, _, _, _, some (13, false)⟩) rfl (fun K hK => ?_) AllReadyH.nil)
            rw [if_pos (by rfl)]
            go_simp
            refine (Hheld.out w9 Hb9.out).mono ?_
            rintro e w10 ⟨A10, n10, cc10, rfl, q1, q2, q3, hb10⟩
            have hb10d := up Hb9.out hb10
            have S10 := Lib.hid (HS8b.out w10 hb10d)
            have Hb10 := Lib.hid hb10d
            clear hb10 hb10d
            dsimp only
            refine hK.out _ _ (S10.out) (fun _ => ?_)
            clear hK K
            try go_frame
            refine' wpAnyH_take (i := 16) (oi := ⟨some 104, .call { callee := .builtin .len, args := #[.tmp 103], argTypes := #[39] }, _, _, _, some (13, false)⟩) (v := _) rfl (by kernel_rfl) (by kernel_rfl) (by kernel_rfl) (fun _ _ _ h => h) (Or.inl ⟨by rfl, ?hy19⟩) (by assumption) ?rest19
            case hy19 => (intro w hSw; obtain ⟨s1, s2⟩ := hSw; go_simp <;> with_reducible rfl)
            case rest19 =>
            go_frame
            refine' wpAnyH_take (i := 17) (oi := ⟨some 105, .binOp .gtr 3 (.tmp 104) (.const (.int .i64 8)) 3, _, _, _, some (13, false)⟩) (v := _) rfl (by kernel_rfl) (by kernel_rfl) (by kernel_rfl) (fun _ _ _ h => h) (Or.inl ⟨by rfl, ?hy20⟩) (by assumption) ?rest20
            case hy20 => (intro w hSw; obtain ⟨s1, s2⟩ := hSw; go_simp <;> with_reducible rfl)
            case rest20 =>
            go_frame
            refine' wpAnyH_take (i := 18) (oi := ⟨some 106, .pick (.tmp 101) (.const (.bool true)) (.tmp 105), _, _, _, none⟩) (v := _) rfl (by kernel_rfl) (by kernel_rfl) (by kernel_rfl) (fun _ _ _ h => h) (Or.inl ⟨by rfl, ?hy21⟩) (by assumption) ?rest21
            case hy21 => (intro w hSw; obtain ⟨s1, s2⟩ := hSw; go_simp <;> with_reducible rfl)
            case rest21 =>
            go_frame
            refine wpAnyH_done (by kernel_rfl) ?_ _
            go_wp2_with fail
            go_roundw
            case rel => exact ⟨k + 1, by omega, by omega, by go_num, Lib.hid (Hnext.out w10 Hb10.out)⟩
            case measure => simp [intOf]; omega
          · rw [if_pos (by rfl)]
            go_simp
            refine (Hfull8.out _).mono ?_
            rintro e w9 ⟨g9, rfl, hg9, hh9, hb9⟩
            have hb9d : Below w8.heap.size w8 w9 := (up_drew (Below.refl w8.heap.size w8)).trans hb9
            have He1 := Lib.hid (string_of (P := Try.prog) 51 9 5 Try.underlying51 Try.underlying5 Try.underlying9 Hr8.out hb9d)
            have Hs9 := Lib.hid (string_of (P := Try.prog) 51 9 5 Try.underlying51 Try.underlying5 Try.underlying9 (rd_whole hh9 Hl8.out) (Below.refl _ _))
            have S9 := Lib.hid (HS8b.out w9 hb9d)
            have Hb9 := Lib.hid hb9d
            clear hg9 hh9 hb9 hb9d
            dsimp only
            refine hK.out _ _ (S9.out) (fun _ => ?_)
            clear hK K
            try go_frame
            refine wpAnyH_ready (rs := [4, 10]) (by kernel_rfl) (by simp) (AllReadyH.cons (o := ⟨some 92, .convert 51 9 (.tmp 91), _, _, _, some (2, false)⟩) rfl (fun K hK => ?_) (AllReadyH.cons (o := ⟨some 98, .convert 51 9 (.tmp 97), _, _, _, some (2, false)⟩) rfl (fun K hK => ?_) AllReadyH.nil))
            · rw [if_pos (by rfl)]
              refine wp_run (.string ⟨l8.toArray⟩) w9 (exec_conv (s := 51) (t := 9) (x := .tmp 91) rfl (v := v8) rfl He1.out) ?_
              refine hK.out _ _ (S9.out) (fun _ => ?_)
              clear hK K
              try go_frame
              refine wpAnyH_ready (rs := [10]) (by kernel_rfl) (by simp) (AllReadyH.cons (o := ⟨some 98, .convert 51 9 (.tmp 97), _, _, _, some (2, false)⟩) rfl (fun K hK => ?_) AllReadyH.nil)
              rw [if_pos (by rfl)]
              refine wp_run (.string ⟨l8.toArray⟩) w9 (exec_conv (s := 51) (t := 9) (x := .tmp 97) rfl (v := .slice (some ⟨g9, 0, none⟩) 256 256) rfl Hs9.out) ?_
              refine hK.out _ _ (S9.out) (fun _ => ?_)
              clear hK K
              try go_frame
              refine' wpAnyH_take (i := 11) (oi := ⟨some 99, .binOp .neq 9 (.tmp 92) (.tmp 98) 9, _, _, _, some (2, false)⟩) (v := _) rfl (by kernel_rfl) (by kernel_rfl) (by kernel_rfl) (fun _ _ _ h => h) (Or.inl ⟨by rfl, ?hy22⟩) (by assumption) ?rest22
              case hy22 => (intro w hSw; obtain ⟨s1, s2⟩ := hSw; go_simp <;> with_reducible rfl)
              case rest22 =>
              go_frame
              refine' wpAnyH_take (i := 12) (oi := ⟨some 100, .pick (.tmp 90) (.const (.bool true)) (.tmp 99), _, _, _, none⟩) (v := _) rfl (by kernel_rfl) (by kernel_rfl) (by kernel_rfl) (fun _ _ _ h => h) (Or.inl ⟨by rfl, ?hy23⟩) (by assumption) ?rest23
              case hy23 => (intro w hSw; obtain ⟨s1, s2⟩ := hSw; go_simp <;> with_reducible rfl)
              case rest23 =>
              go_frame
              refine' wpAnyH_take (i := 13) (oi := ⟨some 101, .move (.tmp 100), _, _, _, none⟩) (v := _) rfl (by kernel_rfl) (by kernel_rfl) (by kernel_rfl) (fun _ _ _ h => h) (Or.inl ⟨by rfl, ?hy24⟩) (by assumption) ?rest24
              case hy24 => (intro w hSw; obtain ⟨s1, s2⟩ := hSw; go_simp <;> with_reducible rfl)
              case rest24 =>
              go_frame
              refine' wpAnyH_take (i := 14) (oi := ⟨some 102, .move (.tmp 5), _, _, _, some (13, false)⟩) (v := _) rfl (by kernel_rfl) (by kernel_rfl) (by kernel_rfl) (fun _ _ _ h => h) (Or.inl ⟨by rfl, ?hy25⟩) (by assumption) ?rest25
              case hy25 => (intro w hSw; obtain ⟨s1, s2⟩ := hSw; go_simp <;> with_reducible rfl)
              case rest25 =>
              go_frame
              refine wpAnyH_ready (rs := [15]) (by kernel_rfl) (by simp) (AllReadyH.cons (o := ⟨some 103, .call { callee := .value (.func 15), args := #[.tmp 102], argTypes := #[27] }, _, _, _, some (13, false)⟩) rfl (fun K hK => ?_) AllReadyH.nil)
              rw [if_pos (by rfl)]
              go_simp
              refine (Hheld.out w9 Hb9.out).mono ?_
              rintro e w10 ⟨A10, n10, cc10, rfl, q1, q2, q3, hb10⟩
              have hb10d := up Hb9.out hb10
              have S10 := Lib.hid (HS8b.out w10 hb10d)
              have Hb10 := Lib.hid hb10d
              clear hb10 hb10d
              dsimp only
              refine hK.out _ _ (S10.out) (fun _ => ?_)
              clear hK K
              try go_frame
              refine' wpAnyH_take (i := 16) (oi := ⟨some 104, .call { callee := .builtin .len, args := #[.tmp 103], argTypes := #[39] }, _, _, _, some (13, false)⟩) (v := _) rfl (by kernel_rfl) (by kernel_rfl) (by kernel_rfl) (fun _ _ _ h => h) (Or.inl ⟨by rfl, ?hy26⟩) (by assumption) ?rest26
              case hy26 => (intro w hSw; obtain ⟨s1, s2⟩ := hSw; go_simp <;> with_reducible rfl)
              case rest26 =>
              go_frame
              refine' wpAnyH_take (i := 17) (oi := ⟨some 105, .binOp .gtr 3 (.tmp 104) (.const (.int .i64 8)) 3, _, _, _, some (13, false)⟩) (v := _) rfl (by kernel_rfl) (by kernel_rfl) (by kernel_rfl) (fun _ _ _ h => h) (Or.inl ⟨by rfl, ?hy27⟩) (by assumption) ?rest27
              case hy27 => (intro w hSw; obtain ⟨s1, s2⟩ := hSw; go_simp <;> with_reducible rfl)
              case rest27 =>
              go_frame
              refine' wpAnyH_take (i := 18) (oi := ⟨some 106, .pick (.tmp 101) (.const (.bool true)) (.tmp 105), _, _, _, none⟩) (v := _) rfl (by kernel_rfl) (by kernel_rfl) (by kernel_rfl) (fun _ _ _ h => h) (Or.inl ⟨by rfl, ?hy28⟩) (by assumption) ?rest28
              case hy28 => (intro w hSw; obtain ⟨s1, s2⟩ := hSw; go_simp <;> with_reducible rfl)
              case rest28 =>
              go_frame
              refine wpAnyH_done (by kernel_rfl) ?_ _
              go_wp2_with fail
              go_roundw
              case rel => exact ⟨k + 1, by omega, by omega, by go_num, Lib.hid (Hnext.out w10 Hb10.out)⟩
              case measure => simp [intOf]; omega
            · rw [if_pos (by rfl)]
              refine wp_run (.string ⟨l8.toArray⟩) w9 (exec_conv (s := 51) (t := 9) (x := .tmp 97) rfl (v := .slice (some ⟨g9, 0, none⟩) 256 256) rfl Hs9.out) ?_
              refine hK.out _ _ (S9.out) (fun _ => ?_)
              clear hK K
              try go_frame
              refine wpAnyH_ready (rs := [4]) (by kernel_rfl) (by simp) (AllReadyH.cons (o := ⟨some 92, .convert 51 9 (.tmp 91), _, _, _, some (2, false)⟩) rfl (fun K hK => ?_) AllReadyH.nil)
              rw [if_pos (by rfl)]
              refine wp_run (.string ⟨l8.toArray⟩) w9 (exec_conv (s := 51) (t := 9) (x := .tmp 91) rfl (v := v8) rfl He1.out) ?_
              refine hK.out _ _ (S9.out) (fun _ => ?_)
              clear hK K
              try go_frame
              refine' wpAnyH_take (i := 11) (oi := ⟨some 99, .binOp .neq 9 (.tmp 92) (.tmp 98) 9, _, _, _, some (2, false)⟩) (v := _) rfl (by kernel_rfl) (by kernel_rfl) (by kernel_rfl) (fun _ _ _ h => h) (Or.inl ⟨by rfl, ?hy29⟩) (by assumption) ?rest29
              case hy29 => (intro w hSw; obtain ⟨s1, s2⟩ := hSw; go_simp <;> with_reducible rfl)
              case rest29 =>
              go_frame
              refine' wpAnyH_take (i := 12) (oi := ⟨some 100, .pick (.tmp 90) (.const (.bool true)) (.tmp 99), _, _, _, none⟩) (v := _) rfl (by kernel_rfl) (by kernel_rfl) (by kernel_rfl) (fun _ _ _ h => h) (Or.inl ⟨by rfl, ?hy30⟩) (by assumption) ?rest30
              case hy30 => (intro w hSw; obtain ⟨s1, s2⟩ := hSw; go_simp <;> with_reducible rfl)
              case rest30 =>
              go_frame
              refine' wpAnyH_take (i := 13) (oi := ⟨some 101, .move (.tmp 100), _, _, _, none⟩) (v := _) rfl (by kernel_rfl) (by kernel_rfl) (by kernel_rfl) (fun _ _ _ h => h) (Or.inl ⟨by rfl, ?hy31⟩) (by assumption) ?rest31
              case hy31 => (intro w hSw; obtain ⟨s1, s2⟩ := hSw; go_simp <;> with_reducible rfl)
              case rest31 =>
              go_frame
              refine' wpAnyH_take (i := 14) (oi := ⟨some 102, .move (.tmp 5), _, _, _, some (13, false)⟩) (v := _) rfl (by kernel_rfl) (by kernel_rfl) (by kernel_rfl) (fun _ _ _ h => h) (Or.inl ⟨by rfl, ?hy32⟩) (by assumption) ?rest32
              case hy32 => (intro w hSw; obtain ⟨s1, s2⟩ := hSw; go_simp <;> with_reducible rfl)
              case rest32 =>
              go_frame
              refine wpAnyH_ready (rs := [15]) (by kernel_rfl) (by simp) (AllReadyH.cons (o := ⟨some 103, .call { callee := .value (.func 15), args := #[.tmp 102], argTypes := #[27] }, _, _, _, some (13, false)⟩) rfl (fun K hK => ?_) AllReadyH.nil)
              rw [if_pos (by rfl)]
              go_simp
              refine (Hheld.out w9 Hb9.out).mono ?_
              rintro e w10 ⟨A10, n10, cc10, rfl, q1, q2, q3, hb10⟩
              have hb10d := up Hb9.out hb10
              have S10 := Lib.hid (HS8b.out w10 hb10d)
              have Hb10 := Lib.hid hb10d
              clear hb10 hb10d
              dsimp only
              refine hK.out _ _ (S10.out) (fun _ => ?_)
              clear hK K
              try go_frame
              refine' wpAnyH_take (i := 16) (oi := ⟨some 104, .call { callee := .builtin .len, args := #[.tmp 103], argTypes := #[39] }, _, _, _, some (13, false)⟩) (v := _) rfl (by kernel_rfl) (by kernel_rfl) (by kernel_rfl) (fun _ _ _ h => h) (Or.inl ⟨by rfl, ?hy33⟩) (by assumption) ?rest33
              case hy33 => (intro w hSw; obtain ⟨s1, s2⟩ := hSw; go_simp <;> with_reducible rfl)
              case rest33 =>
              go_frame
              refine' wpAnyH_take (i := 17) (oi := ⟨some 105, .binOp .gtr 3 (.tmp 104) (.const (.int .i64 8)) 3, _, _, _, some (13, false)⟩) (v := _) rfl (by kernel_rfl) (by kernel_rfl) (by kernel_rfl) (fun _ _ _ h => h) (Or.inl ⟨by rfl, ?hy34⟩) (by assumption) ?rest34
              case hy34 => (intro w hSw; obtain ⟨s1, s2⟩ := hSw; go_simp <;> with_reducible rfl)
              case rest34 =>
              go_frame
              refine' wpAnyH_take (i := 18) (oi := ⟨some 106, .pick (.tmp 101) (.const (.bool true)) (.tmp 105), _, _, _, none⟩) (v := _) rfl (by kernel_rfl) (by kernel_rfl) (by kernel_rfl) (fun _ _ _ h => h) (Or.inl ⟨by rfl, ?hy35⟩) (by assumption) ?rest35
              case hy35 => (intro w hSw; obtain ⟨s1, s2⟩ := hSw; go_simp <;> with_reducible rfl)
              case rest35 =>
              go_frame
              refine wpAnyH_done (by kernel_rfl) ?_ _
              go_wp2_with fail
              go_roundw
              case rel => exact ⟨k + 1, by omega, by omega, by go_num, Lib.hid (Hnext.out w10 Hb10.out)⟩
              case measure => simp [intOf]; omega
        all_goals
          have Hm := Lib.hid (show 0 < 24 by omega)
          have hb3 : Below wr.heap.size wr (wr.alloc (.cells #[.int .i64 kind, .int .i64 0, .int .u8 (by_.toNat : Int)] 37)) := (Below.refl _ _).alloc (Nat.le_refl _) _
          have hh3 : (wr.alloc (.cells #[.int .i64 kind, .int .i64 0, .int .u8 (by_.toNat : Int)] 37)).heap[ga]? = some (.cells #[.int .i64 kind, .int .i64 0, .int .u8 (by_.toNat : Int)] 37 (0, 0)) := by rw [hga]; exact heap_alloc_last _ _
          go_wp2_with fail
          obtain ⟨w3, hw3⟩ : ∃ w3, w3 = (wr.alloc (.cells #[.int .i64 kind, .int .i64 0, .int .u8 (by_.toNat : Int)] 37)) := ⟨_, rfl⟩
          rw [← hw3] at hb3 hh3
          have HT3 := Lib.hid (Hmade.out _ w3 hb3 hh3)
          have Hh3 := Lib.hid hh3
          have Hga := Lib.hid (show ga < w3.heap.size from (Array.getElem?_eq_some_iff.1 hh3).1)
          have HC : Hid (∀ (w' : World), w'.heap[ga]? = w3.heap[ga]? → w'.cell? ⟨ga, 0, none⟩ = some (.int .i64 kind) ∧ w'.cell? ⟨ga, 1, none⟩ = some (.int .i64 0) ∧ w'.cell? ⟨ga, 2, none⟩ = some (.int .u8 (by_.toNat : Int))) := Lib.hid fun w' e => by
            obtain ⟨a, b, c, _⟩ := act_cells (e.trans hh3)
            exact ⟨a, b, c⟩
          rw [← hga, ← hw3]
          clear hw3 hb3 hh3 Hmade hga c0 c1 c2
          refine wp_region_held_drew (S := fun w' : World => w'.cell? ⟨ga, 1, none⟩ = some (.int .i64 0) ∧ w'.cell? ⟨ga, 2, none⟩ = some (.int .u8 (by_.toNat : Int))) (by kernel_rfl) (HC.out w3 rfl).2 (fun hHeld => ?_)
          refine' wpAnyH_take (i := 0) (oi := ⟨some 59, .move (.tmp 5), _, _, _, none⟩) (v := _) rfl (by kernel_rfl) (by kernel_rfl) (by kernel_rfl) (fun _ _ _ h => h) (Or.inl ⟨by rfl, ?hy36⟩) (by assumption) ?rest36
          case hy36 => (intro w hSw; obtain ⟨s1, s2⟩ := hSw; go_simp <;> with_reducible rfl)
          case rest36 =>
          go_frame
          refine' wpAnyH_take (i := 1) (oi := ⟨some 60, .fieldAddr 37 (.tmp 9) 1, _, _, _, none⟩) (v := _) rfl (by kernel_rfl) (by kernel_rfl) (by kernel_rfl) (fun _ _ _ h => h) (Or.inl ⟨by rfl, ?hy37⟩) (by assumption) ?rest37
          case hy37 => (intro w hSw; obtain ⟨s1, s2⟩ := hSw; go_simp <;> with_reducible rfl)
          case rest37 =>
          go_frame
          refine' wpAnyH_take (i := 2) (oi := ⟨some 61, .load 3 (.tmp 60), _, _, _, none⟩) (v := _) rfl (by kernel_rfl) (by kernel_rfl) (by kernel_rfl) (fun _ _ _ h => h) (Or.inl ⟨by rfl, ?hy38⟩) (by assumption) ?rest38
          case hy38 => (intro w hSw; obtain ⟨s1, s2⟩ := hSw; go_simp <;> with_reducible rfl)
          case rest38 =>
          go_frame
          refine' wpAnyH_take (i := 3) (oi := ⟨some 62, .fieldAddr 37 (.tmp 9) 2, _, _, _, none⟩) (v := _) rfl (by kernel_rfl) (by kernel_rfl) (by kernel_rfl) (fun _ _ _ h => h) (Or.inl ⟨by rfl, ?hy39⟩) (by assumption) ?rest39
          case hy39 => (intro w hSw; obtain ⟨s1, s2⟩ := hSw; go_simp <;> with_reducible rfl)
          case rest39 =>
          go_frame
          refine' wpAnyH_take (i := 4) (oi := ⟨some 63, .load 5 (.tmp 62), _, _, _, none⟩) (v := _) rfl (by kernel_rfl) (by kernel_rfl) (by kernel_rfl) (fun _ _ _ h => h) (Or.inl ⟨by rfl, ?hy40⟩) (by assumption) ?rest40
          case hy40 => (intro w hSw; obtain ⟨s1, s2⟩ := hSw; go_simp <;> with_reducible rfl)
          case rest40 =>
          go_frame
          refine wpAnyH_ready (rs := [5]) (by kernel_rfl) (by simp) (AllReadyH.cons (o := ⟨some 64, .call { callee := .value (.func 23), args := #[.tmp 63], argTypes := #[5] }, _, _, _, none⟩) rfl (fun K hK => ?_) AllReadyH.nil)
          rw [if_pos (by rfl)]
          go_simp
          refine (Hfull.out _).mono ?_
          rintro e w5 ⟨g5, rfl, hg5, hh5, hb5⟩
          have e5 : w5.heap[ga]? = w3.heap[ga]? := hb5.block ga Hga.out
          have hb5d : Below w3.heap.size w3 w5 := (up_drew (Below.refl w3.heap.size w3)).trans hb5
          have S5 := Lib.hid (HC.out w5 e5).2
          have E5 := Lib.hid e5
          have Hg5 := Lib.hid hg5
          have Hh5 := Lib.hid hh5
          have Hb5 := Lib.hid hb5d
          clear e5 hg5 hh5 hb5 hb5d
          dsimp only
          refine hK.out _ _ (S5.out) (fun _ => ?_)
          clear hK K
          try go_frame
          refine wpAnyH_ready (rs := [6]) (by kernel_rfl) (by simp) (AllReadyH.cons (o := ⟨some 65, .call { callee := .value (.func 22), args := #[.tmp 59, .tmp 61, .tmp 64], argTypes := #[27, 3, 51] }, _, _, _, none⟩) rfl (fun K hK => ?_) AllReadyH.nil)
          rw [if_pos (by rfl)]
          go_simp
          refine (HT3.out.put (by omega) Hm.out Hb5.out Hg5.out (List.length_replicate) Hh5.out).mono ?_
          rintro e w6 ⟨rfl, hs6, ho6, hl6⟩
          have e6 : w6.heap[ga]? = w3.heap[ga]? := (ho6 ga rfl).trans E5.out
          have S6 := Lib.hid (HC.out w6 e6).2
          have E6 := Lib.hid e6
          have HS6 := Lib.hid hs6
          clear e6 hs6 ho6 hl6
          dsimp only
          refine hK.out _ _ (S6.out) (fun _ => ?_)
          clear hK K
          try go_frame
          refine' wpAnyH_take (i := 7) (oi := ⟨some 66, .binOp .neq 24 (.tmp 65) (.const (.int .i64 0)) 24, _, _, _, none⟩) (v := _) rfl (by kernel_rfl) (by kernel_rfl) (by kernel_rfl) (fun _ _ _ h => h) (Or.inl ⟨by rfl, ?hy41⟩) (by assumption) ?rest41
          case hy41 => (intro w hSw; obtain ⟨s1, s2⟩ := hSw; go_simp <;> with_reducible rfl)
          case rest41 =>
          go_frame
          refine wpAnyH_done (by kernel_rfl) ?_ _
          obtain ⟨z0, z1, z2⟩ := HC.out w6 E6.out
          have zc : w6.cell? ⟨g, 0, none⟩ = some (.int .u8 ((hs.getD 0 0).toNat : Int)) := by
            obtain ⟨xg, dg, hTg⟩ := HS6.out
            exact hTg.cell Hm.out
          have zf : w6.frozen? ⟨g, 0, none⟩ = false := by
            obtain ⟨xg, dg, hTg⟩ := HS6.out
            exact hTg.free _
          have hne : ga ≠ g := fun e => by
            have h2 := HT0.out.lw.blk g (.inl rfl)
            have h3 := Hgaw.out
            omega
          have hne2 : g ≠ ga := fun e => hne e.symm
          have HS7 : Hid (∃ x d, Thr w (w6.setCell ⟨g, 0, none⟩ (.int .u8 (by_.toNat : Int))) (fun k => k = ga) g c bf p (hs.set 0 by_) (ofBytes (hs.set 0 by_)) (20 * k + 1) x d) := Lib.hid (by
            obtain ⟨xg, dg, hTg⟩ := HS6.out
            exact ⟨xg, dg, hTg.stored Hm.out⟩)
          have E7 : Hid ((w6.setCell ⟨g, 0, none⟩ (.int .u8 (by_.toNat : Int))).heap[ga]? = w3.heap[ga]?) := Lib.hid ((heap_setCell_other w6 ⟨g, 0, none⟩ ga _ hne).trans E6.out)
          go_wp2_with (go_at_call 25; obtain ⟨xg, dg, hTg⟩ := HS7.out; refine (hTg.get (by omega) Hm.out).mono ?_; rintro e w8 ⟨v8, rfl, hr8, hs8, ho8, hl8⟩; have E8 := Lib.hid ((ho8 ga rfl).trans E7.out); have Hr8 := Lib.hid hr8; have HS8 := Lib.hid hs8; clear hr8 hs8 ho8 hl8 hTg xg dg)
          have HS8t : Hid (∃ x d, Thr w w8 (fun k => k = ga) g c bf p (hs.set 0 by_) (ofBytes (hs.set 0 by_)) (20 * k + 1 + 1) x d) := HS8
          obtain ⟨b8, hb8⟩ : ∃ b8, b8 = (hs.set 0 by_).getD 0 0 := ⟨_, rfl⟩
          obtain ⟨l8, hl8⟩ : ∃ l8, l8 = List.replicate 256 b8 := ⟨_, rfl⟩
          have Hr8l : Hid (Rd w8 w8.heap.size v8 (cellsB l8)) := Lib.hid (by rw [hl8, hb8]; exact Hr8.out)
          have Hl8 := Lib.hid (show l8.length = 256 by rw [hl8]; exact List.length_replicate)
          have Hfull8 : Hid (∀ w, Calls Try.prog 23 #[.int .u8 (b8.toNat : Int)] w fun e w' => ∃ g, e = .returned (.slice (some ⟨g, 0, none⟩) 256 256) ∧ w.heap.size ≤ g ∧ w'.heap[g]? = some (.cells (cellsB l8).toArray 5 (0, 0)) ∧ Below w.heap.size w w') := Lib.hid (by rw [hl8]; exact cfull_any b8)
          have HS8b : Hid (∀ (w' : World), Below w8.heap.size w8 w' → w'.cell? ⟨ga, 1, none⟩ = some (.int .i64 0) ∧ w'.cell? ⟨g, 0, none⟩ = some (.int .u8 (b8.toNat : Int))) := Lib.hid fun w' hb => by
            obtain ⟨xg, dg, hTg⟩ := HS8t.out
            have h1 : ga < w8.heap.size := (Array.getElem?_eq_some_iff.1 (E8.out.trans Hh3.out)).1
            refine ⟨(HC.out w' ((hb.block ga h1).trans E8.out)).2.1, ?_⟩
            rw [hb8]
            exact (hb.cell (p := ⟨g, 0, none⟩) (Array.getElem?_eq_some_iff.1 hTg.arr).1).trans (hTg.cell Hm.out)
          have S8 := Lib.hid (HS8b.out w8 (Below.refl _ _))
          have Hheld : Hid (∀ (w' : World), Below w8.heap.size w8 w' → Calls Try.prog 15 #[at0 c] w' fun e w2 => ∃ A n' cc, e = .returned (.slice A n' cc) ∧ n' ≤ 8 ∧ n' ≤ cc ∧ cc ≤ 9223372036854775807 ∧ Below w'.heap.size w' w2) := Lib.hid fun w' hb => by
            obtain ⟨xg, dg, hTg⟩ := HS8t.out
            exact (hTg.more hb fun _ => .inl).held
          have Hnext : Hid (∀ (w' : World), Below w8.heap.size w8 w' → ∃ hs x d, Thr w w' (fun _ => False) g c bf p hs (ofBytes hs) (20 * (k + 1)) x d) := Lib.hid fun w' hb => by
            obtain ⟨xg, dg, hTg⟩ := HS8t.out
            exact ⟨_, xg, dg, (hTg.more hb fun _ e => e.elim).le (by omega)⟩
          have He0 := Lib.hid (string_of (P := Try.prog) 51 9 5 Try.underlying51 Try.underlying5 Try.underlying9 Hr8l.out (up_drew (Below.refl w8.heap.size w8)))
          replace Hr8 := Hr8l
          clear hb8 hl8 HS8 HS8t Hr8l
          refine wp_region_held_drew (S := fun w' : World => w'.cell? ⟨ga, 1, none⟩ = some (.int .i64 0) ∧ w'.cell? ⟨g, 0, none⟩ = some (.int .u8 (b8.toNat : Int))) (by kernel_rfl) S8.out (fun hHeld => ?_)
          refine' wpAnyH_take (i := 0) (oi := ⟨some 88, .move (.tmp 11), _, _, _, none⟩) (v := _) rfl (by kernel_rfl) (by kernel_rfl) (by kernel_rfl) (fun _ _ _ h => h) (Or.inl ⟨by rfl, ?hy42⟩) (by assumption) ?rest42
          case hy42 => (intro w hSw; obtain ⟨s1, s2⟩ := hSw; go_simp <;> with_reducible rfl)
          case rest42 =>
          go_frame
          refine' wpAnyH_take (i := 1) (oi := ⟨some 89, .binOp .neq 24 (.tmp 88) (.const (.int .i64 0)) 24, _, _, _, none⟩) (v := _) rfl (by kernel_rfl) (by kernel_rfl) (by kernel_rfl) (fun _ _ _ h => h) (Or.inl ⟨by rfl, ?hy43⟩) (by assumption) ?rest43
          case hy43 => (intro w hSw; obtain ⟨s1, s2⟩ := hSw; go_simp <;> with_reducible rfl)
          case rest43 =>
          go_frame
          refine' wpAnyH_take (i := 2) (oi := ⟨some 90, .move (.tmp 89), _, _, _, none⟩) (v := _) rfl (by kernel_rfl) (by kernel_rfl) (by kernel_rfl) (fun _ _ _ h => h) (Or.inl ⟨by rfl, ?hy44⟩) (by assumption) ?rest44
          case hy44 => (intro w hSw; obtain ⟨s1, s2⟩ := hSw; go_simp <;> with_reducible rfl)
          case rest44 =>
          go_frame
          refine' wpAnyH_take (i := 3) (oi := ⟨some 91, .move (.tmp 10), _, _, _, some (2, false)⟩) (v := _) rfl (by kernel_rfl) (by kernel_rfl) (by kernel_rfl) (fun _ _ _ h => h) (Or.inl ⟨by rfl, ?hy45⟩) (by assumption) ?rest45
          case hy45 => (intro w hSw; obtain ⟨s1, s2⟩ := hSw; go_simp <;> with_reducible rfl)
          case rest45 =>
          go_frame
          refine' wpAnyH_take (i := 5) (oi := ⟨some 93, .fieldAddr 37 (.tmp 9) 1, _, _, _, some (2, false)⟩) (v := _) rfl (by kernel_rfl) (by kernel_rfl) (by kernel_rfl) (fun _ _ _ h => h) (Or.inl ⟨by rfl, ?hy46⟩) (by assumption) ?rest46
          case hy46 => (intro w hSw; obtain ⟨s1, s2⟩ := hSw; go_simp <;> with_reducible rfl)
          case rest46 =>
          go_frame
          refine' wpAnyH_take (i := 6) (oi := ⟨some 94, .load 3 (.tmp 93), _, _, _, some (2, false)⟩) (v := _) rfl (by kernel_rfl) (by kernel_rfl) (by kernel_rfl) (fun _ _ _ h => h) (Or.inl ⟨by rfl, ?hy47⟩) (by assumption) ?rest47
          case hy47 => (intro w hSw; obtain ⟨s1, s2⟩ := hSw; go_simp <;> with_reducible rfl)
          case rest47 =>
          go_frame
          refine' wpAnyH_take (i := 7) (oi := ⟨some 95, .indexAddr 56 (.tmp 7) (.tmp 94), _, _, _, some (2, false)⟩) (v := _) rfl (by kernel_rfl) (by kernel_rfl) (by kernel_rfl) (fun _ _ _ h => h) (Or.inl ⟨by rfl, ?hy48⟩) (by assumption) ?rest48
          case hy48 => (intro w hSw; obtain ⟨s1, s2⟩ := hSw; go_simp <;> with_reducible rfl)
          case rest48 =>
          go_frame
          refine' wpAnyH_take (i := 8) (oi := ⟨some 96, .load 5 (.tmp 95), _, _, _, some (2, false)⟩) (v := _) rfl (by kernel_rfl) (by kernel_rfl) (by kernel_rfl) (fun _ _ _ h => h) (Or.inl ⟨by rfl, ?hy49⟩) (by assumption) ?rest49
          case hy49 => (intro w hSw; obtain ⟨s1, s2⟩ := hSw; go_simp <;> with_reducible rfl)
          case rest49 =>
          go_frame
          refine wpAnyH_ready (rs := [4, 9]) (by kernel_rfl) (by simp) (AllReadyH.cons (o := ⟨some 92, .convert 51 9 (.tmp 91), _, _, _, some (2, false)⟩) rfl (fun K hK => ?_) (AllReadyH.cons (o := ⟨some 97, .call { callee := .value (.func 23), args := #[.tmp 96], argTypes := #[5] }, _, _, _, some (2, false)⟩) rfl (fun K hK => ?_) AllReadyH.nil))
          · rw [if_pos (by rfl)]
            refine wp_run (.string ⟨l8.toArray⟩) w8.drew (exec_conv (s := 51) (t := 9) (x := .tmp 91) rfl (v := v8) rfl He0.out) ?_
            refine hK.out _ _ (S8.out) (fun _ => ?_)
            clear hK K
            try go_frame
            refine wpAnyH_ready (rs := [9]) (by kernel_rfl) (by simp) (AllReadyH.cons (o := ⟨some 97, .call { callee := .value (.func 23), args := #[.tmp 96], argTypes := #[5] }, _, _, _, some (2, false)⟩) rfl (fun K hK => ?_) AllReadyH.nil)
            rw [if_pos (by rfl)]
            go_simp
            refine (Hfull8.out _).mono ?_
            rintro e w9 ⟨g9, rfl, hg9, hh9, hb9⟩
            have hb9d : Below w8.heap.size w8 w9 := (up_drew (Below.refl w8.heap.size w8)).trans hb9
            have He1 := Lib.hid (string_of (P := Try.prog) 51 9 5 Try.underlying51 Try.underlying5 Try.underlying9 Hr8.out hb9d)
            have Hs9 := Lib.hid (string_of (P := Try.prog) 51 9 5 Try.underlying51 Try.underlying5 Try.underlying9 (rd_whole hh9 Hl8.out) (Below.refl _ _))
            have S9 := Lib.hid (HS8b.out w9 hb9d)
            have Hb9 := Lib.hid hb9d
            clear hg9 hh9 hb9 hb9d
            dsimp only
            refine hK.out _ _ (S9.out) (fun _ => ?_)
            clear hK K
            try go_frame
            refine wpAnyH_ready (rs := [10]) (by kernel_rfl) (by simp) (AllReadyH.cons (o := ⟨some 98, .convert 51 9 (.tmp 97), _, _, _, some (2, false)⟩) rfl (fun K hK => ?_) AllReadyH.nil)
            rw [if_pos (by rfl)]
            refine wp_run (.string ⟨l8.toArray⟩) w9 (exec_conv (s := 51) (t := 9) (x := .tmp 97) rfl (v := .slice (some ⟨g9, 0, none⟩) 256 256) rfl Hs9.out) ?_
            refine hK.out _ _ (S9.out) (fun _ => ?_)
            clear hK K
            try go_frame
            refine' wpAnyH_take (i := 11) (oi := ⟨some 99, .binOp .neq 9 (.tmp 92) (.tmp 98) 9, _, _, _, some (2, false)⟩) (v := _) rfl (by kernel_rfl) (by kernel_rfl) (by kernel_rfl) (fun _ _ _ h => h) (Or.inl ⟨by rfl, ?hy50⟩) (by assumption) ?rest50
            case hy50 => (intro w hSw; obtain ⟨s1, s2⟩ := hSw; go_simp <;> with_reducible rfl)
            case rest50 =>
            go_frame
            refine' wpAnyH_take (i := 12) (oi := ⟨some 100, .pick (.tmp 90) (.const (.bool true)) (.tmp 99), _, _, _, none⟩) (v := _) rfl (by kernel_rfl) (by kernel_rfl) (by kernel_rfl) (fun _ _ _ h => h) (Or.inl ⟨by rfl, ?hy51⟩) (by assumption) ?rest51
            case hy51 => (intro w hSw; obtain ⟨s1, s2⟩ := hSw; go_simp <;> with_reducible rfl)
            case rest51 =>
            go_frame
            refine' wpAnyH_take (i := 13) (oi := ⟨some 101, .move (.tmp 100), _, _, _, none⟩) (v := _) rfl (by kernel_rfl) (by kernel_rfl) (by kernel_rfl) (fun _ _ _ h => h) (Or.inl ⟨by rfl, ?hy52⟩) (by assumption) ?rest52
            case hy52 => (intro w hSw; obtain ⟨s1, s2⟩ := hSw; go_simp <;> with_reducible rfl)
            case rest52 =>
            go_frame
            refine' wpAnyH_take (i := 14) (oi := ⟨some 102, .move (.tmp 5), _, _, _, some (13, false)⟩) (v := _) rfl (by kernel_rfl) (by kernel_rfl) (by kernel_rfl) (fun _ _ _ h => h) (Or.inl ⟨by rfl, ?hy53⟩) (by assumption) ?rest53
            case hy53 => (intro w hSw; obtain ⟨s1, s2⟩ := hSw; go_simp <;> with_reducible rfl)
            case rest53 =>
            go_frame
            refine wpAnyH_ready (rs := [15]) (by kernel_rfl) (by simp) (AllReadyH.cons (o := ⟨some 103, .call { callee := .value (.func 15), args := #[.tmp 102], argTypes := #[27] }, _, _, _, some (13, false)⟩) rfl (fun K hK => ?_) AllReadyH.nil)
            rw [if_pos (by rfl)]
            go_simp
            refine (Hheld.out w9 Hb9.out).mono ?_
            rintro e w10 ⟨A10, n10, cc10, rfl, q1, q2, q3, hb10⟩
            have hb10d := up Hb9.out hb10
            have S10 := Lib.hid (HS8b.out w10 hb10d)
            have Hb10 := Lib.hid hb10d
            clear hb10 hb10d
            dsimp only
            refine hK.out _ _ (S10.out) (fun _ => ?_)
            clear hK K
            try go_frame
            refine' wpAnyH_take (i := 16) (oi := ⟨some 104, .call { callee := .builtin .len, args := #[.tmp 103], argTypes := #[39] }, _, _, _, some (13, false)⟩) (v := _) rfl (by kernel_rfl) (by kernel_rfl) (by kernel_rfl) (fun _ _ _ h => h) (Or.inl ⟨by rfl, ?hy54⟩) (by assumption) ?rest54
            case hy54 => (intro w hSw; obtain ⟨s1, s2⟩ := hSw; go_simp <;> with_reducible rfl)
            case rest54 =>
            go_frame
            refine' wpAnyH_take (i := 17) (oi := ⟨some 105, .binOp .gtr 3 (.tmp 104) (.const (.int .i64 8)) 3, _, _, _, some (13, false)⟩) (v := _) rfl (by kernel_rfl) (by kernel_rfl) (by kernel_rfl) (fun _ _ _ h => h) (Or.inl ⟨by rfl, ?hy55⟩) (by assumption) ?rest55
            case hy55 => (intro w hSw; obtain ⟨s1, s2⟩ := hSw; go_simp <;> with_reducible rfl)
            case rest55 =>
            go_frame
            refine' wpAnyH_take (i := 18) (oi := ⟨some 106, .pick (.tmp 101) (.const (.bool true)) (.tmp 105), _, _, _, none⟩) (v := _) rfl (by kernel_rfl) (by kernel_rfl) (by kernel_rfl) (fun _ _ _ h => h) (Or.inl ⟨by rfl, ?hy56⟩) (by assumption) ?rest56
            case hy56 => (intro w hSw; obtain ⟨s1, s2⟩ := hSw; go_simp <;> with_reducible rfl)
            case rest56 =>
            go_frame
            refine wpAnyH_done (by kernel_rfl) ?_ _
            go_wp2_with fail
            go_roundw
            case rel => exact ⟨k + 1, by omega, by omega, by go_num, Lib.hid (Hnext.out w10 Hb10.out)⟩
            case measure => simp [intOf]; omega
          · rw [if_pos (by rfl)]
            go_simp
            refine (Hfull8.out _).mono ?_
            rintro e w9 ⟨g9, rfl, hg9, hh9, hb9⟩
            have hb9d : Below w8.heap.size w8 w9 := (up_drew (Below.refl w8.heap.size w8)).trans hb9
            have He1 := Lib.hid (string_of (P := Try.prog) 51 9 5 Try.underlying51 Try.underlying5 Try.underlying9 Hr8.out hb9d)
            have Hs9 := Lib.hid (string_of (P := Try.prog) 51 9 5 Try.underlying51 Try.underlying5 Try.underlying9 (rd_whole hh9 Hl8.out) (Below.refl _ _))
            have S9 := Lib.hid (HS8b.out w9 hb9d)
            have Hb9 := Lib.hid hb9d
            clear hg9 hh9 hb9 hb9d
            dsimp only
            refine hK.out _ _ (S9.out) (fun _ => ?_)
            clear hK K
            try go_frame
            refine wpAnyH_ready (rs := [4, 10]) (by kernel_rfl) (by simp) (AllReadyH.cons (o := ⟨some 92, .convert 51 9 (.tmp 91), _, _, _, some (2, false)⟩) rfl (fun K hK => ?_) (AllReadyH.cons (o := ⟨some 98, .convert 51 9 (.tmp 97), _, _, _, some (2, false)⟩) rfl (fun K hK => ?_) AllReadyH.nil))
            · rw [if_pos (by rfl)]
              refine wp_run (.string ⟨l8.toArray⟩) w9 (exec_conv (s := 51) (t := 9) (x := .tmp 91) rfl (v := v8) rfl He1.out) ?_
              refine hK.out _ _ (S9.out) (fun _ => ?_)
              clear hK K
              try go_frame
              refine wpAnyH_ready (rs := [10]) (by kernel_rfl) (by simp) (AllReadyH.cons (o := ⟨some 98, .convert 51 9 (.tmp 97), _, _, _, some (2, false)⟩) rfl (fun K hK => ?_) AllReadyH.nil)
              rw [if_pos (by rfl)]
              refine wp_run (.string ⟨l8.toArray⟩) w9 (exec_conv (s := 51) (t := 9) (x := .tmp 97) rfl (v := .slice (some ⟨g9, 0, none⟩) 256 256) rfl Hs9.out) ?_
              refine hK.out _ _ (S9.out) (fun _ => ?_)
              clear hK K
              try go_frame
              refine' wpAnyH_take (i := 11) (oi := ⟨some 99, .binOp .neq 9 (.tmp 92) (.tmp 98) 9, _, _, _, some (2, false)⟩) (v := _) rfl (by kernel_rfl) (by kernel_rfl) (by kernel_rfl) (fun _ _ _ h => h) (Or.inl ⟨by rfl, ?hy57⟩) (by assumption) ?rest57
              case hy57 => (intro w hSw; obtain ⟨s1, s2⟩ := hSw; go_simp <;> with_reducible rfl)
              case rest57 =>
              go_frame
              refine' wpAnyH_take (i := 12) (oi := ⟨some 100, .pick (.tmp 90) (.const (.bool true)) (.tmp 99), _, _, _, none⟩) (v := _) rfl (by kernel_rfl) (by kernel_rfl) (by kernel_rfl) (fun _ _ _ h => h) (Or.inl ⟨by rfl, ?hy58⟩) (by assumption) ?rest58
              case hy58 => (intro w hSw; obtain ⟨s1, s2⟩ := hSw; go_simp <;> with_reducible rfl)
              case rest58 =>
              go_frame
              refine' wpAnyH_take (i := 13) (oi := ⟨some 101, .move (.tmp 100), _, _, _, none⟩) (v := _) rfl (by kernel_rfl) (by kernel_rfl) (by kernel_rfl) (fun _ _ _ h => h) (Or.inl ⟨by rfl, ?hy59⟩) (by assumption) ?rest59
              case hy59 => (intro w hSw; obtain ⟨s1, s2⟩ := hSw; go_simp <;> with_reducible rfl)
              case rest59 =>
              go_frame
              refine' wpAnyH_take (i := 14) (oi := ⟨some 102, .move (.tmp 5), _, _, _, some (13, false)⟩) (v := _) rfl (by kernel_rfl) (by kernel_rfl) (by kernel_rfl) (fun _ _ _ h => h) (Or.inl ⟨by rfl, ?hy60⟩) (by assumption) ?rest60
              case hy60 => (intro w hSw; obtain ⟨s1, s2⟩ := hSw; go_simp <;> with_reducible rfl)
              case rest60 =>
              go_frame
              refine wpAnyH_ready (rs := [15]) (by kernel_rfl) (by simp) (AllReadyH.cons (o := ⟨some 103, .call { callee := .value (.func 15), args := #[.tmp 102], argTypes := #[27] }, _, _, _, some (13, false)⟩) rfl (fun K hK => ?_) AllReadyH.nil)
              rw [if_pos (by rfl)]
              go_simp
              refine (Hheld.out w9 Hb9.out).mono ?_
              rintro e w10 ⟨A10, n10, cc10, rfl, q1, q2, q3, hb10⟩
              have hb10d := up Hb9.out hb10
              have S10 := Lib.hid (HS8b.out w10 hb10d)
              have Hb10 := Lib.hid hb10d
              clear hb10 hb10d
              dsimp only
              refine hK.out _ _ (S10.out) (fun _ => ?_)
              clear hK K
              try go_frame
              refine' wpAnyH_take (i := 16) (oi := ⟨some 104, .call { callee := .builtin .len, args := #[.tmp 103], argTypes := #[39] }, _, _, _, some (13, false)⟩) (v := _) rfl (by kernel_rfl) (by kernel_rfl) (by kernel_rfl) (fun _ _ _ h => h) (Or.inl ⟨by rfl, ?hy61⟩) (by assumption) ?rest61
              case hy61 => (intro w hSw; obtain ⟨s1, s2⟩ := hSw; go_simp <;> with_reducible rfl)
              case rest61 =>
              go_frame
              refine' wpAnyH_take (i := 17) (oi := ⟨some 105, .binOp .gtr 3 (.tmp 104) (.const (.int .i64 8)) 3, _, _, _, some (13, false)⟩) (v := _) rfl (by kernel_rfl) (by kernel_rfl) (by kernel_rfl) (fun _ _ _ h => h) (Or.inl ⟨by rfl, ?hy62⟩) (by assumption) ?rest62
              case hy62 => (intro w hSw; obtain ⟨s1, s2⟩ := hSw; go_simp <;> with_reducible rfl)
              case rest62 =>
              go_frame
              refine' wpAnyH_take (i := 18) (oi := ⟨some 106, .pick (.tmp 101) (.const (.bool true)) (.tmp 105), _, _, _, none⟩) (v := _) rfl (by kernel_rfl) (by kernel_rfl) (by kernel_rfl) (fun _ _ _ h => h) (Or.inl ⟨by rfl, ?hy63⟩) (by assumption) ?rest63
              case hy63 => (intro w hSw; obtain ⟨s1, s2⟩ := hSw; go_simp <;> with_reducible rfl)
              case rest63 =>
              go_frame
              refine wpAnyH_done (by kernel_rfl) ?_ _
              go_wp2_with fail
              go_roundw
              case rel => exact ⟨k + 1, by omega, by omega, by go_num, Lib.hid (Hnext.out w10 Hb10.out)⟩
              case measure => simp [intOf]; omega
            · rw [if_pos (by rfl)]
              refine wp_run (.string ⟨l8.toArray⟩) w9 (exec_conv (s := 51) (t := 9) (x := .tmp 97) rfl (v := .slice (some ⟨g9, 0, none⟩) 256 256) rfl Hs9.out) ?_
              refine hK.out _ _ (S9.out) (fun _ => ?_)
              clear hK K
              try go_frame
              refine wpAnyH_ready (rs := [4]) (by kernel_rfl) (by simp) (AllReadyH.cons (o := ⟨some 92, .convert 51 9 (.tmp 91), _, _, _, some (2, false)⟩) rfl (fun K hK => ?_) AllReadyH.nil)
              rw [if_pos (by rfl)]
              refine wp_run (.string ⟨l8.toArray⟩) w9 (exec_conv (s := 51) (t := 9) (x := .tmp 91) rfl (v := v8) rfl He1.out) ?_
              refine hK.out _ _ (S9.out) (fun _ => ?_)
              clear hK K
              try go_frame
              refine' wpAnyH_take (i := 11) (oi := ⟨some 99, .binOp .neq 9 (.tmp 92) (.tmp 98) 9, _, _, _, some (2, false)⟩) (v := _) rfl (by kernel_rfl) (by kernel_rfl) (by kernel_rfl) (fun _ _ _ h => h) (Or.inl ⟨by rfl, ?hy64⟩) (by assumption) ?rest64
              case hy64 => (intro w hSw; obtain ⟨s1, s2⟩ := hSw; go_simp <;> with_reducible rfl)
              case rest64 =>
              go_frame
              refine' wpAnyH_take (i := 12) (oi := ⟨some 100, .pick (.tmp 90) (.const (.bool true)) (.tmp 99), _, _, _, none⟩) (v := _) rfl (by kernel_rfl) (by kernel_rfl) (by kernel_rfl) (fun _ _ _ h => h) (Or.inl ⟨by rfl, ?hy65⟩) (by assumption) ?rest65
              case hy65 => (intro w hSw; obtain ⟨s1, s2⟩ := hSw; go_simp <;> with_reducible rfl)
              case rest65 =>
              go_frame
              refine' wpAnyH_take (i := 13) (oi := ⟨some 101, .move (.tmp 100), _, _, _, none⟩) (v := _) rfl (by kernel_rfl) (by kernel_rfl) (by kernel_rfl) (fun _ _ _ h => h) (Or.inl ⟨by rfl, ?hy66⟩) (by assumption) ?rest66
              case hy66 => (intro w hSw; obtain ⟨s1, s2⟩ := hSw; go_simp <;> with_reducible rfl)
              case rest66 =>
              go_frame
              refine' wpAnyH_take (i := 14) (oi := ⟨some 102, .move (.tmp 5), _, _, _, some (13, false)⟩) (v := _) rfl (by kernel_rfl) (by kernel_rfl) (by kernel_rfl) (fun _ _ _ h => h) (Or.inl ⟨by rfl, ?hy67⟩) (by assumption) ?rest67
              case hy67 => (intro w hSw; obtain ⟨s1, s2⟩ := hSw; go_simp <;> with_reducible rfl)
              case rest67 =>
              go_frame
              refine wpAnyH_ready (rs := [15]) (by kernel_rfl) (by simp) (AllReadyH.cons (o := ⟨some 103, .call { callee := .value (.func 15), args := #[.tmp 102], argTypes := #[27] }, _, _, _, some (13, false)⟩) rfl (fun K hK => ?_) AllReadyH.nil)
              rw [if_pos (by rfl)]
              go_simp
              refine (Hheld.out w9 Hb9.out).mono ?_
              rintro e w10 ⟨A10, n10, cc10, rfl, q1, q2, q3, hb10⟩
              have hb10d := up Hb9.out hb10
              have S10 := Lib.hid (HS8b.out w10 hb10d)
              have Hb10 := Lib.hid hb10d
              clear hb10 hb10d
              dsimp only
              refine hK.out _ _ (S10.out) (fun _ => ?_)
              clear hK K
              try go_frame
              refine' wpAnyH_take (i := 16) (oi := ⟨some 104, .call { callee := .builtin .len, args := #[.tmp 103], argTypes := #[39] }, _, _, _, some (13, false)⟩) (v := _) rfl (by kernel_rfl) (by kernel_rfl) (by kernel_rfl) (fun _ _ _ h => h) (Or.inl ⟨by rfl, ?hy68⟩) (by assumption) ?rest68
              case hy68 => (intro w hSw; obtain ⟨s1, s2⟩ := hSw; go_simp <;> with_reducible rfl)
              case rest68 =>
              go_frame
              refine' wpAnyH_take (i := 17) (oi := ⟨some 105, .binOp .gtr 3 (.tmp 104) (.const (.int .i64 8)) 3, _, _, _, some (13, false)⟩) (v := _) rfl (by kernel_rfl) (by kernel_rfl) (by kernel_rfl) (fun _ _ _ h => h) (Or.inl ⟨by rfl, ?hy69⟩) (by assumption) ?rest69
              case hy69 => (intro w hSw; obtain ⟨s1, s2⟩ := hSw; go_simp <;> with_reducible rfl)
              case rest69 =>
              go_frame
              refine' wpAnyH_take (i := 18) (oi := ⟨some 106, .pick (.tmp 101) (.const (.bool true)) (.tmp 105), _, _, _, none⟩) (v := _) rfl (by kernel_rfl) (by kernel_rfl) (by kernel_rfl) (fun _ _ _ h => h) (Or.inl ⟨by rfl, ?hy70⟩) (by assumption) ?rest70
              case hy70 => (intro w hSw; obtain ⟨s1, s2⟩ := hSw; go_simp <;> with_reducible rfl)
              case rest70 =>
              go_frame
              refine wpAnyH_done (by kernel_rfl) ?_ _
              go_wp2_with fail
              go_roundw
              case rel => exact ⟨k + 1, by omega, by omega, by go_num, Lib.hid (Hnext.out w10 Hb10.out)⟩
              case measure => simp [intOf]; omega
      · by_cases h32 : e3 = 2
        · subst h32
          rcases hr with ⟨m, rfl, hm⟩ | hr | ⟨hr0, hr⟩
          · have Hm := Lib.hid hm
            have r1 : ¬ 24 ≤ (m : Int) := by omega
            have r2 : (m : Int) < 24 := by omega
            have r3 : (0 : Int) ≤ (m : Int) := by omega
            have hb3 : Below wr.heap.size wr (wr.alloc (.cells #[.int .i64 kind, .int .i64 (m : Int), .int .u8 (by_.toNat : Int)] 37)) := (Below.refl _ _).alloc (Nat.le_refl _) _
            have hh3 : (wr.alloc (.cells #[.int .i64 kind, .int .i64 (m : Int), .int .u8 (by_.toNat : Int)] 37)).heap[ga]? = some (.cells #[.int .i64 kind, .int .i64 (m : Int), .int .u8 (by_.toNat : Int)] 37 (0, 0)) := by rw [hga]; exact heap_alloc_last _ _
            obtain ⟨w3, hw3⟩ : ∃ w3, w3 = (wr.alloc (.cells #[.int .i64 kind, .int .i64 (m : Int), .int .u8 (by_.toNat : Int)] 37)) := ⟨_, rfl⟩
            rw [← hw3] at hb3 hh3
            have HT3 := Lib.hid (Hmade.out _ w3 hb3 hh3)
            have Hh3 := Lib.hid hh3
            have Hga := Lib.hid (show ga < w3.heap.size from (Array.getElem?_eq_some_iff.1 hh3).1)
            have HC : Hid (∀ (w' : World), w'.heap[ga]? = w3.heap[ga]? → w'.cell? ⟨ga, 0, none⟩ = some (.int .i64 kind) ∧ w'.cell? ⟨ga, 1, none⟩ = some (.int .i64 (m : Int)) ∧ w'.cell? ⟨ga, 2, none⟩ = some (.int .u8 (by_.toNat : Int))) := Lib.hid fun w' e => by
              obtain ⟨a, b, c, _⟩ := act_cells (e.trans hh3)
              exact ⟨a, b, c⟩
            have HS3x : Hid (∃ x d, Thr w w3 (fun k => k = ga) g c bf p hs (ofBytes hs) (20 * k) x d) := Lib.hid ⟨_, _, HT3.out⟩
            go_wp2_with (first
              | (go_at_call 24; rw [← hw3]; obtain ⟨xg, dg, hTg⟩ := HS3x.out; refine (hTg.sync (by omega)).mono ?_; rintro e w7 ⟨rfl, hs7, ho7, hl7⟩; have E7 := Lib.hid (ho7 ga rfl); have HS7 : Hid (∃ x d, Thr w w7 (fun k => k = ga) g c bf p hs (ofBytes hs) (20 * k + 8) x d) := Lib.hid (by obtain ⟨x7, d7, h7, _⟩ := hs7; exact ⟨x7, d7, h7⟩); obtain ⟨z0, z1, z2⟩ := HC.out w7 E7.out; rw [hga] at z0 z1 z2; clear hs7 ho7 hl7 hTg xg dg)
              | (go_at_call 25; obtain ⟨xg, dg, hTg⟩ := HS7.out; refine (hTg.get (by omega) Hm.out).mono ?_; rintro e w8 ⟨v8, rfl, hr8, hs8, ho8, hl8⟩; have E8 := Lib.hid ((ho8 ga rfl).trans E7.out); have Hr8 := Lib.hid hr8; have HS8 := Lib.hid hs8; clear hr8 hs8 ho8 hl8 hTg xg dg))
            rw [← hga]
            have HS8t : Hid (∃ x d, Thr w w8 (fun k => k = ga) g c bf p (hs) (ofBytes (hs)) (20 * k + 8 + 1) x d) := HS8
            obtain ⟨b8, hb8⟩ : ∃ b8, b8 = (hs).getD m 0 := ⟨_, rfl⟩
            obtain ⟨l8, hl8⟩ : ∃ l8, l8 = List.replicate 256 b8 := ⟨_, rfl⟩
            have Hr8l : Hid (Rd w8 w8.heap.size v8 (cellsB l8)) := Lib.hid (by rw [hl8, hb8]; exact Hr8.out)
            have Hl8 := Lib.hid (show l8.length = 256 by rw [hl8]; exact List.length_replicate)
            have Hfull8 : Hid (∀ w, Calls Try.prog 23 #[.int .u8 (b8.toNat : Int)] w fun e w' => ∃ g, e = .returned (.slice (some ⟨g, 0, none⟩) 256 256) ∧ w.heap.size ≤ g ∧ w'.heap[g]? = some (.cells (cellsB l8).toArray 5 (0, 0)) ∧ Below w.heap.size w w') := Lib.hid (by rw [hl8]; exact cfull_any b8)
            have HS8b : Hid (∀ (w' : World), Below w8.heap.size w8 w' → w'.cell? ⟨ga, 1, none⟩ = some (.int .i64 (m : Int)) ∧ w'.cell? ⟨g, m, none⟩ = some (.int .u8 (b8.toNat : Int))) := Lib.hid fun w' hb => by
              obtain ⟨xg, dg, hTg⟩ := HS8t.out
              have h1 : ga < w8.heap.size := (Array.getElem?_eq_some_iff.1 (E8.out.trans Hh3.out)).1
              refine ⟨(HC.out w' ((hb.block ga h1).trans E8.out)).2.1, ?_⟩
              rw [hb8]
              exact (hb.cell (p := ⟨g, m, none⟩) (Array.getElem?_eq_some_iff.1 hTg.arr).1).trans (hTg.cell Hm.out)
            have S8 := Lib.hid (HS8b.out w8 (Below.refl _ _))
            have Hheld : Hid (∀ (w' : World), Below w8.heap.size w8 w' → Calls Try.prog 15 #[at0 c] w' fun e w2 => ∃ A n' cc, e = .returned (.slice A n' cc) ∧ n' ≤ 8 ∧ n' ≤ cc ∧ cc ≤ 9223372036854775807 ∧ Below w'.heap.size w' w2) := Lib.hid fun w' hb => by
              obtain ⟨xg, dg, hTg⟩ := HS8t.out
              exact (hTg.more hb fun _ => .inl).held
            have Hnext : Hid (∀ (w' : World), Below w8.heap.size w8 w' → ∃ hs x d, Thr w w' (fun _ => False) g c bf p hs (ofBytes hs) (20 * (k + 1)) x d) := Lib.hid fun w' hb => by
              obtain ⟨xg, dg, hTg⟩ := HS8t.out
              exact ⟨_, xg, dg, (hTg.more hb fun _ e => e.elim).le (by omega)⟩
            have He0 := Lib.hid (string_of (P := Try.prog) 51 9 5 Try.underlying51 Try.underlying5 Try.underlying9 Hr8l.out (up_drew (Below.refl w8.heap.size w8)))
            replace Hr8 := Hr8l
            clear hb8 hl8 HS8 HS8t Hr8l
            clear hw3 hb3 hh3 Hmade hga c0 c1 c2
            refine wp_region_held_drew (S := fun w' : World => w'.cell? ⟨ga, 1, none⟩ = some (.int .i64 (m : Int)) ∧ w'.cell? ⟨g, m, none⟩ = some (.int .u8 (b8.toNat : Int))) (by kernel_rfl) S8.out (fun hHeld => ?_)
            refine' wpAnyH_take (i := 0) (oi := ⟨some 88, .move (.tmp 11), _, _, _, none⟩) (v := _) rfl (by kernel_rfl) (by kernel_rfl) (by kernel_rfl) (fun _ _ _ h => h) (Or.inl ⟨by rfl, ?hy71⟩) (by assumption) ?rest71
            case hy71 => (intro w hSw; obtain ⟨s1, s2⟩ := hSw; go_simp <;> with_reducible rfl)
            case rest71 =>
            go_frame
            refine' wpAnyH_take (i := 1) (oi := ⟨some 89, .binOp .neq 24 (.tmp 88) (.const (.int .i64 0)) 24, _, _, _, none⟩) (v := _) rfl (by kernel_rfl) (by kernel_rfl) (by kernel_rfl) (fun _ _ _ h => h) (Or.inl ⟨by rfl, ?hy72⟩) (by assumption) ?rest72
            case hy72 => (intro w hSw; obtain ⟨s1, s2⟩ := hSw; go_simp <;> with_reducible rfl)
            case rest72 =>
            go_frame
            refine' wpAnyH_take (i := 2) (oi := ⟨some 90, .move (.tmp 89), _, _, _, none⟩) (v := _) rfl (by kernel_rfl) (by kernel_rfl) (by kernel_rfl) (fun _ _ _ h => h) (Or.inl ⟨by rfl, ?hy73⟩) (by assumption) ?rest73
            case hy73 => (intro w hSw; obtain ⟨s1, s2⟩ := hSw; go_simp <;> with_reducible rfl)
            case rest73 =>
            go_frame
            refine' wpAnyH_take (i := 3) (oi := ⟨some 91, .move (.tmp 10), _, _, _, some (2, false)⟩) (v := _) rfl (by kernel_rfl) (by kernel_rfl) (by kernel_rfl) (fun _ _ _ h => h) (Or.inl ⟨by rfl, ?hy74⟩) (by assumption) ?rest74
            case hy74 => (intro w hSw; obtain ⟨s1, s2⟩ := hSw; go_simp <;> with_reducible rfl)
            case rest74 =>
            go_frame
            refine' wpAnyH_take (i := 5) (oi := ⟨some 93, .fieldAddr 37 (.tmp 9) 1, _, _, _, some (2, false)⟩) (v := _) rfl (by kernel_rfl) (by kernel_rfl) (by kernel_rfl) (fun _ _ _ h => h) (Or.inl ⟨by rfl, ?hy75⟩) (by assumption) ?rest75
            case hy75 => (intro w hSw; obtain ⟨s1, s2⟩ := hSw; go_simp <;> with_reducible rfl)
            case rest75 =>
            go_frame
            refine' wpAnyH_take (i := 6) (oi := ⟨some 94, .load 3 (.tmp 93), _, _, _, some (2, false)⟩) (v := _) rfl (by kernel_rfl) (by kernel_rfl) (by kernel_rfl) (fun _ _ _ h => h) (Or.inl ⟨by rfl, ?hy76⟩) (by assumption) ?rest76
            case hy76 => (intro w hSw; obtain ⟨s1, s2⟩ := hSw; go_simp <;> with_reducible rfl)
            case rest76 =>
            go_frame
            refine' wpAnyH_take (i := 7) (oi := ⟨some 95, .indexAddr 56 (.tmp 7) (.tmp 94), _, _, _, some (2, false)⟩) (v := _) rfl (by kernel_rfl) (by kernel_rfl) (by kernel_rfl) (fun _ _ _ h => h) (Or.inl ⟨by rfl, ?hy77⟩) (by assumption) ?rest77
            case hy77 => (intro w hSw; obtain ⟨s1, s2⟩ := hSw; go_simp <;> with_reducible rfl)
            case rest77 =>
            go_frame
            refine' wpAnyH_take (i := 8) (oi := ⟨some 96, .load 5 (.tmp 95), _, _, _, some (2, false)⟩) (v := _) rfl (by kernel_rfl) (by kernel_rfl) (by kernel_rfl) (fun _ _ _ h => h) (Or.inl ⟨by rfl, ?hy78⟩) (by assumption) ?rest78
            case hy78 => (intro w hSw; obtain ⟨s1, s2⟩ := hSw; go_simp <;> with_reducible rfl)
            case rest78 =>
            go_frame
            refine wpAnyH_ready (rs := [4, 9]) (by kernel_rfl) (by simp) (AllReadyH.cons (o := ⟨some 92, .convert 51 9 (.tmp 91), _, _, _, some (2, false)⟩) rfl (fun K hK => ?_) (AllReadyH.cons (o := ⟨some 97, .call { callee := .value (.func 23), args := #[.tmp 96], argTypes := #[5] }, _, _, _, some (2, false)⟩) rfl (fun K hK => ?_) AllReadyH.nil))
            · rw [if_pos (by rfl)]
              refine wp_run (.string ⟨l8.toArray⟩) w8.drew (exec_conv (s := 51) (t := 9) (x := .tmp 91) rfl (v := v8) rfl He0.out) ?_
              refine hK.out _ _ (S8.out) (fun _ => ?_)
              clear hK K
              try go_frame
              refine wpAnyH_ready (rs := [9]) (by kernel_rfl) (by simp) (AllReadyH.cons (o := ⟨some 97, .call { callee := .value (.func 23), args := #[.tmp 96], argTypes := #[5] }, _, _, _, some (2, false)⟩) rfl (fun K hK => ?_) AllReadyH.nil)
              rw [if_pos (by rfl)]
              go_simp
              refine (Hfull8.out _).mono ?_
              rintro e w9 ⟨g9, rfl, hg9, hh9, hb9⟩
              have hb9d : Below w8.heap.size w8 w9 := (up_drew (Below.refl w8.heap.size w8)).trans hb9
              have He1 := Lib.hid (string_of (P := Try.prog) 51 9 5 Try.underlying51 Try.underlying5 Try.underlying9 Hr8.out hb9d)
              have Hs9 := Lib.hid (string_of (P := Try.prog) 51 9 5 Try.underlying51 Try.underlying5 Try.underlying9 (rd_whole hh9 Hl8.out) (Below.refl _ _))
              have S9 := Lib.hid (HS8b.out w9 hb9d)
              have Hb9 := Lib.hid hb9d
              clear hg9 hh9 hb9 hb9d
              dsimp only
              refine hK.out _ _ (S9.out) (fun _ => ?_)
              clear hK K
              try go_frame
              refine wpAnyH_ready (rs := [10]) (by kernel_rfl) (by simp) (AllReadyH.cons (o := ⟨some 98, .convert 51 9 (.tmp 97), _, _, _, some (2, false)⟩) rfl (fun K hK => ?_) AllReadyH.nil)
              rw [if_pos (by rfl)]
              refine wp_run (.string ⟨l8.toArray⟩) w9 (exec_conv (s := 51) (t := 9) (x := .tmp 97) rfl (v := .slice (some ⟨g9, 0, none⟩) 256 256) rfl Hs9.out) ?_
              refine hK.out _ _ (S9.out) (fun _ => ?_)
              clear hK K
              try go_frame
              refine' wpAnyH_take (i := 11) (oi := ⟨some 99, .binOp .neq 9 (.tmp 92) (.tmp 98) 9, _, _, _, some (2, false)⟩) (v := _) rfl (by kernel_rfl) (by kernel_rfl) (by kernel_rfl) (fun _ _ _ h => h) (Or.inl ⟨by rfl, ?hy79⟩) (by assumption) ?rest79
              case hy79 => (intro w hSw; obtain ⟨s1, s2⟩ := hSw; go_simp <;> with_reducible rfl)
              case rest79 =>
              go_frame
              refine' wpAnyH_take (i := 12) (oi := ⟨some 100, .pick (.tmp 90) (.const (.bool true)) (.tmp 99), _, _, _, none⟩) (v := _) rfl (by kernel_rfl) (by kernel_rfl) (by kernel_rfl) (fun _ _ _ h => h) (Or.inl ⟨by rfl, ?hy80⟩) (by assumption) ?rest80
              case hy80 => (intro w hSw; obtain ⟨s1, s2⟩ := hSw; go_simp <;> with_reducible rfl)
              case rest80 =>
              go_frame
              refine' wpAnyH_take (i := 13) (oi := ⟨some 101, .move (.tmp 100), _, _, _, none⟩) (v := _) rfl (by kernel_rfl) (by kernel_rfl) (by kernel_rfl) (fun _ _ _ h => h) (Or.inl ⟨by rfl, ?hy81⟩) (by assumption) ?rest81
              case hy81 => (intro w hSw; obtain ⟨s1, s2⟩ := hSw; go_simp <;> with_reducible rfl)
              case rest81 =>
              go_frame
              refine' wpAnyH_take (i := 14) (oi := ⟨some 102, .move (.tmp 5), _, _, _, some (13, false)⟩) (v := _) rfl (by kernel_rfl) (by kernel_rfl) (by kernel_rfl) (fun _ _ _ h => h) (Or.inl ⟨by rfl, ?hy82⟩) (by assumption) ?rest82
              case hy82 => (intro w hSw; obtain ⟨s1, s2⟩ := hSw; go_simp <;> with_reducible rfl)
              case rest82 =>
              go_frame
              refine wpAnyH_ready (rs := [15]) (by kernel_rfl) (by simp) (AllReadyH.cons (o := ⟨some 103, .call { callee := .value (.func 15), args := #[.tmp 102], argTypes := #[27] }, _, _, _, some (13, false)⟩) rfl (fun K hK => ?_) AllReadyH.nil)
              rw [if_pos (by rfl)]
              go_simp
              refine (Hheld.out w9 Hb9.out).mono ?_
              rintro e w10 ⟨A10, n10, cc10, rfl, q1, q2, q3, hb10⟩
              have hb10d := up Hb9.out hb10
              have S10 := Lib.hid (HS8b.out w10 hb10d)
              have Hb10 := Lib.hid hb10d
              clear hb10 hb10d
              dsimp only
              refine hK.out _ _ (S10.out) (fun _ => ?_)
              clear hK K
              try go_frame
              refine' wpAnyH_take (i := 16) (oi := ⟨some 104, .call { callee := .builtin .len, args := #[.tmp 103], argTypes := #[39] }, _, _, _, some (13, false)⟩) (v := _) rfl (by kernel_rfl) (by kernel_rfl) (by kernel_rfl) (fun _ _ _ h => h) (Or.inl ⟨by rfl, ?hy83⟩) (by assumption) ?rest83
              case hy83 => (intro w hSw; obtain ⟨s1, s2⟩ := hSw; go_simp <;> with_reducible rfl)
              case rest83 =>
              go_frame
              refine' wpAnyH_take (i := 17) (oi := ⟨some 105, .binOp .gtr 3 (.tmp 104) (.const (.int .i64 8)) 3, _, _, _, some (13, false)⟩) (v := _) rfl (by kernel_rfl) (by kernel_rfl) (by kernel_rfl) (fun _ _ _ h => h) (Or.inl ⟨by rfl, ?hy84⟩) (by assumption) ?rest84
              case hy84 => (intro w hSw; obtain ⟨s1, s2⟩ := hSw; go_simp <;> with_reducible rfl)
              case rest84 =>
              go_frame
              refine' wpAnyH_take (i := 18) (oi := ⟨some 106, .pick (.tmp 101) (.const (.bool true)) (.tmp 105), _, _, _, none⟩) (v := _) rfl (by kernel_rfl) (by kernel_rfl) (by kernel_rfl) (fun _ _ _ h => h) (Or.inl ⟨by rfl, ?hy85⟩) (by assumption) ?rest85
              case hy85 => (intro w hSw; obtain ⟨s1, s2⟩ := hSw; go_simp <;> with_reducible rfl)
              case rest85 =>
              go_frame
              refine wpAnyH_done (by kernel_rfl) ?_ _
              go_wp2_with fail
              go_roundw
              case rel => exact ⟨k + 1, by omega, by omega, by go_num, Lib.hid (Hnext.out w10 Hb10.out)⟩
              case measure => simp [intOf]; omega
            · rw [if_pos (by rfl)]
              go_simp
              refine (Hfull8.out _).mono ?_
              rintro e w9 ⟨g9, rfl, hg9, hh9, hb9⟩
              have hb9d : Below w8.heap.size w8 w9 := (up_drew (Below.refl w8.heap.size w8)).trans hb9
              have He1 := Lib.hid (string_of (P := Try.prog) 51 9 5 Try.underlying51 Try.underlying5 Try.underlying9 Hr8.out hb9d)
              have Hs9 := Lib.hid (string_of (P := Try.prog) 51 9 5 Try.underlying51 Try.underlying5 Try.underlying9 (rd_whole hh9 Hl8.out) (Below.refl _ _))
              have S9 := Lib.hid (HS8b.out w9 hb9d)
              have Hb9 := Lib.hid hb9d
              clear hg9 hh9 hb9 hb9d
              dsimp only
              refine hK.out _ _ (S9.out) (fun _ => ?_)
              clear hK K
              try go_frame
              refine wpAnyH_ready (rs := [4, 10]) (by kernel_rfl) (by simp) (AllReadyH.cons (o := ⟨some 92, .convert 51 9 (.tmp 91), _, _, _, some (2, false)⟩) rfl (fun K hK => ?_) (AllReadyH.cons (o := ⟨some 98, .convert 51 9 (.tmp 97), _, _, _, some (2, false)⟩) rfl (fun K hK => ?_) AllReadyH.nil))
              · rw [if_pos (by rfl)]
                refine wp_run (.string ⟨l8.toArray⟩) w9 (exec_conv (s := 51) (t := 9) (x := .tmp 91) rfl (v := v8) rfl He1.out) ?_
                refine hK.out _ _ (S9.out) (fun _ => ?_)
                clear hK K
                try go_frame
                refine wpAnyH_ready (rs := [10]) (by kernel_rfl) (by simp) (AllReadyH.cons (o := ⟨some 98, .convert 51 9 (.tmp 97), _, _, _, some (2, false)⟩) rfl (fun K hK => ?_) AllReadyH.nil)
                rw [if_pos (by rfl)]
                refine wp_run (.string ⟨l8.toArray⟩) w9 (exec_conv (s := 51) (t := 9) (x := .tmp 97) rfl (v := .slice (some ⟨g9, 0, none⟩) 256 256) rfl Hs9.out) ?_
                refine hK.out _ _ (S9.out) (fun _ => ?_)
                clear hK K
                try go_frame
                refine' wpAnyH_take (i := 11) (oi := ⟨some 99, .binOp .neq 9 (.tmp 92) (.tmp 98) 9, _, _, _, some (2, false)⟩) (v := _) rfl (by kernel_rfl) (by kernel_rfl) (by kernel_rfl) (fun _ _ _ h => h) (Or.inl ⟨by rfl, ?hy86⟩) (by assumption) ?rest86
                case hy86 => (intro w hSw; obtain ⟨s1, s2⟩ := hSw; go_simp <;> with_reducible rfl)
                case rest86 =>
                go_frame
                refine' wpAnyH_take (i := 12) (oi := ⟨some 100, .pick (.tmp 90) (.const (.bool true)) (.tmp 99), _, _, _, none⟩) (v := _) rfl (by kernel_rfl) (by kernel_rfl) (by kernel_rfl) (fun _ _ _ h => h) (Or.inl ⟨by rfl, ?hy87⟩) (by assumption) ?rest87
                case hy87 => (intro w hSw; obtain ⟨s1, s2⟩ := hSw; go_simp <;> with_reducible rfl)
                case rest87 =>
                go_frame
                refine' wpAnyH_take (i := 13) (oi := ⟨some 101, .move (.tmp 100), _, _, _, none⟩) (v := _) rfl (by kernel_rfl) (by kernel_rfl) (by kernel_rfl) (fun _ _ _ h => h) (Or.inl ⟨by rfl, ?hy88⟩) (by assumption) ?rest88
                case hy88 => (intro w hSw; obtain ⟨s1, s2⟩ := hSw; go_simp <;> with_reducible rfl)
                case rest88 =>
                go_frame
                refine' wpAnyH_take (i := 14) (oi := ⟨some 102, .move (.tmp 5), _, _, _, some (13, false)⟩) (v := _) rfl (by kernel_rfl) (by kernel_rfl) (by kernel_rfl) (fun _ _ _ h => h) (Or.inl ⟨by rfl, ?hy89⟩) (by assumption) ?rest89
                case hy89 => (intro w hSw; obtain ⟨s1, s2⟩ := hSw; go_simp <;> with_reducible rfl)
                case rest89 =>
                go_frame
                refine wpAnyH_ready (rs := [15]) (by kernel_rfl) (by simp) (AllReadyH.cons (o := ⟨some 103, .call { callee := .value (.func 15), args := #[.tmp 102], argTypes := #[27] }, _, _, _, some (13, false)⟩) rfl (fun K hK => ?_) AllReadyH.nil)
                rw [if_pos (by rfl)]
                go_simp
                refine (Hheld.out w9 Hb9.out).mono ?_
                rintro e w10 ⟨A10, n10, cc10, rfl, q1, q2, q3, hb10⟩
                have hb10d := up Hb9.out hb10
                have S10 := Lib.hid (HS8b.out w10 hb10d)
                have Hb10 := Lib.hid hb10d
                clear hb10 hb10d
                dsimp only
                refine hK.out _ _ (S10.out) (fun _ => ?_)
                clear hK K
                try go_frame
                refine' wpAnyH_take (i := 16) (oi := ⟨some 104, .call { callee := .builtin .len, args := #[.tmp 103], argTypes := #[39] }, _, _, _, some (13, false)⟩) (v := _) rfl (by kernel_rfl) (by kernel_rfl) (by kernel_rfl) (fun _ _ _ h => h) (Or.inl ⟨by rfl, ?hy90⟩) (by assumption) ?rest90
                case hy90 => (intro w hSw; obtain ⟨s1, s2⟩ := hSw; go_simp <;> with_reducible rfl)
                case rest90 =>
                go_frame
                refine' wpAnyH_take (i := 17) (oi := ⟨some 105, .binOp .gtr 3 (.tmp 104) (.const (.int .i64 8)) 3, _, _, _, some (13, false)⟩) (v := _) rfl (by kernel_rfl) (by kernel_rfl) (by kernel_rfl) (fun _ _ _ h => h) (Or.inl ⟨by rfl, ?hy91⟩) (by assumption) ?rest91
                case hy91 => (intro w hSw; obtain ⟨s1, s2⟩ := hSw; go_simp <;> with_reducible rfl)
                case rest91 =>
                go_frame
                refine' wpAnyH_take (i := 18) (oi := ⟨some 106, .pick (.tmp 101) (.const (.bool true)) (.tmp 105), _, _, _, none⟩) (v := _) rfl (by kernel_rfl) (by kernel_rfl) (by kernel_rfl) (fun _ _ _ h => h) (Or.inl ⟨by rfl, ?hy92⟩) (by assumption) ?rest92
                case hy92 => (intro w hSw; obtain ⟨s1, s2⟩ := hSw; go_simp <;> with_reducible rfl)
                case rest92 =>
                go_frame
                refine wpAnyH_done (by kernel_rfl) ?_ _
                go_wp2_with fail
                go_roundw
                case rel => exact ⟨k + 1, by omega, by omega, by go_num, Lib.hid (Hnext.out w10 Hb10.out)⟩
                case measure => simp [intOf]; omega
              · rw [if_pos (by rfl)]
                refine wp_run (.string ⟨l8.toArray⟩) w9 (exec_conv (s := 51) (t := 9) (x := .tmp 97) rfl (v := .slice (some ⟨g9, 0, none⟩) 256 256) rfl Hs9.out) ?_
                refine hK.out _ _ (S9.out) (fun _ => ?_)
                clear hK K
                try go_frame
                refine wpAnyH_ready (rs := [4]) (by kernel_rfl) (by simp) (AllReadyH.cons (o := ⟨some 92, .convert 51 9 (.tmp 91), _, _, _, some (2, false)⟩) rfl (fun K hK => ?_) AllReadyH.nil)
                rw [if_pos (by rfl)]
                refine wp_run (.string ⟨l8.toArray⟩) w9 (exec_conv (s := 51) (t := 9) (x := .tmp 91) rfl (v := v8) rfl He1.out) ?_
                refine hK.out _ _ (S9.out) (fun _ => ?_)
                clear hK K
                try go_frame
                refine' wpAnyH_take (i := 11) (oi := ⟨some 99, .binOp .neq 9 (.tmp 92) (.tmp 98) 9, _, _, _, some (2, false)⟩) (v := _) rfl (by kernel_rfl) (by kernel_rfl) (by kernel_rfl) (fun _ _ _ h => h) (Or.inl ⟨by rfl, ?hy93⟩) (by assumption) ?rest93
                case hy93 => (intro w hSw; obtain ⟨s1, s2⟩ := hSw; go_simp <;> with_reducible rfl)
                case rest93 =>
                go_frame
                refine' wpAnyH_take (i := 12) (oi := ⟨some 100, .pick (.tmp 90) (.const (.bool true)) (.tmp 99), _, _, _, none⟩) (v := _) rfl (by kernel_rfl) (by kernel_rfl) (by kernel_rfl) (fun _ _ _ h => h) (Or.inl ⟨by rfl, ?hy94⟩) (by assumption) ?rest94
                case hy94 => (intro w hSw; obtain ⟨s1, s2⟩ := hSw; go_simp <;> with_reducible rfl)
                case rest94 =>
                go_frame
                refine' wpAnyH_take (i := 13) (oi := ⟨some 101, .move (.tmp 100), _, _, _, none⟩) (v := _) rfl (by kernel_rfl) (by kernel_rfl) (by kernel_rfl) (fun _ _ _ h => h) (Or.inl ⟨by rfl, ?hy95⟩) (by assumption) ?rest95
                case hy95 => (intro w hSw; obtain ⟨s1, s2⟩ := hSw; go_simp <;> with_reducible rfl)
                case rest95 =>
                go_frame
                refine' wpAnyH_take (i := 14) (oi := ⟨some 102, .move (.tmp 5), _, _, _, some (13, false)⟩) (v := _) rfl (by kernel_rfl) (by kernel_rfl) (by kernel_rfl) (fun _ _ _ h => h) (Or.inl ⟨by rfl, ?hy96⟩) (by assumption) ?rest96
                case hy96 => (intro w hSw; obtain ⟨s1, s2⟩ := hSw; go_simp <;> with_reducible rfl)
                case rest96 =>
                go_frame
                refine wpAnyH_ready (rs := [15]) (by kernel_rfl) (by simp) (AllReadyH.cons (o := ⟨some 103, .call { callee := .value (.func 15), args := #[.tmp 102], argTypes := #[27] }, _, _, _, some (13, false)⟩) rfl (fun K hK => ?_) AllReadyH.nil)
                rw [if_pos (by rfl)]
                go_simp
                refine (Hheld.out w9 Hb9.out).mono ?_
                rintro e w10 ⟨A10, n10, cc10, rfl, q1, q2, q3, hb10⟩
                have hb10d := up Hb9.out hb10
                have S10 := Lib.hid (HS8b.out w10 hb10d)
                have Hb10 := Lib.hid hb10d
                clear hb10 hb10d
                dsimp only
                refine hK.out _ _ (S10.out) (fun _ => ?_)
                clear hK K
                try go_frame
                refine' wpAnyH_take (i := 16) (oi := ⟨some 104, .call { callee := .builtin .len, args := #[.tmp 103], argTypes := #[39] }, _, _, _, some (13, false)⟩) (v := _) rfl (by kernel_rfl) (by kernel_rfl) (by kernel_rfl) (fun _ _ _ h => h) (Or.inl ⟨by rfl, ?hy97⟩) (by assumption) ?rest97
                case hy97 => (intro w hSw; obtain ⟨s1, s2⟩ := hSw; go_simp <;> with_reducible rfl)
                case rest97 =>
                go_frame
                refine' wpAnyH_take (i := 17) (oi := ⟨some 105, .binOp .gtr 3 (.tmp 104) (.const (.int .i64 8)) 3, _, _, _, some (13, false)⟩) (v := _) rfl (by kernel_rfl) (by kernel_rfl) (by kernel_rfl) (fun _ _ _ h => h) (Or.inl ⟨by rfl, ?hy98⟩) (by assumption) ?rest98
                case hy98 => (intro w hSw; obtain ⟨s1, s2⟩ := hSw; go_simp <;> with_reducible rfl)
                case rest98 =>
                go_frame
                refine' wpAnyH_take (i := 18) (oi := ⟨some 106, .pick (.tmp 101) (.const (.bool true)) (.tmp 105), _, _, _, none⟩) (v := _) rfl (by kernel_rfl) (by kernel_rfl) (by kernel_rfl) (fun _ _ _ h => h) (Or.inl ⟨by rfl, ?hy99⟩) (by assumption) ?rest99
                case hy99 => (intro w hSw; obtain ⟨s1, s2⟩ := hSw; go_simp <;> with_reducible rfl)
                case rest99 =>
                go_frame
                refine wpAnyH_done (by kernel_rfl) ?_ _
                go_wp2_with fail
                go_roundw
                case rel => exact ⟨k + 1, by omega, by omega, by go_num, Lib.hid (Hnext.out w10 Hb10.out)⟩
                case measure => simp [intOf]; omega
          all_goals
            have Hm := Lib.hid (show 0 < 24 by omega)
            have hb3 : Below wr.heap.size wr (wr.alloc (.cells #[.int .i64 kind, .int .i64 0, .int .u8 (by_.toNat : Int)] 37)) := (Below.refl _ _).alloc (Nat.le_refl _) _
            have hh3 : (wr.alloc (.cells #[.int .i64 kind, .int .i64 0, .int .u8 (by_.toNat : Int)] 37)).heap[ga]? = some (.cells #[.int .i64 kind, .int .i64 0, .int .u8 (by_.toNat : Int)] 37 (0, 0)) := by rw [hga]; exact heap_alloc_last _ _
            obtain ⟨w3, hw3⟩ : ∃ w3, w3 = (wr.alloc (.cells #[.int .i64 kind, .int .i64 0, .int .u8 (by_.toNat : Int)] 37)) := ⟨_, rfl⟩
            rw [← hw3] at hb3 hh3
            have HT3 := Lib.hid (Hmade.out _ w3 hb3 hh3)
            have Hh3 := Lib.hid hh3
            have Hga := Lib.hid (show ga < w3.heap.size from (Array.getElem?_eq_some_iff.1 hh3).1)
            have HC : Hid (∀ (w' : World), w'.heap[ga]? = w3.heap[ga]? → w'.cell? ⟨ga, 0, none⟩ = some (.int .i64 kind) ∧ w'.cell? ⟨ga, 1, none⟩ = some (.int .i64 0) ∧ w'.cell? ⟨ga, 2, none⟩ = some (.int .u8 (by_.toNat : Int))) := Lib.hid fun w' e => by
              obtain ⟨a, b, c, _⟩ := act_cells (e.trans hh3)
              exact ⟨a, b, c⟩
            have HS3x : Hid (∃ x d, Thr w w3 (fun k => k = ga) g c bf p hs (ofBytes hs) (20 * k) x d) := Lib.hid ⟨_, _, HT3.out⟩
            go_wp2_with (first
              | (go_at_call 24; rw [← hw3]; obtain ⟨xg, dg, hTg⟩ := HS3x.out; refine (hTg.sync (by omega)).mono ?_; rintro e w7 ⟨rfl, hs7, ho7, hl7⟩; have E7 := Lib.hid (ho7 ga rfl); have HS7 : Hid (∃ x d, Thr w w7 (fun k => k = ga) g c bf p hs (ofBytes hs) (20 * k + 8) x d) := Lib.hid (by obtain ⟨x7, d7, h7, _⟩ := hs7; exact ⟨x7, d7, h7⟩); obtain ⟨z0, z1, z2⟩ := HC.out w7 E7.out; rw [hga] at z0 z1 z2; clear hs7 ho7 hl7 hTg xg dg)
              | (go_at_call 25; obtain ⟨xg, dg, hTg⟩ := HS7.out; refine (hTg.get (by omega) Hm.out).mono ?_; rintro e w8 ⟨v8, rfl, hr8, hs8, ho8, hl8⟩; have E8 := Lib.hid ((ho8 ga rfl).trans E7.out); have Hr8 := Lib.hid hr8; have HS8 := Lib.hid hs8; clear hr8 hs8 ho8 hl8 hTg xg dg))
            rw [← hga]
            have HS8t : Hid (∃ x d, Thr w w8 (fun k => k = ga) g c bf p (hs) (ofBytes (hs)) (20 * k + 8 + 1) x d) := HS8
            obtain ⟨b8, hb8⟩ : ∃ b8, b8 = (hs).getD 0 0 := ⟨_, rfl⟩
            obtain ⟨l8, hl8⟩ : ∃ l8, l8 = List.replicate 256 b8 := ⟨_, rfl⟩
            have Hr8l : Hid (Rd w8 w8.heap.size v8 (cellsB l8)) := Lib.hid (by rw [hl8, hb8]; exact Hr8.out)
            have Hl8 := Lib.hid (show l8.length = 256 by rw [hl8]; exact List.length_replicate)
            have Hfull8 : Hid (∀ w, Calls Try.prog 23 #[.int .u8 (b8.toNat : Int)] w fun e w' => ∃ g, e = .returned (.slice (some ⟨g, 0, none⟩) 256 256) ∧ w.heap.size ≤ g ∧ w'.heap[g]? = some (.cells (cellsB l8).toArray 5 (0, 0)) ∧ Below w.heap.size w w') := Lib.hid (by rw [hl8]; exact cfull_any b8)
            have HS8b : Hid (∀ (w' : World), Below w8.heap.size w8 w' → w'.cell? ⟨ga, 1, none⟩ = some (.int .i64 0) ∧ w'.cell? ⟨g, 0, none⟩ = some (.int .u8 (b8.toNat : Int))) := Lib.hid fun w' hb => by
              obtain ⟨xg, dg, hTg⟩ := HS8t.out
              have h1 : ga < w8.heap.size := (Array.getElem?_eq_some_iff.1 (E8.out.trans Hh3.out)).1
              refine ⟨(HC.out w' ((hb.block ga h1).trans E8.out)).2.1, ?_⟩
              rw [hb8]
              exact (hb.cell (p := ⟨g, 0, none⟩) (Array.getElem?_eq_some_iff.1 hTg.arr).1).trans (hTg.cell Hm.out)
            have S8 := Lib.hid (HS8b.out w8 (Below.refl _ _))
            have Hheld : Hid (∀ (w' : World), Below w8.heap.size w8 w' → Calls Try.prog 15 #[at0 c] w' fun e w2 => ∃ A n' cc, e = .returned (.slice A n' cc) ∧ n' ≤ 8 ∧ n' ≤ cc ∧ cc ≤ 9223372036854775807 ∧ Below w'.heap.size w' w2) := Lib.hid fun w' hb => by
              obtain ⟨xg, dg, hTg⟩ := HS8t.out
              exact (hTg.more hb fun _ => .inl).held
            have Hnext : Hid (∀ (w' : World), Below w8.heap.size w8 w' → ∃ hs x d, Thr w w' (fun _ => False) g c bf p hs (ofBytes hs) (20 * (k + 1)) x d) := Lib.hid fun w' hb => by
              obtain ⟨xg, dg, hTg⟩ := HS8t.out
              exact ⟨_, xg, dg, (hTg.more hb fun _ e => e.elim).le (by omega)⟩
            have He0 := Lib.hid (string_of (P := Try.prog) 51 9 5 Try.underlying51 Try.underlying5 Try.underlying9 Hr8l.out (up_drew (Below.refl w8.heap.size w8)))
            replace Hr8 := Hr8l
            clear hb8 hl8 HS8 HS8t Hr8l
            clear hw3 hb3 hh3 Hmade hga c0 c1 c2
            refine wp_region_held_drew (S := fun w' : World => w'.cell? ⟨ga, 1, none⟩ = some (.int .i64 0) ∧ w'.cell? ⟨g, 0, none⟩ = some (.int .u8 (b8.toNat : Int))) (by kernel_rfl) S8.out (fun hHeld => ?_)
            refine' wpAnyH_take (i := 0) (oi := ⟨some 88, .move (.tmp 11), _, _, _, none⟩) (v := _) rfl (by kernel_rfl) (by kernel_rfl) (by kernel_rfl) (fun _ _ _ h => h) (Or.inl ⟨by rfl, ?hy100⟩) (by assumption) ?rest100
            case hy100 => (intro w hSw; obtain ⟨s1, s2⟩ := hSw; go_simp <;> with_reducible rfl)
            case rest100 =>
            go_frame
            refine' wpAnyH_take (i := 1) (oi := ⟨some 89, .binOp .neq 24 (.tmp 88) (.const (.int .i64 0)) 24, _, _, _, none⟩) (v := _) rfl (by kernel_rfl) (by kernel_rfl) (by kernel_rfl) (fun _ _ _ h => h) (Or.inl ⟨by rfl, ?hy101⟩) (by assumption) ?rest101
            case hy101 => (intro w hSw; obtain ⟨s1, s2⟩ := hSw; go_simp <;> with_reducible rfl)
            case rest101 =>
            go_frame
            refine' wpAnyH_take (i := 2) (oi := ⟨some 90, .move (.tmp 89), _, _, _, none⟩) (v := _) rfl (by kernel_rfl) (by kernel_rfl) (by kernel_rfl) (fun _ _ _ h => h) (Or.inl ⟨by rfl, ?hy102⟩) (by assumption) ?rest102
            case hy102 => (intro w hSw; obtain ⟨s1, s2⟩ := hSw; go_simp <;> with_reducible rfl)
            case rest102 =>
            go_frame
            refine' wpAnyH_take (i := 3) (oi := ⟨some 91, .move (.tmp 10), _, _, _, some (2, false)⟩) (v := _) rfl (by kernel_rfl) (by kernel_rfl) (by kernel_rfl) (fun _ _ _ h => h) (Or.inl ⟨by rfl, ?hy103⟩) (by assumption) ?rest103
            case hy103 => (intro w hSw; obtain ⟨s1, s2⟩ := hSw; go_simp <;> with_reducible rfl)
            case rest103 =>
            go_frame
            refine' wpAnyH_take (i := 5) (oi := ⟨some 93, .fieldAddr 37 (.tmp 9) 1, _, _, _, some (2, false)⟩) (v := _) rfl (by kernel_rfl) (by kernel_rfl) (by kernel_rfl) (fun _ _ _ h => h) (Or.inl ⟨by rfl, ?hy104⟩) (by assumption) ?rest104
            case hy104 => (intro w hSw; obtain ⟨s1, s2⟩ := hSw; go_simp <;> with_reducible rfl)
            case rest104 =>
            go_frame
            refine' wpAnyH_take (i := 6) (oi := ⟨some 94, .load 3 (.tmp 93), _, _, _, some (2, false)⟩) (v := _) rfl (by kernel_rfl) (by kernel_rfl) (by kernel_rfl) (fun _ _ _ h => h) (Or.inl ⟨by rfl, ?hy105⟩) (by assumption) ?rest105
            case hy105 => (intro w hSw; obtain ⟨s1, s2⟩ := hSw; go_simp <;> with_reducible rfl)
            case rest105 =>
            go_frame
            refine' wpAnyH_take (i := 7) (oi := ⟨some 95, .indexAddr 56 (.tmp 7) (.tmp 94), _, _, _, some (2, false)⟩) (v := _) rfl (by kernel_rfl) (by kernel_rfl) (by kernel_rfl) (fun _ _ _ h => h) (Or.inl ⟨by rfl, ?hy106⟩) (by assumption) ?rest106
            case hy106 => (intro w hSw; obtain ⟨s1, s2⟩ := hSw; go_simp <;> with_reducible rfl)
            case rest106 =>
            go_frame
            refine' wpAnyH_take (i := 8) (oi := ⟨some 96, .load 5 (.tmp 95), _, _, _, some (2, false)⟩) (v := _) rfl (by kernel_rfl) (by kernel_rfl) (by kernel_rfl) (fun _ _ _ h => h) (Or.inl ⟨by rfl, ?hy107⟩) (by assumption) ?rest107
            case hy107 => (intro w hSw; obtain ⟨s1, s2⟩ := hSw; go_simp <;> with_reducible rfl)
            case rest107 =>
            go_frame
            refine wpAnyH_ready (rs := [4, 9]) (by kernel_rfl) (by simp) (AllReadyH.cons (o := ⟨some 92, .convert 51 9 (.tmp 91), _, _, _, some (2, false)⟩) rfl (fun K hK => ?_) (AllReadyH.cons (o := ⟨some 97, .call { callee := .value (.func 23), args := #[.tmp 96], argTypes := #[5] }, _, _, _, some (2, false)⟩) rfl (fun K hK => ?_) AllReadyH.nil))
            · rw [if_pos (by rfl)]
              refine wp_run (.string ⟨l8.toArray⟩) w8.drew (exec_conv (s := 51) (t := 9) (x := .tmp 91) rfl (v := v8) rfl He0.out) ?_
              refine hK.out _ _ (S8.out) (fun _ => ?_)
              clear hK K
              try go_frame
              refine wpAnyH_ready (rs := [9]) (by kernel_rfl) (by simp) (AllReadyH.cons (o := ⟨some 97, .call { callee := .value (.func 23), args := #[.tmp 96], argTypes := #[5] }, _, _, _, some (2, false)⟩) rfl (fun K hK => ?_) AllReadyH.nil)
              rw [if_pos (by rfl)]
              go_simp
              refine (Hfull8.out _).mono ?_
              rintro e w9 ⟨g9, rfl, hg9, hh9, hb9⟩
              have hb9d : Below w8.heap.size w8 w9 := (up_drew (Below.refl w8.heap.size w8)).trans hb9
              have He1 := Lib.hid (string_of (P := Try.prog) 51 9 5 Try.underlying51 Try.underlying5 Try.underlying9 Hr8.out hb9d)
              have Hs9 := Lib.hid (string_of (P := Try.prog) 51 9 5 Try.underlying51 Try.underlying5 Try.underlying9 (rd_whole hh9 Hl8.out) (Below.refl _ _))
              have S9 := Lib.hid (HS8b.out w9 hb9d)
              have Hb9 := Lib.hid hb9d
              clear hg9 hh9 hb9 hb9d
              dsimp only
              refine hK.out _ _ (S9.out) (fun _ => ?_)
              clear hK K
              try go_frame
              refine wpAnyH_ready (rs := [10]) (by kernel_rfl) (by simp) (AllReadyH.cons (o := ⟨some 98, .convert 51 9 (.tmp 97), _, _, _, some (2, false)⟩) rfl (fun K hK => ?_) AllReadyH.nil)
              rw [if_pos (by rfl)]
              refine wp_run (.string ⟨l8.toArray⟩) w9 (exec_conv (s := 51) (t := 9) (x := .tmp 97) rfl (v := .slice (some ⟨g9, 0, none⟩) 256 256) rfl Hs9.out) ?_
              refine hK.out _ _ (S9.out) (fun _ => ?_)
              clear hK K
              try go_frame
              refine' wpAnyH_take (i := 11) (oi := ⟨some 99, .binOp .neq 9 (.tmp 92) (.tmp 98) 9, _, _, _, some (2, false)⟩) (v := _) rfl (by kernel_rfl) (by kernel_rfl) (by kernel_rfl) (fun _ _ _ h => h) (Or.inl ⟨by rfl, ?hy108⟩) (by assumption) ?rest108
              case hy108 => (intro w hSw; obtain ⟨s1, s2⟩ := hSw; go_simp <;> with_reducible rfl)
              case rest108 =>
              go_frame
              refine' wpAnyH_take (i := 12) (oi := ⟨some 100, .pick (.tmp 90) (.const (.bool true)) (.tmp 99), _, _, _, none⟩) (v := _) rfl (by kernel_rfl) (by kernel_rfl) (by kernel_rfl) (fun _ _ _ h => h) (Or.inl ⟨by rfl, ?hy109⟩) (by assumption) ?rest109
              case hy109 => (intro w hSw; obtain ⟨s1, s2⟩ := hSw; go_simp <;> with_reducible rfl)
              case rest109 =>
              go_frame
              refine' wpAnyH_take (i := 13) (oi := ⟨some 101, .move (.tmp 100), _, _, _, none⟩) (v := _) rfl (by kernel_rfl) (by kernel_rfl) (by kernel_rfl) (fun _ _ _ h => h) (Or.inl ⟨by rfl, ?hy110⟩) (by assumption) ?rest110
              case hy110 => (intro w hSw; obtain ⟨s1, s2⟩ := hSw; go_simp <;> with_reducible rfl)
              case rest110 =>
              go_frame
              refine' wpAnyH_take (i := 14) (oi := ⟨some 102, .move (.tmp 5), _, _, _, some (13, false)⟩) (v := _) rfl (by kernel_rfl) (by kernel_rfl) (by kernel_rfl) (fun _ _ _ h => h) (Or.inl ⟨by rfl, ?hy111⟩) (by assumption) ?rest111
              case hy111 => (intro w hSw; obtain ⟨s1, s2⟩ := hSw; go_simp <;> with_reducible rfl)
              case rest111 =>
              go_frame
              refine wpAnyH_ready (rs := [15]) (by kernel_rfl) (by simp) (AllReadyH.cons (o := ⟨some 103, .call { callee := .value (.func 15), args := #[.tmp 102], argTypes := #[27] }, _, _, _, some (13, false)⟩) rfl (fun K hK => ?_) AllReadyH.nil)
              rw [if_pos (by rfl)]
              go_simp
              refine (Hheld.out w9 Hb9.out).mono ?_
              rintro e w10 ⟨A10, n10, cc10, rfl, q1, q2, q3, hb10⟩
              have hb10d := up Hb9.out hb10
              have S10 := Lib.hid (HS8b.out w10 hb10d)
              have Hb10 := Lib.hid hb10d
              clear hb10 hb10d
              dsimp only
              refine hK.out _ _ (S10.out) (fun _ => ?_)
              clear hK K
              try go_frame
              refine' wpAnyH_take (i := 16) (oi := ⟨some 104, .call { callee := .builtin .len, args := #[.tmp 103], argTypes := #[39] }, _, _, _, some (13, false)⟩) (v := _) rfl (by kernel_rfl) (by kernel_rfl) (by kernel_rfl) (fun _ _ _ h => h) (Or.inl ⟨by rfl, ?hy112⟩) (by assumption) ?rest112
              case hy112 => (intro w hSw; obtain ⟨s1, s2⟩ := hSw; go_simp <;> with_reducible rfl)
              case rest112 =>
              go_frame
              refine' wpAnyH_take (i := 17) (oi := ⟨some 105, .binOp .gtr 3 (.tmp 104) (.const (.int .i64 8)) 3, _, _, _, some (13, false)⟩) (v := _) rfl (by kernel_rfl) (by kernel_rfl) (by kernel_rfl) (fun _ _ _ h => h) (Or.inl ⟨by rfl, ?hy113⟩) (by assumption) ?rest113
              case hy113 => (intro w hSw; obtain ⟨s1, s2⟩ := hSw; go_simp <;> with_reducible rfl)
              case rest113 =>
              go_frame
              refine' wpAnyH_take (i := 18) (oi := ⟨some 106, .pick (.tmp 101) (.const (.bool true)) (.tmp 105), _, _, _, none⟩) (v := _) rfl (by kernel_rfl) (by kernel_rfl) (by kernel_rfl) (fun _ _ _ h => h) (Or.inl ⟨by rfl, ?hy114⟩) (by assumption) ?rest114
              case hy114 => (intro w hSw; obtain ⟨s1, s2⟩ := hSw; go_simp <;> with_reducible rfl)
              case rest114 =>
              go_frame
              refine wpAnyH_done (by kernel_rfl) ?_ _
              go_wp2_with fail
              go_roundw
              case rel => exact ⟨k + 1, by omega, by omega, by go_num, Lib.hid (Hnext.out w10 Hb10.out)⟩
              case measure => simp [intOf]; omega
            · rw [if_pos (by rfl)]
              go_simp
              refine (Hfull8.out _).mono ?_
              rintro e w9 ⟨g9, rfl, hg9, hh9, hb9⟩
              have hb9d : Below w8.heap.size w8 w9 := (up_drew (Below.refl w8.heap.size w8)).trans hb9
              have He1 := Lib.hid (string_of (P := Try.prog) 51 9 5 Try.underlying51 Try.underlying5 Try.underlying9 Hr8.out hb9d)
              have Hs9 := Lib.hid (string_of (P := Try.prog) 51 9 5 Try.underlying51 Try.underlying5 Try.underlying9 (rd_whole hh9 Hl8.out) (Below.refl _ _))
              have S9 := Lib.hid (HS8b.out w9 hb9d)
              have Hb9 := Lib.hid hb9d
              clear hg9 hh9 hb9 hb9d
              dsimp only
              refine hK.out _ _ (S9.out) (fun _ => ?_)
              clear hK K
              try go_frame
              refine wpAnyH_ready (rs := [4, 10]) (by kernel_rfl) (by simp) (AllReadyH.cons (o := ⟨some 92, .convert 51 9 (.tmp 91), _, _, _, some (2, false)⟩) rfl (fun K hK => ?_) (AllReadyH.cons (o := ⟨some 98, .convert 51 9 (.tmp 97), _, _, _, some (2, false)⟩) rfl (fun K hK => ?_) AllReadyH.nil))
              · rw [if_pos (by rfl)]
                refine wp_run (.string ⟨l8.toArray⟩) w9 (exec_conv (s := 51) (t := 9) (x := .tmp 91) rfl (v := v8) rfl He1.out) ?_
                refine hK.out _ _ (S9.out) (fun _ => ?_)
                clear hK K
                try go_frame
                refine wpAnyH_ready (rs := [10]) (by kernel_rfl) (by simp) (AllReadyH.cons (o := ⟨some 98, .convert 51 9 (.tmp 97), _, _, _, some (2, false)⟩) rfl (fun K hK => ?_) AllReadyH.nil)
                rw [if_pos (by rfl)]
                refine wp_run (.string ⟨l8.toArray⟩) w9 (exec_conv (s := 51) (t := 9) (x := .tmp 97) rfl (v := .slice (some ⟨g9, 0, none⟩) 256 256) rfl Hs9.out) ?_
                refine hK.out _ _ (S9.out) (fun _ => ?_)
                clear hK K
                try go_frame
                refine' wpAnyH_take (i := 11) (oi := ⟨some 99, .binOp .neq 9 (.tmp 92) (.tmp 98) 9, _, _, _, some (2, false)⟩) (v := _) rfl (by kernel_rfl) (by kernel_rfl) (by kernel_rfl) (fun _ _ _ h => h) (Or.inl ⟨by rfl, ?hy115⟩) (by assumption) ?rest115
                case hy115 => (intro w hSw; obtain ⟨s1, s2⟩ := hSw; go_simp <;> with_reducible rfl)
                case rest115 =>
                go_frame
                refine' wpAnyH_take (i := 12) (oi := ⟨some 100, .pick (.tmp 90) (.const (.bool true)) (.tmp 99), _, _, _, none⟩) (v := _) rfl (by kernel_rfl) (by kernel_rfl) (by kernel_rfl) (fun _ _ _ h => h) (Or.inl ⟨by rfl, ?hy116⟩) (by assumption) ?rest116
                case hy116 => (intro w hSw; obtain ⟨s1, s2⟩ := hSw; go_simp <;> with_reducible rfl)
                case rest116 =>
                go_frame
                refine' wpAnyH_take (i := 13) (oi := ⟨some 101, .move (.tmp 100), _, _, _, none⟩) (v := _) rfl (by kernel_rfl) (by kernel_rfl) (by kernel_rfl) (fun _ _ _ h => h) (Or.inl ⟨by rfl, ?hy117⟩) (by assumption) ?rest117
                case hy117 => (intro w hSw; obtain ⟨s1, s2⟩ := hSw; go_simp <;> with_reducible rfl)
                case rest117 =>
                go_frame
                refine' wpAnyH_take (i := 14) (oi := ⟨some 102, .move (.tmp 5), _, _, _, some (13, false)⟩) (v := _) rfl (by kernel_rfl) (by kernel_rfl) (by kernel_rfl) (fun _ _ _ h => h) (Or.inl ⟨by rfl, ?hy118⟩) (by assumption) ?rest118
                case hy118 => (intro w hSw; obtain ⟨s1, s2⟩ := hSw; go_simp <;> with_reducible rfl)
                case rest118 =>
                go_frame
                refine wpAnyH_ready (rs := [15]) (by kernel_rfl) (by simp) (AllReadyH.cons (o := ⟨some 103, .call { callee := .value (.func 15), args := #[.tmp 102], argTypes := #[27] }, _, _, _, some (13, false)⟩) rfl (fun K hK => ?_) AllReadyH.nil)
                rw [if_pos (by rfl)]
                go_simp
                refine (Hheld.out w9 Hb9.out).mono ?_
                rintro e w10 ⟨A10, n10, cc10, rfl, q1, q2, q3, hb10⟩
                have hb10d := up Hb9.out hb10
                have S10 := Lib.hid (HS8b.out w10 hb10d)
                have Hb10 := Lib.hid hb10d
                clear hb10 hb10d
                dsimp only
                refine hK.out _ _ (S10.out) (fun _ => ?_)
                clear hK K
                try go_frame
                refine' wpAnyH_take (i := 16) (oi := ⟨some 104, .call { callee := .builtin .len, args := #[.tmp 103], argTypes := #[39] }, _, _, _, some (13, false)⟩) (v := _) rfl (by kernel_rfl) (by kernel_rfl) (by kernel_rfl) (fun _ _ _ h => h) (Or.inl ⟨by rfl, ?hy119⟩) (by assumption) ?rest119
                case hy119 => (intro w hSw; obtain ⟨s1, s2⟩ := hSw; go_simp <;> with_reducible rfl)
                case rest119 =>
                go_frame
                refine' wpAnyH_take (i := 17) (oi := ⟨some 105, .binOp .gtr 3 (.tmp 104) (.const (.int .i64 8)) 3, _, _, _, some (13, false)⟩) (v := _) rfl (by kernel_rfl) (by kernel_rfl) (by kernel_rfl) (fun _ _ _ h => h) (Or.inl ⟨by rfl, ?hy120⟩) (by assumption) ?rest120
                case hy120 => (intro w hSw; obtain ⟨s1, s2⟩ := hSw; go_simp <;> with_reducible rfl)
                case rest120 =>
                go_frame
                refine' wpAnyH_take (i := 18) (oi := ⟨some 106, .pick (.tmp 101) (.const (.bool true)) (.tmp 105), _, _, _, none⟩) (v := _) rfl (by kernel_rfl) (by kernel_rfl) (by kernel_rfl) (fun _ _ _ h => h) (Or.inl ⟨by rfl, ?hy121⟩) (by assumption) ?rest121
                case hy121 => (intro w hSw; obtain ⟨s1, s2⟩ := hSw; go_simp <;> with_reducible rfl)
                case rest121 =>
                go_frame
                refine wpAnyH_done (by kernel_rfl) ?_ _
                go_wp2_with fail
                go_roundw
                case rel => exact ⟨k + 1, by omega, by omega, by go_num, Lib.hid (Hnext.out w10 Hb10.out)⟩
                case measure => simp [intOf]; omega
              · rw [if_pos (by rfl)]
                refine wp_run (.string ⟨l8.toArray⟩) w9 (exec_conv (s := 51) (t := 9) (x := .tmp 97) rfl (v := .slice (some ⟨g9, 0, none⟩) 256 256) rfl Hs9.out) ?_
                refine hK.out _ _ (S9.out) (fun _ => ?_)
                clear hK K
                try go_frame
                refine wpAnyH_ready (rs := [4]) (by kernel_rfl) (by simp) (AllReadyH.cons (o := ⟨some 92, .convert 51 9 (.tmp 91), _, _, _, some (2, false)⟩) rfl (fun K hK => ?_) AllReadyH.nil)
                rw [if_pos (by rfl)]
                refine wp_run (.string ⟨l8.toArray⟩) w9 (exec_conv (s := 51) (t := 9) (x := .tmp 91) rfl (v := v8) rfl He1.out) ?_
                refine hK.out _ _ (S9.out) (fun _ => ?_)
                clear hK K
                try go_frame
                refine' wpAnyH_take (i := 11) (oi := ⟨some 99, .binOp .neq 9 (.tmp 92) (.tmp 98) 9, _, _, _, some (2, false)⟩) (v := _) rfl (by kernel_rfl) (by kernel_rfl) (by kernel_rfl) (fun _ _ _ h => h) (Or.inl ⟨by rfl, ?hy122⟩) (by assumption) ?rest122
                case hy122 => (intro w hSw; obtain ⟨s1, s2⟩ := hSw; go_simp <;> with_reducible rfl)
                case rest122 =>
                go_frame
                refine' wpAnyH_take (i := 12) (oi := ⟨some 100, .pick (.tmp 90) (.const (.bool true)) (.tmp 99), _, _, _, none⟩) (v := _) rfl (by kernel_rfl) (by kernel_rfl) (by kernel_rfl) (fun _ _ _ h => h) (Or.inl ⟨by rfl, ?hy123⟩) (by assumption) ?rest123
                case hy123 => (intro w hSw; obtain ⟨s1, s2⟩ := hSw; go_simp <;> with_reducible rfl)
                case rest123 =>
                go_frame
                refine' wpAnyH_take (i := 13) (oi := ⟨some 101, .move (.tmp 100), _, _, _, none⟩) (v := _) rfl (by kernel_rfl) (by kernel_rfl) (by kernel_rfl) (fun _ _ _ h => h) (Or.inl ⟨by rfl, ?hy124⟩) (by assumption) ?rest124
                case hy124 => (intro w hSw; obtain ⟨s1, s2⟩ := hSw; go_simp <;> with_reducible rfl)
                case rest124 =>
                go_frame
                refine' wpAnyH_take (i := 14) (oi := ⟨some 102, .move (.tmp 5), _, _, _, some (13, false)⟩) (v := _) rfl (by kernel_rfl) (by kernel_rfl) (by kernel_rfl) (fun _ _ _ h => h) (Or.inl ⟨by rfl, ?hy125⟩) (by assumption) ?rest125
                case hy125 => (intro w hSw; obtain ⟨s1, s2⟩ := hSw; go_simp <;> with_reducible rfl)
                case rest125 =>
                go_frame
                refine wpAnyH_ready (rs := [15]) (by kernel_rfl) (by simp) (AllReadyH.cons (o := ⟨some 103, .call { callee := .value (.func 15), args := #[.tmp 102], argTypes := #[27] }, _, _, _, some (13, false)⟩) rfl (fun K hK => ?_) AllReadyH.nil)
                rw [if_pos (by rfl)]
                go_simp
                refine (Hheld.out w9 Hb9.out).mono ?_
                rintro e w10 ⟨A10, n10, cc10, rfl, q1, q2, q3, hb10⟩
                have hb10d := up Hb9.out hb10
                have S10 := Lib.hid (HS8b.out w10 hb10d)
                have Hb10 := Lib.hid hb10d
                clear hb10 hb10d
                dsimp only
                refine hK.out _ _ (S10.out) (fun _ => ?_)
                clear hK K
                try go_frame
                refine' wpAnyH_take (i := 16) (oi := ⟨some 104, .call { callee := .builtin .len, args := #[.tmp 103], argTypes := #[39] }, _, _, _, some (13, false)⟩) (v := _) rfl (by kernel_rfl) (by kernel_rfl) (by kernel_rfl) (fun _ _ _ h => h) (Or.inl ⟨by rfl, ?hy126⟩) (by assumption) ?rest126
                case hy126 => (intro w hSw; obtain ⟨s1, s2⟩ := hSw; go_simp <;> with_reducible rfl)
                case rest126 =>
                go_frame
                refine' wpAnyH_take (i := 17) (oi := ⟨some 105, .binOp .gtr 3 (.tmp 104) (.const (.int .i64 8)) 3, _, _, _, some (13, false)⟩) (v := _) rfl (by kernel_rfl) (by kernel_rfl) (by kernel_rfl) (fun _ _ _ h => h) (Or.inl ⟨by rfl, ?hy127⟩) (by assumption) ?rest127
                case hy127 => (intro w hSw; obtain ⟨s1, s2⟩ := hSw; go_simp <;> with_reducible rfl)
                case rest127 =>
                go_frame
                refine' wpAnyH_take (i := 18) (oi := ⟨some 106, .pick (.tmp 101) (.const (.bool true)) (.tmp 105), _, _, _, none⟩) (v := _) rfl (by kernel_rfl) (by kernel_rfl) (by kernel_rfl) (fun _ _ _ h => h) (Or.inl ⟨by rfl, ?hy128⟩) (by assumption) ?rest128
                case hy128 => (intro w hSw; obtain ⟨s1, s2⟩ := hSw; go_simp <;> with_reducible rfl)
                case rest128 =>
                go_frame
                refine wpAnyH_done (by kernel_rfl) ?_ _
                go_wp2_with fail
                go_roundw
                case rel => exact ⟨k + 1, by omega, by omega, by go_num, Lib.hid (Hnext.out w10 Hb10.out)⟩
                case measure => simp [intOf]; omega
        · have g1 : (e3 == 1) = false := by simp [h31]
          have g2 : (e3 == 2) = false := by simp [h32]
          rcases hr with ⟨m, rfl, hm⟩ | hr | ⟨hr0, hr⟩
          · have Hm := Lib.hid hm
            have r1 : ¬ 24 ≤ (m : Int) := by omega
            have r2 : (m : Int) < 24 := by omega
            have r3 : (0 : Int) ≤ (m : Int) := by omega
            have hb3 : Below wr.heap.size wr (wr.alloc (.cells #[.int .i64 kind, .int .i64 (m : Int), .int .u8 (by_.toNat : Int)] 37)) := (Below.refl _ _).alloc (Nat.le_refl _) _
            have hh3 : (wr.alloc (.cells #[.int .i64 kind, .int .i64 (m : Int), .int .u8 (by_.toNat : Int)] 37)).heap[ga]? = some (.cells #[.int .i64 kind, .int .i64 (m : Int), .int .u8 (by_.toNat : Int)] 37 (0, 0)) := by rw [hga]; exact heap_alloc_last _ _
            obtain ⟨w3, hw3⟩ : ∃ w3, w3 = (wr.alloc (.cells #[.int .i64 kind, .int .i64 (m : Int), .int .u8 (by_.toNat : Int)] 37)) := ⟨_, rfl⟩
            rw [← hw3] at hb3 hh3
            have HT3 := Lib.hid (Hmade.out _ w3 hb3 hh3)
            have Hh3 := Lib.hid hh3
            have Hga := Lib.hid (show ga < w3.heap.size from (Array.getElem?_eq_some_iff.1 hh3).1)
            have HC : Hid (∀ (w' : World), w'.heap[ga]? = w3.heap[ga]? → w'.cell? ⟨ga, 0, none⟩ = some (.int .i64 kind) ∧ w'.cell? ⟨ga, 1, none⟩ = some (.int .i64 (m : Int)) ∧ w'.cell? ⟨ga, 2, none⟩ = some (.int .u8 (by_.toNat : Int))) := Lib.hid fun w' e => by
              obtain ⟨a, b, c, _⟩ := act_cells (e.trans hh3)
              exact ⟨a, b, c⟩
            have HS3x : Hid (∃ x d, Thr w w3 (fun k => k = ga) g c bf p hs (ofBytes hs) (20 * k) x d) := Lib.hid ⟨_, _, HT3.out⟩
            go_wp2_with (go_at_call 25; rw [← hw3]; obtain ⟨xg, dg, hTg⟩ := HS3x.out; refine (hTg.get (by omega) Hm.out).mono ?_; rintro e w8 ⟨v8, rfl, hr8, hs8, ho8, hl8⟩; have E8 := Lib.hid ((ho8 ga rfl).trans rfl); have Hr8 := Lib.hid hr8; have HS8 := Lib.hid hs8; clear hr8 hs8 ho8 hl8 hTg xg dg)
            rw [← hga]
            have HS8t : Hid (∃ x d, Thr w w8 (fun k => k = ga) g c bf p (hs) (ofBytes (hs)) (20 * k + 1) x d) := HS8
            obtain ⟨b8, hb8⟩ : ∃ b8, b8 = (hs).getD m 0 := ⟨_, rfl⟩
            obtain ⟨l8, hl8⟩ : ∃ l8, l8 = List.replicate 256 b8 := ⟨_, rfl⟩
            have Hr8l : Hid (Rd w8 w8.heap.size v8 (cellsB l8)) := Lib.hid (by rw [hl8, hb8]; exact Hr8.out)
            have Hl8 := Lib.hid (show l8.length = 256 by rw [hl8]; exact List.length_replicate)
            have Hfull8 : Hid (∀ w, Calls Try.prog 23 #[.int .u8 (b8.toNat : Int)] w fun e w' => ∃ g, e = .returned (.slice (some ⟨g, 0, none⟩) 256 256) ∧ w.heap.size ≤ g ∧ w'.heap[g]? = some (.cells (cellsB l8).toArray 5 (0, 0)) ∧ Below w.heap.size w w') := Lib.hid (by rw [hl8]; exact cfull_any b8)
            have HS8b : Hid (∀ (w' : World), Below w8.heap.size w8 w' → w'.cell? ⟨ga, 1, none⟩ = some (.int .i64 (m : Int)) ∧ w'.cell? ⟨g, m, none⟩ = some (.int .u8 (b8.toNat : Int))) := Lib.hid fun w' hb => by
              obtain ⟨xg, dg, hTg⟩ := HS8t.out
              have h1 : ga < w8.heap.size := (Array.getElem?_eq_some_iff.1 (E8.out.trans Hh3.out)).1
              refine ⟨(HC.out w' ((hb.block ga h1).trans E8.out)).2.1, ?_⟩
              rw [hb8]
              exact (hb.cell (p := ⟨g, m, none⟩) (Array.getElem?_eq_some_iff.1 hTg.arr).1).trans (hTg.cell Hm.out)
            have S8 := Lib.hid (HS8b.out w8 (Below.refl _ _))
            have Hheld : Hid (∀ (w' : World), Below w8.heap.size w8 w' → Calls Try.prog 15 #[at0 c] w' fun e w2 => ∃ A n' cc, e = .returned (.slice A n' cc) ∧ n' ≤ 8 ∧ n' ≤ cc ∧ cc ≤ 9223372036854775807 ∧ Below w'.heap.size w' w2) := Lib.hid fun w' hb => by
              obtain ⟨xg, dg, hTg⟩ := HS8t.out
              exact (hTg.more hb fun _ => .inl).held
            have Hnext : Hid (∀ (w' : World), Below w8.heap.size w8 w' → ∃ hs x d, Thr w w' (fun _ => False) g c bf p hs (ofBytes hs) (20 * (k + 1)) x d) := Lib.hid fun w' hb => by
              obtain ⟨xg, dg, hTg⟩ := HS8t.out
              exact ⟨_, xg, dg, (hTg.more hb fun _ e => e.elim).le (by omega)⟩
            have He0 := Lib.hid (string_of (P := Try.prog) 51 9 5 Try.underlying51 Try.underlying5 Try.underlying9 Hr8l.out (up_drew (Below.refl w8.heap.size w8)))
            replace Hr8 := Hr8l
            clear hb8 hl8 HS8 HS8t Hr8l
            clear hw3 hb3 hh3 Hmade hga c0 c1 c2
            refine wp_region_held_drew (S := fun w' : World => w'.cell? ⟨ga, 1, none⟩ = some (.int .i64 (m : Int)) ∧ w'.cell? ⟨g, m, none⟩ = some (.int .u8 (b8.toNat : Int))) (by kernel_rfl) S8.out (fun hHeld => ?_)
            refine' wpAnyH_take (i := 0) (oi := ⟨some 88, .move (.tmp 11), _, _, _, none⟩) (v := _) rfl (by kernel_rfl) (by kernel_rfl) (by kernel_rfl) (fun _ _ _ h => h) (Or.inl ⟨by rfl, ?hy129⟩) (by assumption) ?rest129
            case hy129 => (intro w hSw; obtain ⟨s1, s2⟩ := hSw; go_simp <;> with_reducible rfl)
            case rest129 =>
            go_frame
            refine' wpAnyH_take (i := 1) (oi := ⟨some 89, .binOp .neq 24 (.tmp 88) (.const (.int .i64 0)) 24, _, _, _, none⟩) (v := _) rfl (by kernel_rfl) (by kernel_rfl) (by kernel_rfl) (fun _ _ _ h => h) (Or.inl ⟨by rfl, ?hy130⟩) (by assumption) ?rest130
            case hy130 => (intro w hSw; obtain ⟨s1, s2⟩ := hSw; go_simp <;> with_reducible rfl)
            case rest130 =>
            go_frame
            refine' wpAnyH_take (i := 2) (oi := ⟨some 90, .move (.tmp 89), _, _, _, none⟩) (v := _) rfl (by kernel_rfl) (by kernel_rfl) (by kernel_rfl) (fun _ _ _ h => h) (Or.inl ⟨by rfl, ?hy131⟩) (by assumption) ?rest131
            case hy131 => (intro w hSw; obtain ⟨s1, s2⟩ := hSw; go_simp <;> with_reducible rfl)
            case rest131 =>
            go_frame
            refine' wpAnyH_take (i := 3) (oi := ⟨some 91, .move (.tmp 10), _, _, _, some (2, false)⟩) (v := _) rfl (by kernel_rfl) (by kernel_rfl) (by kernel_rfl) (fun _ _ _ h => h) (Or.inl ⟨by rfl, ?hy132⟩) (by assumption) ?rest132
            case hy132 => (intro w hSw; obtain ⟨s1, s2⟩ := hSw; go_simp <;> with_reducible rfl)
            case rest132 =>
            go_frame
            refine' wpAnyH_take (i := 5) (oi := ⟨some 93, .fieldAddr 37 (.tmp 9) 1, _, _, _, some (2, false)⟩) (v := _) rfl (by kernel_rfl) (by kernel_rfl) (by kernel_rfl) (fun _ _ _ h => h) (Or.inl ⟨by rfl, ?hy133⟩) (by assumption) ?rest133
            case hy133 => (intro w hSw; obtain ⟨s1, s2⟩ := hSw; go_simp <;> with_reducible rfl)
            case rest133 =>
            go_frame
            refine' wpAnyH_take (i := 6) (oi := ⟨some 94, .load 3 (.tmp 93), _, _, _, some (2, false)⟩) (v := _) rfl (by kernel_rfl) (by kernel_rfl) (by kernel_rfl) (fun _ _ _ h => h) (Or.inl ⟨by rfl, ?hy134⟩) (by assumption) ?rest134
            case hy134 => (intro w hSw; obtain ⟨s1, s2⟩ := hSw; go_simp <;> with_reducible rfl)
            case rest134 =>
            go_frame
            refine' wpAnyH_take (i := 7) (oi := ⟨some 95, .indexAddr 56 (.tmp 7) (.tmp 94), _, _, _, some (2, false)⟩) (v := _) rfl (by kernel_rfl) (by kernel_rfl) (by kernel_rfl) (fun _ _ _ h => h) (Or.inl ⟨by rfl, ?hy135⟩) (by assumption) ?rest135
            case hy135 => (intro w hSw; obtain ⟨s1, s2⟩ := hSw; go_simp <;> with_reducible rfl)
            case rest135 =>
            go_frame
            refine' wpAnyH_take (i := 8) (oi := ⟨some 96, .load 5 (.tmp 95), _, _, _, some (2, false)⟩) (v := _) rfl (by kernel_rfl) (by kernel_rfl) (by kernel_rfl) (fun _ _ _ h => h) (Or.inl ⟨by rfl, ?hy136⟩) (by assumption) ?rest136
            case hy136 => (intro w hSw; obtain ⟨s1, s2⟩ := hSw; go_simp <;> with_reducible rfl)
            case rest136 =>
            go_frame
            refine wpAnyH_ready (rs := [4, 9]) (by kernel_rfl) (by simp) (AllReadyH.cons (o := ⟨some 92, .convert 51 9 (.tmp 91), _, _, _, some (2, false)⟩) rfl (fun K hK => ?_) (AllReadyH.cons (o := ⟨some 97, .call { callee := .value (.func 23), args := #[.tmp 96], argTypes := #[5] }, _, _, _, some (2, false)⟩) rfl (fun K hK => ?_) AllReadyH.nil))
            · rw [if_pos (by rfl)]
              refine wp_run (.string ⟨l8.toArray⟩) w8.drew (exec_conv (s := 51) (t := 9) (x := .tmp 91) rfl (v := v8) rfl He0.out) ?_
              refine hK.out _ _ (S8.out) (fun _ => ?_)
              clear hK K
              try go_frame
              refine wpAnyH_ready (rs := [9]) (by kernel_rfl) (by simp) (AllReadyH.cons (o := ⟨some 97, .call { callee := .value (.func 23), args := #[.tmp 96], argTypes := #[5] }, _, _, _, some (2, false)⟩) rfl (fun K hK => ?_) AllReadyH.nil)
              rw [if_pos (by rfl)]
              go_simp
              refine (Hfull8.out _).mono ?_
              rintro e w9 ⟨g9, rfl, hg9, hh9, hb9⟩
              have hb9d : Below w8.heap.size w8 w9 := (up_drew (Below.refl w8.heap.size w8)).trans hb9
              have He1 := Lib.hid (string_of (P := Try.prog) 51 9 5 Try.underlying51 Try.underlying5 Try.underlying9 Hr8.out hb9d)
              have Hs9 := Lib.hid (string_of (P := Try.prog) 51 9 5 Try.underlying51 Try.underlying5 Try.underlying9 (rd_whole hh9 Hl8.out) (Below.refl _ _))
              have S9 := Lib.hid (HS8b.out w9 hb9d)
              have Hb9 := Lib.hid hb9d
              clear hg9 hh9 hb9 hb9d
              dsimp only
              refine hK.out _ _ (S9.out) (fun _ => ?_)
              clear hK K
              try go_frame
              refine wpAnyH_ready (rs := [10]) (by kernel_rfl) (by simp) (AllReadyH.cons (o := ⟨some 98, .convert 51 9 (.tmp 97), _, _, _, some (2, false)⟩) rfl (fun K hK => ?_) AllReadyH.nil)
              rw [if_pos (by rfl)]
              refine wp_run (.string ⟨l8.toArray⟩) w9 (exec_conv (s := 51) (t := 9) (x := .tmp 97) rfl (v := .slice (some ⟨g9, 0, none⟩) 256 256) rfl Hs9.out) ?_
              refine hK.out _ _ (S9.out) (fun _ => ?_)
              clear hK K
              try go_frame
              refine' wpAnyH_take (i := 11) (oi := ⟨some 99, .binOp .neq 9 (.tmp 92) (.tmp 98) 9, _, _, _, some (2, false)⟩) (v := _) rfl (by kernel_rfl) (by kernel_rfl) (by kernel_rfl) (fun _ _ _ h => h) (Or.inl ⟨by rfl, ?hy137⟩) (by assumption) ?rest137
              case hy137 => (intro w hSw; obtain ⟨s1, s2⟩ := hSw; go_simp <;> with_reducible rfl)
              case rest137 =>
              go_frame
              refine' wpAnyH_take (i := 12) (oi := ⟨some 100, .pick (.tmp 90) (.const (.bool true)) (.tmp 99), _, _, _, none⟩) (v := _) rfl (by kernel_rfl) (by kernel_rfl) (by kernel_rfl) (fun _ _ _ h => h) (Or.inl ⟨by rfl, ?hy138⟩) (by assumption) ?rest138
              case hy138 => (intro w hSw; obtain ⟨s1, s2⟩ := hSw; go_simp <;> with_reducible rfl)
              case rest138 =>
              go_frame
              refine' wpAnyH_take (i := 13) (oi := ⟨some 101, .move (.tmp 100), _, _, _, none⟩) (v := _) rfl (by kernel_rfl) (by kernel_rfl) (by kernel_rfl) (fun _ _ _ h => h) (Or.inl ⟨by rfl, ?hy139⟩) (by assumption) ?rest139
              case hy139 => (intro w hSw; obtain ⟨s1, s2⟩ := hSw; go_simp <;> with_reducible rfl)
              case rest139 =>
              go_frame
              refine' wpAnyH_take (i := 14) (oi := ⟨some 102, .move (.tmp 5), _, _, _, some (13, false)⟩) (v := _) rfl (by kernel_rfl) (by kernel_rfl) (by kernel_rfl) (fun _ _ _ h => h) (Or.inl ⟨by rfl, ?hy140⟩) (by assumption) ?rest140
              case hy140 => (intro w hSw; obtain ⟨s1, s2⟩ := hSw; go_simp <;> with_reducible rfl)
              case rest140 =>
              go_frame
              refine wpAnyH_ready (rs := [15]) (by kernel_rfl) (by simp) (AllReadyH.cons (o := ⟨some 103, .call { callee := .value (.func 15), args := #[.tmp 102], argTypes := #[27] }, _, _, _, some (13, false)⟩) rfl (fun K hK => ?_) AllReadyH.nil)
              rw [if_pos (by rfl)]
              go_simp
              refine (Hheld.out w9 Hb9.out).mono ?_
              rintro e w10 ⟨A10, n10, cc10, rfl, q1, q2, q3, hb10⟩
              have hb10d := up Hb9.out hb10
              have S10 := Lib.hid (HS8b.out w10 hb10d)
              have Hb10 := Lib.hid hb10d
              clear hb10 hb10d
              dsimp only
              refine hK.out _ _ (S10.out) (fun _ => ?_)
              clear hK K
              try go_frame
              refine' wpAnyH_take (i := 16) (oi := ⟨some 104, .call { callee := .builtin .len, args := #[.tmp 103], argTypes := #[39] }, _, _, _, some (13, false)⟩) (v := _) rfl (by kernel_rfl) (by kernel_rfl) (by kernel_rfl) (fun _ _ _ h => h) (Or.inl ⟨by rfl, ?hy141⟩) (by assumption) ?rest141
              case hy141 => (intro w hSw; obtain ⟨s1, s2⟩ := hSw; go_simp <;> with_reducible rfl)
              case rest141 =>
              go_frame
              refine' wpAnyH_take (i := 17) (oi := ⟨some 105, .binOp .gtr 3 (.tmp 104) (.const (.int .i64 8)) 3, _, _, _, some (13, false)⟩) (v := _) rfl (by kernel_rfl) (by kernel_rfl) (by kernel_rfl) (fun _ _ _ h => h) (Or.inl ⟨by rfl, ?hy142⟩) (by assumption) ?rest142
              case hy142 => (intro w hSw; obtain ⟨s1, s2⟩ := hSw; go_simp <;> with_reducible rfl)
              case rest142 =>
              go_frame
              refine' wpAnyH_take (i := 18) (oi := ⟨some 106, .pick (.tmp 101) (.const (.bool true)) (.tmp 105), _, _, _, none⟩) (v := _) rfl (by kernel_rfl) (by kernel_rfl) (by kernel_rfl) (fun _ _ _ h => h) (Or.inl ⟨by rfl, ?hy143⟩) (by assumption) ?rest143
              case hy143 => (intro w hSw; obtain ⟨s1, s2⟩ := hSw; go_simp <;> with_reducible rfl)
              case rest143 =>
              go_frame
              refine wpAnyH_done (by kernel_rfl) ?_ _
              go_wp2_with fail
              go_roundw
              case rel => exact ⟨k + 1, by omega, by omega, by go_num, Lib.hid (Hnext.out w10 Hb10.out)⟩
              case measure => simp [intOf]; omega
            · rw [if_pos (by rfl)]
              go_simp
              refine (Hfull8.out _).mono ?_
              rintro e w9 ⟨g9, rfl, hg9, hh9, hb9⟩
              have hb9d : Below w8.heap.size w8 w9 := (up_drew (Below.refl w8.heap.size w8)).trans hb9
              have He1 := Lib.hid (string_of (P := Try.prog) 51 9 5 Try.underlying51 Try.underlying5 Try.underlying9 Hr8.out hb9d)
              have Hs9 := Lib.hid (string_of (P := Try.prog) 51 9 5 Try.underlying51 Try.underlying5 Try.underlying9 (rd_whole hh9 Hl8.out) (Below.refl _ _))
              have S9 := Lib.hid (HS8b.out w9 hb9d)
              have Hb9 := Lib.hid hb9d
              clear hg9 hh9 hb9 hb9d
              dsimp only
              refine hK.out _ _ (S9.out) (fun _ => ?_)
              clear hK K
              try go_frame
              refine wpAnyH_ready (rs := [4, 10]) (by kernel_rfl) (by simp) (AllReadyH.cons (o := ⟨some 92, .convert 51 9 (.tmp 91), _, _, _, some (2, false)⟩) rfl (fun K hK => ?_) (AllReadyH.cons (o := ⟨some 98, .convert 51 9 (.tmp 97), _, _, _, some (2, false)⟩) rfl (fun K hK => ?_) AllReadyH.nil))
              · rw [if_pos (by rfl)]
                refine wp_run (.string ⟨l8.toArray⟩) w9 (exec_conv (s := 51) (t := 9) (x := .tmp 91) rfl (v := v8) rfl He1.out) ?_
                refine hK.out _ _ (S9.out) (fun _ => ?_)
                clear hK K
                try go_frame
                refine wpAnyH_ready (rs := [10]) (by kernel_rfl) (by simp) (AllReadyH.cons (o := ⟨some 98, .convert 51 9 (.tmp 97), _, _, _, some (2, false)⟩) rfl (fun K hK => ?_) AllReadyH.nil)
                rw [if_pos (by rfl)]
                refine wp_run (.string ⟨l8.toArray⟩) w9 (exec_conv (s := 51) (t := 9) (x := .tmp 97) rfl (v := .slice (some ⟨g9, 0, none⟩) 256 256) rfl Hs9.out) ?_
                refine hK.out _ _ (S9.out) (fun _ => ?_)
                clear hK K
                try go_frame
                refine' wpAnyH_take (i := 11) (oi := ⟨some 99, .binOp .neq 9 (.tmp 92) (.tmp 98) 9, _, _, _, some (2, false)⟩) (v := _) rfl (by kernel_rfl) (by kernel_rfl) (by kernel_rfl) (fun _ _ _ h => h) (Or.inl ⟨by rfl, ?hy144⟩) (by assumption) ?rest144
                case hy144 => (intro w hSw; obtain ⟨s1, s2⟩ := hSw; go_simp <;> with_reducible rfl)
                case rest144 =>
                go_frame
                refine' wpAnyH_take (i := 12) (oi := ⟨some 100, .pick (.tmp 90) (.const (.bool true)) (.tmp 99), _, _, _, none⟩) (v := _) rfl (by kernel_rfl) (by kernel_rfl) (by kernel_rfl) (fun _ _ _ h => h) (Or.inl ⟨by rfl, ?hy145⟩) (by assumption) ?rest145
                case hy145 => (intro w hSw; obtain ⟨s1, s2⟩ := hSw; go_simp <;> with_reducible rfl)
                case rest145 =>
                go_frame
                refine' wpAnyH_take (i := 13) (oi := ⟨some 101, .move (.tmp 100), _, _, _, none⟩) (v := _) rfl (by kernel_rfl) (by kernel_rfl) (by kernel_rfl) (fun _ _ _ h => h) (Or.inl ⟨by rfl, ?hy146⟩) (by assumption) ?rest146
                case hy146 => (intro w hSw; obtain ⟨s1, s2⟩ := hSw; go_simp <;> with_reducible rfl)
                case rest146 =>
                go_frame
                refine' wpAnyH_take (i := 14) (oi := ⟨some 102, .move (.tmp 5), _, _, _, some (13, false)⟩) (v := _) rfl (by kernel_rfl) (by kernel_rfl) (by kernel_rfl) (fun _ _ _ h => h) (Or.inl ⟨by rfl, ?hy147⟩) (by assumption) ?rest147
                case hy147 => (intro w hSw; obtain ⟨s1, s2⟩ := hSw; go_simp <;> with_reducible rfl)
                case rest147 =>
                go_frame
                refine wpAnyH_ready (rs := [15]) (by kernel_rfl) (by simp) (AllReadyH.cons (o := ⟨some 103, .call { callee := .value (.func 15), args := #[.tmp 102], argTypes := #[27] }, _, _, _, some (13, false)⟩) rfl (fun K hK => ?_) AllReadyH.nil)
                rw [if_pos (by rfl)]
                go_simp
                refine (Hheld.out w9 Hb9.out).mono ?_
                rintro e w10 ⟨A10, n10, cc10, rfl, q1, q2, q3, hb10⟩
                have hb10d := up Hb9.out hb10
                have S10 := Lib.hid (HS8b.out w10 hb10d)
                have Hb10 := Lib.hid hb10d
                clear hb10 hb10d
                dsimp only
                refine hK.out _ _ (S10.out) (fun _ => ?_)
                clear hK K
                try go_frame
                refine' wpAnyH_take (i := 16) (oi := ⟨some 104, .call { callee := .builtin .len, args := #[.tmp 103], argTypes := #[39] }, _, _, _, some (13, false)⟩) (v := _) rfl (by kernel_rfl) (by kernel_rfl) (by kernel_rfl) (fun _ _ _ h => h) (Or.inl ⟨by rfl, ?hy148⟩) (by assumption) ?rest148
                case hy148 => (intro w hSw; obtain ⟨s1, s2⟩ := hSw; go_simp <;> with_reducible rfl)
                case rest148 =>
                go_frame
                refine' wpAnyH_take (i := 17) (oi := ⟨some 105, .binOp .gtr 3 (.tmp 104) (.const (.int .i64 8)) 3, _, _, _, some (13, false)⟩) (v := _) rfl (by kernel_rfl) (by kernel_rfl) (by kernel_rfl) (fun _ _ _ h => h) (Or.inl ⟨by rfl, ?hy149⟩) (by assumption) ?rest149
                case hy149 => (intro w hSw; obtain ⟨s1, s2⟩ := hSw; go_simp <;> with_reducible rfl)
                case rest149 =>
                go_frame
                refine' wpAnyH_take (i := 18) (oi := ⟨some 106, .pick (.tmp 101) (.const (.bool true)) (.tmp 105), _, _, _, none⟩) (v := _) rfl (by kernel_rfl) (by kernel_rfl) (by kernel_rfl) (fun _ _ _ h => h) (Or.inl ⟨by rfl, ?hy150⟩) (by assumption) ?rest150
                case hy150 => (intro w hSw; obtain ⟨s1, s2⟩ := hSw; go_simp <;> with_reducible rfl)
                case rest150 =>
                go_frame
                refine wpAnyH_done (by kernel_rfl) ?_ _
                go_wp2_with fail
                go_roundw
                case rel => exact ⟨k + 1, by omega, by omega, by go_num, Lib.hid (Hnext.out w10 Hb10.out)⟩
                case measure => simp [intOf]; omega
              · rw [if_pos (by rfl)]
                refine wp_run (.string ⟨l8.toArray⟩) w9 (exec_conv (s := 51) (t := 9) (x := .tmp 97) rfl (v := .slice (some ⟨g9, 0, none⟩) 256 256) rfl Hs9.out) ?_
                refine hK.out _ _ (S9.out) (fun _ => ?_)
                clear hK K
                try go_frame
                refine wpAnyH_ready (rs := [4]) (by kernel_rfl) (by simp) (AllReadyH.cons (o := ⟨some 92, .convert 51 9 (.tmp 91), _, _, _, some (2, false)⟩) rfl (fun K hK => ?_) AllReadyH.nil)
                rw [if_pos (by rfl)]
                refine wp_run (.string ⟨l8.toArray⟩) w9 (exec_conv (s := 51) (t := 9) (x := .tmp 91) rfl (v := v8) rfl He1.out) ?_
                refine hK.out _ _ (S9.out) (fun _ => ?_)
                clear hK K
                try go_frame
                refine' wpAnyH_take (i := 11) (oi := ⟨some 99, .binOp .neq 9 (.tmp 92) (.tmp 98) 9, _, _, _, some (2, false)⟩) (v := _) rfl (by kernel_rfl) (by kernel_rfl) (by kernel_rfl) (fun _ _ _ h => h) (Or.inl ⟨by rfl, ?hy151⟩) (by assumption) ?rest151
                case hy151 => (intro w hSw; obtain ⟨s1, s2⟩ := hSw; go_simp <;> with_reducible rfl)
                case rest151 =>
                go_frame
                refine' wpAnyH_take (i := 12) (oi := ⟨some 100, .pick (.tmp 90) (.const (.bool true)) (.tmp 99), _, _, _, none⟩) (v := _) rfl (by kernel_rfl) (by kernel_rfl) (by kernel_rfl) (fun _ _ _ h => h) (Or.inl ⟨by rfl, ?hy152⟩) (by assumption) ?rest152
                case hy152 => (intro w hSw; obtain ⟨s1, s2⟩ := hSw; go_simp <;> with_reducible rfl)
                case rest152 =>
                go_frame
                refine' wpAnyH_take (i := 13) (oi := ⟨some 101, .move (.tmp 100), _, _, _, none⟩) (v := _) rfl (by kernel_rfl) (by kernel_rfl) (by kernel_rfl) (fun _ _ _ h => h) (Or.inl ⟨by rfl, ?hy153⟩) (by assumption) ?rest153
                case hy153 => (intro w hSw; obtain ⟨s1, s2⟩ := hSw; go_simp <;> with_reducible rfl)
                case rest153 =>
                go_frame
                refine' wpAnyH_take (i := 14) (oi := ⟨some 102, .move (.tmp 5), _, _, _, some (13, false)⟩) (v := _) rfl (by kernel_rfl) (by kernel_rfl) (by kernel_rfl) (fun _ _ _ h => h) (Or.inl ⟨by rfl, ?hy154⟩) (by assumption) ?rest154
                case hy154 => (intro w hSw; obtain ⟨s1, s2⟩ := hSw; go_simp <;> with_reducible rfl)
                case rest154 =>
                go_frame
                refine wpAnyH_ready (rs := [15]) (by kernel_rfl) (by simp) (AllReadyH.cons (o := ⟨some 103, .call { callee := .value (.func 15), args := #[.tmp 102], argTypes := #[27] }, _, _, _, some (13, false)⟩) rfl (fun K hK => ?_) AllReadyH.nil)
                rw [if_pos (by rfl)]
                go_simp
                refine (Hheld.out w9 Hb9.out).mono ?_
                rintro e w10 ⟨A10, n10, cc10, rfl, q1, q2, q3, hb10⟩
                have hb10d := up Hb9.out hb10
                have S10 := Lib.hid (HS8b.out w10 hb10d)
                have Hb10 := Lib.hid hb10d
                clear hb10 hb10d
                dsimp only
                refine hK.out _ _ (S10.out) (fun _ => ?_)
                clear hK K
                try go_frame
                refine' wpAnyH_take (i := 16) (oi := ⟨some 104, .call { callee := .builtin .len, args := #[.tmp 103], argTypes := #[39] }, _, _, _, some (13, false)⟩) (v := _) rfl (by kernel_rfl) (by kernel_rfl) (by kernel_rfl) (fun _ _ _ h => h) (Or.inl ⟨by rfl, ?hy155⟩) (by assumption) ?rest155
                case hy155 => (intro w hSw; obtain ⟨s1, s2⟩ := hSw; go_simp <;> with_reducible rfl)
                case rest155 =>
                go_frame
                refine' wpAnyH_take (i := 17) (oi := ⟨some 105, .binOp .gtr 3 (.tmp 104) (.const (.int .i64 8)) 3, _, _, _, some (13, false)⟩) (v := _) rfl (by kernel_rfl) (by kernel_rfl) (by kernel_rfl) (fun _ _ _ h => h) (Or.inl ⟨by rfl, ?hy156⟩) (by assumption) ?rest156
                case hy156 => (intro w hSw; obtain ⟨s1, s2⟩ := hSw; go_simp <;> with_reducible rfl)
                case rest156 =>
                go_frame
                refine' wpAnyH_take (i := 18) (oi := ⟨some 106, .pick (.tmp 101) (.const (.bool true)) (.tmp 105), _, _, _, none⟩) (v := _) rfl (by kernel_rfl) (by kernel_rfl) (by kernel_rfl) (fun _ _ _ h => h) (Or.inl ⟨by rfl, ?hy157⟩) (by assumption) ?rest157
                case hy157 => (intro w hSw; obtain ⟨s1, s2⟩ := hSw; go_simp <;> with_reducible rfl)
                case rest157 =>
                go_frame
                refine wpAnyH_done (by kernel_rfl) ?_ _
                go_wp2_with fail
                go_roundw
                case rel => exact ⟨k + 1, by omega, by omega, by go_num, Lib.hid (Hnext.out w10 Hb10.out)⟩
                case measure => simp [intOf]; omega
          all_goals
            have Hm := Lib.hid (show 0 < 24 by omega)
            have hb3 : Below wr.heap.size wr (wr.alloc (.cells #[.int .i64 kind, .int .i64 0, .int .u8 (by_.toNat : Int)] 37)) := (Below.refl _ _).alloc (Nat.le_refl _) _
            have hh3 : (wr.alloc (.cells #[.int .i64 kind, .int .i64 0, .int .u8 (by_.toNat : Int)] 37)).heap[ga]? = some (.cells #[.int .i64 kind, .int .i64 0, .int .u8 (by_.toNat : Int)] 37 (0, 0)) := by rw [hga]; exact heap_alloc_last _ _
            obtain ⟨w3, hw3⟩ : ∃ w3, w3 = (wr.alloc (.cells #[.int .i64 kind, .int .i64 0, .int .u8 (by_.toNat : Int)] 37)) := ⟨_, rfl⟩
            rw [← hw3] at hb3 hh3
            have HT3 := Lib.hid (Hmade.out _ w3 hb3 hh3)
            have Hh3 := Lib.hid hh3
            have Hga := Lib.hid (show ga < w3.heap.size from (Array.getElem?_eq_some_iff.1 hh3).1)
            have HC : Hid (∀ (w' : World), w'.heap[ga]? = w3.heap[ga]? → w'.cell? ⟨ga, 0, none⟩ = some (.int .i64 kind) ∧ w'.cell? ⟨ga, 1, none⟩ = some (.int .i64 0) ∧ w'.cell? ⟨ga, 2, none⟩ = some (.int .u8 (by_.toNat : Int))) := Lib.hid fun w' e => by
              obtain ⟨a, b, c, _⟩ := act_cells (e.trans hh3)
              exact ⟨a, b, c⟩
            have HS3x : Hid (∃ x d, Thr w w3 (fun k => k = ga) g c bf p hs (ofBytes hs) (20 * k) x d) := Lib.hid ⟨_, _, HT3.out⟩
            go_wp2_with (go_at_call 25; rw [← hw3]; obtain ⟨xg, dg, hTg⟩ := HS3x.out; refine (hTg.get (by omega) Hm.out).mono ?_; rintro e w8 ⟨v8, rfl, hr8, hs8, ho8, hl8⟩; have E8 := Lib.hid ((ho8 ga rfl).trans rfl); have Hr8 := Lib.hid hr8; have HS8 := Lib.hid hs8; clear hr8 hs8 ho8 hl8 hTg xg dg)
            rw [← hga]
            have HS8t : Hid (∃ x d, Thr w w8 (fun k => k = ga) g c bf p (hs) (ofBytes (hs)) (20 * k + 1) x d) := HS8
            obtain ⟨b8, hb8⟩ : ∃ b8, b8 = (hs).getD 0 0 := ⟨_, rfl⟩
            obtain ⟨l8, hl8⟩ : ∃ l8, l8 = List.replicate 256 b8 := ⟨_, rfl⟩
            have Hr8l : Hid (Rd w8 w8.heap.size v8 (cellsB l8)) := Lib.hid (by rw [hl8, hb8]; exact Hr8.out)
            have Hl8 := Lib.hid (show l8.length = 256 by rw [hl8]; exact List.length_replicate)
            have Hfull8 : Hid (∀ w, Calls Try.prog 23 #[.int .u8 (b8.toNat : Int)] w fun e w' => ∃ g, e = .returned (.slice (some ⟨g, 0, none⟩) 256 256) ∧ w.heap.size ≤ g ∧ w'.heap[g]? = some (.cells (cellsB l8).toArray 5 (0, 0)) ∧ Below w.heap.size w w') := Lib.hid (by rw [hl8]; exact cfull_any b8)
            have HS8b : Hid (∀ (w' : World), Below w8.heap.size w8 w' → w'.cell? ⟨ga, 1, none⟩ = some (.int .i64 0) ∧ w'.cell? ⟨g, 0, none⟩ = some (.int .u8 (b8.toNat : Int))) := Lib.hid fun w' hb => by
              obtain ⟨xg, dg, hTg⟩ := HS8t.out
              have h1 : ga < w8.heap.size := (Array.getElem?_eq_some_iff.1 (E8.out.trans Hh3.out)).1
              refine ⟨(HC.out w' ((hb.block ga h1).trans E8.out)).2.1, ?_⟩
              rw [hb8]
              exact (hb.cell (p := ⟨g, 0, none⟩) (Array.getElem?_eq_some_iff.1 hTg.arr).1).trans (hTg.cell Hm.out)
            have S8 := Lib.hid (HS8b.out w8 (Below.refl _ _))
            have Hheld : Hid (∀ (w' : World), Below w8.heap.size w8 w' → Calls Try.prog 15 #[at0 c] w' fun e w2 => ∃ A n' cc, e = .returned (.slice A n' cc) ∧ n' ≤ 8 ∧ n' ≤ cc ∧ cc ≤ 9223372036854775807 ∧ Below w'.heap.size w' w2) := Lib.hid fun w' hb => by
              obtain ⟨xg, dg, hTg⟩ := HS8t.out
              exact (hTg.more hb fun _ => .inl).held
            have Hnext : Hid (∀ (w' : World), Below w8.heap.size w8 w' → ∃ hs x d, Thr w w' (fun _ => False) g c bf p hs (ofBytes hs) (20 * (k + 1)) x d) := Lib.hid fun w' hb => by
              obtain ⟨xg, dg, hTg⟩ := HS8t.out
              exact ⟨_, xg, dg, (hTg.more hb fun _ e => e.elim).le (by omega)⟩
            have He0 := Lib.hid (string_of (P := Try.prog) 51 9 5 Try.underlying51 Try.underlying5 Try.underlying9 Hr8l.out (up_drew (Below.refl w8.heap.size w8)))
            replace Hr8 := Hr8l
            clear hb8 hl8 HS8 HS8t Hr8l
            clear hw3 hb3 hh3 Hmade hga c0 c1 c2
            refine wp_region_held_drew (S := fun w' : World => w'.cell? ⟨ga, 1, none⟩ = some (.int .i64 0) ∧ w'.cell? ⟨g, 0, none⟩ = some (.int .u8 (b8.toNat : Int))) (by kernel_rfl) S8.out (fun hHeld => ?_)
            refine' wpAnyH_take (i := 0) (oi := ⟨some 88, .move (.tmp 11), _, _, _, none⟩) (v := _) rfl (by kernel_rfl) (by kernel_rfl) (by kernel_rfl) (fun _ _ _ h => h) (Or.inl ⟨by rfl, ?hy158⟩) (by assumption) ?rest158
            case hy158 => (intro w hSw; obtain ⟨s1, s2⟩ := hSw; go_simp <;> with_reducible rfl)
            case rest158 =>
            go_frame
            refine' wpAnyH_take (i := 1) (oi := ⟨some 89, .binOp .neq 24 (.tmp 88) (.const (.int .i64 0)) 24, _, _, _, none⟩) (v := _) rfl (by kernel_rfl) (by kernel_rfl) (by kernel_rfl) (fun _ _ _ h => h) (Or.inl ⟨by rfl, ?hy159⟩) (by assumption) ?rest159
            case hy159 => (intro w hSw; obtain ⟨s1, s2⟩ := hSw; go_simp <;> with_reducible rfl)
            case rest159 =>
            go_frame
            refine' wpAnyH_take (i := 2) (oi := ⟨some 90, .move (.tmp 89), _, _, _, none⟩) (v := _) rfl (by kernel_rfl) (by kernel_rfl) (by kernel_rfl) (fun _ _ _ h => h) (Or.inl ⟨by rfl, ?hy160⟩) (by assumption) ?rest160
            case hy160 => (intro w hSw; obtain ⟨s1, s2⟩ := hSw; go_simp <;> with_reducible rfl)
            case rest160 =>
            go_frame
            refine' wpAnyH_take (i := 3) (oi := ⟨some 91, .move (.tmp 10), _, _, _, some (2, false)⟩) (v := _) rfl (by kernel_rfl) (by kernel_rfl) (by kernel_rfl) (fun _ _ _ h => h) (Or.inl ⟨by rfl, ?hy161⟩) (by assumption) ?rest161
            case hy161 => (intro w hSw; obtain ⟨s1, s2⟩ := hSw; go_simp <;> with_reducible rfl)
            case rest161 =>
            go_frame
            refine' wpAnyH_take (i := 5) (oi := ⟨some 93, .fieldAddr 37 (.tmp 9) 1, _, _, _, some (2, false)⟩) (v := _) rfl (by kernel_rfl) (by kernel_rfl) (by kernel_rfl) (fun _ _ _ h => h) (Or.inl ⟨by rfl, ?hy162⟩) (by assumption) ?rest162
            case hy162 => (intro w hSw; obtain ⟨s1, s2⟩ := hSw; go_simp <;> with_reducible rfl)
            case rest162 =>
            go_frame
            refine' wpAnyH_take (i := 6) (oi := ⟨some 94, .load 3 (.tmp 93), _, _, _, some (2, false)⟩) (v := _) rfl (by kernel_rfl) (by kernel_rfl) (by kernel_rfl) (fun _ _ _ h => h) (Or.inl ⟨by rfl, ?hy163⟩) (by assumption) ?rest163
            case hy163 => (intro w hSw; obtain ⟨s1, s2⟩ := hSw; go_simp <;> with_reducible rfl)
            case rest163 =>
            go_frame
            refine' wpAnyH_take (i := 7) (oi := ⟨some 95, .indexAddr 56 (.tmp 7) (.tmp 94), _, _, _, some (2, false)⟩) (v := _) rfl (by kernel_rfl) (by kernel_rfl) (by kernel_rfl) (fun _ _ _ h => h) (Or.inl ⟨by rfl, ?hy164⟩) (by assumption) ?rest164
            case hy164 => (intro w hSw; obtain ⟨s1, s2⟩ := hSw; go_simp <;> with_reducible rfl)
            case rest164 =>
            go_frame
            refine' wpAnyH_take (i := 8) (oi := ⟨some 96, .load 5 (.tmp 95), _, _, _, some (2, false)⟩) (v := _) rfl (by kernel_rfl) (by kernel_rfl) (by kernel_rfl) (fun _ _ _ h => h) (Or.inl ⟨by rfl, ?hy165⟩) (by assumption) ?rest165
            case hy165 => (intro w hSw; obtain ⟨s1, s2⟩ := hSw; go_simp <;> with_reducible rfl)
            case rest165 =>
            go_frame
            refine wpAnyH_ready (rs := [4, 9]) (by kernel_rfl) (by simp) (AllReadyH.cons (o := ⟨some 92, .convert 51 9 (.tmp 91), _, _, _, some (2, false)⟩) rfl (fun K hK => ?_) (AllReadyH.cons (o := ⟨some 97, .call { callee := .value (.func 23), args := #[.tmp 96], argTypes := #[5] }, _, _, _, some (2, false)⟩) rfl (fun K hK => ?_) AllReadyH.nil))
            · rw [if_pos (by rfl)]
              refine wp_run (.string ⟨l8.toArray⟩) w8.drew (exec_conv (s := 51) (t := 9) (x := .tmp 91) rfl (v := v8) rfl He0.out) ?_
              refine hK.out _ _ (S8.out) (fun _ => ?_)
              clear hK K
              try go_frame
              refine wpAnyH_ready (rs := [9]) (by kernel_rfl) (by simp) (AllReadyH.cons (o := ⟨some 97, .call { callee := .value (.func 23), args := #[.tmp 96], argTypes := #[5] }, _, _, _, some (2, false)⟩) rfl (fun K hK => ?_) AllReadyH.nil)
              rw [if_pos (by rfl)]
              go_simp
              refine (Hfull8.out _).mono ?_
              rintro e w9 ⟨g9, rfl, hg9, hh9, hb9⟩
              have hb9d : Below w8.heap.size w8 w9 := (up_drew (Below.refl w8.heap.size w8)).trans hb9
              have He1 := Lib.hid (string_of (P := Try.prog) 51 9 5 Try.underlying51 Try.underlying5 Try.underlying9 Hr8.out hb9d)
              have Hs9 := Lib.hid (string_of (P := Try.prog) 51 9 5 Try.underlying51 Try.underlying5 Try.underlying9 (rd_whole hh9 Hl8.out) (Below.refl _ _))
              have S9 := Lib.hid (HS8b.out w9 hb9d)
              have Hb9 := Lib.hid hb9d
              clear hg9 hh9 hb9 hb9d
              dsimp only
              refine hK.out _ _ (S9.out) (fun _ => ?_)
              clear hK K
              try go_frame
              refine wpAnyH_ready (rs := [10]) (by kernel_rfl) (by simp) (AllReadyH.cons (o := ⟨some 98, .convert 51 9 (.tmp 97), _, _, _, some (2, false)⟩) rfl (fun K hK => ?_) AllReadyH.nil)
              rw [if_pos (by rfl)]
              refine wp_run (.string ⟨l8.toArray⟩) w9 (exec_conv (s := 51) (t := 9) (x := .tmp 97) rfl (v := .slice (some ⟨g9, 0, none⟩) 256 256) rfl Hs9.out) ?_
              refine hK.out _ _ (S9.out) (fun _ => ?_)
              clear hK K
              try go_frame
              refine' wpAnyH_take (i := 11) (oi := ⟨some 99, .binOp .neq 9 (.tmp 92) (.tmp 98) 9, _, _, _, some (2, false)⟩) (v := _) rfl (by kernel_rfl) (by kernel_rfl) (by kernel_rfl) (fun _ _ _ h => h) (Or.inl ⟨by rfl, ?hy166⟩) (by assumption) ?rest166
              case hy166 => (intro w hSw; obtain ⟨s1, s2⟩ := hSw; go_simp <;> with_reducible rfl)
              case rest166 =>
              go_frame
              refine' wpAnyH_take (i := 12) (oi := ⟨some 100, .pick (.tmp 90) (.const (.bool true)) (.tmp 99), _, _, _, none⟩) (v := _) rfl (by kernel_rfl) (by kernel_rfl) (by kernel_rfl) (fun _ _ _ h => h) (Or.inl ⟨by rfl, ?hy167⟩) (by assumption) ?rest167
              case hy167 => (intro w hSw; obtain ⟨s1, s2⟩ := hSw; go_simp <;> with_reducible rfl)
              case rest167 =>
              go_frame
              refine' wpAnyH_take (i := 13) (oi := ⟨some 101, .move (.tmp 100), _, _, _, none⟩) (v := _) rfl (by kernel_rfl) (by kernel_rfl) (by kernel_rfl) (fun _ _ _ h => h) (Or.inl ⟨by rfl, ?hy168⟩) (by assumption) ?rest168
              case hy168 => (intro w hSw; obtain ⟨s1, s2⟩ := hSw; go_simp <;> with_reducible rfl)
              case rest168 =>
              go_frame
              refine' wpAnyH_take (i := 14) (oi := ⟨some 102, .move (.tmp 5), _, _, _, some (13, false)⟩) (v := _) rfl (by kernel_rfl) (by kernel_rfl) (by kernel_rfl) (fun _ _ _ h => h) (Or.inl ⟨by rfl, ?hy169⟩) (by assumption) ?rest169
              case hy169 => (intro w hSw; obtain ⟨s1, s2⟩ := hSw; go_simp <;> with_reducible rfl)
              case rest169 =>
              go_frame
              refine wpAnyH_ready (rs := [15]) (by kernel_rfl) (by simp) (AllReadyH.cons (o := ⟨some 103, .call { callee := .value (.func 15), args := #[.tmp 102], argTypes := #[27] }, _, _, _, some (13, false)⟩) rfl (fun K hK => ?_) AllReadyH.nil)
              rw [if_pos (by rfl)]
              go_simp
              refine (Hheld.out w9 Hb9.out).mono ?_
              rintro e w10 ⟨A10, n10, cc10, rfl, q1, q2, q3, hb10⟩
              have hb10d := up Hb9.out hb10
              have S10 := Lib.hid (HS8b.out w10 hb10d)
              have Hb10 := Lib.hid hb10d
              clear hb10 hb10d
              dsimp only
              refine hK.out _ _ (S10.out) (fun _ => ?_)
              clear hK K
              try go_frame
              refine' wpAnyH_take (i := 16) (oi := ⟨some 104, .call { callee := .builtin .len, args := #[.tmp 103], argTypes := #[39] }, _, _, _, some (13, false)⟩) (v := _) rfl (by kernel_rfl) (by kernel_rfl) (by kernel_rfl) (fun _ _ _ h => h) (Or.inl ⟨by rfl, ?hy170⟩) (by assumption) ?rest170
              case hy170 => (intro w hSw; obtain ⟨s1, s2⟩ := hSw; go_simp <;> with_reducible rfl)
              case rest170 =>
              go_frame
              refine' wpAnyH_take (i := 17) (oi := ⟨some 105, .binOp .gtr 3 (.tmp 104) (.const (.int .i64 8)) 3, _, _, _, some (13, false)⟩) (v := _) rfl (by kernel_rfl) (by kernel_rfl) (by kernel_rfl) (fun _ _ _ h => h) (Or.inl ⟨by rfl, ?hy171⟩) (by assumption) ?rest171
              case hy171 => (intro w hSw; obtain ⟨s1, s2⟩ := hSw; go_simp <;> with_reducible rfl)
              case rest171 =>
              go_frame
              refine' wpAnyH_take (i := 18) (oi := ⟨some 106, .pick (.tmp 101) (.const (.bool true)) (.tmp 105), _, _, _, none⟩) (v := _) rfl (by kernel_rfl) (by kernel_rfl) (by kernel_rfl) (fun _ _ _ h => h) (Or.inl ⟨by rfl, ?hy172⟩) (by assumption) ?rest172
              case hy172 => (intro w hSw; obtain ⟨s1, s2⟩ := hSw; go_simp <;> with_reducible rfl)
              case rest172 =>
              go_frame
              refine wpAnyH_done (by kernel_rfl) ?_ _
              go_wp2_with fail
              go_roundw
              case rel => exact ⟨k + 1, by omega, by omega, by go_num, Lib.hid (Hnext.out w10 Hb10.out)⟩
              case measure => simp [intOf]; omega
            · rw [if_pos (by rfl)]
              go_simp
              refine (Hfull8.out _).mono ?_
              rintro e w9 ⟨g9, rfl, hg9, hh9, hb9⟩
              have hb9d : Below w8.heap.size w8 w9 := (up_drew (Below.refl w8.heap.size w8)).trans hb9
              have He1 := Lib.hid (string_of (P := Try.prog) 51 9 5 Try.underlying51 Try.underlying5 Try.underlying9 Hr8.out hb9d)
              have Hs9 := Lib.hid (string_of (P := Try.prog) 51 9 5 Try.underlying51 Try.underlying5 Try.underlying9 (rd_whole hh9 Hl8.out) (Below.refl _ _))
              have S9 := Lib.hid (HS8b.out w9 hb9d)
              have Hb9 := Lib.hid hb9d
              clear hg9 hh9 hb9 hb9d
              dsimp only
              refine hK.out _ _ (S9.out) (fun _ => ?_)
              clear hK K
              try go_frame
              refine wpAnyH_ready (rs := [4, 10]) (by kernel_rfl) (by simp) (AllReadyH.cons (o := ⟨some 92, .convert 51 9 (.tmp 91), _, _, _, some (2, false)⟩) rfl (fun K hK => ?_) (AllReadyH.cons (o := ⟨some 98, .convert 51 9 (.tmp 97), _, _, _, some (2, false)⟩) rfl (fun K hK => ?_) AllReadyH.nil))
              · rw [if_pos (by rfl)]
                refine wp_run (.string ⟨l8.toArray⟩) w9 (exec_conv (s := 51) (t := 9) (x := .tmp 91) rfl (v := v8) rfl He1.out) ?_
                refine hK.out _ _ (S9.out) (fun _ => ?_)
                clear hK K
                try go_frame
                refine wpAnyH_ready (rs := [10]) (by kernel_rfl) (by simp) (AllReadyH.cons (o := ⟨some 98, .convert 51 9 (.tmp 97), _, _, _, some (2, false)⟩) rfl (fun K hK => ?_) AllReadyH.nil)
                rw [if_pos (by rfl)]
                refine wp_run (.string ⟨l8.toArray⟩) w9 (exec_conv (s := 51) (t := 9) (x := .tmp 97) rfl (v := .slice (some ⟨g9, 0, none⟩) 256 256) rfl Hs9.out) ?_
                refine hK.out _ _ (S9.out) (fun _ => ?_)
                clear hK K
                try go_frame
                refine' wpAnyH_take (i := 11) (oi := ⟨some 99, .binOp .neq 9 (.tmp 92) (.tmp 98) 9, _, _, _, some (2, false)⟩) (v := _) rfl (by kernel_rfl) (by kernel_rfl) (by kernel_rfl) (fun _ _ _ h => h) (Or.inl ⟨by rfl, ?hy173⟩) (by assumption) ?rest173
                case hy173 => (intro w hSw; obtain ⟨s1, s2⟩ := hSw; go_simp <;> with_reducible rfl)
                case rest173 =>
                go_frame
                refine' wpAnyH_take (i := 12) (oi := ⟨some 100, .pick (.tmp 90) (.const (.bool true)) (.tmp 99), _, _, _, none⟩) (v := _) rfl (by kernel_rfl) (by kernel_rfl) (by kernel_rfl) (fun _ _ _ h => h) (Or.inl ⟨by rfl, ?hy174⟩) (by assumption) ?rest174
                case hy174 => (intro w hSw; obtain ⟨s1, s2⟩ := hSw; go_simp <;> with_reducible rfl)
                case rest174 =>
                go_frame
                refine' wpAnyH_take (i := 13) (oi := ⟨some 101, .move (.tmp 100), _, _, _, none⟩) (v := _) rfl (by kernel_rfl) (by kernel_rfl) (by kernel_rfl) (fun _ _ _ h => h) (Or.inl ⟨by rfl, ?hy175⟩) (by assumption) ?rest175
                case hy175 => (intro w hSw; obtain ⟨s1, s2⟩ := hSw; go_simp <;> with_reducible rfl)
                case rest175 =>
                go_frame
                refine' wpAnyH_take (i := 14) (oi := ⟨some 102, .move (.tmp 5), _, _, _, some (13, false)⟩) (v := _) rfl (by kernel_rfl) (by kernel_rfl) (by kernel_rfl) (fun _ _ _ h => h) (Or.inl ⟨by rfl, ?hy176⟩) (by assumption) ?rest176
                case hy176 => (intro w hSw; obtain ⟨s1, s2⟩ := hSw; go_simp <;> with_reducible rfl)
                case rest176 =>
                go_frame
                refine wpAnyH_ready (rs := [15]) (by kernel_rfl) (by simp) (AllReadyH.cons (o := ⟨some 103, .call { callee := .value (.func 15), args := #[.tmp 102], argTypes := #[27] }, _, _, _, some (13, false)⟩) rfl (fun K hK => ?_) AllReadyH.nil)
                rw [if_pos (by rfl)]
                go_simp
                refine (Hheld.out w9 Hb9.out).mono ?_
                rintro e w10 ⟨A10, n10, cc10, rfl, q1, q2, q3, hb10⟩
                have hb10d := up Hb9.out hb10
                have S10 := Lib.hid (HS8b.out w10 hb10d)
                have Hb10 := Lib.hid hb10d
                clear hb10 hb10d
                dsimp only
                refine hK.out _ _ (S10.out) (fun _ => ?_)
                clear hK K
                try go_frame
                refine' wpAnyH_take (i := 16) (oi := ⟨some 104, .call { callee := .builtin .len, args := #[.tmp 103], argTypes := #[39] }, _, _, _, some (13, false)⟩) (v := _) rfl (by kernel_rfl) (by kernel_rfl) (by kernel_rfl) (fun _ _ _ h => h) (Or.inl ⟨by rfl, ?hy177⟩) (by assumption) ?rest177
                case hy177 => (intro w hSw; obtain ⟨s1, s2⟩ := hSw; go_simp <;> with_reducible rfl)
                case rest177 =>
                go_frame
                refine' wpAnyH_take (i := 17) (oi := ⟨some 105, .binOp .gtr 3 (.tmp 104) (.const (.int .i64 8)) 3, _, _, _, some (13, false)⟩) (v := _) rfl (by kernel_rfl) (by kernel_rfl) (by kernel_rfl) (fun _ _ _ h => h) (Or.inl ⟨by rfl, ?hy178⟩) (by assumption) ?rest178
                case hy178 => (intro w hSw; obtain ⟨s1, s2⟩ := hSw; go_simp <;> with_reducible rfl)
                case rest178 =>
                go_frame
                refine' wpAnyH_take (i := 18) (oi := ⟨some 106, .pick (.tmp 101) (.const (.bool true)) (.tmp 105), _, _, _, none⟩) (v := _) rfl (by kernel_rfl) (by kernel_rfl) (by kernel_rfl) (fun _ _ _ h => h) (Or.inl ⟨by rfl, ?hy179⟩) (by assumption) ?rest179
                case hy179 => (intro w hSw; obtain ⟨s1, s2⟩ := hSw; go_simp <;> with_reducible rfl)
                case rest179 =>
                go_frame
                refine wpAnyH_done (by kernel_rfl) ?_ _
                go_wp2_with fail
                go_roundw
                case rel => exact ⟨k + 1, by omega, by omega, by go_num, Lib.hid (Hnext.out w10 Hb10.out)⟩
                case measure => simp [intOf]; omega
              · rw [if_pos (by rfl)]
                refine wp_run (.string ⟨l8.toArray⟩) w9 (exec_conv (s := 51) (t := 9) (x := .tmp 97) rfl (v := .slice (some ⟨g9, 0, none⟩) 256 256) rfl Hs9.out) ?_
                refine hK.out _ _ (S9.out) (fun _ => ?_)
                clear hK K
                try go_frame
                refine wpAnyH_ready (rs := [4]) (by kernel_rfl) (by simp) (AllReadyH.cons (o := ⟨some 92, .convert 51 9 (.tmp 91), _, _, _, some (2, false)⟩) rfl (fun K hK => ?_) AllReadyH.nil)
                rw [if_pos (by rfl)]
                refine wp_run (.string ⟨l8.toArray⟩) w9 (exec_conv (s := 51) (t := 9) (x := .tmp 91) rfl (v := v8) rfl He1.out) ?_
                refine hK.out _ _ (S9.out) (fun _ => ?_)
                clear hK K
                try go_frame
                refine' wpAnyH_take (i := 11) (oi := ⟨some 99, .binOp .neq 9 (.tmp 92) (.tmp 98) 9, _, _, _, some (2, false)⟩) (v := _) rfl (by kernel_rfl) (by kernel_rfl) (by kernel_rfl) (fun _ _ _ h => h) (Or.inl ⟨by rfl, ?hy180⟩) (by assumption) ?rest180
                case hy180 => (intro w hSw; obtain ⟨s1, s2⟩ := hSw; go_simp <;> with_reducible rfl)
                case rest180 =>
                go_frame
                refine' wpAnyH_take (i := 12) (oi := ⟨some 100, .pick (.tmp 90) (.const (.bool true)) (.tmp 99), _, _, _, none⟩) (v := _) rfl (by kernel_rfl) (by kernel_rfl) (by kernel_rfl) (fun _ _ _ h => h) (Or.inl ⟨by rfl, ?hy181⟩) (by assumption) ?rest181
                case hy181 => (intro w hSw; obtain ⟨s1, s2⟩ := hSw; go_simp <;> with_reducible rfl)
                case rest181 =>
                go_frame
                refine' wpAnyH_take (i := 13) (oi := ⟨some 101, .move (.tmp 100), _, _, _, none⟩) (v := _) rfl (by kernel_rfl) (by kernel_rfl) (by kernel_rfl) (fun _ _ _ h => h) (Or.inl ⟨by rfl, ?hy182⟩) (by assumption) ?rest182
                case hy182 => (intro w hSw; obtain ⟨s1, s2⟩ := hSw; go_simp <;> with_reducible rfl)
                case rest182 =>
                go_frame
                refine' wpAnyH_take (i := 14) (oi := ⟨some 102, .move (.tmp 5), _, _, _, some (13, false)⟩) (v := _) rfl (by kernel_rfl) (by kernel_rfl) (by kernel_rfl) (fun _ _ _ h => h) (Or.inl ⟨by rfl, ?hy183⟩) (by assumption) ?rest183
                case hy183 => (intro w hSw; obtain ⟨s1, s2⟩ := hSw; go_simp <;> with_reducible rfl)
                case rest183 =>
                go_frame
                refine wpAnyH_ready (rs := [15]) (by kernel_rfl) (by simp) (AllReadyH.cons (o := ⟨some 103, .call { callee := .value (.func 15), args := #[.tmp 102], argTypes := #[27] }, _, _, _, some (13, false)⟩) rfl (fun K hK => ?_) AllReadyH.nil)
                rw [if_pos (by rfl)]
                go_simp
                refine (Hheld.out w9 Hb9.out).mono ?_
                rintro e w10 ⟨A10, n10, cc10, rfl, q1, q2, q3, hb10⟩
                have hb10d := up Hb9.out hb10
                have S10 := Lib.hid (HS8b.out w10 hb10d)
                have Hb10 := Lib.hid hb10d
                clear hb10 hb10d
                dsimp only
                refine hK.out _ _ (S10.out) (fun _ => ?_)
                clear hK K
                try go_frame
                refine' wpAnyH_take (i := 16) (oi := ⟨some 104, .call { callee := .builtin .len, args := #[.tmp 103], argTypes := #[39] }, _, _, _, some (13, false)⟩) (v := _) rfl (by kernel_rfl) (by kernel_rfl) (by kernel_rfl) (fun _ _ _ h => h) (Or.inl ⟨by rfl, ?hy184⟩) (by assumption) ?rest184
                case hy184 => (intro w hSw; obtain ⟨s1, s2⟩ := hSw; go_simp <;> with_reducible rfl)
                case rest184 =>
                go_frame
                refine' wpAnyH_take (i := 17) (oi := ⟨some 105, .binOp .gtr 3 (.tmp 104) (.const (.int .i64 8)) 3, _, _, _, some (13, false)⟩) (v := _) rfl (by kernel_rfl) (by kernel_rfl) (by kernel_rfl) (fun _ _ _ h => h) (Or.inl ⟨by rfl, ?hy185⟩) (by assumption) ?rest185
                case hy185 => (intro w hSw; obtain ⟨s1, s2⟩ := hSw; go_simp <;> with_reducible rfl)
                case rest185 =>
                go_frame
                refine' wpAnyH_take (i := 18) (oi := ⟨some 106, .pick (.tmp 101) (.const (.bool true)) (.tmp 105), _, _, _, none⟩) (v := _) rfl (by kernel_rfl) (by kernel_rfl) (by kernel_rfl) (fun _ _ _ h => h) (Or.inl ⟨by rfl, ?hy186⟩) (by assumption) ?rest186
                case hy186 => (intro w hSw; obtain ⟨s1, s2⟩ := hSw; go_simp <;> with_reducible rfl)
                case rest186 =>
                go_frame
                refine wpAnyH_done (by kernel_rfl) ?_ _
                go_wp2_with fail
                go_roundw
                case rel => exact ⟨k + 1, by omega, by omega, by go_num, Lib.hid (Hnext.out w10 Hb10.out)⟩
                case measure => simp [intOf]; omega
    · have hexit : n ≤ k ∨ (k < n ∧ 60 ≤ k) := by omega
      have hly := Lib.hid (clives_any wr)
      have Hlow := Lib.hid hlow
      clear hT hlow hkn hgo HS
      rcases hexit with d0 | ⟨d0, d1⟩
      all_goals
        go_wp2_with (go_at_call 10; refine hly.out.mono ?_; rintro e w6 ⟨rfl, hb6⟩)
        go_ret
        exact ⟨rfl, up Hlow.out hb6⟩
end Go.Proofs.Ytfjcblppmoomdaa
