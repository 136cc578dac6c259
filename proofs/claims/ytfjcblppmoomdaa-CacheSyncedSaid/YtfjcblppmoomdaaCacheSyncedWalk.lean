/-
  CacheSynced: its walk.
-/
import Derived.Test.YtfjcblppmoomdaaCacheSyn
import Derived.Test.YtfjcblppmoomdaaCacheThroughStart
import Derived.StillTailTactics
import Derived.IntWalk
namespace Go.Proofs.Ytfjcblppmoomdaa
open Go.RowKit
set_option maxRecDepth 100000 in
set_option maxHeartbeats 4000000 in
theorem cacheSynced_walk (v : Value) (l : List Act3) (w : World) (h : Acts3 w v l) :
    Calls Try.prog 5 #[v] w fun e w' => e = .returned (.bool true) ∧ Below w.heap.size w w' := by
  obtain ⟨A, cl, rfl, p1, p2, p3⟩ := h.at_
  obtain ⟨n, hn⟩ : ∃ n, n = l.length := ⟨_, rfl⟩
  rw [← hn] at p1 ⊢
  have Hl : Hid (∀ k (_ : k < n), ∃ b o no by_, A = some ⟨b, o, none⟩ ∧ ∀ w', Below w.heap.size w w' →
    w'.cell? ⟨b, o + k * 3 + 1, none⟩ = some (.int .i64 no) ∧ w'.cell? ⟨b, o + k * 3 + 2, none⟩ = some (.int .u8 ((by_ : UInt8).toNat : Int))) := Lib.hid fun k hk => by
    obtain ⟨b, o, e1, e2⟩ := p3 k (hn ▸ hk)
    exact ⟨b, o, _, _, e1, fun w' hw => (e2 w' hw).2⟩
  have Hnew := Lib.hid (new_ok (n := 24) w (fun k => w.heap.size ≤ k) ⟨by omega, by omega⟩ (fun k hk => hk))
  have Hcn := Lib.hid (thr_new w)
  obtain ⟨Z, hZ, hz0, hz1, hz2, hz3⟩ := zero24
  rw [← hZ] at Hcn
  have Hz2 := Lib.hid hz2
  have Hz3 := Lib.hid hz3
  clear h p3 hn hZ hz2 hz3
  go_enter Try.func5, Try.ntmps5
  go_wp2_with (first
    | (go_at_call 8; refine Hnew.out.mono ?_; rintro e w1 ⟨rfl, hd1, hb1⟩; have Hd1 := Lib.hid hd1; have Hb1 := Lib.hid hb1; clear hd1 hb1)
    | (go_at_call 9; refine (Hcn.out _ _ _ _ _ _ Hd1.out Hb1.out).mono ?_; rintro e w2 ⟨c, bf, rfl, hw2, hb2⟩; have Hw2 := Lib.hid hw2; have Hb2 := Lib.hid hb2; clear hw2 hb2)
    | ((with_reducible refine wpList_run (o := ⟨some 31, .build 56 #[], _, _, _, none⟩) rfl (.agg Z) w2 ?_ ?_); exact exec_build0 rfl (hz1 _))
    | (with_reducible refine wpList_alloc_zero (o := ⟨some 7, .alloc 56, _, _, _, _⟩) rfl 56 rfl Z hz0 ?_)
    | ((with_reducible refine wpList_store_new (o := ⟨none, .store 56 (.tmp 7) (.tmp 31), _, _, _, _⟩) rfl 56 (.tmp 7) (.tmp 31) rfl Z Z ?_ ?_ Hz2.out rfl Hz3.out ?_); exact rfl; exact rfl))
  obtain ⟨g, hg⟩ : ∃ g, g = w2.heap.size := ⟨_, rfl⟩
  obtain ⟨p, hpp⟩ : ∃ p, p = w.heap.size + 2 := ⟨_, rfl⟩
  rw [← hg, ← hpp]
  have HS0 : Hid (∃ hs x d, Thr w (w2.alloc (.cells Z 56)) (fun _ => False) g c bf p hs (ofBytes hs) (20 * 0) x d) := Lib.hid (by
    obtain ⟨x, d, hT⟩ := Hw2.out
    rw [hg, hpp]
    exact ⟨_, x, d, hT⟩)
  clear Hw2 Hb2 Hd1 Hb1 Hnew Hcn Hz2 Hz3 hz0 hz1 hg hpp
  go_loopw [8] (fun iv wr => ∃ (k : Nat), k ≤ n ∧ k ≤ 60 ∧ iv = .int .i64 (k : Int) ∧ Hid (∃ hs x d, Thr w wr (fun _ => False) g c bf p hs (ofBytes hs) (20 * k) x d)) (fun iv _ => n - (intOf iv).toNat)
  case atStart => exact ⟨0, by omega, by omega, rfl, HS0⟩
  case round =>
    obtain ⟨k, hkn, hk60, rfl, HS⟩ := hrel
    obtain ⟨hs, x, d, hT⟩ := HS.out
    have hlow := hT.lw.low
    by_cases hgo : k < n ∧ k < 60
    · obtain ⟨hk1, hk2⟩ := hgo
      obtain ⟨b, o, no, by_, rfl, hcell⟩ := Hl.out k hk1
      have HT := Lib.hid hT
      have Hfull := Lib.hid (cfull_any by_)
      have Hcell := Lib.hid hcell
      have Hlow := Lib.hid hlow
      have k0 : (0 : Int) ≤ (k : Int) := by omega
      have k1 : (k : Int) < (n : Int) := by omega
      have k2 : (k : Int).toNat = k := by omega
      clear hT hcell HS hlow
      by_cases hr : 0 ≤ no ∧ no < 24
      · obtain ⟨m, rfl⟩ : ∃ m : Nat, no = m := ⟨no.toNat, by omega⟩
        have hm : m < 24 := by omega
        have Hm := Lib.hid hm
        have m0 : (0 : Int) ≤ (m : Int) := by omega
        have m1 : (m : Int) < 24 := by omega
        have m2 : (m : Int).toNat = m := by omega
        clear hr
        go_wp2_with fail
        refine wp_region_held_drew (S := fun w' : World => w'.cell? ⟨b, o + k * 3 + 1, none⟩ = some (.int .i64 (m : Int)) ∧ w'.cell? ⟨b, o + k * 3 + 2, none⟩ = some (.int .u8 (by_.toNat : Int))) (by kernel_rfl) (Hcell.out wr Hlow.out) (fun hHeld => ?_)
        refine' wpAnyH_take (i := 0) (oi := ⟨some 42, .move (.tmp 5), _, _, _, none⟩) (v := _) rfl (by kernel_rfl) (by kernel_rfl) (by kernel_rfl) (fun _ _ _ h => h) (Or.inl ⟨by rfl, ?hy1⟩) (by assumption) ?rest1
        case hy1 => (intro w hSw; obtain ⟨s1, s2⟩ := hSw; go_simp <;> with_reducible rfl)
        case rest1 =>
        go_frame
        refine' wpAnyH_take (i := 1) (oi := ⟨some 43, .move (.tmp 0), _, _, _, none⟩) (v := _) rfl (by kernel_rfl) (by kernel_rfl) (by kernel_rfl) (fun _ _ _ h => h) (Or.inl ⟨by rfl, ?hy2⟩) (by assumption) ?rest2
        case hy2 => (intro w hSw; obtain ⟨s1, s2⟩ := hSw; go_simp <;> with_reducible rfl)
        case rest2 =>
        go_frame
        refine' wpAnyH_take (i := 2) (oi := ⟨some 44, .move (.tmp 8), _, _, _, none⟩) (v := _) rfl (by kernel_rfl) (by kernel_rfl) (by kernel_rfl) (fun _ _ _ h => h) (Or.inl ⟨by rfl, ?hy3⟩) (by assumption) ?rest3
        case hy3 => (intro w hSw; obtain ⟨s1, s2⟩ := hSw; go_simp <;> with_reducible rfl)
        case rest3 =>
        go_frame
        refine' wpAnyH_take (i := 3) (oi := ⟨some 45, .indexAddr 22 (.tmp 43) (.tmp 44), _, _, _, none⟩) (v := _) rfl (by kernel_rfl) (by kernel_rfl) (by kernel_rfl) (fun _ _ _ h => h) (Or.inl ⟨by rfl, ?hy4⟩) (by assumption) ?rest4
        case hy4 => (intro w hSw; obtain ⟨s1, s2⟩ := hSw; go_simp <;> with_reducible rfl)
        case rest4 =>
        go_frame
        refine' wpAnyH_take (i := 4) (oi := ⟨some 46, .fieldAddr 37 (.tmp 45) 1, _, _, _, none⟩) (v := _) rfl (by kernel_rfl) (by kernel_rfl) (by kernel_rfl) (fun _ _ _ h => h) (Or.inl ⟨by rfl, ?hy5⟩) (by assumption) ?rest5
        case hy5 => (intro w hSw; obtain ⟨s1, s2⟩ := hSw; go_simp <;> with_reducible rfl)
        case rest5 =>
        go_frame
        refine' wpAnyH_take (i := 5) (oi := ⟨some 47, .load 3 (.tmp 46), _, _, _, none⟩) (v := _) rfl (by kernel_rfl) (by kernel_rfl) (by kernel_rfl) (fun _ _ _ h => h) (Or.inl ⟨by rfl, ?hy6⟩) (by assumption) ?rest6
        case hy6 => (intro w hSw; obtain ⟨s1, s2⟩ := hSw; go_simp <;> with_reducible rfl)
        case rest6 =>
        go_frame
        refine' wpAnyH_take (i := 6) (oi := ⟨some 48, .move (.tmp 0), _, _, _, none⟩) (v := _) rfl (by kernel_rfl) (by kernel_rfl) (by kernel_rfl) (fun _ _ _ h => h) (Or.inl ⟨by rfl, ?hy7⟩) (by assumption) ?rest7
        case hy7 => (intro w hSw; obtain ⟨s1, s2⟩ := hSw; go_simp <;> with_reducible rfl)
        case rest7 =>
        go_frame
        refine' wpAnyH_take (i := 7) (oi := ⟨some 49, .move (.tmp 8), _, _, _, none⟩) (v := _) rfl (by kernel_rfl) (by kernel_rfl) (by kernel_rfl) (fun _ _ _ h => h) (Or.inl ⟨by rfl, ?hy8⟩) (by assumption) ?rest8
        case hy8 => (intro w hSw; obtain ⟨s1, s2⟩ := hSw; go_simp <;> with_reducible rfl)
        case rest8 =>
        go_frame
        refine' wpAnyH_take (i := 8) (oi := ⟨some 50, .indexAddr 22 (.tmp 48) (.tmp 49), _, _, _, none⟩) (v := _) rfl (by kernel_rfl) (by kernel_rfl) (by kernel_rfl) (fun _ _ _ h => h) (Or.inl ⟨by rfl, ?hy9⟩) (by assumption) ?rest9
        case hy9 => (intro w hSw; obtain ⟨s1, s2⟩ := hSw; go_simp <;> with_reducible rfl)
        case rest9 =>
        go_frame
        refine' wpAnyH_take (i := 9) (oi := ⟨some 51, .fieldAddr 37 (.tmp 50) 2, _, _, _, none⟩) (v := _) rfl (by kernel_rfl) (by kernel_rfl) (by kernel_rfl) (fun _ _ _ h => h) (Or.inl ⟨by rfl, ?hy10⟩) (by assumption) ?rest10
        case hy10 => (intro w hSw; obtain ⟨s1, s2⟩ := hSw; go_simp <;> with_reducible rfl)
        case rest10 =>
        go_frame
        refine' wpAnyH_take (i := 10) (oi := ⟨some 52, .load 5 (.tmp 51), _, _, _, none⟩) (v := _) rfl (by kernel_rfl) (by kernel_rfl) (by kernel_rfl) (fun _ _ _ h => h) (Or.inl ⟨by rfl, ?hy11⟩) (by assumption) ?rest11
        case hy11 => (intro w hSw; obtain ⟨s1, s2⟩ := hSw; go_simp <;> with_reducible rfl)
        case rest11 =>
        go_frame
        refine wpAnyH_ready (rs := [11]) (by kernel_rfl) (by simp) (AllReadyH.cons (o := ⟨some 53, .call { callee := .value (.func 23), args := #[.tmp 52], argTypes := #[5] }, _, _, _, none⟩) rfl (fun K hK => ?_) AllReadyH.nil)
        rw [if_pos (by rfl)]
        go_simp
        refine (Hfull.out _).mono ?_
        rintro e w5 ⟨g5, rfl, hg5, hh5, hb5⟩
        have hb5d : Below wr.heap.size wr w5 := (up_drew (Below.refl wr.heap.size wr)).trans hb5
        have S5 := Lib.hid (Hcell.out w5 (up Hlow.out hb5d))
        have Hg5 := Lib.hid hg5
        have Hh5 := Lib.hid hh5
        have Hb5 := Lib.hid hb5d
        clear hg5 hh5 hb5 hb5d
        dsimp only
        refine hK.out _ _ (S5.out) (fun _ => ?_)
        clear hK K
        try go_frame
        refine wpAnyH_ready (rs := [12]) (by kernel_rfl) (by simp) (AllReadyH.cons (o := ⟨some 54, .call { callee := .value (.func 22), args := #[.tmp 42, .tmp 47, .tmp 53], argTypes := #[27, 3, 51] }, _, _, _, none⟩) rfl (fun K hK => ?_) AllReadyH.nil)
        rw [if_pos (by rfl)]
        go_simp
        refine (HT.out.put (by omega) Hm.out Hb5.out Hg5.out (List.length_replicate) Hh5.out).mono ?_
        rintro e w6 ⟨rfl, hs6, ho6, hl6⟩
        have S6 := Lib.hid (Hcell.out w6 hl6)
        have HS6 := Lib.hid hs6
        have Hl6 := Lib.hid hl6
        clear hs6 ho6 hl6
        dsimp only
        refine hK.out _ _ (S6.out) (fun _ => ?_)
        clear hK K
        try go_frame
        refine' wpAnyH_take (i := 13) (oi := ⟨some 55, .binOp .eql 24 (.tmp 54) (.const (.int .i64 0)) 24, _, _, _, none⟩) (v := _) rfl (by kernel_rfl) (by kernel_rfl) (by kernel_rfl) (fun _ _ _ h => h) (Or.inl ⟨by rfl, ?hy12⟩) (by assumption) ?rest12
        case hy12 => (intro w hSw; obtain ⟨s1, s2⟩ := hSw; go_simp <;> with_reducible rfl)
        case rest12 =>
        go_frame
        refine' wpAnyH_take (i := 14) (oi := ⟨some 56, .move (.tmp 55), _, _, _, none⟩) (v := _) rfl (by kernel_rfl) (by kernel_rfl) (by kernel_rfl) (fun _ _ _ h => h) (Or.inl ⟨by rfl, ?hy13⟩) (by assumption) ?rest13
        case hy13 => (intro w hSw; obtain ⟨s1, s2⟩ := hSw; go_simp <;> with_reducible rfl)
        case rest13 =>
        go_frame
        refine' wpAnyH_take (i := 15) (oi := ⟨some 57, .move (.tmp 0), _, _, _, some (14, true)⟩) (v := _) rfl (by kernel_rfl) (by kernel_rfl) (by kernel_rfl) (fun _ _ _ h => h) (Or.inl ⟨by rfl, ?hy14⟩) (by assumption) ?rest14
        case hy14 => (intro w hSw; obtain ⟨s1, s2⟩ := hSw; go_simp <;> with_reducible rfl)
        case rest14 =>
        go_frame
        refine' wpAnyH_take (i := 16) (oi := ⟨some 58, .move (.tmp 8), _, _, _, some (14, true)⟩) (v := _) rfl (by kernel_rfl) (by kernel_rfl) (by kernel_rfl) (fun _ _ _ h => h) (Or.inl ⟨by rfl, ?hy15⟩) (by assumption) ?rest15
        case hy15 => (intro w hSw; obtain ⟨s1, s2⟩ := hSw; go_simp <;> with_reducible rfl)
        case rest15 =>
        go_frame
        refine' wpAnyH_take (i := 17) (oi := ⟨some 59, .indexAddr 22 (.tmp 57) (.tmp 58), _, _, _, some (14, true)⟩) (v := _) rfl (by kernel_rfl) (by kernel_rfl) (by kernel_rfl) (fun _ _ _ h => h) (Or.inl ⟨by rfl, ?hy16⟩) (by assumption) ?rest16
        case hy16 => (intro w hSw; obtain ⟨s1, s2⟩ := hSw; go_simp <;> with_reducible rfl)
        case rest16 =>
        go_frame
        refine' wpAnyH_take (i := 18) (oi := ⟨some 60, .fieldAddr 37 (.tmp 59) 1, _, _, _, some (14, true)⟩) (v := _) rfl (by kernel_rfl) (by kernel_rfl) (by kernel_rfl) (fun _ _ _ h => h) (Or.inl ⟨by rfl, ?hy17⟩) (by assumption) ?rest17
        case hy17 => (intro w hSw; obtain ⟨s1, s2⟩ := hSw; go_simp <;> with_reducible rfl)
        case rest17 =>
        go_frame
        refine' wpAnyH_take (i := 19) (oi := ⟨some 61, .load 3 (.tmp 60), _, _, _, some (14, true)⟩) (v := _) rfl (by kernel_rfl) (by kernel_rfl) (by kernel_rfl) (fun _ _ _ h => h) (Or.inl ⟨by rfl, ?hy18⟩) (by assumption) ?rest18
        case hy18 => (intro w hSw; obtain ⟨s1, s2⟩ := hSw; go_simp <;> with_reducible rfl)
        case rest18 =>
        go_frame
        refine' wpAnyH_take (i := 20) (oi := ⟨some 62, .binOp .geq 3 (.tmp 61) (.const (.int .i64 0)) 3, _, _, _, some (14, true)⟩) (v := _) rfl (by kernel_rfl) (by kernel_rfl) (by kernel_rfl) (fun _ _ _ h => h) (Or.inl ⟨by rfl, ?hy19⟩) (by assumption) ?rest19
        case hy19 => (intro w hSw; obtain ⟨s1, s2⟩ := hSw; go_simp <;> with_reducible rfl)
        case rest19 =>
        go_frame
        refine' wpAnyH_take (i := 21) (oi := ⟨some 63, .pick (.tmp 56) (.tmp 62) (.const (.bool false)), _, _, _, none⟩) (v := _) rfl (by kernel_rfl) (by kernel_rfl) (by kernel_rfl) (fun _ _ _ h => h) (Or.inl ⟨by rfl, ?hy20⟩) (by assumption) ?rest20
        case hy20 => (intro w hSw; obtain ⟨s1, s2⟩ := hSw; go_simp <;> with_reducible rfl)
        case rest20 =>
        go_frame
        refine' wpAnyH_take (i := 22) (oi := ⟨some 64, .move (.tmp 63), _, _, _, none⟩) (v := _) rfl (by kernel_rfl) (by kernel_rfl) (by kernel_rfl) (fun _ _ _ h => h) (Or.inl ⟨by rfl, ?hy21⟩) (by assumption) ?rest21
        case hy21 => (intro w hSw; obtain ⟨s1, s2⟩ := hSw; go_simp <;> with_reducible rfl)
        case rest21 =>
        go_frame
        refine' wpAnyH_take (i := 23) (oi := ⟨some 65, .move (.tmp 0), _, _, _, some (22, true)⟩) (v := _) rfl (by kernel_rfl) (by kernel_rfl) (by kernel_rfl) (fun _ _ _ h => h) (Or.inl ⟨by rfl, ?hy22⟩) (by assumption) ?rest22
        case hy22 => (intro w hSw; obtain ⟨s1, s2⟩ := hSw; go_simp <;> with_reducible rfl)
        case rest22 =>
        go_frame
        refine' wpAnyH_take (i := 24) (oi := ⟨some 66, .move (.tmp 8), _, _, _, some (22, true)⟩) (v := _) rfl (by kernel_rfl) (by kernel_rfl) (by kernel_rfl) (fun _ _ _ h => h) (Or.inl ⟨by rfl, ?hy23⟩) (by assumption) ?rest23
        case hy23 => (intro w hSw; obtain ⟨s1, s2⟩ := hSw; go_simp <;> with_reducible rfl)
        case rest23 =>
        go_frame
        refine' wpAnyH_take (i := 25) (oi := ⟨some 67, .indexAddr 22 (.tmp 65) (.tmp 66), _, _, _, some (22, true)⟩) (v := _) rfl (by kernel_rfl) (by kernel_rfl) (by kernel_rfl) (fun _ _ _ h => h) (Or.inl ⟨by rfl, ?hy24⟩) (by assumption) ?rest24
        case hy24 => (intro w hSw; obtain ⟨s1, s2⟩ := hSw; go_simp <;> with_reducible rfl)
        case rest24 =>
        go_frame
        refine' wpAnyH_take (i := 26) (oi := ⟨some 68, .fieldAddr 37 (.tmp 67) 1, _, _, _, some (22, true)⟩) (v := _) rfl (by kernel_rfl) (by kernel_rfl) (by kernel_rfl) (fun _ _ _ h => h) (Or.inl ⟨by rfl, ?hy25⟩) (by assumption) ?rest25
        case hy25 => (intro w hSw; obtain ⟨s1, s2⟩ := hSw; go_simp <;> with_reducible rfl)
        case rest25 =>
        go_frame
        refine' wpAnyH_take (i := 27) (oi := ⟨some 69, .load 3 (.tmp 68), _, _, _, some (22, true)⟩) (v := _) rfl (by kernel_rfl) (by kernel_rfl) (by kernel_rfl) (fun _ _ _ h => h) (Or.inl ⟨by rfl, ?hy26⟩) (by assumption) ?rest26
        case hy26 => (intro w hSw; obtain ⟨s1, s2⟩ := hSw; go_simp <;> with_reducible rfl)
        case rest26 =>
        go_frame
        refine' wpAnyH_take (i := 28) (oi := ⟨some 70, .binOp .lss 3 (.tmp 69) (.const (.int .i64 24)) 3, _, _, _, some (22, true)⟩) (v := _) rfl (by kernel_rfl) (by kernel_rfl) (by kernel_rfl) (fun _ _ _ h => h) (Or.inl ⟨by rfl, ?hy27⟩) (by assumption) ?rest27
        case hy27 => (intro w hSw; obtain ⟨s1, s2⟩ := hSw; go_simp <;> with_reducible rfl)
        case rest27 =>
        go_frame
        refine' wpAnyH_take (i := 29) (oi := ⟨some 71, .pick (.tmp 64) (.tmp 70) (.const (.bool false)), _, _, _, none⟩) (v := _) rfl (by kernel_rfl) (by kernel_rfl) (by kernel_rfl) (fun _ _ _ h => h) (Or.inl ⟨by rfl, ?hy28⟩) (by assumption) ?rest28
        case hy28 => (intro w hSw; obtain ⟨s1, s2⟩ := hSw; go_simp <;> with_reducible rfl)
        case rest28 =>
        go_frame
        refine wpAnyH_done (by kernel_rfl) ?_ _
        obtain ⟨z1, z2⟩ := S6.out
        have zc : w6.cell? ⟨g, m, none⟩ = some (.int .u8 ((hs.getD m 0).toNat : Int)) := by
          obtain ⟨xg, dg, hTg⟩ := HS6.out
          exact hTg.cell Hm.out
        have zf : w6.frozen? ⟨g, m, none⟩ = false := by
          obtain ⟨xg, dg, hTg⟩ := HS6.out
          exact hTg.free _
        have HS7 : Hid (∃ hs x d, Thr w (w6.setCell ⟨g, m, none⟩ (.int .u8 (by_.toNat : Int))).drew (fun _ => False) g c bf p hs (ofBytes hs) (20 * (k + 1)) x d) := Lib.hid (by
          obtain ⟨xg, dg, hTg⟩ := HS6.out
          exact ⟨_, xg, dg, ((hTg.stored Hm.out).more (Below.refl _ _).drew fun _ => .inl).le (by omega)⟩)
        go_wp2_with fail
        go_still_tail 11, (by kernel_rfl)
        go_wp2_with fail
        go_roundw
        case rel => exact ⟨k + 1, by omega, by omega, by go_num, HS7⟩
        case measure => simp [intOf]; omega
      · have Hm := Lib.hid hr
        clear hr
        go_wp2_with fail
        refine wp_region_held_drew (S := fun w' : World => w'.cell? ⟨b, o + k * 3 + 1, none⟩ = some (.int .i64 no) ∧ w'.cell? ⟨b, o + k * 3 + 2, none⟩ = some (.int .u8 (by_.toNat : Int))) (by kernel_rfl) (Hcell.out wr Hlow.out) (fun hHeld => ?_)
        refine' wpAnyH_take (i := 0) (oi := ⟨some 42, .move (.tmp 5), _, _, _, none⟩) (v := _) rfl (by kernel_rfl) (by kernel_rfl) (by kernel_rfl) (fun _ _ _ h => h) (Or.inl ⟨by rfl, ?hy29⟩) (by assumption) ?rest29
        case hy29 => (intro w hSw; obtain ⟨s1, s2⟩ := hSw; go_simp <;> with_reducible rfl)
        case rest29 =>
        go_frame
        refine' wpAnyH_take (i := 1) (oi := ⟨some 43, .move (.tmp 0), _, _, _, none⟩) (v := _) rfl (by kernel_rfl) (by kernel_rfl) (by kernel_rfl) (fun _ _ _ h => h) (Or.inl ⟨by rfl, ?hy30⟩) (by assumption) ?rest30
        case hy30 => (intro w hSw; obtain ⟨s1, s2⟩ := hSw; go_simp <;> with_reducible rfl)
        case rest30 =>
        go_frame
        refine' wpAnyH_take (i := 2) (oi := ⟨some 44, .move (.tmp 8), _, _, _, none⟩) (v := _) rfl (by kernel_rfl) (by kernel_rfl) (by kernel_rfl) (fun _ _ _ h => h) (Or.inl ⟨by rfl, ?hy31⟩) (by assumption) ?rest31
        case hy31 => (intro w hSw; obtain ⟨s1, s2⟩ := hSw; go_simp <;> with_reducible rfl)
        case rest31 =>
        go_frame
        refine' wpAnyH_take (i := 3) (oi := ⟨some 45, .indexAddr 22 (.tmp 43) (.tmp 44), _, _, _, none⟩) (v := _) rfl (by kernel_rfl) (by kernel_rfl) (by kernel_rfl) (fun _ _ _ h => h) (Or.inl ⟨by rfl, ?hy32⟩) (by assumption) ?rest32
        case hy32 => (intro w hSw; obtain ⟨s1, s2⟩ := hSw; go_simp <;> with_reducible rfl)
        case rest32 =>
        go_frame
        refine' wpAnyH_take (i := 4) (oi := ⟨some 46, .fieldAddr 37 (.tmp 45) 1, _, _, _, none⟩) (v := _) rfl (by kernel_rfl) (by kernel_rfl) (by kernel_rfl) (fun _ _ _ h => h) (Or.inl ⟨by rfl, ?hy33⟩) (by assumption) ?rest33
        case hy33 => (intro w hSw; obtain ⟨s1, s2⟩ := hSw; go_simp <;> with_reducible rfl)
        case rest33 =>
        go_frame
        refine' wpAnyH_take (i := 5) (oi := ⟨some 47, .load 3 (.tmp 46), _, _, _, none⟩) (v := _) rfl (by kernel_rfl) (by kernel_rfl) (by kernel_rfl) (fun _ _ _ h => h) (Or.inl ⟨by rfl, ?hy34⟩) (by assumption) ?rest34
        case hy34 => (intro w hSw; obtain ⟨s1, s2⟩ := hSw; go_simp <;> with_reducible rfl)
        case rest34 =>
        go_frame
        refine' wpAnyH_take (i := 6) (oi := ⟨some 48, .move (.tmp 0), _, _, _, none⟩) (v := _) rfl (by kernel_rfl) (by kernel_rfl) (by kernel_rfl) (fun _ _ _ h => h) (Or.inl ⟨by rfl, ?hy35⟩) (by assumption) ?rest35
        case hy35 => (intro w hSw; obtain ⟨s1, s2⟩ := hSw; go_simp <;> with_reducible rfl)
        case rest35 =>
        go_frame
        refine' wpAnyH_take (i := 7) (oi := ⟨some 49, .move (.tmp 8), _, _, _, none⟩) (v := _) rfl (by kernel_rfl) (by kernel_rfl) (by kernel_rfl) (fun _ _ _ h => h) (Or.inl ⟨by rfl, ?hy36⟩) (by assumption) ?rest36
        case hy36 => (intro w hSw; obtain ⟨s1, s2⟩ := hSw; go_simp <;> with_reducible rfl)
        case rest36 =>
        go_frame
        refine' wpAnyH_take (i := 8) (oi := ⟨some 50, .indexAddr 22 (.tmp 48) (.tmp 49), _, _, _, none⟩) (v := _) rfl (by kernel_rfl) (by kernel_rfl) (by kernel_rfl) (fun _ _ _ h => h) (Or.inl ⟨by rfl, ?hy37⟩) (by assumption) ?rest37
        case hy37 => (intro w hSw; obtain ⟨s1, s2⟩ := hSw; go_simp <;> with_reducible rfl)
        case rest37 =>
        go_frame
        refine' wpAnyH_take (i := 9) (oi := ⟨some 51, .fieldAddr 37 (.tmp 50) 2, _, _, _, none⟩) (v := _) rfl (by kernel_rfl) (by kernel_rfl) (by kernel_rfl) (fun _ _ _ h => h) (Or.inl ⟨by rfl, ?hy38⟩) (by assumption) ?rest38
        case hy38 => (intro w hSw; obtain ⟨s1, s2⟩ := hSw; go_simp <;> with_reducible rfl)
        case rest38 =>
        go_frame
        refine' wpAnyH_take (i := 10) (oi := ⟨some 52, .load 5 (.tmp 51), _, _, _, none⟩) (v := _) rfl (by kernel_rfl) (by kernel_rfl) (by kernel_rfl) (fun _ _ _ h => h) (Or.inl ⟨by rfl, ?hy39⟩) (by assumption) ?rest39
        case hy39 => (intro w hSw; obtain ⟨s1, s2⟩ := hSw; go_simp <;> with_reducible rfl)
        case rest39 =>
        go_frame
        refine wpAnyH_ready (rs := [11]) (by kernel_rfl) (by simp) (AllReadyH.cons (o := ⟨some 53, .call { callee := .value (.func 23), args := #[.tmp 52], argTypes := #[5] }, _, _, _, none⟩) rfl (fun K hK => ?_) AllReadyH.nil)
        rw [if_pos (by rfl)]
        go_simp
        refine (Hfull.out _).mono ?_
        rintro e w5 ⟨g5, rfl, hg5, hh5, hb5⟩
        have hb5d : Below wr.heap.size wr w5 := (up_drew (Below.refl wr.heap.size wr)).trans hb5
        have S5 := Lib.hid (Hcell.out w5 (up Hlow.out hb5d))
        have Hg5 := Lib.hid hg5
        have Hh5 := Lib.hid hh5
        have Hb5 := Lib.hid hb5d
        clear hg5 hh5 hb5 hb5d
        dsimp only
        refine hK.out _ _ (S5.out) (fun _ => ?_)
        clear hK K
        try go_frame
        refine wpAnyH_ready (rs := [12]) (by kernel_rfl) (by simp) (AllReadyH.cons (o := ⟨some 54, .call { callee := .value (.func 22), args := #[.tmp 42, .tmp 47, .tmp 53], argTypes := #[27, 3, 51] }, _, _, _, none⟩) rfl (fun K hK => ?_) AllReadyH.nil)
        rw [if_pos (by rfl)]
        go_simp
        refine (HT.out.put_out (by omega) Hm.out Hb5.out Hg5.out (List.length_replicate) Hh5.out).mono ?_
        rintro e w6 ⟨rfl, hs6, ho6, hl6⟩
        have S6 := Lib.hid (Hcell.out w6 hl6)
        have HS6 := Lib.hid hs6
        have Hl6 := Lib.hid hl6
        clear hs6 ho6 hl6
        dsimp only
        refine hK.out _ _ (S6.out) (fun _ => ?_)
        clear hK K
        try go_frame
        refine' wpAnyH_take (i := 13) (oi := ⟨some 55, .binOp .eql 24 (.tmp 54) (.const (.int .i64 0)) 24, _, _, _, none⟩) (v := _) rfl (by kernel_rfl) (by kernel_rfl) (by kernel_rfl) (fun _ _ _ h => h) (Or.inl ⟨by rfl, ?hy40⟩) (by assumption) ?rest40
        case hy40 => (intro w hSw; obtain ⟨s1, s2⟩ := hSw; go_simp <;> with_reducible rfl)
        case rest40 =>
        go_frame
        refine' wpAnyH_take (i := 14) (oi := ⟨some 56, .move (.tmp 55), _, _, _, none⟩) (v := _) rfl (by kernel_rfl) (by kernel_rfl) (by kernel_rfl) (fun _ _ _ h => h) (Or.inl ⟨by rfl, ?hy41⟩) (by assumption) ?rest41
        case hy41 => (intro w hSw; obtain ⟨s1, s2⟩ := hSw; go_simp <;> with_reducible rfl)
        case rest41 =>
        go_frame
        refine' wpAnyH_take (i := 15) (oi := ⟨some 57, .move (.tmp 0), _, _, _, some (14, true)⟩) (v := undef) rfl (by kernel_rfl) (by kernel_rfl) (by kernel_rfl) (fun _ _ _ h => h) (Or.inr ⟨by rfl, rfl⟩) (by assumption) ?rest42
        case rest42 =>
        go_frame
        refine' wpAnyH_take (i := 16) (oi := ⟨some 58, .move (.tmp 8), _, _, _, some (14, true)⟩) (v := undef) rfl (by kernel_rfl) (by kernel_rfl) (by kernel_rfl) (fun _ _ _ h => h) (Or.inr ⟨by rfl, rfl⟩) (by assumption) ?rest43
        case rest43 =>
        go_frame
        refine' wpAnyH_take (i := 17) (oi := ⟨some 59, .indexAddr 22 (.tmp 57) (.tmp 58), _, _, _, some (14, true)⟩) (v := undef) rfl (by kernel_rfl) (by kernel_rfl) (by kernel_rfl) (fun _ _ _ h => h) (Or.inr ⟨by rfl, rfl⟩) (by assumption) ?rest44
        case rest44 =>
        go_frame
        refine' wpAnyH_take (i := 18) (oi := ⟨some 60, .fieldAddr 37 (.tmp 59) 1, _, _, _, some (14, true)⟩) (v := undef) rfl (by kernel_rfl) (by kernel_rfl) (by kernel_rfl) (fun _ _ _ h => h) (Or.inr ⟨by rfl, rfl⟩) (by assumption) ?rest45
        case rest45 =>
        go_frame
        refine' wpAnyH_take (i := 19) (oi := ⟨some 61, .load 3 (.tmp 60), _, _, _, some (14, true)⟩) (v := undef) rfl (by kernel_rfl) (by kernel_rfl) (by kernel_rfl) (fun _ _ _ h => h) (Or.inr ⟨by rfl, rfl⟩) (by assumption) ?rest46
        case rest46 =>
        go_frame
        refine' wpAnyH_take (i := 20) (oi := ⟨some 62, .binOp .geq 3 (.tmp 61) (.const (.int .i64 0)) 3, _, _, _, some (14, true)⟩) (v := undef) rfl (by kernel_rfl) (by kernel_rfl) (by kernel_rfl) (fun _ _ _ h => h) (Or.inr ⟨by rfl, rfl⟩) (by assumption) ?rest47
        case rest47 =>
        go_frame
        refine' wpAnyH_take (i := 21) (oi := ⟨some 63, .pick (.tmp 56) (.tmp 62) (.const (.bool false)), _, _, _, none⟩) (v := _) rfl (by kernel_rfl) (by kernel_rfl) (by kernel_rfl) (fun _ _ _ h => h) (Or.inl ⟨by rfl, ?hy48⟩) (by assumption) ?rest48
        case hy48 => (intro w hSw; obtain ⟨s1, s2⟩ := hSw; go_simp <;> with_reducible rfl)
        case rest48 =>
        go_frame
        refine' wpAnyH_take (i := 22) (oi := ⟨some 64, .move (.tmp 63), _, _, _, none⟩) (v := _) rfl (by kernel_rfl) (by kernel_rfl) (by kernel_rfl) (fun _ _ _ h => h) (Or.inl ⟨by rfl, ?hy49⟩) (by assumption) ?rest49
        case hy49 => (intro w hSw; obtain ⟨s1, s2⟩ := hSw; go_simp <;> with_reducible rfl)
        case rest49 =>
        go_frame
        refine' wpAnyH_take (i := 23) (oi := ⟨some 65, .move (.tmp 0), _, _, _, some (22, true)⟩) (v := undef) rfl (by kernel_rfl) (by kernel_rfl) (by kernel_rfl) (fun _ _ _ h => h) (Or.inr ⟨by rfl, rfl⟩) (by assumption) ?rest50
        case rest50 =>
        go_frame
        refine' wpAnyH_take (i := 24) (oi := ⟨some 66, .move (.tmp 8), _, _, _, some (22, true)⟩) (v := undef) rfl (by kernel_rfl) (by kernel_rfl) (by kernel_rfl) (fun _ _ _ h => h) (Or.inr ⟨by rfl, rfl⟩) (by assumption) ?rest51
        case rest51 =>
        go_frame
        refine' wpAnyH_take (i := 25) (oi := ⟨some 67, .indexAddr 22 (.tmp 65) (.tmp 66), _, _, _, some (22, true)⟩) (v := undef) rfl (by kernel_rfl) (by kernel_rfl) (by kernel_rfl) (fun _ _ _ h => h) (Or.inr ⟨by rfl, rfl⟩) (by assumption) ?rest52
        case rest52 =>
        go_frame
        refine' wpAnyH_take (i := 26) (oi := ⟨some 68, .fieldAddr 37 (.tmp 67) 1, _, _, _, some (22, true)⟩) (v := undef) rfl (by kernel_rfl) (by kernel_rfl) (by kernel_rfl) (fun _ _ _ h => h) (Or.inr ⟨by rfl, rfl⟩) (by assumption) ?rest53
        case rest53 =>
        go_frame
        refine' wpAnyH_take (i := 27) (oi := ⟨some 69, .load 3 (.tmp 68), _, _, _, some (22, true)⟩) (v := undef) rfl (by kernel_rfl) (by kernel_rfl) (by kernel_rfl) (fun _ _ _ h => h) (Or.inr ⟨by rfl, rfl⟩) (by assumption) ?rest54
        case rest54 =>
        go_frame
        refine' wpAnyH_take (i := 28) (oi := ⟨some 70, .binOp .lss 3 (.tmp 69) (.const (.int .i64 24)) 3, _, _, _, some (22, true)⟩) (v := undef) rfl (by kernel_rfl) (by kernel_rfl) (by kernel_rfl) (fun _ _ _ h => h) (Or.inr ⟨by rfl, rfl⟩) (by assumption) ?rest55
        case rest55 =>
        go_frame
        refine' wpAnyH_take (i := 29) (oi := ⟨some 71, .pick (.tmp 64) (.tmp 70) (.const (.bool false)), _, _, _, none⟩) (v := _) rfl (by kernel_rfl) (by kernel_rfl) (by kernel_rfl) (fun _ _ _ h => h) (Or.inl ⟨by rfl, ?hy56⟩) (by assumption) ?rest56
        case hy56 => (intro w hSw; obtain ⟨s1, s2⟩ := hSw; go_simp <;> with_reducible rfl)
        case rest56 =>
        go_frame
        refine wpAnyH_done (by kernel_rfl) ?_ _
        have HS7 : Hid (∃ hs x d, Thr w w6 (fun _ => False) g c bf p hs (ofBytes hs) (20 * (k + 1)) x d) := Lib.hid (by
          obtain ⟨xg, dg, hTg⟩ := HS6.out
          exact ⟨_, xg, dg, hTg.le (by omega)⟩)
        go_wp2_with fail
        go_roundw
        case rel => exact ⟨k + 1, by omega, by omega, by go_num, HS7⟩
        case measure => simp [intOf]; omega
    · have hexit : n ≤ k ∨ (k < n ∧ 60 ≤ k) := by omega
      have HT := Lib.hid hT
      clear hT hlow hkn hgo HS
      rcases hexit with d0 | ⟨d0, d1⟩
      all_goals
        go_wp2_with (first
          | (go_at_call 24; refine (HT.out.sync (by omega)).mono ?_; rintro e w3 ⟨rfl, hs3, ho3, hl3⟩; obtain ⟨x3, d3, t1, t2, t3, t4⟩ := hs3; have HT3 := Lib.hid t1; have HD3 := Lib.hid (t1.dirty t2); have HL3 := Lib.hid t3; clear ho3 hl3 t1 t2 t3 t4)
          | (go_at_call 17; refine HD3.out.mono ?_; rintro e w4 ⟨A4, cc4, rfl, hb4⟩; have HT4 : Hid (Thr w w4 (fun _ => False) g c bf p hs (ofBytes hs) (20 * k + 8) x3 d3) := Lib.hid (HT3.out.more hb4 fun _ => .inl); clear hb4)
          | (go_at_call 26; refine (HT4.out.crash (by omega) HL3.out).mono ?_; rintro e w5 ⟨rfl, hs5, hl5⟩; obtain ⟨d5, t5, t6⟩ := hs5; have HT5 := Lib.hid t5; have HN5 := Lib.hid t6; clear hl5 t5 t6))
        go_loopw [9] (fun iv wr => ∃ (j : Nat), j ≤ 24 ∧ iv = .int .i64 (j : Int) ∧ Hid (Thr w wr (fun _ => False) g c bf p hs (ofBytes hs) (20 * k + 8) x3 d5)) (fun iv _ => 24 - (intOf iv).toNat)
        case atStart => exact ⟨0, by omega, rfl, HT5⟩
        case round =>
          obtain ⟨j, hj24, rfl, HTj⟩ := hrel
          by_cases hj : j < 24
          · have Hread := Lib.hid (HTj.out.read (by omega) hj (HN5.out j hj))
            obtain ⟨b8, hb8⟩ : ∃ b8, b8 = hs.getD j 0 := ⟨_, rfl⟩
            obtain ⟨l8, hl8⟩ : ∃ l8, l8 = ofBytes hs j := ⟨_, rfl⟩
            have hl8' : l8 = List.replicate 256 b8 := by rw [hl8, hb8]; rfl
            rw [← hl8] at Hread
            have Hl8 := Lib.hid (show l8.length = 256 by rw [hl8']; exact List.length_replicate)
            have Hfull8 : Hid (∀ w, Calls Try.prog 23 #[.int .u8 (b8.toNat : Int)] w fun e w' => ∃ g, e = .returned (.slice (some ⟨g, 0, none⟩) 256 256) ∧ w.heap.size ≤ g ∧ w'.heap[g]? = some (.cells (cellsB l8).toArray 5 (0, 0)) ∧ Below w.heap.size w w') := Lib.hid (by rw [hl8']; exact cfull_any b8)
            have Hb8 := Lib.hid hb8
            have Hj := Lib.hid hj
            have j0 : (0 : Int) ≤ (j : Int) := by omega
            have j1 : (j : Int) < 24 := by omega
            have j2 : (j : Int).toNat = j := by omega
            clear hb8 hl8 hl8' HTj
            go_wp2_with (first
              | (go_at_call 20; refine Hread.out.mono ?_; rintro e w8 ⟨g8, rfl, hr8, ht8, hl8⟩; have Hr8 := Lib.hid hr8; have HT8 := Lib.hid ht8; clear hr8 ht8 hl8))
            have HS8b : Hid (∀ (w' : World), Below w8.heap.size w8 w' → w'.cell? ⟨g, j, none⟩ = some (.int .u8 (b8.toNat : Int))) := Lib.hid fun w' hb => by
              rw [Hb8.out]
              exact (hb.cell (p := ⟨g, j, none⟩) (Array.getElem?_eq_some_iff.1 HT8.out.arr).1).trans (HT8.out.cell Hj.out)
            have S8 := Lib.hid (HS8b.out w8 (Below.refl _ _))
            have Hnext : Hid (∀ (w' : World), Below w8.heap.size w8 w' → Thr w w' (fun _ => False) g c bf p hs (ofBytes hs) (20 * k + 8) x3 d5) := Lib.hid fun w' hb => HT8.out.more hb fun _ => .inl
            have He0 := Lib.hid (string_of (P := Try.prog) 51 9 5 Try.underlying51 Try.underlying5 Try.underlying9 Hr8.out (up_drew (Below.refl w8.heap.size w8)))
            refine wp_region_held_drew (S := fun w' : World => w'.cell? ⟨g, j, none⟩ = some (.int .u8 (b8.toNat : Int))) (by kernel_rfl) S8.out (fun hHeld => ?_)
            refine' wpAnyH_take (i := 0) (oi := ⟨some 104, .move (.tmp 10), _, _, _, none⟩) (v := _) rfl (by kernel_rfl) (by kernel_rfl) (by kernel_rfl) (fun _ _ _ h => h) (Or.inl ⟨by rfl, ?hy57⟩) (by assumption) ?rest57
            case hy57 => (intro w hSw; obtain s1 := hSw; go_simp <;> with_reducible rfl)
            case rest57 =>
            go_frame
            refine' wpAnyH_take (i := 2) (oi := ⟨some 106, .move (.tmp 9), _, _, _, none⟩) (v := _) rfl (by kernel_rfl) (by kernel_rfl) (by kernel_rfl) (fun _ _ _ h => h) (Or.inl ⟨by rfl, ?hy58⟩) (by assumption) ?rest58
            case hy58 => (intro w hSw; obtain s1 := hSw; go_simp <;> with_reducible rfl)
            case rest58 =>
            go_frame
            refine' wpAnyH_take (i := 3) (oi := ⟨some 107, .indexAddr 56 (.tmp 7) (.tmp 106), _, _, _, none⟩) (v := _) rfl (by kernel_rfl) (by kernel_rfl) (by kernel_rfl) (fun _ _ _ h => h) (Or.inl ⟨by rfl, ?hy59⟩) (by assumption) ?rest59
            case hy59 => (intro w hSw; obtain s1 := hSw; go_simp <;> with_reducible rfl)
            case rest59 =>
            go_frame
            refine' wpAnyH_take (i := 4) (oi := ⟨some 108, .load 5 (.tmp 107), _, _, _, none⟩) (v := _) rfl (by kernel_rfl) (by kernel_rfl) (by kernel_rfl) (fun _ _ _ h => h) (Or.inl ⟨by rfl, ?hy60⟩) (by assumption) ?rest60
            case hy60 => (intro w hSw; obtain s1 := hSw; go_simp <;> with_reducible rfl)
            case rest60 =>
            go_frame
            refine wpAnyH_ready (rs := [1, 5]) (by kernel_rfl) (by simp) (AllReadyH.cons (o := ⟨some 105, .convert 51 9 (.tmp 104), _, _, _, none⟩) rfl (fun K hK => ?_) (AllReadyH.cons (o := ⟨some 109, .call { callee := .value (.func 23), args := #[.tmp 108], argTypes := #[5] }, _, _, _, none⟩) rfl (fun K hK => ?_) AllReadyH.nil))
            · rw [if_pos (by rfl)]
              refine wp_run (.string ⟨l8.toArray⟩) w8.drew (exec_conv (s := 51) (t := 9) (x := .tmp 104) rfl (v := .slice (some ⟨g8, 0, none⟩) 256 256) rfl He0.out) ?_
              refine hK.out _ _ (S8.out) (fun _ => ?_)
              clear hK K
              try go_frame
              refine wpAnyH_ready (rs := [5]) (by kernel_rfl) (by simp) (AllReadyH.cons (o := ⟨some 109, .call { callee := .value (.func 23), args := #[.tmp 108], argTypes := #[5] }, _, _, _, none⟩) rfl (fun K hK => ?_) AllReadyH.nil)
              rw [if_pos (by rfl)]
              go_simp
              refine (Hfull8.out _).mono ?_
              rintro e w9 ⟨g9, rfl, hg9, hh9, hb9⟩
              have hb9d : Below w8.heap.size w8 w9 := (up_drew (Below.refl w8.heap.size w8)).trans hb9
              have He1 := Lib.hid (string_of (P := Try.prog) 51 9 5 Try.underlying51 Try.underlying5 Try.underlying9 Hr8.out hb9d)
              have Hs9 := Lib.hid (string_of (P := Try.prog) 51 9 5 Try.underlying51 Try.underlying5 Try.underlying9 (rd_whole hh9 Hl8.out) (Below.refl _ _))
              have S9 := Lib.hid (HS8b.out w9 hb9d)
              have Hb9 := Lib.hid hb9d
              clear hg9 hh9 hb9 hb9d
              dsimp only
              refine hK.out _ _ (S9.out) (fun _ => ?_)
              clear hK K
              try go_frame
              refine wpAnyH_ready (rs := [6]) (by kernel_rfl) (by simp) (AllReadyH.cons (o := ⟨some 110, .convert 51 9 (.tmp 109), _, _, _, none⟩) rfl (fun K hK => ?_) AllReadyH.nil)
              rw [if_pos (by rfl)]
              refine wp_run (.string ⟨l8.toArray⟩) w9 (exec_conv (s := 51) (t := 9) (x := .tmp 109) rfl (v := .slice (some ⟨g9, 0, none⟩) 256 256) rfl Hs9.out) ?_
              refine hK.out _ _ (S9.out) (fun _ => ?_)
              clear hK K
              try go_frame
              refine' wpAnyH_take (i := 7) (oi := ⟨some 111, .binOp .neq 9 (.tmp 105) (.tmp 110) 9, _, _, _, none⟩) (v := _) rfl (by kernel_rfl) (by kernel_rfl) (by kernel_rfl) (fun _ _ _ h => h) (Or.inl ⟨by rfl, ?hy61⟩) (by assumption) ?rest61
              case hy61 => (intro w hSw; obtain s1 := hSw; go_simp <;> with_reducible rfl)
              case rest61 =>
              go_frame
              refine wpAnyH_done (by kernel_rfl) ?_ _
              go_wp2_with fail
              go_roundw
              case rel => exact ⟨j + 1, by omega, by go_num, Lib.hid (Hnext.out w9 Hb9.out)⟩
              case measure => simp [intOf]; omega
            · rw [if_pos (by rfl)]
              go_simp
              refine (Hfull8.out _).mono ?_
              rintro e w9 ⟨g9, rfl, hg9, hh9, hb9⟩
              have hb9d : Below w8.heap.size w8 w9 := (up_drew (Below.refl w8.heap.size w8)).trans hb9
              have He1 := Lib.hid (string_of (P := Try.prog) 51 9 5 Try.underlying51 Try.underlying5 Try.underlying9 Hr8.out hb9d)
              have Hs9 := Lib.hid (string_of (P := Try.prog) 51 9 5 Try.underlying51 Try.underlying5 Try.underlying9 (rd_whole hh9 Hl8.out) (Below.refl _ _))
              have S9 := Lib.hid (HS8b.out w9 hb9d)
              have Hb9 := Lib.hid hb9d
              clear hg9 hh9 hb9 hb9d
              dsimp only
              refine hK.out _ _ (S9.out) (fun _ => ?_)
              clear hK K
              try go_frame
              refine wpAnyH_ready (rs := [1, 6]) (by kernel_rfl) (by simp) (AllReadyH.cons (o := ⟨some 105, .convert 51 9 (.tmp 104), _, _, _, none⟩) rfl (fun K hK => ?_) (AllReadyH.cons (o := ⟨some 110, .convert 51 9 (.tmp 109), _, _, _, none⟩) rfl (fun K hK => ?_) AllReadyH.nil))
              · rw [if_pos (by rfl)]
                refine wp_run (.string ⟨l8.toArray⟩) w9 (exec_conv (s := 51) (t := 9) (x := .tmp 104) rfl (v := .slice (some ⟨g8, 0, none⟩) 256 256) rfl He1.out) ?_
                refine hK.out _ _ (S9.out) (fun _ => ?_)
                clear hK K
                try go_frame
                refine wpAnyH_ready (rs := [6]) (by kernel_rfl) (by simp) (AllReadyH.cons (o := ⟨some 110, .convert 51 9 (.tmp 109), _, _, _, none⟩) rfl (fun K hK => ?_) AllReadyH.nil)
                rw [if_pos (by rfl)]
                refine wp_run (.string ⟨l8.toArray⟩) w9 (exec_conv (s := 51) (t := 9) (x := .tmp 109) rfl (v := .slice (some ⟨g9, 0, none⟩) 256 256) rfl Hs9.out) ?_
                refine hK.out _ _ (S9.out) (fun _ => ?_)
                clear hK K
                try go_frame
                refine' wpAnyH_take (i := 7) (oi := ⟨some 111, .binOp .neq 9 (.tmp 105) (.tmp 110) 9, _, _, _, none⟩) (v := _) rfl (by kernel_rfl) (by kernel_rfl) (by kernel_rfl) (fun _ _ _ h => h) (Or.inl ⟨by rfl, ?hy62⟩) (by assumption) ?rest62
                case hy62 => (intro w hSw; obtain s1 := hSw; go_simp <;> with_reducible rfl)
                case rest62 =>
                go_frame
                refine wpAnyH_done (by kernel_rfl) ?_ _
                go_wp2_with fail
                go_roundw
                case rel => exact ⟨j + 1, by omega, by go_num, Lib.hid (Hnext.out w9 Hb9.out)⟩
                case measure => simp [intOf]; omega
              · rw [if_pos (by rfl)]
                refine wp_run (.string ⟨l8.toArray⟩) w9 (exec_conv (s := 51) (t := 9) (x := .tmp 109) rfl (v := .slice (some ⟨g9, 0, none⟩) 256 256) rfl Hs9.out) ?_
                refine hK.out _ _ (S9.out) (fun _ => ?_)
                clear hK K
                try go_frame
                refine wpAnyH_ready (rs := [1]) (by kernel_rfl) (by simp) (AllReadyH.cons (o := ⟨some 105, .convert 51 9 (.tmp 104), _, _, _, none⟩) rfl (fun K hK => ?_) AllReadyH.nil)
                rw [if_pos (by rfl)]
                refine wp_run (.string ⟨l8.toArray⟩) w9 (exec_conv (s := 51) (t := 9) (x := .tmp 104) rfl (v := .slice (some ⟨g8, 0, none⟩) 256 256) rfl He1.out) ?_
                refine hK.out _ _ (S9.out) (fun _ => ?_)
                clear hK K
                try go_frame
                refine' wpAnyH_take (i := 7) (oi := ⟨some 111, .binOp .neq 9 (.tmp 105) (.tmp 110) 9, _, _, _, none⟩) (v := _) rfl (by kernel_rfl) (by kernel_rfl) (by kernel_rfl) (fun _ _ _ h => h) (Or.inl ⟨by rfl, ?hy63⟩) (by assumption) ?rest63
                case hy63 => (intro w hSw; obtain s1 := hSw; go_simp <;> with_reducible rfl)
                case rest63 =>
                go_frame
                refine wpAnyH_done (by kernel_rfl) ?_ _
                go_wp2_with fail
                go_roundw
                case rel => exact ⟨j + 1, by omega, by go_num, Lib.hid (Hnext.out w9 Hb9.out)⟩
                case measure => simp [intOf]; omega
          · have e24 : 24 ≤ j := by omega
            have hly := Lib.hid (clives_any wr)
            have Hlow := Lib.hid HTj.out.lw.low
            clear hj24 hj
            go_wp2_with (go_at_call 10; refine hly.out.mono ?_; rintro e w6 ⟨rfl, hb6⟩)
            go_ret
            exact ⟨rfl, up Hlow.out hb6⟩
end Go.Proofs.Ytfjcblppmoomdaa
