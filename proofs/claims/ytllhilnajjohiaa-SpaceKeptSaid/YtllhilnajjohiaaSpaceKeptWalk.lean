/-
  The law SpaceKept, walked.
-/
import Derived.Test.YtllhilnajjohiaaSpJ
import Derived.Test.YtllhilnajjohiaaOpenActs2
namespace Go.Proofs.Ytllhilnajjohiaa
open Go.RowKit
theorem Spc.freeErr_out (x : Spc) {no : Int} (h : no < 0 ∨ (x.n : Int) ≤ no) : x.freeErr no = 1 ∧ x.freed no = x := by
  unfold Spc.freeErr Spc.freed
  rw [if_pos h, if_pos h]
  exact ⟨rfl, rfl⟩
theorem Spc.freeErr_none (x : Spc) {m : Nat} (hm : m < x.n) (h : x.now m = false) : x.freeErr (m : Int) = 6 ∧ x.freed (m : Int) = x := by
  have hb : ¬ ((m : Int) < 0 ∨ (x.n : Int) ≤ (m : Int)) := by omega
  unfold Spc.freeErr Spc.freed
  rw [if_neg hb, if_neg hb, show (m : Int).toNat = m by simp, h]
  exact ⟨rfl, rfl⟩
theorem Spc.freeErr_ok (x : Spc) {m : Nat} (hm : m < x.n) (h : x.now m = true) : x.freeErr (m : Int) = 0 ∧ x.freed (m : Int) = x.put m false := by
  have hb : ¬ ((m : Int) < 0 ∨ (x.n : Int) ≤ (m : Int)) := by omega
  unfold Spc.freeErr Spc.freed
  rw [if_neg hb, if_neg hb, show (m : Int).toNat = m by simp, h]
  exact ⟨rfl, rfl⟩
theorem held_false {x : Spc} {m : Nat} (h : x.held m = false) : x.sure m = false ∧ x.now m = false := by
  have h' : (x.now m || x.sure m) = false := h
  revert h'
  cases x.now m <;> cases x.sure m <;> simp
set_option maxHeartbeats 1000000 in
set_option maxRecDepth 100000 in
theorem spaceKept_walk (v : Value) (l : List Act2) (w : World) (h : Acts2 w v l) :
    Calls Try.prog 4 #[v] w fun e w' => e = .returned (.bool true) ∧ Below w.heap.size w w' := by
  obtain ⟨A, c, rfl, hlc, hcm, hact⟩ := h.at_
  have Hact := Lib.hid hact
  obtain ⟨n, hn⟩ : ∃ n, n = l.length := ⟨_, rfl⟩
  rw [← hn] at hlc ⊢
  have Hn := Lib.hid hn
  obtain ⟨Z, hZ, hz⟩ := zero_b60
  have hbd := build_b60
  obtain ⟨h3, e3⟩ : ∃ h3, h3 = below 3 := ⟨_, rfl⟩
  rw [← e3] at hbd
  have E3 := Lib.hid e3
  obtain ⟨C, hC⟩ : ∃ C, C = (boolC h3 60).toArray := ⟨_, rfl⟩
  rw [← hC] at hbd
  have HC := Lib.hid hC
  clear h hact hn e3 hC
  go_enter Try.func4, Try.ntmps4
  go_wp2_with (first
    | (go_at_call 7; refine (new_ok 60 3 (by omega) (by omega) (by omega)).mono ?_; rintro e w1 ⟨a, rfl, ha, h1, hb1⟩
       obtain ⟨wa, hra, wb, hrb, hK⟩ := KeptW.start hZ ha h1 hb1 h3 E3.out
       rw [← HC.out] at hra hrb
       have hrb' : (Instr.storeAt 37 (.pointer (some ⟨(w1.alloc (.cells Z.toArray 37)).heap.size, 0, none⟩)) (.agg C)).run Try.prog wa = .ok () wb := by
         rw [show (w1.alloc (.cells Z.toArray 37)).heap.size = w1.heap.size + 1 by simp]
         exact hrb
       have HK := Lib.hid hK
       clear ha h1 hb1 hK)
    | ((with_reducible refine wpList_run (o := ⟨some 20, .build 37 #[(0, _), (1, _), (2, _)], _, _, _, none⟩) rfl (.agg C) w1 ?_ ?_); exact exec_build3 (u1 := .bool true) (u2 := .bool true) (u3 := .bool true) (v := .agg C) rfl rfl rfl rfl (hbd w1))
    | ((with_reducible refine wpList_run (o := ⟨some 21, .build 37 #[(0, _), (1, _), (2, _)], _, _, _, none⟩) rfl (.agg C) w1 ?_ ?_); exact exec_build3 (u1 := .bool true) (u2 := .bool true) (u3 := .bool true) (v := .agg C) rfl rfl rfl rfl (hbd w1))
    | (with_reducible refine wpList_alloc_zero (o := ⟨some 5, .alloc 37, _, _, _, _⟩) rfl 37 rfl Z.toArray hz ?_)
    | (with_reducible refine wpList_alloc_zero (o := ⟨some 6, .alloc 37, _, _, _, _⟩) rfl 37 rfl Z.toArray hz ?_)
    | ((with_reducible refine wpList_stored (o := ⟨none, .store 37 (.tmp 5) (.tmp 20), _, _, _, none⟩) rfl 37 (.tmp 5) (.tmp 20) rfl (.pointer (some ⟨w1.heap.size, 0, none⟩)) (.agg C) ?_ ?_ wa hra ?_); exact rfl; exact rfl)
    | ((with_reducible refine wpList_stored (o := ⟨none, .store 37 (.tmp 6) (.tmp 21), _, _, _, none⟩) rfl 37 (.tmp 6) (.tmp 21) rfl (.pointer (some ⟨(w1.alloc (.cells Z.toArray 37)).heap.size, 0, none⟩)) (.agg C) ?_ ?_ wb hrb' ?_); exact rfl; exact rfl))
  have HK2 : Hid (KeptW w wb a w1.heap.size (w1.heap.size + 1) (Spc.new 60 3) (Spc.new 60 3).sure (Spc.new 60 3).now) := Lib.hid (by
    have := HK.out
    rw [E3.out] at this
    exact this)
  clear HK hra hrb hrb' hbd hz
  generalize w1.heap.size = sb at HK2 ⊢
  generalize hnb : sb + 1 = nb at HK2 ⊢
  clear hnb
  go_loopw [7] (fun iv wr => ∃ (k : Nat) (x : Spc), k ≤ n ∧ k ≤ 80 ∧ iv = .int .i64 (k : Int) ∧ Hid (KeptW w wr a sb nb x x.sure x.now)) (fun iv _ => n - (intOf iv).toNat)
  case atStart => exact ⟨0, _, by omega, by omega, rfl, HK2⟩
  case round =>
    clear HK2
    obtain ⟨k, x, hk, hk80, rfl, HK⟩ := hrel
    by_cases hgo : k < n ∧ k < 80
    · obtain ⟨hkn, hk8⟩ := hgo
      have hlt : k < l.length := by rw [← Hn.out]; exact hkn
      obtain ⟨b, o, rfl, hcell⟩ := Hact.out k hlt
      obtain ⟨kd, hkd⟩ : ∃ kd, kd = l[k].kind := ⟨_, rfl⟩
      obtain ⟨no, hno⟩ : ∃ no, no = l[k].no := ⟨_, rfl⟩
      rw [← hkd, ← hno] at hcell
      have Hc := Lib.hid hcell
      obtain ⟨c0, c1⟩ := hcell wr HK.out.below
      have h60 := HK.out.n60
      have k1 : decide ((k : Int) < 80) = true := by simp; omega
      clear hcell hkd hno hlt
      by_cases hk1 : kd = 1
      · subst hk1
        rcases page_or x.n no with ho | ⟨m, rfl, hm⟩
        · obtain ⟨e1, e2⟩ := x.freeErr_out ho
          have hf := Lib.hid (free_any HK.out.sp no)
          rw [e1, e2] at hf
          clear e1 e2 ho
          go_wp2_with (go_at_call 10; refine hf.out.mono ?_; rintro e w3 ⟨rfl, q1, q2⟩; have HK3 := Lib.hid (HK.out.space q1 h60 q2); clear q1 q2)
          go_roundw
          case rel => exact ⟨k + 1, x, by omega, by omega, by go_num, HK3⟩
          case measure => simp [intOf]; omega
        · rw [h60] at hm
          have hm' : m < x.n := by rw [h60]; exact hm
          cases hnow : x.now m
          · obtain ⟨e1, e2⟩ := x.freeErr_none hm' hnow
            have hf := Lib.hid (free_any HK.out.sp (m : Int))
            rw [e1, e2] at hf
            clear e1 e2 hm' hnow
            go_wp2_with (go_at_call 10; refine hf.out.mono ?_; rintro e w3 ⟨rfl, q1, q2⟩; have HK3 := Lib.hid (HK.out.space q1 h60 q2); clear q1 q2)
            go_roundw
            case rel => exact ⟨k + 1, x, by omega, by omega, by go_num, HK3⟩
            case measure => simp [intOf]; omega
          · obtain ⟨e1, e2⟩ := x.freeErr_ok hm' hnow
            have hf := Lib.hid (free_any HK.out.sp (m : Int))
            rw [e1, e2] at hf
            have m0 : (0 : Int) ≤ (m : Int) := by omega
            have m1 : (m : Int) < 60 := by omega
            have m2 : (m : Int).toNat = m := by simp
            have m3 : decide ((m : Int) < 0) = false := by simp
            have m4 : decide ((60 : Int) ≤ (m : Int)) = false := by simp; omega
            have Hnow := Lib.hid hnow
            clear e1 e2 hnow
            go_wp2_with (go_at_call 10; refine hf.out.mono ?_; rintro e w3 ⟨rfl, q1, q2⟩
                         have HK3 := Lib.hid (HK.out.space q1 h60 q2)
                         obtain ⟨c3, c4⟩ := Hc.out w3 HK3.out.below
                         have c5 := HK3.out.cN hm
                         rw [Hnow.out] at c5
                         have c6 := HK3.out.freeN m
                         clear q1 q2)
            have HK4 : Hid (KeptW w (w3.setCell ⟨nb, m, none⟩ (.bool false)) a sb nb (x.put m false) (x.put m false).sure (x.put m false).now) := Lib.hid (HK3.out.setN m false)
            go_roundw
            case rel => exact ⟨k + 1, _, by omega, by omega, by go_num, HK4⟩
            case measure => simp [intOf]; omega
      · have t1 : (kd == 1) = false := by simp; omega
        have t1' : decide (kd = 1) = false := by simp; omega
        by_cases hk2 : kd = 2
        · subst hk2
          have hf := Lib.hid (commit_any HK.out.sp)
          clear t1 t1' hk1
          go_wp2_with (first
            | (go_at_call 12; refine hf.out.mono ?_; rintro e w3 ⟨rfl, q1, q2⟩
               have HK3 := Lib.hid (HK.out.space q1 h60 q2)
               obtain ⟨w4, hr4, hK4⟩ := HK3.out.copyS
               have hr := HK3.out.rN
               have hi := info_boolC x.now
               have HK4 := Lib.hid hK4
               clear q1 q2 hK4)
            | ((with_reducible refine wpList_load_mid (op := ⟨some 106, .load 37 (.tmp 6), _, _, _, _⟩) rfl 37 (.tmp 6) rfl nb 0 ?_ (boolC x.now 60) (.array 60 4) hr Try.underlying37 rfl hi ?_); exact rfl)
            | ((with_reducible refine wpList_stored (o := ⟨none, .store 37 (.tmp 5) (.tmp 106), _, _, _, none⟩) rfl 37 (.tmp 5) (.tmp 106) rfl (.pointer (some ⟨sb, 0, none⟩)) (.agg (boolC x.now 60).toArray) ?_ ?_ w4 hr4 ?_); exact rfl; exact rfl))
          have HK5 : Hid (KeptW w w4 a sb nb x.commit x.commit.sure x.commit.now) := HK4
          clear hr hr4
          go_roundw
          case rel => exact ⟨k + 1, _, by omega, by omega, by go_num, HK5⟩
          case measure => simp [intOf]; omega
        · have t2 : (kd == 2) = false := by simp; omega
          have t2' : decide (kd = 2) = false := by simp; omega
          by_cases hk3 : kd = 3
          · subst hk3
            have hf := Lib.hid (abort_any HK.out.sp)
            clear t1 t1' hk1 t2 t2' hk2
            go_wp2_with (first
              | (go_at_call 14; refine hf.out.mono ?_; rintro e w3 ⟨rfl, q1, q2⟩
                 have HK3 := Lib.hid (HK.out.space q1 h60 q2)
                 obtain ⟨w4, hr4, hK4⟩ := HK3.out.copyN
                 have hr := HK3.out.rS
                 have hi := info_boolC x.sure
                 have HK4 := Lib.hid hK4
                 clear q1 q2 hK4)
              | ((with_reducible refine wpList_load_mid (op := ⟨some 111, .load 37 (.tmp 5), _, _, _, _⟩) rfl 37 (.tmp 5) rfl sb 0 ?_ (boolC x.sure 60) (.array 60 4) hr Try.underlying37 rfl hi ?_); exact rfl)
              | ((with_reducible refine wpList_stored (o := ⟨none, .store 37 (.tmp 6) (.tmp 111), _, _, _, none⟩) rfl 37 (.tmp 6) (.tmp 111) rfl (.pointer (some ⟨nb, 0, none⟩)) (.agg (boolC x.sure 60).toArray) ?_ ?_ w4 hr4 ?_); exact rfl; exact rfl))
            have HK5 : Hid (KeptW w w4 a sb nb x.abort x.abort.sure x.abort.now) := HK4
            clear hr hr4
            go_roundw
            case rel => exact ⟨k + 1, _, by omega, by omega, by go_num, HK5⟩
            case measure => simp [intOf]; omega
          · have t3 : (kd == 3) = false := by simp; omega
            have t3' : decide (kd = 3) = false := by simp; omega
            rcases least_or x.held x.n with ⟨m, hm, hl⟩ | hfull
            · have hf := Lib.hid (alloc_yes HK.out.sp hl hm)
              obtain ⟨f1, f2⟩ := held_false hl.at_
              rw [h60] at hm
              have m0 : (0 : Int) ≤ (m : Int) := by omega
              have m1 : (m : Int) < 60 := by omega
              have m2 : (m : Int).toNat = m := by simp
              have m3 : decide ((m : Int) < 0) = false := by simp
              have m4 : decide ((60 : Int) ≤ (m : Int)) = false := by simp; omega
              have F1 := Lib.hid f1
              have F2 := Lib.hid f2
              clear hl f1 f2
              go_wp2_with (go_at_call 16; refine hf.out.mono ?_; rintro e w3 ⟨rfl, q1, q2⟩
                           have HK3 := Lib.hid (HK.out.space q1 h60 q2)
                           have c5 := HK3.out.cN hm
                           rw [F2.out] at c5
                           have c7 := HK3.out.cS hm
                           rw [F1.out] at c7
                           have c6 := HK3.out.freeN m
                           clear q1 q2)
              have HK4 : Hid (KeptW w (w3.setCell ⟨nb, m, none⟩ (.bool true)) a sb nb (x.put m true) (x.put m true).sure (x.put m true).now) := Lib.hid (HK3.out.setN m true)
              go_roundw
              case rel => exact ⟨k + 1, _, by omega, by omega, by go_num, HK4⟩
              case measure => simp [intOf]; omega
            · have hf := Lib.hid (alloc_no HK.out.sp hfull)
              clear hfull
              go_wp2_with (go_at_call 16; refine hf.out.mono ?_; rintro e w3 ⟨rfl, q1, q2⟩; have HK3 := Lib.hid (HK.out.space q1 h60 q2); clear q1 q2)
              go_roundw
              case rel => exact ⟨k + 1, x, by omega, by omega, by go_num, HK3⟩
              case measure => simp [intOf]; omega
    · have hend : Hid (Below w.heap.size w wr) := Lib.hid HK.out.below
      by_cases hkn : k < n
      · have k1 : decide ((k : Int) < 80) = false := by simp; omega
        clear hgo
        go_wp2_with (go_at_call 8; refine (lives06_any _).mono ?_; rintro e w5 ⟨rfl, hb5⟩; have HI5 := Lib.hid (hend.out.trans (hb5.mono hend.out.size)); clear hb5)
        go_ret
        exact ⟨rfl, HI5.out⟩
      · have : k = n := by omega
        subst this
        clear hgo
        go_wp2_with (go_at_call 8; refine (lives06_any _).mono ?_; rintro e w5 ⟨rfl, hb5⟩; have HI5 := Lib.hid (hend.out.trans (hb5.mono hend.out.size)); clear hb5)
        go_ret
        exact ⟨rfl, HI5.out⟩
end Go.Proofs.Ytllhilnajjohiaa
