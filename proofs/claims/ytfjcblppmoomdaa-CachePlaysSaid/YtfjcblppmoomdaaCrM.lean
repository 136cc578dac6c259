/-
  The document's cache: Those, and Sync: contracts.
-/
import Derived.Test.YtfjcblppmoomdaaCrL
namespace Go.Proofs.Ytfjcblppmoomdaa
open Go.RowKit
section
variable {w w' : World} {E E' : Nat → Prop} {q r bf cap : Nat} {rest : List Value} {P : List (Frm × Value)} {x y : Cch} {d d' dy : Dev}
set_option maxRecDepth 100000 in
set_option maxHeartbeats 1600000 in
theorem rthose_any (h : CDR w E q r bf cap rest x d) {n : Nat} (hn : n = d.L.length) (hok : x.Ok n) (hs : n < 1000000) (dirty : Bool) :
    Calls Try.prog 16 #[at0 r, .bool dirty] w fun e w' => ∃ v, e = .returned v ∧ Mine w' w.heap.size 3 v (cellsE ((nos n).filter (keepQ x dirty))) ∧ Below w.heap.size w w' := by
  obtain ⟨ti, hi, hz0, hz1, hz2⟩ := info_parts cinfo_int
  have HF : Hid (∀ wr, Below w.heap.size w wr → (∃ A c, wr.cell? ⟨r, 0, none⟩ = some (at0 q) ∧ wr.cell? ⟨q, 0, none⟩ = some (.slice A n c) ∧ wr.cell? ⟨r, 1, none⟩ = some (.slice (some ⟨bf, 0, none⟩) x.L.length cap)) ∧
      ∀ (no : Int), Calls Try.prog 38 #[at0 r, .int .i64 no] wr (fun e w' => e = .returned (.int .i64 (atOf (x.holder no))) ∧ wr = w') ∧ ∀ i, x.holder no = some i → i < x.L.length ∧ x.L.length ≤ 64 ∧ wr.cell? ⟨bf, i * 5 + 2, none⟩ = some (.bool (x.fr i).dirty)) := Lib.hid fun wr hb => by
    have h' := h.below hb
    obtain ⟨A, c, c0⟩ := h'.sectors
    obtain ⟨k0, k1, _, _, _, _, hs2, _⟩ := h'.cells
    exact ⟨⟨A, c, k0, by rw [hn]; exact c0, k1⟩, fun no => ⟨h'.at_ hok no, fun i hi => ⟨(holder_lt hi).1, hs2, (h'.frame (holder_lt hi).1).2.2.1⟩⟩⟩
  clear h hok hn
  go_enter Try.func16, Try.ntmps16
  go_wp2_with fail
  go_loopw [5, 6] (fun ov iv wr => ∃ (k : Nat), k ≤ n ∧ iv = .int .i64 (k : Int) ∧ Mine wr w.heap.size 3 ov (cellsE ((nos k).filter (keepQ x dirty))) ∧ Below w.heap.size w wr) (fun _ iv _ => n - (intOf iv).toNat)
  case atStart => exact ⟨0, by omega, rfl, Mine.empty w _ 3 (Nat.le_refl _), (Below.refl _ _).alloc (Nat.le_refl _) _⟩
  case round =>
    obtain ⟨k, hkn, rfl, hown, hbel⟩ := hrel
    obtain ⟨⟨A, c, k0, c0, k1⟩, hA⟩ := HF.out wr hbel
    by_cases hk : k < n
    · obtain ⟨hA1, hA2⟩ := hA (k : Int)
      have hup : (nos (k + 1)).filter (keepQ x dirty) = (nos k).filter (keepQ x dirty) ++ if keepQ x dirty (k : Int) = true then [(k : Int)] else [] := by
        rw [nos_succ, List.filter_append, List.filter_cons]
        rfl
      have hlen : ((nos k).filter (keepQ x dirty)).length ≤ k := Nat.le_trans (List.length_filter_le _ _) (by rw [nos_length]; omega)
      have t0 : decide ((k : Int) < (n : Int)) = true := by simp [hk]
      obtain ⟨M, hM⟩ : ∃ M, M = cellsE ((nos k).filter (keepQ x dirty)) := ⟨_, rfl⟩
      have hMl : M.length ≤ k := by rw [hM, cellsE_length]; exact hlen
      rw [← hM] at hown
      have HM := Lib.hid hM
      have hs2 := hbel.size
      clear hlen hM hA
      rcases hh : x.holder (k : Int) with _ | i
      · rw [hh] at hA1
        rw [keepQ_none hh, if_neg (by simp), List.append_nil] at hup
        rw [show atOf none = -1 from rfl] at hA1
        have HA := Lib.hid hA1
        have Hup := Lib.hid hup
        clear hA1 hA2 hup hh
        go_wp2_with (first | (go_at_call 38; refine HA.out.mono ?_; rintro e w1 ⟨rfl, rfl⟩))
        go_roundw
        case rel => exact ⟨k + 1, by omega, by go_num, by rw [Hup.out, ← HM.out]; exact hown, hbel⟩
        case measure => simp [intOf]; omega
      · rw [hh] at hA1
        rw [show atOf (some i) = (i : Int) from rfl] at hA1
        obtain ⟨hil, hi64, c2⟩ := hA2 i hh
        rw [keepQ_some hh] at hup
        obtain ⟨n', hn'⟩ : ∃ n', n' = x.L.length := ⟨_, rfl⟩
        rw [← hn'] at k1 hil hi64
        have b0 : (0 : Int) ≤ (i : Int) := by omega
        have b1 : (i : Int) < (n' : Int) := by omega
        have b2 : ((i : Int)).toNat = i := by omega
        have t2 : decide (0 ≤ (i : Int)) = true := by simp
        obtain ⟨b, hb⟩ : ∃ b, b = (x.fr i).dirty := ⟨_, rfl⟩
        rw [← hb] at c2 hup
        have HA := Lib.hid hA1
        clear hA1 hA2 hh hn' hb
        by_cases hq : (b || !dirty) = true
        · rw [if_pos hq] at hup
          have Hup := Lib.hid hup
          clear hup
          rcases b with _ | _
          · rcases dirty with _ | _
            · clear hq
              go_wp2_with (first
                | (go_at_call 38; refine HA.out.mono ?_; rintro e w1 ⟨rfl, rfl⟩)
                | (at_builtin; refine wpList_append_rd rfl (.tmp 40) (.tmp 42) 39 rfl w.heap.size 3 ti _ 8 Try.underlying39 hi hz0 hz1 hz2 rfl _ M rfl (hown.alloc _) _ _ _ rfl (rd_single wr (.int .i64 (k : Int)) 3) (by simp [Value.oneCell']) (by simp; omega) (by unfold maxLen; simp; omega) (by simp; omega) ?_; intro v3 w3 hown3 hb3 _ _))
              go_roundw
              case rel =>
                refine ⟨k + 1, by omega, by go_num, ?_, (hbel.alloc hs2 _).trans hb3⟩
                rw [Hup.out]
                rw [HM.out] at hown3
                simpa [cellsE] using hown3
              case measure => simp [intOf]; omega
            · cases hq
          · clear hq
            rcases dirty with _ | _
            all_goals
              go_wp2_with (first
                | (go_at_call 38; refine HA.out.mono ?_; rintro e w1 ⟨rfl, rfl⟩)
                | (at_builtin; refine wpList_append_rd rfl (.tmp 40) (.tmp 42) 39 rfl w.heap.size 3 ti _ 8 Try.underlying39 hi hz0 hz1 hz2 rfl _ M rfl (hown.alloc _) _ _ _ rfl (rd_single wr (.int .i64 (k : Int)) 3) (by simp [Value.oneCell']) (by simp; omega) (by unfold maxLen; simp; omega) (by simp; omega) ?_; intro v3 w3 hown3 hb3 _ _))
              go_roundw
              · refine ⟨k + 1, by omega, by go_num, ?_, (hbel.alloc hs2 _).trans hb3⟩
                rw [Hup.out]
                rw [HM.out] at hown3
                simpa [cellsE] using hown3
              · simp [intOf]; omega
        · rw [if_neg hq, List.append_nil] at hup
          have Hup := Lib.hid hup
          clear hup
          rcases b with _ | _
          · rcases dirty with _ | _
            · exact absurd rfl hq
            · clear hq
              go_wp2_with (first | (go_at_call 38; refine HA.out.mono ?_; rintro e w1 ⟨rfl, rfl⟩))
              go_roundw
              case rel => exact ⟨k + 1, by omega, by go_num, by rw [Hup.out, ← HM.out]; exact hown, hbel⟩
              case measure => simp [intOf]; omega
          · exact absurd rfl hq
    · have hkm2 : k = n := by omega
      subst hkm2
      have t0 : decide ((k : Int) < (k : Int)) = false := by simp
      clear hA
      go_wp2_with fail
      go_ret
      exact ⟨_, rfl, hown, hbel⟩
set_option maxRecDepth 100000 in
set_option maxHeartbeats 1600000 in
theorem rsync_any (h : CDR w E q r bf cap rest x d) {n : Nat} (hnn : n = d.L.length) (hok : x.Ok n) (hs : n < 100) (hn : d.n < 999800) (hE : ∀ k, w.heap.size ≤ k → E k) :
    Calls Try.prog 33 #[at0 r] w fun e w' => e = .returned (.int .i64 (x.sync d).1) ∧ CDR w' E q r bf cap rest (x.sync d).2.1 (x.sync d).2.2 ∧ Only E w w' := by
  have hsync : x.sync d = if (syncGo x.soiled x d).1 = 0 then
    (if (syncGo x.soiled x d).2.2.burns 3 = true then (3, (syncGo x.soiled x d).2.1, (syncGo x.soiled x d).2.2.burn 3)
    else (0, (syncGo x.soiled x d).2.1, ((syncGo x.soiled x d).2.2.burn 3).flush))
    else syncGo x.soiled x d := rfl
  rw [hsync, ← syncAll_soiled hok d]
  obtain ⟨R, hR⟩ : ∃ R, R = syncAll (nos n) x d := ⟨_, rfl⟩
  rw [← hR]
  obtain ⟨Q, hQ⟩ : ∃ Q, Q = if R.1 = 0 then (if R.2.2.burns 3 = true then (3, R.2.1, R.2.2.burn 3) else (0, R.2.1, (R.2.2.burn 3).flush)) else R := ⟨_, rfl⟩
  rw [← hQ]
  have HQ3 : Hid (R.1 = 3 → Q = R) := Lib.hid fun e => by rw [hQ, if_neg (by rw [e]; decide)]
  have HQ0 : Hid (R.1 = 0 → Q = (R.2.2.doFlush.1, R.2.1, R.2.2.doFlush.2)) := Lib.hid fun e => by
    rw [hQ, if_pos e]
    unfold Dev.doFlush
    split <;> rfl
  clear hQ
  have H0 : Hid (∃ y dy, syncAll ((nos n).drop 0) y dy = R ∧ y.Ok n ∧ dy.L.length = n ∧ dy.n ≤ d.n + 0 ∧ CDR w E q r bf cap rest y dy ∧ Only E w w) := Lib.hid ⟨x, d, by rw [List.drop_zero, hR], hok, hnn.symm, Nat.le_refl _, h, Only.refl _ _⟩
  -- what a round meets
  have HW : Hid (∀ (wr : World) (y : Cch) (dy : Dev) (k : Nat), k < n → syncAll ((nos n).drop k) y dy = R → y.Ok n → dy.L.length = n → dy.n ≤ d.n + k → CDR wr E q r bf cap rest y dy → Only E w wr →
      (∃ A c, wr.cell? ⟨r, 0, none⟩ = some (at0 q) ∧ wr.cell? ⟨q, 0, none⟩ = some (.slice A n c) ∧ wr.cell? ⟨r, 1, none⟩ = some (.slice (some ⟨bf, 0, none⟩) y.L.length cap)) ∧
      Calls Try.prog 38 #[at0 r, .int .i64 (k : Int)] wr (fun e w' => e = .returned (.int .i64 (atOf (y.holder (k : Int)))) ∧ wr = w') ∧
      ((y.holder (k : Int) = none ∧ syncAll ((nos n).drop (k + 1)) y dy = R) ∨ ∃ i, y.holder (k : Int) = some i ∧ i < y.L.length ∧ y.L.length ≤ 64 ∧ wr.cell? ⟨bf, i * 5 + 2, none⟩ = some (.bool (y.fr i).dirty) ∧
        (((y.fr i).dirty = false ∧ syncAll ((nos n).drop (k + 1)) y dy = R) ∨ ((y.fr i).dirty = true ∧ ∃ gu cu, wr.cell? ⟨bf, i * 5 + 4, none⟩ = some (.slice (some ⟨gu, 0, none⟩) 256 cu) ∧
          Calls Try.prog 57 #[at0 q, .int .i64 (k : Int), .slice (some ⟨gu, 0, none⟩) 256 cu] wr.drew (fun e w' => ∃ t : Int, e = .returned (.int .i64 t) ∧ ((t = 3 ∧ R.1 = 3 ∧ CDR w' E q r bf cap rest R.2.1 R.2.2 ∧ Only E w w') ∨
            (t = 0 ∧ w'.cell? ⟨r, 1, none⟩ = some (.slice (some ⟨bf, 0, none⟩) y.L.length cap) ∧ (∃ u, w'.cell? ⟨bf, i * 5 + 2, none⟩ = some u) ∧ w'.frozen? ⟨bf, i * 5 + 2, none⟩ = false ∧
              ∃ y' dy', syncAll ((nos n).drop (k + 1)) y' dy' = R ∧ y'.Ok n ∧ dy'.L.length = n ∧ dy'.n ≤ d.n + (k + 1) ∧ CDR (w'.setCell ⟨bf, i * 5 + 2, none⟩ (.bool false)) E q r bf cap rest y' dy' ∧ Only E w (w'.setCell ⟨bf, i * 5 + 2, none⟩ (.bool false))))))))) := Lib.hid (by
    intro wr y dy k hk hgo hyok hdl hdn hc ho
    obtain ⟨A, c, c0⟩ := hc.sectors
    obtain ⟨k0, k1, _, _, _, _, hs2, _⟩ := hc.cells
    rw [hdl] at c0
    refine ⟨⟨A, c, k0, c0, k1⟩, hc.at_ hyok _, ?_⟩
    rw [List.drop_eq_getElem_cons (by rw [nos_length]; exact hk), nos_get, syncAll] at hgo
    rcases hh : y.holder (k : Int) with _ | i
    · rw [hh] at hgo
      exact .inl ⟨rfl, hgo⟩
    · rw [hh] at hgo
      obtain ⟨hi, hf, hno⟩ := holder_lt hh
      have hno : (y.fr i).no = (k : Int) := hno
      refine .inr ⟨i, rfl, hi, hs2, (hc.frame hi).2.2.1, ?_⟩
      dsimp only at hgo
      rcases hd : (y.fr i).dirty with _ | _
      · rw [hd, if_neg (by simp)] at hgo
        exact .inl ⟨rfl, hgo⟩
      · rw [hd, if_pos rfl] at hgo
        obtain ⟨gu, cu, c4, hsec⟩ := hc.bytes hi hf
        refine .inr ⟨rfl, gu, cu, c4, ?_⟩
        have hE' : ∀ k, wr.drew.heap.size ≤ k → E k := fun k hk => hE k (Nat.le_trans ho.size hk)
        refine (hc.drew.write hE' (by omega) (by omega) (by omega) (hsec.keep fun _ _ _ => rfl)).mono ?_
        rintro e w' ⟨rfl, h1, ho1⟩
        refine ⟨_, rfl, ?_⟩
        have e1 := doWrite_told dy (k : Int) (y.fr i).b ⟨by omega, by omega⟩
        have e2 : y.write dy i = if dy.burns 2 = true then (3, y, dy.burn 2) else (0, { y with L := y.L.set i { y.fr i with dirty := false } }, (dy.burn 2).put (y.fr i).no.toNat (y.fr i).b) := rfl
        have ho2 : Only E w w' := (ho.trans (Only.drew _ _)).trans ho1
        rw [e1] at h1 ⊢
        rcases hb : dy.burns 2 with _ | _
        · rw [hb, if_neg (by simp)] at h1 e2
          rw [if_neg (by simp)]
          rw [e2, if_pos rfl, hno] at hgo
          refine .inr ⟨rfl, h1.cells.2.1, ⟨_, (h1.frame hi).2.2.1⟩, h1.cells.2.2.2.2.1 _, _, _, hgo, ?_, hdl, ?_, (h1.dirt hi false).1, ho2.trans (h1.dirt hi false).2⟩
          · exact hyok.alter hi hf hf rfl
          · show dy.n + 1 ≤ _
            omega
        · rw [hb, if_pos rfl] at h1 e2
          rw [if_pos rfl]
          rw [e2, if_neg (show ¬ (3 : Int) = 0 by decide)] at hgo
          rw [← hgo]
          exact .inl ⟨rfl, rfl, h1, ho2⟩)
  have HF : Hid (∀ (wr : World) (y : Cch) (dy : Dev), syncAll ((nos n).drop n) y dy = R → dy.L.length = n → dy.n ≤ d.n + n → CDR wr E q r bf cap rest y dy → Only E w wr →
      R.1 = 0 ∧ (∃ A c, wr.cell? ⟨r, 0, none⟩ = some (at0 q) ∧ wr.cell? ⟨q, 0, none⟩ = some (.slice A n c)) ∧ Calls Try.prog 58 #[at0 q] wr (fun e w' => e = .returned (.int .i64 R.2.2.doFlush.1) ∧ CDR w' E q r bf cap rest R.2.1 R.2.2.doFlush.2 ∧ Only E w w')) := Lib.hid (by
    intro wr y dy hgo hdl hdn hc ho
    rw [List.drop_of_length_le (by rw [nos_length]; omega)] at hgo
    have hgo2 : (0, y, dy) = R := hgo
    rw [← hgo2]
    obtain ⟨A, c, c0⟩ := hc.sectors
    rw [hdl] at c0
    refine ⟨rfl, ⟨A, c, hc.cells.1, c0⟩, ?_⟩
    refine (hc.flush (fun k hk => hE k (Nat.le_trans ho.size hk)) (by omega)).mono ?_
    rintro e w' ⟨rfl, h1, ho1⟩
    exact ⟨rfl, h1, ho.trans ho1⟩)
  clear h hok hE hsync hR hnn hn
  go_enter Try.func33, Try.ntmps33
  go_wp2_with fail
  go_loopw [3] (fun iv wr => ∃ (k : Nat), k ≤ n ∧ iv = .int .i64 (k : Int) ∧ Hid (∃ y dy, syncAll ((nos n).drop k) y dy = R ∧ y.Ok n ∧ dy.L.length = n ∧ dy.n ≤ d.n + k ∧ CDR wr E q r bf cap rest y dy ∧ Only E w wr)) (fun iv _ => n - (intOf iv).toNat)
  case atStart => exact ⟨0, by omega, rfl, H0⟩
  case round =>
    obtain ⟨k, hkn, rfl, HYk⟩ := hrel
    obtain ⟨y, dy, y1, y2, y3, y4, y5, y6⟩ := HYk.out
    clear HYk
    by_cases hk : k < n
    · obtain ⟨⟨A, c, k0, c0, k1⟩, hA, hwhat⟩ := HW.out wr y dy k hk y1 y2 y3 y4 y5 y6
      have t0 : decide ((k : Int) < (n : Int)) = true := by simp [hk]
      rcases hwhat with ⟨hh, hgo⟩ | ⟨i, hh, hi, hi64, c2, hwhat⟩
      · rw [hh, show atOf none = -1 from rfl] at hA
        have HA := Lib.hid hA
        have Hnext : Hid (∃ y dy, syncAll ((nos n).drop (k + 1)) y dy = R ∧ y.Ok n ∧ dy.L.length = n ∧ dy.n ≤ d.n + (k + 1) ∧ CDR wr E q r bf cap rest y dy ∧ Only E w wr) := Lib.hid ⟨y, dy, hgo, y2, y3, by omega, y5, y6⟩
        clear hA hh hgo y1 y2 y3 y4 y5 y6
        go_wp2_with (first | (go_at_call 38; refine HA.out.mono ?_; rintro e w1 ⟨rfl, rfl⟩))
        go_roundw
        case rel => exact ⟨k + 1, by omega, by go_num, Hnext⟩
        case measure => simp [intOf]; omega
      · rw [hh, show atOf (some i) = (i : Int) from rfl] at hA
        have HA := Lib.hid hA
        obtain ⟨n', hn'⟩ : ∃ n', n' = y.L.length := ⟨_, rfl⟩
        rw [← hn'] at k1 hi hi64
        have b0 : (0 : Int) ≤ (i : Int) := by omega
        have b1 : (i : Int) < (n' : Int) := by omega
        have b2 : ((i : Int)).toNat = i := by omega
        have t2 : decide ((i : Int) < 0) = false := by simp
        rcases hwhat with ⟨hd, hgo⟩ | ⟨hd, gu, cu, c4, hW⟩
        · rw [hd] at c2
          have Hnext : Hid (∃ y dy, syncAll ((nos n).drop (k + 1)) y dy = R ∧ y.Ok n ∧ dy.L.length = n ∧ dy.n ≤ d.n + (k + 1) ∧ CDR wr E q r bf cap rest y dy ∧ Only E w wr) := Lib.hid ⟨y, dy, hgo, y2, y3, by omega, y5, y6⟩
          clear hA hh hgo y1 y2 y3 y4 y5 y6 hd hn'
          go_wp2_with (first | (go_at_call 38; refine HA.out.mono ?_; rintro e w1 ⟨rfl, rfl⟩))
          go_roundw
          case rel => exact ⟨k + 1, by omega, by go_num, Hnext⟩
          case measure => simp [intOf]; omega
        · rw [hd] at c2
          rw [← hn'] at hW
          have HWr := Lib.hid hW
          clear hA hh y1 y2 y3 y4 y5 y6 hd hn' hW
          go_wp2_with (first | (go_at_call 38; refine HA.out.mono ?_; rintro e w1 ⟨rfl, rfl⟩))
          go_still_tail 13, (by kernel_rfl)
          change wpList _ _ _ _ _ wr.drew
          go_wp2_with (first | (go_at_call 57; refine HWr.out.mono ?_; rintro e w2 ⟨t, rfl, z4⟩; rcases z4 with ⟨rfl, z5, z6, z7⟩ | ⟨rfl, v1, ⟨_, v2⟩, v3, z8⟩))
          · go_ret
            have e := HQ3.out z5
            rw [e, z5]
            exact ⟨rfl, z6, z7⟩
          · go_roundw
            case rel => exact ⟨k + 1, by omega, by go_num, Lib.hid z8⟩
            case measure => simp [intOf]; omega
    · have e : k = n := by omega
      subst e
      obtain ⟨r0, ⟨A, c, k0, c0⟩, hFl⟩ := HF.out wr y dy y1 y3 y4 y5 y6
      have e := HQ0.out r0
      obtain ⟨t, ht⟩ : ∃ t : Int, t = R.2.2.doFlush.1 := ⟨_, rfl⟩
      obtain ⟨dz, hdz⟩ : ∃ dz, dz = R.2.2.doFlush.2 := ⟨_, rfl⟩
      rw [← ht, ← hdz] at hFl e
      have HFl := Lib.hid hFl
      have He := Lib.hid e
      have t0 : decide ((k : Int) < (k : Int)) = false := by simp
      clear hFl y1 y2 y3 y4 y5 y6 e ht hdz
      go_wp2_with (first
        | (go_at_call 58; refine HFl.out.mono ?_; rintro e w2 ⟨rfl, z1, z2⟩))
      go_ret
      rw [He.out]
      exact ⟨rfl, z1, z2⟩
end
end Go.Proofs.Ytfjcblppmoomdaa
