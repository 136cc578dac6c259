/-
  The walk of DevFlushed.
-/
import Derived.Test.YtmifaneolfciiaaDevK
import Derived.Test.YtmifaneolfciiaaOpenAct
namespace Go.Proofs.Ytmifaneolfciiaa
open Go.RowKit
/-- In each world that has what w had below its end: act i of a slice has a sector and a byte. -/
def ActsAt (w : World) (A : Option Addr) (n : Nat) : Prop :=
  ∀ i : Nat, i < n → ∃ (b o : Nat) (s : Int) (y : UInt8), A = some ⟨b, o, none⟩ ∧ -9223372036854775808 ≤ s ∧ s ≤ 9223372036854775807 ∧ ∀ wr, Below w.heap.size w wr → wr.cell? ⟨b, o + i * 5 + 1, none⟩ = some (.int .i64 s) ∧ wr.cell? ⟨b, o + i * 5 + 3, none⟩ = some (.int .u8 (y.toNat : Int))
theorem Acts.at_ {w : World} {v : Value} {l : List ActD} (h : Acts w v l) : ∃ A c, v = .slice A l.length c ∧ ActsAt w A l.length := by
  obtain ⟨A, c, rfl, _, _, h1, h2⟩ := h
  refine ⟨A, c, rfl, fun i hi => ?_⟩
  obtain ⟨b, o, rfl, hb, hc⟩ := h1 (by omega)
  have hw := (h2 _ (List.getElem_mem hi)).sector
  have hw' : -9223372036854775808 ≤ (l[i]).sector ∧ (l[i]).sector ≤ 9223372036854775807 := by simpa [Lit.wf, IntKind.min, IntKind.max, IntKind.bits, IntKind.signed] using hw
  refine ⟨b, o, (l[i]).sector, (l[i]).by_, rfl, hw'.1, hw'.2, fun wr hbel => ⟨?_, ?_⟩⟩
  · have := hc i hi 1 _ rfl
    rw [← Nat.add_assoc] at this
    exact (hbel.cell (p := ⟨b, _, none⟩) hb).trans this
  · have := hc i hi 3 _ rfl
    rw [← Nat.add_assoc] at this
    exact (hbel.cell (p := ⟨b, _, none⟩) hb).trans this
theorem info_was : (Try.prog.info? 50).map (·.size) = some 20 := by kernel_rfl
theorem Only.drewN {F : Nat → Prop} {w w' : World} (h : Only F w w') (n : Nat) : Only F w (w'.drewN n) := ⟨h.os, h.tape, h.output, h.size, h.block⟩
theorem build_none {P : Program} {t e : TypeId} {n : Nat} {Z : Array Value} (hu : P.underlying t = some (.array n e)) (hz : ∀ w, (zeroValue t).run P w = .ok (.agg Z) w) (hs : ∃ k, ∀ w, (sizeOf e).run P w = .ok k w) (w : World) : (Instr.build t #[]).run P w = .ok (.agg Z) w := by
  obtain ⟨k, hk⟩ := hs
  simp only [Instr.build, Sem.run_bind, hz, Result.andThen_ok, run_underlying hu, hk, Instr.fill, Value.cells, Sem.run_pure]
theorem exec_build {P : Program} {w : World} {o : Oper} {ρ : Operand → Value} {t : TypeId} (ho : o.op = .build t #[]) {v : Value} {w' : World} (hrun : (Instr.build t #[]).run P w = .ok v w') : (execOp ρ o).run P w = .ok (.value v) w' := by
  unfold execOp
  simp only [ho, List.map_toArray, List.map_nil, Sem.run_bind, hrun, Result.andThen_ok, Sem.run_pure]
theorem zero_was (W : Nat → UInt8) (w : World) : (zeroValue 50).run Try.prog w = .ok (.agg (wasL W 0).toArray) w := by
  rw [Try.zeroValue50]
  rfl
theorem zero_dirty (w : World) : (zeroValue 51).run Try.prog w = .ok (.agg (dirtyL fun _ => false).toArray) w := by
  rw [Try.zeroValue51]
  rfl
theorem wasL_one (W : Nat → UInt8) (i : Nat) : ∀ u ∈ wasL W i, u.oneCell' = true := by
  intro u hu
  obtain ⟨j, _, rfl⟩ := List.mem_map.1 hu
  rfl
theorem dirtyL_one (B : Nat → Bool) : ∀ u ∈ dirtyL B, u.oneCell' = true := by
  intro u hu
  obtain ⟨j, _, rfl⟩ := List.mem_map.1 hu
  rfl
theorem two_first (w : World) (c d : Array Value) (t u : TypeId) : ((w.alloc (.cells c t)).alloc (.cells d u)).heap[w.heap.size]? = some (.cells c t (0, 0)) := by
  rw [heap_alloc_old _ _ (by simp)]
  exact heap_alloc_last _ _
theorem two_second (w : World) (c d : Array Value) (t u : TypeId) : ((w.alloc (.cells c t)).alloc (.cells d u)).heap[w.heap.size + 1]? = some (.cells d u (0, 0)) := by
  rw [show w.heap.size + 1 = (w.alloc (.cells c t)).heap.size by simp]
  exact heap_alloc_last _ _
theorem info_dirty : (Try.prog.info? 51).map (·.size) = some 20 := by kernel_rfl
set_option maxRecDepth 100000 in
set_option maxHeartbeats 4000000 in
theorem flushed_small (A A2 A3 : Option Addr) (n n2 n3 c c2 c3 : Nat) (lost ks : List Int) (w : World) (h1 : ActsAt w A n) (h2 : ActsAt w A2 n2) (h3 : Rd w w.heap.size (.slice A3 n3 c3) (cellsZ lost)) (hk : n3 = lost.length ∧ n3 ≤ 40 ∧ ks = lost) :
    Calls Try.prog 4 #[.slice A n c, .slice A2 n2 c2, .slice A3 n3 c3] w fun e w' => e = .returned (.bool true) ∧ Below w.heap.size w w' := by
  obtain ⟨hK, hks, rfl⟩ := hk
  have hrd := h3
  obtain ⟨F, hF⟩ : ∃ F : Nat → Prop, F = fun k => w.heap.size ≤ k := ⟨_, rfl⟩
  have hFresh : ∀ w' : World, w.heap.size ≤ w'.heap.size → ∀ k, w'.heap.size ≤ k → F k := fun w' hw k hk => by rw [hF]; exact Nat.le_trans hw hk
  have hBelow : ∀ w', Only F w w' → Below w.heap.size w w' := fun w' h => by rw [hF] at h; exact h.below (Nat.le_refl _)
  have hFlow : ∀ k, k < w.heap.size → ¬ F k := fun k hk => by rw [hF]; omega
  have hnew := new_ok (n := 20) w F ⟨by omega, by omega⟩ (hFresh w (Nat.le_refl _))
  -- a write, the device in blocks of any G
  have hwrite : ∀ (G : Nat → Prop) (w1 w2 : World) (p bl bm g : Nat) (S : Nat → Value) (D : DataW Value) (d : Dev) (s : Int) (y : UInt8), DevIs w1 G p bl bm S D d → (∀ k, (d.f k).1 = false) → d.n < 1000000 → (∀ k, w1.heap.size ≤ k → G k) → Below w1.heap.size w1 w2 → w1.heap.size ≤ g → w2.heap[g]? = some (.cells (cellsB (one y)).toArray 5 (0, 0)) →
      Calls Try.prog 20 #[at0 p, .int .i64 s, .slice (some ⟨g, 0, none⟩) 256 256] w2 fun e w' => ∃ S' D', e = .returned (.int .i64 (if 0 ≤ s ∧ s < (d.L.length : Int) then 0 else 1)) ∧ DevIs w' G p bl bm S' D' (d.sec s (one y)) ∧ Only G w1 w' := by
    intro G w1 w2 p bl bm g S D d s y hd hf hn hG hb hg hh
    refine (write_sec (hd.far hb hg) hf hn (one_length y) hh (fun k hk => hG k (Nat.le_trans hb.size hk))).mono ?_
    rintro e w' ⟨S', D', rfl, hd', ho'⟩
    exact ⟨S', D', rfl, hd', (Only.of_below hb).trans ho'⟩
  have hflush : ∀ (w1 : World) (p bl bm : Nat) (S : Nat → Value) (D : DataW Value) (d : Dev), DevIs w1 F p bl bm S D d → (∀ k, (d.f k).1 = false) → d.n < 1000000 → Only F w w1 →
      Calls Try.prog 22 #[at0 p] w1 fun e w' => ∃ S' D', e = .returned (.int .i64 0) ∧ DevIs w' F p bl bm S' D' d.flush ∧ Only F w w' := by
    intro w1 p bl bm S D d hd hf hn ho
    have h := flush_ok hd (Dev.burns_idle _ _ (hf 3)) hn (hFresh w1 ho.size)
    rw [Dev.burn_idle _ _ (hf 3)] at h
    refine h.mono ?_
    rintro e w' ⟨S', D', rfl, hd', ho'⟩
    exact ⟨S', D', rfl, hd', ho.trans ho'⟩
  have hcrash : ∀ (G : Nat → Prop) (w1 : World) (p bl bm : Nat) (S : Nat → Value) (D : DataW Value) (d : Dev), DevIs w1 G p bl bm S D d → (∀ k, G k → F k) → (∀ k, w1.heap.size ≤ k → G k) → d.n < 1000000 → Only F w w1 →
      Calls Try.prog 16 #[at0 p, .slice A3 n3 c3] w1 fun e w' => ∃ S' D', e = .returned (.tuple #[]) ∧ DevIs w' G p bl bm S' D' (d.crash ks) ∧ Only G w1 w' := by
    intro G w1 p bl bm S D d hd hGF hG hn ho
    rw [hK]
    refine crash_any hd hn (fun hp => ?_) (by omega) hG
    obtain ⟨_, _, e, _, _, _, hr⟩ := hrd
    injection e with e1 e2 e3
    subst e1
    obtain ⟨b, o, rfl, hb, hc⟩ := hr (by rw [cellsZ_length]; exact hp)
    refine ⟨b, o, rfl, Nat.lt_of_lt_of_le hb ho.size, fun hn => hFlow b hb (hGF b hn), fun j hj => ?_⟩
    exact (World.cell?_of_block (a := ⟨b, o + j, none⟩) (ho.block b hb (hFlow b hb))).trans (hc j _ (cellsZ_at ks j hj))
  have HK := Kept.mk (And.intro hK hks)
  have Hnew := Lib.hid hnew
  have Hwrite := Lib.hid hwrite
  have Hflush := Lib.hid hflush
  have Hcrash := Lib.hid hcrash
  have HBelow := Lib.hid hBelow
  have HFresh := Lib.hid hFresh
  have H1 := Lib.hid h1
  have H2 := Lib.hid h2
  have hFw := hFresh w (Nat.le_refl _)
  have HFw := Lib.hid hFw
  clear hnew hwrite hflush hcrash hBelow hFresh hF hFlow h1 h2 h3 hrd hK hks hFw
  go_enter Try.func4, Try.ntmps4
  go_wp2_with (go_at_call 7; refine Hnew.out.mono ?_; rintro e w1 ⟨rfl, hd1, hb1⟩; have ho1 : Only F w w1 := Only.of_below hb1)
  go_loopw [9] (fun iv wr => ∃ (j : Nat) (S : Nat → Value) (D : DataW Value) (d : Dev), j ≤ 30 ∧ iv = .int .i64 (j : Int) ∧ DevIs wr F (w.heap.size + 2) w.heap.size (w.heap.size + 1) S D d ∧ (∀ k, (d.f k).1 = false) ∧ d.L.length = 20 ∧ d.n ≤ j ∧ Only F w wr) (fun iv _ => 30 - (intOf iv).toNat)
  case atStart => exact ⟨0, _, _, _, by omega, rfl, hd1, (fun _ => rfl), Dev.new_length 20, Nat.le_refl _, ho1⟩
  case round => as_aux_lemma =>
    obtain ⟨j, S, D, d, hj30, rfl, hd, hf, hL, hn, ho⟩ := hrel
    by_cases hgo : j < n ∧ j < 30
    · as_aux_lemma =>
      obtain ⟨hj1, hj2⟩ := hgo
      have t1 : decide ((j : Int) < (n : Int)) = true := by rw [decide_eq_true_eq]; omega
      have t2 : decide ((j : Int) < 30) = true := by rw [decide_eq_true_eq]; omega
      obtain ⟨b, o, s, y, rfl, _, _, hc⟩ := H1.out j hj1
      obtain ⟨c1, c3⟩ := hc wr (HBelow.out wr ho)
      have hw := Hwrite.out F wr.drew
      have hd0 : DevIs wr.drew F (w.heap.size + 2) w.heap.size (w.heap.size + 1) S D d := hd.keep fun _ _ _ => rfl
      have hw2 := fun (w2 : World) (g : Nat) (hb : Below wr.drew.heap.size wr.drew w2) (hg : wr.drew.heap.size ≤ g) (hh : w2.heap[g]? = some (.cells (cellsB (one y)).toArray 5 (0, 0))) => hw w2 _ _ _ g S D d s y hd0 hf (by omega) (HFresh.out wr.drew ho.size) hb hg hh
      have Hw2 := Lib.hid hw2
      have Hf := Lib.hid hf
      have hi0 : (0 : Int) ≤ (j : Int) := by omega
      have hi1 : (j : Int) < (n : Int) := by omega
      clear hc hw hw2 hf hd
      go_wp2_with fail
      refine wp_region_held_drew (S := fun w' => w'.cell? ⟨b, o + j * 5 + 1, none⟩ = some (.int .i64 s) ∧ w'.cell? ⟨b, o + j * 5 + 3, none⟩ = some (.int .u8 (y.toNat : Int))) (by kernel_rfl) ?_ (fun hHeld => ?_)
      · exact ⟨c1, c3⟩
      refine' wpAnyH_take (i := 0) (oi := ⟨some 40, .move (.tmp 7), _, _, _, none⟩) (v := _) rfl (by kernel_rfl) (by kernel_rfl) (by kernel_rfl) (fun _ _ _ h => h) (Or.inl ⟨by rfl, ?hy0⟩) (by assumption) ?rest0
      case hy0 => (intro w hSw; obtain ⟨s1, s3⟩ := hSw; go_simp <;> with_reducible rfl)
      case rest0 =>
      go_frame
      refine' wpAnyH_take (i := 1) (oi := ⟨some 41, .move (.tmp 0), _, _, _, none⟩) (v := _) rfl (by kernel_rfl) (by kernel_rfl) (by kernel_rfl) (fun _ _ _ h => h) (Or.inl ⟨by rfl, ?hy1⟩) (by assumption) ?rest1
      case hy1 => (intro w hSw; obtain ⟨s1, s3⟩ := hSw; go_simp <;> with_reducible rfl)
      case rest1 =>
      go_frame
      refine' wpAnyH_take (i := 2) (oi := ⟨some 42, .move (.tmp 9), _, _, _, none⟩) (v := _) rfl (by kernel_rfl) (by kernel_rfl) (by kernel_rfl) (fun _ _ _ h => h) (Or.inl ⟨by rfl, ?hy2⟩) (by assumption) ?rest2
      case hy2 => (intro w hSw; obtain ⟨s1, s3⟩ := hSw; go_simp <;> with_reducible rfl)
      case rest2 =>
      go_frame
      refine' wpAnyH_take (i := 3) (oi := ⟨some 43, .indexAddr 22 (.tmp 41) (.tmp 42), _, _, _, none⟩) (v := _) rfl (by kernel_rfl) (by kernel_rfl) (by kernel_rfl) (fun _ _ _ h => h) (Or.inl ⟨by rfl, ?hy3⟩) (by assumption) ?rest3
      case hy3 => (intro w hSw; obtain ⟨s1, s3⟩ := hSw; go_simp <;> with_reducible rfl)
      case rest3 =>
      go_frame
      refine' wpAnyH_take (i := 4) (oi := ⟨some 44, .fieldAddr 34 (.tmp 43) 1, _, _, _, none⟩) (v := _) rfl (by kernel_rfl) (by kernel_rfl) (by kernel_rfl) (fun _ _ _ h => h) (Or.inl ⟨by rfl, ?hy4⟩) (by assumption) ?rest4
      case hy4 => (intro w hSw; obtain ⟨s1, s3⟩ := hSw; go_simp <;> with_reducible rfl)
      case rest4 =>
      go_frame
      refine' wpAnyH_take (i := 5) (oi := ⟨some 45, .load 3 (.tmp 44), _, _, _, none⟩) (v := _) rfl (by kernel_rfl) (by kernel_rfl) (by kernel_rfl) (fun _ _ _ h => h) (Or.inl ⟨by rfl, ?hy5⟩) (by assumption) ?rest5
      case hy5 => (intro w hSw; obtain ⟨s1, s3⟩ := hSw; go_simp <;> with_reducible rfl)
      case rest5 =>
      go_frame
      refine' wpAnyH_take (i := 6) (oi := ⟨some 46, .move (.tmp 0), _, _, _, none⟩) (v := _) rfl (by kernel_rfl) (by kernel_rfl) (by kernel_rfl) (fun _ _ _ h => h) (Or.inl ⟨by rfl, ?hy6⟩) (by assumption) ?rest6
      case hy6 => (intro w hSw; obtain ⟨s1, s3⟩ := hSw; go_simp <;> with_reducible rfl)
      case rest6 =>
      go_frame
      refine' wpAnyH_take (i := 7) (oi := ⟨some 47, .move (.tmp 9), _, _, _, none⟩) (v := _) rfl (by kernel_rfl) (by kernel_rfl) (by kernel_rfl) (fun _ _ _ h => h) (Or.inl ⟨by rfl, ?hy7⟩) (by assumption) ?rest7
      case hy7 => (intro w hSw; obtain ⟨s1, s3⟩ := hSw; go_simp <;> with_reducible rfl)
      case rest7 =>
      go_frame
      refine' wpAnyH_take (i := 8) (oi := ⟨some 48, .indexAddr 22 (.tmp 46) (.tmp 47), _, _, _, none⟩) (v := _) rfl (by kernel_rfl) (by kernel_rfl) (by kernel_rfl) (fun _ _ _ h => h) (Or.inl ⟨by rfl, ?hy8⟩) (by assumption) ?rest8
      case hy8 => (intro w hSw; obtain ⟨s1, s3⟩ := hSw; go_simp <;> with_reducible rfl)
      case rest8 =>
      go_frame
      refine' wpAnyH_take (i := 9) (oi := ⟨some 49, .fieldAddr 34 (.tmp 48) 3, _, _, _, none⟩) (v := _) rfl (by kernel_rfl) (by kernel_rfl) (by kernel_rfl) (fun _ _ _ h => h) (Or.inl ⟨by rfl, ?hy9⟩) (by assumption) ?rest9
      case hy9 => (intro w hSw; obtain ⟨s1, s3⟩ := hSw; go_simp <;> with_reducible rfl)
      case rest9 =>
      go_frame
      refine' wpAnyH_take (i := 10) (oi := ⟨some 50, .load 5 (.tmp 49), _, _, _, none⟩) (v := _) rfl (by kernel_rfl) (by kernel_rfl) (by kernel_rfl) (fun _ _ _ h => h) (Or.inl ⟨by rfl, ?hy10⟩) (by assumption) ?rest10
      case hy10 => (intro w hSw; obtain ⟨s1, s3⟩ := hSw; go_simp <;> with_reducible rfl)
      case rest10 =>
      go_frame
      refine wpAnyH_ready (rs := [11]) (by kernel_rfl) (by simp) (AllReadyH.cons (o := ⟨some 51, .call { callee := .value (.func 21), args := #[.tmp 50], argTypes := #[5] }, _, _, _, none⟩) rfl (fun K hK => ?_) AllReadyH.nil)
      rw [if_pos (by rfl)]
      go_simp
      refine (full_one y _).mono ?_
      rintro e w2 ⟨g, rfl, hg, hh, hb2⟩
      dsimp only
      have hlt := World.block_lt_of_cell? wr _ c1
      refine hK.out _ _ ⟨(hb2.cell (p := ⟨b, o + j * 5 + 1, none⟩) hlt).trans c1, (hb2.cell (p := ⟨b, o + j * 5 + 3, none⟩) hlt).trans c3⟩ (fun hHeld => ?_)
      clear hK K
      refine wpAnyH_ready (rs := [12]) (by kernel_rfl) (by simp) (AllReadyH.cons (o := ⟨some 52, .call { callee := .value (.func 20), args := #[.tmp 40, .tmp 45, .tmp 51], argTypes := #[23, 3, 42] }, _, _, _, none⟩) rfl (fun K hK => ?_) AllReadyH.nil)
      rw [if_pos (by rfl)]
      go_simp
      refine (Hw2.out w2 g hb2 hg hh).mono ?_
      rintro e w3 ⟨S3, D3, rfl, hd3, ho3⟩
      dsimp only
      have ho3' : Only F w w3 := ho.trans ((Only.drew F wr).trans ho3)
      have hbel3 := HBelow.out w3 ho3'
      have hs3 : w3.cell? ⟨b, o + j * 5 + 1, none⟩ = some (.int .i64 s) ∧ w3.cell? ⟨b, o + j * 5 + 3, none⟩ = some (.int .u8 (y.toNat : Int)) := by
        obtain ⟨b', o', s', y', e, _, _, hc⟩ := H1.out j hj1
        injection e with e
        injection e with e1 e2
        subst e1 e2
        have h1 := (hc wr (HBelow.out wr ho)).1
        have h3 := (hc wr (HBelow.out wr ho)).2
        rw [c1] at h1
        rw [c3] at h3
        rw [h1, h3]
        exact hc w3 hbel3
      refine hK.out _ _ hs3 (fun hHeld => ?_)
      clear hK K
      refine wpAnyH_done (by kernel_rfl) ?_ _
      go_wp2_with fail
      go_roundw
      case rel => exact ⟨j + 1, S3, D3, _, by omega, by go_num, hd3, (fun k => by rw [Dev.sec_f]; exact Hf.out k), (by rw [Dev.sec_L]; exact hL), (by have := Dev.sec_n d s (one y); omega), ho3'⟩
      case measure => simp [intOf]; omega
    · have hex : n ≤ j ∨ (j < n ∧ 30 ≤ j) := by omega
      have hfl := Hflush.out wr _ _ _ S D d hd hf (by omega) ho
      have Hfl := Lib.hid hfl
      have hL2 : d.flush.L.length = 20 := by rw [Dev.flush_length]; exact hL
      obtain ⟨dB, hdB⟩ : ∃ dB, dB = d.flush := ⟨_, rfl⟩
      rw [← hdB] at Hfl hL2
      have hfB : ∀ k, (dB.f k).1 = false := fun k => by rw [hdB]; exact hf k
      have hQB : ∀ i, dB.Q i = [] := fun i => by rw [hdB]; rfl
      have hnB : dB.n ≤ 30 := by rw [hdB]; show d.n ≤ 30; omega
      have HfB := Lib.hid hfB
      have HQB := Lib.hid hQB
      have HL2 := Lib.hid hL2
      clear hgo hfl hdB hf hfB hQB hd hL hL2
      obtain ⟨W, hW⟩ : ∃ W : Nat → UInt8, W = fun i => firstB (dB.L.getD i []) := ⟨_, rfl⟩
      have hWi : ∀ i, firstB (dB.L.getD i []) = W i := fun i => by rw [hW]
      have HW := Lib.hid hWi
      clear hW hWi
      obtain ⟨Zu, hZu⟩ : ∃ Zu, Zu = (wasL W 0).toArray := ⟨_, rfl⟩
      obtain ⟨Zb, hZb⟩ : ∃ Zb, Zb = (dirtyL fun _ => false).toArray := ⟨_, rfl⟩
      have hzu : Kept (∀ w, (zeroValue 50).run Try.prog w = .ok (.agg Zu) w) := ⟨by rw [hZu]; exact zero_was W⟩
      have hzb : Kept (∀ w, (zeroValue 51).run Try.prog w = .ok (.agg Zb) w) := ⟨by rw [hZb]; exact zero_dirty⟩
      have hiu : Kept ((Try.prog.info? 50).map (·.size) = some Zu.size) := ⟨by rw [info_was, hZu]; simp [wasL]⟩
      have hib : Kept ((Try.prog.info? 51).map (·.size) = some Zb.size) := ⟨by rw [info_dirty, hZb]; simp [dirtyL]⟩
      have hou : Kept (Zu.all (·.oneCell') = true) := ⟨by rw [hZu]; exact all_oneCell_toArray (wasL_one W 0)⟩
      have hob : Kept (Zb.all (·.oneCell') = true) := ⟨by rw [hZb]; exact all_oneCell_toArray (dirtyL_one _)⟩
      have hbu := fun w => build_none Try.underlying50 hzu.out ⟨1, Try.sizeOf5⟩ w
      have hbb := fun w => build_none Try.underlying51 hzb.out ⟨1, Try.sizeOf4⟩ w
      have HZu := Lib.hid hZu
      have HZb := Lib.hid hZb
      clear hZu hZb
      rcases hex with t1 | ⟨t1, t2⟩
      all_goals as_aux_lemma =>
        go_wp2_with (first
          | (go_at_call 22; refine Hfl.out.mono ?_; rintro e wB ⟨SB, DB, rfl, hdev, hoB⟩)
          | (with_reducible refine wpList_run (o := ⟨some 56, .build 50 #[], _, _, _, none⟩) rfl (.agg Zu) wB (exec_build rfl (hbu wB)) ?_)
          | (with_reducible refine wpList_run (o := ⟨some 57, .build 51 #[], _, _, _, none⟩) rfl (.agg Zb) wB (exec_build rfl (hbb wB)) ?_)
          | (with_reducible refine wpList_alloc_zero (o := ⟨some 10, .alloc 50, _, _, _, none⟩) rfl 50 rfl Zu hzu.out ?_)
          | (with_reducible refine wpList_alloc_zero (o := ⟨some 11, .alloc 51, _, _, _, none⟩) rfl 51 rfl Zb hzb.out ?_)
          | ((with_reducible refine wpList_store_same (o := ⟨none, .store 50 (.tmp 10) (.tmp 56), _, _, _, none⟩) rfl 50 (.tmp 10) (.tmp 56) rfl wB.heap.size Zu 50 ?_ ?_ (two_first _ _ _ _ _) hiu.out hou.out ?_); exact rfl; exact rfl)
          | ((with_reducible refine wpList_store_same (o := ⟨none, .store 51 (.tmp 11) (.tmp 57), _, _, _, none⟩) rfl 51 (.tmp 11) (.tmp 57) rfl (wB.alloc (.cells Zu 50)).heap.size Zb 51 ?_ ?_ (heap_alloc_last _ _) hib.out hob.out ?_); exact rfl; exact rfl))
        obtain ⟨F2, hF2⟩ : ∃ F2 : Nat → Prop, F2 = fun k => F k ∧ k ≠ wB.heap.size ∧ k ≠ wB.heap.size + 1 := ⟨_, rfl⟩
        have hsub : ∀ k, F2 k → F k := fun k hk => by rw [hF2] at hk; exact hk.1
        have hfr2 : ∀ w' : World, wB.heap.size + 1 < w'.heap.size → ∀ k, w'.heap.size ≤ k → F2 k := fun w' hw k hk => by
          rw [hF2]
          exact ⟨HFresh.out w' (Nat.le_trans hoB.size (by omega)) k hk, by omega, by omega⟩
        have hnw : ¬ F2 wB.heap.size := fun hk => by rw [hF2] at hk; exact hk.2.1 rfl
        have hnd : ¬ F2 (wB.heap.size + 1) := fun hk => by rw [hF2] at hk; exact hk.2.2 rfl
        have hFgw : F wB.heap.size := HFw.out _ hoB.size
        have hFgd : F (wB.heap.size + 1) := HFw.out _ (Nat.le_succ_of_le hoB.size)
        have hdev2 : ∀ o1 o2 : Obj, DevIs ((wB.alloc o1).alloc o2) F2 (w.heap.size + 2) w.heap.size (w.heap.size + 1) SB DB dB := fun o1 o2 => by
          have h1 := hdev.tight.below (((Below.refl wB.heap.size wB).alloc (Nat.le_refl _) o1).alloc (by simp) o2)
          rw [hF2]
          exact h1.mono fun k _ hk => ⟨hk.1, by omega, by omega⟩
        have hoA : ∀ o1 o2 : Obj, Only F w ((wB.alloc o1).alloc o2) := fun o1 o2 => hoB.trans ((Only.alloc _ _ _).trans (Only.alloc _ _ _))
        have hsz2 : ∀ o1 : Obj, (wB.alloc o1).heap.size = wB.heap.size + 1 := fun o1 => by simp
        have hgw0 : ∀ o2 : Obj, ((wB.alloc (.cells Zu 50)).alloc o2).heap[wB.heap.size]? = some (.cells (wasL W 0).toArray 50 (0, 0)) := fun o2 => by
          rw [HZu.out, heap_alloc_old _ _ (by rw [hsz2]; omega)]
          exact heap_alloc_last _ _
        have hgd0 : ∀ o1 : Obj, ((wB.alloc o1).alloc (.cells Zb 51)).heap[wB.heap.size + 1]? = some (.cells (dirtyL fun _ => false).toArray 51 (0, 0)) := fun o1 => by
          rw [HZb.out, ← hsz2 o1]
          exact heap_alloc_last _ _
        have Hsub := Lib.hid hsub
        have Hfr2 := Lib.hid hfr2
        have Hnw := Lib.hid hnw
        have Hnd := Lib.hid hnd
        have Hdev2 := Lib.hid hdev2
        have HoA := Lib.hid hoA
        have Hgw0 := Lib.hid hgw0
        have Hgd0 := Lib.hid hgd0
        clear hF2 hsub hfr2 hnw hnd hdev2 hoA hsz2 hgw0 hgd0 hdev hoB
        as_aux_lemma =>
        go_loopw [12] (fun iv wr => ∃ i : Nat, i ≤ 20 ∧ iv = .int .i64 (i : Int) ∧ wr.heap[wB.heap.size]? = some (.cells (wasL W i).toArray 50 (0, 0)) ∧ wr.heap[wB.heap.size + 1]? = some (.cells (dirtyL fun _ => false).toArray 51 (0, 0)) ∧ DevIs wr F2 (w.heap.size + 2) w.heap.size (w.heap.size + 1) SB DB dB ∧ Only F w wr) (fun iv _ => 20 - (intOf iv).toNat)
        case atStart => exact ⟨0, by omega, rfl, Hgw0.out _, Hgd0.out _, Hdev2.out _ _, HoA.out _ _⟩
        case round => as_aux_lemma =>
          obtain ⟨i, hi20, rfl, hgw, hgd, hd, ho⟩ := hrel
          by_cases hi : i < 20
          · as_aux_lemma =>
            have hread := read_sec hd (i := i) (by rw [HL2.out]; exact hi) HfB.out (by omega)
            rw [Dev.now_low dB (HQB.out i), HW.out i] at hread
            have Hread := Lib.hid hread
            have hgwl := (Array.getElem?_eq_some_iff.1 hgw).1
            have hgdl := (Array.getElem?_eq_some_iff.1 hgd).1
            have Hgw := Lib.hid hgw
            have Hgd := Lib.hid hgd
            have hi0 : (0 : Int) ≤ (i : Int) := by omega
            have hi1 : (i : Int) < 20 := by omega
            clear hread hgw hgd hd
            go_wp2_with (go_at_call 18; refine Hread.out.mono ?_; rintro e w2 ⟨g, rfl, hc0, hd2, ho2⟩; have hgw2 := (ho2.block _ hgwl Hnw.out).trans Hgw.out; have Hgd2 := Lib.hid ((ho2.block _ hgdl Hnd.out).trans Hgd.out); have hcw : w2.cell? ⟨wB.heap.size, i, none⟩ = some (.int .u8 (((if i < i then W i else 0) : UInt8).toNat : Int)) := (by rw [cell_of_row w2 _ i _ 50 (0, 0) hgw2, List.getElem?_toArray]; exact wasL_at W i hi); have hfw := frozen_of_row w2 wB.heap.size i _ 50 hgw2; have Hgw2 := Lib.hid hgw2; clear hgw2)
            go_roundw
            case rel =>
              refine ⟨i + 1, by omega, by go_num, ?_, ?_, ?_, ?_⟩
              · rw [← wasL_set W i]
                have := heap_setCell_same w2 wB.heap.size i _ 50 (.int .u8 ((W i).toNat : Int)) Hgw2.out
                simpa using this
              · exact (heap_setCell_other w2 _ _ _ (by simp)).trans Hgd2.out
              · exact hd2.keep fun k _ hk => heap_setCell_other w2 _ k _ (fun e : k = wB.heap.size => Hnw.out (by rw [← e]; exact hk))
              · exact ho.trans ((ho2.mono fun k _ hk => Hsub.out k hk).trans (Only.setCell hFgw _))
            case measure => simp [intOf]; omega
          · have hi2 : 20 ≤ i := by omega
            have hi3 : i = 20 := by omega
            rw [hi3] at hgw
            clear hi3
            have hst : ∃ (S : Nat → Value) (D : DataW Value) (d : Dev) (B : Nat → Bool), DevIs wr F2 (w.heap.size + 2) w.heap.size (w.heap.size + 1) S D d ∧ d.L = dB.L ∧ (∀ k, (d.f k).1 = false) ∧ d.n ≤ 30 + 0 ∧ wr.heap[wB.heap.size]? = some (.cells (wasL W 20).toArray 50 (0, 0)) ∧ wr.heap[wB.heap.size + 1]? = some (.cells (dirtyL B).toArray 51 (0, 0)) ∧ (∀ j, j < 20 → B j = false → d.Q j = []) ∧ Only F w wr :=
              ⟨SB, DB, dB, _, hd, rfl, HfB.out, by omega, hgw, hgd, fun j _ _ => HQB.out j, ho⟩
            have Hst := Lib.hid hst
            clear hst hgw hgd hd ho hi Hgw0 Hgd0 Hdev2 HoA Hfl HfB HQB
            go_wp2_with fail
            as_aux_lemma =>
            go_loopw [15] (fun iv wr => ∃ i : Nat, i ≤ 30 ∧ iv = .int .i64 (i : Int) ∧ ∃ (S : Nat → Value) (D : DataW Value) (d : Dev) (B : Nat → Bool), DevIs wr F2 (w.heap.size + 2) w.heap.size (w.heap.size + 1) S D d ∧ d.L = dB.L ∧ (∀ k, (d.f k).1 = false) ∧ d.n ≤ 30 + i ∧ wr.heap[wB.heap.size]? = some (.cells (wasL W 20).toArray 50 (0, 0)) ∧ wr.heap[wB.heap.size + 1]? = some (.cells (dirtyL B).toArray 51 (0, 0)) ∧ (∀ j, j < 20 → B j = false → d.Q j = []) ∧ Only F w wr) (fun iv _ => 30 - (intOf iv).toNat)
            case atStart => exact ⟨0, by omega, rfl, Hst.out⟩
            case round => as_aux_lemma =>
              obtain ⟨i, hi30, rfl, S, D, d, B, hd, hdL, hf, hn, hgw, hgd, hB, ho⟩ := hrel
              have hgwl := (Array.getElem?_eq_some_iff.1 hgw).1
              have hgdl := (Array.getElem?_eq_some_iff.1 hgd).1
              have Hgw := Lib.hid hgw
              have Hgd := Lib.hid hgd
              have HB := Lib.hid hB
              have HdL := Lib.hid hdL
              have Hf := Lib.hid hf
              clear hgw hgd hB
              by_cases hgo : i < n2 ∧ i < 30
              · as_aux_lemma =>
                obtain ⟨hj1, hj2⟩ := hgo
                obtain ⟨b, o, s, y, rfl, hs1, hs2, hc⟩ := H2.out i hj1
                obtain ⟨c1, c3⟩ := hc wr (HBelow.out wr ho)
                have hw := fun (w2 : World) (g : Nat) => Hwrite.out F2 wr w2 _ _ _ g S D d s y hd hf (by omega) (Hfr2.out wr hgdl)
                have hi0 : (0 : Int) ≤ (i : Int) := by omega
                have hi1 : (i : Int) < (n2 : Int) := by omega
                have hlen : (d.L.length : Int) = 20 := by rw [hdL, HL2.out]; rfl
                by_cases hs : 0 ≤ s ∧ s < 20
                · obtain ⟨q, rfl⟩ := Int.eq_ofNat_of_zero_le hs.1
                  have hq20 : q < 20 := by omega
                  have hq1 : (q : Int) < 20 := by omega
                  have hq0 : (0 : Int) ≤ (q : Int) := by omega
                  rw [hlen, if_pos hs] at hw
                  have Hw := Lib.hid hw
                  clear hw hc hd hf hdL hlen hs
                  go_wp2_with (first
                    | (go_at_call 21; refine (full_one y _).mono ?_; rintro e w2 ⟨g, rfl, hg, hh, hb2⟩)
                    | (go_at_call 20; refine (Hw.out w2 g hb2 hg hh).mono ?_; rintro e w3 ⟨S3, D3, rfl, hd3, ho3⟩; have Hgw3 := Lib.hid ((ho3.block _ hgwl Hnw.out).trans Hgw.out); have hgd3 := (ho3.block _ hgdl Hnd.out).trans Hgd.out; have hcd : w3.cell? ⟨wB.heap.size + 1, q, none⟩ = some (.bool (B q)) := (by rw [cell_of_row w3 _ q _ 51 (0, 0) hgd3, List.getElem?_toArray]; exact dirtyL_at B hq20); have hfd := frozen_of_row w3 (wB.heap.size + 1) q _ 51 hgd3; have Hgd3 := Lib.hid hgd3; clear hgd3))
                  go_roundw
                  case rel =>
                    refine ⟨i + 1, by omega, by go_num, S3, D3, d.sec q (one y), (fun j => if j = q then true else B j), ?_, ?_, ?_, ?_, ?_, ?_, ?_, ?_⟩
                    · exact hd3.keep fun k _ hk => heap_setCell_other w3 _ k _ (fun e : k = wB.heap.size + 1 => Hnd.out (by rw [← e]; exact hk))
                    · rw [Dev.sec_L]; exact HdL.out
                    · intro k; rw [Dev.sec_f]; exact Hf.out k
                    · have := Dev.sec_n d q (one y); omega
                    · exact (heap_setCell_other w3 _ _ _ (by simp)).trans Hgw3.out
                    · rw [← dirtyL_set B q]
                      have := heap_setCell_same w3 (wB.heap.size + 1) q _ 51 (.bool true) Hgd3.out
                      simpa using this
                    · intro j hj hBj
                      change (if j = q then true else B j) = false at hBj
                      by_cases e : j = q
                      · rw [if_pos e] at hBj; cases hBj
                      · rw [if_neg e] at hBj
                        rw [Dev.sec_Q _ _ _ (by omega)]
                        exact HB.out j hj hBj
                    · exact ho.trans ((ho3.mono fun k _ hk => Hsub.out k hk).trans (Only.setCell hFgd _))
                  case measure => simp [intOf]; omega
                · rw [hlen, if_neg hs] at hw
                  have hsec : d.sec s (one y) = d := by unfold Dev.sec; rw [hlen, if_neg hs]
                  rw [hsec] at hw
                  have Hw := Lib.hid hw
                  clear hw hc hd hf hdL hlen hs hsec
                  go_wp2_with (first
                    | (go_at_call 21; refine (full_one y _).mono ?_; rintro e w2 ⟨g, rfl, hg, hh, hb2⟩)
                    | (go_at_call 20; refine (Hw.out w2 g hb2 hg hh).mono ?_; rintro e w3 ⟨S3, D3, rfl, hd3, ho3⟩))
                  go_roundw
                  case rel =>
                    exact ⟨i + 1, by omega, by go_num, S3, D3, d, B, hd3, HdL.out, Hf.out, by omega, (ho3.block _ hgwl Hnw.out).trans Hgw.out, (ho3.block _ hgdl Hnd.out).trans Hgd.out, HB.out, ho.trans (ho3.mono fun k _ hk => Hsub.out k hk)⟩
                  case measure => simp [intOf]; omega
              · have hex : n2 ≤ i ∨ (i < n2 ∧ 30 ≤ i) := by omega
                have hcr := Hcrash.out F2 wr _ _ _ S D d hd Hsub.out (Hfr2.out wr hgdl) (by omega) ho
                have Hcr := Lib.hid hcr
                obtain ⟨dC, hdC⟩ : ∃ dC, dC = d.crash ks := ⟨_, rfl⟩
                rw [← hdC] at Hcr
                have hfC : ∀ k, (dC.f k).1 = false := fun k => by rw [hdC]; rfl
                have hLC : dC.L.length = 20 := by rw [hdC]; show (lose _ _ _ _).length = 20; rw [lose_length, hdL, HL2.out]
                have hnC : dC.n ≤ 60 := by rw [hdC]; show d.n ≤ 60; omega
                have hBC : ∀ j, j < 20 → B j = false → firstB (dC.now j) = W j := fun j hj hBj => by
                  rw [hdC, Dev.crash_low d ks (HB.out j hj hBj), hdL]
                  exact HW.out j
                have HfC := Lib.hid hfC
                have HLC := Lib.hid hLC
                have HBC := Lib.hid hBC
                have hk40 := HK.out.2
                clear hcr hdC hfC hLC hBC hd hf hdL hgo HB Hst
                rcases hex with t1 | ⟨t1, t2⟩
                all_goals as_aux_lemma =>
                  go_wp2_with (go_at_call 16; refine Hcr.out.mono ?_; rintro e w4 ⟨S4, D4, rfl, hd4, ho4⟩)
                  have Hgw4 := Lib.hid ((ho4.block _ hgwl Hnw.out).trans Hgw.out)
                  have Hgd4 := Lib.hid ((ho4.block _ hgdl Hnd.out).trans Hgd.out)
                  have ho4' : Only F w w4 := ho.trans (ho4.mono fun k _ hk => Hsub.out k hk)
                  as_aux_lemma =>
                  go_loopw [17] (fun iv wr => ∃ i : Nat, i ≤ 20 ∧ iv = .int .i64 (i : Int) ∧ wr.heap[wB.heap.size]? = some (.cells (wasL W 20).toArray 50 (0, 0)) ∧ wr.heap[wB.heap.size + 1]? = some (.cells (dirtyL B).toArray 51 (0, 0)) ∧ DevIs wr F2 (w.heap.size + 2) w.heap.size (w.heap.size + 1) S4 D4 dC ∧ Only F w wr) (fun iv _ => 20 - (intOf iv).toNat)
                  case atStart => exact ⟨0, by omega, rfl, Hgw4.out, Hgd4.out, hd4, ho4'⟩
                  case round => as_aux_lemma =>
                    obtain ⟨i, hi20, rfl, hgw5, hgd5, hd5, ho5⟩ := hrel
                    by_cases hi : i < 20
                    · as_aux_lemma =>
                      have hread := read_sec hd5 (i := i) (by rw [HLC.out]; exact hi) HfC.out (by omega)
                      have hgwl5 := (Array.getElem?_eq_some_iff.1 hgw5).1
                      have hgdl5 := (Array.getElem?_eq_some_iff.1 hgd5).1
                      have Hgw5 := Lib.hid hgw5
                      have Hgd5 := Lib.hid hgd5
                      have hi0 : (0 : Int) ≤ (i : Int) := by omega
                      have hi1 : (i : Int) < 20 := by omega
                      have hBi := HBC.out i hi
                      rcases hBq : B i with _ | _
                      · rw [hBi hBq] at hread
                        have Hread := Lib.hid hread
                        clear hread hgw5 hgd5 hd5 hBi
                        go_wp2_with (go_at_call 18; refine Hread.out.mono ?_; rintro e w6 ⟨g, rfl, hc0, hd6, ho6⟩; have Hgw6 := Lib.hid ((ho6.block _ hgwl5 Hnw.out).trans Hgw5.out); have Hgd6 := Lib.hid ((ho6.block _ hgdl5 Hnd.out).trans Hgd5.out); have hcw : w6.cell? ⟨wB.heap.size, i, none⟩ = some (.int .u8 ((W i).toNat : Int)) := (by rw [cell_of_row w6 _ i _ 50 (0, 0) Hgw6.out, List.getElem?_toArray, wasL_at W 20 hi, if_pos hi]); have hcd : w6.cell? ⟨wB.heap.size + 1, i, none⟩ = some (.bool false) := (by rw [cell_of_row w6 _ i _ 51 (0, 0) Hgd6.out, List.getElem?_toArray, dirtyL_at B hi, hBq]))
                        go_quiet (fail)
                        go_wp2_with fail
                        go_roundw
                        case rel => exact ⟨i + 1, by omega, by go_num, Hgw6.out, Hgd6.out, hd6.keep (fun _ _ _ => rfl), ho5.trans (Only.drewN (ho6.mono fun k _ hk => Hsub.out k hk) _)⟩
                        case measure => simp [intOf]; omega
                      · have Hread := Lib.hid hread
                        clear hread hgw5 hgd5 hd5 hBi
                        go_wp2_with (go_at_call 18; refine Hread.out.mono ?_; rintro e w6 ⟨g, rfl, hc0, hd6, ho6⟩; have Hgw6 := Lib.hid ((ho6.block _ hgwl5 Hnw.out).trans Hgw5.out); have Hgd6 := Lib.hid ((ho6.block _ hgdl5 Hnd.out).trans Hgd5.out); have hcd : w6.cell? ⟨wB.heap.size + 1, i, none⟩ = some (.bool true) := (by rw [cell_of_row w6 _ i _ 51 (0, 0) Hgd6.out, List.getElem?_toArray, dirtyL_at B hi, hBq]))
                        go_quiet (fail)
                        go_wp2_with fail
                        go_roundw
                        case rel => exact ⟨i + 1, by omega, by go_num, Hgw6.out, Hgd6.out, hd6.keep (fun _ _ _ => rfl), ho5.trans (Only.drewN (ho6.mono fun k _ hk => Hsub.out k hk) _)⟩
                        case measure => simp [intOf]; omega
                    · have hi2 : 20 ≤ i := by omega
                      go_wp2_with (go_at_call 8; refine (lives_any _).mono ?_; rintro e w9 ⟨rfl, hb9⟩)
                      go_ret
                      exact ⟨rfl, up (HBelow.out _ ho5) hb9⟩
set_option maxRecDepth 100000 in
set_option maxHeartbeats 4000000 in
theorem flushed_big (A A2 A3 : Option Addr) (n n2 n3 c c2 c3 : Nat) (lost ks : List Int) (w : World) (h1 : ActsAt w A n) (h2 : ActsAt w A2 n2) (h3 : Rd w w.heap.size (.slice A3 n3 c3) (cellsZ lost)) (hk : n3 = lost.length ∧ 40 < n3 ∧ ks = lost.take 40) :
    Calls Try.prog 4 #[.slice A n c, .slice A2 n2 c2, .slice A3 n3 c3] w fun e w' => e = .returned (.bool true) ∧ Below w.heap.size w w' := by
  obtain ⟨hn3, hks, hks2⟩ := hk
  have hcap : 40 ≤ c3 := by
    obtain ⟨_, _, e, h1, _⟩ := h3
    injection e with e1 e2 e3
    omega
  have hrd : Rd w w.heap.size (.slice A3 40 c3) (cellsZ ks) := by
    have h := h3.upto (hi := 40) (by omega)
    have e : (cellsZ lost).take 40 = cellsZ ks := by rw [hks2]; simp [cellsZ]
    rwa [e] at h
  have hK : 40 = ks.length := by rw [hks2, List.length_take]; omega
  obtain ⟨F, hF⟩ : ∃ F : Nat → Prop, F = fun k => w.heap.size ≤ k := ⟨_, rfl⟩
  have hFresh : ∀ w' : World, w.heap.size ≤ w'.heap.size → ∀ k, w'.heap.size ≤ k → F k := fun w' hw k hk => by rw [hF]; exact Nat.le_trans hw hk
  have hBelow : ∀ w', Only F w w' → Below w.heap.size w w' := fun w' h => by rw [hF] at h; exact h.below (Nat.le_refl _)
  have hFlow : ∀ k, k < w.heap.size → ¬ F k := fun k hk => by rw [hF]; omega
  have hnew := new_ok (n := 20) w F ⟨by omega, by omega⟩ (hFresh w (Nat.le_refl _))
  -- a write, the device in blocks of any G
  have hwrite : ∀ (G : Nat → Prop) (w1 w2 : World) (p bl bm g : Nat) (S : Nat → Value) (D : DataW Value) (d : Dev) (s : Int) (y : UInt8), DevIs w1 G p bl bm S D d → (∀ k, (d.f k).1 = false) → d.n < 1000000 → (∀ k, w1.heap.size ≤ k → G k) → Below w1.heap.size w1 w2 → w1.heap.size ≤ g → w2.heap[g]? = some (.cells (cellsB (one y)).toArray 5 (0, 0)) →
      Calls Try.prog 20 #[at0 p, .int .i64 s, .slice (some ⟨g, 0, none⟩) 256 256] w2 fun e w' => ∃ S' D', e = .returned (.int .i64 (if 0 ≤ s ∧ s < (d.L.length : Int) then 0 else 1)) ∧ DevIs w' G p bl bm S' D' (d.sec s (one y)) ∧ Only G w1 w' := by
    intro G w1 w2 p bl bm g S D d s y hd hf hn hG hb hg hh
    refine (write_sec (hd.far hb hg) hf hn (one_length y) hh (fun k hk => hG k (Nat.le_trans hb.size hk))).mono ?_
    rintro e w' ⟨S', D', rfl, hd', ho'⟩
    exact ⟨S', D', rfl, hd', (Only.of_below hb).trans ho'⟩
  have hflush : ∀ (w1 : World) (p bl bm : Nat) (S : Nat → Value) (D : DataW Value) (d : Dev), DevIs w1 F p bl bm S D d → (∀ k, (d.f k).1 = false) → d.n < 1000000 → Only F w w1 →
      Calls Try.prog 22 #[at0 p] w1 fun e w' => ∃ S' D', e = .returned (.int .i64 0) ∧ DevIs w' F p bl bm S' D' d.flush ∧ Only F w w' := by
    intro w1 p bl bm S D d hd hf hn ho
    have h := flush_ok hd (Dev.burns_idle _ _ (hf 3)) hn (hFresh w1 ho.size)
    rw [Dev.burn_idle _ _ (hf 3)] at h
    refine h.mono ?_
    rintro e w' ⟨S', D', rfl, hd', ho'⟩
    exact ⟨S', D', rfl, hd', ho.trans ho'⟩
  have hcrash : ∀ (G : Nat → Prop) (w1 : World) (p bl bm : Nat) (S : Nat → Value) (D : DataW Value) (d : Dev), DevIs w1 G p bl bm S D d → (∀ k, G k → F k) → (∀ k, w1.heap.size ≤ k → G k) → d.n < 1000000 → Only F w w1 →
      Calls Try.prog 16 #[at0 p, .slice A3 40 c3] w1 fun e w' => ∃ S' D', e = .returned (.tuple #[]) ∧ DevIs w' G p bl bm S' D' (d.crash ks) ∧ Only G w1 w' := by
    intro G w1 p bl bm S D d hd hGF hG hn ho
    rw [hK]
    refine crash_any hd hn (fun hp => ?_) (by omega) hG
    obtain ⟨_, _, e, _, _, _, hr⟩ := hrd
    injection e with e1 e2 e3
    subst e1
    obtain ⟨b, o, rfl, hb, hc⟩ := hr (by rw [cellsZ_length]; exact hp)
    refine ⟨b, o, rfl, Nat.lt_of_lt_of_le hb ho.size, fun hn => hFlow b hb (hGF b hn), fun j hj => ?_⟩
    exact (World.cell?_of_block (a := ⟨b, o + j, none⟩) (ho.block b hb (hFlow b hb))).trans (hc j _ (cellsZ_at ks j hj))
  have HK := Kept.mk (And.intro hK hks)
  have Hnew := Lib.hid hnew
  have Hwrite := Lib.hid hwrite
  have Hflush := Lib.hid hflush
  have Hcrash := Lib.hid hcrash
  have HBelow := Lib.hid hBelow
  have HFresh := Lib.hid hFresh
  have H1 := Lib.hid h1
  have H2 := Lib.hid h2
  have hFw := hFresh w (Nat.le_refl _)
  have HFw := Lib.hid hFw
  clear hnew hwrite hflush hcrash hBelow hFresh hF hFlow h1 h2 h3 hrd hK hks hFw hn3 hks2
  go_enter Try.func4, Try.ntmps4
  go_wp2_with (go_at_call 7; refine Hnew.out.mono ?_; rintro e w1 ⟨rfl, hd1, hb1⟩; have ho1 : Only F w w1 := Only.of_below hb1)
  go_loopw [9] (fun iv wr => ∃ (j : Nat) (S : Nat → Value) (D : DataW Value) (d : Dev), j ≤ 30 ∧ iv = .int .i64 (j : Int) ∧ DevIs wr F (w.heap.size + 2) w.heap.size (w.heap.size + 1) S D d ∧ (∀ k, (d.f k).1 = false) ∧ d.L.length = 20 ∧ d.n ≤ j ∧ Only F w wr) (fun iv _ => 30 - (intOf iv).toNat)
  case atStart => exact ⟨0, _, _, _, by omega, rfl, hd1, (fun _ => rfl), Dev.new_length 20, Nat.le_refl _, ho1⟩
  case round => as_aux_lemma =>
    obtain ⟨j, S, D, d, hj30, rfl, hd, hf, hL, hn, ho⟩ := hrel
    by_cases hgo : j < n ∧ j < 30
    · as_aux_lemma =>
      obtain ⟨hj1, hj2⟩ := hgo
      have t1 : decide ((j : Int) < (n : Int)) = true := by rw [decide_eq_true_eq]; omega
      have t2 : decide ((j : Int) < 30) = true := by rw [decide_eq_true_eq]; omega
      obtain ⟨b, o, s, y, rfl, _, _, hc⟩ := H1.out j hj1
      obtain ⟨c1, c3⟩ := hc wr (HBelow.out wr ho)
      have hw := Hwrite.out F wr.drew
      have hd0 : DevIs wr.drew F (w.heap.size + 2) w.heap.size (w.heap.size + 1) S D d := hd.keep fun _ _ _ => rfl
      have hw2 := fun (w2 : World) (g : Nat) (hb : Below wr.drew.heap.size wr.drew w2) (hg : wr.drew.heap.size ≤ g) (hh : w2.heap[g]? = some (.cells (cellsB (one y)).toArray 5 (0, 0))) => hw w2 _ _ _ g S D d s y hd0 hf (by omega) (HFresh.out wr.drew ho.size) hb hg hh
      have Hw2 := Lib.hid hw2
      have Hf := Lib.hid hf
      have hi0 : (0 : Int) ≤ (j : Int) := by omega
      have hi1 : (j : Int) < (n : Int) := by omega
      clear hc hw hw2 hf hd
      go_wp2_with fail
      refine wp_region_held_drew (S := fun w' => w'.cell? ⟨b, o + j * 5 + 1, none⟩ = some (.int .i64 s) ∧ w'.cell? ⟨b, o + j * 5 + 3, none⟩ = some (.int .u8 (y.toNat : Int))) (by kernel_rfl) ?_ (fun hHeld => ?_)
      · exact ⟨c1, c3⟩
      refine' wpAnyH_take (i := 0) (oi := ⟨some 40, .move (.tmp 7), _, _, _, none⟩) (v := _) rfl (by kernel_rfl) (by kernel_rfl) (by kernel_rfl) (fun _ _ _ h => h) (Or.inl ⟨by rfl, ?hy0⟩) (by assumption) ?rest0
      case hy0 => (intro w hSw; obtain ⟨s1, s3⟩ := hSw; go_simp <;> with_reducible rfl)
      case rest0 =>
      go_frame
      refine' wpAnyH_take (i := 1) (oi := ⟨some 41, .move (.tmp 0), _, _, _, none⟩) (v := _) rfl (by kernel_rfl) (by kernel_rfl) (by kernel_rfl) (fun _ _ _ h => h) (Or.inl ⟨by rfl, ?hy1⟩) (by assumption) ?rest1
      case hy1 => (intro w hSw; obtain ⟨s1, s3⟩ := hSw; go_simp <;> with_reducible rfl)
      case rest1 =>
      go_frame
      refine' wpAnyH_take (i := 2) (oi := ⟨some 42, .move (.tmp 9), _, _, _, none⟩) (v := _) rfl (by kernel_rfl) (by kernel_rfl) (by kernel_rfl) (fun _ _ _ h => h) (Or.inl ⟨by rfl, ?hy2⟩) (by assumption) ?rest2
      case hy2 => (intro w hSw; obtain ⟨s1, s3⟩ := hSw; go_simp <;> with_reducible rfl)
      case rest2 =>
      go_frame
      refine' wpAnyH_take (i := 3) (oi := ⟨some 43, .indexAddr 22 (.tmp 41) (.tmp 42), _, _, _, none⟩) (v := _) rfl (by kernel_rfl) (by kernel_rfl) (by kernel_rfl) (fun _ _ _ h => h) (Or.inl ⟨by rfl, ?hy3⟩) (by assumption) ?rest3
      case hy3 => (intro w hSw; obtain ⟨s1, s3⟩ := hSw; go_simp <;> with_reducible rfl)
      case rest3 =>
      go_frame
      refine' wpAnyH_take (i := 4) (oi := ⟨some 44, .fieldAddr 34 (.tmp 43) 1, _, _, _, none⟩) (v := _) rfl (by kernel_rfl) (by kernel_rfl) (by kernel_rfl) (fun _ _ _ h => h) (Or.inl ⟨by rfl, ?hy4⟩) (by assumption) ?rest4
      case hy4 => (intro w hSw; obtain ⟨s1, s3⟩ := hSw; go_simp <;> with_reducible rfl)
      case rest4 =>
      go_frame
      refine' wpAnyH_take (i := 5) (oi := ⟨some 45, .load 3 (.tmp 44), _, _, _, none⟩) (v := _) rfl (by kernel_rfl) (by kernel_rfl) (by kernel_rfl) (fun _ _ _ h => h) (Or.inl ⟨by rfl, ?hy5⟩) (by assumption) ?rest5
      case hy5 => (intro w hSw; obtain ⟨s1, s3⟩ := hSw; go_simp <;> with_reducible rfl)
      case rest5 =>
      go_frame
      refine' wpAnyH_take (i := 6) (oi := ⟨some 46, .move (.tmp 0), _, _, _, none⟩) (v := _) rfl (by kernel_rfl) (by kernel_rfl) (by kernel_rfl) (fun _ _ _ h => h) (Or.inl ⟨by rfl, ?hy6⟩) (by assumption) ?rest6
      case hy6 => (intro w hSw; obtain ⟨s1, s3⟩ := hSw; go_simp <;> with_reducible rfl)
      case rest6 =>
      go_frame
      refine' wpAnyH_take (i := 7) (oi := ⟨some 47, .move (.tmp 9), _, _, _, none⟩) (v := _) rfl (by kernel_rfl) (by kernel_rfl) (by kernel_rfl) (fun _ _ _ h => h) (Or.inl ⟨by rfl, ?hy7⟩) (by assumption) ?rest7
      case hy7 => (intro w hSw; obtain ⟨s1, s3⟩ := hSw; go_simp <;> with_reducible rfl)
      case rest7 =>
      go_frame
      refine' wpAnyH_take (i := 8) (oi := ⟨some 48, .indexAddr 22 (.tmp 46) (.tmp 47), _, _, _, none⟩) (v := _) rfl (by kernel_rfl) (by kernel_rfl) (by kernel_rfl) (fun _ _ _ h => h) (Or.inl ⟨by rfl, ?hy8⟩) (by assumption) ?rest8
      case hy8 => (intro w hSw; obtain ⟨s1, s3⟩ := hSw; go_simp <;> with_reducible rfl)
      case rest8 =>
      go_frame
      refine' wpAnyH_take (i := 9) (oi := ⟨some 49, .fieldAddr 34 (.tmp 48) 3, _, _, _, none⟩) (v := _) rfl (by kernel_rfl) (by kernel_rfl) (by kernel_rfl) (fun _ _ _ h => h) (Or.inl ⟨by rfl, ?hy9⟩) (by assumption) ?rest9
      case hy9 => (intro w hSw; obtain ⟨s1, s3⟩ := hSw; go_simp <;> with_reducible rfl)
      case rest9 =>
      go_frame
      refine' wpAnyH_take (i := 10) (oi := ⟨some 50, .load 5 (.tmp 49), _, _, _, none⟩) (v := _) rfl (by kernel_rfl) (by kernel_rfl) (by kernel_rfl) (fun _ _ _ h => h) (Or.inl ⟨by rfl, ?hy10⟩) (by assumption) ?rest10
      case hy10 => (intro w hSw; obtain ⟨s1, s3⟩ := hSw; go_simp <;> with_reducible rfl)
      case rest10 =>
      go_frame
      refine wpAnyH_ready (rs := [11]) (by kernel_rfl) (by simp) (AllReadyH.cons (o := ⟨some 51, .call { callee := .value (.func 21), args := #[.tmp 50], argTypes := #[5] }, _, _, _, none⟩) rfl (fun K hK => ?_) AllReadyH.nil)
      rw [if_pos (by rfl)]
      go_simp
      refine (full_one y _).mono ?_
      rintro e w2 ⟨g, rfl, hg, hh, hb2⟩
      dsimp only
      have hlt := World.block_lt_of_cell? wr _ c1
      refine hK.out _ _ ⟨(hb2.cell (p := ⟨b, o + j * 5 + 1, none⟩) hlt).trans c1, (hb2.cell (p := ⟨b, o + j * 5 + 3, none⟩) hlt).trans c3⟩ (fun hHeld => ?_)
      clear hK K
      refine wpAnyH_ready (rs := [12]) (by kernel_rfl) (by simp) (AllReadyH.cons (o := ⟨some 52, .call { callee := .value (.func 20), args := #[.tmp 40, .tmp 45, .tmp 51], argTypes := #[23, 3, 42] }, _, _, _, none⟩) rfl (fun K hK => ?_) AllReadyH.nil)
      rw [if_pos (by rfl)]
      go_simp
      refine (Hw2.out w2 g hb2 hg hh).mono ?_
      rintro e w3 ⟨S3, D3, rfl, hd3, ho3⟩
      dsimp only
      have ho3' : Only F w w3 := ho.trans ((Only.drew F wr).trans ho3)
      have hbel3 := HBelow.out w3 ho3'
      have hs3 : w3.cell? ⟨b, o + j * 5 + 1, none⟩ = some (.int .i64 s) ∧ w3.cell? ⟨b, o + j * 5 + 3, none⟩ = some (.int .u8 (y.toNat : Int)) := by
        obtain ⟨b', o', s', y', e, _, _, hc⟩ := H1.out j hj1
        injection e with e
        injection e with e1 e2
        subst e1 e2
        have h1 := (hc wr (HBelow.out wr ho)).1
        have h3 := (hc wr (HBelow.out wr ho)).2
        rw [c1] at h1
        rw [c3] at h3
        rw [h1, h3]
        exact hc w3 hbel3
      refine hK.out _ _ hs3 (fun hHeld => ?_)
      clear hK K
      refine wpAnyH_done (by kernel_rfl) ?_ _
      go_wp2_with fail
      go_roundw
      case rel => exact ⟨j + 1, S3, D3, _, by omega, by go_num, hd3, (fun k => by rw [Dev.sec_f]; exact Hf.out k), (by rw [Dev.sec_L]; exact hL), (by have := Dev.sec_n d s (one y); omega), ho3'⟩
      case measure => simp [intOf]; omega
    · have hex : n ≤ j ∨ (j < n ∧ 30 ≤ j) := by omega
      have hfl := Hflush.out wr _ _ _ S D d hd hf (by omega) ho
      have Hfl := Lib.hid hfl
      have hL2 : d.flush.L.length = 20 := by rw [Dev.flush_length]; exact hL
      obtain ⟨dB, hdB⟩ : ∃ dB, dB = d.flush := ⟨_, rfl⟩
      rw [← hdB] at Hfl hL2
      have hfB : ∀ k, (dB.f k).1 = false := fun k => by rw [hdB]; exact hf k
      have hQB : ∀ i, dB.Q i = [] := fun i => by rw [hdB]; rfl
      have hnB : dB.n ≤ 30 := by rw [hdB]; show d.n ≤ 30; omega
      have HfB := Lib.hid hfB
      have HQB := Lib.hid hQB
      have HL2 := Lib.hid hL2
      clear hgo hfl hdB hf hfB hQB hd hL hL2
      obtain ⟨W, hW⟩ : ∃ W : Nat → UInt8, W = fun i => firstB (dB.L.getD i []) := ⟨_, rfl⟩
      have hWi : ∀ i, firstB (dB.L.getD i []) = W i := fun i => by rw [hW]
      have HW := Lib.hid hWi
      clear hW hWi
      obtain ⟨Zu, hZu⟩ : ∃ Zu, Zu = (wasL W 0).toArray := ⟨_, rfl⟩
      obtain ⟨Zb, hZb⟩ : ∃ Zb, Zb = (dirtyL fun _ => false).toArray := ⟨_, rfl⟩
      have hzu : Kept (∀ w, (zeroValue 50).run Try.prog w = .ok (.agg Zu) w) := ⟨by rw [hZu]; exact zero_was W⟩
      have hzb : Kept (∀ w, (zeroValue 51).run Try.prog w = .ok (.agg Zb) w) := ⟨by rw [hZb]; exact zero_dirty⟩
      have hiu : Kept ((Try.prog.info? 50).map (·.size) = some Zu.size) := ⟨by rw [info_was, hZu]; simp [wasL]⟩
      have hib : Kept ((Try.prog.info? 51).map (·.size) = some Zb.size) := ⟨by rw [info_dirty, hZb]; simp [dirtyL]⟩
      have hou : Kept (Zu.all (·.oneCell') = true) := ⟨by rw [hZu]; exact all_oneCell_toArray (wasL_one W 0)⟩
      have hob : Kept (Zb.all (·.oneCell') = true) := ⟨by rw [hZb]; exact all_oneCell_toArray (dirtyL_one _)⟩
      have hbu := fun w => build_none Try.underlying50 hzu.out ⟨1, Try.sizeOf5⟩ w
      have hbb := fun w => build_none Try.underlying51 hzb.out ⟨1, Try.sizeOf4⟩ w
      have HZu := Lib.hid hZu
      have HZb := Lib.hid hZb
      clear hZu hZb
      rcases hex with t1 | ⟨t1, t2⟩
      all_goals as_aux_lemma =>
        go_wp2_with (first
          | (go_at_call 22; refine Hfl.out.mono ?_; rintro e wB ⟨SB, DB, rfl, hdev, hoB⟩)
          | (with_reducible refine wpList_run (o := ⟨some 56, .build 50 #[], _, _, _, none⟩) rfl (.agg Zu) wB (exec_build rfl (hbu wB)) ?_)
          | (with_reducible refine wpList_run (o := ⟨some 57, .build 51 #[], _, _, _, none⟩) rfl (.agg Zb) wB (exec_build rfl (hbb wB)) ?_)
          | (with_reducible refine wpList_alloc_zero (o := ⟨some 10, .alloc 50, _, _, _, none⟩) rfl 50 rfl Zu hzu.out ?_)
          | (with_reducible refine wpList_alloc_zero (o := ⟨some 11, .alloc 51, _, _, _, none⟩) rfl 51 rfl Zb hzb.out ?_)
          | ((with_reducible refine wpList_store_same (o := ⟨none, .store 50 (.tmp 10) (.tmp 56), _, _, _, none⟩) rfl 50 (.tmp 10) (.tmp 56) rfl wB.heap.size Zu 50 ?_ ?_ (two_first _ _ _ _ _) hiu.out hou.out ?_); exact rfl; exact rfl)
          | ((with_reducible refine wpList_store_same (o := ⟨none, .store 51 (.tmp 11) (.tmp 57), _, _, _, none⟩) rfl 51 (.tmp 11) (.tmp 57) rfl (wB.alloc (.cells Zu 50)).heap.size Zb 51 ?_ ?_ (heap_alloc_last _ _) hib.out hob.out ?_); exact rfl; exact rfl))
        obtain ⟨F2, hF2⟩ : ∃ F2 : Nat → Prop, F2 = fun k => F k ∧ k ≠ wB.heap.size ∧ k ≠ wB.heap.size + 1 := ⟨_, rfl⟩
        have hsub : ∀ k, F2 k → F k := fun k hk => by rw [hF2] at hk; exact hk.1
        have hfr2 : ∀ w' : World, wB.heap.size + 1 < w'.heap.size → ∀ k, w'.heap.size ≤ k → F2 k := fun w' hw k hk => by
          rw [hF2]
          exact ⟨HFresh.out w' (Nat.le_trans hoB.size (by omega)) k hk, by omega, by omega⟩
        have hnw : ¬ F2 wB.heap.size := fun hk => by rw [hF2] at hk; exact hk.2.1 rfl
        have hnd : ¬ F2 (wB.heap.size + 1) := fun hk => by rw [hF2] at hk; exact hk.2.2 rfl
        have hFgw : F wB.heap.size := HFw.out _ hoB.size
        have hFgd : F (wB.heap.size + 1) := HFw.out _ (Nat.le_succ_of_le hoB.size)
        have hdev2 : ∀ o1 o2 : Obj, DevIs ((wB.alloc o1).alloc o2) F2 (w.heap.size + 2) w.heap.size (w.heap.size + 1) SB DB dB := fun o1 o2 => by
          have h1 := hdev.tight.below (((Below.refl wB.heap.size wB).alloc (Nat.le_refl _) o1).alloc (by simp) o2)
          rw [hF2]
          exact h1.mono fun k _ hk => ⟨hk.1, by omega, by omega⟩
        have hoA : ∀ o1 o2 : Obj, Only F w ((wB.alloc o1).alloc o2) := fun o1 o2 => hoB.trans ((Only.alloc _ _ _).trans (Only.alloc _ _ _))
        have hsz2 : ∀ o1 : Obj, (wB.alloc o1).heap.size = wB.heap.size + 1 := fun o1 => by simp
        have hgw0 : ∀ o2 : Obj, ((wB.alloc (.cells Zu 50)).alloc o2).heap[wB.heap.size]? = some (.cells (wasL W 0).toArray 50 (0, 0)) := fun o2 => by
          rw [HZu.out, heap_alloc_old _ _ (by rw [hsz2]; omega)]
          exact heap_alloc_last _ _
        have hgd0 : ∀ o1 : Obj, ((wB.alloc o1).alloc (.cells Zb 51)).heap[wB.heap.size + 1]? = some (.cells (dirtyL fun _ => false).toArray 51 (0, 0)) := fun o1 => by
          rw [HZb.out, ← hsz2 o1]
          exact heap_alloc_last _ _
        have Hsub := Lib.hid hsub
        have Hfr2 := Lib.hid hfr2
        have Hnw := Lib.hid hnw
        have Hnd := Lib.hid hnd
        have Hdev2 := Lib.hid hdev2
        have HoA := Lib.hid hoA
        have Hgw0 := Lib.hid hgw0
        have Hgd0 := Lib.hid hgd0
        clear hF2 hsub hfr2 hnw hnd hdev2 hoA hsz2 hgw0 hgd0 hdev hoB
        as_aux_lemma =>
        go_loopw [12] (fun iv wr => ∃ i : Nat, i ≤ 20 ∧ iv = .int .i64 (i : Int) ∧ wr.heap[wB.heap.size]? = some (.cells (wasL W i).toArray 50 (0, 0)) ∧ wr.heap[wB.heap.size + 1]? = some (.cells (dirtyL fun _ => false).toArray 51 (0, 0)) ∧ DevIs wr F2 (w.heap.size + 2) w.heap.size (w.heap.size + 1) SB DB dB ∧ Only F w wr) (fun iv _ => 20 - (intOf iv).toNat)
        case atStart => exact ⟨0, by omega, rfl, Hgw0.out _, Hgd0.out _, Hdev2.out _ _, HoA.out _ _⟩
        case round => as_aux_lemma =>
          obtain ⟨i, hi20, rfl, hgw, hgd, hd, ho⟩ := hrel
          by_cases hi : i < 20
          · as_aux_lemma =>
            have hread := read_sec hd (i := i) (by rw [HL2.out]; exact hi) HfB.out (by omega)
            rw [Dev.now_low dB (HQB.out i), HW.out i] at hread
            have Hread := Lib.hid hread
            have hgwl := (Array.getElem?_eq_some_iff.1 hgw).1
            have hgdl := (Array.getElem?_eq_some_iff.1 hgd).1
            have Hgw := Lib.hid hgw
            have Hgd := Lib.hid hgd
            have hi0 : (0 : Int) ≤ (i : Int) := by omega
            have hi1 : (i : Int) < 20 := by omega
            clear hread hgw hgd hd
            go_wp2_with (go_at_call 18; refine Hread.out.mono ?_; rintro e w2 ⟨g, rfl, hc0, hd2, ho2⟩; have hgw2 := (ho2.block _ hgwl Hnw.out).trans Hgw.out; have Hgd2 := Lib.hid ((ho2.block _ hgdl Hnd.out).trans Hgd.out); have hcw : w2.cell? ⟨wB.heap.size, i, none⟩ = some (.int .u8 (((if i < i then W i else 0) : UInt8).toNat : Int)) := (by rw [cell_of_row w2 _ i _ 50 (0, 0) hgw2, List.getElem?_toArray]; exact wasL_at W i hi); have hfw := frozen_of_row w2 wB.heap.size i _ 50 hgw2; have Hgw2 := Lib.hid hgw2; clear hgw2)
            go_roundw
            case rel =>
              refine ⟨i + 1, by omega, by go_num, ?_, ?_, ?_, ?_⟩
              · rw [← wasL_set W i]
                have := heap_setCell_same w2 wB.heap.size i _ 50 (.int .u8 ((W i).toNat : Int)) Hgw2.out
                simpa using this
              · exact (heap_setCell_other w2 _ _ _ (by simp)).trans Hgd2.out
              · exact hd2.keep fun k _ hk => heap_setCell_other w2 _ k _ (fun e : k = wB.heap.size => Hnw.out (by rw [← e]; exact hk))
              · exact ho.trans ((ho2.mono fun k _ hk => Hsub.out k hk).trans (Only.setCell hFgw _))
            case measure => simp [intOf]; omega
          · have hi2 : 20 ≤ i := by omega
            have hi3 : i = 20 := by omega
            rw [hi3] at hgw
            clear hi3
            have hst : ∃ (S : Nat → Value) (D : DataW Value) (d : Dev) (B : Nat → Bool), DevIs wr F2 (w.heap.size + 2) w.heap.size (w.heap.size + 1) S D d ∧ d.L = dB.L ∧ (∀ k, (d.f k).1 = false) ∧ d.n ≤ 30 + 0 ∧ wr.heap[wB.heap.size]? = some (.cells (wasL W 20).toArray 50 (0, 0)) ∧ wr.heap[wB.heap.size + 1]? = some (.cells (dirtyL B).toArray 51 (0, 0)) ∧ (∀ j, j < 20 → B j = false → d.Q j = []) ∧ Only F w wr :=
              ⟨SB, DB, dB, _, hd, rfl, HfB.out, by omega, hgw, hgd, fun j _ _ => HQB.out j, ho⟩
            have Hst := Lib.hid hst
            clear hst hgw hgd hd ho hi Hgw0 Hgd0 Hdev2 HoA Hfl HfB HQB
            go_wp2_with fail
            as_aux_lemma =>
            go_loopw [15] (fun iv wr => ∃ i : Nat, i ≤ 30 ∧ iv = .int .i64 (i : Int) ∧ ∃ (S : Nat → Value) (D : DataW Value) (d : Dev) (B : Nat → Bool), DevIs wr F2 (w.heap.size + 2) w.heap.size (w.heap.size + 1) S D d ∧ d.L = dB.L ∧ (∀ k, (d.f k).1 = false) ∧ d.n ≤ 30 + i ∧ wr.heap[wB.heap.size]? = some (.cells (wasL W 20).toArray 50 (0, 0)) ∧ wr.heap[wB.heap.size + 1]? = some (.cells (dirtyL B).toArray 51 (0, 0)) ∧ (∀ j, j < 20 → B j = false → d.Q j = []) ∧ Only F w wr) (fun iv _ => 30 - (intOf iv).toNat)
            case atStart => exact ⟨0, by omega, rfl, Hst.out⟩
            case round => as_aux_lemma =>
              obtain ⟨i, hi30, rfl, S, D, d, B, hd, hdL, hf, hn, hgw, hgd, hB, ho⟩ := hrel
              have hgwl := (Array.getElem?_eq_some_iff.1 hgw).1
              have hgdl := (Array.getElem?_eq_some_iff.1 hgd).1
              have Hgw := Lib.hid hgw
              have Hgd := Lib.hid hgd
              have HB := Lib.hid hB
              have HdL := Lib.hid hdL
              have Hf := Lib.hid hf
              clear hgw hgd hB
              by_cases hgo : i < n2 ∧ i < 30
              · as_aux_lemma =>
                obtain ⟨hj1, hj2⟩ := hgo
                obtain ⟨b, o, s, y, rfl, hs1, hs2, hc⟩ := H2.out i hj1
                obtain ⟨c1, c3⟩ := hc wr (HBelow.out wr ho)
                have hw := fun (w2 : World) (g : Nat) => Hwrite.out F2 wr w2 _ _ _ g S D d s y hd hf (by omega) (Hfr2.out wr hgdl)
                have hi0 : (0 : Int) ≤ (i : Int) := by omega
                have hi1 : (i : Int) < (n2 : Int) := by omega
                have hlen : (d.L.length : Int) = 20 := by rw [hdL, HL2.out]; rfl
                by_cases hs : 0 ≤ s ∧ s < 20
                · obtain ⟨q, rfl⟩ := Int.eq_ofNat_of_zero_le hs.1
                  have hq20 : q < 20 := by omega
                  have hq1 : (q : Int) < 20 := by omega
                  have hq0 : (0 : Int) ≤ (q : Int) := by omega
                  rw [hlen, if_pos hs] at hw
                  have Hw := Lib.hid hw
                  clear hw hc hd hf hdL hlen hs
                  go_wp2_with (first
                    | (go_at_call 21; refine (full_one y _).mono ?_; rintro e w2 ⟨g, rfl, hg, hh, hb2⟩)
                    | (go_at_call 20; refine (Hw.out w2 g hb2 hg hh).mono ?_; rintro e w3 ⟨S3, D3, rfl, hd3, ho3⟩; have Hgw3 := Lib.hid ((ho3.block _ hgwl Hnw.out).trans Hgw.out); have hgd3 := (ho3.block _ hgdl Hnd.out).trans Hgd.out; have hcd : w3.cell? ⟨wB.heap.size + 1, q, none⟩ = some (.bool (B q)) := (by rw [cell_of_row w3 _ q _ 51 (0, 0) hgd3, List.getElem?_toArray]; exact dirtyL_at B hq20); have hfd := frozen_of_row w3 (wB.heap.size + 1) q _ 51 hgd3; have Hgd3 := Lib.hid hgd3; clear hgd3))
                  go_roundw
                  case rel =>
                    refine ⟨i + 1, by omega, by go_num, S3, D3, d.sec q (one y), (fun j => if j = q then true else B j), ?_, ?_, ?_, ?_, ?_, ?_, ?_, ?_⟩
                    · exact hd3.keep fun k _ hk => heap_setCell_other w3 _ k _ (fun e : k = wB.heap.size + 1 => Hnd.out (by rw [← e]; exact hk))
                    · rw [Dev.sec_L]; exact HdL.out
                    · intro k; rw [Dev.sec_f]; exact Hf.out k
                    · have := Dev.sec_n d q (one y); omega
                    · exact (heap_setCell_other w3 _ _ _ (by simp)).trans Hgw3.out
                    · rw [← dirtyL_set B q]
                      have := heap_setCell_same w3 (wB.heap.size + 1) q _ 51 (.bool true) Hgd3.out
                      simpa using this
                    · intro j hj hBj
                      change (if j = q then true else B j) = false at hBj
                      by_cases e : j = q
                      · rw [if_pos e] at hBj; cases hBj
                      · rw [if_neg e] at hBj
                        rw [Dev.sec_Q _ _ _ (by omega)]
                        exact HB.out j hj hBj
                    · exact ho.trans ((ho3.mono fun k _ hk => Hsub.out k hk).trans (Only.setCell hFgd _))
                  case measure => simp [intOf]; omega
                · rw [hlen, if_neg hs] at hw
                  have hsec : d.sec s (one y) = d := by unfold Dev.sec; rw [hlen, if_neg hs]
                  rw [hsec] at hw
                  have Hw := Lib.hid hw
                  clear hw hc hd hf hdL hlen hs hsec
                  go_wp2_with (first
                    | (go_at_call 21; refine (full_one y _).mono ?_; rintro e w2 ⟨g, rfl, hg, hh, hb2⟩)
                    | (go_at_call 20; refine (Hw.out w2 g hb2 hg hh).mono ?_; rintro e w3 ⟨S3, D3, rfl, hd3, ho3⟩))
                  go_roundw
                  case rel =>
                    exact ⟨i + 1, by omega, by go_num, S3, D3, d, B, hd3, HdL.out, Hf.out, by omega, (ho3.block _ hgwl Hnw.out).trans Hgw.out, (ho3.block _ hgdl Hnd.out).trans Hgd.out, HB.out, ho.trans (ho3.mono fun k _ hk => Hsub.out k hk)⟩
                  case measure => simp [intOf]; omega
              · have hex : n2 ≤ i ∨ (i < n2 ∧ 30 ≤ i) := by omega
                have hcr := Hcrash.out F2 wr _ _ _ S D d hd Hsub.out (Hfr2.out wr hgdl) (by omega) ho
                have Hcr := Lib.hid hcr
                obtain ⟨dC, hdC⟩ : ∃ dC, dC = d.crash ks := ⟨_, rfl⟩
                rw [← hdC] at Hcr
                have hfC : ∀ k, (dC.f k).1 = false := fun k => by rw [hdC]; rfl
                have hLC : dC.L.length = 20 := by rw [hdC]; show (lose _ _ _ _).length = 20; rw [lose_length, hdL, HL2.out]
                have hnC : dC.n ≤ 60 := by rw [hdC]; show d.n ≤ 60; omega
                have hBC : ∀ j, j < 20 → B j = false → firstB (dC.now j) = W j := fun j hj hBj => by
                  rw [hdC, Dev.crash_low d ks (HB.out j hj hBj), hdL]
                  exact HW.out j
                have HfC := Lib.hid hfC
                have HLC := Lib.hid hLC
                have HBC := Lib.hid hBC
                have hk40 := HK.out.2
                clear hcr hdC hfC hLC hBC hd hf hdL hgo HB Hst
                rcases hex with t1 | ⟨t1, t2⟩
                all_goals as_aux_lemma =>
                  go_wp2_with (go_at_call 16; refine Hcr.out.mono ?_; rintro e w4 ⟨S4, D4, rfl, hd4, ho4⟩)
                  have Hgw4 := Lib.hid ((ho4.block _ hgwl Hnw.out).trans Hgw.out)
                  have Hgd4 := Lib.hid ((ho4.block _ hgdl Hnd.out).trans Hgd.out)
                  have ho4' : Only F w w4 := ho.trans (ho4.mono fun k _ hk => Hsub.out k hk)
                  as_aux_lemma =>
                  go_loopw [17] (fun iv wr => ∃ i : Nat, i ≤ 20 ∧ iv = .int .i64 (i : Int) ∧ wr.heap[wB.heap.size]? = some (.cells (wasL W 20).toArray 50 (0, 0)) ∧ wr.heap[wB.heap.size + 1]? = some (.cells (dirtyL B).toArray 51 (0, 0)) ∧ DevIs wr F2 (w.heap.size + 2) w.heap.size (w.heap.size + 1) S4 D4 dC ∧ Only F w wr) (fun iv _ => 20 - (intOf iv).toNat)
                  case atStart => exact ⟨0, by omega, rfl, Hgw4.out, Hgd4.out, hd4, ho4'⟩
                  case round => as_aux_lemma =>
                    obtain ⟨i, hi20, rfl, hgw5, hgd5, hd5, ho5⟩ := hrel
                    by_cases hi : i < 20
                    · as_aux_lemma =>
                      have hread := read_sec hd5 (i := i) (by rw [HLC.out]; exact hi) HfC.out (by omega)
                      have hgwl5 := (Array.getElem?_eq_some_iff.1 hgw5).1
                      have hgdl5 := (Array.getElem?_eq_some_iff.1 hgd5).1
                      have Hgw5 := Lib.hid hgw5
                      have Hgd5 := Lib.hid hgd5
                      have hi0 : (0 : Int) ≤ (i : Int) := by omega
                      have hi1 : (i : Int) < 20 := by omega
                      have hBi := HBC.out i hi
                      rcases hBq : B i with _ | _
                      · rw [hBi hBq] at hread
                        have Hread := Lib.hid hread
                        clear hread hgw5 hgd5 hd5 hBi
                        go_wp2_with (go_at_call 18; refine Hread.out.mono ?_; rintro e w6 ⟨g, rfl, hc0, hd6, ho6⟩; have Hgw6 := Lib.hid ((ho6.block _ hgwl5 Hnw.out).trans Hgw5.out); have Hgd6 := Lib.hid ((ho6.block _ hgdl5 Hnd.out).trans Hgd5.out); have hcw : w6.cell? ⟨wB.heap.size, i, none⟩ = some (.int .u8 ((W i).toNat : Int)) := (by rw [cell_of_row w6 _ i _ 50 (0, 0) Hgw6.out, List.getElem?_toArray, wasL_at W 20 hi, if_pos hi]); have hcd : w6.cell? ⟨wB.heap.size + 1, i, none⟩ = some (.bool false) := (by rw [cell_of_row w6 _ i _ 51 (0, 0) Hgd6.out, List.getElem?_toArray, dirtyL_at B hi, hBq]))
                        go_quiet (fail)
                        go_wp2_with fail
                        go_roundw
                        case rel => exact ⟨i + 1, by omega, by go_num, Hgw6.out, Hgd6.out, hd6.keep (fun _ _ _ => rfl), ho5.trans (Only.drewN (ho6.mono fun k _ hk => Hsub.out k hk) _)⟩
                        case measure => simp [intOf]; omega
                      · have Hread := Lib.hid hread
                        clear hread hgw5 hgd5 hd5 hBi
                        go_wp2_with (go_at_call 18; refine Hread.out.mono ?_; rintro e w6 ⟨g, rfl, hc0, hd6, ho6⟩; have Hgw6 := Lib.hid ((ho6.block _ hgwl5 Hnw.out).trans Hgw5.out); have Hgd6 := Lib.hid ((ho6.block _ hgdl5 Hnd.out).trans Hgd5.out); have hcd : w6.cell? ⟨wB.heap.size + 1, i, none⟩ = some (.bool true) := (by rw [cell_of_row w6 _ i _ 51 (0, 0) Hgd6.out, List.getElem?_toArray, dirtyL_at B hi, hBq]))
                        go_quiet (fail)
                        go_wp2_with fail
                        go_roundw
                        case rel => exact ⟨i + 1, by omega, by go_num, Hgw6.out, Hgd6.out, hd6.keep (fun _ _ _ => rfl), ho5.trans (Only.drewN (ho6.mono fun k _ hk => Hsub.out k hk) _)⟩
                        case measure => simp [intOf]; omega
                    · have hi2 : 20 ≤ i := by omega
                      go_wp2_with (go_at_call 8; refine (lives_any _).mono ?_; rintro e w9 ⟨rfl, hb9⟩)
                      go_ret
                      exact ⟨rfl, up (HBelow.out _ ho5) hb9⟩
theorem devFlushed_walk (v : Value) (l : List ActD) (v2 : Value) (more : List ActD) (v3 : Value) (lost : List Int) (w : World) (h1 : Acts w v l) (h2 : Acts w v2 more) (h3 : Rd w w.heap.size v3 (cellsZ lost) ∧ Fits lost) :
    Calls Try.prog 4 #[v, v2, v3] w fun e w' => e = .returned (.bool true) ∧ Below w.heap.size w w' := by
  obtain ⟨A, c, rfl, g1⟩ := h1.at_
  obtain ⟨A2, c2, rfl, g2⟩ := h2.at_
  obtain ⟨h3, _⟩ := h3
  have h0 := h3
  obtain ⟨A3, c3, rfl, _⟩ := h0
  rw [cellsZ_length] at h3 ⊢
  by_cases h40 : 40 < lost.length
  · exact flushed_big A A2 A3 _ _ lost.length c c2 c3 lost (lost.take 40) w g1 g2 h3 ⟨rfl, h40, rfl⟩
  · exact flushed_small A A2 A3 _ _ lost.length c c2 c3 lost lost w g1 g2 h3 ⟨rfl, by omega, rfl⟩
end Go.Proofs.Ytmifaneolfciiaa
