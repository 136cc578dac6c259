/-
  Write, on a device: its contract.
-/
import Derived.Test.YtfjcblppmoomdaaDevD
namespace Go.Proofs.Ytfjcblppmoomdaa
open Go.RowKit
theorem info_sector' : (Try.prog.info? 85).map (fun i => (i.zero, i.size, i.bytes)) = some (some (.agg (Array.replicate 256 (.int .u8 0))), 256, 256) := by kernel_rfl
theorem build_sector (l : List UInt8) (hl : l.length = 256) (w : World) : (Instr.buildSlice 64 1 #[(0, .agg (cellsB l).toArray)]).run Try.prog w = .ok (.slice (some ⟨w.heap.size, 0, none⟩) 1 1) (w.alloc (.cells (cellsB l).toArray 85)) := by
  obtain ⟨ie, hie, hz0, hz1, hz2⟩ := info_parts info_sector'
  have hl2 : (cellsB l).toArray.size = 256 := by simp [cellsB_length, hl]
  exact run_slice_one 64 85 (cellsB l).toArray ie _ Try.underlying64 hie hz0 (by rw [hz1, hl2]) (by rw [hl2]; omega) (by rw [hl2]; omega)
section
variable {w : World} {F : Nat → Prop} {p bl bm : Nat} {S : Nat → Value} {D : DataW Value} {d : Dev}
/-- Sector i, written: it has the bytes l now, and they wait. -/
def Dev.put (d : Dev) (i : Nat) (l : List UInt8) : Dev := { d with Q := fun j => if j = i then d.Q i ++ [l] else d.Q j, n := d.n + 1 }
theorem row_keep {w w' : World} {v : Value} {n : Nat} {xs : List Value} (h : w.ownsRow 0 85 256 v n xs) (hk : ∀ g, v.ownBlock = some g → w'.heap[g]? = w.heap[g]?) : w'.ownsRow 0 85 256 v n xs := by
  refine ⟨h.1, ?_⟩
  rcases h.2 with hn | ⟨g, cap, cur, e, hb, hg, rest⟩
  · exact .inl hn
  · exact .inr ⟨g, cap, cur, e, hb, (hk g (by rw [e]; rfl)).trans hg, rest⟩
theorem DevIs.put (h : DevIs w F p bl bm S D d) (hF : ∀ k, w.heap.size ≤ k → F k) {i : Nat} (hi : i < d.L.length) {l : List UInt8} (hl : l.length = 256) (_ : d.n < 1000000) {v2 : Value} {w2 w3 : World}
    (hrow2 : w2.ownsRow 0 85 256 v2 ((d.Q i).length + 1) (flat (d.Q i) ++ cellsB l)) {o : Obj} (hg2 : (w.drew.alloc o).grownBy w2 (S i).ownBlock)
    (hob2 : v2.ownBlock = (S i).ownBlock ∨ v2.ownBlock = some (w.drew.alloc o).heap.size)
    (hmap3 : w3.ownsMap Try.prog 3 asHeld bm (d.n + 1) (D.put (keyL i) (.held v2))) (hg3 : w2.grownBy w3 (some bm)) :
    DevIs (w3.setCell ⟨p, 10, none⟩ (.int .i64 ((d.n : Int) + 1))) F p bl bm (fun j => if j = i then v2 else S j) (D.put (keyL i) (.held v2)) (d.put i l) ∧ Only F w (w3.setCell ⟨p, 10, none⟩ (.int .i64 ((d.n : Int) + 1))) := by
  have hlt := h.lt
  have hs2 := hg2.size
  have hs3 := hg3.size
  simp only [World.size_alloc] at hs2
  have hsd : w.drew.heap.size = w.heap.size := rfl
  rw [hsd] at hs2
  have hnew : ∀ k, v2.ownBlock = some k → (S i).ownBlock = some k ∨ k = w.heap.size + 1 := by
    intro k hk
    rcases hob2 with e | e
    · exact .inl (e.symm.trans hk)
    · rw [hk] at e
      injection e with e
      rw [World.size_alloc] at e
      exact .inr e
  have hold : ∀ k, k < w.heap.size → some k ≠ (S i).ownBlock → k ≠ bm → k ≠ p → (w3.setCell ⟨p, 10, none⟩ (.int .i64 ((d.n : Int) + 1))).heap[k]? = w.heap[k]? := fun k hk h1 h2 h3 =>
    (heap_setCell_other w3 _ k _ h3).trans ((hg3.block k (by omega) (fun e => h2 (by injection e))).trans ((hg2.block k (by rw [World.size_alloc, hsd]; omega) h1).trans (heap_alloc_old w.drew o (by rw [hsd]; exact hk))))
  have hSi : ∀ k, (S i).ownBlock = some k → F k ∧ k ≠ p ∧ k ≠ bl ∧ k ≠ bm := fun k hk => h.own i k hi hk
  have hv2 : ∀ k, v2.ownBlock = some k → F k ∧ k ≠ p ∧ k ≠ bl ∧ k ≠ bm := fun k hk => by
    rcases hnew k hk with e | e
    · exact hSi k e
    · exact ⟨hF k (by omega), by omega, by omega, by omega⟩
  have hSlt : ∀ j k, j < d.L.length → (S j).ownBlock = some k → k < w.heap.size := fun j k hj e => ((h.row j hj).lt k e).2
  have hkey : WideAt.IsKeyLit (keyL i) := keyed_int.key (Maps.keyOf_int_mk (a := (i : Int)) Try.underlying3 (WalkArith.wf_i64 (by have := h.size; omega)))
  have hkne : ∀ j, j ≠ i → keyL j ≠ keyL i := fun j hj e => hj (by injection e with e1 e2; omega)
  refine ⟨⟨?_, ?_, ?_, ?_, ?_, ?_, ?_, ?_, ?_, h.ne, h.inF, h.wl, ?_, h.size, ?_, h.fuel⟩, ?_, ?_, ?_, ?_, ?_⟩
  · have e : w3.heap[p]? = some (.cells (devCells d bl bm).toArray 71 (0, 0)) :=
      ((hg3.block p (by omega) (fun e => h.ne.2.1 (by injection e))).trans ((hg2.block p (by rw [World.size_alloc, hsd]; omega) (fun e => (hSi p e.symm).2.1 rfl)).trans (heap_alloc_old w.drew o (by rw [hsd]; exact hlt.1)))).trans h.top
    have := heap_setCell_same w3 p 10 _ 71 (.int .i64 ((d.n : Int) + 1)) e
    simpa [devCells, Dev.put] using this
  · exact (hold bl hlt.2.1 (fun e => (hSi bl e.symm).2.2.1 rfl) h.ne.2.2 h.ne.1.symm).trans h.last
  · exact World.ownsMap.setCell hmap3 h.ne.2.1.symm _
  · intro j hj
    by_cases e : j = i
    · subst e
      rw [if_pos rfl]
      exact Maps.atKey_put_same (h.map.isMap) hkey _ _
    · rw [if_neg e, Maps.atKey_put_other (hkne j e)]
      exact h.at_ j hj
  · intro j hj
    by_cases e : j = i
    · subst e
      have e1 : flat [l] = cellsB l := by simp [flat]
      simp only [Dev.put, if_true, List.length_append, List.length_cons, List.length_nil, flat_append, e1, Nat.zero_add]
      refine row_keep hrow2 fun k hk => ?_
      have hb := hv2 k hk
      refine (heap_setCell_other w3 _ k _ hb.2.1).trans (hg3.block k ?_ (fun e => hb.2.2.2 (by injection e)))
      exact (hrow2.lt k hk).2
    · simp only [Dev.put, if_neg e]
      refine row_keep (h.row j hj) fun k hk => ?_
      have hb := h.own j k hj hk
      refine hold k (hSlt j k hj hk) (fun e2 => ?_) hb.2.2.2 hb.2.1
      rcases h.apart j i hj hi e with e3 | e3
      · rw [hk] at e3; cases e3
      · exact e3 (hk.trans e2)
  · intro j hj
    by_cases e : j = i
    · subst e
      simp only [Dev.put, if_true, Maps.has_put_same h.map.isMap hkey]
      simp
    · simp only [Dev.put, if_neg e]
      rw [Maps.has_put_other (hkne j e)]
      exact h.has j hj
  · intro kl hk
    by_cases e : kl = keyL i
    · exact ⟨i, hi, e⟩
    · rw [Maps.has_put_other e] at hk
      exact h.keys kl hk
  · have fresh : ∀ j, j < d.L.length → j ≠ i → v2.ownBlock = none ∨ v2.ownBlock ≠ (S j).ownBlock := fun j hj hji => by
      rcases hob2 with e | e
      · rw [e]; exact h.apart i j hi hj (Ne.symm hji)
      · right
        rw [e]
        intro e2
        have := hSlt j _ hj e2.symm
        rw [World.size_alloc, hsd] at this
        omega
    intro j k hj hk hjk
    by_cases e : j = i
    · subst e
      rw [if_pos rfl, if_neg (Ne.symm hjk)]
      exact fresh k hk (Ne.symm hjk)
    · rw [if_neg e]
      by_cases e2 : k = i
      · subst e2
        rw [if_pos rfl]
        rcases h1 : (S j).ownBlock with _ | g
        · exact .inl rfl
        · right
          intro e3
          rcases fresh j hj e with e4 | e4
          · rw [e4] at e3; cases e3
          · exact e4 (e3.symm.trans h1.symm)
      · rw [if_neg e2]
        exact h.apart j k hj hk hjk
  · intro j g hj hg
    by_cases e : j = i
    · subst e
      rw [if_pos rfl] at hg
      exact hv2 g hg
    · rw [if_neg e] at hg
      exact h.own j g hj hg
  · intro j
    by_cases e : j = i
    · simp only [Dev.put, if_pos e]
      exact (h.wq i).append (Wide.one hl)
    · simp only [Dev.put, if_neg e]
      exact h.wq j
  · intro j
    by_cases e : j = i
    · simp only [Dev.put, if_pos e, List.length_append, List.length_cons, List.length_nil]
      have := h.few i
      omega
    · simp only [Dev.put, if_neg e]
      have := h.few j
      omega
  · exact hg3.os.trans hg2.os
  · exact hg3.tape.trans hg2.tape
  · exact hg3.output.trans hg2.output
  · simp; omega
  · intro k hk hn2
    exact hold k hk (fun e => hn2 (hSi k e.symm).1) (fun e => hn2 (e ▸ h.inF.2.2)) (fun e => hn2 (e ▸ h.inF.1))
set_option maxRecDepth 100000 in
set_option maxHeartbeats 800000 in
theorem write_ok {i : Nat} {bb bo c : Nat} {l : List UInt8} (h : DevIs w F p bl bm S D d) (hi : i < d.L.length) (hb : d.burns 2 = false) (hn : d.n < 1000000)
    (hl : l.length = 256) (hr : w.rangeAt bb bo (cellsB l)) (hbb : bb < w.heap.size) (hbF : ¬ F bb) (hF : ∀ k, w.heap.size ≤ k → F k) :
    Calls Try.prog 65 #[at0 p, .int .i64 (i : Int), .slice (some ⟨bb, bo, none⟩) 256 c] w fun e w' => ∃ S' D', e = .returned (.int .i64 0) ∧ DevIs w' F p bl bm S' D' ((d.burn 2).put i l) ∧ Only F w w' := by
  have hh := Lib.hid (has_yes h.c8 hi)
  have hf := fails_any h (k := 2) (by omega)
  rw [hb] at hf
  have Hf := Lib.hid hf
  clear hf
  have harr : ∀ w, (Instr.arrayAt 85 (.slice (some ⟨bb, bo, none⟩) 256 c)).run Try.prog w = .ok (.pointer (some ⟨bb, bo, none⟩)) w := fun w => by simp [Instr.arrayAt, run_underlying Try.underlying85]
  obtain ⟨ie, hie, hz0, hz1, hz2⟩ := info_parts info_sector'
  have Hl := Kept.mk hl
  have i1 : (Try.prog.info? 85).map (·.size) = some (cellsB l).length := by rw [info_sector, cellsB_length, hl]
  have I1 := Kept.mk i1
  have hi0 := Lib.hid hi
  clear h hb hi i1
  go_enter Try.func65, Try.ntmps65
  go_wp2_with (first
    | (go_at_call 40; refine hh.out.mono ?_; rintro e w' ⟨rfl, rfl⟩)
    | (go_at_call 41; refine Hf.out.mono ?_; rintro e w1 ⟨rfl, hd, ho⟩))
  have hlk := hd.look hi0.out
  have hrow := hd.row i hi0.out
  have hr1 : w1.rangeAt bb bo (cellsB l) := fun j v hv => (World.cell?_of_block (ho.block bb hbb hbF)).trans (hr j v hv)
  have hbb1 : bb < w1.heap.size := Nat.lt_of_lt_of_le hbb ho.size
  refine wp_region_held_drew (S := fun w' => w'.cell? ⟨p, 9, none⟩ = some (.map (some bm)) ∧ w'.rangeAt bb bo (cellsB l)) (by kernel_rfl) ?_ (fun hHeld => ?_)
  · exact ⟨hd.c9, (World.rangeAt_drew _ _ _ _).2 hr1⟩
  refine' wpAnyH_take (i := 0) (oi := ⟨some 20, .move (.tmp 0), _, _, _, none⟩) (v := _) rfl (by kernel_rfl) (by kernel_rfl) (by kernel_rfl) (fun _ _ _ h => h) (Or.inl ⟨by rfl, ?hy0⟩) (by assumption) ?rest0
  case hy0 => (intro w hSw; obtain ⟨s1, s3⟩ := hSw; go_simp <;> with_reducible rfl)
  case rest0 =>
  go_frame
  refine' wpAnyH_take (i := 1) (oi := ⟨some 21, .nilCheck (.tmp 20), _, _, _, none⟩) (v := _) rfl (by kernel_rfl) (by kernel_rfl) (by kernel_rfl) (fun _ _ _ h => h) (Or.inl ⟨by rfl, ?hy1⟩) (by assumption) ?rest1
  case hy1 => (intro w hSw; obtain ⟨s1, s3⟩ := hSw; go_simp <;> with_reducible rfl)
  case rest1 =>
  go_frame
  refine' wpAnyH_take (i := 2) (oi := ⟨some 22, .fieldAddr 71 (.tmp 21) 2, _, _, _, none⟩) (v := _) rfl (by kernel_rfl) (by kernel_rfl) (by kernel_rfl) (fun _ _ _ h => h) (Or.inl ⟨by rfl, ?hy2⟩) (by assumption) ?rest2
  case hy2 => (intro w hSw; obtain ⟨s1, s3⟩ := hSw; go_simp <;> with_reducible rfl)
  case rest2 =>
  go_frame
  refine' wpAnyH_take (i := 3) (oi := ⟨some 23, .load 65 (.tmp 22), _, _, _, none⟩) (v := _) rfl (by kernel_rfl) (by kernel_rfl) (by kernel_rfl) (fun _ _ _ h => h) (Or.inl ⟨by rfl, ?hy3⟩) (by assumption) ?rest3
  case hy3 => (intro w hSw; obtain ⟨s1, s3⟩ := hSw; go_simp <;> with_reducible rfl)
  case rest3 =>
  go_frame
  refine' wpAnyH_take (i := 4) (oi := ⟨some 24, .move (.tmp 1), _, _, _, none⟩) (v := _) rfl (by kernel_rfl) (by kernel_rfl) (by kernel_rfl) (fun _ _ _ h => h) (Or.inl ⟨by rfl, ?hy4⟩) (by assumption) ?rest4
  case hy4 => (intro w hSw; obtain ⟨s1, s3⟩ := hSw; go_simp <;> with_reducible rfl)
  case rest4 =>
  go_frame
  refine' wpAnyH_take (i := 5) (oi := ⟨some 25, .move (.tmp 0), _, _, _, none⟩) (v := _) rfl (by kernel_rfl) (by kernel_rfl) (by kernel_rfl) (fun _ _ _ h => h) (Or.inl ⟨by rfl, ?hy5⟩) (by assumption) ?rest5
  case hy5 => (intro w hSw; obtain ⟨s1, s3⟩ := hSw; go_simp <;> with_reducible rfl)
  case rest5 =>
  go_frame
  refine' wpAnyH_take (i := 6) (oi := ⟨some 26, .nilCheck (.tmp 25), _, _, _, none⟩) (v := _) rfl (by kernel_rfl) (by kernel_rfl) (by kernel_rfl) (fun _ _ _ h => h) (Or.inl ⟨by rfl, ?hy6⟩) (by assumption) ?rest6
  case hy6 => (intro w hSw; obtain ⟨s1, s3⟩ := hSw; go_simp <;> with_reducible rfl)
  case rest6 =>
  go_frame
  refine' wpAnyH_take (i := 7) (oi := ⟨some 27, .fieldAddr 71 (.tmp 26) 2, _, _, _, none⟩) (v := _) rfl (by kernel_rfl) (by kernel_rfl) (by kernel_rfl) (fun _ _ _ h => h) (Or.inl ⟨by rfl, ?hy7⟩) (by assumption) ?rest7
  case hy7 => (intro w hSw; obtain ⟨s1, s3⟩ := hSw; go_simp <;> with_reducible rfl)
  case rest7 =>
  go_frame
  refine' wpAnyH_take (i := 8) (oi := ⟨some 28, .load 65 (.tmp 27), _, _, _, none⟩) (v := _) rfl (by kernel_rfl) (by kernel_rfl) (by kernel_rfl) (fun _ _ _ h => h) (Or.inl ⟨by rfl, ?hy8⟩) (by assumption) ?rest8
  case hy8 => (intro w hSw; obtain ⟨s1, s3⟩ := hSw; go_simp <;> with_reducible rfl)
  case rest8 =>
  go_frame
  refine' wpAnyH_take (i := 9) (oi := ⟨some 29, .move (.tmp 1), _, _, _, none⟩) (v := _) rfl (by kernel_rfl) (by kernel_rfl) (by kernel_rfl) (fun _ _ _ h => h) (Or.inl ⟨by rfl, ?hy9⟩) (by assumption) ?rest9
  case hy9 => (intro w hSw; obtain ⟨s1, s3⟩ := hSw; go_simp <;> with_reducible rfl)
  case rest9 =>
  go_frame
  refine' wpAnyH_take (i := 11) (oi := ⟨some 31, .move (.tmp 2), _, _, _, none⟩) (v := _) rfl (by kernel_rfl) (by kernel_rfl) (by kernel_rfl) (fun _ _ _ h => h) (Or.inl ⟨by rfl, ?hy11⟩) (by assumption) ?rest11
  case hy11 => (intro w hSw; obtain ⟨s1, s3⟩ := hSw; go_simp <;> with_reducible rfl)
  case rest11 =>
  go_frame
  refine' wpAnyH_take (i := 12) (oi := ⟨some 32, .sliceToArrayPointer 85 (.tmp 31), _, _, _, none⟩) (v := _) rfl (by kernel_rfl) (by kernel_rfl) (by kernel_rfl) (fun _ _ _ h => h) (Or.inl ⟨by rfl, ?hy12⟩) (by assumption) ?rest12
  case hy12 => (intro w hSw; obtain ⟨s1, s3⟩ := hSw; go_simp <;> with_reducible rfl)
  case rest12 =>
  go_frame
  refine' wpAnyH_take (i := 13) (oi := ⟨some 33, .load 85 (.tmp 32), _, _, _, none⟩) (v := .agg (cellsB l).toArray) rfl (by kernel_rfl) (by kernel_rfl) (by kernel_rfl) (fun _ _ _ h => h) (Or.inl ⟨by rfl, ?hy13⟩) (by assumption) ?rest13
  case hy13 => (intro w hSw; obtain ⟨s1, s3⟩ := hSw; exact exec_load (t := 85) (x := .tmp 32) rfl (pv := .pointer (some ⟨bb, bo, none⟩)) rfl (run_loadAt_mid w bb bo 85 (cellsB l) (.array 256 5) s3 Try.underlying85 rfl I1.out))
  case rest13 =>
  go_frame
  have hne : ∀ k, (S i).ownBlock = some k → k ≠ p ∧ k ≠ bm ∧ F k := fun k hk => ⟨(hd.own i k hi0.out hk).2.1, (hd.own i k hi0.out hk).2.2.2, (hd.own i k hi0.out hk).1⟩
  have hsA : ∀ o : Obj, (w1.drew.alloc o).cell? ⟨p, 9, none⟩ = some (.map (some bm)) ∧ (w1.drew.alloc o).rangeAt bb bo (cellsB l) := fun o => ⟨cell_alloc (w := w1.drew) hHeld.1 o, World.rangeAt_alloc hHeld.2 o⟩
  have hlt := hd.lt
  have hnn : d.n + 1 < maxLen := by unfold maxLen; omega
  have hq : ((d.burn 2).Q i).length ≤ d.n := hd.few i
  obtain ⟨v2, w2, hrun2, hrow2, hg2, _, hob2⟩ := run_append_own_at (P := Try.prog) (w1.drew.alloc (.cells (cellsB l).toArray 85)) 0 64 64 85 ie _ 256 256 Try.underlying64 hie hz0 hz1 hz2 (by simp [Value.cells]) (by omega) (S i) _ _
    (World.ownsRow.alloc (w := w1.drew) hrow (.cells (cellsB l).toArray 85)) ⟨w1.drew.heap.size, 0, none⟩ 1 1 (cellsB l) (by rw [cellsB_length, Hl.out]) (fun j u hu => by rw [Addr.add_mid, Nat.zero_add, World.cell?_alloc_mark]; simpa using hu) (cellsB_one l) (by unfold maxLen; omega) (by omega) (Nat.zero_le _)
  have hmap2 : w2.ownsMap Try.prog 3 asHeld bm d.n D := (World.ownsMap.alloc (w := w1.drew) hd.map (.cells (cellsB l).toArray 85)).kept hg2 (fun e => (hne bm e.symm).2.1 rfl)
  obtain ⟨w3, hrun3, hmap3, hg3⟩ := hmap2.update keyed_int Try.underlying65 (by omega) (key := .int .i64 (i : Int)) (val := v2) (kl := keyL i) (Maps.keyOf_int_mk Try.underlying3 (WalkArith.wf_i64 (by have hs : 16 ≤ d.L.length ∧ d.L.length ≤ 1600 := hd.size; have := hi0.out; omega))) (d := .held v2) (ps := []) rfl
  have hc1 : (w1.drew.alloc (.cells (cellsB l).toArray 85)).cell? ⟨p, 9, none⟩ = some (.map (some bm)) := (hsA _).1
  have hc2 : w2.cell? ⟨p, 9, none⟩ = some (.map (some bm)) := (World.cell?_of_block (a := ⟨p, 9, none⟩) (hg2.block p (by simp; omega) (fun e => (hne p e.symm).1 rfl))).trans hc1
  have hr2 : w2.rangeAt bb bo (cellsB l) := fun j v hv => (World.cell?_of_block (hg2.block bb (by simp; omega) (fun e => hbF (hne bb e.symm).2.2))).trans ((hsA _).2 j v hv)
  have hc3 : w3.cell? ⟨p, 9, none⟩ = some (.map (some bm)) := (World.cell?_of_block (a := ⟨p, 9, none⟩) (hg3.block p (by have := hg2.size; simp at this; omega) (fun e => hd.ne.2.1 (by injection e)))).trans hc2
  have hr3 : w3.rangeAt bb bo (cellsB l) := fun j v hv => (World.cell?_of_block (hg3.block bb (by have := hg2.size; simp at this; omega) (fun e => hbF (by injection e with e; rw [e]; exact hd.inF.2.2)))).trans (hr2 j v hv)
  have hw3 : w3.heap[p]? = w1.heap[p]? := (hg3.block p (by have := hg2.size; simp at this; omega) (fun e => hd.ne.2.1 (by injection e))).trans ((hg2.block p (by simp; omega) (fun e => (hne p e.symm).1 rfl)).trans (heap_alloc_old w1.drew _ hlt.1))
  have hcn : w3.cell? ⟨p, 10, none⟩ = some (.int .i64 (d.n : Int)) := (World.cell?_of_block (a := ⟨p, 10, none⟩) hw3).trans hd.c10
  have hfn : w3.frozen? ⟨p, 10, none⟩ = false := (World.frozen?_of_block (a := ⟨p, 10, none⟩) hw3).trans (hd.free 10)
  have hput := hd.put (fun k hk => hF k (Nat.le_trans ho.size hk)) hi0.out Hl.out hn hrow2 hg2 hob2 hmap3 hg3
  refine wpAnyH_ready (rs := [10, 14]) (by kernel_rfl) (by simp) (AllReadyH.cons (o := ⟨some 30, .lookup 65 (.tmp 28) (.tmp 29) false, _, _, _, none⟩) rfl (fun K hK => ?b10) (AllReadyH.cons (o := ⟨some 34, .buildSlice 64 1 #[(0, .tmp 33)], _, _, _, none⟩) rfl (fun K hK => ?b14) AllReadyH.nil))
  case' b10 =>
    rw [if_pos (by rfl)]
    refine wp_run (S i) w1.drew (exec_lookup (t := 65) (m := .tmp 28) (x := .tmp 29) rfl (vm := .map (some bm)) rfl (vx := .int .i64 (i : Int)) rfl (hlk.2 w1.drew rfl)) ?_
    refine hK.out _ _ hHeld (fun hHeld => ?_)
    clear hK K
    go_frame
    refine wpAnyH_ready (rs := [14]) (by kernel_rfl) (by simp) (AllReadyH.cons (o := ⟨some 34, .buildSlice 64 1 #[(0, .tmp 33)], _, _, _, none⟩) rfl (fun K hK => ?_) AllReadyH.nil)
    rw [if_pos (by rfl)]
    refine wp_run (.slice (some ⟨w1.drew.heap.size, 0, none⟩) 1 1) (w1.drew.alloc (.cells (cellsB l).toArray 85)) (exec_slice_one (t := 64) (x := .tmp 33) rfl (v := .agg (cellsB l).toArray) rfl (build_sector l Hl.out w1.drew)) ?_
    refine hK.out _ _ (hsA _) (fun hHeld => ?_)
    clear hK K
    go_frame
  case' b14 =>
    rw [if_pos (by rfl)]
    refine wp_run (.slice (some ⟨w1.drew.heap.size, 0, none⟩) 1 1) (w1.drew.alloc (.cells (cellsB l).toArray 85)) (exec_slice_one (t := 64) (x := .tmp 33) rfl (v := .agg (cellsB l).toArray) rfl (build_sector l Hl.out w1.drew)) ?_
    refine hK.out _ _ (hsA _) (fun hHeld => ?_)
    clear hK K
    go_frame
    refine wpAnyH_ready (rs := [10]) (by kernel_rfl) (by simp) (AllReadyH.cons (o := ⟨some 30, .lookup 65 (.tmp 28) (.tmp 29) false, _, _, _, none⟩) rfl (fun K hK => ?_) AllReadyH.nil)
    rw [if_pos (by rfl)]
    refine wp_run (S i) (w1.drew.alloc (.cells (cellsB l).toArray 85)) (exec_lookup (t := 65) (m := .tmp 28) (x := .tmp 29) rfl (vm := .map (some bm)) rfl (vx := .int .i64 (i : Int)) rfl (Look.alloc (w := w1.drew) hlk _)) ?_
    refine hK.out _ _ hHeld (fun hHeld => ?_)
    clear hK K
    go_frame
  all_goals
    refine wpAnyH_ready (rs := [15]) (by kernel_rfl) (by simp) (AllReadyH.cons (o := ⟨some 35, .call { callee := .builtin .append, args := #[.tmp 30, .tmp 34], argTypes := #[64, 64] }, 64, _, _, none⟩) rfl (fun K hK => ?_) AllReadyH.nil)
    rw [if_pos (by rfl)]
    refine wp_run v2 w2 (exec_append (t := 64) (x := .tmp 30) (y := .tmp 34) rfl (u := S i) rfl (v := .slice (some ⟨w1.drew.heap.size, 0, none⟩) 1 1) rfl hrun2) ?_
    refine hK.out _ _ ⟨hc2, hr2⟩ (fun hHeld => ?_)
    clear hK K
    go_frame
    refine wpAnyH_ready (rs := [16]) (by kernel_rfl) (by simp) (AllReadyH.cons (o := ⟨none, .mapUpdate 65 (.tmp 23) (.tmp 24) (.tmp 35), _, _, _, none⟩) rfl (fun K hK => ?_) AllReadyH.nil)
    rw [if_pos (by rfl)]
    refine wp_skip w3 (exec_mapUpdate (t := 65) (m := .tmp 23) (x := .tmp 24) (y := .tmp 35) rfl (vm := .map (some bm)) rfl (vx := .int .i64 (i : Int)) rfl (vy := v2) rfl hrun3) ?_
    refine hK.out _ _ ⟨hc3, hr3⟩ (fun hHeld => ?_)
    clear hK K
    go_frame
    refine wpAnyH_done (by kernel_rfl) ?_ _
    clear hh Hf harr
    go_wp2_with fail
    go_ret
    exact ⟨_, _, rfl, hput.1, ho.trans hput.2⟩
set_option maxRecDepth 100000 in
theorem write_arg {i : Int} {A : Option Addr} {n c : Nat} (h : DevIs w F p bl bm S D d) (hi : i < 0 ∨ (d.L.length : Int) ≤ i) : Calls Try.prog 65 #[at0 p, .int .i64 i, .slice A n c] w fun e w' => e = .returned (.int .i64 1) ∧ w = w' := by
  have hh := Lib.hid (has_no h.c8 hi)
  go_enter Try.func65, Try.ntmps65
  go_wp2_with (go_at_call 40; refine hh.out.mono ?_; rintro e w' ⟨rfl, rfl⟩)
  go_ret
  exact ⟨rfl, rfl⟩
set_option maxRecDepth 100000 in
theorem write_nil (i : Int) (A : Option Addr) (n c : Nat) (w : World) : Calls Try.prog 65 #[.pointer none, .int .i64 i, .slice A n c] w fun e w' => e = .returned (.int .i64 1) ∧ w = w' := by
  go_enter Try.func65, Try.ntmps65
  go_wp2_with (go_at_call 40; refine (has_nil _ _).mono ?_; rintro e w' ⟨rfl, rfl⟩)
  go_ret
  exact ⟨rfl, rfl⟩
set_option maxRecDepth 100000 in
theorem write_io {i : Nat} {A : Option Addr} {c : Nat} (h : DevIs w F p bl bm S D d) (hi : i < d.L.length) (hb : d.burns 2 = true) : Calls Try.prog 65 #[at0 p, .int .i64 (i : Int), .slice A 256 c] w fun e w' => e = .returned (.int .i64 3) ∧ DevIs w' F p bl bm S D (d.burn 2) ∧ Only F w w' := by
  have hh := Lib.hid (has_yes h.c8 hi)
  have hf := fails_any h (k := 2) (by omega)
  rw [hb] at hf
  have Hf := Lib.hid hf
  clear h hb hi hf
  go_enter Try.func65, Try.ntmps65
  go_wp2_with (first
    | (go_at_call 40; refine hh.out.mono ?_; rintro e w' ⟨rfl, rfl⟩)
    | (go_at_call 41; refine Hf.out.mono ?_; rintro e w' ⟨rfl, hd, ho⟩))
  go_ret
  exact ⟨rfl, hd, ho⟩
end
end Go.Proofs.Ytfjcblppmoomdaa
