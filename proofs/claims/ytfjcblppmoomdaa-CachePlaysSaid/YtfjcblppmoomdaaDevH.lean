/-
  Crash, on a device: its contract.
-/
import Derived.Test.YtfjcblppmoomdaaDevG
namespace Go.Proofs.Ytfjcblppmoomdaa
open Go.RowKit
/-- Sector by sector: so many of the Writes that wait last. -/
def lose (Q : Nat → List (List UInt8)) : List Nat → List Int → List (List UInt8) → List (List UInt8)
  | i :: is, k :: ks, L => lose Q is ks (if 0 < k then L.set i ((Q i).getD ((if ((Q i).length : Int) < k then ((Q i).length : Int) else k) - 1).toNat []) else L)
  | [], _, L => L
  | _ :: _, [], L => L
theorem lose_none (Q : Nat → List (List UInt8)) (is : List Nat) (L : List (List UInt8)) : lose Q is [] L = L := by cases is <;> rfl
theorem lose_length (Q : Nat → List (List UInt8)) : ∀ (is : List Nat) (ks : List Int) (L : List (List UInt8)), (lose Q is ks L).length = L.length
  | [], _, _ => rfl
  | _ :: _, [], _ => rfl
  | i :: is, k :: ks, L => by rw [lose, lose_length Q is ks]; split <;> simp
/-- What is there behind a loss of power. -/
def Dev.crash (d : Dev) (ks : List Int) : Dev := { f := fun _ => (false, 0), L := lose d.Q d.waits ks d.L, Q := fun _ => [], n := d.n }
/-- A slice of numbers that lies outside F. -/
def RdN (w : World) (F : Nat → Prop) (A : Option Addr) (ks : List Int) : Prop :=
  0 < ks.length → ∃ b o, A = some ⟨b, o, none⟩ ∧ b < w.heap.size ∧ ¬ F b ∧ ∀ (j : Nat) (h : j < ks.length), w.cell? ⟨b, o + j, none⟩ = some (.int .i64 ks[j])
section
variable {w : World} {F : Nat → Prop} {p bl bm : Nat} {S : Nat → Value} {D : DataW Value} {d : Dev}
theorem DevIs.top_new (h : DevIs w F p bl bm S D d) {w' : World} {d' : Dev} (top : w'.heap[p]? = some (.cells (devCells d' bl bm).toArray 71 (0, 0))) (hg : w.grownBy w' (some p)) (hL : d'.L = d.L) (hQ : d'.Q = d.Q) (hn : d.n ≤ d'.n) (hf : ∀ k, (d'.f k).2 ≤ 9223372036854775807) :
    DevIs w' F p bl bm S D d' := by
  have ho : ∀ k, k < w.heap.size → k ≠ p → w'.heap[k]? = w.heap[k]? := fun k hk hn => hg.block k hk (fun e => hn (by injection e))
  have hlt := h.lt
  obtain ⟨h1, h2, h3, h4, h5, h6, h7, h8, h9, h10, h11, h12, h13, h14, h15, h16⟩ := h
  refine ⟨top, ?_, ?_, ?_, ?_, ?_, ?_, ?_, ?_, h10, h11, ?_, ?_, ?_, ?_, hf⟩
  · rw [hL]; exact (ho bl hlt.2.1 h10.1.symm).trans h2
  · obtain ⟨es, clock, hb, F, hs, hD⟩ := h3
    exact ⟨es, clock, (ho bm hlt.2.2 h10.2.1.symm).trans hb, F, Nat.le_trans hs hn, hD⟩
  · rw [hL]; exact h4
  · rw [hL, hQ]
    exact fun i hi => row_keep (h5 i hi) fun g hg2 => ho g ((h5 i hi).lt g hg2).2 (h9 i g hi hg2).2.1
  · rw [hL, hQ]; exact h6
  · rw [hL]; exact h7
  · rw [hL]; exact h8
  · rw [hL]; exact h9
  · rw [hL]; exact h12
  · rw [hQ]; exact h13
  · rw [hL]; exact h14
  · rw [hQ]; exact fun i => Nat.le_trans (h15 i) hn
/-- clear(failures[:]). -/
theorem run_clear_fails (hp : w.heap[p]? = some (.cells (devCells d bl bm).toArray 71 (0, 0))) (ty : TypeId) :
    ∃ w', (Builtin.clear_ #[97] ty #[.slice (some ⟨p, 0, none⟩) 4 4]).run Try.prog w = .ok (.tuple #[]) w' ∧ w'.heap[p]? = some (.cells (devCells { d with f := fun _ => (false, 0) } bl bm).toArray 71 (0, 0)) ∧ w.grownBy w' (some p) ∧ w'.heap.size = w.heap.size := by
  have h := run_storeCells_at Try.prog p 0 71 [.bool false, .int .i64 0, .bool false, .int .i64 0, .bool false, .int .i64 0, .bool false, .int .i64 0] 0 _ w hp (by simp [devCells]) (by simp [Value.oneCell'])
  have hz : (Builtin.zeroCells #[.bool false, .int .i64 0] 4).toList = [.bool false, .int .i64 0, .bool false, .int .i64 0, .bool false, .int .i64 0, .bool false, .int .i64 0] := by kernel_rfl
  have h2 : (storeCells ⟨p, 0, none⟩ (Builtin.zeroCells #[.bool false, .int .i64 0] 4).toList).run Try.prog w = .ok () (w.setRow p (devCells { d with f := fun _ => (false, 0) } bl bm).toArray) := by rw [hz]; exact h
  refine ⟨w.setRow p (devCells { d with f := fun _ => (false, 0) } bl bm).toArray, ?_, setRow_heap w p _ _ 71 (0, 0) hp, ⟨rfl, rfl, rfl, by simp, fun k _ hne => setRow_other w p k _ (fun e => hne (by rw [e]))⟩, by simp⟩
  simp only [Builtin.clear_, Sem.run_bind, run_underlying Try.underlying97, Result.andThen_ok, Try.zeroValue67, Value.cells, h2, Sem.run_pure, List.getElem?_toArray, List.getElem?_cons_zero]
theorem waiting_cells (h : DevIs w F p bl bm S D d) (hn : d.n < 1000000) : Calls Try.prog 51 #[at0 p] w fun e w' => ∃ A c, e = .returned (.slice A d.waits.length c) ∧ Below w.heap.size w w' ∧
    ∀ (j : Nat) (hj : j < d.waits.length), ∃ g, A = some ⟨g, 0, none⟩ ∧ w.heap.size < g ∧ g < w'.heap.size ∧ w'.cell? ⟨g, j, none⟩ = some (.int .i64 (d.waits[j] : Int)) := by
  refine (waiting_any h hn).mono ?_
  rintro e w' ⟨v, rfl, hm, hb⟩
  have hlen : (cellsN d.waits).length = d.waits.length := by simp [cellsN]
  rcases hm.2 with ⟨rfl, hn⟩ | ⟨g, cap, cur, rfl, _⟩
  · rw [hlen] at hn
    exact ⟨none, 0, by rw [hn], hb, fun j hj => by omega⟩
  · have hlt := hm.lt
    refine ⟨some ⟨g, 0, none⟩, cap, by rw [hlen], hb, fun j hj => ⟨g, rfl, by omega, hlt.2, ?_⟩⟩
    exact hm.cellAt (by simp [cellsN, hj])
/-- The loop's round, in words. -/
structure Lost (w1 wr : World) (F : Nat → Prop) (p bl bm : Nat) (S : Nat → Value) (D : DataW Value) (d : Dev) (ks : List Int) (j : Nat) (L : List (List UInt8)) : Prop where
  le : j ≤ d.waits.length ∧ j ≤ ks.length
  dev : DevIs wr F p bl bm S D { d with L := L }
  len : L.length = d.L.length
  grow : w1.grownBy wr (some bl)
  rest : lose d.Q (d.waits.drop j) (ks.drop j) L = lose d.Q d.waits ks d.L
theorem lost_next {Q : Nat → List (List UInt8)} {ws : List Nat} {ks : List Int} {j : Nat} (hj : j < ws.length) (hk : j < ks.length) {L M : List (List UInt8)} {q : Int} (hq : q = if ((Q ws[j]).length : Int) < ks[j] then ((Q ws[j]).length : Int) else ks[j]) (hp : 0 < (Q ws[j]).length)
    (hM : M = if 0 < q then L.set ws[j] ((Q ws[j]).getD (q - 1).toNat []) else L) : lose Q (ws.drop (j + 1)) (ks.drop (j + 1)) M = lose Q (ws.drop j) (ks.drop j) L := by
  rw [List.drop_eq_getElem_cons hj, List.drop_eq_getElem_cons hk, lose, hM, hq]
  by_cases h0 : 0 < ks[j]
  · rw [if_pos h0, if_pos (by split <;> omega)]
  · rw [if_neg h0, if_neg (by split <;> omega)]
set_option maxRecDepth 100000 in
set_option maxHeartbeats 800000 in
theorem crash_any {A : Option Addr} {c : Nat} {ks : List Int} (h : DevIs w F p bl bm S D d) (hn : d.n < 1000000) (hks : RdN w F A ks) (hkl : ks.length < 1000000) (hF : ∀ k, w.heap.size ≤ k → F k) :
    Calls Try.prog 26 #[at0 p, .slice A ks.length c] w fun e w' => ∃ S' D', e = .returned (.tuple #[]) ∧ DevIs w' F p bl bm S' D' (d.crash ks) ∧ Only F w w' := by
  have hwc := waiting_cells h hn
  have hwl : d.waits.length < 1000000 := by
    have h1 : d.waits.length ≤ (List.range d.L.length).length := List.length_filter_le _ _
    have h2 := h.size
    rw [List.length_range] at h1
    omega
  obtain ⟨K, hK⟩ : ∃ K, K = ks.length := ⟨_, rfl⟩
  obtain ⟨N, hN⟩ : ∃ N, N = d.waits.length := ⟨_, rfl⟩
  rw [← hK] at hkl ⊢
  rw [← hN] at hwl
  have hwc' : Calls Try.prog 51 #[at0 p] w fun e w' => ∃ A c, e = .returned (.slice A N c) ∧ Below w.heap.size w w' ∧
    ∀ (j : Nat) (hj : j < d.waits.length), ∃ g, A = some ⟨g, 0, none⟩ ∧ w.heap.size < g ∧ g < w'.heap.size ∧ w'.cell? ⟨g, j, none⟩ = some (.int .i64 (d.waits[j] : Int)) := by rw [hN]; exact hwc
  have Hwc := Lib.hid hwc'
  have HK := Lib.hid hK
  have HN := Lib.hid hN
  have HF := Lib.hid hF
  have Hks := Lib.hid hks
  clear hK hN hwc hwc' hF hks
  go_enter Try.func26, Try.ntmps26
  go_wp2_with (go_at_call 51; refine Hwc.out.mono ?_; rintro e w1 ⟨Av, cv, rfl, hb1, hcv⟩; have Hcv := Lib.hid hcv; clear hcv)
  have hd1 := h.below hb1
  have ho1 : Only F w w1 := Only.of_below hb1
  go_loopw [12] (fun iv wr => ∃ j L, iv = .int .i64 (j : Nat) ∧ Lost w1 wr F p bl bm S D d ks j L) (fun iv _ => N - (intOf iv).toNat)
  case atStart => exact ⟨0, d.L, rfl, ⟨⟨Nat.zero_le _, Nat.zero_le _⟩, hd1, rfl, World.grownBy.refl _ _, rfl⟩⟩
  case round =>
    obtain ⟨j, L, rfl, hl⟩ := hrel
    have hjN : j ≤ N := by rw [HN.out]; exact hl.le.1
    have hjK : j ≤ K := by rw [HK.out]; exact hl.le.2
    by_cases hgo : j < N ∧ j < K
    · obtain ⟨hj1, hj2⟩ := hgo
      have hj1' : j < d.waits.length := by rw [← HN.out]; exact hj1
      have hj2' : j < ks.length := by rw [← HK.out]; exact hj2
      obtain ⟨gv, rfl, hgv1, hgv2, hcell⟩ := Hcv.out j hj1'
      obtain ⟨lb, lo, rfl, hlb1, hlbF, hcells⟩ := Hks.out (by omega)
      have hcellk := hcells j hj2'
      have hne : gv ≠ bl := by have := h.lt; omega
      have hcell' : wr.cell? ⟨gv, j, none⟩ = some (.int .i64 (d.waits[j] : Int)) := (World.cell?_of_block (a := ⟨gv, j, none⟩) (hl.grow.block gv hgv2 (fun e => hne (by injection e)))).trans hcell
      have hcellk' : wr.cell? ⟨lb, lo + j, none⟩ = some (.int .i64 ks[j]) := (World.cell?_of_block (a := ⟨lb, lo + j, none⟩) (hl.grow.block lb (Nat.lt_of_lt_of_le hlb1 hb1.size) (fun e => hlbF (by injection e with e; rw [e]; exact h.inF.2.1)))).trans ((hb1.cell (p := ⟨lb, lo + j, none⟩) hlb1).trans hcellk)
      obtain ⟨i, hi⟩ : ∃ i, i = d.waits[j] := ⟨_, rfl⟩
      obtain ⟨k, hk⟩ : ∃ k, k = ks[j] := ⟨_, rfl⟩
      have hmem := mem_waits.1 (hi ▸ List.getElem_mem hj1')
      rw [← hi] at hcell'
      rw [← hk] at hcellk'
      obtain ⟨q, hq⟩ : ∃ q : Int, q = if ((d.Q i).length : Int) < k then ((d.Q i).length : Int) else k := ⟨_, rfl⟩
      have hp0 : 0 < (d.Q i).length := List.length_pos_iff.2 hmem.2
      have hfew := h.few i
      have hq2 : q ≤ ((d.Q i).length : Int) := by rw [hq]; split <;> omega
      have hi1 : i < L.length := by rw [hl.len]; exact hmem.1
      have hlk := hl.dev.look hi1
      have hrow := hl.dev.row i hi1
      have hs := h.size
      have hrest := fun (M : List (List UInt8)) (hM : M = if 0 < q then L.set i ((d.Q i).getD (q - 1).toNat []) else L) => lost_next (Q := d.Q) hj1' hj2' (L := L) (M := M) (q := q) (by rw [hq, hi, hk]) (by rw [← hi]; exact hp0) (by rw [← hi]; exact hM)
      rcases hrow.2 with ⟨_, h0⟩ | ⟨g, cap, cur, hSi, _, hg, hnc, _, hcs, htake⟩
      · exact absurd h0 (by simp only; omega)
      rw [hSi] at hlk
      have hgF := hl.dev.own i g hi1 (by rw [hSi]; rfl)
      have hlook : ∀ w' : World, w'.heap[bm]? = wr.heap[bm]? → (Instr.lookup 65 (.map (some bm)) (.int .i64 (i : Int)) false).run Try.prog w' = .ok (.slice (some ⟨g, 0, none⟩) (d.Q i).length cap) w' := hlk.2
      have hc9 := hl.dev.c9
      have hc8 : wr.cell? ⟨p, 8, none⟩ = some (.slice (some ⟨bl, 0, none⟩) L.length L.length) := hl.dev.c8
      have t1 : ((j : Int) == (K : Int)) = false := by rw [beq_eq_false_iff_ne]; omega
      have hnc2 : (d.Q i).length ≤ cap := hnc
      have Hrow := Lib.hid (And.intro hg htake)
      have Hlook := Lib.hid hlook
      have Hrest := Lib.hid hrest
      have Hl := Lib.hid hl
      have Hq := Lib.hid hq
      have hL1 : (i : Int) < (L.length : Int) := by omega
      clear hcell hcells hcellk hlk hrow hi hk hq hg htake hSi hcs hl hrest hlook hj1' hj2' hmem hnc
      go_wp2_with fail
      refine wp_region_held_drew (S := fun w' => w'.cell? ⟨lb, lo + j, none⟩ = some (.int .i64 k) ∧ w'.cell? ⟨p, 9, none⟩ = some (.map (some bm)) ∧ (Instr.lookup 65 (.map (some bm)) (.int .i64 (i : Int)) false).run Try.prog w' = .ok (.slice (some ⟨g, 0, none⟩) (d.Q i).length cap) w') (by kernel_rfl) ?_ (fun hHeld => ?_)
      · exact ⟨hcellk', hc9, Hlook.out wr.drew rfl⟩
      refine' wpAnyH_take (i := 0) (oi := ⟨some 21, .move (.tmp 1), _, _, _, none⟩) (v := _) rfl (by kernel_rfl) (by kernel_rfl) (by kernel_rfl) (fun _ _ _ h => h) (Or.inl ⟨by rfl, ?hy0⟩) (by assumption) ?rest0
      case hy0 => (intro w hSw; obtain ⟨s1, s2, s3⟩ := hSw; go_simp <;> with_reducible rfl)
      case rest0 =>
      go_frame
      refine' wpAnyH_take (i := 1) (oi := ⟨some 22, .move (.tmp 4), _, _, _, none⟩) (v := _) rfl (by kernel_rfl) (by kernel_rfl) (by kernel_rfl) (fun _ _ _ h => h) (Or.inl ⟨by rfl, ?hy1⟩) (by assumption) ?rest1
      case hy1 => (intro w hSw; obtain ⟨s1, s2, s3⟩ := hSw; go_simp <;> with_reducible rfl)
      case rest1 =>
      go_frame
      refine' wpAnyH_take (i := 2) (oi := ⟨some 23, .indexAddr 39 (.tmp 21) (.tmp 22), _, _, _, none⟩) (v := _) rfl (by kernel_rfl) (by kernel_rfl) (by kernel_rfl) (fun _ _ _ h => h) (Or.inl ⟨by rfl, ?hy2⟩) (by assumption) ?rest2
      case hy2 => (intro w hSw; obtain ⟨s1, s2, s3⟩ := hSw; go_simp <;> with_reducible rfl)
      case rest2 =>
      go_frame
      refine' wpAnyH_take (i := 3) (oi := ⟨some 24, .load 3 (.tmp 23), _, _, _, none⟩) (v := _) rfl (by kernel_rfl) (by kernel_rfl) (by kernel_rfl) (fun _ _ _ h => h) (Or.inl ⟨by rfl, ?hy3⟩) (by assumption) ?rest3
      case hy3 => (intro w hSw; obtain ⟨s1, s2, s3⟩ := hSw; go_simp <;> with_reducible rfl)
      case rest3 =>
      go_frame
      refine' wpAnyH_take (i := 4) (oi := ⟨some 25, .move (.tmp 0), _, _, _, none⟩) (v := _) rfl (by kernel_rfl) (by kernel_rfl) (by kernel_rfl) (fun _ _ _ h => h) (Or.inl ⟨by rfl, ?hy4⟩) (by assumption) ?rest4
      case hy4 => (intro w hSw; obtain ⟨s1, s2, s3⟩ := hSw; go_simp <;> with_reducible rfl)
      case rest4 =>
      go_frame
      refine' wpAnyH_take (i := 5) (oi := ⟨some 26, .nilCheck (.tmp 25), _, _, _, none⟩) (v := _) rfl (by kernel_rfl) (by kernel_rfl) (by kernel_rfl) (fun _ _ _ h => h) (Or.inl ⟨by rfl, ?hy5⟩) (by assumption) ?rest5
      case hy5 => (intro w hSw; obtain ⟨s1, s2, s3⟩ := hSw; go_simp <;> with_reducible rfl)
      case rest5 =>
      go_frame
      refine' wpAnyH_take (i := 6) (oi := ⟨some 27, .fieldAddr 71 (.tmp 26) 2, _, _, _, none⟩) (v := _) rfl (by kernel_rfl) (by kernel_rfl) (by kernel_rfl) (fun _ _ _ h => h) (Or.inl ⟨by rfl, ?hy6⟩) (by assumption) ?rest6
      case hy6 => (intro w hSw; obtain ⟨s1, s2, s3⟩ := hSw; go_simp <;> with_reducible rfl)
      case rest6 =>
      go_frame
      refine' wpAnyH_take (i := 7) (oi := ⟨some 28, .load 65 (.tmp 27), _, _, _, none⟩) (v := _) rfl (by kernel_rfl) (by kernel_rfl) (by kernel_rfl) (fun _ _ _ h => h) (Or.inl ⟨by rfl, ?hy7⟩) (by assumption) ?rest7
      case hy7 => (intro w hSw; obtain ⟨s1, s2, s3⟩ := hSw; go_simp <;> with_reducible rfl)
      case rest7 =>
      go_frame
      refine' wpAnyH_take (i := 8) (oi := ⟨some 29, .move (.tmp 5), _, _, _, none⟩) (v := _) rfl (by kernel_rfl) (by kernel_rfl) (by kernel_rfl) (fun _ _ _ h => h) (Or.inl ⟨by rfl, ?hy8⟩) (by assumption) ?rest8
      case hy8 => (intro w hSw; obtain ⟨s1, s2, s3⟩ := hSw; go_simp <;> with_reducible rfl)
      case rest8 =>
      go_frame
      refine' wpAnyH_take (i := 9) (oi := ⟨some 30, .lookup 65 (.tmp 28) (.tmp 29) false, _, _, _, none⟩) (v := _) rfl (by kernel_rfl) (by kernel_rfl) (by kernel_rfl) (fun _ _ _ h => h) (Or.inl ⟨by rfl, ?hy9⟩) (by assumption) ?rest9
      case hy9 => (intro w hSw; obtain ⟨s1, s2, s3⟩ := hSw; go_simp <;> with_reducible rfl)
      case rest9 =>
      go_frame
      refine' wpAnyH_take (i := 10) (oi := ⟨some 31, .call { callee := .builtin .len, args := #[.tmp 30], argTypes := #[64] }, _, _, _, none⟩) (v := _) rfl (by kernel_rfl) (by kernel_rfl) (by kernel_rfl) (fun _ _ _ h => h) (Or.inl ⟨by rfl, ?hy10⟩) (by assumption) ?rest10
      case hy10 => (intro w hSw; obtain ⟨s1, s2, s3⟩ := hSw; go_simp <;> with_reducible rfl)
      case rest10 =>
      go_frame
      refine' wpAnyH_take (i := 11) (oi := ⟨some 32, .call { callee := .builtin .min, args := #[.tmp 24, .tmp 31], argTypes := #[3, 3] }, _, _, _, none⟩) (v := .int .i64 q) rfl (by kernel_rfl) (by kernel_rfl) (by kernel_rfl) (fun _ _ _ h => h) (Or.inl ⟨by rfl, ?hy11⟩) (by assumption) ?rest11
      case hy11 => (intro w hSw; obtain ⟨s1, s2, s3⟩ := hSw; exact exec_min (x := .tmp 24) (y := .tmp 31) rfl (k := .i64) (m := k) (n := ((d.Q i).length : Int)) rfl rfl (Hq.out))
      case rest11 =>
      go_frame
      refine' wpAnyH_take (i := 12) (oi := ⟨some 6, .assign (.tmp 32), _, _, _, none⟩) (v := _) rfl (by kernel_rfl) (by kernel_rfl) (by kernel_rfl) (fun _ _ _ h => h) (Or.inl ⟨by rfl, ?hy12⟩) (by assumption) ?rest12
      case hy12 => (intro w hSw; obtain ⟨s1, s2, s3⟩ := hSw; go_simp <;> with_reducible rfl)
      case rest12 =>
      go_frame
      refine wpAnyH_done (by kernel_rfl) ?_ _
      clear hHeld
      by_cases hq0 : 0 < q
      · obtain ⟨m, hm⟩ : ∃ m : Nat, q = (m : Int) + 1 := ⟨(q - 1).toNat, by omega⟩
        subst hm
        have hmq : m < (d.Q i).length := by omega
        have hsub : IntKind.i64.wrap (m : Int) = (m : Int) := IntWalk.i64_in _ (by omega)
        have hm1 : (0 : Int) ≤ (m : Int) := by omega
        have hm2 : (m : Int) < ((d.Q i).length : Int) := by omega
        have hi0 : (0 : Int) ≤ (i : Int) := by omega
        obtain ⟨x, hx⟩ : ∃ x, x = (d.Q i)[m] := ⟨_, rfl⟩
        have hxl : x.length = 256 := by rw [hx]; exact (Hl.out.dev.wq i).at_ hmq
        have hrx : wr.rangeAt g (m * 256) (cellsB x) := fun j' u hu => by
          rw [cell_of_row wr g (m * 256 + j') cur 85 (0, 0) Hrow.out.1]
          have := flat_get (Hl.out.dev.wq i) hmq (hx ▸ hu)
          rw [← Hrow.out.2, List.getElem?_take] at this
          split at this
          · simpa using this
          · cases this
        have hxi : (Try.prog.info? 85).map (·.size) = some (cellsB x).length := by rw [info_sector, cellsB_length, hxl]
        have Hx := Kept.mk hxi
        have hdw : DevIs wr.drew.drew F p bl bm S D { d with L := L } := Hl.out.dev.keep fun _ _ _ => rfl
        obtain ⟨w5, hst, hb5, hg5, hs5⟩ := store_sector (P := Try.prog) hdw.last hxl (o := i * 256) (by rw [flat_length hdw.wl]; simp only; omega) info_sector
        rw [flat_set hdw.wl hi1] at hb5
        have hd5 : DevIs w5 F p bl bm S D { d with L := L.set i x } := hdw.set_last hb5 hg5 (by simp) (hdw.wl.set i hxl)
        have hc85 : w5.cell? ⟨p, 8, none⟩ = some (.slice (some ⟨bl, 0, none⟩) L.length L.length) := by
          have := hd5.c8
          simpa using this
        have hlt5 : g < wr.heap.size := (Array.getElem?_eq_some_iff.1 Hrow.out.1).1
        have hr5 : w5.rangeAt g (m * 256) (cellsB x) := fun j' u hu => (World.cell?_of_block (hg5.block g hlt5 (fun e => hgF.2.2.1 (by injection e)))).trans (hrx j' u hu)
        have hlk5 := Hlook.out w5 (hg5.block bm Hl.out.dev.lt.2.2 (fun e => Hl.out.dev.ne.2.2 (by injection e with e; exact e.symm)))
        have hgrow5 : w1.grownBy w5 (some bl) := by
          have hg := Hl.out.grow
          exact ⟨hg5.os.trans hg.os, hg5.tape.trans hg.tape, hg5.output.trans hg.output, Nat.le_trans hg.size hg5.size, fun k' hk' hne' => (hg5.block k' (Nat.lt_of_lt_of_le hk' hg.size) hne').trans (hg.block k' hk' hne')⟩
        have hlost : Lost w1 w5 F p bl bm S D d ks (j + 1) (L.set i x) :=
          ⟨⟨by rw [← HN.out]; omega, by rw [← HK.out]; omega⟩, hd5, by simp [Hl.out.len], hgrow5, by
            rw [Hrest.out (L.set i x) (by rw [if_pos hq0, show ((m : Int) + 1 - 1).toNat = m by omega, hx, List.getD_eq_getElem?_getD, List.getElem?_eq_getElem hmq]; rfl)]
            exact Hl.out.rest⟩
        have Hlost := Lib.hid hlost
        clear hx hxl hxi hdw hb5 hd5 hgrow5 hlost
        go_wp2_with fail
        refine wp_region_held_drew (S := fun w' => w'.cell? ⟨p, 8, none⟩ = some (.slice (some ⟨bl, 0, none⟩) L.length L.length) ∧ w'.cell? ⟨p, 9, none⟩ = some (.map (some bm)) ∧ (Instr.lookup 65 (.map (some bm)) (.int .i64 (i : Int)) false).run Try.prog w' = .ok (.slice (some ⟨g, 0, none⟩) (d.Q i).length cap) w' ∧ w'.rangeAt g (m * 256) (cellsB x)) (by kernel_rfl) ?_ (fun hHeld => ?_)
        · exact ⟨hc8, hc9, Hlook.out _ rfl, hrx⟩
        refine' wpAnyH_take (i := 0) (oi := ⟨some 35, .move (.tmp 0), _, _, _, none⟩) (v := _) rfl (by kernel_rfl) (by kernel_rfl) (by kernel_rfl) (fun _ _ _ h => h) (Or.inl ⟨by rfl, ?hy0⟩) (by assumption) ?rest0
        case hy0 => (intro w hSw; obtain ⟨s1, s2, s3, s4⟩ := hSw; go_simp <;> with_reducible rfl)
        case rest0 =>
        go_frame
        refine' wpAnyH_take (i := 1) (oi := ⟨some 36, .nilCheck (.tmp 35), _, _, _, none⟩) (v := _) rfl (by kernel_rfl) (by kernel_rfl) (by kernel_rfl) (fun _ _ _ h => h) (Or.inl ⟨by rfl, ?hy1⟩) (by assumption) ?rest1
        case hy1 => (intro w hSw; obtain ⟨s1, s2, s3, s4⟩ := hSw; go_simp <;> with_reducible rfl)
        case rest1 =>
        go_frame
        refine' wpAnyH_take (i := 2) (oi := ⟨some 37, .fieldAddr 71 (.tmp 36) 1, _, _, _, none⟩) (v := _) rfl (by kernel_rfl) (by kernel_rfl) (by kernel_rfl) (fun _ _ _ h => h) (Or.inl ⟨by rfl, ?hy2⟩) (by assumption) ?rest2
        case hy2 => (intro w hSw; obtain ⟨s1, s2, s3, s4⟩ := hSw; go_simp <;> with_reducible rfl)
        case rest2 =>
        go_frame
        refine' wpAnyH_take (i := 3) (oi := ⟨some 38, .load 64 (.tmp 37), _, _, _, none⟩) (v := _) rfl (by kernel_rfl) (by kernel_rfl) (by kernel_rfl) (fun _ _ _ h => h) (Or.inl ⟨by rfl, ?hy3⟩) (by assumption) ?rest3
        case hy3 => (intro w hSw; obtain ⟨s1, s2, s3, s4⟩ := hSw; go_simp <;> with_reducible rfl)
        case rest3 =>
        go_frame
        refine' wpAnyH_take (i := 4) (oi := ⟨some 39, .move (.tmp 5), _, _, _, none⟩) (v := _) rfl (by kernel_rfl) (by kernel_rfl) (by kernel_rfl) (fun _ _ _ h => h) (Or.inl ⟨by rfl, ?hy4⟩) (by assumption) ?rest4
        case hy4 => (intro w hSw; obtain ⟨s1, s2, s3, s4⟩ := hSw; go_simp <;> with_reducible rfl)
        case rest4 =>
        go_frame
        refine' wpAnyH_take (i := 5) (oi := ⟨some 40, .move (.tmp 0), _, _, _, none⟩) (v := _) rfl (by kernel_rfl) (by kernel_rfl) (by kernel_rfl) (fun _ _ _ h => h) (Or.inl ⟨by rfl, ?hy5⟩) (by assumption) ?rest5
        case hy5 => (intro w hSw; obtain ⟨s1, s2, s3, s4⟩ := hSw; go_simp <;> with_reducible rfl)
        case rest5 =>
        go_frame
        refine' wpAnyH_take (i := 6) (oi := ⟨some 41, .nilCheck (.tmp 40), _, _, _, none⟩) (v := _) rfl (by kernel_rfl) (by kernel_rfl) (by kernel_rfl) (fun _ _ _ h => h) (Or.inl ⟨by rfl, ?hy6⟩) (by assumption) ?rest6
        case hy6 => (intro w hSw; obtain ⟨s1, s2, s3, s4⟩ := hSw; go_simp <;> with_reducible rfl)
        case rest6 =>
        go_frame
        refine' wpAnyH_take (i := 7) (oi := ⟨some 42, .fieldAddr 71 (.tmp 41) 2, _, _, _, none⟩) (v := _) rfl (by kernel_rfl) (by kernel_rfl) (by kernel_rfl) (fun _ _ _ h => h) (Or.inl ⟨by rfl, ?hy7⟩) (by assumption) ?rest7
        case hy7 => (intro w hSw; obtain ⟨s1, s2, s3, s4⟩ := hSw; go_simp <;> with_reducible rfl)
        case rest7 =>
        go_frame
        refine' wpAnyH_take (i := 8) (oi := ⟨some 43, .load 65 (.tmp 42), _, _, _, none⟩) (v := _) rfl (by kernel_rfl) (by kernel_rfl) (by kernel_rfl) (fun _ _ _ h => h) (Or.inl ⟨by rfl, ?hy8⟩) (by assumption) ?rest8
        case hy8 => (intro w hSw; obtain ⟨s1, s2, s3, s4⟩ := hSw; go_simp <;> with_reducible rfl)
        case rest8 =>
        go_frame
        refine' wpAnyH_take (i := 9) (oi := ⟨some 44, .move (.tmp 5), _, _, _, none⟩) (v := _) rfl (by kernel_rfl) (by kernel_rfl) (by kernel_rfl) (fun _ _ _ h => h) (Or.inl ⟨by rfl, ?hy9⟩) (by assumption) ?rest9
        case hy9 => (intro w hSw; obtain ⟨s1, s2, s3, s4⟩ := hSw; go_simp <;> with_reducible rfl)
        case rest9 =>
        go_frame
        refine' wpAnyH_take (i := 10) (oi := ⟨some 45, .lookup 65 (.tmp 43) (.tmp 44) false, _, _, _, none⟩) (v := _) rfl (by kernel_rfl) (by kernel_rfl) (by kernel_rfl) (fun _ _ _ h => h) (Or.inl ⟨by rfl, ?hy10⟩) (by assumption) ?rest10
        case hy10 => (intro w hSw; obtain ⟨s1, s2, s3, s4⟩ := hSw; go_simp <;> with_reducible rfl)
        case rest10 =>
        go_frame
        refine' wpAnyH_take (i := 11) (oi := ⟨some 46, .move (.tmp 6), _, _, _, none⟩) (v := _) rfl (by kernel_rfl) (by kernel_rfl) (by kernel_rfl) (fun _ _ _ h => h) (Or.inl ⟨by rfl, ?hy11⟩) (by assumption) ?rest11
        case hy11 => (intro w hSw; obtain ⟨s1, s2, s3, s4⟩ := hSw; go_simp <;> with_reducible rfl)
        case rest11 =>
        go_frame
        refine' wpAnyH_take (i := 12) (oi := ⟨some 47, .binOp .sub 3 (.tmp 46) (.const (.int .i64 1)) 3, _, _, _, none⟩) (v := _) rfl (by kernel_rfl) (by kernel_rfl) (by kernel_rfl) (fun _ _ _ h => h) (Or.inl ⟨by rfl, ?hy12⟩) (by assumption) ?rest12
        case hy12 => (intro w hSw; obtain ⟨s1, s2, s3, s4⟩ := hSw; go_simp <;> with_reducible rfl)
        case rest12 =>
        go_frame
        refine' wpAnyH_take (i := 13) (oi := ⟨some 48, .indexAddr 64 (.tmp 45) (.tmp 47), _, _, _, none⟩) (v := _) rfl (by kernel_rfl) (by kernel_rfl) (by kernel_rfl) (fun _ _ _ h => h) (Or.inl ⟨by rfl, ?hy13⟩) (by assumption) ?rest13
        case hy13 => (intro w hSw; obtain ⟨s1, s2, s3, s4⟩ := hSw; go_simp <;> with_reducible rfl)
        case rest13 =>
        go_frame
        refine' wpAnyH_take (i := 14) (oi := ⟨some 49, .load 85 (.tmp 48), _, _, _, none⟩) (v := .agg (cellsB x).toArray) rfl (by kernel_rfl) (by kernel_rfl) (by kernel_rfl) (fun _ _ _ h => h) (Or.inl ⟨by rfl, ?hy14⟩) (by assumption) ?rest14
        case hy14 => (intro w hSw; obtain ⟨s1, s2, s3, s4⟩ := hSw; exact exec_load (t := 85) (x := .tmp 48) rfl (pv := .pointer (some ⟨g, m * 256, none⟩)) rfl (run_loadAt_mid w g (m * 256) 85 (cellsB x) (.array 256 5) s4 Try.underlying85 rfl Hx.out))
        case rest14 =>
        go_frame
        refine' wpAnyH_take (i := 15) (oi := ⟨some 50, .indexAddr 64 (.tmp 38) (.tmp 39), _, _, _, none⟩) (v := _) rfl (by kernel_rfl) (by kernel_rfl) (by kernel_rfl) (fun _ _ _ h => h) (Or.inl ⟨by rfl, ?hy15⟩) (by assumption) ?rest15
        case hy15 => (intro w hSw; obtain ⟨s1, s2, s3, s4⟩ := hSw; go_simp <;> with_reducible rfl)
        case rest15 =>
        go_frame
        refine wpAnyH_ready (rs := [16]) (by kernel_rfl) (by simp) (AllReadyH.cons (o := ⟨none, .store 85 (.tmp 50) (.tmp 49), _, _, _, none⟩) rfl (fun K hK => ?_) AllReadyH.nil)
        rw [if_pos (by rfl)]
        refine wp_skip w5 (exec_store (t := 85) (x := .tmp 50) (y := .tmp 49) rfl (vx := .pointer (some ⟨bl, i * 256, none⟩)) rfl (vy := .agg (cellsB x).toArray) rfl hst) ?_
        refine hK.out _ _ ⟨hc85, Hlost.out.dev.c9, hlk5, hr5⟩ (fun hHeld => ?_)
        clear hK K
        go_frame
        refine wpAnyH_done (by kernel_rfl) ?_ _
        clear hHeld hsub hst hc85 hlk5 hr5
        go_wp2_with fail
        go_roundw
        case rel => exact ⟨j + 1, _, by go_num, Hlost.out⟩
        case measure => simp [intOf]; omega
      · have hlost : Lost w1 wr.drew F p bl bm S D d ks (j + 1) L :=
          ⟨⟨by rw [← HN.out]; omega, by rw [← HK.out]; omega⟩, Hl.out.dev.keep fun _ _ _ => rfl, Hl.out.len, ⟨Hl.out.grow.os, Hl.out.grow.tape, Hl.out.grow.output, Hl.out.grow.size, Hl.out.grow.block⟩, by
            rw [Hrest.out L (by rw [if_neg hq0])]
            exact Hl.out.rest⟩
        have Hlost := Lib.hid hlost
        clear hlost
        go_wp2_with fail
        go_roundw
        case rel => exact ⟨j + 1, _, by go_num, Hlost.out⟩
        case measure => simp [intOf]; omega
    · have hL : L = lose d.Q d.waits ks d.L := by
        rw [← hl.rest]
        by_cases hj : j < N
        · have e : ks.drop j = [] := List.drop_eq_nil_of_le (by rw [← HK.out]; omega)
          rw [e, lose_none]
        · have e : d.waits.drop j = [] := List.drop_eq_nil_of_le (by rw [← HN.out]; omega)
          rw [e, lose]
      obtain ⟨es, clock, hb, _⟩ := hl.dev.map
      obtain ⟨w3, hrun3, hb3, hg3, _⟩ := run_clear_map hb 0
      have hd3 := hl.dev.cleared hb3 hg3
      obtain ⟨w4, hrun4, hb4, hg4, _⟩ := run_clear_fails hd3.top 0
      have hd4 : DevIs w4 F p bl bm (fun _ => .slice none 0 0) (.map []) (d.crash ks) := hd3.top_new (d' := d.crash ks) (by unfold Dev.crash; rw [← hL]; exact hb4) hg4 (by unfold Dev.crash; rw [← hL]) rfl (Nat.le_refl _) (fun _ => Nat.zero_le _)
      have Hd4 := Lib.hid hd4
      have hc9 := hl.dev.c9
      have honly : Only F w w4 := ho1.trans ((Only.grown hl.grow (fun g e => by cases e; exact h.inF.2.1)).trans ((Only.grown hg3 (fun g e => by cases e; exact h.inF.2.2)).trans (Only.grown hg4 (fun g e => by cases e; exact h.inF.1))))
      have Honly := Lib.hid honly
      have hex1 := fun (ρ : Operand → Value) (o : Oper) (ho : o.op = .call { callee := .builtin .clear, args := #[.tmp 55], argTypes := #[65] }) (h0 : o.type = 0) (hx : ρ (.tmp 55) = .map (some bm)) => exec_clear (P := Try.prog) (w := wr) (t := 65) ho hx (by rw [h0]; exact hrun3)
      have hex2 := fun (ρ : Operand → Value) (o : Oper) (ho : o.op = .call { callee := .builtin .clear, args := #[.tmp 59], argTypes := #[97] }) (h0 : o.type = 0) (hx : ρ (.tmp 59) = .slice (some ⟨p, 0, none⟩) 4 4) => exec_clear (P := Try.prog) (w := w3) (t := 97) ho hx (by rw [h0]; exact hrun4)
      have Hex1 := Lib.hid hex1
      have Hex2 := Lib.hid hex2
      by_cases hj1 : j < N
      · have hj1' : j < d.waits.length := by rw [← HN.out]; exact hj1
        obtain ⟨gv, rfl, hgv1, hgv2, hcell⟩ := Hcv.out j hj1'
        have hne : gv ≠ bl := by have := h.lt; omega
        have hcell' : wr.cell? ⟨gv, j, none⟩ = some (.int .i64 (d.waits[j] : Int)) := (World.cell?_of_block (a := ⟨gv, j, none⟩) (hl.grow.block gv hgv2 (fun e => hne (by injection e)))).trans hcell
        have t1 : ((j : Int) == (K : Int)) = true := by rw [beq_iff_eq]; omega
        clear hL hb hrun3 hb3 hd3 hrun4 hb4 hd4 honly hex1 hex2 hcell hl hgo
        go_wp2_with (first
          | ((with_reducible refine wpList_run (o := ⟨none, .call { callee := .builtin .clear, args := #[.tmp 55], argTypes := #[65] }, 0, _, _, none⟩) rfl (.tuple #[]) w3 ?_ ?_); exact Hex1.out _ _ rfl rfl rfl)
          | ((with_reducible refine wpList_run (o := ⟨none, .call { callee := .builtin .clear, args := #[.tmp 59], argTypes := #[97] }, 0, _, _, none⟩) rfl (.tuple #[]) w4 ?_ ?_); exact Hex2.out _ _ rfl rfl rfl))
        go_end0
        exact ⟨rfl, ⟨_, _, Hd4.out⟩, Honly.out⟩
      · clear hL hb hrun3 hb3 hd3 hrun4 hb4 hd4 honly hex1 hex2 hl hgo
        go_wp2_with (first
          | ((with_reducible refine wpList_run (o := ⟨none, .call { callee := .builtin .clear, args := #[.tmp 55], argTypes := #[65] }, 0, _, _, none⟩) rfl (.tuple #[]) w3 ?_ ?_); exact Hex1.out _ _ rfl rfl rfl)
          | ((with_reducible refine wpList_run (o := ⟨none, .call { callee := .builtin .clear, args := #[.tmp 59], argTypes := #[97] }, 0, _, _, none⟩) rfl (.tuple #[]) w4 ?_ ?_); exact Hex2.out _ _ rfl rfl rfl))
        go_end0
        exact ⟨rfl, ⟨_, _, Hd4.out⟩, Honly.out⟩
end
end Go.Proofs.Ytfjcblppmoomdaa
