/-
  Flush, on a device: its contract.
-/
import Derived.Test.YtfjcblppmoomdaaDevE
namespace Go.Proofs.Ytfjcblppmoomdaa
open Go.RowKit
/-- All sectors' bytes now last, nothing waits. -/
def Dev.flush (d : Dev) : Dev := { d with L := (List.range d.L.length).map d.now, Q := fun _ => [] }
/-- On the way there: what is still to come lasts as it did. -/
def Dev.half (d : Dev) (left : Lit → Bool) : List (List UInt8) := (List.range d.L.length).map fun i => if left (keyL i) = true then d.L.getD i [] else d.now i
theorem Dev.half_length (d : Dev) (left : Lit → Bool) : (d.half left).length = d.L.length := by simp [Dev.half]
theorem Dev.half_get (d : Dev) (left : Lit → Bool) {i : Nat} (hi : i < d.L.length) : (d.half left)[i]'(by rw [Dev.half_length]; exact hi) = if left (keyL i) = true then d.L.getD i [] else d.now i := by simp [Dev.half]
theorem keyL_same (i j : Nat) : (keyL j).sameKey (keyL i) = decide (j = i) := by
  by_cases h : j = i
  · subst h
    simp [Lit.sameKey]
  · rw [Maps.sameKey_ne (fun e => h (by injection e with e1 e2; omega))]
    simp [h]
theorem Dev.half_step (d : Dev) (left : Lit → Bool) {i : Nat} : d.half (fun z => left z && !z.sameKey (keyL i)) = (d.half left).set i (d.now i) := by
  apply List.ext_getElem
  · simp [Dev.half_length]
  · intro j h1 h2
    have hj : j < d.L.length := by rw [Dev.half_length] at h1; exact h1
    rw [Dev.half_get _ _ hj, List.getElem_set, keyL_same]
    by_cases e : i = j
    · subst e
      simp
    · rw [if_neg e, Dev.half_get _ _ hj]
      have : ¬ j = i := fun h => e h.symm
      simp [this]
section
variable {w : World} {F : Nat → Prop} {p bl bm : Nat} {S : Nat → Value} {D : DataW Value} {d : Dev}
theorem DevIs.half_start (h : DevIs w F p bl bm S D d) : d.half (Maps.has D) = d.L := by
  apply List.ext_getElem
  · rw [Dev.half_length]
  · intro i h1 h2
    rw [Dev.half_get _ _ h2]
    split
    · simp [List.getD_eq_getElem?_getD, List.getElem?_eq_getElem h2]
    · rename_i hh
      have : d.Q i = [] := Classical.byContradiction fun e => hh ((h.has i h2).2 e)
      simp [Dev.now, this, List.getD_eq_getElem?_getD, List.getElem?_eq_getElem h2]
theorem Dev.half_end (d : Dev) (left : Lit → Bool) (h : ∀ kl, left kl = false) : d.half left = d.flush.L := by
  unfold Dev.half Dev.flush
  simp [h]
theorem DevIs.half_wide (h : DevIs w F p bl bm S D d) (left : Lit → Bool) : Wide (d.half left) := by
  intro l hl
  obtain ⟨i, hi, rfl⟩ := List.mem_iff_getElem.1 hl
  rw [Dev.half_length] at hi
  rw [Dev.half_get _ _ hi]
  split
  · simp only [List.getD_eq_getElem?_getD, List.getElem?_eq_getElem hi, Option.getD_some]
    exact h.wl.at_ hi
  · exact Dev.now_wide h hi
/-- Other bytes that last. -/
theorem DevIs.set_last (h : DevIs w F p bl bm S D d) {w' : World} {L' : List (List UInt8)} (hb : w'.heap[bl]? = some (.cells (flat L').toArray 85 (0, 0))) (hg : w.grownBy w' (some bl)) (hl : L'.length = d.L.length) (hw : Wide L') :
    DevIs w' F p bl bm S D { d with L := L' } := by
  have ho : ∀ k, k < w.heap.size → k ≠ bl → w'.heap[k]? = w.heap[k]? := fun k hk hn => hg.block k hk (fun e => hn (by injection e))
  have hlt := h.lt
  have top : w'.heap[p]? = some (.cells (devCells { d with L := L' } bl bm).toArray 71 (0, 0)) := by
    have := (ho p hlt.1 h.ne.1).trans h.top
    simpa [devCells, hl] using this
  refine ⟨top, hb, ?_, ?_, ?_, ?_, ?_, ?_, ?_, h.ne, h.inF, hw, h.wq, ?_, h.few, h.fuel⟩
  · exact h.map.kept hg (fun e => h.ne.2.2 (by injection e with e; exact e.symm))
  · simp only [hl]; exact h.at_
  · simp only [hl]
    exact fun i hi => row_keep (h.row i hi) fun k hk => ho k ((h.row i hi).lt k hk).2 (h.own i k hi hk).2.2.1
  · simp only [hl]; exact h.has
  · simp only [hl]; exact h.keys
  · simp only [hl]; exact h.apart
  · simp only [hl]; exact h.own
  · simp only [hl]; exact h.size
/-- An iterator's block is none of the device's. -/
theorem DevIs.iter (h : DevIs w F p bl bm S D d) {w' : World} {r : Nat} {o : Obj} (hr : w.heap[r]? = some o) (hc : ∀ c t f, o ≠ .cells c t f) (hm : ∀ e c, o ≠ .map e c) (hg : w.grownBy w' (some r)) : DevIs w' F p bl bm S D d := by
  have ho : ∀ {k : Nat} {x : Obj}, w.heap[k]? = some x → x ≠ o → w'.heap[k]? = some x := fun {k x} e hx =>
    (hg.block k (Array.getElem?_eq_some_iff.1 e).1 (fun e2 => hx (by injection e2 with e2; subst e2; rw [hr] at e; injection e with e; exact e.symm))).trans e
  refine { h with top := ho h.top (fun e => hc _ _ _ e.symm), last := ho h.last (fun e => hc _ _ _ e.symm), map := ?_, row := fun i hi => ?_ }
  · obtain ⟨es, clock, hb, rest⟩ := h.map
    exact ⟨es, clock, ho hb (fun e => hm _ _ e.symm), rest⟩
  · have hrw := h.row i hi
    refine ⟨hrw.1, ?_⟩
    rcases hrw.2 with hn | ⟨g, cap, cur, e, hb, hgg, rest⟩
    · exact .inl hn
    · exact .inr ⟨g, cap, cur, e, hb, ho hgg (fun e => hc _ _ _ e.symm), rest⟩
/-- clear(map). -/
theorem run_clear_map {es : Array MapEntry} {clock : Nat} (hb : w.heap[bm]? = some (.map es clock)) (ty : TypeId) :
    ∃ w', (Builtin.clear_ #[65] ty #[.map (some bm)]).run Try.prog w = .ok (.tuple #[]) w' ∧ w'.heap[bm]? = some (.map #[] clock) ∧ w.grownBy w' (some bm) ∧ w'.heap.size = w.heap.size := by
  have h := MapKept.run_setObj_map (P := Try.prog) (w := w) (r := bm) (.map #[] clock) hb
  refine ⟨ChangeMaps.setBlock w bm (.map #[] clock), ?_, ChangeMaps.heap_setBlock_same hb _, ⟨rfl, rfl, rfl, by simp [ChangeMaps.setBlock], fun i _ hi => ChangeMaps.heap_setBlock_other hb _ (fun e => hi (by rw [e]))⟩, by simp [ChangeMaps.setBlock]⟩
  simp [Builtin.clear_, run_underlying Try.underlying65, MapKept.run_getObj_map hb, h, Result.andThen]
  rfl
theorem DevIs.cleared (h : DevIs w F p bl bm S D d) {w' : World} {clock : Nat} (hb : w'.heap[bm]? = some (.map #[] clock)) (hg : w.grownBy w' (some bm)) :
    DevIs w' F p bl bm (fun _ => .slice none 0 0) (.map []) { d with Q := fun _ => [] } := by
  have ho : ∀ k, k < w.heap.size → k ≠ bm → w'.heap[k]? = w.heap[k]? := fun k hk hn => hg.block k hk (fun e => hn (by injection e))
  have hlt := h.lt
  have hno : ∀ kl, Maps.has (DataW.map [] : DataW Value) kl = false := fun kl => rfl
  have top : w'.heap[p]? = some (.cells (devCells { d with Q := fun _ => [] } bl bm).toArray 71 (0, 0)) := (ho p hlt.1 h.ne.2.1).trans h.top
  refine ⟨top, (ho bl hlt.2.1 h.ne.2.2).trans h.last, ⟨#[], clock, hb, ⟨by simp, MapKept.stamped_empty clock, by simp⟩, Nat.zero_le _, rfl⟩, fun i _ => Maps.atKey_of_not_has (hno _) _, fun i _ => World.ownsRow_nil _ _ _ _, fun i _ => ?_, fun kl hk => ?_, fun _ _ _ _ _ => .inl rfl, fun i g _ e => ?_, h.ne, h.inF, h.wl, fun _ => ?_, h.size, fun _ => Nat.zero_le _, h.fuel⟩
  · simp [hno]
  · rw [hno] at hk; cases hk
  · cases e
  · intro l hl; cases hl
theorem Dev.now_waits (d : Dev) (L' : List (List UInt8)) {i : Nat} (hq : d.Q i ≠ []) : Dev.now { d with L := L' } i = d.now i := by
  unfold Dev.now
  rcases h : (d.Q i).getLast? with _ | l
  · exact absurd (List.getLast?_eq_none_iff.1 h) hq
  · simp
set_option maxRecDepth 100000 in
theorem flush_nil (w : World) : Calls Try.prog 49 #[.pointer none] w fun e w' => e = .returned (.int .i64 1) ∧ w = w' := by
  go_enter Try.func49, Try.ntmps49
  go_wp2_with fail
  go_ret
  exact ⟨rfl, rfl⟩
set_option maxRecDepth 100000 in
theorem flush_io (h : DevIs w F p bl bm S D d) (hb : d.burns 3 = true) : Calls Try.prog 49 #[at0 p] w fun e w' => e = .returned (.int .i64 3) ∧ DevIs w' F p bl bm S D (d.burn 3) ∧ Only F w w' := by
  have hf := fails_any h (k := 3) (by omega)
  rw [hb] at hf
  have Hf := Lib.hid hf
  clear h hb hf
  go_enter Try.func49, Try.ntmps49
  go_wp2_with (go_at_call 41; refine Hf.out.mono ?_; rintro e w' ⟨rfl, hd, ho⟩)
  go_ret
  exact ⟨rfl, hd, ho⟩
set_option maxRecDepth 100000 in
set_option maxHeartbeats 800000 in
theorem flush_ok (h : DevIs w F p bl bm S D d) (hb : d.burns 3 = false) (hn : d.n < 1000000) (hF : ∀ k, w.heap.size ≤ k → F k) :
    Calls Try.prog 49 #[at0 p] w fun e w' => ∃ S' D', e = .returned (.int .i64 0) ∧ DevIs w' F p bl bm S' D' (d.burn 3).flush ∧ Only F w w' := by
  have hf := fails_any h (k := 3) (by omega)
  rw [hb] at hf
  have Hf := Lib.hid hf
  obtain ⟨d2, hd2⟩ : ∃ d2, d2 = d.burn 3 := ⟨_, rfl⟩
  have hn2 : d2.n < 1000000 := by rw [hd2]; exact hn
  rw [← hd2] at Hf ⊢
  clear h hb hf hd2 hn
  go_enter Try.func49, Try.ntmps49
  go_wp2_with (first
    | (go_at_call 41; refine Hf.out.mono ?_; rintro e w1 ⟨rfl, hd, ho⟩; have hc9 := hd.c9)
    | (at_range; refine wpList_range_own _ rfl _ 65 rfl 3 64 keyed_int Try.underlying65 asHeld bm d2.n D rfl hd.map ?_; intro w2 hrg0 hg0 hs0))
  go_frame
  have hstart : DevIs w2 F p bl bm S D { d2 with L := d2.half (Maps.has D) } := by
    rw [hd.half_start]
    exact hd.keep fun k hk _ => hg0.block k hk (by simp)
  have hwide := hd.half_wide
  have hsz : 16 ≤ d2.L.length ∧ d2.L.length ≤ 1600 := hd.size
  have hQ : ∀ kl, Maps.has D kl = true → ∃ i : Nat, i < d2.L.length ∧ kl = keyL i ∧ d2.Q i ≠ [] := fun kl hk => by
    obtain ⟨i, hi, rfl⟩ := hd.keys kl hk
    exact ⟨i, hi, rfl, (hd.has i hi).1 hk⟩
  have Hwide := Lib.hid hwide
  have HQ := Lib.hid hQ
  have hFr : F w1.heap.size := hF _ ho.size
  have ho2 : Only F w w2 := ho.trans (Only.grown hg0 (by simp))
  have HF := Lib.hid hF
  clear Hf hwide hQ hF hg0 hs0 hd hc9 ho
  go_loopw [3] (fun _ wr => ∃ left cnt, wr.ranges Try.prog 3 asHeld bm w1.heap.size d2.n D left cnt ∧ DevIs wr F p bl bm S D { d2 with L := d2.half left } ∧ Only F w wr) (fun _ wr => wr.rangeLeft bm w1.heap.size)
  case atStart => exact ⟨_, _, hrg0, hstart, ho2⟩
  case round =>
    obtain ⟨left, cnt, hrg, hd, ho⟩ := hrel
    go_wp2_with (at_next; refine wpList_next_ranges _ rfl _ rfl 3 keyed_int asHeld (fun x : Int => Value.int .i64 x) (fun v : Value => v) (fun key kl hk => by obtain ⟨x, rfl, _⟩ := Maps.keyOf_int_inv Try.underlying3 hk; exact ⟨x, rfl⟩) (fun v y _ => ⟨v, rfl⟩) bm w1.heap.size d2.n D left cnt rfl hrg ?_ ?_)
    · intro hc0 hl0
      rw [Dev.half_end _ _ hl0] at hd
      obtain ⟨es, clock, hb, _⟩ := hd.map
      obtain ⟨w3, hrun, hb3, hg3, _⟩ := run_clear_map hb 0
      have hfin := Lib.hid (hd.cleared hb3 hg3)
      have hc9 := hd.c9
      have hbF := hd.inF.2.2
      have hex := fun (ρ : Operand → Value) (o : Oper) (ho : o.op = .call { callee := .builtin .clear, args := #[.tmp 31], argTypes := #[65] }) (h0 : o.type = 0) (hx : ρ (.tmp 31) = .map (some bm)) => exec_clear (P := Try.prog) (w := wr) (t := 65) ho hx (by rw [h0]; exact hrun)
      have Hex := Lib.hid hex
      clear hc0 hl0 hb hrun hb3 hrg hd Hwide HQ hex
      go_wp2_with ((with_reducible refine wpList_run (o := ⟨none, .call { callee := .builtin .clear, args := #[.tmp 31], argTypes := #[65] }, 0, _, _, none⟩) rfl (.tuple #[]) w3 ?_ ?_); exact Hex.out _ _ rfl rfl rfl)
      go_ret
      exact ⟨rfl, ⟨_, _, hfin.out⟩, ho.trans (Only.grown hg3 (fun g e => by cases e; exact hbF))⟩
    · intro x c kl y yp w3 cnt3 hkey hleft hRv hat hrg3 hlt3 hg3 hs3 hen
      have hhas : Maps.has D kl = true := Maps.has_true_of_atKey hat
      obtain ⟨i, hi, rfl, hq⟩ := HQ.out kl hhas
      obtain ⟨x', e1, e2, _⟩ := Maps.keyOf_int_inv Try.underlying3 hkey
      injection e1 with _ e1
      injection e2 with _ e2
      obtain rfl : x = (i : Int) := e1.trans e2.symm
      have hd3 : DevIs w3 F p bl bm S D { d2 with L := d2.half left } := by
        obtain ⟨_, _, _, _, _, _, _, _, _, hr, _⟩ := hrg
        exact hd.iter hr (fun _ _ _ e => by cases e) (fun _ _ e => by cases e) hg3
      have ho3 : Only F w w3 := ho.trans (Only.grown hg3 (fun g e => by injection e with e; subst e; exact hFr))
      have hc8 : w3.cell? ⟨p, 8, none⟩ = some (.slice (some ⟨bl, 0, none⟩) d2.L.length d2.L.length) := by
        have := hd3.c8
        simpa [Dev.half_length] using this
      have hi0 : (0 : Int) ≤ (i : Int) := by omega
      have hi1 : (i : Int) < (d2.L.length : Int) := by omega
      have hi' : i < (d2.half left).length := by rw [Dev.half_length]; exact hi
      have hnow := now_any (d := { d2 with L := d2.half left }) (hd3.keep (w' := w3.drew) fun _ _ _ => rfl) hi' hn2
      rw [Dev.now_waits d2 _ hq] at hnow
      have Hnow := Lib.hid hnow
      have Hleft := Lib.hid hlt3
      have hq' := Lib.hid hq
      clear hkey hleft hRv hat hhas hq e1 e2 hd ho hg3 hs3 hnow hlt3
      go_wp2_with fail
      refine wp_region_held_drew (S := fun w' => w'.cell? ⟨p, 8, none⟩ = some (.slice (some ⟨bl, 0, none⟩) d2.L.length d2.L.length)) (by kernel_rfl) ?_ (fun hHeld => ?_)
      · exact hc8
      refine' wpAnyH_take (i := 0) (oi := ⟨some 19, .move (.tmp 0), _, _, _, none⟩) (v := _) rfl (by kernel_rfl) (by kernel_rfl) (by kernel_rfl) (fun _ _ _ h => h) (Or.inl ⟨by rfl, ?hy0⟩) (by assumption) ?rest0
      case hy0 => (intro w hSw; obtain s1 := hSw; go_simp <;> with_reducible rfl)
      case rest0 =>
      go_frame
      refine' wpAnyH_take (i := 1) (oi := ⟨some 20, .nilCheck (.tmp 19), _, _, _, none⟩) (v := _) rfl (by kernel_rfl) (by kernel_rfl) (by kernel_rfl) (fun _ _ _ h => h) (Or.inl ⟨by rfl, ?hy1⟩) (by assumption) ?rest1
      case hy1 => (intro w hSw; obtain s1 := hSw; go_simp <;> with_reducible rfl)
      case rest1 =>
      go_frame
      refine' wpAnyH_take (i := 2) (oi := ⟨some 21, .fieldAddr 71 (.tmp 20) 1, _, _, _, none⟩) (v := _) rfl (by kernel_rfl) (by kernel_rfl) (by kernel_rfl) (fun _ _ _ h => h) (Or.inl ⟨by rfl, ?hy2⟩) (by assumption) ?rest2
      case hy2 => (intro w hSw; obtain s1 := hSw; go_simp <;> with_reducible rfl)
      case rest2 =>
      go_frame
      refine' wpAnyH_take (i := 3) (oi := ⟨some 22, .load 64 (.tmp 21), _, _, _, none⟩) (v := _) rfl (by kernel_rfl) (by kernel_rfl) (by kernel_rfl) (fun _ _ _ h => h) (Or.inl ⟨by rfl, ?hy3⟩) (by assumption) ?rest3
      case hy3 => (intro w hSw; obtain s1 := hSw; go_simp <;> with_reducible rfl)
      case rest3 =>
      go_frame
      refine' wpAnyH_take (i := 4) (oi := ⟨some 23, .move (.tmp 3), _, _, _, none⟩) (v := _) rfl (by kernel_rfl) (by kernel_rfl) (by kernel_rfl) (fun _ _ _ h => h) (Or.inl ⟨by rfl, ?hy4⟩) (by assumption) ?rest4
      case hy4 => (intro w hSw; obtain s1 := hSw; go_simp <;> with_reducible rfl)
      case rest4 =>
      go_frame
      refine' wpAnyH_take (i := 5) (oi := ⟨some 24, .move (.tmp 0), _, _, _, none⟩) (v := _) rfl (by kernel_rfl) (by kernel_rfl) (by kernel_rfl) (fun _ _ _ h => h) (Or.inl ⟨by rfl, ?hy5⟩) (by assumption) ?rest5
      case hy5 => (intro w hSw; obtain s1 := hSw; go_simp <;> with_reducible rfl)
      case rest5 =>
      go_frame
      refine' wpAnyH_take (i := 6) (oi := ⟨some 25, .move (.tmp 3), _, _, _, none⟩) (v := _) rfl (by kernel_rfl) (by kernel_rfl) (by kernel_rfl) (fun _ _ _ h => h) (Or.inl ⟨by rfl, ?hy6⟩) (by assumption) ?rest6
      case hy6 => (intro w hSw; obtain s1 := hSw; go_simp <;> with_reducible rfl)
      case rest6 =>
      go_frame
      refine wpAnyH_ready (rs := [7]) (by kernel_rfl) (by simp) (AllReadyH.cons (o := ⟨some 26, .call { callee := .value (.func 42), args := #[.tmp 24, .tmp 25], argTypes := #[23, 3] }, _, _, _, none⟩) rfl (fun K hK => ?_) AllReadyH.nil)
      rw [if_pos (by rfl)]
      go_simp
      refine Hnow.out.mono ?_
      rintro e w4 ⟨rfl, hb4⟩
      dsimp only
      have hc84 : w4.cell? ⟨p, 8, none⟩ = some (.slice (some ⟨bl, 0, none⟩) d2.L.length d2.L.length) := (hb4.cell (p := ⟨p, 8, none⟩) hd3.lt.1).trans hc8
      refine hK.out _ _ hc84 (fun hHeld => ?_)
      clear hK K
      refine' wpAnyH_take (i := 8) (oi := ⟨some 27, .indexAddr 64 (.tmp 22) (.tmp 23), _, _, _, none⟩) (v := _) rfl (by kernel_rfl) (by kernel_rfl) (by kernel_rfl) (fun _ _ _ h => h) (Or.inl ⟨by rfl, ?hy8⟩) (by assumption) ?rest8
      case hy8 => (intro w hSw; obtain s1 := hSw; go_simp <;> with_reducible rfl)
      case rest8 =>
      go_frame
      have hd4 : DevIs w4 F p bl bm S D { d2 with L := d2.half left } := (hd3.keep (w' := w3.drew) fun _ _ _ => rfl).below hb4
      have hwl := Dev.now_wide hd4 hi'
      rw [Dev.now_waits d2 _ hq'.out] at hwl
      obtain ⟨w5, hst, hb5, hg5, hs5⟩ := store_sector (P := Try.prog) hd4.last hwl (o := i * 256) (by rw [flat_length hd4.wl]; simp only; omega) info_sector
      rw [flat_set hd4.wl hi', ← Dev.half_step] at hb5
      refine wpAnyH_ready (rs := [9]) (by kernel_rfl) (by simp) (AllReadyH.cons (o := ⟨none, .store 85 (.tmp 27) (.tmp 26), _, _, _, none⟩) rfl (fun K hK => ?_) AllReadyH.nil)
      rw [if_pos (by rfl)]
      refine wp_skip w5 (exec_store (t := 85) (x := .tmp 27) (y := .tmp 26) rfl (vx := .pointer (some ⟨bl, i * 256, none⟩)) rfl (vy := .agg (cellsB (d2.now i)).toArray) rfl hst) ?_
      have hd5 : DevIs w5 F p bl bm S D { d2 with L := d2.half (fun z => left z && !z.sameKey (keyL i)) } := hd4.set_last hb5 hg5 (by simp [Dev.half_length]) (Hwide.out _)
      have hc85 : w5.cell? ⟨p, 8, none⟩ = some (.slice (some ⟨bl, 0, none⟩) d2.L.length d2.L.length) := by
        have := hd5.c8
        simpa [Dev.half_length] using this
      refine hK.out _ _ hc85 (fun hHeld => ?_)
      clear hK K
      go_frame
      refine wpAnyH_done (by kernel_rfl) ?_ _
      clear hHeld Hnow
      go_wp2_with fail
      have hrg5 : w5.ranges Try.prog 3 asHeld bm w1.heap.size d2.n D (fun z => left z && !z.sameKey (keyL i)) cnt3 := by
        have h1 : w4.ranges Try.prog 3 asHeld bm w1.heap.size d2.n D (fun z => left z && !z.sameKey (keyL i)) cnt3 := hrg3.kept (w' := w4) (row := none) ⟨hb4.os, hb4.tape, hb4.output, hb4.size, fun k hk _ => hb4.block k hk⟩ (by simp) (by simp)
        refine h1.kept hg5 (fun e => hd4.ne.2.2 (by injection e with e; exact e.symm)) (fun e => ?_)
        injection e with e
        obtain ⟨_, _, _, _, _, _, _, _, _, hr, _⟩ := h1
        rw [e, hd4.last] at hr
        cases hr
      go_roundw
      have hgo : Only F w4 w5 := Only.grown hg5 (fun g e => by cases e; exact hd4.inF.2.1)
      have hdr : Only F w3 w4 := (Only.drew F w3).trans (Only.of_below hb4)
      case rel =>
        exact ⟨_, _, hrg5, hd5, ho3.trans (hdr.trans hgo)⟩
      case measure =>
        rw [hrg5.left_eq, hrg.left_eq]
        exact Hleft.out
end
end Go.Proofs.Ytfjcblppmoomdaa
