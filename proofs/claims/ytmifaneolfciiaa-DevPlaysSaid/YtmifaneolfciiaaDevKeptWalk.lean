/-
  The walk of DevKept.
-/
import Derived.Test.YtmifaneolfciiaaDevJ
import Derived.Test.YtmifaneolfciiaaOpenAct
import Derived.Deep.RegionLaw
namespace Go.Proofs.Ytmifaneolfciiaa
open Go.RowKit
/-- A sector of one byte. -/
def one (b : UInt8) : List UInt8 := List.replicate 256 b
theorem one_length (b : UInt8) : (one b).length = 256 := List.length_replicate
theorem full_one (b : UInt8) (w : World) : Calls Try.prog 21 #[.int .u8 (b.toNat : Int)] w fun e w' => ∃ g, e = .returned (.slice (some ⟨g, 0, none⟩) 256 256) ∧ w.heap.size ≤ g ∧ w'.heap[g]? = some (.cells (cellsB (one b)).toArray 5 (0, 0)) ∧ Below w.heap.size w w' := full_any b w
/-- Behind j writes of sector 5. -/
def Dev.wrote (m : List UInt8) (j : Nat) : Dev := { Dev.new 16 with Q := fun i => if i = 5 then (m.take j).map one else [], n := j }
theorem Dev.wrote_zero (m : List UInt8) : Dev.wrote m 0 = Dev.new 16 := by simp [Dev.wrote, Dev.new]
theorem Dev.wrote_put (m : List UInt8) (j : Nat) (h : j < m.length) : (Dev.wrote m j).put 5 (one m[j]) = Dev.wrote m (j + 1) := by
  simp only [Dev.wrote, Dev.put, if_true]
  congr 1
  funext i
  by_cases e : i = 5
  · subst e
    simp only [if_true]
    rw [List.take_succ_eq_append_getElem h, List.map_append]
    rfl
  · simp only [if_neg e]
/-- The byte that is told of. -/
def wantOf (m : List UInt8) (k : Int) : UInt8 := if 0 < (if (m.length : Int) < k then (m.length : Int) else k) then m.getD ((if (m.length : Int) < k then (m.length : Int) else k) - 1).toNat 0 else 0
theorem wantOf_cases (m : List UInt8) (k : Int) (x : UInt8) (hx : x = wantOf m k) :
    ((m.length : Int) < k ∧ ((0 < m.length ∧ (x = m.getD (m.length - 1) 0)) ∨ (m.length = 0 ∧ x = 0))) ∨ (¬ (m.length : Int) < k ∧ ((∃ q : Nat, k = (q : Int) + 1 ∧ q < m.length ∧ x = m.getD q 0) ∨ (k ≤ 0 ∧ x = 0))) := by
  unfold wantOf at hx
  by_cases h1 : (m.length : Int) < k
  · left
    refine ⟨h1, ?_⟩
    simp only [h1, if_true] at hx
    by_cases h2 : 0 < m.length
    · left
      rw [if_pos (by omega)] at hx
      exact ⟨h2, by rw [hx]; congr 1; omega⟩
    · right
      rw [if_neg (by omega)] at hx
      exact ⟨by omega, hx⟩
  · right
    refine ⟨h1, ?_⟩
    simp only [h1, if_false] at hx
    by_cases h2 : 0 < k
    · left
      rw [if_pos h2] at hx
      exact ⟨(k - 1).toNat, by omega, by omega, hx⟩
    · right
      rw [if_neg h2] at hx
      exact ⟨by omega, hx⟩
theorem filter_five (n : Nat) (h : 5 < n) : (List.range n).filter (fun i => decide (i = 5)) = [5] := by
  obtain ⟨k, rfl⟩ : ∃ k, n = k + 6 := ⟨n - 6, by omega⟩
  induction k with
  | zero => rfl
  | succ k ih =>
    rw [show k + 1 + 6 = (k + 6) + 1 by omega, List.range_succ, List.filter_append, ih (by omega)]
    simp
theorem wrote_kept (m : List UInt8) (k : Int) : ((Dev.wrote m m.length).crash [k]).now 5 = one (wantOf m k) := by
  have hL : (Dev.wrote m m.length).L = List.replicate 16 blank := rfl
  have hQ : (Dev.wrote m m.length).Q 5 = m.map one := by simp [Dev.wrote]
  have hblank : blank = one 0 := rfl
  rcases hm : m.length with _ | n
  · have : m = [] := List.eq_nil_of_length_eq_zero hm
    subst this
    have hw : (Dev.wrote [] 0).waits = [] := waits_none _ fun i => by simp [Dev.wrote]
    have hz : wantOf [] k = 0 := by
      unfold wantOf
      rw [if_neg (by simp; omega)]
    simp only [Dev.now, Dev.crash, List.length_nil] at *
    rw [hw, lose, hz]
    rfl
  · rw [← hm]
    have hne : m ≠ [] := fun e => by rw [e] at hm; cases hm
    have hw : (Dev.wrote m m.length).waits = [5] := by
      rw [Dev.waits]
      have e : (fun i => !((Dev.wrote m m.length).Q i).isEmpty) = fun i => decide (i = 5) := by
        funext i
        by_cases e : i = 5
        · subst e
          rw [hQ]
          simp [hne]
        · simp [Dev.wrote, e]
      rw [e, hL]
      exact filter_five _ (by simp)
    have hmL : ((m.map one).length : Int) = (m.length : Int) := by simp
    simp only [Dev.now, Dev.crash, hw, lose, hQ, hL, hmL]
    unfold wantOf
    by_cases h0 : 0 < k
    · have h1 : 0 < (if (m.length : Int) < k then (m.length : Int) else k) := by split <;> omega
      rw [if_pos h0, if_pos h1]
      have h2 : ((if (m.length : Int) < k then (m.length : Int) else k) - 1).toNat < m.length := by split <;> omega
      generalize ((if (m.length : Int) < k then (m.length : Int) else k) - 1).toNat = q at h2
      simp [List.getD_eq_getElem?_getD, h2]
    · have h1 : ¬ 0 < (if (m.length : Int) < k then (m.length : Int) else k) := by split <;> omega
      rw [if_neg h0, if_neg h1, ← hblank]
      rfl
section
variable {w : World} {F : Nat → Prop} {p bl bm : Nat} {S : Nat → Value} {D : DataW Value} {d : Dev}
/-- Crash, its numbers in a block that is not the device's. -/
theorem crash_far {g c : Nat} {ks : List Int} (h : DevIs w (fun k => F k ∧ k ≠ g) p bl bm S D d) (hn : d.n < 1000000) (hg : w.heap[g]? = some (.cells (ks.map (Value.int .i64)).toArray c (0, 0))) (hkl : ks.length < 1000000) (hF : ∀ k, w.heap.size ≤ k → F k) (C : Nat) :
    Calls Try.prog 16 #[at0 p, .slice (some ⟨g, 0, none⟩) ks.length C] w fun e w' => ∃ S' D', e = .returned (.tuple #[]) ∧ DevIs w' F p bl bm S' D' (d.crash ks) ∧ Only F w w' := by
  have hlt := (Array.getElem?_eq_some_iff.1 hg).1
  refine (crash_any (A := some ⟨g, 0, none⟩) (c := C) h hn (fun _ => ⟨g, 0, rfl, hlt, fun hn => hn.2 rfl, fun j hj => ?_⟩) hkl (fun k hk => ⟨hF k hk, by omega⟩)).mono ?_
  · rw [Nat.zero_add, cell_of_row w g j _ c (0, 0) hg]
    simp [hj]
  · rintro e w' ⟨S', D', rfl, hd, ho⟩
    exact ⟨S', D', rfl, hd.mono fun k _ hk => hk.1, ho.mono fun k _ hk => hk.1⟩
theorem exec_convert {P : Program} {o : Oper} {ρ : Operand → Value} {s t : TypeId} {x : Operand} (ho : o.op = .convert s t x) {v r : Value} (hx : ρ x = v) {w' : World} (hrun : (convert s t v).run P w = .ok r w') : (execOp ρ o).run P w = .ok (.value r) w' := by
  unfold execOp
  simp only [ho, hx, Sem.run_bind, hrun, Result.andThen_ok, Sem.run_pure]
theorem str_of {g : Nat} {t : TypeId} {l : List UInt8} (hg : w.heap[g]? = some (.cells (cellsB l).toArray t (0, 0))) (hl : l.length = 256) :
    (convert 42 9 (.slice (some ⟨g, 0, none⟩) 256 256)).run Try.prog w = .ok (.string ⟨l.toArray⟩) w := by
  have := run_convert_bytes_back (P := Try.prog) w 42 9 5 ⟨g, 0, none⟩ 256 l Try.underlying42 Try.underlying5 Try.underlying9 (fun j hj => by
    rw [Addr.add_lit, Nat.zero_add, cell_of_row w g j _ t (0, 0) hg, List.getElem?_toArray]
    exact cellsB_at l j hj)
  rw [hl] at this
  exact this
end
set_option maxRecDepth 100000 in
set_option maxHeartbeats 2000000 in
theorem kept_small (A : Option Addr) (c n0 : Nat) (l m : List UInt8) (k : Int) (w : World) (h : Rd w w.heap.size (.slice A n0 c) (cellsB l)) (hm : n0 = l.length ∧ n0 ≤ 20 ∧ m = l) (wk : (Lit.int .i64 k).wf = true) :
    Calls Try.prog 5 #[.slice A n0 c, .int .i64 k] w fun e w' => e = .returned (.bool true) ∧ Below w.heap.size w w' := by
  obtain ⟨hn0, h20, rfl⟩ := hm
  have hrd := h
  obtain ⟨F, hF⟩ : ∃ F : Nat → Prop, F = fun k => w.heap.size ≤ k := ⟨_, rfl⟩
  have hFresh : ∀ w' : World, w.heap.size ≤ w'.heap.size → ∀ k, w'.heap.size ≤ k → F k := fun w' hw k hk => by rw [hF]; exact Nat.le_trans hw hk
  have hBelow : ∀ w', Only F w w' → Below w.heap.size w w' := fun w' h => by rw [hF] at h; exact h.below (Nat.le_refl _)
  have hnew := new_ok (n := 16) w F ⟨by omega, by omega⟩ (hFresh w (Nat.le_refl _))
  rw [← Dev.wrote_zero m] at hnew
  -- a round of writing
  have hwrite : ∀ (j : Nat) (hj : j < m.length) (w1 w2 : World) (p bl bm g : Nat) (S : Nat → Value) (D : DataW Value), DevIs w1 F p bl bm S D (Dev.wrote m j) → Only F w w1 → Below w1.heap.size w1 w2 → w1.heap.size ≤ g → w2.heap[g]? = some (.cells (cellsB (one m[j])).toArray 5 (0, 0)) →
      Calls Try.prog 20 #[at0 p, .int .i64 5, .slice (some ⟨g, 0, none⟩) 256 256] w2 fun e w' => ∃ S' D', e = .returned (.int .i64 0) ∧ DevIs w' F p bl bm S' D' (Dev.wrote m (j + 1)) ∧ Only F w w' := by
    intro j hj w1 w2 p bl bm g S D hd ho hb hg hh
    have h := write_far (i := 5) (c := 256) (hd.far hb hg) (by simp [Dev.wrote, Dev.new]) (Dev.burns_idle _ _ rfl) (show j < 1000000 by omega) (one_length _) (range_new hh) (Array.getElem?_eq_some_iff.1 hh).1 (hFresh w2 (Nat.le_trans ho.size hb.size))
    rw [Dev.burn_idle _ _ rfl, Dev.wrote_put m j hj] at h
    refine h.mono ?_
    rintro e w' ⟨S', D', rfl, hd', ho'⟩
    exact ⟨S', D', rfl, hd', ho.trans ((Only.of_below hb).trans ho')⟩
  have hcrash : ∀ (w1 : World) (p bl bm : Nat) (S : Nat → Value) (D : DataW Value), DevIs w1 F p bl bm S D (Dev.wrote m m.length) → Only F w w1 →
      Calls Try.prog 16 #[at0 p, .slice (some ⟨w1.heap.size, 0, none⟩) 1 1] (w1.alloc (.cells #[.int .i64 k] 3)) fun e w' => ∃ S' D', e = .returned (.tuple #[]) ∧ DevIs w' F p bl bm S' D' ((Dev.wrote m m.length).crash [k]) ∧ Only F w w' := by
    intro w1 p bl bm S D hd ho
    refine (crash_far (g := w1.heap.size) (c := 3) (ks := [k]) (hd.far ((Below.refl _ _).alloc (Nat.le_refl _) _) (Nat.le_refl _)) (show m.length < 1000000 by omega) (heap_alloc_last _ _) (by simp) (hFresh _ (by simp; exact Nat.le_succ_of_le ho.size)) 1).mono ?_
    rintro e w' ⟨S', D', rfl, hd', ho'⟩
    exact ⟨S', D', rfl, hd', ho.trans ((Only.alloc _ _ _).trans ho')⟩
  obtain ⟨x, hx⟩ : ∃ x, x = wantOf m k := ⟨_, rfl⟩
  obtain ⟨d3, hd3⟩ : ∃ d3, d3 = (Dev.wrote m m.length).crash [k] := ⟨_, rfl⟩
  have hd3n : d3.now 5 = one x := by rw [hd3, hx]; exact wrote_kept m k
  have hd3L : d3.L.length = 16 := by rw [hd3]; simp [Dev.crash, lose_length, Dev.wrote, Dev.new]
  have hd3f : ∀ i, (d3.f i).1 = false := fun i => by rw [hd3]; rfl
  have hd3Q : ∀ i, d3.Q i = [] := fun i => by rw [hd3]; rfl
  have hd3m : d3.n < 1000000 := by rw [hd3]; show m.length < 1000000; omega
  rw [← hd3] at hcrash
  obtain ⟨X, hX⟩ : ∃ X : ByteArray, X = ⟨(one x).toArray⟩ := ⟨_, rfl⟩
  have hread : ∀ (w1 : World) (p bl bm : Nat) (S : Nat → Value) (D : DataW Value), DevIs w1 F p bl bm S D d3 → Only F w w1 →
      Calls Try.prog 18 #[at0 p, .int .i64 5] w1 fun e w' => ∃ g, e = .returned (.tuple #[.slice (some ⟨g, 0, none⟩) 256 256, .int .i64 0]) ∧ (∀ w2, Below w'.heap.size w' w2 → (convert 42 9 (.slice (some ⟨g, 0, none⟩) 256 256)).run Try.prog w2 = .ok (.string X) w2) ∧ DevIs w' F p bl bm S D d3 ∧ Only F w w' := by
    intro w1 p bl bm S D hd ho
    have h := read_ok (i := 5) hd (by omega) (Dev.burns_idle _ _ (hd3f 1)) hd3m
    rw [hd3n, Dev.burn_idle _ _ (hd3f 1)] at h
    refine h.mono ?_
    rintro e w' ⟨g, rfl, hg, _, hd', ho'⟩
    refine ⟨g, rfl, fun w2 hb2 => ?_, hd', ho.trans ho'⟩
    rw [hX]
    exact str_of ((hb2.block g (Array.getElem?_eq_some_iff.1 hg).1).trans hg) (one_length x)
  have hwait : ∀ (w1 w2 : World) (p bl bm : Nat) (S : Nat → Value) (D : DataW Value), DevIs w1 F p bl bm S D d3 → Below w1.heap.size w1 w2 →
      Calls Try.prog 13 #[at0 p] w2 fun e w' => ∃ A c, e = .returned (.slice A 0 c) ∧ Below w2.heap.size w2 w' := by
    intro w1 w2 p bl bm S D hd hb
    refine (waiting_cells (hd.below hb) hd3m).mono ?_
    rintro e w' ⟨A, c, rfl, hb', _⟩
    rw [waits_none d3 hd3Q]
    exact ⟨A, c, rfl, hb'⟩
  have hfull : ∀ w1, Calls Try.prog 21 #[.int .u8 (x.toNat : Int)] w1 fun e w' => ∃ g, e = .returned (.slice (some ⟨g, 0, none⟩) 256 256) ∧ (convert 42 9 (.slice (some ⟨g, 0, none⟩) 256 256)).run Try.prog w' = .ok (.string X) w' ∧ Below w1.heap.size w1 w' := fun w1 => by
    refine (full_one x w1).mono ?_
    rintro e w' ⟨g, rfl, _, hh, hb⟩
    refine ⟨g, rfl, ?_, hb⟩
    rw [hX]
    exact str_of hh (one_length x)
  have hbytes : ∀ (wr : World), Only F w wr → 0 < m.length → ∃ b o, A = some ⟨b, o, none⟩ ∧ ∀ (j : Nat) (hj : j < m.length), wr.cell? ⟨b, o + j, none⟩ = some (.int .u8 (m[j].toNat : Int)) := fun wr ho hp => by
    obtain ⟨b, o, rfl, hb, hc⟩ := hrd.addr (by rw [hn0]; exact hp)
    refine ⟨b, o, rfl, fun j hj => ?_⟩
    exact ((hBelow wr ho).cell (p := ⟨b, o + j, none⟩) hb).trans (hc j hj)
  have hkb : -9223372036854775808 ≤ k ∧ k ≤ 9223372036854775807 := by simpa [Lit.wf, IntKind.min, IntKind.max, IntKind.bits, IntKind.signed] using wk
  have Hnew := Lib.hid hnew
  have Hwrite := Lib.hid hwrite
  have Hcrash := Lib.hid hcrash
  have Hread := Lib.hid hread
  have Hwait := Lib.hid hwait
  have Hfull := Lib.hid hfull
  have Hbytes := Lib.hid hbytes
  have HBelow := Lib.hid hBelow
  have Hx := Lib.hid hx
  have HN : Hid (n0 = m.length) := Lib.hid hn0
  have Hkb := Kept.mk hkb
  clear hnew hwrite hcrash hread hwait hfull hbytes hBelow hFresh hF hx hd3 hd3n hd3L hd3f hd3Q hd3m hX hrd hkb wk h hn0
  go_enter Try.func5, Try.ntmps5
  go_wp2_with (go_at_call 7; refine Hnew.out.mono ?_; rintro e w1 ⟨rfl, hd1, hb1⟩; have ho1 : Only F w w1 := Only.of_below hb1)
  go_loopw [7] (fun iv wr => ∃ (j : Nat) (S : Nat → Value) (D : DataW Value), j ≤ n0 ∧ iv = .int .i64 (j : Int) ∧ DevIs wr F (w.heap.size + 2) w.heap.size (w.heap.size + 1) S D (Dev.wrote m j) ∧ Only F w wr) (fun iv _ => n0 - (intOf iv).toNat)
  case atStart => exact ⟨0, _, _, by omega, rfl, hd1, ho1⟩
  case round =>
    obtain ⟨j, S, D, hjN, rfl, hd, ho⟩ := hrel
    by_cases hlt : j < n0
    · have hj' : j < m.length := by rw [← HN.out]; exact hlt
      obtain ⟨b, o, rfl, hc⟩ := Hbytes.out wr ho (by omega)
      have hcj := hc j hj'
      obtain ⟨y, hy⟩ : ∃ y, y = m[j] := ⟨_, rfl⟩
      rw [← hy] at hcj
      have hw2 := Hwrite.out j hj'
      rw [← hy] at hw2
      have Hw2 := Lib.hid hw2
      clear hc hy hw2 hj'
      go_wp2_with (first
        | (go_at_call 21; refine (full_one y _).mono ?_; rintro e w2 ⟨g, rfl, hg, hh, hb2⟩)
        | (go_at_call 20; refine (Hw2.out _ _ _ _ _ _ _ _ hd ho hb2 hg hh).mono ?_; rintro e w3 ⟨S3, D3, rfl, hd3, ho3⟩))
      go_roundw
      case rel => exact ⟨j + 1, S3, D3, by omega, by go_num, hd3, ho3⟩
      case measure => simp [intOf]; omega
    · have hjm : j = m.length := by rw [← HN.out]; omega
      rw [hjm] at hd
      have hjN' : j = n0 := by omega
      have hcase : (decide ((n0 : Int) < k) = true ∧ ((0 < m.length ∧ (x = m.getD (m.length - 1) 0)) ∨ (m.length = 0 ∧ x = 0))) ∨ (decide ((n0 : Int) < k) = false ∧ ((∃ q : Nat, k = (q : Int) + 1 ∧ q < m.length ∧ x = m.getD q 0) ∨ (k ≤ 0 ∧ x = 0))) := by
        have hNi : (n0 : Int) = (m.length : Int) := by have hh := HN.out; omega
        rcases wantOf_cases m k x Hx.out with ⟨h1, h2⟩ | ⟨h1, h2⟩
        · exact .inl ⟨decide_eq_true (by rw [hNi]; exact h1), h2⟩
        · exact .inr ⟨decide_eq_false (by rw [hNi]; exact h1), h2⟩
      clear Hwrite Hx hlt hjm
      subst hjN'
      have hjm2 := HN.out
      clear hjN
      rcases hcase with ⟨t1, ⟨h2, hx⟩ | ⟨h2, hx⟩⟩ | ⟨t1, ⟨q, hq, h2, hx⟩ | ⟨h2, hx⟩⟩
      · obtain ⟨b, o, rfl, _⟩ := Hbytes.out wr ho h2
        have t2 : decide ((0 : Int) < (j : Int)) = true := by rw [decide_eq_true_eq]; omega
        have t3 : 1 ≤ j := by omega
        have hcell : ∀ w', Only F w w' → w'.cell? ⟨b, o + (j - 1), none⟩ = some (.int .u8 (x.toNat : Int)) := fun w' ho' => by
          obtain ⟨b', o', e, hc'⟩ := Hbytes.out w' ho' h2
          injection e with e
          injection e with e1 e2
          subst e1 e2
          have := hc' (j - 1) (by omega)
          rw [hx, show m.length - 1 = j - 1 by omega, List.getD_eq_getElem?_getD, List.getElem?_eq_getElem (by omega)]
          exact this
        have Hcell := Lib.hid hcell
        clear hcell hx h2 hjm2
        go_wp2_with (first
          | (go_at_call 16; refine (Hcrash.out _ _ _ _ _ _ hd ho).mono ?_; rintro e w5 ⟨S5, D5, rfl, hd5, ho5⟩; have hcell := Hcell.out _ ho5)
          | (go_at_call 18; refine (Hread.out _ _ _ _ _ _ hd5 ho5).mono ?_; rintro e w6 ⟨g6, rfl, hs6, hd6, ho6⟩))
        have Hs6 := Lib.hid hs6
        have he0 := Hs6.out _ (up_drew (Below.refl _ _))
        clear hs6
        refine wp_region_held_drew (S := fun w' => (convert 42 9 (.slice (some ⟨g6, 0, none⟩) 256 256)).run Try.prog w' = .ok (.string X) w') (by kernel_rfl) ?_ (fun hHeld => ?_)
        · exact he0
        refine' wpAnyH_take (i := 0) (oi := ⟨some 61, .move (.tmp 9), _, _, _, none⟩) (v := _) rfl (by kernel_rfl) (by kernel_rfl) (by kernel_rfl) (fun _ _ _ h => h) (Or.inl ⟨by rfl, ?hy0⟩) (by assumption) ?rest0
        case hy0 => (intro w hSw; obtain s1 := hSw; go_simp <;> with_reducible rfl)
        case rest0 =>
        go_frame
        refine' wpAnyH_take (i := 1) (oi := ⟨some 62, .convert 42 9 (.tmp 61), _, _, _, none⟩) (v := .string X) rfl (by kernel_rfl) (by kernel_rfl) (by kernel_rfl) (fun _ _ _ h => h) (Or.inl ⟨by rfl, ?hy1⟩) (by assumption) ?rest1
        case hy1 => (intro w hSw; exact exec_convert (s := 42) (t := 9) (x := .tmp 61) rfl (v := .slice (some ⟨g6, 0, none⟩) 256 256) rfl hSw)
        case rest1 =>
        go_frame
        refine' wpAnyH_take (i := 2) (oi := ⟨some 63, .move (.tmp 8), _, _, _, none⟩) (v := _) rfl (by kernel_rfl) (by kernel_rfl) (by kernel_rfl) (fun _ _ _ h => h) (Or.inl ⟨by rfl, ?hy2⟩) (by assumption) ?rest2
        case hy2 => (intro w hSw; obtain s1 := hSw; go_simp <;> with_reducible rfl)
        case rest2 =>
        go_frame
        refine wpAnyH_ready (rs := [3]) (by kernel_rfl) (by simp) (AllReadyH.cons (o := ⟨some 64, .call { callee := .value (.func 21), args := #[.tmp 63], argTypes := #[5] }, _, _, _, none⟩) rfl (fun K hK => ?_) AllReadyH.nil)
        rw [if_pos (by rfl)]
        go_simp
        refine (Hfull.out _).mono ?_
        rintro e w7 ⟨g7, rfl, he7, hb7⟩
        dsimp only
        have hb7' := up (up_drew (Below.refl w6.heap.size w6)) hb7
        refine hK.out _ _ (Hs6.out _ hb7') (fun hHeld => ?_)
        clear hK K
        refine wpAnyH_ready (rs := [4]) (by kernel_rfl) (by simp) (AllReadyH.cons (o := ⟨some 65, .convert 42 9 (.tmp 64), _, _, _, none⟩) rfl (fun K hK => ?_) AllReadyH.nil)
        rw [if_pos (by rfl)]
        refine wp_run (.string X) w7 (exec_convert (s := 42) (t := 9) (x := .tmp 64) rfl (v := .slice (some ⟨g7, 0, none⟩) 256 256) rfl he7) ?_
        refine hK.out _ _ hHeld (fun hHeld => ?_)
        clear hK K
        go_frame
        refine' wpAnyH_take (i := 5) (oi := ⟨some 66, .binOp .eql 9 (.tmp 62) (.tmp 65) 9, _, _, _, none⟩) (v := _) rfl (by kernel_rfl) (by kernel_rfl) (by kernel_rfl) (fun _ _ _ h => h) (Or.inl ⟨by rfl, ?hy5⟩) (by assumption) ?rest5
        case hy5 => (intro w hSw; obtain s1 := hSw; go_simp <;> with_reducible rfl)
        case rest5 =>
        go_frame
        refine' wpAnyH_take (i := 6) (oi := ⟨some 67, .move (.tmp 66), _, _, _, none⟩) (v := _) rfl (by kernel_rfl) (by kernel_rfl) (by kernel_rfl) (fun _ _ _ h => h) (Or.inl ⟨by rfl, ?hy6⟩) (by assumption) ?rest6
        case hy6 => (intro w hSw; obtain s1 := hSw; go_simp <;> with_reducible rfl)
        case rest6 =>
        go_frame
        refine' wpAnyH_take (i := 7) (oi := ⟨some 68, .move (.tmp 10), _, _, _, some (6, true)⟩) (v := _) rfl (by kernel_rfl) (by kernel_rfl) (by kernel_rfl) (fun _ _ _ h => h) (Or.inl ⟨by rfl, ?hy7⟩) (by assumption) ?rest7
        case hy7 => (intro w hSw; obtain s1 := hSw; go_simp <;> with_reducible rfl)
        case rest7 =>
        go_frame
        refine' wpAnyH_take (i := 8) (oi := ⟨some 69, .binOp .eql 24 (.tmp 68) (.const (.int .i64 0)) 24, _, _, _, some (6, true)⟩) (v := _) rfl (by kernel_rfl) (by kernel_rfl) (by kernel_rfl) (fun _ _ _ h => h) (Or.inl ⟨by rfl, ?hy8⟩) (by assumption) ?rest8
        case hy8 => (intro w hSw; obtain s1 := hSw; go_simp <;> with_reducible rfl)
        case rest8 =>
        go_frame
        refine' wpAnyH_take (i := 9) (oi := ⟨some 70, .pick (.tmp 67) (.tmp 69) (.const (.bool false)), _, _, _, none⟩) (v := _) rfl (by kernel_rfl) (by kernel_rfl) (by kernel_rfl) (fun _ _ _ h => h) (Or.inl ⟨by rfl, ?hy9⟩) (by assumption) ?rest9
        case hy9 => (intro w hSw; obtain s1 := hSw; go_simp <;> with_reducible rfl)
        case rest9 =>
        go_frame
        refine' wpAnyH_take (i := 10) (oi := ⟨some 71, .move (.tmp 70), _, _, _, none⟩) (v := _) rfl (by kernel_rfl) (by kernel_rfl) (by kernel_rfl) (fun _ _ _ h => h) (Or.inl ⟨by rfl, ?hy10⟩) (by assumption) ?rest10
        case hy10 => (intro w hSw; obtain s1 := hSw; go_simp <;> with_reducible rfl)
        case rest10 =>
        go_frame
        refine' wpAnyH_take (i := 11) (oi := ⟨some 72, .move (.tmp 5), _, _, _, some (10, true)⟩) (v := _) rfl (by kernel_rfl) (by kernel_rfl) (by kernel_rfl) (fun _ _ _ h => h) (Or.inl ⟨by rfl, ?hy11⟩) (by assumption) ?rest11
        case hy11 => (intro w hSw; obtain s1 := hSw; go_simp <;> with_reducible rfl)
        case rest11 =>
        go_frame
        refine wpAnyH_ready (rs := [12]) (by kernel_rfl) (by simp) (AllReadyH.cons (o := ⟨some 73, .call { callee := .value (.func 13), args := #[.tmp 72], argTypes := #[23] }, _, _, _, some (10, true)⟩) rfl (fun K hK => ?_) AllReadyH.nil)
        rw [if_pos (by rfl)]
        go_simp
        refine (Hwait.out _ _ _ _ _ _ _ hd6 hb7').mono ?_
        rintro e w8 ⟨A8, c8, rfl, hb8⟩
        dsimp only
        have hb8' := up hb7' hb8
        refine hK.out _ _ (Hs6.out _ hb8') (fun hHeld => ?_)
        clear hK K
        refine' wpAnyH_take (i := 13) (oi := ⟨some 74, .call { callee := .builtin .len, args := #[.tmp 73], argTypes := #[32] }, _, _, _, some (10, true)⟩) (v := _) rfl (by kernel_rfl) (by kernel_rfl) (by kernel_rfl) (fun _ _ _ h => h) (Or.inl ⟨by rfl, ?hy13⟩) (by assumption) ?rest13
        case hy13 => (intro w hSw; obtain s1 := hSw; go_simp <;> with_reducible rfl)
        case rest13 =>
        go_frame
        refine' wpAnyH_take (i := 14) (oi := ⟨some 75, .binOp .eql 3 (.tmp 74) (.const (.int .i64 0)) 3, _, _, _, some (10, true)⟩) (v := _) rfl (by kernel_rfl) (by kernel_rfl) (by kernel_rfl) (fun _ _ _ h => h) (Or.inl ⟨by rfl, ?hy14⟩) (by assumption) ?rest14
        case hy14 => (intro w hSw; obtain s1 := hSw; go_simp <;> with_reducible rfl)
        case rest14 =>
        go_frame
        refine' wpAnyH_take (i := 15) (oi := ⟨some 76, .pick (.tmp 71) (.tmp 75) (.const (.bool false)), _, _, _, none⟩) (v := _) rfl (by kernel_rfl) (by kernel_rfl) (by kernel_rfl) (fun _ _ _ h => h) (Or.inl ⟨by rfl, ?hy15⟩) (by assumption) ?rest15
        case hy15 => (intro w hSw; obtain s1 := hSw; go_simp <;> with_reducible rfl)
        case rest15 =>
        go_frame
        refine' wpAnyH_take (i := 16) (oi := ⟨some 77, .move (.tmp 76), _, _, _, none⟩) (v := _) rfl (by kernel_rfl) (by kernel_rfl) (by kernel_rfl) (fun _ _ _ h => h) (Or.inl ⟨by rfl, ?hy16⟩) (by assumption) ?rest16
        case hy16 => (intro w hSw; obtain s1 := hSw; go_simp <;> with_reducible rfl)
        case rest16 =>
        go_frame
        refine wpAnyH_ready (rs := [17]) (by kernel_rfl) (by simp) (AllReadyH.cons (o := ⟨some 78, .call { callee := .value (.func 8), args := #[], argTypes := #[] }, _, _, _, some (16, true)⟩) rfl (fun K hK => ?_) AllReadyH.nil)
        rw [if_pos (by rfl)]
        go_simp
        refine (lives_any _).mono ?_
        rintro e w9 ⟨rfl, hb9⟩
        dsimp only
        have hb9' := up hb8' hb9
        refine hK.out _ _ (Hs6.out _ hb9') (fun hHeld => ?_)
        clear hK K
        refine' wpAnyH_take (i := 18) (oi := ⟨some 79, .pick (.tmp 77) (.tmp 78) (.const (.bool false)), _, _, _, none⟩) (v := _) rfl (by kernel_rfl) (by kernel_rfl) (by kernel_rfl) (fun _ _ _ h => h) (Or.inl ⟨by rfl, ?hy18⟩) (by assumption) ?rest18
        case hy18 => (intro w hSw; obtain s1 := hSw; go_simp <;> with_reducible rfl)
        case rest18 =>
        go_frame
        refine' wpAnyH_take (i := 19) (oi := ⟨some 4, .assign (.tmp 79), _, _, _, none⟩) (v := _) rfl (by kernel_rfl) (by kernel_rfl) (by kernel_rfl) (fun _ _ _ h => h) (Or.inl ⟨by rfl, ?hy19⟩) (by assumption) ?rest19
        case hy19 => (intro w hSw; obtain s1 := hSw; go_simp <;> with_reducible rfl)
        case rest19 =>
        go_frame
        refine wpAnyH_done (by kernel_rfl) ?_ _
        go_wp2_with fail
        go_ret
        exact ⟨rfl, up (HBelow.out _ ho6) hb9'⟩
      · have t2 : decide ((0 : Int) < (j : Int)) = false := by simp; omega
        have t3 : j ≤ 0 := by omega
        have hcell : ∀ w', Only F w w' → True := fun _ _ => trivial
        have Hcell := Lib.hid hcell
        clear hcell h2 hjm2
        subst hx
        have Hfull0 : Hid (∀ w1, Calls Try.prog 21 #[.int .u8 0] w1 fun e w' => ∃ g, e = .returned (.slice (some ⟨g, 0, none⟩) 256 256) ∧ (convert 42 9 (.slice (some ⟨g, 0, none⟩) 256 256)).run Try.prog w' = .ok (.string X) w' ∧ Below w1.heap.size w1 w') := Hfull
        go_wp2_with (first
          | (go_at_call 16; refine (Hcrash.out _ _ _ _ _ _ hd ho).mono ?_; rintro e w5 ⟨S5, D5, rfl, hd5, ho5⟩; have hcell := Hcell.out _ ho5)
          | (go_at_call 18; refine (Hread.out _ _ _ _ _ _ hd5 ho5).mono ?_; rintro e w6 ⟨g6, rfl, hs6, hd6, ho6⟩))
        have Hs6 := Lib.hid hs6
        have he0 := Hs6.out _ (up_drew (Below.refl _ _))
        clear hs6
        refine wp_region_held_drew (S := fun w' => (convert 42 9 (.slice (some ⟨g6, 0, none⟩) 256 256)).run Try.prog w' = .ok (.string X) w') (by kernel_rfl) ?_ (fun hHeld => ?_)
        · exact he0
        refine' wpAnyH_take (i := 0) (oi := ⟨some 61, .move (.tmp 9), _, _, _, none⟩) (v := _) rfl (by kernel_rfl) (by kernel_rfl) (by kernel_rfl) (fun _ _ _ h => h) (Or.inl ⟨by rfl, ?hy0⟩) (by assumption) ?rest0
        case hy0 => (intro w hSw; obtain s1 := hSw; go_simp <;> with_reducible rfl)
        case rest0 =>
        go_frame
        refine' wpAnyH_take (i := 1) (oi := ⟨some 62, .convert 42 9 (.tmp 61), _, _, _, none⟩) (v := .string X) rfl (by kernel_rfl) (by kernel_rfl) (by kernel_rfl) (fun _ _ _ h => h) (Or.inl ⟨by rfl, ?hy1⟩) (by assumption) ?rest1
        case hy1 => (intro w hSw; exact exec_convert (s := 42) (t := 9) (x := .tmp 61) rfl (v := .slice (some ⟨g6, 0, none⟩) 256 256) rfl hSw)
        case rest1 =>
        go_frame
        refine' wpAnyH_take (i := 2) (oi := ⟨some 63, .move (.tmp 8), _, _, _, none⟩) (v := _) rfl (by kernel_rfl) (by kernel_rfl) (by kernel_rfl) (fun _ _ _ h => h) (Or.inl ⟨by rfl, ?hy2⟩) (by assumption) ?rest2
        case hy2 => (intro w hSw; obtain s1 := hSw; go_simp <;> with_reducible rfl)
        case rest2 =>
        go_frame
        refine wpAnyH_ready (rs := [3]) (by kernel_rfl) (by simp) (AllReadyH.cons (o := ⟨some 64, .call { callee := .value (.func 21), args := #[.tmp 63], argTypes := #[5] }, _, _, _, none⟩) rfl (fun K hK => ?_) AllReadyH.nil)
        rw [if_pos (by rfl)]
        go_simp
        refine (Hfull0.out _).mono ?_
        rintro e w7 ⟨g7, rfl, he7, hb7⟩
        dsimp only
        have hb7' := up (up_drew (Below.refl w6.heap.size w6)) hb7
        refine hK.out _ _ (Hs6.out _ hb7') (fun hHeld => ?_)
        clear hK K
        refine wpAnyH_ready (rs := [4]) (by kernel_rfl) (by simp) (AllReadyH.cons (o := ⟨some 65, .convert 42 9 (.tmp 64), _, _, _, none⟩) rfl (fun K hK => ?_) AllReadyH.nil)
        rw [if_pos (by rfl)]
        refine wp_run (.string X) w7 (exec_convert (s := 42) (t := 9) (x := .tmp 64) rfl (v := .slice (some ⟨g7, 0, none⟩) 256 256) rfl he7) ?_
        refine hK.out _ _ hHeld (fun hHeld => ?_)
        clear hK K
        go_frame
        refine' wpAnyH_take (i := 5) (oi := ⟨some 66, .binOp .eql 9 (.tmp 62) (.tmp 65) 9, _, _, _, none⟩) (v := _) rfl (by kernel_rfl) (by kernel_rfl) (by kernel_rfl) (fun _ _ _ h => h) (Or.inl ⟨by rfl, ?hy5⟩) (by assumption) ?rest5
        case hy5 => (intro w hSw; obtain s1 := hSw; go_simp <;> with_reducible rfl)
        case rest5 =>
        go_frame
        refine' wpAnyH_take (i := 6) (oi := ⟨some 67, .move (.tmp 66), _, _, _, none⟩) (v := _) rfl (by kernel_rfl) (by kernel_rfl) (by kernel_rfl) (fun _ _ _ h => h) (Or.inl ⟨by rfl, ?hy6⟩) (by assumption) ?rest6
        case hy6 => (intro w hSw; obtain s1 := hSw; go_simp <;> with_reducible rfl)
        case rest6 =>
        go_frame
        refine' wpAnyH_take (i := 7) (oi := ⟨some 68, .move (.tmp 10), _, _, _, some (6, true)⟩) (v := _) rfl (by kernel_rfl) (by kernel_rfl) (by kernel_rfl) (fun _ _ _ h => h) (Or.inl ⟨by rfl, ?hy7⟩) (by assumption) ?rest7
        case hy7 => (intro w hSw; obtain s1 := hSw; go_simp <;> with_reducible rfl)
        case rest7 =>
        go_frame
        refine' wpAnyH_take (i := 8) (oi := ⟨some 69, .binOp .eql 24 (.tmp 68) (.const (.int .i64 0)) 24, _, _, _, some (6, true)⟩) (v := _) rfl (by kernel_rfl) (by kernel_rfl) (by kernel_rfl) (fun _ _ _ h => h) (Or.inl ⟨by rfl, ?hy8⟩) (by assumption) ?rest8
        case hy8 => (intro w hSw; obtain s1 := hSw; go_simp <;> with_reducible rfl)
        case rest8 =>
        go_frame
        refine' wpAnyH_take (i := 9) (oi := ⟨some 70, .pick (.tmp 67) (.tmp 69) (.const (.bool false)), _, _, _, none⟩) (v := _) rfl (by kernel_rfl) (by kernel_rfl) (by kernel_rfl) (fun _ _ _ h => h) (Or.inl ⟨by rfl, ?hy9⟩) (by assumption) ?rest9
        case hy9 => (intro w hSw; obtain s1 := hSw; go_simp <;> with_reducible rfl)
        case rest9 =>
        go_frame
        refine' wpAnyH_take (i := 10) (oi := ⟨some 71, .move (.tmp 70), _, _, _, none⟩) (v := _) rfl (by kernel_rfl) (by kernel_rfl) (by kernel_rfl) (fun _ _ _ h => h) (Or.inl ⟨by rfl, ?hy10⟩) (by assumption) ?rest10
        case hy10 => (intro w hSw; obtain s1 := hSw; go_simp <;> with_reducible rfl)
        case rest10 =>
        go_frame
        refine' wpAnyH_take (i := 11) (oi := ⟨some 72, .move (.tmp 5), _, _, _, some (10, true)⟩) (v := _) rfl (by kernel_rfl) (by kernel_rfl) (by kernel_rfl) (fun _ _ _ h => h) (Or.inl ⟨by rfl, ?hy11⟩) (by assumption) ?rest11
        case hy11 => (intro w hSw; obtain s1 := hSw; go_simp <;> with_reducible rfl)
        case rest11 =>
        go_frame
        refine wpAnyH_ready (rs := [12]) (by kernel_rfl) (by simp) (AllReadyH.cons (o := ⟨some 73, .call { callee := .value (.func 13), args := #[.tmp 72], argTypes := #[23] }, _, _, _, some (10, true)⟩) rfl (fun K hK => ?_) AllReadyH.nil)
        rw [if_pos (by rfl)]
        go_simp
        refine (Hwait.out _ _ _ _ _ _ _ hd6 hb7').mono ?_
        rintro e w8 ⟨A8, c8, rfl, hb8⟩
        dsimp only
        have hb8' := up hb7' hb8
        refine hK.out _ _ (Hs6.out _ hb8') (fun hHeld => ?_)
        clear hK K
        refine' wpAnyH_take (i := 13) (oi := ⟨some 74, .call { callee := .builtin .len, args := #[.tmp 73], argTypes := #[32] }, _, _, _, some (10, true)⟩) (v := _) rfl (by kernel_rfl) (by kernel_rfl) (by kernel_rfl) (fun _ _ _ h => h) (Or.inl ⟨by rfl, ?hy13⟩) (by assumption) ?rest13
        case hy13 => (intro w hSw; obtain s1 := hSw; go_simp <;> with_reducible rfl)
        case rest13 =>
        go_frame
        refine' wpAnyH_take (i := 14) (oi := ⟨some 75, .binOp .eql 3 (.tmp 74) (.const (.int .i64 0)) 3, _, _, _, some (10, true)⟩) (v := _) rfl (by kernel_rfl) (by kernel_rfl) (by kernel_rfl) (fun _ _ _ h => h) (Or.inl ⟨by rfl, ?hy14⟩) (by assumption) ?rest14
        case hy14 => (intro w hSw; obtain s1 := hSw; go_simp <;> with_reducible rfl)
        case rest14 =>
        go_frame
        refine' wpAnyH_take (i := 15) (oi := ⟨some 76, .pick (.tmp 71) (.tmp 75) (.const (.bool false)), _, _, _, none⟩) (v := _) rfl (by kernel_rfl) (by kernel_rfl) (by kernel_rfl) (fun _ _ _ h => h) (Or.inl ⟨by rfl, ?hy15⟩) (by assumption) ?rest15
        case hy15 => (intro w hSw; obtain s1 := hSw; go_simp <;> with_reducible rfl)
        case rest15 =>
        go_frame
        refine' wpAnyH_take (i := 16) (oi := ⟨some 77, .move (.tmp 76), _, _, _, none⟩) (v := _) rfl (by kernel_rfl) (by kernel_rfl) (by kernel_rfl) (fun _ _ _ h => h) (Or.inl ⟨by rfl, ?hy16⟩) (by assumption) ?rest16
        case hy16 => (intro w hSw; obtain s1 := hSw; go_simp <;> with_reducible rfl)
        case rest16 =>
        go_frame
        refine wpAnyH_ready (rs := [17]) (by kernel_rfl) (by simp) (AllReadyH.cons (o := ⟨some 78, .call { callee := .value (.func 8), args := #[], argTypes := #[] }, _, _, _, some (16, true)⟩) rfl (fun K hK => ?_) AllReadyH.nil)
        rw [if_pos (by rfl)]
        go_simp
        refine (lives_any _).mono ?_
        rintro e w9 ⟨rfl, hb9⟩
        dsimp only
        have hb9' := up hb8' hb9
        refine hK.out _ _ (Hs6.out _ hb9') (fun hHeld => ?_)
        clear hK K
        refine' wpAnyH_take (i := 18) (oi := ⟨some 79, .pick (.tmp 77) (.tmp 78) (.const (.bool false)), _, _, _, none⟩) (v := _) rfl (by kernel_rfl) (by kernel_rfl) (by kernel_rfl) (fun _ _ _ h => h) (Or.inl ⟨by rfl, ?hy18⟩) (by assumption) ?rest18
        case hy18 => (intro w hSw; obtain s1 := hSw; go_simp <;> with_reducible rfl)
        case rest18 =>
        go_frame
        refine' wpAnyH_take (i := 19) (oi := ⟨some 4, .assign (.tmp 79), _, _, _, none⟩) (v := _) rfl (by kernel_rfl) (by kernel_rfl) (by kernel_rfl) (fun _ _ _ h => h) (Or.inl ⟨by rfl, ?hy19⟩) (by assumption) ?rest19
        case hy19 => (intro w hSw; obtain s1 := hSw; go_simp <;> with_reducible rfl)
        case rest19 =>
        go_frame
        refine wpAnyH_done (by kernel_rfl) ?_ _
        go_wp2_with fail
        go_ret
        exact ⟨rfl, up (HBelow.out _ ho6) hb9'⟩
      · subst hq
        obtain ⟨b, o, rfl, _⟩ := Hbytes.out wr ho (by omega)
        have t3 : q < j := by omega
        have hcell : ∀ w', Only F w w' → w'.cell? ⟨b, o + q, none⟩ = some (.int .u8 (x.toNat : Int)) := fun w' ho' => by
          obtain ⟨b', o', e, hc'⟩ := Hbytes.out w' ho' (by omega)
          injection e with e
          injection e with e1 e2
          subst e1 e2
          have := hc' q h2
          rw [hx, List.getD_eq_getElem?_getD, List.getElem?_eq_getElem h2]
          exact this
        have Hcell := Lib.hid hcell
        clear hcell hx h2 hjm2
        go_wp2_with (first
          | (go_at_call 16; refine (Hcrash.out _ _ _ _ _ _ hd ho).mono ?_; rintro e w5 ⟨S5, D5, rfl, hd5, ho5⟩; have hcell := Hcell.out _ ho5)
          | (go_at_call 18; refine (Hread.out _ _ _ _ _ _ hd5 ho5).mono ?_; rintro e w6 ⟨g6, rfl, hs6, hd6, ho6⟩))
        have Hs6 := Lib.hid hs6
        have he0 := Hs6.out _ (up_drew (Below.refl _ _))
        clear hs6
        refine wp_region_held_drew (S := fun w' => (convert 42 9 (.slice (some ⟨g6, 0, none⟩) 256 256)).run Try.prog w' = .ok (.string X) w') (by kernel_rfl) ?_ (fun hHeld => ?_)
        · exact he0
        refine' wpAnyH_take (i := 0) (oi := ⟨some 61, .move (.tmp 9), _, _, _, none⟩) (v := _) rfl (by kernel_rfl) (by kernel_rfl) (by kernel_rfl) (fun _ _ _ h => h) (Or.inl ⟨by rfl, ?hy0⟩) (by assumption) ?rest0
        case hy0 => (intro w hSw; obtain s1 := hSw; go_simp <;> with_reducible rfl)
        case rest0 =>
        go_frame
        refine' wpAnyH_take (i := 1) (oi := ⟨some 62, .convert 42 9 (.tmp 61), _, _, _, none⟩) (v := .string X) rfl (by kernel_rfl) (by kernel_rfl) (by kernel_rfl) (fun _ _ _ h => h) (Or.inl ⟨by rfl, ?hy1⟩) (by assumption) ?rest1
        case hy1 => (intro w hSw; exact exec_convert (s := 42) (t := 9) (x := .tmp 61) rfl (v := .slice (some ⟨g6, 0, none⟩) 256 256) rfl hSw)
        case rest1 =>
        go_frame
        refine' wpAnyH_take (i := 2) (oi := ⟨some 63, .move (.tmp 8), _, _, _, none⟩) (v := _) rfl (by kernel_rfl) (by kernel_rfl) (by kernel_rfl) (fun _ _ _ h => h) (Or.inl ⟨by rfl, ?hy2⟩) (by assumption) ?rest2
        case hy2 => (intro w hSw; obtain s1 := hSw; go_simp <;> with_reducible rfl)
        case rest2 =>
        go_frame
        refine wpAnyH_ready (rs := [3]) (by kernel_rfl) (by simp) (AllReadyH.cons (o := ⟨some 64, .call { callee := .value (.func 21), args := #[.tmp 63], argTypes := #[5] }, _, _, _, none⟩) rfl (fun K hK => ?_) AllReadyH.nil)
        rw [if_pos (by rfl)]
        go_simp
        refine (Hfull.out _).mono ?_
        rintro e w7 ⟨g7, rfl, he7, hb7⟩
        dsimp only
        have hb7' := up (up_drew (Below.refl w6.heap.size w6)) hb7
        refine hK.out _ _ (Hs6.out _ hb7') (fun hHeld => ?_)
        clear hK K
        refine wpAnyH_ready (rs := [4]) (by kernel_rfl) (by simp) (AllReadyH.cons (o := ⟨some 65, .convert 42 9 (.tmp 64), _, _, _, none⟩) rfl (fun K hK => ?_) AllReadyH.nil)
        rw [if_pos (by rfl)]
        refine wp_run (.string X) w7 (exec_convert (s := 42) (t := 9) (x := .tmp 64) rfl (v := .slice (some ⟨g7, 0, none⟩) 256 256) rfl he7) ?_
        refine hK.out _ _ hHeld (fun hHeld => ?_)
        clear hK K
        go_frame
        refine' wpAnyH_take (i := 5) (oi := ⟨some 66, .binOp .eql 9 (.tmp 62) (.tmp 65) 9, _, _, _, none⟩) (v := _) rfl (by kernel_rfl) (by kernel_rfl) (by kernel_rfl) (fun _ _ _ h => h) (Or.inl ⟨by rfl, ?hy5⟩) (by assumption) ?rest5
        case hy5 => (intro w hSw; obtain s1 := hSw; go_simp <;> with_reducible rfl)
        case rest5 =>
        go_frame
        refine' wpAnyH_take (i := 6) (oi := ⟨some 67, .move (.tmp 66), _, _, _, none⟩) (v := _) rfl (by kernel_rfl) (by kernel_rfl) (by kernel_rfl) (fun _ _ _ h => h) (Or.inl ⟨by rfl, ?hy6⟩) (by assumption) ?rest6
        case hy6 => (intro w hSw; obtain s1 := hSw; go_simp <;> with_reducible rfl)
        case rest6 =>
        go_frame
        refine' wpAnyH_take (i := 7) (oi := ⟨some 68, .move (.tmp 10), _, _, _, some (6, true)⟩) (v := _) rfl (by kernel_rfl) (by kernel_rfl) (by kernel_rfl) (fun _ _ _ h => h) (Or.inl ⟨by rfl, ?hy7⟩) (by assumption) ?rest7
        case hy7 => (intro w hSw; obtain s1 := hSw; go_simp <;> with_reducible rfl)
        case rest7 =>
        go_frame
        refine' wpAnyH_take (i := 8) (oi := ⟨some 69, .binOp .eql 24 (.tmp 68) (.const (.int .i64 0)) 24, _, _, _, some (6, true)⟩) (v := _) rfl (by kernel_rfl) (by kernel_rfl) (by kernel_rfl) (fun _ _ _ h => h) (Or.inl ⟨by rfl, ?hy8⟩) (by assumption) ?rest8
        case hy8 => (intro w hSw; obtain s1 := hSw; go_simp <;> with_reducible rfl)
        case rest8 =>
        go_frame
        refine' wpAnyH_take (i := 9) (oi := ⟨some 70, .pick (.tmp 67) (.tmp 69) (.const (.bool false)), _, _, _, none⟩) (v := _) rfl (by kernel_rfl) (by kernel_rfl) (by kernel_rfl) (fun _ _ _ h => h) (Or.inl ⟨by rfl, ?hy9⟩) (by assumption) ?rest9
        case hy9 => (intro w hSw; obtain s1 := hSw; go_simp <;> with_reducible rfl)
        case rest9 =>
        go_frame
        refine' wpAnyH_take (i := 10) (oi := ⟨some 71, .move (.tmp 70), _, _, _, none⟩) (v := _) rfl (by kernel_rfl) (by kernel_rfl) (by kernel_rfl) (fun _ _ _ h => h) (Or.inl ⟨by rfl, ?hy10⟩) (by assumption) ?rest10
        case hy10 => (intro w hSw; obtain s1 := hSw; go_simp <;> with_reducible rfl)
        case rest10 =>
        go_frame
        refine' wpAnyH_take (i := 11) (oi := ⟨some 72, .move (.tmp 5), _, _, _, some (10, true)⟩) (v := _) rfl (by kernel_rfl) (by kernel_rfl) (by kernel_rfl) (fun _ _ _ h => h) (Or.inl ⟨by rfl, ?hy11⟩) (by assumption) ?rest11
        case hy11 => (intro w hSw; obtain s1 := hSw; go_simp <;> with_reducible rfl)
        case rest11 =>
        go_frame
        refine wpAnyH_ready (rs := [12]) (by kernel_rfl) (by simp) (AllReadyH.cons (o := ⟨some 73, .call { callee := .value (.func 13), args := #[.tmp 72], argTypes := #[23] }, _, _, _, some (10, true)⟩) rfl (fun K hK => ?_) AllReadyH.nil)
        rw [if_pos (by rfl)]
        go_simp
        refine (Hwait.out _ _ _ _ _ _ _ hd6 hb7').mono ?_
        rintro e w8 ⟨A8, c8, rfl, hb8⟩
        dsimp only
        have hb8' := up hb7' hb8
        refine hK.out _ _ (Hs6.out _ hb8') (fun hHeld => ?_)
        clear hK K
        refine' wpAnyH_take (i := 13) (oi := ⟨some 74, .call { callee := .builtin .len, args := #[.tmp 73], argTypes := #[32] }, _, _, _, some (10, true)⟩) (v := _) rfl (by kernel_rfl) (by kernel_rfl) (by kernel_rfl) (fun _ _ _ h => h) (Or.inl ⟨by rfl, ?hy13⟩) (by assumption) ?rest13
        case hy13 => (intro w hSw; obtain s1 := hSw; go_simp <;> with_reducible rfl)
        case rest13 =>
        go_frame
        refine' wpAnyH_take (i := 14) (oi := ⟨some 75, .binOp .eql 3 (.tmp 74) (.const (.int .i64 0)) 3, _, _, _, some (10, true)⟩) (v := _) rfl (by kernel_rfl) (by kernel_rfl) (by kernel_rfl) (fun _ _ _ h => h) (Or.inl ⟨by rfl, ?hy14⟩) (by assumption) ?rest14
        case hy14 => (intro w hSw; obtain s1 := hSw; go_simp <;> with_reducible rfl)
        case rest14 =>
        go_frame
        refine' wpAnyH_take (i := 15) (oi := ⟨some 76, .pick (.tmp 71) (.tmp 75) (.const (.bool false)), _, _, _, none⟩) (v := _) rfl (by kernel_rfl) (by kernel_rfl) (by kernel_rfl) (fun _ _ _ h => h) (Or.inl ⟨by rfl, ?hy15⟩) (by assumption) ?rest15
        case hy15 => (intro w hSw; obtain s1 := hSw; go_simp <;> with_reducible rfl)
        case rest15 =>
        go_frame
        refine' wpAnyH_take (i := 16) (oi := ⟨some 77, .move (.tmp 76), _, _, _, none⟩) (v := _) rfl (by kernel_rfl) (by kernel_rfl) (by kernel_rfl) (fun _ _ _ h => h) (Or.inl ⟨by rfl, ?hy16⟩) (by assumption) ?rest16
        case hy16 => (intro w hSw; obtain s1 := hSw; go_simp <;> with_reducible rfl)
        case rest16 =>
        go_frame
        refine wpAnyH_ready (rs := [17]) (by kernel_rfl) (by simp) (AllReadyH.cons (o := ⟨some 78, .call { callee := .value (.func 8), args := #[], argTypes := #[] }, _, _, _, some (16, true)⟩) rfl (fun K hK => ?_) AllReadyH.nil)
        rw [if_pos (by rfl)]
        go_simp
        refine (lives_any _).mono ?_
        rintro e w9 ⟨rfl, hb9⟩
        dsimp only
        have hb9' := up hb8' hb9
        refine hK.out _ _ (Hs6.out _ hb9') (fun hHeld => ?_)
        clear hK K
        refine' wpAnyH_take (i := 18) (oi := ⟨some 79, .pick (.tmp 77) (.tmp 78) (.const (.bool false)), _, _, _, none⟩) (v := _) rfl (by kernel_rfl) (by kernel_rfl) (by kernel_rfl) (fun _ _ _ h => h) (Or.inl ⟨by rfl, ?hy18⟩) (by assumption) ?rest18
        case hy18 => (intro w hSw; obtain s1 := hSw; go_simp <;> with_reducible rfl)
        case rest18 =>
        go_frame
        refine' wpAnyH_take (i := 19) (oi := ⟨some 4, .assign (.tmp 79), _, _, _, none⟩) (v := _) rfl (by kernel_rfl) (by kernel_rfl) (by kernel_rfl) (fun _ _ _ h => h) (Or.inl ⟨by rfl, ?hy19⟩) (by assumption) ?rest19
        case hy19 => (intro w hSw; obtain s1 := hSw; go_simp <;> with_reducible rfl)
        case rest19 =>
        go_frame
        refine wpAnyH_done (by kernel_rfl) ?_ _
        go_wp2_with fail
        go_ret
        exact ⟨rfl, up (HBelow.out _ ho6) hb9'⟩
      · have hcell : ∀ w', Only F w w' → True := fun _ _ => trivial
        have Hcell := Lib.hid hcell
        clear hcell hjm2
        subst hx
        have Hfull0 : Hid (∀ w1, Calls Try.prog 21 #[.int .u8 0] w1 fun e w' => ∃ g, e = .returned (.slice (some ⟨g, 0, none⟩) 256 256) ∧ (convert 42 9 (.slice (some ⟨g, 0, none⟩) 256 256)).run Try.prog w' = .ok (.string X) w' ∧ Below w1.heap.size w1 w') := Hfull
        go_wp2_with (first
          | (go_at_call 16; refine (Hcrash.out _ _ _ _ _ _ hd ho).mono ?_; rintro e w5 ⟨S5, D5, rfl, hd5, ho5⟩; have hcell := Hcell.out _ ho5)
          | (go_at_call 18; refine (Hread.out _ _ _ _ _ _ hd5 ho5).mono ?_; rintro e w6 ⟨g6, rfl, hs6, hd6, ho6⟩))
        have Hs6 := Lib.hid hs6
        have he0 := Hs6.out _ (up_drew (Below.refl _ _))
        clear hs6
        refine wp_region_held_drew (S := fun w' => (convert 42 9 (.slice (some ⟨g6, 0, none⟩) 256 256)).run Try.prog w' = .ok (.string X) w') (by kernel_rfl) ?_ (fun hHeld => ?_)
        · exact he0
        refine' wpAnyH_take (i := 0) (oi := ⟨some 61, .move (.tmp 9), _, _, _, none⟩) (v := _) rfl (by kernel_rfl) (by kernel_rfl) (by kernel_rfl) (fun _ _ _ h => h) (Or.inl ⟨by rfl, ?hy0⟩) (by assumption) ?rest0
        case hy0 => (intro w hSw; obtain s1 := hSw; go_simp <;> with_reducible rfl)
        case rest0 =>
        go_frame
        refine' wpAnyH_take (i := 1) (oi := ⟨some 62, .convert 42 9 (.tmp 61), _, _, _, none⟩) (v := .string X) rfl (by kernel_rfl) (by kernel_rfl) (by kernel_rfl) (fun _ _ _ h => h) (Or.inl ⟨by rfl, ?hy1⟩) (by assumption) ?rest1
        case hy1 => (intro w hSw; exact exec_convert (s := 42) (t := 9) (x := .tmp 61) rfl (v := .slice (some ⟨g6, 0, none⟩) 256 256) rfl hSw)
        case rest1 =>
        go_frame
        refine' wpAnyH_take (i := 2) (oi := ⟨some 63, .move (.tmp 8), _, _, _, none⟩) (v := _) rfl (by kernel_rfl) (by kernel_rfl) (by kernel_rfl) (fun _ _ _ h => h) (Or.inl ⟨by rfl, ?hy2⟩) (by assumption) ?rest2
        case hy2 => (intro w hSw; obtain s1 := hSw; go_simp <;> with_reducible rfl)
        case rest2 =>
        go_frame
        refine wpAnyH_ready (rs := [3]) (by kernel_rfl) (by simp) (AllReadyH.cons (o := ⟨some 64, .call { callee := .value (.func 21), args := #[.tmp 63], argTypes := #[5] }, _, _, _, none⟩) rfl (fun K hK => ?_) AllReadyH.nil)
        rw [if_pos (by rfl)]
        go_simp
        refine (Hfull0.out _).mono ?_
        rintro e w7 ⟨g7, rfl, he7, hb7⟩
        dsimp only
        have hb7' := up (up_drew (Below.refl w6.heap.size w6)) hb7
        refine hK.out _ _ (Hs6.out _ hb7') (fun hHeld => ?_)
        clear hK K
        refine wpAnyH_ready (rs := [4]) (by kernel_rfl) (by simp) (AllReadyH.cons (o := ⟨some 65, .convert 42 9 (.tmp 64), _, _, _, none⟩) rfl (fun K hK => ?_) AllReadyH.nil)
        rw [if_pos (by rfl)]
        refine wp_run (.string X) w7 (exec_convert (s := 42) (t := 9) (x := .tmp 64) rfl (v := .slice (some ⟨g7, 0, none⟩) 256 256) rfl he7) ?_
        refine hK.out _ _ hHeld (fun hHeld => ?_)
        clear hK K
        go_frame
        refine' wpAnyH_take (i := 5) (oi := ⟨some 66, .binOp .eql 9 (.tmp 62) (.tmp 65) 9, _, _, _, none⟩) (v := _) rfl (by kernel_rfl) (by kernel_rfl) (by kernel_rfl) (fun _ _ _ h => h) (Or.inl ⟨by rfl, ?hy5⟩) (by assumption) ?rest5
        case hy5 => (intro w hSw; obtain s1 := hSw; go_simp <;> with_reducible rfl)
        case rest5 =>
        go_frame
        refine' wpAnyH_take (i := 6) (oi := ⟨some 67, .move (.tmp 66), _, _, _, none⟩) (v := _) rfl (by kernel_rfl) (by kernel_rfl) (by kernel_rfl) (fun _ _ _ h => h) (Or.inl ⟨by rfl, ?hy6⟩) (by assumption) ?rest6
        case hy6 => (intro w hSw; obtain s1 := hSw; go_simp <;> with_reducible rfl)
        case rest6 =>
        go_frame
        refine' wpAnyH_take (i := 7) (oi := ⟨some 68, .move (.tmp 10), _, _, _, some (6, true)⟩) (v := _) rfl (by kernel_rfl) (by kernel_rfl) (by kernel_rfl) (fun _ _ _ h => h) (Or.inl ⟨by rfl, ?hy7⟩) (by assumption) ?rest7
        case hy7 => (intro w hSw; obtain s1 := hSw; go_simp <;> with_reducible rfl)
        case rest7 =>
        go_frame
        refine' wpAnyH_take (i := 8) (oi := ⟨some 69, .binOp .eql 24 (.tmp 68) (.const (.int .i64 0)) 24, _, _, _, some (6, true)⟩) (v := _) rfl (by kernel_rfl) (by kernel_rfl) (by kernel_rfl) (fun _ _ _ h => h) (Or.inl ⟨by rfl, ?hy8⟩) (by assumption) ?rest8
        case hy8 => (intro w hSw; obtain s1 := hSw; go_simp <;> with_reducible rfl)
        case rest8 =>
        go_frame
        refine' wpAnyH_take (i := 9) (oi := ⟨some 70, .pick (.tmp 67) (.tmp 69) (.const (.bool false)), _, _, _, none⟩) (v := _) rfl (by kernel_rfl) (by kernel_rfl) (by kernel_rfl) (fun _ _ _ h => h) (Or.inl ⟨by rfl, ?hy9⟩) (by assumption) ?rest9
        case hy9 => (intro w hSw; obtain s1 := hSw; go_simp <;> with_reducible rfl)
        case rest9 =>
        go_frame
        refine' wpAnyH_take (i := 10) (oi := ⟨some 71, .move (.tmp 70), _, _, _, none⟩) (v := _) rfl (by kernel_rfl) (by kernel_rfl) (by kernel_rfl) (fun _ _ _ h => h) (Or.inl ⟨by rfl, ?hy10⟩) (by assumption) ?rest10
        case hy10 => (intro w hSw; obtain s1 := hSw; go_simp <;> with_reducible rfl)
        case rest10 =>
        go_frame
        refine' wpAnyH_take (i := 11) (oi := ⟨some 72, .move (.tmp 5), _, _, _, some (10, true)⟩) (v := _) rfl (by kernel_rfl) (by kernel_rfl) (by kernel_rfl) (fun _ _ _ h => h) (Or.inl ⟨by rfl, ?hy11⟩) (by assumption) ?rest11
        case hy11 => (intro w hSw; obtain s1 := hSw; go_simp <;> with_reducible rfl)
        case rest11 =>
        go_frame
        refine wpAnyH_ready (rs := [12]) (by kernel_rfl) (by simp) (AllReadyH.cons (o := ⟨some 73, .call { callee := .value (.func 13), args := #[.tmp 72], argTypes := #[23] }, _, _, _, some (10, true)⟩) rfl (fun K hK => ?_) AllReadyH.nil)
        rw [if_pos (by rfl)]
        go_simp
        refine (Hwait.out _ _ _ _ _ _ _ hd6 hb7').mono ?_
        rintro e w8 ⟨A8, c8, rfl, hb8⟩
        dsimp only
        have hb8' := up hb7' hb8
        refine hK.out _ _ (Hs6.out _ hb8') (fun hHeld => ?_)
        clear hK K
        refine' wpAnyH_take (i := 13) (oi := ⟨some 74, .call { callee := .builtin .len, args := #[.tmp 73], argTypes := #[32] }, _, _, _, some (10, true)⟩) (v := _) rfl (by kernel_rfl) (by kernel_rfl) (by kernel_rfl) (fun _ _ _ h => h) (Or.inl ⟨by rfl, ?hy13⟩) (by assumption) ?rest13
        case hy13 => (intro w hSw; obtain s1 := hSw; go_simp <;> with_reducible rfl)
        case rest13 =>
        go_frame
        refine' wpAnyH_take (i := 14) (oi := ⟨some 75, .binOp .eql 3 (.tmp 74) (.const (.int .i64 0)) 3, _, _, _, some (10, true)⟩) (v := _) rfl (by kernel_rfl) (by kernel_rfl) (by kernel_rfl) (fun _ _ _ h => h) (Or.inl ⟨by rfl, ?hy14⟩) (by assumption) ?rest14
        case hy14 => (intro w hSw; obtain s1 := hSw; go_simp <;> with_reducible rfl)
        case rest14 =>
        go_frame
        refine' wpAnyH_take (i := 15) (oi := ⟨some 76, .pick (.tmp 71) (.tmp 75) (.const (.bool false)), _, _, _, none⟩) (v := _) rfl (by kernel_rfl) (by kernel_rfl) (by kernel_rfl) (fun _ _ _ h => h) (Or.inl ⟨by rfl, ?hy15⟩) (by assumption) ?rest15
        case hy15 => (intro w hSw; obtain s1 := hSw; go_simp <;> with_reducible rfl)
        case rest15 =>
        go_frame
        refine' wpAnyH_take (i := 16) (oi := ⟨some 77, .move (.tmp 76), _, _, _, none⟩) (v := _) rfl (by kernel_rfl) (by kernel_rfl) (by kernel_rfl) (fun _ _ _ h => h) (Or.inl ⟨by rfl, ?hy16⟩) (by assumption) ?rest16
        case hy16 => (intro w hSw; obtain s1 := hSw; go_simp <;> with_reducible rfl)
        case rest16 =>
        go_frame
        refine wpAnyH_ready (rs := [17]) (by kernel_rfl) (by simp) (AllReadyH.cons (o := ⟨some 78, .call { callee := .value (.func 8), args := #[], argTypes := #[] }, _, _, _, some (16, true)⟩) rfl (fun K hK => ?_) AllReadyH.nil)
        rw [if_pos (by rfl)]
        go_simp
        refine (lives_any _).mono ?_
        rintro e w9 ⟨rfl, hb9⟩
        dsimp only
        have hb9' := up hb8' hb9
        refine hK.out _ _ (Hs6.out _ hb9') (fun hHeld => ?_)
        clear hK K
        refine' wpAnyH_take (i := 18) (oi := ⟨some 79, .pick (.tmp 77) (.tmp 78) (.const (.bool false)), _, _, _, none⟩) (v := _) rfl (by kernel_rfl) (by kernel_rfl) (by kernel_rfl) (fun _ _ _ h => h) (Or.inl ⟨by rfl, ?hy18⟩) (by assumption) ?rest18
        case hy18 => (intro w hSw; obtain s1 := hSw; go_simp <;> with_reducible rfl)
        case rest18 =>
        go_frame
        refine' wpAnyH_take (i := 19) (oi := ⟨some 4, .assign (.tmp 79), _, _, _, none⟩) (v := _) rfl (by kernel_rfl) (by kernel_rfl) (by kernel_rfl) (fun _ _ _ h => h) (Or.inl ⟨by rfl, ?hy19⟩) (by assumption) ?rest19
        case hy19 => (intro w hSw; obtain s1 := hSw; go_simp <;> with_reducible rfl)
        case rest19 =>
        go_frame
        refine wpAnyH_done (by kernel_rfl) ?_ _
        go_wp2_with fail
        go_ret
        exact ⟨rfl, up (HBelow.out _ ho6) hb9'⟩
set_option maxRecDepth 100000 in
set_option maxHeartbeats 2000000 in
theorem kept_big (A : Option Addr) (c n0 : Nat) (l m : List UInt8) (k : Int) (w : World) (h : Rd w w.heap.size (.slice A n0 c) (cellsB l)) (hm : n0 = l.length ∧ 20 < n0 ∧ m = l.take 20) (wk : (Lit.int .i64 k).wf = true) :
    Calls Try.prog 5 #[.slice A n0 c, .int .i64 k] w fun e w' => e = .returned (.bool true) ∧ Below w.heap.size w w' := by
  obtain ⟨hn0, h20, hm2⟩ := hm
  have hcap : 20 ≤ c := by
    obtain ⟨_, _, e, h1, _⟩ := h.bytes
    injection e with e1 e2 e3
    omega
  have hrd : Rd w w.heap.size (.slice A 20 c) (cellsB m) := by rw [hm2, ← cellsB_take]; exact h.upto (by omega)
  have hn20 : 20 = m.length := by rw [hm2, List.length_take]; omega
  obtain ⟨F, hF⟩ : ∃ F : Nat → Prop, F = fun k => w.heap.size ≤ k := ⟨_, rfl⟩
  have hFresh : ∀ w' : World, w.heap.size ≤ w'.heap.size → ∀ k, w'.heap.size ≤ k → F k := fun w' hw k hk => by rw [hF]; exact Nat.le_trans hw hk
  have hBelow : ∀ w', Only F w w' → Below w.heap.size w w' := fun w' h => by rw [hF] at h; exact h.below (Nat.le_refl _)
  have hnew := new_ok (n := 16) w F ⟨by omega, by omega⟩ (hFresh w (Nat.le_refl _))
  rw [← Dev.wrote_zero m] at hnew
  -- a round of writing
  have hwrite : ∀ (j : Nat) (hj : j < m.length) (w1 w2 : World) (p bl bm g : Nat) (S : Nat → Value) (D : DataW Value), DevIs w1 F p bl bm S D (Dev.wrote m j) → Only F w w1 → Below w1.heap.size w1 w2 → w1.heap.size ≤ g → w2.heap[g]? = some (.cells (cellsB (one m[j])).toArray 5 (0, 0)) →
      Calls Try.prog 20 #[at0 p, .int .i64 5, .slice (some ⟨g, 0, none⟩) 256 256] w2 fun e w' => ∃ S' D', e = .returned (.int .i64 0) ∧ DevIs w' F p bl bm S' D' (Dev.wrote m (j + 1)) ∧ Only F w w' := by
    intro j hj w1 w2 p bl bm g S D hd ho hb hg hh
    have h := write_far (i := 5) (c := 256) (hd.far hb hg) (by simp [Dev.wrote, Dev.new]) (Dev.burns_idle _ _ rfl) (show j < 1000000 by omega) (one_length _) (range_new hh) (Array.getElem?_eq_some_iff.1 hh).1 (hFresh w2 (Nat.le_trans ho.size hb.size))
    rw [Dev.burn_idle _ _ rfl, Dev.wrote_put m j hj] at h
    refine h.mono ?_
    rintro e w' ⟨S', D', rfl, hd', ho'⟩
    exact ⟨S', D', rfl, hd', ho.trans ((Only.of_below hb).trans ho')⟩
  have hcrash : ∀ (w1 : World) (p bl bm : Nat) (S : Nat → Value) (D : DataW Value), DevIs w1 F p bl bm S D (Dev.wrote m m.length) → Only F w w1 →
      Calls Try.prog 16 #[at0 p, .slice (some ⟨w1.heap.size, 0, none⟩) 1 1] (w1.alloc (.cells #[.int .i64 k] 3)) fun e w' => ∃ S' D', e = .returned (.tuple #[]) ∧ DevIs w' F p bl bm S' D' ((Dev.wrote m m.length).crash [k]) ∧ Only F w w' := by
    intro w1 p bl bm S D hd ho
    refine (crash_far (g := w1.heap.size) (c := 3) (ks := [k]) (hd.far ((Below.refl _ _).alloc (Nat.le_refl _) _) (Nat.le_refl _)) (show m.length < 1000000 by omega) (heap_alloc_last _ _) (by simp) (hFresh _ (by simp; exact Nat.le_succ_of_le ho.size)) 1).mono ?_
    rintro e w' ⟨S', D', rfl, hd', ho'⟩
    exact ⟨S', D', rfl, hd', ho.trans ((Only.alloc _ _ _).trans ho')⟩
  obtain ⟨x, hx⟩ : ∃ x, x = wantOf m k := ⟨_, rfl⟩
  obtain ⟨d3, hd3⟩ : ∃ d3, d3 = (Dev.wrote m m.length).crash [k] := ⟨_, rfl⟩
  have hd3n : d3.now 5 = one x := by rw [hd3, hx]; exact wrote_kept m k
  have hd3L : d3.L.length = 16 := by rw [hd3]; simp [Dev.crash, lose_length, Dev.wrote, Dev.new]
  have hd3f : ∀ i, (d3.f i).1 = false := fun i => by rw [hd3]; rfl
  have hd3Q : ∀ i, d3.Q i = [] := fun i => by rw [hd3]; rfl
  have hd3m : d3.n < 1000000 := by rw [hd3]; show m.length < 1000000; omega
  rw [← hd3] at hcrash
  obtain ⟨X, hX⟩ : ∃ X : ByteArray, X = ⟨(one x).toArray⟩ := ⟨_, rfl⟩
  have hread : ∀ (w1 : World) (p bl bm : Nat) (S : Nat → Value) (D : DataW Value), DevIs w1 F p bl bm S D d3 → Only F w w1 →
      Calls Try.prog 18 #[at0 p, .int .i64 5] w1 fun e w' => ∃ g, e = .returned (.tuple #[.slice (some ⟨g, 0, none⟩) 256 256, .int .i64 0]) ∧ (∀ w2, Below w'.heap.size w' w2 → (convert 42 9 (.slice (some ⟨g, 0, none⟩) 256 256)).run Try.prog w2 = .ok (.string X) w2) ∧ DevIs w' F p bl bm S D d3 ∧ Only F w w' := by
    intro w1 p bl bm S D hd ho
    have h := read_ok (i := 5) hd (by omega) (Dev.burns_idle _ _ (hd3f 1)) hd3m
    rw [hd3n, Dev.burn_idle _ _ (hd3f 1)] at h
    refine h.mono ?_
    rintro e w' ⟨g, rfl, hg, _, hd', ho'⟩
    refine ⟨g, rfl, fun w2 hb2 => ?_, hd', ho.trans ho'⟩
    rw [hX]
    exact str_of ((hb2.block g (Array.getElem?_eq_some_iff.1 hg).1).trans hg) (one_length x)
  have hwait : ∀ (w1 w2 : World) (p bl bm : Nat) (S : Nat → Value) (D : DataW Value), DevIs w1 F p bl bm S D d3 → Below w1.heap.size w1 w2 →
      Calls Try.prog 13 #[at0 p] w2 fun e w' => ∃ A c, e = .returned (.slice A 0 c) ∧ Below w2.heap.size w2 w' := by
    intro w1 w2 p bl bm S D hd hb
    refine (waiting_cells (hd.below hb) hd3m).mono ?_
    rintro e w' ⟨A, c, rfl, hb', _⟩
    rw [waits_none d3 hd3Q]
    exact ⟨A, c, rfl, hb'⟩
  have hfull : ∀ w1, Calls Try.prog 21 #[.int .u8 (x.toNat : Int)] w1 fun e w' => ∃ g, e = .returned (.slice (some ⟨g, 0, none⟩) 256 256) ∧ (convert 42 9 (.slice (some ⟨g, 0, none⟩) 256 256)).run Try.prog w' = .ok (.string X) w' ∧ Below w1.heap.size w1 w' := fun w1 => by
    refine (full_one x w1).mono ?_
    rintro e w' ⟨g, rfl, _, hh, hb⟩
    refine ⟨g, rfl, ?_, hb⟩
    rw [hX]
    exact str_of hh (one_length x)
  have hbytes : ∀ (wr : World), Only F w wr → 0 < m.length → ∃ b o, A = some ⟨b, o, none⟩ ∧ ∀ (j : Nat) (hj : j < m.length), wr.cell? ⟨b, o + j, none⟩ = some (.int .u8 (m[j].toNat : Int)) := fun wr ho hp => by
    obtain ⟨b, o, rfl, hb, hc⟩ := hrd.addr (by rw [hn20]; exact hp)
    refine ⟨b, o, rfl, fun j hj => ?_⟩
    exact ((hBelow wr ho).cell (p := ⟨b, o + j, none⟩) hb).trans (hc j hj)
  have hkb : -9223372036854775808 ≤ k ∧ k ≤ 9223372036854775807 := by simpa [Lit.wf, IntKind.min, IntKind.max, IntKind.bits, IntKind.signed] using wk
  have Hnew := Lib.hid hnew
  have Hwrite := Lib.hid hwrite
  have Hcrash := Lib.hid hcrash
  have Hread := Lib.hid hread
  have Hwait := Lib.hid hwait
  have Hfull := Lib.hid hfull
  have Hbytes := Lib.hid hbytes
  have HBelow := Lib.hid hBelow
  have Hx := Lib.hid hx
  have HN : Hid (20 = m.length) := Lib.hid hn20
  have t0 : decide ((20 : Int) < (n0 : Int)) = true := by simp; omega
  have Hkb := Kept.mk hkb
  clear hnew hwrite hcrash hread hwait hfull hbytes hBelow hFresh hF hx hd3 hd3n hd3L hd3f hd3Q hd3m hX hrd hkb wk h hn0 hn20 hm2
  go_enter Try.func5, Try.ntmps5
  go_wp2_with (go_at_call 7; refine Hnew.out.mono ?_; rintro e w1 ⟨rfl, hd1, hb1⟩; have ho1 : Only F w w1 := Only.of_below hb1)
  go_loopw [7] (fun iv wr => ∃ (j : Nat) (S : Nat → Value) (D : DataW Value), j ≤ 20 ∧ iv = .int .i64 (j : Int) ∧ DevIs wr F (w.heap.size + 2) w.heap.size (w.heap.size + 1) S D (Dev.wrote m j) ∧ Only F w wr) (fun iv _ => 20 - (intOf iv).toNat)
  case atStart => exact ⟨0, _, _, by omega, rfl, hd1, ho1⟩
  case round =>
    obtain ⟨j, S, D, hjN, rfl, hd, ho⟩ := hrel
    by_cases hlt : j < 20
    · have hj' : j < m.length := by rw [← HN.out]; exact hlt
      obtain ⟨b, o, rfl, hc⟩ := Hbytes.out wr ho (by omega)
      have hcj := hc j hj'
      obtain ⟨y, hy⟩ : ∃ y, y = m[j] := ⟨_, rfl⟩
      rw [← hy] at hcj
      have hw2 := Hwrite.out j hj'
      rw [← hy] at hw2
      have Hw2 := Lib.hid hw2
      clear hc hy hw2 hj'
      go_wp2_with (first
        | (go_at_call 21; refine (full_one y _).mono ?_; rintro e w2 ⟨g, rfl, hg, hh, hb2⟩)
        | (go_at_call 20; refine (Hw2.out _ _ _ _ _ _ _ _ hd ho hb2 hg hh).mono ?_; rintro e w3 ⟨S3, D3, rfl, hd3, ho3⟩))
      go_roundw
      case rel => exact ⟨j + 1, S3, D3, by omega, by go_num, hd3, ho3⟩
      case measure => simp [intOf]; omega
    · have hjm : j = m.length := by rw [← HN.out]; omega
      rw [hjm] at hd
      have hjN' : j = 20 := by omega
      have hcase : (decide ((20 : Int) < k) = true ∧ ((0 < m.length ∧ (x = m.getD (m.length - 1) 0)) ∨ (m.length = 0 ∧ x = 0))) ∨ (decide ((20 : Int) < k) = false ∧ ((∃ q : Nat, k = (q : Int) + 1 ∧ q < m.length ∧ x = m.getD q 0) ∨ (k ≤ 0 ∧ x = 0))) := by
        have hNi : (20 : Int) = (m.length : Int) := by have hh := HN.out; omega
        rcases wantOf_cases m k x Hx.out with ⟨h1, h2⟩ | ⟨h1, h2⟩
        · exact .inl ⟨decide_eq_true (by rw [hNi]; exact h1), h2⟩
        · exact .inr ⟨decide_eq_false (by rw [hNi]; exact h1), h2⟩
      clear Hwrite Hx hlt hjm
      subst hjN'
      have hjm2 := HN.out
      clear hjN
      rcases hcase with ⟨t1, ⟨h2, hx⟩ | ⟨h2, hx⟩⟩ | ⟨t1, ⟨q, hq, h2, hx⟩ | ⟨h2, hx⟩⟩
      · obtain ⟨b, o, rfl, _⟩ := Hbytes.out wr ho h2
        have t2 : decide ((0 : Int) < (20 : Int)) = true := by rw [decide_eq_true_eq]; omega
        have t3 : 1 ≤ 20 := by omega
        have hcell : ∀ w', Only F w w' → w'.cell? ⟨b, o + (20 - 1), none⟩ = some (.int .u8 (x.toNat : Int)) := fun w' ho' => by
          obtain ⟨b', o', e, hc'⟩ := Hbytes.out w' ho' h2
          injection e with e
          injection e with e1 e2
          subst e1 e2
          have := hc' (20 - 1) (by omega)
          rw [hx, show m.length - 1 = 20 - 1 by omega, List.getD_eq_getElem?_getD, List.getElem?_eq_getElem (by omega)]
          exact this
        have Hcell := Lib.hid hcell
        clear hcell hx h2 hjm2
        go_wp2_with (first
          | (go_at_call 16; refine (Hcrash.out _ _ _ _ _ _ hd ho).mono ?_; rintro e w5 ⟨S5, D5, rfl, hd5, ho5⟩; have hcell := Hcell.out _ ho5)
          | (go_at_call 18; refine (Hread.out _ _ _ _ _ _ hd5 ho5).mono ?_; rintro e w6 ⟨g6, rfl, hs6, hd6, ho6⟩))
        have Hs6 := Lib.hid hs6
        have he0 := Hs6.out _ (up_drew (Below.refl _ _))
        clear hs6
        refine wp_region_held_drew (S := fun w' => (convert 42 9 (.slice (some ⟨g6, 0, none⟩) 256 256)).run Try.prog w' = .ok (.string X) w') (by kernel_rfl) ?_ (fun hHeld => ?_)
        · exact he0
        refine' wpAnyH_take (i := 0) (oi := ⟨some 61, .move (.tmp 9), _, _, _, none⟩) (v := _) rfl (by kernel_rfl) (by kernel_rfl) (by kernel_rfl) (fun _ _ _ h => h) (Or.inl ⟨by rfl, ?hy0⟩) (by assumption) ?rest0
        case hy0 => (intro w hSw; obtain s1 := hSw; go_simp <;> with_reducible rfl)
        case rest0 =>
        go_frame
        refine' wpAnyH_take (i := 1) (oi := ⟨some 62, .convert 42 9 (.tmp 61), _, _, _, none⟩) (v := .string X) rfl (by kernel_rfl) (by kernel_rfl) (by kernel_rfl) (fun _ _ _ h => h) (Or.inl ⟨by rfl, ?hy1⟩) (by assumption) ?rest1
        case hy1 => (intro w hSw; exact exec_convert (s := 42) (t := 9) (x := .tmp 61) rfl (v := .slice (some ⟨g6, 0, none⟩) 256 256) rfl hSw)
        case rest1 =>
        go_frame
        refine' wpAnyH_take (i := 2) (oi := ⟨some 63, .move (.tmp 8), _, _, _, none⟩) (v := _) rfl (by kernel_rfl) (by kernel_rfl) (by kernel_rfl) (fun _ _ _ h => h) (Or.inl ⟨by rfl, ?hy2⟩) (by assumption) ?rest2
        case hy2 => (intro w hSw; obtain s1 := hSw; go_simp <;> with_reducible rfl)
        case rest2 =>
        go_frame
        refine wpAnyH_ready (rs := [3]) (by kernel_rfl) (by simp) (AllReadyH.cons (o := ⟨some 64, .call { callee := .value (.func 21), args := #[.tmp 63], argTypes := #[5] }, _, _, _, none⟩) rfl (fun K hK => ?_) AllReadyH.nil)
        rw [if_pos (by rfl)]
        go_simp
        refine (Hfull.out _).mono ?_
        rintro e w7 ⟨g7, rfl, he7, hb7⟩
        dsimp only
        have hb7' := up (up_drew (Below.refl w6.heap.size w6)) hb7
        refine hK.out _ _ (Hs6.out _ hb7') (fun hHeld => ?_)
        clear hK K
        refine wpAnyH_ready (rs := [4]) (by kernel_rfl) (by simp) (AllReadyH.cons (o := ⟨some 65, .convert 42 9 (.tmp 64), _, _, _, none⟩) rfl (fun K hK => ?_) AllReadyH.nil)
        rw [if_pos (by rfl)]
        refine wp_run (.string X) w7 (exec_convert (s := 42) (t := 9) (x := .tmp 64) rfl (v := .slice (some ⟨g7, 0, none⟩) 256 256) rfl he7) ?_
        refine hK.out _ _ hHeld (fun hHeld => ?_)
        clear hK K
        go_frame
        refine' wpAnyH_take (i := 5) (oi := ⟨some 66, .binOp .eql 9 (.tmp 62) (.tmp 65) 9, _, _, _, none⟩) (v := _) rfl (by kernel_rfl) (by kernel_rfl) (by kernel_rfl) (fun _ _ _ h => h) (Or.inl ⟨by rfl, ?hy5⟩) (by assumption) ?rest5
        case hy5 => (intro w hSw; obtain s1 := hSw; go_simp <;> with_reducible rfl)
        case rest5 =>
        go_frame
        refine' wpAnyH_take (i := 6) (oi := ⟨some 67, .move (.tmp 66), _, _, _, none⟩) (v := _) rfl (by kernel_rfl) (by kernel_rfl) (by kernel_rfl) (fun _ _ _ h => h) (Or.inl ⟨by rfl, ?hy6⟩) (by assumption) ?rest6
        case hy6 => (intro w hSw; obtain s1 := hSw; go_simp <;> with_reducible rfl)
        case rest6 =>
        go_frame
        refine' wpAnyH_take (i := 7) (oi := ⟨some 68, .move (.tmp 10), _, _, _, some (6, true)⟩) (v := _) rfl (by kernel_rfl) (by kernel_rfl) (by kernel_rfl) (fun _ _ _ h => h) (Or.inl ⟨by rfl, ?hy7⟩) (by assumption) ?rest7
        case hy7 => (intro w hSw; obtain s1 := hSw; go_simp <;> with_reducible rfl)
        case rest7 =>
        go_frame
        refine' wpAnyH_take (i := 8) (oi := ⟨some 69, .binOp .eql 24 (.tmp 68) (.const (.int .i64 0)) 24, _, _, _, some (6, true)⟩) (v := _) rfl (by kernel_rfl) (by kernel_rfl) (by kernel_rfl) (fun _ _ _ h => h) (Or.inl ⟨by rfl, ?hy8⟩) (by assumption) ?rest8
        case hy8 => (intro w hSw; obtain s1 := hSw; go_simp <;> with_reducible rfl)
        case rest8 =>
        go_frame
        refine' wpAnyH_take (i := 9) (oi := ⟨some 70, .pick (.tmp 67) (.tmp 69) (.const (.bool false)), _, _, _, none⟩) (v := _) rfl (by kernel_rfl) (by kernel_rfl) (by kernel_rfl) (fun _ _ _ h => h) (Or.inl ⟨by rfl, ?hy9⟩) (by assumption) ?rest9
        case hy9 => (intro w hSw; obtain s1 := hSw; go_simp <;> with_reducible rfl)
        case rest9 =>
        go_frame
        refine' wpAnyH_take (i := 10) (oi := ⟨some 71, .move (.tmp 70), _, _, _, none⟩) (v := _) rfl (by kernel_rfl) (by kernel_rfl) (by kernel_rfl) (fun _ _ _ h => h) (Or.inl ⟨by rfl, ?hy10⟩) (by assumption) ?rest10
        case hy10 => (intro w hSw; obtain s1 := hSw; go_simp <;> with_reducible rfl)
        case rest10 =>
        go_frame
        refine' wpAnyH_take (i := 11) (oi := ⟨some 72, .move (.tmp 5), _, _, _, some (10, true)⟩) (v := _) rfl (by kernel_rfl) (by kernel_rfl) (by kernel_rfl) (fun _ _ _ h => h) (Or.inl ⟨by rfl, ?hy11⟩) (by assumption) ?rest11
        case hy11 => (intro w hSw; obtain s1 := hSw; go_simp <;> with_reducible rfl)
        case rest11 =>
        go_frame
        refine wpAnyH_ready (rs := [12]) (by kernel_rfl) (by simp) (AllReadyH.cons (o := ⟨some 73, .call { callee := .value (.func 13), args := #[.tmp 72], argTypes := #[23] }, _, _, _, some (10, true)⟩) rfl (fun K hK => ?_) AllReadyH.nil)
        rw [if_pos (by rfl)]
        go_simp
        refine (Hwait.out _ _ _ _ _ _ _ hd6 hb7').mono ?_
        rintro e w8 ⟨A8, c8, rfl, hb8⟩
        dsimp only
        have hb8' := up hb7' hb8
        refine hK.out _ _ (Hs6.out _ hb8') (fun hHeld => ?_)
        clear hK K
        refine' wpAnyH_take (i := 13) (oi := ⟨some 74, .call { callee := .builtin .len, args := #[.tmp 73], argTypes := #[32] }, _, _, _, some (10, true)⟩) (v := _) rfl (by kernel_rfl) (by kernel_rfl) (by kernel_rfl) (fun _ _ _ h => h) (Or.inl ⟨by rfl, ?hy13⟩) (by assumption) ?rest13
        case hy13 => (intro w hSw; obtain s1 := hSw; go_simp <;> with_reducible rfl)
        case rest13 =>
        go_frame
        refine' wpAnyH_take (i := 14) (oi := ⟨some 75, .binOp .eql 3 (.tmp 74) (.const (.int .i64 0)) 3, _, _, _, some (10, true)⟩) (v := _) rfl (by kernel_rfl) (by kernel_rfl) (by kernel_rfl) (fun _ _ _ h => h) (Or.inl ⟨by rfl, ?hy14⟩) (by assumption) ?rest14
        case hy14 => (intro w hSw; obtain s1 := hSw; go_simp <;> with_reducible rfl)
        case rest14 =>
        go_frame
        refine' wpAnyH_take (i := 15) (oi := ⟨some 76, .pick (.tmp 71) (.tmp 75) (.const (.bool false)), _, _, _, none⟩) (v := _) rfl (by kernel_rfl) (by kernel_rfl) (by kernel_rfl) (fun _ _ _ h => h) (Or.inl ⟨by rfl, ?hy15⟩) (by assumption) ?rest15
        case hy15 => (intro w hSw; obtain s1 := hSw; go_simp <;> with_reducible rfl)
        case rest15 =>
        go_frame
        refine' wpAnyH_take (i := 16) (oi := ⟨some 77, .move (.tmp 76), _, _, _, none⟩) (v := _) rfl (by kernel_rfl) (by kernel_rfl) (by kernel_rfl) (fun _ _ _ h => h) (Or.inl ⟨by rfl, ?hy16⟩) (by assumption) ?rest16
        case hy16 => (intro w hSw; obtain s1 := hSw; go_simp <;> with_reducible rfl)
        case rest16 =>
        go_frame
        refine wpAnyH_ready (rs := [17]) (by kernel_rfl) (by simp) (AllReadyH.cons (o := ⟨some 78, .call { callee := .value (.func 8), args := #[], argTypes := #[] }, _, _, _, some (16, true)⟩) rfl (fun K hK => ?_) AllReadyH.nil)
        rw [if_pos (by rfl)]
        go_simp
        refine (lives_any _).mono ?_
        rintro e w9 ⟨rfl, hb9⟩
        dsimp only
        have hb9' := up hb8' hb9
        refine hK.out _ _ (Hs6.out _ hb9') (fun hHeld => ?_)
        clear hK K
        refine' wpAnyH_take (i := 18) (oi := ⟨some 79, .pick (.tmp 77) (.tmp 78) (.const (.bool false)), _, _, _, none⟩) (v := _) rfl (by kernel_rfl) (by kernel_rfl) (by kernel_rfl) (fun _ _ _ h => h) (Or.inl ⟨by rfl, ?hy18⟩) (by assumption) ?rest18
        case hy18 => (intro w hSw; obtain s1 := hSw; go_simp <;> with_reducible rfl)
        case rest18 =>
        go_frame
        refine' wpAnyH_take (i := 19) (oi := ⟨some 4, .assign (.tmp 79), _, _, _, none⟩) (v := _) rfl (by kernel_rfl) (by kernel_rfl) (by kernel_rfl) (fun _ _ _ h => h) (Or.inl ⟨by rfl, ?hy19⟩) (by assumption) ?rest19
        case hy19 => (intro w hSw; obtain s1 := hSw; go_simp <;> with_reducible rfl)
        case rest19 =>
        go_frame
        refine wpAnyH_done (by kernel_rfl) ?_ _
        go_wp2_with fail
        go_ret
        exact ⟨rfl, up (HBelow.out _ ho6) hb9'⟩
      · exact absurd h2 (by omega)
      · subst hq
        obtain ⟨b, o, rfl, _⟩ := Hbytes.out wr ho (by omega)
        have t3 : q < 20 := by omega
        have hcell : ∀ w', Only F w w' → w'.cell? ⟨b, o + q, none⟩ = some (.int .u8 (x.toNat : Int)) := fun w' ho' => by
          obtain ⟨b', o', e, hc'⟩ := Hbytes.out w' ho' (by omega)
          injection e with e
          injection e with e1 e2
          subst e1 e2
          have := hc' q h2
          rw [hx, List.getD_eq_getElem?_getD, List.getElem?_eq_getElem h2]
          exact this
        have Hcell := Lib.hid hcell
        clear hcell hx h2 hjm2
        go_wp2_with (first
          | (go_at_call 16; refine (Hcrash.out _ _ _ _ _ _ hd ho).mono ?_; rintro e w5 ⟨S5, D5, rfl, hd5, ho5⟩; have hcell := Hcell.out _ ho5)
          | (go_at_call 18; refine (Hread.out _ _ _ _ _ _ hd5 ho5).mono ?_; rintro e w6 ⟨g6, rfl, hs6, hd6, ho6⟩))
        have Hs6 := Lib.hid hs6
        have he0 := Hs6.out _ (up_drew (Below.refl _ _))
        clear hs6
        refine wp_region_held_drew (S := fun w' => (convert 42 9 (.slice (some ⟨g6, 0, none⟩) 256 256)).run Try.prog w' = .ok (.string X) w') (by kernel_rfl) ?_ (fun hHeld => ?_)
        · exact he0
        refine' wpAnyH_take (i := 0) (oi := ⟨some 61, .move (.tmp 9), _, _, _, none⟩) (v := _) rfl (by kernel_rfl) (by kernel_rfl) (by kernel_rfl) (fun _ _ _ h => h) (Or.inl ⟨by rfl, ?hy0⟩) (by assumption) ?rest0
        case hy0 => (intro w hSw; obtain s1 := hSw; go_simp <;> with_reducible rfl)
        case rest0 =>
        go_frame
        refine' wpAnyH_take (i := 1) (oi := ⟨some 62, .convert 42 9 (.tmp 61), _, _, _, none⟩) (v := .string X) rfl (by kernel_rfl) (by kernel_rfl) (by kernel_rfl) (fun _ _ _ h => h) (Or.inl ⟨by rfl, ?hy1⟩) (by assumption) ?rest1
        case hy1 => (intro w hSw; exact exec_convert (s := 42) (t := 9) (x := .tmp 61) rfl (v := .slice (some ⟨g6, 0, none⟩) 256 256) rfl hSw)
        case rest1 =>
        go_frame
        refine' wpAnyH_take (i := 2) (oi := ⟨some 63, .move (.tmp 8), _, _, _, none⟩) (v := _) rfl (by kernel_rfl) (by kernel_rfl) (by kernel_rfl) (fun _ _ _ h => h) (Or.inl ⟨by rfl, ?hy2⟩) (by assumption) ?rest2
        case hy2 => (intro w hSw; obtain s1 := hSw; go_simp <;> with_reducible rfl)
        case rest2 =>
        go_frame
        refine wpAnyH_ready (rs := [3]) (by kernel_rfl) (by simp) (AllReadyH.cons (o := ⟨some 64, .call { callee := .value (.func 21), args := #[.tmp 63], argTypes := #[5] }, _, _, _, none⟩) rfl (fun K hK => ?_) AllReadyH.nil)
        rw [if_pos (by rfl)]
        go_simp
        refine (Hfull.out _).mono ?_
        rintro e w7 ⟨g7, rfl, he7, hb7⟩
        dsimp only
        have hb7' := up (up_drew (Below.refl w6.heap.size w6)) hb7
        refine hK.out _ _ (Hs6.out _ hb7') (fun hHeld => ?_)
        clear hK K
        refine wpAnyH_ready (rs := [4]) (by kernel_rfl) (by simp) (AllReadyH.cons (o := ⟨some 65, .convert 42 9 (.tmp 64), _, _, _, none⟩) rfl (fun K hK => ?_) AllReadyH.nil)
        rw [if_pos (by rfl)]
        refine wp_run (.string X) w7 (exec_convert (s := 42) (t := 9) (x := .tmp 64) rfl (v := .slice (some ⟨g7, 0, none⟩) 256 256) rfl he7) ?_
        refine hK.out _ _ hHeld (fun hHeld => ?_)
        clear hK K
        go_frame
        refine' wpAnyH_take (i := 5) (oi := ⟨some 66, .binOp .eql 9 (.tmp 62) (.tmp 65) 9, _, _, _, none⟩) (v := _) rfl (by kernel_rfl) (by kernel_rfl) (by kernel_rfl) (fun _ _ _ h => h) (Or.inl ⟨by rfl, ?hy5⟩) (by assumption) ?rest5
        case hy5 => (intro w hSw; obtain s1 := hSw; go_simp <;> with_reducible rfl)
        case rest5 =>
        go_frame
        refine' wpAnyH_take (i := 6) (oi := ⟨some 67, .move (.tmp 66), _, _, _, none⟩) (v := _) rfl (by kernel_rfl) (by kernel_rfl) (by kernel_rfl) (fun _ _ _ h => h) (Or.inl ⟨by rfl, ?hy6⟩) (by assumption) ?rest6
        case hy6 => (intro w hSw; obtain s1 := hSw; go_simp <;> with_reducible rfl)
        case rest6 =>
        go_frame
        refine' wpAnyH_take (i := 7) (oi := ⟨some 68, .move (.tmp 10), _, _, _, some (6, true)⟩) (v := _) rfl (by kernel_rfl) (by kernel_rfl) (by kernel_rfl) (fun _ _ _ h => h) (Or.inl ⟨by rfl, ?hy7⟩) (by assumption) ?rest7
        case hy7 => (intro w hSw; obtain s1 := hSw; go_simp <;> with_reducible rfl)
        case rest7 =>
        go_frame
        refine' wpAnyH_take (i := 8) (oi := ⟨some 69, .binOp .eql 24 (.tmp 68) (.const (.int .i64 0)) 24, _, _, _, some (6, true)⟩) (v := _) rfl (by kernel_rfl) (by kernel_rfl) (by kernel_rfl) (fun _ _ _ h => h) (Or.inl ⟨by rfl, ?hy8⟩) (by assumption) ?rest8
        case hy8 => (intro w hSw; obtain s1 := hSw; go_simp <;> with_reducible rfl)
        case rest8 =>
        go_frame
        refine' wpAnyH_take (i := 9) (oi := ⟨some 70, .pick (.tmp 67) (.tmp 69) (.const (.bool false)), _, _, _, none⟩) (v := _) rfl (by kernel_rfl) (by kernel_rfl) (by kernel_rfl) (fun _ _ _ h => h) (Or.inl ⟨by rfl, ?hy9⟩) (by assumption) ?rest9
        case hy9 => (intro w hSw; obtain s1 := hSw; go_simp <;> with_reducible rfl)
        case rest9 =>
        go_frame
        refine' wpAnyH_take (i := 10) (oi := ⟨some 71, .move (.tmp 70), _, _, _, none⟩) (v := _) rfl (by kernel_rfl) (by kernel_rfl) (by kernel_rfl) (fun _ _ _ h => h) (Or.inl ⟨by rfl, ?hy10⟩) (by assumption) ?rest10
        case hy10 => (intro w hSw; obtain s1 := hSw; go_simp <;> with_reducible rfl)
        case rest10 =>
        go_frame
        refine' wpAnyH_take (i := 11) (oi := ⟨some 72, .move (.tmp 5), _, _, _, some (10, true)⟩) (v := _) rfl (by kernel_rfl) (by kernel_rfl) (by kernel_rfl) (fun _ _ _ h => h) (Or.inl ⟨by rfl, ?hy11⟩) (by assumption) ?rest11
        case hy11 => (intro w hSw; obtain s1 := hSw; go_simp <;> with_reducible rfl)
        case rest11 =>
        go_frame
        refine wpAnyH_ready (rs := [12]) (by kernel_rfl) (by simp) (AllReadyH.cons (o := ⟨some 73, .call { callee := .value (.func 13), args := #[.tmp 72], argTypes := #[23] }, _, _, _, some (10, true)⟩) rfl (fun K hK => ?_) AllReadyH.nil)
        rw [if_pos (by rfl)]
        go_simp
        refine (Hwait.out _ _ _ _ _ _ _ hd6 hb7').mono ?_
        rintro e w8 ⟨A8, c8, rfl, hb8⟩
        dsimp only
        have hb8' := up hb7' hb8
        refine hK.out _ _ (Hs6.out _ hb8') (fun hHeld => ?_)
        clear hK K
        refine' wpAnyH_take (i := 13) (oi := ⟨some 74, .call { callee := .builtin .len, args := #[.tmp 73], argTypes := #[32] }, _, _, _, some (10, true)⟩) (v := _) rfl (by kernel_rfl) (by kernel_rfl) (by kernel_rfl) (fun _ _ _ h => h) (Or.inl ⟨by rfl, ?hy13⟩) (by assumption) ?rest13
        case hy13 => (intro w hSw; obtain s1 := hSw; go_simp <;> with_reducible rfl)
        case rest13 =>
        go_frame
        refine' wpAnyH_take (i := 14) (oi := ⟨some 75, .binOp .eql 3 (.tmp 74) (.const (.int .i64 0)) 3, _, _, _, some (10, true)⟩) (v := _) rfl (by kernel_rfl) (by kernel_rfl) (by kernel_rfl) (fun _ _ _ h => h) (Or.inl ⟨by rfl, ?hy14⟩) (by assumption) ?rest14
        case hy14 => (intro w hSw; obtain s1 := hSw; go_simp <;> with_reducible rfl)
        case rest14 =>
        go_frame
        refine' wpAnyH_take (i := 15) (oi := ⟨some 76, .pick (.tmp 71) (.tmp 75) (.const (.bool false)), _, _, _, none⟩) (v := _) rfl (by kernel_rfl) (by kernel_rfl) (by kernel_rfl) (fun _ _ _ h => h) (Or.inl ⟨by rfl, ?hy15⟩) (by assumption) ?rest15
        case hy15 => (intro w hSw; obtain s1 := hSw; go_simp <;> with_reducible rfl)
        case rest15 =>
        go_frame
        refine' wpAnyH_take (i := 16) (oi := ⟨some 77, .move (.tmp 76), _, _, _, none⟩) (v := _) rfl (by kernel_rfl) (by kernel_rfl) (by kernel_rfl) (fun _ _ _ h => h) (Or.inl ⟨by rfl, ?hy16⟩) (by assumption) ?rest16
        case hy16 => (intro w hSw; obtain s1 := hSw; go_simp <;> with_reducible rfl)
        case rest16 =>
        go_frame
        refine wpAnyH_ready (rs := [17]) (by kernel_rfl) (by simp) (AllReadyH.cons (o := ⟨some 78, .call { callee := .value (.func 8), args := #[], argTypes := #[] }, _, _, _, some (16, true)⟩) rfl (fun K hK => ?_) AllReadyH.nil)
        rw [if_pos (by rfl)]
        go_simp
        refine (lives_any _).mono ?_
        rintro e w9 ⟨rfl, hb9⟩
        dsimp only
        have hb9' := up hb8' hb9
        refine hK.out _ _ (Hs6.out _ hb9') (fun hHeld => ?_)
        clear hK K
        refine' wpAnyH_take (i := 18) (oi := ⟨some 79, .pick (.tmp 77) (.tmp 78) (.const (.bool false)), _, _, _, none⟩) (v := _) rfl (by kernel_rfl) (by kernel_rfl) (by kernel_rfl) (fun _ _ _ h => h) (Or.inl ⟨by rfl, ?hy18⟩) (by assumption) ?rest18
        case hy18 => (intro w hSw; obtain s1 := hSw; go_simp <;> with_reducible rfl)
        case rest18 =>
        go_frame
        refine' wpAnyH_take (i := 19) (oi := ⟨some 4, .assign (.tmp 79), _, _, _, none⟩) (v := _) rfl (by kernel_rfl) (by kernel_rfl) (by kernel_rfl) (fun _ _ _ h => h) (Or.inl ⟨by rfl, ?hy19⟩) (by assumption) ?rest19
        case hy19 => (intro w hSw; obtain s1 := hSw; go_simp <;> with_reducible rfl)
        case rest19 =>
        go_frame
        refine wpAnyH_done (by kernel_rfl) ?_ _
        go_wp2_with fail
        go_ret
        exact ⟨rfl, up (HBelow.out _ ho6) hb9'⟩
      · have hcell : ∀ w', Only F w w' → True := fun _ _ => trivial
        have Hcell := Lib.hid hcell
        clear hcell hjm2
        subst hx
        have Hfull0 : Hid (∀ w1, Calls Try.prog 21 #[.int .u8 0] w1 fun e w' => ∃ g, e = .returned (.slice (some ⟨g, 0, none⟩) 256 256) ∧ (convert 42 9 (.slice (some ⟨g, 0, none⟩) 256 256)).run Try.prog w' = .ok (.string X) w' ∧ Below w1.heap.size w1 w') := Hfull
        go_wp2_with (first
          | (go_at_call 16; refine (Hcrash.out _ _ _ _ _ _ hd ho).mono ?_; rintro e w5 ⟨S5, D5, rfl, hd5, ho5⟩; have hcell := Hcell.out _ ho5)
          | (go_at_call 18; refine (Hread.out _ _ _ _ _ _ hd5 ho5).mono ?_; rintro e w6 ⟨g6, rfl, hs6, hd6, ho6⟩))
        have Hs6 := Lib.hid hs6
        have he0 := Hs6.out _ (up_drew (Below.refl _ _))
        clear hs6
        refine wp_region_held_drew (S := fun w' => (convert 42 9 (.slice (some ⟨g6, 0, none⟩) 256 256)).run Try.prog w' = .ok (.string X) w') (by kernel_rfl) ?_ (fun hHeld => ?_)
        · exact he0
        refine' wpAnyH_take (i := 0) (oi := ⟨some 61, .move (.tmp 9), _, _, _, none⟩) (v := _) rfl (by kernel_rfl) (by kernel_rfl) (by kernel_rfl) (fun _ _ _ h => h) (Or.inl ⟨by rfl, ?hy0⟩) (by assumption) ?rest0
        case hy0 => (intro w hSw; obtain s1 := hSw; go_simp <;> with_reducible rfl)
        case rest0 =>
        go_frame
        refine' wpAnyH_take (i := 1) (oi := ⟨some 62, .convert 42 9 (.tmp 61), _, _, _, none⟩) (v := .string X) rfl (by kernel_rfl) (by kernel_rfl) (by kernel_rfl) (fun _ _ _ h => h) (Or.inl ⟨by rfl, ?hy1⟩) (by assumption) ?rest1
        case hy1 => (intro w hSw; exact exec_convert (s := 42) (t := 9) (x := .tmp 61) rfl (v := .slice (some ⟨g6, 0, none⟩) 256 256) rfl hSw)
        case rest1 =>
        go_frame
        refine' wpAnyH_take (i := 2) (oi := ⟨some 63, .move (.tmp 8), _, _, _, none⟩) (v := _) rfl (by kernel_rfl) (by kernel_rfl) (by kernel_rfl) (fun _ _ _ h => h) (Or.inl ⟨by rfl, ?hy2⟩) (by assumption) ?rest2
        case hy2 => (intro w hSw; obtain s1 := hSw; go_simp <;> with_reducible rfl)
        case rest2 =>
        go_frame
        refine wpAnyH_ready (rs := [3]) (by kernel_rfl) (by simp) (AllReadyH.cons (o := ⟨some 64, .call { callee := .value (.func 21), args := #[.tmp 63], argTypes := #[5] }, _, _, _, none⟩) rfl (fun K hK => ?_) AllReadyH.nil)
        rw [if_pos (by rfl)]
        go_simp
        refine (Hfull0.out _).mono ?_
        rintro e w7 ⟨g7, rfl, he7, hb7⟩
        dsimp only
        have hb7' := up (up_drew (Below.refl w6.heap.size w6)) hb7
        refine hK.out _ _ (Hs6.out _ hb7') (fun hHeld => ?_)
        clear hK K
        refine wpAnyH_ready (rs := [4]) (by kernel_rfl) (by simp) (AllReadyH.cons (o := ⟨some 65, .convert 42 9 (.tmp 64), _, _, _, none⟩) rfl (fun K hK => ?_) AllReadyH.nil)
        rw [if_pos (by rfl)]
        refine wp_run (.string X) w7 (exec_convert (s := 42) (t := 9) (x := .tmp 64) rfl (v := .slice (some ⟨g7, 0, none⟩) 256 256) rfl he7) ?_
        refine hK.out _ _ hHeld (fun hHeld => ?_)
        clear hK K
        go_frame
        refine' wpAnyH_take (i := 5) (oi := ⟨some 66, .binOp .eql 9 (.tmp 62) (.tmp 65) 9, _, _, _, none⟩) (v := _) rfl (by kernel_rfl) (by kernel_rfl) (by kernel_rfl) (fun _ _ _ h => h) (Or.inl ⟨by rfl, ?hy5⟩) (by assumption) ?rest5
        case hy5 => (intro w hSw; obtain s1 := hSw; go_simp <;> with_reducible rfl)
        case rest5 =>
        go_frame
        refine' wpAnyH_take (i := 6) (oi := ⟨some 67, .move (.tmp 66), _, _, _, none⟩) (v := _) rfl (by kernel_rfl) (by kernel_rfl) (by kernel_rfl) (fun _ _ _ h => h) (Or.inl ⟨by rfl, ?hy6⟩) (by assumption) ?rest6
        case hy6 => (intro w hSw; obtain s1 := hSw; go_simp <;> with_reducible rfl)
        case rest6 =>
        go_frame
        refine' wpAnyH_take (i := 7) (oi := ⟨some 68, .move (.tmp 10), _, _, _, some (6, true)⟩) (v := _) rfl (by kernel_rfl) (by kernel_rfl) (by kernel_rfl) (fun _ _ _ h => h) (Or.inl ⟨by rfl, ?hy7⟩) (by assumption) ?rest7
        case hy7 => (intro w hSw; obtain s1 := hSw; go_simp <;> with_reducible rfl)
        case rest7 =>
        go_frame
        refine' wpAnyH_take (i := 8) (oi := ⟨some 69, .binOp .eql 24 (.tmp 68) (.const (.int .i64 0)) 24, _, _, _, some (6, true)⟩) (v := _) rfl (by kernel_rfl) (by kernel_rfl) (by kernel_rfl) (fun _ _ _ h => h) (Or.inl ⟨by rfl, ?hy8⟩) (by assumption) ?rest8
        case hy8 => (intro w hSw; obtain s1 := hSw; go_simp <;> with_reducible rfl)
        case rest8 =>
        go_frame
        refine' wpAnyH_take (i := 9) (oi := ⟨some 70, .pick (.tmp 67) (.tmp 69) (.const (.bool false)), _, _, _, none⟩) (v := _) rfl (by kernel_rfl) (by kernel_rfl) (by kernel_rfl) (fun _ _ _ h => h) (Or.inl ⟨by rfl, ?hy9⟩) (by assumption) ?rest9
        case hy9 => (intro w hSw; obtain s1 := hSw; go_simp <;> with_reducible rfl)
        case rest9 =>
        go_frame
        refine' wpAnyH_take (i := 10) (oi := ⟨some 71, .move (.tmp 70), _, _, _, none⟩) (v := _) rfl (by kernel_rfl) (by kernel_rfl) (by kernel_rfl) (fun _ _ _ h => h) (Or.inl ⟨by rfl, ?hy10⟩) (by assumption) ?rest10
        case hy10 => (intro w hSw; obtain s1 := hSw; go_simp <;> with_reducible rfl)
        case rest10 =>
        go_frame
        refine' wpAnyH_take (i := 11) (oi := ⟨some 72, .move (.tmp 5), _, _, _, some (10, true)⟩) (v := _) rfl (by kernel_rfl) (by kernel_rfl) (by kernel_rfl) (fun _ _ _ h => h) (Or.inl ⟨by rfl, ?hy11⟩) (by assumption) ?rest11
        case hy11 => (intro w hSw; obtain s1 := hSw; go_simp <;> with_reducible rfl)
        case rest11 =>
        go_frame
        refine wpAnyH_ready (rs := [12]) (by kernel_rfl) (by simp) (AllReadyH.cons (o := ⟨some 73, .call { callee := .value (.func 13), args := #[.tmp 72], argTypes := #[23] }, _, _, _, some (10, true)⟩) rfl (fun K hK => ?_) AllReadyH.nil)
        rw [if_pos (by rfl)]
        go_simp
        refine (Hwait.out _ _ _ _ _ _ _ hd6 hb7').mono ?_
        rintro e w8 ⟨A8, c8, rfl, hb8⟩
        dsimp only
        have hb8' := up hb7' hb8
        refine hK.out _ _ (Hs6.out _ hb8') (fun hHeld => ?_)
        clear hK K
        refine' wpAnyH_take (i := 13) (oi := ⟨some 74, .call { callee := .builtin .len, args := #[.tmp 73], argTypes := #[32] }, _, _, _, some (10, true)⟩) (v := _) rfl (by kernel_rfl) (by kernel_rfl) (by kernel_rfl) (fun _ _ _ h => h) (Or.inl ⟨by rfl, ?hy13⟩) (by assumption) ?rest13
        case hy13 => (intro w hSw; obtain s1 := hSw; go_simp <;> with_reducible rfl)
        case rest13 =>
        go_frame
        refine' wpAnyH_take (i := 14) (oi := ⟨some 75, .binOp .eql 3 (.tmp 74) (.const (.int .i64 0)) 3, _, _, _, some (10, true)⟩) (v := _) rfl (by kernel_rfl) (by kernel_rfl) (by kernel_rfl) (fun _ _ _ h => h) (Or.inl ⟨by rfl, ?hy14⟩) (by assumption) ?rest14
        case hy14 => (intro w hSw; obtain s1 := hSw; go_simp <;> with_reducible rfl)
        case rest14 =>
        go_frame
        refine' wpAnyH_take (i := 15) (oi := ⟨some 76, .pick (.tmp 71) (.tmp 75) (.const (.bool false)), _, _, _, none⟩) (v := _) rfl (by kernel_rfl) (by kernel_rfl) (by kernel_rfl) (fun _ _ _ h => h) (Or.inl ⟨by rfl, ?hy15⟩) (by assumption) ?rest15
        case hy15 => (intro w hSw; obtain s1 := hSw; go_simp <;> with_reducible rfl)
        case rest15 =>
        go_frame
        refine' wpAnyH_take (i := 16) (oi := ⟨some 77, .move (.tmp 76), _, _, _, none⟩) (v := _) rfl (by kernel_rfl) (by kernel_rfl) (by kernel_rfl) (fun _ _ _ h => h) (Or.inl ⟨by rfl, ?hy16⟩) (by assumption) ?rest16
        case hy16 => (intro w hSw; obtain s1 := hSw; go_simp <;> with_reducible rfl)
        case rest16 =>
        go_frame
        refine wpAnyH_ready (rs := [17]) (by kernel_rfl) (by simp) (AllReadyH.cons (o := ⟨some 78, .call { callee := .value (.func 8), args := #[], argTypes := #[] }, _, _, _, some (16, true)⟩) rfl (fun K hK => ?_) AllReadyH.nil)
        rw [if_pos (by rfl)]
        go_simp
        refine (lives_any _).mono ?_
        rintro e w9 ⟨rfl, hb9⟩
        dsimp only
        have hb9' := up hb8' hb9
        refine hK.out _ _ (Hs6.out _ hb9') (fun hHeld => ?_)
        clear hK K
        refine' wpAnyH_take (i := 18) (oi := ⟨some 79, .pick (.tmp 77) (.tmp 78) (.const (.bool false)), _, _, _, none⟩) (v := _) rfl (by kernel_rfl) (by kernel_rfl) (by kernel_rfl) (fun _ _ _ h => h) (Or.inl ⟨by rfl, ?hy18⟩) (by assumption) ?rest18
        case hy18 => (intro w hSw; obtain s1 := hSw; go_simp <;> with_reducible rfl)
        case rest18 =>
        go_frame
        refine' wpAnyH_take (i := 19) (oi := ⟨some 4, .assign (.tmp 79), _, _, _, none⟩) (v := _) rfl (by kernel_rfl) (by kernel_rfl) (by kernel_rfl) (fun _ _ _ h => h) (Or.inl ⟨by rfl, ?hy19⟩) (by assumption) ?rest19
        case hy19 => (intro w hSw; obtain s1 := hSw; go_simp <;> with_reducible rfl)
        case rest19 =>
        go_frame
        refine wpAnyH_done (by kernel_rfl) ?_ _
        go_wp2_with fail
        go_ret
        exact ⟨rfl, up (HBelow.out _ ho6) hb9'⟩
theorem devKept_walk (v : Value) (l : List UInt8) (k : Int) (w : World) (h : Rd w w.heap.size v (cellsB l)) (wk : (Lit.int .i64 k).wf = true) :
    Calls Try.prog 5 #[v, .int .i64 k] w fun e w' => e = .returned (.bool true) ∧ Below w.heap.size w w' := by
  obtain ⟨A, c, rfl, _, _, h⟩ := h.bytes
  by_cases h20 : 20 < l.length
  · exact kept_big A c l.length l (l.take 20) k w h ⟨rfl, h20, rfl⟩ wk
  · exact kept_small A c l.length l l k w h ⟨rfl, by omega, rfl⟩ wk
end Go.Proofs.Ytmifaneolfciiaa
