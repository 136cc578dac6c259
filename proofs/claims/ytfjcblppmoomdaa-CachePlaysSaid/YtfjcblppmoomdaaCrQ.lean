/-
  CachePlays: one act, done to both caches: they tell the same, and stay alike.
-/
import Derived.Test.YtfjcblppmoomdaaCrP
import Derived.Deep.RegionHeld3
namespace Go.Proofs.Ytfjcblppmoomdaa
open Go.RowKit
/-- Behind an act. -/
structure Past (E : Nat → Prop) (w w' : World) (c bf p q r bg cap : Nat) (rest : List Value) (x : Cch) (d : Dev) (j : Nat) : Prop where
  two : Two E w' c bf p q r bg cap rest x d x d
  st : St x d j
  only : Only E w w'
section
variable {w w' : World} {E E' F F' : Nat → Prop} {c bf p q r bg cap j : Nat} {rest : List Value} {x y x' y' : Cch} {d d' e e' : Dev}
/-- The act, laid into a block of its own. -/
theorem Two.boxed (h : Two E w c bf p q r bg cap rest x d y e) (hE : ∀ k, w.heap.size ≤ k → E k) (u0 u1 u2 : Value) :
    ∃ E1 : Nat → Prop, (∀ k, E1 k → E k) ∧ Two E1 (w.alloc (.cells #[u0, u1, u2] 37)) c bf p q r bg cap rest x d y e ∧ (∀ k, (w.alloc (.cells #[u0, u1, u2] 37)).heap.size ≤ k → E1 k) ∧ (∀ w', Only E1 (w.alloc (.cells #[u0, u1, u2] 37)) w' → Only E w w') ∧
      (∀ w', Only E1 (w.alloc (.cells #[u0, u1, u2] 37)) w' → w'.cell? ⟨w.heap.size, 0, none⟩ = some u0 ∧ w'.cell? ⟨w.heap.size, 1, none⟩ = some u1 ∧ w'.cell? ⟨w.heap.size, 2, none⟩ = some u2) := by
  refine ⟨fun k => E k ∧ k ≠ w.heap.size, fun k hk => hk.1, h.far ((Below.refl _ _).alloc (Nat.le_refl _) _) (Nat.le_refl _), fun k hk => ?_, fun w' ho => (Only.alloc E w _).trans (ho.wider fun k hk => hk.1), fun w' ho => ?_⟩
  · rw [World.size_alloc] at hk
    exact ⟨hE k (by omega), by omega⟩
  · have hb : w'.heap[w.heap.size]? = some (.cells #[u0, u1, u2] 37 (0, 0)) := (ho.block w.heap.size (by simp) fun e => e.2 rfl).trans (heap_alloc_last _ _)
    exact ⟨cell_of_row w' _ 0 _ _ (0, 0) hb, cell_of_row w' _ 1 _ _ (0, 0) hb, cell_of_row w' _ 2 _ _ (0, 0) hb⟩
theorem Rd.still {F : Nat → Prop} {v : Value} {l : List Value} (h : Rd w w.heap.size v l) (ho : Only F w w') (hv : ∀ g, v.ownBlock = some g → ¬ F g) : Rd w' w.heap.size v l := by
  obtain ⟨A, c, rfl, h1, h2, h3, h4⟩ := h
  refine ⟨A, c, rfl, h1, h2, h3, fun hp => ?_⟩
  obtain ⟨b, o, rfl, hb, hc⟩ := h4 hp
  refine ⟨b, o, rfl, hb, fun j u hu => ?_⟩
  rw [World.cell?_of_block (a := ⟨b, o + j, none⟩) (ho.block b hb (hv b rfl))]
  exact hc j u hu
set_option maxRecDepth 100000 in
set_option maxHeartbeats 1600000 in
theorem does1 (h : Two E w c bf p q r bg cap rest x d x d) (hs : St x d j) (hj : j < 60) (hE : ∀ k, w.heap.size ≤ k → E k) (no : Int) (b : UInt8) :
    Calls Try.prog 13 #[at0 c, at0 p, at0 r, .agg #[.int .i64 1, .int .i64 no, .int .u8 (b.toNat : Int)]] w fun ee w' => ee = .returned (.bool true) ∧ ∃ x' d', Past E w w' c bf p q r bg cap rest x' d' (j + 1) := by
  obtain ⟨E1, g0, g1, g2, g3, g4⟩ := h.boxed hE (.int .i64 1) (.int .i64 no) (.int .u8 (b.toNat : Int))
  obtain ⟨w1, hw1⟩ : ∃ w1, w1 = (w.alloc (.cells #[.int .i64 1, .int .i64 no, .int .u8 (b.toNat : Int)] 37)) := ⟨_, rfl⟩
  rw [← hw1] at g1 g2 g3 g4
  obtain ⟨k0, k1, k2⟩ := g4 w1 (Only.refl _ _)
  rw [hw1] at k0 k1 k2
  have Hw1 := Lib.hid hw1
  have gE := g2
  obtain ⟨l, hl⟩ : ∃ l, l = List.replicate 256 b := ⟨_, rfl⟩
  have hll : l.length = 256 := by rw [hl]; simp
  obtain ⟨z, hz⟩ : ∃ z, z = x.put d no l := ⟨_, rfl⟩
  have hst : St z.2.1 z.2.2 (j + 1) := by rw [hz]; exact hs.put no l
  have HFull := Lib.hid fun w2 : World => cfull_any b w2
  rw [← hl] at HFull
  have HP : Hid (∀ (w2 : World) (g2 : Nat), Below w1.heap.size w1 w2 → w1.heap.size ≤ g2 → w2.heap[g2]? = some (.cells (cellsB l).toArray 5 (0, 0)) → Calls Try.prog 22 #[at0 c, .int .i64 no, .slice (some ⟨g2, 0, none⟩) 256 256] w2 fun ee w' => ee = .returned (.int .i64 z.1) ∧ Two E1 w' c bf p q r bg cap rest z.2.1 z.2.2 x d ∧ Only E1 w1 w') := Lib.hid (by
    intro w2 g2 hb hg hc
    have hlt := (Array.getElem?_eq_some_iff.1 hc).1
    have := (g1.far hb hg).pPut (fun k hk => ⟨gE k (Nat.le_trans hb.size hk), by omega⟩) hs (by omega) no hll hc (fun hh => hh.2 rfl)
    rw [← hz] at this
    refine this.mono ?_
    rintro ee w' ⟨rfl, a1, a2⟩
    exact ⟨rfl, a1.wide fun k _ hk => hk.1, (Only.of_below hb).trans (a2.wider fun k hk => hk.1)⟩)
  have HX : Hid (∀ (w3 w4 : World) (g4 : Nat), Two E1 w3 c bf p q r bg cap rest z.2.1 z.2.2 x d → Only E1 w1 w3 → Below w3.heap.size w3 w4 → w3.heap.size ≤ g4 → w4.heap[g4]? = some (.cells (cellsB l).toArray 5 (0, 0)) → Calls Try.prog 30 #[at0 r, .int .i64 no, .slice (some ⟨g4, 0, none⟩) 256 256] w4 fun ee w' => ee = .returned (.int .i64 z.1) ∧ Two E1 w' c bf p q r bg cap rest z.2.1 z.2.2 z.2.1 z.2.2 ∧ Only E1 w1 w') := Lib.hid (by
    intro w3 w4 g4 ht ho hb hg hc
    have hlt := (Array.getElem?_eq_some_iff.1 hc).1
    have := (ht.far hb hg).xPut (fun k hk => ⟨gE k (Nat.le_trans ho.size (Nat.le_trans hb.size hk)), by omega⟩) hs (by omega) no hll hc (fun hh => hh.2 rfl)
    rw [← hz] at this
    refine this.mono ?_
    rintro ee w' ⟨rfl, a1, a2⟩
    exact ⟨rfl, a1.wide fun k _ hk => hk.1, ho.trans ((Only.of_below hb).trans (a2.wider fun k hk => hk.1))⟩)
  have HS : Hid (∀ w', Only E1 w1 w' → w'.cell? ⟨w.heap.size, 1, none⟩ = some (.int .i64 no) ∧ w'.cell? ⟨w.heap.size, 2, none⟩ = some (.int .u8 (b.toNat : Int))) := Lib.hid fun w' ho => (g4 w' ho).2
  have Hfin : Hid (∀ w5 x' d', Two E1 w5 c bf p q r bg cap rest x' d' x' d' → St x' d' (j + 1) → Only E1 w1 w5 → ∃ x' d', Past E w w5 c bf p q r bg cap rest x' d' (j + 1)) := Lib.hid fun w5 x' d' a1 a2 a3 => ⟨x', d', a1.wide fun k _ hk => g0 k hk, a2, g3 w5 a3⟩
  have Hst := Lib.hid hst
  obtain ⟨t, ht⟩ : ∃ t, t = z.1 := ⟨_, rfl⟩
  rw [← ht] at HP HX
  clear gE h hs hj hE g0 g1 g2 g3 g4 hz hl hll hst ht hw1
  go_enter Try.func13, Try.ntmps13
  go_wp2_with fail
  rw [← Hw1.out] at k0 k1 k2
  rw [← Hw1.out]
  refine wp_region_held_drew (S := fun w' => w'.cell? ⟨w.heap.size, 1, none⟩ = some (.int .i64 no) ∧ w'.cell? ⟨w.heap.size, 2, none⟩ = some (.int .u8 (b.toNat : Int))) (by kernel_rfl) ⟨k1, k2⟩ (fun hHeld => ?_)
  refine' wpAnyH_take (i := 0) (oi := ⟨some 41, .move (.tmp 0), _, _, _, none⟩) (v := _) rfl (by kernel_rfl) (by kernel_rfl) (by kernel_rfl) (fun _ _ _ h => h) (Or.inl ⟨by rfl, ?hy1⟩) (by assumption) ?rest1
  case hy1 => (intro w hSw; obtain ⟨s1, s2⟩ := hSw; go_simp <;> with_reducible rfl)
  case rest1 =>
  go_frame
  refine' wpAnyH_take (i := 1) (oi := ⟨some 42, .fieldAddr 37 (.tmp 7) 1, _, _, _, none⟩) (v := _) rfl (by kernel_rfl) (by kernel_rfl) (by kernel_rfl) (fun _ _ _ h => h) (Or.inl ⟨by rfl, ?hy2⟩) (by assumption) ?rest2
  case hy2 => (intro w hSw; obtain ⟨s1, s2⟩ := hSw; go_simp <;> with_reducible rfl)
  case rest2 =>
  go_frame
  refine' wpAnyH_take (i := 2) (oi := ⟨some 43, .load 3 (.tmp 42), _, _, _, none⟩) (v := _) rfl (by kernel_rfl) (by kernel_rfl) (by kernel_rfl) (fun _ _ _ h => h) (Or.inl ⟨by rfl, ?hy3⟩) (by assumption) ?rest3
  case hy3 => (intro w hSw; obtain ⟨s1, s2⟩ := hSw; go_simp <;> with_reducible rfl)
  case rest3 =>
  go_frame
  refine' wpAnyH_take (i := 3) (oi := ⟨some 44, .fieldAddr 37 (.tmp 7) 2, _, _, _, none⟩) (v := _) rfl (by kernel_rfl) (by kernel_rfl) (by kernel_rfl) (fun _ _ _ h => h) (Or.inl ⟨by rfl, ?hy4⟩) (by assumption) ?rest4
  case hy4 => (intro w hSw; obtain ⟨s1, s2⟩ := hSw; go_simp <;> with_reducible rfl)
  case rest4 =>
  go_frame
  refine' wpAnyH_take (i := 4) (oi := ⟨some 45, .load 5 (.tmp 44), _, _, _, none⟩) (v := _) rfl (by kernel_rfl) (by kernel_rfl) (by kernel_rfl) (fun _ _ _ h => h) (Or.inl ⟨by rfl, ?hy5⟩) (by assumption) ?rest5
  case hy5 => (intro w hSw; obtain ⟨s1, s2⟩ := hSw; go_simp <;> with_reducible rfl)
  case rest5 =>
  go_frame
  refine' wpAnyH_take (i := 7) (oi := ⟨some 48, .move (.tmp 2), _, _, _, none⟩) (v := _) rfl (by kernel_rfl) (by kernel_rfl) (by kernel_rfl) (fun _ _ _ h => h) (Or.inl ⟨by rfl, ?hy6⟩) (by assumption) ?rest6
  case hy6 => (intro w hSw; obtain ⟨s1, s2⟩ := hSw; go_simp <;> with_reducible rfl)
  case rest6 =>
  go_frame
  refine' wpAnyH_take (i := 8) (oi := ⟨some 49, .fieldAddr 37 (.tmp 7) 1, _, _, _, none⟩) (v := _) rfl (by kernel_rfl) (by kernel_rfl) (by kernel_rfl) (fun _ _ _ h => h) (Or.inl ⟨by rfl, ?hy7⟩) (by assumption) ?rest7
  case hy7 => (intro w hSw; obtain ⟨s1, s2⟩ := hSw; go_simp <;> with_reducible rfl)
  case rest7 =>
  go_frame
  refine' wpAnyH_take (i := 9) (oi := ⟨some 50, .load 3 (.tmp 49), _, _, _, none⟩) (v := _) rfl (by kernel_rfl) (by kernel_rfl) (by kernel_rfl) (fun _ _ _ h => h) (Or.inl ⟨by rfl, ?hy8⟩) (by assumption) ?rest8
  case hy8 => (intro w hSw; obtain ⟨s1, s2⟩ := hSw; go_simp <;> with_reducible rfl)
  case rest8 =>
  go_frame
  refine' wpAnyH_take (i := 10) (oi := ⟨some 51, .fieldAddr 37 (.tmp 7) 2, _, _, _, none⟩) (v := _) rfl (by kernel_rfl) (by kernel_rfl) (by kernel_rfl) (fun _ _ _ h => h) (Or.inl ⟨by rfl, ?hy9⟩) (by assumption) ?rest9
  case hy9 => (intro w hSw; obtain ⟨s1, s2⟩ := hSw; go_simp <;> with_reducible rfl)
  case rest9 =>
  go_frame
  refine' wpAnyH_take (i := 11) (oi := ⟨some 52, .load 5 (.tmp 51), _, _, _, none⟩) (v := _) rfl (by kernel_rfl) (by kernel_rfl) (by kernel_rfl) (fun _ _ _ h => h) (Or.inl ⟨by rfl, ?hy10⟩) (by assumption) ?rest10
  case hy10 => (intro w hSw; obtain ⟨s1, s2⟩ := hSw; go_simp <;> with_reducible rfl)
  case rest10 =>
  go_frame
  refine wpAnyH_ready (rs := [5]) (by kernel_rfl) (by simp) (AllReadyH.cons (o := ⟨some 46, .call { callee := .value (.func 23), args := #[.tmp 45], argTypes := #[5] }, _, _, _, none⟩) rfl (fun K hK => ?_) AllReadyH.nil)
  rw [if_pos (by rfl)]
  go_simp
  refine (HFull.out _).mono ?_
  rintro e w2 ⟨gb, rfl, hgb, hcb, hb2⟩
  have hb2d : Below w1.heap.size w1 w2 := (up_drew (Below.refl w1.heap.size w1)).trans hb2
  have S2 := Lib.hid (HS.out w2 (Only.of_below hb2d))
  have HPb := Lib.hid (HP.out w2 gb hb2d hgb hcb)
  clear hgb hcb hb2 hb2d
  dsimp only
  refine hK.out _ _ (S2.out) (fun _ => ?_)
  clear hK K
  try go_frame
  refine wpAnyH_ready (rs := [6]) (by kernel_rfl) (by simp) (AllReadyH.cons (o := ⟨some 47, .call { callee := .value (.func 22), args := #[.tmp 41, .tmp 43, .tmp 46], argTypes := #[27, 3, 51] }, _, _, _, none⟩) rfl (fun K hK => ?_) AllReadyH.nil)
  rw [if_pos (by rfl)]
  go_simp
  refine (HPb.out).mono ?_
  rintro e w3 ⟨rfl, ht3, ho3⟩
  have S3 := Lib.hid (HS.out w3 ho3)
  have Ht3 := Lib.hid ht3
  have Ho3 := Lib.hid ho3
  clear ht3 ho3
  dsimp only
  refine hK.out _ _ (S3.out) (fun _ => ?_)
  clear hK K
  try go_frame
  refine wpAnyH_ready (rs := [12]) (by kernel_rfl) (by simp) (AllReadyH.cons (o := ⟨some 53, .call { callee := .value (.func 23), args := #[.tmp 52], argTypes := #[5] }, _, _, _, none⟩) rfl (fun K hK => ?_) AllReadyH.nil)
  rw [if_pos (by rfl)]
  go_simp
  refine (HFull.out _).mono ?_
  rintro e w4 ⟨gb4, rfl, hgb, hcb, hb4⟩
  have S4 := Lib.hid (HS.out w4 (Ho3.out.trans (Only.of_below hb4)))
  have HXb := Lib.hid (HX.out w3 w4 gb4 Ht3.out Ho3.out hb4 hgb hcb)
  clear hgb hcb hb4
  dsimp only
  refine hK.out _ _ (S4.out) (fun _ => ?_)
  clear hK K
  try go_frame
  refine wpAnyH_ready (rs := [13]) (by kernel_rfl) (by simp) (AllReadyH.cons (o := ⟨some 54, .call { callee := .value (.func 30), args := #[.tmp 48, .tmp 50, .tmp 53], argTypes := #[31, 3, 51] }, _, _, _, none⟩) rfl (fun K hK => ?_) AllReadyH.nil)
  rw [if_pos (by rfl)]
  go_simp
  refine (HXb.out).mono ?_
  rintro e w5 ⟨rfl, ht5, ho5⟩
  have S5 := Lib.hid (HS.out w5 ho5)
  have Ht5 := Lib.hid ht5
  have Ho5 := Lib.hid ho5
  clear ht5 ho5
  dsimp only
  refine hK.out _ _ (S5.out) (fun _ => ?_)
  clear hK K
  try go_frame
  refine' wpAnyH_take (i := 14) (oi := ⟨some 55, .binOp .eql 24 (.tmp 47) (.tmp 54) 24, _, _, _, none⟩) (v := _) rfl (by kernel_rfl) (by kernel_rfl) (by kernel_rfl) (fun _ _ _ h => h) (Or.inl ⟨by rfl, ?hy11⟩) (by assumption) ?rest11
  case hy11 => (intro w hSw; obtain ⟨s1, s2⟩ := hSw; go_simp <;> with_reducible rfl)
  case rest11 =>
  go_frame
  refine' wpAnyH_take (i := 15) (oi := ⟨some 8, .assign (.tmp 55), _, _, _, none⟩) (v := _) rfl (by kernel_rfl) (by kernel_rfl) (by kernel_rfl) (fun _ _ _ h => h) (Or.inl ⟨by rfl, ?hy12⟩) (by assumption) ?rest12
  case hy12 => (intro w hSw; obtain ⟨s1, s2⟩ := hSw; go_simp <;> with_reducible rfl)
  case rest12 =>
  go_frame
  refine wpAnyH_done (by kernel_rfl) ?_ _
  go_wp2_with fail
  go_ret
  exact ⟨by simp, Hfin.out _ _ _ Ht5.out Hst.out Ho5.out⟩
set_option maxRecDepth 100000 in
set_option maxHeartbeats 1600000 in
theorem does2 (h : Two E w c bf p q r bg cap rest x d x d) (hs : St x d j) (hj : j < 60) (hE : ∀ k, w.heap.size ≤ k → E k) (no : Int) (b : UInt8) :
    Calls Try.prog 13 #[at0 c, at0 p, at0 r, .agg #[.int .i64 2, .int .i64 no, .int .u8 (b.toNat : Int)]] w fun ee w' => ee = .returned (.bool true) ∧ ∃ x' d', Past E w w' c bf p q r bg cap rest x' d' (j + 1) := by
  obtain ⟨E1, g0, g1, g2, g3, g4⟩ := h.boxed hE (.int .i64 2) (.int .i64 no) (.int .u8 (b.toNat : Int))
  obtain ⟨w1, hw1⟩ : ∃ w1, w1 = (w.alloc (.cells #[.int .i64 2, .int .i64 no, .int .u8 (b.toNat : Int)] 37)) := ⟨_, rfl⟩
  rw [← hw1] at g1 g2 g3 g4
  obtain ⟨k0, k1, k2⟩ := g4 w1 (Only.refl _ _)
  rw [hw1] at k0 k1 k2
  have Hw1 := Lib.hid hw1
  have HP : Hid (Calls Try.prog 27 #[at0 c, .int .i64 no] w1.drew fun ee w' => ee = .returned (.bool (x.pin no).1) ∧ Two E1 w' c bf p q r bg cap rest (x.pin no).2 d x d ∧ Only E1 w1 w') := Lib.hid (by
    refine (g1.drew.pPin (fun k hk => g2 k hk) hs (by omega) no).mono ?_
    rintro ee w' ⟨rfl, a1, a2⟩
    exact ⟨rfl, a1, (Only.drew _ _).trans a2⟩)
  have HX : Hid (∀ w3, Two E1 w3 c bf p q r bg cap rest (x.pin no).2 d x d → Only E1 w1 w3 → Calls Try.prog 31 #[at0 r, .int .i64 no, .int .i64 1] w3 fun ee w' => ee = .returned (.bool (x.pin no).1) ∧ Two E1 w' c bf p q r bg cap rest (x.pin no).2 d (x.pin no).2 d ∧ Only E1 w1 w') := Lib.hid (by
    intro w3 ht ho
    have := ht.xPin (fun k hk => g2 k (Nat.le_trans ho.size hk)) hs (by omega) no (s := 1) (.inl rfl)
    rw [pinBy_one] at this
    refine this.mono ?_
    rintro ee w' ⟨rfl, a1, a2⟩
    exact ⟨rfl, a1, ho.trans a2⟩)
  have Hst : Hid (St (x.pin no).2 d (j + 1)) := Lib.hid (hs.pin no)
  have HS : Hid (∀ w', Only E1 w1 w' → w'.cell? ⟨w.heap.size, 1, none⟩ = some (.int .i64 no) ∧ w'.cell? ⟨w.heap.size, 2, none⟩ = some (.int .u8 (b.toNat : Int))) := Lib.hid fun w' ho => (g4 w' ho).2
  have Hfin : Hid (∀ w5 x' d', Two E1 w5 c bf p q r bg cap rest x' d' x' d' → St x' d' (j + 1) → Only E1 w1 w5 → ∃ x' d', Past E w w5 c bf p q r bg cap rest x' d' (j + 1)) := Lib.hid fun w5 x' d' a1 a2 a3 => ⟨x', d', a1.wide fun k _ hk => g0 k hk, a2, g3 w5 a3⟩
  clear h hs hj hE g0 g1 g2 g3 g4 hw1
  go_enter Try.func13, Try.ntmps13
  go_wp2_with fail
  rw [← Hw1.out] at k0 k1 k2
  rw [← Hw1.out]
  refine wp_region_held_drew (S := fun w' => w'.cell? ⟨w.heap.size, 1, none⟩ = some (.int .i64 no) ∧ w'.cell? ⟨w.heap.size, 2, none⟩ = some (.int .u8 (b.toNat : Int))) (by kernel_rfl) ⟨k1, k2⟩ (fun hHeld => ?_)
  refine' wpAnyH_take (i := 0) (oi := ⟨some 58, .move (.tmp 0), _, _, _, none⟩) (v := _) rfl (by kernel_rfl) (by kernel_rfl) (by kernel_rfl) (fun _ _ _ h => h) (Or.inl ⟨by rfl, ?hy13⟩) (by assumption) ?rest13
  case hy13 => (intro w hSw; obtain ⟨s1, s2⟩ := hSw; go_simp <;> with_reducible rfl)
  case rest13 =>
  go_frame
  refine' wpAnyH_take (i := 1) (oi := ⟨some 59, .fieldAddr 37 (.tmp 7) 1, _, _, _, none⟩) (v := _) rfl (by kernel_rfl) (by kernel_rfl) (by kernel_rfl) (fun _ _ _ h => h) (Or.inl ⟨by rfl, ?hy14⟩) (by assumption) ?rest14
  case hy14 => (intro w hSw; obtain ⟨s1, s2⟩ := hSw; go_simp <;> with_reducible rfl)
  case rest14 =>
  go_frame
  refine' wpAnyH_take (i := 2) (oi := ⟨some 60, .load 3 (.tmp 59), _, _, _, none⟩) (v := _) rfl (by kernel_rfl) (by kernel_rfl) (by kernel_rfl) (fun _ _ _ h => h) (Or.inl ⟨by rfl, ?hy15⟩) (by assumption) ?rest15
  case hy15 => (intro w hSw; obtain ⟨s1, s2⟩ := hSw; go_simp <;> with_reducible rfl)
  case rest15 =>
  go_frame
  refine' wpAnyH_take (i := 4) (oi := ⟨some 62, .move (.tmp 2), _, _, _, none⟩) (v := _) rfl (by kernel_rfl) (by kernel_rfl) (by kernel_rfl) (fun _ _ _ h => h) (Or.inl ⟨by rfl, ?hy16⟩) (by assumption) ?rest16
  case hy16 => (intro w hSw; obtain ⟨s1, s2⟩ := hSw; go_simp <;> with_reducible rfl)
  case rest16 =>
  go_frame
  refine' wpAnyH_take (i := 5) (oi := ⟨some 63, .fieldAddr 37 (.tmp 7) 1, _, _, _, none⟩) (v := _) rfl (by kernel_rfl) (by kernel_rfl) (by kernel_rfl) (fun _ _ _ h => h) (Or.inl ⟨by rfl, ?hy17⟩) (by assumption) ?rest17
  case hy17 => (intro w hSw; obtain ⟨s1, s2⟩ := hSw; go_simp <;> with_reducible rfl)
  case rest17 =>
  go_frame
  refine' wpAnyH_take (i := 6) (oi := ⟨some 64, .load 3 (.tmp 63), _, _, _, none⟩) (v := _) rfl (by kernel_rfl) (by kernel_rfl) (by kernel_rfl) (fun _ _ _ h => h) (Or.inl ⟨by rfl, ?hy18⟩) (by assumption) ?rest18
  case hy18 => (intro w hSw; obtain ⟨s1, s2⟩ := hSw; go_simp <;> with_reducible rfl)
  case rest18 =>
  go_frame
  refine wpAnyH_ready (rs := [3]) (by kernel_rfl) (by simp) (AllReadyH.cons (o := ⟨some 61, .call { callee := .value (.func 27), args := #[.tmp 58, .tmp 60], argTypes := #[27, 3] }, _, _, _, none⟩) rfl (fun K hK => ?_) AllReadyH.nil)
  rw [if_pos (by rfl)]
  go_simp
  refine (HP.out).mono ?_
  rintro e w3 ⟨rfl, ht3, ho3⟩
  have S3 := Lib.hid (HS.out w3 ho3)
  have HXb := Lib.hid (HX.out w3 ht3 ho3)
  clear ht3 ho3
  dsimp only
  refine hK.out _ _ (S3.out) (fun _ => ?_)
  clear hK K
  try go_frame
  refine wpAnyH_ready (rs := [7]) (by kernel_rfl) (by simp) (AllReadyH.cons (o := ⟨some 65, .call { callee := .value (.func 31), args := #[.tmp 62, .tmp 64, .const (.int .i64 1)], argTypes := #[31, 3, 3] }, _, _, _, none⟩) rfl (fun K hK => ?_) AllReadyH.nil)
  rw [if_pos (by rfl)]
  go_simp
  refine (HXb.out).mono ?_
  rintro e w5 ⟨rfl, ht5, ho5⟩
  have S5 := Lib.hid (HS.out w5 ho5)
  have Ht5 := Lib.hid ht5
  have Ho5 := Lib.hid ho5
  clear ht5 ho5
  dsimp only
  refine hK.out _ _ (S5.out) (fun _ => ?_)
  clear hK K
  try go_frame
  refine' wpAnyH_take (i := 8) (oi := ⟨some 66, .binOp .eql 4 (.tmp 61) (.tmp 65) 4, _, _, _, none⟩) (v := _) rfl (by kernel_rfl) (by kernel_rfl) (by kernel_rfl) (fun _ _ _ h => h) (Or.inl ⟨by rfl, ?hy19⟩) (by assumption) ?rest19
  case hy19 => (intro w hSw; obtain ⟨s1, s2⟩ := hSw; go_simp <;> with_reducible rfl)
  case rest19 =>
  go_frame
  refine' wpAnyH_take (i := 9) (oi := ⟨some 8, .assign (.tmp 66), _, _, _, none⟩) (v := _) rfl (by kernel_rfl) (by kernel_rfl) (by kernel_rfl) (fun _ _ _ h => h) (Or.inl ⟨by rfl, ?hy20⟩) (by assumption) ?rest20
  case hy20 => (intro w hSw; obtain ⟨s1, s2⟩ := hSw; go_simp <;> with_reducible rfl)
  case rest20 =>
  go_frame
  refine wpAnyH_done (by kernel_rfl) ?_ _
  go_wp2_with fail
  go_ret
  exact ⟨by simp, Hfin.out _ _ _ Ht5.out Hst.out Ho5.out⟩
set_option maxRecDepth 100000 in
set_option maxHeartbeats 1600000 in
theorem does3 (h : Two E w c bf p q r bg cap rest x d x d) (hs : St x d j) (hj : j < 60) (hE : ∀ k, w.heap.size ≤ k → E k) (no : Int) (b : UInt8) :
    Calls Try.prog 13 #[at0 c, at0 p, at0 r, .agg #[.int .i64 3, .int .i64 no, .int .u8 (b.toNat : Int)]] w fun ee w' => ee = .returned (.bool true) ∧ ∃ x' d', Past E w w' c bf p q r bg cap rest x' d' (j + 1) := by
  obtain ⟨E1, g0, g1, g2, g3, g4⟩ := h.boxed hE (.int .i64 3) (.int .i64 no) (.int .u8 (b.toNat : Int))
  obtain ⟨w1, hw1⟩ : ∃ w1, w1 = (w.alloc (.cells #[.int .i64 3, .int .i64 no, .int .u8 (b.toNat : Int)] 37)) := ⟨_, rfl⟩
  rw [← hw1] at g1 g2 g3 g4
  obtain ⟨k0, k1, k2⟩ := g4 w1 (Only.refl _ _)
  rw [hw1] at k0 k1 k2
  have Hw1 := Lib.hid hw1
  have HP : Hid (Calls Try.prog 28 #[at0 c, .int .i64 no] w1.drew fun ee w' => ee = .returned (.bool (x.unpin no).1) ∧ Two E1 w' c bf p q r bg cap rest (x.unpin no).2 d x d ∧ Only E1 w1 w') := Lib.hid (by
    refine (g1.drew.pUnpin (fun k hk => g2 k hk) hs (by omega) no).mono ?_
    rintro ee w' ⟨rfl, a1, a2⟩
    exact ⟨rfl, a1, (Only.drew _ _).trans a2⟩)
  have HX : Hid (∀ w3, Two E1 w3 c bf p q r bg cap rest (x.unpin no).2 d x d → Only E1 w1 w3 → Calls Try.prog 31 #[at0 r, .int .i64 no, .int .i64 (-1)] w3 fun ee w' => ee = .returned (.bool (x.unpin no).1) ∧ Two E1 w' c bf p q r bg cap rest (x.unpin no).2 d (x.unpin no).2 d ∧ Only E1 w1 w') := Lib.hid (by
    intro w3 ht ho
    have := ht.xPin (fun k hk => g2 k (Nat.le_trans ho.size hk)) hs (by omega) no (s := -1) (.inr rfl)
    rw [pinBy_less] at this
    refine this.mono ?_
    rintro ee w' ⟨rfl, a1, a2⟩
    exact ⟨rfl, a1, ho.trans a2⟩)
  have Hst : Hid (St (x.unpin no).2 d (j + 1)) := Lib.hid (hs.unpin no)
  have HS : Hid (∀ w', Only E1 w1 w' → w'.cell? ⟨w.heap.size, 1, none⟩ = some (.int .i64 no) ∧ w'.cell? ⟨w.heap.size, 2, none⟩ = some (.int .u8 (b.toNat : Int))) := Lib.hid fun w' ho => (g4 w' ho).2
  have Hfin : Hid (∀ w5 x' d', Two E1 w5 c bf p q r bg cap rest x' d' x' d' → St x' d' (j + 1) → Only E1 w1 w5 → ∃ x' d', Past E w w5 c bf p q r bg cap rest x' d' (j + 1)) := Lib.hid fun w5 x' d' a1 a2 a3 => ⟨x', d', a1.wide fun k _ hk => g0 k hk, a2, g3 w5 a3⟩
  clear h hs hj hE g0 g1 g2 g3 g4 hw1
  go_enter Try.func13, Try.ntmps13
  go_wp2_with fail
  rw [← Hw1.out] at k0 k1 k2
  rw [← Hw1.out]
  refine wp_region_held_drew (S := fun w' => w'.cell? ⟨w.heap.size, 1, none⟩ = some (.int .i64 no) ∧ w'.cell? ⟨w.heap.size, 2, none⟩ = some (.int .u8 (b.toNat : Int))) (by kernel_rfl) ⟨k1, k2⟩ (fun hHeld => ?_)
  refine' wpAnyH_take (i := 0) (oi := ⟨some 69, .move (.tmp 0), _, _, _, none⟩) (v := _) rfl (by kernel_rfl) (by kernel_rfl) (by kernel_rfl) (fun _ _ _ h => h) (Or.inl ⟨by rfl, ?hy21⟩) (by assumption) ?rest21
  case hy21 => (intro w hSw; obtain ⟨s1, s2⟩ := hSw; go_simp <;> with_reducible rfl)
  case rest21 =>
  go_frame
  refine' wpAnyH_take (i := 1) (oi := ⟨some 70, .fieldAddr 37 (.tmp 7) 1, _, _, _, none⟩) (v := _) rfl (by kernel_rfl) (by kernel_rfl) (by kernel_rfl) (fun _ _ _ h => h) (Or.inl ⟨by rfl, ?hy22⟩) (by assumption) ?rest22
  case hy22 => (intro w hSw; obtain ⟨s1, s2⟩ := hSw; go_simp <;> with_reducible rfl)
  case rest22 =>
  go_frame
  refine' wpAnyH_take (i := 2) (oi := ⟨some 71, .load 3 (.tmp 70), _, _, _, none⟩) (v := _) rfl (by kernel_rfl) (by kernel_rfl) (by kernel_rfl) (fun _ _ _ h => h) (Or.inl ⟨by rfl, ?hy23⟩) (by assumption) ?rest23
  case hy23 => (intro w hSw; obtain ⟨s1, s2⟩ := hSw; go_simp <;> with_reducible rfl)
  case rest23 =>
  go_frame
  refine' wpAnyH_take (i := 4) (oi := ⟨some 73, .move (.tmp 2), _, _, _, none⟩) (v := _) rfl (by kernel_rfl) (by kernel_rfl) (by kernel_rfl) (fun _ _ _ h => h) (Or.inl ⟨by rfl, ?hy24⟩) (by assumption) ?rest24
  case hy24 => (intro w hSw; obtain ⟨s1, s2⟩ := hSw; go_simp <;> with_reducible rfl)
  case rest24 =>
  go_frame
  refine' wpAnyH_take (i := 5) (oi := ⟨some 74, .fieldAddr 37 (.tmp 7) 1, _, _, _, none⟩) (v := _) rfl (by kernel_rfl) (by kernel_rfl) (by kernel_rfl) (fun _ _ _ h => h) (Or.inl ⟨by rfl, ?hy25⟩) (by assumption) ?rest25
  case hy25 => (intro w hSw; obtain ⟨s1, s2⟩ := hSw; go_simp <;> with_reducible rfl)
  case rest25 =>
  go_frame
  refine' wpAnyH_take (i := 6) (oi := ⟨some 75, .load 3 (.tmp 74), _, _, _, none⟩) (v := _) rfl (by kernel_rfl) (by kernel_rfl) (by kernel_rfl) (fun _ _ _ h => h) (Or.inl ⟨by rfl, ?hy26⟩) (by assumption) ?rest26
  case hy26 => (intro w hSw; obtain ⟨s1, s2⟩ := hSw; go_simp <;> with_reducible rfl)
  case rest26 =>
  go_frame
  refine wpAnyH_ready (rs := [3]) (by kernel_rfl) (by simp) (AllReadyH.cons (o := ⟨some 72, .call { callee := .value (.func 28), args := #[.tmp 69, .tmp 71], argTypes := #[27, 3] }, _, _, _, none⟩) rfl (fun K hK => ?_) AllReadyH.nil)
  rw [if_pos (by rfl)]
  go_simp
  refine (HP.out).mono ?_
  rintro e w3 ⟨rfl, ht3, ho3⟩
  have S3 := Lib.hid (HS.out w3 ho3)
  have HXb := Lib.hid (HX.out w3 ht3 ho3)
  clear ht3 ho3
  dsimp only
  refine hK.out _ _ (S3.out) (fun _ => ?_)
  clear hK K
  try go_frame
  refine wpAnyH_ready (rs := [7]) (by kernel_rfl) (by simp) (AllReadyH.cons (o := ⟨some 76, .call { callee := .value (.func 31), args := #[.tmp 73, .tmp 75, .const (.int .i64 (-1))], argTypes := #[31, 3, 3] }, _, _, _, none⟩) rfl (fun K hK => ?_) AllReadyH.nil)
  rw [if_pos (by rfl)]
  go_simp
  refine (HXb.out).mono ?_
  rintro e w5 ⟨rfl, ht5, ho5⟩
  have S5 := Lib.hid (HS.out w5 ho5)
  have Ht5 := Lib.hid ht5
  have Ho5 := Lib.hid ho5
  clear ht5 ho5
  dsimp only
  refine hK.out _ _ (S5.out) (fun _ => ?_)
  clear hK K
  try go_frame
  refine' wpAnyH_take (i := 8) (oi := ⟨some 77, .binOp .eql 4 (.tmp 72) (.tmp 76) 4, _, _, _, none⟩) (v := _) rfl (by kernel_rfl) (by kernel_rfl) (by kernel_rfl) (fun _ _ _ h => h) (Or.inl ⟨by rfl, ?hy27⟩) (by assumption) ?rest27
  case hy27 => (intro w hSw; obtain ⟨s1, s2⟩ := hSw; go_simp <;> with_reducible rfl)
  case rest27 =>
  go_frame
  refine' wpAnyH_take (i := 9) (oi := ⟨some 8, .assign (.tmp 77), _, _, _, none⟩) (v := _) rfl (by kernel_rfl) (by kernel_rfl) (by kernel_rfl) (fun _ _ _ h => h) (Or.inl ⟨by rfl, ?hy28⟩) (by assumption) ?rest28
  case hy28 => (intro w hSw; obtain ⟨s1, s2⟩ := hSw; go_simp <;> with_reducible rfl)
  case rest28 =>
  go_frame
  refine wpAnyH_done (by kernel_rfl) ?_ _
  go_wp2_with fail
  go_ret
  exact ⟨by simp, Hfin.out _ _ _ Ht5.out Hst.out Ho5.out⟩
set_option maxRecDepth 100000 in
set_option maxHeartbeats 1600000 in
theorem does4 (h : Two E w c bf p q r bg cap rest x d x d) (hs : St x d j) (_hj : j < 60) (hE : ∀ k, w.heap.size ≤ k → E k) (no : Int) (b : UInt8) :
    Calls Try.prog 13 #[at0 c, at0 p, at0 r, .agg #[.int .i64 4, .int .i64 no, .int .u8 (b.toNat : Int)]] w fun ee w' => ee = .returned (.bool true) ∧ ∃ x' d', Past E w w' c bf p q r bg cap rest x' d' (j + 1) := by
  obtain ⟨E1, g0, g1, g2, g3, g4⟩ := h.boxed hE (.int .i64 4) (.int .i64 no) (.int .u8 (b.toNat : Int))
  obtain ⟨w1, hw1⟩ : ∃ w1, w1 = (w.alloc (.cells #[.int .i64 4, .int .i64 no, .int .u8 (b.toNat : Int)] 37)) := ⟨_, rfl⟩
  rw [← hw1] at g1 g2 g3 g4
  obtain ⟨k0, k1, k2⟩ := g4 w1 (Only.refl _ _)
  rw [hw1] at k0 k1 k2
  have Hw1 := Lib.hid hw1
  have HP : Hid (Calls Try.prog 29 #[at0 c, .int .i64 no] w1.drew fun ee w' => ee = .returned (.bool (x.drop no).1) ∧ Two E1 w' c bf p q r bg cap rest (x.drop no).2 d x d ∧ Only E1 w1 w') := Lib.hid (by
    refine (g1.drew.pDrop (fun k hk => g2 k hk) no).mono ?_
    rintro ee w' ⟨rfl, a1, a2⟩
    exact ⟨rfl, a1, (Only.drew _ _).trans a2⟩)
  have HX : Hid (∀ w3, Two E1 w3 c bf p q r bg cap rest (x.drop no).2 d x d → Only E1 w1 w3 → Calls Try.prog 32 #[at0 r, .int .i64 no] w3 fun ee w' => ee = .returned (.bool (x.drop no).1) ∧ Two E1 w' c bf p q r bg cap rest (x.drop no).2 d (x.drop no).2 d ∧ Only E1 w1 w') := Lib.hid (by
    intro w3 ht ho
    have := ht.xDrop (fun k hk => g2 k (Nat.le_trans ho.size hk)) hs no
    skip
    refine this.mono ?_
    rintro ee w' ⟨rfl, a1, a2⟩
    exact ⟨rfl, a1, ho.trans a2⟩)
  have Hst : Hid (St (x.drop no).2 d (j + 1)) := Lib.hid (hs.drop no)
  have HS : Hid (∀ w', Only E1 w1 w' → w'.cell? ⟨w.heap.size, 1, none⟩ = some (.int .i64 no) ∧ w'.cell? ⟨w.heap.size, 2, none⟩ = some (.int .u8 (b.toNat : Int))) := Lib.hid fun w' ho => (g4 w' ho).2
  have Hfin : Hid (∀ w5 x' d', Two E1 w5 c bf p q r bg cap rest x' d' x' d' → St x' d' (j + 1) → Only E1 w1 w5 → ∃ x' d', Past E w w5 c bf p q r bg cap rest x' d' (j + 1)) := Lib.hid fun w5 x' d' a1 a2 a3 => ⟨x', d', a1.wide fun k _ hk => g0 k hk, a2, g3 w5 a3⟩
  clear h hs _hj hE g0 g1 g2 g3 g4 hw1
  go_enter Try.func13, Try.ntmps13
  go_wp2_with fail
  rw [← Hw1.out] at k0 k1 k2
  rw [← Hw1.out]
  refine wp_region_held_drew (S := fun w' => w'.cell? ⟨w.heap.size, 1, none⟩ = some (.int .i64 no) ∧ w'.cell? ⟨w.heap.size, 2, none⟩ = some (.int .u8 (b.toNat : Int))) (by kernel_rfl) ⟨k1, k2⟩ (fun hHeld => ?_)
  refine' wpAnyH_take (i := 0) (oi := ⟨some 80, .move (.tmp 0), _, _, _, none⟩) (v := _) rfl (by kernel_rfl) (by kernel_rfl) (by kernel_rfl) (fun _ _ _ h => h) (Or.inl ⟨by rfl, ?hy29⟩) (by assumption) ?rest29
  case hy29 => (intro w hSw; obtain ⟨s1, s2⟩ := hSw; go_simp <;> with_reducible rfl)
  case rest29 =>
  go_frame
  refine' wpAnyH_take (i := 1) (oi := ⟨some 81, .fieldAddr 37 (.tmp 7) 1, _, _, _, none⟩) (v := _) rfl (by kernel_rfl) (by kernel_rfl) (by kernel_rfl) (fun _ _ _ h => h) (Or.inl ⟨by rfl, ?hy30⟩) (by assumption) ?rest30
  case hy30 => (intro w hSw; obtain ⟨s1, s2⟩ := hSw; go_simp <;> with_reducible rfl)
  case rest30 =>
  go_frame
  refine' wpAnyH_take (i := 2) (oi := ⟨some 82, .load 3 (.tmp 81), _, _, _, none⟩) (v := _) rfl (by kernel_rfl) (by kernel_rfl) (by kernel_rfl) (fun _ _ _ h => h) (Or.inl ⟨by rfl, ?hy31⟩) (by assumption) ?rest31
  case hy31 => (intro w hSw; obtain ⟨s1, s2⟩ := hSw; go_simp <;> with_reducible rfl)
  case rest31 =>
  go_frame
  refine' wpAnyH_take (i := 4) (oi := ⟨some 84, .move (.tmp 2), _, _, _, none⟩) (v := _) rfl (by kernel_rfl) (by kernel_rfl) (by kernel_rfl) (fun _ _ _ h => h) (Or.inl ⟨by rfl, ?hy32⟩) (by assumption) ?rest32
  case hy32 => (intro w hSw; obtain ⟨s1, s2⟩ := hSw; go_simp <;> with_reducible rfl)
  case rest32 =>
  go_frame
  refine' wpAnyH_take (i := 5) (oi := ⟨some 85, .fieldAddr 37 (.tmp 7) 1, _, _, _, none⟩) (v := _) rfl (by kernel_rfl) (by kernel_rfl) (by kernel_rfl) (fun _ _ _ h => h) (Or.inl ⟨by rfl, ?hy33⟩) (by assumption) ?rest33
  case hy33 => (intro w hSw; obtain ⟨s1, s2⟩ := hSw; go_simp <;> with_reducible rfl)
  case rest33 =>
  go_frame
  refine' wpAnyH_take (i := 6) (oi := ⟨some 86, .load 3 (.tmp 85), _, _, _, none⟩) (v := _) rfl (by kernel_rfl) (by kernel_rfl) (by kernel_rfl) (fun _ _ _ h => h) (Or.inl ⟨by rfl, ?hy34⟩) (by assumption) ?rest34
  case hy34 => (intro w hSw; obtain ⟨s1, s2⟩ := hSw; go_simp <;> with_reducible rfl)
  case rest34 =>
  go_frame
  refine wpAnyH_ready (rs := [3]) (by kernel_rfl) (by simp) (AllReadyH.cons (o := ⟨some 83, .call { callee := .value (.func 29), args := #[.tmp 80, .tmp 82], argTypes := #[27, 3] }, _, _, _, none⟩) rfl (fun K hK => ?_) AllReadyH.nil)
  rw [if_pos (by rfl)]
  go_simp
  refine (HP.out).mono ?_
  rintro e w3 ⟨rfl, ht3, ho3⟩
  have S3 := Lib.hid (HS.out w3 ho3)
  have HXb := Lib.hid (HX.out w3 ht3 ho3)
  clear ht3 ho3
  dsimp only
  refine hK.out _ _ (S3.out) (fun _ => ?_)
  clear hK K
  try go_frame
  refine wpAnyH_ready (rs := [7]) (by kernel_rfl) (by simp) (AllReadyH.cons (o := ⟨some 87, .call { callee := .value (.func 32), args := #[.tmp 84, .tmp 86], argTypes := #[31, 3] }, _, _, _, none⟩) rfl (fun K hK => ?_) AllReadyH.nil)
  rw [if_pos (by rfl)]
  go_simp
  refine (HXb.out).mono ?_
  rintro e w5 ⟨rfl, ht5, ho5⟩
  have S5 := Lib.hid (HS.out w5 ho5)
  have Ht5 := Lib.hid ht5
  have Ho5 := Lib.hid ho5
  clear ht5 ho5
  dsimp only
  refine hK.out _ _ (S5.out) (fun _ => ?_)
  clear hK K
  try go_frame
  refine' wpAnyH_take (i := 8) (oi := ⟨some 88, .binOp .eql 4 (.tmp 83) (.tmp 87) 4, _, _, _, none⟩) (v := _) rfl (by kernel_rfl) (by kernel_rfl) (by kernel_rfl) (fun _ _ _ h => h) (Or.inl ⟨by rfl, ?hy35⟩) (by assumption) ?rest35
  case hy35 => (intro w hSw; obtain ⟨s1, s2⟩ := hSw; go_simp <;> with_reducible rfl)
  case rest35 =>
  go_frame
  refine' wpAnyH_take (i := 9) (oi := ⟨some 8, .assign (.tmp 88), _, _, _, none⟩) (v := _) rfl (by kernel_rfl) (by kernel_rfl) (by kernel_rfl) (fun _ _ _ h => h) (Or.inl ⟨by rfl, ?hy36⟩) (by assumption) ?rest36
  case hy36 => (intro w hSw; obtain ⟨s1, s2⟩ := hSw; go_simp <;> with_reducible rfl)
  case rest36 =>
  go_frame
  refine wpAnyH_done (by kernel_rfl) ?_ _
  go_wp2_with fail
  go_ret
  exact ⟨by simp, Hfin.out _ _ _ Ht5.out Hst.out Ho5.out⟩
set_option maxRecDepth 100000 in
set_option maxHeartbeats 1600000 in
theorem does5 (h : Two E w c bf p q r bg cap rest x d x d) (hs : St x d j) (hj : j < 60) (hE : ∀ k, w.heap.size ≤ k → E k) (no : Int) (b : UInt8) :
    Calls Try.prog 13 #[at0 c, at0 p, at0 r, .agg #[.int .i64 5, .int .i64 no, .int .u8 (b.toNat : Int)]] w fun ee w' => ee = .returned (.bool true) ∧ ∃ x' d', Past E w w' c bf p q r bg cap rest x' d' (j + 1) := by
  obtain ⟨E1, g0, g1, g2, g3, g4⟩ := h.boxed hE (.int .i64 5) (.int .i64 no) (.int .u8 (b.toNat : Int))
  obtain ⟨w1, hw1⟩ : ∃ w1, w1 = (w.alloc (.cells #[.int .i64 5, .int .i64 no, .int .u8 (b.toNat : Int)] 37)) := ⟨_, rfl⟩
  rw [← hw1] at g1 g2 g3 g4
  obtain ⟨k0, k1, k2⟩ := g4 w1 (Only.refl _ _)
  rw [hw1] at k0 k1 k2
  have Hw1 := Lib.hid hw1
  have HP : Hid (Calls Try.prog 24 #[at0 c] w1 fun ee w' => ee = .returned (.int .i64 (x.sync d).1) ∧ Two E1 w' c bf p q r bg cap rest (x.sync d).2.1 (x.sync d).2.2 x d ∧ Only E1 w1 w') := Lib.hid (g1.pSync g2 hs (by omega))
  have HX : Hid (∀ w3, Two E1 w3 c bf p q r bg cap rest (x.sync d).2.1 (x.sync d).2.2 x d → Only E1 w1 w3 → Calls Try.prog 33 #[at0 r] w3 fun ee w' => ee = .returned (.int .i64 (x.sync d).1) ∧ Two E1 w' c bf p q r bg cap rest (x.sync d).2.1 (x.sync d).2.2 (x.sync d).2.1 (x.sync d).2.2 ∧ Only E1 w1 w') := Lib.hid (by
    intro w3 ht ho
    refine (ht.xSync (fun k hk => g2 k (Nat.le_trans ho.size hk)) hs (by omega)).mono ?_
    rintro ee w' ⟨rfl, a1, a2⟩
    exact ⟨rfl, a1, ho.trans a2⟩)
  have Hst : Hid (St (x.sync d).2.1 (x.sync d).2.2 (j + 1)) := Lib.hid hs.sync
  have Hfin : Hid (∀ w5 x' d', Two E1 w5 c bf p q r bg cap rest x' d' x' d' → St x' d' (j + 1) → Only E1 w1 w5 → ∃ x' d', Past E w w5 c bf p q r bg cap rest x' d' (j + 1)) := Lib.hid fun w5 x' d' a1 a2 a3 => ⟨x', d', a1.wide fun k _ hk => g0 k hk, a2, g3 w5 a3⟩
  obtain ⟨z, hz⟩ : ∃ z, z = x.sync d := ⟨_, rfl⟩
  rw [← hz] at HP HX Hst
  obtain ⟨t, ht⟩ : ∃ t, t = z.1 := ⟨_, rfl⟩
  rw [← ht] at HP HX
  rw [hw1] at HP
  clear h hs hj hE g0 g1 g2 g3 g4 hw1 hz ht
  go_enter Try.func13, Try.ntmps13
  go_wp2_with (first
    | (go_at_call 24; refine HP.out.mono ?_; rintro e w3 ⟨rfl, ht3, ho3⟩; rw [← Hw1.out] at ho3; have HXb := Lib.hid (HX.out w3 ht3 ho3); clear ht3 ho3)
    | (go_at_call 33; refine HXb.out.mono ?_; rintro e w5 ⟨rfl, ht5, ho5⟩; have Ht5 := Lib.hid ht5; have Ho5 := Lib.hid ho5; clear ht5 ho5))
  go_ret
  exact ⟨by simp, Hfin.out _ _ _ Ht5.out Hst.out Ho5.out⟩
set_option maxRecDepth 100000 in
set_option maxHeartbeats 1600000 in
theorem does6 (h : Two E w c bf p q r bg cap rest x d x d) (hs : St x d j) (_hj : j < 60) (hE : ∀ k, w.heap.size ≤ k → E k) (no : Int) (b : UInt8) :
    Calls Try.prog 13 #[at0 c, at0 p, at0 r, .agg #[.int .i64 6, .int .i64 no, .int .u8 (b.toNat : Int)]] w fun ee w' => ee = .returned (.bool true) ∧ ∃ x' d', Past E w w' c bf p q r bg cap rest x' d' (j + 1) := by
  have hb8 : b.toNat < 1000 := by have := b.toNat_lt; omega
  obtain ⟨E1, g0, g1, g2, g3, g4⟩ := h.boxed hE (.int .i64 6) (.int .i64 no) (.int .u8 (b.toNat : Int))
  obtain ⟨w1, hw1⟩ : ∃ w1, w1 = (w.alloc (.cells #[.int .i64 6, .int .i64 no, .int .u8 (b.toNat : Int)] 37)) := ⟨_, rfl⟩
  rw [← hw1] at g1 g2 g3 g4
  obtain ⟨k0, k1, k2⟩ := g4 w1 (Only.refl _ _)
  rw [hw1] at k0 k1 k2
  have Hw1 := Lib.hid hw1
  have HP : Hid (Calls Try.prog 19 #[at0 p, .int .i64 no, .int .i64 (b.toNat : Int)] w1.drew fun ee w' => ee = .returned (.int .i64 (d.doFail no (b.toNat : Int)).1) ∧ Two E1 w' c bf p q r bg cap rest x (d.doFail no (b.toNat : Int)).2 x d ∧ Only E1 w1 w') := Lib.hid (by
    refine (g1.drew.pFail (fun k hk => g2 k hk) no (a := b.toNat) (by omega)).mono ?_
    rintro ee w' ⟨rfl, a1, a2⟩
    exact ⟨rfl, a1, (Only.drew _ _).trans a2⟩)
  have HX : Hid (∀ w3, Two E1 w3 c bf p q r bg cap rest x (d.doFail no (b.toNat : Int)).2 x d → Only E1 w1 w3 → Calls Try.prog 34 #[at0 q, .int .i64 no, .int .i64 (b.toNat : Int)] w3 fun ee w' => ee = .returned (.int .i64 (d.doFail no (b.toNat : Int)).1) ∧ Two E1 w' c bf p q r bg cap rest x (d.doFail no (b.toNat : Int)).2 x (d.doFail no (b.toNat : Int)).2 ∧ Only E1 w1 w') := Lib.hid (by
    intro w3 ht ho
    have := ht.xFail (fun k hk => g2 k (Nat.le_trans ho.size hk)) no (a := b.toNat) (by omega)
    skip
    refine this.mono ?_
    rintro ee w' ⟨rfl, a1, a2⟩
    exact ⟨rfl, a1, ho.trans a2⟩)
  have K3 := Lib.hid g1.drew.cellsX.1
  have b8 : (b.toNat : Int) < 256 := by have := b.toNat_lt; omega
  have bw : IntKind.i64.wrap (b.toNat : Int) = (b.toNat : Int) := IntWalk.i64_in _ (by omega)
  have Hst : Hid (St x (d.doFail no (b.toNat : Int)).2 (j + 1)) := Lib.hid (hs.fail no (b.toNat : Int))
  have HS : Hid (∀ w', Only E1 w1 w' → w'.cell? ⟨w.heap.size, 1, none⟩ = some (.int .i64 no) ∧ w'.cell? ⟨w.heap.size, 2, none⟩ = some (.int .u8 (b.toNat : Int))) := Lib.hid fun w' ho => (g4 w' ho).2
  have Hfin : Hid (∀ w5 x' d', Two E1 w5 c bf p q r bg cap rest x' d' x' d' → St x' d' (j + 1) → Only E1 w1 w5 → ∃ x' d', Past E w w5 c bf p q r bg cap rest x' d' (j + 1)) := Lib.hid fun w5 x' d' a1 a2 a3 => ⟨x', d', a1.wide fun k _ hk => g0 k hk, a2, g3 w5 a3⟩
  clear h hs _hj hE g0 g1 g2 g3 g4 hw1
  go_enter Try.func13, Try.ntmps13
  go_wp2_with fail
  rw [← Hw1.out] at k0 k1 k2
  rw [← Hw1.out]
  refine wp_region_held_drew (S := fun w' => (w'.cell? ⟨w.heap.size, 1, none⟩ = some (.int .i64 no) ∧ w'.cell? ⟨w.heap.size, 2, none⟩ = some (.int .u8 (b.toNat : Int))) ∧ w'.cell? ⟨r, 0, none⟩ = some (at0 q)) (by kernel_rfl) ⟨⟨k1, k2⟩, K3.out⟩ (fun hHeld => ?_)
  refine' wpAnyH_take (i := 0) (oi := ⟨some 98, .move (.tmp 1), _, _, _, none⟩) (v := _) rfl (by kernel_rfl) (by kernel_rfl) (by kernel_rfl) (fun _ _ _ h => h) (Or.inl ⟨by rfl, ?hy37⟩) (by assumption) ?rest37
  case hy37 => (intro w hSw; obtain ⟨⟨s1, s2⟩, s3⟩ := hSw; go_simp <;> with_reducible rfl)
  case rest37 =>
  go_frame
  refine' wpAnyH_take (i := 1) (oi := ⟨some 99, .fieldAddr 37 (.tmp 7) 1, _, _, _, none⟩) (v := _) rfl (by kernel_rfl) (by kernel_rfl) (by kernel_rfl) (fun _ _ _ h => h) (Or.inl ⟨by rfl, ?hy38⟩) (by assumption) ?rest38
  case hy38 => (intro w hSw; obtain ⟨⟨s1, s2⟩, s3⟩ := hSw; go_simp <;> with_reducible rfl)
  case rest38 =>
  go_frame
  refine' wpAnyH_take (i := 2) (oi := ⟨some 100, .load 3 (.tmp 99), _, _, _, none⟩) (v := _) rfl (by kernel_rfl) (by kernel_rfl) (by kernel_rfl) (fun _ _ _ h => h) (Or.inl ⟨by rfl, ?hy39⟩) (by assumption) ?rest39
  case hy39 => (intro w hSw; obtain ⟨⟨s1, s2⟩, s3⟩ := hSw; go_simp <;> with_reducible rfl)
  case rest39 =>
  go_frame
  refine' wpAnyH_take (i := 3) (oi := ⟨some 101, .fieldAddr 37 (.tmp 7) 2, _, _, _, none⟩) (v := _) rfl (by kernel_rfl) (by kernel_rfl) (by kernel_rfl) (fun _ _ _ h => h) (Or.inl ⟨by rfl, ?hy40⟩) (by assumption) ?rest40
  case hy40 => (intro w hSw; obtain ⟨⟨s1, s2⟩, s3⟩ := hSw; go_simp <;> with_reducible rfl)
  case rest40 =>
  go_frame
  refine' wpAnyH_take (i := 4) (oi := ⟨some 102, .load 5 (.tmp 101), _, _, _, none⟩) (v := _) rfl (by kernel_rfl) (by kernel_rfl) (by kernel_rfl) (fun _ _ _ h => h) (Or.inl ⟨by rfl, ?hy41⟩) (by assumption) ?rest41
  case hy41 => (intro w hSw; obtain ⟨⟨s1, s2⟩, s3⟩ := hSw; go_simp <;> with_reducible rfl)
  case rest41 =>
  go_frame
  refine' wpAnyH_take (i := 5) (oi := ⟨some 103, .convert 5 3 (.tmp 102), _, _, _, none⟩) (v := _) rfl (by kernel_rfl) (by kernel_rfl) (by kernel_rfl) (fun _ _ _ h => h) (Or.inl ⟨by rfl, ?hy42⟩) (by assumption) ?rest42
  case hy42 => (intro w hSw; obtain ⟨⟨s1, s2⟩, s3⟩ := hSw; go_simp <;> with_reducible rfl)
  case rest42 =>
  go_frame
  refine' wpAnyH_take (i := 7) (oi := ⟨some 105, .move (.tmp 2), _, _, _, none⟩) (v := _) rfl (by kernel_rfl) (by kernel_rfl) (by kernel_rfl) (fun _ _ _ h => h) (Or.inl ⟨by rfl, ?hy43⟩) (by assumption) ?rest43
  case hy43 => (intro w hSw; obtain ⟨⟨s1, s2⟩, s3⟩ := hSw; go_simp <;> with_reducible rfl)
  case rest43 =>
  go_frame
  refine' wpAnyH_take (i := 8) (oi := ⟨some 106, .nilCheck (.tmp 105), _, _, _, none⟩) (v := _) rfl (by kernel_rfl) (by kernel_rfl) (by kernel_rfl) (fun _ _ _ h => h) (Or.inl ⟨by rfl, ?hy44⟩) (by assumption) ?rest44
  case hy44 => (intro w hSw; obtain ⟨⟨s1, s2⟩, s3⟩ := hSw; go_simp <;> with_reducible rfl)
  case rest44 =>
  go_frame
  refine' wpAnyH_take (i := 9) (oi := ⟨some 107, .fieldAddr 49 (.tmp 106) 0, _, _, _, none⟩) (v := _) rfl (by kernel_rfl) (by kernel_rfl) (by kernel_rfl) (fun _ _ _ h => h) (Or.inl ⟨by rfl, ?hy45⟩) (by assumption) ?rest45
  case hy45 => (intro w hSw; obtain ⟨⟨s1, s2⟩, s3⟩ := hSw; go_simp <;> with_reducible rfl)
  case rest45 =>
  go_frame
  refine' wpAnyH_take (i := 10) (oi := ⟨some 108, .load 33 (.tmp 107), _, _, _, none⟩) (v := _) rfl (by kernel_rfl) (by kernel_rfl) (by kernel_rfl) (fun _ _ _ h => h) (Or.inl ⟨by rfl, ?hy46⟩) (by assumption) ?rest46
  case hy46 => (intro w hSw; obtain ⟨⟨s1, s2⟩, s3⟩ := hSw; go_simp <;> with_reducible rfl)
  case rest46 =>
  go_frame
  refine' wpAnyH_take (i := 11) (oi := ⟨some 109, .fieldAddr 37 (.tmp 7) 1, _, _, _, none⟩) (v := _) rfl (by kernel_rfl) (by kernel_rfl) (by kernel_rfl) (fun _ _ _ h => h) (Or.inl ⟨by rfl, ?hy47⟩) (by assumption) ?rest47
  case hy47 => (intro w hSw; obtain ⟨⟨s1, s2⟩, s3⟩ := hSw; go_simp <;> with_reducible rfl)
  case rest47 =>
  go_frame
  refine' wpAnyH_take (i := 12) (oi := ⟨some 110, .load 3 (.tmp 109), _, _, _, none⟩) (v := _) rfl (by kernel_rfl) (by kernel_rfl) (by kernel_rfl) (fun _ _ _ h => h) (Or.inl ⟨by rfl, ?hy48⟩) (by assumption) ?rest48
  case hy48 => (intro w hSw; obtain ⟨⟨s1, s2⟩, s3⟩ := hSw; go_simp <;> with_reducible rfl)
  case rest48 =>
  go_frame
  refine' wpAnyH_take (i := 13) (oi := ⟨some 111, .fieldAddr 37 (.tmp 7) 2, _, _, _, none⟩) (v := _) rfl (by kernel_rfl) (by kernel_rfl) (by kernel_rfl) (fun _ _ _ h => h) (Or.inl ⟨by rfl, ?hy49⟩) (by assumption) ?rest49
  case hy49 => (intro w hSw; obtain ⟨⟨s1, s2⟩, s3⟩ := hSw; go_simp <;> with_reducible rfl)
  case rest49 =>
  go_frame
  refine' wpAnyH_take (i := 14) (oi := ⟨some 112, .load 5 (.tmp 111), _, _, _, none⟩) (v := _) rfl (by kernel_rfl) (by kernel_rfl) (by kernel_rfl) (fun _ _ _ h => h) (Or.inl ⟨by rfl, ?hy50⟩) (by assumption) ?rest50
  case hy50 => (intro w hSw; obtain ⟨⟨s1, s2⟩, s3⟩ := hSw; go_simp <;> with_reducible rfl)
  case rest50 =>
  go_frame
  refine' wpAnyH_take (i := 15) (oi := ⟨some 113, .convert 5 3 (.tmp 112), _, _, _, none⟩) (v := _) rfl (by kernel_rfl) (by kernel_rfl) (by kernel_rfl) (fun _ _ _ h => h) (Or.inl ⟨by rfl, ?hy51⟩) (by assumption) ?rest51
  case hy51 => (intro w hSw; obtain ⟨⟨s1, s2⟩, s3⟩ := hSw; go_simp <;> with_reducible rfl)
  case rest51 =>
  go_frame
  refine wpAnyH_ready (rs := [6]) (by kernel_rfl) (by simp) (AllReadyH.cons (o := ⟨some 104, .call { callee := .value (.func 19), args := #[.tmp 98, .tmp 100, .tmp 103], argTypes := #[23, 3, 3] }, _, _, _, none⟩) rfl (fun K hK => ?_) AllReadyH.nil)
  rw [if_pos (by rfl)]
  go_simp
  refine (HP.out).mono ?_
  rintro e w3 ⟨rfl, ht3, ho3⟩
  have S3 := Lib.hid (⟨HS.out w3 ho3, ht3.cellsX.1⟩ : _ ∧ _)
  have HXb := Lib.hid (HX.out w3 ht3 ho3)
  clear ht3 ho3
  dsimp only
  refine hK.out _ _ (S3.out) (fun _ => ?_)
  clear hK K
  try go_frame
  refine wpAnyH_ready (rs := [16]) (by kernel_rfl) (by simp) (AllReadyH.cons (o := ⟨some 114, .call { callee := .value (.func 34), args := #[.tmp 108, .tmp 110, .tmp 113], argTypes := #[33, 3, 3] }, _, _, _, none⟩) rfl (fun K hK => ?_) AllReadyH.nil)
  rw [if_pos (by rfl)]
  go_simp
  refine (HXb.out).mono ?_
  rintro e w5 ⟨rfl, ht5, ho5⟩
  have S5 := Lib.hid (⟨HS.out w5 ho5, ht5.cellsX.1⟩ : _ ∧ _)
  have Ht5 := Lib.hid ht5
  have Ho5 := Lib.hid ho5
  clear ht5 ho5
  dsimp only
  refine hK.out _ _ (S5.out) (fun _ => ?_)
  clear hK K
  try go_frame
  refine' wpAnyH_take (i := 17) (oi := ⟨some 115, .binOp .eql 24 (.tmp 104) (.tmp 114) 24, _, _, _, none⟩) (v := _) rfl (by kernel_rfl) (by kernel_rfl) (by kernel_rfl) (fun _ _ _ h => h) (Or.inl ⟨by rfl, ?hy52⟩) (by assumption) ?rest52
  case hy52 => (intro w hSw; obtain ⟨⟨s1, s2⟩, s3⟩ := hSw; go_simp <;> with_reducible rfl)
  case rest52 =>
  go_frame
  refine' wpAnyH_take (i := 18) (oi := ⟨some 8, .assign (.tmp 115), _, _, _, none⟩) (v := _) rfl (by kernel_rfl) (by kernel_rfl) (by kernel_rfl) (fun _ _ _ h => h) (Or.inl ⟨by rfl, ?hy53⟩) (by assumption) ?rest53
  case hy53 => (intro w hSw; obtain ⟨⟨s1, s2⟩, s3⟩ := hSw; go_simp <;> with_reducible rfl)
  case rest53 =>
  go_frame
  refine wpAnyH_done (by kernel_rfl) ?_ _
  go_wp2_with fail
  go_ret
  exact ⟨by simp, Hfin.out _ _ _ Ht5.out Hst.out Ho5.out⟩
set_option maxRecDepth 100000 in
set_option maxHeartbeats 1600000 in
theorem does0 (h : Two E w c bf p q r bg cap rest x d x d) (hs : St x d j) (hj : j < 60) (hE : ∀ k, w.heap.size ≤ k → E k) (k : Int) (hk : ∀ i : Nat, 1 ≤ i → i ≤ 6 → k ≠ i) (no : Int) (b : UInt8) :
    Calls Try.prog 13 #[at0 c, at0 p, at0 r, .agg #[.int .i64 k, .int .i64 no, .int .u8 (b.toNat : Int)]] w fun ee w' => ee = .returned (.bool true) ∧ ∃ x' d', Past E w w' c bf p q r bg cap rest x' d' (j + 1) := by
  obtain ⟨E1, g0, g1, g2, g3, g4⟩ := h.boxed hE (.int .i64 k) (.int .i64 no) (.int .u8 (b.toNat : Int))
  obtain ⟨w1, hw1⟩ : ∃ w1, w1 = (w.alloc (.cells #[.int .i64 k, .int .i64 no, .int .u8 (b.toNat : Int)] 37)) := ⟨_, rfl⟩
  rw [← hw1] at g1 g2 g3 g4
  obtain ⟨k0, k1, k2⟩ := g4 w1 (Only.refl _ _)
  rw [hw1] at k0 k1 k2
  have Hw1 := Lib.hid hw1
  obtain ⟨z, hz⟩ : ∃ z, z = x.get d no := ⟨_, rfl⟩
  have hst : St z.2.2.1 z.2.2.2 (j + 1) := by rw [hz]; exact hs.get no
  have HP : Hid (Calls Try.prog 25 #[at0 c, .int .i64 no] w1 fun ee w' => ∃ v, ee = .returned (.tuple #[v, .int .i64 z.2.1]) ∧ Rd w' w'.heap.size v (cellsB z.1) ∧ (∀ g, v.ownBlock = some g → g < w'.heap.size) ∧ Two (fun k => E1 k ∧ ¬ v.ownBlock = some k) w' c bf p q r bg cap rest z.2.2.1 z.2.2.2 x d ∧ Only E1 w1 w') := Lib.hid (by
    have := g1.pGet g2 hs (by omega) no
    rw [← hz] at this
    exact this)
  have HX : Hid (∀ (w3 : World) (v : Value), Rd w3 w3.heap.size v (cellsB z.1) → (∀ g, v.ownBlock = some g → g < w3.heap.size) → Two (fun k => E1 k ∧ ¬ v.ownBlock = some k) w3 c bf p q r bg cap rest z.2.2.1 z.2.2.2 x d → Only E1 w1 w3 → Calls Try.prog 35 #[at0 r, .int .i64 no] w3 fun ee w' => ∃ v2, ee = .returned (.tuple #[v2, .int .i64 z.2.1]) ∧
      (convert 51 9 v).run Try.prog w' = .ok (.string ⟨z.1.toArray⟩) w' ∧ (convert 51 9 v2).run Try.prog w' = .ok (.string ⟨z.1.toArray⟩) w' ∧ Two E1 w' c bf p q r bg cap rest z.2.2.1 z.2.2.2 z.2.2.1 z.2.2.2 ∧ Only E1 w1 w') := Lib.hid (by
    intro w3 v hr hv ht ho
    have := ht.xGet (fun k hk => ⟨g2 k (Nat.le_trans ho.size hk), fun e => by have := hv k e; omega⟩) hs (by omega) no
    rw [← hz] at this
    refine this.mono ?_
    rintro ee w' ⟨v2, rfl, hr2, a1, a2⟩
    exact ⟨v2, rfl, run_string_rd (P := Try.prog) 51 9 5 Try.underlying51 Try.underlying5 Try.underlying9 (hr.still a2 fun g e hk => hk.2 e), run_string_rd (P := Try.prog) 51 9 5 Try.underlying51 Try.underlying5 Try.underlying9 hr2, a1.wide fun k _ hk => hk.1, ho.trans (a2.wider fun k hk => hk.1)⟩)
  have HS : Hid (∀ w', Only E1 w1 w' → w'.cell? ⟨w.heap.size, 1, none⟩ = some (.int .i64 no)) := Lib.hid fun w' ho => (g4 w' ho).2.1
  have Hfin : Hid (∀ w5 x' d', Two E1 w5 c bf p q r bg cap rest x' d' x' d' → St x' d' (j + 1) → Only E1 w1 w5 → ∃ x' d', Past E w w5 c bf p q r bg cap rest x' d' (j + 1)) := Lib.hid fun w5 x' d' a1 a2 a3 => ⟨x', d', a1.wide fun k _ hk => g0 k hk, a2, g3 w5 a3⟩
  have Hst := Lib.hid hst
  obtain ⟨t, ht⟩ : ∃ t, t = z.2.1 := ⟨_, rfl⟩
  rw [← ht] at HP HX
  rw [hw1] at HP
  have n1 : (k == 1) = false := by simpa using hk 1 (by omega) (by omega)
  have n2 : (k == 2) = false := by simpa using hk 2 (by omega) (by omega)
  have n3 : (k == 3) = false := by simpa using hk 3 (by omega) (by omega)
  have n4 : (k == 4) = false := by simpa using hk 4 (by omega) (by omega)
  have n5 : (k == 5) = false := by simpa using hk 5 (by omega) (by omega)
  have n6 : (k == 6) = false := by simpa using hk 6 (by omega) (by omega)
  clear h hs hj hE g0 g1 g2 g3 g4 hw1 hz ht hst hk
  go_enter Try.func13, Try.ntmps13
  go_wp2_with (first
    | (go_at_call 25; refine HP.out.mono ?_; rintro e w3 ⟨v, rfl, hr3, hv3, ht3, ho3⟩; rw [← Hw1.out] at ho3; have s1 := HS.out w3 ho3; have HXb := Lib.hid (HX.out w3 v hr3 hv3 ht3 ho3); clear hr3 hv3 ht3 ho3)
    | (go_at_call 35; refine HXb.out.mono ?_; rintro e w5 ⟨v2, rfl, c1, c2, ht5, ho5⟩; have Ht5 := Lib.hid ht5; have Ho5 := Lib.hid ho5; clear ht5 ho5))
  go_ret
  exact ⟨by simp, Hfin.out _ _ _ Ht5.out Hst.out Ho5.out⟩
end
end Go.Proofs.Ytfjcblppmoomdaa
