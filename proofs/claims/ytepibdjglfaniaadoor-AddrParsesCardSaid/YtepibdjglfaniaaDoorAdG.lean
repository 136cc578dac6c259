/-
  In, and which prefixes are good: contracts.
-/
import Derived.Test.YtepibdjglfaniaaDoorAdF
import Derived.Test.YtepibdjglfaniaaDoorAdEq
namespace Go.Proofs.YtepibdjglfaniaaDoor
open Go.RowKit
/-- Whether an address is in a prefix. -/
def inP (a : Ad) (p : Pf) : Bool := decide (maskOf a p.bits = some p)
theorem inP_none {a : Ad} {p : Pf} (h : maskOf a p.bits = none) : inP a p = false := by rw [inP, h]; rfl
theorem inP_some {a : Ad} {p q : Pf} (h : maskOf a p.bits = some q) : inP a p = ((q.a.six == p.a.six) && (q.a.b == p.a.b)) := by
  obtain ⟨_, _, _, e⟩ := maskOf_some h
  have hb : q.bits = p.bits := by rw [e]
  rw [inP, h, Bool.eq_iff_iff]
  obtain ⟨⟨s, b⟩, n⟩ := q
  obtain ⟨⟨s2, b2⟩, n2⟩ := p
  simp only at hb
  subst hb
  simp
theorem pfC_range {p : Pf} {w : World} {g : Nat} (hg : PfAt w g p) : w.rangeAt g 1 (cellsB p.a.b) := rangeAt_block hg fun j u hu => by
  rw [Nat.add_comm]
  show ((.bool p.a.six :: cellsB p.a.b) ++ [.int .i64 p.bits])[j + 1]? = some u
  rw [List.cons_append, List.getElem?_cons_succ]
  exact (List.getElem?_append_left (List.getElem?_eq_some_iff.1 hu).1).trans hu
theorem pfC_range0 {p : Pf} {w : World} {g : Nat} (hg : PfAt w g p) : w.rangeAt g 0 (adC p.a) := rangeAt_block hg fun j u hu => by
  rw [Nat.zero_add]
  exact (List.getElem?_append_left (List.getElem?_eq_some_iff.1 hu).1).trans hu
theorem pfC_six {p : Pf} {w : World} {g : Nat} (hg : PfAt w g p) : w.cell? ⟨g, 0, none⟩ = some (.bool p.a.six) := by
  rw [cell_of_row w g 0 _ _ _ hg]; rfl
theorem pfC_bits {p : Pf} {w : World} {g : Nat} (hp : p.a.Wide) (hg : PfAt w g p) : w.cell? ⟨g, 17, none⟩ = some (.int .i64 p.bits) := by
  rw [cell_of_row w g 17 _ _ _ hg]
  have := adC_length hp
  simp only [pfC, List.getElem?_toArray]
  rw [List.getElem?_append_right (by omega), this]
  rfl
set_option maxRecDepth 100000 in
theorem adIn_any (a : Ad) (p : Pf) (w : World) (ha : a.Wide) (hp : p.a.Wide) (h0 : -9223372036854775808 ≤ p.bits) (h1 : p.bits ≤ 9223372036854775807) :
    Calls Tryd.prog 54 #[adV a, pfV p] w fun e w' => e = .returned (.bool (inP a p)) ∧ Below w.heap.size w w' := by
  have hz : ∀ w, (zeroValue 37).run Tryd.prog w = .ok (.agg (pfC Pf.zero).toArray) w := zero_pf
  have hmask := fun w => adMask_any a p.bits w ha h0 h1
  have hsz := info_adA ha
  have hw0 := heap_alloc_last w (.cells (adC a).toArray 24)
  have hw1 : PfAt ((w.alloc (.cells (adC a).toArray 24)).alloc (.cells (pfC p).toArray 37)) (w.heap.size + 1) p := by
    have := heap_alloc_last (w.alloc (.cells (adC a).toArray 24)) (.cells (pfC p).toArray 37)
    rwa [show (w.alloc (.cells (adC a).toArray 24)).heap.size = w.heap.size + 1 by simp] at this
  have hw01 := (heap_alloc_old (w.alloc (.cells (adC a).toArray 24)) (.cells (pfC p).toArray 37) (show w.heap.size < _ by simp)).trans hw0
  have hbits := pfC_bits hp hw1
  have hbz := up_alloc (up_alloc (Below.refl w.heap.size w) (.cells (adC a).toArray 24)) (.cells (pfC p).toArray 37)
  have hps := pfC_length hp
  cases hm : maskOf a p.bits with
  | none =>
    rw [hm] at hmask
    have hres := inP_none hm
    have hps2 := pfC_length (p := Pf.zero) rfl
    have hi0 := info_pfA (p := Pf.zero) rfl
    have hza := all_oneCell_toArray (pfC_one Pf.zero)
    have Hres := Lib.hid hres
    have HB := Lib.hid hbz
    simp only [Option.getD_none, Option.isSome_none, pfV, adV] at hmask
    have Hm := Lib.hid hmask
    clear hmask hm hres hbz hw0 hw1 ha hp
    rw [adV, pfV]
    generalize adC a = C at *
    generalize pfC p = D at *
    generalize pfC Pf.zero = Z at *
    go_enter Tryd.func54, Tryd.ntmps54
    go_wp2_with (first
      | ((with_reducible refine wpList_load_row (o := ⟨some 8, .load 24 (.tmp 2), _, _, _, _⟩) rfl 24 (.tmp 2) rfl w.heap.size ?_ 24 C.toArray (0, 0) _ hw01 Tryd.underlying24 rfl hsz ?_); exact rfl)
      | (go_at_call 71; refine (Hm.out _).mono ?_; rintro _ w2 ⟨rfl, hb2⟩)
      | (with_reducible refine wpList_alloc_zero (o := ⟨some 5, .alloc 37, _, _, _, _⟩) rfl 37 rfl Z.toArray hz ?_)
      | ((with_reducible refine wpList_store_new (o := ⟨none, .store 37 (.tmp 5) (.tmp 12), _, _, _, _⟩) rfl 37 (.tmp 5) (.tmp 12) rfl Z.toArray Z.toArray ?_ ?_ hi0 rfl hza ?_); exact rfl; exact rfl))
    go_ret
    exact ⟨by rw [Hres.out]; rfl, up_alloc (up HB.out hb2) _⟩
  | some q =>
    rw [hm] at hmask
    have hqw : q.a.Wide := by
      obtain ⟨_, _, _, rfl⟩ := maskOf_some hm
      exact maskA_wide ha _
    have hres := inP_some hm
    have hzq : (pfC Pf.zero).toArray.size = (pfC q).toArray.size := by rw [List.size_toArray, List.size_toArray, pfC_length hqw]; rfl
    have hi0 := info_pfA hqw
    have hza := all_oneCell_toArray (pfC_one q)
    have heq := eql16 q.a.b p.a.b hqw hp
    have hi16q := info16 q.a.b hqw
    have hi16p := info16 p.a.b hp
    have Hres := Lib.hid hres
    have HB := Lib.hid hbz
    have hP : Hid (∀ w2 o, Below ((w.alloc (.cells (adC a).toArray 24)).alloc (.cells (pfC p).toArray 37)).heap.size ((w.alloc (.cells (adC a).toArray 24)).alloc (.cells (pfC p).toArray 37)) w2 → PfAt (w2.alloc o) (w.heap.size + 1) p) := Lib.hid fun w2 o hb => by
      have h2 := PfAt.below hw1 hb (by simp)
      exact PfAt.below h2 ((Below.refl w2.heap.size w2).alloc (Nat.le_refl _) o) h2.lt
    have hQ : Hid (∀ w2 : World, PfAt (w2.alloc (.cells (pfC q).toArray 37)) w2.heap.size q) := Lib.hid fun w2 => heap_alloc_last w2 _
    simp only [Option.getD_some, Option.isSome_some, pfV, adV] at hmask
    have Hm := Lib.hid hmask
    clear hmask hm hres hbz hw0 hw1 ha hp
    rw [adV, pfV]
    obtain ⟨E, hE⟩ : ∃ E, E = pfC q := ⟨_, rfl⟩
    rw [← hE] at Hm hzq hi0 hza hQ
    generalize adC a = C at *
    obtain ⟨D, hD⟩ : ∃ D, D = pfC p := ⟨_, rfl⟩
    rw [← hD] at HB hP hw01 hbits hps ⊢
    generalize pfC Pf.zero = Z at *
    clear hE hD
    go_enter Tryd.func54, Tryd.ntmps54
    go_wp2_with (first
      | ((with_reducible refine wpList_load_row (o := ⟨some 8, .load 24 (.tmp 2), _, _, _, _⟩) rfl 24 (.tmp 2) rfl w.heap.size ?_ 24 C.toArray (0, 0) _ hw01 Tryd.underlying24 rfl hsz ?_); exact rfl)
      | (go_at_call 71; refine (Hm.out _).mono ?_; rintro _ w2 ⟨rfl, hb2⟩; have hp2 := hP.out w2 (.cells E.toArray 37) hb2; have hq2 := hQ.out w2; have k1 := pfC_six hp2; have k2 := pfC_six hq2; have k3 := pfC_range hp2; have k4 := pfC_range hq2)
      | (with_reducible refine wpList_alloc_zero (o := ⟨some 5, .alloc 37, _, _, _, _⟩) rfl 37 rfl Z.toArray hz ?_)
      | ((with_reducible refine wpList_store_new (o := ⟨none, .store 37 (.tmp 5) (.tmp 12), _, _, _, _⟩) rfl 37 (.tmp 5) (.tmp 12) rfl Z.toArray E.toArray ?_ ?_ hi0 hzq hza ?_); exact rfl; exact rfl)
      | ((with_reducible refine wpList_load_mid_g (op := ⟨some 27, .load 22 (.tmp 26), _, _, _, _⟩) ?_ 22 (.tmp 26) rfl w2.heap.size 1 ?_ (cellsB q.a.b) _ k4 Tryd.underlying22 rfl hi16q ?_); rfl; exact rfl)
      | ((with_reducible refine wpList_load_mid_g (op := ⟨some 30, .load 22 (.tmp 29), _, _, _, _⟩) ?_ 22 (.tmp 29) rfl (w.heap.size + 1) 1 ?_ (cellsB p.a.b) _ k3 Tryd.underlying22 rfl hi16p ?_); rfl; exact rfl))
    all_goals go_ret
    all_goals refine ⟨?_, up_alloc (up HB.out hb2) _⟩
    all_goals rw [Hres.out]
    all_goals first | rfl | simp_all
/-- Which prefixes are good. -/
theorem adGoodPrefix_any (p : Pf) (w : World) (hp : p.a.Wide) (h0 : -9223372036854775808 ≤ p.bits) (h1 : p.bits ≤ 9223372036854775807) :
    Calls Tryd.prog 39 #[pfV p] w fun e w' => e = .returned (.bool (decide p.Good)) ∧ Below w.heap.size w w' := by
  have hin := fun w => adIn_any p.a p w hp hp h0 h1
  have hw0 : PfAt (w.alloc (.cells (pfC p).toArray 37)) w.heap.size p := heap_alloc_last w _
  have k0 := pfC_range0 hw0
  have hps := info_pfA hp
  have hi24 := info_ad hp
  rw [PfAt] at hw0
  simp only [pfV, adV] at hin ⊢
  have Hin := Lib.hid hin
  clear hin
  generalize pfC p = D at *
  go_enter Tryd.func39, Tryd.ntmps39
  go_wp2_with (first
    | ((with_reducible refine wpList_load_mid (op := ⟨some 4, .load 24 (.tmp 3), _, _, _, _⟩) rfl 24 (.tmp 3) rfl w.heap.size 0 ?_ (adC p.a) _ k0 Tryd.underlying24 rfl hi24 ?_); exact rfl)
    | ((with_reducible refine wpList_load_row (o := ⟨some 5, .load 37 (.tmp 1), _, _, _, _⟩) rfl 37 (.tmp 1) rfl w.heap.size ?_ 37 D.toArray (0, 0) _ hw0 Tryd.underlying37 rfl hps ?_); exact rfl)
    | (go_at_call 54; refine (Hin.out _).mono ?_; rintro _ w2 ⟨rfl, hb2⟩))
  go_ret
  exact ⟨rfl, up (up_alloc (Below.refl _ _) _) hb2⟩
end Go.Proofs.YtepibdjglfaniaaDoor
