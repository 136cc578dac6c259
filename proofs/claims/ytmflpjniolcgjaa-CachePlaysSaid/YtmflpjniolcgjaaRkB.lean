/-
  The document's device: what a sector has now, Read, Waiting, Ints: contracts.
-/
import Derived.Test.YtmflpjniolcgjaaRkA
namespace Go.Proofs.Ytmflpjniolcgjaa
open Go.RowKit
/-- A sector's bytes now. -/
def Ref.now (x : Ref) (i : Nat) : List UInt8 := (vers x.W i).getLast?.getD (x.L.getD i [])
section
variable {w w' : World} {G G' Z Z' : Nat → Prop} {q : Nat} {vL vA vB : Value} {ls bs : List Value} {x : Ref}
/-- The versions of a sector, their number known. -/
theorem versions_len (h : RefIs w G Z q vL vA vB ls bs x) (hn : x.n < 1000000) (i : Nat) {m : Nat} (hm : (vers x.W i).length = m) :
    Calls Try.prog 43 #[at0 q, .int .i64 (i : Int)] w fun e w' => ∃ A c, e = .returned (.slice A m c) ∧ Below w.heap.size w w' ∧ ∀ k, k < m → ∃ g gu cu, A = some ⟨g, 0, none⟩ ∧ w.heap.size ≤ g ∧ g < w'.heap.size ∧ w'.cell? ⟨g, k, none⟩ = some (.slice (some ⟨gu, 0, none⟩) 256 cu) ∧ SecIs w' Z (.slice (some ⟨gu, 0, none⟩) 256 cu) ((vers x.W i).getD k []) := by
  refine (versions_any h hn i).mono ?_
  rintro e w' ⟨v, vs, rfl, hown, hel, hb⟩
  obtain ⟨A, c, rfl⟩ := hown.form
  have hl : vs.length = m := by rw [hel.1, hm]
  rw [hl]
  rw [hl] at hown
  refine ⟨A, c, rfl, hb, fun k hk => ?_⟩
  obtain ⟨u, hu, hs⟩ := hel.at_ (k := k) (by omega)
  obtain ⟨gu, cu, eu, _⟩ := hs.at_
  obtain ⟨g, c', cur, e1, hg, _⟩ := hown.at_ (by omega)
  injection e1 with e1 e2 e3
  subst e1
  have h1 := hown.cellAt hu
  rw [eu] at h1 hs
  rw [List.getD_eq_getElem?_getD, List.getElem?_eq_getElem (by omega), Option.getD_some]
  exact ⟨g, gu, cu, rfl, hown.lt.1, hown.lt.2, h1, hs⟩
theorem RefIs.wl (h : RefIs w G Z q vL vA vB ls bs x) : Wide x.L := h.eL.wide
/-- Sector i that lasts, by its slice. -/
theorem RefIs.last_at (h : RefIs w G Z q vL vA vB ls bs x) : ∃ A c, vL = .slice A x.L.length c ∧ w.cell? ⟨q, 0, none⟩ = some (.slice A x.L.length c) ∧ ∀ i, i < x.L.length → ∃ g gu cu, A = some ⟨g, 0, none⟩ ∧ g < w.heap.size ∧ G g ∧ g ≠ q ∧ w.cell? ⟨g, i, none⟩ = some (.slice (some ⟨gu, 0, none⟩) 256 cu) ∧ SecIs w Z (.slice (some ⟨gu, 0, none⟩) 256 cu) (x.L.getD i []) := by
  obtain ⟨A, c, hA⟩ := h.rL.form
  have hl := h.eL.1
  rw [hl] at hA
  have hown := h.rL
  rw [hA] at hown
  refine ⟨A, c, hA, by rw [← hA]; exact h.c0, fun i hi => ?_⟩
  obtain ⟨u, hu, hs⟩ := h.eL.at_ hi
  obtain ⟨gu, cu, eu, _⟩ := hs.at_
  obtain ⟨g, c', cur, e1, hg, _⟩ := hown.at_ (by omega)
  injection e1 with e1 e2 e3
  subst e1
  have h1 := hown.cellAt hu
  rw [eu] at h1 hs
  rw [List.getD_eq_getElem?_getD, List.getElem?_eq_getElem hi, Option.getD_some]
  refine ⟨g, gu, cu, rfl, hown.lt.2, h.inG.2.1 g (by rw [hA]; rfl), fun e => ?_, h1, hs⟩
  subst e
  exact hown.notAt h.top (by decide) rfl
set_option maxRecDepth 100000 in
set_option maxHeartbeats 400000 in
theorem rnow_any (h : RefIs w G Z q vL vA vB ls bs x) (hn : x.n < 1000000) {i : Nat} (hi : i < x.L.length) : Calls Try.prog 21 #[at0 q, .int .i64 (i : Int)] w fun e w' => ∃ gu cu, e = .returned (.slice (some ⟨gu, 0, none⟩) 256 cu) ∧ SecIs w' Z (.slice (some ⟨gu, 0, none⟩) 256 cu) (x.now i) ∧ Below w.heap.size w w' := by
  obtain ⟨m, hm⟩ : ∃ m, m = (vers x.W i).length := ⟨_, rfl⟩
  have hv := Lib.hid (versions_len h hn i hm.symm)
  rcases m with _ | m
  · obtain ⟨A, c, hA, c0, hl⟩ := h.last_at
    obtain ⟨g, gu, cu, rfl, hg, hGg, hgq, hc, hs⟩ := hl i hi
    have hnow : x.now i = x.L.getD i [] := by
      unfold Ref.now
      rw [List.eq_nil_of_length_eq_zero hm.symm]
      rfl
    rw [hnow]
    have hq := h.lt
    clear h hm hnow hl
    go_enter Try.func21, Try.ntmps21
    go_wp2_with (go_at_call 43; refine hv.out.mono ?_; rintro e w1 ⟨A1, c1, rfl, hb, _⟩; have c0' := (hb.cell (p := ⟨q, 0, none⟩) hq).trans c0; have hc' := (hb.cell (p := ⟨g, i, none⟩) hg).trans hc; have HS := Lib.hid (hs.keep (w' := w1) fun k hk _ => hb.block k hk))
    go_ret
    exact ⟨_, _, rfl, HS.out, hb⟩
  · have hnow : x.now i = (vers x.W i).getD m [] := by
      unfold Ref.now
      rw [List.getLast?_eq_getElem?, ← hm, Nat.add_sub_cancel, List.getElem?_eq_getElem (by omega), Option.getD_some]
      simp [List.getD_eq_getElem?_getD, List.getElem?_eq_getElem (show m < (vers x.W i).length by omega)]
    rw [hnow]
    have hmn : m < 1000000 := by
      have h1 := h.few
      have h2 : (vers x.W i).length ≤ x.W.length := by unfold vers; rw [List.length_map]; exact List.length_filter_le _ _
      omega
    obtain ⟨l, hl⟩ : ∃ l, l = (vers x.W i).getD m [] := ⟨_, rfl⟩
    rw [← hl]
    have Hl := Lib.hid hl
    clear h hnow hl hm hn hi
    go_enter Try.func21, Try.ntmps21
    go_wp2_with (go_at_call 43; refine hv.out.mono ?_; rintro e w1 ⟨A1, c1, rfl, hb, hall⟩; obtain ⟨g, gu, cu, rfl, hg1, hg2, hc, hs⟩ := hall m (Nat.lt_succ_self _); rw [← Hl.out] at hs; have HS := Lib.hid hs; clear hs hall)
    go_ret
    exact ⟨_, _, rfl, HS.out, hb⟩
end
/-- The first k sectors for which something waits. -/
def waitsUp (W : List (Nat × List UInt8)) (k : Nat) : List Nat := (List.range k).filter fun i => !(vers W i).isEmpty
theorem waitsUp_succ (W : List (Nat × List UInt8)) (k : Nat) : waitsUp W (k + 1) = waitsUp W k ++ if (vers W k).length = 0 then [] else [k] := by
  unfold waitsUp
  rw [List.range_succ, List.filter_append]
  congr 1
  rcases h : vers W k with _ | ⟨a, l⟩
  · simp [h]
  · simp [h]
theorem waitsUp_le (W : List (Nat × List UInt8)) (k : Nat) : (waitsUp W k).length ≤ k := by
  unfold waitsUp
  exact Nat.le_trans (List.length_filter_le _ _) (by simp)
/-- The sectors for which something waits. -/
def Ref.waits (x : Ref) : List Nat := waitsUp x.W x.L.length
theorem info_int : (Try.prog.info? 3).map (fun i => (i.zero, i.size, i.bytes)) = some (some (.int .i64 0), 1, 8) := by kernel_rfl
section
variable {w w' : World} {G G' Z Z' : Nat → Prop} {q : Nat} {vL vA vB : Value} {ls bs : List Value} {x : Ref}
/-- Ints, of like numbers. -/
theorem ints_same {l : List Nat} {A A2 : Option Addr} {c c2 n : Nat} (h1 : ∀ k, k < n → ∃ g o, A = some ⟨g, o, none⟩ ∧ w.cell? ⟨g, o + k, none⟩ = some (.int .i64 ((l.getD k 0 : Nat) : Int))) (h2 : ∀ k, k < n → ∃ g o, A2 = some ⟨g, o, none⟩ ∧ w.cell? ⟨g, o + k, none⟩ = some (.int .i64 ((l.getD k 0 : Nat) : Int))) (hs : n < 1000000) :
    Calls Try.prog 14 #[.slice A n c, .slice A2 n c2] w fun e w' => e = .returned (.bool true) ∧ Below w.heap.size w w' := by
  have H1 := Lib.hid h1
  have H2 := Lib.hid h2
  clear h1 h2
  go_enter Try.func14, Try.ntmps14
  go_wp2_with fail
  go_loopw [5] (fun iv wr => ∃ k : Nat, k ≤ n ∧ iv = .int .i64 (k : Int) ∧ Below w.heap.size w wr) (fun iv _ => n - (intOf iv).toNat)
  case atStart => exact ⟨0, by omega, rfl, Below.refl _ _⟩
  case round =>
    obtain ⟨k, hkn, rfl, hbel⟩ := hrel
    by_cases hk : k < n
    · obtain ⟨g, o, rfl, e1⟩ := H1.out k hk
      obtain ⟨g2, o2, rfl, e2⟩ := H2.out k hk
      have e1' : wr.cell? ⟨g, o + k, none⟩ = _ := (hbel.cell (p := ⟨g, o + k, none⟩) (World.block_lt_of_cell? _ _ e1)).trans e1
      have e2' : wr.cell? ⟨g2, o2 + k, none⟩ = _ := (hbel.cell (p := ⟨g2, o2 + k, none⟩) (World.block_lt_of_cell? _ _ e2)).trans e2
      have hk0 : (0 : Int) ≤ (k : Int) := by omega
      have hk1 : (k : Int) < (n : Int) := by omega
      have htk : (k : Int).toNat = k := by omega
      clear e1 e2
      go_wp2_with fail
      go_region_held3 (fun w' => w'.cell? ⟨g, o + k, none⟩ = some (.int .i64 ((l.getD k 0 : Nat) : Int)) ∧ w'.cell? ⟨g2, o2 + k, none⟩ = some (.int .i64 ((l.getD k 0 : Nat) : Int))) (simp [*]) (fail)
      go_wp2_with fail
      go_roundw
      case rel => exact ⟨k + 1, by omega, by go_num, hbel.drew⟩
      case measure => simp [intOf]; omega
    · have hkm2 : k = n := by omega
      subst hkm2
      go_wp2_with fail
      go_ret
      exact ⟨rfl, hbel⟩
end
section
variable {w w' : World} {G G' Z Z' : Nat → Prop} {q : Nat} {vL vA vB : Value} {ls bs : List Value} {x : Ref}
theorem rhas_in (h : RefIs w G Z q vL vA vB ls bs x) {i : Nat} (hi : i < x.L.length) : Calls Try.prog 67 #[at0 q, .int .i64 (i : Int)] w fun e w' => e = .returned (.bool true) ∧ w = w' := by
  obtain ⟨A, c, _, c0, _⟩ := h.last_at
  exact rhas_yes c0 hi
theorem rhas_out (h : RefIs w G Z q vL vA vB ls bs x) {i : Int} (hi : i < 0 ∨ (x.L.length : Int) ≤ i) : Calls Try.prog 67 #[at0 q, .int .i64 i] w fun e w' => e = .returned (.bool false) ∧ w = w' := by
  obtain ⟨A, c, _, c0, _⟩ := h.last_at
  exact rhas_no c0 hi
theorem rread_arg (h : RefIs w G Z q vL vA vB ls bs x) {i : Int} (hi : i < 0 ∨ (x.L.length : Int) ≤ i) :
    Calls Try.prog 59 #[at0 q, .int .i64 i] w fun e w' => ∃ A c, e = .returned (.tuple #[.slice A 0 c, .int .i64 1]) ∧ Rd w' w'.heap.size (.slice A 0 c) (cellsB []) ∧ Below w.heap.size w w' := by
  have hh := Lib.hid (rhas_out h hi)
  clear h hi
  go_enter Try.func59, Try.ntmps59
  go_wp2_with (go_at_call 67; refine hh.out.mono ?_; rintro e w' ⟨rfl, rfl⟩)
  go_ret2
  exact ⟨_, _, rfl, (Mine.empty w 0 5 (Nat.zero_le _)).rd, (Below.refl _ _).alloc (Nat.le_refl _) _⟩
theorem rread_io {i : Nat} (h : RefIs w G Z q vL vA vB ls bs x) (hi : i < x.L.length) (hb : x.burns 1 = true) :
    Calls Try.prog 59 #[at0 q, .int .i64 (i : Int)] w fun e w' => ∃ A c, e = .returned (.tuple #[.slice A 0 c, .int .i64 3]) ∧ Rd w' w'.heap.size (.slice A 0 c) (cellsB []) ∧ RefIs w' G Z q vL vA vB ls bs (x.burn 1) ∧ Only G w w' := by
  have hh := Lib.hid (rhas_in h hi)
  have hf := burns_any h (k := 1) (by omega)
  rw [hb] at hf
  have Hf := Lib.hid hf
  clear h hi hb hf
  go_enter Try.func59, Try.ntmps59
  go_wp2_with (first
    | (go_at_call 67; refine hh.out.mono ?_; rintro e w' ⟨rfl, rfl⟩)
    | (go_at_call 68; refine Hf.out.mono ?_; rintro e w1 ⟨rfl, hd, ho⟩))
  go_ret2
  exact ⟨_, _, rfl, (Mine.empty w1 0 5 (Nat.zero_le _)).rd, hd.below ((Below.refl _ _).alloc (Nat.le_refl _) _), ho.trans (Only.alloc _ _ _)⟩
theorem rread_ok {i : Nat} (h : RefIs w G Z q vL vA vB ls bs x) (hi : i < x.L.length) (hb : x.burns 1 = false) (hn : x.n < 1000000) :
    Calls Try.prog 59 #[at0 q, .int .i64 (i : Int)] w fun e w' => ∃ gu cu, e = .returned (.tuple #[.slice (some ⟨gu, 0, none⟩) 256 cu, .int .i64 0]) ∧ SecIs w' Z (.slice (some ⟨gu, 0, none⟩) 256 cu) (x.now i) ∧ RefIs w' G Z q vL vA vB ls bs (x.burn 1) ∧ Only G w w' := by
  have hh := Lib.hid (rhas_in h hi)
  have hf := burns_any h (k := 1) (by omega)
  rw [hb] at hf
  have Hf := Lib.hid hf
  have hnow : ∀ w1, RefIs w1 G Z q vL vA vB ls bs (x.burn 1) → Calls Try.prog 21 #[at0 q, .int .i64 (i : Int)] w1 fun e w' => ∃ gu cu, e = .returned (.slice (some ⟨gu, 0, none⟩) 256 cu) ∧ SecIs w' Z (.slice (some ⟨gu, 0, none⟩) 256 cu) (x.now i) ∧ Below w1.heap.size w1 w' := fun w1 h1 => rnow_any h1 hn hi
  have Hnow := Lib.hid hnow
  clear h hi hb hf hnow
  go_enter Try.func59, Try.ntmps59
  go_wp2_with (first
    | (go_at_call 67; refine hh.out.mono ?_; rintro e w' ⟨rfl, rfl⟩)
    | (go_at_call 68; refine Hf.out.mono ?_; rintro e w1 ⟨rfl, hd, ho⟩)
    | (go_at_call 21; refine (Hnow.out _ hd).mono ?_; rintro e w2 ⟨gu, cu, rfl, hs, hb2⟩; have HS := Lib.hid hs; clear hs))
  go_ret2
  exact ⟨_, _, rfl, HS.out, hd.below hb2, ho.trans (Only.of_below hb2)⟩
theorem rfail_arg {k a : Int} (w : World) (q : Nat) (h : k < 1 ∨ 3 < k ∨ a < 0) : Calls Try.prog 34 #[at0 q, .int .i64 k, .int .i64 a] w fun e w' => e = .returned (.int .i64 1) ∧ w = w' := by
  by_cases h1 : k < 1
  · go_enter Try.func34, Try.ntmps34
    go_wp2_with fail
    go_ret
    exact ⟨rfl, rfl⟩
  · by_cases h2 : 3 < k
    · go_enter Try.func34, Try.ntmps34
      go_wp2_with fail
      go_ret
      exact ⟨rfl, rfl⟩
    · have h3 : a < 0 := by omega
      go_enter Try.func34, Try.ntmps34
      go_wp2_with fail
      go_ret
      exact ⟨rfl, rfl⟩
/-- The call of kind k is to fail behind a more. -/
def Ref.told (x : Ref) (k a : Nat) : Ref := { x with f := fun j => if j = k then (a : Int) else x.f j }
theorem rfail_any (h : RefIs w G Z q vL vA vB ls bs x) {k a : Nat} (hk1 : 1 ≤ k) (hk3 : k ≤ 3) (ha : a ≤ 9223372036854775807) :
    Calls Try.prog 34 #[at0 q, .int .i64 (k : Int), .int .i64 (a : Int)] w fun e w' => e = .returned (.int .i64 0) ∧ RefIs w' G Z q vL vA vB ls bs (x.told k a) ∧ Only G w w' := by
  have c := h.cf (k := k) (by omega)
  have hf := h.free (3 + k)
  have hfin : RefIs (w.setCell ⟨q, 3 + k, none⟩ (.int .i64 (a : Int))) G Z q vL vA vB ls bs (x.told k a) := h.fuse_set (by omega) (by omega) rfl (grown_cell _ _ _ _)
  have ho : Only G w (w.setCell ⟨q, 3 + k, none⟩ (.int .i64 (a : Int))) := Only.setCell (p := ⟨q, 3 + k, none⟩) h.inG.1 _
  have Hfin := Lib.hid hfin
  have Ho := Lib.hid ho
  clear hfin ho h
  go_enter Try.func34, Try.ntmps34
  go_wp2_with fail
  go_ret
  exact ⟨rfl, Hfin.out, Ho.out⟩
end
end Go.Proofs.Ytmflpjniolcgjaa
