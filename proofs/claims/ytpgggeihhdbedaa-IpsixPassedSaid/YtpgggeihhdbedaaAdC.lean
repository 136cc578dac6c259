/-
  The address of bytes: a contract.
-/
import Derived.Test.YtpgggeihhdbedaaAdB
import Derived.Laws.CopyOwn
namespace Go.Proofs.Ytpgggeihhdbedaa
open Go.RowKit
theorem grown_below {w w1 w2 : World} {g : Nat} (h : Below w.heap.size w w1) (hg : w1.grownBy w2 (some g)) (hgw : w.heap.size ≤ g) : Below w.heap.size w w2 :=
  h.trans ((Only.grown (F := fun k => w.heap.size ≤ k) hg (fun k hk => by cases hk; exact hgw)).below h.size)
/-- An address that lies in a block, and a bool: returned. -/
theorem ret_ad {fn : Func} {p q : Tmp} (h : fn.results = #[.cell p 24, .tmp q]) {tmps : Array Value} {w : World} {g : Nat} {a : Ad} {b : Bool} (hp : tmps.getD p undef = .pointer (some ⟨g, 0, none⟩)) (hg : AdAt w g a) (ha : a.Wide) (hq : tmps.getD q undef = .bool b) :
    (results fn tmps).run Try.prog w = .ok (.tuple #[adV a, .bool b]) w := by
  rw [← hq]
  exact results_cell_tmp h tmps w g 24 (adC a).toArray (0, 0) _ hp hg Try.underlying24 rfl (info_adA ha)
set_option maxRecDepth 100000 in
theorem adOf_four (A : Option Addr) (c : Nat) (l : List UInt8) (w : World) (B : Nat) (hr : Rd w B (.slice A l.length c) (cellsB l)) (hB : B ≤ w.heap.size) (hl : l.length = 4) :
    Calls Try.prog 25 #[.slice A l.length c] w fun e w' => e = .returned (.tuple #[adV ⟨false, List.replicate 12 0 ++ l⟩, .bool true]) ∧ Below w.heap.size w w' := by
  obtain ⟨x, y, z, u, rfl⟩ : ∃ x y z u, l = [x, y, z, u] := by
    match l, hl with
    | [x, y, z, u], _ => exact ⟨x, y, z, u, rfl⟩
  obtain ⟨b, o, rfl, hb, hc⟩ := hr.addr (by simp)
  have hw := heap_alloc_last w (.cells (adC Ad.zero).toArray 24)
  have hcell : ∀ j, (w.alloc (.cells (adC Ad.zero).toArray 24)).cell? ⟨b, o + j, none⟩ = w.cell? ⟨b, o + j, none⟩ := fun j => World.cell?_alloc_lt w _ _ (show b < w.heap.size by omega)
  have c0 := (hcell 0).trans (hc 0 (by simp))
  have c1 := (hcell 1).trans (hc 1 (by simp))
  have c2 := (hcell 2).trans (hc 2 (by simp))
  have c3 := (hcell 3).trans (hc 3 (by simp))
  simp only [List.getElem_cons_zero, List.getElem_cons_succ] at c0 c1 c2 c3
  rw [Nat.add_zero] at c0
  have hz := zero_ad
  have hf := fun w => adFour_any x y z u w
  have hx : (four x y z u).Wide := rfl
  have e : four x y z u = ⟨false, List.replicate 12 0 ++ [x, y, z, u]⟩ := rfl
  rw [← e]
  generalize four x y z u = a at hf hx
  have hi := info_adA hx
  have Hf := Lib.hid hf
  have Hx := Lib.hid hx
  have Hw := Lib.hid hw
  obtain ⟨Z, hZ⟩ : ∃ Z, Z = (adC Ad.zero).toArray := ⟨_, rfl⟩
  rw [adV, ← hZ] at hz
  rw [← hZ] at c0 c1 c2 c3
  have HZ := Lib.hid hZ
  clear hf hx hw hcell hc hr e hl hZ
  simp only [List.length_cons, List.length_nil]
  go_enter Try.func25, Try.ntmps25
  go_wp2_with (first
    | (with_reducible refine wpList_alloc_zero (o := ⟨some 2, .alloc 24, _, _, _, _⟩) rfl 24 rfl Z hz ?_))
  go_region_held3 (fun w' => w'.cell? ⟨b, o, none⟩ = some (.int .u8 (x.toNat : Int)) ∧ w'.cell? ⟨b, o + 1, none⟩ = some (.int .u8 (y.toNat : Int)) ∧ w'.cell? ⟨b, o + 2, none⟩ = some (.int .u8 (z.toNat : Int)) ∧ w'.cell? ⟨b, o + 3, none⟩ = some (.int .u8 (u.toNat : Int)))
    (first | exact ⟨c0, c1, c2, c3⟩ | exact ⟨(hk _).trans c0, (hk _).trans c1, (hk _).trans c2, (hk _).trans c3⟩ | exact HS.out)
    (first | (go_at_call 27; refine (Hf.out _).mono ?_; rintro _ w1 ⟨rfl, hb1⟩; have hk : ∀ o, w1.cell? ⟨b, o, none⟩ = (w.alloc (.cells Z 24)).cell? ⟨b, o, none⟩ := (fun o => hb1.cell (by simp; omega)); have hln := adC_length Hx.out; obtain ⟨w2, hst, hsc, hat, hgr, hsz⟩ := store_ad (w := w1) (AdAt.below (B := (w.alloc (.cells Z 24)).heap.size) (g := w.heap.size) (a := Ad.zero) (by have h := Hw.out; rw [← HZ.out] at h; rw [AdAt, ← HZ.out]; exact h) hb1 (by simp)) rfl Hx.out; have HS : Hid (w2.cell? ⟨b, o, none⟩ = some (.int .u8 (x.toNat : Int)) ∧ w2.cell? ⟨b, o + 1, none⟩ = some (.int .u8 (y.toNat : Int)) ∧ w2.cell? ⟨b, o + 2, none⟩ = some (.int .u8 (z.toNat : Int)) ∧ w2.cell? ⟨b, o + 3, none⟩ = some (.int .u8 (u.toNat : Int))) := (Lib.hid (by have hq : ∀ o, w2.cell? ⟨b, o, none⟩ = w1.cell? ⟨b, o, none⟩ := (fun o => World.cell?_of_block (hgr.block b (by have := hb1.size; simp at this ⊢; omega) (fun e => by cases e; omega))); exact ⟨(hq _).trans ((hk _).trans c0), (hq _).trans ((hk _).trans c1), (hq _).trans ((hk _).trans c2), (hq _).trans ((hk _).trans c3)⟩))))
  go_wp2_with fail
  refine bodyPost_ret (ret_ad (p := 2) (q := 3) (by kernel_rfl) rfl hat Hx.out rfl) rfl ⟨rfl, ?_⟩
  exact grown_below (up (up_drew (up_alloc (Below.refl _ w) (.cells Z 24))) hb1) hgr (Nat.le_refl _)
set_option maxRecDepth 100000 in
theorem adOf_none_ (A : Option Addr) (c : Nat) (l : List UInt8) (w : World) (hl4 : l.length ≠ 4) (hl16 : l.length ≠ 16) :
    Calls Try.prog 25 #[.slice A l.length c] w fun e w' => e = .returned (.tuple #[adV Ad.zero, .bool false]) ∧ Below w.heap.size w w' := by
  have hw := heap_alloc_last w (.cells (adC Ad.zero).toArray 24)
  have hz := zero_ad
  have hln := adC_length (a := Ad.zero) rfl
  obtain ⟨w2, hst, hsc, hat, hgr, hsz⟩ := store_ad (w := w.alloc (.cells (adC Ad.zero).toArray 24)) (g := w.heap.size) (a := Ad.zero) (b := Ad.zero) hw rfl rfl
  have hbu : ∀ W, (Instr.build 24 #[]).run Try.prog W = .ok (adV Ad.zero) W := fun W => by
    simp [Instr.build, hz, go_sem]
  generalize l.length = n at hl4 hl16 ⊢
  have h4 : ((n : Int) == 4) = false := by simp; omega
  have h16 : ((n : Int) == 16) = false := by simp; omega
  have Hat := Lib.hid hat
  have Hbel := Lib.hid (grown_below (up_alloc (Below.refl _ w) (.cells (adC Ad.zero).toArray 24)) hgr (Nat.le_refl _))
  clear hat hgr hsz hw hl4 hl16
  generalize hZ : adC Ad.zero = Z at *
  go_enter Try.func25, Try.ntmps25
  go_wp2_with (first
    | (with_reducible refine wpList_alloc_zero (o := ⟨some 2, .alloc 24, _, _, _, _⟩) rfl 24 rfl Z.toArray hz ?_))
  exact bodyPost_ret (ret_ad (p := 2) (q := 3) (by kernel_rfl) rfl Hat.out rfl rfl) rfl ⟨rfl, Hbel.out⟩
set_option maxRecDepth 100000 in
theorem adOf_six (A : Option Addr) (c : Nat) (l : List UInt8) (w : World) (B : Nat) (hr : Rd w B (.slice A l.length c) (cellsB l)) (hB : B ≤ w.heap.size) (hl : l.length = 16) :
    Calls Try.prog 25 #[.slice A l.length c] w fun e w' => e = .returned (.tuple #[adV ⟨true, l⟩, .bool true]) ∧ Below w.heap.size w w' := by
  obtain ⟨b, o, rfl, hb, hc⟩ := hr.addr (by omega)
  have hz := zero_ad
  obtain ⟨x, hx⟩ : ∃ x : Ad, x = ⟨true, List.replicate 16 0⟩ := ⟨_, rfl⟩
  have hxw : x.Wide := by rw [hx]; rfl
  have h0 := heap_alloc_last w (.cells (adC Ad.zero).toArray 24)
  have h1 := heap_alloc_last (w.alloc (.cells (adC Ad.zero).toArray 24)) (.cells (adC x).toArray 24)
  have h01 := (heap_alloc_old (w.alloc (.cells (adC Ad.zero).toArray 24)) (.cells (adC x).toArray 24) (show w.heap.size < _ by simp)).trans h0
  rw [show (w.alloc (.cells (adC Ad.zero).toArray 24)).heap.size = w.heap.size + 1 by simp] at h1
  have hspl : splice (adC x) 1 (cellsB l) = adC ⟨true, l⟩ := by
    rw [hx]
    simp [splice, adC, cellsB, hl]
  have hbz := up_alloc (up_alloc (Below.refl w.heap.size w) (.cells (adC Ad.zero).toArray 24)) (.cells (adC x).toArray 24)
  have hsrc : ∀ j v, (cellsB l)[j]? = some v → ((w.alloc (.cells (adC Ad.zero).toArray 24)).alloc (.cells (adC x).toArray 24)).cell? ((⟨b, o, none⟩ : Addr).add j) = some v := fun j v hj => by
    rw [Addr.add_lit, hbz.cell (show b < w.heap.size by omega)]
    obtain ⟨_, _, e, _, _, _, h4⟩ := hr
    obtain ⟨b', o', e2, _, hc'⟩ := h4 (by rw [cellsB_length]; omega)
    injection e with e1
    rw [← e1] at e2
    cases e2
    exact hc' j v hj
  have hxi := info_adA hxw
  have hyw : (Ad.mk true l).Wide := hl
  have hyi := info_adA hyw
  generalize hy : Ad.mk true l = y at hspl hyw hyi ⊢
  have hS : Hid (∀ w2, w2.heap[w.heap.size + 1]? = some (.cells (splice (adC x) 1 (cellsB l)).toArray 24 (0, 0)) → Below (w.heap.size + 1) ((w.alloc (.cells (adC Ad.zero).toArray 24)).alloc (.cells (adC x).toArray 24)) w2 →
      w2.heap[w.heap.size + 1]? = some (.cells (adC y).toArray 24 (0, 0)) ∧ ∃ w3, (Instr.storeAt 24 (.pointer (some ⟨w.heap.size, 0, none⟩)) (adV y)).run Try.prog w2 = .ok () w3 ∧ AdAt w3 w.heap.size y ∧ Below w.heap.size w w3) := Lib.hid fun w2 hg hb2 => by
    rw [hspl] at hg
    obtain ⟨w3, hst, _, hat, hgr, _⟩ := store_ad (w := w2) (g := w.heap.size) (a := Ad.zero) (b := y) ((hb2.block _ (Nat.lt_succ_self _)).trans h01) rfl hyw
    exact ⟨hg, w3, hst, hat, grown_below (hbz.trans (hb2.mono (Nat.le_succ _))) hgr (Nat.le_refl _)⟩
  have hL : (cellsB l).length = Nat.min l.length 16 := by rw [cellsB_length, hl]; rfl
  have hfit : 1 + (cellsB l).length ≤ (adC x).length := by rw [cellsB_length, hl, adC_length hxw]; omega
  have hone := adC_one x
  have hzs : (adC Ad.zero).toArray.size = (adC x).toArray.size := by rw [List.size_toArray, List.size_toArray, adC_length hxw]; rfl
  have hxa := all_oneCell_toArray (adC_one x)
  have H1 := Lib.hid h1
  have HL := Lib.hid hL
  have Hfit := Lib.hid hfit
  have Hsrc := Lib.hid hsrc
  have Hy := Lib.hid hyw
  rw [hl] at HL ⊢
  have hne : ¬ adC Ad.zero = [] := by simp [adC]
  have hx2 : adC x = (adC Ad.zero).set 0 (.bool true) := by rw [hx]; rfl
  rw [hx2] at hxi hzs hxa H1 Hfit Hsrc hS
  clear hx2
  generalize hZ : adC Ad.zero = Z at *
  clear h0 h1 h01 hspl hbz hsrc hc hr hL hfit hy hyw hxw hx hone
  go_enter Try.func25, Try.ntmps25
  go_wp2_with (first
    | (with_reducible refine wpList_alloc_zero (o := ⟨some 2, .alloc 24, _, _, _, _⟩) rfl 24 rfl Z.toArray hz ?_)
    | (with_reducible refine wpList_alloc_zero (o := ⟨some 4, .alloc 24, _, _, _, _⟩) rfl 24 rfl Z.toArray hz ?_)
    | ((with_reducible refine wpList_store_new (o := ⟨none, .store 24 (.tmp 4) (.tmp 24), _, _, _, _⟩) rfl 24 (.tmp 4) (.tmp 24) rfl Z.toArray (Z.set 0 (.bool true)).toArray ?_ ?_ hxi hzs hxa ?_); exact (show Value.pointer (some ⟨w.heap.size + 1, 0, none⟩) = _ by simp); exact rfl)
    | (refine wpList_copy_splice rfl (.tmp 26) (.tmp 27) 27 27 rfl 5 Try.underlying27 (by kernel_rfl) _ _ _ _ _ _ rfl rfl (w.heap.size + 1) 1 (Z.set 0 (.bool true)) 24 H1.out (cellsB l) HL.out (fun hp => ⟨rfl, _, rfl, Hsrc.out⟩) Hfit.out (cellsB_one _) (w.heap.size + 1) _ (Below.refl _ _) (Nat.le_refl _) ?_; intro w2 hg2 hb2; obtain ⟨hg3, w3, hst, hat, hbel⟩ := hS.out w2 hg2.out hb2; have HB3 := Lib.hid (And.intro hat hbel); clear hg2 hb2 hat hbel)
    | ((with_reducible refine wpList_load_row (o := ⟨some 29, .load 24 (.tmp 4), _, _, _, _⟩) rfl 24 (.tmp 4) rfl (w.heap.size + 1) ?_ 24 (adC y).toArray (0, 0) _ hg3 Try.underlying24 rfl hyi ?_); exact rfl)
    | ((with_reducible refine wpList_stored (o := ⟨none, .store 24 (.tmp 2) (.tmp 29), _, _, _, none⟩) rfl 24 (.tmp 2) (.tmp 29) rfl (.pointer (some ⟨w.heap.size, 0, none⟩)) (adV y) ?_ ?_ w3 hst ?_); exact rfl; exact rfl))
  exact bodyPost_ret (ret_ad (p := 2) (q := 3) (by kernel_rfl) rfl HB3.out.1 Hy.out rfl) rfl ⟨rfl, HB3.out.2⟩
/-- The address of bytes, or that there is none. -/
theorem adOf_any (A : Option Addr) (c : Nat) (l : List UInt8) (w : World) (B : Nat) (hr : Rd w B (.slice A l.length c) (cellsB l)) (hB : B ≤ w.heap.size) :
    Calls Try.prog 25 #[.slice A l.length c] w fun e w' => e = .returned (.tuple #[adV ((adBytes l).getD Ad.zero), .bool (adBytes l).isSome]) ∧ Below w.heap.size w w' := by
  unfold adBytes
  by_cases h4 : l.length = 4
  · rw [if_pos h4]; exact adOf_four A c l w B hr hB h4
  · rw [if_neg h4]
    by_cases h16 : l.length = 16
    · rw [if_pos h16]; exact adOf_six A c l w B hr hB h16
    · rw [if_neg h16]; exact adOf_none_ A c l w h4 h16
end Go.Proofs.Ytpgggeihhdbedaa
