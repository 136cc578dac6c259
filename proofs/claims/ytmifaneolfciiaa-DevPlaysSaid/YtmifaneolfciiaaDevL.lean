/-
  Fail and Spoil, on a device: contracts.
-/
import Derived.Test.YtmifaneolfciiaaDevJ
import Derived.StillTailTactics
import Derived.Laws.BitsAllLaws
namespace Go.Proofs.Ytmifaneolfciiaa
open Go.RowKit
/-- The call of kind k is to fail behind a more. -/
def Dev.told (d : Dev) (k a : Nat) : Dev := { d with f := fun j => if j = k then (true, a) else d.f j }
/-- A sector, one byte put together with another. -/
def spoilB (l : List UInt8) (at_ : Nat) (by_ : UInt8) : List UInt8 := l.set at_ (l.getD at_ 0 ^^^ by_)
theorem spoilB_length (l : List UInt8) (at_ : Nat) (by_ : UInt8) : (spoilB l at_ by_).length = l.length := by simp [spoilB]
/-- Sector i, a byte of it spoilt, wherever it stands. -/
def Dev.spoil (d : Dev) (i at_ : Nat) (by_ : UInt8) : Dev :=
  { d with L := d.L.set i (spoilB (d.L.getD i []) at_ by_), Q := fun j => if j = i then (d.Q i).map fun l => spoilB l at_ by_ else d.Q j }
section
variable {w : World} {F : Nat → Prop} {p bl bm : Nat} {S : Nat → Value} {D : DataW Value} {d : Dev}
theorem fail_arg {k a : Int} (w : World) (p : Nat) (h : k < 1 ∨ 3 < k ∨ a < 0) : Calls Try.prog 23 #[at0 p, .int .i64 k, .int .i64 a] w fun e w' => e = .returned (.int .i64 1) ∧ w = w' := by
  by_cases h1 : k < 1
  · go_enter Try.func23, Try.ntmps23
    go_wp2_with fail
    go_ret
    exact ⟨rfl, rfl⟩
  · by_cases h2 : 3 < k
    · go_enter Try.func23, Try.ntmps23
      go_wp2_with fail
      go_ret
      exact ⟨rfl, rfl⟩
    · have h3 : a < 0 := by omega
      go_enter Try.func23, Try.ntmps23
      go_wp2_with fail
      go_ret
      exact ⟨rfl, rfl⟩
theorem fail_raw {w : World} {p k a : Nat} (hk1 : 1 ≤ k) (hk3 : k ≤ 3) {x y : Value} (c1 : w.cell? ⟨p, k * 2, none⟩ = some x) (c2 : w.cell? ⟨p, k * 2 + 1, none⟩ = some y) (f1 : w.frozen? ⟨p, k * 2, none⟩ = false) (f2 : w.frozen? ⟨p, k * 2 + 1, none⟩ = false) :
    Calls Try.prog 23 #[at0 p, .int .i64 (k : Int), .int .i64 (a : Int)] w fun e w' => e = .returned (.int .i64 0) ∧ (w.setCell ⟨p, k * 2, none⟩ (.bool true)).setCell ⟨p, k * 2 + 1, none⟩ (.int .i64 (a : Int)) = w' := by
  go_enter Try.func23, Try.ntmps23
  go_wp2_with fail
  go_ret
  exact ⟨rfl, rfl⟩
theorem fail_any {k a : Nat} (h : DevIs w F p bl bm S D d) (hk1 : 1 ≤ k) (hk3 : k ≤ 3) (ha : a ≤ 9223372036854775807) :
    Calls Try.prog 23 #[at0 p, .int .i64 (k : Int), .int .i64 (a : Int)] w fun e w' => e = .returned (.int .i64 0) ∧ DevIs w' F p bl bm S D (d.told k a) ∧ Only F w w' := by
  have t1 := h.told (k := k) (by omega)
  have t2 := h.ahead (k := k) (by omega)
  rw [Nat.mul_comm] at t1 t2
  refine (fail_raw hk1 hk3 t1 t2 (h.free _) (h.free _)).mono ?_
  rintro e w' ⟨rfl, rfl⟩
  have hA : DevIs (w.setCell ⟨p, k * 2, none⟩ (.bool true)) F p bl bm S D { d with f := fun j => if j = k then (true, (d.f k).2) else d.f j } := by
    refine h.top_set ?_ rfl rfl (Nat.le_refl _) (fun j => ?_)
    · match k, hk1, hk3 with
      | 1, _, _ => simp [devCells]
      | 2, _, _ => simp [devCells]
      | 3, _, _ => simp [devCells]
    · simp only
      split
      · exact h.fuel k
      · exact h.fuel j
  refine ⟨rfl, hA.top_set ?_ rfl rfl (Nat.le_refl _) (fun j => ?_), (Only.setCell h.inF.1 _).trans (Only.setCell h.inF.1 _)⟩
  · match k, hk1, hk3 with
    | 1, _, _ => simp [devCells, Dev.told]
    | 2, _, _ => simp [devCells, Dev.told]
    | 3, _, _ => simp [devCells, Dev.told]
  · simp only [Dev.told]
    split
    · exact ha
    · exact h.fuel j
/-- Other bytes that wait for sector i, as many as before. -/
theorem DevIs.set_row (h : DevIs w F p bl bm S D d) {i g n c : Nat} (hi : i < d.L.length) (hS : S i = .slice (some ⟨g, 0, none⟩) n c) {w' : World} {q' : List (List UInt8)} {cur : Array Value} (hc : c ≤ maxLen) (hnc : q'.length ≤ c) (hn : n = q'.length)
    (hg' : w'.heap[g]? = some (.cells cur 71 (0, 0))) (hcs : cur.size = c * 256) (htake : cur.toList.take (flat q').length = flat q') (hw : Wide q') (hl : q'.length = (d.Q i).length) (hgr : w.grownBy w' (some g)) :
    DevIs w' F p bl bm S D { d with Q := fun j => if j = i then q' else d.Q j } := by
  have ho : ∀ k, k < w.heap.size → k ≠ g → w'.heap[k]? = w.heap[k]? := fun k hk hn => hgr.block k hk (fun e => hn (by injection e))
  have hlt := h.lt
  have hown := h.own i g hi (by rw [hS]; rfl)
  refine ⟨?_, (ho bl hlt.2.1 hown.2.2.1.symm).trans h.last, ?_, h.at_, ?_, ?_, h.keys, h.apart, h.own, h.ne, h.inF, h.wl, ?_, h.size, ?_, h.fuel⟩
  · exact (ho p hlt.1 hown.2.1.symm).trans h.top
  · exact h.map.kept hgr (fun e => hown.2.2.2 (by injection e with e; exact e.symm))
  · intro j hj
    by_cases e : j = i
    · subst e
      simp only [if_true]
      refine ⟨by rw [flat_length hw], .inr ⟨g, c, cur, by rw [hS, hn], Nat.zero_le _, hg', hnc, hc, hcs, ?_⟩⟩
      rw [← flat_length hw]
      exact htake
    · simp only [if_neg e]
      refine row_keep (h.row j hj) fun k hk => ho k ((h.row j hj).lt k hk).2 (fun e2 => ?_)
      rcases h.apart j i hj hi e with e3 | e3
      · rw [hk] at e3; cases e3
      · exact e3 (by rw [hk, hS, e2]; rfl)
  · intro j hj
    by_cases e : j = i
    · subst e
      simp only [if_true]
      rw [h.has j hj]
      constructor
      · intro h1 h2
        rw [h2] at hl
        exact h1 (List.eq_nil_of_length_eq_zero hl.symm)
      · intro h1 h2
        rw [h2] at hl
        exact h1 (List.eq_nil_of_length_eq_zero hl)
    · simp only [if_neg e]
      exact h.has j hj
  · intro j
    by_cases e : j = i
    · simp only [if_pos e]; exact hw
    · simp only [if_neg e]; exact h.wq j
  · intro j
    by_cases e : j = i
    · simp only [if_pos e]; rw [hl]; exact h.few i
    · simp only [if_neg e]; exact h.few j
theorem spoil_arg {i at_ by_ : Int} (h : DevIs w F p bl bm S D d) (ha : i < 0 ∨ (d.L.length : Int) ≤ i ∨ at_ < 0 ∨ 256 ≤ at_) : Calls Try.prog 24 #[at0 p, .int .i64 i, .int .i64 at_, .int .u8 by_] w fun e w' => e = .returned (.bool false) ∧ w = w' := by
  by_cases hi : i < 0 ∨ (d.L.length : Int) ≤ i
  · have hh := Lib.hid (has_no h.c8 hi)
    clear hi ha h
    go_enter Try.func24, Try.ntmps24
    go_wp2_with (go_at_call 33; refine hh.out.mono ?_; rintro e w' ⟨rfl, rfl⟩)
    go_ret
    exact ⟨rfl, rfl⟩
  · obtain ⟨q, rfl⟩ := Int.eq_ofNat_of_zero_le (show 0 ≤ i by omega)
    have hh := Lib.hid (has_yes h.c8 (i := q) (by omega))
    by_cases h1 : at_ < 0
    · have t1 : decide (at_ < 0) = true := by simpa using h1
      clear ha h hi
      go_enter Try.func24, Try.ntmps24
      go_wp2_with (go_at_call 33; refine hh.out.mono ?_; rintro e w' ⟨rfl, rfl⟩)
      go_ret
      exact ⟨rfl, rfl⟩
    · have t1 : decide (at_ < 0) = false := by simpa using h1
      have t2 : decide (256 ≤ at_) = true := by rw [decide_eq_true_eq]; omega
      clear ha h hi
      go_enter Try.func24, Try.ntmps24
      go_wp2_with (go_at_call 33; refine hh.out.mono ?_; rintro e w' ⟨rfl, rfl⟩)
      go_ret
      exact ⟨rfl, rfl⟩
theorem byte_xor (x y : UInt8) : bits .xor .u8 (x.toNat : Int) (y.toNat : Int) = ((x ^^^ y).toNat : Int) := by
  rw [u8_xor_nat _ _ x.toNat_lt y.toNat_lt, UInt8.toNat_xor]
set_option maxRecDepth 100000 in
/-- The cells of sectors, one byte of one of them another. -/
theorem flat_byte {L : List (List UInt8)} (h : Wide L) {i a : Nat} (hi : i < L.length) (ha : a < 256) (x : UInt8) : (flat L).set (i * 256 + a) (.int .u8 (x.toNat : Int)) = flat (L.set i ((L[i]).set a x)) := by
  have hl := h.at_ hi
  rw [← flat_set h hi]
  have hlen := flat_length h
  have h1 : i * 256 + 256 ≤ (flat L).length := by rw [hlen]; omega
  apply List.ext_getElem?
  intro j
  rw [List.getElem?_set]
  have hc : (cellsB ((L[i]).set a x)) = (cellsB L[i]).set a (.int .u8 (x.toNat : Int)) := by unfold cellsB; rw [List.map_set]
  have hcl : (cellsB ((L[i]).set a x)).length = 256 := by rw [cellsB_length, List.length_set, hl]
  have htl : ((flat L).take (i * 256)).length = i * 256 := by rw [List.length_take]; omega
  by_cases j1 : j < i * 256
  · rw [if_neg (by omega), List.append_assoc, List.getElem?_append_left (by omega), List.getElem?_take, if_pos j1]
  · by_cases j2 : j < i * 256 + 256
    · rw [List.append_assoc, List.getElem?_append_right (by omega), htl, List.getElem?_append_left (by omega), hc, List.getElem?_set]
      have hp := flat_part h hi
      by_cases e : i * 256 + a = j
      · rw [if_pos e, if_pos (by omega), if_pos (by omega), if_pos (by rw [cellsB_length, hl]; omega)]
      · rw [if_neg e, if_neg (by omega), ← hp, List.getElem?_take, if_pos (by omega), List.getElem?_drop]
        congr 1
        omega
    · rw [if_neg (by omega), List.append_assoc, List.getElem?_append_right (by omega), htl, List.getElem?_append_right (by omega), hcl, List.getElem?_drop]
      congr 1
      omega
/-- Rows, the first k of them spoilt. -/
def spoilUp (q : List (List UInt8)) (k a : Nat) (y : UInt8) : List (List UInt8) := (q.take k).map (fun l => spoilB l a y) ++ q.drop k
theorem spoilUp_zero (q : List (List UInt8)) (a : Nat) (y : UInt8) : spoilUp q 0 a y = q := by simp [spoilUp]
theorem spoilUp_all (q : List (List UInt8)) (a : Nat) (y : UInt8) : spoilUp q q.length a y = q.map fun l => spoilB l a y := by simp [spoilUp]
theorem spoilUp_length (q : List (List UInt8)) (k a : Nat) (y : UInt8) : (spoilUp q k a y).length = q.length := by simp [spoilUp]; omega
theorem spoilUp_wide {q : List (List UInt8)} (h : Wide q) (k a : Nat) (y : UInt8) : Wide (spoilUp q k a y) := by
  refine Wide.append (fun l hl => ?_) (fun l hl => h l (List.mem_of_mem_drop hl))
  obtain ⟨m, hm, rfl⟩ := List.mem_map.1 hl
  rw [spoilB_length]
  exact h m (List.mem_of_mem_take hm)
theorem spoilUp_get {q : List (List UInt8)} {k : Nat} (hk : k < q.length) (a : Nat) (y : UInt8) : (spoilUp q k a y)[k]'(by rw [spoilUp_length]; exact hk) = q[k] := by
  unfold spoilUp
  rw [List.getElem_append_right (by simp; omega)]
  simp
  congr 1
  omega
theorem spoilUp_succ {q : List (List UInt8)} {k : Nat} (hk : k < q.length) (a : Nat) (y : UInt8) : (spoilUp q k a y).set k (spoilB q[k] a y) = spoilUp q (k + 1) a y := by
  unfold spoilUp
  have h1 : ((q.take k).map fun l => spoilB l a y).length = k := by simp; omega
  rw [List.set_append_right _ _ (by omega), h1, Nat.sub_self, List.drop_eq_getElem_cons hk, List.set_cons_zero, List.take_succ_eq_append_getElem hk, List.map_append]
  simp
set_option maxRecDepth 100000 in
set_option maxHeartbeats 1000000 in
theorem spoil_any {i a : Nat} {y : UInt8} (h : DevIs w F p bl bm S D d) (hi : i < d.L.length) (ha : a < 256) (hn : d.n < 1000000) :
    Calls Try.prog 24 #[at0 p, .int .i64 (i : Int), .int .i64 (a : Int), .int .u8 (y.toNat : Int)] w fun e w' => e = .returned (.bool true) ∧ DevIs w' F p bl bm S D (d.spoil i a y) ∧ Only F w w' := by
  have hh := Lib.hid (has_yes h.c8 hi)
  have hc8 := h.c8
  have hs := h.size
  have hwl := h.wl.at_ hi
  obtain ⟨x, hx⟩ : ∃ x, x = (d.L[i])[a]'(by omega) := ⟨_, rfl⟩
  have hcell : w.cell? ⟨bl, i * 256 + a, none⟩ = some (.int .u8 (x.toNat : Int)) := by
    rw [cell_of_row w bl _ _ 71 (0, 0) h.last, List.getElem?_toArray, hx]
    exact flat_get h.wl hi (cellsB_at _ _ (by omega))
  have hfr : w.frozen? ⟨bl, i * 256 + a, none⟩ = false := frozen_of_row w bl _ _ 71 h.last
  have hxor := byte_xor x y
  obtain ⟨z, hz⟩ : ∃ z, z = x ^^^ y := ⟨_, rfl⟩
  rw [← hz] at hxor
  obtain ⟨dA, hdA⟩ : ∃ dA : Dev, dA = { d with L := d.L.set i (spoilB (d.L.getD i []) a y) } := ⟨_, rfl⟩
  have hd1 : DevIs (w.setCell ⟨bl, i * 256 + a, none⟩ (.int .u8 (z.toNat : Int))).drew F p bl bm S D dA := by
    have h1 : DevIs (w.setCell ⟨bl, i * 256 + a, none⟩ (.int .u8 (z.toNat : Int))) F p bl bm S D dA := by
      rw [hdA]
      refine h.set_last ?_ ⟨rfl, rfl, rfl, by simp, fun k _ hk => heap_setCell_other w _ k _ (fun e => hk (by rw [e]))⟩ (by simp) (h.wl.set i (by rw [spoilB_length]; simp [List.getD_eq_getElem?_getD, List.getElem?_eq_getElem hi, hwl]))
      have e1 := heap_setCell_same w bl (i * 256 + a) _ 71 (.int .u8 (z.toNat : Int)) h.last
      have e2 := flat_byte h.wl hi ha z
      have e3 : spoilB (d.L.getD i []) a y = (d.L[i]).set a z := by
        simp only [spoilB, List.getD_eq_getElem?_getD, List.getElem?_eq_getElem hi, Option.getD_some]
        rw [List.getElem?_eq_getElem (by omega), Option.getD_some, ← hx, ← hz]
      rw [e3, ← e2]
      simpa using e1
    exact h1.keep fun _ _ _ => rfl
  have ho1 : Only F w (w.setCell ⟨bl, i * 256 + a, none⟩ (.int .u8 (z.toNat : Int))).drew := (Only.setCell (p := ⟨bl, i * 256 + a, none⟩) h.inF.2.1 _).trans (Only.drew _ _)
  have hiA : i < dA.L.length := by rw [hdA]; simp [hi]
  have hQA : dA.Q = d.Q := by rw [hdA]
  have hlk := (hd1.look hiA).2 _ rfl
  have hc9 := hd1.c9
  have hfin : d.spoil i a y = { dA with Q := fun j => if j = i then (d.Q i).map fun l => spoilB l a y else dA.Q j } := by rw [hdA]; rfl
  have hnA : dA.n = d.n := by rw [hdA]
  have HnA := Lib.hid hnA
  have Hfin := Lib.hid hfin
  have HQA := Lib.hid hQA
  have HiA := Lib.hid hiA
  have Hd1 := Lib.hid hd1
  have Ho1 := Lib.hid ho1
  have Hz := Lib.hid hz
  have t1 : decide ((a : Int) < 0) = false := by rw [decide_eq_false_iff_not]; omega
  have t2 : decide ((256 : Int) ≤ (a : Int)) = false := by rw [decide_eq_false_iff_not]; omega
  have hi0 : (0 : Int) ≤ (i : Int) := by omega
  have hi1 : (i : Int) < (d.L.length : Int) := by omega
  have ha0 : (0 : Int) ≤ (a : Int) := by omega
  have ha1 : (a : Int) < 256 := by omega
  have hti : (i : Int).toNat = i := by omega
  have hta : (a : Int).toNat = a := by omega
  clear hx hd1 ho1 hwl h hi hz hdA hiA hQA hfin hnA
  rcases (Hd1.out.row i HiA.out).2 with ⟨hS, h0⟩ | ⟨g, cap, cur, hS, _, hg, hnc, hcm, hcs, htake⟩
  · rw [hS] at hlk
    have hq0 : d.Q i = [] := by rw [HQA.out] at h0; exact List.eq_nil_of_length_eq_zero h0
    have Hq0 := Lib.hid hq0
    clear hS h0 hq0
    go_enter Try.func24, Try.ntmps24
    go_wp2_with (go_at_call 33; refine hh.out.mono ?_; rintro e w' ⟨rfl, rfl⟩)
    go_still_tail 13, (by kernel_rfl)
    change wpList _ _ _ _ _ w.drew
    go_wp2_with fail
    go_loopw [42] (fun iv wr => iv = .int .i64 0 ∧ DevIs wr F p bl bm S D dA ∧ Only F w wr) (fun _ _ => 0)
    case atStart => exact ⟨rfl, Hd1.out, Ho1.out⟩
    case round =>
      obtain ⟨rfl, hd, ho⟩ := hrel
      go_wp2_with fail
      go_ret
      refine ⟨rfl, ?_, ho⟩
      rw [Hfin.out]
      have e : (fun j => if j = i then (d.Q i).map fun l => spoilB l a y else dA.Q j) = dA.Q := by
        funext j
        split
        · rename_i e; rw [e, HQA.out, Hq0.out]; rfl
        · rfl
      rw [e]
      exact hd
  · have hgF := Hd1.out.own i g HiA.out (by rw [hS]; rfl)
    have hwq : Wide (d.Q i) := by rw [← HQA.out]; exact Hd1.out.wq i
    obtain ⟨m, hm⟩ : ∃ m, m = (d.Q i).length := ⟨_, rfl⟩
    rw [HQA.out, ← hm] at hS hnc
    have hmn : m ≤ 1000000 := by
      have h1 := Hd1.out.few i
      rw [HQA.out] at h1
      have h2 : dA.n = d.n := HnA.out
      omega
    have hst : { dA with Q := fun j => if j = i then spoilUp (d.Q i) 0 a y else dA.Q j } = dA := by
      have e : (fun j => if j = i then spoilUp (d.Q i) 0 a y else dA.Q j) = dA.Q := by
        funext j
        split
        · rename_i e; rw [e, HQA.out, spoilUp_zero]
        · rfl
      rw [e]
    have Hst := Lib.hid hst
    have HS := Lib.hid hS
    have Hm := Lib.hid hm
    rw [hS] at hlk
    clear hS hg htake hcs hst hm
    go_enter Try.func24, Try.ntmps24
    go_wp2_with (go_at_call 33; refine hh.out.mono ?_; rintro e w' ⟨rfl, rfl⟩)
    go_still_tail 13, (by kernel_rfl)
    change wpList _ _ _ _ _ w.drew
    go_wp2_with fail
    go_loopw [42] (fun iv wr => ∃ k : Nat, k ≤ m ∧ iv = .int .i64 (k : Int) ∧ DevIs wr F p bl bm S D { dA with Q := fun j => if j = i then spoilUp (d.Q i) k a y else dA.Q j } ∧ Only F w wr) (fun iv _ => m - (intOf iv).toNat)
    case atStart => exact ⟨0, Nat.zero_le _, rfl, by rw [Hst.out]; exact Hd1.out, Ho1.out⟩
    case round =>
      obtain ⟨k, hk, rfl, hd, ho⟩ := hrel
      by_cases hkm : k < m
      · have hk' : k < (d.Q i).length := by rw [← Hm.out]; exact hkm
        have hlook := hd.look HiA.out
        rw [HS.out] at hlook
        have hl1 := hlook.2 wr rfl
        have hl2 := hlook.2 wr.drew rfl
        have hc9 := hd.c9
        have hrow := hd.row i HiA.out
        simp only [if_true] at hrow
        rcases hrow.2 with ⟨e, _⟩ | ⟨g', cap', cur', e, _, hg, hnc', hcm', hcs, htake⟩
        · rw [HS.out] at e; cases e
        rw [HS.out, spoilUp_length] at e
        injection e with e1 e2 e3
        injection e1 with e1
        injection e1 with e1
        subst e1 e3
        have hsu : k < (spoilUp (d.Q i) k a y).length := by rw [spoilUp_length]; exact hk'
        have hwsu := spoilUp_wide hwq k a y
        have hq256 := hwq.at_ hk'
        obtain ⟨x', hx'⟩ : ∃ x', x' = ((d.Q i)[k])[a]'(by omega) := ⟨_, rfl⟩
        have hbyte : (flat (spoilUp (d.Q i) k a y))[k * 256 + a]? = some (.int .u8 (x'.toNat : Int)) := by
          refine flat_get hwsu hsu ?_
          rw [spoilUp_get hk', hx']
          exact cellsB_at _ _ (by omega)
        have hcell' : wr.cell? ⟨g, k * 256 + a, none⟩ = some (.int .u8 (x'.toNat : Int)) := by
          rw [cell_of_row wr g _ cur' 71 (0, 0) hg]
          rw [← htake, List.getElem?_take] at hbyte
          split at hbyte
          · simpa using hbyte
          · cases hbyte
        have hfr' : wr.frozen? ⟨g, k * 256 + a, none⟩ = false := frozen_of_row wr g _ cur' 71 hg
        have hxor' := byte_xor x' y
        obtain ⟨z', hz'⟩ : ∃ z', z' = x' ^^^ y := ⟨_, rfl⟩
        rw [← hz'] at hxor'
        have hd2 : DevIs (wr.setCell ⟨g, k * 256 + a, none⟩ (.int .u8 (z'.toNat : Int))).drew F p bl bm S D { dA with Q := fun j => if j = i then spoilUp (d.Q i) (k + 1) a y else dA.Q j } := by
          have e1 := heap_setCell_same wr g (k * 256 + a) cur' 71 (.int .u8 (z'.toNat : Int)) hg
          have e2 := flat_byte hwsu hsu ha z'
          have e3 : ((spoilUp (d.Q i) k a y)[k]).set a z' = spoilB (d.Q i)[k] a y := by
            rw [spoilUp_get hk']
            simp only [spoilB, List.getD_eq_getElem?_getD]
            rw [List.getElem?_eq_getElem (by omega), Option.getD_some, ← hx', ← hz']
          rw [e3, spoilUp_succ hk'] at e2
          have hw2 := spoilUp_wide hwq (k + 1) a y
          have hlen2 : (flat (spoilUp (d.Q i) (k + 1) a y)).length = (flat (spoilUp (d.Q i) k a y)).length := by rw [flat_length hw2, flat_length hwsu, spoilUp_length, spoilUp_length]
          have h2 := hd.set_row (i := i) (q' := spoilUp (d.Q i) (k + 1) a y) HiA.out HS.out hcm' (by rw [spoilUp_length]; rw [spoilUp_length] at hnc'; exact hnc') (by rw [spoilUp_length]; exact Hm.out) e1 (by simp [hcs]) (by
            rw [hlen2, Array.toList_setIfInBounds, List.take_set]
            have : cur'.toList.take (flat (spoilUp (d.Q i) k a y)).length = flat (spoilUp (d.Q i) k a y) := by rw [flat_length hwsu]; exact htake
            rw [this]
            exact e2) hw2 (by simp [spoilUp_length]) ⟨rfl, rfl, rfl, by simp, fun j _ hj => heap_setCell_other wr _ j _ (fun e => hj (by rw [e]))⟩
          have h3 : { dA with Q := fun j => if j = i then spoilUp (d.Q i) (k + 1) a y else if j = i then spoilUp (d.Q i) k a y else dA.Q j } = ({ dA with Q := fun j => if j = i then spoilUp (d.Q i) (k + 1) a y else dA.Q j } : Dev) := by
            congr 1
            funext j
            split <;> rfl
          have h4 : DevIs (wr.setCell ⟨g, k * 256 + a, none⟩ (.int .u8 (z'.toNat : Int))) F p bl bm S D { dA with Q := fun j => if j = i then spoilUp (d.Q i) (k + 1) a y else dA.Q j } := h3 ▸ h2
          exact h4.keep fun _ _ _ => rfl
        have ho2 : Only F w (wr.setCell ⟨g, k * 256 + a, none⟩ (.int .u8 (z'.toNat : Int))).drew := ho.trans ((Only.setCell (p := ⟨g, k * 256 + a, none⟩) hgF.1 _).trans (Only.drew _ _))
        have Hd2 := Lib.hid hd2
        have Ho2 := Lib.hid ho2
        have hk0 : (0 : Int) ≤ (k : Int) := by omega
        have hk1 : (k : Int) < (m : Int) := by omega
        have htk : (k : Int).toNat = k := by omega
        clear hd ho hlook hrow hnc' hcm' hcs htake hg hbyte hx' hz' hd2 ho2 hwsu hq256 e2
        go_wp2_with fail
        go_still_tail 15, (by kernel_rfl)
        change wpList _ _ _ _ _ wr.drew
        go_wp2_with fail
        go_roundw
        case rel => exact ⟨k + 1, by omega, by go_num, Hd2.out, Ho2.out⟩
        case measure => simp [intOf]; omega
      · have hkm2 : k = m := by omega
        have hend : DevIs wr F p bl bm S D (d.spoil i a y) := by
          rw [Hfin.out, ← spoilUp_all, ← Hm.out, ← hkm2]
          exact hd
        have Hend := Lib.hid hend
        clear hend hd hkm2
        go_wp2_with fail
        go_ret
        exact ⟨rfl, Hend.out, ho⟩
end
end Go.Proofs.Ytmifaneolfciiaa
