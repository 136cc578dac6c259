/-
  How addresses of a kind are written: contracts (styleOf, show).
-/
import Derived.Test.YtepibdjglfaniaaDoorAdJ
import Derived.Test.YtepibdjglfaniaaDoorAdK
import Derived.Test.YtepibdjglfaniaaDoorAdC
import Derived.Test.YtepibdjglfaniaaDoorShelf
namespace Go.Proofs.YtepibdjglfaniaaDoor
open Go.RowKit
def stC (six : Bool) : List Value := [.string ⟨#[mrk six]⟩, .int .i64 ((siz six : Nat) : Int), .int .i64 ((bas six : Nat) : Int)]
abbrev stV (six : Bool) : Value := .agg (stC six).toArray
set_option maxRecDepth 100000 in
theorem styleOf_any (six : Bool) (w : World) : Calls Tryd.prog 22 #[.bool six] w fun e w' => e = .returned (stV six) ∧ Below w.heap.size w w' := by
  cases six
  all_goals
    go_enter Tryd.func22, Tryd.ntmps22
    go_wp2_with fail
    refine bodyPost_ret (results_cell_row (p := 2) (ty := 46) (by kernel_rfl) _ _ w.heap.size 46 _ (0, 0) _ rfl (heap_alloc_last w _) Tryd.underlying46 rfl (by kernel_rfl)) rfl ⟨rfl, (Below.refl _ _).alloc (Nat.le_refl _) _⟩
/-- A text as a value. -/
def txt (l : List UInt8) : Value := .string ⟨l.toArray⟩
def cellsT (ls : List (List UInt8)) : List Value := ls.map txt
theorem cellsT_length (ls : List (List UInt8)) : (cellsT ls).length = ls.length := by simp [cellsT]
/-- The texts of the first k numbers. -/
def nTexts (six : Bool) (l : List UInt8) (k : Nat) : List (List UInt8) := ((nums six l).take k).map (digs (bas six))
theorem nTexts_succ {six : Bool} {l : List UInt8} {k : Nat} (h : k < (nums six l).length) : nTexts six l (k + 1) = nTexts six l k ++ [digs (bas six) (ofBe ((l.drop (k * siz six)).take (siz six)) 0)] := by
  rw [nTexts, List.take_add_one, List.getElem?_eq_getElem h, List.map_append]
  simp [nTexts, nums]
theorem nTexts_le (six : Bool) (l : List UInt8) (k : Nat) : (nTexts six l k).length ≤ k := by simp [nTexts]; omega
theorem nTexts_all {six : Bool} {l : List UInt8} {k : Nat} (h : (nums six l).length ≤ k) : Lib.join (nTexts six l k) [mrk six] = shown six l := by
  rw [nTexts, List.take_of_length_le h, shown]
theorem info_text : (Tryd.prog.info? 9).map (fun i => (i.zero, i.size, i.bytes)) = some (some (.string ⟨#[]⟩), 1, 16) := by kernel_rfl
theorem rd_single (w : World) (u : Value) (e : TypeId) : Rd (w.alloc (.cells #[u] e)) (w.heap.size + 1) (.slice (some ⟨w.heap.size, 0, none⟩) 1 1) [u] := by
  refine ⟨some ⟨w.heap.size, 0, none⟩, 1, rfl, Nat.le_refl _, by unfold maxLen; omega, (fun h => by cases h), fun _ => ⟨w.heap.size, 0, rfl, Nat.lt_succ_self _, fun j v hv => ?_⟩⟩
  rw [Nat.zero_add, World.cell?_alloc_mark]
  simpa using hv
/-- strings.Join of texts that can be read. -/
theorem join_any (v : Value) (ls : List (List UInt8)) (c : UInt8) (w : World) (B : Nat) (hr : Rd w B v (cellsT ls)) (hB : B ≤ w.heap.size) (hn : ls.length ≤ 1000) (hne : ls ≠ []) (hlen : (Lib.join ls [c]).length ≤ 100000) :
    Calls Tryd.prog 44 #[v, .string ⟨#[c]⟩] w fun e w' => e = .returned (.string ⟨(Lib.join ls [c]).toArray⟩) ∧ Below w.heap.size w w' := by
  obtain ⟨A, cp, rfl, g1, g2, _, g4⟩ := hr
  rw [cellsT_length] at *
  obtain ⟨b, o, rfl, hb, hc⟩ := g4 (by have : 0 < ls.length := List.length_pos_iff.2 hne; omega)
  have e : (ls.map (fun l => (⟨l.toArray⟩ : ByteArray))).map (·.data.toList) = ls := by simp [List.map_map, Function.comp_def]
  have h := Tryd.strings_Join b o cp (ls.map (fun l => (⟨l.toArray⟩ : ByteArray))) ⟨#[c]⟩ w (fun j x hx => by
    rw [List.getElem?_map] at hx
    cases hq : ls[j]? with
    | none => rw [hq] at hx; cases hx
    | some q =>
      rw [hq] at hx
      obtain rfl := Option.some.inj hx
      exact hc j _ (by rw [cellsT, List.getElem?_map, hq]; rfl)) (by omega) (by simp; omega) (by simp; omega) (by rw [e]; simp; omega)
  rw [e, List.length_map] at h
  exact h
set_option maxRecDepth 100000 in
theorem show_any {six : Bool} (A : Option Addr) (c m : Nat) (l : List UInt8) (w : World) (B : Nat) (hr : Rd w B (.slice A l.length c) (cellsB l)) (hB : B ≤ w.heap.size) (hl : l.length = m * siz six) (hm : 1 ≤ m) (hm8 : m ≤ 8) (hsh : (shown six l).length ≤ 1000) (hV : Vars w) :
    Calls Tryd.prog 30 #[stV six, .slice A l.length c] w fun e w' => e = .returned (txt (shown six l)) ∧ Below w.heap.size w w' := by
  obtain ⟨ti, hi, hz0, hz1, hz2⟩ := info_parts info_text
  obtain ⟨s, hs⟩ : ∃ s, s = siz six := ⟨_, rfl⟩
  obtain ⟨hs1, hs2⟩ := siz_pos six
  rw [← hs] at hl hs1 hs2
  obtain ⟨w1, hw1⟩ : ∃ w1, w1 = w.alloc (.cells (stC six).toArray 46) := ⟨_, rfl⟩
  have hat : w1.heap[w.heap.size]? = some (.cells (stC six).toArray 46 (0, 0)) := by rw [hw1]; exact heap_alloc_last w _
  have hsz : w1.heap.size = w.heap.size + 1 := by rw [hw1]; simp
  have hb1 : Below w.heap.size w w1 := by rw [hw1]; exact up_alloc (Below.refl _ w) _
  have hn : (nums six l).length = m := by rw [nums_length, hl, ← hs, Nat.mul_div_cancel _ (by omega)]
  have hN : ∀ wr, Below w1.heap.size w1 wr → wr.cell? ⟨w.heap.size, 0, none⟩ = some (.string ⟨#[mrk six]⟩) ∧ wr.cell? ⟨w.heap.size, 1, none⟩ = some (.int .i64 ((s : Nat) : Int)) ∧ wr.cell? ⟨w.heap.size, 2, none⟩ = some (.int .i64 ((bas six : Nat) : Int)) := fun wr hb => by
    have h := (hb.block w.heap.size (by omega)).trans hat
    refine ⟨?_, ?_, ?_⟩ <;> rw [cell_of_row wr _ _ _ _ _ h] <;> simp [stC, hs]
  have hG : ∀ wr k, k < m → Below w1.heap.size w1 wr → Calls Tryd.prog 42 #[.slice A l.length c, .int .i64 ((k * s : Nat) : Int), .int .i64 (s : Int)] wr fun e w' => e = .returned (.tuple #[.int .u64 (ofBe ((l.drop (k * s)).take s) 0 : Nat), .bool true]) ∧ wr = w' := fun wr k hk hb => by
    have hle : (k + 1) * s ≤ m * s := Nat.mul_le_mul_right s hk
    rw [Nat.add_mul, Nat.one_mul] at hle
    exact get_yes A c l (k * s) s wr B ((hr.below (hb1.mono hB)).below (hb.mono (by omega))) (by omega) (by omega) (by omega)
  have hF : ∀ wr k, k < m → Below w1.heap.size w1 wr → Calls Tryd.prog 43 #[.int .u64 (ofBe ((l.drop (k * s)).take s) 0 : Nat), .int .i64 ((bas six : Nat) : Int)] wr fun e w' => e = .returned (txt (digs (bas six) (ofBe ((l.drop (k * s)).take s) 0))) ∧ Below wr.heap.size wr w' := fun wr k hk hb => by
    refine fmt_any (six := six) _ ?_ wr ((hV.up hb1).below hb (by have := hV.size; omega))
    rw [hs]
    refine nums_lt (l := l) ?_
    rw [nums]
    exact List.mem_map.2 ⟨k, List.mem_range.2 (by rw [hl, ← hs, Nat.mul_div_cancel _ (by omega)]; exact hk), rfl⟩
  have hJ : ∀ wr v, Mine wr w1.heap.size 9 v (cellsT (nTexts six l m)) → Calls Tryd.prog 44 #[v, .string ⟨#[mrk six]⟩] wr fun e w' => e = .returned (txt (shown six l)) ∧ Below wr.heap.size wr w' := fun wr v hv => by
    have hall : Lib.join (nTexts six l m) [mrk six] = shown six l := nTexts_all (by omega)
    have hl2 : (nTexts six l m).length = m := by rw [nTexts, List.length_map, List.length_take]; omega
    have h := join_any v (nTexts six l m) (mrk six) wr _ hv.rd (Nat.le_refl _) (by omega) (by intro e; rw [e] at hl2; simp at hl2; omega) (by rw [hall]; omega)
    rw [hall] at h
    exact h
  have hS : ∀ k, k < m → cellsT (nTexts six l (k + 1)) = cellsT (nTexts six l k) ++ [txt (digs (bas six) (ofBe ((l.drop (k * s)).take s) 0))] := fun k hk => by
    rw [nTexts_succ (by omega), cellsT, cellsT, List.map_append, hs]; rfl
  have hLe : ∀ k, (cellsT (nTexts six l k)).length ≤ k := fun k => by rw [cellsT_length]; exact nTexts_le six l k
  have h0 : cellsT (nTexts six l 0) = [] := by simp [cellsT, nTexts]
  have hlm : ∀ k, decide (((k * s : Nat) : Int) < ((l.length : Nat) : Int)) = decide (k < m) := fun k => by
    rw [hl]
    by_cases hk : k < m
    · have hle : (k + 1) * s ≤ m * s := Nat.mul_le_mul_right s hk
      rw [Nat.add_mul, Nat.one_mul] at hle
      rw [decide_eq_true hk, decide_eq_true]; omega
    · have hle : m * s ≤ k * s := Nat.mul_le_mul_right s (by omega)
      rw [decide_eq_false hk, decide_eq_false]; omega
  have hkb : ∀ k, k < m → k * s + s ≤ 16 := fun k hk => by
    have hle : (k + 1) * s ≤ m * s := Nat.mul_le_mul_right s hk
    rw [Nat.add_mul, Nat.one_mul] at hle
    have : m * s ≤ 8 * 2 := Nat.mul_le_mul hm8 hs2
    omega
  have hup : ∀ w2, Below w1.heap.size w1 w2 → Below w.heap.size w w2 := fun w2 hb => hb1.trans (hb.mono hb1.size)
  obtain ⟨XS, hXS⟩ : ∃ XS : Nat → List Value, XS = fun k => cellsT (nTexts six l k) := ⟨_, rfl⟩
  obtain ⟨G, hGd⟩ : ∃ G : Nat → Nat, G = fun k => ofBe ((l.drop (k * s)).take s) 0 := ⟨_, rfl⟩
  obtain ⟨D, hD⟩ : ∃ D : Nat → ByteArray, D = fun k => ⟨(digs (bas six) (ofBe ((l.drop (k * s)).take s) 0)).toArray⟩ := ⟨_, rfl⟩
  simp only [show ∀ k, cellsT (nTexts six l k) = XS k from fun k => by rw [hXS]] at hJ hS hLe h0
  simp only [show ∀ k, ofBe ((l.drop (k * s)).take s) 0 = G k from fun k => by rw [hGd], show ∀ k, txt (digs (bas six) (G k)) = .string (D k) from fun k => by rw [hD, hGd]; rfl] at hG hF hS
  have HG := Lib.hid hG
  have HF := Lib.hid hF
  have HJ := Lib.hid hJ
  have HN := Lib.hid hN
  have HS := Lib.hid hS
  have HLe := Lib.hid hLe
  have HU := Lib.hid hup
  have HW := Lib.hid (And.intro hw1 hsz)
  have HK := Lib.hid hkb
  have Hlm := Lib.hid hlm
  have h00 := Lib.hid h0
  obtain ⟨S, hSd⟩ : ∃ S, S = txt (shown six l) := ⟨_, rfl⟩
  rw [← hSd] at HJ ⊢
  obtain ⟨len, hlen⟩ : ∃ len, len = l.length := ⟨_, rfl⟩
  rw [← hlen] at HG Hlm ⊢
  obtain ⟨bs, hbs⟩ : ∃ bs, bs = bas six := ⟨_, rfl⟩
  rw [← hbs] at HF HN
  obtain ⟨mk, hmk⟩ : ∃ mk : ByteArray, mk = ⟨#[mrk six]⟩ := ⟨_, rfl⟩
  rw [← hmk] at HJ HN
  have hlen16 : len ≤ 16 := by
    have : m * s ≤ 8 * 2 := Nat.mul_le_mul hm8 hs2
    omega
  rw [stV]
  obtain ⟨Z, hZ⟩ : ∃ Z, Z = (stC six).toArray := ⟨_, rfl⟩
  rw [← hZ] at HW ⊢
  clear hG hF hJ hN hS hLe hup hkb hlm h0 hSd hXS hGd hD hlen hbs hmk hZ hr hB hV hsh hn hat hb1 hl hs hsz
  go_enter Tryd.func30, Tryd.ntmps30
  go_wp2_with fail
  rw [← HW.out.1]
  clear hw1
  go_loopw [5, 6] (fun ov iv wr => ∃ (k : Nat), k ≤ m ∧ iv = .int .i64 ((k * s : Nat) : Int) ∧ Mine wr w1.heap.size 9 ov (XS k) ∧ Below w1.heap.size w1 wr) (fun _ iv _ => 100 - (intOf iv).toNat)
  case atStart => exact ⟨0, by omega, by simp, by rw [h00.out]; exact Mine.nil _ _ _, Below.refl _ _⟩
  case round =>
    obtain ⟨k, hkn, rfl, hown, hbel⟩ := hrel
    obtain ⟨hc0, hc1, hc2⟩ := HN.out wr hbel
    have hlk := Hlm.out k
    rw [Int.natCast_mul] at hlk
    by_cases hk : k < m
    · rw [decide_eq_true hk] at hlk
      have hkb := HK.out k hk
      go_wp2_with (first
        | (go_at_call 42; refine (HG.out _ k hk hbel).mono ?_; rintro e w2 ⟨rfl, rfl⟩)
        | (go_at_call 43; refine (HF.out _ k hk hbel).mono ?_; rintro e w2 ⟨rfl, hb2⟩; have hown2 := hown.kept hb2)
        | (at_builtin; refine wpList_append_rd rfl (.tmp 25) (.tmp 30) 60 rfl w1.heap.size 9 ti _ 16 Tryd.underlying60 hi hz0 hz1 hz2 rfl _ (XS k) rfl (hown2.alloc _) _ _ _ rfl (rd_single w2 (.string (D k)) 9) (by simp [Value.oneCell']) (by have := HLe.out k; simp; omega) (by have := HLe.out k; unfold maxLen; simp; omega) (by have := (up hbel hb2).size; simp; omega) ?_; intro v3 w3 hown3 hb3 _ _; have hbel3 := (up_alloc (up hbel hb2) (.cells #[.string (D k)] 9)).trans hb3; have hc1' := (HN.out _ hbel3).2.1; clear hb3))
      go_roundw
      case rel => exact ⟨k + 1, by omega, by rw [Nat.add_mul, Nat.one_mul]; go_num, by rw [HS.out k hk]; exact hown3, hbel3⟩
      case measure =>
        have e1 : ((k : Int) * (s : Int)) = ((k * s : Nat) : Int) := (Int.natCast_mul k s).symm
        simp only [intOf]
        rw [e1]
        generalize k * s = q at *
        omega
    · rw [decide_eq_false hk] at hlk
      obtain rfl : k = m := by omega
      go_wp2_with (first
        | (go_at_call 44; refine (HJ.out _ _ hown).mono ?_; rintro e w2 ⟨rfl, hb2⟩))
      go_ret
      exact ⟨rfl, up (HU.out _ hbel) hb2⟩
end Go.Proofs.YtepibdjglfaniaaDoor
