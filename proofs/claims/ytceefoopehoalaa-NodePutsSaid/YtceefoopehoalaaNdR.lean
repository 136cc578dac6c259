/-
  Bytes read one field after the other: fields.number, fields.text of package node, by contracts.
-/
import Derived.Test.YtceefoopehoalaaNdMk
namespace Go.Proofs.Ytceefoopehoalaa
open Go.RowKit
/-- The number of s bytes at a place; 0, where they are not there. -/
def getN (b : List UInt8) (at_ s : Nat) : Nat := if at_ + s ≤ b.length then ofBe ((b.drop at_).take s) 0 else 0
/-- n bytes at a place; none, where they are not there. -/
def cutT (b : List UInt8) (at_ n : Nat) : List UInt8 := if at_ + n ≤ b.length then (b.drop at_).take n else []
theorem getN_lt (b : List UInt8) (at_ : Nat) {s : Nat} (hs : s ≤ 2) : getN b at_ s < 65536 := by
  unfold getN
  split
  · have h := ofBe_lt ((b.drop at_).take s) 0 0 (by decide)
    have h2 : 256 ^ (0 + ((b.drop at_).take s).length) ≤ 256 ^ 2 := Nat.pow_le_pow_right (by decide) (by simp; omega)
    have h3 : (256 : Nat) ^ 2 = 65536 := by decide
    omega
  · omega
theorem getN_byte (b : List UInt8) (at_ : Nat) : getN b at_ 1 < 256 := by
  unfold getN
  split
  · have h := ofBe_lt ((b.drop at_).take 1) 0 0 (by decide)
    have h2 : 256 ^ (0 + ((b.drop at_).take 1).length) ≤ 256 ^ 1 := Nat.pow_le_pow_right (by decide) (by simp; omega)
    omega
  · omega
theorem grown_set {w : World} {q : Nat} (j : Nat) (u : Value) : w.grownBy (w.drew.setCell ⟨q, j, none⟩ u) (some q) :=
  ⟨rfl, rfl, rfl, by simp, fun k _ hne => by rw [heap_setCell_other w.drew _ k u (show k ≠ q from fun e => hne (by rw [e]))]; rfl⟩
theorem get_any (A : Option Addr) (c : Nat) (l : List UInt8) (a s : Nat) (w : World) (B : Nat) (hr : Rd w B (.slice A l.length c) (cellsB l)) (h1 : 1 ≤ s) (h2 : s ≤ 2) (ha : a ≤ 1000000) :
    Calls Try.prog 62 #[.slice A l.length c, .int .i64 (a : Int), .int .i64 (s : Int)] w fun e w' => ∃ ok, e = .returned (.tuple #[.int .u64 (getN l a s : Nat), .bool ok]) ∧ w = w' := by
  unfold getN
  by_cases h : a + s ≤ l.length
  · rw [if_pos h]
    exact (get_yes A c l a s w B hr h1 (by omega) h).mono (by rintro e w' ⟨rfl, rfl⟩; exact ⟨_, rfl, rfl⟩)
  · rw [if_neg h]
    obtain ⟨_, _, e, g1, g2, _⟩ := hr.bytes
    injection e with e1 e2 e3
    exact (get_no A l.length c a s w (by omega) (by omega) (.inr (.inr (by omega)))).mono (by rintro e w' ⟨rfl, rfl⟩; exact ⟨_, rfl, rfl⟩)
theorem cutT_any (A : Option Addr) (c : Nat) (l : List UInt8) (a s : Nat) (w : World) (B : Nat) (hr : Rd w B (.slice A l.length c) (cellsB l)) (hB : B ≤ w.heap.size) (hl : l.length ≤ 100000000) (ha : a ≤ 1000000) :
    Calls Try.prog 63 #[.slice A l.length c, .int .i64 (a : Int), .int .i64 (s : Int)] w fun e w' => ∃ v ok, e = .returned (.tuple #[v, .bool ok]) ∧ Mine w' w.heap.size 5 v (cellsB (cutT l a s)) ∧ Below w.heap.size w w' := by
  unfold cutT
  by_cases h : a + s ≤ l.length
  · rw [if_pos h]
    exact (cut_yes A c l a s w B hr hB hl h).mono (by rintro e w' ⟨v, rfl, q1, q2⟩; exact ⟨_, _, rfl, q1, q2⟩)
  · rw [if_neg h]
    obtain ⟨_, _, e, g1, g2, _⟩ := hr.bytes
    injection e with e1 e2 e3
    exact (cut_no A l.length c a s w (by omega) (by omega) (.inr (.inr (by omega)))).mono (by rintro e w' ⟨rfl, rfl⟩; exact ⟨_, _, rfl, Mine.nil _ _ _, Below.refl _ _⟩)
/-- The fields lie in block q. -/
def FldAt (w : World) (q : Nat) (v : Value) (at_ : Nat) : Prop := w.heap[q]? = some (.cells #[v, .int .i64 (at_ : Int)] 74 (0, 0))
set_option maxHeartbeats 400000 in
theorem fnum_any {q : Nat} {A : Option Addr} {c : Nat} {b : List UInt8} {at_ s : Nat} {w : World} {B : Nat} (hq : FldAt w q (.slice A b.length c) at_) (hr : Rd w B (.slice A b.length c) (cellsB b)) (h1 : 1 ≤ s) (h2 : s ≤ 2) (ha : at_ ≤ 1000000) :
    Calls Try.prog 49 #[.pointer (some ⟨q, 0, none⟩), .int .i64 (s : Int)] w fun e w' => e = .returned (.int .i64 (getN b at_ s : Nat)) ∧ FldAt w' q (.slice A b.length c) (at_ + s) ∧ w.grownBy w' (some q) := by
  have c0 : w.cell? ⟨q, 0, none⟩ = some (.slice A b.length c) := by rw [cell_of_row w q 0 _ _ (0, 0) hq]; rfl
  have c1 : w.cell? ⟨q, 1, none⟩ = some (.int .i64 (at_ : Int)) := by rw [cell_of_row w q 1 _ _ (0, 0) hq]; rfl
  have fz : w.frozen? ⟨q, 1, none⟩ = false := frozen_of_row w q 1 _ _ hq
  have hget := get_any A c b at_ s w.drew B hr h1 h2 ha
  have hlt := getN_lt b at_ h2
  have hend : FldAt (w.drew.setCell ⟨q, 1, none⟩ (.int .i64 ((at_ : Int) + (s : Int)))) q (.slice A b.length c) (at_ + s) := heap_setCell_same w.drew q 1 _ _ _ hq
  obtain ⟨x, hx⟩ : ∃ x, x = getN b at_ s := ⟨_, rfl⟩
  obtain ⟨n, hn⟩ : ∃ n, n = b.length := ⟨_, rfl⟩
  rw [← hx] at hget hlt ⊢
  rw [← hn] at hget c0 hend ⊢
  have HG := Lib.hid hget
  have HE := Lib.hid hend
  have hx1 : (x : Int) < 65536 := by omega
  clear hq hr hget hlt hx hn hend
  go_enter Try.func49, Try.ntmps49
  go_wp2_with fail
  go_region_held3 (fun w' => w'.cell? ⟨q, 0, none⟩ = some (.slice A n c) ∧ w'.cell? ⟨q, 1, none⟩ = some (.int .i64 (at_ : Int)))
    (exact ⟨c0, c1⟩)
    (first | (go_at_call 62; refine HG.out.mono ?_; rintro e w1 ⟨ok, rfl, rfl⟩))
  go_wp2_with fail
  go_ret
  exact ⟨rfl, HE.out, grown_set 1 _⟩
theorem grownBy_two {w w1 w2 : World} {g : Option Nat} (h : w.grownBy w1 g) (h2 : w1.grownBy w2 g) : w.grownBy w2 g := h.trans h2
set_option maxHeartbeats 400000 in
theorem ftext_any {q : Nat} {A : Option Addr} {c : Nat} {b : List UInt8} {at_ : Nat} {w : World} {B : Nat} (hq : FldAt w q (.slice A b.length c) at_) (hr : Rd w B (.slice A b.length c) (cellsB b)) (hB : B ≤ q) (hl : b.length ≤ 100000000) (ha : at_ ≤ 900000) :
    Calls Try.prog 50 #[.pointer (some ⟨q, 0, none⟩)] w fun e w' => ∃ v, e = .returned v ∧ Mine w' w.heap.size 5 v (cellsB (cutT b (at_ + 1) (getN b at_ 1))) ∧ FldAt w' q (.slice A b.length c) (at_ + 1 + getN b at_ 1) ∧ w.grownBy w' (some q) := by
  have hnum := fnum_any (s := 1) hq hr (by omega) (by omega) (by omega)
  have hlt := getN_byte b at_
  have hqs : q < w.heap.size := (Array.getElem?_eq_some_iff.1 hq).1
  obtain ⟨x, hx⟩ : ∃ x, x = getN b at_ 1 := ⟨_, rfl⟩
  have hcut := fun (W : World) (hW : w.grownBy W (some q)) => cutT_any A c b (at_ + 1) x W.drew B (hr.keep fun p hp => World.cell?_of_block (hW.block p.block (by omega) fun e => by injection e with e; omega)) (by have := hW.size; show B ≤ W.heap.size; omega) hl (by omega)
  rw [← hx] at hnum hlt ⊢
  have hcells : ∀ W m, FldAt W q (.slice A b.length c) m → W.cell? ⟨q, 0, none⟩ = some (.slice A b.length c) ∧ W.cell? ⟨q, 1, none⟩ = some (.int .i64 (m : Int)) ∧ W.frozen? ⟨q, 1, none⟩ = false := fun W m h => ⟨by rw [cell_of_row W q 0 _ _ (0, 0) h]; rfl, by rw [cell_of_row W q 1 _ _ (0, 0) h]; rfl, frozen_of_row W q 1 _ _ h⟩
  obtain ⟨l, hL⟩ : ∃ l, l = cutT b (at_ + 1) x := ⟨_, rfl⟩
  obtain ⟨n, hn⟩ : ∃ n, n = b.length := ⟨_, rfl⟩
  rw [← hL] at hcut ⊢
  rw [← hn] at hnum hcells hcut ⊢
  have HN := Lib.hid hnum
  have HC := Lib.hid hcut
  have HCl := Lib.hid hcells
  have HQ := Lib.hid hqs
  clear hq hr hnum hcut hcells hx hn hL hB hl hqs
  go_enter Try.func50, Try.ntmps50
  go_wp2_with fail
  refine HN.out.mono ?_
  rintro e w1 ⟨rfl, hf1, hg1⟩
  obtain ⟨c0, c1, _⟩ := HCl.out w1 _ hf1
  have Hg1 := Lib.hid hg1
  have Hf1 := Lib.hid hf1
  have hcut := HC.out w1 hg1
  have ea : ((at_ + 1 : Nat) : Int) = (at_ : Int) + 1 := by omega
  clear hf1 hg1
  go_wp2_with fail
  go_region_held3 (fun w' => w'.cell? ⟨q, 0, none⟩ = some (.slice A n c) ∧ w'.cell? ⟨q, 1, none⟩ = some (.int .i64 ((at_ + 1 : Nat) : Int)))
    (first | exact S2.out | exact ⟨c0, c1⟩)
    (first | (go_at_call 63; refine hcut.mono ?_; rintro e w2 ⟨v, ok, rfl, hown, hb⟩; have Hb2 := Lib.hid ((up_drew (Below.refl w1.heap.size w1)).trans hb); have Ho2 := Lib.hid hown; have Hf2 := Lib.hid (((Hb2.out.block q (Nat.lt_of_lt_of_le HQ.out Hg1.out.size)).trans Hf1.out : FldAt w2 q _ _)); have S2 := Lib.hid (And.intro (HCl.out w2 _ Hf2.out).1 (HCl.out w2 _ Hf2.out).2.1); clear hb hown))
  obtain ⟨d0, d1, fz⟩ := HCl.out w2 _ Hf2.out
  go_wp2_with fail
  go_ret
  refine ⟨v, rfl, (Ho2.out.weaken Hg1.out.size).frK (B0 := 0) (Fr.set (base := w.heap.size) (B0 := 0) (Nat.zero_le _) HQ.out 1 _) (fun _ _ e => by cases e), ?_, ?_⟩
  · exact heap_setCell_same w2 q 1 _ _ _ Hf2.out
  · refine (Hg1.out.trans ⟨Hb2.out.os, Hb2.out.tape, Hb2.out.output, Hb2.out.size, fun k hk _ => Hb2.out.block k hk⟩).trans ⟨rfl, rfl, rfl, by simp, fun k _ hne => heap_setCell_other w2 _ k _ (show k ≠ q from fun e => hne (by rw [e]))⟩
end Go.Proofs.Ytceefoopehoalaa
