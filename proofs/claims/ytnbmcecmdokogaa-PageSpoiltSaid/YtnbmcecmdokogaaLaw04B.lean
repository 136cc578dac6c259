/-
  The helpers of the statements of layer 4, by contracts: a page with few bytes; that a page is written and read.
-/
import Derived.Test.YtnbmcecmdokogaaLaw04
namespace Go.Proofs.Ytnbmcecmdokogaa
open Go.RowKit
/-- Two pages' blocks, as made, in a later world. -/
theorem boxes_later {w w' : World} {a0 a1 a2 b0 b1 b2 : Value} (hb : Below (w.heap.size + 2) ((w.alloc (.cells #[a0, a1, a2] 25)).alloc (.cells #[b0, b1, b2] 25)) w') :
    (w'.cell? ⟨w.heap.size, 0, none⟩ = some a0 ∧ w'.cell? ⟨w.heap.size, 1, none⟩ = some a1 ∧ w'.cell? ⟨w.heap.size, 2, none⟩ = some a2) ∧
    (w'.cell? ⟨w.heap.size + 1, 0, none⟩ = some b0 ∧ w'.cell? ⟨w.heap.size + 1, 1, none⟩ = some b1 ∧ w'.cell? ⟨w.heap.size + 1, 2, none⟩ = some b2) ∧
    (∀ j, w'.frozen? ⟨w.heap.size, j, none⟩ = false) ∧ (∀ j, w'.frozen? ⟨w.heap.size + 1, j, none⟩ = false) := by
  have hW : (w.alloc (.cells #[a0, a1, a2] 25)).heap.size = w.heap.size + 1 := by simp
  have o : ∀ j, ((w.alloc (.cells #[a0, a1, a2] 25)).alloc (.cells #[b0, b1, b2] 25)).cell? ⟨w.heap.size, j, none⟩ = (#[a0, a1, a2] : Array Value)[j]? := by
    intro j
    rw [World.cell?_alloc_lt _ _ _ (by rw [hW]; exact Nat.lt_succ_self _), World.cell?_alloc_mark]
  have n : ∀ j, ((w.alloc (.cells #[a0, a1, a2] 25)).alloc (.cells #[b0, b1, b2] 25)).cell? ⟨w.heap.size + 1, j, none⟩ = (#[b0, b1, b2] : Array Value)[j]? := by
    intro j
    rw [← hW, World.cell?_alloc_mark]
  refine ⟨⟨(hb.cell (p := ⟨w.heap.size, 0, none⟩) (by simp)).trans (o 0), (hb.cell (p := ⟨w.heap.size, 1, none⟩) (by simp)).trans (o 1), (hb.cell (p := ⟨w.heap.size, 2, none⟩) (by simp)).trans (o 2)⟩,
    ⟨(hb.cell (p := ⟨w.heap.size + 1, 0, none⟩) (by simp)).trans (n 0), (hb.cell (p := ⟨w.heap.size + 1, 1, none⟩) (by simp)).trans (n 1), (hb.cell (p := ⟨w.heap.size + 1, 2, none⟩) (by simp)).trans (n 2)⟩, fun j => ?_, fun j => ?_⟩
  · refine (hb.frozen (p := ⟨w.heap.size, j, none⟩) (by simp)).trans ?_
    rw [World.frozen?_alloc_past _ _ _ (by rw [hW]; exact Nat.lt_succ_self _)]
    exact World.frozen?_alloc_at _ _ _ _ rfl
  · refine (hb.frozen (p := ⟨w.heap.size + 1, j, none⟩) (by simp)).trans ?_
    exact World.frozen?_alloc_at _ _ _ _ hW.symm
set_option maxHeartbeats 1000000 in
theorem pgFew_own (k g : Int) (A : Option Addr) (n c : Nat) (l : List UInt8) (w : World) (B : Nat) (hB : B ≤ w.heap.size) (hr : Rd w B (.slice A n c) (cellsB l)) :
    Calls Try.prog 7 #[pgVal k g (.slice A n c)] w fun e w' => ∃ A' c', e = .returned (pgVal k g (.slice A' (l.take 240).length c')) ∧ Mine w' w.heap.size 5 (.slice A' (l.take 240).length c') (cellsB (l.take 240)) ∧ Below w.heap.size w w' := by
  obtain ⟨m, hm⟩ : ∃ m, m = l.take 240 := ⟨_, rfl⟩
  have hfew := fun (W : World) (h : Rd W B (.slice A n c) (cellsB l)) (hB : B ≤ W.heap.size) => few_any (.slice A n c) l 240 W B h hB (by omega)
  rw [← hm] at hfew ⊢
  obtain ⟨c0, c1, c2⟩ := pgBox_cells w k g (.slice A n c)
  have Hfew := Lib.hid hfew
  have Hm := Lib.hid hm
  clear hfew hm
  go_enter Try.func7, Try.ntmps7
  go_wp2_with fail
  refine (Hfew.out _ ((hr.alloc hB _).alloc (by simp; omega) _) (by simp; omega)).mono ?_
  rintro e w1 ⟨v1, rfl, hown, hbel⟩
  obtain ⟨A1, k1, rfl, _, _, _⟩ := hown.rd.bytes
  have hB2 : Below (w.heap.size + 2) ((w.alloc (.cells #[.int .i64 k, .int .u64 g, .slice A n c] 25)).alloc (.cells #[.int .i64 0, .int .u64 0, .slice none 0 0] 25)) w1 := by simpa using hbel
  have hW1 : Below w.heap.size w w1 := (((Below.refl _ _).alloc (Nat.le_refl _) _).alloc (by simp) _).trans (hB2.mono (by omega))
  have hz : w.heap.size + 2 ≤ w1.heap.size := by have := hB2.size; simpa using this
  obtain ⟨⟨a0, a1, a2⟩, ⟨b0, b1, b2⟩, fa, fb⟩ := boxes_later hB2
  have fa2 := fa 2
  have fb0 := fb 0
  have fb1 := fb 1
  have fb2 := fb 2
  clear fa fb c0 c1 c2
  go_wp2_with fail
  refine bodyPost_ret (v := pgVal k g (.slice A1 m.length k1)) (by simp [results, Try.results7, go_sem, b0, b1, b2]) rfl ⟨A1, k1, rfl, ?_, ?_⟩
  · have h0 : Mine w1 (w.heap.size + 2) 5 (.slice A1 m.length k1) (cellsB m) := by simpa using hown
    exact ((((h0.other (by omega)).other (by omega)).other (by omega)).other (by omega)).weaken (by omega)
  · exact (((hW1.setCell (Nat.le_refl _) _).setCell (Nat.le_succ _) _).setCell (Nat.le_succ _) _).setCell (Nat.le_succ _) _
theorem pgFew_any (k g : Int) (A : Option Addr) (n c : Nat) (l : List UInt8) (w : World) (B : Nat) (hB : B ≤ w.heap.size) (hr : Rd w B (.slice A n c) (cellsB l)) :
    Calls Try.prog 7 #[pgVal k g (.slice A n c)] w fun e w' => ∃ A' c', e = .returned (pgVal k g (.slice A' (l.take 240).length c')) ∧ Rd w' w'.heap.size (.slice A' (l.take 240).length c') (cellsB (l.take 240)) ∧ Below w.heap.size w w' := by
  refine (pgFew_own k g A n c l w B hB hr).mono ?_
  rintro e w' ⟨A', c', rfl, h1, h2⟩
  exact ⟨A', c', rfl, h1.rd, h2⟩
/-- Decode of Encode. -/
theorem pgDec_enc (kind no gen : Nat) (body l : List UInt8) (hlb : l = pgBytes kind no gen body) (h : body.length ≤ 232) (hk1 : 1 ≤ kind) (hk4 : kind ≤ 4) (hno : no ≤ 1599) (hg : gen < 18446744073709551616)
    (A : Option Addr) (c : Nat) (w : World) (B : Nat) (hr : Rd w B (.slice A l.length c) (cellsB l)) (hB : B ≤ w.heap.size) :
    Calls Try.prog 11 #[.int .i64 (no : Int), .slice A l.length c] w fun e w' => ∃ A' c', e = .returned (.tuple #[pgVal kind gen (.slice A' body.length c'), .int .i64 0]) ∧ Rd w' w'.heap.size (.slice A' body.length c') (cellsB body) ∧ Below w.heap.size w w' := by
  have hok := pgBytes_ok kind no gen body h hk1 hk4 hno
  rw [← hlb] at hok
  have hd := pgDec_good (no : Int) A c l w B hr hB hok
  have f5 := pgBytes_kind kind no gen body hk4
  have f12 := pgBytes_gen kind no gen body hg
  have fb := pgBytes_body kind no gen body h
  rw [← hlb] at f5 f12 fb
  rw [f5, f12, fb] at hd
  exact hd
theorem rd_nine (w : World) : Rd (w.alloc (.cells #[.int .u8 9] 5)) (w.heap.size + 1) (.slice (some ⟨w.heap.size, 0, none⟩) 1 1) (cellsB [9]) := rd_const w 5 (0, 0) [9] (by unfold maxLen; simp)
set_option maxHeartbeats 1000000 in
theorem lives04_any (w : World) : Calls Try.prog 10 #[] w fun e w' => e = .returned (.bool true) ∧ Below w.heap.size w w' := by
  obtain ⟨l, hl⟩ : ∃ l, l = pgBytes 1 3 7 [9] := ⟨_, rfl⟩
  have hll : ((l.length : Int) == 256) = true := by rw [hl, pgBytes_length _ _ _ _ (by simp)]; rfl
  have henc := fun (W : World) (A : Option Addr) (c : Nat) (h : Rd W W.heap.size (.slice A 1 c) (cellsB [9])) => pgEnc_ok 3 1 7 A [9] c W W.heap.size h (Nat.le_refl _) (by omega) (by omega) (by omega) (by simp)
  rw [← hl] at henc
  have Henc := Lib.hid henc
  have Hl := Lib.hid hl
  clear hl henc
  go_enter Try.func10, Try.ntmps10
  go_wp2_with fail
  refine (Henc.out _ _ _ (by simpa using rd_nine w)).mono ?_
  rintro e w1 ⟨v1, rfl, hown, hbel⟩
  obtain ⟨A1, k1, rfl, _, _, hr1⟩ := hown.rd.bytes
  have hb1 : Below w.heap.size w w1 := ((Below.refl _ _).alloc (Nat.le_refl _) _).trans (hbel.mono (by simp))
  clear hown hbel
  go_wp2_with fail
  refine (pgDec_enc 1 3 7 [9] l Hl.out (by simp) (by omega) (by omega) (by omega) (by omega) A1 k1 w1 _ hr1 (Nat.le_refl _)).mono ?_
  rintro e w2 ⟨A2, k2, rfl, hr2, hb2⟩
  have hb2 : Below w.heap.size w w2 := hb1.trans (hb2.mono hb1.size)
  clear hb1 hr1
  go_wp2_with fail
  have hr3 := ((hr2.alloc (Nat.le_refl _) (.cells #[.int .i64 1, .int .u64 7, .slice A2 1 k2] 25)).alloc (by simp) (.cells #[.int .u8 9] 5)).more (B' := w2.heap.size + 2) (by omega)
  have hr4 := rd_nine (w2.alloc (.cells #[.int .i64 1, .int .u64 7, .slice A2 1 k2] 25))
  refine (same_yes 1 7 _ _ 1 _ 1 _ [9] _ (w2.heap.size + 2) (by simp) hr3 (by simpa using hr4)).mono ?_
  rintro e w3 ⟨rfl, hb3⟩
  go_wp2_with fail
  go_ret
  exact ⟨rfl, ((hb2.alloc hb2.size _).alloc (by have := hb2.size; simp; omega) _).trans (hb3.mono (by have := hb2.size; simp; omega))⟩
end Go.Proofs.Ytnbmcecmdokogaa
