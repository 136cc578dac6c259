/-
  The helpers of the statements of layer 4, by contracts: both Decodes in one, that two pages are one, a page with few bytes, that a page is written and read.
-/
import Derived.Test.YtnbmcecmdokogaaRefPageE
namespace Go.Proofs.Ytnbmcecmdokogaa
open Go.RowKit
theorem pgDec_bad (no : Int) (A : Option Addr) (c : Nat) (l : List UInt8) (w : World) (B : Nat) (hr : Rd w B (.slice A l.length c) (cellsB l)) (hB : B ≤ w.heap.size) (r : Nat) (he : pgErr no l = r) (h0 : r ≠ 0) :
    Calls Try.prog 11 #[.int .i64 no, .slice A l.length c] w fun e w' => e = .returned (.tuple #[pgZero, .int .i64 (r : Nat)]) ∧ Below w.heap.size w w' := by
  unfold pgErr at he
  split at he
  · subst he; exact pgDec_short no A _ c w (by assumption)
  rename_i hl
  have hl := Decidable.not_not.1 hl
  split at he
  · subst he; exact pgDec_front no A c l w B hr hB hl (by assumption)
  rename_i hf
  have hf := Decidable.not_not.1 hf
  split at he
  · subst he; exact pgDec_version no A c l w B hr hB hl hf (by assumption)
  rename_i hv
  have hv := Decidable.not_not.1 hv
  split at he
  · subst he; exact pgDec_sum no A c l w B hr hB hl hf hv (by assumption)
  rename_i hs
  have hs := Decidable.not_not.1 hs
  split at he
  · rename_i h
    subst he
    by_cases hk : fieldAt l 5 1 < 1 ∨ 4 < fieldAt l 5 1
    · by_cases hg : 232 < fieldAt l 6 2
      · exact pgDec_form1 no A c l w B hr hB hl hf hv hs hk hg
      · exact pgDec_form2 no A c l w B hr hB hl hf hv hs hk (by omega)
    · by_cases hg : 232 < fieldAt l 6 2
      · exact pgDec_form3 no A c l w B hr hB hl hf hv hs (by omega) (by omega) hg
      · refine pgDec_form4 no A c l w B hr hB hl hf hv hs (by omega) (by omega) (by omega) ?_
        rcases h with h | h | h | h
        · omega
        · omega
        · omega
        · exact h
  rename_i h
  rw [not_or, not_or, not_or] at h
  obtain ⟨a1, a2, a3, a4⟩ := h
  have a4 : pgTail l = true := by simpa using a4
  split at he
  · rename_i h
    subst he
    by_cases hn : no < 0 ∨ 1599 < no
    · exact pgDec_num1 no A c l w B hr hB hl hf hv hs (by omega) (by omega) (by omega) a4 hn
    · refine pgDec_num2 no A c l w B hr hB hl hf hv hs (by omega) (by omega) (by omega) a4 (by omega) (by omega) ?_
      rcases h with h | h | h
      · omega
      · omega
      · exact h
  · exact absurd he.symm h0
theorem pgDec_good (no : Int) (A : Option Addr) (c : Nat) (l : List UInt8) (w : World) (B : Nat) (hr : Rd w B (.slice A l.length c) (cellsB l)) (hB : B ≤ w.heap.size) (h : PgOk no l) :
    Calls Try.prog 11 #[.int .i64 no, .slice A l.length c] w fun e w' => ∃ A' c', e = .returned (.tuple #[pgVal (fieldAt l 5 1 : Nat) (fieldAt l 12 8 : Nat) (.slice A' (pgBody l).length c'), .int .i64 0]) ∧ Rd w' w'.heap.size (.slice A' (pgBody l).length c') (cellsB (pgBody l)) ∧ Below w.heap.size w w' := by
  refine (pgDec_ok no A c l w B hr hB h.len h.front h.ver h.sum h.kind1 h.kind4 h.blen h.tail h.no0 h.no1 h.num).mono ?_
  rintro e w' ⟨v', rfl, h1, h2⟩
  obtain ⟨A', c', rfl, _, _, h3⟩ := h1.rd.bytes
  exact ⟨A', c', rfl, h3, h2⟩
theorem refDec_bad (no : Int) (A : Option Addr) (c : Nat) (l : List UInt8) (w : World) (B : Nat) (hr : Rd w B (.slice A l.length c) (cellsB l)) (hB : B ≤ w.heap.size) (r : Nat) (he : pgErr no l = r) (h0 : r ≠ 0) :
    Calls Try.prog 14 #[.int .i64 no, .slice A l.length c] w fun e w' => e = .returned (.tuple #[pgZero, .int .i64 (r : Nat)]) ∧ Below w.heap.size w w' := by
  unfold pgErr at he
  split at he
  · subst he; exact refDec_short no A _ c w (by assumption)
  rename_i hl
  have hl := Decidable.not_not.1 hl
  split at he
  · subst he; exact refDec_front no A c l w B hr hB hl (by assumption)
  rename_i hf
  have hf := Decidable.not_not.1 hf
  split at he
  · subst he; exact refDec_version no A c l w B hr hB hl hf (by assumption)
  rename_i hv
  have hv := Decidable.not_not.1 hv
  split at he
  · subst he; exact refDec_sum no A c l w B hr hB hl hf hv (by assumption)
  rename_i hs
  have hs := Decidable.not_not.1 hs
  split at he
  · rename_i h
    subst he
    by_cases hk1 : fieldAt l 5 1 < 1
    · exact refDec_form1 no A c l w B hr hB hl hf hv hs hk1
    · by_cases hk2 : 4 < fieldAt l 5 1
      · exact refDec_form2 no A c l w B hr hB hl hf hv hs hk2
      · by_cases hg : 232 < fieldAt l 6 2
        · exact refDec_form3 no A c l w B hr hB hl hf hv hs (by omega) (by omega) hg
        · refine refDec_form4 no A c l w B hr hB hl hf hv hs (by omega) (by omega) (by omega) ?_
          rcases h with h | h | h | h
          · omega
          · omega
          · omega
          · exact h
  rename_i h
  rw [not_or, not_or, not_or] at h
  obtain ⟨a1, a2, a3, a4⟩ := h
  have a4 : pgTail l = true := by simpa using a4
  split at he
  · rename_i h
    subst he
    by_cases hn : no < 0
    · exact refDec_num1 no A c l w B hr hB hl hf hv hs (by omega) (by omega) (by omega) a4 hn
    · by_cases hn2 : 1599 < no
      · exact refDec_num2 no A c l w B hr hB hl hf hv hs (by omega) (by omega) (by omega) a4 (by omega) hn2
      · refine refDec_num3 no A c l w B hr hB hl hf hv hs (by omega) (by omega) (by omega) a4 (by omega) (by omega) ?_
        rcases h with h | h | h
        · omega
        · omega
        · exact h
  · exact absurd he.symm h0
theorem refDec_good (no : Int) (A : Option Addr) (c : Nat) (l : List UInt8) (w : World) (B : Nat) (hr : Rd w B (.slice A l.length c) (cellsB l)) (hB : B ≤ w.heap.size) (h : PgOk no l) :
    Calls Try.prog 14 #[.int .i64 no, .slice A l.length c] w fun e w' => ∃ A' c', e = .returned (.tuple #[pgVal (fieldAt l 5 1 : Nat) (fieldAt l 12 8 : Nat) (.slice A' (pgBody l).length c'), .int .i64 0]) ∧ Rd w' w'.heap.size (.slice A' (pgBody l).length c') (cellsB (pgBody l)) ∧ Below w.heap.size w w' := by
  refine (refDec_ok no A c l w B hr hB h.len h.front h.ver h.sum h.kind1 h.kind4 h.blen h.tail h.no0 h.no1 h.num).mono ?_
  rintro e w' ⟨v', rfl, h1, h2⟩
  obtain ⟨A', c', rfl, _, _, h3⟩ := h1.rd.bytes
  exact ⟨A', c', rfl, h3, h2⟩

set_option maxHeartbeats 1000000 in
theorem same_yes (k g : Int) (A A2 : Option Addr) (n c n2 c2 : Nat) (l : List UInt8) (w : World) (B : Nat) (hB : B ≤ w.heap.size) (hr : Rd w B (.slice A n c) (cellsB l)) (hr2 : Rd w B (.slice A2 n2 c2) (cellsB l)) :
    Calls Try.prog 12 #[pgVal k g (.slice A n c), pgVal k g (.slice A2 n2 c2)] w fun e w' => e = .returned (.bool true) ∧ Below w.heap.size w w' := by
  obtain ⟨a0, a1, a2⟩ := pgBox_cells w k g (.slice A n c)
  obtain ⟨W, hW⟩ : ∃ W, W = w.alloc (.cells #[.int .i64 k, .int .u64 g, .slice A n c] 25) := ⟨_, rfl⟩
  rw [← hW] at a0 a1 a2
  have hWs : W.heap.size = w.heap.size + 1 := by rw [hW]; simp
  obtain ⟨b0, b1, b2⟩ := pgBox_cells W k g (.slice A2 n2 c2)
  obtain ⟨V, hV⟩ : ∃ V, V = W.alloc (.cells #[.int .i64 k, .int .u64 g, .slice A2 n2 c2] 25) := ⟨_, rfl⟩
  rw [← hV, hWs] at b0 b1 b2
  have hbW : Below w.heap.size w W := by rw [hW]; exact (Below.refl _ _).alloc (Nat.le_refl _) _
  have hbV : Below W.heap.size W V := by rw [hV]; exact (Below.refl _ _).alloc (Nat.le_refl _) _
  have hb : Below w.heap.size w V := hbW.trans (hbV.mono hbW.size)
  have a0 := (hbV.cell (p := ⟨w.heap.size, 0, none⟩) (by rw [hWs]; exact Nat.lt_succ_self _)).trans a0
  have a1 := (hbV.cell (p := ⟨w.heap.size, 1, none⟩) (by rw [hWs]; exact Nat.lt_succ_self _)).trans a1
  have a2 := (hbV.cell (p := ⟨w.heap.size, 2, none⟩) (by rw [hWs]; exact Nat.lt_succ_self _)).trans a2
  have s1 := run_string_kept (P := Try.prog) 23 9 5 Try.underlying23 Try.underlying5 Try.underlying9 (hr.more hB) hb
  have s2 := run_string_kept (P := Try.prog) 23 9 5 Try.underlying23 Try.underlying5 Try.underlying9 (hr2.more hB) hb
  have e1 : (k == k) = true := by simp
  have e2 : (g == g) = true := by simp
  have Hb := Lib.hid hb
  rw [hV, hW] at a0 a1 a2 b0 b1 b2 s1 s2
  rw [hV, hW] at Hb
  clear hW hV hWs hbW hbV hb hr hr2
  go_enter Try.func12, Try.ntmps12
  go_wp2_with fail
  go_ret
  exact ⟨rfl, Hb.out⟩
end Go.Proofs.Ytnbmcecmdokogaa
