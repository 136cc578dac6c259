/-
  The document's cache: Get, all ways; a frame that is filled with bytes put: what its steps need, and what they leave.
-/
import Derived.Test.YtfjcblppmoomdaaCrH
import Derived.Test.YtfjcblppmoomdaaCacheQ
namespace Go.Proofs.Ytfjcblppmoomdaa
open Go.RowKit
theorem rd_empty (w : World) (B : Nat) (a : Addr) : Rd w B (.slice (some a) 0 0) [] := ⟨some a, 0, rfl, Nat.le_refl _, by unfold maxLen; omega, (fun h => by cases h), fun h => absurd h (by simp)⟩
section
variable {w w' : World} {E E' : Nat → Prop} {q r bf cap : Nat} {rest : List Value} {P : List (Frm × Value)} {x y : Cch} {d d' dy : Dev}
theorem rget_any (h : CDR w E q r bf cap rest x d) (hok : x.Ok d.L.length) (hn : d.n < 999999) (hE : ∀ k, w.heap.size ≤ k → E k) (no : Int) :
    Calls Try.prog 35 #[at0 r, .int .i64 no] w fun e w' => ∃ v, e = .returned (.tuple #[v, .int .i64 (x.get d no).2.1]) ∧ Rd w' w'.heap.size v (cellsB (x.get d no).1) ∧ CDR w' E q r bf cap rest (x.get d no).2.2.1 (x.get d no).2.2.2 ∧ Only E w w' := by
  by_cases hno : 0 ≤ no ∧ no < d.L.length
  · rcases hh : x.holder no with _ | i
    · have hs := room_spec x d hok.hand
      obtain ⟨s1, s2, s3, s4⟩ := hs
      have hO := (hok.room d).2.1
      rcases hr : x.room d with ⟨o, e0, y, dy⟩
      rw [hr] at s1 s2 s3 s4 hO
      rcases o with _ | i
      · have e : x.get d no = ([], e0, y, dy) := by
          unfold Cch.get Cch.read
          rw [if_pos hno, hh, hr]
        rw [e]
        have he : e0 = 3 ∨ e0 = 11 := by
          rcases s4 with ⟨i, a, _⟩ | ⟨_, b⟩
          · cases a
          · exact b
        refine (rget_full h hok (by omega) hE hno hh hr he).mono ?_
        rintro e w' ⟨⟨a, rfl⟩, h1, h2⟩
        exact ⟨_, rfl, rd_empty _ _ a, h1, h2⟩
      · have he : e0 = 0 ∧ i < x.L.length := by
          rcases s4 with ⟨j, a, b, c⟩ | ⟨a, _⟩
          · injection a with a; subst a; exact ⟨b, c⟩
          · cases a
        obtain ⟨rfl, hix⟩ := he
        have s1 : y.L.length = x.L.length := s1
        have s2 : dy.L.length = d.L.length := s2
        have s3 : dy.n ≤ d.n + 1 := s3
        have hz : y.fr i = Frm.zero := (hO i rfl).2.1
        have hiy : i < y.L.length := by omega
        rcases hb : dy.burns 1 with _ | _
        · have e : x.get d no = (dy.now no.toNat, 0, (Cch.mk (y.L.set i (Frm.got no (dy.now no.toNat))) y.hand).use i, dy.burn 1) := by
            unfold Cch.get Cch.read
            rw [if_pos hno, hh, hr]
            simp only [hb]
            have e2 := hold_place hiy hz no (dy.now no.toNat)
            rw [if_neg (by simp)]
            simp only [e2]
            have e3 : (y.place i ⟨true, no, dy.now no.toNat, false, false, 0⟩).L.getD i Frm.zero = ⟨true, no, dy.now no.toNat, false, false, 0⟩ := by
              have := place_fr hiy ⟨true, no, dy.now no.toNat, false, false, 0⟩ i
              rw [if_pos rfl] at this
              exact this
            rw [e3]
            rfl
          rw [e]
          refine (rget_ok h hok (by omega) hE hno hh hr hiy s2 (by omega) hb).mono ?_
          rintro e w' ⟨gu, cu, rfl, hs, h1, h2⟩
          exact ⟨_, rfl, hs.rd, h1, h2⟩
        · have e : x.get d no = ([], 3, y, dy.burn 1) := by
            unfold Cch.get Cch.read
            rw [if_pos hno, hh, hr]
            simp only [hb]
            rfl
          rw [e]
          refine (rget_bad h hok (by omega) hE hno hh hr s2 hb).mono ?_
          rintro e w' ⟨⟨a, rfl⟩, h1, h2⟩
          exact ⟨_, rfl, rd_empty _ _ a, h1, h2⟩
    · have e : x.get d no = ((x.fr i).b, 0, x.use i, d) := by
        unfold Cch.get
        rw [if_pos hno, hh]
      rw [e]
      refine (rget_hit h hok hno hh).mono ?_
      rintro e w' ⟨gu, cu, rfl, hs, h1, h2⟩
      exact ⟨_, rfl, hs.rd, h1, h2⟩
  · have e : x.get d no = ([], 1, x, d) := by
      unfold Cch.get
      rw [if_neg hno]
    rw [e]
    refine (rget_arg h (no := no) (by omega)).mono ?_
    rintro e w' ⟨⟨a, rfl⟩, h1, h2⟩
    exact ⟨_, rfl, rd_empty _ _ a, h1, h2⟩
end
/-! ### A frame filled -/
theorem crows_set {P : List (Frm × Value)} {i : Nat} (hp : i < P.length) (p : Frm × Value) (rest : List Value) : (crows P ++ rest).take (i * 5) ++ rfCells p ++ (crows P ++ rest).drop (i * 5 + 5) = crows (P.set i p) ++ rest := by
  have hl := crows_length P
  have hput := chunks_put (g := rfCells) (m := 5) (L := P) (fun _ _ => rfl) hp (j := 0) (ys := rfCells p) (y := p) (by rw [rfCells_length]; omega) (by rw [rfCells_length, List.drop_of_length_le (by rw [rfCells_length]; omega)]; simp)
  rw [Nat.add_zero] at hput
  have hput2 : (crows P).take (i * 5) ++ rfCells p ++ (crows P).drop (i * 5 + 5) = crows (P.set i p) := hput
  rw [← hput2, List.take_append_of_le_length (by rw [hl]; omega), List.drop_append_of_le_length (by rw [hl]; omega)]
  simp only [List.append_assoc]
theorem set3 {A B : List Value} {k : Nat} (h : A.length = k) (a b c d e u v x : Value) : (((A ++ [a, b, c, d, e] ++ B).set (k + 4) u).set (k + 2) v).set (k + 3) x = A ++ [a, b, v, x, u] ++ B := by
  subst h
  simp [List.set_append_right]
section
variable {w w' : World} {E E' : Nat → Prop} {q r bf cap : Nat} {rest : List Value} {P : List (Frm × Value)} {x y : Cch} {d d' dy : Dev}
theorem CRefIs.three (hc : CRefIs w E q r bf cap rest P x) {i : Nat} (hi : i < x.L.length) (a0 a1 a2 a3 a4 : Value) : ((crows P ++ rest).take (i * 5)).length = i * 5 ∧ i * 5 + 5 ≤ ((crows P ++ rest).take (i * 5) ++ [a0, a1, a2, a3, a4] ++ (crows P ++ rest).drop (i * 5 + 5)).length := by
  have hp : i < P.length := by rw [hc.len]; exact hi
  have hl := crows_length P
  have e : ((crows P ++ rest).take (i * 5)).length = i * 5 := by rw [List.length_take, List.length_append, hl]; omega
  refine ⟨e, ?_⟩
  rw [List.length_append, List.length_append, e]
  simp
theorem CDR.filled (h : CDR w E q r bf cap rest x d) (hE : ∀ k, w.heap.size ≤ k → E k) {i : Nat} (hi : i < x.L.length) {f : Frm} (hf : f.dirty = true ∧ f.used = true) (hl : f.b.length = 256) {w3 : World} (hg : w.grownBy w3 (some bf))
    (h3 : ∀ P, CRefIs w E q r bf cap rest P x → ∃ a2 a3 a4, w3.heap[bf]? = some (.cells ((crows P ++ rest).take (i * 5) ++ [Value.int .i64 (rfNo f), .int .i64 (f.pins : Int), a2, a3, a4] ++ (crows P ++ rest).drop (i * 5 + 5)).toArray 78 (0, 0)))
    {bb : Nat} (hb : w3.heap[bb]? = some (.cells (cellsB f.b).toArray 5 (0, 0))) :
    ∃ gu cu w5, (Builtin.append_ #[51, 51] 51 #[.slice (some ⟨w3.heap.size, 0, none⟩) 0 0, .slice (some ⟨bb, 0, none⟩) 256 256]).run Try.prog (w3.drew.alloc (.cells #[] 5)) = .ok (.slice (some ⟨gu, 0, none⟩) 256 cu) w5 ∧
      w3.drew.cell? ⟨r, 1, none⟩ = some (.slice (some ⟨bf, 0, none⟩) x.L.length cap) ∧ (w3.drew.alloc (.cells #[] 5)).cell? ⟨r, 1, none⟩ = some (.slice (some ⟨bf, 0, none⟩) x.L.length cap) ∧ w5.cell? ⟨r, 1, none⟩ = some (.slice (some ⟨bf, 0, none⟩) x.L.length cap) ∧
      (∃ a, w5.cell? ⟨bf, i * 5 + 4, none⟩ = some a) ∧ w5.frozen? ⟨bf, i * 5 + 4, none⟩ = false ∧
      (∃ a, (w5.setCell ⟨bf, i * 5 + 4, none⟩ (.slice (some ⟨gu, 0, none⟩) 256 cu)).cell? ⟨bf, i * 5 + 2, none⟩ = some a) ∧ (w5.setCell ⟨bf, i * 5 + 4, none⟩ (.slice (some ⟨gu, 0, none⟩) 256 cu)).frozen? ⟨bf, i * 5 + 2, none⟩ = false ∧
      (∃ a, ((w5.setCell ⟨bf, i * 5 + 4, none⟩ (.slice (some ⟨gu, 0, none⟩) 256 cu)).setCell ⟨bf, i * 5 + 2, none⟩ (.bool true)).cell? ⟨bf, i * 5 + 3, none⟩ = some a) ∧ ((w5.setCell ⟨bf, i * 5 + 4, none⟩ (.slice (some ⟨gu, 0, none⟩) 256 cu)).setCell ⟨bf, i * 5 + 2, none⟩ (.bool true)).frozen? ⟨bf, i * 5 + 3, none⟩ = false ∧
      CDR (((w5.setCell ⟨bf, i * 5 + 4, none⟩ (.slice (some ⟨gu, 0, none⟩) 256 cu)).setCell ⟨bf, i * 5 + 2, none⟩ (.bool true)).setCell ⟨bf, i * 5 + 3, none⟩ (.bool true)) E q r bf cap rest ⟨x.L.set i f, x.hand⟩ d ∧
      Only E w (((w5.setCell ⟨bf, i * 5 + 4, none⟩ (.slice (some ⟨gu, 0, none⟩) 256 cu)).setCell ⟨bf, i * 5 + 2, none⟩ (.bool true)).setCell ⟨bf, i * 5 + 3, none⟩ (.bool true)) := by
  obtain ⟨P, hc⟩ := h.cache
  obtain ⟨a2, a3, a4, hh3⟩ := h3 P hc
  have hp : i < P.length := by rw [hc.len]; exact hi
  obtain ⟨t1, t2⟩ := hc.three hi (.int .i64 (rfNo f)) (.int .i64 (f.pins : Int)) a2 a3 a4
  obtain ⟨tb, tb0, tb1, tb2, tb3⟩ := info_parts rinfo_u8
  obtain ⟨C, hC⟩ : ∃ C, C = (crows P ++ rest).take (i * 5) ++ [Value.int .i64 (rfNo f), .int .i64 (f.pins : Int), a2, a3, a4] ++ (crows P ++ rest).drop (i * 5 + 5) := ⟨_, rfl⟩
  rw [← hC] at hh3 t2
  have hbf : bf < w3.heap.size := (Array.getElem?_eq_some_iff.1 hh3).1
  have hr3 : w3.heap[r]? = w.heap[r]? := hg.block r hc.lt.1 fun e => hc.ne (by injection e)
  have hrl : r < w3.heap.size := (Array.getElem?_eq_some_iff.1 (hr3.trans hc.top)).1
  have hrd : Rd (w3.drew.alloc (.cells #[] 5)) w3.drew.heap.size (.slice (some ⟨bb, 0, none⟩) 256 256) (cellsB f.b) := (rd_block (w := w3.drew) hb hl).alloc (by simp) _
  obtain ⟨u, w5, run5, own5, g5, ob5⟩ := run_append_rd (P := Try.prog) (w := w3.drew.alloc (.cells #[] 5)) w3.heap.size 51 51 5 tb _ 1 Try.underlying51 tb0 tb1 tb2 tb3 rfl _ [] (Mine.empty w3.drew _ 5 (Nat.le_refl _)) _ _ _ hrd (cellsB_one f.b) (by simp [cellsB_length, hl]) (by unfold maxLen; simp [cellsB_length, hl]) (by simp)
  rw [List.nil_append] at own5
  obtain ⟨gu, cu, cur5, e5, hg5, _, _⟩ := own5.at_ (by rw [cellsB_length, hl]; omega)
  rw [cellsB_length, hl] at e5
  subst e5
  have g5 : (w3.drew.alloc (.cells #[] 5)).grownBy w5 (some w3.heap.size) := g5
  have old : ∀ k, k < w3.heap.size → w5.heap[k]? = w3.heap[k]? := fun k hk => (g5.block k (by simp; omega) (fun e => by injection e with e; omega)).trans (heap_alloc_old w3.drew _ hk)
  have hbf5 : w5.heap[bf]? = some (.cells C.toArray 78 (0, 0)) := (old bf hbf).trans hh3
  have r3 : w3.heap[r]? = some (.cells (crCells q bf x.L.length cap x.hand).toArray 49 (0, 0)) := hr3.trans hc.top
  have r5 := (old r hrl).trans r3
  have k6 := heap_setCell_same w5 bf (i * 5 + 4) _ 78 (.slice (some ⟨gu, 0, none⟩) 256 cu) hbf5
  have k7 := heap_setCell_same _ bf (i * 5 + 2) _ 78 (.bool true) k6
  have k8 := heap_setCell_same _ bf (i * 5 + 3) _ 78 (.bool true) k7
  have size6 : i * 5 + 5 ≤ (C.toArray.setIfInBounds (i * 5 + 4) (.slice (some ⟨gu, 0, none⟩) 256 cu)).size := by simpa using t2
  have size7 : i * 5 + 5 ≤ ((C.toArray.setIfInBounds (i * 5 + 4) (.slice (some ⟨gu, 0, none⟩) 256 cu)).setIfInBounds (i * 5 + 2) (.bool true)).size := by simpa using t2
  have size5 : i * 5 + 5 ≤ C.toArray.size := by simpa using t2
  have g35 : w3.grownBy w5 (some bf) := by
    have a0 : w3.grownBy w3.drew (some bf) := ⟨rfl, rfl, rfl, Nat.le_refl _, fun _ _ _ => rfl⟩
    have a1 : w3.grownBy (w3.drew.alloc (.cells #[] 5)) (some bf) := a0.trans (World.grownBy_alloc w3.drew _ _)
    exact a1.andThen g5 fun j e => by injection e with e; subst e; exact .inl (Nat.le_refl _)
  have g58 : w5.grownBy (((w5.setCell ⟨bf, i * 5 + 4, none⟩ (.slice (some ⟨gu, 0, none⟩) 256 cu)).setCell ⟨bf, i * 5 + 2, none⟩ (.bool true)).setCell ⟨bf, i * 5 + 3, none⟩ (.bool true)) (some bf) := ((grown_cell _ _ _ _).trans (grown_cell _ _ _ _)).trans (grown_cell _ _ _ _)
  have g8 := (hg.trans g35).trans g58
  have e8 : ((C.toArray.setIfInBounds (i * 5 + 4) (.slice (some ⟨gu, 0, none⟩) 256 cu)).setIfInBounds (i * 5 + 2) (.bool true)).setIfInBounds (i * 5 + 3) (.bool true) = (crows (P.set i (f, .slice (some ⟨gu, 0, none⟩) 256 cu)) ++ rest).toArray := by
    rw [hC]
    simp only [List.setIfInBounds_toArray]
    rw [set3 t1, ← crows_set hp (f, .slice (some ⟨gu, 0, none⟩) 256 cu) rest]
    show _ = ((crows P ++ rest).take (i * 5) ++ [Value.int .i64 (rfNo f), .int .i64 (f.pins : Int), .bool f.dirty, .bool f.used, .slice (some ⟨gu, 0, none⟩) 256 cu] ++ (crows P ++ rest).drop (i * 5 + 5)).toArray
    rw [hf.1, hf.2]
  rw [e8] at k8
  have nb : gu ≠ bf := fun e => ne_of_kind (hg5) hbf5 (by decide) e
  have hs8 : SecIs (((w5.setCell ⟨bf, i * 5 + 4, none⟩ (.slice (some ⟨gu, 0, none⟩) 256 cu)).setCell ⟨bf, i * 5 + 2, none⟩ (.bool true)).setCell ⟨bf, i * 5 + 3, none⟩ (.bool true)) E (.slice (some ⟨gu, 0, none⟩) 256 cu) f.b := by
    refine ⟨hl, ((own5.keep fun g hgg => ?_).weaken (Nat.zero_le _)), fun g hgg => ?_⟩
    · have e : gu = g := by simpa [Value.ownBlock] using hgg
      subst e
      exact g58.block gu (Array.getElem?_eq_some_iff.1 hg5).1 fun e => nb (by injection e)
    · exact hE g (Nat.le_trans hg.size (own5.block g hgg).1)
  obtain ⟨z1, z2⟩ := h.frames (hc.put k8 rfl g8 fun _ => hs8) g8
  have cellAt : ∀ (ww : World) (ca : Array Value) (j : Nat), ww.heap[bf]? = some (.cells ca 78 (0, 0)) → j < ca.size → ∃ a, ww.cell? ⟨bf, j, none⟩ = some a := fun ww ca j hw hj => ⟨ca[j], by rw [cell_of_row ww bf j _ _ (0, 0) hw, Array.getElem?_eq_getElem hj]⟩
  refine ⟨gu, cu, w5, run5, ?_, ?_, ?_, cellAt _ _ _ hbf5 (by omega), frozen_of_row _ bf _ _ _ hbf5, cellAt _ _ _ k6 (by omega), frozen_of_row _ bf _ _ _ k6, cellAt _ _ _ k7 (by omega), frozen_of_row _ bf _ _ _ k7, z1, z2⟩
  · rw [cell_of_row w3.drew r 1 _ 49 (0, 0) r3]; rfl
  · rw [cell_of_row (w3.drew.alloc (.cells #[] 5)) r 1 _ 49 (0, 0) ((heap_alloc_old w3.drew _ hrl).trans r3)]; rfl
  · rw [cell_of_row w5 r 1 _ 49 (0, 0) r5]; rfl
end
end Go.Proofs.Ytfjcblppmoomdaa
