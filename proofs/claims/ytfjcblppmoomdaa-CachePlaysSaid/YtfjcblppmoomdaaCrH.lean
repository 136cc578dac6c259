/-
  The document's cache: Get of what is not held, read: contract.
  The document's cache: Get of what is not held, read: contract.
-/
import Derived.Test.YtfjcblppmoomdaaCrF
namespace Go.Proofs.Ytfjcblppmoomdaa
open Go.RowKit
/-- A frame that a sector was read into. -/
def Frm.got (no : Int) (l : List UInt8) : Frm := ⟨true, no, l, false, false, 0⟩
/-- The five cells of it, stored. -/
abbrev fiveAt (w : World) (bf i : Nat) (no : Int) (u : Value) : World := ((((w.setCell ⟨bf, i * 5, none⟩ (.int .i64 no)).setCell ⟨bf, i * 5 + 1, none⟩ (.int .i64 0)).setCell ⟨bf, i * 5 + 2, none⟩ (.bool false)).setCell ⟨bf, i * 5 + 3, none⟩ (.bool false)).setCell ⟨bf, i * 5 + 4, none⟩ u
section
variable {w w' : World} {E E' : Nat → Prop} {q r bf cap : Nat} {rest : List Value} {P : List (Frm × Value)} {x y : Cch} {d d' : Dev}
theorem CDR.took (h : CDR w E q r bf cap rest y d) {i : Nat} (hi : i < y.L.length) (no : Int) {gu cu : Nat} {l : List UInt8} (hs : SecIs w E (.slice (some ⟨gu, 0, none⟩) 256 cu) l) :
    (fiveAt w bf i no (.slice (some ⟨gu, 0, none⟩) 256 cu)).cell? ⟨r, 1, none⟩ = some (.slice (some ⟨bf, 0, none⟩) y.L.length cap) ∧ (fiveAt w bf i no (.slice (some ⟨gu, 0, none⟩) 256 cu)).cell? ⟨bf, i * 5 + 3, none⟩ = some (.bool false) ∧ (fiveAt w bf i no (.slice (some ⟨gu, 0, none⟩) 256 cu)).frozen? ⟨bf, i * 5 + 3, none⟩ = false ∧
    ((fiveAt w bf i no (.slice (some ⟨gu, 0, none⟩) 256 cu)).setCell ⟨bf, i * 5 + 3, none⟩ (.bool true)).cell? ⟨r, 1, none⟩ = some (.slice (some ⟨bf, 0, none⟩) y.L.length cap) ∧
    ((fiveAt w bf i no (.slice (some ⟨gu, 0, none⟩) 256 cu)).setCell ⟨bf, i * 5 + 3, none⟩ (.bool true)).cell? ⟨bf, i * 5 + 4, none⟩ = some (.slice (some ⟨gu, 0, none⟩) 256 cu) ∧
    SecIs ((fiveAt w bf i no (.slice (some ⟨gu, 0, none⟩) 256 cu)).setCell ⟨bf, i * 5 + 3, none⟩ (.bool true)) E (.slice (some ⟨gu, 0, none⟩) 256 cu) l ∧
    CDR ((fiveAt w bf i no (.slice (some ⟨gu, 0, none⟩) 256 cu)).setCell ⟨bf, i * 5 + 3, none⟩ (.bool true)) E q r bf cap rest ((Cch.mk (y.L.set i (Frm.got no l)) y.hand).use i) d ∧
    Only E w ((fiveAt w bf i no (.slice (some ⟨gu, 0, none⟩) 256 cu)).setCell ⟨bf, i * 5 + 3, none⟩ (.bool true)) := by
  obtain ⟨h1, h2⟩ := h.place5 hi (Frm.got no l) (.slice (some ⟨gu, 0, none⟩) 256 cu) (fun _ => hs)
  have h1 : CDR (fiveAt w bf i no (.slice (some ⟨gu, 0, none⟩) 256 cu)) E q r bf cap rest (Cch.mk (y.L.set i (Frm.got no l)) y.hand) d := h1
  have hi1 : i < (Cch.mk (y.L.set i (Frm.got no l)) y.hand).L.length := by simpa using hi
  have hfr : (Cch.mk (y.L.set i (Frm.got no l)) y.hand).fr i = Frm.got no l := by rw [fr_set hi, if_pos rfl]
  obtain ⟨_, a1, _, _, ff, _, _, _⟩ := h1.cells
  obtain ⟨_, _, _, c3⟩ := h1.frame hi1
  rw [hfr] at c3
  obtain ⟨h3, h4⟩ := h1.uses hi1 true
  obtain ⟨_, a2, _, _, _, _, _, _⟩ := h3.cells
  have e1 : (Cch.mk (y.L.set i (Frm.got no l)) y.hand).L.length = y.L.length := List.length_set
  rw [e1] at a1
  have e2 : (Cch.mk ((Cch.mk (y.L.set i (Frm.got no l)) y.hand).L.set i { (Cch.mk (y.L.set i (Frm.got no l)) y.hand).L.getD i Frm.zero with used := true }) y.hand).L.length = y.L.length := by simp
  obtain ⟨P, hc⟩ := h.cache
  have hk : ∀ k, k < w.heap.size → E k → (∃ cur, w.heap[k]? = some (.cells cur 5 (0, 0))) → ((fiveAt w bf i no (.slice (some ⟨gu, 0, none⟩) 256 cu)).setCell ⟨bf, i * 5 + 3, none⟩ (.bool true)).heap[k]? = w.heap[k]? := by
    rintro k _ _ ⟨cur, hcur⟩
    have hne : k ≠ bf := fun e => ne_of_kind hcur hc.frs (by decide) e
    simp only [fiveAt]
    rw [heap_setCell_other _ _ k _ hne, heap_setCell_other _ _ k _ hne, heap_setCell_other _ _ k _ hne, heap_setCell_other _ _ k _ hne, heap_setCell_other _ _ k _ hne, heap_setCell_other _ _ k _ hne]
  refine ⟨a1, c3, ff _, a2.trans (by simp), ?_, ⟨hs.1, hs.2.1.keep fun g hg => hk g (hs.2.1.block g hg).2 (hs.2.2 g hg) (hs.2.1.held hg), hs.2.2⟩, h3, h2.trans h4⟩
  obtain ⟨P1, hc1⟩ := h1.cache
  have hp : i < P.length := by rw [hc.len]; exact hi
  have g0 := heap_setCell_same _ bf (i * 5) _ _ (.int .i64 no) hc.frs
  have g1 := heap_setCell_same _ bf (i * 5 + 1) _ _ (.int .i64 0) g0
  have g2 := heap_setCell_same _ bf (i * 5 + 2) _ _ (.bool false) g1
  have g3 := heap_setCell_same _ bf (i * 5 + 3) _ _ (.bool false) g2
  have g4 := heap_setCell_same _ bf (i * 5 + 4) _ _ (.slice (some ⟨gu, 0, none⟩) 256 cu) g3
  have g5 := heap_setCell_same _ bf (i * 5 + 3) _ _ (.bool true) g4
  rw [cell_of_row _ bf (i * 5 + 4) _ _ (0, 0) g5]
  have hl := crows_length P
  have hsz : i * 5 + 4 < (crows P ++ rest).length := by rw [List.length_append, hl]; omega
  simp only [List.setIfInBounds_toArray, List.getElem?_toArray]
  rw [List.getElem?_set_ne (by omega), List.getElem?_set_self (by simpa using hsz)]
end
section
variable {w w' : World} {E E' : Nat → Prop} {q r bf cap : Nat} {rest : List Value} {P : List (Frm × Value)} {x y : Cch} {d d' dy : Dev}
set_option maxRecDepth 100000 in
set_option maxHeartbeats 800000 in
theorem rget_ok (h : CDR w E q r bf cap rest x d) (hok : x.Ok d.L.length) (hn : d.n < 1000000) (hE : ∀ k, w.heap.size ≤ k → E k) {no : Int} (hno : 0 ≤ no ∧ no < d.L.length) (hh : x.holder no = none) {i : Nat} (hr : x.room d = (some i, 0, y, dy)) (hi : i < y.L.length) (hl : dy.L.length = d.L.length) (hny : dy.n < 1000000) (hb : dy.burns 1 = false) :
    Calls Try.prog 35 #[at0 r, .int .i64 no] w fun e w' => ∃ gu cu, e = .returned (.tuple #[.slice (some ⟨gu, 0, none⟩) 256 cu, .int .i64 0]) ∧ SecIs w' E (.slice (some ⟨gu, 0, none⟩) 256 cu) (dy.now no.toNat) ∧ CDR w' E q r bf cap rest ((Cch.mk (y.L.set i (Frm.got no (dy.now no.toNat))) y.hand).use i) (dy.burn 1) ∧ Only E w w' := by
  have hA := h.at_ hok no
  rw [hh] at hA
  have hR := rroom_any h hok hn hE
  rw [hr] at hR
  obtain ⟨A, c, c0⟩ := h.sectors
  obtain ⟨k0, _⟩ := h.cells
  obtain ⟨l, hll⟩ : ∃ l, l = dy.now no.toNat := ⟨_, rfl⟩
  rw [← hll]
  have hD : ∀ w1, CDR w1 E q r bf cap rest y dy → Only E w w1 → w1.cell? ⟨r, 0, none⟩ = some (at0 q) ∧ Calls Try.prog 59 #[at0 q, .int .i64 no] w1 fun e w' => ∃ gu cu, e = .returned (.tuple #[.slice (some ⟨gu, 0, none⟩) 256 cu, .int .i64 0]) ∧ SecIs w' E (.slice (some ⟨gu, 0, none⟩) 256 cu) l ∧ CDR w' E q r bf cap rest y (dy.burn 1) ∧ Only E w w' := by
    intro w1 h1 h2
    refine ⟨h1.cells.1, (h1.read_ok (fun k hk => hE k (Nat.le_trans h2.size hk)) hny hno.1 (by rw [hl]; exact hno.2) hb).mono ?_⟩
    rintro e w' ⟨gu, cu, a, b, c, o⟩
    rw [← hll] at b
    exact ⟨gu, cu, a, b, c, h2.trans o⟩
  obtain ⟨n, hnn⟩ : ∃ n, n = d.L.length := ⟨_, rfl⟩
  rw [← hnn] at c0 hno
  have t0 : decide (no < 0) = false := by simp; omega
  have t1 : decide ((n : Int) ≤ no) = false := by simp; omega
  have t2 : decide ((i : Int) < 0) = false := by simp
  have HA : Hid (Calls Try.prog 38 #[at0 r, .int .i64 no] w fun e w' => e = .returned (.int .i64 (-1)) ∧ w = w') := Lib.hid hA
  have HR : Hid (Calls Try.prog 56 #[at0 r] w fun e w' => e = .returned (.tuple #[.int .i64 (i : Int), .int .i64 0]) ∧ CDR w' E q r bf cap rest y dy ∧ Only E w w') := Lib.hid hR
  have HD := Lib.hid hD
  have hT : ∀ w2 gu cu, CDR w2 E q r bf cap rest y (dy.burn 1) → SecIs w2 E (.slice (some ⟨gu, 0, none⟩) 256 cu) l → _ := fun w2 gu cu a b => (⟨a.cells.2.1, a.cells.2.2.2.2.1, a.frame hi, a.cellZ hi, a.took hi no b⟩ : _ ∧ _ ∧ _ ∧ _ ∧ _)
  have HT := Lib.hid hT
  obtain ⟨n', hn'⟩ : ∃ n', n' = y.L.length := ⟨_, rfl⟩
  rw [← hn'] at HT
  have hin : i < n' := by rw [hn']; exact hi
  have b0 : (0 : Int) ≤ (i : Int) := by omega
  have b1 : (i : Int) < (n' : Int) := by omega
  have b2 : ((i : Int)).toNat = i := by omega
  clear hA hR h hok hn hE hh hr hnn hD hl hb hT hll hn' hi hny
  go_enter Try.func35, Try.ntmps35
  go_wp2_with (first
    | (go_at_call 38; refine HA.out.mono ?_; rintro e w1 ⟨rfl, rfl⟩)
    | (go_at_call 56; refine HR.out.mono ?_; rintro e w1 ⟨rfl, hc1, ho1⟩; obtain ⟨z0, hD1⟩ := HD.out w1 hc1 ho1; have HD1 := Lib.hid hD1; clear hc1 ho1 hD1)
    | (go_at_call 59; refine HD1.out.mono ?_; rintro e w2 ⟨gu, cu, rfl, hs2, hc2, ho2⟩; obtain ⟨v1, vf, ⟨p0, p1, p2, p3⟩, ⟨_, p4⟩, q1, q2, q3, q4, q5, q6, q7, q8⟩ := HT.out w2 gu cu hc2 hs2; have g0 := vf (i * 5); have g1 := vf (i * 5 + 1); have g2 := vf (i * 5 + 2); have g3 := vf (i * 5 + 3); have g4 := vf (i * 5 + 4); clear vf; have HS := Lib.hid q6; have H3 := Lib.hid q7; have H4 := Lib.hid (ho2.trans q8); clear q6 q7 q8 hc2 hs2 ho2))
  go_ret2
  exact ⟨_, _, rfl, HS.out, H3.out, H4.out⟩
end
end Go.Proofs.Ytfjcblppmoomdaa
