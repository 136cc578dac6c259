/-
  The document's own device, as lists; what its blocks hold; its small functions, by contracts.
  The document's device: what a sector has now, Read, Waiting, Ints: contracts.
-/
import Derived.Test.YtfjcblppmoomdaaDevJ
import Derived.StillTailTactics
import Derived.Test.YtfjcblppmoomdaaInts
namespace Go.Proofs.Ytfjcblppmoomdaa
open Go.RowKit
/-- The document's device: the sectors that last, the writes that wait, what is to fail, the number of writes. -/
structure Ref where
  L : List (List UInt8)
  W : List (Nat × List UInt8)
  f : Nat → Int
  n : Nat
/-- The cells of its own block. -/
def refCells (x : Ref) (vL vA vB : Value) : List Value := [vL, vA, vB, .int .i64 (x.f 0), .int .i64 (x.f 1), .int .i64 (x.f 2), .int .i64 (x.f 3), .int .i64 (x.n : Int)]
/-- In w the slice u is a sector's bytes l, in a block of G. -/
def SecIs (w : World) (G : Nat → Prop) (u : Value) (l : List UInt8) : Prop := l.length = 256 ∧ Mine w 0 5 u (cellsB l) ∧ ∀ g, u.ownBlock = some g → G g
/-- Slices of sectors. -/
def Elems (w : World) (G : Nat → Prop) (vs : List Value) (ls : List (List UInt8)) : Prop := vs.length = ls.length ∧ ∀ (k : Nat) (u : Value) (l : List UInt8), vs[k]? = some u → ls[k]? = some l → SecIs w G u l
/-- In w there is the document's device x at block q: its own blocks in G, its sectors in Z. -/
structure RefIs (w : World) (G Z : Nat → Prop) (q : Nat) (vL vA vB : Value) (ls bs : List Value) (x : Ref) : Prop where
  top : w.heap[q]? = some (.cells (refCells x vL vA vB).toArray 46 (0, 0))
  rL : Mine w 0 51 vL ls
  rA : Mine w 0 3 vA (cellsN (x.W.map (·.1)))
  rB : Mine w 0 51 vB bs
  eL : Elems w Z ls x.L
  eB : Elems w Z bs (x.W.map (·.2))
  apart : vL.ownBlock = none ∨ vL.ownBlock ≠ vB.ownBlock
  inG : G q ∧ (∀ g, vL.ownBlock = some g → G g) ∧ (∀ g, vA.ownBlock = some g → G g) ∧ (∀ g, vB.ownBlock = some g → G g)
  at_ : ∀ y ∈ x.W, y.1 < x.L.length
  few : x.W.length ≤ x.n
  size : x.L.length ≤ 1600
  fuse : ∀ k, -1 ≤ x.f k ∧ x.f k ≤ 9223372036854775807

section
variable {w w' : World} {G G' Z Z' : Nat → Prop} {q : Nat} {vL vA vB : Value} {ls bs : List Value} {x : Ref} {u v : Value} {xs : List Value} {l : List UInt8}
/-- Where a row that is not empty lies. -/
theorem Mine.at_ {base : Nat} {e : TypeId} (h : Mine w base e v xs) (hp : 0 < xs.length) : ∃ g c cur, v = .slice (some ⟨g, 0, none⟩) xs.length c ∧ w.heap[g]? = some (.cells cur e (0, 0)) ∧ xs.length ≤ c ∧ c ≤ maxLen := by
  rcases h.2 with ⟨rfl, hn⟩ | ⟨g, cap, cur, rfl, hbg, hg, hnc, hcm, hcs, htake⟩
  · omega
  · exact ⟨g, cap, cur, rfl, hg, hnc, hcm⟩
theorem Mine.held {base : Nat} {e : TypeId} (h : Mine w base e v xs) {g : Nat} (hg : v.ownBlock = some g) : ∃ cur, w.heap[g]? = some (.cells cur e (0, 0)) := by
  rcases h.2 with ⟨rfl, hn⟩ | ⟨g', cap, cur, rfl, hbg, hg', hnc, hcm, hcs, htake⟩
  · cases hg
  · injection hg with hg; subst hg; exact ⟨cur, hg'⟩
/-- A block of another kind is not the row's. -/
theorem Mine.notAt {base : Nat} {e t : TypeId} {c : Array Value} {f : Nat × Nat} (h : Mine w base e v xs) {p : Nat} (hp : w.heap[p]? = some (.cells c t f)) (hne : t ≠ e) : v.ownBlock ≠ some p := fun hg => by
  obtain ⟨cur, hc⟩ := h.held hg
  rw [hp] at hc
  injection hc with hc
  injection hc with _ ht
  exact hne ht
theorem Mine.keep {base : Nat} {e : TypeId} (h : Mine w base e v xs) (hk : ∀ g, v.ownBlock = some g → w'.heap[g]? = w.heap[g]?) : Mine w' base e v xs := by
  refine ⟨h.1, ?_⟩
  rcases h.2 with hn | ⟨g, cap, cur, e', hb, hg, rest⟩
  · exact .inl hn
  · exact .inr ⟨g, cap, cur, e', hb, (hk g (by rw [e']; rfl)).trans hg, rest⟩
theorem SecIs.keep (h : SecIs w G u l) (hk : ∀ k, k < w.heap.size → G k → w'.heap[k]? = w.heap[k]?) : SecIs w' G u l :=
  ⟨h.1, h.2.1.keep fun g hg => hk g (h.2.1.block g hg).2 (h.2.2 g hg), h.2.2⟩
theorem SecIs.mono (h : SecIs w G u l) (hG : ∀ k, k < w.heap.size → G k → G' k) : SecIs w G' u l := ⟨h.1, h.2.1, fun g hg => hG g (h.2.1.block g hg).2 (h.2.2 g hg)⟩
/-- Nothing of another kind of block is a sector's. -/
theorem SecIs.grown (h : SecIs w G u l) {row : Option Nat} (hg : w.grownBy w' row) (hr : u.ownBlock ≠ row) : SecIs w' G u l := ⟨h.1, h.2.1.grown hg (.inr hr), h.2.2⟩
theorem SecIs.at_ (h : SecIs w G u l) : ∃ g c, u = .slice (some ⟨g, 0, none⟩) 256 c ∧ G g ∧ g < w.heap.size ∧ 256 ≤ c ∧ c ≤ 9223372036854775807 := by
  obtain ⟨g, c, cur, rfl, hg, h1, h2⟩ := h.2.1.at_ (by rw [cellsB_length, h.1]; omega)
  rw [cellsB_length, h.1] at *
  unfold maxLen at h2
  exact ⟨g, c, rfl, h.2.2 g rfl, (Array.getElem?_eq_some_iff.1 hg).1, h1, by omega⟩
theorem SecIs.rd (h : SecIs w G u l) : Rd w w.heap.size u (cellsB l) := h.2.1.rd
theorem SecIs.cell (h : SecIs w G u l) {g c : Nat} (he : u = .slice (some ⟨g, 0, none⟩) 256 c) {j : Nat} (hj : j < 256) : w.cell? ⟨g, j, none⟩ = some (.int .u8 ((l[j]'(by rw [h.1]; exact hj)).toNat : Int)) := by
  have := h.2.1
  rw [he] at this
  exact this.cellAt (cellsB_at l j (by rw [h.1]; exact hj))
theorem Elems.keep {vs : List Value} {l : List (List UInt8)} (h : Elems w G vs l) (hk : ∀ k, k < w.heap.size → G k → w'.heap[k]? = w.heap[k]?) : Elems w' G vs l := ⟨h.1, fun k u l a b => (h.2 k u l a b).keep hk⟩
theorem Elems.mono {vs : List Value} {l : List (List UInt8)} (h : Elems w G vs l) (hG : ∀ k, k < w.heap.size → G k → G' k) : Elems w G' vs l := ⟨h.1, fun k u l a b => (h.2 k u l a b).mono hG⟩
theorem Elems.below {vs : List Value} {l : List (List UInt8)} (h : Elems w G vs l) (hb : Below w.heap.size w w') : Elems w' G vs l := h.keep fun k hk _ => hb.block k hk
/-- A row of slices, or a block of another kind, is written: the sectors stay. -/
theorem SecIs.other (h : SecIs w G u l) {row : Option Nat} (hg : w.grownBy w' row) (hr : ∀ g cur, row = some g → w.heap[g]? ≠ some (.cells cur 5 (0, 0))) : SecIs w' G u l := by
  refine h.grown hg fun e => ?_
  obtain ⟨g, c, rfl, _⟩ := h.at_
  obtain ⟨cur, hc⟩ := h.2.1.held rfl
  exact hr g cur e.symm hc
theorem Elems.other {vs : List Value} {ll : List (List UInt8)} (h : Elems w G vs ll) {row : Option Nat} (hg : w.grownBy w' row) (hr : ∀ g cur, row = some g → w.heap[g]? ≠ some (.cells cur 5 (0, 0))) : Elems w' G vs ll :=
  ⟨h.1, fun k u l a b => (h.2 k u l a b).other hg hr⟩
theorem Elems.nil (w : World) (G : Nat → Prop) : Elems w G [] [] := ⟨rfl, fun k u l h => by simp at h⟩
theorem Elems.snoc {vs : List Value} {ll : List (List UInt8)} (h : Elems w G vs ll) (hu : SecIs w G u l) : Elems w G (vs ++ [u]) (ll ++ [l]) := by
  refine ⟨by simp [h.1], fun k a b ha hb => ?_⟩
  by_cases hk : k < vs.length
  · rw [List.getElem?_append_left hk] at ha
    rw [List.getElem?_append_left (by rw [← h.1]; exact hk)] at hb
    exact h.2 k a b ha hb
  · rw [List.getElem?_append_right (by omega)] at ha
    rw [List.getElem?_append_right (by rw [← h.1]; omega), ← h.1] at hb
    have : k - vs.length = 0 := by
      rcases hz : k - vs.length with _ | m
      · rfl
      · rw [hz] at ha; simp at ha
    rw [this] at ha hb
    simp at ha hb
    subst ha hb
    exact hu
theorem Elems.set {vs : List Value} {ll : List (List UInt8)} (h : Elems w G vs ll) (i : Nat) (hu : SecIs w G u l) : Elems w G (vs.set i u) (ll.set i l) := by
  refine ⟨by simp [h.1], fun k a b ha hb => ?_⟩
  rw [List.getElem?_set] at ha hb
  split at ha
  · rename_i e
    rw [if_pos e] at hb
    split at ha
    · injection ha with ha
      split at hb
      · injection hb with hb
        subst ha hb
        exact hu
      · cases hb
    · cases ha
  · rename_i e
    rw [if_neg e] at hb
    exact h.2 k a b ha hb
theorem Elems.at_ {vs : List Value} {ll : List (List UInt8)} (h : Elems w G vs ll) {k : Nat} (hk : k < ll.length) : ∃ u, vs[k]? = some u ∧ SecIs w G u ll[k] := by
  have hv : vs[k]? = some (vs[k]'(by rw [h.1]; exact hk)) := List.getElem?_eq_getElem (by rw [h.1]; exact hk)
  exact ⟨_, hv, h.2 k _ _ hv (List.getElem?_eq_getElem hk)⟩
theorem Elems.one {vs : List Value} {ll : List (List UInt8)} (h : Elems w G vs ll) : ∀ u ∈ vs, u.oneCell' = true := by
  intro u hu
  obtain ⟨k, hk, rfl⟩ := List.mem_iff_getElem.1 hu
  obtain ⟨g, c, e, _⟩ := (h.2 k _ _ (List.getElem?_eq_getElem hk) (List.getElem?_eq_getElem (by rw [← h.1]; exact hk))).at_
  rw [e]
  rfl
theorem Elems.wide {vs : List Value} {ll : List (List UInt8)} (h : Elems w G vs ll) : Wide ll := by
  intro l hl
  obtain ⟨k, hk, rfl⟩ := List.mem_iff_getElem.1 hl
  obtain ⟨u, _, hs⟩ := h.at_ hk
  exact hs.1
theorem cellsN_one (l : List Nat) : ∀ u ∈ cellsN l, u.oneCell' = true := by
  intro u hu
  obtain ⟨_, _, rfl⟩ := List.mem_map.1 hu
  rfl
theorem cellsN_length (l : List Nat) : (cellsN l).length = l.length := by simp [cellsN]
theorem cellsN_at (l : List Nat) (k : Nat) (h : k < l.length) : (cellsN l)[k]? = some (.int .i64 (l[k] : Int)) := by simp [cellsN, h]

/-! ### The device -/
theorem RefIs.cell (h : RefIs w G Z q vL vA vB ls bs x) {j : Nat} {v : Value} (hv : (refCells x vL vA vB)[j]? = some v) : w.cell? ⟨q, j, none⟩ = some v := by
  rw [cell_of_row w q j _ 46 (0, 0) h.top]
  simpa using hv
theorem RefIs.free (h : RefIs w G Z q vL vA vB ls bs x) (j : Nat) : w.frozen? ⟨q, j, none⟩ = false := frozen_of_row w q j _ 46 h.top
theorem RefIs.c0 (h : RefIs w G Z q vL vA vB ls bs x) : w.cell? ⟨q, 0, none⟩ = some vL := h.cell rfl
theorem RefIs.c1 (h : RefIs w G Z q vL vA vB ls bs x) : w.cell? ⟨q, 1, none⟩ = some vA := h.cell rfl
theorem RefIs.c2 (h : RefIs w G Z q vL vA vB ls bs x) : w.cell? ⟨q, 2, none⟩ = some vB := h.cell rfl
theorem RefIs.c7 (h : RefIs w G Z q vL vA vB ls bs x) : w.cell? ⟨q, 7, none⟩ = some (.int .i64 (x.n : Int)) := h.cell rfl
theorem RefIs.cf (h : RefIs w G Z q vL vA vB ls bs x) {k : Nat} (hk : k < 4) : w.cell? ⟨q, 3 + k, none⟩ = some (.int .i64 (x.f k)) := h.cell (by match k, hk with | 0, _ => rfl | 1, _ => rfl | 2, _ => rfl | 3, _ => rfl)
theorem RefIs.lt (h : RefIs w G Z q vL vA vB ls bs x) : q < w.heap.size := (Array.getElem?_eq_some_iff.1 h.top).1
theorem RefIs.keep (h : RefIs w G Z q vL vA vB ls bs x) (hk : ∀ k, k < w.heap.size → G k → w'.heap[k]? = w.heap[k]?) (hz : ∀ k, k < w.heap.size → Z k → w'.heap[k]? = w.heap[k]?) : RefIs w' G Z q vL vA vB ls bs x :=
  { h with
    top := (hk q h.lt h.inG.1).trans h.top
    rL := h.rL.keep fun g hg => hk g (h.rL.block g hg).2 (h.inG.2.1 g hg)
    rA := h.rA.keep fun g hg => hk g (h.rA.block g hg).2 (h.inG.2.2.1 g hg)
    rB := h.rB.keep fun g hg => hk g (h.rB.block g hg).2 (h.inG.2.2.2 g hg)
    eL := h.eL.keep hz
    eB := h.eB.keep hz }
theorem RefIs.mono (h : RefIs w G Z q vL vA vB ls bs x) (hG : ∀ k, k < w.heap.size → G k → G' k) (hZ : ∀ k, k < w.heap.size → Z k → Z' k) : RefIs w G' Z' q vL vA vB ls bs x :=
  { h with
    eL := h.eL.mono hZ
    eB := h.eB.mono hZ
    inG := ⟨hG q h.lt h.inG.1, fun g hg => hG g (h.rL.block g hg).2 (h.inG.2.1 g hg), fun g hg => hG g (h.rA.block g hg).2 (h.inG.2.2.1 g hg), fun g hg => hG g (h.rB.block g hg).2 (h.inG.2.2.2 g hg)⟩ }
theorem RefIs.below (h : RefIs w G Z q vL vA vB ls bs x) (hb : Below w.heap.size w w') : RefIs w' G Z q vL vA vB ls bs x := h.keep (fun k hk _ => hb.block k hk) (fun k hk _ => hb.block k hk)
/-- Other cells at the head. -/
theorem RefIs.head (h : RefIs w G Z q vL vA vB ls bs x) {f : Nat → Int} {n : Nat} (top : w'.heap[q]? = some (.cells (refCells { x with f := f, n := n } vL vA vB).toArray 46 (0, 0))) (hg : w.grownBy w' (some q)) (hn : x.n ≤ n) (hf : ∀ k, -1 ≤ f k ∧ f k ≤ 9223372036854775807) :
    RefIs w' G Z q vL vA vB ls bs { x with f := f, n := n } := by
  have h5 : ∀ g cur, some q = some g → w.heap[g]? ≠ some (.cells cur 5 (0, 0)) := fun g cur e hc => by
    injection e with e
    subst e
    rw [h.top] at hc
    injection hc with hc
    injection hc with _ ht
    cases ht
  exact ⟨top, h.rL.grown hg (.inr (h.rL.notAt h.top (by decide))), h.rA.grown hg (.inr (h.rA.notAt h.top (by decide))), h.rB.grown hg (.inr (h.rB.notAt h.top (by decide))), h.eL.other hg h5, h.eB.other hg h5, h.apart, h.inG, h.at_, Nat.le_trans h.few hn, h.size, hf⟩
/-- Is this call of kind k the one that fails? -/
def Ref.burns (x : Ref) (k : Nat) : Bool := x.f k == 0
/-- The device behind that question. -/
def Ref.burn (x : Ref) (k : Nat) : Ref := { x with f := fun j => if j = k ∧ x.f k ≠ -1 then x.f k - 1 else x.f j }
end
section
variable {w w' : World} {G G' Z Z' : Nat → Prop} {q : Nat} {vL vA vB : Value} {ls bs : List Value} {x : Ref}
set_option maxRecDepth 100000 in
theorem rhas_yes {i n c : Nat} {A : Option Addr} (hc : w.cell? ⟨q, 0, none⟩ = some (.slice A n c)) (hi : i < n) : Calls Try.prog 68 #[at0 q, .int .i64 i] w fun e w' => e = .returned (.bool true) ∧ w = w' := by
  go_enter Try.func68, Try.ntmps68
  go_wp2_with fail
  go_ret
  exact ⟨rfl, rfl⟩
set_option maxRecDepth 100000 in
theorem rhas_no {i : Int} {n c : Nat} {A : Option Addr} (hc : w.cell? ⟨q, 0, none⟩ = some (.slice A n c)) (hi : i < 0 ∨ (n : Int) ≤ i) : Calls Try.prog 68 #[at0 q, .int .i64 i] w fun e w' => e = .returned (.bool false) ∧ w = w' := by
  rcases hi with hi | hi
  · go_enter Try.func68, Try.ntmps68
    go_wp2_with fail
    go_ret
    exact ⟨rfl, rfl⟩
  · have h0 : decide (i < (n : Int)) = false := by simp; omega
    go_enter Try.func68, Try.ntmps68
    go_wp2_with fail
    go_ret
    exact ⟨rfl, rfl⟩
set_option maxRecDepth 100000 in
theorem burns_raw0 {k : Nat} (hk : k < 4) (c : w.cell? ⟨q, 3 + k, none⟩ = some (.int .i64 0)) (hf : w.frozen? ⟨q, 3 + k, none⟩ = false) :
    Calls Try.prog 69 #[at0 q, .int .i64 (k : Int)] w fun e w' => e = .returned (.bool true) ∧ (w.setCell ⟨q, 3 + k, none⟩ (.int .i64 (-1))).drew = w' := by
  have hk0 : (0 : Int) ≤ (k : Int) := by omega
  have hk1 : (k : Int) < 4 := by omega
  have htk : (k : Int).toNat = k := by omega
  go_enter Try.func69, Try.ntmps69
  go_wp2_with fail
  go_still_tail 12, (by kernel_rfl)
  go_wp2_with fail
  go_ret
  exact ⟨rfl, rfl⟩
set_option maxRecDepth 100000 in
theorem burns_raw1 {k : Nat} (hk : k < 4) (c : w.cell? ⟨q, 3 + k, none⟩ = some (.int .i64 (-1))) (hf : w.frozen? ⟨q, 3 + k, none⟩ = false) :
    Calls Try.prog 69 #[at0 q, .int .i64 (k : Int)] w fun e w' => e = .returned (.bool false) ∧ ((w.setCell ⟨q, 3 + k, none⟩ (.int .i64 (-2))).drew).setCell ⟨q, 3 + k, none⟩ (.int .i64 (-1)) = w' := by
  have hk0 : (0 : Int) ≤ (k : Int) := by omega
  have hk1 : (k : Int) < 4 := by omega
  have htk : (k : Int).toNat = k := by omega
  have hw : IntKind.i64.wrap (-2) = -2 := by decide
  go_enter Try.func69, Try.ntmps69
  go_wp2_with fail
  go_still_tail 12, (by kernel_rfl)
  go_wp2_with fail
  go_ret
  exact ⟨rfl, rfl⟩
set_option maxRecDepth 100000 in
theorem burns_raw2 {k a : Nat} (hk : k < 4) (c : w.cell? ⟨q, 3 + k, none⟩ = some (.int .i64 ((a : Int) + 1))) (ha : a < 9223372036854775807) (hf : w.frozen? ⟨q, 3 + k, none⟩ = false) :
    Calls Try.prog 69 #[at0 q, .int .i64 (k : Int)] w fun e w' => e = .returned (.bool false) ∧ (w.setCell ⟨q, 3 + k, none⟩ (.int .i64 (a : Int))).drew = w' := by
  have hk0 : (0 : Int) ≤ (k : Int) := by omega
  have hk1 : (k : Int) < 4 := by omega
  have htk : (k : Int).toNat = k := by omega
  have hw : IntKind.i64.wrap ((a : Int) + 1 - 1) = (a : Int) := by rw [Int.add_sub_cancel]; exact IntWalk.i64_in _ (by omega)
  have h1 : decide ((a : Int) < -1) = false := by rw [decide_eq_false_iff_not]; omega
  have h2 : decide ((a : Int) = -1) = false := by rw [decide_eq_false_iff_not]; omega
  go_enter Try.func69, Try.ntmps69
  go_wp2_with fail
  go_still_tail 12, (by kernel_rfl)
  go_wp2_with fail
  go_ret
  exact ⟨rfl, rfl⟩
theorem RefIs.fuse_set (h : RefIs w G Z q vL vA vB ls bs x) {w1 : World} {k : Nat} (hk : k < 4) {m : Int} (hm : -1 ≤ m ∧ m ≤ 9223372036854775807) (hw : w1.heap[q]? = (w.setCell ⟨q, 3 + k, none⟩ (.int .i64 m)).heap[q]?) (hg : w.grownBy w1 (some q)) :
    RefIs w1 G Z q vL vA vB ls bs { x with f := fun j => if j = k then m else x.f j } := by
  refine h.head (n := x.n) ?_ hg (Nat.le_refl _) (fun j => ?_)
  · rw [hw]
    have := heap_setCell_same w q (3 + k) _ 46 (.int .i64 m) h.top
    refine this.trans ?_
    match k, hk with
    | 0, _ => simp [refCells]
    | 1, _ => simp [refCells]
    | 2, _ => simp [refCells]
    | 3, _ => simp [refCells]
  · split
    · exact hm
    · exact h.fuse j
theorem grown_drew (w : World) (row : Option Nat) : w.grownBy w.drew row := ⟨rfl, rfl, rfl, Nat.le_refl _, fun _ _ _ => rfl⟩
theorem grown_cell (w : World) (q j : Nat) (v : Value) : w.grownBy (w.setCell ⟨q, j, none⟩ v) (some q) := ⟨rfl, rfl, rfl, by simp, fun k _ hk => heap_setCell_other w _ k v (fun e => hk (by rw [e]))⟩
theorem burns_any (h : RefIs w G Z q vL vA vB ls bs x) {k : Nat} (hk : k < 4) : Calls Try.prog 69 #[at0 q, .int .i64 (k : Int)] w fun e w' => e = .returned (.bool (x.burns k)) ∧ RefIs w' G Z q vL vA vB ls bs (x.burn k) ∧ Only G w w' := by
  have c := h.cf hk
  have hf := h.free (3 + k)
  have hfu := h.fuse k
  by_cases h0 : x.f k = 0
  · rw [h0] at c
    refine (burns_raw0 hk c hf).mono ?_
    rintro e w' ⟨rfl, rfl⟩
    have e1 : x.burns k = true := by simp [Ref.burns, h0]
    have e2 : x.burn k = { x with f := fun j => if j = k then -1 else x.f j } := by simp [Ref.burn, h0]
    rw [e1, e2]
    exact ⟨rfl, h.fuse_set hk (by omega) rfl ((grown_cell _ _ _ _).trans (grown_drew _ _)), (Only.setCell (p := ⟨q, 3 + k, none⟩) h.inG.1 _).trans (Only.drew _ _)⟩
  · by_cases h1 : x.f k = -1
    · rw [h1] at c
      refine (burns_raw1 hk c hf).mono ?_
      rintro e w' ⟨rfl, rfl⟩
      have e1 : x.burns k = false := by simp [Ref.burns, h1]
      have e2 : x.burn k = { x with f := fun j => if j = k then -1 else x.f j } := by
        unfold Ref.burn
        congr 1
        funext j
        by_cases e : j = k
        · subst e; simp [h1]
        · simp [e]
      rw [e1, e2]
      refine ⟨rfl, h.fuse_set hk (by omega) ?_ (((grown_cell w q (3 + k) (.int .i64 (-2))).trans (grown_drew _ _)).trans (grown_cell _ _ _ _)), ((Only.setCell (p := ⟨q, 3 + k, none⟩) h.inG.1 _).trans (Only.drew _ _)).trans (Only.setCell (p := ⟨q, 3 + k, none⟩) h.inG.1 _)⟩
      have t1 := heap_setCell_same w q (3 + k) _ 46 (.int .i64 (-2)) h.top
      have t2 := heap_setCell_same (w.setCell ⟨q, 3 + k, none⟩ (.int .i64 (-2))).drew q (3 + k) _ 46 (.int .i64 (-1)) t1
      refine t2.trans (Eq.trans ?_ (heap_setCell_same w q (3 + k) _ 46 (.int .i64 (-1)) h.top).symm)
      simp
    · obtain ⟨a, ha⟩ : ∃ a : Nat, x.f k = (a : Int) + 1 := ⟨(x.f k - 1).toNat, by omega⟩
      rw [ha] at c hfu
      refine (burns_raw2 hk c (by omega) hf).mono ?_
      rintro e w' ⟨rfl, rfl⟩
      have e1 : x.burns k = false := by simp [Ref.burns, h0]
      have e2 : x.burn k = { x with f := fun j => if j = k then (a : Int) else x.f j } := by
        unfold Ref.burn
        congr 1
        funext j
        by_cases e : j = k
        · subst e
          rw [if_pos ⟨rfl, h1⟩, if_pos rfl, ha]
          omega
        · simp [e]
      rw [e1, e2]
      exact ⟨rfl, h.fuse_set hk (by omega) rfl ((grown_cell _ _ _ _).trans (grown_drew _ _)), (Only.setCell (p := ⟨q, 3 + k, none⟩) h.inG.1 _).trans (Only.drew _ _)⟩
end
/-- What waits for sector i, in order. -/
def vers (W : List (Nat × List UInt8)) (i : Nat) : List (List UInt8) := (W.filter fun y => y.1 == i).map (·.2)
theorem vers_append (W V : List (Nat × List UInt8)) (i : Nat) : vers (W ++ V) i = vers W i ++ vers V i := by simp [vers]
theorem vers_one (y : Nat × List UInt8) (i : Nat) : vers [y] i = if y.1 = i then [y.2] else [] := by
  unfold vers
  by_cases h : y.1 = i
  · simp [h]
  · simp [h]
theorem vers_succ (W : List (Nat × List UInt8)) (i k : Nat) (hk : k < W.length) : vers (W.take (k + 1)) i = vers (W.take k) i ++ if W[k].1 = i then [W[k].2] else [] := by
  rw [List.take_succ_eq_append_getElem hk, vers_append, vers_one]
theorem Mine.no5 {w : World} {base : Nat} {e : TypeId} {v : Value} {xs : List Value} (h : Mine w base e v xs) (hne : e ≠ 5) : ∀ g cur, v.ownBlock = some g → w.heap[g]? ≠ some (.cells cur 5 (0, 0)) := fun g cur hg hc => by
  obtain ⟨c, h1⟩ := h.held hg
  rw [h1] at hc
  injection hc with hc
  injection hc with _ ht
  exact hne ht
theorem rd_one (w : World) (u : Value) (e : TypeId) : Rd (w.alloc (.cells #[u] e)) (w.heap.size + 1) (.slice (some ⟨w.heap.size, 0, none⟩) 1 1) [u] := by
  refine ⟨some ⟨w.heap.size, 0, none⟩, 1, rfl, Nat.le_refl _, by unfold maxLen; omega, (fun h => by cases h), fun _ => ⟨w.heap.size, 0, rfl, Nat.lt_succ_self _, fun j v hv => ?_⟩⟩
  rw [Nat.zero_add, World.cell?_alloc_mark]
  simpa using hv
theorem info_row : (Try.prog.info? 51).map (fun i => (i.zero, i.size, i.bytes)) = some (some (.slice none 0 0), 1, 24) := by kernel_rfl
section
variable {w w' : World} {G G' Z Z' : Nat → Prop} {q : Nat} {vL vA vB : Value} {ls bs : List Value} {x : Ref}
set_option maxRecDepth 100000 in
set_option maxHeartbeats 400000 in
theorem versions_any (h : RefIs w G Z q vL vA vB ls bs x) (hn : x.n < 1000000) (i : Nat) : Calls Try.prog 43 #[at0 q, .int .i64 (i : Int)] w fun e w' => ∃ v vs, e = .returned v ∧ Mine w' w.heap.size 51 v vs ∧ Elems w' Z vs (vers x.W i) ∧ Below w.heap.size w w' := by
  obtain ⟨ti, hi, hz0, hz1, hz2⟩ := info_parts info_row
  obtain ⟨m, hm⟩ : ∃ m, m = x.W.length := ⟨_, rfl⟩
  obtain ⟨A, cA, hA⟩ := h.rA.form
  obtain ⟨B, cB, hB⟩ := h.rB.form
  have hlb : bs.length = m := by rw [h.eB.1, List.length_map, hm]
  rw [cellsN_length, List.length_map, ← hm] at hA
  rw [hlb] at hB
  have hm1 : m < 1000000 := by have := h.few; omega
  have c1 : w.cell? ⟨q, 1, none⟩ = some (.slice A m cA) := by rw [← hA]; exact h.c1
  have c2 : w.cell? ⟨q, 2, none⟩ = some (.slice B m cB) := by rw [← hB]; exact h.c2
  have hstep : ∀ k, k < m → ∃ gA gB gu cu s l, A = some ⟨gA, 0, none⟩ ∧ B = some ⟨gB, 0, none⟩ ∧ vers (x.W.take (k + 1)) i = vers (x.W.take k) i ++ (if s = i then [l] else []) ∧
      ∀ wr, Below w.heap.size w wr → wr.cell? ⟨gA, k, none⟩ = some (.int .i64 (s : Int)) ∧ wr.cell? ⟨gB, k, none⟩ = some (.slice (some ⟨gu, 0, none⟩) 256 cu) ∧ SecIs wr Z (.slice (some ⟨gu, 0, none⟩) 256 cu) l := by
    intro k hk
    have hkW : k < x.W.length := by omega
    obtain ⟨gA, c, cur, eA, hgA, _⟩ := h.rA.at_ (by rw [cellsN_length, List.length_map]; omega)
    obtain ⟨gB, c', cur', eB, hgB, _⟩ := h.rB.at_ (by omega)
    rw [hA] at eA
    rw [hB] at eB
    injection eA with eA1
    injection eB with eB1
    obtain ⟨u, hu, hsec⟩ := h.eB.at_ (k := k) (by rw [List.length_map]; exact hkW)
    obtain ⟨gu, cu, eu, _⟩ := hsec.at_
    refine ⟨gA, gB, gu, cu, x.W[k].1, x.W[k].2, eA1, eB1, vers_succ _ _ _ hkW, fun wr hb => ⟨?_, ?_, ?_⟩⟩
    · have h1 := h.rA
      rw [hA, eA1] at h1
      refine (hb.cell (p := ⟨gA, k, none⟩) (Array.getElem?_eq_some_iff.1 hgA).1).trans (h1.cellAt ?_)
      rw [cellsN_at _ k (by rw [List.length_map]; exact hkW), List.getElem_map]
    · have h1 := h.rB
      rw [hB, eB1] at h1
      rw [← eu]
      exact (hb.cell (p := ⟨gB, k, none⟩) (Array.getElem?_eq_some_iff.1 hgB).1).trans (h1.cellAt hu)
    · rw [List.getElem_map, eu] at hsec
      exact hsec.keep fun j hj _ => hb.block j hj
  have Hstep := Lib.hid hstep
  have hend : x.W.take m = x.W := by rw [hm]; exact List.take_length
  have Hend := Lib.hid hend
  have hq := h.lt
  clear hstep h hA hB hlb hm hend
  go_enter Try.func43, Try.ntmps43
  go_wp2_with fail
  go_loopw [5, 6] (fun ov iv wr => ∃ (k : Nat) (vs : List Value), k ≤ m ∧ iv = .int .i64 (k : Int) ∧ vs.length ≤ k ∧ Mine wr w.heap.size 51 ov vs ∧ Elems wr Z vs (vers (x.W.take k) i) ∧ Below w.heap.size w wr) (fun _ iv _ => m - (intOf iv).toNat)
  case atStart => exact ⟨0, [], by omega, rfl, Nat.le_refl _, Mine.empty w _ 51 (Nat.le_refl _), Elems.nil _ _, (Below.refl _ _).alloc (Nat.le_refl _) _⟩
  case round =>
    obtain ⟨k, vs, hkm, rfl, hvk, hown, hel, hbel⟩ := hrel
    have c1' : wr.cell? ⟨q, 1, none⟩ = some (.slice A m cA) := (hbel.cell (p := ⟨q, 1, none⟩) hq).trans c1
    have c2' : wr.cell? ⟨q, 2, none⟩ = some (.slice B m cB) := (hbel.cell (p := ⟨q, 2, none⟩) hq).trans c2
    by_cases hk : k < m
    · obtain ⟨gA, gB, gu, cu, s, l, rfl, rfl, hv, hc⟩ := Hstep.out k hk
      obtain ⟨d1, d2, hsec⟩ := hc wr hbel
      by_cases hs : s = i
      · rw [if_pos hs] at hv
        have t1 : decide ((s : Int) = (i : Int)) = true := by rw [decide_eq_true_eq]; omega
        obtain ⟨u, hu⟩ : ∃ u, u = Value.slice (some ⟨gu, 0, none⟩) 256 cu := ⟨_, rfl⟩
        have h1u : ∀ v ∈ [u], v.oneCell' = true := fun v hv => by simp at hv; rw [hv, hu]; rfl
        have hr := rd_one wr u 51
        rw [hu] at h1u hr
        have hown' := hown.alloc (.cells #[Value.slice (some ⟨gu, 0, none⟩) 256 cu] 51)
        have HE := Lib.hid hel
        have HS := Lib.hid hsec
        have HV := Lib.hid hv
        clear hel hsec hv hu Hstep hc
        go_wp2_with (at_builtin; refine wpList_append_rd rfl (.tmp 26) (.tmp 34) 43 rfl w.heap.size 51 ti _ 24 Try.underlying43 hi hz0 hz1 hz2 rfl _ vs rfl hown' _ _ _ rfl hr h1u (by simp; omega) (by unfold maxLen; simp; omega) (by simp; exact Nat.le_succ_of_le hbel.size) ?_; intro v2 w2 hown2 hb2 hg2 _)
        have hel2 : Elems w2 Z vs (vers (x.W.take k) i) := (HE.out.below ((Below.refl _ _).alloc (Nat.le_refl _) _)).other hg2 (hown'.no5 (by decide))
        have hsec2 := (HS.out.keep (fun j hj _ => heap_alloc_old wr (.cells #[Value.slice (some ⟨gu, 0, none⟩) 256 cu] 51) hj)).other hg2 (hown'.no5 (by decide))
        go_roundw
        case rel => exact ⟨k + 1, _, by omega, by go_num, by simp; omega, hown2, by rw [HV.out]; exact hel2.snoc hsec2, (hbel.alloc hbel.size _).trans hb2⟩
        case measure => simp [intOf]; omega
      · rw [if_neg hs, List.append_nil] at hv
        have t1 : decide ((s : Int) = (i : Int)) = false := by rw [decide_eq_false_iff_not]; omega
        go_wp2_with fail
        go_roundw
        case rel => exact ⟨k + 1, vs, by omega, by go_num, by omega, hown, by rw [hv]; exact hel, hbel⟩
        case measure => simp [intOf]; omega
    · have hkm2 : k = m := by omega
      subst hkm2
      rw [Hend.out] at hel
      go_wp2_with fail
      go_ret
      exact ⟨_, _, rfl, hown, hel, hbel⟩
end
/-- A sector's bytes now. -/
def Ref.now (x : Ref) (i : Nat) : List UInt8 := (vers x.W i).getLast?.getD (x.L.getD i [])
section
variable {w w' : World} {G G' Z Z' : Nat → Prop} {q : Nat} {vL vA vB : Value} {ls bs : List Value} {x : Ref}
/-- The versions of a sector, their number known. -/
theorem versions_len (h : RefIs w G Z q vL vA vB ls bs x) (hn : x.n < 1000000) (i : Nat) {m : Nat} (hm : (vers x.W i).length = m) :
    Calls Try.prog 43 #[at0 q, .int .i64 (i : Int)] w fun e w' => ∃ A c, e = .returned (.slice A m c) ∧ Below w.heap.size w w' ∧ ∀ k, k < m → ∃ g gu cu, A = some ⟨g, 0, none⟩ ∧ w.heap.size ≤ g ∧ g < w'.heap.size ∧ w'.cell? ⟨g, k, none⟩ = some (.slice (some ⟨gu, 0, none⟩) 256 cu) ∧ SecIs w' Z (.slice (some ⟨gu, 0, none⟩) 256 cu) ((vers x.W i).getD k []) := by
  refine (versions_any h hn i).mono ?_
  rintro e w' ⟨v, vs, rfl, hown, hel, hb⟩
  obtain ⟨A, c, rfl⟩ := hown.form
  have hl : vs.length = m := by rw [hel.1, hm]
  rw [hl]
  rw [hl] at hown
  refine ⟨A, c, rfl, hb, fun k hk => ?_⟩
  obtain ⟨u, hu, hs⟩ := hel.at_ (k := k) (by omega)
  obtain ⟨gu, cu, eu, _⟩ := hs.at_
  obtain ⟨g, c', cur, e1, hg, _⟩ := hown.at_ (by omega)
  injection e1 with e1 e2 e3
  subst e1
  have h1 := hown.cellAt hu
  rw [eu] at h1 hs
  rw [List.getD_eq_getElem?_getD, List.getElem?_eq_getElem (by omega), Option.getD_some]
  exact ⟨g, gu, cu, rfl, hown.lt.1, hown.lt.2, h1, hs⟩
theorem RefIs.wl (h : RefIs w G Z q vL vA vB ls bs x) : Wide x.L := h.eL.wide
/-- Sector i that lasts, by its slice. -/
theorem RefIs.last_at (h : RefIs w G Z q vL vA vB ls bs x) : ∃ A c, vL = .slice A x.L.length c ∧ w.cell? ⟨q, 0, none⟩ = some (.slice A x.L.length c) ∧ ∀ i, i < x.L.length → ∃ g gu cu, A = some ⟨g, 0, none⟩ ∧ g < w.heap.size ∧ G g ∧ g ≠ q ∧ w.cell? ⟨g, i, none⟩ = some (.slice (some ⟨gu, 0, none⟩) 256 cu) ∧ SecIs w Z (.slice (some ⟨gu, 0, none⟩) 256 cu) (x.L.getD i []) := by
  obtain ⟨A, c, hA⟩ := h.rL.form
  have hl := h.eL.1
  rw [hl] at hA
  have hown := h.rL
  rw [hA] at hown
  refine ⟨A, c, hA, by rw [← hA]; exact h.c0, fun i hi => ?_⟩
  obtain ⟨u, hu, hs⟩ := h.eL.at_ hi
  obtain ⟨gu, cu, eu, _⟩ := hs.at_
  obtain ⟨g, c', cur, e1, hg, _⟩ := hown.at_ (by omega)
  injection e1 with e1 e2 e3
  subst e1
  have h1 := hown.cellAt hu
  rw [eu] at h1 hs
  rw [List.getD_eq_getElem?_getD, List.getElem?_eq_getElem hi, Option.getD_some]
  refine ⟨g, gu, cu, rfl, hown.lt.2, h.inG.2.1 g (by rw [hA]; rfl), fun e => ?_, h1, hs⟩
  subst e
  exact hown.notAt h.top (by decide) rfl
set_option maxRecDepth 100000 in
set_option maxHeartbeats 400000 in
theorem rnow_any (h : RefIs w G Z q vL vA vB ls bs x) (hn : x.n < 1000000) {i : Nat} (hi : i < x.L.length) : Calls Try.prog 21 #[at0 q, .int .i64 (i : Int)] w fun e w' => ∃ gu cu, e = .returned (.slice (some ⟨gu, 0, none⟩) 256 cu) ∧ SecIs w' Z (.slice (some ⟨gu, 0, none⟩) 256 cu) (x.now i) ∧ Below w.heap.size w w' := by
  obtain ⟨m, hm⟩ : ∃ m, m = (vers x.W i).length := ⟨_, rfl⟩
  have hv := Lib.hid (versions_len h hn i hm.symm)
  rcases m with _ | m
  · obtain ⟨A, c, hA, c0, hl⟩ := h.last_at
    obtain ⟨g, gu, cu, rfl, hg, hGg, hgq, hc, hs⟩ := hl i hi
    have hnow : x.now i = x.L.getD i [] := by
      unfold Ref.now
      rw [List.eq_nil_of_length_eq_zero hm.symm]
      rfl
    rw [hnow]
    have hq := h.lt
    clear h hm hnow hl
    go_enter Try.func21, Try.ntmps21
    go_wp2_with (go_at_call 43; refine hv.out.mono ?_; rintro e w1 ⟨A1, c1, rfl, hb, _⟩; have c0' := (hb.cell (p := ⟨q, 0, none⟩) hq).trans c0; have hc' := (hb.cell (p := ⟨g, i, none⟩) hg).trans hc; have HS := Lib.hid (hs.keep (w' := w1) fun k hk _ => hb.block k hk))
    go_ret
    exact ⟨_, _, rfl, HS.out, hb⟩
  · have hnow : x.now i = (vers x.W i).getD m [] := by
      unfold Ref.now
      rw [List.getLast?_eq_getElem?, ← hm, Nat.add_sub_cancel, List.getElem?_eq_getElem (by omega), Option.getD_some]
      simp [List.getD_eq_getElem?_getD, List.getElem?_eq_getElem (show m < (vers x.W i).length by omega)]
    rw [hnow]
    have hmn : m < 1000000 := by
      have h1 := h.few
      have h2 : (vers x.W i).length ≤ x.W.length := by unfold vers; rw [List.length_map]; exact List.length_filter_le _ _
      omega
    obtain ⟨l, hl⟩ : ∃ l, l = (vers x.W i).getD m [] := ⟨_, rfl⟩
    rw [← hl]
    have Hl := Lib.hid hl
    clear h hnow hl hm hn hi
    go_enter Try.func21, Try.ntmps21
    go_wp2_with (go_at_call 43; refine hv.out.mono ?_; rintro e w1 ⟨A1, c1, rfl, hb, hall⟩; obtain ⟨g, gu, cu, rfl, hg1, hg2, hc, hs⟩ := hall m (Nat.lt_succ_self _); rw [← Hl.out] at hs; have HS := Lib.hid hs; clear hs hall)
    go_ret
    exact ⟨_, _, rfl, HS.out, hb⟩
end
/-- The first k sectors for which something waits. -/
def waitsUp (W : List (Nat × List UInt8)) (k : Nat) : List Nat := (List.range k).filter fun i => !(vers W i).isEmpty
theorem waitsUp_succ (W : List (Nat × List UInt8)) (k : Nat) : waitsUp W (k + 1) = waitsUp W k ++ if (vers W k).length = 0 then [] else [k] := by
  unfold waitsUp
  rw [List.range_succ, List.filter_append]
  congr 1
  rcases h : vers W k with _ | ⟨a, l⟩
  · simp [h]
  · simp [h]
theorem waitsUp_le (W : List (Nat × List UInt8)) (k : Nat) : (waitsUp W k).length ≤ k := by
  unfold waitsUp
  exact Nat.le_trans (List.length_filter_le _ _) (by simp)
/-- The sectors for which something waits. -/
def Ref.waits (x : Ref) : List Nat := waitsUp x.W x.L.length
theorem info_int : (Try.prog.info? 3).map (fun i => (i.zero, i.size, i.bytes)) = some (some (.int .i64 0), 1, 8) := by kernel_rfl
section
variable {w w' : World} {G G' Z Z' : Nat → Prop} {q : Nat} {vL vA vB : Value} {ls bs : List Value} {x : Ref}
theorem rhas_in (h : RefIs w G Z q vL vA vB ls bs x) {i : Nat} (hi : i < x.L.length) : Calls Try.prog 68 #[at0 q, .int .i64 (i : Int)] w fun e w' => e = .returned (.bool true) ∧ w = w' := by
  obtain ⟨A, c, _, c0, _⟩ := h.last_at
  exact rhas_yes c0 hi
theorem rhas_out (h : RefIs w G Z q vL vA vB ls bs x) {i : Int} (hi : i < 0 ∨ (x.L.length : Int) ≤ i) : Calls Try.prog 68 #[at0 q, .int .i64 i] w fun e w' => e = .returned (.bool false) ∧ w = w' := by
  obtain ⟨A, c, _, c0, _⟩ := h.last_at
  exact rhas_no c0 hi
set_option maxRecDepth 100000 in
theorem rread_arg (h : RefIs w G Z q vL vA vB ls bs x) {i : Int} (hi : i < 0 ∨ (x.L.length : Int) ≤ i) :
    Calls Try.prog 59 #[at0 q, .int .i64 i] w fun e w' => ∃ A c, e = .returned (.tuple #[.slice A 0 c, .int .i64 1]) ∧ Rd w' w'.heap.size (.slice A 0 c) (cellsB []) ∧ Below w.heap.size w w' := by
  have hh := Lib.hid (rhas_out h hi)
  clear h hi
  go_enter Try.func59, Try.ntmps59
  go_wp2_with (go_at_call 68; refine hh.out.mono ?_; rintro e w' ⟨rfl, rfl⟩)
  go_ret2
  exact ⟨_, _, rfl, (Mine.empty w 0 5 (Nat.zero_le _)).rd, (Below.refl _ _).alloc (Nat.le_refl _) _⟩
set_option maxRecDepth 100000 in
theorem rread_io {i : Nat} (h : RefIs w G Z q vL vA vB ls bs x) (hi : i < x.L.length) (hb : x.burns 1 = true) :
    Calls Try.prog 59 #[at0 q, .int .i64 (i : Int)] w fun e w' => ∃ A c, e = .returned (.tuple #[.slice A 0 c, .int .i64 3]) ∧ Rd w' w'.heap.size (.slice A 0 c) (cellsB []) ∧ RefIs w' G Z q vL vA vB ls bs (x.burn 1) ∧ Only G w w' := by
  have hh := Lib.hid (rhas_in h hi)
  have hf := burns_any h (k := 1) (by omega)
  rw [hb] at hf
  have Hf := Lib.hid hf
  clear h hi hb hf
  go_enter Try.func59, Try.ntmps59
  go_wp2_with (first
    | (go_at_call 68; refine hh.out.mono ?_; rintro e w' ⟨rfl, rfl⟩)
    | (go_at_call 69; refine Hf.out.mono ?_; rintro e w1 ⟨rfl, hd, ho⟩))
  go_ret2
  exact ⟨_, _, rfl, (Mine.empty w1 0 5 (Nat.zero_le _)).rd, hd.below ((Below.refl _ _).alloc (Nat.le_refl _) _), ho.trans (Only.alloc _ _ _)⟩
set_option maxRecDepth 100000 in
theorem rread_ok {i : Nat} (h : RefIs w G Z q vL vA vB ls bs x) (hi : i < x.L.length) (hb : x.burns 1 = false) (hn : x.n < 1000000) :
    Calls Try.prog 59 #[at0 q, .int .i64 (i : Int)] w fun e w' => ∃ gu cu, e = .returned (.tuple #[.slice (some ⟨gu, 0, none⟩) 256 cu, .int .i64 0]) ∧ SecIs w' Z (.slice (some ⟨gu, 0, none⟩) 256 cu) (x.now i) ∧ RefIs w' G Z q vL vA vB ls bs (x.burn 1) ∧ Only G w w' := by
  have hh := Lib.hid (rhas_in h hi)
  have hf := burns_any h (k := 1) (by omega)
  rw [hb] at hf
  have Hf := Lib.hid hf
  have hnow : ∀ w1, RefIs w1 G Z q vL vA vB ls bs (x.burn 1) → Calls Try.prog 21 #[at0 q, .int .i64 (i : Int)] w1 fun e w' => ∃ gu cu, e = .returned (.slice (some ⟨gu, 0, none⟩) 256 cu) ∧ SecIs w' Z (.slice (some ⟨gu, 0, none⟩) 256 cu) (x.now i) ∧ Below w1.heap.size w1 w' := fun w1 h1 => rnow_any h1 hn hi
  have Hnow := Lib.hid hnow
  clear h hi hb hf hnow
  go_enter Try.func59, Try.ntmps59
  go_wp2_with (first
    | (go_at_call 68; refine hh.out.mono ?_; rintro e w' ⟨rfl, rfl⟩)
    | (go_at_call 69; refine Hf.out.mono ?_; rintro e w1 ⟨rfl, hd, ho⟩)
    | (go_at_call 21; refine (Hnow.out _ hd).mono ?_; rintro e w2 ⟨gu, cu, rfl, hs, hb2⟩; have HS := Lib.hid hs; clear hs))
  go_ret2
  exact ⟨_, _, rfl, HS.out, hd.below hb2, ho.trans (Only.of_below hb2)⟩
set_option maxRecDepth 100000 in
theorem rfail_arg {k a : Int} (w : World) (q : Nat) (h : k < 1 ∨ 3 < k ∨ a < 0) : Calls Try.prog 34 #[at0 q, .int .i64 k, .int .i64 a] w fun e w' => e = .returned (.int .i64 1) ∧ w = w' := by
  by_cases h1 : k < 1
  · go_enter Try.func34, Try.ntmps34
    go_wp2_with fail
    go_ret
    exact ⟨rfl, rfl⟩
  · by_cases h2 : 3 < k
    · go_enter Try.func34, Try.ntmps34
      go_wp2_with fail
      go_ret
      exact ⟨rfl, rfl⟩
    · have h3 : a < 0 := by omega
      go_enter Try.func34, Try.ntmps34
      go_wp2_with fail
      go_ret
      exact ⟨rfl, rfl⟩
/-- The call of kind k is to fail behind a more. -/
def Ref.told (x : Ref) (k a : Nat) : Ref := { x with f := fun j => if j = k then (a : Int) else x.f j }
set_option maxRecDepth 100000 in
theorem rfail_any (h : RefIs w G Z q vL vA vB ls bs x) {k a : Nat} (hk1 : 1 ≤ k) (hk3 : k ≤ 3) (ha : a ≤ 9223372036854775807) :
    Calls Try.prog 34 #[at0 q, .int .i64 (k : Int), .int .i64 (a : Int)] w fun e w' => e = .returned (.int .i64 0) ∧ RefIs w' G Z q vL vA vB ls bs (x.told k a) ∧ Only G w w' := by
  have c := h.cf (k := k) (by omega)
  have hf := h.free (3 + k)
  have hfin : RefIs (w.setCell ⟨q, 3 + k, none⟩ (.int .i64 (a : Int))) G Z q vL vA vB ls bs (x.told k a) := h.fuse_set (by omega) (by omega) rfl (grown_cell _ _ _ _)
  have ho : Only G w (w.setCell ⟨q, 3 + k, none⟩ (.int .i64 (a : Int))) := Only.setCell (p := ⟨q, 3 + k, none⟩) h.inG.1 _
  have Hfin := Lib.hid hfin
  have Ho := Lib.hid ho
  clear hfin ho h
  go_enter Try.func34, Try.ntmps34
  go_wp2_with fail
  go_ret
  exact ⟨rfl, Hfin.out, Ho.out⟩
end
end Go.Proofs.Ytfjcblppmoomdaa
