/-
  CacheThrough: its walk.
-/
import Derived.Test.YtfjcblppmoomdaaCacheP
import Derived.Test.YtfjcblppmoomdaaCacheR
import Derived.Test.YtfjcblppmoomdaaOpenActs3
import Derived.Deep.RegionHeld3
namespace Go.Proofs.Ytfjcblppmoomdaa
open Go.RowKit
/-- What is told, by an array of bytes. -/
def ofBytes (hs : List UInt8) : Nat → List UInt8 := fun m => List.replicate 256 (hs.getD m 0)
theorem ofBytes_set (hs : List UInt8) {m : Nat} (hm : m < hs.length) (b : UInt8) : setH (ofBytes hs) m (List.replicate 256 b) = ofBytes (hs.set m b) := by
  funext k
  unfold setH ofBytes
  simp only [List.getD_eq_getElem?_getD, List.getElem?_set]
  by_cases e : k = m
  · subst e; simp [hm]
  · rw [if_neg e, if_neg (fun h => e h.symm)]
theorem ofBytes_zero (n : Nat) : ofBytes (List.replicate n 0) = fun _ => blank := by
  funext k
  unfold ofBytes blank
  simp only [List.getD_eq_getElem?_getD, List.getElem?_replicate]
  split <;> rfl
/-- What stands within a round: the cache tells H; the law's array has hs; other blocks O are the law's own, too. -/
structure Thr (w0 wr : World) (O : Nat → Prop) (g c bf p : Nat) (hs : List UInt8) (H : Nat → List UInt8) (n : Nat) (x : Cch) (d : Dev) : Prop where
  lw : Lw w0 wr (fun k => k = g ∨ O k) c bf p x d
  inv : Inv x d H
  len : x.L.length = 8
  secs : d.L.length = 24
  few : d.n ≤ n
  pins : ∀ j, (x.fr j).pins = 0
  arr : wr.heap[g]? = some (.cells (cellsB hs).toArray 56 (0, 0))
  hlen : hs.length = 24
section
variable {w0 wr w1 : World} {O O' : Nat → Prop} {g c bf p n m : Nat} {hs : List UInt8} {H : Nat → List UInt8} {x : Cch} {d : Dev}
theorem Thr.le {n' : Nat} (h : Thr w0 wr O g c bf p hs H n x d) (hn : n ≤ n') : Thr w0 wr O g c bf p hs H n' x d := { h with few := Nat.le_trans h.few hn }
theorem Thr.room (h : Thr w0 wr O g c bf p hs H n x d) : ∃ m, m < x.L.length ∧ (x.fr m).pins = 0 := ⟨0, by rw [h.len]; omega, h.pins 0⟩
theorem Thr.more (h : Thr w0 wr O g c bf p hs H n x d) (hb : Below wr.heap.size wr w1) (hO : ∀ k, O' k → O k ∨ (wr.heap.size ≤ k ∧ k < w1.heap.size)) : Thr w0 w1 O' g c bf p hs H n x d :=
  { h with lw := h.lw.more hb fun k hk => hk.elim (fun e => .inl (.inl e)) (fun e => (hO k e).imp .inr id), arr := (hb.block g (Array.getElem?_eq_some_iff.1 h.arr).1).trans h.arr }
theorem Thr.cell (h : Thr w0 wr O g c bf p hs H n x d) {k : Nat} (hk : k < 24) : wr.cell? ⟨g, k, none⟩ = some (.int .u8 ((hs.getD k 0).toNat : Int)) := by
  have hk' : k < hs.length := by rw [h.hlen]; exact hk
  rw [cell_of_row wr g k _ _ (0, 0) h.arr, List.getElem?_toArray, cellsB_at _ _ hk', List.getD_eq_getElem?_getD, List.getElem?_eq_getElem hk']
  rfl
theorem Thr.free (h : Thr w0 wr O g c bf p hs H n x d) (k : Nat) : wr.frozen? ⟨g, k, none⟩ = false := frozen_of_row wr g k _ _ h.arr
/-- The law's own blocks, behind a call. -/
theorem Thr.call {x' : Cch} {d' : Dev} {H' : Nat → List UInt8} {n' : Nat} (h : Thr w0 wr O g c bf p hs H n x d) (hl : Lw w0 w1 (fun k => k = g ∨ O k) c bf p x' d') (hi : Inv x' d' H') (h1 : x'.L.length = x.L.length) (h2 : d'.L.length = d.L.length) (h3 : d'.n ≤ n')
    (h4 : ∀ j, (x'.fr j).pins = (x.fr j).pins) (h5 : w1.heap[g]? = wr.heap[g]?) : Thr w0 w1 O g c bf p hs H' n' x' d' :=
  ⟨hl, hi, h1.trans h.len, h2.trans h.secs, h3, fun j => (h4 j).trans (h.pins j), h5.trans h.arr, h.hlen⟩
theorem Thr.put (h : Thr w0 wr O g c bf p hs H n x d) (hn : n < 999999) (hm : m < 24) (hb : Below wr.heap.size wr w1) {g5 : Nat} (hg : wr.heap.size ≤ g5) {l : List UInt8} (hl : l.length = 256) (hh : w1.heap[g5]? = some (.cells (cellsB l).toArray 5 (0, 0))) :
    Calls Try.prog 22 #[at0 c, .int .i64 (m : Int), .slice (some ⟨g5, 0, none⟩) 256 256] w1 fun e w' => e = .returned (.int .i64 0) ∧ (∃ x d, Thr w0 w' O g c bf p hs (setH H m l) (n + 1) x d) ∧ (∀ k, O k → w'.heap[k]? = w1.heap[k]?) ∧ Below w0.heap.size w0 w' := by
  have hf := h.few
  obtain ⟨p1, p2, p3, p4, p5, p6⟩ := h.inv.put (no := (m : Int)) ⟨by omega, by rw [h.secs]; omega⟩ h.room l
  refine (h.lw.lw_put h.inv.ok.within (by omega) (m : Int) hb hg hl hh).mono ?_
  rintro e w' ⟨rfl, q1, q2, q3⟩
  rw [p1]
  rw [Int.toNat_natCast] at p2
  refine ⟨rfl, ⟨_, _, h.call q1 p2 p3 p4 (by omega) p6 ((q2 g (.inl rfl)).trans (hb.block g (Array.getElem?_eq_some_iff.1 h.arr).1))⟩, fun k hk => q2 k (.inr hk), q1.low⟩
theorem Thr.sync (h : Thr w0 wr O g c bf p hs H n x d) (hn : n < 999900) :
    Calls Try.prog 24 #[at0 c] wr fun e w' => e = .returned (.int .i64 0) ∧ (∃ x d, Thr w0 w' O g c bf p hs H (n + 8) x d ∧ x.soiled = [] ∧ (∀ m, m < 24 → d.L.getD m [] = H m) ∧ (∀ i, d.Q i = [])) ∧ (∀ k, O k → w'.heap[k]? = wr.heap[k]?) ∧ Below w0.heap.size w0 w' := by
  have hf := h.few
  obtain ⟨p1, p2, p3, p4, p5, p6, p7, p8, p9⟩ := h.inv.sync
  refine (h.lw.lw_sync h.inv.ok.within (dirty_full h.inv.ok) (by omega)).mono ?_
  rintro e w' ⟨rfl, q1, q2, q3⟩
  rw [p1]
  refine ⟨rfl, ⟨_, _, h.call q1 p2 p3 p4 (by have := h.len; omega) p6 (q2 g (.inl rfl)), p7, fun m hm => p8 m (by rw [h.secs]; exact hm), p9⟩, fun k hk => q2 k (.inr hk), q1.low⟩
theorem Thr.get (h : Thr w0 wr O g c bf p hs H n x d) (hn : n < 999999) (hm : m < 24) :
    Calls Try.prog 25 #[at0 c, .int .i64 (m : Int)] wr fun e w' => ∃ v, e = .returned (.tuple #[v, .int .i64 0]) ∧ Rd w' w'.heap.size v (cellsB (H m)) ∧ (∃ x d, Thr w0 w' O g c bf p hs H (n + 1) x d) ∧ (∀ k, O k → w'.heap[k]? = wr.heap[k]?) ∧ Below w0.heap.size w0 w' := by
  have hf := h.few
  have hno : (0 : Int) ≤ (m : Int) ∧ (m : Int) < d.L.length := ⟨by omega, by rw [h.secs]; omega⟩
  obtain ⟨p1, p2, p3⟩ := h.inv.get hno h.room
  obtain ⟨_, g2, g3, _, _, g6, g7, _, _⟩ := h.inv.ok.get (m : Int)
  refine (h.lw.lw_get h.inv.ok.within (by omega) (m : Int)).mono ?_
  rintro e w' ⟨v, rfl, q0, q1, q2, q3⟩
  rw [p1]
  rw [p2, Int.toNat_natCast] at q0
  exact ⟨v, rfl, q0, ⟨_, _, h.call q1 p3 g2 g6 (by omega) g3 (q2 g (.inl rfl))⟩, fun k hk => q2 k (.inr hk), q1.low⟩
theorem Thr.held (h : Thr w0 wr O g c bf p hs H n x d) : Calls Try.prog 15 #[at0 c] wr fun e w' => ∃ A n' cc, e = .returned (.slice A n' cc) ∧ n' ≤ 8 ∧ n' ≤ cc ∧ cc ≤ 9223372036854775807 ∧ Below wr.heap.size wr w' := by
  refine (Held_any h.lw.cd.cache).mono ?_
  rintro e w' ⟨v, rfl, hown, hb⟩
  obtain ⟨A, cc, rfl, q1, q2, _⟩ := hown.ints
  exact ⟨A, _, cc, rfl, by rw [upward_length]; have := upThose_le x.L (fun f => f.full) x.L.length; have := h.len; show (upThose x.L (fun f => f.full) x.L.length).length ≤ 8; omega, q1, q2, hb⟩
/-- The array, stored into. -/
theorem Thr.stored {b : UInt8} (h : Thr w0 wr O g c bf p hs (setH (ofBytes hs) m (List.replicate 256 b)) n x d) (hm : m < 24) : Thr w0 (wr.setCell ⟨g, m, none⟩ (.int .u8 (b.toNat : Int))) O g c bf p (hs.set m b) (ofBytes (hs.set m b)) n x d := by
  have hg : wr.grownBy (wr.setCell ⟨g, m, none⟩ (.int .u8 (b.toNat : Int))) (some g) := ⟨rfl, rfl, rfl, by simp, fun k _ hk => heap_setCell_other wr ⟨g, m, none⟩ k _ (fun e => hk (by rw [e]))⟩
  have hm' : m < hs.length := by rw [h.hlen]; exact hm
  have hi := h.inv
  rw [ofBytes_set hs hm' b] at hi
  refine ⟨h.lw.grown hg (fun k e => .inl (by injection e with e; exact e.symm)) fun k hk => .inl hk, hi, h.len, h.secs, h.few, h.pins, ?_, by rw [List.length_set]; exact h.hlen⟩
  have := heap_setCell_same wr g m _ _ (.int .u8 (b.toNat : Int)) h.arr
  rw [this]
  simp [cellsB, List.map_set]
end
/-- The cells of an act of the law's own. -/
theorem act_cells {w : World} {ga : Nat} {t : TypeId} {a b c : Value} (h : w.heap[ga]? = some (.cells #[a, b, c] t (0, 0))) : w.cell? ⟨ga, 0, none⟩ = some a ∧ w.cell? ⟨ga, 1, none⟩ = some b ∧ w.cell? ⟨ga, 2, none⟩ = some c ∧ w.frozen? ⟨ga, 1, none⟩ = false :=
  ⟨cell_of_row w ga 0 _ _ (0, 0) h, cell_of_row w ga 1 _ _ (0, 0) h, cell_of_row w ga 2 _ _ (0, 0) h, frozen_of_row w ga 1 _ _ h⟩
/-- A sector's number, as the law takes it. -/
def inside (no : Int) (n : Nat) : Nat := if no < 0 ∨ (n : Int) ≤ no then 0 else no.toNat
end Go.Proofs.Ytfjcblppmoomdaa
