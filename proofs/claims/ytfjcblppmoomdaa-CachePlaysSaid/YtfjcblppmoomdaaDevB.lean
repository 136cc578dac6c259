/-
  What the blocks of a device hold; its small functions, by contracts.
-/
import Derived.Test.YtfjcblppmoomdaaDevA
namespace Go.Proofs.Ytfjcblppmoomdaa
open Go.RowKit

/-- A device, in the document's terms: what is to fail (told, how many are done ahead), the sectors that last, what waits, the number of Writes. -/
structure Dev where
  f : Nat → Bool × Nat
  L : List (List UInt8)
  Q : Nat → List (List UInt8)
  n : Nat
/-- The cells of the device's own block. -/
def devCells (d : Dev) (bl bm : Nat) : List Value :=
  [.bool (d.f 0).1, .int .i64 ((d.f 0).2 : Int), .bool (d.f 1).1, .int .i64 ((d.f 1).2 : Int), .bool (d.f 2).1, .int .i64 ((d.f 2).2 : Int), .bool (d.f 3).1, .int .i64 ((d.f 3).2 : Int),
   .slice (some ⟨bl, 0, none⟩) d.L.length d.L.length, .map (some bm), .int .i64 (d.n : Int)]
/-- How an element of the map reads: as it stands. -/
def asHeld (v : Value) : Option (DataW Value × List MemPlace) := some (.held v, [])
/-- The key of sector i. -/
abbrev keyL (i : Nat) : Lit := .int .i64 (i : Int)

/-- In w there is the device d at block p, in blocks of F alone: bl: the sectors that last; bm: the map of what waits; S: the map's elements. -/
structure DevIs (w : World) (F : Nat → Prop) (p bl bm : Nat) (S : Nat → Value) (D : DataW Value) (d : Dev) : Prop where
  top : w.heap[p]? = some (.cells (devCells d bl bm).toArray 71 (0, 0))
  last : w.heap[bl]? = some (.cells (flat d.L).toArray 85 (0, 0))
  map : w.ownsMap Try.prog 3 asHeld bm d.n D
  at_ : ∀ i : Nat, i < d.L.length → D.atKey (keyL i) (.held (.slice none 0 0)) = .held (S i)
  row : ∀ i : Nat, i < d.L.length → w.ownsRow 0 85 256 (S i) (d.Q i).length (flat (d.Q i))
  has : ∀ i : Nat, i < d.L.length → (Maps.has D (keyL i) = true ↔ d.Q i ≠ [])
  keys : ∀ kl, Maps.has D kl = true → ∃ i : Nat, i < d.L.length ∧ kl = keyL i
  apart : ∀ i j : Nat, i < d.L.length → j < d.L.length → i ≠ j → (S i).ownBlock = none ∨ (S i).ownBlock ≠ (S j).ownBlock
  own : ∀ (i g : Nat), i < d.L.length → (S i).ownBlock = some g → F g ∧ g ≠ p ∧ g ≠ bl ∧ g ≠ bm
  ne : p ≠ bl ∧ p ≠ bm ∧ bl ≠ bm
  inF : F p ∧ F bl ∧ F bm
  wl : Wide d.L
  wq : ∀ i, Wide (d.Q i)
  size : 16 ≤ d.L.length ∧ d.L.length ≤ 1600
  few : ∀ i, (d.Q i).length ≤ d.n
  fuel : ∀ k, (d.f k).2 ≤ 9223372036854775807

/-- A pointer to a block's head. -/
abbrev at0 (p : Nat) : Value := .pointer (some ⟨p, 0, none⟩)

section
variable {w : World} {F : Nat → Prop} {p bl bm : Nat} {S : Nat → Value} {D : DataW Value} {d : Dev}
theorem DevIs.cell (h : DevIs w F p bl bm S D d) {j : Nat} {v : Value} (hv : (devCells d bl bm)[j]? = some v) : w.cell? ⟨p, j, none⟩ = some v := by
  rw [cell_of_row w p j _ 71 (0, 0) h.top]
  simpa using hv
theorem DevIs.free (h : DevIs w F p bl bm S D d) (j : Nat) : w.frozen? ⟨p, j, none⟩ = false := frozen_of_row w p j _ 71 h.top
theorem DevIs.c8 (h : DevIs w F p bl bm S D d) : w.cell? ⟨p, 8, none⟩ = some (.slice (some ⟨bl, 0, none⟩) d.L.length d.L.length) := h.cell rfl
theorem DevIs.c9 (h : DevIs w F p bl bm S D d) : w.cell? ⟨p, 9, none⟩ = some (.map (some bm)) := h.cell rfl
theorem DevIs.c10 (h : DevIs w F p bl bm S D d) : w.cell? ⟨p, 10, none⟩ = some (.int .i64 (d.n : Int)) := h.cell rfl
theorem DevIs.told (h : DevIs w F p bl bm S D d) {k : Nat} (hk : k < 4) : w.cell? ⟨p, 2 * k, none⟩ = some (.bool (d.f k).1) := h.cell (by match k, hk with | 0, _ => rfl | 1, _ => rfl | 2, _ => rfl | 3, _ => rfl)
theorem DevIs.ahead (h : DevIs w F p bl bm S D d) {k : Nat} (hk : k < 4) : w.cell? ⟨p, 2 * k + 1, none⟩ = some (.int .i64 ((d.f k).2 : Int)) := h.cell (by match k, hk with | 0, _ => rfl | 1, _ => rfl | 2, _ => rfl | 3, _ => rfl)
theorem DevIs.keep {w' : World} (h : DevIs w F p bl bm S D d) (hk : ∀ k, k < w.heap.size → F k → w'.heap[k]? = w.heap[k]?) : DevIs w' F p bl bm S D d := by
  have kp : ∀ {k : Nat} {o : Obj}, F k → w.heap[k]? = some o → w'.heap[k]? = some o := fun hF e => (hk _ (Array.getElem?_eq_some_iff.1 e).1 hF).trans e
  refine { h with top := kp h.inF.1 h.top, last := kp h.inF.2.1 h.last, map := ?_, row := fun i hi => ?_ }
  · obtain ⟨es, clock, hb, rest⟩ := h.map
    exact ⟨es, clock, kp h.inF.2.2 hb, rest⟩
  · have hr := h.row i hi
    refine ⟨hr.1, ?_⟩
    rcases hr.2 with hn | ⟨g, cap, cur, e, hb, hg, rest⟩
    · exact .inl hn
    · exact .inr ⟨g, cap, cur, e, hb, kp (h.own i g hi (by rw [e]; rfl)).1 hg, rest⟩
theorem DevIs.mono {F' : Nat → Prop} (h : DevIs w F p bl bm S D d) (hF : ∀ k, k < w.heap.size → F k → F' k) : DevIs w F' p bl bm S D d := by
  have lt : ∀ {k : Nat} {o : Obj}, w.heap[k]? = some o → k < w.heap.size := fun e => (Array.getElem?_eq_some_iff.1 e).1
  refine { h with inF := ⟨hF _ (lt h.top) h.inF.1, hF _ (lt h.last) h.inF.2.1, hF _ h.map.lt h.inF.2.2⟩, own := fun i g hi e => ?_ }
  have := h.own i g hi e
  exact ⟨hF g ((h.row i hi).lt g e).2 this.1, this.2⟩
theorem DevIs.below {w' : World} (h : DevIs w F p bl bm S D d) (hb : Below w.heap.size w w') : DevIs w' F p bl bm S D d := h.keep fun k hk _ => hb.block k hk
theorem DevIs.lt (h : DevIs w F p bl bm S D d) : p < w.heap.size ∧ bl < w.heap.size ∧ bm < w.heap.size :=
  ⟨(Array.getElem?_eq_some_iff.1 h.top).1, (Array.getElem?_eq_some_iff.1 h.last).1, h.map.lt⟩
end

theorem bcell {W w1 : World} (hb : Below W.heap.size W w1) : (∀ b o, b < W.heap.size → w1.cell? ⟨b, o, none⟩ = W.cell? ⟨b, o, none⟩) ∧ (∀ b o, b < W.heap.size → w1.frozen? ⟨b, o, none⟩ = W.frozen? ⟨b, o, none⟩) :=
  ⟨fun b o h => hb.cell (p := ⟨b, o, none⟩) h, fun b o h => hb.frozen (p := ⟨b, o, none⟩) h⟩

set_option maxRecDepth 100000 in
theorem len_any {w : World} {p bl n : Nat} (hc : w.cell? ⟨p, 8, none⟩ = some (.slice (some ⟨bl, 0, none⟩) n n)) : Calls Try.prog 61 #[at0 p] w fun e w' => e = .returned (.int .i64 n) ∧ w = w' := by
  go_enter Try.func61, Try.ntmps61
  go_wp2_with fail
  go_ret
  exact ⟨rfl, rfl⟩
set_option maxRecDepth 100000 in
theorem len_nil (w : World) : Calls Try.prog 61 #[.pointer none] w fun e w' => e = .returned (.int .i64 0) ∧ w = w' := by
  go_enter Try.func61, Try.ntmps61
  go_wp2_with fail
  go_ret
  exact ⟨rfl, rfl⟩
set_option maxRecDepth 100000 in
theorem writes_any {w : World} {p n : Nat} (hc : w.cell? ⟨p, 10, none⟩ = some (.int .i64 (n : Int))) : Calls Try.prog 18 #[at0 p] w fun e w' => e = .returned (.int .i64 n) ∧ w = w' := by
  go_enter Try.func18, Try.ntmps18
  go_wp2_with fail
  go_ret
  exact ⟨rfl, rfl⟩
set_option maxRecDepth 100000 in
theorem writes_nil (w : World) : Calls Try.prog 18 #[.pointer none] w fun e w' => e = .returned (.int .i64 0) ∧ w = w' := by
  go_enter Try.func18, Try.ntmps18
  go_wp2_with fail
  go_ret
  exact ⟨rfl, rfl⟩
set_option maxRecDepth 100000 in
theorem has_yes {w : World} {p bl n i : Nat} (hc : w.cell? ⟨p, 8, none⟩ = some (.slice (some ⟨bl, 0, none⟩) n n)) (hi : i < n) : Calls Try.prog 40 #[at0 p, .int .i64 i] w fun e w' => e = .returned (.bool true) ∧ w = w' := by
  go_enter Try.func40, Try.ntmps40
  go_wp2_with (go_at_call 61; refine (len_any hc).mono ?_; rintro e w' ⟨rfl, rfl⟩)
  go_ret
  exact ⟨rfl, rfl⟩
set_option maxRecDepth 100000 in
theorem has_no {w : World} {p bl n : Nat} {i : Int} (hc : w.cell? ⟨p, 8, none⟩ = some (.slice (some ⟨bl, 0, none⟩) n n)) (hi : i < 0 ∨ (n : Int) ≤ i) : Calls Try.prog 40 #[at0 p, .int .i64 i] w fun e w' => e = .returned (.bool false) ∧ w = w' := by
  rcases hi with hi | hi
  · go_enter Try.func40, Try.ntmps40
    go_wp2_with (go_at_call 61; refine (len_any hc).mono ?_; rintro e w' ⟨rfl, rfl⟩)
    go_ret
    exact ⟨rfl, rfl⟩
  · have h0 : decide (i < (n : Int)) = false := by simp; omega
    go_enter Try.func40, Try.ntmps40
    go_wp2_with (go_at_call 61; refine (len_any hc).mono ?_; rintro e w' ⟨rfl, rfl⟩)
    go_ret
    exact ⟨rfl, rfl⟩
set_option maxRecDepth 100000 in
theorem has_nil (i : Int) (w : World) : Calls Try.prog 40 #[.pointer none, .int .i64 i] w fun e w' => e = .returned (.bool false) ∧ w = w' := by
  by_cases h0 : 0 ≤ i
  · have h1 : decide (i < 0) = false := by simp; omega
    go_enter Try.func40, Try.ntmps40
    go_wp2_with (go_at_call 61; refine (len_nil _).mono ?_; rintro e w' ⟨rfl, rfl⟩)
    go_ret
    exact ⟨rfl, rfl⟩
  · go_enter Try.func40, Try.ntmps40
    go_wp2_with (go_at_call 61; refine (len_nil _).mono ?_; rintro e w' ⟨rfl, rfl⟩)
    go_ret
    exact ⟨rfl, rfl⟩
end Go.Proofs.Ytfjcblppmoomdaa
