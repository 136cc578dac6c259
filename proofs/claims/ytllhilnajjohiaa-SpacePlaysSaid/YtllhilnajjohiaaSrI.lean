/-
  Both spaces in one memory, call against call: what SpacePlays holds.
-/
import Derived.Test.YtllhilnajjohiaaSrH
import Derived.Test.YtllhilnajjohiaaOpenActs2
namespace Go.Proofs.Ytllhilnajjohiaa
open Go.RowKit
/-- In w there are the program's space x and the document's y, made since w0. -/
def TwoW (w0 w : World) (a p : Nat) (x y : Spc) : Prop := ∃ gn cn gs cs, SpcIs w a x ∧ RefSp w p gn cn gs cs y ∧ (a ≠ p ∧ a ≠ gn ∧ a ≠ gs) ∧ (w0.heap.size ≤ a ∧ w0.heap.size ≤ p ∧ w0.heap.size ≤ gn ∧ w0.heap.size ≤ gs) ∧ Below w0.heap.size w0 w
section
variable {w0 w w' : World} {a p : Nat} {x y z : Spc}
theorem TwoW.blw (h : TwoW w0 w a p x y) : Below w0.heap.size w0 w := by
  obtain ⟨_, _, _, _, _, _, _, _, h⟩ := h
  exact h
theorem TwoW.drew (h : TwoW w0 w a p x y) : TwoW w0 w.drew a p x y := by
  obtain ⟨gn, cn, gs, cs, h1, h2, h3, h4, h5⟩ := h
  exact ⟨gn, cn, gs, cs, ⟨h1.top, h1.ok⟩, ⟨h2.top, h2.rN, h2.rS, h2.ne, h2.ok⟩, h3, h4, h5.drew⟩
theorem TwoW.stay (h : TwoW w0 w a p x y) (hb : Below w.heap.size w w') : TwoW w0 w' a p x y := by
  obtain ⟨gn, cn, gs, cs, h1, h2, h3, h4, h5⟩ := h
  exact ⟨gn, cn, gs, cs, h1.below hb, h2.below hb, h3, h4, up h5 hb⟩
theorem TwoW.ofP (h : TwoW w0 w a p x y) (hs : SpcIs w' a z) (ho : Only (fun k => k = a) w w') : TwoW w0 w' a p z y := by
  obtain ⟨gn, cn, gs, cs, h1, h2, h3, h4, h5⟩ := h
  exact ⟨gn, cn, gs, cs, hs, h2.only ho (fun e => h3.1 e.symm) (fun e => h3.2.1 e.symm) (fun e => h3.2.2 e.symm), h3, h4, h5.trans (ho.new h4.1 h5.size)⟩
theorem TwoW.pAlloc (h : TwoW w0 w a p x y) {m : Nat} (hm : LeastNot x.held m) (hmn : m < x.n) : Calls Try.prog 16 #[spAt a] w fun e w' => e = .returned (.tuple #[.int .i64 (m : Int), .int .i64 0]) ∧ TwoW w0 w' a p (x.put m true) y := by
  obtain ⟨gn, cn, gs, cs, h1, _⟩ := id h
  refine (alloc_yes h1 hm hmn).mono ?_
  rintro e w1 ⟨rfl, k1, k2⟩
  exact ⟨rfl, h.ofP k1 k2⟩
theorem TwoW.pFull (h : TwoW w0 w a p x y) (hm : ∀ i, i < x.n → x.held i = true) : Calls Try.prog 16 #[spAt a] w fun e w' => e = .returned (.tuple #[.int .i64 (-1), .int .i64 2]) ∧ TwoW w0 w' a p x y := by
  obtain ⟨gn, cn, gs, cs, h1, _⟩ := id h
  refine (alloc_no h1 hm).mono ?_
  rintro e w1 ⟨rfl, k1, k2⟩
  exact ⟨rfl, h.ofP k1 k2⟩
theorem TwoW.pFree (h : TwoW w0 w a p x y) (no : Int) : Calls Try.prog 10 #[spAt a, .int .i64 no] w fun e w' => e = .returned (.int .i64 (x.freeErr no)) ∧ TwoW w0 w' a p (x.freed no) y := by
  obtain ⟨gn, cn, gs, cs, h1, _⟩ := id h
  refine (free_any h1 no).mono ?_
  rintro e w1 ⟨rfl, k1, k2⟩
  exact ⟨rfl, h.ofP k1 k2⟩
theorem TwoW.pCommit (h : TwoW w0 w a p x y) : Calls Try.prog 12 #[spAt a] w fun e w' => e = .returned (.tuple #[]) ∧ TwoW w0 w' a p x.commit y := by
  obtain ⟨gn, cn, gs, cs, h1, _⟩ := id h
  refine (commit_any h1).mono ?_
  rintro e w1 ⟨rfl, k1, k2⟩
  exact ⟨rfl, h.ofP k1 k2⟩
theorem TwoW.pAbort (h : TwoW w0 w a p x y) : Calls Try.prog 14 #[spAt a] w fun e w' => e = .returned (.tuple #[]) ∧ TwoW w0 w' a p x.abort y := by
  obtain ⟨gn, cn, gs, cs, h1, _⟩ := id h
  refine (abort_any h1).mono ?_
  rintro e w1 ⟨rfl, k1, k2⟩
  exact ⟨rfl, h.ofP k1 k2⟩
theorem Only.since {F : Nat → Prop} {B : Nat} (h : Only F w w') (hF : ∀ k, F k → B ≤ k) (hB : B ≤ w.heap.size) : Below B w w' := (h.mono (F' := fun k => B ≤ k) fun k _ hk => hF k hk).below hB
theorem TwoW.dAlloc (h : TwoW w0 w a p x y) {m : Nat} (hm : LeastNot y.held m) (hmn : m < y.n) : Calls Try.prog 17 #[spAt p] w fun e w' => e = .returned (.tuple #[.int .i64 (m : Int), .int .i64 0]) ∧ TwoW w0 w' a p x (y.put m true) := by
  obtain ⟨gn, cn, gs, cs, h1, h2, h3, h4, h5⟩ := h
  refine (ralloc_yes h2 hm hmn).mono ?_
  rintro e w1 ⟨rfl, k1, k2⟩
  exact ⟨rfl, gn, cn, gs, cs, h1.only k2 h3.2.1, k1, h3, h4, h5.trans (k2.since (by rintro k rfl; exact h4.2.2.1) h5.size)⟩
theorem TwoW.dFull (h : TwoW w0 w a p x y) (hm : ∀ i, i < y.n → y.held i = true) : Calls Try.prog 17 #[spAt p] w fun e w' => e = .returned (.tuple #[.int .i64 (-1), .int .i64 2]) ∧ TwoW w0 w' a p x y := by
  obtain ⟨gn, cn, gs, cs, h1, h2, h3, h4, h5⟩ := h
  refine (ralloc_no h2 hm).mono ?_
  rintro e w1 ⟨rfl, rfl⟩
  exact ⟨rfl, gn, cn, gs, cs, h1, h2, h3, h4, h5⟩
theorem TwoW.dFree (h : TwoW w0 w a p x y) (no : Int) : Calls Try.prog 11 #[spAt p, .int .i64 no] w fun e w' => e = .returned (.int .i64 (y.freeErr no)) ∧ TwoW w0 w' a p x (y.freed no) := by
  obtain ⟨gn, cn, gs, cs, h1, h2, h3, h4, h5⟩ := h
  refine (rfree_any h2 no).mono ?_
  rintro e w1 ⟨rfl, k1, k2⟩
  exact ⟨rfl, gn, cn, gs, cs, h1.only k2 h3.2.1, k1, h3, h4, h5.trans (k2.since (by rintro k rfl; exact h4.2.2.1) h5.size)⟩
theorem TwoW.dCommit (h : TwoW w0 w a p x y) : Calls Try.prog 13 #[spAt p] w fun e w' => e = .returned (.tuple #[]) ∧ TwoW w0 w' a p x y.commit := by
  obtain ⟨gn, cn, gs, cs, h1, h2, h3, h4, h5⟩ := h
  refine (rcommit_any h2).mono ?_
  rintro e w1 ⟨rfl, gs', cs', hg, k1, k2⟩
  have := h1.lt
  have := h5.size
  exact ⟨rfl, gn, cn, gs', cs', h1.only k2 h3.1, k1, ⟨h3.1, h3.2.1, by omega⟩, ⟨h4.1, h4.2.1, h4.2.2.1, by omega⟩, h5.trans (k2.since (by rintro k rfl; exact h4.2.1) h5.size)⟩
theorem TwoW.dAbort (h : TwoW w0 w a p x y) : Calls Try.prog 15 #[spAt p] w fun e w' => e = .returned (.tuple #[]) ∧ TwoW w0 w' a p x y.abort := by
  obtain ⟨gn, cn, gs, cs, h1, h2, h3, h4, h5⟩ := h
  refine (rabort_any h2).mono ?_
  rintro e w1 ⟨rfl, gn', cn', hg, k1, k2⟩
  have := h1.lt
  have := h5.size
  exact ⟨rfl, gn', cn', gs, cs, h1.only k2 h3.1, k1, ⟨h3.1, by omega, h3.2.2⟩, ⟨h4.1, h4.2.1, by omega, h4.2.2.2⟩, h5.trans (k2.since (by rintro k rfl; exact h4.2.1) h5.size)⟩
theorem TwoW.same (h : TwoW w0 w a p x x) (no : Int) : Calls Try.prog 18 #[spAt a, spAt p, .int .i64 no] w fun e w' => e = .returned (.bool true) ∧ TwoW w0 w' a p x x := by
  obtain ⟨gn, cn, gs, cs, h1, h2, h3, h4, h5⟩ := id h
  refine (alike_any ⟨h1, h2, h3⟩ no).mono ?_
  rintro e w1 ⟨rfl, hb⟩
  exact ⟨rfl, h.stay hb⟩
theorem TwoW.start {w1 w2 : World} (ha : w0.heap.size ≤ a) (h1 : SpcIs w1 a x) (hb1 : Below w0.heap.size w0 w1) {gn cn gs cs : Nat} (h2 : RefSp w2 p gn cn gs cs y) (hp : p = w1.heap.size) (hgn : w1.heap.size ≤ gn) (hgs : w1.heap.size ≤ gs) (hb2 : Below w1.heap.size w1 w2) : TwoW w0 w2 a p x y := by
  have := h1.lt
  have := hb1.size
  exact ⟨gn, cn, gs, cs, h1.below hb2, h2, ⟨by omega, by omega, by omega⟩, ⟨ha, by omega, by omega, by omega⟩, up hb1 hb2⟩
end
end Go.Proofs.Ytllhilnajjohiaa
