/-
  CachePlays: what a round of its walk meets, and what its end does.
-/
import Derived.Test.YtfjcblppmoomdaaCrQ
import Derived.Test.YtfjcblppmoomdaaCacheLives
import Derived.Test.YtfjcblppmoomdaaOpenActs3
namespace Go.Proofs.Ytfjcblppmoomdaa
open Go.RowKit
section
variable {w wr w' : World} {E : Nat → Prop} {c bf p q r bg cap j : Nat} {rest : List Value} {x : Cch} {d : Dev}
theorem does_any (h : Two E w c bf p q r bg cap rest x d x d) (hs : St x d j) (hj : j < 60) (hE : ∀ k, w.heap.size ≤ k → E k) (k no : Int) (b : UInt8) :
    Calls Try.prog 13 #[at0 c, at0 p, at0 r, .agg #[.int .i64 k, .int .i64 no, .int .u8 (b.toNat : Int)]] w fun ee w' => ee = .returned (.bool true) ∧ ∃ x' d', Past E w w' c bf p q r bg cap rest x' d' (j + 1) := by
  by_cases h1 : k = 1
  · subst h1; exact does1 h hs hj hE no b
  by_cases h2 : k = 2
  · subst h2; exact does2 h hs hj hE no b
  by_cases h3 : k = 3
  · subst h3; exact does3 h hs hj hE no b
  by_cases h4 : k = 4
  · subst h4; exact does4 h hs hj hE no b
  by_cases h5 : k = 5
  · subst h5; exact does5 h hs hj hE no b
  by_cases h6 : k = 6
  · subst h6; exact does6 h hs hj hE no b
  · refine does0 h hs hj hE k (fun i i1 i6 => ?_) no b
    have : i = 1 ∨ i = 2 ∨ i = 3 ∨ i = 4 ∨ i = 5 ∨ i = 6 := by omega
    rcases this with rfl | rfl | rfl | rfl | rfl | rfl <;> assumption
theorem plays_round (hE1 : ∀ k, w.heap.size ≤ k → E k) (hP : Past E w wr c bf p q r bg cap rest x d j) (hj : j < 60) (k no : Int) (b : UInt8) :
    Calls Try.prog 13 #[at0 c, at0 p, at0 r, .agg #[.int .i64 k, .int .i64 no, .int .u8 (b.toNat : Int)]] wr.drew (fun ee w' => ee = .returned (.bool true) ∧ ∃ x' d', Past E wr.drew w' c bf p q r bg cap rest x' d' (j + 1)) ∧
    (∀ w2 x2 d2, Past E wr.drew w2 c bf p q r bg cap rest x2 d2 (j + 1) → ∀ m m2 n2, m = (kept x2 false).length → m2 = (kept x2 true).length → n2 = d2.n →
      Calls Try.prog 15 #[at0 c] w2 (fun ee w' => ∃ A cc, ee = .returned (.slice A m cc) ∧ ToldK w' A (kept x2 false) m ∧ Below w2.heap.size w2 w') ∧
      (∀ w3 A3 c3, Below w2.heap.size w2 w3 → ToldK w3 A3 (kept x2 false) m → Calls Try.prog 16 #[at0 r, .bool false] w3 (fun ee w' => ∃ A cc, ee = .returned (.slice A m cc) ∧ Below w3.heap.size w3 w' ∧
        Calls Try.prog 14 #[.slice A3 m c3, .slice A m cc] w' (fun ee w'' => ee = .returned (.bool true) ∧ Below w'.heap.size w' w''))) ∧
      (∀ w5, Below w2.heap.size w2 w5 → Calls Try.prog 17 #[at0 c] w5 (fun ee w' => ∃ A cc, ee = .returned (.slice A m2 cc) ∧ ToldK w' A (kept x2 true) m2 ∧ Below w5.heap.size w5 w')) ∧
      (∀ w3 A3 c3, Below w2.heap.size w2 w3 → ToldK w3 A3 (kept x2 true) m2 → Calls Try.prog 16 #[at0 r, .bool true] w3 (fun ee w' => ∃ A cc, ee = .returned (.slice A m2 cc) ∧ Below w3.heap.size w3 w' ∧
        Calls Try.prog 14 #[.slice A3 m2 c3, .slice A m2 cc] w' (fun ee w'' => ee = .returned (.bool true) ∧ Below w'.heap.size w' w''))) ∧
      (∀ w8, Below w2.heap.size w2 w8 → Calls Try.prog 18 #[at0 p] w8 (fun ee w' => ee = .returned (.int .i64 (n2 : Int)) ∧ w8 = w') ∧ w8.cell? ⟨r, 0, none⟩ = some (at0 q) ∧ w8.cell? ⟨q, 7, none⟩ = some (.int .i64 (n2 : Int))) ∧
      (∀ w8, Below w2.heap.size w2 w8 → Past E w w8 c bf p q r bg cap rest x2 d2 (j + 1))) := by
  have hsz := hP.only.size
  refine ⟨does_any hP.two.drew hP.st hj (fun k hk => hE1 k (Nat.le_trans hsz hk)) k no b, fun w2 x2 d2 h2 m m2 n2 hm hm2 hn2 => ?_⟩
  have f1 := kept_few x2 false
  have f2 := kept_few x2 true
  subst hn2
  refine ⟨h2.two.held h2.st hm, fun w3 A3 c3 hb3 ht3 => ?_, fun w5 hb5 => (h2.two.below hb5).soiled h2.st hm2, fun w3 A3 c3 hb3 ht3 => ?_, fun w8 hb8 => ⟨(h2.two.below hb8).writes, (h2.two.below hb8).cellsX⟩, fun w8 hb8 => ⟨h2.two.below hb8, h2.st, (hP.only.trans (Only.drew E wr)).trans (h2.only.trans (Only.of_below hb8))⟩⟩
  · refine ((h2.two.below hb3).those h2.st false hm).mono ?_
    rintro ee w' ⟨A, cc, rfl, ht4, hb4⟩
    exact ⟨A, cc, rfl, hb4, ints_same (l := kept x2 false) (ht3.below hb4) ht4 (by omega)⟩
  · refine ((h2.two.below hb3).those h2.st true hm2).mono ?_
    rintro ee w' ⟨A, cc, rfl, ht4, hb4⟩
    exact ⟨A, cc, rfl, hb4, ints_same (l := kept x2 true) (ht3.below hb4) ht4 (by omega)⟩
/-- At the end: the program's device, but for what is to fail, is as the document's. -/
structure Ends (E : Nat → Prop) (w wr : World) (c bf p q r bg cap : Nat) (rest : List Value) (x : Cch) (d : Dev) : Prop where
  two : ∃ f : Nat → Bool × Nat, Two E wr c bf p q r bg cap rest x { d with f := f } x d
  only : Only E w wr
theorem plays_end (hE1 : ∀ k, w.heap.size ≤ k → E k) (hs : St x d j) (hj : j ≤ 60) (hP : Ends E w wr c bf p q r bg cap rest x d) {i : Nat} (hi : i < 24) :
    Calls Try.prog 19 #[at0 p, .int .i64 1, .int .i64 9] wr (fun ee w1 => ee = .returned (.int .i64 0) ∧
      Calls Try.prog 20 #[at0 p, .int .i64 (i : Int)] w1 (fun ee w2 => ∃ g, ee = .returned (.tuple #[.slice (some ⟨g, 0, none⟩) 256 256, .int .i64 0]) ∧ w2.cell? ⟨r, 0, none⟩ = some (at0 q) ∧
        (convert 51 9 (.slice (some ⟨g, 0, none⟩) 256 256)).run Try.prog w2.drew = .ok (.string ⟨(d.now i).toArray⟩) w2.drew ∧
        Calls Try.prog 21 #[at0 q, .int .i64 (i : Int)] w2.drew (fun ee w3 => ∃ v, ee = .returned v ∧ w3.cell? ⟨r, 0, none⟩ = some (at0 q) ∧ (convert 51 9 v).run Try.prog w3 = .ok (.string ⟨(d.now i).toArray⟩) w3 ∧
          (convert 51 9 (.slice (some ⟨g, 0, none⟩) 256 256)).run Try.prog w3 = .ok (.string ⟨(d.now i).toArray⟩) w3 ∧ Ends E w w3 c bf p q r bg cap rest x d))) := by
  obtain ⟨f, ht⟩ := hP.two
  have hsz := hP.only.size
  have hdn := hs.dn hj
  have hsec := hs.sec
  have h1 := ht.pFail (fun k hk => hE1 k (Nat.le_trans hsz hk)) 1 (a := 9) (by omega)
  have e1 : ({ d with f := f } : Dev).doFail 1 ((9 : Nat) : Int) = (0, { d with f := fun j => if j = 1 then (true, 9) else f j }) := rfl
  rw [e1] at h1
  refine h1.mono ?_
  rintro ee w1 ⟨rfl, ht1, ho1⟩
  refine ⟨rfl, ?_⟩
  have s1 := ho1.size
  have h2 := ht1.pRead (fun k hk => hE1 k (Nat.le_trans hsz (Nat.le_trans s1 hk))) (show d.n < 1000000 by omega) (i := i) (by show i < d.L.length; omega) rfl
  refine h2.mono ?_
  rintro ee w2 ⟨g, rfl, hr, ht2, ho2⟩
  have hr : Rd w2 w2.heap.size (.slice (some ⟨g, 0, none⟩) 256 256) (cellsB (d.now i)) := hr
  refine ⟨g, rfl, ht2.cellsX.1, run_string_rd (P := Try.prog) 51 9 5 Try.underlying51 Try.underlying5 Try.underlying9 (w := w2.drew) hr, ?_⟩
  refine (ht2.drew.xNow (show d.n < 1000000 by omega) (i := i) (by omega)).mono ?_
  rintro ee w3 ⟨v, rfl, hr3, hb3⟩
  have hb3' : Below w2.heap.size w2.drew w3 := hb3
  have ht3 := ht2.drew.below hb3
  exact ⟨v, rfl, ht3.cellsX.1, run_string_rd (P := Try.prog) 51 9 5 Try.underlying51 Try.underlying5 Try.underlying9 hr3, run_string_rd (P := Try.prog) 51 9 5 Try.underlying51 Try.underlying5 Try.underlying9 ((show Rd w2.drew w2.heap.size _ _ from hr).below hb3'), ⟨_, ht3⟩, (hP.only.trans ho1).trans (ho2.trans ((Only.drew E w2).trans (Only.of_below hb3)))⟩
end
end Go.Proofs.Ytfjcblppmoomdaa
