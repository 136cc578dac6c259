/-
  Both devices in one memory: what each call does to the pair of them.
-/
import Derived.Test.YtmifaneolfciiaaRefH
import Derived.Test.YtmifaneolfciiaaOpenAct
namespace Go.Proofs.Ytmifaneolfciiaa
open Go.RowKit
/-- In w the program's device d stands at block p and the document's x at block q, apart from each other, in blocks that E lets. -/
def Pair (E : Nat → Prop) (w : World) (p q : Nat) (d : Dev) (x : Ref) : Prop :=
  ∃ (F G : Nat → Prop) (bl bm : Nat) (S : Nat → Value) (D : DataW Value) (vL vA vB : Value) (ls bs : List Value), DevIs w F p bl bm S D d ∧ RefIs w G q vL vA vB ls bs x ∧ (∀ k, F k → ¬ G k) ∧ (∀ k, F k → E k ∧ k < w.heap.size) ∧ (∀ k, G k → E k ∧ k < w.heap.size)
section
variable {E E' : Nat → Prop} {w w' : World} {p q : Nat} {d d' : Dev} {x x' : Ref}
theorem Pair.keep (h : Pair E w p q d x) (hk : ∀ k, k < w.heap.size → E k → w'.heap[k]? = w.heap[k]?) (hs : w.heap.size ≤ w'.heap.size) : Pair E w' p q d x := by
  obtain ⟨F, G, bl, bm, S, D, vL, vA, vB, ls, bs, hd, hx, ap, hF, hG⟩ := h
  exact ⟨F, G, bl, bm, S, D, vL, vA, vB, ls, bs, hd.keep fun k hk' hf => hk k hk' (hF k hf).1, hx.keep fun k hk' hg => hk k hk' (hG k hg).1, ap, fun k hf => ⟨(hF k hf).1, Nat.lt_of_lt_of_le (hF k hf).2 hs⟩, fun k hg => ⟨(hG k hg).1, Nat.lt_of_lt_of_le (hG k hg).2 hs⟩⟩
theorem Pair.below (h : Pair E w p q d x) (hb : Below w.heap.size w w') : Pair E w' p q d x := h.keep (fun k hk _ => hb.block k hk) hb.size
theorem Pair.wide (h : Pair E w p q d x) (hE : ∀ k, k < w.heap.size → E k → E' k) : Pair E' w p q d x := by
  obtain ⟨F, G, bl, bm, S, D, vL, vA, vB, ls, bs, hd, hx, ap, hF, hG⟩ := h
  exact ⟨F, G, bl, bm, S, D, vL, vA, vB, ls, bs, hd, hx, ap, fun k hf => ⟨hE k (hF k hf).2 (hF k hf).1, (hF k hf).2⟩, fun k hg => ⟨hE k (hG k hg).2 (hG k hg).1, (hG k hg).2⟩⟩
/-- A block that is new is none of theirs. -/
theorem Pair.far (h : Pair E w p q d x) (hb : Below w.heap.size w w') {g : Nat} (hg : w.heap.size ≤ g) : Pair (fun k => E k ∧ k ≠ g) w' p q d x :=
  (h.wide (E' := fun k => E k ∧ k ≠ g) fun k hk he => ⟨he, by omega⟩).below hb
theorem Only.wide {F F' : Nat → Prop} (h : Only F w w') (hF : ∀ k, F k → F' k) : Only F' w w' := h.mono fun k _ hf => hF k hf
/-- What the program's device needs of the pair, and how the pair comes back. -/
theorem Pair.dev (h : Pair E w p q d x) (hE : ∀ k, w.heap.size ≤ k → E k) : ∃ (F : Nat → Prop) (bl bm : Nat) (S : Nat → Value) (D : DataW Value), DevIs w F p bl bm S D d ∧ (∀ k, w.heap.size ≤ k → F k) ∧ (∀ k, F k → E k) ∧
    (∀ w' bl' bm' S' D' d' (X : Nat → Prop), (∀ k, X k → w.heap.size ≤ k) → DevIs w' (fun k => F k ∧ ¬ X k) p bl' bm' S' D' d' → Only F w w' → Pair (fun k => E k ∧ ¬ X k) w' p q d' x ∧ Only E w w') := by
  obtain ⟨F, G, bl, bm, S, D, vL, vA, vB, ls, bs, hd, hx, ap, hF, hG⟩ := h
  refine ⟨fun k => F k ∨ w.heap.size ≤ k, bl, bm, S, D, hd.mono fun k _ hf => .inl hf, fun k hk => .inr hk, fun k hf => hf.elim (fun h => (hF k h).1) (hE k), fun w' bl' bm' S' D' d' X hX hd' ho => ?_⟩
  refine ⟨⟨_, G, bl', bm', S', D', vL, vA, vB, ls, bs, hd'.tight, hx.keep fun k hk hg => ho.block k hk fun hf => ?_, fun k hf hg => ?_, fun k hf => ⟨⟨?_, hf.1.2⟩, hf.2⟩, fun k hg => ⟨⟨(hG k hg).1, fun hx => ?_⟩, Nat.lt_of_lt_of_le (hG k hg).2 ho.size⟩⟩, ho.wide fun k hf => hf.elim (fun h => (hF k h).1) (hE k)⟩
  · exact hf.elim (fun h => ap k h hg) (fun h => by omega)
  · exact hf.1.1.elim (fun h => ap k h hg) (fun h => by have := (hG k hg).2; omega)
  · exact hf.1.1.elim (fun h => (hF k h).1) (hE k)
  · have := hX k hx; have := (hG k hg).2; omega
theorem Pair.dev0 (h : Pair E w p q d x) (hE : ∀ k, w.heap.size ≤ k → E k) : ∃ (F : Nat → Prop) (bl bm : Nat) (S : Nat → Value) (D : DataW Value), DevIs w F p bl bm S D d ∧ (∀ k, w.heap.size ≤ k → F k) ∧ (∀ k, F k → E k) ∧
    (∀ w' bl' bm' S' D' d', DevIs w' F p bl' bm' S' D' d' → Only F w w' → Pair E w' p q d' x ∧ Only E w w') := by
  obtain ⟨F, bl, bm, S, D, hd, h1, h2, h3⟩ := h.dev hE
  refine ⟨F, bl, bm, S, D, hd, h1, h2, fun w' bl' bm' S' D' d' hd' ho => ?_⟩
  have := h3 w' bl' bm' S' D' d' (fun _ => False) (fun _ h => h.elim) (hd'.mono fun k _ hf => ⟨hf, id⟩) ho
  exact ⟨this.1.wide fun k _ he => he.1, this.2⟩
/-- .. and the document's. -/
theorem Pair.ref (h : Pair E w p q d x) (hE : ∀ k, w.heap.size ≤ k → E k) : ∃ (G : Nat → Prop) (vL vA vB : Value) (ls bs : List Value), RefIs w G q vL vA vB ls bs x ∧ (∀ k, w.heap.size ≤ k → G k) ∧ (∀ k, G k → E k) ∧
    (∀ w' vL' vA' vB' ls' bs' x', RefIs w' G q vL' vA' vB' ls' bs' x' → Only G w w' → Pair E w' p q d x' ∧ Only E w w') := by
  obtain ⟨F, G, bl, bm, S, D, vL, vA, vB, ls, bs, hd, hx, ap, hF, hG⟩ := h
  refine ⟨fun k => G k ∨ w.heap.size ≤ k, vL, vA, vB, ls, bs, hx.mono fun k _ hg => .inl hg, fun k hk => .inr hk, fun k hg => hg.elim (fun h => (hG k h).1) (hE k), fun w' vL' vA' vB' ls' bs' x' hx' ho => ?_⟩
  refine ⟨⟨F, fun k => (G k ∨ w.heap.size ≤ k) ∧ k < w'.heap.size, bl, bm, S, D, vL', vA', vB', ls', bs', hd.keep fun k hk hf => ho.block k hk fun hg => ?_, hx'.mono fun k hk hg => ⟨hg, hk⟩, fun k hf hg => ?_, fun k hf => ⟨(hF k hf).1, Nat.lt_of_lt_of_le (hF k hf).2 ho.size⟩, fun k hg => ⟨?_, hg.2⟩⟩, ho.wide fun k hg => hg.elim (fun h => (hG k h).1) (hE k)⟩
  · exact hg.elim (fun h => ap k hf h) (fun h => by omega)
  · exact hg.1.elim (fun h => ap k hf h) (fun h => by have := (hF k hf).2; omega)
  · exact hg.1.elim (fun h => (hG k h).1) (hE k)

/-! ### Read -/
def Dev.doRead (d : Dev) (i : Int) : List UInt8 × Int × Dev := if i < 0 ∨ (d.L.length : Int) ≤ i then ([], 1, d) else if d.burns 1 = true then ([], 3, d.burn 1) else (d.now i.toNat, 0, d.burn 1)
def Ref.doRead (x : Ref) (i : Int) : List UInt8 × Int × Ref := if i < 0 ∨ (x.L.length : Int) ≤ i then ([], 1, x) else if x.burns 1 = true then ([], 3, x.burn 1) else (x.now i.toNat, 0, x.burn 1)
theorem Like.doRead (h : Like d x) (i : Int) : (d.doRead i).1 = (x.doRead i).1 ∧ (d.doRead i).2.1 = (x.doRead i).2.1 ∧ Like (d.doRead i).2.2 (x.doRead i).2.2 ∧ (d.doRead i).2.2.n = d.n ∧ (d.doRead i).2.2.L.length = d.L.length := by
  unfold Dev.doRead Ref.doRead
  rw [← h.L, ← h.burns (k := 1) (by omega) (by omega)]
  by_cases hi : i < 0 ∨ (d.L.length : Int) ≤ i
  · rw [if_pos hi, if_pos hi]; exact ⟨rfl, rfl, h, rfl, rfl⟩
  · rw [if_neg hi, if_neg hi]
    by_cases hb : d.burns 1 = true
    · rw [if_pos hb, if_pos hb]; exact ⟨rfl, rfl, h.burn 1 (by omega) (by omega), rfl, rfl⟩
    · rw [if_neg hb, if_neg hb]; exact ⟨h.now (by omega), rfl, h.burn 1 (by omega) (by omega), rfl, rfl⟩
theorem Rd.empty (w : World) (B : Nat) : Rd w B (.slice none 0 0) (cellsB []) := Rd.nil w B
theorem Pair.dRead (h : Pair E w p q d x) (hE : ∀ k, w.heap.size ≤ k → E k) (hn : d.n < 1000000) (i : Int) : Calls Try.prog 18 #[at0 p, .int .i64 i] w fun e w' => ∃ v, e = .returned (.tuple #[v, .int .i64 (d.doRead i).2.1]) ∧ Rd w' w'.heap.size v (cellsB (d.doRead i).1) ∧ (∀ g, v.ownBlock = some g → g < w'.heap.size) ∧
    Pair (fun k => E k ∧ ¬ v.ownBlock = some k) w' p q (d.doRead i).2.2 x ∧ Only E w w' := by
  obtain ⟨F, bl, bm, S, D, hd, h1, h2, h3⟩ := h.dev hE
  unfold Dev.doRead
  by_cases hi : i < 0 ∨ (d.L.length : Int) ≤ i
  · rw [if_pos hi]
    refine (read_arg hd hi).mono ?_
    rintro e w' ⟨rfl, rfl⟩
    exact ⟨_, rfl, Rd.empty _ _, fun g e => (by cases e), h.wide fun k _ he => ⟨he, fun e => by cases e⟩, Only.refl _ _⟩
  · rw [if_neg hi]
    obtain ⟨n, rfl⟩ : ∃ n : Nat, i = n := ⟨i.toNat, by omega⟩
    have hin : n < d.L.length := by omega
    by_cases hb : d.burns 1 = true
    · rw [if_pos hb]
      refine (read_io hd hin hb).mono ?_
      rintro e w' ⟨rfl, hd', ho⟩
      have := h3 w' _ _ _ _ _ (fun _ => False) (fun _ h => h.elim) (hd'.mono fun k _ hf => ⟨hf, id⟩) ho
      exact ⟨_, rfl, Rd.empty _ _, fun g e => (by cases e), this.1.wide fun k _ he => ⟨he.1, fun e => by cases e⟩, this.2⟩
    · rw [if_neg hb]
      refine (read_ok hd hin (by simpa using hb) hn).mono ?_
      rintro e w' ⟨g, rfl, hg, hgs, hd', ho⟩
      have ht := hd.tight
      have hd2 : DevIs w' (fun k => F k ∧ ¬ (Value.slice (some ⟨g, 0, none⟩) 256 256).ownBlock = some k) p bl bm S D (d.burn 1) := by
        have hne : ∀ k, k < w.heap.size → ¬ (Value.slice (some ⟨g, 0, none⟩) 256 256).ownBlock = some k := fun k hk e => by
          obtain rfl : g = k := by injection e
          omega
        refine { hd' with inF := ⟨⟨hd'.inF.1, hne _ ht.inF.1.2⟩, ⟨hd'.inF.2.1, hne _ ht.inF.2.1.2⟩, ⟨hd'.inF.2.2, hne _ ht.inF.2.2.2⟩⟩, own := fun j gj hj e => ?_ }
        have h5 := ht.own j gj hj e
        exact ⟨⟨h5.1.1, hne _ h5.1.2⟩, h5.2⟩
      have := h3 w' _ _ _ _ _ (fun k => (Value.slice (some ⟨g, 0, none⟩) 256 256).ownBlock = some k) (fun k e => by
        obtain rfl : g = k := by injection e
        exact hgs) hd2 ho
      have hlen : (d.now n).length = 256 := Dev.now_wide hd hin
      have hlt := (Array.getElem?_eq_some_iff.1 hg).1
      exact ⟨_, rfl, rd_block hg (by simpa using hlen), fun k e => (by
        obtain rfl : g = k := by injection e
        exact hlt), this.1, this.2⟩
theorem Pair.xRead (h : Pair E w p q d x) (hE : ∀ k, w.heap.size ≤ k → E k) (hn : x.n < 1000000) (i : Int) : Calls Try.prog 25 #[at0 q, .int .i64 i] w fun e w' => ∃ v, e = .returned (.tuple #[v, .int .i64 (x.doRead i).2.1]) ∧ Rd w' w'.heap.size v (cellsB (x.doRead i).1) ∧ Pair E w' p q d (x.doRead i).2.2 ∧ Only E w w' := by
  obtain ⟨G, vL, vA, vB, ls, bs, hx, h1, h2, h3⟩ := h.ref hE
  unfold Ref.doRead
  by_cases hi : i < 0 ∨ (x.L.length : Int) ≤ i
  · rw [if_pos hi]
    refine (rread_arg hx hi).mono ?_
    rintro e w' ⟨A, c, rfl, hr, hb⟩
    exact ⟨_, rfl, hr, h.below hb, Only.of_below hb⟩
  · rw [if_neg hi]
    obtain ⟨n, rfl⟩ : ∃ n : Nat, i = n := ⟨i.toNat, by omega⟩
    have hin : n < x.L.length := by omega
    by_cases hb : x.burns 1 = true
    · rw [if_pos hb]
      refine (rread_io hx hin hb).mono ?_
      rintro e w' ⟨A, c, rfl, hr, hx', ho⟩
      exact ⟨_, rfl, hr, h3 _ _ _ _ _ _ _ hx' ho⟩
    · rw [if_neg hb]
      refine (rread_ok hx hin (by simpa using hb) hn).mono ?_
      rintro e w' ⟨gu, cu, rfl, hs, hx', ho⟩
      exact ⟨_, rfl, hs.rd, h3 _ _ _ _ _ _ _ hx' ho⟩

/-! ### Flush -/
def Dev.doFlush (d : Dev) : Int × Dev := if d.burns 3 = true then (3, d.burn 3) else (0, (d.burn 3).flush)
def Ref.doFlush (x : Ref) : Int × Ref := if x.burns 3 = true then (3, x.burn 3) else (0, (x.burn 3).flush)
theorem Like.doFlush (h : Like d x) : d.doFlush.1 = x.doFlush.1 ∧ Like d.doFlush.2 x.doFlush.2 ∧ d.doFlush.2.n = d.n ∧ d.doFlush.2.L.length = d.L.length := by
  unfold Dev.doFlush Ref.doFlush
  rw [← h.burns (k := 3) (by omega) (by omega)]
  have hb3 := h.burn 3 (by omega) (by omega)
  by_cases hb : d.burns 3 = true
  · rw [if_pos hb, if_pos hb]; exact ⟨rfl, hb3, rfl, rfl⟩
  · rw [if_neg hb, if_neg hb]; exact ⟨rfl, hb3.flush, rfl, Dev.flush_length _⟩
theorem Pair.dFlush (h : Pair E w p q d x) (hE : ∀ k, w.heap.size ≤ k → E k) (hn : d.n < 1000000) : Calls Try.prog 22 #[at0 p] w fun e w' => e = .returned (.int .i64 d.doFlush.1) ∧ Pair E w' p q d.doFlush.2 x ∧ Only E w w' := by
  obtain ⟨F, bl, bm, S, D, hd, h1, h2, h3⟩ := h.dev0 hE
  unfold Dev.doFlush
  by_cases hb : d.burns 3 = true
  · rw [if_pos hb]
    refine (flush_io hd hb).mono ?_
    rintro e w' ⟨rfl, hd', ho⟩
    exact ⟨rfl, h3 _ _ _ _ _ _ hd' ho⟩
  · rw [if_neg hb]
    refine (flush_ok hd (by simpa using hb) hn h1).mono ?_
    rintro e w' ⟨S', D', rfl, hd', ho⟩
    exact ⟨rfl, h3 _ _ _ _ _ _ hd' ho⟩
theorem Pair.xFlush (h : Pair E w p q d x) (hE : ∀ k, w.heap.size ≤ k → E k) (hn : x.n < 1000000) : Calls Try.prog 26 #[at0 q] w fun e w' => e = .returned (.int .i64 x.doFlush.1) ∧ Pair E w' p q d x.doFlush.2 ∧ Only E w w' := by
  obtain ⟨G, vL, vA, vB, ls, bs, hx, h1, h2, h3⟩ := h.ref hE
  unfold Ref.doFlush
  by_cases hb : x.burns 3 = true
  · rw [if_pos hb]
    refine (rflush_io hx hb).mono ?_
    rintro e w' ⟨rfl, hx', ho⟩
    exact ⟨rfl, h3 _ _ _ _ _ _ _ hx' ho⟩
  · rw [if_neg hb]
    refine (rflush_ok hx (by simpa using hb) hn h1).mono ?_
    rintro e w' ⟨vA', vB', ls', rfl, hx', ho⟩
    exact ⟨rfl, h3 _ _ _ _ _ _ _ hx' ho⟩

/-! ### Fail -/
def Dev.doFail (d : Dev) (k a : Int) : Int × Dev := if k < 1 ∨ 3 < k ∨ a < 0 then (1, d) else (0, d.told k.toNat a.toNat)
def Ref.doFail (x : Ref) (k a : Int) : Int × Ref := if k < 1 ∨ 3 < k ∨ a < 0 then (1, x) else (0, x.told k.toNat a.toNat)
theorem Like.doFail (h : Like d x) (k a : Int) : (d.doFail k a).1 = (x.doFail k a).1 ∧ Like (d.doFail k a).2 (x.doFail k a).2 ∧ (d.doFail k a).2.n = d.n ∧ (d.doFail k a).2.L.length = d.L.length := by
  unfold Dev.doFail Ref.doFail
  by_cases hb : k < 1 ∨ 3 < k ∨ a < 0
  · rw [if_pos hb, if_pos hb]; exact ⟨rfl, h, rfl, rfl⟩
  · rw [if_neg hb, if_neg hb]; exact ⟨rfl, h.told _ _, rfl, rfl⟩
theorem Pair.dFail (h : Pair E w p q d x) (hE : ∀ k, w.heap.size ≤ k → E k) (k : Int) (a : Nat) (ha : a < 1000) : Calls Try.prog 23 #[at0 p, .int .i64 k, .int .i64 (a : Int)] w fun e w' => e = .returned (.int .i64 (d.doFail k a).1) ∧ Pair E w' p q (d.doFail k a).2 x ∧ Only E w w' := by
  obtain ⟨F, bl, bm, S, D, hd, h1, h2, h3⟩ := h.dev0 hE
  unfold Dev.doFail
  by_cases hb : k < 1 ∨ 3 < k ∨ (a : Int) < 0
  · rw [if_pos hb]
    refine (fail_arg w p hb).mono ?_
    rintro e w' ⟨rfl, rfl⟩
    exact ⟨rfl, h, Only.refl _ _⟩
  · rw [if_neg hb]
    obtain ⟨n, rfl⟩ : ∃ n : Nat, k = n := ⟨k.toNat, by omega⟩
    refine (fail_any (k := n) (a := a) hd (by omega) (by omega) (by omega)).mono ?_
    rintro e w' ⟨rfl, hd', ho⟩
    exact ⟨rfl, h3 _ _ _ _ _ _ hd' ho⟩
theorem Pair.xFail (h : Pair E w p q d x) (hE : ∀ k, w.heap.size ≤ k → E k) (k : Int) (a : Nat) (ha : a < 1000) : Calls Try.prog 27 #[at0 q, .int .i64 k, .int .i64 (a : Int)] w fun e w' => e = .returned (.int .i64 (x.doFail k a).1) ∧ Pair E w' p q d (x.doFail k a).2 ∧ Only E w w' := by
  obtain ⟨G, vL, vA, vB, ls, bs, hx, h1, h2, h3⟩ := h.ref hE
  unfold Ref.doFail
  by_cases hb : k < 1 ∨ 3 < k ∨ (a : Int) < 0
  · rw [if_pos hb]
    refine (rfail_arg w q hb).mono ?_
    rintro e w' ⟨rfl, rfl⟩
    exact ⟨rfl, h, Only.refl _ _⟩
  · rw [if_neg hb]
    obtain ⟨n, rfl⟩ : ∃ n : Nat, k = n := ⟨k.toNat, by omega⟩
    refine (rfail_any (k := n) (a := a) hx (by omega) (by omega) (by omega)).mono ?_
    rintro e w' ⟨rfl, hx', ho⟩
    exact ⟨rfl, h3 _ _ _ _ _ _ _ hx' ho⟩

/-! ### Spoil -/
def Dev.doSpoil (d : Dev) (i a : Int) (y : UInt8) : Bool × Dev := if i < 0 ∨ (d.L.length : Int) ≤ i ∨ a < 0 ∨ 256 ≤ a then (false, d) else (true, d.spoil i.toNat a.toNat y)
def Ref.doSpoil (x : Ref) (i a : Int) (y : UInt8) : Bool × Ref := if i < 0 ∨ (x.L.length : Int) ≤ i ∨ a < 0 ∨ 256 ≤ a then (false, x) else (true, x.spoil i.toNat a.toNat y)
theorem Like.doSpoil (h : Like d x) (i a : Int) (y : UInt8) : (d.doSpoil i a y).1 = (x.doSpoil i a y).1 ∧ Like (d.doSpoil i a y).2 (x.doSpoil i a y).2 ∧ (d.doSpoil i a y).2.n = d.n ∧ (d.doSpoil i a y).2.L.length = d.L.length := by
  unfold Dev.doSpoil Ref.doSpoil
  rw [← h.L]
  by_cases hb : i < 0 ∨ (d.L.length : Int) ≤ i ∨ a < 0 ∨ 256 ≤ a
  · rw [if_pos hb, if_pos hb]; exact ⟨rfl, h, rfl, rfl⟩
  · rw [if_neg hb, if_neg hb]; exact ⟨rfl, h.spoil (by omega) _ _, rfl, by simp [Dev.spoil]⟩
theorem Pair.dSpoil (h : Pair E w p q d x) (hE : ∀ k, w.heap.size ≤ k → E k) (hn : d.n < 1000000) (i a : Int) (y : UInt8) : Calls Try.prog 24 #[at0 p, .int .i64 i, .int .i64 a, .int .u8 (y.toNat : Int)] w fun e w' => e = .returned (.bool (d.doSpoil i a y).1) ∧ Pair E w' p q (d.doSpoil i a y).2 x ∧ Only E w w' := by
  obtain ⟨F, bl, bm, S, D, hd, h1, h2, h3⟩ := h.dev0 hE
  unfold Dev.doSpoil
  by_cases hb : i < 0 ∨ (d.L.length : Int) ≤ i ∨ a < 0 ∨ 256 ≤ a
  · rw [if_pos hb]
    refine (spoil_arg hd hb).mono ?_
    rintro e w' ⟨rfl, rfl⟩
    exact ⟨rfl, h, Only.refl _ _⟩
  · rw [if_neg hb]
    obtain ⟨n, rfl⟩ : ∃ n : Nat, i = n := ⟨i.toNat, by omega⟩
    obtain ⟨m, rfl⟩ : ∃ n : Nat, a = n := ⟨a.toNat, by omega⟩
    refine (spoil_any (i := n) (a := m) (y := y) hd (by omega) (by omega) hn).mono ?_
    rintro e w' ⟨rfl, hd', ho⟩
    exact ⟨rfl, h3 _ _ _ _ _ _ hd' ho⟩
theorem Pair.xSpoil (h : Pair E w p q d x) (hE : ∀ k, w.heap.size ≤ k → E k) (hn : x.n < 1000000) (i a : Int) (y : UInt8) : Calls Try.prog 28 #[at0 q, .int .i64 i, .int .i64 a, .int .u8 (y.toNat : Int)] w fun e w' => e = .returned (.bool (x.doSpoil i a y).1) ∧ Pair E w' p q d (x.doSpoil i a y).2 ∧ Only E w w' := by
  obtain ⟨G, vL, vA, vB, ls, bs, hx, h1, h2, h3⟩ := h.ref hE
  unfold Ref.doSpoil
  by_cases hb : i < 0 ∨ (x.L.length : Int) ≤ i ∨ a < 0 ∨ 256 ≤ a
  · rw [if_pos hb]
    refine (rspoil_arg hx hb).mono ?_
    rintro e w' ⟨rfl, rfl⟩
    exact ⟨rfl, h, Only.refl _ _⟩
  · rw [if_neg hb]
    obtain ⟨n, rfl⟩ : ∃ n : Nat, i = n := ⟨i.toNat, by omega⟩
    obtain ⟨m, rfl⟩ : ∃ n : Nat, a = n := ⟨a.toNat, by omega⟩
    refine (rspoil_any (i := n) (a := m) (y := y) hx (by omega) (by omega) hn h1).mono ?_
    rintro e w' ⟨ls', bs', rfl, hx', ho⟩
    exact ⟨rfl, h3 _ _ _ _ _ _ _ hx' ho⟩

/-! ### Write -/
def Dev.doWrite (d : Dev) (i : Int) (l : List UInt8) : Int × Dev := if i < 0 ∨ (d.L.length : Int) ≤ i then (1, d) else if d.burns 2 = true then (3, d.burn 2) else (0, (d.burn 2).put i.toNat l)
def Ref.doWrite (x : Ref) (i : Int) (l : List UInt8) : Int × Ref := if i < 0 ∨ (x.L.length : Int) ≤ i then (1, x) else if x.burns 2 = true then (3, x.burn 2) else (0, (x.burn 2).put i.toNat l)
theorem Like.doWrite (h : Like d x) (i : Int) (l : List UInt8) : (d.doWrite i l).1 = (x.doWrite i l).1 ∧ Like (d.doWrite i l).2 (x.doWrite i l).2 ∧ (d.doWrite i l).2.n ≤ d.n + 1 ∧ (d.doWrite i l).2.L.length = d.L.length := by
  unfold Dev.doWrite Ref.doWrite
  rw [← h.L, ← h.burns (k := 2) (by omega) (by omega)]
  have hb2 := h.burn 2 (by omega) (by omega)
  by_cases hi : i < 0 ∨ (d.L.length : Int) ≤ i
  · rw [if_pos hi, if_pos hi]; exact ⟨rfl, h, Nat.le_succ _, rfl⟩
  · rw [if_neg hi, if_neg hi]
    by_cases hb : d.burns 2 = true
    · rw [if_pos hb, if_pos hb]; exact ⟨rfl, hb2, Nat.le_succ _, rfl⟩
    · rw [if_neg hb, if_neg hb]; exact ⟨rfl, hb2.put _ _, Nat.le_refl _, rfl⟩
theorem Pair.dWrite (h : Pair E w p q d x) (hE : ∀ k, w.heap.size ≤ k → E k) (hn : d.n < 1000000) (i : Int) {bb : Nat} {l : List UInt8} (hl : l.length = 256) (hbb : w.heap[bb]? = some (.cells (cellsB l).toArray 5 (0, 0))) (hb0 : ¬ E bb) : Calls Try.prog 20 #[at0 p, .int .i64 i, .slice (some ⟨bb, 0, none⟩) 256 256] w fun e w' => e = .returned (.int .i64 (d.doWrite i l).1) ∧ Pair E w' p q (d.doWrite i l).2 x ∧ Only E w w' := by
  obtain ⟨F, bl, bm, S, D, hd, h1, h2, h3⟩ := h.dev0 hE
  unfold Dev.doWrite
  by_cases hi : i < 0 ∨ (d.L.length : Int) ≤ i
  · rw [if_pos hi]
    refine (write_arg hd hi).mono ?_
    rintro e w' ⟨rfl, rfl⟩
    exact ⟨rfl, h, Only.refl _ _⟩
  · rw [if_neg hi]
    obtain ⟨n, rfl⟩ : ∃ n : Nat, i = n := ⟨i.toNat, by omega⟩
    by_cases hb : d.burns 2 = true
    · rw [if_pos hb]
      refine (write_io hd (by omega) hb).mono ?_
      rintro e w' ⟨rfl, hd', ho⟩
      exact ⟨rfl, h3 _ _ _ _ _ _ hd' ho⟩
    · rw [if_neg hb]
      refine (write_far (hd.mono fun k _ hf => ⟨hf, fun (e : k = bb) => hb0 (e ▸ h2 k hf)⟩) (by omega) (by simpa using hb) hn hl (range_new hbb) (Array.getElem?_eq_some_iff.1 hbb).1 h1).mono ?_
      rintro e w' ⟨S', D', rfl, hd', ho⟩
      exact ⟨rfl, h3 _ _ _ _ _ _ hd' ho⟩
theorem Pair.xWrite (h : Pair E w p q d x) (hE : ∀ k, w.heap.size ≤ k → E k) (hn : x.n < 1000000) (i : Int) {bb : Nat} {l : List UInt8} (hl : l.length = 256) (hbb : w.heap[bb]? = some (.cells (cellsB l).toArray 5 (0, 0))) (hb0 : ¬ E bb) : Calls Try.prog 29 #[at0 q, .int .i64 i, .slice (some ⟨bb, 0, none⟩) 256 256] w fun e w' => e = .returned (.int .i64 (x.doWrite i l).1) ∧ Pair E w' p q d (x.doWrite i l).2 ∧ Only E w w' := by
  obtain ⟨G, vL, vA, vB, ls, bs, hx, h1, h2, h3⟩ := h.ref hE
  unfold Ref.doWrite
  by_cases hi : i < 0 ∨ (x.L.length : Int) ≤ i
  · rw [if_pos hi]
    refine (rwrite_arg hx hi).mono ?_
    rintro e w' ⟨rfl, rfl⟩
    exact ⟨rfl, h, Only.refl _ _⟩
  · rw [if_neg hi]
    obtain ⟨n, rfl⟩ : ∃ n : Nat, i = n := ⟨i.toNat, by omega⟩
    by_cases hb : x.burns 2 = true
    · rw [if_pos hb]
      refine (rwrite_io hx (by omega) hb).mono ?_
      rintro e w' ⟨rfl, hx', ho⟩
      exact ⟨rfl, h3 _ _ _ _ _ _ _ hx' ho⟩
    · rw [if_neg hb]
      refine (rwrite_ok hx (by omega) (by simpa using hb) hn hl hbb (fun hg => hb0 (h2 _ hg)) h1).mono ?_
      rintro e w' ⟨vA', vB', bs', rfl, hx', ho⟩
      exact ⟨rfl, h3 _ _ _ _ _ _ _ hx' ho⟩

/-! ### Crash -/
theorem Pair.dCrash (h : Pair E w p q d x) (hE : ∀ k, w.heap.size ≤ k → E k) (hn : d.n < 1000000) {A : Option Addr} {n c : Nat} {ks : List Int} (hks : RdN w E A ks) (hnk : n = ks.length) (hkl : ks.length < 1000000) : Calls Try.prog 16 #[at0 p, .slice A n c] w fun e w' => e = .returned (.tuple #[]) ∧ Pair E w' p q (d.crash ks) x ∧ Only E w w' := by
  subst hnk
  obtain ⟨F, bl, bm, S, D, hd, h1, h2, h3⟩ := h.dev0 hE
  refine (crash_any hd hn (fun hp => ?_) hkl h1).mono ?_
  · obtain ⟨b, o, e, hb, hnE, hc⟩ := hks hp
    exact ⟨b, o, e, hb, fun hf => hnE (h2 _ hf), hc⟩
  · rintro e w' ⟨S', D', rfl, hd', ho⟩
    exact ⟨rfl, h3 _ _ _ _ _ _ hd' ho⟩
theorem Pair.xCrash (h : Pair E w p q d x) (hE : ∀ k, w.heap.size ≤ k → E k) (hn : x.n < 1000000) {A : Option Addr} {n c : Nat} {ks : List Int} (hks : RdN w E A ks) (hnk : n = ks.length) (hkl : ks.length < 1000000) : Calls Try.prog 17 #[at0 q, .slice A n c] w fun e w' => e = .returned (.tuple #[]) ∧ Pair E w' p q d (x.crash ks) ∧ Only E w w' := by
  subst hnk
  obtain ⟨G, vL, vA, vB, ls, bs, hx, h1, h2, h3⟩ := h.ref hE
  refine (rcrash_any hx hn (fun hp => ?_) hkl h1).mono ?_
  · obtain ⟨b, o, e, hb, hnE, hc⟩ := hks hp
    exact ⟨b, o, e, hb, fun hf => hnE (h2 _ hf), hc⟩
  · rintro e w' ⟨vA', vB', ls', rfl, hx', ho⟩
    exact ⟨rfl, h3 _ _ _ _ _ _ _ hx' ho⟩
end
end Go.Proofs.Ytmifaneolfciiaa
