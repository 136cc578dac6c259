/-
  The program's cache and the document's, each over its device, both in one memory: what each call does to the pair of them.
-/
import Derived.Test.YtfjcblppmoomdaaCrN
import Derived.Test.YtfjcblppmoomdaaDevFail
import Derived.Test.YtfjcblppmoomdaaCacheFull
namespace Go.Proofs.Ytfjcblppmoomdaa
open Go.RowKit
section
variable {w w' : World} {E E' F F' : Nat → Prop} {c bf p q r bg cap : Nat} {rest : List Value} {P : List (Frm × Value)} {x y x' y' : Cch} {d d' e e' : Dev}
theorem CD.hold (h : CD w F c bf p x d) (hk : ∀ k, k < w.heap.size → Foot F c bf k → w'.heap[k]? = w.heap[k]?) : CD w' F c bf p x d := by
  obtain ⟨bl, bm, S, D, hd⟩ := h.dev
  exact ⟨h.cache.keep (hk c h.lt.1 (.inr (.inl rfl))) (hk bf h.lt.2 (.inr (.inr rfl))), ⟨bl, bm, S, D, hd.keep fun k hk' hf => hk k hk' (.inl hf)⟩, h.nc⟩
theorem CDR.hold (h : CDR w E q r bg cap rest y e) (hk : ∀ k, k < w.heap.size → E k → w'.heap[k]? = w.heap[k]?) : CDR w' E q r bg cap rest y e := by
  obtain ⟨P, hc⟩ := h.cache
  obtain ⟨vL, vA, vB, ls, bs, z, hr, hl⟩ := h.dev
  exact ⟨⟨P, hc.keep (hk r hc.lt.1 h.own.1) (hk bg hc.lt.2 h.own.2) hk⟩, ⟨vL, vA, vB, ls, bs, z, hr.keep hk hk, hl⟩, h.own⟩
theorem CDR.mono (h : CDR w E q r bg cap rest y e) (hE : ∀ k, k < w.heap.size → E k → E' k) : CDR w E' q r bg cap rest y e := by
  obtain ⟨P, hc⟩ := h.cache
  obtain ⟨vL, vA, vB, ls, bs, z, hr, hl⟩ := h.dev
  exact ⟨⟨P, hc.mono hE⟩, ⟨vL, vA, vB, ls, bs, z, hr.mono hE hE, hl⟩, hE r hc.lt.1 h.own.1, hE bg hc.lt.2 h.own.2⟩
/-- In w the program's cache x over d and the document's y over e stand apart from each other, in blocks that E lets. -/
def Two (E : Nat → Prop) (w : World) (c bf p q r bg cap : Nat) (rest : List Value) (x : Cch) (d : Dev) (y : Cch) (e : Dev) : Prop :=
  ∃ (F G : Nat → Prop), CD w F c bf p x d ∧ CDR w G q r bg cap rest y e ∧ (∀ k, Foot F c bf k → ¬ G k) ∧ (∀ k, Foot F c bf k → E k ∧ k < w.heap.size) ∧ (∀ k, G k → E k ∧ k < w.heap.size)
theorem Two.keep (h : Two E w c bf p q r bg cap rest x d y e) (hk : ∀ k, k < w.heap.size → E k → w'.heap[k]? = w.heap[k]?) (hs : w.heap.size ≤ w'.heap.size) : Two E w' c bf p q r bg cap rest x d y e := by
  obtain ⟨F, G, h1, h2, ap, hF, hG⟩ := h
  exact ⟨F, G, h1.hold fun k hk' hf => hk k hk' (hF k hf).1, h2.hold fun k hk' hg => hk k hk' (hG k hg).1, ap, fun k hf => ⟨(hF k hf).1, Nat.lt_of_lt_of_le (hF k hf).2 hs⟩, fun k hg => ⟨(hG k hg).1, Nat.lt_of_lt_of_le (hG k hg).2 hs⟩⟩
theorem Two.below (h : Two E w c bf p q r bg cap rest x d y e) (hb : Below w.heap.size w w') : Two E w' c bf p q r bg cap rest x d y e := h.keep (fun k hk _ => hb.block k hk) hb.size
theorem Two.drew (h : Two E w c bf p q r bg cap rest x d y e) : Two E w.drew c bf p q r bg cap rest x d y e := h.keep (fun _ _ _ => rfl) (Nat.le_refl _)
theorem Two.wide (h : Two E w c bf p q r bg cap rest x d y e) (hE : ∀ k, k < w.heap.size → E k → E' k) : Two E' w c bf p q r bg cap rest x d y e := by
  obtain ⟨F, G, h1, h2, ap, hF, hG⟩ := h
  exact ⟨F, G, h1, h2, ap, fun k hf => ⟨hE k (hF k hf).2 (hF k hf).1, (hF k hf).2⟩, fun k hg => ⟨hE k (hG k hg).2 (hG k hg).1, (hG k hg).2⟩⟩
/-- A block that is new is none of theirs. -/
theorem Two.far (h : Two E w c bf p q r bg cap rest x d y e) (hb : Below w.heap.size w w') {g : Nat} (hg : w.heap.size ≤ g) : Two (fun k => E k ∧ k ≠ g) w' c bf p q r bg cap rest x d y e :=
  (h.wide (E' := fun k => E k ∧ k ≠ g) fun k hk he => ⟨he, by omega⟩).below hb
theorem Only.wider {F F' : Nat → Prop} (h : Only F w w') (hF : ∀ k, F k → F' k) : Only F' w w' := h.mono fun k _ hf => hF k hf
/-- What the program's cache needs of the pair, and how the pair comes back. -/
theorem Two.cd (h : Two E w c bf p q r bg cap rest x d y e) (hE : ∀ k, w.heap.size ≤ k → E k) : ∃ (F : Nat → Prop), CD w F c bf p x d ∧ (∀ k, w.heap.size ≤ k → F k) ∧ (∀ k, Foot F c bf k → E k) ∧
    (∀ w' x' d' (X : Nat → Prop), (∀ k, X k → w.heap.size ≤ k) → CD w' (fun k => F k ∧ ¬ X k) c bf p x' d' → Only (Foot F c bf) w w' → Two (fun k => E k ∧ ¬ X k) w' c bf p q r bg cap rest x' d' y e ∧ Only E w w') := by
  obtain ⟨F, G, h1, h2, ap, hF, hG⟩ := h
  have hlt := h1.lt
  have nc : ¬ (F c ∨ w.heap.size ≤ c) ∧ ¬ (F bf ∨ w.heap.size ≤ bf) := ⟨fun hh => hh.elim h1.nc.1 (fun hh => by omega), fun hh => hh.elim h1.nc.2 (fun hh => by omega)⟩
  have hsub : ∀ k, Foot (fun k => F k ∨ w.heap.size ≤ k) c bf k → Foot F c bf k ∨ w.heap.size ≤ k := fun k hk => by
    rcases hk with (hk | hk) | hk
    · exact .inl (.inl hk)
    · exact .inr hk
    · exact .inl (.inr hk)
  refine ⟨fun k => F k ∨ w.heap.size ≤ k, h1.mono (fun k _ hf => .inl hf) nc.1 nc.2, fun k hk => .inr hk, fun k hk => (hsub k hk).elim (fun hh => (hF k hh).1) (hE k), fun w' x' d' X hX hc' ho => ?_⟩
  have hlt' := hc'.lt
  refine ⟨⟨fun k => ((F k ∨ w.heap.size ≤ k) ∧ ¬ X k) ∧ k < w'.heap.size, G, hc'.mono (fun k hk hf => ⟨hf, hk⟩) (fun hh => nc.1 hh.1.1) (fun hh => nc.2 hh.1.1), h2.hold fun k hk hg => ho.block k hk fun hf => ?_, fun k hf hg => ?_, fun k hf => ?_, fun k hg => ⟨⟨(hG k hg).1, fun hx => ?_⟩, Nat.lt_of_lt_of_le (hG k hg).2 ho.size⟩⟩, ho.wider fun k hf => (hsub k hf).elim (fun hh => (hF k hh).1) (hE k)⟩
  · exact (hsub k hf).elim (fun hh => ap k hh hg) (fun hh => by omega)
  · have : Foot F c bf k ∨ w.heap.size ≤ k := hsub k (hf.elim (fun hh => .inl hh.1.1) .inr)
    exact this.elim (fun hh => ap k hh hg) (fun hh => by have := (hG k hg).2; omega)
  · refine ⟨⟨(hsub k (hf.elim (fun hh => .inl hh.1.1) .inr)).elim (fun hh => (hF k hh).1) (hE k), fun hx => ?_⟩, ?_⟩
    · rcases hf with hf | rfl | rfl
      · exact hf.1.2 hx
      · have := hX _ hx; omega
      · have := hX _ hx; omega
    · rcases hf with hf | rfl | rfl
      · exact hf.2
      · exact hlt'.1
      · exact hlt'.2
  · have := hX k hx; have := (hG k hg).2; omega
theorem Two.cd0 (h : Two E w c bf p q r bg cap rest x d y e) (hE : ∀ k, w.heap.size ≤ k → E k) : ∃ (F : Nat → Prop), CD w F c bf p x d ∧ (∀ k, w.heap.size ≤ k → F k) ∧ (∀ k, Foot F c bf k → E k) ∧
    (∀ w' x' d', CD w' F c bf p x' d' → Only (Foot F c bf) w w' → Two E w' c bf p q r bg cap rest x' d' y e ∧ Only E w w') := by
  obtain ⟨F, h1, h2, h3, h4⟩ := h.cd hE
  refine ⟨F, h1, h2, h3, fun w' x' d' hc ho => ?_⟩
  have := h4 w' x' d' (fun _ => False) (fun _ h => h.elim) (hc.mono (fun k _ hf => ⟨hf, id⟩) (fun hh => hc.nc.1 hh.1) (fun hh => hc.nc.2 hh.1)) ho
  exact ⟨this.1.wide fun k _ he => he.1, this.2⟩
/-- .. and the document's. -/
theorem Two.ref (h : Two E w c bf p q r bg cap rest x d y e) (hE : ∀ k, w.heap.size ≤ k → E k) : ∃ (G : Nat → Prop), CDR w G q r bg cap rest y e ∧ (∀ k, w.heap.size ≤ k → G k) ∧ (∀ k, G k → E k) ∧
    (∀ w' y' e', CDR w' G q r bg cap rest y' e' → Only G w w' → Two E w' c bf p q r bg cap rest x d y' e' ∧ Only E w w') := by
  obtain ⟨F, G, h1, h2, ap, hF, hG⟩ := h
  refine ⟨fun k => G k ∨ w.heap.size ≤ k, h2.mono fun k _ hg => .inl hg, fun k hk => .inr hk, fun k hg => hg.elim (fun h => (hG k h).1) (hE k), fun w' y' e' hc' ho => ?_⟩
  refine ⟨⟨F, fun k => (G k ∨ w.heap.size ≤ k) ∧ k < w'.heap.size, h1.hold fun k hk hf => ho.block k hk fun hg => ?_, hc'.mono fun k hk hg => ⟨hg, hk⟩, fun k hf hg => ?_, fun k hf => ⟨(hF k hf).1, Nat.lt_of_lt_of_le (hF k hf).2 ho.size⟩, fun k hg => ⟨?_, hg.2⟩⟩, ho.wider fun k hg => hg.elim (fun h => (hG k h).1) (hE k)⟩
  · exact hg.elim (fun h => ap k hf h) (fun h => by omega)
  · exact hg.1.elim (fun h => ap k hf h) (fun h => by have := (hF k hf).2; omega)
  · exact hg.1.elim (fun h => (hG k h).1) (hE k)
/-! ### Each call -/
variable {j : Nat}
theorem St.dn (h : St x d j) (hj : j ≤ 60) : d.n < 999000 := by have := h.n; omega
theorem Two.pGet (h : Two E w c bf p q r bg cap rest x d y e) (hE : ∀ k, w.heap.size ≤ k → E k) (hs : St x d j) (hj : j ≤ 60) (no : Int) :
    Calls Try.prog 25 #[at0 c, .int .i64 no] w fun ee w' => ∃ v, ee = .returned (.tuple #[v, .int .i64 (x.get d no).2.1]) ∧ Rd w' w'.heap.size v (cellsB (x.get d no).1) ∧ (∀ g, v.ownBlock = some g → g < w'.heap.size) ∧
      Two (fun k => E k ∧ ¬ v.ownBlock = some k) w' c bf p q r bg cap rest (x.get d no).2.2.1 (x.get d no).2.2.2 y e ∧ Only E w w' := by
  obtain ⟨F, h1, h2, h3, h4⟩ := h.cd hE
  have hdn := hs.dn hj
  refine (get_any h1 hs.ok.within (by omega) h2 no).mono ?_
  rintro ee w' ⟨v, rfl, g1, g2, g3, g4⟩
  obtain ⟨a, b⟩ := h4 w' _ _ (fun k => v.ownBlock = some k) (fun k hk => (g2 k hk).1) g3 g4
  exact ⟨v, rfl, g1, fun g hg => (g2 g hg).2, a, b⟩
theorem Two.xGet (h : Two E w c bf p q r bg cap rest x d y e) (hE : ∀ k, w.heap.size ≤ k → E k) (hs : St y e j) (hj : j ≤ 60) (no : Int) :
    Calls Try.prog 35 #[at0 r, .int .i64 no] w fun ee w' => ∃ v, ee = .returned (.tuple #[v, .int .i64 (y.get e no).2.1]) ∧ Rd w' w'.heap.size v (cellsB (y.get e no).1) ∧
      Two E w' c bf p q r bg cap rest x d (y.get e no).2.2.1 (y.get e no).2.2.2 ∧ Only E w w' := by
  obtain ⟨G, h1, h2, h3, h4⟩ := h.ref hE
  have hdn := hs.dn hj
  refine (rget_any h1 hs.ok (by omega) h2 no).mono ?_
  rintro ee w' ⟨v, rfl, g1, g3, g4⟩
  obtain ⟨a, b⟩ := h4 w' _ _ g3 g4
  exact ⟨v, rfl, g1, a, b⟩
theorem Two.pPut (h : Two E w c bf p q r bg cap rest x d y e) (hE : ∀ k, w.heap.size ≤ k → E k) (hs : St x d j) (hj : j ≤ 60) (no : Int) {bb : Nat} {l : List UInt8} (hl : l.length = 256) (hb : w.heap[bb]? = some (.cells (cellsB l).toArray 5 (0, 0))) (hbE : ¬ E bb) :
    Calls Try.prog 22 #[at0 c, .int .i64 no, .slice (some ⟨bb, 0, none⟩) 256 256] w fun ee w' => ee = .returned (.int .i64 (x.put d no l).1) ∧ Two E w' c bf p q r bg cap rest (x.put d no l).2.1 (x.put d no l).2.2 y e ∧ Only E w w' := by
  obtain ⟨F, h1, h2, h3, h4⟩ := h.cd0 hE
  have hdn := hs.dn hj
  refine (put_any h1 hs.ok.within (by omega) h2 no (cc := 256) hl (range_new hb) (Array.getElem?_eq_some_iff.1 hb).1 (fun hf => hbE (h3 bb hf))).mono ?_
  rintro ee w' ⟨rfl, g3, g4⟩
  exact ⟨rfl, h4 w' _ _ g3 g4⟩
theorem Two.xPut (h : Two E w c bf p q r bg cap rest x d y e) (hE : ∀ k, w.heap.size ≤ k → E k) (hs : St y e j) (hj : j ≤ 60) (no : Int) {bb : Nat} {l : List UInt8} (hl : l.length = 256) (hb : w.heap[bb]? = some (.cells (cellsB l).toArray 5 (0, 0))) (hbE : ¬ E bb) :
    Calls Try.prog 30 #[at0 r, .int .i64 no, .slice (some ⟨bb, 0, none⟩) 256 256] w fun ee w' => ee = .returned (.int .i64 (y.put e no l).1) ∧ Two E w' c bf p q r bg cap rest x d (y.put e no l).2.1 (y.put e no l).2.2 ∧ Only E w w' := by
  obtain ⟨G, h1, h2, h3, h4⟩ := h.ref hE
  have hdn := hs.dn hj
  refine (rput_any h1 hs.ok (by omega) h2 no hl hb (fun hf => hbE (h3 bb hf))).mono ?_
  rintro ee w' ⟨rfl, g3, g4⟩
  exact ⟨rfl, h4 w' _ _ g3 g4⟩
theorem St.few (h : St x d j) (hj : j ≤ 60) (i : Nat) : (x.fr i).pins < 1000000 := by have := h.pins i; omega
theorem Two.pPin (h : Two E w c bf p q r bg cap rest x d y e) (hE : ∀ k, w.heap.size ≤ k → E k) (hs : St x d j) (hj : j ≤ 60) (no : Int) :
    Calls Try.prog 27 #[at0 c, .int .i64 no] w fun ee w' => ee = .returned (.bool (x.pin no).1) ∧ Two E w' c bf p q r bg cap rest (x.pin no).2 d y e ∧ Only E w w' := by
  obtain ⟨F, h1, h2, h3, h4⟩ := h.cd0 hE
  refine (cpin_any h1 (hs.few hj) no).mono ?_
  rintro ee w' ⟨rfl, g3, g4⟩
  exact ⟨rfl, h4 w' _ _ g3 g4⟩
theorem Two.pUnpin (h : Two E w c bf p q r bg cap rest x d y e) (hE : ∀ k, w.heap.size ≤ k → E k) (hs : St x d j) (hj : j ≤ 60) (no : Int) :
    Calls Try.prog 28 #[at0 c, .int .i64 no] w fun ee w' => ee = .returned (.bool (x.unpin no).1) ∧ Two E w' c bf p q r bg cap rest (x.unpin no).2 d y e ∧ Only E w w' := by
  obtain ⟨F, h1, h2, h3, h4⟩ := h.cd0 hE
  refine (cunpin_any h1 (hs.few hj) no).mono ?_
  rintro ee w' ⟨rfl, g3, g4⟩
  exact ⟨rfl, h4 w' _ _ g3 g4⟩
theorem Two.pDrop (h : Two E w c bf p q r bg cap rest x d y e) (hE : ∀ k, w.heap.size ≤ k → E k) (no : Int) :
    Calls Try.prog 29 #[at0 c, .int .i64 no] w fun ee w' => ee = .returned (.bool (x.drop no).1) ∧ Two E w' c bf p q r bg cap rest (x.drop no).2 d y e ∧ Only E w w' := by
  obtain ⟨F, h1, h2, h3, h4⟩ := h.cd0 hE
  refine (cdrop_any h1 no).mono ?_
  rintro ee w' ⟨rfl, g3, g4⟩
  exact ⟨rfl, h4 w' _ _ g3 g4⟩
theorem Two.xPin (h : Two E w c bf p q r bg cap rest x d y e) (hE : ∀ k, w.heap.size ≤ k → E k) (hs : St y e j) (hj : j ≤ 60) (no : Int) {s : Int} (hss : s = 1 ∨ s = -1) :
    Calls Try.prog 31 #[at0 r, .int .i64 no, .int .i64 s] w fun ee w' => ee = .returned (.bool (y.pinBy no s).1) ∧ Two E w' c bf p q r bg cap rest x d (y.pinBy no s).2 e ∧ Only E w w' := by
  obtain ⟨G, h1, h2, h3, h4⟩ := h.ref hE
  refine (rpin_any h1 hs.ok (hs.few hj) no hss).mono ?_
  rintro ee w' ⟨rfl, g3, g4⟩
  exact ⟨rfl, h4 w' _ _ g3 g4⟩
theorem Two.xDrop (h : Two E w c bf p q r bg cap rest x d y e) (hE : ∀ k, w.heap.size ≤ k → E k) (hs : St y e j) (no : Int) :
    Calls Try.prog 32 #[at0 r, .int .i64 no] w fun ee w' => ee = .returned (.bool (y.drop no).1) ∧ Two E w' c bf p q r bg cap rest x d (y.drop no).2 e ∧ Only E w w' := by
  obtain ⟨G, h1, h2, h3, h4⟩ := h.ref hE
  refine (rdrop_any h1 hs.ok no).mono ?_
  rintro ee w' ⟨rfl, g3, g4⟩
  exact ⟨rfl, h4 w' _ _ g3 g4⟩
theorem Two.pSync (h : Two E w c bf p q r bg cap rest x d y e) (hE : ∀ k, w.heap.size ≤ k → E k) (hs : St x d j) (hj : j ≤ 60) :
    Calls Try.prog 24 #[at0 c] w fun ee w' => ee = .returned (.int .i64 (x.sync d).1) ∧ Two E w' c bf p q r bg cap rest (x.sync d).2.1 (x.sync d).2.2 y e ∧ Only E w w' := by
  obtain ⟨F, h1, h2, h3, h4⟩ := h.cd0 hE
  have hdn := hs.dn hj
  refine (sync_any h1 hs.ok.within (dirty_full hs.ok) (by omega) h2).mono ?_
  rintro ee w' ⟨rfl, g3, g4⟩
  exact ⟨rfl, h4 w' _ _ g3 g4⟩
theorem Two.xSync (h : Two E w c bf p q r bg cap rest x d y e) (hE : ∀ k, w.heap.size ≤ k → E k) (hs : St y e j) (hj : j ≤ 60) :
    Calls Try.prog 33 #[at0 r] w fun ee w' => ee = .returned (.int .i64 (y.sync e).1) ∧ Two E w' c bf p q r bg cap rest x d (y.sync e).2.1 (y.sync e).2.2 ∧ Only E w w' := by
  obtain ⟨G, h1, h2, h3, h4⟩ := h.ref hE
  have hdn := hs.dn hj
  have hsec := hs.sec
  refine (rsync_any h1 rfl hs.ok (by omega) (by omega) h2).mono ?_
  rintro ee w' ⟨rfl, g3, g4⟩
  exact ⟨rfl, h4 w' _ _ g3 g4⟩
theorem Two.pFail (h : Two E w c bf p q r bg cap rest x d y e) (hE : ∀ k, w.heap.size ≤ k → E k) (k : Int) {a : Nat} (ha : a < 1000) :
    Calls Try.prog 19 #[at0 p, .int .i64 k, .int .i64 (a : Int)] w fun ee w' => ee = .returned (.int .i64 (d.doFail k a).1) ∧ Two E w' c bf p q r bg cap rest x (d.doFail k a).2 y e ∧ Only E w w' := by
  unfold Dev.doFail
  by_cases hb : k < 1 ∨ 3 < k ∨ (a : Int) < 0
  · rw [if_pos hb]
    refine (fail_arg w p hb).mono ?_
    rintro ee w' ⟨rfl, rfl⟩
    exact ⟨rfl, h, Only.refl _ _⟩
  · rw [if_neg hb]
    obtain ⟨n, rfl⟩ : ∃ n : Nat, k = n := ⟨k.toNat, by omega⟩
    obtain ⟨F, h1, h2, h3, h4⟩ := h.cd0 hE
    obtain ⟨bl, bm, S, D, hd⟩ := h1.dev
    refine (fail_any (k := n) (a := a) hd (by omega) (by omega) (by omega)).mono ?_
    rintro ee w' ⟨rfl, hd', ho⟩
    exact ⟨rfl, h4 w' _ _ (h1.moved hd' ho) ho.device⟩
theorem Two.xFail (h : Two E w c bf p q r bg cap rest x d y e) (hE : ∀ k, w.heap.size ≤ k → E k) (k : Int) {a : Nat} (ha : a < 1000) :
    Calls Try.prog 34 #[at0 q, .int .i64 k, .int .i64 (a : Int)] w fun ee w' => ee = .returned (.int .i64 (e.doFail k a).1) ∧ Two E w' c bf p q r bg cap rest x d y (e.doFail k a).2 ∧ Only E w w' := by
  obtain ⟨G, h1, h2, h3, h4⟩ := h.ref hE
  refine (h1.fail h2 (k := k) (a := (a : Int)) (by omega)).mono ?_
  rintro ee w' ⟨rfl, g3, g4⟩
  exact ⟨rfl, h4 w' _ _ g3 g4⟩
/-- What is read of both, with nothing turned. -/
theorem Two.parts (h : Two E w c bf p q r bg cap rest x d y e) : (∃ F, CD w F c bf p x d) ∧ ∃ G, CDR w G q r bg cap rest y e := by
  obtain ⟨F, G, h1, h2, _⟩ := h
  exact ⟨⟨F, h1⟩, ⟨G, h2⟩⟩
theorem Two.writes (h : Two E w c bf p q r bg cap rest x d y e) : Calls Try.prog 18 #[at0 p] w fun ee w' => ee = .returned (.int .i64 (d.n : Int)) ∧ w = w' := by
  obtain ⟨⟨F, h1⟩, _⟩ := h.parts
  obtain ⟨bl, bm, S, D, hd⟩ := h1.dev
  exact writes_any hd.c10
theorem Two.cellsX (h : Two E w c bf p q r bg cap rest x d y e) : w.cell? ⟨r, 0, none⟩ = some (at0 q) ∧ w.cell? ⟨q, 7, none⟩ = some (.int .i64 (e.n : Int)) := by
  obtain ⟨_, ⟨G, h2⟩⟩ := h.parts
  obtain ⟨vL, vA, vB, ls, bs, z, hr, hl⟩ := h2.dev
  exact ⟨h2.cells.1, by rw [hl.n]; exact hr.c7⟩
/-- The sectors told, as plain numbers. -/
def kept (x : Cch) (dirty : Bool) : List Nat := (List.range 24).filter fun k : Nat => keepQ x dirty (k : Int)
theorem kept_nos (x : Cch) (dirty : Bool) : (nos 24).filter (keepQ x dirty) = (kept x dirty).map fun k : Nat => (k : Int) := by
  unfold nos kept
  rw [List.filter_map]
  rfl
theorem kept_few (x : Cch) (dirty : Bool) : (kept x dirty).length ≤ 24 := Nat.le_trans (List.length_filter_le _ _) (by simp)
/-- The slice of A has the numbers ks. -/
def ToldK (w : World) (A : Option Addr) (ks : List Nat) (m : Nat) : Prop := ∀ k, k < m → ∃ g o, A = some ⟨g, o, none⟩ ∧ w.cell? ⟨g, o + k, none⟩ = some (.int .i64 ((ks.getD k 0 : Nat) : Int))
theorem toldK {w : World} {v : Value} {base : Nat} {ks : List Nat} (h : Mine w base 3 v (cellsE (ks.map fun k : Nat => (k : Int)))) : ∃ A cc, v = .slice A ks.length cc ∧ ToldK w A ks ks.length := by
  obtain ⟨A, cc, e, _, _, h3⟩ := h.ints
  rw [List.length_map] at e
  refine ⟨A, cc, e, fun k hk => ?_⟩
  obtain ⟨g, e1, _, _, e4⟩ := h3 k (by rw [List.length_map]; exact hk)
  refine ⟨g, 0, e1, ?_⟩
  rw [Nat.zero_add, e4, List.getElem_map, List.getD_eq_getElem?_getD, List.getElem?_eq_getElem hk, Option.getD_some]
theorem ToldK.below {A : Option Addr} {ks : List Nat} {m : Nat} (h : ToldK w A ks m) (hb : Below w.heap.size w w') : ToldK w' A ks m := fun k hk => by
  obtain ⟨g, o, e1, e2⟩ := h k hk
  exact ⟨g, o, e1, (hb.cell (p := ⟨g, o + k, none⟩) (World.block_lt_of_cell? _ _ e2)).trans e2⟩
theorem Two.held (h : Two E w c bf p q r bg cap rest x d y e) (hs : St x d j) {m : Nat} (hm : m = (kept x false).length) :
    Calls Try.prog 15 #[at0 c] w fun ee w' => ∃ A cc, ee = .returned (.slice A m cc) ∧ ToldK w' A (kept x false) m ∧ Below w.heap.size w w' := by
  subst hm
  obtain ⟨⟨F, h1⟩, _⟩ := h.parts
  have := Held_any h1.cache
  rw [those_full hs.ok, hs.sec, kept_nos] at this
  refine this.mono ?_
  rintro ee w' ⟨v, rfl, hown, hb⟩
  obtain ⟨A, cc, rfl, ht⟩ := toldK hown
  exact ⟨A, cc, rfl, ht, hb⟩
theorem Two.soiled (h : Two E w c bf p q r bg cap rest x d y e) (hs : St x d j) {m : Nat} (hm : m = (kept x true).length) :
    Calls Try.prog 17 #[at0 c] w fun ee w' => ∃ A cc, ee = .returned (.slice A m cc) ∧ ToldK w' A (kept x true) m ∧ Below w.heap.size w w' := by
  subst hm
  obtain ⟨⟨F, h1⟩, _⟩ := h.parts
  have := Dirty_any h1.cache
  rw [those_dirty hs.ok, hs.sec, kept_nos] at this
  refine this.mono ?_
  rintro ee w' ⟨v, rfl, hown, hb⟩
  obtain ⟨A, cc, rfl, ht⟩ := toldK hown
  exact ⟨A, cc, rfl, ht, hb⟩
theorem Two.those (h : Two E w c bf p q r bg cap rest x d y e) (hs : St y e j) (b : Bool) {m : Nat} (hm : m = (kept y b).length) :
    Calls Try.prog 16 #[at0 r, .bool b] w fun ee w' => ∃ A cc, ee = .returned (.slice A m cc) ∧ ToldK w' A (kept y b) m ∧ Below w.heap.size w w' := by
  subst hm
  obtain ⟨_, ⟨G, h2⟩⟩ := h.parts
  have hsec := hs.sec
  have := rthose_any h2 rfl hs.ok (by omega) b
  rw [hsec, kept_nos] at this
  refine this.mono ?_
  rintro ee w' ⟨v, rfl, hown, hb⟩
  obtain ⟨A, cc, rfl, ht⟩ := toldK hown
  exact ⟨A, cc, rfl, ht, hb⟩
/-! ### The end: what both devices have -/
theorem Two.pRead (h : Two E w c bf p q r bg cap rest x d y e) (hE : ∀ k, w.heap.size ≤ k → E k) (hn : d.n < 1000000) {i : Nat} (hi : i < d.L.length) (hb : d.burns 1 = false) :
    Calls Try.prog 20 #[at0 p, .int .i64 (i : Int)] w fun ee w' => ∃ g, ee = .returned (.tuple #[.slice (some ⟨g, 0, none⟩) 256 256, .int .i64 0]) ∧ Rd w' w'.heap.size (.slice (some ⟨g, 0, none⟩) 256 256) (cellsB (d.now i)) ∧ Two E w' c bf p q r bg cap rest x (d.burn 1) y e ∧ Only E w w' := by
  obtain ⟨F, h1, h2, h3, h4⟩ := h.cd0 hE
  obtain ⟨bl, bm, S, D, hd⟩ := h1.dev
  have hw := Dev.now_wide hd hi
  refine (read_ok hd hi hb hn).mono ?_
  rintro ee w' ⟨g, rfl, hg, _, hd', ho⟩
  obtain ⟨a, b⟩ := h4 w' _ _ (h1.moved hd' ho) ho.device
  exact ⟨g, rfl, rd_block hg (by simpa using hw), a, b⟩
theorem Two.xNow (h : Two E w c bf p q r bg cap rest x d y e) (hn : e.n < 1000000) {i : Nat} (hi : i < e.L.length) :
    Calls Try.prog 21 #[at0 q, .int .i64 (i : Int)] w fun ee w' => ∃ v, ee = .returned v ∧ Rd w' w'.heap.size v (cellsB (e.now i)) ∧ Below w.heap.size w w' := by
  obtain ⟨_, ⟨G, h2⟩⟩ := h.parts
  obtain ⟨vL, vA, vB, ls, bs, z, hr, hl⟩ := h2.dev
  refine (rnow_any hr (by rw [← hl.n]; exact hn) (i := i) (by rw [← hl.L]; exact hi)).mono ?_
  rintro ee w' ⟨gu, cu, rfl, hs, hb⟩
  rw [← hl.now hi] at hs
  exact ⟨_, rfl, hs.rd, hb⟩
/-! ### The start -/
theorem Two.start {w0 w1 w2 w3 w4 : World} {k bl bm : Nat} {S : Nat → Value} {D : DataW Value} {vL : Value} {ls : List Value} {P : List (Frm × Value)} (hd : DevIs w1 (fun k => w0.heap.size ≤ k) p bl bm S D (Dev.new 24)) (h01 : w0.heap.size ≤ w1.heap.size)
    (hc : CacheIs w2 c bf p (Cch.new k)) (h12 : Below w1.heap.size w1 w2) (hc1 : w1.heap.size ≤ c) (hc2 : w1.heap.size ≤ bf)
    (hx : RefIs w3 (fun k => w2.heap.size ≤ k) (fun k => w2.heap.size ≤ k) w2.heap.size vL (.slice none 0 0) (.slice none 0 0) ls [] (Ref.new 24)) (h23 : Below w2.heap.size w2 w3)
    (hy : CRefIs w4 (fun k => w2.heap.size ≤ k) w2.heap.size w3.heap.size bg cap rest P (Cch.new k)) (hbg : w3.heap.size < bg) (h34 : Below w3.heap.size w3 w4) :
    Two (fun k => w0.heap.size ≤ k) w4 c bf p w2.heap.size w3.heap.size bg cap rest (Cch.new k) (Dev.new 24) (Cch.new k) (Dev.new 24) := by
  have hcd := CD.start hd hc h12 hc1 hc2
  have hlt := hcd.lt
  have s12 := h12.size
  have s23 := h23.size
  have s34 := h34.size
  have hylt := hy.lt
  have h24 : Below w2.heap.size w2 w4 := up h23 h34
  have hcd4 := hcd.below h24
  refine ⟨fun k => Made w0.heap.size c bf k ∧ k < w2.heap.size, fun k => w2.heap.size ≤ k ∧ k < w4.heap.size, ?_, ?_, fun k hf hg => ?_, fun k hf => ?_, fun k hg => ⟨by omega, hg.2⟩⟩
  · exact (hcd.mono (G' := fun k => Made w0.heap.size c bf k ∧ k < w2.heap.size) (fun k hk hf => ⟨hf, hk⟩) (fun hh => hcd.nc.1 hh.1) (fun hh => hcd.nc.2 hh.1)).below h24
  · have h1 : CDR w4 (fun k => w2.heap.size ≤ k) w2.heap.size w3.heap.size bg cap rest (Cch.new k) (Dev.new 24) :=
      ⟨⟨P, hy⟩, ⟨vL, _, _, ls, [], Ref.new 24, hx.below h34, Like.new _⟩, s23, by omega⟩
    exact h1.mono fun k hk hg => ⟨hg, hk⟩
  · rcases hf with hf | rfl | rfl
    · omega
    · omega
    · omega
  · rcases hf with hf | rfl | rfl
    · exact ⟨hf.1.1, by omega⟩
    · exact ⟨by omega, by omega⟩
    · exact ⟨by omega, by omega⟩
end
end Go.Proofs.Ytfjcblppmoomdaa
