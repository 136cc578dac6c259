/-
  A law's own device and cache, and other blocks of its own, apart from them: what each call does.
-/
import Derived.Test.YtfjcblppmoomdaaCacheN
import Derived.Test.YtfjcblppmoomdaaCacheJ
import Derived.Test.YtfjcblppmoomdaaCacheLives
namespace Go.Proofs.Ytfjcblppmoomdaa
open Go.RowKit
/-- In w, which came from w0, there are the cache x and the device d, both made since, and the blocks O of the law's own. -/
structure Lw (w0 w : World) (O : Nat → Prop) (c bf p : Nat) (x : Cch) (d : Dev) : Prop where
  cd : CD w (fun k => Made w0.heap.size c bf k ∧ ¬ O k) c bf p x d
  low : Below w0.heap.size w0 w
  l1 : w0.heap.size ≤ c
  l2 : w0.heap.size ≤ bf
  blk : ∀ g, O g → w0.heap.size ≤ g ∧ g < w.heap.size ∧ g ≠ c ∧ g ≠ bf
section
variable {w0 w w1 w2 w' : World} {O O' : Nat → Prop} {c bf p : Nat} {x y : Cch} {d d' : Dev}
theorem Lw.size (h : Lw w0 w O c bf p x d) : w0.heap.size ≤ w.heap.size := h.low.size
/-- More has come, and some of it is the law's own. -/
theorem Lw.more (h : Lw w0 w O c bf p x d) (hb : Below w.heap.size w w') (hO : ∀ k, O' k → O k ∨ (w.heap.size ≤ k ∧ k < w'.heap.size)) : Lw w0 w' O' c bf p x d := by
  have hl := h.cd.lt
  have hs := h.size
  refine ⟨?_, up h.low hb, h.l1, h.l2, fun k hk => ?_⟩
  · refine (h.cd.mono (G' := fun k => Made w0.heap.size c bf k ∧ ¬ O' k) (fun k hk hf => ⟨hf.1, fun e => ?_⟩) (fun e => e.1.2.1 rfl) (fun e => e.1.2.2 rfl)).below hb
    rcases hO k e with e2 | e2
    · exact hf.2 e2
    · omega
  · rcases hO k hk with e | e
    · exact ⟨(h.blk k e).1, Nat.lt_of_lt_of_le (h.blk k e).2.1 hb.size, (h.blk k e).2.2⟩
    · exact ⟨by omega, e.2, by omega, by omega⟩
theorem Lw.below (h : Lw w0 w O c bf p x d) (hb : Below w.heap.size w w') : Lw w0 w' O c bf p x d := h.more hb fun _ => .inl
theorem Lw.fresh (h : Lw w0 w O c bf p x d) : ∀ k, w.heap.size ≤ k → Made w0.heap.size c bf k ∧ ¬ O k := fun k hk =>
  ⟨⟨Nat.le_trans h.size hk, by have := h.cd.lt.1; omega, by have := h.cd.lt.2; omega⟩, fun e => by have := (h.blk k e).2.1; omega⟩
/-- The footprint of both is apart from the law's own blocks. -/
theorem Lw.apart (h : Lw w0 w O c bf p x d) {g : Nat} (hg : O g) : ¬ Foot (fun k => Made w0.heap.size c bf k ∧ ¬ O k) c bf g := by
  rintro (e | e | e)
  · exact e.2 hg
  · exact (h.blk g hg).2.2.1 e
  · exact (h.blk g hg).2.2.2 e
/-- Behind a call that turned both alone. -/
theorem Lw.call (h : Lw w0 w O c bf p x d) (h1 : CD w' (fun k => Made w0.heap.size c bf k ∧ ¬ O k) c bf p y d') (ho : Only (Foot (fun k => Made w0.heap.size c bf k ∧ ¬ O k) c bf) w w') : Lw w0 w' O c bf p y d' := by
  refine ⟨h1, ?_, h.l1, h.l2, fun g hg => ⟨(h.blk g hg).1, Nat.lt_of_lt_of_le (h.blk g hg).2.1 ho.size, (h.blk g hg).2.2⟩⟩
  have := Only.low (b := w0.heap.size) (ho.mono (F' := Foot (Made w0.heap.size c bf) c bf) fun k _ hk => hk.elim (fun e => .inl e.1) .inr) h.l1 h.l2 h.size
  exact h.low.trans this
/-- A block of the law's own has turned, or a new one has taken its place. -/
theorem Lw.grown (h : Lw w0 w O c bf p x d) {row : Option Nat} (hg : w.grownBy w' row) (hrow : ∀ g, row = some g → O g) (hO : ∀ k, O' k → O k ∨ (w.heap.size ≤ k ∧ k < w'.heap.size)) : Lw w0 w' O' c bf p x d := by
  obtain ⟨bl, bm, S, D, hd⟩ := h.cd.dev
  have hl := h.cd.lt
  have hs := h.size
  have hd2 := hd.mono (F' := fun k => Made w0.heap.size c bf k ∧ ¬ O' k ∧ ¬ O k) fun k hk2 hf => ⟨hf.1, fun e => by
    rcases hO k e with e2 | e2
    · exact hf.2 e2
    · omega, hf.2⟩
  have hd3 := (hd2.keep fun k hk hf => hg.block k hk fun e => hf.2.2 (hrow k e.symm)).mono (F' := fun k => Made w0.heap.size c bf k ∧ ¬ O' k) fun k _ hf => ⟨hf.1, hf.2.1⟩
  refine ⟨⟨h.cd.cache.keep (hg.block c h.cd.lt.1 fun e => (h.blk c (hrow c e.symm)).2.2.1 rfl) (hg.block bf h.cd.lt.2 fun e => (h.blk bf (hrow bf e.symm)).2.2.2 rfl), ⟨bl, bm, S, D, hd3⟩, fun e => e.1.2.1 rfl, fun e => e.1.2.2 rfl⟩, h.low.grown hg h.size fun k hk => (h.blk k (hrow k hk)).1, h.l1, h.l2, fun k hk2 => ?_⟩
  rcases hO k hk2 with e | e
  · exact ⟨(h.blk k e).1, Nat.lt_of_lt_of_le (h.blk k e).2.1 hg.size, (h.blk k e).2.2⟩
  · exact ⟨by omega, e.2, by omega, by omega⟩
theorem Lw.lw_get (h : Lw w0 w O c bf p x d) (hr : x.Within d.L.length) (hn : d.n < 999999) (no : Int) :
    Calls Try.prog 25 #[at0 c, .int .i64 no] w fun e w' => ∃ v, e = .returned (.tuple #[v, .int .i64 (x.get d no).2.1]) ∧ Rd w' w'.heap.size v (cellsB (x.get d no).1) ∧ Lw w0 w' O c bf p (x.get d no).2.2.1 (x.get d no).2.2.2 ∧ (∀ g, O g → w'.heap[g]? = w.heap[g]?) ∧ w.heap.size ≤ w'.heap.size := by
  refine (get_any h.cd hr hn h.fresh no).mono ?_
  rintro e w' ⟨v, rfl, g1, g2, g3, g4⟩
  exact ⟨v, rfl, g1, h.call (g3.back h.cd.nc.1 h.cd.nc.2) g4, fun g hg => g4.block g (h.blk g hg).2.1 (h.apart hg), g4.size⟩
theorem Lw.lw_put (h : Lw w0 w O c bf p x d) (hr : x.Within d.L.length) (hn : d.n < 999999) (no : Int) (hb : Below w.heap.size w w1) {g : Nat} (hg : w.heap.size ≤ g) {l : List UInt8} (hl : l.length = 256) (hh : w1.heap[g]? = some (.cells (cellsB l).toArray 5 (0, 0))) :
    Calls Try.prog 22 #[at0 c, .int .i64 no, .slice (some ⟨g, 0, none⟩) 256 256] w1 fun e w' => e = .returned (.int .i64 (x.put d no l).1) ∧ Lw w0 w' O c bf p (x.put d no l).2.1 (x.put d no l).2.2 ∧ (∀ g, O g → w'.heap[g]? = w1.heap[g]?) ∧ w1.heap.size ≤ w'.heap.size := by
  have h1 := h.below hb
  have hlt := h.cd.lt
  have hgl := (Array.getElem?_eq_some_iff.1 hh).1
  have hfar := h.cd.far hb hg
  refine (put_any hfar hr hn (fun k hk => ⟨h1.fresh k hk, by omega⟩) no (cc := 256) hl (range_new hh) hgl (fun e => ?_)).mono ?_
  · rcases e with e | e | e
    · exact e.2 rfl
    · omega
    · omega
  · rintro e w' ⟨rfl, q1, q2⟩
    exact ⟨rfl, h1.call (q1.back h.cd.nc.1 h.cd.nc.2) q2.back, fun g' hg' => q2.block g' (h1.blk g' hg').2.1 (fun e => h1.apart hg' (e.elim (fun e => .inl e.1) .inr)), q2.size⟩
theorem Lw.lw_sync (h : Lw w0 w O c bf p x d) (hr : x.Within d.L.length) (hz : ∀ f ∈ x.L, f.dirty = true → f.full = true) (hn : d.n < 999900) :
    Calls Try.prog 24 #[at0 c] w fun e w' => e = .returned (.int .i64 (x.sync d).1) ∧ Lw w0 w' O c bf p (x.sync d).2.1 (x.sync d).2.2 ∧ (∀ g, O g → w'.heap[g]? = w.heap[g]?) ∧ w.heap.size ≤ w'.heap.size := by
  refine (sync_any h.cd hr hz hn h.fresh).mono ?_
  rintro e w' ⟨rfl, q1, q2⟩
  exact ⟨rfl, h.call q1 q2, fun g hg => q2.block g (h.blk g hg).2.1 (h.apart hg), q2.size⟩
theorem Lw.lw_pin (h : Lw w0 w O c bf p x d) (hp : ∀ i, (x.fr i).pins < 1000000) (no : Int) :
    Calls Try.prog 27 #[at0 c, .int .i64 no] w fun e w' => e = .returned (.bool (x.pin no).1) ∧ Lw w0 w' O c bf p (x.pin no).2 d ∧ (∀ g, O g → w'.heap[g]? = w.heap[g]?) ∧ w.heap.size ≤ w'.heap.size := by
  refine (cpin_any h.cd hp no).mono ?_
  rintro e w' ⟨rfl, q1, q2⟩
  exact ⟨rfl, h.call q1 q2, fun g hg => q2.block g (h.blk g hg).2.1 (h.apart hg), q2.size⟩
theorem Lw.made (w0 : World) {n k : Nat} (hk : 8 ≤ k ∧ k ≤ 64) {bl bm : Nat} {S : Nat → Value} {D : DataW Value} (hd : DevIs w (fun k => w0.heap.size ≤ k) p bl bm S D (Dev.new n)) (hb : Below w0.heap.size w0 w) :
    Calls Try.prog 9 #[at0 p, .int .i64 (k : Int)] w fun e w' => ∃ c bf, e = .returned (.tuple #[at0 c, .int .i64 0]) ∧ Lw w0 w' (fun _ => False) c bf p (Cch.new k) (Dev.new n) := by
  refine (cnew_ok p (n := k) w hk).mono ?_
  rintro e w' ⟨rfl, hc, hb1⟩
  have hs := hb.size
  have h1 := CD.start hd hc hb1 (by omega) (Nat.le_refl _)
  exact ⟨_, _, rfl, ⟨h1.mono (fun k _ hk => ⟨hk, id⟩) (fun e => e.1.2.1 rfl) (fun e => e.1.2.2 rfl), up hb hb1, by omega, by omega, fun g e => e.elim⟩⟩
theorem dirty_full {n : Nat} (h : x.Ok n) : ∀ f ∈ x.L, f.dirty = true → f.full = true := by
  intro f hf hd
  obtain ⟨i, hi, rfl⟩ := List.mem_iff_getElem.1 hf
  rcases hq : x.L[i].full with _ | _
  · have := h.zero i hi (by unfold Cch.fr; rw [getD_at hi]; exact hq)
    unfold Cch.fr at this
    rw [getD_at hi] at this
    rw [this] at hd
    cases hd
  · rfl
/-- What the call owns lies in a block that nothing has touched. -/
theorem Mine.same {base : Nat} {e : TypeId} {v : Value} {xs : List Value} (h : Mine w base e v xs) (hk : ∀ g, v.ownBlock = some g → w'.heap[g]? = w.heap[g]?) : Mine w' base e v xs := by
  refine ⟨h.1, ?_⟩
  rcases h.2 with ⟨rfl, hn⟩ | ⟨g, cap, cur, rfl, hbg, hg, hnc, hcm, hcs, htake⟩
  · exact .inl ⟨rfl, hn⟩
  · exact .inr ⟨g, cap, cur, rfl, hbg, (hk g rfl).trans hg, hnc, hcm, hcs, htake⟩
end
end Go.Proofs.Ytfjcblppmoomdaa
