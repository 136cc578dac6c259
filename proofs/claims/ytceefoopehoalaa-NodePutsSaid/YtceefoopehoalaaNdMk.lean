/-
  A node that is being made in memory: its block, its rows, and append onto them.
-/
import Derived.Test.YtceefoopehoalaaNdF
import Derived.Test.YtceefoopehoalaaLate
namespace Go.Proofs.Ytceefoopehoalaa
open Go.RowKit
/-- u has the text l; it lies below B0, or from base on in a block of bytes. -/
def Txt (w : World) (B0 base : Nat) (u : Value) (l : List UInt8) : Prop :=
  ∃ A c, u = .slice A l.length c ∧ l.length ≤ c ∧ c ≤ maxLen ∧ (A = none → c = 0) ∧
    (0 < l.length → ∃ b o, A = some ⟨b, o, none⟩ ∧ b < w.heap.size ∧ (b < B0 ∨ base ≤ b ∧ ∃ cur m, w.heap[b]? = some (.cells cur 5 m)) ∧ ∀ j u, (cellsB l)[j]? = some u → w.cell? ⟨b, o + j, none⟩ = some u)
/-- Between two worlds nothing below B0, or from base on, turned, but block g. -/
structure Fr (B0 base : Nat) (g : Option Nat) (w w' : World) : Prop where
  size : w.heap.size ≤ w'.heap.size
  keep : ∀ k, k < w.heap.size → (k < B0 ∨ base ≤ k) → g ≠ some k → w'.heap[k]? = w.heap[k]?
/-- A row's block, not of bytes. -/
def RowB (w : World) (base : Nat) (g : Option Nat) : Prop := ∀ k, g = some k → base ≤ k ∧ ∃ cur t m, w.heap[k]? = some (.cells cur t m) ∧ t ≠ 5
theorem RowB.none (w : World) (base : Nat) : RowB w base none := fun _ h => by cases h
section
variable {w w' : World} {B B0 base p : Nat} {g : Option Nat} {u v x : Value} {l : List UInt8} {ls ms : List (List UInt8)} {e : TypeId} {xs : List Value}
theorem Mine.rowB (h : Mine w base e v xs) (he : e ≠ 5) : RowB w base v.ownBlock := fun k hk => by
  rcases h.2 with ⟨rfl, _⟩ | ⟨g, cap, cur, rfl, hbg, hg, _⟩
  · cases hk
  · have : g = k := by simpa [Value.ownBlock] using hk
    subst this
    exact ⟨hbg, _, _, _, hg, he⟩
theorem Mine.frK (h : Mine w base e v xs) (hf : Fr B0 base g w w') (hne : ∀ k, v.ownBlock = some k → g ≠ some k) : Mine w' base e v xs := by
  have hlt := h.block
  refine ⟨h.1, ?_⟩
  rcases h.2 with h1 | ⟨r, cap, cur, rfl, hbg, hg, h3⟩
  · exact .inl h1
  · exact .inr ⟨r, cap, cur, rfl, hbg, (hf.keep r (hlt r rfl).2 (.inr hbg) (hne r rfl)).trans hg, h3⟩
theorem Txt.rd (h : Txt w B0 base u l) : Rd w w.heap.size u (cellsB l) := by
  obtain ⟨A, c, rfl, h1, h2, h3, h4⟩ := h
  refine ⟨A, c, by rw [cellsB_length], by rw [cellsB_length]; exact h1, h2, h3, fun hp => ?_⟩
  obtain ⟨b, o, rfl, hb, _, hc⟩ := h4 (by rwa [cellsB_length] at hp)
  exact ⟨b, o, rfl, hb, hc⟩
theorem Txt.one (h : Txt w B0 base u l) : u.oneCell' = true := by obtain ⟨A, c, rfl, _⟩ := h; rfl
theorem Txt.keep (h : Txt w B0 base u l) (hf : Fr B0 base g w w') (hg : RowB w base g) (hB : B0 ≤ base) : Txt w' B0 base u l := by
  obtain ⟨A, c, rfl, h1, h2, h3, h4⟩ := h
  refine ⟨A, c, rfl, h1, h2, h3, fun hp => ?_⟩
  obtain ⟨b, o, rfl, hb, hw, hc⟩ := h4 hp
  have hne : g ≠ some b := fun e => by
    obtain ⟨q1, cur, t, m, q2, q3⟩ := hg b e
    rcases hw with h | ⟨_, cur', m', h⟩
    · omega
    · rw [q2] at h
      injection h with h
      injection h with _ h
      exact q3 h
  have hk := hf.keep b hb (hw.imp id fun h => h.1) hne
  refine ⟨b, o, rfl, Nat.lt_of_lt_of_le hb hf.size, hw.imp id fun ⟨a, cur, m, h⟩ => ⟨a, cur, m, hk.trans h⟩, fun j u hu => (World.cell?_of_block (w := w) (a := ⟨b, o + j, Option.none⟩) hk).trans (hc j u hu)⟩
/-- What a call has made. -/
theorem Mine.txt {b1 : Nat} (h : Mine w b1 5 v (cellsB l)) (hb : base ≤ b1) : Txt w B0 base v l := by
  rcases h.2 with ⟨rfl, hn⟩ | ⟨g, cap, cur, rfl, hbg, hg, hnc, hcm, hcs, htake⟩
  · rw [cellsB_length] at hn
    have : l = [] := List.eq_nil_of_length_eq_zero hn
    subst this
    exact ⟨Option.none, 0, rfl, Nat.le_refl _, Nat.zero_le _, fun _ => rfl, fun h => absurd h (by simp)⟩
  · refine ⟨_, _, by rw [cellsB_length], by rw [cellsB_length] at hnc; exact hnc, hcm, (fun h => by cases h), fun _ => ⟨g, 0, rfl, (World.ownsRow.lt h g rfl).2, .inr ⟨by omega, _, _, hg⟩, fun j u hu => ?_⟩⟩
    have := World.ownsRow.cells h (g := g) rfl j u hu
    simpa [Addr.add_lit] using this
/-- What was there. -/
theorem Rd.txt (h : Rd w B u (cellsB l)) (hB : B ≤ B0) (hw : B0 ≤ w.heap.size) : Txt w B0 base u l := by
  obtain ⟨A, c, e, h1, h2, h3, h4⟩ := h
  rw [cellsB_length] at *
  subst e
  refine ⟨A, c, rfl, h1, h2, h3, fun hp => ?_⟩
  obtain ⟨b, o, rfl, hb, hc⟩ := h4 hp
  exact ⟨b, o, rfl, by omega, .inl (by omega), hc⟩
/-- A row of the call's own, of such texts. -/
def OwnT (w : World) (B0 base : Nat) (v : Value) (ls : List (List UInt8)) : Prop :=
  ∃ vs, Mine w base 22 v vs ∧ vs.length = ls.length ∧ ∀ (k : Nat) (u : Value) (l : List UInt8), vs[k]? = some u → ls[k]? = some l → Txt w B0 base u l
/-- A slice that has such texts. -/
def RdT (w : World) (B0 base : Nat) (x : Value) (ms : List (List UInt8)) : Prop :=
  ∃ vs, Rd w w.heap.size x vs ∧ vs.length = ms.length ∧ ∀ (k : Nat) (u : Value) (l : List UInt8), vs[k]? = some u → ms[k]? = some l → Txt w B0 base u l
theorem OwnT.nil (w : World) (B0 base : Nat) : OwnT w B0 base (.slice Option.none 0 0) [] := ⟨[], Mine.nil w base _, rfl, fun k u l h => by simp at h⟩
theorem OwnT.rd (h : OwnT w B0 base v ls) : RdAll w w.heap.size v ls := by
  obtain ⟨vs, h1, h2, h3⟩ := h
  exact ⟨vs, h1.rd, h2, fun k u l a b => (h3 k u l a b).rd⟩
theorem OwnT.block (h : OwnT w B0 base v ls) : ∀ k, v.ownBlock = some k → base ≤ k ∧ k < w.heap.size := by
  obtain ⟨vs, h1, _⟩ := h
  exact h1.block
theorem OwnT.rowB (h : OwnT w B0 base v ls) : RowB w base v.ownBlock := by
  obtain ⟨vs, h1, _⟩ := h
  exact h1.rowB (by decide)
theorem OwnT.keep (h : OwnT w B0 base v ls) (hf : Fr B0 base g w w') (hg : RowB w base g) (hB : B0 ≤ base) (hne : ∀ k, v.ownBlock = some k → g ≠ some k) : OwnT w' B0 base v ls := by
  obtain ⟨vs, h1, h2, h3⟩ := h
  exact ⟨vs, h1.frK hf hne, h2, fun k u l a b => (h3 k u l a b).keep hf hg hB⟩
theorem RdAll.rdT (h : RdAll w B x ms) (hB : B ≤ B0) (hw : B0 ≤ w.heap.size) : RdT w B0 base x ms := by
  obtain ⟨vs, h1, h2, h3⟩ := h
  exact ⟨vs, h1.more (by omega), h2, fun k u l a b => (h3 k u l a b).txt hB hw⟩
theorem Fr.alloc (w : World) (o : Obj) : Fr B0 base Option.none w (w.alloc o) := ⟨by simp, fun k hk _ _ => heap_alloc_old w o hk⟩
theorem Fr.below (h : Below w.heap.size w w') : Fr B0 base Option.none w w' := ⟨h.size, fun k hk _ _ => h.block k hk⟩
theorem Fr.grown (h : w.grownBy w' g) : Fr B0 base g w w' := ⟨h.size, fun k hk _ hn => h.block k hk fun e => hn e.symm⟩
theorem Fr.inner {q : Nat} (h : w.grownBy w' (some q)) (h1 : B0 ≤ q) (h2 : q < base) : Fr B0 base Option.none w w' := ⟨h.size, fun k hk h3 _ => h.block k hk fun e => by injection e with e; omega⟩
theorem Fr.set (h1 : B0 ≤ p) (h2 : p < base) (j : Nat) (u : Value) : Fr B0 base Option.none w (w.setCell ⟨p, j, Option.none⟩ u) :=
  ⟨by simp, fun k _ h3 _ => heap_setCell_other w _ k u (show k ≠ p by omega)⟩
theorem RdT.lit1 (h : Txt w B0 base u l) (hB : B0 ≤ base) (e : TypeId) : RdT (w.alloc (.cells #[u] e)) B0 base (.slice (some ⟨w.heap.size, 0, Option.none⟩) 1 1) [l] := by
  refine ⟨[u], ⟨_, _, rfl, Nat.le_refl _, by unfold maxLen; simp, (fun h => by cases h), fun _ => ⟨w.heap.size, 0, rfl, by simp, fun j v hv => ?_⟩⟩, rfl, fun k v m a b => ?_⟩
  · rw [Nat.zero_add, World.cell?_alloc_mark]
    simpa using hv
  · match k, a, b with
    | 0, a, b => simp at a b; subst a b; exact h.keep (Fr.alloc w _) (RowB.none _ _) hB
/-- append onto such a row. -/
theorem OwnT.append (h : OwnT w B0 base v ls) (hx : RdT w B0 base x ms) (hs : ls.length + ms.length ≤ 1000000000) (hb : base ≤ w.heap.size) (hB : B0 ≤ base) :
    ∃ A n c w', (Builtin.append_ #[24, 24] 24 #[v, x]).run Try.prog w = .ok (.slice A n c) w' ∧ OwnT w' B0 base (.slice A n c) (ls ++ ms) ∧ w.grownBy w' v.ownBlock ∧ Below base w w' ∧ ((Value.slice A n c).ownBlock = v.ownBlock ∨ (Value.slice A n c).ownBlock = some w.heap.size) := by
  obtain ⟨i, hi, hz0, hz1, hz2⟩ := info_parts info_row
  obtain ⟨vs, h1, h2, h3⟩ := h
  obtain ⟨news, g1, g2, g3⟩ := hx
  obtain ⟨v', w', hrun, hm, hgr, hob⟩ := run_append_rd (P := Try.prog) (w := w) base 24 24 22 i _ 24 Try.underlying24 hi hz0 hz1 hz2 rfl v vs h1 w.heap.size x news g1 (fun u hu => by
    obtain ⟨k, hk, rfl⟩ := List.getElem_of_mem hu
    exact (g3 k _ (ms[k]'(by omega)) (List.getElem?_eq_getElem hk) (List.getElem?_eq_getElem (by omega))).one) (by omega) (by unfold maxLen; omega) hb
  obtain ⟨A, c, rfl⟩ := hm.form
  have hrow := h1.rowB (by decide : (22 : TypeId) ≠ 5)
  have hf : Fr B0 base v.ownBlock w w' := Fr.grown hgr
  refine ⟨A, _, c, w', hrun, ⟨vs ++ news, hm, by rw [List.length_append, List.length_append, h2, g2], fun k u l a b => ?_⟩, hgr, (Below.refl _ _).grown hgr hb fun k hk => (h1.block k hk).1, hob⟩
  by_cases hk : k < vs.length
  · rw [List.getElem?_append_left hk] at a
    rw [List.getElem?_append_left (by omega)] at b
    exact (h3 k u l a b).keep hf hrow hB
  · rw [List.getElem?_append_right (by omega)] at a
    rw [List.getElem?_append_right (by omega), ← h2] at b
    exact (g3 _ u l a b).keep hf hrow hB
end
theorem info_int : (Try.prog.info? 3).map (fun i => (i.zero, i.size, i.bytes)) = some (some (.int .i64 0), 1, 8) := by kernel_rfl
/-- A node that is being made: what its block p holds (t..), and the rows at hand (u..). -/
structure NdMk (w : World) (B0 base p : Nat) (lf : Bool) (tK tV tD uK uV uD : Value) (ks vs : List (List UInt8)) (ds : List Int) : Prop where
  top : w.heap[p]? = some (.cells #[.bool lf, tK, tV, tD] 27 (0, 0))
  rK : OwnT w B0 base uK ks
  rV : OwnT w B0 base uV vs
  rD : Mine w base 3 uD (cellsI ds)
  kv : ∀ k, uK.ownBlock = some k → uV.ownBlock ≠ some k
  lo : B0 ≤ p
  hi : p < base
  le : base ≤ w.heap.size
section
variable {w w' : World} {B0 base p : Nat} {lf : Bool} {tK tV tD uK uV uD x u : Value} {ks vs ms : List (List UInt8)} {ds es : List Int} {l : List UInt8}
theorem NdMk.c0 (h : NdMk w B0 base p lf tK tV tD uK uV uD ks vs ds) : w.cell? ⟨p, 0, none⟩ = some (.bool lf) := by rw [cell_of_row w p 0 _ _ (0, 0) h.top]; rfl
theorem NdMk.c1 (h : NdMk w B0 base p lf tK tV tD uK uV uD ks vs ds) : w.cell? ⟨p, 1, none⟩ = some tK := by rw [cell_of_row w p 1 _ _ (0, 0) h.top]; rfl
theorem NdMk.c2 (h : NdMk w B0 base p lf tK tV tD uK uV uD ks vs ds) : w.cell? ⟨p, 2, none⟩ = some tV := by rw [cell_of_row w p 2 _ _ (0, 0) h.top]; rfl
theorem NdMk.c3 (h : NdMk w B0 base p lf tK tV tD uK uV uD ks vs ds) : w.cell? ⟨p, 3, none⟩ = some tD := by rw [cell_of_row w p 3 _ _ (0, 0) h.top]; rfl
theorem NdMk.fz (h : NdMk w B0 base p lf tK tV tD uK uV uD ks vs ds) (j : Nat) : w.frozen? ⟨p, j, none⟩ = false := frozen_of_row w p j _ _ h.top
theorem NdMk.box (h : NdMk w B0 base p lf tK tV tD uK uV uD ks vs ds) : NdBox w p lf tK tV tD := ⟨h.c0, h.c1, h.c2, h.c3⟩
theorem NdMk.keep (h : NdMk w B0 base p lf tK tV tD uK uV uD ks vs ds) (hf : Fr B0 base none w w') (ht : w'.heap[p]? = w.heap[p]?) : NdMk w' B0 base p lf tK tV tD uK uV uD ks vs ds :=
  have hB : B0 ≤ base := by have := h.lo; have := h.hi; omega
  ⟨ht.trans h.top, h.rK.keep hf (RowB.none _ _) hB (fun _ _ e => by cases e), h.rV.keep hf (RowB.none _ _) hB (fun _ _ e => by cases e), h.rD.frK hf (fun _ _ e => by cases e), h.kv, h.lo, h.hi, Nat.le_trans h.le hf.size⟩
theorem NdMk.lt (h : NdMk w B0 base p lf tK tV tD uK uV uD ks vs ds) : p < w.heap.size := (Array.getElem?_eq_some_iff.1 h.top).1
theorem NdMk.kept (h : NdMk w B0 base p lf tK tV tD uK uV uD ks vs ds) (hb : Below w.heap.size w w') : NdMk w' B0 base p lf tK tV tD uK uV uD ks vs ds := h.keep (Fr.below hb) (hb.block p h.lt)
theorem NdMk.inner (h : NdMk w B0 base p lf tK tV tD uK uV uD ks vs ds) {q : Nat} (hb : w.grownBy w' (some q)) (h1 : B0 ≤ q) (h2 : q < base) (h3 : q ≠ p) : NdMk w' B0 base p lf tK tV tD uK uV uD ks vs ds :=
  h.keep (Fr.inner hb h1 h2) (hb.block p h.lt fun e => by injection e with e; exact h3 e.symm)
theorem NdMk.alloc (h : NdMk w B0 base p lf tK tV tD uK uV uD ks vs ds) (o : Obj) : NdMk (w.alloc o) B0 base p lf tK tV tD uK uV uD ks vs ds := h.kept ((Below.refl _ _).alloc (Nat.le_refl _) o)
theorem NdMk.drew (h : NdMk w B0 base p lf tK tV tD uK uV uD ks vs ds) : NdMk w.drew B0 base p lf tK tV tD uK uV uD ks vs ds := h.kept ((Below.refl _ _).drew)
theorem NdMk.leB (h : NdMk w B0 base p lf tK tV tD uK uV uD ks vs ds) : B0 ≤ base := by have := h.lo; have := h.hi; omega
/-- append onto the keys. -/
theorem NdMk.appK (h : NdMk w B0 base p lf tK tV tD uK uV uD ks vs ds) (hx : RdT w B0 base x ms) (hs : ks.length + ms.length ≤ 1000000000) :
    ∃ A n c w', (Builtin.append_ #[24, 24] 24 #[uK, x]).run Try.prog w = .ok (.slice A n c) w' ∧ NdMk w' B0 base p lf tK tV tD (.slice A n c) uV uD (ks ++ ms) vs ds ∧ Below base w w' ∧ w.grownBy w' uK.ownBlock := by
  obtain ⟨A, n, c, w', hrun, ho, hg, hb, hv⟩ := h.rK.append hx hs h.le h.leB
  refine ⟨A, n, c, w', hrun, ⟨(hb.block p h.hi).trans h.top, ho, h.rV.keep (Fr.grown hg) h.rK.rowB h.leB fun k h1 h2 => h.kv k h2 h1, h.rD.frK (B0 := B0) (Fr.grown hg) fun k h1 h2 => ?_, fun k h1 h2 => ?_, h.lo, h.hi, Nat.le_trans h.le hb.size⟩, hb, hg⟩
  · obtain ⟨ws, hm, _⟩ := h.rK
    rcases hm.apart h.rD (by decide) with e | e
    · rw [e] at h2; cases h2
    · exact e (h2.trans h1.symm)
  · rcases hv with e | e
    · exact h.kv k (e ▸ h1) h2
    · rw [e] at h1
      injection h1 with h1
      have := (h.rV.block k h2).2
      omega
theorem NdMk.appV (h : NdMk w B0 base p lf tK tV tD uK uV uD ks vs ds) (hx : RdT w B0 base x ms) (hs : vs.length + ms.length ≤ 1000000000) :
    ∃ A n c w', (Builtin.append_ #[24, 24] 24 #[uV, x]).run Try.prog w = .ok (.slice A n c) w' ∧ NdMk w' B0 base p lf tK tV tD uK (.slice A n c) uD ks (vs ++ ms) ds ∧ Below base w w' ∧ w.grownBy w' uV.ownBlock := by
  obtain ⟨A, n, c, w', hrun, ho, hg, hb, hv⟩ := h.rV.append hx hs h.le h.leB
  refine ⟨A, n, c, w', hrun, ⟨(hb.block p h.hi).trans h.top, h.rK.keep (Fr.grown hg) h.rV.rowB h.leB fun k h1 h2 => h.kv k h1 h2, ho, h.rD.frK (B0 := B0) (Fr.grown hg) fun k h1 h2 => ?_, fun k h1 h2 => ?_, h.lo, h.hi, Nat.le_trans h.le hb.size⟩, hb, hg⟩
  · obtain ⟨ws, hm, _⟩ := h.rV
    rcases hm.apart h.rD (by decide) with e | e
    · rw [e] at h2; cases h2
    · exact e (h2.trans h1.symm)
  · rcases hv with e | e
    · exact h.kv k h1 (e ▸ h2)
    · rw [e] at h2
      injection h2 with h2
      have := (h.rK.block k h1).2
      omega
theorem NdMk.appD (h : NdMk w B0 base p lf tK tV tD uK uV uD ks vs ds) (hx : Rd w w.heap.size x (cellsI es)) (hs : ds.length + es.length ≤ 1000000000) :
    ∃ A n c w', (Builtin.append_ #[25, 25] 25 #[uD, x]).run Try.prog w = .ok (.slice A n c) w' ∧ NdMk w' B0 base p lf tK tV tD uK uV (.slice A n c) ks vs (ds ++ es) ∧ Below base w w' ∧ w.grownBy w' uD.ownBlock := by
  obtain ⟨i, hi, hz0, hz1, hz2⟩ := info_parts info_int
  obtain ⟨v', w', hrun, hm, hgr, hob⟩ := run_append_rd (P := Try.prog) (w := w) base 25 25 3 i _ 8 Try.underlying25 hi hz0 hz1 hz2 rfl uD (cellsI ds) h.rD w.heap.size x (cellsI es) hx (cellsI_one _) (by rw [cellsI_length, cellsI_length]; omega) (by unfold maxLen; rw [cellsI_length, cellsI_length]; omega) h.le
  rw [← cellsI_append] at hm
  obtain ⟨A, c, rfl⟩ := hm.form
  have hrow := h.rD.rowB (by decide : (3 : TypeId) ≠ 5)
  have hb : Below base w w' := (Below.refl _ _).grown hgr h.le fun k hk => (h.rD.block k hk).1
  refine ⟨A, _, c, w', hrun, ⟨(hb.block p h.hi).trans h.top, h.rK.keep (Fr.grown hgr) hrow h.leB fun k h1 h2 => ?_, h.rV.keep (Fr.grown hgr) hrow h.leB fun k h1 h2 => ?_, hm, h.kv, h.lo, h.hi, Nat.le_trans h.le hb.size⟩, hb, hgr⟩
  · obtain ⟨ws, hm, _⟩ := h.rK
    rcases hm.apart h.rD (by decide) with e | e
    · rw [e] at h1; cases h1
    · exact e (h1.trans h2.symm)
  · obtain ⟨ws, hm, _⟩ := h.rV
    rcases hm.apart h.rD (by decide) with e | e
    · rw [e] at h1; cases h1
    · exact e (h1.trans h2.symm)
theorem NdMk.setK (h : NdMk w B0 base p lf tK tV tD uK uV uD ks vs ds) : NdMk (w.setCell ⟨p, 1, none⟩ uK) B0 base p lf uK tV tD uK uV uD ks vs ds := by
  have hf : Fr B0 base none w (w.setCell ⟨p, 1, none⟩ uK) := Fr.set h.lo h.hi 1 uK
  have hB := h.leB
  exact ⟨heap_setCell_same w p 1 _ _ uK h.top, h.rK.keep hf (RowB.none _ _) hB (fun _ _ e => by cases e), h.rV.keep hf (RowB.none _ _) hB (fun _ _ e => by cases e), h.rD.frK hf (fun _ _ e => by cases e), h.kv, h.lo, h.hi, Nat.le_trans h.le hf.size⟩
theorem NdMk.setV (h : NdMk w B0 base p lf tK tV tD uK uV uD ks vs ds) : NdMk (w.setCell ⟨p, 2, none⟩ uV) B0 base p lf tK uV tD uK uV uD ks vs ds := by
  have hf : Fr B0 base none w (w.setCell ⟨p, 2, none⟩ uV) := Fr.set h.lo h.hi 2 uV
  have hB := h.leB
  exact ⟨heap_setCell_same w p 2 _ _ uV h.top, h.rK.keep hf (RowB.none _ _) hB (fun _ _ e => by cases e), h.rV.keep hf (RowB.none _ _) hB (fun _ _ e => by cases e), h.rD.frK hf (fun _ _ e => by cases e), h.kv, h.lo, h.hi, Nat.le_trans h.le hf.size⟩
theorem NdMk.setD (h : NdMk w B0 base p lf tK tV tD uK uV uD ks vs ds) : NdMk (w.setCell ⟨p, 3, none⟩ uD) B0 base p lf tK tV uD uK uV uD ks vs ds := by
  have hf : Fr B0 base none w (w.setCell ⟨p, 3, none⟩ uD) := Fr.set h.lo h.hi 3 uD
  have hB := h.leB
  exact ⟨heap_setCell_same w p 3 _ _ uD h.top, h.rK.keep hf (RowB.none _ _) hB (fun _ _ e => by cases e), h.rV.keep hf (RowB.none _ _) hB (fun _ _ e => by cases e), h.rD.frK hf (fun _ _ e => by cases e), h.kv, h.lo, h.hi, Nat.le_trans h.le hf.size⟩
theorem NdMk.is (h : NdMk w B0 base p lf tK tV tD uK uV uD ks vs ds) : NdIs w w.heap.size uK uV uD ⟨lf, ks, vs, ds⟩ := ⟨h.rK.rd, h.rV.rd, h.rD.rd⟩
/-- One key more: the literal, and append. -/
theorem NdMk.appK1 (h : NdMk w B0 base p lf tK tV tD uK uV uD ks vs ds) (hu : Txt w B0 base u l) (hs : ks.length ≤ 100000) :
    ∃ A n c w', (Builtin.append_ #[24, 24] 24 #[uK, .slice (some ⟨w.heap.size, 0, none⟩) 1 1]).run Try.prog (w.alloc (.cells #[u] 22)) = .ok (.slice A n c) w' ∧ NdMk w' B0 base p lf tK tV tD (.slice A n c) uV uD (ks ++ [l]) vs ds ∧ Below base w w' := by
  obtain ⟨A, n, c, w', hrun, hn, hb, _⟩ := (h.alloc (.cells #[u] 22)).appK (RdT.lit1 hu h.leB _) (by simp; omega)
  exact ⟨A, n, c, w', hrun, hn, ((Below.refl _ _).alloc h.le _).trans hb⟩
theorem NdMk.appV1 (h : NdMk w B0 base p lf tK tV tD uK uV uD ks vs ds) (hu : Txt w B0 base u l) (hs : vs.length ≤ 100000) :
    ∃ A n c w', (Builtin.append_ #[24, 24] 24 #[uV, .slice (some ⟨w.heap.size, 0, none⟩) 1 1]).run Try.prog (w.alloc (.cells #[u] 22)) = .ok (.slice A n c) w' ∧ NdMk w' B0 base p lf tK tV tD uK (.slice A n c) uD ks (vs ++ [l]) ds ∧ Below base w w' := by
  obtain ⟨A, n, c, w', hrun, hn, hb, _⟩ := (h.alloc (.cells #[u] 22)).appV (RdT.lit1 hu h.leB _) (by simp; omega)
  exact ⟨A, n, c, w', hrun, hn, ((Below.refl _ _).alloc h.le _).trans hb⟩
theorem NdMk.appD1 (h : NdMk w B0 base p lf tK tV tD uK uV uD ks vs ds) (i : Int) (hs : ds.length ≤ 100000) :
    ∃ A n c w', (Builtin.append_ #[25, 25] 25 #[uD, .slice (some ⟨w.heap.size, 0, none⟩) 1 1]).run Try.prog (w.alloc (.cells #[.int .i64 i] 3)) = .ok (.slice A n c) w' ∧ NdMk w' B0 base p lf tK tV tD uK uV (.slice A n c) ks vs (ds ++ [i]) ∧ Below base w w' := by
  obtain ⟨A, n, c, w', hrun, hn, hb, _⟩ := (h.alloc (.cells #[.int .i64 i] 3)).appD (es := [i]) (x := .slice (some ⟨w.heap.size, 0, none⟩) 1 1) ⟨_, _, rfl, Nat.le_refl _, by unfold maxLen; simp, (fun h => by cases h), fun _ => ⟨w.heap.size, 0, rfl, by simp, fun j v hv => by
    rw [Nat.zero_add, World.cell?_alloc_mark]
    simpa [cellsI] using hv⟩⟩ (by simp; omega)
  exact ⟨A, n, c, w', hrun, hn, ((Below.refl _ _).alloc h.le _).trans hb⟩
end
/-- A node that is new: all its rows and texts lie from base on. -/
structure NdNew (w : World) (base : Nat) (K V D : Value) (n : Nd) : Prop where
  keys : OwnT w 0 base K n.keys
  vals : OwnT w 0 base V n.vals
  kids : Mine w base 3 D (cellsI n.kids)
/-- What is stored where a node is handed back. -/
def store4 (w : World) (N : Nat) (lf : Bool) (K V D : Value) : World := (((w.setCell ⟨N, 0, none⟩ (.bool lf)).setCell ⟨N, 1, none⟩ K).setCell ⟨N, 2, none⟩ V).setCell ⟨N, 3, none⟩ D
section
variable {w w' : World} {base b1 N : Nat} {K V D K' V' D' a0 a1 a2 a3 : Value} {n : Nd} {lf : Bool}
theorem NdNew.is (h : NdNew w base K V D n) : NdIs w w.heap.size K V D n := ⟨h.keys.rd, h.vals.rd, h.kids.rd⟩
theorem NdNew.keep (h : NdNew w base K V D n) (hf : Fr 0 base none w w') : NdNew w' base K V D n :=
  ⟨h.keys.keep hf (RowB.none _ _) (Nat.zero_le _) (fun _ _ e => by cases e), h.vals.keep hf (RowB.none _ _) (Nat.zero_le _) (fun _ _ e => by cases e), h.kids.frK hf (fun _ _ e => by cases e)⟩
theorem NdNew.kept (h : NdNew w base K V D n) (hb : Below w.heap.size w w') : NdNew w' base K V D n := h.keep (Fr.below hb)
theorem NdMk.new {B0 p : Nat} {tK tV tD uK uV uD : Value} {ks vs : List (List UInt8)} {ds : List Int} (h : NdMk w B0 base p lf tK tV tD uK uV uD ks vs ds) (h0 : B0 = 0) : NdNew w base uK uV uD ⟨lf, ks, vs, ds⟩ := by
  subst h0
  exact ⟨h.rK, h.rV, h.rD⟩
theorem Txt.weaken {B0 : Nat} {u : Value} {l : List UInt8} (h : Txt w B0 base u l) (hb : b1 ≤ base) : Txt w B0 b1 u l := by
  obtain ⟨A, c, rfl, h1, h2, h3, h4⟩ := h
  refine ⟨A, c, rfl, h1, h2, h3, fun hp => ?_⟩
  obtain ⟨b, o, e, hb2, hw, hc⟩ := h4 hp
  exact ⟨b, o, e, hb2, hw.imp id fun ⟨a, x⟩ => ⟨Nat.le_trans hb a, x⟩, hc⟩
theorem OwnT.weaken {B0 : Nat} {v : Value} {ls : List (List UInt8)} (h : OwnT w B0 base v ls) (hb : b1 ≤ base) : OwnT w B0 b1 v ls := by
  obtain ⟨vs, h1, h2, h3⟩ := h
  exact ⟨vs, h1.weaken hb, h2, fun k u l a b => (h3 k u l a b).weaken hb⟩
theorem NdNew.weaken (h : NdNew w base K V D n) (hb : b1 ≤ base) : NdNew w b1 K V D n := ⟨h.keys.weaken hb, h.vals.weaken hb, h.kids.weaken hb⟩
theorem store4_top (hg : w.heap[N]? = some (.cells #[a0, a1, a2, a3] 27 (0, 0))) : (store4 w N lf K V D).heap[N]? = some (.cells #[.bool lf, K, V, D] 27 (0, 0)) := by
  have h1 := heap_setCell_same w N 0 _ _ (.bool lf) hg
  have h2 := heap_setCell_same _ N 1 _ _ K h1
  have h3 := heap_setCell_same _ N 2 _ _ V h2
  exact heap_setCell_same _ N 3 _ _ D h3
theorem store4_size : (store4 w N lf K V D).heap.size = w.heap.size := by simp [store4]
theorem store4_other {k : Nat} (h : k ≠ N) : (store4 w N lf K V D).heap[k]? = w.heap[k]? := by
  unfold store4
  rw [heap_setCell_other _ _ k _ (show k ≠ N from h), heap_setCell_other _ _ k _ (show k ≠ N from h), heap_setCell_other _ _ k _ (show k ≠ N from h), heap_setCell_other _ _ k _ (show k ≠ N from h)]
theorem store4_below {B : Nat} (hN : B ≤ N) : Below B w (store4 w N lf K V D) :=
  ((((Below.refl B w).setCell (p := ⟨N, 0, none⟩) hN _).setCell (p := ⟨N, 1, none⟩) hN _).setCell (p := ⟨N, 2, none⟩) hN _).setCell (p := ⟨N, 3, none⟩) hN _
theorem NdNew.store4 (h : NdNew w base K' V' D' n) (hN : N < base) : NdNew (store4 w N lf K V D) base K' V' D' n :=
  h.keep ⟨Nat.le_of_eq store4_size.symm, fun _ _ h2 _ => store4_other (by omega)⟩
theorem box_of_top (hg : w.heap[N]? = some (.cells #[.bool lf, K, V, D] 27 (0, 0))) : NdBox w N lf K V D :=
  ⟨by rw [cell_of_row w N 0 _ _ (0, 0) hg]; rfl, by rw [cell_of_row w N 1 _ _ (0, 0) hg]; rfl, by rw [cell_of_row w N 2 _ _ (0, 0) hg]; rfl, by rw [cell_of_row w N 3 _ _ (0, 0) hg]; rfl⟩
/-- The cells of a block where a node is handed back: what they hold, and that they may be written. -/
theorem out_cells (hg : w.heap[N]? = some (.cells #[a0, a1, a2, a3] 27 (0, 0))) : w.cell? ⟨N, 0, none⟩ = some a0 ∧ w.cell? ⟨N, 1, none⟩ = some a1 ∧ w.cell? ⟨N, 2, none⟩ = some a2 ∧ w.cell? ⟨N, 3, none⟩ = some a3 ∧
    w.frozen? ⟨N, 0, none⟩ = false ∧ w.frozen? ⟨N, 1, none⟩ = false ∧ w.frozen? ⟨N, 2, none⟩ = false ∧ w.frozen? ⟨N, 3, none⟩ = false :=
  ⟨by rw [cell_of_row w N 0 _ _ (0, 0) hg]; rfl, by rw [cell_of_row w N 1 _ _ (0, 0) hg]; rfl, by rw [cell_of_row w N 2 _ _ (0, 0) hg]; rfl, by rw [cell_of_row w N 3 _ _ (0, 0) hg]; rfl, frozen_of_row w N 0 _ _ hg, frozen_of_row w N 1 _ _ hg, frozen_of_row w N 2 _ _ hg, frozen_of_row w N 3 _ _ hg⟩
/-- A node's lists are slices. -/
theorem NdIs.slices {B : Nat} (h : NdIs w B K V D n) : ∃ (A1 : Option Addr) (n1 c1 : Nat) (A2 : Option Addr) (n2 c2 : Nat) (A3 : Option Addr) (n3 c3 : Nat), K = .slice A1 n1 c1 ∧ V = .slice A2 n2 c2 ∧ D = .slice A3 n3 c3 := by
  obtain ⟨A1, c1, A2, c2, A3, c3, e1, e2, e3⟩ := h.form
  exact ⟨A1, _, c1, A2, _, c2, A3, _, c3, e1, e2, e3⟩
end
end Go.Proofs.Ytceefoopehoalaa
