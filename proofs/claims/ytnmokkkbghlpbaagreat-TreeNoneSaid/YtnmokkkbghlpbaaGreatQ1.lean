/-
  Contracts of the program's functions, one behind the other (texts put together, part 1).
-/
import Derived.WalkKit
import Derived.WalkSpells
import Derived.Maps.AppendAt
import Derived.Deep.Draws
import Derived.Test.YtnmokkkbghlpbaaGreatRows
import Derived.ProofKit
import Derived.OpenShut
import Derived.ShutString
import Derived.ChangeOld
import Derived.Below
import Derived.Deep.Slices
import Derived.Test.YtnmokkkbghlpbaaGreatProg
import Derived.Deep.MidRow
import Derived.Laws.CopyRow
import Derived.Lib.Hide
import Derived.Maps.RangeWalk
import Derived.Deep.WholeRow
import Derived.Great.BuildSlice
import Derived.Deep.RegionHeld3
import Derived.Deep.QuietTactic
import Derived.BigQuiet
import Derived.StillTailTactics
import Derived.IntWalk
import Derived.WalkLawsBesides
import Derived.Lib.Bytealg
import Derived.Lib.BitFns
import Derived.Laws.BitsAllLaws
/-
  Words and laws over any program: a slice that reads as a list of cells ('Rd'), a slice that the call owns ('Mine'), append from the one onto the other, a slice of bytes made a string. No Go text is spoken of here.
-/
namespace Go.Proofs.YtnmokkkbghlpbaaGreat
open Go.RowKit

/-- A fact kept wholly out of the walk's sight: nothing looks behind a structure (a bound with a great numeral behind 'Hid' is still counted up). -/
structure Kept (p : Prop) : Prop where
  out : p
/-- The cells of bytes. -/
def cellsB (l : List UInt8) : List Value := l.map fun b => Value.int .u8 (b.toNat : Int)
theorem cellsB_length (l : List UInt8) : (cellsB l).length = l.length := by simp [cellsB]
theorem cellsB_append (l m : List UInt8) : cellsB (l ++ m) = cellsB l ++ cellsB m := by simp [cellsB]
theorem cellsB_take (l : List UInt8) (k : Nat) : (cellsB l).take k = cellsB (l.take k) := by simp [cellsB]
theorem cellsB_drop (l : List UInt8) (k : Nat) : (cellsB l).drop k = cellsB (l.drop k) := by simp [cellsB]
theorem cellsB_nil : cellsB [] = [] := rfl
theorem cellsB_at (l : List UInt8) (k : Nat) (h : k < l.length) : (cellsB l)[k]? = some (.int .u8 (l[k].toNat : Int)) := by simp [cellsB, h]
theorem cellsB_one (l : List UInt8) : ∀ u ∈ cellsB l, u.oneCell' = true := by
  intro u hu
  obtain ⟨_, _, rfl⟩ := List.mem_map.1 hu
  rfl

/-- In world w the slice value v has the cells xs (one cell an element), in a block below B. -/
def Rd (w : World) (B : Nat) (v : Value) (xs : List Value) : Prop :=
  ∃ A c, v = .slice A xs.length c ∧ xs.length ≤ c ∧ c ≤ maxLen ∧ (A = none → c = 0) ∧
    (0 < xs.length → ∃ b o, A = some ⟨b, o, none⟩ ∧ b < B ∧ ∀ j u, xs[j]? = some u → w.cell? ⟨b, o + j, none⟩ = some u)

/-- The call owns the cells xs by the slice value v, in a block from base on. -/
def Mine (w : World) (base : Nat) (e : TypeId) (v : Value) (xs : List Value) : Prop := w.ownsRow base e 1 v xs.length xs

section
variable {w w' : World} {B B' base : Nat} {v : Value} {xs : List Value} {e : TypeId}

theorem Rd.keep (h : Rd w B v xs) (hk : ∀ p : Addr, p.block < B → w'.cell? p = w.cell? p) : Rd w' B v xs := by
  obtain ⟨A, c, rfl, h1, h2, h3, h4⟩ := h
  refine ⟨A, c, rfl, h1, h2, h3, fun hp => ?_⟩
  obtain ⟨b, o, rfl, hb, hc⟩ := h4 hp
  exact ⟨b, o, rfl, hb, fun j u hu => (hk _ hb).trans (hc j u hu)⟩
theorem Rd.more (h : Rd w B v xs) (hB : B ≤ B') : Rd w B' v xs := by
  obtain ⟨A, c, rfl, h1, h2, h3, h4⟩ := h
  refine ⟨A, c, rfl, h1, h2, h3, fun hp => ?_⟩
  obtain ⟨b, o, rfl, hb, hc⟩ := h4 hp
  exact ⟨b, o, rfl, by omega, hc⟩
theorem Rd.below (h : Rd w B v xs) (hb : Below B w w') : Rd w' B v xs := h.keep fun _ hp => hb.cell hp
theorem Rd.drew (h : Rd w B v xs) : Rd w.drew B v xs := h
theorem Rd.drewN (h : Rd w B v xs) (k : Nat) : Rd (w.drewN k) B v xs := h
theorem Rd.alloc (h : Rd w B v xs) (hB : B ≤ w.heap.size) (o : Obj) : Rd (w.alloc o) B v xs := h.keep fun p hp => World.cell?_alloc_lt w o p (by omega)
theorem Rd.setCell (h : Rd w B v xs) {p : Addr} (hB : B ≤ p.block) (u : Value) : Rd (w.setCell p u) B v xs :=
  h.keep fun q hq => World.cell?_setCell_other w p q u (fun e => by subst e; omega)
theorem Rd.grown (h : Rd w B v xs) {row : Option Nat} (hg : w.grownBy w' row) (hB : B ≤ w.heap.size) (hr : ∀ g, row = some g → B ≤ g) : Rd w' B v xs :=
  h.keep fun p hp => World.cell?_of_block (hg.block p.block (by omega) (fun e => by have := hr _ e.symm; omega))
theorem Rd.nil (w : World) (B : Nat) : Rd w B (.slice none 0 0) [] := ⟨none, 0, rfl, Nat.le_refl _, Nat.zero_le _, fun _ => rfl, fun h => absurd h (by simp)⟩

/-- v[lo:hi]. -/
theorem Rd.cut {A : Option Addr} {n c : Nat} (h : Rd w B (.slice A n c) xs) {lo hi : Nat} (h1 : lo ≤ hi) (h2 : hi ≤ n) :
    Rd w B (.slice (if c = lo then A else A.map (·.add lo)) (hi - lo) (c - lo)) ((xs.take hi).drop lo) := by
  obtain ⟨A', c', e, g1, g2, g3, g4⟩ := h
  injection e with e1 e2 e3
  subst e1 e2 e3
  have hlen : ((xs.take hi).drop lo).length = hi - lo := by simp; omega
  refine ⟨_, _, by rw [hlen], by rw [hlen]; omega, by omega, ?_, fun hp => ?_⟩
  · intro hn
    have : A = none := by
      split at hn
      · exact hn
      · simpa using hn
    have := g3 this
    omega
  · rw [hlen] at hp
    obtain ⟨b, o, rfl, hb, hc⟩ := g4 (by omega)
    rw [if_neg (by omega)]
    refine ⟨b, o + lo, by simp [Addr.add_lit], hb, fun j u hu => ?_⟩
    have hj : j < hi - lo := by rw [← hlen]; exact (List.getElem?_eq_some_iff.1 hu).1
    rw [Nat.add_assoc]
    refine hc (lo + j) u ?_
    rw [List.getElem?_drop, List.getElem?_take, if_pos (by omega)] at hu
    exact hu

/-- v[:hi]. -/
theorem Rd.upto {A : Option Addr} {n c : Nat} (h : Rd w B (.slice A n c) xs) {hi : Nat} (h2 : hi ≤ n) : Rd w B (.slice A hi c) (xs.take hi) := by
  obtain ⟨A', c', e, g1, g2, g3, g4⟩ := h
  injection e with e1 e2 e3
  subst e1 e2 e3
  have hlen : (xs.take hi).length = hi := by simp; omega
  refine ⟨_, _, by rw [hlen], by rw [hlen]; omega, g2, g3, fun hp => ?_⟩
  rw [hlen] at hp
  obtain ⟨b, o, rfl, hb, hc⟩ := g4 (by omega)
  refine ⟨b, o, rfl, hb, fun j u hu => ?_⟩
  rw [List.getElem?_take] at hu
  split at hu
  · exact hc j u hu
  · cases hu
/-- Where a slice that is not empty lies. -/
theorem Rd.addr {A : Option Addr} {n c : Nat} {l : List UInt8} (h : Rd w B (.slice A n c) (cellsB l)) (hn : 0 < n) :
    ∃ b o, A = some ⟨b, o, none⟩ ∧ b < B ∧ ∀ (j : Nat) (h : j < l.length), w.cell? ⟨b, o + j, none⟩ = some (.int .u8 (l[j].toNat : Int)) := by
  obtain ⟨A', c', e, g1, g2, g3, g4⟩ := h
  injection e with e1 e2 e3
  subst e1 e2 e3
  obtain ⟨b, o, rfl, hb, hc⟩ := g4 hn
  exact ⟨b, o, rfl, hb, fun j hj => hc j _ (cellsB_at l j hj)⟩
/-- A slice of bytes, its parts laid open. -/
theorem Rd.bytes {l : List UInt8} (h : Rd w B v (cellsB l)) : ∃ A c, v = .slice A l.length c ∧ l.length ≤ c ∧ c ≤ 9223372036854775807 ∧ Rd w B (.slice A l.length c) (cellsB l) := by
  have h0 := h
  obtain ⟨A, c, rfl, g1, g2, _⟩ := h
  rw [cellsB_length] at *
  exact ⟨A, c, rfl, g1, by unfold maxLen at g2; omega, h0⟩
theorem Mine.rd (h : Mine w base e v xs) : Rd w w.heap.size v xs := by
  rcases h.2 with ⟨rfl, hn⟩ | ⟨g, cap, cur, rfl, hbg, hg, hnc, hcm, hcs, htake⟩
  · have : xs = [] := List.eq_nil_of_length_eq_zero hn
    subst this
    exact Rd.nil w _
  · refine ⟨_, _, rfl, hnc, hcm, (fun h => by cases h), fun _ => ⟨g, 0, rfl, (World.ownsRow.lt h g rfl).2, fun j u hu => ?_⟩⟩
    have := World.ownsRow.cells h (g := g) rfl j u hu
    simpa [Addr.add_lit] using this
theorem Mine.drew (h : Mine w base e v xs) : Mine w.drew base e v xs := h
theorem Mine.alloc (h : Mine w base e v xs) (o : Obj) : Mine (w.alloc o) base e v xs := World.ownsRow.alloc h o
theorem Mine.kept (h : Mine w base e v xs) (hb : Below w.heap.size w w') : Mine w' base e v xs := by
  have hlt := World.ownsRow.lt h
  refine ⟨h.1, ?_⟩
  rcases h.2 with ⟨rfl, hn⟩ | ⟨g, cap, cur, rfl, hbg, hg, hnc, hcm, hcs, htake⟩
  · exact .inl ⟨rfl, hn⟩
  · exact .inr ⟨g, cap, cur, rfl, hbg, (hb.block g (hlt g rfl).2).trans hg, hnc, hcm, hcs, htake⟩
theorem Mine.nil (w : World) (base : Nat) (e : TypeId) : Mine w base e (.slice none 0 0) [] := World.ownsRow_nil w base e 1
/-- '[]T{}'. -/
theorem Mine.empty (w : World) (base : Nat) (e : TypeId) (hb : base ≤ w.heap.size) : Mine (w.alloc (.cells #[] e)) base e (.slice (some ⟨w.heap.size, 0, none⟩) 0 0) [] :=
  World.ownsRow_lit w #[] 0 hb (Nat.zero_le _) rfl
theorem Mine.lit (w : World) (base : Nat) (e : TypeId) (cs : Array Value) (n : Nat) (hb : base ≤ w.heap.size) (hn : cs.size = n) (hm : n ≤ maxLen) :
    Mine (w.alloc (.cells cs e)) base e (.slice (some ⟨w.heap.size, 0, none⟩) n n) cs.toList := by
  subst hn
  unfold Mine
  rw [Array.length_toList]
  exact World.ownsRow_lit w cs cs.size hb hm (by simp)
theorem Mine.weaken (h : Mine w base e v xs) {base' : Nat} (hb : base' ≤ base) : Mine w base' e v xs := by
  refine ⟨h.1, ?_⟩
  rcases h.2 with ⟨rfl, hn⟩ | ⟨g, cap, cur, rfl, hbg, hg, hnc, hcm, hcs, htake⟩
  · exact .inl ⟨rfl, hn⟩
  · exact .inr ⟨g, cap, cur, rfl, by omega, hg, hnc, hcm, hcs, htake⟩
theorem Mine.cellAt {g n c : Nat} (h : Mine w base e (.slice (some ⟨g, 0, none⟩) n c) xs) {j : Nat} {u : Value} (hu : xs[j]? = some u) : w.cell? ⟨g, j, none⟩ = some u := by
  have := World.ownsRow.cells h (g := g) rfl j u hu
  simpa [Addr.add_lit] using this
theorem Mine.len {A : Option Addr} {n c : Nat} (h : Mine w base e (.slice A n c) xs) : n = xs.length := by
  rcases h.2 with ⟨e1, hn⟩ | ⟨g, cap, cur, e1, _⟩
  · injection e1 with e1 e2 e3
    omega
  · injection e1
theorem Mine.lt {g n c : Nat} (h : Mine w base e (.slice (some ⟨g, 0, none⟩) n c) xs) : base ≤ g ∧ g < w.heap.size := World.ownsRow.lt h g rfl
theorem Mine.free {g n c : Nat} (h : Mine w base e (.slice (some ⟨g, 0, none⟩) n c) xs) (j : Nat) : w.frozen? ⟨g, j, none⟩ = false := by
  have hn := h.len
  subst hn
  exact World.ownsRow.frozenAt h j
theorem Mine.stored {g n c : Nat} (h : Mine w base e (.slice (some ⟨g, 0, none⟩) n c) xs) (j : Nat) (u : Value) : Mine (w.setCell ⟨g, j, none⟩ u) base e (.slice (some ⟨g, 0, none⟩) n c) (xs.set j u) := by
  have hn := h.len
  subst hn
  unfold Mine
  rw [List.length_set]
  exact (World.ownsRow.stored h j u).1
theorem Mine.of_own {n : Nat} (h : w.ownsRow base e 1 v n xs) : Mine w base e v xs := by
  have : n = xs.length := by have := h.1; omega
  subst this
  exact h
theorem Mine.form (h : Mine w base e v xs) : ∃ A c, v = .slice A xs.length c := by
  rcases h.2 with ⟨rfl, hn⟩ | ⟨g, cap, cur, rfl, _⟩
  · exact ⟨none, 0, by rw [hn]⟩
  · exact ⟨_, _, rfl⟩
end

section
variable {P : Program}

theorem run_append_none {w : World} (base : Nat) (t ty e : TypeId) (i : TypeInfo) (ht : P.underlying t = some (.slice e)) (hi : P.info? e = some i)
    (v : Value) (n : Nat) (xs : List Value) (hown : w.ownsRow base e 1 v n xs) (c : Nat) : (Builtin.append_ #[t, t] ty #[v, .slice none 0 c]).run P w = .ok v w := by
  rcases hown.2 with ⟨rfl, rfl⟩ | ⟨g, cap, cur, rfl, _, _, hnc, _⟩
  · simp [Builtin.append_, run_underlying ht, sizeOf, typeInfo, hi, Builtin.lenOf, Builtin.firstCells]
  · simp [Builtin.append_, run_underlying ht, sizeOf, typeInfo, hi, Builtin.lenOf, Builtin.firstCells, hnc, storeCells]

/-- append(v, x...), v the call's own, x whatever slice. -/
theorem run_append_rd {w : World} (base : Nat) (t ty e : TypeId) (i : TypeInfo) (z : Value) (bytes : Nat) (ht : P.underlying t = some (.slice e)) (hi : P.info? e = some i) (hz : i.zero = some z)
    (hsize : i.size = 1) (hby : i.bytes = bytes) (hzs : z.cells.size = 1)
    (v : Value) (xs : List Value) (hown : Mine w base e v xs) (B : Nat) (x : Value) (news : List Value) (hr : Rd w B x news) (h1 : ∀ u ∈ news, u.oneCell' = true)
    (hbound : (xs.length + news.length) * bytes ≤ 140737488355328) (hlen : xs.length + news.length ≤ maxLen) (hbase : base ≤ w.heap.size) :
    ∃ v' w', (Builtin.append_ #[t, t] ty #[v, x]).run P w = .ok v' w' ∧ Mine w' base e v' (xs ++ news) ∧ w.grownBy w' v.ownBlock ∧ (v'.ownBlock = v.ownBlock ∨ v'.ownBlock = some w.heap.size) := by
  obtain ⟨A, c, rfl, g1, g2, g3, g4⟩ := hr
  rcases A with _ | ad
  · have hc := g3 rfl
    have hn : news = [] := List.eq_nil_of_length_eq_zero (by omega)
    subst hn
    exact ⟨v, w, run_append_none base t ty e i ht hi v _ xs hown c, by simpa using hown, World.grownBy.refl w _, .inl rfl⟩
  · have hcells : ∀ j u, news[j]? = some u → w.cell? (ad.add j) = some u := by
      intro j u hu
      have hj := (List.getElem?_eq_some_iff.1 hu).1
      obtain ⟨b, o, he, _, hc⟩ := g4 (by omega)
      injection he with he
      subst he
      rw [Addr.add_lit]
      exact hc j u hu
    obtain ⟨v', w', hrun, h2, h3, _, h5⟩ := run_append_own_at (P := P) w base t ty e i z 1 bytes ht hi hz hsize hby hzs (by omega) v _ xs hown ad news.length c news (by simp) hcells h1 hlen hbound hbase
    exact ⟨v', w', hrun, by unfold Mine; rw [List.length_append]; exact h2, h3, h5⟩

theorem wpList_append_rd {w : World} {ops : Array Oper} {rest : List Oper} {o : Oper} {a : Act} {Q : Exit → Act → World → Prop} (hgd : o.guard = none) (s x : Operand) (t : TypeId)
    (ho : o.op = .call { callee := .builtin .append, args := #[s, x], argTypes := #[t, t] })
    (base : Nat) (e : TypeId) (i : TypeInfo) (z : Value) (bytes : Nat) (ht : P.underlying t = some (.slice e)) (hi : P.info? e = some i) (hz : i.zero = some z)
    (hsize : i.size = 1) (hby : i.bytes = bytes) (hzs : z.cells.size = 1)
    (v : Value) (xs : List Value) (hs : a.eval s = v) (hown : Mine w base e v xs)
    (B : Nat) (y : Value) (news : List Value) (hx : a.eval x = y) (hr : Rd w B y news) (h1 : ∀ u ∈ news, u.oneCell' = true)
    (hbound : (xs.length + news.length) * bytes ≤ 140737488355328) (hlen : xs.length + news.length ≤ maxLen) (hbase : base ≤ w.heap.size)
    (h : ∀ v' w', Mine w' base e v' (xs ++ news) → Below base w w' → w.grownBy w' v.ownBlock → (v'.ownBlock = v.ownBlock ∨ v'.ownBlock = some w.heap.size) → wpList P ops Q rest (a.put o.dst v') w') : wpList P ops Q (o :: rest) a w := by
  refine wpList_plain hgd fun K hK => ?_
  obtain ⟨v', w', hrun, h2, h3, h4⟩ := run_append_rd (P := P) base t o.type e i z bytes ht hi hz hsize hby hzs v xs hown B y news hr h1 hbound hlen hbase
  unfold Oper.wp execOp
  simp only [ho, resolve, invoke, builtin, Sem.run_bind, Sem.run_pure, Result.andThen_ok, List.map_toArray, List.map_cons, List.map_nil, hs, hx, hrun]
  exact hK _ _ (h v' w' h2 ((Below.refl _ _).grown h3 hbase fun k hk => (World.ownsRow.lt hown k hk).1) h3 h4)

/-- The same for a region that draws its order. -/
theorem step_append_rd {w : World} {ops : Array Oper} {o : Oper} {a : Act} {K : Act → World → Prop} {Q : Exit → Act → World → Prop} {E : Prop} (hgd : o.guard = none) (s x : Operand) (t : TypeId)
    (ho : o.op = .call { callee := .builtin .append, args := #[s, x], argTypes := #[t, t] })
    (base : Nat) (e : TypeId) (i : TypeInfo) (z : Value) (bytes : Nat) (ht : P.underlying t = some (.slice e)) (hi : P.info? e = some i) (hz : i.zero = some z)
    (hsize : i.size = 1) (hby : i.bytes = bytes) (hzs : z.cells.size = 1)
    (v : Value) (xs : List Value) (hs : a.eval s = v) (hown : Mine w base e v xs)
    (B : Nat) (y : Value) (news : List Value) (hx : a.eval x = y) (hr : Rd w B y news) (h1 : ∀ u ∈ news, u.oneCell' = true)
    (hbound : (xs.length + news.length) * bytes ≤ 140737488355328) (hlen : xs.length + news.length ≤ maxLen) (hbase : base ≤ w.heap.size)
    (h : ∀ v' w', Mine w' base e v' (xs ++ news) → Below base w w' → w.grownBy w' v.ownBlock → (v'.ownBlock = v.ownBlock ∨ v'.ownBlock = some w.heap.size) → K (a.put o.dst v') w') :
    if Region.wanted o (yielded ops a.tmps) = true then Oper.wp P o a w K Q else E := by
  have hw : Region.wanted o (yielded ops a.tmps) = true := by simp [Region.wanted, hgd]
  rw [if_pos hw]
  obtain ⟨v', w', hrun, h2, h3, h4⟩ := run_append_rd (P := P) base t o.type e i z bytes ht hi hz hsize hby hzs v xs hown B y news hr h1 hbound hlen hbase
  unfold Oper.wp execOp
  simp only [ho, resolve, invoke, builtin, Sem.run_bind, Sem.run_pure, Result.andThen_ok, List.map_toArray, List.map_cons, List.map_nil, hs, hx, hrun]
  exact h v' w' h2 ((Below.refl _ _).grown h3 hbase fun k hk => (World.ownsRow.lt hown k hk).1) h3 h4

/-- string(v) where v has the bytes l. -/
theorem run_string_rd {w : World} {B : Nat} {v : Value} {l : List UInt8} (src dst e : TypeId) (hs : P.underlying src = some (.slice e)) (he : P.underlying e = some (.int .u8)) (hd : P.underlying dst = some .string)
    (hr : Rd w B v (cellsB l)) : (convert src dst v).run P w = .ok (.string ⟨l.toArray⟩) w := by
  obtain ⟨A, c, rfl, g1, g2, g3, g4⟩ := hr
  rw [cellsB_length] at *
  rcases A with _ | ad
  · have hc := g3 rfl
    have hn : l = [] := List.eq_nil_of_length_eq_zero (by omega)
    subst hn
    simp [convert, run_underlying hs, run_underlying hd, run_underlying he, Conv.bytesToString, Sem.run_pure]
    rfl
  · refine run_convert_bytes_back w src dst e ad c l hs he hd fun j hj => ?_
    obtain ⟨b, o, h, _, hc⟩ := g4 (by omega)
    injection h with h
    subst h
    rw [Addr.add_lit]
    exact hc j _ (cellsB_at l j hj)
end

/-- As 'Rd', and in none of the blocks gs. -/
def Far (w : World) (B : Nat) (gs : List (Option Nat)) (v : Value) (xs : List Value) : Prop :=
  ∃ A c, v = .slice A xs.length c ∧ xs.length ≤ c ∧ c ≤ maxLen ∧ (A = none → c = 0) ∧
    (0 < xs.length → ∃ b o, A = some ⟨b, o, none⟩ ∧ b < B ∧ (∀ g ∈ gs, g ≠ some b) ∧ ∀ j u, xs[j]? = some u → w.cell? ⟨b, o + j, none⟩ = some u)
section
variable {w w' : World} {B B' base : Nat} {v : Value} {xs : List Value} {e : TypeId} {gs gs' : List (Option Nat)}
theorem Far.rd (h : Far w B gs v xs) : Rd w B v xs := by
  obtain ⟨A, c, rfl, h1, h2, h3, h4⟩ := h
  refine ⟨A, c, rfl, h1, h2, h3, fun hp => ?_⟩
  obtain ⟨b, o, rfl, hb, _, hc⟩ := h4 hp
  exact ⟨b, o, rfl, hb, hc⟩
theorem Far.keep (h : Far w B gs v xs) (hk : ∀ b o, b < B → (∀ g ∈ gs, g ≠ some b) → w'.cell? ⟨b, o, none⟩ = w.cell? ⟨b, o, none⟩) : Far w' B gs v xs := by
  obtain ⟨A, c, rfl, h1, h2, h3, h4⟩ := h
  refine ⟨A, c, rfl, h1, h2, h3, fun hp => ?_⟩
  obtain ⟨b, o, rfl, hb, hg, hc⟩ := h4 hp
  exact ⟨b, o, rfl, hb, hg, fun j u hu => (hk b _ hb hg).trans (hc j u hu)⟩
theorem Far.below (h : Far w B gs v xs) (hb : Below B w w') : Far w' B gs v xs := h.keep fun b o hp _ => hb.cell (p := ⟨b, o, none⟩) hp
theorem Far.grown (h : Far w B gs v xs) {row : Option Nat} (hg : w.grownBy w' row) (hB : B ≤ w.heap.size) (hr : row ∈ gs) : Far w' B gs v xs :=
  h.keep fun b _ hp hn => World.cell?_of_block (hg.block b (by omega) (fun e => hn _ hr e.symm))
theorem Far.more (h : Far w B gs v xs) (hB : B ≤ B') : Far w B' gs v xs := by
  obtain ⟨A, c, rfl, h1, h2, h3, h4⟩ := h
  refine ⟨A, c, rfl, h1, h2, h3, fun hp => ?_⟩
  obtain ⟨b, o, rfl, hb, hg, hc⟩ := h4 hp
  exact ⟨b, o, rfl, by omega, hg, hc⟩
/-- Other blocks to keep out of: old ones, or such as were made later. -/
theorem Far.other (h : Far w B gs v xs) (hg : ∀ g ∈ gs', g ∈ gs ∨ ∀ k, g = some k → B ≤ k) : Far w B gs' v xs := by
  obtain ⟨A, c, rfl, h1, h2, h3, h4⟩ := h
  refine ⟨A, c, rfl, h1, h2, h3, fun hp => ?_⟩
  obtain ⟨b, o, rfl, hb, hn, hc⟩ := h4 hp
  refine ⟨b, o, rfl, hb, fun g hg' e => ?_, hc⟩
  rcases hg g hg' with h | h
  · exact hn g h e
  · have := h b e; omega
theorem Mine.far (h : Mine w base e v xs) (hg : ∀ g ∈ gs, ∀ k, g = some k → k < base) : Far w w.heap.size gs v xs := by
  rcases h.2 with ⟨rfl, hn⟩ | ⟨g, cap, cur, rfl, hbg, hgg, hnc, hcm, hcs, htake⟩
  · have : xs = [] := List.eq_nil_of_length_eq_zero hn
    subst this
    exact ⟨none, 0, rfl, Nat.le_refl _, Nat.zero_le _, fun _ => rfl, fun h => absurd h (by simp)⟩
  · refine ⟨_, _, rfl, hnc, hcm, (fun h => by cases h), fun _ => ⟨g, 0, rfl, (World.ownsRow.lt h g rfl).2, fun x hx e => ?_, fun j u hu => ?_⟩⟩
    · have := hg x hx g e; omega
    · have := World.ownsRow.cells h (g := g) rfl j u hu
      simpa [Addr.add_lit] using this
/-- Two rows of unlike elements lie in two blocks. -/
theorem Mine.apart {base2 : Nat} {v2 : Value} {xs2 : List Value} {e2 : TypeId} (h : Mine w base e v xs) (h2 : Mine w base2 e2 v2 xs2) (hne : e ≠ e2) : v.ownBlock = none ∨ v.ownBlock ≠ v2.ownBlock := by
  rcases h.2 with ⟨rfl, _⟩ | ⟨g, cap, cur, rfl, _, hg, _⟩
  · exact .inl rfl
  · right
    rcases h2.2 with ⟨rfl, _⟩ | ⟨g2, cap2, cur2, rfl, _, hg2, _⟩
    · simp [Value.ownBlock]
    · intro e
      have e' : g = g2 := by simpa [Value.ownBlock] using e
      subst e'
      rw [hg] at hg2
      injection hg2 with hg2
      injection hg2 with _ ht
      exact hne ht
theorem Mine.grown (h : Mine w base e v xs) {row : Option Nat} (hg : w.grownBy w' row) (hne : v.ownBlock = none ∨ v.ownBlock ≠ row) : Mine w' base e v xs := World.ownsRow.kept h hg hne
theorem Mine.block (h : Mine w base e v xs) : ∀ k, v.ownBlock = some k → base ≤ k ∧ k < w.heap.size := World.ownsRow.lt h
end

/-- string(v) in whatever world in which what lay below B is as it was. -/
theorem run_string_kept {P : Program} {w w' : World} {B : Nat} {v : Value} {l : List UInt8} (src dst e : TypeId) (hs : P.underlying src = some (.slice e)) (he : P.underlying e = some (.int .u8)) (hd : P.underlying dst = some .string)
    (hr : Rd w B v (cellsB l)) (hb : Below B w w') : (convert src dst v).run P w' = .ok (.string ⟨l.toArray⟩) w' := run_string_rd src dst e hs he hd (hr.below hb)
/-- Two stretches of a run, one behind the other. -/
theorem up {w w1 w2 : World} (h : Below w.heap.size w w1) (h2 : Below w1.heap.size w1 w2) : Below w.heap.size w w2 := h.trans (h2.mono h.size)
theorem up_alloc {w w1 : World} (h : Below w.heap.size w w1) (o : Obj) : Below w.heap.size w (w1.alloc o) := h.alloc h.size o
theorem up_drew {w w1 : World} (h : Below w.heap.size w w1) : Below w.heap.size w w1.drew := h.drew

/-- The slice v has, in w, slices of the bytes ls. -/
def RdAll (w : World) (B : Nat) (v : Value) (ls : List (List UInt8)) : Prop :=
  ∃ vs : List Value, Rd w B v vs ∧ vs.length = ls.length ∧ ∀ (k : Nat) (u : Value) (l : List UInt8), vs[k]? = some u → ls[k]? = some l → Rd w B u (cellsB l)
/-- The first k of some texts, one behind the other. -/
def upTo (ls : List (List UInt8)) (k : Nat) : List UInt8 := (ls.take k).flatten
theorem upTo_zero (ls : List (List UInt8)) : upTo ls 0 = [] := by simp [upTo]
theorem upTo_succ (ls : List (List UInt8)) (k : Nat) (h : k < ls.length) : upTo ls (k + 1) = upTo ls k ++ ls[k] := by
  unfold upTo
  rw [List.take_succ_eq_append_getElem h, List.flatten_append, List.flatten_cons, List.flatten_nil, List.append_nil]
theorem upTo_all (ls : List (List UInt8)) : upTo ls ls.length = ls.flatten := by simp [upTo]
theorem upTo_le (ls : List (List UInt8)) (k : Nat) : (upTo ls k).length ≤ ls.flatten.length := by
  have h : ls.flatten = upTo ls k ++ (ls.drop k).flatten := by
    unfold upTo; rw [← List.flatten_append, List.take_append_drop]
  rw [h, List.length_append]; omega

section
variable {w w' : World} {B : Nat} {v : Value} {ls : List (List UInt8)}
theorem RdAll.at_ {A : Option Addr} {n c : Nat} (h : RdAll w B (.slice A n c) ls) {k : Nat} (hk : k < n) :
    ∃ b o A' c', ∃ h : k < ls.length, A = some ⟨b, o, none⟩ ∧ b < B ∧ w.cell? ⟨b, o + k, none⟩ = some (.slice A' ls[k].length c') ∧ Rd w B (.slice A' ls[k].length c') (cellsB ls[k]) := by
  obtain ⟨vs, ⟨A1, c1, e, g1, g2, g3, g4⟩, hl, hel⟩ := h
  injection e with e1 e2 e3
  subst e1 e2 e3
  obtain ⟨b, o, rfl, hb, hc⟩ := g4 (by omega)
  have h1 : vs[k]? = some vs[k] := List.getElem?_eq_getElem hk
  have h2 : ls[k]? = some (ls[k]'(by omega)) := List.getElem?_eq_getElem (by omega)
  have h3 := hel k _ _ h1 h2
  obtain ⟨A', c', e, _, _, h4⟩ := h3.bytes
  refine ⟨b, o, A', c', by omega, rfl, hb, ?_, h4⟩
  rw [← e]
  exact hc k _ h1
theorem RdAll.len {A : Option Addr} {n c : Nat} (h : RdAll w B (.slice A n c) ls) : n = ls.length ∧ n ≤ c ∧ c ≤ 9223372036854775807 := by
  obtain ⟨vs, ⟨A1, c1, e, g1, g2, g3, g4⟩, hl, hel⟩ := h
  injection e with e1 e2 e3
  unfold maxLen at g2
  omega
theorem RdAll.keep (h : RdAll w B v ls) (hk : ∀ p : Addr, p.block < B → w'.cell? p = w.cell? p) : RdAll w' B v ls := by
  obtain ⟨vs, h1, h2, h3⟩ := h
  exact ⟨vs, h1.keep hk, h2, fun k u l a b => (h3 k u l a b).keep hk⟩
theorem RdAll.below (h : RdAll w B v ls) (hb : Below B w w') : RdAll w' B v ls := h.keep fun _ hp => hb.cell hp
theorem RdAll.upto {A : Option Addr} {n c : Nat} (h : RdAll w B (.slice A n c) ls) {hi : Nat} (h2 : hi ≤ n) : RdAll w B (.slice A hi c) (ls.take hi) := by
  obtain ⟨vs, h1, hl, hel⟩ := h
  refine ⟨vs.take hi, h1.upto h2, by simp [hl], fun k u l a b => ?_⟩
  rw [List.getElem?_take] at a b
  split at a
  · rw [if_pos (by assumption)] at b
    exact hel k u l a b
  · cases a
theorem RdAll.form (h : RdAll w B v ls) : ∃ A c, v = .slice A ls.length c ∧ RdAll w B (.slice A ls.length c) ls := by
  have h0 := h
  obtain ⟨vs, ⟨A, c, rfl, _⟩, hl, _⟩ := h
  rw [hl] at h0 ⊢
  exact ⟨A, c, rfl, h0⟩
theorem RdAll.lit (w : World) (e : TypeId) (cs : List Value) (ls : List (List UInt8)) (hlen : cs.length = ls.length) (hmax : cs.length ≤ maxLen)
    (h : ∀ (k : Nat) (u : Value) (l : List UInt8), cs[k]? = some u → ls[k]? = some l → Rd w w.heap.size u (cellsB l)) :
    RdAll (w.alloc (.cells cs.toArray e)) (w.heap.size + 1) (.slice (some ⟨w.heap.size, 0, none⟩) cs.length cs.length) ls := by
  refine ⟨cs, ⟨_, _, rfl, Nat.le_refl _, hmax, (fun h => by cases h), fun _ => ⟨w.heap.size, 0, rfl, Nat.lt_succ_self _, fun j u hu => ?_⟩⟩, hlen, fun k u l a b => ((h k u l a b).alloc (Nat.le_refl _) _).more (Nat.le_succ _)⟩
  rw [Nat.zero_add, World.cell?_alloc_mark]
  simpa using hu
theorem RdAll.lit1 (w : World) (e : TypeId) (a : Value) (l : List UInt8) (h : Rd w w.heap.size a (cellsB l)) :
    RdAll (w.alloc (.cells #[a] e)) (w.heap.size + 1) (.slice (some ⟨w.heap.size, 0, none⟩) 1 1) [l] := by
  refine RdAll.lit w e [a] [l] rfl (by unfold maxLen; simp) fun k u m hu hm => ?_
  match k, hu, hm with
  | 0, hu, hm => simp at hu hm; subst hu hm; exact h
theorem RdAll.lit2 (w : World) (e : TypeId) (a b : Value) (l m : List UInt8) (h : Rd w w.heap.size a (cellsB l)) (h2 : Rd w w.heap.size b (cellsB m)) :
    RdAll (w.alloc (.cells #[a, b] e)) (w.heap.size + 1) (.slice (some ⟨w.heap.size, 0, none⟩) 2 2) [l, m] := by
  refine RdAll.lit w e [a, b] [l, m] rfl (by unfold maxLen; simp) fun k u x hu hm => ?_
  match k, hu, hm with
  | 0, hu, hm => simp at hu hm; subst hu hm; exact h
  | 1, hu, hm => simp at hu hm; subst hu hm; exact h2
end
end Go.Proofs.YtnmokkkbghlpbaaGreat
/-
  Arguments opened into the words of YtnmokkkbghlpbaaGreatWords: a slice that came in, read as data, has cells ('Rd'); a slice of bytes has bytes; a slice of slices of bytes has texts. And what a law's row asks behind the call.
-/
namespace Go.Proofs.YtnmokkkbghlpbaaGreat
open Go.ChangeShapes Go.WideShapes Go.ChangeAt Go.RowKit Go.Deep

section
variable {H : Type} {enc : TypeId × Value → H} {P : Program} {w : World} {base : Nat} {held : Bool}
theorem open_rd {t e : TypeId} {fuel : Nat} {u : Value} {x : DataW H × List MemPlace} (ht : P.underlying t = some (.slice e)) (hc : P.cellsOf e = 1)
    (h : DataW.trod enc P w base (fun _ => true) held fuel t [u] = some x) :
    ∃ vs : List Value, Rd w w.heap.size u vs ∧ ∀ v ∈ vs, ∃ n y, DataW.trod enc P w base (fun _ => true) held n e [v] = some y := by
  rcases open_slice1 ht hc h with ⟨e1, _⟩ | ⟨a, len, cap, m, n, V, D, Pl, e1, hb, hl, hm, hmm, rfl, hx⟩
  · injection e1 with e1
    subst e1
    exact ⟨[], Rd.nil _ _, fun v hv => by cases hv⟩
  · injection e1 with e1
    subst e1
    simp only [if_true] at hmm
    subst hmm
    refine ⟨(List.range len).map V, ⟨some a, m, by simp, by simpa using hl, hm, (fun h => by cases h), fun hp => ?_⟩, fun v hv => ?_⟩
    · simp only [List.length_map, List.length_range] at hp
      have h0 := (hx 0 (by omega)).1
      have hs := World.cell?_spot h0
      obtain ⟨b, o, sp⟩ := a
      have hsp : sp = none := by simpa [Addr.add] using hs
      subst hsp
      refine ⟨b, o, rfl, ?_, fun j u hu => ?_⟩
      · have := World.block_lt_of_cell? w _ h0
        simpa [Addr.add] using this
      · have hj : j < len := by
          have := (List.getElem?_eq_some_iff.1 hu).1
          simpa using this
        have hj2 := (hx j (by omega)).1
        rw [Addr.add_lit] at hj2
        rw [hj2]
        simp [hj] at hu
        rw [hu]
    · obtain ⟨i, hi, rfl⟩ := List.mem_map.1 hv
      exact ⟨n, _, (hx i (by have := List.mem_range.1 hi; omega)).2⟩

theorem u8_of_wf {n : Int} (h : (Lit.int .u8 n).wf = true) : ((UInt8.ofNat n.toNat).toNat : Int) = n := by
  simp only [Lit.wf, Bool.and_eq_true, decide_eq_true_eq] at h
  have h1 : (IntKind.u8.min : Int) = 0 := by decide
  have h2 : (IntKind.u8.max : Int) = 255 := by decide
  rw [h1, h2] at h
  rw [UInt8.toNat_ofNat']
  omega
theorem open_cellsB {q : TypeId} (hq : P.underlying q = some (.int .u8)) : ∀ vs : List Value, (∀ v ∈ vs, ∃ n y, DataW.trod enc P w base (fun _ => true) held n q [v] = some y) → ∃ l, vs = cellsB l
  | [], _ => ⟨[], rfl⟩
  | v :: vs, h => by
    obtain ⟨l, hl⟩ := open_cellsB hq vs fun u hu => h u (List.mem_cons_of_mem _ hu)
    obtain ⟨n, y, hy⟩ := h v (List.mem_cons_self ..)
    obtain ⟨k, e1, _, hw⟩ := DataW.trod_int hq hy
    injection e1 with e1
    refine ⟨UInt8.ofNat k.toNat :: l, ?_⟩
    rw [e1, hl]
    show _ = Value.int .u8 ((UInt8.ofNat k.toNat).toNat : Int) :: cellsB l
    rw [u8_of_wf hw]
theorem open_bytes {t q : TypeId} {fuel : Nat} {u : Value} {x : DataW H × List MemPlace} (ht : P.underlying t = some (.slice q)) (hq : P.underlying q = some (.int .u8)) (hc : P.cellsOf q = 1)
    (h : DataW.trod enc P w base (fun _ => true) held fuel t [u] = some x) : ∃ l, Rd w w.heap.size u (cellsB l) := by
  obtain ⟨vs, h1, h2⟩ := open_rd ht hc h
  obtain ⟨l, rfl⟩ := open_cellsB hq vs h2
  exact ⟨l, h1⟩
theorem open_texts {t e q : TypeId} {fuel : Nat} {u : Value} {x : DataW H × List MemPlace} (ht : P.underlying t = some (.slice e)) (he : P.underlying e = some (.slice q)) (hq : P.underlying q = some (.int .u8)) (ce : P.cellsOf e = 1) (cq : P.cellsOf q = 1)
    (h : DataW.trod enc P w base (fun _ => true) held fuel t [u] = some x) : ∃ ls, RdAll w w.heap.size u ls := by
  obtain ⟨vs, h1, h2⟩ := open_rd ht ce h
  have h3 : ∀ vs : List Value, (∀ v ∈ vs, ∃ n y, DataW.trod enc P w base (fun _ => true) held n e [v] = some y) → ∃ ls : List (List UInt8), vs.length = ls.length ∧ ∀ (k : Nat) (u : Value) (l : List UInt8), vs[k]? = some u → ls[k]? = some l → Rd w w.heap.size u (cellsB l) := by
    intro vs
    induction vs with
    | nil => intro _; exact ⟨[], rfl, fun k u l a => by simp at a⟩
    | cons v vs ih =>
      intro h
      obtain ⟨ls, g1, g2⟩ := ih fun u hu => h u (List.mem_cons_of_mem _ hu)
      obtain ⟨n, y, hy⟩ := h v (List.mem_cons_self ..)
      obtain ⟨l, hl⟩ := open_bytes he hq cq hy
      refine ⟨l :: ls, by simp [g1], fun k u m a b => ?_⟩
      cases k with
      | zero => simp at a b; subst a b; exact hl
      | succ k => simp at a b; exact g2 k u m a b
  obtain ⟨ls, h4, h5⟩ := h3 vs h2
  exact ⟨ls, vs, h1, h4, h5⟩
end

/-- All arguments read behind the call as before it. -/
theorem trodAll_below {H : Type} {enc : TypeId × Value → H} {P : Program} (hl : laidOutB P = true) {W W' : World} (hb : Below W.heap.size W W') :
    ∀ (ts : List TypeId) (vs : List Value) (ds : List (DataW H)) (ps : List MemPlace), (∀ t ∈ ts, P.readableRec t = true ∧ t < P.types.size) →
      DataW.TrodAll enc P W 0 (fun _ => true) true ts vs ds ps → DataW.TrodAll enc P W' 0 (fun b => decide (b < W.heap.size)) true ts vs ds ps
  | [], [], [], _, _, h => h
  | t :: ts, v :: vs, d :: ds, _, hr, ⟨p, q, h1, h2, h3⟩ => by
    refine ⟨p, q, Below.trod hl (hr t (List.mem_cons_self ..)).1 (hr t (List.mem_cons_self ..)).2 h1 hb ?_, trodAll_below hl hb ts vs ds q (fun u hu => hr u (List.mem_cons_of_mem _ hu)) h2, h3⟩
    obtain ⟨m, hm⟩ := h1
    exact DataW.trod_lt m _ _ _ hm
  | [], [], _ :: _, _, _, h => h.elim
  | [], _ :: _, _, _, _, h => by cases h
  | _ :: _, [], _, _, _, h => by cases h
  | _ :: _, _ :: _, [], _, _, h => by cases h
end Go.Proofs.YtnmokkkbghlpbaaGreat
/-
  Words for rows of sectors (256 bytes each) and for the device: sectors, one behind the other, in a block; what the blocks of a device hold.
-/
namespace Go.Proofs.YtnmokkkbghlpbaaGreat
open Go.RowKit

/-! ### Sectors, one behind the other -/
/-- The cells of sectors, one behind the other. -/
def flat (L : List (List UInt8)) : List Value := L.flatMap cellsB
/-- Each has 256 bytes. -/
def Wide (L : List (List UInt8)) : Prop := ∀ l ∈ L, l.length = 256
theorem flat_nil : flat [] = [] := rfl
theorem flat_cons (l : List UInt8) (L : List (List UInt8)) : flat (l :: L) = cellsB l ++ flat L := rfl
theorem flat_append (L M : List (List UInt8)) : flat (L ++ M) = flat L ++ flat M := by simp [flat]
theorem Wide.tail {l : List UInt8} {L : List (List UInt8)} (h : Wide (l :: L)) : Wide L := fun m hm => h m (List.mem_cons_of_mem _ hm)
theorem Wide.append {L M : List (List UInt8)} (h : Wide L) (k : Wide M) : Wide (L ++ M) := fun m hm => (List.mem_append.1 hm).elim (h m) (k m)
theorem Wide.one {l : List UInt8} (h : l.length = 256) : Wide [l] := fun m hm => by simp at hm; subst hm; exact h
theorem Wide.set {L : List (List UInt8)} (h : Wide L) (i : Nat) {l : List UInt8} (hl : l.length = 256) : Wide (L.set i l) := fun m hm => by
  rcases List.mem_or_eq_of_mem_set hm with h1 | h1
  · exact h m h1
  · subst h1; exact hl
theorem Wide.at_ {L : List (List UInt8)} (h : Wide L) {i : Nat} (hi : i < L.length) : (L[i]).length = 256 := h _ (List.getElem_mem hi)
theorem flat_length : ∀ {L : List (List UInt8)}, Wide L → (flat L).length = L.length * 256
  | [], _ => rfl
  | l :: L, h => by rw [flat_cons, List.length_append, cellsB_length, h l (.head _), flat_length h.tail, List.length_cons]; omega
theorem flat_one (L : List (List UInt8)) : ∀ u ∈ flat L, u.oneCell' = true := by
  intro u hu
  obtain ⟨l, _, hl⟩ := List.mem_flatMap.1 hu
  exact cellsB_one l u hl
/-- Sector i is the 256 cells from 256 i on. -/
theorem flat_part : ∀ {L : List (List UInt8)}, Wide L → ∀ {i : Nat} (hi : i < L.length), ((flat L).drop (i * 256)).take 256 = cellsB L[i]
  | [], _, _, hi => by simp at hi
  | l :: L, h, 0, _ => by
    rw [flat_cons]
    have : (cellsB l).length = 256 := by rw [cellsB_length]; exact h l (.head _)
    rw [Nat.zero_mul, List.drop_zero, List.take_append_of_le_length (by omega), List.take_of_length_le (by omega)]
    rfl
  | l :: L, h, i + 1, hi => by
    rw [flat_cons]
    have : (cellsB l).length = 256 := by rw [cellsB_length]; exact h l (.head _)
    rw [show (i + 1) * 256 = (cellsB l).length + i * 256 by omega, ← List.drop_drop, List.drop_left]
    exact flat_part h.tail (Nat.lt_of_succ_lt_succ hi)
theorem flat_get {L : List (List UInt8)} (h : Wide L) {i : Nat} (hi : i < L.length) {j : Nat} {u : Value} (hu : (cellsB L[i])[j]? = some u) : (flat L)[i * 256 + j]? = some u := by
  rw [← flat_part h hi, List.getElem?_take] at hu
  split at hu
  · rwa [List.getElem?_drop] at hu
  · cases hu
theorem flat_set : ∀ {L : List (List UInt8)}, Wide L → ∀ {i : Nat}, i < L.length → ∀ (l : List UInt8), (flat L).take (i * 256) ++ cellsB l ++ (flat L).drop (i * 256 + 256) = flat (L.set i l)
  | [], _, _, hi, _ => by simp at hi
  | m :: L, h, 0, _, l => by
    have : (cellsB m).length = 256 := by rw [cellsB_length]; exact h m (.head _)
    rw [List.set_cons_zero, flat_cons, flat_cons, Nat.zero_mul, List.take_zero, List.nil_append, Nat.zero_add, ← this, List.drop_left]
  | m :: L, h, i + 1, hi, l => by
    have hm : (cellsB m).length = 256 := by rw [cellsB_length]; exact h m (.head _)
    have ih := flat_set h.tail (Nat.lt_of_succ_lt_succ hi) l
    rw [List.set_cons_succ, flat_cons, flat_cons, ← ih, show (i + 1) * 256 = (cellsB m).length + i * 256 by omega, List.take_length_add_append, show (cellsB m).length + i * 256 + 256 = (cellsB m).length + (i * 256 + 256) by omega, ← List.drop_drop, List.drop_left]
    simp only [List.append_assoc]

/-! ### A block of sectors -/
section
variable {P : Program} {w : World} {g : Nat} {t : TypeId} {cs : List Value}
theorem rangeAt_block {fr : Nat × Nat} {o : Nat} {xs : List Value} (hg : w.heap[g]? = some (.cells cs.toArray t fr)) (h : ∀ (j : Nat) (u : Value), xs[j]? = some u → cs[o + j]? = some u) : w.rangeAt g o xs := fun j u hu => by
  rw [cell_of_row w g (o + j) _ t fr hg]
  simpa using h j u hu
/-- A sector, read. -/
theorem load_sector (hg : w.heap[g]? = some (.cells cs.toArray t (0, 0))) {L : List (List UInt8)} (hL : Wide L) {i : Nat} (hi : i < L.length) (hpre : cs.take (L.length * 256) = flat L) {ty e : TypeId} (hu : P.underlying ty = some (.array 256 e)) (hz : (P.info? ty).map (·.size) = some 256) :
    (Instr.loadAt ty (.pointer (some ⟨g, i * 256, none⟩))).run P w = .ok (.agg (cellsB L[i]).toArray) w := by
  refine run_loadAt_mid w g (i * 256) ty (cellsB L[i]) _ (rangeAt_block hg fun j u hj => ?_) hu rfl (by rw [hz, cellsB_length, hL.at_ hi])
  have := flat_get hL hi hj
  rw [← hpre, List.getElem?_take] at this
  split at this
  · exact this
  · cases this
/-- 256 cells, stored. -/
theorem store_sector (hg : w.heap[g]? = some (.cells cs.toArray t (0, 0))) {l : List UInt8} (hl : l.length = 256) {o : Nat} (ho : o + 256 ≤ cs.length) {ty : TypeId} (hz : (P.info? ty).map (·.size) = some 256) :
    ∃ w', (Instr.storeAt ty (.pointer (some ⟨g, o, none⟩)) (.agg (cellsB l).toArray)).run P w = .ok () w' ∧ w'.heap[g]? = some (.cells (cs.take o ++ cellsB l ++ cs.drop (o + 256)).toArray t (0, 0)) ∧ w.grownBy w' (some g) ∧ w'.heap.size = w.heap.size := by
  have hlen : (cellsB l).length = 256 := by rw [cellsB_length, hl]
  have h := run_storeCells_at P g o t (cellsB l) 0 cs.toArray w hg (by simp [hlen]; omega) (cellsB_one l)
  cases hq : P.info? ty with
  | none => simp [hq] at hz
  | some i =>
    have hs : i.size = 256 := by simpa [hq] using hz
    simp only [Nat.add_zero, hlen] at h
    refine ⟨w.setRow g (cs.take o ++ cellsB l ++ cs.drop (o + 256)).toArray, ?_, setRow_heap w g cs.toArray _ t (0, 0) hg, ⟨rfl, rfl, rfl, by simp, fun k hk hne => setRow_other w g k _ (fun e => hne (by rw [e]))⟩, by simp⟩
    simp only [Instr.storeAt, Instr.sureAddr, Sem.run_bind, Sem.run_pure, Result.andThen_ok, storeVar, sizeOf, typeInfo]
    simp [hq, Value.cells, hs, hlen, h]
end

/-! ### At the operations -/
section
variable {P : Program} {w : World} {ops : Array Oper} {rest : List Oper} {o : Oper} {a : Act} {Q : Exit → Act → World → Prop}
/-- An operation whose run is known. -/
theorem wpList_run (hgd : o.guard = none) (v : Value) (w' : World) (hrun : (execOp a.eval o).run P w = .ok (.value v) w') (h : wpList P ops Q rest (a.put o.dst v) w') : wpList P ops Q (o :: rest) a w := by
  refine wpList_plain hgd fun K hK => ?_
  unfold Oper.wp
  rw [hrun]
  exact hK _ _ h
/-- A new variable that holds an array's zeros. -/
theorem wpList_alloc_zero (hgd : o.guard = none) (t : TypeId) (ho : o.op = .alloc t) (Z : Array Value) (hz : ∀ w, (zeroValue t).run P w = .ok (.agg Z) w)
    (h : wpList P ops Q rest (a.put o.dst (.pointer (some ⟨w.heap.size, 0, none⟩))) (w.alloc (.cells Z t))) : wpList P ops Q (o :: rest) a w := by
  refine wpList_run hgd _ _ ?_ h
  unfold execOp
  simp only [ho, Instr.alloc, Sem.run_bind, hz, Result.andThen_ok]
  rfl
/-- An array stored into the variable that was made last. -/
theorem wpList_store_new (hgd : o.guard = none) (t : TypeId) (x y : Operand) (ho : o.op = .store t x y) (Z c : Array Value) (hx : a.eval x = .pointer (some ⟨w.heap.size, 0, none⟩)) (hy : a.eval y = .agg c)
    (hi : (P.info? t).map (·.size) = some c.size) (hs : Z.size = c.size) (h1 : c.all (·.oneCell') = true)
    (h : wpList P ops Q rest (a.put o.dst undef) (w.alloc (.cells c t))) : wpList P ops Q (o :: rest) a (w.alloc (.cells Z t)) := by
  refine wpList_plain hgd fun K hK => ?_
  unfold Oper.wp execOp
  simp only [ho, hx, hy, run_storeAt_new w t Z c hi hs h1, Sem.run_bind, Result.andThen_ok]
  exact hK _ _ h
end

/-! ### An array as the one element of a new slice -/
theorem setAll_get (l : List Value) : ∀ (k : Nat) (arr : Array Value) (i : Nat), ((l.zipIdx k).foldl (fun cs (x : Value × Nat) => cs.setIfInBounds (0 + x.2) x.1) arr)[i]? = if k ≤ i ∧ i < k + l.length ∧ i < arr.size then l[i - k]? else arr[i]? := by
  induction l with
  | nil => intro k arr i; simp; intro h1 h2; omega
  | cons x l ih =>
    intro k arr i
    rw [List.zipIdx_cons, List.foldl_cons, ih]
    simp only [Nat.zero_add, Array.size_setIfInBounds, List.length_cons]
    by_cases h : k = i
    · subst h
      by_cases hs : k < arr.size
      · rw [if_neg (by omega), if_pos (by omega)]
        simp [hs]
      · rw [if_neg (by omega), if_neg (by omega)]
        rw [Array.getElem?_eq_none (by simp; omega), Array.getElem?_eq_none (by omega)]
    · by_cases h2 : k + 1 ≤ i ∧ i < k + 1 + l.length ∧ i < arr.size
      · rw [if_pos h2, if_pos (by omega)]
        rw [show i - k = (i - (k + 1)) + 1 by omega, List.getElem?_cons_succ]
      · rw [if_neg h2, if_neg (by omega)]
        rw [Array.getElem?_setIfInBounds_ne h]
theorem setAll_eq (c arr : Array Value) (h : arr.size = c.size) : c.zipIdx.foldl (fun cs (x : Value × Nat) => cs.setIfInBounds (0 + x.2) x.1) arr = c := by
  apply Array.ext_getElem?
  intro i
  rw [← Array.foldl_toList, Array.toList_zipIdx, setAll_get]
  by_cases hi : i < c.size
  · rw [if_pos (by simp; omega)]
    simp
  · rw [if_neg (by simp; omega), Array.getElem?_eq_none (by omega), Array.getElem?_eq_none (by omega)]
theorem fill_one (place : Nat → Option (Nat × Nat)) (c base : Array Value) (hp : place 0 = some (0, c.size)) (hb : base.size = c.size) : Instr.fill place base [(0, .agg c)] = some c := by
  have h := setAll_eq c base hb
  simp only [Nat.zero_add] at h
  simp [Instr.fill, hp, Value.cells, hb]
  simpa using h
section
variable {P : Program} {w : World} {ops : Array Oper} {o : Oper} {a : Act} {K : Act → World → Prop} {Q : Exit → Act → World → Prop} {E : Prop}
/-- In a region that draws its order: an operation whose run is known. -/
theorem step_run (hgd : o.guard = none) (v : Value) (w' : World) (hrun : (execOp a.eval o).run P w = .ok (.value v) w') (hK : K (a.put o.dst v) w') : if Region.wanted o (yielded ops a.tmps) = true then Oper.wp P o a w K Q else E := by
  have hw : Region.wanted o (yielded ops a.tmps) = true := by simp [Region.wanted, hgd]
  rw [if_pos hw]
  unfold Oper.wp
  rw [hrun]
  exact hK
theorem wp_run (v : Value) (w' : World) (hrun : (execOp a.eval o).run P w = .ok (.value v) w') (hK : K (a.put o.dst v) w') : Oper.wp P o a w K Q := by
  unfold Oper.wp
  rw [hrun]
  exact hK
theorem wp_skip (w' : World) (hrun : (execOp a.eval o).run P w = .ok .skip w') (hK : K (a.put o.dst undef) w') : Oper.wp P o a w K Q := by
  unfold Oper.wp
  rw [hrun]
  exact hK
/-- .. that yields nothing. -/
theorem step_skip (hgd : o.guard = none) (w' : World) (hrun : (execOp a.eval o).run P w = .ok .skip w') (hK : K (a.put o.dst undef) w') : if Region.wanted o (yielded ops a.tmps) = true then Oper.wp P o a w K Q else E := by
  have hw : Region.wanted o (yielded ops a.tmps) = true := by simp [Region.wanted, hgd]
  rw [if_pos hw]
  unfold Oper.wp
  rw [hrun]
  exact hK
theorem exec_load {ρ : Operand → Value} {t : TypeId} {x : Operand} (ho : o.op = .load t x) {pv v : Value} (hx : ρ x = pv) {w' : World} (hrun : (Instr.loadAt t pv).run P w = .ok v w') : (execOp ρ o).run P w = .ok (.value v) w' := by
  unfold execOp
  simp only [ho, hx, Sem.run_bind, hrun, Result.andThen_ok, Sem.run_pure]
theorem exec_slice_one {ρ : Operand → Value} {t : TypeId} {x : Operand} (ho : o.op = .buildSlice t 1 #[(0, x)]) {v u : Value} (hx : ρ x = v) {w' : World} (hrun : (Instr.buildSlice t 1 #[(0, v)]).run P w = .ok u w') : (execOp ρ o).run P w = .ok (.value u) w' := by
  unfold execOp
  simp only [ho, List.map_toArray, List.map_cons, List.map_nil, hx, Sem.run_bind, hrun, Result.andThen_ok, Sem.run_pure]
theorem exec_append {ρ : Operand → Value} {t : TypeId} {x y : Operand} (ho : o.op = .call { callee := .builtin .append, args := #[x, y], argTypes := #[t, t] }) {u v r : Value} (hx : ρ x = u) (hy : ρ y = v) {w' : World}
    (hrun : (Builtin.append_ #[t, t] o.type #[u, v]).run P w = .ok r w') : (execOp ρ o).run P w = .ok (.value r) w' := by
  unfold execOp
  simp only [ho, resolve, invoke, builtin, Sem.run_bind, Sem.run_pure, Result.andThen_ok, List.map_toArray, List.map_cons, List.map_nil, hx, hy, hrun]
theorem exec_mapUpdate {ρ : Operand → Value} {t : TypeId} {m x y : Operand} (ho : o.op = .mapUpdate t m x y) {vm vx vy : Value} (hm : ρ m = vm) (hx : ρ x = vx) (hy : ρ y = vy) {w' : World}
    (hrun : (Instr.mapUpdate t vm vx vy).run P w = .ok () w') : (execOp ρ o).run P w = .ok .skip w' := by
  unfold execOp
  simp only [ho, hm, hx, hy, Sem.run_bind, hrun, Result.andThen_ok, Sem.run_pure]
theorem exec_lookup {ρ : Operand → Value} {t : TypeId} {m x : Operand} {ok : Bool} (ho : o.op = .lookup t m x ok) {vm vx v : Value} (hm : ρ m = vm) (hx : ρ x = vx) {w' : World}
    (hrun : (Instr.lookup t vm vx ok).run P w = .ok v w') : (execOp ρ o).run P w = .ok (.value v) w' := by
  unfold execOp
  simp only [ho, hm, hx, Sem.run_bind, hrun, Result.andThen_ok, Sem.run_pure]
theorem exec_clear {ρ : Operand → Value} {t : TypeId} {x : Operand} (ho : o.op = .call { callee := .builtin .clear, args := #[x], argTypes := #[t] }) {u r : Value} (hx : ρ x = u) {w' : World}
    (hrun : (Builtin.clear_ #[t] o.type #[u]).run P w = .ok r w') : (execOp ρ o).run P w = .ok (.value r) w' := by
  unfold execOp
  simp only [ho, resolve, invoke, builtin, Sem.run_bind, Sem.run_pure, Result.andThen_ok, List.map_toArray, List.map_cons, List.map_nil, hx, hrun]
theorem exec_min {ρ : Operand → Value} {t : TypeId} {x y : Operand} (ho : o.op = .call { callee := .builtin .min, args := #[x, y], argTypes := #[t, t] }) {k : IntKind} {m n q : Int} (hx : ρ x = .int k m) (hy : ρ y = .int k n) (hq : q = if n < m then n else m) :
    (execOp ρ o).run P w = .ok (.value (.int k q)) w := by
  subst hq
  unfold execOp
  simp only [ho, resolve, invoke, builtin, Sem.run_bind, Sem.run_pure, Result.andThen_ok, List.map_toArray, List.map_cons, List.map_nil, hx, hy, Builtin.min_, List.foldlM_cons, List.foldlM_nil, Builtin.min2, Sem.run_bind, Sem.run_pure]
theorem exec_makeSlice {ρ : Operand → Value} {t : TypeId} {x y : Operand} (ho : o.op = .makeSlice t x y) {u v r : Value} (hx : ρ x = u) (hy : ρ y = v) {w' : World} (hrun : (Instr.makeSlice t u v).run P w = .ok r w') : (execOp ρ o).run P w = .ok (.value r) w' := by
  unfold execOp
  simp only [ho, hx, hy, Sem.run_bind, hrun, Result.andThen_ok, Sem.run_pure]
theorem exec_store {ρ : Operand → Value} {t : TypeId} {x y : Operand} (ho : o.op = .store t x y) {vx vy : Value} (hx : ρ x = vx) (hy : ρ y = vy) {w' : World}
    (hrun : (Instr.storeAt t vx vy).run P w = .ok () w') : (execOp ρ o).run P w = .ok .skip w' := by
  unfold execOp
  simp only [ho, hx, hy, Sem.run_bind, hrun, Result.andThen_ok, Sem.run_pure]
theorem run_slice_one (t e : TypeId) (c : Array Value) (ie : TypeInfo) (z : Value) (hu : P.underlying t = some (.slice e)) (hie : P.info? e = some ie) (hz : ie.zero = some z) (hs : ie.size = c.size) (hp : 0 < c.size) (hsm : c.size ≤ 65536) :
    (Instr.buildSlice t 1 #[(0, .agg c)]).run P w = .ok (.slice (some ⟨w.heap.size, 0, none⟩) 1 1) (w.alloc (.cells c e)) := by
  refine run_buildSlice w t e 1 _ c ie z hu hie hz (by omega) (by omega) ?_
  exact fill_one _ c _ (by simp [hs]) (by simp [hs])
end

/-! ### What may turn -/
/-- From w to w' nothing has turned but blocks that F lets, and new ones. -/
structure Only (F : Nat → Prop) (w w' : World) : Prop where
  os : w'.os = w.os
  tape : w'.tape = w.tape
  output : w'.output = w.output
  size : w.heap.size ≤ w'.heap.size
  block : ∀ k, k < w.heap.size → ¬ F k → w'.heap[k]? = w.heap[k]?
section
variable {F F' : Nat → Prop} {w w1 w2 : World}
theorem Only.refl (F : Nat → Prop) (w : World) : Only F w w := ⟨rfl, rfl, rfl, Nat.le_refl _, fun _ _ _ => rfl⟩
theorem Only.trans (h : Only F w w1) (k : Only F w1 w2) : Only F w w2 :=
  ⟨k.os.trans h.os, k.tape.trans h.tape, k.output.trans h.output, Nat.le_trans h.size k.size, fun i hi hn => (k.block i (Nat.lt_of_lt_of_le hi h.size) hn).trans (h.block i hi hn)⟩
theorem Only.mono (h : Only F w w1) (hF : ∀ k, k < w.heap.size → F k → F' k) : Only F' w w1 := ⟨h.os, h.tape, h.output, h.size, fun k hk hn => h.block k hk fun hf => hn (hF k hk hf)⟩
theorem Only.grown {row : Option Nat} (h : w.grownBy w1 row) (hr : ∀ g, row = some g → F g) : Only F w w1 :=
  ⟨h.os, h.tape, h.output, h.size, fun k hk hn => h.block k hk fun e => hn (hr k e.symm)⟩
theorem Only.of_below (h : Below w.heap.size w w1) : Only F w w1 := ⟨h.os, h.tape, h.output, h.size, fun k hk _ => h.block k hk⟩
theorem Only.alloc (F : Nat → Prop) (w : World) (o : Obj) : Only F w (w.alloc o) := Only.of_below ((Below.refl _ _).alloc (Nat.le_refl _) _)
theorem Only.drew (F : Nat → Prop) (w : World) : Only F w w.drew := ⟨rfl, rfl, rfl, Nat.le_refl _, fun _ _ _ => rfl⟩
theorem Only.below {B : Nat} (h : Only (fun k => B ≤ k) w w1) (hB : B ≤ w.heap.size) : Below B w w1 :=
  ⟨h.os, h.tape, h.output, h.size, fun k hk => h.block k (by omega) (by omega)⟩
theorem Only.setCell {p : Addr} (hp : F p.block) (v : Value) : Only F w (w.setCell p v) :=
  ⟨rfl, rfl, rfl, by simp, fun k _ hn => heap_setCell_other w p k v (fun e => hn (e ▸ hp))⟩
end
end Go.Proofs.YtnmokkkbghlpbaaGreat
/-
  What the blocks of a device hold; its small functions, by contracts.
-/
namespace Go.Proofs.YtnmokkkbghlpbaaGreat
open Go.RowKit

/-- A device, in the document's terms: what is to fail (told, how many are done ahead), the sectors that last, what waits, the number of Writes. -/
structure Dev where
  f : Nat → Bool × Nat
  L : List (List UInt8)
  Q : Nat → List (List UInt8)
  n : Nat
/-- The cells of the device's own block. -/
def devCells (d : Dev) (bl bm : Nat) : List Value :=
  [.bool (d.f 0).1, .int .i64 ((d.f 0).2 : Int), .bool (d.f 1).1, .int .i64 ((d.f 1).2 : Int), .bool (d.f 2).1, .int .i64 ((d.f 2).2 : Int), .bool (d.f 3).1, .int .i64 ((d.f 3).2 : Int),
   .slice (some ⟨bl, 0, none⟩) d.L.length d.L.length, .map (some bm), .int .i64 (d.n : Int)]
/-- How an element of the map reads: as it stands. -/
def asHeld (v : Value) : Option (DataW Value × List MemPlace) := some (.held v, [])
/-- The key of sector i. -/
abbrev keyL (i : Nat) : Lit := .int .i64 (i : Int)

/-- In w there is the device d at block p, in blocks of F alone: bl: the sectors that last; bm: the map of what waits; S: the map's elements. -/
structure DevIs (w : World) (F : Nat → Prop) (p bl bm : Nat) (S : Nat → Value) (D : DataW Value) (d : Dev) : Prop where
  top : w.heap[p]? = some (.cells (devCells d bl bm).toArray 119 (0, 0))
  last : w.heap[bl]? = some (.cells (flat d.L).toArray 121 (0, 0))
  map : w.ownsMap Tryz.prog 3 asHeld bm d.n D
  at_ : ∀ i : Nat, i < d.L.length → D.atKey (keyL i) (.held (.slice none 0 0)) = .held (S i)
  row : ∀ i : Nat, i < d.L.length → w.ownsRow 0 121 256 (S i) (d.Q i).length (flat (d.Q i))
  has : ∀ i : Nat, i < d.L.length → (Maps.has D (keyL i) = true ↔ d.Q i ≠ [])
  keys : ∀ kl, Maps.has D kl = true → ∃ i : Nat, i < d.L.length ∧ kl = keyL i
  apart : ∀ i j : Nat, i < d.L.length → j < d.L.length → i ≠ j → (S i).ownBlock = none ∨ (S i).ownBlock ≠ (S j).ownBlock
  own : ∀ (i g : Nat), i < d.L.length → (S i).ownBlock = some g → F g ∧ g ≠ p ∧ g ≠ bl ∧ g ≠ bm
  ne : p ≠ bl ∧ p ≠ bm ∧ bl ≠ bm
  inF : F p ∧ F bl ∧ F bm
  wl : Wide d.L
  wq : ∀ i, Wide (d.Q i)
  size : 16 ≤ d.L.length ∧ d.L.length ≤ 1600
  few : ∀ i, (d.Q i).length ≤ d.n
  fuel : ∀ k, (d.f k).2 ≤ 9223372036854775807

/-- A pointer to a block's head. -/
abbrev at0 (p : Nat) : Value := .pointer (some ⟨p, 0, none⟩)

section
variable {w : World} {F : Nat → Prop} {p bl bm : Nat} {S : Nat → Value} {D : DataW Value} {d : Dev}
theorem DevIs.cell (h : DevIs w F p bl bm S D d) {j : Nat} {v : Value} (hv : (devCells d bl bm)[j]? = some v) : w.cell? ⟨p, j, none⟩ = some v := by
  rw [cell_of_row w p j _ 119 (0, 0) h.top]
  simpa using hv
theorem DevIs.free (h : DevIs w F p bl bm S D d) (j : Nat) : w.frozen? ⟨p, j, none⟩ = false := frozen_of_row w p j _ 119 h.top
theorem DevIs.c8 (h : DevIs w F p bl bm S D d) : w.cell? ⟨p, 8, none⟩ = some (.slice (some ⟨bl, 0, none⟩) d.L.length d.L.length) := h.cell rfl
theorem DevIs.c9 (h : DevIs w F p bl bm S D d) : w.cell? ⟨p, 9, none⟩ = some (.map (some bm)) := h.cell rfl
theorem DevIs.c10 (h : DevIs w F p bl bm S D d) : w.cell? ⟨p, 10, none⟩ = some (.int .i64 (d.n : Int)) := h.cell rfl
theorem DevIs.told (h : DevIs w F p bl bm S D d) {k : Nat} (hk : k < 4) : w.cell? ⟨p, 2 * k, none⟩ = some (.bool (d.f k).1) := h.cell (by match k, hk with | 0, _ => rfl | 1, _ => rfl | 2, _ => rfl | 3, _ => rfl)
theorem DevIs.ahead (h : DevIs w F p bl bm S D d) {k : Nat} (hk : k < 4) : w.cell? ⟨p, 2 * k + 1, none⟩ = some (.int .i64 ((d.f k).2 : Int)) := h.cell (by match k, hk with | 0, _ => rfl | 1, _ => rfl | 2, _ => rfl | 3, _ => rfl)
theorem DevIs.keep {w' : World} (h : DevIs w F p bl bm S D d) (hk : ∀ k, k < w.heap.size → F k → w'.heap[k]? = w.heap[k]?) : DevIs w' F p bl bm S D d := by
  have kp : ∀ {k : Nat} {o : Obj}, F k → w.heap[k]? = some o → w'.heap[k]? = some o := fun hF e => (hk _ (Array.getElem?_eq_some_iff.1 e).1 hF).trans e
  refine { h with top := kp h.inF.1 h.top, last := kp h.inF.2.1 h.last, map := ?_, row := fun i hi => ?_ }
  · obtain ⟨es, clock, hb, rest⟩ := h.map
    exact ⟨es, clock, kp h.inF.2.2 hb, rest⟩
  · have hr := h.row i hi
    refine ⟨hr.1, ?_⟩
    rcases hr.2 with hn | ⟨g, cap, cur, e, hb, hg, rest⟩
    · exact .inl hn
    · exact .inr ⟨g, cap, cur, e, hb, kp (h.own i g hi (by rw [e]; rfl)).1 hg, rest⟩
theorem DevIs.mono {F' : Nat → Prop} (h : DevIs w F p bl bm S D d) (hF : ∀ k, k < w.heap.size → F k → F' k) : DevIs w F' p bl bm S D d := by
  have lt : ∀ {k : Nat} {o : Obj}, w.heap[k]? = some o → k < w.heap.size := fun e => (Array.getElem?_eq_some_iff.1 e).1
  refine { h with inF := ⟨hF _ (lt h.top) h.inF.1, hF _ (lt h.last) h.inF.2.1, hF _ h.map.lt h.inF.2.2⟩, own := fun i g hi e => ?_ }
  have := h.own i g hi e
  exact ⟨hF g ((h.row i hi).lt g e).2 this.1, this.2⟩
theorem DevIs.below {w' : World} (h : DevIs w F p bl bm S D d) (hb : Below w.heap.size w w') : DevIs w' F p bl bm S D d := h.keep fun k hk _ => hb.block k hk
theorem DevIs.lt (h : DevIs w F p bl bm S D d) : p < w.heap.size ∧ bl < w.heap.size ∧ bm < w.heap.size :=
  ⟨(Array.getElem?_eq_some_iff.1 h.top).1, (Array.getElem?_eq_some_iff.1 h.last).1, h.map.lt⟩
end

theorem bcell {W w1 : World} (hb : Below W.heap.size W w1) : (∀ b o, b < W.heap.size → w1.cell? ⟨b, o, none⟩ = W.cell? ⟨b, o, none⟩) ∧ (∀ b o, b < W.heap.size → w1.frozen? ⟨b, o, none⟩ = W.frozen? ⟨b, o, none⟩) :=
  ⟨fun b o h => hb.cell (p := ⟨b, o, none⟩) h, fun b o h => hb.frozen (p := ⟨b, o, none⟩) h⟩

set_option maxRecDepth 100000 in
theorem len_any {w : World} {p bl n : Nat} (hc : w.cell? ⟨p, 8, none⟩ = some (.slice (some ⟨bl, 0, none⟩) n n)) : Calls Tryz.prog 72 #[at0 p] w fun e w' => e = .returned (.int .i64 n) ∧ w = w' := by
  go_enter Tryz.func72, Tryz.ntmps72
  go_wp2_with fail
  go_ret
  exact ⟨rfl, rfl⟩
set_option maxRecDepth 100000 in
theorem len_nil (w : World) : Calls Tryz.prog 72 #[.pointer none] w fun e w' => e = .returned (.int .i64 0) ∧ w = w' := by
  go_enter Tryz.func72, Tryz.ntmps72
  go_wp2_with fail
  go_ret
  exact ⟨rfl, rfl⟩
set_option maxRecDepth 100000 in
theorem has_yes {w : World} {p bl n i : Nat} (hc : w.cell? ⟨p, 8, none⟩ = some (.slice (some ⟨bl, 0, none⟩) n n)) (hi : i < n) : Calls Tryz.prog 48 #[at0 p, .int .i64 i] w fun e w' => e = .returned (.bool true) ∧ w = w' := by
  go_enter Tryz.func48, Tryz.ntmps48
  go_wp2_with (go_at_call 72; refine (len_any hc).mono ?_; rintro e w' ⟨rfl, rfl⟩)
  go_ret
  exact ⟨rfl, rfl⟩
set_option maxRecDepth 100000 in
theorem has_no {w : World} {p bl n : Nat} {i : Int} (hc : w.cell? ⟨p, 8, none⟩ = some (.slice (some ⟨bl, 0, none⟩) n n)) (hi : i < 0 ∨ (n : Int) ≤ i) : Calls Tryz.prog 48 #[at0 p, .int .i64 i] w fun e w' => e = .returned (.bool false) ∧ w = w' := by
  rcases hi with hi | hi
  · go_enter Tryz.func48, Tryz.ntmps48
    go_wp2_with (go_at_call 72; refine (len_any hc).mono ?_; rintro e w' ⟨rfl, rfl⟩)
    go_ret
    exact ⟨rfl, rfl⟩
  · have h0 : decide (i < (n : Int)) = false := by simp; omega
    go_enter Tryz.func48, Tryz.ntmps48
    go_wp2_with (go_at_call 72; refine (len_any hc).mono ?_; rintro e w' ⟨rfl, rfl⟩)
    go_ret
    exact ⟨rfl, rfl⟩
set_option maxRecDepth 100000 in
theorem has_nil (i : Int) (w : World) : Calls Tryz.prog 48 #[.pointer none, .int .i64 i] w fun e w' => e = .returned (.bool false) ∧ w = w' := by
  by_cases h0 : 0 ≤ i
  · have h1 : decide (i < 0) = false := by simp; omega
    go_enter Tryz.func48, Tryz.ntmps48
    go_wp2_with (go_at_call 72; refine (len_nil _).mono ?_; rintro e w' ⟨rfl, rfl⟩)
    go_ret
    exact ⟨rfl, rfl⟩
  · go_enter Tryz.func48, Tryz.ntmps48
    go_wp2_with (go_at_call 72; refine (len_nil _).mono ?_; rintro e w' ⟨rfl, rfl⟩)
    go_ret
    exact ⟨rfl, rfl⟩
end Go.Proofs.YtnmokkkbghlpbaaGreat
/-
  A cache in plain terms; the frames of it, one behind the other, in a block; what the blocks of a cache hold.
-/
namespace Go.Proofs.YtnmokkkbghlpbaaGreat
open Go.RowKit

/-! ### Rows of equal length, one behind the other -/
section
variable {α : Type} {g : α → List Value} {m : Nat}
theorem chunks_length {L : List α} (h : ∀ x ∈ L, (g x).length = m) : (L.flatMap g).length = L.length * m := by
  induction L with
  | nil => simp
  | cons a L ih =>
    rw [List.flatMap_cons, List.length_append, h a (.head _), ih fun x hx => h x (List.mem_cons_of_mem _ hx), List.length_cons, Nat.succ_mul]
    omega
theorem chunks_split {L : List α} {i : Nat} (hi : i < L.length) : L.flatMap g = (L.take i).flatMap g ++ (g L[i] ++ (L.drop (i + 1)).flatMap g) := by
  have e : L = L.take i ++ L[i] :: L.drop (i + 1) := by rw [List.getElem_cons_drop, List.take_append_drop]
  have e2 := congrArg (List.flatMap g) e
  rw [List.flatMap_append, List.flatMap_cons] at e2
  exact e2
theorem chunks_head {L : List α} (h : ∀ x ∈ L, (g x).length = m) {i : Nat} (hi : i ≤ L.length) : ((L.take i).flatMap g).length = i * m := by
  rw [chunks_length fun x hx => h x (List.mem_of_mem_take hx), List.length_take, Nat.min_eq_left hi]
theorem chunks_get {L : List α} (h : ∀ x ∈ L, (g x).length = m) {i : Nat} (hi : i < L.length) {j : Nat} {u : Value} (hu : (g L[i])[j]? = some u) : (L.flatMap g)[i * m + j]? = some u := by
  have hj := (List.getElem?_eq_some_iff.1 hu).1
  rw [chunks_split hi, List.getElem?_append_right (by rw [chunks_head h (Nat.le_of_lt hi)]; omega), chunks_head h (Nat.le_of_lt hi), Nat.add_sub_cancel_left, List.getElem?_append_left hj]
  exact hu
/-- Some cells of row i, in the place of others. -/
theorem chunks_put {L : List α} (h : ∀ x ∈ L, (g x).length = m) {i : Nat} (hi : i < L.length) {j : Nat} {ys : List Value} {y : α} (hj : j + ys.length ≤ m) (hy : (g L[i]).take j ++ ys ++ (g L[i]).drop (j + ys.length) = g y) :
    (L.flatMap g).take (i * m + j) ++ ys ++ (L.flatMap g).drop (i * m + j + ys.length) = (L.set i y).flatMap g := by
  have h1 := chunks_head h (Nat.le_of_lt hi)
  have h2 := h L[i] (List.getElem_mem hi)
  have e : (L.set i y).flatMap g = (L.take i).flatMap g ++ (g y ++ (L.drop (i + 1)).flatMap g) := by
    rw [List.set_eq_take_append_cons_drop, if_pos hi, List.flatMap_append, List.flatMap_cons]
  rw [e, chunks_split hi, ← hy, ← h1]
  rw [List.take_length_add_append, List.take_append_of_le_length (by omega), Nat.add_assoc, List.drop_length_add_append, List.drop_append_of_le_length (by omega)]
  simp only [List.append_assoc]
theorem chunks_set {L : List α} (h : ∀ x ∈ L, (g x).length = m) {i : Nat} (hi : i < L.length) {j : Nat} {v : Value} {y : α} (hj : j < m) (hy : (g L[i]).set j v = g y) :
    (L.flatMap g).set (i * m + j) v = (L.set i y).flatMap g := by
  have h2 := h L[i] (List.getElem_mem hi)
  have hlen := chunks_length h
  have hb : i * m + m ≤ L.length * m := by
    have := Nat.mul_le_mul_right m (show i + 1 ≤ L.length by omega)
    rw [Nat.succ_mul] at this
    exact this
  have := chunks_put h hi (j := j) (ys := [v]) (y := y) (by simp; omega) (by
    rw [← hy, List.set_eq_take_append_cons_drop, if_pos (by omega)]
    simp)
  rw [← this, List.set_eq_take_append_cons_drop, if_pos (by omega)]
  simp
end

/-! ### Frames -/
/-- A frame. -/
structure Frm where
  full : Bool
  no : Int
  b : List UInt8
  dirty : Bool
  used : Bool
  pins : Nat
/-- A frame that holds nothing. -/
def Frm.zero : Frm := ⟨false, 0, List.replicate 256 0, false, false, 0⟩
/-- The 261 cells of a frame. -/
def frCells (f : Frm) : List Value := .bool f.full :: .int .i64 f.no :: (cellsB f.b ++ [.bool f.dirty, .bool f.used, .int .i64 (f.pins : Int)])
/-- The cells of frames, one behind the other. -/
def rows (L : List Frm) : List Value := L.flatMap frCells
/-- Each has 256 bytes. -/
def Broad (L : List Frm) : Prop := ∀ f ∈ L, f.b.length = 256
theorem Broad.at_ {L : List Frm} (h : Broad L) {i : Nat} (hi : i < L.length) : (L[i]).b.length = 256 := h _ (List.getElem_mem hi)
theorem Broad.set {L : List Frm} (h : Broad L) (i : Nat) {f : Frm} (hf : f.b.length = 256) : Broad (L.set i f) := fun m hm => by
  rcases List.mem_or_eq_of_mem_set hm with h1 | h1
  · exact h m h1
  · subst h1; exact hf
theorem frCells_length {f : Frm} (h : f.b.length = 256) : (frCells f).length = 261 := by simp [frCells, cellsB_length, h]
theorem Broad.cells {L : List Frm} (h : Broad L) : ∀ f ∈ L, (frCells f).length = 261 := fun f hf => frCells_length (h f hf)
theorem frCells_one (f : Frm) : ∀ u ∈ frCells f, u.oneCell' = true := by
  intro u hu
  simp only [frCells, List.mem_cons, List.mem_append, List.not_mem_nil, or_false] at hu
  rcases hu with rfl | rfl | hu | rfl | rfl | rfl
  · rfl
  · rfl
  · exact cellsB_one _ u hu
  · rfl
  · rfl
  · rfl
theorem frCells_byte {f : Frm} {j : Nat} {u : Value} (hu : (cellsB f.b)[j]? = some u) : (frCells f)[2 + j]? = some u := by
  have hj := (List.getElem?_eq_some_iff.1 hu).1
  unfold frCells
  rw [Nat.add_comm, List.getElem?_cons_succ, List.getElem?_cons_succ, List.getElem?_append_left hj]
  exact hu
theorem frCells_tail {f : Frm} (h : f.b.length = 256) (k : Nat) : (frCells f)[258 + k]? = [Value.bool f.dirty, .bool f.used, .int .i64 (f.pins : Int)][k]? := by
  unfold frCells
  rw [show 258 + k = (256 + k) + 1 + 1 by omega, List.getElem?_cons_succ, List.getElem?_cons_succ, List.getElem?_append_right (by rw [cellsB_length, h]; omega), cellsB_length, h, Nat.add_sub_cancel_left]
theorem frCells_set0 (f : Frm) (x : Bool) : (frCells f).set 0 (.bool x) = frCells { f with full := x } := rfl
theorem frCells_set1 (f : Frm) (x : Int) : (frCells f).set 1 (.int .i64 x) = frCells { f with no := x } := rfl
theorem frCells_setT {f : Frm} (h : f.b.length = 256) (k : Nat) (v : Value) : (frCells f).set (258 + k) v = .bool f.full :: .int .i64 f.no :: (cellsB f.b ++ [Value.bool f.dirty, .bool f.used, .int .i64 (f.pins : Int)].set k v) := by
  unfold frCells
  rw [show 258 + k = (256 + k) + 1 + 1 by omega, List.set_cons_succ, List.set_cons_succ, List.set_append_right _ _ (by rw [cellsB_length, h]; omega), cellsB_length, h, Nat.add_sub_cancel_left]
theorem frCells_set258 {f : Frm} (h : f.b.length = 256) (x : Bool) : (frCells f).set 258 (.bool x) = frCells { f with dirty := x } := frCells_setT h 0 _
theorem frCells_set259 {f : Frm} (h : f.b.length = 256) (x : Bool) : (frCells f).set 259 (.bool x) = frCells { f with used := x } := frCells_setT h 1 _
theorem frCells_set260 {f : Frm} (h : f.b.length = 256) (x : Nat) : (frCells f).set 260 (.int .i64 (x : Int)) = frCells { f with pins := x } := frCells_setT h 2 _
theorem frCells_putB {f : Frm} (h : f.b.length = 256) {l : List UInt8} (hl : l.length = 256) : (frCells f).take 2 ++ cellsB l ++ (frCells f).drop (2 + (cellsB l).length) = frCells { f with b := l } := by
  rw [cellsB_length, hl]
  unfold frCells
  have : (cellsB f.b).length = 256 := by rw [cellsB_length, h]
  rw [show 2 + 256 = (256 + 0) + 1 + 1 by rfl, List.drop_succ_cons, List.drop_succ_cons, List.drop_append_of_le_length (by omega), List.drop_of_length_le (by omega)]
  rfl

/-! ### A cache -/
/-- A cache: its frames, its hand. -/
structure Cch where
  L : List Frm
  hand : Nat
/-- The cells of the cache's own block. -/
def cchCells (x : Cch) (bf p : Nat) : List Value := [.slice (some ⟨bf, 0, none⟩) x.L.length x.L.length, .int .i64 (x.hand : Int), at0 p]
/-- In w there is the cache x at block c, its frames in block bf; its device is at p. -/
structure CacheIs (w : World) (c bf p : Nat) (x : Cch) : Prop where
  top : w.heap[c]? = some (.cells (cchCells x bf p).toArray 107 (0, 0))
  frs : w.heap[bf]? = some (.cells (rows x.L).toArray 148 (0, 0))
  wide : Broad x.L
  ne : c ≠ bf
  size : 8 ≤ x.L.length ∧ x.L.length ≤ 64
  hand : x.hand < x.L.length
section
variable {w w' : World} {c bf p : Nat} {x : Cch}
theorem CacheIs.lt (h : CacheIs w c bf p x) : c < w.heap.size ∧ bf < w.heap.size := ⟨(Array.getElem?_eq_some_iff.1 h.top).1, (Array.getElem?_eq_some_iff.1 h.frs).1⟩
theorem CacheIs.keep (h : CacheIs w c bf p x) (h1 : w'.heap[c]? = w.heap[c]?) (h2 : w'.heap[bf]? = w.heap[bf]?) : CacheIs w' c bf p x := { h with top := h1.trans h.top, frs := h2.trans h.frs }
theorem CacheIs.below (h : CacheIs w c bf p x) (hb : Below w.heap.size w w') : CacheIs w' c bf p x := h.keep (hb.block c h.lt.1) (hb.block bf h.lt.2)
theorem CacheIs.only {F : Nat → Prop} (h : CacheIs w c bf p x) (ho : Only F w w') (h1 : ¬ F c) (h2 : ¬ F bf) : CacheIs w' c bf p x := h.keep (ho.block c h.lt.1 h1) (ho.block bf h.lt.2 h2)
theorem CacheIs.k0 (h : CacheIs w c bf p x) : w.cell? ⟨c, 0, none⟩ = some (.slice (some ⟨bf, 0, none⟩) x.L.length x.L.length) := by rw [cell_of_row w c 0 _ _ (0, 0) h.top]; rfl
theorem CacheIs.k1 (h : CacheIs w c bf p x) : w.cell? ⟨c, 1, none⟩ = some (.int .i64 (x.hand : Int)) := by rw [cell_of_row w c 1 _ _ (0, 0) h.top]; rfl
theorem CacheIs.k2 (h : CacheIs w c bf p x) : w.cell? ⟨c, 2, none⟩ = some (at0 p) := by rw [cell_of_row w c 2 _ _ (0, 0) h.top]; rfl
theorem CacheIs.freeC (h : CacheIs w c bf p x) (j : Nat) : w.frozen? ⟨c, j, none⟩ = false := frozen_of_row w c j _ _ h.top
theorem CacheIs.freeF (h : CacheIs w c bf p x) (j : Nat) : w.frozen? ⟨bf, j, none⟩ = false := frozen_of_row w bf j _ _ h.frs
theorem CacheIs.cellF (h : CacheIs w c bf p x) {i j : Nat} {v : Value} (hi : i < x.L.length) (hv : (frCells x.L[i])[j]? = some v) : w.cell? ⟨bf, i * 261 + j, none⟩ = some v := by
  rw [cell_of_row w bf (i * 261 + j) _ _ (0, 0) h.frs]
  rw [List.getElem?_toArray]
  exact chunks_get h.wide.cells hi hv
theorem CacheIs.f0 (h : CacheIs w c bf p x) {i : Nat} (hi : i < x.L.length) : w.cell? ⟨bf, i * 261, none⟩ = some (.bool x.L[i].full) := by
  have := h.cellF (j := 0) (v := .bool x.L[i].full) hi rfl
  rwa [Nat.add_zero] at this
theorem CacheIs.f1 (h : CacheIs w c bf p x) {i : Nat} (hi : i < x.L.length) : w.cell? ⟨bf, i * 261 + 1, none⟩ = some (.int .i64 x.L[i].no) := h.cellF (j := 1) hi rfl
theorem CacheIs.f258 (h : CacheIs w c bf p x) {i : Nat} (hi : i < x.L.length) : w.cell? ⟨bf, i * 261 + 258, none⟩ = some (.bool x.L[i].dirty) := h.cellF (j := 258) hi (frCells_tail (h.wide.at_ hi) 0)
theorem CacheIs.f259 (h : CacheIs w c bf p x) {i : Nat} (hi : i < x.L.length) : w.cell? ⟨bf, i * 261 + 259, none⟩ = some (.bool x.L[i].used) := h.cellF (j := 259) hi (frCells_tail (h.wide.at_ hi) 1)
theorem CacheIs.f260 (h : CacheIs w c bf p x) {i : Nat} (hi : i < x.L.length) : w.cell? ⟨bf, i * 261 + 260, none⟩ = some (.int .i64 (x.L[i].pins : Int)) := h.cellF (j := 260) hi (frCells_tail (h.wide.at_ hi) 2)
theorem CacheIs.bytes (h : CacheIs w c bf p x) {i : Nat} (hi : i < x.L.length) : w.rangeAt bf (i * 261 + 2) (cellsB x.L[i].b) := rangeAt_block h.frs fun j u hu => by
  rw [Nat.add_assoc]
  exact chunks_get h.wide.cells hi (frCells_byte hu)
/-- A cell of frame i, stored. -/
theorem CacheIs.set (h : CacheIs w c bf p x) {i j : Nat} {v : Value} {f : Frm} (hi : i < x.L.length) (hj : j < 261) (hf : (frCells x.L[i]).set j v = frCells f) (hb : f.b.length = 256) :
    CacheIs (w.setCell ⟨bf, i * 261 + j, none⟩ v) c bf p { x with L := x.L.set i f } := by
  refine ⟨?_, ?_, h.wide.set i hb, h.ne, ?_, ?_⟩
  · rw [heap_setCell_other w _ c v h.ne]
    have := h.top
    simpa [cchCells] using this
  · have := heap_setCell_same w bf (i * 261 + j) _ _ v h.frs
    rw [this]
    have e := chunks_set h.wide.cells hi hj hf
    simp only [List.setIfInBounds_toArray, rows, e]
  · simpa using h.size
  · simpa using h.hand
/-- The hand, set. -/
theorem CacheIs.turned (h : CacheIs w c bf p x) {k : Nat} (hk : k < x.L.length) : CacheIs (w.setCell ⟨c, 1, none⟩ (.int .i64 (k : Int))) c bf p { x with hand := k } := by
  refine ⟨?_, ?_, h.wide, h.ne, h.size, hk⟩
  · have := heap_setCell_same w c 1 _ _ (.int .i64 (k : Int)) h.top
    rw [this]
    rfl
  · rw [heap_setCell_other w _ bf _ h.ne.symm]
    exact h.frs
/-- Some cells of frame i, stored in a row. -/
theorem CacheIs.put (h : CacheIs w c bf p x) {i j : Nat} {ys : List Value} {f : Frm} (hi : i < x.L.length) (hj : j + ys.length ≤ 261) (hf : (frCells x.L[i]).take j ++ ys ++ (frCells x.L[i]).drop (j + ys.length) = frCells f) (hb : f.b.length = 256)
    (hw : w'.heap[bf]? = some (.cells ((rows x.L).take (i * 261 + j) ++ ys ++ (rows x.L).drop (i * 261 + j + ys.length)).toArray 148 (0, 0))) (hg : w.grownBy w' (some bf)) :
    CacheIs w' c bf p { x with L := x.L.set i f } := by
  refine ⟨?_, ?_, h.wide.set i hb, h.ne, by simpa using h.size, by simpa using h.hand⟩
  · rw [hg.block c h.lt.1 (fun e => h.ne (by injection e))]
    have := h.top
    simpa [cchCells] using this
  · rw [hw]
    have e := chunks_put h.wide.cells hi hj hf
    simp only [rows, e]
end
end Go.Proofs.YtnmokkkbghlpbaaGreat
namespace Go.Proofs.YtnmokkkbghlpbaaGreat
open Go.RowKit
set_option maxRecDepth 100000 in
theorem fails_not {w : World} {p k : Nat} (hk : k < 4) (h1 : w.cell? ⟨p, k * 2, none⟩ = some (.bool false)) : Calls Tryz.prog 49 #[at0 p, .int .i64 k] w fun e w' => e = .returned (.bool false) ∧ w = w' := by
  go_enter Tryz.func49, Tryz.ntmps49
  go_wp2_with fail
  go_ret
  exact ⟨rfl, rfl⟩
set_option maxRecDepth 100000 in
theorem fails_later {w : World} {p k a : Nat} (hk : k < 4) (h1 : w.cell? ⟨p, k * 2, none⟩ = some (.bool true)) (h2 : w.cell? ⟨p, k * 2 + 1, none⟩ = some (.int .i64 ((a : Int) + 1))) (ha : a < 9223372036854775807) (hf : w.frozen? ⟨p, k * 2 + 1, none⟩ = false) :
    Calls Tryz.prog 49 #[at0 p, .int .i64 k] w fun e w' => e = .returned (.bool false) ∧ w.setCell ⟨p, k * 2 + 1, none⟩ (.int .i64 (a : Int)) = w' := by
  go_enter Tryz.func49, Tryz.ntmps49
  go_wp2_with fail
  go_ret
  exact ⟨rfl, rfl⟩
set_option maxRecDepth 100000 in
theorem fails_now {w : World} {p k : Nat} (hk : k < 4) (h1 : w.cell? ⟨p, k * 2, none⟩ = some (.bool true)) (h2 : w.cell? ⟨p, k * 2 + 1, none⟩ = some (.int .i64 0)) (hf : w.frozen? ⟨p, k * 2, none⟩ = false) :
    Calls Tryz.prog 49 #[at0 p, .int .i64 k] w fun e w' => e = .returned (.bool true) ∧ w.setCell ⟨p, k * 2, none⟩ (.bool false) = w' := by
  go_enter Tryz.func49, Tryz.ntmps49
  go_wp2_with fail
  go_ret
  exact ⟨rfl, rfl⟩
theorem info_sector : (Tryz.prog.info? 121).map (·.size) = some 256 := by kernel_rfl
theorem zero_sector : ∃ Z : Array Value, Z.size = 256 ∧ Z = Array.replicate 256 (.int .u8 0) ∧ ∀ w, (zeroValue 121).run Tryz.prog w = .ok (.agg Z) w := by
  refine ⟨Array.replicate 256 (.int .u8 0), by simp, rfl, (zero_of_info (n := 256) ?_).1⟩
  kernel_rfl
theorem bytesAll_one (l : List UInt8) : (cellsB l).toArray.all (·.oneCell') = true := all_oneCell_toArray (cellsB_one l)
/-- The map at bm has v for key i, in whatever world that has the map as w has it. -/
def Look (w : World) (bm : Nat) (i : Int) (v : Value) : Prop :=
  bm < w.heap.size ∧ ∀ w' : World, w'.heap[bm]? = w.heap[bm]? → (Instr.lookup 117 (.map (some bm)) (.int .i64 i) false).run Tryz.prog w' = .ok v w'
theorem Look.alloc {w : World} {bm : Nat} {i : Int} {v : Value} (h : Look w bm i v) (o : Obj) : (Instr.lookup 117 (.map (some bm)) (.int .i64 i) false).run Tryz.prog (w.alloc o) = .ok v (w.alloc o) :=
  h.2 _ (heap_alloc_old w o h.1)
theorem cell_alloc {w : World} {a : Addr} {v : Value} (h : w.cell? a = some v) (o : Obj) : (w.alloc o).cell? a = some v := (World.cell?_alloc_lt _ _ _ (World.block_lt_of_cell? w _ h)).trans h
set_option maxRecDepth 100000 in
set_option maxHeartbeats 400000 in
theorem now_some {w : World} {p bm g : Nat} {i : Int} {n c : Nat} {l : List UInt8} (hc : w.cell? ⟨p, 9, none⟩ = some (.map (some bm)))
    (hl : Look w bm i (.slice (some ⟨g, 0, none⟩) (n + 1) c)) (hn : n < 1000000) (hl256 : l.length = 256)
    (hr : w.rangeAt g (n * 256) (cellsB l)) : Calls Tryz.prog 50 #[at0 p, .int .i64 i] w fun e w' => e = .returned (.agg (cellsB l).toArray) ∧ Below w.heap.size w w' := by
  obtain ⟨Z, hZ, hZ0, hz⟩ := zero_sector
  clear hZ0
  have hl2 : (cellsB l).toArray.size = 256 := by simp [cellsB_length, hl256]
  have i1 : (Tryz.prog.info? 121).map (·.size) = some (cellsB l).length := by rw [info_sector, cellsB_length, hl256]
  have i2 : (Tryz.prog.info? 121).map (·.size) = some (cellsB l).toArray.size := by rw [info_sector, hl2]
  have Hl2 := Kept.mk hl2
  have HZ := Kept.mk hZ
  have I1 := Kept.mk i1
  have I2 := Kept.mk i2
  have hrw := World.rangeAt_alloc hr (.cells Z 121)
  have hc' := cell_alloc hc (.cells Z 121)
  have hl' := hl.alloc (.cells Z 121)
  clear hl2 hZ hl256 hr hc hl i1 i2
  go_enter Tryz.func50, Tryz.ntmps50
  go_wp2_with (first
   | (with_reducible refine wpList_alloc_zero (o := ⟨some 4, .alloc 121, _, _, _, _⟩) rfl 121 rfl Z hz ?_)
   | ((with_reducible refine wpList_load_mid (op := ⟨some 20, .load 121 (.tmp 19), _, _, _, _⟩) rfl 121 (.tmp 19) rfl g (n * 256) ?_ (cellsB l) (.array 256 5) hrw Tryz.underlying121 rfl I1.out ?_); exact rfl)
   | ((with_reducible refine wpList_store_new (o := ⟨none, .store 121 (.tmp 4) (.tmp 20), _, _, _, _⟩) rfl 121 (.tmp 4) (.tmp 20) rfl Z (cellsB l).toArray ?_ ?_ I2.out (HZ.out.trans Hl2.out.symm) (bytesAll_one l) ?_); exact rfl; exact rfl))
  refine bodyPost_ret (v := .agg (cellsB l).toArray) ?_ rfl ⟨rfl, (Below.refl _ _).alloc (Nat.le_refl _) _⟩
  exact results_cell_row (p := 4) (ty := 121) (by kernel_rfl) _ _ w.heap.size 121 (cellsB l).toArray (0, 0) (.array 256 5) rfl (heap_alloc_last w _) Tryz.underlying121 rfl I2.out
set_option maxRecDepth 100000 in
set_option maxHeartbeats 400000 in
theorem now_none {w : World} {p bm bl : Nat} {i n : Nat} {l : List UInt8} (hc : w.cell? ⟨p, 9, none⟩ = some (.map (some bm))) (hc8 : w.cell? ⟨p, 8, none⟩ = some (.slice (some ⟨bl, 0, none⟩) n n))
    (hl : Look w bm i (.slice none 0 0)) (hi : i < n) (hl256 : l.length = 256)
    (hr : w.rangeAt bl (i * 256) (cellsB l)) : Calls Tryz.prog 50 #[at0 p, .int .i64 i] w fun e w' => e = .returned (.agg (cellsB l).toArray) ∧ Below w.heap.size w w' := by
  obtain ⟨Z, hZ, hZ0, hz⟩ := zero_sector
  clear hZ0
  have hl2 : (cellsB l).toArray.size = 256 := by simp [cellsB_length, hl256]
  have i1 : (Tryz.prog.info? 121).map (·.size) = some (cellsB l).length := by rw [info_sector, cellsB_length, hl256]
  have i2 : (Tryz.prog.info? 121).map (·.size) = some (cellsB l).toArray.size := by rw [info_sector, hl2]
  have Hl2 := Kept.mk hl2
  have HZ := Kept.mk hZ
  have I1 := Kept.mk i1
  have I2 := Kept.mk i2
  have hrw := World.rangeAt_alloc hr (.cells Z 121)
  have hc' := cell_alloc hc (.cells Z 121)
  have hc8' := cell_alloc hc8 (.cells Z 121)
  have hl' := hl.alloc (.cells Z 121)
  clear hl2 hZ hl256 hr hc hc8 hl i1 i2
  go_enter Tryz.func50, Tryz.ntmps50
  go_wp2_with (first
   | (with_reducible refine wpList_alloc_zero (o := ⟨some 4, .alloc 121, _, _, _, _⟩) rfl 121 rfl Z hz ?_)
   | ((with_reducible refine wpList_load_mid (op := ⟨some 27, .load 121 (.tmp 26), _, _, _, _⟩) rfl 121 (.tmp 26) rfl bl (i * 256) ?_ (cellsB l) (.array 256 5) hrw Tryz.underlying121 rfl I1.out ?_); exact rfl)
   | ((with_reducible refine wpList_store_new (o := ⟨none, .store 121 (.tmp 4) (.tmp 27), _, _, _, _⟩) rfl 121 (.tmp 4) (.tmp 27) rfl Z (cellsB l).toArray ?_ ?_ I2.out (HZ.out.trans Hl2.out.symm) (bytesAll_one l) ?_); exact rfl; exact rfl))
  refine bodyPost_ret (v := .agg (cellsB l).toArray) ?_ rfl ⟨rfl, (Below.refl _ _).alloc (Nat.le_refl _) _⟩
  exact results_cell_row (p := 4) (ty := 121) (by kernel_rfl) _ _ w.heap.size 121 (cellsB l).toArray (0, 0) (.array 256 5) rfl (heap_alloc_last w _) Tryz.underlying121 rfl I2.out

/-! ### On a device -/
/-- A sector's bytes now. -/
def Dev.now (d : Dev) (i : Nat) : List UInt8 := (d.Q i).getLast?.getD (d.L.getD i [])
section
variable {w : World} {F : Nat → Prop} {p bl bm : Nat} {S : Nat → Value} {D : DataW Value} {d : Dev}
theorem keyed_int : Maps.Keyed Tryz.prog 3 := Maps.int_keyed Tryz.underlying3
theorem zero_slice (w : World) : (zeroValue 116).run Tryz.prog w = .ok (.slice none 0 0) w := by kernel_rfl
theorem DevIs.nil (h : DevIs w F p bl bm S D d) {i : Nat} (hi : i < d.L.length) (hq : d.Q i = []) : S i = .slice none 0 0 := by
  have h1 : Maps.has D (keyL i) = false := by
    rw [← Bool.not_eq_true]
    exact fun h2 => ((h.has i hi).1 h2) hq
  have h2 := h.at_ i hi
  rw [Maps.atKey_of_not_has h1] at h2
  injection h2 with h2
  exact h2.symm
theorem DevIs.look (h : DevIs w F p bl bm S D d) {i : Nat} (hi : i < d.L.length) : Look w bm (i : Int) (S i) := by
  refine ⟨h.map.lt, fun w' hw => ?_⟩
  have hm : w'.ownsMap Tryz.prog 3 asHeld bm d.n D := by
    obtain ⟨es, clock, hb, rest⟩ := h.map
    exact ⟨es, clock, hw.trans hb, rest⟩
  have hs := h.size
  have hk : keyOf Tryz.prog 3 (.int .i64 (i : Int)) = some (keyL i) := Maps.keyOf_int_mk Tryz.underlying3 (WalkArith.wf_i64 (by omega))
  obtain ⟨v, ps, hrun, hv⟩ := hm.lookup keyed_int Tryz.underlying117 (zero_slice w') (z := .slice none 0 0) (zd := .held (.slice none 0 0)) (zp := []) rfl hk
  rw [h.at_ i hi] at hv
  have : v = S i := (by simpa [asHeld] using hv : v = S i ∧ ps = []).1
  subst this
  exact hrun
theorem Dev.now_wide (h : DevIs w F p bl bm S D d) {i : Nat} (hi : i < d.L.length) : (d.now i).length = 256 := by
  unfold Dev.now
  rcases hq : (d.Q i).getLast? with _ | l
  · simp only [Option.getD_none, List.getD_eq_getElem?_getD, List.getElem?_eq_getElem hi, Option.getD_some]
    exact h.wl.at_ hi
  · exact h.wq i l (List.mem_of_getLast? hq)
theorem now_any (h : DevIs w F p bl bm S D d) {i : Nat} (hi : i < d.L.length) (hn : d.n < 1000000) : Calls Tryz.prog 50 #[at0 p, .int .i64 i] w fun e w' => e = .returned (.agg (cellsB (d.now i)).toArray) ∧ Below w.heap.size w w' := by
  have hlook := h.look hi
  have hrow := h.row i hi
  have hw := Dev.now_wide h hi
  rcases hrow.2 with ⟨hS, h0⟩ | ⟨g, cap, cur, hS, _, hg, hnc, _, hcs, htake⟩
  · have hq : d.Q i = [] := List.eq_nil_of_length_eq_zero h0
    rw [hS] at hlook
    refine now_none h.c9 h.c8 hlook hi hw ?_
    have : d.now i = d.L[i] := by simp [Dev.now, hq, List.getD_eq_getElem?_getD, List.getElem?_eq_getElem hi]
    rw [this]
    exact rangeAt_block h.last fun j u hu => flat_get h.wl hi hu
  · by_cases hq : d.Q i = []
    · have hn : S i = .slice none 0 0 := h.nil hi hq
      rw [hn] at hS
      cases hS
    · obtain ⟨m, hm⟩ : ∃ m, (d.Q i).length = m + 1 := ⟨(d.Q i).length - 1, by have := List.length_pos_iff.2 hq; omega⟩
      have hf := h.few i
      have hlt : m < (d.Q i).length := by omega
      have hnow : d.now i = (d.Q i)[m] := by
        unfold Dev.now
        rw [List.getLast?_eq_getElem?, List.getElem?_eq_getElem (by omega)]
        simp [hm]
      rw [hS, hm] at hlook
      refine now_some h.c9 hlook (by omega) hw ?_
      rw [hnow]
      intro j u hu
      rw [cell_of_row w g (m * 256 + j) cur 121 (0, 0) hg]
      have := flat_get (h.wq i) hlt hu
      rw [← htake, List.getElem?_take] at this
      split at this
      · simpa using this
      · cases this
end
end Go.Proofs.YtnmokkkbghlpbaaGreat
/-
  What is to fail, and reading, on a device: contracts.
-/
namespace Go.Proofs.YtnmokkkbghlpbaaGreat
open Go.RowKit
/-- Is this call of kind k the one that is to fail? -/
def Dev.burns (d : Dev) (k : Nat) : Bool := (d.f k).1 && (d.f k).2 == 0
/-- The device behind that question. -/
def Dev.burn (d : Dev) (k : Nat) : Dev :=
  { d with f := fun j => if j = k ∧ (d.f k).1 = true then (if (d.f k).2 = 0 then (false, 0) else (true, (d.f k).2 - 1)) else d.f j }
section
variable {w : World} {F : Nat → Prop} {p bl bm : Nat} {S : Nat → Value} {D : DataW Value} {d : Dev}
theorem DevIs.top_set (h : DevIs w F p bl bm S D d) {j : Nat} {v : Value} {d' : Dev} (hc : (devCells d bl bm).set j v = devCells d' bl bm) (hL : d'.L = d.L) (hQ : d'.Q = d.Q) (hn : d.n ≤ d'.n) (hf : ∀ k, (d'.f k).2 ≤ 9223372036854775807) :
    DevIs (w.setCell ⟨p, j, none⟩ v) F p bl bm S D d' := by
  have ho : ∀ k, k ≠ p → (w.setCell ⟨p, j, none⟩ v).heap[k]? = w.heap[k]? := fun k hk => heap_setCell_other w _ k v hk
  obtain ⟨h1, h2, h3, h4, h5, h6, h7, h8, h9, h10, h11, h12, h13, h14, h15, h16⟩ := h
  have top : (w.setCell ⟨p, j, none⟩ v).heap[p]? = some (.cells (devCells d' bl bm).toArray 119 (0, 0)) := by
    rw [← hc]
    have := heap_setCell_same w p j _ 119 v h1
    simpa using this
  refine ⟨top, ?_, ?_, ?_, ?_, ?_, ?_, ?_, ?_, h10, h11, ?_, ?_, ?_, ?_, hf⟩
  · rw [hL]; exact (ho bl h10.1.symm).trans h2
  · obtain ⟨es, clock, hb, F, hs, hD⟩ := h3
    exact ⟨es, clock, (ho bm h10.2.1.symm).trans hb, F, Nat.le_trans hs hn, hD⟩
  · rw [hL]; exact h4
  · rw [hL, hQ]
    intro i hi
    refine ⟨(h5 i hi).1, ?_⟩
    rcases (h5 i hi).2 with hn | ⟨g, cap, cur, e, hb, hg, rest⟩
    · exact .inl hn
    · exact .inr ⟨g, cap, cur, e, hb, (ho g (h9 i g hi (by rw [e]; rfl)).2.1).trans hg, rest⟩
  · rw [hL, hQ]; exact h6
  · rw [hL]; exact h7
  · rw [hL]; exact h8
  · rw [hL]; exact h9
  · rw [hL]; exact h12
  · rw [hQ]; exact h13
  · rw [hL]; exact h14
  · rw [hQ]; exact fun i => Nat.le_trans (h15 i) hn
theorem Dev.burn_fuel (hf : ∀ k, (d.f k).2 ≤ 9223372036854775807) (k : Nat) : ∀ j, ((d.burn k).f j).2 ≤ 9223372036854775807 := by
  intro j
  unfold Dev.burn
  have := hf k
  have := hf j
  simp only
  split
  · split <;> simp; omega
  · omega
theorem fails_any (h : DevIs w F p bl bm S D d) {k : Nat} (hk : k < 4) : Calls Tryz.prog 49 #[at0 p, .int .i64 (k : Int)] w fun e w' => e = .returned (.bool (d.burns k)) ∧ DevIs w' F p bl bm S D (d.burn k) ∧ Only F w w' := by
  have t1 := h.told hk
  have t2 := h.ahead hk
  rw [Nat.mul_comm] at t1 t2
  rcases h1 : (d.f k).1 with _ | _
  · rw [h1] at t1
    refine (fails_not hk t1).mono ?_
    rintro e w' ⟨rfl, rfl⟩
    have e1 : d.burns k = false := by simp [Dev.burns, h1]
    have e2 : d.burn k = d := by simp [Dev.burn, h1]
    rw [e1, e2]
    exact ⟨rfl, h, Only.refl _ _⟩
  · rw [h1] at t1
    rcases h2 : (d.f k).2 with _ | a
    · rw [h2] at t2
      refine (fails_now hk t1 t2 (h.free _)).mono ?_
      rintro e w' ⟨rfl, rfl⟩
      have e1 : d.burns k = true := by simp [Dev.burns, h1, h2]
      rw [e1]
      refine ⟨rfl, h.top_set ?_ rfl rfl (Nat.le_refl _) (Dev.burn_fuel h.fuel k), Only.setCell h.inF.1 _⟩
      match k, hk, h1, h2 with
      | 0, _, h1, h2 => simp [devCells, Dev.burn, h1, h2]
      | 1, _, h1, h2 => simp [devCells, Dev.burn, h1, h2]
      | 2, _, h1, h2 => simp [devCells, Dev.burn, h1, h2]
      | 3, _, h1, h2 => simp [devCells, Dev.burn, h1, h2]
    · rw [h2] at t2
      have hfu := h.fuel k
      rw [h2] at hfu
      refine (fails_later hk t1 (by simpa using t2) (by omega) (h.free _)).mono ?_
      rintro e w' ⟨rfl, rfl⟩
      have e1 : d.burns k = false := by simp [Dev.burns, h1, h2]
      rw [e1]
      refine ⟨rfl, h.top_set ?_ rfl rfl (Nat.le_refl _) (Dev.burn_fuel h.fuel k), Only.setCell h.inF.1 _⟩
      match k, hk, h1, h2 with
      | 0, _, h1, h2 => simp [devCells, Dev.burn, h1, h2]
      | 1, _, h1, h2 => simp [devCells, Dev.burn, h1, h2]
      | 2, _, h1, h2 => simp [devCells, Dev.burn, h1, h2]
      | 3, _, h1, h2 => simp [devCells, Dev.burn, h1, h2]

set_option maxRecDepth 100000 in
/-! ### Read -/
theorem read_arg {i : Int} (h : DevIs w F p bl bm S D d) (hi : i < 0 ∨ (d.L.length : Int) ≤ i) : Calls Tryz.prog 21 #[at0 p, .int .i64 i] w fun e w' => e = .returned (.tuple #[.slice none 0 0, .int .i64 1]) ∧ w = w' := by
  have hh := Lib.hid (has_no h.c8 hi)
  go_enter Tryz.func21, Tryz.ntmps21
  go_wp2_with (go_at_call 48; refine hh.out.mono ?_; rintro e w' ⟨rfl, rfl⟩)
  go_ret2
  exact ⟨rfl, rfl⟩
set_option maxRecDepth 100000 in
theorem read_nil (i : Int) (w : World) : Calls Tryz.prog 21 #[.pointer none, .int .i64 i] w fun e w' => e = .returned (.tuple #[.slice none 0 0, .int .i64 1]) ∧ w = w' := by
  go_enter Tryz.func21, Tryz.ntmps21
  go_wp2_with (go_at_call 48; refine (has_nil _ _).mono ?_; rintro e w' ⟨rfl, rfl⟩)
  go_ret2
  exact ⟨rfl, rfl⟩
set_option maxRecDepth 100000 in
theorem read_io {i : Nat} (h : DevIs w F p bl bm S D d) (hi : i < d.L.length) (hb : d.burns 1 = true) : Calls Tryz.prog 21 #[at0 p, .int .i64 (i : Int)] w fun e w' => e = .returned (.tuple #[.slice none 0 0, .int .i64 3]) ∧ DevIs w' F p bl bm S D (d.burn 1) ∧ Only F w w' := by
  have hh := Lib.hid (has_yes h.c8 hi)
  have hf := fails_any h (k := 1) (by omega)
  rw [hb] at hf
  have hf := Lib.hid hf
  clear h hb hi
  go_enter Tryz.func21, Tryz.ntmps21
  go_wp2_with (first
    | (go_at_call 48; refine hh.out.mono ?_; rintro e w' ⟨rfl, rfl⟩)
    | (go_at_call 49; refine hf.out.mono ?_; rintro e w' ⟨rfl, hd, ho⟩))
  go_ret2
  exact ⟨rfl, hd, ho⟩
set_option maxRecDepth 100000 in
set_option maxHeartbeats 400000 in
theorem read_ok {i : Nat} (h : DevIs w F p bl bm S D d) (hi : i < d.L.length) (hb : d.burns 1 = false) (hn : d.n < 1000000) :
    Calls Tryz.prog 21 #[at0 p, .int .i64 (i : Int)] w fun e w' => ∃ g, e = .returned (.tuple #[.slice (some ⟨g, 0, none⟩) 256 256, .int .i64 0]) ∧ w'.heap[g]? = some (.cells (cellsB (d.now i)).toArray 121 (0, 0)) ∧ w.heap.size ≤ g ∧ DevIs w' F p bl bm S D (d.burn 1) ∧ Only F w w' := by
  have hh := Lib.hid (has_yes h.c8 hi)
  have hf := fails_any h (k := 1) (by omega)
  have hw := Dev.now_wide h hi
  rw [hb] at hf
  have hf := Lib.hid hf
  have hnow : ∀ w1, DevIs w1 F p bl bm S D (d.burn 1) → Calls Tryz.prog 50 #[at0 p, .int .i64 i] w1 fun e w' => e = .returned (.agg (cellsB (d.now i)).toArray) ∧ Below w1.heap.size w1 w' := fun w1 h1 => now_any h1 hi hn
  obtain ⟨l, hl⟩ : ∃ l, l = d.now i := ⟨_, rfl⟩
  rw [← hl] at hnow hw ⊢
  have Hnow := Lib.hid hnow
  have hl2 : (cellsB l).toArray.size = 256 := by simp [cellsB_length, hw]
  have i2 : (Tryz.prog.info? 121).map (·.size) = some (cellsB l).toArray.size := by rw [info_sector, hl2]
  obtain ⟨Z, hZ, hZ0, hz⟩ := zero_sector
  have Hl2 := Kept.mk hl2
  have HZ := Kept.mk hZ
  have I2 := Kept.mk i2
  clear h hb hi hnow hl hw hl2 i2 hZ hZ0 hn
  go_enter Tryz.func21, Tryz.ntmps21
  go_wp2_with (first
    | (go_at_call 48; refine hh.out.mono ?_; rintro e w' ⟨rfl, rfl⟩)
    | (go_at_call 49; refine hf.out.mono ?_; rintro e w1 ⟨rfl, hd, ho⟩)
    | (go_at_call 50; refine (Hnow.out _ hd).mono ?_; rintro e w2 ⟨rfl, hb2⟩)
    | (with_reducible refine wpList_alloc_zero (o := ⟨some 6, .alloc 121, _, _, _, _⟩) rfl 121 rfl Z hz ?_)
    | ((with_reducible refine wpList_store_new (o := ⟨none, .store 121 (.tmp 6) (.tmp 17), _, _, _, _⟩) rfl 121 (.tmp 6) (.tmp 17) rfl Z (cellsB l).toArray ?_ ?_ I2.out (HZ.out.trans Hl2.out.symm) (bytesAll_one l) ?_); exact rfl; exact rfl))
  go_ret2
  refine ⟨w2.heap.size, rfl, heap_alloc_last _ _, Nat.le_trans ho.size hb2.size, ?_, ?_⟩
  · exact (hd.below hb2).below ((Below.refl _ _).alloc (Nat.le_refl _) _)
  · exact ho.trans ((Only.of_below hb2).trans (Only.alloc _ _ _))
end
end Go.Proofs.YtnmokkkbghlpbaaGreat
/-
  Write, on a device: its contract.
-/
namespace Go.Proofs.YtnmokkkbghlpbaaGreat
open Go.RowKit
theorem info_sector' : (Tryz.prog.info? 121).map (fun i => (i.zero, i.size, i.bytes)) = some (some (.agg (Array.replicate 256 (.int .u8 0))), 256, 256) := by kernel_rfl
theorem build_sector (l : List UInt8) (hl : l.length = 256) (w : World) : (Instr.buildSlice 116 1 #[(0, .agg (cellsB l).toArray)]).run Tryz.prog w = .ok (.slice (some ⟨w.heap.size, 0, none⟩) 1 1) (w.alloc (.cells (cellsB l).toArray 121)) := by
  obtain ⟨ie, hie, hz0, hz1, hz2⟩ := info_parts info_sector'
  have hl2 : (cellsB l).toArray.size = 256 := by simp [cellsB_length, hl]
  exact run_slice_one 116 121 (cellsB l).toArray ie _ Tryz.underlying116 hie hz0 (by rw [hz1, hl2]) (by rw [hl2]; omega) (by rw [hl2]; omega)
section
variable {w : World} {F : Nat → Prop} {p bl bm : Nat} {S : Nat → Value} {D : DataW Value} {d : Dev}
/-- Sector i, written: it has the bytes l now, and they wait. -/
def Dev.put (d : Dev) (i : Nat) (l : List UInt8) : Dev := { d with Q := fun j => if j = i then d.Q i ++ [l] else d.Q j, n := d.n + 1 }
theorem row_keep {w w' : World} {v : Value} {n : Nat} {xs : List Value} (h : w.ownsRow 0 121 256 v n xs) (hk : ∀ g, v.ownBlock = some g → w'.heap[g]? = w.heap[g]?) : w'.ownsRow 0 121 256 v n xs := by
  refine ⟨h.1, ?_⟩
  rcases h.2 with hn | ⟨g, cap, cur, e, hb, hg, rest⟩
  · exact .inl hn
  · exact .inr ⟨g, cap, cur, e, hb, (hk g (by rw [e]; rfl)).trans hg, rest⟩
theorem DevIs.put (h : DevIs w F p bl bm S D d) (hF : ∀ k, w.heap.size ≤ k → F k) {i : Nat} (hi : i < d.L.length) {l : List UInt8} (hl : l.length = 256) (_ : d.n < 1000000) {v2 : Value} {w2 w3 : World}
    (hrow2 : w2.ownsRow 0 121 256 v2 ((d.Q i).length + 1) (flat (d.Q i) ++ cellsB l)) {o : Obj} (hg2 : (w.drew.alloc o).grownBy w2 (S i).ownBlock)
    (hob2 : v2.ownBlock = (S i).ownBlock ∨ v2.ownBlock = some (w.drew.alloc o).heap.size)
    (hmap3 : w3.ownsMap Tryz.prog 3 asHeld bm (d.n + 1) (D.put (keyL i) (.held v2))) (hg3 : w2.grownBy w3 (some bm)) :
    DevIs (w3.setCell ⟨p, 10, none⟩ (.int .i64 ((d.n : Int) + 1))) F p bl bm (fun j => if j = i then v2 else S j) (D.put (keyL i) (.held v2)) (d.put i l) ∧ Only F w (w3.setCell ⟨p, 10, none⟩ (.int .i64 ((d.n : Int) + 1))) := by
  have hlt := h.lt
  have hs2 := hg2.size
  have hs3 := hg3.size
  simp only [World.size_alloc] at hs2
  have hsd : w.drew.heap.size = w.heap.size := rfl
  rw [hsd] at hs2
  have hnew : ∀ k, v2.ownBlock = some k → (S i).ownBlock = some k ∨ k = w.heap.size + 1 := by
    intro k hk
    rcases hob2 with e | e
    · exact .inl (e.symm.trans hk)
    · rw [hk] at e
      injection e with e
      rw [World.size_alloc] at e
      exact .inr e
  have hold : ∀ k, k < w.heap.size → some k ≠ (S i).ownBlock → k ≠ bm → k ≠ p → (w3.setCell ⟨p, 10, none⟩ (.int .i64 ((d.n : Int) + 1))).heap[k]? = w.heap[k]? := fun k hk h1 h2 h3 =>
    (heap_setCell_other w3 _ k _ h3).trans ((hg3.block k (by omega) (fun e => h2 (by injection e))).trans ((hg2.block k (by rw [World.size_alloc, hsd]; omega) h1).trans (heap_alloc_old w.drew o (by rw [hsd]; exact hk))))
  have hSi : ∀ k, (S i).ownBlock = some k → F k ∧ k ≠ p ∧ k ≠ bl ∧ k ≠ bm := fun k hk => h.own i k hi hk
  have hv2 : ∀ k, v2.ownBlock = some k → F k ∧ k ≠ p ∧ k ≠ bl ∧ k ≠ bm := fun k hk => by
    rcases hnew k hk with e | e
    · exact hSi k e
    · exact ⟨hF k (by omega), by omega, by omega, by omega⟩
  have hSlt : ∀ j k, j < d.L.length → (S j).ownBlock = some k → k < w.heap.size := fun j k hj e => ((h.row j hj).lt k e).2
  have hkey : WideAt.IsKeyLit (keyL i) := keyed_int.key (Maps.keyOf_int_mk (a := (i : Int)) Tryz.underlying3 (WalkArith.wf_i64 (by have := h.size; omega)))
  have hkne : ∀ j, j ≠ i → keyL j ≠ keyL i := fun j hj e => hj (by injection e with e1 e2; omega)
  refine ⟨⟨?_, ?_, ?_, ?_, ?_, ?_, ?_, ?_, ?_, h.ne, h.inF, h.wl, ?_, h.size, ?_, h.fuel⟩, ?_, ?_, ?_, ?_, ?_⟩
  · have e : w3.heap[p]? = some (.cells (devCells d bl bm).toArray 119 (0, 0)) :=
      ((hg3.block p (by omega) (fun e => h.ne.2.1 (by injection e))).trans ((hg2.block p (by rw [World.size_alloc, hsd]; omega) (fun e => (hSi p e.symm).2.1 rfl)).trans (heap_alloc_old w.drew o (by rw [hsd]; exact hlt.1)))).trans h.top
    have := heap_setCell_same w3 p 10 _ 119 (.int .i64 ((d.n : Int) + 1)) e
    simpa [devCells, Dev.put] using this
  · exact (hold bl hlt.2.1 (fun e => (hSi bl e.symm).2.2.1 rfl) h.ne.2.2 h.ne.1.symm).trans h.last
  · exact World.ownsMap.setCell hmap3 h.ne.2.1.symm _
  · intro j hj
    by_cases e : j = i
    · subst e
      rw [if_pos rfl]
      exact Maps.atKey_put_same (h.map.isMap) hkey _ _
    · rw [if_neg e, Maps.atKey_put_other (hkne j e)]
      exact h.at_ j hj
  · intro j hj
    by_cases e : j = i
    · subst e
      have e1 : flat [l] = cellsB l := by simp [flat]
      simp only [Dev.put, if_true, List.length_append, List.length_cons, List.length_nil, flat_append, e1, Nat.zero_add]
      refine row_keep hrow2 fun k hk => ?_
      have hb := hv2 k hk
      refine (heap_setCell_other w3 _ k _ hb.2.1).trans (hg3.block k ?_ (fun e => hb.2.2.2 (by injection e)))
      exact (hrow2.lt k hk).2
    · simp only [Dev.put, if_neg e]
      refine row_keep (h.row j hj) fun k hk => ?_
      have hb := h.own j k hj hk
      refine hold k (hSlt j k hj hk) (fun e2 => ?_) hb.2.2.2 hb.2.1
      rcases h.apart j i hj hi e with e3 | e3
      · rw [hk] at e3; cases e3
      · exact e3 (hk.trans e2)
  · intro j hj
    by_cases e : j = i
    · subst e
      simp only [Dev.put, if_true, Maps.has_put_same h.map.isMap hkey]
      simp
    · simp only [Dev.put, if_neg e]
      rw [Maps.has_put_other (hkne j e)]
      exact h.has j hj
  · intro kl hk
    by_cases e : kl = keyL i
    · exact ⟨i, hi, e⟩
    · rw [Maps.has_put_other e] at hk
      exact h.keys kl hk
  · have fresh : ∀ j, j < d.L.length → j ≠ i → v2.ownBlock = none ∨ v2.ownBlock ≠ (S j).ownBlock := fun j hj hji => by
      rcases hob2 with e | e
      · rw [e]; exact h.apart i j hi hj (Ne.symm hji)
      · right
        rw [e]
        intro e2
        have := hSlt j _ hj e2.symm
        rw [World.size_alloc, hsd] at this
        omega
    intro j k hj hk hjk
    by_cases e : j = i
    · subst e
      rw [if_pos rfl, if_neg (Ne.symm hjk)]
      exact fresh k hk (Ne.symm hjk)
    · rw [if_neg e]
      by_cases e2 : k = i
      · subst e2
        rw [if_pos rfl]
        rcases h1 : (S j).ownBlock with _ | g
        · exact .inl rfl
        · right
          intro e3
          rcases fresh j hj e with e4 | e4
          · rw [e4] at e3; cases e3
          · exact e4 (e3.symm.trans h1.symm)
      · rw [if_neg e2]
        exact h.apart j k hj hk hjk
  · intro j g hj hg
    by_cases e : j = i
    · subst e
      rw [if_pos rfl] at hg
      exact hv2 g hg
    · rw [if_neg e] at hg
      exact h.own j g hj hg
  · intro j
    by_cases e : j = i
    · simp only [Dev.put, if_pos e]
      exact (h.wq i).append (Wide.one hl)
    · simp only [Dev.put, if_neg e]
      exact h.wq j
  · intro j
    by_cases e : j = i
    · simp only [Dev.put, if_pos e, List.length_append, List.length_cons, List.length_nil]
      have := h.few i
      omega
    · simp only [Dev.put, if_neg e]
      have := h.few j
      omega
  · exact hg3.os.trans hg2.os
  · exact hg3.tape.trans hg2.tape
  · exact hg3.output.trans hg2.output
  · simp; omega
  · intro k hk hn2
    exact hold k hk (fun e => hn2 (hSi k e.symm).1) (fun e => hn2 (e ▸ h.inF.2.2)) (fun e => hn2 (e ▸ h.inF.1))
set_option maxRecDepth 100000 in
set_option maxHeartbeats 800000 in
theorem write_ok {i : Nat} {bb bo c : Nat} {l : List UInt8} (h : DevIs w F p bl bm S D d) (hi : i < d.L.length) (hb : d.burns 2 = false) (hn : d.n < 1000000)
    (hl : l.length = 256) (hr : w.rangeAt bb bo (cellsB l)) (hbb : bb < w.heap.size) (hbF : ¬ F bb) (hF : ∀ k, w.heap.size ≤ k → F k) :
    Calls Tryz.prog 75 #[at0 p, .int .i64 (i : Int), .slice (some ⟨bb, bo, none⟩) 256 c] w fun e w' => ∃ S' D', e = .returned (.int .i64 0) ∧ DevIs w' F p bl bm S' D' ((d.burn 2).put i l) ∧ Only F w w' := by
  have hh := Lib.hid (has_yes h.c8 hi)
  have hf := fails_any h (k := 2) (by omega)
  rw [hb] at hf
  have Hf := Lib.hid hf
  clear hf
  have harr : ∀ w, (Instr.arrayAt 121 (.slice (some ⟨bb, bo, none⟩) 256 c)).run Tryz.prog w = .ok (.pointer (some ⟨bb, bo, none⟩)) w := fun w => by simp [Instr.arrayAt, run_underlying Tryz.underlying121]
  obtain ⟨ie, hie, hz0, hz1, hz2⟩ := info_parts info_sector'
  have Hl := Kept.mk hl
  have i1 : (Tryz.prog.info? 121).map (·.size) = some (cellsB l).length := by rw [info_sector, cellsB_length, hl]
  have I1 := Kept.mk i1
  have hi0 := Lib.hid hi
  clear h hb hi i1
  go_enter Tryz.func75, Tryz.ntmps75
  go_wp2_with (first
    | (go_at_call 48; refine hh.out.mono ?_; rintro e w' ⟨rfl, rfl⟩)
    | (go_at_call 49; refine Hf.out.mono ?_; rintro e w1 ⟨rfl, hd, ho⟩))
  have hlk := hd.look hi0.out
  have hrow := hd.row i hi0.out
  have hr1 : w1.rangeAt bb bo (cellsB l) := fun j v hv => (World.cell?_of_block (ho.block bb hbb hbF)).trans (hr j v hv)
  have hbb1 : bb < w1.heap.size := Nat.lt_of_lt_of_le hbb ho.size
  refine wp_region_held_drew (S := fun w' => w'.cell? ⟨p, 9, none⟩ = some (.map (some bm)) ∧ w'.rangeAt bb bo (cellsB l)) (by kernel_rfl) ?_ (fun hHeld => ?_)
  · exact ⟨hd.c9, (World.rangeAt_drew _ _ _ _).2 hr1⟩
  refine' wpAnyH_take (i := 0) (oi := ⟨some 20, .move (.tmp 0), _, _, _, none⟩) (v := _) rfl (by kernel_rfl) (by kernel_rfl) (by kernel_rfl) (fun _ _ _ h => h) (Or.inl ⟨by rfl, ?hy0⟩) (by assumption) ?rest0
  case hy0 => (intro w hSw; obtain ⟨s1, s3⟩ := hSw; go_simp <;> with_reducible rfl)
  case rest0 =>
  go_frame
  refine' wpAnyH_take (i := 1) (oi := ⟨some 21, .nilCheck (.tmp 20), _, _, _, none⟩) (v := _) rfl (by kernel_rfl) (by kernel_rfl) (by kernel_rfl) (fun _ _ _ h => h) (Or.inl ⟨by rfl, ?hy1⟩) (by assumption) ?rest1
  case hy1 => (intro w hSw; obtain ⟨s1, s3⟩ := hSw; go_simp <;> with_reducible rfl)
  case rest1 =>
  go_frame
  refine' wpAnyH_take (i := 2) (oi := ⟨some 22, .fieldAddr 119 (.tmp 21) 2, _, _, _, none⟩) (v := _) rfl (by kernel_rfl) (by kernel_rfl) (by kernel_rfl) (fun _ _ _ h => h) (Or.inl ⟨by rfl, ?hy2⟩) (by assumption) ?rest2
  case hy2 => (intro w hSw; obtain ⟨s1, s3⟩ := hSw; go_simp <;> with_reducible rfl)
  case rest2 =>
  go_frame
  refine' wpAnyH_take (i := 3) (oi := ⟨some 23, .load 117 (.tmp 22), _, _, _, none⟩) (v := _) rfl (by kernel_rfl) (by kernel_rfl) (by kernel_rfl) (fun _ _ _ h => h) (Or.inl ⟨by rfl, ?hy3⟩) (by assumption) ?rest3
  case hy3 => (intro w hSw; obtain ⟨s1, s3⟩ := hSw; go_simp <;> with_reducible rfl)
  case rest3 =>
  go_frame
  refine' wpAnyH_take (i := 4) (oi := ⟨some 24, .move (.tmp 1), _, _, _, none⟩) (v := _) rfl (by kernel_rfl) (by kernel_rfl) (by kernel_rfl) (fun _ _ _ h => h) (Or.inl ⟨by rfl, ?hy4⟩) (by assumption) ?rest4
  case hy4 => (intro w hSw; obtain ⟨s1, s3⟩ := hSw; go_simp <;> with_reducible rfl)
  case rest4 =>
  go_frame
  refine' wpAnyH_take (i := 5) (oi := ⟨some 25, .move (.tmp 0), _, _, _, none⟩) (v := _) rfl (by kernel_rfl) (by kernel_rfl) (by kernel_rfl) (fun _ _ _ h => h) (Or.inl ⟨by rfl, ?hy5⟩) (by assumption) ?rest5
  case hy5 => (intro w hSw; obtain ⟨s1, s3⟩ := hSw; go_simp <;> with_reducible rfl)
  case rest5 =>
  go_frame
  refine' wpAnyH_take (i := 6) (oi := ⟨some 26, .nilCheck (.tmp 25), _, _, _, none⟩) (v := _) rfl (by kernel_rfl) (by kernel_rfl) (by kernel_rfl) (fun _ _ _ h => h) (Or.inl ⟨by rfl, ?hy6⟩) (by assumption) ?rest6
  case hy6 => (intro w hSw; obtain ⟨s1, s3⟩ := hSw; go_simp <;> with_reducible rfl)
  case rest6 =>
  go_frame
  refine' wpAnyH_take (i := 7) (oi := ⟨some 27, .fieldAddr 119 (.tmp 26) 2, _, _, _, none⟩) (v := _) rfl (by kernel_rfl) (by kernel_rfl) (by kernel_rfl) (fun _ _ _ h => h) (Or.inl ⟨by rfl, ?hy7⟩) (by assumption) ?rest7
  case hy7 => (intro w hSw; obtain ⟨s1, s3⟩ := hSw; go_simp <;> with_reducible rfl)
  case rest7 =>
  go_frame
  refine' wpAnyH_take (i := 8) (oi := ⟨some 28, .load 117 (.tmp 27), _, _, _, none⟩) (v := _) rfl (by kernel_rfl) (by kernel_rfl) (by kernel_rfl) (fun _ _ _ h => h) (Or.inl ⟨by rfl, ?hy8⟩) (by assumption) ?rest8
  case hy8 => (intro w hSw; obtain ⟨s1, s3⟩ := hSw; go_simp <;> with_reducible rfl)
  case rest8 =>
  go_frame
  refine' wpAnyH_take (i := 9) (oi := ⟨some 29, .move (.tmp 1), _, _, _, none⟩) (v := _) rfl (by kernel_rfl) (by kernel_rfl) (by kernel_rfl) (fun _ _ _ h => h) (Or.inl ⟨by rfl, ?hy9⟩) (by assumption) ?rest9
  case hy9 => (intro w hSw; obtain ⟨s1, s3⟩ := hSw; go_simp <;> with_reducible rfl)
  case rest9 =>
  go_frame
  refine' wpAnyH_take (i := 11) (oi := ⟨some 31, .move (.tmp 2), _, _, _, none⟩) (v := _) rfl (by kernel_rfl) (by kernel_rfl) (by kernel_rfl) (fun _ _ _ h => h) (Or.inl ⟨by rfl, ?hy11⟩) (by assumption) ?rest11
  case hy11 => (intro w hSw; obtain ⟨s1, s3⟩ := hSw; go_simp <;> with_reducible rfl)
  case rest11 =>
  go_frame
  refine' wpAnyH_take (i := 12) (oi := ⟨some 32, .sliceToArrayPointer 121 (.tmp 31), _, _, _, none⟩) (v := _) rfl (by kernel_rfl) (by kernel_rfl) (by kernel_rfl) (fun _ _ _ h => h) (Or.inl ⟨by rfl, ?hy12⟩) (by assumption) ?rest12
  case hy12 => (intro w hSw; obtain ⟨s1, s3⟩ := hSw; go_simp <;> with_reducible rfl)
  case rest12 =>
  go_frame
  refine' wpAnyH_take (i := 13) (oi := ⟨some 33, .load 121 (.tmp 32), _, _, _, none⟩) (v := .agg (cellsB l).toArray) rfl (by kernel_rfl) (by kernel_rfl) (by kernel_rfl) (fun _ _ _ h => h) (Or.inl ⟨by rfl, ?hy13⟩) (by assumption) ?rest13
  case hy13 => (intro w hSw; obtain ⟨s1, s3⟩ := hSw; exact exec_load (t := 121) (x := .tmp 32) rfl (pv := .pointer (some ⟨bb, bo, none⟩)) rfl (run_loadAt_mid w bb bo 121 (cellsB l) (.array 256 5) s3 Tryz.underlying121 rfl I1.out))
  case rest13 =>
  go_frame
  have hne : ∀ k, (S i).ownBlock = some k → k ≠ p ∧ k ≠ bm ∧ F k := fun k hk => ⟨(hd.own i k hi0.out hk).2.1, (hd.own i k hi0.out hk).2.2.2, (hd.own i k hi0.out hk).1⟩
  have hsA : ∀ o : Obj, (w1.drew.alloc o).cell? ⟨p, 9, none⟩ = some (.map (some bm)) ∧ (w1.drew.alloc o).rangeAt bb bo (cellsB l) := fun o => ⟨cell_alloc (w := w1.drew) hHeld.1 o, World.rangeAt_alloc hHeld.2 o⟩
  have hlt := hd.lt
  have hnn : d.n + 1 < maxLen := by unfold maxLen; omega
  have hq : ((d.burn 2).Q i).length ≤ d.n := hd.few i
  obtain ⟨v2, w2, hrun2, hrow2, hg2, _, hob2⟩ := run_append_own_at (P := Tryz.prog) (w1.drew.alloc (.cells (cellsB l).toArray 121)) 0 116 116 121 ie _ 256 256 Tryz.underlying116 hie hz0 hz1 hz2 (by simp [Value.cells]) (by omega) (S i) _ _
    (World.ownsRow.alloc (w := w1.drew) hrow (.cells (cellsB l).toArray 121)) ⟨w1.drew.heap.size, 0, none⟩ 1 1 (cellsB l) (by rw [cellsB_length, Hl.out]) (fun j u hu => by rw [Addr.add_mid, Nat.zero_add, World.cell?_alloc_mark]; simpa using hu) (cellsB_one l) (by unfold maxLen; omega) (by omega) (Nat.zero_le _)
  have hmap2 : w2.ownsMap Tryz.prog 3 asHeld bm d.n D := (World.ownsMap.alloc (w := w1.drew) hd.map (.cells (cellsB l).toArray 121)).kept hg2 (fun e => (hne bm e.symm).2.1 rfl)
  obtain ⟨w3, hrun3, hmap3, hg3⟩ := hmap2.update keyed_int Tryz.underlying117 (by omega) (key := .int .i64 (i : Int)) (val := v2) (kl := keyL i) (Maps.keyOf_int_mk Tryz.underlying3 (WalkArith.wf_i64 (by have hs : 16 ≤ d.L.length ∧ d.L.length ≤ 1600 := hd.size; have := hi0.out; omega))) (d := .held v2) (ps := []) rfl
  have hc1 : (w1.drew.alloc (.cells (cellsB l).toArray 121)).cell? ⟨p, 9, none⟩ = some (.map (some bm)) := (hsA _).1
  have hc2 : w2.cell? ⟨p, 9, none⟩ = some (.map (some bm)) := (World.cell?_of_block (a := ⟨p, 9, none⟩) (hg2.block p (by simp; omega) (fun e => (hne p e.symm).1 rfl))).trans hc1
  have hr2 : w2.rangeAt bb bo (cellsB l) := fun j v hv => (World.cell?_of_block (hg2.block bb (by simp; omega) (fun e => hbF (hne bb e.symm).2.2))).trans ((hsA _).2 j v hv)
  have hc3 : w3.cell? ⟨p, 9, none⟩ = some (.map (some bm)) := (World.cell?_of_block (a := ⟨p, 9, none⟩) (hg3.block p (by have := hg2.size; simp at this; omega) (fun e => hd.ne.2.1 (by injection e)))).trans hc2
  have hr3 : w3.rangeAt bb bo (cellsB l) := fun j v hv => (World.cell?_of_block (hg3.block bb (by have := hg2.size; simp at this; omega) (fun e => hbF (by injection e with e; rw [e]; exact hd.inF.2.2)))).trans (hr2 j v hv)
  have hw3 : w3.heap[p]? = w1.heap[p]? := (hg3.block p (by have := hg2.size; simp at this; omega) (fun e => hd.ne.2.1 (by injection e))).trans ((hg2.block p (by simp; omega) (fun e => (hne p e.symm).1 rfl)).trans (heap_alloc_old w1.drew _ hlt.1))
  have hcn : w3.cell? ⟨p, 10, none⟩ = some (.int .i64 (d.n : Int)) := (World.cell?_of_block (a := ⟨p, 10, none⟩) hw3).trans hd.c10
  have hfn : w3.frozen? ⟨p, 10, none⟩ = false := (World.frozen?_of_block (a := ⟨p, 10, none⟩) hw3).trans (hd.free 10)
  have hput := hd.put (fun k hk => hF k (Nat.le_trans ho.size hk)) hi0.out Hl.out hn hrow2 hg2 hob2 hmap3 hg3
  refine wpAnyH_ready (rs := [10, 14]) (by kernel_rfl) (by simp) (AllReadyH.cons (o := ⟨some 30, .lookup 117 (.tmp 28) (.tmp 29) false, _, _, _, none⟩) rfl (fun K hK => ?b10) (AllReadyH.cons (o := ⟨some 34, .buildSlice 116 1 #[(0, .tmp 33)], _, _, _, none⟩) rfl (fun K hK => ?b14) AllReadyH.nil))
  case' b10 =>
    rw [if_pos (by rfl)]
    refine wp_run (S i) w1.drew (exec_lookup (t := 117) (m := .tmp 28) (x := .tmp 29) rfl (vm := .map (some bm)) rfl (vx := .int .i64 (i : Int)) rfl (hlk.2 w1.drew rfl)) ?_
    refine hK.out _ _ hHeld (fun hHeld => ?_)
    clear hK K
    go_frame
    refine wpAnyH_ready (rs := [14]) (by kernel_rfl) (by simp) (AllReadyH.cons (o := ⟨some 34, .buildSlice 116 1 #[(0, .tmp 33)], _, _, _, none⟩) rfl (fun K hK => ?_) AllReadyH.nil)
    rw [if_pos (by rfl)]
    refine wp_run (.slice (some ⟨w1.drew.heap.size, 0, none⟩) 1 1) (w1.drew.alloc (.cells (cellsB l).toArray 121)) (exec_slice_one (t := 116) (x := .tmp 33) rfl (v := .agg (cellsB l).toArray) rfl (build_sector l Hl.out w1.drew)) ?_
    refine hK.out _ _ (hsA _) (fun hHeld => ?_)
    clear hK K
    go_frame
  case' b14 =>
    rw [if_pos (by rfl)]
    refine wp_run (.slice (some ⟨w1.drew.heap.size, 0, none⟩) 1 1) (w1.drew.alloc (.cells (cellsB l).toArray 121)) (exec_slice_one (t := 116) (x := .tmp 33) rfl (v := .agg (cellsB l).toArray) rfl (build_sector l Hl.out w1.drew)) ?_
    refine hK.out _ _ (hsA _) (fun hHeld => ?_)
    clear hK K
    go_frame
    refine wpAnyH_ready (rs := [10]) (by kernel_rfl) (by simp) (AllReadyH.cons (o := ⟨some 30, .lookup 117 (.tmp 28) (.tmp 29) false, _, _, _, none⟩) rfl (fun K hK => ?_) AllReadyH.nil)
    rw [if_pos (by rfl)]
    refine wp_run (S i) (w1.drew.alloc (.cells (cellsB l).toArray 121)) (exec_lookup (t := 117) (m := .tmp 28) (x := .tmp 29) rfl (vm := .map (some bm)) rfl (vx := .int .i64 (i : Int)) rfl (Look.alloc (w := w1.drew) hlk _)) ?_
    refine hK.out _ _ hHeld (fun hHeld => ?_)
    clear hK K
    go_frame
  all_goals
    refine wpAnyH_ready (rs := [15]) (by kernel_rfl) (by simp) (AllReadyH.cons (o := ⟨some 35, .call { callee := .builtin .append, args := #[.tmp 30, .tmp 34], argTypes := #[116, 116] }, 116, _, _, none⟩) rfl (fun K hK => ?_) AllReadyH.nil)
    rw [if_pos (by rfl)]
    refine wp_run v2 w2 (exec_append (t := 116) (x := .tmp 30) (y := .tmp 34) rfl (u := S i) rfl (v := .slice (some ⟨w1.drew.heap.size, 0, none⟩) 1 1) rfl hrun2) ?_
    refine hK.out _ _ ⟨hc2, hr2⟩ (fun hHeld => ?_)
    clear hK K
    go_frame
    refine wpAnyH_ready (rs := [16]) (by kernel_rfl) (by simp) (AllReadyH.cons (o := ⟨none, .mapUpdate 117 (.tmp 23) (.tmp 24) (.tmp 35), _, _, _, none⟩) rfl (fun K hK => ?_) AllReadyH.nil)
    rw [if_pos (by rfl)]
    refine wp_skip w3 (exec_mapUpdate (t := 117) (m := .tmp 23) (x := .tmp 24) (y := .tmp 35) rfl (vm := .map (some bm)) rfl (vx := .int .i64 (i : Int)) rfl (vy := v2) rfl hrun3) ?_
    refine hK.out _ _ ⟨hc3, hr3⟩ (fun hHeld => ?_)
    clear hK K
    go_frame
    refine wpAnyH_done (by kernel_rfl) ?_ _
    clear hh Hf harr
    go_wp2_with fail
    go_ret
    exact ⟨_, _, rfl, hput.1, ho.trans hput.2⟩
set_option maxRecDepth 100000 in
theorem write_arg {i : Int} {A : Option Addr} {n c : Nat} (h : DevIs w F p bl bm S D d) (hi : i < 0 ∨ (d.L.length : Int) ≤ i) : Calls Tryz.prog 75 #[at0 p, .int .i64 i, .slice A n c] w fun e w' => e = .returned (.int .i64 1) ∧ w = w' := by
  have hh := Lib.hid (has_no h.c8 hi)
  go_enter Tryz.func75, Tryz.ntmps75
  go_wp2_with (go_at_call 48; refine hh.out.mono ?_; rintro e w' ⟨rfl, rfl⟩)
  go_ret
  exact ⟨rfl, rfl⟩
set_option maxRecDepth 100000 in
theorem write_nil (i : Int) (A : Option Addr) (n c : Nat) (w : World) : Calls Tryz.prog 75 #[.pointer none, .int .i64 i, .slice A n c] w fun e w' => e = .returned (.int .i64 1) ∧ w = w' := by
  go_enter Tryz.func75, Tryz.ntmps75
  go_wp2_with (go_at_call 48; refine (has_nil _ _).mono ?_; rintro e w' ⟨rfl, rfl⟩)
  go_ret
  exact ⟨rfl, rfl⟩
set_option maxRecDepth 100000 in
theorem write_io {i : Nat} {A : Option Addr} {c : Nat} (h : DevIs w F p bl bm S D d) (hi : i < d.L.length) (hb : d.burns 2 = true) : Calls Tryz.prog 75 #[at0 p, .int .i64 (i : Int), .slice A 256 c] w fun e w' => e = .returned (.int .i64 3) ∧ DevIs w' F p bl bm S D (d.burn 2) ∧ Only F w w' := by
  have hh := Lib.hid (has_yes h.c8 hi)
  have hf := fails_any h (k := 2) (by omega)
  rw [hb] at hf
  have Hf := Lib.hid hf
  clear h hb hi hf
  go_enter Tryz.func75, Tryz.ntmps75
  go_wp2_with (first
    | (go_at_call 48; refine hh.out.mono ?_; rintro e w' ⟨rfl, rfl⟩)
    | (go_at_call 49; refine Hf.out.mono ?_; rintro e w' ⟨rfl, hd, ho⟩))
  go_ret
  exact ⟨rfl, hd, ho⟩
end
end Go.Proofs.YtnmokkkbghlpbaaGreat
/-
  Cells in a row, stored as one value; an array by value, indexed: laws.
-/
namespace Go.Proofs.YtnmokkkbghlpbaaGreat
open Go.RowKit
/-- Cells in a row, stored as one value. -/
theorem store_agg {P : Program} {w : World} {g : Nat} {t : TypeId} {cs : List Value} (hg : w.heap[g]? = some (.cells cs.toArray t (0, 0))) {ys : List Value} (h1 : ∀ u ∈ ys, u.oneCell' = true) {o : Nat} (ho : o + ys.length ≤ cs.length) {ty : TypeId} (hz : (P.info? ty).map (·.size) = some ys.length) :
    ∃ w', (Instr.storeAt ty (.pointer (some ⟨g, o, none⟩)) (.agg ys.toArray)).run P w = .ok () w' ∧ w'.heap[g]? = some (.cells (cs.take o ++ ys ++ cs.drop (o + ys.length)).toArray t (0, 0)) ∧ w.grownBy w' (some g) ∧ w'.heap.size = w.heap.size := by
  have h := run_storeCells_at P g o t ys 0 cs.toArray w hg (by simp; omega) h1
  cases hq : P.info? ty with
  | none => simp [hq] at hz
  | some i =>
    have hs : i.size = ys.length := by simpa [hq] using hz
    simp only [Nat.add_zero] at h
    refine ⟨w.setRow g (cs.take o ++ ys ++ cs.drop (o + ys.length)).toArray, ?_, setRow_heap w g cs.toArray _ t (0, 0) hg, ⟨rfl, rfl, rfl, by simp, fun k hk hne => setRow_other w g k _ (fun e => hne (by rw [e]))⟩, by simp⟩
    simp only [Instr.storeAt, Instr.sureAddr, Sem.run_bind, Sem.run_pure, Result.andThen_ok, storeVar, sizeOf, typeInfo]
    simp [hq, Value.cells, hs, h]
/-- A store whose run is known. -/
theorem wpList_stored {P : Program} {w : World} {ops : Array Oper} {rest : List Oper} {o : Oper} {a : Act} {Q : Exit → Act → World → Prop} (hgd : o.guard = none) (t : TypeId) (x y : Operand) (ho : o.op = .store t x y) (vx vy : Value) (hx : a.eval x = vx) (hy : a.eval y = vy) (w' : World)
    (hrun : (Instr.storeAt t vx vy).run P w = .ok () w') (h : wpList P ops Q rest (a.put o.dst undef) w') : wpList P ops Q (o :: rest) a w := by
  refine wpList_plain hgd fun K hK => ?_
  unfold Oper.wp
  rw [exec_store ho hx hy hrun]
  exact hK _ _ h
theorem exec_build0 {ρ : Operand → Value} {o : Oper} {t : TypeId} (ho : o.op = .build t #[]) {v : Value} {P : Program} {w : World} (hrun : (Instr.build t #[]).run P w = .ok v w) : (execOp ρ o).run P w = .ok (.value v) w := by
  unfold execOp
  simp only [ho, List.map_toArray, List.map_nil, Sem.run_bind, hrun, Result.andThen_ok, Sem.run_pure]
theorem exec_index {P : Program} {w : World} {ρ : Operand → Value} {o : Oper} {t : TypeId} {x y : Operand} (ho : o.op = .index t x y) {vx vy v : Value} (hx : ρ x = vx) (hy : ρ y = vy) {w' : World} (hrun : (Instr.index t vx vy).run P w = .ok v w') : (execOp ρ o).run P w = .ok (.value v) w' := by
  unfold execOp
  simp only [ho, hx, hy, Sem.run_bind, hrun, Result.andThen_ok, Sem.run_pure]
/-- An array of one-cell elements by value, indexed. -/
theorem run_index_one {P : Program} {w : World} {t e : TypeId} {n : Nat} {d : TypeDesc} (h : P.underlying t = some (.array n e)) (he : P.underlying e = some d) (hd : d.isRow = false) (hs : (P.info? e).map (·.size) = some 1) (cs : Array Value) (k : IntKind) {i : Nat} (hi : i < n) {v : Value} (hv : cs[i]? = some v) :
    (Instr.index t (.agg cs) (.int k (i : Int))).run P w = .ok v w := by
  cases hq : P.info? e with
  | none => simp [hq] at hs
  | some q =>
    have hs1 : q.size = 1 := by simpa [hq] using hs
    have ha : (isAgg e).run P w = .ok false w := by
      unfold isAgg
      cases d <;> simp_all [TypeDesc.isRow, underlying]
    have h1 : (0 : Int) ≤ (i : Int) ∧ (i : Int) < (n : Int) := by omega
    simp [Instr.index, run_underlying h, asIntOf, part, ha, sizeOf, typeInfo, hq, hs1, hi, hv]
end Go.Proofs.YtnmokkkbghlpbaaGreat
/-
  The small functions of a cache, by contracts: a frame's own, and which frame holds a sector, or none.
-/
namespace Go.Proofs.YtnmokkkbghlpbaaGreat
open Go.RowKit
/-- A pointer to frame i, or to none. -/
def frPtr (bf : Nat) : Option Nat → Value
  | none => .pointer none
  | some i => .pointer (some ⟨bf, i * 261, none⟩)
abbrev frAt (g o : Nat) : Value := .pointer (some ⟨g, o, none⟩)
set_option maxRecDepth 100000 in
theorem isDirty_any {w : World} {g o : Nat} {b : Bool} (hc : w.cell? ⟨g, o + 258, none⟩ = some (.bool b)) : Calls Tryz.prog 74 #[frAt g o] w fun e w' => e = .returned (.bool b) ∧ w = w' := by
  go_enter Tryz.func74, Tryz.ntmps74
  go_wp2_with fail
  go_ret
  exact ⟨rfl, rfl⟩
set_option maxRecDepth 100000 in
theorem hold_any {w : World} {g o : Nat} {u v : Value} (no : Int) (h0 : w.cell? ⟨g, o, none⟩ = some u) (h1 : w.cell? ⟨g, o + 1, none⟩ = some v) (f0 : w.frozen? ⟨g, o, none⟩ = false) (f1 : w.frozen? ⟨g, o + 1, none⟩ = false) :
    Calls Tryz.prog 140 #[frAt g o, .int .i64 no] w fun e w' => e = .returned (.tuple #[]) ∧ (w.setCell ⟨g, o, none⟩ (.bool true)).setCell ⟨g, o + 1, none⟩ (.int .i64 no) = w' := by
  go_enter Tryz.func140, Tryz.ntmps140
  go_wp2_with fail
  go_end0
  exact ⟨rfl, rfl⟩
set_option maxRecDepth 100000 in
theorem drop_no {w : World} {g o n : Nat} (hn : 0 < n) (h0 : w.cell? ⟨g, o + 260, none⟩ = some (.int .i64 (n : Int))) :
    Calls Tryz.prog 170 #[frAt g o] w fun e w' => e = .returned (.bool false) ∧ w = w' := by
  have t1 : decide (0 < (n : Int)) = true := by simp; omega
  go_enter Tryz.func170, Tryz.ntmps170
  go_wp2_with fail
  go_ret
  exact ⟨rfl, rfl⟩
theorem info_frame : (Tryz.prog.info? 148).map (fun i => (i.zero, i.size)) = some (some (.agg (frCells Frm.zero).toArray), 261) := by kernel_rfl
theorem build_frame (w : World) : (Instr.build 148 #[]).run Tryz.prog w = .ok (.agg (frCells Frm.zero).toArray) w := by kernel_rfl
set_option maxRecDepth 100000 in
theorem drop_yes {w : World} {g o : Nat} {cs : List Value} {t : TypeId} (h0 : w.cell? ⟨g, o + 260, none⟩ = some (.int .i64 0)) (hg : w.heap[g]? = some (.cells cs.toArray t (0, 0))) (ho : o + 261 ≤ cs.length) :
    Calls Tryz.prog 170 #[frAt g o] w fun e w' => e = .returned (.bool true) ∧ w'.heap[g]? = some (.cells (cs.take o ++ frCells Frm.zero ++ cs.drop (o + (frCells Frm.zero).length)).toArray t (0, 0)) ∧ w.grownBy w' (some g) ∧ w'.heap.size = w.heap.size := by
  have hl : (frCells Frm.zero).length = 261 := frCells_length (by simp [Frm.zero])
  obtain ⟨w1, hrun, e1, e2, e3⟩ := store_agg (P := Tryz.prog) hg (frCells_one Frm.zero) (o := o) (by omega) (ty := 148) (by rw [hl]; have := info_frame; cases hq : Tryz.prog.info? 148 with
    | none => rw [hq] at this; cases this
    | some i => rw [hq] at this; have := congrArg Prod.snd (Option.some.inj this); simp at this; simp [this])
  obtain ⟨Z, hZ⟩ : ∃ Z, Z = frCells Frm.zero := ⟨_, rfl⟩
  have hz := build_frame
  rw [← hZ] at hrun e1 hz ⊢
  have He1 := Lib.hid e1
  have He2 := Lib.hid e2
  have He3 := Lib.hid e3
  clear hl hZ hg ho e1 e2 e3
  go_enter Tryz.func170, Tryz.ntmps170
  go_wp2_with (first
    | ((with_reducible refine wpList_run (o := ⟨some 9, .build 148 #[], _, _, _, none⟩) rfl (.agg Z.toArray) w ?_ ?_); exact exec_build0 rfl (hz _))
    | ((with_reducible refine wpList_stored (o := ⟨none, .store 148 (.tmp 10) (.tmp 9), _, _, _, none⟩) rfl 148 (.tmp 10) (.tmp 9) rfl (frAt g o) (.agg Z.toArray) ?_ ?_ w1 hrun ?_); exact rfl; exact rfl))
  go_ret
  exact ⟨rfl, He1.out, He2.out, He3.out⟩
end Go.Proofs.YtnmokkkbghlpbaaGreat
/-
  Which frame holds a sector, which holds nothing, which is given away: contracts.
-/
namespace Go.Proofs.YtnmokkkbghlpbaaGreat
open Go.RowKit
/-- The frame that holds a sector. -/
def Cch.holder (x : Cch) (no : Int) : Option Nat := x.L.findIdx? fun f => f.full && f.no == no
/-- The first frame that holds nothing. -/
def Cch.empty (x : Cch) : Option Nat := x.L.findIdx? fun f => !f.full
theorem find_hit {L : List Frm} {q : Frm → Bool} {k : Nat} (hk : k < L.length) (h1 : q L[k] = true) (h2 : ∀ j (h : j < k), q (L[j]'(Nat.lt_trans h hk)) = false) : L.findIdx? q = some k := by
  rw [List.findIdx?_eq_some_iff_getElem]
  exact ⟨hk, h1, fun j hj => by rw [h2 j hj]; simp⟩
theorem find_none {L : List Frm} {q : Frm → Bool} (h2 : ∀ j (h : j < L.length), q L[j] = false) : L.findIdx? q = none := by
  rw [List.findIdx?_eq_none_iff]
  intro f hf
  obtain ⟨j, hj, rfl⟩ := List.mem_iff_getElem.1 hf
  exact h2 j hj
set_option maxRecDepth 100000 in
theorem cacheLen_nil (w : World) : Calls Tryz.prog 42 #[.pointer none] w fun e w' => e = .returned (.int .i64 0) ∧ w = w' := by
  go_enter Tryz.func42, Tryz.ntmps42
  go_wp2_with fail
  go_ret
  exact ⟨rfl, rfl⟩
set_option maxRecDepth 100000 in
theorem cacheLen_any {w : World} {c p bl n : Nat} (k2 : w.cell? ⟨c, 2, none⟩ = some (at0 p)) (hc : w.cell? ⟨p, 8, none⟩ = some (.slice (some ⟨bl, 0, none⟩) n n)) : Calls Tryz.prog 42 #[at0 c] w fun e w' => e = .returned (.int .i64 (n : Int)) ∧ w = w' := by
  go_enter Tryz.func42, Tryz.ntmps42
  go_wp2_with (go_at_call 72; refine (len_any hc).mono ?_; rintro e w' ⟨rfl, rfl⟩)
  go_ret
  exact ⟨rfl, rfl⟩
set_option maxRecDepth 100000 in
theorem has_cache_nil (no : Int) (w : World) : Calls Tryz.prog 110 #[.pointer none, .int .i64 no] w fun e w' => e = .returned (.bool false) ∧ w = w' := by
  by_cases h0 : 0 ≤ no
  · have t1 : decide (no < (0 : Int)) = false := by simp; omega
    go_enter Tryz.func110, Tryz.ntmps110
    go_wp2_with (go_at_call 42; refine (cacheLen_nil _).mono ?_; rintro e w' ⟨rfl, rfl⟩)
    go_ret
    exact ⟨rfl, rfl⟩
  · go_enter Tryz.func110, Tryz.ntmps110
    go_wp2_with fail
    go_ret
    exact ⟨rfl, rfl⟩
set_option maxRecDepth 100000 in
theorem has_cache {w : World} {c p bl n : Nat} (no : Int) (k2 : w.cell? ⟨c, 2, none⟩ = some (at0 p)) (hc : w.cell? ⟨p, 8, none⟩ = some (.slice (some ⟨bl, 0, none⟩) n n)) : Calls Tryz.prog 110 #[at0 c, .int .i64 no] w fun e w' => e = .returned (.bool (decide (0 ≤ no ∧ no < n))) ∧ w = w' := by
  by_cases h0 : 0 ≤ no
  · by_cases h1 : no < n
    · have e1 : decide (0 ≤ no ∧ no < (n : Int)) = true := by simp [h0, h1]
      have t1 : decide (no < (n : Int)) = true := by simp [h1]
      rw [e1]
      clear e1 h1
      go_enter Tryz.func110, Tryz.ntmps110
      go_wp2_with (go_at_call 42; refine (cacheLen_any k2 hc).mono ?_; rintro e w' ⟨rfl, rfl⟩)
      go_ret
      exact ⟨rfl, rfl⟩
    · have e1 : decide (0 ≤ no ∧ no < (n : Int)) = false := by simp [h1]
      have t1 : decide (no < (n : Int)) = false := by simp [h1]
      rw [e1]
      clear e1 h1
      go_enter Tryz.func110, Tryz.ntmps110
      go_wp2_with (go_at_call 42; refine (cacheLen_any k2 hc).mono ?_; rintro e w' ⟨rfl, rfl⟩)
      go_ret
      exact ⟨rfl, rfl⟩
  · have e1 : decide (0 ≤ no ∧ no < (n : Int)) = false := by simp [h0]
    rw [e1]
    clear e1
    go_enter Tryz.func110, Tryz.ntmps110
    go_wp2_with fail
    go_ret
    exact ⟨rfl, rfl⟩
section
variable {w w' : World} {c bf p : Nat} {x : Cch}
set_option maxRecDepth 100000 in
set_option maxHeartbeats 400000 in
theorem holder_any (h : CacheIs w c bf p x) (no : Int) : Calls Tryz.prog 45 #[at0 c, .int .i64 no] w fun e w' => e = .returned (frPtr bf (x.holder no)) ∧ w = w' := by
  have k0 := h.k0
  have hs := h.size
  have h0 : ∀ k, ∀ hk : k < x.L.length, w.cell? ⟨bf, k * 261, none⟩ = some (.bool x.L[k].full) := fun k hk => h.f0 hk
  have h1 : ∀ k, ∀ hk : k < x.L.length, w.cell? ⟨bf, k * 261 + 1, none⟩ = some (.int .i64 x.L[k].no) := fun k hk => h.f1 hk
  have hit : ∀ k (hk : k < x.L.length), x.L[k].full = true → x.L[k].no = no → (∀ j (hj : j < k), (x.L[j]'(Nat.lt_trans hj hk)).full = true → (x.L[j]'(Nat.lt_trans hj hk)).no ≠ no) → x.holder no = some k := by
    intro k hk a b hn
    refine find_hit hk (by simp [a, b]) fun j hj => ?_
    rcases hf : (x.L[j]'(Nat.lt_trans hj hk)).full with _ | _
    · simp
    · simp [hn j hj hf]
  have miss : (∀ j (hj : j < x.L.length), x.L[j].full = true → x.L[j].no ≠ no) → x.holder no = none := by
    intro hn
    refine find_none fun j hj => ?_
    rcases hf : x.L[j].full with _ | _
    · simp
    · simp [hn j hj hf]
  obtain ⟨r, hr⟩ : ∃ r, r = x.holder no := ⟨_, rfl⟩
  rw [← hr] at hit miss ⊢
  obtain ⟨L, hL⟩ : ∃ L, L = x.L := ⟨_, rfl⟩
  rw [← hL] at k0 hs h0 h1 hit miss
  obtain ⟨n, hn⟩ : ∃ n, n = L.length := ⟨_, rfl⟩
  rw [← hn] at k0 hs
  have Hn := Lib.hid hn
  have H0 := Lib.hid h0
  have H1 := Lib.hid h1
  have Hit := Lib.hid hit
  have Miss := Lib.hid miss
  clear h h0 h1 hit miss hr hL hn
  go_enter Tryz.func45, Tryz.ntmps45
  go_wp2_with fail
  go_loop [12] (fun i => ∃ k : Nat, k ≤ n ∧ i = .int .i64 (k : Int) ∧ Hid (∀ j (hj : j < L.length), j < k → L[j].full = true → L[j].no ≠ no)) (fun i => n - (intOf i).toNat)
  case atStart => exact ⟨0, by omega, rfl, Lib.hid fun j _ h => by omega⟩
  case round =>
    obtain ⟨k, hk, rfl, hno⟩ := hrel
    by_cases hlt : k < n
    · have hk' : k < L.length := Hn.out ▸ hlt
      have a0 := H0.out k hk'
      have a1 := H1.out k hk'
      have next : ∀ (_ : L[k].full = true → L[k].no ≠ no), Hid (∀ j (hj : j < L.length), j < k + 1 → L[j].full = true → L[j].no ≠ no) := fun hh => Lib.hid fun j hj hjk => by
        by_cases e : j = k
        · subst e; exact hh
        · exact hno.out j hj (by omega)
      have t0 : decide ((k : Int) < (n : Int)) = true := by simp [hlt]
      rcases hf : L[k].full with _ | _
      · rw [hf] at a0
        have nx := next (fun e => by rw [hf] at e; cases e)
        clear next hno hf a1
        go_wp2_with fail
        go_round
        case rel => exact ⟨k + 1, hlt, by go_num, nx⟩
        case measure => simp [intOf]; omega
      · rw [hf] at a0
        by_cases e : L[k].no = no
        · have hr := Hit.out k hk' hf e (fun j hj => hno.out j (Nat.lt_trans hj hk') hj)
          rw [e] at a1
          subst hr
          clear next hno hf e
          go_wp2_with fail
          go_ret
          exact ⟨rfl, rfl⟩
        · have nx := next (fun _ => e)
          have t1 : decide (L[k].no = no) = false := by simp [e]
          have t2 : (L[k].no == no) = false := by simp [e]
          obtain ⟨m, hm⟩ : ∃ m, m = L[k].no := ⟨_, rfl⟩
          rw [← hm] at a1 t1 t2
          clear next hno e hm hf
          go_wp2_with fail
          go_round
          case rel => exact ⟨k + 1, hlt, by go_num, nx⟩
          case measure => simp [intOf]; omega
    · have e : k = n := by omega
      subst e
      have hr := Miss.out fun j hj => hno.out j hj (Hn.out ▸ hj)
      subst hr
      have t0 : decide ((k : Int) < (k : Int)) = false := by simp
      go_wp2_with fail
      go_ret
      exact ⟨rfl, rfl⟩
set_option maxRecDepth 100000 in
set_option maxHeartbeats 400000 in
theorem empty_any (h : CacheIs w c bf p x) : Calls Tryz.prog 173 #[at0 c] w fun e w' => e = .returned (frPtr bf x.empty) ∧ w = w' := by
  have k0 := h.k0
  have hs := h.size
  have h0 : ∀ k, ∀ hk : k < x.L.length, w.cell? ⟨bf, k * 261, none⟩ = some (.bool x.L[k].full) := fun k hk => h.f0 hk
  have hit : ∀ k (hk : k < x.L.length), x.L[k].full = false → (∀ j (hj : j < k), (x.L[j]'(Nat.lt_trans hj hk)).full = true) → x.empty = some k := by
    intro k hk a hn
    exact find_hit hk (by simp [a]) fun j hj => by simp [hn j hj]
  have miss : (∀ j (hj : j < x.L.length), x.L[j].full = true) → x.empty = none := by
    intro hn
    exact find_none fun j hj => by simp [hn j hj]
  obtain ⟨r, hr⟩ : ∃ r, r = x.empty := ⟨_, rfl⟩
  rw [← hr] at hit miss ⊢
  obtain ⟨L, hL⟩ : ∃ L, L = x.L := ⟨_, rfl⟩
  rw [← hL] at k0 hs h0 hit miss
  obtain ⟨n, hn⟩ : ∃ n, n = L.length := ⟨_, rfl⟩
  rw [← hn] at k0 hs
  have Hn := Lib.hid hn
  have H0 := Lib.hid h0
  have Hit := Lib.hid hit
  have Miss := Lib.hid miss
  clear h h0 hit miss hr hL hn
  go_enter Tryz.func173, Tryz.ntmps173
  go_wp2_with fail
  go_loop [10] (fun i => ∃ k : Nat, k ≤ n ∧ i = .int .i64 (k : Int) ∧ Hid (∀ j (hj : j < L.length), j < k → L[j].full = true)) (fun i => n - (intOf i).toNat)
  case atStart => exact ⟨0, by omega, rfl, Lib.hid fun j _ h => by omega⟩
  case round =>
    obtain ⟨k, hk, rfl, hno⟩ := hrel
    by_cases hlt : k < n
    · have hk' : k < L.length := Hn.out ▸ hlt
      have a0 := H0.out k hk'
      have next : ∀ (_ : L[k].full = true), Hid (∀ j (hj : j < L.length), j < k + 1 → L[j].full = true) := fun hh => Lib.hid fun j hj hjk => by
        by_cases e : j = k
        · subst e; exact hh
        · exact hno.out j hj (by omega)
      have t0 : decide ((k : Int) < (n : Int)) = true := by simp [hlt]
      rcases hf : L[k].full with _ | _
      · rw [hf] at a0
        have hr := Hit.out k hk' hf (fun j hj => hno.out j (Nat.lt_trans hj hk') hj)
        subst hr
        clear next hno hf
        go_wp2_with fail
        go_ret
        exact ⟨rfl, rfl⟩
      · rw [hf] at a0
        have nx := next hf
        clear next hno hf
        go_wp2_with fail
        go_round
        case rel => exact ⟨k + 1, hlt, by go_num, nx⟩
        case measure => simp [intOf]; omega
    · have e : k = n := by omega
      subst e
      have hr := Miss.out fun j hj => hno.out j hj (Hn.out ▸ hj)
      subst hr
      have t0 : decide ((k : Int) < (k : Int)) = false := by simp
      go_wp2_with fail
      go_ret
      exact ⟨rfl, rfl⟩
end
/-- The hand goes round, so many times at most, up to behind the frame that is given away. -/
def turnGo : Nat → Cch → Option Nat × Cch
  | 0, x => (none, x)
  | k + 1, x =>
    if 0 < (x.L.getD x.hand Frm.zero).pins then turnGo k { x with hand := (x.hand + 1) % x.L.length }
    else if (x.L.getD x.hand Frm.zero).used = true then turnGo k { L := x.L.set x.hand { x.L.getD x.hand Frm.zero with used := false }, hand := (x.hand + 1) % x.L.length }
    else (some x.hand, { x with hand := (x.hand + 1) % x.L.length })
def Cch.turn (x : Cch) : Option Nat × Cch := turnGo (2 * x.L.length) x
section
variable {w w' : World} {c bf p : Nat} {x : Cch}
set_option maxRecDepth 100000 in
set_option maxHeartbeats 400000 in
theorem turn_any (h : CacheIs w c bf p x) : Calls Tryz.prog 174 #[at0 c] w fun e w' => e = .returned (frPtr bf x.turn.1) ∧ CacheIs w' c bf p x.turn.2 ∧ Only (fun k => k = c ∨ k = bf) w w' := by
  obtain ⟨r, hr⟩ : ∃ r, r = x.turn := ⟨_, rfl⟩
  rw [← hr]
  obtain ⟨n, hn⟩ : ∃ n, n = x.L.length := ⟨_, rfl⟩
  have hs := h.size
  have k0 := h.k0
  rw [← hn] at hs k0
  have Hs : Hid (∃ y : Cch, y.L.length = n ∧ turnGo (2 * n - 0) y = r ∧ CacheIs w c bf p y) := Lib.hid ⟨x, hn.symm, by rw [hr, hn]; rfl, h⟩
  have hne := h.ne
  clear h hr hn
  go_enter Tryz.func174, Tryz.ntmps174
  go_wp2_with fail
  go_loopw [10] (fun i wr => ∃ (k : Nat), k ≤ 2 * n ∧ i = .int .i64 (k : Int) ∧ Hid (∃ y : Cch, y.L.length = n ∧ turnGo (2 * n - k) y = r ∧ CacheIs wr c bf p y) ∧ Only (fun k => k = c ∨ k = bf) w wr) (fun i _ => 2 * n - (intOf i).toNat)
  case atStart => exact ⟨0, by omega, rfl, Hs, Only.refl _ _⟩
  case round =>
    obtain ⟨k, hk, rfl, HY, ho⟩ := hrel
    obtain ⟨y, hyn, hyr, hc⟩ := HY.out
    clear HY
    by_cases hlt : k < 2 * n
    · have hh := hc.hand
      have g0 := hc.k0
      have g1 := hc.k1
      have q0 := hc.f260 hh
      have q1 := hc.f259 hh
      have fc := hc.freeC 1
      have ff := hc.freeF (y.hand * 261 + 259)
      rw [hyn] at g0
      have t0 : decide ((k : Int) < 2 * (n : Int)) = true := by simp; omega
      have hh2 : y.hand < n := hyn ▸ hh
      obtain ⟨fr, hfr⟩ : ∃ fr, fr = y.L.getD y.hand Frm.zero := ⟨_, rfl⟩
      have hfr2 : y.L[y.hand]'hh = fr := by rw [hfr, List.getD_eq_getElem?_getD, List.getElem?_eq_getElem hh, Option.getD_some]
      rw [hfr2] at q0 q1
      clear hfr2
      obtain ⟨hd, hhd⟩ : ∃ hd, hd = y.hand := ⟨_, rfl⟩
      rw [← hhd] at g1 q0 q1 ff hh2
      have Hc := Lib.hid hc
      have Hr := Lib.hid hyr
      have Ho := Lib.hid ho
      have Hfr := Lib.hid hfr
      have Hhd := Lib.hid hhd
      have Hyn := Lib.hid hyn
      clear hc hyr ho hfr hhd hyn hh
      have b0 : (0 : Int) ≤ (hd : Int) := by omega
      have b1 : (hd : Int) < (n : Int) := by omega
      have b2 : ((hd : Int)).toNat = hd := by omega
      have b6 : ¬ n = 0 := by omega
      have b3 : IntKind.i64.wrap ((hd : Int) + 1) = (hd : Int) + 1 := IntWalk.i64_in _ (by omega)
      obtain ⟨h2, hh2'⟩ : ∃ h2, h2 = (hd + 1) % n := ⟨_, rfl⟩
      have b4 : ((hd : Int) + 1).tmod (n : Int) = (h2 : Int) := by rw [hh2', Int.tmod_eq_emod_of_nonneg (by omega)]; simp
      have b5 : IntKind.i64.wrap (h2 : Int) = (h2 : Int) := IntWalk.i64_in _ (by have := Nat.mod_lt (hd + 1) (show 0 < n by omega); omega)
      have Hh2 := Lib.hid hh2'
      clear hh2'
      obtain ⟨f2, hf2⟩ : ∃ f2, f2 = { fr with used := false } := ⟨_, rfl⟩
      have Hf2 := Lib.hid hf2
      have Hgo : Hid (r = if 0 < fr.pins then turnGo (2 * n - (k + 1)) { y with hand := h2 } else if fr.used = true then turnGo (2 * n - (k + 1)) { L := y.L.set hd f2, hand := h2 } else (some hd, { y with hand := h2 })) := Lib.hid (by
        rw [← Hr.out, show 2 * n - k = (2 * n - (k + 1)) + 1 by omega, turnGo, ← Hfr.out, ← Hhd.out, Hyn.out, ← Hh2.out, ← Hf2.out])
      clear hf2
      have hh3 : h2 < n := by rw [Hh2.out]; exact Nat.mod_lt _ (by omega)
      have hh3 := Kept.mk hh3
      go_wp2_with fail
      go_quiet (fail)
      generalize hw1 : wr.drewN nq = w1
      have Hc1 : Hid (CacheIs w1 c bf p y) := Lib.hid (by rw [← hw1]; exact Hc.out.keep rfl rfl)
      have Ho1 : Hid (Only (fun k => k = c ∨ k = bf) w w1) := Lib.hid (by rw [← hw1]; exact ⟨Ho.out.os, Ho.out.tape, Ho.out.output, Ho.out.size, Ho.out.block⟩)
      replace g0 : w1.cell? ⟨c, 0, none⟩ = some (.slice (some ⟨bf, 0, none⟩) n n) := by rw [← hw1]; exact g0
      replace g1 : w1.cell? ⟨c, 1, none⟩ = some (.int .i64 (hd : Int)) := by rw [← hw1]; exact g1
      replace q0 : w1.cell? ⟨bf, hd * 261 + 260, none⟩ = some (.int .i64 (fr.pins : Int)) := by rw [← hw1]; exact q0
      replace q1 : w1.cell? ⟨bf, hd * 261 + 259, none⟩ = some (.bool fr.used) := by rw [← hw1]; exact q1
      replace fc : w1.frozen? ⟨c, 1, none⟩ = false := by rw [← hw1]; exact fc
      replace ff : w1.frozen? ⟨bf, hd * 261 + 259, none⟩ = false := by rw [← hw1]; exact ff
      clear hw1 Hc Ho
      go_wp2_with fail
      have Hc2 : Hid (CacheIs (w1.setCell ⟨c, 1, none⟩ (.int .i64 (h2 : Int))).drew c bf p { y with hand := h2 }) := Lib.hid ((Hc1.out.turned (k := h2) (by rw [Hyn.out]; exact hh3.out)).keep rfl rfl)
      have Ho2 : Hid (Only (fun k => k = c ∨ k = bf) w (w1.setCell ⟨c, 1, none⟩ (.int .i64 (h2 : Int))).drew) := Lib.hid ((Ho1.out.trans (Only.setCell (F := fun k => k = c ∨ k = bf) (p := ⟨c, 1, none⟩) (.inl rfl) _)).trans (Only.drew _ _))
      have Hc3 : Hid (CacheIs ((w1.setCell ⟨c, 1, none⟩ (.int .i64 (h2 : Int))).setCell ⟨bf, hd * 261 + 259, none⟩ (.bool false)).drew c bf p { L := y.L.set hd f2, hand := h2 }) := Lib.hid (by
        have hlt' : hd < y.L.length := by rw [Hyn.out]; exact hh2
        have e : y.L[hd] = fr := by rw [Hfr.out, ← Hhd.out, List.getD_eq_getElem?_getD, List.getElem?_eq_getElem hlt', Option.getD_some]
        have hw := Hc1.out.wide.at_ hlt'
        rw [e] at hw
        have := (Hc1.out.turned (k := h2) (by rw [Hyn.out]; exact hh3.out)).set (i := hd) (j := 259) (v := .bool false) (f := f2) hlt' (by omega) (by rw [e, Hf2.out]; exact frCells_set259 hw false) (by rw [Hf2.out]; exact hw)
        exact this.keep rfl rfl)
      have Ho3 : Hid (Only (fun k => k = c ∨ k = bf) w ((w1.setCell ⟨c, 1, none⟩ (.int .i64 (h2 : Int))).setCell ⟨bf, hd * 261 + 259, none⟩ (.bool false)).drew) := Lib.hid ((Ho1.out.trans ((Only.setCell (F := fun k => k = c ∨ k = bf) (p := ⟨c, 1, none⟩) (.inl rfl) _).trans (Only.setCell (F := fun k => k = c ∨ k = bf) (p := ⟨bf, hd * 261 + 259, none⟩) (.inr rfl) _))).trans (Only.drew _ _))
      have Hyn2 : Hid ((y.L.set hd f2).length = n) := Lib.hid (by rw [List.length_set]; exact Hyn.out)
      obtain ⟨pn, hpn⟩ : ∃ pn, pn = fr.pins := ⟨_, rfl⟩
      obtain ⟨us, hus⟩ : ∃ us, us = fr.used := ⟨_, rfl⟩
      rw [← hpn] at q0 Hgo
      rw [← hus] at q1 Hgo
      clear hpn hus
      by_cases hp : 0 < pn
      · have e := Hgo.out
        rw [if_pos hp] at e
        have e := Lib.hid e.symm
        have d0 : decide (0 < (pn : Int)) = true := by simp [hp]
        clear Hgo Hc1 Ho1
        go_still_tail 14, (by kernel_rfl)
        go_wp2_with fail
        go_roundw
        case rel => exact ⟨k + 1, hlt, by go_num, Lib.hid ⟨{ y with hand := h2 }, Hyn.out, e.out, Hc2.out⟩, Ho2.out⟩
        case measure => simp [intOf]; omega
      · have e := Hgo.out
        rw [if_neg hp] at e
        have d0 : pn = 0 := by omega
        subst d0
        rcases us with _ | _
        · rw [if_neg (by simp)] at e
          subst e
          clear Hgo Hc1 Ho1
          go_still_tail 14, (by kernel_rfl)
          go_wp2_with fail
          go_ret
          exact ⟨rfl, Hc2.out, Ho2.out⟩
        · rw [if_pos rfl] at e
          have e := Lib.hid e.symm
          clear Hgo Hc1 Ho1
          go_still_tail 14, (by kernel_rfl)
          go_wp2_with fail
          go_roundw
          case rel => exact ⟨k + 1, hlt, by go_num, Lib.hid ⟨{ L := y.L.set hd f2, hand := h2 }, Hyn2.out, e.out, Hc3.out⟩, Ho3.out⟩
          case measure => simp [intOf]; omega
    · have e : k = 2 * n := by omega
      subst e
      rw [Nat.sub_self] at hyr
      have e2 : (none, y) = r := hyr
      subst e2
      have t0 : decide (((2 * n : Nat) : Int) < 2 * (n : Int)) = false := by simp
      clear hyr
      go_wp2_with fail
      go_ret
      exact ⟨rfl, hc, ho⟩
end
end Go.Proofs.YtnmokkkbghlpbaaGreat
/-
  What the statements of many layers share: what a slice of bytes' elements are, and 'Few' of layer 1, by contract.
-/
namespace Go.Proofs.YtnmokkkbghlpbaaGreat
open Go.RowKit

theorem info_u8 : (Tryz.prog.info? 5).map (fun i => (i.zero, i.size, i.bytes)) = some (some (.int .u8 0), 1, 1) := by kernel_rfl
theorem i64_of_wf {n : Int} (h : (Lit.int .i64 n).wf = true) : -9223372036854775808 ≤ n ∧ n ≤ 9223372036854775807 := by
  simpa [Lit.wf, IntKind.min, IntKind.max, IntKind.bits, IntKind.signed] using h

set_option maxRecDepth 100000 in
set_option maxHeartbeats 400000 in
theorem few_any (v : Value) (l : List UInt8) (most : Nat) (w : World) (B : Nat) (hr : Rd w B v (cellsB l)) (hB : B ≤ w.heap.size) (hm : most ≤ 1000000) :
    Calls Tryz.prog 26 #[v, .int .i64 (most : Int)] w fun e w' => ∃ v', e = .returned v' ∧ Mine w' w.heap.size 5 v' (cellsB (l.take most)) ∧ Below w.heap.size w w' := by
  obtain ⟨i, hi, hz0, hz1, hz2⟩ := info_parts info_u8
  obtain ⟨A, c, rfl, g1, g2, hr⟩ := hr.bytes
  have hle : (cellsB (l.take most)).length ≤ most := by rw [cellsB_length]; simp; omega
  by_cases hlt : most < l.length
  · have hcut := (hr.upto (hi := most) (by omega)).alloc hB (.cells #[] 5)
    rw [cellsB_take] at hcut
    go_enter Tryz.func26, Tryz.ntmps26
    go_wp2_with (at_builtin; refine wpList_append_rd rfl _ _ 31 rfl w.heap.size 5 i _ 1 Tryz.underlying31 hi hz0 hz1 hz2 rfl _ [] rfl (Mine.empty w _ 5 (Nat.le_refl _)) B _ _ rfl hcut (cellsB_one _) (by simp; omega) (by unfold maxLen; simp; omega) (by simp) ?_; intro v' w' hown hbel _ _)
    go_ret
    exact ⟨_, rfl, hown, ((Below.refl _ _).alloc (Nat.le_refl _) _).trans hbel⟩
  · have hcut := hr.alloc hB (.cells #[] 5)
    have ht : l.take most = l := List.take_of_length_le (by omega)
    rw [ht] at hle ⊢
    clear ht
    go_enter Tryz.func26, Tryz.ntmps26
    go_wp2_with (at_builtin; refine wpList_append_rd rfl _ _ 31 rfl w.heap.size 5 i _ 1 Tryz.underlying31 hi hz0 hz1 hz2 rfl _ [] rfl (Mine.empty w _ 5 (Nat.le_refl _)) B _ _ rfl hcut (cellsB_one _) (by simp; omega) (by unfold maxLen; simp; omega) (by simp) ?_; intro v' w' hown hbel _ _)
    go_ret
    exact ⟨_, rfl, hown, ((Below.refl _ _).alloc (Nat.le_refl _) _).trans hbel⟩

/-- Few, the memory behind it. -/
theorem few_cut (most : Nat) (v : Value) (l : List UInt8) (w : World) (B : Nat) (hr : Rd w B v (cellsB l)) (hB : B ≤ w.heap.size) (hm : most ≤ 1000000) : ∃ m : List UInt8, m.length ≤ most ∧
    Calls Tryz.prog 26 #[v, .int .i64 (most : Int)] w fun e w' => ∃ A c, e = .returned (.slice A m.length c) ∧ m.length ≤ c ∧ Rd w' w'.heap.size (.slice A m.length c) (cellsB m) ∧ Below w.heap.size w w' := by
  refine ⟨l.take most, by simp; omega, (few_any v l most w B hr hB hm).mono ?_⟩
  rintro e w' ⟨v', rfl, h1, h2⟩
  obtain ⟨A, c, rfl, g1, _, g2⟩ := h1.rd.bytes
  exact ⟨A, c, rfl, g1, g2, h2⟩
/-- The bytes of a constant text, as '[]byte("..")' lays them. -/
theorem rd_const (w : World) (e : TypeId) (m : Nat × Nat) (l : List UInt8) (h : l.length ≤ maxLen) :
    Rd (w.alloc (.cells (cellsB l).toArray e m)) (w.heap.size + 1) (.slice (some ⟨w.heap.size, 0, none⟩) l.length l.length) (cellsB l) := by
  refine ⟨some ⟨w.heap.size, 0, none⟩, l.length, by rw [cellsB_length], by rw [cellsB_length]; exact Nat.le_refl _, h, (fun h => by cases h), fun _ => ⟨w.heap.size, 0, rfl, Nat.lt_succ_self _, fun j u hu => ?_⟩⟩
  rw [Nat.zero_add, World.cell?_alloc_mark]
  simpa using hu
end Go.Proofs.YtnmokkkbghlpbaaGreat
/-
  Nodes of trees as plain data: how texts are compared, what is sound. No Go text is spoken of here.
-/
namespace Go.Proofs.YtnmokkkbghlpbaaGreat
open Go.RowKit

/-- How two texts stand: -1, 0, 1. -/
def cmpB (a b : List UInt8) : Int := Lib.compareBytes a b
theorem cmpB_range (a b : List UInt8) : -1 ≤ cmpB a b ∧ cmpB a b ≤ 1 := by
  unfold cmpB
  induction a generalizing b with
  | nil => cases b <;> simp [Lib.compareBytes]
  | cons x a ih =>
    cases b with
    | nil => simp [Lib.compareBytes]
    | cons y b =>
      unfold Lib.compareBytes
      split
      · simp
      · split
        · simp
        · exact ih b
theorem cmpB_self (a : List UInt8) : cmpB a a = 0 := by
  unfold cmpB
  induction a with
  | nil => rfl
  | cons x a ih =>
    unfold Lib.compareBytes
    rw [if_neg (UInt8.lt_irrefl x), if_neg (UInt8.lt_irrefl x)]
    exact ih
theorem cmpB_zero {a b : List UInt8} (h : cmpB a b = 0) : a = b := by
  unfold cmpB at h
  induction a generalizing b with
  | nil => cases b with
    | nil => rfl
    | cons y b => simp [Lib.compareBytes] at h
  | cons x a ih =>
    cases b with
    | nil => simp [Lib.compareBytes] at h
    | cons y b =>
      unfold Lib.compareBytes at h
      split at h
      · simp at h
      · split at h
        · simp at h
        · rename_i h1 h2
          have hxy : x = y := UInt8.le_antisymm (UInt8.not_lt.1 h2) (UInt8.not_lt.1 h1)
          rw [hxy, ih h]
theorem cmpB_swap (a b : List UInt8) : cmpB b a = - cmpB a b := by
  unfold cmpB
  induction a generalizing b with
  | nil => cases b <;> simp [Lib.compareBytes]
  | cons x a ih =>
    cases b with
    | nil => simp [Lib.compareBytes]
    | cons y b =>
      unfold Lib.compareBytes
      by_cases h1 : x < y
      · rw [if_pos h1, if_neg (UInt8.lt_asymm h1), if_pos h1]; rfl
      · rw [if_neg h1]
        by_cases h2 : y < x
        · simp [h1, h2]
        · simp only [h1, h2, if_false]; exact ih b
theorem cmpB_trans {a b c : List UInt8} (h1 : cmpB a b < 0) (h2 : cmpB b c < 0) : cmpB a c < 0 := by
  unfold cmpB at *
  induction a generalizing b c with
  | nil =>
    cases c with
    | nil =>
      cases b with
      | nil => simp [Lib.compareBytes] at h1
      | cons y b => simp [Lib.compareBytes] at h2
    | cons z c => simp [Lib.compareBytes]
  | cons x a ih =>
    cases b with
    | nil => simp [Lib.compareBytes] at h1
    | cons y b =>
      cases c with
      | nil => simp [Lib.compareBytes] at h2
      | cons z c =>
        unfold Lib.compareBytes at h1 h2 ⊢
        by_cases hxy : x < y
        · by_cases hyz : y < z
          · rw [if_pos (UInt8.lt_trans hxy hyz)]; decide
          · rw [if_neg hyz] at h2
            by_cases hzy : z < y
            · rw [if_pos hzy] at h2; simp at h2
            · have : y = z := UInt8.le_antisymm (UInt8.not_lt.1 hzy) (UInt8.not_lt.1 hyz)
              subst this
              rw [if_pos hxy]; decide
        · rw [if_neg hxy] at h1
          by_cases hyx : y < x
          · rw [if_pos hyx] at h1; simp at h1
          · have : x = y := UInt8.le_antisymm (UInt8.not_lt.1 hyx) (UInt8.not_lt.1 hxy)
            subst this
            rw [if_neg hyx] at h1
            by_cases hyz : x < z
            · rw [if_pos hyz]; decide
            · rw [if_neg hyz] at h2 ⊢
              by_cases hzy : z < x
              · rw [if_pos hzy] at h2; simp at h2
              · rw [if_neg hzy] at h2 ⊢
                exact ih h1 h2

/-- A node, as data. -/
structure Nd where
  leaf : Bool
  keys : List (List UInt8)
  vals : List (List UInt8)
  kids : List Int
/-- The zero node. -/
def nd0 : Nd := ⟨false, [], [], []⟩
/-- A key may be one. -/
def KeyOk (k : List UInt8) : Prop := 1 ≤ k.length ∧ k.length ≤ 24
/-- The key at place j may be one, and is above the one ahead of it. -/
def KeyAt (ks : List (List UInt8)) (j : Nat) : Prop := KeyOk (ks.getD j []) ∧ (0 < j → cmpB (ks.getD (j - 1) []) (ks.getD j []) < 0)
/-- The keys may be such. -/
def KeysOk (ks : List (List UInt8)) : Prop := ∀ j, j < ks.length → KeyAt ks j
def ValsOk (vs : List (List UInt8)) : Prop := ∀ j, j < vs.length → (vs.getD j []).length ≤ 24
def KidOk (d : Int) : Prop := 0 ≤ d ∧ d < 1600
def KidsOk (ds : List Int) : Prop := ∀ j, j < ds.length → KidOk (ds.getD j 0)
/-- A node is sound. -/
structure Nd.Snd (n : Nd) : Prop where
  keys : KeysOk n.keys
  vals : ValsOk n.vals
  kids : KidsOk n.kids
  ofLeaf : n.leaf = true → n.kids.length = 0 ∧ n.vals.length = n.keys.length
  ofNot : n.leaf = false → n.vals.length = 0 ∧ 0 < n.keys.length ∧ n.kids.length = n.keys.length + 1
/-- Keys rise, however far apart. -/
theorem KeysOk.rise {ks : List (List UInt8)} (h : KeysOk ks) {i j : Nat} (hij : i < j) (hj : j < ks.length) : cmpB (ks.getD i []) (ks.getD j []) < 0 := by
  induction j with
  | zero => omega
  | succ j ih =>
    have h1 := (h (j + 1) hj).2 (by omega)
    rw [Nat.add_sub_cancel] at h1
    by_cases e : i = j
    · subst e; exact h1
    · exact cmpB_trans (ih (by omega) (by omega)) h1
theorem KeyOk.len {k : List UInt8} (h : KeyOk k) : 1 ≤ k.length ∧ k.length ≤ 24 := h
theorem take_more {α : Type} (l : List α) (d : α) {k : Nat} (h : k < l.length) : l.take k ++ [l.getD k d] = l.take (k + 1) := by
  rw [List.take_succ_eq_append_getElem h]
  simp [List.getD, h]
end Go.Proofs.YtnmokkkbghlpbaaGreat
/-
  The small functions of package node, by contracts: bytes.Compare, keyMayBe, valMayBe, keysMayBe, valsMayBe, kidsMayBe.
-/
namespace Go.Proofs.YtnmokkkbghlpbaaGreat
open Go.RowKit
section
variable {P : Program}
theorem run_loadX (w : World) : ∀ (l : List UInt8) (a : Addr) (acc : ByteArray), (∀ j x, l[j]? = some x → w.cell? (a.add j) = some (.int .u8 (x.toNat : Int))) →
    (Extern.Bytes.loadBytes a l.length acc).run P w = .ok ⟨acc.data ++ l.toArray⟩ w
  | [], a, acc, _ => by simp [Extern.Bytes.loadBytes]
  | x :: l, a, acc, h => by
    have h0 : w.cell? a = some (.int .u8 (x.toNat : Int)) := by
      have := h 0 x rfl
      simpa [Addr.add] using this
    have ih := run_loadX w l (a.add 1) (acc.push x) (fun j y hy => by
      have := h (j + 1) y (by simpa using hy)
      have e : (a.add 1).add j = a.add (j + 1) := by
        unfold Addr.add
        by_cases hj : j = 0
        · subst hj; simp
        · simp [hj]; omega
      rw [e]; exact this)
    have hx : ((x.toNat : Int).toNat).toUInt8 = x := by simp
    simp only [List.length_cons, Extern.Bytes.loadBytes, Sem.run_bind, run_load, h0, Result.andThen, hx]
    rw [ih]
    congr 1
    apply ByteArray.ext
    simp [ByteArray.push]
theorem run_bytesOf {w : World} {B : Nat} {v : Value} {l : List UInt8} (h : Rd w B v (cellsB l)) : (Extern.Bytes.bytesOf v).run P w = .ok ⟨l.toArray⟩ w := by
  obtain ⟨A, c, rfl, g1, g2, g3, g4⟩ := h
  rw [cellsB_length] at *
  rcases A with _ | ad
  · have hc := g3 rfl
    have hn : l = [] := List.eq_nil_of_length_eq_zero (by omega)
    subst hn
    rfl
  · unfold Extern.Bytes.bytesOf
    dsimp only
    rw [run_loadX w l ad .empty (fun j x hx => by
      have hj := (List.getElem?_eq_some_iff.1 hx).1
      obtain ⟨b, o, he, _, hc⟩ := g4 (by omega)
      injection he with he
      subst he
      rw [Addr.add_lit]
      exact hc j _ (by simp [cellsB, hx]))]
    simp
theorem run_compareRd {w : World} {B C : Nat} {a b : Value} {l m : List UInt8} (h1 : Rd w B a (cellsB l)) (h2 : Rd w C b (cellsB m)) :
    (Extern.BytealgCompare.compare #[a, b]).run P w = .ok (.int .i64 (cmpB l m)) w := by
  change Sem.run P (do pure (goInt (Extern.BytealgCompare.cmp (← Extern.Bytes.bytesOf a) (← Extern.Bytes.bytesOf b)))) w = _
  simp only [Sem.run_bind, Sem.run_pure, run_bytesOf h1, run_bytesOf h2, Result.andThen]
  rw [Lib.cmp_eq]
  rfl
end
set_option maxRecDepth 100000 in
theorem bcmp_any {a b : Value} {l m : List UInt8} {w : World} {B C : Nat} (h1 : Rd w B a (cellsB l)) (h2 : Rd w C b (cellsB m)) :
    Calls Tryz.prog 88 #[a, b] w fun e w' => e = .returned (.int .i64 (cmpB l m)) ∧ w = w' := by
  go_enter Tryz.func88, Tryz.ntmps88
  go_wp2
  rw [run_callFunc_extern Tryz.func120 (by kernel_rfl) (by kernel_rfl) (by kernel_rfl) (e := Extern.BytealgCompare.compare) (by kernel_rfl), run_compareRd h1 h2]
  simp only [Result.andThen]
  rw [Oper.upon_value]
  go_wp2
  go_ret
  exact ⟨rfl, rfl⟩
set_option maxRecDepth 100000 in
theorem keymay_any (A : Option Addr) (n c : Nat) (w : World) : Calls Tryz.prog 80 #[.slice A n c] w fun e w' => e = .returned (.bool (decide (1 ≤ n ∧ n ≤ 24))) ∧ w = w' := by
  by_cases h1 : 1 ≤ n
  · by_cases h2 : n ≤ 24
    · go_enter Tryz.func80, Tryz.ntmps80
      go_wp2
      go_ret
      exact ⟨by simp [h1, h2]; omega, rfl⟩
    · go_enter Tryz.func80, Tryz.ntmps80
      go_wp2
      go_ret
      exact ⟨by simp [h2]; omega, rfl⟩
  · go_enter Tryz.func80, Tryz.ntmps80
    go_wp2
    go_ret
    exact ⟨by simp, rfl⟩
set_option maxRecDepth 100000 in
theorem valmay_any (A : Option Addr) (n c : Nat) (w : World) : Calls Tryz.prog 81 #[.slice A n c] w fun e w' => e = .returned (.bool (decide (n ≤ 24))) ∧ w = w' := by
  by_cases h2 : n ≤ 24
  · go_enter Tryz.func81, Tryz.ntmps81
    go_wp2
    go_ret
    exact ⟨by simp; omega, rfl⟩
  · go_enter Tryz.func81, Tryz.ntmps81
    go_wp2
    go_ret
    exact ⟨by simp; omega, rfl⟩

/-- Where texts that are not none lie. -/
theorem RdAll.addr {w : World} {B : Nat} {A : Option Addr} {n c : Nat} {ls : List (List UInt8)} (h : RdAll w B (.slice A n c) ls) (hn : 0 < n) : ∃ b o, A = some ⟨b, o, none⟩ ∧ b < B := by
  obtain ⟨b, o, _, _, _, e, hb, _⟩ := h.at_ hn
  exact ⟨b, o, e, hb⟩
/-- The text at place k. -/
theorem RdAll.cell {w : World} {B b o : Nat} {n c : Nat} {ls : List (List UInt8)} (h : RdAll w B (.slice (some ⟨b, o, none⟩) n c) ls) {k : Nat} (hk : k < n) :
    ∃ A' m c', w.cell? ⟨b, o + k, none⟩ = some (.slice A' m c') ∧ Rd w B (.slice A' m c') (cellsB (ls.getD k [])) ∧ m = (ls.getD k []).length ∧ m ≤ c' ∧ c' ≤ 9223372036854775807 := by
  obtain ⟨b', o', A', c', hl, e, hb, hc, hr⟩ := h.at_ hk
  injection e with e
  injection e with e1 e2
  subst e1 e2
  have e : ls.getD k [] = ls[k] := by simp [List.getD, hl]
  obtain ⟨_, c2, e2, h1, h2, _⟩ := hr.bytes
  injection e2 with _ _ e2
  subst e2
  rw [e]
  exact ⟨A', _, c', hc, hr, rfl, h1, h2⟩
noncomputable def keysB (ks : List (List UInt8)) : Bool := @decide (KeysOk ks) (Classical.propDecidable _)
noncomputable def valsB (ks : List (List UInt8)) : Bool := @decide (ValsOk ks) (Classical.propDecidable _)
noncomputable def kidsB (ks : List Int) : Bool := @decide (KidsOk ks) (Classical.propDecidable _)
theorem keysB_iff {ks : List (List UInt8)} : keysB ks = true ↔ KeysOk ks := by simp [keysB]
theorem valsB_iff {ks : List (List UInt8)} : valsB ks = true ↔ ValsOk ks := by simp [valsB]
theorem kidsB_iff {ks : List Int} : kidsB ks = true ↔ KidsOk ks := by simp [kidsB]
theorem keysB_yes {ks : List (List UInt8)} (h : KeysOk ks) : true = keysB ks := (keysB_iff.2 h).symm
theorem keysB_no {ks : List (List UInt8)} {k : Nat} (hk : k < ks.length) (h : ¬ KeyAt ks k) : false = keysB ks := by simpa [keysB] using fun g : KeysOk ks => h (g k hk)
theorem valsB_yes {ks : List (List UInt8)} (h : ValsOk ks) : true = valsB ks := (valsB_iff.2 h).symm
theorem valsB_no {ks : List (List UInt8)} {k : Nat} (hk : k < ks.length) (h : ¬ (ks.getD k []).length ≤ 24) : false = valsB ks := by simpa [valsB] using fun g : ValsOk ks => h (g k hk)
theorem kidsB_yes {ks : List Int} (h : KidsOk ks) : true = kidsB ks := (kidsB_iff.2 h).symm
theorem kidsB_no {ks : List Int} {k : Nat} (hk : k < ks.length) (h : ¬ KidOk (ks.getD k 0)) : false = kidsB ks := by simpa [kidsB] using fun g : KidsOk ks => h (g k hk)

set_option maxRecDepth 100000 in
set_option maxHeartbeats 400000 in
theorem vals_any (A : Option Addr) (n c : Nat) (ks : List (List UInt8)) (w : World) (B : Nat) (hr : RdAll w B (.slice A n c) ks) (hn : n ≤ 1000000) :
    Calls Tryz.prog 94 #[.slice A n c] w fun e w' => e = .returned (.bool (valsB ks)) ∧ w = w' := by
  obtain ⟨hl, hnc, hcm⟩ := hr.len
  have Hl := Lib.hid hl
  clear hl
  go_enter Tryz.func94, Tryz.ntmps94
  go_wp2_with fail
  go_loop [7] (fun iv => ∃ k : Nat, k ≤ n ∧ iv = .int .i64 k ∧ Hid (∀ j, j < k → (ks.getD j []).length ≤ 24)) (fun i => n - (intOf i).toNat)
  case atStart => exact ⟨0, Nat.zero_le _, rfl, Lib.hid (fun j h => by omega)⟩
  case round =>
    obtain ⟨k, hk, rfl, HI⟩ := hrel
    by_cases hlt : k < n
    · obtain ⟨b, o, rfl, hb⟩ := hr.addr (by omega)
      obtain ⟨A', m, c', hc, hp, hm, hmc, hmx⟩ := hr.cell hlt
      have Hm := Lib.hid hm
      clear hm
      have hv := fun W => valmay_any A' m c' W
      by_cases h : m ≤ 24
      · rw [decide_eq_true h] at hv
        go_wp2_with (go_at_call 81; refine (hv _).mono ?_; rintro e w' ⟨rfl, rfl⟩)
        go_round
        case rel => exact ⟨k + 1, by omega, by go_num, Lib.hid (fun j hj => by
          by_cases e : j = k
          · subst e; rw [← Hm.out]; exact h
          · exact HI.out j (by omega))⟩
        case measure => simp [intOf]; omega
      · rw [decide_eq_false h] at hv
        go_wp2_with (go_at_call 81; refine (hv _).mono ?_; rintro e w' ⟨rfl, rfl⟩)
        go_ret
        rw [Hm.out] at h
        exact ⟨by rw [← valsB_no (by rw [← Hl.out]; exact hlt) h]; rfl, rfl⟩
    · have : k = n := by omega
      subst this
      go_wp2_with fail
      go_ret
      exact ⟨by rw [← valsB_yes (fun j hj => HI.out j (by rw [Hl.out]; exact hj))]; rfl, rfl⟩
end Go.Proofs.YtnmokkkbghlpbaaGreat
/-
  keysMayBe, kidsMayBe of package node, by contracts.
-/
namespace Go.Proofs.YtnmokkkbghlpbaaGreat
open Go.RowKit
/-- The cells of whole numbers. -/
def cellsI (l : List Int) : List Value := l.map fun i => Value.int .i64 i
theorem cellsI_length (l : List Int) : (cellsI l).length = l.length := by simp [cellsI]
theorem cellsI_append (l m : List Int) : cellsI (l ++ m) = cellsI l ++ cellsI m := by simp [cellsI]
theorem cellsI_one (l : List Int) : ∀ u ∈ cellsI l, u.oneCell' = true := by
  intro u hu
  obtain ⟨_, _, rfl⟩ := List.mem_map.1 hu
  rfl
theorem cellsI_at (l : List Int) (k : Nat) (h : k < l.length) : (cellsI l)[k]? = some (.int .i64 (l.getD k 0)) := by simp [cellsI, List.getD, h]
/-- Where numbers that are not none lie. -/
theorem Rd.addrI {w : World} {B : Nat} {A : Option Addr} {n c : Nat} {l : List Int} (h : Rd w B (.slice A n c) (cellsI l)) (hn : 0 < n) : ∃ b o, A = some ⟨b, o, none⟩ ∧ b < B := by
  obtain ⟨A', c', e, _, _, _, h4⟩ := h
  injection e with e1 e2 e3
  subst e1 e2
  obtain ⟨b, o, e, hb, _⟩ := h4 hn
  exact ⟨b, o, e, hb⟩
theorem Rd.lenI {w : World} {B : Nat} {A : Option Addr} {n c : Nat} {l : List Int} (h : Rd w B (.slice A n c) (cellsI l)) : n = l.length ∧ n ≤ c ∧ c ≤ 9223372036854775807 := by
  obtain ⟨A', c', e, h1, h2, _⟩ := h
  injection e with e1 e2 e3
  subst e1 e2 e3
  rw [cellsI_length] at *
  unfold maxLen at h2
  omega
theorem Rd.cellI {w : World} {B b o : Nat} {n c : Nat} {l : List Int} (h : Rd w B (.slice (some ⟨b, o, none⟩) n c) (cellsI l)) {k : Nat} (hk : k < n) : w.cell? ⟨b, o + k, none⟩ = some (.int .i64 (l.getD k 0)) := by
  have hl := h.lenI.1
  obtain ⟨A', c', e, _, _, _, h4⟩ := h
  injection e with e1 e2 e3
  subst e1
  obtain ⟨b', o', e, _, hc⟩ := h4 (by rw [← e2]; omega)
  injection e with e
  injection e with e1 e2
  subst e1 e2
  exact hc k _ (cellsI_at l k (by omega))

set_option maxRecDepth 100000 in
set_option maxHeartbeats 400000 in
theorem kids_any (A : Option Addr) (n c : Nat) (ks : List Int) (w : World) (B : Nat) (hr : Rd w B (.slice A n c) (cellsI ks)) (hn : n ≤ 1000000) :
    Calls Tryz.prog 95 #[.slice A n c] w fun e w' => e = .returned (.bool (kidsB ks)) ∧ w = w' := by
  obtain ⟨hl, hnc, hcm⟩ := hr.lenI
  have Hl := Lib.hid hl
  clear hl
  go_enter Tryz.func95, Tryz.ntmps95
  go_wp2_with fail
  go_loop [7] (fun iv => ∃ k : Nat, k ≤ n ∧ iv = .int .i64 k ∧ Hid (∀ j, j < k → KidOk (ks.getD j 0))) (fun i => n - (intOf i).toNat)
  case atStart => exact ⟨0, Nat.zero_le _, rfl, Lib.hid (fun j h => by omega)⟩
  case round =>
    obtain ⟨k, hk, rfl, HI⟩ := hrel
    by_cases hlt : k < n
    · obtain ⟨b, o, rfl, hb⟩ := hr.addrI (by omega)
      have hc := hr.cellI hlt
      obtain ⟨d, hd⟩ : ∃ d, d = ks.getD k 0 := ⟨_, rfl⟩
      rw [← hd] at hc
      have Hd := Lib.hid hd
      clear hd
      by_cases h0 : d < 0
      · go_wp2_with fail
        go_ret
        exact ⟨by rw [← kidsB_no (k := k) (by rw [← Hl.out]; exact hlt) (by rw [← Hd.out]; intro h; have := h.1; omega)]; rfl, rfl⟩
      · by_cases h1 : d < 1600
        · go_wp2_with fail
          go_round
          case rel => exact ⟨k + 1, by omega, by go_num, Lib.hid (fun j hj => by
            by_cases e : j = k
            · subst e; rw [← Hd.out]; exact ⟨by omega, h1⟩
            · exact HI.out j (by omega))⟩
          case measure => simp [intOf]; omega
        · have h2 : 1600 ≤ d := by omega
          go_wp2_with fail
          go_ret
          exact ⟨by rw [← kidsB_no (k := k) (by rw [← Hl.out]; exact hlt) (by rw [← Hd.out]; intro h; have := h.2; omega)]; rfl, rfl⟩
    · have : k = n := by omega
      subst this
      go_wp2_with fail
      go_ret
      exact ⟨by rw [← kidsB_yes (fun j hj => HI.out j (by rw [Hl.out]; exact hj))]; rfl, rfl⟩

set_option maxRecDepth 100000 in
set_option maxHeartbeats 400000 in
theorem keys_any (A : Option Addr) (n c : Nat) (ks : List (List UInt8)) (w : World) (B : Nat) (hr : RdAll w B (.slice A n c) ks) (hn : n ≤ 1000000) :
    Calls Tryz.prog 93 #[.slice A n c] w fun e w' => e = .returned (.bool (keysB ks)) ∧ w = w' := by
  obtain ⟨hl, hnc, hcm⟩ := hr.len
  have Hl := Lib.hid hl
  clear hl
  go_enter Tryz.func93, Tryz.ntmps93
  go_wp2_with fail
  go_loop [7] (fun iv => ∃ k : Nat, k ≤ n ∧ iv = .int .i64 k ∧ Hid (∀ j, j < k → KeyAt ks j)) (fun i => n - (intOf i).toNat)
  case atStart => exact ⟨0, Nat.zero_le _, rfl, Lib.hid (fun j h => by omega)⟩
  case round =>
    obtain ⟨k, hk, rfl, HI⟩ := hrel
    by_cases hlt : k < n
    · obtain ⟨b, o, rfl, hb⟩ := hr.addr (by omega)
      obtain ⟨A', m, c', hc, hp, hm, hmc, hmx⟩ := hr.cell hlt
      have Hm := Lib.hid hm
      clear hm
      have hv := fun W => keymay_any A' m c' W
      by_cases h : 1 ≤ m ∧ m ≤ 24
      · rw [decide_eq_true h] at hv
        have Hk := Lib.hid h
        clear h
        by_cases hk0 : 0 < k
        · obtain ⟨j, rfl⟩ : ∃ j, k = j + 1 := ⟨k - 1, by omega⟩
          obtain ⟨A2, m2, c2, hc2, hp2, hm2, hmc2, hmx2⟩ := hr.cell (k := j) (by omega)
          have hcmp := fun W (h1 : Rd W B (.slice A2 m2 c2) (cellsB (ks.getD j []))) (h2 : Rd W B (.slice A' m c') (cellsB (ks.getD (j + 1) []))) => bcmp_any h1 h2
          obtain ⟨x, hx⟩ : ∃ x, x = cmpB (ks.getD j []) (ks.getD (j + 1) []) := ⟨_, rfl⟩
          rw [← hx] at hcmp
          have hx1 := cmpB_range (ks.getD j []) (ks.getD (j + 1) [])
          rw [← hx] at hx1
          obtain ⟨hx1, hx2⟩ := hx1
          have Hx := Lib.hid hx
          clear hx hm2
          have HC := Lib.hid (hcmp w hp2 hp)
          clear hcmp
          by_cases hneg : x < 0
          · go_wp2_with (first | (go_at_call 80; refine (hv _).mono ?_; rintro e w' ⟨rfl, rfl⟩) | (go_at_call 88; refine HC.out.mono ?_; rintro e w' ⟨rfl, rfl⟩))
            go_round
            case rel => exact ⟨j + 2, by omega, by go_num, Lib.hid (fun i hi => by
              by_cases e : i = j + 1
              · subst e; refine ⟨by unfold KeyOk; rw [← Hm.out]; exact Hk.out, fun _ => ?_⟩
                rw [Nat.add_sub_cancel, ← Hx.out]; exact hneg
              · exact HI.out i (by omega))⟩
            case measure => simp [intOf]; omega
          · have hpos : 0 ≤ x := by omega
            go_wp2_with (first | (go_at_call 80; refine (hv _).mono ?_; rintro e w' ⟨rfl, rfl⟩) | (go_at_call 88; refine HC.out.mono ?_; rintro e w' ⟨rfl, rfl⟩))
            go_ret
            exact ⟨by rw [← keysB_no (k := j + 1) (by rw [← Hl.out]; exact hlt) (fun g => by have := g.2 (by omega); rw [Nat.add_sub_cancel, ← Hx.out] at this; omega)]; rfl, rfl⟩
        · go_wp2_with (go_at_call 80; refine (hv _).mono ?_; rintro e w' ⟨rfl, rfl⟩)
          go_round
          case rel => exact ⟨k + 1, by omega, by go_num, Lib.hid (fun i hi => by
              obtain rfl : k = 0 := by omega
              obtain rfl : i = 0 := by omega
              exact ⟨by unfold KeyOk; rw [← Hm.out]; exact Hk.out, fun h => by omega⟩)⟩
          case measure => simp [intOf]; omega
      · rw [decide_eq_false h] at hv
        have Hk := Lib.hid h
        clear h
        go_wp2_with (go_at_call 80; refine (hv _).mono ?_; rintro e w' ⟨rfl, rfl⟩)
        go_ret
        have h := Hk.out
        rw [Hm.out] at h
        exact ⟨by rw [← keysB_no (k := k) (by rw [← Hl.out]; exact hlt) (fun g => h g.1)]; rfl, rfl⟩
    · have : k = n := by omega
      subst this
      go_wp2_with fail
      go_ret
      exact ⟨by rw [← keysB_yes (fun j hj => HI.out j (by rw [Hl.out]; exact hj))]; rfl, rfl⟩
end Go.Proofs.YtnmokkkbghlpbaaGreat
/-
  A node in memory; Sound of package node, by contract.
-/
namespace Go.Proofs.YtnmokkkbghlpbaaGreat
open Go.RowKit
/-- The lists of a node, in memory below B. -/
structure NdIs (w : World) (B : Nat) (K V D : Value) (n : Nd) : Prop where
  keys : RdAll w B K n.keys
  vals : RdAll w B V n.vals
  kids : Rd w B D (cellsI n.kids)
/-- The value of a node. -/
abbrev ndVal (lf : Bool) (K V D : Value) : Value := .agg #[.bool lf, K, V, D]
section
variable {w w' : World} {B B' : Nat} {K V D : Value} {n : Nd}
theorem RdAll.more {v : Value} {ls : List (List UInt8)} (h : RdAll w B v ls) (hB : B ≤ B') : RdAll w B' v ls := by
  obtain ⟨vs, h1, h2, h3⟩ := h
  exact ⟨vs, h1.more hB, h2, fun k u l a b => (h3 k u l a b).more hB⟩
theorem RdAll.alloc {v : Value} {ls : List (List UInt8)} (h : RdAll w B v ls) (hB : B ≤ w.heap.size) (o : Obj) : RdAll (w.alloc o) B v ls := h.keep fun p hp => World.cell?_alloc_lt w o p (by omega)
theorem NdIs.below (h : NdIs w B K V D n) (hb : Below B w w') : NdIs w' B K V D n := ⟨h.keys.below hb, h.vals.below hb, h.kids.below hb⟩
theorem NdIs.more (h : NdIs w B K V D n) (hB : B ≤ B') : NdIs w B' K V D n := ⟨h.keys.more hB, h.vals.more hB, h.kids.more hB⟩
theorem NdIs.alloc (h : NdIs w B K V D n) (hB : B ≤ w.heap.size) (o : Obj) : NdIs (w.alloc o) B K V D n := ⟨h.keys.alloc hB o, h.vals.alloc hB o, h.kids.alloc hB o⟩
theorem NdIs.drew (h : NdIs w B K V D n) : NdIs w.drew B K V D n := ⟨h.keys, h.vals, h.kids⟩
/-- A node's lists are slices. -/
theorem NdIs.form (h : NdIs w B K V D n) : ∃ (A1 : Option Addr) (c1 : Nat) (A2 : Option Addr) (c2 : Nat) (A3 : Option Addr) (c3 : Nat),
    K = .slice A1 n.keys.length c1 ∧ V = .slice A2 n.vals.length c2 ∧ D = .slice A3 n.kids.length c3 := by
  obtain ⟨A1, c1, e1, _⟩ := h.keys.form
  obtain ⟨A2, c2, e2, _⟩ := h.vals.form
  obtain ⟨A3, c3, e3, _⟩ := h.kids
  rw [cellsI_length] at e3
  exact ⟨A1, c1, A2, c2, A3, c3, e1, e2, e3⟩
end
noncomputable def sndB (n : Nd) : Bool := @decide n.Snd (Classical.propDecidable _)
theorem sndB_iff {n : Nd} : sndB n = true ↔ n.Snd := by simp [sndB]
theorem sndB_not {n : Nd} (h : ¬ n.Snd) : sndB n = false := by simpa [sndB] using h
theorem snd_keys {n : Nd} (h : keysB n.keys = false) : sndB n = false := sndB_not fun g => by rw [keysB_iff.2 g.keys] at h; cases h
theorem snd_leaf {n : Nd} (hl : n.leaf = true) (hk : keysB n.keys = true) (h0 : n.kids.length = 0) (h1 : n.vals.length = n.keys.length) : sndB n = valsB n.vals := by
  rw [Bool.eq_iff_iff, sndB_iff, valsB_iff]
  exact ⟨fun g => g.vals, fun g => ⟨keysB_iff.1 hk, g, fun j hj => by omega, fun _ => ⟨h0, h1⟩, fun h => by rw [hl] at h; cases h⟩⟩
theorem snd_not {n : Nd} (hl : n.leaf = false) (hk : keysB n.keys = true) (h0 : n.vals.length = 0) (h1 : 0 < n.keys.length) (h2 : n.kids.length = n.keys.length + 1) : sndB n = kidsB n.kids := by
  rw [Bool.eq_iff_iff, sndB_iff, kidsB_iff]
  exact ⟨fun g => g.kids, fun g => ⟨keysB_iff.1 hk, fun j hj => by omega, g, fun h => (by rw [hl] at h; cases h), fun _ => ⟨h0, h1, h2⟩⟩⟩
/-- That a node's lists are short: for the walk's bounds alone. -/
def Nd.Short (n : Nd) (m : Nat) : Prop := n.keys.length ≤ m ∧ n.vals.length ≤ m ∧ n.kids.length ≤ m

set_option maxRecDepth 100000 in
set_option maxHeartbeats 1000000 in
theorem sound_any {n : Nd} {K V D : Value} {w : World} {B : Nat} (hr : NdIs w B K V D n) (hB : B ≤ w.heap.size) (hs : n.Short 1000000) :
    Calls Tryz.prog 76 #[ndVal n.leaf K V D] w fun e w' => e = .returned (.bool (sndB n)) ∧ Below w.heap.size w w' := by
  obtain ⟨A1, c1, A2, c2, A3, c3, rfl, rfl, rfl⟩ := hr.form
  have hk := fun o => keys_any A1 n.keys.length c1 n.keys (w.alloc o) B (hr.keys.alloc hB o) hs.1
  have hv := fun o => vals_any A2 n.vals.length c2 n.vals (w.alloc o) B (hr.vals.alloc hB o) hs.2.1
  have hd := fun o => kids_any A3 n.kids.length c3 n.kids (w.alloc o) B (hr.kids.alloc hB o) hs.2.2
  obtain ⟨hs1, hs2, hs3⟩ := hs
  obtain ⟨lf, hlf⟩ : ∃ lf, lf = n.leaf := ⟨_, rfl⟩
  obtain ⟨a, ha⟩ : ∃ a, a = n.keys.length := ⟨_, rfl⟩
  obtain ⟨b, hb⟩ : ∃ b, b = n.vals.length := ⟨_, rfl⟩
  obtain ⟨d, hdd⟩ : ∃ d, d = n.kids.length := ⟨_, rfl⟩
  rw [← ha] at hs1 hk ⊢
  rw [← hb] at hs2 hv ⊢
  rw [← hdd] at hs3 hd ⊢
  rw [← hlf]
  have Ha := Lib.hid ha
  have Hb := Lib.hid hb
  have Hd := Lib.hid hdd
  have Hlf := Lib.hid hlf
  have HV := Lib.hid hv
  have HD := Lib.hid hd
  clear ha hb hdd hlf hr hv hd
  cases hkb : keysB n.keys
  · rw [hkb] at hk
    have HK := Lib.hid hk
    have Hkb := Lib.hid hkb
    clear hk hkb
    go_enter Tryz.func76, Tryz.ntmps76
    go_wp2_with (go_at_call 93; refine (HK.out _).mono ?_; rintro e w' ⟨rfl, rfl⟩)
    go_ret
    exact ⟨by rw [snd_keys Hkb.out]; rfl, (Below.refl _ _).alloc (Nat.le_refl _) _⟩
  · rw [hkb] at hk
    have HK := Lib.hid hk
    have Hkb := Lib.hid hkb
    clear hk hkb
    cases lf
    · by_cases h1 : b = 0
      · by_cases h2 : 0 < a
        · by_cases h3 : d = a + 1
          · have h3i : ((d : Int) == (a : Int) + 1) = true := by rw [h3]; simp
            have h1i : ((b : Int) == 0) = true := by rw [h1]; rfl
            have H1 := Lib.hid h1
            have H3 := Lib.hid h3
            clear h1 h3
            go_enter Tryz.func76, Tryz.ntmps76
            go_wp2_with (first | (go_at_call 93; refine (HK.out _).mono ?_; rintro e w' ⟨rfl, rfl⟩) | (go_at_call 95; refine (HD.out _).mono ?_; rintro e w' ⟨rfl, rfl⟩))
            go_ret
            exact ⟨by rw [snd_not Hlf.out.symm Hkb.out (by rw [← Hb.out]; exact H1.out) (by rw [← Ha.out]; exact h2) (by rw [← Ha.out, ← Hd.out]; exact H3.out)]; rfl, (Below.refl _ _).alloc (Nat.le_refl _) _⟩
          · have h3i : ((d : Int) == (a : Int) + 1) = false := by rw [beq_eq_false_iff_ne]; omega
            have h1i : ((b : Int) == 0) = true := by rw [h1]; rfl
            have H3 := Lib.hid h3
            clear h1 h3
            go_enter Tryz.func76, Tryz.ntmps76
            go_wp2_with (first | (go_at_call 93; refine (HK.out _).mono ?_; rintro e w' ⟨rfl, rfl⟩))
            go_ret
            exact ⟨by rw [sndB_not fun g => H3.out (by rw [Ha.out, Hd.out]; exact (g.ofNot Hlf.out.symm).2.2)]; rfl, (Below.refl _ _).alloc (Nat.le_refl _) _⟩
        · have h1i : ((b : Int) == 0) = true := by rw [h1]; rfl
          have h2i : decide ((0 : Int) < (a : Int)) = false := by simp; omega
          have H2 := Lib.hid h2
          clear h1 h2
          go_enter Tryz.func76, Tryz.ntmps76
          go_wp2_with (first | (go_at_call 93; refine (HK.out _).mono ?_; rintro e w' ⟨rfl, rfl⟩))
          go_ret
          exact ⟨by rw [sndB_not fun g => H2.out (by rw [Ha.out]; exact (g.ofNot Hlf.out.symm).2.1)]; rfl, (Below.refl _ _).alloc (Nat.le_refl _) _⟩
      · have h1i : ((b : Int) == 0) = false := by rw [beq_eq_false_iff_ne]; omega
        have H1 := Lib.hid h1
        clear h1
        go_enter Tryz.func76, Tryz.ntmps76
        go_wp2_with (first | (go_at_call 93; refine (HK.out _).mono ?_; rintro e w' ⟨rfl, rfl⟩))
        go_ret
        exact ⟨by rw [sndB_not fun g => H1.out (by rw [Hb.out]; exact (g.ofNot Hlf.out.symm).1)]; rfl, (Below.refl _ _).alloc (Nat.le_refl _) _⟩
    · by_cases h1 : d = 0
      · by_cases h2 : b = a
        · have h1i : ((d : Int) == 0) = true := by rw [h1]; rfl
          have h2i : ((b : Int) == (a : Int)) = true := by rw [h2]; simp
          have H1 := Lib.hid h1
          have H2 := Lib.hid h2
          clear h1 h2
          go_enter Tryz.func76, Tryz.ntmps76
          go_wp2_with (first | (go_at_call 93; refine (HK.out _).mono ?_; rintro e w' ⟨rfl, rfl⟩) | (go_at_call 94; refine (HV.out _).mono ?_; rintro e w' ⟨rfl, rfl⟩))
          go_ret
          exact ⟨by rw [snd_leaf Hlf.out.symm Hkb.out (by rw [← Hd.out]; exact H1.out) (by rw [← Ha.out, ← Hb.out]; exact H2.out)]; rfl, (Below.refl _ _).alloc (Nat.le_refl _) _⟩
        · have h1i : ((d : Int) == 0) = true := by rw [h1]; rfl
          have h2i : ((b : Int) == (a : Int)) = false := by rw [beq_eq_false_iff_ne]; omega
          have H2 := Lib.hid h2
          clear h1 h2
          go_enter Tryz.func76, Tryz.ntmps76
          go_wp2_with (first | (go_at_call 93; refine (HK.out _).mono ?_; rintro e w' ⟨rfl, rfl⟩))
          go_ret
          exact ⟨by rw [sndB_not fun g => H2.out (by rw [Ha.out, Hb.out]; exact (g.ofLeaf Hlf.out.symm).2)]; rfl, (Below.refl _ _).alloc (Nat.le_refl _) _⟩
      · have h1i : ((d : Int) == 0) = false := by rw [beq_eq_false_iff_ne]; omega
        have H1 := Lib.hid h1
        clear h1
        go_enter Tryz.func76, Tryz.ntmps76
        go_wp2_with (first | (go_at_call 93; refine (HK.out _).mono ?_; rintro e w' ⟨rfl, rfl⟩))
        go_ret
        exact ⟨by rw [sndB_not fun g => H1.out (by rw [Hd.out]; exact (g.ofLeaf Hlf.out.symm).1)]; rfl, (Below.refl _ _).alloc (Nat.le_refl _) _⟩
end Go.Proofs.YtnmokkkbghlpbaaGreat
/-
  Pages, taken or not, as a function; the bytes that tell it, bit by bit; the least page that is free, how many are taken: plain mathematics.
-/
namespace Go.Proofs.YtnmokkkbghlpbaaGreat
open Go.RowKit

/-! ### A number out of bits -/
/-- The number whose bits 0 to m - 1 are f's. -/
def low (f : Nat → Bool) : Nat → Nat
  | 0 => 0
  | m + 1 => low f m + (if f m then 2 ^ m else 0)
theorem low_lt (f : Nat → Bool) : ∀ m, low f m < 2 ^ m
  | 0 => by simp [low]
  | m + 1 => by
    have := low_lt f m
    rw [low, Nat.pow_succ]
    split <;> omega
theorem low_bit (f : Nat → Bool) : ∀ m j, (low f m).testBit j = (decide (j < m) && f j)
  | 0, j => by simp [low]
  | m + 1, j => by
    have hl := low_lt f m
    have ih := low_bit f m j
    rw [low]
    by_cases hf : f m = true
    · rw [if_pos hf, Nat.add_comm]
      rcases Nat.lt_trichotomy j m with h | h | h
      · rw [Nat.testBit_two_pow_add_gt h, ih]
        simp [h, Nat.lt_succ_of_lt h]
      · subst h
        rw [Nat.testBit_two_pow_add_eq, ih]
        simp [hf]
      · rw [Nat.testBit_lt_two_pow]
        · simp; omega
        · have : 2 ^ (m + 1) ≤ 2 ^ j := Nat.pow_le_pow_right (by omega) h
          rw [Nat.pow_succ] at this
          omega
    · rw [if_neg hf, Nat.add_zero, ih]
      by_cases h : j < m
      · simp [h, Nat.lt_succ_of_lt h]
      · by_cases h2 : j = m
        · subst h2; simp [hf]
        · have : ¬ j < m + 1 := by omega
          simp [h, this]
/-- The byte that tells pages 8 k to 8 k + 7. -/
def byteN (f : Nat → Bool) (k : Nat) : Nat := low (fun j => f (8 * k + j)) 8
theorem byteN_lt (f : Nat → Bool) (k : Nat) : byteN f k < 256 := low_lt _ 8
theorem byteN_bit (f : Nat → Bool) (k : Nat) {j : Nat} (hj : j < 8) : (byteN f k).testBit j = f (8 * k + j) := by
  unfold byteN
  rw [low_bit]
  simp [hj]
theorem byteN_eq {f : Nat → Bool} {k x : Nat} (hx : x < 256) (h : ∀ j, j < 8 → x.testBit j = f (8 * k + j)) : x = byteN f k := by
  apply Nat.eq_of_testBit_eq
  intro j
  by_cases hj : j < 8
  · rw [h j hj, byteN_bit f k hj]
  · have h1 : 2 ^ 8 ≤ 2 ^ j := Nat.pow_le_pow_right (by omega) (by omega)
    rw [Nat.testBit_lt_two_pow (by omega), Nat.testBit_lt_two_pow (by have := byteN_lt f k; omega)]
theorem byteN_congr {f g : Nat → Bool} {k : Nat} (h : ∀ j, j < 8 → f (8 * k + j) = g (8 * k + j)) : byteN f k = byteN g k :=
  byteN_eq (byteN_lt f k) fun j hj => by rw [byteN_bit f k hj, h j hj]
/-- Page i, turned. -/
def put (f : Nat → Bool) (i : Nat) (v : Bool) : Nat → Bool := fun j => if j = i then v else f j
theorem put_same (f : Nat → Bool) (i : Nat) (v : Bool) : put f i v i = v := by simp [put]
theorem put_other (f : Nat → Bool) {i j : Nat} (v : Bool) (h : j ≠ i) : put f i v j = f j := by simp [put, h]
theorem byteN_other (f : Nat → Bool) {i k : Nat} (v : Bool) (h : k ≠ i / 8) : byteN (put f i v) k = byteN f k :=
  byteN_congr fun j hj => put_other f v (by omega)

/-! ### What the program does with such bytes -/
theorem pow_lt8 {j : Nat} (hj : j < 8) : 2 ^ j < 256 := Nat.pow_lt_pow_right (by omega) hj
theorem wrap_pow {j : Nat} (hj : j < 8) : IntKind.u8.wrap ((2 : Int) ^ j) = (2 : Int) ^ j := by
  have := pow_lt8 hj
  have h2 : ((2 : Int) ^ j) = ((2 ^ j : Nat) : Int) := by simp
  rw [IntKind.wrap_u8', h2]
  generalize 2 ^ j = p at this
  omega
theorem bit_of (f : Nat → Bool) (k : Nat) {j : Nat} (hj : j < 8) : bits .and .u8 ((byteN f k : Int) / 2 ^ j) 1 = if f (8 * k + j) then 1 else 0 := by
  have h2 : ((2 : Int) ^ j) = ((2 ^ j : Nat) : Int) := by simp
  have h3 : (byteN f k : Int) / ((2 ^ j : Nat) : Int) = ((byteN f k / 2 ^ j : Nat) : Int) := by simp
  have h4 : byteN f k / 2 ^ j < 256 := Nat.lt_of_le_of_lt (Nat.div_le_self _ _) (byteN_lt f k)
  have hb := byteN_bit f k hj
  rw [h2, h3, show (1 : Int) = ((1 : Nat) : Int) from rfl, u8_and_nat _ _ h4 (by omega), nat_mask1, ← hb, Nat.testBit_eq_decide_div_mod_eq]
  rcases Nat.mod_two_eq_zero_or_one (byteN f k / 2 ^ j) with h | h <;> simp [h]
theorem bit_added (f : Nat → Bool) (k : Nat) {j : Nat} (hj : j < 8) : bits .or .u8 (byteN f k : Int) ((2 : Int) ^ j) = (byteN (put f (8 * k + j) true) k : Int) := by
  rw [show ((2 : Int) ^ j) = ((2 ^ j : Nat) : Int) by simp]
  rw [u8_or_nat _ _ (byteN_lt f k) (pow_lt8 hj)]
  congr 1
  refine byteN_eq (Nat.or_lt_two_pow (n := 8) (byteN_lt f k) (pow_lt8 hj)) fun i hi => ?_
  rw [Nat.testBit_or, byteN_bit f k hi, Nat.testBit_two_pow]
  by_cases h : i = j
  · subst h; simp [put_same]
  · rw [put_other f true (by omega)]
    simp [show j ≠ i from fun e => h e.symm]
theorem nat_compl8 (x : Nat) (h : x < 256) (j : Nat) (hj : j < 8) : (255 - x).testBit j = !x.testBit j := by
  have := Nat.testBit_two_pow_sub_succ (n := 8) (x := x) h j
  rw [show 2 ^ 8 - (x + 1) = 255 - x by omega] at this
  rw [this]
  simp [hj]
theorem bit_removed (f : Nat → Bool) (k : Nat) {j : Nat} (hj : j < 8) : bits .andNot .u8 (byteN f k : Int) ((2 : Int) ^ j) = (byteN (put f (8 * k + j) false) k : Int) := by
  rw [show ((2 : Int) ^ j) = ((2 ^ j : Nat) : Int) by simp]
  rw [u8_andNot_nat _ _ (byteN_lt f k) (pow_lt8 hj)]
  congr 1
  refine byteN_eq (Nat.lt_of_le_of_lt Nat.and_le_left (byteN_lt f k)) fun i hi => ?_
  rw [Nat.testBit_and, byteN_bit f k hi, nat_compl8 _ (pow_lt8 hj) i hi, Nat.testBit_two_pow]
  by_cases h : i = j
  · subst h; simp [put_same]
  · rw [put_other f false (by omega)]
    simp [show j ≠ i from fun e => h e.symm]
/-- Taken in one or in the other. -/
def both (f g : Nat → Bool) : Nat → Bool := fun i => f i || g i
theorem bit_both (f g : Nat → Bool) (k : Nat) : bits .or .u8 (byteN f k : Int) (byteN g k : Int) = (byteN (both f g) k : Int) := by
  rw [u8_or_nat _ _ (byteN_lt f k) (byteN_lt g k)]
  congr 1
  refine byteN_eq (Nat.or_lt_two_pow (n := 8) (byteN_lt f k) (byteN_lt g k)) fun i hi => ?_
  rw [Nat.testBit_or, byteN_bit f k hi, byteN_bit g k hi]
  rfl

theorem nat_turned8 (s : Nat) (h : s < 256) : 255 ^^^ s = 255 - s := by
  have e : BitVec.allOnes 8 ^^^ BitVec.ofNat 8 s = ~~~ BitVec.ofNat 8 s := BitVec.allOnes_xor
  have e2 := congrArg BitVec.toNat e
  rw [BitVec.toNat_xor, BitVec.toNat_not, BitVec.toNat_ofNat, Nat.mod_eq_of_lt h] at e2
  simpa using e2
theorem turned8 (s : Nat) (h : s < 256) : bits .xor .u8 IntKind.u8.max (s : Int) = ((255 - s : Nat) : Int) := by
  rw [show IntKind.u8.max = ((255 : Nat) : Int) from rfl, u8_xor_nat _ _ (by omega) h, nat_turned8 s h]
/-! ### How many -/
/-- How many of the first m. -/
def cnt (f : Nat → Bool) : Nat → Nat
  | 0 => 0
  | m + 1 => cnt f m + (if f m then 1 else 0)
theorem cnt_le (f : Nat → Bool) : ∀ m, cnt f m ≤ m
  | 0 => Nat.le_refl _
  | m + 1 => by have := cnt_le f m; rw [cnt]; split <;> omega
theorem cnt_add (f : Nat → Bool) (a : Nat) : ∀ m, cnt f (a + m) = cnt f a + cnt (fun j => f (a + j)) m
  | 0 => by simp [cnt]
  | m + 1 => by rw [← Nat.add_assoc, cnt, cnt, cnt_add f a m]; omega
theorem cnt_none {f : Nat → Bool} : ∀ {m}, (∀ i, i < m → f i = false) → cnt f m = 0
  | 0, _ => rfl
  | m + 1, h => by rw [cnt, cnt_none fun i hi => h i (by omega), h m (by omega)]; rfl
theorem cnt_to {f : Nat → Bool} {n : Nat} (h : ∀ i, n ≤ i → f i = false) {m : Nat} (hm : n ≤ m) : cnt f m = cnt f n := by
  obtain ⟨d, rfl⟩ : ∃ d, m = n + d := ⟨m - n, by omega⟩
  rw [cnt_add, cnt_none (m := d) fun i _ => h _ (by omega)]
  rfl
theorem pop_bits : ∀ n : Fin 256, Lib.onesCount n.val = cnt (fun j => n.val.testBit j) 8 := by decide +kernel
theorem cnt_congr {f g : Nat → Bool} : ∀ {m}, (∀ i, i < m → f i = g i) → cnt f m = cnt g m
  | 0, _ => rfl
  | m + 1, h => by rw [cnt, cnt, cnt_congr fun i hi => h i (by omega), h m (by omega)]
theorem pop_byte (f : Nat → Bool) (k : Nat) : cnt f (8 * (k + 1)) = cnt f (8 * k) + Lib.onesCount (byteN f k) := by
  rw [pop_bits ⟨byteN f k, byteN_lt f k⟩, Nat.mul_succ, cnt_add]
  congr 1
  exact cnt_congr fun j hj => (byteN_bit f k hj).symm
/-- How many of the first m are not. -/
def free (f : Nat → Bool) : Nat → Nat
  | 0 => 0
  | m + 1 => free f m + (if f m then 0 else 1)
theorem free_cnt (f : Nat → Bool) : ∀ m, free f m + cnt f m = m
  | 0 => rfl
  | m + 1 => by have := free_cnt f m; rw [free, cnt]; split <;> omega

/-! ### The least that is not; the greatest that is -/
theorem ntz_bits : ∀ n : Fin 256, n.val ≠ 255 → Lib.trailingZeros8 (255 - n.val) < 8 ∧ n.val.testBit (Lib.trailingZeros8 (255 - n.val)) = false ∧ ∀ i : Fin 8, i.val < Lib.trailingZeros8 (255 - n.val) → n.val.testBit i.val = true := by decide +kernel
theorem all_bits : ∀ i : Fin 8, Nat.testBit 255 i.val = true := by decide +kernel
theorem len_bits : ∀ n : Fin 256, n.val ≠ 0 → 1 ≤ Lib.bitLen n.val ∧ Lib.bitLen n.val ≤ 8 ∧ n.val.testBit (Lib.bitLen n.val - 1) = true ∧ ∀ i : Fin 8, Lib.bitLen n.val ≤ i.val → n.val.testBit i.val = false := by decide +kernel
/-- k is the least number at which f is not. -/
structure LeastNot (f : Nat → Bool) (k : Nat) : Prop where
  ahead : ∀ i, i < k → f i = true
  at_ : f k = false
theorem LeastNot.uniq {f : Nat → Bool} {k m : Nat} (h : LeastNot f k) (g : LeastNot f m) : k = m := by
  rcases Nat.lt_trichotomy k m with e | e | e
  · have := g.ahead k e; rw [h.at_] at this; cases this
  · exact e
  · have := h.ahead m e; rw [g.at_] at this; cases this
theorem least_byte {f : Nat → Bool} {k : Nat} (ha : ∀ i, i < 8 * k → f i = true) (hk : byteN f k ≠ 255) : Lib.trailingZeros8 (255 - byteN f k) < 8 ∧ LeastNot f (8 * k + Lib.trailingZeros8 (255 - byteN f k)) := by
  obtain ⟨h1, h2, h3⟩ := ntz_bits ⟨byteN f k, byteN_lt f k⟩ hk
  simp only at h1 h2 h3
  refine ⟨h1, fun i hi => ?_, ?_⟩
  · by_cases h : i < 8 * k
    · exact ha i h
    · obtain ⟨d, rfl⟩ : ∃ d, i = 8 * k + d := ⟨i - 8 * k, by omega⟩
      have := h3 ⟨d, by omega⟩ (by simp; omega)
      rw [← byteN_bit f k (by omega)]
      exact this
  · rw [← byteN_bit f k h1]; exact h2
theorem full_byte {f : Nat → Bool} {k : Nat} (hk : byteN f k = 255) : ∀ i, i < 8 → f (8 * k + i) = true := fun i hi => by
  rw [← byteN_bit f k hi, hk]; exact all_bits ⟨i, hi⟩
theorem full_more {f : Nat → Bool} {k : Nat} (ha : ∀ i, i < 8 * k → f i = true) (hk : byteN f k = 255) : ∀ i, i < 8 * (k + 1) → f i = true := fun i hi => by
  by_cases h : i < 8 * k
  · exact ha i h
  · obtain ⟨d, rfl⟩ : ∃ d, i = 8 * k + d := ⟨i - 8 * k, by omega⟩
    exact full_byte hk d (by omega)
theorem empty_byte {f : Nat → Bool} {k : Nat} (hk : byteN f k = 0) : ∀ i, i < 8 → f (8 * k + i) = false := fun i hi => by
  rw [← byteN_bit f k hi, hk]; simp
/-- m is behind the greatest number at which f is (0: there is none). -/
structure ReachTo (f : Nat → Bool) (m : Nat) : Prop where
  behind : ∀ i, m ≤ i → f i = false
  at_ : m ≠ 0 → f (m - 1) = true
theorem reach_byte {f : Nat → Bool} {k : Nat} (ha : ∀ i, 8 * (k + 1) ≤ i → f i = false) (hk : byteN f k ≠ 0) : Lib.bitLen (byteN f k) ≤ 8 ∧ ReachTo f (8 * k + Lib.bitLen (byteN f k)) := by
  obtain ⟨h1, h2, h3, h4⟩ := len_bits ⟨byteN f k, byteN_lt f k⟩ hk
  simp only at h1 h2 h3 h4
  refine ⟨h2, fun i hi => ?_, fun _ => ?_⟩
  · by_cases h : 8 * (k + 1) ≤ i
    · exact ha i h
    · obtain ⟨d, rfl⟩ : ∃ d, i = 8 * k + d := ⟨i - 8 * k, by omega⟩
      rw [← byteN_bit f k (by omega)]
      exact h4 ⟨d, by omega⟩ (by simp; omega)
  · rw [show 8 * k + Lib.bitLen (byteN f k) - 1 = 8 * k + (Lib.bitLen (byteN f k) - 1) by omega, ← byteN_bit f k (by omega)]
    exact h3

/-! ### Bytes in a row -/
/-- The bytes that tell the first 8 m pages. -/
def setB (f : Nat → Bool) (m : Nat) : List UInt8 := (List.range m).map fun k => UInt8.ofNat (byteN f k)
theorem setB_length (f : Nat → Bool) (m : Nat) : (setB f m).length = m := by simp [setB]
theorem setB_cells (f : Nat → Bool) (m : Nat) : cellsB (setB f m) = (List.range m).map fun k => Value.int .u8 (byteN f k : Int) := by
  unfold setB cellsB
  rw [List.map_map]
  refine List.map_congr_left fun k _ => ?_
  simp [UInt8.toNat_ofNat', Nat.mod_eq_of_lt (byteN_lt f k)]
theorem setB_get (f : Nat → Bool) {m k : Nat} (hk : k < m) : (cellsB (setB f m))[k]? = some (.int .u8 (byteN f k : Int)) := by
  rw [setB_cells]
  simp [hk]
theorem setB_put (f : Nat → Bool) (m i : Nat) (v : Bool) : (cellsB (setB f m)).set (i / 8) (.int .u8 (byteN (put f i v) (i / 8) : Int)) = cellsB (setB (put f i v) m) := by
  apply List.ext_getElem?
  intro k
  by_cases hk : k < m
  · by_cases h : k = i / 8
    · subst h
      rw [List.getElem?_set_self (by rw [cellsB_length, setB_length]; exact hk), setB_get _ hk]
    · rw [List.getElem?_set_ne (by omega), setB_get _ hk, setB_get _ hk, byteN_other f v h]
  · rw [List.getElem?_eq_none (by simp [cellsB_length, setB_length]; omega), List.getElem?_eq_none (by simp [cellsB_length, setB_length]; omega)]
theorem setB_congr {f g : Nat → Bool} {m : Nat} (h : ∀ i, i < 8 * m → f i = g i) : setB f m = setB g m := by
  unfold setB
  refine List.map_congr_left fun k hk => ?_
  rw [byteN_congr (f := f) (g := g) fun j hj => h _ (by have := List.mem_range.1 hk; omega)]
end Go.Proofs.YtnmokkkbghlpbaaGreat
/-
  The library's three functions on a byte's bits: contracts.
-/
namespace Go.Proofs.YtnmokkkbghlpbaaGreat
open Go.RowKit
theorem wrap64_lit (n : Int) : wrap64 n = (n + 9223372036854775808) % 18446744073709551616 - 9223372036854775808 := by
  unfold wrap64
  rfl
set_option maxRecDepth 100000 in
theorem ntz8_any (x : Int) (w : World) (h0 : 0 ≤ x) (h1 : x ≤ 255) :
    Calls Tryz.prog 193 #[.int .u8 x] w fun e w' => e = .returned (.int .i64 (Lib.trailingZeros8 x.toNat : Nat)) ∧ w = w' := by
  have hr : wrap64 (Lib.ntz8 x) = (Lib.trailingZeros8 x.toNat : Int) := by
    rw [wrap64_lit]
    exact Lib.ntz8_int x h0 h1
  go_enter Tryz.func193, Tryz.ntmps193
  go_wp2
  go_ret
  exact ⟨by rw [← hr]; rfl, rfl⟩
set_option maxRecDepth 100000 in
theorem pop8_any (x : Int) (w : World) (h0 : 0 ≤ x) (h1 : x ≤ 255) :
    Calls Tryz.prog 89 #[.int .u8 x] w fun e w' => e = .returned (.int .i64 (Lib.onesCount x.toNat)) ∧ w = w' := by
  have hr : wrap64 (Lib.pop8 x) = (Lib.onesCount x.toNat : Int) := by
    rw [wrap64_lit]
    exact Lib.pop8_int x h0 h1
  go_enter Tryz.func89, Tryz.ntmps89
  go_wp2
  go_ret
  exact ⟨by rw [← hr]; rfl, rfl⟩
end Go.Proofs.YtnmokkkbghlpbaaGreat
/-
  The bits of a byte, and a set of pages in a row of 200 bytes anywhere in memory: which are in it, put in, taken out; the least that is not, the greatest, how many: contracts.
-/
namespace Go.Proofs.YtnmokkkbghlpbaaGreat
open Go.RowKit
/-- In w there is the set f of 1600 pages, in 200 bytes at o of block g. -/
def SetAt (w : World) (g o : Nat) (f : Nat → Bool) : Prop := ∀ k, k < 200 → w.cell? ⟨g, o + k, none⟩ = some (.int .u8 (byteN f k : Int))
abbrev ptrAt (g o : Nat) : Value := .pointer (some ⟨g, o, none⟩)
theorem SetAt.of_range {w : World} {g o : Nat} {f : Nat → Bool} (h : w.rangeAt g o (cellsB (setB f 200))) : SetAt w g o f := fun k hk => h k _ (setB_get f hk)
set_option maxRecDepth 100000 in
theorem mayBe_any (n : Int) (w : World) : Calls Tryz.prog 62 #[.int .i64 n] w fun e w' => e = .returned (.bool (decide (1 ≤ n ∧ n ≤ 1600))) ∧ w = w' := by
  by_cases h1 : 1 ≤ n
  · by_cases h2 : n ≤ 1600
    · rw [show decide (1 ≤ n ∧ n ≤ 1600) = true by simp [h1, h2]]
      go_enter Tryz.func62, Tryz.ntmps62
      go_wp2_with fail
      go_ret
      exact ⟨rfl, rfl⟩
    · rw [show decide (1 ≤ n ∧ n ≤ 1600) = false by simp; omega]
      go_enter Tryz.func62, Tryz.ntmps62
      go_wp2_with fail
      go_ret
      exact ⟨rfl, rfl⟩
  · rw [show decide (1 ≤ n ∧ n ≤ 1600) = false by simp; omega]
    go_enter Tryz.func62, Tryz.ntmps62
    go_wp2_with fail
    go_ret
    exact ⟨rfl, rfl⟩
set_option maxRecDepth 100000 in
theorem sethas_any {w : World} {g o : Nat} {f : Nat → Bool} (h : SetAt w g o f) {no : Nat} (hno : no < 1600) :
    Calls Tryz.prog 47 #[ptrAt g o, .int .i64 (no : Int)] w fun e w' => e = .returned (.bool (f no)) ∧ w = w' := by
  obtain ⟨k, j, hk, hj, rfl⟩ : ∃ k j, k < 200 ∧ j < 8 ∧ no = 8 * k + j := ⟨no / 8, no % 8, by omega, by omega, by omega⟩
  have hc := h k hk
  have hb := bit_of f k hj
  have hx := byteN_lt f k
  have e1 : ((8 * k + j : Nat) : Int).tdiv 8 = (k : Int) := by
    have : ((8 * k + j : Nat) : Int).tdiv 8 = (((8 * k + j) / 8 : Nat) : Int) := rfl
    rw [this]; omega
  have e2 : ((8 * k + j : Nat) : Int).tmod 8 = (j : Int) := by
    have : ((8 * k + j : Nat) : Int).tmod 8 = (((8 * k + j) % 8 : Nat) : Int) := rfl
    rw [this]; omega
  obtain ⟨no, hn⟩ : ∃ no, no = 8 * k + j := ⟨_, rfl⟩
  rw [← hn] at e1 e2 hb ⊢
  obtain ⟨x, hxe⟩ : ∃ x, x = byteN f k := ⟨_, rfl⟩
  rw [← hxe] at hc hb hx
  have e3 : (j : Int).toNat = j := by simp
  have hno' : no < 1600 := by omega
  clear h hno hxe hn
  cases hf : f no
  · rw [hf, if_neg (by simp)] at hb
    clear hf
    go_enter Tryz.func47, Tryz.ntmps47
    go_wp2_with fail
    go_ret
    exact ⟨rfl, rfl⟩
  · rw [hf, if_pos rfl] at hb
    clear hf
    go_enter Tryz.func47, Tryz.ntmps47
    go_wp2_with fail
    go_ret
    exact ⟨rfl, rfl⟩
end Go.Proofs.YtnmokkkbghlpbaaGreat
/-
  A set of pages: put in, taken out; the least that is not; what is behind the greatest; how many: contracts.
-/
namespace Go.Proofs.YtnmokkkbghlpbaaGreat
open Go.RowKit
/-- Where page no lies. -/
theorem split8 (no : Nat) (hno : no < 1600) : ∃ k j, k < 200 ∧ j < 8 ∧ no = 8 * k + j := ⟨no / 8, no % 8, by omega, by omega, by omega⟩
theorem quo8 (k j : Nat) (hj : j < 8) : ((8 * k + j : Nat) : Int).tdiv 8 = (k : Int) := by
  have : ((8 * k + j : Nat) : Int).tdiv 8 = (((8 * k + j) / 8 : Nat) : Int) := rfl
  rw [this]; omega
theorem rem8 (k j : Nat) (hj : j < 8) : ((8 * k + j : Nat) : Int).tmod 8 = (j : Int) := by
  have : ((8 * k + j : Nat) : Int).tmod 8 = (((8 * k + j) % 8 : Nat) : Int) := rfl
  rw [this]; omega
set_option maxRecDepth 100000 in
theorem setadd_any {w : World} {g o : Nat} {f : Nat → Bool} (h : SetAt w g o f) (hfz : ∀ k, k < 200 → w.frozen? ⟨g, o + k, none⟩ = false) {no : Nat} (hno : no < 1600) :
    Calls Tryz.prog 63 #[ptrAt g o, .int .i64 (no : Int)] w fun e w' => e = .returned (.tuple #[]) ∧ (w.setCell ⟨g, o + no / 8, none⟩ (.int .u8 (byteN (put f no true) (no / 8) : Int))).drew = w' := by
  obtain ⟨k, j, hk, hj, e0⟩ := split8 no hno
  have hc := h k hk
  have hb := bit_added f k hj
  have hp := wrap_pow hj
  have e1 := quo8 k j hj
  have e2 := rem8 k j hj
  have hf := hfz k hk
  rw [← e0] at hb e1 e2
  have e3 : (j : Int).toNat = j := by simp
  have e4 : no / 8 = k := by omega
  have e5 : (0 : Int) ≤ (k : Int) := by omega
  have e6 : (k : Int) < 200 := by omega
  have e7 : (k : Int).toNat = k := by simp
  have e8 : (0 : Int) ≤ (j : Int) := by omega
  have e9 : (j : Int) ≤ 8 := by omega
  have e10 : IntKind.i64.wrap (k : Int) = k := IntWalk.i64_in _ (by omega)
  rw [e4]
  obtain ⟨x, hxe⟩ : ∃ x, x = byteN f k := ⟨_, rfl⟩
  obtain ⟨y, hye⟩ : ∃ y, y = byteN (put f no true) k := ⟨_, rfl⟩
  rw [← hxe] at hc hb
  rw [← hye] at hb ⊢
  clear h hfz hxe hye e0 e4
  go_enter Tryz.func63, Tryz.ntmps63
  go_wp2_with fail
  go_still_tail 12, (by kernel_rfl)
  go_wp2_with fail
  go_end0
  exact ⟨rfl, rfl⟩
set_option maxRecDepth 100000 in
theorem setremove_any {w : World} {g o : Nat} {f : Nat → Bool} (h : SetAt w g o f) (hfz : ∀ k, k < 200 → w.frozen? ⟨g, o + k, none⟩ = false) {no : Nat} (hno : no < 1600) :
    Calls Tryz.prog 168 #[ptrAt g o, .int .i64 (no : Int)] w fun e w' => e = .returned (.tuple #[]) ∧ (w.setCell ⟨g, o + no / 8, none⟩ (.int .u8 (byteN (put f no false) (no / 8) : Int))).drew = w' := by
  obtain ⟨k, j, hk, hj, e0⟩ := split8 no hno
  have hc := h k hk
  have hb := bit_removed f k hj
  have hp := wrap_pow hj
  have e1 := quo8 k j hj
  have e2 := rem8 k j hj
  have hf := hfz k hk
  rw [← e0] at hb e1 e2
  have e3 : (j : Int).toNat = j := by simp
  have e4 : no / 8 = k := by omega
  have e5 : (0 : Int) ≤ (k : Int) := by omega
  have e6 : (k : Int) < 200 := by omega
  have e7 : (k : Int).toNat = k := by simp
  have e8 : (0 : Int) ≤ (j : Int) := by omega
  have e9 : (j : Int) ≤ 8 := by omega
  have e10 : IntKind.i64.wrap (k : Int) = k := IntWalk.i64_in _ (by omega)
  rw [e4]
  obtain ⟨x, hxe⟩ : ∃ x, x = byteN f k := ⟨_, rfl⟩
  obtain ⟨y, hye⟩ : ∃ y, y = byteN (put f no false) k := ⟨_, rfl⟩
  rw [← hxe] at hc hb
  rw [← hye] at hb ⊢
  clear h hfz hxe hye e0 e4
  go_enter Tryz.func168, Tryz.ntmps168
  go_wp2_with fail
  go_still_tail 12, (by kernel_rfl)
  go_wp2_with fail
  go_end0
  exact ⟨rfl, rfl⟩
theorem SetAt.put {w : World} {g o : Nat} {f : Nat → Bool} (h : SetAt w g o f) (no : Nat) (v : Bool) : SetAt (w.setCell ⟨g, o + no / 8, none⟩ (.int .u8 (byteN (put f no v) (no / 8) : Int))).drew g o (put f no v) := fun k hk => by
  rw [World.cell?_drew]
  by_cases e : k = no / 8
  · subst e
    exact World.cell?_setCell_same _ _ _ (h _ hk)
  · rw [World.cell?_setCell_other _ _ _ _ (by simp only [ne_eq, Addr.mk.injEq]; omega), byteN_other f v e]
    exact h k hk
theorem SetAt.lt {w : World} {g o : Nat} {f : Nat → Bool} (h : SetAt w g o f) : g < w.heap.size := World.block_lt_of_cell? w _ (h 0 (by omega))
theorem SetAt.below {w w' : World} {g o : Nat} {f : Nat → Bool} (h : SetAt w g o f) (hb : Below w.heap.size w w') : SetAt w' g o f := fun k hk => (hb.cell (p := ⟨g, o + k, none⟩) h.lt).trans (h k hk)
set_option maxRecDepth 100000 in
theorem setleast_any {w : World} {g o : Nat} {f : Nat → Bool} (h : SetAt w g o f) :
    Calls Tryz.prog 171 #[ptrAt g o] w fun e w' => ∃ m : Nat, e = .returned (.int .i64 (m : Int)) ∧ m ≤ 1600 ∧ (∀ i, i < m → f i = true) ∧ (m < 1600 → f m = false) ∧ Below w.heap.size w w' := by
  go_enter Tryz.func171, Tryz.ntmps171
  go_wp2_with fail
  go_loopw [6] (fun i wr => ∃ k : Nat, k ≤ 200 ∧ i = .int .i64 (k : Int) ∧ Hid (∀ i, i < 8 * k → f i = true) ∧ Below w.heap.size w wr) (fun i _ => 200 - (intOf i).toNat)
  case atStart => exact ⟨0, by omega, rfl, Lib.hid fun i hi => by omega, Below.refl _ _⟩
  case round =>
    obtain ⟨k, hk, rfl, ha, hb⟩ := hrel
    by_cases hk2 : k < 200
    · have hc := h.below hb k hk2
      have hx := byteN_lt f k
      have hl := fun e => least_byte (k := k) ha.out e
      have hm := fun e => full_more (k := k) ha.out e
      obtain ⟨x, hxe⟩ : ∃ x, x = byteN f k := ⟨_, rfl⟩
      rw [← hxe] at hc hx hl hm
      have e5 : (0 : Int) ≤ (k : Int) := by omega
      have e6 : (k : Int) < 200 := by omega
      have e7 : (k : Int).toNat = k := by simp
      by_cases h255 : x = 255
      · subst h255
        have Hm := Lib.hid (hm rfl)
        clear hm hl hx hxe
        go_wp2_with fail
        go_still (by kernel_rfl)
        go_wp2_with fail
        go_roundw
        case rel => exact ⟨k + 1, by omega, by go_num, Hm, hb.drew⟩
        case measure => simp [intOf]; omega
      · obtain ⟨hl1, hl2⟩ := hl h255
        have ht := turned8 x hx
        have hn0 : ((255 - x : Nat) : Int) ≤ 255 := by omega
        have e8 : decide ((x : Int) = 255) = false := by simp; omega
        obtain ⟨y, hy⟩ : ∃ y, y = 255 - x := ⟨_, rfl⟩
        rw [← hy] at hl1 hl2 ht hn0
        obtain ⟨z, hz⟩ : ∃ z, z = Lib.trailingZeros8 y := ⟨_, rfl⟩
        have e9 : (Lib.trailingZeros8 (y : Int).toNat : Int) = (z : Int) := by rw [hz]; rfl
        rw [← hz] at hl1 hl2
        have Hl2 := Lib.hid hl2
        clear hm hl hxe hl2 hy hz
        go_wp2_with fail
        go_still (by kernel_rfl)
        go_wp2_with (go_at_call 193; refine (ntz8_any y _ (by omega) hn0).mono ?_; rintro e w' ⟨rfl, rfl⟩; rw [e9])
        go_ret
        exact ⟨8 * k + z, by simp, by omega, Hl2.out.ahead, fun _ => Hl2.out.at_, hb.drew⟩
    · have : k = 200 := by omega
      subst this
      go_wp2_with fail
      go_ret
      exact ⟨1600, rfl, Nat.le_refl _, fun i hi => ha.out i (by omega), fun h => by omega, hb⟩
end Go.Proofs.YtnmokkkbghlpbaaGreat
/-
  A set of pages: what is behind the greatest, how many: contracts.
-/
namespace Go.Proofs.YtnmokkkbghlpbaaGreat
open Go.RowKit
set_option maxRecDepth 100000 in
theorem setcount_any {w : World} {g o : Nat} {f : Nat → Bool} (h : SetAt w g o f) :
    Calls Tryz.prog 65 #[ptrAt g o] w fun e w' => e = .returned (.int .i64 (cnt f 1600 : Nat)) ∧ w = w' := by
  go_enter Tryz.func65, Tryz.ntmps65
  go_wp2_with fail
  go_loop [3, 7] (fun s i => ∃ (k n : Nat), k ≤ 200 ∧ i = .int .i64 (k : Int) ∧ s = .int .i64 (n : Int) ∧ n ≤ 8 * k ∧ n = cnt f (8 * k)) (fun _ i => 200 - (intOf i).toNat)
  case atStart => exact ⟨0, 0, by omega, rfl, rfl, by omega, rfl⟩
  case round =>
    obtain ⟨k, n, hk, rfl, rfl, hn, hc⟩ := hrel
    have Hc := Lib.hid hc
    clear hc
    by_cases hk2 : k < 200
    · have hc := h k hk2
      have hx := byteN_lt f k
      have hp := pop_byte f k
      obtain ⟨x, hxe⟩ : ∃ x, x = byteN f k := ⟨_, rfl⟩
      rw [← hxe] at hc hx hp
      have hn0 : (x : Int) ≤ 255 := by omega
      have e5 : (0 : Int) ≤ (k : Int) := by omega
      have e6 : (k : Int) < 200 := by omega
      have e7 : (k : Int).toNat = k := by simp
      have hz8 : Lib.onesCount x ≤ 8 := Lib.onesCount_le8 ⟨x, hx⟩
      obtain ⟨z, hz⟩ : ∃ z, z = Lib.onesCount x := ⟨_, rfl⟩
      have e9 : (Lib.onesCount (x : Int).toNat : Int) = (z : Int) := by rw [hz]; rfl
      rw [← hz] at hp hz8
      have Hp := Lib.hid hp
      clear hxe hz hp
      go_wp2_with (go_at_call 89; refine (pop8_any x _ (by omega) hn0).mono ?_; rintro e w' ⟨rfl, rfl⟩; rw [e9])
      go_round
      case rel => exact ⟨k + 1, n + z, by omega, by go_num, by simp, by omega, by rw [Hp.out, ← Hc.out]⟩
      case measure => simp [intOf]; omega
    · have : k = 200 := by omega
      subst this
      go_wp2_with fail
      go_ret
      have hr : cnt f (8 * 200) = cnt f 1600 := rfl
      rw [← hr, ← Hc.out]
      exact ⟨rfl, rfl⟩
end Go.Proofs.YtnmokkkbghlpbaaGreat
/-
  A space in memory; its small calls, by contracts.
-/
namespace Go.Proofs.YtnmokkkbghlpbaaGreat
open Go.RowKit
/-- A space: its number of pages, which are taken now, and in what was committed. -/
structure Spc where
  n : Nat
  now : Nat → Bool
  sure : Nat → Bool
/-- What stays so of a space. -/
structure Spc.Ok (x : Spc) : Prop where
  size : 1 ≤ x.n ∧ x.n ≤ 1600
  now : ∀ i, x.n ≤ i → x.now i = false
  sure : ∀ i, x.n ≤ i → x.sure i = false
/-- The cells of a set. -/
def setC (f : Nat → Bool) : List Value := cellsB (setB f 200)
theorem setC_length (f : Nat → Bool) : (setC f).length = 200 := by unfold setC; rw [cellsB_length, setB_length]
theorem setC_one (f : Nat → Bool) : ∀ u ∈ setC f, u.oneCell' = true := cellsB_one _
theorem setC_get (f : Nat → Bool) {k : Nat} (hk : k < 200) : (setC f)[k]? = some (.int .u8 (byteN f k : Int)) := setB_get f hk
theorem setC_put (f : Nat → Bool) (i : Nat) (v : Bool) : (setC f).set (i / 8) (.int .u8 (byteN (put f i v) (i / 8) : Int)) = setC (put f i v) := setB_put f 200 i v
/-- The cells of a space. -/
def spCells (n : Nat) (f g : Nat → Bool) : List Value := .int .i64 (n : Int) :: (setC f ++ setC g)
theorem spCells_length (n : Nat) (f g : Nat → Bool) : (spCells n f g).length = 401 := by simp [spCells, setC_length]
theorem spCells_now (n : Nat) (f g : Nat → Bool) {k : Nat} {u : Value} (h : (setC f)[k]? = some u) : (spCells n f g)[1 + k]? = some u := by
  have hk := (List.getElem?_eq_some_iff.1 h).1
  unfold spCells
  rw [Nat.add_comm, List.getElem?_cons_succ, List.getElem?_append_left hk]
  exact h
theorem spCells_sure (n : Nat) (f g : Nat → Bool) {k : Nat} {u : Value} (h : (setC g)[k]? = some u) : (spCells n f g)[201 + k]? = some u := by
  unfold spCells
  rw [show 201 + k = (200 + k) + 1 by omega, List.getElem?_cons_succ, List.getElem?_append_right (by rw [setC_length]; omega), setC_length, Nat.add_sub_cancel_left]
  exact h
theorem spCells_put (n : Nat) (f g : Nat → Bool) (i : Nat) (v : Bool) (hi : i < 1600) : (spCells n f g).set (1 + i / 8) (.int .u8 (byteN (put f i v) (i / 8) : Int)) = spCells n (put f i v) g := by
  unfold spCells
  rw [Nat.add_comm 1, List.set_cons_succ, List.set_append_left _ _ (by rw [setC_length]; omega), setC_put]
theorem spCells_sureNow (n : Nat) (f g : Nat → Bool) : (spCells n f g).take 201 ++ setC f ++ (spCells n f g).drop (201 + (setC f).length) = spCells n f f := by
  have h1 := setC_length f
  have h2 := setC_length g
  unfold spCells
  rw [h1, show 201 = 200 + 1 from rfl, List.take_succ_cons, show 200 + 1 + 200 = 400 + 1 from rfl, List.drop_succ_cons, List.take_append_of_le_length (by omega), List.take_of_length_le (by omega), List.drop_of_length_le (by simp [h1, h2])]
  simp
theorem spCells_nowSure (n : Nat) (f g : Nat → Bool) : (spCells n f g).take 1 ++ setC g ++ (spCells n f g).drop (1 + (setC g).length) = spCells n g g := by
  have h1 := setC_length f
  have h2 := setC_length g
  unfold spCells
  rw [h2, show 1 + 200 = 200 + 1 from rfl, List.drop_succ_cons, List.drop_append_of_le_length (by omega), List.drop_of_length_le (by omega)]
  simp
/-- In w there is the space x at block a. -/
structure SpcIs (w : World) (a : Nat) (x : Spc) : Prop where
  top : w.heap[a]? = some (.cells (spCells x.n x.now x.sure).toArray 111 (0, 0))
  ok : x.Ok
/-- A pointer to a block's head. -/
abbrev spAt (a : Nat) : Value := .pointer (some ⟨a, 0, none⟩)
section
variable {w w' : World} {a : Nat} {x : Spc}
theorem SpcIs.lt (h : SpcIs w a x) : a < w.heap.size := (Array.getElem?_eq_some_iff.1 h.top).1
theorem SpcIs.keep (h : SpcIs w a x) (h1 : w'.heap[a]? = w.heap[a]?) : SpcIs w' a x := ⟨h1.trans h.top, h.ok⟩
theorem SpcIs.below (h : SpcIs w a x) (hb : Below w.heap.size w w') : SpcIs w' a x := h.keep (hb.block a h.lt)
theorem SpcIs.only {F : Nat → Prop} (h : SpcIs w a x) (ho : Only F w w') (h1 : ¬ F a) : SpcIs w' a x := h.keep (ho.block a h.lt h1)
theorem SpcIs.c0 (h : SpcIs w a x) : w.cell? ⟨a, 0, none⟩ = some (.int .i64 (x.n : Int)) := by rw [cell_of_row w a 0 _ _ (0, 0) h.top]; rfl
theorem SpcIs.free (h : SpcIs w a x) (j : Nat) : w.frozen? ⟨a, j, none⟩ = false := frozen_of_row w a j _ _ h.top
theorem SpcIs.rNow (h : SpcIs w a x) : w.rangeAt a 1 (setC x.now) := fun j u hu => by
  rw [cell_of_row w a (1 + j) _ _ (0, 0) h.top, List.getElem?_toArray]
  exact spCells_now _ _ _ hu
theorem SpcIs.rSure (h : SpcIs w a x) : w.rangeAt a 201 (setC x.sure) := fun j u hu => by
  rw [cell_of_row w a (201 + j) _ _ (0, 0) h.top, List.getElem?_toArray]
  exact spCells_sure _ _ _ hu
theorem SpcIs.sNow (h : SpcIs w a x) : SetAt w a 1 x.now := SetAt.of_range h.rNow
theorem SpcIs.sSure (h : SpcIs w a x) : SetAt w a 201 x.sure := SetAt.of_range h.rSure
/-- Page i, taken or given back. -/
def Spc.put (x : Spc) (i : Nat) (v : Bool) : Spc := { x with now := YtnmokkkbghlpbaaGreat.put x.now i v }
theorem Spc.Ok.put (h : x.Ok) {i : Nat} (hi : i < x.n) (v : Bool) : (x.put i v).Ok := ⟨h.size, fun j hj => by
  have hj' : x.n ≤ j := hj
  show YtnmokkkbghlpbaaGreat.put x.now i v j = false
  rw [put_other x.now v (by omega)]
  exact h.now j hj', h.sure⟩
theorem SpcIs.put (h : SpcIs w a x) {i : Nat} (hi : i < x.n) (v : Bool) : SpcIs (w.setCell ⟨a, 1 + i / 8, none⟩ (.int .u8 (byteN (YtnmokkkbghlpbaaGreat.put x.now i v) (i / 8) : Int))).drew a (x.put i v) := by
  refine ⟨?_, h.ok.put hi v⟩
  have := heap_setCell_same w a (1 + i / 8) _ _ (.int .u8 (byteN (YtnmokkkbghlpbaaGreat.put x.now i v) (i / 8) : Int)) h.top
  show (w.setCell ⟨a, 1 + i / 8, none⟩ (.int .u8 (byteN (YtnmokkkbghlpbaaGreat.put x.now i v) (i / 8) : Int))).heap[a]? = _
  rw [this]
  simp only [List.setIfInBounds_toArray]
  have hs := h.ok.size
  rw [spCells_put _ _ _ _ _ (by omega)]
  rfl
theorem info_set : (Tryz.prog.info? 109).map (·.size) = some 200 := by kernel_rfl
theorem info_setC (f : Nat → Bool) : (Tryz.prog.info? 109).map (·.size) = some (setC f).length := by rw [info_set, setC_length]
theorem info_setA (f : Nat → Bool) : (Tryz.prog.info? 109).map (·.size) = some (setC f).toArray.size := by rw [info_set, List.size_toArray, setC_length]
theorem zero_set : ∃ Z : List Value, Z.length = 200 ∧ ∀ w, (zeroValue 109).run Tryz.prog w = .ok (.agg Z.toArray) w := by
  have h : ∀ w, (zeroValue 109).run Tryz.prog w = .ok (.agg (Array.replicate 200 (.int .u8 0))) w := by
    refine (zero_of_info (n := 200) ?_).1
    kernel_rfl
  exact ⟨(Array.replicate 200 (.int .u8 0)).toList, by rw [Array.length_toList, Array.size_replicate], h⟩
/-- What was committed is as it is now. -/
def Spc.commit (x : Spc) : Spc := { x with sure := x.now }
/-- What is now is as it was committed. -/
def Spc.abort (x : Spc) : Spc := { x with now := x.sure }
set_option maxRecDepth 100000 in
theorem commit_any (h : SpcIs w a x) : Calls Tryz.prog 37 #[spAt a] w fun e w' => e = .returned (.tuple #[]) ∧ SpcIs w' a x.commit ∧ Only (fun k => k = a) w w' := by
  obtain ⟨w1, hrun, e1, e2, e3⟩ := store_agg (P := Tryz.prog) h.top (setC_one x.now) (o := 201) (by rw [spCells_length, setC_length]; omega) (info_setC x.now)
  rw [spCells_sureNow] at e1
  have hi := info_setC x.now
  have hr := h.rNow
  have hfin : SpcIs w1 a x.commit ∧ Only (fun k => k = a) w w1 := ⟨⟨e1, h.ok.size, h.ok.now, h.ok.now⟩, Only.grown e2 fun g hg => (Option.some.inj hg).symm⟩
  have Hfin := Lib.hid hfin
  obtain ⟨Z, hZ⟩ : ∃ Z, Z = setC x.now := ⟨_, rfl⟩
  rw [← hZ] at hrun hi hr
  clear hfin e1 e2 e3 hZ h
  go_enter Tryz.func37, Tryz.ntmps37
  go_wp2_with (first
    | ((with_reducible refine wpList_load_mid (op := ⟨some 8, .load 109 (.tmp 7), _, _, _, _⟩) rfl 109 (.tmp 7) rfl a 1 ?_ Z (.array 200 5) hr Tryz.underlying109 rfl hi ?_); exact rfl)
    | ((with_reducible refine wpList_stored (o := ⟨none, .store 109 (.tmp 10) (.tmp 8), _, _, _, none⟩) rfl 109 (.tmp 10) (.tmp 8) rfl (.pointer (some ⟨a, 201, none⟩)) (.agg Z.toArray) ?_ ?_ w1 hrun ?_); exact rfl; exact rfl))
  go_end0
  exact ⟨rfl, Hfin.out⟩
end
end Go.Proofs.YtnmokkkbghlpbaaGreat
/-
  A space: Abort, Taken, Fresh, Free: contracts.
-/
namespace Go.Proofs.YtnmokkkbghlpbaaGreat
open Go.RowKit
section
variable {w w' : World} {a : Nat} {x : Spc}
set_option maxRecDepth 100000 in
theorem abort_any (h : SpcIs w a x) : Calls Tryz.prog 38 #[spAt a] w fun e w' => e = .returned (.tuple #[]) ∧ SpcIs w' a x.abort ∧ Only (fun k => k = a) w w' := by
  obtain ⟨w1, hrun, e1, e2, e3⟩ := store_agg (P := Tryz.prog) h.top (setC_one x.sure) (o := 1) (by rw [spCells_length, setC_length]; omega) (info_setC x.sure)
  rw [spCells_nowSure] at e1
  have hi := info_setC x.sure
  have hr := h.rSure
  have hfin : SpcIs w1 a x.abort ∧ Only (fun k => k = a) w w1 := ⟨⟨e1, h.ok.size, h.ok.sure, h.ok.sure⟩, Only.grown e2 fun g hg => (Option.some.inj hg).symm⟩
  have Hfin := Lib.hid hfin
  obtain ⟨Z, hZ⟩ : ∃ Z, Z = setC x.sure := ⟨_, rfl⟩
  rw [← hZ] at hrun hi hr
  clear hfin e1 e2 e3 hZ h
  go_enter Tryz.func38, Tryz.ntmps38
  go_wp2_with (first
    | ((with_reducible refine wpList_load_mid (op := ⟨some 8, .load 109 (.tmp 7), _, _, _, _⟩) rfl 109 (.tmp 7) rfl a 201 ?_ Z (.array 200 5) hr Tryz.underlying109 rfl hi ?_); exact rfl)
    | ((with_reducible refine wpList_stored (o := ⟨none, .store 109 (.tmp 10) (.tmp 8), _, _, _, none⟩) rfl 109 (.tmp 10) (.tmp 8) rfl (.pointer (some ⟨a, 1, none⟩)) (.agg Z.toArray) ?_ ?_ w1 hrun ?_); exact rfl; exact rfl))
  go_end0
  exact ⟨rfl, Hfin.out⟩
set_option maxRecDepth 100000 in
/-- Is there such a page? -/
theorem spHas_yes (h : SpcIs w a x) {no : Nat} (hno : no < x.n) : Calls Tryz.prog 121 #[spAt a, .int .i64 (no : Int)] w fun e w' => e = .returned (.bool true) ∧ w = w' := by
  have h0 := h.c0
  obtain ⟨n, hn⟩ : ∃ n, n = x.n := ⟨_, rfl⟩
  rw [← hn] at h0 hno
  clear hn h
  go_enter Tryz.func121, Tryz.ntmps121
  go_wp2_with fail
  go_ret
  exact ⟨rfl, rfl⟩
set_option maxRecDepth 100000 in
theorem spHas_no (h : SpcIs w a x) {no : Int} (hno : no < 0 ∨ (x.n : Int) ≤ no) : Calls Tryz.prog 121 #[spAt a, .int .i64 no] w fun e w' => e = .returned (.bool false) ∧ w = w' := by
  have h0 := h.c0
  obtain ⟨n, hn⟩ : ∃ n, n = x.n := ⟨_, rfl⟩
  rw [← hn] at h0 hno
  clear hn h
  by_cases hz : no < 0
  · clear hno
    go_enter Tryz.func121, Tryz.ntmps121
    go_wp2_with fail
    go_ret
    exact ⟨rfl, rfl⟩
  · have hn : decide (no < (n : Int)) = false := by simp; omega
    clear hno
    go_enter Tryz.func121, Tryz.ntmps121
    go_wp2_with fail
    go_ret
    exact ⟨rfl, rfl⟩
/-- Is the page taken now? (What is told of any number.) -/
def Spc.taken (x : Spc) (no : Int) : Bool := decide (0 ≤ no) && x.now no.toNat
theorem Spc.taken_page (x : Spc) (no : Nat) : x.taken (no : Int) = x.now no := by simp [Spc.taken]
theorem Spc.Ok.taken_out (h : x.Ok) {no : Int} (hno : no < 0 ∨ (x.n : Int) ≤ no) : x.taken no = false := by
  unfold Spc.taken
  by_cases hz : no < 0
  · simp; omega
  · rw [h.now no.toNat (by omega)]; simp
/-- Is it taken now, and was not? -/
def Spc.fresh (x : Spc) (no : Int) : Bool := decide (0 ≤ no) && (x.now no.toNat && !x.sure no.toNat)
theorem Spc.fresh_page (x : Spc) (no : Nat) : x.fresh (no : Int) = (x.now no && !x.sure no) := by simp [Spc.fresh]
theorem page_or (n : Nat) (no : Int) : (no < 0 ∨ (n : Int) ≤ no) ∨ ∃ k : Nat, no = (k : Int) ∧ k < n := by
  by_cases h : no < 0
  · exact .inl (.inl h)
  · by_cases h2 : (n : Int) ≤ no
    · exact .inl (.inr h2)
    · exact .inr ⟨no.toNat, by omega, by omega⟩
set_option maxRecDepth 100000 in
theorem taken_any (h : SpcIs w a x) (no : Int) : Calls Tryz.prog 90 #[spAt a, .int .i64 no] w fun e w' => e = .returned (.bool (x.taken no)) ∧ w = w' := by
  rcases page_or x.n no with ho | ⟨k, rfl, hk⟩
  · rw [h.ok.taken_out ho]
    have hc := spHas_no h ho
    clear h ho
    go_enter Tryz.func90, Tryz.ntmps90
    go_wp2_with (go_at_call 121; refine hc.mono ?_; rintro e w' ⟨rfl, rfl⟩)
    go_ret
    exact ⟨rfl, rfl⟩
  · rw [x.taken_page]
    have hc := spHas_yes h hk
    have hs := h.ok.size
    have hd := sethas_any h.sNow (no := k) (by omega)
    clear h
    go_enter Tryz.func90, Tryz.ntmps90
    go_wp2_with (first
      | (go_at_call 121; refine hc.mono ?_; rintro e w' ⟨rfl, rfl⟩)
      | (go_at_call 47; refine hd.mono ?_; rintro e w' ⟨rfl, rfl⟩))
    go_ret
    exact ⟨rfl, rfl⟩
set_option maxRecDepth 100000 in
theorem fresh_any (h : SpcIs w a x) (no : Int) : Calls Tryz.prog 131 #[spAt a, .int .i64 no] w fun e w' => e = .returned (.bool (x.fresh no)) ∧ w = w' := by
  have hc := taken_any h no
  by_cases ht : x.taken no = true
  · rcases page_or x.n no with ho | ⟨k, rfl, hk⟩
    · rw [h.ok.taken_out ho] at ht; cases ht
    · rw [ht] at hc
      rw [x.taken_page] at ht
      rw [x.fresh_page, ht, Bool.true_and]
      have hs := h.ok.size
      have hd := sethas_any h.sSure (no := k) (by omega)
      clear h ht
      go_enter Tryz.func131, Tryz.ntmps131
      go_wp2_with (first
        | (go_at_call 90; refine hc.mono ?_; rintro e w' ⟨rfl, rfl⟩)
        | (go_at_call 47; refine hd.mono ?_; rintro e w' ⟨rfl, rfl⟩))
      go_ret
      exact ⟨rfl, rfl⟩
  · have hf : x.taken no = false := by simpa using ht
    rw [hf] at hc
    have hfr : x.fresh no = false := by
      unfold Spc.taken at hf
      unfold Spc.fresh
      revert hf
      cases decide (0 ≤ no) <;> cases x.now no.toNat <;> simp
    rw [hfr]
    clear hf ht hfr h
    go_enter Tryz.func131, Tryz.ntmps131
    go_wp2_with (go_at_call 90; refine hc.mono ?_; rintro e w' ⟨rfl, rfl⟩)
    go_ret
    exact ⟨rfl, rfl⟩
theorem SpcIs.turned (h : SpcIs w a x) {k : Nat} (hk : k < x.n) (v : Bool) {w' : World} (e : (w.setCell ⟨a, 1 + k / 8, none⟩ (.int .u8 (byteN (YtnmokkkbghlpbaaGreat.put x.now k v) (k / 8) : Int))).drew = w') : SpcIs w' a (x.put k v) ∧ Only (fun k => k = a) w w' := by
  subst e
  exact ⟨h.put hk v, (Only.setCell (F := fun k => k = a) (p := ⟨a, 1 + k / 8, none⟩) rfl _).trans (Only.drew _ _)⟩
theorem added_any (h : SpcIs w a x) {k : Nat} (hk : k < x.n) : Calls Tryz.prog 63 #[ptrAt a 1, .int .i64 (k : Int)] w fun e w' => e = .returned (.tuple #[]) ∧ SpcIs w' a (x.put k true) ∧ Only (fun k => k = a) w w' := by
  have hs := h.ok.size
  refine (setadd_any h.sNow (fun j _ => h.free _) (no := k) (by omega)).mono ?_
  rintro e w' ⟨rfl, hw⟩
  exact ⟨rfl, h.turned hk true hw⟩
theorem removed_any (h : SpcIs w a x) {k : Nat} (hk : k < x.n) : Calls Tryz.prog 168 #[ptrAt a 1, .int .i64 (k : Int)] w fun e w' => e = .returned (.tuple #[]) ∧ SpcIs w' a (x.put k false) ∧ Only (fun k => k = a) w w' := by
  have hs := h.ok.size
  refine (setremove_any h.sNow (fun j _ => h.free _) (no := k) (by omega)).mono ?_
  rintro e w' ⟨rfl, hw⟩
  exact ⟨rfl, h.turned hk false hw⟩
/-- What Free answers; the space behind it. -/
def Spc.freeErr (x : Spc) (no : Int) : Int := if no < 0 ∨ (x.n : Int) ≤ no then 1 else if x.now no.toNat then 0 else 6
def Spc.freed (x : Spc) (no : Int) : Spc := if no < 0 ∨ (x.n : Int) ≤ no then x else if x.now no.toNat then x.put no.toNat false else x
set_option maxRecDepth 100000 in
theorem free_any (h : SpcIs w a x) (no : Int) : Calls Tryz.prog 132 #[spAt a, .int .i64 no] w fun e w' => e = .returned (.int .i64 (x.freeErr no)) ∧ SpcIs w' a (x.freed no) ∧ Only (fun k => k = a) w w' := by
  unfold Spc.freeErr Spc.freed
  rcases page_or x.n no with ho | ⟨k, rfl, hk⟩
  · rw [if_pos ho, if_pos ho]
    have hc := spHas_no h ho
    have H := Lib.hid h
    clear h ho
    go_enter Tryz.func132, Tryz.ntmps132
    go_wp2_with (go_at_call 121; refine hc.mono ?_; rintro e w' ⟨rfl, rfl⟩)
    go_ret
    exact ⟨rfl, H.out, Only.refl _ _⟩
  · have hb : ¬ ((k : Int) < 0 ∨ (x.n : Int) ≤ (k : Int)) := by omega
    rw [if_neg hb, if_neg hb, show (k : Int).toNat = k by simp]
    clear hb
    have hc := spHas_yes h hk
    have hs := h.ok.size
    have hd := sethas_any h.sNow (no := k) (by omega)
    have hr := Lib.hid (removed_any h hk)
    have H := Lib.hid h
    clear h
    by_cases ht : x.now k = true
    · rw [ht] at hd
      rw [if_pos ht, if_pos ht]
      clear ht
      go_enter Tryz.func132, Tryz.ntmps132
      go_wp2_with (first
        | (go_at_call 121; refine hc.mono ?_; rintro e w' ⟨rfl, rfl⟩)
        | (go_at_call 47; refine hd.mono ?_; rintro e w' ⟨rfl, rfl⟩)
        | (go_at_call 168; refine hr.out.mono ?_; rintro e w' ⟨rfl, h1, h2⟩; have Hfin := Lib.hid (And.intro h1 h2); clear h1 h2))
      go_ret
      exact ⟨rfl, Hfin.out⟩
    · rw [show x.now k = false by simpa using ht] at hd
      rw [if_neg ht, if_neg ht]
      clear ht
      go_enter Tryz.func132, Tryz.ntmps132
      go_wp2_with (first
        | (go_at_call 121; refine hc.mono ?_; rintro e w' ⟨rfl, rfl⟩)
        | (go_at_call 47; refine hd.mono ?_; rintro e w' ⟨rfl, rfl⟩))
      go_ret
      exact ⟨rfl, H.out, Only.refl _ _⟩
end
end Go.Proofs.YtnmokkkbghlpbaaGreat
/-
  A space: what may not be given (held), Alloc, Room: contracts.
-/
namespace Go.Proofs.YtnmokkkbghlpbaaGreat
open Go.RowKit
/-- The first 8 k pages of both, behind them those of the first alone. -/
def upBoth (f g : Nat → Bool) (k : Nat) : Nat → Bool := fun i => f i || (decide (i < 8 * k) && g i)
theorem upBoth_zero (f g : Nat → Bool) : upBoth f g 0 = f := by
  funext i
  simp [upBoth]
theorem upBoth_all (f g : Nat → Bool) : setC (upBoth f g 200) = setC (both f g) := by
  unfold setC
  rw [setB_congr (f := upBoth f g 200) (g := both f g) (m := 200) fun i hi => by simp [upBoth, both, hi]]
theorem upBoth_byte (f g : Nat → Bool) {k j : Nat} (hj : k ≤ j) : byteN (upBoth f g k) j = byteN f j := byteN_congr fun i hi => by
  simp [upBoth]
  intro h
  omega
theorem upBoth_step (f g : Nat → Bool) {k : Nat} (hk : k < 200) : (setC (upBoth f g k)).set k (.int .u8 (byteN (both f g) k : Int)) = setC (upBoth f g (k + 1)) := by
  apply List.ext_getElem?
  intro j
  by_cases hj : j < 200
  · by_cases h : j = k
    · subst h
      rw [List.getElem?_set_self (by rw [setC_length]; exact hk), setC_get _ hk]
      congr 3
      refine byteN_congr fun i hi => ?_
      simp only [upBoth, both]
      rw [show decide (8 * j + i < 8 * (j + 1)) = true by simp; omega, Bool.true_and]
    · rw [List.getElem?_set_ne (by omega), setC_get _ hj, setC_get _ hj]
      congr 3
      refine byteN_congr fun i hi => ?_
      simp only [upBoth]
      rcases Nat.lt_or_gt_of_ne h with h2 | h2
      · rw [show decide (8 * j + i < 8 * k) = true by simp; omega, show decide (8 * j + i < 8 * (k + 1)) = true by simp; omega]
      · rw [show decide (8 * j + i < 8 * k) = false by simp; omega, show decide (8 * j + i < 8 * (k + 1)) = false by simp; omega]
  · rw [List.getElem?_eq_none (by simp [setC_length]; omega), List.getElem?_eq_none (by simp [setC_length]; omega)]
section
variable {w w' : World} {a : Nat} {x : Spc}
set_option maxHeartbeats 1000000 in
set_option maxRecDepth 100000 in
theorem held_any (h : SpcIs w a x) : Calls Tryz.prog 64 #[spAt a] w fun e w' => e = .returned (.agg (setC (both x.now x.sure)).toArray) ∧ Below w.heap.size w w' := by
  obtain ⟨Z, hZ, hz⟩ := zero_set
  have hi := info_setC x.now
  have hi2 := info_setA x.now
  have hi3 := info_setC x.sure
  have hx : Z.toArray.size = (setC x.now).toArray.size := by simp [hZ, setC_length]
  have hone : (setC x.now).toArray.all (·.oneCell') = true := all_oneCell_toArray (setC_one _)
  have hr := World.rangeAt_alloc h.rNow (.cells Z.toArray 109)
  have hr2 := World.rangeAt_alloc (World.rangeAt_alloc h.rSure (.cells Z.toArray 109)) (.cells (setC x.now).toArray 109)
  have hlt := h.lt
  have hb0 := (Below.refl w.heap.size w).alloc (Nat.le_refl _) (.cells Z.toArray 109)
  have hb := hb0.alloc (by simp) (.cells (setC x.now).toArray 109)
  have hg := heap_alloc_last (w.alloc (.cells Z.toArray 109)) (.cells (setC x.now).toArray 109)
  have hg0 := (heap_alloc_old (w.alloc (.cells Z.toArray 109)) (.cells (setC x.now).toArray 109) (show w.heap.size < (w.alloc (.cells Z.toArray 109)).heap.size by simp)).trans (heap_alloc_last w _)
  obtain ⟨f, hf⟩ : ∃ f, f = x.now := ⟨_, rfl⟩
  obtain ⟨g, hgg⟩ : ∃ g, g = x.sure := ⟨_, rfl⟩
  rw [← hf] at hi hi2 hx hone hr hr2 hb hg hg0 ⊢
  rw [← hgg] at hr2 hi3 ⊢
  have Hb := Lib.hid hb
  have Hg := Lib.hid hg
  have Hg0 := Lib.hid hg0
  clear h hb0 hb hg hg0 hf hgg
  go_enter Tryz.func64, Tryz.ntmps64
  go_wp2_with (first
    | (with_reducible refine wpList_alloc_zero (o := ⟨some 2, .alloc 109, _, _, _, _⟩) rfl 109 rfl Z.toArray hz ?_)
    | (with_reducible refine wpList_alloc_zero (o := ⟨some 3, .alloc 109, _, _, _, _⟩) rfl 109 rfl Z.toArray hz ?_)
    | ((with_reducible refine wpList_load_mid (op := ⟨some 9, .load 109 (.tmp 8), _, _, _, _⟩) rfl 109 (.tmp 8) rfl a 1 ?_ (setC f) (.array 200 5) hr Tryz.underlying109 rfl hi ?_); exact rfl)
    | ((with_reducible refine wpList_store_new (o := ⟨none, .store 109 (.tmp 3) (.tmp 9), _, _, _, _⟩) rfl 109 (.tmp 3) (.tmp 9) rfl Z.toArray (setC f).toArray ?_ ?_ hi2 hx hone ?_); exact rfl; exact rfl)
    | ((with_reducible refine wpList_load_mid (op := ⟨some 13, .load 109 (.tmp 12), _, _, _, _⟩) rfl 109 (.tmp 12) rfl a 201 ?_ (setC g) (.array 200 5) hr2 Tryz.underlying109 rfl hi3 ?_); exact rfl))
  have hg' := Hg.out
  rw [show (w.alloc (.cells Z.toArray 109)).heap.size = w.heap.size + 1 by simp] at hg'
  have Hg' := Lib.hid hg'
  have hsz : w.heap.size + 1 < ((w.alloc (.cells Z.toArray 109)).alloc (.cells (setC f).toArray 109)).heap.size := by simp
  have Hsz := Lib.hid hsz
  generalize hw0 : (w.alloc (.cells Z.toArray 109)).alloc (.cells (setC f).toArray 109) = w0 at Hb Hg0 Hg' Hsz hr2 ⊢
  clear Hg hr hg' hsz hw0 hr2
  go_loopw [14] (fun iv wr => ∃ k : Nat, k ≤ 200 ∧ iv = .int .i64 (k : Int) ∧ Hid (wr.heap[w.heap.size + 1]? = some (.cells (setC (upBoth f g k)).toArray 109 (0, 0)) ∧ wr.heap[w.heap.size]? = some (.cells Z.toArray 109 (0, 0)) ∧ Below w.heap.size w wr)) (fun iv _ => 200 - (intOf iv).toNat)
  case atStart => exact ⟨0, by omega, rfl, Lib.hid ⟨by rw [upBoth_zero]; exact Hg'.out, Hg0.out, Hb.out⟩⟩
  case round =>
    obtain ⟨k, hk, rfl, HI⟩ := hrel
    obtain ⟨h1, h0, hb⟩ := HI.out
    by_cases hk2 : k < 200
    · have hc : wr.cell? ⟨w.heap.size + 1, k, none⟩ = some (.int .u8 (byteN f k : Int)) := by
        rw [cell_of_row wr _ k _ _ (0, 0) h1, List.getElem?_toArray, setC_get _ hk2, upBoth_byte f g (Nat.le_refl _)]
      have hfz : wr.frozen? ⟨w.heap.size + 1, k, none⟩ = false := frozen_of_row wr _ k _ _ h1
      have hix := run_index_one (P := Tryz.prog) (w := wr) Tryz.underlying109 Tryz.underlying5 rfl (by kernel_rfl) (setC g).toArray .i64 hk2 (v := .int .u8 (byteN g k : Int)) (by rw [List.getElem?_toArray]; exact setC_get g hk2)
      have hbo := bit_both f g k
      have hnew : Hid (∀ y : Nat, y = byteN (both f g) k → (wr.setCell ⟨w.heap.size + 1, k, none⟩ (.int .u8 (y : Int))).heap[w.heap.size + 1]? = some (.cells (setC (upBoth f g (k + 1))).toArray 109 (0, 0)) ∧ (wr.setCell ⟨w.heap.size + 1, k, none⟩ (.int .u8 (y : Int))).heap[w.heap.size]? = some (.cells Z.toArray 109 (0, 0)) ∧ Below w.heap.size w (wr.setCell ⟨w.heap.size + 1, k, none⟩ (.int .u8 (y : Int)))) := by
        refine Lib.hid ?_
        intro y hy
        subst hy
        refine ⟨?_, ?_, hb.setCell (by simp) _⟩
        · rw [heap_setCell_same wr _ k _ _ _ h1, List.setIfInBounds_toArray, upBoth_step f g hk2]
        · rw [heap_setCell_other wr _ _ _ (by simp)]
          exact h0
      obtain ⟨p, hp⟩ : ∃ p, p = byteN f k := ⟨_, rfl⟩
      obtain ⟨q, hq⟩ : ∃ q, q = byteN g k := ⟨_, rfl⟩
      obtain ⟨y, hy⟩ : ∃ y, y = byteN (both f g) k := ⟨_, rfl⟩
      rw [← hp] at hc hbo
      rw [← hq] at hix hbo
      rw [← hy] at hbo
      have e5 : (0 : Int) ≤ (k : Int) := by omega
      have e6 : (k : Int) < 200 := by omega
      have e7 : (k : Int).toNat = k := by simp
      have Hn := Lib.hid (hnew.out y hy)
      clear hp hq hy hnew h1 h0 hb HI
      go_wp2_with ((with_reducible refine wpList_run (o := ⟨some 17, .index 109 (.tmp 13) (.tmp 14), _, _, _, none⟩) rfl (.int .u8 (q : Int)) wr ?_ ?_); exact exec_index rfl rfl rfl hix)
      go_roundw
      case rel => exact ⟨k + 1, by omega, by go_num, Hn⟩
      case measure => simp [intOf]; omega
    · have : k = 200 := by omega
      subst this
      rw [upBoth_all] at h1
      have hr : wr.rangeAt (w.heap.size + 1) 0 (setC (both f g)) := rangeAt_block h1 fun j u hu => by rw [Nat.zero_add]; exact hu
      have hi4 := info_setC (both f g)
      obtain ⟨w1, hrun, e1, e2, e3⟩ := store_agg (P := Tryz.prog) h0 (setC_one (both f g)) (o := 0) (by rw [hZ, setC_length]; omega) hi4
      rw [Nat.zero_add, List.take_zero, List.nil_append, List.drop_of_length_le (by rw [hZ, setC_length]; omega), List.append_nil] at e1
      have hfin : Below w.heap.size w w1 := hb.grown e2 hb.size fun g hg => by injection hg with hg; omega
      have Hf := Lib.hid hfin
      have He1 := Lib.hid e1
      obtain ⟨Y, hY⟩ : ∃ Y, Y = setC (both f g) := ⟨_, rfl⟩
      rw [← hY] at hr hi4 hrun He1
      have HY := Lib.hid hY
      have hsz2 : Y.toArray.size = 200 := by rw [hY, List.size_toArray, setC_length]
      clear hfin e1 e2 e3 h1 h0 hb HI hY
      go_wp2_with (first
        | ((with_reducible refine wpList_load_mid (op := ⟨some 25, .load 109 (.tmp 3), _, _, _, _⟩) rfl 109 (.tmp 3) rfl (w.heap.size + 1) 0 ?_ Y (.array 200 5) hr Tryz.underlying109 rfl hi4 ?_); exact rfl)
        | ((with_reducible refine wpList_stored (o := ⟨none, .store 109 (.tmp 2) (.tmp 25), _, _, _, none⟩) rfl 109 (.tmp 2) (.tmp 25) rfl (.pointer (some ⟨w.heap.size, 0, none⟩)) (.agg Y.toArray) ?_ ?_ w1 hrun ?_); exact rfl; exact rfl))
      refine bodyPost_ret (v := .agg Y.toArray) ?_ rfl ⟨by rw [HY.out], Hf.out⟩
      exact results_cell_row (p := 2) (ty := 109) (by kernel_rfl) _ _ w.heap.size 109 Y.toArray (0, 0) (.array 200 5) rfl He1.out Tryz.underlying109 rfl (by rw [info_set, hsz2])
end
end Go.Proofs.YtnmokkkbghlpbaaGreat
/-
  A space: Alloc, Room: contracts.
-/
namespace Go.Proofs.YtnmokkkbghlpbaaGreat
open Go.RowKit
/-- What may not be given. -/
def Spc.held (x : Spc) : Nat → Bool := both x.now x.sure
theorem Spc.Ok.held {x : Spc} (h : x.Ok) : ∀ i, x.n ≤ i → x.held i = false := fun i hi => by
  show (x.now i || x.sure i) = false
  rw [h.now i hi, h.sure i hi]
  rfl
theorem least_or (f : Nat → Bool) : ∀ n, (∃ m, m < n ∧ LeastNot f m) ∨ ∀ i, i < n → f i = true
  | 0 => .inr fun i hi => by omega
  | n + 1 => by
    rcases least_or f n with ⟨m, hm, hl⟩ | h
    · exact .inl ⟨m, by omega, hl⟩
    · cases hn : f n
      · exact .inl ⟨n, by omega, h, hn⟩
      · exact .inr fun i hi => by
          by_cases e : i = n
          · subst e; exact hn
          · exact h i (by omega)
section
variable {w w' : World} {a : Nat} {x : Spc}
/-- A set that was stored in a new variable. -/
theorem SetAt.new (w : World) (f : Nat → Bool) (t : TypeId) : SetAt (w.alloc (.cells (setC f).toArray t)) w.heap.size 0 f := fun k hk => by
  rw [Nat.zero_add, cell_of_row _ _ k _ _ (0, 0) (heap_alloc_last w _), List.getElem?_toArray]
  exact setC_get f hk
set_option maxRecDepth 100000 in
theorem alloc_yes (h : SpcIs w a x) {m : Nat} (hm : LeastNot x.held m) (hmn : m < x.n) : Calls Tryz.prog 134 #[spAt a] w fun e w' => e = .returned (.tuple #[.int .i64 (m : Int), .int .i64 0]) ∧ SpcIs w' a (x.put m true) ∧ Only (fun k => k = a) w w' := by
  obtain ⟨Z, hZ, hz⟩ := zero_set
  have hi2 := info_setA x.held
  have hx : Z.toArray.size = (setC x.held).toArray.size := by simp [hZ, setC_length]
  have hone : (setC x.held).toArray.all (·.oneCell') = true := all_oneCell_toArray (setC_one _)
  have hh := Lib.hid (held_any h)
  have hs := h.ok.size
  have H := Lib.hid h
  have Hm := Lib.hid hm
  clear h hm
  go_enter Tryz.func134, Tryz.ntmps134
  go_wp2_with (first
    | (go_at_call 64; refine hh.out.mono ?_; rintro e w1 ⟨rfl, hb1⟩; have Hb1 := Lib.hid hb1; clear hb1)
    | (with_reducible refine wpList_alloc_zero (o := ⟨some 4, .alloc 109, _, _, _, _⟩) rfl 109 rfl Z.toArray hz ?_)
    | ((with_reducible refine wpList_store_new (o := ⟨none, .store 109 (.tmp 4) (.tmp 9), _, _, _, _⟩) rfl 109 (.tmp 4) (.tmp 9) rfl Z.toArray (setC x.held).toArray ?_ ?_ hi2 hx hone ?_); exact rfl; exact rfl)
    | (go_at_call 171; refine (setleast_any (SetAt.new _ x.held 109)).mono ?_; rintro e w2 ⟨m2, rfl, g1, g2, g3, hb2⟩
       have em : m2 = m := by
         have hf := H.out.ok.held
         have : LeastNot x.held m2 := ⟨g2, if h1 : m2 < 1600 then g3 h1 else hf m2 (by omega)⟩
         exact this.uniq Hm.out
       subst em
       have hbb : Below w.heap.size w w2 := Hb1.out.trans ((((Below.refl w1.heap.size w1).alloc (Nat.le_refl _) _).trans (hb2.mono (by simp))).mono Hb1.out.size)
       have hsp := H.out.below hbb
       have c0 := hsp.c0
       have Hsp := Lib.hid hsp
       have Hbb := Lib.hid hbb
       clear g1 g2 g3 hb2 hsp hbb)
    | (go_at_call 63; refine (added_any Hsp.out hmn).mono ?_; rintro e w3 ⟨rfl, k1, k2⟩; have Hf := Lib.hid (And.intro k1 ((Only.of_below Hbb.out).mono (fun k hk he => absurd hk he) |>.trans k2)); clear k1 k2))
  go_ret2
  exact ⟨rfl, Hf.out⟩
set_option maxRecDepth 100000 in
theorem alloc_no (h : SpcIs w a x) (hm : ∀ i, i < x.n → x.held i = true) : Calls Tryz.prog 134 #[spAt a] w fun e w' => e = .returned (.tuple #[.int .i64 (-1), .int .i64 2]) ∧ SpcIs w' a x ∧ Only (fun k => k = a) w w' := by
  obtain ⟨Z, hZ, hz⟩ := zero_set
  have hi2 := info_setA x.held
  have hx : Z.toArray.size = (setC x.held).toArray.size := by simp [hZ, setC_length]
  have hone : (setC x.held).toArray.all (·.oneCell') = true := all_oneCell_toArray (setC_one _)
  have hh := Lib.hid (held_any h)
  have hs := h.ok.size
  have H := Lib.hid h
  have Hm := Lib.hid hm
  clear h hm
  go_enter Tryz.func134, Tryz.ntmps134
  go_wp2_with (first
    | (go_at_call 64; refine hh.out.mono ?_; rintro e w1 ⟨rfl, hb1⟩; have Hb1 := Lib.hid hb1; clear hb1)
    | (with_reducible refine wpList_alloc_zero (o := ⟨some 4, .alloc 109, _, _, _, _⟩) rfl 109 rfl Z.toArray hz ?_)
    | ((with_reducible refine wpList_store_new (o := ⟨none, .store 109 (.tmp 4) (.tmp 9), _, _, _, _⟩) rfl 109 (.tmp 4) (.tmp 9) rfl Z.toArray (setC x.held).toArray ?_ ?_ hi2 hx hone ?_); exact rfl; exact rfl)
    | (go_at_call 171; refine (setleast_any (SetAt.new _ x.held 109)).mono ?_; rintro e w2 ⟨m2, rfl, g1, g2, g3, hb2⟩
       have em : x.n ≤ m2 := by
         refine Nat.le_of_not_lt fun hlt => ?_
         have h1 := Hm.out m2 hlt
         have h2 := g3 (by omega)
         rw [h1] at h2
         cases h2
       have hbb : Below w.heap.size w w2 := Hb1.out.trans ((((Below.refl w1.heap.size w1).alloc (Nat.le_refl _) _).trans (hb2.mono (by simp))).mono Hb1.out.size)
       have hsp := H.out.below hbb
       have c0 := hsp.c0
       have Hsp := Lib.hid hsp
       have Hbb := Lib.hid hbb
       clear g1 g2 g3 hb2 hsp hbb))
  go_ret2
  exact ⟨rfl, Hsp.out, (Only.of_below Hbb.out).mono (fun k hk he => absurd hk he)⟩
set_option maxRecDepth 100000 in
theorem spRoom_any (h : SpcIs w a x) : Calls Tryz.prog 31 #[spAt a] w fun e w' => e = .returned (.int .i64 (_root_.Go.Proofs.YtnmokkkbghlpbaaGreat.free x.held x.n : Nat)) ∧ Below w.heap.size w w' := by
  obtain ⟨Z, hZ, hz⟩ := zero_set
  have hi2 := info_setA x.held
  have hx : Z.toArray.size = (setC x.held).toArray.size := by simp [hZ, setC_length]
  have hone : (setC x.held).toArray.all (·.oneCell') = true := all_oneCell_toArray (setC_one _)
  have hh := Lib.hid (held_any h)
  have hs := h.ok.size
  have hcn := cnt_to h.ok.held (m := 1600) (by omega)
  have hfc := free_cnt x.held x.n
  rw [← hcn] at hfc
  have H := Lib.hid h
  obtain ⟨c, hc⟩ : ∃ c, c = cnt x.held 1600 := ⟨_, rfl⟩
  obtain ⟨n, hn⟩ : ∃ n, n = x.n := ⟨_, rfl⟩
  obtain ⟨r, hr⟩ : ∃ r, r = _root_.Go.Proofs.YtnmokkkbghlpbaaGreat.free x.held x.n := ⟨_, rfl⟩
  rw [← hr, ← hc, ← hn] at hfc
  rw [← hr]
  rw [← hn] at hs
  have Hc := Lib.hid hc
  have Hn := Lib.hid hn
  clear h hcn hc hn hr
  go_enter Tryz.func31, Tryz.ntmps31
  go_wp2_with (first
    | (go_at_call 64; refine hh.out.mono ?_; rintro e w1 ⟨rfl, hb1⟩; have Hb1 := Lib.hid hb1; clear hb1)
    | (with_reducible refine wpList_alloc_zero (o := ⟨some 3, .alloc 109, _, _, _, _⟩) rfl 109 rfl Z.toArray hz ?_)
    | ((with_reducible refine wpList_store_new (o := ⟨none, .store 109 (.tmp 3) (.tmp 7), _, _, _, _⟩) rfl 109 (.tmp 3) (.tmp 7) rfl Z.toArray (setC x.held).toArray ?_ ?_ hi2 hx hone ?_); exact rfl; exact rfl))
  have hbb : Below w.heap.size w (w1.alloc (.cells (setC x.held).toArray 109)) := Hb1.out.alloc Hb1.out.size _
  have hsp := H.out.below hbb
  have c0 := hsp.c0
  rw [← Hn.out] at c0
  have Hbb := Lib.hid hbb
  have hst := SetAt.new w1 x.held 109
  clear hsp hbb
  go_wp2_with fail
  generalize w1.alloc (.cells (setC x.held).toArray 109) = w2 at *
  have hcount : ∀ k, Calls Tryz.prog 65 #[ptrAt w1.heap.size 0] (w2.drewN k) fun e w' => e = .returned (.int .i64 (c : Int)) ∧ w' = w2.drewN k := fun k => by
    have h2 : SetAt (w2.drewN k) w1.heap.size 0 x.held := hst
    refine (setcount_any h2).mono ?_
    rintro e w' ⟨rfl, rfl⟩
    rw [← Hc.out]
    exact ⟨rfl, rfl⟩
  have hw : IntKind.i64.wrap ((n : Int) - (c : Int)) = (r : Int) := by
    rw [show (n : Int) - (c : Int) = (r : Int) by omega]
    exact IntWalk.i64_in _ (by omega)
  go_quiet (exact Calls.quiet_of_same (hcount _))
  go_wp2_with fail
  go_ret
  exact ⟨rfl, ⟨Hbb.out.os, Hbb.out.tape, Hbb.out.output, Hbb.out.size, Hbb.out.block⟩⟩
end
end Go.Proofs.YtnmokkkbghlpbaaGreat
/-
  A space: New, by contracts.
-/
namespace Go.Proofs.YtnmokkkbghlpbaaGreat
open Go.RowKit
theorem exec_build1 {ρ : Operand → Value} {o : Oper} {t : TypeId} {x : Operand} (ho : o.op = .build t #[(0, x)]) {u v : Value} (hx : ρ x = u) {P : Program} {w : World} (hrun : (Instr.build t #[(0, u)]).run P w = .ok v w) : (execOp ρ o).run P w = .ok (.value v) w := by
  unfold execOp
  simp only [ho, List.map_toArray, List.map_cons, List.map_nil, hx, Sem.run_bind, hrun, Result.andThen_ok, Sem.run_pure]
theorem exec_box {ρ : Operand → Value} {o : Oper} {t : TypeId} {x : Operand} (ho : o.op = .box t x) {c : Array Value} (hx : ρ x = .agg c) {P : Program} {w : World} : (execOp ρ o).run P w = .ok (.value (.pointer (some ⟨w.heap.size, 0, none⟩))) (w.alloc (.cells c t)) := by
  unfold execOp
  simp only [ho, hx, Sem.run_bind, Instr.box, newVar, newRow, run_newObj_alloc, Sem.run_pure, Result.andThen_ok, Value.cells]
/-- No page. -/
def none_ : Nat → Bool := fun _ => false
set_option maxRecDepth 100000 in
theorem build_space (n : Int) (w : World) : (Instr.build 111 #[(0, .int .i64 n)]).run Tryz.prog w = .ok (.agg (.int .i64 n :: (setC none_ ++ setC none_)).toArray) w := by kernel_rfl
/-- The pages below k. -/
def below (k : Nat) : Nat → Bool := fun i => decide (i < k)
theorem below_zero : below 0 = none_ := by
  funext i
  simp [below, none_]
theorem below_put (k : Nat) : put (below k) k true = below (k + 1) := by
  funext i
  unfold put below
  by_cases h : i = k
  · subst h; simp
  · rw [if_neg h]
    by_cases h2 : i < k
    · simp [h2, Nat.lt_succ_of_lt h2]
    · have : ¬ i < k + 1 := by omega
      simp [h2, this]
/-- A new space. -/
def Spc.new (n first : Nat) : Spc := ⟨n, below first, below first⟩
section
variable {w w' : World}
theorem below_free (i : Nat) : ∀ n, _root_.Go.Proofs.YtnmokkkbghlpbaaGreat.free (below i) n = n - i
  | 0 => by simp [_root_.Go.Proofs.YtnmokkkbghlpbaaGreat.free]
  | n + 1 => by
    rw [_root_.Go.Proofs.YtnmokkkbghlpbaaGreat.free, below_free i n]
    by_cases h : n < i
    · simp only [below, h, decide_true, if_true]; omega
    · simp only [below, h, decide_false]; simp; omega
theorem below_least (i : Nat) : LeastNot (below i) i := ⟨fun j hj => by simp [below, hj], by simp [below]⟩
set_option maxRecDepth 100000 in
theorem new_bad (n first : Int) (hb : ¬ (1 ≤ n ∧ n ≤ 1600) ∨ first < 0 ∨ n < first) : Calls Tryz.prog 30 #[.int .i64 n, .int .i64 first] w fun e w' => e = .returned (.tuple #[.pointer none, .int .i64 1]) ∧ w = w' := by
  have hm := mayBe_any n w
  by_cases h1 : 1 ≤ n ∧ n ≤ 1600
  · rw [show decide (1 ≤ n ∧ n ≤ 1600) = true by simp [h1]] at hm
    by_cases h2 : first < 0
    · clear hb
      go_enter Tryz.func30, Tryz.ntmps30
      go_wp2_with (go_at_call 62; refine hm.mono ?_; rintro e w' ⟨rfl, rfl⟩)
      go_ret2
      exact ⟨rfl, rfl⟩
    · have h3 : n < first := by omega
      clear hb
      go_enter Tryz.func30, Tryz.ntmps30
      go_wp2_with (go_at_call 62; refine hm.mono ?_; rintro e w' ⟨rfl, rfl⟩)
      go_ret2
      exact ⟨rfl, rfl⟩
  · rw [show decide (1 ≤ n ∧ n ≤ 1600) = false by simp; omega] at hm
    clear hb h1
    go_enter Tryz.func30, Tryz.ntmps30
    go_wp2_with (go_at_call 62; refine hm.mono ?_; rintro e w' ⟨rfl, rfl⟩)
    go_ret2
    exact ⟨rfl, rfl⟩
set_option maxRecDepth 100000 in
theorem spNew_ok (n first : Nat) (h1 : 1 ≤ n) (h2 : n ≤ 1600) (h3 : first ≤ n) : Calls Tryz.prog 30 #[.int .i64 (n : Int), .int .i64 (first : Int)] w fun e w' => ∃ a, e = .returned (.tuple #[spAt a, .int .i64 0]) ∧ w.heap.size ≤ a ∧ SpcIs w' a (Spc.new n first) ∧ Below w.heap.size w w' := by
  have hm := mayBe_any (n : Int) w
  rw [show decide (1 ≤ (n : Int) ∧ (n : Int) ≤ 1600) = true by simp; omega] at hm
  have hb := build_space (n : Int)
  have h0 : SpcIs (w.alloc (.cells (.int .i64 (n : Int) :: (setC none_ ++ setC none_)).toArray 111)) w.heap.size ⟨n, below 0, none_⟩ := ⟨by rw [below_zero]; exact heap_alloc_last _ _, ⟨h1, h2⟩, fun i _ => by simp [below], fun i _ => rfl⟩
  have H0 := Lib.hid h0
  have hw := (Below.refl w.heap.size w).alloc (Nat.le_refl _) (.cells (.int .i64 (n : Int) :: (setC none_ ++ setC none_)).toArray 111)
  have Hw := Lib.hid hw
  have H2 := Lib.hid h2
  have e1 : decide ((first : Int) < 0) = false := by simp
  have e2 : decide (n < first) = false := by simp; omega
  obtain ⟨Z, hZ⟩ : ∃ Z, Z = (Value.int .i64 (n : Int) :: (setC none_ ++ setC none_)).toArray := ⟨_, rfl⟩
  rw [← hZ] at hb H0 Hw
  clear h0 hw hZ
  go_enter Tryz.func30, Tryz.ntmps30
  go_wp2_with (first
    | (go_at_call 62; refine hm.mono ?_; rintro e w' ⟨rfl, rfl⟩)
    | ((with_reducible refine wpList_run (o := ⟨some 21, .build 111 #[(0, .tmp 20)], _, _, _, none⟩) rfl (.agg Z) w ?_ ?_); exact exec_build1 (u := .int .i64 (n : Int)) (v := .agg Z) rfl rfl (hb w))
    | ((with_reducible refine wpList_run (o := ⟨some 22, .box 111 (.tmp 21), _, _, _, none⟩) rfl (.pointer (some ⟨w.heap.size, 0, none⟩)) (w.alloc (.cells Z 111)) ?_ ?_); exact exec_box (c := Z) rfl rfl))
  generalize w.alloc (.cells Z 111) = w0 at H0 Hw ⊢
  clear hm hb e1 e2
  go_loopw [24] (fun iv wr => ∃ k : Nat, k ≤ first ∧ iv = .int .i64 (k : Int) ∧ Hid (SpcIs wr w.heap.size ⟨n, below k, none_⟩ ∧ Below w.heap.size w wr)) (fun iv _ => first - (intOf iv).toNat)
  case atStart => exact ⟨0, by omega, rfl, Lib.hid ⟨H0.out, Hw.out⟩⟩
  case round =>
    obtain ⟨k, hk, rfl, HI⟩ := hrel
    obtain ⟨hs, hb⟩ := HI.out
    by_cases hk2 : k < first
    · have ha := Lib.hid (added_any hs (k := k) (show k < n by omega))
      have Hb := Lib.hid hb
      clear hs hb HI
      go_wp2_with (go_at_call 63; refine ha.out.mono ?_; rintro e w1 ⟨rfl, k1, k2⟩; have Hk := Lib.hid (And.intro k1 k2); clear k1 k2)
      go_roundw
      case rel =>
        refine ⟨k + 1, by omega, by go_num, Lib.hid ⟨?_, ?_⟩⟩
        · have := Hk.out.1
          unfold Spc.put at this
          rw [below_put] at this
          exact this
        · exact Hb.out.trans ((Hk.out.2.mono (F' := fun k => w.heap.size ≤ k) fun j _ hj => by omega).below Hb.out.size)
      case measure => simp [intOf]; omega
    · have : k = first := by omega
      subst this
      have hc := Lib.hid (commit_any hs)
      have Hb := Lib.hid hb
      clear hs hb HI
      go_wp2_with (go_at_call 37; refine hc.out.mono ?_; rintro e w1 ⟨rfl, k1, k2⟩; have Hk := Lib.hid (And.intro k1 k2); clear k1 k2)
      go_ret2
      exact ⟨_, rfl, Nat.le_refl _, Hk.out.1, Hb.out.trans ((Hk.out.2.mono (F' := fun k => w.heap.size ≤ k) fun j _ hj => by omega).below Hb.out.size)⟩
end
end Go.Proofs.YtnmokkkbghlpbaaGreat
/-
  The tree's small functions by contracts: New, whether a key may be, whether there is room; what is told of no tree.
-/
namespace Go.Proofs.YtnmokkkbghlpbaaGreat
open Go.RowKit
/-- The cells of a tree. -/
abbrev trCells (c s gen root height : Nat) : Array Value := #[at0 c, spAt s, .int .u64 (gen : Int), .int .i64 (root : Int), .int .i64 (height : Int)]
/-- In w there is a tree at block t. -/
structure TrIs (w : World) (t c s gen root height : Nat) : Prop where
  top : w.heap[t]? = some (.cells (trCells c s gen root height) 99 (0, 0))
section
variable {w w' : World} {t c s gen root height : Nat}
theorem TrIs.lt (h : TrIs w t c s gen root height) : t < w.heap.size := (Array.getElem?_eq_some_iff.1 h.top).1
theorem TrIs.keep (h : TrIs w t c s gen root height) (h1 : w'.heap[t]? = w.heap[t]?) : TrIs w' t c s gen root height := ⟨h1.trans h.top⟩
theorem TrIs.below (h : TrIs w t c s gen root height) (hb : Below w.heap.size w w') : TrIs w' t c s gen root height := h.keep (hb.block t h.lt)
theorem TrIs.only {F : Nat → Prop} (h : TrIs w t c s gen root height) (ho : Only F w w') (h1 : ¬ F t) : TrIs w' t c s gen root height := h.keep (ho.block t h.lt h1)
theorem TrIs.c0 (h : TrIs w t c s gen root height) : w.cell? ⟨t, 0, none⟩ = some (at0 c) := by rw [cell_of_row w t 0 _ _ (0, 0) h.top]; rfl
theorem TrIs.c1 (h : TrIs w t c s gen root height) : w.cell? ⟨t, 1, none⟩ = some (spAt s) := by rw [cell_of_row w t 1 _ _ (0, 0) h.top]; rfl
theorem TrIs.c2 (h : TrIs w t c s gen root height) : w.cell? ⟨t, 2, none⟩ = some (.int .u64 (gen : Int)) := by rw [cell_of_row w t 2 _ _ (0, 0) h.top]; rfl
theorem TrIs.c3 (h : TrIs w t c s gen root height) : w.cell? ⟨t, 3, none⟩ = some (.int .i64 (root : Int)) := by rw [cell_of_row w t 3 _ _ (0, 0) h.top]; rfl
theorem TrIs.c4 (h : TrIs w t c s gen root height) : w.cell? ⟨t, 4, none⟩ = some (.int .i64 (height : Int)) := by rw [cell_of_row w t 4 _ _ (0, 0) h.top]; rfl
theorem TrIs.free (h : TrIs w t c s gen root height) (j : Nat) : w.frozen? ⟨t, j, none⟩ = false := frozen_of_row w t j _ _ h.top
end
/-- That a root and a height are those of a tree over n sectors. -/
def TrGood (n : Nat) (root height : Int) : Prop := 0 ≤ height ∧ height ≤ 12 ∧ 0 ≤ root ∧ root < n ∧ (root = 0 ↔ height = 0)
set_option maxRecDepth 100000 in
theorem trNew_ok {w : World} {c p bl n : Nat} (s gen : Nat) {root height : Nat} (k2 : w.cell? ⟨c, 2, none⟩ = some (at0 p)) (hc : w.cell? ⟨p, 8, none⟩ = some (.slice (some ⟨bl, 0, none⟩) n n)) (h1 : height ≤ 12) (h2 : root < n) (h3 : root = 0 ↔ height = 0) :
    Calls Tryz.prog 18 #[at0 c, spAt s, .int .u64 (gen : Int), .int .i64 (root : Int), .int .i64 (height : Int)] w fun e w' => e = .returned (.tuple #[at0 w.heap.size, .int .i64 0]) ∧ w.alloc (.cells (trCells c s gen root height) 99) = w' := by
  have t1 : ¬ (n : Int) ≤ (root : Int) := by omega
  have t0 : ¬ n = 0 := by omega
  have t2 : ¬ (height : Int) < 0 := by omega
  have t3 : ¬ (height : Int) > 12 := by omega
  have t4 : ¬ (root : Int) < 0 := by omega
  have hlen := Lib.hid (cacheLen_any (w := w) k2 hc)
  clear k2 hc h1 h2
  by_cases hr : root = 0
  · have hh := h3.1 hr
    subst hr hh
    clear h3 t1
    go_enter Tryz.func18, Tryz.ntmps18
    go_wp2_with (go_at_call 42; refine hlen.out.mono ?_; rintro e w' ⟨rfl, rfl⟩)
    go_ret2
    exact ⟨rfl, rfl⟩
  · have hh : ¬ height = 0 := fun e => hr (h3.2 e)
    have t5 : ((root : Int) == 0) = false := by simp; omega
    have t6 : ((height : Int) == 0) = false := by simp; omega
    clear h3 hr hh t0
    go_enter Tryz.func18, Tryz.ntmps18
    go_wp2_with (go_at_call 42; refine hlen.out.mono ?_; rintro e w' ⟨rfl, rfl⟩)
    go_ret2
    exact ⟨rfl, rfl⟩
set_option maxRecDepth 100000 in
theorem trNew_no {w : World} {c p bl n : Nat} (s gen : Nat) {root height : Int} (k2 : w.cell? ⟨c, 2, none⟩ = some (at0 p)) (hc : w.cell? ⟨p, 8, none⟩ = some (.slice (some ⟨bl, 0, none⟩) n n)) (hg : ¬ TrGood n root height) :
    Calls Tryz.prog 18 #[at0 c, spAt s, .int .u64 (gen : Int), .int .i64 root, .int .i64 height] w fun e w' => e = .returned (.tuple #[.pointer none, .int .i64 1]) ∧ w = w' := by
  have hlen := Lib.hid (cacheLen_any (w := w) k2 hc)
  unfold TrGood at hg
  clear k2 hc
  by_cases a1 : height < 0
  · clear hg
    go_enter Tryz.func18, Tryz.ntmps18
    go_wp2_with fail
    go_ret2
    exact ⟨rfl, rfl⟩
  by_cases a2 : height > 12
  · clear hg
    go_enter Tryz.func18, Tryz.ntmps18
    go_wp2_with fail
    go_ret2
    exact ⟨rfl, rfl⟩
  by_cases a3 : root < 0
  · clear hg
    go_enter Tryz.func18, Tryz.ntmps18
    go_wp2_with fail
    go_ret2
    exact ⟨rfl, rfl⟩
  by_cases a4 : (n : Int) ≤ root
  · clear hg
    go_enter Tryz.func18, Tryz.ntmps18
    go_wp2_with (go_at_call 42; refine hlen.out.mono ?_; rintro e w' ⟨rfl, rfl⟩)
    go_ret2
    exact ⟨rfl, rfl⟩
  have hx : (!((root == 0) == (height == 0))) = true := by
    by_cases r : root = 0
    · by_cases q : height = 0
      · exact absurd ⟨by omega, by omega, by omega, by omega, by omega⟩ hg
      · rw [r, show (height == 0) = false by rw [beq_eq_false_iff_ne]; exact q]; rfl
    · by_cases q : height = 0
      · rw [q, show (root == 0) = false by rw [beq_eq_false_iff_ne]; exact r]; rfl
      · exact absurd ⟨by omega, by omega, by omega, by omega, by omega⟩ hg
  clear hg
  go_enter Tryz.func18, Tryz.ntmps18
  go_wp2_with (go_at_call 42; refine hlen.out.mono ?_; rintro e w' ⟨rfl, rfl⟩)
  go_ret2
  exact ⟨rfl, rfl⟩
set_option maxRecDepth 100000 in
theorem trKind_leaf (w : World) : Calls Tryz.prog 86 #[.bool true] w fun e w' => e = .returned (.int .i64 1) ∧ w = w' := by
  go_enter Tryz.func86, Tryz.ntmps86
  go_wp2_with fail
  go_ret
  exact ⟨rfl, rfl⟩
set_option maxRecDepth 100000 in
theorem trKind_not (w : World) : Calls Tryz.prog 86 #[.bool false] w fun e w' => e = .returned (.int .i64 2) ∧ w = w' := by
  go_enter Tryz.func86, Tryz.ntmps86
  go_wp2_with fail
  go_ret
  exact ⟨rfl, rfl⟩
/-- The kind of page that a node is in. -/
def kindOf (leaf : Bool) : Nat := if leaf then 1 else 2
theorem trKind_any (leaf : Bool) (w : World) : Calls Tryz.prog 86 #[.bool leaf] w fun e w' => e = .returned (.int .i64 (kindOf leaf : Nat)) ∧ w = w' := by
  cases leaf
  · exact trKind_not w
  · exact trKind_leaf w
set_option maxRecDepth 100000 in
theorem trGet_nil (v : Value) (w : World) : Calls Tryz.prog 27 #[.pointer none, v] w fun e w' => e = .returned (.tuple #[.slice none 0 0, .bool false, .int .i64 1]) ∧ w = w' := by
  go_enter Tryz.func27, Tryz.ntmps27
  go_wp2_with fail
  go_ret3
  exact ⟨rfl, rfl⟩
set_option maxRecDepth 100000 in
theorem trScan_nil (a b : Value) (n : Int) (w : World) : Calls Tryz.prog 15 #[.pointer none, a, b, .int .i64 n] w fun e w' => e = .returned (.tuple #[.slice none 0 0, .int .i64 1]) ∧ w = w' := by
  go_enter Tryz.func15, Tryz.ntmps15
  go_wp2_with fail
  go_ret2
  exact ⟨rfl, rfl⟩
set_option maxRecDepth 100000 in
theorem trPut_nil (A1 : Option Addr) (n1 c1 : Nat) (A2 : Option Addr) (n2 c2 : Nat) (w : World) : Calls Tryz.prog 23 #[.pointer none, .slice A1 n1 c1, .slice A2 n2 c2] w fun e w' => e = .returned (.int .i64 1) ∧ Below w.heap.size w w' := by
  go_enter Tryz.func23, Tryz.ntmps23
  go_wp2_with fail
  go_ret
  exact ⟨rfl, ((Below.refl _ _).alloc (Nat.le_refl _) _).alloc (by simp) _⟩
set_option maxRecDepth 100000 in
theorem trDelete_nil (A : Option Addr) (n c : Nat) (w : World) : Calls Tryz.prog 24 #[.pointer none, .slice A n c] w fun e w' => e = .returned (.tuple #[.bool false, .int .i64 1]) ∧ Below w.heap.size w w' := by
  go_enter Tryz.func24, Tryz.ntmps24
  go_wp2_with fail
  go_ret2
  exact ⟨rfl, ((Below.refl _ _).alloc (Nat.le_refl _) _)⟩
set_option maxRecDepth 100000 in
/-- Whether a leaf may have a key and a value. -/
theorem trMayBe_any {w : World} {kv vv : Value} {key val : List UInt8} (hk : Rd w w.heap.size kv (cellsB key)) (hv : Rd w w.heap.size vv (cellsB val)) :
    Calls Tryz.prog 52 #[kv, vv] w fun e w' => e = .returned (.bool (sndB ⟨true, [key], [val], []⟩)) ∧ Below w.heap.size w w' := by
  obtain ⟨A1, c1, rfl, -⟩ := hk.bytes
  obtain ⟨A2, c2, rfl, -⟩ := hv.bytes
  have h1 := RdAll.lit1 w 31 _ key hk
  have h2 := RdAll.lit1 (w.alloc (.cells #[.slice A1 key.length c1] 31)) 31 _ val ((hv.alloc (Nat.le_refl _) _).more (by simp))
  have hn : NdIs ((w.alloc (.cells #[.slice A1 key.length c1] 31)).alloc (.cells #[.slice A2 val.length c2] 31)) (w.heap.size + 1 + 1) (.slice (some ⟨w.heap.size, 0, none⟩) 1 1) (.slice (some ⟨w.heap.size + 1, 0, none⟩) 1 1) (.slice none 0 0) ⟨true, [key], [val], []⟩ :=
    ⟨(h1.alloc (by simp) _).more (Nat.le_succ _), by simpa using h2, Rd.nil _ _⟩
  have hs := Lib.hid (sound_any hn (by simp) ⟨by simp, by simp, by simp⟩)
  clear h1 h2 hn hk hv
  go_enter Tryz.func52, Tryz.ntmps52
  go_wp2_with (go_at_call 76; refine hs.out.mono ?_; rintro e w' ⟨rfl, hb⟩; have HB := Lib.hid hb; clear hb)
  go_ret
  exact ⟨rfl, up (((Below.refl _ _).alloc (Nat.le_refl _) _).alloc (by simp) _) HB.out⟩
end Go.Proofs.YtnmokkkbghlpbaaGreat
/-
  (XBase ahead of it: for seats whose laws use Few.) The functions of package num, by contracts: what each returns, in bytes, and that nothing that was there is changed.
-/
namespace Go.Proofs.YtnmokkkbghlpbaaGreat
open Go.RowKit


/-- The k lowest bytes of n, the highest first. -/
def be : Nat → Nat → List UInt8
  | 0, _ => []
  | k + 1, n => be k (n / 256) ++ [UInt8.ofNat n]
theorem be_length : ∀ (k n : Nat), (be k n).length = k
  | 0, _ => rfl
  | k + 1, n => by simp [be, be_length k]
theorem be_cons : ∀ (k n : Nat), be (k + 1) n = UInt8.ofNat (n / 256 ^ k) :: be k n
  | 0, n => by simp [be]
  | k + 1, n => by
    rw [be, be_cons k (n / 256), be, Nat.div_div_eq_div_mul, ← Nat.pow_succ']
    rfl

set_option maxRecDepth 100000 in
set_option maxHeartbeats 400000 in
theorem size_yes (s : Int) (w : World) (h1 : 1 ≤ s) (h2 : s ≤ 8) : Calls Tryz.prog 175 #[.int .i64 s] w fun e w' => e = .returned (.bool true) ∧ w = w' := by
  go_enter Tryz.func175, Tryz.ntmps175
  go_wp2
  go_ret
  exact ⟨rfl, rfl⟩
set_option maxRecDepth 100000 in
set_option maxHeartbeats 400000 in
theorem size_no (s : Int) (w : World) (h : s < 1 ∨ 8 < s) : Calls Tryz.prog 175 #[.int .i64 s] w fun e w' => e = .returned (.bool false) ∧ w = w' := by
  rcases h with h | h
  · have hb : decide (1 ≤ s) = false := by simp; omega
    go_enter Tryz.func175, Tryz.ntmps175
    go_wp2
    go_ret
    exact ⟨rfl, rfl⟩
  · have hb : decide (s ≤ 8) = false := by simp; omega
    go_enter Tryz.func175, Tryz.ntmps175
    go_wp2
    go_ret
    exact ⟨rfl, rfl⟩
set_option maxRecDepth 100000 in
set_option maxHeartbeats 400000 in
theorem within_yes (A : Option Addr) (n c : Nat) (at_ s : Int) (w : World) (hn : n ≤ 9223372036854775807) (h1 : 0 ≤ at_) (h2 : 0 ≤ s) (h3 : at_ + s ≤ n) :
    Calls Tryz.prog 176 #[.slice A n c, .int .i64 at_, .int .i64 s] w fun e w' => e = .returned (.bool true) ∧ w = w' := by
  have h4 : s ≤ n - at_ := by omega
  go_enter Tryz.func176, Tryz.ntmps176
  go_wp2
  go_ret
  exact ⟨rfl, rfl⟩
set_option maxRecDepth 100000 in
set_option maxHeartbeats 400000 in
theorem within_no (A : Option Addr) (n c : Nat) (at_ s : Int) (w : World) (hn : n ≤ 9223372036854775807) (hat : at_ ≤ 9223372036854775807) (h : at_ < 0 ∨ s < 0 ∨ (n : Int) < at_ + s) :
    Calls Tryz.prog 176 #[.slice A n c, .int .i64 at_, .int .i64 s] w fun e w' => e = .returned (.bool false) ∧ w = w' := by
  by_cases h1 : at_ < 0
  · go_enter Tryz.func176, Tryz.ntmps176
    go_wp2
    go_ret
    exact ⟨rfl, rfl⟩
  · by_cases h2 : s < 0
    · go_enter Tryz.func176, Tryz.ntmps176
      go_wp2
      go_ret
      exact ⟨rfl, rfl⟩
    · have h3 : decide (s ≤ (n : Int) - at_) = false := by simp; omega
      clear h
      go_enter Tryz.func176, Tryz.ntmps176
      go_wp2
      go_ret
      exact ⟨rfl, rfl⟩

set_option maxRecDepth 100000 in
set_option maxHeartbeats 400000 in
theorem bytes_any (A : Option Addr) (n c : Nat) (ls : List (List UInt8)) (w : World) (B : Nat) (hr : RdAll w B (.slice A n c) ls) (hB : B ≤ w.heap.size) (hsum : ls.flatten.length ≤ 1000000000) :
    Calls Tryz.prog 137 #[.slice A n c] w fun e w' => ∃ v', e = .returned v' ∧ Mine w' w.heap.size 5 v' (cellsB ls.flatten) ∧ Below w.heap.size w w' := by
  obtain ⟨i, hi, hz0, hz1, hz2⟩ := info_parts info_u8
  obtain ⟨hl, hnc, hcm⟩ := hr.len
  have Hl := Lib.hid hl
  clear hl
  go_enter Tryz.func137, Tryz.ntmps137
  go_wp2_with fail
  go_loop [3, 11] (fun t i => ∃ k : Nat, k ≤ n ∧ i = .int .i64 k ∧ t = .int .i64 (upTo ls k).length) (fun _ i => n - (intOf i).toNat)
  case atStart => exact ⟨0, Nat.zero_le _, rfl, by rw [upTo_zero]; rfl⟩
  case round =>
    obtain ⟨k, hk, rfl, rfl⟩ := hrel
    by_cases hlt : k < n
    · obtain ⟨b, o, A', c', hkl, rfl, hb, hc, hp⟩ := hr.at_ hlt
      have hs := upTo_succ ls k hkl
      have hs' : (upTo ls (k+1)).length = (upTo ls k).length + ls[k].length := by rw [hs, List.length_append]
      have hle := upTo_le ls (k + 1)
      have hb1 : (upTo ls k).length + ls[k].length ≤ 1000000000 := by omega
      have Hs := Lib.hid hs'
      clear hs hs' hle
      go_wp2_with fail
      go_round
      case rel => exact ⟨k + 1, by omega, by go_num, by rw [Hs.out]; go_num⟩
      case measure => simp [intOf]; omega
    · have : k = n := by omega
      subst this
      have hle := upTo_le ls k
      by_cases hz : (upTo ls k).length = 0
      · have hz' : (((upTo ls k).length : Int) == 0) = true := by rw [hz]; rfl
        have Hz := Lib.hid hz
        clear hz
        go_wp2_with fail
        go_ret
        have hnil : cellsB ls.flatten = [] := by
          have e := upTo_all ls
          rw [← Hl.out] at e
          rw [← e, List.eq_nil_of_length_eq_zero Hz.out]; rfl
        refine ⟨_, rfl, ?_, Below.refl _ _⟩
        rw [hnil]
        exact Mine.nil _ _ _
      · have hz' : (((upTo ls k).length : Int) == 0) = false := by rw [beq_eq_false_iff_ne]; omega
        go_wp2_with (at_make; refine wpList_make_own _ rfl _ _ 31 rfl w.heap.size 5 i _ 1 Tryz.underlying31 hi hz0 hz1 _ _ _ (upTo ls k).length rfl rfl rfl (by rw [hz2]; omega) (by unfold maxLen; omega) (Nat.le_refl _) ?_; intro w1 hown hgr)
        have hbel : Below w.heap.size w w1 := (Below.refl _ _).grown hgr (Nat.le_refl _) (fun k h => by cases h)
        go_loopw [6, 26] (fun v i wr => ∃ j : Nat, j ≤ k ∧ i = .int .i64 j ∧ Mine wr w.heap.size 5 v (cellsB (upTo ls j)) ∧ Below w.heap.size w wr) (fun _ i _ => k - (intOf i).toNat)
        case atStart => exact ⟨0, Nat.zero_le _, rfl, by rw [upTo_zero]; exact hown, hbel⟩
        case round =>
          obtain ⟨j, hj, rfl, hown1, hbel1⟩ := hrel
          by_cases hlt : j < k
          · obtain ⟨b, o, A', c', hkl, rfl, hb, hc, hp⟩ := (hr.below (hbel1.mono hB)).at_ hlt
            have hs := upTo_succ ls j hkl
            have hs' : (upTo ls (j+1)).length = (upTo ls j).length + ls[j].length := by rw [hs, List.length_append]
            have hle := upTo_le ls (j + 1)
            have hb1 : (upTo ls j).length + ls[j].length ≤ 1000000000 := by omega
            have Hs := Lib.hid hs
            clear hs hs' hle
            have hsz := hbel1.size
            go_wp2_with (at_builtin; refine wpList_append_rd rfl _ _ 31 rfl w.heap.size 5 i _ 1 Tryz.underlying31 hi hz0 hz1 hz2 rfl _ _ rfl hown1 B _ _ rfl hp (cellsB_one _) (by rw [cellsB_length, cellsB_length]; omega) (by unfold maxLen; rw [cellsB_length, cellsB_length]; omega) (by omega) ?_; intro v' w2 hown2 hbel2 _ _)
            go_roundw
            case rel => exact ⟨j + 1, by omega, by go_num, by rw [Hs.out, cellsB_append]; exact hown2, hbel1.trans hbel2⟩
            case measure => simp [intOf]; omega
          · have : j = k := by omega
            subst this
            go_wp2_with fail
            go_ret
            refine ⟨_, rfl, ?_, hbel1⟩
            have e := upTo_all ls
            rw [← Hl.out] at e
            rw [← e]
            exact hown1

/-- Bytes of one part. -/
theorem bytes_one (a : Value) (l : List UInt8) (e : TypeId) (w : World) (B : Nat) (hr : Rd w B a (cellsB l)) (hB : B ≤ w.heap.size) (hl : l.length ≤ 1000000000) :
    Calls Tryz.prog 137 #[.slice (some ⟨w.heap.size, 0, none⟩) 1 1] (w.alloc (.cells #[a] e)) fun e w' => ∃ v', e = .returned v' ∧ Mine w' w.heap.size 5 v' (cellsB l) ∧ Below w.heap.size w w' := by
  refine (bytes_any _ 1 1 [l] _ (w.heap.size + 1) (RdAll.lit1 w e a l (hr.more hB)) (by simp) (by simpa using hl)).mono ?_
  rintro e w' ⟨v', rfl, h1, h2⟩
  refine ⟨v', rfl, ?_, ((Below.refl _ _).alloc (Nat.le_refl _) _).trans (h2.mono (by simp))⟩
  have := h1.weaken (base' := w.heap.size) (by simp)
  simpa using this
/-- Bytes of two parts. -/
theorem bytes_two (a b : Value) (l m : List UInt8) (e : TypeId) (w : World) (B : Nat) (hr : Rd w B a (cellsB l)) (hr2 : Rd w B b (cellsB m)) (hB : B ≤ w.heap.size) (hl : l.length + m.length ≤ 1000000000) :
    Calls Tryz.prog 137 #[.slice (some ⟨w.heap.size, 0, none⟩) 2 2] (w.alloc (.cells #[a, b] e)) fun e w' => ∃ v', e = .returned v' ∧ Mine w' w.heap.size 5 v' (cellsB (l ++ m)) ∧ Below w.heap.size w w' := by
  refine (bytes_any _ 2 2 [l, m] _ (w.heap.size + 1) (RdAll.lit2 w e a b l m (hr.more hB) (hr2.more hB)) (by simp) (by simpa using hl)).mono ?_
  rintro e w' ⟨v', rfl, h1, h2⟩
  refine ⟨v', rfl, ?_, ((Below.refl _ _).alloc (Nat.le_refl _) _).trans (h2.mono (by simp))⟩
  have := h1.weaken (base' := w.heap.size) (by simp)
  simpa using this

theorem low_zero (size n : Nat) : (madeCells (Value.int IntKind.u8 0).cells (size * 1)).toList = cellsB (List.replicate (size - 0) 0 ++ be 0 n) := by
  have e : (Value.int IntKind.u8 0).cells = #[Value.int IntKind.u8 0] := rfl
  rw [e, Nat.mul_one, toList_madeCells_one]
  simp [cellsB, be]
theorem set_at {α : Type} (m : Nat) (a x : α) (r : List α) : (List.replicate (m + 1) a ++ r).set m x = List.replicate m a ++ x :: r := by
  rw [List.replicate_succ', List.append_assoc, List.set_append_right _ _ (by simp)]
  simp
theorem byte_mod (q : Nat) : Value.int .u8 ((q : Int) % 256) = Value.int .u8 ((UInt8.ofNat q).toNat : Int) := by
  simp
theorem low_set (size j n q m : Nat) (hm : (size : Int) - j - 1 = (m : Int)) (hq : q = n / 256 ^ j) :
    (cellsB (List.replicate (size - j) 0 ++ be j n)).set m (.int .u8 ((q : Int) % 256)) = cellsB (List.replicate (size - (j + 1)) 0 ++ be (j + 1) n) := by
  have e1 : size - j = m + 1 := by omega
  have e2 : size - (j + 1) = m := by omega
  rw [e1, e2, be_cons, ← hq, byte_mod, ← set_at m 0 (UInt8.ofNat q) (be j n)]
  unfold cellsB
  rw [List.map_set]
theorem low_at (size j n m : Nat) (hm : (size : Int) - j - 1 = (m : Int)) : (cellsB (List.replicate (size - j) 0 ++ be j n))[m]? = some (.int .u8 0) := by
  have e1 : size - j = m + 1 := by omega
  rw [e1, cellsB_at _ _ (by simp; omega), List.getElem_append_left (by simp)]
  simp

set_option maxRecDepth 100000 in
set_option maxHeartbeats 400000 in
theorem put_yes (A : Option Addr) (c : Nat) (l : List UInt8) (n size : Nat) (w : World) (B : Nat) (hr : Rd w B (.slice A l.length c) (cellsB l)) (hB : B ≤ w.heap.size) (hl : l.length ≤ 100000000)
   (h1 : 1 ≤ size) (h2 : size ≤ 8) :
    Calls Tryz.prog 178 #[.slice A l.length c, .int .u64 n, .int .i64 size] w fun e w' => ∃ v', e = .returned v' ∧ Mine w' w.heap.size 5 v' (cellsB (l ++ be size n)) ∧ Below w.heap.size w w' := by
  obtain ⟨i, hi, hz0, hz1, hz2⟩ := info_parts info_u8
  go_enter Tryz.func178, Tryz.ntmps178
  go_wp2_with (first | (go_at_call 175; refine (size_yes _ _ (by omega) (by omega)).mono ?_; rintro e w' ⟨rfl, rfl⟩) | (at_make; refine wpList_make_full _ rfl _ _ 31 rfl w.heap.size 5 i _ 1 Tryz.underlying31 hi hz0 hz1 _ _ _ _ size rfl rfl rfl rfl (by rw [hz2]; omega) (by unfold maxLen; omega) (Nat.le_refl _) ?_; intro w1 hown hgr))
  have hbel : Below w.heap.size w w1 := (Below.refl _ _).grown hgr (Nat.le_refl _) (fun k h => by cases h)
  have hg : w.heap.size < w1.heap.size := (World.ownsRow.lt hown _ rfl).2
  obtain ⟨g, hge⟩ : ∃ g, g = w.heap.size := ⟨_, rfl⟩
  rw [← hge] at hown hg hbel hB ⊢
  have Hge := Lib.hid hge
  clear hge hgr
  go_loopw [1, 8] (fun nv iv wr => ∃ j q : Nat, j ≤ size ∧ iv = .int .i64 ((size : Int) - j - 1) ∧ nv = .int .u64 (q : Int) ∧ q = n / 256 ^ j ∧ Mine wr g 5 (.slice (some ⟨g, 0, none⟩) size size) (cellsB (List.replicate (size - j) 0 ++ be j n)) ∧ Below g w wr) (fun _ i _ => (intOf i + 1).toNat)
  case atStart =>
    refine ⟨0, n, Nat.zero_le _, by simp, by simp, by simp, ?_, hbel⟩
    rw [low_zero size n] at hown
    exact Mine.of_own hown
  case round =>
    obtain ⟨j, q, hj, rfl, rfl, hq, hown1, hbel1⟩ := hrel
    have Hq := Lib.hid hq
    clear hq
    by_cases hlt : j < size
    · obtain ⟨m, hm⟩ : ∃ m : Nat, ((size:Int) - j - 1) = (m : Int) := ⟨size - j - 1, by omega⟩
      have hms : m < size := by omega
      rw [hm]
      have hce : wr.cell? ⟨g, m, none⟩ = some (.int .u8 0) := hown1.cellAt (low_at size j n m hm)
      have hfr : wr.frozen? ⟨g, m, none⟩ = false := hown1.free m
      have Hm := Lib.hid hm
      clear hm
      go_wp2_with fail
      go_roundw
      case rel =>
        refine ⟨j + 1, q / 256, by omega, ?_, ?_, ?_, ?_, ?_⟩
        · have := Hm.out; go_num
        · go_num
        · rw [Hq.out, Nat.div_div_eq_div_mul, Nat.pow_succ]
        · rw [← low_set size j n q m Hm.out Hq.out]
          exact hown1.stored m _
        · exact hbel1.setCell (Nat.le_refl _) _
      case measure => simp [intOf]
    · have : j = size := by omega
      subst this
      rw [Nat.sub_self] at hown1
      have hs := hbel1.size
      have hlt2 := hown1.lt
      go_wp2_with (go_at_call 137; refine (bytes_two _ _ l (be j n) _ _ wr.heap.size ((hr.below (hbel1.mono hB)).more (by omega)) hown1.rd (Nat.le_refl _) (by rw [be_length]; omega)).mono ?_; rintro e w' ⟨v', rfl, hown2, hbel2⟩)
      go_ret
      refine ⟨v', rfl, ?_, ?_⟩
      · exact hown2.weaken hs
      · rw [← Hge.out]
        exact hbel1.trans (hbel2.mono (by omega))

set_option maxRecDepth 100000 in
set_option maxHeartbeats 400000 in
theorem put_no (A : Option Addr) (c : Nat) (l : List UInt8) (n s : Int) (w : World) (B : Nat) (hr : Rd w B (.slice A l.length c) (cellsB l)) (hB : B ≤ w.heap.size) (hl : l.length ≤ 100000000)
   (h : s < 1 ∨ 8 < s) :
    Calls Tryz.prog 178 #[.slice A l.length c, .int .u64 n, .int .i64 s] w fun e w' => ∃ v', e = .returned v' ∧ Mine w' w.heap.size 5 v' (cellsB l) ∧ Below w.heap.size w w' := by
  have hno := fun W => size_no s W h
  have Hno := Lib.hid hno
  clear hno h
  go_enter Tryz.func178, Tryz.ntmps178
  go_wp2_with (first | (go_at_call 175; refine (Hno.out _).mono ?_; rintro e w' ⟨rfl, rfl⟩) | (go_at_call 137; refine (bytes_one _ l _ w B hr hB (by omega)).mono ?_; rintro e w' ⟨v', rfl, hown2, hbel2⟩))
  go_ret
  exact ⟨v', rfl, hown2, hbel2⟩

/-- The number that bytes say, the highest first. -/
def ofBe : List UInt8 → Nat → Nat
  | [], n => n
  | b :: l, n => ofBe l (n * 256 + b.toNat)
theorem ofBe_snoc : ∀ (l : List UInt8) (x : UInt8) (n : Nat), ofBe (l ++ [x]) n = ofBe l n * 256 + x.toNat
  | [], _, _ => rfl
  | b :: l, x, n => ofBe_snoc l x (n * 256 + b.toNat)
theorem ofBe_lt : ∀ (l : List UInt8) (n m : Nat), n < 256 ^ m → ofBe l n < 256 ^ (m + l.length)
  | [], _, _, h => h
  | b :: l, n, m, h => by
    have hb := b.toNat_lt
    have h1 : n * 256 + b.toNat < 256 ^ (m + 1) := by rw [Nat.pow_succ]; omega
    have := ofBe_lt l _ (m + 1) h1
    rw [List.length_cons, show m + (l.length + 1) = m + 1 + l.length from by omega]
    exact this
theorem ofBe_small (l : List UInt8) (h : l.length ≤ 8) : ofBe l 0 < 18446744073709551616 := by
  have h1 := ofBe_lt l 0 0 (by decide)
  have h2 : 256 ^ (0 + l.length) ≤ 256 ^ 8 := Nat.pow_le_pow_right (by decide) (by omega)
  have h3 : (256 : Nat) ^ 8 = 18446744073709551616 := by decide
  omega
theorem ofBe_less (l : List UInt8) (h : l.length ≤ 7) : ofBe l 0 < 72057594037927936 := by
  have h1 := ofBe_lt l 0 0 (by decide)
  have h2 : 256 ^ (0 + l.length) ≤ 256 ^ 7 := Nat.pow_le_pow_right (by decide) (by omega)
  have h3 : (256 : Nat) ^ 7 = 72057594037927936 := by decide
  omega
/-- One more byte, by a shift and an or. -/
theorem or_step (q x : Nat) (hq : q < 72057594037927936) (hx : x < 256) : bits BinOp.or IntKind.u64 (IntKind.u64.wrap ((q : Int) * 256)) (x : Int) = ((q * 256 + x : Nat) : Int) := by
  have e : IntKind.u64.wrap ((q : Int) * 256) = ((q * 256 : Nat) : Int) := by
    rw [IntWalk.u64_in _ (by omega)]; simp
  rw [e, u64_or_nat _ _ (by omega) (by omega)]
  have h := Nat.two_pow_add_eq_or_of_lt (i := 8) (b := x) (by omega) q
  rw [Nat.mul_comm q 256]
  exact congrArg _ h.symm
/-- One more byte, by a product and a sum. -/
theorem sum_step (q x : Nat) (hq : q < 72057594037927936) (hx : x < 256) : IntKind.u64.wrap (IntKind.u64.wrap ((q : Int) * 256) + (x : Int)) = ((q * 256 + x : Nat) : Int) := by
  rw [IntWalk.u64_in ((q : Int) * 256) (by omega), IntWalk.u64_in _ (by omega)]; simp
/-- The bytes of a part, one more. -/
theorem seg_succ (l : List UInt8) (a s k : Nat) (h : k < s) (h2 : a + s ≤ l.length) : ((l.drop a).take s).take (k + 1) = ((l.drop a).take s).take k ++ [l[a + k]'(by omega)] := by
  have hk : k < ((l.drop a).take s).length := by simp; omega
  rw [List.take_succ_eq_append_getElem hk]
  simp
theorem seg_len (l : List UInt8) (a s k : Nat) : (((l.drop a).take s).take k).length ≤ k := by simp; omega

set_option maxRecDepth 100000 in
set_option maxHeartbeats 400000 in
theorem get_yes (A : Option Addr) (c : Nat) (l : List UInt8) (a s : Nat) (w : World) (B : Nat) (hr : Rd w B (.slice A l.length c) (cellsB l))
   (h1 : 1 ≤ s) (h2 : s ≤ 8) (h3 : a + s ≤ l.length) :
    Calls Tryz.prog 141 #[.slice A l.length c, .int .i64 (a : Int), .int .i64 (s : Int)] w fun e w' => e = .returned (.tuple #[.int .u64 (ofBe ((l.drop a).take s) 0 : Nat), .bool true]) ∧ w = w' := by
  obtain ⟨b, o, rfl, hb, hc⟩ := hr.addr (by omega)
  obtain ⟨_, _, e, g1, g2, _⟩ := hr.bytes
  injection e with e1 e2 e3
  subst e3
  clear e1 e2
  have hca : ¬ c = a := by omega
  go_enter Tryz.func141, Tryz.ntmps141
  go_wp2_with (first | (go_at_call 175; refine (size_yes _ _ (by omega) (by omega)).mono ?_; rintro e w' ⟨rfl, rfl⟩) | (go_at_call 176; refine (within_yes _ _ _ _ _ _ (by omega) (by omega) (by omega) (by omega)).mono ?_; rintro e w' ⟨rfl, rfl⟩))
  go_loop [8, 28] (fun nv iv => ∃ k q : Nat, k ≤ s ∧ iv = .int .i64 k ∧ nv = .int .u64 (q : Int) ∧ q = ofBe (((l.drop a).take s).take k) 0) (fun _ i => s - (intOf i).toNat)
  case atStart => exact ⟨0, 0, Nat.zero_le _, rfl, rfl, rfl⟩
  case round =>
    obtain ⟨k, q, hk, rfl, rfl, hq⟩ := hrel
    have Hq := Lib.hid hq
    clear hq
    by_cases hlt : k < s
    · have hcell := hc (a + k) (by omega)
      rw [← Nat.add_assoc] at hcell
      obtain ⟨x, hx⟩ : ∃ x, x = l[a + k]'(by omega) := ⟨_, rfl⟩
      rw [← hx] at hcell
      have Hx := Lib.hid hx
      clear hx
      have hx1 : (x.toNat : Int) < 256 := by have := x.toNat_lt; omega
      go_wp2_with fail
      go_round
      case rel =>
        have hq7 : q < 72057594037927936 := by
          rw [Hq.out]
          exact ofBe_less _ (by have := seg_len l a s k; omega)
        refine ⟨k + 1, q * 256 + x.toNat, by omega, by go_num, ?_, ?_⟩
        · rw [or_step q x.toNat hq7 (by omega)]
        · rw [seg_succ l a s k hlt h3, ofBe_snoc, ← Hq.out, Hx.out]
      case measure => simp [intOf]; omega
    · have : k = s := by omega
      subst this
      go_wp2_with fail
      go_ret2
      have e := Hq.out
      rw [List.take_take, Nat.min_self] at e
      rw [← e]
      exact ⟨rfl, rfl⟩
set_option maxRecDepth 100000 in
set_option maxHeartbeats 400000 in
theorem get_no (A : Option Addr) (n c : Nat) (a s : Int) (w : World) (hn : n ≤ 9223372036854775807) (hat : a ≤ 9223372036854775807) (h : (s < 1 ∨ 8 < s) ∨ a < 0 ∨ (n : Int) < a + s) :
    Calls Tryz.prog 141 #[.slice A n c, .int .i64 a, .int .i64 s] w fun e w' => e = .returned (.tuple #[.int .u64 0, .bool false]) ∧ w = w' := by
  by_cases hs : s < 1 ∨ 8 < s
  · have hno := fun W => size_no s W hs
    have Hno := Lib.hid hno
    clear hno h hs
    go_enter Tryz.func141, Tryz.ntmps141
    go_wp2_with (go_at_call 175; refine (Hno.out _).mono ?_; rintro e w' ⟨rfl, rfl⟩)
    go_ret2
    exact ⟨rfl, rfl⟩
  · have hno := fun W => size_yes s W (by omega) (by omega)
    have Hno := Lib.hid hno
    have hw := fun W => within_no A n c a s W hn hat (by omega)
    have Hw := Lib.hid hw
    clear hno h hs hw
    go_enter Tryz.func141, Tryz.ntmps141
    go_wp2_with (first | (go_at_call 175; refine (Hno.out _).mono ?_; rintro e w' ⟨rfl, rfl⟩) | (go_at_call 176; refine (Hw.out _).mono ?_; rintro e w' ⟨rfl, rfl⟩))
    go_ret2
    exact ⟨rfl, rfl⟩

/-- There and back. -/
theorem ofBe_be : ∀ (k n m : Nat), ofBe (be k n) m = m * 256 ^ k + n % 256 ^ k
  | 0, n, m => by simp [be, ofBe, Nat.mod_one]
  | k + 1, n, m => by
    have e : n % 256 ^ (k + 1) = n % 256 + 256 * (n / 256 % 256 ^ k) := by rw [Nat.pow_succ', Nat.mod_mul]
    have e2 : (UInt8.ofNat n).toNat = n % 256 := UInt8.toNat_ofNat'
    rw [be, ofBe_snoc, ofBe_be k (n / 256) m, e, e2, Nat.pow_succ, Nat.add_mul, ← Nat.mul_assoc]
    omega
end Go.Proofs.YtnmokkkbghlpbaaGreat
