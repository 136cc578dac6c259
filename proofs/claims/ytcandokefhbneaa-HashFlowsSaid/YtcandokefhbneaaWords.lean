/-
  Words and laws over any program: a slice that reads as a list of cells ('Rd'), a slice that the call owns ('Mine'), append from the one onto the other, a slice of bytes made a string. No Go text is spoken of here.
-/
import Derived.WalkKit
import Derived.WalkSpells
import Derived.Maps.AppendAt
import Derived.Deep.Draws
namespace Go.Proofs.Ytcandokefhbneaa
open Go.RowKit

/-- A fact kept wholly out of the walk's sight: nothing looks behind a structure (a bound with a great numeral behind 'Hid' is still counted up). -/
structure Kept (p : Prop) : Prop where
  out : p
/-- The cells of bytes. -/
def cellsB (l : List UInt8) : List Value := l.map fun b => Value.int .u8 (b.toNat : Int)
theorem cellsB_length (l : List UInt8) : (cellsB l).length = l.length := by simp [cellsB]
theorem cellsB_append (l m : List UInt8) : cellsB (l ++ m) = cellsB l ++ cellsB m := by simp [cellsB]
theorem cellsB_take (l : List UInt8) (k : Nat) : (cellsB l).take k = cellsB (l.take k) := by simp [cellsB]
theorem cellsB_drop (l : List UInt8) (k : Nat) : (cellsB l).drop k = cellsB (l.drop k) := by simp [cellsB]
theorem cellsB_nil : cellsB [] = [] := rfl
theorem cellsB_at (l : List UInt8) (k : Nat) (h : k < l.length) : (cellsB l)[k]? = some (.int .u8 (l[k].toNat : Int)) := by simp [cellsB, h]
theorem cellsB_one (l : List UInt8) : ∀ u ∈ cellsB l, u.oneCell' = true := by
  intro u hu
  obtain ⟨_, _, rfl⟩ := List.mem_map.1 hu
  rfl

/-- In world w the slice value v has the cells xs (one cell an element), in a block below B. -/
def Rd (w : World) (B : Nat) (v : Value) (xs : List Value) : Prop :=
  ∃ A c, v = .slice A xs.length c ∧ xs.length ≤ c ∧ c ≤ maxLen ∧ (A = none → c = 0) ∧
    (0 < xs.length → ∃ b o, A = some ⟨b, o, none⟩ ∧ b < B ∧ ∀ j u, xs[j]? = some u → w.cell? ⟨b, o + j, none⟩ = some u)

/-- The call owns the cells xs by the slice value v, in a block from base on. -/
def Mine (w : World) (base : Nat) (e : TypeId) (v : Value) (xs : List Value) : Prop := w.ownsRow base e 1 v xs.length xs

section
variable {w w' : World} {B B' base : Nat} {v : Value} {xs : List Value} {e : TypeId}

theorem Rd.keep (h : Rd w B v xs) (hk : ∀ p : Addr, p.block < B → w'.cell? p = w.cell? p) : Rd w' B v xs := by
  obtain ⟨A, c, rfl, h1, h2, h3, h4⟩ := h
  refine ⟨A, c, rfl, h1, h2, h3, fun hp => ?_⟩
  obtain ⟨b, o, rfl, hb, hc⟩ := h4 hp
  exact ⟨b, o, rfl, hb, fun j u hu => (hk _ hb).trans (hc j u hu)⟩
theorem Rd.more (h : Rd w B v xs) (hB : B ≤ B') : Rd w B' v xs := by
  obtain ⟨A, c, rfl, h1, h2, h3, h4⟩ := h
  refine ⟨A, c, rfl, h1, h2, h3, fun hp => ?_⟩
  obtain ⟨b, o, rfl, hb, hc⟩ := h4 hp
  exact ⟨b, o, rfl, by omega, hc⟩
theorem Rd.below (h : Rd w B v xs) (hb : Below B w w') : Rd w' B v xs := h.keep fun _ hp => hb.cell hp
theorem Rd.drew (h : Rd w B v xs) : Rd w.drew B v xs := h
theorem Rd.drewN (h : Rd w B v xs) (k : Nat) : Rd (w.drewN k) B v xs := h
theorem Rd.alloc (h : Rd w B v xs) (hB : B ≤ w.heap.size) (o : Obj) : Rd (w.alloc o) B v xs := h.keep fun p hp => World.cell?_alloc_lt w o p (by omega)
theorem Rd.setCell (h : Rd w B v xs) {p : Addr} (hB : B ≤ p.block) (u : Value) : Rd (w.setCell p u) B v xs :=
  h.keep fun q hq => World.cell?_setCell_other w p q u (fun e => by subst e; omega)
theorem Rd.grown (h : Rd w B v xs) {row : Option Nat} (hg : w.grownBy w' row) (hB : B ≤ w.heap.size) (hr : ∀ g, row = some g → B ≤ g) : Rd w' B v xs :=
  h.keep fun p hp => World.cell?_of_block (hg.block p.block (by omega) (fun e => by have := hr _ e.symm; omega))
theorem Rd.nil (w : World) (B : Nat) : Rd w B (.slice none 0 0) [] := ⟨none, 0, rfl, Nat.le_refl _, Nat.zero_le _, fun _ => rfl, fun h => absurd h (by simp)⟩

/-- v[lo:hi]. -/
theorem Rd.cut {A : Option Addr} {n c : Nat} (h : Rd w B (.slice A n c) xs) {lo hi : Nat} (h1 : lo ≤ hi) (h2 : hi ≤ n) :
    Rd w B (.slice (if c = lo then A else A.map (·.add lo)) (hi - lo) (c - lo)) ((xs.take hi).drop lo) := by
  obtain ⟨A', c', e, g1, g2, g3, g4⟩ := h
  injection e with e1 e2 e3
  subst e1 e2 e3
  have hlen : ((xs.take hi).drop lo).length = hi - lo := by simp; omega
  refine ⟨_, _, by rw [hlen], by rw [hlen]; omega, by omega, ?_, fun hp => ?_⟩
  · intro hn
    have : A = none := by
      split at hn
      · exact hn
      · simpa using hn
    have := g3 this
    omega
  · rw [hlen] at hp
    obtain ⟨b, o, rfl, hb, hc⟩ := g4 (by omega)
    rw [if_neg (by omega)]
    refine ⟨b, o + lo, by simp [Addr.add_lit], hb, fun j u hu => ?_⟩
    have hj : j < hi - lo := by rw [← hlen]; exact (List.getElem?_eq_some_iff.1 hu).1
    rw [Nat.add_assoc]
    refine hc (lo + j) u ?_
    rw [List.getElem?_drop, List.getElem?_take, if_pos (by omega)] at hu
    exact hu

/-- v[:hi]. -/
theorem Rd.upto {A : Option Addr} {n c : Nat} (h : Rd w B (.slice A n c) xs) {hi : Nat} (h2 : hi ≤ n) : Rd w B (.slice A hi c) (xs.take hi) := by
  obtain ⟨A', c', e, g1, g2, g3, g4⟩ := h
  injection e with e1 e2 e3
  subst e1 e2 e3
  have hlen : (xs.take hi).length = hi := by simp; omega
  refine ⟨_, _, by rw [hlen], by rw [hlen]; omega, g2, g3, fun hp => ?_⟩
  rw [hlen] at hp
  obtain ⟨b, o, rfl, hb, hc⟩ := g4 (by omega)
  refine ⟨b, o, rfl, hb, fun j u hu => ?_⟩
  rw [List.getElem?_take] at hu
  split at hu
  · exact hc j u hu
  · cases hu
/-- Where a slice that is not empty lies. -/
theorem Rd.addr {A : Option Addr} {n c : Nat} {l : List UInt8} (h : Rd w B (.slice A n c) (cellsB l)) (hn : 0 < n) :
    ∃ b o, A = some ⟨b, o, none⟩ ∧ b < B ∧ ∀ (j : Nat) (h : j < l.length), w.cell? ⟨b, o + j, none⟩ = some (.int .u8 (l[j].toNat : Int)) := by
  obtain ⟨A', c', e, g1, g2, g3, g4⟩ := h
  injection e with e1 e2 e3
  subst e1 e2 e3
  obtain ⟨b, o, rfl, hb, hc⟩ := g4 hn
  exact ⟨b, o, rfl, hb, fun j hj => hc j _ (cellsB_at l j hj)⟩
/-- A slice of bytes, its parts laid open. -/
theorem Rd.bytes {l : List UInt8} (h : Rd w B v (cellsB l)) : ∃ A c, v = .slice A l.length c ∧ l.length ≤ c ∧ c ≤ 9223372036854775807 ∧ Rd w B (.slice A l.length c) (cellsB l) := by
  have h0 := h
  obtain ⟨A, c, rfl, g1, g2, _⟩ := h
  rw [cellsB_length] at *
  exact ⟨A, c, rfl, g1, by unfold maxLen at g2; omega, h0⟩
theorem Mine.rd (h : Mine w base e v xs) : Rd w w.heap.size v xs := by
  rcases h.2 with ⟨rfl, hn⟩ | ⟨g, cap, cur, rfl, hbg, hg, hnc, hcm, hcs, htake⟩
  · have : xs = [] := List.eq_nil_of_length_eq_zero hn
    subst this
    exact Rd.nil w _
  · refine ⟨_, _, rfl, hnc, hcm, (fun h => by cases h), fun _ => ⟨g, 0, rfl, (World.ownsRow.lt h g rfl).2, fun j u hu => ?_⟩⟩
    have := World.ownsRow.cells h (g := g) rfl j u hu
    simpa [Addr.add_lit] using this
theorem Mine.drew (h : Mine w base e v xs) : Mine w.drew base e v xs := h
theorem Mine.alloc (h : Mine w base e v xs) (o : Obj) : Mine (w.alloc o) base e v xs := World.ownsRow.alloc h o
theorem Mine.kept (h : Mine w base e v xs) (hb : Below w.heap.size w w') : Mine w' base e v xs := by
  have hlt := World.ownsRow.lt h
  refine ⟨h.1, ?_⟩
  rcases h.2 with ⟨rfl, hn⟩ | ⟨g, cap, cur, rfl, hbg, hg, hnc, hcm, hcs, htake⟩
  · exact .inl ⟨rfl, hn⟩
  · exact .inr ⟨g, cap, cur, rfl, hbg, (hb.block g (hlt g rfl).2).trans hg, hnc, hcm, hcs, htake⟩
theorem Mine.nil (w : World) (base : Nat) (e : TypeId) : Mine w base e (.slice none 0 0) [] := World.ownsRow_nil w base e 1
/-- '[]T{}'. -/
theorem Mine.empty (w : World) (base : Nat) (e : TypeId) (hb : base ≤ w.heap.size) : Mine (w.alloc (.cells #[] e)) base e (.slice (some ⟨w.heap.size, 0, none⟩) 0 0) [] :=
  World.ownsRow_lit w #[] 0 hb (Nat.zero_le _) rfl
theorem Mine.lit (w : World) (base : Nat) (e : TypeId) (cs : Array Value) (n : Nat) (hb : base ≤ w.heap.size) (hn : cs.size = n) (hm : n ≤ maxLen) :
    Mine (w.alloc (.cells cs e)) base e (.slice (some ⟨w.heap.size, 0, none⟩) n n) cs.toList := by
  subst hn
  unfold Mine
  rw [Array.length_toList]
  exact World.ownsRow_lit w cs cs.size hb hm (by simp)
theorem Mine.weaken (h : Mine w base e v xs) {base' : Nat} (hb : base' ≤ base) : Mine w base' e v xs := by
  refine ⟨h.1, ?_⟩
  rcases h.2 with ⟨rfl, hn⟩ | ⟨g, cap, cur, rfl, hbg, hg, hnc, hcm, hcs, htake⟩
  · exact .inl ⟨rfl, hn⟩
  · exact .inr ⟨g, cap, cur, rfl, by omega, hg, hnc, hcm, hcs, htake⟩
theorem Mine.cellAt {g n c : Nat} (h : Mine w base e (.slice (some ⟨g, 0, none⟩) n c) xs) {j : Nat} {u : Value} (hu : xs[j]? = some u) : w.cell? ⟨g, j, none⟩ = some u := by
  have := World.ownsRow.cells h (g := g) rfl j u hu
  simpa [Addr.add_lit] using this
theorem Mine.len {A : Option Addr} {n c : Nat} (h : Mine w base e (.slice A n c) xs) : n = xs.length := by
  rcases h.2 with ⟨e1, hn⟩ | ⟨g, cap, cur, e1, _⟩
  · injection e1 with e1 e2 e3
    omega
  · injection e1
theorem Mine.lt {g n c : Nat} (h : Mine w base e (.slice (some ⟨g, 0, none⟩) n c) xs) : base ≤ g ∧ g < w.heap.size := World.ownsRow.lt h g rfl
theorem Mine.free {g n c : Nat} (h : Mine w base e (.slice (some ⟨g, 0, none⟩) n c) xs) (j : Nat) : w.frozen? ⟨g, j, none⟩ = false := by
  have hn := h.len
  subst hn
  exact World.ownsRow.frozenAt h j
theorem Mine.stored {g n c : Nat} (h : Mine w base e (.slice (some ⟨g, 0, none⟩) n c) xs) (j : Nat) (u : Value) : Mine (w.setCell ⟨g, j, none⟩ u) base e (.slice (some ⟨g, 0, none⟩) n c) (xs.set j u) := by
  have hn := h.len
  subst hn
  unfold Mine
  rw [List.length_set]
  exact (World.ownsRow.stored h j u).1
theorem Mine.of_own {n : Nat} (h : w.ownsRow base e 1 v n xs) : Mine w base e v xs := by
  have : n = xs.length := by have := h.1; omega
  subst this
  exact h
theorem Mine.form (h : Mine w base e v xs) : ∃ A c, v = .slice A xs.length c := by
  rcases h.2 with ⟨rfl, hn⟩ | ⟨g, cap, cur, rfl, _⟩
  · exact ⟨none, 0, by rw [hn]⟩
  · exact ⟨_, _, rfl⟩
end

section
variable {P : Program}

theorem run_append_none {w : World} (base : Nat) (t ty e : TypeId) (i : TypeInfo) (ht : P.underlying t = some (.slice e)) (hi : P.info? e = some i)
    (v : Value) (n : Nat) (xs : List Value) (hown : w.ownsRow base e 1 v n xs) (c : Nat) : (Builtin.append_ #[t, t] ty #[v, .slice none 0 c]).run P w = .ok v w := by
  rcases hown.2 with ⟨rfl, rfl⟩ | ⟨g, cap, cur, rfl, _, _, hnc, _⟩
  · simp [Builtin.append_, run_underlying ht, sizeOf, typeInfo, hi, Builtin.lenOf, Builtin.firstCells]
  · simp [Builtin.append_, run_underlying ht, sizeOf, typeInfo, hi, Builtin.lenOf, Builtin.firstCells, hnc, storeCells]

/-- append(v, x...), v the call's own, x whatever slice. -/
theorem run_append_rd {w : World} (base : Nat) (t ty e : TypeId) (i : TypeInfo) (z : Value) (bytes : Nat) (ht : P.underlying t = some (.slice e)) (hi : P.info? e = some i) (hz : i.zero = some z)
    (hsize : i.size = 1) (hby : i.bytes = bytes) (hzs : z.cells.size = 1)
    (v : Value) (xs : List Value) (hown : Mine w base e v xs) (B : Nat) (x : Value) (news : List Value) (hr : Rd w B x news) (h1 : ∀ u ∈ news, u.oneCell' = true)
    (hbound : (xs.length + news.length) * bytes ≤ 140737488355328) (hlen : xs.length + news.length ≤ maxLen) (hbase : base ≤ w.heap.size) :
    ∃ v' w', (Builtin.append_ #[t, t] ty #[v, x]).run P w = .ok v' w' ∧ Mine w' base e v' (xs ++ news) ∧ w.grownBy w' v.ownBlock ∧ (v'.ownBlock = v.ownBlock ∨ v'.ownBlock = some w.heap.size) := by
  obtain ⟨A, c, rfl, g1, g2, g3, g4⟩ := hr
  rcases A with _ | ad
  · have hc := g3 rfl
    have hn : news = [] := List.eq_nil_of_length_eq_zero (by omega)
    subst hn
    exact ⟨v, w, run_append_none base t ty e i ht hi v _ xs hown c, by simpa using hown, World.grownBy.refl w _, .inl rfl⟩
  · have hcells : ∀ j u, news[j]? = some u → w.cell? (ad.add j) = some u := by
      intro j u hu
      have hj := (List.getElem?_eq_some_iff.1 hu).1
      obtain ⟨b, o, he, _, hc⟩ := g4 (by omega)
      injection he with he
      subst he
      rw [Addr.add_lit]
      exact hc j u hu
    obtain ⟨v', w', hrun, h2, h3, _, h5⟩ := run_append_own_at (P := P) w base t ty e i z 1 bytes ht hi hz hsize hby hzs (by omega) v _ xs hown ad news.length c news (by simp) hcells h1 hlen hbound hbase
    exact ⟨v', w', hrun, by unfold Mine; rw [List.length_append]; exact h2, h3, h5⟩

theorem wpList_append_rd {w : World} {ops : Array Oper} {rest : List Oper} {o : Oper} {a : Act} {Q : Exit → Act → World → Prop} (hgd : o.guard = none) (s x : Operand) (t : TypeId)
    (ho : o.op = .call { callee := .builtin .append, args := #[s, x], argTypes := #[t, t] })
    (base : Nat) (e : TypeId) (i : TypeInfo) (z : Value) (bytes : Nat) (ht : P.underlying t = some (.slice e)) (hi : P.info? e = some i) (hz : i.zero = some z)
    (hsize : i.size = 1) (hby : i.bytes = bytes) (hzs : z.cells.size = 1)
    (v : Value) (xs : List Value) (hs : a.eval s = v) (hown : Mine w base e v xs)
    (B : Nat) (y : Value) (news : List Value) (hx : a.eval x = y) (hr : Rd w B y news) (h1 : ∀ u ∈ news, u.oneCell' = true)
    (hbound : (xs.length + news.length) * bytes ≤ 140737488355328) (hlen : xs.length + news.length ≤ maxLen) (hbase : base ≤ w.heap.size)
    (h : ∀ v' w', Mine w' base e v' (xs ++ news) → Below base w w' → w.grownBy w' v.ownBlock → (v'.ownBlock = v.ownBlock ∨ v'.ownBlock = some w.heap.size) → wpList P ops Q rest (a.put o.dst v') w') : wpList P ops Q (o :: rest) a w := by
  refine wpList_plain hgd fun K hK => ?_
  obtain ⟨v', w', hrun, h2, h3, h4⟩ := run_append_rd (P := P) base t o.type e i z bytes ht hi hz hsize hby hzs v xs hown B y news hr h1 hbound hlen hbase
  unfold Oper.wp execOp
  simp only [ho, resolve, invoke, builtin, Sem.run_bind, Sem.run_pure, Result.andThen_ok, List.map_toArray, List.map_cons, List.map_nil, hs, hx, hrun]
  exact hK _ _ (h v' w' h2 ((Below.refl _ _).grown h3 hbase fun k hk => (World.ownsRow.lt hown k hk).1) h3 h4)

/-- The same for a region that draws its order. -/
theorem step_append_rd {w : World} {ops : Array Oper} {o : Oper} {a : Act} {K : Act → World → Prop} {Q : Exit → Act → World → Prop} {E : Prop} (hgd : o.guard = none) (s x : Operand) (t : TypeId)
    (ho : o.op = .call { callee := .builtin .append, args := #[s, x], argTypes := #[t, t] })
    (base : Nat) (e : TypeId) (i : TypeInfo) (z : Value) (bytes : Nat) (ht : P.underlying t = some (.slice e)) (hi : P.info? e = some i) (hz : i.zero = some z)
    (hsize : i.size = 1) (hby : i.bytes = bytes) (hzs : z.cells.size = 1)
    (v : Value) (xs : List Value) (hs : a.eval s = v) (hown : Mine w base e v xs)
    (B : Nat) (y : Value) (news : List Value) (hx : a.eval x = y) (hr : Rd w B y news) (h1 : ∀ u ∈ news, u.oneCell' = true)
    (hbound : (xs.length + news.length) * bytes ≤ 140737488355328) (hlen : xs.length + news.length ≤ maxLen) (hbase : base ≤ w.heap.size)
    (h : ∀ v' w', Mine w' base e v' (xs ++ news) → Below base w w' → w.grownBy w' v.ownBlock → (v'.ownBlock = v.ownBlock ∨ v'.ownBlock = some w.heap.size) → K (a.put o.dst v') w') :
    if Region.wanted o (yielded ops a.tmps) = true then Oper.wp P o a w K Q else E := by
  have hw : Region.wanted o (yielded ops a.tmps) = true := by simp [Region.wanted, hgd]
  rw [if_pos hw]
  obtain ⟨v', w', hrun, h2, h3, h4⟩ := run_append_rd (P := P) base t o.type e i z bytes ht hi hz hsize hby hzs v xs hown B y news hr h1 hbound hlen hbase
  unfold Oper.wp execOp
  simp only [ho, resolve, invoke, builtin, Sem.run_bind, Sem.run_pure, Result.andThen_ok, List.map_toArray, List.map_cons, List.map_nil, hs, hx, hrun]
  exact h v' w' h2 ((Below.refl _ _).grown h3 hbase fun k hk => (World.ownsRow.lt hown k hk).1) h3 h4

/-- string(v) where v has the bytes l. -/
theorem run_string_rd {w : World} {B : Nat} {v : Value} {l : List UInt8} (src dst e : TypeId) (hs : P.underlying src = some (.slice e)) (he : P.underlying e = some (.int .u8)) (hd : P.underlying dst = some .string)
    (hr : Rd w B v (cellsB l)) : (convert src dst v).run P w = .ok (.string ⟨l.toArray⟩) w := by
  obtain ⟨A, c, rfl, g1, g2, g3, g4⟩ := hr
  rw [cellsB_length] at *
  rcases A with _ | ad
  · have hc := g3 rfl
    have hn : l = [] := List.eq_nil_of_length_eq_zero (by omega)
    subst hn
    simp [convert, run_underlying hs, run_underlying hd, run_underlying he, Conv.bytesToString, Sem.run_pure]
    rfl
  · refine run_convert_bytes_back w src dst e ad c l hs he hd fun j hj => ?_
    obtain ⟨b, o, h, _, hc⟩ := g4 (by omega)
    injection h with h
    subst h
    rw [Addr.add_lit]
    exact hc j _ (cellsB_at l j hj)
end

/-- As 'Rd', and in none of the blocks gs. -/
def Far (w : World) (B : Nat) (gs : List (Option Nat)) (v : Value) (xs : List Value) : Prop :=
  ∃ A c, v = .slice A xs.length c ∧ xs.length ≤ c ∧ c ≤ maxLen ∧ (A = none → c = 0) ∧
    (0 < xs.length → ∃ b o, A = some ⟨b, o, none⟩ ∧ b < B ∧ (∀ g ∈ gs, g ≠ some b) ∧ ∀ j u, xs[j]? = some u → w.cell? ⟨b, o + j, none⟩ = some u)
section
variable {w w' : World} {B B' base : Nat} {v : Value} {xs : List Value} {e : TypeId} {gs gs' : List (Option Nat)}
theorem Far.rd (h : Far w B gs v xs) : Rd w B v xs := by
  obtain ⟨A, c, rfl, h1, h2, h3, h4⟩ := h
  refine ⟨A, c, rfl, h1, h2, h3, fun hp => ?_⟩
  obtain ⟨b, o, rfl, hb, _, hc⟩ := h4 hp
  exact ⟨b, o, rfl, hb, hc⟩
theorem Far.keep (h : Far w B gs v xs) (hk : ∀ b o, b < B → (∀ g ∈ gs, g ≠ some b) → w'.cell? ⟨b, o, none⟩ = w.cell? ⟨b, o, none⟩) : Far w' B gs v xs := by
  obtain ⟨A, c, rfl, h1, h2, h3, h4⟩ := h
  refine ⟨A, c, rfl, h1, h2, h3, fun hp => ?_⟩
  obtain ⟨b, o, rfl, hb, hg, hc⟩ := h4 hp
  exact ⟨b, o, rfl, hb, hg, fun j u hu => (hk b _ hb hg).trans (hc j u hu)⟩
theorem Far.below (h : Far w B gs v xs) (hb : Below B w w') : Far w' B gs v xs := h.keep fun b o hp _ => hb.cell (p := ⟨b, o, none⟩) hp
theorem Far.grown (h : Far w B gs v xs) {row : Option Nat} (hg : w.grownBy w' row) (hB : B ≤ w.heap.size) (hr : row ∈ gs) : Far w' B gs v xs :=
  h.keep fun b _ hp hn => World.cell?_of_block (hg.block b (by omega) (fun e => hn _ hr e.symm))
theorem Far.more (h : Far w B gs v xs) (hB : B ≤ B') : Far w B' gs v xs := by
  obtain ⟨A, c, rfl, h1, h2, h3, h4⟩ := h
  refine ⟨A, c, rfl, h1, h2, h3, fun hp => ?_⟩
  obtain ⟨b, o, rfl, hb, hg, hc⟩ := h4 hp
  exact ⟨b, o, rfl, by omega, hg, hc⟩
/-- Other blocks to keep out of: old ones, or such as were made later. -/
theorem Far.other (h : Far w B gs v xs) (hg : ∀ g ∈ gs', g ∈ gs ∨ ∀ k, g = some k → B ≤ k) : Far w B gs' v xs := by
  obtain ⟨A, c, rfl, h1, h2, h3, h4⟩ := h
  refine ⟨A, c, rfl, h1, h2, h3, fun hp => ?_⟩
  obtain ⟨b, o, rfl, hb, hn, hc⟩ := h4 hp
  refine ⟨b, o, rfl, hb, fun g hg' e => ?_, hc⟩
  rcases hg g hg' with h | h
  · exact hn g h e
  · have := h b e; omega
theorem Mine.far (h : Mine w base e v xs) (hg : ∀ g ∈ gs, ∀ k, g = some k → k < base) : Far w w.heap.size gs v xs := by
  rcases h.2 with ⟨rfl, hn⟩ | ⟨g, cap, cur, rfl, hbg, hgg, hnc, hcm, hcs, htake⟩
  · have : xs = [] := List.eq_nil_of_length_eq_zero hn
    subst this
    exact ⟨none, 0, rfl, Nat.le_refl _, Nat.zero_le _, fun _ => rfl, fun h => absurd h (by simp)⟩
  · refine ⟨_, _, rfl, hnc, hcm, (fun h => by cases h), fun _ => ⟨g, 0, rfl, (World.ownsRow.lt h g rfl).2, fun x hx e => ?_, fun j u hu => ?_⟩⟩
    · have := hg x hx g e; omega
    · have := World.ownsRow.cells h (g := g) rfl j u hu
      simpa [Addr.add_lit] using this
/-- Two rows of unlike elements lie in two blocks. -/
theorem Mine.apart {base2 : Nat} {v2 : Value} {xs2 : List Value} {e2 : TypeId} (h : Mine w base e v xs) (h2 : Mine w base2 e2 v2 xs2) (hne : e ≠ e2) : v.ownBlock = none ∨ v.ownBlock ≠ v2.ownBlock := by
  rcases h.2 with ⟨rfl, _⟩ | ⟨g, cap, cur, rfl, _, hg, _⟩
  · exact .inl rfl
  · right
    rcases h2.2 with ⟨rfl, _⟩ | ⟨g2, cap2, cur2, rfl, _, hg2, _⟩
    · simp [Value.ownBlock]
    · intro e
      have e' : g = g2 := by simpa [Value.ownBlock] using e
      subst e'
      rw [hg] at hg2
      injection hg2 with hg2
      injection hg2 with _ ht
      exact hne ht
theorem Mine.grown (h : Mine w base e v xs) {row : Option Nat} (hg : w.grownBy w' row) (hne : v.ownBlock = none ∨ v.ownBlock ≠ row) : Mine w' base e v xs := World.ownsRow.kept h hg hne
theorem Mine.block (h : Mine w base e v xs) : ∀ k, v.ownBlock = some k → base ≤ k ∧ k < w.heap.size := World.ownsRow.lt h
end

/-- string(v) in whatever world in which what lay below B is as it was. -/
theorem run_string_kept {P : Program} {w w' : World} {B : Nat} {v : Value} {l : List UInt8} (src dst e : TypeId) (hs : P.underlying src = some (.slice e)) (he : P.underlying e = some (.int .u8)) (hd : P.underlying dst = some .string)
    (hr : Rd w B v (cellsB l)) (hb : Below B w w') : (convert src dst v).run P w' = .ok (.string ⟨l.toArray⟩) w' := run_string_rd src dst e hs he hd (hr.below hb)
/-- Two stretches of a run, one behind the other. -/
theorem up {w w1 w2 : World} (h : Below w.heap.size w w1) (h2 : Below w1.heap.size w1 w2) : Below w.heap.size w w2 := h.trans (h2.mono h.size)
theorem up_alloc {w w1 : World} (h : Below w.heap.size w w1) (o : Obj) : Below w.heap.size w (w1.alloc o) := h.alloc h.size o
theorem up_drew {w w1 : World} (h : Below w.heap.size w w1) : Below w.heap.size w w1.drew := h.drew

/-- The slice v has, in w, slices of the bytes ls. -/
def RdAll (w : World) (B : Nat) (v : Value) (ls : List (List UInt8)) : Prop :=
  ∃ vs : List Value, Rd w B v vs ∧ vs.length = ls.length ∧ ∀ (k : Nat) (u : Value) (l : List UInt8), vs[k]? = some u → ls[k]? = some l → Rd w B u (cellsB l)
/-- The first k of some texts, one behind the other. -/
def upTo (ls : List (List UInt8)) (k : Nat) : List UInt8 := (ls.take k).flatten
theorem upTo_zero (ls : List (List UInt8)) : upTo ls 0 = [] := by simp [upTo]
theorem upTo_succ (ls : List (List UInt8)) (k : Nat) (h : k < ls.length) : upTo ls (k + 1) = upTo ls k ++ ls[k] := by
  unfold upTo
  rw [List.take_succ_eq_append_getElem h, List.flatten_append, List.flatten_cons, List.flatten_nil, List.append_nil]
theorem upTo_all (ls : List (List UInt8)) : upTo ls ls.length = ls.flatten := by simp [upTo]
theorem upTo_le (ls : List (List UInt8)) (k : Nat) : (upTo ls k).length ≤ ls.flatten.length := by
  have h : ls.flatten = upTo ls k ++ (ls.drop k).flatten := by
    unfold upTo; rw [← List.flatten_append, List.take_append_drop]
  rw [h, List.length_append]; omega

section
variable {w w' : World} {B : Nat} {v : Value} {ls : List (List UInt8)}
theorem RdAll.at_ {A : Option Addr} {n c : Nat} (h : RdAll w B (.slice A n c) ls) {k : Nat} (hk : k < n) :
    ∃ b o A' c', ∃ h : k < ls.length, A = some ⟨b, o, none⟩ ∧ b < B ∧ w.cell? ⟨b, o + k, none⟩ = some (.slice A' ls[k].length c') ∧ Rd w B (.slice A' ls[k].length c') (cellsB ls[k]) := by
  obtain ⟨vs, ⟨A1, c1, e, g1, g2, g3, g4⟩, hl, hel⟩ := h
  injection e with e1 e2 e3
  subst e1 e2 e3
  obtain ⟨b, o, rfl, hb, hc⟩ := g4 (by omega)
  have h1 : vs[k]? = some vs[k] := List.getElem?_eq_getElem hk
  have h2 : ls[k]? = some (ls[k]'(by omega)) := List.getElem?_eq_getElem (by omega)
  have h3 := hel k _ _ h1 h2
  obtain ⟨A', c', e, _, _, h4⟩ := h3.bytes
  refine ⟨b, o, A', c', by omega, rfl, hb, ?_, h4⟩
  rw [← e]
  exact hc k _ h1
theorem RdAll.len {A : Option Addr} {n c : Nat} (h : RdAll w B (.slice A n c) ls) : n = ls.length ∧ n ≤ c ∧ c ≤ 9223372036854775807 := by
  obtain ⟨vs, ⟨A1, c1, e, g1, g2, g3, g4⟩, hl, hel⟩ := h
  injection e with e1 e2 e3
  unfold maxLen at g2
  omega
theorem RdAll.keep (h : RdAll w B v ls) (hk : ∀ p : Addr, p.block < B → w'.cell? p = w.cell? p) : RdAll w' B v ls := by
  obtain ⟨vs, h1, h2, h3⟩ := h
  exact ⟨vs, h1.keep hk, h2, fun k u l a b => (h3 k u l a b).keep hk⟩
theorem RdAll.below (h : RdAll w B v ls) (hb : Below B w w') : RdAll w' B v ls := h.keep fun _ hp => hb.cell hp
theorem RdAll.upto {A : Option Addr} {n c : Nat} (h : RdAll w B (.slice A n c) ls) {hi : Nat} (h2 : hi ≤ n) : RdAll w B (.slice A hi c) (ls.take hi) := by
  obtain ⟨vs, h1, hl, hel⟩ := h
  refine ⟨vs.take hi, h1.upto h2, by simp [hl], fun k u l a b => ?_⟩
  rw [List.getElem?_take] at a b
  split at a
  · rw [if_pos (by assumption)] at b
    exact hel k u l a b
  · cases a
theorem RdAll.form (h : RdAll w B v ls) : ∃ A c, v = .slice A ls.length c ∧ RdAll w B (.slice A ls.length c) ls := by
  have h0 := h
  obtain ⟨vs, ⟨A, c, rfl, _⟩, hl, _⟩ := h
  rw [hl] at h0 ⊢
  exact ⟨A, c, rfl, h0⟩
theorem RdAll.lit (w : World) (e : TypeId) (cs : List Value) (ls : List (List UInt8)) (hlen : cs.length = ls.length) (hmax : cs.length ≤ maxLen)
    (h : ∀ (k : Nat) (u : Value) (l : List UInt8), cs[k]? = some u → ls[k]? = some l → Rd w w.heap.size u (cellsB l)) :
    RdAll (w.alloc (.cells cs.toArray e)) (w.heap.size + 1) (.slice (some ⟨w.heap.size, 0, none⟩) cs.length cs.length) ls := by
  refine ⟨cs, ⟨_, _, rfl, Nat.le_refl _, hmax, (fun h => by cases h), fun _ => ⟨w.heap.size, 0, rfl, Nat.lt_succ_self _, fun j u hu => ?_⟩⟩, hlen, fun k u l a b => ((h k u l a b).alloc (Nat.le_refl _) _).more (Nat.le_succ _)⟩
  rw [Nat.zero_add, World.cell?_alloc_mark]
  simpa using hu
theorem RdAll.lit1 (w : World) (e : TypeId) (a : Value) (l : List UInt8) (h : Rd w w.heap.size a (cellsB l)) :
    RdAll (w.alloc (.cells #[a] e)) (w.heap.size + 1) (.slice (some ⟨w.heap.size, 0, none⟩) 1 1) [l] := by
  refine RdAll.lit w e [a] [l] rfl (by unfold maxLen; simp) fun k u m hu hm => ?_
  match k, hu, hm with
  | 0, hu, hm => simp at hu hm; subst hu hm; exact h
theorem RdAll.lit2 (w : World) (e : TypeId) (a b : Value) (l m : List UInt8) (h : Rd w w.heap.size a (cellsB l)) (h2 : Rd w w.heap.size b (cellsB m)) :
    RdAll (w.alloc (.cells #[a, b] e)) (w.heap.size + 1) (.slice (some ⟨w.heap.size, 0, none⟩) 2 2) [l, m] := by
  refine RdAll.lit w e [a, b] [l, m] rfl (by unfold maxLen; simp) fun k u x hu hm => ?_
  match k, hu, hm with
  | 0, hu, hm => simp at hu hm; subst hu hm; exact h
  | 1, hu, hm => simp at hu hm; subst hu hm; exact h2
end
end Go.Proofs.Ytcandokefhbneaa
