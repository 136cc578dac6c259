/-
  Rows of texts that a call makes for itself: 'OwnAll' (a slice of slices of bytes, the row the call's own, the texts elsewhere), and append onto it.
-/
import Derived.Test.YtceefoopehoalaaBase
namespace Go.Proofs.Ytceefoopehoalaa
open Go.RowKit
theorem info_row : (Try.prog.info? 22).map (fun i => (i.zero, i.size, i.bytes)) = some (some (.slice none 0 0), 1, 24) := by kernel_rfl
/-- The call owns the row v; its elements are the texts ls, none of them in the row's own block. -/
def OwnAll (w : World) (base : Nat) (v : Value) (ls : List (List UInt8)) : Prop :=
  ∃ vs, Mine w base 22 v vs ∧ vs.length = ls.length ∧ ∀ (k : Nat) (u : Value) (l : List UInt8), vs[k]? = some u → ls[k]? = some l → Far w w.heap.size [v.ownBlock] u (cellsB l)
/-- The slice x has the texts ms, none of them in the blocks gs. -/
def FarAll (w : World) (B : Nat) (gs : List (Option Nat)) (x : Value) (ms : List (List UInt8)) : Prop :=
  ∃ vs, Rd w B x vs ∧ vs.length = ms.length ∧ ∀ (k : Nat) (u : Value) (l : List UInt8), vs[k]? = some u → ms[k]? = some l → Far w B gs u (cellsB l)
section
variable {w w' : World} {B B' base : Nat} {v x : Value} {ls ms : List (List UInt8)} {gs : List (Option Nat)}
theorem Rd.far {xs : List Value} (h : Rd w B v xs) (hg : ∀ g ∈ gs, ∀ k, g = some k → B ≤ k) : Far w B gs v xs := by
  obtain ⟨A, c, rfl, h1, h2, h3, h4⟩ := h
  refine ⟨A, c, rfl, h1, h2, h3, fun hp => ?_⟩
  obtain ⟨b, o, rfl, hb, hc⟩ := h4 hp
  exact ⟨b, o, rfl, hb, fun g hg' e => by have := hg g hg' b e; omega, hc⟩
theorem Far.alloc {xs : List Value} (h : Far w B gs v xs) (hB : B ≤ w.heap.size) (o : Obj) : Far (w.alloc o) B gs v xs := h.keep fun b _ hb _ => World.cell?_alloc_lt w o _ (by show b < _; omega)
theorem Far.one {xs : List Value} (h : Far w B gs v xs) : v.oneCell' = true := by obtain ⟨A, c, rfl, _⟩ := h; rfl
theorem RdAll.far (h : RdAll w B x ms) (hg : ∀ g ∈ gs, ∀ k, g = some k → B ≤ k) : FarAll w B gs x ms := by
  obtain ⟨vs, h1, h2, h3⟩ := h
  exact ⟨vs, h1, h2, fun k u l a b => (h3 k u l a b).far hg⟩
theorem FarAll.rd (h : FarAll w B gs x ms) : RdAll w B x ms := by
  obtain ⟨vs, h1, h2, h3⟩ := h
  exact ⟨vs, h1, h2, fun k u l a b => (h3 k u l a b).rd⟩
theorem FarAll.nil (w : World) (B : Nat) (gs : List (Option Nat)) : FarAll w B gs (.slice none 0 0) [] := ⟨[], Rd.nil w B, rfl, fun k u l h => by simp at h⟩
theorem OwnAll.rd (h : OwnAll w base v ls) : RdAll w w.heap.size v ls := by
  obtain ⟨vs, h1, h2, h3⟩ := h
  exact ⟨vs, h1.rd, h2, fun k u l a b => (h3 k u l a b).rd⟩
theorem OwnAll.nil (w : World) (base : Nat) : OwnAll w base (.slice none 0 0) [] := ⟨[], Mine.nil w base _, rfl, fun k u l h => by simp at h⟩
theorem OwnAll.kept (h : OwnAll w base v ls) (hb : Below w.heap.size w w') : OwnAll w' base v ls := by
  obtain ⟨vs, h1, h2, h3⟩ := h
  exact ⟨vs, h1.kept hb, h2, fun k u l a b => ((h3 k u l a b).below hb).more hb.size⟩
theorem OwnAll.alloc (h : OwnAll w base v ls) (o : Obj) : OwnAll (w.alloc o) base v ls := h.kept ((Below.refl _ _).alloc (Nat.le_refl _) o)
theorem OwnAll.drew (h : OwnAll w base v ls) : OwnAll w.drew base v ls := h
theorem OwnAll.block (h : OwnAll w base v ls) : ∀ k, v.ownBlock = some k → base ≤ k ∧ k < w.heap.size := by
  obtain ⟨vs, h1, _⟩ := h
  exact h1.block
theorem OwnAll.form (h : OwnAll w base v ls) : ∃ A c, v = .slice A ls.length c := by
  obtain ⟨vs, h1, h2, _⟩ := h
  rw [← h2]; exact h1.form
theorem OwnAll.weaken (h : OwnAll w base v ls) (hb : B ≤ base) : OwnAll w B v ls := by
  obtain ⟨vs, h1, h2⟩ := h
  exact ⟨vs, h1.weaken hb, h2⟩
/-- An empty row of the call's own. -/
theorem OwnAll.empty (w : World) (base : Nat) (hb : base ≤ w.heap.size) : OwnAll (w.alloc (.cells #[] 22)) base (.slice (some ⟨w.heap.size, 0, none⟩) 0 0) [] :=
  ⟨[], Mine.empty w base _ hb, rfl, fun k u l h => by simp at h⟩
/-- '[][]byte{a}', '[][]byte{a, b}'. -/
theorem FarAll.lit (us : List Value) (ms : List (List UInt8)) (hl : us.length = ms.length) (hm : us.length ≤ maxLen) (h : ∀ (k : Nat) (u : Value) (l : List UInt8), us[k]? = some u → ms[k]? = some l → Far w w.heap.size gs u (cellsB l)) (e : TypeId) :
    FarAll (w.alloc (.cells us.toArray e)) (w.heap.size + 1) gs (.slice (some ⟨w.heap.size, 0, none⟩) us.length us.length) ms := by
  refine ⟨us, ⟨_, _, rfl, Nat.le_refl _, hm, (fun h => by cases h), fun _ => ⟨w.heap.size, 0, rfl, Nat.lt_succ_self _, fun j u hu => ?_⟩⟩, hl, fun k u l a b => ((h k u l a b).alloc (Nat.le_refl _) _).more (Nat.le_succ _)⟩
  rw [Nat.zero_add, World.cell?_alloc_mark]
  simpa using hu
theorem FarAll.lit1 {a : Value} {l : List UInt8} (h : Far w w.heap.size gs a (cellsB l)) (e : TypeId) : FarAll (w.alloc (.cells #[a] e)) (w.heap.size + 1) gs (.slice (some ⟨w.heap.size, 0, none⟩) 1 1) [l] := by
  refine FarAll.lit [a] [l] rfl (by unfold maxLen; simp) (fun k u m hu hm => ?_) e
  match k, hu, hm with
  | 0, hu, hm => simp at hu hm; subst hu hm; exact h
theorem FarAll.lit2 {a b : Value} {l m : List UInt8} (h : Far w w.heap.size gs a (cellsB l)) (h2 : Far w w.heap.size gs b (cellsB m)) (e : TypeId) : FarAll (w.alloc (.cells #[a, b] e)) (w.heap.size + 1) gs (.slice (some ⟨w.heap.size, 0, none⟩) 2 2) [l, m] := by
  refine FarAll.lit [a, b] [l, m] rfl (by unfold maxLen; simp) (fun k u x hu hm => ?_) e
  match k, hu, hm with
  | 0, hu, hm => simp at hu hm; subst hu hm; exact h
  | 1, hu, hm => simp at hu hm; subst hu hm; exact h2
theorem OwnAll.lit1 {a : Value} {l : List UInt8} (hb : base ≤ w.heap.size) (h : Far w w.heap.size [] a (cellsB l)) : OwnAll (w.alloc (.cells #[a] 22)) base (.slice (some ⟨w.heap.size, 0, none⟩) 1 1) [l] := by
  refine ⟨[a], Mine.lit w base 22 #[a] 1 hb rfl (by unfold maxLen; simp), rfl, fun k u m hu hm => ?_⟩
  match k, hu, hm with
  | 0, hu, hm =>
    simp at hu hm; subst hu hm
    have h1 := ((h.alloc (Nat.le_refl _) (.cells #[a] 22)).other (gs' := [some w.heap.size]) (fun g hg => .inr fun k e => by simp at hg; subst hg; injection e with e; omega)).more (Nat.le_succ _)
    simpa [Value.ownBlock] using h1
/-- What is appended: both rows' texts, in the row. -/
theorem OwnAll.grew {v' : Value} {vs news : List Value} (h2 : vs.length = ls.length) (h3 : ∀ (k : Nat) (u : Value) (l : List UInt8), vs[k]? = some u → ls[k]? = some l → Far w w.heap.size [v.ownBlock] u (cellsB l))
    (g2 : news.length = ms.length) (g3 : ∀ (k : Nat) (u : Value) (l : List UInt8), news[k]? = some u → ms[k]? = some l → Far w B [v.ownBlock] u (cellsB l)) (hB : B ≤ w.heap.size)
    (h : Mine w' base 22 v' (vs ++ news)) (hg : w.grownBy w' v.ownBlock) (hv : v'.ownBlock = v.ownBlock ∨ v'.ownBlock = some w.heap.size) (hsz : w.heap.size ≤ w'.heap.size) : OwnAll w' base v' (ls ++ ms) := by
  have key : ∀ (u : Value) (l : List UInt8), Far w w.heap.size [v.ownBlock] u (cellsB l) → Far w' w'.heap.size [v'.ownBlock] u (cellsB l) := fun u l hf => by
    have q := (hf.grown hg (Nat.le_refl _) (List.mem_singleton.2 rfl)).other (gs' := [v'.ownBlock]) (fun g hg => ?_)
    · exact q.more hsz
    · rw [List.mem_singleton] at hg
      subst hg
      rcases hv with e | e
      · rw [e]; exact .inl (List.mem_singleton.2 rfl)
      · exact .inr fun k h => by rw [e] at h; injection h with h; omega
  refine ⟨vs ++ news, h, by rw [List.length_append, List.length_append, h2, g2], fun k u l a b => ?_⟩
  by_cases hk : k < vs.length
  · rw [List.getElem?_append_left hk] at a
    rw [List.getElem?_append_left (by omega)] at b
    exact key u l (h3 k u l a b)
  · rw [List.getElem?_append_right (by omega)] at a
    rw [List.getElem?_append_right (by omega), ← h2] at b
    exact key u l ((g3 _ u l a b).more hB)
end
section
variable {P : Program}
theorem wpList_append_all {w : World} {ops : Array Oper} {rest : List Oper} {o : Oper} {a : Act} {Q : Exit → Act → World → Prop} (hgd : o.guard = none) (s x : Operand) (t : TypeId)
    (ho : o.op = .call { callee := .builtin .append, args := #[s, x], argTypes := #[t, t] })
    (base : Nat) (i : TypeInfo) (z : Value) (ht : P.underlying t = some (.slice 22)) (hi : P.info? 22 = some i) (hz : i.zero = some z)
    (hsize : i.size = 1) (hby : i.bytes = 24) (hzs : z.cells.size = 1)
    (v : Value) (ls : List (List UInt8)) (hs : a.eval s = v) (hown : OwnAll w base v ls)
    (B : Nat) (y : Value) (ms : List (List UInt8)) (hx : a.eval x = y) (hr : FarAll w B [v.ownBlock] y ms) (hB : B ≤ w.heap.size)
    (hbound : ls.length + ms.length ≤ 1000000000) (hbase : base ≤ w.heap.size)
    (h : ∀ v' w', OwnAll w' base v' (ls ++ ms) → Below base w w' → wpList P ops Q rest (a.put o.dst v') w') : wpList P ops Q (o :: rest) a w := by
  obtain ⟨vs, h1, h2, h3⟩ := hown
  obtain ⟨news, g1, g2, g3⟩ := hr
  refine wpList_append_rd hgd s x t ho base 22 i z 24 ht hi hz hsize hby hzs v vs hs h1 B y news hx g1 (fun u hu => ?_) (by omega) (by unfold maxLen; omega) hbase (fun v' w' q1 q2 q3 q4 => ?_)
  · obtain ⟨k, hk, rfl⟩ := List.getElem_of_mem hu
    exact (g3 k _ (ms[k]'(by omega)) (List.getElem?_eq_getElem hk) (List.getElem?_eq_getElem (by omega))).one
  · exact h v' w' (OwnAll.grew h2 h3 g2 g3 hB q1 q3 q4 q2.size) q2
theorem step_append_all {w : World} {ops : Array Oper} {o : Oper} {a : Act} {K : Act → World → Prop} {Q : Exit → Act → World → Prop} {E : Prop} (hgd : o.guard = none) (s x : Operand) (t : TypeId)
    (ho : o.op = .call { callee := .builtin .append, args := #[s, x], argTypes := #[t, t] })
    (base : Nat) (i : TypeInfo) (z : Value) (ht : P.underlying t = some (.slice 22)) (hi : P.info? 22 = some i) (hz : i.zero = some z)
    (hsize : i.size = 1) (hby : i.bytes = 24) (hzs : z.cells.size = 1)
    (v : Value) (ls : List (List UInt8)) (hs : a.eval s = v) (hown : OwnAll w base v ls)
    (B : Nat) (y : Value) (ms : List (List UInt8)) (hx : a.eval x = y) (hr : FarAll w B [v.ownBlock] y ms) (hB : B ≤ w.heap.size)
    (hbound : ls.length + ms.length ≤ 1000000000) (hbase : base ≤ w.heap.size)
    (h : ∀ v' w', OwnAll w' base v' (ls ++ ms) → Below base w w' → K (a.put o.dst v') w') :
    if Region.wanted o (yielded ops a.tmps) = true then Oper.wp P o a w K Q else E := by
  obtain ⟨vs, h1, h2, h3⟩ := hown
  obtain ⟨news, g1, g2, g3⟩ := hr
  refine step_append_rd hgd s x t ho base 22 i z 24 ht hi hz hsize hby hzs v vs hs h1 B y news hx g1 (fun u hu => ?_) (by omega) (by unfold maxLen; omega) hbase (fun v' w' q1 q2 q3 q4 => ?_)
  · obtain ⟨k, hk, rfl⟩ := List.getElem_of_mem hu
    exact (g3 k _ (ms[k]'(by omega)) (List.getElem?_eq_getElem hk) (List.getElem?_eq_getElem (by omega))).one
  · exact h v' w' (OwnAll.grew h2 h3 g2 g3 hB q1 q3 q4 q2.size) q2
end
end Go.Proofs.Ytceefoopehoalaa
