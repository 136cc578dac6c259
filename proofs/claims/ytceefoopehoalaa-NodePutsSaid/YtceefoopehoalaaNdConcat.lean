/-
  slices.Grow of nothing, slices.Concat of the library at rows of texts and of whole numbers, by contracts.
-/
import Derived.Test.YtceefoopehoalaaNdFewA
import Derived.Lib.AppendZerosOnto
namespace Go.Proofs.Ytceefoopehoalaa
open Go.RowKit
theorem wpList_append_run {P : Program} {w w' : World} {ops : Array Oper} {rest : List Oper} {o : Oper} {a : Act} {Q : Exit → Act → World → Prop} {t t2 : TypeId} (hgd : o.guard = none) (s x : Operand)
    (ho : o.op = .call { callee := .builtin .append, args := #[s, x], argTypes := #[t, t2] }) (v y : Value) {r : Value} (hs : a.eval s = v) (hx : a.eval x = y) (hrun : (Builtin.append_ #[t, t2] o.type #[v, y]).run P w = .ok r w')
    (h : wpList P ops Q rest (a.put o.dst r) w') : wpList P ops Q (o :: rest) a w := by
  refine wpList_plain hgd fun K hK => ?_
  unfold Oper.wp execOp
  simp only [ho, resolve, invoke, builtin, Sem.run_bind, Sem.run_pure, Result.andThen_ok, List.map_toArray, List.map_cons, List.map_nil, hs, hx, hrun]
  exact hK _ _ h
theorem flat_more {α : Type} (lss : List (List α)) {k : Nat} (h : k < lss.length) : (lss.take (k + 1)).flatten = (lss.take k).flatten ++ lss.getD k [] := by
  rw [← take_more lss [] h]; simp
theorem flat_le {α : Type} (lss : List (List α)) (k : Nat) : (lss.take k).flatten.length ≤ lss.flatten.length := by
  have h : lss.flatten = (lss.take k).flatten ++ (lss.drop k).flatten := by rw [← List.flatten_append, List.take_append_drop]
  rw [h, List.length_append]; omega
theorem Rd.formI {w : World} {B : Nat} {v : Value} {l : List Int} (h : Rd w B v (cellsI l)) : ∃ A c, v = .slice A l.length c ∧ Rd w B (.slice A l.length c) (cellsI l) := by
  have h0 := h
  obtain ⟨A, c, rfl, _⟩ := h
  rw [cellsI_length] at *
  exact ⟨A, c, rfl, h0⟩
set_option maxHeartbeats 1000000 in
theorem growT_nil (n : Nat) (w : World) (hn : n ≤ 1000000) : Calls Try.prog 55 #[.slice none 0 0, .int .i64 (n : Int)] w fun e w' => ∃ A c, e = .returned (.slice A 0 c) ∧ Mine w' w.heap.size 22 (.slice A 0 c) [] ∧ Below w.heap.size w w' := by
  obtain ⟨i, hi, hz0, hz1, hz2⟩ := info_parts info_row
  have h3 : IntKind.i64.wrap ((n : Int) - 0) = (n : Int) := by rw [Int.sub_zero]; exact IntWalk.i64_in _ (by omega)
  by_cases h0 : 0 < n
  · have h := Lib.run_append_grow_zeros (P := Try.prog) w 24 3 24 22 i _ .i64 .i64 Try.underlying24 Try.underlying3 hi hz0 none 0 0 [] (run_firstCells_none w.drew i.size 0 0 0) n h0 (by omega) (by omega) (by omega) (by rw [hz2]; omega) (by rw [Nat.zero_add]; exact growslice_fits h0 (by rw [hz2]; omega))
    rw [Nat.zero_add] at h
    have hG := grownCap_ge w n 0 22
    have hG2 := grownCap_le_maxLen w n 0 22 (by unfold maxLen; omega)
    obtain ⟨G, hGe⟩ : ∃ G, G = grownCap w n 0 22 := ⟨_, rfl⟩
    rw [← hGe] at h hG hG2
    obtain ⟨C, hC⟩ : ∃ C, C = ([] : List Value).toArray ++ Builtin.zeroCells (.slice none 0 0 : Value).cells n ++ Builtin.zeroCells (.slice none 0 0 : Value).cells (G - n) := ⟨_, rfl⟩
    rw [← hC] at h
    have hCs : C.size = G * 1 := by
      have z : (.slice none 0 0 : Value).cells.size = 1 := rfl
      rw [hC]
      simp [Builtin.zeroCells, z]
      omega
    have hm := World.ownsRow_made (base := w.heap.size) (e := 22) (size := 1) w.drew C G (Nat.le_refl _) hG2 hCs
    have HM := Lib.hid hm
    have hG3 : G ≤ 9223372036854775807 := by unfold maxLen at hG2; exact hG2
    have Hh := Lib.hid h
    clear hGe hC hCs hm hG2 hi hz0 hz1 hz2 h
    go_enter Try.func55, Try.ntmps55
    go_wp2_with (at_builtin; refine wpList_append_run rfl (.tmp 20) (.tmp 21) rfl _ _ rfl rfl Hh.out ?_)
    go_ret
    exact ⟨_, _, rfl, HM.out, ((Below.refl _ _).drew).alloc (Nat.le_refl _) _⟩
  · obtain rfl : n = 0 := by omega
    clear hi hz0 hz1 hz2
    go_enter Try.func55, Try.ntmps55
    go_wp2
    go_ret
    exact ⟨_, _, rfl, Mine.nil _ _ _, Below.refl _ _⟩
set_option maxHeartbeats 1000000 in
theorem growI_nil (n : Nat) (w : World) (hn : n ≤ 1000000) : Calls Try.prog 59 #[.slice none 0 0, .int .i64 (n : Int)] w fun e w' => ∃ A c, e = .returned (.slice A 0 c) ∧ Mine w' w.heap.size 3 (.slice A 0 c) [] ∧ Below w.heap.size w w' := by
  obtain ⟨i, hi, hz0, hz1, hz2⟩ := info_parts info_int
  have h3 : IntKind.i64.wrap ((n : Int) - 0) = (n : Int) := by rw [Int.sub_zero]; exact IntWalk.i64_in _ (by omega)
  by_cases h0 : 0 < n
  · have h := Lib.run_append_grow_zeros (P := Try.prog) w 25 3 25 3 i _ .i64 .i64 Try.underlying25 Try.underlying3 hi hz0 none 0 0 [] (run_firstCells_none w.drew i.size 0 0 0) n h0 (by omega) (by omega) (by omega) (by rw [hz2]; omega) (by rw [Nat.zero_add]; exact growslice_fits h0 (by rw [hz2]; omega))
    rw [Nat.zero_add] at h
    have hG := grownCap_ge w n 0 3
    have hG2 := grownCap_le_maxLen w n 0 3 (by unfold maxLen; omega)
    obtain ⟨G, hGe⟩ : ∃ G, G = grownCap w n 0 3 := ⟨_, rfl⟩
    rw [← hGe] at h hG hG2
    obtain ⟨C, hC⟩ : ∃ C, C = ([] : List Value).toArray ++ Builtin.zeroCells (.int .i64 0 : Value).cells n ++ Builtin.zeroCells (.int .i64 0 : Value).cells (G - n) := ⟨_, rfl⟩
    rw [← hC] at h
    have hCs : C.size = G * 1 := by
      have z : (.int .i64 0 : Value).cells.size = 1 := rfl
      rw [hC]
      simp [Builtin.zeroCells, z]
      omega
    have hm := World.ownsRow_made (base := w.heap.size) (e := 3) (size := 1) w.drew C G (Nat.le_refl _) hG2 hCs
    have HM := Lib.hid hm
    have hG3 : G ≤ 9223372036854775807 := by unfold maxLen at hG2; exact hG2
    have Hh := Lib.hid h
    clear hGe hC hCs hm hG2 hi hz0 hz1 hz2 h
    go_enter Try.func59, Try.ntmps59
    go_wp2_with (at_builtin; refine wpList_append_run rfl (.tmp 20) (.tmp 21) rfl _ _ rfl rfl Hh.out ?_)
    go_ret
    exact ⟨_, _, rfl, HM.out, ((Below.refl _ _).drew).alloc (Nat.le_refl _) _⟩
  · obtain rfl : n = 0 := by omega
    clear hi hz0 hz1 hz2
    go_enter Try.func59, Try.ntmps59
    go_wp2
    go_ret
    exact ⟨_, _, rfl, Mine.nil _ _ _, Below.refl _ _⟩
/-- The slice x has, in w, slices that have the rows lss. -/
def RdRows (w : World) (B : Nat) (x : Value) (lss : List (List (List UInt8))) : Prop :=
  ∃ vs, Rd w B x vs ∧ vs.length = lss.length ∧ ∀ (k : Nat) (u : Value) (l : List (List UInt8)), vs[k]? = some u → lss[k]? = some l → RdAll w B u l
theorem RdRows.cell {w : World} {B : Nat} {A : Option Addr} {n c : Nat} {lss : List (List (List UInt8))} (h : RdRows w B (.slice A n c) lss) {k : Nat} (hk : k < n) :
    ∃ b o u, A = some ⟨b, o, none⟩ ∧ b < B ∧ w.cell? ⟨b, o + k, none⟩ = some u ∧ (fun u l => RdAll w B u l) u (lss.getD k []) := by
  obtain ⟨vs, ⟨A1, c1, e, g1, g2, g3, g4⟩, hl, hel⟩ := h
  injection e with e1 e2 e3
  subst e1 e2 e3
  obtain ⟨b, o, rfl, hb, hc⟩ := g4 (by omega)
  have h1 : vs[k]? = some vs[k] := List.getElem?_eq_getElem hk
  have h2 : lss[k]? = some (lss.getD k []) := by simp [List.getD, show k < lss.length by omega]
  exact ⟨b, o, _, rfl, hb, hc k _ h1, hel k _ _ h1 h2⟩
theorem RdRows.len {w : World} {B : Nat} {A : Option Addr} {n c : Nat} {lss : List (List (List UInt8))} (h : RdRows w B (.slice A n c) lss) : n = lss.length ∧ n ≤ c ∧ c ≤ 9223372036854775807 := by
  obtain ⟨vs, ⟨A1, c1, e, g1, g2, g3, g4⟩, hl, hel⟩ := h
  injection e with e1 e2 e3
  unfold maxLen at g2
  omega
theorem RdRows.keep {w w' : World} {B : Nat} {x : Value} {lss : List (List (List UInt8))} (h : RdRows w B x lss) (hk : ∀ p : Addr, p.block < B → w'.cell? p = w.cell? p) : RdRows w' B x lss := by
  obtain ⟨vs, h1, h2, h3⟩ := h
  exact ⟨vs, h1.keep hk, h2, fun k u l a b => (h3 k u l a b).keep hk⟩
theorem RdRows.below {w w' : World} {B : Nat} {x : Value} {lss : List (List (List UInt8))} (h : RdRows w B x lss) (hb : Below B w w') : RdRows w' B x lss := h.keep fun _ hp => hb.cell hp
theorem RdRows.lit (w : World) (e : TypeId) (us : List Value) (lss : List (List (List UInt8))) (hl : us.length = lss.length) (hm : us.length ≤ 100) (h : ∀ (k : Nat) (u : Value) (l : List (List UInt8)), us[k]? = some u → lss[k]? = some l → RdAll w w.heap.size u l) :
    RdRows (w.alloc (.cells us.toArray e)) (w.heap.size + 1) (.slice (some ⟨w.heap.size, 0, none⟩) us.length us.length) lss := by
  refine ⟨us, ⟨_, _, rfl, Nat.le_refl _, by unfold maxLen; omega, (fun h => by cases h), fun _ => ⟨w.heap.size, 0, rfl, Nat.lt_succ_self _, fun j u hu => ?_⟩⟩, hl, fun k u l a b => ((h k u l a b).alloc (Nat.le_refl _) _).more (Nat.le_succ _)⟩
  rw [Nat.zero_add, World.cell?_alloc_mark]
  simpa using hu
theorem RdRows.lit1 (w : World) (e : TypeId) {a : Value} {la : List (List UInt8)} (ha : (fun u l => RdAll w w.heap.size u l) a la) : RdRows (w.alloc (.cells #[a] e)) (w.heap.size + 1) (.slice (some ⟨w.heap.size, 0, none⟩) 1 1) [la] := by
  refine RdRows.lit w e [a] [la] rfl (by simp) fun k u m hu hm => ?_
  match k, hu, hm with
  | 0, hu, hm => simp at hu hm; subst hu hm; exact ha
theorem RdRows.lit2 (w : World) (e : TypeId) {a b : Value} {la lb : List (List UInt8)} (ha : (fun u l => RdAll w w.heap.size u l) a la) (hb : (fun u l => RdAll w w.heap.size u l) b lb) : RdRows (w.alloc (.cells #[a, b] e)) (w.heap.size + 1) (.slice (some ⟨w.heap.size, 0, none⟩) 2 2) [la, lb] := by
  refine RdRows.lit w e [a, b] [la, lb] rfl (by simp) fun k u m hu hm => ?_
  match k, hu, hm with
  | 0, hu, hm => simp at hu hm; subst hu hm; exact ha
  | 1, hu, hm => simp at hu hm; subst hu hm; exact hb
theorem RdRows.lit3 (w : World) (e : TypeId) {a b c : Value} {la lb lc : List (List UInt8)} (ha : (fun u l => RdAll w w.heap.size u l) a la) (hb : (fun u l => RdAll w w.heap.size u l) b lb) (hc : (fun u l => RdAll w w.heap.size u l) c lc) : RdRows (w.alloc (.cells #[a, b, c] e)) (w.heap.size + 1) (.slice (some ⟨w.heap.size, 0, none⟩) 3 3) [la, lb, lc] := by
  refine RdRows.lit w e [a, b, c] [la, lb, lc] rfl (by simp) fun k u m hu hm => ?_
  match k, hu, hm with
  | 0, hu, hm => simp at hu hm; subst hu hm; exact ha
  | 1, hu, hm => simp at hu hm; subst hu hm; exact hb
  | 2, hu, hm => simp at hu hm; subst hu hm; exact hc
/-- The slice x has, in w, slices that have the rows lss. -/
def RdRowsI (w : World) (B : Nat) (x : Value) (lss : List (List (Int))) : Prop :=
  ∃ vs, Rd w B x vs ∧ vs.length = lss.length ∧ ∀ (k : Nat) (u : Value) (l : List (Int)), vs[k]? = some u → lss[k]? = some l → Rd w B u (cellsI l)
theorem RdRowsI.cell {w : World} {B : Nat} {A : Option Addr} {n c : Nat} {lss : List (List (Int))} (h : RdRowsI w B (.slice A n c) lss) {k : Nat} (hk : k < n) :
    ∃ b o u, A = some ⟨b, o, none⟩ ∧ b < B ∧ w.cell? ⟨b, o + k, none⟩ = some u ∧ (fun u l => Rd w B u (cellsI l)) u (lss.getD k []) := by
  obtain ⟨vs, ⟨A1, c1, e, g1, g2, g3, g4⟩, hl, hel⟩ := h
  injection e with e1 e2 e3
  subst e1 e2 e3
  obtain ⟨b, o, rfl, hb, hc⟩ := g4 (by omega)
  have h1 : vs[k]? = some vs[k] := List.getElem?_eq_getElem hk
  have h2 : lss[k]? = some (lss.getD k []) := by simp [List.getD, show k < lss.length by omega]
  exact ⟨b, o, _, rfl, hb, hc k _ h1, hel k _ _ h1 h2⟩
theorem RdRowsI.len {w : World} {B : Nat} {A : Option Addr} {n c : Nat} {lss : List (List (Int))} (h : RdRowsI w B (.slice A n c) lss) : n = lss.length ∧ n ≤ c ∧ c ≤ 9223372036854775807 := by
  obtain ⟨vs, ⟨A1, c1, e, g1, g2, g3, g4⟩, hl, hel⟩ := h
  injection e with e1 e2 e3
  unfold maxLen at g2
  omega
theorem RdRowsI.keep {w w' : World} {B : Nat} {x : Value} {lss : List (List (Int))} (h : RdRowsI w B x lss) (hk : ∀ p : Addr, p.block < B → w'.cell? p = w.cell? p) : RdRowsI w' B x lss := by
  obtain ⟨vs, h1, h2, h3⟩ := h
  exact ⟨vs, h1.keep hk, h2, fun k u l a b => (h3 k u l a b).keep hk⟩
theorem RdRowsI.below {w w' : World} {B : Nat} {x : Value} {lss : List (List (Int))} (h : RdRowsI w B x lss) (hb : Below B w w') : RdRowsI w' B x lss := h.keep fun _ hp => hb.cell hp
theorem RdRowsI.lit (w : World) (e : TypeId) (us : List Value) (lss : List (List (Int))) (hl : us.length = lss.length) (hm : us.length ≤ 100) (h : ∀ (k : Nat) (u : Value) (l : List (Int)), us[k]? = some u → lss[k]? = some l → Rd w w.heap.size u (cellsI l)) :
    RdRowsI (w.alloc (.cells us.toArray e)) (w.heap.size + 1) (.slice (some ⟨w.heap.size, 0, none⟩) us.length us.length) lss := by
  refine ⟨us, ⟨_, _, rfl, Nat.le_refl _, by unfold maxLen; omega, (fun h => by cases h), fun _ => ⟨w.heap.size, 0, rfl, Nat.lt_succ_self _, fun j u hu => ?_⟩⟩, hl, fun k u l a b => ((h k u l a b).alloc (Nat.le_refl _) _).more (Nat.le_succ _)⟩
  rw [Nat.zero_add, World.cell?_alloc_mark]
  simpa using hu
theorem RdRowsI.lit1 (w : World) (e : TypeId) {a : Value} {la : List (Int)} (ha : (fun u l => Rd w w.heap.size u (cellsI l)) a la) : RdRowsI (w.alloc (.cells #[a] e)) (w.heap.size + 1) (.slice (some ⟨w.heap.size, 0, none⟩) 1 1) [la] := by
  refine RdRowsI.lit w e [a] [la] rfl (by simp) fun k u m hu hm => ?_
  match k, hu, hm with
  | 0, hu, hm => simp at hu hm; subst hu hm; exact ha
theorem RdRowsI.lit2 (w : World) (e : TypeId) {a b : Value} {la lb : List (Int)} (ha : (fun u l => Rd w w.heap.size u (cellsI l)) a la) (hb : (fun u l => Rd w w.heap.size u (cellsI l)) b lb) : RdRowsI (w.alloc (.cells #[a, b] e)) (w.heap.size + 1) (.slice (some ⟨w.heap.size, 0, none⟩) 2 2) [la, lb] := by
  refine RdRowsI.lit w e [a, b] [la, lb] rfl (by simp) fun k u m hu hm => ?_
  match k, hu, hm with
  | 0, hu, hm => simp at hu hm; subst hu hm; exact ha
  | 1, hu, hm => simp at hu hm; subst hu hm; exact hb
theorem RdRowsI.lit3 (w : World) (e : TypeId) {a b c : Value} {la lb lc : List (Int)} (ha : (fun u l => Rd w w.heap.size u (cellsI l)) a la) (hb : (fun u l => Rd w w.heap.size u (cellsI l)) b lb) (hc : (fun u l => Rd w w.heap.size u (cellsI l)) c lc) : RdRowsI (w.alloc (.cells #[a, b, c] e)) (w.heap.size + 1) (.slice (some ⟨w.heap.size, 0, none⟩) 3 3) [la, lb, lc] := by
  refine RdRowsI.lit w e [a, b, c] [la, lb, lc] rfl (by simp) fun k u m hu hm => ?_
  match k, hu, hm with
  | 0, hu, hm => simp at hu hm; subst hu hm; exact ha
  | 1, hu, hm => simp at hu hm; subst hu hm; exact hb
  | 2, hu, hm => simp at hu hm; subst hu hm; exact hc
theorem RdT.kept {w w' : World} {B0 base : Nat} {x : Value} {ms : List (List UInt8)} (h : RdT w B0 base x ms) (hb : Below w.heap.size w w') (hB : B0 ≤ base) : RdT w' B0 base x ms := by
  obtain ⟨vs, h1, h2, h3⟩ := h
  exact ⟨vs, (h1.below hb).more hb.size, h2, fun k u l a b => (h3 k u l a b).keep (Fr.below hb) (RowB.none _ _) hB⟩
theorem RdT.form {w : World} {B0 base : Nat} {x : Value} {ms : List (List UInt8)} (h : RdT w B0 base x ms) : ∃ A c, x = .slice A ms.length c ∧ RdT w B0 base (.slice A ms.length c) ms := by
  have h0 := h
  obtain ⟨vs, ⟨A, c, rfl, _⟩, hl, _⟩ := h
  rw [hl] at h0 ⊢
  exact ⟨A, c, rfl, h0⟩
theorem wpList_append_T2 {w : World} {ops : Array Oper} {rest : List Oper} {o : Oper} {a : Act} {Q : Exit → Act → World → Prop} {B0 base : Nat} (hgd : o.guard = none) (s x : Operand)
    (ho : o.op = .call { callee := .builtin .append, args := #[s, x], argTypes := #[24, 24] }) (hty : o.type = 24)
    (v : Value) (ls : List (List UInt8)) (hs : a.eval s = v) (hown : OwnT w B0 base v ls) (y : Value) (ms : List (List UInt8)) (hx : a.eval x = y) (hr : RdT w B0 base y ms)
    (hbound : ls.length + ms.length ≤ 1000000000) (hbase : base ≤ w.heap.size) (hB : B0 ≤ base)
    (h : ∀ A n c w', OwnT w' B0 base (.slice A n c) (ls ++ ms) → w.grownBy w' v.ownBlock → ((Value.slice A n c).ownBlock = v.ownBlock ∨ (Value.slice A n c).ownBlock = some w.heap.size) → wpList Try.prog ops Q rest (a.put o.dst (.slice A n c)) w') : wpList Try.prog ops Q (o :: rest) a w := by
  refine wpList_plain hgd fun K hK => ?_
  obtain ⟨A, n, c, w', hrun, h1, h2, h3, h4⟩ := hown.append hr hbound hbase hB
  unfold Oper.wp execOp
  simp only [ho, hty, resolve, invoke, builtin, Sem.run_bind, Sem.run_pure, Result.andThen_ok, List.map_toArray, List.map_cons, List.map_nil, hs, hx, hrun]
  exact hK _ _ (h A n c w' h1 h2 h4)
/-- The slice x has, in w, slices that have the rows lss, their texts below B0 or from base on. -/
def RdRowsT (w : World) (B0 base : Nat) (x : Value) (lss : List (List (List UInt8))) : Prop :=
  ∃ vs, Rd w w.heap.size x vs ∧ vs.length = lss.length ∧ ∀ (k : Nat) (u : Value) (l : List (List UInt8)), vs[k]? = some u → lss[k]? = some l → RdT w B0 base u l
theorem RdRowsT.kept {w w' : World} {B0 base : Nat} {x : Value} {lss : List (List (List UInt8))} (h : RdRowsT w B0 base x lss) (hb : Below w.heap.size w w') (hB : B0 ≤ base) : RdRowsT w' B0 base x lss := by
  obtain ⟨vs, h1, h2, h3⟩ := h
  exact ⟨vs, (h1.below hb).more hb.size, h2, fun k u l a b => (h3 k u l a b).kept hb hB⟩
theorem RdRowsT.cell {w : World} {B0 base : Nat} {A : Option Addr} {n c : Nat} {lss : List (List (List UInt8))} (h : RdRowsT w B0 base (.slice A n c) lss) {k : Nat} (hk : k < n) :
    ∃ b o u, A = some ⟨b, o, none⟩ ∧ b < w.heap.size ∧ w.cell? ⟨b, o + k, none⟩ = some u ∧ RdT w B0 base u (lss.getD k []) := by
  obtain ⟨vs, ⟨A1, c1, e, g1, g2, g3, g4⟩, hl, hel⟩ := h
  injection e with e1 e2 e3
  subst e1 e2 e3
  obtain ⟨b, o, rfl, hb, hc⟩ := g4 (by omega)
  have h1 : vs[k]? = some vs[k] := List.getElem?_eq_getElem hk
  have h2 : lss[k]? = some (lss.getD k []) := by simp [List.getD, show k < lss.length by omega]
  exact ⟨b, o, _, rfl, hb, hc k _ h1, hel k _ _ h1 h2⟩
theorem RdRowsT.len {w : World} {B0 base : Nat} {A : Option Addr} {n c : Nat} {lss : List (List (List UInt8))} (h : RdRowsT w B0 base (.slice A n c) lss) : n = lss.length ∧ n ≤ c ∧ c ≤ 9223372036854775807 := by
  obtain ⟨vs, ⟨A1, c1, e, g1, g2, g3, g4⟩, hl, hel⟩ := h
  injection e with e1 e2 e3
  unfold maxLen at g2
  omega
theorem RdRowsT.lit {B0 base : Nat} (hB : B0 ≤ base) (w : World) (e : TypeId) (us : List Value) (lss : List (List (List UInt8))) (hl : us.length = lss.length) (hm : us.length ≤ 100) (h : ∀ (k : Nat) (u : Value) (l : List (List UInt8)), us[k]? = some u → lss[k]? = some l → RdT w B0 base u l) :
    RdRowsT (w.alloc (.cells us.toArray e)) B0 base (.slice (some ⟨w.heap.size, 0, none⟩) us.length us.length) lss := by
  refine ⟨us, ⟨_, _, rfl, Nat.le_refl _, by unfold maxLen; omega, (fun h => by cases h), fun _ => ⟨w.heap.size, 0, rfl, by simp, fun j u hu => ?_⟩⟩, hl, fun k u l a b => (h k u l a b).kept ((Below.refl _ _).alloc (Nat.le_refl _) _) hB⟩
  rw [Nat.zero_add, World.cell?_alloc_mark]
  simpa using hu
theorem RdRowsT.lit2 {B0 base : Nat} (hB : B0 ≤ base) (w : World) (e : TypeId) {a b : Value} {la lb : List (List UInt8)} (ha : RdT w B0 base a la) (hb : RdT w B0 base b lb) : RdRowsT (w.alloc (.cells #[a, b] e)) B0 base (.slice (some ⟨w.heap.size, 0, none⟩) 2 2) [la, lb] := by
  refine RdRowsT.lit hB w e [a, b] [la, lb] rfl (by simp) fun k u m hu hm => ?_
  match k, hu, hm with
  | 0, hu, hm => simp at hu hm; subst hu hm; exact ha
  | 1, hu, hm => simp at hu hm; subst hu hm; exact hb
theorem RdRowsT.lit3 {B0 base : Nat} (hB : B0 ≤ base) (w : World) (e : TypeId) {a b c : Value} {la lb lc : List (List UInt8)} (ha : RdT w B0 base a la) (hb : RdT w B0 base b lb) (hc : RdT w B0 base c lc) : RdRowsT (w.alloc (.cells #[a, b, c] e)) B0 base (.slice (some ⟨w.heap.size, 0, none⟩) 3 3) [la, lb, lc] := by
  refine RdRowsT.lit hB w e [a, b, c] [la, lb, lc] rfl (by simp) fun k u m hu hm => ?_
  match k, hu, hm with
  | 0, hu, hm => simp at hu hm; subst hu hm; exact ha
  | 1, hu, hm => simp at hu hm; subst hu hm; exact hb
  | 2, hu, hm => simp at hu hm; subst hu hm; exact hc
set_option maxHeartbeats 1000000 in
theorem concatT_any (A : Option Addr) (n c : Nat) (lss : List (List (List UInt8))) (w : World) (B0 base : Nat) (hr : RdRowsT w B0 base (.slice A n c) lss) (hbs : base ≤ w.heap.size) (hB : B0 ≤ base) (hn : n ≤ 100) (hs : lss.flatten.length ≤ 1000000) :
    Calls Try.prog 40 #[.slice A n c] w fun e w' => ∃ v, e = .returned v ∧ OwnT w' B0 base v lss.flatten ∧ Below w.heap.size w w' := by
  obtain ⟨hl, hnc, hcm⟩ := hr.len
  have hmore := fun k (h : k < n) => flat_more lss (k := k) (by omega)
  have hle := fun k => flat_le lss k
  have hall : (lss.take n).flatten = lss.flatten := by rw [hl, List.take_length]
  have HM := Lib.hid hmore
  have HL := Lib.hid hle
  have HA := Lib.hid hall
  have HS := Lib.hid hs
  clear hl hmore hle hall hs
  go_enter Try.func40, Try.ntmps40
  go_wp2_with fail
  go_loop [3, 11] (fun sv iv => ∃ k : Nat, k ≤ n ∧ iv = .int .i64 (k : Int) ∧ sv = .int .i64 ((lss.take k).flatten.length : Nat)) (fun _ iv => n - (intOf iv).toNat)
  case atStart => exact ⟨0, Nat.zero_le _, rfl, rfl⟩
  case round =>
    obtain ⟨k, hk, rfl, rfl⟩ := hrel
    by_cases hlt : k < n
    · obtain ⟨b, o, u, rfl, hb, hc, hu⟩ := hr.cell hlt
      obtain ⟨A2, c2, rfl, hu⟩ := hu.form
      have hmo := HM.out k hlt
      have hle1 := HL.out (k + 1)
      rw [hmo, List.length_append] at hle1
      have hs := HS.out
      obtain ⟨p, hp⟩ : ∃ p, p = (lss.take k).flatten.length := ⟨_, rfl⟩
      obtain ⟨q, hq⟩ : ∃ p, p = (lss.getD k []).length := ⟨_, rfl⟩
      rw [← hp, ← hq] at hle1
      rw [← hp]
      rw [← hq] at hc
      have hpq : p + q ≤ 1000000 := by omega
      have Hst := Lib.hid (show (lss.take (k + 1)).flatten.length = p + q by rw [hmo, List.length_append, hp, hq])
      clear hmo hle1 hs hp hq
      go_wp2_with fail
      go_round
      case rel => exact ⟨k + 1, by omega, by go_num, by rw [Hst.out]; go_num⟩
      case measure => simp [intOf]; omega
    · have h5 : n ≤ k := by omega
      have Hk := Lib.hid (show k = n by omega)
      have hle1 := HL.out k
      have hs := HS.out
      obtain ⟨p, hp⟩ : ∃ p, p = (lss.take k).flatten.length := ⟨_, rfl⟩
      rw [← hp] at hle1 ⊢
      have hp2 : p ≤ 1000000 := by omega
      clear hlt hp hle1 hs
      go_wp2_with (go_at_call 55; refine (growT_nil p w hp2).mono ?_; rintro e w1 ⟨A1, c1, rfl, hm, hb1⟩; have Hb1 := Lib.hid hb1; have Hm1 := Lib.hid hm; clear hb1 hm)
      go_loopw [6, 27] (fun v iv wr => ∃ k : Nat, k ≤ n ∧ iv = .int .i64 (k : Int) ∧ Hid (OwnT wr B0 base v (lss.take k).flatten ∧ Below w.heap.size w wr ∧ ∀ j, v.ownBlock = some j → w.heap.size ≤ j)) (fun _ iv _ => n - (intOf iv).toNat)
      case atStart =>
        have hm := Hm1.out
        exact ⟨0, Nat.zero_le _, rfl, Lib.hid ⟨⟨[], hm.weaken hbs, by simp, fun k u l h => by simp at h⟩, Hb1.out, fun j hj => (hm.block j hj).1⟩⟩
      case round =>
        obtain ⟨k9, hk9, rfl, HI⟩ := hrel
        by_cases hlt : k9 < n
        · obtain ⟨b, o, u, rfl, hb, hc, hu⟩ := (hr.kept HI.out.2.1 hB).cell hlt
          obtain ⟨A2, c2, rfl, hu⟩ := hu.form
          have hmo := HM.out k9 hlt
          have hle1 := HL.out (k9 + 1)
          rw [hmo, List.length_append] at hle1
          have hs := HS.out
          obtain ⟨q, hq⟩ : ∃ p, p = (lss.getD k9 []).length := ⟨_, rfl⟩
          obtain ⟨M, hM⟩ : ∃ M, M = (lss.take k9).flatten := ⟨_, rfl⟩
          obtain ⟨L9, hL9⟩ : ∃ M, M = lss.getD k9 [] := ⟨_, rfl⟩
          rw [← hL9] at hq hle1 hmo hu hc
          rw [← hq] at hc hle1 hu
          rw [← hM] at hmo hle1
          have Hi : Hid (OwnT wr B0 base u6 M ∧ Below w.heap.size w wr ∧ ∀ j, u6.ownBlock = some j → w.heap.size ≤ j) := Lib.hid (by rw [hM]; exact HI.out)
          have hML : M.length + L9.length ≤ 1000000 := by omega
          have HML := Lib.hid hML
          have Hmo := Lib.hid hmo
          have Hu := Lib.hid hu
          have Hq := Lib.hid hq
          clear hmo hle1 hs hq hM hL9 HI hu hML
          go_wp2_with (at_builtin; refine wpList_append_T2 rfl (.tmp 31) (.tmp 32) rfl rfl u6 M rfl Hi.out.1 _ L9 rfl Hu.out (by have := HML.out; omega) (Nat.le_trans hbs Hi.out.2.1.size) hB ?_; intro A3 n3 c3 w3 ho3 hg3 hv3)
          go_roundw
          case rel =>
            refine ⟨k9 + 1, by omega, by go_num, Lib.hid ⟨?_, Hi.out.2.1.trans ((Below.refl _ _).grown hg3 Hi.out.2.1.size Hi.out.2.2), fun j hj => by
              rcases hv3 with e | e
              · exact Hi.out.2.2 j (e ▸ hj)
              · rw [e] at hj; injection hj with hj; have := Hi.out.2.1.size; omega⟩⟩
            rw [Hmo.out]
            exact ho3
          case measure => simp [intOf]; omega
        · have h6 : n ≤ k9 := by omega
          have Hk9 := Lib.hid (show k9 = n by omega)
          clear hlt
          go_wp2_with fail
          go_ret
          have h := HI.out.1
          rw [Hk9.out, HA.out] at h
          exact ⟨_, rfl, h, HI.out.2.1⟩
set_option maxHeartbeats 1000000 in
theorem concatI_any (A : Option Addr) (n c : Nat) (lss : List (List (Int))) (w : World) (B : Nat) (hr : RdRowsI w B (.slice A n c) lss) (hB : B ≤ w.heap.size) (hn : n ≤ 100) (hs : lss.flatten.length ≤ 1000000) :
    Calls Try.prog 45 #[.slice A n c] w fun e w' => ∃ v, e = .returned v ∧ Mine w' w.heap.size 3 v (cellsI lss.flatten) ∧ Below w.heap.size w w' := by
  obtain ⟨ti, hi, hz0, hz1, hz2⟩ := info_parts info_int
  obtain ⟨hl, hnc, hcm⟩ := hr.len
  have hmore := fun k (h : k < n) => flat_more lss (k := k) (by omega)
  have hle := fun k => flat_le lss k
  have hall : (lss.take n).flatten = lss.flatten := by rw [hl, List.take_length]
  have HM := Lib.hid hmore
  have HL := Lib.hid hle
  have HA := Lib.hid hall
  have HS := Lib.hid hs
  clear hl hmore hle hall hs
  go_enter Try.func45, Try.ntmps45
  go_wp2_with fail
  go_loop [3, 11] (fun sv iv => ∃ k : Nat, k ≤ n ∧ iv = .int .i64 (k : Int) ∧ sv = .int .i64 ((lss.take k).flatten.length : Nat)) (fun _ iv => n - (intOf iv).toNat)
  case atStart => exact ⟨0, Nat.zero_le _, rfl, rfl⟩
  case round =>
    obtain ⟨k, hk, rfl, rfl⟩ := hrel
    by_cases hlt : k < n
    · obtain ⟨b, o, u, rfl, hb, hc, hu⟩ := hr.cell hlt
      obtain ⟨A2, c2, e2, hu⟩ := hu.formI
      subst e2
      have hmo := HM.out k hlt
      have hle1 := HL.out (k + 1)
      rw [hmo, List.length_append] at hle1
      have hs := HS.out
      obtain ⟨p, hp⟩ : ∃ p, p = (lss.take k).flatten.length := ⟨_, rfl⟩
      obtain ⟨q, hq⟩ : ∃ p, p = (lss.getD k []).length := ⟨_, rfl⟩
      rw [← hp, ← hq] at hle1
      rw [← hp]
      rw [← hq] at hc
      have hpq : p + q ≤ 1000000 := by omega
      have Hst := Lib.hid (show (lss.take (k + 1)).flatten.length = p + q by rw [hmo, List.length_append, hp, hq])
      clear hmo hle1 hs hp hq
      go_wp2_with fail
      go_round
      case rel => exact ⟨k + 1, by omega, by go_num, by rw [Hst.out]; go_num⟩
      case measure => simp [intOf]; omega
    · have h5 : n ≤ k := by omega
      have Hk := Lib.hid (show k = n by omega)
      have hle1 := HL.out k
      have hs := HS.out
      obtain ⟨p, hp⟩ : ∃ p, p = (lss.take k).flatten.length := ⟨_, rfl⟩
      rw [← hp] at hle1 ⊢
      have hp2 : p ≤ 1000000 := by omega
      clear hlt hp hle1 hs
      go_wp2_with (go_at_call 59; refine (growI_nil p w hp2).mono ?_; rintro e w1 ⟨A1, c1, rfl, hm, hb1⟩; have Hb1 := Lib.hid hb1; have Hm1 := Lib.hid hm; clear hb1 hm)
      go_loopw [6, 27] (fun v iv wr => ∃ k : Nat, k ≤ n ∧ iv = .int .i64 (k : Int) ∧ Hid (Mine wr w.heap.size 3 v (cellsI (lss.take k).flatten) ∧ Below w.heap.size w wr)) (fun _ iv _ => n - (intOf iv).toNat)
      case atStart =>
        have hm := Hm1.out
        exact ⟨0, Nat.zero_le _, rfl, Lib.hid ⟨by rw [List.take_zero]; exact hm, Hb1.out⟩⟩
      case round =>
        obtain ⟨k9, hk9, rfl, HI⟩ := hrel
        by_cases hlt : k9 < n
        · obtain ⟨b, o, u, rfl, hb, hc, hu⟩ := (hr.below (HI.out.2.mono hB)).cell hlt
          obtain ⟨A2, c2, e2, hu⟩ := hu.formI
          subst e2
          have hmo := HM.out k9 hlt
          have hle1 := HL.out (k9 + 1)
          rw [hmo, List.length_append] at hle1
          have hs := HS.out
          obtain ⟨q, hq⟩ : ∃ p, p = (lss.getD k9 []).length := ⟨_, rfl⟩
          obtain ⟨M, hM⟩ : ∃ M, M = (lss.take k9).flatten := ⟨_, rfl⟩
          obtain ⟨L9, hL9⟩ : ∃ M, M = lss.getD k9 [] := ⟨_, rfl⟩
          rw [← hL9] at hq hle1 hmo hu hc
          rw [← hq] at hc hle1 hu
          rw [← hM] at hmo hle1
          have Hi : Hid (Mine wr w.heap.size 3 u6 (cellsI M) ∧ Below w.heap.size w wr) := Lib.hid (by rw [hM]; exact HI.out)
          have hML : M.length + L9.length ≤ 1000000 := by omega
          have HML := Lib.hid hML
          have Hmo := Lib.hid hmo
          have Hu := Lib.hid hu
          have Hq := Lib.hid hq
          clear hmo hle1 hs hq hM hL9 HI hu hML
          go_wp2_with (at_builtin; refine wpList_append_rd rfl (.tmp 31) (.tmp 32) 25 rfl w.heap.size 3 ti _ 8 Try.underlying25 hi hz0 hz1 hz2 rfl u6 (cellsI M) rfl Hi.out.1 B _ (cellsI L9) rfl Hu.out (cellsI_one _) (by have := HML.out; rw [cellsI_length, cellsI_length]; omega) (by have := HML.out; unfold maxLen; rw [cellsI_length, cellsI_length]; omega) Hi.out.2.size ?_; intro v3 w3 ho3 hb3 _ _)
          go_roundw
          case rel =>
            refine ⟨k9 + 1, by omega, by go_num, Lib.hid ⟨?_, Hi.out.2.trans hb3⟩⟩
            rw [Hmo.out]
            rw [cellsI_append]
            exact ho3
          case measure => simp [intOf]; omega
        · have h6 : n ≤ k9 := by omega
          have Hk9 := Lib.hid (show k9 = n by omega)
          clear hlt
          go_wp2_with fail
          go_ret
          have h := HI.out.1
          rw [Hk9.out, HA.out] at h
          exact ⟨_, rfl, h, HI.out.2⟩
end Go.Proofs.Ytceefoopehoalaa
