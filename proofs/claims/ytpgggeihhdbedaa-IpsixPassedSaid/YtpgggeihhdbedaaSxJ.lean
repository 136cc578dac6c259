/-
  What IpsixPassed wants besides: the head that is read, a head's kind stored, an append in a drawn region, a head between as it is made.
-/
import Derived.Test.YtpgggeihhdbedaaSxH
import Derived.Test.YtpgggeihhdbedaaMineSet
namespace Go.Proofs.Ytpgggeihhdbedaa
open Go.RowKit
theorem sxPassed (h : Hd) (hw : h.Wide) (hm : h.may6 = true) (L : List UInt8) (p : UInt8) (hp : stands p = false) (d : List UInt8) (hd : (sxChain p L ++ d).length ≤ 2008) :
    (L.length ≤ 8 → sxErr ((sxBytes h (sxChain p L ++ d)).set 6 (if L = [] then p else 60)) = 0 ∧ sxRead ((sxBytes h (sxChain p L ++ d)).set 6 (if L = [] then p else 60)) = ⟨h.six, p, 40 + ((sxChain p L).length : Nat), h.src, h.dst, h.part, h.hops⟩) ∧
    (8 < L.length → sxErr ((sxBytes h (sxChain p L ++ d)).set 6 (if L = [] then p else 60)) = 10 ∧ sxRead ((sxBytes h (sxChain p L ++ d)).set 6 (if L = [] then p else 60)) = Hd.zero) := by
  obtain ⟨e1, e2, e3⟩ := sx_of h hw hm (sxChain p L ++ d) hd (if L = [] then p else 60)
  obtain ⟨c1, c2⟩ := sxWalk_chain p hp L 8 ⟨h.six, if L = [] then p else 60, 40, h.src, h.dst, h.part, h.hops⟩ d rfl
  have hE := sxErr_two e1
  rw [e2, e3] at hE
  have hE2 : sxErr ((sxBytes h (sxChain p L ++ d)).set 6 (if L = [] then p else 60)) = if 8 < L.length then 10 else 0 := hE.trans c1
  constructor
  · intro hL
    rw [if_neg (show ¬ 8 < L.length by omega)] at hE2
    refine ⟨hE2, ?_⟩
    unfold sxRead
    rw [if_pos hE2, e2, e3]
    exact c2 hL
  · intro hL
    rw [if_pos (show 8 < L.length from hL)] at hE2
    refine ⟨hE2, ?_⟩
    unfold sxRead
    rw [hE2]
    rfl
theorem HdAt.kind {w : World} {g : Nat} {h : Hd} (hp : HdAt w g h) (hw : h.Wide) (p : UInt8) : HdAt (w.setCell ⟨g, 1, none⟩ (.int .u8 (p.toNat : Int))) g ⟨h.six, p, h.pos, h.src, h.dst, h.part, h.hops⟩ := by
  unfold HdAt at hp ⊢
  rw [row_setCell_at hp]
  obtain ⟨s0, p0, n0, ⟨s1, x1⟩, ⟨s2, x2⟩, q0, k0⟩ := h
  obtain ⟨a1, a2, a3, a4, a5, a6, a7, a8, a9, a10, a11, a12, a13, a14, a15, a16, rfl⟩ := list16 hw.1
  obtain ⟨b1, b2, b3, b4, b5, b6, b7, b8, b9, b10, b11, b12, b13, b14, b15, b16, rfl⟩ := list16 hw.2
  rfl
theorem HdAt.whole {w : World} {g : Nat} {h : Hd} (hp : HdAt w g h) : w.rangeAt g 0 (hdC h) := rangeAt_block hp fun j u hu => by rw [Nat.zero_add]; exact hu
theorem HdAt.far {w w' : World} {g b j : Nat} {u : Value} {h : Hd} (hp : HdAt w g h) (hb : g ≠ b) : HdAt (w.setCell ⟨b, j, none⟩ u) g h := (heap_setCell_other w ⟨b, j, none⟩ g u hb).trans hp
theorem Mine.outside {w : World} {base : Nat} {e : TypeId} {v : Value} {xs : List Value} (h : Mine w base e v xs) {b i : Nat} {u : Value} (hb : b < base) : Mine (w.setCell ⟨b, i, none⟩ u) base e v xs := h.grown (grown_one w b i u) (.inr fun e => by have := h.block _ e; omega)
theorem op_append_rd {P : Program} {w : World} {o : Oper} {a : Act} {K : Act → World → Prop} {Q : Exit → Act → World → Prop} (hgd : o.guard = none) (s x : Operand) (t : TypeId)
    (ho : o.op = .call { callee := .builtin .append, args := #[s, x], argTypes := #[t, t] })
    (base : Nat) (e : TypeId) (i : TypeInfo) (z : Value) (bytes : Nat) (ht : P.underlying t = some (.slice e)) (hi : P.info? e = some i) (hz : i.zero = some z)
    (hsize : i.size = 1) (hby : i.bytes = bytes) (hzs : z.cells.size = 1)
    (v : Value) (xs : List Value) (hs : a.eval s = v) (hown : Mine w base e v xs)
    (B : Nat) (y : Value) (news : List Value) (hx : a.eval x = y) (hr : Rd w B y news) (h1 : ∀ u ∈ news, u.oneCell' = true)
    (hbound : (xs.length + news.length) * bytes ≤ 140737488355328) (hlen : xs.length + news.length ≤ maxLen) (hbase : base ≤ w.heap.size)
    (h : ∀ v' w', Mine w' base e v' (xs ++ news) → Below base w w' → w.grownBy w' v.ownBlock → (v'.ownBlock = v.ownBlock ∨ v'.ownBlock = some w.heap.size) → K (a.put o.dst v') w') :
    Oper.wp P o a w K Q := by
  have hw : Region.wanted o (yielded #[] a.tmps) = true := by simp [Region.wanted, hgd]
  have hh := step_append_rd (ops := #[]) (E := True) (Q := Q) hgd s x t ho base e i z bytes ht hi hz hsize hby hzs v xs hs hown B y news hx hr h1 hbound hlen hbase h
  rw [if_pos hw] at hh
  exact hh
theorem made_zero (N : Nat) : (madeCells (Value.int IntKind.u8 0).cells (N * 1)).toList = cellsB (List.replicate N 0) := by
  rw [low_zero N 0]
  simp [be]
theorem ext_first (s : UInt8) : ((List.replicate (8 + 8 * (s % 4).toNat) (0 : UInt8)).set 0 60).set 1 (s % 4) = sxExt 60 s := by
  rw [show 8 + 8 * (s % 4).toNat = (6 + 8 * (s % 4).toNat) + 1 + 1 by omega, List.replicate_succ, List.replicate_succ]
  rfl
theorem ext_last (p s : UInt8) : (sxExt 60 s).set 0 p = sxExt p s := rfl
theorem sxPre_length_le : ∀ L : List UInt8, (sxPre L).length ≤ 32 * L.length
  | [] => by simp [sxPre]
  | s :: L => by
    have h1 := mod4_lt s
    have h2 := sxPre_length_le L
    simp only [sxPre, List.flatMap_cons, List.length_append, sxExt_length, List.length_cons] at h2 ⊢
    omega
theorem sxUpto_length_le (p : UInt8) (L : List UInt8) (k : Nat) : (sxUpto p L k).length ≤ 32 * L.length := by
  unfold sxUpto
  split
  · have := sxPre_length_le (L.take k)
    rw [List.length_take] at this
    omega
  · exact sxChain_length_le p L
/-- A head between that the law has made, and stored into. -/
theorem ext_made {wr w2 : World} {base N : Nat} {av : Value} {xs : List Value} (s p : UInt8) (hA : Mine wr base 5 av xs)
    (hown : w2.ownsRow wr.heap.size 5 1 (.slice (some ⟨wr.heap.size, 0, none⟩) N N) N (madeCells (Value.int IntKind.u8 0).cells (N * 1)).toList) (hgr : wr.grownBy w2 none) (hN : N = 8 + 8 * (s % 4).toNat) :
    ((w2.cell? ⟨wr.heap.size, 0, none⟩ = some (.int .u8 0) ∧ w2.cell? ⟨wr.heap.size, 1, none⟩ = some (.int .u8 0)) ∧ w2.frozen? ⟨wr.heap.size, 0, none⟩ = false ∧ w2.frozen? ⟨wr.heap.size, 1, none⟩ = false) ∧
    (Mine ((w2.setCell ⟨wr.heap.size, 0, none⟩ (.int .u8 60)).setCell ⟨wr.heap.size, 1, none⟩ (.int .u8 ((s % 4).toNat : Int))) base 5 av xs ∧
      Rd ((w2.setCell ⟨wr.heap.size, 0, none⟩ (.int .u8 60)).setCell ⟨wr.heap.size, 1, none⟩ (.int .u8 ((s % 4).toNat : Int))) w2.heap.size (.slice (some ⟨wr.heap.size, 0, none⟩) N N) (cellsB (sxExt 60 s)) ∧
      Below wr.heap.size wr ((w2.setCell ⟨wr.heap.size, 0, none⟩ (.int .u8 60)).setCell ⟨wr.heap.size, 1, none⟩ (.int .u8 ((s % 4).toNat : Int)))) ∧
    (Mine (((w2.setCell ⟨wr.heap.size, 0, none⟩ (.int .u8 60)).setCell ⟨wr.heap.size, 1, none⟩ (.int .u8 ((s % 4).toNat : Int))).setCell ⟨wr.heap.size, 0, none⟩ (.int .u8 (p.toNat : Int))) base 5 av xs ∧
      Rd (((w2.setCell ⟨wr.heap.size, 0, none⟩ (.int .u8 60)).setCell ⟨wr.heap.size, 1, none⟩ (.int .u8 ((s % 4).toNat : Int))).setCell ⟨wr.heap.size, 0, none⟩ (.int .u8 (p.toNat : Int))) w2.heap.size (.slice (some ⟨wr.heap.size, 0, none⟩) N N) (cellsB (sxExt p s)) ∧
      Below wr.heap.size wr (((w2.setCell ⟨wr.heap.size, 0, none⟩ (.int .u8 60)).setCell ⟨wr.heap.size, 1, none⟩ (.int .u8 ((s % 4).toNat : Int))).setCell ⟨wr.heap.size, 0, none⟩ (.int .u8 (p.toNat : Int)))) := by
  rw [made_zero] at hown
  have hX : Mine w2 wr.heap.size 5 (.slice (some ⟨wr.heap.size, 0, none⟩) N N) (cellsB (List.replicate N 0)) := Mine.of_own hown
  have hb2 : Below wr.heap.size wr w2 := (Below.refl _ _).grown hgr (Nat.le_refl _) (fun k h => by cases h)
  have hA2 : Mine w2 base 5 av xs := hA.grown hgr (by cases av.ownBlock <;> simp)
  have hne : av.ownBlock ≠ some wr.heap.size := fun e => by
    have := hA.block _ e
    omega
  have h1 := hX.stored 0 (.int .u8 60)
  have h2 := h1.stored 1 (.int .u8 ((s % 4).toNat : Int))
  have h3 := h2.stored 0 (.int .u8 (p.toNat : Int))
  have hA3 := (hA2.grown (grown_one w2 wr.heap.size 0 (.int .u8 60)) (.inr hne)).grown (grown_one (w2.setCell ⟨wr.heap.size, 0, none⟩ (.int .u8 60)) wr.heap.size 1 (.int .u8 ((s % 4).toNat : Int))) (.inr hne)
  have hA4 := hA3.grown (grown_one ((w2.setCell ⟨wr.heap.size, 0, none⟩ (.int .u8 60)).setCell ⟨wr.heap.size, 1, none⟩ (.int .u8 ((s % 4).toNat : Int))) wr.heap.size 0 (.int .u8 (p.toNat : Int))) (.inr hne)
  have hB3 := (hb2.setCell (p := ⟨wr.heap.size, 0, none⟩) (Nat.le_refl _) (.int .u8 60)).setCell (p := ⟨wr.heap.size, 1, none⟩) (Nat.le_refl _) (.int .u8 ((s % 4).toNat : Int))
  have hB4 := hB3.setCell (p := ⟨wr.heap.size, 0, none⟩) (Nat.le_refl _) (.int .u8 (p.toNat : Int))
  have e2 : ((cellsB (List.replicate N 0)).set 0 (.int .u8 60)).set 1 (.int .u8 ((s % 4).toNat : Int)) = cellsB (sxExt 60 s) := by
    rw [show (.int .u8 60 : Value) = .int .u8 (((60 : UInt8).toNat : Nat) : Int) by rfl, cellsB_set, cellsB_set, hN, ext_first]
  rw [e2] at h2 h3
  rw [cellsB_set, ext_last] at h3
  have hz : ∀ j, j < N → (cellsB (List.replicate N 0))[j]? = some (.int .u8 0) := fun j hj => by rw [cellsB_at _ j (by simpa using hj)]; simp
  exact ⟨⟨⟨hX.cellAt (hz 0 (by omega)), hX.cellAt (hz 1 (by omega))⟩, hX.free 0, hX.free 1⟩, ⟨hA3, by simpa using h2.rd, hB3⟩, hA4, by simpa using h3.rd, hB4⟩
end Go.Proofs.Ytpgggeihhdbedaa
