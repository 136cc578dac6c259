/-
  Arguments opened into the words of YtcandokefhbneaaWords: a slice that came in, read as data, has cells ('Rd'); a slice of bytes has bytes; a slice of slices of bytes has texts. And what a law's row asks behind the call.
-/
import Derived.Test.YtcandokefhbneaaRows
import Derived.Test.YtcandokefhbneaaWords
import Derived.ProofKit
import Derived.OpenShut
import Derived.ShutString
import Derived.ChangeOld
import Derived.Below
import Derived.Deep.Slices
namespace Go.Proofs.Ytcandokefhbneaa
open Go.ChangeShapes Go.WideShapes Go.ChangeAt Go.RowKit Go.Deep

section
variable {H : Type} {enc : TypeId × Value → H} {P : Program} {w : World} {base : Nat} {held : Bool}
theorem open_rd {t e : TypeId} {fuel : Nat} {u : Value} {x : DataW H × List MemPlace} (ht : P.underlying t = some (.slice e)) (hc : P.cellsOf e = 1)
    (h : DataW.trod enc P w base (fun _ => true) held fuel t [u] = some x) :
    ∃ vs : List Value, Rd w w.heap.size u vs ∧ ∀ v ∈ vs, ∃ n y, DataW.trod enc P w base (fun _ => true) held n e [v] = some y := by
  rcases open_slice1 ht hc h with ⟨e1, _⟩ | ⟨a, len, cap, m, n, V, D, Pl, e1, hb, hl, hm, hmm, rfl, hx⟩
  · injection e1 with e1
    subst e1
    exact ⟨[], Rd.nil _ _, fun v hv => by cases hv⟩
  · injection e1 with e1
    subst e1
    simp only [if_true] at hmm
    subst hmm
    refine ⟨(List.range len).map V, ⟨some a, m, by simp, by simpa using hl, hm, (fun h => by cases h), fun hp => ?_⟩, fun v hv => ?_⟩
    · simp only [List.length_map, List.length_range] at hp
      have h0 := (hx 0 (by omega)).1
      have hs := World.cell?_spot h0
      obtain ⟨b, o, sp⟩ := a
      have hsp : sp = none := by simpa [Addr.add] using hs
      subst hsp
      refine ⟨b, o, rfl, ?_, fun j u hu => ?_⟩
      · have := World.block_lt_of_cell? w _ h0
        simpa [Addr.add] using this
      · have hj : j < len := by
          have := (List.getElem?_eq_some_iff.1 hu).1
          simpa using this
        have hj2 := (hx j (by omega)).1
        rw [Addr.add_lit] at hj2
        rw [hj2]
        simp [hj] at hu
        rw [hu]
    · obtain ⟨i, hi, rfl⟩ := List.mem_map.1 hv
      exact ⟨n, _, (hx i (by have := List.mem_range.1 hi; omega)).2⟩

theorem u8_of_wf {n : Int} (h : (Lit.int .u8 n).wf = true) : ((UInt8.ofNat n.toNat).toNat : Int) = n := by
  simp only [Lit.wf, Bool.and_eq_true, decide_eq_true_eq] at h
  have h1 : (IntKind.u8.min : Int) = 0 := by decide
  have h2 : (IntKind.u8.max : Int) = 255 := by decide
  rw [h1, h2] at h
  rw [UInt8.toNat_ofNat']
  omega
theorem open_cellsB {q : TypeId} (hq : P.underlying q = some (.int .u8)) : ∀ vs : List Value, (∀ v ∈ vs, ∃ n y, DataW.trod enc P w base (fun _ => true) held n q [v] = some y) → ∃ l, vs = cellsB l
  | [], _ => ⟨[], rfl⟩
  | v :: vs, h => by
    obtain ⟨l, hl⟩ := open_cellsB hq vs fun u hu => h u (List.mem_cons_of_mem _ hu)
    obtain ⟨n, y, hy⟩ := h v (List.mem_cons_self ..)
    obtain ⟨k, e1, _, hw⟩ := DataW.trod_int hq hy
    injection e1 with e1
    refine ⟨UInt8.ofNat k.toNat :: l, ?_⟩
    rw [e1, hl]
    show _ = Value.int .u8 ((UInt8.ofNat k.toNat).toNat : Int) :: cellsB l
    rw [u8_of_wf hw]
theorem open_bytes {t q : TypeId} {fuel : Nat} {u : Value} {x : DataW H × List MemPlace} (ht : P.underlying t = some (.slice q)) (hq : P.underlying q = some (.int .u8)) (hc : P.cellsOf q = 1)
    (h : DataW.trod enc P w base (fun _ => true) held fuel t [u] = some x) : ∃ l, Rd w w.heap.size u (cellsB l) := by
  obtain ⟨vs, h1, h2⟩ := open_rd ht hc h
  obtain ⟨l, rfl⟩ := open_cellsB hq vs h2
  exact ⟨l, h1⟩
theorem open_texts {t e q : TypeId} {fuel : Nat} {u : Value} {x : DataW H × List MemPlace} (ht : P.underlying t = some (.slice e)) (he : P.underlying e = some (.slice q)) (hq : P.underlying q = some (.int .u8)) (ce : P.cellsOf e = 1) (cq : P.cellsOf q = 1)
    (h : DataW.trod enc P w base (fun _ => true) held fuel t [u] = some x) : ∃ ls, RdAll w w.heap.size u ls := by
  obtain ⟨vs, h1, h2⟩ := open_rd ht ce h
  have h3 : ∀ vs : List Value, (∀ v ∈ vs, ∃ n y, DataW.trod enc P w base (fun _ => true) held n e [v] = some y) → ∃ ls : List (List UInt8), vs.length = ls.length ∧ ∀ (k : Nat) (u : Value) (l : List UInt8), vs[k]? = some u → ls[k]? = some l → Rd w w.heap.size u (cellsB l) := by
    intro vs
    induction vs with
    | nil => intro _; exact ⟨[], rfl, fun k u l a => by simp at a⟩
    | cons v vs ih =>
      intro h
      obtain ⟨ls, g1, g2⟩ := ih fun u hu => h u (List.mem_cons_of_mem _ hu)
      obtain ⟨n, y, hy⟩ := h v (List.mem_cons_self ..)
      obtain ⟨l, hl⟩ := open_bytes he hq cq hy
      refine ⟨l :: ls, by simp [g1], fun k u m a b => ?_⟩
      cases k with
      | zero => simp at a b; subst a b; exact hl
      | succ k => simp at a b; exact g2 k u m a b
  obtain ⟨ls, h4, h5⟩ := h3 vs h2
  exact ⟨ls, vs, h1, h4, h5⟩
end

/-- All arguments read behind the call as before it. -/
theorem trodAll_below {H : Type} {enc : TypeId × Value → H} {P : Program} (hl : laidOutB P = true) {W W' : World} (hb : Below W.heap.size W W') :
    ∀ (ts : List TypeId) (vs : List Value) (ds : List (DataW H)) (ps : List MemPlace), (∀ t ∈ ts, P.readableRec t = true ∧ t < P.types.size) →
      DataW.TrodAll enc P W 0 (fun _ => true) true ts vs ds ps → DataW.TrodAll enc P W' 0 (fun b => decide (b < W.heap.size)) true ts vs ds ps
  | [], [], [], _, _, h => h
  | t :: ts, v :: vs, d :: ds, _, hr, ⟨p, q, h1, h2, h3⟩ => by
    refine ⟨p, q, Below.trod hl (hr t (List.mem_cons_self ..)).1 (hr t (List.mem_cons_self ..)).2 h1 hb ?_, trodAll_below hl hb ts vs ds q (fun u hu => hr u (List.mem_cons_of_mem _ hu)) h2, h3⟩
    obtain ⟨m, hm⟩ := h1
    exact DataW.trod_lt m _ _ _ hm
  | [], [], _ :: _, _, _, h => h.elim
  | [], _ :: _, _, _, _, h => by cases h
  | _ :: _, [], _, _, _, h => by cases h
  | _ :: _, _ :: _, [], _, _, h => by cases h
end Go.Proofs.Ytcandokefhbneaa
