/-
  The document's space in memory; its Room, Alloc, Free, Commit, Abort: contracts.
-/
import Derived.Test.YtllhilnajjohiaaSpJ
import Derived.Test.YtllhilnajjohiaaSpK
namespace Go.Proofs.Ytllhilnajjohiaa
open Go.RowKit
theorem Mine.stay {w w' : World} {base : Nat} {e : TypeId} {g n c : Nat} {xs : List Value} (h : Mine w base e (.slice (some ⟨g, 0, none⟩) n c) xs) (hk : w'.heap[g]? = w.heap[g]?) : Mine w' base e (.slice (some ⟨g, 0, none⟩) n c) xs := by
  refine ⟨h.1, ?_⟩
  rcases h.2 with ⟨e1, _⟩ | ⟨g', cap, cur, e1, hbg, hg, hnc, hcm, hcs, htake⟩
  · cases e1
  · injection e1 with e1 e2 e3
    injection e1 with e1
    injection e1 with e1 _ _
    subst e1 e3
    exact .inr ⟨g, c, cur, by rw [e2], hbg, hk.trans hg, hnc, hcm, hcs, htake⟩
theorem Mine.head {w : World} {base : Nat} {e : TypeId} {v : Value} {xs : List Value} (h : Mine w base e v xs) (hn : 0 < xs.length) : ∃ g c, v = .slice (some ⟨g, 0, none⟩) xs.length c ∧ xs.length ≤ c ∧ c ≤ maxLen := by
  rcases h.2 with ⟨_, h0⟩ | ⟨g, cap, cur, rfl, _, _, hnc, hcm, _, _⟩
  · omega
  · exact ⟨g, cap, rfl, hnc, hcm⟩
theorem Mine.caps {w : World} {base : Nat} {e : TypeId} {g n c : Nat} {xs : List Value} (h : Mine w base e (.slice (some ⟨g, 0, none⟩) n c) xs) : n ≤ c ∧ c ≤ maxLen := by
  rcases h.2 with ⟨e1, _⟩ | ⟨g', cap, cur, e1, _, _, hnc, hcm, _, _⟩
  · cases e1
  · injection e1 with e1 e2 e3
    subst e3
    have := h.len
    omega
theorem info_bool : (Try.prog.info? 4).map (fun i => (i.zero, i.size, i.bytes)) = some (some (.bool false), 1, 1) := by kernel_rfl
/-- In w there is the document's space x at block p, its rows in blocks gn, gs. -/
structure RefSp (w : World) (p gn cn gs cs : Nat) (x : Spc) : Prop where
  top : w.heap[p]? = some (.cells #[.slice (some ⟨gn, 0, none⟩) x.n cn, .slice (some ⟨gs, 0, none⟩) x.n cs] 55 (0, 0))
  rN : Mine w 0 4 (.slice (some ⟨gn, 0, none⟩) x.n cn) (boolC x.now x.n)
  rS : Mine w 0 4 (.slice (some ⟨gs, 0, none⟩) x.n cs) (boolC x.sure x.n)
  ne : gn ≠ gs ∧ p ≠ gn ∧ p ≠ gs
  ok : x.Ok
section
variable {w w' : World} {p gn cn gs cs : Nat} {x : Spc}
theorem RefSp.c0 (h : RefSp w p gn cn gs cs x) : w.cell? ⟨p, 0, none⟩ = some (.slice (some ⟨gn, 0, none⟩) x.n cn) := by rw [cell_of_row w p 0 _ _ (0, 0) h.top]; rfl
theorem RefSp.c1 (h : RefSp w p gn cn gs cs x) : w.cell? ⟨p, 1, none⟩ = some (.slice (some ⟨gs, 0, none⟩) x.n cs) := by rw [cell_of_row w p 1 _ _ (0, 0) h.top]; rfl
theorem RefSp.lt (h : RefSp w p gn cn gs cs x) : p < w.heap.size ∧ gn < w.heap.size ∧ gs < w.heap.size := ⟨(Array.getElem?_eq_some_iff.1 h.top).1, h.rN.lt.2, h.rS.lt.2⟩
theorem RefSp.keep (h : RefSp w p gn cn gs cs x) (h1 : w'.heap[p]? = w.heap[p]?) (h2 : w'.heap[gn]? = w.heap[gn]?) (h3 : w'.heap[gs]? = w.heap[gs]?) : RefSp w' p gn cn gs cs x :=
  ⟨h1.trans h.top, h.rN.stay h2, h.rS.stay h3, h.ne, h.ok⟩
theorem RefSp.below (h : RefSp w p gn cn gs cs x) (hb : Below w.heap.size w w') : RefSp w' p gn cn gs cs x := h.keep (hb.block p h.lt.1) (hb.block gn h.lt.2.1) (hb.block gs h.lt.2.2)
theorem RefSp.only {F : Nat → Prop} (h : RefSp w p gn cn gs cs x) (ho : Only F w w') (h1 : ¬ F p) (h2 : ¬ F gn) (h3 : ¬ F gs) : RefSp w' p gn cn gs cs x := h.keep (ho.block p h.lt.1 h1) (ho.block gn h.lt.2.1 h2) (ho.block gs h.lt.2.2 h3)
theorem RefSp.cN (h : RefSp w p gn cn gs cs x) {i : Nat} (hi : i < x.n) : w.cell? ⟨gn, i, none⟩ = some (.bool (x.now i)) := h.rN.cellAt (boolC_get _ hi)
theorem RefSp.cS (h : RefSp w p gn cn gs cs x) {i : Nat} (hi : i < x.n) : w.cell? ⟨gs, i, none⟩ = some (.bool (x.sure i)) := h.rS.cellAt (boolC_get _ hi)
theorem RefSp.setN (h : RefSp w p gn cn gs cs x) {i : Nat} (hi : i < x.n) (v : Bool) : RefSp (w.setCell ⟨gn, i, none⟩ (.bool v)) p gn cn gs cs (x.put i v) := by
  refine ⟨?_, ?_, ?_, h.ne, h.ok.put hi v⟩
  · rw [heap_setCell_other w _ p _ h.ne.2.1]
    exact h.top
  · have := h.rN.stored i (.bool v)
    rw [boolC_put] at this
    exact this
  · exact h.rS.stay (heap_setCell_other w _ gs _ h.ne.1.symm)
theorem free_yes {f : Nat → Bool} {k : Nat} (h : f k = false) : _root_.Go.Proofs.Ytllhilnajjohiaa.free f (k + 1) = _root_.Go.Proofs.Ytllhilnajjohiaa.free f k + 1 := by rw [_root_.Go.Proofs.Ytllhilnajjohiaa.free, h]; rfl
theorem free_no {f : Nat → Bool} {k : Nat} (h : f k = true) : _root_.Go.Proofs.Ytllhilnajjohiaa.free f (k + 1) = _root_.Go.Proofs.Ytllhilnajjohiaa.free f k := by rw [_root_.Go.Proofs.Ytllhilnajjohiaa.free, h]; rfl
theorem held_or {x : Spc} (k : Nat) : (x.now k = true ∧ x.held k = true) ∨ (x.now k = false ∧ x.sure k = true ∧ x.held k = true) ∨ (x.now k = false ∧ x.sure k = false ∧ x.held k = false) := by
  have : x.held k = (x.now k || x.sure k) := rfl
  rw [this]
  cases x.now k <;> cases x.sure k <;> simp
theorem free_le (f : Nat → Bool) (k : Nat) : _root_.Go.Proofs.Ytllhilnajjohiaa.free f k ≤ k := by have := free_cnt f k; omega
set_option maxHeartbeats 400000 in
theorem rroom_any (h : RefSp w p gn cn gs cs x) : Calls Try.prog 31 #[spAt p] w fun e w' => e = .returned (.int .i64 (_root_.Go.Proofs.Ytllhilnajjohiaa.free x.held x.n : Nat)) ∧ w = w' := by
  have h0 := h.c0
  have h1 := h.c1
  have hs := h.ok.size
  have hN := Lib.hid (fun i hi => h.cN (i := i) hi)
  have hS := Lib.hid (fun i hi => h.cS (i := i) hi)
  have hcn := h.rN.caps.1
  have hcs := h.rS.caps.1
  obtain ⟨n, hn⟩ : ∃ n, n = x.n := ⟨_, rfl⟩
  rw [← hn] at h0 h1 hs hN hS hcn hcs ⊢
  clear h hn
  go_enter Try.func31, Try.ntmps31
  go_wp2_with fail
  go_loop [3, 4] (fun s i => ∃ (k r : Nat), k ≤ n ∧ i = .int .i64 (k : Int) ∧ s = .int .i64 (r : Int) ∧ r ≤ k ∧ Hid (r = _root_.Go.Proofs.Ytllhilnajjohiaa.free x.held k)) (fun _ i => n - (intOf i).toNat)
  case atStart => exact ⟨0, 0, by omega, rfl, rfl, by omega, Lib.hid rfl⟩
  case round =>
    obtain ⟨k, r, hk, rfl, rfl, hrk, Hr⟩ := hrel
    by_cases hk2 : k < n
    · have e1 := hN.out k hk2
      have e2 := hS.out k hk2
      have k0 : (0 : Int) ≤ (k : Int) := by omega
      have k1 : (k : Int) < (n : Int) := by omega
      have k2 : (k : Int).toNat = k := by simp
      rcases held_or (x := x) k with ⟨a1, a3⟩ | ⟨a1, a2, a3⟩ | ⟨a1, a2, a3⟩
      · have Hf := Lib.hid (free_no a3)
        rw [a1] at e1
        clear e2 a1 a3
        go_wp2_with fail
        go_round
        case rel => exact ⟨k + 1, r, by omega, by go_num, rfl, by omega, Lib.hid (by rw [Hf.out, ← Hr.out])⟩
        case measure => simp [intOf]; omega
      · have Hf := Lib.hid (free_no a3)
        rw [a1] at e1
        rw [a2] at e2
        clear a1 a2 a3
        go_wp2_with fail
        go_round
        case rel => exact ⟨k + 1, r, by omega, by go_num, rfl, by omega, Lib.hid (by rw [Hf.out, ← Hr.out])⟩
        case measure => simp [intOf]; omega
      · have Hf := Lib.hid (free_yes a3)
        rw [a1] at e1
        rw [a2] at e2
        clear a1 a2 a3
        go_wp2_with fail
        go_round
        case rel => exact ⟨k + 1, r + 1, by omega, by go_num, by go_num, by omega, Lib.hid (by rw [Hf.out, ← Hr.out])⟩
        case measure => simp [intOf]; omega
    · have : k = n := by omega
      subst this
      go_wp2_with fail
      go_ret
      rw [← Hr.out]
      exact ⟨rfl, rfl⟩
end
end Go.Proofs.Ytllhilnajjohiaa
