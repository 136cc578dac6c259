/-
  Merge of package node: one contract for all nodes.
-/
import Derived.Test.YtceefoopehoalaaNdMergeB
namespace Go.Proofs.Ytceefoopehoalaa
open Go.RowKit
set_option maxRecDepth 100000 in
set_option maxHeartbeats 2000000 in
theorem merge_apart {la lb : Bool} (A1 A2 A3 B1 B2 B3 Ak : Option Addr) (n1 c1 n2 c2 n3 c3 m1 d1 m2 d2 m3 d3 kl ck : Nat) (w : World) (h : la ≠ lb) :
    Calls Try.prog 25 #[ndVal la (.slice A1 n1 c1) (.slice A2 n2 c2) (.slice A3 n3 c3), .slice Ak kl ck, ndVal lb (.slice B1 m1 d1) (.slice B2 m2 d2) (.slice B3 m3 d3)] w fun e w' => e = .returned (.tuple #[ndZero, .bool false]) ∧ Below w.heap.size w w' := by
  have hst := MgS.start (w0 := w) (la := la) (K := .slice A1 n1 c1) (V := .slice A2 n2 c2) (D := .slice A3 n3 c3) (lb := lb) (K' := .slice B1 m1 d1) (V' := .slice B2 m2 d2) (D' := .slice B3 m3 d3)
  have t1 : (la == lb) = false := by rw [beq_eq_false_iff_ne]; exact h
  have t2 : (la != lb) = true := by rw [bne_iff_ne]; exact h
  obtain ⟨x0, x1, x2, x3⟩ := hst.boxA
  obtain ⟨z0, z1, z2, z3⟩ := hst.boxB
  obtain ⟨y0, y1, y2, y3, f0, f1, f2, f3⟩ := out_cells hst.out
  have HFb := Lib.hid hst.below
  clear hst h
  cases la <;> cases lb
  · cases t2
  · go_enter Try.func25, Try.ntmps25
    go_wp2_with fail
    exact bodyPost_ret (v := .tuple #[ndZero, .bool false]) (by simp [results, Try.results25, go_sem, y0, y1, y2, y3]) rfl ⟨rfl, HFb.out⟩
  · go_enter Try.func25, Try.ntmps25
    go_wp2_with fail
    exact bodyPost_ret (v := .tuple #[ndZero, .bool false]) (by simp [results, Try.results25, go_sem, y0, y1, y2, y3]) rfl ⟨rfl, HFb.out⟩
  · cases t2
/-- When they come to one. -/
def Nd.Joins (a : Nd) (key : List UInt8) (b : Nd) : Prop := a.leaf = b.leaf ∧ a.Snd ∧ b.Snd ∧ (a.joined key b).Snd
noncomputable def joinsB (a : Nd) (key : List UInt8) (b : Nd) : Bool := @decide (a.Joins key b) (Classical.propDecidable _)
theorem joinsB_iff {a b : Nd} {key : List UInt8} : joinsB a key b = true ↔ a.Joins key b := by unfold joinsB; exact @decide_eq_true_iff _ (Classical.propDecidable _)
/-- What Merge hands back of them. -/
noncomputable def Nd.merged (a : Nd) (key : List UInt8) (b : Nd) : Nd := if joinsB a key b then a.joined key b else ⟨false, [], [], []⟩
theorem merge_any {n m : Nd} {K V D K' V' D' kv : Value} {key : List UInt8} {w : World} (hn : NdIs w w.heap.size K V D n) (hm : NdIs w w.heap.size K' V' D' m) (hk : Rd w w.heap.size kv (cellsB key)) (hsn : n.Short 40000) (hsm : m.Short 40000) :
    Calls Try.prog 25 #[ndVal n.leaf K V D, kv, ndVal m.leaf K' V' D'] w fun e w' => ∃ K V D, e = .returned (.tuple #[ndVal (n.merged key m).leaf K V D, .bool (joinsB n key m)]) ∧ NdNew w' w.heap.size K V D (n.merged key m) ∧ Below w.heap.size w w' := by
  have hz : ∀ W : World, NdNew W w.heap.size (.slice none 0 0) (.slice none 0 0) (.slice none 0 0) ⟨false, [], [], []⟩ := fun W => ⟨OwnT.nil _ _ _, OwnT.nil _ _ _, Mine.nil _ _ _⟩
  by_cases hl : n.leaf = m.leaf
  · have key2 : ∀ {lf : Bool} {J : Nd}, n.leaf = lf → J = n.joined key m → J.leaf = lf → (Calls Try.prog 25 #[ndVal lf K V D, kv, ndVal lf K' V' D'] w fun e w' => ((n.Snd ∧ m.Snd ∧ J.Snd) → ∃ K V D, e = .returned (.tuple #[ndVal lf K V D, .bool true]) ∧ NdNew w' w.heap.size K V D J) ∧ (¬ (n.Snd ∧ m.Snd ∧ J.Snd) → e = .returned (.tuple #[ndZero, .bool false])) ∧ Below w.heap.size w w') →
        Calls Try.prog 25 #[ndVal lf K V D, kv, ndVal lf K' V' D'] w fun e w' => ∃ K V D, e = .returned (.tuple #[ndVal (n.merged key m).leaf K V D, .bool (joinsB n key m)]) ∧ NdNew w' w.heap.size K V D (n.merged key m) ∧ Below w.heap.size w w' := by
      intro lf J h1 h2 h3 hc
      refine hc.mono ?_
      rintro e w' ⟨g1, g2, hb⟩
      by_cases hG : n.Snd ∧ m.Snd ∧ J.Snd
      · obtain ⟨K, V, D, he, hN⟩ := g1 hG
        have hj : joinsB n key m = true := joinsB_iff.2 ⟨hl, hG.1, hG.2.1, h2 ▸ hG.2.2⟩
        have hmg : n.merged key m = J := by unfold Nd.merged; rw [if_pos hj, h2]
        rw [hmg, hj, h3]
        exact ⟨K, V, D, he, hN, hb⟩
      · have hj : joinsB n key m = false := by rw [← Bool.not_eq_true]; exact fun h => hG (by have := joinsB_iff.1 h; exact ⟨this.2.1, this.2.2.1, h2 ▸ this.2.2.2⟩)
        have hmg : n.merged key m = ⟨false, [], [], []⟩ := by unfold Nd.merged; rw [hj]; rfl
        rw [hmg, hj]
        exact ⟨_, _, _, g2 hG, hz _, hb⟩
    rw [← hl]
    cases hlf : n.leaf
    · exact key2 hlf (by unfold Nd.joined; rw [hlf]; rfl) rfl (merge_not hn hm hk hsn hsm hlf (hl ▸ hlf))
    · exact key2 hlf (by unfold Nd.joined; rw [hlf]; rfl) rfl (merge_leaf hn hm hk hsn hsm hlf (hl ▸ hlf))
  · obtain ⟨A1, n1, c1, A2, n2, c2, A3, n3, c3, rfl, rfl, rfl⟩ := hn.slices
    obtain ⟨B1, m1, d1, B2, m2, d2, B3, m3, d3, rfl, rfl, rfl⟩ := hm.slices
    obtain ⟨Ak, ck, rfl, _, _, _⟩ := hk.bytes
    have hj : joinsB n key m = false := by rw [← Bool.not_eq_true]; exact fun h => hl (joinsB_iff.1 h).1
    have hmg : n.merged key m = ⟨false, [], [], []⟩ := by unfold Nd.merged; rw [hj]; rfl
    refine (merge_apart A1 A2 A3 B1 B2 B3 Ak n1 c1 n2 c2 n3 c3 m1 d1 m2 d2 m3 d3 key.length ck w hl).mono ?_
    rintro e w' ⟨rfl, hb⟩
    rw [hmg, hj]
    exact ⟨_, _, _, rfl, hz _, hb⟩
/-- As the law asks: all is sound, and so is what stands there one behind the other. -/
theorem joins_law {a b : Nd} {key : List UInt8} : joinsB a key b = (sndB a && sndB b && (a.leaf == b.leaf) && sndB ⟨a.leaf, (if a.leaf then a.keys else a.keys ++ [key]) ++ b.keys, a.vals ++ b.vals, a.kids ++ b.kids⟩) ∧
    (joinsB a key b = true → a.joined key b = ⟨a.leaf, (if a.leaf then a.keys else a.keys ++ [key]) ++ b.keys, a.vals ++ b.vals, a.kids ++ b.kids⟩) := by
  have hx : a.Snd → b.Snd → a.leaf = b.leaf → a.joined key b = ⟨a.leaf, (if a.leaf then a.keys else a.keys ++ [key]) ++ b.keys, a.vals ++ b.vals, a.kids ++ b.kids⟩ := by
    intro h1 h2 h3
    unfold Nd.joined
    cases hl : a.leaf
    · have e1 := List.eq_nil_of_length_eq_zero (h1.ofNot hl).1
      have e2 := List.eq_nil_of_length_eq_zero (h2.ofNot (h3 ▸ hl)).1
      simp [e1, e2]
    · have e1 := List.eq_nil_of_length_eq_zero (h1.ofLeaf hl).1
      have e2 := List.eq_nil_of_length_eq_zero (h2.ofLeaf (h3 ▸ hl)).1
      simp [e1, e2]
  refine ⟨?_, fun h => by have := joinsB_iff.1 h; exact hx this.2.1 this.2.2.1 this.1⟩
  rw [Bool.eq_iff_iff, joinsB_iff]
  simp only [Bool.and_eq_true, sndB_iff, beq_iff_eq]
  constructor
  · intro h
    exact ⟨⟨⟨h.2.1, h.2.2.1⟩, h.1⟩, (hx h.2.1 h.2.2.1 h.1) ▸ h.2.2.2⟩
  · rintro ⟨⟨⟨h1, h2⟩, h3⟩, h4⟩
    exact ⟨h3, h1, h2, (hx h1 h2 h3) ▸ h4⟩
end Go.Proofs.Ytceefoopehoalaa
