/-
  Regions with late stores: an operation may be taken first where each late one waits for it, be it by way of others.
-/
import Derived.Test.YtceefoopehoalaaLate
namespace Go.Proofs.Ytceefoopehoalaa
open Go.RowKit
section
variable {P : Program} {ops : Array Oper} {Q : Exit → Act → World → Prop} {md : Region.Mode} {S : World → Prop} {late up : List Nat}
/-- Each of these waits for i, or for one of them that is less than it. -/
def upOk (md : Region.Mode) (ops : Array Oper) (i : Nat) (up : List Nat) : Bool := up.all fun k => Region.waitsFor md ops k i || up.any fun k' => decide (k' < k) && Region.waitsFor md ops k k'
/-- What is listed has all that it waits for listed. -/
def shutUp (md : Region.Mode) (ops : Array Oper) (listed : Array Bool) : Prop :=
  ∀ k o, ops[k]? = some o → listed.getD k false = true → ∀ e ∈ o.after, Region.binds md e = true → listed.getD e.on false = true
def shutUpB (md : Region.Mode) (ops : Array Oper) (listed : Array Bool) : Bool :=
  (List.range ops.size).all fun k => !listed.getD k false || match ops[k]? with
    | some o => o.after.all fun e => !Region.binds md e || listed.getD e.on false
    | none => true
theorem shutUp_spec {listed : Array Bool} (h : shutUpB md ops listed = true) : shutUp md ops listed := by
  intro k o ho hk e he hb
  have hlt : k < ops.size := (Array.getElem?_eq_some_iff.1 ho).1
  have := List.all_eq_true.1 h k (List.mem_range.2 hlt)
  rw [ho, hk] at this
  simp only [Bool.not_true, Bool.false_or, Array.all_eq_true'] at this
  have h2 := this e he
  rw [hb] at h2
  simpa using h2
theorem shutUp_set {listed : Array Bool} {j : Nat} (h : shutUp md ops listed) (hj : j ∈ Region.ready md ops listed) : shutUp md ops (listed.setIfInBounds j true) := by
  intro k o ho hk e he hb
  by_cases ejk : j = k
  · subst ejk
    obtain ⟨_, oj, hoj, hall⟩ := mem_ready.1 hj
    have : oj = o := Option.some.inj (hoj.symm.trans ho)
    subst this
    exact getD_set_true (hall e he hb)
  · rw [getD_set_ne false ejk] at hk
    exact getD_set_true (h k o ho hk e he hb)
/-- While i is not listed, none of these is, and none is ready. -/
theorem up_not {i : Nat} {listed : Array Bool} (hu : upOk md ops i up = true) (hs : shutUp md ops listed) (hi : listed.getD i false = false) : ∀ k, k ∈ up → listed.getD k false = false ∧ k ∉ Region.ready md ops listed := by
  intro k
  induction k using Nat.strongRecOn with
  | ind k ih =>
    intro hk
    have h1 := List.all_eq_true.1 hu k hk
    have hdep : ∃ d, Region.waitsFor md ops k d = true ∧ listed.getD d false = false := by
      rw [Bool.or_eq_true] at h1
      rcases h1 with h1 | h1
      · exact ⟨i, h1, hi⟩
      · obtain ⟨k', hk', h2⟩ := List.any_eq_true.1 h1
        rw [Bool.and_eq_true, decide_eq_true_eq] at h2
        exact ⟨k', h2.2, (ih k' h2.1 hk').1⟩
    obtain ⟨d, hw, hd⟩ := hdep
    obtain ⟨o, ho, x, hx, hb, hon⟩ := Region.waitsFor_spec hw
    constructor
    · rw [← Bool.not_eq_true]
      intro hl
      have := hs k o ho hl x hx hb
      rw [hon, hd] at this
      cases this
    · intro hr
      obtain ⟨_, o', ho', hall⟩ := mem_ready.1 hr
      have : o' = o := Option.some.inj (ho'.symm.trans ho)
      subst this
      have := hall x hx hb
      rw [hon, hd] at this
      cases this
theorem anyU_first2 {i : Nat} {oi : Oper} {v : Value} (hi : ops[i]? = some oi) (hsel : ∀ (j : Nat) (o : Oper) cs b, ops[j]? = some o → o.op ≠ .select cs b)
    (hQ : ∀ c a w, Q (.panic c) (a.put oi.dst v) w → Q (.panic c) a w) (hni : late.contains i = false) (hu : upOk md ops i up = true) (hlu : ∀ j, late.contains j = true → j ∈ up) : ∀ (f : Nat) (listed : Array Bool) (a : Act) (w : World),
    (∀ j oj, ops[j]? = some oj → j ≠ i → listed.getD j true = false → (∀ e ∈ oj.after, Region.binds md e = true → e.on ≠ i) → oi.apart ops oj = true) →
    i ∈ Region.ready md ops listed → YieldsIf P ops S oi v a → noLate late listed = true → shutUp md ops listed → (noLate late listed = true → S w) →
    anyU P md ops Q S late f (listed.setIfInBounds i true) (a.put oi.dst v) w → anyU P md ops Q S late (f + 1) listed a w
  | 0, listed, a, w, _, hr, hy, hc, _, hw, H => by
    refine ⟨fun h => (by rw [h] at hr; cases hr), fun j hj => ?_⟩
    by_cases e : j = i
    · subst e
      exact hy.wpOp hi (hw hc) ⟨fun h => hw (by rwa [noLate_set hni] at h), H⟩
    · have := ready_mono hj e
      rw [H.1] at this
      cases this
  | f + 1, listed, a, w, hfree, hr, hy, hc, hsh, hw, H => by
    refine ⟨fun h => (by rw [h] at hr; cases hr), fun j hj => ?_⟩
    by_cases e : j = i
    · subst e
      exact hy.wpOp hi (hw hc) ⟨fun h => hw (by rwa [noLate_set hni] at h), H⟩
    · obtain ⟨hjun, oj, hoj, hall⟩ := mem_ready.1 hj
      have hno : ∀ x ∈ oj.after, Region.binds md x = true → x.on ≠ i := fun x hx hb he => by
        have h1 := hall x hx hb
        rw [he, getD_both (mem_ready.1 hr).1] at h1
        cases h1
      have hnl : late.contains j = false := by
        rw [← Bool.not_eq_true]
        intro h3
        exact (up_not hu hsh (getD_both (mem_ready.1 hr).1) j (hlu j h3)).2 hj
      have hsw : noLate late ((listed.setIfInBounds i true).setIfInBounds j true) = noLate late (listed.setIfInBounds j true) := by
        rw [Array.setIfInBounds_comm _ _ (Ne.symm e), noLate_set hni]
      have hc' : noLate late (listed.setIfInBounds j true) = true := by rw [noLate_set hnl]; exact hc
      refine wpOp_mono (fun a' w' k => ⟨fun h => k.2.1 (by rw [hsw]; exact h), ?_⟩) (wpOp_putIf hoj (hfree j oj hoj e hjun hno) (fun cs b => hsel i oi cs b hi) (fun cs b => hsel j oj cs b hoj) hQ hy (H.2 j (ready_mono hj e)))
      refine anyU_first2 hi hsel hQ hni hu hlu f _ a' w' (fun k ok hk hki hun hn => hfree k ok hk hki ?_ hn) (ready_mono hr (Ne.symm e)) k.1 hc' (shutUp_set hsh hj) (fun h => k.2.1 (by rw [hsw]; exact h)) ?_
      · by_cases hjk : j = k
        · subst hjk; exact hjun
        · rwa [getD_set_ne true hjk] at hun
      · rw [Array.setIfInBounds_comm _ _ e]
        exact k.2.2
/-- Taken first: what reads a cell of which S speaks; each late operation waits for it, by way of 'up'. -/
theorem anyU_take2 {i : Nat} {oi : Oper} {v : Value} {f : Nat} {listed : Array Bool} {a : Act} {w : World} (up : List Nat) (hi : ops[i]? = some oi) (hs : (Region.noSelect ops && upOk md ops i up && late.all up.contains && !late.contains i && Region.free md ops listed i && (Region.ready md ops listed).contains i && noLate late listed && shutUpB md ops listed) = true)
    (hQ : ∀ c a w, Q (.panic c) (a.put oi.dst v) w → Q (.panic c) a w) (hy : YieldsIf P ops S oi v a) (hS : S w)
    (h : anyU P md ops Q S late f (listed.setIfInBounds i true) (a.put oi.dst v) w) : anyU P md ops Q S late (f + 1) listed a w := by
  simp only [Bool.and_eq_true, Bool.not_eq_true'] at hs
  obtain ⟨⟨⟨⟨⟨⟨⟨h1, h2⟩, h2b⟩, h3⟩, h4⟩, h5⟩, h6⟩, h7⟩ := hs
  exact anyU_first2 hi (Region.noSelect_spec h1) hQ h3 h2 (fun j hj => by simpa using List.all_eq_true.1 h2b j (by simpa using hj)) f listed a w (Region.free_spec hi h4) (by simpa using h5) hy h6 (shutUp_spec h7) (fun _ => hS) h
end
end Go.Proofs.Ytceefoopehoalaa
