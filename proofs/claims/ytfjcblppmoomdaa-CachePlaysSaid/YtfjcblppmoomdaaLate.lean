/-
  A region that draws its order and ends in stores that wait for all reads: what the reads need must hold behind each operation, but not behind those stores.
-/
import Derived.Test.YtfjcblppmoomdaaDevA
import Derived.Deep.RegionHeld3
import Derived.StillTailTactics
namespace Go.Proofs.Ytfjcblppmoomdaa
open Go.RowKit
section
variable {P : Program} {ops : Array Oper} {Q : Exit → Act → World → Prop} {md : Region.Mode} {S : World → Prop} {late : List Nat}
/-- No late operation has come up. -/
def noLate (late : List Nat) (listed : Array Bool) : Bool := late.all fun j => !listed.getD j false
theorem noLate_set {late : List Nat} {listed : Array Bool} {i : Nat} (h : late.contains i = false) : noLate late (listed.setIfInBounds i true) = noLate late listed := by
  unfold noLate
  rw [Bool.eq_iff_iff, List.all_eq_true, List.all_eq_true]
  have e : ∀ j ∈ late, (listed.setIfInBounds i true).getD j false = listed.getD j false := fun j hj => getD_set_ne false fun e => by
    subst e
    have : late.contains i = true := by simpa using hj
    rw [h] at this
    cases this
  exact ⟨fun k j hj => by rw [← e j hj]; exact k j hj, fun k j hj => by rw [e j hj]; exact k j hj⟩
/-- Whatever order is picked: S holds behind each operation, till a late one has come up. -/
def anyU (P : Program) (md : Region.Mode) (ops : Array Oper) (Q : Exit → Act → World → Prop) (S : World → Prop) (late : List Nat) : Nat → Array Bool → Act → World → Prop
  | 0, listed, a, w => Region.ready md ops listed = [] ∧ Q .normal a w
  | f + 1, listed, a, w => (Region.ready md ops listed = [] → Q .normal a w) ∧
    ∀ i ∈ Region.ready md ops listed, wpOp P ops Q i (fun a' w' => (noLate late (listed.setIfInBounds i true) = true → S w') ∧ anyU P md ops Q S late f (listed.setIfInBounds i true) a' w') a w
theorem anyU_any : ∀ (f : Nat) (listed : Array Bool) (a : Act) (w : World), anyU P md ops Q S late f listed a w → wpAny P md ops Q f listed a w
  | 0, _, _, _, h => h
  | f + 1, _, _, _, h => ⟨h.1, fun i hi => wpOp_mono (fun a' w' k => anyU_any f _ a' w' k.2) (h.2 i hi)⟩
/-- Each late operation waits for number i. -/
def lateFor (md : Region.Mode) (ops : Array Oper) (late : List Nat) (i : Nat) : Bool := late.all fun j => Region.waitsFor md ops j i
theorem anyU_first {T : World → Prop} {i : Nat} {oi : Oper} {v : Value} (hST : ∀ w, S w → T w) (hi : ops[i]? = some oi) (hsel : ∀ (j : Nat) (o : Oper) cs b, ops[j]? = some o → o.op ≠ .select cs b)
    (hQ : ∀ c a w, Q (.panic c) (a.put oi.dst v) w → Q (.panic c) a w) (hni : late.contains i = false) (hl : lateFor md ops late i = true ∨ ∀ w, T w) : ∀ (f : Nat) (listed : Array Bool) (a : Act) (w : World),
    (∀ j oj, ops[j]? = some oj → j ≠ i → listed.getD j true = false → (∀ e ∈ oj.after, Region.binds md e = true → e.on ≠ i) → oi.apart ops oj = true) →
    i ∈ Region.ready md ops listed → YieldsIf P ops T oi v a → (noLate late listed = true ∨ ∀ w, T w) → (noLate late listed = true → S w) →
    anyU P md ops Q S late f (listed.setIfInBounds i true) (a.put oi.dst v) w → anyU P md ops Q S late (f + 1) listed a w
  | 0, listed, a, w, _, hr, hy, hc, hw, H => by
    refine ⟨fun h => (by rw [h] at hr; cases hr), fun j hj => ?_⟩
    by_cases e : j = i
    · subst e
      exact hy.wpOp hi (hc.elim (fun h => hST _ (hw h)) (fun h => h _)) ⟨fun h => hw (by rwa [noLate_set hni] at h), H⟩
    · have := ready_mono hj e
      rw [H.1] at this
      cases this
  | f + 1, listed, a, w, hfree, hr, hy, hc, hw, H => by
    refine ⟨fun h => (by rw [h] at hr; cases hr), fun j hj => ?_⟩
    by_cases e : j = i
    · subst e
      exact hy.wpOp hi (hc.elim (fun h => hST _ (hw h)) (fun h => h _)) ⟨fun h => hw (by rwa [noLate_set hni] at h), H⟩
    · obtain ⟨hjun, oj, hoj, hall⟩ := mem_ready.1 hj
      have hno : ∀ x ∈ oj.after, Region.binds md x = true → x.on ≠ i := fun x hx hb he => by
        have h1 := hall x hx hb
        rw [he, getD_both (mem_ready.1 hr).1] at h1
        cases h1
      have hsw : noLate late ((listed.setIfInBounds i true).setIfInBounds j true) = noLate late (listed.setIfInBounds j true) := by
        rw [Array.setIfInBounds_comm _ _ (Ne.symm e), noLate_set hni]
      have hc' : noLate late (listed.setIfInBounds j true) = true ∨ ∀ w, T w := by
        rcases hl with h1 | h1
        · refine hc.imp (fun h2 => ?_) id
          have hnl : late.contains j = false := by
            rw [← Bool.not_eq_true]
            intro h3
            obtain ⟨o, ho, x, hx, hb, hon⟩ := Region.waitsFor_spec (List.all_eq_true.1 h1 j (by simpa using h3))
            have : o = oj := Option.some.inj (ho.symm.trans hoj)
            subst this
            exact hno x hx hb hon
          rw [noLate_set hnl]
          exact h2
        · exact .inr h1
      refine wpOp_mono (fun a' w' k => ⟨fun h => k.2.1 (by rw [hsw]; exact h), ?_⟩) (wpOp_putIf hoj (hfree j oj hoj e hjun hno) (fun cs b => hsel i oi cs b hi) (fun cs b => hsel j oj cs b hoj) hQ hy (H.2 j (ready_mono hj e)))
      refine anyU_first hST hi hsel hQ hni hl f _ a' w' (fun k ok hk hki hun hn => hfree k ok hk hki ?_ hn) (ready_mono hr (Ne.symm e)) k.1 hc' (fun h => k.2.1 (by rw [hsw]; exact h)) ?_
      · by_cases hjk : j = k
        · subst hjk; exact hjun
        · rwa [getD_set_ne true hjk] at hun
      · rw [Array.setIfInBounds_comm _ _ e]
        exact k.2.2
/-- Taken first: what reads a cell of which S speaks; each late operation waits for it. -/
theorem anyU_take {i : Nat} {oi : Oper} {v : Value} {f : Nat} {listed : Array Bool} {a : Act} {w : World} (hi : ops[i]? = some oi) (hs : (Region.noSelect ops && lateFor md ops late i && !late.contains i && Region.free md ops listed i && (Region.ready md ops listed).contains i && noLate late listed) = true)
    (hQ : ∀ c a w, Q (.panic c) (a.put oi.dst v) w → Q (.panic c) a w) (hy : YieldsIf P ops S oi v a) (hS : S w)
    (h : anyU P md ops Q S late f (listed.setIfInBounds i true) (a.put oi.dst v) w) : anyU P md ops Q S late (f + 1) listed a w := by
  simp only [Bool.and_eq_true, Bool.not_eq_true'] at hs
  obtain ⟨⟨⟨⟨⟨h1, h2⟩, h3⟩, h4⟩, h5⟩, h6⟩ := hs
  exact anyU_first (fun _ h => h) hi (Region.noSelect_spec h1) hQ h3 (.inl h2) f listed a w (Region.free_spec hi h4) (by simpa using h5) hy (.inl h6) (fun _ => hS) h
/-- Taken first: what yields in whatever world. -/
theorem anyU_take0 {i : Nat} {oi : Oper} {v : Value} {f : Nat} {listed : Array Bool} {a : Act} {w : World} (hi : ops[i]? = some oi) (hs : (Region.noSelect ops && !late.contains i && Region.free md ops listed i && (Region.ready md ops listed).contains i) = true)
    (hQ : ∀ c a w, Q (.panic c) (a.put oi.dst v) w → Q (.panic c) a w) (hy : YieldsIf P ops (fun _ => True) oi v a) (hS : S w)
    (h : anyU P md ops Q S late f (listed.setIfInBounds i true) (a.put oi.dst v) w) : anyU P md ops Q S late (f + 1) listed a w := by
  simp only [Bool.and_eq_true, Bool.not_eq_true'] at hs
  obtain ⟨⟨⟨h1, h3⟩, h4⟩, h5⟩ := hs
  exact anyU_first (fun _ _ => trivial) hi (Region.noSelect_spec h1) hQ h3 (.inr fun _ => trivial) f listed a w (Region.free_spec hi h4) (by simpa using h5) hy (.inr fun _ => trivial) (fun _ => hS) h
/-- Each of these comes up next. -/
def AllU (P : Program) (md : Region.Mode) (ops : Array Oper) (Q : Exit → Act → World → Prop) (S : World → Prop) (late : List Nat) (f : Nat) (listed : Array Bool) (a : Act) (w : World) (rs : List Nat) : Prop :=
  ∀ i ∈ rs, wpOp P ops Q i (fun a' w' => (noLate late (listed.setIfInBounds i true) = true → S w') ∧ anyU P md ops Q S late f (listed.setIfInBounds i true) a' w') a w
theorem AllU.nil {f : Nat} {listed : Array Bool} {a : Act} {w : World} : AllU P md ops Q S late f listed a w [] := fun _ h => by cases h
theorem AllU.cons {f : Nat} {listed : Array Bool} {a : Act} {w : World} {i : Nat} {o : Oper} {rs : List Nat} (ho : ops[i]? = some o)
    (h : ∀ K' : Act → World → Prop, Shut (∀ a w, (late.contains i = false → S w) → anyU P md ops Q S late f (listed.setIfInBounds i true) a w → K' a w) → if Region.wanted o (yielded ops a.tmps) = true then Oper.wp P o a w K' Q else K' (a.put o.dst undef) w)
    (hn : late.contains i = true → noLate late (listed.setIfInBounds i true) = false)
    (hs : AllU P md ops Q S late f listed a w rs) : AllU P md ops Q S late f listed a w (i :: rs) := fun j hj => by
  rcases List.mem_cons.1 hj with rfl | hj
  · refine wpOp_step ho fun K' hK => h K' fun a w hS hW => hK a w ⟨fun h1 => hS ?_, hW⟩
    rw [← Bool.not_eq_true]
    intro h2
    rw [hn h2] at h1
    cases h1
  · exact hs j hj
theorem anyU_ready {rs : List Nat} {f : Nat} {listed : Array Bool} {a : Act} {w : World} (hr : Region.ready md ops listed = rs) (hne : rs ≠ []) (h : AllU P md ops Q S late f listed a w rs) : anyU P md ops Q S late (f + 1) listed a w :=
  ⟨fun h0 => absurd (hr ▸ h0) hne, hr ▸ h⟩
theorem anyU_done {listed : Array Bool} {a : Act} {w : World} (hr : Region.ready md ops listed = []) (h : Q .normal a w) : ∀ f, anyU P md ops Q S late f listed a w
  | 0 => ⟨hr, h⟩
  | _ + 1 => ⟨fun _ => h, by rw [hr]; simp⟩
theorem wp_region_late {id : Nat} {a : Act} {w : World} (late : List Nat) (hm : P.follows .mixedOrders = true) (hS : S w.drew) (h : S w.drew → anyU P .any ops Q S late ops.size (Array.replicate ops.size false) a w.drew) : (Code.region id ops true).wp P Q a w :=
  wp_region_any hm (anyU_any _ _ _ _ (h hS))
end
end Go.Proofs.Ytfjcblppmoomdaa
