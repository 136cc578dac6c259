/-
  CachePinned: what stays so while sectors are pinned.
-/
import Derived.Test.YtfjcblppmoomdaaCacheP
import Derived.Test.YtfjcblppmoomdaaOpenAct
import Derived.Deep.QuietTactic
import Derived.BigQuiet
namespace Go.Proofs.Ytfjcblppmoomdaa
open Go.RowKit
/-- What stays so while sectors are pinned. -/
structure PinSt (x : Cch) (n : Nat) (hl : List Int) : Prop where
  ok : x.Ok n
  len : x.L.length = 8
  sum : (x.L.map (·.pins)).sum = hl.length
  held : ∀ h ∈ hl, ∃ i, x.holder h = some i ∧ (x.fr i).pins ≠ 0
theorem sum_ge : ∀ l : List Nat, (∀ p ∈ l, p ≠ 0) → l.length ≤ l.sum
  | [], _ => Nat.le_refl _
  | a :: l, h => by
    have h1 := h a (.head _)
    have h2 := sum_ge l fun p hp => h p (List.mem_cons_of_mem _ hp)
    rw [List.length_cons, List.sum_cons]
    omega
theorem sum_le_mem : ∀ (l : List Nat) (a : Nat), a ∈ l → a ≤ l.sum
  | b :: l, a, h => by
    rw [List.sum_cons]
    rcases List.mem_cons.1 h with e | e
    · omega
    · have := sum_le_mem l a e; omega
theorem sum_set : ∀ (l : List Nat) (i : Nat) (hi : i < l.length), (l.set i (l[i] + 1)).sum = l.sum + 1
  | [], _, hi => by simp at hi
  | a :: l, 0, _ => by simp; omega
  | a :: l, i + 1, hi => by
    have := sum_set l i (by simpa using hi)
    simp only [List.set_cons_succ, List.sum_cons, List.getElem_cons_succ]
    omega
section
variable {x : Cch} {d : Dev} {n : Nat} {hl : List Int} {no : Int}
theorem fr_mem {i : Nat} (hi : i < x.L.length) : (x.fr i).pins ∈ x.L.map (·.pins) := by
  unfold Cch.fr
  rw [getD_at hi]
  exact List.mem_map_of_mem (List.getElem_mem hi)
theorem PinSt.small (h : PinSt x n hl) (hk : hl.length < 1000000) (i : Nat) : (x.fr i).pins < 1000000 := by
  by_cases hi : i < x.L.length
  · have := sum_le_mem _ _ (fr_mem hi)
    have := h.sum
    omega
  · unfold Cch.fr
    rw [List.getD_eq_getElem?_getD, List.getElem?_eq_none (by omega)]
    show (Frm.zero).pins < 1000000
    decide
theorem PinSt.room (h : PinSt x n hl) (hlt : hl.length < 8) : ∃ m, m < x.L.length ∧ (x.fr m).pins = 0 := by
  refine Classical.byContradiction fun hn => ?_
  have : (x.L.map (·.pins)).length ≤ (x.L.map (·.pins)).sum := sum_ge _ fun p hp => by
    obtain ⟨f, hf, rfl⟩ := List.mem_map.1 hp
    obtain ⟨i, hi, rfl⟩ := List.mem_iff_getElem.1 hf
    intro e
    exact hn ⟨i, hi, by unfold Cch.fr; rw [getD_at hi]; exact e⟩
  rw [List.length_map, h.sum, h.len] at this
  omega
theorem PinSt.get (h : PinSt x d.L.length hl) (no : Int) : PinSt (x.get d no).2.2.1 d.L.length hl := by
  obtain ⟨g1, g2, g3, g4, _⟩ := h.ok.get no
  refine ⟨g1, g2.trans h.len, ?_, fun hh hm => ?_⟩
  · rw [← h.sum]
    congr 1
    apply List.ext_getElem
    · simpa using g2
    · intro j h1 h2
      rw [List.length_map] at h1 h2
      have := g3 j
      unfold Cch.fr at this
      rw [getD_at h1, getD_at h2] at this
      simpa using this
  · obtain ⟨i, hi, hp⟩ := h.held hh hm
    obtain ⟨a, b, c⟩ := holder_lt hi
    obtain ⟨e1, e2⟩ := g4 i hp
    exact ⟨i, g1.holder_iff.2 ⟨by rw [g2]; exact a, e1.trans b, e2.trans c⟩, by rw [g3]; exact hp⟩
theorem PinSt.pin (h : PinSt x n hl) {i : Nat} (he : x.holder no = some i) : (x.pin no).1 = true ∧ PinSt (x.pin no).2 n (hl ++ [no]) := by
  have e : x.pin no = (true, x.pinned i ((x.fr i).pins + 1)) := by unfold Cch.pin; rw [he]
  rw [e]
  obtain ⟨hi, hf, hn⟩ := holder_lt he
  have hff : (x.fr i).full = true := hf
  have hpe : ∀ j, (x.pinned i ((x.fr i).pins + 1)).fr j = if j = i then { x.fr i with pins := (x.fr i).pins + 1 } else x.fr j := fun j => fr_set hi _ j
  have hok : (x.pinned i ((x.fr i).pins + 1)).Ok n := h.ok.alter hi hff hff rfl
  have hlen : (x.pinned i ((x.fr i).pins + 1)).L.length = x.L.length := List.length_set
  have hkeep : ∀ j, ((x.pinned i ((x.fr i).pins + 1)).fr j).full = (x.fr j).full ∧ ((x.pinned i ((x.fr i).pins + 1)).fr j).no = (x.fr j).no ∧ ((x.fr j).pins ≠ 0 → ((x.pinned i ((x.fr i).pins + 1)).fr j).pins ≠ 0) := fun j => by
    rw [hpe]
    split
    · rename_i e; subst e; exact ⟨rfl, rfl, fun _ => Nat.succ_ne_zero _⟩
    · exact ⟨rfl, rfl, id⟩
  refine ⟨rfl, hok, hlen.trans h.len, ?_, fun hh hm => ?_⟩
  · show ((x.L.set i { x.fr i with pins := (x.fr i).pins + 1 }).map (·.pins)).sum = _
    rw [List.map_set, List.length_append, List.length_singleton, ← h.sum]
    have := sum_set (x.L.map (·.pins)) i (by simpa using hi)
    rw [← this]
    congr 2
    unfold Cch.fr
    rw [getD_at hi]
    simp
  · rcases List.mem_append.1 hm with hm | hm
    · obtain ⟨j, hj, hp⟩ := h.held hh hm
      obtain ⟨a, b, c⟩ := holder_lt hj
      exact ⟨j, hok.holder_iff.2 ⟨by rw [hlen]; exact a, (hkeep j).1.trans b, (hkeep j).2.1.trans c⟩, (hkeep j).2.2 hp⟩
    · have : hh = no := by simpa using hm
      subst this
      exact ⟨i, hok.holder_iff.2 ⟨by rw [hlen]; exact hi, (hkeep i).1.trans hf, (hkeep i).2.1.trans hn⟩, by rw [hpe, if_pos rfl]; exact Nat.succ_ne_zero _⟩
theorem PinSt.told (h : PinSt x n hl) : ∀ hh ∈ hl, hh ∈ upward (x.those fun f => f.full) := by
  intro hh hm
  obtain ⟨i, hi, _⟩ := h.held hh hm
  obtain ⟨a, b, c⟩ := holder_lt hi
  rw [mem_mergeSort']
  unfold Cch.those upThose
  rw [List.take_length, List.mem_map]
  rw [getD_at a] at b c
  exact ⟨x.L[i], List.mem_filter.2 ⟨List.getElem_mem a, b⟩, c⟩
theorem held_len (x : Cch) : (upward (x.those fun f => f.full)).length ≤ x.L.length := by
  rw [upward_length]
  exact upThose_le _ _ _
theorem pinSt_new (n : Nat) : PinSt (Cch.new 8) n [] := ⟨new_ok' 8 n (by omega), Cch.new_len 8, rfl, fun _ h => by cases h⟩
end
end Go.Proofs.Ytfjcblppmoomdaa
