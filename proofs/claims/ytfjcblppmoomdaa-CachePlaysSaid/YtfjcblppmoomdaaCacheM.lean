/-
  A cache as plain mathematics: what stays so, whatever is done to it.
-/
import Derived.Test.YtfjcblppmoomdaaCacheK
namespace Go.Proofs.Ytfjcblppmoomdaa
open Go.RowKit
abbrev Cch.fr (x : Cch) (i : Nat) : Frm := x.L.getD i Frm.zero
/-- What stays so of a cache over n sectors. -/
structure Cch.Ok (x : Cch) (n : Nat) : Prop where
  hand : x.hand < x.L.length
  within : x.Within n
  zero : ∀ i, i < x.L.length → (x.fr i).full = false → x.fr i = Frm.zero
  once : ∀ i j, i < x.L.length → j < x.L.length → (x.fr i).full = true → (x.fr j).full = true → (x.fr i).no = (x.fr j).no → i = j
section
variable {x y : Cch} {d : Dev} {n i : Nat} {no : Int} {f : Frm}
theorem fr_set (hi : i < x.L.length) (f : Frm) (j : Nat) : (Cch.mk (x.L.set i f) x.hand).fr j = if j = i then f else x.fr j := set_getD hi f j
theorem holder_none_iff : x.holder no = none ↔ ∀ i, i < x.L.length → (x.fr i).full = true → (x.fr i).no ≠ no := by
  unfold Cch.holder
  rw [List.findIdx?_eq_none_iff]
  constructor
  · intro h i hi hf
    have := h x.L[i] (List.getElem_mem hi)
    unfold Cch.fr at hf ⊢
    rw [getD_at hi] at hf ⊢
    simpa [hf] using this
  · intro h f hf
    obtain ⟨i, hi, rfl⟩ := List.mem_iff_getElem.1 hf
    have := h i hi
    unfold Cch.fr at this
    rw [getD_at hi] at this
    rcases hq : x.L[i].full with _ | _
    · simp
    · simpa using this hq
theorem Cch.Ok.holder_iff (h : x.Ok n) : x.holder no = some i ↔ i < x.L.length ∧ (x.fr i).full = true ∧ (x.fr i).no = no := by
  constructor
  · exact holder_lt
  · rintro ⟨h1, h2, h3⟩
    rcases hh : x.holder no with _ | j
    · exact absurd h3 (holder_none_iff.1 hh i h1 h2)
    · obtain ⟨a, b, c⟩ := holder_lt hh
      rw [h.once j i a h1 b h2 (c.trans h3.symm)]
theorem Cch.Ok.alter (h : x.Ok n) (hi : i < x.L.length) (hf : f.full = true) (hff : (x.fr i).full = true) (hn : f.no = (x.fr i).no) : (Cch.mk (x.L.set i f) x.hand).Ok n := by
  have hl : (x.L.set i f).length = x.L.length := List.length_set
  have e : ∀ j, ((Cch.mk (x.L.set i f) x.hand).fr j).full = (x.fr j).full ∧ ((Cch.mk (x.L.set i f) x.hand).fr j).no = (x.fr j).no := by
    intro j
    rw [fr_set hi]
    split
    · rename_i e; subst e; exact ⟨hf.trans hff.symm, hn⟩
    · exact ⟨rfl, rfl⟩
  refine ⟨by rw [hl]; exact h.hand, fun j hj hjf => ?_, fun j hj hjf => ?_, fun j k hj hk a b c => ?_⟩
  · rw [hl] at hj
    have := h.within j hj (by rw [← hjf]; exact (e j).1.symm)
    rw [show ((x.L.set i f).getD j Frm.zero).no = (x.fr j).no from (e j).2]
    exact this
  · rw [hl] at hj
    rw [(e j).1] at hjf
    rw [fr_set hi]
    split
    · rename_i e2; subst e2; rw [hff] at hjf; cases hjf
    · exact h.zero j hj hjf
  · rw [hl] at hj hk
    rw [(e j).1] at a
    rw [(e k).1] at b
    rw [(e j).2, (e k).2] at c
    exact h.once j k hj hk a b c
theorem Cch.Ok.wipe (h : x.Ok n) (hi : i < x.L.length) : (x.wipe i).Ok n := by
  have hl := Cch.wipe_len x i
  have e : ∀ j, (x.wipe i).fr j = if j = i then Frm.zero else x.fr j := fun j => fr_set hi _ j
  refine ⟨by rw [hl]; exact h.hand, fun j hj hjf => ?_, fun j hj hjf => ?_, fun j k hj hk a b c => ?_⟩
  · rw [hl] at hj
    have e' := e j
    unfold Cch.fr at e'
    rw [e'] at hjf ⊢
    split at hjf
    · cases hjf
    · rename_i e2; rw [if_neg e2]; exact h.within j hj hjf
  · rw [hl] at hj
    rw [e] at hjf ⊢
    split at hjf
    · rename_i e2; rw [if_pos e2]
    · rename_i e2; rw [if_neg e2]; exact h.zero j hj hjf
  · rw [hl] at hj hk
    rw [e] at a b c
    rw [e] at c
    split at a
    · cases a
    · rename_i e1
      rw [if_neg e1] at c
      split at b
      · cases b
      · rename_i e2
        rw [if_neg e2] at c
        exact h.once j k hj hk a b c
theorem Cch.Ok.hold (h : x.Ok n) (hi : i < x.L.length) (hno : 0 ≤ no ∧ no < n) (he : x.holder no = none) : (x.hold i no).Ok n := by
  have hl := Cch.hold_len x i no
  have hn := holder_none_iff.1 he
  have e : ∀ j, (x.hold i no).fr j = if j = i then { x.fr i with full := true, no := no } else x.fr j := fun j => fr_set hi _ j
  refine ⟨by rw [hl]; exact h.hand, fun j hj hjf => ?_, fun j hj hjf => ?_, fun j k hj hk a b c => ?_⟩
  · rw [hl] at hj
    have e' := e j
    unfold Cch.fr at e'
    rw [e'] at hjf ⊢
    split at hjf
    · rename_i e2; rw [if_pos e2]; exact hno
    · rename_i e2; rw [if_neg e2]; exact h.within j hj hjf
  · rw [hl] at hj
    rw [e] at hjf ⊢
    split at hjf
    · cases hjf
    · rename_i e2; rw [if_neg e2]; exact h.zero j hj hjf
  · rw [hl] at hj hk
    rw [e] at a b c
    rw [e] at c
    by_cases e1 : j = i
    · by_cases e2 : k = i
      · omega
      · rw [if_pos e1, if_neg e2] at c
        rw [if_neg e2] at b
        exact absurd c.symm (hn k hk b)
    · rw [if_neg e1] at a c
      by_cases e2 : k = i
      · rw [if_pos e2] at c
        exact absurd c (hn j hj a)
      · rw [if_neg e2] at b c
        exact h.once j k hj hk a b c
theorem turnGo_hand : ∀ (k : Nat) (x : Cch), x.hand < x.L.length → (turnGo k x).2.hand < x.L.length
  | 0, _, h => h
  | k + 1, x, h => by
    have hm : (x.hand + 1) % x.L.length < x.L.length := Nat.mod_lt _ (by omega)
    unfold turnGo
    split
    · exact turnGo_hand k _ hm
    · split
      · have := turnGo_hand k { L := x.L.set x.hand { x.L.getD x.hand Frm.zero with used := false }, hand := (x.hand + 1) % x.L.length } (by simpa using hm)
        rw [List.length_set] at this
        exact this
      · exact hm
theorem turn_parts (x : Cch) (i : Nat) : (x.turn.2.fr i).full = (x.fr i).full ∧ (x.turn.2.fr i).no = (x.fr i).no ∧ (x.turn.2.fr i).b = (x.fr i).b ∧ (x.turn.2.fr i).dirty = (x.fr i).dirty ∧ (x.turn.2.fr i).pins = (x.fr i).pins :=
  core_parts ((core_same (turnGo_core (2 * x.L.length) x)).2 i)
theorem Cch.Ok.turn (h : x.Ok n) (hall : ∀ i, i < x.L.length → (x.fr i).full = true) : x.turn.2.Ok n := by
  have hl := turn_len x
  refine ⟨by rw [hl]; exact turnGo_hand _ _ h.hand, fun j hj hjf => ?_, fun j hj hjf => ?_, fun j k hj hk a b c => ?_⟩
  · rw [hl] at hj
    have := turn_parts x j
    have h2 := h.within j hj (by rw [← hjf]; exact this.1.symm)
    rw [show (x.turn.2.L.getD j Frm.zero).no = (x.fr j).no from this.2.1]
    exact h2
  · rw [hl] at hj
    rw [(turn_parts x j).1, hall j hj] at hjf
    cases hjf
  · rw [hl] at hj hk
    rw [(turn_parts x j).1] at a
    rw [(turn_parts x k).1] at b
    rw [(turn_parts x j).2.1, (turn_parts x k).2.1] at c
    exact h.once j k hj hk a b c
theorem Cch.Ok.write (h : x.Ok n) (hi : i < x.L.length) (hf : (x.fr i).full = true) (d : Dev) : (x.write d i).2.1.Ok n := by
  unfold Cch.write
  split
  · exact h
  · exact h.alter hi hf hf rfl
theorem write_pins (y : Cch) (d : Dev) (i j : Nat) : ((y.write d i).2.1.fr j).pins = (y.fr j).pins ∧ ((y.write d i).2.1.fr j).full = (y.fr j).full ∧ ((y.write d i).2.1.fr j).no = (y.fr j).no ∧ ((y.write d i).2.1.fr j).b = (y.fr j).b := by
  unfold Cch.write
  split
  · exact ⟨rfl, rfl, rfl, rfl⟩
  · by_cases hi : i < y.L.length
    · rw [fr_set hi]
      split
      · rename_i e; subst e; exact ⟨rfl, rfl, rfl, rfl⟩
      · exact ⟨rfl, rfl, rfl, rfl⟩
    · show ((Cch.mk (y.L.set i _) y.hand).fr j).pins = _ ∧ _
      rw [List.set_eq_of_length_le (by omega)]
      exact ⟨rfl, rfl, rfl, rfl⟩
/-- Room made: what stays so, and that the frame holds nothing; no pin is touched. -/
theorem Cch.Ok.room (h : x.Ok n) (d : Dev) : (x.room d).2.2.1.Ok n ∧ (∀ i, (x.room d).1 = some i → i < x.L.length ∧ ((x.room d).2.2.1.fr i) = Frm.zero ∧ (x.fr i).pins = 0) ∧
    (∀ j, ((x.room d).2.2.1.fr j).pins = (x.fr j).pins) ∧ (∀ j, (x.fr j).pins ≠ 0 → ((x.room d).2.2.1.fr j).full = (x.fr j).full ∧ ((x.room d).2.2.1.fr j).no = (x.fr j).no) ∧
    (∀ no, x.holder no = none → (x.room d).2.2.1.holder no = none) := by
  unfold Cch.room
  split
  · rename_i i he
    unfold Cch.empty at he
    rw [List.findIdx?_eq_some_iff_getElem] at he
    obtain ⟨hi, h1, _⟩ := he
    have hz : x.fr i = Frm.zero := h.zero i hi (by unfold Cch.fr; rw [getD_at hi]; simpa using h1)
    refine ⟨h, fun j hj => ?_, fun _ => rfl, fun _ _ => ⟨rfl, rfl⟩, fun _ hh => hh⟩
    have : i = j := by injection hj
    subst this
    exact ⟨hi, hz, by rw [hz]; rfl⟩
  · rename_i he
    have hall := empty_all he
    have hT := h.turn hall
    have hP := turn_parts x
    have hl := turn_len x
    have hs := turnGo_some (2 * x.L.length) x
    have hkeep : ∀ no, x.holder no = none → x.turn.2.holder no = none := fun no hh => by
      rw [holder_none_iff] at hh ⊢
      intro j hj a
      rw [hl] at hj
      rw [(hP j).1] at a
      rw [(hP j).2.1]
      exact hh j hj a
    split
    · rename_i y ht
      rw [ht] at hT hP hkeep
      exact ⟨hT, (fun i e => by cases e), fun j => (hP j).2.2.2.2, fun j _ => ⟨(hP j).1, (hP j).2.1⟩, hkeep⟩
    · rename_i i y ht
      have ht' : turnGo (2 * x.L.length) x = (some i, y) := ht
      rw [ht'] at hs
      rw [ht] at hT hP hkeep hl
      obtain ⟨hi, hpin⟩ := hs i h.hand rfl
      have hl : y.L.length = x.L.length := hl
      have hT : y.Ok n := hT
      have hP : ∀ j, (y.fr j).full = (x.fr j).full ∧ (y.fr j).no = (x.fr j).no ∧ (y.fr j).b = (x.fr j).b ∧ (y.fr j).dirty = (x.fr j).dirty ∧ (y.fr j).pins = (x.fr j).pins := hP
      have hkeep : ∀ no, x.holder no = none → y.holder no = none := hkeep
      have hpin : (y.fr i).pins = 0 := hpin
      have hxi : (x.fr i).pins = 0 := by rw [← (hP i).2.2.2.2]; exact hpin
      have hyi : i < y.L.length := by omega
      have hfi : (y.fr i).full = true := by rw [(hP i).1]; exact hall i hi
      -- a frame wiped
      have wiped : ∀ z : Cch, z.Ok n → z.L.length = x.L.length → (∀ j, (z.fr j).pins = (x.fr j).pins ∧ (z.fr j).full = (x.fr j).full ∧ (z.fr j).no = (x.fr j).no) →
          (z.wipe i).Ok n ∧ (∀ k, some i = some k → k < x.L.length ∧ (z.wipe i).fr k = Frm.zero ∧ (x.fr k).pins = 0) ∧ (∀ j, ((z.wipe i).fr j).pins = (x.fr j).pins) ∧ (∀ j, (x.fr j).pins ≠ 0 → ((z.wipe i).fr j).full = (x.fr j).full ∧ ((z.wipe i).fr j).no = (x.fr j).no) ∧ (∀ no, x.holder no = none → (z.wipe i).holder no = none) := by
        intro z hz hzl hzp
        have hzi : i < z.L.length := by omega
        have e : ∀ j, (z.wipe i).fr j = if j = i then Frm.zero else z.fr j := fun j => fr_set hzi _ j
        refine ⟨hz.wipe hzi, fun k hk => ?_, fun j => ?_, fun j hj => ?_, fun no hh => ?_⟩
        · have : i = k := by injection hk
          subst this
          exact ⟨hi, by rw [e, if_pos rfl], hxi⟩
        · rw [e]
          split
          · rename_i e2; subst e2; rw [hxi]; rfl
          · exact (hzp j).1
        · rw [e]
          split
          · rename_i e2; subst e2; exact absurd hxi hj
          · exact (hzp j).2
        · rw [holder_none_iff] at hh ⊢
          intro j hj a
          rw [Cch.wipe_len, hzl] at hj
          rw [e] at a ⊢
          split at a
          · cases a
          · rename_i e2
            rw [if_neg e2, (hzp j).2.2]
            exact hh j hj (by rw [← (hzp j).2.1]; exact a)
      have hW : (y.write d i).2.1.Ok n := hT.write hyi hfi d
      have hWl : (y.write d i).2.1.L.length = x.L.length := by rw [(write_L y d i).1]; exact hl
      have hWp : ∀ j, ((y.write d i).2.1.fr j).pins = (x.fr j).pins ∧ ((y.write d i).2.1.fr j).full = (x.fr j).full ∧ ((y.write d i).2.1.fr j).no = (x.fr j).no := fun j => by
        have := write_pins y d i j
        exact ⟨this.1.trans (hP j).2.2.2.2, this.2.1.trans (hP j).1, this.2.2.1.trans (hP j).2.1⟩
      split
      · split
        · exact wiped _ hW hWl hWp
        · refine ⟨hW, (fun i e => by cases e), fun j => (hWp j).1, fun j _ => (hWp j).2, fun no hh => ?_⟩
          show (y.write d i).2.1.holder no = none
          rw [holder_none_iff] at hh ⊢
          intro j hj a
          rw [hWl] at hj
          rw [(hWp j).2.1] at a
          rw [(hWp j).2.2]
          exact hh j hj a
      · exact wiped y hT hl fun j => ⟨(hP j).2.2.2.2, (hP j).1, (hP j).2.1⟩
theorem new_ok' (k n : Nat) (hk : 0 < k) : (Cch.new k).Ok n := by
  refine ⟨by rw [Cch.new_len]; exact hk, ?_, fun i _ _ => new_getD k i, fun i j _ _ a => ?_⟩
  · intro i _ a
    rw [new_getD] at a
    cases a
  · unfold Cch.fr at a
    rw [new_getD] at a
    cases a
end
end Go.Proofs.Ytfjcblppmoomdaa
