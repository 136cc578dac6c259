/-
  A cache over a device that does not fail, as plain mathematics: a frame is found where one is not pinned; what is told of each sector.
-/
import Derived.Test.YtfjcblppmoomdaaCacheM
namespace Go.Proofs.Ytfjcblppmoomdaa
open Go.RowKit
section
variable {x y : Cch} {d : Dev} {n i : Nat} {no : Int} {f : Frm}
theorem turnGo_near : ∀ (t k : Nat) (x : Cch) (m : Nat), x.hand < x.L.length → m < x.L.length → t < x.L.length → (x.hand + t) % x.L.length = m → (x.fr m).pins = 0 → (x.fr m).used = false → t < k → (turnGo k x).1 ≠ none
  | _, 0, _, _, _, _, _, _, _, _, h => by omega
  | 0, k + 1, x, m, hh, hm, _, he, hp, hu, _ => by
    rw [Nat.add_zero, Nat.mod_eq_of_lt hh] at he
    subst he
    unfold turnGo
    rw [if_neg (by show ¬ 0 < (x.fr x.hand).pins; omega), if_neg (by show ¬ (x.fr x.hand).used = true; rw [hu]; simp)]
    simp
  | t + 1, k + 1, x, m, hh, hm, ht, he, hp, hu, hk => by
    have hm' : (x.hand + 1) % x.L.length < x.L.length := Nat.mod_lt _ (by omega)
    have he2 : ((x.hand + 1) % x.L.length + t) % x.L.length = m := by rw [Nat.mod_add_mod, ← he]; congr 1; omega
    have hne : m ≠ x.hand := by
      intro e
      rw [e] at he
      by_cases hc : x.hand + (t + 1) < x.L.length
      · rw [Nat.mod_eq_of_lt hc] at he; omega
      · rw [Nat.mod_eq_sub_mod (by omega), Nat.mod_eq_of_lt (by omega)] at he; omega
    unfold turnGo
    split
    · exact turnGo_near t k { x with hand := (x.hand + 1) % x.L.length } m hm' hm (show t < x.L.length by omega) he2 hp hu (by omega)
    · split
      · have hf := fr_set hh { x.L.getD x.hand Frm.zero with used := false } m
        rw [if_neg hne] at hf
        have hl : (x.L.set x.hand { x.L.getD x.hand Frm.zero with used := false }).length = x.L.length := List.length_set
        refine turnGo_near t k { L := x.L.set x.hand { x.L.getD x.hand Frm.zero with used := false }, hand := (x.hand + 1) % x.L.length } m (by rw [hl]; exact hm') (by rw [hl]; exact hm) (by rw [hl]; omega) (by rw [hl]; exact he2) ?_ ?_ (by omega)
        · exact (congrArg Frm.pins hf).trans hp
        · exact (congrArg Frm.used hf).trans hu
      · simp
theorem turnGo_far : ∀ (t k : Nat) (x : Cch) (m : Nat), x.hand < x.L.length → m < x.L.length → t < x.L.length → (x.hand + t) % x.L.length = m → (x.fr m).pins = 0 → t + x.L.length < k → (turnGo k x).1 ≠ none
  | _, 0, _, _, _, _, _, _, _, h => by omega
  | 0, k + 1, x, m, hh, hm, _, he, hp, hk => by
    rw [Nat.add_zero, Nat.mod_eq_of_lt hh] at he
    subst he
    have hm' : (x.hand + 1) % x.L.length < x.L.length := Nat.mod_lt _ (by omega)
    unfold turnGo
    rw [if_neg (by show ¬ 0 < (x.fr x.hand).pins; omega)]
    split
    · have hf := fr_set hh { x.L.getD x.hand Frm.zero with used := false } x.hand
      rw [if_pos rfl] at hf
      have hl : (x.L.set x.hand { x.L.getD x.hand Frm.zero with used := false }).length = x.L.length := List.length_set
      refine turnGo_near (x.L.length - 1) k { L := x.L.set x.hand { x.L.getD x.hand Frm.zero with used := false }, hand := (x.hand + 1) % x.L.length } x.hand (by rw [hl]; exact hm') (by rw [hl]; exact hm) (by rw [hl]; omega) ?_ ?_ ?_ (by omega)
      · rw [hl, Nat.mod_add_mod, show x.hand + 1 + (x.L.length - 1) = x.hand + x.L.length by omega, Nat.add_mod_right, Nat.mod_eq_of_lt hh]
      · exact (congrArg Frm.pins hf).trans hp
      · exact congrArg Frm.used hf
    · simp
  | t + 1, k + 1, x, m, hh, hm, ht, he, hp, hk => by
    have hm' : (x.hand + 1) % x.L.length < x.L.length := Nat.mod_lt _ (by omega)
    have he2 : ((x.hand + 1) % x.L.length + t) % x.L.length = m := by rw [Nat.mod_add_mod, ← he]; congr 1; omega
    have hne : m ≠ x.hand := by
      intro e
      rw [e] at he
      by_cases hc : x.hand + (t + 1) < x.L.length
      · rw [Nat.mod_eq_of_lt hc] at he; omega
      · rw [Nat.mod_eq_sub_mod (by omega), Nat.mod_eq_of_lt (by omega)] at he; omega
    unfold turnGo
    split
    · exact turnGo_far t k { x with hand := (x.hand + 1) % x.L.length } m hm' hm (show t < x.L.length by omega) he2 hp (by show t + x.L.length < k; omega)
    · split
      · have hf := fr_set hh { x.L.getD x.hand Frm.zero with used := false } m
        rw [if_neg hne] at hf
        have hl : (x.L.set x.hand { x.L.getD x.hand Frm.zero with used := false }).length = x.L.length := List.length_set
        refine turnGo_far t k { L := x.L.set x.hand { x.L.getD x.hand Frm.zero with used := false }, hand := (x.hand + 1) % x.L.length } m (by rw [hl]; exact hm') (by rw [hl]; exact hm) (by rw [hl]; omega) (by rw [hl]; exact he2) ?_ (by show t + (x.L.set x.hand _).length < k; rw [hl]; omega)
        exact (congrArg Frm.pins hf).trans hp
      · simp
/-- Where a frame is not pinned the hand finds one. -/
theorem turn_finds (hh : x.hand < x.L.length) {m : Nat} (hm : m < x.L.length) (hp : (x.fr m).pins = 0) : x.turn.1 ≠ none := by
  refine turnGo_far (if x.hand ≤ m then m - x.hand else m + x.L.length - x.hand) _ x m hh hm ?_ ?_ hp ?_
  · split <;> omega
  · split
    · rw [show x.hand + (m - x.hand) = m by omega, Nat.mod_eq_of_lt hm]
    · rw [show x.hand + (m + x.L.length - x.hand) = m + x.L.length by omega, Nat.add_mod_right, Nat.mod_eq_of_lt hm]
  · split <;> omega
/-- A device that does not fail. -/
def Dev.Calm (d : Dev) : Prop := ∀ k, (d.f k).1 = false
theorem Dev.Calm.burns (h : d.Calm) (k : Nat) : d.burns k = false := Dev.burns_idle d k (h k)
theorem Dev.Calm.burn (h : d.Calm) (k : Nat) : d.burn k = d := Dev.burn_idle d k (h k)
theorem write_calm (h : d.Calm) (i : Nat) : x.write d i = (0, { x with L := x.L.set i { x.fr i with dirty := false } }, d.put (x.fr i).no.toNat (x.fr i).b) := by
  unfold Cch.write
  rw [if_neg (by rw [h.burns]; simp), h.burn]
theorem room_finds (hd : d.Calm) (hh : x.hand < x.L.length) {m : Nat} (hm : m < x.L.length) (hp : (x.fr m).pins = 0) : ∃ i, (x.room d).1 = some i ∧ (x.room d).2.1 = 0 := by
  obtain ⟨_, _, _, h4⟩ := room_spec x d hh
  rcases h4 with ⟨i, e1, e2, _⟩ | ⟨e1, _⟩
  · exact ⟨i, e1, e2⟩
  · exfalso
    unfold Cch.room at e1
    split at e1
    · cases e1
    · have ht := turn_finds hh hm hp
      split at e1
      · rename_i y hy
        rw [hy] at ht
        exact ht rfl
      · rename_i i y hy
        split at e1
        · rw [if_pos (by rw [write_calm hd])] at e1
          cases e1
        · cases e1
theorem room_dev (d : Dev) : (x.room d).2.2.2.L.length = d.L.length ∧ (d.Calm → (x.room d).2.2.2.Calm) := by
  unfold Cch.room
  have hw : ∀ (y : Cch) i, (y.write d i).2.2.L.length = d.L.length ∧ (d.Calm → (y.write d i).2.2.Calm) := fun y i => ⟨(write_dev y d i).1, fun h => by rw [write_calm h]; exact h⟩
  split
  · exact ⟨rfl, id⟩
  · split
    · exact ⟨rfl, id⟩
    · split
      · split
        · exact hw _ _
        · exact hw _ _
      · exact ⟨rfl, id⟩
/-- What stays so when a frame's marks are set. -/
theorem Cch.Ok.mark (h : x.Ok n) (hi : i < x.L.length) (hf : (x.fr i).full = true) (f : Frm) (h1 : f.full = true) (h2 : f.no = (x.fr i).no) (h3 : f.pins = (x.fr i).pins) :
    (Cch.mk (x.L.set i f) x.hand).Ok n ∧ (∀ j, ((Cch.mk (x.L.set i f) x.hand).fr j).pins = (x.fr j).pins ∧ ((Cch.mk (x.L.set i f) x.hand).fr j).full = (x.fr j).full ∧ ((Cch.mk (x.L.set i f) x.hand).fr j).no = (x.fr j).no) := by
  refine ⟨h.alter hi h1 hf h2, fun j => ?_⟩
  rw [fr_set hi]
  split
  · rename_i e; subst e; exact ⟨h3, h1.trans hf.symm, h2⟩
  · exact ⟨rfl, rfl, rfl⟩
/-- Sector no held in frame i, which held nothing. -/
theorem Cch.Ok.took (h : x.Ok n) (hi : i < x.L.length) (hz : x.fr i = Frm.zero) (hno : 0 ≤ no ∧ no < n) (he : x.holder no = none) (l : List UInt8) :
    ((x.hold i no).bytes i l).Ok n ∧ ((x.hold i no).bytes i l).L.length = x.L.length ∧ (∀ j, ((x.hold i no).bytes i l).fr j = if j = i then ⟨true, no, l, false, false, 0⟩ else x.fr j) ∧ ((x.hold i no).bytes i l).holder no = some i := by
  have hl := Cch.hold_len x i no
  have hi2 : i < (x.hold i no).L.length := by rw [hl]; exact hi
  have e1 : ∀ j, (x.hold i no).fr j = if j = i then { x.fr i with full := true, no := no } else x.fr j := fun j => fr_set hi _ j
  have e2 : ∀ j, ((x.hold i no).bytes i l).fr j = if j = i then { (x.hold i no).fr i with b := l } else (x.hold i no).fr j := fun j => fr_set hi2 _ j
  have e3 : ∀ j, ((x.hold i no).bytes i l).fr j = if j = i then ⟨true, no, l, false, false, 0⟩ else x.fr j := by
    intro j
    rw [e2, e1, e1, if_pos rfl, hz]
    split
    · rfl
    · rfl
  have hok : ((x.hold i no).bytes i l).Ok n := by
    refine (h.hold hi hno he).alter hi2 ?_ ?_ rfl
    · show ((x.hold i no).fr i).full = true
      rw [e1, if_pos rfl]
    · rw [e1, if_pos rfl]
  refine ⟨hok, by rw [Cch.bytes_len, hl], e3, ?_⟩
  rw [hok.holder_iff]
  rw [Cch.bytes_len, hl, e3, if_pos rfl]
  exact ⟨hi, rfl, rfl⟩
/-- What Get leaves. -/
theorem Cch.Ok.get (h : x.Ok d.L.length) (no : Int) : (x.get d no).2.2.1.Ok d.L.length ∧ (x.get d no).2.2.1.L.length = x.L.length ∧ (∀ j, ((x.get d no).2.2.1.fr j).pins = (x.fr j).pins) ∧
    (∀ j, (x.fr j).pins ≠ 0 → ((x.get d no).2.2.1.fr j).full = (x.fr j).full ∧ ((x.get d no).2.2.1.fr j).no = (x.fr j).no) ∧ ((x.get d no).2.1 = 0 → ∃ i, (x.get d no).2.2.1.holder no = some i) ∧ (x.get d no).2.2.2.L.length = d.L.length ∧ (x.get d no).2.2.2.n ≤ d.n + 1 ∧ (d.Calm → (x.get d no).2.2.2.Calm) ∧
    (d.Calm → 0 ≤ no ∧ no < d.L.length → (∃ m, m < x.L.length ∧ (x.fr m).pins = 0) → (x.get d no).2.1 = 0) := by
  unfold Cch.get
  split
  · rename_i hno
    split
    · rename_i i he
      obtain ⟨hi, hf, hn⟩ := holder_lt he
      obtain ⟨m1, m2⟩ := h.mark hi hf { x.fr i with used := true } hf rfl rfl
      refine ⟨m1, List.length_set, fun j => (m2 j).1, fun j _ => (m2 j).2, fun _ => ⟨i, ?_⟩, rfl, Nat.le_succ _, id, fun _ _ _ => rfl⟩
      show (x.use i).holder no = some i
      have m1' : (x.use i).Ok d.L.length := m1
      rw [m1'.holder_iff]
      exact ⟨by rw [Cch.use_len]; exact hi, (m2 i).2.1.trans hf, (m2 i).2.2.trans hn⟩
    · rename_i he
      obtain ⟨r1, r2, r3, r4, r5⟩ := h.room d
      obtain ⟨s1, s2, s3, s4⟩ := room_spec x d h.hand
      have s5 := (room_dev (x := x) d).2
      have hfind : d.Calm → (∃ m, m < x.L.length ∧ (x.fr m).pins = 0) → ∃ i, (x.room d).1 = some i := fun hc ⟨m, hm, hp⟩ => (room_finds hc h.hand hm hp).imp fun _ a => a.1
      have hre : x.read d no = match x.room d with
        | (none, e, y, dy) => (none, e, y, dy)
        | (some i, _, y, dy) => if dy.burns 1 = true then (none, 3, y, dy.burn 1) else (some i, 0, (y.hold i no).bytes i (dy.now no.toNat), dy.burn 1) := rfl
      rw [hre]
      rcases hroom : x.room d with ⟨_ | i, e, y, dy⟩
      · rw [hroom] at r1 r2 r3 r4 r5 s1 s2 s3 s4 s5 hfind
        have he0 : e = 3 ∨ e = 11 := by
          rcases s4 with ⟨i, a, _⟩ | ⟨_, b⟩
          · cases a
          · exact b
        refine ⟨r1, s1, r3, r4, fun e0 => ?_, s2, s3, s5, fun hc _ hm => ?_⟩
        · have e0 : e = 0 := e0
          omega
        · obtain ⟨i, a⟩ := hfind hc hm
          cases a
      · rw [hroom] at r1 r2 r3 r4 r5 s1 s2 s3 s4 s5
        have s1 : y.L.length = x.L.length := s1
        have s2 : dy.L.length = d.L.length := s2
        have r1 : y.Ok d.L.length := r1
        obtain ⟨hi, hz, hp⟩ := r2 i rfl
        have hyi : i < y.L.length := by omega
        have hz : y.fr i = Frm.zero := hz
        by_cases hb : dy.burns 1 = true
        · simp only [if_pos hb]
          refine ⟨r1, s1, r3, r4, (fun e0 => by cases e0), s2, s3, fun hc => ?_, fun hc => ?_⟩
          · have := s5 hc
            have := this.burns 1
            have hb' : dy.burns 1 = true := hb
            rw [this] at hb'
            cases hb'
          · have := s5 hc
            have := this.burns 1
            have hb' : dy.burns 1 = true := hb
            rw [this] at hb'
            cases hb'
        · simp only [if_neg hb]
          obtain ⟨t1, t2, t3, t4⟩ := r1.took hyi hz hno (r5 no he) (dy.now no.toNat)
          generalize (y.hold i no).bytes i (dy.now no.toNat) = z at t1 t2 t3 t4 ⊢
          have hi3 : i < z.L.length := by rw [t2]; exact hyi
          have hfi : (z.fr i).full = true := by rw [t3, if_pos rfl]
          have hni : (z.fr i).no = no := by rw [t3, if_pos rfl]
          obtain ⟨m1, m2⟩ := t1.mark hi3 hfi { z.fr i with used := true } hfi rfl rfl
          refine ⟨m1, ?_, fun j => ?_, fun j hj => ?_, fun _ => ⟨i, ?_⟩, s2, s3, fun hc => ?_, fun _ _ _ => trivial⟩
          · show (z.use i).L.length = _
            rw [Cch.use_len, t2]; exact s1
          · refine (m2 j).1.trans ?_
            rw [t3]
            split
            · rename_i e2; subst e2; exact hp.symm
            · exact r3 j
          · have a := r4 j hj
            have hji : j ≠ i := fun e2 => by subst e2; exact hj hp
            have b := (m2 j).2
            have q := t3 j
            rw [if_neg hji] at q
            exact ⟨(b.1.trans (congrArg Frm.full q)).trans a.1, (b.2.trans (congrArg Frm.no q)).trans a.2⟩
          · have m1' : (z.use i).Ok d.L.length := m1
            show (z.use i).holder no = some i
            rw [m1'.holder_iff]
            exact ⟨by rw [Cch.use_len]; exact hi3, (m2 i).2.1.trans hfi, (m2 i).2.2.trans hni⟩
          · have t : dy.Calm := s5 hc
            show (dy.burn 1).Calm
            rw [t.burn]
            exact t
  · rename_i hno
    refine ⟨h, rfl, fun _ => rfl, fun _ _ => ⟨rfl, rfl⟩, (fun e => by cases e), rfl, Nat.le_succ _, id, fun _ a => absurd a hno⟩
end
end Go.Proofs.Ytfjcblppmoomdaa
