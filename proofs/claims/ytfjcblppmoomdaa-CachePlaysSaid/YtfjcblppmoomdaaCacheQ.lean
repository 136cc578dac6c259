/-
  A cache over a device that does not fail, as plain mathematics: it tells what was put last, or what the device had.
-/
import Derived.Test.YtfjcblppmoomdaaCacheN
import Derived.Test.YtfjcblppmoomdaaCacheJ
namespace Go.Proofs.Ytfjcblppmoomdaa
open Go.RowKit
section
variable {x y : Cch} {d : Dev} {n i : Nat} {no : Int} {f : Frm} {H H' : Nat → List UInt8} {l : List UInt8}
theorem now_put (d : Dev) (i : Nat) (l : List UInt8) (j : Nat) : (d.put i l).now j = if j = i then l else d.now j := by
  unfold Dev.now Dev.put
  by_cases e : j = i
  · simp [e]
  · simp [e]
/-- Frame i, laid anew. -/
def Cch.place (x : Cch) (i : Nat) (f : Frm) : Cch := ⟨x.L.set i f, x.hand⟩
theorem place_len (x : Cch) (i : Nat) (f : Frm) : (x.place i f).L.length = x.L.length := List.length_set
theorem place_fr (hi : i < x.L.length) (f : Frm) (j : Nat) : (x.place i f).fr j = if j = i then f else x.fr j := fr_set hi f j
theorem place_place (x : Cch) (i : Nat) (f g : Frm) : (x.place i f).place i g = x.place i g := by
  unfold Cch.place
  rw [List.set_set]
theorem use_place (x : Cch) (i : Nat) : x.use i = x.place i { x.fr i with used := true } := rfl
theorem put_place (hi : i < x.L.length) (l : List UInt8) : ((x.bytes i l).soil i).use i = x.place i { x.fr i with b := l, dirty := true, used := true } := by
  have e1 : x.bytes i l = x.place i { x.fr i with b := l } := rfl
  have e2 : (x.bytes i l).soil i = x.place i { x.fr i with b := l, dirty := true } := by
    rw [e1]
    show (x.place i _).place i { (x.place i _).fr i with dirty := true } = _
    rw [place_fr hi, if_pos rfl, place_place]
  rw [e2]
  show (x.place i _).place i { (x.place i _).fr i with used := true } = _
  rw [place_fr hi, if_pos rfl, place_place]
theorem hold_place (hi : i < x.L.length) (hz : x.fr i = Frm.zero) (no : Int) (l : List UInt8) : (x.hold i no).bytes i l = x.place i ⟨true, no, l, false, false, 0⟩ := by
  have e1 : x.hold i no = x.place i { x.fr i with full := true, no := no } := rfl
  rw [e1]
  show (x.place i _).place i { (x.place i _).fr i with b := l } = _
  rw [place_fr hi, if_pos rfl, place_place, hz]
  rfl
/-- What is told of each sector is H. -/
structure Inv (x : Cch) (d : Dev) (H : Nat → List UInt8) : Prop where
  ok : x.Ok d.L.length
  calm : d.Calm
  held : ∀ i, i < x.L.length → (x.fr i).full = true → (x.fr i).b = H (x.fr i).no.toNat
  clean : ∀ i, i < x.L.length → (x.fr i).full = true → (x.fr i).dirty = false → d.now (x.fr i).no.toNat = H (x.fr i).no.toNat
  free : ∀ m : Nat, m < d.L.length → x.holder (m : Int) = none → d.now m = H m
theorem Inv.place (h : Inv x d H) (hi : i < x.L.length) (hf : f.full = true) (hw : ((x.fr i).full = true ∧ f.no = (x.fr i).no) ∨ ((x.fr i).full = false ∧ x.holder f.no = none ∧ 0 ≤ f.no ∧ f.no < d.L.length))
    (hH : ∀ m, m ≠ f.no.toNat → H' m = H m) (hb : f.b = H' f.no.toNat) (hd : f.dirty = false → d.now f.no.toNat = H' f.no.toNat) : Inv (x.place i f) d H' ∧ (x.place i f).holder f.no = some i := by
  have hno : 0 ≤ f.no ∧ f.no < d.L.length := by
    rcases hw with ⟨a, b⟩ | ⟨_, _, c⟩
    · rw [b]; exact h.ok.within i hi a
    · exact c
  have other : ∀ j, j < x.L.length → j ≠ i → (x.fr j).full = true → (x.fr j).no.toNat ≠ f.no.toNat := by
    intro j hj hji hjf e
    have hw2 := h.ok.within j hj hjf
    have e2 : (x.fr j).no = f.no := by have : 0 ≤ (x.fr j).no := hw2.1; omega
    rcases hw with ⟨a, b⟩ | ⟨_, b, _⟩
    · exact hji (h.ok.once j i hj hi hjf a (e2.trans b))
    · exact holder_none_iff.1 b j hj hjf e2
  have hfr := fun j => place_fr hi f j
  have hlen := place_len x i f
  have hok : (x.place i f).Ok d.L.length := by
    rcases hw with ⟨a, b⟩ | ⟨_, b, c⟩
    · exact h.ok.alter hi hf a b
    · have h1 := h.ok.hold hi c b
      have h2 : i < (x.hold i f.no).L.length := by rw [Cch.hold_len]; exact hi
      have e : x.place i f = Cch.mk ((x.hold i f.no).L.set i f) (x.hold i f.no).hand := by
        show x.place i f = (x.place i _).place i f
        rw [place_place]
      rw [e]
      have e3 : (x.hold i f.no).fr i = { x.fr i with full := true, no := f.no } := by
        have := fr_set hi { x.fr i with full := true, no := f.no } i
        rw [if_pos rfl] at this
        exact this
      exact h1.alter h2 hf (by rw [e3]) (by rw [e3])
  have hhold : (x.place i f).holder f.no = some i := by
    rw [hok.holder_iff, hlen, hfr, if_pos rfl]
    exact ⟨hi, hf, rfl⟩
  refine ⟨⟨hok, h.calm, fun j hj hjf => ?_, fun j hj hjf hjd => ?_, fun m hm hn => ?_⟩, hhold⟩
  · rw [hlen] at hj
    rw [hfr] at hjf ⊢
    split
    · exact hb
    · rename_i e
      rw [if_neg e] at hjf
      rw [hH _ (other j hj e hjf)]
      exact h.held j hj hjf
  · rw [hlen] at hj
    rw [hfr] at hjf hjd ⊢
    by_cases e : j = i
    · rw [if_pos e] at hjd ⊢
      exact hd hjd
    · rw [if_neg e] at hjf hjd ⊢
      rw [hH _ (other j hj e hjf)]
      exact h.clean j hj hjf hjd
  · have hmf : m ≠ f.no.toNat := by
      intro e
      have : (m : Int) = f.no := by omega
      rw [this, hhold] at hn
      cases hn
    rw [hH m hmf]
    refine h.free m hm ?_
    rw [holder_none_iff] at hn ⊢
    intro j hj hjf e
    by_cases e2 : j = i
    · subst e2
      rcases hw with ⟨_, b⟩ | ⟨a, _⟩
      · exact hmf (by rw [b, e]; omega)
      · rw [a] at hjf; cases hjf
    · have := hn j (by rw [hlen]; exact hj)
      rw [hfr, if_neg e2] at this
      exact this hjf e
/-- The like parts, the like tale. -/
theorem Inv.same (h : Inv x d H) (hy : y.Ok d.L.length) (hl : y.L.length = x.L.length) (hp : ∀ j, (y.fr j).full = (x.fr j).full ∧ (y.fr j).no = (x.fr j).no ∧ (y.fr j).b = (x.fr j).b ∧ (y.fr j).dirty = (x.fr j).dirty) : Inv y d H := by
  refine ⟨hy, h.calm, fun i hi hf => ?_, fun i hi hf hd => ?_, fun m hm hn => ?_⟩
  · rw [hl] at hi
    rw [(hp i).1] at hf
    rw [(hp i).2.1, (hp i).2.2.1]
    exact h.held i hi hf
  · rw [hl] at hi
    rw [(hp i).1] at hf
    rw [(hp i).2.2.2] at hd
    rw [(hp i).2.1]
    exact h.clean i hi hf hd
  · refine h.free m hm ?_
    rw [holder_none_iff] at hn ⊢
    intro j hj hjf
    have := hn j (by rw [hl]; exact hj) (by rw [(hp j).1]; exact hjf)
    rw [(hp j).2.1] at this
    exact this
theorem Inv.wipe (h : Inv x d H) (hi : i < x.L.length) (hf : (x.fr i).full = true) (hd : (x.fr i).dirty = false) : Inv (x.wipe i) d H := by
  have hfr : ∀ j, (x.wipe i).fr j = if j = i then Frm.zero else x.fr j := fun j => fr_set hi _ j
  refine ⟨h.ok.wipe hi, h.calm, fun j hj hjf => ?_, fun j hj hjf hjd => ?_, fun m hm hn => ?_⟩
  · rw [Cch.wipe_len] at hj
    rw [hfr] at hjf ⊢
    split at hjf
    · cases hjf
    · rename_i e; rw [if_neg e]; exact h.held j hj hjf
  · rw [Cch.wipe_len] at hj
    rw [hfr] at hjf hjd ⊢
    by_cases e : j = i
    · rw [if_pos e] at hjf; cases hjf
    · rw [if_neg e] at hjf hjd ⊢; exact h.clean j hj hjf hjd
  · by_cases hm2 : (x.fr i).no = m
    · have := h.clean i hi hf hd
      rw [hm2] at this
      simpa using this
    · refine h.free m hm ?_
      rw [holder_none_iff] at hn ⊢
      intro j hj hjf
      by_cases e : j = i
      · subst e; exact hm2
      · have := hn j (by rw [Cch.wipe_len]; exact hj)
        rw [hfr, if_neg e] at this
        exact this hjf
theorem Inv.write (h : Inv x d H) (hi : i < x.L.length) (hf : (x.fr i).full = true) : (x.write d i).1 = 0 ∧ Inv (x.write d i).2.1 (x.write d i).2.2 H ∧ ((x.write d i).2.1.fr i).dirty = false ∧ ((x.write d i).2.1.fr i).full = true ∧ (∀ j, (x.fr j).dirty = false → ((x.write d i).2.1.fr j).dirty = false) ∧ (x.write d i).2.2.n = d.n + 1 := by
  have hok := h.ok.write hi hf d
  have hc := write_calm (x := x) h.calm i
  rw [hc] at hok ⊢
  have hw := h.ok.within i hi hf
  have hfr : ∀ j, (Cch.mk (x.L.set i { x.fr i with dirty := false }) x.hand).fr j = if j = i then { x.fr i with dirty := false } else x.fr j := fun j => fr_set hi _ j
  have hl : (Cch.mk (x.L.set i { x.fr i with dirty := false }) x.hand).L.length = x.L.length := List.length_set
  have hnow := now_put d (x.fr i).no.toNat (x.fr i).b
  refine ⟨rfl, ⟨hok, h.calm, fun j hj hjf => ?_, fun j hj hjf hjd => ?_, fun m hm hn => ?_⟩, by rw [hfr, if_pos rfl], by rw [hfr, if_pos rfl]; exact hf, fun j hjd => ?_, rfl⟩
  · rw [hl] at hj
    rw [hfr] at hjf ⊢
    by_cases e : j = i
    · rw [if_pos e]; exact h.held i hi hf
    · rw [if_neg e] at hjf ⊢; exact h.held j hj hjf
  · rw [hl] at hj
    rw [hfr] at hjf hjd ⊢
    show (d.put (x.fr i).no.toNat (x.fr i).b).now _ = _
    rw [hnow]
    by_cases e : j = i
    · rw [if_pos e]
      rw [if_pos rfl]
      exact h.held i hi hf
    · rw [if_neg e] at hjf hjd ⊢
      have hwj := h.ok.within j hj hjf
      have hne : ¬ (x.fr j).no.toNat = (x.fr i).no.toNat := fun e2 => e (h.ok.once j i hj hi hjf hf (by have a : 0 ≤ (x.fr i).no := hw.1; have b : 0 ≤ (x.fr j).no := hwj.1; omega))
      rw [if_neg hne]
      exact h.clean j hj hjf hjd
  · show (d.put (x.fr i).no.toNat (x.fr i).b).now m = _
    rw [hnow]
    have hn' : x.holder (m : Int) = none := by
      rw [← hn]
      exact (holder_find (map_set_same fun hi' => by unfold Cch.fr; rw [getD_at hi']) _).symm
    have hne : ¬ m = (x.fr i).no.toNat := fun e => holder_none_iff.1 hn' i hi hf (by have a : 0 ≤ (x.fr i).no := hw.1; omega)
    rw [if_neg hne]
    exact h.free m hm hn'
  · rw [hfr]
    split
    · rfl
    · exact hjd
theorem Inv.room (h : Inv x d H) : Inv (x.room d).2.2.1 (x.room d).2.2.2 H := by
  have hR := h.ok.room d
  unfold Cch.room at hR ⊢
  split
  · exact h
  · rename_i he
    rw [he] at hR
    have hall := empty_all he
    have hT := h.ok.turn hall
    have hP := turn_parts x
    have hl := turn_len x
    have hI : Inv x.turn.2 d H := h.same hT hl fun j => ⟨(hP j).1, (hP j).2.1, (hP j).2.2.1, (hP j).2.2.2.1⟩
    have hs := turnGo_some (2 * x.L.length) x
    split
    · rename_i y ht
      rw [ht] at hI
      exact hI
    · rename_i i y ht
      have ht' : turnGo (2 * x.L.length) x = (some i, y) := ht
      rw [ht'] at hs
      rw [ht] at hI hP hl
      have hI : Inv y d H := hI
      have hl : y.L.length = x.L.length := hl
      have hi := (hs i h.ok.hand rfl).1
      have hyi : i < y.L.length := by omega
      have hfi : (y.fr i).full = true := by have := (hP i).1; rw [show (y.fr i).full = (x.fr i).full from this]; exact hall i hi
      split
      · obtain ⟨w1, w2, w3, w4, _⟩ := hI.write hyi hfi
        rw [if_pos w1]
        exact w2.wipe (by rw [(write_L y d i).1]; exact hyi) w4 w3
      · rename_i hd
        exact hI.wipe hyi hfi (by simpa using hd)
end
end Go.Proofs.Ytfjcblppmoomdaa
