/-
  Get, Put and Sync over a device that does not fail, as plain mathematics.
-/
import Derived.Test.YtfjcblppmoomdaaCacheQ
namespace Go.Proofs.Ytfjcblppmoomdaa
open Go.RowKit
section
variable {x y : Cch} {d : Dev} {n i : Nat} {no : Int} {f : Frm} {H H' : Nat → List UInt8} {l : List UInt8}
/-- Sector m, told anew. -/
def setH (H : Nat → List UInt8) (m : Nat) (l : List UInt8) : Nat → List UInt8 := fun k => if k = m then l else H k
/-- Room is found, where a frame is not pinned: what it comes to. -/
theorem Inv.roomed (h : Inv x d H) (hp : ∃ m, m < x.L.length ∧ (x.fr m).pins = 0) : ∃ i y dy, x.room d = (some i, 0, y, dy) ∧ Inv y dy H ∧ i < y.L.length ∧ y.fr i = Frm.zero ∧ y.L.length = x.L.length ∧ dy.L.length = d.L.length ∧ dy.n ≤ d.n + 1 ∧ (∀ j, (y.fr j).pins = (x.fr j).pins) ∧ (∀ no, x.holder no = none → y.holder no = none) := by
  obtain ⟨m, hm, hpm⟩ := hp
  obtain ⟨i, e1, e2⟩ := room_finds h.calm h.ok.hand hm hpm
  obtain ⟨r1, r2, r3, _, r5⟩ := h.ok.room d
  obtain ⟨s1, s2, s3, _⟩ := room_spec x d h.ok.hand
  have hI := h.room
  rcases hr : x.room d with ⟨ro, re, y, dy⟩
  rw [hr] at e1 e2 r1 r2 r3 r5 s1 s2 s3 hI
  have e1 : ro = some i := e1
  have e2 : re = 0 := e2
  subst e1 e2
  obtain ⟨a, b, _⟩ := r2 i rfl
  have s1 : y.L.length = x.L.length := s1
  exact ⟨i, y, dy, rfl, hI, by omega, b, s1, s2, s3, r3, r5⟩
theorem Inv.get (h : Inv x d H) (hno : 0 ≤ no ∧ no < d.L.length) (hp : ∃ m, m < x.L.length ∧ (x.fr m).pins = 0) : (x.get d no).2.1 = 0 ∧ (x.get d no).1 = H no.toNat ∧ Inv (x.get d no).2.2.1 (x.get d no).2.2.2 H := by
  unfold Cch.get
  rw [if_pos hno]
  rcases he : x.holder no with _ | i
  · obtain ⟨i, y, dy, hr, hI, hi, hz, hl, hdl, _, _, hk⟩ := h.roomed hp
    have hn := hk no he
    have hrd : x.read d no = (some i, 0, (y.hold i no).bytes i (dy.now no.toNat), dy) := by
      unfold Cch.read
      rw [hr]
      simp only
      rw [if_neg (by rw [hI.calm.burns]; simp), hI.calm.burn]
    simp only [hrd]
    have hfree := hI.free no.toNat (by omega) (by rw [show ((no.toNat : Nat) : Int) = no by omega]; exact hn)
    rw [hold_place hi hz]
    obtain ⟨p1, p2⟩ := hI.place (f := ⟨true, no, dy.now no.toNat, false, false, 0⟩) hi rfl (.inr ⟨by rw [hz]; rfl, hn, hno.1, by rw [hdl]; exact hno.2⟩) (H' := H) (fun _ _ => rfl) hfree (fun _ => hfree)
    have hi2 : i < (y.place i ⟨true, no, dy.now no.toNat, false, false, 0⟩).L.length := by rw [place_len]; exact hi
    have hfr := place_fr hi ⟨true, no, dy.now no.toNat, false, false, 0⟩ i
    rw [if_pos rfl] at hfr
    refine ⟨trivial, ?_, ?_⟩
    · show ((y.place i _).fr i).b = _
      rw [hfr]
      exact hfree
    · rw [use_place, place_place]
      exact (hI.place (f := { (y.place i ⟨true, no, dy.now no.toNat, false, false, 0⟩).fr i with used := true }) hi (by rw [hfr]) (.inr ⟨by rw [hz]; rfl, by rw [hfr]; exact hn, by rw [hfr]; exact hno.1, by rw [hfr, hdl]; exact hno.2⟩) (H' := H) (fun _ _ => rfl) (by rw [hfr]; exact hfree) (fun _ => by rw [hfr]; exact hfree)).1
  · obtain ⟨hi, hf, hn⟩ := holder_lt he
    have hf : (x.fr i).full = true := hf
    have hn : (x.fr i).no = no := hn
    refine ⟨rfl, ?_, ?_⟩
    · show (x.fr i).b = _
      rw [h.held i hi hf, hn]
    · exact (h.place (f := { x.fr i with used := true }) hi hf (.inl ⟨hf, rfl⟩) (H' := H) (fun _ _ => rfl) (h.held i hi hf) (h.clean i hi hf)).1
theorem Inv.put (h : Inv x d H) (hno : 0 ≤ no ∧ no < d.L.length) (hp : ∃ m, m < x.L.length ∧ (x.fr m).pins = 0) (l : List UInt8) : (x.put d no l).1 = 0 ∧ Inv (x.put d no l).2.1 (x.put d no l).2.2 (setH H no.toNat l) ∧
    (x.put d no l).2.1.L.length = x.L.length ∧ (x.put d no l).2.2.L.length = d.L.length ∧ (x.put d no l).2.2.n ≤ d.n + 1 ∧ (∀ j, ((x.put d no l).2.1.fr j).pins = (x.fr j).pins) := by
  unfold Cch.put
  rw [if_pos hno]
  have hH : ∀ m, m ≠ no.toNat → setH H no.toNat l m = H m := fun m hm => by unfold setH; rw [if_neg hm]
  have hHn : setH H no.toNat l no.toNat = l := by unfold setH; rw [if_pos rfl]
  rcases he : x.holder no with _ | i
  · obtain ⟨i, y, dy, hr, hI, hi, hz, hl, hdl, hdn, hpins, hk⟩ := h.roomed hp
    have hn := hk no he
    simp only [hr]
    have hz2 : i < (y.hold i no).L.length := by rw [Cch.hold_len]; exact hi
    have e : (((y.hold i no).bytes i l).soil i).use i = y.place i ⟨true, no, l, true, true, 0⟩ := by
      rw [put_place hz2]
      have e1 : y.hold i no = y.place i { y.fr i with full := true, no := no } := rfl
      rw [e1, place_fr hi, if_pos rfl, place_place, hz]
      rfl
    rw [e]
    refine ⟨trivial, (hI.place (f := ⟨true, no, l, true, true, 0⟩) hi rfl (.inr ⟨by rw [hz]; rfl, hn, hno.1, by rw [hdl]; exact hno.2⟩) hH hHn.symm (fun e => by cases e)).1, by rw [place_len]; exact hl, hdl, hdn, fun j => ?_⟩
    rw [place_fr hi]
    split
    · rename_i e2
      subst e2
      rw [← hpins, hz]
      rfl
    · exact hpins j
  · obtain ⟨hi, hf, hn⟩ := holder_lt he
    have hf : (x.fr i).full = true := hf
    have hn : (x.fr i).no = no := hn
    simp only
    rw [put_place hi]
    subst hn
    refine ⟨trivial, (h.place (f := { x.fr i with b := l, dirty := true, used := true }) hi hf (.inl ⟨hf, rfl⟩) hH hHn.symm (fun e => by cases e)).1, place_len .., trivial, Nat.le_succ _, fun j => ?_⟩
    rw [place_fr hi]
    split
    · rename_i e2; subst e2; rfl
    · rfl
theorem syncGo_calm : ∀ (l : List Int) (x : Cch) (d : Dev), Inv x d H → (∀ no ∈ l, ∃ i, x.holder no = some i) → (syncGo l x d).1 = 0 ∧ Inv (syncGo l x d).2.1 (syncGo l x d).2.2 H ∧ (syncGo l x d).2.1.L.length = x.L.length ∧
    (∀ j, ((syncGo l x d).2.1.fr j).pins = (x.fr j).pins ∧ ((syncGo l x d).2.1.fr j).full = (x.fr j).full ∧ ((syncGo l x d).2.1.fr j).no = (x.fr j).no) ∧
    (∀ j, j < x.L.length → (x.fr j).full = true → (x.fr j).dirty = false ∨ (x.fr j).no ∈ l → ((syncGo l x d).2.1.fr j).dirty = false) ∧ (syncGo l x d).2.2.L.length = d.L.length ∧ (syncGo l x d).2.2.n = d.n + l.length
  | [], x, d, h, _ => ⟨rfl, h, rfl, fun _ => ⟨rfl, rfl, rfl⟩, fun j _ _ hd => hd.elim id (fun e => by cases e), rfl, rfl⟩
  | no :: r, x, d, h, hl => by
    obtain ⟨i, hi⟩ := hl no (.head _)
    obtain ⟨a, b, c⟩ := holder_lt hi
    have b : (x.fr i).full = true := b
    have c : (x.fr i).no = no := c
    obtain ⟨w1, w2, w3, w4, w5, w6⟩ := h.write a b
    have hp := write_pins x d i
    have hL := (write_L x d i).1
    have hD := (write_dev x d i).1
    have e : syncGo (no :: r) x d = syncGo r (x.write d i).2.1 (x.write d i).2.2 := by
      rw [syncGo, hi, Option.getD_some, if_pos w1]
    rw [e]
    have hk := write_keys x d i
    obtain ⟨s1, s2, s3, s4, s5, s6, s7⟩ := syncGo_calm r _ _ w2 fun m hm => by rw [holder_find hk]; exact hl m (List.mem_cons_of_mem _ hm)
    refine ⟨s1, s2, s3.trans hL, fun j => ⟨(s4 j).1.trans (hp j).1, (s4 j).2.1.trans (hp j).2.1, (s4 j).2.2.trans (hp j).2.2.1⟩, fun j hj hjf hd => ?_, s6.trans hD, by rw [s7, w6, List.length_cons]; omega⟩
    refine s5 j (by rw [hL]; exact hj) (by rw [(hp j).2.1]; exact hjf) ?_
    rcases hd with hd | hd
    · exact .inl (w5 j hd)
    · rcases List.mem_cons.1 hd with e2 | e2
      · have : j = i := h.ok.once j i hj a hjf b (e2.trans c.symm)
        subst this
        exact .inl w3
      · exact .inr (by rw [(hp j).2.2.1]; exact e2)
theorem now_flush (d : Dev) {i : Nat} (hi : i < d.L.length) : d.flush.now i = d.now i := by
  have e : d.flush.now i = ((List.range d.L.length).map d.now).getD i [] := rfl
  rw [e, List.getD_eq_getElem?_getD, List.getElem?_map, List.getElem?_range hi]
  rfl
theorem Inv.sync (h : Inv x d H) : (x.sync d).1 = 0 ∧ Inv (x.sync d).2.1 (x.sync d).2.2 H ∧ (x.sync d).2.1.L.length = x.L.length ∧ (x.sync d).2.2.L.length = d.L.length ∧ (x.sync d).2.2.n ≤ d.n + x.L.length ∧ (∀ j, ((x.sync d).2.1.fr j).pins = (x.fr j).pins) ∧
    (x.sync d).2.1.soiled = [] ∧ (∀ m, m < d.L.length → (x.sync d).2.2.L.getD m [] = H m) ∧ (∀ i, (x.sync d).2.2.Q i = []) := by
  have hz : ∀ f ∈ x.L, f.dirty = true → f.full = true := by
    intro f hf hd
    obtain ⟨i, hi, rfl⟩ := List.mem_iff_getElem.1 hf
    rcases hq : x.L[i].full with _ | _
    · have := h.ok.zero i hi (by unfold Cch.fr; rw [getD_at hi]; exact hq)
      unfold Cch.fr at this
      rw [getD_at hi] at this
      rw [this] at hd
      cases hd
    · rfl
  obtain ⟨s1, s2, s3, s4, s5, s6, s7⟩ := syncGo_calm x.soiled x d h (soiled_held x hz)
  have e : x.sync d = (0, (syncGo x.soiled x d).2.1, (syncGo x.soiled x d).2.2.flush) := by
    unfold Cch.sync
    rw [if_pos s1, if_neg (by rw [s2.calm.burns]; simp), s2.calm.burn]
  rw [e]
  obtain ⟨y, hy⟩ : ∃ y, y = (syncGo x.soiled x d).2.1 := ⟨_, rfl⟩
  obtain ⟨dy, hdy⟩ : ∃ dy, dy = (syncGo x.soiled x d).2.2 := ⟨_, rfl⟩
  rw [← hy] at s2 s3 s4 s5 ⊢
  rw [← hdy] at s2 s6 s7 ⊢
  have hlen : dy.flush.L.length = dy.L.length := Dev.flush_length dy
  have hmem : ∀ j, j < x.L.length → (x.fr j).full = true → (x.fr j).dirty = true → (x.fr j).no ∈ x.soiled := by
    intro j hj hf hd
    unfold Cch.soiled
    rw [mem_mergeSort']
    unfold Cch.those upThose
    rw [List.take_length, List.mem_map]
    unfold Cch.fr at hd ⊢
    rw [getD_at hj] at hd ⊢
    exact ⟨x.L[j], List.mem_filter.2 ⟨List.getElem_mem hj, hd⟩, rfl⟩
  have hclean : ∀ j, j < y.L.length → (y.fr j).dirty = false := by
    intro j hj
    have hj' : j < x.L.length := by omega
    rcases hf : (x.fr j).full with _ | _
    · have hfy : (y.fr j).full = false := by rw [(s4 j).2.1]; exact hf
      rw [s2.ok.zero j hj hfy]
      rfl
    · refine s5 j hj' hf ?_
      rcases hd : (x.fr j).dirty with _ | _
      · exact .inl rfl
      · exact .inr (hmem j hj' hf hd)
  have hnowall : ∀ m, m < d.L.length → dy.now m = H m := by
    intro m hm
    rcases hh : y.holder (m : Int) with _ | j
    · exact s2.free m (by rw [s6]; exact hm) hh
    · obtain ⟨a, b, c⟩ := holder_lt hh
      have := s2.clean j a b (hclean j a)
      rw [show (y.fr j).no = (m : Int) from c] at this
      simpa using this
  refine ⟨rfl, ⟨by rw [hlen]; exact s2.ok, s2.calm, s2.held, fun i hi hf _ => ?_, fun m hm hn => ?_⟩, s3, by rw [hlen]; exact s6, ?_, fun j => (s4 j).1, ?_, fun m hm => ?_, fun _ => rfl⟩
  · have hw := s2.ok.within i hi hf
    rw [now_flush dy (by have a : 0 ≤ (y.fr i).no := hw.1; have b : (y.fr i).no < dy.L.length := hw.2; omega)]
    exact s2.clean i hi hf (hclean i hi)
  · rw [hlen] at hm
    rw [now_flush dy hm]
    exact s2.free m hm hn
  · show dy.n ≤ _
    have := soiled_len x
    omega
  · unfold Cch.soiled
    have : y.those (fun f => f.dirty) = [] := by
      unfold Cch.those upThose
      rw [List.take_length, List.map_eq_nil_iff, List.filter_eq_nil_iff]
      intro f hf
      obtain ⟨j, hj, rfl⟩ := List.mem_iff_getElem.1 hf
      have := hclean j hj
      unfold Cch.fr at this
      rw [getD_at hj] at this
      rw [this]
      simp
    rw [this]
    simp [upward]
  · have e2 : dy.flush.L = (List.range dy.L.length).map dy.now := rfl
    show dy.flush.L.getD m [] = _
    rw [e2, List.getD_eq_getElem?_getD, List.getElem?_map, List.getElem?_range (by rw [s6]; exact hm)]
    exact hnowall m hm
theorem inv_new (k n : Nat) (hk : 0 < k) : Inv (Cch.new k) (Dev.new n) (fun _ => blank) := by
  refine ⟨new_ok' k _ hk, fun _ => rfl, fun i _ hf => ?_, fun i _ hf => ?_, fun m hm _ => ?_⟩
  · unfold Cch.fr at hf; rw [new_getD] at hf; cases hf
  · unfold Cch.fr at hf; rw [new_getD] at hf; cases hf
  · rw [Dev.new_length] at hm
    show ((List.replicate n blank).getD m []) = blank
    rw [List.getD_eq_getElem?_getD, List.getElem?_replicate, if_pos hm]
    rfl
end
end Go.Proofs.Ytfjcblppmoomdaa
