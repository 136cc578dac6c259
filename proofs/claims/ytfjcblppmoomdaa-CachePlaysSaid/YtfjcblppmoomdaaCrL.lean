/-
  The document's cache: Put, all ways; which sectors are held, or dirty, in the order of their numbers, as plain mathematics.
-/
import Derived.Test.YtfjcblppmoomdaaCrK
import Derived.Test.YtfjcblppmoomdaaCacheP
namespace Go.Proofs.Ytfjcblppmoomdaa
open Go.RowKit
section
variable {w w' : World} {E E' : Nat → Prop} {q r bf cap : Nat} {rest : List Value} {P : List (Frm × Value)} {x y : Cch} {d d' dy : Dev}
theorem rput_any (h : CDR w E q r bf cap rest x d) (hok : x.Ok d.L.length) (hn : d.n < 999999) (hE : ∀ k, w.heap.size ≤ k → E k) (no : Int) {bb : Nat} {l : List UInt8} (hl : l.length = 256) (hb : w.heap[bb]? = some (.cells (cellsB l).toArray 5 (0, 0))) (hbE : ¬ E bb) :
    Calls Try.prog 30 #[at0 r, .int .i64 no, .slice (some ⟨bb, 0, none⟩) 256 256] w fun e w' => e = .returned (.int .i64 (x.put d no l).1) ∧ CDR w' E q r bf cap rest (x.put d no l).2.1 (x.put d no l).2.2 ∧ Only E w w' := by
  by_cases hno : 0 ≤ no ∧ no < d.L.length
  · rcases hh : x.holder no with _ | i
    · have hs := room_spec x d hok.hand
      obtain ⟨s1, s2, s3, s4⟩ := hs
      have hO := (hok.room d).2.1
      rcases hr : x.room d with ⟨o, e0, y, dy⟩
      rw [hr] at s1 s2 s3 s4 hO
      rcases o with _ | i
      · have e : x.put d no l = (e0, y, dy) := by
          unfold Cch.put
          rw [if_pos hno, hh, hr]
        rw [e]
        have he : e0 = 3 ∨ e0 = 11 := by
          rcases s4 with ⟨i, a, _⟩ | ⟨_, b⟩
          · cases a
          · exact b
        exact rput_full h hok (by omega) hE hno hh hr he _ _
      · have he : e0 = 0 ∧ i < x.L.length := by
          rcases s4 with ⟨j, a, b, c⟩ | ⟨a, _⟩
          · injection a with a; subst a; exact ⟨b, c⟩
          · cases a
        obtain ⟨rfl, hix⟩ := he
        have s1 : y.L.length = x.L.length := s1
        have hz : y.fr i = Frm.zero := (hO i rfl).2.1
        have hiy : i < y.L.length := by omega
        have e : x.put d no l = (0, ⟨y.L.set i ⟨true, no, l, true, true, 0⟩, y.hand⟩, dy) := by
          unfold Cch.put
          rw [if_pos hno, hh, hr]
          show (0, (((y.hold i no).bytes i l).soil i).use i, dy) = _
          rw [put_place (x := y.hold i no) (by rw [Cch.hold_len]; exact hiy) l]
          have e1 : y.hold i no = y.place i { y.fr i with full := true, no := no } := rfl
          have e2 : (y.hold i no).fr i = { y.fr i with full := true, no := no } := by
            rw [e1, place_fr hiy, if_pos rfl]
          rw [e2, e1, place_place, hz]
          rfl
        rw [e]
        exact rput_ok h hok (by omega) hE hno hh hr hiy hl hb hbE
    · have e : x.put d no l = (0, ⟨x.L.set i ((x.fr i).laid l), x.hand⟩, d) := by
        unfold Cch.put
        rw [if_pos hno, hh]
        show (0, ((x.bytes i l).soil i).use i, d) = _
        rw [put_place (holder_lt hh).1 l]
        rfl
      rw [e]
      exact rput_hit h hok hE hno hh hl hb
  · have e : x.put d no l = (1, x, d) := by
      unfold Cch.put
      rw [if_neg hno]
    rw [e]
    refine (rput_arg h (no := no) (by omega) _ _).mono ?_
    rintro e w' ⟨rfl, rfl⟩
    exact ⟨rfl, h, Only.refl _ _⟩
end
/-! ### Rising -/
theorem rising_ext : ∀ {l m : List Int}, l.Pairwise (· < ·) → m.Pairwise (· < ·) → (∀ a, a ∈ l ↔ a ∈ m) → l = m
  | [], [], _, _, _ => rfl
  | [], b :: m, _, _, h => absurd ((h b).2 List.mem_cons_self) (by simp)
  | a :: l, [], _, _, h => absurd ((h a).1 List.mem_cons_self) (by simp)
  | a :: l, b :: m, h1, h2, h => by
    rw [List.pairwise_cons] at h1 h2
    have e : a = b := by
      rcases List.mem_cons.1 ((h a).1 List.mem_cons_self) with e | e
      · exact e
      · rcases List.mem_cons.1 ((h b).2 List.mem_cons_self) with e2 | e2
        · exact e2.symm
        · have := h2.1 a e
          have := h1.1 b e2
          omega
    subst e
    rw [rising_ext h1.2 h2.2 fun c => ?_]
    constructor
    · intro hc
      rcases List.mem_cons.1 ((h c).1 (List.mem_cons_of_mem _ hc)) with e | e
      · have := h1.1 c hc; omega
      · exact e
    · intro hc
      rcases List.mem_cons.1 ((h c).2 (List.mem_cons_of_mem _ hc)) with e | e
      · have := h2.1 c hc; omega
      · exact e
/-- The numbers below n. -/
def nos (n : Nat) : List Int := (List.range n).map fun k : Nat => (k : Int)
theorem nos_length (n : Nat) : (nos n).length = n := by simp [nos]
theorem nos_get {n k : Nat} (h : k < (nos n).length) : (nos n)[k] = (k : Int) := by simp [nos]
theorem nos_succ (n : Nat) : nos (n + 1) = nos n ++ [(n : Int)] := by simp [nos, List.range_succ]
theorem nos_rising (n : Nat) : (nos n).Pairwise (· < ·) := by
  rw [List.pairwise_iff_getElem]
  intro i j hi hj h
  rw [nos_get, nos_get]
  omega
theorem mem_nos {n : Nat} {a : Int} : a ∈ nos n ↔ 0 ≤ a ∧ a < n := by
  unfold nos
  simp only [List.mem_map, List.mem_range]
  constructor
  · rintro ⟨k, hk, rfl⟩; omega
  · rintro ⟨h1, h2⟩; exact ⟨a.toNat, by omega, by omega⟩
/-- Whether sector no is told. -/
def keepQ (x : Cch) (dirty : Bool) (no : Int) : Bool :=
  match x.holder no with
  | none => false
  | some i => (x.fr i).dirty || !dirty
theorem keepQ_none {x : Cch} {no : Int} (h : x.holder no = none) (dirty : Bool) : keepQ x dirty no = false := by unfold keepQ; rw [h]
theorem keepQ_some {x : Cch} {no : Int} {i : Nat} (h : x.holder no = some i) (dirty : Bool) : keepQ x dirty no = ((x.fr i).dirty || !dirty) := by unfold keepQ; rw [h]
theorem those_nos {x : Cch} {n : Nat} (h : x.Ok n) {q : Frm → Bool} (hq : ∀ f ∈ x.L, q f = true → f.full = true) {dirty : Bool} (hd : ∀ i, i < x.L.length → (x.fr i).full = true → q (x.fr i) = ((x.fr i).dirty || !dirty)) : upward (x.those q) = (nos n).filter (keepQ x dirty) := by
  have hfr : ∀ i (hi : i < x.L.length), x.L[i] = x.fr i := fun i hi => by unfold Cch.fr; rw [getD_at hi]
  have hp : x.L.Pairwise fun f g => f.full = true → g.full = true → f.no ≠ g.no := by
    rw [List.pairwise_iff_getElem]
    intro i j hi hj hij a b e
    rw [hfr i hi, hfr j hj] at e
    rw [hfr i hi] at a
    rw [hfr j hj] at b
    have := h.once i j hi hj a b e
    omega
  have hnd : (x.those q).Nodup := by
    unfold Cch.those upThose
    rw [List.take_length]
    unfold List.Nodup
    rw [List.pairwise_map]
    refine (hp.filter q).imp_of_mem ?_
    intro f g hf hg hfg
    rw [List.mem_filter] at hf hg
    exact hfg (hq f hf.1 hf.2) (hq g hg.1 hg.2)
  have hmem : ∀ a, a ∈ x.those q ↔ ∃ i, i < x.L.length ∧ q (x.fr i) = true ∧ (x.fr i).no = a := by
    intro a
    unfold Cch.those upThose
    rw [List.take_length, List.mem_map]
    constructor
    · rintro ⟨f, hf, rfl⟩
      rw [List.mem_filter] at hf
      obtain ⟨i, hi, e⟩ := List.mem_iff_getElem.1 hf.1
      have e2 := (hfr i hi).symm.trans e
      exact ⟨i, hi, by rw [e2]; exact hf.2, by rw [e2]⟩
    · rintro ⟨i, hi, h1, h2⟩
      exact ⟨x.L[i], List.mem_filter.2 ⟨List.getElem_mem hi, by rw [hfr i hi]; exact h1⟩, by rw [hfr i hi]; exact h2⟩
  refine rising_ext ?_ ((nos_rising n).filter _) fun a => ?_
  · have h1 : (upward (x.those q)).Pairwise fun a b => decide (a ≤ b) = true := List.pairwise_mergeSort (fun a b c h1 h2 => by simp at *; omega) (fun a b => by simp; omega) _
    have h2 : (upward (x.those q)).Nodup := (List.mergeSort_perm _ _).nodup_iff.2 hnd
    refine (h1.and h2).imp ?_
    rintro a b ⟨h1, h2⟩
    have h1 : a ≤ b := by simpa using h1
    have h2 : a ≠ b := h2
    omega
  · rw [mem_mergeSort', hmem, List.mem_filter, mem_nos]
    constructor
    · rintro ⟨i, hi, h1, h2⟩
      have hf : (x.fr i).full = true := hq (x.fr i) (by rw [← hfr i hi]; exact List.getElem_mem hi) h1
      have hw := h.within i hi hf
      have hh : x.holder a = some i := h.holder_iff.2 ⟨hi, hf, h2⟩
      rw [show (x.L.getD i Frm.zero).no = a from h2] at hw
      rw [keepQ_some hh, ← hd i hi hf]
      exact ⟨hw, h1⟩
    · rintro ⟨_, h2⟩
      rcases hh : x.holder a with _ | i
      · rw [keepQ_none hh] at h2; cases h2
      · obtain ⟨h3, h4, h5⟩ := h.holder_iff.1 hh
        rw [keepQ_some hh, ← hd i h3 h4] at h2
        exact ⟨i, h3, h2, h5⟩
theorem those_full {x : Cch} {n : Nat} (h : x.Ok n) : upward (x.those fun f => f.full) = (nos n).filter (keepQ x false) :=
  those_nos h (fun _ _ hf => hf) (fun i _ hf => by rw [hf]; simp)
theorem those_dirty {x : Cch} {n : Nat} (h : x.Ok n) : upward (x.those fun f => f.dirty) = (nos n).filter (keepQ x true) :=
  those_nos h (fun f hf hd => dirty_full h f hf hd) (fun i _ _ => by simp)
/-! ### Sync, sector by sector -/
def syncAll : List Int → Cch → Dev → Int × Cch × Dev
  | [], x, d => (0, x, d)
  | no :: l, x, d => match x.holder no with
    | none => syncAll l x d
    | some i => if (x.fr i).dirty = true then (if (x.write d i).1 = 0 then syncAll l (x.write d i).2.1 (x.write d i).2.2 else x.write d i) else syncAll l x d
theorem syncAll_go : ∀ (l : List Int) (x : Cch) (d : Dev) (n : Nat), l.Nodup → x.Ok n → syncAll l x d = syncGo (l.filter (keepQ x true)) x d
  | [], _, _, _, _, _ => rfl
  | no :: l, x, d, n, hl, h => by
    have hl' := List.nodup_cons.1 hl
    unfold syncAll
    rcases hh : x.holder no with _ | i
    · rw [List.filter_cons, keepQ_none hh, if_neg (by simp)]
      exact syncAll_go l x d n hl'.2 h
    · rw [List.filter_cons, keepQ_some hh]
      obtain ⟨hi, hf, hno⟩ := h.holder_iff.1 hh
      dsimp only
      rcases hd : (x.fr i).dirty with _ | _
      · rw [if_neg (by simp), if_neg (by simp)]
        exact syncAll_go l x d n hl'.2 h
      · have hw := h.write hi hf d
        have hlen := (write_L x d i).1
        have hk := write_keys x d i
        have hf2 : l.filter (keepQ (x.write d i).2.1 true) = l.filter (keepQ x true) := by
          apply List.filter_congr
          intro a ha
          have hne : a ≠ no := fun e => hl'.1 (e ▸ ha)
          rcases hha : x.holder a with _ | j
          · rw [keepQ_none hha, keepQ_none (by rw [holder_find hk]; exact hha)]
          · obtain ⟨_, _, h3⟩ := h.holder_iff.1 hha
            rw [keepQ_some hha, keepQ_some (by rw [holder_find hk]; exact hha)]
            have hji : j ≠ i := fun e => by subst e; exact hne (h3.symm.trans hno)
            have e : (x.write d i).2.1.fr j = x.fr j := by
              unfold Cch.write
              split
              · rfl
              · show (Cch.mk (x.L.set i _) x.hand).fr j = _
                rw [fr_set hi, if_neg hji]
            rw [e]
        rw [if_pos (show (true || !true) = true from rfl), syncGo, hh, Option.getD_some, syncAll_go l _ _ n hl'.2 hw, hf2, if_pos rfl]
theorem syncAll_soiled {x : Cch} {n : Nat} (h : x.Ok n) (d : Dev) : syncAll (nos n) x d = syncGo x.soiled x d := by
  rw [syncAll_go _ x d n ((nos_rising n).imp fun hab e => by omega) h]
  unfold Cch.soiled
  rw [those_dirty h]
end Go.Proofs.Ytfjcblppmoomdaa
