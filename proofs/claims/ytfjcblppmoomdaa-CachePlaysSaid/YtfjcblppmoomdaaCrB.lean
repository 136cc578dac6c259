/-
  The document's own cache over its own device: what its blocks hold; At: contract.
  The document's cache and its device, both in one memory: the device's calls leave the cache, and all sectors that there are: contracts.
-/
import Derived.Test.YtfjcblppmoomdaaRkH
import Derived.Test.YtfjcblppmoomdaaCacheM
namespace Go.Proofs.Ytfjcblppmoomdaa
open Go.RowKit
/-- What stands as a frame's number. -/
def rfNo (f : Frm) : Int := if f.full = true then f.no else -1
/-- The five cells of the document's frame; its bytes are the slice. -/
def rfCells (p : Frm × Value) : List Value := [.int .i64 (rfNo p.1), .int .i64 (p.1.pins : Int), .bool p.1.dirty, .bool p.1.used, p.2]
theorem rfCells_length (p : Frm × Value) : (rfCells p).length = 5 := rfl
/-- The cells of frames, one behind the other. -/
def crows (P : List (Frm × Value)) : List Value := P.flatMap rfCells
theorem crows_length (P : List (Frm × Value)) : (crows P).length = P.length * 5 := chunks_length fun _ _ => rfl
/-- The cells of the cache's own block. -/
def crCells (q bf n cap hand : Nat) : List Value := [at0 q, .slice (some ⟨bf, 0, none⟩) n cap, .int .i64 (hand : Int)]
/-- In w there is the document's cache x at block r, its frames in block bf, their sectors in Z; its device is at q. -/
structure CRefIs (w : World) (Z : Nat → Prop) (q r bf cap : Nat) (rest : List Value) (P : List (Frm × Value)) (x : Cch) : Prop where
  top : w.heap[r]? = some (.cells (crCells q bf x.L.length cap x.hand).toArray 49 (0, 0))
  frs : w.heap[bf]? = some (.cells (crows P ++ rest).toArray 78 (0, 0))
  same : P.map (·.1) = x.L
  full : ∀ p ∈ P, p.1.full = true → SecIs w Z p.2 p.1.b
  ne : r ≠ bf
  size : 8 ≤ x.L.length ∧ x.L.length ≤ 64
  hand : x.hand < x.L.length
section
variable {w w' : World} {Z Z' : Nat → Prop} {q r bf cap : Nat} {rest : List Value} {P : List (Frm × Value)} {x : Cch}
theorem CRefIs.len (h : CRefIs w Z q r bf cap rest P x) : P.length = x.L.length := by rw [← h.same, List.length_map]
theorem CRefIs.lt (h : CRefIs w Z q r bf cap rest P x) : r < w.heap.size ∧ bf < w.heap.size := ⟨(Array.getElem?_eq_some_iff.1 h.top).1, (Array.getElem?_eq_some_iff.1 h.frs).1⟩
theorem CRefIs.keep (h : CRefIs w Z q r bf cap rest P x) (h1 : w'.heap[r]? = w.heap[r]?) (h2 : w'.heap[bf]? = w.heap[bf]?) (hz : ∀ k, k < w.heap.size → Z k → w'.heap[k]? = w.heap[k]?) : CRefIs w' Z q r bf cap rest P x :=
  { h with top := h1.trans h.top, frs := h2.trans h.frs, full := fun p hp hf => (h.full p hp hf).keep hz }
theorem CRefIs.mono (h : CRefIs w Z q r bf cap rest P x) (hZ : ∀ k, k < w.heap.size → Z k → Z' k) : CRefIs w Z' q r bf cap rest P x := { h with full := fun p hp hf => (h.full p hp hf).mono hZ }
theorem CRefIs.below (h : CRefIs w Z q r bf cap rest P x) (hb : Below w.heap.size w w') : CRefIs w' Z q r bf cap rest P x := h.keep (hb.block r h.lt.1) (hb.block bf h.lt.2) fun k hk _ => hb.block k hk
theorem CRefIs.drew (h : CRefIs w Z q r bf cap rest P x) : CRefIs w.drew Z q r bf cap rest P x := h.keep rfl rfl fun _ _ _ => rfl
theorem CRefIs.k0 (h : CRefIs w Z q r bf cap rest P x) : w.cell? ⟨r, 0, none⟩ = some (at0 q) := by rw [cell_of_row w r 0 _ _ (0, 0) h.top]; rfl
theorem CRefIs.k1 (h : CRefIs w Z q r bf cap rest P x) : w.cell? ⟨r, 1, none⟩ = some (.slice (some ⟨bf, 0, none⟩) x.L.length cap) := by rw [cell_of_row w r 1 _ _ (0, 0) h.top]; rfl
theorem CRefIs.k2 (h : CRefIs w Z q r bf cap rest P x) : w.cell? ⟨r, 2, none⟩ = some (.int .i64 (x.hand : Int)) := by rw [cell_of_row w r 2 _ _ (0, 0) h.top]; rfl
theorem CRefIs.freeR (h : CRefIs w Z q r bf cap rest P x) (j : Nat) : w.frozen? ⟨r, j, none⟩ = false := frozen_of_row w r j _ _ h.top
theorem CRefIs.freeF (h : CRefIs w Z q r bf cap rest P x) (j : Nat) : w.frozen? ⟨bf, j, none⟩ = false := frozen_of_row w bf j _ _ h.frs
theorem CRefIs.fst_at (h : CRefIs w Z q r bf cap rest P x) {i : Nat} (hi : i < P.length) : P[i].1 = x.fr i := by
  have h1 : i < x.L.length := by rw [← h.len]; exact hi
  unfold Cch.fr
  rw [getD_at h1]
  have e : x.L[i]? = some P[i].1 := by rw [← h.same, List.getElem?_map, List.getElem?_eq_getElem hi]; rfl
  rw [List.getElem?_eq_getElem h1] at e
  exact (Option.some.inj e).symm
theorem CRefIs.cellF (h : CRefIs w Z q r bf cap rest P x) {i j : Nat} {v : Value} (hi : i < P.length) (hv : (rfCells P[i])[j]? = some v) : w.cell? ⟨bf, i * 5 + j, none⟩ = some v := by
  rw [cell_of_row w bf (i * 5 + j) _ _ (0, 0) h.frs, List.getElem?_toArray]
  have hc : (crows P)[i * 5 + j]? = some v := chunks_get (m := 5) (fun _ _ => rfl) hi hv
  rw [List.getElem?_append_left (List.getElem?_eq_some_iff.1 hc).1]
  exact hc
theorem CRefIs.f0 (h : CRefIs w Z q r bf cap rest P x) {i : Nat} (hi : i < x.L.length) : w.cell? ⟨bf, i * 5, none⟩ = some (.int .i64 (rfNo (x.fr i))) := by
  have hp : i < P.length := by rw [h.len]; exact hi
  have := h.cellF (j := 0) (v := .int .i64 (rfNo P[i].1)) hp rfl
  rwa [Nat.add_zero, h.fst_at hp] at this
theorem CRefIs.f1 (h : CRefIs w Z q r bf cap rest P x) {i : Nat} (hi : i < x.L.length) : w.cell? ⟨bf, i * 5 + 1, none⟩ = some (.int .i64 ((x.fr i).pins : Int)) := by
  have hp : i < P.length := by rw [h.len]; exact hi
  have := h.cellF (j := 1) (v := .int .i64 (P[i].1.pins : Int)) hp rfl
  rwa [h.fst_at hp] at this
theorem CRefIs.f2 (h : CRefIs w Z q r bf cap rest P x) {i : Nat} (hi : i < x.L.length) : w.cell? ⟨bf, i * 5 + 2, none⟩ = some (.bool (x.fr i).dirty) := by
  have hp : i < P.length := by rw [h.len]; exact hi
  have := h.cellF (j := 2) (v := .bool P[i].1.dirty) hp rfl
  rwa [h.fst_at hp] at this
theorem CRefIs.f3 (h : CRefIs w Z q r bf cap rest P x) {i : Nat} (hi : i < x.L.length) : w.cell? ⟨bf, i * 5 + 3, none⟩ = some (.bool (x.fr i).used) := by
  have hp : i < P.length := by rw [h.len]; exact hi
  have := h.cellF (j := 3) (v := .bool P[i].1.used) hp rfl
  rwa [h.fst_at hp] at this
/-- The bytes of a frame that holds a sector. -/
theorem CRefIs.f4 (h : CRefIs w Z q r bf cap rest P x) {i : Nat} (hi : i < x.L.length) (hf : (x.fr i).full = true) : ∃ gu cu, w.cell? ⟨bf, i * 5 + 4, none⟩ = some (.slice (some ⟨gu, 0, none⟩) 256 cu) ∧ SecIs w Z (.slice (some ⟨gu, 0, none⟩) 256 cu) (x.fr i).b := by
  have hp : i < P.length := by rw [h.len]; exact hi
  have hc := h.cellF (j := 4) (v := P[i].2) hp rfl
  have e := h.fst_at hp
  have hs := h.full P[i] (List.getElem_mem hp) (by rw [e]; exact hf)
  rw [e] at hs
  obtain ⟨gu, cu, eu, _⟩ := hs.at_
  rw [eu] at hs hc
  exact ⟨gu, cu, hc, hs⟩
/-- Some cells of frame i, stored in a row. -/
theorem CRefIs.put (h : CRefIs w Z q r bf cap rest P x) {i : Nat} {f : Frm} {u : Value} {cs : List Value} (hw : w'.heap[bf]? = some (.cells (cs ++ rest).toArray 78 (0, 0))) (hcs : cs = crows (P.set i (f, u)))
    (hg : w.grownBy w' (some bf)) (hs : f.full = true → SecIs w' Z u f.b) : CRefIs w' Z q r bf cap rest (P.set i (f, u)) { x with L := x.L.set i f } := by
  have h5 : ∀ g cur, some bf = some g → w.heap[g]? ≠ some (.cells cur 5 (0, 0)) := fun g cur e hc => by
    injection e with e
    subst e
    rw [h.frs] at hc
    injection hc with hc
    injection hc with _ ht
    cases ht
  refine ⟨?_, ?_, ?_, fun p hp hf => ?_, h.ne, by simpa using h.size, by simpa using h.hand⟩
  · rw [hg.block r h.lt.1 (fun e => h.ne (by injection e))]
    simpa using h.top
  · rw [hw, hcs]
  · rw [List.map_set, h.same]
  · rcases List.mem_or_eq_of_mem_set hp with h1 | h1
    · exact (h.full p h1 hf).other hg h5
    · subst h1; exact hs hf
theorem CRefIs.set (h : CRefIs w Z q r bf cap rest P x) {i j : Nat} {v : Value} {f : Frm} {u : Value} (hi : i < x.L.length) (hj : j < 5) (hf : ∀ hp : i < P.length, (rfCells P[i]).set j v = rfCells (f, u)) (hs : f.full = true → SecIs (w.setCell ⟨bf, i * 5 + j, none⟩ v) Z u f.b) :
    CRefIs (w.setCell ⟨bf, i * 5 + j, none⟩ v) Z q r bf cap rest (P.set i (f, u)) { x with L := x.L.set i f } := by
  have hp : i < P.length := by rw [h.len]; exact hi
  have e := chunks_set (g := rfCells) (m := 5) (fun _ _ => rfl) hp hj (hf hp)
  refine h.put (cs := (crows P).set (i * 5 + j) v) ?_ e (grown_cell _ _ _ _) hs
  have hl : i * 5 + j < (crows P).length := by rw [crows_length]; omega
  rw [heap_setCell_same w bf (i * 5 + j) _ _ v h.frs, List.setIfInBounds_toArray, List.set_append_left _ _ hl]
/-- The hand, set. -/
theorem CRefIs.turned (h : CRefIs w Z q r bf cap rest P x) {k : Nat} (hk : k < x.L.length) : CRefIs (w.setCell ⟨r, 2, none⟩ (.int .i64 (k : Int))) Z q r bf cap rest P { x with hand := k } := by
  have h5 : ∀ g cur, some r = some g → w.heap[g]? ≠ some (.cells cur 5 (0, 0)) := fun g cur e hc => by
    injection e with e
    subst e
    rw [h.top] at hc
    injection hc with hc
    injection hc with _ ht
    cases ht
  refine ⟨?_, ?_, h.same, fun p hp hf => (h.full p hp hf).other (grown_cell _ _ _ _) h5, h.ne, h.size, hk⟩
  · rw [heap_setCell_same w r 2 _ _ (.int .i64 (k : Int)) h.top]
    rfl
  · rw [heap_setCell_other w _ bf _ h.ne.symm]
    exact h.frs
/-- Which frame, as a number. -/
def atOf : Option Nat → Int
  | none => -1
  | some i => (i : Int)
set_option maxRecDepth 100000 in
set_option maxHeartbeats 400000 in
theorem rat_any (h : CRefIs w Z q r bf cap rest P x) {n : Nat} (hok : x.Ok n) (no : Int) : Calls Try.prog 38 #[at0 r, .int .i64 no] w fun e w' => e = .returned (.int .i64 (atOf (x.holder no))) ∧ w = w' := by
  have k1 := h.k1
  have hs := h.size
  have h0 : ∀ k, k < x.L.length → w.cell? ⟨bf, k * 5, none⟩ = some (.int .i64 (rfNo (x.fr k))) := fun k hk => h.f0 hk
  have hit : ∀ k, k < x.L.length → rfNo (x.fr k) = no → 0 ≤ no → x.holder no = some k := by
    intro k hk a b
    unfold rfNo at a
    split at a
    · rename_i hf
      exact hok.holder_iff.2 ⟨hk, hf, a⟩
    · omega
  have miss : (no < 0 ∨ ∀ j, j < x.L.length → rfNo (x.fr j) ≠ no) → x.holder no = none := by
    intro hn
    rw [holder_none_iff]
    intro i hi hf e
    rcases hn with hn | hn
    · have := (hok.within i hi hf).1
      have e2 : (x.L.getD i Frm.zero).no = no := e
      omega
    · refine hn i hi ?_
      unfold rfNo
      rw [if_pos hf]
      exact e
  obtain ⟨rr, hr⟩ : ∃ rr, rr = x.holder no := ⟨_, rfl⟩
  rw [← hr] at hit miss ⊢
  obtain ⟨n', hn⟩ : ∃ n', n' = x.L.length := ⟨_, rfl⟩
  obtain ⟨F, hF⟩ : ∃ F, F = fun k => rfNo (x.fr k) := ⟨_, rfl⟩
  have eF : ∀ k, rfNo (x.fr k) = F k := fun k => by rw [hF]
  simp only [eF] at h0 hit miss
  rw [← hn] at k1 hs h0 hit miss
  have H0 := Lib.hid h0
  have Hit := Lib.hid hit
  have Miss := Lib.hid miss
  clear h h0 hit miss hr hn hF eF hok
  go_enter Try.func38, Try.ntmps38
  go_wp2_with fail
  go_loop [5] (fun i => ∃ k : Nat, k ≤ n' ∧ i = .int .i64 (k : Int) ∧ Hid (no < 0 ∨ ∀ j, j < k → F j ≠ no)) (fun i => n' - (intOf i).toNat)
  case atStart => exact ⟨0, by omega, rfl, Lib.hid (.inr fun j h => by omega)⟩
  case round =>
    obtain ⟨k, hk, rfl, hno⟩ := hrel
    by_cases hlt : k < n'
    · have a0 := H0.out k hlt
      have t0 : decide ((k : Int) < (n' : Int)) = true := by simp [hlt]
      have b0 : (0 : Int) ≤ (k : Int) := by omega
      have b2 : ((k : Int)).toNat = k := by omega
      obtain ⟨m, hm⟩ : ∃ m, m = F k := ⟨_, rfl⟩
      rw [← hm] at a0
      by_cases e : m = no
      · by_cases e0 : 0 ≤ no
        · have hr := Hit.out k hlt (hm.symm.trans e) e0
          have t2 : decide (0 ≤ no) = true := by simp [e0]
          rw [e] at a0
          subst hr
          clear hno e hm
          go_wp2_with fail
          go_ret
          exact ⟨rfl, rfl⟩
        · have nx : Hid (no < 0 ∨ ∀ j, j < k + 1 → F j ≠ no) := Lib.hid (.inl (by omega))
          have t2 : decide (0 ≤ no) = false := by simp; omega
          rw [e] at a0
          clear hno e hm
          go_wp2_with fail
          go_round
          case rel => exact ⟨k + 1, hlt, by go_num, nx⟩
          case measure => simp [intOf]; omega
      · have nx : Hid (no < 0 ∨ ∀ j, j < k + 1 → F j ≠ no) := Lib.hid (by
          rcases hno.out with h1 | h1
          · exact .inl h1
          · refine .inr fun j hj => ?_
            by_cases e2 : j = k
            · subst e2; rw [← hm]; exact e
            · exact h1 j (by omega))
        have t1 : decide (m = no) = false := by simp [e]
        have t2 : (m == no) = false := by simp [e]
        clear hno e hm
        go_wp2_with fail
        go_round
        case rel => exact ⟨k + 1, hlt, by go_num, nx⟩
        case measure => simp [intOf]; omega
    · have e : k = n' := by omega
      subst e
      have hr := Miss.out hno.out
      subst hr
      have t0 : decide ((k : Int) < (k : Int)) = false := by simp
      go_wp2_with fail
      go_ret
      exact ⟨rfl, rfl⟩
end
def Dev.doRead (d : Dev) (i : Int) : List UInt8 × Int × Dev := if i < 0 ∨ (d.L.length : Int) ≤ i then ([], 1, d) else if d.burns 1 = true then ([], 3, d.burn 1) else (d.now i.toNat, 0, d.burn 1)
def Dev.doFlush (d : Dev) : Int × Dev := if d.burns 3 = true then (3, d.burn 3) else (0, (d.burn 3).flush)
def Dev.doFail (d : Dev) (k a : Int) : Int × Dev := if k < 1 ∨ 3 < k ∨ a < 0 then (1, d) else (0, d.told k.toNat a.toNat)
def Dev.doWrite (d : Dev) (i : Int) (l : List UInt8) : Int × Dev := if i < 0 ∨ (d.L.length : Int) ≤ i then (1, d) else if d.burns 2 = true then (3, d.burn 2) else (0, (d.burn 2).put i.toNat l)
/-- The device's own blocks, and the new ones. -/
def Hd (n q : Nat) (vL vA vB : Value) : Nat → Prop := fun k => k = q ∨ vL.ownBlock = some k ∨ vA.ownBlock = some k ∨ vB.ownBlock = some k ∨ n ≤ k
/-- In w there is the document's cache x over its device, which is like d, all in blocks of E. -/
structure CDR (w : World) (E : Nat → Prop) (q r bf cap : Nat) (rest : List Value) (x : Cch) (d : Dev) : Prop where
  cache : ∃ P, CRefIs w E q r bf cap rest P x
  dev : ∃ vL vA vB ls bs y, RefIs w E E q vL vA vB ls bs y ∧ Like d y
  own : E r ∧ E bf
section
variable {w w' : World} {E E' : Nat → Prop} {q r bf cap : Nat} {rest : List Value} {P : List (Frm × Value)} {x : Cch} {d d' : Dev} {vL vA vB vL' vA' vB' : Value} {ls bs ls' bs' : List Value} {y y' : Ref}
theorem RefIs.heads (h : RefIs w E E q vL vA vB ls bs y) : RefIs w (Hd w.heap.size q vL vA vB) E q vL vA vB ls bs y :=
  { h with inG := ⟨.inl rfl, fun _ e => .inr (.inl e), fun _ e => .inr (.inr (.inl e)), fun _ e => .inr (.inr (.inr (.inl e)))⟩ }
theorem RefIs.heads_in (h : RefIs w E E q vL vA vB ls bs y) (hE : ∀ k, w.heap.size ≤ k → E k) (k : Nat) (hk : Hd w.heap.size q vL vA vB k) : E k := by
  rcases hk with rfl | e | e | e | e
  · exact h.inG.1
  · exact h.inG.2.1 _ e
  · exact h.inG.2.2.1 _ e
  · exact h.inG.2.2.2 _ e
  · exact hE _ e
theorem Hd.new {n : Nat} (k : Nat) (hk : n ≤ k) : Hd n q vL vA vB k := .inr (.inr (.inr (.inr hk)))
/-- A block of another kind is none of the device's own. -/
theorem RefIs.notHd (h : RefIs w E E q vL vA vB ls bs y) {k : Nat} {cur : Array Value} {t : TypeId} (hk : w.heap[k]? = some (.cells cur t (0, 0))) (h1 : t ≠ 46) (h2 : t ≠ 51) (h3 : t ≠ 3) : ¬ Hd w.heap.size q vL vA vB k := by
  rintro (rfl | e | e | e | e)
  · exact ne_of_kind hk h.top h1 rfl
  · exact h.rL.notAt hk h2 e
  · exact h.rA.notAt hk h3 e
  · exact h.rB.notAt hk h2 e
  · have := (Array.getElem?_eq_some_iff.1 hk).1
    omega
theorem SecIs.dev {u : Value} {l : List UInt8} (hs : SecIs w E u l) (h : RefIs w E E q vL vA vB ls bs y) (ho : Only (Hd w.heap.size q vL vA vB) w w') : SecIs w' E u l :=
  ⟨hs.1, hs.2.1.keep fun g hg => by
    obtain ⟨cur, hc⟩ := hs.2.1.held hg
    exact ho.block g (hs.2.1.block g hg).2 (h.notHd hc (by decide) (by decide) (by decide)), hs.2.2⟩
theorem CRefIs.dev (hc : CRefIs w E q r bf cap rest P x) (h : RefIs w E E q vL vA vB ls bs y) (ho : Only (Hd w.heap.size q vL vA vB) w w') : CRefIs w' E q r bf cap rest P x :=
  { hc with
    top := (ho.block r hc.lt.1 (h.notHd hc.top (by decide) (by decide) (by decide))).trans hc.top
    frs := (ho.block bf hc.lt.2 (h.notHd hc.frs (by decide) (by decide) (by decide))).trans hc.frs
    full := fun p hp hf => (hc.full p hp hf).dev h ho }
theorem RefIs.back (h : RefIs w E E q vL vA vB ls bs y) (hE : ∀ k, w.heap.size ≤ k → E k) (h' : RefIs w' (Hd w.heap.size q vL vA vB) E q vL' vA' vB' ls' bs' y') : RefIs w' E E q vL' vA' vB' ls' bs' y' :=
  h'.mono (fun k _ hk => h.heads_in hE k hk) fun _ _ hk => hk
theorem Only.heads (h : RefIs w E E q vL vA vB ls bs y) (hE : ∀ k, w.heap.size ≤ k → E k) (ho : Only (Hd w.heap.size q vL vA vB) w w') : Only E w w' := ho.mono fun k _ hk => h.heads_in hE k hk
theorem CDR.below (h : CDR w E q r bf cap rest x d) (hb : Below w.heap.size w w') : CDR w' E q r bf cap rest x d := by
  obtain ⟨P, hc⟩ := h.cache
  obtain ⟨vL, vA, vB, ls, bs, y, hr, hl⟩ := h.dev
  exact ⟨⟨P, hc.below hb⟩, ⟨vL, vA, vB, ls, bs, y, hr.below hb, hl⟩, h.own⟩
theorem CDR.drew (h : CDR w E q r bf cap rest x d) : CDR w.drew E q r bf cap rest x d := h.below (Below.refl _ w).drew
/-- Write, of a frame's bytes. -/
theorem dwrite (hc : CRefIs w E q r bf cap rest P x) (hr : RefIs w E E q vL vA vB ls bs y) (hl : Like d y) (he : E r ∧ E bf) (hE : ∀ k, w.heap.size ≤ k → E k) (hn : d.n < 1000000) {i : Nat} (hi : i < d.L.length) {gu cu : Nat} {l : List UInt8} (hs : SecIs w E (.slice (some ⟨gu, 0, none⟩) 256 cu) l) :
    Calls Try.prog 57 #[at0 q, .int .i64 (i : Int), .slice (some ⟨gu, 0, none⟩) 256 cu] w fun e w' => e = .returned (.int .i64 (d.doWrite i l).1) ∧ CRefIs w' E q r bf cap rest P x ∧ CDR w' E q r bf cap rest x (d.doWrite i l).2 ∧ Only E w w' := by
  have hiy : i < y.L.length := by rw [← hl.L]; exact hi
  have h1 : ¬ ((i : Int) < 0 ∨ (d.L.length : Int) ≤ (i : Int)) := by omega
  unfold Dev.doWrite
  rw [if_neg h1]
  by_cases hb : d.burns 2 = true
  · rw [if_pos hb]
    refine (rwrite_io hr.heads hiy (by rw [← hl.burns (by omega) (by omega)]; exact hb)).mono ?_
    rintro e w' ⟨rfl, hd, ho⟩
    have hc' := hc.dev hr ho
    exact ⟨rfl, hc', ⟨⟨P, hc'⟩, ⟨_, _, _, _, _, _, hr.back hE hd, hl.burn 2 (by omega) (by omega)⟩, he⟩, Only.heads hr hE ho⟩
  · rw [if_neg hb]
    have hg : ¬ Hd w.heap.size q vL vA vB gu := by
      obtain ⟨cur, hcur⟩ := hs.2.1.held rfl
      exact hr.notHd hcur (by decide) (by decide) (by decide)
    refine (rwrite_ok hr.heads hiy (by rw [← hl.burns (by omega) (by omega)]; simpa using hb) (by rw [← hl.n]; exact hn) hs hg (fun k hk => Hd.new k hk) hE).mono ?_
    rintro e w' ⟨vA', vB', bs', rfl, hd, ho⟩
    have hc' := hc.dev hr ho
    exact ⟨rfl, hc', ⟨⟨P, hc'⟩, ⟨_, _, _, _, _, _, hr.back hE hd, by rw [Int.toNat_natCast]; exact (hl.burn 2 (by omega) (by omega)).put i l⟩, he⟩, Only.heads hr hE ho⟩
/-- A block that is none of the device's is written. -/
theorem RefIs.other (h : RefIs w E E q vL vA vB ls bs y) {b : Nat} {cur : Array Value} {t : TypeId} (hb : w.heap[b]? = some (.cells cur t (0, 0))) (h1 : t ≠ 46) (h2 : t ≠ 51) (h3 : t ≠ 3) (h4 : t ≠ 5) (hg : w.grownBy w' (some b)) : RefIs w' E E q vL vA vB ls bs y := by
  have h5 : ∀ g cur, some b = some g → w.heap[g]? ≠ some (.cells cur 5 (0, 0)) := fun g cur e hc => by
    injection e with e
    subst e
    rw [hb] at hc
    injection hc with hc
    injection hc with _ ht
    exact h4 ht
  exact { h with
    top := (hg.block q h.lt fun e => by injection e with e; exact ne_of_kind hb h.top h1 e.symm).trans h.top
    rL := h.rL.grown hg (.inr (h.rL.notAt hb h2))
    rA := h.rA.grown hg (.inr (h.rA.notAt hb h3))
    rB := h.rB.grown hg (.inr (h.rB.notAt hb h2))
    eL := h.eL.other hg h5
    eB := h.eB.other hg h5 }
theorem CDR.frames (h : CDR w E q r bf cap rest x d) {x' : Cch} {P' : List (Frm × Value)} (hc : CRefIs w' E q r bf cap rest P' x') (hg : w.grownBy w' (some bf)) : CDR w' E q r bf cap rest x' d ∧ Only E w w' := by
  obtain ⟨P, hc0⟩ := h.cache
  obtain ⟨vL, vA, vB, ls, bs, y, hr, hl⟩ := h.dev
  exact ⟨⟨⟨P', hc⟩, ⟨vL, vA, vB, ls, bs, y, hr.other hc0.frs (by decide) (by decide) (by decide) (by decide) hg, hl⟩, h.own⟩, Only.grown hg fun g e => by injection e with e; subst e; exact h.own.2⟩
theorem CDR.pins (h : CDR w E q r bf cap rest x d) {i : Nat} (hi : i < x.L.length) (n : Nat) :
    CDR (w.setCell ⟨bf, i * 5 + 1, none⟩ (.int .i64 (n : Int))) E q r bf cap rest (x.pinned i n) d ∧ Only E w (w.setCell ⟨bf, i * 5 + 1, none⟩ (.int .i64 (n : Int))) := by
  obtain ⟨P, hc⟩ := h.cache
  have hp : i < P.length := by rw [hc.len]; exact hi
  have e := hc.fst_at hp
  refine h.frames (hc.set (i := i) (j := 1) (f := { x.L.getD i Frm.zero with pins := n }) (u := P[i].2) hi (by omega) (fun _ => ?_) (fun hf => ?_)) (grown_cell _ _ _ _)
  · have e2 : P[i].1 = x.L.getD i Frm.zero := e
    rw [← e2]
    rfl
  · have hs := hc.full P[i] (List.getElem_mem hp) (by rw [e]; exact hf)
    rw [e] at hs
    exact hs.other (grown_cell _ _ _ _) fun g cur e hcc => by
      injection e with e
      subst e
      exact ne_of_kind hcc hc.frs (by decide) rfl
theorem CDR.dirt (h : CDR w E q r bf cap rest x d) {i : Nat} (hi : i < x.L.length) (b : Bool) :
    CDR (w.setCell ⟨bf, i * 5 + 2, none⟩ (.bool b)) E q r bf cap rest { x with L := x.L.set i { x.L.getD i Frm.zero with dirty := b } } d ∧ Only E w (w.setCell ⟨bf, i * 5 + 2, none⟩ (.bool b)) := by
  obtain ⟨P, hc⟩ := h.cache
  have hp : i < P.length := by rw [hc.len]; exact hi
  have e := hc.fst_at hp
  refine h.frames (hc.set (i := i) (j := 2) (f := { x.L.getD i Frm.zero with dirty := b }) (u := P[i].2) hi (by omega) (fun _ => ?_) (fun hf => ?_)) (grown_cell _ _ _ _)
  · have e2 : P[i].1 = x.L.getD i Frm.zero := e
    rw [← e2]
    rfl
  · have hs := hc.full P[i] (List.getElem_mem hp) (by rw [e]; exact hf)
    rw [e] at hs
    exact hs.other (grown_cell _ _ _ _) fun g cur e hcc => by
      injection e with e
      subst e
      exact ne_of_kind hcc hc.frs (by decide) rfl
theorem CDR.uses (h : CDR w E q r bf cap rest x d) {i : Nat} (hi : i < x.L.length) (b : Bool) :
    CDR (w.setCell ⟨bf, i * 5 + 3, none⟩ (.bool b)) E q r bf cap rest { x with L := x.L.set i { x.L.getD i Frm.zero with used := b } } d ∧ Only E w (w.setCell ⟨bf, i * 5 + 3, none⟩ (.bool b)) := by
  obtain ⟨P, hc⟩ := h.cache
  have hp : i < P.length := by rw [hc.len]; exact hi
  have e := hc.fst_at hp
  refine h.frames (hc.set (i := i) (j := 3) (f := { x.L.getD i Frm.zero with used := b }) (u := P[i].2) hi (by omega) (fun _ => ?_) (fun hf => ?_)) (grown_cell _ _ _ _)
  · have e2 : P[i].1 = x.L.getD i Frm.zero := e
    rw [← e2]
    rfl
  · have hs := hc.full P[i] (List.getElem_mem hp) (by rw [e]; exact hf)
    rw [e] at hs
    exact hs.other (grown_cell _ _ _ _) fun g cur e hcc => by
      injection e with e
      subst e
      exact ne_of_kind hcc hc.frs (by decide) rfl
/-- Frame i is another one, in all of its cells. -/
theorem CDR.place (h : CDR w E q r bf cap rest x d) {i : Nat} (hi : i < x.L.length) (f : Frm) (u : Value) (hu : u.oneCell' = true) (hs : f.full = true → SecIs w E u f.b) :
    ∃ w', (Instr.storeAt 78 (.pointer (some ⟨bf, i * 5, none⟩)) (.agg (rfCells (f, u)).toArray)).run Try.prog w = .ok () w' ∧ CDR w' E q r bf cap rest { x with L := x.L.set i f } d ∧ Only E w w' := by
  obtain ⟨P, hc⟩ := h.cache
  have hp : i < P.length := by rw [hc.len]; exact hi
  have hl := crows_length P
  have h1 : ∀ v ∈ rfCells (f, u), v.oneCell' = true := by
    intro v hv
    simp only [rfCells, List.mem_cons, List.not_mem_nil, or_false] at hv
    rcases hv with rfl | rfl | rfl | rfl | rfl
    · rfl
    · rfl
    · rfl
    · rfl
    · exact hu
  have hz : (Try.prog.info? 78).map (·.size) = some (rfCells (f, u)).length := by
    rw [rfCells_length]
    kernel_rfl
  obtain ⟨w', hrun, e1, e2, _⟩ := store_agg (P := Try.prog) hc.frs h1 (o := i * 5) (by rw [List.length_append, rfCells_length, hl]; omega) hz
  have e3 : (crows P ++ rest).take (i * 5) ++ rfCells (f, u) ++ (crows P ++ rest).drop (i * 5 + (rfCells (f, u)).length) = crows (P.set i (f, u)) ++ rest := by
    have hput := chunks_put (g := rfCells) (m := 5) (L := P) (fun _ _ => rfl) hp (j := 0) (ys := rfCells (f, u)) (y := (f, u)) (by rw [rfCells_length]; omega) (by rw [rfCells_length, List.drop_of_length_le (by rw [rfCells_length]; omega)]; simp)
    rw [Nat.add_zero] at hput
    have hput2 : (crows P).take (i * 5) ++ rfCells (f, u) ++ (crows P).drop (i * 5 + (rfCells (f, u)).length) = crows (P.set i (f, u)) := hput
    rw [← hput2, rfCells_length, List.take_append_of_le_length (by rw [hl]; omega), List.drop_append_of_le_length (by rw [hl]; omega)]
    simp only [List.append_assoc]
  rw [e3] at e1
  obtain ⟨h3, h4⟩ := h.frames (hc.put e1 rfl e2 fun hf => (hs hf).other e2 fun g cur e hcc => by
    injection e with e
    subst e
    exact ne_of_kind hcc hc.frs (by decide) rfl) e2
  exact ⟨w', hrun, h3, h4⟩
theorem set5 {L : List Value} {k : Nat} (h : k + 5 ≤ L.length) (a b c d e : Value) : ((((L.set k a).set (k + 1) b).set (k + 2) c).set (k + 3) d).set (k + 4) e = L.take k ++ [a, b, c, d, e] ++ L.drop (k + 5) := by
  obtain ⟨A, hA⟩ : ∃ A, A = L.take k := ⟨_, rfl⟩
  obtain ⟨B, hB⟩ : ∃ B, B = L.drop k := ⟨_, rfl⟩
  have e1 : L = A ++ B := by rw [hA, hB, List.take_append_drop]
  have e2 : A.length = k := by rw [hA, List.length_take]; omega
  have e3 : L.drop (k + 5) = B.drop 5 := by rw [hB, List.drop_drop]
  have e4 : 5 ≤ B.length := by rw [hB, List.length_drop]; omega
  rw [e3, ← hA, e1]
  subst e2
  match B, e4 with
  | x0 :: x1 :: x2 :: x3 :: x4 :: B, _ => simp [List.set_append_right]
/-- Frame i is another one: each of its cells, stored. -/
theorem CDR.place5 (h : CDR w E q r bf cap rest x d) {i : Nat} (hi : i < x.L.length) (f : Frm) (u : Value) (hs : f.full = true → SecIs w E u f.b) :
    CDR (((((w.setCell ⟨bf, i * 5, none⟩ (.int .i64 (rfNo f))).setCell ⟨bf, i * 5 + 1, none⟩ (.int .i64 (f.pins : Int))).setCell ⟨bf, i * 5 + 2, none⟩ (.bool f.dirty)).setCell ⟨bf, i * 5 + 3, none⟩ (.bool f.used)).setCell ⟨bf, i * 5 + 4, none⟩ u) E q r bf cap rest { x with L := x.L.set i f } d ∧
    Only E w (((((w.setCell ⟨bf, i * 5, none⟩ (.int .i64 (rfNo f))).setCell ⟨bf, i * 5 + 1, none⟩ (.int .i64 (f.pins : Int))).setCell ⟨bf, i * 5 + 2, none⟩ (.bool f.dirty)).setCell ⟨bf, i * 5 + 3, none⟩ (.bool f.used)).setCell ⟨bf, i * 5 + 4, none⟩ u) := by
  obtain ⟨P, hc⟩ := h.cache
  have hp : i < P.length := by rw [hc.len]; exact hi
  have hl := crows_length P
  have g1 := heap_setCell_same w bf (i * 5) _ _ (.int .i64 (rfNo f)) hc.frs
  have g2 := heap_setCell_same _ bf (i * 5 + 1) _ _ (.int .i64 (f.pins : Int)) g1
  have g3 := heap_setCell_same _ bf (i * 5 + 2) _ _ (.bool f.dirty) g2
  have g4 := heap_setCell_same _ bf (i * 5 + 3) _ _ (.bool f.used) g3
  have g5 := heap_setCell_same _ bf (i * 5 + 4) _ _ u g4
  have e2 : w.grownBy (((((w.setCell ⟨bf, i * 5, none⟩ (.int .i64 (rfNo f))).setCell ⟨bf, i * 5 + 1, none⟩ (.int .i64 (f.pins : Int))).setCell ⟨bf, i * 5 + 2, none⟩ (.bool f.dirty)).setCell ⟨bf, i * 5 + 3, none⟩ (.bool f.used)).setCell ⟨bf, i * 5 + 4, none⟩ u) (some bf) :=
    ((((grown_cell _ _ _ _).trans (grown_cell _ _ _ _)).trans (grown_cell _ _ _ _)).trans (grown_cell _ _ _ _)).trans (grown_cell _ _ _ _)
  simp only [List.setIfInBounds_toArray] at g5
  rw [set5 (by rw [List.length_append, hl]; omega)] at g5
  have e3 : (crows P ++ rest).take (i * 5) ++ rfCells (f, u) ++ (crows P ++ rest).drop (i * 5 + 5) = crows (P.set i (f, u)) ++ rest := by
    have hput := chunks_put (g := rfCells) (m := 5) (L := P) (fun _ _ => rfl) hp (j := 0) (ys := rfCells (f, u)) (y := (f, u)) (by rw [rfCells_length]; omega) (by rw [rfCells_length, List.drop_of_length_le (by rw [rfCells_length]; omega)]; simp)
    rw [Nat.add_zero] at hput
    have hput2 : (crows P).take (i * 5) ++ rfCells (f, u) ++ (crows P).drop (i * 5 + 5) = crows (P.set i (f, u)) := hput
    rw [← hput2, List.take_append_of_le_length (by rw [hl]; omega), List.drop_append_of_le_length (by rw [hl]; omega)]
    simp only [List.append_assoc]
  have e4 : (crows P ++ rest).take (i * 5) ++ [.int .i64 (rfNo f), .int .i64 (f.pins : Int), .bool f.dirty, .bool f.used, u] ++ (crows P ++ rest).drop (i * 5 + 5) = crows (P.set i (f, u)) ++ rest := e3
  rw [e4] at g5
  exact h.frames (hc.put g5 rfl e2 fun hf => (hs hf).other e2 fun g cur e hcc => by
    injection e with e
    subst e
    exact ne_of_kind hcc hc.frs (by decide) rfl) e2
theorem CDR.turned (h : CDR w E q r bf cap rest x d) {k : Nat} (hk : k < x.L.length) : CDR (w.setCell ⟨r, 2, none⟩ (.int .i64 (k : Int))) E q r bf cap rest { x with hand := k } d ∧ Only E w (w.setCell ⟨r, 2, none⟩ (.int .i64 (k : Int))) := by
  obtain ⟨P, hc⟩ := h.cache
  obtain ⟨vL, vA, vB, ls, bs, y, hr, hl⟩ := h.dev
  exact ⟨⟨⟨P, hc.turned hk⟩, ⟨vL, vA, vB, ls, bs, y, hr.other hc.top (by decide) (by decide) (by decide) (by decide) (grown_cell _ _ _ _), hl⟩, h.own⟩, Only.setCell (p := ⟨r, 2, none⟩) h.own.1 _⟩
end
end Go.Proofs.Ytfjcblppmoomdaa
