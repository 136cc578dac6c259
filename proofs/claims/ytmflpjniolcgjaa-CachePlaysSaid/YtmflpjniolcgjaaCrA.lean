/-
  The document's own cache over its own device: what its blocks hold; At: contract.
-/
import Derived.Test.YtmflpjniolcgjaaRkH
import Derived.Test.YtmflpjniolcgjaaCacheM
namespace Go.Proofs.Ytmflpjniolcgjaa
open Go.RowKit
/-- What stands as a frame's number. -/
def rfNo (f : Frm) : Int := if f.full = true then f.no else -1
/-- The five cells of the document's frame; its bytes are the slice. -/
def rfCells (p : Frm × Value) : List Value := [.int .i64 (rfNo p.1), .int .i64 (p.1.pins : Int), .bool p.1.dirty, .bool p.1.used, p.2]
theorem rfCells_length (p : Frm × Value) : (rfCells p).length = 5 := rfl
/-- The cells of frames, one behind the other. -/
def crows (P : List (Frm × Value)) : List Value := P.flatMap rfCells
theorem crows_length (P : List (Frm × Value)) : (crows P).length = P.length * 5 := chunks_length fun _ _ => rfl
/-- The cells of the cache's own block. -/
def crCells (q bf n cap hand : Nat) : List Value := [at0 q, .slice (some ⟨bf, 0, none⟩) n cap, .int .i64 (hand : Int)]
/-- In w there is the document's cache x at block r, its frames in block bf, their sectors in Z; its device is at q. -/
structure CRefIs (w : World) (Z : Nat → Prop) (q r bf cap : Nat) (rest : List Value) (P : List (Frm × Value)) (x : Cch) : Prop where
  top : w.heap[r]? = some (.cells (crCells q bf x.L.length cap x.hand).toArray 49 (0, 0))
  frs : w.heap[bf]? = some (.cells (crows P ++ rest).toArray 78 (0, 0))
  same : P.map (·.1) = x.L
  full : ∀ p ∈ P, p.1.full = true → SecIs w Z p.2 p.1.b
  ne : r ≠ bf
  size : 8 ≤ x.L.length ∧ x.L.length ≤ 64
  hand : x.hand < x.L.length
section
variable {w w' : World} {Z Z' : Nat → Prop} {q r bf cap : Nat} {rest : List Value} {P : List (Frm × Value)} {x : Cch}
theorem CRefIs.len (h : CRefIs w Z q r bf cap rest P x) : P.length = x.L.length := by rw [← h.same, List.length_map]
theorem CRefIs.lt (h : CRefIs w Z q r bf cap rest P x) : r < w.heap.size ∧ bf < w.heap.size := ⟨(Array.getElem?_eq_some_iff.1 h.top).1, (Array.getElem?_eq_some_iff.1 h.frs).1⟩
theorem CRefIs.keep (h : CRefIs w Z q r bf cap rest P x) (h1 : w'.heap[r]? = w.heap[r]?) (h2 : w'.heap[bf]? = w.heap[bf]?) (hz : ∀ k, k < w.heap.size → Z k → w'.heap[k]? = w.heap[k]?) : CRefIs w' Z q r bf cap rest P x :=
  { h with top := h1.trans h.top, frs := h2.trans h.frs, full := fun p hp hf => (h.full p hp hf).keep hz }
theorem CRefIs.mono (h : CRefIs w Z q r bf cap rest P x) (hZ : ∀ k, k < w.heap.size → Z k → Z' k) : CRefIs w Z' q r bf cap rest P x := { h with full := fun p hp hf => (h.full p hp hf).mono hZ }
theorem CRefIs.below (h : CRefIs w Z q r bf cap rest P x) (hb : Below w.heap.size w w') : CRefIs w' Z q r bf cap rest P x := h.keep (hb.block r h.lt.1) (hb.block bf h.lt.2) fun k hk _ => hb.block k hk
theorem CRefIs.drew (h : CRefIs w Z q r bf cap rest P x) : CRefIs w.drew Z q r bf cap rest P x := h.keep rfl rfl fun _ _ _ => rfl
theorem CRefIs.k0 (h : CRefIs w Z q r bf cap rest P x) : w.cell? ⟨r, 0, none⟩ = some (at0 q) := by rw [cell_of_row w r 0 _ _ (0, 0) h.top]; rfl
theorem CRefIs.k1 (h : CRefIs w Z q r bf cap rest P x) : w.cell? ⟨r, 1, none⟩ = some (.slice (some ⟨bf, 0, none⟩) x.L.length cap) := by rw [cell_of_row w r 1 _ _ (0, 0) h.top]; rfl
theorem CRefIs.k2 (h : CRefIs w Z q r bf cap rest P x) : w.cell? ⟨r, 2, none⟩ = some (.int .i64 (x.hand : Int)) := by rw [cell_of_row w r 2 _ _ (0, 0) h.top]; rfl
theorem CRefIs.freeR (h : CRefIs w Z q r bf cap rest P x) (j : Nat) : w.frozen? ⟨r, j, none⟩ = false := frozen_of_row w r j _ _ h.top
theorem CRefIs.freeF (h : CRefIs w Z q r bf cap rest P x) (j : Nat) : w.frozen? ⟨bf, j, none⟩ = false := frozen_of_row w bf j _ _ h.frs
theorem CRefIs.fst_at (h : CRefIs w Z q r bf cap rest P x) {i : Nat} (hi : i < P.length) : P[i].1 = x.fr i := by
  have h1 : i < x.L.length := by rw [← h.len]; exact hi
  unfold Cch.fr
  rw [getD_at h1]
  have e : x.L[i]? = some P[i].1 := by rw [← h.same, List.getElem?_map, List.getElem?_eq_getElem hi]; rfl
  rw [List.getElem?_eq_getElem h1] at e
  exact (Option.some.inj e).symm
theorem CRefIs.cellF (h : CRefIs w Z q r bf cap rest P x) {i j : Nat} {v : Value} (hi : i < P.length) (hv : (rfCells P[i])[j]? = some v) : w.cell? ⟨bf, i * 5 + j, none⟩ = some v := by
  rw [cell_of_row w bf (i * 5 + j) _ _ (0, 0) h.frs, List.getElem?_toArray]
  have hc : (crows P)[i * 5 + j]? = some v := chunks_get (m := 5) (fun _ _ => rfl) hi hv
  rw [List.getElem?_append_left (List.getElem?_eq_some_iff.1 hc).1]
  exact hc
theorem CRefIs.f0 (h : CRefIs w Z q r bf cap rest P x) {i : Nat} (hi : i < x.L.length) : w.cell? ⟨bf, i * 5, none⟩ = some (.int .i64 (rfNo (x.fr i))) := by
  have hp : i < P.length := by rw [h.len]; exact hi
  have := h.cellF (j := 0) (v := .int .i64 (rfNo P[i].1)) hp rfl
  rwa [Nat.add_zero, h.fst_at hp] at this
theorem CRefIs.f1 (h : CRefIs w Z q r bf cap rest P x) {i : Nat} (hi : i < x.L.length) : w.cell? ⟨bf, i * 5 + 1, none⟩ = some (.int .i64 ((x.fr i).pins : Int)) := by
  have hp : i < P.length := by rw [h.len]; exact hi
  have := h.cellF (j := 1) (v := .int .i64 (P[i].1.pins : Int)) hp rfl
  rwa [h.fst_at hp] at this
theorem CRefIs.f2 (h : CRefIs w Z q r bf cap rest P x) {i : Nat} (hi : i < x.L.length) : w.cell? ⟨bf, i * 5 + 2, none⟩ = some (.bool (x.fr i).dirty) := by
  have hp : i < P.length := by rw [h.len]; exact hi
  have := h.cellF (j := 2) (v := .bool P[i].1.dirty) hp rfl
  rwa [h.fst_at hp] at this
theorem CRefIs.f3 (h : CRefIs w Z q r bf cap rest P x) {i : Nat} (hi : i < x.L.length) : w.cell? ⟨bf, i * 5 + 3, none⟩ = some (.bool (x.fr i).used) := by
  have hp : i < P.length := by rw [h.len]; exact hi
  have := h.cellF (j := 3) (v := .bool P[i].1.used) hp rfl
  rwa [h.fst_at hp] at this
/-- The bytes of a frame that holds a sector. -/
theorem CRefIs.f4 (h : CRefIs w Z q r bf cap rest P x) {i : Nat} (hi : i < x.L.length) (hf : (x.fr i).full = true) : ∃ gu cu, w.cell? ⟨bf, i * 5 + 4, none⟩ = some (.slice (some ⟨gu, 0, none⟩) 256 cu) ∧ SecIs w Z (.slice (some ⟨gu, 0, none⟩) 256 cu) (x.fr i).b := by
  have hp : i < P.length := by rw [h.len]; exact hi
  have hc := h.cellF (j := 4) (v := P[i].2) hp rfl
  have e := h.fst_at hp
  have hs := h.full P[i] (List.getElem_mem hp) (by rw [e]; exact hf)
  rw [e] at hs
  obtain ⟨gu, cu, eu, _⟩ := hs.at_
  rw [eu] at hs hc
  exact ⟨gu, cu, hc, hs⟩
/-- Some cells of frame i, stored in a row. -/
theorem CRefIs.put (h : CRefIs w Z q r bf cap rest P x) {i : Nat} {f : Frm} {u : Value} {cs : List Value} (hw : w'.heap[bf]? = some (.cells (cs ++ rest).toArray 78 (0, 0))) (hcs : cs = crows (P.set i (f, u)))
    (hg : w.grownBy w' (some bf)) (hs : f.full = true → SecIs w' Z u f.b) : CRefIs w' Z q r bf cap rest (P.set i (f, u)) { x with L := x.L.set i f } := by
  have h5 : ∀ g cur, some bf = some g → w.heap[g]? ≠ some (.cells cur 5 (0, 0)) := fun g cur e hc => by
    injection e with e
    subst e
    rw [h.frs] at hc
    injection hc with hc
    injection hc with _ ht
    cases ht
  refine ⟨?_, ?_, ?_, fun p hp hf => ?_, h.ne, by simpa using h.size, by simpa using h.hand⟩
  · rw [hg.block r h.lt.1 (fun e => h.ne (by injection e))]
    simpa using h.top
  · rw [hw, hcs]
  · rw [List.map_set, h.same]
  · rcases List.mem_or_eq_of_mem_set hp with h1 | h1
    · exact (h.full p h1 hf).other hg h5
    · subst h1; exact hs hf
theorem CRefIs.set (h : CRefIs w Z q r bf cap rest P x) {i j : Nat} {v : Value} {f : Frm} {u : Value} (hi : i < x.L.length) (hj : j < 5) (hf : ∀ hp : i < P.length, (rfCells P[i]).set j v = rfCells (f, u)) (hs : f.full = true → SecIs (w.setCell ⟨bf, i * 5 + j, none⟩ v) Z u f.b) :
    CRefIs (w.setCell ⟨bf, i * 5 + j, none⟩ v) Z q r bf cap rest (P.set i (f, u)) { x with L := x.L.set i f } := by
  have hp : i < P.length := by rw [h.len]; exact hi
  have e := chunks_set (g := rfCells) (m := 5) (fun _ _ => rfl) hp hj (hf hp)
  refine h.put (cs := (crows P).set (i * 5 + j) v) ?_ e (grown_cell _ _ _ _) hs
  have hl : i * 5 + j < (crows P).length := by rw [crows_length]; omega
  rw [heap_setCell_same w bf (i * 5 + j) _ _ v h.frs, List.setIfInBounds_toArray, List.set_append_left _ _ hl]
/-- The hand, set. -/
theorem CRefIs.turned (h : CRefIs w Z q r bf cap rest P x) {k : Nat} (hk : k < x.L.length) : CRefIs (w.setCell ⟨r, 2, none⟩ (.int .i64 (k : Int))) Z q r bf cap rest P { x with hand := k } := by
  have h5 : ∀ g cur, some r = some g → w.heap[g]? ≠ some (.cells cur 5 (0, 0)) := fun g cur e hc => by
    injection e with e
    subst e
    rw [h.top] at hc
    injection hc with hc
    injection hc with _ ht
    cases ht
  refine ⟨?_, ?_, h.same, fun p hp hf => (h.full p hp hf).other (grown_cell _ _ _ _) h5, h.ne, h.size, hk⟩
  · rw [heap_setCell_same w r 2 _ _ (.int .i64 (k : Int)) h.top]
    rfl
  · rw [heap_setCell_other w _ bf _ h.ne.symm]
    exact h.frs
/-- Which frame, as a number. -/
def atOf : Option Nat → Int
  | none => -1
  | some i => (i : Int)
set_option maxRecDepth 100000 in
set_option maxHeartbeats 400000 in
theorem rat_any (h : CRefIs w Z q r bf cap rest P x) {n : Nat} (hok : x.Ok n) (no : Int) : Calls Try.prog 38 #[at0 r, .int .i64 no] w fun e w' => e = .returned (.int .i64 (atOf (x.holder no))) ∧ w = w' := by
  have k1 := h.k1
  have hs := h.size
  have h0 : ∀ k, k < x.L.length → w.cell? ⟨bf, k * 5, none⟩ = some (.int .i64 (rfNo (x.fr k))) := fun k hk => h.f0 hk
  have hit : ∀ k, k < x.L.length → rfNo (x.fr k) = no → 0 ≤ no → x.holder no = some k := by
    intro k hk a b
    unfold rfNo at a
    split at a
    · rename_i hf
      exact hok.holder_iff.2 ⟨hk, hf, a⟩
    · omega
  have miss : (no < 0 ∨ ∀ j, j < x.L.length → rfNo (x.fr j) ≠ no) → x.holder no = none := by
    intro hn
    rw [holder_none_iff]
    intro i hi hf e
    rcases hn with hn | hn
    · have := (hok.within i hi hf).1
      have e2 : (x.L.getD i Frm.zero).no = no := e
      omega
    · refine hn i hi ?_
      unfold rfNo
      rw [if_pos hf]
      exact e
  obtain ⟨rr, hr⟩ : ∃ rr, rr = x.holder no := ⟨_, rfl⟩
  rw [← hr] at hit miss ⊢
  obtain ⟨n', hn⟩ : ∃ n', n' = x.L.length := ⟨_, rfl⟩
  obtain ⟨F, hF⟩ : ∃ F, F = fun k => rfNo (x.fr k) := ⟨_, rfl⟩
  have eF : ∀ k, rfNo (x.fr k) = F k := fun k => by rw [hF]
  simp only [eF] at h0 hit miss
  rw [← hn] at k1 hs h0 hit miss
  have H0 := Lib.hid h0
  have Hit := Lib.hid hit
  have Miss := Lib.hid miss
  clear h h0 hit miss hr hn hF eF hok
  go_enter Try.func38, Try.ntmps38
  go_wp2_with fail
  go_loop [5] (fun i => ∃ k : Nat, k ≤ n' ∧ i = .int .i64 (k : Int) ∧ Hid (no < 0 ∨ ∀ j, j < k → F j ≠ no)) (fun i => n' - (intOf i).toNat)
  case atStart => exact ⟨0, by omega, rfl, Lib.hid (.inr fun j h => by omega)⟩
  case round =>
    obtain ⟨k, hk, rfl, hno⟩ := hrel
    by_cases hlt : k < n'
    · have a0 := H0.out k hlt
      have t0 : decide ((k : Int) < (n' : Int)) = true := by simp [hlt]
      have b0 : (0 : Int) ≤ (k : Int) := by omega
      have b2 : ((k : Int)).toNat = k := by omega
      obtain ⟨m, hm⟩ : ∃ m, m = F k := ⟨_, rfl⟩
      rw [← hm] at a0
      by_cases e : m = no
      · by_cases e0 : 0 ≤ no
        · have hr := Hit.out k hlt (hm.symm.trans e) e0
          have t2 : decide (0 ≤ no) = true := by simp [e0]
          rw [e] at a0
          subst hr
          clear hno e hm
          go_wp2_with fail
          go_ret
          exact ⟨rfl, rfl⟩
        · have nx : Hid (no < 0 ∨ ∀ j, j < k + 1 → F j ≠ no) := Lib.hid (.inl (by omega))
          have t2 : decide (0 ≤ no) = false := by simp; omega
          rw [e] at a0
          clear hno e hm
          go_wp2_with fail
          go_round
          case rel => exact ⟨k + 1, hlt, by go_num, nx⟩
          case measure => simp [intOf]; omega
      · have nx : Hid (no < 0 ∨ ∀ j, j < k + 1 → F j ≠ no) := Lib.hid (by
          rcases hno.out with h1 | h1
          · exact .inl h1
          · refine .inr fun j hj => ?_
            by_cases e2 : j = k
            · subst e2; rw [← hm]; exact e
            · exact h1 j (by omega))
        have t1 : decide (m = no) = false := by simp [e]
        have t2 : (m == no) = false := by simp [e]
        clear hno e hm
        go_wp2_with fail
        go_round
        case rel => exact ⟨k + 1, hlt, by go_num, nx⟩
        case measure => simp [intOf]; omega
    · have e : k = n' := by omega
      subst e
      have hr := Miss.out hno.out
      subst hr
      have t0 : decide ((k : Int) < (k : Int)) = false := by simp
      go_wp2_with fail
      go_ret
      exact ⟨rfl, rfl⟩
end
end Go.Proofs.Ytmflpjniolcgjaa
