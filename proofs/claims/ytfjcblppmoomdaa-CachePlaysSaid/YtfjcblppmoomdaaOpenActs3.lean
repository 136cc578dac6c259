/-
  A slice of acts of three parts (two ints, a byte), as an argument, opened.
-/
import Derived.Test.YtfjcblppmoomdaaOpenAct
namespace Go.Proofs.Ytfjcblppmoomdaa
open Go.Joins Go.ChangeShapes Go.WideShapes Go.ChangeAt Go.RowKit Go.Deep
/-- An act, as it came in. -/
structure Act3 where
  kind : Int
  no : Int
  by_ : UInt8
/-- The three cells of an act. -/
def Act3.cells (a : Act3) : List Value := [.int .i64 a.kind, .int .i64 a.no, .int .u8 (a.by_.toNat : Int)]
/-- Its numbers are ints. -/
def Act3.Fits (a : Act3) : Prop := (Lit.int .i64 a.kind).wf = true ∧ (Lit.int .i64 a.no).wf = true
/-- In w the slice v has these acts. -/
def Acts3 (w : World) (v : Value) (l : List Act3) : Prop :=
  ∃ A c, v = .slice A l.length c ∧ l.length ≤ c ∧ c ≤ maxLen ∧ (0 < l.length → ∃ b o, A = some ⟨b, o, none⟩ ∧ b < w.heap.size ∧ ∀ (i : Nat) (h : i < l.length) (j : Nat) (u : Value), l[i].cells[j]? = some u → w.cell? ⟨b, o + (i * 3 + j), none⟩ = some u) ∧
    ∀ a ∈ l, a.Fits
section
variable {H : Type} {enc : TypeId × Value → H} {P : Program} {w : World} {base : Nat} {spare : Nat → Bool} {held : Bool}
theorem act3_of {ti tb : TypeId} (hi : P.underlying ti = some (.int .i64)) (hb : P.underlying tb = some (.int .u8)) {v0 v1 v2 : Value} {y0 y1 y2 : DataW H × List MemPlace} {n : Nat}
    (h0 : DataW.trod enc P w base (fun _ => true) held n ti [v0] = some y0) (h1 : DataW.trod enc P w base (fun _ => true) held n ti [v1] = some y1) (h2 : DataW.trod enc P w base (fun _ => true) held n tb [v2] = some y2) :
    ∃ a : Act3, [v0, v1, v2] = a.cells ∧ a.Fits := by
  obtain ⟨k0, e0, _, w0⟩ := DataW.trod_int hi h0
  obtain ⟨k1, e1, _, w1⟩ := DataW.trod_int hi h1
  obtain ⟨k2, e2, _, w2⟩ := DataW.trod_int hb h2
  injection e0 with e0
  injection e1 with e1
  injection e2 with e2
  refine ⟨⟨k0, k1, UInt8.ofNat k2.toNat⟩, ?_, w0, w1⟩
  rw [e0, e1, e2]
  simp only [Act3.cells]
  rw [u8_of_wf w2]
theorem open_acts3 {t e ti tb : TypeId} {f0 f1 f2 : Field} {fuel : Nat} {u : Value} {x : DataW H × List MemPlace} (ht : P.underlying t = some (.slice e)) (hs : P.underlying e = some (.struct #[f0, f1, f2])) (hone : oneCellFields P #[f0, f1, f2] = true) (hC : P.cellsOf e = 3)
    (t0 : f0.type = ti) (t1 : f1.type = ti) (t2 : f2.type = tb) (hi : P.underlying ti = some (.int .i64)) (hb : P.underlying tb = some (.int .u8))
    (h : DataW.trod enc P w base (fun _ => true) held fuel t [u] = some x) : ∃ l, Acts3 w u l := by
  rcases open_slice_fields ht hs hone hC h with ⟨e1, _⟩ | ⟨a, len, cap, m, e1, _, hlc, hcm, hmm, hx⟩
  · injection e1 with e1
    subst e1
    exact ⟨[], none, 0, rfl, Nat.le_refl _, Nat.zero_le _, fun h => absurd h (by simp), fun a ha => by cases ha⟩
  · injection e1 with e1
    subst e1
    simp only [if_true] at hmm
    subst hmm
    have hex : ∀ i, i < m → ∃ b : Act3, b.Fits ∧ ∀ (j : Nat) (u : Value), b.cells[j]? = some u → w.cell? (a.add (i * 3 + j)) = some u := fun i hi' => by
      obtain ⟨ys, n, _, hj⟩ := hx i hi'
      obtain ⟨v0, y0, c0, _, h0⟩ := hj 0 f0 rfl
      obtain ⟨v1, y1, c1, _, h1⟩ := hj 1 f1 rfl
      obtain ⟨v2, y2, c2, _, h2⟩ := hj 2 f2 rfl
      rw [t0] at h0
      rw [t1] at h1
      rw [t2] at h2
      obtain ⟨b, hb', his⟩ := act3_of hi hb h0 h1 h2
      refine ⟨b, his, fun j u hu => ?_⟩
      rw [← hb'] at hu
      match j, hu with
      | 0, hu => simp at hu; subst hu; exact c0
      | 1, hu => simp at hu; subst hu; exact c1
      | 2, hu => simp at hu; subst hu; exact c2
      | _ + 3, hu => simp at hu
    have hlist : ∀ k, k ≤ len → ∃ l : List Act3, l.length = k ∧ (∀ b ∈ l, b.Fits) ∧ ∀ (i : Nat) (h : i < l.length) (j : Nat) (u : Value), l[i].cells[j]? = some u → w.cell? (a.add (i * 3 + j)) = some u := fun k => by
      induction k with
      | zero => exact fun _ => ⟨[], rfl, (fun b hb => by cases hb), (fun i h => by simp at h)⟩
      | succ k ih =>
        intro hk
        obtain ⟨l, hlk, h1, h2⟩ := ih (by omega)
        obtain ⟨b, hb1, hb2⟩ := hex k (by omega)
        refine ⟨l ++ [b], by simp [hlk], fun c hc => ?_, fun i hi' j u hu => ?_⟩
        · rcases List.mem_append.1 hc with h | h
          · exact h1 c h
          · simp at h; subst h; exact hb1
        · by_cases hlt : i < l.length
          · rw [List.getElem_append_left hlt] at hu
            exact h2 i hlt j u hu
          · have : i = k := by simp at hi'; omega
            subst this
            rw [List.getElem_append_right (by omega)] at hu
            simp [hlk] at hu
            exact hb2 j u hu
    obtain ⟨l, hll, h1, h2⟩ := hlist len (Nat.le_refl _)
    refine ⟨l, some a, m, by rw [hll], by rw [hll]; exact hlc, hcm, fun hp => ?_, h1⟩
    have hc0 := h2 0 hp 0 _ rfl
    have hsp := World.cell?_spot hc0
    obtain ⟨b, o, sp⟩ := a
    have hsp' : sp = none := by simpa [Addr.add] using hsp
    subst hsp'
    refine ⟨b, o, rfl, ?_, fun i hi' j u hu => ?_⟩
    · have := World.block_lt_of_cell? w _ hc0
      simpa [Addr.add] using this
    · have := h2 i hi' j u hu
      rwa [Addr.add_lit] at this
end
/-- Act i, wherever what was there is as it was. -/
theorem Acts3.at_ {w : World} {v : Value} {l : List Act3} (h : Acts3 w v l) : ∃ A c, v = .slice A l.length c ∧ l.length ≤ c ∧ c ≤ 9223372036854775807 ∧ ∀ k (hk : k < l.length), ∃ b o, A = some ⟨b, o, none⟩ ∧ ∀ w', Below w.heap.size w w' →
    w'.cell? ⟨b, o + k * 3, none⟩ = some (.int .i64 l[k].kind) ∧ w'.cell? ⟨b, o + k * 3 + 1, none⟩ = some (.int .i64 l[k].no) ∧ w'.cell? ⟨b, o + k * 3 + 2, none⟩ = some (.int .u8 (l[k].by_.toNat : Int)) := by
  obtain ⟨A, c, rfl, g1, g2, g3, _⟩ := h
  refine ⟨A, c, rfl, g1, by unfold maxLen at g2; omega, fun k hk => ?_⟩
  obtain ⟨b, o, rfl, hb, hc⟩ := g3 (by omega)
  refine ⟨b, o, rfl, fun w' hw => ⟨?_, ?_, ?_⟩⟩
  · exact (hw.cell (p := ⟨b, o + k * 3, none⟩) hb).trans (hc k hk 0 _ rfl)
  · rw [Nat.add_assoc]; exact (hw.cell (p := ⟨b, o + (k * 3 + 1), none⟩) hb).trans (hc k hk 1 _ rfl)
  · rw [Nat.add_assoc]; exact (hw.cell (p := ⟨b, o + (k * 3 + 2), none⟩) hb).trans (hc k hk 2 _ rfl)
end Go.Proofs.Ytfjcblppmoomdaa
