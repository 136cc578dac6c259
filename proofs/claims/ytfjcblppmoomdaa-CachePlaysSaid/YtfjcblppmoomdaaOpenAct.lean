/-
  What is done to a device, as an argument, opened: by value, and a slice of such; a slice of whole numbers.
-/
import Derived.Test.YtfjcblppmoomdaaOpen
import Derived.Lib.SmallJoins
import Derived.Deep.Fields
import Derived.ChangeSame
namespace Go.Proofs.Ytfjcblppmoomdaa
open Go.Joins Go.ChangeShapes Go.WideShapes Go.ChangeAt Go.RowKit Go.Deep
/-- The cells of whole numbers. -/
def cellsZ (l : List Int) : List Value := l.map (Value.int .i64)
theorem cellsZ_length (l : List Int) : (cellsZ l).length = l.length := by simp [cellsZ]
theorem cellsZ_at (l : List Int) (k : Nat) (h : k < l.length) : (cellsZ l)[k]? = some (.int .i64 l[k]) := by simp [cellsZ, h]
/-- All are such as an int holds. -/
def Fits (l : List Int) : Prop := ∀ n ∈ l, (Lit.int .i64 n).wf = true
/-- An act, as it came in: its numbers, its byte, its list and the list's slice. -/
structure ActD where
  kind : Int
  sector : Int
  at_ : Int
  by_ : UInt8
  lv : Value
  ks : List Int
/-- The five cells of an act. -/
def ActD.cells (a : ActD) : List Value := [.int .i64 a.kind, .int .i64 a.sector, .int .i64 a.at_, .int .u8 (a.by_.toNat : Int), a.lv]
/-- In w the act's list reads as it should, and its numbers are ints. -/
structure ActIs (w : World) (a : ActD) : Prop where
  kind : (Lit.int .i64 a.kind).wf = true
  sector : (Lit.int .i64 a.sector).wf = true
  at_ : (Lit.int .i64 a.at_).wf = true
  list : Rd w w.heap.size a.lv (cellsZ a.ks)
  fits : Fits a.ks
/-- In w the slice v has these acts. -/
def Acts (w : World) (v : Value) (l : List ActD) : Prop :=
  ∃ A c, v = .slice A l.length c ∧ l.length ≤ c ∧ c ≤ maxLen ∧ (0 < l.length → ∃ b o, A = some ⟨b, o, none⟩ ∧ b < w.heap.size ∧ ∀ (i : Nat) (h : i < l.length) (j : Nat) (u : Value), l[i].cells[j]? = some u → w.cell? ⟨b, o + (i * 5 + j), none⟩ = some u) ∧
    ∀ a ∈ l, ActIs w a
section
variable {H : Type} {enc : TypeId × Value → H} {P : Program} {w : World} {base : Nat} {spare : Nat → Bool} {held : Bool}
theorem open_agg5 {r : Reach} {b0 : Nat} {t : TypeId} {f0 f1 f2 f3 f4 : Field} {v : Value} {d : DataW H} {p : List MemPlace} (hs : P.underlying t = some (.struct #[f0, f1, f2, f3, f4])) (hone : oneCellFields P #[f0, f1, f2, f3, f4] = true) (hC : P.cellsOf t = 5)
    (hv : Value.okWide P w r b0 t v) (h : DataW.Trod enc P w base spare held t v d p) :
    ∃ (v0 v1 v2 v3 v4 : Value) (y0 y1 y2 y3 y4 : DataW H × List MemPlace) (n : Nat), v = .agg #[v0, v1, v2, v3, v4] ∧
      DataW.trod enc P w base spare held n f0.type [v0] = some y0 ∧ DataW.trod enc P w base spare held n f1.type [v1] = some y1 ∧ DataW.trod enc P w base spare held n f2.type [v2] = some y2 ∧ DataW.trod enc P w base spare held n f3.type [v3] = some y3 ∧ DataW.trod enc P w base spare held n f4.type [v4] = some y4 := by
  obtain ⟨cs, rfl, hsz⟩ := okWide_struct hs hv
  obtain ⟨l⟩ := cs
  match l, hsz.trans hC with
  | [c0, c1, c2, c3, c4], _ =>
    obtain ⟨fuel, hf⟩ := h
    obtain ⟨xs, n, _, hx, _, hlen, hg⟩ := DataW.trod_struct hs hf
    obtain ⟨o0, k0⟩ := hone_of hone 0 f0 rfl
    obtain ⟨o1, k1⟩ := hone_of hone 1 f1 rfl
    obtain ⟨o2, k2⟩ := hone_of hone 2 f2 rfl
    obtain ⟨o3, k3⟩ := hone_of hone 3 f3 rfl
    obtain ⟨o4, k4⟩ := hone_of hone 4 f4 rfl
    match xs, hlen with
    | [y0, y1, y2, y3, y4], _ =>
      exact ⟨c0, c1, c2, c3, c4, y0, y1, y2, y3, y4, n, rfl, by simpa [Value.cells, o0, k0] using hg 0 f0 rfl, by simpa [Value.cells, o1, k1] using hg 1 f1 rfl, by simpa [Value.cells, o2, k2] using hg 2 f2 rfl, by simpa [Value.cells, o3, k3] using hg 3 f3 rfl, by simpa [Value.cells, o4, k4] using hg 4 f4 rfl⟩
theorem open_slice_fields {t e : TypeId} {fs : Array Field} {fuel : Nat} {cs : List Value} {x : DataW H × List MemPlace} (ht : P.underlying t = some (.slice e)) (he : P.underlying e = some (.struct fs))
    (hone : oneCellFields P fs = true) (hC : P.cellsOf e = fs.size) (h : DataW.trod enc P w base spare held fuel t cs = some x) :
    (cs = [.slice none 0 0] ∧ x = (.nil, [])) ∨
    ∃ (a : Addr) (len cap m : Nat), cs = [.slice (some a) len cap] ∧ base ≤ a.block ∧ len ≤ cap ∧ cap ≤ maxLen ∧ m = (if spare a.block then cap else len) ∧
      ∀ i, i < m → ∃ (ys : List (DataW H × List MemPlace)) (n : Nat), ys.length = fs.size ∧
        ∀ (j : Nat) (f : Field), fs[j]? = some f → ∃ (v : Value) (y : DataW H × List MemPlace), w.cell? (a.add (i * fs.size + j)) = some v ∧ ys[j]? = some y ∧ DataW.trod enc P w base spare held n f.type [v] = some y := by
  rcases open_slice ht h with h0 | ⟨a, len, cap, m, n, D, Pl, hcs, hb, hl, hm, hmm, hx, hi⟩
  · exact .inl h0
  · refine .inr ⟨a, len, cap, m, hcs, hb, hl, hm, hmm, fun i him => ?_⟩
    obtain ⟨cs', hc, ht'⟩ := hi i him
    rw [hC] at hc
    obtain ⟨ys, n', hn', hy, hlen, hyl, hf⟩ := DataW.trod_struct he ht'
    obtain ⟨_, hcl, hat⟩ := World.cells?_some hc
    refine ⟨ys, n', hyl, fun j f hj => ?_⟩
    obtain ⟨ho, hk⟩ := hone_of hone j f hj
    have hjl : j < fs.size := (Array.getElem?_eq_some_iff.1 hj).1
    have hcell := hat j hjl
    have hv : cs'[j]? = some (cs'[j]'(by omega)) := List.getElem?_eq_getElem (by omega)
    have h1 := hf j f hj
    rw [ho, hk] at h1
    have hone' : (cs'.drop j).take 1 = [cs'[j]'(by omega)] := by
      rw [List.drop_eq_getElem_cons (by omega)]
      rfl
    rw [hone'] at h1
    have hys : ys[j]? = some (ys[j]'(by omega)) := List.getElem?_eq_getElem (by omega)
    refine ⟨_, _, ?_, hys, h1.trans hys⟩
    rw [← Go.Deep.add_add, hcell, hv]
theorem open_cellsZ {q : TypeId} (hq : P.underlying q = some (.int .i64)) : ∀ vs : List Value, (∀ v ∈ vs, ∃ n y, DataW.trod enc P w base (fun _ => true) held n q [v] = some y) → ∃ l, vs = cellsZ l ∧ Fits l
  | [], _ => ⟨[], rfl, fun n hn => by cases hn⟩
  | v :: vs, h => by
    obtain ⟨l, hl, hf⟩ := open_cellsZ hq vs fun u hu => h u (List.mem_cons_of_mem _ hu)
    obtain ⟨n, y, hy⟩ := h v (List.mem_cons_self ..)
    obtain ⟨k, e1, _, hw⟩ := DataW.trod_int hq hy
    injection e1 with e1
    refine ⟨k :: l, by rw [e1, hl]; rfl, fun m hm => ?_⟩
    rcases List.mem_cons.1 hm with rfl | h1
    · exact hw
    · exact hf m h1
theorem open_nums {t q : TypeId} {fuel : Nat} {u : Value} {x : DataW H × List MemPlace} (ht : P.underlying t = some (.slice q)) (hq : P.underlying q = some (.int .i64)) (hc : P.cellsOf q = 1)
    (h : DataW.trod enc P w base (fun _ => true) held fuel t [u] = some x) : ∃ l, Rd w w.heap.size u (cellsZ l) ∧ Fits l := by
  obtain ⟨vs, h1, h2⟩ := open_rd ht hc h
  obtain ⟨l, rfl, hf⟩ := open_cellsZ hq vs h2
  exact ⟨l, h1, hf⟩
theorem act_of {ti tb tl : TypeId} (hi : P.underlying ti = some (.int .i64)) (hb : P.underlying tb = some (.int .u8)) (hl : P.underlying tl = some (.slice ti)) (hc : P.cellsOf ti = 1) {v0 v1 v2 v3 v4 : Value} {y0 y1 y2 y3 y4 : DataW H × List MemPlace} {n : Nat}
    (h0 : DataW.trod enc P w base (fun _ => true) held n ti [v0] = some y0) (h1 : DataW.trod enc P w base (fun _ => true) held n ti [v1] = some y1) (h2 : DataW.trod enc P w base (fun _ => true) held n ti [v2] = some y2)
    (h3 : DataW.trod enc P w base (fun _ => true) held n tb [v3] = some y3) (h4 : DataW.trod enc P w base (fun _ => true) held n tl [v4] = some y4) :
    ∃ a : ActD, [v0, v1, v2, v3, v4] = a.cells ∧ ActIs w a := by
  obtain ⟨k0, e0, _, w0⟩ := DataW.trod_int hi h0
  obtain ⟨k1, e1, _, w1⟩ := DataW.trod_int hi h1
  obtain ⟨k2, e2, _, w2⟩ := DataW.trod_int hi h2
  obtain ⟨k3, e3, _, w3⟩ := DataW.trod_int hb h3
  obtain ⟨l, hr, hf⟩ := open_nums hl hi hc h4
  injection e0 with e0
  injection e1 with e1
  injection e2 with e2
  injection e3 with e3
  refine ⟨⟨k0, k1, k2, UInt8.ofNat k3.toNat, v4, l⟩, ?_, w0, w1, w2, hr, hf⟩
  rw [e0, e1, e2, e3]
  simp only [ActD.cells]
  rw [u8_of_wf w3]
theorem open_act {r : Reach} {b0 : Nat} {t ti tb tl : TypeId} {f0 f1 f2 f3 f4 : Field} {v : Value} {d : DataW H} {p : List MemPlace} (hs : P.underlying t = some (.struct #[f0, f1, f2, f3, f4])) (hone : oneCellFields P #[f0, f1, f2, f3, f4] = true) (hC : P.cellsOf t = 5)
    (t0 : f0.type = ti) (t1 : f1.type = ti) (t2 : f2.type = ti) (t3 : f3.type = tb) (t4 : f4.type = tl) (hi : P.underlying ti = some (.int .i64)) (hb : P.underlying tb = some (.int .u8)) (hl : P.underlying tl = some (.slice ti)) (hc : P.cellsOf ti = 1)
    (hv : Value.okWide P w r b0 t v) (h : DataW.Trod enc P w base (fun _ => true) held t v d p) : ∃ a : ActD, v = .agg a.cells.toArray ∧ ActIs w a := by
  obtain ⟨v0, v1, v2, v3, v4, y0, y1, y2, y3, y4, n, rfl, h0, h1, h2, h3, h4⟩ := open_agg5 hs hone hC hv h
  rw [t0] at h0
  rw [t1] at h1
  rw [t2] at h2
  rw [t3] at h3
  rw [t4] at h4
  obtain ⟨a, ha, his⟩ := act_of hi hb hl hc h0 h1 h2 h3 h4
  exact ⟨a, by rw [← ha], his⟩
theorem open_acts {t e ti tb tl : TypeId} {f0 f1 f2 f3 f4 : Field} {fuel : Nat} {u : Value} {x : DataW H × List MemPlace} (ht : P.underlying t = some (.slice e)) (hs : P.underlying e = some (.struct #[f0, f1, f2, f3, f4])) (hone : oneCellFields P #[f0, f1, f2, f3, f4] = true) (hC : P.cellsOf e = 5)
    (t0 : f0.type = ti) (t1 : f1.type = ti) (t2 : f2.type = ti) (t3 : f3.type = tb) (t4 : f4.type = tl) (hi : P.underlying ti = some (.int .i64)) (hb : P.underlying tb = some (.int .u8)) (hl : P.underlying tl = some (.slice ti)) (hc : P.cellsOf ti = 1)
    (h : DataW.trod enc P w base (fun _ => true) held fuel t [u] = some x) : ∃ l, Acts w u l := by
  rcases open_slice_fields ht hs hone hC h with ⟨e1, _⟩ | ⟨a, len, cap, m, e1, _, hlc, hcm, hmm, hx⟩
  · injection e1 with e1
    subst e1
    exact ⟨[], none, 0, rfl, Nat.le_refl _, Nat.zero_le _, fun h => absurd h (by simp), fun a ha => by cases ha⟩
  · injection e1 with e1
    subst e1
    simp only [if_true] at hmm
    subst hmm
    have hex : ∀ i, i < m → ∃ b : ActD, ActIs w b ∧ ∀ (j : Nat) (u : Value), b.cells[j]? = some u → w.cell? (a.add (i * 5 + j)) = some u := fun i hi' => by
      obtain ⟨ys, n, _, hj⟩ := hx i hi'
      obtain ⟨v0, y0, c0, _, h0⟩ := hj 0 f0 rfl
      obtain ⟨v1, y1, c1, _, h1⟩ := hj 1 f1 rfl
      obtain ⟨v2, y2, c2, _, h2⟩ := hj 2 f2 rfl
      obtain ⟨v3, y3, c3, _, h3⟩ := hj 3 f3 rfl
      obtain ⟨v4, y4, c4, _, h4⟩ := hj 4 f4 rfl
      rw [t0] at h0
      rw [t1] at h1
      rw [t2] at h2
      rw [t3] at h3
      rw [t4] at h4
      obtain ⟨b, hb', his⟩ := act_of hi hb hl hc h0 h1 h2 h3 h4
      refine ⟨b, his, fun j u hu => ?_⟩
      rw [← hb'] at hu
      match j, hu with
      | 0, hu => simp at hu; subst hu; exact c0
      | 1, hu => simp at hu; subst hu; exact c1
      | 2, hu => simp at hu; subst hu; exact c2
      | 3, hu => simp at hu; subst hu; exact c3
      | 4, hu => simp at hu; subst hu; exact c4
      | _ + 5, hu => simp at hu
    have hlist : ∀ k, k ≤ len → ∃ l : List ActD, l.length = k ∧ (∀ b ∈ l, ActIs w b) ∧ ∀ (i : Nat) (h : i < l.length) (j : Nat) (u : Value), l[i].cells[j]? = some u → w.cell? (a.add (i * 5 + j)) = some u := fun k => by
      induction k with
      | zero => exact fun _ => ⟨[], rfl, (fun b hb => by cases hb), (fun i h => by simp at h)⟩
      | succ k ih =>
        intro hk
        obtain ⟨l, hlk, h1, h2⟩ := ih (by omega)
        obtain ⟨b, hb1, hb2⟩ := hex k (by omega)
        refine ⟨l ++ [b], by simp [hlk], fun c hc => ?_, fun i hi' j u hu => ?_⟩
        · rcases List.mem_append.1 hc with h | h
          · exact h1 c h
          · simp at h; subst h; exact hb1
        · by_cases hlt : i < l.length
          · rw [List.getElem_append_left hlt] at hu
            exact h2 i hlt j u hu
          · have : i = k := by simp at hi'; omega
            subst this
            rw [List.getElem_append_right (by omega)] at hu
            simp [hlk] at hu
            exact hb2 j u hu
    obtain ⟨l, hll, h1, h2⟩ := hlist len (Nat.le_refl _)
    refine ⟨l, some a, m, by rw [hll], by rw [hll]; exact hlc, hcm, fun hp => ?_, h1⟩
    have hc0 := h2 0 hp 0 _ rfl
    have hsp := World.cell?_spot hc0
    obtain ⟨b, o, sp⟩ := a
    have hsp' : sp = none := by simpa [Addr.add] using hsp
    subst hsp'
    refine ⟨b, o, rfl, ?_, fun i hi' j u hu => ?_⟩
    · have := World.block_lt_of_cell? w _ hc0
      simpa [Addr.add] using this
    · have := h2 i hi' j u hu
      rwa [Addr.add_lit] at this
end
end Go.Proofs.Ytfjcblppmoomdaa
