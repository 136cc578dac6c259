/-
  Get and Put of a cache: contracts.
-/
import Derived.Test.YtfjcblppmoomdaaCacheE
namespace Go.Proofs.Ytfjcblppmoomdaa
open Go.RowKit
/-- Get: the bytes, what is told, the cache and the device then. -/
def Cch.get (x : Cch) (d : Dev) (no : Int) : List UInt8 × Int × Cch × Dev :=
  if 0 ≤ no ∧ no < d.L.length then
    match x.holder no with
    | some i => ((x.L.getD i Frm.zero).b, 0, x.use i, d)
    | none => match x.read d no with
      | (none, e, y, dy) => ([], e, y, dy)
      | (some i, _, y, dy) => ((y.L.getD i Frm.zero).b, 0, y.use i, dy)
  else ([], 1, x, d)
/-- Put: what is told, the cache and the device then. -/
def Cch.put (x : Cch) (d : Dev) (no : Int) (l : List UInt8) : Int × Cch × Dev :=
  if 0 ≤ no ∧ no < d.L.length then
    match x.holder no with
    | some i => (0, ((x.bytes i l).soil i).use i, d)
    | none => match x.room d with
      | (none, e, y, dy) => (e, y, dy)
      | (some i, _, y, dy) => (0, (((y.hold i no).bytes i l).soil i).use i, dy)
  else (1, x, d)
theorem holder_lt {x : Cch} {no : Int} {i : Nat} (h : x.holder no = some i) : i < x.L.length ∧ (x.L.getD i Frm.zero).full = true ∧ (x.L.getD i Frm.zero).no = no := by
  unfold Cch.holder at h
  rw [List.findIdx?_eq_some_iff_getElem] at h
  obtain ⟨hi, h1, _⟩ := h
  rw [getD_at hi]
  simp at h1
  exact ⟨hi, h1⟩
/-- What read comes to. -/
theorem read_spec (x : Cch) (d : Dev) (no : Int) (hh : x.hand < x.L.length) : (x.read d no).2.2.1.L.length = x.L.length ∧ (x.read d no).2.2.2.L.length = d.L.length ∧ (x.read d no).2.2.2.n ≤ d.n + 1 ∧
    ((∃ i, (x.read d no).1 = some i ∧ (x.read d no).2.1 = 0 ∧ i < x.L.length) ∨ ((x.read d no).1 = none ∧ ((x.read d no).2.1 = 3 ∨ (x.read d no).2.1 = 11))) := by
  have h := room_spec x d hh
  unfold Cch.read
  split
  · rename_i e y dy hr
    rw [hr] at h
    obtain ⟨h1, h2, h3, h4⟩ := h
    refine ⟨h1, h2, h3, .inr ⟨rfl, ?_⟩⟩
    rcases h4 with ⟨i, e1, _⟩ | ⟨_, e2⟩
    · cases e1
    · exact e2
  · rename_i i e y dy hr
    rw [hr] at h
    obtain ⟨h1, h2, h3, h4⟩ := h
    split
    · exact ⟨h1, h2, h3, .inr ⟨rfl, .inl rfl⟩⟩
    · refine ⟨by rw [Cch.bytes_len, Cch.hold_len]; exact h1, h2, h3, .inl ⟨i, rfl, rfl, ?_⟩⟩
      rcases h4 with ⟨j, e1, _, e3⟩ | ⟨e1, _⟩
      · have : i = j := by injection e1
        subst this; exact e3
      · cases e1
theorem zero_csector : ∃ Z : Array Value, Z.size = 256 ∧ ∀ w, (zeroValue 92).run Try.prog w = .ok (.agg Z) w := by
  refine ⟨Array.replicate 256 (.int .u8 0), by simp, (zero_of_info (n := 256) ?_).1⟩
  kernel_rfl
section
variable {w w' : World} {G G' : Nat → Prop} {c bf p : Nat} {x y : Cch} {d d' : Dev}
/-- One mark of frame i, stored. -/
theorem cuse_any (h : CD w G c bf p x d) {i : Nat} (hi : i < x.L.length) : CD (w.setCell ⟨bf, i * 261 + 259, none⟩ (.bool true)) G c bf p (x.use i) d ∧ Only (fun k => k = c ∨ k = bf) w (w.setCell ⟨bf, i * 261 + 259, none⟩ (.bool true)) := by
  have hw := h.cache.wide.at_ hi
  have ho : Only (fun k => k = c ∨ k = bf) w (w.setCell ⟨bf, i * 261 + 259, none⟩ (.bool true)) := Only.setCell (p := ⟨bf, i * 261 + 259, none⟩) (.inr rfl) _
  refine ⟨h.turned ?_ ho, ho⟩
  unfold Cch.use
  rw [getD_at hi]
  exact h.cache.set hi (by omega) (frCells_set259 hw true) hw
theorem csoil_any (h : CD w G c bf p x d) {i : Nat} (hi : i < x.L.length) : CD (w.setCell ⟨bf, i * 261 + 258, none⟩ (.bool true)) G c bf p (x.soil i) d ∧ Only (fun k => k = c ∨ k = bf) w (w.setCell ⟨bf, i * 261 + 258, none⟩ (.bool true)) := by
  have hw := h.cache.wide.at_ hi
  have ho : Only (fun k => k = c ∨ k = bf) w (w.setCell ⟨bf, i * 261 + 258, none⟩ (.bool true)) := Only.setCell (p := ⟨bf, i * 261 + 258, none⟩) (.inr rfl) _
  refine ⟨h.turned ?_ ho, ho⟩
  unfold Cch.soil
  rw [getD_at hi]
  exact h.cache.set hi (by omega) (frCells_set258 hw true) hw
/-- What Get tells, and leaves. -/
def Got (w w' : World) (G : Nat → Prop) (c bf p : Nat) (v : Value) (l : List UInt8) (x : Cch) (d : Dev) : Prop :=
  Rd w' w'.heap.size v (cellsB l) ∧ (∀ g, v.ownBlock = some g → w.heap.size ≤ g ∧ g < w'.heap.size) ∧ CD w' (fun k => G k ∧ ¬ v.ownBlock = some k) c bf p x d ∧ Only (Foot G c bf) w w'
/-- The last steps of Get: all that they need of frame i, and what they leave. -/
theorem got_tail {w0 : World} (h : CD w G c bf p x d) (ho : Only (Foot G c bf) w0 w) {i : Nat} (hi : i < x.L.length) : ∃ l, l = (x.L.getD i Frm.zero).b ∧ l.length = 256 ∧ w.cell? ⟨bf, i * 261 + 259, none⟩ = some (.bool x.L[i].used) ∧ w.frozen? ⟨bf, i * 261 + 259, none⟩ = false ∧
    (w.setCell ⟨bf, i * 261 + 259, none⟩ (.bool true)).rangeAt bf (i * 261 + 2) (cellsB l) ∧
    Got w0 ((w.setCell ⟨bf, i * 261 + 259, none⟩ (.bool true)).alloc (.cells (cellsB l).toArray 92)) G c bf p (.slice (some ⟨w.heap.size, 0, none⟩) 256 256) l (x.use i) d := by
  obtain ⟨h1, h2⟩ := cuse_any h hi
  have hi2 : i < (x.use i).L.length := by rw [Cch.use_len]; exact hi
  have hb := h1.cache.bytes hi2
  have e : (x.use i).L[i].b = (x.L.getD i Frm.zero).b := by
    have : (x.use i).L[i] = { x.L.getD i Frm.zero with used := true } := by unfold Cch.use; simp
    rw [this]
  rw [e] at hb
  have hl : (x.L.getD i Frm.zero).b.length = 256 := by rw [getD_at hi]; exact h.cache.wide.at_ hi
  refine ⟨_, rfl, hl, h.cache.f259 hi, h.cache.freeF _, hb, ?_⟩
  obtain ⟨w1, hw1⟩ : ∃ w1, w1 = w.setCell ⟨bf, i * 261 + 259, none⟩ (.bool true) := ⟨_, rfl⟩
  have hsz : w.heap.size = w1.heap.size := by rw [hw1]; simp
  rw [hsz]
  rw [← hw1] at h1 h2 ⊢
  obtain ⟨l, hll⟩ : ∃ l, l = (x.L.getD i Frm.zero).b := ⟨_, rfl⟩
  rw [← hll] at hl ⊢
  have hbl : Below w1.heap.size w1 (w1.alloc (.cells (cellsB l).toArray 92)) := (Below.refl _ _).alloc (Nat.le_refl _) _
  have hrd : Rd (w1.alloc (.cells (cellsB l).toArray 92)) (w1.alloc (.cells (cellsB l).toArray 92)).heap.size (.slice (some ⟨w1.heap.size, 0, none⟩) 256 256) (cellsB l) := by
    refine ⟨_, _, by rw [cellsB_length, hl], by rw [cellsB_length, hl]; omega, by unfold maxLen; omega, (fun h => by cases h), fun _ => ⟨w1.heap.size, 0, rfl, by simp, fun j u hu => ?_⟩⟩
    rw [Nat.zero_add, World.cell?_alloc_mark]
    simpa using hu
  refine ⟨hrd, fun g hg => ?_, ?_, ?_⟩
  · have : w1.heap.size = g := by simpa [Value.ownBlock] using hg
    subst this
    exact ⟨Nat.le_trans ho.size h2.size, by simp⟩
  · have := h1.far hbl (g := w1.heap.size) (Nat.le_refl _)
    refine this.mono (fun k _ hk => ⟨hk.1, fun e => hk.2 ?_⟩) (fun e => this.nc.1 ⟨e.1, fun e2 => e.2 (by rw [e2]; rfl)⟩) (fun e => this.nc.2 ⟨e.1, fun e2 => e.2 (by rw [e2]; rfl)⟩)
    have : w1.heap.size = k := by simpa [Value.ownBlock] using e
    exact this.symm
  · exact (ho.trans h2.cache).trans (Only.of_below hbl)
theorem got_none {w0 : World} (h : CD w G c bf p x d) (ho : Only (Foot G c bf) w0 w) : Got w0 w G c bf p (.slice none 0 0) [] x d := by
  refine ⟨Rd.nil w _, (fun g e => by cases e), ?_, ho⟩
  exact h.mono (fun k _ hk => ⟨hk, fun e => by cases e⟩) (fun e => h.nc.1 e.1) (fun e => h.nc.2 e.1)
set_option maxRecDepth 100000 in
theorem get_out (h : CD w G c bf p x d) {no : Int} (hno : ¬ (0 ≤ no ∧ no < d.L.length)) : Calls Try.prog 25 #[at0 c, .int .i64 no] w fun e w' => e = .returned (.tuple #[.slice none 0 0, .int .i64 1]) ∧ w = w' := by
  obtain ⟨bl, bm, S, D, hd⟩ := h.dev
  have hh := has_cache no h.k2 hd.c8
  rw [decide_eq_false hno] at hh
  have Hh := Lib.hid hh
  clear h hh hd hno
  go_enter Try.func25, Try.ntmps25
  go_wp2_with (go_at_call 44; refine Hh.out.mono ?_; rintro e w1 ⟨rfl, rfl⟩)
  go_ret2
  exact ⟨rfl, rfl⟩
set_option maxRecDepth 100000 in
theorem get_nil (no : Int) (w : World) : Calls Try.prog 25 #[.pointer none, .int .i64 no] w fun e w' => e = .returned (.tuple #[.slice none 0 0, .int .i64 1]) ∧ w = w' := by
  go_enter Try.func25, Try.ntmps25
  go_wp2_with (go_at_call 44; refine (has_cache_nil _ _).mono ?_; rintro e w1 ⟨rfl, rfl⟩)
  go_ret2
  exact ⟨rfl, rfl⟩
set_option maxRecDepth 100000 in
set_option maxHeartbeats 800000 in
theorem get_hit (h : CD w G c bf p x d) {no : Int} (hno : 0 ≤ no ∧ no < d.L.length) {i : Nat} (he : x.holder no = some i) :
    Calls Try.prog 25 #[at0 c, .int .i64 no] w fun e w' => ∃ v, e = .returned (.tuple #[v, .int .i64 0]) ∧ Got w w' G c bf p v (x.L.getD i Frm.zero).b (x.use i) d := by
    obtain ⟨bl, bm, S, D, hd⟩ := h.dev
    have hh := has_cache no h.k2 hd.c8
    rw [decide_eq_true hno] at hh
    have Hh := Lib.hid hh
    have hE := holder_any h.cache no
    have hi := (holder_lt he).1
    rw [he] at hE
    have HE : Hid (Calls Try.prog 45 #[at0 c, .int .i64 no] w fun e w' => e = .returned (frAt bf (i * 261)) ∧ w = w') := Lib.hid hE
    obtain ⟨l, hl0, hl, t1, t2, t3, t4⟩ := got_tail (w0 := w) h (Only.refl _ _) hi
    rw [← hl0]
    have Hb := Lib.hid t3
    have Hfin := Lib.hid t4
    obtain ⟨ub, hub⟩ : ∃ ub, ub = x.L[i].used := ⟨_, rfl⟩
    rw [← hub] at t1
    have hl2 : (cellsB l).toArray.size = 256 := by simp [cellsB_length, hl]
    have I1 := Kept.mk (show (Try.prog.info? 92).map (·.size) = some (cellsB l).length by rw [info_csector, cellsB_length, hl])
    have I2 := Kept.mk (show (Try.prog.info? 92).map (·.size) = some (cellsB l).toArray.size by rw [info_csector, hl2])
    have Hl2 := Kept.mk hl2
    obtain ⟨Z, hZ, hz⟩ := zero_csector
    have HZ := Kept.mk hZ
    clear h hh hd hE he hno hl0 hl hl2 hZ t3 t4 hub hi
    go_enter Try.func25, Try.ntmps25
    go_wp2_with (first
      | (go_at_call 44; refine Hh.out.mono ?_; rintro e w1 ⟨rfl, rfl⟩)
      | (go_at_call 45; refine HE.out.mono ?_; rintro e w1 ⟨rfl, rfl⟩)
      | ((with_reducible refine wpList_load_mid (op := ⟨some 35, .load 92 (.tmp 34), _, _, _, _⟩) rfl 92 (.tmp 34) rfl bf (i * 261 + 2) ?_ (cellsB l) (.array 256 5) Hb.out Try.underlying92 rfl I1.out ?_); exact rfl)
      | (with_reducible refine wpList_alloc_zero (o := ⟨some 8, .alloc 92, _, _, _, _⟩) rfl 92 rfl Z hz ?_)
      | ((with_reducible refine wpList_store_new (o := ⟨none, .store 92 (.tmp 8) (.tmp 35), _, _, _, _⟩) rfl 92 (.tmp 8) (.tmp 35) rfl Z (cellsB l).toArray ?_ ?_ I2.out (HZ.out.trans Hl2.out.symm) (bytesAll_one l) ?_); exact rfl; exact rfl))
    go_ret2
    exact ⟨.slice (some ⟨w.heap.size, 0, none⟩) 256 256, rfl, Hfin.out⟩
set_option maxRecDepth 100000 in
set_option maxHeartbeats 800000 in
theorem get_miss (h : CD w G c bf p x d) (hr : x.Within d.L.length) (hn : d.n < 999999) (hG : ∀ k, w.heap.size ≤ k → G k) {no : Int} (hno : 0 ≤ no ∧ no < d.L.length) (he : x.holder no = none) {i : Nat} {e0 : Int} {dy : Dev} (hrd : x.read d no = (some i, e0, y, dy)) :
    Calls Try.prog 25 #[at0 c, .int .i64 no] w fun e w' => ∃ v, e = .returned (.tuple #[v, .int .i64 0]) ∧ Got w w' G c bf p v (y.L.getD i Frm.zero).b (y.use i) dy := by
    obtain ⟨bl, bm, S, D, hd⟩ := h.dev
    have hh := has_cache no h.k2 hd.c8
    rw [decide_eq_true hno] at hh
    have Hh := Lib.hid hh
    have hE := holder_any h.cache no
    rw [he] at hE
    have HE : Hid (Calls Try.prog 45 #[at0 c, .int .i64 no] w fun e w' => e = .returned (.pointer none) ∧ w = w') := Lib.hid hE
    have hR := cread_any h hr hn hG hno
    obtain ⟨s1, s2, s3, s4⟩ := read_spec x d no h.cache.hand
    rw [hrd] at hR s1 s2 s3 s4
    have s1 : y.L.length = x.L.length := s1
    have e0' : e0 = 0 ∧ i < x.L.length := by
      rcases s4 with ⟨j, a, b, q⟩ | ⟨a, _⟩
      · injection a with a; subst a; exact ⟨b, q⟩
      · cases a
    obtain ⟨rfl, hix⟩ := e0'
    have hi : i < y.L.length := by omega
    have HR : Hid (Calls Try.prog 50 #[at0 c, .int .i64 no] w fun e w' => e = .returned (.tuple #[frAt bf (i * 261), .int .i64 0]) ∧ CD w' G c bf p y dy ∧ Only (Foot G c bf) w w') := Lib.hid hR
    have Ht : Hid (∀ w1, CD w1 G c bf p y dy → Only (Foot G c bf) w w1 → (y.L.getD i Frm.zero).b.length = 256 ∧ w1.cell? ⟨bf, i * 261 + 259, none⟩ = some (.bool y.L[i].used) ∧ w1.frozen? ⟨bf, i * 261 + 259, none⟩ = false ∧
        (w1.setCell ⟨bf, i * 261 + 259, none⟩ (.bool true)).rangeAt bf (i * 261 + 2) (cellsB (y.L.getD i Frm.zero).b) ∧
        Got w ((w1.setCell ⟨bf, i * 261 + 259, none⟩ (.bool true)).alloc (.cells (cellsB (y.L.getD i Frm.zero).b).toArray 92)) G c bf p (.slice (some ⟨w1.heap.size, 0, none⟩) 256 256) (y.L.getD i Frm.zero).b (y.use i) dy) := Lib.hid fun w1 h1 ho1 => by
      obtain ⟨l, hl0, hl, t⟩ := got_tail (w0 := w) h1 ho1 hi
      rw [← hl0]
      exact ⟨hl, t⟩
    obtain ⟨ub, hub⟩ : ∃ ub, ub = y.L[i].used := ⟨_, rfl⟩
    obtain ⟨l, hl0⟩ : ∃ l, l = (y.L.getD i Frm.zero).b := ⟨_, rfl⟩
    rw [← hub, ← hl0] at Ht
    rw [← hl0]
    obtain ⟨Z, hZ, hz⟩ := zero_csector
    have HZ := Kept.mk hZ
    clear h hh hd hE he hno hl0 hZ hub hi hR s1 s2 s3 s4 hrd hr hix hn
    go_enter Try.func25, Try.ntmps25
    go_wp2_with (first
      | (go_at_call 44; refine Hh.out.mono ?_; rintro e w1 ⟨rfl, rfl⟩)
      | (go_at_call 45; refine HE.out.mono ?_; rintro e w1 ⟨rfl, rfl⟩)
      | (go_at_call 50; refine HR.out.mono ?_; rintro e w1 ⟨rfl, h1, ho1⟩; obtain ⟨hl, t1, t2, t3, t4⟩ := Ht.out _ h1 ho1; have Hb := Lib.hid t3; have Hfin := Lib.hid t4; have hl2 : (cellsB l).toArray.size = 256 := (by simp [cellsB_length, hl]); have I1 := Kept.mk (show (Try.prog.info? 92).map (·.size) = some (cellsB l).length by rw [info_csector, cellsB_length, hl]); have I2 := Kept.mk (show (Try.prog.info? 92).map (·.size) = some (cellsB l).toArray.size by rw [info_csector, hl2]); have Hl2 := Kept.mk hl2; clear hl hl2 t3 t4 h1 ho1)
      | ((with_reducible refine wpList_load_mid (op := ⟨some 35, .load 92 (.tmp 34), _, _, _, _⟩) rfl 92 (.tmp 34) rfl bf (i * 261 + 2) ?_ (cellsB l) (.array 256 5) Hb.out Try.underlying92 rfl I1.out ?_); exact rfl)
      | (with_reducible refine wpList_alloc_zero (o := ⟨some 8, .alloc 92, _, _, _, _⟩) rfl 92 rfl Z hz ?_)
      | ((with_reducible refine wpList_store_new (o := ⟨none, .store 92 (.tmp 8) (.tmp 35), _, _, _, _⟩) rfl 92 (.tmp 8) (.tmp 35) rfl Z (cellsB l).toArray ?_ ?_ I2.out (HZ.out.trans Hl2.out.symm) (bytesAll_one l) ?_); exact rfl; exact rfl))
    go_ret2
    exact ⟨.slice (some ⟨w1.heap.size, 0, none⟩) 256 256, rfl, Hfin.out⟩
set_option maxRecDepth 100000 in
set_option maxHeartbeats 800000 in
theorem get_fail (h : CD w G c bf p x d) (hr : x.Within d.L.length) (hn : d.n < 999999) (hG : ∀ k, w.heap.size ≤ k → G k) {no : Int} (hno : 0 ≤ no ∧ no < d.L.length) (he : x.holder no = none) {e0 : Int} {dy : Dev} (hrd : x.read d no = (none, e0, y, dy)) :
    Calls Try.prog 25 #[at0 c, .int .i64 no] w fun e w' => e = .returned (.tuple #[.slice none 0 0, .int .i64 e0]) ∧ CD w' G c bf p y dy ∧ Only (Foot G c bf) w w' := by
    obtain ⟨bl, bm, S, D, hd⟩ := h.dev
    have hh := has_cache no h.k2 hd.c8
    rw [decide_eq_true hno] at hh
    have Hh := Lib.hid hh
    have hE := holder_any h.cache no
    rw [he] at hE
    have HE : Hid (Calls Try.prog 45 #[at0 c, .int .i64 no] w fun e w' => e = .returned (.pointer none) ∧ w = w') := Lib.hid hE
    have hR := cread_any h hr hn hG hno
    obtain ⟨s1, s2, s3, s4⟩ := read_spec x d no h.cache.hand
    rw [hrd] at hR s4
    have e0' : e0 = 3 ∨ e0 = 11 := by
      rcases s4 with ⟨j, a, _⟩ | ⟨_, b⟩
      · cases a
      · exact b
    have HR : Hid (Calls Try.prog 50 #[at0 c, .int .i64 no] w fun e w' => e = .returned (.tuple #[.pointer none, .int .i64 e0]) ∧ CD w' G c bf p y dy ∧ Only (Foot G c bf) w w') := Lib.hid hR
    clear h hh hd hE he hno hR s1 s2 s3 s4 hrd hr hn
    rcases e0' with rfl | rfl
    all_goals
      go_enter Try.func25, Try.ntmps25
      go_wp2_with (first
        | (go_at_call 44; refine Hh.out.mono ?_; rintro e w1 ⟨rfl, rfl⟩)
        | (go_at_call 45; refine HE.out.mono ?_; rintro e w1 ⟨rfl, rfl⟩)
        | (go_at_call 50; refine HR.out.mono ?_; rintro e w1 ⟨rfl, h1, ho1⟩; have H1 := Lib.hid h1; have Ho1 := Lib.hid ho1; clear h1 ho1))
      go_ret2
      exact ⟨rfl, H1.out, Ho1.out⟩
theorem get_any (h : CD w G c bf p x d) (hr : x.Within d.L.length) (hn : d.n < 999999) (hG : ∀ k, w.heap.size ≤ k → G k) (no : Int) :
    Calls Try.prog 25 #[at0 c, .int .i64 no] w fun e w' => ∃ v, e = .returned (.tuple #[v, .int .i64 (x.get d no).2.1]) ∧ Got w w' G c bf p v (x.get d no).1 (x.get d no).2.2.1 (x.get d no).2.2.2 := by
  by_cases hno : 0 ≤ no ∧ no < d.L.length
  · rcases he : x.holder no with _ | i
    · rcases hrd : x.read d no with ⟨_ | i, e0, y, dy⟩
      · have e : x.get d no = ([], e0, y, dy) := by unfold Cch.get; rw [if_pos hno, he]; simp only [hrd]
        rw [e]
        refine (get_fail h hr hn hG hno he hrd).mono ?_
        rintro e w' ⟨rfl, h1, ho1⟩
        exact ⟨_, rfl, got_none h1 ho1⟩
      · have e : x.get d no = ((y.L.getD i Frm.zero).b, 0, y.use i, dy) := by unfold Cch.get; rw [if_pos hno, he]; simp only [hrd]
        rw [e]
        exact get_miss h hr hn hG hno he hrd
    · have e : x.get d no = ((x.L.getD i Frm.zero).b, 0, x.use i, d) := by unfold Cch.get; rw [if_pos hno, he]
      rw [e]
      exact get_hit h hno he
  · have e : x.get d no = ([], 1, x, d) := by unfold Cch.get; rw [if_neg hno]
    rw [e]
    refine (get_out h hno).mono ?_
    rintro e w' ⟨rfl, rfl⟩
    exact ⟨_, rfl, got_none h (Only.refl _ _)⟩
end
end Go.Proofs.Ytfjcblppmoomdaa
