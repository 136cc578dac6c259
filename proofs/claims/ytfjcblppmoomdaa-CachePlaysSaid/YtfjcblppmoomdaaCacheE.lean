/-
  Get and Put of a cache: contracts.
-/
import Derived.Test.YtfjcblppmoomdaaCacheD
import Derived.Test.YtfjcblppmoomdaaDevFar
namespace Go.Proofs.Ytfjcblppmoomdaa
open Go.RowKit
/-- Frame i holds sector no. -/
def Cch.hold (x : Cch) (i : Nat) (no : Int) : Cch := { x with L := x.L.set i { x.L.getD i Frm.zero with full := true, no := no } }
/-- Frame i has the bytes l. -/
def Cch.bytes (x : Cch) (i : Nat) (l : List UInt8) : Cch := { x with L := x.L.set i { x.L.getD i Frm.zero with b := l } }
/-- Frame i is used. -/
def Cch.use (x : Cch) (i : Nat) : Cch := { x with L := x.L.set i { x.L.getD i Frm.zero with used := true } }
/-- Frame i is dirty. -/
def Cch.soil (x : Cch) (i : Nat) : Cch := { x with L := x.L.set i { x.L.getD i Frm.zero with dirty := true } }
theorem Cch.hold_len (x : Cch) (i : Nat) (no : Int) : (x.hold i no).L.length = x.L.length := List.length_set
theorem Cch.bytes_len (x : Cch) (i : Nat) (l : List UInt8) : (x.bytes i l).L.length = x.L.length := List.length_set
theorem Cch.use_len (x : Cch) (i : Nat) : (x.use i).L.length = x.L.length := List.length_set
theorem Cch.soil_len (x : Cch) (i : Nat) : (x.soil i).L.length = x.L.length := List.length_set
theorem Cch.wipe_len (x : Cch) (i : Nat) : (x.wipe i).L.length = x.L.length := List.length_set
theorem set_getD {L : List Frm} {i : Nat} (hi : i < L.length) (f : Frm) (j : Nat) : (L.set i f).getD j Frm.zero = if j = i then f else L.getD j Frm.zero := by
  simp only [List.getD_eq_getElem?_getD, List.getElem?_set]
  by_cases e : i = j
  · subst e; simp [hi]
  · rw [if_neg e, if_neg (fun h => e h.symm)]
section
variable {w w' : World} {G G' : Nat → Prop} {c bf p : Nat} {x y : Cch} {d d' : Dev}
theorem CD.mono (h : CD w G c bf p x d) (hG : ∀ k, k < w.heap.size → G k → G' k) (h1 : ¬ G' c) (h2 : ¬ G' bf) : CD w G' c bf p x d := by
  obtain ⟨bl, bm, S, D, hd⟩ := h.dev
  exact ⟨h.cache, ⟨bl, bm, S, D, hd.mono hG⟩, h1, h2⟩
/-- A block that is new is none of theirs. -/
theorem CD.far (h : CD w G c bf p x d) (hb : Below w.heap.size w w') {g : Nat} (hg : w.heap.size ≤ g) : CD w' (fun k => G k ∧ k ≠ g) c bf p x d := by
  have := h.mono (G' := fun k => G k ∧ k ≠ g) (fun k hk hgk => ⟨hgk, by omega⟩) (fun e => h.nc.1 e.1) (fun e => h.nc.2 e.1)
  exact this.below hb
theorem chold_any (h : CD w G c bf p x d) {i : Nat} (hi : i < x.L.length) (no : Int) : Calls Try.prog 47 #[frPtr bf (some i), .int .i64 no] w fun e w' => e = .returned (.tuple #[]) ∧ CD w' G c bf p (x.hold i no) d ∧ Only (fun k => k = c ∨ k = bf) w w' := by
  have hw := h.cache.wide.at_ hi
  refine (hold_any no (h.cache.f0 hi) (h.cache.f1 hi) (h.cache.freeF _) (h.cache.freeF _)).mono ?_
  rintro e w' ⟨rfl, rfl⟩
  have ho : Only (fun k => k = c ∨ k = bf) w ((w.setCell ⟨bf, i * 261, none⟩ (.bool true)).setCell ⟨bf, i * 261 + 1, none⟩ (.int .i64 no)) := (Only.setCell (p := ⟨bf, i * 261, none⟩) (.inr rfl) _).trans (Only.setCell (p := ⟨bf, i * 261 + 1, none⟩) (.inr rfl) _)
  refine ⟨rfl, h.turned ?_ ho, ho⟩
  have c1 := h.cache.set (i := i) (j := 0) (v := .bool true) hi (by omega) (frCells_set0 x.L[i] true) hw
  rw [Nat.add_zero] at c1
  have hi2 : i < (x.L.set i { x.L[i] with full := true }).length := by rw [List.length_set]; exact hi
  have e : (x.L.set i { x.L[i] with full := true })[i] = { x.L[i] with full := true } := by simp
  have c2 := c1.set (i := i) (j := 1) (v := .int .i64 no) (f := { x.L[i] with full := true, no := no }) hi2 (by omega) (by rw [e]; exact frCells_set1 _ no) hw
  have e2 : x.hold i no = { x with L := (x.L.set i { x.L[i] with full := true }).set i { x.L[i] with full := true, no := no } } := by
    unfold Cch.hold
    rw [List.set_set, getD_at hi]
  rw [e2]
  exact c2
theorem array_at (g o c : Nat) (w : World) : (Instr.arrayAt 92 (.slice (some ⟨g, o, none⟩) 256 c)).run Try.prog w = .ok (.pointer (some ⟨g, o, none⟩)) w := by simp [Instr.arrayAt, run_underlying Try.underlying92]
theorem info_csector : (Try.prog.info? 92).map (·.size) = some 256 := by kernel_rfl
set_option maxRecDepth 100000 in
/-- The bytes of frame i, stored. -/
theorem cstore_any (h : CD w G c bf p x d) {i : Nat} (hi : i < x.L.length) {l : List UInt8} (hl : l.length = 256) :
    ∃ w', (Instr.storeAt 92 (.pointer (some ⟨bf, i * 261 + 2, none⟩)) (.agg (cellsB l).toArray)).run Try.prog w = .ok () w' ∧ CD w' G c bf p (x.bytes i l) d ∧ Only (fun k => k = c ∨ k = bf) w w' := by
  have hlen : (cellsB l).length = 256 := by rw [cellsB_length, hl]
  have hall := chunks_length h.cache.wide.cells
  have hb : i * 261 + 261 ≤ (rows x.L).length := by
    have := Nat.mul_le_mul_right 261 (show i + 1 ≤ x.L.length by omega)
    unfold rows
    omega
  obtain ⟨w1, hrun, e1, e2, _⟩ := store_agg (P := Try.prog) h.cache.frs (cellsB_one l) (o := i * 261 + 2) (by omega) (ty := 92) (by rw [info_csector, hlen])
  have ho : Only (fun k => k = c ∨ k = bf) w w1 := Only.grown e2 fun g e => .inr (by injection e with e; exact e.symm)
  refine ⟨w1, hrun, h.turned ?_ ho, ho⟩
  have := h.cache.put (j := 2) hi (by omega) (frCells_putB (h.cache.wide.at_ hi) hl) hl e1 e2
  unfold Cch.bytes
  rw [getD_at hi]
  exact this
/-- Sector no, read into a frame that room was made in. -/
def Cch.read (x : Cch) (d : Dev) (no : Int) : Option Nat × Int × Cch × Dev :=
  match x.room d with
  | (none, e, y, dy) => (none, e, y, dy)
  | (some i, _, y, dy) => if dy.burns 1 = true then (none, 3, y, dy.burn 1) else (some i, 0, (y.hold i no).bytes i (dy.now no.toNat), dy.burn 1)
theorem turn_len (x : Cch) : x.turn.2.L.length = x.L.length := (core_same (turnGo_core (2 * x.L.length) x)).1
theorem write_dev (y : Cch) (d : Dev) (i : Nat) : (y.write d i).2.2.L.length = d.L.length ∧ (y.write d i).2.2.n ≤ d.n + 1 := by
  unfold Cch.write
  split
  · exact ⟨rfl, Nat.le_succ _⟩
  · exact ⟨rfl, Nat.le_refl _⟩
/-- What room made comes to: a frame, or an error. -/
theorem room_spec (x : Cch) (d : Dev) (hh : x.hand < x.L.length) : (x.room d).2.2.1.L.length = x.L.length ∧ (x.room d).2.2.2.L.length = d.L.length ∧ (x.room d).2.2.2.n ≤ d.n + 1 ∧
    ((∃ i, (x.room d).1 = some i ∧ (x.room d).2.1 = 0 ∧ i < x.L.length) ∨ ((x.room d).1 = none ∧ ((x.room d).2.1 = 3 ∨ (x.room d).2.1 = 11))) := by
  unfold Cch.room
  split
  · rename_i i he
    refine ⟨rfl, rfl, Nat.le_succ _, .inl ⟨i, rfl, rfl, ?_⟩⟩
    unfold Cch.empty at he
    rw [List.findIdx?_eq_some_iff_getElem] at he
    exact he.1
  · have hl := turn_len x
    have hs := turnGo_some (2 * x.L.length) x
    split
    · rename_i y ht
      rw [ht] at hl
      exact ⟨hl, rfl, Nat.le_succ _, .inr ⟨rfl, .inr rfl⟩⟩
    · rename_i i y ht
      rw [ht] at hl
      have ht' : turnGo (2 * x.L.length) x = (some i, y) := ht
      rw [ht'] at hs
      have hi := (hs i hh rfl).1
      have hW := write_dev y d i
      have hL := write_L y d i
      split
      · split
        · exact ⟨by rw [Cch.wipe_len, hL.1]; exact hl, hW.1, hW.2, .inl ⟨i, rfl, rfl, hi⟩⟩
        · rename_i h0
          exact ⟨by rw [hL.1]; exact hl, hW.1, hW.2, .inr ⟨rfl, (write_told y d i).elim (fun e => absurd e h0) .inl⟩⟩
      · exact ⟨by rw [Cch.wipe_len]; exact hl, rfl, Nat.le_succ _, .inl ⟨i, rfl, rfl, hi⟩⟩
set_option maxRecDepth 100000 in
set_option maxHeartbeats 400000 in
theorem cread_any (h : CD w G c bf p x d) (hr : x.Within d.L.length) (hn : d.n < 999999) (hG : ∀ k, w.heap.size ≤ k → G k) {no : Int} (hno : 0 ≤ no ∧ no < d.L.length) :
    Calls Try.prog 50 #[at0 c, .int .i64 no] w fun e w' => e = .returned (.tuple #[frPtr bf (x.read d no).1, .int .i64 (x.read d no).2.1]) ∧ CD w' G c bf p (x.read d no).2.2.1 (x.read d no).2.2.2 ∧ Only (Foot G c bf) w w' := by
  have hR := room_any h hr (by omega) hG
  obtain ⟨s1, s2, s3, s4⟩ := room_spec x d h.cache.hand
  obtain ⟨m, rfl⟩ : ∃ m : Nat, no = m := ⟨no.toNat, by omega⟩
  have hlt := h.lt
  obtain ⟨ro, re, y, dy, hroom⟩ : ∃ ro re y dy, x.room d = (ro, re, y, dy) := ⟨_, _, _, _, rfl⟩
  rw [hroom] at hR s1 s2 s3 s4
  rcases s4 with ⟨i, e1, e2, e3⟩ | ⟨e1, e2⟩
  · have e1 : ro = some i := e1
    have e2 : re = 0 := e2
    subst e1 e2
    have hyi : i < y.L.length := by have : y.L.length = x.L.length := s1; omega
    have hmd : m < dy.L.length := by have : dy.L.length = d.L.length := s2; omega
    have hdn : dy.n < 1000000 := by have : dy.n ≤ d.n + 1 := s3; omega
    have hread : x.read d (m : Int) = if dy.burns 1 = true then (none, 3, y, dy.burn 1) else (some i, 0, (y.hold i m).bytes i (dy.now m), dy.burn 1) := by
      unfold Cch.read
      rw [hroom]
      simp only [Int.toNat_natCast]
    rw [hread]
    have hR2 : Calls Try.prog 46 #[at0 c] w fun e w' => e = .returned (.tuple #[frAt bf (i * 261), .int .i64 0]) ∧ CD w' G c bf p y dy ∧ Only (Foot G c bf) w w' := hR
    have HR := Lib.hid hR2
    rcases hb : dy.burns 1 with _ | _
    · rw [if_neg (by simp)]
      rw [show frPtr bf (some i, (0 : Int), (y.hold i m).bytes i (dy.now m), dy.burn 1).1 = frAt bf (i * 261) from rfl]
      have hRd : ∀ w1, CD w1 G c bf p y dy → Only (Foot G c bf) w w1 → Calls Try.prog 20 #[at0 p, .int .i64 (m : Int)] w1 fun e w' => ∃ g, e = .returned (.tuple #[.slice (some ⟨g, 0, none⟩) 256 256, .int .i64 0]) ∧ w'.rangeAt g 0 (cellsB (dy.now m)) ∧ g ≠ c ∧ g ≠ bf ∧ g < w'.heap.size ∧ CD w' G c bf p y (dy.burn 1) ∧ Only (Foot G c bf) w w' := by
        intro w1 h1 ho1
        obtain ⟨bl, bm, S, D, hd⟩ := h1.dev
        refine (read_ok hd hmd hb hdn).mono ?_
        rintro e w' ⟨g, rfl, hg, hgs, hd', ho⟩
        have hl1 := h1.lt
        exact ⟨g, rfl, range_new hg, by omega, by omega, (Array.getElem?_eq_some_iff.1 hg).1, h1.moved hd' ho, ho1.trans ho.device⟩
      have hnow : (dy.now m).length = 256 ∨ ¬ ∃ w1, CD w1 G c bf p y dy := by
        by_cases he : ∃ w1, CD w1 G c bf p y dy
        · obtain ⟨w1, h1⟩ := he
          obtain ⟨bl, bm, S, D, hd⟩ := h1.dev
          exact .inl (Dev.now_wide hd hmd)
        · exact .inr he
      obtain ⟨l, hl⟩ : ∃ l, l = dy.now m := ⟨_, rfl⟩
      rw [← hl] at hRd hnow ⊢
      have hH : ∀ w2, CD w2 G c bf p y (dy.burn 1) → Calls Try.prog 47 #[frAt bf (i * 261), .int .i64 (m : Int)] w2 fun e w' => e = .returned (.tuple #[]) ∧ CD w' G c bf p (y.hold i m) (dy.burn 1) ∧ Only (fun k => k = c ∨ k = bf) w2 w' := fun w2 h2 => chold_any h2 hyi _
      have hS : ∀ w3, CD w3 G c bf p (y.hold i m) (dy.burn 1) → l.length = 256 → ∃ w', (Instr.storeAt 92 (.pointer (some ⟨bf, i * 261 + 2, none⟩)) (.agg (cellsB l).toArray)).run Try.prog w3 = .ok () w' ∧ CD w' G c bf p ((y.hold i m).bytes i l) (dy.burn 1) ∧ Only (fun k => k = c ∨ k = bf) w3 w' := fun w3 h3 hl => cstore_any h3 (by rw [Cch.hold_len]; exact hyi) hl
      have hI : l.length = 256 → (Try.prog.info? 92).map (·.size) = some (cellsB l).length := fun hl => by rw [info_csector, cellsB_length, hl]
      obtain ⟨y2, hy2⟩ : ∃ y2, y2 = y.hold i m := ⟨_, rfl⟩
      rw [← hy2] at hH hS ⊢
      obtain ⟨d2, hd2⟩ : ∃ d2, d2 = dy.burn 1 := ⟨_, rfl⟩
      rw [← hd2] at hRd hH hS ⊢
      obtain ⟨y3, hy3⟩ : ∃ y3, y3 = y2.bytes i l := ⟨_, rfl⟩
      rw [← hy3] at hS ⊢
      have HRd := Lib.hid hRd
      have Hnow := Lib.hid hnow
      have HH := Lib.hid hH
      have HS := Lib.hid hS
      have HI := Lib.hid hI
      clear hR hR2 h hroom hread hRd hnow hH hS hI hl hb hmd hdn hyi hy2 hd2 hy3 e3 s1 s2 s3 hno hn hr
      go_enter Try.func50, Try.ntmps50
      go_wp2_with (first
        | (go_at_call 46; refine HR.out.mono ?_; rintro e w1 ⟨rfl, h1, ho1⟩; have k2 := h1.k2; have H1 := Lib.hid h1; have Ho1 := Lib.hid ho1; clear h1 ho1)
        | (go_at_call 20; refine (HRd.out _ H1.out Ho1.out).mono ?_; rintro e w2 ⟨g, rfl, hg, hgc, hgb, hgl, h2, ho2⟩; have hl := Hnow.out.resolve_right (fun hh => hh ⟨_, H1.out⟩); have Hg := Lib.hid hg; have H2 := Lib.hid h2; have Ho2 := Lib.hid ho2; have Hl := Kept.mk hl; clear hg h2 ho2 hl)
        | (go_at_call 47; refine (HH.out _ H2.out).mono ?_; rintro e w3 ⟨rfl, h3, ho3⟩; obtain ⟨w4, hrun, h4, ho4⟩ := HS.out _ h3 Hl.out; have harr := array_at g 0 256 w3; have hrw : w3.rangeAt g 0 (cellsB l) := (fun j v hv => (World.cell?_of_block (ho3.block g hgl (fun e => e.elim hgc hgb))).trans (Hg.out j v hv)); have Hrw := Lib.hid hrw; have Hrun := Lib.hid hrun; have H4 := Lib.hid h4; have Ho4 := Lib.hid ((Ho2.out.trans ho3.cache).trans ho4.cache); have I1 := Lib.hid (HI.out Hl.out); clear h3 ho3 hrun h4 ho4 hrw)
        | ((with_reducible refine wpList_load_mid (op := ⟨some 35, .load 92 (.tmp 34), _, _, _, _⟩) rfl 92 (.tmp 34) rfl g 0 ?_ (cellsB l) (.array 256 5) Hrw.out Try.underlying92 rfl I1.out ?_); exact rfl)
        | ((with_reducible refine wpList_stored (o := ⟨none, .store 92 (.tmp 37) (.tmp 35), _, _, _, none⟩) rfl 92 (.tmp 37) (.tmp 35) rfl (.pointer (some ⟨bf, i * 261 + 2, none⟩)) (.agg (cellsB l).toArray) ?_ ?_ w4 Hrun.out ?_); exact rfl; exact rfl))
      go_ret2
      exact ⟨rfl, H4.out, Ho4.out⟩
    · rw [if_pos rfl]
      have hRd : ∀ w1, CD w1 G c bf p y dy → Only (Foot G c bf) w w1 → Calls Try.prog 20 #[at0 p, .int .i64 (m : Int)] w1 fun e w' => e = .returned (.tuple #[.slice none 0 0, .int .i64 3]) ∧ CD w' G c bf p y (dy.burn 1) ∧ Only (Foot G c bf) w w' := by
        intro w1 h1 ho1
        obtain ⟨bl, bm, S, D, hd⟩ := h1.dev
        refine (read_io hd hmd hb).mono ?_
        rintro e w' ⟨rfl, hd', ho⟩
        exact ⟨rfl, h1.moved hd' ho, ho1.trans ho.device⟩
      have HRd := Lib.hid hRd
      clear hR hR2 h hroom hread hRd hb hmd hdn hyi e3 s1 s2 s3 hno hn hr
      go_enter Try.func50, Try.ntmps50
      go_wp2_with (first
        | (go_at_call 46; refine HR.out.mono ?_; rintro e w1 ⟨rfl, h1, ho1⟩; have k2 := h1.k2; have H1 := Lib.hid h1; have Ho1 := Lib.hid ho1; clear h1 ho1)
        | (go_at_call 20; refine (HRd.out _ H1.out Ho1.out).mono ?_; rintro e w2 ⟨rfl, h2, ho2⟩; have H2 := Lib.hid h2; have Ho2 := Lib.hid ho2; clear h2 ho2))
      go_ret2
      exact ⟨rfl, H2.out, Ho2.out⟩
  · have e1 : ro = none := e1
    subst e1
    have e2 : re = 3 ∨ re = 11 := e2
    have hread : x.read d (m : Int) = (none, re, y, dy) := by
      unfold Cch.read
      rw [hroom]
    rw [hread]
    have hR2 : Calls Try.prog 46 #[at0 c] w fun e w' => e = .returned (.tuple #[.pointer none, .int .i64 re]) ∧ CD w' G c bf p y dy ∧ Only (Foot G c bf) w w' := hR
    have HR := Lib.hid hR2
    clear hR hR2 h hroom hread s1 s2 s3 hno hn hr
    rcases e2 with rfl | rfl
    · go_enter Try.func50, Try.ntmps50
      go_wp2_with (first
        | (go_at_call 46; refine HR.out.mono ?_; rintro e w1 ⟨rfl, h1, ho1⟩; have H1 := Lib.hid h1; have Ho1 := Lib.hid ho1; clear h1 ho1))
      go_ret2
      exact ⟨rfl, H1.out, Ho1.out⟩
    · go_enter Try.func50, Try.ntmps50
      go_wp2_with (first
        | (go_at_call 46; refine HR.out.mono ?_; rintro e w1 ⟨rfl, h1, ho1⟩; have H1 := Lib.hid h1; have Ho1 := Lib.hid ho1; clear h1 ho1))
      go_ret2
      exact ⟨rfl, H1.out, Ho1.out⟩
end
end Go.Proofs.Ytfjcblppmoomdaa
