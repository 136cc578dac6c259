/-
  Put of a cache: its contract.
-/
import Derived.Test.YtfjcblppmoomdaaCacheF
namespace Go.Proofs.Ytfjcblppmoomdaa
open Go.RowKit
section
variable {w w' : World} {G G' : Nat → Prop} {c bf p : Nat} {x y : Cch} {d d' : Dev}
set_option maxRecDepth 100000 in
theorem put_out (h : CD w G c bf p x d) {no : Int} (hno : ¬ (0 ≤ no ∧ no < d.L.length)) (A : Option Addr) (cc : Nat) : Calls Try.prog 22 #[at0 c, .int .i64 no, .slice A 256 cc] w fun e w' => e = .returned (.int .i64 1) ∧ w = w' := by
  obtain ⟨bl, bm, S, D, hd⟩ := h.dev
  have hh := has_cache no h.k2 hd.c8
  rw [decide_eq_false hno] at hh
  have Hh := Lib.hid hh
  clear h hh hd hno
  go_enter Try.func22, Try.ntmps22
  go_wp2_with (go_at_call 44; refine Hh.out.mono ?_; rintro e w1 ⟨rfl, rfl⟩)
  go_ret
  exact ⟨rfl, rfl⟩
set_option maxRecDepth 100000 in
theorem put_nil (no : Int) (A : Option Addr) (cc : Nat) (w : World) : Calls Try.prog 22 #[.pointer none, .int .i64 no, .slice A 256 cc] w fun e w' => e = .returned (.int .i64 1) ∧ w = w' := by
  go_enter Try.func22, Try.ntmps22
  go_wp2_with (go_at_call 44; refine (has_cache_nil _ _).mono ?_; rintro e w1 ⟨rfl, rfl⟩)
  go_ret
  exact ⟨rfl, rfl⟩
/-- The last steps of Put: all that they need of frame i, and what they leave. -/
theorem put_tail {w0 : World} (h : CD w G c bf p x d) (ho : Only (Foot G c bf) w0 w) {i : Nat} (hi : i < x.L.length) {l : List UInt8} (hl : l.length = 256) : ∃ w2 b1 b2, (Instr.storeAt 92 (.pointer (some ⟨bf, i * 261 + 2, none⟩)) (.agg (cellsB l).toArray)).run Try.prog w = .ok () w2 ∧
    w2.cell? ⟨bf, i * 261 + 258, none⟩ = some (.bool b1) ∧ w2.frozen? ⟨bf, i * 261 + 258, none⟩ = false ∧ w2.cell? ⟨bf, i * 261 + 259, none⟩ = some (.bool b2) ∧ w2.frozen? ⟨bf, i * 261 + 259, none⟩ = false ∧
    CD ((w2.setCell ⟨bf, i * 261 + 258, none⟩ (.bool true)).setCell ⟨bf, i * 261 + 259, none⟩ (.bool true)) G c bf p (((x.bytes i l).soil i).use i) d ∧ Only (Foot G c bf) w0 ((w2.setCell ⟨bf, i * 261 + 258, none⟩ (.bool true)).setCell ⟨bf, i * 261 + 259, none⟩ (.bool true)) := by
  obtain ⟨w2, hrun, h2, ho2⟩ := cstore_any h hi hl
  have hi2 : i < (x.bytes i l).L.length := by rw [Cch.bytes_len]; exact hi
  obtain ⟨h3, ho3⟩ := csoil_any h2 hi2
  have hi3 : i < ((x.bytes i l).soil i).L.length := by rw [Cch.soil_len]; exact hi2
  obtain ⟨h4, ho4⟩ := cuse_any h3 hi3
  exact ⟨w2, _, _, hrun, h2.cache.f258 hi2, h2.cache.freeF _, h2.cache.f259 hi2, h2.cache.freeF _, h4, ((ho.trans ho2.cache).trans ho3.cache).trans ho4.cache⟩
set_option maxRecDepth 100000 in
set_option maxHeartbeats 800000 in
theorem put_hit (h : CD w G c bf p x d) {no : Int} (hno : 0 ≤ no ∧ no < d.L.length) {i : Nat} (he : x.holder no = some i) {bb bo cc : Nat} {l : List UInt8} (hl : l.length = 256) (hrw : w.rangeAt bb bo (cellsB l)) :
    Calls Try.prog 22 #[at0 c, .int .i64 no, .slice (some ⟨bb, bo, none⟩) 256 cc] w fun e w' => e = .returned (.int .i64 0) ∧ CD w' G c bf p (((x.bytes i l).soil i).use i) d ∧ Only (Foot G c bf) w w' := by
  obtain ⟨bl, bm, S, D, hd⟩ := h.dev
  have hh := has_cache no h.k2 hd.c8
  rw [decide_eq_true hno] at hh
  have Hh := Lib.hid hh
  have hE := holder_any h.cache no
  have hi := (holder_lt he).1
  rw [he] at hE
  have HE : Hid (Calls Try.prog 45 #[at0 c, .int .i64 no] w fun e w' => e = .returned (frAt bf (i * 261)) ∧ w = w') := Lib.hid hE
  obtain ⟨w2, b1, b2, hrun, t1, t2, t3, t4, t5, t6⟩ := put_tail (w0 := w) h (Only.refl _ _) hi hl
  have Hrun := Lib.hid hrun
  have H5 := Lib.hid t5
  have H6 := Lib.hid t6
  have Hrw := Lib.hid hrw
  have I1 := Kept.mk (show (Try.prog.info? 92).map (·.size) = some (cellsB l).length by rw [info_csector, cellsB_length, hl])
  have harr := array_at bb bo cc w
  clear h hh hd hE he hno hrun t5 t6 hrw hl hi
  go_enter Try.func22, Try.ntmps22
  go_wp2_with (first
    | (go_at_call 44; refine Hh.out.mono ?_; rintro e w1 ⟨rfl, rfl⟩)
    | (go_at_call 45; refine HE.out.mono ?_; rintro e w1 ⟨rfl, rfl⟩)
    | ((with_reducible refine wpList_load_mid (op := ⟨some 39, .load 92 (.tmp 38), _, _, _, _⟩) rfl 92 (.tmp 38) rfl bb bo ?_ (cellsB l) (.array 256 5) Hrw.out Try.underlying92 rfl I1.out ?_); exact rfl)
    | ((with_reducible refine wpList_stored (o := ⟨none, .store 92 (.tmp 41) (.tmp 39), _, _, _, none⟩) rfl 92 (.tmp 41) (.tmp 39) rfl (.pointer (some ⟨bf, i * 261 + 2, none⟩)) (.agg (cellsB l).toArray) ?_ ?_ w2 Hrun.out ?_); exact rfl; exact rfl))
  go_ret
  exact ⟨rfl, H5.out, H6.out⟩
set_option maxRecDepth 100000 in
set_option maxHeartbeats 800000 in
theorem put_miss (h : CD w G c bf p x d) (hr : x.Within d.L.length) (hn : d.n < 999999) (hG : ∀ k, w.heap.size ≤ k → G k) {no : Int} (hno : 0 ≤ no ∧ no < d.L.length) (he : x.holder no = none) {i : Nat} {e0 : Int} {dy : Dev} (hrd : x.room d = (some i, e0, y, dy))
    {bb bo cc : Nat} {l : List UInt8} (hl : l.length = 256) (hrw : w.rangeAt bb bo (cellsB l)) (hbb : bb < w.heap.size) (hbG : ¬ Foot G c bf bb) :
    Calls Try.prog 22 #[at0 c, .int .i64 no, .slice (some ⟨bb, bo, none⟩) 256 cc] w fun e w' => e = .returned (.int .i64 0) ∧ CD w' G c bf p ((((y.hold i no).bytes i l).soil i).use i) dy ∧ Only (Foot G c bf) w w' := by
  obtain ⟨bl, bm, S, D, hd⟩ := h.dev
  have hh := has_cache no h.k2 hd.c8
  rw [decide_eq_true hno] at hh
  have Hh := Lib.hid hh
  have hE := holder_any h.cache no
  rw [he] at hE
  have HE : Hid (Calls Try.prog 45 #[at0 c, .int .i64 no] w fun e w' => e = .returned (.pointer none) ∧ w = w') := Lib.hid hE
  have hR := room_any h hr (by omega) hG
  obtain ⟨s1, s2, s3, s4⟩ := room_spec x d h.cache.hand
  rw [hrd] at hR s1 s2 s3 s4
  have s1 : y.L.length = x.L.length := s1
  have e0' : e0 = 0 ∧ i < x.L.length := by
    rcases s4 with ⟨j, a, b, q⟩ | ⟨a, _⟩
    · injection a with a; subst a; exact ⟨b, q⟩
    · cases a
  obtain ⟨rfl, hix⟩ := e0'
  have hi : i < y.L.length := by omega
  have HR : Hid (Calls Try.prog 46 #[at0 c] w fun e w' => e = .returned (.tuple #[frAt bf (i * 261), .int .i64 0]) ∧ CD w' G c bf p y dy ∧ Only (Foot G c bf) w w') := Lib.hid hR
  have HH : Hid (∀ w1, CD w1 G c bf p y dy → Only (Foot G c bf) w w1 → Calls Try.prog 47 #[frAt bf (i * 261), .int .i64 no] w1 fun e w' => e = .returned (.tuple #[]) ∧ w'.rangeAt bb bo (cellsB l) ∧ ∃ w2 b1 b2, (Instr.storeAt 92 (.pointer (some ⟨bf, i * 261 + 2, none⟩)) (.agg (cellsB l).toArray)).run Try.prog w' = .ok () w2 ∧
    w2.cell? ⟨bf, i * 261 + 258, none⟩ = some (.bool b1) ∧ w2.frozen? ⟨bf, i * 261 + 258, none⟩ = false ∧ w2.cell? ⟨bf, i * 261 + 259, none⟩ = some (.bool b2) ∧ w2.frozen? ⟨bf, i * 261 + 259, none⟩ = false ∧
    CD ((w2.setCell ⟨bf, i * 261 + 258, none⟩ (.bool true)).setCell ⟨bf, i * 261 + 259, none⟩ (.bool true)) G c bf p ((((y.hold i no).bytes i l).soil i).use i) dy ∧ Only (Foot G c bf) w ((w2.setCell ⟨bf, i * 261 + 258, none⟩ (.bool true)).setCell ⟨bf, i * 261 + 259, none⟩ (.bool true))) := Lib.hid fun w1 h1 ho1 => by
    refine (chold_any h1 hi no).mono ?_
    rintro e w' ⟨rfl, h2, ho2⟩
    have ho3 : Only (Foot G c bf) w w' := ho1.trans ho2.cache
    refine ⟨rfl, fun j v hv => (World.cell?_of_block (ho3.block bb hbb hbG)).trans (hrw j v hv), ?_⟩
    exact put_tail (w0 := w) h2 ho3 (by rw [Cch.hold_len]; exact hi) hl
  have I1 := Kept.mk (show (Try.prog.info? 92).map (·.size) = some (cellsB l).length by rw [info_csector, cellsB_length, hl])
  clear h hh hd hE he hno hR s1 s2 s3 s4 hrd hr hix hn hrw hl hi hbb hbG
  go_enter Try.func22, Try.ntmps22
  go_wp2_with (first
    | (go_at_call 44; refine Hh.out.mono ?_; rintro e w1 ⟨rfl, rfl⟩)
    | (go_at_call 45; refine HE.out.mono ?_; rintro e w1 ⟨rfl, rfl⟩)
    | (go_at_call 46; refine HR.out.mono ?_; rintro e w1 ⟨rfl, h1, ho1⟩; have H1 := Lib.hid h1; have Ho1 := Lib.hid ho1; clear h1 ho1)
    | (go_at_call 47; refine (HH.out _ H1.out Ho1.out).mono ?_; rintro e w2 ⟨rfl, hrw, w3, b1, b2, hrun, t1, t2, t3, t4, t5, t6⟩; have Hrun := Lib.hid hrun; have H5 := Lib.hid t5; have H6 := Lib.hid t6; have Hrw := Lib.hid hrw; have harr := array_at bb bo cc w2; clear hrun t5 t6 hrw)
    | ((with_reducible refine wpList_load_mid (op := ⟨some 39, .load 92 (.tmp 38), _, _, _, _⟩) rfl 92 (.tmp 38) rfl bb bo ?_ (cellsB l) (.array 256 5) Hrw.out Try.underlying92 rfl I1.out ?_); exact rfl)
    | ((with_reducible refine wpList_stored (o := ⟨none, .store 92 (.tmp 41) (.tmp 39), _, _, _, none⟩) rfl 92 (.tmp 41) (.tmp 39) rfl (.pointer (some ⟨bf, i * 261 + 2, none⟩)) (.agg (cellsB l).toArray) ?_ ?_ w3 Hrun.out ?_); exact rfl; exact rfl))
  go_ret
  exact ⟨rfl, H5.out, H6.out⟩
set_option maxRecDepth 100000 in
set_option maxHeartbeats 800000 in
theorem put_fail (h : CD w G c bf p x d) (hr : x.Within d.L.length) (hn : d.n < 999999) (hG : ∀ k, w.heap.size ≤ k → G k) {no : Int} (hno : 0 ≤ no ∧ no < d.L.length) (he : x.holder no = none) {e0 : Int} {dy : Dev} (hrd : x.room d = (none, e0, y, dy)) (A : Option Addr) (cc : Nat) :
    Calls Try.prog 22 #[at0 c, .int .i64 no, .slice A 256 cc] w fun e w' => e = .returned (.int .i64 e0) ∧ CD w' G c bf p y dy ∧ Only (Foot G c bf) w w' := by
  obtain ⟨bl, bm, S, D, hd⟩ := h.dev
  have hh := has_cache no h.k2 hd.c8
  rw [decide_eq_true hno] at hh
  have Hh := Lib.hid hh
  have hE := holder_any h.cache no
  rw [he] at hE
  have HE : Hid (Calls Try.prog 45 #[at0 c, .int .i64 no] w fun e w' => e = .returned (.pointer none) ∧ w = w') := Lib.hid hE
  have hR := room_any h hr (by omega) hG
  obtain ⟨s1, s2, s3, s4⟩ := room_spec x d h.cache.hand
  rw [hrd] at hR s4
  have e0' : e0 = 3 ∨ e0 = 11 := by
    rcases s4 with ⟨j, a, _⟩ | ⟨_, b⟩
    · cases a
    · exact b
  have HR : Hid (Calls Try.prog 46 #[at0 c] w fun e w' => e = .returned (.tuple #[.pointer none, .int .i64 e0]) ∧ CD w' G c bf p y dy ∧ Only (Foot G c bf) w w') := Lib.hid hR
  clear h hh hd hE he hno hR s1 s2 s3 s4 hrd hr hn
  rcases e0' with rfl | rfl
  all_goals
    go_enter Try.func22, Try.ntmps22
    go_wp2_with (first
      | (go_at_call 44; refine Hh.out.mono ?_; rintro e w1 ⟨rfl, rfl⟩)
      | (go_at_call 45; refine HE.out.mono ?_; rintro e w1 ⟨rfl, rfl⟩)
      | (go_at_call 46; refine HR.out.mono ?_; rintro e w1 ⟨rfl, h1, ho1⟩; have H1 := Lib.hid h1; have Ho1 := Lib.hid ho1; clear h1 ho1))
    go_ret
    exact ⟨rfl, H1.out, Ho1.out⟩
theorem put_any (h : CD w G c bf p x d) (hr : x.Within d.L.length) (hn : d.n < 999999) (hG : ∀ k, w.heap.size ≤ k → G k) (no : Int) {bb bo cc : Nat} {l : List UInt8} (hl : l.length = 256) (hrw : w.rangeAt bb bo (cellsB l)) (hbb : bb < w.heap.size) (hbG : ¬ Foot G c bf bb) :
    Calls Try.prog 22 #[at0 c, .int .i64 no, .slice (some ⟨bb, bo, none⟩) 256 cc] w fun e w' => e = .returned (.int .i64 (x.put d no l).1) ∧ CD w' G c bf p (x.put d no l).2.1 (x.put d no l).2.2 ∧ Only (Foot G c bf) w w' := by
  by_cases hno : 0 ≤ no ∧ no < d.L.length
  · rcases he : x.holder no with _ | i
    · rcases hrd : x.room d with ⟨_ | i, e0, y, dy⟩
      · have e : x.put d no l = (e0, y, dy) := by unfold Cch.put; rw [if_pos hno, he]; simp only [hrd]
        rw [e]
        exact put_fail h hr hn hG hno he hrd _ _
      · have e : x.put d no l = (0, (((y.hold i no).bytes i l).soil i).use i, dy) := by unfold Cch.put; rw [if_pos hno, he]; simp only [hrd]
        rw [e]
        exact put_miss h hr hn hG hno he hrd hl hrw hbb hbG
    · have e : x.put d no l = (0, ((x.bytes i l).soil i).use i, d) := by unfold Cch.put; rw [if_pos hno, he]
      rw [e]
      exact put_hit h hno he hl hrw
  · have e : x.put d no l = (1, x, d) := by unfold Cch.put; rw [if_neg hno]
    rw [e]
    refine (put_out h hno _ _).mono ?_
    rintro e w' ⟨rfl, rfl⟩
    exact ⟨rfl, h, Only.refl _ _⟩
end
end Go.Proofs.Ytfjcblppmoomdaa
