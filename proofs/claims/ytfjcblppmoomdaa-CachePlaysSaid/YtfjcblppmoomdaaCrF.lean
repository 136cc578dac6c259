/-
  The document's cache: Get: contracts, one a way.
  The document's cache: Get of what is not held: contracts, one a way.
-/
import Derived.Test.YtfjcblppmoomdaaCrD
namespace Go.Proofs.Ytfjcblppmoomdaa
open Go.RowKit
section
variable {w w' : World} {E E' : Nat → Prop} {q r bf cap : Nat} {rest : List Value} {P : List (Frm × Value)} {x : Cch} {d d' : Dev}
/-- How many sectors the device has. -/
theorem CDR.sectors (h : CDR w E q r bf cap rest x d) : ∃ A c, w.cell? ⟨q, 0, none⟩ = some (.slice A d.L.length c) := by
  obtain ⟨vL, vA, vB, ls, bs, y, hr, hl⟩ := h.dev
  obtain ⟨A, c, _, c0, _⟩ := hr.last_at
  exact ⟨A, c, by rw [hl.L]; exact c0⟩
set_option maxRecDepth 100000 in
theorem rget_arg (h : CDR w E q r bf cap rest x d) {no : Int} (hno : no < 0 ∨ (d.L.length : Int) ≤ no) :
    Calls Try.prog 35 #[at0 r, .int .i64 no] w fun e w' => (∃ a, e = .returned (.tuple #[.slice (some a) 0 0, .int .i64 1])) ∧ CDR w' E q r bf cap rest x d ∧ Only E w w' := by
  obtain ⟨A, c, c0⟩ := h.sectors
  obtain ⟨k0, _⟩ := h.cells
  obtain ⟨n, hn⟩ : ∃ n, n = d.L.length := ⟨_, rfl⟩
  rw [← hn] at c0 hno
  have H := Lib.hid h
  clear h hn
  by_cases h0 : no < 0
  · have t0 : decide (no < 0) = true := by simp [h0]
    go_enter Try.func35, Try.ntmps35
    go_wp2_with fail
    go_ret2
    exact ⟨⟨_, rfl⟩, H.out.below ((Below.refl _ _).alloc (Nat.le_refl _) _), Only.alloc _ _ _⟩
  · have t0 : decide (no < 0) = false := by simp; omega
    have t1 : decide ((n : Int) ≤ no) = true := by simp; omega
    go_enter Try.func35, Try.ntmps35
    go_wp2_with fail
    go_ret2
    exact ⟨⟨_, rfl⟩, H.out.below ((Below.refl _ _).alloc (Nat.le_refl _) _), Only.alloc _ _ _⟩
/-- Frame i is used, and its bytes are told. -/
theorem CDR.tail (h : CDR w E q r bf cap rest x d) {i : Nat} (hi : i < x.L.length) (hf : (x.fr i).full = true) : CDR (w.setCell ⟨bf, i * 5 + 3, none⟩ (.bool true)) E q r bf cap rest (x.use i) d ∧ Only E w (w.setCell ⟨bf, i * 5 + 3, none⟩ (.bool true)) ∧
    ∃ gu cu, (w.setCell ⟨bf, i * 5 + 3, none⟩ (.bool true)).cell? ⟨bf, i * 5 + 4, none⟩ = some (.slice (some ⟨gu, 0, none⟩) 256 cu) ∧ SecIs (w.setCell ⟨bf, i * 5 + 3, none⟩ (.bool true)) E (.slice (some ⟨gu, 0, none⟩) 256 cu) (x.fr i).b := by
  obtain ⟨h1, h2⟩ := h.uses hi true
  have h3 : CDR (w.setCell ⟨bf, i * 5 + 3, none⟩ (.bool true)) E q r bf cap rest (x.use i) d := h1
  have e : (x.use i).fr i = { x.fr i with used := true } := by
    unfold Cch.fr
    rw [getD_at (show i < (x.use i).L.length by rw [Cch.use_len]; exact hi)]
    unfold Cch.use
    simp
  obtain ⟨gu, cu, a, b⟩ := h3.bytes (i := i) (by rw [Cch.use_len]; exact hi) (by rw [e]; exact hf)
  rw [e] at b
  exact ⟨h3, h2, gu, cu, a, b⟩
set_option maxRecDepth 100000 in
theorem rget_hit (h : CDR w E q r bf cap rest x d) (hok : x.Ok d.L.length) {no : Int} (hno : 0 ≤ no ∧ no < d.L.length) {i : Nat} (hh : x.holder no = some i) :
    Calls Try.prog 35 #[at0 r, .int .i64 no] w fun e w' => ∃ gu cu, e = .returned (.tuple #[.slice (some ⟨gu, 0, none⟩) 256 cu, .int .i64 0]) ∧ SecIs w' E (.slice (some ⟨gu, 0, none⟩) 256 cu) (x.fr i).b ∧ CDR w' E q r bf cap rest (x.use i) d ∧ Only E w w' := by
  have hA := h.at_ hok no
  rw [hh] at hA
  obtain ⟨hi, hf, _⟩ := holder_lt hh
  obtain ⟨A, c, c0⟩ := h.sectors
  obtain ⟨k0, k1, _, _, ff, _, hs2, _⟩ := h.cells
  obtain ⟨_, _, _, c3⟩ := h.frame hi
  obtain ⟨h1, h2, gu, cu, c4, hs⟩ := h.tail hi hf
  obtain ⟨_, kk1, _, _, _, _, _, _⟩ := h1.cells
  rw [Cch.use_len] at kk1
  have f3 := ff (i * 5 + 3)
  obtain ⟨n, hn⟩ : ∃ n, n = d.L.length := ⟨_, rfl⟩
  rw [← hn] at c0 hno
  obtain ⟨n', hn'⟩ : ∃ n', n' = x.L.length := ⟨_, rfl⟩
  rw [← hn'] at k1 kk1 hs2
  have hin : i < n' := by rw [hn']; exact hi
  have b0 : (0 : Int) ≤ (i : Int) := by omega
  have b1 : (i : Int) < (n' : Int) := by omega
  have b2 : ((i : Int)).toNat = i := by omega
  have t0 : decide (no < 0) = false := by simp; omega
  have t1 : decide ((n : Int) ≤ no) = false := by simp; omega
  have t2 : decide ((i : Int) < 0) = false := by simp
  rw [show atOf (some i) = (i : Int) from rfl] at hA
  obtain ⟨us, hus⟩ : ∃ us, us = (x.fr i).used := ⟨_, rfl⟩
  rw [← hus] at c3
  have HA := Lib.hid hA
  have H1 := Lib.hid h1
  have H2 := Lib.hid h2
  have HS := Lib.hid hs
  clear hA h1 h2 hs h hok hh hf ff hn hn' hi hus
  go_enter Try.func35, Try.ntmps35
  go_wp2_with (first | (go_at_call 38; refine HA.out.mono ?_; rintro e w1 ⟨rfl, rfl⟩))
  go_ret2
  exact ⟨_, _, rfl, HS.out, H1.out, H2.out⟩
end
section
variable {w w' : World} {E E' : Nat → Prop} {q r bf cap : Nat} {rest : List Value} {P : List (Frm × Value)} {x : Cch} {d d' : Dev}
set_option maxRecDepth 100000 in
theorem rget_full (h : CDR w E q r bf cap rest x d) (hok : x.Ok d.L.length) (hn : d.n < 1000000) (hE : ∀ k, w.heap.size ≤ k → E k) {no : Int} (hno : 0 ≤ no ∧ no < d.L.length) (hh : x.holder no = none) {e0 : Int} {y : Cch} {dy : Dev} (hr : x.room d = (none, e0, y, dy)) (he : e0 = 3 ∨ e0 = 11) :
    Calls Try.prog 35 #[at0 r, .int .i64 no] w fun e w' => (∃ a, e = .returned (.tuple #[.slice (some a) 0 0, .int .i64 e0])) ∧ CDR w' E q r bf cap rest y dy ∧ Only E w w' := by
  have hA := h.at_ hok no
  rw [hh] at hA
  have hR := rroom_any h hok hn hE
  rw [hr] at hR
  obtain ⟨A, c, c0⟩ := h.sectors
  obtain ⟨k0, _⟩ := h.cells
  obtain ⟨n, hnn⟩ : ∃ n, n = d.L.length := ⟨_, rfl⟩
  rw [← hnn] at c0 hno
  have t0 : decide (no < 0) = false := by simp; omega
  have t1 : decide ((n : Int) ≤ no) = false := by simp; omega
  have HA : Hid (Calls Try.prog 38 #[at0 r, .int .i64 no] w fun e w' => e = .returned (.int .i64 (-1)) ∧ w = w') := Lib.hid hA
  have HR : Hid (Calls Try.prog 56 #[at0 r] w fun e w' => e = .returned (.tuple #[.int .i64 (-1), .int .i64 e0]) ∧ CDR w' E q r bf cap rest y dy ∧ Only E w w') := Lib.hid hR
  clear hA hR h hok hn hE hh hr hnn
  have hem : ∀ w1, CDR w1 E q r bf cap rest y dy → Only E w w1 → CDR (w1.alloc (.cells #[] 5)) E q r bf cap rest y dy ∧ Only E w (w1.alloc (.cells #[] 5)) := fun w1 h1 h2 => ⟨h1.below ((Below.refl _ _).alloc (Nat.le_refl _) _), h2.trans (Only.alloc _ _ _)⟩
  have Hem := Lib.hid hem
  clear hem
  rcases he with rfl | rfl
  all_goals
    go_enter Try.func35, Try.ntmps35
    go_wp2_with (first
      | (go_at_call 38; refine HA.out.mono ?_; rintro e w1 ⟨rfl, rfl⟩)
      | (go_at_call 56; refine HR.out.mono ?_; rintro e w1 ⟨rfl, hc1, ho1⟩; obtain ⟨h3, h4⟩ := Hem.out w1 hc1 ho1; have H3 := Lib.hid h3; have H4 := Lib.hid h4; clear h3 h4 hc1 ho1))
    go_ret2
    exact ⟨⟨_, rfl⟩, H3.out, H4.out⟩
set_option maxRecDepth 100000 in
theorem rget_bad (h : CDR w E q r bf cap rest x d) (hok : x.Ok d.L.length) (hn : d.n < 1000000) (hE : ∀ k, w.heap.size ≤ k → E k) {no : Int} (hno : 0 ≤ no ∧ no < d.L.length) (hh : x.holder no = none) {i : Nat} {y : Cch} {dy : Dev} (hr : x.room d = (some i, 0, y, dy)) (hl : dy.L.length = d.L.length) (hb : dy.burns 1 = true) :
    Calls Try.prog 35 #[at0 r, .int .i64 no] w fun e w' => (∃ a, e = .returned (.tuple #[.slice (some a) 0 0, .int .i64 3])) ∧ CDR w' E q r bf cap rest y (dy.burn 1) ∧ Only E w w' := by
  have hA := h.at_ hok no
  rw [hh] at hA
  have hR := rroom_any h hok hn hE
  rw [hr] at hR
  obtain ⟨A, c, c0⟩ := h.sectors
  obtain ⟨k0, _⟩ := h.cells
  have hD : ∀ w1, CDR w1 E q r bf cap rest y dy → Only E w w1 → w1.cell? ⟨r, 0, none⟩ = some (at0 q) ∧ Calls Try.prog 59 #[at0 q, .int .i64 no] w1 fun e w' => (∃ A c, e = .returned (.tuple #[.slice A 0 c, .int .i64 3])) ∧ CDR w' E q r bf cap rest y (dy.burn 1) ∧ Only E w w' := by
    intro w1 h1 h2
    refine ⟨h1.cells.1, (h1.read_io (fun k hk => hE k (Nat.le_trans h2.size hk)) hno.1 (by rw [hl]; exact hno.2) hb).mono ?_⟩
    rintro e w' ⟨a, b, c⟩
    exact ⟨a, b, h2.trans c⟩
  obtain ⟨n, hnn⟩ : ∃ n, n = d.L.length := ⟨_, rfl⟩
  rw [← hnn] at c0 hno
  have t0 : decide (no < 0) = false := by simp; omega
  have t1 : decide ((n : Int) ≤ no) = false := by simp; omega
  have HA : Hid (Calls Try.prog 38 #[at0 r, .int .i64 no] w fun e w' => e = .returned (.int .i64 (-1)) ∧ w = w') := Lib.hid hA
  have HR : Hid (Calls Try.prog 56 #[at0 r] w fun e w' => e = .returned (.tuple #[.int .i64 (i : Int), .int .i64 0]) ∧ CDR w' E q r bf cap rest y dy ∧ Only E w w') := Lib.hid hR
  have HD := Lib.hid hD
  clear hA hR h hok hn hE hh hr hnn hD hl hb
  have hem : ∀ w1, CDR w1 E q r bf cap rest y (dy.burn 1) → Only E w w1 → CDR (w1.alloc (.cells #[] 5)) E q r bf cap rest y (dy.burn 1) ∧ Only E w (w1.alloc (.cells #[] 5)) := fun w1 h1 h2 => ⟨h1.below ((Below.refl _ _).alloc (Nat.le_refl _) _), h2.trans (Only.alloc _ _ _)⟩
  have Hem := Lib.hid hem
  clear hem
  go_enter Try.func35, Try.ntmps35
  go_wp2_with (first
    | (go_at_call 38; refine HA.out.mono ?_; rintro e w1 ⟨rfl, rfl⟩)
    | (go_at_call 56; refine HR.out.mono ?_; rintro e w1 ⟨rfl, hc1, ho1⟩; obtain ⟨z0, hD1⟩ := HD.out w1 hc1 ho1; have HD1 := Lib.hid hD1; clear hc1 ho1 hD1)
    | (go_at_call 59; refine HD1.out.mono ?_; rintro e w2 ⟨⟨A2, c2, rfl⟩, hc2, ho2⟩; obtain ⟨h3, h4⟩ := Hem.out w2 hc2 ho2; have H3 := Lib.hid h3; have H4 := Lib.hid h4; clear h3 h4 hc2 ho2))
  go_ret2
  exact ⟨⟨_, rfl⟩, H3.out, H4.out⟩
end
end Go.Proofs.Ytfjcblppmoomdaa
