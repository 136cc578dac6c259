/-
  Which frame holds a sector, which holds nothing, which is given away: contracts.
-/
import Derived.Test.YtfjcblppmoomdaaCacheB
import Derived.Deep.QuietTactic
import Derived.BigQuiet
import Derived.StillTailTactics
import Derived.IntWalk
namespace Go.Proofs.Ytfjcblppmoomdaa
open Go.RowKit
/-- The frame that holds a sector. -/
def Cch.holder (x : Cch) (no : Int) : Option Nat := x.L.findIdx? fun f => f.full && f.no == no
/-- The first frame that holds nothing. -/
def Cch.empty (x : Cch) : Option Nat := x.L.findIdx? fun f => !f.full
theorem find_hit {L : List Frm} {q : Frm → Bool} {k : Nat} (hk : k < L.length) (h1 : q L[k] = true) (h2 : ∀ j (h : j < k), q (L[j]'(Nat.lt_trans h hk)) = false) : L.findIdx? q = some k := by
  rw [List.findIdx?_eq_some_iff_getElem]
  exact ⟨hk, h1, fun j hj => by rw [h2 j hj]; simp⟩
theorem find_none {L : List Frm} {q : Frm → Bool} (h2 : ∀ j (h : j < L.length), q L[j] = false) : L.findIdx? q = none := by
  rw [List.findIdx?_eq_none_iff]
  intro f hf
  obtain ⟨j, hj, rfl⟩ := List.mem_iff_getElem.1 hf
  exact h2 j hj
set_option maxRecDepth 100000 in
theorem cacheLen_nil (w : World) : Calls Try.prog 62 #[.pointer none] w fun e w' => e = .returned (.int .i64 0) ∧ w = w' := by
  go_enter Try.func62, Try.ntmps62
  go_wp2_with fail
  go_ret
  exact ⟨rfl, rfl⟩
set_option maxRecDepth 100000 in
theorem cacheLen_any {w : World} {c p bl n : Nat} (k2 : w.cell? ⟨c, 2, none⟩ = some (at0 p)) (hc : w.cell? ⟨p, 8, none⟩ = some (.slice (some ⟨bl, 0, none⟩) n n)) : Calls Try.prog 62 #[at0 c] w fun e w' => e = .returned (.int .i64 (n : Int)) ∧ w = w' := by
  go_enter Try.func62, Try.ntmps62
  go_wp2_with (go_at_call 61; refine (len_any hc).mono ?_; rintro e w' ⟨rfl, rfl⟩)
  go_ret
  exact ⟨rfl, rfl⟩
set_option maxRecDepth 100000 in
theorem has_cache_nil (no : Int) (w : World) : Calls Try.prog 44 #[.pointer none, .int .i64 no] w fun e w' => e = .returned (.bool false) ∧ w = w' := by
  by_cases h0 : 0 ≤ no
  · have t1 : decide (no < (0 : Int)) = false := by simp; omega
    go_enter Try.func44, Try.ntmps44
    go_wp2_with (go_at_call 62; refine (cacheLen_nil _).mono ?_; rintro e w' ⟨rfl, rfl⟩)
    go_ret
    exact ⟨rfl, rfl⟩
  · go_enter Try.func44, Try.ntmps44
    go_wp2_with fail
    go_ret
    exact ⟨rfl, rfl⟩
set_option maxRecDepth 100000 in
theorem has_cache {w : World} {c p bl n : Nat} (no : Int) (k2 : w.cell? ⟨c, 2, none⟩ = some (at0 p)) (hc : w.cell? ⟨p, 8, none⟩ = some (.slice (some ⟨bl, 0, none⟩) n n)) : Calls Try.prog 44 #[at0 c, .int .i64 no] w fun e w' => e = .returned (.bool (decide (0 ≤ no ∧ no < n))) ∧ w = w' := by
  by_cases h0 : 0 ≤ no
  · by_cases h1 : no < n
    · have e1 : decide (0 ≤ no ∧ no < (n : Int)) = true := by simp [h0, h1]
      have t1 : decide (no < (n : Int)) = true := by simp [h1]
      rw [e1]
      clear e1 h1
      go_enter Try.func44, Try.ntmps44
      go_wp2_with (go_at_call 62; refine (cacheLen_any k2 hc).mono ?_; rintro e w' ⟨rfl, rfl⟩)
      go_ret
      exact ⟨rfl, rfl⟩
    · have e1 : decide (0 ≤ no ∧ no < (n : Int)) = false := by simp [h1]
      have t1 : decide (no < (n : Int)) = false := by simp [h1]
      rw [e1]
      clear e1 h1
      go_enter Try.func44, Try.ntmps44
      go_wp2_with (go_at_call 62; refine (cacheLen_any k2 hc).mono ?_; rintro e w' ⟨rfl, rfl⟩)
      go_ret
      exact ⟨rfl, rfl⟩
  · have e1 : decide (0 ≤ no ∧ no < (n : Int)) = false := by simp [h0]
    rw [e1]
    clear e1
    go_enter Try.func44, Try.ntmps44
    go_wp2_with fail
    go_ret
    exact ⟨rfl, rfl⟩
section
variable {w w' : World} {c bf p : Nat} {x : Cch}
set_option maxRecDepth 100000 in
set_option maxHeartbeats 400000 in
theorem holder_any (h : CacheIs w c bf p x) (no : Int) : Calls Try.prog 45 #[at0 c, .int .i64 no] w fun e w' => e = .returned (frPtr bf (x.holder no)) ∧ w = w' := by
  have k0 := h.k0
  have hs := h.size
  have h0 : ∀ k, ∀ hk : k < x.L.length, w.cell? ⟨bf, k * 261, none⟩ = some (.bool x.L[k].full) := fun k hk => h.f0 hk
  have h1 : ∀ k, ∀ hk : k < x.L.length, w.cell? ⟨bf, k * 261 + 1, none⟩ = some (.int .i64 x.L[k].no) := fun k hk => h.f1 hk
  have hit : ∀ k (hk : k < x.L.length), x.L[k].full = true → x.L[k].no = no → (∀ j (hj : j < k), (x.L[j]'(Nat.lt_trans hj hk)).full = true → (x.L[j]'(Nat.lt_trans hj hk)).no ≠ no) → x.holder no = some k := by
    intro k hk a b hn
    refine find_hit hk (by simp [a, b]) fun j hj => ?_
    rcases hf : (x.L[j]'(Nat.lt_trans hj hk)).full with _ | _
    · simp
    · simp [hn j hj hf]
  have miss : (∀ j (hj : j < x.L.length), x.L[j].full = true → x.L[j].no ≠ no) → x.holder no = none := by
    intro hn
    refine find_none fun j hj => ?_
    rcases hf : x.L[j].full with _ | _
    · simp
    · simp [hn j hj hf]
  obtain ⟨r, hr⟩ : ∃ r, r = x.holder no := ⟨_, rfl⟩
  rw [← hr] at hit miss ⊢
  obtain ⟨L, hL⟩ : ∃ L, L = x.L := ⟨_, rfl⟩
  rw [← hL] at k0 hs h0 h1 hit miss
  obtain ⟨n, hn⟩ : ∃ n, n = L.length := ⟨_, rfl⟩
  rw [← hn] at k0 hs
  have Hn := Lib.hid hn
  have H0 := Lib.hid h0
  have H1 := Lib.hid h1
  have Hit := Lib.hid hit
  have Miss := Lib.hid miss
  clear h h0 h1 hit miss hr hL hn
  go_enter Try.func45, Try.ntmps45
  go_wp2_with fail
  go_loop [12] (fun i => ∃ k : Nat, k ≤ n ∧ i = .int .i64 (k : Int) ∧ Hid (∀ j (hj : j < L.length), j < k → L[j].full = true → L[j].no ≠ no)) (fun i => n - (intOf i).toNat)
  case atStart => exact ⟨0, by omega, rfl, Lib.hid fun j _ h => by omega⟩
  case round =>
    obtain ⟨k, hk, rfl, hno⟩ := hrel
    by_cases hlt : k < n
    · have hk' : k < L.length := Hn.out ▸ hlt
      have a0 := H0.out k hk'
      have a1 := H1.out k hk'
      have next : ∀ (_ : L[k].full = true → L[k].no ≠ no), Hid (∀ j (hj : j < L.length), j < k + 1 → L[j].full = true → L[j].no ≠ no) := fun hh => Lib.hid fun j hj hjk => by
        by_cases e : j = k
        · subst e; exact hh
        · exact hno.out j hj (by omega)
      have t0 : decide ((k : Int) < (n : Int)) = true := by simp [hlt]
      rcases hf : L[k].full with _ | _
      · rw [hf] at a0
        have nx := next (fun e => by rw [hf] at e; cases e)
        clear next hno hf a1
        go_wp2_with fail
        go_round
        case rel => exact ⟨k + 1, hlt, by go_num, nx⟩
        case measure => simp [intOf]; omega
      · rw [hf] at a0
        by_cases e : L[k].no = no
        · have hr := Hit.out k hk' hf e (fun j hj => hno.out j (Nat.lt_trans hj hk') hj)
          rw [e] at a1
          subst hr
          clear next hno hf e
          go_wp2_with fail
          go_ret
          exact ⟨rfl, rfl⟩
        · have nx := next (fun _ => e)
          have t1 : decide (L[k].no = no) = false := by simp [e]
          have t2 : (L[k].no == no) = false := by simp [e]
          obtain ⟨m, hm⟩ : ∃ m, m = L[k].no := ⟨_, rfl⟩
          rw [← hm] at a1 t1 t2
          clear next hno e hm hf
          go_wp2_with fail
          go_round
          case rel => exact ⟨k + 1, hlt, by go_num, nx⟩
          case measure => simp [intOf]; omega
    · have e : k = n := by omega
      subst e
      have hr := Miss.out fun j hj => hno.out j hj (Hn.out ▸ hj)
      subst hr
      have t0 : decide ((k : Int) < (k : Int)) = false := by simp
      go_wp2_with fail
      go_ret
      exact ⟨rfl, rfl⟩
set_option maxRecDepth 100000 in
set_option maxHeartbeats 400000 in
theorem empty_any (h : CacheIs w c bf p x) : Calls Try.prog 63 #[at0 c] w fun e w' => e = .returned (frPtr bf x.empty) ∧ w = w' := by
  have k0 := h.k0
  have hs := h.size
  have h0 : ∀ k, ∀ hk : k < x.L.length, w.cell? ⟨bf, k * 261, none⟩ = some (.bool x.L[k].full) := fun k hk => h.f0 hk
  have hit : ∀ k (hk : k < x.L.length), x.L[k].full = false → (∀ j (hj : j < k), (x.L[j]'(Nat.lt_trans hj hk)).full = true) → x.empty = some k := by
    intro k hk a hn
    exact find_hit hk (by simp [a]) fun j hj => by simp [hn j hj]
  have miss : (∀ j (hj : j < x.L.length), x.L[j].full = true) → x.empty = none := by
    intro hn
    exact find_none fun j hj => by simp [hn j hj]
  obtain ⟨r, hr⟩ : ∃ r, r = x.empty := ⟨_, rfl⟩
  rw [← hr] at hit miss ⊢
  obtain ⟨L, hL⟩ : ∃ L, L = x.L := ⟨_, rfl⟩
  rw [← hL] at k0 hs h0 hit miss
  obtain ⟨n, hn⟩ : ∃ n, n = L.length := ⟨_, rfl⟩
  rw [← hn] at k0 hs
  have Hn := Lib.hid hn
  have H0 := Lib.hid h0
  have Hit := Lib.hid hit
  have Miss := Lib.hid miss
  clear h h0 hit miss hr hL hn
  go_enter Try.func63, Try.ntmps63
  go_wp2_with fail
  go_loop [10] (fun i => ∃ k : Nat, k ≤ n ∧ i = .int .i64 (k : Int) ∧ Hid (∀ j (hj : j < L.length), j < k → L[j].full = true)) (fun i => n - (intOf i).toNat)
  case atStart => exact ⟨0, by omega, rfl, Lib.hid fun j _ h => by omega⟩
  case round =>
    obtain ⟨k, hk, rfl, hno⟩ := hrel
    by_cases hlt : k < n
    · have hk' : k < L.length := Hn.out ▸ hlt
      have a0 := H0.out k hk'
      have next : ∀ (_ : L[k].full = true), Hid (∀ j (hj : j < L.length), j < k + 1 → L[j].full = true) := fun hh => Lib.hid fun j hj hjk => by
        by_cases e : j = k
        · subst e; exact hh
        · exact hno.out j hj (by omega)
      have t0 : decide ((k : Int) < (n : Int)) = true := by simp [hlt]
      rcases hf : L[k].full with _ | _
      · rw [hf] at a0
        have hr := Hit.out k hk' hf (fun j hj => hno.out j (Nat.lt_trans hj hk') hj)
        subst hr
        clear next hno hf
        go_wp2_with fail
        go_ret
        exact ⟨rfl, rfl⟩
      · rw [hf] at a0
        have nx := next hf
        clear next hno hf
        go_wp2_with fail
        go_round
        case rel => exact ⟨k + 1, hlt, by go_num, nx⟩
        case measure => simp [intOf]; omega
    · have e : k = n := by omega
      subst e
      have hr := Miss.out fun j hj => hno.out j hj (Hn.out ▸ hj)
      subst hr
      have t0 : decide ((k : Int) < (k : Int)) = false := by simp
      go_wp2_with fail
      go_ret
      exact ⟨rfl, rfl⟩
end
/-- The hand goes round, so many times at most, up to behind the frame that is given away. -/
def turnGo : Nat → Cch → Option Nat × Cch
  | 0, x => (none, x)
  | k + 1, x =>
    if 0 < (x.L.getD x.hand Frm.zero).pins then turnGo k { x with hand := (x.hand + 1) % x.L.length }
    else if (x.L.getD x.hand Frm.zero).used = true then turnGo k { L := x.L.set x.hand { x.L.getD x.hand Frm.zero with used := false }, hand := (x.hand + 1) % x.L.length }
    else (some x.hand, { x with hand := (x.hand + 1) % x.L.length })
def Cch.turn (x : Cch) : Option Nat × Cch := turnGo (2 * x.L.length) x
section
variable {w w' : World} {c bf p : Nat} {x : Cch}
set_option maxRecDepth 100000 in
set_option maxHeartbeats 400000 in
theorem turn_any (h : CacheIs w c bf p x) : Calls Try.prog 64 #[at0 c] w fun e w' => e = .returned (frPtr bf x.turn.1) ∧ CacheIs w' c bf p x.turn.2 ∧ Only (fun k => k = c ∨ k = bf) w w' := by
  obtain ⟨r, hr⟩ : ∃ r, r = x.turn := ⟨_, rfl⟩
  rw [← hr]
  obtain ⟨n, hn⟩ : ∃ n, n = x.L.length := ⟨_, rfl⟩
  have hs := h.size
  have k0 := h.k0
  rw [← hn] at hs k0
  have Hs : Hid (∃ y : Cch, y.L.length = n ∧ turnGo (2 * n - 0) y = r ∧ CacheIs w c bf p y) := Lib.hid ⟨x, hn.symm, by rw [hr, hn]; rfl, h⟩
  have hne := h.ne
  clear h hr hn
  go_enter Try.func64, Try.ntmps64
  go_wp2_with fail
  go_loopw [10] (fun i wr => ∃ (k : Nat), k ≤ 2 * n ∧ i = .int .i64 (k : Int) ∧ Hid (∃ y : Cch, y.L.length = n ∧ turnGo (2 * n - k) y = r ∧ CacheIs wr c bf p y) ∧ Only (fun k => k = c ∨ k = bf) w wr) (fun i _ => 2 * n - (intOf i).toNat)
  case atStart => exact ⟨0, by omega, rfl, Hs, Only.refl _ _⟩
  case round =>
    obtain ⟨k, hk, rfl, HY, ho⟩ := hrel
    obtain ⟨y, hyn, hyr, hc⟩ := HY.out
    clear HY
    by_cases hlt : k < 2 * n
    · have hh := hc.hand
      have g0 := hc.k0
      have g1 := hc.k1
      have q0 := hc.f260 hh
      have q1 := hc.f259 hh
      have fc := hc.freeC 1
      have ff := hc.freeF (y.hand * 261 + 259)
      rw [hyn] at g0
      have t0 : decide ((k : Int) < 2 * (n : Int)) = true := by simp; omega
      have hh2 : y.hand < n := hyn ▸ hh
      obtain ⟨fr, hfr⟩ : ∃ fr, fr = y.L.getD y.hand Frm.zero := ⟨_, rfl⟩
      have hfr2 : y.L[y.hand]'hh = fr := by rw [hfr, List.getD_eq_getElem?_getD, List.getElem?_eq_getElem hh, Option.getD_some]
      rw [hfr2] at q0 q1
      clear hfr2
      obtain ⟨hd, hhd⟩ : ∃ hd, hd = y.hand := ⟨_, rfl⟩
      rw [← hhd] at g1 q0 q1 ff hh2
      have Hc := Lib.hid hc
      have Hr := Lib.hid hyr
      have Ho := Lib.hid ho
      have Hfr := Lib.hid hfr
      have Hhd := Lib.hid hhd
      have Hyn := Lib.hid hyn
      clear hc hyr ho hfr hhd hyn hh
      have b0 : (0 : Int) ≤ (hd : Int) := by omega
      have b1 : (hd : Int) < (n : Int) := by omega
      have b2 : ((hd : Int)).toNat = hd := by omega
      have b6 : ¬ n = 0 := by omega
      have b3 : IntKind.i64.wrap ((hd : Int) + 1) = (hd : Int) + 1 := IntWalk.i64_in _ (by omega)
      obtain ⟨h2, hh2'⟩ : ∃ h2, h2 = (hd + 1) % n := ⟨_, rfl⟩
      have b4 : ((hd : Int) + 1).tmod (n : Int) = (h2 : Int) := by rw [hh2', Int.tmod_eq_emod_of_nonneg (by omega)]; simp
      have b5 : IntKind.i64.wrap (h2 : Int) = (h2 : Int) := IntWalk.i64_in _ (by have := Nat.mod_lt (hd + 1) (show 0 < n by omega); omega)
      have Hh2 := Lib.hid hh2'
      clear hh2'
      obtain ⟨f2, hf2⟩ : ∃ f2, f2 = { fr with used := false } := ⟨_, rfl⟩
      have Hf2 := Lib.hid hf2
      have Hgo : Hid (r = if 0 < fr.pins then turnGo (2 * n - (k + 1)) { y with hand := h2 } else if fr.used = true then turnGo (2 * n - (k + 1)) { L := y.L.set hd f2, hand := h2 } else (some hd, { y with hand := h2 })) := Lib.hid (by
        rw [← Hr.out, show 2 * n - k = (2 * n - (k + 1)) + 1 by omega, turnGo, ← Hfr.out, ← Hhd.out, Hyn.out, ← Hh2.out, ← Hf2.out])
      clear hf2
      have hh3 : h2 < n := by rw [Hh2.out]; exact Nat.mod_lt _ (by omega)
      have hh3 := Kept.mk hh3
      go_wp2_with fail
      go_quiet (fail)
      generalize hw1 : wr.drewN nq = w1
      have Hc1 : Hid (CacheIs w1 c bf p y) := Lib.hid (by rw [← hw1]; exact Hc.out.keep rfl rfl)
      have Ho1 : Hid (Only (fun k => k = c ∨ k = bf) w w1) := Lib.hid (by rw [← hw1]; exact ⟨Ho.out.os, Ho.out.tape, Ho.out.output, Ho.out.size, Ho.out.block⟩)
      replace g0 : w1.cell? ⟨c, 0, none⟩ = some (.slice (some ⟨bf, 0, none⟩) n n) := by rw [← hw1]; exact g0
      replace g1 : w1.cell? ⟨c, 1, none⟩ = some (.int .i64 (hd : Int)) := by rw [← hw1]; exact g1
      replace q0 : w1.cell? ⟨bf, hd * 261 + 260, none⟩ = some (.int .i64 (fr.pins : Int)) := by rw [← hw1]; exact q0
      replace q1 : w1.cell? ⟨bf, hd * 261 + 259, none⟩ = some (.bool fr.used) := by rw [← hw1]; exact q1
      replace fc : w1.frozen? ⟨c, 1, none⟩ = false := by rw [← hw1]; exact fc
      replace ff : w1.frozen? ⟨bf, hd * 261 + 259, none⟩ = false := by rw [← hw1]; exact ff
      clear hw1 Hc Ho
      go_wp2_with fail
      have Hc2 : Hid (CacheIs (w1.setCell ⟨c, 1, none⟩ (.int .i64 (h2 : Int))).drew c bf p { y with hand := h2 }) := Lib.hid ((Hc1.out.turned (k := h2) (by rw [Hyn.out]; exact hh3.out)).keep rfl rfl)
      have Ho2 : Hid (Only (fun k => k = c ∨ k = bf) w (w1.setCell ⟨c, 1, none⟩ (.int .i64 (h2 : Int))).drew) := Lib.hid ((Ho1.out.trans (Only.setCell (F := fun k => k = c ∨ k = bf) (p := ⟨c, 1, none⟩) (.inl rfl) _)).trans (Only.drew _ _))
      have Hc3 : Hid (CacheIs ((w1.setCell ⟨c, 1, none⟩ (.int .i64 (h2 : Int))).setCell ⟨bf, hd * 261 + 259, none⟩ (.bool false)).drew c bf p { L := y.L.set hd f2, hand := h2 }) := Lib.hid (by
        have hlt' : hd < y.L.length := by rw [Hyn.out]; exact hh2
        have e : y.L[hd] = fr := by rw [Hfr.out, ← Hhd.out, List.getD_eq_getElem?_getD, List.getElem?_eq_getElem hlt', Option.getD_some]
        have hw := Hc1.out.wide.at_ hlt'
        rw [e] at hw
        have := (Hc1.out.turned (k := h2) (by rw [Hyn.out]; exact hh3.out)).set (i := hd) (j := 259) (v := .bool false) (f := f2) hlt' (by omega) (by rw [e, Hf2.out]; exact frCells_set259 hw false) (by rw [Hf2.out]; exact hw)
        exact this.keep rfl rfl)
      have Ho3 : Hid (Only (fun k => k = c ∨ k = bf) w ((w1.setCell ⟨c, 1, none⟩ (.int .i64 (h2 : Int))).setCell ⟨bf, hd * 261 + 259, none⟩ (.bool false)).drew) := Lib.hid ((Ho1.out.trans ((Only.setCell (F := fun k => k = c ∨ k = bf) (p := ⟨c, 1, none⟩) (.inl rfl) _).trans (Only.setCell (F := fun k => k = c ∨ k = bf) (p := ⟨bf, hd * 261 + 259, none⟩) (.inr rfl) _))).trans (Only.drew _ _))
      have Hyn2 : Hid ((y.L.set hd f2).length = n) := Lib.hid (by rw [List.length_set]; exact Hyn.out)
      obtain ⟨pn, hpn⟩ : ∃ pn, pn = fr.pins := ⟨_, rfl⟩
      obtain ⟨us, hus⟩ : ∃ us, us = fr.used := ⟨_, rfl⟩
      rw [← hpn] at q0 Hgo
      rw [← hus] at q1 Hgo
      clear hpn hus
      by_cases hp : 0 < pn
      · have e := Hgo.out
        rw [if_pos hp] at e
        have e := Lib.hid e.symm
        have d0 : decide (0 < (pn : Int)) = true := by simp [hp]
        clear Hgo Hc1 Ho1
        go_still_tail 14, (by kernel_rfl)
        go_wp2_with fail
        go_roundw
        case rel => exact ⟨k + 1, hlt, by go_num, Lib.hid ⟨{ y with hand := h2 }, Hyn.out, e.out, Hc2.out⟩, Ho2.out⟩
        case measure => simp [intOf]; omega
      · have e := Hgo.out
        rw [if_neg hp] at e
        have d0 : pn = 0 := by omega
        subst d0
        rcases us with _ | _
        · rw [if_neg (by simp)] at e
          subst e
          clear Hgo Hc1 Ho1
          go_still_tail 14, (by kernel_rfl)
          go_wp2_with fail
          go_ret
          exact ⟨rfl, Hc2.out, Ho2.out⟩
        · rw [if_pos rfl] at e
          have e := Lib.hid e.symm
          clear Hgo Hc1 Ho1
          go_still_tail 14, (by kernel_rfl)
          go_wp2_with fail
          go_roundw
          case rel => exact ⟨k + 1, hlt, by go_num, Lib.hid ⟨{ L := y.L.set hd f2, hand := h2 }, Hyn2.out, e.out, Hc3.out⟩, Ho3.out⟩
          case measure => simp [intOf]; omega
    · have e : k = 2 * n := by omega
      subst e
      rw [Nat.sub_self] at hyr
      have e2 : (none, y) = r := hyr
      subst e2
      have t0 : decide (((2 * n : Nat) : Int) < 2 * (n : Int)) = false := by simp
      clear hyr
      go_wp2_with fail
      go_ret
      exact ⟨rfl, hc, ho⟩
end
end Go.Proofs.Ytfjcblppmoomdaa
