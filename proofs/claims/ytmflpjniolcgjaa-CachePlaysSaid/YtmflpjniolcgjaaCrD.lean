/-
  The document's cache: its device's Read, Flush and Fail; Pin and Drop: contracts.
  The document's cache: Pin and Unpin: contract.
-/
import Derived.Test.YtmflpjniolcgjaaCrC
namespace Go.Proofs.Ytmflpjniolcgjaa
open Go.RowKit
section
variable {w w' : World} {E E' : Nat → Prop} {q r bf cap : Nat} {rest : List Value} {P : List (Frm × Value)} {x : Cch} {d d' : Dev}
/-- Read of the device, of a sector that there is. -/
theorem CDR.read_io (h : CDR w E q r bf cap rest x d) (hE : ∀ k, w.heap.size ≤ k → E k) {i : Int} (h0 : 0 ≤ i) (hi : i < d.L.length) (hb : d.burns 1 = true) :
    Calls Try.prog 59 #[at0 q, .int .i64 i] w fun e w' => (∃ A c, e = .returned (.tuple #[.slice A 0 c, .int .i64 3])) ∧ CDR w' E q r bf cap rest x (d.burn 1) ∧ Only E w w' := by
  obtain ⟨m, rfl⟩ : ∃ m : Nat, i = m := ⟨i.toNat, by omega⟩
  obtain ⟨P, hc⟩ := h.cache
  obtain ⟨vL, vA, vB, ls, bs, y, hr, hl⟩ := h.dev
  refine (rread_io hr.heads (by rw [← hl.L]; omega) (by rw [← hl.burns (by omega) (by omega)]; exact hb)).mono ?_
  rintro e w' ⟨A, c, rfl, _, hd, ho⟩
  exact ⟨⟨A, c, rfl⟩, ⟨⟨P, hc.dev hr ho⟩, ⟨_, _, _, _, _, _, hr.back hE hd, hl.burn 1 (by omega) (by omega)⟩, h.own⟩, Only.heads hr hE ho⟩
theorem CDR.read_ok (h : CDR w E q r bf cap rest x d) (hE : ∀ k, w.heap.size ≤ k → E k) (hn : d.n < 1000000) {i : Int} (h0 : 0 ≤ i) (hi : i < d.L.length) (hb : d.burns 1 = false) :
    Calls Try.prog 59 #[at0 q, .int .i64 i] w fun e w' => ∃ gu cu, e = .returned (.tuple #[.slice (some ⟨gu, 0, none⟩) 256 cu, .int .i64 0]) ∧ SecIs w' E (.slice (some ⟨gu, 0, none⟩) 256 cu) (d.now i.toNat) ∧ CDR w' E q r bf cap rest x (d.burn 1) ∧ Only E w w' := by
  obtain ⟨m, rfl⟩ : ∃ m : Nat, i = m := ⟨i.toNat, by omega⟩
  obtain ⟨P, hc⟩ := h.cache
  obtain ⟨vL, vA, vB, ls, bs, y, hr, hl⟩ := h.dev
  rw [Int.toNat_natCast, hl.now (by omega)]
  refine (rread_ok hr.heads (by rw [← hl.L]; omega) (by rw [← hl.burns (by omega) (by omega)]; exact hb) (by rw [← hl.n]; exact hn)).mono ?_
  rintro e w' ⟨gu, cu, rfl, hs, hd, ho⟩
  exact ⟨gu, cu, rfl, hs, ⟨⟨P, hc.dev hr ho⟩, ⟨_, _, _, _, _, _, hr.back hE hd, hl.burn 1 (by omega) (by omega)⟩, h.own⟩, Only.heads hr hE ho⟩
theorem CDR.flush (h : CDR w E q r bf cap rest x d) (hE : ∀ k, w.heap.size ≤ k → E k) (hn : d.n < 1000000) :
    Calls Try.prog 58 #[at0 q] w fun e w' => e = .returned (.int .i64 d.doFlush.1) ∧ CDR w' E q r bf cap rest x d.doFlush.2 ∧ Only E w w' := by
  obtain ⟨P, hc⟩ := h.cache
  obtain ⟨vL, vA, vB, ls, bs, y, hr, hl⟩ := h.dev
  unfold Dev.doFlush
  by_cases hb : d.burns 3 = true
  · rw [if_pos hb]
    refine (rflush_io hr.heads (by rw [← hl.burns (by omega) (by omega)]; exact hb)).mono ?_
    rintro e w' ⟨rfl, hd, ho⟩
    exact ⟨rfl, ⟨⟨P, hc.dev hr ho⟩, ⟨_, _, _, _, _, _, hr.back hE hd, hl.burn 3 (by omega) (by omega)⟩, h.own⟩, Only.heads hr hE ho⟩
  · rw [if_neg hb]
    refine (rflush_ok hr.heads (by rw [← hl.burns (by omega) (by omega)]; simpa using hb) (by rw [← hl.n]; exact hn) (fun k hk => Hd.new k hk)).mono ?_
    rintro e w' ⟨vA', vB', ls', rfl, hd, ho⟩
    exact ⟨rfl, ⟨⟨P, hc.dev hr ho⟩, ⟨_, _, _, _, _, _, hr.back hE hd, (hl.burn 3 (by omega) (by omega)).flush⟩, h.own⟩, Only.heads hr hE ho⟩
theorem CDR.fail (h : CDR w E q r bf cap rest x d) (hE : ∀ k, w.heap.size ≤ k → E k) {k a : Int} (ha : a ≤ 9223372036854775807) :
    Calls Try.prog 34 #[at0 q, .int .i64 k, .int .i64 a] w fun e w' => e = .returned (.int .i64 (d.doFail k a).1) ∧ CDR w' E q r bf cap rest x (d.doFail k a).2 ∧ Only E w w' := by
  unfold Dev.doFail
  by_cases hk : k < 1 ∨ 3 < k ∨ a < 0
  · rw [if_pos hk]
    refine (rfail_arg w q hk).mono ?_
    rintro e w' ⟨rfl, rfl⟩
    exact ⟨rfl, h, Only.refl _ _⟩
  · rw [if_neg hk]
    obtain ⟨m, rfl⟩ : ∃ m : Nat, k = m := ⟨k.toNat, by omega⟩
    obtain ⟨b, rfl⟩ : ∃ b : Nat, a = b := ⟨a.toNat, by omega⟩
    obtain ⟨P, hc⟩ := h.cache
    obtain ⟨vL, vA, vB, ls, bs, y, hr, hl⟩ := h.dev
    refine (rfail_any hr.heads (k := m) (a := b) (by omega) (by omega) (by omega)).mono ?_
    rintro e w' ⟨rfl, hd, ho⟩
    exact ⟨rfl, ⟨⟨P, hc.dev hr ho⟩, ⟨_, _, _, _, _, _, hr.back hE hd, by rw [Int.toNat_natCast, Int.toNat_natCast]; exact hl.told m b⟩, h.own⟩, Only.heads hr hE ho⟩
/-- At, by the cache. -/
theorem CDR.at_ (h : CDR w E q r bf cap rest x d) {n : Nat} (hok : x.Ok n) (no : Int) : Calls Try.prog 38 #[at0 r, .int .i64 no] w fun e w' => e = .returned (.int .i64 (atOf (x.holder no))) ∧ w = w' := by
  obtain ⟨P, hc⟩ := h.cache
  exact rat_any hc hok no
/-- The fifth cell of a frame. -/
theorem CDR.cellZ (h : CDR w E q r bf cap rest x d) {i : Nat} (hi : i < x.L.length) : ∃ u, w.cell? ⟨bf, i * 5 + 4, none⟩ = some u := by
  obtain ⟨P, hc⟩ := h.cache
  have hp : i < P.length := by rw [hc.len]; exact hi
  exact ⟨_, hc.cellF (j := 4) (v := P[i].2) hp rfl⟩
set_option maxRecDepth 100000 in
theorem rdrop_any (h : CDR w E q r bf cap rest x d) {n : Nat} (hok : x.Ok n) (no : Int) :
    Calls Try.prog 32 #[at0 r, .int .i64 no] w fun e w' => e = .returned (.bool (x.drop no).1) ∧ CDR w' E q r bf cap rest (x.drop no).2 d ∧ Only E w w' := by
  have hA := h.at_ hok no
  rcases hh : x.holder no with _ | i
  · rw [hh] at hA
    have e : x.drop no = (false, x) := by unfold Cch.drop; rw [hh]
    rw [e]
    have HA := Lib.hid hA
    have H := Lib.hid h
    clear hA h hh e hok
    rw [show atOf none = -1 from rfl] at HA
    go_enter Try.func32, Try.ntmps32
    go_wp2_with (first | (go_at_call 38; refine HA.out.mono ?_; rintro e w1 ⟨rfl, rfl⟩))
    go_ret
    exact ⟨rfl, H.out, Only.refl _ _⟩
  · rw [hh] at hA
    obtain ⟨hi, _, _⟩ := holder_lt hh
    obtain ⟨_, k1, _, _, ff, _, hs2, _⟩ := h.cells
    obtain ⟨c0, c1, c2, c3⟩ := h.frame hi
    have hp := h.place5 hi Frm.zero (.slice none 0 0) (fun hh => by cases hh)
    have e : x.drop no = if (x.fr i).pins = 0 then (true, x.wipe i) else (false, x) := by unfold Cch.drop; rw [hh]
    rw [e]
    obtain ⟨pn, hpn⟩ : ∃ pn, pn = (x.fr i).pins := ⟨_, rfl⟩
    rw [← hpn] at c1 ⊢
    obtain ⟨n', hn'⟩ : ∃ n', n' = x.L.length := ⟨_, rfl⟩
    rw [← hn'] at k1 hs2
    have hin : i < n' := by rw [hn']; exact hi
    have HA := Lib.hid hA
    have H := Lib.hid h
    have Hp1 : Hid (CDR (((((w.setCell ⟨bf, i * 5, none⟩ (.int .i64 (-1))).setCell ⟨bf, i * 5 + 1, none⟩ (.int .i64 0)).setCell ⟨bf, i * 5 + 2, none⟩ (.bool false)).setCell ⟨bf, i * 5 + 3, none⟩ (.bool false)).setCell ⟨bf, i * 5 + 4, none⟩ (.slice none 0 0)) E q r bf cap rest (x.wipe i) d) := Lib.hid hp.1
    have Hp2 : Hid (Only E w (((((w.setCell ⟨bf, i * 5, none⟩ (.int .i64 (-1))).setCell ⟨bf, i * 5 + 1, none⟩ (.int .i64 0)).setCell ⟨bf, i * 5 + 2, none⟩ (.bool false)).setCell ⟨bf, i * 5 + 3, none⟩ (.bool false)).setCell ⟨bf, i * 5 + 4, none⟩ (.slice none 0 0))) := Lib.hid hp.2
    have hz := h.cellZ hi
    obtain ⟨u4, c4⟩ := hz
    have f0 := ff (i * 5)
    have f1 := ff (i * 5 + 1)
    have f2 := ff (i * 5 + 2)
    have f3 := ff (i * 5 + 3)
    have f4 := ff (i * 5 + 4)
    have b0 : (0 : Int) ≤ (i : Int) := by omega
    have b1 : (i : Int) < (n' : Int) := by omega
    have b2 : ((i : Int)).toNat = i := by omega
    have t0 : decide ((i : Int) < 0) = false := by simp
    rw [show atOf (some i) = (i : Int) from rfl] at HA
    clear hA h hh e hok hp ff hpn hn' hi
    by_cases hp0 : pn = 0
    · subst hp0
      rw [if_pos rfl]
      go_enter Try.func32, Try.ntmps32
      go_wp2_with (first | (go_at_call 38; refine HA.out.mono ?_; rintro e w1 ⟨rfl, rfl⟩))
      go_ret
      exact ⟨rfl, Hp1.out, Hp2.out⟩
    · rw [if_neg hp0]
      have t1 : decide (0 < (pn : Int)) = true := by simp; omega
      go_enter Try.func32, Try.ntmps32
      go_wp2_with (first | (go_at_call 38; refine HA.out.mono ?_; rintro e w1 ⟨rfl, rfl⟩))
      go_ret
      exact ⟨rfl, H.out, Only.refl _ _⟩
end
/-- One pin more, or one less. -/
def Cch.pinBy (x : Cch) (no s : Int) : Bool × Cch :=
  match x.holder no with
  | none => (false, x)
  | some i => if ((x.fr i).pins : Int) + s < 0 then (false, x) else (true, x.pinned i (((x.fr i).pins : Int) + s).toNat)
theorem pinBy_one (x : Cch) (no : Int) : x.pinBy no 1 = x.pin no := by
  unfold Cch.pinBy Cch.pin
  rcases x.holder no with _ | i
  · rfl
  · show (if ((x.fr i).pins : Int) + 1 < 0 then _ else _) = (true, x.pinned i ((x.fr i).pins + 1))
    rw [if_neg (by omega), show (((x.fr i).pins : Int) + 1).toNat = (x.fr i).pins + 1 by omega]
theorem pinBy_less (x : Cch) (no : Int) : x.pinBy no (-1) = x.unpin no := by
  unfold Cch.pinBy Cch.unpin
  rcases x.holder no with _ | i
  · rfl
  · show (if ((x.fr i).pins : Int) + -1 < 0 then _ else _) = if (x.fr i).pins = 0 then _ else (true, x.pinned i ((x.fr i).pins - 1))
    by_cases h : (x.fr i).pins = 0
    · rw [if_pos h, if_pos (by omega)]
    · rw [if_neg h, if_neg (by omega), show (((x.fr i).pins : Int) + -1).toNat = (x.fr i).pins - 1 by omega]
section
variable {w w' : World} {E E' : Nat → Prop} {q r bf cap : Nat} {rest : List Value} {P : List (Frm × Value)} {x : Cch} {d d' : Dev}
set_option maxRecDepth 100000 in
set_option maxHeartbeats 800000 in
theorem rpin_any (h : CDR w E q r bf cap rest x d) {n : Nat} (hok : x.Ok n) (hp : ∀ i, (x.L.getD i Frm.zero).pins < 1000000) (no : Int) {s : Int} (hs : s = 1 ∨ s = -1) :
    Calls Try.prog 31 #[at0 r, .int .i64 no, .int .i64 s] w fun e w' => e = .returned (.bool (x.pinBy no s).1) ∧ CDR w' E q r bf cap rest (x.pinBy no s).2 d ∧ Only E w w' := by
  have hA := h.at_ hok no
  have hs0 : -1 ≤ s ∧ s ≤ 1 := by omega
  rcases hh : x.holder no with _ | i
  · rw [hh] at hA
    have e : x.pinBy no s = (false, x) := by unfold Cch.pinBy; rw [hh]
    rw [e]
    have HA := Lib.hid hA
    have H := Lib.hid h
    clear hA h hh e hok hp hs
    rw [show atOf none = -1 from rfl] at HA
    go_enter Try.func31, Try.ntmps31
    go_wp2_with (first | (go_at_call 38; refine HA.out.mono ?_; rintro e w1 ⟨rfl, rfl⟩))
    go_ret
    exact ⟨rfl, H.out, Only.refl _ _⟩
  · rw [hh] at hA
    obtain ⟨hi, _, _⟩ := holder_lt hh
    obtain ⟨_, k1, _, _, ff, _, hs2, _⟩ := h.cells
    obtain ⟨c0, c1, c2, c3⟩ := h.frame hi
    have hpi : (x.fr i).pins < 1000000 := hp i
    have e : x.pinBy no s = if ((x.fr i).pins : Int) + s < 0 then (false, x) else (true, x.pinned i (((x.fr i).pins : Int) + s).toNat) := by unfold Cch.pinBy; rw [hh]
    rw [e]
    obtain ⟨pn, hpn⟩ : ∃ pn, pn = (x.fr i).pins := ⟨_, rfl⟩
    rw [← hpn] at c1 hpi ⊢
    obtain ⟨n', hn'⟩ : ∃ n', n' = x.L.length := ⟨_, rfl⟩
    rw [← hn'] at k1 hs2
    have hin : i < n' := by rw [hn']; exact hi
    have HA := Lib.hid hA
    have H := Lib.hid h
    have f1 := ff (i * 5 + 1)
    have b0 : (0 : Int) ≤ (i : Int) := by omega
    have b1 : (i : Int) < (n' : Int) := by omega
    have b2 : ((i : Int)).toNat = i := by omega
    have t0 : decide ((i : Int) < 0) = false := by simp
    have b3 : IntKind.i64.wrap ((pn : Int) + s) = (pn : Int) + s := IntWalk.i64_in _ (by omega)
    rw [show atOf (some i) = (i : Int) from rfl] at HA
    by_cases hp0 : (pn : Int) + s < 0
    · rw [if_pos hp0]
      have t1 : decide ((pn : Int) + s < 0) = true := by simp [hp0]
      clear hA h hh e hok ff hpn hn' hi hp hs
      go_enter Try.func31, Try.ntmps31
      go_wp2_with (first | (go_at_call 38; refine HA.out.mono ?_; rintro e w1 ⟨rfl, rfl⟩))
      go_ret
      exact ⟨rfl, H.out, Only.refl _ _⟩
    · rw [if_neg hp0]
      have t1 : decide ((pn : Int) + s < 0) = false := by simp; omega
      obtain ⟨m, hm⟩ : ∃ m : Nat, (pn : Int) + s = m := ⟨((pn : Int) + s).toNat, by omega⟩
      rw [hm] at t1 b3 ⊢
      rw [Int.toNat_natCast]
      obtain ⟨h1, h2⟩ := h.drew.pins hi m
      have H1 := Lib.hid h1
      have H2 := Lib.hid ((Only.drew E w).trans h2)
      clear hA h hh e hok ff hpn hn' hi hp hs h1 h2 hp0
      go_enter Try.func31, Try.ntmps31
      go_wp2_with (first | (go_at_call 38; refine HA.out.mono ?_; rintro e w1 ⟨rfl, rfl⟩))
      go_still_tail 17, (by kernel_rfl)
      go_wp2_with fail
      go_ret
      exact ⟨rfl, H1.out, H2.out⟩
end
end Go.Proofs.Ytmflpjniolcgjaa
