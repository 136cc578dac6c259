/-
  The document's cache: room made: contract.
  The document's cache: its device's Read, Flush and Fail; Pin and Drop: contracts.
  The document's cache: Pin and Unpin: contract.
-/
import Derived.Test.YtfjcblppmoomdaaCrB
namespace Go.Proofs.Ytfjcblppmoomdaa
open Go.RowKit
theorem exec_build1 {ρ : Operand → Value} {o : Oper} {t : TypeId} {k : Nat} {a : Operand} (ho : o.op = .build t #[(k, a)]) {u : Value} (ha : ρ a = u) {v : Value} {P : Program} {w : World} (hrun : (Instr.build t #[(k, u)]).run P w = .ok v w) : (execOp ρ o).run P w = .ok (.value v) w := by
  unfold execOp
  simp only [ho, List.map_toArray, List.map_cons, List.map_nil, ha, Sem.run_bind, hrun, Result.andThen_ok, Sem.run_pure]
theorem build_none (w : World) : (Instr.build 78 #[(0, .int .i64 (-1))]).run Try.prog w = .ok (.agg (rfCells (Frm.zero, .slice none 0 0)).toArray) w := by kernel_rfl
theorem doWrite_told (d : Dev) (i : Int) (l : List UInt8) (hi : 0 ≤ i ∧ i < d.L.length) : d.doWrite i l = if d.burns 2 = true then (3, d.burn 2) else (0, (d.burn 2).put i.toNat l) := by
  unfold Dev.doWrite
  rw [if_neg (by omega)]
/-- The frame that is given away. -/
theorem room_hit {x y : Cch} {d : Dev} {i : Nat} (hok : x.Ok d.L.length) (he : x.empty = none) (ht : x.turn = (some i, y)) :
    i < y.L.length ∧ (y.fr i).full = true ∧ 0 ≤ (y.fr i).no ∧ (y.fr i).no < d.L.length ∧
    x.room d = if (y.fr i).dirty = true then (if (d.doWrite (y.fr i).no (y.fr i).b).1 = 0 then (some i, 0, y.wipe i, (d.doWrite (y.fr i).no (y.fr i).b).2) else (none, 3, y, (d.doWrite (y.fr i).no (y.fr i).b).2)) else (some i, 0, y.wipe i, d) := by
  have hcore := core_same (turnGo_core (2 * x.L.length) x)
  have hsome := turnGo_some (2 * x.L.length) x
  rw [show turnGo (2 * x.L.length) x = x.turn from rfl, ht] at hcore hsome
  obtain ⟨hi, _⟩ := hsome i hok.hand rfl
  obtain ⟨hylen, hsame⟩ := hcore
  have hpar := core_parts (hsame i)
  have hfull := empty_all he i hi
  have hno := hok.within i hi hfull
  have hyf : (y.fr i).full = true := hpar.1.trans hfull
  have hyn : 0 ≤ (y.fr i).no ∧ (y.fr i).no < d.L.length := by
    rw [← hpar.2.1] at hno
    exact hno
  refine ⟨by rw [show y.L.length = x.L.length from hylen]; exact hi, hyf, hyn.1, hyn.2, ?_⟩
  unfold Cch.room
  rw [he, ht]
  show (if (y.fr i).dirty = true then _ else _) = _
  congr 1
  rw [doWrite_told d _ _ hyn]
  have hw : y.write d i = if d.burns 2 = true then (3, y, d.burn 2) else (0, { y with L := y.L.set i { y.fr i with dirty := false } }, (d.burn 2).put (y.fr i).no.toNat (y.fr i).b) := rfl
  rw [hw]
  by_cases hb : d.burns 2 = true
  · simp [hb]
  · simp [hb, Cch.wipe, List.set_set]
section
variable {w w' : World} {E E' : Nat → Prop} {q r bf cap : Nat} {rest : List Value} {P : List (Frm × Value)} {x : Cch} {d d' : Dev}
/-- The cells of the cache, and of a frame. -/
theorem CDR.cells (h : CDR w E q r bf cap rest x d) : w.cell? ⟨r, 0, none⟩ = some (at0 q) ∧ w.cell? ⟨r, 1, none⟩ = some (.slice (some ⟨bf, 0, none⟩) x.L.length cap) ∧ w.cell? ⟨r, 2, none⟩ = some (.int .i64 (x.hand : Int)) ∧ w.frozen? ⟨r, 2, none⟩ = false ∧ (∀ j, w.frozen? ⟨bf, j, none⟩ = false) ∧ 8 ≤ x.L.length ∧ x.L.length ≤ 64 ∧ x.hand < x.L.length := by
  obtain ⟨P, hc⟩ := h.cache
  exact ⟨hc.k0, hc.k1, hc.k2, hc.freeR 2, hc.freeF, hc.size.1, hc.size.2, hc.hand⟩
theorem CDR.frame (h : CDR w E q r bf cap rest x d) {i : Nat} (hi : i < x.L.length) : w.cell? ⟨bf, i * 5, none⟩ = some (.int .i64 (rfNo (x.fr i))) ∧ w.cell? ⟨bf, i * 5 + 1, none⟩ = some (.int .i64 ((x.fr i).pins : Int)) ∧ w.cell? ⟨bf, i * 5 + 2, none⟩ = some (.bool (x.fr i).dirty) ∧ w.cell? ⟨bf, i * 5 + 3, none⟩ = some (.bool (x.fr i).used) := by
  obtain ⟨P, hc⟩ := h.cache
  exact ⟨hc.f0 hi, hc.f1 hi, hc.f2 hi, hc.f3 hi⟩
theorem CDR.bytes (h : CDR w E q r bf cap rest x d) {i : Nat} (hi : i < x.L.length) (hf : (x.fr i).full = true) : ∃ gu cu, w.cell? ⟨bf, i * 5 + 4, none⟩ = some (.slice (some ⟨gu, 0, none⟩) 256 cu) ∧ SecIs w E (.slice (some ⟨gu, 0, none⟩) 256 cu) (x.fr i).b := by
  obtain ⟨P, hc⟩ := h.cache
  exact hc.f4 hi hf
theorem CDR.write (h : CDR w E q r bf cap rest x d) (hE : ∀ k, w.heap.size ≤ k → E k) (hn : d.n < 1000000) {i : Int} (h0 : 0 ≤ i) (hi : i < d.L.length) {gu cu : Nat} {l : List UInt8} (hs : SecIs w E (.slice (some ⟨gu, 0, none⟩) 256 cu) l) :
    Calls Try.prog 57 #[at0 q, .int .i64 i, .slice (some ⟨gu, 0, none⟩) 256 cu] w fun e w' => e = .returned (.int .i64 (d.doWrite i l).1) ∧ CDR w' E q r bf cap rest x (d.doWrite i l).2 ∧ Only E w w' := by
  obtain ⟨m, rfl⟩ : ∃ m : Nat, i = m := ⟨i.toNat, by omega⟩
  obtain ⟨P, hc⟩ := h.cache
  obtain ⟨vL, vA, vB, ls, bs, y, hr, hl⟩ := h.dev
  refine (dwrite hc hr hl h.own hE hn (by omega) hs).mono ?_
  rintro e w' ⟨rfl, _, h1, h2⟩
  exact ⟨rfl, h1, h2⟩
set_option maxRecDepth 100000 in
set_option maxHeartbeats 1600000 in
theorem rroom_any (h : CDR w E q r bf cap rest x d) (hok : x.Ok d.L.length) (hn : d.n < 1000000) (hE : ∀ k, w.heap.size ≤ k → E k) :
    Calls Try.prog 56 #[at0 r] w fun e w' => e = .returned (.tuple #[.int .i64 (atOf (x.room d).1), .int .i64 (x.room d).2.1]) ∧ CDR w' E q r bf cap rest (x.room d).2.2.1 (x.room d).2.2.2 ∧ Only E w w' := by
  obtain ⟨_, k1, _, _, _, hs1, hs2, hhand⟩ := h.cells
  have h0 : ∀ k, k < x.L.length → w.cell? ⟨bf, k * 5, none⟩ = some (.int .i64 (rfNo (x.fr k))) := fun k hk => (h.frame hk).1
  have hfl : ∀ k, k < x.L.length → (0 ≤ rfNo (x.fr k) ↔ (x.fr k).full = true) := by
    intro k hk
    unfold rfNo
    by_cases hf : (x.fr k).full = true
    · rw [if_pos hf]
      have := hok.within k hk hf
      exact ⟨fun _ => hf, fun _ => this.1⟩
    · rw [if_neg hf]
      exact ⟨fun hh => by omega, fun hh => absurd hh hf⟩
  have hit : ∀ k, k < x.L.length → rfNo (x.fr k) < 0 → (∀ j, j < k → 0 ≤ rfNo (x.fr j)) → x.room d = (some k, 0, x, d) := by
    intro k hk a b
    have e : x.empty = some k := by
      refine find_hit hk ?_ fun j hj => ?_
      · have : ¬ (x.fr k).full = true := fun hh => by have := (hfl k hk).2 hh; omega
        unfold Cch.fr at this
        rw [getD_at hk] at this
        simpa using this
      · have hj' : j < x.L.length := Nat.lt_trans hj hk
        have : (x.fr j).full = true := (hfl j hj').1 (b j hj)
        unfold Cch.fr at this
        rw [getD_at hj'] at this
        simpa using this
    unfold Cch.room
    rw [e]
  have all : (∀ j, j < x.L.length → 0 ≤ rfNo (x.fr j)) → x.empty = none := by
    intro b
    refine find_none fun j hj => ?_
    have : (x.fr j).full = true := (hfl j hj).1 (b j hj)
    unfold Cch.fr at this
    rw [getD_at hj] at this
    simpa using this
  obtain ⟨n, hnn⟩ : ∃ n, n = x.L.length := ⟨_, rfl⟩
  obtain ⟨F, hF⟩ : ∃ F, F = fun k => rfNo (x.fr k) := ⟨_, rfl⟩
  have eF : ∀ k, rfNo (x.fr k) = F k := fun k => by rw [hF]
  simp only [eF] at h0 hit all
  rw [← hnn] at k1 hs1 hs2 h0 hit all hhand
  obtain ⟨hand, hha⟩ : ∃ hand, hand = x.hand := ⟨_, rfl⟩
  rw [← hha] at hhand
  have start : turnGo (2 * n - 0) ⟨x.L, (hand + 0) % n⟩ = x.turn := by
    rw [Nat.add_zero, Nat.mod_eq_of_lt hhand, hha, hnn]
    rfl
  have H0 := Lib.hid h0
  have Hit := Lib.hid hit
  have All := Lib.hid all
  have Hstart := Lib.hid start
  have H : Hid (CDR w E q r bf cap rest ⟨x.L, hand⟩ d) := Lib.hid (by rw [hha]; exact h)
  have Hx : Hid (CDR w E q r bf cap rest x d) := Lib.hid h
  have Hnn := Lib.hid hnn
  have Hok := Lib.hid hok
  have Hha := Lib.hid hha
  clear h h0 hit all hnn hF eF hok hfl start hha
  obtain ⟨R, hR⟩ : ∃ R, R = x.room d := ⟨_, rfl⟩
  rw [← hR] at Hit ⊢
  have HR := Lib.hid hR
  clear hR
  go_enter Try.func56, Try.ntmps56
  go_wp2_with fail
  go_loop [5] (fun i => ∃ k : Nat, k ≤ n ∧ i = .int .i64 (k : Int) ∧ Hid (∀ j, j < k → 0 ≤ F j)) (fun i => n - (intOf i).toNat)
  case atStart => exact ⟨0, by omega, rfl, Lib.hid fun j h => by omega⟩
  case round =>
    obtain ⟨k, hk, rfl, hno⟩ := hrel
    by_cases hlt : k < n
    · have a0 := H0.out k hlt
      have t0 : decide ((k : Int) < (n : Int)) = true := by simp [hlt]
      have b0 : (0 : Int) ≤ (k : Int) := by omega
      have b2 : ((k : Int)).toNat = k := by omega
      obtain ⟨m, hm⟩ : ∃ m, m = F k := ⟨_, rfl⟩
      rw [← hm] at a0
      by_cases e : m < 0
      · have hr := Hit.out k hlt (by rw [← hm]; exact e) hno.out
        have t1 : decide (m < 0) = true := by simp [e]
        subst hr
        clear hno e hm
        go_wp2_with fail
        go_ret2
        exact ⟨rfl, Hx.out, Only.refl _ _⟩
      · have nx : Hid (∀ j, j < k + 1 → 0 ≤ F j) := Lib.hid fun j hj => by
          by_cases e2 : j = k
          · subst e2; rw [← hm]; omega
          · exact hno.out j (by omega)
        have t1 : decide (m < 0) = false := by simp; omega
        clear hno e hm
        go_wp2_with fail
        go_round
        case rel => exact ⟨k + 1, hlt, by go_num, nx⟩
        case measure => simp [intOf]; omega
    · have e : n = k := by omega
      subst e
      have he := Lib.hid (All.out hno.out)
      have t0 : decide ((n : Int) < (n : Int)) = false := by simp
      clear hno All Hit H0
      go_wp2_with fail
      go_loopw [6] (fun i wr => ∃ (k : Nat), k ≤ 2 * n ∧ i = .int .i64 (k : Int) ∧ Hid (∃ L' : List Frm, L'.length = n ∧ turnGo (2 * n - k) ⟨L', (hand + k) % n⟩ = x.turn ∧ CDR wr E q r bf cap rest ⟨L', hand⟩ d) ∧ Only E w wr) (fun i _ => 2 * n - (intOf i).toNat)
      case atStart => exact ⟨0, by omega, rfl, Lib.hid ⟨x.L, Hnn.out.symm, Hstart.out, H.out⟩, Only.refl _ _⟩
      case round =>
        obtain ⟨k, hk, rfl, HY, ho⟩ := hrel
        obtain ⟨L', hL', hgo, hc⟩ := HY.out
        clear HY
        by_cases hlt : k < 2 * n
        · obtain ⟨hd, hhd⟩ : ∃ hd, hd = (hand + k) % n := ⟨_, rfl⟩
          have hdn : hd < n := by rw [hhd]; exact Nat.mod_lt _ (by omega)
          obtain ⟨g0, g1, g2, f1, f2, _, _, _⟩ := hc.cells
          obtain ⟨c0, c1, c2, c3⟩ := hc.frame (i := hd) (show hd < L'.length by rw [hL']; exact hdn)
          have ff := f2 (hd * 5 + 3)
          rw [show (Cch.mk L' hand).L.length = n from hL'] at g1
          have g2 : wr.cell? ⟨r, 2, none⟩ = some (.int .i64 (hand : Int)) := g2
          obtain ⟨fr, hfr⟩ : ∃ fr, fr = (Cch.mk L' hand).fr hd := ⟨_, rfl⟩
          rw [← hfr] at c0 c1 c2 c3
          have hfr2 : L'.getD hd Frm.zero = fr := hfr.symm
          have t0 : decide ((k : Int) < 2 * (n : Int)) = true := by simp; omega
          have b0 : (0 : Int) ≤ (hd : Int) := by omega
          have b1 : (hd : Int) < (n : Int) := by omega
          have b2 : ((hd : Int)).toNat = hd := by omega
          have b3 : IntKind.i64.wrap ((hand : Int) + (k : Int)) = (hand : Int) + (k : Int) := IntWalk.i64_in _ (by omega)
          have b4 : ((hand : Int) + (k : Int)).tmod (n : Int) = (hd : Int) := by rw [hhd, Int.tmod_eq_emod_of_nonneg (by omega)]; simp
          have b5 : IntKind.i64.wrap (hd : Int) = (hd : Int) := IntWalk.i64_in _ (by omega)
          have b6 : ¬ n = 0 := by omega
          have b7 : IntKind.i64.wrap ((hd : Int) + 1) = (hd : Int) + 1 := IntWalk.i64_in _ (by omega)
          obtain ⟨h2, hh2⟩ : ∃ h2, h2 = (hd + 1) % n := ⟨_, rfl⟩
          have b8 : ((hd : Int) + 1).tmod (n : Int) = (h2 : Int) := by rw [hh2, Int.tmod_eq_emod_of_nonneg (by omega)]; simp
          have b9 : IntKind.i64.wrap (h2 : Int) = (h2 : Int) := IntWalk.i64_in _ (by have := Nat.mod_lt (hd + 1) (show 0 < n by omega); omega)
          have hh3 : h2 = (hand + (k + 1)) % n := by rw [hh2, hhd, Nat.mod_add_mod]; rfl
          have hh2n : h2 < n := by rw [hh2]; exact Nat.mod_lt _ (by omega)
          obtain ⟨f3, hf3⟩ : ∃ f3, f3 = { fr with used := false } := ⟨_, rfl⟩
          rw [show 2 * n - k = (2 * n - (k + 1)) + 1 by omega, turnGo] at hgo
          simp only [← hhd, hfr2, hL', ← hh2, ← hf3] at hgo
          have Hc := Lib.hid hc
          have Ho := Lib.hid ho
          have Hgo := Lib.hid hgo
          have HL := Lib.hid hL'
          have Hfr := Lib.hid hfr
          have Hf3 := Lib.hid hf3
          have Hh3 := Lib.hid hh3
          have hh2n := Kept.mk hh2n
          clear hc ho hgo hL' hfr hf3 hh3 hfr2 hh2 f2 hhd H Hx
          obtain ⟨pn, hpn⟩ : ∃ pn, pn = fr.pins := ⟨_, rfl⟩
          obtain ⟨us, hus⟩ : ∃ us, us = fr.used := ⟨_, rfl⟩
          rw [← hpn] at c1 Hgo
          rw [← hus] at c3 Hgo
          clear hpn hus
          by_cases hp : 0 < pn
          · have d0 : decide (0 < (pn : Int)) = true := by simp [hp]
            have e := Hgo.out
            rw [if_pos hp] at e
            have e := Lib.hid e
            clear Hgo
            go_wp2_with fail
            go_roundw
            case rel => exact ⟨k + 1, hlt, by go_num, Lib.hid ⟨L', HL.out, by rw [← Hh3.out]; exact e.out, Hc.out⟩, Ho.out⟩
            case measure => simp [intOf]; omega
          · have d0 : pn = 0 := by omega
            subst d0
            have e := Hgo.out
            rw [if_neg hp] at e
            rcases us with _ | _
            · rw [if_neg (by simp)] at e
              have e := Lib.hid e
              clear Hgo
              have e2 : x.turn = (some hd, ⟨L', h2⟩) := e.out.symm
              obtain ⟨_, hful, hn0, hn1, hroom⟩ := room_hit Hok.out he.out e2
              rw [← HR.out] at hroom
              have hfr4 : (Cch.mk L' h2).fr hd = fr := Hfr.out.symm
              rw [hfr4] at hful hn0 hn1 hroom
              have hlen : hd < (Cch.mk L' h2).L.length := by rw [show (Cch.mk L' h2).L.length = n from HL.out]; exact hdn
              have hY : CDR (wr.setCell ⟨r, 2, none⟩ (.int .i64 (h2 : Int))) E q r bf cap rest ⟨L', h2⟩ d ∧ Only E wr (wr.setCell ⟨r, 2, none⟩ (.int .i64 (h2 : Int))) := Hc.out.turned (k := h2) (by rw [show (Cch.mk L' hand).L.length = n from HL.out]; exact hh2n.out)
              have hE1 : ∀ k, (wr.setCell ⟨r, 2, none⟩ (.int .i64 (h2 : Int))).heap.size ≤ k → E k := fun k hk => hE k (Nat.le_trans (Ho.out.trans hY.2).size hk)
              obtain ⟨y0, y1, _, _, _, _, _, _⟩ := hY.1.cells
              obtain ⟨z0, _, z2, _⟩ := hY.1.frame hlen
              obtain ⟨gu, cu, z4, hsec⟩ := hY.1.bytes hlen (by rw [hfr4]; exact hful)
              rw [hfr4] at z0 z2 hsec
              rw [show rfNo fr = fr.no by unfold rfNo; rw [if_pos hful]] at z0
              rw [show (Cch.mk L' h2).L.length = n from HL.out] at y1
              have hpl : ∀ w1 d1, CDR w1 E q r bf cap rest ⟨L', h2⟩ d1 → CDR (((((w1.setCell ⟨bf, hd * 5, none⟩ (.int .i64 (-1))).setCell ⟨bf, hd * 5 + 1, none⟩ (.int .i64 0)).setCell ⟨bf, hd * 5 + 2, none⟩ (.bool false)).setCell ⟨bf, hd * 5 + 3, none⟩ (.bool false)).setCell ⟨bf, hd * 5 + 4, none⟩ (.slice none 0 0)) E q r bf cap rest ((Cch.mk L' h2).wipe hd) d1 ∧ Only E w1 (((((w1.setCell ⟨bf, hd * 5, none⟩ (.int .i64 (-1))).setCell ⟨bf, hd * 5 + 1, none⟩ (.int .i64 0)).setCell ⟨bf, hd * 5 + 2, none⟩ (.bool false)).setCell ⟨bf, hd * 5 + 3, none⟩ (.bool false)).setCell ⟨bf, hd * 5 + 4, none⟩ (.slice none 0 0)) := fun w1 d1 h1 => h1.place5 hlen Frm.zero (.slice none 0 0) (fun hh => by cases hh)
              have hcl : ∀ w1 d1, CDR w1 E q r bf cap rest ⟨L', h2⟩ d1 → w1.cell? ⟨r, 1, none⟩ = some (.slice (some ⟨bf, 0, none⟩) n cap) ∧ w1.cell? ⟨bf, hd * 5, none⟩ = some (.int .i64 (rfNo fr)) ∧ w1.cell? ⟨bf, hd * 5 + 1, none⟩ = some (.int .i64 (fr.pins : Int)) ∧ w1.cell? ⟨bf, hd * 5 + 2, none⟩ = some (.bool fr.dirty) ∧ w1.cell? ⟨bf, hd * 5 + 3, none⟩ = some (.bool fr.used) ∧ (∃ gu cu, w1.cell? ⟨bf, hd * 5 + 4, none⟩ = some (.slice (some ⟨gu, 0, none⟩) 256 cu)) ∧ ∀ j, w1.frozen? ⟨bf, j, none⟩ = false := by
                intro w1 d1 h1
                obtain ⟨_, a1, _, _, a2, _, _, _⟩ := h1.cells
                obtain ⟨a3, a4, a5, a6⟩ := h1.frame hlen
                obtain ⟨gu, cu, a7, _⟩ := h1.bytes hlen (by rw [hfr4]; exact hful)
                rw [hfr4] at a3 a4 a5 a6
                rw [show (Cch.mk L' h2).L.length = n from HL.out] at a1
                exact ⟨a1, a3, a4, a5, a6, ⟨gu, cu, a7⟩, a2⟩
              have Hcl := Lib.hid hcl
              clear hcl
              have HY := Lib.hid hY.1
              have HO := Lib.hid (Ho.out.trans hY.2)
              have Hpl := Lib.hid hpl
              have Hroom := Lib.hid hroom
              have hW := hY.1.drew.write (fun k hk => hE1 k hk) hn (i := fr.no) hn0 hn1 (hsec.keep fun _ _ _ => rfl)
              have HW := Lib.hid hW
              obtain ⟨w1, hw1⟩ : ∃ w1, w1 = wr.setCell ⟨r, 2, none⟩ (.int .i64 (h2 : Int)) := ⟨_, rfl⟩
              rw [← hw1] at y0 y1 z0 z2 z4 HY HO HW
              have Hw1 := Lib.hid hw1
              have hdw := doWrite_told d fr.no fr.b ⟨hn0, hn1⟩
              obtain ⟨nn, hnn⟩ : ∃ nn, nn = fr.no := ⟨_, rfl⟩
              rw [← hnn] at z0 HW Hroom hdw
              obtain ⟨D, hD⟩ : ∃ D, D = d.doWrite nn fr.b := ⟨_, rfl⟩
              rw [← hD] at HW Hroom hdw
              have hD1 : D.1 = 0 ∨ D.1 = 3 := by
                rw [hdw]
                split
                · exact .inr rfl
                · exact .inl rfl
              obtain ⟨D1, D2⟩ := D
              obtain ⟨db, hdb⟩ : ∃ db, db = fr.dirty := ⟨_, rfl⟩
              rw [← hdb] at z2 c2 Hroom
              clear hY hE1 hpl hroom hW hdw hD hnn hdb hsec hful hn0 hn1 hfr4 hlen e e2 hw1
              rcases db with _ | _
              · have hr := Hroom.out
                rw [if_neg (by simp)] at hr
                subst hr
                obtain ⟨h3, h4⟩ := Hpl.out w1 d HY.out
                have H3 := Lib.hid h3
                have H4 := Lib.hid h4
                clear h3 h4 Hpl Hroom HW hD1
                rw [Hw1.out] at y0 y1 z0 z2 z4 H3 H4 HO
                go_wp2_with fail
                go_ret2
                exact ⟨rfl, H3.out, HO.out.trans H4.out⟩
              · have hr := Hroom.out
                rw [if_pos rfl] at hr
                have y1s := y1
                have z2s := z2
                rw [Hw1.out] at y1s z2s
                rcases hD1 with hD1 | hD1
                · have hD1' : D1 = 0 := hD1
                  subst hD1'
                  rw [if_pos rfl] at hr
                  subst hr
                  clear Hroom
                  go_wp2_with fail
                  rw [← Hw1.out]
                  clear y1s z2s Hw1
                  go_still_tail 20, (by kernel_rfl)
                  change wpList _ _ _ _ _ w1.drew
                  go_wp2_with (go_at_call 57; refine HW.out.mono ?_; rintro e w2 ⟨rfl, hc2, ho2⟩; obtain ⟨h3, h4⟩ := Hpl.out w2 D2 hc2; have H3 := Lib.hid h3; have H4 := Lib.hid (ho2.trans h4); obtain ⟨v1, p0, p1, p2, p3, ⟨_, _, p4⟩, v5⟩ := Hcl.out w2 D2 hc2; have q0 := v5 (hd * 5); have q1 := v5 (hd * 5 + 1); have q2 := v5 (hd * 5 + 2); have q3 := v5 (hd * 5 + 3); have q4 := v5 (hd * 5 + 4); clear h3 h4 hc2 ho2 v5)
                  go_ret2
                  exact ⟨rfl, H3.out, HO.out.trans ((Only.drew _ _).trans H4.out)⟩
                · have hD1' : D1 = 3 := hD1
                  subst hD1'
                  rw [if_neg (show ¬ (3 : Int) = 0 by decide)] at hr
                  subst hr
                  clear Hroom Hpl
                  go_wp2_with fail
                  rw [← Hw1.out]
                  clear y1s z2s Hw1
                  go_still_tail 20, (by kernel_rfl)
                  change wpList _ _ _ _ _ w1.drew
                  go_wp2_with (go_at_call 57; refine HW.out.mono ?_; rintro e w2 ⟨rfl, hc2, ho2⟩; have H3 := Lib.hid hc2; have H4 := Lib.hid ho2; clear hc2 ho2)
                  go_ret2
                  exact ⟨rfl, H3.out, HO.out.trans ((Only.drew _ _).trans H4.out)⟩
            · rw [if_pos rfl] at e
              have e := Lib.hid e
              have hU := Hc.out.uses (i := hd) (show hd < (Cch.mk L' hand).L.length by rw [show (Cch.mk L' hand).L.length = n from HL.out]; exact hdn) false
              have e3 : { (Cch.mk L' hand).L.getD hd Frm.zero with used := false } = f3 := by rw [Hf3.out, Hfr.out]
              rw [e3] at hU
              have HU := Lib.hid hU.1
              have HO := Lib.hid (Ho.out.trans hU.2)
              clear Hgo hU e3
              go_wp2_with fail
              go_roundw
              case rel => exact ⟨k + 1, hlt, by go_num, Lib.hid ⟨L'.set hd f3, by rw [List.length_set]; exact HL.out, by rw [← Hh3.out]; exact e.out, HU.out⟩, HO.out⟩
              case measure => simp [intOf]; omega
        · have e : k = 2 * n := by omega
          subst e
          have e0 : (hand + 2 * n) % n = hand := by rw [Nat.add_mul_mod_self_right, Nat.mod_eq_of_lt hhand]
          rw [Nat.sub_self, e0] at hgo
          have ht : x.turn = (none, ⟨L', hand⟩) := hgo.symm
          have hr : R = (none, 11, ⟨L', hand⟩, d) := by
            rw [HR.out]
            unfold Cch.room
            rw [he.out, ht]
          have t0 : decide (((2 * n : Nat) : Int) < 2 * (n : Int)) = false := by simp
          subst hr
          clear hgo ht
          go_wp2_with fail
          go_ret2
          exact ⟨rfl, hc, ho⟩
end
section
variable {w w' : World} {E E' : Nat → Prop} {q r bf cap : Nat} {rest : List Value} {P : List (Frm × Value)} {x : Cch} {d d' : Dev}
/-- Read of the device, of a sector that there is. -/
theorem CDR.read_io (h : CDR w E q r bf cap rest x d) (hE : ∀ k, w.heap.size ≤ k → E k) {i : Int} (h0 : 0 ≤ i) (hi : i < d.L.length) (hb : d.burns 1 = true) :
    Calls Try.prog 59 #[at0 q, .int .i64 i] w fun e w' => (∃ A c, e = .returned (.tuple #[.slice A 0 c, .int .i64 3])) ∧ CDR w' E q r bf cap rest x (d.burn 1) ∧ Only E w w' := by
  obtain ⟨m, rfl⟩ : ∃ m : Nat, i = m := ⟨i.toNat, by omega⟩
  obtain ⟨P, hc⟩ := h.cache
  obtain ⟨vL, vA, vB, ls, bs, y, hr, hl⟩ := h.dev
  refine (rread_io hr.heads (by rw [← hl.L]; omega) (by rw [← hl.burns (by omega) (by omega)]; exact hb)).mono ?_
  rintro e w' ⟨A, c, rfl, _, hd, ho⟩
  exact ⟨⟨A, c, rfl⟩, ⟨⟨P, hc.dev hr ho⟩, ⟨_, _, _, _, _, _, hr.back hE hd, hl.burn 1 (by omega) (by omega)⟩, h.own⟩, Only.heads hr hE ho⟩
theorem CDR.read_ok (h : CDR w E q r bf cap rest x d) (hE : ∀ k, w.heap.size ≤ k → E k) (hn : d.n < 1000000) {i : Int} (h0 : 0 ≤ i) (hi : i < d.L.length) (hb : d.burns 1 = false) :
    Calls Try.prog 59 #[at0 q, .int .i64 i] w fun e w' => ∃ gu cu, e = .returned (.tuple #[.slice (some ⟨gu, 0, none⟩) 256 cu, .int .i64 0]) ∧ SecIs w' E (.slice (some ⟨gu, 0, none⟩) 256 cu) (d.now i.toNat) ∧ CDR w' E q r bf cap rest x (d.burn 1) ∧ Only E w w' := by
  obtain ⟨m, rfl⟩ : ∃ m : Nat, i = m := ⟨i.toNat, by omega⟩
  obtain ⟨P, hc⟩ := h.cache
  obtain ⟨vL, vA, vB, ls, bs, y, hr, hl⟩ := h.dev
  rw [Int.toNat_natCast, hl.now (by omega)]
  refine (rread_ok hr.heads (by rw [← hl.L]; omega) (by rw [← hl.burns (by omega) (by omega)]; exact hb) (by rw [← hl.n]; exact hn)).mono ?_
  rintro e w' ⟨gu, cu, rfl, hs, hd, ho⟩
  exact ⟨gu, cu, rfl, hs, ⟨⟨P, hc.dev hr ho⟩, ⟨_, _, _, _, _, _, hr.back hE hd, hl.burn 1 (by omega) (by omega)⟩, h.own⟩, Only.heads hr hE ho⟩
theorem CDR.flush (h : CDR w E q r bf cap rest x d) (hE : ∀ k, w.heap.size ≤ k → E k) (hn : d.n < 1000000) :
    Calls Try.prog 58 #[at0 q] w fun e w' => e = .returned (.int .i64 d.doFlush.1) ∧ CDR w' E q r bf cap rest x d.doFlush.2 ∧ Only E w w' := by
  obtain ⟨P, hc⟩ := h.cache
  obtain ⟨vL, vA, vB, ls, bs, y, hr, hl⟩ := h.dev
  unfold Dev.doFlush
  by_cases hb : d.burns 3 = true
  · rw [if_pos hb]
    refine (rflush_io hr.heads (by rw [← hl.burns (by omega) (by omega)]; exact hb)).mono ?_
    rintro e w' ⟨rfl, hd, ho⟩
    exact ⟨rfl, ⟨⟨P, hc.dev hr ho⟩, ⟨_, _, _, _, _, _, hr.back hE hd, hl.burn 3 (by omega) (by omega)⟩, h.own⟩, Only.heads hr hE ho⟩
  · rw [if_neg hb]
    refine (rflush_ok hr.heads (by rw [← hl.burns (by omega) (by omega)]; simpa using hb) (by rw [← hl.n]; exact hn) (fun k hk => Hd.new k hk)).mono ?_
    rintro e w' ⟨vA', vB', ls', rfl, hd, ho⟩
    exact ⟨rfl, ⟨⟨P, hc.dev hr ho⟩, ⟨_, _, _, _, _, _, hr.back hE hd, (hl.burn 3 (by omega) (by omega)).flush⟩, h.own⟩, Only.heads hr hE ho⟩
theorem CDR.fail (h : CDR w E q r bf cap rest x d) (hE : ∀ k, w.heap.size ≤ k → E k) {k a : Int} (ha : a ≤ 9223372036854775807) :
    Calls Try.prog 34 #[at0 q, .int .i64 k, .int .i64 a] w fun e w' => e = .returned (.int .i64 (d.doFail k a).1) ∧ CDR w' E q r bf cap rest x (d.doFail k a).2 ∧ Only E w w' := by
  unfold Dev.doFail
  by_cases hk : k < 1 ∨ 3 < k ∨ a < 0
  · rw [if_pos hk]
    refine (rfail_arg w q hk).mono ?_
    rintro e w' ⟨rfl, rfl⟩
    exact ⟨rfl, h, Only.refl _ _⟩
  · rw [if_neg hk]
    obtain ⟨m, rfl⟩ : ∃ m : Nat, k = m := ⟨k.toNat, by omega⟩
    obtain ⟨b, rfl⟩ : ∃ b : Nat, a = b := ⟨a.toNat, by omega⟩
    obtain ⟨P, hc⟩ := h.cache
    obtain ⟨vL, vA, vB, ls, bs, y, hr, hl⟩ := h.dev
    refine (rfail_any hr.heads (k := m) (a := b) (by omega) (by omega) (by omega)).mono ?_
    rintro e w' ⟨rfl, hd, ho⟩
    exact ⟨rfl, ⟨⟨P, hc.dev hr ho⟩, ⟨_, _, _, _, _, _, hr.back hE hd, by rw [Int.toNat_natCast, Int.toNat_natCast]; exact hl.told m b⟩, h.own⟩, Only.heads hr hE ho⟩
/-- At, by the cache. -/
theorem CDR.at_ (h : CDR w E q r bf cap rest x d) {n : Nat} (hok : x.Ok n) (no : Int) : Calls Try.prog 38 #[at0 r, .int .i64 no] w fun e w' => e = .returned (.int .i64 (atOf (x.holder no))) ∧ w = w' := by
  obtain ⟨P, hc⟩ := h.cache
  exact rat_any hc hok no
/-- The fifth cell of a frame. -/
theorem CDR.cellZ (h : CDR w E q r bf cap rest x d) {i : Nat} (hi : i < x.L.length) : ∃ u, w.cell? ⟨bf, i * 5 + 4, none⟩ = some u := by
  obtain ⟨P, hc⟩ := h.cache
  have hp : i < P.length := by rw [hc.len]; exact hi
  exact ⟨_, hc.cellF (j := 4) (v := P[i].2) hp rfl⟩
set_option maxRecDepth 100000 in
theorem rdrop_any (h : CDR w E q r bf cap rest x d) {n : Nat} (hok : x.Ok n) (no : Int) :
    Calls Try.prog 32 #[at0 r, .int .i64 no] w fun e w' => e = .returned (.bool (x.drop no).1) ∧ CDR w' E q r bf cap rest (x.drop no).2 d ∧ Only E w w' := by
  have hA := h.at_ hok no
  rcases hh : x.holder no with _ | i
  · rw [hh] at hA
    have e : x.drop no = (false, x) := by unfold Cch.drop; rw [hh]
    rw [e]
    have HA := Lib.hid hA
    have H := Lib.hid h
    clear hA h hh e hok
    rw [show atOf none = -1 from rfl] at HA
    go_enter Try.func32, Try.ntmps32
    go_wp2_with (first | (go_at_call 38; refine HA.out.mono ?_; rintro e w1 ⟨rfl, rfl⟩))
    go_ret
    exact ⟨rfl, H.out, Only.refl _ _⟩
  · rw [hh] at hA
    obtain ⟨hi, _, _⟩ := holder_lt hh
    obtain ⟨_, k1, _, _, ff, _, hs2, _⟩ := h.cells
    obtain ⟨c0, c1, c2, c3⟩ := h.frame hi
    have hp := h.place5 hi Frm.zero (.slice none 0 0) (fun hh => by cases hh)
    have e : x.drop no = if (x.fr i).pins = 0 then (true, x.wipe i) else (false, x) := by unfold Cch.drop; rw [hh]
    rw [e]
    obtain ⟨pn, hpn⟩ : ∃ pn, pn = (x.fr i).pins := ⟨_, rfl⟩
    rw [← hpn] at c1 ⊢
    obtain ⟨n', hn'⟩ : ∃ n', n' = x.L.length := ⟨_, rfl⟩
    rw [← hn'] at k1 hs2
    have hin : i < n' := by rw [hn']; exact hi
    have HA := Lib.hid hA
    have H := Lib.hid h
    have Hp1 : Hid (CDR (((((w.setCell ⟨bf, i * 5, none⟩ (.int .i64 (-1))).setCell ⟨bf, i * 5 + 1, none⟩ (.int .i64 0)).setCell ⟨bf, i * 5 + 2, none⟩ (.bool false)).setCell ⟨bf, i * 5 + 3, none⟩ (.bool false)).setCell ⟨bf, i * 5 + 4, none⟩ (.slice none 0 0)) E q r bf cap rest (x.wipe i) d) := Lib.hid hp.1
    have Hp2 : Hid (Only E w (((((w.setCell ⟨bf, i * 5, none⟩ (.int .i64 (-1))).setCell ⟨bf, i * 5 + 1, none⟩ (.int .i64 0)).setCell ⟨bf, i * 5 + 2, none⟩ (.bool false)).setCell ⟨bf, i * 5 + 3, none⟩ (.bool false)).setCell ⟨bf, i * 5 + 4, none⟩ (.slice none 0 0))) := Lib.hid hp.2
    have hz := h.cellZ hi
    obtain ⟨u4, c4⟩ := hz
    have f0 := ff (i * 5)
    have f1 := ff (i * 5 + 1)
    have f2 := ff (i * 5 + 2)
    have f3 := ff (i * 5 + 3)
    have f4 := ff (i * 5 + 4)
    have b0 : (0 : Int) ≤ (i : Int) := by omega
    have b1 : (i : Int) < (n' : Int) := by omega
    have b2 : ((i : Int)).toNat = i := by omega
    have t0 : decide ((i : Int) < 0) = false := by simp
    rw [show atOf (some i) = (i : Int) from rfl] at HA
    clear hA h hh e hok hp ff hpn hn' hi
    by_cases hp0 : pn = 0
    · subst hp0
      rw [if_pos rfl]
      go_enter Try.func32, Try.ntmps32
      go_wp2_with (first | (go_at_call 38; refine HA.out.mono ?_; rintro e w1 ⟨rfl, rfl⟩))
      go_ret
      exact ⟨rfl, Hp1.out, Hp2.out⟩
    · rw [if_neg hp0]
      have t1 : decide (0 < (pn : Int)) = true := by simp; omega
      go_enter Try.func32, Try.ntmps32
      go_wp2_with (first | (go_at_call 38; refine HA.out.mono ?_; rintro e w1 ⟨rfl, rfl⟩))
      go_ret
      exact ⟨rfl, H.out, Only.refl _ _⟩
end
/-- One pin more, or one less. -/
def Cch.pinBy (x : Cch) (no s : Int) : Bool × Cch :=
  match x.holder no with
  | none => (false, x)
  | some i => if ((x.fr i).pins : Int) + s < 0 then (false, x) else (true, x.pinned i (((x.fr i).pins : Int) + s).toNat)
theorem pinBy_one (x : Cch) (no : Int) : x.pinBy no 1 = x.pin no := by
  unfold Cch.pinBy Cch.pin
  rcases x.holder no with _ | i
  · rfl
  · show (if ((x.fr i).pins : Int) + 1 < 0 then _ else _) = (true, x.pinned i ((x.fr i).pins + 1))
    rw [if_neg (by omega), show (((x.fr i).pins : Int) + 1).toNat = (x.fr i).pins + 1 by omega]
theorem pinBy_less (x : Cch) (no : Int) : x.pinBy no (-1) = x.unpin no := by
  unfold Cch.pinBy Cch.unpin
  rcases x.holder no with _ | i
  · rfl
  · show (if ((x.fr i).pins : Int) + -1 < 0 then _ else _) = if (x.fr i).pins = 0 then _ else (true, x.pinned i ((x.fr i).pins - 1))
    by_cases h : (x.fr i).pins = 0
    · rw [if_pos h, if_pos (by omega)]
    · rw [if_neg h, if_neg (by omega), show (((x.fr i).pins : Int) + -1).toNat = (x.fr i).pins - 1 by omega]
section
variable {w w' : World} {E E' : Nat → Prop} {q r bf cap : Nat} {rest : List Value} {P : List (Frm × Value)} {x : Cch} {d d' : Dev}
set_option maxRecDepth 100000 in
set_option maxHeartbeats 800000 in
theorem rpin_any (h : CDR w E q r bf cap rest x d) {n : Nat} (hok : x.Ok n) (hp : ∀ i, (x.L.getD i Frm.zero).pins < 1000000) (no : Int) {s : Int} (hs : s = 1 ∨ s = -1) :
    Calls Try.prog 31 #[at0 r, .int .i64 no, .int .i64 s] w fun e w' => e = .returned (.bool (x.pinBy no s).1) ∧ CDR w' E q r bf cap rest (x.pinBy no s).2 d ∧ Only E w w' := by
  have hA := h.at_ hok no
  have hs0 : -1 ≤ s ∧ s ≤ 1 := by omega
  rcases hh : x.holder no with _ | i
  · rw [hh] at hA
    have e : x.pinBy no s = (false, x) := by unfold Cch.pinBy; rw [hh]
    rw [e]
    have HA := Lib.hid hA
    have H := Lib.hid h
    clear hA h hh e hok hp hs
    rw [show atOf none = -1 from rfl] at HA
    go_enter Try.func31, Try.ntmps31
    go_wp2_with (first | (go_at_call 38; refine HA.out.mono ?_; rintro e w1 ⟨rfl, rfl⟩))
    go_ret
    exact ⟨rfl, H.out, Only.refl _ _⟩
  · rw [hh] at hA
    obtain ⟨hi, _, _⟩ := holder_lt hh
    obtain ⟨_, k1, _, _, ff, _, hs2, _⟩ := h.cells
    obtain ⟨c0, c1, c2, c3⟩ := h.frame hi
    have hpi : (x.fr i).pins < 1000000 := hp i
    have e : x.pinBy no s = if ((x.fr i).pins : Int) + s < 0 then (false, x) else (true, x.pinned i (((x.fr i).pins : Int) + s).toNat) := by unfold Cch.pinBy; rw [hh]
    rw [e]
    obtain ⟨pn, hpn⟩ : ∃ pn, pn = (x.fr i).pins := ⟨_, rfl⟩
    rw [← hpn] at c1 hpi ⊢
    obtain ⟨n', hn'⟩ : ∃ n', n' = x.L.length := ⟨_, rfl⟩
    rw [← hn'] at k1 hs2
    have hin : i < n' := by rw [hn']; exact hi
    have HA := Lib.hid hA
    have H := Lib.hid h
    have f1 := ff (i * 5 + 1)
    have b0 : (0 : Int) ≤ (i : Int) := by omega
    have b1 : (i : Int) < (n' : Int) := by omega
    have b2 : ((i : Int)).toNat = i := by omega
    have t0 : decide ((i : Int) < 0) = false := by simp
    have b3 : IntKind.i64.wrap ((pn : Int) + s) = (pn : Int) + s := IntWalk.i64_in _ (by omega)
    rw [show atOf (some i) = (i : Int) from rfl] at HA
    by_cases hp0 : (pn : Int) + s < 0
    · rw [if_pos hp0]
      have t1 : decide ((pn : Int) + s < 0) = true := by simp [hp0]
      clear hA h hh e hok ff hpn hn' hi hp hs
      go_enter Try.func31, Try.ntmps31
      go_wp2_with (first | (go_at_call 38; refine HA.out.mono ?_; rintro e w1 ⟨rfl, rfl⟩))
      go_ret
      exact ⟨rfl, H.out, Only.refl _ _⟩
    · rw [if_neg hp0]
      have t1 : decide ((pn : Int) + s < 0) = false := by simp; omega
      obtain ⟨m, hm⟩ : ∃ m : Nat, (pn : Int) + s = m := ⟨((pn : Int) + s).toNat, by omega⟩
      rw [hm] at t1 b3 ⊢
      rw [Int.toNat_natCast]
      obtain ⟨h1, h2⟩ := h.drew.pins hi m
      have H1 := Lib.hid h1
      have H2 := Lib.hid ((Only.drew E w).trans h2)
      clear hA h hh e hok ff hpn hn' hi hp hs h1 h2 hp0
      go_enter Try.func31, Try.ntmps31
      go_wp2_with (first | (go_at_call 38; refine HA.out.mono ?_; rintro e w1 ⟨rfl, rfl⟩))
      go_still_tail 17, (by kernel_rfl)
      go_wp2_with fail
      go_ret
      exact ⟨rfl, H1.out, H2.out⟩
end
end Go.Proofs.Ytfjcblppmoomdaa
