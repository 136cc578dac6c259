/-
  keysMayBe, kidsMayBe of package node, by contracts.
-/
import Derived.Test.YtceefoopehoalaaNdA
namespace Go.Proofs.Ytceefoopehoalaa
open Go.RowKit
/-- The cells of whole numbers. -/
def cellsI (l : List Int) : List Value := l.map fun i => Value.int .i64 i
theorem cellsI_length (l : List Int) : (cellsI l).length = l.length := by simp [cellsI]
theorem cellsI_append (l m : List Int) : cellsI (l ++ m) = cellsI l ++ cellsI m := by simp [cellsI]
theorem cellsI_one (l : List Int) : ∀ u ∈ cellsI l, u.oneCell' = true := by
  intro u hu
  obtain ⟨_, _, rfl⟩ := List.mem_map.1 hu
  rfl
theorem cellsI_at (l : List Int) (k : Nat) (h : k < l.length) : (cellsI l)[k]? = some (.int .i64 (l.getD k 0)) := by simp [cellsI, List.getD, h]
/-- Where numbers that are not none lie. -/
theorem Rd.addrI {w : World} {B : Nat} {A : Option Addr} {n c : Nat} {l : List Int} (h : Rd w B (.slice A n c) (cellsI l)) (hn : 0 < n) : ∃ b o, A = some ⟨b, o, none⟩ ∧ b < B := by
  obtain ⟨A', c', e, _, _, _, h4⟩ := h
  injection e with e1 e2 e3
  subst e1 e2
  obtain ⟨b, o, e, hb, _⟩ := h4 hn
  exact ⟨b, o, e, hb⟩
theorem Rd.lenI {w : World} {B : Nat} {A : Option Addr} {n c : Nat} {l : List Int} (h : Rd w B (.slice A n c) (cellsI l)) : n = l.length ∧ n ≤ c ∧ c ≤ 9223372036854775807 := by
  obtain ⟨A', c', e, h1, h2, _⟩ := h
  injection e with e1 e2 e3
  subst e1 e2 e3
  rw [cellsI_length] at *
  unfold maxLen at h2
  omega
theorem Rd.cellI {w : World} {B b o : Nat} {n c : Nat} {l : List Int} (h : Rd w B (.slice (some ⟨b, o, none⟩) n c) (cellsI l)) {k : Nat} (hk : k < n) : w.cell? ⟨b, o + k, none⟩ = some (.int .i64 (l.getD k 0)) := by
  have hl := h.lenI.1
  obtain ⟨A', c', e, _, _, _, h4⟩ := h
  injection e with e1 e2 e3
  subst e1
  obtain ⟨b', o', e, _, hc⟩ := h4 (by rw [← e2]; omega)
  injection e with e
  injection e with e1 e2
  subst e1 e2
  exact hc k _ (cellsI_at l k (by omega))

set_option maxHeartbeats 400000 in
theorem kids_any (A : Option Addr) (n c : Nat) (ks : List Int) (w : World) (B : Nat) (hr : Rd w B (.slice A n c) (cellsI ks)) (hn : n ≤ 1000000) :
    Calls Try.prog 54 #[.slice A n c] w fun e w' => e = .returned (.bool (kidsB ks)) ∧ w = w' := by
  obtain ⟨hl, hnc, hcm⟩ := hr.lenI
  have Hl := Lib.hid hl
  clear hl
  go_enter Try.func54, Try.ntmps54
  go_wp2_with fail
  go_loop [7] (fun iv => ∃ k : Nat, k ≤ n ∧ iv = .int .i64 k ∧ Hid (∀ j, j < k → KidOk (ks.getD j 0))) (fun i => n - (intOf i).toNat)
  case atStart => exact ⟨0, Nat.zero_le _, rfl, Lib.hid (fun j h => by omega)⟩
  case round =>
    obtain ⟨k, hk, rfl, HI⟩ := hrel
    by_cases hlt : k < n
    · obtain ⟨b, o, rfl, hb⟩ := hr.addrI (by omega)
      have hc := hr.cellI hlt
      obtain ⟨d, hd⟩ : ∃ d, d = ks.getD k 0 := ⟨_, rfl⟩
      rw [← hd] at hc
      have Hd := Lib.hid hd
      clear hd
      by_cases h0 : d < 0
      · go_wp2_with fail
        go_ret
        exact ⟨by rw [← kidsB_no (k := k) (by rw [← Hl.out]; exact hlt) (by rw [← Hd.out]; intro h; have := h.1; omega)]; rfl, rfl⟩
      · by_cases h1 : d < 1600
        · go_wp2_with fail
          go_round
          case rel => exact ⟨k + 1, by omega, by go_num, Lib.hid (fun j hj => by
            by_cases e : j = k
            · subst e; rw [← Hd.out]; exact ⟨by omega, h1⟩
            · exact HI.out j (by omega))⟩
          case measure => simp [intOf]; omega
        · have h2 : 1600 ≤ d := by omega
          go_wp2_with fail
          go_ret
          exact ⟨by rw [← kidsB_no (k := k) (by rw [← Hl.out]; exact hlt) (by rw [← Hd.out]; intro h; have := h.2; omega)]; rfl, rfl⟩
    · have : k = n := by omega
      subst this
      go_wp2_with fail
      go_ret
      exact ⟨by rw [← kidsB_yes (fun j hj => HI.out j (by rw [Hl.out]; exact hj))]; rfl, rfl⟩

set_option maxHeartbeats 400000 in
theorem keys_any (A : Option Addr) (n c : Nat) (ks : List (List UInt8)) (w : World) (B : Nat) (hr : RdAll w B (.slice A n c) ks) (hn : n ≤ 1000000) :
    Calls Try.prog 52 #[.slice A n c] w fun e w' => e = .returned (.bool (keysB ks)) ∧ w = w' := by
  obtain ⟨hl, hnc, hcm⟩ := hr.len
  have Hl := Lib.hid hl
  clear hl
  go_enter Try.func52, Try.ntmps52
  go_wp2_with fail
  go_loop [7] (fun iv => ∃ k : Nat, k ≤ n ∧ iv = .int .i64 k ∧ Hid (∀ j, j < k → KeyAt ks j)) (fun i => n - (intOf i).toNat)
  case atStart => exact ⟨0, Nat.zero_le _, rfl, Lib.hid (fun j h => by omega)⟩
  case round =>
    obtain ⟨k, hk, rfl, HI⟩ := hrel
    by_cases hlt : k < n
    · obtain ⟨b, o, rfl, hb⟩ := hr.addr (by omega)
      obtain ⟨A', m, c', hc, hp, hm, hmc, hmx⟩ := hr.cell hlt
      have Hm := Lib.hid hm
      clear hm
      have hv := fun W => keymay_any A' m c' W
      by_cases h : 1 ≤ m ∧ m ≤ 24
      · rw [decide_eq_true h] at hv
        have Hk := Lib.hid h
        clear h
        by_cases hk0 : 0 < k
        · obtain ⟨j, rfl⟩ : ∃ j, k = j + 1 := ⟨k - 1, by omega⟩
          obtain ⟨A2, m2, c2, hc2, hp2, hm2, hmc2, hmx2⟩ := hr.cell (k := j) (by omega)
          have hcmp := fun W (h1 : Rd W B (.slice A2 m2 c2) (cellsB (ks.getD j []))) (h2 : Rd W B (.slice A' m c') (cellsB (ks.getD (j + 1) []))) => bcmp_any h1 h2
          obtain ⟨x, hx⟩ : ∃ x, x = cmpB (ks.getD j []) (ks.getD (j + 1) []) := ⟨_, rfl⟩
          rw [← hx] at hcmp
          have hx1 := cmpB_range (ks.getD j []) (ks.getD (j + 1) [])
          rw [← hx] at hx1
          obtain ⟨hx1, hx2⟩ := hx1
          have Hx := Lib.hid hx
          clear hx hm2
          have HC := Lib.hid (hcmp w hp2 hp)
          clear hcmp
          by_cases hneg : x < 0
          · go_wp2_with (first | (go_at_call 38; refine (hv _).mono ?_; rintro e w' ⟨rfl, rfl⟩) | (go_at_call 36; refine HC.out.mono ?_; rintro e w' ⟨rfl, rfl⟩))
            go_round
            case rel => exact ⟨j + 2, by omega, by go_num, Lib.hid (fun i hi => by
              by_cases e : i = j + 1
              · subst e; refine ⟨by unfold KeyOk; rw [← Hm.out]; exact Hk.out, fun _ => ?_⟩
                rw [Nat.add_sub_cancel, ← Hx.out]; exact hneg
              · exact HI.out i (by omega))⟩
            case measure => simp [intOf]; omega
          · have hpos : 0 ≤ x := by omega
            go_wp2_with (first | (go_at_call 38; refine (hv _).mono ?_; rintro e w' ⟨rfl, rfl⟩) | (go_at_call 36; refine HC.out.mono ?_; rintro e w' ⟨rfl, rfl⟩))
            go_ret
            exact ⟨by rw [← keysB_no (k := j + 1) (by rw [← Hl.out]; exact hlt) (fun g => by have := g.2 (by omega); rw [Nat.add_sub_cancel, ← Hx.out] at this; omega)]; rfl, rfl⟩
        · go_wp2_with (go_at_call 38; refine (hv _).mono ?_; rintro e w' ⟨rfl, rfl⟩)
          go_round
          case rel => exact ⟨k + 1, by omega, by go_num, Lib.hid (fun i hi => by
              obtain rfl : k = 0 := by omega
              obtain rfl : i = 0 := by omega
              exact ⟨by unfold KeyOk; rw [← Hm.out]; exact Hk.out, fun h => by omega⟩)⟩
          case measure => simp [intOf]; omega
      · rw [decide_eq_false h] at hv
        have Hk := Lib.hid h
        clear h
        go_wp2_with (go_at_call 38; refine (hv _).mono ?_; rintro e w' ⟨rfl, rfl⟩)
        go_ret
        have h := Hk.out
        rw [Hm.out] at h
        exact ⟨by rw [← keysB_no (k := k) (by rw [← Hl.out]; exact hlt) (fun g => h g.1)]; rfl, rfl⟩
    · have : k = n := by omega
      subst this
      go_wp2_with fail
      go_ret
      exact ⟨by rw [← keysB_yes (fun j hj => HI.out j (by rw [Hl.out]; exact hj))]; rfl, rfl⟩
end Go.Proofs.Ytceefoopehoalaa
