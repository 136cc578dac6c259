/-
  The small functions of package node, by contracts: bytes.Compare, keyMayBe, valMayBe, keysMayBe, valsMayBe, kidsMayBe.
-/
import Derived.Test.YtceefoopehoalaaNdMath
namespace Go.Proofs.Ytceefoopehoalaa
open Go.RowKit
section
variable {P : Program}
theorem run_loadX (w : World) : ∀ (l : List UInt8) (a : Addr) (acc : ByteArray), (∀ j x, l[j]? = some x → w.cell? (a.add j) = some (.int .u8 (x.toNat : Int))) →
    (Extern.Bytes.loadBytes a l.length acc).run P w = .ok ⟨acc.data ++ l.toArray⟩ w
  | [], a, acc, _ => by simp [Extern.Bytes.loadBytes]
  | x :: l, a, acc, h => by
    have h0 : w.cell? a = some (.int .u8 (x.toNat : Int)) := by
      have := h 0 x rfl
      simpa [Addr.add] using this
    have ih := run_loadX w l (a.add 1) (acc.push x) (fun j y hy => by
      have := h (j + 1) y (by simpa using hy)
      have e : (a.add 1).add j = a.add (j + 1) := by
        unfold Addr.add
        by_cases hj : j = 0
        · subst hj; simp
        · simp [hj]; omega
      rw [e]; exact this)
    have hx : ((x.toNat : Int).toNat).toUInt8 = x := by simp
    simp only [List.length_cons, Extern.Bytes.loadBytes, Sem.run_bind, run_load, h0, Result.andThen, hx]
    rw [ih]
    congr 1
    apply ByteArray.ext
    simp [ByteArray.push]
theorem run_bytesOf {w : World} {B : Nat} {v : Value} {l : List UInt8} (h : Rd w B v (cellsB l)) : (Extern.Bytes.bytesOf v).run P w = .ok ⟨l.toArray⟩ w := by
  obtain ⟨A, c, rfl, g1, g2, g3, g4⟩ := h
  rw [cellsB_length] at *
  rcases A with _ | ad
  · have hc := g3 rfl
    have hn : l = [] := List.eq_nil_of_length_eq_zero (by omega)
    subst hn
    rfl
  · unfold Extern.Bytes.bytesOf
    dsimp only
    rw [run_loadX w l ad .empty (fun j x hx => by
      have hj := (List.getElem?_eq_some_iff.1 hx).1
      obtain ⟨b, o, he, _, hc⟩ := g4 (by omega)
      injection he with he
      subst he
      rw [Addr.add_lit]
      exact hc j _ (by simp [cellsB, hx]))]
    simp
theorem run_compareRd {w : World} {B C : Nat} {a b : Value} {l m : List UInt8} (h1 : Rd w B a (cellsB l)) (h2 : Rd w C b (cellsB m)) :
    (Extern.BytealgCompare.compare #[a, b]).run P w = .ok (.int .i64 (cmpB l m)) w := by
  change Sem.run P (do pure (goInt (Extern.BytealgCompare.cmp (← Extern.Bytes.bytesOf a) (← Extern.Bytes.bytesOf b)))) w = _
  simp only [Sem.run_bind, Sem.run_pure, run_bytesOf h1, run_bytesOf h2, Result.andThen]
  rw [Lib.cmp_eq]
  rfl
end
theorem bcmp_any {a b : Value} {l m : List UInt8} {w : World} {B C : Nat} (h1 : Rd w B a (cellsB l)) (h2 : Rd w C b (cellsB m)) :
    Calls Try.prog 36 #[a, b] w fun e w' => e = .returned (.int .i64 (cmpB l m)) ∧ w = w' := by
  go_enter Try.func36, Try.ntmps36
  go_wp2
  rw [run_callFunc_extern Try.func51 (by kernel_rfl) (by kernel_rfl) (by kernel_rfl) (e := Extern.BytealgCompare.compare) (by kernel_rfl), run_compareRd h1 h2]
  simp only [Result.andThen]
  rw [Oper.upon_value]
  go_wp2
  go_ret
  exact ⟨rfl, rfl⟩
theorem keymay_any (A : Option Addr) (n c : Nat) (w : World) : Calls Try.prog 38 #[.slice A n c] w fun e w' => e = .returned (.bool (decide (1 ≤ n ∧ n ≤ 24))) ∧ w = w' := by
  by_cases h1 : 1 ≤ n
  · by_cases h2 : n ≤ 24
    · go_enter Try.func38, Try.ntmps38
      go_wp2
      go_ret
      exact ⟨by simp [h1, h2]; omega, rfl⟩
    · go_enter Try.func38, Try.ntmps38
      go_wp2
      go_ret
      exact ⟨by simp [h2]; omega, rfl⟩
  · go_enter Try.func38, Try.ntmps38
    go_wp2
    go_ret
    exact ⟨by simp, rfl⟩
theorem valmay_any (A : Option Addr) (n c : Nat) (w : World) : Calls Try.prog 39 #[.slice A n c] w fun e w' => e = .returned (.bool (decide (n ≤ 24))) ∧ w = w' := by
  by_cases h2 : n ≤ 24
  · go_enter Try.func39, Try.ntmps39
    go_wp2
    go_ret
    exact ⟨by simp; omega, rfl⟩
  · go_enter Try.func39, Try.ntmps39
    go_wp2
    go_ret
    exact ⟨by simp; omega, rfl⟩

/-- Where texts that are not none lie. -/
theorem RdAll.addr {w : World} {B : Nat} {A : Option Addr} {n c : Nat} {ls : List (List UInt8)} (h : RdAll w B (.slice A n c) ls) (hn : 0 < n) : ∃ b o, A = some ⟨b, o, none⟩ ∧ b < B := by
  obtain ⟨b, o, _, _, _, e, hb, _⟩ := h.at_ hn
  exact ⟨b, o, e, hb⟩
/-- The text at place k. -/
theorem RdAll.cell {w : World} {B b o : Nat} {n c : Nat} {ls : List (List UInt8)} (h : RdAll w B (.slice (some ⟨b, o, none⟩) n c) ls) {k : Nat} (hk : k < n) :
    ∃ A' m c', w.cell? ⟨b, o + k, none⟩ = some (.slice A' m c') ∧ Rd w B (.slice A' m c') (cellsB (ls.getD k [])) ∧ m = (ls.getD k []).length ∧ m ≤ c' ∧ c' ≤ 9223372036854775807 := by
  obtain ⟨b', o', A', c', hl, e, hb, hc, hr⟩ := h.at_ hk
  injection e with e
  injection e with e1 e2
  subst e1 e2
  have e : ls.getD k [] = ls[k] := by simp [List.getD, hl]
  obtain ⟨_, c2, e2, h1, h2, _⟩ := hr.bytes
  injection e2 with _ _ e2
  subst e2
  rw [e]
  exact ⟨A', _, c', hc, hr, rfl, h1, h2⟩
noncomputable def keysB (ks : List (List UInt8)) : Bool := @decide (KeysOk ks) (Classical.propDecidable _)
noncomputable def valsB (ks : List (List UInt8)) : Bool := @decide (ValsOk ks) (Classical.propDecidable _)
noncomputable def kidsB (ks : List Int) : Bool := @decide (KidsOk ks) (Classical.propDecidable _)
theorem keysB_iff {ks : List (List UInt8)} : keysB ks = true ↔ KeysOk ks := by simp [keysB]
theorem valsB_iff {ks : List (List UInt8)} : valsB ks = true ↔ ValsOk ks := by simp [valsB]
theorem kidsB_iff {ks : List Int} : kidsB ks = true ↔ KidsOk ks := by simp [kidsB]
theorem keysB_yes {ks : List (List UInt8)} (h : KeysOk ks) : true = keysB ks := (keysB_iff.2 h).symm
theorem keysB_no {ks : List (List UInt8)} {k : Nat} (hk : k < ks.length) (h : ¬ KeyAt ks k) : false = keysB ks := by simpa [keysB] using fun g : KeysOk ks => h (g k hk)
theorem valsB_yes {ks : List (List UInt8)} (h : ValsOk ks) : true = valsB ks := (valsB_iff.2 h).symm
theorem valsB_no {ks : List (List UInt8)} {k : Nat} (hk : k < ks.length) (h : ¬ (ks.getD k []).length ≤ 24) : false = valsB ks := by simpa [valsB] using fun g : ValsOk ks => h (g k hk)
theorem kidsB_yes {ks : List Int} (h : KidsOk ks) : true = kidsB ks := (kidsB_iff.2 h).symm
theorem kidsB_no {ks : List Int} {k : Nat} (hk : k < ks.length) (h : ¬ KidOk (ks.getD k 0)) : false = kidsB ks := by simpa [kidsB] using fun g : KidsOk ks => h (g k hk)

set_option maxHeartbeats 400000 in
theorem vals_any (A : Option Addr) (n c : Nat) (ks : List (List UInt8)) (w : World) (B : Nat) (hr : RdAll w B (.slice A n c) ks) (hn : n ≤ 1000000) :
    Calls Try.prog 53 #[.slice A n c] w fun e w' => e = .returned (.bool (valsB ks)) ∧ w = w' := by
  obtain ⟨hl, hnc, hcm⟩ := hr.len
  have Hl := Lib.hid hl
  clear hl
  go_enter Try.func53, Try.ntmps53
  go_wp2_with fail
  go_loop [7] (fun iv => ∃ k : Nat, k ≤ n ∧ iv = .int .i64 k ∧ Hid (∀ j, j < k → (ks.getD j []).length ≤ 24)) (fun i => n - (intOf i).toNat)
  case atStart => exact ⟨0, Nat.zero_le _, rfl, Lib.hid (fun j h => by omega)⟩
  case round =>
    obtain ⟨k, hk, rfl, HI⟩ := hrel
    by_cases hlt : k < n
    · obtain ⟨b, o, rfl, hb⟩ := hr.addr (by omega)
      obtain ⟨A', m, c', hc, hp, hm, hmc, hmx⟩ := hr.cell hlt
      have Hm := Lib.hid hm
      clear hm
      have hv := fun W => valmay_any A' m c' W
      by_cases h : m ≤ 24
      · rw [decide_eq_true h] at hv
        go_wp2_with (go_at_call 39; refine (hv _).mono ?_; rintro e w' ⟨rfl, rfl⟩)
        go_round
        case rel => exact ⟨k + 1, by omega, by go_num, Lib.hid (fun j hj => by
          by_cases e : j = k
          · subst e; rw [← Hm.out]; exact h
          · exact HI.out j (by omega))⟩
        case measure => simp [intOf]; omega
      · rw [decide_eq_false h] at hv
        go_wp2_with (go_at_call 39; refine (hv _).mono ?_; rintro e w' ⟨rfl, rfl⟩)
        go_ret
        rw [Hm.out] at h
        exact ⟨by rw [← valsB_no (by rw [← Hl.out]; exact hlt) h]; rfl, rfl⟩
    · have : k = n := by omega
      subst this
      go_wp2_with fail
      go_ret
      exact ⟨by rw [← valsB_yes (fun j hj => HI.out j (by rw [Hl.out]; exact hj))]; rfl, rfl⟩
end Go.Proofs.Ytceefoopehoalaa
