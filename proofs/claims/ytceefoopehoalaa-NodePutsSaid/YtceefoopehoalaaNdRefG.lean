/-
  The document's own text, kid of layer 7, by contracts.
-/
import Derived.Test.YtceefoopehoalaaNdRefF
import Derived.Test.YtceefoopehoalaaNdW
import Derived.Test.YtceefoopehoalaaCuts
namespace Go.Proofs.Ytceefoopehoalaa
open Go.RowKit
theorem getN_one {b : List UInt8} {k : Nat} (h : k < b.length) : getN b k 1 = (b.getD k 0).toNat := by
  unfold getN
  rw [if_pos (by omega), List.drop_eq_getElem_cons h, List.take_succ_cons, List.take_zero, show b.getD k 0 = b[k] by simp [List.getD, h]]
  simp only [ofBe]
  omega
theorem getN_two {b : List UInt8} {k : Nat} (h : k + 2 ≤ b.length) : getN b k 2 = (b.getD k 0).toNat * 256 + (b.getD (k + 1) 0).toNat := by
  unfold getN
  rw [if_pos (by omega), List.drop_eq_getElem_cons (show k < b.length by omega), List.drop_eq_getElem_cons (show k + 1 < b.length by omega), List.take_succ_cons, List.take_succ_cons, List.take_zero, show b.getD k 0 = b[k] by simp [List.getD, show k < b.length by omega], show b.getD (k + 1) 0 = b[k + 1] by simp [List.getD, show k + 1 < b.length by omega]]
  simp only [ofBe]
  omega
set_option maxHeartbeats 800000 in
theorem rtext_yes (A : Option Addr) (c : Nat) (l : List UInt8) (k : Nat) (w : World) (B : Nat) (hr : Rd w B (.slice A l.length c) (cellsB l)) (hB : B ≤ w.heap.size) (hl : l.length ≤ 1000000) (h1 : k < l.length) (h2 : k + 1 + getN l k 1 ≤ l.length) :
    Calls Try.prog 31 #[.slice A l.length c, .int .i64 (k : Int)] w fun e w' => ∃ A' c', e = .returned (.tuple #[.slice A' (cutT l (k + 1) (getN l k 1)).length c', .int .i64 ((k + 1 + getN l k 1 : Nat) : Int)]) ∧ Mine w' w.heap.size 5 (.slice A' (cutT l (k + 1) (getN l k 1)).length c') (cellsB (cutT l (k + 1) (getN l k 1))) ∧ Below w.heap.size w w' := by
  obtain ⟨ti, hti, hz0, hz1, hz2⟩ := info_parts info_u8
  obtain ⟨b, o, rfl, hc⟩ := hr.at_ h1
  rw [← getN_one h1] at hc
  have hcut : cutT l (k + 1) (getN l k 1) = (l.drop (k + 1)).take (getN l k 1) := by unfold cutT; rw [if_pos h2]
  obtain ⟨x, hx⟩ : ∃ x, x = getN l k 1 := ⟨_, rfl⟩
  have hx256 : x < 256 := by rw [hx]; exact getN_byte l k
  rw [← hx] at hc h2 hcut ⊢
  obtain ⟨_, _, e, g1, g2, _⟩ := hr.bytes
  injection e with e1 e2 e3
  subst e3
  clear e1 e2
  have r := hr.cut (lo := k + 1) (hi := k + 1 + x) (by omega) h2
  have em : ((cellsB l).take (k + 1 + x)).drop (k + 1) = cellsB ((l.drop (k + 1)).take x) := by rw [cellsB_take, cellsB_drop, List.drop_take, Nat.add_sub_cancel_left]
  rw [em, Nat.add_sub_cancel_left] at r
  rw [hcut]
  obtain ⟨m, hm⟩ : ∃ m, m = (l.drop (k + 1)).take x := ⟨_, rfl⟩
  have hml : m.length = x := by rw [hm]; simp; omega
  rw [← hm] at r ⊢
  obtain ⟨n, hn⟩ : ∃ n, n = l.length := ⟨_, rfl⟩
  rw [← hn] at h1 h2 hl g1 ⊢
  have k0 : (0 : Int) ≤ (k : Int) := by omega
  have k1 : (k : Int) < (n : Int) := by omega
  have k3 : (k : Int).toNat = k := by omega
  have w1 : IntKind.i64.wrap ((k : Int) + 1) = (k : Int) + 1 := IntWalk.i64_in _ (by omega)
  have w2 : IntKind.i64.wrap ((k : Int) + 1 + (x : Int)) = (k : Int) + 1 + (x : Int) := IntWalk.i64_in _ (by omega)
  have w3 : IntKind.i64.wrap (x : Int) = (x : Int) := IntWalk.i64_in _ (by omega)
  have v0 : (0 : Int) ≤ (k : Int) + 1 := by omega
  have v1 : ((k : Int) + 1).toNat = k + 1 := by omega
  have v2 : ((k : Int) + 1 + (x : Int)).toNat = k + 1 + x := by omega
  have v3 : (k : Int) + 1 ≤ (k : Int) + 1 + (x : Int) := by omega
  have v4 : (k : Int) + 1 + (x : Int) ≤ (c : Int) := by omega
  have v5 : (0 : Int) ≤ (k : Int) + 1 + (x : Int) := by omega
  have v6 : k + 1 + x - (k + 1) = x := by omega
  have S1 := Lib.hid (show (w.drew.alloc (.cells #[] 5)).cell? ⟨b, o + k, none⟩ = some (.int .u8 (x : Int)) from (World.cell?_alloc_lt w.drew _ _ (World.block_lt_of_cell? w _ hc)).trans hc)
  have hmc : Hid (∀ (v : Value) (w9 : World), Mine w9 w.heap.size 5 v (cellsB m) → ∃ A' c', v = .slice A' m.length c') := Lib.hid fun v w9 h => by
    obtain ⟨A', c', e⟩ := h.form
    rw [cellsB_length] at e
    exact ⟨A', c', e⟩
  obtain ⟨A9, hA9, hcutr⟩ := cut_lh (P := Try.prog) Try.underlying22 hti hz1 (some ⟨b, o, none⟩) n c (k + 1) (k + 1 + x) (by omega) (by omega) ((k : Int) + 1) ((k : Int) + 1 + (x : Int)) (by omega) (by omega)
  rw [← hA9] at r
  rw [v6] at hcutr
  have R := Lib.hid (r.alloc hB (.cells #[] 5))
  have HML := Lib.hid hml
  clear hr r em hm hn hx hB hml hA9 v0 v1 v2 v3 v4 v5 v6 hcut
  go_enter Try.func31, Try.ntmps31
  go_wp2_with fail
  go_region_held3 (fun w' => w'.cell? ⟨b, o + k, none⟩ = some (.int .u8 (x : Int)))
    (first | exact S9.out | exact S1.out | exact hc)
    (first | (refine step_append_rd rfl (.tmp 28) (.tmp 40) 22 (by rfl) w.heap.size 5 ti _ 1 Try.underlying22 hti hz0 hz1 hz2 rfl _ [] (by rfl) (Mine.empty w.drew _ 5 (Nat.le_refl _)) B _ _ (by rfl) R.out (cellsB_one _) (by have := HML.out; rw [cellsB_length]; simp; omega) (by have := HML.out; unfold maxLen; rw [cellsB_length]; simp; omega) (by simp) ?_; intro v9 w9 ho9 hb9 _ _; rw [List.nil_append] at ho9; have Hb9 := Lib.hid ((((Below.refl w.heap.size w).drew).alloc (Nat.le_refl _) (.cells #[] 5)).trans hb9); have Ho9 := Lib.hid ho9; have S9 := Lib.hid ((Hb9.out.cell (p := ⟨b, o + k, none⟩) (World.block_lt_of_cell? w _ hc)).trans hc)))
  go_wp2_with fail
  go_ret2
  obtain ⟨A8, c8, rfl⟩ := hmc.out _ _ Ho9.out
  exact ⟨A8, c8, by rfl, Ho9.out, Hb9.out⟩
set_option maxHeartbeats 800000 in
theorem rkid_yes (A : Option Addr) (c : Nat) (l : List UInt8) (k : Nat) (w : World) (B : Nat) (hr : Rd w B (.slice A l.length c) (cellsB l)) (hl : l.length ≤ 1000000) (h1 : k + 2 ≤ l.length) :
    Calls Try.prog 30 #[.slice A l.length c, .int .i64 (k : Int)] w fun e w' => e = .returned (.tuple #[.int .i64 (getN l k 2 : Nat), .int .i64 ((k + 2 : Nat) : Int)]) ∧ Below w.heap.size w w' := by
  obtain ⟨b, o, rfl, hc⟩ := hr.at_ (k := k) (by omega)
  obtain ⟨b', o', e, hc2⟩ := hr.at_ (k := k + 1) (by omega)
  injection e with e
  injection e with e1 e2
  subst e1 e2
  rw [getN_two h1]
  obtain ⟨x, hx⟩ : ∃ x, x = (l.getD k 0).toNat := ⟨_, rfl⟩
  obtain ⟨y, hy⟩ : ∃ x, x = (l.getD (k + 1) 0).toNat := ⟨_, rfl⟩
  have hx256 : x < 256 := by rw [hx]; exact UInt8.toNat_lt _
  have hy256 : y < 256 := by rw [hy]; exact UInt8.toNat_lt _
  rw [← hx] at hc ⊢
  rw [← hy] at hc2 ⊢
  obtain ⟨n, hn⟩ : ∃ n, n = l.length := ⟨_, rfl⟩
  rw [← hn] at h1 hl ⊢
  have k0 : (0 : Int) ≤ (k : Int) := by omega
  have k1 : (k : Int) < (n : Int) := by omega
  have k3 : (k : Int).toNat = k := by omega
  have w1 : IntKind.i64.wrap ((k : Int) + 1) = (k : Int) + 1 := IntWalk.i64_in _ (by omega)
  have w2 : IntKind.i64.wrap ((k : Int) + 2) = (k : Int) + 2 := IntWalk.i64_in _ (by omega)
  have w3 : IntKind.i64.wrap (x : Int) = (x : Int) := IntWalk.i64_in _ (by omega)
  have w4 : IntKind.i64.wrap (y : Int) = (y : Int) := IntWalk.i64_in _ (by omega)
  have w5 : IntKind.i64.wrap ((x : Int) * 256) = (x : Int) * 256 := IntWalk.i64_in _ (by omega)
  have w6 : IntKind.i64.wrap ((x : Int) * 256 + (y : Int)) = (x : Int) * 256 + (y : Int) := IntWalk.i64_in _ (by omega)
  have v0 : (0 : Int) ≤ (k : Int) + 1 := by omega
  have v1 : ((k : Int) + 1).toNat = k + 1 := by omega
  have v2 : (k : Int) + 1 < (n : Int) := by omega
  have S1 := Lib.hid (show w.drew.cell? ⟨b, o + k, none⟩ = some (.int .u8 (x : Int)) ∧ w.drew.cell? ⟨b, o + (k + 1), none⟩ = some (.int .u8 (y : Int)) from ⟨hc, hc2⟩)
  clear hr hn hx hy hc hc2
  go_enter Try.func30, Try.ntmps30
  go_wp2_with fail
  go_region_held3 (fun w' => w'.cell? ⟨b, o + k, none⟩ = some (.int .u8 (x : Int)) ∧ w'.cell? ⟨b, o + (k + 1), none⟩ = some (.int .u8 (y : Int))) (exact S1.out) (fail)
  go_wp2_with fail
  go_ret2
  exact ⟨by rfl, (Below.refl _ _).drew⟩
theorem rkid_no (A : Option Addr) (n c : Nat) (at_ : Int) (w : World) (ha : -1 ≤ at_) (h2 : at_ ≤ 1000000) (h1 : at_ < 0 ∨ (n : Int) < at_ + 2) :
    Calls Try.prog 30 #[.slice A n c, .int .i64 at_] w fun e w' => e = .returned (.tuple #[.int .i64 0, .int .i64 (-1)]) ∧ Below w.heap.size w w' := by
  by_cases h0 : at_ < 0
  · go_enter Try.func30, Try.ntmps30
    go_wp2_with fail
    go_ret2
    exact ⟨rfl, Below.refl _ _⟩
  · have h3 : (n : Int) < at_ + 2 := by omega
    clear h1
    go_enter Try.func30, Try.ntmps30
    go_wp2_with fail
    go_ret2
    exact ⟨rfl, Below.refl _ _⟩
theorem rtext_low (A : Option Addr) (n c : Nat) (at_ : Int) (w : World) (ha : -1 ≤ at_) (h2 : at_ ≤ 1000000) (h1 : at_ < 0 ∨ (n : Int) ≤ at_) :
    Calls Try.prog 31 #[.slice A n c, .int .i64 at_] w fun e w' => ∃ A' c', e = .returned (.tuple #[.slice A' 0 c', .int .i64 (-1)]) ∧ Mine w' w.heap.size 5 (.slice A' 0 c') (cellsB []) ∧ Below w.heap.size w w' := by
  by_cases h0 : at_ < 0
  · go_enter Try.func31, Try.ntmps31
    go_wp2_with fail
    go_ret2
    exact ⟨_, _, rfl, Mine.empty w _ _ (Nat.le_refl _), (Below.refl _ _).alloc (Nat.le_refl _) _⟩
  · have h3 : (n : Int) ≤ at_ := by omega
    clear h1
    go_enter Try.func31, Try.ntmps31
    go_wp2_with fail
    go_ret2
    exact ⟨_, _, rfl, Mine.empty w _ _ (Nat.le_refl _), (Below.refl _ _).alloc (Nat.le_refl _) _⟩
theorem rtext_long (A : Option Addr) (c : Nat) (l : List UInt8) (k : Nat) (w : World) (B : Nat) (hr : Rd w B (.slice A l.length c) (cellsB l)) (hl : l.length ≤ 1000000) (h1 : k < l.length) (h2 : l.length < k + 1 + getN l k 1) :
    Calls Try.prog 31 #[.slice A l.length c, .int .i64 (k : Int)] w fun e w' => ∃ A' c', e = .returned (.tuple #[.slice A' 0 c', .int .i64 (-1)]) ∧ Mine w' w.heap.size 5 (.slice A' 0 c') (cellsB []) ∧ Below w.heap.size w w' := by
  obtain ⟨b, o, rfl, hc⟩ := hr.at_ h1
  rw [← getN_one h1] at hc
  have hx256 := getN_byte l k
  obtain ⟨x, hx⟩ : ∃ x, x = getN l k 1 := ⟨_, rfl⟩
  obtain ⟨n, hn⟩ : ∃ n, n = l.length := ⟨_, rfl⟩
  rw [← hx] at hc h2 hx256
  rw [← hn] at h1 h2 hl ⊢
  clear hr hx hn
  go_enter Try.func31, Try.ntmps31
  go_wp2_with fail
  go_ret2
  exact ⟨_, _, rfl, Mine.empty w _ _ (Nat.le_refl _), (Below.refl _ _).alloc (Nat.le_refl _) _⟩
/-- What text tells. -/
def rtx (b : List UInt8) (at_ : Int) : List UInt8 × Int := if 0 ≤ at_ ∧ at_.toNat < b.length ∧ at_.toNat + 1 + getN b at_.toNat 1 ≤ b.length then (cutT b (at_.toNat + 1) (getN b at_.toNat 1), ((at_.toNat + 1 + getN b at_.toNat 1 : Nat) : Int)) else ([], -1)
/-- What kid tells. -/
def rkd (b : List UInt8) (at_ : Int) : Int × Int := if 0 ≤ at_ ∧ at_.toNat + 2 ≤ b.length then ((getN b at_.toNat 2 : Int), ((at_.toNat + 2 : Nat) : Int)) else (0, -1)
theorem rtext_any (A : Option Addr) (c : Nat) (l : List UInt8) (at_ : Int) (w : World) (B : Nat) (hr : Rd w B (.slice A l.length c) (cellsB l)) (hB : B ≤ w.heap.size) (hl : l.length ≤ 1000000) (ha : -1 ≤ at_) (hb : at_ ≤ l.length) :
    Calls Try.prog 31 #[.slice A l.length c, .int .i64 at_] w fun e w' => ∃ A' c', e = .returned (.tuple #[.slice A' (rtx l at_).1.length c', .int .i64 (rtx l at_).2]) ∧ Mine w' w.heap.size 5 (.slice A' (rtx l at_).1.length c') (cellsB (rtx l at_).1) ∧ Below w.heap.size w w' := by
  unfold rtx
  by_cases h0 : 0 ≤ at_
  · obtain ⟨k, rfl⟩ := Int.eq_ofNat_of_zero_le h0
    rw [Int.toNat_natCast]
    by_cases h1 : k < l.length
    · by_cases h2 : k + 1 + getN l k 1 ≤ l.length
      · rw [if_pos ⟨h0, h1, h2⟩]
        exact rtext_yes A c l k w B hr hB hl h1 h2
      · rw [if_neg (fun h => h2 h.2.2)]
        exact rtext_long A c l k w B hr hl h1 (by omega)
    · rw [if_neg (fun h => h1 h.2.1)]
      exact rtext_low A l.length c _ w ha (by omega) (.inr (by omega))
  · rw [if_neg (fun h => h0 h.1)]
    exact rtext_low A l.length c _ w ha (by omega) (.inl (by omega))
theorem rkid_any (A : Option Addr) (c : Nat) (l : List UInt8) (at_ : Int) (w : World) (B : Nat) (hr : Rd w B (.slice A l.length c) (cellsB l)) (hl : l.length ≤ 1000000) (ha : -1 ≤ at_) (hb : at_ ≤ 999990) :
    Calls Try.prog 30 #[.slice A l.length c, .int .i64 at_] w fun e w' => e = .returned (.tuple #[.int .i64 (rkd l at_).1, .int .i64 (rkd l at_).2]) ∧ Below w.heap.size w w' := by
  unfold rkd
  by_cases h0 : 0 ≤ at_
  · obtain ⟨k, rfl⟩ := Int.eq_ofNat_of_zero_le h0
    rw [Int.toNat_natCast]
    by_cases h1 : k + 2 ≤ l.length
    · rw [if_pos ⟨h0, h1⟩]
      exact rkid_yes A c l k w B hr hl h1
    · rw [if_neg (fun h => h1 h.2)]
      exact rkid_no A l.length c _ w ha (by omega) (.inr (by omega))
  · rw [if_neg (fun h => h0 h.1)]
    exact rkid_no A l.length c _ w ha (by omega) (.inl (by omega))
end Go.Proofs.Ytceefoopehoalaa
