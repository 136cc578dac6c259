/-
  The document's own comparison of texts (Cmp of stanchionref07), by contract.
-/
import Derived.Test.YtceefoopehoalaaNdFew
namespace Go.Proofs.Ytceefoopehoalaa
open Go.RowKit
/-- The document's comparison. -/
def dcmp : List UInt8 → List UInt8 → Int
  | a :: l, b :: m => if a = b then dcmp l m else (a.toNat : Int) - (b.toNat : Int)
  | l, m => (l.length : Int) - (m.length : Int)
theorem dcmp_sign (a b : List UInt8) : (dcmp a b < 0 ↔ cmpB a b < 0) ∧ (dcmp a b = 0 ↔ cmpB a b = 0) := by
  unfold cmpB
  induction a generalizing b with
  | nil => cases b with
    | nil => simp [dcmp, Lib.compareBytes]
    | cons y b => simp [dcmp, Lib.compareBytes]; omega
  | cons x a ih =>
    cases b with
    | nil => simp [dcmp, Lib.compareBytes]; omega
    | cons y b =>
      unfold dcmp Lib.compareBytes
      by_cases h : x = y
      · subst h
        rw [if_pos rfl, if_neg (UInt8.lt_irrefl x), if_neg (UInt8.lt_irrefl x)]
        exact ih b
      · rw [if_neg h]
        have hne : x.toNat ≠ y.toNat := fun e => h (UInt8.toNat_inj.1 e)
        by_cases h1 : x < y
        · rw [if_pos h1]
          have := UInt8.lt_iff_toNat_lt.1 h1
          constructor <;> constructor <;> intro <;> omega
        · rw [if_neg h1]
          have h2 : y < x := UInt8.lt_of_le_of_ne (UInt8.not_lt.1 h1) (fun e => h e.symm)
          rw [if_pos h2]
          have := UInt8.lt_iff_toNat_lt.1 h2
          constructor <;> constructor <;> intro <;> omega
theorem dcmp_neg {a b : List UInt8} : dcmp a b < 0 ↔ cmpB a b < 0 := (dcmp_sign a b).1
theorem dcmp_step {l m : List UInt8} {k : Nat} (h1 : k < l.length) (h2 : k < m.length) : dcmp (l.drop k) (m.drop k) = if l.getD k 0 = m.getD k 0 then dcmp (l.drop (k + 1)) (m.drop (k + 1)) else ((l.getD k 0).toNat : Int) - ((m.getD k 0).toNat : Int) := by
  rw [List.drop_eq_getElem_cons h1, List.drop_eq_getElem_cons h2, dcmp]
  simp [List.getD, h1, h2]
theorem dcmp_end {l m : List UInt8} {k : Nat} (h1 : k ≤ l.length) (h2 : k ≤ m.length) (h : k = l.length ∨ k = m.length) : dcmp (l.drop k) (m.drop k) = (l.length : Int) - (m.length : Int) := by
  rcases h with h | h
  · rw [List.drop_of_length_le (show l.length ≤ k by omega)]
    cases hm : m.drop k with
    | nil =>
      have := congrArg List.length hm
      simp at this
      simp [dcmp]; omega
    | cons y b =>
      have := congrArg List.length hm
      simp at this
      simp [dcmp]; omega
  · rw [List.drop_of_length_le (show m.length ≤ k by omega)]
    cases hm : l.drop k with
    | nil =>
      have := congrArg List.length hm
      simp at this
      simp [dcmp]; omega
    | cons y b =>
      have := congrArg List.length hm
      simp at this
      simp [dcmp]; omega
theorem Rd.at_ {w : World} {B : Nat} {A : Option Addr} {n c : Nat} {l : List UInt8} (h : Rd w B (.slice A n c) (cellsB l)) {k : Nat} (hk : k < n) : ∃ (b o : Nat), A = some ⟨b, o, none⟩ ∧ w.cell? ⟨b, o + k, none⟩ = some (.int .u8 ((l.getD k 0).toNat : Int)) := by
  have hn : n = l.length := by
    obtain ⟨_, _, e, _⟩ := h.bytes
    injection e with _ e _
  obtain ⟨b, o, e, _, hc⟩ := h.addr (by omega)
  have hg : l.getD k 0 = l[k]'(by omega) := by simp [List.getD, show k < l.length by omega]
  exact ⟨b, o, e, by rw [hg]; exact hc k (by omega)⟩
set_option maxHeartbeats 1000000 in
theorem cmp_any {a b : Value} {l m : List UInt8} {w : World} {B C : Nat} (h1 : Rd w B a (cellsB l)) (h2 : Rd w C b (cellsB m)) (hB : B ≤ w.heap.size) (hC : C ≤ w.heap.size) (hl : l.length ≤ 1000000) (hm : m.length ≤ 1000000) :
    Calls Try.prog 35 #[a, b] w fun e w' => e = .returned (.int .i64 (dcmp l m)) ∧ Below w.heap.size w w' := by
  obtain ⟨A1, c1, rfl, g1, g2, h1⟩ := h1.bytes
  obtain ⟨A2, c2, rfl, f1, f2, h2⟩ := h2.bytes
  have hstep := fun k (q1 : k < l.length) (q2 : k < m.length) => dcmp_step q1 q2
  have hend := fun k (q1 : k ≤ l.length) (q2 : k ≤ m.length) => dcmp_end q1 q2
  have h0 : dcmp (l.drop 0) (m.drop 0) = dcmp l m := rfl
  have hc1 := fun (wr : World) (hb : Below w.heap.size w wr) k (q : k < l.length) => ((h1.more hB).below hb).at_ q
  have hc2 := fun (wr : World) (hb : Below w.heap.size w wr) k (q : k < m.length) => ((h2.more hC).below hb).at_ q
  obtain ⟨n1, hn1⟩ : ∃ n, n = l.length := ⟨_, rfl⟩
  obtain ⟨n2, hn2⟩ : ∃ n, n = m.length := ⟨_, rfl⟩
  obtain ⟨X, hX⟩ : ∃ X, X = dcmp l m := ⟨_, rfl⟩
  rw [← hn1] at hc1 hl g1 ⊢
  rw [← hn2] at hc2 hm f1 ⊢
  rw [← hX] at h0 ⊢
  have HS := Lib.hid hstep
  have HE := Lib.hid hend
  have HC1 := Lib.hid hc1
  have HC2 := Lib.hid hc2
  have H0 := Lib.hid h0
  have HN1 := Lib.hid hn1
  have HN2 := Lib.hid hn2
  clear h1 h2 hB hC hstep hend hc1 hc2 h0 hn1 hn2 hX
  go_enter Try.func35, Try.ntmps35
  go_wp2_with fail
  go_loopw [5] (fun iv wr => ∃ k : Nat, k ≤ n1 ∧ k ≤ n2 ∧ iv = .int .i64 (k : Int) ∧ Hid (dcmp (l.drop k) (m.drop k) = X ∧ Below w.heap.size w wr)) (fun iv _ => n1 - (intOf iv).toNat)
  case atStart => exact ⟨0, Nat.zero_le _, Nat.zero_le _, rfl, Lib.hid ⟨H0.out, Below.refl _ _⟩⟩
  case round =>
    obtain ⟨k, hk1, hk2, rfl, HI⟩ := hrel
    by_cases hlt1 : k < n1
    · by_cases hlt2 : k < n2
      · obtain ⟨b1, o1, rfl, e1⟩ := HC1.out wr HI.out.2 k hlt1
        obtain ⟨b2, o2, rfl, e2⟩ := HC2.out wr HI.out.2 k hlt2
        have hst := HS.out k (by rw [← HN1.out]; exact hlt1) (by rw [← HN2.out]; exact hlt2)
        rw [HI.out.1] at hst
        obtain ⟨x, hx⟩ : ∃ x, x = l.getD k 0 := ⟨_, rfl⟩
        obtain ⟨y, hy⟩ : ∃ x, x = m.getD k 0 := ⟨_, rfl⟩
        rw [← hx] at e1 hst
        rw [← hy] at e2 hst
        have hx1 := x.toNat_lt
        have hy1 := y.toNat_lt
        have Hx := Lib.hid hx
        have Hst := Lib.hid hst
        have k0 : (0 : Int) ≤ (k : Int) := by omega
        have k1 : (k : Int) < (n1 : Int) := by omega
        have k2 : (k : Int) < (n2 : Int) := by omega
        have k3 : (k : Int).toNat = k := by omega
        clear hx hy hst
        obtain ⟨p, hp⟩ : ∃ p, p = x.toNat := ⟨_, rfl⟩
        obtain ⟨q, hq⟩ : ∃ p, p = y.toNat := ⟨_, rfl⟩
        rw [← hp] at e1 hx1
        rw [← hq] at e2 hy1
        have Hp := Lib.hid hp
        have Hq := Lib.hid hq
        clear hp hq
        by_cases hxy : x = y
        · have hpq : ((p : Int) != (q : Int)) = false := by rw [Hp.out, Hq.out, hxy]; simp
          have Hst2 := Lib.hid (show X = dcmp (l.drop (k + 1)) (m.drop (k + 1)) by have := Hst.out; rwa [if_pos hxy] at this)
          clear hxy
          go_wp2_with fail
          go_region_held3 (fun w' => w'.cell? ⟨b1, o1 + k, none⟩ = some (.int .u8 (p : Int)) ∧ w'.cell? ⟨b2, o2 + k, none⟩ = some (.int .u8 (q : Int))) (exact ⟨e1, e2⟩) (fail)
          go_wp2_with fail
          go_roundw
          case rel => exact ⟨k + 1, by omega, by omega, by go_num, Lib.hid ⟨Hst2.out.symm, HI.out.2.drew⟩⟩
          case measure => simp [intOf]; omega
        · have hpq : ((p : Int) != (q : Int)) = true := by rw [Hp.out, Hq.out]; simp; intro e; exact hxy (UInt8.toNat_inj.1 (by omega))
          have Hst2 := Lib.hid (show X = (p : Int) - (q : Int) by have := Hst.out; rw [if_neg hxy] at this; rw [Hp.out, Hq.out]; exact this)
          have hw1 : IntKind.i64.wrap (p : Int) = (p : Int) := IntWalk.i64_in _ (by omega)
          have hw2 : IntKind.i64.wrap (q : Int) = (q : Int) := IntWalk.i64_in _ (by omega)
          have hw3 : IntKind.i64.wrap ((p : Int) - (q : Int)) = (p : Int) - (q : Int) := IntWalk.i64_in _ (by omega)
          clear hxy
          go_wp2_with fail
          go_region_held3 (fun w' => w'.cell? ⟨b1, o1 + k, none⟩ = some (.int .u8 (p : Int)) ∧ w'.cell? ⟨b2, o2 + k, none⟩ = some (.int .u8 (q : Int))) (exact ⟨e1, e2⟩) (fail)
          go_wp2_with fail
          go_region_held3 (fun w' => w'.cell? ⟨b1, o1 + k, none⟩ = some (.int .u8 (p : Int)) ∧ w'.cell? ⟨b2, o2 + k, none⟩ = some (.int .u8 (q : Int))) (exact ⟨e1, e2⟩) (fail)
          go_wp2_with fail
          go_ret
          exact ⟨by rw [Hst2.out]; rfl, HI.out.2.drew.drew⟩
      · have h5 : n2 ≤ k := by omega
        have He := Lib.hid (HE.out k (by rw [← HN1.out]; exact hk1) (by rw [← HN2.out]; exact hk2) (.inr (by rw [← HN2.out]; omega)))
        clear hlt2
        go_wp2_with fail
        go_ret
        refine ⟨?_, HI.out.2⟩
        have e := HI.out.1
        rw [He.out] at e
        rw [← e, HN1.out, HN2.out]; rfl
    · have h5 : n1 ≤ k := by omega
      have He := Lib.hid (HE.out k (by rw [← HN1.out]; exact hk1) (by rw [← HN2.out]; exact hk2) (.inl (by rw [← HN1.out]; omega)))
      clear hlt1
      go_wp2_with fail
      go_ret
      refine ⟨?_, HI.out.2⟩
      have e := HI.out.1
      rw [He.out] at e
      rw [← e, HN1.out, HN2.out]; rfl
end Go.Proofs.Ytceefoopehoalaa
