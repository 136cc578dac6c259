/-
  The document's own comparison of nodes (list, Same of stanchionref07), by contracts.
-/
import Derived.Test.YtceefoopehoalaaNdRefA
namespace Go.Proofs.Ytceefoopehoalaa
open Go.RowKit
/-- Texts at place k, in a later world: where they lie, and as strings. -/
theorem RdAll.str {w : World} {B b o n c : Nat} {ls : List (List UInt8)} (h : RdAll w B (.slice (some ⟨b, o, none⟩) n c) ls) (hB : B ≤ w.heap.size) {k : Nat} (hk : k < n) :
    ∃ A' m c', ∀ W, Below w.heap.size w W → W.cell? ⟨b, o + k, none⟩ = some (.slice A' m c') ∧ (convert 22 9 (.slice A' m c')).run Try.prog W = .ok (.string ⟨(ls.getD k []).toArray⟩) W := by
  obtain ⟨A', m, c', _, _, _, hW⟩ := h.later hB hk
  exact ⟨A', m, c', fun W hb => ⟨(hW W hb).1, run_string_rd (P := Try.prog) 22 9 5 Try.underlying22 Try.underlying5 Try.underlying9 (hW W hb).2.1⟩⟩
theorem list_ext {α : Type} {l m : List α} (d : α) (h : l.length = m.length) (h2 : ∀ j, j < l.length → l.getD j d = m.getD j d) : l = m := by
  apply List.ext_getElem h
  intro j h1 h3
  have := h2 j h1
  simpa [List.getD, h1, h3] using this
set_option maxHeartbeats 1000000 in
theorem list_any {a b : Value} {l m : List (List UInt8)} {w : World} {B C : Nat} (h1 : RdAll w B a l) (h2 : RdAll w C b m) (hB : B ≤ w.heap.size) (hC : C ≤ w.heap.size) (hl : l.length ≤ 1000000) :
    Calls Try.prog 33 #[a, b] w fun e w' => e = .returned (.bool (decide (l = m))) ∧ Below w.heap.size w w' := by
  obtain ⟨A1, c1, rfl, h1⟩ := h1.form
  obtain ⟨A2, c2, rfl, h2⟩ := h2.form
  by_cases hlen : l.length = m.length
  · rw [← hlen] at h2 ⊢
    have hc1 := fun (b o : Nat) (he : A1 = some ⟨b, o, none⟩) k (q : k < l.length) => (show RdAll w B (.slice (some ⟨b, o, none⟩) l.length c1) l by rw [← he]; exact h1).str hB q
    have hc2 := fun (b o : Nat) (he : A2 = some ⟨b, o, none⟩) k (q : k < l.length) => (show RdAll w C (.slice (some ⟨b, o, none⟩) l.length c2) m by rw [← he]; exact h2).str hC q
    have ha1 := fun (h : 0 < l.length) => h1.addr h
    have ha2 := fun (h : 0 < l.length) => h2.addr h
    have hne : ∀ k, k < l.length → l.getD k [] ≠ m.getD k [] → false = decide (l = m) := fun k hk h => by
      rw [decide_eq_false (fun e => h (by rw [e]))]
    have hyes : (∀ j, j < l.length → l.getD j [] = m.getD j []) → true = decide (l = m) := fun h => by
      rw [decide_eq_true (list_ext [] hlen h)]
    obtain ⟨n, hn⟩ : ∃ n, n = l.length := ⟨_, rfl⟩
    rw [← hn] at hc1 hc2 ha1 ha2 hl hne hyes ⊢
    have HC1 := Lib.hid hc1
    have HC2 := Lib.hid hc2
    have HA1 := Lib.hid ha1
    have HA2 := Lib.hid ha2
    have HNe := Lib.hid hne
    have HYes := Lib.hid hyes
    clear h1 h2 hB hC hc1 hc2 ha1 ha2 hne hyes hn hlen
    go_enter Try.func33, Try.ntmps33
    go_wp2_with fail
    go_loopw [5] (fun iv wr => ∃ k : Nat, k ≤ n ∧ iv = .int .i64 (k : Int) ∧ Hid ((∀ j, j < k → l.getD j [] = m.getD j []) ∧ Below w.heap.size w wr)) (fun iv _ => n - (intOf iv).toNat)
    case atStart => exact ⟨0, Nat.zero_le _, rfl, Lib.hid ⟨fun j h => by omega, Below.refl _ _⟩⟩
    case round =>
      obtain ⟨k, hk, rfl, HI⟩ := hrel
      by_cases hlt : k < n
      · obtain ⟨b1, o1, rfl, _⟩ := HA1.out (by omega)
        obtain ⟨b2, o2, rfl, _⟩ := HA2.out (by omega)
        obtain ⟨A3, n3, c3, hs3⟩ := HC1.out b1 o1 rfl k hlt
        obtain ⟨A4, n4, c4, hs4⟩ := HC2.out b2 o2 rfl k hlt
        have e1 := (hs3 wr.drew HI.out.2.drew).1
        have e2 := (hs4 wr.drew HI.out.2.drew).1
        have r1 := (hs3 wr.drew HI.out.2.drew).2
        have r2 := (hs4 wr.drew HI.out.2.drew).2
        obtain ⟨x, hx⟩ : ∃ x, x = l.getD k [] := ⟨_, rfl⟩
        obtain ⟨y, hy⟩ : ∃ x, x = m.getD k [] := ⟨_, rfl⟩
        rw [← hx] at r1
        rw [← hy] at r2
        have Hx := Lib.hid hx
        have Hy := Lib.hid hy
        have k0 : (0 : Int) ≤ (k : Int) := by omega
        have k1 : (k : Int) < (n : Int) := by omega
        have k3 : (k : Int).toNat = k := by omega
        clear hs3 hs4 hx hy
        have HSS := Lib.hid (And.intro e1 (And.intro e2 (And.intro r1 r2)))
        clear e1 e2 r1 r2
        by_cases hxy : x = y
        · have Hxy := Lib.hid hxy
          have t1 : (x == y) = true := by rw [hxy]; simp
          clear hxy
          go_wp2_with fail
          go_region_held3 (fun w' => w'.cell? ⟨b1, o1 + k, none⟩ = some (.slice A3 n3 c3) ∧ w'.cell? ⟨b2, o2 + k, none⟩ = some (.slice A4 n4 c4) ∧ (convert 22 9 (.slice A3 n3 c3)).run Try.prog w' = .ok (.string ⟨x.toArray⟩) w' ∧ (convert 22 9 (.slice A4 n4 c4)).run Try.prog w' = .ok (.string ⟨y.toArray⟩) w') (exact HSS.out) (fail)
          go_wp2_with fail
          go_roundw
          case rel => exact ⟨k + 1, by omega, by go_num, Lib.hid ⟨fun j hj => by
            by_cases e : j = k
            · subst e; rw [← Hx.out, ← Hy.out]; exact Hxy.out
            · exact HI.out.1 j (by omega), HI.out.2.drew⟩⟩
          case measure => simp [intOf]; omega
        · have Hxy := Lib.hid hxy
          have t1 : (x == y) = false := by simp [hxy]
          clear hxy
          go_wp2_with fail
          go_region_held3 (fun w' => w'.cell? ⟨b1, o1 + k, none⟩ = some (.slice A3 n3 c3) ∧ w'.cell? ⟨b2, o2 + k, none⟩ = some (.slice A4 n4 c4) ∧ (convert 22 9 (.slice A3 n3 c3)).run Try.prog w' = .ok (.string ⟨x.toArray⟩) w' ∧ (convert 22 9 (.slice A4 n4 c4)).run Try.prog w' = .ok (.string ⟨y.toArray⟩) w') (exact HSS.out) (fail)
          go_wp2_with fail
          go_ret
          exact ⟨by rw [← HNe.out k hlt (by rw [← Hx.out, ← Hy.out]; exact Hxy.out)]; rfl, HI.out.2.drew⟩
      · have h5 : n ≤ k := by omega
        have Hk := Lib.hid (show k = n by omega)
        clear hlt
        go_wp2_with fail
        go_ret
        exact ⟨by rw [← HYes.out (fun j hj => HI.out.1 j (by have := Hk.out; omega))]; rfl, HI.out.2⟩
  · have hdec : false = decide (l = m) := by rw [decide_eq_false (fun e => hlen (by rw [e]))]
    obtain ⟨n1, hn1⟩ : ∃ n, n = l.length := ⟨_, rfl⟩
    obtain ⟨n2, hn2⟩ : ∃ n, n = m.length := ⟨_, rfl⟩
    rw [← hn1, ← hn2] at hlen ⊢
    have t1 : ((n1 : Int) != (n2 : Int)) = true := by simp; omega
    have HD := Lib.hid hdec
    clear h1 h2 hB hC hdec hn1 hn2 hlen hl
    go_enter Try.func33, Try.ntmps33
    go_wp2_with fail
    go_ret
    exact ⟨by rw [← HD.out]; rfl, Below.refl _ _⟩
set_option maxHeartbeats 1000000 in
theorem same7_yes {x : Nd} {K V D K' V' D' : Value} {w : World} {B C : Nat} (h1 : NdIs w B K V D x) (h2 : NdIs w C K' V' D' x) (hB : B ≤ w.heap.size) (hC : C ≤ w.heap.size) (hs : x.Short 1000000) :
    Calls Try.prog 12 #[ndVal x.leaf K V D, ndVal x.leaf K' V' D'] w fun e w' => e = .returned (.bool true) ∧ Below w.heap.size w w' := by
  obtain ⟨A1, c1, A2, c2, A3, c3, rfl, rfl, rfl⟩ := h1.form
  obtain ⟨A4, c4, A5, c5, A6, c6, rfl, rfl, rfl⟩ := h2.form
  have hk := fun (W : World) (hW : Below w.heap.size w W) => list_any (h1.keys.below (hW.mono hB)) (h2.keys.below (hW.mono hC)) (Nat.le_trans hB hW.size) (Nat.le_trans hC hW.size) hs.1
  have hv := fun (W : World) (hW : Below w.heap.size w W) => list_any (h1.vals.below (hW.mono hB)) (h2.vals.below (hW.mono hC)) (Nat.le_trans hB hW.size) (Nat.le_trans hC hW.size) hs.2.1
  rw [decide_eq_true rfl] at hk hv
  have hd1 := fun (W : World) (hW : Below w.heap.size w W) (b o : Nat) (he : A3 = some ⟨b, o, none⟩) k (q : k < x.kids.length) => ((show Rd w w.heap.size (.slice (some ⟨b, o, none⟩) x.kids.length c3) (cellsI x.kids) by rw [← he]; exact h1.kids.more hB).below hW).cellI q
  have hd2 := fun (W : World) (hW : Below w.heap.size w W) (b o : Nat) (he : A6 = some ⟨b, o, none⟩) k (q : k < x.kids.length) => ((show Rd w w.heap.size (.slice (some ⟨b, o, none⟩) x.kids.length c6) (cellsI x.kids) by rw [← he]; exact h2.kids.more hC).below hW).cellI q
  have ha1 := fun (h : 0 < x.kids.length) => h1.kids.addrI h
  have ha2 := fun (h : 0 < x.kids.length) => h2.kids.addrI h
  have hs3 := hs.2.2
  obtain ⟨lf, hlf⟩ : ∃ y, y = x.leaf := ⟨_, rfl⟩
  obtain ⟨a, hna⟩ : ∃ y, y = x.keys.length := ⟨_, rfl⟩
  obtain ⟨b, hnb⟩ : ∃ y, y = x.vals.length := ⟨_, rfl⟩
  obtain ⟨d, hnd⟩ : ∃ y, y = x.kids.length := ⟨_, rfl⟩
  rw [← hna] at hk
  rw [← hnb] at hv
  rw [← hnd] at hd1 hd2 ha1 ha2 hs3
  rw [← hlf, ← hna, ← hnb, ← hnd]
  have hX1 := NdBox.made w lf (.slice A1 a c1) (.slice A2 b c2) (.slice A3 d c3)
  have hb1 : Below w.heap.size w (w.alloc (.cells #[.bool lf, .slice A1 a c1, .slice A2 b c2, .slice A3 d c3] 27)) := (Below.refl _ _).alloc (Nat.le_refl _) _
  have hX2 := NdBox.made (w.alloc (.cells #[.bool lf, .slice A1 a c1, .slice A2 b c2, .slice A3 d c3] 27)) lf (.slice A4 a c4) (.slice A5 b c5) (.slice A6 d c6)
  have hX1' := hX1.later hX1.lt ((Below.refl _ _).alloc (Nat.le_refl _) (.cells #[.bool lf, .slice A4 a c4, .slice A5 b c5, .slice A6 d c6] 27))
  have hb2 := hb1.alloc hb1.size (.cells #[.bool lf, .slice A4 a c4, .slice A5 b c5, .slice A6 d c6] 27)
  rw [show (w.alloc (.cells #[.bool lf, .slice A1 a c1, .slice A2 b c2, .slice A3 d c3] 27)).heap.size = w.heap.size + 1 by simp] at hX2
  have HK := Lib.hid hk
  have HV := Lib.hid hv
  have HD1 := Lib.hid hd1
  have HD2 := Lib.hid hd2
  have HA1 := Lib.hid ha1
  have HA2 := Lib.hid ha2
  have HX1 := Lib.hid hX1'
  have HX2 := Lib.hid hX2
  have HB2 := Lib.hid hb2
  obtain ⟨x0, x1, x2, x3⟩ := hX1'
  obtain ⟨y0, y1, y2, y3⟩ := hX2
  clear h1 h2 hs hk hv hd1 hd2 ha1 ha2 hlf hna hnb hnd hX1 hb1 hb2 hB hC
  go_enter Try.func12, Try.ntmps12
  go_wp2_with fail
  refine (HK.out _ HB2.out).mono ?_
  rintro e w3 ⟨rfl, hb3⟩
  have HB3 := Lib.hid (up HB2.out hb3)
  have HX3 := Lib.hid (HX1.out.later HX1.out.lt hb3)
  have HY3 := Lib.hid (HX2.out.later HX2.out.lt hb3)
  clear x0 x1 x2 x3 y0 y1 y2 y3 hb3
  obtain ⟨x0, x1, x2, x3⟩ := HX3.out
  obtain ⟨y0, y1, y2, y3⟩ := HY3.out
  go_wp2_with fail
  refine (HV.out _ HB3.out).mono ?_
  rintro e w4 ⟨rfl, hb4⟩
  have HB4 := Lib.hid (up HB3.out hb4)
  have HX4 := Lib.hid (HX3.out.later HX3.out.lt hb4)
  have HY4 := Lib.hid (HY3.out.later HY3.out.lt hb4)
  clear x0 x1 x2 x3 y0 y1 y2 y3 hb4
  obtain ⟨x0, x1, x2, x3⟩ := HX4.out
  obtain ⟨y0, y1, y2, y3⟩ := HY4.out
  go_wp2_with fail
  clear x0 x1 x2 x3 y0 y1 y2 y3
  go_loopw [5] (fun iv wr => ∃ k : Nat, k ≤ d ∧ iv = .int .i64 (k : Int) ∧ Hid (NdBox wr w.heap.size lf (.slice A1 a c1) (.slice A2 b c2) (.slice A3 d c3) ∧ NdBox wr (w.heap.size + 1) lf (.slice A4 a c4) (.slice A5 b c5) (.slice A6 d c6) ∧ Below w.heap.size w wr)) (fun iv _ => d - (intOf iv).toNat)
  case atStart => exact ⟨0, Nat.zero_le _, rfl, Lib.hid ⟨HX4.out, HY4.out, HB4.out⟩⟩
  case round =>
    obtain ⟨k, hk, rfl, HI⟩ := hrel
    obtain ⟨x0, x1, x2, x3⟩ := HI.out.1
    obtain ⟨y0, y1, y2, y3⟩ := HI.out.2.1
    by_cases hlt : k < d
    · obtain ⟨b1, o1, rfl, _⟩ := HA1.out (by omega)
      obtain ⟨b2, o2, rfl, _⟩ := HA2.out (by omega)
      have e1 := HD1.out wr HI.out.2.2 b1 o1 rfl k hlt
      have e2 := HD2.out wr HI.out.2.2 b2 o2 rfl k hlt
      obtain ⟨z, hz⟩ : ∃ z, z = x.kids.getD k 0 := ⟨_, rfl⟩
      rw [← hz] at e1 e2
      have S0 : wr.drew.cell? ⟨w.heap.size, 3, none⟩ = some (.slice (some ⟨b1, o1, none⟩) d c3) ∧ wr.drew.cell? ⟨w.heap.size + 1, 3, none⟩ = some (.slice (some ⟨b2, o2, none⟩) d c6) ∧ wr.drew.cell? ⟨b1, o1 + k, none⟩ = some (.int .i64 z) ∧ wr.drew.cell? ⟨b2, o2 + k, none⟩ = some (.int .i64 z) := ⟨x3, y3, e1, e2⟩
      have k0 : (0 : Int) ≤ (k : Int) := by omega
      have k1 : (k : Int) < (d : Int) := by omega
      have k3 : (k : Int).toNat = k := by omega
      clear hz x0 x1 x2 y0 y1 y2 e1 e2
      go_wp2_with fail
      go_region_held3 (fun w' => w'.cell? ⟨w.heap.size, 3, none⟩ = some (.slice (some ⟨b1, o1, none⟩) d c3) ∧ w'.cell? ⟨w.heap.size + 1, 3, none⟩ = some (.slice (some ⟨b2, o2, none⟩) d c6) ∧ w'.cell? ⟨b1, o1 + k, none⟩ = some (.int .i64 z) ∧ w'.cell? ⟨b2, o2 + k, none⟩ = some (.int .i64 z)) (exact S0) (fail)
      go_wp2_with fail
      go_roundw
      case rel => exact ⟨k + 1, by omega, by go_num, Lib.hid ⟨HI.out.1.later HI.out.1.lt (Below.refl _ _).drew, HI.out.2.1.later HI.out.2.1.lt (Below.refl _ _).drew, HI.out.2.2.drew⟩⟩
      case measure => simp [intOf]; omega
    · have h5 : d ≤ k := by omega
      have Hk := Lib.hid (show k = d by omega)
      clear hlt
      go_wp2_with fail
      go_ret
      exact ⟨rfl, HI.out.2.2⟩
end Go.Proofs.Ytceefoopehoalaa
