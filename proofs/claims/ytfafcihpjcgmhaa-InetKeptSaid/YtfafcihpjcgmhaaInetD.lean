/-
  What becomes of a sum by the document's own (ref11); that a sum is told.
-/
import Derived.Test.YtfafcihpjcgmhaaInetC
import Derived.Deep.RegionHeld3
namespace Go.Proofs.Ytfafcihpjcgmhaa
open Go.RowKit
theorem inCut {P : Program} {t e : TypeId} {i : TypeInfo} (ht : P.underlying t = some (.slice e)) (hi : P.info? e = some i) (hs : i.size = 1) (b o n c lo hi' : Nat) (h1 : lo < hi') (h2 : hi' ≤ c) (l h : Int) (hl : l = (lo : Int)) (hh : h = (hi' : Int)) (w : World) :
    (Instr.sliceAt t (.slice (some ⟨b, o, none⟩) n c) (some (.int .i64 l)) (some (.int .i64 h)) none).run P w = .ok (.slice (some ⟨b, o + lo, none⟩) (hi' - lo) (c - lo)) w := by
  subst hl hh
  have he : P.elem t = e := by simp [Program.elem, ht]
  rw [run_sliceAt_slice w t _ _ _ _ (by rw [he]; exact ht), run_slice_lh w t (some ⟨b, o, none⟩) n c (by rw [he]; exact ht) .i64 .i64 _ _ (by omega) (by omega) (by omega), he]
  simp [sizeOf, typeInfo, hi, hs, sliced]
  rw [if_neg (by omega), Addr.add_lit]
theorem chg_step {a b : List UInt8} {k : Nat} {x y u v : UInt8} (hk : k % 2 = 0) (hx : a[k]? = some x) (hy : a[k + 1]? = some y) (hu : b[k]? = some u) (hv : b[k + 1]? = some v) :
    (k + 2) / 2 * 65535 - tot (a.take (k + 2)) + tot (b.take (k + 2)) = k / 2 * 65535 - tot (a.take k) + tot (b.take k) + 65535 - (256 * x.toNat + y.toNat) + (256 * u.toNat + v.toNat) := by
  rw [tot_take2 a k x y hk hx hy, tot_take2 b k u v hk hu hv, show (k + 2) / 2 = k / 2 + 1 by omega]
  have h1 : k < a.length := (List.getElem?_eq_some_iff.mp hx).1
  have h2 := tot_even (a.take k) (by rw [List.length_take]; omega)
  rw [List.length_take, Nat.min_eq_left (by omega)] at h2
  have := x.toNat_lt
  have := y.toNat_lt
  omega
set_option maxRecDepth 100000 in
set_option maxHeartbeats 1000000 in
theorem rinChange_any {A1 A2 : Option Addr} {c1 c2 n s : Nat} {a b : List UInt8} {w : World} (hs : s ≤ 65535) (ha : a.length = n) (hb : b.length = n) (he : n % 2 = 0) (hn : n ≤ 1000000) (hr1 : Rd w w.heap.size (.slice A1 n c1) (cellsB a)) (hr2 : Rd w w.heap.size (.slice A2 n c2) (cellsB b)) :
    Calls Try.prog 12 #[.int .u16 (s : Int), .slice A1 n c1, .slice A2 n c2] w fun e w' => e = .returned (.int .u16 (chgOf s a b : Nat)) ∧ Below w.heap.size w w' := by
  obtain ⟨ti, hii, hz0, hz1, hz2⟩ := info_parts info_u8
  have HR := Lib.hid (And.intro hr1 hr2)
  have HL := Lib.hid (And.intro ha hb)
  obtain ⟨r, hr⟩ : ∃ r, r = 65535 - s := ⟨_, rfl⟩
  have w1 : IntKind.u64.wrap (s : Int) = (s : Int) := IntWalk.u64_in _ (by omega)
  have w2 : IntKind.u64.wrap (65535 - (s : Int)) = (r : Int) := by rw [IntWalk.u64_in _ (by omega)]; omega
  have Hr := Lib.hid hr
  have He := Lib.hid he
  have Hn := Lib.hid hn
  have Hs := Lib.hid hs
  clear hr1 hr2 ha hb hr he hn hs
  go_enter Try.func12, Try.ntmps12
  go_wp2_with fail
  go_loopw [7, 8] (fun sv iv wr => ∃ k q : Nat, k ≤ n ∧ Hid (k % 2 = 0) ∧ iv = .int .i64 (k : Int) ∧ sv = .int .u64 (q : Int) ∧ Hid (q = r + (k / 2 * 65535 - tot (a.take k) + tot (b.take k)) ∧ Below w.heap.size w wr)) (fun _ iv _ => n - (intOf iv).toNat)
  case atStart => exact ⟨0, r, by omega, Lib.hid rfl, rfl, rfl, Lib.hid ⟨by simp [tot], Below.refl _ _⟩⟩
  case round =>
    obtain ⟨k, q, hk, hk2, rfl, rfl, HI⟩ := hrel
    have hn6 := Hn.out
    by_cases hkn : k + 1 < n
    · obtain ⟨hr1, hr2⟩ := HR.out
      obtain ⟨ha, hb⟩ := HL.out
      obtain ⟨A', c', e, g1, g2, -, g4⟩ := hr1
      injection e with e1 e2 e3
      subst e1 e3
      clear e2
      obtain ⟨b1, o1, rfl, -⟩ := g4 (by rw [cellsB_length]; omega)
      obtain ⟨A', c', e, g3, g5, -, g6⟩ := hr2
      injection e with e1 e2 e3
      subst e1 e3
      clear e2
      obtain ⟨b2, o2, rfl, -⟩ := g6 (by rw [cellsB_length]; omega)
      rw [cellsB_length] at g1 g3
      have hbw := HI.out.2
      have hcut : ∀ (b3 o3 c3 : Nat) (l : List UInt8), l.length = n → n ≤ c3 → Rd w w.heap.size (.slice (some ⟨b3, o3, none⟩) n c3) (cellsB l) → ∀ x y, l[k]? = some x → l[k + 1]? = some y → Calls Try.prog 16 #[.slice (some ⟨b3, o3 + k, none⟩) 2 (c3 - k)] wr.drew fun e w' => e = .returned (.int .u64 ((256 * x.toNat + y.toNat : Nat) : Int)) ∧ wr.drew = w' := fun b3 o3 c3 l hl hc3 hrd x y hx hy => by
        have h1 := ((hrd.below hbw.drew).cut (lo := k) (hi := k + 2) (by omega) (by omega))
        have e9 : (some (⟨b3, o3, none⟩ : Addr)).map (·.add k) = some ⟨b3, o3 + k, none⟩ := by simp [Addr.add_lit]
        rw [if_neg (by omega), e9, show k + 2 - k = 2 by omega, cellsB_take, cellsB_drop] at h1
        have e : (l.take (k + 2)).drop k = [x, y] := by
          apply List.ext_getElem?
          intro i
          rw [List.getElem?_drop, List.getElem?_take]
          match i with
          | 0 => rw [if_pos (by omega)]; exact hx
          | 1 => rw [if_pos (by omega)]; exact hy
          | i + 2 => rw [if_neg (by omega)]; rfl
        rw [e] at h1
        have h2 := rinTotal_any (n := 2) rfl (by omega) h1
        have := x.toNat_lt
        have := y.toNat_lt
        rw [tot_two, fo_small _ (by omega)] at h2
        exact h2
      obtain ⟨x, hx⟩ : ∃ x, a[k]? = some x := ⟨_, List.getElem?_eq_getElem (by omega)⟩
      obtain ⟨y, hy⟩ : ∃ x, a[k + 1]? = some x := ⟨_, List.getElem?_eq_getElem (by omega)⟩
      obtain ⟨u, hu⟩ : ∃ x, b[k]? = some x := ⟨_, List.getElem?_eq_getElem (by omega)⟩
      obtain ⟨v, hv⟩ : ∃ x, b[k + 1]? = some x := ⟨_, List.getElem?_eq_getElem (by omega)⟩
      have t1 := hcut b1 o1 c1 a ha (by omega) HR.out.1 x y hx hy
      have t2 := hcut b2 o2 c2 b hb (by omega) HR.out.2 u v hu hv
      have hst := chg_step hk2.out hx hy hu hv
      have hxl := x.toNat_lt
      have hyl := y.toNat_lt
      have hul := u.toNat_lt
      have hvl := v.toNat_lt
      have tt1 := tot_even (a.take k) (by rw [List.length_take, Nat.min_eq_left (by omega)]; exact hk2.out)
      have tt2 := tot_le (b.take k)
      rw [List.length_take, Nat.min_eq_left (by omega)] at tt1 tt2
      have hq := HI.out.1
      obtain ⟨m1, hm1⟩ : ∃ m, m = 256 * x.toNat + y.toNat := ⟨_, rfl⟩
      obtain ⟨m2, hm2⟩ : ∃ m, m = 256 * u.toNat + v.toNat := ⟨_, rfl⟩
      rw [← hm1] at t1 hst
      rw [← hm2] at t2 hst
      have hrs := Hr.out
      obtain ⟨q1, hq1⟩ : ∃ y, y = q + 65535 := ⟨_, rfl⟩
      obtain ⟨q2, hq2⟩ : ∃ y, y = q1 - m1 := ⟨_, rfl⟩
      obtain ⟨q3, hq3⟩ : ∃ y, y = q2 + m2 := ⟨_, rfl⟩
      have v1 : IntKind.u64.wrap ((q : Int) + 65535) = (q1 : Int) := by rw [IntWalk.u64_in _ (by omega)]; omega
      have v2 : IntKind.u64.wrap ((q1 : Int) - (m1 : Int)) = (q2 : Int) := by rw [IntWalk.u64_in _ (by omega)]; omega
      have v3 : IntKind.u64.wrap ((q2 : Int) + (m2 : Int)) = (q3 : Int) := by rw [IntWalk.u64_in _ (by omega)]; omega
      have hfin : q3 = r + ((k + 2) / 2 * 65535 - tot (a.take (k + 2)) + tot (b.take (k + 2))) := by rw [hst]; omega
      have he2 : (k + 2) % 2 = 0 := by have := hk2.out; omega
      have j0 : (0 : Int) ≤ (k : Int) := by omega
      have j1 : (k : Int) ≤ (k : Int) + 2 := by omega
      have j2 : (k : Int) + 2 ≤ (c1 : Int) := by omega
      have j3 : (k : Int) + 2 ≤ (c2 : Int) := by omega
      have j4 : (k : Int).toNat = k := by omega
      have j5 : ((k : Int) + 2).toNat = k + 2 := by omega
      have i1 : (if c1 = k then some (⟨b1, o1, none⟩ : Addr) else some ⟨b1, o1 + k, none⟩) = some ⟨b1, o1 + k, none⟩ := by rw [if_neg (by omega)]
      have i2 : (if c2 = k then some (⟨b2, o2, none⟩ : Addr) else some ⟨b2, o2 + k, none⟩) = some ⟨b2, o2 + k, none⟩ := by rw [if_neg (by omega)]
      have T1 := Lib.hid t1
      have T2 := Lib.hid t2
      have HFin := Lib.hid (And.intro hfin hbw)
      have HE2 := Lib.hid he2
      have HK := Lib.hid hkn
      have kk : (k : Int) + 1 < (n : Int) := by omega
      have k9 : IntKind.i64.wrap ((k : Int) + 2) = (k : Int) + 2 := IntWalk.i64_in _ (by omega)
      clear ha hb g1 g2 g3 g4 g5 g6 hbw hcut hx hy hu hv t1 t2 hst hxl hyl hul hvl tt1 tt2 hq hm1 hm2 hrs hq1 hq2 hq3 hfin he2 hkn
      go_wp2_with fail
      go_region_held3 (fun _ => True) (trivial) (first
        | (go_at_call 16; with_reducible refine T1.out.mono ?_; rintro e w6 ⟨rfl, rfl⟩)
        | (go_at_call 16; with_reducible refine T2.out.mono ?_; rintro e w6 ⟨rfl, rfl⟩))
      all_goals (go_wp2_with fail)
      all_goals go_roundw
      all_goals first
        | exact ⟨k + 2, q3, by omega, HE2, by go_num, rfl, Lib.hid ⟨HFin.out.1, HFin.out.2.drew⟩⟩
        | (simp [intOf]; have := HK.out; omega)
    · have hkk : k = n := by have := hk2.out; have := He.out; omega
      subst hkk
      have hq := HI.out.1
      obtain ⟨ha, hb⟩ := HL.out
      rw [List.take_of_length_le (by omega), List.take_of_length_le (by omega)] at hq
      have hfo := fo_le q
      have tt1 := tot_le a
      have tt2 := tot_le b
      have hrs := Hr.out
      have hf := rinFold_any q wr (by omega)
      obtain ⟨f, hff⟩ : ∃ f, f = fo q := ⟨_, rfl⟩
      rw [← hff] at hf hfo
      obtain ⟨y, hy⟩ : ∃ y, y = 65535 - f := ⟨_, rfl⟩
      have v1 : IntKind.u64.wrap (65535 - (f : Int)) = (y : Int) := by rw [IntWalk.u64_in _ (by omega)]; omega
      have v2 : IntKind.u16.wrap (y : Int) = (y : Int) := by rw [IntKind.wrap_u16]; omega
      have hfin : chgOf s a b = y := by
        unfold chgOf
        rw [hy, hff, hq, ha, ← hrs, Nat.add_assoc]
      have HFin := Lib.hid (And.intro hfin HI.out.2)
      have Hf := Lib.hid hf
      clear hq ha hb hfo tt1 tt2 hrs hf hff hy hfin hkn hk
      go_wp2_with (go_at_call 17; refine Hf.out.mono ?_; rintro e w6 ⟨rfl, rfl⟩)
      go_ret
      exact ⟨by rw [HFin.out.1]; rfl, HFin.out.2⟩
end Go.Proofs.Ytfafcihpjcgmhaa
