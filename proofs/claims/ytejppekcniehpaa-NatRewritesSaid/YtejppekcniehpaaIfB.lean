/-
  Small functions of package ipfour: what is wrong with bytes.
  More small functions of package ipfour: whole, sound, address.
-/
import Derived.Test.YtejppekcniehpaaIfMath
import Derived.Test.YtejppekcniehpaaInetB
import Derived.Test.YtejppekcniehpaaCuts
import Derived.Test.YtejppekcniehpaaAdC
namespace Go.Proofs.Ytejppekcniehpaa
open Go.RowKit
section
variable {A : Option Addr} {c : Nat} {l : List UInt8} {w : World} {B : Nat}
set_option maxRecDepth 100000 in
theorem ifNumber_any (hr : Rd w B (.slice A l.length c) (cellsB l)) {a : Nat} (h : a + 2 ≤ l.length) :
    Calls Try.prog 69 #[.slice A l.length c, .int .i64 (a : Int)] w fun e w' => e = .returned (.int .i64 ((num2 l a : Nat) : Int)) ∧ w = w' := by
  have hg := get_yes A c l a 2 w B hr (by omega) (by omega) h
  rw [ofBe_two l a h] at hg
  have hlt := num2_lt l a
  obtain ⟨q, hq⟩ : ∃ q, q = num2 l a := ⟨_, rfl⟩
  rw [← hq] at hg hlt ⊢
  have hc : IntKind.i64.wrap (q : Int) = (q : Int) := IntWalk.i64_in _ (by omega)
  have Hg := Lib.hid hg
  clear hg hq hr h hlt
  go_enter Try.func69, Try.ntmps69
  go_wp2_with (go_at_call 79; refine Hg.out.mono ?_; rintro e w1 ⟨rfl, rfl⟩)
  go_ret
  exact ⟨rfl, rfl⟩
set_option maxRecDepth 100000 in
theorem ifBehind_any (hr : Rd w B (.slice A l.length c) (cellsB l)) :
    Calls Try.prog 60 #[.slice A l.length c] w fun e w' => e = .returned (.tuple #[.int .i64 ((if ifE1 l = 0 then ifN l else 0 : Nat) : Int), .int .i64 ((ifE1 l : Nat) : Int)]) ∧ w = w' := by
  obtain ⟨m, hm⟩ : ∃ m, m = l.length := ⟨_, rfl⟩
  by_cases h1 : 2048 < m
  · have e : ifE1 l = 10 := by unfold ifE1; rw [if_pos (by omega)]
    rw [e, ← hm]
    clear hr hm e
    go_enter Try.func60, Try.ntmps60
    go_wp2_with fail
    go_ret2
    exact ⟨rfl, rfl⟩
  by_cases h2 : m < 20
  · have e : ifE1 l = 9 := by unfold ifE1; rw [if_neg (by omega), if_pos (by omega)]
    rw [e, ← hm]
    clear hr hm e
    go_enter Try.func60, Try.ntmps60
    go_wp2_with fail
    go_ret2
    exact ⟨rfl, rfl⟩
  obtain ⟨b, o, rfl, hb, hc⟩ := hr.addr (by omega)
  have c0 := hc 0 (by omega)
  rw [Nat.add_zero] at c0
  obtain ⟨x, hx⟩ : ∃ x, x = l[0]'(by omega) := ⟨_, rfl⟩
  have hgx : (l.getD 0 0).toNat = x.toNat := by rw [hx, List.getD_eq_getElem?_getD, List.getElem?_eq_getElem (by omega)]; rfl
  rw [← hx] at c0
  have hxl := x.toNat_lt
  have he : ifE1 l = if x.toNat / 16 ≠ 4 then 12 else if x.toNat % 16 < 5 then 4 else if m < x.toNat % 16 * 4 then 9 else 0 := by
    unfold ifE1 ifN
    rw [if_neg (by omega), if_neg (by omega), hgx, hm]
  have hn : ifN l = x.toNat % 16 * 4 := by unfold ifN; rw [hgx]
  rw [he, hn, ← hm]
  clear hr hc hgx he hn hm hb hx
  have k1 : bits .and .u8 (x.toNat : Int) 15 = ((x.toNat % 16 : Nat) : Int) := by
    rw [show (15 : Int) = ((15 : Nat) : Int) by rfl, u8_and_nat _ _ hxl (by omega), nat_mask4]
  obtain ⟨p, hp⟩ : ∃ p, p = x.toNat / 16 := ⟨_, rfl⟩
  obtain ⟨q, hq⟩ : ∃ q, q = x.toNat % 16 := ⟨_, rfl⟩
  rw [← hq] at k1
  rw [← hp, ← hq]
  have k2 : (x.toNat : Int) / 16 = (p : Int) := by omega
  have hq2 : q < 16 := by omega
  clear hp hq
  by_cases h3 : p = 4
  · subst h3
    simp only [ne_eq, not_true_eq_false, if_false]
    by_cases h4 : q < 5
    · rw [if_pos h4]
      go_enter Try.func60, Try.ntmps60
      go_wp2_with fail
      go_ret2
      exact ⟨rfl, rfl⟩
    · rw [if_neg h4]
      by_cases h5 : m < q * 4
      · rw [if_pos h5]
        go_enter Try.func60, Try.ntmps60
        go_wp2_with fail
        go_ret2
        exact ⟨rfl, rfl⟩
      · rw [if_neg h5, if_pos rfl]
        go_enter Try.func60, Try.ntmps60
        go_wp2_with fail
        go_ret2
        exact ⟨by simp, rfl⟩
  · have h3' : ((p : Int) != 4) = true := by simp; omega
    rw [if_pos h3]
    go_enter Try.func60, Try.ntmps60
    go_wp2_with fail
    go_ret2
    exact ⟨rfl, rfl⟩
end
section
variable {A : Option Addr} {c : Nat} {l : List UInt8} {w : World} {B : Nat}
set_option maxRecDepth 100000 in
theorem ifWhole_any (hr : Rd w B (.slice A l.length c) (cellsB l)) (n : Nat) (h : 4 ≤ l.length) :
    Calls Try.prog 61 #[.slice A l.length c, .int .i64 (n : Int)] w fun e w' => e = .returned (.int .i64 ((ifE2 l n : Nat) : Int)) ∧ w = w' := by
  have hf := ifNumber_any hr (a := 2) (by omega)
  have Hf := Lib.hid hf
  unfold ifE2
  obtain ⟨q, hq⟩ : ∃ q, q = num2 l 2 := ⟨_, rfl⟩
  obtain ⟨m, hm⟩ : ∃ m, m = l.length := ⟨_, rfl⟩
  rw [← hq] at Hf ⊢
  rw [← hm] at Hf ⊢
  clear hf hq hm hr h
  by_cases h1 : q < n
  · rw [if_pos h1]
    go_enter Try.func61, Try.ntmps61
    go_wp2_with (go_at_call 69; refine Hf.out.mono ?_; rintro e w1 ⟨rfl, rfl⟩)
    go_ret
    exact ⟨rfl, rfl⟩
  · rw [if_neg h1]
    by_cases h2 : m < q
    · rw [if_pos h2]
      go_enter Try.func61, Try.ntmps61
      go_wp2_with (go_at_call 69; refine Hf.out.mono ?_; rintro e w1 ⟨rfl, rfl⟩)
      go_ret
      exact ⟨rfl, rfl⟩
    · rw [if_neg h2]
      by_cases h3 : q < m
      · rw [if_pos h3]
        go_enter Try.func61, Try.ntmps61
        go_wp2_with (go_at_call 69; refine Hf.out.mono ?_; rintro e w1 ⟨rfl, rfl⟩)
        go_ret
        exact ⟨rfl, rfl⟩
      · rw [if_neg h3]
        go_enter Try.func61, Try.ntmps61
        go_wp2_with (go_at_call 69; refine Hf.out.mono ?_; rintro e w1 ⟨rfl, rfl⟩)
        go_ret
        exact ⟨rfl, rfl⟩
theorem and128 (y : UInt8) : bits .and .u8 (y.toNat : Int) 128 = if 128 ≤ y.toNat then 128 else 0 := by
  have hy := y.toNat_lt
  rw [show (128 : Int) = ((128 : Nat) : Int) by rfl, u8_and_nat _ _ hy (by omega), show (128 : Nat) = 2 ^ 7 by rfl, nat_bit]
  split <;> omega
set_option maxRecDepth 100000 in
theorem ifSound_any (hr : Rd w w.heap.size (.slice A l.length c) (cellsB l)) (h : 20 ≤ l.length) (h2 : l.length ≤ 1000000) :
    Calls Try.prog 62 #[.slice A l.length c] w fun e w' => e = .returned (.int .i64 ((ifE3 l : Nat) : Int)) ∧ Below w.heap.size w w' := by
  have hg := inGood_any (RdAll.lit1 w 22 _ l hr) (by simpa using h2)
  rw [show [l].flatten = l by simp] at hg
  have hb := up_alloc (Below.refl w.heap.size w) (.cells #[.slice A l.length c] 22)
  obtain ⟨b, o, rfl, hbl, hc⟩ := hr.addr (by omega)
  have hcell : ∀ j, (w.alloc (.cells #[.slice (some ⟨b, o, none⟩) l.length c] 22)).cell? ⟨b, o + j, none⟩ = w.cell? ⟨b, o + j, none⟩ := fun j => World.cell?_alloc_lt w _ _ (show b < w.heap.size by omega)
  have c8 := (hcell 8).trans (hc 8 (by omega))
  have c6 := (hcell 6).trans (hc 6 (by omega))
  obtain ⟨x, hx⟩ : ∃ x, x = l[8]'(by omega) := ⟨_, rfl⟩
  obtain ⟨y, hy⟩ : ∃ y, y = l[6]'(by omega) := ⟨_, rfl⟩
  have hgx : l.getD 8 0 = x := by rw [hx, List.getD_eq_getElem?_getD, List.getElem?_eq_getElem (by omega)]; rfl
  have hgy : l.getD 6 0 = y := by rw [hy, List.getD_eq_getElem?_getD, List.getElem?_eq_getElem (by omega)]; rfl
  rw [← hx] at c8
  rw [← hy] at c6
  unfold ifE3
  rw [hgx, hgy]
  obtain ⟨m, hm⟩ : ∃ m, m = l.length := ⟨_, rfl⟩
  rw [← hm] at hg hb c8 c6 h ⊢
  have Hg := Lib.hid hg
  have Hb := Lib.hid hb
  have ha := and128 y
  clear hg hb hr hc hcell hx hy hgx hgy hm h2
  by_cases h1 : sumOf l = 0
  · rw [if_neg (by omega)]
    rw [decide_eq_true h1] at Hg
    clear h1
    by_cases h3 : x.toNat = 0
    · rw [if_pos (.inl h3)]
      rw [h3] at c8
      clear h3
      go_enter Try.func62, Try.ntmps62
      go_wp2_with (go_at_call 70; refine Hg.out.mono ?_; rintro e w1 ⟨rfl, rfl⟩)
      go_ret
      exact ⟨rfl, Hb.out⟩
    · have h3' : ((x.toNat : Int) == 0) = false := by simp; omega
      by_cases h4 : 128 ≤ y.toNat
      · rw [if_pos (.inr h4)]
        rw [if_pos h4] at ha
        clear h3 h4
        go_enter Try.func62, Try.ntmps62
        go_wp2_with (go_at_call 70; refine Hg.out.mono ?_; rintro e w1 ⟨rfl, rfl⟩)
        go_ret
        exact ⟨rfl, Hb.out⟩
      · rw [if_neg (by omega)]
        rw [if_neg h4] at ha
        clear h3 h4
        go_enter Try.func62, Try.ntmps62
        go_wp2_with (go_at_call 70; refine Hg.out.mono ?_; rintro e w1 ⟨rfl, rfl⟩)
        go_ret
        exact ⟨rfl, Hb.out⟩
  · rw [if_pos h1]
    rw [decide_eq_false h1] at Hg
    clear h1
    go_enter Try.func62, Try.ntmps62
    go_wp2_with (go_at_call 70; refine Hg.out.mono ?_; rintro e w1 ⟨rfl, rfl⟩)
    go_ret
    exact ⟨rfl, Hb.out⟩
end
set_option maxRecDepth 100000 in
theorem ifAddress_any {A : Option Addr} {c : Nat} {l : List UInt8} {w : World} {B : Nat} (hr : Rd w B (.slice A l.length c) (cellsB l)) (hB : B ≤ w.heap.size) (h : l.length = 4) :
    Calls Try.prog 71 #[.slice A l.length c] w fun e w' => e = .returned (adV (ad4 l)) ∧ Below w.heap.size w w' := by
  have hz := zero_ad
  have hx := ad4_wide h
  have hf := adOf_any A c l (w.alloc (.cells (adC Ad.zero).toArray 25)) B (hr.alloc hB _) (by simp; omega)
  rw [show (adBytes l).getD Ad.zero = ad4 l by unfold adBytes; rw [if_pos h]; rfl, show (adBytes l).isSome = true by unfold adBytes; rw [if_pos h]; rfl] at hf
  rw [h] at hf ⊢
  generalize ad4 l = x at hf hx ⊢
  have h0 := heap_alloc_last w (.cells (adC Ad.zero).toArray 25)
  have hS : Hid (∀ w2, Below (w.alloc (.cells (adC Ad.zero).toArray 25)).heap.size (w.alloc (.cells (adC Ad.zero).toArray 25)) w2 → ∃ w3, (Instr.storeAt 25 (.pointer (some ⟨w.heap.size, 0, none⟩)) (adV x)).run Try.prog (w2.alloc (.cells (adC x).toArray 25)) = .ok () w3 ∧ AdAt w3 w.heap.size x ∧ Below w.heap.size w w3) := Lib.hid fun w2 hb2 => by
    have hb3 := up_alloc (up (up_alloc (Below.refl w.heap.size w) (.cells (adC Ad.zero).toArray 25)) hb2) (.cells (adC x).toArray 25)
    have hsz := hb2.size
    rw [show (w.alloc (.cells (adC Ad.zero).toArray 25)).heap.size = w.heap.size + 1 by simp] at hsz
    obtain ⟨w3, hst, _, hat, hgr, _⟩ := store_ad (w := w2.alloc (.cells (adC x).toArray 25)) (g := w.heap.size) (a := Ad.zero) (b := x) ((heap_alloc_old w2 _ (by omega)).trans ((hb2.block _ (by simp)).trans h0)) rfl hx
    exact ⟨w3, hst, hat, grown_below hb3 hgr (Nat.le_refl _)⟩
  have hxi := info_adA hx
  have hzs : (adC Ad.zero).toArray.size = (adC x).toArray.size := by rw [List.size_toArray, List.size_toArray, adC_length hx]; rfl
  have hxa := all_oneCell_toArray (adC_one x)
  have Hf := Lib.hid hf
  have Hx := Lib.hid hx
  clear hf h0 hx
  generalize hZ : adC Ad.zero = Z at *
  go_enter Try.func71, Try.ntmps71
  go_wp2_with (first
    | (with_reducible refine wpList_alloc_zero (o := ⟨some 2, .alloc 25, _, _, _, _⟩) rfl 25 rfl Z.toArray hz ?_)
    | (with_reducible refine wpList_alloc_zero (o := ⟨some 3, .alloc 25, _, _, _, _⟩) rfl 25 rfl Z.toArray hz ?_)
    | (go_at_call 80; refine Hf.out.mono ?_; rintro _ w2 ⟨rfl, hb2⟩; obtain ⟨w3, hst, hat, hbel⟩ := hS.out w2 hb2; have hg3 := heap_alloc_last w2 (.cells (adC x).toArray 25); have HB3 := Lib.hid (And.intro hat hbel); clear hb2 hat hbel)
    | ((with_reducible refine wpList_store_new (o := ⟨none, .store 25 (.tmp 3) (.tmp 8), _, _, _, _⟩) rfl 25 (.tmp 3) (.tmp 8) rfl Z.toArray (adC x).toArray ?_ ?_ hxi hzs hxa ?_); exact rfl; exact rfl)
    | ((with_reducible refine wpList_load_row (o := ⟨some 10, .load 25 (.tmp 3), _, _, _, _⟩) rfl 25 (.tmp 3) rfl w2.heap.size ?_ 25 (adC x).toArray (0, 0) _ hg3 Try.underlying25 rfl hxi ?_); exact rfl)
    | ((with_reducible refine wpList_stored (o := ⟨none, .store 25 (.tmp 2) (.tmp 10), _, _, _, none⟩) rfl 25 (.tmp 2) (.tmp 10) rfl (.pointer (some ⟨w.heap.size, 0, none⟩)) (adV x) ?_ ?_ w3 hst ?_); exact rfl; exact rfl))
  refine bodyPost_ret (results_cell_row (p := 2) (ty := 25) (by kernel_rfl) _ _ w.heap.size 25 _ (0, 0) _ rfl HB3.out.1 Try.underlying25 rfl hxi) rfl ⟨rfl, HB3.out.2⟩
end Go.Proofs.Ytejppekcniehpaa
