/-
  Small functions of package ipsix: between, number, address, written, whole.
-/
import Derived.Test.YtpgggeihhdbedaaSxMath
import Derived.Test.YtpgggeihhdbedaaTakeH
import Derived.Test.YtpgggeihhdbedaaAdC
namespace Go.Proofs.Ytpgggeihhdbedaa
open Go.RowKit
theorem beq_u8 {p : UInt8} {k : Nat} (h : p.toNat ≠ k) : ((p.toNat : Int) == (k : Int)) = false := by simp; omega
theorem toNat_ne {p q : UInt8} (h : p ≠ q) : p.toNat ≠ q.toNat := fun e => h (UInt8.toNat_inj.1 e)
set_option maxRecDepth 100000 in
theorem sxBetween_any (p : UInt8) (w : World) : Calls Try.prog 18 #[.int .u8 (p.toNat : Int)] w fun e w' => e = .returned (.bool (stands p)) ∧ w = w' := by
  by_cases h0 : p = 0
  · subst h0
    go_enter Try.func18, Try.ntmps18
    go_wp2_with fail
    go_ret
    exact ⟨rfl, rfl⟩
  by_cases h1 : p = 43
  · subst h1
    go_enter Try.func18, Try.ntmps18
    go_wp2_with fail
    go_ret
    exact ⟨rfl, rfl⟩
  by_cases h2 : p = 44
  · subst h2
    go_enter Try.func18, Try.ntmps18
    go_wp2_with fail
    go_ret
    exact ⟨rfl, rfl⟩
  by_cases h3 : p = 60
  · subst h3
    go_enter Try.func18, Try.ntmps18
    go_wp2_with fail
    go_ret
    exact ⟨rfl, rfl⟩
  have hs : stands p = false := by simp [stands, h0, h1, h2, h3]
  have k0 : ((p.toNat : Int) == 0) = false := beq_u8 (k := 0) (toNat_ne h0)
  have k1 : ((p.toNat : Int) == 43) = false := beq_u8 (k := 43) (toNat_ne h1)
  have k2 : ((p.toNat : Int) == 44) = false := beq_u8 (k := 44) (toNat_ne h2)
  have k3 : ((p.toNat : Int) == 60) = false := beq_u8 (k := 60) (toNat_ne h3)
  rw [hs]
  clear hs h0 h1 h2 h3
  go_enter Try.func18, Try.ntmps18
  go_wp2_with fail
  go_ret
  exact ⟨rfl, rfl⟩
section
variable {A : Option Addr} {c : Nat} {l : List UInt8} {w : World} {B : Nat}
set_option maxRecDepth 100000 in
theorem sxNumber_any (hr : Rd w B (.slice A l.length c) (cellsB l)) {a : Nat} (h : a + 2 ≤ l.length) :
    Calls Try.prog 21 #[.slice A l.length c, .int .i64 (a : Int)] w fun e w' => e = .returned (.int .i64 ((num2 l a : Nat) : Int)) ∧ w = w' := by
  have hg := get_yes A c l a 2 w B hr (by omega) (by omega) h
  rw [ofBe_two l a h] at hg
  have hlt := num2_lt l a
  obtain ⟨q, hq⟩ : ∃ q, q = num2 l a := ⟨_, rfl⟩
  rw [← hq] at hg hlt ⊢
  have hc : IntKind.i64.wrap (q : Int) = (q : Int) := IntWalk.i64_in _ (by omega)
  have Hg := Lib.hid hg
  clear hg hq hr h hlt
  go_enter Try.func21, Try.ntmps21
  go_wp2_with (go_at_call 24; refine Hg.out.mono ?_; rintro e w1 ⟨rfl, rfl⟩)
  go_ret
  exact ⟨rfl, rfl⟩
end
set_option maxRecDepth 100000 in
theorem sxAddress_any {A : Option Addr} {c : Nat} {l : List UInt8} {w : World} {B : Nat} (hr : Rd w B (.slice A l.length c) (cellsB l)) (hB : B ≤ w.heap.size) (h : l.length = 16) :
    Calls Try.prog 22 #[.slice A l.length c] w fun e w' => e = .returned (adV (ad6 l)) ∧ Below w.heap.size w w' := by
  have hz := zero_ad
  have hx := ad6_wide h
  have hf := adOf_any A c l (w.alloc (.cells (adC Ad.zero).toArray 24)) B (hr.alloc hB _) (by simp; omega)
  rw [show (adBytes l).getD Ad.zero = ad6 l by unfold adBytes; rw [if_neg (by omega), if_pos h]; rfl, show (adBytes l).isSome = true by unfold adBytes; rw [if_neg (by omega), if_pos h]; rfl] at hf
  rw [h] at hf ⊢
  generalize ad6 l = x at hf hx ⊢
  have h0 := heap_alloc_last w (.cells (adC Ad.zero).toArray 24)
  have hS : Hid (∀ w2, Below (w.alloc (.cells (adC Ad.zero).toArray 24)).heap.size (w.alloc (.cells (adC Ad.zero).toArray 24)) w2 → ∃ w3, (Instr.storeAt 24 (.pointer (some ⟨w.heap.size, 0, none⟩)) (adV x)).run Try.prog (w2.alloc (.cells (adC x).toArray 24)) = .ok () w3 ∧ AdAt w3 w.heap.size x ∧ Below w.heap.size w w3) := Lib.hid fun w2 hb2 => by
    have hb3 := up_alloc (up (up_alloc (Below.refl w.heap.size w) (.cells (adC Ad.zero).toArray 24)) hb2) (.cells (adC x).toArray 24)
    have hsz := hb2.size
    rw [show (w.alloc (.cells (adC Ad.zero).toArray 24)).heap.size = w.heap.size + 1 by simp] at hsz
    obtain ⟨w3, hst, _, hat, hgr, _⟩ := store_ad (w := w2.alloc (.cells (adC x).toArray 24)) (g := w.heap.size) (a := Ad.zero) (b := x) ((heap_alloc_old w2 _ (by omega)).trans ((hb2.block _ (by simp)).trans h0)) rfl hx
    exact ⟨w3, hst, hat, grown_below hb3 hgr (Nat.le_refl _)⟩
  have hxi := info_adA hx
  have hzs : (adC Ad.zero).toArray.size = (adC x).toArray.size := by rw [List.size_toArray, List.size_toArray, adC_length hx]; rfl
  have hxa := all_oneCell_toArray (adC_one x)
  have Hf := Lib.hid hf
  have Hx := Lib.hid hx
  clear hf h0 hx
  generalize hZ : adC Ad.zero = Z at *
  go_enter Try.func22, Try.ntmps22
  go_wp2_with (first
    | (with_reducible refine wpList_alloc_zero (o := ⟨some 2, .alloc 24, _, _, _, _⟩) rfl 24 rfl Z.toArray hz ?_)
    | (with_reducible refine wpList_alloc_zero (o := ⟨some 3, .alloc 24, _, _, _, _⟩) rfl 24 rfl Z.toArray hz ?_)
    | (go_at_call 25; refine Hf.out.mono ?_; rintro _ w2 ⟨rfl, hb2⟩; obtain ⟨w3, hst, hat, hbel⟩ := hS.out w2 hb2; have hg3 := heap_alloc_last w2 (.cells (adC x).toArray 24); have HB3 := Lib.hid (And.intro hat hbel); clear hb2 hat hbel)
    | ((with_reducible refine wpList_store_new (o := ⟨none, .store 24 (.tmp 3) (.tmp 8), _, _, _, _⟩) rfl 24 (.tmp 3) (.tmp 8) rfl Z.toArray (adC x).toArray ?_ ?_ hxi hzs hxa ?_); exact rfl; exact rfl)
    | ((with_reducible refine wpList_load_row (o := ⟨some 10, .load 24 (.tmp 3), _, _, _, _⟩) rfl 24 (.tmp 3) rfl w2.heap.size ?_ 24 (adC x).toArray (0, 0) _ hg3 Try.underlying24 rfl hxi ?_); exact rfl)
    | ((with_reducible refine wpList_stored (o := ⟨none, .store 24 (.tmp 2) (.tmp 10), _, _, _, none⟩) rfl 24 (.tmp 2) (.tmp 10) rfl (.pointer (some ⟨w.heap.size, 0, none⟩)) (adV x) ?_ ?_ w3 hst ?_); exact rfl; exact rfl))
  refine bodyPost_ret (results_cell_row (p := 2) (ty := 24) (by kernel_rfl) _ _ w.heap.size 24 _ (0, 0) _ rfl HB3.out.1 Try.underlying24 rfl hxi) rfl ⟨rfl, HB3.out.2⟩
set_option maxRecDepth 100000 in
set_option maxHeartbeats 1000000 in
theorem sxWritten_any (h : Hd) (w : World) (hw : h.Wide) : Calls Try.prog 11 #[hdV h] w fun e w' => e = .returned (.bool h.may6) ∧ Below w.heap.size w w' := by
  have hat : HdAt (w.alloc (.cells (hdC h).toArray 26)) w.heap.size h := heap_alloc_last w (.cells (hdC h).toArray 26)
  have hb := Lib.hid (up_alloc (Below.refl w.heap.size w) (.cells (hdC h).toArray 26))
  have c0 := hdC_six hat
  have c1 := hdC_proto hat
  have c38 := hdC_hops hw hat
  have c37 := hdC_part hw hat
  have c3 : (w.alloc (.cells (hdC h).toArray 26)).cell? ⟨w.heap.size, 3, none⟩ = some (.bool h.src.six) := hdC_src hat 0 _ rfl
  have c20 : (w.alloc (.cells (hdC h).toArray 26)).cell? ⟨w.heap.size, 20, none⟩ = some (.bool h.dst.six) := hdC_dst hw hat 0 _ rfl
  have hm : h.may6 = (h.six && h.src.six && h.dst.six && (h.hops != 0) && !h.part && !stands h.proto) := rfl
  have hk : ((h.hops.toNat : Int) != 0) = (h.hops != 0) := by
    by_cases e : h.hops = 0
    · rw [e]; rfl
    · have : h.hops.toNat ≠ 0 := fun e2 => e (UInt8.toNat_inj.1 e2)
      rw [show (h.hops != 0) = true by simpa using e]
      simp; omega
  have hB := Lib.hid (fun W => sxBetween_any h.proto W)
  rw [hm, hdV]
  generalize h.src.six = b1 at c3 ⊢
  generalize h.dst.six = b2 at c20 ⊢
  generalize h.part = b3 at c37 ⊢
  generalize h.six = b0 at c0 ⊢
  generalize stands h.proto = b5 at hB ⊢
  generalize (h.hops != 0) = b4 at hk ⊢
  generalize (h.hops.toNat : Int) = kh at hk c38
  generalize (h.proto.toNat : Int) = kp at hB c1
  generalize hC : (hdC h).toArray = C at *
  clear hat hm hC hw
  cases b0
  · go_enter Try.func11, Try.ntmps11
    go_wp2_with fail
    go_ret
    exact ⟨rfl, hb.out⟩
  cases b1
  · go_enter Try.func11, Try.ntmps11
    go_wp2_with fail
    go_ret
    exact ⟨rfl, hb.out⟩
  cases b2
  · go_enter Try.func11, Try.ntmps11
    go_wp2_with fail
    go_ret
    exact ⟨rfl, hb.out⟩
  cases b4
  · go_enter Try.func11, Try.ntmps11
    go_wp2_with fail
    go_ret
    exact ⟨rfl, hb.out⟩
  cases b3
  · go_enter Try.func11, Try.ntmps11
    go_wp2_with (go_at_call 18; refine (hB.out _).mono ?_; rintro _ w1 ⟨rfl, rfl⟩)
    go_ret
    exact ⟨rfl, hb.out⟩
  · go_enter Try.func11, Try.ntmps11
    go_wp2_with fail
    go_ret
    exact ⟨rfl, hb.out⟩
end Go.Proofs.Ytpgggeihhdbedaa
