/-
  The other acts, done to both devices.
-/
import Derived.Test.YtmifaneolfciiaaRefJ
namespace Go.Proofs.Ytmifaneolfciiaa
open Go.RowKit
section
variable {E E' : Nat → Prop} {w w' : World} {p q : Nat} {d d' : Dev} {x x' : Ref}
set_option maxRecDepth 100000 in
set_option maxHeartbeats 1000000 in
theorem does2 (h : Pair E w p q d x) (hl : Like d x) (hn : d.n < 1000) (hE : ∀ k, w.heap.size ≤ k → E k) (s t : Int) (y : UInt8) (lv : Value) :
    Calls Try.prog 11 #[at0 p, at0 q, .agg #[.int .i64 2, .int .i64 s, .int .i64 t, .int .u8 (y.toNat : Int), lv]] w fun e w' => e = .returned (.bool true) ∧ ∃ d' x', After E w w' p q d d' x' := by
  obtain ⟨E1, h0, h1, h2, h3, h4⟩ := box_start h hE #[.int .i64 2, .int .i64 s, .int .i64 t, .int .u8 (y.toNat : Int), lv]
  obtain ⟨e2, e3, e4, e5⟩ := hl.doFlush
  have Hd := Lib.hid (h1.dFlush h2 (by omega))
  have Hn : x.n < 1000000 := by rw [← hl.n]; omega
  obtain ⟨dr, hdr⟩ : ∃ dr, dr = d.doFlush := ⟨_, rfl⟩
  obtain ⟨xr, hxr⟩ : ∃ xr, xr = x.doFlush := ⟨_, rfl⟩
  rw [← hdr, ← hxr] at e2 e3
  rw [← hdr] at e4 e5 Hd
  have Hx : Hid (∀ (w2 : World), Pair E1 w2 p q dr.2 x → (w.alloc (.cells #[.int .i64 2, .int .i64 s, .int .i64 t, .int .u8 (y.toNat : Int), lv] 34)).heap.size ≤ w2.heap.size →
      Calls Try.prog 26 #[at0 q] w2 fun e w' => e = .returned (.int .i64 dr.1) ∧ Pair E1 w' p q dr.2 xr.2 ∧ Only E1 w2 w') := Lib.hid fun w2 hp hw => by
    have := hp.xFlush (fun k hk => h2 k (Nat.le_trans hw hk)) Hn
    rw [← hxr, ← e2] at this
    exact this
  have c0 := h4 (w.alloc (.cells #[.int .i64 2, .int .i64 s, .int .i64 t, .int .u8 (y.toNat : Int), lv] 34)) 0 _ (Only.refl _ _) rfl
  have Hfin : Hid (∀ (w3 : World), Pair E1 w3 p q dr.2 xr.2 → Only E1 (w.alloc (.cells #[.int .i64 2, .int .i64 s, .int .i64 t, .int .u8 (y.toNat : Int), lv] 34)) w3 → ∃ d' x', After E w w3 p q d d' x') := Lib.hid fun w3 hp ho3 =>
    ⟨dr.2, xr.2, ⟨hp.wide fun k _ hk => h0 k hk, e3, by omega, e5, h3 _ ho3⟩⟩
  clear h hl hn hE h1 h2 h3 h4 e2 e3 e4 e5 Hn h0 hdr hxr
  go_enter Try.func11, Try.ntmps11
  go_wp2_with (first
    | (go_at_call 22; refine Hd.out.mono ?_; rintro e w2 ⟨rfl, hp2, ho2⟩; have Hp2 := Lib.hid hp2; have Ho2 := Lib.hid ho2; clear hp2 ho2)
    | (go_at_call 26; refine (Hx.out _ Hp2.out Ho2.out.size).mono ?_; rintro e w3 ⟨rfl, hp3, ho3⟩; have Hp3 := Lib.hid hp3; have Ho3 := Lib.hid (Ho2.out.trans ho3); clear hp3 ho3))
  go_ret
  exact ⟨rfl, Hfin.out _ Hp3.out Ho3.out⟩
set_option maxRecDepth 100000 in
set_option maxHeartbeats 2000000 in
theorem does3 (h : Pair E w p q d x) (hl : Like d x) (_ : d.n < 1000) (hE : ∀ k, w.heap.size ≤ k → E k) (s t : Int) (y : UInt8) (lv : Value) :
    Calls Try.prog 11 #[at0 p, at0 q, .agg #[.int .i64 3, .int .i64 s, .int .i64 t, .int .u8 (y.toNat : Int), lv]] w fun e w' => e = .returned (.bool true) ∧ ∃ d' x', After E w w' p q d d' x' := by
  have hy := y.toNat_lt
  obtain ⟨a, ha⟩ : ∃ a : Nat, a = y.toNat := ⟨_, rfl⟩
  rw [← ha] at hy ⊢
  have ha1 : (a : Int) < 256 := by omega
  have hw : IntKind.i64.wrap (a : Int) = (a : Int) := IntWalk.i64_in _ (by omega)
  obtain ⟨E1, h0, h1, h2, h3, h4⟩ := box_start h hE #[.int .i64 3, .int .i64 s, .int .i64 t, .int .u8 (a : Int), lv]
  obtain ⟨e2, e3, e4, e5⟩ := hl.doFail s a
  have h1d : Pair E1 (w.alloc (.cells #[.int .i64 3, .int .i64 s, .int .i64 t, .int .u8 (a : Int), lv] 34)).drew p q d x := h1.keep (fun _ _ _ => rfl) (Nat.le_refl _)
  have Hd := Lib.hid (h1d.dFail h2 s a (by omega))
  obtain ⟨dr, hdr⟩ : ∃ dr, dr = d.doFail s a := ⟨_, rfl⟩
  obtain ⟨xr, hxr⟩ : ∃ xr, xr = x.doFail s a := ⟨_, rfl⟩
  rw [← hdr, ← hxr] at e2 e3
  rw [← hdr] at e4 e5 Hd
  have Hx : Hid (∀ (w2 : World), Pair E1 w2 p q dr.2 x → (w.alloc (.cells #[.int .i64 3, .int .i64 s, .int .i64 t, .int .u8 (a : Int), lv] 34)).heap.size ≤ w2.heap.size →
      Calls Try.prog 27 #[at0 q, .int .i64 s, .int .i64 (a : Int)] w2 fun e w' => e = .returned (.int .i64 dr.1) ∧ Pair E1 w' p q dr.2 xr.2 ∧ Only E1 w2 w') := Lib.hid fun w2 hp hw => by
    have := hp.xFail (fun k hk => h2 k (Nat.le_trans hw hk)) s a (by omega)
    rw [← hxr, ← e2] at this
    exact this
  have hc : ∀ w', Only E1 (w.alloc (.cells #[.int .i64 3, .int .i64 s, .int .i64 t, .int .u8 (a : Int), lv] 34)) w' → w'.cell? ⟨w.heap.size, 0, none⟩ = some (.int .i64 3) ∧ w'.cell? ⟨w.heap.size, 1, none⟩ = some (.int .i64 s) ∧ w'.cell? ⟨w.heap.size, 3, none⟩ = some (.int .u8 (a : Int)) := fun w' ho => ⟨h4 w' 0 _ ho rfl, h4 w' 1 _ ho rfl, h4 w' 3 _ ho rfl⟩
  obtain ⟨c0, c1, c3⟩ := hc (w.alloc (.cells #[.int .i64 3, .int .i64 s, .int .i64 t, .int .u8 (a : Int), lv] 34)).drew (Only.drew _ _)
  have Hc := Lib.hid hc
  have Hfin : Hid (∀ (w3 : World), Pair E1 w3 p q dr.2 xr.2 → Only E1 (w.alloc (.cells #[.int .i64 3, .int .i64 s, .int .i64 t, .int .u8 (a : Int), lv] 34)) w3 → ∃ d' x', After E w w3 p q d d' x') := Lib.hid fun w3 hp ho3 =>
    ⟨dr.2, xr.2, ⟨hp.wide fun k _ hk => h0 k hk, e3, by omega, e5, h3 _ ho3⟩⟩
  clear h hl hE h1 h2 h3 h4 e2 e3 e4 e5 h0 hdr hxr h1d hc ha hy
  go_enter Try.func11, Try.ntmps11
  go_wp2_with fail
  go_region_held3 (fun w' : World => w'.cell? ⟨w.heap.size, 1, none⟩ = some (.int .i64 s) ∧ w'.cell? ⟨w.heap.size, 3, none⟩ = some (.int .u8 (a : Int)))
    (first | exact HS3.out | exact HS2.out | exact ⟨c1, c3⟩)
    (first
    | (go_at_call 23; refine Hd.out.mono ?_; rintro e w2 ⟨rfl, hp2, ho2⟩; have HS2 := Lib.hid (Hc.out _ ((Only.drew _ _).trans ho2)).2; have Hp2 := Lib.hid hp2; have Ho2 := Lib.hid ((Only.drew _ _).trans ho2); clear hp2 ho2)
    | (go_at_call 27; refine (Hx.out _ Hp2.out Ho2.out.size).mono ?_; rintro e w3 ⟨rfl, hp3, ho3⟩; have Hp3 := Lib.hid hp3; have HS3 := Lib.hid (Hc.out _ (Ho2.out.trans ho3)).2; have Ho3 := Lib.hid (Ho2.out.trans ho3); clear hp3 ho3))
  go_wp2_with fail
  go_ret
  exact ⟨rfl, Hfin.out _ Hp3.out Ho3.out⟩
set_option maxRecDepth 100000 in
set_option maxHeartbeats 2000000 in
theorem does5 (h : Pair E w p q d x) (hl : Like d x) (hn : d.n < 1000) (hE : ∀ k, w.heap.size ≤ k → E k) (s t : Int) (y : UInt8) (lv : Value) :
    Calls Try.prog 11 #[at0 p, at0 q, .agg #[.int .i64 5, .int .i64 s, .int .i64 t, .int .u8 (y.toNat : Int), lv]] w fun e w' => e = .returned (.bool true) ∧ ∃ d' x', After E w w' p q d d' x' := by
  obtain ⟨E1, h0, h1, h2, h3, h4⟩ := box_start h hE #[.int .i64 5, .int .i64 s, .int .i64 t, .int .u8 (y.toNat : Int), lv]
  obtain ⟨e2, e3, e4, e5⟩ := hl.doSpoil s t y
  have h1d : Pair E1 (w.alloc (.cells #[.int .i64 5, .int .i64 s, .int .i64 t, .int .u8 (y.toNat : Int), lv] 34)).drew p q d x := h1.keep (fun _ _ _ => rfl) (Nat.le_refl _)
  have Hd := Lib.hid (h1d.dSpoil h2 (by omega) s t y)
  have Hn : x.n < 1000000 := by rw [← hl.n]; omega
  obtain ⟨dr, hdr⟩ : ∃ dr, dr = d.doSpoil s t y := ⟨_, rfl⟩
  obtain ⟨xr, hxr⟩ : ∃ xr, xr = x.doSpoil s t y := ⟨_, rfl⟩
  rw [← hdr, ← hxr] at e2 e3
  rw [← hdr] at e4 e5 Hd
  have Hx : Hid (∀ (w2 : World), Pair E1 w2 p q dr.2 x → (w.alloc (.cells #[.int .i64 5, .int .i64 s, .int .i64 t, .int .u8 (y.toNat : Int), lv] 34)).heap.size ≤ w2.heap.size →
      Calls Try.prog 28 #[at0 q, .int .i64 s, .int .i64 t, .int .u8 (y.toNat : Int)] w2 fun e w' => e = .returned (.bool dr.1) ∧ Pair E1 w' p q dr.2 xr.2 ∧ Only E1 w2 w') := Lib.hid fun w2 hp hw => by
    have := hp.xSpoil (fun k hk => h2 k (Nat.le_trans hw hk)) Hn s t y
    rw [← hxr, ← e2] at this
    exact this
  have hc : ∀ w', Only E1 (w.alloc (.cells #[.int .i64 5, .int .i64 s, .int .i64 t, .int .u8 (y.toNat : Int), lv] 34)) w' → w'.cell? ⟨w.heap.size, 0, none⟩ = some (.int .i64 5) ∧ w'.cell? ⟨w.heap.size, 1, none⟩ = some (.int .i64 s) ∧ w'.cell? ⟨w.heap.size, 2, none⟩ = some (.int .i64 t) ∧ w'.cell? ⟨w.heap.size, 3, none⟩ = some (.int .u8 (y.toNat : Int)) := fun w' ho => ⟨h4 w' 0 _ ho rfl, h4 w' 1 _ ho rfl, h4 w' 2 _ ho rfl, h4 w' 3 _ ho rfl⟩
  obtain ⟨c0, c1, c2, c3⟩ := hc (w.alloc (.cells #[.int .i64 5, .int .i64 s, .int .i64 t, .int .u8 (y.toNat : Int), lv] 34)).drew (Only.drew _ _)
  have Hc := Lib.hid hc
  have Hfin : Hid (∀ (w3 : World), Pair E1 w3 p q dr.2 xr.2 → Only E1 (w.alloc (.cells #[.int .i64 5, .int .i64 s, .int .i64 t, .int .u8 (y.toNat : Int), lv] 34)) w3 → ∃ d' x', After E w w3 p q d d' x') := Lib.hid fun w3 hp ho3 =>
    ⟨dr.2, xr.2, ⟨hp.wide fun k _ hk => h0 k hk, e3, by omega, e5, h3 _ ho3⟩⟩
  clear h hl hn hE h1 h2 h3 h4 e2 e3 e4 e5 h0 hdr hxr h1d hc Hn
  obtain ⟨b, hb⟩ : ∃ b, b = dr.1 := ⟨_, rfl⟩
  rw [← hb] at Hx Hd
  clear hb
  go_enter Try.func11, Try.ntmps11
  go_wp2_with fail
  go_region_held3 (fun w' : World => w'.cell? ⟨w.heap.size, 1, none⟩ = some (.int .i64 s) ∧ w'.cell? ⟨w.heap.size, 2, none⟩ = some (.int .i64 t) ∧ w'.cell? ⟨w.heap.size, 3, none⟩ = some (.int .u8 (y.toNat : Int)))
    (first | exact HS3.out | exact HS2.out | exact ⟨c1, c2, c3⟩)
    (first
    | (go_at_call 24; refine Hd.out.mono ?_; rintro e w2 ⟨rfl, hp2, ho2⟩; have HS2 := Lib.hid (Hc.out _ ((Only.drew _ _).trans ho2)).2; have Hp2 := Lib.hid hp2; have Ho2 := Lib.hid ((Only.drew _ _).trans ho2); clear hp2 ho2)
    | (go_at_call 28; refine (Hx.out _ Hp2.out Ho2.out.size).mono ?_; rintro e w3 ⟨rfl, hp3, ho3⟩; have Hp3 := Lib.hid hp3; have HS3 := Lib.hid (Hc.out _ (Ho2.out.trans ho3)).2; have Ho3 := Lib.hid (Ho2.out.trans ho3); clear hp3 ho3))
  go_wp2_with fail
  go_ret
  refine ⟨?_, Hfin.out _ Hp3.out Ho3.out⟩
  cases b <;> rfl
end
end Go.Proofs.Ytmifaneolfciiaa
