/-
  One act, done to both devices: they tell the same, and stay alike.
-/
import Derived.Test.YtmifaneolfciiaaRefI
import Derived.Test.YtmifaneolfciiaaDevKeptWalk
namespace Go.Proofs.Ytmifaneolfciiaa
open Go.RowKit
section
variable {E E' : Nat → Prop} {w w' : World} {p q : Nat} {d d' : Dev} {x x' : Ref}
/-- Behind an act. -/
structure After (E : Nat → Prop) (w w' : World) (p q : Nat) (d : Dev) (d' : Dev) (x' : Ref) : Prop where
  pair : Pair E w' p q d' x'
  like : Like d' x'
  n : d'.n ≤ d.n + 1
  len : d'.L.length = d.L.length
  only : Only E w w'
/-- The act, laid into a block of its own. -/
theorem box_start (h : Pair E w p q d x) (hE : ∀ k, w.heap.size ≤ k → E k) (c : Array Value) :
    ∃ E1 : Nat → Prop, (∀ k, E1 k → E k) ∧ Pair E1 (w.alloc (.cells c 34)) p q d x ∧ (∀ k, (w.alloc (.cells c 34)).heap.size ≤ k → E1 k) ∧ (∀ w', Only E1 (w.alloc (.cells c 34)) w' → Only E w w') ∧
      (∀ w' (j : Nat) (v : Value), Only E1 (w.alloc (.cells c 34)) w' → c[j]? = some v → w'.cell? ⟨w.heap.size, j, none⟩ = some v) := by
  refine ⟨fun k => E k ∧ k ≠ w.heap.size, fun k hk => hk.1, h.far ((Below.refl _ _).alloc (Nat.le_refl _) _) (Nat.le_refl _), fun k hk => ?_, fun w' ho => (Only.alloc E w _).trans (ho.wide fun k hk => hk.1), fun w' j v ho hv => ?_⟩
  · rw [World.size_alloc] at hk
    exact ⟨hE k (by omega), by omega⟩
  · rw [World.cell?_of_block (a := ⟨w.heap.size, j, none⟩) (ho.block w.heap.size (by simp) fun e => e.2 rfl), World.cell?_alloc_mark]
    exact hv
theorem Rd.only {F : Nat → Prop} {v : Value} {l : List Value} (h : Rd w w.heap.size v l) (ho : Only F w w') (hv : ∀ g, v.ownBlock = some g → ¬ F g) : Rd w' w.heap.size v l := by
  obtain ⟨A, c, rfl, h1, h2, h3, h4⟩ := h
  refine ⟨A, c, rfl, h1, h2, h3, fun hp => ?_⟩
  obtain ⟨b, o, rfl, hb, hc⟩ := h4 hp
  refine ⟨b, o, rfl, hb, fun j u hu => ?_⟩
  rw [World.cell?_of_block (a := ⟨b, o + j, none⟩) (ho.block b hb (hv b rfl))]
  exact hc j u hu
set_option maxRecDepth 100000 in
set_option maxHeartbeats 1000000 in
theorem does1 (h : Pair E w p q d x) (hl : Like d x) (hn : d.n < 1000) (hE : ∀ k, w.heap.size ≤ k → E k) (s t : Int) (y : UInt8) (lv : Value) :
    Calls Try.prog 11 #[at0 p, at0 q, .agg #[.int .i64 1, .int .i64 s, .int .i64 t, .int .u8 (y.toNat : Int), lv]] w fun e w' => e = .returned (.bool true) ∧ ∃ d' x', After E w w' p q d d' x' := by
  obtain ⟨E1, h0, h1, h2, h3, h4⟩ := box_start h hE #[.int .i64 1, .int .i64 s, .int .i64 t, .int .u8 (y.toNat : Int), lv]
  obtain ⟨e1, e2, e3, e4, e5⟩ := hl.doRead s
  have Hd := Lib.hid (h1.dRead h2 (by omega) s)
  have Hn : x.n < 1000000 := by rw [← hl.n]; omega
  obtain ⟨dr, hdr⟩ : ∃ dr, dr = d.doRead s := ⟨_, rfl⟩
  obtain ⟨xr, hxr⟩ : ∃ xr, xr = x.doRead s := ⟨_, rfl⟩
  rw [← hdr, ← hxr] at e1 e2 e3
  rw [← hdr] at e4 e5 Hd
  have Hx : Hid (∀ (w2 : World) (v : Value), Pair (fun k => E1 k ∧ ¬ v.ownBlock = some k) w2 p q dr.2.2 x → (∀ g, v.ownBlock = some g → g < w2.heap.size) → (w.alloc (.cells #[.int .i64 1, .int .i64 s, .int .i64 t, .int .u8 (y.toNat : Int), lv] 34)).heap.size ≤ w2.heap.size →
      Calls Try.prog 25 #[at0 q, .int .i64 s] w2 fun e w' => ∃ v2, e = .returned (.tuple #[v2, .int .i64 dr.2.1]) ∧ Rd w' w'.heap.size v2 (cellsB dr.1) ∧ Pair (fun k => E1 k ∧ ¬ v.ownBlock = some k) w' p q dr.2.2 xr.2.2 ∧ Only (fun k => E1 k ∧ ¬ v.ownBlock = some k) w2 w') := Lib.hid fun w2 v hp hv hw => by
    have := hp.xRead (fun k hk => ⟨h2 k (Nat.le_trans hw hk), fun e => by have := hv k e; omega⟩) Hn s
    rw [← hxr, ← e1, ← e2] at this
    exact this
  have c0 := h4 (w.alloc (.cells #[.int .i64 1, .int .i64 s, .int .i64 t, .int .u8 (y.toNat : Int), lv] 34)) 0 _ (Only.refl _ _) rfl
  have c1 := h4 (w.alloc (.cells #[.int .i64 1, .int .i64 s, .int .i64 t, .int .u8 (y.toNat : Int), lv] 34)) 1 _ (Only.refl _ _) rfl
  have Hc := Lib.hid fun w2 (ho : Only E1 (w.alloc (.cells #[.int .i64 1, .int .i64 s, .int .i64 t, .int .u8 (y.toNat : Int), lv] 34)) w2) => h4 w2 1 _ ho rfl
  have Hfin : Hid (∀ (w2 w3 : World) (v : Value), Only E1 (w.alloc (.cells #[.int .i64 1, .int .i64 s, .int .i64 t, .int .u8 (y.toNat : Int), lv] 34)) w2 → Pair (fun k => E1 k ∧ ¬ v.ownBlock = some k) w3 p q dr.2.2 xr.2.2 → Only (fun k => E1 k ∧ ¬ v.ownBlock = some k) w2 w3 → ∃ d' x', After E w w3 p q d d' x') := Lib.hid fun w2 w3 v ho2 hp ho3 =>
    ⟨dr.2.2, xr.2.2, ⟨hp.wide fun k _ hk => h0 k hk.1, e3, by omega, e5, h3 _ (ho2.trans (ho3.wide fun k hk => hk.1))⟩⟩
  clear h hl hn hE h1 h2 h3 h4 e1 e2 e3 e4 e5 Hn h0 hdr hxr
  go_enter Try.func11, Try.ntmps11
  go_wp2_with (first
    | (go_at_call 18; refine Hd.out.mono ?_; rintro e w2 ⟨v, rfl, hr, hv, hp2, ho2⟩; have c1' := Hc.out _ ho2; have Hp2 := Lib.hid hp2; have Ho2 := Lib.hid ho2; have Hr := Lib.hid hr; have Hv := Lib.hid hv; clear hp2 ho2 hr hv)
    | (go_at_call 25; refine (Hx.out _ _ Hp2.out Hv.out Ho2.out.size).mono ?_; rintro e w3 ⟨v2, rfl, hr2, hp3, ho3⟩; have Hp3 := Lib.hid hp3; have Ho3 := Lib.hid ho3; have r1 := run_string_rd (P := Try.prog) 42 9 5 Try.underlying42 Try.underlying5 Try.underlying9 (Hr.out.only ho3 fun g e hk => hk.2 e); have r2 := run_string_rd (P := Try.prog) 42 9 5 Try.underlying42 Try.underlying5 Try.underlying9 hr2; clear hp3 ho3 hr2))
  go_ret
  exact ⟨rfl, Hfin.out _ _ _ Ho2.out Hp3.out Ho3.out⟩
end
end Go.Proofs.Ytmifaneolfciiaa
