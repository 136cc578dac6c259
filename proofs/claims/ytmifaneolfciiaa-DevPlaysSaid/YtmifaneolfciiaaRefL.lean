/-
  Crash and Write, done to both devices; whatever act.
-/
import Derived.Test.YtmifaneolfciiaaRefK
namespace Go.Proofs.Ytmifaneolfciiaa
open Go.RowKit
section
variable {E E' : Nat → Prop} {w w' : World} {p q : Nat} {d d' : Dev} {x x' : Ref}
theorem cellsZ_one (l : List Int) : ∀ u ∈ cellsZ l, u.oneCell' = true := by
  intro u hu
  obtain ⟨_, _, rfl⟩ := List.mem_map.1 hu
  rfl
/-- Crash of the program's device, its numbers in a slice that was made behind. -/
theorem dCrash_new {E1 : Nat → Prop} {W1 w2 : World} {A : Option Addr} {n c : Nat} {ks : List Int} (h : Pair E1 W1 p q d x) (hE : ∀ k, W1.heap.size ≤ k → E1 k) (hn : d.n < 1000000) (hm : Mine w2 W1.heap.size 3 (.slice A n c) (cellsZ ks)) (hb : Below W1.heap.size W1 w2) (hk : ks.length < 1000000) :
    Calls Try.prog 16 #[at0 p, .slice A n c] w2 fun e w' => e = .returned (.tuple #[]) ∧ Pair E1 w' p q (d.crash ks) x ∧ Only E1 W1 w' := by
  have hblk := fun g e => hm.block g e
  have hp : Pair (fun k => E1 k ∧ ¬ (Value.slice A n c).ownBlock = some k) w2 p q d x := (h.wide fun k hk he => ⟨he, fun e => by have := (hblk k e).1; omega⟩).below hb
  have hnl : n = ks.length := by have := hm.len; rwa [cellsZ_length] at this
  refine (hp.dCrash (fun k hk' => ⟨hE k (Nat.le_trans hb.size hk'), fun e => by have := (hblk k e).2; omega⟩) hn (fun h0 => ?_) hnl hk).mono ?_
  · obtain ⟨g, c', cur, e1, hg, _⟩ := hm.at_ (by rw [cellsZ_length]; exact h0)
    injection e1 with e1 e2 e3
    subst e1
    exact ⟨g, 0, rfl, hm.lt.2, fun hn => hn.2 rfl, fun j hj => by rw [Nat.zero_add]; exact hm.cellAt (cellsZ_at _ j hj)⟩
  · rintro e w' ⟨rfl, hp', ho⟩
    exact ⟨rfl, hp'.wide fun k _ hk => hk.1, (Only.of_below hb).trans (ho.wide fun k hk => hk.1)⟩
/-- .. and of the document's, its numbers in a slice that came in. -/
theorem xCrash_old {E1 : Nat → Prop} {W1 w3 : World} {A : Option Addr} {n c B : Nat} {ks : List Int} {d' : Dev} (h : Pair E1 w3 p q d' x) (hE : ∀ k, W1.heap.size ≤ k → E1 k) (hB : ∀ k, E1 k → B ≤ k) (hBW : B ≤ W1.heap.size) (hn : x.n < 1000000) (hr : Rd W1 B (.slice A n c) (cellsZ ks)) (ho : Only E1 W1 w3) (hk : ks.length < 1000000) :
    Calls Try.prog 17 #[at0 q, .slice A n c] w3 fun e w' => e = .returned (.tuple #[]) ∧ Pair E1 w' p q d' (x.crash ks) ∧ Only E1 W1 w' := by
  obtain ⟨A', c', e, h1, h2, h3, h4⟩ := hr
  injection e with e1 e2 e3
  subst e1 e2 e3
  refine (h.xCrash (fun k hk' => hE k (Nat.le_trans ho.size hk')) hn (fun h0 => ?_) (cellsZ_length ks) hk).mono ?_
  · obtain ⟨b, o, e, hb, hc⟩ := h4 (by rw [cellsZ_length]; exact h0)
    refine ⟨b, o, e, Nat.lt_of_lt_of_le (Nat.lt_of_lt_of_le hb hBW) ho.size, fun he => by have := hB b he; omega, fun j hj => ?_⟩
    rw [World.cell?_of_block (a := ⟨b, o + j, none⟩) (ho.block b (Nat.lt_of_lt_of_le hb hBW) fun he => by have := hB b he; omega)]
    exact hc j _ (cellsZ_at _ j hj)
  · rintro e w' ⟨rfl, hp', ho'⟩
    exact ⟨rfl, hp', ho.trans ho'⟩
set_option maxRecDepth 100000 in
set_option maxHeartbeats 2000000 in
theorem does4_small {B : Nat} (h : Pair E w p q d x) (hl : Like d x) (hn : d.n < 1000) (hE : ∀ k, w.heap.size ≤ k → E k) (hB : ∀ k, E k → B ≤ k) (hBw : B ≤ w.heap.size) (s t : Int) (y : UInt8) (A : Option Addr) (n0 n c : Nat) (k0 ks : List Int) (hr0 : Rd w B (.slice A n0 c) (cellsZ k0)) (hm : n0 = k0.length ∧ n0 ≤ 40 ∧ n = n0 ∧ ks = k0) :
    Calls Try.prog 11 #[at0 p, at0 q, .agg #[.int .i64 4, .int .i64 s, .int .i64 t, .int .u8 (y.toNat : Int), .slice A n0 c]] w fun e w' => e = .returned (.bool true) ∧ ∃ d' x', After E w w' p q d d' x' := by
  obtain ⟨E1, h0, h1, h2, h3, h4⟩ := box_start h hE #[.int .i64 4, .int .i64 s, .int .i64 t, .int .u8 (y.toNat : Int), .slice A n0 c]
  obtain ⟨hn0, hn40, hnn, hks⟩ := hm
  have e3 := hl.crash ks
  have e5 : (d.crash ks).L.length = d.L.length := lose_length _ _ _ _
  have hr0' := hr0.alloc hBw (.cells #[.int .i64 4, .int .i64 s, .int .i64 t, .int .u8 (y.toNat : Int), .slice A n0 c] 34)
  have hsz : B ≤ (w.alloc (.cells #[.int .i64 4, .int .i64 s, .int .i64 t, .int .u8 (y.toNat : Int), .slice A n0 c] 34)).heap.size := by simp; omega
  have hr : Rd (w.alloc (.cells #[.int .i64 4, .int .i64 s, .int .i64 t, .int .u8 (y.toNat : Int), .slice A n0 c] 34)) B (.slice A n c) (cellsZ ks) := by
    rw [hnn, hks]
    exact hr0'
  have hkl : ks.length = n0 := by rw [hks, hn0]
  obtain rfl : n0 = n := hnn.symm
  obtain ⟨ti, hi, hz0, hz1, hz2⟩ := info_parts info_int
  have Hd : Hid (∀ (w2 : World) (A2 : Option Addr) (c2 : Nat), Mine w2 (w.alloc (.cells #[.int .i64 4, .int .i64 s, .int .i64 t, .int .u8 (y.toNat : Int), .slice A n0 c] 34)).heap.size 3 (.slice A2 n0 c2) (cellsZ ks) → Below (w.alloc (.cells #[.int .i64 4, .int .i64 s, .int .i64 t, .int .u8 (y.toNat : Int), .slice A n0 c] 34)).heap.size (w.alloc (.cells #[.int .i64 4, .int .i64 s, .int .i64 t, .int .u8 (y.toNat : Int), .slice A n0 c] 34)) w2 →
      Calls Try.prog 16 #[at0 p, .slice A2 n0 c2] w2 fun e w' => e = .returned (.tuple #[]) ∧ Pair E1 w' p q (d.crash ks) x ∧ Only E1 (w.alloc (.cells #[.int .i64 4, .int .i64 s, .int .i64 t, .int .u8 (y.toNat : Int), .slice A n0 c] 34)) w') := Lib.hid fun w2 A2 c2 hm hb => dCrash_new h1 h2 (by omega) hm hb (by omega)
  have Hn : x.n < 1000000 := by rw [← hl.n]; omega
  have Hx : Hid (∀ (w3 : World), Pair E1 w3 p q (d.crash ks) x → Only E1 (w.alloc (.cells #[.int .i64 4, .int .i64 s, .int .i64 t, .int .u8 (y.toNat : Int), .slice A n0 c] 34)) w3 →
      Calls Try.prog 17 #[at0 q, .slice A n0 c] w3 fun e w' => e = .returned (.tuple #[]) ∧ Pair E1 w' p q (d.crash ks) (x.crash ks) ∧ Only E1 (w.alloc (.cells #[.int .i64 4, .int .i64 s, .int .i64 t, .int .u8 (y.toNat : Int), .slice A n0 c] 34)) w') := Lib.hid fun w3 hp ho => xCrash_old hp h2 (fun k hk => hB k (h0 k hk)) hsz Hn hr ho (by omega)
  have c0 := h4 (w.alloc (.cells #[.int .i64 4, .int .i64 s, .int .i64 t, .int .u8 (y.toNat : Int), .slice A n0 c] 34)) 0 _ (Only.refl _ _) rfl
  have c4 := h4 (w.alloc (.cells #[.int .i64 4, .int .i64 s, .int .i64 t, .int .u8 (y.toNat : Int), .slice A n0 c] 34)) 4 _ (Only.refl _ _) rfl
  have Hfin : Hid (∀ (w3 : World), Pair E1 w3 p q (d.crash ks) (x.crash ks) → Only E1 (w.alloc (.cells #[.int .i64 4, .int .i64 s, .int .i64 t, .int .u8 (y.toNat : Int), .slice A n0 c] 34)) w3 → ∃ d' x', After E w w3 p q d d' x') := Lib.hid fun w3 hp ho3 =>
    ⟨d.crash ks, x.crash ks, ⟨hp.wide fun k _ hk => h0 k hk, e3, Nat.le_succ _, e5, h3 _ ho3⟩⟩
  obtain ⟨L, hL⟩ : ∃ L, L = cellsZ ks := ⟨_, rfl⟩
  have hLl : L.length = n0 := by rw [hL, cellsZ_length, hkl]
  have hL1 : ∀ u ∈ L, u.oneCell' = true := by rw [hL]; exact cellsZ_one ks
  rw [← hL] at hr
  have hr2 := hr.alloc hsz (.cells #[] 3)
  have hemp : Mine ((w.alloc (.cells #[.int .i64 4, .int .i64 s, .int .i64 t, .int .u8 (y.toNat : Int), .slice A n0 c] 34)).alloc (.cells #[] 3)) (w.alloc (.cells #[.int .i64 4, .int .i64 s, .int .i64 t, .int .u8 (y.toNat : Int), .slice A n0 c] 34)).heap.size 3 (.slice (some ⟨w.heap.size + 1, 0, none⟩) 0 0) [] := by
    have := Mine.empty (w.alloc (.cells #[.int .i64 4, .int .i64 s, .int .i64 t, .int .u8 (y.toNat : Int), .slice A n0 c] 34)) (w.alloc (.cells #[.int .i64 4, .int .i64 s, .int .i64 t, .int .u8 (y.toNat : Int), .slice A n0 c] 34)).heap.size 3 (Nat.le_refl _)
    rwa [show (w.alloc (.cells #[.int .i64 4, .int .i64 s, .int .i64 t, .int .u8 (y.toNat : Int), .slice A n0 c] 34)).heap.size = w.heap.size + 1 from World.size_alloc _ _] at this ⊢
  have HL := Lib.hid hL
  clear h hl hn hE hB hBw hr0 hr0' h1 h2 h3 h4 e3 e5 h0 hr hsz hks hn0 hL hkl Hn
  go_enter Try.func11, Try.ntmps11
  go_wp2_with (first
    | (at_builtin; refine wpList_append_rd rfl (.tmp 89) (.tmp 90) 32 rfl (w.alloc (.cells #[.int .i64 4, .int .i64 s, .int .i64 t, .int .u8 (y.toNat : Int), .slice A n0 c] 34)).heap.size 3 ti _ 8 Try.underlying32 hi hz0 hz1 hz2 rfl _ [] rfl hemp _ _ _ rfl hr2 hL1 (by simp; omega) (by unfold maxLen; simp; omega) (by simp) ?_; intro v2 w2 hown hbel _ _; rw [List.nil_append] at hown; obtain ⟨A2, c2, rfl⟩ := hown.form; rw [hLl] at hown ⊢; rw [HL.out] at hown; have Hown := Lib.hid hown; have Hb2 := Lib.hid (((Below.refl (w.alloc (.cells #[.int .i64 4, .int .i64 s, .int .i64 t, .int .u8 (y.toNat : Int), .slice A n0 c] 34)).heap.size (w.alloc (.cells #[.int .i64 4, .int .i64 s, .int .i64 t, .int .u8 (y.toNat : Int), .slice A n0 c] 34))).alloc (Nat.le_refl _) (.cells #[] 3)).trans hbel); clear hown hbel)
    | (go_at_call 16; refine (Hd.out _ _ _ Hown.out Hb2.out).mono ?_; rintro e w3 ⟨rfl, hp3, ho3⟩; have Hp3 := Lib.hid hp3; have Ho3 := Lib.hid ho3; clear hp3 ho3)
    | (go_at_call 17; refine (Hx.out _ Hp3.out Ho3.out).mono ?_; rintro e w4 ⟨rfl, hp4, ho4⟩; have Hp4 := Lib.hid hp4; have Ho4 := Lib.hid ho4; clear hp4 ho4))
  go_ret
  exact ⟨rfl, Hfin.out _ Hp4.out Ho4.out⟩
set_option maxRecDepth 100000 in
set_option maxHeartbeats 2000000 in
theorem does4_big {B : Nat} (h : Pair E w p q d x) (hl : Like d x) (hn : d.n < 1000) (hE : ∀ k, w.heap.size ≤ k → E k) (hB : ∀ k, E k → B ≤ k) (hBw : B ≤ w.heap.size) (s t : Int) (y : UInt8) (A : Option Addr) (n0 n c : Nat) (k0 ks : List Int) (hr0 : Rd w B (.slice A n0 c) (cellsZ k0)) (hm : n0 = k0.length ∧ 40 < n0 ∧ n = 40 ∧ ks = k0.take 40) :
    Calls Try.prog 11 #[at0 p, at0 q, .agg #[.int .i64 4, .int .i64 s, .int .i64 t, .int .u8 (y.toNat : Int), .slice A n0 c]] w fun e w' => e = .returned (.bool true) ∧ ∃ d' x', After E w w' p q d d' x' := by
  obtain ⟨E1, h0, h1, h2, h3, h4⟩ := box_start h hE #[.int .i64 4, .int .i64 s, .int .i64 t, .int .u8 (y.toNat : Int), .slice A n0 c]
  obtain ⟨hn0, hn40, hnn, hks⟩ := hm
  have e3 := hl.crash ks
  have e5 : (d.crash ks).L.length = d.L.length := lose_length _ _ _ _
  have hr0' := hr0.alloc hBw (.cells #[.int .i64 4, .int .i64 s, .int .i64 t, .int .u8 (y.toNat : Int), .slice A n0 c] 34)
  have hsz : B ≤ (w.alloc (.cells #[.int .i64 4, .int .i64 s, .int .i64 t, .int .u8 (y.toNat : Int), .slice A n0 c] 34)).heap.size := by simp; omega
  have hcap : 40 ≤ c := by
    obtain ⟨_, _, e, h1, _⟩ := hr0
    injection e with e1 e2 e3
    omega
  have hr : Rd (w.alloc (.cells #[.int .i64 4, .int .i64 s, .int .i64 t, .int .u8 (y.toNat : Int), .slice A n0 c] 34)) B (.slice A n c) (cellsZ ks) := by
    rw [hnn, hks, show cellsZ (k0.take 40) = (cellsZ k0).take 40 by simp [cellsZ]]
    exact hr0'.upto (by omega)
  have hkl : ks.length = 40 := by rw [hks, List.length_take]; omega
  subst hnn
  obtain ⟨ti, hi, hz0, hz1, hz2⟩ := info_parts info_int
  have Hd : Hid (∀ (w2 : World) (A2 : Option Addr) (c2 : Nat), Mine w2 (w.alloc (.cells #[.int .i64 4, .int .i64 s, .int .i64 t, .int .u8 (y.toNat : Int), .slice A n0 c] 34)).heap.size 3 (.slice A2 40 c2) (cellsZ ks) → Below (w.alloc (.cells #[.int .i64 4, .int .i64 s, .int .i64 t, .int .u8 (y.toNat : Int), .slice A n0 c] 34)).heap.size (w.alloc (.cells #[.int .i64 4, .int .i64 s, .int .i64 t, .int .u8 (y.toNat : Int), .slice A n0 c] 34)) w2 →
      Calls Try.prog 16 #[at0 p, .slice A2 40 c2] w2 fun e w' => e = .returned (.tuple #[]) ∧ Pair E1 w' p q (d.crash ks) x ∧ Only E1 (w.alloc (.cells #[.int .i64 4, .int .i64 s, .int .i64 t, .int .u8 (y.toNat : Int), .slice A n0 c] 34)) w') := Lib.hid fun w2 A2 c2 hm hb => dCrash_new h1 h2 (by omega) hm hb (by omega)
  have Hn : x.n < 1000000 := by rw [← hl.n]; omega
  have Hx : Hid (∀ (w3 : World), Pair E1 w3 p q (d.crash ks) x → Only E1 (w.alloc (.cells #[.int .i64 4, .int .i64 s, .int .i64 t, .int .u8 (y.toNat : Int), .slice A n0 c] 34)) w3 →
      Calls Try.prog 17 #[at0 q, .slice A 40 c] w3 fun e w' => e = .returned (.tuple #[]) ∧ Pair E1 w' p q (d.crash ks) (x.crash ks) ∧ Only E1 (w.alloc (.cells #[.int .i64 4, .int .i64 s, .int .i64 t, .int .u8 (y.toNat : Int), .slice A n0 c] 34)) w') := Lib.hid fun w3 hp ho => xCrash_old hp h2 (fun k hk => hB k (h0 k hk)) hsz Hn hr ho (by omega)
  have c0 := h4 (w.alloc (.cells #[.int .i64 4, .int .i64 s, .int .i64 t, .int .u8 (y.toNat : Int), .slice A n0 c] 34)) 0 _ (Only.refl _ _) rfl
  have c4 := h4 (w.alloc (.cells #[.int .i64 4, .int .i64 s, .int .i64 t, .int .u8 (y.toNat : Int), .slice A n0 c] 34)) 4 _ (Only.refl _ _) rfl
  have Hfin : Hid (∀ (w3 : World), Pair E1 w3 p q (d.crash ks) (x.crash ks) → Only E1 (w.alloc (.cells #[.int .i64 4, .int .i64 s, .int .i64 t, .int .u8 (y.toNat : Int), .slice A n0 c] 34)) w3 → ∃ d' x', After E w w3 p q d d' x') := Lib.hid fun w3 hp ho3 =>
    ⟨d.crash ks, x.crash ks, ⟨hp.wide fun k _ hk => h0 k hk, e3, Nat.le_succ _, e5, h3 _ ho3⟩⟩
  obtain ⟨L, hL⟩ : ∃ L, L = cellsZ ks := ⟨_, rfl⟩
  have hLl : L.length = 40 := by rw [hL, cellsZ_length, hkl]
  have hL1 : ∀ u ∈ L, u.oneCell' = true := by rw [hL]; exact cellsZ_one ks
  rw [← hL] at hr
  have hr2 := hr.alloc hsz (.cells #[] 3)
  have hemp : Mine ((w.alloc (.cells #[.int .i64 4, .int .i64 s, .int .i64 t, .int .u8 (y.toNat : Int), .slice A n0 c] 34)).alloc (.cells #[] 3)) (w.alloc (.cells #[.int .i64 4, .int .i64 s, .int .i64 t, .int .u8 (y.toNat : Int), .slice A n0 c] 34)).heap.size 3 (.slice (some ⟨w.heap.size + 1, 0, none⟩) 0 0) [] := by
    have := Mine.empty (w.alloc (.cells #[.int .i64 4, .int .i64 s, .int .i64 t, .int .u8 (y.toNat : Int), .slice A n0 c] 34)) (w.alloc (.cells #[.int .i64 4, .int .i64 s, .int .i64 t, .int .u8 (y.toNat : Int), .slice A n0 c] 34)).heap.size 3 (Nat.le_refl _)
    rwa [show (w.alloc (.cells #[.int .i64 4, .int .i64 s, .int .i64 t, .int .u8 (y.toNat : Int), .slice A n0 c] 34)).heap.size = w.heap.size + 1 from World.size_alloc _ _] at this ⊢
  have HL := Lib.hid hL
  clear h hl hn hE hB hBw hr0 hr0' h1 h2 h3 h4 e3 e5 h0 hr hsz hks hn0 hL hkl Hn
  go_enter Try.func11, Try.ntmps11
  go_wp2_with (first
    | (at_builtin; refine wpList_append_rd rfl (.tmp 89) (.tmp 90) 32 rfl (w.alloc (.cells #[.int .i64 4, .int .i64 s, .int .i64 t, .int .u8 (y.toNat : Int), .slice A n0 c] 34)).heap.size 3 ti _ 8 Try.underlying32 hi hz0 hz1 hz2 rfl _ [] rfl hemp _ _ _ rfl hr2 hL1 (by simp; omega) (by unfold maxLen; simp; omega) (by simp) ?_; intro v2 w2 hown hbel _ _; rw [List.nil_append] at hown; obtain ⟨A2, c2, rfl⟩ := hown.form; rw [hLl] at hown ⊢; rw [HL.out] at hown; have Hown := Lib.hid hown; have Hb2 := Lib.hid (((Below.refl (w.alloc (.cells #[.int .i64 4, .int .i64 s, .int .i64 t, .int .u8 (y.toNat : Int), .slice A n0 c] 34)).heap.size (w.alloc (.cells #[.int .i64 4, .int .i64 s, .int .i64 t, .int .u8 (y.toNat : Int), .slice A n0 c] 34))).alloc (Nat.le_refl _) (.cells #[] 3)).trans hbel); clear hown hbel)
    | (go_at_call 16; refine (Hd.out _ _ _ Hown.out Hb2.out).mono ?_; rintro e w3 ⟨rfl, hp3, ho3⟩; have Hp3 := Lib.hid hp3; have Ho3 := Lib.hid ho3; clear hp3 ho3)
    | (go_at_call 17; refine (Hx.out _ Hp3.out Ho3.out).mono ?_; rintro e w4 ⟨rfl, hp4, ho4⟩; have Hp4 := Lib.hid hp4; have Ho4 := Lib.hid ho4; clear hp4 ho4))
  go_ret
  exact ⟨rfl, Hfin.out _ Hp4.out Ho4.out⟩
set_option maxRecDepth 100000 in
set_option maxHeartbeats 2000000 in
theorem does0 (h : Pair E w p q d x) (hl : Like d x) (hn : d.n < 1000) (hE : ∀ k, w.heap.size ≤ k → E k) (k s t : Int) (y : UInt8) (lv : Value) (hk : k ≠ 1 ∧ k ≠ 2 ∧ k ≠ 3 ∧ k ≠ 4 ∧ k ≠ 5) :
    Calls Try.prog 11 #[at0 p, at0 q, .agg #[.int .i64 k, .int .i64 s, .int .i64 t, .int .u8 (y.toNat : Int), lv]] w fun e w' => e = .returned (.bool true) ∧ ∃ d' x', After E w w' p q d d' x' := by
  obtain ⟨E1, h0, h1, h2, h3, h4⟩ := box_start h hE #[.int .i64 k, .int .i64 s, .int .i64 t, .int .u8 (y.toNat : Int), lv]
  obtain ⟨e2, e3, e4, e5⟩ := hl.doWrite s (one y)
  have h1d : Pair E1 (w.alloc (.cells #[.int .i64 k, .int .i64 s, .int .i64 t, .int .u8 (y.toNat : Int), lv] 34)).drew p q d x := h1.keep (fun _ _ _ => rfl) (Nat.le_refl _)
  have Hn : x.n < 1000000 := by rw [← hl.n]; omega
  obtain ⟨dr, hdr⟩ : ∃ dr, dr = d.doWrite s (one y) := ⟨_, rfl⟩
  obtain ⟨xr, hxr⟩ : ∃ xr, xr = x.doWrite s (one y) := ⟨_, rfl⟩
  have Hd : Hid (∀ (w2 : World) (g : Nat), Below (w.alloc (.cells #[.int .i64 k, .int .i64 s, .int .i64 t, .int .u8 (y.toNat : Int), lv] 34)).drew.heap.size (w.alloc (.cells #[.int .i64 k, .int .i64 s, .int .i64 t, .int .u8 (y.toNat : Int), lv] 34)).drew w2 → (w.alloc (.cells #[.int .i64 k, .int .i64 s, .int .i64 t, .int .u8 (y.toNat : Int), lv] 34)).drew.heap.size ≤ g → w2.heap[g]? = some (.cells (cellsB (one y)).toArray 5 (0, 0)) →
      Calls Try.prog 20 #[at0 p, .int .i64 s, .slice (some ⟨g, 0, none⟩) 256 256] w2 fun e w' => e = .returned (.int .i64 dr.1) ∧ Pair E1 w' p q dr.2 x ∧ Only E1 (w.alloc (.cells #[.int .i64 k, .int .i64 s, .int .i64 t, .int .u8 (y.toNat : Int), lv] 34)) w') := Lib.hid fun w2 g hb hg hh => by
    have hlt := (Array.getElem?_eq_some_iff.1 hh).1
    have := (h1d.far hb hg).dWrite (fun k hk => ⟨h2 k (Nat.le_trans hb.size hk), by omega⟩) (by omega) s (one_length y) hh (fun hn => hn.2 rfl)
    rw [← hdr] at this
    refine this.mono ?_
    rintro e w' ⟨rfl, hp', ho'⟩
    exact ⟨rfl, hp'.wide fun k _ hk => hk.1, ((Only.drew E1 _).trans (Only.of_below hb)).trans (ho'.wide fun k hk => hk.1)⟩
  have Hx : Hid (∀ (w3 w4 : World) (g : Nat), Pair E1 w3 p q dr.2 x → Only E1 (w.alloc (.cells #[.int .i64 k, .int .i64 s, .int .i64 t, .int .u8 (y.toNat : Int), lv] 34)) w3 → Below w3.heap.size w3 w4 → w3.heap.size ≤ g → w4.heap[g]? = some (.cells (cellsB (one y)).toArray 5 (0, 0)) →
      Calls Try.prog 29 #[at0 q, .int .i64 s, .slice (some ⟨g, 0, none⟩) 256 256] w4 fun e w' => e = .returned (.int .i64 dr.1) ∧ Pair E1 w' p q dr.2 xr.2 ∧ Only E1 (w.alloc (.cells #[.int .i64 k, .int .i64 s, .int .i64 t, .int .u8 (y.toNat : Int), lv] 34)) w') := Lib.hid fun w3 w4 g hp ho hb hg hh => by
    have hlt := (Array.getElem?_eq_some_iff.1 hh).1
    have := (hp.far hb hg).xWrite (fun k hk => ⟨h2 k (Nat.le_trans ho.size (Nat.le_trans hb.size hk)), by omega⟩) Hn s (one_length y) hh (fun hn => hn.2 rfl)
    rw [← hxr] at this
    refine this.mono ?_
    rintro e w' ⟨rfl, hp', ho'⟩
    exact ⟨by rw [hdr, hxr, e2], hp'.wide fun k _ hk => hk.1, (ho.trans (Only.of_below hb)).trans (ho'.wide fun k hk => hk.1)⟩
  rw [← hdr, ← hxr] at e2 e3
  rw [← hdr] at e4 e5
  have hc : ∀ w', Only E1 (w.alloc (.cells #[.int .i64 k, .int .i64 s, .int .i64 t, .int .u8 (y.toNat : Int), lv] 34)) w' → w'.cell? ⟨w.heap.size, 0, none⟩ = some (.int .i64 k) ∧ w'.cell? ⟨w.heap.size, 1, none⟩ = some (.int .i64 s) ∧ w'.cell? ⟨w.heap.size, 3, none⟩ = some (.int .u8 (y.toNat : Int)) := fun w' ho => ⟨h4 w' 0 _ ho rfl, h4 w' 1 _ ho rfl, h4 w' 3 _ ho rfl⟩
  obtain ⟨c0, c1, c3⟩ := hc (w.alloc (.cells #[.int .i64 k, .int .i64 s, .int .i64 t, .int .u8 (y.toNat : Int), lv] 34)).drew (Only.drew _ _)
  have Hc := Lib.hid hc
  have Hfin : Hid (∀ (w3 : World), Pair E1 w3 p q dr.2 xr.2 → Only E1 (w.alloc (.cells #[.int .i64 k, .int .i64 s, .int .i64 t, .int .u8 (y.toNat : Int), lv] 34)) w3 → ∃ d' x', After E w w3 p q d d' x') := Lib.hid fun w3 hp ho3 =>
    ⟨dr.2, xr.2, ⟨hp.wide fun k _ hk => h0 k hk, e3, by omega, e5, h3 _ ho3⟩⟩
  have k1 : (k == 1) = false := by rw [beq_eq_false_iff_ne]; exact hk.1
  have k2 : (k == 2) = false := by rw [beq_eq_false_iff_ne]; exact hk.2.1
  have k3 : (k == 3) = false := by rw [beq_eq_false_iff_ne]; exact hk.2.2.1
  have k4 : (k == 4) = false := by rw [beq_eq_false_iff_ne]; exact hk.2.2.2.1
  have k5 : (k == 5) = false := by rw [beq_eq_false_iff_ne]; exact hk.2.2.2.2
  clear h hl hn hE h1 h2 h3 h4 e2 e3 e4 e5 h0 hdr hxr h1d hc Hn hk
  go_enter Try.func11, Try.ntmps11
  go_wp2_with fail
  go_region_held3 (fun w' : World => w'.cell? ⟨w.heap.size, 1, none⟩ = some (.int .i64 s) ∧ w'.cell? ⟨w.heap.size, 3, none⟩ = some (.int .u8 (y.toNat : Int)))
    (first | exact HS5.out | exact HS4.out | exact HS3.out | exact HS2.out | exact ⟨c1, c3⟩)
    (first
    | (go_at_call 21; have hq3 := Hp3; clear hq3; refine (full_one y _).mono ?_; rintro e w4 ⟨g4, rfl, hg4, hh4, hb4⟩; have HS4 := Lib.hid (Hc.out _ (Ho3.out.trans (Only.of_below hb4))).2; have Hg4 := Lib.hid hg4; have Hh4 := Lib.hid hh4; have Hb4 := Lib.hid hb4; clear hg4 hh4 hb4)
    | (go_at_call 21; refine (full_one y _).mono ?_; rintro e w2 ⟨g2, rfl, hg2, hh2, hb2⟩; have HS2 := Lib.hid (Hc.out _ ((Only.drew _ _).trans (Only.of_below hb2))).2; have Hg2 := Lib.hid hg2; have Hh2 := Lib.hid hh2; have Hb2 := Lib.hid hb2; clear hg2 hh2 hb2)
    | (go_at_call 20; refine (Hd.out _ _ Hb2.out Hg2.out Hh2.out).mono ?_; rintro e w3 ⟨rfl, hp3, ho3⟩; have HS3 := Lib.hid (Hc.out _ ho3).2; have Hp3 := Lib.hid hp3; have Ho3 := Lib.hid ho3; clear hp3 ho3)
    | (go_at_call 29; refine (Hx.out _ _ _ Hp3.out Ho3.out Hb4.out Hg4.out Hh4.out).mono ?_; rintro e w5 ⟨rfl, hp5, ho5⟩; have HS5 := Lib.hid (Hc.out _ ho5).2; have Hp5 := Lib.hid hp5; have Ho5 := Lib.hid ho5; clear hp5 ho5))
  go_wp2_with fail
  go_ret
  exact ⟨rfl, Hfin.out _ Hp5.out Ho5.out⟩
/-- Whatever act. -/
theorem does_any {B : Nat} (h : Pair E w p q d x) (hl : Like d x) (hn : d.n < 1000) (hE : ∀ k, w.heap.size ≤ k → E k) (hB : ∀ k, E k → B ≤ k) (hBw : B ≤ w.heap.size) (a : ActD) (hr : Rd w B a.lv (cellsZ a.ks)) :
    Calls Try.prog 11 #[at0 p, at0 q, .agg a.cells.toArray] w fun e w' => e = .returned (.bool true) ∧ ∃ d' x', After E w w' p q d d' x' := by
  obtain ⟨k, s, t, y, lv, ks⟩ := a
  show Calls Try.prog 11 #[at0 p, at0 q, .agg #[.int .i64 k, .int .i64 s, .int .i64 t, .int .u8 (y.toNat : Int), lv]] w _
  by_cases h1 : k = 1
  · subst h1; exact does1 h hl hn hE s t y lv
  by_cases h2 : k = 2
  · subst h2; exact does2 h hl hn hE s t y lv
  by_cases h3 : k = 3
  · subst h3; exact does3 h hl hn hE s t y lv
  by_cases h5 : k = 5
  · subst h5; exact does5 h hl hn hE s t y lv
  by_cases h4 : k = 4
  · subst h4
    have hr' : Rd w B lv (cellsZ ks) := hr
    obtain ⟨A, c, e, _⟩ := hr
    have e' : lv = .slice A (cellsZ ks).length c := e
    subst e'
    rw [cellsZ_length] at hr' ⊢
    by_cases h40 : ks.length ≤ 40
    · exact does4_small h hl hn hE hB hBw s t y A _ _ c ks ks hr' ⟨rfl, h40, rfl, rfl⟩
    · exact does4_big h hl hn hE hB hBw s t y A _ 40 c ks (ks.take 40) hr' ⟨rfl, by omega, rfl, rfl⟩
  exact does0 h hl hn hE k s t y lv ⟨h1, h2, h3, h4, h5⟩
end
end Go.Proofs.Ytmifaneolfciiaa
