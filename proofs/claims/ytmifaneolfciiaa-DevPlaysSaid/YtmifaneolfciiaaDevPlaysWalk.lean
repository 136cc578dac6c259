/-
  The walk of DevPlays.
-/
import Derived.Test.YtmifaneolfciiaaRefM
namespace Go.Proofs.Ytmifaneolfciiaa
open Go.RowKit
/-- Behind j acts. -/
structure Both (E : Nat → Prop) (w wr : World) (p q : Nat) (d : Dev) (x : Ref) (j N : Nat) : Prop where
  pair : Pair E wr p q d x
  like : Like d x
  n : d.n ≤ j
  len : d.L.length = N
  only : Only E w wr
/-- The list of the numbers ws. -/
def Told (w : World) (A : Option Addr) (ws : List Nat) (m : Nat) : Prop := ∀ k, k < m → ∃ g o, A = some ⟨g, o, none⟩ ∧ w.cell? ⟨g, o + k, none⟩ = some (.int .i64 ((ws.getD k 0 : Nat) : Int))
/-- What the walk asks of the acts. -/
def ActsAt (w : World) (A : Option Addr) (l : List ActD) : Prop := ∀ i, (hi : i < l.length) → ∃ b o, A = some ⟨b, o, none⟩ ∧ b < w.heap.size ∧ (Rd w w.heap.size l[i].lv (cellsZ l[i].ks)) ∧
    ∀ w', (∀ k, k < w.heap.size → w'.heap[k]? = w.heap[k]?) → (Instr.loadAt 34 (.pointer (some ⟨b, o + i * 5, none⟩))).run Try.prog w' = .ok (.agg l[i].cells.toArray) w'
section
variable {E : Nat → Prop} {w wr : World} {p q : Nat} {d : Dev} {x : Ref} {j N : Nat}
theorem round_facts {l : List ActD} {A : Option Addr} (hE1 : ∀ k, w.heap.size ≤ k → E k) (hE2 : ∀ k, E k → w.heap.size ≤ k) (ha : ActsAt w A l) (hjl : j < l.length) (hj : j < 40) (hb : Both E w wr p q d x j N) :
    ∃ lb lo, A = some ⟨lb, lo, none⟩ ∧ lb < w.heap.size ∧
      Calls Try.prog 11 #[at0 p, at0 q, .agg (l[j]'hjl).cells.toArray] wr.drew (fun e w' => e = .returned (.bool true) ∧ ∃ d' x', After E wr.drew w' p q d d' x') ∧
      (Instr.loadAt 34 (.pointer (some ⟨lb, lo + j * 5, none⟩))).run Try.prog wr.drew = .ok (.agg (l[j]'hjl).cells.toArray) wr.drew ∧
      (∀ w2 d2 x2, After E wr.drew w2 p q d d2 x2 → ∀ ws m, ws = d2.waits → m = ws.length →
        Calls Try.prog 13 #[at0 p] w2 (fun e w' => ∃ A c, e = .returned (.slice A m c) ∧ Below w2.heap.size w2 w' ∧ Told w' A ws m) ∧
        (∀ w3 A3 c3, Below w2.heap.size w2 w3 → Told w3 A3 ws m → Calls Try.prog 14 #[at0 q] w3 (fun e w' => ∃ A c, e = .returned (.slice A m c) ∧ Below w3.heap.size w3 w' ∧
          Calls Try.prog 12 #[.slice A3 m c3, .slice A m c] w' (fun e w'' => e = .returned (.bool true) ∧ Below w'.heap.size w' w''))) ∧
        (∀ w5, Below w2.heap.size w2 w5 → Calls Try.prog 15 #[at0 p] w5 (fun e w' => e = .returned (.int .i64 (d2.n : Int)) ∧ w5 = w')) ∧
        (∀ w5, Below w2.heap.size w2 w5 → w5.cell? ⟨q, 7, none⟩ = some (.int .i64 (d2.n : Int)))) ∧
      (∀ w2 w5 d2 x2, After E wr.drew w2 p q d d2 x2 → Below w2.heap.size w2 w5 → Both E w w5 p q d2 x2 (j + 1) N) := by
  obtain ⟨lb, lo, rfl, hlb, hrd, hload⟩ := ha j hjl
  have hsz := hb.only.size
  have hold : ∀ k, k < w.heap.size → wr.heap[k]? = w.heap[k]? := fun k hk => hb.only.block k hk fun he => by have := hE2 k he; omega
  have hdn := hb.n
  have hrd' : Rd wr.drew w.heap.size (l[j]'hjl).lv (cellsZ (l[j]'hjl).ks) := hrd.keep fun a ha => World.cell?_of_block (hold a.block ha)
  have hpd : Pair E wr.drew p q d x := hb.pair.keep (fun _ _ _ => rfl) (Nat.le_refl _)
  refine ⟨lb, lo, rfl, hlb, does_any hpd hb.like (by omega) (fun k hk => hE1 k (Nat.le_trans hsz hk)) hE2 hsz (l[j]'hjl) hrd', hload wr.drew hold, ?_, ?_⟩
  · intro w2 d2 x2 ha2 ws m hws hm
    have hn2 := ha2.n
    have hx2 : x2.n < 1000000 := by rw [← ha2.like.n]; omega
    have hm1 : m < 1000000 := by
      have h1 := waits_length d2
      have h2 := ha2.pair
      obtain ⟨F, G, bl, bm, S, D, vL, vA, vB, ls, bs, hd, _⟩ := h2
      have h3 := hd.size
      rw [hm, hws]
      omega
    refine ⟨ha2.pair.dWaits (by omega) hws hm, fun w3 A3 c3 hb3 ht3 => ?_, fun w5 hb5 => (ha2.pair.below hb5).dWrites, fun w5 hb5 => ?_⟩
    · refine ((ha2.pair.below hb3).xWaits hx2 (by rw [hws]; exact ha2.like.waits) hm).mono ?_
      rintro e w' ⟨A, c, rfl, hb4, ht4⟩
      refine ⟨A, c, rfl, hb4, ints_same (l := ws) (fun k hk => ?_) ht4 hm1⟩
      obtain ⟨g, o, e, hc⟩ := ht3 k hk
      exact ⟨g, o, e, (hb4.cell (p := ⟨g, o + k, none⟩) (World.block_lt_of_cell? _ _ hc)).trans hc⟩
    · rw [(ha2.pair.below hb5).c7, ha2.like.n]
  · intro w2 w5 d2 x2 ha2 hb5
    have hn2 := ha2.n
    exact ⟨ha2.pair.below hb5, ha2.like, by omega, ha2.len.trans hb.len, (hb.only.trans (Only.drew E wr)).trans (ha2.only.trans (Only.of_below hb5))⟩
/-- Behind the loss of power at the end. -/
structure Ends (E : Nat → Prop) (w wr : World) (p q : Nat) (d : Dev) (x : Ref) : Prop where
  pair : Pair E wr p q d x
  only : Only E w wr
theorem end_facts (hE1 : ∀ k, w.heap.size ≤ k → E k) (hj : j ≤ 40) (hb : Both E w wr p q d x j N) :
    ∃ (dc : Dev) (xc : Ref),
      Calls Try.prog 16 #[at0 p, .slice none 0 0] wr (fun e w' => e = .returned (.tuple #[]) ∧ Pair E w' p q dc x ∧ Only E wr w') ∧
      (∀ w1, Pair E w1 p q dc x → Only E wr w1 → Calls Try.prog 17 #[at0 q, .slice none 0 0] w1 (fun e w' => e = .returned (.tuple #[]) ∧ Ends E w w' p q dc xc)) ∧
      (∀ (w' : World) (i : Nat), i < N → Ends E w w' p q dc xc → Calls Try.prog 18 #[at0 p, .int .i64 (i : Int)] w' (fun e w2 => ∃ v2, e = .returned (.tuple #[v2, .int .i64 0]) ∧ Rd w2 w2.heap.size v2 (cellsB (dc.now i)) ∧ Ends E w w2 p q dc xc)) ∧
      (∀ (w2 : World) (i : Nat), i < N → Ends E w w2 p q dc xc → Calls Try.prog 19 #[at0 q, .int .i64 (i : Int)] w2.drew (fun e w' => ∃ v3, e = .returned v3 ∧ (convert 42 9 v3).run Try.prog w' = .ok (.string ⟨(dc.now i).toArray⟩) w' ∧
        (∀ v, Rd w2 w2.heap.size v (cellsB (dc.now i)) → (convert 42 9 v).run Try.prog w' = .ok (.string ⟨(dc.now i).toArray⟩) w') ∧ Ends E w w' p q dc xc)) := by
  have hsz := hb.only.size
  have hdn := hb.n
  have hxn : x.n < 1000000 := by rw [← hb.like.n]; omega
  have hl := hb.like.crash []
  have hlen : (d.crash []).L.length = N := (lose_length _ _ _ _ : (d.crash []).L.length = d.L.length).trans hb.len
  have hfar : ∀ w' : World, w.heap.size ≤ w'.heap.size → ∀ k, w'.heap.size ≤ k → E k := fun w' h k hk => hE1 k (Nat.le_trans h hk)
  refine ⟨d.crash [], x.crash [], hb.pair.dCrash (hfar wr hsz) (by omega) (ks := []) (fun h => absurd h (by simp)) rfl (by simp), fun w1 hp ho => ?_, fun w' i hi he => ?_, fun w2 i hi he => ?_⟩
  · refine (hp.xCrash (hfar w1 (Nat.le_trans hsz ho.size)) hxn (ks := []) (fun h => absurd h (by simp)) rfl (by simp)).mono ?_
    rintro e w' ⟨rfl, hp', ho'⟩
    exact ⟨rfl, hp', hb.only.trans (ho.trans ho')⟩
  · have hr := he.pair.dRead (hfar w' he.only.size) (show (d.crash []).n < 1000000 by show d.n < 1000000; omega) (i : Int)
    rw [Dev.crash_read d [] (by rw [hb.len]; exact hi)] at hr
    refine hr.mono ?_
    rintro e w2 ⟨v2, rfl, hr2, _, hp2, ho2⟩
    exact ⟨v2, rfl, hr2, hp2.wide fun k _ hk => hk.1, he.only.trans ho2⟩
  · have hpd : Pair E w2.drew p q (d.crash []) (x.crash []) := he.pair.keep (fun _ _ _ => rfl) (Nat.le_refl _)
    have hx := hpd.xNow (show (x.crash []).n < 1000000 from hxn) (i := i) (by rw [← hl.L, hlen]; exact hi)
    rw [← hl.now (by rw [hlen]; exact hi)] at hx
    refine hx.mono ?_
    rintro e w' ⟨v3, rfl, hr3, hb3⟩
    exact ⟨v3, rfl, run_string_rd (P := Try.prog) 42 9 5 Try.underlying42 Try.underlying5 Try.underlying9 hr3, fun v hv => run_string_rd (P := Try.prog) 42 9 5 Try.underlying42 Try.underlying5 Try.underlying9 (hv.keep fun a ha => hb3.cell (p := a) ha), hpd.below hb3, (he.only.trans (Only.drew E w2)).trans (Only.of_below hb3)⟩
end
set_option maxRecDepth 100000 in
set_option maxHeartbeats 8000000 in
theorem plays_small (N n0 c : Nat) (A : Option Addr) (l : List ActD) (w : World) (ha : ActsAt w A l) (hn0 : n0 = l.length) (hN : 16 ≤ N ∧ N ≤ 40) :
    Calls Try.prog 3 #[.int .i64 (N : Int), .slice A n0 c] w fun e w' => e = .returned (.bool true) ∧ Below w.heap.size w w' := by
  obtain ⟨E, hE⟩ : ∃ E : Nat → Prop, E = fun k => w.heap.size ≤ k := ⟨_, rfl⟩
  have HE1 : Hid (∀ k, w.heap.size ≤ k → E k) := Lib.hid fun k hk => by rw [hE]; exact hk
  have HE2 : Hid (∀ k, E k → w.heap.size ≤ k) := Lib.hid fun k hk => by rw [hE] at hk; exact hk
  have HBel : Hid (∀ w', Only E w w' → Below w.heap.size w w') := Lib.hid fun w' h => by rw [hE] at h; exact h.below (Nat.le_refl _)
  have Hacts := Lib.hid ha
  have Hstart : Hid (∀ (w1 w2 w3 : World) (bl bm p : Nat) (S : Nat → Value) (D : DataW Value) (vL : Value) (ls : List Value), Below w.heap.size w w1 → DevIs w2 (fun k => w.heap.size ≤ k) p bl bm S D (Dev.new N) → Below w1.heap.size w1 w2 →
      RefIs w3 (fun k => w2.heap.size ≤ k) w2.heap.size vL (.slice none 0 0) (.slice none 0 0) ls [] (Ref.new N) → Below w2.heap.size w2 w3 → Both E w w3 p w2.heap.size (Dev.new N) (Ref.new N) 0 N) := Lib.hid fun w1 w2 w3 bl bm p S D vL ls hb1 hd hb2 hx hb3 => by
    have h12 : Below w.heap.size w w2 := up hb1 hb2
    rw [hE]
    exact ⟨Pair.start hd (fun _ h => h) h12.size hx hb3, Like.new _, Nat.le_refl _, Dev.new_length _, Only.of_below (up h12 hb3)⟩
  have Hnew1 := Lib.hid (new_ok (n := N) w (fun k => w.heap.size ≤ k) ⟨by omega, by omega⟩ (fun _ h => h))
  have Hrnew := Lib.hid fun w2 : World => rnew_any N w2 (fun k => w2.heap.size ≤ k) (by omega) (fun _ h => h)
  have Hlen : Hid (∀ (w2 : World) (F : Nat → Prop) (p bl bm : Nat) (S : Nat → Value) (D : DataW Value), DevIs w2 F p bl bm S D (Dev.new N) → Calls Try.prog 9 #[at0 p] w2 fun e w' => e = .returned (.int .i64 (N : Int)) ∧ w2 = w') := Lib.hid fun w2 F p bl bm S D hd => by
    have := len_any hd.c8
    rwa [Dev.new_length] at this
  have t1 : decide ((N : Int) < 16) = false := by rw [decide_eq_false_iff_not]; omega
  have t2 : decide (1600 < (N : Int)) = false := by rw [decide_eq_false_iff_not]; omega
  have t3 : decide (40 < (N : Int)) = false := by rw [decide_eq_false_iff_not]; omega
  clear ha hE
  go_enter Try.func3, Try.ntmps3
  go_wp2_with (first
    | (go_at_call 7; refine Hnew1.out.mono ?_; rintro e w2 ⟨rfl, hd2, hb2⟩; have Hd2 := Lib.hid hd2; have Hb2 := Lib.hid hb2; have Hb1 := Lib.hid (Below.refl w.heap.size w); clear hd2 hb2)
    | (go_at_call 9; refine (Hlen.out _ _ _ _ _ _ _ Hd2.out).mono ?_; rintro e w' ⟨rfl, rfl⟩)
    | (go_at_call 10; refine (Hrnew.out _).mono ?_; rintro e w3 ⟨vL, ls, rfl, hx, hb3⟩; have HS := Lib.hid (Hstart.out _ _ _ _ _ _ _ _ _ _ Hb1.out Hd2.out Hb2.out hx hb3); clear hx hb3))
  obtain ⟨p, hp⟩ : ∃ p, p = w.heap.size + 2 := ⟨_, rfl⟩
  obtain ⟨q, hq⟩ : ∃ q, q = w2.heap.size := ⟨_, rfl⟩
  rw [← hp, ← hq] at HS
  rw [← hp, ← hq]
  clear hp hq Hd2 Hb1 Hb2 Hstart Hrnew Hlen Hnew1
  go_loopw [8] (fun iv wr => ∃ (j : Nat) (d : Dev) (x : Ref), iv = .int .i64 (j : Int) ∧ j ≤ l.length ∧ j ≤ 40 ∧ Both E w wr p q d x j N) (fun iv _ => l.length - (intOf iv).toNat)
  case atStart => exact ⟨0, Dev.new N, Ref.new N, rfl, by omega, by omega, HS.out⟩
  case round =>
    obtain ⟨j, d, x, rfl, hjl', hj40, hboth⟩ := hrel
    have HB := Lib.hid hboth
    clear hboth
    by_cases hgo : j < l.length ∧ j < 40
    · obtain ⟨hjl, hj4⟩ := hgo
      obtain ⟨lb, lo, rfl, hlb, hdoes, hload, hafter, hnx⟩ := round_facts HE1.out HE2.out Hacts.out hjl hj4 HB.out
      have Hdoes := Lib.hid hdoes
      have Hload := Lib.hid hload
      have Hafter := Lib.hid hafter
      have Hnext := Lib.hid hnx
      have j0 : (0 : Int) ≤ (j : Int) := by omega
      have j1 : (j : Int) < (n0 : Int) := by omega
      have j2 : (j : Int) < 40 := by omega
      have j3 : (j : Int).toNat = j := by omega
      clear hdoes hload hafter hnx
      go_wp2_with fail
      refine wp_region_held_drew (S := fun _ => True) (by kernel_rfl) trivial (fun hHeld => ?_)
      refine' wpAnyH_take (i := 0) (oi := ⟨some 63, .move (.tmp 5), _, _, _, none⟩) (v := _) rfl (by kernel_rfl) (by kernel_rfl) (by kernel_rfl) (fun _ _ _ h => h) (Or.inl ⟨by rfl, ?hy0⟩) (by assumption) ?rest0
      case hy0 => (intro w hSw; obtain _ := hSw; go_simp <;> with_reducible rfl)
      case rest0 =>
      go_frame
      refine' wpAnyH_take (i := 1) (oi := ⟨some 64, .move (.tmp 7), _, _, _, none⟩) (v := _) rfl (by kernel_rfl) (by kernel_rfl) (by kernel_rfl) (fun _ _ _ h => h) (Or.inl ⟨by rfl, ?hy1⟩) (by assumption) ?rest1
      case hy1 => (intro w hSw; obtain _ := hSw; go_simp <;> with_reducible rfl)
      case rest1 =>
      go_frame
      refine' wpAnyH_take (i := 2) (oi := ⟨some 65, .move (.tmp 1), _, _, _, none⟩) (v := _) rfl (by kernel_rfl) (by kernel_rfl) (by kernel_rfl) (fun _ _ _ h => h) (Or.inl ⟨by rfl, ?hy2⟩) (by assumption) ?rest2
      case hy2 => (intro w hSw; obtain _ := hSw; go_simp <;> with_reducible rfl)
      case rest2 =>
      go_frame
      refine' wpAnyH_take (i := 3) (oi := ⟨some 66, .move (.tmp 8), _, _, _, none⟩) (v := _) rfl (by kernel_rfl) (by kernel_rfl) (by kernel_rfl) (fun _ _ _ h => h) (Or.inl ⟨by rfl, ?hy3⟩) (by assumption) ?rest3
      case hy3 => (intro w hSw; obtain _ := hSw; go_simp <;> with_reducible rfl)
      case rest3 =>
      go_frame
      refine' wpAnyH_take (i := 4) (oi := ⟨some 67, .indexAddr 22 (.tmp 65) (.tmp 66), _, _, _, none⟩) (v := _) rfl (by kernel_rfl) (by kernel_rfl) (by kernel_rfl) (fun _ _ _ h => h) (Or.inl ⟨by rfl, ?hy4⟩) (by assumption) ?rest4
      case hy4 => (intro w hSw; obtain _ := hSw; go_simp <;> with_reducible rfl)
      case rest4 =>
      go_frame
      refine wpAnyH_ready (rs := [5]) (by kernel_rfl) (by simp) (AllReadyH.cons (o := ⟨some 68, .load 34 (.tmp 67), _, _, _, none⟩) rfl (fun K hK => ?_) AllReadyH.nil)
      rw [if_pos (by rfl)]
      refine wp_run (.agg (l[j]'hjl).cells.toArray) wr.drew (exec_load (t := 34) (x := .tmp 67) rfl (pv := .pointer (some ⟨lb, lo + j * 5, none⟩)) rfl Hload.out) ?_
      refine hK.out _ _ trivial (fun _ => ?_)
      clear hK K
      try go_frame
      refine wpAnyH_ready (rs := [6]) (by kernel_rfl) (by simp) (AllReadyH.cons (o := ⟨some 69, .call { callee := .value (.func 11), args := #[.tmp 63, .tmp 64, .tmp 68], argTypes := #[23, 29, 34] }, _, _, _, none⟩) rfl (fun K hK => ?_) AllReadyH.nil)
      rw [if_pos (by rfl)]
      go_simp
      refine (Hdoes.out).mono ?_
      rintro e w2 ⟨rfl, d2, x2, ha⟩
      have HA := Lib.hid ha
      clear ha
      dsimp only
      refine hK.out _ _ trivial (fun _ => ?_)
      clear hK K
      try go_frame
      obtain ⟨ws, hws⟩ : ∃ ws, ws = d2.waits := ⟨_, rfl⟩
      obtain ⟨m, hm⟩ : ∃ m, m = ws.length := ⟨_, rfl⟩
      obtain ⟨hA1, hA2, hA3, hA4⟩ := Hafter.out w2 d2 x2 HA.out ws m hws hm
      have HA1 := Lib.hid hA1
      have HA2 := Lib.hid hA2
      have HA3 := Lib.hid hA3
      have HA4 := Lib.hid hA4
      obtain ⟨n2, hn2⟩ : ∃ n2, n2 = d2.n := ⟨_, rfl⟩
      rw [← hn2] at HA3 HA4
      clear hA1 hA2 hA3 hA4 hws hm hn2
      refine' wpAnyH_take (i := 7) (oi := ⟨some 70, .unOp .not 4 (.tmp 69), _, _, _, none⟩) (v := _) rfl (by kernel_rfl) (by kernel_rfl) (by kernel_rfl) (fun _ _ _ h => h) (Or.inl ⟨by rfl, ?hy7⟩) (by assumption) ?rest7
      case hy7 => (intro w hSw; obtain _ := hSw; go_simp <;> with_reducible rfl)
      case rest7 =>
      go_frame
      refine' wpAnyH_take (i := 8) (oi := ⟨some 71, .move (.tmp 70), _, _, _, none⟩) (v := _) rfl (by kernel_rfl) (by kernel_rfl) (by kernel_rfl) (fun _ _ _ h => h) (Or.inl ⟨by rfl, ?hy8⟩) (by assumption) ?rest8
      case hy8 => (intro w hSw; obtain _ := hSw; go_simp <;> with_reducible rfl)
      case rest8 =>
      go_frame
      refine' wpAnyH_take (i := 9) (oi := ⟨some 72, .move (.tmp 5), _, _, _, some (8, false)⟩) (v := _) rfl (by kernel_rfl) (by kernel_rfl) (by kernel_rfl) (fun _ _ _ h => h) (Or.inl ⟨by rfl, ?hy9⟩) (by assumption) ?rest9
      case hy9 => (intro w hSw; obtain _ := hSw; go_simp <;> with_reducible rfl)
      case rest9 =>
      go_frame
      refine' wpAnyH_take (i := 11) (oi := ⟨some 74, .move (.tmp 7), _, _, _, some (8, false)⟩) (v := _) rfl (by kernel_rfl) (by kernel_rfl) (by kernel_rfl) (fun _ _ _ h => h) (Or.inl ⟨by rfl, ?hy11⟩) (by assumption) ?rest11
      case hy11 => (intro w hSw; obtain _ := hSw; go_simp <;> with_reducible rfl)
      case rest11 =>
      go_frame
      refine wpAnyH_ready (rs := [10]) (by kernel_rfl) (by simp) (AllReadyH.cons (o := ⟨some 73, .call { callee := .value (.func 13), args := #[.tmp 72], argTypes := #[23] }, _, _, _, some (8, false)⟩) rfl (fun K hK => ?_) AllReadyH.nil)
      rw [if_pos (by rfl)]
      go_simp
      refine (HA1.out).mono ?_
      rintro e w3 ⟨A3, c3, rfl, hb3, hc3⟩
      have Hb3 := Lib.hid hb3
      have Hc3 := Lib.hid hc3
      clear hb3 hc3
      dsimp only
      refine hK.out _ _ trivial (fun _ => ?_)
      clear hK K
      try go_frame
      refine wpAnyH_ready (rs := [12]) (by kernel_rfl) (by simp) (AllReadyH.cons (o := ⟨some 75, .call { callee := .value (.func 14), args := #[.tmp 74], argTypes := #[29] }, _, _, _, some (8, false)⟩) rfl (fun K hK => ?_) AllReadyH.nil)
      rw [if_pos (by rfl)]
      go_simp
      refine (HA2.out w3 A3 c3 Hb3.out Hc3.out).mono ?_
      rintro e w4 ⟨A4, c4, rfl, hb4, hints⟩
      have Hb4 := Lib.hid hb4
      have Hints := Lib.hid hints
      clear hb4 hints
      dsimp only
      refine hK.out _ _ trivial (fun _ => ?_)
      clear hK K
      try go_frame
      refine wpAnyH_ready (rs := [13]) (by kernel_rfl) (by simp) (AllReadyH.cons (o := ⟨some 76, .call { callee := .value (.func 12), args := #[.tmp 73, .tmp 75], argTypes := #[32, 32] }, _, _, _, some (8, false)⟩) rfl (fun K hK => ?_) AllReadyH.nil)
      rw [if_pos (by rfl)]
      go_simp
      refine (Hints.out).mono ?_
      rintro e w5 ⟨rfl, hb5⟩
      have Hb5 := Lib.hid hb5
      clear hb5
      dsimp only
      refine hK.out _ _ trivial (fun _ => ?_)
      clear hK K
      try go_frame
      have Hw5 := Lib.hid (HA3.out w5 (up (up Hb3.out Hb4.out) Hb5.out))
      have c7 := HA4.out w5 (up (up Hb3.out Hb4.out) Hb5.out)
      refine' wpAnyH_take (i := 14) (oi := ⟨some 77, .unOp .not 4 (.tmp 76), _, _, _, some (8, false)⟩) (v := _) rfl (by kernel_rfl) (by kernel_rfl) (by kernel_rfl) (fun _ _ _ h => h) (Or.inl ⟨by rfl, ?hy14⟩) (by assumption) ?rest14
      case hy14 => (intro w hSw; obtain _ := hSw; go_simp <;> with_reducible rfl)
      case rest14 =>
      go_frame
      refine' wpAnyH_take (i := 15) (oi := ⟨some 78, .pick (.tmp 71) (.const (.bool true)) (.tmp 77), _, _, _, none⟩) (v := _) rfl (by kernel_rfl) (by kernel_rfl) (by kernel_rfl) (fun _ _ _ h => h) (Or.inl ⟨by rfl, ?hy15⟩) (by assumption) ?rest15
      case hy15 => (intro w hSw; obtain _ := hSw; go_simp <;> with_reducible rfl)
      case rest15 =>
      go_frame
      refine' wpAnyH_take (i := 16) (oi := ⟨some 79, .move (.tmp 78), _, _, _, none⟩) (v := _) rfl (by kernel_rfl) (by kernel_rfl) (by kernel_rfl) (fun _ _ _ h => h) (Or.inl ⟨by rfl, ?hy16⟩) (by assumption) ?rest16
      case hy16 => (intro w hSw; obtain _ := hSw; go_simp <;> with_reducible rfl)
      case rest16 =>
      go_frame
      refine' wpAnyH_take (i := 17) (oi := ⟨some 80, .move (.tmp 5), _, _, _, some (16, false)⟩) (v := _) rfl (by kernel_rfl) (by kernel_rfl) (by kernel_rfl) (fun _ _ _ h => h) (Or.inl ⟨by rfl, ?hy17⟩) (by assumption) ?rest17
      case hy17 => (intro w hSw; obtain _ := hSw; go_simp <;> with_reducible rfl)
      case rest17 =>
      go_frame
      refine' wpAnyH_take (i := 19) (oi := ⟨some 82, .move (.tmp 7), _, _, _, some (16, false)⟩) (v := _) rfl (by kernel_rfl) (by kernel_rfl) (by kernel_rfl) (fun _ _ _ h => h) (Or.inl ⟨by rfl, ?hy19⟩) (by assumption) ?rest19
      case hy19 => (intro w hSw; obtain _ := hSw; go_simp <;> with_reducible rfl)
      case rest19 =>
      go_frame
      refine' wpAnyH_take (i := 20) (oi := ⟨some 83, .nilCheck (.tmp 82), _, _, _, some (16, false)⟩) (v := _) rfl (by kernel_rfl) (by kernel_rfl) (by kernel_rfl) (fun _ _ _ h => h) (Or.inl ⟨by rfl, ?hy20⟩) (by assumption) ?rest20
      case hy20 => (intro w hSw; obtain _ := hSw; go_simp <;> with_reducible rfl)
      case rest20 =>
      go_frame
      refine' wpAnyH_take (i := 21) (oi := ⟨some 84, .fieldAddr 40 (.tmp 83) 4, _, _, _, some (16, false)⟩) (v := _) rfl (by kernel_rfl) (by kernel_rfl) (by kernel_rfl) (fun _ _ _ h => h) (Or.inl ⟨by rfl, ?hy21⟩) (by assumption) ?rest21
      case hy21 => (intro w hSw; obtain _ := hSw; go_simp <;> with_reducible rfl)
      case rest21 =>
      go_frame
      refine wpAnyH_ready (rs := [18, 22]) (by kernel_rfl) (by simp) (AllReadyH.cons (o := ⟨some 81, .call { callee := .value (.func 15), args := #[.tmp 80], argTypes := #[23] }, _, _, _, some (16, false)⟩) rfl (fun K hK => ?b18) (AllReadyH.cons (o := ⟨some 85, .load 3 (.tmp 84), _, _, _, some (16, false)⟩) rfl (fun K hK => ?b22) AllReadyH.nil))
      case' b18 =>
        rw [if_pos (by rfl)]
        go_simp
        refine (Hw5.out).mono ?_
        rintro e w6 ⟨rfl, rfl⟩
        dsimp only
        refine hK.out _ _ trivial (fun _ => ?_)
        clear hK K
        try go_frame
        refine wpAnyH_ready (rs := [22]) (by kernel_rfl) (by simp) (AllReadyH.cons (o := ⟨some 85, .load 3 (.tmp 84), _, _, _, some (16, false)⟩) rfl (fun K hK => ?_) AllReadyH.nil)
        rw [if_pos (by rfl)]
        go_simp
        refine hK.out _ _ trivial (fun _ => ?_)
        clear hK K
        try go_frame
      case' b22 =>
        rw [if_pos (by rfl)]
        go_simp
        refine hK.out _ _ trivial (fun _ => ?_)
        clear hK K
        try go_frame
        refine wpAnyH_ready (rs := [18]) (by kernel_rfl) (by simp) (AllReadyH.cons (o := ⟨some 81, .call { callee := .value (.func 15), args := #[.tmp 80], argTypes := #[23] }, _, _, _, some (16, false)⟩) rfl (fun K hK => ?_) AllReadyH.nil)
        rw [if_pos (by rfl)]
        go_simp
        refine (Hw5.out).mono ?_
        rintro e w6 ⟨rfl, rfl⟩
        dsimp only
        refine hK.out _ _ trivial (fun _ => ?_)
        clear hK K
        try go_frame
      all_goals
        refine' wpAnyH_take (i := 23) (oi := ⟨some 86, .binOp .neq 3 (.tmp 81) (.tmp 85) 3, _, _, _, some (16, false)⟩) (v := _) rfl (by kernel_rfl) (by kernel_rfl) (by kernel_rfl) (fun _ _ _ h => h) (Or.inl ⟨by rfl, ?hy23⟩) (by assumption) ?rest23
        case hy23 => (intro w hSw; obtain _ := hSw; go_simp <;> with_reducible rfl)
        case rest23 =>
        go_frame
        refine' wpAnyH_take (i := 24) (oi := ⟨some 87, .pick (.tmp 79) (.const (.bool true)) (.tmp 86), _, _, _, none⟩) (v := _) rfl (by kernel_rfl) (by kernel_rfl) (by kernel_rfl) (fun _ _ _ h => h) (Or.inl ⟨by rfl, ?hy24⟩) (by assumption) ?rest24
        case hy24 => (intro w hSw; obtain _ := hSw; go_simp <;> with_reducible rfl)
        case rest24 =>
        go_frame
        refine wpAnyH_done (by kernel_rfl) ?_ _
        have hnext := Hnext.out w2 w5 d2 x2 HA.out (up (up Hb3.out Hb4.out) Hb5.out)
        have HN := Lib.hid hnext
        clear hnext c7
        go_wp2_with fail
        go_roundw
        case rel => exact ⟨j + 1, d2, x2, by go_num, by omega, by omega, HN.out⟩
        case measure => simp [intOf]; omega
    · obtain ⟨dc, xc, hcd, hcx, hread, hnw⟩ := end_facts HE1.out hj40 HB.out
      have Hcd := Lib.hid hcd
      have Hcx := Lib.hid hcx
      have Hread := Lib.hid hread
      have Hnow := Lib.hid hnw
      clear hcd hcx hread hnw
      by_cases hjl : j < l.length
      · have j1 : (j : Int) < (n0 : Int) := by omega
        have j2 : decide ((j : Int) < 40) = false := by rw [decide_eq_false_iff_not]; omega
        go_wp2_with (first
          | (go_at_call 16; refine Hcd.out.mono ?_; rintro e w1 ⟨rfl, hp1, ho1⟩; have Hp1 := Lib.hid hp1; have Ho1 := Lib.hid ho1; clear hp1 ho1)
          | (go_at_call 17; refine (Hcx.out _ Hp1.out Ho1.out).mono ?_; rintro e w2 ⟨rfl, he2⟩; have He2 := Lib.hid he2; clear he2))
        go_loopw [9] (fun iv wr => ∃ j : Nat, iv = .int .i64 (j : Int) ∧ j ≤ N ∧ Ends E w wr p q dc xc) (fun iv _ => N - (intOf iv).toNat)
        case atStart => exact ⟨0, rfl, by omega, He2.out⟩
        case round =>
          obtain ⟨j, rfl, hjN, he⟩ := hrel
          have He := Lib.hid he
          clear he
          by_cases hk : j < N
          · have j1 : (j : Int) < (N : Int) := by omega
            go_wp2_with (first | (go_at_call 18; refine (Hread.out _ j hk He.out).mono ?_; rintro e w2 ⟨v2, rfl, hr2, he2⟩; have He2 := Lib.hid he2; have Hrd2 := Lib.hid hr2; have Hr2 := Lib.hid (run_string_rd (P := Try.prog) (w := w2.drew) 42 9 5 Try.underlying42 Try.underlying5 Try.underlying9 hr2); clear hr2 he2))
            refine wp_region_held_drew (S := fun _ => True) (by kernel_rfl) trivial (fun hHeld => ?_)
            refine' wpAnyH_take (i := 0) (oi := ⟨some 103, .move (.tmp 10), _, _, _, none⟩) (v := _) rfl (by kernel_rfl) (by kernel_rfl) (by kernel_rfl) (fun _ _ _ h => h) (Or.inl ⟨by rfl, ?hy0⟩) (by assumption) ?rest0
            case hy0 => (intro w hSw; obtain _ := hSw; go_simp <;> with_reducible rfl)
            case rest0 =>
            go_frame
            refine' wpAnyH_take (i := 2) (oi := ⟨some 105, .move (.tmp 7), _, _, _, none⟩) (v := _) rfl (by kernel_rfl) (by kernel_rfl) (by kernel_rfl) (fun _ _ _ h => h) (Or.inl ⟨by rfl, ?hy2⟩) (by assumption) ?rest2
            case hy2 => (intro w hSw; obtain _ := hSw; go_simp <;> with_reducible rfl)
            case rest2 =>
            go_frame
            refine' wpAnyH_take (i := 3) (oi := ⟨some 106, .move (.tmp 9), _, _, _, none⟩) (v := _) rfl (by kernel_rfl) (by kernel_rfl) (by kernel_rfl) (fun _ _ _ h => h) (Or.inl ⟨by rfl, ?hy3⟩) (by assumption) ?rest3
            case hy3 => (intro w hSw; obtain _ := hSw; go_simp <;> with_reducible rfl)
            case rest3 =>
            go_frame
            refine wpAnyH_ready (rs := [1, 4]) (by kernel_rfl) (by simp) (AllReadyH.cons (o := ⟨some 104, .convert 42 9 (.tmp 103), _, _, _, none⟩) rfl (fun K hK => ?baz1) (AllReadyH.cons (o := ⟨some 107, .call { callee := .value (.func 19), args := #[.tmp 105, .tmp 106], argTypes := #[29, 3] }, _, _, _, none⟩) rfl (fun K hK => ?bbz1) AllReadyH.nil))
            case' baz1 =>
              rw [if_pos (by rfl)]
              refine wp_run (.string ⟨(dc.now j).toArray⟩) w2.drew (exec_convert (s := 42) (t := 9) (x := .tmp 103) rfl (v := v2) rfl (Hr2.out)) ?_
              refine hK.out _ _ trivial (fun _ => ?_)
              clear hK K
              try go_frame
              refine wpAnyH_ready (rs := [4]) (by kernel_rfl) (by simp) (AllReadyH.cons (o := ⟨some 107, .call { callee := .value (.func 19), args := #[.tmp 105, .tmp 106], argTypes := #[29, 3] }, _, _, _, none⟩) rfl (fun K hK => ?_) AllReadyH.nil)
              rw [if_pos (by rfl)]
              go_simp
              refine (Hnow.out w2 j hk He2.out).mono ?_
              rintro e w3 ⟨v3, rfl, hr3, hk3, he3⟩
              have Hr3 := Lib.hid hr3
              have Hk3 := Lib.hid hk3
              have He3 := Lib.hid he3
              clear hr3 hk3 he3
              dsimp only
              refine hK.out _ _ trivial (fun _ => ?_)
              clear hK K
              try go_frame
              refine wpAnyH_ready (rs := [5]) (by kernel_rfl) (by simp) (AllReadyH.cons (o := ⟨some 108, .convert 42 9 (.tmp 107), _, _, _, none⟩) rfl (fun K hK => ?_) AllReadyH.nil)
              rw [if_pos (by rfl)]
              refine wp_run (.string ⟨(dc.now j).toArray⟩) w3 (exec_convert (s := 42) (t := 9) (x := .tmp 107) rfl (v := v3) rfl Hr3.out) ?_
              refine hK.out _ _ trivial (fun _ => ?_)
              clear hK K
              try go_frame
            case' bbz1 =>
              rw [if_pos (by rfl)]
              go_simp
              refine (Hnow.out w2 j hk He2.out).mono ?_
              rintro e w3 ⟨v3, rfl, hr3, hk3, he3⟩
              have Hr3 := Lib.hid hr3
              have Hk3 := Lib.hid hk3
              have He3 := Lib.hid he3
              clear hr3 hk3 he3
              dsimp only
              refine hK.out _ _ trivial (fun _ => ?_)
              clear hK K
              try go_frame
              refine wpAnyH_ready (rs := [1, 5]) (by kernel_rfl) (by simp) (AllReadyH.cons (o := ⟨some 104, .convert 42 9 (.tmp 103), _, _, _, none⟩) rfl (fun K hK => ?caz1) (AllReadyH.cons (o := ⟨some 108, .convert 42 9 (.tmp 107), _, _, _, none⟩) rfl (fun K hK => ?cbz1) AllReadyH.nil))
              case' caz1 =>
                rw [if_pos (by rfl)]
                refine wp_run (.string ⟨(dc.now j).toArray⟩) w3 (exec_convert (s := 42) (t := 9) (x := .tmp 103) rfl (v := v2) rfl (Hk3.out v2 Hrd2.out)) ?_
                refine hK.out _ _ trivial (fun _ => ?_)
                clear hK K
                try go_frame
                refine wpAnyH_ready (rs := [5]) (by kernel_rfl) (by simp) (AllReadyH.cons (o := ⟨some 108, .convert 42 9 (.tmp 107), _, _, _, none⟩) rfl (fun K hK => ?_) AllReadyH.nil)
                rw [if_pos (by rfl)]
                refine wp_run (.string ⟨(dc.now j).toArray⟩) w3 (exec_convert (s := 42) (t := 9) (x := .tmp 107) rfl (v := v3) rfl Hr3.out) ?_
                refine hK.out _ _ trivial (fun _ => ?_)
                clear hK K
                try go_frame
              case' cbz1 =>
                rw [if_pos (by rfl)]
                refine wp_run (.string ⟨(dc.now j).toArray⟩) w3 (exec_convert (s := 42) (t := 9) (x := .tmp 107) rfl (v := v3) rfl Hr3.out) ?_
                refine hK.out _ _ trivial (fun _ => ?_)
                clear hK K
                try go_frame
                refine wpAnyH_ready (rs := [1]) (by kernel_rfl) (by simp) (AllReadyH.cons (o := ⟨some 104, .convert 42 9 (.tmp 103), _, _, _, none⟩) rfl (fun K hK => ?_) AllReadyH.nil)
                rw [if_pos (by rfl)]
                refine wp_run (.string ⟨(dc.now j).toArray⟩) w3 (exec_convert (s := 42) (t := 9) (x := .tmp 103) rfl (v := v2) rfl (Hk3.out v2 Hrd2.out)) ?_
                refine hK.out _ _ trivial (fun _ => ?_)
                clear hK K
                try go_frame
            all_goals
              refine' wpAnyH_take (i := 6) (oi := ⟨some 109, .binOp .neq 9 (.tmp 104) (.tmp 108) 9, _, _, _, none⟩) (v := _) rfl (by kernel_rfl) (by kernel_rfl) (by kernel_rfl) (fun _ _ _ h => h) (Or.inl ⟨by rfl, ?hy6⟩) (by assumption) ?rest6
              case hy6 => (intro w hSw; obtain _ := hSw; go_simp <;> with_reducible rfl)
              case rest6 =>
              go_frame
              refine wpAnyH_done (by kernel_rfl) ?_ _
              go_wp2_with fail
              go_roundw
              case rel => exact ⟨j + 1, by go_num, by omega, He3.out⟩
              case measure => simp [intOf]; omega
          · have hjN2 : j = N := by omega
            have j1 : decide ((j : Int) < (N : Int)) = false := by rw [decide_eq_false_iff_not]; omega
            go_wp2_with (first | (go_at_call 8; refine (lives_any _).mono ?_; rintro e w9 ⟨rfl, hb9⟩; have Hb9 := Lib.hid (up (HBel.out _ He.out.only) hb9); clear hb9))
            go_ret
            exact ⟨rfl, Hb9.out⟩
      · have j1 : decide ((j : Int) < (n0 : Int)) = false := by rw [decide_eq_false_iff_not]; omega
        go_wp2_with (first
          | (go_at_call 16; refine Hcd.out.mono ?_; rintro e w1 ⟨rfl, hp1, ho1⟩; have Hp1 := Lib.hid hp1; have Ho1 := Lib.hid ho1; clear hp1 ho1)
          | (go_at_call 17; refine (Hcx.out _ Hp1.out Ho1.out).mono ?_; rintro e w2 ⟨rfl, he2⟩; have He2 := Lib.hid he2; clear he2))
        go_loopw [9] (fun iv wr => ∃ j : Nat, iv = .int .i64 (j : Int) ∧ j ≤ N ∧ Ends E w wr p q dc xc) (fun iv _ => N - (intOf iv).toNat)
        case atStart => exact ⟨0, rfl, by omega, He2.out⟩
        case round =>
          obtain ⟨j, rfl, hjN, he⟩ := hrel
          have He := Lib.hid he
          clear he
          by_cases hk : j < N
          · have j1 : (j : Int) < (N : Int) := by omega
            go_wp2_with (first | (go_at_call 18; refine (Hread.out _ j hk He.out).mono ?_; rintro e w2 ⟨v2, rfl, hr2, he2⟩; have He2 := Lib.hid he2; have Hrd2 := Lib.hid hr2; have Hr2 := Lib.hid (run_string_rd (P := Try.prog) (w := w2.drew) 42 9 5 Try.underlying42 Try.underlying5 Try.underlying9 hr2); clear hr2 he2))
            refine wp_region_held_drew (S := fun _ => True) (by kernel_rfl) trivial (fun hHeld => ?_)
            refine' wpAnyH_take (i := 0) (oi := ⟨some 103, .move (.tmp 10), _, _, _, none⟩) (v := _) rfl (by kernel_rfl) (by kernel_rfl) (by kernel_rfl) (fun _ _ _ h => h) (Or.inl ⟨by rfl, ?hy0⟩) (by assumption) ?rest0
            case hy0 => (intro w hSw; obtain _ := hSw; go_simp <;> with_reducible rfl)
            case rest0 =>
            go_frame
            refine' wpAnyH_take (i := 2) (oi := ⟨some 105, .move (.tmp 7), _, _, _, none⟩) (v := _) rfl (by kernel_rfl) (by kernel_rfl) (by kernel_rfl) (fun _ _ _ h => h) (Or.inl ⟨by rfl, ?hy2⟩) (by assumption) ?rest2
            case hy2 => (intro w hSw; obtain _ := hSw; go_simp <;> with_reducible rfl)
            case rest2 =>
            go_frame
            refine' wpAnyH_take (i := 3) (oi := ⟨some 106, .move (.tmp 9), _, _, _, none⟩) (v := _) rfl (by kernel_rfl) (by kernel_rfl) (by kernel_rfl) (fun _ _ _ h => h) (Or.inl ⟨by rfl, ?hy3⟩) (by assumption) ?rest3
            case hy3 => (intro w hSw; obtain _ := hSw; go_simp <;> with_reducible rfl)
            case rest3 =>
            go_frame
            refine wpAnyH_ready (rs := [1, 4]) (by kernel_rfl) (by simp) (AllReadyH.cons (o := ⟨some 104, .convert 42 9 (.tmp 103), _, _, _, none⟩) rfl (fun K hK => ?baz2) (AllReadyH.cons (o := ⟨some 107, .call { callee := .value (.func 19), args := #[.tmp 105, .tmp 106], argTypes := #[29, 3] }, _, _, _, none⟩) rfl (fun K hK => ?bbz2) AllReadyH.nil))
            case' baz2 =>
              rw [if_pos (by rfl)]
              refine wp_run (.string ⟨(dc.now j).toArray⟩) w2.drew (exec_convert (s := 42) (t := 9) (x := .tmp 103) rfl (v := v2) rfl (Hr2.out)) ?_
              refine hK.out _ _ trivial (fun _ => ?_)
              clear hK K
              try go_frame
              refine wpAnyH_ready (rs := [4]) (by kernel_rfl) (by simp) (AllReadyH.cons (o := ⟨some 107, .call { callee := .value (.func 19), args := #[.tmp 105, .tmp 106], argTypes := #[29, 3] }, _, _, _, none⟩) rfl (fun K hK => ?_) AllReadyH.nil)
              rw [if_pos (by rfl)]
              go_simp
              refine (Hnow.out w2 j hk He2.out).mono ?_
              rintro e w3 ⟨v3, rfl, hr3, hk3, he3⟩
              have Hr3 := Lib.hid hr3
              have Hk3 := Lib.hid hk3
              have He3 := Lib.hid he3
              clear hr3 hk3 he3
              dsimp only
              refine hK.out _ _ trivial (fun _ => ?_)
              clear hK K
              try go_frame
              refine wpAnyH_ready (rs := [5]) (by kernel_rfl) (by simp) (AllReadyH.cons (o := ⟨some 108, .convert 42 9 (.tmp 107), _, _, _, none⟩) rfl (fun K hK => ?_) AllReadyH.nil)
              rw [if_pos (by rfl)]
              refine wp_run (.string ⟨(dc.now j).toArray⟩) w3 (exec_convert (s := 42) (t := 9) (x := .tmp 107) rfl (v := v3) rfl Hr3.out) ?_
              refine hK.out _ _ trivial (fun _ => ?_)
              clear hK K
              try go_frame
            case' bbz2 =>
              rw [if_pos (by rfl)]
              go_simp
              refine (Hnow.out w2 j hk He2.out).mono ?_
              rintro e w3 ⟨v3, rfl, hr3, hk3, he3⟩
              have Hr3 := Lib.hid hr3
              have Hk3 := Lib.hid hk3
              have He3 := Lib.hid he3
              clear hr3 hk3 he3
              dsimp only
              refine hK.out _ _ trivial (fun _ => ?_)
              clear hK K
              try go_frame
              refine wpAnyH_ready (rs := [1, 5]) (by kernel_rfl) (by simp) (AllReadyH.cons (o := ⟨some 104, .convert 42 9 (.tmp 103), _, _, _, none⟩) rfl (fun K hK => ?caz2) (AllReadyH.cons (o := ⟨some 108, .convert 42 9 (.tmp 107), _, _, _, none⟩) rfl (fun K hK => ?cbz2) AllReadyH.nil))
              case' caz2 =>
                rw [if_pos (by rfl)]
                refine wp_run (.string ⟨(dc.now j).toArray⟩) w3 (exec_convert (s := 42) (t := 9) (x := .tmp 103) rfl (v := v2) rfl (Hk3.out v2 Hrd2.out)) ?_
                refine hK.out _ _ trivial (fun _ => ?_)
                clear hK K
                try go_frame
                refine wpAnyH_ready (rs := [5]) (by kernel_rfl) (by simp) (AllReadyH.cons (o := ⟨some 108, .convert 42 9 (.tmp 107), _, _, _, none⟩) rfl (fun K hK => ?_) AllReadyH.nil)
                rw [if_pos (by rfl)]
                refine wp_run (.string ⟨(dc.now j).toArray⟩) w3 (exec_convert (s := 42) (t := 9) (x := .tmp 107) rfl (v := v3) rfl Hr3.out) ?_
                refine hK.out _ _ trivial (fun _ => ?_)
                clear hK K
                try go_frame
              case' cbz2 =>
                rw [if_pos (by rfl)]
                refine wp_run (.string ⟨(dc.now j).toArray⟩) w3 (exec_convert (s := 42) (t := 9) (x := .tmp 107) rfl (v := v3) rfl Hr3.out) ?_
                refine hK.out _ _ trivial (fun _ => ?_)
                clear hK K
                try go_frame
                refine wpAnyH_ready (rs := [1]) (by kernel_rfl) (by simp) (AllReadyH.cons (o := ⟨some 104, .convert 42 9 (.tmp 103), _, _, _, none⟩) rfl (fun K hK => ?_) AllReadyH.nil)
                rw [if_pos (by rfl)]
                refine wp_run (.string ⟨(dc.now j).toArray⟩) w3 (exec_convert (s := 42) (t := 9) (x := .tmp 103) rfl (v := v2) rfl (Hk3.out v2 Hrd2.out)) ?_
                refine hK.out _ _ trivial (fun _ => ?_)
                clear hK K
                try go_frame
            all_goals
              refine' wpAnyH_take (i := 6) (oi := ⟨some 109, .binOp .neq 9 (.tmp 104) (.tmp 108) 9, _, _, _, none⟩) (v := _) rfl (by kernel_rfl) (by kernel_rfl) (by kernel_rfl) (fun _ _ _ h => h) (Or.inl ⟨by rfl, ?hy6⟩) (by assumption) ?rest6
              case hy6 => (intro w hSw; obtain _ := hSw; go_simp <;> with_reducible rfl)
              case rest6 =>
              go_frame
              refine wpAnyH_done (by kernel_rfl) ?_ _
              go_wp2_with fail
              go_roundw
              case rel => exact ⟨j + 1, by go_num, by omega, He3.out⟩
              case measure => simp [intOf]; omega
          · have hjN2 : j = N := by omega
            have j1 : decide ((j : Int) < (N : Int)) = false := by rw [decide_eq_false_iff_not]; omega
            go_wp2_with (first | (go_at_call 8; refine (lives_any _).mono ?_; rintro e w9 ⟨rfl, hb9⟩; have Hb9 := Lib.hid (up (HBel.out _ He.out.only) hb9); clear hb9))
            go_ret
            exact ⟨rfl, Hb9.out⟩
set_option maxRecDepth 100000 in
set_option maxHeartbeats 8000000 in
theorem plays_big (N n0 c : Nat) (A : Option Addr) (l : List ActD) (w : World) (ha : ActsAt w A l) (hn0 : n0 = l.length) (hN : 40 < N ∧ N ≤ 1600) :
    Calls Try.prog 3 #[.int .i64 (N : Int), .slice A n0 c] w fun e w' => e = .returned (.bool true) ∧ Below w.heap.size w w' := by
  obtain ⟨E, hE⟩ : ∃ E : Nat → Prop, E = fun k => w.heap.size ≤ k := ⟨_, rfl⟩
  have HE1 : Hid (∀ k, w.heap.size ≤ k → E k) := Lib.hid fun k hk => by rw [hE]; exact hk
  have HE2 : Hid (∀ k, E k → w.heap.size ≤ k) := Lib.hid fun k hk => by rw [hE] at hk; exact hk
  have HBel : Hid (∀ w', Only E w w' → Below w.heap.size w w') := Lib.hid fun w' h => by rw [hE] at h; exact h.below (Nat.le_refl _)
  have Hacts := Lib.hid ha
  have Hstart : Hid (∀ (w1 w2 w3 : World) (bl bm p : Nat) (S : Nat → Value) (D : DataW Value) (vL : Value) (ls : List Value), Below w.heap.size w w1 → DevIs w2 (fun k => w.heap.size ≤ k) p bl bm S D (Dev.new 40) → Below w1.heap.size w1 w2 →
      RefIs w3 (fun k => w2.heap.size ≤ k) w2.heap.size vL (.slice none 0 0) (.slice none 0 0) ls [] (Ref.new 40) → Below w2.heap.size w2 w3 → Both E w w3 p w2.heap.size (Dev.new 40) (Ref.new 40) 0 40) := Lib.hid fun w1 w2 w3 bl bm p S D vL ls hb1 hd hb2 hx hb3 => by
    have h12 : Below w.heap.size w w2 := up hb1 hb2
    rw [hE]
    exact ⟨Pair.start hd (fun _ h => h) h12.size hx hb3, Like.new _, Nat.le_refl _, Dev.new_length _, Only.of_below (up h12 hb3)⟩
  have Hnew1 := Lib.hid (new_ok (n := N) w (fun k => w.heap.size ≤ k) ⟨by omega, by omega⟩ (fun _ h => h))
  have Hnew2 := Lib.hid fun (w1 : World) (h : w.heap.size ≤ w1.heap.size) => new_ok (n := 40) w1 (fun k => w.heap.size ≤ k) ⟨by omega, by omega⟩ (fun _ hk => Nat.le_trans h hk)
  have Hrnew := Lib.hid fun w2 : World => rnew_any 40 w2 (fun k => w2.heap.size ≤ k) (by omega) (fun _ h => h)
  have Hlen : Hid (∀ (w2 : World) (F : Nat → Prop) (p bl bm : Nat) (S : Nat → Value) (D : DataW Value), DevIs w2 F p bl bm S D (Dev.new 40) → Calls Try.prog 9 #[at0 p] w2 fun e w' => e = .returned (.int .i64 (40 : Int)) ∧ w2 = w') := Lib.hid fun w2 F p bl bm S D hd => by
    have := len_any hd.c8
    rwa [Dev.new_length] at this
  have t1 : decide ((N : Int) < 16) = false := by rw [decide_eq_false_iff_not]; omega
  have t2 : decide (1600 < (N : Int)) = false := by rw [decide_eq_false_iff_not]; omega
  have t3 : decide (40 < (N : Int)) = true := by rw [decide_eq_true_eq]; omega
  clear ha hE
  go_enter Try.func3, Try.ntmps3
  go_wp2_with (first
    | (go_at_call 7; have hq1 := Hb1; clear hq1; refine (Hnew2.out _ Hb1.out.size).mono ?_; rintro e w2 ⟨rfl, hd2, hb2⟩; have Hd2 := Lib.hid hd2; have Hb2 := Lib.hid hb2; clear hd2 hb2)
    | (go_at_call 7; refine Hnew1.out.mono ?_; rintro e w1 ⟨rfl, _, hb1⟩; have Hb1 := Lib.hid hb1; clear hb1)
    | (go_at_call 9; refine (Hlen.out _ _ _ _ _ _ _ Hd2.out).mono ?_; rintro e w' ⟨rfl, rfl⟩)
    | (go_at_call 10; refine (Hrnew.out _).mono ?_; rintro e w3 ⟨vL, ls, rfl, hx, hb3⟩; have HS := Lib.hid (Hstart.out _ _ _ _ _ _ _ _ _ _ Hb1.out Hd2.out Hb2.out hx hb3); clear hx hb3))
  obtain ⟨p, hp⟩ : ∃ p, p = w1.heap.size + 2 := ⟨_, rfl⟩
  obtain ⟨q, hq⟩ : ∃ q, q = w2.heap.size := ⟨_, rfl⟩
  rw [← hp, ← hq] at HS
  rw [← hp, ← hq]
  clear hp hq Hd2 Hb1 Hb2 Hstart Hrnew Hlen Hnew1 Hnew2
  go_loopw [8] (fun iv wr => ∃ (j : Nat) (d : Dev) (x : Ref), iv = .int .i64 (j : Int) ∧ j ≤ l.length ∧ j ≤ 40 ∧ Both E w wr p q d x j 40) (fun iv _ => l.length - (intOf iv).toNat)
  case atStart => exact ⟨0, Dev.new 40, Ref.new 40, rfl, by omega, by omega, HS.out⟩
  case round =>
    obtain ⟨j, d, x, rfl, hjl', hj40, hboth⟩ := hrel
    have HB := Lib.hid hboth
    clear hboth
    by_cases hgo : j < l.length ∧ j < 40
    · obtain ⟨hjl, hj4⟩ := hgo
      obtain ⟨lb, lo, rfl, hlb, hdoes, hload, hafter, hnx⟩ := round_facts HE1.out HE2.out Hacts.out hjl hj4 HB.out
      have Hdoes := Lib.hid hdoes
      have Hload := Lib.hid hload
      have Hafter := Lib.hid hafter
      have Hnext := Lib.hid hnx
      have j0 : (0 : Int) ≤ (j : Int) := by omega
      have j1 : (j : Int) < (n0 : Int) := by omega
      have j2 : (j : Int) < 40 := by omega
      have j3 : (j : Int).toNat = j := by omega
      clear hdoes hload hafter hnx
      go_wp2_with fail
      refine wp_region_held_drew (S := fun _ => True) (by kernel_rfl) trivial (fun hHeld => ?_)
      refine' wpAnyH_take (i := 0) (oi := ⟨some 63, .move (.tmp 5), _, _, _, none⟩) (v := _) rfl (by kernel_rfl) (by kernel_rfl) (by kernel_rfl) (fun _ _ _ h => h) (Or.inl ⟨by rfl, ?hy0⟩) (by assumption) ?rest0
      case hy0 => (intro w hSw; obtain _ := hSw; go_simp <;> with_reducible rfl)
      case rest0 =>
      go_frame
      refine' wpAnyH_take (i := 1) (oi := ⟨some 64, .move (.tmp 7), _, _, _, none⟩) (v := _) rfl (by kernel_rfl) (by kernel_rfl) (by kernel_rfl) (fun _ _ _ h => h) (Or.inl ⟨by rfl, ?hy1⟩) (by assumption) ?rest1
      case hy1 => (intro w hSw; obtain _ := hSw; go_simp <;> with_reducible rfl)
      case rest1 =>
      go_frame
      refine' wpAnyH_take (i := 2) (oi := ⟨some 65, .move (.tmp 1), _, _, _, none⟩) (v := _) rfl (by kernel_rfl) (by kernel_rfl) (by kernel_rfl) (fun _ _ _ h => h) (Or.inl ⟨by rfl, ?hy2⟩) (by assumption) ?rest2
      case hy2 => (intro w hSw; obtain _ := hSw; go_simp <;> with_reducible rfl)
      case rest2 =>
      go_frame
      refine' wpAnyH_take (i := 3) (oi := ⟨some 66, .move (.tmp 8), _, _, _, none⟩) (v := _) rfl (by kernel_rfl) (by kernel_rfl) (by kernel_rfl) (fun _ _ _ h => h) (Or.inl ⟨by rfl, ?hy3⟩) (by assumption) ?rest3
      case hy3 => (intro w hSw; obtain _ := hSw; go_simp <;> with_reducible rfl)
      case rest3 =>
      go_frame
      refine' wpAnyH_take (i := 4) (oi := ⟨some 67, .indexAddr 22 (.tmp 65) (.tmp 66), _, _, _, none⟩) (v := _) rfl (by kernel_rfl) (by kernel_rfl) (by kernel_rfl) (fun _ _ _ h => h) (Or.inl ⟨by rfl, ?hy4⟩) (by assumption) ?rest4
      case hy4 => (intro w hSw; obtain _ := hSw; go_simp <;> with_reducible rfl)
      case rest4 =>
      go_frame
      refine wpAnyH_ready (rs := [5]) (by kernel_rfl) (by simp) (AllReadyH.cons (o := ⟨some 68, .load 34 (.tmp 67), _, _, _, none⟩) rfl (fun K hK => ?_) AllReadyH.nil)
      rw [if_pos (by rfl)]
      refine wp_run (.agg (l[j]'hjl).cells.toArray) wr.drew (exec_load (t := 34) (x := .tmp 67) rfl (pv := .pointer (some ⟨lb, lo + j * 5, none⟩)) rfl Hload.out) ?_
      refine hK.out _ _ trivial (fun _ => ?_)
      clear hK K
      try go_frame
      refine wpAnyH_ready (rs := [6]) (by kernel_rfl) (by simp) (AllReadyH.cons (o := ⟨some 69, .call { callee := .value (.func 11), args := #[.tmp 63, .tmp 64, .tmp 68], argTypes := #[23, 29, 34] }, _, _, _, none⟩) rfl (fun K hK => ?_) AllReadyH.nil)
      rw [if_pos (by rfl)]
      go_simp
      refine (Hdoes.out).mono ?_
      rintro e w2 ⟨rfl, d2, x2, ha⟩
      have HA := Lib.hid ha
      clear ha
      dsimp only
      refine hK.out _ _ trivial (fun _ => ?_)
      clear hK K
      try go_frame
      obtain ⟨ws, hws⟩ : ∃ ws, ws = d2.waits := ⟨_, rfl⟩
      obtain ⟨m, hm⟩ : ∃ m, m = ws.length := ⟨_, rfl⟩
      obtain ⟨hA1, hA2, hA3, hA4⟩ := Hafter.out w2 d2 x2 HA.out ws m hws hm
      have HA1 := Lib.hid hA1
      have HA2 := Lib.hid hA2
      have HA3 := Lib.hid hA3
      have HA4 := Lib.hid hA4
      obtain ⟨n2, hn2⟩ : ∃ n2, n2 = d2.n := ⟨_, rfl⟩
      rw [← hn2] at HA3 HA4
      clear hA1 hA2 hA3 hA4 hws hm hn2
      refine' wpAnyH_take (i := 7) (oi := ⟨some 70, .unOp .not 4 (.tmp 69), _, _, _, none⟩) (v := _) rfl (by kernel_rfl) (by kernel_rfl) (by kernel_rfl) (fun _ _ _ h => h) (Or.inl ⟨by rfl, ?hy7⟩) (by assumption) ?rest7
      case hy7 => (intro w hSw; obtain _ := hSw; go_simp <;> with_reducible rfl)
      case rest7 =>
      go_frame
      refine' wpAnyH_take (i := 8) (oi := ⟨some 71, .move (.tmp 70), _, _, _, none⟩) (v := _) rfl (by kernel_rfl) (by kernel_rfl) (by kernel_rfl) (fun _ _ _ h => h) (Or.inl ⟨by rfl, ?hy8⟩) (by assumption) ?rest8
      case hy8 => (intro w hSw; obtain _ := hSw; go_simp <;> with_reducible rfl)
      case rest8 =>
      go_frame
      refine' wpAnyH_take (i := 9) (oi := ⟨some 72, .move (.tmp 5), _, _, _, some (8, false)⟩) (v := _) rfl (by kernel_rfl) (by kernel_rfl) (by kernel_rfl) (fun _ _ _ h => h) (Or.inl ⟨by rfl, ?hy9⟩) (by assumption) ?rest9
      case hy9 => (intro w hSw; obtain _ := hSw; go_simp <;> with_reducible rfl)
      case rest9 =>
      go_frame
      refine' wpAnyH_take (i := 11) (oi := ⟨some 74, .move (.tmp 7), _, _, _, some (8, false)⟩) (v := _) rfl (by kernel_rfl) (by kernel_rfl) (by kernel_rfl) (fun _ _ _ h => h) (Or.inl ⟨by rfl, ?hy11⟩) (by assumption) ?rest11
      case hy11 => (intro w hSw; obtain _ := hSw; go_simp <;> with_reducible rfl)
      case rest11 =>
      go_frame
      refine wpAnyH_ready (rs := [10]) (by kernel_rfl) (by simp) (AllReadyH.cons (o := ⟨some 73, .call { callee := .value (.func 13), args := #[.tmp 72], argTypes := #[23] }, _, _, _, some (8, false)⟩) rfl (fun K hK => ?_) AllReadyH.nil)
      rw [if_pos (by rfl)]
      go_simp
      refine (HA1.out).mono ?_
      rintro e w3 ⟨A3, c3, rfl, hb3, hc3⟩
      have Hb3 := Lib.hid hb3
      have Hc3 := Lib.hid hc3
      clear hb3 hc3
      dsimp only
      refine hK.out _ _ trivial (fun _ => ?_)
      clear hK K
      try go_frame
      refine wpAnyH_ready (rs := [12]) (by kernel_rfl) (by simp) (AllReadyH.cons (o := ⟨some 75, .call { callee := .value (.func 14), args := #[.tmp 74], argTypes := #[29] }, _, _, _, some (8, false)⟩) rfl (fun K hK => ?_) AllReadyH.nil)
      rw [if_pos (by rfl)]
      go_simp
      refine (HA2.out w3 A3 c3 Hb3.out Hc3.out).mono ?_
      rintro e w4 ⟨A4, c4, rfl, hb4, hints⟩
      have Hb4 := Lib.hid hb4
      have Hints := Lib.hid hints
      clear hb4 hints
      dsimp only
      refine hK.out _ _ trivial (fun _ => ?_)
      clear hK K
      try go_frame
      refine wpAnyH_ready (rs := [13]) (by kernel_rfl) (by simp) (AllReadyH.cons (o := ⟨some 76, .call { callee := .value (.func 12), args := #[.tmp 73, .tmp 75], argTypes := #[32, 32] }, _, _, _, some (8, false)⟩) rfl (fun K hK => ?_) AllReadyH.nil)
      rw [if_pos (by rfl)]
      go_simp
      refine (Hints.out).mono ?_
      rintro e w5 ⟨rfl, hb5⟩
      have Hb5 := Lib.hid hb5
      clear hb5
      dsimp only
      refine hK.out _ _ trivial (fun _ => ?_)
      clear hK K
      try go_frame
      have Hw5 := Lib.hid (HA3.out w5 (up (up Hb3.out Hb4.out) Hb5.out))
      have c7 := HA4.out w5 (up (up Hb3.out Hb4.out) Hb5.out)
      refine' wpAnyH_take (i := 14) (oi := ⟨some 77, .unOp .not 4 (.tmp 76), _, _, _, some (8, false)⟩) (v := _) rfl (by kernel_rfl) (by kernel_rfl) (by kernel_rfl) (fun _ _ _ h => h) (Or.inl ⟨by rfl, ?hy14⟩) (by assumption) ?rest14
      case hy14 => (intro w hSw; obtain _ := hSw; go_simp <;> with_reducible rfl)
      case rest14 =>
      go_frame
      refine' wpAnyH_take (i := 15) (oi := ⟨some 78, .pick (.tmp 71) (.const (.bool true)) (.tmp 77), _, _, _, none⟩) (v := _) rfl (by kernel_rfl) (by kernel_rfl) (by kernel_rfl) (fun _ _ _ h => h) (Or.inl ⟨by rfl, ?hy15⟩) (by assumption) ?rest15
      case hy15 => (intro w hSw; obtain _ := hSw; go_simp <;> with_reducible rfl)
      case rest15 =>
      go_frame
      refine' wpAnyH_take (i := 16) (oi := ⟨some 79, .move (.tmp 78), _, _, _, none⟩) (v := _) rfl (by kernel_rfl) (by kernel_rfl) (by kernel_rfl) (fun _ _ _ h => h) (Or.inl ⟨by rfl, ?hy16⟩) (by assumption) ?rest16
      case hy16 => (intro w hSw; obtain _ := hSw; go_simp <;> with_reducible rfl)
      case rest16 =>
      go_frame
      refine' wpAnyH_take (i := 17) (oi := ⟨some 80, .move (.tmp 5), _, _, _, some (16, false)⟩) (v := _) rfl (by kernel_rfl) (by kernel_rfl) (by kernel_rfl) (fun _ _ _ h => h) (Or.inl ⟨by rfl, ?hy17⟩) (by assumption) ?rest17
      case hy17 => (intro w hSw; obtain _ := hSw; go_simp <;> with_reducible rfl)
      case rest17 =>
      go_frame
      refine' wpAnyH_take (i := 19) (oi := ⟨some 82, .move (.tmp 7), _, _, _, some (16, false)⟩) (v := _) rfl (by kernel_rfl) (by kernel_rfl) (by kernel_rfl) (fun _ _ _ h => h) (Or.inl ⟨by rfl, ?hy19⟩) (by assumption) ?rest19
      case hy19 => (intro w hSw; obtain _ := hSw; go_simp <;> with_reducible rfl)
      case rest19 =>
      go_frame
      refine' wpAnyH_take (i := 20) (oi := ⟨some 83, .nilCheck (.tmp 82), _, _, _, some (16, false)⟩) (v := _) rfl (by kernel_rfl) (by kernel_rfl) (by kernel_rfl) (fun _ _ _ h => h) (Or.inl ⟨by rfl, ?hy20⟩) (by assumption) ?rest20
      case hy20 => (intro w hSw; obtain _ := hSw; go_simp <;> with_reducible rfl)
      case rest20 =>
      go_frame
      refine' wpAnyH_take (i := 21) (oi := ⟨some 84, .fieldAddr 40 (.tmp 83) 4, _, _, _, some (16, false)⟩) (v := _) rfl (by kernel_rfl) (by kernel_rfl) (by kernel_rfl) (fun _ _ _ h => h) (Or.inl ⟨by rfl, ?hy21⟩) (by assumption) ?rest21
      case hy21 => (intro w hSw; obtain _ := hSw; go_simp <;> with_reducible rfl)
      case rest21 =>
      go_frame
      refine wpAnyH_ready (rs := [18, 22]) (by kernel_rfl) (by simp) (AllReadyH.cons (o := ⟨some 81, .call { callee := .value (.func 15), args := #[.tmp 80], argTypes := #[23] }, _, _, _, some (16, false)⟩) rfl (fun K hK => ?b18) (AllReadyH.cons (o := ⟨some 85, .load 3 (.tmp 84), _, _, _, some (16, false)⟩) rfl (fun K hK => ?b22) AllReadyH.nil))
      case' b18 =>
        rw [if_pos (by rfl)]
        go_simp
        refine (Hw5.out).mono ?_
        rintro e w6 ⟨rfl, rfl⟩
        dsimp only
        refine hK.out _ _ trivial (fun _ => ?_)
        clear hK K
        try go_frame
        refine wpAnyH_ready (rs := [22]) (by kernel_rfl) (by simp) (AllReadyH.cons (o := ⟨some 85, .load 3 (.tmp 84), _, _, _, some (16, false)⟩) rfl (fun K hK => ?_) AllReadyH.nil)
        rw [if_pos (by rfl)]
        go_simp
        refine hK.out _ _ trivial (fun _ => ?_)
        clear hK K
        try go_frame
      case' b22 =>
        rw [if_pos (by rfl)]
        go_simp
        refine hK.out _ _ trivial (fun _ => ?_)
        clear hK K
        try go_frame
        refine wpAnyH_ready (rs := [18]) (by kernel_rfl) (by simp) (AllReadyH.cons (o := ⟨some 81, .call { callee := .value (.func 15), args := #[.tmp 80], argTypes := #[23] }, _, _, _, some (16, false)⟩) rfl (fun K hK => ?_) AllReadyH.nil)
        rw [if_pos (by rfl)]
        go_simp
        refine (Hw5.out).mono ?_
        rintro e w6 ⟨rfl, rfl⟩
        dsimp only
        refine hK.out _ _ trivial (fun _ => ?_)
        clear hK K
        try go_frame
      all_goals
        refine' wpAnyH_take (i := 23) (oi := ⟨some 86, .binOp .neq 3 (.tmp 81) (.tmp 85) 3, _, _, _, some (16, false)⟩) (v := _) rfl (by kernel_rfl) (by kernel_rfl) (by kernel_rfl) (fun _ _ _ h => h) (Or.inl ⟨by rfl, ?hy23⟩) (by assumption) ?rest23
        case hy23 => (intro w hSw; obtain _ := hSw; go_simp <;> with_reducible rfl)
        case rest23 =>
        go_frame
        refine' wpAnyH_take (i := 24) (oi := ⟨some 87, .pick (.tmp 79) (.const (.bool true)) (.tmp 86), _, _, _, none⟩) (v := _) rfl (by kernel_rfl) (by kernel_rfl) (by kernel_rfl) (fun _ _ _ h => h) (Or.inl ⟨by rfl, ?hy24⟩) (by assumption) ?rest24
        case hy24 => (intro w hSw; obtain _ := hSw; go_simp <;> with_reducible rfl)
        case rest24 =>
        go_frame
        refine wpAnyH_done (by kernel_rfl) ?_ _
        have hnext := Hnext.out w2 w5 d2 x2 HA.out (up (up Hb3.out Hb4.out) Hb5.out)
        have HN := Lib.hid hnext
        clear hnext c7
        go_wp2_with fail
        go_roundw
        case rel => exact ⟨j + 1, d2, x2, by go_num, by omega, by omega, HN.out⟩
        case measure => simp [intOf]; omega
    · obtain ⟨dc, xc, hcd, hcx, hread, hnw⟩ := end_facts HE1.out hj40 HB.out
      have Hcd := Lib.hid hcd
      have Hcx := Lib.hid hcx
      have Hread := Lib.hid hread
      have Hnow := Lib.hid hnw
      clear hcd hcx hread hnw
      by_cases hjl : j < l.length
      · have j1 : (j : Int) < (n0 : Int) := by omega
        have j2 : decide ((j : Int) < 40) = false := by rw [decide_eq_false_iff_not]; omega
        go_wp2_with (first
          | (go_at_call 16; refine Hcd.out.mono ?_; rintro e w1 ⟨rfl, hp1, ho1⟩; have Hp1 := Lib.hid hp1; have Ho1 := Lib.hid ho1; clear hp1 ho1)
          | (go_at_call 17; refine (Hcx.out _ Hp1.out Ho1.out).mono ?_; rintro e w2 ⟨rfl, he2⟩; have He2 := Lib.hid he2; clear he2))
        go_loopw [9] (fun iv wr => ∃ j : Nat, iv = .int .i64 (j : Int) ∧ j ≤ 40 ∧ Ends E w wr p q dc xc) (fun iv _ => 40 - (intOf iv).toNat)
        case atStart => exact ⟨0, rfl, by omega, He2.out⟩
        case round =>
          obtain ⟨j, rfl, hjN, he⟩ := hrel
          have He := Lib.hid he
          clear he
          by_cases hk : j < 40
          · have j1 : (j : Int) < (40 : Int) := by omega
            go_wp2_with (first | (go_at_call 18; refine (Hread.out _ j hk He.out).mono ?_; rintro e w2 ⟨v2, rfl, hr2, he2⟩; have He2 := Lib.hid he2; have Hrd2 := Lib.hid hr2; have Hr2 := Lib.hid (run_string_rd (P := Try.prog) (w := w2.drew) 42 9 5 Try.underlying42 Try.underlying5 Try.underlying9 hr2); clear hr2 he2))
            refine wp_region_held_drew (S := fun _ => True) (by kernel_rfl) trivial (fun hHeld => ?_)
            refine' wpAnyH_take (i := 0) (oi := ⟨some 103, .move (.tmp 10), _, _, _, none⟩) (v := _) rfl (by kernel_rfl) (by kernel_rfl) (by kernel_rfl) (fun _ _ _ h => h) (Or.inl ⟨by rfl, ?hy0⟩) (by assumption) ?rest0
            case hy0 => (intro w hSw; obtain _ := hSw; go_simp <;> with_reducible rfl)
            case rest0 =>
            go_frame
            refine' wpAnyH_take (i := 2) (oi := ⟨some 105, .move (.tmp 7), _, _, _, none⟩) (v := _) rfl (by kernel_rfl) (by kernel_rfl) (by kernel_rfl) (fun _ _ _ h => h) (Or.inl ⟨by rfl, ?hy2⟩) (by assumption) ?rest2
            case hy2 => (intro w hSw; obtain _ := hSw; go_simp <;> with_reducible rfl)
            case rest2 =>
            go_frame
            refine' wpAnyH_take (i := 3) (oi := ⟨some 106, .move (.tmp 9), _, _, _, none⟩) (v := _) rfl (by kernel_rfl) (by kernel_rfl) (by kernel_rfl) (fun _ _ _ h => h) (Or.inl ⟨by rfl, ?hy3⟩) (by assumption) ?rest3
            case hy3 => (intro w hSw; obtain _ := hSw; go_simp <;> with_reducible rfl)
            case rest3 =>
            go_frame
            refine wpAnyH_ready (rs := [1, 4]) (by kernel_rfl) (by simp) (AllReadyH.cons (o := ⟨some 104, .convert 42 9 (.tmp 103), _, _, _, none⟩) rfl (fun K hK => ?baz3) (AllReadyH.cons (o := ⟨some 107, .call { callee := .value (.func 19), args := #[.tmp 105, .tmp 106], argTypes := #[29, 3] }, _, _, _, none⟩) rfl (fun K hK => ?bbz3) AllReadyH.nil))
            case' baz3 =>
              rw [if_pos (by rfl)]
              refine wp_run (.string ⟨(dc.now j).toArray⟩) w2.drew (exec_convert (s := 42) (t := 9) (x := .tmp 103) rfl (v := v2) rfl (Hr2.out)) ?_
              refine hK.out _ _ trivial (fun _ => ?_)
              clear hK K
              try go_frame
              refine wpAnyH_ready (rs := [4]) (by kernel_rfl) (by simp) (AllReadyH.cons (o := ⟨some 107, .call { callee := .value (.func 19), args := #[.tmp 105, .tmp 106], argTypes := #[29, 3] }, _, _, _, none⟩) rfl (fun K hK => ?_) AllReadyH.nil)
              rw [if_pos (by rfl)]
              go_simp
              refine (Hnow.out w2 j hk He2.out).mono ?_
              rintro e w3 ⟨v3, rfl, hr3, hk3, he3⟩
              have Hr3 := Lib.hid hr3
              have Hk3 := Lib.hid hk3
              have He3 := Lib.hid he3
              clear hr3 hk3 he3
              dsimp only
              refine hK.out _ _ trivial (fun _ => ?_)
              clear hK K
              try go_frame
              refine wpAnyH_ready (rs := [5]) (by kernel_rfl) (by simp) (AllReadyH.cons (o := ⟨some 108, .convert 42 9 (.tmp 107), _, _, _, none⟩) rfl (fun K hK => ?_) AllReadyH.nil)
              rw [if_pos (by rfl)]
              refine wp_run (.string ⟨(dc.now j).toArray⟩) w3 (exec_convert (s := 42) (t := 9) (x := .tmp 107) rfl (v := v3) rfl Hr3.out) ?_
              refine hK.out _ _ trivial (fun _ => ?_)
              clear hK K
              try go_frame
            case' bbz3 =>
              rw [if_pos (by rfl)]
              go_simp
              refine (Hnow.out w2 j hk He2.out).mono ?_
              rintro e w3 ⟨v3, rfl, hr3, hk3, he3⟩
              have Hr3 := Lib.hid hr3
              have Hk3 := Lib.hid hk3
              have He3 := Lib.hid he3
              clear hr3 hk3 he3
              dsimp only
              refine hK.out _ _ trivial (fun _ => ?_)
              clear hK K
              try go_frame
              refine wpAnyH_ready (rs := [1, 5]) (by kernel_rfl) (by simp) (AllReadyH.cons (o := ⟨some 104, .convert 42 9 (.tmp 103), _, _, _, none⟩) rfl (fun K hK => ?caz3) (AllReadyH.cons (o := ⟨some 108, .convert 42 9 (.tmp 107), _, _, _, none⟩) rfl (fun K hK => ?cbz3) AllReadyH.nil))
              case' caz3 =>
                rw [if_pos (by rfl)]
                refine wp_run (.string ⟨(dc.now j).toArray⟩) w3 (exec_convert (s := 42) (t := 9) (x := .tmp 103) rfl (v := v2) rfl (Hk3.out v2 Hrd2.out)) ?_
                refine hK.out _ _ trivial (fun _ => ?_)
                clear hK K
                try go_frame
                refine wpAnyH_ready (rs := [5]) (by kernel_rfl) (by simp) (AllReadyH.cons (o := ⟨some 108, .convert 42 9 (.tmp 107), _, _, _, none⟩) rfl (fun K hK => ?_) AllReadyH.nil)
                rw [if_pos (by rfl)]
                refine wp_run (.string ⟨(dc.now j).toArray⟩) w3 (exec_convert (s := 42) (t := 9) (x := .tmp 107) rfl (v := v3) rfl Hr3.out) ?_
                refine hK.out _ _ trivial (fun _ => ?_)
                clear hK K
                try go_frame
              case' cbz3 =>
                rw [if_pos (by rfl)]
                refine wp_run (.string ⟨(dc.now j).toArray⟩) w3 (exec_convert (s := 42) (t := 9) (x := .tmp 107) rfl (v := v3) rfl Hr3.out) ?_
                refine hK.out _ _ trivial (fun _ => ?_)
                clear hK K
                try go_frame
                refine wpAnyH_ready (rs := [1]) (by kernel_rfl) (by simp) (AllReadyH.cons (o := ⟨some 104, .convert 42 9 (.tmp 103), _, _, _, none⟩) rfl (fun K hK => ?_) AllReadyH.nil)
                rw [if_pos (by rfl)]
                refine wp_run (.string ⟨(dc.now j).toArray⟩) w3 (exec_convert (s := 42) (t := 9) (x := .tmp 103) rfl (v := v2) rfl (Hk3.out v2 Hrd2.out)) ?_
                refine hK.out _ _ trivial (fun _ => ?_)
                clear hK K
                try go_frame
            all_goals
              refine' wpAnyH_take (i := 6) (oi := ⟨some 109, .binOp .neq 9 (.tmp 104) (.tmp 108) 9, _, _, _, none⟩) (v := _) rfl (by kernel_rfl) (by kernel_rfl) (by kernel_rfl) (fun _ _ _ h => h) (Or.inl ⟨by rfl, ?hy6⟩) (by assumption) ?rest6
              case hy6 => (intro w hSw; obtain _ := hSw; go_simp <;> with_reducible rfl)
              case rest6 =>
              go_frame
              refine wpAnyH_done (by kernel_rfl) ?_ _
              go_wp2_with fail
              go_roundw
              case rel => exact ⟨j + 1, by go_num, by omega, He3.out⟩
              case measure => simp [intOf]; omega
          · have hjN2 : j = 40 := by omega
            have j1 : decide ((j : Int) < (40 : Int)) = false := by rw [decide_eq_false_iff_not]; omega
            go_wp2_with (first | (go_at_call 8; refine (lives_any _).mono ?_; rintro e w9 ⟨rfl, hb9⟩; have Hb9 := Lib.hid (up (HBel.out _ He.out.only) hb9); clear hb9))
            go_ret
            exact ⟨rfl, Hb9.out⟩
      · have j1 : decide ((j : Int) < (n0 : Int)) = false := by rw [decide_eq_false_iff_not]; omega
        go_wp2_with (first
          | (go_at_call 16; refine Hcd.out.mono ?_; rintro e w1 ⟨rfl, hp1, ho1⟩; have Hp1 := Lib.hid hp1; have Ho1 := Lib.hid ho1; clear hp1 ho1)
          | (go_at_call 17; refine (Hcx.out _ Hp1.out Ho1.out).mono ?_; rintro e w2 ⟨rfl, he2⟩; have He2 := Lib.hid he2; clear he2))
        go_loopw [9] (fun iv wr => ∃ j : Nat, iv = .int .i64 (j : Int) ∧ j ≤ 40 ∧ Ends E w wr p q dc xc) (fun iv _ => 40 - (intOf iv).toNat)
        case atStart => exact ⟨0, rfl, by omega, He2.out⟩
        case round =>
          obtain ⟨j, rfl, hjN, he⟩ := hrel
          have He := Lib.hid he
          clear he
          by_cases hk : j < 40
          · have j1 : (j : Int) < (40 : Int) := by omega
            go_wp2_with (first | (go_at_call 18; refine (Hread.out _ j hk He.out).mono ?_; rintro e w2 ⟨v2, rfl, hr2, he2⟩; have He2 := Lib.hid he2; have Hrd2 := Lib.hid hr2; have Hr2 := Lib.hid (run_string_rd (P := Try.prog) (w := w2.drew) 42 9 5 Try.underlying42 Try.underlying5 Try.underlying9 hr2); clear hr2 he2))
            refine wp_region_held_drew (S := fun _ => True) (by kernel_rfl) trivial (fun hHeld => ?_)
            refine' wpAnyH_take (i := 0) (oi := ⟨some 103, .move (.tmp 10), _, _, _, none⟩) (v := _) rfl (by kernel_rfl) (by kernel_rfl) (by kernel_rfl) (fun _ _ _ h => h) (Or.inl ⟨by rfl, ?hy0⟩) (by assumption) ?rest0
            case hy0 => (intro w hSw; obtain _ := hSw; go_simp <;> with_reducible rfl)
            case rest0 =>
            go_frame
            refine' wpAnyH_take (i := 2) (oi := ⟨some 105, .move (.tmp 7), _, _, _, none⟩) (v := _) rfl (by kernel_rfl) (by kernel_rfl) (by kernel_rfl) (fun _ _ _ h => h) (Or.inl ⟨by rfl, ?hy2⟩) (by assumption) ?rest2
            case hy2 => (intro w hSw; obtain _ := hSw; go_simp <;> with_reducible rfl)
            case rest2 =>
            go_frame
            refine' wpAnyH_take (i := 3) (oi := ⟨some 106, .move (.tmp 9), _, _, _, none⟩) (v := _) rfl (by kernel_rfl) (by kernel_rfl) (by kernel_rfl) (fun _ _ _ h => h) (Or.inl ⟨by rfl, ?hy3⟩) (by assumption) ?rest3
            case hy3 => (intro w hSw; obtain _ := hSw; go_simp <;> with_reducible rfl)
            case rest3 =>
            go_frame
            refine wpAnyH_ready (rs := [1, 4]) (by kernel_rfl) (by simp) (AllReadyH.cons (o := ⟨some 104, .convert 42 9 (.tmp 103), _, _, _, none⟩) rfl (fun K hK => ?baz4) (AllReadyH.cons (o := ⟨some 107, .call { callee := .value (.func 19), args := #[.tmp 105, .tmp 106], argTypes := #[29, 3] }, _, _, _, none⟩) rfl (fun K hK => ?bbz4) AllReadyH.nil))
            case' baz4 =>
              rw [if_pos (by rfl)]
              refine wp_run (.string ⟨(dc.now j).toArray⟩) w2.drew (exec_convert (s := 42) (t := 9) (x := .tmp 103) rfl (v := v2) rfl (Hr2.out)) ?_
              refine hK.out _ _ trivial (fun _ => ?_)
              clear hK K
              try go_frame
              refine wpAnyH_ready (rs := [4]) (by kernel_rfl) (by simp) (AllReadyH.cons (o := ⟨some 107, .call { callee := .value (.func 19), args := #[.tmp 105, .tmp 106], argTypes := #[29, 3] }, _, _, _, none⟩) rfl (fun K hK => ?_) AllReadyH.nil)
              rw [if_pos (by rfl)]
              go_simp
              refine (Hnow.out w2 j hk He2.out).mono ?_
              rintro e w3 ⟨v3, rfl, hr3, hk3, he3⟩
              have Hr3 := Lib.hid hr3
              have Hk3 := Lib.hid hk3
              have He3 := Lib.hid he3
              clear hr3 hk3 he3
              dsimp only
              refine hK.out _ _ trivial (fun _ => ?_)
              clear hK K
              try go_frame
              refine wpAnyH_ready (rs := [5]) (by kernel_rfl) (by simp) (AllReadyH.cons (o := ⟨some 108, .convert 42 9 (.tmp 107), _, _, _, none⟩) rfl (fun K hK => ?_) AllReadyH.nil)
              rw [if_pos (by rfl)]
              refine wp_run (.string ⟨(dc.now j).toArray⟩) w3 (exec_convert (s := 42) (t := 9) (x := .tmp 107) rfl (v := v3) rfl Hr3.out) ?_
              refine hK.out _ _ trivial (fun _ => ?_)
              clear hK K
              try go_frame
            case' bbz4 =>
              rw [if_pos (by rfl)]
              go_simp
              refine (Hnow.out w2 j hk He2.out).mono ?_
              rintro e w3 ⟨v3, rfl, hr3, hk3, he3⟩
              have Hr3 := Lib.hid hr3
              have Hk3 := Lib.hid hk3
              have He3 := Lib.hid he3
              clear hr3 hk3 he3
              dsimp only
              refine hK.out _ _ trivial (fun _ => ?_)
              clear hK K
              try go_frame
              refine wpAnyH_ready (rs := [1, 5]) (by kernel_rfl) (by simp) (AllReadyH.cons (o := ⟨some 104, .convert 42 9 (.tmp 103), _, _, _, none⟩) rfl (fun K hK => ?caz4) (AllReadyH.cons (o := ⟨some 108, .convert 42 9 (.tmp 107), _, _, _, none⟩) rfl (fun K hK => ?cbz4) AllReadyH.nil))
              case' caz4 =>
                rw [if_pos (by rfl)]
                refine wp_run (.string ⟨(dc.now j).toArray⟩) w3 (exec_convert (s := 42) (t := 9) (x := .tmp 103) rfl (v := v2) rfl (Hk3.out v2 Hrd2.out)) ?_
                refine hK.out _ _ trivial (fun _ => ?_)
                clear hK K
                try go_frame
                refine wpAnyH_ready (rs := [5]) (by kernel_rfl) (by simp) (AllReadyH.cons (o := ⟨some 108, .convert 42 9 (.tmp 107), _, _, _, none⟩) rfl (fun K hK => ?_) AllReadyH.nil)
                rw [if_pos (by rfl)]
                refine wp_run (.string ⟨(dc.now j).toArray⟩) w3 (exec_convert (s := 42) (t := 9) (x := .tmp 107) rfl (v := v3) rfl Hr3.out) ?_
                refine hK.out _ _ trivial (fun _ => ?_)
                clear hK K
                try go_frame
              case' cbz4 =>
                rw [if_pos (by rfl)]
                refine wp_run (.string ⟨(dc.now j).toArray⟩) w3 (exec_convert (s := 42) (t := 9) (x := .tmp 107) rfl (v := v3) rfl Hr3.out) ?_
                refine hK.out _ _ trivial (fun _ => ?_)
                clear hK K
                try go_frame
                refine wpAnyH_ready (rs := [1]) (by kernel_rfl) (by simp) (AllReadyH.cons (o := ⟨some 104, .convert 42 9 (.tmp 103), _, _, _, none⟩) rfl (fun K hK => ?_) AllReadyH.nil)
                rw [if_pos (by rfl)]
                refine wp_run (.string ⟨(dc.now j).toArray⟩) w3 (exec_convert (s := 42) (t := 9) (x := .tmp 103) rfl (v := v2) rfl (Hk3.out v2 Hrd2.out)) ?_
                refine hK.out _ _ trivial (fun _ => ?_)
                clear hK K
                try go_frame
            all_goals
              refine' wpAnyH_take (i := 6) (oi := ⟨some 109, .binOp .neq 9 (.tmp 104) (.tmp 108) 9, _, _, _, none⟩) (v := _) rfl (by kernel_rfl) (by kernel_rfl) (by kernel_rfl) (fun _ _ _ h => h) (Or.inl ⟨by rfl, ?hy6⟩) (by assumption) ?rest6
              case hy6 => (intro w hSw; obtain _ := hSw; go_simp <;> with_reducible rfl)
              case rest6 =>
              go_frame
              refine wpAnyH_done (by kernel_rfl) ?_ _
              go_wp2_with fail
              go_roundw
              case rel => exact ⟨j + 1, by go_num, by omega, He3.out⟩
              case measure => simp [intOf]; omega
          · have hjN2 : j = 40 := by omega
            have j1 : decide ((j : Int) < (40 : Int)) = false := by rw [decide_eq_false_iff_not]; omega
            go_wp2_with (first | (go_at_call 8; refine (lives_any _).mono ?_; rintro e w9 ⟨rfl, hb9⟩; have Hb9 := Lib.hid (up (HBel.out _ He.out.only) hb9); clear hb9))
            go_ret
            exact ⟨rfl, Hb9.out⟩
theorem plays_out (n : Int) (v : Value) (w : World) (h : n < 16 ∨ 1600 < n) : Calls Try.prog 3 #[.int .i64 n, v] w fun e w' => e = .returned (.bool true) ∧ Below w.heap.size w w' := by
  have hno := Lib.hid (new_no w h)
  by_cases h1 : n < 16
  · have t1 : decide (n < 16) = true := by rw [decide_eq_true_eq]; exact h1
    clear h
    go_enter Try.func3, Try.ntmps3
    go_wp2_with (first
      | (go_at_call 7; refine hno.out.mono ?_; rintro e w' ⟨rfl, rfl⟩)
      | (go_at_call 8; refine (lives_any _).mono ?_; rintro e w9 ⟨rfl, hb9⟩; have Hb9 := Lib.hid hb9; clear hb9))
    go_ret
    exact ⟨rfl, Hb9.out⟩
  · have t1 : decide (n < 16) = false := by rw [decide_eq_false_iff_not]; exact h1
    have t2 : decide (1600 < n) = true := by rw [decide_eq_true_eq]; omega
    clear h
    go_enter Try.func3, Try.ntmps3
    go_wp2_with (first
      | (go_at_call 7; refine hno.out.mono ?_; rintro e w' ⟨rfl, rfl⟩)
      | (go_at_call 8; refine (lives_any _).mono ?_; rintro e w9 ⟨rfl, hb9⟩; have Hb9 := Lib.hid hb9; clear hb9))
    go_ret
    exact ⟨rfl, Hb9.out⟩
theorem devPlays_walk (n : Int) (v : Value) (l : List ActD) (w : World) (_ : (Lit.int .i64 n).wf = true) (h : Acts w v l) : Calls Try.prog 3 #[.int .i64 n, v] w fun e w' => e = .returned (.bool true) ∧ Below w.heap.size w w' := by
  by_cases hn : n < 16 ∨ 1600 < n
  · exact plays_out n v w hn
  · obtain ⟨A, c, rfl, ha⟩ := act_load h
    obtain ⟨N, rfl⟩ : ∃ N : Nat, n = N := ⟨n.toNat, by omega⟩
    by_cases h40 : N ≤ 40
    · exact plays_small N _ c A l w ha rfl ⟨by omega, h40⟩
    · exact plays_big N _ c A l w ha rfl ⟨by omega, by omega⟩
end Go.Proofs.Ytmifaneolfciiaa
