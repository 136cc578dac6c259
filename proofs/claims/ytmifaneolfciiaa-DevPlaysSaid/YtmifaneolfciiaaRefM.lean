/-
  Both devices in one memory: Waiting, Ints, Writes, Now; the beginning.
-/
import Derived.Test.YtmifaneolfciiaaRefL
namespace Go.Proofs.Ytmifaneolfciiaa
open Go.RowKit
section
variable {E E' : Nat → Prop} {w w' : World} {p q : Nat} {d d' : Dev} {x x' : Ref}
theorem waits_length (d : Dev) : d.waits.length ≤ d.L.length := by
  unfold Dev.waits
  exact Nat.le_trans (List.length_filter_le _ _) (by simp)
theorem Pair.dWaits (h : Pair E w p q d x) (hn : d.n < 1000000) {ws : List Nat} (hw : ws = d.waits) {m : Nat} (hm : m = ws.length) : Calls Try.prog 13 #[at0 p] w fun e w' => ∃ A c, e = .returned (.slice A m c) ∧ Below w.heap.size w w' ∧
    ∀ k, k < m → ∃ g o, A = some ⟨g, o, none⟩ ∧ w'.cell? ⟨g, o + k, none⟩ = some (.int .i64 ((ws.getD k 0 : Nat) : Int)) := by
  subst hw hm
  obtain ⟨F, G, bl, bm, S, D, vL, vA, vB, ls, bs, hd, hx, _⟩ := h
  refine (waiting_cells hd hn).mono ?_
  rintro e w' ⟨A, c, rfl, hb, hall⟩
  refine ⟨A, c, rfl, hb, fun k hk => ?_⟩
  obtain ⟨g, rfl, _, _, hc⟩ := hall k hk
  refine ⟨g, 0, rfl, ?_⟩
  rw [Nat.zero_add, hc, List.getD_eq_getElem?_getD, List.getElem?_eq_getElem hk, Option.getD_some]
theorem Pair.xWaits (h : Pair E w p q d x) (hn : x.n < 1000000) {ws : List Nat} (hw : ws = x.waits) {m : Nat} (hm : m = ws.length) : Calls Try.prog 14 #[at0 q] w fun e w' => ∃ A c, e = .returned (.slice A m c) ∧ Below w.heap.size w w' ∧
    ∀ k, k < m → ∃ g o, A = some ⟨g, o, none⟩ ∧ w'.cell? ⟨g, o + k, none⟩ = some (.int .i64 ((ws.getD k 0 : Nat) : Int)) := by
  subst hw hm
  obtain ⟨F, G, bl, bm, S, D, vL, vA, vB, ls, bs, hd, hx, _⟩ := h
  refine (rwaiting_cells hx hn).mono ?_
  rintro e w' ⟨A, c, rfl, hb, hall⟩
  refine ⟨A, c, rfl, hb, fun k hk => ?_⟩
  obtain ⟨g, rfl, _, _, hc⟩ := hall k hk
  refine ⟨g, 0, rfl, ?_⟩
  rw [Nat.zero_add, hc, List.getD_eq_getElem?_getD, List.getElem?_eq_getElem hk, Option.getD_some]
theorem Pair.dWrites (h : Pair E w p q d x) : Calls Try.prog 15 #[at0 p] w fun e w' => e = .returned (.int .i64 (d.n : Int)) ∧ w = w' := by
  obtain ⟨F, G, bl, bm, S, D, vL, vA, vB, ls, bs, hd, hx, _⟩ := h
  exact writes_any hd.c10
theorem Pair.dLen (h : Pair E w p q d x) : Calls Try.prog 9 #[at0 p] w fun e w' => e = .returned (.int .i64 (d.L.length : Int)) ∧ w = w' := by
  obtain ⟨F, G, bl, bm, S, D, vL, vA, vB, ls, bs, hd, hx, _⟩ := h
  exact len_any hd.c8
theorem Pair.c7 (h : Pair E w p q d x) : w.cell? ⟨q, 7, none⟩ = some (.int .i64 (x.n : Int)) := by
  obtain ⟨F, G, bl, bm, S, D, vL, vA, vB, ls, bs, hd, hx, _⟩ := h
  exact hx.c7
theorem Pair.xNow (h : Pair E w p q d x) (hn : x.n < 1000000) {i : Nat} (hi : i < x.L.length) : Calls Try.prog 19 #[at0 q, .int .i64 (i : Int)] w fun e w' => ∃ v, e = .returned v ∧ Rd w' w'.heap.size v (cellsB (x.now i)) ∧ Below w.heap.size w w' := by
  obtain ⟨F, G, bl, bm, S, D, vL, vA, vB, ls, bs, hd, hx, _⟩ := h
  refine (rnow_any hx hn hi).mono ?_
  rintro e w' ⟨gu, cu, rfl, hs, hb⟩
  exact ⟨_, rfl, hs.rd, hb⟩
/-- The two new devices. -/
theorem Pair.start {B : Nat} {w2 w3 : World} {F : Nat → Prop} {bl bm : Nat} {S : Nat → Value} {D : DataW Value} {vL vA vB : Value} {ls bs : List Value} (hd : DevIs w2 F p bl bm S D d) (hF : ∀ k, F k → B ≤ k) (hB : B ≤ w2.heap.size)
    (hx : RefIs w3 (fun k => w2.heap.size ≤ k) q vL vA vB ls bs x) (hb : Below w2.heap.size w2 w3) : Pair (fun k => B ≤ k) w3 p q d x := by
  refine ⟨fun k => F k ∧ k < w2.heap.size, fun k => w2.heap.size ≤ k ∧ k < w3.heap.size, bl, bm, S, D, vL, vA, vB, ls, bs, hd.tight.keep fun k hk _ => hb.block k hk, hx.mono fun k hk hg => ⟨hg, hk⟩, fun k hf hg => by omega, fun k hf => ⟨hF k hf.1, Nat.lt_of_lt_of_le hf.2 hb.size⟩, fun k hg => ⟨Nat.le_trans hB hg.1, hg.2⟩⟩
/-- Behind a loss of power no call is to fail. -/
theorem Dev.crash_read (d : Dev) (ks : List Int) {i : Nat} (hi : i < d.L.length) : (d.crash ks).doRead i = ((d.crash ks).now i, 0, d.crash ks) := by
  have hl : (d.crash ks).L.length = d.L.length := lose_length _ _ _ _
  unfold Dev.doRead
  rw [if_neg (by omega), if_neg (by rw [Dev.burns_idle _ _ rfl]; exact Bool.false_ne_true), Dev.burn_idle _ _ rfl]
  rfl
/-- An act among those that came in. -/
theorem act_load {v : Value} {l : List ActD} (h : Acts w v l) : ∃ A c, v = .slice A l.length c ∧ ∀ i, (hi : i < l.length) → ∃ b o, A = some ⟨b, o, none⟩ ∧ b < w.heap.size ∧ (Rd w w.heap.size l[i].lv (cellsZ l[i].ks)) ∧
    ∀ w', (∀ k, k < w.heap.size → w'.heap[k]? = w.heap[k]?) → (Instr.loadAt 34 (.pointer (some ⟨b, o + i * 5, none⟩))).run Try.prog w' = .ok (.agg l[i].cells.toArray) w' := by
  obtain ⟨A, c, rfl, _, _, h1, h2⟩ := h
  refine ⟨A, c, rfl, fun i hi => ?_⟩
  obtain ⟨b, o, rfl, hb, hc⟩ := h1 (by omega)
  refine ⟨b, o, rfl, hb, (h2 _ (List.getElem_mem hi)).list, fun w' hw => ?_⟩
  refine run_loadAt_mid w' b (o + i * 5) 34 l[i].cells _ (fun j u hu => ?_) Try.underlying34 rfl (by kernel_rfl)
  rw [World.cell?_of_block (a := ⟨b, o + i * 5 + j, none⟩) (hw b hb), Nat.add_assoc]
  exact hc i hi j u hu
end
end Go.Proofs.Ytmifaneolfciiaa
