/-
  The document's device: a byte turned, Spoil: contracts.
-/
import Derived.Test.YtmifaneolfciiaaRefB
import Derived.Test.YtmifaneolfciiaaDevL
namespace Go.Proofs.Ytmifaneolfciiaa
open Go.RowKit
theorem turn_step (b y : UInt8) (i : Nat) : 2 * (((b ^^^ y).toNat >>> (i + 1) : Nat) : Int) % 256 + (((b.toNat : Nat) : Int) / 2 ^ i + ((y.toNat : Nat) : Int) / 2 ^ i) % 2 = (((b ^^^ y).toNat >>> i : Nat) : Int) := by
  have hz : (b ^^^ y).toNat < 256 := (b ^^^ y).toNat_lt
  have hx : (b ^^^ y).toNat = b.toNat ^^^ y.toNat := UInt8.toNat_xor b y
  have h1 : (b ^^^ y).toNat >>> (i + 1) = (b ^^^ y).toNat >>> i / 2 := by rw [Nat.shiftRight_succ]
  have h2 : (b ^^^ y).toNat >>> i % 2 = ((b.toNat >>> i) + (y.toNat >>> i)) % 2 := by
    rw [hx, Nat.shiftRight_xor_distrib]
    generalize b.toNat >>> i = p
    generalize y.toNat >>> i = r
    have := @Nat.xor_mod_two_eq_one p r
    omega
  have h3 : (b ^^^ y).toNat >>> i ≤ (b ^^^ y).toNat := by rw [Nat.shiftRight_eq_div_pow]; exact Nat.div_le_self _ _
  have e1 : ((b.toNat : Nat) : Int) / 2 ^ i = ((b.toNat >>> i : Nat) : Int) := by rw [Nat.shiftRight_eq_div_pow]; simp
  have e2 : ((y.toNat : Nat) : Int) / 2 ^ i = ((y.toNat >>> i : Nat) : Int) := by rw [Nat.shiftRight_eq_div_pow]; simp
  rw [e1, e2, h1]
  clear e1 e2 h1 hx
  generalize b.toNat >>> i = p at h2 ⊢
  generalize y.toNat >>> i = r at h2 ⊢
  generalize (b ^^^ y).toNat >>> i = s at h2 h3 ⊢
  omega
section
variable {w w' : World} {G G' : Nat → Prop} {q : Nat} {vL vA vB : Value} {ls bs : List Value} {x : Ref}
set_option maxRecDepth 100000 in
set_option maxHeartbeats 1000000 in
theorem turned_any {gb c a : Nat} {l : List UInt8} {y : UInt8} (h : SecIs w G (.slice (some ⟨gb, 0, none⟩) 256 c) l) (ha : a < 256) :
    Calls Try.prog 38 #[.slice (some ⟨gb, 0, none⟩) 256 c, .int .i64 (a : Int), .int .u8 (y.toNat : Int)] w fun e w' => ∃ g c', e = .returned (.slice (some ⟨g, 0, none⟩) 256 c') ∧ w.heap.size ≤ g ∧ Mine w' 0 5 (.slice (some ⟨g, 0, none⟩) 256 c') (cellsB (spoilB l a y)) ∧ Below w.heap.size w w' := by
  obtain ⟨ti, hi, hz0, hz1, hz2⟩ := info_parts info_u8
  have hl := h.1
  have hgb := (h.2.1.lt).2
  have hcell := h.cell rfl ha
  have hr := h.rd.alloc (Nat.le_refl _) (.cells #[] 5)
  obtain ⟨b, hb⟩ : ∃ b : UInt8, b = l[a]'(by omega) := ⟨_, rfl⟩
  rw [← hb] at hcell
  obtain ⟨Lc, hLc⟩ : ∃ Lc, Lc = cellsB l := ⟨_, rfl⟩
  have hLl : Lc.length = 256 := by rw [hLc, cellsB_length, hl]
  have h1 : ∀ u ∈ Lc, u.oneCell' = true := by rw [hLc]; exact cellsB_one l
  rw [← hLc] at hr
  have HL := Lib.hid hLc
  have Hb := Lib.hid hb
  clear h hLc hb
  go_enter Try.func38, Try.ntmps38
  go_wp2_with (at_builtin; refine wpList_append_rd rfl (.tmp 10) (.tmp 11) 42 rfl w.heap.size 5 ti _ 1 Try.underlying42 hi hz0 hz1 hz2 rfl _ [] rfl (Mine.empty w _ 5 (Nat.le_refl _)) _ _ _ rfl hr h1 (by simp; omega) (by unfold maxLen; simp; omega) (by simp) ?_; intro v2 w2 hown hbel _ _; have hown2 := hown; rw [List.nil_append] at hown2; obtain ⟨g, c2, cur, rfl, hg, hc1, hc2⟩ := hown2.at_ (by omega); rw [hLl] at hown2 hc1 ⊢; clear hown; have hb2 : Below w.heap.size w w2 := ((Below.refl _ _).alloc (Nat.le_refl _) _).trans hbel)
  obtain ⟨z, hz⟩ : ∃ z : Nat, z = (b ^^^ y).toNat := ⟨_, rfl⟩
  have Hz := Lib.hid hz
  have hz8 : z < 256 := by rw [hz]; exact (b ^^^ y).toNat_lt
  clear hz
  go_loopw [8, 9] (fun xv iv wr => ∃ k : Nat, k ≤ 8 ∧ iv = .int .i64 (7 - (k : Int)) ∧ xv = .int .u8 ((z >>> (8 - k) : Nat) : Int) ∧ wr = w2) (fun _ iv _ => (intOf iv + 1).toNat)
  case atStart => exact ⟨0, by omega, rfl, by rw [Nat.shiftRight_eq_div_pow, Nat.div_eq_of_lt hz8]; rfl, rfl⟩
  case round =>
    obtain ⟨k, hk8, rfl, rfl, rfl⟩ := hrel
    have hcell' := (hb2.cell (p := ⟨gb, a, none⟩) hgb).trans hcell
    by_cases hk : k < 8
    · obtain ⟨i, hi'⟩ : ∃ i : Nat, k + i = 7 := ⟨7 - k, by omega⟩
      have hii : (7 : Int) - (k : Int) = (i : Int) := by omega
      have h8 : 8 - k = i + 1 := by omega
      have hi7 : i < 8 := by omega
      obtain ⟨X, hX⟩ : ∃ X : Nat, X = z >>> (i + 1) := ⟨_, rfl⟩
      rw [hii, h8, ← hX]
      have hXl : X < 256 := by rw [hX, Nat.shiftRight_eq_div_pow]; exact Nat.lt_of_le_of_lt (Nat.div_le_self _ _) hz8
      have hst : 2 * (X : Int) % 256 + ((b.toNat : Int) / 2 ^ i + (y.toNat : Int) / 2 ^ i) % 2 = ((z >>> i : Nat) : Int) := by
        rw [hX, Hz.out]; exact turn_step b y i
      have Hst := Lib.hid hst
      have Hi' := Lib.hid hi'
      clear hi' hX hii h8 hst
      go_wp2_with fail
      go_roundw
      case rel =>
        have hk1 := Hi'.out
        refine ⟨k + 1, by omega, ?_, ?_, trivial⟩
        · congr 1
          omega
        · rw [show 8 - (k + 1) = i by omega, ← Hst.out]
      case measure => simp [intOf]
    · have hkk : k = 8 := by omega
      subst hkk
      have hfr := hown2.free a
      have hca : wr.cell? ⟨g, a, none⟩ = some (.int .u8 (b.toNat : Int)) := by
        refine hown2.cellAt ?_
        rw [HL.out, cellsB_at l a (by omega), Hb.out]
      obtain ⟨X, hX⟩ : ∃ X : Nat, X = z >>> (8 - 8) := ⟨_, rfl⟩
      rw [← hX]
      have hXl : X < 256 := by rw [hX, Nat.shiftRight_eq_div_pow]; exact Nat.lt_of_le_of_lt (Nat.div_le_self _ _) hz8
      have hst : (cellsB l).set a (.int .u8 (X : Int)) = cellsB (spoilB l a y) := by
        have e : (X : Int) = (((b ^^^ y) : UInt8).toNat : Int) := by rw [hX, ← Hz.out]; rfl
        rw [e, Hb.out]
        unfold cellsB spoilB
        rw [List.map_set, List.getD_eq_getElem?_getD, List.getElem?_eq_getElem (by omega), Option.getD_some]
      have Hst := Lib.hid hst
      have ha0 : (0 : Int) ≤ (a : Int) := by omega
      have ha1 : (a : Int) < 256 := by omega
      have hta : (a : Int).toNat = a := by omega
      clear hX hst
      go_wp2_with fail
      go_ret
      have h2 := hown2.stored a (.int .u8 (X : Int))
      rw [HL.out, Hst.out] at h2
      exact ⟨g, c2, rfl, hown2.lt.1, h2.weaken (Nat.zero_le _), hb2.setCell hown2.lt.1 _⟩
end
section
variable {w w' : World} {G G' : Nat → Prop} {q : Nat} {vL vA vB : Value} {ls bs : List Value} {x : Ref}
theorem ne_of_kind {w : World} {a b : Nat} {c d : Array Value} {t u : TypeId} (ha : w.heap[a]? = some (.cells c t (0, 0))) (hb : w.heap[b]? = some (.cells d u (0, 0))) (hne : t ≠ u) : a ≠ b := fun e => by
  subst e
  rw [ha] at hb
  injection hb with hb
  injection hb with _ ht
  exact hne ht
/-- The writes that wait, one of them. -/
theorem RefIs.wait_at (h : RefIs w G q vL vA vB ls bs x) {k : Nat} (hk : k < x.W.length) : ∃ (gA cA gB cB gu cu s : Nat) (l : List UInt8), vA = .slice (some ⟨gA, 0, none⟩) x.W.length cA ∧ vB = .slice (some ⟨gB, 0, none⟩) x.W.length cB ∧
    w.cell? ⟨q, 1, none⟩ = some (.slice (some ⟨gA, 0, none⟩) x.W.length cA) ∧ w.cell? ⟨q, 2, none⟩ = some (.slice (some ⟨gB, 0, none⟩) x.W.length cB) ∧ w.cell? ⟨gA, k, none⟩ = some (.int .i64 (s : Int)) ∧ w.cell? ⟨gB, k, none⟩ = some (.slice (some ⟨gu, 0, none⟩) 256 cu) ∧
    SecIs w G (.slice (some ⟨gu, 0, none⟩) 256 cu) l ∧ x.W[k]? = some ((s : Nat), l) ∧ s < x.L.length ∧ gB ≠ q ∧ gB ≠ gA ∧ gA ≠ q ∧ G gB ∧ gA < w.heap.size ∧ gB < w.heap.size ∧ w.frozen? ⟨gB, k, none⟩ = false := by
  have hlb : bs.length = x.W.length := by rw [h.eB.1, List.length_map]
  have hla : (cellsN (x.W.map (·.1))).length = x.W.length := by rw [cellsN_length, List.length_map]
  obtain ⟨gA, cA, cur, eA, hgA, _⟩ := h.rA.at_ (by omega)
  obtain ⟨gB, cB, cur', eB, hgB, _⟩ := h.rB.at_ (by omega)
  rw [hla] at eA
  rw [hlb] at eB
  obtain ⟨u, hu, hsec⟩ := h.eB.at_ (k := k) (by rw [List.length_map]; exact hk)
  obtain ⟨gu, cu, eu, _⟩ := hsec.at_
  rw [List.getElem_map] at hsec
  have h1 := h.rA
  have h2 := h.rB
  have h3 := h.c1
  have h4 := h.c2
  have h5 := h.inG.2.2.2
  rw [eA] at h1 h3
  rw [eB] at h2 h4 h5
  rw [eu] at hsec hu
  refine ⟨gA, cA, gB, cB, gu, cu, x.W[k].1, x.W[k].2, eA, eB, h3, h4, h1.cellAt ?_, h2.cellAt hu, hsec, List.getElem?_eq_getElem hk, h.at_ _ (List.getElem_mem hk), ne_of_kind hgB h.top (by decide), ne_of_kind hgB hgA (by decide), ne_of_kind hgA h.top (by decide), h5 gB rfl, h1.lt.2, h2.lt.2, h2.free k⟩
  rw [cellsN_at _ k (by rw [List.length_map]; exact hk), List.getElem_map]
/-- How many writes wait. -/
theorem RefIs.wait_len (h : RefIs w G q vL vA vB ls bs x) : ∃ A c, w.cell? ⟨q, 1, none⟩ = some (.slice A x.W.length c) := by
  obtain ⟨A, c, hA⟩ := h.rA.form
  rw [cellsN_length, List.length_map] at hA
  exact ⟨A, c, by rw [← hA]; exact h.c1⟩
theorem Mine.cell_other {base : Nat} {e : TypeId} {v : Value} {xs : List Value} (h : Mine w base e v xs) {g j : Nat} {u : Value} (hne : v.ownBlock ≠ some g) : Mine (w.setCell ⟨g, j, none⟩ u) base e v xs := h.keep fun k hk => heap_setCell_other w _ k u (fun e => hne (by rw [hk, e]))
/-- A sector that lasts is another one now. -/
theorem RefIs.set_last (h : RefIs w G q vL vA vB ls bs x) {g n c i : Nat} (hL : vL = .slice (some ⟨g, 0, none⟩) n c) {u : Value} {l : List UInt8} (hu : SecIs w G u l) : RefIs (w.setCell ⟨g, i, none⟩ u) G q vL vA vB (ls.set i u) bs { x with L := x.L.set i l } := by
  have hg := grown_cell w g i u
  have hrL := h.rL
  have hrL' := h.rL
  rw [hL] at hrL
  obtain ⟨cur, hcur⟩ := hrL.held rfl
  have h5 : ∀ k cur, some g = some k → w.heap[k]? ≠ some (.cells cur 5 (0, 0)) := fun k cur e => h.rL.no5 (by decide) k cur (by rw [hL]; exact e)
  refine ⟨?_, ?_, ?_, ?_, ?_, ?_, h.apart, h.inG, ?_, h.few, ?_, h.fuse⟩
  · exact (heap_setCell_other w ⟨g, i, none⟩ q u (ne_of_kind h.top hcur (by decide))).trans h.top
  · have := hrL.stored i u
    rwa [← hL] at this
  · exact h.rA.cell_other fun e => by
      obtain ⟨c2, h2⟩ := h.rA.held e
      exact ne_of_kind hcur h2 (by decide) rfl
  · refine h.rB.cell_other fun e => ?_
    rcases h.apart with h1 | h1
    · rw [hL] at h1; cases h1
    · exact h1 (by rw [e, hL]; rfl)
  · exact (h.eL.other hg h5).set i (hu.other hg h5)
  · exact h.eB.other hg h5
  · intro y hy
    rw [List.length_set]
    exact h.at_ y hy
  · rw [List.length_set]; exact h.size
/-- The bytes of a write that waits are others now. -/
theorem RefIs.set_wait (h : RefIs w G q vL vA vB ls bs x) {g n c k s : Nat} (hB : vB = .slice (some ⟨g, 0, none⟩) n c) {u : Value} {l l0 : List UInt8} (hk : x.W[k]? = some (s, l0)) (hu : SecIs w G u l) : RefIs (w.setCell ⟨g, k, none⟩ u) G q vL vA vB ls (bs.set k u) { x with W := x.W.set k (s, l) } := by
  have hg := grown_cell w g k u
  have hrB := h.rB
  rw [hB] at hrB
  obtain ⟨cur, hcur⟩ := hrB.held rfl
  have h5 : ∀ j cur, some g = some j → w.heap[j]? ≠ some (.cells cur 5 (0, 0)) := fun j cur e => h.rB.no5 (by decide) j cur (by rw [hB]; exact e)
  have e1 : (x.W.set k (s, l)).map (·.1) = x.W.map (·.1) := by
    apply List.ext_getElem?
    intro j
    rw [List.getElem?_map, List.getElem?_map, List.getElem?_set]
    split
    · rename_i e
      subst e
      rw [hk]
      split
      · rfl
      · rename_i e
        exact absurd (List.getElem?_eq_some_iff.1 hk).1 e
    · rfl
  have e2 : (x.W.set k (s, l)).map (·.2) = (x.W.map (·.2)).set k l := List.map_set
  refine ⟨?_, ?_, ?_, ?_, ?_, ?_, h.apart, h.inG, ?_, ?_, h.size, h.fuse⟩
  · exact (heap_setCell_other w ⟨g, k, none⟩ q u (ne_of_kind h.top hcur (by decide))).trans h.top
  · refine h.rL.cell_other fun e => ?_
    rcases h.apart with h1 | h1
    · rw [h1] at e; cases e
    · exact h1 (by rw [e, hB]; rfl)
  · show Mine _ 0 3 vA (cellsN ((x.W.set k (s, l)).map (·.1)))
    rw [e1]
    exact h.rA.cell_other fun e => by
      obtain ⟨c2, h2⟩ := h.rA.held e
      exact ne_of_kind hcur h2 (by decide) rfl
  · have := hrB.stored k u
    rwa [← hB] at this
  · exact h.eL.other hg h5
  · show Elems _ G (bs.set k u) ((x.W.set k (s, l)).map (·.2))
    rw [e2]
    exact (h.eB.other hg h5).set k (hu.other hg h5)
  · intro y hy
    rcases List.mem_or_eq_of_mem_set hy with h1 | h1
    · exact h.at_ y h1
    · subst h1
      exact h.at_ (s, l0) (List.mem_of_getElem? hk)
  · rw [List.length_set]; exact h.few
/-- A write, spoilt if it is of sector i. -/
def spoilW (i a : Nat) (y : UInt8) (p : Nat × List UInt8) : Nat × List UInt8 := if p.1 = i then (p.1, spoilB p.2 a y) else p
/-- The first k of them, so. -/
def spoilWs (W : List (Nat × List UInt8)) (i a : Nat) (y : UInt8) (k : Nat) : List (Nat × List UInt8) := (W.take k).map (spoilW i a y) ++ W.drop k
theorem spoilWs_zero (W : List (Nat × List UInt8)) (i a : Nat) (y : UInt8) : spoilWs W i a y 0 = W := by simp [spoilWs]
theorem spoilWs_all (W : List (Nat × List UInt8)) (i a : Nat) (y : UInt8) : spoilWs W i a y W.length = W.map (spoilW i a y) := by simp [spoilWs]
theorem spoilWs_length (W : List (Nat × List UInt8)) (i a : Nat) (y : UInt8) (k : Nat) : (spoilWs W i a y k).length = W.length := by simp [spoilWs]; omega
theorem spoilWs_get {W : List (Nat × List UInt8)} {i a : Nat} {y : UInt8} {k : Nat} (hk : k < W.length) : (spoilWs W i a y k)[k]? = some W[k] := by
  unfold spoilWs
  rw [List.getElem?_append_right (by simp; omega)]
  have : k - ((W.take k).map (spoilW i a y)).length = 0 := by simp; omega
  rw [this, List.getElem?_drop, Nat.add_zero, List.getElem?_eq_getElem hk]
theorem spoilWs_succ {W : List (Nat × List UInt8)} {i a : Nat} {y : UInt8} {k : Nat} (hk : k < W.length) : (spoilWs W i a y k).set k (spoilW i a y W[k]) = spoilWs W i a y (k + 1) := by
  unfold spoilWs
  have h1 : ((W.take k).map (spoilW i a y)).length = k := by simp; omega
  rw [List.set_append_right _ _ (by omega), h1, Nat.sub_self, List.drop_eq_getElem_cons hk, List.set_cons_zero, List.take_succ_eq_append_getElem hk, List.map_append]
  simp
/-- The document's device, a byte of sector i spoilt wherever it stands. -/
def Ref.spoil (x : Ref) (i a : Nat) (y : UInt8) : Ref := { x with L := x.L.set i (spoilB (x.L.getD i []) a y), W := x.W.map (spoilW i a y) }
theorem rspoil_arg {i at_ by_ : Int} (h : RefIs w G q vL vA vB ls bs x) (ha : i < 0 ∨ (x.L.length : Int) ≤ i ∨ at_ < 0 ∨ 256 ≤ at_) : Calls Try.prog 28 #[at0 q, .int .i64 i, .int .i64 at_, .int .u8 by_] w fun e w' => e = .returned (.bool false) ∧ w = w' := by
  by_cases hi : i < 0 ∨ (x.L.length : Int) ≤ i
  · have hh := Lib.hid (rhas_out h hi)
    clear hi ha h
    go_enter Try.func28, Try.ntmps28
    go_wp2_with (go_at_call 36; refine hh.out.mono ?_; rintro e w' ⟨rfl, rfl⟩)
    go_ret
    exact ⟨rfl, rfl⟩
  · obtain ⟨k, rfl⟩ := Int.eq_ofNat_of_zero_le (show 0 ≤ i by omega)
    have hh := Lib.hid (rhas_in h (i := k) (by omega))
    by_cases h1 : at_ < 0
    · have t1 : decide (at_ < 0) = true := by simpa using h1
      clear ha h hi
      go_enter Try.func28, Try.ntmps28
      go_wp2_with (go_at_call 36; refine hh.out.mono ?_; rintro e w' ⟨rfl, rfl⟩)
      go_ret
      exact ⟨rfl, rfl⟩
    · have t1 : decide (at_ < 0) = false := by simpa using h1
      have t2 : decide (255 < at_) = true := by rw [decide_eq_true_eq]; omega
      clear ha h hi
      go_enter Try.func28, Try.ntmps28
      go_wp2_with (go_at_call 36; refine hh.out.mono ?_; rintro e w' ⟨rfl, rfl⟩)
      go_ret
      exact ⟨rfl, rfl⟩
end
section
variable {w w' : World} {G G' : Nat → Prop} {q : Nat} {vL vA vB : Value} {ls bs : List Value} {x : Ref}
set_option maxRecDepth 100000 in
set_option maxHeartbeats 4000000 in
theorem rspoil_any {i a : Nat} {y : UInt8} (h : RefIs w G q vL vA vB ls bs x) (hi : i < x.L.length) (ha : a < 256) (hn : x.n < 1000000) (hG : ∀ k, w.heap.size ≤ k → G k) :
    Calls Try.prog 28 #[at0 q, .int .i64 (i : Int), .int .i64 (a : Int), .int .u8 (y.toNat : Int)] w fun e w' => ∃ ls' bs', e = .returned (.bool true) ∧ RefIs w' G q vL vA vB ls' bs' (x.spoil i a y) ∧ Only G w w' := by
  have hh := Lib.hid (rhas_in h hi)
  obtain ⟨A, c, hA, c0, hlast⟩ := h.last_at
  obtain ⟨g, gu, cu, rfl, hg, hGg, hgq, hc, hs⟩ := hlast i hi
  obtain ⟨n, hnn⟩ : ∃ n, n = x.L.length := ⟨_, rfl⟩
  rw [← hnn] at c0 hA
  have hin : i < n := by omega
  have hfr : w.frozen? ⟨g, i, none⟩ = false := by
    have := h.rL
    rw [hA] at this
    exact this.free i
  have hturn : ∀ (gb c : Nat) (l : List UInt8) (w1 : World), SecIs w1 G (.slice (some ⟨gb, 0, none⟩) 256 c) l → w.heap.size ≤ w1.heap.size → Calls Try.prog 38 #[.slice (some ⟨gb, 0, none⟩) 256 c, .int .i64 (a : Int), .int .u8 (y.toNat : Int)] w1 fun e w' => ∃ g c', e = .returned (.slice (some ⟨g, 0, none⟩) 256 c') ∧ SecIs w' G (.slice (some ⟨g, 0, none⟩) 256 c') (spoilB l a y) ∧ Below w1.heap.size w1 w' := by
    intro gb c l w1 hs1 hw1
    refine (turned_any (y := y) hs1 ha).mono ?_
    rintro e w' ⟨g, c', rfl, hg, hm, hb⟩
    refine ⟨g, c', rfl, ⟨by rw [spoilB_length]; exact hs1.1, hm, fun k hk => ?_⟩, hb⟩
    injection hk with hk
    subst hk
    exact hG _ (Nat.le_trans hw1 hg)
  have Hturn := Lib.hid hturn
  have Hs := Lib.hid (hs.keep (w' := w.drew) fun _ _ _ => rfl)
  have Hh := Lib.hid h
  obtain ⟨L1, hL1⟩ : ∃ L1, L1 = x.L.set i (spoilB (x.L.getD i []) a y) := ⟨_, rfl⟩
  obtain ⟨m, hm⟩ : ∃ m, m = x.W.length := ⟨_, rfl⟩
  have hm1 : m < 1000000 := by have := h.few; omega
  have HL1 := Lib.hid hL1
  have Hm := Lib.hid hm
  have HA := Lib.hid hA
  have i0 : (0 : Int) ≤ (i : Int) := by omega
  have i1 : (i : Int) < (n : Int) := by omega
  have i2 : (i : Int).toNat = i := by omega
  have a0 : decide ((a : Int) < 0) = false := by rw [decide_eq_false_iff_not]; omega
  have a1 : decide ((255 : Int) < (a : Int)) = false := by rw [decide_eq_false_iff_not]; omega
  clear hlast hturn hs h hi hL1 hm hA hnn hn ha
  go_enter Try.func28, Try.ntmps28
  go_wp2_with (go_at_call 36; refine hh.out.mono ?_; rintro e w' ⟨rfl, rfl⟩)
  refine wp_region_held_drew (S := fun w' => w'.cell? ⟨q, 0, none⟩ = some (.slice (some ⟨g, 0, none⟩) n c)) (by kernel_rfl) ?_ (fun hHeld => ?_)
  · exact c0
  refine' wpAnyH_take (i := 0) (oi := ⟨some 22, .move (.tmp 0), _, _, _, none⟩) (v := _) rfl (by kernel_rfl) (by kernel_rfl) (by kernel_rfl) (fun _ _ _ h => h) (Or.inl ⟨by rfl, ?hy0⟩) (by assumption) ?rest0
  case hy0 => (intro w hSw; obtain s1 := hSw; go_simp <;> with_reducible rfl)
  case rest0 =>
  go_frame
  refine' wpAnyH_take (i := 1) (oi := ⟨some 23, .nilCheck (.tmp 22), _, _, _, none⟩) (v := _) rfl (by kernel_rfl) (by kernel_rfl) (by kernel_rfl) (fun _ _ _ h => h) (Or.inl ⟨by rfl, ?hy1⟩) (by assumption) ?rest1
  case hy1 => (intro w hSw; obtain s1 := hSw; go_simp <;> with_reducible rfl)
  case rest1 =>
  go_frame
  refine' wpAnyH_take (i := 2) (oi := ⟨some 24, .fieldAddr 40 (.tmp 23) 0, _, _, _, none⟩) (v := _) rfl (by kernel_rfl) (by kernel_rfl) (by kernel_rfl) (fun _ _ _ h => h) (Or.inl ⟨by rfl, ?hy2⟩) (by assumption) ?rest2
  case hy2 => (intro w hSw; obtain s1 := hSw; go_simp <;> with_reducible rfl)
  case rest2 =>
  go_frame
  refine' wpAnyH_take (i := 3) (oi := ⟨some 25, .load 37 (.tmp 24), _, _, _, none⟩) (v := _) rfl (by kernel_rfl) (by kernel_rfl) (by kernel_rfl) (fun _ _ _ h => h) (Or.inl ⟨by rfl, ?hy3⟩) (by assumption) ?rest3
  case hy3 => (intro w hSw; obtain s1 := hSw; go_simp <;> with_reducible rfl)
  case rest3 =>
  go_frame
  refine' wpAnyH_take (i := 4) (oi := ⟨some 26, .move (.tmp 1), _, _, _, none⟩) (v := _) rfl (by kernel_rfl) (by kernel_rfl) (by kernel_rfl) (fun _ _ _ h => h) (Or.inl ⟨by rfl, ?hy4⟩) (by assumption) ?rest4
  case hy4 => (intro w hSw; obtain s1 := hSw; go_simp <;> with_reducible rfl)
  case rest4 =>
  go_frame
  refine' wpAnyH_take (i := 5) (oi := ⟨some 27, .move (.tmp 0), _, _, _, none⟩) (v := _) rfl (by kernel_rfl) (by kernel_rfl) (by kernel_rfl) (fun _ _ _ h => h) (Or.inl ⟨by rfl, ?hy5⟩) (by assumption) ?rest5
  case hy5 => (intro w hSw; obtain s1 := hSw; go_simp <;> with_reducible rfl)
  case rest5 =>
  go_frame
  refine' wpAnyH_take (i := 6) (oi := ⟨some 28, .nilCheck (.tmp 27), _, _, _, none⟩) (v := _) rfl (by kernel_rfl) (by kernel_rfl) (by kernel_rfl) (fun _ _ _ h => h) (Or.inl ⟨by rfl, ?hy6⟩) (by assumption) ?rest6
  case hy6 => (intro w hSw; obtain s1 := hSw; go_simp <;> with_reducible rfl)
  case rest6 =>
  go_frame
  refine' wpAnyH_take (i := 7) (oi := ⟨some 29, .fieldAddr 40 (.tmp 28) 0, _, _, _, none⟩) (v := _) rfl (by kernel_rfl) (by kernel_rfl) (by kernel_rfl) (fun _ _ _ h => h) (Or.inl ⟨by rfl, ?hy7⟩) (by assumption) ?rest7
  case hy7 => (intro w hSw; obtain s1 := hSw; go_simp <;> with_reducible rfl)
  case rest7 =>
  go_frame
  refine' wpAnyH_take (i := 8) (oi := ⟨some 30, .load 37 (.tmp 29), _, _, _, none⟩) (v := _) rfl (by kernel_rfl) (by kernel_rfl) (by kernel_rfl) (fun _ _ _ h => h) (Or.inl ⟨by rfl, ?hy8⟩) (by assumption) ?rest8
  case hy8 => (intro w hSw; obtain s1 := hSw; go_simp <;> with_reducible rfl)
  case rest8 =>
  go_frame
  refine' wpAnyH_take (i := 9) (oi := ⟨some 31, .move (.tmp 1), _, _, _, none⟩) (v := _) rfl (by kernel_rfl) (by kernel_rfl) (by kernel_rfl) (fun _ _ _ h => h) (Or.inl ⟨by rfl, ?hy9⟩) (by assumption) ?rest9
  case hy9 => (intro w hSw; obtain s1 := hSw; go_simp <;> with_reducible rfl)
  case rest9 =>
  go_frame
  refine' wpAnyH_take (i := 10) (oi := ⟨some 32, .indexAddr 37 (.tmp 30) (.tmp 31), _, _, _, none⟩) (v := _) rfl (by kernel_rfl) (by kernel_rfl) (by kernel_rfl) (fun _ _ _ h => h) (Or.inl ⟨by rfl, ?hy10⟩) (by assumption) ?rest10
  case hy10 => (intro w hSw; obtain s1 := hSw; go_simp <;> with_reducible rfl)
  case rest10 =>
  go_frame
  refine' wpAnyH_take (i := 12) (oi := ⟨some 34, .move (.tmp 2), _, _, _, none⟩) (v := _) rfl (by kernel_rfl) (by kernel_rfl) (by kernel_rfl) (fun _ _ _ h => h) (Or.inl ⟨by rfl, ?hy12⟩) (by assumption) ?rest12
  case hy12 => (intro w hSw; obtain s1 := hSw; go_simp <;> with_reducible rfl)
  case rest12 =>
  go_frame
  refine' wpAnyH_take (i := 13) (oi := ⟨some 35, .move (.tmp 3), _, _, _, none⟩) (v := _) rfl (by kernel_rfl) (by kernel_rfl) (by kernel_rfl) (fun _ _ _ h => h) (Or.inl ⟨by rfl, ?hy13⟩) (by assumption) ?rest13
  case hy13 => (intro w hSw; obtain s1 := hSw; go_simp <;> with_reducible rfl)
  case rest13 =>
  go_frame
  refine wpAnyH_ready (rs := [11]) (by kernel_rfl) (by simp) (AllReadyH.cons (o := ⟨some 33, .load 42 (.tmp 32), _, _, _, none⟩) rfl (fun K hK => ?_) AllReadyH.nil)
  rw [if_pos (by rfl)]
  have hc0 : w.drew.cell? ⟨g, i, none⟩ = some (.slice (some ⟨gu, 0, none⟩) 256 cu) := hc
  go_simp
  refine hK.out _ _ hHeld (fun hHeld => ?_)
  clear hK K
  try go_frame
  refine wpAnyH_ready (rs := [14]) (by kernel_rfl) (by simp) (AllReadyH.cons (o := ⟨some 36, .call { callee := .value (.func 38), args := #[.tmp 33, .tmp 34, .tmp 35], argTypes := #[42, 3, 5] }, _, _, _, none⟩) rfl (fun K hK => ?_) AllReadyH.nil)
  rw [if_pos (by rfl)]
  go_simp
  refine (Hturn.out _ _ _ _ Hs.out (Nat.le_refl _)).mono ?_
  rintro e w2 ⟨g2, c2, rfl, hs2, hb2⟩
  dsimp only
  refine hK.out _ _ ((hb2.cell (p := ⟨q, 0, none⟩) Hh.out.lt).trans c0) (fun hHeld => ?_)
  clear hK K
  try go_frame
  refine' wpAnyH_take (i := 15) (oi := ⟨some 37, .indexAddr 37 (.tmp 25) (.tmp 26), _, _, _, none⟩) (v := _) rfl (by kernel_rfl) (by kernel_rfl) (by kernel_rfl) (fun _ _ _ h => h) (Or.inl ⟨by rfl, ?hy15⟩) (by assumption) ?rest15
  case hy15 => (intro w hSw; obtain s1 := hSw; go_simp <;> with_reducible rfl)
  case rest15 =>
  go_frame
  refine wpAnyH_ready (rs := [16]) (by kernel_rfl) (by simp) (AllReadyH.cons (o := ⟨none, .store 42 (.tmp 37) (.tmp 36), _, _, _, none⟩) rfl (fun K hK => ?_) AllReadyH.nil)
  rw [if_pos (by rfl)]
  have hfr2 : w2.frozen? ⟨g, i, none⟩ = false := (hb2.frozen (p := ⟨g, i, none⟩) hg).trans hfr
  have hc2 : w2.cell? ⟨g, i, none⟩ = some (.slice (some ⟨gu, 0, none⟩) 256 cu) := (hb2.cell (p := ⟨g, i, none⟩) hg).trans hc
  have hd1 : RefIs (w2.setCell ⟨g, i, none⟩ (.slice (some ⟨g2, 0, none⟩) 256 c2)) G q vL vA vB (ls.set i (.slice (some ⟨g2, 0, none⟩) 256 c2)) bs { x with L := L1 } := by
    rw [HL1.out]
    exact (Hh.out.below (w' := w2) ⟨hb2.os, hb2.tape, hb2.output, hb2.size, hb2.block⟩).set_last HA.out hs2
  have ho1 : Only G w (w2.setCell ⟨g, i, none⟩ (.slice (some ⟨g2, 0, none⟩) 256 c2)) := (Only.drew G w).trans ((Only.of_below hb2).trans (Only.setCell (p := ⟨g, i, none⟩) hGg _))
  have Hd1 := Lib.hid hd1
  have Ho1 := Lib.hid ho1
  clear hd1 ho1 hs2
  go_simp
  refine hK.out _ _ ?_ (fun hHeld => ?_)
  · exact (World.cell?_setCell_far w2 ⟨g, i, none⟩ ⟨q, 0, none⟩ _ hgq).trans hHeld
  clear hK K
  try go_frame
  refine wpAnyH_done (by kernel_rfl) ?_ _
  obtain ⟨w3, hw3⟩ : ∃ w3, w3 = w2.setCell ⟨g, i, none⟩ (.slice (some ⟨g2, 0, none⟩) 256 c2) := ⟨_, rfl⟩
  rw [← hw3] at Hd1 Ho1 ⊢
  clear hw3 hfr2 hc2 hfr hc hc0 Hs hHeld c0 hg hGg hgq hin
  go_wp2_with fail
  go_loopw [9] (fun iv wr => ∃ (k : Nat) (bs' : List Value), k ≤ m ∧ iv = .int .i64 (k : Int) ∧ RefIs wr G q vL vA vB (ls.set i (.slice (some ⟨g2, 0, none⟩) 256 c2)) bs' { x with L := L1, W := spoilWs x.W i a y k } ∧ Only G w wr) (fun iv _ => m - (intOf iv).toNat)
  case atStart => exact ⟨0, bs, by omega, rfl, by rw [spoilWs_zero]; exact Hd1.out, Ho1.out⟩
  case round =>
    obtain ⟨k, bs', hkm, rfl, hd, ho⟩ := hrel
    have hlen : (spoilWs x.W i a y k).length = m := by rw [spoilWs_length]; exact Hm.out.symm
    by_cases hk : k < m
    · obtain ⟨gA, cA, gB, cB, gv, cv, s, l, eA, eB, d1, d2, d3, d4, hsec, hWk, hsl, n1, n2, n3, hGB, hgA, hgB, hfB⟩ := hd.wait_at (k := k) (by rw [show ({ x with L := L1, W := spoilWs x.W i a y k } : Ref).W = spoilWs x.W i a y k from rfl, hlen]; exact hk)
      have hkW : k < x.W.length := by rw [← Hm.out]; exact hk
      have hWk2 : x.W[k] = (s, l) := by
        have := spoilWs_get (i := i) (a := a) (y := y) hkW
        rw [show ({ x with L := L1, W := spoilWs x.W i a y k } : Ref).W = spoilWs x.W i a y k from rfl, this] at hWk
        injection hWk
      rw [show ({ x with L := L1, W := spoilWs x.W i a y k } : Ref).W.length = m from hlen] at d1 d2 eA eB
      have hsucc := spoilWs_succ (i := i) (a := a) (y := y) hkW
      rw [hWk2] at hsucc
      by_cases hs : s = i
      · have t1 : decide ((s : Int) = (i : Int)) = true := by rw [decide_eq_true_eq]; omega
        have Hd := Lib.hid hd
        have Ho := Lib.hid ho
        have Hsec := Lib.hid (hsec.keep (w' := wr.drew) fun _ _ _ => rfl)
        have Hsucc := Lib.hid hsucc
        have HWk := Lib.hid hWk
        have HeB := Lib.hid eB
        have hsz := ho.size
        have k0 : (0 : Int) ≤ (k : Int) := by omega
        have k1 : (k : Int) < (m : Int) := by omega
        have k2 : (k : Int).toNat = k := by omega
        clear hd ho hsec hsucc hWk hWk2 eA eB hsl hlen hkW
        go_wp2_with fail
        refine wp_region_held_drew (S := fun w' => w'.cell? ⟨q, 2, none⟩ = some (.slice (some ⟨gB, 0, none⟩) m cB)) (by kernel_rfl) ?_ (fun hHeld => ?_)
        · exact d2
        refine' wpAnyH_take (i := 0) (oi := ⟨some 56, .move (.tmp 0), _, _, _, none⟩) (v := _) rfl (by kernel_rfl) (by kernel_rfl) (by kernel_rfl) (fun _ _ _ h => h) (Or.inl ⟨by rfl, ?hy0⟩) (by assumption) ?rest0
        case hy0 => (intro w hSw; obtain s1 := hSw; go_simp <;> with_reducible rfl)
        case rest0 =>
        go_frame
        refine' wpAnyH_take (i := 1) (oi := ⟨some 57, .nilCheck (.tmp 56), _, _, _, none⟩) (v := _) rfl (by kernel_rfl) (by kernel_rfl) (by kernel_rfl) (fun _ _ _ h => h) (Or.inl ⟨by rfl, ?hy1⟩) (by assumption) ?rest1
        case hy1 => (intro w hSw; obtain s1 := hSw; go_simp <;> with_reducible rfl)
        case rest1 =>
        go_frame
        refine' wpAnyH_take (i := 2) (oi := ⟨some 58, .fieldAddr 40 (.tmp 57) 2, _, _, _, none⟩) (v := _) rfl (by kernel_rfl) (by kernel_rfl) (by kernel_rfl) (fun _ _ _ h => h) (Or.inl ⟨by rfl, ?hy2⟩) (by assumption) ?rest2
        case hy2 => (intro w hSw; obtain s1 := hSw; go_simp <;> with_reducible rfl)
        case rest2 =>
        go_frame
        refine' wpAnyH_take (i := 3) (oi := ⟨some 59, .load 37 (.tmp 58), _, _, _, none⟩) (v := _) rfl (by kernel_rfl) (by kernel_rfl) (by kernel_rfl) (fun _ _ _ h => h) (Or.inl ⟨by rfl, ?hy3⟩) (by assumption) ?rest3
        case hy3 => (intro w hSw; obtain s1 := hSw; go_simp <;> with_reducible rfl)
        case rest3 =>
        go_frame
        refine' wpAnyH_take (i := 4) (oi := ⟨some 60, .move (.tmp 9), _, _, _, none⟩) (v := _) rfl (by kernel_rfl) (by kernel_rfl) (by kernel_rfl) (fun _ _ _ h => h) (Or.inl ⟨by rfl, ?hy4⟩) (by assumption) ?rest4
        case hy4 => (intro w hSw; obtain s1 := hSw; go_simp <;> with_reducible rfl)
        case rest4 =>
        go_frame
        refine' wpAnyH_take (i := 5) (oi := ⟨some 61, .move (.tmp 0), _, _, _, none⟩) (v := _) rfl (by kernel_rfl) (by kernel_rfl) (by kernel_rfl) (fun _ _ _ h => h) (Or.inl ⟨by rfl, ?hy5⟩) (by assumption) ?rest5
        case hy5 => (intro w hSw; obtain s1 := hSw; go_simp <;> with_reducible rfl)
        case rest5 =>
        go_frame
        refine' wpAnyH_take (i := 6) (oi := ⟨some 62, .nilCheck (.tmp 61), _, _, _, none⟩) (v := _) rfl (by kernel_rfl) (by kernel_rfl) (by kernel_rfl) (fun _ _ _ h => h) (Or.inl ⟨by rfl, ?hy6⟩) (by assumption) ?rest6
        case hy6 => (intro w hSw; obtain s1 := hSw; go_simp <;> with_reducible rfl)
        case rest6 =>
        go_frame
        refine' wpAnyH_take (i := 7) (oi := ⟨some 63, .fieldAddr 40 (.tmp 62) 2, _, _, _, none⟩) (v := _) rfl (by kernel_rfl) (by kernel_rfl) (by kernel_rfl) (fun _ _ _ h => h) (Or.inl ⟨by rfl, ?hy7⟩) (by assumption) ?rest7
        case hy7 => (intro w hSw; obtain s1 := hSw; go_simp <;> with_reducible rfl)
        case rest7 =>
        go_frame
        refine' wpAnyH_take (i := 8) (oi := ⟨some 64, .load 37 (.tmp 63), _, _, _, none⟩) (v := _) rfl (by kernel_rfl) (by kernel_rfl) (by kernel_rfl) (fun _ _ _ h => h) (Or.inl ⟨by rfl, ?hy8⟩) (by assumption) ?rest8
        case hy8 => (intro w hSw; obtain s1 := hSw; go_simp <;> with_reducible rfl)
        case rest8 =>
        go_frame
        refine' wpAnyH_take (i := 9) (oi := ⟨some 65, .move (.tmp 9), _, _, _, none⟩) (v := _) rfl (by kernel_rfl) (by kernel_rfl) (by kernel_rfl) (fun _ _ _ h => h) (Or.inl ⟨by rfl, ?hy9⟩) (by assumption) ?rest9
        case hy9 => (intro w hSw; obtain s1 := hSw; go_simp <;> with_reducible rfl)
        case rest9 =>
        go_frame
        refine' wpAnyH_take (i := 10) (oi := ⟨some 66, .indexAddr 37 (.tmp 64) (.tmp 65), _, _, _, none⟩) (v := _) rfl (by kernel_rfl) (by kernel_rfl) (by kernel_rfl) (fun _ _ _ h => h) (Or.inl ⟨by rfl, ?hy10⟩) (by assumption) ?rest10
        case hy10 => (intro w hSw; obtain s1 := hSw; go_simp <;> with_reducible rfl)
        case rest10 =>
        go_frame
        refine' wpAnyH_take (i := 12) (oi := ⟨some 68, .move (.tmp 2), _, _, _, none⟩) (v := _) rfl (by kernel_rfl) (by kernel_rfl) (by kernel_rfl) (fun _ _ _ h => h) (Or.inl ⟨by rfl, ?hy12⟩) (by assumption) ?rest12
        case hy12 => (intro w hSw; obtain s1 := hSw; go_simp <;> with_reducible rfl)
        case rest12 =>
        go_frame
        refine' wpAnyH_take (i := 13) (oi := ⟨some 69, .move (.tmp 3), _, _, _, none⟩) (v := _) rfl (by kernel_rfl) (by kernel_rfl) (by kernel_rfl) (fun _ _ _ h => h) (Or.inl ⟨by rfl, ?hy13⟩) (by assumption) ?rest13
        case hy13 => (intro w hSw; obtain s1 := hSw; go_simp <;> with_reducible rfl)
        case rest13 =>
        go_frame
        refine wpAnyH_ready (rs := [11]) (by kernel_rfl) (by simp) (AllReadyH.cons (o := ⟨some 67, .load 42 (.tmp 66), _, _, _, none⟩) rfl (fun K hK => ?_) AllReadyH.nil)
        rw [if_pos (by rfl)]
        have hc0 : wr.drew.cell? ⟨gB, k, none⟩ = some (.slice (some ⟨gv, 0, none⟩) 256 cv) := d4
        go_simp
        refine hK.out _ _ hHeld (fun hHeld => ?_)
        clear hK K
        try go_frame
        refine wpAnyH_ready (rs := [14]) (by kernel_rfl) (by simp) (AllReadyH.cons (o := ⟨some 70, .call { callee := .value (.func 38), args := #[.tmp 67, .tmp 68, .tmp 69], argTypes := #[42, 3, 5] }, _, _, _, none⟩) rfl (fun K hK => ?_) AllReadyH.nil)
        rw [if_pos (by rfl)]
        go_simp
        refine (Hturn.out _ _ _ _ Hsec.out hsz).mono ?_
        rintro e w4 ⟨g4, c4, rfl, hs4, hb4⟩
        dsimp only
        refine hK.out _ _ ((hb4.cell (p := ⟨q, 2, none⟩) Hd.out.lt).trans d2) (fun hHeld => ?_)
        clear hK K
        try go_frame
        refine' wpAnyH_take (i := 15) (oi := ⟨some 71, .indexAddr 37 (.tmp 59) (.tmp 60), _, _, _, none⟩) (v := _) rfl (by kernel_rfl) (by kernel_rfl) (by kernel_rfl) (fun _ _ _ h => h) (Or.inl ⟨by rfl, ?hy15⟩) (by assumption) ?rest15
        case hy15 => (intro w hSw; obtain s1 := hSw; go_simp <;> with_reducible rfl)
        case rest15 =>
        go_frame
        refine wpAnyH_ready (rs := [16]) (by kernel_rfl) (by simp) (AllReadyH.cons (o := ⟨none, .store 42 (.tmp 71) (.tmp 70), _, _, _, none⟩) rfl (fun K hK => ?_) AllReadyH.nil)
        rw [if_pos (by rfl)]
        have hfr4 : w4.frozen? ⟨gB, k, none⟩ = false := (hb4.frozen (p := ⟨gB, k, none⟩) hgB).trans hfB
        have hc4 : w4.cell? ⟨gB, k, none⟩ = some (.slice (some ⟨gv, 0, none⟩) 256 cv) := (hb4.cell (p := ⟨gB, k, none⟩) hgB).trans d4
        have hd1 : RefIs (w4.setCell ⟨gB, k, none⟩ (.slice (some ⟨g4, 0, none⟩) 256 c4)) G q vL vA vB (ls.set i (.slice (some ⟨g2, 0, none⟩) 256 c2)) (bs'.set k (.slice (some ⟨g4, 0, none⟩) 256 c4)) { x with L := L1, W := spoilWs x.W i a y (k + 1) } := by
          have h0 := (Hd.out.below (w' := w4) ⟨hb4.os, hb4.tape, hb4.output, hb4.size, hb4.block⟩).set_wait HeB.out HWk.out hs4
          have e : (spoilWs x.W i a y k).set k (s, spoilB l a y) = spoilWs x.W i a y (k + 1) := by
            rw [← Hsucc.out]
            unfold spoilW
            rw [if_pos hs]
          rw [← e]
          exact h0
        have ho1 : Only G w (w4.setCell ⟨gB, k, none⟩ (.slice (some ⟨g4, 0, none⟩) 256 c4)) := Ho.out.trans ((Only.drew G wr).trans ((Only.of_below hb4).trans (Only.setCell (p := ⟨gB, k, none⟩) hGB _)))
        have Hd4 := Lib.hid hd1
        have Ho4 := Lib.hid ho1
        clear hd1 ho1 hs4
        go_simp
        refine hK.out _ _ ?_ (fun hHeld => ?_)
        · exact (World.cell?_setCell_far w4 ⟨gB, k, none⟩ ⟨q, 2, none⟩ _ n1).trans hHeld
        clear hK K
        try go_frame
        refine wpAnyH_done (by kernel_rfl) ?_ _
        go_wp2_with fail
        go_roundw
        case rel => exact ⟨k + 1, _, by omega, by go_num, Hd4.out, Ho4.out⟩
        case measure => simp [intOf]; omega
      · have t1 : decide ((s : Int) = (i : Int)) = false := by rw [decide_eq_false_iff_not]; omega
        have hnext : spoilWs x.W i a y k = spoilWs x.W i a y (k + 1) := by
          rw [← hsucc]
          unfold spoilW
          rw [if_neg hs, ← hWk2]
          refine (List.ext_getElem? fun j => ?_).symm
          rw [List.getElem?_set]
          split
          · rename_i e
            subst e
            rw [if_pos (by rw [hlen]; exact hk), spoilWs_get hkW]
          · rfl
        rw [hnext] at hd
        have Hd := Lib.hid hd
        clear hd hsec hsucc hWk hWk2 eA eB hsl hlen hkW hnext
        go_wp2_with fail
        go_roundw
        case rel => exact ⟨k + 1, _, by omega, by go_num, Hd.out, ho⟩
        case measure => simp [intOf]; omega
    · have hkm2 : k = m := by omega
      obtain ⟨A1, c1, d1⟩ := hd.wait_len
      rw [show ({ x with L := L1, W := spoilWs x.W i a y k } : Ref).W.length = m from hlen] at d1
      have hfin : RefIs wr G q vL vA vB (ls.set i (.slice (some ⟨g2, 0, none⟩) 256 c2)) bs' (x.spoil i a y) := by
        unfold Ref.spoil
        rw [← HL1.out, ← spoilWs_all, ← Hm.out, ← hkm2]
        exact hd
      have Hfin := Lib.hid hfin
      clear hd hfin hlen hkm2
      go_wp2_with fail
      go_ret
      exact ⟨_, _, rfl, Hfin.out, ho⟩
end
end Go.Proofs.Ytmifaneolfciiaa
