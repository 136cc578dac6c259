/-
  The document's device: New: contract.
  The program's device and the document's own, side by side: what they have in common stays so, whatever is done to both.
-/
import Derived.Test.YtfjcblppmoomdaaRkE
import Derived.Test.YtfjcblppmoomdaaDevFail
namespace Go.Proofs.Ytfjcblppmoomdaa
open Go.RowKit
/-- The document's new device. -/
def Ref.new (n : Nat) : Ref := { L := List.replicate n blank, W := [], f := fun _ => -1, n := 0 }
section
variable {w w' : World} {G G' Z Z' : Nat → Prop} {q : Nat} {vL vA vB : Value} {ls bs : List Value} {x : Ref}
/-- One more sector that lasts. -/
theorem RefIs.more {w1 w3 : World} (h : RefIs w G Z q vL vA vB ls bs x) (hG : ∀ k, w.heap.size ≤ k → G k) (hb : Below w.heap.size w w1) {u v' : Value} {l : List UInt8} (hu : SecIs w1 Z u l) (hm : Mine w3 0 51 v' (ls ++ [u])) (hg : w1.grownBy w3 vL.ownBlock)
    (ho : v'.ownBlock = vL.ownBlock ∨ v'.ownBlock = some w1.heap.size) (hs : x.L.length < 1600) :
    RefIs (w3.setCell ⟨q, 0, none⟩ v') G Z q v' vA vB (ls ++ [u]) bs { x with L := x.L ++ [l] } ∧ Only G w (w3.setCell ⟨q, 0, none⟩ v') ∧ w3.heap[q]? = some (.cells (refCells x vL vA vB).toArray 46 (0, 0)) := by
  have h1 : RefIs w1 G Z q vL vA vB ls bs x := h.below hb
  have nqL : vL.ownBlock ≠ some q := h1.rL.notAt h1.top (by decide)
  have top3 : w3.heap[q]? = some (.cells (refCells x vL vA vB).toArray 46 (0, 0)) := (hg.block q h1.lt (fun e => nqL e.symm)).trans h1.top
  have t1 := heap_setCell_same w3 q 0 _ 46 v' top3
  have o9 : ∀ k, k ≠ q → (w3.setCell ⟨q, 0, none⟩ v').heap[k]? = w3.heap[k]? := fun k hk => heap_setCell_other _ _ k _ hk
  have b5 : ∀ (k : Nat) (cur : Array Value), w1.heap[k]? = some (.cells cur 5 (0, 0)) → (w3.setCell ⟨q, 0, none⟩ v').heap[k]? = w1.heap[k]? := fun k cur hk =>
    (o9 k (ne_of_kind hk h1.top (by decide))).trans (hg.block k (Array.getElem?_eq_some_iff.1 hk).1 fun e => h1.rL.no5 (by decide) k cur e.symm hk)
  have nqv : v'.ownBlock ≠ some q := by
    rcases ho with e | e
    · rw [e]; exact nqL
    · rw [e]; intro e2; injection e2 with e2; have := h1.lt; omega
  have hLG : ∀ g, v'.ownBlock = some g → G g := fun g hgv => by
    rcases ho with e | e
    · exact h.inG.2.1 g (by rw [← e]; exact hgv)
    · rw [e] at hgv; injection hgv with hgv; exact hG g (by have := hb.size; omega)
  refine ⟨⟨t1.trans (by simp [refCells]), hm.keep fun g hgv => o9 g fun e => nqv (e ▸ hgv), ?_, ?_, (h1.eL.keepOf b5).snoc (hu.keepOf b5), h1.eB.keepOf b5, ?_, ⟨h1.inG.1, hLG, h1.inG.2.2⟩, fun y hy => ?_, h1.few, ?_, h1.fuse⟩, ?_, top3⟩
  · refine h1.rA.keep fun g hgv => (o9 g fun e => h1.rA.notAt h1.top (by decide) (e ▸ hgv)).trans (hg.block g (h1.rA.block g hgv).2 fun e => ?_)
    rcases h1.rA.apart h1.rL (by decide) with h0 | h0
    · rw [h0] at hgv; cases hgv
    · exact h0 (hgv.trans e)
  · refine h1.rB.keep fun g hgv => (o9 g fun e => h1.rB.notAt h1.top (by decide) (e ▸ hgv)).trans (hg.block g (h1.rB.block g hgv).2 fun e => ?_)
    rcases h1.apart with h0 | h0
    · rw [h0] at e; cases e
    · exact h0 (e.symm.trans hgv.symm)
  · rcases ho with e | e
    · rw [e]; exact h1.apart
    · right
      rw [e]
      intro e2
      have := (h1.rB.block _ e2.symm).2
      omega
  · rw [List.length_append]
    have := h1.at_ y hy
    simp only [List.length_singleton]
    omega
  · simp only [List.length_append, List.length_singleton]; omega
  · refine (Only.of_below hb).trans ((Only.grown hg fun g e => h.inG.2.1 g e).trans (Only.setCell (p := ⟨q, 0, none⟩) h.inG.1 _))
set_option maxRecDepth 100000 in
set_option maxHeartbeats 1000000 in
theorem rnew_any (n : Nat) (w : World) (G Z : Nat → Prop) (h : n ≤ 1600) (hG : ∀ k, w.heap.size ≤ k → G k) (hZ : ∀ k, w.heap.size ≤ k → Z k) :
    Calls Try.prog 12 #[.int .i64 (n : Int)] w fun e w' => ∃ vL ls, e = .returned (at0 w.heap.size) ∧ RefIs w' G Z w.heap.size vL (.slice none 0 0) (.slice none 0 0) ls [] (Ref.new n) ∧ Below w.heap.size w w' := by
  obtain ⟨ti, hi, hz0, hz1, hz2⟩ := info_parts rinfo_u8
  obtain ⟨tr, tr0, tr1, tr2, tr3⟩ := info_parts info_row
  have hcl : (Value.int .u8 0).cells = Array.replicate 1 (Value.int .u8 0) := rfl
  have h256 : (256 : Int).toNat = 256 := rfl
  have hmk : ∀ w : World, (Instr.makeSlice 51 (.int .i64 256) (.int .i64 256)).run Try.prog w = .ok (.slice (some ⟨w.heap.size, 0, none⟩) 256 256) (w.alloc (.cells (cellsB blank).toArray 5)) := by
    intro w
    have := run_makeSlice (P := Try.prog) w 51 5 ti _ Try.underlying51 hi hz0 .i64 .i64 256 256 (by omega) (by omega) (by rw [hz1]; decide) (by rw [hz2]; decide) (by omega)
    rw [hz1, hcl, madeCells_all _ (.int .u8 0) 1 _ (by omega) rfl, h256] at this
    rw [this, blank, cellsB_replicate]
    rfl
  have Hmk := Lib.hid hmk
  have hblank : ∀ (w : World), w.heap.size ≤ w.heap.size → Mine (w.alloc (.cells (cellsB blank).toArray 5)) 0 5 (.slice (some ⟨w.heap.size, 0, none⟩) 256 256) (cellsB blank) := by
    intro w _
    have := Mine.lit w 0 5 (cellsB blank).toArray 256 (Nat.zero_le _) (by simp [cellsB_length, blank]) (by unfold maxLen; omega)
    simpa using this
  have Hblank := Lib.hid hblank
  clear hmk hblank
  have hBelow : ∀ w', Only (fun k => w.heap.size ≤ k) w w' → Below w.heap.size w w' := fun w' h => h.below (Nat.le_refl _)
  have HB := Lib.hid hBelow
  clear hBelow
  go_enter Try.func12, Try.ntmps12
  go_wp2_with fail
  go_loopw [4] (fun iv wr => ∃ (k : Nat) (vL : Value) (ls : List Value), k ≤ n ∧ iv = .int .i64 (k : Int) ∧ RefIs wr (fun k => w.heap.size ≤ k) (fun k => w.heap.size ≤ k) w.heap.size vL (.slice none 0 0) (.slice none 0 0) ls [] (Ref.new k) ∧ Only (fun k => w.heap.size ≤ k) w wr) (fun iv _ => n - (intOf iv).toNat)
  case atStart =>
    refine ⟨0, .slice none 0 0, [], by omega, rfl, ?_, Only.alloc _ _ _⟩
    refine ⟨heap_alloc_last _ _, Mine.nil _ _ _, Mine.nil _ _ _, Mine.nil _ _ _, Elems.nil _ _, Elems.nil _ _, .inl rfl, ⟨Nat.le_refl _, fun g e => (by cases e), fun g e => (by cases e), fun g e => (by cases e)⟩, fun y hy => (by cases hy), Nat.le_refl _, Nat.zero_le _, fun k => ⟨show (-1 : Int) ≤ -1 by decide, show (-1 : Int) ≤ 9223372036854775807 by decide⟩⟩
  case round =>
    obtain ⟨k, vL, ls, hkn, rfl, hd, ho⟩ := hrel
    by_cases hk : k < n
    · have hd0 : RefIs wr.drew (fun k => w.heap.size ≤ k) (fun k => w.heap.size ≤ k) w.heap.size vL (.slice none 0 0) (.slice none 0 0) ls [] (Ref.new k) := hd.keep (fun _ _ _ => rfl) (fun _ _ _ => rfl)
      have hll : ls.length = k := by rw [hd.eL.1]; simp [Ref.new]
      have hb1 : Below wr.drew.heap.size wr.drew ((wr.drew.alloc (.cells (cellsB blank).toArray 5)).alloc (.cells #[.slice (some ⟨wr.drew.heap.size, 0, none⟩) 256 256] 51)) := ((Below.refl _ _).alloc (Nat.le_refl _) _).alloc (by simp) _
      have hrr := rd_one (wr.drew.alloc (.cells (cellsB blank).toArray 5)) (.slice (some ⟨wr.drew.heap.size, 0, none⟩) 256 256) 51
      obtain ⟨v', w3, run3, own3, g3, ob3⟩ := run_append_rd (P := Try.prog) (w := (wr.drew.alloc (.cells (cellsB blank).toArray 5)).alloc (.cells #[.slice (some ⟨wr.drew.heap.size, 0, none⟩) 256 256] 51)) 0 43 43 51 tr _ 24 Try.underlying43 tr0 tr1 tr2 tr3 rfl vL ls ((hd0.rL.alloc _).alloc _) _ _ _ hrr (by simp [Value.oneCell']) (by simp; omega) (by unfold maxLen; simp; omega) (Nat.zero_le _)
      have hu : SecIs ((wr.drew.alloc (.cells (cellsB blank).toArray 5)).alloc (.cells #[.slice (some ⟨wr.drew.heap.size, 0, none⟩) 256 256] 51)) (fun k => w.heap.size ≤ k) (.slice (some ⟨wr.drew.heap.size, 0, none⟩) 256 256) blank :=
        ⟨by simp [blank], (Hblank.out wr.drew (Nat.le_refl _)).alloc _, fun g e => by injection e with e; subst e; exact ho.size⟩
      obtain ⟨hm1, hm2, top3⟩ := hd0.more (fun k hk => Nat.le_trans ho.size hk) hb1 hu own3 g3 ob3 (by simp [Ref.new]; omega)
      have hnew : ({ Ref.new k with L := (Ref.new k).L ++ [blank] } : Ref) = Ref.new (k + 1) := by
        unfold Ref.new
        rw [List.replicate_succ']
      rw [hnew] at hm1
      have ho2 := ho.trans ((Only.drew _ wr).trans hm2)
      have c1 := hd0.c0
      have c3 : w3.cell? ⟨w.heap.size, 0, none⟩ = some vL := cell_of_row w3 _ 0 _ 46 (0, 0) top3
      have f3 : w3.frozen? ⟨w.heap.size, 0, none⟩ = false := frozen_of_row w3 _ 0 _ 46 top3
      have ca : ∀ o : Obj, (wr.drew.alloc o).cell? ⟨w.heap.size, 0, none⟩ = some vL := fun o => cell_alloc c1 o
      have cb : ∀ o o' : Obj, ((wr.drew.alloc o).alloc o').cell? ⟨w.heap.size, 0, none⟩ = some vL := fun o o' => cell_alloc (ca o) o'
      have Hm1 := Lib.hid hm1
      have Ho2 := Lib.hid ho2
      have Hca := Lib.hid ca
      have Hcb := Lib.hid cb
      have eS : (wr.drew.alloc (.cells (cellsB blank).toArray 5)).heap.size = wr.heap.size + 1 := by simp
      rw [eS] at run3
      have run3' : (Builtin.append_ #[43, 43] 43 #[vL, .slice (some ⟨wr.heap.size + 1, 0, none⟩) 1 1]).run Try.prog (((wr.alloc (.cells (cellsB blank).toArray 5)).alloc (.cells #[.slice (some ⟨wr.heap.size, 0, none⟩) 256 256] 51)).drew) = .ok v' w3 := run3
      have Hrun := Lib.hid run3'
      obtain ⟨A3, n3, c3', rfl⟩ : ∃ A n c, v' = .slice A n c := by obtain ⟨A, c, e⟩ := own3.form; exact ⟨A, _, c, e⟩
      clear hm1 hm2 ho2 hu own3 g3 ob3 hrr hb1 hll hd0 hd ho hnew run3 run3' eS top3 ca cb
      go_wp2_with fail
      refine wp_region_late (S := fun w' => w'.cell? ⟨w.heap.size, 0, none⟩ = some vL) [8, 9, 10] (by kernel_rfl) c1 (fun hHeld => ?_)
      refine' anyU_take0 (i := 0) (oi := ⟨some 13, .move (.tmp 3), _, _, _, none⟩) (v := _) rfl (by kernel_rfl) (fun _ _ _ h => h) (Or.inl ⟨by rfl, ?hy0⟩) (by assumption) ?rest0
      case hy0 => (intro w hSw; go_simp <;> with_reducible rfl)
      case rest0 =>
      go_frame
      refine' anyU_take0 (i := 1) (oi := ⟨some 14, .move (.tmp 3), _, _, _, none⟩) (v := _) rfl (by kernel_rfl) (fun _ _ _ h => h) (Or.inl ⟨by rfl, ?hy1⟩) (by assumption) ?rest1
      case hy1 => (intro w hSw; go_simp <;> with_reducible rfl)
      case rest1 =>
      go_frame
      refine' anyU_take0 (i := 2) (oi := ⟨some 15, .nilCheck (.tmp 14), _, _, _, none⟩) (v := _) rfl (by kernel_rfl) (fun _ _ _ h => h) (Or.inl ⟨by rfl, ?hy2⟩) (by assumption) ?rest2
      case hy2 => (intro w hSw; go_simp <;> with_reducible rfl)
      case rest2 =>
      go_frame
      refine' anyU_take0 (i := 3) (oi := ⟨some 16, .fieldAddr 46 (.tmp 15) 0, _, _, _, none⟩) (v := _) rfl (by kernel_rfl) (fun _ _ _ h => h) (Or.inl ⟨by rfl, ?hy3⟩) (by assumption) ?rest3
      case hy3 => (intro w hSw; go_simp <;> with_reducible rfl)
      case rest3 =>
      go_frame
      refine' anyU_take (i := 4) (oi := ⟨some 17, .load 43 (.tmp 16), _, _, _, none⟩) (v := _) rfl (by kernel_rfl) (fun _ _ _ h => h) (Or.inl ⟨by rfl, ?hy4⟩) (by assumption) ?rest4
      case hy4 => (intro w hSw; obtain s1 := hSw; go_simp <;> with_reducible rfl)
      case rest4 =>
      go_frame
      refine anyU_ready (rs := [5]) (by kernel_rfl) (by simp) (AllU.cons (o := ⟨some 18, .makeSlice 51 (.const (.int .i64 256)) (.const (.int .i64 256)), _, _, _, none⟩) rfl (fun K hK => ?_) (fun h => absurd h (by decide)) AllU.nil)
      rw [if_pos (by rfl)]
      with_reducible refine wp_run (.slice (some ⟨wr.drew.heap.size, 0, none⟩) 256 256) (wr.drew.alloc (.cells (cellsB blank).toArray 5)) ?_ ?_
      · exact exec_makeSlice (t := 51) (x := .const (.int .i64 256)) (y := .const (.int .i64 256)) rfl (u := .int .i64 256) rfl (v := .int .i64 256) rfl (Hmk.out _)
      refine hK.out _ _ (fun _ => Hca.out _) ?_
      clear hK K
      go_frame
      refine anyU_ready (rs := [6]) (by kernel_rfl) (by simp) (AllU.cons (o := ⟨some 19, .buildSlice 43 1 #[(0, .tmp 18)], _, _, _, none⟩) rfl (fun K hK => ?_) (fun h => absurd h (by decide)) AllU.nil)
      rw [if_pos (by rfl)]
      go_simp
      refine hK.out _ _ (fun _ => Hcb.out _ _) ?_
      clear hK K
      try go_frame
      refine anyU_ready (rs := [7]) (by kernel_rfl) (by simp) (AllU.cons (o := ⟨some 20, .call { callee := .builtin .append, args := #[.tmp 17, .tmp 19], argTypes := #[43, 43] }, _, _, _, none⟩) rfl (fun K hK => ?_) (fun h => absurd h (by decide)) AllU.nil)
      rw [if_pos (by rfl)]
      with_reducible refine wp_run (.slice A3 n3 c3') w3 ?_ ?_
      · exact exec_append (t := 43) (x := .tmp 17) (y := .tmp 19) rfl (u := vL) rfl (v := .slice (some ⟨wr.heap.size + 1, 0, none⟩) 1 1) rfl Hrun.out
      refine hK.out _ _ (fun _ => c3) ?_
      clear hK K
      go_frame
      refine anyU_ready (rs := [8]) (by kernel_rfl) (by simp) (AllU.cons (o := ⟨some 21, .nilCheck (.tmp 13), _, _, _, none⟩) rfl (fun K hK => ?_) (fun _ => by kernel_rfl) AllU.nil)
      rw [if_pos (by rfl)]
      go_simp
      refine hK.out _ _ (fun h => absurd h (by decide)) ?_
      clear hK K
      try go_frame
      refine anyU_ready (rs := [9]) (by kernel_rfl) (by simp) (AllU.cons (o := ⟨some 22, .fieldAddr 46 (.tmp 21) 0, _, _, _, none⟩) rfl (fun K hK => ?_) (fun _ => by kernel_rfl) AllU.nil)
      rw [if_pos (by rfl)]
      go_simp
      refine hK.out _ _ (fun h => absurd h (by decide)) ?_
      clear hK K
      try go_frame
      refine anyU_ready (rs := [10]) (by kernel_rfl) (by simp) (AllU.cons (o := ⟨none, .store 43 (.tmp 22) (.tmp 20), _, _, _, none⟩) rfl (fun K hK => ?_) (fun _ => by kernel_rfl) AllU.nil)
      rw [if_pos (by rfl)]
      go_simp
      refine hK.out _ _ (fun h => absurd h (by decide)) ?_
      clear hK K
      try go_frame
      refine anyU_done (by kernel_rfl) ?_ _
      go_wp2_with fail
      go_roundw
      case rel => exact ⟨k + 1, _, _, by omega, by go_num, Hm1.out, Ho2.out⟩
      case measure => simp [intOf]; omega
    · have hkm2 : k = n := by omega
      subst hkm2
      have Hd := Lib.hid (hd.mono (fun k _ hk => hG k hk) (fun k _ hk => hZ k hk))
      have Ho := Lib.hid (HB.out _ ho)
      clear hd ho
      go_wp2_with fail
      go_ret
      exact ⟨_, _, rfl, Hd.out, Ho.out⟩
end
/-- The two devices are alike. -/
structure Like (d : Dev) (x : Ref) : Prop where
  L : d.L = x.L
  Q : ∀ i, i < d.L.length → d.Q i = vers x.W i
  f : ∀ k, 1 ≤ k → k ≤ 3 → x.f k = if (d.f k).1 = true then ((d.f k).2 : Int) else -1
  n : d.n = x.n
section
variable {d : Dev} {x : Ref}
theorem Like.burns (h : Like d x) {k : Nat} (h1 : 1 ≤ k) (h3 : k ≤ 3) : d.burns k = x.burns k := by
  unfold Dev.burns Ref.burns
  rw [h.f k h1 h3]
  rcases (d.f k) with ⟨b, m⟩
  cases b
  · simp
  · rcases m with _ | m
    · simp
    · have : ((m : Int) + 1 == 0) = false := by rw [beq_eq_false_iff_ne]; omega
      simp [this]
theorem Like.burn (h : Like d x) (k : Nat) (h1 : 1 ≤ k) (h3 : k ≤ 3) : Like (d.burn k) (x.burn k) := by
  refine ⟨h.L, h.Q, fun j j1 j3 => ?_, h.n⟩
  show (if j = k ∧ x.f k ≠ -1 then x.f k - 1 else x.f j) = _
  have hk := h.f k h1 h3
  have hj := h.f j j1 j3
  unfold Dev.burn
  by_cases e : j = k
  · subst e
    rcases hd : d.f j with ⟨b, m⟩
    rw [hd] at hk
    cases b
    · simp at hk
      simp [hk, hd]
    · simp at hk
      rcases m with _ | m
      · simp at hk
        simp [hk]
      · have e1 : x.f j ≠ -1 := by omega
        simp [e1]
        omega
  · simp [e]
    exact hj
theorem Like.now (h : Like d x) {i : Nat} (hi : i < d.L.length) : d.now i = x.now i := by
  unfold Dev.now Ref.now
  rw [h.Q i hi, h.L]
theorem Like.put (h : Like d x) (i : Nat) (l : List UInt8) : Like (d.put i l) (x.put i l) := by
  refine ⟨h.L, fun j hj => ?_, h.f, by simp [Dev.put, Ref.put, h.n]⟩
  show (if j = i then d.Q i ++ [l] else d.Q j) = vers (x.W ++ [(i, l)]) j
  rw [vers_append, vers_one]
  have hq := h.Q j hj
  by_cases e : j = i
  · subst e
    rw [if_pos rfl, if_pos rfl, hq]
  · rw [if_neg e, if_neg (fun h => e h.symm), List.append_nil, hq]
theorem Like.told (h : Like d x) (k a : Nat) : Like (d.told k a) (x.told k a) := by
  refine ⟨h.L, h.Q, fun j j1 j3 => ?_, h.n⟩
  show (if j = k then (a : Int) else x.f j) = _
  unfold Dev.told
  by_cases e : j = k
  · simp [e]
  · simp [e]
    exact h.f j j1 j3
theorem Like.waits (h : Like d x) : d.waits = x.waits := by
  unfold Dev.waits Ref.waits waitsUp
  rw [← h.L]
  refine List.filter_congr fun i hi => ?_
  rw [h.Q i (by simpa using hi)]
theorem laid_get (L : List (List UInt8)) (i : Nat) (hi : i < L.length) : ∀ W : List (Nat × List UInt8), (laid L W).getD i [] = (vers W i).getLast?.getD (L.getD i []) := by
  intro W
  induction W generalizing L with
  | nil => rfl
  | cons y W ih =>
    have e : laid L (y :: W) = laid (L.set y.1 y.2) W := rfl
    rw [e, ih _ (by simpa using hi)]
    have hv : vers (y :: W) i = (if y.1 = i then [y.2] else []) ++ vers W i := by
      rw [show y :: W = [y] ++ W from rfl, vers_append, vers_one]
    rw [hv]
    by_cases h : y.1 = i
    · rw [if_pos h]
      subst h
      rcases hW : vers W y.1 with _ | ⟨a, l⟩
      · simp [List.getD_eq_getElem?_getD, hi]
      · simp [List.getLast?_cons]
    · rw [if_neg h, List.nil_append]
      congr 1
      simp [List.getD_eq_getElem?_getD, List.getElem?_set_ne h]
theorem Like.flush (h : Like d x) : Like d.flush x.flush := by
  refine ⟨?_, fun i _ => rfl, h.f, h.n⟩
  show (List.range d.L.length).map d.now = laid x.L x.W
  refine List.ext_getElem (by rw [List.length_map, List.length_range, laid_length, h.L]) fun i h1 h2 => ?_
  have hi : i < d.L.length := by simpa using h1
  rw [List.getElem_map, List.getElem_range, h.now hi]
  have := laid_get x.L i (by rw [← h.L]; exact hi) x.W
  rw [List.getD_eq_getElem?_getD, List.getElem?_eq_getElem h2, Option.getD_some] at this
  rw [this]
  rfl
theorem Like.new (n : Nat) : Like (Dev.new n) (Ref.new n) := ⟨rfl, fun _ _ => rfl, fun _ _ _ => rfl, rfl⟩
end
section
variable {w w' : World} {G G' Z Z' : Nat → Prop} {q : Nat} {vL vA vB : Value} {ls bs : List Value} {x : Ref}
set_option maxRecDepth 100000 in
theorem rwrite_arg {i : Int} {A : Option Addr} {n c : Nat} (h : RefIs w G Z q vL vA vB ls bs x) (hi : i < 0 ∨ (x.L.length : Int) ≤ i) : Calls Try.prog 57 #[at0 q, .int .i64 i, .slice A n c] w fun e w' => e = .returned (.int .i64 1) ∧ w = w' := by
  have hh := Lib.hid (rhas_out h hi)
  clear h hi
  go_enter Try.func57, Try.ntmps57
  go_wp2_with (first | (go_at_call 68; refine hh.out.mono ?_; rintro e w' ⟨rfl, rfl⟩))
  go_ret
  exact ⟨rfl, rfl⟩
set_option maxRecDepth 100000 in
theorem rwrite_io {i : Nat} {A : Option Addr} {c : Nat} (h : RefIs w G Z q vL vA vB ls bs x) (hi : i < x.L.length) (hb : x.burns 2 = true) : Calls Try.prog 57 #[at0 q, .int .i64 (i : Int), .slice A 256 c] w fun e w' => e = .returned (.int .i64 3) ∧ RefIs w' G Z q vL vA vB ls bs (x.burn 2) ∧ Only G w w' := by
  have hh := Lib.hid (rhas_in h hi)
  have hf := burns_any h (k := 2) (by omega)
  rw [hb] at hf
  have Hf := Lib.hid hf
  clear h hi hb hf
  go_enter Try.func57, Try.ntmps57
  go_wp2_with (first
    | (go_at_call 68; refine hh.out.mono ?_; rintro e w' ⟨rfl, rfl⟩)
    | (go_at_call 69; refine Hf.out.mono ?_; rintro e w1 ⟨rfl, hd, ho⟩))
  go_ret
  exact ⟨rfl, hd, ho⟩
end
end Go.Proofs.Ytfjcblppmoomdaa
