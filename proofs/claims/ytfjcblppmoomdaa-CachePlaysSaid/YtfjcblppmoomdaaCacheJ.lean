/-
  Sync of a cache, and New: contracts.
-/
import Derived.Test.YtfjcblppmoomdaaCacheI
namespace Go.Proofs.Ytfjcblppmoomdaa
open Go.RowKit
/-- These sectors' frames, brought to the device, as far as that goes. -/
def syncGo : List Int → Cch → Dev → Int × Cch × Dev
  | [], x, d => (0, x, d)
  | no :: r, x, d =>
    if (x.write d ((x.holder no).getD 0)).1 = 0 then syncGo r (x.write d ((x.holder no).getD 0)).2.1 (x.write d ((x.holder no).getD 0)).2.2
    else x.write d ((x.holder no).getD 0)
/-- The dirty sectors, rising. -/
def Cch.soiled (x : Cch) : List Int := upward (x.those fun f => f.dirty)
/-- Sync: what is told, the cache and the device then. -/
def Cch.sync (x : Cch) (d : Dev) : Int × Cch × Dev :=
  if (syncGo x.soiled x d).1 = 0 then
    (if (syncGo x.soiled x d).2.2.burns 3 = true then (3, (syncGo x.soiled x d).2.1, (syncGo x.soiled x d).2.2.burn 3)
    else (0, (syncGo x.soiled x d).2.1, ((syncGo x.soiled x d).2.2.burn 3).flush))
  else syncGo x.soiled x d
theorem holder_find {x y : Cch} (h : y.L.map (fun f => (f.full, f.no)) = x.L.map (fun f => (f.full, f.no))) (no : Int) : y.holder no = x.holder no := by
  have e : ∀ z : Cch, z.holder no = (z.L.map (fun f => (f.full, f.no))).findIdx? (fun q => q.1 && q.2 == no) := fun z => by
    unfold Cch.holder
    rw [List.findIdx?_map]
    rfl
  rw [e, e, h]
theorem map_set_same {α β : Type} {g : α → β} {L : List α} {i : Nat} {a : α} (h : ∀ hi : i < L.length, g a = g L[i]) : (L.set i a).map g = L.map g := by
  by_cases hi : i < L.length
  · apply List.ext_getElem
    · simp
    · intro j h1 h2
      rw [List.getElem_map, List.getElem_map, List.getElem_set]
      split
      · rename_i e; subst e; exact h hi
      · rfl
  · rw [List.set_eq_of_length_le (by omega)]
theorem write_keys (x : Cch) (d : Dev) (i : Nat) : (x.write d i).2.1.L.map (fun f => (f.full, f.no)) = x.L.map (fun f => (f.full, f.no)) := by
  unfold Cch.write
  split
  · rfl
  · exact map_set_same fun hi => by rw [getD_at hi]
theorem keys_within {x y : Cch} (h : y.L.map (fun f => (f.full, f.no)) = x.L.map (fun f => (f.full, f.no))) {n : Nat} (hx : x.Within n) : y.Within n := by
  have hl : y.L.length = x.L.length := by simpa using congrArg List.length h
  intro i hi
  have h1 : (y.L.map (fun f => (f.full, f.no)))[i]? = (x.L.map (fun f => (f.full, f.no)))[i]? := by rw [h]
  rw [List.getElem?_map, List.getElem?_map, List.getElem?_eq_getElem hi, List.getElem?_eq_getElem (show i < x.L.length by omega)] at h1
  have h2 := hx i (by omega)
  rw [getD_at hi]
  rw [getD_at (show i < x.L.length by omega)] at h2
  simp only [Option.map_some, Option.some.injEq, Prod.mk.injEq] at h1
  rw [h1.1, h1.2]
  exact h2
theorem write_hand (x : Cch) (d : Dev) (i : Nat) : (x.write d i).2.1.hand = x.hand := by
  unfold Cch.write
  split <;> rfl
section
variable {w w' : World} {G G' : Nat → Prop} {c bf p : Nat} {x y : Cch} {d d' : Dev}
theorem CD.farV (h : CD w G c bf p x d) (hb : Below w.heap.size w w') {v : Value} (hv : ∀ g, v.ownBlock = some g → w.heap.size ≤ g) : CD w' (fun k => G k ∧ ¬ v.ownBlock = some k) c bf p x d := by
  have := h.mono (G' := fun k => G k ∧ ¬ v.ownBlock = some k) (fun k hk hgk => ⟨hgk, fun e => by have := hv k e; omega⟩) (fun e => h.nc.1 e.1) (fun e => h.nc.2 e.1)
  exact this.below hb
theorem CD.back {X : Nat → Prop} (h : CD w (fun k => G k ∧ X k) c bf p x d) (h1 : ¬ G c) (h2 : ¬ G bf) : CD w G c bf p x d := h.mono (fun _ _ hk => hk.1) h1 h2
theorem Only.back {X : Nat → Prop} (h : Only (Foot (fun k => G k ∧ X k) c bf) w w') : Only (Foot G c bf) w w' := h.mono fun _ _ hk => hk.elim (fun e => .inl e.1) .inr
set_option maxRecDepth 100000 in
theorem sync_nil (w : World) : Calls Try.prog 24 #[.pointer none] w fun e w' => e = .returned (.int .i64 1) ∧ w = w' := by
  go_enter Try.func24, Try.ntmps24
  go_wp2_with fail
  go_ret
  exact ⟨rfl, rfl⟩
/-- A row of numbers of the call's own, opened. -/
theorem Mine.ints {base : Nat} {v : Value} {l : List Int} (h : Mine w base 3 v (cellsE l)) : ∃ A cc, v = .slice A l.length cc ∧ l.length ≤ cc ∧ cc ≤ 9223372036854775807 ∧ ∀ k (hk : k < l.length), ∃ g, A = some ⟨g, 0, none⟩ ∧ v.ownBlock = some g ∧ g < w.heap.size ∧ w.cell? ⟨g, k, none⟩ = some (.int .i64 l[k]) := by
  have hown : w.ownsRow base 3 1 v (cellsE l).length (cellsE l) := h
  rw [cellsE_length] at hown
  rcases hown.2 with ⟨rfl, hz⟩ | ⟨gb, cap, cur, rfl, hbase, hgb, r1, r2, r3, r4⟩
  · exact ⟨none, 0, by rw [hz], by omega, by omega, fun k hk => by omega⟩
  · refine ⟨_, cap, rfl, r1, by unfold maxLen at r2; omega, fun k hk => ⟨gb, rfl, rfl, (Array.getElem?_eq_some_iff.1 hgb).1, ?_⟩⟩
    have := h.cellAt (g := gb) (j := k) (u := .int .i64 l[k]) (by unfold cellsE; rw [List.getElem?_map, List.getElem?_eq_getElem hk]; rfl)
    exact this
theorem mem_mergeSort' {l : List Int} {a : Int} : a ∈ upward l ↔ a ∈ l := by unfold upward; exact List.mem_mergeSort
/-- Each dirty sector is held, if each dirty frame holds one. -/
theorem soiled_held (x : Cch) (hz : ∀ f ∈ x.L, f.dirty = true → f.full = true) : ∀ no ∈ x.soiled, ∃ i, x.holder no = some i := by
  intro no h
  unfold Cch.soiled at h
  rw [mem_mergeSort'] at h
  unfold Cch.those upThose at h
  rw [List.mem_map] at h
  obtain ⟨f, hf, rfl⟩ := h
  rw [List.mem_filter] at hf
  have hf1 := List.mem_of_mem_take hf.1
  rcases hh : x.holder f.no with _ | i
  · unfold Cch.holder at hh
    rw [List.findIdx?_eq_none_iff] at hh
    have := hh f hf1
    simp [hz f hf1 hf.2] at this
  · exact ⟨i, rfl⟩
theorem soiled_len (x : Cch) : x.soiled.length ≤ x.L.length := by
  unfold Cch.soiled
  rw [upward_length]
  exact upThose_le _ _ _
set_option maxRecDepth 100000 in
set_option maxHeartbeats 1600000 in
theorem sync_any (h : CD w G c bf p x d) (hr : x.Within d.L.length) (hz : ∀ f ∈ x.L, f.dirty = true → f.full = true) (hn : d.n < 999900) (hG : ∀ k, w.heap.size ≤ k → G k) :
    Calls Try.prog 24 #[at0 c] w fun e w' => e = .returned (.int .i64 (x.sync d).1) ∧ CD w' G c bf p (x.sync d).2.1 (x.sync d).2.2 ∧ Only (Foot G c bf) w w' := by
  have hD := Dirty_any h.cache
  have hheld := soiled_held x hz
  have hlen := soiled_len x
  have hsz := h.cache.size
  have hsync : x.sync d = if (syncGo x.soiled x d).1 = 0 then
    (if (syncGo x.soiled x d).2.2.burns 3 = true then (3, (syncGo x.soiled x d).2.1, (syncGo x.soiled x d).2.2.burn 3)
    else (0, (syncGo x.soiled x d).2.1, ((syncGo x.soiled x d).2.2.burn 3).flush))
    else syncGo x.soiled x d := rfl
  rw [hsync]
  have hso : upward (x.those fun f => f.dirty) = x.soiled := rfl
  rw [hso] at hD
  obtain ⟨l, hl⟩ : ∃ l, l = x.soiled := ⟨_, rfl⟩
  rw [← hl] at hD hheld hlen ⊢
  obtain ⟨R, hR⟩ : ∃ R, R = syncGo l x d := ⟨_, rfl⟩
  rw [← hR]
  obtain ⟨Q, hQ⟩ : ∃ Q, Q = if R.1 = 0 then (if R.2.2.burns 3 = true then (3, R.2.1, R.2.2.burn 3) else (0, R.2.1, (R.2.2.burn 3).flush)) else R := ⟨_, rfl⟩
  rw [← hQ]
  have HQ3 : Hid (R.1 = 3 → Q = R) := Lib.hid fun e => by rw [hQ, if_neg (by rw [e]; decide)]
  have HQ0 : Hid (R.1 = 0 → Q = (if R.2.2.burns 3 = true then 3 else 0, R.2.1, if R.2.2.burns 3 = true then R.2.2.burn 3 else (R.2.2.burn 3).flush)) := Lib.hid fun e => by
    rw [hQ, if_pos e]
    split <;> rfl
  clear hQ
  have nc := h.nc
  obtain ⟨n, hnn⟩ : ∃ n, n = l.length := ⟨_, rfl⟩
  rw [← hnn] at hlen
  have Hnn := Lib.hid hnn
  -- what stands at each round
  have H0 : Hid (∀ (v : Value) (w' : World), (∀ g, v.ownBlock = some g → w.heap.size ≤ g) → Below w.heap.size w w' → ∃ y dy, syncGo (l.drop 0) y dy = R ∧ (∀ no ∈ l, ∃ i, y.holder no = some i) ∧ y.Within dy.L.length ∧ dy.n ≤ d.n + 0 ∧ CD w' (fun k => G k ∧ ¬ v.ownBlock = some k) c bf p y dy ∧ Only (Foot G c bf) w w') := Lib.hid fun v w' hv hb =>
    ⟨x, d, by rw [List.drop_zero, hR], hheld, hr, Nat.le_refl _, h.farV hb hv, Only.of_below hb⟩
  have HD : Hid (Calls Try.prog 17 #[at0 c] w fun e w' => ∃ v A cc, e = .returned v ∧ v = .slice A n cc ∧ n ≤ cc ∧ cc ≤ 9223372036854775807 ∧ (∀ g, v.ownBlock = some g → w.heap.size ≤ g) ∧ (∀ k (hk : k < l.length), ∃ g, A = some ⟨g, 0, none⟩ ∧ v.ownBlock = some g ∧ g < w'.heap.size ∧ w'.cell? ⟨g, k, none⟩ = some (.int .i64 l[k])) ∧ Below w.heap.size w w') := Lib.hid (by
    refine hD.mono ?_
    rintro e w' ⟨v, rfl, hown, hb⟩
    obtain ⟨A, cc, hv, h1, h2, h3⟩ := hown.ints
    rw [← hnn] at hv h1
    exact ⟨v, A, cc, rfl, hv, h1, h2, fun g hg => (hown.block g hg).1, h3, hb⟩)
  have HW : Hid (∀ (wr : World) (v : Value) (y : Cch) (dy : Dev) (k : Nat) (hk : k < l.length), (∀ no ∈ l, ∃ i, y.holder no = some i) → y.Within dy.L.length → dy.n ≤ d.n + k → syncGo (l.drop k) y dy = R → CD wr (fun k => G k ∧ ¬ v.ownBlock = some k) c bf p y dy → Only (Foot G c bf) w wr → (∀ g, v.ownBlock = some g → w.heap.size ≤ g ∧ g < wr.heap.size) →
      ∃ i, Calls Try.prog 45 #[at0 c, .int .i64 l[k]] wr (fun e w' => e = .returned (frAt bf (i * 261)) ∧ wr = w') ∧
        Calls Try.prog 48 #[at0 c, frAt bf (i * 261)] wr (fun e w' => ∃ t, e = .returned (.int .i64 t) ∧ (∀ g j, v.ownBlock = some g → w'.cell? ⟨g, j, none⟩ = wr.cell? ⟨g, j, none⟩) ∧ wr.heap.size ≤ w'.heap.size ∧ w'.cell? ⟨c, 2, none⟩ = some (at0 p) ∧ ((t = 3 ∧ R.1 = 3 ∧ CD w' G c bf p R.2.1 R.2.2 ∧ Only (Foot G c bf) w w') ∨ (t = 0 ∧ ∃ y dy, syncGo (l.drop (k + 1)) y dy = R ∧ (∀ no ∈ l, ∃ i, y.holder no = some i) ∧ y.Within dy.L.length ∧ dy.n ≤ d.n + (k + 1) ∧ CD w' (fun k => G k ∧ ¬ v.ownBlock = some k) c bf p y dy ∧ Only (Foot G c bf) w w')))) := Lib.hid fun wr v y dy k hk hhold hin hdn hgo hcd ho hv => by
    obtain ⟨i, hi⟩ := hhold l[k] (List.getElem_mem hk)
    obtain ⟨hil, hfull, hno⟩ := holder_lt hi
    have hE := holder_any hcd.cache l[k]
    rw [hi] at hE
    refine ⟨i, hE, ?_⟩
    have hGv : ∀ k, wr.heap.size ≤ k → G k ∧ ¬ v.ownBlock = some k := fun k hk2 => ⟨hG k (Nat.le_trans ho.size hk2), fun e => by have := (hv k e).2; omega⟩
    have hw2 := cwrite_any hcd hil (hin i hil hfull) (by omega) hGv
    refine hw2.mono ?_
    rintro e w' ⟨rfl, h1, ho1⟩
    refine ⟨_, rfl, fun g j hg => World.cell?_of_block (ho1.block g (hv g hg).2 ?_), ho1.size, h1.k2, ?_⟩
    · rintro (⟨_, e2⟩ | e2 | e2)
      · exact e2 hg
      · have := (hv g hg).1; have := h.lt.1; omega
      · have := (hv g hg).1; have := h.lt.2; omega
    · rw [List.drop_eq_getElem_cons hk, syncGo, hi, Option.getD_some] at hgo
      have hkeys := write_keys y dy i
      have hdev := write_dev y dy i
      rcases write_told y dy i with e0 | e0
      · rw [if_pos e0] at hgo
        refine .inr ⟨e0, _, _, hgo, fun no hno2 => ?_, ?_, by omega, h1, ho.trans ho1.back⟩
        · rw [holder_find hkeys]; exact hhold no hno2
        · rw [hdev.1]; exact keys_within hkeys hin
      · rw [if_neg (by rw [e0]; decide)] at hgo
        rw [← hgo]
        exact .inl ⟨e0, e0, h1.back nc.1 nc.2, ho.trans ho1.back⟩
  have HF : Hid (∀ (wr : World) (v : Value) (y : Cch) (dy : Dev), dy.n ≤ d.n + n → syncGo (l.drop n) y dy = R → CD wr (fun k => G k ∧ ¬ v.ownBlock = some k) c bf p y dy → Only (Foot G c bf) w wr →
      R.1 = 0 ∧ Calls Try.prog 49 #[at0 p] wr (fun e w' => e = .returned (.int .i64 (if R.2.2.burns 3 = true then 3 else 0)) ∧ CD w' G c bf p R.2.1 (if R.2.2.burns 3 = true then R.2.2.burn 3 else (R.2.2.burn 3).flush) ∧ Only (Foot G c bf) w w')) := Lib.hid fun wr v y dy hdn hgo hcd ho => by
    rw [hnn, List.drop_length] at hgo
    have hgo2 : (0, y, dy) = R := hgo
    rw [← hgo2]
    have h2 := hcd.back nc.1 nc.2
    refine ⟨rfl, ?_⟩
    obtain ⟨bl, bm, S, D, hd⟩ := h2.dev
    show Calls _ _ _ _ (fun e w' => e = .returned (.int .i64 (if dy.burns 3 = true then 3 else 0)) ∧ CD w' G c bf p y (if dy.burns 3 = true then dy.burn 3 else (dy.burn 3).flush) ∧ Only (Foot G c bf) w w')
    rcases hb : dy.burns 3 with _ | _
    · rw [if_neg (by simp), if_neg (by simp)]
      refine (flush_ok hd hb (by omega) (fun k hk => hG k (Nat.le_trans ho.size hk))).mono ?_
      rintro e w' ⟨S', D', rfl, hd', ho'⟩
      exact ⟨rfl, h2.moved hd' ho', ho.trans ho'.device⟩
    · rw [if_pos rfl, if_pos rfl]
      refine (flush_io hd hb).mono ?_
      rintro e w' ⟨rfl, hd', ho'⟩
      exact ⟨rfl, h2.moved hd' ho', ho.trans ho'.device⟩
  have hlt := h.lt
  have hk2 := h.k2
  clear h hr hz hG hD hheld hsync hso hl hR hnn nc hsz hn
  go_enter Try.func24, Try.ntmps24
  go_wp2_with (first
    | (go_at_call 17; refine HD.out.mono ?_; rintro e w1 ⟨v, A, cc, rfl, rfl, hcc, hcm, hv, hcells, hb⟩))
  have HY := Lib.hid (H0.out _ w1 hv hb)
  have Hv := Lib.hid hv
  have Hcells := Lib.hid hcells
  have Hb := Lib.hid hb
  clear hv hcells hb H0 HD
  go_loopw [11] (fun iv wr => ∃ (k : Nat), k ≤ n ∧ iv = .int .i64 (k : Int) ∧ Hid (∃ y dy, syncGo (l.drop k) y dy = R ∧ (∀ no ∈ l, ∃ i, y.holder no = some i) ∧ y.Within dy.L.length ∧ dy.n ≤ d.n + k ∧ CD wr (fun k => G k ∧ ¬ (Value.slice A n cc).ownBlock = some k) c bf p y dy ∧ Only (Foot G c bf) w wr) ∧ Hid (∀ g j, (Value.slice A n cc).ownBlock = some g → wr.cell? ⟨g, j, none⟩ = w1.cell? ⟨g, j, none⟩) ∧ Hid (w1.heap.size ≤ wr.heap.size)) (fun iv _ => n - (intOf iv).toNat)
  case atStart => exact ⟨0, by omega, rfl, HY, Lib.hid fun _ _ _ => rfl, Lib.hid (Nat.le_refl _)⟩
  case round =>
    obtain ⟨k, hkn, rfl, HYk, Hsame, Hsz⟩ := hrel
    obtain ⟨y, dy, y1, y2, y3, y4, y5, y6⟩ := HYk.out
    clear HYk
    by_cases hk : k < n
    · have hk' : k < l.length := Hnn.out ▸ hk
      obtain ⟨g, rfl, g1, g2, g3⟩ := Hcells.out k hk'
      have g4 : wr.cell? ⟨g, k, none⟩ = some (.int .i64 l[k]) := (Hsame.out g k g1).trans g3
      obtain ⟨i, hE, hW⟩ := HW.out wr _ y dy k hk' y2 y3 y4 y1 y5 y6 (fun g' hg' => ⟨Hv.out g' hg', by have e : g = g' := (by rw [g1] at hg'; injection hg'); have := Hsz.out; omega⟩)
      obtain ⟨no, hno⟩ : ∃ no, no = l[k] := ⟨_, rfl⟩
      rw [← hno] at hE g4
      have HE := Lib.hid hE
      have HWk := Lib.hid hW
      have t0 : decide ((k : Int) < (n : Int)) = true := by simp [hk]
      clear hE hW g1 g2 g3 hno y1 y2 y3 y4 y5 y6 hk'
      go_wp2_with (first
        | (go_at_call 45; refine HE.out.mono ?_; rintro e w2 ⟨rfl, rfl⟩)
        | (go_at_call 48; refine HWk.out.mono ?_; rintro e w2 ⟨t, rfl, z1, z2, z3, z4⟩; have Z1 := Lib.hid z1; have Z2 := Lib.hid z2; clear z1 z2; rcases z4 with ⟨rfl, z5, z6, z7⟩ | ⟨rfl, z8⟩))
      · go_ret
        have e := HQ3.out z5
        rw [e, z5]
        exact ⟨rfl, z6, z7⟩
      · go_roundw
        case rel => exact ⟨k + 1, by omega, by go_num, Lib.hid z8, Lib.hid fun g' j hg' => (Z1.out g' j hg').trans (Hsame.out g' j hg'), Lib.hid (Nat.le_trans Hsz.out Z2.out)⟩
        case measure => simp [intOf]; omega
    · have e : k = n := by omega
      subst e
      obtain ⟨r0, hFl⟩ := HF.out wr _ y dy y4 y1 y5 y6
      have k2' := y5.k2
      have e := HQ0.out r0
      obtain ⟨t, ht⟩ : ∃ t : Int, t = if R.2.2.burns 3 = true then 3 else 0 := ⟨_, rfl⟩
      obtain ⟨dz, hdz⟩ : ∃ dz, dz = if R.2.2.burns 3 = true then R.2.2.burn 3 else (R.2.2.burn 3).flush := ⟨_, rfl⟩
      rw [← ht, ← hdz] at hFl
      rw [← ht, ← hdz] at e
      have HFl := Lib.hid hFl
      have He := Lib.hid e
      have t0 : decide ((k : Int) < (k : Int)) = false := by simp
      clear hFl y1 y2 y3 y4 y5 y6 e ht hdz
      go_wp2_with (first
        | (go_at_call 49; refine HFl.out.mono ?_; rintro e w2 ⟨rfl, z1, z2⟩))
      go_ret
      rw [He.out]
      exact ⟨rfl, z1, z2⟩
end
end Go.Proofs.Ytfjcblppmoomdaa
