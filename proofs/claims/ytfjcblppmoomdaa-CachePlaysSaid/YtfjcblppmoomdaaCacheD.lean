/-
  A cache over its device, both in one memory: a frame written, room made, a sector read: contracts.
-/
import Derived.Test.YtfjcblppmoomdaaCacheC
import Derived.Test.YtfjcblppmoomdaaDevF
namespace Go.Proofs.Ytfjcblppmoomdaa
open Go.RowKit
/-- In w there is the cache x over the device d, the device in blocks of G. -/
structure CD (w : World) (G : Nat → Prop) (c bf p : Nat) (x : Cch) (d : Dev) : Prop where
  cache : CacheIs w c bf p x
  dev : ∃ bl bm S D, DevIs w G p bl bm S D d
  nc : ¬ G c ∧ ¬ G bf
/-- What may turn of both. -/
abbrev Foot (G : Nat → Prop) (c bf : Nat) : Nat → Prop := fun k => G k ∨ k = c ∨ k = bf
section
variable {w w' : World} {G G' : Nat → Prop} {c bf p : Nat} {x y : Cch} {d d' : Dev}
theorem CD.below (h : CD w G c bf p x d) (hb : Below w.heap.size w w') : CD w' G c bf p x d := by
  obtain ⟨bl, bm, S, D, hd⟩ := h.dev
  exact ⟨h.cache.below hb, ⟨bl, bm, S, D, hd.below hb⟩, h.nc⟩
theorem CD.drew (h : CD w G c bf p x d) : CD w.drew G c bf p x d := h.below (Below.refl _ w).drew
/-- The cache alone has turned. -/
theorem CD.turned (h : CD w G c bf p x d) (hc : CacheIs w' c bf p y) (ho : Only (fun k => k = c ∨ k = bf) w w') : CD w' G c bf p y d := by
  obtain ⟨bl, bm, S, D, hd⟩ := h.dev
  refine ⟨hc, ⟨bl, bm, S, D, hd.keep fun k hk hg => ho.block k hk fun e => ?_⟩, h.nc⟩
  rcases e with rfl | rfl
  · exact h.nc.1 hg
  · exact h.nc.2 hg
/-- The device alone has turned. -/
theorem CD.moved (h : CD w G c bf p x d) {bl bm : Nat} {S : Nat → Value} {D : DataW Value} (hd : DevIs w' G p bl bm S D d') (ho : Only G w w') : CD w' G c bf p x d' :=
  ⟨h.cache.only ho h.nc.1 h.nc.2, ⟨bl, bm, S, D, hd⟩, h.nc⟩
theorem Only.cache (h : Only (fun k => k = c ∨ k = bf) w w') : Only (Foot G c bf) w w' := h.mono fun _ _ hk => .inr hk
theorem Only.device (h : Only G w w') : Only (Foot G c bf) w w' := h.mono fun _ _ hk => .inl hk
theorem CD.k2 (h : CD w G c bf p x d) : w.cell? ⟨c, 2, none⟩ = some (at0 p) := h.cache.k2
theorem CD.lt (h : CD w G c bf p x d) : c < w.heap.size ∧ bf < w.heap.size := h.cache.lt
theorem getD_at {L : List Frm} {i : Nat} (hi : i < L.length) : L.getD i Frm.zero = L[i] := by rw [List.getD_eq_getElem?_getD, List.getElem?_eq_getElem hi, Option.getD_some]
/-- Frame i, brought to the device: what is told, the cache and the device then. -/
def Cch.write (x : Cch) (d : Dev) (i : Nat) : Int × Cch × Dev :=
  if d.burns 2 = true then (3, x, d.burn 2)
  else (0, { x with L := x.L.set i { x.L.getD i Frm.zero with dirty := false } }, (d.burn 2).put (x.L.getD i Frm.zero).no.toNat (x.L.getD i Frm.zero).b)
set_option maxRecDepth 100000 in
set_option maxHeartbeats 400000 in
theorem cwrite_any (h : CD w G c bf p x d) {i : Nat} (hi : i < x.L.length) (hno : 0 ≤ (x.L.getD i Frm.zero).no ∧ (x.L.getD i Frm.zero).no < d.L.length) (hn : d.n < 1000000) (hG : ∀ k, w.heap.size ≤ k → G k) :
    Calls Try.prog 48 #[at0 c, frPtr bf (some i)] w fun e w' => e = .returned (.int .i64 (x.write d i).1) ∧ CD w' G c bf p (x.write d i).2.1 (x.write d i).2.2 ∧ Only (Foot G c bf) w w' := by
  rw [show frPtr bf (some i) = frAt bf (i * 261) from rfl]
  have k2 := h.k2
  have q1 := h.cache.f1 hi
  have q2 := h.cache.bytes hi
  have q3 := h.cache.f258 hi
  have ff := h.cache.freeF (i * 261 + 258)
  have hw := h.cache.wide.at_ hi
  rw [getD_at hi] at hno
  obtain ⟨m, hm⟩ : ∃ m : Nat, x.L[i].no = m := ⟨x.L[i].no.toNat, by omega⟩
  rw [hm] at q1 hno
  obtain ⟨bl, bm, S, D, hd⟩ := h.dev
  have hlt := h.lt
  by_cases hb : d.burns 2 = true
  · have hW := write_io (i := m) (A := some ⟨bf, i * 261 + 2, none⟩) (c := 256) (w := w.drew) (hd.below (Below.refl _ w).drew) (by omega) hb
    have e : x.write d i = (3, x, d.burn 2) := if_pos hb
    rw [e]
    have HW := Lib.hid hW
    have H := Lib.hid h
    clear hW h q2 hb e hd hw q3 hi hm hno
    go_enter Try.func48, Try.ntmps48
    go_wp2_with fail
    go_still_tail 12, (by kernel_rfl)
    change wpList _ _ _ _ _ w.drew
    go_wp2_with (go_at_call 65; refine HW.out.mono ?_; rintro e w1 ⟨rfl, hd1, ho1⟩)
    go_ret
    exact ⟨rfl, H.out.drew.moved hd1 ho1, ((Only.drew _ _).trans ho1).device⟩
  · have hW := write_ok (i := m) (bb := bf) (bo := i * 261 + 2) (c := 256) (w := w.drew) (hd.below (Below.refl _ w).drew) (by omega) (by simpa using hb) hn hw q2 hlt.2 h.nc.2 hG
    have e : x.write d i = (0, { x with L := x.L.set i { x.L[i] with dirty := false } }, (d.burn 2).put m x.L[i].b) := by
      rw [Cch.write, if_neg hb, getD_at hi, hm, Int.toNat_natCast]
    rw [e]
    have HW := Lib.hid hW
    have H := Lib.hid h
    have Hdone : Hid (∀ w1 bl bm S D, DevIs w1 G p bl bm S D ((d.burn 2).put m x.L[i].b) → Only G w w1 → w1.cell? ⟨bf, i * 261 + 258, none⟩ = some (.bool x.L[i].dirty) ∧ w1.frozen? ⟨bf, i * 261 + 258, none⟩ = false ∧
        CD (w1.setCell ⟨bf, i * 261 + 258, none⟩ (.bool false)) G c bf p { x with L := x.L.set i { x.L[i] with dirty := false } } ((d.burn 2).put m x.L[i].b) ∧ Only (Foot G c bf) w (w1.setCell ⟨bf, i * 261 + 258, none⟩ (.bool false))) := Lib.hid fun w1 bl bm S D hd1 ho1 => by
      have h1 := h.moved hd1 ho1
      have ho2 : Only (fun k => k = c ∨ k = bf) w1 (w1.setCell ⟨bf, i * 261 + 258, none⟩ (.bool false)) := Only.setCell (p := ⟨bf, i * 261 + 258, none⟩) (.inr rfl) _
      exact ⟨h1.cache.f258 hi, h1.cache.freeF _, h1.turned (h1.cache.set hi (by omega) (frCells_set258 hw false) hw) ho2, ho1.device.trans ho2.cache⟩
    obtain ⟨x2, hx2⟩ : ∃ x2 : Cch, x2 = { x with L := x.L.set i { x.L[i] with dirty := false } } := ⟨_, rfl⟩
    obtain ⟨d2, hd2⟩ : ∃ d2, d2 = (d.burn 2).put m x.L[i].b := ⟨_, rfl⟩
    rw [← hx2, ← hd2] at Hdone
    rw [← hd2] at HW
    rw [← hx2, ← hd2]
    obtain ⟨db, hdb⟩ : ∃ db, db = x.L[i].dirty := ⟨_, rfl⟩
    rw [← hdb] at Hdone q3
    clear hW h q2 hb e hd hw hm hno H hdb hx2 hd2 q3 ff hi
    go_enter Try.func48, Try.ntmps48
    go_wp2_with fail
    go_still_tail 12, (by kernel_rfl)
    change wpList _ _ _ _ _ w.drew
    go_wp2_with (go_at_call 65; refine HW.out.mono ?_; rintro e w1 ⟨S1, D1, rfl, hd1, ho1⟩; obtain ⟨g1, g2, g3, g4⟩ := Hdone.out _ _ _ _ _ hd1 ((Only.drew _ _).trans ho1); have G3 := Lib.hid g3; have G4 := Lib.hid g4; clear g3 g4 hd1 ho1)
    go_ret
    exact ⟨rfl, G3.out, G4.out⟩
/-- Frame i holds nothing any more. -/
def Cch.wipe (x : Cch) (i : Nat) : Cch := { x with L := x.L.set i Frm.zero }
theorem cdrop_yes (h : CD w G c bf p x d) {i : Nat} (hi : i < x.L.length) (hp : (x.L.getD i Frm.zero).pins = 0) :
    Calls Try.prog 55 #[frPtr bf (some i)] w fun e w' => e = .returned (.bool true) ∧ CD w' G c bf p (x.wipe i) d ∧ Only (Foot G c bf) w w' := by
  rw [getD_at hi] at hp
  have q := h.cache.f260 hi
  rw [hp] at q
  have hl := chunks_length h.cache.wide.cells
  have hb : i * 261 + 261 ≤ (rows x.L).length := by
    have := Nat.mul_le_mul_right 261 (show i + 1 ≤ x.L.length by omega)
    unfold rows
    omega
  refine (drop_yes q h.cache.frs hb).mono ?_
  rintro e w' ⟨rfl, h1, h2, _⟩
  have hz : (Frm.zero).b.length = 256 := List.length_replicate
  have ho : Only (fun k => k = c ∨ k = bf) w w' := Only.grown h2 fun g e => .inr (by injection e with e; exact e.symm)
  refine ⟨rfl, h.turned ?_ ho, ho.cache⟩
  have hf : (frCells x.L[i]).take 0 ++ frCells Frm.zero ++ (frCells x.L[i]).drop (0 + (frCells Frm.zero).length) = frCells Frm.zero := by
    rw [Nat.zero_add, frCells_length hz, List.drop_of_length_le (by rw [frCells_length (h.cache.wide.at_ hi)]; omega)]
    simp
  exact h.cache.put (j := 0) hi (by rw [frCells_length hz]; omega) hf hz (by rw [Nat.add_zero]; exact h1) h2
/-- A frame, but for whether it was used. -/
def Frm.core (f : Frm) : Frm := { f with used := false }
theorem turnGo_core : ∀ (k : Nat) (x : Cch), (turnGo k x).2.L.map Frm.core = x.L.map Frm.core
  | 0, _ => rfl
  | k + 1, x => by
    unfold turnGo
    split
    · rw [turnGo_core]
    · split
      · rw [turnGo_core]
        show (x.L.set _ _).map _ = _
        by_cases hh : x.hand < x.L.length
        · rw [List.map_set, getD_at hh]
          apply List.ext_getElem
          · simp
          · intro j h1 h2
            rw [List.getElem_set]
            split
            · rename_i e; subst e; simp [Frm.core]
            · rfl
        · rw [List.set_eq_of_length_le (by omega)]
      · rfl
theorem turnGo_some : ∀ (k : Nat) (x : Cch) (i : Nat), x.hand < x.L.length → (turnGo k x).1 = some i → i < x.L.length ∧ ((turnGo k x).2.L.getD i Frm.zero).pins = 0
  | 0, _, _, _, h => by cases h
  | k + 1, x, i, hh, h => by
    have hm : (x.hand + 1) % x.L.length < x.L.length := Nat.mod_lt _ (by omega)
    unfold turnGo at h ⊢
    split at h
    · rename_i h1
      rw [if_pos h1]
      exact turnGo_some k _ i hm h
    · rename_i h1
      rw [if_neg h1]
      split at h
      · rename_i h2
        rw [if_pos h2]
        have := turnGo_some k { L := x.L.set x.hand { x.L.getD x.hand Frm.zero with used := false }, hand := (x.hand + 1) % x.L.length } i (by simpa using hm) h
        rw [List.length_set] at this
        exact this
      · rename_i h2
        rw [if_neg h2]
        injection h with h
        subst h
        exact ⟨hh, by simpa using h1⟩
theorem core_same {L M : List Frm} (h : M.map Frm.core = L.map Frm.core) : M.length = L.length ∧ ∀ i, (M.getD i Frm.zero).core = (L.getD i Frm.zero).core := by
  have hl : M.length = L.length := by simpa using congrArg List.length h
  refine ⟨hl, fun i => ?_⟩
  by_cases hi : i < L.length
  · have h1 : (M.map Frm.core)[i]? = (L.map Frm.core)[i]? := by rw [h]
    rw [List.getElem?_map, List.getElem?_map, List.getElem?_eq_getElem hi, List.getElem?_eq_getElem (by omega)] at h1
    rw [getD_at hi, getD_at (show i < M.length by omega)]
    exact Option.some.inj h1
  · rw [List.getD_eq_getElem?_getD, List.getD_eq_getElem?_getD, List.getElem?_eq_none (by omega), List.getElem?_eq_none (by omega)]
theorem core_parts {f g : Frm} (h : f.core = g.core) : f.full = g.full ∧ f.no = g.no ∧ f.b = g.b ∧ f.dirty = g.dirty ∧ f.pins = g.pins := by
  unfold Frm.core at h
  injection h with h1 h2 h3 h4 h5 h6
  exact ⟨h1, h2, h3, h4, h6⟩
/-- Each frame that holds a sector holds one of the n there are. -/
def Cch.Within (x : Cch) (n : Nat) : Prop := ∀ i, i < x.L.length → (x.L.getD i Frm.zero).full = true → 0 ≤ (x.L.getD i Frm.zero).no ∧ (x.L.getD i Frm.zero).no < n
/-- Room for a sector: the frame, what is told, the cache and the device then. -/
def Cch.room (x : Cch) (d : Dev) : Option Nat × Int × Cch × Dev :=
  match x.empty with
  | some i => (some i, 0, x, d)
  | none => match x.turn with
    | (none, y) => (none, 11, y, d)
    | (some i, y) =>
      if (y.L.getD i Frm.zero).dirty = true then
        (if (y.write d i).1 = 0 then (some i, 0, (y.write d i).2.1.wipe i, (y.write d i).2.2) else (none, (y.write d i).1, (y.write d i).2.1, (y.write d i).2.2))
      else (some i, 0, y.wipe i, d)
theorem empty_all {x : Cch} (h : x.empty = none) (i : Nat) (hi : i < x.L.length) : (x.L.getD i Frm.zero).full = true := by
  unfold Cch.empty at h
  rw [List.findIdx?_eq_none_iff] at h
  have := h x.L[i] (List.getElem_mem hi)
  rw [getD_at hi]
  simpa using this
theorem write_told (y : Cch) (d : Dev) (i : Nat) : (y.write d i).1 = 0 ∨ (y.write d i).1 = 3 := by
  unfold Cch.write
  split
  · exact .inr rfl
  · exact .inl rfl
theorem write_L (y : Cch) (d : Dev) (i : Nat) : (y.write d i).2.1.L.length = y.L.length ∧ ((y.write d i).2.1.L.getD i Frm.zero).pins = (y.L.getD i Frm.zero).pins := by
  unfold Cch.write
  split
  · exact ⟨rfl, rfl⟩
  · refine ⟨List.length_set, ?_⟩
    by_cases hi : i < y.L.length
    · rw [getD_at (show i < (y.L.set i _).length by rw [List.length_set]; exact hi), List.getElem_set, if_pos rfl]
    · show ((y.L.set i _).getD i Frm.zero).pins = _
      rw [List.set_eq_of_length_le (by omega)]
set_option maxRecDepth 100000 in
set_option maxHeartbeats 400000 in
theorem room_any (h : CD w G c bf p x d) (hr : x.Within d.L.length) (hn : d.n < 1000000) (hG : ∀ k, w.heap.size ≤ k → G k) :
    Calls Try.prog 46 #[at0 c] w fun e w' => e = .returned (.tuple #[frPtr bf (x.room d).1, .int .i64 (x.room d).2.1]) ∧ CD w' G c bf p (x.room d).2.2.1 (x.room d).2.2.2 ∧ Only (Foot G c bf) w w' := by
  have hE := empty_any h.cache
  rcases he : x.empty with _ | i
  · have hT := turn_any h.cache
    have hcore := core_same (turnGo_core (2 * x.L.length) x)
    have hsome := turnGo_some (2 * x.L.length) x
    rw [he] at hE
    have hful := empty_all he
    have hturn : turnGo (2 * x.L.length) x = x.turn := rfl
    rw [hturn] at hcore hsome
    rcases ht : x.turn with ⟨_ | i, y⟩
    · have hroom : x.room d = (none, 11, y, d) := by unfold Cch.room; rw [he, ht]
      rw [hroom]
      rw [ht] at hT
      have HE := Lib.hid hE
      have HT := Lib.hid hT
      have H := Lib.hid h
      clear hE hT h hcore hsome hful hr he ht hroom hturn
      go_enter Try.func46, Try.ntmps46
      go_wp2_with (first
        | (go_at_call 63; refine HE.out.mono ?_; rintro e w1 ⟨rfl, rfl⟩; rw [show frPtr bf none = .pointer none from rfl])
        | (go_at_call 64; refine HT.out.mono ?_; rintro e w1 ⟨rfl, hc1, ho1⟩; rw [show frPtr bf (none, y).1 = .pointer none from rfl]))
      go_ret2
      exact ⟨rfl, H.out.turned hc1 ho1, ho1.cache⟩
    · rw [ht] at hT hcore hsome
      obtain ⟨hi, hpin⟩ := hsome i h.cache.hand rfl
      obtain ⟨hylen, hsame⟩ := hcore
      have hyi : i < y.L.length := by rw [hylen]; exact hi
      have hpar := core_parts (hsame i)
      have hfull := hful i hi
      have hno := hr i hi hfull
      rw [← hpar.2.1] at hno
      have hroom : x.room d = if (y.L.getD i Frm.zero).dirty = true then
        (if (y.write d i).1 = 0 then (some i, 0, (y.write d i).2.1.wipe i, (y.write d i).2.2) else (none, (y.write d i).1, (y.write d i).2.1, (y.write d i).2.2))
      else (some i, 0, y.wipe i, d) := by unfold Cch.room; rw [he, ht]
      rw [hroom]
      have HE := Lib.hid hE
      have HT := Lib.hid hT
      have hW : ∀ w1, CacheIs w1 c bf p y → Only (fun k => k = c ∨ k = bf) w w1 → Calls Try.prog 48 #[at0 c, frPtr bf (some i)] w1 fun e w' => e = .returned (.int .i64 (y.write d i).1) ∧ CD w' G c bf p (y.write d i).2.1 (y.write d i).2.2 ∧ Only (Foot G c bf) w1 w' :=
        fun w1 hc1 ho1 => cwrite_any (h.turned hc1 ho1) hyi hno hn (fun k hk => hG k (Nat.le_trans ho1.size hk))
      have hD : ∀ w1, CD w1 G c bf p (y.write d i).2.1 (y.write d i).2.2 → Calls Try.prog 55 #[frPtr bf (some i)] w1 fun e w' => e = .returned (.bool true) ∧ CD w' G c bf p ((y.write d i).2.1.wipe i) (y.write d i).2.2 ∧ Only (Foot G c bf) w1 w' :=
        fun w1 h1 => cdrop_yes h1 (by rw [(write_L y d i).1]; exact hyi) (by rw [(write_L y d i).2]; exact hpin)
      have hD2 : ∀ w1, CacheIs w1 c bf p y → Only (fun k => k = c ∨ k = bf) w w1 → Calls Try.prog 55 #[frPtr bf (some i)] w1 fun e w' => e = .returned (.bool true) ∧ CD w' G c bf p (y.wipe i) d ∧ Only (Foot G c bf) w1 w' :=
        fun w1 hc1 ho1 => cdrop_yes (h.turned hc1 ho1) hyi hpin
      have hq : ∀ w1, CacheIs w1 c bf p y → w1.cell? ⟨bf, i * 261 + 258, none⟩ = some (.bool (y.L.getD i Frm.zero).dirty) := fun w1 hc1 => by rw [getD_at hyi]; exact hc1.f258 hyi
      have hwr := write_told y d i
      obtain ⟨r, hrr⟩ : ∃ r, r = y.write d i := ⟨_, rfl⟩
      rw [← hrr] at hW hD hwr ⊢
      have HW := Lib.hid hW
      have HD := Lib.hid hD
      have HD2 := Lib.hid hD2
      have Hq := Lib.hid hq
      have hfp : frPtr bf (some i) = frAt bf (i * 261) := rfl
      rw [hfp] at HW HD HD2
      have HT2 : Hid (Calls Try.prog 64 #[at0 c] w fun e w' => e = .returned (frAt bf (i * 261)) ∧ CacheIs w' c bf p y ∧ Only (fun k => k = c ∨ k = bf) w w') := HT
      clear hE hT HT h hsome hsame hpar hfull hno hroom hful hr hW hD hD2 hq hrr he ht hpin hturn hi hyi hylen
      obtain ⟨db, hdb⟩ : ∃ db, db = (y.L.getD i Frm.zero).dirty := ⟨_, rfl⟩
      rw [← hdb] at Hq ⊢
      clear hdb
      rcases db with _ | _
      · rw [if_neg (by simp)]
        rw [show frPtr bf (some i, (0 : Int), y.wipe i, d).1 = frAt bf (i * 261) from rfl]
        go_enter Try.func46, Try.ntmps46
        go_wp2_with (first
          | (go_at_call 63; refine HE.out.mono ?_; rintro e w1 ⟨rfl, rfl⟩; rw [show frPtr bf none = .pointer none from rfl])
          | (go_at_call 64; refine HT2.out.mono ?_; rintro e w1 ⟨rfl, hc1, ho1⟩; have Hc1 := Lib.hid hc1; have Ho1 := Lib.hid ho1; have q1 := Hq.out w1 hc1; clear hc1 ho1)
          | (go_at_call 55; refine (HD2.out _ Hc1.out Ho1.out).mono ?_; rintro e w2 ⟨rfl, hc2, ho2⟩; have Hc2 := Lib.hid hc2; have Ho2 := Lib.hid ho2; clear hc2 ho2))
        go_ret2
        exact ⟨rfl, Hc2.out, Ho1.out.cache.trans Ho2.out⟩
      · rw [if_pos rfl]
        obtain ⟨rv, rx, rd⟩ := r
        rcases hwr with hwr | hwr
        · have hwr : rv = 0 := hwr
          subst hwr
          rw [if_pos rfl]
          rw [show frPtr bf (some i, (0 : Int), rx.wipe i, rd).1 = frAt bf (i * 261) from rfl]
          go_enter Try.func46, Try.ntmps46
          go_wp2_with (first
            | (go_at_call 63; refine HE.out.mono ?_; rintro e w1 ⟨rfl, rfl⟩; rw [show frPtr bf none = .pointer none from rfl])
            | (go_at_call 64; refine HT2.out.mono ?_; rintro e w1 ⟨rfl, hc1, ho1⟩; have Hc1 := Lib.hid hc1; have Ho1 := Lib.hid ho1; have q1 := Hq.out w1 hc1; clear hc1 ho1)
            | (go_at_call 48; refine (HW.out _ Hc1.out Ho1.out).mono ?_; rintro e w2 ⟨rfl, hc2, ho2⟩; have Hc2 := Lib.hid hc2; have Ho2 := Lib.hid ho2; clear hc2 ho2)
            | (go_at_call 55; refine (HD.out _ Hc2.out).mono ?_; rintro e w3 ⟨rfl, hc3, ho3⟩; have Hc3 := Lib.hid hc3; have Ho3 := Lib.hid ho3; clear hc3 ho3))
          go_ret2
          exact ⟨rfl, Hc3.out, (Ho1.out.cache.trans Ho2.out).trans Ho3.out⟩
        · have hwr : rv = 3 := hwr
          subst hwr
          rw [if_neg (show ¬ (3 : Int) = 0 by decide)]
          go_enter Try.func46, Try.ntmps46
          go_wp2_with (first
            | (go_at_call 63; refine HE.out.mono ?_; rintro e w1 ⟨rfl, rfl⟩; rw [show frPtr bf none = .pointer none from rfl])
            | (go_at_call 64; refine HT2.out.mono ?_; rintro e w1 ⟨rfl, hc1, ho1⟩; have Hc1 := Lib.hid hc1; have Ho1 := Lib.hid ho1; have q1 := Hq.out w1 hc1; clear hc1 ho1)
            | (go_at_call 48; refine (HW.out _ Hc1.out Ho1.out).mono ?_; rintro e w2 ⟨rfl, hc2, ho2⟩; have Hc2 := Lib.hid hc2; have Ho2 := Lib.hid ho2; clear hc2 ho2))
          go_ret2
          exact ⟨rfl, Hc2.out, Ho1.out.cache.trans Ho2.out⟩
  · have hroom : x.room d = (some i, 0, x, d) := by unfold Cch.room; rw [he]
    rw [hroom]
    rw [he] at hE
    have hE2 : Calls Try.prog 63 #[at0 c] w fun e w' => e = .returned (frAt bf (i * 261)) ∧ w = w' := hE
    rw [show frPtr bf (some i, (0 : Int), x, d).1 = frAt bf (i * 261) from rfl]
    have HE := Lib.hid hE2
    have H := Lib.hid h
    clear hE hE2 h he hroom hr
    go_enter Try.func46, Try.ntmps46
    go_wp2_with (go_at_call 63; refine HE.out.mono ?_; rintro e w1 ⟨rfl, rfl⟩)
    go_ret2
    exact ⟨rfl, H.out, Only.refl _ _⟩
end
end Go.Proofs.Ytfjcblppmoomdaa
