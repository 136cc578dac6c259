/-
  The document's cache: New: contract.
  What stays so of a cache of the law CachePlays, act by act, as plain mathematics.
-/
import Derived.Test.YtfjcblppmoomdaaCrM
namespace Go.Proofs.Ytfjcblppmoomdaa
open Go.RowKit
/-- A frame that holds nothing. -/
abbrev noFrame : Frm × Value := (Frm.zero, .slice none 0 0)
theorem rinfo_frame : (Try.prog.info? 78).map (fun i => (i.zero, i.size, i.bytes)) = some (some (.agg #[.int .i64 0, .int .i64 0, .bool false, .bool false, .slice none 0 0]), 5, 48) := by kernel_rfl
theorem cells_five (w : World) (a b c d e : Value) (t : TypeId) : ∀ j u, [a, b, c, d, e][j]? = some u → (w.alloc (.cells #[a, b, c, d, e] t)).cell? ((⟨w.heap.size, 0, none⟩ : Addr).add j) = some u := by
  intro j u hj
  have hadd : (⟨w.heap.size, 0, none⟩ : Addr).add j = ⟨w.heap.size, j, none⟩ := by unfold Addr.add; split <;> simp_all
  rw [hadd, World.cell?_alloc_mark]
  simpa using hj
theorem World.ownsRow.slice {w : World} {base : Nat} {e : TypeId} {size : Nat} {v : Value} {n : Nat} {xs : List Value} (h : w.ownsRow base e size v n xs) : ∃ A c, v = .slice A n c := by
  rcases h.2 with ⟨rfl, rfl⟩ | ⟨g, cap, cur, rfl, _⟩
  · exact ⟨none, 0, rfl⟩
  · exact ⟨_, _, rfl⟩
set_option maxRecDepth 100000 in
set_option maxHeartbeats 800000 in
theorem rcnew_any (q : Nat) {n : Nat} (w : World) (h : 8 ≤ n ∧ n ≤ 64) (E : Nat → Prop) :
    Calls Try.prog 11 #[at0 q, .int .i64 (n : Int)] w fun e w' => ∃ bf cap rest P, e = .returned (at0 w.heap.size) ∧ w.heap.size < bf ∧ CRefIs w' E q w.heap.size bf cap rest P (Cch.new n) ∧ Below w.heap.size w w' := by
  obtain ⟨ti, hi, hz0, hz1, hz2⟩ := info_parts rinfo_frame
  have hfin : ∀ (w' : World) (v : Value), w'.heap[w.heap.size]? = some (.cells #[at0 q, v, .int .i64 0] 49 (0, 0)) → w'.ownsRow (w.heap.size + 1) 78 5 v n (crows (List.replicate n noFrame)) → Below w.heap.size w w' →
      ∃ bf cap rest P, w.heap.size < bf ∧ CRefIs w' E q w.heap.size bf cap rest P (Cch.new n) ∧ Below w.heap.size w w' := by
    intro w' v htop hown hb
    rcases hown.2 with ⟨_, hz⟩ | ⟨g, cap, cur, rfl, hbase, hg, r1, r2, r3, r4⟩
    · omega
    · refine ⟨g, cap, cur.toList.drop (n * 5), List.replicate n noFrame, by omega, ⟨?_, ?_, ?_, ?_, by omega, ?_, ?_⟩, hb⟩
      · rw [htop, Cch.new_len]
        rfl
      · rw [hg, ← r4, List.take_append_drop]
      · simp [Cch.new]
      · intro p hp hf
        rw [List.eq_of_mem_replicate hp] at hf
        cases hf
      · rw [Cch.new_len]; exact h
      · rw [Cch.new_len]; show 0 < n; omega
  have Hfin := Lib.hid hfin
  clear hfin
  go_enter Try.func11, Try.ntmps11
  go_wp2_with fail
  go_loopw [6] (fun iv wr => ∃ (k : Nat) (v : Value), k ≤ n ∧ iv = .int .i64 (k : Int) ∧ wr.heap[w.heap.size]? = some (.cells #[at0 q, v, .int .i64 0] 49 (0, 0)) ∧ wr.ownsRow (w.heap.size + 1) 78 5 v k (crows (List.replicate k noFrame)) ∧ Below w.heap.size w wr) (fun iv _ => n - (intOf iv).toNat)
  case atStart => exact ⟨0, _, by omega, rfl, heap_alloc_last _ _, World.ownsRow_nil _ _ _ _, (Below.refl _ _).alloc (Nat.le_refl _) _⟩
  case round =>
    obtain ⟨k, v, hkn, rfl, htop, hown, hbel⟩ := hrel
    by_cases hk : k < n
    · have t0 : decide ((k : Int) < (n : Int)) = true := by simp [hk]
      have c1 : wr.cell? ⟨w.heap.size, 1, none⟩ = some v := by rw [cell_of_row wr w.heap.size 1 _ _ (0, 0) htop]; rfl
      have f1 : wr.frozen? ⟨w.heap.size, 1, none⟩ = false := frozen_of_row wr w.heap.size 1 _ _ htop
      have hlen : (crows (List.replicate k noFrame)).length = k * 5 := by rw [crows_length, List.length_replicate]
      have hsz := hbel.size
      have hlt : w.heap.size < wr.heap.size := (Array.getElem?_eq_some_iff.1 htop).1
      obtain ⟨xs, hxs⟩ : ∃ xs, xs = crows (List.replicate k noFrame) := ⟨_, rfl⟩
      rw [← hxs] at hown hlen
      have Hxs := Lib.hid hxs
      have Htop := Lib.hid htop
      clear hxs htop
      have hvr : v.ownBlock ≠ some w.heap.size := fun e => by have := (hown.lt _ e).1; omega
      have hafter : ∀ (w3 : World) (v3 : Value), w3.ownsRow (w.heap.size + 1) 78 5 v3 (k + 1) (xs ++ [.int .i64 (-1), .int .i64 0, .bool false, .bool false, .slice none 0 0]) → (wr.alloc (.cells #[.int .i64 (-1), .int .i64 0, .bool false, .bool false, .slice none 0 0] 78)).grownBy w3 v.ownBlock →
          w3.cell? ⟨w.heap.size, 1, none⟩ = some v ∧ w3.frozen? ⟨w.heap.size, 1, none⟩ = false ∧ (w3.setCell ⟨w.heap.size, 1, none⟩ v3).heap[w.heap.size]? = some (.cells #[at0 q, v3, .int .i64 0] 49 (0, 0)) ∧ (w3.setCell ⟨w.heap.size, 1, none⟩ v3).ownsRow (w.heap.size + 1) 78 5 v3 (k + 1) (crows (List.replicate (k + 1) noFrame)) ∧ Below w.heap.size w (w3.setCell ⟨w.heap.size, 1, none⟩ v3) := by
        intro w3 v3 o3 g3
        have top3 : w3.heap[w.heap.size]? = some (.cells #[at0 q, v, .int .i64 0] 49 (0, 0)) := (g3.block w.heap.size (by simp; omega) (fun e => hvr e.symm)).trans ((heap_alloc_old wr _ hlt).trans Htop.out)
        refine ⟨by rw [cell_of_row w3 w.heap.size 1 _ _ (0, 0) top3]; rfl, frozen_of_row w3 w.heap.size 1 _ _ top3, ?_, ?_, ?_⟩
        · rw [heap_setCell_same w3 w.heap.size 1 _ _ v3 top3]; rfl
        · have e : crows (List.replicate (k + 1) noFrame) = xs ++ [.int .i64 (-1), .int .i64 0, .bool false, .bool false, .slice none 0 0] := by
            rw [Hxs.out, List.replicate_succ']
            unfold crows
            rw [List.flatMap_append]
            rfl
          rw [e]
          exact o3.kept (grown_cell _ _ _ _) (.inr fun e => by have := (o3.lt _ e).1; omega)
        · have b1 : Below w.heap.size w (wr.alloc (.cells #[.int .i64 (-1), .int .i64 0, .bool false, .bool false, .slice none 0 0] 78)) := hbel.alloc hsz _
          have b2 := b1.grown g3 (by simp; omega) (fun j hj => by have := (hown.lt _ hj).1; omega)
          exact b2.grown (grown_cell w3 w.heap.size 1 v3) (Nat.le_trans hsz (Nat.le_trans (by simp) g3.size)) (fun j hj => by injection hj with hj; omega)
      have Hafter := Lib.hid hafter
      clear hafter
      go_wp2_with (first
        | (at_builtin; refine wpList_append_own_at _ rfl (.tmp 19) (.tmp 21) 47 rfl (w.heap.size + 1) 78 ti _ 5 48 Try.underlying47 hi hz0 hz1 hz2 rfl (by omega) v k xs rfl (hown.alloc _) ⟨wr.heap.size, 0, none⟩ 1 1 [.int .i64 (-1), .int .i64 0, .bool false, .bool false, .slice none 0 0] rfl rfl (cells_five _ _ _ _ _ _ _) (by simp [Value.oneCell']) (by unfold maxLen; omega) (by omega) (by simp; omega) ?_; intro v3 w3 hown3 hg3 _ _; obtain ⟨A3, cc3, e3⟩ := World.ownsRow.slice hown3; subst e3; obtain ⟨c3, f3, y1, y2, y3⟩ := Hafter.out w3 _ hown3 hg3; have Y1 := Lib.hid y1; have Y2 := Lib.hid y2; have Y3 := Lib.hid y3; clear y1 y2 y3 hown3 hg3 Hafter))
      go_roundw
      case rel => exact ⟨k + 1, _, by omega, by go_num, Y1.out, Y2.out, Y3.out⟩
      case measure => simp [intOf]; omega
    · have e : k = n := by omega
      subst e
      have t0 : decide ((k : Int) < (k : Int)) = false := by simp
      obtain ⟨bf, cap, rest, P, z1, z2, z3⟩ := Hfin.out _ _ htop hown hbel
      go_wp2_with fail
      go_ret
      exact ⟨bf, cap, rest, P, rfl, z1, z2, z3⟩
/-- Behind j acts. -/
structure St (x : Cch) (d : Dev) (j : Nat) : Prop where
  ok : x.Ok d.L.length
  len : x.L.length ≤ 64
  sec : d.L.length = 24
  n : d.n ≤ 64 * j
  pins : ∀ i, (x.fr i).pins ≤ j
section
variable {x y : Cch} {d d' : Dev} {n i j : Nat} {no : Int}
/-- A frame marked as Put and Get mark it. -/
theorem marked (h : x.Ok n) (hi : i < x.L.length) (hf : (x.fr i).full = true) (f : Frm) (h1 : f.full = true) (h2 : f.no = (x.fr i).no) (h3 : f.pins = (x.fr i).pins) :
    (x.place i f).Ok n ∧ (x.place i f).L.length = x.L.length ∧ (∀ j, ((x.place i f).fr j).pins = (x.fr j).pins) := by
  obtain ⟨a, b⟩ := h.mark hi hf f h1 h2 h3
  exact ⟨a, place_len x i f, fun j => (b j).1⟩
theorem Cch.Ok.putting (h : x.Ok d.L.length) (no : Int) (l : List UInt8) : (x.put d no l).2.1.Ok d.L.length ∧ (x.put d no l).2.1.L.length = x.L.length ∧ (∀ j, ((x.put d no l).2.1.fr j).pins = (x.fr j).pins) ∧ (x.put d no l).2.2.L.length = d.L.length ∧ (x.put d no l).2.2.n ≤ d.n + 1 := by
  unfold Cch.put
  by_cases hno : 0 ≤ no ∧ no < d.L.length
  · rw [if_pos hno]
    rcases hh : x.holder no with _ | i
    · obtain ⟨s1, s2, s3, s4⟩ := room_spec x d h.hand
      obtain ⟨r1, r2, r3, _, r5⟩ := h.room d
      rcases hr : x.room d with ⟨o, e0, y, dy⟩
      rw [hr] at s1 s2 s3 s4 r1 r2 r3 r5
      rcases o with _ | i
      · exact ⟨r1, s1, r3, s2, s3⟩
      · have hz : y.fr i = Frm.zero := (r2 i rfl).2.1
        have s1 : y.L.length = x.L.length := s1
        have hiy : i < y.L.length := by have := (r2 i rfl).1; omega
        have r1 : y.Ok d.L.length := r1
        have r3 : ∀ j, (y.fr j).pins = (x.fr j).pins := r3
        obtain ⟨t1, t2, t3, t4⟩ := r1.took hiy hz hno (r5 no hh) l
        obtain ⟨z, hzz⟩ : ∃ z, z = (y.hold i no).bytes i l := ⟨_, rfl⟩
        have hiz : i < z.L.length := by rw [hzz, t2]; exact hiy
        have hz3 : ∀ j, z.fr j = if j = i then ⟨true, no, l, false, false, 0⟩ else y.fr j := by rw [hzz]; exact t3
        have hzi : z.fr i = ⟨true, no, l, false, false, 0⟩ := by rw [hz3, if_pos rfl]
        obtain ⟨a1, a2, a3⟩ := marked (x := z) (n := d.L.length) (by rw [hzz]; exact t1) hiz (by rw [hzi]) { z.fr i with dirty := true } (by rw [hzi]) rfl rfl
        have hfi : (z.place i { z.fr i with dirty := true }).fr i = { z.fr i with dirty := true } := by rw [place_fr hiz, if_pos rfl]
        obtain ⟨b1, b2, b3⟩ := marked a1 (i := i) (by rw [a2]; exact hiz) (by rw [hfi, hzi]) { (z.place i { z.fr i with dirty := true }).fr i with used := true } (by rw [hfi, hzi]) rfl rfl
        have e : ((((y.hold i no).bytes i l).soil i).use i) = (z.place i { z.fr i with dirty := true }).place i { (z.place i { z.fr i with dirty := true }).fr i with used := true } := by rw [← hzz]; rfl
        show ((((y.hold i no).bytes i l).soil i).use i).Ok d.L.length ∧ ((((y.hold i no).bytes i l).soil i).use i).L.length = x.L.length ∧ (∀ j, (((((y.hold i no).bytes i l).soil i).use i).fr j).pins = (x.fr j).pins) ∧ dy.L.length = d.L.length ∧ dy.n ≤ d.n + 1
        rw [e]
        refine ⟨b1, b2.trans (a2.trans (by rw [hzz, t2]; exact s1)), fun j => (b3 j).trans ((a3 j).trans ?_), s2, s3⟩
        rw [hz3]
        split
        · rename_i e2
          subst e2
          show 0 = _
          rw [← r3, hz]
          rfl
        · exact r3 j
    · obtain ⟨hi, hf, _⟩ := holder_lt hh
      have hf : (x.fr i).full = true := hf
      show ((((x.bytes i l).soil i).use i)).Ok d.L.length ∧ ((((x.bytes i l).soil i).use i)).L.length = x.L.length ∧ (∀ j, ((((x.bytes i l).soil i).use i).fr j).pins = (x.fr j).pins) ∧ d.L.length = d.L.length ∧ d.n ≤ d.n + 1
      rw [put_place hi l]
      obtain ⟨b1, b2, b3⟩ := marked h hi hf { x.fr i with b := l, dirty := true, used := true } hf rfl rfl
      exact ⟨b1, b2, b3, rfl, by omega⟩
  · rw [if_neg hno]
    exact ⟨h, rfl, fun _ => rfl, rfl, by show d.n ≤ d.n + 1; omega⟩
theorem St.more (h : St x d j) : St x d (j + 1) := ⟨h.ok, h.len, h.sec, by have := h.n; omega, fun i => by have := h.pins i; omega⟩
theorem St.get (h : St x d j) (no : Int) : St (x.get d no).2.2.1 (x.get d no).2.2.2 (j + 1) := by
  obtain ⟨a1, a2, a3, _, _, a6, a7, _⟩ := h.ok.get no
  exact ⟨by rw [a6]; exact a1, by rw [a2]; exact h.len, a6.trans h.sec, by have := h.n; omega, fun i => by rw [a3]; have := h.pins i; omega⟩
theorem St.put (h : St x d j) (no : Int) (l : List UInt8) : St (x.put d no l).2.1 (x.put d no l).2.2 (j + 1) := by
  obtain ⟨a1, a2, a3, a6, a7⟩ := h.ok.putting no l
  exact ⟨by rw [a6]; exact a1, by rw [a2]; exact h.len, a6.trans h.sec, by have := h.n; omega, fun i => by rw [a3]; have := h.pins i; omega⟩
theorem St.pinned (h : St x d j) (hh : x.holder no = some i) {m : Nat} (hm : m ≤ j + 1) : St (x.pinned i m) d (j + 1) := by
  obtain ⟨hi, hf, _⟩ := holder_lt hh
  have e : ∀ k, (x.pinned i m).fr k = if k = i then { x.fr i with pins := m } else x.fr k := fun k => fr_set hi _ k
  refine ⟨h.ok.alter hi hf hf rfl, ?_, h.sec, by have := h.n; omega, fun k => ?_⟩
  · show (x.L.set i _).length ≤ 64
    rw [List.length_set]; exact h.len
  · rw [e]
    split
    · exact hm
    · have := h.pins k; omega
theorem St.pin (h : St x d j) (no : Int) : St (x.pin no).2 d (j + 1) := by
  unfold Cch.pin
  rcases hh : x.holder no with _ | i
  · exact h.more
  · exact h.pinned hh (by have := h.pins i; show (x.fr i).pins + 1 ≤ j + 1; omega)
theorem St.unpin (h : St x d j) (no : Int) : St (x.unpin no).2 d (j + 1) := by
  unfold Cch.unpin
  rcases hh : x.holder no with _ | i
  · exact h.more
  · dsimp only
    split
    · exact h.more
    · exact h.pinned hh (by have := h.pins i; show (x.fr i).pins - 1 ≤ j + 1; omega)
theorem St.drop (h : St x d j) (no : Int) : St (x.drop no).2 d (j + 1) := by
  unfold Cch.drop
  rcases hh : x.holder no with _ | i
  · exact h.more
  · dsimp only
    split
    · have hi := (holder_lt hh).1
      have e : ∀ k, (x.wipe i).fr k = if k = i then Frm.zero else x.fr k := fun k => fr_set hi _ k
      refine ⟨h.ok.wipe hi, by rw [Cch.wipe_len]; exact h.len, h.sec, by have := h.n; omega, fun k => ?_⟩
      rw [e]
      split
      · exact Nat.zero_le _
      · have := h.pins k; omega
    · exact h.more
theorem syncAll_keeps : ∀ (l : List Int) (x : Cch) (d : Dev) (n : Nat), x.Ok n → (syncAll l x d).2.1.Ok n ∧ (syncAll l x d).2.1.L.length = x.L.length ∧ (∀ j, ((syncAll l x d).2.1.fr j).pins = (x.fr j).pins) ∧ (syncAll l x d).2.2.L.length = d.L.length ∧ (syncAll l x d).2.2.n ≤ d.n + l.length
  | [], x, d, n, h => ⟨h, rfl, fun _ => rfl, rfl, Nat.le_refl _⟩
  | no :: l, x, d, n, h => by
    unfold syncAll
    rw [List.length_cons]
    rcases hh : x.holder no with _ | i
    · obtain ⟨a1, a2, a3, a4, a5⟩ := syncAll_keeps l x d n h
      exact ⟨a1, a2, a3, a4, by dsimp only; omega⟩
    · obtain ⟨hi, hf, _⟩ := holder_lt hh
      have hw := h.write hi hf d
      have hl := (write_L x d i).1
      have hd := write_dev x d i
      have hp := write_pins x d i
      dsimp only
      split
      · split
        · obtain ⟨a1, a2, a3, a4, a5⟩ := syncAll_keeps l (x.write d i).2.1 (x.write d i).2.2 n hw
          exact ⟨a1, a2.trans hl, fun j => (a3 j).trans (hp j).1, a4.trans hd.1, by omega⟩
        · exact ⟨hw, hl, fun j => (hp j).1, hd.1, by omega⟩
      · obtain ⟨a1, a2, a3, a4, a5⟩ := syncAll_keeps l x d n h
        exact ⟨a1, a2, a3, a4, by omega⟩
theorem St.sync (h : St x d j) : St (x.sync d).2.1 (x.sync d).2.2 (j + 1) := by
  have hk := syncAll_keeps (nos d.L.length) x d d.L.length h.ok
  rw [syncAll_soiled h.ok d, nos_length] at hk
  obtain ⟨a1, a2, a3, a4, a5⟩ := hk
  unfold Cch.sync
  obtain ⟨R, hR⟩ : ∃ R, R = syncGo x.soiled x d := ⟨_, rfl⟩
  rw [← hR] at a1 a2 a3 a4 a5 ⊢
  have hn := h.n
  have hs := h.sec
  have hl := h.len
  have base : ∀ dz : Dev, dz.L.length = R.2.2.L.length → dz.n = R.2.2.n → St R.2.1 dz (j + 1) := fun dz e1 e2 => ⟨by rw [e1, a4]; exact a1, by rw [a2]; exact h.len, by rw [e1, a4]; exact hs, by rw [e2]; omega, fun i => by rw [a3]; have := h.pins i; omega⟩
  split
  · split
    · exact base _ rfl rfl
    · exact base _ (Dev.flush_length _) rfl
  · exact base _ rfl rfl
theorem St.fail (h : St x d j) (k a : Int) : St x (d.doFail k a).2 (j + 1) := by
  unfold Dev.doFail
  split
  · exact h.more
  · exact ⟨h.ok, h.len, h.sec, by have := h.n; show d.n ≤ _; omega, fun i => by have := h.pins i; omega⟩
theorem st_new {k : Nat} (hk : 8 ≤ k ∧ k ≤ 64) : St (Cch.new k) (Dev.new 24) 0 :=
  ⟨new_ok' k _ (by omega), by rw [Cch.new_len]; exact hk.2, Dev.new_length 24, Nat.le_refl _, fun i => by unfold Cch.fr; rw [new_getD]; exact Nat.le_refl _⟩
end
end Go.Proofs.Ytfjcblppmoomdaa
