/-
  Write, with the bytes in a block that is not the device's; that what is flushed lasts (lives).
-/
import Derived.Test.YtmifaneolfciiaaDevI
namespace Go.Proofs.Ytmifaneolfciiaa
open Go.RowKit
section
variable {w : World} {F : Nat → Prop} {p bl bm : Nat} {S : Nat → Value} {D : DataW Value} {d : Dev}
theorem DevIs.tight (h : DevIs w F p bl bm S D d) : DevIs w (fun k => F k ∧ k < w.heap.size) p bl bm S D d := h.mono fun _ hk hF => ⟨hF, hk⟩
theorem DevIs.far (h : DevIs w F p bl bm S D d) {w' : World} (hb : Below w.heap.size w w') {g : Nat} (hg : w.heap.size ≤ g) : DevIs w' (fun k => F k ∧ k ≠ g) p bl bm S D d :=
  (h.tight.below hb).mono fun k _ hk => ⟨hk.1, by omega⟩
theorem write_far {i : Nat} {bb bo c : Nat} {l : List UInt8} (h : DevIs w (fun k => F k ∧ k ≠ bb) p bl bm S D d) (hi : i < d.L.length) (hb : d.burns 2 = false) (hn : d.n < 1000000)
    (hl : l.length = 256) (hr : w.rangeAt bb bo (cellsB l)) (hbb : bb < w.heap.size) (hF : ∀ k, w.heap.size ≤ k → F k) :
    Calls Try.prog 20 #[at0 p, .int .i64 (i : Int), .slice (some ⟨bb, bo, none⟩) 256 c] w fun e w' => ∃ S' D', e = .returned (.int .i64 0) ∧ DevIs w' F p bl bm S' D' ((d.burn 2).put i l) ∧ Only F w w' := by
  refine (write_ok h hi hb hn hl hr hbb (fun hn => hn.2 rfl) (fun k hk => ⟨hF k hk, by omega⟩)).mono ?_
  rintro e w' ⟨S', D', rfl, hd, ho⟩
  exact ⟨S', D', rfl, hd.mono fun k _ hk => hk.1, ho.mono fun k _ hk => hk.1⟩
theorem Dev.burn_idle (d : Dev) (k : Nat) (h : (d.f k).1 = false) : d.burn k = d := by simp [Dev.burn, h]
theorem Dev.burns_idle (d : Dev) (k : Nat) (h : (d.f k).1 = false) : d.burns k = false := by simp [Dev.burns, h]
theorem range_new {g : Nat} {t : TypeId} {xs : List Value} (hg : w.heap[g]? = some (.cells xs.toArray t (0, 0))) : w.rangeAt g 0 xs := rangeAt_block hg fun j u hu => by rw [Nat.zero_add]; exact hu
theorem Dev.new_length (n : Nat) : (Dev.new n).L.length = n := by simp [Dev.new]
theorem Dev.flush_length (d : Dev) : d.flush.L.length = d.L.length := by simp [Dev.flush]
theorem waits_none (d : Dev) (h : ∀ i, d.Q i = []) : d.waits = [] := by
  unfold Dev.waits
  rw [List.filter_eq_nil_iff]
  intro i _
  simp [h i]
end
/-- What is put and flushed is there behind a loss of power. -/
theorem Dev.kept (d : Dev) (i : Nat) (l : List UInt8) (hi : i < d.L.length) (ks : List Int) : (((d.put i l).flush).crash ks).now i = l := by
  have h1 : (d.put i l).flush.waits = [] := waits_none _ fun _ => rfl
  simp only [Dev.now, Dev.crash, h1, lose]
  simp [Dev.flush, Dev.put, Dev.now, hi]
/-- The bytes that 'lives' writes. -/
def sevens : List UInt8 := List.replicate 256 7
set_option maxRecDepth 100000 in
set_option maxHeartbeats 1000000 in
theorem lives_any (w : World) : Calls Try.prog 8 #[] w fun e w' => e = .returned (.bool true) ∧ Below w.heap.size w w' := by
  obtain ⟨F, hF⟩ : ∃ F : Nat → Prop, F = fun k => w.heap.size ≤ k := ⟨_, rfl⟩
  have hFresh : ∀ w' : World, w.heap.size ≤ w'.heap.size → ∀ k, w'.heap.size ≤ k → F k := fun w' hw k hk => by rw [hF]; exact Nat.le_trans hw hk
  have hBelow : ∀ w', Only F w w' → Below w.heap.size w w' := fun w' h => by rw [hF] at h; exact h.below (Nat.le_refl _)
  have hnew := new_ok (n := 16) w F ⟨by omega, by omega⟩ (hFresh w (Nat.le_refl _))
  obtain ⟨l, hl⟩ : ∃ l, l = List.replicate 256 (7 : UInt8) := ⟨_, rfl⟩
  have hl256 : l.length = 256 := by rw [hl]; exact List.length_replicate
  have hfull : ∀ w, Calls Try.prog 21 #[.int .u8 7] w fun e w' => ∃ g, e = .returned (.slice (some ⟨g, 0, none⟩) 256 256) ∧ w.heap.size ≤ g ∧ w'.heap[g]? = some (.cells (cellsB l).toArray 5 (0, 0)) ∧ Below w.heap.size w w' := fun w => by rw [hl]; exact full_any 7 w
  have hl9 : (cellsB l)[9]? = some (.int .u8 7) := by rw [hl, cellsB_replicate]; exact List.getElem?_replicate_of_lt (by omega)
  obtain ⟨d0, hd0⟩ : ∃ d0, d0 = Dev.new 16 := ⟨_, rfl⟩
  rw [← hd0] at hnew
  have hlen : d0.L.length = 16 := by rw [hd0, Dev.new_length]
  have hf0 : ∀ k, (d0.f k).1 = false := fun k => by rw [hd0]; rfl
  have hn0 : d0.n = 0 := by rw [hd0]; rfl
  have hwrite : ∀ (w1 w2 : World) (p bl bm g : Nat) (S : Nat → Value) (D : DataW Value), DevIs w1 F p bl bm S D d0 → Only F w w1 → Below w1.heap.size w1 w2 → w1.heap.size ≤ g → w2.heap[g]? = some (.cells (cellsB l).toArray 5 (0, 0)) →
      Calls Try.prog 20 #[at0 p, .int .i64 3, .slice (some ⟨g, 0, none⟩) 256 256] w2 fun e w' => ∃ S' D', e = .returned (.int .i64 0) ∧ DevIs w' F p bl bm S' D' (d0.put 3 l) ∧ Only F w w' := by
    intro w1 w2 p bl bm g S D hd ho hb hg hh
    have h := write_far (i := 3) (c := 256) (hd.far hb hg) (by omega) (Dev.burns_idle _ _ (hf0 2)) (by omega) hl256 (range_new hh) (Array.getElem?_eq_some_iff.1 hh).1 (hFresh w2 (Nat.le_trans ho.size hb.size))
    rw [Dev.burn_idle _ _ (hf0 2)] at h
    refine h.mono ?_
    rintro e w' ⟨S', D', rfl, hd', ho'⟩
    exact ⟨S', D', rfl, hd', ho.trans ((Only.of_below hb).trans ho')⟩
  have hflush : ∀ (w1 : World) (p bl bm : Nat) (S : Nat → Value) (D : DataW Value), DevIs w1 F p bl bm S D (d0.put 3 l) → Only F w w1 →
      Calls Try.prog 22 #[at0 p] w1 fun e w' => ∃ S' D', e = .returned (.int .i64 0) ∧ DevIs w' F p bl bm S' D' (d0.put 3 l).flush ∧ Only F w w' := by
    intro w1 p bl bm S D hd ho
    have h := flush_ok hd (Dev.burns_idle _ _ (hf0 3)) (show d0.n + 1 < 1000000 by omega) (hFresh w1 ho.size)
    rw [Dev.burn_idle _ _ (show ((d0.put 3 l).f 3).1 = false from hf0 3)] at h
    refine h.mono ?_
    rintro e w' ⟨S', D', rfl, hd', ho'⟩
    exact ⟨S', D', rfl, hd', ho.trans ho'⟩
  have hcrash : ∀ (w1 : World) (p bl bm : Nat) (S : Nat → Value) (D : DataW Value), DevIs w1 F p bl bm S D (d0.put 3 l).flush → Only F w w1 →
      Calls Try.prog 16 #[at0 p, .slice none 0 0] w1 fun e w' => ∃ S' D', e = .returned (.tuple #[]) ∧ DevIs w' F p bl bm S' D' ((d0.put 3 l).flush.crash []) ∧ Only F w w' := by
    intro w1 p bl bm S D hd ho
    refine (crash_any (A := none) (c := 0) (ks := []) hd (show d0.n + 1 < 1000000 by omega) (fun h => absurd h (by simp)) (by simp) (hFresh w1 ho.size)).mono ?_
    rintro e w' ⟨S', D', rfl, hd', ho'⟩
    exact ⟨S', D', rfl, hd', ho.trans ho'⟩
  have hread : ∀ (w1 : World) (p bl bm : Nat) (S : Nat → Value) (D : DataW Value), DevIs w1 F p bl bm S D ((d0.put 3 l).flush.crash []) → Only F w w1 →
      Calls Try.prog 18 #[at0 p, .int .i64 3] w1 fun e w' => ∃ g, e = .returned (.tuple #[.slice (some ⟨g, 0, none⟩) 256 256, .int .i64 0]) ∧ w'.cell? ⟨g, 9, none⟩ = some (.int .u8 7) ∧ w'.cell? ⟨p, 8, none⟩ = some (.slice (some ⟨bl, 0, none⟩) 16 16) ∧ Only F w w' := by
    intro w1 p bl bm S D hd ho
    have h := read_ok (i := 3) hd (by simp only [Dev.crash, lose_length, Dev.flush_length, Dev.put, hlen]; omega) rfl (show d0.n + 1 < 1000000 by omega)
    rw [Dev.kept _ _ _ (by omega)] at h
    refine h.mono ?_
    rintro e w' ⟨g, rfl, hg, _, hd', ho'⟩
    refine ⟨g, rfl, ?_, ?_, ho.trans ho'⟩
    · rw [cell_of_row w' g 9 _ 71 (0, 0) hg, List.getElem?_toArray]
      exact hl9
    · have := hd'.c8
      simp only [Dev.burn, Dev.crash, lose_length, Dev.flush_length, Dev.put, hlen] at this
      exact this
  have Hnew := Lib.hid hnew
  have Hfull := Lib.hid hfull
  have Hwrite := Lib.hid hwrite
  have Hflush := Lib.hid hflush
  have Hcrash := Lib.hid hcrash
  have Hread := Lib.hid hread
  have HBelow := Lib.hid hBelow
  clear hnew hfull hwrite hflush hcrash hread hBelow hFresh hF hl hl256 hl9 hd0 hlen hf0 hn0
  go_enter Try.func8, Try.ntmps8
  go_wp2_with (first
    | (go_at_call 7; refine Hnew.out.mono ?_; rintro e w1 ⟨rfl, hd1, hb1⟩; have ho1 : Only F w w1 := Only.of_below hb1)
    | (go_at_call 21; refine (Hfull.out _).mono ?_; rintro e w2 ⟨g, rfl, hg, hh, hb2⟩)
    | (go_at_call 20; refine (Hwrite.out _ _ _ _ _ _ _ _ hd1 ho1 hb2 hg hh).mono ?_; rintro e w3 ⟨S3, D3, rfl, hd3, ho3⟩)
    | (go_at_call 22; refine (Hflush.out _ _ _ _ _ _ hd3 ho3).mono ?_; rintro e w4 ⟨S4, D4, rfl, hd4, ho4⟩)
    | (go_at_call 16; refine (Hcrash.out _ _ _ _ _ _ hd4 ho4).mono ?_; rintro e w5 ⟨S5, D5, rfl, hd5, ho5⟩)
    | (go_at_call 18; refine (Hread.out _ _ _ _ _ _ hd5 ho5).mono ?_; rintro e w6 ⟨g6, rfl, hc6, hc8, ho6⟩)
    | (go_at_call 9; refine (len_any hc8).mono ?_; rintro e w7 ⟨rfl, rfl⟩))
  go_ret
  exact ⟨rfl, HBelow.out _ ho6⟩
end Go.Proofs.Ytmifaneolfciiaa
