/-
  A space: Alloc, Room: contracts.
-/
import Derived.Test.YtllhilnajjohiaaSpF
import Derived.Deep.QuietTactic
import Derived.BigQuiet
namespace Go.Proofs.Ytllhilnajjohiaa
open Go.RowKit
/-- What may not be given. -/
def Spc.held (x : Spc) : Nat → Bool := both x.now x.sure
theorem Spc.Ok.held {x : Spc} (h : x.Ok) : ∀ i, x.n ≤ i → x.held i = false := fun i hi => by
  show (x.now i || x.sure i) = false
  rw [h.now i hi, h.sure i hi]
  rfl
theorem least_or (f : Nat → Bool) : ∀ n, (∃ m, m < n ∧ LeastNot f m) ∨ ∀ i, i < n → f i = true
  | 0 => .inr fun i hi => by omega
  | n + 1 => by
    rcases least_or f n with ⟨m, hm, hl⟩ | h
    · exact .inl ⟨m, by omega, hl⟩
    · cases hn : f n
      · exact .inl ⟨n, by omega, h, hn⟩
      · exact .inr fun i hi => by
          by_cases e : i = n
          · subst e; exact hn
          · exact h i (by omega)
section
variable {w w' : World} {a : Nat} {x : Spc}
/-- A set that was stored in a new variable. -/
theorem SetAt.new (w : World) (f : Nat → Bool) (t : TypeId) : SetAt (w.alloc (.cells (setC f).toArray t)) w.heap.size 0 f := fun k hk => by
  rw [Nat.zero_add, cell_of_row _ _ k _ _ (0, 0) (heap_alloc_last w _), List.getElem?_toArray]
  exact setC_get f hk
set_option maxRecDepth 100000 in
theorem alloc_yes (h : SpcIs w a x) {m : Nat} (hm : LeastNot x.held m) (hmn : m < x.n) : Calls Try.prog 16 #[spAt a] w fun e w' => e = .returned (.tuple #[.int .i64 (m : Int), .int .i64 0]) ∧ SpcIs w' a (x.put m true) ∧ Only (fun k => k = a) w w' := by
  obtain ⟨Z, hZ, hz⟩ := zero_set
  have hi2 := info_setA x.held
  have hx : Z.toArray.size = (setC x.held).toArray.size := by simp [hZ, setC_length]
  have hone : (setC x.held).toArray.all (·.oneCell') = true := all_oneCell_toArray (setC_one _)
  have hh := Lib.hid (held_any h)
  have hs := h.ok.size
  have H := Lib.hid h
  have Hm := Lib.hid hm
  clear h hm
  go_enter Try.func16, Try.ntmps16
  go_wp2_with (first
    | (go_at_call 29; refine hh.out.mono ?_; rintro e w1 ⟨rfl, hb1⟩; have Hb1 := Lib.hid hb1; clear hb1)
    | (with_reducible refine wpList_alloc_zero (o := ⟨some 4, .alloc 49, _, _, _, _⟩) rfl 49 rfl Z.toArray hz ?_)
    | ((with_reducible refine wpList_store_new (o := ⟨none, .store 49 (.tmp 4) (.tmp 9), _, _, _, _⟩) rfl 49 (.tmp 4) (.tmp 9) rfl Z.toArray (setC x.held).toArray ?_ ?_ hi2 hx hone ?_); exact rfl; exact rfl)
    | (go_at_call 30; refine (setleast_any (SetAt.new _ x.held 49)).mono ?_; rintro e w2 ⟨m2, rfl, g1, g2, g3, hb2⟩
       have em : m2 = m := by
         have hf := H.out.ok.held
         have : LeastNot x.held m2 := ⟨g2, if h1 : m2 < 1600 then g3 h1 else hf m2 (by omega)⟩
         exact this.uniq Hm.out
       subst em
       have hbb : Below w.heap.size w w2 := Hb1.out.trans ((((Below.refl w1.heap.size w1).alloc (Nat.le_refl _) _).trans (hb2.mono (by simp))).mono Hb1.out.size)
       have hsp := H.out.below hbb
       have c0 := hsp.c0
       have Hsp := Lib.hid hsp
       have Hbb := Lib.hid hbb
       clear g1 g2 g3 hb2 hsp hbb)
    | (go_at_call 25; refine (added_any Hsp.out hmn).mono ?_; rintro e w3 ⟨rfl, k1, k2⟩; have Hf := Lib.hid (And.intro k1 ((Only.of_below Hbb.out).mono (fun k hk he => absurd hk he) |>.trans k2)); clear k1 k2))
  go_ret2
  exact ⟨rfl, Hf.out⟩
set_option maxRecDepth 100000 in
theorem alloc_no (h : SpcIs w a x) (hm : ∀ i, i < x.n → x.held i = true) : Calls Try.prog 16 #[spAt a] w fun e w' => e = .returned (.tuple #[.int .i64 (-1), .int .i64 2]) ∧ SpcIs w' a x ∧ Only (fun k => k = a) w w' := by
  obtain ⟨Z, hZ, hz⟩ := zero_set
  have hi2 := info_setA x.held
  have hx : Z.toArray.size = (setC x.held).toArray.size := by simp [hZ, setC_length]
  have hone : (setC x.held).toArray.all (·.oneCell') = true := all_oneCell_toArray (setC_one _)
  have hh := Lib.hid (held_any h)
  have hs := h.ok.size
  have H := Lib.hid h
  have Hm := Lib.hid hm
  clear h hm
  go_enter Try.func16, Try.ntmps16
  go_wp2_with (first
    | (go_at_call 29; refine hh.out.mono ?_; rintro e w1 ⟨rfl, hb1⟩; have Hb1 := Lib.hid hb1; clear hb1)
    | (with_reducible refine wpList_alloc_zero (o := ⟨some 4, .alloc 49, _, _, _, _⟩) rfl 49 rfl Z.toArray hz ?_)
    | ((with_reducible refine wpList_store_new (o := ⟨none, .store 49 (.tmp 4) (.tmp 9), _, _, _, _⟩) rfl 49 (.tmp 4) (.tmp 9) rfl Z.toArray (setC x.held).toArray ?_ ?_ hi2 hx hone ?_); exact rfl; exact rfl)
    | (go_at_call 30; refine (setleast_any (SetAt.new _ x.held 49)).mono ?_; rintro e w2 ⟨m2, rfl, g1, g2, g3, hb2⟩
       have em : x.n ≤ m2 := by
         refine Nat.le_of_not_lt fun hlt => ?_
         have h1 := Hm.out m2 hlt
         have h2 := g3 (by omega)
         rw [h1] at h2
         cases h2
       have hbb : Below w.heap.size w w2 := Hb1.out.trans ((((Below.refl w1.heap.size w1).alloc (Nat.le_refl _) _).trans (hb2.mono (by simp))).mono Hb1.out.size)
       have hsp := H.out.below hbb
       have c0 := hsp.c0
       have Hsp := Lib.hid hsp
       have Hbb := Lib.hid hbb
       clear g1 g2 g3 hb2 hsp hbb))
  go_ret2
  exact ⟨rfl, Hsp.out, (Only.of_below Hbb.out).mono (fun k hk he => absurd hk he)⟩
set_option maxRecDepth 100000 in
theorem room_any (h : SpcIs w a x) : Calls Try.prog 23 #[spAt a] w fun e w' => e = .returned (.int .i64 (_root_.Go.Proofs.Ytllhilnajjohiaa.free x.held x.n : Nat)) ∧ Below w.heap.size w w' := by
  obtain ⟨Z, hZ, hz⟩ := zero_set
  have hi2 := info_setA x.held
  have hx : Z.toArray.size = (setC x.held).toArray.size := by simp [hZ, setC_length]
  have hone : (setC x.held).toArray.all (·.oneCell') = true := all_oneCell_toArray (setC_one _)
  have hh := Lib.hid (held_any h)
  have hs := h.ok.size
  have hcn := cnt_to h.ok.held (m := 1600) (by omega)
  have hfc := free_cnt x.held x.n
  rw [← hcn] at hfc
  have H := Lib.hid h
  obtain ⟨c, hc⟩ : ∃ c, c = cnt x.held 1600 := ⟨_, rfl⟩
  obtain ⟨n, hn⟩ : ∃ n, n = x.n := ⟨_, rfl⟩
  obtain ⟨r, hr⟩ : ∃ r, r = _root_.Go.Proofs.Ytllhilnajjohiaa.free x.held x.n := ⟨_, rfl⟩
  rw [← hr, ← hc, ← hn] at hfc
  rw [← hr]
  rw [← hn] at hs
  have Hc := Lib.hid hc
  have Hn := Lib.hid hn
  clear h hcn hc hn hr
  go_enter Try.func23, Try.ntmps23
  go_wp2_with (first
    | (go_at_call 29; refine hh.out.mono ?_; rintro e w1 ⟨rfl, hb1⟩; have Hb1 := Lib.hid hb1; clear hb1)
    | (with_reducible refine wpList_alloc_zero (o := ⟨some 3, .alloc 49, _, _, _, _⟩) rfl 49 rfl Z.toArray hz ?_)
    | ((with_reducible refine wpList_store_new (o := ⟨none, .store 49 (.tmp 3) (.tmp 7), _, _, _, _⟩) rfl 49 (.tmp 3) (.tmp 7) rfl Z.toArray (setC x.held).toArray ?_ ?_ hi2 hx hone ?_); exact rfl; exact rfl))
  have hbb : Below w.heap.size w (w1.alloc (.cells (setC x.held).toArray 49)) := Hb1.out.alloc Hb1.out.size _
  have hsp := H.out.below hbb
  have c0 := hsp.c0
  rw [← Hn.out] at c0
  have Hbb := Lib.hid hbb
  have hst := SetAt.new w1 x.held 49
  clear hsp hbb
  go_wp2_with fail
  generalize w1.alloc (.cells (setC x.held).toArray 49) = w2 at *
  have hcount : ∀ k, Calls Try.prog 41 #[ptrAt w1.heap.size 0] (w2.drewN k) fun e w' => e = .returned (.int .i64 (c : Int)) ∧ w' = w2.drewN k := fun k => by
    have h2 : SetAt (w2.drewN k) w1.heap.size 0 x.held := hst
    refine (setcount_any h2).mono ?_
    rintro e w' ⟨rfl, rfl⟩
    rw [← Hc.out]
    exact ⟨rfl, rfl⟩
  have hw : IntKind.i64.wrap ((n : Int) - (c : Int)) = (r : Int) := by
    rw [show (n : Int) - (c : Int) = (r : Int) by omega]
    exact IntWalk.i64_in _ (by omega)
  go_quiet (exact Calls.quiet_of_same (hcount _))
  go_wp2_with fail
  go_ret
  exact ⟨rfl, ⟨Hbb.out.os, Hbb.out.tape, Hbb.out.output, Hbb.out.size, Hbb.out.block⟩⟩
end
end Go.Proofs.Ytllhilnajjohiaa
