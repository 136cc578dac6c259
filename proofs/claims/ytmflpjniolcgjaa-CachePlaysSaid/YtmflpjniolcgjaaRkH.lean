/-
  The program's device and the document's own, side by side: what they have in common stays so, whatever is done to both.
-/
import Derived.Test.YtmflpjniolcgjaaRkF
import Derived.Test.YtmflpjniolcgjaaDevFail
namespace Go.Proofs.Ytmflpjniolcgjaa
open Go.RowKit
/-- The two devices are alike. -/
structure Like (d : Dev) (x : Ref) : Prop where
  L : d.L = x.L
  Q : ∀ i, i < d.L.length → d.Q i = vers x.W i
  f : ∀ k, 1 ≤ k → k ≤ 3 → x.f k = if (d.f k).1 = true then ((d.f k).2 : Int) else -1
  n : d.n = x.n
section
variable {d : Dev} {x : Ref}
theorem Like.burns (h : Like d x) {k : Nat} (h1 : 1 ≤ k) (h3 : k ≤ 3) : d.burns k = x.burns k := by
  unfold Dev.burns Ref.burns
  rw [h.f k h1 h3]
  rcases (d.f k) with ⟨b, m⟩
  cases b
  · simp
  · rcases m with _ | m
    · simp
    · have : ((m : Int) + 1 == 0) = false := by rw [beq_eq_false_iff_ne]; omega
      simp [this]
theorem Like.burn (h : Like d x) (k : Nat) (h1 : 1 ≤ k) (h3 : k ≤ 3) : Like (d.burn k) (x.burn k) := by
  refine ⟨h.L, h.Q, fun j j1 j3 => ?_, h.n⟩
  show (if j = k ∧ x.f k ≠ -1 then x.f k - 1 else x.f j) = _
  have hk := h.f k h1 h3
  have hj := h.f j j1 j3
  unfold Dev.burn
  by_cases e : j = k
  · subst e
    rcases hd : d.f j with ⟨b, m⟩
    rw [hd] at hk
    cases b
    · simp at hk
      simp [hk, hd]
    · simp at hk
      rcases m with _ | m
      · simp at hk
        simp [hk]
      · have e1 : x.f j ≠ -1 := by omega
        simp [e1]
        omega
  · simp [e]
    exact hj
theorem Like.now (h : Like d x) {i : Nat} (hi : i < d.L.length) : d.now i = x.now i := by
  unfold Dev.now Ref.now
  rw [h.Q i hi, h.L]
theorem Like.put (h : Like d x) (i : Nat) (l : List UInt8) : Like (d.put i l) (x.put i l) := by
  refine ⟨h.L, fun j hj => ?_, h.f, by simp [Dev.put, Ref.put, h.n]⟩
  show (if j = i then d.Q i ++ [l] else d.Q j) = vers (x.W ++ [(i, l)]) j
  rw [vers_append, vers_one]
  have hq := h.Q j hj
  by_cases e : j = i
  · subst e
    rw [if_pos rfl, if_pos rfl, hq]
  · rw [if_neg e, if_neg (fun h => e h.symm), List.append_nil, hq]
theorem Like.told (h : Like d x) (k a : Nat) : Like (d.told k a) (x.told k a) := by
  refine ⟨h.L, h.Q, fun j j1 j3 => ?_, h.n⟩
  show (if j = k then (a : Int) else x.f j) = _
  unfold Dev.told
  by_cases e : j = k
  · simp [e]
  · simp [e]
    exact h.f j j1 j3
theorem Like.waits (h : Like d x) : d.waits = x.waits := by
  unfold Dev.waits Ref.waits waitsUp
  rw [← h.L]
  refine List.filter_congr fun i hi => ?_
  rw [h.Q i (by simpa using hi)]
theorem laid_get (L : List (List UInt8)) (i : Nat) (hi : i < L.length) : ∀ W : List (Nat × List UInt8), (laid L W).getD i [] = (vers W i).getLast?.getD (L.getD i []) := by
  intro W
  induction W generalizing L with
  | nil => rfl
  | cons y W ih =>
    have e : laid L (y :: W) = laid (L.set y.1 y.2) W := rfl
    rw [e, ih _ (by simpa using hi)]
    have hv : vers (y :: W) i = (if y.1 = i then [y.2] else []) ++ vers W i := by
      rw [show y :: W = [y] ++ W from rfl, vers_append, vers_one]
    rw [hv]
    by_cases h : y.1 = i
    · rw [if_pos h]
      subst h
      rcases hW : vers W y.1 with _ | ⟨a, l⟩
      · simp [List.getD_eq_getElem?_getD, hi]
      · simp [List.getLast?_cons]
    · rw [if_neg h, List.nil_append]
      congr 1
      simp [List.getD_eq_getElem?_getD, List.getElem?_set_ne h]
theorem Like.flush (h : Like d x) : Like d.flush x.flush := by
  refine ⟨?_, fun i _ => rfl, h.f, h.n⟩
  show (List.range d.L.length).map d.now = laid x.L x.W
  refine List.ext_getElem (by rw [List.length_map, List.length_range, laid_length, h.L]) fun i h1 h2 => ?_
  have hi : i < d.L.length := by simpa using h1
  rw [List.getElem_map, List.getElem_range, h.now hi]
  have := laid_get x.L i (by rw [← h.L]; exact hi) x.W
  rw [List.getD_eq_getElem?_getD, List.getElem?_eq_getElem h2, Option.getD_some] at this
  rw [this]
  rfl
theorem Like.new (n : Nat) : Like (Dev.new n) (Ref.new n) := ⟨rfl, fun _ _ => rfl, fun _ _ _ => rfl, rfl⟩
end
section
variable {w w' : World} {G G' Z Z' : Nat → Prop} {q : Nat} {vL vA vB : Value} {ls bs : List Value} {x : Ref}
theorem rwrite_arg {i : Int} {A : Option Addr} {n c : Nat} (h : RefIs w G Z q vL vA vB ls bs x) (hi : i < 0 ∨ (x.L.length : Int) ≤ i) : Calls Try.prog 57 #[at0 q, .int .i64 i, .slice A n c] w fun e w' => e = .returned (.int .i64 1) ∧ w = w' := by
  have hh := Lib.hid (rhas_out h hi)
  clear h hi
  go_enter Try.func57, Try.ntmps57
  go_wp2_with (first | (go_at_call 67; refine hh.out.mono ?_; rintro e w' ⟨rfl, rfl⟩))
  go_ret
  exact ⟨rfl, rfl⟩
theorem rwrite_io {i : Nat} {A : Option Addr} {c : Nat} (h : RefIs w G Z q vL vA vB ls bs x) (hi : i < x.L.length) (hb : x.burns 2 = true) : Calls Try.prog 57 #[at0 q, .int .i64 (i : Int), .slice A 256 c] w fun e w' => e = .returned (.int .i64 3) ∧ RefIs w' G Z q vL vA vB ls bs (x.burn 2) ∧ Only G w w' := by
  have hh := Lib.hid (rhas_in h hi)
  have hf := burns_any h (k := 2) (by omega)
  rw [hb] at hf
  have Hf := Lib.hid hf
  clear h hi hb hf
  go_enter Try.func57, Try.ntmps57
  go_wp2_with (first
    | (go_at_call 67; refine hh.out.mono ?_; rintro e w' ⟨rfl, rfl⟩)
    | (go_at_call 68; refine Hf.out.mono ?_; rintro e w1 ⟨rfl, hd, ho⟩))
  go_ret
  exact ⟨rfl, hd, ho⟩
end
end Go.Proofs.Ytmflpjniolcgjaa
