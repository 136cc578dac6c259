/-
  Pin, Unpin and Drop of a cache: contracts.
-/
import Derived.Test.YtfjcblppmoomdaaCacheG
namespace Go.Proofs.Ytfjcblppmoomdaa
open Go.RowKit
/-- Frame i, with so many pins. -/
def Cch.pinned (x : Cch) (i n : Nat) : Cch := { x with L := x.L.set i { x.L.getD i Frm.zero with pins := n } }
def Cch.pin (x : Cch) (no : Int) : Bool × Cch :=
  match x.holder no with
  | none => (false, x)
  | some i => (true, x.pinned i ((x.L.getD i Frm.zero).pins + 1))
def Cch.unpin (x : Cch) (no : Int) : Bool × Cch :=
  match x.holder no with
  | none => (false, x)
  | some i => if (x.L.getD i Frm.zero).pins = 0 then (false, x) else (true, x.pinned i ((x.L.getD i Frm.zero).pins - 1))
def Cch.drop (x : Cch) (no : Int) : Bool × Cch :=
  match x.holder no with
  | none => (false, x)
  | some i => if (x.L.getD i Frm.zero).pins = 0 then (true, x.wipe i) else (false, x)
section
variable {w w' : World} {G G' : Nat → Prop} {c bf p : Nat} {x y : Cch} {d d' : Dev}
theorem cpinned_any (h : CD w G c bf p x d) {i : Nat} (hi : i < x.L.length) (n : Nat) : CD (w.setCell ⟨bf, i * 261 + 260, none⟩ (.int .i64 (n : Int))) G c bf p (x.pinned i n) d ∧ Only (fun k => k = c ∨ k = bf) w (w.setCell ⟨bf, i * 261 + 260, none⟩ (.int .i64 (n : Int))) := by
  have hw := h.cache.wide.at_ hi
  have ho : Only (fun k => k = c ∨ k = bf) w (w.setCell ⟨bf, i * 261 + 260, none⟩ (.int .i64 (n : Int))) := Only.setCell (p := ⟨bf, i * 261 + 260, none⟩) (.inr rfl) _
  refine ⟨h.turned ?_ ho, ho⟩
  unfold Cch.pinned
  rw [getD_at hi]
  exact h.cache.set hi (by omega) (frCells_set260 hw n) hw
/-- A method of a frame, as a value. -/
abbrev meth (fn : Nat) : Value := .func (.func fn) #[] #[]
set_option maxRecDepth 100000 in
theorem tell_none (h : CD w G c bf p x d) {no : Int} (he : x.holder no = none) (fn : Nat) :
    Calls Try.prog 52 #[at0 c, .int .i64 no, meth fn] w fun e w' => e = .returned (.bool false) ∧ w = w' := by
  have hE := holder_any h.cache no
  rw [he] at hE
  have HE : Hid (Calls Try.prog 45 #[at0 c, .int .i64 no] w fun e w' => e = .returned (.pointer none) ∧ w = w') := Lib.hid hE
  clear h hE he
  go_enter Try.func52, Try.ntmps52
  go_wp2_with (first
    | (go_at_call 45; refine HE.out.mono ?_; rintro e w1 ⟨rfl, rfl⟩))
  go_ret
  exact ⟨rfl, rfl⟩
set_option maxRecDepth 100000 in
theorem tell_some_pin (h : CD w G c bf p x d) {no : Int} {i : Nat} (he : x.holder no = some i) {b : Bool} {Q : World → Prop} (hF : Calls Try.prog 53 #[frAt bf (i * 261)] w fun e w' => e = .returned (.bool b) ∧ Q w') :
    Calls Try.prog 52 #[at0 c, .int .i64 no, meth 53] w fun e w' => e = .returned (.bool b) ∧ Q w' := by
  have hE := holder_any h.cache no
  rw [he] at hE
  have HE : Hid (Calls Try.prog 45 #[at0 c, .int .i64 no] w fun e w' => e = .returned (frAt bf (i * 261)) ∧ w = w') := Lib.hid hE
  have HF := Lib.hid hF
  clear h hE he hF
  go_enter Try.func52, Try.ntmps52
  go_wp2_with (first
    | (go_at_call 45; refine HE.out.mono ?_; rintro e w1 ⟨rfl, rfl⟩))
  refine HF.out.mono ?_
  rintro e w1 ⟨rfl, hq⟩
  go_wp2_with fail
  go_ret
  exact ⟨rfl, hq⟩
set_option maxRecDepth 100000 in
theorem tell_some_unpin (h : CD w G c bf p x d) {no : Int} {i : Nat} (he : x.holder no = some i) {b : Bool} {Q : World → Prop} (hF : Calls Try.prog 54 #[frAt bf (i * 261)] w fun e w' => e = .returned (.bool b) ∧ Q w') :
    Calls Try.prog 52 #[at0 c, .int .i64 no, meth 54] w fun e w' => e = .returned (.bool b) ∧ Q w' := by
  have hE := holder_any h.cache no
  rw [he] at hE
  have HE : Hid (Calls Try.prog 45 #[at0 c, .int .i64 no] w fun e w' => e = .returned (frAt bf (i * 261)) ∧ w = w') := Lib.hid hE
  have HF := Lib.hid hF
  clear h hE he hF
  go_enter Try.func52, Try.ntmps52
  go_wp2_with (first
    | (go_at_call 45; refine HE.out.mono ?_; rintro e w1 ⟨rfl, rfl⟩))
  refine HF.out.mono ?_
  rintro e w1 ⟨rfl, hq⟩
  go_wp2_with fail
  go_ret
  exact ⟨rfl, hq⟩
set_option maxRecDepth 100000 in
theorem tell_some_drop (h : CD w G c bf p x d) {no : Int} {i : Nat} (he : x.holder no = some i) {b : Bool} {Q : World → Prop} (hF : Calls Try.prog 55 #[frAt bf (i * 261)] w fun e w' => e = .returned (.bool b) ∧ Q w') :
    Calls Try.prog 52 #[at0 c, .int .i64 no, meth 55] w fun e w' => e = .returned (.bool b) ∧ Q w' := by
  have hE := holder_any h.cache no
  rw [he] at hE
  have HE : Hid (Calls Try.prog 45 #[at0 c, .int .i64 no] w fun e w' => e = .returned (frAt bf (i * 261)) ∧ w = w') := Lib.hid hE
  have HF := Lib.hid hF
  clear h hE he hF
  go_enter Try.func52, Try.ntmps52
  go_wp2_with (first
    | (go_at_call 45; refine HE.out.mono ?_; rintro e w1 ⟨rfl, rfl⟩))
  refine HF.out.mono ?_
  rintro e w1 ⟨rfl, hq⟩
  go_wp2_with fail
  go_ret
  exact ⟨rfl, hq⟩
set_option maxRecDepth 100000 in
theorem tell_nil (no : Int) (fn : Nat) (w : World) : Calls Try.prog 52 #[.pointer none, .int .i64 no, meth fn] w fun e w' => e = .returned (.bool false) ∧ w = w' := by
  go_enter Try.func52, Try.ntmps52
  go_wp2_with fail
  go_ret
  exact ⟨rfl, rfl⟩
set_option maxRecDepth 100000 in
theorem cpin_nil (no : Int) (w : World) : Calls Try.prog 27 #[.pointer none, .int .i64 no] w fun e w' => e = .returned (.bool false) ∧ w = w' := by
  go_enter Try.func27, Try.ntmps27
  go_wp2_with fail
  refine (tell_nil no 53 w).mono ?_
  rintro e w1 ⟨rfl, rfl⟩
  go_wp2_with fail
  go_ret
  exact ⟨rfl, rfl⟩
set_option maxRecDepth 100000 in
theorem cunpin_nil (no : Int) (w : World) : Calls Try.prog 28 #[.pointer none, .int .i64 no] w fun e w' => e = .returned (.bool false) ∧ w = w' := by
  go_enter Try.func28, Try.ntmps28
  go_wp2_with fail
  refine (tell_nil no 54 w).mono ?_
  rintro e w1 ⟨rfl, rfl⟩
  go_wp2_with fail
  go_ret
  exact ⟨rfl, rfl⟩
set_option maxRecDepth 100000 in
theorem cdrop_nil (no : Int) (w : World) : Calls Try.prog 29 #[.pointer none, .int .i64 no] w fun e w' => e = .returned (.bool false) ∧ w = w' := by
  go_enter Try.func29, Try.ntmps29
  go_wp2_with fail
  refine (tell_nil no 55 w).mono ?_
  rintro e w1 ⟨rfl, rfl⟩
  go_wp2_with fail
  go_ret
  exact ⟨rfl, rfl⟩
set_option maxRecDepth 100000 in
theorem cpin_any (h : CD w G c bf p x d) (hp : ∀ i, (x.L.getD i Frm.zero).pins < 1000000) (no : Int) :
    Calls Try.prog 27 #[at0 c, .int .i64 no] w fun e w' => e = .returned (.bool (x.pin no).1) ∧ CD w' G c bf p (x.pin no).2 d ∧ Only (Foot G c bf) w w' := by
  have hT : Calls Try.prog 52 #[at0 c, .int .i64 no, meth 53] w fun e w' => e = .returned (.bool (x.pin no).1) ∧ CD w' G c bf p (x.pin no).2 d ∧ Only (Foot G c bf) w w' := by
    rcases he : x.holder no with _ | i
    · have e : x.pin no = (false, x) := by unfold Cch.pin; rw [he]
      rw [e]
      refine (tell_none h he _).mono ?_
      rintro e w' ⟨rfl, rfl⟩
      exact ⟨rfl, h, Only.refl _ _⟩
    · have e : x.pin no = (true, x.pinned i ((x.L.getD i Frm.zero).pins + 1)) := by unfold Cch.pin; rw [he]
      rw [e]
      have hi := (holder_lt he).1
      have hc := h.cache.f260 hi
      have hpi := hp i
      rw [← getD_at hi] at hc
      refine tell_some_pin h he ((pin_any hpi hc (h.cache.freeF _)).mono ?_)
      rintro e w' ⟨rfl, rfl⟩
      obtain ⟨h1, h2⟩ := cpinned_any h hi ((x.L.getD i Frm.zero).pins + 1)
      exact ⟨rfl, h1, h2.cache⟩
  have HT := Lib.hid hT
  clear hT h hp
  go_enter Try.func27, Try.ntmps27
  go_wp2_with fail
  refine HT.out.mono ?_
  rintro e w1 ⟨rfl, h1, h2⟩
  go_wp2_with fail
  go_ret
  exact ⟨rfl, h1, h2⟩
set_option maxRecDepth 100000 in
theorem cunpin_any (h : CD w G c bf p x d) (hp : ∀ i, (x.L.getD i Frm.zero).pins < 1000000) (no : Int) :
    Calls Try.prog 28 #[at0 c, .int .i64 no] w fun e w' => e = .returned (.bool (x.unpin no).1) ∧ CD w' G c bf p (x.unpin no).2 d ∧ Only (Foot G c bf) w w' := by
  have hT : Calls Try.prog 52 #[at0 c, .int .i64 no, meth 54] w fun e w' => e = .returned (.bool (x.unpin no).1) ∧ CD w' G c bf p (x.unpin no).2 d ∧ Only (Foot G c bf) w w' := by
    rcases he : x.holder no with _ | i
    · have e : x.unpin no = (false, x) := by unfold Cch.unpin; rw [he]
      rw [e]
      refine (tell_none h he _).mono ?_
      rintro e w' ⟨rfl, rfl⟩
      exact ⟨rfl, h, Only.refl _ _⟩
    · have hi := (holder_lt he).1
      have hc := h.cache.f260 hi
      have hpi := hp i
      rw [← getD_at hi] at hc
      have e : x.unpin no = if (x.L.getD i Frm.zero).pins = 0 then (false, x) else (true, x.pinned i ((x.L.getD i Frm.zero).pins - 1)) := by unfold Cch.unpin; rw [he]
      rw [e]
      rcases hn : (x.L.getD i Frm.zero).pins with _ | n
      · rw [hn] at hc
        refine tell_some_unpin h he ((unpin_no hc).mono ?_)
        rintro e w' ⟨rfl, rfl⟩
        exact ⟨rfl, h, Only.refl _ _⟩
      · rw [hn] at hc hpi
        refine tell_some_unpin h he ((unpin_yes (n := n) (by omega) (by simpa using hc) (h.cache.freeF _)).mono ?_)
        rintro e w' ⟨rfl, rfl⟩
        obtain ⟨h1, h2⟩ := cpinned_any h hi n
        exact ⟨rfl, h1, h2.cache⟩
  have HT := Lib.hid hT
  clear hT h hp
  go_enter Try.func28, Try.ntmps28
  go_wp2_with fail
  refine HT.out.mono ?_
  rintro e w1 ⟨rfl, h1, h2⟩
  go_wp2_with fail
  go_ret
  exact ⟨rfl, h1, h2⟩
set_option maxRecDepth 100000 in
theorem cdrop_any (h : CD w G c bf p x d) (no : Int) :
    Calls Try.prog 29 #[at0 c, .int .i64 no] w fun e w' => e = .returned (.bool (x.drop no).1) ∧ CD w' G c bf p (x.drop no).2 d ∧ Only (Foot G c bf) w w' := by
  have hT : Calls Try.prog 52 #[at0 c, .int .i64 no, meth 55] w fun e w' => e = .returned (.bool (x.drop no).1) ∧ CD w' G c bf p (x.drop no).2 d ∧ Only (Foot G c bf) w w' := by
    rcases he : x.holder no with _ | i
    · have e : x.drop no = (false, x) := by unfold Cch.drop; rw [he]
      rw [e]
      refine (tell_none h he _).mono ?_
      rintro e w' ⟨rfl, rfl⟩
      exact ⟨rfl, h, Only.refl _ _⟩
    · have hi := (holder_lt he).1
      have hc := h.cache.f260 hi
      rw [← getD_at hi] at hc
      have e : x.drop no = if (x.L.getD i Frm.zero).pins = 0 then (true, x.wipe i) else (false, x) := by unfold Cch.drop; rw [he]
      rw [e]
      by_cases hn : (x.L.getD i Frm.zero).pins = 0
      · rw [if_pos hn]
        exact tell_some_drop h he (cdrop_yes h hi hn)
      · rw [if_neg hn]
        refine tell_some_drop h he ((drop_no (by omega) hc).mono ?_)
        rintro e w' ⟨rfl, rfl⟩
        exact ⟨rfl, h, Only.refl _ _⟩
  have HT := Lib.hid hT
  clear hT h
  go_enter Try.func29, Try.ntmps29
  go_wp2_with fail
  refine HT.out.mono ?_
  rintro e w1 ⟨rfl, h1, h2⟩
  go_wp2_with fail
  go_ret
  exact ⟨rfl, h1, h2⟩
end
end Go.Proofs.Ytfjcblppmoomdaa
