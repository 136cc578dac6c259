/-
  A space: Abort, Taken, Fresh, Free: contracts.
-/
import Derived.Test.YtllhilnajjohiaaSpD
namespace Go.Proofs.Ytllhilnajjohiaa
open Go.RowKit
section
variable {w w' : World} {a : Nat} {x : Spc}
theorem abort_any (h : SpcIs w a x) : Calls Try.prog 14 #[spAt a] w fun e w' => e = .returned (.tuple #[]) ∧ SpcIs w' a x.abort ∧ Only (fun k => k = a) w w' := by
  obtain ⟨w1, hrun, e1, e2, e3⟩ := store_agg (P := Try.prog) h.top (setC_one x.sure) (o := 1) (by rw [spCells_length, setC_length]; omega) (info_setC x.sure)
  rw [spCells_nowSure] at e1
  have hi := info_setC x.sure
  have hr := h.rSure
  have hfin : SpcIs w1 a x.abort ∧ Only (fun k => k = a) w w1 := ⟨⟨e1, h.ok.size, h.ok.sure, h.ok.sure⟩, Only.grown e2 fun g hg => (Option.some.inj hg).symm⟩
  have Hfin := Lib.hid hfin
  obtain ⟨Z, hZ⟩ : ∃ Z, Z = setC x.sure := ⟨_, rfl⟩
  rw [← hZ] at hrun hi hr
  clear hfin e1 e2 e3 hZ h
  go_enter Try.func14, Try.ntmps14
  go_wp2_with (first
    | ((with_reducible refine wpList_load_mid (op := ⟨some 8, .load 49 (.tmp 7), _, _, _, _⟩) rfl 49 (.tmp 7) rfl a 201 ?_ Z (.array 200 5) hr Try.underlying49 rfl hi ?_); exact rfl)
    | ((with_reducible refine wpList_stored (o := ⟨none, .store 49 (.tmp 10) (.tmp 8), _, _, _, none⟩) rfl 49 (.tmp 10) (.tmp 8) rfl (.pointer (some ⟨a, 1, none⟩)) (.agg Z.toArray) ?_ ?_ w1 hrun ?_); exact rfl; exact rfl))
  go_end0
  exact ⟨rfl, Hfin.out⟩
/-- Is there such a page? -/
theorem has_yes (h : SpcIs w a x) {no : Nat} (hno : no < x.n) : Calls Try.prog 26 #[spAt a, .int .i64 (no : Int)] w fun e w' => e = .returned (.bool true) ∧ w = w' := by
  have h0 := h.c0
  obtain ⟨n, hn⟩ : ∃ n, n = x.n := ⟨_, rfl⟩
  rw [← hn] at h0 hno
  clear hn h
  go_enter Try.func26, Try.ntmps26
  go_wp2_with fail
  go_ret
  exact ⟨rfl, rfl⟩
theorem has_no (h : SpcIs w a x) {no : Int} (hno : no < 0 ∨ (x.n : Int) ≤ no) : Calls Try.prog 26 #[spAt a, .int .i64 no] w fun e w' => e = .returned (.bool false) ∧ w = w' := by
  have h0 := h.c0
  obtain ⟨n, hn⟩ : ∃ n, n = x.n := ⟨_, rfl⟩
  rw [← hn] at h0 hno
  clear hn h
  by_cases hz : no < 0
  · clear hno
    go_enter Try.func26, Try.ntmps26
    go_wp2_with fail
    go_ret
    exact ⟨rfl, rfl⟩
  · have hn : decide (no < (n : Int)) = false := by simp; omega
    clear hno
    go_enter Try.func26, Try.ntmps26
    go_wp2_with fail
    go_ret
    exact ⟨rfl, rfl⟩
/-- Is the page taken now? (What is told of any number.) -/
def Spc.taken (x : Spc) (no : Int) : Bool := decide (0 ≤ no) && x.now no.toNat
theorem Spc.taken_page (x : Spc) (no : Nat) : x.taken (no : Int) = x.now no := by simp [Spc.taken]
theorem Spc.Ok.taken_out (h : x.Ok) {no : Int} (hno : no < 0 ∨ (x.n : Int) ≤ no) : x.taken no = false := by
  unfold Spc.taken
  by_cases hz : no < 0
  · simp; omega
  · rw [h.now no.toNat (by omega)]; simp
/-- Is it taken now, and was not? -/
def Spc.fresh (x : Spc) (no : Int) : Bool := decide (0 ≤ no) && (x.now no.toNat && !x.sure no.toNat)
theorem Spc.fresh_page (x : Spc) (no : Nat) : x.fresh (no : Int) = (x.now no && !x.sure no) := by simp [Spc.fresh]
theorem page_or (n : Nat) (no : Int) : (no < 0 ∨ (n : Int) ≤ no) ∨ ∃ k : Nat, no = (k : Int) ∧ k < n := by
  by_cases h : no < 0
  · exact .inl (.inl h)
  · by_cases h2 : (n : Int) ≤ no
    · exact .inl (.inr h2)
    · exact .inr ⟨no.toNat, by omega, by omega⟩
theorem taken_any (h : SpcIs w a x) (no : Int) : Calls Try.prog 36 #[spAt a, .int .i64 no] w fun e w' => e = .returned (.bool (x.taken no)) ∧ w = w' := by
  rcases page_or x.n no with ho | ⟨k, rfl, hk⟩
  · rw [h.ok.taken_out ho]
    have hc := has_no h ho
    clear h ho
    go_enter Try.func36, Try.ntmps36
    go_wp2_with (go_at_call 26; refine hc.mono ?_; rintro e w' ⟨rfl, rfl⟩)
    go_ret
    exact ⟨rfl, rfl⟩
  · rw [x.taken_page]
    have hc := has_yes h hk
    have hs := h.ok.size
    have hd := sethas_any h.sNow (no := k) (by omega)
    clear h
    go_enter Try.func36, Try.ntmps36
    go_wp2_with (first
      | (go_at_call 26; refine hc.mono ?_; rintro e w' ⟨rfl, rfl⟩)
      | (go_at_call 27; refine hd.mono ?_; rintro e w' ⟨rfl, rfl⟩))
    go_ret
    exact ⟨rfl, rfl⟩
theorem fresh_any (h : SpcIs w a x) (no : Int) : Calls Try.prog 37 #[spAt a, .int .i64 no] w fun e w' => e = .returned (.bool (x.fresh no)) ∧ w = w' := by
  have hc := taken_any h no
  by_cases ht : x.taken no = true
  · rcases page_or x.n no with ho | ⟨k, rfl, hk⟩
    · rw [h.ok.taken_out ho] at ht; cases ht
    · rw [ht] at hc
      rw [x.taken_page] at ht
      rw [x.fresh_page, ht, Bool.true_and]
      have hs := h.ok.size
      have hd := sethas_any h.sSure (no := k) (by omega)
      clear h ht
      go_enter Try.func37, Try.ntmps37
      go_wp2_with (first
        | (go_at_call 36; refine hc.mono ?_; rintro e w' ⟨rfl, rfl⟩)
        | (go_at_call 27; refine hd.mono ?_; rintro e w' ⟨rfl, rfl⟩))
      go_ret
      exact ⟨rfl, rfl⟩
  · have hf : x.taken no = false := by simpa using ht
    rw [hf] at hc
    have hfr : x.fresh no = false := by
      unfold Spc.taken at hf
      unfold Spc.fresh
      revert hf
      cases decide (0 ≤ no) <;> cases x.now no.toNat <;> simp
    rw [hfr]
    clear hf ht hfr h
    go_enter Try.func37, Try.ntmps37
    go_wp2_with (go_at_call 36; refine hc.mono ?_; rintro e w' ⟨rfl, rfl⟩)
    go_ret
    exact ⟨rfl, rfl⟩
theorem SpcIs.turned (h : SpcIs w a x) {k : Nat} (hk : k < x.n) (v : Bool) {w' : World} (e : (w.setCell ⟨a, 1 + k / 8, none⟩ (.int .u8 (byteN (Ytllhilnajjohiaa.put x.now k v) (k / 8) : Int))).drew = w') : SpcIs w' a (x.put k v) ∧ Only (fun k => k = a) w w' := by
  subst e
  exact ⟨h.put hk v, (Only.setCell (F := fun k => k = a) (p := ⟨a, 1 + k / 8, none⟩) rfl _).trans (Only.drew _ _)⟩
theorem added_any (h : SpcIs w a x) {k : Nat} (hk : k < x.n) : Calls Try.prog 25 #[ptrAt a 1, .int .i64 (k : Int)] w fun e w' => e = .returned (.tuple #[]) ∧ SpcIs w' a (x.put k true) ∧ Only (fun k => k = a) w w' := by
  have hs := h.ok.size
  refine (setadd_any h.sNow (fun j _ => h.free _) (no := k) (by omega)).mono ?_
  rintro e w' ⟨rfl, hw⟩
  exact ⟨rfl, h.turned hk true hw⟩
theorem removed_any (h : SpcIs w a x) {k : Nat} (hk : k < x.n) : Calls Try.prog 28 #[ptrAt a 1, .int .i64 (k : Int)] w fun e w' => e = .returned (.tuple #[]) ∧ SpcIs w' a (x.put k false) ∧ Only (fun k => k = a) w w' := by
  have hs := h.ok.size
  refine (setremove_any h.sNow (fun j _ => h.free _) (no := k) (by omega)).mono ?_
  rintro e w' ⟨rfl, hw⟩
  exact ⟨rfl, h.turned hk false hw⟩
/-- What Free answers; the space behind it. -/
def Spc.freeErr (x : Spc) (no : Int) : Int := if no < 0 ∨ (x.n : Int) ≤ no then 1 else if x.now no.toNat then 0 else 6
def Spc.freed (x : Spc) (no : Int) : Spc := if no < 0 ∨ (x.n : Int) ≤ no then x else if x.now no.toNat then x.put no.toNat false else x
theorem free_any (h : SpcIs w a x) (no : Int) : Calls Try.prog 10 #[spAt a, .int .i64 no] w fun e w' => e = .returned (.int .i64 (x.freeErr no)) ∧ SpcIs w' a (x.freed no) ∧ Only (fun k => k = a) w w' := by
  unfold Spc.freeErr Spc.freed
  rcases page_or x.n no with ho | ⟨k, rfl, hk⟩
  · rw [if_pos ho, if_pos ho]
    have hc := has_no h ho
    have H := Lib.hid h
    clear h ho
    go_enter Try.func10, Try.ntmps10
    go_wp2_with (go_at_call 26; refine hc.mono ?_; rintro e w' ⟨rfl, rfl⟩)
    go_ret
    exact ⟨rfl, H.out, Only.refl _ _⟩
  · have hb : ¬ ((k : Int) < 0 ∨ (x.n : Int) ≤ (k : Int)) := by omega
    rw [if_neg hb, if_neg hb, show (k : Int).toNat = k by simp]
    clear hb
    have hc := has_yes h hk
    have hs := h.ok.size
    have hd := sethas_any h.sNow (no := k) (by omega)
    have hr := Lib.hid (removed_any h hk)
    have H := Lib.hid h
    clear h
    by_cases ht : x.now k = true
    · rw [ht] at hd
      rw [if_pos ht, if_pos ht]
      clear ht
      go_enter Try.func10, Try.ntmps10
      go_wp2_with (first
        | (go_at_call 26; refine hc.mono ?_; rintro e w' ⟨rfl, rfl⟩)
        | (go_at_call 27; refine hd.mono ?_; rintro e w' ⟨rfl, rfl⟩)
        | (go_at_call 28; refine hr.out.mono ?_; rintro e w' ⟨rfl, h1, h2⟩; have Hfin := Lib.hid (And.intro h1 h2); clear h1 h2))
      go_ret
      exact ⟨rfl, Hfin.out⟩
    · rw [show x.now k = false by simpa using ht] at hd
      rw [if_neg ht, if_neg ht]
      clear ht
      go_enter Try.func10, Try.ntmps10
      go_wp2_with (first
        | (go_at_call 26; refine hc.mono ?_; rintro e w' ⟨rfl, rfl⟩)
        | (go_at_call 27; refine hd.mono ?_; rintro e w' ⟨rfl, rfl⟩))
      go_ret
      exact ⟨rfl, H.out, Only.refl _ _⟩
end
end Go.Proofs.Ytllhilnajjohiaa
