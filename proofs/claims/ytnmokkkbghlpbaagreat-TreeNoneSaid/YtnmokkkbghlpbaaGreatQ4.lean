/-
  Contracts of the program's functions, one behind the other (texts put together, part 4).
-/
import Derived.Test.YtnmokkkbghlpbaaGreatQ1
import Derived.Test.YtnmokkkbghlpbaaGreatQ2
import Derived.Test.YtnmokkkbghlpbaaGreatQ3
import Derived.Defers
import Derived.Lib.SlBytesConst
/-
  Regions with late stores: an operation may be taken first where each late one waits for it, be it by way of others.
-/
namespace Go.Proofs.YtnmokkkbghlpbaaGreat
open Go.RowKit
section
variable {P : Program} {ops : Array Oper} {Q : Exit → Act → World → Prop} {md : Region.Mode} {S : World → Prop} {late up : List Nat}
/-- Each of these waits for i, or for one of them that is less than it. -/
def upOk (md : Region.Mode) (ops : Array Oper) (i : Nat) (up : List Nat) : Bool := up.all fun k => Region.waitsFor md ops k i || up.any fun k' => decide (k' < k) && Region.waitsFor md ops k k'
/-- What is listed has all that it waits for listed. -/
def shutUp (md : Region.Mode) (ops : Array Oper) (listed : Array Bool) : Prop :=
  ∀ k o, ops[k]? = some o → listed.getD k false = true → ∀ e ∈ o.after, Region.binds md e = true → listed.getD e.on false = true
def shutUpB (md : Region.Mode) (ops : Array Oper) (listed : Array Bool) : Bool :=
  (List.range ops.size).all fun k => !listed.getD k false || match ops[k]? with
    | some o => o.after.all fun e => !Region.binds md e || listed.getD e.on false
    | none => true
theorem shutUp_spec {listed : Array Bool} (h : shutUpB md ops listed = true) : shutUp md ops listed := by
  intro k o ho hk e he hb
  have hlt : k < ops.size := (Array.getElem?_eq_some_iff.1 ho).1
  have := List.all_eq_true.1 h k (List.mem_range.2 hlt)
  rw [ho, hk] at this
  simp only [Bool.not_true, Bool.false_or, Array.all_eq_true'] at this
  have h2 := this e he
  rw [hb] at h2
  simpa using h2
theorem shutUp_set {listed : Array Bool} {j : Nat} (h : shutUp md ops listed) (hj : j ∈ Region.ready md ops listed) : shutUp md ops (listed.setIfInBounds j true) := by
  intro k o ho hk e he hb
  by_cases ejk : j = k
  · subst ejk
    obtain ⟨_, oj, hoj, hall⟩ := mem_ready.1 hj
    have : oj = o := Option.some.inj (hoj.symm.trans ho)
    subst this
    exact getD_set_true (hall e he hb)
  · rw [getD_set_ne false ejk] at hk
    exact getD_set_true (h k o ho hk e he hb)
/-- While i is not listed, none of these is, and none is ready. -/
theorem up_not {i : Nat} {listed : Array Bool} (hu : upOk md ops i up = true) (hs : shutUp md ops listed) (hi : listed.getD i false = false) : ∀ k, k ∈ up → listed.getD k false = false ∧ k ∉ Region.ready md ops listed := by
  intro k
  induction k using Nat.strongRecOn with
  | ind k ih =>
    intro hk
    have h1 := List.all_eq_true.1 hu k hk
    have hdep : ∃ d, Region.waitsFor md ops k d = true ∧ listed.getD d false = false := by
      rw [Bool.or_eq_true] at h1
      rcases h1 with h1 | h1
      · exact ⟨i, h1, hi⟩
      · obtain ⟨k', hk', h2⟩ := List.any_eq_true.1 h1
        rw [Bool.and_eq_true, decide_eq_true_eq] at h2
        exact ⟨k', h2.2, (ih k' h2.1 hk').1⟩
    obtain ⟨d, hw, hd⟩ := hdep
    obtain ⟨o, ho, x, hx, hb, hon⟩ := Region.waitsFor_spec hw
    constructor
    · rw [← Bool.not_eq_true]
      intro hl
      have := hs k o ho hl x hx hb
      rw [hon, hd] at this
      cases this
    · intro hr
      obtain ⟨_, o', ho', hall⟩ := mem_ready.1 hr
      have : o' = o := Option.some.inj (ho'.symm.trans ho)
      subst this
      have := hall x hx hb
      rw [hon, hd] at this
      cases this
theorem anyU_first2 {i : Nat} {oi : Oper} {v : Value} (hi : ops[i]? = some oi) (hsel : ∀ (j : Nat) (o : Oper) cs b, ops[j]? = some o → o.op ≠ .select cs b)
    (hQ : ∀ c a w, Q (.panic c) (a.put oi.dst v) w → Q (.panic c) a w) (hni : late.contains i = false) (hu : upOk md ops i up = true) (hlu : ∀ j, late.contains j = true → j ∈ up) : ∀ (f : Nat) (listed : Array Bool) (a : Act) (w : World),
    (∀ j oj, ops[j]? = some oj → j ≠ i → listed.getD j true = false → (∀ e ∈ oj.after, Region.binds md e = true → e.on ≠ i) → oi.apart ops oj = true) →
    i ∈ Region.ready md ops listed → YieldsIf P ops S oi v a → noLate late listed = true → shutUp md ops listed → (noLate late listed = true → S w) →
    anyU P md ops Q S late f (listed.setIfInBounds i true) (a.put oi.dst v) w → anyU P md ops Q S late (f + 1) listed a w
  | 0, listed, a, w, _, hr, hy, hc, _, hw, H => by
    refine ⟨fun h => (by rw [h] at hr; cases hr), fun j hj => ?_⟩
    by_cases e : j = i
    · subst e
      exact hy.wpOp hi (hw hc) ⟨fun h => hw (by rwa [noLate_set hni] at h), H⟩
    · have := ready_mono hj e
      rw [H.1] at this
      cases this
  | f + 1, listed, a, w, hfree, hr, hy, hc, hsh, hw, H => by
    refine ⟨fun h => (by rw [h] at hr; cases hr), fun j hj => ?_⟩
    by_cases e : j = i
    · subst e
      exact hy.wpOp hi (hw hc) ⟨fun h => hw (by rwa [noLate_set hni] at h), H⟩
    · obtain ⟨hjun, oj, hoj, hall⟩ := mem_ready.1 hj
      have hno : ∀ x ∈ oj.after, Region.binds md x = true → x.on ≠ i := fun x hx hb he => by
        have h1 := hall x hx hb
        rw [he, getD_both (mem_ready.1 hr).1] at h1
        cases h1
      have hnl : late.contains j = false := by
        rw [← Bool.not_eq_true]
        intro h3
        exact (up_not hu hsh (getD_both (mem_ready.1 hr).1) j (hlu j h3)).2 hj
      have hsw : noLate late ((listed.setIfInBounds i true).setIfInBounds j true) = noLate late (listed.setIfInBounds j true) := by
        rw [Array.setIfInBounds_comm _ _ (Ne.symm e), noLate_set hni]
      have hc' : noLate late (listed.setIfInBounds j true) = true := by rw [noLate_set hnl]; exact hc
      refine wpOp_mono (fun a' w' k => ⟨fun h => k.2.1 (by rw [hsw]; exact h), ?_⟩) (wpOp_putIf hoj (hfree j oj hoj e hjun hno) (fun cs b => hsel i oi cs b hi) (fun cs b => hsel j oj cs b hoj) hQ hy (H.2 j (ready_mono hj e)))
      refine anyU_first2 hi hsel hQ hni hu hlu f _ a' w' (fun k ok hk hki hun hn => hfree k ok hk hki ?_ hn) (ready_mono hr (Ne.symm e)) k.1 hc' (shutUp_set hsh hj) (fun h => k.2.1 (by rw [hsw]; exact h)) ?_
      · by_cases hjk : j = k
        · subst hjk; exact hjun
        · rwa [getD_set_ne true hjk] at hun
      · rw [Array.setIfInBounds_comm _ _ e]
        exact k.2.2
/-- Taken first: what reads a cell of which S speaks; each late operation waits for it, by way of 'up'. -/
theorem anyU_take2 {i : Nat} {oi : Oper} {v : Value} {f : Nat} {listed : Array Bool} {a : Act} {w : World} (up : List Nat) (hi : ops[i]? = some oi) (hs : (Region.noSelect ops && upOk md ops i up && late.all up.contains && !late.contains i && Region.free md ops listed i && (Region.ready md ops listed).contains i && noLate late listed && shutUpB md ops listed) = true)
    (hQ : ∀ c a w, Q (.panic c) (a.put oi.dst v) w → Q (.panic c) a w) (hy : YieldsIf P ops S oi v a) (hS : S w)
    (h : anyU P md ops Q S late f (listed.setIfInBounds i true) (a.put oi.dst v) w) : anyU P md ops Q S late (f + 1) listed a w := by
  simp only [Bool.and_eq_true, Bool.not_eq_true'] at hs
  obtain ⟨⟨⟨⟨⟨⟨⟨h1, h2⟩, h2b⟩, h3⟩, h4⟩, h5⟩, h6⟩, h7⟩ := hs
  exact anyU_first2 hi (Region.noSelect_spec h1) hQ h3 h2 (fun j hj => by simpa using List.all_eq_true.1 h2b j (by simpa using hj)) f listed a w (Region.free_spec hi h4) (by simpa using h5) hy h6 (shutUp_spec h7) (fun _ => hS) h
end
end Go.Proofs.YtnmokkkbghlpbaaGreat
/-
  Put and Delete of package node: contracts where there is something to put, or to delete.
-/
namespace Go.Proofs.YtnmokkkbghlpbaaGreat
open Go.RowKit
set_option maxRecDepth 100000 in
set_option maxHeartbeats 4000000 in
theorem put_good {n : Nd} {K V D kv vv : Value} {key val : List UInt8} {w : World} (hn : NdIs w w.heap.size K V D n) (hk : Rd w w.heap.size kv (cellsB key)) (hv : Rd w w.heap.size vv (cellsB val)) (hsh : n.Short 40000) (hG : n.MayPut key val) :
    Calls Tryz.prog 56 #[ndVal true K V D, kv, vv] w fun e w' => PutOut (n.put key val) w e w' := by
  obtain ⟨hln, hs, hko, hvo⟩ := hG
  have hsh1 : n.Short 1000000 := ⟨by have := hsh.1; omega, by have := hsh.2.1; omega, by have := hsh.2.2; omega⟩
  have hnk : n.kids = [] := List.eq_nil_of_length_eq_zero (hs.ofLeaf hln).1
  have hvk : n.vals.length = n.keys.length := (hs.ofLeaf hln).2
  have hsm : (n.put key val).Short 1000000 := ⟨Nat.le_trans (putL_len atN_le) (by have := hsh.1; omega), Nat.le_trans (putL_len (by rw [hvk]; exact atN_le)) (by have := hsh.2.1; omega), Nat.zero_le _⟩
  have hsl := Nd.put_small hs hko.2 hvo
  have hfi := fun (W : World) (hW : Below w.heap.size w W) => find_any ((hn.below hW).more hW.size) (Nat.le_refl _) ((hk.below hW).more hW.size) (Nat.le_refl _) hsh1.1
  have hs1 := fun (W : World) (hW : Below w.heap.size w W) => sound_any ((hn.below hW).more hW.size) (Nat.le_refl _) hsh1
  rw [hln] at hfi hs1
  rw [sndB_iff.2 hs] at hs1
  have hple : atN n.keys key ≤ n.keys.length := atN_le
  have hplt := fun h => isN_lt hs.keys (key := key) h
  obtain ⟨A1, c1, A2, c2, A3, c3, rfl, rfl, rfl⟩ := hn.form
  have hg1 := hn.keys.len.2.1
  have hg2 := hn.vals.len.2.1
  obtain ⟨Ak, ck, rfl, -, -, -⟩ := hk.bytes
  obtain ⟨Av, cv, rfl, -, -, -⟩ := hv.bytes
  obtain ⟨a, ha⟩ : ∃ x, x = n.keys.length := ⟨_, rfl⟩
  obtain ⟨b, hb⟩ : ∃ x, x = n.vals.length := ⟨_, rfl⟩
  obtain ⟨d, hd⟩ : ∃ x, x = n.kids.length := ⟨_, rfl⟩
  obtain ⟨kl, hkl⟩ : ∃ x, x = key.length := ⟨_, rfl⟩
  obtain ⟨vl, hvl⟩ : ∃ x, x = val.length := ⟨_, rfl⟩
  obtain ⟨p, hp⟩ : ∃ x, x = atN n.keys key := ⟨_, rfl⟩
  obtain ⟨th, hth⟩ : ∃ x, x = isN n.keys key := ⟨_, rfl⟩
  rw [show belowN n.keys key n.keys.length = p from hp.symm, show hasN n.keys key n.keys.length = th from hth.symm] at hfi
  rw [← hkl] at hfi hk
  rw [← hvl] at hv
  rw [← ha, ← hb, ← hd] at hfi hs1 hn
  rw [← ha] at hvk hg1
  rw [← hb] at hvk hg2
  rw [← hp, ← ha] at hple
  rw [← hp, ← hth, ← ha] at hplt
  have ha4 : a ≤ 40000 := by rw [ha]; exact hsh.1
  have he1 : (n.put key val).keys = n.keys.take p ++ key :: n.keys.drop (p + th.toNat) := by rw [hp, hth]; rfl
  have he2 : (n.put key val).vals = n.vals.take p ++ val :: n.vals.drop (p + th.toNat) := by rw [hp, hth]; rfl
  have hlk : n.keys.length = a := ha.symm
  have hlv : n.vals.length = b := hb.symm
  rw [← ha, ← hb, ← hd, ← hkl, ← hvl]
  have hkm := fun (W : World) => keymay_any Ak kl ck W
  have hvm := fun (W : World) => valmay_any Av vl cv W
  have hko2 : 1 ≤ kl ∧ kl ≤ 24 := by rw [hkl]; exact hko
  have hvo2 : vl ≤ 24 := by rw [hvl]; exact hvo
  simp only [decide_eq_true hko2] at hkm
  simp only [decide_eq_true hvo2] at hvm
  have hst := PtW.start (w0 := w) (lf := true) (tK := .slice A1 a c1) (tV := .slice A2 b c2) (tD := .slice A3 d c3)
  obtain ⟨x0, x1, x2, x3⟩ := hst.box
  have hcc := hs1 _ hst.below
  have HSt := Lib.hid hst
  have HN := Lib.hid hn
  have HK := Lib.hid hk
  have HV := Lib.hid hv
  have HFi := Lib.hid hfi
  have HKm := Lib.hid hkm
  have HVm := Lib.hid hvm
  have HE1' := Lib.hid he1
  have HE2' := Lib.hid he2
  have HLk := Lib.hid (And.intro hlk hlv)
  have HNk := Lib.hid hnk
  have HSm := Lib.hid hsm
  have HSl := Lib.hid hsl
  have HNum := Lib.hid (And.intro hvk (And.intro hple (And.intro hplt (And.intro hg1 (And.intro hg2 ha4)))))
  have hp4 : p ≤ 40000 := by omega
  clear hn hk hv hst hs1 hfi hkm hvm he1 he2 hlk hlv hnk hsm hsl hvk hple hplt hg1 hg2 ha4 ha hb hd hkl hvl hp hth hko hvo hko2 hvo2 hsh hsh1 hs hln
  go_enter Tryz.func56, Tryz.ntmps56
  go_wp2_with fail
  refine hcc.mono ?_
  rintro e w1 ⟨rfl, hb1⟩
  have HS1 := Lib.hid (HSt.out.kept hb1)
  have hkc := HKm.out w1
  clear x0 x1 x2 x3 hcc hb1 HSt HKm
  go_wp2_with fail
  refine hkc.mono ?_
  rintro e w2 ⟨rfl, rfl⟩
  have hvc := HVm.out w1
  clear hkc HVm
  go_wp2_with fail
  refine hvc.mono ?_
  rintro e w3 ⟨rfl, rfl⟩
  have hfc := HFi.out w1 HS1.out.below
  obtain ⟨x0, x1, x2, x3⟩ := HS1.out.box
  clear hvc HFi
  go_wp2_with fail
  refine hfc.mono ?_
  rintro e w4 ⟨rfl, hb4⟩
  have HS_4 := Lib.hid (HS1.out.kept hb4)
  clear hfc hb4 x0 x1 x2 x3 HS1
  obtain ⟨hvk, hple, hplt, hg1, hg2, ha4⟩ := HNum.out
  cases th
  · obtain ⟨iT, hiT, hT0, hT1, hT2⟩ := info_parts info_row
    have hk1 := cut_h (P := Tryz.prog) Tryz.underlying56 hiT hT1 A1 a c1 p (by omega) _ rfl
    have hk2 := cut_h (P := Tryz.prog) Tryz.underlying56 hiT hT1 A2 b c2 p (by omega) _ rfl
    obtain ⟨F1, hF1, hk3⟩ := cut_l (P := Tryz.prog) Tryz.underlying56 hiT hT1 A1 a c1 (p) (by omega) ((p : Int)) (by omega)
    obtain ⟨F2, hF2, hk4⟩ := cut_l (P := Tryz.prog) Tryz.underlying56 hiT hT1 A2 b c2 (p) (by omega) ((p : Int)) (by omega)
    have hlo1 := HN.out.keys.upto (show p ≤ a by omega)
    have hlo2 := HN.out.vals.upto (show p ≤ b by omega)
    have hup1 := HN.out.keys.behind (show p ≤ a by omega)
    have hup2 := HN.out.vals.behind (show p ≤ b by omega)
    rw [← hF1] at hup1
    rw [← hF2] at hup2
    have HK1 := Lib.hid hk1
    have HK2 := Lib.hid hk2
    have HK3 := Lib.hid hk3
    have HK4 := Lib.hid hk4
    have HLo1 := Lib.hid hlo1
    have HLo2 := Lib.hid hlo2
    have HUp1 := Lib.hid hup1
    have HUp2 := Lib.hid hup2
    clear hk1 hk2 hk3 hk4 hiT hT0 hT1 hT2 hF1 hF2 hlo1 hlo2 hup1 hup2
    have HE1 := Lib.hid (show (n.put key val).keys = n.keys.take p ++ key :: n.keys.drop (p) from HE1'.out)
    have HE2 := Lib.hid (show (n.put key val).vals = n.vals.take p ++ val :: n.vals.drop (p) from HE2'.out)
    have hw : IntKind.i64.wrap ((p : Int) + 1) = (p : Int) + 1 := IntWalk.i64_in _ (by omega)
    clear hvk hple hplt hg1 hg2 ha4 HE1' HE2'
    go_wp2_with fail
    clear hw
    obtain ⟨wd, hwd⟩ : ∃ x, x = w4.drew := ⟨_, rfl⟩
    have HS_wd : Hid (PtW w wd true (.slice A1 a c1) (.slice A2 b c2) (.slice A3 d c3)) := Lib.hid (by rw [hwd]; exact HS_4.out.kept (Below.refl _ _).drew)
    have Zwd := Lib.hid (show wd.heap.size = w4.heap.size by rw [hwd]; rfl)
    have S0 : (fun w' => w'.cell? ⟨w.heap.size, 1, none⟩ = some (.slice A1 a c1)) wd := HS_wd.out.box.c1
    have hcat := HS_wd.out.catKey HLo1.out HK.out HUp1.out (by have := HLk.out.1; have := HLk.out.2; obtain ⟨hvk, -, -, -, -, ha4⟩ := HNum.out; simp; omega)
    obtain ⟨wda, hwda⟩ : ∃ u, u = wd.alloc (.cells #[.slice Ak kl ck] 31) := ⟨_, rfl⟩
    have zwda : wda.heap.size = wd.heap.size + 1 := by rw [hwda]; simp
    have HS_wda : Hid (PtW w wda true (.slice A1 a c1) (.slice A2 b c2) (.slice A3 d c3)) := Lib.hid (by rw [hwda]; exact HS_wd.out.kept ((Below.refl _ _).alloc (Nat.le_refl _) _))
    rw [← hwda] at hcat
    obtain ⟨wdb, hwdb⟩ : ∃ u, u = wda.alloc (.cells #[.slice A1 p c1, .slice (some ⟨wd.heap.size, 0, none⟩) 1 1, .slice F1 (a - p) (c1 - p)] 56) := ⟨_, rfl⟩
    have zwdb : wdb.heap.size = wda.heap.size + 1 := by rw [hwdb]; simp
    have HS_wdb : Hid (PtW w wdb true (.slice A1 a c1) (.slice A2 b c2) (.slice A3 d c3)) := Lib.hid (by rw [hwdb]; exact HS_wda.out.kept ((Below.refl _ _).alloc (Nat.le_refl _) _))
    rw [← hwdb] at hcat
    rw [← zwda] at hcat
    have HCat := Lib.hid hcat
    have HE_wda := Lib.hid hwda
    have HE_wdb := Lib.hid hwdb
    clear hcat hwda zwda hwdb zwdb
    refine wp_region_late (S := fun w' => w'.cell? ⟨w.heap.size, 1, none⟩ = some (.slice A1 a c1)) [13] (by kernel_rfl) (by rw [← hwd]; exact S0) (fun hHeld => ?_)
    rw [← hwd]
    clear hwd
    refine' anyU_take0 (i := 0) (oi := ⟨some 40, .fieldAddr 126 (.tmp 3) 1, _, _, _, none⟩) (v := _) rfl (by kernel_rfl) (fun _ _ _ h => h) (Or.inl ⟨by rfl, ?hy1⟩) (by assumption) ?rest1
    case hy1 => (intro w hSw; go_simp <;> with_reducible rfl)
    case rest1 =>
    go_frame
    refine' anyU_take (i := 1) (oi := ⟨some 41, .load 56 (.tmp 40), _, _, _, none⟩) (v := _) rfl (by kernel_rfl) (fun _ _ _ h => h) (Or.inl ⟨by rfl, ?hy2⟩) (by assumption) ?rest2
    case hy2 => (intro w hSw; obtain s0 := hSw; go_simp <;> with_reducible rfl)
    case rest2 =>
    go_frame
    refine' anyU_take0 (i := 2) (oi := ⟨some 42, .move (.tmp 8), _, _, _, none⟩) (v := _) rfl (by kernel_rfl) (fun _ _ _ h => h) (Or.inl ⟨by rfl, ?hy3⟩) (by assumption) ?rest3
    case hy3 => (intro w hSw; go_simp <;> with_reducible rfl)
    case rest3 =>
    go_frame
    refine' anyU_take0 (i := 3) (oi := ⟨some 43, .slice 56 (.tmp 41) none (some (.tmp 42)) none, _, _, _, none⟩) (v := .slice A1 p c1) rfl (by kernel_rfl) (fun _ _ _ h => h) (Or.inl ⟨by rfl, ?hy4⟩) (by assumption) ?rest4
    case hy4 => (intro w hSw; exact exec_cut (x := .tmp 41) (lo := none) (hi := (some (.tmp 42))) rfl (v := .slice A1 a c1) rfl (l := none) rfl (h := some (.int .i64 (p : Int))) rfl (HK1.out _))
    case rest4 =>
    go_frame
    refine' anyU_take0 (i := 4) (oi := ⟨some 44, .move (.tmp 1), _, _, _, none⟩) (v := _) rfl (by kernel_rfl) (fun _ _ _ h => h) (Or.inl ⟨by rfl, ?hy5⟩) (by assumption) ?rest5
    case hy5 => (intro w hSw; go_simp <;> with_reducible rfl)
    case rest5 =>
    go_frame
    refine' anyU_take0 (i := 6) (oi := ⟨some 46, .fieldAddr 126 (.tmp 3) 1, _, _, _, none⟩) (v := _) rfl (by kernel_rfl) (fun _ _ _ h => h) (Or.inl ⟨by rfl, ?hy6⟩) (by assumption) ?rest6
    case hy6 => (intro w hSw; go_simp <;> with_reducible rfl)
    case rest6 =>
    go_frame
    refine' anyU_take (i := 7) (oi := ⟨some 47, .load 56 (.tmp 46), _, _, _, none⟩) (v := _) rfl (by kernel_rfl) (fun _ _ _ h => h) (Or.inl ⟨by rfl, ?hy7⟩) (by assumption) ?rest7
    case hy7 => (intro w hSw; obtain s0 := hSw; go_simp <;> with_reducible rfl)
    case rest7 =>
    go_frame
    refine' anyU_take0 (i := 8) (oi := ⟨some 48, .move (.tmp 10), _, _, _, none⟩) (v := _) rfl (by kernel_rfl) (fun _ _ _ h => h) (Or.inl ⟨by rfl, ?hy8⟩) (by assumption) ?rest8
    case hy8 => (intro w hSw; go_simp <;> with_reducible rfl)
    case rest8 =>
    go_frame
    refine' anyU_take0 (i := 9) (oi := ⟨some 49, .slice 56 (.tmp 47) (some (.tmp 48)) none none, _, _, _, none⟩) (v := .slice F1 (a - p) (c1 - p)) rfl (by kernel_rfl) (fun _ _ _ h => h) (Or.inl ⟨by rfl, ?hy9⟩) (by assumption) ?rest9
    case hy9 => (intro w hSw; exact exec_cut (x := .tmp 47) (lo := (some (.tmp 48))) (hi := none) rfl (v := .slice A1 a c1) rfl (l := some (.int .i64 ((p : Int)))) rfl (h := none) rfl (HK3.out _))
    case rest9 =>
    go_frame
    refine anyU_ready (rs := [5]) (by kernel_rfl) (by simp) (AllU.cons (o := ⟨some 45, .buildSlice 56 1 #[(0, .tmp 44)], _, _, _, none⟩) rfl (fun K hK => ?_) (fun h => absurd h (by decide)) AllU.nil)
    rw [if_pos (by rfl)]
    have Sxwda := HS_wda.out.box.c1
    go_simp
    rw [← HE_wda.out]
    refine hK.out _ _ (fun _ => Sxwda) ?_
    clear hK K
    try go_frame
    refine anyU_ready (rs := [10]) (by kernel_rfl) (by simp) (AllU.cons (o := ⟨some 50, .buildSlice 190 3 #[(0, .tmp 43), (1, .tmp 45), (2, .tmp 49)], _, _, _, none⟩) rfl (fun K hK => ?_) (fun h => absurd h (by decide)) AllU.nil)
    rw [if_pos (by rfl)]
    have Sxwdb := HS_wdb.out.box.c1
    go_simp
    rw [← HE_wdb.out]
    refine hK.out _ _ (fun _ => Sxwdb) ?_
    clear hK K
    try go_frame
    refine anyU_ready (rs := [11]) (by kernel_rfl) (by simp) (AllU.cons (o := ⟨some 51, .call { callee := .value (.func 82), args := #[.tmp 50], argTypes := #[190] }, _, _, _, none⟩) rfl (fun K hK => ?_) (fun h => absurd h (by decide)) AllU.nil)
    rw [if_pos (by rfl)]
    go_simp
    refine HCat.out.mono ?_
    rintro e wz ⟨AK, nK, cK, rfl, hz, hoz, hbz⟩
    have HS_z := Lib.hid hz
    have HO_z := Lib.hid hoz
    
    have Sxz := hz.box.c1
    dsimp only
    refine hK.out _ _ (fun _ => Sxz) ?_
    clear hK K hz hoz hbz
    try go_frame
    obtain ⟨y0, y1, y2, y3, f0, f1, f2, f3⟩ := out_cells HS_z.out.top
    refine' anyU_take0 (i := 12) (oi := ⟨some 52, .fieldAddr 126 (.tmp 3) 1, _, _, _, none⟩) (v := _) rfl (by kernel_rfl) (fun _ _ _ h => h) (Or.inl ⟨by rfl, ?hy10⟩) (by assumption) ?rest10
    case hy10 => (intro w hSw; go_simp <;> with_reducible rfl)
    case rest10 =>
    go_frame
    refine anyU_ready (rs := [13]) (by kernel_rfl) (by simp) (AllU.cons (o := ⟨none, .store 56 (.tmp 52) (.tmp 51), _, _, _, none⟩) rfl (fun K hK => ?_) (fun _ => by kernel_rfl) AllU.nil)
    rw [if_pos (by rfl)]
    go_simp
    refine hK.out _ _ (fun h => absurd h (by decide)) ?_
    clear hK K
    try go_frame
    refine anyU_done (by kernel_rfl) ?_ _
    obtain ⟨w5, hW⟩ : ∃ X, X = wz.setCell ⟨w.heap.size, 1, none⟩ (.slice AK nK cK) := ⟨_, rfl⟩
    have hs := HS_z.out.setK (.slice AK nK cK)
    have ho := PtW.rowSet HO_z.out 1 (.slice AK nK cK)
    rw [← hW] at hs ho
    rw [← hW]
    have HS_w5 := Lib.hid hs
    have HO_w5 := Lib.hid ho
    clear hW hs ho y0 y1 y2 y3 f0 f1 f2 f3 HS_z HO_z S0 hHeld HS_wda HE_wda Sxwda HS_wdb HE_wdb Sxwdb HS_wd Sxz HCat
    go_wp2_with fail
    obtain ⟨wf, hwf⟩ : ∃ x, x = w5.drew := ⟨_, rfl⟩
    have HS_wf : Hid (PtW w wf true (.slice AK nK cK) (.slice A2 b c2) (.slice A3 d c3)) := Lib.hid (by rw [hwf]; exact HS_w5.out.kept (Below.refl _ _).drew)
    have Zwf := Lib.hid (show wf.heap.size = w5.heap.size by rw [hwf]; rfl)
    have S0 : (fun w' => w'.cell? ⟨w.heap.size, 2, none⟩ = some (.slice A2 b c2)) wf := HS_wf.out.box.c2
    have HO_wf : Hid (OwnT wf w.heap.size (w.heap.size + 2) (.slice AK nK cK) (n.keys.take p ++ key :: n.keys.drop (p))) := Lib.hid (by rw [hwf]; exact PtW.rowKept HO_w5.out (Below.refl _ _).drew)
    have hcat := HS_wf.out.catKey HLo2.out HV.out HUp2.out (by have := HLk.out.1; have := HLk.out.2; obtain ⟨hvk, -, -, -, -, ha4⟩ := HNum.out; simp; omega)
    obtain ⟨wfa, hwfa⟩ : ∃ u, u = wf.alloc (.cells #[.slice Av vl cv] 31) := ⟨_, rfl⟩
    have zwfa : wfa.heap.size = wf.heap.size + 1 := by rw [hwfa]; simp
    have HS_wfa : Hid (PtW w wfa true (.slice AK nK cK) (.slice A2 b c2) (.slice A3 d c3)) := Lib.hid (by rw [hwfa]; exact HS_wf.out.kept ((Below.refl _ _).alloc (Nat.le_refl _) _))
    rw [← hwfa] at hcat
    obtain ⟨wfb, hwfb⟩ : ∃ u, u = wfa.alloc (.cells #[.slice A2 p c2, .slice (some ⟨wf.heap.size, 0, none⟩) 1 1, .slice F2 (b - p) (c2 - p)] 56) := ⟨_, rfl⟩
    have zwfb : wfb.heap.size = wfa.heap.size + 1 := by rw [hwfb]; simp
    have HS_wfb : Hid (PtW w wfb true (.slice AK nK cK) (.slice A2 b c2) (.slice A3 d c3)) := Lib.hid (by rw [hwfb]; exact HS_wfa.out.kept ((Below.refl _ _).alloc (Nat.le_refl _) _))
    rw [← hwfb] at hcat
    rw [← zwfa] at hcat
    have HCat := Lib.hid hcat
    have HE_wfa := Lib.hid hwfa
    have HE_wfb := Lib.hid hwfb
    clear hcat hwfa zwfa hwfb zwfb
    refine wp_region_late (S := fun w' => w'.cell? ⟨w.heap.size, 2, none⟩ = some (.slice A2 b c2)) [13] (by kernel_rfl) (by rw [← hwf]; exact S0) (fun hHeld => ?_)
    rw [← hwf]
    clear hwf
    refine' anyU_take0 (i := 0) (oi := ⟨some 53, .fieldAddr 126 (.tmp 3) 2, _, _, _, none⟩) (v := _) rfl (by kernel_rfl) (fun _ _ _ h => h) (Or.inl ⟨by rfl, ?hy11⟩) (by assumption) ?rest11
    case hy11 => (intro w hSw; go_simp <;> with_reducible rfl)
    case rest11 =>
    go_frame
    refine' anyU_take (i := 1) (oi := ⟨some 54, .load 56 (.tmp 53), _, _, _, none⟩) (v := _) rfl (by kernel_rfl) (fun _ _ _ h => h) (Or.inl ⟨by rfl, ?hy12⟩) (by assumption) ?rest12
    case hy12 => (intro w hSw; obtain s0 := hSw; go_simp <;> with_reducible rfl)
    case rest12 =>
    go_frame
    refine' anyU_take0 (i := 2) (oi := ⟨some 55, .move (.tmp 8), _, _, _, none⟩) (v := _) rfl (by kernel_rfl) (fun _ _ _ h => h) (Or.inl ⟨by rfl, ?hy13⟩) (by assumption) ?rest13
    case hy13 => (intro w hSw; go_simp <;> with_reducible rfl)
    case rest13 =>
    go_frame
    refine' anyU_take0 (i := 3) (oi := ⟨some 56, .slice 56 (.tmp 54) none (some (.tmp 55)) none, _, _, _, none⟩) (v := .slice A2 p c2) rfl (by kernel_rfl) (fun _ _ _ h => h) (Or.inl ⟨by rfl, ?hy14⟩) (by assumption) ?rest14
    case hy14 => (intro w hSw; exact exec_cut (x := .tmp 54) (lo := none) (hi := (some (.tmp 55))) rfl (v := .slice A2 b c2) rfl (l := none) rfl (h := some (.int .i64 (p : Int))) rfl (HK2.out _))
    case rest14 =>
    go_frame
    refine' anyU_take0 (i := 4) (oi := ⟨some 57, .move (.tmp 2), _, _, _, none⟩) (v := _) rfl (by kernel_rfl) (fun _ _ _ h => h) (Or.inl ⟨by rfl, ?hy15⟩) (by assumption) ?rest15
    case hy15 => (intro w hSw; go_simp <;> with_reducible rfl)
    case rest15 =>
    go_frame
    refine' anyU_take0 (i := 6) (oi := ⟨some 59, .fieldAddr 126 (.tmp 3) 2, _, _, _, none⟩) (v := _) rfl (by kernel_rfl) (fun _ _ _ h => h) (Or.inl ⟨by rfl, ?hy16⟩) (by assumption) ?rest16
    case hy16 => (intro w hSw; go_simp <;> with_reducible rfl)
    case rest16 =>
    go_frame
    refine' anyU_take (i := 7) (oi := ⟨some 60, .load 56 (.tmp 59), _, _, _, none⟩) (v := _) rfl (by kernel_rfl) (fun _ _ _ h => h) (Or.inl ⟨by rfl, ?hy17⟩) (by assumption) ?rest17
    case hy17 => (intro w hSw; obtain s0 := hSw; go_simp <;> with_reducible rfl)
    case rest17 =>
    go_frame
    refine' anyU_take0 (i := 8) (oi := ⟨some 61, .move (.tmp 10), _, _, _, none⟩) (v := _) rfl (by kernel_rfl) (fun _ _ _ h => h) (Or.inl ⟨by rfl, ?hy18⟩) (by assumption) ?rest18
    case hy18 => (intro w hSw; go_simp <;> with_reducible rfl)
    case rest18 =>
    go_frame
    refine' anyU_take0 (i := 9) (oi := ⟨some 62, .slice 56 (.tmp 60) (some (.tmp 61)) none none, _, _, _, none⟩) (v := .slice F2 (b - p) (c2 - p)) rfl (by kernel_rfl) (fun _ _ _ h => h) (Or.inl ⟨by rfl, ?hy19⟩) (by assumption) ?rest19
    case hy19 => (intro w hSw; exact exec_cut (x := .tmp 60) (lo := (some (.tmp 61))) (hi := none) rfl (v := .slice A2 b c2) rfl (l := some (.int .i64 ((p : Int)))) rfl (h := none) rfl (HK4.out _))
    case rest19 =>
    go_frame
    refine anyU_ready (rs := [5]) (by kernel_rfl) (by simp) (AllU.cons (o := ⟨some 58, .buildSlice 56 1 #[(0, .tmp 57)], _, _, _, none⟩) rfl (fun K hK => ?_) (fun h => absurd h (by decide)) AllU.nil)
    rw [if_pos (by rfl)]
    have Sxwfa := HS_wfa.out.box.c2
    go_simp
    rw [← HE_wfa.out]
    refine hK.out _ _ (fun _ => Sxwfa) ?_
    clear hK K
    try go_frame
    refine anyU_ready (rs := [10]) (by kernel_rfl) (by simp) (AllU.cons (o := ⟨some 63, .buildSlice 190 3 #[(0, .tmp 56), (1, .tmp 58), (2, .tmp 62)], _, _, _, none⟩) rfl (fun K hK => ?_) (fun h => absurd h (by decide)) AllU.nil)
    rw [if_pos (by rfl)]
    have Sxwfb := HS_wfb.out.box.c2
    go_simp
    rw [← HE_wfb.out]
    refine hK.out _ _ (fun _ => Sxwfb) ?_
    clear hK K
    try go_frame
    refine anyU_ready (rs := [11]) (by kernel_rfl) (by simp) (AllU.cons (o := ⟨some 64, .call { callee := .value (.func 82), args := #[.tmp 63], argTypes := #[190] }, _, _, _, none⟩) rfl (fun K hK => ?_) (fun h => absurd h (by decide)) AllU.nil)
    rw [if_pos (by rfl)]
    go_simp
    refine HCat.out.mono ?_
    rintro e wz ⟨AV, nV, cV, rfl, hz, hoz, hbz⟩
    have HS_z := Lib.hid hz
    have HO_z := Lib.hid hoz
    have HO_y := Lib.hid (PtW.rowKept HO_wf.out hbz)
    have Sxz := hz.box.c2
    dsimp only
    refine hK.out _ _ (fun _ => Sxz) ?_
    clear hK K hz hoz hbz
    try go_frame
    obtain ⟨y0, y1, y2, y3, f0, f1, f2, f3⟩ := out_cells HS_z.out.top
    refine' anyU_take0 (i := 12) (oi := ⟨some 65, .fieldAddr 126 (.tmp 3) 2, _, _, _, none⟩) (v := _) rfl (by kernel_rfl) (fun _ _ _ h => h) (Or.inl ⟨by rfl, ?hy20⟩) (by assumption) ?rest20
    case hy20 => (intro w hSw; go_simp <;> with_reducible rfl)
    case rest20 =>
    go_frame
    refine anyU_ready (rs := [13]) (by kernel_rfl) (by simp) (AllU.cons (o := ⟨none, .store 56 (.tmp 65) (.tmp 64), _, _, _, none⟩) rfl (fun K hK => ?_) (fun _ => by kernel_rfl) AllU.nil)
    rw [if_pos (by rfl)]
    go_simp
    refine hK.out _ _ (fun h => absurd h (by decide)) ?_
    clear hK K
    try go_frame
    refine anyU_done (by kernel_rfl) ?_ _
    obtain ⟨w6, hW⟩ : ∃ X, X = wz.setCell ⟨w.heap.size, 2, none⟩ (.slice AV nV cV) := ⟨_, rfl⟩
    have hs := HS_z.out.setV (.slice AV nV cV)
    have ho := PtW.rowSet HO_z.out 2 (.slice AV nV cV)
    have hq := PtW.rowSet HO_y.out 2 (.slice AV nV cV)
    rw [← hW] at hs ho hq
    rw [← hW]
    have HS_w6 := Lib.hid hs
    have HO_w6 := Lib.hid ho
    have HQ_w6 := Lib.hid hq
    clear hW hs ho hq y0 y1 y2 y3 f0 f1 f2 f3 HS_z HO_z S0 hHeld HS_wfa HE_wfa Sxwfa HS_wfb HE_wfb Sxwfb HS_wf Sxz HCat
    have his : NdIs w6 w6.heap.size (.slice AK nK cK) (.slice AV nV cV) (.slice A3 d c3) (n.put key val) := ⟨by rw [HE1.out]; exact HQ_w6.out.rd, by rw [HE2.out]; exact HO_w6.out.rd, by
      have hk := (HN.out.kids.below HS_w6.out.below).more HS_w6.out.below.size
      rw [HNk.out] at hk
      exact hk⟩
    have hco := copied_as his (lf := true) rfl HSm.out HSl.out
    obtain ⟨x0, x1, x2, x3⟩ := HS_w6.out.box
    have HCo := Lib.hid hco
    clear his hco
    go_wp2_with fail
    refine HCo.out.mono ?_
    rintro e w9 ⟨X1, i1, j1, X2, i2, j2, X3, i3, j3, rfl, hn9, hb9⟩
    have hs9 := HS_w6.out.kept hb9
    have hlt := HS_w6.out.lt
    clear x0 x1 x2 x3
    obtain ⟨y0, y1, y2, y3, f0, f1, f2, f3⟩ := out_cells hs9.out
    obtain ⟨W, hW⟩ : ∃ W, W = store4 w9 (w.heap.size + 1) true (.slice X1 i1 j1) (.slice X2 i2 j2) (.slice X3 i3 j3) := ⟨_, rfl⟩
    have hbox := box_of_top (store4_top (lf := true) (K := .slice X1 i1 j1) (V := .slice X2 i2 j2) (D := .slice X3 i3 j3) hs9.out)
    have hfi := hn9.store4 (lf := true) (K := .slice X1 i1 j1) (V := .slice X2 i2 j2) (D := .slice X3 i3 j3) (N := w.heap.size + 1) hlt
    have hfb := hs9.below.trans (store4_below (w := w9) (lf := true) (K := .slice X1 i1 j1) (V := .slice X2 i2 j2) (D := .slice X3 i3 j3) (show w.heap.size ≤ w.heap.size + 1 by omega))
    rw [← hW] at hbox hfi hfb
    have hfi := hfi.weaken (b1 := w.heap.size) (by omega)
    obtain ⟨q0, q1, q2, q3⟩ := hbox
    have HFi := Lib.hid hfi
    have HFb := Lib.hid hfb
    have HWW := Lib.hid hW
    clear hfi hfb hW hn9 hb9 hs9 hlt
    go_wp2_with fail
    have hW := HWW.out
    unfold store4 at hW
    rw [← hW]
    exact bodyPost_ret (v := .tuple #[ndVal true (.slice X1 i1 j1) (.slice X2 i2 j2) (.slice X3 i3 j3), .bool true]) (by simp [results, Tryz.results56, go_sem, q0, q1, q2, q3]) rfl ⟨_, _, _, rfl, HFi.out, HFb.out⟩
  · have hpl := hplt rfl
    obtain ⟨iT, hiT, hT0, hT1, hT2⟩ := info_parts info_row
    have hk1 := cut_h (P := Tryz.prog) Tryz.underlying56 hiT hT1 A1 a c1 p (by omega) _ rfl
    have hk2 := cut_h (P := Tryz.prog) Tryz.underlying56 hiT hT1 A2 b c2 p (by omega) _ rfl
    obtain ⟨F1, hF1, hk3⟩ := cut_l (P := Tryz.prog) Tryz.underlying56 hiT hT1 A1 a c1 (p + 1) (by omega) ((p : Int) + 1) (by omega)
    obtain ⟨F2, hF2, hk4⟩ := cut_l (P := Tryz.prog) Tryz.underlying56 hiT hT1 A2 b c2 (p + 1) (by omega) ((p : Int) + 1) (by omega)
    have hlo1 := HN.out.keys.upto (show p ≤ a by omega)
    have hlo2 := HN.out.vals.upto (show p ≤ b by omega)
    have hup1 := HN.out.keys.behind (show p + 1 ≤ a by omega)
    have hup2 := HN.out.vals.behind (show p + 1 ≤ b by omega)
    rw [← hF1] at hup1
    rw [← hF2] at hup2
    have HK1 := Lib.hid hk1
    have HK2 := Lib.hid hk2
    have HK3 := Lib.hid hk3
    have HK4 := Lib.hid hk4
    have HLo1 := Lib.hid hlo1
    have HLo2 := Lib.hid hlo2
    have HUp1 := Lib.hid hup1
    have HUp2 := Lib.hid hup2
    clear hk1 hk2 hk3 hk4 hiT hT0 hT1 hT2 hF1 hF2 hlo1 hlo2 hup1 hup2
    have HE1 := Lib.hid (show (n.put key val).keys = n.keys.take p ++ key :: n.keys.drop (p + 1) from HE1'.out)
    have HE2 := Lib.hid (show (n.put key val).vals = n.vals.take p ++ val :: n.vals.drop (p + 1) from HE2'.out)
    have hw : IntKind.i64.wrap ((p : Int) + 1) = (p : Int) + 1 := IntWalk.i64_in _ (by omega)
    clear hvk hple hplt hg1 hg2 ha4 HE1' HE2' hpl
    go_wp2_with fail
    clear hw
    obtain ⟨wd, hwd⟩ : ∃ x, x = w4.drew := ⟨_, rfl⟩
    have HS_wd : Hid (PtW w wd true (.slice A1 a c1) (.slice A2 b c2) (.slice A3 d c3)) := Lib.hid (by rw [hwd]; exact HS_4.out.kept (Below.refl _ _).drew)
    have Zwd := Lib.hid (show wd.heap.size = w4.heap.size by rw [hwd]; rfl)
    have S0 : (fun w' => w'.cell? ⟨w.heap.size, 1, none⟩ = some (.slice A1 a c1)) wd := HS_wd.out.box.c1
    have hcat := HS_wd.out.catKey HLo1.out HK.out HUp1.out (by have := HLk.out.1; have := HLk.out.2; obtain ⟨hvk, -, -, -, -, ha4⟩ := HNum.out; simp; omega)
    obtain ⟨wda, hwda⟩ : ∃ u, u = wd.alloc (.cells #[.slice Ak kl ck] 31) := ⟨_, rfl⟩
    have zwda : wda.heap.size = wd.heap.size + 1 := by rw [hwda]; simp
    have HS_wda : Hid (PtW w wda true (.slice A1 a c1) (.slice A2 b c2) (.slice A3 d c3)) := Lib.hid (by rw [hwda]; exact HS_wd.out.kept ((Below.refl _ _).alloc (Nat.le_refl _) _))
    rw [← hwda] at hcat
    obtain ⟨wdb, hwdb⟩ : ∃ u, u = wda.alloc (.cells #[.slice A1 p c1, .slice (some ⟨wd.heap.size, 0, none⟩) 1 1, .slice F1 (a - (p + 1)) (c1 - (p + 1))] 56) := ⟨_, rfl⟩
    have zwdb : wdb.heap.size = wda.heap.size + 1 := by rw [hwdb]; simp
    have HS_wdb : Hid (PtW w wdb true (.slice A1 a c1) (.slice A2 b c2) (.slice A3 d c3)) := Lib.hid (by rw [hwdb]; exact HS_wda.out.kept ((Below.refl _ _).alloc (Nat.le_refl _) _))
    rw [← hwdb] at hcat
    rw [← zwda] at hcat
    have HCat := Lib.hid hcat
    have HE_wda := Lib.hid hwda
    have HE_wdb := Lib.hid hwdb
    clear hcat hwda zwda hwdb zwdb
    refine wp_region_late (S := fun w' => w'.cell? ⟨w.heap.size, 1, none⟩ = some (.slice A1 a c1)) [13] (by kernel_rfl) (by rw [← hwd]; exact S0) (fun hHeld => ?_)
    rw [← hwd]
    clear hwd
    refine' anyU_take0 (i := 0) (oi := ⟨some 40, .fieldAddr 126 (.tmp 3) 1, _, _, _, none⟩) (v := _) rfl (by kernel_rfl) (fun _ _ _ h => h) (Or.inl ⟨by rfl, ?hy21⟩) (by assumption) ?rest21
    case hy21 => (intro w hSw; go_simp <;> with_reducible rfl)
    case rest21 =>
    go_frame
    refine' anyU_take (i := 1) (oi := ⟨some 41, .load 56 (.tmp 40), _, _, _, none⟩) (v := _) rfl (by kernel_rfl) (fun _ _ _ h => h) (Or.inl ⟨by rfl, ?hy22⟩) (by assumption) ?rest22
    case hy22 => (intro w hSw; obtain s0 := hSw; go_simp <;> with_reducible rfl)
    case rest22 =>
    go_frame
    refine' anyU_take0 (i := 2) (oi := ⟨some 42, .move (.tmp 8), _, _, _, none⟩) (v := _) rfl (by kernel_rfl) (fun _ _ _ h => h) (Or.inl ⟨by rfl, ?hy23⟩) (by assumption) ?rest23
    case hy23 => (intro w hSw; go_simp <;> with_reducible rfl)
    case rest23 =>
    go_frame
    refine' anyU_take0 (i := 3) (oi := ⟨some 43, .slice 56 (.tmp 41) none (some (.tmp 42)) none, _, _, _, none⟩) (v := .slice A1 p c1) rfl (by kernel_rfl) (fun _ _ _ h => h) (Or.inl ⟨by rfl, ?hy24⟩) (by assumption) ?rest24
    case hy24 => (intro w hSw; exact exec_cut (x := .tmp 41) (lo := none) (hi := (some (.tmp 42))) rfl (v := .slice A1 a c1) rfl (l := none) rfl (h := some (.int .i64 (p : Int))) rfl (HK1.out _))
    case rest24 =>
    go_frame
    refine' anyU_take0 (i := 4) (oi := ⟨some 44, .move (.tmp 1), _, _, _, none⟩) (v := _) rfl (by kernel_rfl) (fun _ _ _ h => h) (Or.inl ⟨by rfl, ?hy25⟩) (by assumption) ?rest25
    case hy25 => (intro w hSw; go_simp <;> with_reducible rfl)
    case rest25 =>
    go_frame
    refine' anyU_take0 (i := 6) (oi := ⟨some 46, .fieldAddr 126 (.tmp 3) 1, _, _, _, none⟩) (v := _) rfl (by kernel_rfl) (fun _ _ _ h => h) (Or.inl ⟨by rfl, ?hy26⟩) (by assumption) ?rest26
    case hy26 => (intro w hSw; go_simp <;> with_reducible rfl)
    case rest26 =>
    go_frame
    refine' anyU_take (i := 7) (oi := ⟨some 47, .load 56 (.tmp 46), _, _, _, none⟩) (v := _) rfl (by kernel_rfl) (fun _ _ _ h => h) (Or.inl ⟨by rfl, ?hy27⟩) (by assumption) ?rest27
    case hy27 => (intro w hSw; obtain s0 := hSw; go_simp <;> with_reducible rfl)
    case rest27 =>
    go_frame
    refine' anyU_take0 (i := 8) (oi := ⟨some 48, .move (.tmp 10), _, _, _, none⟩) (v := _) rfl (by kernel_rfl) (fun _ _ _ h => h) (Or.inl ⟨by rfl, ?hy28⟩) (by assumption) ?rest28
    case hy28 => (intro w hSw; go_simp <;> with_reducible rfl)
    case rest28 =>
    go_frame
    refine' anyU_take0 (i := 9) (oi := ⟨some 49, .slice 56 (.tmp 47) (some (.tmp 48)) none none, _, _, _, none⟩) (v := .slice F1 (a - (p + 1)) (c1 - (p + 1))) rfl (by kernel_rfl) (fun _ _ _ h => h) (Or.inl ⟨by rfl, ?hy29⟩) (by assumption) ?rest29
    case hy29 => (intro w hSw; exact exec_cut (x := .tmp 47) (lo := (some (.tmp 48))) (hi := none) rfl (v := .slice A1 a c1) rfl (l := some (.int .i64 ((p : Int) + 1))) rfl (h := none) rfl (HK3.out _))
    case rest29 =>
    go_frame
    refine anyU_ready (rs := [5]) (by kernel_rfl) (by simp) (AllU.cons (o := ⟨some 45, .buildSlice 56 1 #[(0, .tmp 44)], _, _, _, none⟩) rfl (fun K hK => ?_) (fun h => absurd h (by decide)) AllU.nil)
    rw [if_pos (by rfl)]
    have Sxwda := HS_wda.out.box.c1
    go_simp
    rw [← HE_wda.out]
    refine hK.out _ _ (fun _ => Sxwda) ?_
    clear hK K
    try go_frame
    refine anyU_ready (rs := [10]) (by kernel_rfl) (by simp) (AllU.cons (o := ⟨some 50, .buildSlice 190 3 #[(0, .tmp 43), (1, .tmp 45), (2, .tmp 49)], _, _, _, none⟩) rfl (fun K hK => ?_) (fun h => absurd h (by decide)) AllU.nil)
    rw [if_pos (by rfl)]
    have Sxwdb := HS_wdb.out.box.c1
    go_simp
    rw [← HE_wdb.out]
    refine hK.out _ _ (fun _ => Sxwdb) ?_
    clear hK K
    try go_frame
    refine anyU_ready (rs := [11]) (by kernel_rfl) (by simp) (AllU.cons (o := ⟨some 51, .call { callee := .value (.func 82), args := #[.tmp 50], argTypes := #[190] }, _, _, _, none⟩) rfl (fun K hK => ?_) (fun h => absurd h (by decide)) AllU.nil)
    rw [if_pos (by rfl)]
    go_simp
    refine HCat.out.mono ?_
    rintro e wz ⟨AK, nK, cK, rfl, hz, hoz, hbz⟩
    have HS_z := Lib.hid hz
    have HO_z := Lib.hid hoz
    
    have Sxz := hz.box.c1
    dsimp only
    refine hK.out _ _ (fun _ => Sxz) ?_
    clear hK K hz hoz hbz
    try go_frame
    obtain ⟨y0, y1, y2, y3, f0, f1, f2, f3⟩ := out_cells HS_z.out.top
    refine' anyU_take0 (i := 12) (oi := ⟨some 52, .fieldAddr 126 (.tmp 3) 1, _, _, _, none⟩) (v := _) rfl (by kernel_rfl) (fun _ _ _ h => h) (Or.inl ⟨by rfl, ?hy30⟩) (by assumption) ?rest30
    case hy30 => (intro w hSw; go_simp <;> with_reducible rfl)
    case rest30 =>
    go_frame
    refine anyU_ready (rs := [13]) (by kernel_rfl) (by simp) (AllU.cons (o := ⟨none, .store 56 (.tmp 52) (.tmp 51), _, _, _, none⟩) rfl (fun K hK => ?_) (fun _ => by kernel_rfl) AllU.nil)
    rw [if_pos (by rfl)]
    go_simp
    refine hK.out _ _ (fun h => absurd h (by decide)) ?_
    clear hK K
    try go_frame
    refine anyU_done (by kernel_rfl) ?_ _
    obtain ⟨w5, hW⟩ : ∃ X, X = wz.setCell ⟨w.heap.size, 1, none⟩ (.slice AK nK cK) := ⟨_, rfl⟩
    have hs := HS_z.out.setK (.slice AK nK cK)
    have ho := PtW.rowSet HO_z.out 1 (.slice AK nK cK)
    rw [← hW] at hs ho
    rw [← hW]
    have HS_w5 := Lib.hid hs
    have HO_w5 := Lib.hid ho
    clear hW hs ho y0 y1 y2 y3 f0 f1 f2 f3 HS_z HO_z S0 hHeld HS_wda HE_wda Sxwda HS_wdb HE_wdb Sxwdb HS_wd Sxz HCat
    go_wp2_with fail
    obtain ⟨wf, hwf⟩ : ∃ x, x = w5.drew := ⟨_, rfl⟩
    have HS_wf : Hid (PtW w wf true (.slice AK nK cK) (.slice A2 b c2) (.slice A3 d c3)) := Lib.hid (by rw [hwf]; exact HS_w5.out.kept (Below.refl _ _).drew)
    have Zwf := Lib.hid (show wf.heap.size = w5.heap.size by rw [hwf]; rfl)
    have S0 : (fun w' => w'.cell? ⟨w.heap.size, 2, none⟩ = some (.slice A2 b c2)) wf := HS_wf.out.box.c2
    have HO_wf : Hid (OwnT wf w.heap.size (w.heap.size + 2) (.slice AK nK cK) (n.keys.take p ++ key :: n.keys.drop (p + 1))) := Lib.hid (by rw [hwf]; exact PtW.rowKept HO_w5.out (Below.refl _ _).drew)
    have hcat := HS_wf.out.catKey HLo2.out HV.out HUp2.out (by have := HLk.out.1; have := HLk.out.2; obtain ⟨hvk, -, -, -, -, ha4⟩ := HNum.out; simp; omega)
    obtain ⟨wfa, hwfa⟩ : ∃ u, u = wf.alloc (.cells #[.slice Av vl cv] 31) := ⟨_, rfl⟩
    have zwfa : wfa.heap.size = wf.heap.size + 1 := by rw [hwfa]; simp
    have HS_wfa : Hid (PtW w wfa true (.slice AK nK cK) (.slice A2 b c2) (.slice A3 d c3)) := Lib.hid (by rw [hwfa]; exact HS_wf.out.kept ((Below.refl _ _).alloc (Nat.le_refl _) _))
    rw [← hwfa] at hcat
    obtain ⟨wfb, hwfb⟩ : ∃ u, u = wfa.alloc (.cells #[.slice A2 p c2, .slice (some ⟨wf.heap.size, 0, none⟩) 1 1, .slice F2 (b - (p + 1)) (c2 - (p + 1))] 56) := ⟨_, rfl⟩
    have zwfb : wfb.heap.size = wfa.heap.size + 1 := by rw [hwfb]; simp
    have HS_wfb : Hid (PtW w wfb true (.slice AK nK cK) (.slice A2 b c2) (.slice A3 d c3)) := Lib.hid (by rw [hwfb]; exact HS_wfa.out.kept ((Below.refl _ _).alloc (Nat.le_refl _) _))
    rw [← hwfb] at hcat
    rw [← zwfa] at hcat
    have HCat := Lib.hid hcat
    have HE_wfa := Lib.hid hwfa
    have HE_wfb := Lib.hid hwfb
    clear hcat hwfa zwfa hwfb zwfb
    refine wp_region_late (S := fun w' => w'.cell? ⟨w.heap.size, 2, none⟩ = some (.slice A2 b c2)) [13] (by kernel_rfl) (by rw [← hwf]; exact S0) (fun hHeld => ?_)
    rw [← hwf]
    clear hwf
    refine' anyU_take0 (i := 0) (oi := ⟨some 53, .fieldAddr 126 (.tmp 3) 2, _, _, _, none⟩) (v := _) rfl (by kernel_rfl) (fun _ _ _ h => h) (Or.inl ⟨by rfl, ?hy31⟩) (by assumption) ?rest31
    case hy31 => (intro w hSw; go_simp <;> with_reducible rfl)
    case rest31 =>
    go_frame
    refine' anyU_take (i := 1) (oi := ⟨some 54, .load 56 (.tmp 53), _, _, _, none⟩) (v := _) rfl (by kernel_rfl) (fun _ _ _ h => h) (Or.inl ⟨by rfl, ?hy32⟩) (by assumption) ?rest32
    case hy32 => (intro w hSw; obtain s0 := hSw; go_simp <;> with_reducible rfl)
    case rest32 =>
    go_frame
    refine' anyU_take0 (i := 2) (oi := ⟨some 55, .move (.tmp 8), _, _, _, none⟩) (v := _) rfl (by kernel_rfl) (fun _ _ _ h => h) (Or.inl ⟨by rfl, ?hy33⟩) (by assumption) ?rest33
    case hy33 => (intro w hSw; go_simp <;> with_reducible rfl)
    case rest33 =>
    go_frame
    refine' anyU_take0 (i := 3) (oi := ⟨some 56, .slice 56 (.tmp 54) none (some (.tmp 55)) none, _, _, _, none⟩) (v := .slice A2 p c2) rfl (by kernel_rfl) (fun _ _ _ h => h) (Or.inl ⟨by rfl, ?hy34⟩) (by assumption) ?rest34
    case hy34 => (intro w hSw; exact exec_cut (x := .tmp 54) (lo := none) (hi := (some (.tmp 55))) rfl (v := .slice A2 b c2) rfl (l := none) rfl (h := some (.int .i64 (p : Int))) rfl (HK2.out _))
    case rest34 =>
    go_frame
    refine' anyU_take0 (i := 4) (oi := ⟨some 57, .move (.tmp 2), _, _, _, none⟩) (v := _) rfl (by kernel_rfl) (fun _ _ _ h => h) (Or.inl ⟨by rfl, ?hy35⟩) (by assumption) ?rest35
    case hy35 => (intro w hSw; go_simp <;> with_reducible rfl)
    case rest35 =>
    go_frame
    refine' anyU_take0 (i := 6) (oi := ⟨some 59, .fieldAddr 126 (.tmp 3) 2, _, _, _, none⟩) (v := _) rfl (by kernel_rfl) (fun _ _ _ h => h) (Or.inl ⟨by rfl, ?hy36⟩) (by assumption) ?rest36
    case hy36 => (intro w hSw; go_simp <;> with_reducible rfl)
    case rest36 =>
    go_frame
    refine' anyU_take (i := 7) (oi := ⟨some 60, .load 56 (.tmp 59), _, _, _, none⟩) (v := _) rfl (by kernel_rfl) (fun _ _ _ h => h) (Or.inl ⟨by rfl, ?hy37⟩) (by assumption) ?rest37
    case hy37 => (intro w hSw; obtain s0 := hSw; go_simp <;> with_reducible rfl)
    case rest37 =>
    go_frame
    refine' anyU_take0 (i := 8) (oi := ⟨some 61, .move (.tmp 10), _, _, _, none⟩) (v := _) rfl (by kernel_rfl) (fun _ _ _ h => h) (Or.inl ⟨by rfl, ?hy38⟩) (by assumption) ?rest38
    case hy38 => (intro w hSw; go_simp <;> with_reducible rfl)
    case rest38 =>
    go_frame
    refine' anyU_take0 (i := 9) (oi := ⟨some 62, .slice 56 (.tmp 60) (some (.tmp 61)) none none, _, _, _, none⟩) (v := .slice F2 (b - (p + 1)) (c2 - (p + 1))) rfl (by kernel_rfl) (fun _ _ _ h => h) (Or.inl ⟨by rfl, ?hy39⟩) (by assumption) ?rest39
    case hy39 => (intro w hSw; exact exec_cut (x := .tmp 60) (lo := (some (.tmp 61))) (hi := none) rfl (v := .slice A2 b c2) rfl (l := some (.int .i64 ((p : Int) + 1))) rfl (h := none) rfl (HK4.out _))
    case rest39 =>
    go_frame
    refine anyU_ready (rs := [5]) (by kernel_rfl) (by simp) (AllU.cons (o := ⟨some 58, .buildSlice 56 1 #[(0, .tmp 57)], _, _, _, none⟩) rfl (fun K hK => ?_) (fun h => absurd h (by decide)) AllU.nil)
    rw [if_pos (by rfl)]
    have Sxwfa := HS_wfa.out.box.c2
    go_simp
    rw [← HE_wfa.out]
    refine hK.out _ _ (fun _ => Sxwfa) ?_
    clear hK K
    try go_frame
    refine anyU_ready (rs := [10]) (by kernel_rfl) (by simp) (AllU.cons (o := ⟨some 63, .buildSlice 190 3 #[(0, .tmp 56), (1, .tmp 58), (2, .tmp 62)], _, _, _, none⟩) rfl (fun K hK => ?_) (fun h => absurd h (by decide)) AllU.nil)
    rw [if_pos (by rfl)]
    have Sxwfb := HS_wfb.out.box.c2
    go_simp
    rw [← HE_wfb.out]
    refine hK.out _ _ (fun _ => Sxwfb) ?_
    clear hK K
    try go_frame
    refine anyU_ready (rs := [11]) (by kernel_rfl) (by simp) (AllU.cons (o := ⟨some 64, .call { callee := .value (.func 82), args := #[.tmp 63], argTypes := #[190] }, _, _, _, none⟩) rfl (fun K hK => ?_) (fun h => absurd h (by decide)) AllU.nil)
    rw [if_pos (by rfl)]
    go_simp
    refine HCat.out.mono ?_
    rintro e wz ⟨AV, nV, cV, rfl, hz, hoz, hbz⟩
    have HS_z := Lib.hid hz
    have HO_z := Lib.hid hoz
    have HO_y := Lib.hid (PtW.rowKept HO_wf.out hbz)
    have Sxz := hz.box.c2
    dsimp only
    refine hK.out _ _ (fun _ => Sxz) ?_
    clear hK K hz hoz hbz
    try go_frame
    obtain ⟨y0, y1, y2, y3, f0, f1, f2, f3⟩ := out_cells HS_z.out.top
    refine' anyU_take0 (i := 12) (oi := ⟨some 65, .fieldAddr 126 (.tmp 3) 2, _, _, _, none⟩) (v := _) rfl (by kernel_rfl) (fun _ _ _ h => h) (Or.inl ⟨by rfl, ?hy40⟩) (by assumption) ?rest40
    case hy40 => (intro w hSw; go_simp <;> with_reducible rfl)
    case rest40 =>
    go_frame
    refine anyU_ready (rs := [13]) (by kernel_rfl) (by simp) (AllU.cons (o := ⟨none, .store 56 (.tmp 65) (.tmp 64), _, _, _, none⟩) rfl (fun K hK => ?_) (fun _ => by kernel_rfl) AllU.nil)
    rw [if_pos (by rfl)]
    go_simp
    refine hK.out _ _ (fun h => absurd h (by decide)) ?_
    clear hK K
    try go_frame
    refine anyU_done (by kernel_rfl) ?_ _
    obtain ⟨w6, hW⟩ : ∃ X, X = wz.setCell ⟨w.heap.size, 2, none⟩ (.slice AV nV cV) := ⟨_, rfl⟩
    have hs := HS_z.out.setV (.slice AV nV cV)
    have ho := PtW.rowSet HO_z.out 2 (.slice AV nV cV)
    have hq := PtW.rowSet HO_y.out 2 (.slice AV nV cV)
    rw [← hW] at hs ho hq
    rw [← hW]
    have HS_w6 := Lib.hid hs
    have HO_w6 := Lib.hid ho
    have HQ_w6 := Lib.hid hq
    clear hW hs ho hq y0 y1 y2 y3 f0 f1 f2 f3 HS_z HO_z S0 hHeld HS_wfa HE_wfa Sxwfa HS_wfb HE_wfb Sxwfb HS_wf Sxz HCat
    have his : NdIs w6 w6.heap.size (.slice AK nK cK) (.slice AV nV cV) (.slice A3 d c3) (n.put key val) := ⟨by rw [HE1.out]; exact HQ_w6.out.rd, by rw [HE2.out]; exact HO_w6.out.rd, by
      have hk := (HN.out.kids.below HS_w6.out.below).more HS_w6.out.below.size
      rw [HNk.out] at hk
      exact hk⟩
    have hco := copied_as his (lf := true) rfl HSm.out HSl.out
    obtain ⟨x0, x1, x2, x3⟩ := HS_w6.out.box
    have HCo := Lib.hid hco
    clear his hco
    go_wp2_with fail
    refine HCo.out.mono ?_
    rintro e w9 ⟨X1, i1, j1, X2, i2, j2, X3, i3, j3, rfl, hn9, hb9⟩
    have hs9 := HS_w6.out.kept hb9
    have hlt := HS_w6.out.lt
    clear x0 x1 x2 x3
    obtain ⟨y0, y1, y2, y3, f0, f1, f2, f3⟩ := out_cells hs9.out
    obtain ⟨W, hW⟩ : ∃ W, W = store4 w9 (w.heap.size + 1) true (.slice X1 i1 j1) (.slice X2 i2 j2) (.slice X3 i3 j3) := ⟨_, rfl⟩
    have hbox := box_of_top (store4_top (lf := true) (K := .slice X1 i1 j1) (V := .slice X2 i2 j2) (D := .slice X3 i3 j3) hs9.out)
    have hfi := hn9.store4 (lf := true) (K := .slice X1 i1 j1) (V := .slice X2 i2 j2) (D := .slice X3 i3 j3) (N := w.heap.size + 1) hlt
    have hfb := hs9.below.trans (store4_below (w := w9) (lf := true) (K := .slice X1 i1 j1) (V := .slice X2 i2 j2) (D := .slice X3 i3 j3) (show w.heap.size ≤ w.heap.size + 1 by omega))
    rw [← hW] at hbox hfi hfb
    have hfi := hfi.weaken (b1 := w.heap.size) (by omega)
    obtain ⟨q0, q1, q2, q3⟩ := hbox
    have HFi := Lib.hid hfi
    have HFb := Lib.hid hfb
    have HWW := Lib.hid hW
    clear hfi hfb hW hn9 hb9 hs9 hlt
    go_wp2_with fail
    have hW := HWW.out
    unfold store4 at hW
    rw [← hW]
    exact bodyPost_ret (v := .tuple #[ndVal true (.slice X1 i1 j1) (.slice X2 i2 j2) (.slice X3 i3 j3), .bool true]) (by simp [results, Tryz.results56, go_sem, q0, q1, q2, q3]) rfl ⟨_, _, _, rfl, HFi.out, HFb.out⟩
set_option maxRecDepth 100000 in
set_option maxHeartbeats 4000000 in
theorem del_good {n : Nd} {K V D kv : Value} {key : List UInt8} {w : World} (hn : NdIs w w.heap.size K V D n) (hk : Rd w w.heap.size kv (cellsB key)) (hsh : n.Short 40000) (hG : n.MayDel key) :
    Calls Tryz.prog 58 #[ndVal true K V D, kv] w fun e w' => PutOut (n.del key) w e w' := by
  obtain ⟨hln, hs, hth⟩ := hG
  have hsh1 : n.Short 1000000 := ⟨by have := hsh.1; omega, by have := hsh.2.1; omega, by have := hsh.2.2; omega⟩
  have hnk : n.kids = [] := List.eq_nil_of_length_eq_zero (hs.ofLeaf hln).1
  have hvk : n.vals.length = n.keys.length := (hs.ofLeaf hln).2
  have hsm : (n.del key).Short 1000000 := ⟨Nat.le_trans delL_len (by have := hsh.1; omega), Nat.le_trans delL_len (by have := hsh.2.1; omega), Nat.zero_le _⟩
  have hsl := Nd.del_small hs (key := key)
  have hfi := fun (W : World) (hW : Below w.heap.size w W) => find_any ((hn.below hW).more hW.size) (Nat.le_refl _) ((hk.below hW).more hW.size) (Nat.le_refl _) hsh1.1
  have hs1 := fun (W : World) (hW : Below w.heap.size w W) => sound_any ((hn.below hW).more hW.size) (Nat.le_refl _) hsh1
  rw [hln] at hfi hs1
  rw [sndB_iff.2 hs] at hs1
  have hple := isN_lt hs.keys hth
  obtain ⟨A1, c1, A2, c2, A3, c3, rfl, rfl, rfl⟩ := hn.form
  have hg1 := hn.keys.len.2.1
  have hg2 := hn.vals.len.2.1
  obtain ⟨Ak, ck, rfl, -, -, -⟩ := hk.bytes
  obtain ⟨a, ha⟩ : ∃ x, x = n.keys.length := ⟨_, rfl⟩
  obtain ⟨b, hb⟩ : ∃ x, x = n.vals.length := ⟨_, rfl⟩
  obtain ⟨d, hd⟩ : ∃ x, x = n.kids.length := ⟨_, rfl⟩
  obtain ⟨kl, hkl⟩ : ∃ x, x = key.length := ⟨_, rfl⟩
  obtain ⟨p, hp⟩ : ∃ x, x = atN n.keys key := ⟨_, rfl⟩
  rw [show belowN n.keys key n.keys.length = p from hp.symm, show hasN n.keys key n.keys.length = true from hth] at hfi
  rw [← hkl] at hfi hk
  rw [← ha, ← hb, ← hd] at hfi hs1 hn
  rw [← ha] at hvk hg1
  rw [← hb] at hvk hg2
  rw [← hp, ← ha] at hple
  have ha4 : a ≤ 40000 := by rw [ha]; exact hsh.1
  have he1 : (n.del key).keys = n.keys.take p ++ n.keys.drop (p + 1) := by rw [hp]; rfl
  have he2 : (n.del key).vals = n.vals.take p ++ n.vals.drop (p + 1) := by rw [hp]; rfl
  have hlk : n.keys.length = a := ha.symm
  have hlv : n.vals.length = b := hb.symm
  rw [← ha, ← hb, ← hd, ← hkl]
  have hst := PtW.start (w0 := w) (lf := true) (tK := .slice A1 a c1) (tV := .slice A2 b c2) (tD := .slice A3 d c3)
  obtain ⟨x0, x1, x2, x3⟩ := hst.box
  have hcc := hs1 _ hst.below
  have HSt := Lib.hid hst
  have HN := Lib.hid hn
  have HK := Lib.hid hk
  have HFi := Lib.hid hfi
  have HE1 := Lib.hid he1
  have HE2 := Lib.hid he2
  have HLk := Lib.hid (And.intro hlk hlv)
  have HNk := Lib.hid hnk
  have HSm := Lib.hid hsm
  have HSl := Lib.hid hsl
  have HNum := Lib.hid (And.intro hvk (And.intro hple (And.intro hg1 (And.intro hg2 ha4))))
  have hp4 : p ≤ 40000 := by omega
  clear hn hk hst hs1 hfi he1 he2 hlk hlv hnk hsm hsl hvk hple hg1 hg2 ha4 ha hb hd hkl hp hth hsh hsh1 hs hln
  go_enter Tryz.func58, Tryz.ntmps58
  go_wp2_with fail
  refine hcc.mono ?_
  rintro e w1 ⟨rfl, hb1⟩
  have HS1 := Lib.hid (HSt.out.kept hb1)
  have hfc := HFi.out w1 HS1.out.below
  clear x0 x1 x2 x3 hcc hb1 HSt HFi
  obtain ⟨x0, x1, x2, x3⟩ := HS1.out.box
  go_wp2_with fail
  refine hfc.mono ?_
  rintro e w4 ⟨rfl, hb4⟩
  have HS_4 := Lib.hid (HS1.out.kept hb4)
  clear hfc hb4 x0 x1 x2 x3 HS1
  obtain ⟨hvk, hple, hg1, hg2, ha4⟩ := HNum.out
  obtain ⟨iT, hiT, hT0, hT1, hT2⟩ := info_parts info_row
  have hk1 := cut_h (P := Tryz.prog) Tryz.underlying56 hiT hT1 A1 a c1 p (by omega) _ rfl
  have hk2 := cut_h (P := Tryz.prog) Tryz.underlying56 hiT hT1 A2 b c2 p (by omega) _ rfl
  obtain ⟨F1, hF1, hk3⟩ := cut_l (P := Tryz.prog) Tryz.underlying56 hiT hT1 A1 a c1 (p + 1) (by omega) (IntKind.i64.wrap ((p : Int) + 1)) (by rw [IntWalk.i64_in _ (by omega)]; omega)
  obtain ⟨F2, hF2, hk4⟩ := cut_l (P := Tryz.prog) Tryz.underlying56 hiT hT1 A2 b c2 (p + 1) (by omega) (IntKind.i64.wrap ((p : Int) + 1)) (by rw [IntWalk.i64_in _ (by omega)]; omega)
  have hlo1 := HN.out.keys.upto (show p ≤ a by omega)
  have hlo2 := HN.out.vals.upto (show p ≤ b by omega)
  have hup1 := HN.out.keys.behind (show p + 1 ≤ a by omega)
  have hup2 := HN.out.vals.behind (show p + 1 ≤ b by omega)
  rw [← hF1] at hup1
  rw [← hF2] at hup2
  have HK1 := Lib.hid hk1
  have HK2 := Lib.hid hk2
  have HK3 := Lib.hid hk3
  have HK4 := Lib.hid hk4
  have HLo1 := Lib.hid hlo1
  have HLo2 := Lib.hid hlo2
  have HUp1 := Lib.hid hup1
  have HUp2 := Lib.hid hup2
  clear hk1 hk2 hk3 hk4 hiT hT0 hT1 hT2 hF1 hF2 hlo1 hlo2 hup1 hup2
  clear hvk hple hg1 hg2 ha4
  go_wp2_with fail
  obtain ⟨wd, hwd⟩ : ∃ x, x = w4.drew := ⟨_, rfl⟩
  have HS_wd : Hid (PtW w wd true (.slice A1 a c1) (.slice A2 b c2) (.slice A3 d c3)) := Lib.hid (by rw [hwd]; exact HS_4.out.kept (Below.refl _ _).drew)
  have Zwd := Lib.hid (show wd.heap.size = w4.heap.size by rw [hwd]; rfl)
  have S0 : (fun w' => w'.cell? ⟨w.heap.size, 1, none⟩ = some (.slice A1 a c1)) wd := HS_wd.out.box.c1
  have hcat := HS_wd.out.cat HLo1.out HUp1.out (by have := HLk.out.1; have := HLk.out.2; obtain ⟨hvk, -, -, -, ha4⟩ := HNum.out; simp; omega)
  obtain ⟨wdb, hwdb⟩ : ∃ u, u = wd.alloc (.cells #[.slice A1 p c1, .slice F1 (a - (p + 1)) (c1 - (p + 1))] 56) := ⟨_, rfl⟩
  have zwdb : wdb.heap.size = wd.heap.size + 1 := by rw [hwdb]; simp
  have HS_wdb : Hid (PtW w wdb true (.slice A1 a c1) (.slice A2 b c2) (.slice A3 d c3)) := Lib.hid (by rw [hwdb]; exact HS_wd.out.kept ((Below.refl _ _).alloc (Nat.le_refl _) _))
  rw [← hwdb] at hcat
  have HCat := Lib.hid hcat
  have HE_wdb := Lib.hid hwdb
  clear hcat hwdb zwdb
  refine wp_region_late (S := fun w' => w'.cell? ⟨w.heap.size, 1, none⟩ = some (.slice A1 a c1)) [12] (by kernel_rfl) (by rw [← hwd]; exact S0) (fun hHeld => ?_)
  rw [← hwd]
  clear hwd
  refine' anyU_take0 (i := 0) (oi := ⟨some 26, .fieldAddr 126 (.tmp 2) 1, _, _, _, none⟩) (v := _) rfl (by kernel_rfl) (fun _ _ _ h => h) (Or.inl ⟨by rfl, ?hy41⟩) (by assumption) ?rest41
  case hy41 => (intro w hSw; go_simp <;> with_reducible rfl)
  case rest41 =>
  go_frame
  refine' anyU_take (i := 1) (oi := ⟨some 27, .load 56 (.tmp 26), _, _, _, none⟩) (v := _) rfl (by kernel_rfl) (fun _ _ _ h => h) (Or.inl ⟨by rfl, ?hy42⟩) (by assumption) ?rest42
  case hy42 => (intro w hSw; obtain s0 := hSw; go_simp <;> with_reducible rfl)
  case rest42 =>
  go_frame
  refine' anyU_take0 (i := 2) (oi := ⟨some 28, .move (.tmp 6), _, _, _, none⟩) (v := _) rfl (by kernel_rfl) (fun _ _ _ h => h) (Or.inl ⟨by rfl, ?hy43⟩) (by assumption) ?rest43
  case hy43 => (intro w hSw; go_simp <;> with_reducible rfl)
  case rest43 =>
  go_frame
  refine' anyU_take0 (i := 3) (oi := ⟨some 29, .slice 56 (.tmp 27) none (some (.tmp 28)) none, _, _, _, none⟩) (v := .slice A1 p c1) rfl (by kernel_rfl) (fun _ _ _ h => h) (Or.inl ⟨by rfl, ?hy44⟩) (by assumption) ?rest44
  case hy44 => (intro w hSw; exact exec_cut (x := .tmp 27) (lo := none) (hi := (some (.tmp 28))) rfl (v := .slice A1 a c1) rfl (l := none) rfl (h := some (.int .i64 (p : Int))) rfl (HK1.out _))
  case rest44 =>
  go_frame
  refine' anyU_take0 (i := 4) (oi := ⟨some 30, .fieldAddr 126 (.tmp 2) 1, _, _, _, none⟩) (v := _) rfl (by kernel_rfl) (fun _ _ _ h => h) (Or.inl ⟨by rfl, ?hy45⟩) (by assumption) ?rest45
  case hy45 => (intro w hSw; go_simp <;> with_reducible rfl)
  case rest45 =>
  go_frame
  refine' anyU_take (i := 5) (oi := ⟨some 31, .load 56 (.tmp 30), _, _, _, none⟩) (v := _) rfl (by kernel_rfl) (fun _ _ _ h => h) (Or.inl ⟨by rfl, ?hy46⟩) (by assumption) ?rest46
  case hy46 => (intro w hSw; obtain s0 := hSw; go_simp <;> with_reducible rfl)
  case rest46 =>
  go_frame
  refine' anyU_take0 (i := 6) (oi := ⟨some 32, .move (.tmp 6), _, _, _, none⟩) (v := _) rfl (by kernel_rfl) (fun _ _ _ h => h) (Or.inl ⟨by rfl, ?hy47⟩) (by assumption) ?rest47
  case hy47 => (intro w hSw; go_simp <;> with_reducible rfl)
  case rest47 =>
  go_frame
  refine' anyU_take0 (i := 7) (oi := ⟨some 33, .binOp .add 3 (.tmp 32) (.const (.int .i64 1)) 3, _, _, _, none⟩) (v := _) rfl (by kernel_rfl) (fun _ _ _ h => h) (Or.inl ⟨by rfl, ?hy48⟩) (by assumption) ?rest48
  case hy48 => (intro w hSw; go_simp <;> with_reducible rfl)
  case rest48 =>
  go_frame
  refine' anyU_take0 (i := 8) (oi := ⟨some 34, .slice 56 (.tmp 31) (some (.tmp 33)) none none, _, _, _, none⟩) (v := .slice F1 (a - (p + 1)) (c1 - (p + 1))) rfl (by kernel_rfl) (fun _ _ _ h => h) (Or.inl ⟨by rfl, ?hy49⟩) (by assumption) ?rest49
  case hy49 => (intro w hSw; exact exec_cut (x := .tmp 31) (lo := (some (.tmp 33))) (hi := none) rfl (v := .slice A1 a c1) rfl (l := some (.int .i64 (IntKind.i64.wrap ((p : Int) + 1)))) rfl (h := none) rfl (HK3.out _))
  case rest49 =>
  go_frame
  refine anyU_ready (rs := [9]) (by kernel_rfl) (by simp) (AllU.cons (o := ⟨some 35, .buildSlice 190 2 #[(0, .tmp 29), (1, .tmp 34)], _, _, _, none⟩) rfl (fun K hK => ?_) (fun h => absurd h (by decide)) AllU.nil)
  rw [if_pos (by rfl)]
  have Sxwdb := HS_wdb.out.box.c1
  go_simp
  rw [← HE_wdb.out]
  refine hK.out _ _ (fun _ => Sxwdb) ?_
  clear hK K
  try go_frame
  refine anyU_ready (rs := [10]) (by kernel_rfl) (by simp) (AllU.cons (o := ⟨some 36, .call { callee := .value (.func 82), args := #[.tmp 35], argTypes := #[190] }, _, _, _, none⟩) rfl (fun K hK => ?_) (fun h => absurd h (by decide)) AllU.nil)
  rw [if_pos (by rfl)]
  go_simp
  refine HCat.out.mono ?_
  rintro e wz ⟨AK, nK, cK, rfl, hz, hoz, hbz⟩
  have HS_z := Lib.hid hz
  have HO_z := Lib.hid hoz
  
  have Sxz := hz.box.c1
  dsimp only
  refine hK.out _ _ (fun _ => Sxz) ?_
  clear hK K hz hoz hbz
  try go_frame
  obtain ⟨y0, y1, y2, y3, f0, f1, f2, f3⟩ := out_cells HS_z.out.top
  refine' anyU_take0 (i := 11) (oi := ⟨some 37, .fieldAddr 126 (.tmp 2) 1, _, _, _, none⟩) (v := _) rfl (by kernel_rfl) (fun _ _ _ h => h) (Or.inl ⟨by rfl, ?hy50⟩) (by assumption) ?rest50
  case hy50 => (intro w hSw; go_simp <;> with_reducible rfl)
  case rest50 =>
  go_frame
  refine anyU_ready (rs := [12]) (by kernel_rfl) (by simp) (AllU.cons (o := ⟨none, .store 56 (.tmp 37) (.tmp 36), _, _, _, none⟩) rfl (fun K hK => ?_) (fun _ => by kernel_rfl) AllU.nil)
  rw [if_pos (by rfl)]
  go_simp
  refine hK.out _ _ (fun h => absurd h (by decide)) ?_
  clear hK K
  try go_frame
  refine anyU_done (by kernel_rfl) ?_ _
  obtain ⟨w5, hW⟩ : ∃ X, X = wz.setCell ⟨w.heap.size, 1, none⟩ (.slice AK nK cK) := ⟨_, rfl⟩
  have hs := HS_z.out.setK (.slice AK nK cK)
  have ho := PtW.rowSet HO_z.out 1 (.slice AK nK cK)
  rw [← hW] at hs ho
  rw [← hW]
  have HS_w5 := Lib.hid hs
  have HO_w5 := Lib.hid ho
  clear hW hs ho y0 y1 y2 y3 f0 f1 f2 f3 HS_z HO_z S0 hHeld HS_wdb HE_wdb Sxwdb HS_wd Sxz HCat
  go_wp2_with fail
  obtain ⟨wf, hwf⟩ : ∃ x, x = w5.drew := ⟨_, rfl⟩
  have HS_wf : Hid (PtW w wf true (.slice AK nK cK) (.slice A2 b c2) (.slice A3 d c3)) := Lib.hid (by rw [hwf]; exact HS_w5.out.kept (Below.refl _ _).drew)
  have Zwf := Lib.hid (show wf.heap.size = w5.heap.size by rw [hwf]; rfl)
  have S0 : (fun w' => w'.cell? ⟨w.heap.size, 2, none⟩ = some (.slice A2 b c2)) wf := HS_wf.out.box.c2
  have HO_wf : Hid (OwnT wf w.heap.size (w.heap.size + 2) (.slice AK nK cK) (n.keys.take p ++ n.keys.drop (p + 1))) := Lib.hid (by rw [hwf]; exact PtW.rowKept HO_w5.out (Below.refl _ _).drew)
  have hcat := HS_wf.out.cat HLo2.out HUp2.out (by have := HLk.out.1; have := HLk.out.2; obtain ⟨hvk, -, -, -, ha4⟩ := HNum.out; simp; omega)
  obtain ⟨wfb, hwfb⟩ : ∃ u, u = wf.alloc (.cells #[.slice A2 p c2, .slice F2 (b - (p + 1)) (c2 - (p + 1))] 56) := ⟨_, rfl⟩
  have zwfb : wfb.heap.size = wf.heap.size + 1 := by rw [hwfb]; simp
  have HS_wfb : Hid (PtW w wfb true (.slice AK nK cK) (.slice A2 b c2) (.slice A3 d c3)) := Lib.hid (by rw [hwfb]; exact HS_wf.out.kept ((Below.refl _ _).alloc (Nat.le_refl _) _))
  rw [← hwfb] at hcat
  have HCat := Lib.hid hcat
  have HE_wfb := Lib.hid hwfb
  clear hcat hwfb zwfb
  refine wp_region_late (S := fun w' => w'.cell? ⟨w.heap.size, 2, none⟩ = some (.slice A2 b c2)) [12] (by kernel_rfl) (by rw [← hwf]; exact S0) (fun hHeld => ?_)
  rw [← hwf]
  clear hwf
  refine' anyU_take0 (i := 0) (oi := ⟨some 38, .fieldAddr 126 (.tmp 2) 2, _, _, _, none⟩) (v := _) rfl (by kernel_rfl) (fun _ _ _ h => h) (Or.inl ⟨by rfl, ?hy51⟩) (by assumption) ?rest51
  case hy51 => (intro w hSw; go_simp <;> with_reducible rfl)
  case rest51 =>
  go_frame
  refine' anyU_take (i := 1) (oi := ⟨some 39, .load 56 (.tmp 38), _, _, _, none⟩) (v := _) rfl (by kernel_rfl) (fun _ _ _ h => h) (Or.inl ⟨by rfl, ?hy52⟩) (by assumption) ?rest52
  case hy52 => (intro w hSw; obtain s0 := hSw; go_simp <;> with_reducible rfl)
  case rest52 =>
  go_frame
  refine' anyU_take0 (i := 2) (oi := ⟨some 40, .move (.tmp 6), _, _, _, none⟩) (v := _) rfl (by kernel_rfl) (fun _ _ _ h => h) (Or.inl ⟨by rfl, ?hy53⟩) (by assumption) ?rest53
  case hy53 => (intro w hSw; go_simp <;> with_reducible rfl)
  case rest53 =>
  go_frame
  refine' anyU_take0 (i := 3) (oi := ⟨some 41, .slice 56 (.tmp 39) none (some (.tmp 40)) none, _, _, _, none⟩) (v := .slice A2 p c2) rfl (by kernel_rfl) (fun _ _ _ h => h) (Or.inl ⟨by rfl, ?hy54⟩) (by assumption) ?rest54
  case hy54 => (intro w hSw; exact exec_cut (x := .tmp 39) (lo := none) (hi := (some (.tmp 40))) rfl (v := .slice A2 b c2) rfl (l := none) rfl (h := some (.int .i64 (p : Int))) rfl (HK2.out _))
  case rest54 =>
  go_frame
  refine' anyU_take0 (i := 4) (oi := ⟨some 42, .fieldAddr 126 (.tmp 2) 2, _, _, _, none⟩) (v := _) rfl (by kernel_rfl) (fun _ _ _ h => h) (Or.inl ⟨by rfl, ?hy55⟩) (by assumption) ?rest55
  case hy55 => (intro w hSw; go_simp <;> with_reducible rfl)
  case rest55 =>
  go_frame
  refine' anyU_take (i := 5) (oi := ⟨some 43, .load 56 (.tmp 42), _, _, _, none⟩) (v := _) rfl (by kernel_rfl) (fun _ _ _ h => h) (Or.inl ⟨by rfl, ?hy56⟩) (by assumption) ?rest56
  case hy56 => (intro w hSw; obtain s0 := hSw; go_simp <;> with_reducible rfl)
  case rest56 =>
  go_frame
  refine' anyU_take0 (i := 6) (oi := ⟨some 44, .move (.tmp 6), _, _, _, none⟩) (v := _) rfl (by kernel_rfl) (fun _ _ _ h => h) (Or.inl ⟨by rfl, ?hy57⟩) (by assumption) ?rest57
  case hy57 => (intro w hSw; go_simp <;> with_reducible rfl)
  case rest57 =>
  go_frame
  refine' anyU_take0 (i := 7) (oi := ⟨some 45, .binOp .add 3 (.tmp 44) (.const (.int .i64 1)) 3, _, _, _, none⟩) (v := _) rfl (by kernel_rfl) (fun _ _ _ h => h) (Or.inl ⟨by rfl, ?hy58⟩) (by assumption) ?rest58
  case hy58 => (intro w hSw; go_simp <;> with_reducible rfl)
  case rest58 =>
  go_frame
  refine' anyU_take0 (i := 8) (oi := ⟨some 46, .slice 56 (.tmp 43) (some (.tmp 45)) none none, _, _, _, none⟩) (v := .slice F2 (b - (p + 1)) (c2 - (p + 1))) rfl (by kernel_rfl) (fun _ _ _ h => h) (Or.inl ⟨by rfl, ?hy59⟩) (by assumption) ?rest59
  case hy59 => (intro w hSw; exact exec_cut (x := .tmp 43) (lo := (some (.tmp 45))) (hi := none) rfl (v := .slice A2 b c2) rfl (l := some (.int .i64 (IntKind.i64.wrap ((p : Int) + 1)))) rfl (h := none) rfl (HK4.out _))
  case rest59 =>
  go_frame
  refine anyU_ready (rs := [9]) (by kernel_rfl) (by simp) (AllU.cons (o := ⟨some 47, .buildSlice 190 2 #[(0, .tmp 41), (1, .tmp 46)], _, _, _, none⟩) rfl (fun K hK => ?_) (fun h => absurd h (by decide)) AllU.nil)
  rw [if_pos (by rfl)]
  have Sxwfb := HS_wfb.out.box.c2
  go_simp
  rw [← HE_wfb.out]
  refine hK.out _ _ (fun _ => Sxwfb) ?_
  clear hK K
  try go_frame
  refine anyU_ready (rs := [10]) (by kernel_rfl) (by simp) (AllU.cons (o := ⟨some 48, .call { callee := .value (.func 82), args := #[.tmp 47], argTypes := #[190] }, _, _, _, none⟩) rfl (fun K hK => ?_) (fun h => absurd h (by decide)) AllU.nil)
  rw [if_pos (by rfl)]
  go_simp
  refine HCat.out.mono ?_
  rintro e wz ⟨AV, nV, cV, rfl, hz, hoz, hbz⟩
  have HS_z := Lib.hid hz
  have HO_z := Lib.hid hoz
  have HO_y := Lib.hid (PtW.rowKept HO_wf.out hbz)
  have Sxz := hz.box.c2
  dsimp only
  refine hK.out _ _ (fun _ => Sxz) ?_
  clear hK K hz hoz hbz
  try go_frame
  obtain ⟨y0, y1, y2, y3, f0, f1, f2, f3⟩ := out_cells HS_z.out.top
  refine' anyU_take0 (i := 11) (oi := ⟨some 49, .fieldAddr 126 (.tmp 2) 2, _, _, _, none⟩) (v := _) rfl (by kernel_rfl) (fun _ _ _ h => h) (Or.inl ⟨by rfl, ?hy60⟩) (by assumption) ?rest60
  case hy60 => (intro w hSw; go_simp <;> with_reducible rfl)
  case rest60 =>
  go_frame
  refine anyU_ready (rs := [12]) (by kernel_rfl) (by simp) (AllU.cons (o := ⟨none, .store 56 (.tmp 49) (.tmp 48), _, _, _, none⟩) rfl (fun K hK => ?_) (fun _ => by kernel_rfl) AllU.nil)
  rw [if_pos (by rfl)]
  go_simp
  refine hK.out _ _ (fun h => absurd h (by decide)) ?_
  clear hK K
  try go_frame
  refine anyU_done (by kernel_rfl) ?_ _
  obtain ⟨w6, hW⟩ : ∃ X, X = wz.setCell ⟨w.heap.size, 2, none⟩ (.slice AV nV cV) := ⟨_, rfl⟩
  have hs := HS_z.out.setV (.slice AV nV cV)
  have ho := PtW.rowSet HO_z.out 2 (.slice AV nV cV)
  have hq := PtW.rowSet HO_y.out 2 (.slice AV nV cV)
  rw [← hW] at hs ho hq
  rw [← hW]
  have HS_w6 := Lib.hid hs
  have HO_w6 := Lib.hid ho
  have HQ_w6 := Lib.hid hq
  clear hW hs ho hq y0 y1 y2 y3 f0 f1 f2 f3 HS_z HO_z S0 hHeld HS_wfb HE_wfb Sxwfb HS_wf Sxz HCat
  have his : NdIs w6 w6.heap.size (.slice AK nK cK) (.slice AV nV cV) (.slice A3 d c3) (n.del key) := ⟨by rw [HE1.out]; exact HQ_w6.out.rd, by rw [HE2.out]; exact HO_w6.out.rd, by
    have hk := (HN.out.kids.below HS_w6.out.below).more HS_w6.out.below.size
    rw [HNk.out] at hk
    exact hk⟩
  have hco := copied_as his (lf := true) rfl HSm.out HSl.out
  obtain ⟨x0, x1, x2, x3⟩ := HS_w6.out.box
  have HCo := Lib.hid hco
  clear his hco
  go_wp2_with fail
  refine HCo.out.mono ?_
  rintro e w9 ⟨X1, i1, j1, X2, i2, j2, X3, i3, j3, rfl, hn9, hb9⟩
  have hs9 := HS_w6.out.kept hb9
  have hlt := HS_w6.out.lt
  clear x0 x1 x2 x3
  obtain ⟨y0, y1, y2, y3, f0, f1, f2, f3⟩ := out_cells hs9.out
  obtain ⟨W, hW⟩ : ∃ W, W = store4 w9 (w.heap.size + 1) true (.slice X1 i1 j1) (.slice X2 i2 j2) (.slice X3 i3 j3) := ⟨_, rfl⟩
  have hbox := box_of_top (store4_top (lf := true) (K := .slice X1 i1 j1) (V := .slice X2 i2 j2) (D := .slice X3 i3 j3) hs9.out)
  have hfi := hn9.store4 (lf := true) (K := .slice X1 i1 j1) (V := .slice X2 i2 j2) (D := .slice X3 i3 j3) (N := w.heap.size + 1) hlt
  have hfb := hs9.below.trans (store4_below (w := w9) (lf := true) (K := .slice X1 i1 j1) (V := .slice X2 i2 j2) (D := .slice X3 i3 j3) (show w.heap.size ≤ w.heap.size + 1 by omega))
  rw [← hW] at hbox hfi hfb
  have hfi := hfi.weaken (b1 := w.heap.size) (by omega)
  obtain ⟨q0, q1, q2, q3⟩ := hbox
  have HFi := Lib.hid hfi
  have HFb := Lib.hid hfb
  have HWW := Lib.hid hW
  clear hfi hfb hW hn9 hb9 hs9 hlt
  go_wp2_with fail
  have hW := HWW.out
  unfold store4 at hW
  rw [← hW]
  exact bodyPost_ret (v := .tuple #[ndVal true (.slice X1 i1 j1) (.slice X2 i2 j2) (.slice X3 i3 j3), .bool true]) (by simp [results, Tryz.results58, go_sem, q0, q1, q2, q3]) rfl ⟨_, _, _, rfl, HFi.out, HFb.out⟩
end Go.Proofs.YtnmokkkbghlpbaaGreat
/-
  The closures that change a leaf; a leaf's draft.
-/
namespace Go.Proofs.YtnmokkkbghlpbaaGreat
open Go.RowKit
/-- What stands in two new blocks: a node's value, and where one is handed back. -/
abbrev two4 (w : World) (lf : Bool) (K V D : Value) : World :=
  (w.alloc (.cells #[.bool lf, K, V, D] 126)).alloc (.cells #[.bool false, .slice none 0 0, .slice none 0 0, .slice none 0 0] 126)
theorem two4_below (w : World) (lf : Bool) (K V D : Value) : Below w.heap.size w (two4 w lf K V D) := ((Below.refl _ _).alloc (Nat.le_refl _) _).alloc (by simp) _
theorem two4_size (w : World) (lf : Bool) (K V D : Value) : (two4 w lf K V D).heap.size = w.heap.size + 2 := by simp [two4]
theorem two4_box (w : World) (lf : Bool) (K V D : Value) : NdBox (two4 w lf K V D) w.heap.size lf K V D :=
  (NdBox.made w lf K V D).later (B := w.heap.size + 1) (by omega) ((Below.refl _ _).alloc (by simp) _)
theorem two4_out (w : World) (lf : Bool) (K V D : Value) : (two4 w lf K V D).heap[w.heap.size + 1]? = some (.cells #[.bool false, .slice none 0 0, .slice none 0 0, .slice none 0 0] 126 (0, 0)) := by
  have := heap_alloc_last (w.alloc (.cells #[.bool lf, K, V, D] 126)) (.cells #[.bool false, .slice none 0 0, .slice none 0 0, .slice none 0 0] 126)
  simpa using this
/-- A node handed back in block N, which lies below what the node owns: all that the walk's end needs. -/
theorem store4_done {w2 : World} {N base B : Nat} {lf : Bool} {K V D a0 a1 a2 a3 : Value} {n : Nd} (ho : w2.heap[N]? = some (.cells #[a0, a1, a2, a3] 126 (0, 0))) (hn : NdNew w2 base K V D n) (hN : N < base) (hB : B ≤ N) :
    NdBox (store4 w2 N lf K V D) N lf K V D ∧ NdNew (store4 w2 N lf K V D) base K V D n ∧ Below B w2 (store4 w2 N lf K V D) :=
  ⟨box_of_top (store4_top ho), hn.store4 hN, store4_below hB⟩
set_option maxRecDepth 100000 in
set_option maxHeartbeats 1000000 in
/-- Put's closure. -/
theorem trPutFn_ok {w : World} {kb vb : Nat} {n : Nd} {K V D kv vv : Value} {key val : List UInt8} (hn : NdIs w w.heap.size K V D n) (k0 : w.cell? ⟨kb, 0, none⟩ = some kv) (v0 : w.cell? ⟨vb, 0, none⟩ = some vv)
    (hk : Rd w w.heap.size kv (cellsB key)) (hv : Rd w w.heap.size vv (cellsB val)) (hsh : n.Short 40000) (hG : n.MayPut key val) :
    Calls Tryz.prog 55 #[ndVal n.leaf K V D, at0 kb, at0 vb] w fun e w' => PutOut (n.put key val) w e w' := by
  have hlf : n.leaf = true := hG.1
  rw [hlf]
  obtain ⟨A1, c1, A2, c2, A3, c3, rfl, rfl, rfl⟩ := hn.form
  obtain ⟨a1, ha1⟩ : ∃ y, y = n.keys.length := ⟨_, rfl⟩
  obtain ⟨a2, ha2⟩ : ∃ y, y = n.vals.length := ⟨_, rfl⟩
  obtain ⟨a3, ha3⟩ : ∃ y, y = n.kids.length := ⟨_, rfl⟩
  rw [← ha1, ← ha2, ← ha3] at hn ⊢
  obtain ⟨W, hW⟩ : ∃ y, y = two4 w true (.slice A1 a1 c1) (.slice A2 a2 c2) (.slice A3 a3 c3) := ⟨_, rfl⟩
  have hb : Below w.heap.size w W := by rw [hW]; exact two4_below _ _ _ _ _
  have hsz : W.heap.size = w.heap.size + 2 := by rw [hW]; exact two4_size _ _ _ _ _
  have hP := put_good (w := W) ((hn.below hb).more hb.size) ((hk.below hb).more hb.size) ((hv.below hb).more hb.size) hsh hG
  have hx : NdBox W w.heap.size true (.slice A1 a1 c1) (.slice A2 a2 c2) (.slice A3 a3 c3) := by rw [hW]; exact two4_box _ _ _ _ _
  have ho : W.heap[w.heap.size + 1]? = some (.cells #[.bool false, .slice none 0 0, .slice none 0 0, .slice none 0 0] 126 (0, 0)) := by rw [hW]; exact two4_out _ _ _ _ _
  have k1 := (hb.cell (p := ⟨kb, 0, none⟩) (World.block_lt_of_cell? _ _ k0)).trans k0
  have v1 := (hb.cell (p := ⟨vb, 0, none⟩) (World.block_lt_of_cell? _ _ v0)).trans v0
  have HB := Lib.hid hb
  have HS := Lib.hid hsz
  have HO := Lib.hid ho
  obtain ⟨m, hm⟩ : ∃ y, y = n.put key val := ⟨_, rfl⟩
  rw [← hm] at hP ⊢
  obtain ⟨B1, d1, rfl, _⟩ := hk.bytes
  obtain ⟨B2, d2, rfl, _⟩ := hv.bytes
  obtain ⟨l1, hl1⟩ : ∃ y, y = key.length := ⟨_, rfl⟩
  rw [← hl1] at k1 hP
  obtain ⟨l2, hl2⟩ : ∃ y, y = val.length := ⟨_, rfl⟩
  rw [← hl2] at v1 hP
  have HP := Lib.hid hP
  rw [hW] at HP HB HS HO hx k1 v1
  obtain ⟨x0, x1, x2, x3⟩ := hx
  unfold two4 at HP HB HS HO x0 x1 x2 x3 k1 v1
  clear hn k0 v0 hk hv hsh hG hb hsz hP ho hW hm ha1 ha2 ha3 hlf hl1 hl2
  go_enter Tryz.func55, Tryz.ntmps55
  go_wp2_with fail
  refine HP.out.mono ?_
  rintro e w2 ⟨K, V, D, rfl, hnew, hb2⟩
  obtain ⟨E1, n1, e1, E2, n2, e2, E3, n3, e3, rfl, rfl, rfl⟩ := hnew.is.slices
  have hs := HS.out
  have ho2 := (hb2.block (w.heap.size + 1) (by omega)).trans HO.out
  obtain ⟨y0, y1, y2, y3, f0, f1, f2, f3⟩ := out_cells ho2
  obtain ⟨X, hX⟩ : ∃ y, y = store4 w2 (w.heap.size + 1) true (.slice E1 n1 e1) (.slice E2 n2 e2) (.slice E3 n3 e3) := ⟨_, rfl⟩
  obtain ⟨hbx, hnx, hbl⟩ := store4_done (lf := true) (K := .slice E1 n1 e1) (V := .slice E2 n2 e2) (D := .slice E3 n3 e3) (B := w.heap.size) ho2 hnew (by omega) (by omega)
  rw [← hX] at hbx hnx hbl
  have hfin : NdNew X w.heap.size (.slice E1 n1 e1) (.slice E2 n2 e2) (.slice E3 n3 e3) m ∧ Below w.heap.size w X := ⟨hnx.weaken (by omega), (HB.out.trans (hb2.mono (by omega))).trans hbl⟩
  obtain ⟨q0, q1, q2, q3⟩ := hbx
  have HF := Lib.hid hfin
  have HX := Lib.hid hX
  clear hnew hb2 hs ho2 hX hnx hbl hfin
  go_wp2_with fail
  have hX := HX.out
  unfold store4 at hX
  rw [← hX]
  exact bodyPost_ret (v := .tuple #[ndVal true (.slice E1 n1 e1) (.slice E2 n2 e2) (.slice E3 n3 e3), .bool true]) (by simp [results, Tryz.results55, go_sem, q0, q1, q2, q3]) rfl ⟨_, _, _, rfl, HF.out.1, HF.out.2⟩
set_option maxRecDepth 100000 in
set_option maxHeartbeats 1000000 in
/-- Delete's closure, where there is the key. -/
theorem trDelFn_ok {w : World} {kb : Nat} {n : Nd} {K V D kv : Value} {key : List UInt8} (hn : NdIs w w.heap.size K V D n) (k0 : w.cell? ⟨kb, 0, none⟩ = some kv) 
    (hk : Rd w w.heap.size kv (cellsB key)) (hsh : n.Short 40000) (hG : n.MayDel key) :
    Calls Tryz.prog 57 #[ndVal n.leaf K V D, at0 kb] w fun e w' => PutOut (n.del key) w e w' := by
  have hlf : n.leaf = true := hG.1
  rw [hlf]
  obtain ⟨A1, c1, A2, c2, A3, c3, rfl, rfl, rfl⟩ := hn.form
  obtain ⟨a1, ha1⟩ : ∃ y, y = n.keys.length := ⟨_, rfl⟩
  obtain ⟨a2, ha2⟩ : ∃ y, y = n.vals.length := ⟨_, rfl⟩
  obtain ⟨a3, ha3⟩ : ∃ y, y = n.kids.length := ⟨_, rfl⟩
  rw [← ha1, ← ha2, ← ha3] at hn ⊢
  obtain ⟨W, hW⟩ : ∃ y, y = two4 w true (.slice A1 a1 c1) (.slice A2 a2 c2) (.slice A3 a3 c3) := ⟨_, rfl⟩
  have hb : Below w.heap.size w W := by rw [hW]; exact two4_below _ _ _ _ _
  have hsz : W.heap.size = w.heap.size + 2 := by rw [hW]; exact two4_size _ _ _ _ _
  have hP := del_good (w := W) ((hn.below hb).more hb.size) ((hk.below hb).more hb.size) hsh hG
  have hx : NdBox W w.heap.size true (.slice A1 a1 c1) (.slice A2 a2 c2) (.slice A3 a3 c3) := by rw [hW]; exact two4_box _ _ _ _ _
  have ho : W.heap[w.heap.size + 1]? = some (.cells #[.bool false, .slice none 0 0, .slice none 0 0, .slice none 0 0] 126 (0, 0)) := by rw [hW]; exact two4_out _ _ _ _ _
  have k1 := (hb.cell (p := ⟨kb, 0, none⟩) (World.block_lt_of_cell? _ _ k0)).trans k0
  have HB := Lib.hid hb
  have HS := Lib.hid hsz
  have HO := Lib.hid ho
  obtain ⟨m, hm⟩ : ∃ y, y = n.del key := ⟨_, rfl⟩
  rw [← hm] at hP ⊢
  obtain ⟨B1, d1, rfl, _⟩ := hk.bytes
  obtain ⟨l1, hl1⟩ : ∃ y, y = key.length := ⟨_, rfl⟩
  rw [← hl1] at k1 hP
  have HP := Lib.hid hP
  rw [hW] at HP HB HS HO hx k1
  obtain ⟨x0, x1, x2, x3⟩ := hx
  unfold two4 at HP HB HS HO x0 x1 x2 x3 k1
  clear hn k0 hk hsh hG hb hsz hP ho hW hm ha1 ha2 ha3 hlf hl1
  go_enter Tryz.func57, Tryz.ntmps57
  go_wp2_with fail
  refine HP.out.mono ?_
  rintro e w2 ⟨K, V, D, rfl, hnew, hb2⟩
  obtain ⟨E1, n1, e1, E2, n2, e2, E3, n3, e3, rfl, rfl, rfl⟩ := hnew.is.slices
  have hs := HS.out
  have ho2 := (hb2.block (w.heap.size + 1) (by omega)).trans HO.out
  obtain ⟨y0, y1, y2, y3, f0, f1, f2, f3⟩ := out_cells ho2
  obtain ⟨X, hX⟩ : ∃ y, y = store4 w2 (w.heap.size + 1) true (.slice E1 n1 e1) (.slice E2 n2 e2) (.slice E3 n3 e3) := ⟨_, rfl⟩
  obtain ⟨hbx, hnx, hbl⟩ := store4_done (lf := true) (K := .slice E1 n1 e1) (V := .slice E2 n2 e2) (D := .slice E3 n3 e3) (B := w.heap.size) ho2 hnew (by omega) (by omega)
  rw [← hX] at hbx hnx hbl
  have hfin : NdNew X w.heap.size (.slice E1 n1 e1) (.slice E2 n2 e2) (.slice E3 n3 e3) m ∧ Below w.heap.size w X := ⟨hnx.weaken (by omega), (HB.out.trans (hb2.mono (by omega))).trans hbl⟩
  obtain ⟨q0, q1, q2, q3⟩ := hbx
  have HF := Lib.hid hfin
  have HX := Lib.hid hX
  clear hnew hb2 hs ho2 hX hnx hbl hfin
  go_wp2_with fail
  have hX := HX.out
  unfold store4 at hX
  rw [← hX]
  exact bodyPost_ret (v := .tuple #[ndVal true (.slice E1 n1 e1) (.slice E2 n2 e2) (.slice E3 n3 e3), .bool true]) (by simp [results, Tryz.results57, go_sem, q0, q1, q2, q3]) rfl ⟨_, _, _, rfl, HF.out.1, HF.out.2⟩
set_option maxRecDepth 100000 in
set_option maxHeartbeats 1000000 in
/-- Delete's closure, where there is no such key. -/
theorem trDelFn_no {w : World} {kb : Nat} {n : Nd} {K V D kv : Value} {key : List UInt8} (hn : NdIs w w.heap.size K V D n) (k0 : w.cell? ⟨kb, 0, none⟩ = some kv) 
    (hk : Rd w w.heap.size kv (cellsB key)) (hsh : n.Short 40000) (hG : ¬ n.MayDel key) :
    Calls Tryz.prog 57 #[ndVal n.leaf K V D, at0 kb] w fun e w' => NoOut w e w' := by
  obtain ⟨lf, hlf⟩ : ∃ y, y = n.leaf := ⟨_, rfl⟩
  obtain ⟨A1, c1, A2, c2, A3, c3, rfl, rfl, rfl⟩ := hn.form
  obtain ⟨a1, ha1⟩ : ∃ y, y = n.keys.length := ⟨_, rfl⟩
  obtain ⟨a2, ha2⟩ : ∃ y, y = n.vals.length := ⟨_, rfl⟩
  obtain ⟨a3, ha3⟩ : ∃ y, y = n.kids.length := ⟨_, rfl⟩
  rw [← ha1, ← ha2, ← ha3] at hn ⊢
  obtain ⟨W, hW⟩ : ∃ y, y = two4 w lf (.slice A1 a1 c1) (.slice A2 a2 c2) (.slice A3 a3 c3) := ⟨_, rfl⟩
  have hb : Below w.heap.size w W := by rw [hW]; exact two4_below _ _ _ _ _
  have hsz : W.heap.size = w.heap.size + 2 := by rw [hW]; exact two4_size _ _ _ _ _
  have hP := del_bad (w := W) ((hn.below hb).more hb.size) ((hk.below hb).more hb.size) ⟨by have := hsh.1; omega, by have := hsh.2.1; omega, by have := hsh.2.2; omega⟩ hG
  rw [← hlf] at hP ⊢
  have hx : NdBox W w.heap.size lf (.slice A1 a1 c1) (.slice A2 a2 c2) (.slice A3 a3 c3) := by rw [hW]; exact two4_box _ _ _ _ _
  have ho : W.heap[w.heap.size + 1]? = some (.cells #[.bool false, .slice none 0 0, .slice none 0 0, .slice none 0 0] 126 (0, 0)) := by rw [hW]; exact two4_out _ _ _ _ _
  have k1 := (hb.cell (p := ⟨kb, 0, none⟩) (World.block_lt_of_cell? _ _ k0)).trans k0
  have HB := Lib.hid hb
  have HS := Lib.hid hsz
  have HO := Lib.hid ho
  obtain ⟨B1, d1, rfl, _⟩ := hk.bytes
  obtain ⟨l1, hl1⟩ : ∃ y, y = key.length := ⟨_, rfl⟩
  rw [← hl1] at k1 hP
  have HP := Lib.hid hP
  rw [hW] at HP HB HS HO hx k1
  obtain ⟨x0, x1, x2, x3⟩ := hx
  unfold two4 at HP HB HS HO x0 x1 x2 x3 k1
  clear hn k0 hk hsh hG hb hsz hP ho hW ha1 ha2 ha3 hlf hl1
  go_enter Tryz.func57, Tryz.ntmps57
  go_wp2_with fail
  refine HP.out.mono ?_
  rintro e w2 ⟨rfl, hb2⟩
  have hs := HS.out
  have ho2 := (hb2.block (w.heap.size + 1) (by omega)).trans HO.out
  obtain ⟨y0, y1, y2, y3, f0, f1, f2, f3⟩ := out_cells ho2
  obtain ⟨X, hX⟩ : ∃ y, y = store4 w2 (w.heap.size + 1) false (.slice none 0 0) (.slice none 0 0) (.slice none 0 0) := ⟨_, rfl⟩
  have hbx := box_of_top (store4_top (lf := false) (K := .slice none 0 0) (V := .slice none 0 0) (D := .slice none 0 0) ho2)
  have hbl := store4_below (w := w2) (N := w.heap.size + 1) (lf := false) (K := .slice none 0 0) (V := .slice none 0 0) (D := .slice none 0 0) (B := w.heap.size) (by omega)
  rw [← hX] at hbx hbl
  have hfin : Below w.heap.size w X := (HB.out.trans (hb2.mono (by omega))).trans hbl
  obtain ⟨q0, q1, q2, q3⟩ := hbx
  have HF := Lib.hid hfin
  have HX := Lib.hid hX
  clear hb2 hs ho2 hX hbl hfin
  go_wp2_with fail
  have hX := HX.out
  unfold store4 at hX
  rw [← hX]
  exact bodyPost_ret (v := .tuple #[ndZero, .bool false]) (by simp [results, Tryz.results57, go_sem, q0, q1, q2, q3]) rfl ⟨rfl, HF.out⟩
end Go.Proofs.YtnmokkkbghlpbaaGreat
/-
  A leaf's draft, by the closure that changes it.
-/
namespace Go.Proofs.YtnmokkkbghlpbaaGreat
open Go.RowKit
/-- A draft's cells. -/
abbrev dfCells (lf : Bool) (K V D S : Value) : Array Value := #[.bool lf, K, V, D, S]
/-- A closure over one, two variables. -/
abbrev clo2 (fn kb vb : Nat) : Value := .func (.func fn) #[] #[at0 kb, at0 vb]
abbrev clo1 (fn kb : Nat) : Value := .func (.func fn) #[] #[at0 kb]
/-- What leaf answers: a new draft without drafts. -/
def LeafOut (m : Nd) (w : World) (e : Ending) (w' : World) : Prop := ∃ q K V D, e = .returned (at0 q) ∧ w.heap.size ≤ q ∧ q < w'.heap.size ∧ w'.heap[q]? = some (.cells (dfCells true K V D (.slice none 0 0)) 183 (0, 0)) ∧ NdNew w' w.heap.size K V D m ∧ Below w.heap.size w w'
set_option maxRecDepth 100000 in
set_option maxHeartbeats 1000000 in
theorem trLeafPut_ok {w : World} {p kb vb : Nat} {n : Nd} {K V D kv vv : Value} {key val : List UInt8} (hp : w.cell? ⟨p, 2, none⟩ = some (clo2 55 kb vb)) (hn : NdIs w w.heap.size K V D n) (k0 : w.cell? ⟨kb, 0, none⟩ = some kv) (v0 : w.cell? ⟨vb, 0, none⟩ = some vv)
    (hk : Rd w w.heap.size kv (cellsB key)) (hv : Rd w w.heap.size vv (cellsB val)) (hsh : n.Short 40000) (hG : n.MayPut key val) :
    Calls Tryz.prog 96 #[at0 p, ndVal n.leaf K V D] w fun e w' => LeafOut (n.put key val) w e w' := by
  have hF := fun (W : World) (hW : Below w.heap.size w W) => trPutFn_ok (w := W) ((hn.below hW).more hW.size) ((hW.cell (p := ⟨kb, 0, none⟩) (World.block_lt_of_cell? _ _ k0)).trans k0) ((hW.cell (p := ⟨vb, 0, none⟩) (World.block_lt_of_cell? _ _ v0)).trans v0) ((hk.below hW).more hW.size) ((hv.below hW).more hW.size) hsh hG
  have hp2 := fun (W : World) (hW : Below w.heap.size w W) => (hW.cell (p := ⟨p, 2, none⟩) (World.block_lt_of_cell? _ _ hp)).trans hp
  obtain ⟨A1, c1, A2, c2, A3, c3, rfl, rfl, rfl⟩ := hn.form
  obtain ⟨a1, ha1⟩ : ∃ y, y = n.keys.length := ⟨_, rfl⟩
  obtain ⟨a2, ha2⟩ : ∃ y, y = n.vals.length := ⟨_, rfl⟩
  obtain ⟨a3, ha3⟩ : ∃ y, y = n.kids.length := ⟨_, rfl⟩
  obtain ⟨lf, hlf⟩ : ∃ y, y = n.leaf := ⟨_, rfl⟩
  rw [← ha1, ← ha2, ← ha3, ← hlf] at hF
  rw [← ha1, ← ha2, ← ha3, ← hlf]
  obtain ⟨w1, hw1⟩ : ∃ y, y = w.alloc (.cells #[.bool lf, .slice A1 a1 c1, .slice A2 a2 c2, .slice A3 a3 c3] 126) := ⟨_, rfl⟩
  have hb1 : Below w.heap.size w w1 := by rw [hw1]; exact (Below.refl _ _).alloc (Nat.le_refl _) _
  have hx : NdBox w1 w.heap.size lf (.slice A1 a1 c1) (.slice A2 a2 c2) (.slice A3 a3 c3) := by rw [hw1]; exact NdBox.made w lf _ _ _
  have p2 := hp2 _ hb1
  have hF1 := hF _ hb1.drew
  have hF2 := hF _ ((hb1.alloc (by simpa using hb1.size) (.cells #[.bool false, .slice none 0 0, .slice none 0 0, .slice none 0 0] 126)).drew)
  have HF1 := Lib.hid hF1
  have HF2 := Lib.hid hF2
  have HB1 := Lib.hid hb1
  have HW1 := Lib.hid hw1
  have hS := fun (W : World) (hW : Below w1.heap.size w1 W) => (show W.cell? ⟨p, 2, none⟩ = some (clo2 55 kb vb) ∧ W.cell? ⟨w.heap.size, 0, none⟩ = some (.bool lf) ∧ W.cell? ⟨w.heap.size, 1, none⟩ = some (.slice A1 a1 c1) ∧ W.cell? ⟨w.heap.size, 2, none⟩ = some (.slice A2 a2 c2) ∧ W.cell? ⟨w.heap.size, 3, none⟩ = some (.slice A3 a3 c3) from by
    have hx2 := hx.later (B := w1.heap.size) hx.lt hW
    exact ⟨(hW.cell (p := ⟨p, 2, none⟩) (World.block_lt_of_cell? _ _ p2)).trans p2, hx2.c0, hx2.c1, hx2.c2, hx2.c3⟩)
  have HSS := Lib.hid hS
  have Sd := Lib.hid (hS w1.drew (up_drew (Below.refl _ _)))
  have Sb := Lib.hid (hS _ (up_drew (up_alloc (Below.refl _ _) (.cells #[.bool false, .slice none 0 0, .slice none 0 0, .slice none 0 0] 126))))
  have hs1 : w1.heap.size = w.heap.size + 1 := by rw [hw1]; simp
  have HS1 := Lib.hid hs1
  obtain ⟨m, hm⟩ : ∃ y, y = n.put key val := ⟨_, rfl⟩
  rw [← hm] at HF1 HF2 ⊢
  obtain ⟨x0, x1, x2, x3⟩ := hx
  clear hp hn k0 v0 hk hv hsh hG hF hp2 hF1 hF2 hb1 hw1 hS hs1 hm ha1 ha2 ha3 hlf
  go_enter Tryz.func96, Tryz.ntmps96
  go_wp2_with fail
  rw [← HW1.out]
  go_region_held3 (fun w' => w'.cell? ⟨p, 2, none⟩ = some (clo2 55 kb vb) ∧ w'.cell? ⟨w.heap.size, 0, none⟩ = some (.bool lf) ∧ w'.cell? ⟨w.heap.size, 1, none⟩ = some (.slice A1 a1 c1) ∧ w'.cell? ⟨w.heap.size, 2, none⟩ = some (.slice A2 a2 c2) ∧ w'.cell? ⟨w.heap.size, 3, none⟩ = some (.slice A3 a3 c3))
    (first | with_reducible exact Sd.out | with_reducible exact S4.out | with_reducible exact Sa.out | with_reducible exact S3.out | with_reducible exact Sb.out)
    (first
      | (go_at_call 55; refine HF2.out.mono ?_; rintro e w3 ⟨K, V, D, rfl, hnew, hb3⟩; obtain ⟨E1, n1, e1, E2, n2, e2, E3, n3, e3, rfl, rfl, rfl⟩ := hnew.is.slices;
          have HB := Lib.hid (up (up_drew (up_alloc (Below.refl w1.heap.size w1) (.cells #[.bool false, .slice none 0 0, .slice none 0 0, .slice none 0 0] 126))) hb3); have HN := Lib.hid hnew; have S3 := Lib.hid (HSS.out _ HB.out);
          have HO3 := Lib.hid ((hb3.block (w1.heap.size) (by simp)).trans (heap_alloc_last w1 (.cells #[.bool false, .slice none 0 0, .slice none 0 0, .slice none 0 0] 126)));
          obtain ⟨y0, y1, y2, y3, f0, f1, f2, f3⟩ := out_cells HO3.out;
          have HD := Lib.hid (store4_done (lf := true) (K := .slice E1 n1 e1) (V := .slice E2 n2 e2) (D := .slice E3 n3 e3) (B := w1.heap.size) HO3.out HN.out (by simp) (Nat.le_refl _));
          have S4 := Lib.hid (HSS.out _ (HB.out.trans HD.out.2.2)); unfold store4 at S4; clear hnew hb3)
      | (go_at_call 55; refine HF1.out.mono ?_; rintro e w3 ⟨K, V, D, rfl, hnew, hb3⟩; obtain ⟨E1, n1, e1, E2, n2, e2, E3, n3, e3, rfl, rfl, rfl⟩ := hnew.is.slices;
          have HB := Lib.hid (((Below.refl w1.heap.size w1).drew : Below w1.heap.size w1 w1.drew).trans hb3); have HN := Lib.hid hnew; clear hnew hb3; have S3 := Lib.hid (HSS.out _ HB.out); have Sa := Lib.hid (HSS.out _ (up_alloc HB.out (.cells #[.bool false, .slice none 0 0, .slice none 0 0, .slice none 0 0] 126)));
          have S4 := Lib.hid (HSS.out _ (up_alloc HB.out (.cells #[.bool true, .slice E1 n1 e1, .slice E2 n2 e2, .slice E3 n3 e3] 126)))))
  · -- the call first
    have hfin : ∀ X, X = (w3.alloc (.cells #[.bool true, .slice E1 n1 e1, .slice E2 n2 e2, .slice E3 n3 e3] 126)).alloc (.cells (dfCells true (.slice E1 n1 e1) (.slice E2 n2 e2) (.slice E3 n3 e3) (.slice none 0 0)) 183) → LeafOut m w (.returned (at0 (w3.heap.size + 1))) X := by
      intro X hX
      have hb : Below w3.heap.size w3 X := by rw [hX]; exact up_alloc (up_alloc (Below.refl _ _) _) _
      have hs := HS1.out
      have hz := HB.out.size
      refine ⟨w3.heap.size + 1, _, _, _, rfl, by omega, by rw [hX]; simp, ?_, (HN.out.kept hb).weaken (by show w.heap.size ≤ w1.heap.size; omega), up (HB1.out.trans (HB.out.mono (by omega))) hb⟩
      rw [hX]
      have := heap_alloc_last (w3.alloc (.cells #[.bool true, .slice E1 n1 e1, .slice E2 n2 e2, .slice E3 n3 e3] 126)) (.cells (dfCells true (.slice E1 n1 e1) (.slice E2 n2 e2) (.slice E3 n3 e3) (.slice none 0 0)) 183)
      simpa using this
    have HF := Lib.hid hfin
    clear hfin
    go_wp2_with fail
    go_ret
    exact HF.out _ rfl
  · -- the block first
    have hfin : ∀ X, X = (store4 w3 w1.heap.size true (.slice E1 n1 e1) (.slice E2 n2 e2) (.slice E3 n3 e3)).alloc (.cells (dfCells true (.slice E1 n1 e1) (.slice E2 n2 e2) (.slice E3 n3 e3) (.slice none 0 0)) 183) → LeafOut m w (.returned (at0 w3.heap.size)) X := by
      intro X hX
      obtain ⟨d1, d2, d3⟩ := HD.out
      have hs := HS1.out
      have hz := HB.out.size
      have hs4 := store4_size (w := w3) (N := w1.heap.size) (lf := true) (K := .slice E1 n1 e1) (V := .slice E2 n2 e2) (D := .slice E3 n3 e3)
      have hb := (Below.refl _ (store4 w3 w1.heap.size true (.slice E1 n1 e1) (.slice E2 n2 e2) (.slice E3 n3 e3))).alloc (Nat.le_refl _) (.cells (dfCells true (.slice E1 n1 e1) (.slice E2 n2 e2) (.slice E3 n3 e3) (.slice none 0 0)) 183)
      rw [← hX] at hb
      refine ⟨w3.heap.size, _, _, _, rfl, by omega, by rw [hX]; simp [hs4], ?_, (d2.kept hb).weaken (by show w.heap.size ≤ (w1.alloc _).heap.size; simp; omega), (HB1.out.trans ((HB.out.trans d3).mono (by omega))).trans (hb.mono (by omega))⟩
      rw [hX, ← hs4]
      exact heap_alloc_last _ _
    have HF := Lib.hid hfin
    obtain ⟨⟨q0, q1, q2, q3⟩, _, _⟩ := HD.out
    unfold store4 at q0 q1 q2 q3 HF
    clear hfin
    go_wp2_with fail
    go_ret
    exact HF.out _ rfl
set_option maxRecDepth 100000 in
set_option maxHeartbeats 1000000 in
theorem trLeafDel_ok {w : World} {p kb : Nat} {n : Nd} {K V D kv : Value} {key : List UInt8} (hp : w.cell? ⟨p, 2, none⟩ = some (clo1 57 kb)) (hn : NdIs w w.heap.size K V D n) (k0 : w.cell? ⟨kb, 0, none⟩ = some kv)
    (hk : Rd w w.heap.size kv (cellsB key)) (hsh : n.Short 40000) (hG : n.MayDel key) :
    Calls Tryz.prog 96 #[at0 p, ndVal n.leaf K V D] w fun e w' => LeafOut (n.del key) w e w' := by
  have hF := fun (W : World) (hW : Below w.heap.size w W) => trDelFn_ok (w := W) ((hn.below hW).more hW.size) ((hW.cell (p := ⟨kb, 0, none⟩) (World.block_lt_of_cell? _ _ k0)).trans k0) ((hk.below hW).more hW.size) hsh hG
  have hp2 := fun (W : World) (hW : Below w.heap.size w W) => (hW.cell (p := ⟨p, 2, none⟩) (World.block_lt_of_cell? _ _ hp)).trans hp
  obtain ⟨A1, c1, A2, c2, A3, c3, rfl, rfl, rfl⟩ := hn.form
  obtain ⟨a1, ha1⟩ : ∃ y, y = n.keys.length := ⟨_, rfl⟩
  obtain ⟨a2, ha2⟩ : ∃ y, y = n.vals.length := ⟨_, rfl⟩
  obtain ⟨a3, ha3⟩ : ∃ y, y = n.kids.length := ⟨_, rfl⟩
  obtain ⟨lf, hlf⟩ : ∃ y, y = n.leaf := ⟨_, rfl⟩
  rw [← ha1, ← ha2, ← ha3, ← hlf] at hF
  rw [← ha1, ← ha2, ← ha3, ← hlf]
  obtain ⟨w1, hw1⟩ : ∃ y, y = w.alloc (.cells #[.bool lf, .slice A1 a1 c1, .slice A2 a2 c2, .slice A3 a3 c3] 126) := ⟨_, rfl⟩
  have hb1 : Below w.heap.size w w1 := by rw [hw1]; exact (Below.refl _ _).alloc (Nat.le_refl _) _
  have hx : NdBox w1 w.heap.size lf (.slice A1 a1 c1) (.slice A2 a2 c2) (.slice A3 a3 c3) := by rw [hw1]; exact NdBox.made w lf _ _ _
  have p2 := hp2 _ hb1
  have hF1 := hF _ hb1.drew
  have hF2 := hF _ ((hb1.alloc (by simpa using hb1.size) (.cells #[.bool false, .slice none 0 0, .slice none 0 0, .slice none 0 0] 126)).drew)
  have HF1 := Lib.hid hF1
  have HF2 := Lib.hid hF2
  have HB1 := Lib.hid hb1
  have HW1 := Lib.hid hw1
  have hS := fun (W : World) (hW : Below w1.heap.size w1 W) => (show W.cell? ⟨p, 2, none⟩ = some (clo1 57 kb) ∧ W.cell? ⟨w.heap.size, 0, none⟩ = some (.bool lf) ∧ W.cell? ⟨w.heap.size, 1, none⟩ = some (.slice A1 a1 c1) ∧ W.cell? ⟨w.heap.size, 2, none⟩ = some (.slice A2 a2 c2) ∧ W.cell? ⟨w.heap.size, 3, none⟩ = some (.slice A3 a3 c3) from by
    have hx2 := hx.later (B := w1.heap.size) hx.lt hW
    exact ⟨(hW.cell (p := ⟨p, 2, none⟩) (World.block_lt_of_cell? _ _ p2)).trans p2, hx2.c0, hx2.c1, hx2.c2, hx2.c3⟩)
  have HSS := Lib.hid hS
  have Sd := Lib.hid (hS w1.drew (up_drew (Below.refl _ _)))
  have Sb := Lib.hid (hS _ (up_drew (up_alloc (Below.refl _ _) (.cells #[.bool false, .slice none 0 0, .slice none 0 0, .slice none 0 0] 126))))
  have hs1 : w1.heap.size = w.heap.size + 1 := by rw [hw1]; simp
  have HS1 := Lib.hid hs1
  obtain ⟨m, hm⟩ : ∃ y, y = n.del key := ⟨_, rfl⟩
  rw [← hm] at HF1 HF2 ⊢
  obtain ⟨x0, x1, x2, x3⟩ := hx
  clear hp hn k0 hk hsh hG hF hp2 hF1 hF2 hb1 hw1 hS hs1 hm ha1 ha2 ha3 hlf
  go_enter Tryz.func96, Tryz.ntmps96
  go_wp2_with fail
  rw [← HW1.out]
  go_region_held3 (fun w' => w'.cell? ⟨p, 2, none⟩ = some (clo1 57 kb) ∧ w'.cell? ⟨w.heap.size, 0, none⟩ = some (.bool lf) ∧ w'.cell? ⟨w.heap.size, 1, none⟩ = some (.slice A1 a1 c1) ∧ w'.cell? ⟨w.heap.size, 2, none⟩ = some (.slice A2 a2 c2) ∧ w'.cell? ⟨w.heap.size, 3, none⟩ = some (.slice A3 a3 c3))
    (first | with_reducible exact Sd.out | with_reducible exact S4.out | with_reducible exact Sa.out | with_reducible exact S3.out | with_reducible exact Sb.out)
    (first
      | (go_at_call 57; refine HF2.out.mono ?_; rintro e w3 ⟨K, V, D, rfl, hnew, hb3⟩; obtain ⟨E1, n1, e1, E2, n2, e2, E3, n3, e3, rfl, rfl, rfl⟩ := hnew.is.slices;
          have HB := Lib.hid (up (up_drew (up_alloc (Below.refl w1.heap.size w1) (.cells #[.bool false, .slice none 0 0, .slice none 0 0, .slice none 0 0] 126))) hb3); have HN := Lib.hid hnew; have S3 := Lib.hid (HSS.out _ HB.out);
          have HO3 := Lib.hid ((hb3.block (w1.heap.size) (by simp)).trans (heap_alloc_last w1 (.cells #[.bool false, .slice none 0 0, .slice none 0 0, .slice none 0 0] 126)));
          obtain ⟨y0, y1, y2, y3, f0, f1, f2, f3⟩ := out_cells HO3.out;
          have HD := Lib.hid (store4_done (lf := true) (K := .slice E1 n1 e1) (V := .slice E2 n2 e2) (D := .slice E3 n3 e3) (B := w1.heap.size) HO3.out HN.out (by simp) (Nat.le_refl _));
          have S4 := Lib.hid (HSS.out _ (HB.out.trans HD.out.2.2)); unfold store4 at S4; clear hnew hb3)
      | (go_at_call 57; refine HF1.out.mono ?_; rintro e w3 ⟨K, V, D, rfl, hnew, hb3⟩; obtain ⟨E1, n1, e1, E2, n2, e2, E3, n3, e3, rfl, rfl, rfl⟩ := hnew.is.slices;
          have HB := Lib.hid (((Below.refl w1.heap.size w1).drew : Below w1.heap.size w1 w1.drew).trans hb3); have HN := Lib.hid hnew; clear hnew hb3; have S3 := Lib.hid (HSS.out _ HB.out); have Sa := Lib.hid (HSS.out _ (up_alloc HB.out (.cells #[.bool false, .slice none 0 0, .slice none 0 0, .slice none 0 0] 126)));
          have S4 := Lib.hid (HSS.out _ (up_alloc HB.out (.cells #[.bool true, .slice E1 n1 e1, .slice E2 n2 e2, .slice E3 n3 e3] 126)))))
  · -- the call first
    have hfin : ∀ X, X = (w3.alloc (.cells #[.bool true, .slice E1 n1 e1, .slice E2 n2 e2, .slice E3 n3 e3] 126)).alloc (.cells (dfCells true (.slice E1 n1 e1) (.slice E2 n2 e2) (.slice E3 n3 e3) (.slice none 0 0)) 183) → LeafOut m w (.returned (at0 (w3.heap.size + 1))) X := by
      intro X hX
      have hb : Below w3.heap.size w3 X := by rw [hX]; exact up_alloc (up_alloc (Below.refl _ _) _) _
      have hs := HS1.out
      have hz := HB.out.size
      refine ⟨w3.heap.size + 1, _, _, _, rfl, by omega, by rw [hX]; simp, ?_, (HN.out.kept hb).weaken (by show w.heap.size ≤ w1.heap.size; omega), up (HB1.out.trans (HB.out.mono (by omega))) hb⟩
      rw [hX]
      have := heap_alloc_last (w3.alloc (.cells #[.bool true, .slice E1 n1 e1, .slice E2 n2 e2, .slice E3 n3 e3] 126)) (.cells (dfCells true (.slice E1 n1 e1) (.slice E2 n2 e2) (.slice E3 n3 e3) (.slice none 0 0)) 183)
      simpa using this
    have HF := Lib.hid hfin
    clear hfin
    go_wp2_with fail
    go_ret
    exact HF.out _ rfl
  · -- the block first
    have hfin : ∀ X, X = (store4 w3 w1.heap.size true (.slice E1 n1 e1) (.slice E2 n2 e2) (.slice E3 n3 e3)).alloc (.cells (dfCells true (.slice E1 n1 e1) (.slice E2 n2 e2) (.slice E3 n3 e3) (.slice none 0 0)) 183) → LeafOut m w (.returned (at0 w3.heap.size)) X := by
      intro X hX
      obtain ⟨d1, d2, d3⟩ := HD.out
      have hs := HS1.out
      have hz := HB.out.size
      have hs4 := store4_size (w := w3) (N := w1.heap.size) (lf := true) (K := .slice E1 n1 e1) (V := .slice E2 n2 e2) (D := .slice E3 n3 e3)
      have hb := (Below.refl _ (store4 w3 w1.heap.size true (.slice E1 n1 e1) (.slice E2 n2 e2) (.slice E3 n3 e3))).alloc (Nat.le_refl _) (.cells (dfCells true (.slice E1 n1 e1) (.slice E2 n2 e2) (.slice E3 n3 e3) (.slice none 0 0)) 183)
      rw [← hX] at hb
      refine ⟨w3.heap.size, _, _, _, rfl, by omega, by rw [hX]; simp [hs4], ?_, (d2.kept hb).weaken (by show w.heap.size ≤ (w1.alloc _).heap.size; simp; omega), (HB1.out.trans ((HB.out.trans d3).mono (by omega))).trans (hb.mono (by omega))⟩
      rw [hX, ← hs4]
      exact heap_alloc_last _ _
    have HF := Lib.hid hfin
    obtain ⟨⟨q0, q1, q2, q3⟩, _, _⟩ := HD.out
    unfold store4 at q0 q1 q2 q3 HF
    clear hfin
    go_wp2_with fail
    go_ret
    exact HF.out _ rfl
set_option maxRecDepth 100000 in
set_option maxHeartbeats 1000000 in
theorem trLeafDel_no {w : World} {p kb : Nat} {n : Nd} {K V D kv : Value} {key : List UInt8} (hp : w.cell? ⟨p, 2, none⟩ = some (clo1 57 kb)) (hn : NdIs w w.heap.size K V D n) (k0 : w.cell? ⟨kb, 0, none⟩ = some kv)
    (hk : Rd w w.heap.size kv (cellsB key)) (hsh : n.Short 40000) (hG : ¬ n.MayDel key) :
    Calls Tryz.prog 96 #[at0 p, ndVal n.leaf K V D] w fun e w' => e = .returned (.pointer none) ∧ Below w.heap.size w w' := by
  have hF := fun (W : World) (hW : Below w.heap.size w W) => trDelFn_no (w := W) ((hn.below hW).more hW.size) ((hW.cell (p := ⟨kb, 0, none⟩) (World.block_lt_of_cell? _ _ k0)).trans k0) ((hk.below hW).more hW.size) hsh hG
  have hp2 := fun (W : World) (hW : Below w.heap.size w W) => (hW.cell (p := ⟨p, 2, none⟩) (World.block_lt_of_cell? _ _ hp)).trans hp
  obtain ⟨A1, c1, A2, c2, A3, c3, rfl, rfl, rfl⟩ := hn.form
  obtain ⟨a1, ha1⟩ : ∃ y, y = n.keys.length := ⟨_, rfl⟩
  obtain ⟨a2, ha2⟩ : ∃ y, y = n.vals.length := ⟨_, rfl⟩
  obtain ⟨a3, ha3⟩ : ∃ y, y = n.kids.length := ⟨_, rfl⟩
  obtain ⟨lf, hlf⟩ : ∃ y, y = n.leaf := ⟨_, rfl⟩
  rw [← ha1, ← ha2, ← ha3, ← hlf] at hF
  rw [← ha1, ← ha2, ← ha3, ← hlf]
  obtain ⟨w1, hw1⟩ : ∃ y, y = w.alloc (.cells #[.bool lf, .slice A1 a1 c1, .slice A2 a2 c2, .slice A3 a3 c3] 126) := ⟨_, rfl⟩
  have hb1 : Below w.heap.size w w1 := by rw [hw1]; exact (Below.refl _ _).alloc (Nat.le_refl _) _
  have hx : NdBox w1 w.heap.size lf (.slice A1 a1 c1) (.slice A2 a2 c2) (.slice A3 a3 c3) := by rw [hw1]; exact NdBox.made w lf _ _ _
  have p2 := hp2 _ hb1
  have hF1 := hF _ hb1.drew
  have hF2 := hF _ ((hb1.alloc (by simpa using hb1.size) (.cells #[.bool false, .slice none 0 0, .slice none 0 0, .slice none 0 0] 126)).drew)
  have HF1 := Lib.hid hF1
  have HF2 := Lib.hid hF2
  have HB1 := Lib.hid hb1
  have HW1 := Lib.hid hw1
  have hS := fun (W : World) (hW : Below w1.heap.size w1 W) => (show W.cell? ⟨p, 2, none⟩ = some (clo1 57 kb) ∧ W.cell? ⟨w.heap.size, 0, none⟩ = some (.bool lf) ∧ W.cell? ⟨w.heap.size, 1, none⟩ = some (.slice A1 a1 c1) ∧ W.cell? ⟨w.heap.size, 2, none⟩ = some (.slice A2 a2 c2) ∧ W.cell? ⟨w.heap.size, 3, none⟩ = some (.slice A3 a3 c3) from by
    have hx2 := hx.later (B := w1.heap.size) hx.lt hW
    exact ⟨(hW.cell (p := ⟨p, 2, none⟩) (World.block_lt_of_cell? _ _ p2)).trans p2, hx2.c0, hx2.c1, hx2.c2, hx2.c3⟩)
  have HSS := Lib.hid hS
  have Sd := Lib.hid (hS w1.drew (up_drew (Below.refl _ _)))
  have Sb := Lib.hid (hS _ (up_drew (up_alloc (Below.refl _ _) (.cells #[.bool false, .slice none 0 0, .slice none 0 0, .slice none 0 0] 126))))
  have hs1 : w1.heap.size = w.heap.size + 1 := by rw [hw1]; simp
  have HS1 := Lib.hid hs1
  obtain ⟨x0, x1, x2, x3⟩ := hx
  clear hp hn k0 hk hsh hG hF hp2 hF1 hF2 hb1 hw1 hS hs1 ha1 ha2 ha3 hlf
  go_enter Tryz.func96, Tryz.ntmps96
  go_wp2_with fail
  rw [← HW1.out]
  go_region_held3 (fun w' => w'.cell? ⟨p, 2, none⟩ = some (clo1 57 kb) ∧ w'.cell? ⟨w.heap.size, 0, none⟩ = some (.bool lf) ∧ w'.cell? ⟨w.heap.size, 1, none⟩ = some (.slice A1 a1 c1) ∧ w'.cell? ⟨w.heap.size, 2, none⟩ = some (.slice A2 a2 c2) ∧ w'.cell? ⟨w.heap.size, 3, none⟩ = some (.slice A3 a3 c3))
    (first | with_reducible exact Sd.out | with_reducible exact S4.out | with_reducible exact Sa.out | with_reducible exact S3.out | with_reducible exact Sb.out)
    (first
      | (go_at_call 57; refine HF2.out.mono ?_; rintro e w3 ⟨rfl, hb3⟩;
          have HB := Lib.hid (up (up_drew (up_alloc (Below.refl w1.heap.size w1) (.cells #[.bool false, .slice none 0 0, .slice none 0 0, .slice none 0 0] 126))) hb3); have S3 := Lib.hid (HSS.out _ HB.out);
          have HO3 := Lib.hid ((hb3.block (w1.heap.size) (by simp)).trans (heap_alloc_last w1 (.cells #[.bool false, .slice none 0 0, .slice none 0 0, .slice none 0 0] 126)));
          obtain ⟨y0, y1, y2, y3, f0, f1, f2, f3⟩ := out_cells HO3.out;
          have S4 := Lib.hid (HSS.out _ (HB.out.trans (store4_below (w := w3) (N := w1.heap.size) (lf := false) (K := .slice none 0 0) (V := .slice none 0 0) (D := .slice none 0 0) (Nat.le_refl _)))); unfold store4 at S4; clear hb3)
      | (go_at_call 57; refine HF1.out.mono ?_; rintro e w3 ⟨rfl, hb3⟩;
          have HB := Lib.hid (((Below.refl w1.heap.size w1).drew : Below w1.heap.size w1 w1.drew).trans hb3); clear hb3; have S3 := Lib.hid (HSS.out _ HB.out); have Sa := Lib.hid (HSS.out _ (up_alloc HB.out (.cells #[.bool false, .slice none 0 0, .slice none 0 0, .slice none 0 0] 126)));
          have S4 := Lib.hid (HSS.out _ (up_alloc HB.out (.cells #[.bool false, .slice none 0 0, .slice none 0 0, .slice none 0 0] 126)))))
  · go_wp2_with fail
    go_ret
    have hs := HS1.out
    exact ⟨rfl, HB1.out.trans ((up_alloc HB.out _).mono (by omega))⟩
  · go_wp2_with fail
    go_ret
    have hs := HS1.out
    exact ⟨rfl, HB1.out.trans ((HB.out.trans (store4_below (w := w3) (N := w1.heap.size) (lf := false) (K := .slice none 0 0) (V := .slice none 0 0) (D := .slice none 0 0) (Nat.le_refl _))).mono (by omega))⟩
end Go.Proofs.YtnmokkkbghlpbaaGreat
/-
  A node laid: a page taken for it, noted, written.
-/
namespace Go.Proofs.YtnmokkkbghlpbaaGreat
open Go.RowKit
section
variable {w w' : World} {N N' : Nat → Prop} {c bf p s t : Nat} {x x' : Cch} {d d' : Dev} {sp sp' : Spc} {gen root height : Nat} {a b : Nat}
theorem Mine.still {base : Nat} {e : TypeId} {v : Value} {xs : List Value} (h : Mine w base e v xs) (hk : ∀ g, v.ownBlock = some g → w'.heap[g]? = w.heap[g]?) : Mine w' base e v xs := by
  rcases h with ⟨h1, h2 | ⟨g, cap, cur, e1, hbg, hg, h3, h4, h5, h6⟩⟩
  · exact ⟨h1, .inl h2⟩
  · exact ⟨h1, .inr ⟨g, cap, cur, e1, hbg, (hk g (by rw [e1]; rfl)).trans hg, h3, h4, h5, h6⟩⟩
theorem frozen_of_block {p : Addr} (h : w'.heap[p.block]? = w.heap[p.block]?) : w'.frozen? p = w.frozen? p := by
  unfold World.frozen?
  rw [h]
theorem rd_one (w : World) (u : Value) (e : TypeId) : Rd (w.alloc (.cells #[u] e)) (w.heap.size + 1) (.slice (some ⟨w.heap.size, 0, none⟩) 1 1) [u] := by
  refine ⟨_, _, rfl, Nat.le_refl _, by unfold maxLen; simp, (fun h => by cases h), fun _ => ⟨w.heap.size, 0, rfl, Nat.lt_succ_self _, fun j v hv => ?_⟩⟩
  rw [Nat.zero_add, World.cell?_alloc_mark]
  simpa using hv
/-- All that a node's reading rests on lies in blocks of R. -/
def Rests (R : Nat → Prop) (w : World) (K V D : Value) (n : Nd) : Prop := ∀ W, Only (fun k => ¬ R k) w W → NdIs W W.heap.size K V D n
theorem Rests.now {R : Nat → Prop} {K V D : Value} {n : Nd} (h : Rests R w K V D n) : NdIs w w.heap.size K V D n := h w (Only.refl _ _)
theorem Rests.later {R : Nat → Prop} {K V D : Value} {n : Nd} (h : Rests R w K V D n) (ho : Only (fun k => ¬ R k) w w') : Rests R w' K V D n := fun _ hW => h _ (ho.trans hW)
theorem NdNew.rests {base : Nat} {K V D : Value} {n : Nd} (h : NdNew w base K V D n) {hi : Nat} (hhi : w.heap.size ≤ hi) : Rests (fun k => base ≤ k ∧ k < hi) w K V D n   := fun _ hW =>
  (h.keep ⟨hW.size, fun k hk h2 _ => hW.block k hk fun hn => hn ⟨h2.resolve_left (Nat.not_lt_zero _), Nat.lt_of_lt_of_le hk hhi⟩⟩).is
/-- What laying a node leaves: its page noted, all else as it should be. -/
structure LaidTo (w w' : World) (N N' : Nat → Prop) (c bf s kb base : Nat) (tv' : Value) (L : List Int) : Prop where
  less : ∀ k, N' k → N k
  fresh : ∀ k, w'.heap.size ≤ k → N k → N' k
  note : w'.cell? ⟨kb, 0, none⟩ = some tv'
  free : w'.frozen? ⟨kb, 0, none⟩ = false
  row : Mine w' base 3 tv' (cellsI L)
  rowN : ∀ g, tv'.ownBlock = some g → ¬ FootS N' c bf s g
set_option maxRecDepth 100000 in
set_option maxHeartbeats 1600000 in
theorem trLayFn_any (h : TS w N c bf p s t x d sp gen root height) (hN : ∀ k, w.heap.size ≤ k → N k) (hd : d.n < 999999) {m : Nat} (hm : LeastNot sp.held m) (hm0 : m ≠ 0) (hmn : m < sp.n) (hm2 : m ≤ 1599) (hg2 : gen < 18446744073709551616)
    {tb kb base : Nat} {tv : Value} {L : List Int} (b4 : w.cell? ⟨tb, 0, none⟩ = some (at0 t)) (k0 : w.cell? ⟨kb, 0, none⟩ = some tv) (kf : w.frozen? ⟨kb, 0, none⟩ = false)
    (hrow : Mine w base 3 tv (cellsI L)) (hL : L.length ≤ 100000) (hbase : base ≤ w.heap.size) (htb : ¬ FootS N c bf s tb) (hkb : ¬ FootS N c bf s kb ∧ kb ≠ tb ∧ kb ≠ t)
    (htv : ∀ g, tv.ownBlock = some g → ¬ FootS N c bf s g ∧ g ≠ kb ∧ g ≠ tb ∧ g ≠ t)
    {R : Nat → Prop} {n : Nd} {K V D : Value} (hn : Rests R w K V D n) (hR : ∀ k, k < w.heap.size → R k → ¬ FootS N c bf s k ∧ k ≠ kb ∧ tv.ownBlock ≠ some k) (hsh : n.Short 1000000) (hf : n.Fit) :
    Calls Tryz.prog 104 #[ndVal n.leaf K V D, at0 tb, at0 kb] w fun e w' => ∃ tv' N', e = .returned (.tuple #[.int .i64 (m : Int), .int .i64 (x.put d (m : Int) (pgBytes (kindOf n.leaf) m gen n.bytes)).1]) ∧
      TS w' N' c bf p s t (x.put d (m : Int) (pgBytes (kindOf n.leaf) m gen n.bytes)).2.1 (x.put d (m : Int) (pgBytes (kindOf n.leaf) m gen n.bytes)).2.2 (sp.put m true) gen root height ∧
      LaidTo w w' N N' c bf s kb base tv' (L ++ [(m : Int)]) ∧ Only (fun k => FootS N c bf s k ∨ k = kb ∨ tv.ownBlock = some k) w w' := by
  obtain ⟨A1, c1, A2, c2, A3, c3, rfl, rfl, rfl⟩ := hn.now.form
  obtain ⟨lf, hlf⟩ : ∃ y, y = n.leaf := ⟨_, rfl⟩
  obtain ⟨a1, ha1⟩ : ∃ y, y = n.keys.length := ⟨_, rfl⟩
  obtain ⟨a2, ha2⟩ : ∃ y, y = n.vals.length := ⟨_, rfl⟩
  obtain ⟨a3, ha3⟩ : ∃ y, y = n.kids.length := ⟨_, rfl⟩
  obtain ⟨w1, hw1⟩ : ∃ y, y = w.alloc (.cells #[.bool n.leaf, .slice A1 n.keys.length c1, .slice A2 n.vals.length c2, .slice A3 n.kids.length c3] 126) := ⟨_, rfl⟩
  have hb1 : Below w.heap.size w w1 := by rw [hw1]; exact (Below.refl _ _).alloc (Nat.le_refl _) _
  have hs1 : w1.heap.size = w.heap.size + 1 := by rw [hw1]; simp
  have hx : NdBox w1 w.heap.size n.leaf (.slice A1 n.keys.length c1) (.slice A2 n.vals.length c2) (.slice A3 n.kids.length c3) := by rw [hw1]; exact NdBox.made w n.leaf _ _ _
  have h1 : TS w1 (Nout N w.heap.size (w.heap.size + 1)) c bf p s t x d sp gen root height := h.own hb1
  have hT := trTake_ok h1 hm hm0 hmn
  have hlt := h.lt
  have b4' := (hb1.cell (p := ⟨tb, 0, none⟩) (World.block_lt_of_cell? _ _ b4)).trans b4
  have ltb := World.block_lt_of_cell? _ _ b4
  have lkb := World.block_lt_of_cell? _ _ k0
  have HT := Lib.hid hT
  have H := Lib.hid h
  have HN := Lib.hid hN
  have HB1 := Lib.hid hb1
  have HS1 := Lib.hid hs1
  have HX := Lib.hid hx
  have HRow := Lib.hid hrow
  have HTv := Lib.hid htv
  have HRn := Lib.hid hn
  have HRR := Lib.hid hR
  have HK := Lib.hid (And.intro k0 kf)
  have B4 := Lib.hid b4
  have HTb := Lib.hid (And.intro htb hkb)
  have HLt := Lib.hid (And.intro ltb lkb)
  have HW1 := Lib.hid hw1
  have HLL := Lib.hid hL
  have HBa := Lib.hid hbase
  have Hd := Lib.hid hd
  have Hsh := Lib.hid (And.intro hsh hf)
  have Hm2 := Lib.hid (And.intro hm2 hg2)
  have Hlt := Lib.hid hlt
  have HLF := Lib.hid hlf
  rw [← ha1, ← ha2, ← ha3, ← hlf] at hw1 HX
  rw [← ha1, ← ha2, ← ha3, ← hlf]
  rw [← ha1, ← ha2, ← ha3] at HRn
  rw [hw1] at HT b4'
  obtain ⟨l, hl⟩ : ∃ y, y = pgBytes (kindOf lf) m gen n.bytes := ⟨_, rfl⟩
  rw [← hl]
  obtain ⟨x2, hx2⟩ : ∃ y, y = (x.put d (m : Int) l).2.1 := ⟨_, rfl⟩
  obtain ⟨d2, hd2⟩ : ∃ y, y = (x.put d (m : Int) l).2.2 := ⟨_, rfl⟩
  obtain ⟨e2, he2⟩ : ∃ y, y = (x.put d (m : Int) l).1 := ⟨_, rfl⟩
  rw [← hx2, ← hd2, ← he2]
  have HXX := Lib.hid (And.intro hx2 (And.intro hd2 he2))
  clear hx2 hd2 he2
  have HL := Lib.hid hl
  have HW2 := Lib.hid hw1
  clear h hN hd hm hm0 hmn hm2 hg2 b4 k0 kf hrow hL hbase htb hkb htv hn hR hsh hf hb1 hs1 hx h1 hT hlt ltb lkb hw1 hl ha1 ha2 ha3 hlf HW1
  go_enter Tryz.func104, Tryz.ntmps104
  go_wp2_with fail
  refine HT.out.mono ?_
  rintro e w2 ⟨rfl, h2, ho2⟩
  rw [← HW2.out] at ho2
  have hk2 : w2.cell? ⟨kb, 0, none⟩ = some tv ∧ w2.frozen? ⟨kb, 0, none⟩ = false := by
    have hb := (ho2.block kb (by have := HB1.out.size; have := HLt.out.2; omega) (fun e => HTb.out.2.1 (.inr e))).trans (HB1.out.block kb HLt.out.2)
    exact ⟨(cell_of_block (p := ⟨kb, 0, none⟩) hb).trans HK.out.1, (frozen_of_block (p := ⟨kb, 0, none⟩) hb).trans HK.out.2⟩
  obtain ⟨k2, f2⟩ := hk2
  have hrow2 : Mine w2 base 3 tv (cellsI L) := HRow.out.still fun g hg => (ho2.block g (by have := HB1.out.size; have := World.ownsRow.lt HRow.out g hg; omega) (fun e => (HTv.out g hg).1 (.inr e))).trans (HB1.out.block g (World.ownsRow.lt HRow.out g hg).2)
  obtain ⟨Av, cv, ev, _⟩ := HRow.out.rd.formI
  rw [ev] at k2 hrow2
  obtain ⟨nv, hnv⟩ : ∃ y, y = L.length := ⟨_, rfl⟩
  rw [← hnv] at k2 hrow2 ev
  have HTS2 := Lib.hid h2
  have HO2 := Lib.hid ho2
  have HRow2 := Lib.hid hrow2
  have HK2 := Lib.hid (And.intro k2 f2)
  have HNV := Lib.hid hnv
  have HEV := Lib.hid ev
  have HS2 := Lib.hid ho2.size
  obtain ⟨ti, hi, hz0, hz1, hz2⟩ := info_parts info_int
  clear h2 ho2 b4' hnv ev
  go_wp2_with (at_builtin; go_loud (refine wpList_append_rd rfl (.tmp 18) (.tmp 20) 54 rfl base 3 ti _ 8 Tryz.underlying54 hi hz0 hz1 hz2 rfl _ (cellsI L) rfl (HRow2.out.alloc _) _ _ _ rfl (rd_one w2 (.int .i64 (m : Int)) 3) (by simp [Value.oneCell']) (by have := HLL.out; rw [cellsI_length]; simp; omega) (by have := HLL.out; unfold maxLen; rw [cellsI_length]; simp; omega) (by have := HBa.out; have := HS1.out; have := HS2.out; simp; omega) ?_); intro v3 w3 hrow3 hb3 hg3 hob3; have hrow3 : Mine w3 base 3 v3 (cellsI (L ++ [(m : Int)])) := (by rw [cellsI_append]; exact hrow3); obtain ⟨A4, c4, ev4, _⟩ := hrow3.rd.formI; obtain ⟨ln, hln⟩ : ∃ y, y = (L ++ [(m : Int)]).length := ⟨_, rfl⟩; rw [← hln] at ev4; subst ev4; have HLN := Lib.hid hln; clear hln; have HG3 := Lib.hid (And.intro hrow3 (And.intro hg3 hob3));
                have hbk := ((Only.grown (F := fun k => (Value.slice Av nv cv).ownBlock = some k) hg3 (fun _ e => e)).block kb (by have := HLt.out.2; have := HS1.out; have := HS2.out; simp; omega) (fun e => (HTv.out kb (by rw [HEV.out]; exact e)).2.1 rfl)).trans (heap_alloc_old w2 (.cells #[.int .i64 (m : Int)] 3) (by have := HLt.out.2; have := HS1.out; have := HS2.out; omega));
                have k3 := (cell_of_block (p := ⟨kb, 0, none⟩) hbk).trans HK2.out.1; have f3 := (frozen_of_block (p := ⟨kb, 0, none⟩) hbk).trans HK2.out.2; clear hrow3 hb3 hg3 hob3 hbk)
  obtain ⟨w4, hw4⟩ : ∃ y, y = w3.setCell ⟨kb, 0, none⟩ (.slice A4 ln c4) := ⟨_, rfl⟩
  rw [← hw4]
  obtain ⟨hrow3, hg3, hob3⟩ := HG3.out
  have hlt := Hlt.out
  have hs1 := HS1.out
  have hs2 := HS2.out
  have ltb := HLt.out.1
  have lkb := HLt.out.2
  have hs3 : w2.heap.size + 1 ≤ w3.heap.size := by have := hg3.size; simpa using this
  have hs4 : w4.heap.size = w3.heap.size := by rw [hw4]; simp
  have hevo : ∀ g, (Value.slice Av nv cv).ownBlock = some g → tv.ownBlock = some g := fun g e => by rw [HEV.out]; exact e
  have htvlt : ∀ g, tv.ownBlock = some g → g < w.heap.size := fun g e => (World.ownsRow.lt HRow.out g e).2
  have ho24 : Only (fun k => tv.ownBlock = some k ∨ k = kb) w2 w4 := by
    have a1 : Only (fun k => tv.ownBlock = some k ∨ k = kb) w2 (w2.alloc (.cells #[.int .i64 (m : Int)] 3)) := Only.alloc _ _ _
    have a2 : Only (fun k => tv.ownBlock = some k ∨ k = kb) (w2.alloc (.cells #[.int .i64 (m : Int)] 3)) w3 := Only.grown hg3 fun g e => .inl (hevo g e)
    have a3 : Only (fun k => tv.ownBlock = some k ∨ k = kb) w3 w4 := by rw [hw4]; exact Only.setCell (F := fun k => tv.ownBlock = some k ∨ k = kb) (p := ⟨kb, 0, none⟩) (.inr rfl) _
    exact (a1.trans a2).trans a3
  obtain ⟨N5, hN5⟩ : ∃ y : Nat → Prop, y = fun k => N k ∧ k ≠ w.heap.size ∧ ¬ (w2.heap.size ≤ k ∧ k < w4.heap.size) := ⟨_, rfl⟩
  have hno := HTS2.out.nots
  have hN0 := H.out.nots
  have h4 : TS w4 N5 c bf p s t x d (sp.put m true) gen root height := by
    refine (HTS2.out.sets (N' := N5) (fun k hk hg => by rw [hN5]; exact ⟨hg.1, fun e => hg.2 (by omega), by omega⟩) (by rw [hN5]; exact ⟨fun e => hN0.1 e.1, fun e => hN0.2.1 e.1, fun e => hN0.2.2.1 e.1, fun e => hN0.2.2.2 e.1⟩)).other ho24 ?_
    intro k hk e
    have hf5 : ∀ j, Foot N5 c bf j → FootS N c bf s j := fun j hj => .inl (hj.elim (fun e => .inl (by rw [hN5] at e; exact e.1)) .inr)
    rcases e with e | rfl
    · have := HTv.out k e
      exact ⟨fun q => this.1 (hf5 k q), fun q => this.1 (.inr q), this.2.2.2⟩
    · have := HTb.out.2
      exact ⟨fun q => this.1 (hf5 k q), fun q => this.1 (.inr q), this.2.2⟩
  have hrest : Rests R w4 (.slice A1 a1 c1) (.slice A2 a2 c2) (.slice A3 a3 c3) n := by
    refine HRn.out.later (((Only.of_below HB1.out).trans (HO2.out.mono ?_)).trans (ho24.mono ?_))
    · rintro k _ rfl hr
      exact (HRR.out k (by omega) hr).1 (.inr rfl)
    · rintro k _ e hr
      rcases e with e | rfl
      · exact (HRR.out k (htvlt k e) hr).2.2 e
      · exact (HRR.out k lkb hr).2.1 rfl
  have hblk : ∀ k, k < w1.heap.size → ¬ FootS N5 c bf s k → k ≠ kb → tv.ownBlock ≠ some k → ∀ w5, Only (Foot N5 c bf) w4 w5 → w5.heap[k]? = w1.heap[k]? := fun k hk hf h1 h2 w5 h5 =>
    (h5.block k (by omega) fun e => hf (.inl e)).trans ((ho24.block k (by omega) fun e => e.elim h2 h1).trans (HO2.out.block k hk fun e => hf (.inr e)))
  have hn5 : ∀ k, ¬ FootS N c bf s k → ¬ FootS N5 c bf s k := fun k hk e => hk (e.elim (fun e => .inl (e.elim (fun e => .inl (by rw [hN5] at e; exact e.1)) .inr)) .inr)
  have hx5 : ∀ w5, Only (Foot N5 c bf) w4 w5 → w5.cell? ⟨tb, 0, none⟩ = some (at0 t) ∧ w5.cell? ⟨w.heap.size, 0, none⟩ = some (.bool lf) ∧ w5.cell? ⟨w.heap.size, 1, none⟩ = some (.slice A1 a1 c1) ∧ w5.cell? ⟨w.heap.size, 2, none⟩ = some (.slice A2 a2 c2) ∧ w5.cell? ⟨w.heap.size, 3, none⟩ = some (.slice A3 a3 c3) := fun w5 h5 => by
    have e1 := hblk tb (by omega) (hn5 _ HTb.out.1) (fun e => HTb.out.2.2.1 e.symm) (fun e => (HTv.out tb e).2.2.1 rfl) w5 h5
    have e2 := hblk w.heap.size (by omega) (by
      rintro (e | e)
      · rcases e with e | e | e
        · rw [hN5] at e; exact e.2.1 rfl
        · omega
        · omega
      · omega) (by omega) (fun e => by have := htvlt _ e; omega) w5 h5
    have hb1 := HB1.out.block tb ltb
    obtain ⟨x0, x1, x2, x3⟩ := HX.out
    exact ⟨(cell_of_block (p := ⟨tb, 0, none⟩) (e1.trans hb1)).trans B4.out, (cell_of_block (p := ⟨w.heap.size, 0, none⟩) e2).trans x0, (cell_of_block (p := ⟨w.heap.size, 1, none⟩) e2).trans x1, (cell_of_block (p := ⟨w.heap.size, 2, none⟩) e2).trans x2, (cell_of_block (p := ⟨w.heap.size, 3, none⟩) e2).trans x3⟩
  have hfr : ∀ k, w4.heap.size ≤ k → N5 k := fun k hk => by rw [hN5]; exact ⟨HN.out k (by omega), by omega, by omega⟩
  have hwr := trWrite_any (h4.below ((Below.refl _ _).drew)) (w := w4.drew) hfr Hd.out Hm2.out.1 hrest.now.drew Hsh.out.1 Hsh.out.2
  rw [← HLF.out, ← HL.out] at hwr
  rw [← HXX.out.1, ← HXX.out.2.1, ← HXX.out.2.2] at hwr
  have hfin : ∀ w5, TS w5 N5 c bf p s t x2 d2 (sp.put m true) gen root height → Only (Foot N5 c bf) w4 w5 →
      LaidTo w w5 N N5 c bf s kb base (.slice A4 ln c4) (L ++ [(m : Int)]) ∧ Only (fun k => FootS N c bf s k ∨ k = kb ∨ tv.ownBlock = some k) w w5 := fun w5 _ h5 => by
    have hkb := hn5 _ HTb.out.2.1
    have hbk5 : w5.heap[kb]? = w4.heap[kb]? := h5.block kb (by omega) fun e => hkb (.inl e)
    have hcell4 : w4.cell? ⟨kb, 0, none⟩ = some (.slice A4 ln c4) := by
      rw [hw4]
      exact World.cell?_setCell_same _ _ _ k3
    have hfz4 : w4.frozen? ⟨kb, 0, none⟩ = false := by
      rw [hw4, World.frozen?_setCell]
      exact f3
    have hrow4 : Mine w4 base 3 (.slice A4 ln c4) (cellsI (L ++ [(m : Int)])) := hrow3.still fun g hg => by
      rw [hw4]
      refine heap_setCell_other w3 _ g _ ?_
      rintro rfl
      rcases hob3 with e | e
      · exact (HTv.out _ (hevo _ (e.symm.trans hg))).2.1 rfl
      · rw [e] at hg
        have := Option.some.inj hg
        simp at this
        omega
    have hrn : ∀ g, (Value.slice A4 ln c4).ownBlock = some g → ¬ FootS N5 c bf s g := fun g hg => by
      rcases hob3 with e | e
      · exact hn5 g (HTv.out g (hevo g (e.symm.trans hg))).1
      · have hgl := (World.ownsRow.lt hrow3 g hg).2
        rw [e] at hg
        have hg' : w2.heap.size + 1 = g := by
          have := Option.some.inj hg
          rw [← this]
          simp
        rintro (q | q)
        · rcases q with q | q | q
          · rw [hN5] at q; exact q.2.2 ⟨by omega, by omega⟩
          · omega
          · omega
        · omega
    refine ⟨⟨fun k hk => by rw [hN5] at hk; exact hk.1, fun k hk hk2 => by rw [hN5]; exact ⟨hk2, by have := h5.size; omega, by have := h5.size; omega⟩, (cell_of_block (p := ⟨kb, 0, none⟩) hbk5).trans hcell4, (frozen_of_block (p := ⟨kb, 0, none⟩) hbk5).trans hfz4, hrow4.still fun g hg => h5.block g (World.ownsRow.lt hrow4 g hg).2 fun e => hrn g hg (.inl e), hrn⟩, ?_⟩
    refine (((Only.of_below HB1.out).trans (HO2.out.mono fun k _ e => .inl (.inr e))).trans (ho24.mono fun k _ e => e.elim (fun e => .inr (.inr e)) fun e => .inr (.inl e))).trans (h5.mono fun k _ e => .inl (.inl (e.elim (fun e => .inl (by rw [hN5] at e; exact e.1)) .inr)))
  have Sd := Lib.hid (hx5 w4.drew (Only.drew _ _))
  have HX5 := Lib.hid hx5
  have HWr := Lib.hid hwr
  have HFin := Lib.hid hfin
  clear hfin hwr hx5 hfr hn5 hblk hrest h4 hno hN0 hN5 ho24 htvlt hevo hs4 hs3 lkb ltb hs2 hs1 hlt hrow3 hg3 hob3 hw4 k3 f3
  go_region_held3 (fun w' => w'.cell? ⟨tb, 0, none⟩ = some (at0 t) ∧ w'.cell? ⟨w.heap.size, 0, none⟩ = some (.bool lf) ∧ w'.cell? ⟨w.heap.size, 1, none⟩ = some (.slice A1 a1 c1) ∧ w'.cell? ⟨w.heap.size, 2, none⟩ = some (.slice A2 a2 c2) ∧ w'.cell? ⟨w.heap.size, 3, none⟩ = some (.slice A3 a3 c3))
    (first | with_reducible exact Sd.out | with_reducible exact S5.out)
    (first
      | (go_at_call 106; refine HWr.out.mono ?_; rintro e w5 ⟨rfl, h5, ho5⟩; have HO5 := Lib.hid (((Only.drew _ w4).trans ho5 : Only (Foot N5 c bf) w4 w5)); have S5 := Lib.hid (HX5.out w5 HO5.out); have H5 := Lib.hid (And.intro h5 (HFin.out w5 h5 HO5.out)); clear h5 ho5))
  go_wp2_with fail
  go_ret2
  exact ⟨_, N5, rfl, H5.out⟩
end
end Go.Proofs.YtnmokkkbghlpbaaGreat
/-
  A leaf's draft laid.
-/
namespace Go.Proofs.YtnmokkkbghlpbaaGreat
open Go.RowKit
section
variable {w w' : World} {N N' : Nat → Prop} {c bf p s t : Nat} {x x' : Cch} {d d' : Dev} {sp sp' : Spc} {gen root height : Nat} {a b : Nat}
set_option maxRecDepth 100000 in
set_option maxHeartbeats 1600000 in
theorem trLay_leaf (h : TS w N c bf p s t x d sp gen root height) (hN : ∀ k, w.heap.size ≤ k → N k) (hd : d.n < 999999) {m : Nat} (hm : LeastNot sp.held m) (hm0 : m ≠ 0) (hmn : m < sp.n) (hm2 : m ≤ 1599) (hg2 : gen < 18446744073709551616)
    {tb kb base : Nat} {tv : Value} {L : List Int} (b4 : w.cell? ⟨tb, 0, none⟩ = some (at0 t)) (k0 : w.cell? ⟨kb, 0, none⟩ = some tv) (kf : w.frozen? ⟨kb, 0, none⟩ = false)
    (hrow : Mine w base 3 tv (cellsI L)) (hL : L.length ≤ 100000) (hbase : base ≤ w.heap.size) (htb : ¬ FootS N c bf s tb) (hkb : ¬ FootS N c bf s kb ∧ kb ≠ tb ∧ kb ≠ t)
    (htv : ∀ g, tv.ownBlock = some g → ¬ FootS N c bf s g ∧ g ≠ kb ∧ g ≠ tb ∧ g ≠ t)
    {R : Nat → Prop} {n : Nd} {K V D : Value} (hn : Rests R w K V D n) (hR : ∀ k, k < w.heap.size → R k → ¬ FootS N c bf s k ∧ k ≠ kb ∧ tv.ownBlock ≠ some k) (hsh : n.Short 1000000) (hf : n.Fit)
    {q : Nat} (hq : w.heap[q]? = some (.cells (dfCells n.leaf K V D (.slice none 0 0)) 183 (0, 0))) :
    Calls Tryz.prog 103 #[at0 q, clo2 104 tb kb] w fun e w' => ∃ tv' N', e = .returned (.tuple #[.int .i64 (m : Int), .int .i64 (x.put d (m : Int) (pgBytes (kindOf n.leaf) m gen n.bytes)).1]) ∧
      TS w' N' c bf p s t (x.put d (m : Int) (pgBytes (kindOf n.leaf) m gen n.bytes)).2.1 (x.put d (m : Int) (pgBytes (kindOf n.leaf) m gen n.bytes)).2.2 (sp.put m true) gen root height ∧
      LaidTo w w' N N' c bf s kb base tv' (L ++ [(m : Int)]) ∧ Only (fun k => FootS N c bf s k ∨ k = kb ∨ tv.ownBlock = some k) w w' := by
  have hLay := trLayFn_any h hN hd hm hm0 hmn hm2 hg2 b4 k0 kf hrow hL hbase htb hkb htv hn hR hsh hf
  obtain ⟨A1, c1, A2, c2, A3, c3, rfl, rfl, rfl⟩ := hn.now.form
  obtain ⟨lf, hlf⟩ : ∃ y, y = n.leaf := ⟨_, rfl⟩
  obtain ⟨a1, ha1⟩ : ∃ y, y = n.keys.length := ⟨_, rfl⟩
  obtain ⟨a2, ha2⟩ : ∃ y, y = n.vals.length := ⟨_, rfl⟩
  obtain ⟨a3, ha3⟩ : ∃ y, y = n.kids.length := ⟨_, rfl⟩
  rw [← ha1, ← ha2, ← ha3, ← hlf] at hLay hq
  rw [← hlf]
  have q0 : w.cell? ⟨q, 0, none⟩ = some (.bool lf) := by rw [cell_of_row w q 0 _ _ (0, 0) hq]; rfl
  have q1 : w.cell? ⟨q, 1, none⟩ = some (.slice A1 a1 c1) := by rw [cell_of_row w q 1 _ _ (0, 0) hq]; rfl
  have q2 : w.cell? ⟨q, 2, none⟩ = some (.slice A2 a2 c2) := by rw [cell_of_row w q 2 _ _ (0, 0) hq]; rfl
  have q3 : w.cell? ⟨q, 3, none⟩ = some (.slice A3 a3 c3) := by rw [cell_of_row w q 3 _ _ (0, 0) hq]; rfl
  have q4 : w.cell? ⟨q, 4, none⟩ = some (.slice none 0 0) := by rw [cell_of_row w q 4 _ _ (0, 0) hq]; rfl
  obtain ⟨l, hl⟩ : ∃ y, y = pgBytes (kindOf lf) m gen n.bytes := ⟨_, rfl⟩
  rw [← hl] at hLay ⊢
  obtain ⟨x2, hx2⟩ : ∃ y, y = (x.put d (m : Int) l).2.1 := ⟨_, rfl⟩
  obtain ⟨d2, hd2⟩ : ∃ y, y = (x.put d (m : Int) l).2.2 := ⟨_, rfl⟩
  obtain ⟨e2, he2⟩ : ∃ y, y = (x.put d (m : Int) l).1 := ⟨_, rfl⟩
  rw [← hx2, ← hd2, ← he2] at hLay ⊢
  have HL := Lib.hid hLay
  clear h hN hd hm hm0 hmn hm2 hg2 b4 k0 kf hrow hL hLay hbase htb hkb htv hn hR hsh hf hq hlf ha1 ha2 ha3 hl hx2 hd2 he2
  go_enter Tryz.func103, Tryz.ntmps103
  go_wp2_with fail
  go_loopw [15] (fun iv wr => iv = .int .i64 0 ∧ wr = w) (fun _ _ => 0)
  case atStart => exact ⟨rfl, rfl⟩
  case round =>
    obtain ⟨rfl, rfl⟩ := hrel
    go_wp2_with fail
    refine HL.out.mono ?_
    rintro e w2 ⟨tv', N', rfl, h2⟩
    have H2 := Lib.hid h2
    clear h2
    go_wp2_with fail
    go_ret2
    exact ⟨_, _, rfl, H2.out⟩
end
end Go.Proofs.YtnmokkkbghlpbaaGreat
/-
  A draft becomes the tree.
-/
namespace Go.Proofs.YtnmokkkbghlpbaaGreat
open Go.RowKit
section
variable {w w' : World} {N N' : Nat → Prop} {c bf p s t : Nat} {x x' : Cch} {d d' : Dev} {sp sp' : Spc} {gen root height : Nat} {a b : Nat}
set_option maxRecDepth 100000 in
set_option maxHeartbeats 1000000 in
/-- The deferred call, where nothing failed: what is gone is given back. -/
theorem trDefer_ok (h : TS w N c bf p s t x d sp gen root height) {eb kb gb tb : Nat} {A : Option Addr} {L : List Int} {cc : Nat} (e0 : w.cell? ⟨eb, 0, none⟩ = some (.int .i64 0)) (g0 : w.cell? ⟨gb, 0, none⟩ = some (.slice A L.length cc)) (b4 : w.cell? ⟨tb, 0, none⟩ = some (at0 t))
    (hgb : ¬ FootS N c bf s gb) (htb : ¬ FootS N c bf s tb) (hr : Rd w w.heap.size (.slice A L.length cc) (cellsI L)) (hA : ∀ g o, A = some ⟨g, o, none⟩ → ¬ FootS N c bf s g) (hL : L.length ≤ 1000000) (u : FrameMode) :
    CallsD Tryz.prog 101 #[at0 eb, at0 kb, at0 gb, at0 tb] u w fun e u' w' => u' = u ∧ (e = .returned (.tuple #[]) ∧ TS w' N c bf p s t (relAll (x, sp) L).1 d (relAll (x, sp) L).2 gen root height ∧ Only (FootS N c bf s) w w') := by
  have hR := trRelease_any (h.below (Below.refl _ w).drew) (w := w.drew) hr hA hL
  have lgb := World.block_lt_of_cell? _ _ g0
  have ltb := World.block_lt_of_cell? _ _ b4
  have hS := fun (W : World) (hW : Only (FootS N c bf s) w W) => (show W.cell? ⟨tb, 0, none⟩ = some (at0 t) ∧ W.cell? ⟨gb, 0, none⟩ = some (.slice A L.length cc) from
    ⟨(cell_of_block (p := ⟨tb, 0, none⟩) (hW.block tb ltb htb)).trans b4, (cell_of_block (p := ⟨gb, 0, none⟩) (hW.block gb lgb hgb)).trans g0⟩)
  obtain ⟨n, hn⟩ : ∃ n, n = L.length := ⟨_, rfl⟩
  rw [← hn] at hR hS g0
  have HS := Lib.hid hS
  have Sd := Lib.hid (hS w.drew (Only.drew _ _))
  have HR := Lib.hid hR
  clear h hgb htb hr hA hL hR lgb ltb hS hn
  go_enter_d Tryz.func101, Tryz.ntmps101
  go_wp2_with fail
  go_region_held3 (fun w' => w'.cell? ⟨tb, 0, none⟩ = some (at0 t) ∧ w'.cell? ⟨gb, 0, none⟩ = some (.slice A n cc))
    (first | with_reducible exact Sd.out | with_reducible exact S5.out)
    (first
      | (go_at_call 102; refine HR.out.mono ?_; rintro e w5 ⟨rfl, h5, ho5⟩; have HO5 := Lib.hid (((Only.drew _ w).trans ho5 : Only (FootS N c bf s) w w5)); have S5 := Lib.hid (HS.out w5 HO5.out); have H5 := Lib.hid h5; clear h5 ho5))
  go_end0
  exact ⟨rfl, H5.out, HO5.out⟩
theorem Rd.only {F : Nat → Prop} {B n cc : Nat} {A : Option Addr} {xs : List Value} (h : Rd w B (.slice A n cc) xs) (ho : Only F w w') (hB : B ≤ w.heap.size) (hA : ∀ g o, A = some ⟨g, o, none⟩ → ¬ F g) : Rd w' B (.slice A n cc) xs := by
  obtain ⟨A', c', e, h1, h2, h3, h4⟩ := h
  injection e with e1 e2 e3
  subst e1 e2 e3
  refine ⟨A, cc, rfl, h1, h2, h3, fun hp => ?_⟩
  obtain ⟨b, o, eA, hb, hc⟩ := h4 hp
  exact ⟨b, o, eA, hb, fun j u hj => (cell_of_block (p := ⟨b, o + j, none⟩) (ho.block b (Nat.lt_of_lt_of_le hb hB) (hA b o eA))).trans (hc j u hj)⟩
theorem one_cell {k : Nat} {u : Value} {ty : TypeId} {V : World} (e : V.heap[k]? = some (.cells #[u] ty (0, 0))) : V.cell? ⟨k, 0, none⟩ = some u ∧ V.frozen? ⟨k, 0, none⟩ = false :=
  ⟨by rw [cell_of_row V k 0 _ _ (0, 0) e]; rfl, frozen_of_row V k 0 _ _ e⟩
/-- Four new blocks of one cell each. -/
theorem four_cells (w : World) (u0 u1 u2 u3 : Value) (t0 t1 t2 t3 : TypeId) {W : World} (hW : W = (((w.alloc (.cells #[u0] t0)).alloc (.cells #[u1] t1)).alloc (.cells #[u2] t2)).alloc (.cells #[u3] t3)) :
    W.heap[w.heap.size]? = some (.cells #[u0] t0 (0, 0)) ∧ W.heap[w.heap.size + 1]? = some (.cells #[u1] t1 (0, 0)) ∧ W.heap[w.heap.size + 2]? = some (.cells #[u2] t2 (0, 0)) ∧ W.heap[w.heap.size + 3]? = some (.cells #[u3] t3 (0, 0)) ∧ W.heap.size = w.heap.size + 4 ∧ Below w.heap.size w W := by
  obtain ⟨a, ha⟩ : ∃ y, y = w.alloc (.cells #[u0] t0) := ⟨_, rfl⟩
  obtain ⟨b, hb⟩ : ∃ y, y = a.alloc (.cells #[u1] t1) := ⟨_, rfl⟩
  obtain ⟨d, hd⟩ : ∃ y, y = b.alloc (.cells #[u2] t2) := ⟨_, rfl⟩
  rw [← ha, ← hb, ← hd] at hW
  have s1 : a.heap.size = w.heap.size + 1 := by rw [ha]; simp
  have s2 : b.heap.size = w.heap.size + 2 := by rw [hb]; simp [s1]
  have s3 : d.heap.size = w.heap.size + 3 := by rw [hd]; simp [s2]
  have s4 : W.heap.size = w.heap.size + 4 := by rw [hW]; simp [s3]
  have l0 : a.heap[w.heap.size]? = some (.cells #[u0] t0 (0, 0)) := by rw [ha]; exact heap_alloc_last _ _
  have l1 : b.heap[w.heap.size + 1]? = some (.cells #[u1] t1 (0, 0)) := by rw [hb, ← s1]; exact heap_alloc_last _ _
  have l2 : d.heap[w.heap.size + 2]? = some (.cells #[u2] t2 (0, 0)) := by rw [hd, ← s2]; exact heap_alloc_last _ _
  have l3 : W.heap[w.heap.size + 3]? = some (.cells #[u3] t3 (0, 0)) := by rw [hW, ← s3]; exact heap_alloc_last _ _
  have o1 : ∀ k, k < a.heap.size → b.heap[k]? = a.heap[k]? := fun k hk => by rw [hb]; exact heap_alloc_old a _ hk
  have o2 : ∀ k, k < b.heap.size → d.heap[k]? = b.heap[k]? := fun k hk => by rw [hd]; exact heap_alloc_old b _ hk
  have o3 : ∀ k, k < d.heap.size → W.heap[k]? = d.heap[k]? := fun k hk => by rw [hW]; exact heap_alloc_old d _ hk
  refine ⟨(o3 _ (by omega)).trans ((o2 _ (by omega)).trans ((o1 _ (by omega)).trans l0)), (o3 _ (by omega)).trans ((o2 _ (by omega)).trans l1), (o3 _ (by omega)).trans l2, l3, s4, ?_⟩
  rw [hW, hd, hb, ha]
  exact up_alloc (up_alloc (up_alloc (up_alloc (Below.refl _ _) _) _) _) _
/-- What lay has to do for become: the draft at q comes to page pg, the cache, the device and the space to x2, d2, sp2. -/
def LaysTo (w : World) (N : Nat → Prop) (c bf p s t : Nat) (x : Cch) (d : Dev) (sp : Spc) (gen root height q : Nat) (err : Int) (pg : Nat) (x2 : Cch) (d2 : Dev) (sp2 : Spc) : Prop :=
  ∀ (W : World) (N1 : Nat → Prop) (tb kb : Nat), Below w.heap.size w W → TS W N1 c bf p s t x d sp gen root height → (∀ k, W.heap.size ≤ k → N1 k) → (∀ k, N1 k → N k) → (∀ k, k < w.heap.size → N k → N1 k) →
    W.cell? ⟨tb, 0, none⟩ = some (at0 t) → W.cell? ⟨kb, 0, none⟩ = some (.slice none 0 0) → W.frozen? ⟨kb, 0, none⟩ = false → ¬ FootS N1 c bf s tb → (¬ FootS N1 c bf s kb ∧ kb ≠ tb ∧ kb ≠ t) → w.heap.size ≤ tb → w.heap.size ≤ kb →
    Calls Tryz.prog 103 #[at0 q, clo2 104 tb kb] W fun e w' => ∃ N2, e = .returned (.tuple #[.int .i64 (pg : Int), .int .i64 err]) ∧ TS w' N2 c bf p s t x2 d2 sp2 gen root height ∧
      (∀ k, N2 k → N1 k) ∧ (∀ k, w'.heap.size ≤ k → N1 k → N2 k) ∧ Only (fun k => FootS N1 c bf s k ∨ k = kb) W w'
/-- The root and the height have turned. -/
theorem TS.rooted (h : TS w N c bf p s t x d sp gen root height) (r2 h2 : Nat) : TS ((w.setCell ⟨t, 3, none⟩ (.int .i64 (r2 : Int))).setCell ⟨t, 4, none⟩ (.int .i64 (h2 : Int))) N c bf p s t x d sp gen r2 h2 ∧ Only (fun k => k = t) w ((w.setCell ⟨t, 3, none⟩ (.int .i64 (r2 : Int))).setCell ⟨t, 4, none⟩ (.int .i64 (h2 : Int))) := by
  have ho : Only (fun k => k = t) w ((w.setCell ⟨t, 3, none⟩ (.int .i64 (r2 : Int))).setCell ⟨t, 4, none⟩ (.int .i64 (h2 : Int))) := (Only.setCell (F := fun k => k = t) (p := ⟨t, 3, none⟩) rfl _).trans (Only.setCell (F := fun k => k = t) (p := ⟨t, 4, none⟩) rfl _)
  refine ⟨⟨h.cd.other ho (by rintro k _ rfl; exact h.nt), h.sp.only ho h.st, ⟨?_⟩, h.ns, h.nt, h.st, h.ok⟩, ho⟩
  have h1 := heap_setCell_same w t 3 _ _ (.int .i64 (r2 : Int)) h.tr.top
  exact heap_setCell_same _ t 4 _ _ (.int .i64 (h2 : Int)) h1
set_option maxRecDepth 100000 in
set_option maxHeartbeats 1600000 in
theorem trBecome_ok (h : TS w N c bf p s t x d sp gen root height) (hN : ∀ k, w.heap.size ≤ k → N k) {q pg hgt : Nat} {x2 : Cch} {d2 : Dev} {sp2 : Spc} (hlay : LaysTo w N c bf p s t x d sp gen root height q 0 pg x2 d2 sp2)
    {A : Option Addr} {L : List Int} {cc : Nat} (hr : Rd w w.heap.size (.slice A L.length cc) (cellsI L)) (hA : ∀ g o, A = some ⟨g, o, none⟩ → ¬ FootS N c bf s g ∧ g ≠ t) (hL : L.length ≤ 1000000) :
    Calls Tryz.prog 79 #[at0 t, at0 q, .int .i64 (hgt : Int), .slice A L.length cc] w fun e w' => e = .returned (.int .i64 0) ∧ TS w' N c bf p s t (relAll (x2, sp2) L).1 d2 (relAll (x2, sp2) L).2 gen pg hgt ∧ Only (fun k => FootS N c bf s k ∨ k = t) w w' := by
  have hmf : ∀ (fn : Fn) (first cap : Array Value) (w : World), (Instr.makeFunc fn first cap).run Tryz.prog w = .ok (.func fn first cap) w := fun _ _ _ _ => rfl
  obtain ⟨n, hn⟩ : ∃ n, n = L.length := ⟨_, rfl⟩
  obtain ⟨W, hW⟩ : ∃ y, y = (((w.alloc (.cells #[at0 t] 42)).alloc (.cells #[.slice A n cc] 54)).alloc (.cells #[.int .i64 0] 37)).alloc (.cells #[.slice none 0 0] 54) := ⟨_, rfl⟩
  obtain ⟨l0, l1, l2, l3, hsz, hb⟩ := four_cells w _ _ _ _ _ _ _ _ hW
  have hlt := h.lt
  obtain ⟨N1, hN1⟩ : ∃ y, y = Nout N w.heap.size (w.heap.size + 4) := ⟨_, rfl⟩
  have h1 : TS W N1 c bf p s t x d sp gen root height := by rw [hN1]; exact h.own hb
  have hnew : ∀ k, w.heap.size ≤ k → k < w.heap.size + 4 → ¬ FootS N1 c bf s k ∧ k ≠ t := fun k h1 h2 => by
    refine ⟨?_, by omega⟩
    rintro (e | e)
    · rcases e with e | e | e
      · rw [hN1] at e; exact e.2 ⟨h1, h2⟩
      · omega
      · omega
    · omega
  have hl := hlay W N1 w.heap.size (w.heap.size + 3) hb h1 (fun k hk => by rw [hN1]; exact ⟨hN k (by omega), by omega⟩) (fun k hk => by rw [hN1] at hk; exact hk.1) (fun k hk hk2 => by rw [hN1]; exact ⟨hk2, by omega⟩)
    (one_cell l0).1 (one_cell l3).1 (one_cell l3).2 (hnew _ (by omega) (by omega)).1 ⟨(hnew _ (by omega) (by omega)).1, by omega, by omega⟩ (Nat.le_refl _) (by omega)
  have HL := Lib.hid hl
  have H := Lib.hid h
  have HW := Lib.hid hW
  have HB := Lib.hid hb
  have HS := Lib.hid hsz
  have Hl0 := Lib.hid l0
  have Hl1 := Lib.hid l1
  have Hl2 := Lib.hid l2
  have HNew := Lib.hid hnew
  have HN1 := Lib.hid hN1
  have HR := Lib.hid hr
  have HA := Lib.hid hA
  have HLn := Lib.hid (And.intro hL hn)
  have Hlt := Lib.hid hlt
  rw [hW] at HL
  rw [← hn]
  clear hl h hW hb hsz l0 l1 l2 l3 hnew hN1 hr hA hL hn hlt h1 hN hlay
  go_enter_defers Tryz.func79, Tryz.ntmps79
  go_wp2_with fail
  refine HL.out.mono ?_
  rintro e w2 ⟨N2, rfl, h2, hl1, hl2, ho2⟩
  rw [← HW.out] at ho2
  have hs := HS.out
  have hlt := Hlt.out
  have keep2 : ∀ k, w.heap.size ≤ k → k < w.heap.size + 3 → w2.heap[k]? = W.heap[k]? := fun k h1 h3 => ho2.block k (by omega) fun e => e.elim (HNew.out k h1 (by omega)).1 (by omega)
  have m0 := (keep2 w.heap.size (by omega) (by omega)).trans Hl0.out
  have m1 := (keep2 (w.heap.size + 1) (by omega) (by omega)).trans Hl1.out
  have m2 := (keep2 (w.heap.size + 2) (by omega) (by omega)).trans Hl2.out
  have hN2 : ∀ k, w.heap.size ≤ k → k < w.heap.size + 4 → ¬ FootS N2 c bf s k ∧ k ≠ t := fun k h1 h3 => ⟨fun e => (HNew.out k h1 h3).1 (e.elim (fun e => .inl (e.elim (fun e => .inl (hl1 k e)) .inr)) .inr), (HNew.out k h1 h3).2⟩
  obtain ⟨w3, hw3⟩ : ∃ y, y = w2.setCell ⟨w.heap.size + 2, 0, none⟩ (.int .i64 0) := ⟨_, rfl⟩
  have ho3 : Only (fun k => k = w.heap.size + 2) w2 w3 := by rw [hw3]; exact Only.setCell (F := fun k => k = w.heap.size + 2) (p := ⟨w.heap.size + 2, 0, none⟩) rfl _
  have n0 := (ho3.block w.heap.size (by have := ho2.size; omega) (by omega)).trans m0
  have n1 := (ho3.block (w.heap.size + 1) (by have := ho2.size; omega) (by omega)).trans m1
  have n2 : w3.heap[w.heap.size + 2]? = some (.cells #[.int .i64 0] 37 (0, 0)) := by rw [hw3]; exact heap_setCell_same w2 (w.heap.size + 2) 0 _ _ (.int .i64 0) m2
  have h3 : TS w3 N2 c bf p s t x2 d2 sp2 gen root height := h2.other ho3 (by
    rintro k _ rfl
    have := hN2 (w.heap.size + 2) (by omega) (by omega)
    exact ⟨fun e => this.1 (.inl e), fun e => this.1 (.inr e), this.2⟩)
  obtain ⟨m2c, m2f⟩ := one_cell m2
  obtain ⟨n0c, _⟩ := one_cell n0
  obtain ⟨n2c, n2f⟩ := one_cell n2
  have t3 := h3.tr.c3
  have t4 := h3.tr.c4
  have f3 := h3.tr.free 3
  have f4 := h3.tr.free 4
  have lt0 := World.block_lt_of_cell? _ _ n0c
  have nt0 : w.heap.size ≠ t := by have := Hlt.out; omega
  have S8b := Lib.hid (show (w3.setCell ⟨t, 3, none⟩ (.int .i64 (pg : Int))).drew.cell? ⟨w.heap.size, 0, none⟩ = some (at0 t) from
    (cell_of_block (p := ⟨w.heap.size, 0, none⟩) (w' := (w3.setCell ⟨t, 3, none⟩ (.int .i64 (pg : Int))).drew) (w := w3) ((Only.setCell (F := fun k => k = t) (p := ⟨t, 3, none⟩) (w := w3) rfl (.int .i64 (pg : Int))).block w.heap.size lt0 nt0)).trans n0c)
  have S8c := Lib.hid (show ((w3.setCell ⟨t, 3, none⟩ (.int .i64 (pg : Int))).setCell ⟨t, 4, none⟩ (.int .i64 (hgt : Int))).drew.cell? ⟨w.heap.size, 0, none⟩ = some (at0 t) from
    (cell_of_block (p := ⟨w.heap.size, 0, none⟩) (w' := ((w3.setCell ⟨t, 3, none⟩ (.int .i64 (pg : Int))).setCell ⟨t, 4, none⟩ (.int .i64 (hgt : Int))).drew) (w := w3) ((h3.rooted pg hgt).2.block w.heap.size lt0 nt0)).trans n0c)
  clear lt0 nt0
  have S8 := Lib.hid (show w3.drew.cell? ⟨w.heap.size, 0, none⟩ = some (at0 t) from n0c)
  rw [hw3] at n0c n2c n2f
  have HT3 := Lib.hid (And.intro t3 (And.intro t4 (And.intro f3 f4)))
  clear t3 t4 f3 f4
  have H3 := Lib.hid h3
  have HN2 := Lib.hid hN2
  have HW3 := Lib.hid hw3
  have HO3 := Lib.hid (And.intro ho2 ho3)
  have HL2 := Lib.hid (And.intro hl1 hl2)
  have HM := Lib.hid (And.intro n0 (And.intro n1 n2))
  clear h2 hl1 hl2 ho2 hs hlt keep2 m0 m1 m2 hN2 hw3 ho3 n0 n1 n2 h3
  go_wp2_with fail
  rw [← HW3.out]
  obtain ⟨t3, t4, f3, f4⟩ := HT3.out
  have t3 : w3.drew.cell? ⟨t, 3, none⟩ = _ := t3
  have t4 : w3.drew.cell? ⟨t, 4, none⟩ = _ := t4
  have f3 : w3.drew.frozen? ⟨t, 3, none⟩ = false := f3
  have f4 : w3.drew.frozen? ⟨t, 4, none⟩ = false := f4
  go_region_held3 (fun w' => w'.cell? ⟨w.heap.size, 0, none⟩ = some (at0 t))
    (first | with_reducible exact S8.out | with_reducible exact S8b.out | with_reducible exact S8c.out)
    (fail)
  obtain ⟨w4, hw4⟩ : ∃ y, y = ((w3.setCell ⟨t, 3, none⟩ (.int .i64 (pg : Int))).setCell ⟨t, 4, none⟩ (.int .i64 (hgt : Int))).drew := ⟨_, rfl⟩
  rw [← hw4]
  obtain ⟨n0, n1, n2⟩ := HM.out
  obtain ⟨ho2, ho3⟩ := HO3.out
  have hs := HS.out
  have hlt := Hlt.out
  have hz2 := ho2.size
  have hz3 := ho3.size
  obtain ⟨hr1, hr2⟩ := H3.out.rooted pg hgt
  have h4 : TS w4 N2 c bf p s t x2 d2 sp2 gen pg hgt := by rw [hw4]; exact hr1.below (Below.refl _ _).drew
  have ho4 : Only (fun k => k = t) w3 w4 := by rw [hw4]; exact hr2.trans (Only.drew _ _)
  have r0 := (ho4.block w.heap.size (by omega) (by omega)).trans n0
  have r1 := (ho4.block (w.heap.size + 1) (by omega) (by omega)).trans n1
  have r2 := (ho4.block (w.heap.size + 2) (by omega) (by omega)).trans n2
  obtain ⟨w5, hw5⟩ : ∃ y, y = w4.setCell ⟨w.heap.size + 2, 0, none⟩ (.int .i64 0) := ⟨_, rfl⟩
  have ho5 : Only (fun k => k = w.heap.size + 2) w4 w5 := by rw [hw5]; exact Only.setCell (F := fun k => k = w.heap.size + 2) (p := ⟨w.heap.size + 2, 0, none⟩) rfl _
  have hz4 := ho4.size
  have hz5 := ho5.size
  have q0 := (ho5.block w.heap.size (by omega) (by omega)).trans r0
  have q1 := (ho5.block (w.heap.size + 1) (by omega) (by omega)).trans r1
  have q2 : w5.heap[w.heap.size + 2]? = some (.cells #[.int .i64 0] 37 (0, 0)) := by rw [hw5]; exact heap_setCell_same w4 (w.heap.size + 2) 0 _ _ (.int .i64 0) r2
  have hN2 := HN2.out
  have h5 : TS w5 N2 c bf p s t x2 d2 sp2 gen pg hgt := h4.other ho5 (by
    rintro k _ rfl
    have := hN2 (w.heap.size + 2) (by omega) (by omega)
    exact ⟨fun e => this.1 (.inl e), fun e => this.1 (.inr e), this.2⟩)
  have hl1 : ∀ k, N2 k → N k := fun k hk => by
    have := HL2.out.1 k hk
    rw [HN1.out] at this
    exact this.1
  have hfoot : ∀ k, FootS N2 c bf s k → FootS N c bf s k := fun k e => e.elim (fun e => .inl (e.elim (fun e => .inl (hl1 k e)) .inr)) .inr
  have ho05 : Only (fun k => FootS N c bf s k ∨ k = t) w w5 := by
    have a1 : Only (fun k => FootS N c bf s k ∨ k = t ∨ w.heap.size ≤ k) w W := Only.of_below HB.out
    have a2 : Only (fun k => FootS N c bf s k ∨ k = t ∨ w.heap.size ≤ k) W w2 := ho2.mono fun k _ e => by
      rcases e with (e | e) | e
      · exact .inl (.inl (e.elim (fun e => .inl (by rw [HN1.out] at e; exact e.1)) .inr))
      · exact .inl (.inr e)
      · exact .inr (.inr (by omega))
    have a3 : Only (fun k => FootS N c bf s k ∨ k = t ∨ w.heap.size ≤ k) w2 w3 := ho3.mono fun k _ e => .inr (.inr (by omega))
    have a4 : Only (fun k => FootS N c bf s k ∨ k = t ∨ w.heap.size ≤ k) w3 w4 := ho4.mono fun k _ e => .inr (.inl e)
    have a5 : Only (fun k => FootS N c bf s k ∨ k = t ∨ w.heap.size ≤ k) w4 w5 := ho5.mono fun k _ e => .inr (.inr (by omega))
    exact ((((a1.trans a2).trans a3).trans a4).trans a5).mono fun k hk e => e.elim .inl fun e => e.elim .inr fun e => by omega
  have hA := HA.out
  have hr5 : Rd w5 w5.heap.size (.slice A L.length cc) (cellsI L) := by
    exact (HR.out.only ho05 (Nat.le_refl _) fun g o e => by
      have := hA g o e
      rintro (z | z)
      · exact this.1 z
      · exact this.2 z).more ho05.size
  have hD := trDefer_ok h5 (one_cell q2).1 (gb := w.heap.size + 1) (eb := w.heap.size + 2) (tb := w.heap.size) (kb := w.heap.size + 3) (by rw [← HLn.out.2]; exact (one_cell q1).1) (one_cell q0).1 (hN2 _ (by omega) (by omega)).1 (hN2 _ (by omega) (by omega)).1 hr5 (fun g o e => fun z => (hA g o e).1 (hfoot g z)) HLn.out.1
  obtain ⟨w4c, w4f⟩ := one_cell r2
  have w4c : w4.cell? ⟨w.heap.size + 1 + 1, 0, none⟩ = some (.int .i64 0) := w4c
  have w4f : w4.frozen? ⟨w.heap.size + 1 + 1, 0, none⟩ = false := w4f
  have hback : ∀ V, TS V N2 c bf p s t (relAll (x2, sp2) L).1 d2 (relAll (x2, sp2) L).2 gen pg hgt → Only (FootS N2 c bf s) w5 V → (TS V N c bf p s t (relAll (x2, sp2) L).1 d2 (relAll (x2, sp2) L).2 gen pg hgt ∧ Only (fun k => FootS N c bf s k ∨ k = t) w V) ∧ V.heap[w.heap.size + 2]? = some (.cells #[.int .i64 0] 37 (0, 0)) := fun V hV hO =>
    ⟨⟨hV.sets (fun k _ hk => hl1 k hk) H.out.nots, ho05.trans (hO.mono fun k _ e => .inl (hfoot k e))⟩, (hO.block _ (by omega) (hN2 _ (by omega) (by omega)).1).trans q2⟩
  have HD := Lib.hid hD
  have HBk := Lib.hid hback
  have HW5 := Lib.hid hw5
  clear hD hback hw5 hr5 hA ho05 hfoot hl1 h5 hN2 q0 q1 q2 hz5 hz4 ho5 r0 r1 r2 ho4 h4 hr1 hr2 hz3 hz2 hlt hs ho2 ho3 n0 n1 n2 hw4 t3 t4 f3 f4
  go_wp2_with fail
  refine leaves_cons (f := 101) (args := #[at0 (w.heap.size + 2), at0 (w.heap.size + 3), at0 (w.heap.size + 1), at0 w.heap.size]) (by simp) (by simp [go_sem]) ?_
  have hw5 : w4.setCell ⟨w.heap.size + 1 + 1, 0, none⟩ (.int .i64 0) = w5 := HW5.out.symm
  rw [hw5]
  refine (HD.out _).mono ?_
  rintro e u' V ⟨rfl, rfl, hV, hO⟩
  obtain ⟨hfin, hrow⟩ := HBk.out V hV hO
  have hc := (one_cell hrow).1
  have HF := Lib.hid hfin
  have hc2 : V.cell? ⟨w.heap.size + 1 + 1, 0, none⟩ = some (.int .i64 0) := hc
  clear hV hO hfin hrow hw5 hc
  simp only [Leaves, settle]
  simp [results, Tryz.results79, go_sem, hc2]
  exact HF.out
end
end Go.Proofs.YtnmokkkbghlpbaaGreat
/-
  A tree without pages: what is to be there instead, and that it becomes the tree.
-/
namespace Go.Proofs.YtnmokkkbghlpbaaGreat
open Go.RowKit
section
variable {w w' : World} {N N' : Nat → Prop} {c bf p s t : Nat} {x x' : Cch} {d d' : Dev} {sp sp' : Spc} {gen root height : Nat} {a b : Nat}
theorem lays_leaf (hd : d.n < 999999) {m : Nat} (hm : LeastNot sp.held m) (hm0 : m ≠ 0) (hmn : m < sp.n) (hm2 : m ≤ 1599) (hg2 : gen < 18446744073709551616)
    {base q : Nat} {n : Nd} {K V D : Value} (hn : NdNew w base K V D n) (hsh : n.Short 1000000) (hf : n.Fit) (hq : w.heap[q]? = some (.cells (dfCells n.leaf K V D (.slice none 0 0)) 183 (0, 0)))
    (hfr : ∀ k, base ≤ k → k < w.heap.size → ¬ FootS N c bf s k) :
    LaysTo w N c bf p s t x d sp gen root height q (x.put d (m : Int) (pgBytes (kindOf n.leaf) m gen n.bytes)).1 m (x.put d (m : Int) (pgBytes (kindOf n.leaf) m gen n.bytes)).2.1 (x.put d (m : Int) (pgBytes (kindOf n.leaf) m gen n.bytes)).2.2 (sp.put m true) := by
  intro W N1 tb kb hb hW h1 h2 _ b4 k0 kf htb hkb ltb lkb
  have hfoot : ∀ k, FootS N1 c bf s k → FootS N c bf s k := fun k e => e.elim (fun e => .inl (e.elim (fun e => .inl (h2 k e)) .inr)) .inr
  have hq' : W.heap[q]? = some (.cells (dfCells n.leaf K V D (.slice none 0 0)) 183 (0, 0)) := (hb.block q (Array.getElem?_eq_some_iff.1 hq).1).trans hq
  have hR : Rests (fun k => base ≤ k ∧ k < w.heap.size) W K V D n := fun V hV => (hn.keep ⟨Nat.le_trans hb.size hV.size, fun k hk h2 _ => (hV.block k (Nat.lt_of_lt_of_le hk hb.size) fun hn => hn ⟨h2.resolve_left (Nat.not_lt_zero _), hk⟩).trans (hb.block k hk)⟩).is
  refine (trLay_leaf hW h1 hd hm hm0 hmn hm2 hg2 b4 k0 kf (base := 0) (L := []) (Mine.nil _ _ _) (by simp) (Nat.zero_le _) htb hkb (fun g e => by cases e) hR ?_ hsh hf hq').mono ?_
  · intro k _ hk
    exact ⟨fun e => hfr k hk.1 hk.2 (hfoot k e), by omega, fun e => by cases e⟩
  · rintro e w' ⟨tv', N2, rfl, h3, h4, h5⟩
    exact ⟨N2, rfl, h3, h4.less, h4.fresh, h5.mono fun k _ e => e.elim .inl fun e => e.elim .inr fun e => by cases e⟩
set_option maxRecDepth 100000 in
set_option maxHeartbeats 1000000 in
theorem trInstead0 {pb : Nat} {m : Nd} (r : Int) (hl : Calls Tryz.prog 96 #[at0 pb, ndVal true (.slice none 0 0) (.slice none 0 0) (.slice none 0 0)] w fun e w' => LeafOut m w e w') :
    Calls Tryz.prog 77 #[at0 pb, .int .i64 r, .int .i64 0] w fun e w' => ∃ q, e = .returned (.tuple #[at0 q, .int .i64 0]) ∧ LeafOut m w (.returned (at0 q)) w' := by
  have HL := Lib.hid hl
  clear hl
  go_enter Tryz.func77, Tryz.ntmps77
  go_wp2_with fail
  refine HL.out.mono ?_
  rintro e w1 ⟨q, K, V, D, rfl, h1⟩
  have H1 := Lib.hid h1
  clear h1
  go_wp2_with fail
  go_ret2
  exact ⟨q, rfl, q, K, V, D, rfl, H1.out⟩
set_option maxRecDepth 100000 in
set_option maxHeartbeats 1000000 in
/-- A root that fits, and has keys. -/
theorem trCrown_small {q hgt : Nat} {n : Nd} {K V D S : Value} {B : Nat} (hq : w.heap[q]? = some (.cells (dfCells n.leaf K V D S) 183 (0, 0))) (hn : NdIs w B K V D n) (hB : B ≤ w.heap.size) (hs : n.Snd) (hsh : n.Short 1000000) (hk : 0 < n.keys.length) (hf : n.size ≤ 232) :
    Calls Tryz.prog 78 #[at0 q, .int .i64 (hgt : Int)] w fun e w' => e = .returned (.tuple #[at0 q, .int .i64 (hgt : Int)]) ∧ Below w.heap.size w w' := by
  have hz := size_any hn hB hs hsh
  obtain ⟨A1, c1, A2, c2, A3, c3, rfl, rfl, rfl⟩ := hn.form
  obtain ⟨lf, hlf⟩ : ∃ y, y = n.leaf := ⟨_, rfl⟩
  obtain ⟨a1, ha1⟩ : ∃ y, y = n.keys.length := ⟨_, rfl⟩
  obtain ⟨a2, ha2⟩ : ∃ y, y = n.vals.length := ⟨_, rfl⟩
  obtain ⟨a3, ha3⟩ : ∃ y, y = n.kids.length := ⟨_, rfl⟩
  obtain ⟨z, hzz⟩ : ∃ y, y = n.size := ⟨_, rfl⟩
  rw [← ha1, ← ha2, ← ha3, ← hlf] at hz hq
  rw [← ha1] at hk
  rw [← hzz] at hz hf
  have q0 : w.cell? ⟨q, 0, none⟩ = some (.bool lf) := by rw [cell_of_row w q 0 _ _ (0, 0) hq]; rfl
  have q1 : w.cell? ⟨q, 1, none⟩ = some (.slice A1 a1 c1) := by rw [cell_of_row w q 1 _ _ (0, 0) hq]; rfl
  have q2 : w.cell? ⟨q, 2, none⟩ = some (.slice A2 a2 c2) := by rw [cell_of_row w q 2 _ _ (0, 0) hq]; rfl
  have q3 : w.cell? ⟨q, 3, none⟩ = some (.slice A3 a3 c3) := by rw [cell_of_row w q 3 _ _ (0, 0) hq]; rfl
  have hk0 : ((a1 : Int) == 0) = false := by simp; omega
  have hzl : ¬ (z : Int) > 232 := by omega
  have HZ := Lib.hid hz
  clear hz hq hn hB hs hsh hk hf hlf ha1 ha2 ha3 hzz
  go_enter Tryz.func78, Tryz.ntmps78
  go_wp2_with fail
  go_loopw [0, 1] (fun dv hv wr => dv = at0 q ∧ hv = .int .i64 (hgt : Int) ∧ wr = w) (fun _ _ _ => 0)
  case atStart => exact ⟨rfl, rfl, rfl⟩
  case round =>
    obtain ⟨rfl, rfl, rfl⟩ := hrel
    go_wp2_with (go_at_call 99; refine HZ.out.mono ?_; rintro e w1 ⟨rfl, hb⟩; have HB := Lib.hid hb; clear hb)
    go_ret2
    exact ⟨rfl, HB.out⟩
end
end Go.Proofs.YtnmokkkbghlpbaaGreat
/-
  The first key of a tree without pages.
-/
namespace Go.Proofs.YtnmokkkbghlpbaaGreat
open Go.RowKit
section
variable {w w' : World} {N N' : Nat → Prop} {c bf p s t : Nat} {x x' : Cch} {d d' : Dev} {sp sp' : Spc} {gen root height : Nat} {a b : Nat}
/-- A leaf without keys. -/
abbrev ndE : Nd := ⟨true, [], [], []⟩
theorem ndE_is (w : World) (B : Nat) : NdIs w B (.slice none 0 0) (.slice none 0 0) (.slice none 0 0) ndE := ⟨⟨[], Rd.nil w B, rfl, fun k u l a _ => by simp at a⟩, ⟨[], Rd.nil w B, rfl, fun k u l a _ => by simp at a⟩, Rd.nil w B⟩
theorem ndE_put (key val : List UInt8) : ndE.put key val = ⟨true, [key], [val], []⟩ := by
  unfold Nd.put atN isN belowN hasN putL
  rfl
theorem one_snd {key val : List UInt8} (hk : KeyOk key) (hv : val.length ≤ 24) : (⟨true, [key], [val], []⟩ : Nd).Snd := by
  refine ⟨?_, ?_, ?_, fun _ => ⟨rfl, rfl⟩, fun h => by cases h⟩
  · intro j hj
    have : j = 0 := by simp at hj; omega
    subst this
    exact ⟨hk, fun h => by omega⟩
  · intro j hj
    have : j = 0 := by simp at hj; omega
    subst this
    exact hv
  · intro j hj
    simp at hj
theorem ndE_snd : ndE.Snd := ⟨fun j hj => by simp at hj, fun j hj => by simp at hj, fun j hj => by simp at hj, fun _ => ⟨rfl, rfl⟩, fun h => by cases h⟩
theorem one_fit {key val : List UInt8} (hk : KeyOk key) (hv : val.length ≤ 24) : (⟨true, [key], [val], []⟩ : Nd).Fit := by
  refine ⟨one_snd hk hv, by simp, ?_⟩
  have := hk.2
  simp [Nd.size, Nd.cells, Nd.cell]
  omega
theorem info_plan : (Tryz.prog.info? 155).map (·.size) = some 4 := by kernel_rfl
/-- A plan in new memory. -/
theorem plan_made (w : World) (u0 u1 u2 u3 : Value) (h0 : u0.oneCell' = true) (h1 : u1.oneCell' = true) (h2 : u2.oneCell' = true) (h3 : u3.oneCell' = true) :
    ∃ W, (Instr.storeAt 155 (.pointer (some ⟨w.heap.size, 0, none⟩)) (.agg #[u0, u1, u2, u3])).run Tryz.prog (w.alloc (.cells #[.pointer none, .slice none 0 0, .nilFunc, .slice none 0 0] 155)) = .ok () W ∧
      W.heap[w.heap.size]? = some (.cells #[u0, u1, u2, u3] 155 (0, 0)) ∧ Below w.heap.size w W ∧ W.heap.size = w.heap.size + 1 := by
  obtain ⟨W, hrun, e1, e2, e3⟩ := store_agg (P := Tryz.prog) (w := w.alloc (.cells #[.pointer none, .slice none 0 0, .nilFunc, .slice none 0 0] 155)) (g := w.heap.size) (cs := [.pointer none, .slice none 0 0, .nilFunc, .slice none 0 0]) (heap_alloc_last _ _) (ys := [u0, u1, u2, u3]) (by simp [h0, h1, h2, h3]) (o := 0) (by simp) (ty := 155) info_plan
  refine ⟨W, hrun, by simpa using e1, ?_, by simpa using e3⟩
  have ho : Only (fun k => w.heap.size ≤ k) (w.alloc (.cells #[.pointer none, .slice none 0 0, .nilFunc, .slice none 0 0] 155)) W := Only.grown e2 fun g e => by injection e with e; omega
  exact (up_alloc (Below.refl _ _) _).trans (ho.below (by simp))
set_option maxRecDepth 100000 in
set_option maxHeartbeats 1600000 in
theorem trChange0 (h : TS w N c bf p s t x d sp gen 0 0) (hN : ∀ k, w.heap.size ≤ k → N k) (hd : d.n < 999999) {m : Nat} (hm : LeastNot sp.held m) (hm0 : m ≠ 0) (hmn : m < sp.n) (hm2 : m ≤ 1599) (hg2 : gen < 18446744073709551616) (hroom : 3 ≤ _root_.Go.Proofs.YtnmokkkbghlpbaaGreat.free sp.held sp.n)
    {kb vb : Nat} {kv vv : Value} {key val : List UInt8} (k0 : w.cell? ⟨kb, 0, none⟩ = some kv) (v0 : w.cell? ⟨vb, 0, none⟩ = some vv) (hk : Rd w w.heap.size kv (cellsB key)) (hv : Rd w w.heap.size vv (cellsB val)) (hko : KeyOk key) (hvo : val.length ≤ 24)
    (hput : (x.put d (m : Int) (pgBytes 1 m gen (⟨true, [key], [val], []⟩ : Nd).bytes)).1 = 0) :
    Calls Tryz.prog 54 #[at0 t, kv, clo2 55 kb vb] w fun e w' => e = .returned (.tuple #[.bool true, .int .i64 0]) ∧
      TS w' N c bf p s t (x.put d (m : Int) (pgBytes 1 m gen (⟨true, [key], [val], []⟩ : Nd).bytes)).2.1 (x.put d (m : Int) (pgBytes 1 m gen (⟨true, [key], [val], []⟩ : Nd).bytes)).2.2 (sp.put m true) gen m 1 ∧ Only (fun k => FootS N c bf s k ∨ k = t) w w' := by
  have hmf : ∀ (fn : Fn) (first cap : Array Value) (w : World), (Instr.makeFunc fn first cap).run Tryz.prog w = .ok (.func fn first cap) w := fun _ _ _ _ => rfl
  obtain ⟨B1, l1, d1, ekv⟩ : ∃ B1 l1 d1, kv = .slice B1 l1 d1 := by obtain ⟨A, c, e, _⟩ := hk.bytes; exact ⟨A, _, c, e⟩
  obtain ⟨W, hW, htop, hb, hsz⟩ := plan_made w (at0 t) kv (clo2 55 kb vb) (.slice none 0 0) rfl (by rw [ekv]; rfl) rfl rfl
  have hg : ndE.MayPut key val := ⟨rfl, ndE_snd, hko, hvo⟩
  have hleaf := trLeafPut_ok (w := W.drew) (p := w.heap.size) (kb := kb) (vb := vb) (key := key) (val := val) (kv := kv) (vv := vv) (n := ndE) (by show W.cell? _ = _; rw [cell_of_row W w.heap.size 2 _ _ (0, 0) htop]; rfl) (ndE_is _ _)
    ((hb.cell (p := ⟨kb, 0, none⟩) (World.block_lt_of_cell? _ _ k0)).trans k0) ((hb.cell (p := ⟨vb, 0, none⟩) (World.block_lt_of_cell? _ _ v0)).trans v0) ((hk.below hb).more hb.size) ((hv.below hb).more hb.size) ⟨by simp, by simp, by simp⟩ hg
  rw [ndE_put] at hleaf
  have hin := trInstead0 0 hleaf
  have hT := h.own (b := w.heap.size) hb
  have t3 := (h.below hb).tr.c3
  have t4 := (h.below hb).tr.c4
  have hS := fun (V : World) (hV : Below W.heap.size W V) => (show V.cell? ⟨t, 3, none⟩ = some (.int .i64 0) ∧ V.cell? ⟨t, 4, none⟩ = some (.int .i64 0) from ⟨((h.below hb).below hV).tr.c3, ((h.below hb).below hV).tr.c4⟩)
  obtain ⟨n, hn⟩ : ∃ y : Nd, y = ⟨true, [key], [val], []⟩ := ⟨_, rfl⟩
  have hfit : n.Fit := by rw [hn]; exact one_fit hko hvo
  have hshort : n.Short 1000000 := by rw [hn]; exact ⟨by simp, by simp, by simp⟩
  have hkl : 0 < n.keys.length := by rw [hn]; simp
  have hnl : n.leaf = true := by rw [hn]
  rw [← hn] at hin hput ⊢
  obtain ⟨l, hl⟩ : ∃ y, y = pgBytes 1 m gen n.bytes := ⟨_, rfl⟩
  rw [← hl] at hput ⊢
  obtain ⟨x2, hx2⟩ : ∃ y, y = (x.put d (m : Int) l).2.1 := ⟨_, rfl⟩
  obtain ⟨d2, hd2⟩ : ∃ y, y = (x.put d (m : Int) l).2.2 := ⟨_, rfl⟩
  rw [← hx2, ← hd2]
  have H := Lib.hid h
  have HN := Lib.hid hN
  have Hm := Lib.hid (And.intro hd (And.intro hm (And.intro hm0 (And.intro hmn (And.intro hm2 hg2)))))
  have HRoom := Lib.hid hroom
  have HW := Lib.hid hW
  have HB := Lib.hid hb
  have HS := Lib.hid hS
  have HIn := Lib.hid hin
  have HSz := Lib.hid hsz
  have HTop := Lib.hid htop
  have HNd := Lib.hid (And.intro hfit (And.intro hshort (And.intro hkl hnl)))
  have HX := Lib.hid (And.intro hl (And.intro hx2 (And.intro hd2 hput)))
  have Sd := Lib.hid (hS W.drew (Below.refl _ _).drew)
  have HKV := Lib.hid ekv
  clear h hN hd hm hm0 hmn hm2 hg2 hroom k0 v0 hk hv hko hvo hput hW hb hsz htop hg hleaf hin hT t3 t4 hS hfit hshort hkl hnl hn hl hx2 hd2
  rw [ekv]
  clear ekv
  go_enter Tryz.func54, Tryz.ntmps54
  have hWe := HW.out
  rw [HKV.out] at hWe
  go_wp2_with ((with_reducible refine wpList_stored (o := ⟨none, .store 155 (.tmp 8) (.tmp 16), _, _, _, none⟩) rfl 155 (.tmp 8) (.tmp 16) rfl (at0 w.heap.size) (.agg #[at0 t, .slice B1 l1 d1, clo2 55 kb vb, .slice none 0 0]) ?_ ?_ W hWe ?_); exact rfl; exact rfl)
  clear hWe
  go_region_held3 (fun w' => w'.cell? ⟨t, 3, none⟩ = some (.int .i64 0) ∧ w'.cell? ⟨t, 4, none⟩ = some (.int .i64 0))
    (first | with_reducible exact Sd.out | with_reducible exact S2.out)
    (first
      | (go_at_call 77; refine HIn.out.mono ?_; rintro e w2 ⟨q, rfl, q', K, V, D, eq, hq1, hq2, hq3, hq4, hq5⟩;
          have HQ := Lib.hid (And.intro eq (And.intro hq1 (And.intro hq2 (And.intro hq3 hq4)))); have HB2 := Lib.hid (((Below.refl W.heap.size W).drew : Below W.heap.size W W.drew).trans hq5); clear eq hq1 hq2 hq3 hq4 hq5; have S2 := Lib.hid (HS.out w2 HB2.out)))
  obtain ⟨eq, hq1, hq2, hq3, hq4⟩ := HQ.out
  obtain rfl : q = q' := by simpa using eq
  have hb2 := HB.out.trans (HB2.out.mono HB.out.size)
  have hroom := trRoom_any (H.out.own (b := w2.heap.size) hb2) (by omega)
  rw [decide_eq_true (show 2 * 0 + 3 ≤ _root_.Go.Proofs.YtnmokkkbghlpbaaGreat.free sp.held sp.n from HRoom.out)] at hroom
  have HR := Lib.hid hroom
  have HN4 := Lib.hid hq4
  have HQ3 := Lib.hid (And.intro hq1 (And.intro hq2 hq3))
  have HB2' := Lib.hid hb2
  clear eq hq1 hq2 hq3 hq4 hb2 hroom
  go_wp2_with fail
  refine HR.out.mono ?_
  rintro e w3 ⟨rfl, hb3⟩
  have hb23 := HB2.out.trans (hb3.mono HB2.out.size)
  have t4 := (HS.out w3 hb23).2
  have hn3 := HN4.out.kept hb3
  have hq3 : w3.heap[q]? = some (.cells (dfCells true K V D (.slice none 0 0)) 183 (0, 0)) := (hb3.block q HQ3.out.2.1).trans HQ3.out.2.2
  obtain ⟨hfit, hsh, hkl, hnl⟩ := HNd.out
  rw [← hnl] at hq3
  have hcr := trCrown_small (hgt := 1) hq3 hn3.is (Nat.le_refl _) hfit.snd hsh hkl hfit.fit
  have HC := Lib.hid hcr
  have HN3 := Lib.hid hn3
  have HQ3' := Lib.hid hq3
  have HB3 := Lib.hid (HB2'.out.trans (hb3.mono HB2'.out.size))
  have HB3w := Lib.hid hb23
  clear hb3 hb23 hn3 hq3 hfit hsh hkl hnl hcr
  go_wp2_with fail
  refine HC.out.mono ?_
  rintro e w4 ⟨rfl, hb4⟩
  have hb04 := HB3.out.trans (hb4.mono HB3.out.size)
  have h4 := H.out.own (b := w4.heap.size) hb04
  have hlt := H.out.lt
  have hn4 := HN3.out.kept hb4
  have hq4 : w4.heap[q]? = some (.cells (dfCells n.leaf K V D (.slice none 0 0)) 183 (0, 0)) := (hb4.block q (Array.getElem?_eq_some_iff.1 HQ3'.out).1).trans HQ3'.out
  have htop4 : w4.heap[w.heap.size]? = W.heap[w.heap.size]? := ((HB3w.out.trans (hb4.mono HB3w.out.size)).block w.heap.size (by rw [HSz.out]; omega))
  have c3 : w4.cell? ⟨w.heap.size, 3, none⟩ = some (.slice none 0 0) := by rw [cell_of_row w4 w.heap.size 3 _ _ (0, 0) (htop4.trans HTop.out)]; rfl
  obtain ⟨hd, hm, hm0, hmn, hm2, hg2⟩ := Hm.out
  obtain ⟨hfit, hsh, hkl, hnl⟩ := HNd.out
  obtain ⟨hl, hx2, hd2, hput⟩ := HX.out
  have hfree : ∀ k, w.heap.size + 1 ≤ k → k < w4.heap.size → ¬ FootS (Nout N w.heap.size w4.heap.size) c bf s k := fun k h1 h2 => by
    rintro (e | e)
    · rcases e with e | e | e
      · exact e.2 ⟨by omega, h2⟩
      · omega
      · omega
    · omega
  have hlay := lays_leaf (w := w4) (N := Nout N w.heap.size w4.heap.size) (c := c) (bf := bf) (p := p) (s := s) (t := t) (x := x) (d := d) (sp := sp) (gen := gen) (root := 0) (height := 0) hd hm hm0 hmn hm2 hg2 hn4 hsh hfit hq4 (fun k h1 h2 => hfree k (by have := HSz.out; have : W.drew.heap.size = W.heap.size := rfl; omega) h2)
  rw [hnl, show kindOf true = 1 from rfl, ← hl, ← hx2, ← hd2, hput] at hlay
  have hbec := trBecome_ok (hgt := 1) h4 (fun k hk => ⟨HN.out k (Nat.le_trans hb04.size hk), by omega⟩) hlay (A := none) (L := []) (cc := 0) (Rd.nil _ _) (fun g o e => by cases e) (by simp)
  have hfin : ∀ V, TS V (Nout N w.heap.size w4.heap.size) c bf p s t x2 d2 (sp.put m true) gen m 1 → Only (fun k => FootS (Nout N w.heap.size w4.heap.size) c bf s k ∨ k = t) w4 V → TS V N c bf p s t x2 d2 (sp.put m true) gen m 1 ∧ Only (fun k => FootS N c bf s k ∨ k = t) w V := fun V hV hO =>
    ⟨hV.sets (fun k _ hk => hk.1) H.out.nots, (Only.of_below hb04).trans (hO.mono fun k _ e => e.elim (fun e => .inl (e.elim (fun e => .inl (Foot.less e)) .inr)) .inr)⟩
  have HBec := Lib.hid hbec
  have HFin := Lib.hid hfin
  clear hb4 hb04 h4 hlt hn4 hq4 htop4 hd hm hm0 hmn hm2 hg2 hfit hsh hkl hnl hl hx2 hd2 hput hfree hlay hbec hfin
  go_wp2_with fail
  refine HBec.out.mono ?_
  rintro e w5 ⟨rfl, h5, ho5⟩
  have H5 := Lib.hid (HFin.out w5 h5 ho5)
  clear h5 ho5
  go_wp2_with fail
  go_ret2
  exact ⟨rfl, H5.out⟩
end
end Go.Proofs.YtnmokkkbghlpbaaGreat
/-
  Get and Put over a device that does not fail, as plain mathematics.
-/
namespace Go.Proofs.YtnmokkkbghlpbaaGreat
open Go.RowKit
section
variable {x y : Cch} {d : Dev} {n i : Nat} {no : Int} {f : Frm} {H H' : Nat → List UInt8} {l : List UInt8}
theorem inv_new (k n : Nat) (hk : 0 < k) : Inv (Cch.new k) (Dev.new n) (fun _ => blank) := by
  refine ⟨new_ok' k _ hk, fun _ => rfl, fun i _ hf => ?_, fun i _ hf => ?_, fun m hm _ => ?_⟩
  · unfold Cch.fr at hf; rw [new_getD] at hf; cases hf
  · unfold Cch.fr at hf; rw [new_getD] at hf; cases hf
  · rw [Dev.new_length] at hm
    show ((List.replicate n blank).getD m []) = blank
    rw [List.getD_eq_getElem?_getD, List.getElem?_replicate, if_pos hm]
    rfl
/-- Sector m, told anew. -/
def setH (H : Nat → List UInt8) (m : Nat) (l : List UInt8) : Nat → List UInt8 := fun k => if k = m then l else H k
/-- Room is found, where a frame is not pinned: what it comes to. -/
theorem Inv.roomed (h : Inv x d H) (hp : ∃ m, m < x.L.length ∧ (x.fr m).pins = 0) : ∃ i y dy, x.room d = (some i, 0, y, dy) ∧ Inv y dy H ∧ i < y.L.length ∧ y.fr i = Frm.zero ∧ y.L.length = x.L.length ∧ dy.L.length = d.L.length ∧ dy.n ≤ d.n + 1 ∧ (∀ j, (y.fr j).pins = (x.fr j).pins) ∧ (∀ no, x.holder no = none → y.holder no = none) := by
  obtain ⟨m, hm, hpm⟩ := hp
  obtain ⟨i, e1, e2⟩ := room_finds h.calm h.ok.hand hm hpm
  obtain ⟨r1, r2, r3, _, r5⟩ := h.ok.room d
  obtain ⟨s1, s2, s3, _⟩ := room_spec x d h.ok.hand
  have hI := h.room
  rcases hr : x.room d with ⟨ro, re, y, dy⟩
  rw [hr] at e1 e2 r1 r2 r3 r5 s1 s2 s3 hI
  have e1 : ro = some i := e1
  have e2 : re = 0 := e2
  subst e1 e2
  obtain ⟨a, b, _⟩ := r2 i rfl
  have s1 : y.L.length = x.L.length := s1
  exact ⟨i, y, dy, rfl, hI, by omega, b, s1, s2, s3, r3, r5⟩
theorem Inv.get (h : Inv x d H) (hno : 0 ≤ no ∧ no < d.L.length) (hp : ∃ m, m < x.L.length ∧ (x.fr m).pins = 0) : (x.get d no).2.1 = 0 ∧ (x.get d no).1 = H no.toNat ∧ Inv (x.get d no).2.2.1 (x.get d no).2.2.2 H := by
  unfold Cch.get
  rw [if_pos hno]
  rcases he : x.holder no with _ | i
  · obtain ⟨i, y, dy, hr, hI, hi, hz, hl, hdl, _, _, hk⟩ := h.roomed hp
    have hn := hk no he
    have hrd : x.read d no = (some i, 0, (y.hold i no).bytes i (dy.now no.toNat), dy) := by
      unfold Cch.read
      rw [hr]
      simp only
      rw [if_neg (by rw [hI.calm.burns]; simp), hI.calm.burn]
    simp only [hrd]
    have hfree := hI.free no.toNat (by omega) (by rw [show ((no.toNat : Nat) : Int) = no by omega]; exact hn)
    rw [hold_place hi hz]
    obtain ⟨p1, p2⟩ := hI.place (f := ⟨true, no, dy.now no.toNat, false, false, 0⟩) hi rfl (.inr ⟨by rw [hz]; rfl, hn, hno.1, by rw [hdl]; exact hno.2⟩) (H' := H) (fun _ _ => rfl) hfree (fun _ => hfree)
    have hi2 : i < (y.place i ⟨true, no, dy.now no.toNat, false, false, 0⟩).L.length := by rw [place_len]; exact hi
    have hfr := place_fr hi ⟨true, no, dy.now no.toNat, false, false, 0⟩ i
    rw [if_pos rfl] at hfr
    refine ⟨trivial, ?_, ?_⟩
    · show ((y.place i _).fr i).b = _
      rw [hfr]
      exact hfree
    · rw [use_place, place_place]
      exact (hI.place (f := { (y.place i ⟨true, no, dy.now no.toNat, false, false, 0⟩).fr i with used := true }) hi (by rw [hfr]) (.inr ⟨by rw [hz]; rfl, by rw [hfr]; exact hn, by rw [hfr]; exact hno.1, by rw [hfr, hdl]; exact hno.2⟩) (H' := H) (fun _ _ => rfl) (by rw [hfr]; exact hfree) (fun _ => by rw [hfr]; exact hfree)).1
  · obtain ⟨hi, hf, hn⟩ := holder_lt he
    have hf : (x.fr i).full = true := hf
    have hn : (x.fr i).no = no := hn
    refine ⟨rfl, ?_, ?_⟩
    · show (x.fr i).b = _
      rw [h.held i hi hf, hn]
    · exact (h.place (f := { x.fr i with used := true }) hi hf (.inl ⟨hf, rfl⟩) (H' := H) (fun _ _ => rfl) (h.held i hi hf) (h.clean i hi hf)).1
theorem Inv.put (h : Inv x d H) (hno : 0 ≤ no ∧ no < d.L.length) (hp : ∃ m, m < x.L.length ∧ (x.fr m).pins = 0) (l : List UInt8) : (x.put d no l).1 = 0 ∧ Inv (x.put d no l).2.1 (x.put d no l).2.2 (setH H no.toNat l) ∧
    (x.put d no l).2.1.L.length = x.L.length ∧ (x.put d no l).2.2.L.length = d.L.length ∧ (x.put d no l).2.2.n ≤ d.n + 1 ∧ (∀ j, ((x.put d no l).2.1.fr j).pins = (x.fr j).pins) := by
  unfold Cch.put
  rw [if_pos hno]
  have hH : ∀ m, m ≠ no.toNat → setH H no.toNat l m = H m := fun m hm => by unfold setH; rw [if_neg hm]
  have hHn : setH H no.toNat l no.toNat = l := by unfold setH; rw [if_pos rfl]
  rcases he : x.holder no with _ | i
  · obtain ⟨i, y, dy, hr, hI, hi, hz, hl, hdl, hdn, hpins, hk⟩ := h.roomed hp
    have hn := hk no he
    simp only [hr]
    have hz2 : i < (y.hold i no).L.length := by rw [Cch.hold_len]; exact hi
    have e : (((y.hold i no).bytes i l).soil i).use i = y.place i ⟨true, no, l, true, true, 0⟩ := by
      rw [put_place hz2]
      have e1 : y.hold i no = y.place i { y.fr i with full := true, no := no } := rfl
      rw [e1, place_fr hi, if_pos rfl, place_place, hz]
      rfl
    rw [e]
    refine ⟨trivial, (hI.place (f := ⟨true, no, l, true, true, 0⟩) hi rfl (.inr ⟨by rw [hz]; rfl, hn, hno.1, by rw [hdl]; exact hno.2⟩) hH hHn.symm (fun e => by cases e)).1, by rw [place_len]; exact hl, hdl, hdn, fun j => ?_⟩
    rw [place_fr hi]
    split
    · rename_i e2
      subst e2
      rw [← hpins, hz]
      rfl
    · exact hpins j
  · obtain ⟨hi, hf, hn⟩ := holder_lt he
    have hf : (x.fr i).full = true := hf
    have hn : (x.fr i).no = no := hn
    simp only
    rw [put_place hi]
    subst hn
    refine ⟨trivial, (h.place (f := { x.fr i with b := l, dirty := true, used := true }) hi hf (.inl ⟨hf, rfl⟩) hH hHn.symm (fun e => by cases e)).1, place_len .., trivial, Nat.le_succ _, fun j => ?_⟩
    rw [place_fr hi]
    split
    · rename_i e2; subst e2; rfl
    · rfl
end
end Go.Proofs.YtnmokkkbghlpbaaGreat
/-
  Kid of package node, by contract.
-/
namespace Go.Proofs.YtnmokkkbghlpbaaGreat
open Go.RowKit
set_option maxRecDepth 100000 in
set_option maxHeartbeats 1000000 in
theorem kid_any {n : Nd} {K V D : Value} {w : World} {B C : Nat} {v : Value} {key : List UInt8} (hr : NdIs w B K V D n) (hB : B ≤ w.heap.size) (hv : Rd w C v (cellsB key)) (hC : C ≤ w.heap.size) (hs : n.keys.length ≤ 1000000) :
    Calls Tryz.prog 60 #[ndVal n.leaf K V D, v] w fun e w' => e = .returned (.int .i64 (uptoN n.keys key n.keys.length : Nat)) ∧ Below w.heap.size w w' := by
  obtain ⟨A1, c1, A2, c2, A3, c3, rfl, rfl, rfl⟩ := hr.form
  have hcells := fun (b o : Nat) (he : A1 = some ⟨b, o, none⟩) k (hk : k < n.keys.length) => (show RdAll w B (.slice (some ⟨b, o, none⟩) n.keys.length c1) n.keys by rw [← he]; exact hr.keys).later hB hk
  have haddr := fun (h : 0 < n.keys.length) => hr.keys.addr h
  have hkey := fun (W : World) (hW : Below w.heap.size w W) => hv.below (hW.mono hC)
  have hle := fun k => uptoN_le n.keys key k
  obtain ⟨lf, hlf⟩ : ∃ x, x = n.leaf := ⟨_, rfl⟩
  obtain ⟨a, ha⟩ : ∃ x, x = n.keys.length := ⟨_, rfl⟩
  rw [← ha] at hs hcells haddr ⊢
  rw [← hlf]
  have hb0 : Below w.heap.size w (w.alloc (.cells #[.bool lf, .slice A1 a c1, .slice A2 n.vals.length c2, .slice A3 n.kids.length c3] 126)) := (Below.refl _ _).alloc (Nat.le_refl _) _
  have hbox := NdBox.made w lf (.slice A1 a c1) (.slice A2 n.vals.length c2) (.slice A3 n.kids.length c3)
  have HC := Lib.hid hcells
  have HA := Lib.hid haddr
  have HK := Lib.hid hkey
  have HL := Lib.hid hle
  have H0 := Lib.hid hb0
  obtain ⟨x0, x1, x2, x3⟩ := hbox
  clear hr hB hv hC hcells haddr hkey hle hb0 hlf ha
  go_enter Tryz.func60, Tryz.ntmps60
  go_wp2_with fail
  clear x0 x1 x2 x3
  go_loopw [5, 11] (fun bv iv wr => ∃ k : Nat, k ≤ a ∧ iv = .int .i64 (k : Int) ∧ bv = .int .i64 (uptoN n.keys key k : Nat) ∧ Hid (Below w.heap.size w wr)) (fun _ iv _ => a - (intOf iv).toNat)
  case atStart => exact ⟨0, Nat.zero_le _, rfl, rfl, H0⟩
  case round =>
    obtain ⟨k, hk, rfl, rfl, HI⟩ := hrel
    by_cases hlt : k < a
    · obtain ⟨bk, ok, rfl, _⟩ := HA.out (by omega)
      obtain ⟨A', m, c', hm, hmc, hmx, hcl⟩ := HC.out bk ok rfl k hlt
      have hck := (hcl wr HI.out).1
      have hcmp := bcmp_any (hcl wr HI.out).2.1 (HK.out wr HI.out)
      have hb := HL.out k
      have hst : uptoN n.keys key (k + 1) = uptoN n.keys key k + (if cmpB (n.keys.getD k []) key ≤ 0 then 1 else 0) := rfl
      obtain ⟨x, hx⟩ : ∃ x, x = cmpB (n.keys.getD k []) key := ⟨_, rfl⟩
      rw [← hx] at hcmp hst
      obtain ⟨p, hp⟩ : ∃ x, x = uptoN n.keys key k := ⟨_, rfl⟩
      rw [← hp] at hb hst ⊢
      have HCm := Lib.hid hcmp
      have Hst := Lib.hid hst
      clear hm hcl hcmp hst hx hp
      by_cases h1 : x ≤ 0
      · go_wp2_with (go_at_call 88; refine HCm.out.mono ?_; rintro e w3 ⟨rfl, rfl⟩)
        go_roundw
        case rel =>
          refine ⟨k + 1, by omega, by go_num, ?_, HI⟩
          rw [Hst.out, if_pos h1]; go_num
        case measure => simp [intOf]; omega
      · have h2 : 0 < x := by omega
        go_wp2_with (go_at_call 88; refine HCm.out.mono ?_; rintro e w3 ⟨rfl, rfl⟩)
        go_roundw
        case rel =>
          refine ⟨k + 1, by omega, by go_num, ?_, HI⟩
          rw [Hst.out, if_neg (by omega)]; rfl
        case measure => simp [intOf]; omega
    · have h5 : a ≤ k := by omega
      have hk2 : k = a := by omega
      have Hk := Lib.hid hk2
      clear hlt hk2
      go_wp2_with fail
      go_ret
      exact ⟨by rw [Hk.out]; rfl, HI.out⟩
end Go.Proofs.YtnmokkkbghlpbaaGreat
/-
  Get: the way down to a leaf.
-/
namespace Go.Proofs.YtnmokkkbghlpbaaGreat
open Go.RowKit
/-- A cache over a device that does not fail, nothing pinned: it tells H. -/
structure Calm (x : Cch) (d : Dev) (H : Nat → List UInt8) : Prop where
  inv : Inv x d H
  pins : ∀ j, (x.fr j).pins = 0
  len : 0 < x.L.length
section
variable {x : Cch} {d : Dev} {H : Nat → List UInt8} {no : Int}
theorem Calm.some (h : Calm x d H) : ∃ m, m < x.L.length ∧ (x.fr m).pins = 0 := ⟨0, h.len, h.pins 0⟩
theorem Calm.get (h : Calm x d H) (hno : 0 ≤ no ∧ no < d.L.length) : (x.get d no).2.1 = 0 ∧ (x.get d no).1 = H no.toNat ∧ Calm (x.get d no).2.2.1 (x.get d no).2.2.2 H ∧ (x.get d no).2.2.2.L.length = d.L.length ∧ (x.get d no).2.2.2.n ≤ d.n + 1 := by
  obtain ⟨a1, a2, a3⟩ := h.inv.get hno h.some
  obtain ⟨b1, b2, b3, b4, b5, b6, b7, b8, b9⟩ := h.inv.ok.get no
  exact ⟨a1, a2, ⟨a3, fun j => (b3 j).trans (h.pins j), by rw [b2]; exact h.len⟩, b6, b7⟩
theorem Calm.put (h : Calm x d H) (hno : 0 ≤ no ∧ no < d.L.length) (l : List UInt8) : (x.put d no l).1 = 0 ∧ Calm (x.put d no l).2.1 (x.put d no l).2.2 (setH H no.toNat l) ∧ (x.put d no l).2.2.L.length = d.L.length ∧ (x.put d no l).2.2.n ≤ d.n + 1 := by
  obtain ⟨a1, a2, a3, a4, a5, a6⟩ := h.inv.put hno h.some l
  exact ⟨a1, ⟨a2, fun j => (a6 j).trans (h.pins j), by rw [a3]; exact h.len⟩, a4, a5⟩
end
/-- In page no there is the node n, at that height. -/
structure PageIs (H : Nat → List UInt8) (sec gen no hgt : Nat) (n : Nd) : Prop where
  no1 : no ≤ 1599
  no2 : no < sec
  bytes : ∃ g, g ≤ gen ∧ H no = pgBytes (kindOf n.leaf) no g n.bytes
  fit : n.Fit
  leaf : n.leaf = decide (hgt = 1)
/-- The kid below which a key lies. -/
def Nd.kidOf (n : Nd) (key : List UInt8) : Int := n.kids.getD (uptoN n.keys key n.keys.length) 0
/-- The way down to the leaf of a key. -/
def Way (H : Nat → List UInt8) (sec gen : Nat) (key : List UInt8) (n : Nd) : Nat → Nat → Prop
  | 0, _ => False
  | 1, no => PageIs H sec gen no 1 n
  | h + 2, no => ∃ m, PageIs H sec gen no (h + 2) m ∧ Way H sec gen key n (h + 1) (m.kidOf key).toNat
section
variable {w w' : World} {N N' : Nat → Prop} {c bf p s t : Nat} {x x' : Cch} {d d' : Dev} {sp sp' : Spc} {gen root height : Nat} {a b : Nat} {H : Nat → List UInt8}
/-- A page read, where nothing fails. -/
theorem trRead_calm (h : TS w N c bf p s t x d sp gen root height) (hN : ∀ k, w.heap.size ≤ k → N k) (hd : d.n < 999999) (hc : Calm x d H) (hg2 : gen < 18446744073709551616) {no hgt : Nat} {n : Nd} (hp : PageIs H d.L.length gen no hgt n) :
    Calls Tryz.prog 59 #[at0 t, .int .i64 (no : Int), .int .i64 (hgt : Int)] w fun e w' => ∃ K V D m x' d', e = .returned (.tuple #[ndVal n.leaf K V D, .int .i64 0]) ∧ w.heap.size ≤ m ∧ m ≤ w'.heap.size ∧ NdNew w' m K V D n ∧
      TS w' (Nout N m w'.heap.size) c bf p s t x' d' sp gen root height ∧ Only (Foot N c bf) w w' ∧ Calm x' d' H ∧ d'.L.length = d.L.length ∧ d'.n ≤ d.n + 1 := by
  obtain ⟨g, hg, hb⟩ := hp.bytes
  have hno : (0 : Int) ≤ (no : Int) ∧ (no : Int) < (d.L.length : Int) := by have := hp.no2; omega
  obtain ⟨a1, a2, a3, a4, a5⟩ := hc.get hno
  rw [Int.toNat_natCast] at a2
  refine (trRead_ok h hN hd hp.no1 (a2.trans hb) a1 hp.fit hp.leaf hg hg2).mono ?_
  rintro e w' ⟨K, V, D, m, rfl, h1, h2, h3, h4, h5⟩
  exact ⟨K, V, D, m, _, _, rfl, h1, h2, h3, h4, h5, a3, a4, a5⟩
end
end Go.Proofs.YtnmokkkbghlpbaaGreat
/-
  Get, by contract.
-/
namespace Go.Proofs.YtnmokkkbghlpbaaGreat
open Go.RowKit
section
variable {w w' : World} {N N' : Nat → Prop} {c bf p s t : Nat} {x x' : Cch} {d d' : Dev} {sp sp' : Spc} {gen root height : Nat} {a b : Nat} {H : Nat → List UInt8}
/-- A slice's block is none of F. -/
def OutOf (F : Nat → Prop) (v : Value) : Prop := ∀ g o n cc, v = .slice (some ⟨g, o, none⟩) n cc → ¬ F g
theorem Rd.out {F : Nat → Prop} {v : Value} {xs : List Value} (h : Rd w w.heap.size v xs) (ho : Only F w w') (hv : OutOf F v) : Rd w' w'.heap.size v xs := by
  obtain ⟨A, cc, rfl, h1⟩ := id h
  exact (h.only ho (Nat.le_refl _) fun g o e => hv g o _ cc (by rw [e])).more ho.size
/-- What Get tells of a way's leaf. -/
def gotOf (height : Nat) (n : Nd) (key : List UInt8) : Option (List UInt8) := if height = 0 then none else if isN n.keys key = true then some (n.vals.getD (atN n.keys key) []) else none
/-- All that stays so while a tree is read. -/
structure Reads (w w' : World) (N N' : Nat → Prop) (c bf p s t : Nat) (d : Dev) (x' : Cch) (d' : Dev) (sp : Spc) (gen root height : Nat) (H : Nat → List UInt8) (k : Nat) : Prop where
  ts : TS w' N' c bf p s t x' d' sp gen root height
  less : ∀ k, N' k → N k
  fresh : ∀ k, w'.heap.size ≤ k → N' k
  calm : Calm x' d' H
  len : d'.L.length = d.L.length
  n : d'.n ≤ d.n + k
  only : Only (Foot N c bf) w w'
theorem Reads.start (h : TS w N c bf p s t x d sp gen root height) (hN : ∀ k, w.heap.size ≤ k → N k) (hc : Calm x d H) : Reads w w N N c bf p s t d x d sp gen root height H 0 :=
  ⟨h, fun _ h => h, hN, hc, rfl, Nat.le_refl _, Only.refl _ _⟩
/-- A page read on the way. -/
theorem Reads.read {k : Nat} (h : Reads w w' N N' c bf p s t d x' d' sp gen root height H k) (hd : d.n + k < 999999) (hg2 : gen < 18446744073709551616) {no hgt : Nat} {n : Nd} (hp : PageIs H d.L.length gen no hgt n) :
    Calls Tryz.prog 59 #[at0 t, .int .i64 (no : Int), .int .i64 (hgt : Int)] w' fun e w2 => ∃ K V D m x2 d2 N2, e = .returned (.tuple #[ndVal n.leaf K V D, .int .i64 0]) ∧ w'.heap.size ≤ m ∧ m ≤ w2.heap.size ∧ NdNew w2 m K V D n ∧ (∀ j, m ≤ j → j < w2.heap.size → ¬ N2 j) ∧
      Reads w w2 N N2 c bf p s t d x2 d2 sp gen root height H (k + 1) := by
  have hn := h.n
  refine (trRead_calm h.ts h.fresh (by omega) h.calm hg2 (by rw [h.len]; exact hp)).mono ?_
  rintro e w2 ⟨K, V, D, m, x2, d2, rfl, h1, h2, h3, h4, h5, h6, h7, h8⟩
  exact ⟨K, V, D, m, x2, d2, _, rfl, h1, h2, h3, fun j a b e => e.2 ⟨a, b⟩, ⟨h4, fun j e => h.less j e.1, fun j hj => ⟨h.fresh j (Nat.le_trans h5.size hj), by omega⟩, h6, h7.trans h.len, by omega, h.only.trans (h5.mono fun j _ e => e.elim (fun e => .inl (h.less j e)) .inr)⟩⟩
/-- Own blocks more. -/
theorem Reads.own {k : Nat} {w2 : World} (h : Reads w w' N N' c bf p s t d x' d' sp gen root height H k) (hb : Below w'.heap.size w' w2) : Reads w w2 N (Nout N' w'.heap.size w2.heap.size) c bf p s t d x' d' sp gen root height H k :=
  ⟨h.ts.own hb, fun j e => h.less j e.1, fun j hj => ⟨h.fresh j (Nat.le_trans hb.size hj), by omega⟩, h.calm, h.len, h.n, h.only.trans (Only.of_below hb)⟩
/-- What Get leaves. -/
def GetOut (w : World) (N : Nat → Prop) (c bf p s t : Nat) (d : Dev) (sp : Spc) (gen root height : Nat) (H : Nat → List UInt8) (R : Option (List UInt8)) (e : Ending) (w' : World) : Prop :=
  ∃ v x' d' N', e = .returned (.tuple #[v, .bool R.isSome, .int .i64 0]) ∧ Rd w' w'.heap.size v (cellsB (R.getD [])) ∧ Reads w w' N N' c bf p s t d x' d' sp gen root height H 12
set_option maxRecDepth 100000 in
set_option maxHeartbeats 1600000 in
theorem trGet_any (h : TS w N c bf p s t x d sp gen root height) (hN : ∀ k, w.heap.size ≤ k → N k) (hd : d.n + 12 < 999999) (hc : Calm x d H) (hg2 : gen < 18446744073709551616) (hh : height ≤ 12) {kv : Value} {key : List UInt8} (hk : Rd w w.heap.size kv (cellsB key)) (hkv : OutOf (Foot N c bf) kv)
    {n : Nd} (hway : height ≠ 0 → Way H d.L.length gen key n height root) :
    Calls Tryz.prog 27 #[at0 t, kv] w fun e w' => GetOut w N c bf p s t d sp gen root height H (gotOf height n key) e w' := by
  have t3 := h.tr.c3
  have t4 := h.tr.c4
  have HS := Lib.hid (Reads.start h hN hc)
  obtain ⟨B1, l1, d1, ekv⟩ : ∃ B1 l1 d1, kv = .slice B1 l1 d1 := by obtain ⟨A, c, e, _⟩ := hk.bytes; exact ⟨A, _, c, e⟩
  have HK := Lib.hid hk
  have HKV := Lib.hid hkv
  have HWay := Lib.hid hway
  have HD := Lib.hid hd
  have HG := Lib.hid hg2
  have HE := Lib.hid ekv
  rw [ekv]
  obtain ⟨R, hR⟩ : ∃ y, y = gotOf height n key := ⟨_, rfl⟩
  rw [← hR]
  have HR := Lib.hid hR
  clear h hN hc hk hkv hway hd hg2 ekv hR
  go_enter Tryz.func27, Tryz.ntmps27
  go_wp2_with fail
  go_loopw [7, 8] (fun nv hv wr => ∃ (no hg : Nat) (N' : Nat → Prop) (x' : Cch) (d' : Dev), nv = .int .i64 (no : Int) ∧ hv = .int .i64 (hg : Int) ∧ hg ≤ height ∧ Hid (Reads w wr N N' c bf p s t d x' d' sp gen root height H (height - hg)) ∧ Hid ((hg ≠ 0 → height ≠ 0 ∧ Way H d.L.length gen key n hg no) ∧ (hg = 0 → R = none))) (fun _ hv _ => (intOf hv).toNat)
  case atStart => exact ⟨root, height, N, x, d, rfl, rfl, Nat.le_refl _, Lib.hid (by rw [Nat.sub_self]; exact HS.out), Lib.hid ⟨fun e => ⟨e, HWay.out e⟩, fun e => by rw [HR.out]; unfold gotOf; rw [if_pos e]⟩⟩
  case round =>
    obtain ⟨no, hg, N', x', d', rfl, rfl, hle, HRd, HWy⟩ := hrel
    by_cases hz : hg = 0
    · subst hz
      go_wp2_with fail
      go_ret3
      have hr := HWy.out.2 trivial
      rw [hr]
      have hrd := HRd.out
      unfold GetOut
      exact ⟨_, x', d', N', rfl, Rd.nil _ _, ⟨hrd.ts, hrd.less, hrd.fresh, hrd.calm, hrd.len, by have := hrd.n; omega, hrd.only⟩⟩
    · have hpos : (hg : Int) > 0 := by omega
      obtain ⟨hh0, hW⟩ := HWy.out.1 hz
      obtain ⟨k, rfl⟩ : ∃ k, hg = k + 1 := ⟨hg - 1, by omega⟩
      by_cases hk0 : k = 0
      · subst hk0
        have hp : PageIs H d.L.length gen no 1 n := hW
        have hnl : n.leaf = true := by rw [hp.leaf]; rfl
        have hread := HRd.out.read (by have := HD.out; omega) HG.out hp
        rw [hnl] at hread
        have HRead := Lib.hid hread
        have HP := Lib.hid hp
        have HNL := Lib.hid hnl
        clear hread hp hnl hW HWy hz
        go_wp2_with fail
        refine HRead.out.mono ?_
        rintro e w2 ⟨K, V, D, m, x2, d2, N2, rfl, hm1, hm2, hnew, hnone, hrd⟩
        obtain ⟨A1, n1, c1, A2, n2, c2, A3, n3, c3, rfl, rfl, rfl⟩ := hnew.is.slices
        obtain ⟨w3, hw3⟩ : ∃ y, y = w2.alloc (.cells #[.bool true, .slice A1 n1 c1, .slice A2 n2 c2, .slice A3 n3 c3] 126) := ⟨_, rfl⟩
        have hb3 : Below w2.heap.size w2 w3 := by rw [hw3]; exact up_alloc (Below.refl _ _) _
        have hx : NdBox w3 w2.heap.size true (.slice A1 n1 c1) (.slice A2 n2 c2) (.slice A3 n3 c3) := by rw [hw3]; exact NdBox.made w2 true _ _ _
        have hn3 := hnew.kept hb3
        have hkv3 : Rd w3 w3.heap.size (.slice B1 l1 d1) (cellsB key) := by
          have := (HK.out.out hrd.only HKV.out).below hb3
          rw [HE.out] at this
          exact this.more hb3.size
        have hfind := find_any hn3.is (Nat.le_refl _) hkv3 (Nat.le_refl _) (by have := HP.out.fit.few; omega)
        rw [HNL.out] at hfind
        obtain ⟨i, hi⟩ : ∃ y, y = belowN n.keys key n.keys.length := ⟨_, rfl⟩
        obtain ⟨ok, hok⟩ : ∃ y, y = hasN n.keys key n.keys.length := ⟨_, rfl⟩
        rw [← hi, ← hok] at hfind
        have hRd3 := hrd.own hb3
        have HRd3 := Lib.hid hRd3
        have HN3 := Lib.hid hn3
        have HX := Lib.hid hx
        have HI := Lib.hid (And.intro hi hok)
        have HW3 := Lib.hid hw3
        have HF := Lib.hid hfind
        have hgot : R = if ok = true then some (n.vals.getD i []) else none := by
          rw [HR.out]
          unfold gotOf
          rw [if_neg hh0]
          show (if hasN n.keys key n.keys.length = true then _ else _) = _
          rw [← hok]
          show (if ok = true then some (n.vals.getD (belowN n.keys key n.keys.length) []) else none) = _
          rw [← hi]
        have HGo := Lib.hid hgot
        rw [hw3] at HF hx
        obtain ⟨x0, x1, x2', x3⟩ := hx
        clear hnew hrd hnone hm1 hm2 hb3 hn3 hkv3 hfind hi hok hRd3 hw3 hgot
        cases ok
        · go_wp2_with (go_at_call 61; refine HF.out.mono ?_; rintro e w4 ⟨rfl, hb4⟩; rw [← HW3.out] at hb4; have HB4 := Lib.hid hb4; clear hb4)
          go_roundw
          case rel =>
            have hr := HRd3.out.own HB4.out
            exact ⟨no, 0, _, x2, d2, rfl, by go_num, Nat.zero_le _, Lib.hid ⟨hr.ts, hr.less, hr.fresh, hr.calm, hr.len, by have := hr.n; omega, hr.only⟩, Lib.hid ⟨fun e => absurd rfl e, fun _ => by rw [HGo.out]; rfl⟩⟩
          case measure => simp [intOf]
        · have hlt : i < n.vals.length := by
            have h1 := HP.out.fit.snd.ofLeaf HNL.out
            have h2 : atN n.keys key < n.keys.length := isN_lt HP.out.fit.snd.keys HI.out.2.symm
            have h3 : i = atN n.keys key := HI.out.1
            omega
          have hv3 := HN3.out.is.vals
          have hl2 : n2 = n.vals.length := hv3.len.1
          obtain ⟨b, o, rfl, _⟩ := hv3.addr (by omega)
          obtain ⟨A', m', c', hc1, hc2, hc3, hc4, hc5⟩ := hv3.cell (k := i) (by omega)
          have hS := fun (V : World) (hV : Below w3.heap.size w3 V) => (show V.cell? ⟨w2.heap.size, 2, none⟩ = some (.slice (some ⟨b, o, none⟩) n2 c2) ∧ V.cell? ⟨b, o + i, none⟩ = some (.slice A' m' c') ∧ Rd V V.heap.size (.slice A' m' c') (cellsB (n.vals.getD i [])) from
            ⟨(HX.out.later HX.out.lt hV).c2, (hV.cell (p := ⟨b, o + i, none⟩) (World.block_lt_of_cell? _ _ hc1)).trans hc1, (hc2.below hV).more hV.size⟩)
          have HS3 := Lib.hid hS
          have hi1 : (i : Int) < (n2 : Int) := by omega
          have hi0 : (0 : Int) ≤ (i : Int) := by omega
          have hti : (i : Int).toNat = i := by omega
          clear hlt hv3 hl2 hc1 hc2 hc3 hc4 hc5 hS
          go_wp2_with (go_at_call 61; refine HF.out.mono ?_; rintro e w4 ⟨rfl, hb4⟩; rw [← HW3.out] at hb4; have HB4 := Lib.hid hb4; obtain ⟨s2, s3, s4⟩ := HS3.out w4 hb4; have S4 := Lib.hid s4; clear hb4 s4)
          go_ret3
          have hr := HRd3.out.own HB4.out
          have hgo := HGo.out
          rw [if_pos trivial] at hgo
          rw [hgo]
          unfold GetOut
          exact ⟨_, x2, d2, _, rfl, S4.out, ⟨hr.ts, hr.less, hr.fresh, hr.calm, hr.len, by have := hr.n; omega, hr.only⟩⟩
      · obtain ⟨k, rfl⟩ : ∃ j, k = j + 1 := ⟨k - 1, by omega⟩
        obtain ⟨q, hp, hW2⟩ := (show ∃ m, PageIs H d.L.length gen no (k + 2) m ∧ Way H d.L.length gen key n (k + 1) (m.kidOf key).toNat from hW)
        have hnl : q.leaf = false := by rw [hp.leaf]; simp
        have hread := HRd.out.read (by have := HD.out; omega) HG.out hp
        rw [hnl] at hread
        have HRead := Lib.hid hread
        have HP := Lib.hid hp
        have HNL := Lib.hid hnl
        have HW2 := Lib.hid hW2
        clear hread hp hnl hW hW2 HWy hz hk0
        go_wp2_with fail
        refine HRead.out.mono ?_
        rintro e w2 ⟨K, V, D, m, x2, d2, N2, rfl, hm1, hm2, hnew, hnone, hrd⟩
        obtain ⟨A1, n1, c1, A2, n2, c2, A3, n3, c3, rfl, rfl, rfl⟩ := hnew.is.slices
        obtain ⟨w3, hw3⟩ : ∃ y, y = w2.alloc (.cells #[.bool false, .slice A1 n1 c1, .slice A2 n2 c2, .slice A3 n3 c3] 126) := ⟨_, rfl⟩
        have hb3 : Below w2.heap.size w2 w3 := by rw [hw3]; exact up_alloc (Below.refl _ _) _
        have hx : NdBox w3 w2.heap.size false (.slice A1 n1 c1) (.slice A2 n2 c2) (.slice A3 n3 c3) := by rw [hw3]; exact NdBox.made w2 false _ _ _
        have hn3 := hnew.kept hb3
        have hkv3 : Rd w3 w3.heap.size (.slice B1 l1 d1) (cellsB key) := by
          have := (HK.out.out hrd.only HKV.out).below hb3
          rw [HE.out] at this
          exact this.more hb3.size
        have hkid := kid_any hn3.is.drew (w := w3.drew) (Nat.le_refl _) hkv3 (Nat.le_refl _) (by have := HP.out.fit.few; omega)
        rw [HNL.out] at hkid
        obtain ⟨i, hi⟩ : ∃ y, y = uptoN q.keys key q.keys.length := ⟨_, rfl⟩
        rw [← hi] at hkid
        have hlt : i < q.kids.length := by
          have h1 := (HP.out.fit.snd.ofNot HNL.out).2.2
          have h2 := uptoN_le q.keys key q.keys.length
          omega
        have hl3 : n3 = q.kids.length := hn3.is.kids.lenI.1
        obtain ⟨b, o, rfl, _, hcell⟩ := hn3.is.kids.atI (k := i) (by omega)
        have hkok := HP.out.fit.snd.kids i hlt
        obtain ⟨kd, hkd⟩ : ∃ y : Nat, (y : Int) = q.kids.getD i 0 := ⟨(q.kids.getD i 0).toNat, by have := hkok.1; omega⟩
        rw [← hkd] at hcell
        have hko : (q.kidOf key).toNat = kd := by
          unfold Nd.kidOf
          rw [← hi, ← hkd]
          rfl
        have hS := fun (X : World) (hX : Below w3.heap.size w3 X) => (show X.cell? ⟨w2.heap.size, 0, none⟩ = some (.bool false) ∧ X.cell? ⟨w2.heap.size, 1, none⟩ = some (.slice A1 n1 c1) ∧ X.cell? ⟨w2.heap.size, 2, none⟩ = some (.slice A2 n2 c2) ∧ X.cell? ⟨w2.heap.size, 3, none⟩ = some (.slice (some ⟨b, o, none⟩) n3 c3) ∧ X.cell? ⟨b, o + i, none⟩ = some (.int .i64 (kd : Int)) from by
          have hy := hx.later hx.lt hX
          exact ⟨hy.c0, hy.c1, hy.c2, hy.c3, (hX.cell (p := ⟨b, o + i, none⟩) (World.block_lt_of_cell? _ _ hcell)).trans hcell⟩)
        have HS3 := Lib.hid hS
        have Sd := Lib.hid (hS w3.drew (Below.refl _ _).drew)
        have HRd3 := Lib.hid (hrd.own hb3)
        have HKid := Lib.hid hkid
        have HW3 := Lib.hid hw3
        have HKo := Lib.hid hko
        have hi1 : (i : Int) < (n3 : Int) := by omega
        have hi0 : (0 : Int) ≤ (i : Int) := by omega
        have hti : (i : Int).toNat = i := by omega
        rw [hw3] at hx
        obtain ⟨x0, _, _, _⟩ := hx
        clear hnew hrd hnone hm1 hm2 hb3 hn3 hkv3 hkid hi hlt hl3 hcell hkok hkd hko hS hw3
        go_wp2_with fail
        rw [← HW3.out]
        go_region_held3 (fun X => X.cell? ⟨w2.heap.size, 0, none⟩ = some (.bool false) ∧ X.cell? ⟨w2.heap.size, 1, none⟩ = some (.slice A1 n1 c1) ∧ X.cell? ⟨w2.heap.size, 2, none⟩ = some (.slice A2 n2 c2) ∧ X.cell? ⟨w2.heap.size, 3, none⟩ = some (.slice (some ⟨b, o, none⟩) n3 c3) ∧ X.cell? ⟨b, o + i, none⟩ = some (.int .i64 (kd : Int)))
          (first | with_reducible exact Sd.out | with_reducible exact S4.out)
          (first
            | (go_at_call 60; refine HKid.out.mono ?_; rintro e w4 ⟨rfl, hb4⟩; have HB4 := Lib.hid (((Below.refl w3.heap.size w3).drew : Below w3.heap.size w3 w3.drew).trans hb4); clear hb4; have S4 := Lib.hid (HS3.out w4 HB4.out)))
        go_wp2_with fail
        go_roundw
        case rel =>
          have hr := HRd3.out.own HB4.out
          refine ⟨kd, k + 1, _, x2, d2, rfl, by go_num, by omega, Lib.hid ⟨hr.ts, hr.less, hr.fresh, hr.calm, hr.len, by have := hr.n; omega, hr.only⟩, Lib.hid ⟨fun _ => ⟨hh0, by rw [← HKo.out]; exact HW2.out⟩, fun e => by omega⟩⟩
        case measure => simp [intOf]; omega
end
end Go.Proofs.YtnmokkkbghlpbaaGreat
/-
  Put into a tree without pages.
-/
namespace Go.Proofs.YtnmokkkbghlpbaaGreat
open Go.RowKit
section
variable {w w' : World} {N N' : Nat → Prop} {c bf p s t : Nat} {x x' : Cch} {d d' : Dev} {sp sp' : Spc} {gen root height : Nat} {a b : Nat} {H : Nat → List UInt8}
set_option maxRecDepth 100000 in
set_option maxHeartbeats 1600000 in
theorem trPut0 (h : TS w N c bf p s t x d sp gen 0 0) (hN : ∀ k, w.heap.size ≤ k → N k) (hd : d.n < 999999) {m : Nat} (hm : LeastNot sp.held m) (hm0 : m ≠ 0) (hmn : m < sp.n) (hm2 : m ≤ 1599) (hg2 : gen < 18446744073709551616) (hroom : 3 ≤ _root_.Go.Proofs.YtnmokkkbghlpbaaGreat.free sp.held sp.n)
    {kv vv : Value} {key val : List UInt8} (hk : Rd w w.heap.size kv (cellsB key)) (hv : Rd w w.heap.size vv (cellsB val)) (hko : KeyOk key) (hvo : val.length ≤ 24)
    (hput : (x.put d (m : Int) (pgBytes 1 m gen (⟨true, [key], [val], []⟩ : Nd).bytes)).1 = 0) :
    Calls Tryz.prog 23 #[at0 t, kv, vv] w fun e w' => e = .returned (.int .i64 0) ∧
      TS w' N c bf p s t (x.put d (m : Int) (pgBytes 1 m gen (⟨true, [key], [val], []⟩ : Nd).bytes)).2.1 (x.put d (m : Int) (pgBytes 1 m gen (⟨true, [key], [val], []⟩ : Nd).bytes)).2.2 (sp.put m true) gen m 1 ∧ Only (fun k => FootS N c bf s k ∨ k = t) w w' := by
  have hmf : ∀ (fn : Fn) (first cap : Array Value) (w : World), (Instr.makeFunc fn first cap).run Tryz.prog w = .ok (.func fn first cap) w := fun _ _ _ _ => rfl
  obtain ⟨B1, l1, d1, ekv⟩ : ∃ B1 l1 d1, kv = .slice B1 l1 d1 := by obtain ⟨A, c, e, _⟩ := hk.bytes; exact ⟨A, _, c, e⟩
  obtain ⟨B2, l2, d2', evv⟩ : ∃ B2 l2 d2, vv = .slice B2 l2 d2 := by obtain ⟨A, c, e, _⟩ := hv.bytes; exact ⟨A, _, c, e⟩
  subst ekv evv
  obtain ⟨W, hW⟩ : ∃ y, y = (w.alloc (.cells #[.slice B1 l1 d1] 31)).alloc (.cells #[.slice B2 l2 d2'] 31) := ⟨_, rfl⟩
  have hb : Below w.heap.size w W := by rw [hW]; exact up_alloc (up_alloc (Below.refl _ _) _) _
  have hsz : W.heap.size = w.heap.size + 2 := by rw [hW]; simp
  have k0 : W.heap[w.heap.size]? = some (.cells #[.slice B1 l1 d1] 31 (0, 0)) := by rw [hW]; exact (heap_alloc_old _ _ (by simp)).trans (heap_alloc_last _ _)
  have v0 : W.heap[w.heap.size + 1]? = some (.cells #[.slice B2 l2 d2'] 31 (0, 0)) := by
    have := heap_alloc_last (w.alloc (.cells #[.slice B1 l1 d1] 31)) (.cells #[.slice B2 l2 d2'] 31)
    rw [hW]
    simpa using this
  have hmb := trMayBe_any ((hk.below hb).more hb.size) ((hv.below hb).more hb.size)
  rw [sndB_iff.2 (one_snd hko hvo)] at hmb
  obtain ⟨l, hl⟩ : ∃ y, y = pgBytes 1 m gen (⟨true, [key], [val], []⟩ : Nd).bytes := ⟨_, rfl⟩
  have hroomC := fun (V : World) (hV : Below w.heap.size w V) => trRoom_any (h.own (b := V.heap.size) hV) (by omega)
  have hch := fun (V : World) (hV : Below W.heap.size W V) => trChange0 (h.own (b := V.heap.size) (up hb hV)) (fun k hk => ⟨hN k (Nat.le_trans (up hb hV).size hk), by omega⟩) hd hm hm0 hmn hm2 hg2 hroom
    ((cell_of_block (p := ⟨w.heap.size, 0, none⟩) (hV.block w.heap.size (by omega))).trans (one_cell k0).1) ((cell_of_block (p := ⟨w.heap.size + 1, 0, none⟩) (hV.block (w.heap.size + 1) (by omega))).trans (one_cell v0).1) ((hk.below (up hb hV)).more (up hb hV).size) ((hv.below (up hb hV)).more (up hb hV).size) hko hvo hput
  rw [decide_eq_true (show 2 * 0 + 3 ≤ _root_.Go.Proofs.YtnmokkkbghlpbaaGreat.free sp.held sp.n from hroom)] at hroomC
  rw [← hl] at hch ⊢
  obtain ⟨x2, hx2⟩ : ∃ y, y = (x.put d (m : Int) l).2.1 := ⟨_, rfl⟩
  obtain ⟨d2, hd2⟩ : ∃ y, y = (x.put d (m : Int) l).2.2 := ⟨_, rfl⟩
  rw [← hx2, ← hd2] at hch ⊢
  have hx0 := (one_cell k0).1
  have hx1 := (one_cell v0).1
  have HMb := Lib.hid hmb
  have HRo := Lib.hid hroomC
  have HCh := Lib.hid hch
  have HB := Lib.hid hb
  have H := Lib.hid h
  have HC := Lib.hid (And.intro k0 (And.intro v0 hsz))
  have HW := Lib.hid hW
  rw [hW] at HMb hx0 hx1
  clear h hN hd hm hm0 hmn hm2 hg2 hroom hk hv hko hvo hput hb hsz k0 v0 hmb hl hroomC hch hx2 hd2 hW
  go_enter Tryz.func23, Tryz.ntmps23
  go_wp2_with fail
  refine HMb.out.mono ?_
  rintro e w2 ⟨rfl, hb2⟩
  rw [← HW.out] at hb2
  have HR2 := Lib.hid (HRo.out w2 (up HB.out hb2))
  have HB2 := Lib.hid hb2
  clear hb2
  go_wp2_with fail
  refine HR2.out.mono ?_
  rintro e w3 ⟨rfl, hb3⟩
  have hb23 := up HB2.out hb3
  have c0 := (cell_of_block (p := ⟨w.heap.size, 0, none⟩) (hb23.block w.heap.size (by rw [HC.out.2.2]; omega))).trans (one_cell HC.out.1).1
  have HC3 := Lib.hid (HCh.out w3 hb23)
  have HB3 := Lib.hid hb23
  clear hb3 hb23
  go_wp2_with fail
  refine HC3.out.mono ?_
  rintro e w4 ⟨rfl, h4, ho4⟩
  have hfin : TS w4 N c bf p s t x2 d2 (sp.put m true) gen m 1 ∧ Only (fun k => FootS N c bf s k ∨ k = t) w w4 :=
    ⟨h4.sets (fun k _ hk => hk.1) H.out.nots, (Only.of_below (up HB.out HB3.out)).trans (ho4.mono fun k _ e => e.elim (fun e => .inl (e.elim (fun e => .inl (Foot.less e)) .inr)) .inr)⟩
  have HF := Lib.hid hfin
  clear h4 ho4 hfin
  go_wp2_with fail
  go_ret
  exact ⟨rfl, HF.out⟩
end
end Go.Proofs.YtnmokkkbghlpbaaGreat
/-
  An empty tree over a device: how the laws begin.
-/
namespace Go.Proofs.YtnmokkkbghlpbaaGreat
open Go.RowKit
/-- What is there at a law's begin: the stand at st, all of it above b, the blocks of N the device's. -/
structure Begun (w' : World) (b st : Nat) (N : Nat → Prop) (c bf p s t : Nat) (n : Nat) : Prop where
  ts : TS w' N c bf p s t (Cch.new 8) (Dev.new n) (Spc.new n 2) 1 0 0
  top : w'.heap[st]? = some (.cells #[at0 p, at0 c, spAt s, at0 t, .int .i64 0, .int .i64 0] 45 (0, 0))
  fresh : ∀ k, w'.heap.size ≤ k → N k
  low : ∀ k, N k → b ≤ k
  lows : b ≤ c ∧ b ≤ bf ∧ b ≤ p ∧ b ≤ s ∧ b ≤ t ∧ b ≤ st
  apart : ¬ FootS N c bf s st ∧ st ≠ t
def BeginOut (w : World) (n : Nat) (e : Ending) (w' : World) : Prop := ∃ st N c bf p s t, e = .returned (.tuple #[at0 st, .bool true]) ∧ Begun w' w.heap.size st N c bf p s t n ∧ Below w.heap.size w w'
set_option maxRecDepth 100000 in
set_option maxHeartbeats 1600000 in
theorem trBegin_ok (w : World) {n : Nat} (hn : 16 ≤ n ∧ n ≤ 1600) :
    Calls Tryz.prog 9 #[.int .i64 (n : Int)] w fun e w' => BeginOut w n e w' := by
  have hd := new_ok (n := n) w (fun k => w.heap.size ≤ k) hn (fun k hk => hk)
  have HD := Lib.hid hd
  have Hn := Lib.hid hn
  clear hd hn
  go_enter Tryz.func9, Tryz.ntmps9
  go_wp2_with fail
  refine HD.out.mono ?_
  rintro e w1 ⟨rfl, hd1, hb1⟩
  have hc := cnew_ok (n := 8) (w.heap.size + 2) w1 (by omega)
  have HC := Lib.hid hc
  have HD1 := Lib.hid (And.intro hd1 hb1)
  clear hc hd1 hb1
  go_wp2_with fail
  refine HC.out.mono ?_
  rintro e w2 ⟨rfl, hc2, hb2⟩
  have hs := spNew_ok (w := w2) n 2 (by have := Hn.out; omega) (by have := Hn.out; omega) (by have := Hn.out; omega)
  have HS := Lib.hid hs
  have HC2 := Lib.hid (And.intro hc2 hb2)
  clear hs hc2 hb2
  go_wp2_with fail
  refine HS.out.mono ?_
  rintro e w3 ⟨a, rfl, ha, hs3, hb3⟩
  obtain ⟨hd1, hb1⟩ := HD1.out
  obtain ⟨hc2, hb2⟩ := HC2.out
  have hd3 := (hd1.below hb2).below hb3
  have hc3 := hc2.below hb3
  have hL : (Dev.new n).L.length = n := List.length_replicate
  have hc8 := hd3.c8
  rw [hL] at hc8
  have hnew := trNew_ok (w := w3) a 1 (root := 0) (height := 0) hc3.k2 hc8 (by omega) (by have := Hn.out; omega) (by simp)
  obtain ⟨p, hp⟩ : ∃ y, y = w.heap.size + 2 := ⟨_, rfl⟩
  obtain ⟨c, hc⟩ : ∃ y, y = w1.heap.size + 1 := ⟨_, rfl⟩
  have hpl : p < w1.heap.size := by rw [hp]; exact hd1.lt.1
  have HNew := Lib.hid hnew
  have hfin : ∀ W, W = (w3.alloc (.cells (trCells (w1.heap.size + 1) a 1 0 0) 99)).alloc (.cells #[at0 (w.heap.size + 2), at0 (w1.heap.size + 1), spAt a, at0 w3.heap.size, .int .i64 0, .int .i64 0] 45) → BeginOut w n (.returned (.tuple #[at0 (w3.heap.size + 1), .bool true])) W := by
    intro W hW
    have hsl := hs3.lt
    have s1 := hb1.size
    have s2 := hb2.size
    have s3 := hb3.size
    have c1 := hc2.lt
    have hbW : Below w3.heap.size w3 W := by rw [hW]; exact up_alloc (up_alloc (Below.refl _ _) _) _
    have hsW : W.heap.size = w3.heap.size + 2 := by rw [hW]; simp
    have hp1 := hd1.lt.1
    have htop : W.heap[w3.heap.size]? = some (.cells (trCells (w1.heap.size + 1) a 1 0 0) 99 (0, 0)) := by rw [hW]; exact (heap_alloc_old _ _ (by simp)).trans (heap_alloc_last _ _)
    have hst : W.heap[w3.heap.size + 1]? = some (.cells #[at0 (w.heap.size + 2), at0 (w1.heap.size + 1), spAt a, at0 w3.heap.size, .int .i64 0, .int .i64 0] 45 (0, 0)) := by
      have := heap_alloc_last (w3.alloc (.cells (trCells (w1.heap.size + 1) a 1 0 0) 99)) (.cells #[at0 (w.heap.size + 2), at0 (w1.heap.size + 1), spAt a, at0 w3.heap.size, .int .i64 0, .int .i64 0] 45)
      rw [hW]
      simpa using this
    obtain ⟨N, hN⟩ : ∃ y : Nat → Prop, y = fun k => (w.heap.size ≤ k ∧ k < w1.heap.size) ∨ W.heap.size ≤ k := ⟨_, rfl⟩
    have hout : ∀ k, w1.heap.size ≤ k → k < W.heap.size → ¬ N k := fun k h1 h2 e => by rw [hN] at e; rcases e with e | e <;> omega
    have hts : TS W N (w1.heap.size + 1) w1.heap.size (w.heap.size + 2) a w3.heap.size (Cch.new 8) (Dev.new n) (Spc.new n 2) 1 0 0 := by
      have hdN := ((((hd1.mono (F' := N) fun k hk hf => by rw [hN]; exact .inl ⟨hf, hk⟩).below hb2).below hb3).below hbW)
      refine ⟨⟨hc3.below hbW, ⟨_, _, _, _, hdN⟩, ⟨hout _ (by omega) (by omega), hout _ (by omega) (by omega)⟩⟩, hs3.below hbW, ⟨htop⟩, ?_, ?_, by omega, new_ok' 8 _ (by omega)⟩
      · rintro (e | e | e)
        · exact hout a (by omega) (by omega) e
        · omega
        · omega
      · rintro (e | e | e)
        · exact hout _ (by omega) (by omega) e
        · omega
        · omega
    refine ⟨_, N, _, _, _, _, _, rfl, ⟨hts, hst, fun k hk => by rw [hN]; exact .inr hk, fun k e => by rw [hN] at e; rcases e with e | e <;> omega, by omega, ?_, by omega⟩, ((hb1.trans (hb2.mono s1)).trans (hb3.mono (by omega))).trans (hbW.mono (by omega))⟩
    rintro ((e | e | e) | e)
    · exact hout _ (by omega) (by omega) e
    · omega
    · omega
    · omega
  have HF := Lib.hid hfin
  clear hfin hnew hd1 hb1 hc2 hb2 hd3 hc3 hL hc8 hs3 hb3 ha hp hc hpl
  go_wp2_with fail
  refine HNew.out.mono ?_
  rintro e w4 ⟨rfl, rfl⟩
  go_wp2_with fail
  go_ret2
  exact HF.out _ rfl
end Go.Proofs.YtnmokkkbghlpbaaGreat
/-
  What is put is got.
-/
namespace Go.Proofs.YtnmokkkbghlpbaaGreat
open Go.RowKit
theorem calm_new (n : Nat) : Calm (Cch.new 8) (Dev.new n) (fun _ => blank) :=
  ⟨inv_new 8 n (by omega), fun j => by show ((Cch.new 8).L.getD j Frm.zero).pins = 0; rw [new_getD]; rfl, by rw [Cch.new_len]; omega⟩
theorem new_held (n f : Nat) : (Spc.new n f).held = below f := by
  funext j
  show (decide (j < f) || decide (j < f)) = decide (j < f)
  simp
theorem new_least (n f : Nat) : LeastNot (Spc.new n f).held f := by rw [new_held]; exact below_least f
theorem new_free (n f : Nat) : _root_.Go.Proofs.YtnmokkkbghlpbaaGreat.free (Spc.new n f).held (Spc.new n f).n = n - f := by rw [new_held]; exact below_free f n
/-- The leaf of lives. -/
abbrev ndL : Nd := ⟨true, [[97]], [[49]], []⟩
theorem ndL_got : gotOf 1 ndL [97] = some [49] := by
  unfold gotOf
  rw [if_neg (by omega), if_pos (by decide)]
  rfl
theorem rd_a (w : World) : Rd (w.alloc (.cells #[.int .u8 97] 5 (1, 2))) (w.heap.size + 1) (.slice (some ⟨w.heap.size, 0, none⟩) 1 1) (cellsB [97]) := rd_const w 5 (1, 2) [97] (by unfold maxLen; simp)
theorem rd_1 (w : World) : Rd (w.alloc (.cells #[.int .u8 49] 5 (1, 2))) (w.heap.size + 1) (.slice (some ⟨w.heap.size, 0, none⟩) 1 1) (cellsB [49]) := rd_const w 5 (1, 2) [49] (by unfold maxLen; simp)
set_option maxRecDepth 100000 in
set_option maxHeartbeats 1600000 in
theorem trLives (w : World) : Calls Tryz.prog 17 #[] w fun e w' => e = .returned (.bool true) ∧ Below w.heap.size w w' := by
  have HBeg := Lib.hid (trBegin_ok w (n := 40) (by omega))
  have kc := fun (w : World) (C : Array Value) (n c : Nat) => Lib.run_convert_bytes_const (P := Tryz.prog) w 31 5 C n c Tryz.underlying31 Tryz.underlying5
  go_enter Tryz.func17, Tryz.ntmps17
  go_wp2_with fail
  refine HBeg.out.mono ?_
  rintro e w1 ⟨st, N, c, bf, p, s, t, rfl, hB, hb1⟩
  have st3 : w1.cell? ⟨st, 3, none⟩ = some (at0 t) := by rw [cell_of_row w1 st 3 _ _ (0, 0) hB.top]; rfl
  obtain ⟨w2, hw2⟩ : ∃ y, y = (w1.alloc (.cells #[.int .u8 97] 5 (1, 2))).alloc (.cells #[.int .u8 49] 5 (1, 2)) := ⟨_, rfl⟩
  have hb2 : Below w1.heap.size w1 w2 := by rw [hw2]; exact up_alloc (up_alloc (Below.refl _ _) _) _
  have hs2 : w2.heap.size = w1.heap.size + 2 := by rw [hw2]; simp
  have hka : Rd w2 w2.heap.size (.slice (some ⟨w1.heap.size, 0, none⟩) 1 1) (cellsB [97]) := by rw [hw2]; exact ((rd_a w1).alloc (by simp) _).more (by simp)
  have hva : Rd w2 w2.heap.size (.slice (some ⟨w1.heap.size + 1, 0, none⟩) 1 1) (cellsB [49]) := by
    have := rd_1 (w1.alloc (.cells #[.int .u8 97] 5 (1, 2)))
    rw [hw2]
    simpa using this
  obtain ⟨q1, q2, q3, q4⟩ := (calm_new 40).put (no := ((2 : Nat) : Int)) (by rw [show (Dev.new 40).L.length = 40 from List.length_replicate]; omega) (pgBytes 1 2 1 ndL.bytes)
  have hput := trPut0 (hB.ts.own (b := w2.heap.size) hb2) (fun k hk => ⟨hB.fresh k (Nat.le_trans hb2.size hk), by omega⟩) (by show (0 : Nat) < 999999; omega) (new_least 40 2) (by omega) (by show 2 < 40; omega) (by omega) (by omega) (by rw [new_free]; omega) hka hva ⟨by simp, by simp⟩ (by simp) q1
  have kc2 : (convert 31 31 (.slice (some ⟨w1.heap.size + 1, 0, none⟩) 1 1)).run Tryz.prog ((w1.alloc (.cells #[.int .u8 97] 5 (1, 2))).alloc (.cells #[.int .u8 49] 5)) = .ok (.slice (some ⟨w1.heap.size + 1, 0, none⟩) 1 1) ((w1.alloc (.cells #[.int .u8 97] 5 (1, 2))).alloc (.cells #[.int .u8 49] 5 (1, 2))) := by
    have := kc (w1.alloc (.cells #[.int .u8 97] 5 (1, 2))) #[.int .u8 49] 1 1
    simpa using this
  have HP := Lib.hid hput
  have HB := Lib.hid hB
  have HW2 := Lib.hid hw2
  have HB1 := Lib.hid hb1
  have HB2 := Lib.hid hb2
  have HQ := Lib.hid (And.intro q2 (And.intro q3 q4))
  rw [hw2] at HP
  clear hB hb1 hw2 hb2 hs2 hka hva q1 q2 q3 q4 hput
  go_wp2_with fail
  refine HP.out.mono ?_
  rintro e w3 ⟨rfl, h3, ho3⟩
  rw [← HW2.out] at ho3 h3
  have hB := HB.out
  have hb2 := HB2.out
  have lst : st < w1.heap.size := (Array.getElem?_eq_some_iff.1 hB.top).1
  have st3' : w3.cell? ⟨st, 3, none⟩ = some (at0 t) := by
    have hn : ¬ (FootS (Nout N w1.heap.size w2.heap.size) c bf s st ∨ st = t) := fun e => e.elim (fun e => hB.apart.1 (e.elim (fun e => .inl (Foot.less e)) .inr)) hB.apart.2
    exact (cell_of_block (p := ⟨st, 3, none⟩) ((ho3.block st (by have := hb2.size; omega) hn).trans (hb2.block st lst))).trans st3
  obtain ⟨w4, hw4⟩ : ∃ y, y = w3.alloc (.cells #[.int .u8 97] 5 (1, 2)) := ⟨_, rfl⟩
  have hb4 : Below w3.heap.size w3 w4 := by rw [hw4]; exact up_alloc (Below.refl _ _) _
  have hs4 : w4.heap.size = w3.heap.size + 1 := by rw [hw4]; simp
  have hka : Rd w4 w4.heap.size (.slice (some ⟨w3.heap.size, 0, none⟩) 1 1) (cellsB [97]) := by rw [hw4]; exact (rd_a w3).more (by simp)
  obtain ⟨q2, q3, q4⟩ := HQ.out
  rw [show (Dev.new 40).L.length = 40 from List.length_replicate] at q3
  have hlt := h3.lt
  have hs32 := ho3.size
  have hfr : ∀ k, w3.heap.size ≤ k → Nout N w1.heap.size w2.heap.size k := fun k hk => ⟨hB.fresh k (by have := hb2.size; omega), by omega⟩
  have hpg : PageIs (setH (fun _ => blank) ((2 : Nat) : Int).toNat (pgBytes 1 2 1 ndL.bytes)) 40 1 2 1 ndL := ⟨by omega, by omega, ⟨1, Nat.le_refl _, by rw [Int.toNat_natCast]; show (if 2 = 2 then _ else _) = _; rw [if_pos rfl]; rfl⟩, one_fit ⟨by simp, by simp⟩ (by simp), rfl⟩
  have hget := trGet_any (h3.own hb4 (b := w4.heap.size)) (fun k hk => ⟨hfr k (by have := hb4.size; omega), by omega⟩) (Nat.lt_of_le_of_lt (Nat.add_le_add_right q4 12) (by show 0 + 1 + 12 < 999999; omega)) q2 (by omega) (by omega) hka (by
    intro g o n cc e
    injection e with e
    injection e with e
    have hg : w3.heap.size = g := congrArg Addr.block e
    rintro (e | e | e)
    · exact e.2 ⟨by omega, by omega⟩
    · omega
    · omega) (n := ndL) (fun _ => by rw [q3]; exact hpg)
  rw [ndL_got] at hget
  have HGet := Lib.hid hget
  have hlow : Below w.heap.size w w3 := by
    have e1 : Below w.heap.size w w2 := HB1.out.trans (hb2.mono HB1.out.size)
    have e2 : Below w.heap.size w2 w3 := Only.below (ho3.mono fun k _ e => by
      obtain ⟨a1, a2, a3, a4, a5, a6⟩ := hB.lows
      rcases e with ((e | e | e) | e) | e
      · exact hB.low k e.1
      · omega
      · omega
      · omega
      · omega) (by have := HB1.out.size; have := hb2.size; omega)
    exact e1.trans e2
  have HLow := Lib.hid (And.intro hlow hb4)
  have HW4 := Lib.hid hw4
  have HTS := Lib.hid (And.intro hlt hs4)
  rw [hw4] at HGet
  clear h3 ho3 hB hb2 lst hw4 hb4 hs4 hka q2 q3 q4 hlt hs32 hfr hpg hget hlow kc2
  go_wp2_with fail
  refine HGet.out.mono ?_
  rintro e w5 ⟨v, x5, d5, N5, rfl, hv, hrd⟩
  have hstr := run_string_rd (P := Tryz.prog) 31 9 5 Tryz.underlying31 Tryz.underlying5 Tryz.underlying9 hv
  rw [← HW4.out] at hrd
  have HS := Lib.hid hstr
  have hbel : Below w.heap.size w w5 := by
    have hB := HB.out
    have e2 : Below w.heap.size w4 w5 := Only.below (hrd.only.mono fun k _ e => by
      obtain ⟨a1, a2, a3, a4, a5, a6⟩ := hB.lows
      rcases e with e | e | e
      · exact hB.low k e.1.1
      · omega
      · omega) (by have := HLow.out.1.size; have := HLow.out.2.size; omega)
    exact (HLow.out.1.trans (HLow.out.2.mono HLow.out.1.size)).trans e2
  have HBl := Lib.hid hbel
  clear hv hrd hbel
  go_wp2_with fail
  go_ret
  exact ⟨rfl, HBl.out⟩
end Go.Proofs.YtnmokkkbghlpbaaGreat
