/-
  Texts of addresses and prefixes, and back: the law's walk.
-/
import Derived.Test.YtobbjgbojdoigaaDoorAdQ
import Derived.Test.YtobbjgbojdoigaaDoorAdPb
import Derived.Test.YtobbjgbojdoigaaDoorAdPc
namespace Go.Proofs.YtobbjgbojdoigaaDoor
open Go.RowKit
theorem adOf_show {a : Ad} (ha : a.Wide) : adOf a.show = if a.good then some a else none := by
  cases hg : a.good
  · have hs : a.show = [] := by rw [Ad.show, if_neg (by rw [hg]; simp)]
    rw [hs]
    exact adOf_none fun b h => Ad.show_ne h.1 h.2.1 h.2.2
  · exact adOf_some ⟨ha, hg, rfl⟩
theorem pfOf_show {p : Pf} (hp : p.a.Wide) : pfOf p.show = if p.Good then some p else none := by
  by_cases hg : p.Good
  · rw [if_pos hg]
    exact pfOf_some ⟨hp, hg, rfl⟩
  · rw [if_neg hg]
    have hs : p.show = [] := by rw [Pf.show, if_neg hg]
    rw [hs]
    cases h : pfOf [] with
    | none => rfl
    | some q =>
      obtain ⟨_, hq, he⟩ := pfOf_is h
      rw [Pf.show, if_pos hq] at he
      simp at he
theorem empty_is (l : List UInt8) : ((⟨l.toArray⟩ : ByteArray).toList == (⟨#[]⟩ : ByteArray).toList) = l.isEmpty := by
  rw [ByteArray.toList_eq, ByteArray.toList_eq]
  cases l <;> rfl
set_option maxRecDepth 100000 in
set_option maxHeartbeats 2000000 in
theorem addrShows_walk (a : Ad) (p : Pf) (w : World) (ha : a.Wide) (hp : p.a.Wide) (h0 : -9223372036854775808 ≤ p.bits) (h1 : p.bits ≤ 9223372036854775807) (hV : Vars w) :
    Calls Tryd.prog 6 #[adV a, pfV p] w fun e w' => e = .returned (.bool true) ∧ Below w.heap.size w w' := by
  have hz : ∀ w, (zeroValue 36).run Tryd.prog w = .ok (.agg (pfC Pf.zero).toArray) w := zero_pf
  have hza : ∀ w, (zeroValue 24).run Tryd.prog w = .ok (.agg (adC Ad.zero).toArray) w := zero_ad
  obtain ⟨w1, hw1⟩ : ∃ w1, w1 = (w.alloc (.cells (adC a).toArray 24)).alloc (.cells (pfC p).toArray 36) := ⟨_, rfl⟩
  have hA0 : w1.heap[w.heap.size]? = some (.cells (adC a).toArray 24 (0, 0)) := by
    rw [hw1]; exact (heap_alloc_old _ _ (by simp)).trans (heap_alloc_last w _)
  have hP0 : w1.heap[w.heap.size + 1]? = some (.cells (pfC p).toArray 36 (0, 0)) := by
    rw [hw1]
    have := heap_alloc_last (w.alloc (.cells (adC a).toArray 24)) (.cells (pfC p).toArray 36)
    rwa [show (w.alloc (.cells (adC a).toArray 24)).heap.size = w.heap.size + 1 by simp] at this
  have hs1 : w1.heap.size = w.heap.size + 2 := by rw [hw1]; simp
  have hb1 : Below w.heap.size w w1 := by rw [hw1]; exact up_alloc (up_alloc (Below.refl _ w) _) _
  have hV1 := hV.up hb1
  have hR : ∀ wr, Below w1.heap.size w1 wr → wr.rangeAt w.heap.size 0 (adC a) ∧ wr.rangeAt (w.heap.size + 1) 0 (pfC p) := fun wr hb => by
    have h1 := (hb.block w.heap.size (by omega)).trans hA0
    have h2 := (hb.block (w.heap.size + 1) (by omega)).trans hP0
    exact ⟨rangeAt_block h1 fun j u hu => by rw [Nat.zero_add]; exact hu, rangeAt_block h2 fun j u hu => by rw [Nat.zero_add]; exact hu⟩
  have hx := Ad.show_long ha
  have hxp : p.show.length ≤ 100 := by
    by_cases hg : p.Good
    · have := Ad.show_long hp
      obtain ⟨n, hn, hn8⟩ := Pf.good_nat hp hg
      have := digs_short (base := 10) (by omega) 3 n (by omega) (by omega)
      rw [Pf.show, if_pos hg, hn, ← digs_ten]
      simp only [Int.toNat_natCast, List.length_append, List.length_cons]
      omega
    · rw [Pf.show, if_neg hg]; simp
  have hSh : ∀ wr, Below w1.heap.size w1 wr → Calls Tryd.prog 19 #[adV a] wr fun e w' => e = .returned (txt a.show) ∧ Below wr.heap.size wr w' := fun wr hb => adShow_any a wr ha (hV1.up hb)
  have hSP : ∀ wr, Below w1.heap.size w1 wr → Calls Tryd.prog 20 #[pfV p] wr fun e w' => e = .returned (txt p.show) ∧ Below wr.heap.size wr w' := fun wr hb => showPrefix_any p wr hp h0 h1 (hV1.up hb)
  have hRS : ∀ wr, Calls Tryd.prog 21 #[adV a] wr fun e w' => e = .returned (txt a.show) ∧ Below wr.heap.size wr w' := fun wr => rfShow_any a wr ha
  have hRP : ∀ wr, Calls Tryd.prog 22 #[pfV p] wr fun e w' => e = .returned (txt p.show) ∧ Below wr.heap.size wr w' := fun wr => rfShowPrefix_any p wr hp h0 h1
  have hPa : ∀ wr, Below w1.heap.size w1 wr → Calls Tryd.prog 23 #[txt a.show] wr fun e w' => e = .returned (.tuple #[adV ((adOf a.show).getD Ad.zero), .bool (adOf a.show).isSome]) ∧ Below wr.heap.size wr w' := fun wr hb => parse_any a.show wr (by omega) (hV1.up hb)
  have hPP : ∀ wr, Below w1.heap.size w1 wr → Calls Tryd.prog 24 #[txt p.show] wr fun e w' => e = .returned (.tuple #[pfV ((pfOf p.show).getD Pf.zero), .bool (pfOf p.show).isSome]) ∧ Below wr.heap.size wr w' := fun wr hb => parsePrefix_any p.show wr (by omega) (hV1.up hb)
  have HLv : Hid (∀ wr, Below w1.heap.size w1 wr → Calls Tryd.prog 15 #[] wr fun e w' => e = .returned (.bool true) ∧ Below wr.heap.size wr w') := Lib.hid fun wr hb => lives_any wr (hV1.up hb)
  have HU : Hid (∀ wr, Below w1.heap.size w1 wr → Below w.heap.size w wr) := Lib.hid fun wr hb => up hb1 hb
  have heA := empty_is a.show
  have heP := empty_is p.show
  have hsa : ((⟨a.show.toArray⟩ : ByteArray).toList == (⟨a.show.toArray⟩ : ByteArray).toList) = true := by simp
  have hsp : ((⟨p.show.toArray⟩ : ByteArray).toList == (⟨p.show.toArray⟩ : ByteArray).toList) = true := by simp
  obtain ⟨x, hxd⟩ : ∃ x, x = (adOf a.show).getD Ad.zero := ⟨_, rfl⟩
  obtain ⟨q, hqd⟩ : ∃ q, q = (pfOf p.show).getD Pf.zero := ⟨_, rfl⟩
  have hxw : x.Wide := by
    rw [hxd]
    cases h : adOf a.show with
    | none => rfl
    | some a => exact (adOf_is h).1
  have hqw : q.a.Wide := by
    rw [hqd]
    cases h : pfOf p.show with
    | none => rfl
    | some a => exact (pfOf_is h).1
  obtain ⟨ia, hia⟩ : ∃ b, b = (adOf a.show).isSome := ⟨_, rfl⟩
  obtain ⟨ip, hip⟩ : ∃ b, b = (pfOf p.show).isSome := ⟨_, rfl⟩
  rw [← hxd, ← hia] at hPa
  rw [← hqd, ← hip] at hPP
  have hca : a.show.isEmpty = !ia ∧ (ia = true → decide (x = a) = true) := by
    rw [hia, hxd, adOf_show ha]
    cases hg : a.good
    · rw [Ad.show, if_neg (by rw [hg]; simp)]; simp
    · have := Ad.show_ne ha hg
      simp [this]
  have hcp : p.show.isEmpty = !ip ∧ (ip = true → decide (q = p) = true) := by
    rw [hip, hqd, pfOf_show hp]
    by_cases hg : p.Good
    · rw [if_pos hg, Pf.show, if_pos hg]; simp
    · rw [if_neg hg, Pf.show, if_neg hg]; simp
  rw [hca.1] at heA
  rw [hcp.1] at heP
  have hqa := eql_ad x a hxw ha
  have hqp := eql_pf q p hqw hp
  have ea := hca.2
  have ep := hcp.2
  generalize decide (x = a) = da at hqa ea
  generalize decide (q = p) = dp at hqp ep
  have hiax := info_adA hxw
  have hilx := info_ad hxw
  have hila := info_ad ha
  have hipq := info_pfA hqw
  have hilq := info_pf hqw
  have hilp := info_pf hp
  have hzax := all_oneCell_toArray (adC_one x)
  have hzpq := all_oneCell_toArray (pfC_one q)
  have hzsx : (adC Ad.zero).toArray.size = (adC x).toArray.size := by rw [List.size_toArray, List.size_toArray, adC_length (a := Ad.zero) rfl, adC_length hxw]
  have hzsq : (pfC Pf.zero).toArray.size = (pfC q).toArray.size := by rw [List.size_toArray, List.size_toArray, pfC_length (p := Pf.zero) rfl, pfC_length hqw]
  have HX : Hid (∀ w6 wr : World, Below (w6.alloc (.cells (adC x).toArray 24)).heap.size (w6.alloc (.cells (adC x).toArray 24)) wr → wr.rangeAt w6.heap.size 0 (adC x)) := Lib.hid fun w6 wr hb => rangeAt_block ((hb.block w6.heap.size (by simp)).trans (heap_alloc_last w6 _)) fun j u hu => by rw [Nat.zero_add]; exact hu
  have HY : Hid (∀ w8 : World, (w8.alloc (.cells (pfC q).toArray 36)).rangeAt w8.heap.size 0 (pfC q)) := Lib.hid fun w8 => rangeAt_block (heap_alloc_last w8 _) fun j u hu => by rw [Nat.zero_add]; exact hu
  simp only [txt] at hSh hSP hRS hRP hPa hPP
  generalize (⟨a.show.toArray⟩ : ByteArray) = SA at *
  generalize (⟨p.show.toArray⟩ : ByteArray) = SP at *
  simp only [adV, pfV] at hSh hSP hRS hRP hPa hPP hqa hqp ⊢
  have HSh := Lib.hid hSh
  have HSP := Lib.hid hSP
  have HRS := Lib.hid hRS
  have HRP := Lib.hid hRP
  have HPa := Lib.hid hPa
  have HPP := Lib.hid hPP
  have HR := Lib.hid hR
  obtain ⟨C, hCd⟩ : ∃ C, C = adC a := ⟨_, rfl⟩
  rw [← hCd] at HSh HRS HR hqa hila hw1 ⊢
  obtain ⟨D, hDd⟩ : ∃ D, D = pfC p := ⟨_, rfl⟩
  rw [← hDd] at HSP HRP HR hqp hilp hw1 ⊢
  generalize adC x = X at *
  generalize pfC q = Y at *
  generalize (adC Ad.zero).toArray = Za at *
  generalize (pfC Pf.zero).toArray = Zp at *
  have HF := Lib.hid (Below.refl w1.heap.size w1)
  clear hCd hDd hSh hSP hRS hRP hPa hPP hR hA0 hP0 hs1 hb1 hV1 hV hx hxp hxd hqd hxw hqw hia hip hca hcp ha hp h0 h1
  subst hw1
  go_enter Tryd.func6, Tryd.ntmps6
  go_wp2_with fail
  refine wp_region_held_drew (S := fun w' => w'.rangeAt w.heap.size 0 C ∧ w'.rangeAt (w.heap.size + 1) 0 D) (by kernel_rfl) ?_ (fun hHeld => ?_)
  · exact HR.out _ (up_drew HF.out)
  refine' wpAnyH_take (i := 0) (oi := ⟨some 11, .load 24 (.tmp 2), _, _, _, none⟩) (v := .agg C.toArray) rfl (by kernel_rfl) (by kernel_rfl) (by kernel_rfl) (fun _ _ _ h => h) (Or.inl ⟨by rfl, ?hy0⟩) (by assumption) ?rest0
  case hy0 => (intro w' hSw; exact exec_load (t := 24) (x := .tmp 2) rfl (pv := .pointer (some ⟨w.heap.size, 0, none⟩)) rfl (run_loadAt_mid w' w.heap.size 0 24 C _ hSw.1 Tryd.underlying24 rfl hila))
  case rest0 =>
  go_frame
  refine' wpAnyH_take (i := 2) (oi := ⟨some 13, .load 36 (.tmp 3), _, _, _, none⟩) (v := .agg D.toArray) rfl (by kernel_rfl) (by kernel_rfl) (by kernel_rfl) (fun _ _ _ h => h) (Or.inl ⟨by rfl, ?hy2⟩) (by assumption) ?rest2
  case hy2 => (intro w' hSw; exact exec_load (t := 36) (x := .tmp 3) rfl (pv := .pointer (some ⟨w.heap.size + 1, 0, none⟩)) rfl (run_loadAt_mid w' (w.heap.size + 1) 0 36 D _ hSw.2 Tryd.underlying36 rfl hilp))
  case rest2 =>
  go_frame
  refine wpAnyH_ready (rs := [1]) (by kernel_rfl) (by simp) (AllReadyH.cons (o := ⟨some 12, .call { callee := .value (.func 19), args := #[.tmp 11], argTypes := #[24] }, _, _, _, none⟩) rfl (fun K hK => ?_) AllReadyH.nil)
  rw [if_pos (by rfl)]
  go_simp
  refine (HSh.out _ (up_drew HF.out)).mono ?_
  rintro _ w2 ⟨rfl, hb2⟩
  have hb2' := up (up_drew HF.out) hb2
  dsimp only
  refine hK.out _ _ (HR.out _ hb2') (fun hHeld2 => ?_)
  clear hK K
  try go_frame
  refine wpAnyH_ready (rs := [3]) (by kernel_rfl) (by simp) (AllReadyH.cons (o := ⟨some 14, .call { callee := .value (.func 20), args := #[.tmp 13], argTypes := #[36] }, _, _, _, none⟩) rfl (fun K hK => ?_) AllReadyH.nil)
  rw [if_pos (by rfl)]
  go_simp
  refine (HSP.out _ hb2').mono ?_
  rintro _ w3 ⟨rfl, hb3⟩
  have hb3' := up hb2' hb3
  dsimp only
  refine hK.out _ _ (HR.out _ hb3') (fun hHeld3 => ?_)
  clear hK K
  try go_frame
  refine' wpAnyH_take (i := 4) (oi := ⟨some 5, .assign (.tmp 12), _, _, _, none⟩) (v := _) rfl (by kernel_rfl) (by kernel_rfl) (by kernel_rfl) (fun _ _ _ h => h) (Or.inl ⟨by rfl, ?hy4⟩) (by assumption) ?rest4
  case hy4 => (intro w' hSw; obtain _ := hSw; go_simp <;> with_reducible rfl)
  case rest4 =>
  go_frame
  refine' wpAnyH_take (i := 5) (oi := ⟨some 6, .assign (.tmp 14), _, _, _, none⟩) (v := _) rfl (by kernel_rfl) (by kernel_rfl) (by kernel_rfl) (fun _ _ _ h => h) (Or.inl ⟨by rfl, ?hy5⟩) (by assumption) ?rest5
  case hy5 => (intro w' hSw; obtain _ := hSw; go_simp <;> with_reducible rfl)
  case rest5 =>
  go_frame
  refine wpAnyH_done (by kernel_rfl) ?_ _
  have k3 := hHeld3.1
  clear hHeld hHeld2 hHeld3
  go_wp2_with (first
    | ((with_reducible refine wpList_load_mid (op := ⟨some 16, .load 24 (.tmp 2), _, _, _, _⟩) rfl 24 (.tmp 2) rfl w.heap.size 0 ?_ C _ k3 Tryd.underlying24 rfl hila ?_); exact rfl)
    | (go_at_call 21; refine (HRS.out _).mono ?_; rintro _ w4 ⟨rfl, hb4⟩; have hb4' := up hb3' hb4; have k4 := (HR.out w4 hb4').2)
    | ((with_reducible refine wpList_load_mid_g (op := ⟨some 21, .load 36 (.tmp 3), _, _, _, _⟩) ?_ 36 (.tmp 3) rfl (w.heap.size + 1) 0 ?_ D _ k4 Tryd.underlying36 rfl hilp ?_); rfl; exact rfl)
    | (go_at_call 22; refine (HRP.out _).mono ?_; rintro _ w5 ⟨rfl, hb5⟩; have hb5' := up hb4' hb5))
  have hnil : (⟨#[]⟩ : ByteArray).toList = [] := by rw [ByteArray.toList_eq]
  cases ia <;> cases ip
  all_goals first
    | (replace heP : ¬ SP.toList = [] := by (have h : (SP.toList == (⟨#[]⟩ : ByteArray).toList) = false := heP); rw [hnil] at h; exact beq_eq_false_iff_ne.1 h)
    | (replace heP : SP.toList = [] := by (have h : (SP.toList == (⟨#[]⟩ : ByteArray).toList) = true := heP); rw [hnil] at h; exact eq_of_beq h)
  all_goals first
    | (replace heA : ¬ SA.toList = [] := by (have h : (SA.toList == (⟨#[]⟩ : ByteArray).toList) = false := heA); rw [hnil] at h; exact beq_eq_false_iff_ne.1 h)
    | (replace heA : SA.toList = [] := by (have h : (SA.toList == (⟨#[]⟩ : ByteArray).toList) = true := heA); rw [hnil] at h; exact eq_of_beq h)
  all_goals try (have hiA : SA.toList.isEmpty = false := by simpa using heA)
  all_goals try (have hiP : SP.toList.isEmpty = false := by simpa using heP)
  all_goals try (obtain rfl := ea rfl)
  all_goals try (obtain rfl := ep rfl)
  all_goals
    refine (HPa.out _ hb5').mono ?_
    rintro _ w6 ⟨rfl, hb6⟩
    have hb7 := up_alloc (up hb5' hb6) (.cells X.toArray 24)
    go_wp2_with (first
      | (with_reducible refine wpList_alloc_zero (o := ⟨some 7, .alloc 24, _, _, _, _⟩) rfl 24 rfl Za hza ?_)
      | (with_reducible refine wpList_alloc_zero (o := ⟨some 9, .alloc 36, _, _, _, _⟩) rfl 36 rfl Zp hz ?_)
      | ((with_reducible refine wpList_store_new (o := ⟨none, .store 24 (.tmp 7) (.tmp 28), _, _, _, _⟩) rfl 24 (.tmp 7) (.tmp 28) rfl Za X.toArray ?_ ?_ hiax hzsx hzax ?_); exact rfl; exact rfl)
      | (go_at_call 24; refine (HPP.out _ hb7).mono ?_; rintro _ w8 ⟨rfl, hb8⟩; have hb9 := up_alloc (up hb7 hb8) (.cells Y.toArray 36); have kx := HX.out w6 _ (up_alloc hb8 (.cells Y.toArray 36)); have ky := HY.out w8; have kr := HR.out _ hb9; have ka := kr.1; have kp := kr.2)
      | ((with_reducible refine wpList_store_new (o := ⟨none, .store 36 (.tmp 9) (.tmp 33), _, _, _, _⟩) rfl 36 (.tmp 9) (.tmp 33) rfl Zp Y.toArray ?_ ?_ hipq hzsq hzpq ?_); exact rfl; exact rfl)
      | ((with_reducible refine wpList_load_mid_g (op := ⟨some 48, .load 24 (.tmp 7), _, _, _, _⟩) ?_ 24 (.tmp 7) rfl w6.heap.size 0 ?_ X _ kx Tryd.underlying24 rfl hilx ?_); (first | rfl | kernel_rfl); exact rfl)
      | ((with_reducible refine wpList_load_mid_g (op := ⟨some 49, .load 24 (.tmp 2), _, _, _, _⟩) ?_ 24 (.tmp 2) rfl w.heap.size 0 ?_ C _ ka Tryd.underlying24 rfl hila ?_); (first | rfl | kernel_rfl); exact rfl)
      | ((with_reducible refine wpList_load_mid_g (op := ⟨some 67, .load 36 (.tmp 9), _, _, _, _⟩) ?_ 36 (.tmp 9) rfl w8.heap.size 0 ?_ Y _ ky Tryd.underlying36 rfl hilq ?_); (first | rfl | kernel_rfl); exact rfl)
      | ((with_reducible refine wpList_load_mid_g (op := ⟨some 68, .load 36 (.tmp 3), _, _, _, _⟩) ?_ 36 (.tmp 3) rfl (w.heap.size + 1) 0 ?_ D _ kp Tryd.underlying36 rfl hilp ?_); (first | rfl | kernel_rfl); exact rfl)
      | (go_at_call 15; refine (HLv.out _ hb9).mono ?_; rintro _ w10 ⟨rfl, hb10⟩))
    go_ret
    exact ⟨rfl, HU.out _ (up hb9 hb10)⟩
end Go.Proofs.YtobbjgbojdoigaaDoor
