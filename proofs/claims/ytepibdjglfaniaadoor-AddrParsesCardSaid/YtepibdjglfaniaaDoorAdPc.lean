/-
  The prefix of a text: a contract.
-/
import Derived.Test.YtepibdjglfaniaaDoorAdPa
import Derived.Test.YtepibdjglfaniaaDoorAdP
import Derived.Test.YtepibdjglfaniaaDoorAdU
namespace Go.Proofs.YtepibdjglfaniaaDoor
open Go.RowKit
theorem build_pf0 (W : World) : (Instr.build 37 #[]).run Tryd.prog W = .ok (pfV Pf.zero) W := by
  have hz := zero_pf W
  simp [Instr.build, hz, go_sem]
theorem store_up_pf {w w1 : World} {x : Pf} (hx : x.a.Wide) (hat : PfAt w1 w.heap.size x) (hb1 : Below w.heap.size w w1) (wr : World) (hb : Below w1.heap.size w1 wr) (b : Pf) (hw : b.a.Wide) :
    ∃ w3, (Instr.storeAt 37 (.pointer (some ⟨w.heap.size, 0, none⟩)) (pfV b)).run Tryd.prog wr = .ok () w3 ∧ PfAt w3 w.heap.size b ∧ Below w.heap.size w w3 := by
  obtain ⟨w3, hst, _, h3, hgr, _⟩ := store_pf (PfAt.below hat hb hat.lt) hx hw
  exact ⟨w3, hst, h3, grown_below (hb1.trans (hb.mono hb1.size)) hgr (Nat.le_refl _)⟩
theorem cut_any (s : List UInt8) (w : World) (hs : s.length ≤ 1000) (hV : Vars w) :
    Calls Tryd.prog 26 #[.string ⟨s.toArray⟩, .string ⟨#[47]⟩] w fun e w' => ∃ b, e = .returned (.tuple #[txt (Lib.cut s [47]).1, txt (Lib.cut s [47]).2.1, .bool b]) ∧ Below w.heap.size w w' := by
  obtain ⟨m, hm⟩ := hV.len
  refine (Tryd.strings_Cut ⟨s.toArray⟩ ⟨#[47]⟩ m w (by simp [ByteArray.size]; omega) hm).mono ?_
  rintro e w' ⟨rfl, n, rfl⟩
  refine ⟨_, rfl, ?_⟩
  exact ⟨rfl, rfl, rfl, by simp [World.drewN], fun j hj => by simp [World.drewN]⟩
theorem cut_short (s : List UInt8) : (Lib.cut s [47]).1.length ≤ s.length ∧ (Lib.cut s [47]).2.1.length ≤ s.length := by
  unfold Lib.cut
  split
  · constructor
    · simp only [List.length_take]; omega
    · simp only [List.length_drop]; omega
  · simp
theorem atoi_bounds {l : List UInt8} {v : Int} (h : Lib.atoiAll l = .ok v) : -9223372036854775808 ≤ v ∧ v ≤ 9223372036854775807 := by
  unfold Lib.atoiAll at h
  split at h
  · cases h
  · dsimp only at h
    split at h
    · cases h
    · cases h
    · split at h
      · cases h
      · split at h
        · cases h
        · injection h with h
          subst h
          split <;> omega
theorem atoi_fix (l : List UInt8) (hl : l.length ≤ 1000) : ∃ v : Int, (∀ n, Lib.atoiAll l = .ok n → v = n) ∧ ∀ w, Vars w →
    Calls Tryd.prog 27 #[txt l] w fun e w' => ∃ ev, e = .returned (.tuple #[.int .i64 v, ev]) ∧ ((Lib.atoiAll l = .ok v ∧ ev = .nilIface) ∨ ((∀ n, Lib.atoiAll l ≠ .ok n) ∧ ∃ t p, ev = .iface t p)) ∧ Below w.heap.size w w' := by
  have hs : (⟨l.toArray⟩ : ByteArray).size = l.length := by simp [ByteArray.size]
  rcases h : Lib.atoiAll l with n | _ | _
  · refine ⟨n, fun n e => (Lib.NumEnd.ok.inj e), fun w hV => (Tryd.strconv_Atoi_ok ⟨l.toArray⟩ (by rw [hs]; omega) n h w).mono ?_⟩
    rintro e w' ⟨rfl, hw⟩
    refine ⟨.nilIface, rfl, Or.inl ⟨rfl, rfl⟩, ?_⟩
    rcases hw with rfl | ⟨t, rfl⟩
    · exact Below.refl _ _
    · exact below_bytes _ _ _
  · refine ⟨0, fun n e => (by cases e), fun w hV => ?_⟩
    obtain ⟨te, pe, hb⟩ := hV.bad
    refine (Any.strconv_Atoi_syntax Tryd.laysC172 ⟨l.toArray⟩ (by rw [hs]; omega) h _ w hb (Or.inr ⟨te, pe, rfl⟩)).mono ?_
    rintro e w' ⟨N, rfl, _, _, hbel⟩
    exact ⟨_, rfl, Or.inr ⟨(fun n e => by cases e), _, _, rfl⟩, hbel⟩
  · refine ⟨Lib.atoiSat l, fun n e => (by cases e), fun w hV => ?_⟩
    obtain ⟨te, pe, hb⟩ := hV.far
    refine (Tryd.strconv_Atoi_range ⟨l.toArray⟩ (by rw [hs]; omega) h _ w hb (Or.inr ⟨te, pe, rfl⟩)).mono ?_
    rintro e w' ⟨N, rfl, _, _, hbel⟩
    exact ⟨_, rfl, Or.inr ⟨(fun n e => by cases e), _, _, rfl⟩, hbel⟩
set_option maxRecDepth 100000 in
set_option maxHeartbeats 1000000 in
theorem parsePrefix_any (s : List UInt8) (w : World) (hs : s.length ≤ 1000) (hV : Vars w) :
    Calls Tryd.prog 15 #[.string ⟨s.toArray⟩] w fun e w' => e = .returned (.tuple #[pfV ((pfOf s).getD Pf.zero), .bool (pfOf s).isSome]) ∧ Below w.heap.size w w' := by
  have hz : ∀ w, (zeroValue 37).run Tryd.prog w = .ok (.agg (pfC Pf.zero).toArray) w := zero_pf
  have hza : ∀ w, (zeroValue 24).run Tryd.prog w = .ok (.agg (adC Ad.zero).toArray) w := zero_ad
  have hbu := build_pf0
  obtain ⟨w1, hw1⟩ : ∃ w1, w1 = w.alloc (.cells (pfC Pf.zero).toArray 37) := ⟨_, rfl⟩
  have hw : PfAt w1 w.heap.size Pf.zero := by rw [hw1]; exact heap_alloc_last w _
  have hb1 : Below w.heap.size w w1 := by rw [hw1]; exact up_alloc (Below.refl _ w) _
  have Hsu := Lib.hid fun wr hb b hb2 => store_up_pf (w1 := w1) (x := Pf.zero) rfl hw hb1 wr hb b hb2
  have hV1 := hV.up hb1
  obtain ⟨hcs1, hcs2⟩ := cut_short s
  have HCut := Lib.hid (cut_any s w1 hs hV1)
  have hread := pfOf_read s
  obtain ⟨t1, ht1⟩ : ∃ t, t = (Lib.cut s [47]).1 := ⟨_, rfl⟩
  obtain ⟨t2, ht2⟩ : ∃ t, t = (Lib.cut s [47]).2.1 := ⟨_, rfl⟩
  rw [← ht1] at hcs1 HCut hread
  rw [← ht2] at hcs2 HCut hread
  have hPa : ∀ wr, Below w1.heap.size w1 wr → Calls Tryd.prog 13 #[txt t1] wr fun e w' => e = .returned (.tuple #[adV ((adOf t1).getD Ad.zero), .bool (adOf t1).isSome]) ∧ Below wr.heap.size wr w' := fun wr hb => parse_any t1 wr (by omega) (hV1.up hb)
  have haw : ((adOf t1).getD Ad.zero).Wide := by
    cases h : adOf t1 with
    | none => rfl
    | some a => exact (adOf_is h).1
  obtain ⟨v, hvn, hv⟩ := atoi_fix t2 (by omega)
  have hSP : ∀ wr (p : Pf), p.a.Wide → -9223372036854775808 ≤ p.bits → p.bits ≤ 9223372036854775807 → Below w1.heap.size w1 wr → Calls Tryd.prog 28 #[pfV p] wr fun e w' => e = .returned (txt p.show) ∧ Below wr.heap.size wr w' := fun wr p hp h0 h1 hb => showPrefix_any p wr hp h0 h1 (hV1.up hb)
  obtain ⟨a, hav⟩ : ∃ a, a = (adOf t1).getD Ad.zero := ⟨_, rfl⟩
  rw [← hav] at hPa haw
  have hb2' := fun W => build_pf a haw v W
  have hia := info_adA haw
  have hiE := info_pfA (p := ⟨a, v⟩) haw
  have hlE := info_pf (p := ⟨a, v⟩) haw
  have haa := all_oneCell_toArray (adC_one a)
  have hEE := all_oneCell_toArray (pfC_one ⟨a, v⟩)
  have hzsa : (adC Ad.zero).toArray.size = (adC a).toArray.size := by rw [List.size_toArray, List.size_toArray, adC_length (a := Ad.zero) rfl, adC_length haw]
  have hzE : (pfC Pf.zero).toArray.size = (pfC ⟨a, v⟩).toArray.size := by rw [List.size_toArray, List.size_toArray, pfC_length (p := Pf.zero) rfl, pfC_length (p := ⟨a, v⟩) haw]
  have HAt : Hid (∀ w3 wr : World, Below (w3.alloc (.cells (adC a).toArray 24)).heap.size (w3.alloc (.cells (adC a).toArray 24)) wr → wr.heap[w3.heap.size]? = some (.cells (adC a).toArray 24 (0, 0))) := Lib.hid fun w3 wr hb => (hb.block w3.heap.size (by simp)).trans (heap_alloc_last w3 _)
  have HEr : Hid (∀ w5 wr : World, Below (w5.alloc (.cells (pfC ⟨a, v⟩).toArray 37)).heap.size (w5.alloc (.cells (pfC ⟨a, v⟩).toArray 37)) wr → wr.heap[w5.heap.size]? = some (.cells (pfC ⟨a, v⟩).toArray 37 (0, 0)) ∧ wr.rangeAt w5.heap.size 0 (pfC ⟨a, v⟩)) := Lib.hid fun w5 wr hb => by
    have h := (hb.block w5.heap.size (by simp)).trans (heap_alloc_last w5 (.cells (pfC ⟨a, v⟩).toArray 37))
    exact ⟨h, rangeAt_block h fun j u hu => by rw [Nat.zero_add]; exact hu⟩
  have Hwide : Hid (Pf.mk a v).a.Wide := Lib.hid haw
  obtain ⟨is, his⟩ : ∃ b, b = (adOf t1).isSome := ⟨_, rfl⟩
  rw [← his] at hPa
  have HPa := Lib.hid hPa
  have hcases : (is = false ∧ pfOf s = none) ∨ (is = true ∧ (∀ n, Lib.atoiAll t2 ≠ .ok n) ∧ pfOf s = none) ∨ (is = true ∧ Lib.atoiAll t2 = .ok v ∧ (Pf.mk a v).show ≠ s ∧ pfOf s = none) ∨ (is = true ∧ Lib.atoiAll t2 = .ok v ∧ (Pf.mk a v).show = s ∧ pfOf s = some ⟨a, v⟩) := by
    cases h1 : adOf t1 with
    | none =>
      rw [h1] at hread his
      exact Or.inl ⟨his, hread⟩
    | some a2 =>
      rw [h1] at hread his hav
      obtain rfl : a = a2 := hav
      replace his : is = true := his
      rcases h2 : Lib.atoiAll t2 with n | _ | _
      · rw [h2] at hread
        replace hread : pfOf s = if (Pf.mk a n).show = s then some ⟨a, n⟩ else none := hread
        obtain rfl := hvn n h2
        by_cases hq : (Pf.mk a v).show = s
        · rw [if_pos hq] at hread
          exact Or.inr (Or.inr (Or.inr ⟨his, rfl, hq, hread⟩))
        · rw [if_neg hq] at hread
          exact Or.inr (Or.inr (Or.inl ⟨his, rfl, hq, hread⟩))
      · rw [h2] at hread
        exact Or.inr (Or.inl ⟨his, (fun n e => by cases e), hread⟩)
      · rw [h2] at hread
        exact Or.inr (Or.inl ⟨his, (fun n e => by cases e), hread⟩)
  clear hvn hav his hPa hread haw hcs1 hcs2 ht1 ht2 hs
  rcases hcases with ⟨rfl, hpf⟩ | ⟨rfl, hno, hpf⟩ | ⟨rfl, hok, hne, hpf⟩ | ⟨rfl, hok, heq, hpf⟩
  · rw [hpf]
    have HAto : Hid (∀ wr, Below w1.heap.size w1 wr → Calls Tryd.prog 27 #[txt t2] wr fun e w' => ∃ ev, e = .returned (.tuple #[.int .i64 v, ev]) ∧ Below wr.heap.size wr w') := Lib.hid fun wr hb => (hv wr (hV1.up hb)).mono fun e w' ⟨ev, he, _, hb⟩ => ⟨ev, he, hb⟩
    simp only [Option.getD_none, Option.isSome_none]
    clear hpf hSP hv hV hV1 hw hb1
    subst hw1
    generalize hS : (⟨s.toArray⟩ : ByteArray) = S at *
    simp only [pfV, adV] at hbu hb2' HPa Hsu ⊢
    try simp only [pfV] at HSP
    rw [txt] at HAto HPa
    simp only [txt] at HCut
    generalize (⟨t1.toArray⟩ : ByteArray) = T1 at *
    generalize (⟨t2.toArray⟩ : ByteArray) = T2 at *
    obtain ⟨Z, hZ⟩ : ∃ Z, Z = (pfC Pf.zero).toArray := ⟨_, rfl⟩
    rw [← hZ] at hz hbu hzE Hsu HCut HPa HAto
    try rw [← hZ] at HSP
    try rw [← hZ]
    have HZ := Lib.hid hZ
    obtain ⟨Za, hZa⟩ : ∃ Z, Z = (adC Ad.zero).toArray := ⟨_, rfl⟩
    rw [← hZa] at hza hzsa
    obtain ⟨C, hC⟩ : ∃ C, C = adC a := ⟨_, rfl⟩
    rw [← hC] at HPa hb2' hia haa hzsa HAt
    obtain ⟨E, hE⟩ : ∃ E, E = pfC ⟨a, v⟩ := ⟨_, rfl⟩
    rw [← hE] at hb2' hiE hlE hEE hzE HEr
    try rw [← hE] at HSP
    try rw [← hE]
    have HE := Lib.hid hE
    clear hZ hZa hC hE
    go_enter Tryd.func15, Tryd.ntmps15
    go_wp2_with (first
        | (with_reducible refine wpList_alloc_zero (o := ⟨some 2, .alloc 37, _, _, _, _⟩) rfl 37 rfl Z hz ?_)
        | (with_reducible refine wpList_alloc_zero (o := ⟨some 7, .alloc 24, _, _, _, _⟩) rfl 24 rfl Za hza ?_)
        | (with_reducible refine wpList_alloc_zero (o := ⟨some 11, .alloc 37, _, _, _, _⟩) rfl 37 rfl Z hz ?_)
        | (go_at_call 26; refine HCut.out.mono ?_; rintro _ w2 ⟨cb, rfl, hb2⟩)
        | (go_at_call 13; refine (HPa.out _ hb2).mono ?_; rintro _ w3 ⟨rfl, hb3⟩; have hb4 := up_alloc (up hb2 hb3) (.cells C.toArray 24))
        | ((with_reducible refine wpList_store_new (o := ⟨none, .store 24 (.tmp 7) (.tmp 21), _, _, _, _⟩) rfl 24 (.tmp 7) (.tmp 21) rfl Za C.toArray ?_ ?_ hia hzsa haa ?_); exact rfl; exact rfl)
        | (go_at_call 27; refine (HAto.out _ hb4).mono ?_; rintro _ w5 ⟨ev, rfl, hb5⟩; have hA5 := HAt.out w3 w5 hb5; have HB6 := Lib.hid (up_alloc (up hb4 hb5) (.cells E.toArray 37)); have hr5 := (HEr.out w5 _ (Below.refl _ _)).2; obtain ⟨w8, hst8, hat8, hb8⟩ := Hsu.out (w5.alloc (.cells E.toArray 37)) HB6.out Pf.zero rfl; have H8 := Lib.hid (And.intro hat8 hb8); clear hat8 hb8; rw [← HZ.out] at hst8)
        | ((with_reducible refine wpList_load_row (o := ⟨some 28, .load 24 (.tmp 7), _, _, _, _⟩) rfl 24 (.tmp 7) rfl w3.heap.size ?_ 24 C.toArray (0, 0) _ hA5 Tryd.underlying24 rfl hia ?_); exact rfl)
        | ((with_reducible refine wpList_run (o := ⟨some 30, .build 37 #[(0, .tmp 28), (1, .tmp 29)], _, _, _, none⟩) rfl (.agg E.toArray) w5 ?_ ?_); exact exec_bld2 (k := 0) (k2 := 1) (a := .tmp 28) (a2 := .tmp 29) rfl (u := .agg C.toArray) (u2 := .int .i64 v) rfl rfl (hb2' w5))
        | ((with_reducible refine wpList_store_new (o := ⟨none, .store 37 (.tmp 11) (.tmp 30), _, _, _, _⟩) rfl 37 (.tmp 11) (.tmp 30) rfl Z E.toArray ?_ ?_ hiE hzE hEE ?_); exact rfl; exact rfl)
        | ((with_reducible refine wpList_stored (o := ⟨none, .store 37 (.tmp 2) (.tmp 43), _, _, _, none⟩) rfl 37 (.tmp 2) (.tmp 43) rfl (.pointer (some ⟨w.heap.size, 0, none⟩)) (.agg Z) ?_ ?_ w8 hst8 ?_); exact rfl; exact rfl))
    exact bodyPost_ret (ret_pf (p := 2) (q := 3) (by kernel_rfl) rfl H8.out.1 rfl rfl) rfl ⟨by rw [pfV, HZ.out], H8.out.2⟩
  · rw [hpf]
    have HAto : Hid (∀ wr, Below w1.heap.size w1 wr → Calls Tryd.prog 27 #[txt t2] wr fun e w' => ∃ t p, e = .returned (.tuple #[.int .i64 v, .iface t p]) ∧ Below wr.heap.size wr w') := Lib.hid fun wr hb => (hv wr (hV1.up hb)).mono fun e w' ⟨ev, he, hor, hb⟩ => by
      rcases hor with ⟨h, _⟩ | ⟨_, t, p, rfl⟩
      · exact absurd h (hno v)
      · exact ⟨t, p, he, hb⟩
    simp only [Option.getD_none, Option.isSome_none]
    clear hno
    clear hpf hSP hv hV hV1 hw hb1
    subst hw1
    generalize hS : (⟨s.toArray⟩ : ByteArray) = S at *
    simp only [pfV, adV] at hbu hb2' HPa Hsu ⊢
    try simp only [pfV] at HSP
    rw [txt] at HAto HPa
    simp only [txt] at HCut
    generalize (⟨t1.toArray⟩ : ByteArray) = T1 at *
    generalize (⟨t2.toArray⟩ : ByteArray) = T2 at *
    obtain ⟨Z, hZ⟩ : ∃ Z, Z = (pfC Pf.zero).toArray := ⟨_, rfl⟩
    rw [← hZ] at hz hbu hzE Hsu HCut HPa HAto
    try rw [← hZ] at HSP
    try rw [← hZ]
    have HZ := Lib.hid hZ
    obtain ⟨Za, hZa⟩ : ∃ Z, Z = (adC Ad.zero).toArray := ⟨_, rfl⟩
    rw [← hZa] at hza hzsa
    obtain ⟨C, hC⟩ : ∃ C, C = adC a := ⟨_, rfl⟩
    rw [← hC] at HPa hb2' hia haa hzsa HAt
    obtain ⟨E, hE⟩ : ∃ E, E = pfC ⟨a, v⟩ := ⟨_, rfl⟩
    rw [← hE] at hb2' hiE hlE hEE hzE HEr
    try rw [← hE] at HSP
    try rw [← hE]
    have HE := Lib.hid hE
    clear hZ hZa hC hE
    go_enter Tryd.func15, Tryd.ntmps15
    go_wp2_with (first
        | (with_reducible refine wpList_alloc_zero (o := ⟨some 2, .alloc 37, _, _, _, _⟩) rfl 37 rfl Z hz ?_)
        | (with_reducible refine wpList_alloc_zero (o := ⟨some 7, .alloc 24, _, _, _, _⟩) rfl 24 rfl Za hza ?_)
        | (with_reducible refine wpList_alloc_zero (o := ⟨some 11, .alloc 37, _, _, _, _⟩) rfl 37 rfl Z hz ?_)
        | (go_at_call 26; refine HCut.out.mono ?_; rintro _ w2 ⟨cb, rfl, hb2⟩)
        | (go_at_call 13; refine (HPa.out _ hb2).mono ?_; rintro _ w3 ⟨rfl, hb3⟩; have hb4 := up_alloc (up hb2 hb3) (.cells C.toArray 24))
        | ((with_reducible refine wpList_store_new (o := ⟨none, .store 24 (.tmp 7) (.tmp 21), _, _, _, _⟩) rfl 24 (.tmp 7) (.tmp 21) rfl Za C.toArray ?_ ?_ hia hzsa haa ?_); exact rfl; exact rfl)
        | (go_at_call 27; refine (HAto.out _ hb4).mono ?_; rintro _ w5 ⟨t, p, rfl, hb5⟩; have hA5 := HAt.out w3 w5 hb5; have HB6 := Lib.hid (up_alloc (up hb4 hb5) (.cells E.toArray 37)); have hr5 := (HEr.out w5 _ (Below.refl _ _)).2; obtain ⟨w8, hst8, hat8, hb8⟩ := Hsu.out (w5.alloc (.cells E.toArray 37)) HB6.out Pf.zero rfl; have H8 := Lib.hid (And.intro hat8 hb8); clear hat8 hb8; rw [← HZ.out] at hst8)
        | ((with_reducible refine wpList_load_row (o := ⟨some 28, .load 24 (.tmp 7), _, _, _, _⟩) rfl 24 (.tmp 7) rfl w3.heap.size ?_ 24 C.toArray (0, 0) _ hA5 Tryd.underlying24 rfl hia ?_); exact rfl)
        | ((with_reducible refine wpList_run (o := ⟨some 30, .build 37 #[(0, .tmp 28), (1, .tmp 29)], _, _, _, none⟩) rfl (.agg E.toArray) w5 ?_ ?_); exact exec_bld2 (k := 0) (k2 := 1) (a := .tmp 28) (a2 := .tmp 29) rfl (u := .agg C.toArray) (u2 := .int .i64 v) rfl rfl (hb2' w5))
        | ((with_reducible refine wpList_store_new (o := ⟨none, .store 37 (.tmp 11) (.tmp 30), _, _, _, _⟩) rfl 37 (.tmp 11) (.tmp 30) rfl Z E.toArray ?_ ?_ hiE hzE hEE ?_); exact rfl; exact rfl)
        | ((with_reducible refine wpList_stored (o := ⟨none, .store 37 (.tmp 2) (.tmp 43), _, _, _, none⟩) rfl 37 (.tmp 2) (.tmp 43) rfl (.pointer (some ⟨w.heap.size, 0, none⟩)) (.agg Z) ?_ ?_ w8 hst8 ?_); exact rfl; exact rfl))
    exact bodyPost_ret (ret_pf (p := 2) (q := 3) (by kernel_rfl) rfl H8.out.1 rfl rfl) rfl ⟨by rw [pfV, HZ.out], H8.out.2⟩
  · rw [hpf]
    have HAto : Hid (∀ wr, Below w1.heap.size w1 wr → Calls Tryd.prog 27 #[txt t2] wr fun e w' => e = .returned (.tuple #[.int .i64 v, .nilIface]) ∧ Below wr.heap.size wr w') := Lib.hid fun wr hb => (hv wr (hV1.up hb)).mono fun e w' ⟨ev, he, hor, hb⟩ => by
      rcases hor with ⟨_, rfl⟩ | ⟨h, _⟩
      · exact ⟨he, hb⟩
      · exact absurd hok (h v)
    obtain ⟨hv0, hv1⟩ := atoi_bounds hok
    have HSP : Hid (∀ wr, Below w1.heap.size w1 wr → Calls Tryd.prog 28 #[pfV ⟨a, v⟩] wr fun e w' => e = .returned (.string ⟨(Pf.mk a v).show.toArray⟩) ∧ Below wr.heap.size wr w') := Lib.hid fun wr hb => hSP wr ⟨a, v⟩ Hwide.out hv0 hv1 hb
    have hnq : ((⟨(Pf.mk a v).show.toArray⟩ : ByteArray).toList == (⟨s.toArray⟩ : ByteArray).toList) = false := by
      rw [ByteArray.toList_eq, ByteArray.toList_eq, beq_eq_false_iff_ne]
      exact hne
    generalize (⟨(Pf.mk a v).show.toArray⟩ : ByteArray) = S2 at hnq HSP
    simp only [Option.getD_none, Option.isSome_none]
    clear hok hne
    clear hpf hSP hv hV hV1 hw hb1
    subst hw1
    generalize hS : (⟨s.toArray⟩ : ByteArray) = S at *
    simp only [pfV, adV] at hbu hb2' HPa Hsu ⊢
    try simp only [pfV] at HSP
    rw [txt] at HAto HPa
    simp only [txt] at HCut
    generalize (⟨t1.toArray⟩ : ByteArray) = T1 at *
    generalize (⟨t2.toArray⟩ : ByteArray) = T2 at *
    obtain ⟨Z, hZ⟩ : ∃ Z, Z = (pfC Pf.zero).toArray := ⟨_, rfl⟩
    rw [← hZ] at hz hbu hzE Hsu HCut HPa HAto
    try rw [← hZ] at HSP
    try rw [← hZ]
    have HZ := Lib.hid hZ
    obtain ⟨Za, hZa⟩ : ∃ Z, Z = (adC Ad.zero).toArray := ⟨_, rfl⟩
    rw [← hZa] at hza hzsa
    obtain ⟨C, hC⟩ : ∃ C, C = adC a := ⟨_, rfl⟩
    rw [← hC] at HPa hb2' hia haa hzsa HAt
    obtain ⟨E, hE⟩ : ∃ E, E = pfC ⟨a, v⟩ := ⟨_, rfl⟩
    rw [← hE] at hb2' hiE hlE hEE hzE HEr
    try rw [← hE] at HSP
    try rw [← hE]
    have HE := Lib.hid hE
    clear hZ hZa hC hE
    go_enter Tryd.func15, Tryd.ntmps15
    go_wp2_with (first
        | (with_reducible refine wpList_alloc_zero (o := ⟨some 2, .alloc 37, _, _, _, _⟩) rfl 37 rfl Z hz ?_)
        | (with_reducible refine wpList_alloc_zero (o := ⟨some 7, .alloc 24, _, _, _, _⟩) rfl 24 rfl Za hza ?_)
        | (with_reducible refine wpList_alloc_zero (o := ⟨some 11, .alloc 37, _, _, _, _⟩) rfl 37 rfl Z hz ?_)
        | (go_at_call 26; refine HCut.out.mono ?_; rintro _ w2 ⟨cb, rfl, hb2⟩)
        | (go_at_call 13; refine (HPa.out _ hb2).mono ?_; rintro _ w3 ⟨rfl, hb3⟩; have hb4 := up_alloc (up hb2 hb3) (.cells C.toArray 24))
        | ((with_reducible refine wpList_store_new (o := ⟨none, .store 24 (.tmp 7) (.tmp 21), _, _, _, _⟩) rfl 24 (.tmp 7) (.tmp 21) rfl Za C.toArray ?_ ?_ hia hzsa haa ?_); exact rfl; exact rfl)
        | (go_at_call 27; refine (HAto.out _ hb4).mono ?_; rintro _ w5 ⟨rfl, hb5⟩; have hA5 := HAt.out w3 w5 hb5; have HB6 := Lib.hid (up_alloc (up hb4 hb5) (.cells E.toArray 37)); have hr5 := (HEr.out w5 _ (Below.refl _ _)).2)
        | ((with_reducible refine wpList_load_row (o := ⟨some 28, .load 24 (.tmp 7), _, _, _, _⟩) rfl 24 (.tmp 7) rfl w3.heap.size ?_ 24 C.toArray (0, 0) _ hA5 Tryd.underlying24 rfl hia ?_); exact rfl)
        | ((with_reducible refine wpList_run (o := ⟨some 30, .build 37 #[(0, .tmp 28), (1, .tmp 29)], _, _, _, none⟩) rfl (.agg E.toArray) w5 ?_ ?_); exact exec_bld2 (k := 0) (k2 := 1) (a := .tmp 28) (a2 := .tmp 29) rfl (u := .agg C.toArray) (u2 := .int .i64 v) rfl rfl (hb2' w5))
        | ((with_reducible refine wpList_store_new (o := ⟨none, .store 37 (.tmp 11) (.tmp 30), _, _, _, _⟩) rfl 37 (.tmp 11) (.tmp 30) rfl Z E.toArray ?_ ?_ hiE hzE hEE ?_); exact rfl; exact rfl)
        | ((with_reducible refine wpList_load_mid_g (op := ⟨some 38, .load 37 (.tmp 11), _, _, _, _⟩) ?_ 37 (.tmp 11) rfl w5.heap.size 0 ?_ E _ hr5 Tryd.underlying37 rfl hlE ?_); rfl; exact rfl)
        | (go_at_call 28; refine (HSP.out _ HB6.out).mono ?_; rintro _ w7 ⟨rfl, hb7⟩; obtain ⟨w8, hst8, hat8, hb8⟩ := Hsu.out w7 (up HB6.out hb7) Pf.zero rfl; have H8 := Lib.hid (And.intro hat8 hb8); clear hat8 hb8; rw [← HZ.out] at hst8)
        | ((with_reducible refine wpList_stored (o := ⟨none, .store 37 (.tmp 2) (.tmp 43), _, _, _, none⟩) rfl 37 (.tmp 2) (.tmp 43) rfl (.pointer (some ⟨w.heap.size, 0, none⟩)) (.agg Z) ?_ ?_ w8 hst8 ?_); exact rfl; exact rfl))
    exact bodyPost_ret (ret_pf (p := 2) (q := 3) (by kernel_rfl) rfl H8.out.1 rfl rfl) rfl ⟨by rw [pfV, HZ.out], H8.out.2⟩
  · rw [hpf]
    have HAto : Hid (∀ wr, Below w1.heap.size w1 wr → Calls Tryd.prog 27 #[txt t2] wr fun e w' => e = .returned (.tuple #[.int .i64 v, .nilIface]) ∧ Below wr.heap.size wr w') := Lib.hid fun wr hb => (hv wr (hV1.up hb)).mono fun e w' ⟨ev, he, hor, hb⟩ => by
      rcases hor with ⟨_, rfl⟩ | ⟨h, _⟩
      · exact ⟨he, hb⟩
      · exact absurd hok (h v)
    obtain ⟨hv0, hv1⟩ := atoi_bounds hok
    have HSP : Hid (∀ wr, Below w1.heap.size w1 wr → Calls Tryd.prog 28 #[pfV ⟨a, v⟩] wr fun e w' => e = .returned (.string ⟨s.toArray⟩) ∧ Below wr.heap.size wr w') := Lib.hid fun wr hb => by
      have := hSP wr ⟨a, v⟩ Hwide.out hv0 hv1 hb
      rwa [heq] at this
    simp only [Option.getD_some, Option.isSome_some]
    clear hok heq
    clear hpf hSP hv hV hV1 hw hb1
    subst hw1
    generalize hS : (⟨s.toArray⟩ : ByteArray) = S at *
    simp only [pfV, adV] at hbu hb2' HPa Hsu ⊢
    try simp only [pfV] at HSP
    rw [txt] at HAto HPa
    simp only [txt] at HCut
    generalize (⟨t1.toArray⟩ : ByteArray) = T1 at *
    generalize (⟨t2.toArray⟩ : ByteArray) = T2 at *
    obtain ⟨Z, hZ⟩ : ∃ Z, Z = (pfC Pf.zero).toArray := ⟨_, rfl⟩
    rw [← hZ] at hz hbu hzE Hsu HCut HPa HAto
    try rw [← hZ] at HSP
    try rw [← hZ]
    have HZ := Lib.hid hZ
    obtain ⟨Za, hZa⟩ : ∃ Z, Z = (adC Ad.zero).toArray := ⟨_, rfl⟩
    rw [← hZa] at hza hzsa
    obtain ⟨C, hC⟩ : ∃ C, C = adC a := ⟨_, rfl⟩
    rw [← hC] at HPa hb2' hia haa hzsa HAt
    obtain ⟨E, hE⟩ : ∃ E, E = pfC ⟨a, v⟩ := ⟨_, rfl⟩
    rw [← hE] at hb2' hiE hlE hEE hzE HEr
    try rw [← hE] at HSP
    try rw [← hE]
    have HE := Lib.hid hE
    clear hZ hZa hC hE
    go_enter Tryd.func15, Tryd.ntmps15
    go_wp2_with (first
        | (with_reducible refine wpList_alloc_zero (o := ⟨some 2, .alloc 37, _, _, _, _⟩) rfl 37 rfl Z hz ?_)
        | (with_reducible refine wpList_alloc_zero (o := ⟨some 7, .alloc 24, _, _, _, _⟩) rfl 24 rfl Za hza ?_)
        | (with_reducible refine wpList_alloc_zero (o := ⟨some 11, .alloc 37, _, _, _, _⟩) rfl 37 rfl Z hz ?_)
        | (go_at_call 26; refine HCut.out.mono ?_; rintro _ w2 ⟨cb, rfl, hb2⟩)
        | (go_at_call 13; refine (HPa.out _ hb2).mono ?_; rintro _ w3 ⟨rfl, hb3⟩; have hb4 := up_alloc (up hb2 hb3) (.cells C.toArray 24))
        | ((with_reducible refine wpList_store_new (o := ⟨none, .store 24 (.tmp 7) (.tmp 21), _, _, _, _⟩) rfl 24 (.tmp 7) (.tmp 21) rfl Za C.toArray ?_ ?_ hia hzsa haa ?_); exact rfl; exact rfl)
        | (go_at_call 27; refine (HAto.out _ hb4).mono ?_; rintro _ w5 ⟨rfl, hb5⟩; have hA5 := HAt.out w3 w5 hb5; have HB6 := Lib.hid (up_alloc (up hb4 hb5) (.cells E.toArray 37)); have hr5 := (HEr.out w5 _ (Below.refl _ _)).2)
        | ((with_reducible refine wpList_load_row (o := ⟨some 28, .load 24 (.tmp 7), _, _, _, _⟩) rfl 24 (.tmp 7) rfl w3.heap.size ?_ 24 C.toArray (0, 0) _ hA5 Tryd.underlying24 rfl hia ?_); exact rfl)
        | ((with_reducible refine wpList_run (o := ⟨some 30, .build 37 #[(0, .tmp 28), (1, .tmp 29)], _, _, _, none⟩) rfl (.agg E.toArray) w5 ?_ ?_); exact exec_bld2 (k := 0) (k2 := 1) (a := .tmp 28) (a2 := .tmp 29) rfl (u := .agg C.toArray) (u2 := .int .i64 v) rfl rfl (hb2' w5))
        | ((with_reducible refine wpList_store_new (o := ⟨none, .store 37 (.tmp 11) (.tmp 30), _, _, _, _⟩) rfl 37 (.tmp 11) (.tmp 30) rfl Z E.toArray ?_ ?_ hiE hzE hEE ?_); exact rfl; exact rfl)
        | ((with_reducible refine wpList_load_mid_g (op := ⟨some 38, .load 37 (.tmp 11), _, _, _, _⟩) ?_ 37 (.tmp 11) rfl w5.heap.size 0 ?_ E _ hr5 Tryd.underlying37 rfl hlE ?_); rfl; exact rfl)
        | (go_at_call 28; refine (HSP.out _ HB6.out).mono ?_; rintro _ w7 ⟨rfl, hb7⟩; have hl7 := (HEr.out w5 w7 hb7).1; obtain ⟨w8, hst8, hat8, hb8⟩ := Hsu.out w7 (up HB6.out hb7) ⟨a, v⟩ Hwide.out; have H8 := Lib.hid (And.intro hat8 hb8); clear hat8 hb8; rw [← HE.out] at hst8)
        | ((with_reducible refine wpList_load_row (o := ⟨some 44, .load 37 (.tmp 11), _, _, _, _⟩) rfl 37 (.tmp 11) rfl w5.heap.size ?_ 37 E.toArray (0, 0) _ hl7 Tryd.underlying37 rfl hiE ?_); exact rfl)
        | ((with_reducible refine wpList_stored (o := ⟨none, .store 37 (.tmp 2) (.tmp 44), _, _, _, none⟩) rfl 37 (.tmp 2) (.tmp 44) rfl (.pointer (some ⟨w.heap.size, 0, none⟩)) (.agg E.toArray) ?_ ?_ w8 hst8 ?_); exact rfl; exact rfl))
    exact bodyPost_ret (ret_pf (p := 2) (q := 3) (by kernel_rfl) rfl H8.out.1 Hwide.out rfl) rfl ⟨by rw [pfV, HE.out], H8.out.2⟩
end Go.Proofs.YtepibdjglfaniaaDoor
