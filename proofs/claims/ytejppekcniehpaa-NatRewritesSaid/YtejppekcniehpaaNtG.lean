/-
  The document's lay, two: contracts.
  The document's Rewrite: a contract.
-/
import Derived.Test.YtejppekcniehpaaNtOut
import Derived.Test.YtejppekcniehpaaSgJ
import Derived.Test.YtejppekcniehpaaAdBy
import Derived.Test.YtejppekcniehpaaPkG
import Derived.Test.YtejppekcniehpaaPkD
namespace Go.Proofs.Ytejppekcniehpaa
open Go.RowKit
set_option maxRecDepth 100000 in
theorem rtwo_any (n : Nat) (hn : n < 65536) (w : World) : Calls Try.prog 15 #[.int .u16 (n : Int)] w fun e w' => ∃ A c, e = .returned (.slice A 2 c) ∧ Rd w' w'.heap.size (.slice A 2 c) (cellsB (be 2 n)) ∧ Below w.heap.size w w' := by
  have h1 : IntKind.u16.wrap ((n : Int).tdiv 256) = ((n / 256 : Nat) : Int) := by
    rw [show ((n : Int).tdiv 256) = ((n / 256 : Nat) : Int) by rfl]
    exact IntWalk.u16_in _ (by omega)
  have h2 : IntKind.u16.wrap ((n : Int).tmod 256) = ((n % 256 : Nat) : Int) := by
    rw [show ((n : Int).tmod 256) = ((n % 256 : Nat) : Int) by rfl]
    exact IntWalk.u16_in _ (by omega)
  have hb : cellsB (be 2 n) = [.int .u8 ((n / 256 : Nat) : Int), .int .u8 ((n % 256 : Nat) : Int)] := by
    rw [be2]
    unfold cellsB
    simp only [List.map_cons, List.map_nil]
    have e1 : (UInt8.ofNat (n / 256)).toNat = n / 256 := by simp; omega
    have e2 : (UInt8.ofNat n).toNat = n % 256 := by simp
    rw [e1, e2]
  have hr : Hid (∀ W : World, Rd (W.alloc (.cells #[.int .u8 ((n / 256 : Nat) : Int), .int .u8 ((n % 256 : Nat) : Int)] 5)) (W.heap.size + 1) (.slice (some ⟨W.heap.size, 0, none⟩) 2 2) (cellsB (be 2 n))) := Lib.hid fun W => by
    have := rd_lit W 5 (be 2 n) (by rw [be_length]; omega)
    rw [be_length, hb] at this
    rw [hb]
    exact this
  have h3 : IntKind.u8.wrap ((n / 256 : Nat) : Int) = ((n / 256 : Nat) : Int) := IntWalk.u8_in _ (by omega)
  have h4 : IntKind.u8.wrap ((n % 256 : Nat) : Int) = ((n % 256 : Nat) : Int) := IntWalk.u8_in _ (by omega)
  have hq1 : ((n / 256 : Nat) : Int) = IntKind.u16.wrap ((n : Int) / 256) % 256 := by
    rw [IntWalk.u16_in _ (by omega)]; omega
  have hq2 : ((n % 256 : Nat) : Int) = (n : Int) % 256 := by omega
  clear hb hn
  generalize n / 256 = hi at *
  generalize n % 256 = lo at *
  go_enter Try.func15, Try.ntmps15
  go_wp2_with fail
  go_ret
  have hr' := hr.out w
  rw [show (hi : Int) = IntKind.u16.wrap ((n : Int) / 256) % 256 from hq1, show (lo : Int) = (n : Int) % 256 from hq2] at hr'
  exact ⟨_, _, rfl, by simpa using hr', up_alloc (Below.refl _ _) _⟩
set_option maxRecDepth 100000 in
set_option maxHeartbeats 1000000 in
theorem rlay_any {A A2 : Option Addr} {c c2 k : Nat} {l x : List UInt8} {w : World} (hr : Rd w w.heap.size (.slice A l.length c) (cellsB l)) (hx : Rd w w.heap.size (.slice A2 x.length c2) (cellsB x)) {kk : Int} (hkk : kk = (k : Int)) (hk : k + x.length ≤ l.length) (hl : l.length ≤ 100000) :
    Calls Try.prog 13 #[.slice A l.length c, .int .i64 kk, .slice A2 x.length c2] w fun e w' => ∃ A' c', e = .returned (.slice A' l.length c') ∧ Rd w' w'.heap.size (.slice A' l.length c') (cellsB (layB l k x)) ∧ Below w.heap.size w w' := by
  subst hkk
  obtain ⟨i, hi, hz0, hz1, hz2⟩ := info_parts info_u8
  obtain ⟨_, _, e, hlc, _, _⟩ := hr.bytes
  injection e with e1 e2 e3
  subst e3
  clear e1 e2
  have hr0 := hr
  obtain ⟨n2, hn2⟩ : ∃ n2, n2 = k + x.length := ⟨_, rfl⟩
  have hcut1 := cut_h (P := Try.prog) (t := 22) Try.underlying22 (i := _) (e := 5) rfl rfl A l.length c k (by omega) (k : Int) rfl
  obtain ⟨A3, hA3, hcut2⟩ := cut_l (P := Try.prog) (t := 22) Try.underlying22 (i := _) (e := 5) rfl rfl A l.length c n2 (by omega) (n2 : Int) rfl
  have h1 := hr.upto (hi := k) (by omega)
  rw [cellsB_take] at h1
  have h2 := hr.cut (lo := n2) (hi := l.length) (by omega) (Nat.le_refl _)
  rw [← hA3, List.take_of_length_le (by rw [cellsB_length]; exact Nat.le_refl _), cellsB_drop] at h2
  have hM : Mine (w.alloc (.cells #[] 5)) w.heap.size 5 (.slice (some ⟨w.heap.size, 0, none⟩) 0 0) [] := Mine.empty w w.heap.size 5 (Nat.le_refl _)
  have hb0 := up_alloc (Below.refl w.heap.size w) (.cells #[] 5)
  have HB0 := Lib.hid hb0
  have H1 := Lib.hid (h1.below hb0)
  have hadd : IntKind.i64.wrap ((k : Int) + (x.length : Int)) = (n2 : Int) := by rw [IntWalk.i64_in _ (by omega)]; omega
  have HA1 : Hid (∀ v' w', Mine w' w.heap.size 5 v' ([] ++ cellsB (l.take k)) → Below w.heap.size w w' → ∃ v2 w2, (Builtin.append_ #[22, 22] 22 #[v', .slice A2 x.length c2]).run Try.prog w' = .ok v2 w2 ∧ ∃ v3 w3, (Builtin.append_ #[22, 22] 22 #[v2, .slice A3 (l.length - n2) (c - n2)]).run Try.prog w2 = .ok v3 w3 ∧ ∃ A' c', v3 = .slice A' l.length c' ∧ Rd w3 w3.heap.size (.slice A' l.length c') (cellsB (layB l k x)) ∧ Below w.heap.size w w3) := Lib.hid fun v' w' hv hb => by
    rw [List.nil_append] at hv
    obtain ⟨v2, w2, r2, m2, g2, _⟩ := run_append_rd (P := Try.prog) w.heap.size 22 22 5 i _ 1 Try.underlying22 hi hz0 hz1 hz2 rfl v' _ hv w.heap.size _ _ (hx.below hb) (cellsB_one _) (by simp [cellsB_length]; omega) (by unfold maxLen; simp [cellsB_length]; omega) hb.size
    have b2 : Below w.heap.size w w2 := hb.grown g2 hb.size fun k hk => (World.ownsRow.lt hv k hk).1
    obtain ⟨v3, w3, r3, m3, g3, _⟩ := run_append_rd (P := Try.prog) w.heap.size 22 22 5 i _ 1 Try.underlying22 hi hz0 hz1 hz2 rfl v2 _ m2 w.heap.size _ _ (h2.below b2) (cellsB_one _) (by simp [cellsB_length]; omega) (by unfold maxLen; simp [cellsB_length]; omega) b2.size
    have b3 : Below w.heap.size w w3 := b2.grown g3 b2.size fun k hk => (World.ownsRow.lt m2 k hk).1
    have hlay := layB_length hk
    have e : cellsB (l.take k) ++ cellsB x ++ cellsB (l.drop n2) = cellsB (layB l k x) := by
      unfold layB
      rw [hn2, cellsB_append, cellsB_append, List.append_assoc]
    rw [e] at m3
    obtain ⟨A', c', rfl, _, _, hr'⟩ := m3.rd.bytes
    rw [hlay] at hr'
    refine ⟨v2, w2, r2, _, w3, r3, A', c', by rw [hlay], hr', b3⟩
  have hone := cellsB_one (l.take k)
  have hlt : (cellsB (l.take k)).length = k := by rw [cellsB_length, List.length_take]; omega
  have hkl : (n2 : Int) ≤ (l.length : Int) := by omega
  have hkn : (k : Int) ≤ (c : Int) := by omega
  clear h1 h2 hr hx hr0 hA3 hn2 hb0
  generalize cellsB (layB l k x) = R at *
  generalize cellsB (l.take k) = T at *
  generalize x.length = nx at *
  generalize hm : l.length - n2 = m3 at *
  generalize hc3 : c - n2 = c3 at *
  generalize l.length = m at *
  go_enter Try.func13, Try.ntmps13
  go_wp2_with (at_builtin; refine wpList_append_rd rfl (.tmp 8) (.tmp 11) 22 rfl w.heap.size 5 i _ 1 Try.underlying22 hi hz0 hz1 hz2 rfl _ [] rfl hM _ _ _ rfl H1.out hone (by simp; omega) (by unfold maxLen; simp; omega) (by simp) ?_; intro v4 w4 hown4 hb4 _ _)
  obtain ⟨v5, w5, r5, v6, w6, r6, A6, c6, rfl, hr6, hb6⟩ := HA1.out _ w4.drew hown4 (HB0.out.trans hb4).drew
  have HT := Lib.hid (And.intro hr6 hb6)
  clear hr6 hb6 hown4 hb4 H1 HA1 hM HB0 hone hlt
  refine wp_region_held_drew (S := fun _ => True) (by kernel_rfl) trivial (fun hHeld => ?_)
  refine th 0 ?_
  go_frame
  refine th 1 ?_
  go_frame
  refine th 3 ?_
  go_frame
  refine th 4 ?_
  go_frame
  refine th 5 ?_
  go_frame
  refine th 6 ?_
  go_frame
  refine th 7 (v := .int .i64 (n2 : Int)) ?_ (hy := fun wy hSw => by (go_simp <;> with_reducible rfl))
  go_frame
  refine th 8 (v := .slice A3 m3 c3) ?_ (hy := fun wy hSw => by (go_simp <;> with_reducible rfl))
  go_frame
  refine wpAnyH_ready (rs := [2]) (by kernel_rfl) (by simp) (AllReadyH.cons (o := ⟨some 15, .call { callee := .builtin .append, args := #[.tmp 13, .tmp 14], argTypes := #[22, 22] }, 22, _, _, none⟩) rfl (fun K hK => ?_) AllReadyH.nil)
  rw [if_pos (by kernel_rfl)]
  refine wp_run v5 w5 (exec_append rfl (u := v4) rfl (v := .slice A2 nx c2) rfl r5) ?_
  refine hK.out _ _ trivial (fun _ => ?_)
  clear hK K
  try go_frame
  refine wpAnyH_ready (rs := [9]) (by kernel_rfl) (by simp) (AllReadyH.cons (o := ⟨some 22, .call { callee := .builtin .append, args := #[.tmp 15, .tmp 21], argTypes := #[22, 22] }, 22, _, _, none⟩) rfl (fun K hK => ?_) AllReadyH.nil)
  rw [if_pos (by kernel_rfl)]
  refine wp_run (.slice A6 m c6) w6 (exec_append rfl (u := v5) rfl (v := .slice A3 m3 c3) rfl r6) ?_
  refine hK.out _ _ trivial (fun _ => ?_)
  clear hK K
  try go_frame
  refine th 10 ?_
  go_frame
  refine wpAnyH_done (by kernel_rfl) ?_ _
  go_wp2_with fail
  go_ret
  exact ⟨_, _, rfl, HT.out.1, HT.out.2⟩
theorem pkG_wide (l : List UInt8) : (pkRead l).Wide := by
  by_cases h : pkErr l = 0
  · rw [pkRead_is h]
    exact ⟨pkRH_wide l, (pkRH_wide l).1, (pkRH_wide l).2, sgRead_ports _ _⟩
  · unfold pkRead
    rw [if_neg h]
    exact Pk.none_wide
theorem rd_empty (W : World) : Rd (W.alloc (.cells #[] 5)) (W.alloc (.cells #[] 5)).heap.size (.slice (some ⟨W.heap.size, 0, none⟩) 0 0) (cellsB []) := (Mine.empty W W.heap.size 5 (Nat.le_refl _)).rd
theorem ntHd_wide {h : Hd} (hh : h.Wide) (which : Nat) {to : Ad} (tw : to.Wide) : (ntHd h which to).Wide := by
  unfold ntHd
  split
  · exact ⟨hh.1, tw⟩
  · exact ⟨tw, hh.2⟩
theorem hdC_addr {h : Hd} (hh : h.Wide) {to : Ad} (tw : to.Wide) {which : Nat} (hw : which = 0 ∨ which = 1) : (hdC h).take (3 + 17 * which) ++ adC to ++ (hdC h).drop (3 + 17 * which + 17) = hdC (ntHd h which to) := by
  obtain ⟨six, proto, pos, src, dst, part, hops⟩ := h
  have l1 : (adC src).length = 17 := adC_length hh.1
  have l2 : (adC dst).length = 17 := adC_length hh.2
  rcases hw with e | e
  · subst e
    unfold ntHd hdC
    rw [if_neg (by omega)]
    simp only [Nat.mul_zero, Nat.add_zero, List.cons_append, List.append_assoc, List.take_succ_cons, List.take_zero, List.nil_append, List.drop_succ_cons, Nat.reduceAdd]
    rw [show (17 : Nat) = (adC src).length from l1.symm, List.drop_left]
  · subst e
    unfold ntHd hdC
    rw [if_pos rfl]
    simp only [Nat.mul_one, List.cons_append, List.append_assoc, List.take_succ_cons, List.nil_append, List.drop_succ_cons, Nat.reduceAdd]
    rw [show (17 : Nat) = (adC src).length from l1.symm, List.take_left, show (34 : Nat) = (adC src).length + (adC dst).length by omega, ← List.drop_drop, List.drop_left, List.drop_left]
theorem HdAt.addr {W : World} {g : Nat} {h : Hd} (H : HdAt W g h) (hh : h.Wide) {to : Ad} (tw : to.Wide) {which : Nat} (hw : which = 0 ∨ which = 1) :
    ∃ W', (Instr.storeAt 25 (.pointer (some ⟨g, 3 + 17 * which, none⟩)) (.agg (adC to).toArray)).run Try.prog W = .ok () W' ∧ HdAt W' g (ntHd h which to) ∧ W.grownBy W' (some g) := by
  have hl := hdC_length hh
  obtain ⟨W', h1, h2, h3, h4⟩ := store_agg (P := Try.prog) H (ys := adC to) (adC_one to) (o := 3 + 17 * which) (by rw [hl, adC_length tw]; rcases hw with e | e <;> subst e <;> omega) (ty := 25) (info_ad tw)
  rw [adC_length tw, hdC_addr hh tw hw] at h2
  exact ⟨W', h1, h2, h3⟩
theorem rpk_looks {W : World} {g : Nat} {p : Pk} (hw : p.Wide) (h : PkAt W g p) : (W.rangeAt g 0 (hdC p.head) ∧ W.cell? ⟨g, 2, none⟩ = some (.int .i64 p.head.pos) ∧ W.cell? ⟨g, 42, none⟩ = some (.int .i64 p.sg.sumAt)) ∧ W.cell? ⟨g, 43, none⟩ = some (.bool p.sg.zero) ∧ W.cell? ⟨g, 0, none⟩ = some (.bool p.head.six) := by
  have l1 := hdC_length hw.1
  have hc : ∀ j, W.cell? ⟨g, j, none⟩ = (pkC p)[j]? := fun j => by rw [cell_of_row W g j _ _ _ h, List.getElem?_toArray]
  have hl : ∀ j, j < 39 → W.cell? ⟨g, j, none⟩ = (hdC p.head)[j]? := fun j hj => by rw [hc, pkC, List.getElem?_append_left (by omega)]
  refine ⟨⟨pkC_head hw h, ?_, ?_⟩, pkC_zero hw h, ?_⟩
  · rw [hl 2 (by omega)]; rfl
  · rw [hc 42, pkC, List.getElem?_append_right (by omega), l1, List.getElem?_append_left (by rw [sgC_length]; omega)]; rfl
  · rw [hl 0 (by omega)]; rfl
end Go.Proofs.Ytejppekcniehpaa
