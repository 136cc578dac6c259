/-
  Write: contracts.
-/
import Derived.Test.YtpgibabgedokpaaSxC
import Derived.Test.YtpgibabgedokpaaAdC
import Derived.Test.YtpgibabgedokpaaNumC
namespace Go.Proofs.Ytpgibabgedokpaa
open Go.RowKit
set_option maxRecDepth 100000 in
theorem sxWrite_arg (h : Hd) (hw : h.Wide) (hm : h.may6 = false) (v : Value) (w : World) :
    Calls Try.prog 20 #[hdV h, v] w fun e w' => e = .returned (.tuple #[.slice none 0 0, .int .i64 1]) ∧ Below w.heap.size w w' := by
  have hat := heap_alloc_last w (.cells (hdC h).toArray 28)
  have hb0 := up_alloc (Below.refl w.heap.size w) (.cells (hdC h).toArray 28)
  have hf := fun w => sxWritten_any h w hw
  have hi := info_hdA hw
  rw [hdV] at hf ⊢
  rw [hm] at hf
  have Hf := Lib.hid hf
  have Hb := Lib.hid hb0
  clear hf hb0 hw hm
  generalize (hdC h).toArray = C at *
  go_enter Try.func20, Try.ntmps20
  go_wp2_with (first
    | ((with_reducible refine wpList_load_row (o := ⟨some 8, .load 28 (.tmp 2), _, _, _, _⟩) rfl 28 (.tmp 2) rfl w.heap.size ?_ 28 C (0, 0) _ hat Try.underlying28 rfl hi ?_); exact rfl)
    | (go_at_call 35; refine (Hf.out _).mono ?_; rintro _ w1 ⟨rfl, hb1⟩))
  go_ret2
  exact ⟨rfl, up Hb.out hb1⟩
set_option maxRecDepth 100000 in
theorem sxWrite_long (h : Hd) (hw : h.Wide) (hm : h.may6 = true) (A : Option Addr) (n c : Nat) (hn : 2008 < n) (w : World) :
    Calls Try.prog 20 #[hdV h, .slice A n c] w fun e w' => e = .returned (.tuple #[.slice none 0 0, .int .i64 10]) ∧ Below w.heap.size w w' := by
  have hat := heap_alloc_last w (.cells (hdC h).toArray 28)
  have hb0 := up_alloc (Below.refl w.heap.size w) (.cells (hdC h).toArray 28)
  have hf := fun w => sxWritten_any h w hw
  have hi := info_hdA hw
  rw [hdV] at hf ⊢
  rw [hm] at hf
  have Hf := Lib.hid hf
  have Hb := Lib.hid hb0
  clear hf hb0 hw hm
  generalize (hdC h).toArray = C at *
  go_enter Try.func20, Try.ntmps20
  go_wp2_with (first
    | ((with_reducible refine wpList_load_row (o := ⟨some 8, .load 28 (.tmp 2), _, _, _, _⟩) rfl 28 (.tmp 2) rfl w.heap.size ?_ 28 C (0, 0) _ hat Try.underlying28 rfl hi ?_); exact rfl)
    | (go_at_call 35; refine (Hf.out _).mono ?_; rintro _ w1 ⟨rfl, hb1⟩))
  go_ret2
  exact ⟨rfl, up Hb.out hb1⟩
/-- What Write calls. -/
structure SxFacts (h : Hd) (data : List UInt8) (m : Nat) (F : List UInt8) : Prop where
  put : ∀ W, Calls Try.prog 36 #[.slice none 0 0, .int .u64 (m : Int), .int .i64 2] W fun e w' => ∃ A2 c2, e = .returned (.slice A2 2 c2) ∧ Rd w' w'.heap.size (.slice A2 2 c2) (cellsB (be 2 m)) ∧ Below W.heap.size W w'
  first : ∀ W A2 c2, Rd W W.heap.size (.slice A2 2 c2) (cellsB (be 2 m)) → Calls Try.prog 37 #[.slice (some ⟨W.heap.size + 1 + 1, 0, none⟩) 3 3] (((W.alloc (.cells #[.int .u8 96, .int .u8 0, .int .u8 0, .int .u8 0] 5)).alloc (.cells #[.int .u8 (h.proto.toNat : Int), .int .u8 (h.hops.toNat : Int)] 5)).alloc (.cells #[.slice (some ⟨W.heap.size, 0, none⟩) 4 4, .slice A2 2 c2, .slice (some ⟨W.heap.size + 1, 0, none⟩) 2 2] 22)) fun e w' => ∃ A3 c3, e = .returned (.slice A3 8 c3) ∧ Rd w' w'.heap.size (.slice A3 8 c3) (cellsB F) ∧ Below W.heap.size W w'
  own : ∀ a : Ad, a = h.src ∨ a = h.dst → ∀ W, Calls Try.prog 38 #[.agg (adC a).toArray] W fun e w' => ∃ A4 c4, e = .returned (.slice A4 16 c4) ∧ Rd w' w'.heap.size (.slice A4 16 c4) (cellsB a.own) ∧ Below W.heap.size W w'
  all : ∀ W A3 c3 A4 c4 A5 c5 A c, Rd W W.heap.size (.slice A3 8 c3) (cellsB F) → Rd W W.heap.size (.slice A4 16 c4) (cellsB h.src.own) → Rd W W.heap.size (.slice A5 16 c5) (cellsB h.dst.own) → Rd W W.heap.size (.slice A m c) (cellsB data) → Calls Try.prog 37 #[.slice (some ⟨W.heap.size, 0, none⟩) 4 4] (W.alloc (.cells #[.slice A3 8 c3, .slice A4 16 c4, .slice A5 16 c5, .slice A m c] 22)) fun e w' => ∃ v', e = .returned v' ∧ Mine w' W.heap.size 5 v' (cellsB (sxBytes h data)) ∧ Below W.heap.size W w'
theorem sxFacts (h : Hd) (hw : h.Wide) (hm : h.may6 = true) (data : List UInt8) (hd : data.length ≤ 2008) : SxFacts h data data.length (sxHead h data.length) := by
  obtain ⟨_, h2, h3, _⟩ := Hd.may6_parts hm
  have l1 : h.src.own.length = 16 := by rw [own_six h2]; exact hw.1
  have l2 : h.dst.own.length = 16 := by rw [own_six h3]; exact hw.2
  have lF : (sxHead h data.length).length = 8 := by simp [sxHead, be_length]
  refine ⟨?_, ?_, ?_, ?_⟩
  · intro W
    refine (put_yes none 0 [] data.length 2 W W.heap.size (Rd.nil _ _) (Nat.le_refl _) (by simp) (by omega) (by omega)).mono ?_
    rintro e w' ⟨v, rfl, hv, hb⟩
    obtain ⟨A2, c2, rfl, hr⟩ := mine_slice (w := W) hv (n := 2) (by simp [be_length])
    exact ⟨A2, c2, rfl, hr, hb⟩
  · intro W A2 c2 hr
    have e1 := rd_lit W 5 [96, 0, 0, 0] (by simp)
    have e2 := rd_lit (W.alloc (.cells (cellsB [96, 0, 0, 0]).toArray 5)) 5 [h.proto, h.hops] (by simp)
    have b1 := up_alloc (Below.refl W.heap.size W) (.cells (cellsB [96, 0, 0, 0]).toArray 5)
    have b2 := up_alloc b1 (.cells (cellsB [h.proto, h.hops]).toArray 5)
    have hV : ((W.alloc (.cells (cellsB [96, 0, 0, 0]).toArray 5)).alloc (.cells (cellsB [h.proto, h.hops]).toArray 5)).heap.size = W.heap.size + 1 + 1 := by simp
    have hV1 : (W.alloc (.cells (cellsB [96, 0, 0, 0]).toArray 5)).heap.size = W.heap.size + 1 := by simp
    have e1' := (e1.alloc (by rw [hV1]; exact Nat.le_refl _) (.cells (cellsB [h.proto, h.hops]).toArray 5)).more (B' := W.heap.size + 1 + 1) (by omega)
    rw [hV1] at e2
    have hr' := (hr.below b2).more (B' := W.heap.size + 1 + 1) (by omega)
    have hc := bytes_three (w := (W.alloc (.cells (cellsB [96, 0, 0, 0]).toArray 5)).alloc (.cells (cellsB [h.proto, h.hops]).toArray 5)) _ _ _ [96, 0, 0, 0] (be 2 data.length) [h.proto, h.hops] 22 (by rw [hV]; exact e1') (by rw [hV]; exact hr') (by rw [hV]; exact e2) (by simp [be_length])
    rw [hV] at hc
    refine hc.mono ?_
    rintro e w' ⟨v, rfl, hv, hb⟩
    rw [← List.append_assoc] at hv
    obtain ⟨A3, c3, rfl, hr3⟩ := mine_slice (w := W) hv (n := 8) lF
    exact ⟨A3, c3, rfl, hr3, b2.trans (hb.mono (by omega))⟩
  · intro a ha W
    refine (adBytes_any a W (by rcases ha with rfl | rfl; exact hw.1; exact hw.2)).mono ?_
    rintro e w' ⟨v, rfl, hv, hb⟩
    obtain ⟨A4, c4, rfl, hr⟩ := mine_slice (w := W) hv (n := 16) (by rcases ha with rfl | rfl; exact l1; exact l2)
    exact ⟨A4, c4, rfl, hr, hb⟩
  · intro W A3 c3 A4 c4 A5 c5 A c h3 h4 h5 hA
    exact bytes_four _ _ _ _ (sxHead h data.length) h.src.own h.dst.own data 22 h3 h4 h5 hA (by rw [lF]; omega)
set_option maxRecDepth 100000 in
set_option maxHeartbeats 1000000 in
theorem sxWrite_ok (h : Hd) (hw : h.Wide) (hm : h.may6 = true) (A : Option Addr) (c : Nat) (data : List UInt8) (hd : data.length ≤ 2008) (w : World) (B : Nat) (hB : B ≤ w.heap.size) (hr : Rd w B (.slice A data.length c) (cellsB data)) :
    Calls Try.prog 20 #[hdV h, .slice A data.length c] w fun e w' => ∃ v, e = .returned (.tuple #[v, .int .i64 0]) ∧ Mine w' w.heap.size 5 v (cellsB (sxBytes h data)) ∧ Below w.heap.size w w' := by
  have hat : HdAt (w.alloc (.cells (hdC h).toArray 28)) w.heap.size h := heap_alloc_last w (.cells (hdC h).toArray 28)
  have hat0 := hat
  unfold HdAt at hat0
  have hb0 := up_alloc (Below.refl w.heap.size w) (.cells (hdC h).toArray 28)
  have hf := fun w => sxWritten_any h w hw
  have hi := info_hdA hw
  have i1 := info_ad hw.1
  have i2 := info_ad hw.2
  have H := sxFacts h hw hm data hd
  have hF : Hid (∀ W, Below (w.alloc (.cells (hdC h).toArray 28)).heap.size (w.alloc (.cells (hdC h).toArray 28)) W → W.cell? ⟨w.heap.size, 38, none⟩ = some (.int .u8 (h.hops.toNat : Int)) ∧ W.cell? ⟨w.heap.size, 1, none⟩ = some (.int .u8 (h.proto.toNat : Int)) ∧ W.rangeAt w.heap.size 3 (adC h.src) ∧ W.rangeAt w.heap.size 20 (adC h.dst)) := Lib.hid fun W hW => by
    have h1 : HdAt W w.heap.size h := hat.below hW (by simp)
    exact ⟨hdC_hops hw h1, hdC_proto h1, hdC_src h1, hdC_dst hw h1⟩
  have hD : Hid (∀ W, Below (w.alloc (.cells (hdC h).toArray 28)).heap.size (w.alloc (.cells (hdC h).toArray 28)) W → Rd W W.heap.size (.slice A data.length c) (cellsB data) ∧ Below w.heap.size w W) := Lib.hid fun W hW => ⟨(hr.below ((up hb0 hW).mono hB)).more (by have := (up hb0 hW).size; omega), up hb0 hW⟩
  rw [hdV] at hf ⊢
  rw [hm] at hf
  obtain ⟨m, hm'⟩ : ∃ m, m = data.length := ⟨_, rfl⟩
  have hwu : IntKind.u64.wrap (m : Int) = (m : Int) := IntWalk.u64_in _ (by omega)
  have Hf := Lib.hid hf
  have hd2 : (m : Int) ≤ 2008 := by omega
  rw [← hm'] at H hD ⊢
  have HP1 := Lib.hid H.put
  have H1 := Lib.hid H.first
  have H2 := Lib.hid (H.own h.src (.inl rfl))
  have H3 := Lib.hid (H.own h.dst (.inr rfl))
  have H6 := Lib.hid H.all
  clear hm' hf hb0 hw hm hat hd H hr
  generalize sxHead h m = F at *
  generalize hC1 : adC h.src = C1 at *
  generalize hC2 : adC h.dst = C2 at *
  generalize (hdC h).toArray = C at *
  clear hC1 hC2
  go_enter Try.func20, Try.ntmps20
  go_wp2_with (first
    | ((with_reducible refine wpList_load_row (o := ⟨some 8, .load 28 (.tmp 2), _, _, _, _⟩) rfl 28 (.tmp 2) rfl w.heap.size ?_ 28 C (0, 0) _ hat0 Try.underlying28 rfl hi ?_); exact rfl)
    | (go_at_call 35; refine (Hf.out _).mono ?_; rintro _ w1 ⟨rfl, hb1⟩; have HB1 := Lib.hid hb1; clear hb1)
    | (go_at_call 36; refine (HP1.out _).mono ?_; rintro _ w2 ⟨A2, c2, rfl, hr2, hb2⟩; have HB2 := Lib.hid (up HB1.out hb2); have HR2 := Lib.hid hr2; clear hr2 hb2; obtain ⟨k38, k1, _, _⟩ := hF.out _ (up_alloc HB2.out (.cells #[.int .u8 96, .int .u8 0, .int .u8 0, .int .u8 0] 5)))
    | (go_at_call 37; refine (H1.out _ _ _ HR2.out).mono ?_; rintro _ w3 ⟨A3, c3, rfl, hr3, hb3⟩; have HB3 := Lib.hid (up HB2.out hb3); have HR3 := Lib.hid hr3; clear hr3 hb3 k38 k1; have k3 := (hF.out _ HB3.out).2.2))
  refine wp_region_held_drew (S := fun w' => w'.rangeAt w.heap.size 3 C1 ∧ w'.rangeAt w.heap.size 20 C2) (by kernel_rfl) k3 (fun hHeld => ?_)
  refine th 0 ?_
  go_frame
  refine th 1 ?_
  go_frame
  refine th 2 (v := .agg C1.toArray) ?_ (hy := fun wy hSw => by exact exec_load (t := 26) (x := .tmp 28) rfl (pv := .pointer (some ⟨w.heap.size, 3, none⟩)) rfl (run_loadAt_mid wy w.heap.size 3 26 C1 _ hSw.1 Try.underlying26 rfl i1))
  go_frame
  refine th 4 ?_
  go_frame
  refine th 5 (v := .agg C2.toArray) ?_ (hy := fun wy hSw => by exact exec_load (t := 26) (x := .tmp 31) rfl (pv := .pointer (some ⟨w.heap.size, 20, none⟩)) rfl (run_loadAt_mid wy w.heap.size 20 26 C2 _ hSw.2 Try.underlying26 rfl i2))
  go_frame
  refine th 7 ?_
  go_frame
  refine wpAnyH_ready (rs := [3]) (by kernel_rfl) (by simp) (AllReadyH.cons (o := ⟨some 30, .call { callee := .value (.func 38), args := #[.tmp 29], argTypes := #[26] }, _, _, _, none⟩) rfl (fun K hK => ?_) AllReadyH.nil)
  rw [if_pos (by kernel_rfl)]
  go_simp
  refine (H2.out _).mono ?_
  rintro _ w4 ⟨A4, c4, rfl, hr4, hb4⟩
  have HB34 := Lib.hid (drew_start hb4)
  have HB4 := Lib.hid (up HB3.out HB34.out)
  have HR4 := Lib.hid hr4
  clear hr4 hb4
  dsimp only
  refine hK.out _ _ ((hF.out _ HB4.out).2.2) (fun _ => ?_)
  clear hK K
  try go_frame
  refine wpAnyH_ready (rs := [6]) (by kernel_rfl) (by simp) (AllReadyH.cons (o := ⟨some 33, .call { callee := .value (.func 38), args := #[.tmp 32], argTypes := #[26] }, _, _, _, none⟩) rfl (fun K hK => ?_) AllReadyH.nil)
  rw [if_pos (by kernel_rfl)]
  go_simp
  refine (H3.out _).mono ?_
  rintro _ w5 ⟨A5, c5, rfl, hr5, hb5⟩
  have HB45 := Lib.hid hb5
  have HB5 := Lib.hid (up HB4.out hb5)
  have HR5 := Lib.hid hr5
  clear hr5 hb5
  dsimp only
  refine hK.out _ _ ((hF.out _ HB5.out).2.2) (fun _ => ?_)
  clear hK K
  try go_frame
  refine wpAnyH_ready (rs := [8]) (by kernel_rfl) (by simp) (AllReadyH.cons (o := ⟨some 35, .buildSlice 85 4 #[(0, .tmp 27), (1, .tmp 30), (2, .tmp 33), (3, .tmp 34)], _, _, _, none⟩) rfl (fun K hK => ?_) AllReadyH.nil)
  rw [if_pos (by kernel_rfl)]
  go_simp
  refine hK.out _ _ ((hF.out _ (up_alloc HB5.out _)).2.2) (fun _ => ?_)
  clear hK K
  try go_frame
  refine wpAnyH_ready (rs := [9]) (by kernel_rfl) (by simp) (AllReadyH.cons (o := ⟨some 36, .call { callee := .value (.func 37), args := #[.tmp 35], argTypes := #[85] }, _, _, _, none⟩) rfl (fun K hK => ?_) AllReadyH.nil)
  rw [if_pos (by kernel_rfl)]
  go_simp
  refine (H6.out _ _ _ _ _ _ _ _ _ ((HR3.out.below (HB34.out.trans (HB45.out.mono HB34.out.size))).more (HB34.out.trans (HB45.out.mono HB34.out.size)).size) ((HR4.out.below HB45.out).more HB45.out.size) HR5.out (hD.out _ HB5.out).1).mono ?_
  rintro _ w8 ⟨v8, rfl, hv8, hb8⟩
  have HT := Lib.hid (And.intro hv8 hb8)
  have HB8 := Lib.hid (up HB5.out hb8)
  clear hv8 hb8
  dsimp only
  refine hK.out _ _ ((hF.out _ HB8.out).2.2) (fun _ => ?_)
  clear hK K
  try go_frame
  refine th 10 ?_
  go_frame
  refine th 11 ?_
  go_frame
  refine wpAnyH_done (by kernel_rfl) ?_ _
  clear k3
  go_wp2_with fail
  go_ret2
  have hfin := (hD.out _ HB5.out).2
  exact ⟨_, rfl, HT.out.1.weaken hfin.size, up hfin HT.out.2⟩
end Go.Proofs.Ytpgibabgedokpaa
