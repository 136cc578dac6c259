/-
  Encode of package node of what fits and is no leaf, by contract.
-/
import Derived.Test.YtceefoopehoalaaNdG
namespace Go.Proofs.Ytceefoopehoalaa
open Go.RowKit
/-- The kid at place k of a sound node, in whatever later world. -/
theorem Rd.laterI {w : World} {B b o n c : Nat} {l : List Int} (h : Rd w B (.slice (some ⟨b, o, none⟩) n c) (cellsI l)) (hok : KidsOk l) {k : Nat} (hk : k < n) :
    ∃ x : Nat, (x : Int) = l.getD k 0 ∧ x < 1600 ∧ ∀ W, Below w.heap.size w W → W.cell? ⟨b, o + k, none⟩ = some (.int .i64 (x : Int)) := by
  have hc := h.cellI hk
  have hl := h.lenI.1
  have hd := hok k (by omega)
  obtain ⟨x, hx⟩ := Int.eq_ofNat_of_zero_le hd.1
  have h2 := hd.2
  refine ⟨x, hx.symm, by omega, fun W hW => ?_⟩
  rw [← hx]
  exact (hW.cell (p := ⟨b, o + k, none⟩) (World.block_lt_of_cell? _ _ hc)).trans hc
set_option maxHeartbeats 2000000 in
theorem encode_not {n : Nd} {K V D : Value} {w : World} {B : Nat} (hr : NdIs w B K V D n) (hB : B ≤ w.heap.size) (hsh : n.Short 1000000) (hs : n.Snd) (hl : n.leaf = false) (hk : n.keys.length ≤ 255) (hfit : n.size ≤ 232) :
    Calls Try.prog 26 #[ndVal false K V D] w fun e w' => ∃ v, e = .returned (.tuple #[v, .int .i64 0]) ∧ Mine w' w.heap.size 5 v (cellsB n.bytes) ∧ Below w.heap.size w w' := by
  obtain ⟨ti, hi, hz0, hz1, hz2⟩ := info_parts info_row
  have hsnd := fun (W : World) (hb : Below w.heap.size w W) => sound_any (hr.below (hb.mono hB)) (Nat.le_trans hB hb.size) hsh
  have hsize := fun (W : World) (hb : Below w.heap.size w W) => size_any (hr.below (hb.mono hB)) (Nat.le_trans hB hb.size) hs hsh
  have hkey := fun (i : Nat) (hi : i < n.keys.length) => (hs.keys i hi).1.2
  obtain ⟨A1, c1, A2, c2, A3, c3, rfl, rfl, rfl⟩ := hr.form
  have hdl := (hs.ofNot hl).2.2
  have hkids := hs.kids
  rw [hdl] at hsnd hsize hr ⊢
  have hparts := n.parts_len
  have hps := n.parts_size n.keys.length
  have hfl : (n.parts n.keys.length).flatten.length ≤ 1000000000 := by rw [hps]; have : n.size ≤ 232 := hfit; unfold Nd.size at this; omega
  have hstep := Nd.parts_not hl
  have hhead : n.parts 0 = [be 1 n.keys.length, be 2 (n.kids.getD 0 0).toNat] := by unfold Nd.parts Nd.head; rw [if_neg (by simp [hl])]
  have hbytes : n.bytes = (n.parts n.keys.length).flatten := rfl
  obtain ⟨a, ha⟩ : ∃ a, a = n.keys.length := ⟨_, rfl⟩
  obtain ⟨z, hz⟩ : ∃ z, z = n.size := ⟨_, rfl⟩
  rw [← hz] at hsize hfit
  rw [hl] at hsnd hsize
  rw [← ha] at hsnd hsize hk hr hkey hfl hhead hbytes ⊢
  obtain ⟨b3, o3, rfl, _⟩ := hr.kids.addrI (by omega)
  obtain ⟨y, hy, hy2, hyc⟩ := hr.kids.laterI hkids (k := 0) (by omega)
  rw [← hy] at hhead
  have hb0 : Below w.heap.size w (w.alloc (.cells #[.bool false, .slice A1 a c1, .slice A2 n.vals.length c2, .slice (some ⟨b3, o3, none⟩) (a + 1) c3] 27)) := (Below.refl _ _).alloc (Nat.le_refl _) _
  have hbox := NdBox.made w false (.slice A1 a c1) (.slice A2 n.vals.length c2) (.slice (some ⟨b3, o3, none⟩) (a + 1) c3)
  have h1 := hsnd _ hb0
  rw [sndB_iff.2 hs] at h1
  have HB := Lib.hid hb0
  have HX := Lib.hid hbox
  have HZ := Lib.hid hsize
  have HR := Lib.hid hr
  have HK := Lib.hid hkey
  have HKD := Lib.hid hkids
  have HP := Lib.hid hparts
  have HFL := Lib.hid hfl
  have HST := Lib.hid hstep
  have HH := Lib.hid hhead
  have HBY := Lib.hid hbytes
  have HBw := Lib.hid hB
  have HYC := Lib.hid hyc
  have hk2 : (a : Int) ≤ 255 := by omega
  have hfit2 : (z : Int) ≤ 232 := by omega
  clear hb0 hbox hsnd hsize hr hB ha hs hz hsh hkey hparts hfl hps hstep hhead hbytes hfit hl hdl hkids hy hyc
  go_enter Try.func26, Try.ntmps26
  go_wp2_with (go_at_call 37; refine h1.mono ?_; rintro e w1 ⟨rfl, hb⟩; obtain ⟨x0, x1, x2, x3⟩ := HX.out.later HX.out.lt hb; have Hb1 := Lib.hid (up HB.out hb); clear hb h1)
  have HX1 := Lib.hid (NdBox.mk x0 x1 x2 x3)
  refine (HZ.out _ Hb1.out).mono ?_
  rintro e w2 ⟨rfl, hb⟩
  clear x0 x1 x2 x3
  have HX2 := Lib.hid (HX1.out.later HX1.out.lt hb)
  obtain ⟨x0, x1, x2, x3⟩ := HX2.out
  have Hb2 := Lib.hid (up Hb1.out hb)
  clear hb
  go_wp2_with fail
  refine (number_any a 1 w2 (by omega) (by omega) (by omega)).mono ?_
  rintro e w3 ⟨Av3, cv3, rfl, hown3, hb⟩
  clear x0 x1 x2 x3
  have HX3 := Lib.hid (HX2.out.later HX2.out.lt hb)
  have Hb3 := Lib.hid (up Hb2.out hb)
  have Hrow := Lib.hid (OwnAll.lit1 (base := w.heap.size + 1) (w := w3) HX3.out.lt ((hown3.far (gs := []) (fun g hg => by simp at hg))))
  have HX4 := Lib.hid (HX3.out.later HX3.out.lt ((Below.refl w3.heap.size w3).alloc (Nat.le_refl _) (.cells #[.slice Av3 1 cv3] 22)))
  have Hb4 := Lib.hid (up_alloc Hb3.out (.cells #[.slice Av3 1 cv3] 22))
  obtain ⟨x0, x1, x2, x3⟩ := HX4.out
  have hyc := HYC.out _ Hb4.out
  rw [Nat.add_zero] at hyc
  clear hb hown3
  go_wp2_with fail
  refine (number_any y 2 _ (by omega) (by omega) (by omega)).mono ?_
  rintro e w14 ⟨Av14, cv14, rfl, hown14, hb⟩
  have Hb14 := Lib.hid (up Hb4.out hb)
  have HX14 := Lib.hid (HX4.out.later HX4.out.lt hb)
  have Ho14 := Lib.hid (Hrow.out.kept hb)
  have Hf14 := Lib.hid (hown14.farAll Hrow.out)
  clear hb hown14 x0 x1 x2 x3 hyc
  go_wp2_with (at_builtin; refine wpList_append_all rfl (.tmp 27) (.tmp 33) 24 rfl (w.heap.size + 1) ti _ Try.underlying24 hi hz0 hz1 hz2 rfl (.slice (some ⟨w3.heap.size, 0, none⟩) 1 1) [be 1 a] rfl (Ho14.out.alloc _) (w14.heap.size + 1) _ _ rfl (FarAll.lit1 Hf14.out _) (by simp) (by simp) (by have := HX14.out.lt; simp; omega) ?_; intro v16 w16 hown16 hb16; have Hb16 := Lib.hid ((up_alloc Hb14.out (.cells #[.slice Av14 2 cv14] 22)).trans (hb16.mono (Nat.le_succ _))); have HX16 := Lib.hid ((HX14.out.later HX14.out.lt ((Below.refl w14.heap.size w14).alloc (Nat.le_refl _) (.cells #[.slice Av14 2 cv14] 22))).later (Nat.lt_succ_self _) hb16); obtain ⟨x0, x1, x2, x3⟩ := HX16.out)
  have Hrow0 : Hid (OwnAll w16 (w.heap.size + 1) v16 (n.parts 0)) := Lib.hid (by rw [HH.out]; exact hown16)
  clear Hrow x0 x1 x2 x3 hown16 hb16
  go_loopw [4, 38] (fun pv iv wr => ∃ k : Nat, k ≤ a ∧ iv = .int .i64 (k : Int) ∧ Hid (OwnAll wr (w.heap.size + 1) pv (n.parts k) ∧ NdBox wr w.heap.size false (.slice A1 a c1) (.slice A2 n.vals.length c2) (.slice (some ⟨b3, o3, none⟩) (a + 1) c3) ∧ Below w.heap.size w wr)) (fun _ iv _ => a - (intOf iv).toNat)
  case atStart => exact ⟨0, Nat.zero_le _, rfl, Lib.hid ⟨Hrow0.out, HX16.out, Hb16.out⟩⟩
  case round =>
    obtain ⟨k, hk1, rfl, HI⟩ := hrel
    by_cases hlt : k < a
    · obtain ⟨b, o, rfl, _⟩ := HR.out.keys.addr (by omega)
      obtain ⟨A', m, c', hm, hmc, hmx, hkl⟩ := HR.out.keys.later HBw.out hlt
      obtain ⟨x, hx, hx2, hxc⟩ := HR.out.kids.laterI HKD.out (k := k + 1) (by omega)
      have hm24 : m ≤ 24 := by rw [hm]; exact HK.out k hlt
      have hc := (hkl wr HI.out.2.2).1
      have Hkl := Lib.hid hkl
      have Hm := Lib.hid hm
      have Hxv := Lib.hid hx
      have Hxc := Lib.hid hxc
      have hk0 : (0 : Int) ≤ (k : Int) := by omega
      have hka : (k : Int) < (a : Int) := by omega
      have htk : (k : Int).toNat = k := by omega
      clear hm hkl hx hxc
      go_wp2_with fail
      refine (number_any m 1 wr (by omega) (by omega) (by omega)).mono ?_
      rintro e w5 ⟨Av5, cv5, rfl, hown5, hb5⟩
      have Hf5 := Lib.hid (hown5.farAll HI.out.1)
      have HX5 := Lib.hid (HI.out.2.1.later HI.out.2.1.lt hb5)
      have Ho5 := Lib.hid (HI.out.1.kept hb5)
      have Hb5 := Lib.hid (up HI.out.2.2 hb5)
      have Hkf := Lib.hid (((Hkl.out w5 Hb5.out).2.2 _ HI.out.1.above))
      clear hown5 hb5
      go_wp2_with (at_builtin; refine wpList_append_all rfl (.tmp 43) (.tmp 48) 24 rfl (w.heap.size + 1) ti _ Try.underlying24 hi hz0 hz1 hz2 rfl u4 (n.parts k) rfl (Ho5.out.alloc _) (w5.heap.size + 1) _ _ rfl (FarAll.lit2 Hf5.out Hkf.out _) (by simp) (by have := HP.out k; simp; omega) (by have := HX5.out.lt; simp; omega) ?_; intro v6 w6 hown6 hb6; have Hb6 := Lib.hid ((up_alloc Hb5.out (.cells #[.slice Av5 1 cv5, .slice A' m c'] 22)).trans (hb6.mono (Nat.le_succ _))); have HX6 := Lib.hid ((HX5.out.later HX5.out.lt ((Below.refl w5.heap.size w5).alloc (Nat.le_refl _) (.cells #[.slice Av5 1 cv5, .slice A' m c'] 22))).later (Nat.lt_succ_self _) hb6); obtain ⟨x0, x1, x2, x3⟩ := HX6.out; have hxc := Hxc.out _ Hb6.out)
      have Ho6 : Hid (OwnAll w6 (w.heap.size + 1) v6 (n.parts k ++ [be 1 (n.keys.getD k []).length, n.keys.getD k []])) := Lib.hid (by rw [← Hm.out]; exact hown6)
      clear hown6 hb6 hc x0 x1 x2 x3 hxc
      refine (number_any x 2 _ (by omega) (by omega) (by omega)).mono ?_
      rintro e w7 ⟨Av7, cv7, rfl, hown7, hb7⟩
      have Hb7 := Lib.hid (up Hb6.out hb7)
      have HX7 := Lib.hid (HX6.out.later HX6.out.lt hb7)
      have Ho7 := Lib.hid (Ho6.out.kept hb7)
      have Hf7 := Lib.hid (hown7.farAll Ho6.out)
      clear hb7 hown7
      go_wp2_with (at_builtin; refine wpList_append_all rfl (.tmp 67) (.tmp 75) 24 rfl (w.heap.size + 1) ti _ Try.underlying24 hi hz0 hz1 hz2 rfl v6 _ rfl (Ho7.out.alloc _) (w7.heap.size + 1) _ _ rfl (FarAll.lit1 Hf7.out _) (by simp) (by have := HP.out k; simp; omega) (by have := HX7.out.lt; simp; omega) ?_; intro v9 w9 hown9 hb9; have Hb9 := Lib.hid ((up_alloc Hb7.out (.cells #[.slice Av7 2 cv7] 22)).trans (hb9.mono (Nat.le_succ _))); have HX9 := Lib.hid ((HX7.out.later HX7.out.lt ((Below.refl w7.heap.size w7).alloc (Nat.le_refl _) (.cells #[.slice Av7 2 cv7] 22))).later (Nat.lt_succ_self _) hb9))
      go_roundw
      case rel =>
        refine ⟨k + 1, by omega, by go_num, Lib.hid ⟨?_, HX9.out, Hb9.out⟩⟩
        rw [HST.out k, ← Hxv.out]
        exact hown9
      case measure => simp [intOf]; omega
    · have : k = a := by omega
      subst this
      obtain ⟨Ap, cp, rfl⟩ := HI.out.1.form
      have hrd := HI.out.1.rd
      have hby := bytes_any Ap _ cp _ wr wr.heap.size hrd (Nat.le_refl _) HFL.out
      rw [← HBY.out] at hby
      obtain ⟨np, hnp⟩ : ∃ np, np = (n.parts k).length := ⟨_, rfl⟩
      rw [← hnp] at hby ⊢
      have HBc := Lib.hid hby
      clear hby hrd hnp
      go_wp2_with (go_at_call 43; refine HBc.out.mono ?_; rintro e w9 ⟨v9, rfl, hown9, hb9⟩)
      go_ret2
      exact ⟨_, rfl, hown9.weaken HI.out.2.2.size, up HI.out.2.2 hb9⟩
end Go.Proofs.Ytceefoopehoalaa
