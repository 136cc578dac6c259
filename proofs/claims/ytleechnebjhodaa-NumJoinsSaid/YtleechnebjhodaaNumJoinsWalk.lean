import Derived.Test.YtleechnebjhodaaNumGetsWalk
import Derived.Deep.RegionLaw
namespace Go.Proofs.Ytleechnebjhodaa
open Go.RowKit
theorem info_bs : (Try.prog.info? 22).map (fun i => (i.zero, i.size, i.bytes)) = some (some (.slice none 0 0), 1, 24) := by kernel_rfl
/-- The texts, each cut off. -/
def cut60 (ls : List (List UInt8)) : List (List UInt8) := ls.map (·.take 60)
theorem cut60_len (ls : List (List UInt8)) : (cut60 ls).length = ls.length := by simp [cut60]
theorem cut60_at (ls : List (List UInt8)) (k : Nat) (h : k < ls.length) : (cut60 ls)[k]'(by rw [cut60_len]; exact h) = ls[k].take 60 := by simp [cut60]
theorem cut60_small : ∀ (ls : List (List UInt8)), (cut60 ls).flatten.length ≤ 60 * ls.length
  | [] => by simp [cut60]
  | l :: ls => by
    have := cut60_small ls
    simp only [cut60, List.map_cons, List.flatten_cons, List.length_append, List.length_cons] at this ⊢
    have h : (l.take 60).length ≤ 60 := by simp; omega
    omega
/-- The parts that are gathered in 'own': one behind the other, each in a block that neither 'want' nor 'own' lies in. -/
def Parts (w : World) (gs : List (Option Nat)) (vs : List Value) (ls : List (List UInt8)) : Prop :=
  vs.length = ls.length ∧ ∀ (k : Nat) (u : Value) (l : List UInt8), vs[k]? = some u → ls[k]? = some l → Far w w.heap.size gs u (cellsB l)
theorem Parts.all {w : World} {gs : List (Option Nat)} {vs : List Value} {ls : List (List UInt8)} {base : Nat} {e : TypeId} {v : Value} (h : Parts w gs vs ls) (hv : Mine w base e v vs) : RdAll w w.heap.size v ls :=
  ⟨vs, hv.rd, h.1, fun k u l a b => (h.2 k u l a b).rd⟩
/-- One round of the loop, told of the memory: p is made, 'want' grows by its bytes, 'own' by itself. -/
theorem parts_round {B0 : Nat} {w w1 w2 w3 : World} {want own p want' own' : Value} {xs : List Value} {vs : List Value} {ls : List (List UInt8)} {l : List UInt8} {cs : Array Value} {ct : TypeId}
    (hwant : Mine w B0 5 want xs) (hown : Mine w B0 22 own vs) (hparts : Parts w [want.ownBlock, own.ownBlock] vs ls)
    (hp : Mine w1 w.heap.size 5 p (cellsB l)) (hb1 : Below w.heap.size w w1)
    (hg2 : w1.grownBy w2 want.ownBlock) (hn2 : want'.ownBlock = want.ownBlock ∨ want'.ownBlock = some w1.heap.size)
    (hg3 : (w2.alloc (.cells cs ct)).grownBy w3 own.ownBlock) (hn3 : own'.ownBlock = own.ownBlock ∨ own'.ownBlock = some (w2.heap.size + 1)) :
    Parts w3 [want'.ownBlock, own'.ownBlock] (vs ++ [p]) (ls ++ [l]) := by
  have s1 := hb1.size
  have s2 := hg2.size
  have s3 := hg3.size
  simp at s3
  have go : ∀ (u : Value) (m : List Value), Far w1 w1.heap.size [want.ownBlock, own.ownBlock] u m → Far w3 w3.heap.size [want'.ownBlock, own'.ownBlock] u m := by
    intro u m h
    have h2 := h.grown hg2 (Nat.le_refl _) (by simp)
    have h3 : Far (w2.alloc (.cells cs ct)) w1.heap.size [want.ownBlock, own.ownBlock] u m := h2.below ((Below.refl _ _).alloc s2 _)
    have h4 := h3.grown hg3 (by simp; omega) (by simp)
    refine (h4.other fun g hg => ?_).more (by omega)
    simp only [List.mem_cons, List.not_mem_nil, or_false] at hg
    rcases hg with rfl | rfl
    · rcases hn2 with e | e
      · exact .inl (by rw [e]; simp)
      · exact .inr fun k hk => by rw [e] at hk; injection hk with hk; omega
    · rcases hn3 with e | e
      · exact .inl (by rw [e]; simp)
      · exact .inr fun k hk => by rw [e] at hk; injection hk with hk; omega
  refine ⟨by simp [hparts.1], fun k u m a b => ?_⟩
  by_cases hk : k < vs.length
  · rw [List.getElem?_append_left hk] at a
    rw [List.getElem?_append_left (by rw [← hparts.1]; exact hk)] at b
    exact go u _ (((hparts.2 k u m a b).below hb1).more s1)
  · rw [List.getElem?_append_right (by omega)] at a
    rw [List.getElem?_append_right (by rw [← hparts.1]; omega)] at b
    have hk0 : k - vs.length = 0 := by
      have := (List.getElem?_eq_some_iff.1 a).1
      simp at this; omega
    rw [← hparts.1, hk0] at b
    rw [hk0] at a
    simp at a b
    subst a b
    refine go p _ (hp.far fun g hg k hk => ?_)
    simp only [List.mem_cons, List.not_mem_nil, or_false] at hg
    rcases hg with rfl | rfl
    · exact (hwant.block k hk).2
    · exact (hown.block k hk).2
set_option maxHeartbeats 2000000 in
theorem numJoins_walk (v : Value) (ls : List (List UInt8)) (w : World) (h : RdAll w w.heap.size v ls) :
    Calls Try.prog 5 #[v] w fun e w' => e = .returned (.bool true) ∧ Below w.heap.size w w' := by
  obtain ⟨i, hi, hz0, hz1, hz2⟩ := info_parts info_u8
  obtain ⟨i2, hi2, hy0, hy1, hy2⟩ := info_parts info_bs
  obtain ⟨A, c, rfl, h⟩ := h.form
  obtain ⟨n, hn⟩ : ∃ n, n = ls.length := ⟨_, rfl⟩
  rw [← hn] at h ⊢
  have hnc := h.len.2.1
  have hcm := h.len.2.2
  clear hn
  by_cases hlt : n ≤ 12
  · have hgb : decide ((12 : Int) < (n : Int)) = false := by simp; omega
    obtain ⟨lk, hr⟩ : ∃ lk, RdAll w w.heap.size (.slice A n c) lk := ⟨ls, h⟩
    have Hkl := Lib.hid hr.len.1
    go_enter Try.func5, Try.ntmps5
    go_wp2_with fail
    go_loopw [3, 4, 5] (fun wv ov iv wr => ∃ (j : Nat) (vs : List Value), j ≤ n ∧ iv = .int .i64 j ∧ Mine wr w.heap.size 5 wv (cellsB (upTo (cut60 lk) j)) ∧ Mine wr w.heap.size 22 ov vs ∧ Parts wr [wv.ownBlock, ov.ownBlock] vs ((cut60 lk).take j) ∧ Below w.heap.size w wr) (fun _ _ iv _ => n - (intOf iv).toNat)
    case atStart =>
      refine ⟨0, [], Nat.zero_le _, rfl, ?_, ?_, ⟨rfl, fun k u l a => by simp at a⟩, ((Below.refl _ _).alloc (Nat.le_refl _) _).alloc (by simp) _⟩
      · rw [upTo_zero]
        exact (Mine.empty w w.heap.size 5 (Nat.le_refl _)).alloc _
      · have := Mine.empty (w.alloc (.cells #[] 5)) w.heap.size 22 (by simp)
        simpa using this
    case round =>
      obtain ⟨j, vs, hj, rfl, hwant, hown, hparts, hbel⟩ := hrel
      by_cases hlt : j < n
      · obtain ⟨b, o, A', c', hkl, rfl, hb, hc, hp⟩ := (hr.below hbel).at_ hlt
        have hsz := hbel.size
        have hfew := few_any _ lk[j] 60 wr w.heap.size hp hsz (by omega)
        obtain ⟨q, hq⟩ : ∃ q, q = lk[j].take 60 := ⟨_, rfl⟩
        have hq60 : q.length ≤ 60 := by rw [hq]; simp; omega
        rw [← hq] at hfew
        have hqc : (cut60 lk)[j]? = some q := by
          rw [List.getElem?_eq_getElem (by rw [cut60_len]; exact hkl), cut60_at lk j hkl, hq]
        have hup : upTo (cut60 lk) (j + 1) = upTo (cut60 lk) j ++ q := by
          rw [upTo_succ _ _ (by rw [cut60_len]; exact hkl), cut60_at lk j hkl, hq]
        have htk : (cut60 lk).take (j + 1) = (cut60 lk).take j ++ [q] := by
          rw [List.take_add_one, hqc]; rfl
        have hul : (upTo (cut60 lk) j).length ≤ 1000 := by
          have h1 := upTo_le (cut60 lk) j
          have h2 := cut60_small lk
          have h3 := Hkl.out
          omega
        have hvl : vs.length ≤ 12 := by
          have := hparts.1
          simp at this; omega
        have Hfew := Lib.hid hfew
        have Hup := Lib.hid hup
        have Htk := Lib.hid htk
        clear hfew hq hqc hup htk
        go_wp2_with (first
          | (go_at_call 7; refine Hfew.out.mono ?_; rintro e w1 ⟨p, rfl, hp1, hbel1⟩; have hs1 := hbel1.size; obtain ⟨A1, c1, rfl, _, _, _⟩ := hp1.rd.bytes)
          | (at_builtin; refine wpList_append_rd rfl (.tmp 25) _ 22 rfl w.heap.size 5 i _ 1 Try.underlying22 hi hz0 hz1 hz2 rfl _ _ rfl (hwant.kept hbel1) _ _ _ rfl hp1.rd (cellsB_one _) (by rw [cellsB_length, cellsB_length]; omega) (by unfold maxLen; rw [cellsB_length, cellsB_length]; omega) (by omega) ?_; intro want' w2 hwant2 hbel2 hg2 hn2; have hs2 := hbel2.size; have hown2 := (hown.kept hbel1).grown hg2 (hown.apart hwant (by decide)))
          | (at_builtin; refine wpList_append_rd rfl (.tmp 28) _ 32 rfl w.heap.size 22 i2 _ 24 Try.underlying32 hi2 hy0 hy1 hy2 rfl _ _ rfl (hown2.alloc _) _ _ _ rfl (Mine.lit w2 w.heap.size 22 _ 1 (by omega) rfl (by unfold maxLen; omega)).rd (by simp; rfl) (by simp; omega) (by unfold maxLen; simp; omega) (by simp; omega) ?_; intro own' w3 hown3 hbel3 hg3 hn3))
        go_roundw
        case rel =>
          refine ⟨j + 1, vs ++ [_], by omega, by go_num, ?_, hown3, ?_, ?_⟩
          · rw [Hup.out, cellsB_append]
            exact (hwant2.alloc _).grown hg3 (hwant2.apart hown2 (by decide))
          · rw [Htk.out]
            refine parts_round hwant hown hparts hp1 hbel1 hg2 hn2 hg3 ?_
            rcases hn3 with e | e
            · exact .inl e
            · exact .inr (by simpa using e)
          · exact ((hbel.trans (hbel1.mono hsz)).trans hbel2).trans (((Below.refl _ _).alloc (by omega) _).trans hbel3)
        case measure => simp [intOf]; omega
      · have hje : j = n := by omega
        subst hje
        have hlen := Hkl.out
        have hall := hparts.all hown
        have hflat : upTo (cut60 lk) j = (cut60 lk).flatten := by
          have := upTo_all (cut60 lk)
          rw [cut60_len, ← hlen] at this
          exact this
        have htk : (cut60 lk).take j = cut60 lk := List.take_of_length_le (by rw [cut60_len, ← hlen]; exact Nat.le_refl _)
        rw [htk] at hall
        rw [hflat] at hwant
        obtain ⟨L, hL⟩ : ∃ L, L = cut60 lk := ⟨_, rfl⟩
        have hsm := cut60_small lk
        have hsmall : L.flatten.length ≤ 1000 := by rw [hL]; omega
        rw [← hL] at hwant hall
        obtain ⟨t, ht⟩ : ∃ t, t = L.flatten := ⟨_, rfl⟩
        obtain ⟨A2, c2, rfl, hall⟩ := hall.form
        obtain ⟨m, hm⟩ : ∃ m, m = L.length := ⟨_, rfl⟩
        have hb := bytes_any A2 m c2 L wr.drew wr.heap.size (by rw [hm]; exact hall.below (up_drew (Below.refl _ _))) (Nat.le_refl _) (by omega)
        rw [← ht] at hwant hb
        rw [← hm]
        obtain ⟨A3, c3, rfl, _, _, hr3⟩ := hwant.rd.bytes
        have he0 := run_string_kept (P := Try.prog) 22 9 5 Try.underlying22 Try.underlying5 Try.underlying9 hr3 (up_drew (Below.refl _ _))
        have Hr3 := Lib.hid hr3
        have Hb := Lib.hid hb
        clear hlen hflat htk hL hsm ht hm hb hall hr3 hwant hown hparts
        go_wp2_with fail
        go_region_law
          (first
          | (go_simp; go_at_call 14; refine Hb.out.mono ?_; rintro e w4 ⟨v4, rfl, hown4, hbel4⟩; have hs4 := run_string_rd (P := Try.prog) 22 9 5 Try.underlying22 Try.underlying5 Try.underlying9 hown4.rd; have hb4 := up (up_drew (Below.refl wr.heap.size wr)) hbel4; have he4 := run_string_kept (P := Try.prog) 22 9 5 Try.underlying22 Try.underlying5 Try.underlying9 Hr3.out hb4)
          | (go_simp; go_at_call 10; refine (lives_any _).mono ?_; rintro e w5 ⟨rfl, hbel5⟩; have hb5 := up hb4 hbel5))
        all_goals
          go_wp2_with fail
          go_ret
          exact ⟨rfl, up hbel hb5⟩
  · obtain ⟨lk, hr⟩ : ∃ lk, RdAll w w.heap.size (.slice A 12 c) lk := ⟨_, h.upto (hi := 12) (by omega)⟩
    have Hkl := Lib.hid hr.len.1
    have hgb : decide ((12 : Int) < (n : Int)) = true := by simp; omega
    have hc12 : 12 ≤ c := by omega
    clear hlt
    go_enter Try.func5, Try.ntmps5
    go_wp2_with fail
    go_loopw [3, 4, 5] (fun wv ov iv wr => ∃ (j : Nat) (vs : List Value), j ≤ 12 ∧ iv = .int .i64 j ∧ Mine wr w.heap.size 5 wv (cellsB (upTo (cut60 lk) j)) ∧ Mine wr w.heap.size 22 ov vs ∧ Parts wr [wv.ownBlock, ov.ownBlock] vs ((cut60 lk).take j) ∧ Below w.heap.size w wr) (fun _ _ iv _ => 12 - (intOf iv).toNat)
    case atStart =>
      refine ⟨0, [], Nat.zero_le _, rfl, ?_, ?_, ⟨rfl, fun k u l a => by simp at a⟩, ((Below.refl _ _).alloc (Nat.le_refl _) _).alloc (by simp) _⟩
      · rw [upTo_zero]
        exact (Mine.empty w w.heap.size 5 (Nat.le_refl _)).alloc _
      · have := Mine.empty (w.alloc (.cells #[] 5)) w.heap.size 22 (by simp)
        simpa using this
    case round =>
      obtain ⟨j, vs, hj, rfl, hwant, hown, hparts, hbel⟩ := hrel
      by_cases hlt : j < 12
      · obtain ⟨b, o, A', c', hkl, rfl, hb, hc, hp⟩ := (hr.below hbel).at_ hlt
        have hsz := hbel.size
        have hfew := few_any _ lk[j] 60 wr w.heap.size hp hsz (by omega)
        obtain ⟨q, hq⟩ : ∃ q, q = lk[j].take 60 := ⟨_, rfl⟩
        have hq60 : q.length ≤ 60 := by rw [hq]; simp; omega
        rw [← hq] at hfew
        have hqc : (cut60 lk)[j]? = some q := by
          rw [List.getElem?_eq_getElem (by rw [cut60_len]; exact hkl), cut60_at lk j hkl, hq]
        have hup : upTo (cut60 lk) (j + 1) = upTo (cut60 lk) j ++ q := by
          rw [upTo_succ _ _ (by rw [cut60_len]; exact hkl), cut60_at lk j hkl, hq]
        have htk : (cut60 lk).take (j + 1) = (cut60 lk).take j ++ [q] := by
          rw [List.take_add_one, hqc]; rfl
        have hul : (upTo (cut60 lk) j).length ≤ 1000 := by
          have h1 := upTo_le (cut60 lk) j
          have h2 := cut60_small lk
          have h3 := Hkl.out
          omega
        have hvl : vs.length ≤ 12 := by
          have := hparts.1
          simp at this; omega
        have Hfew := Lib.hid hfew
        have Hup := Lib.hid hup
        have Htk := Lib.hid htk
        clear hfew hq hqc hup htk
        go_wp2_with (first
          | (go_at_call 7; refine Hfew.out.mono ?_; rintro e w1 ⟨p, rfl, hp1, hbel1⟩; have hs1 := hbel1.size; obtain ⟨A1, c1, rfl, _, _, _⟩ := hp1.rd.bytes)
          | (at_builtin; refine wpList_append_rd rfl (.tmp 25) _ 22 rfl w.heap.size 5 i _ 1 Try.underlying22 hi hz0 hz1 hz2 rfl _ _ rfl (hwant.kept hbel1) _ _ _ rfl hp1.rd (cellsB_one _) (by rw [cellsB_length, cellsB_length]; omega) (by unfold maxLen; rw [cellsB_length, cellsB_length]; omega) (by omega) ?_; intro want' w2 hwant2 hbel2 hg2 hn2; have hs2 := hbel2.size; have hown2 := (hown.kept hbel1).grown hg2 (hown.apart hwant (by decide)))
          | (at_builtin; refine wpList_append_rd rfl (.tmp 28) _ 32 rfl w.heap.size 22 i2 _ 24 Try.underlying32 hi2 hy0 hy1 hy2 rfl _ _ rfl (hown2.alloc _) _ _ _ rfl (Mine.lit w2 w.heap.size 22 _ 1 (by omega) rfl (by unfold maxLen; omega)).rd (by simp; rfl) (by simp; omega) (by unfold maxLen; simp; omega) (by simp; omega) ?_; intro own' w3 hown3 hbel3 hg3 hn3))
        go_roundw
        case rel =>
          refine ⟨j + 1, vs ++ [_], by omega, by go_num, ?_, hown3, ?_, ?_⟩
          · rw [Hup.out, cellsB_append]
            exact (hwant2.alloc _).grown hg3 (hwant2.apart hown2 (by decide))
          · rw [Htk.out]
            refine parts_round hwant hown hparts hp1 hbel1 hg2 hn2 hg3 ?_
            rcases hn3 with e | e
            · exact .inl e
            · exact .inr (by simpa using e)
          · exact ((hbel.trans (hbel1.mono hsz)).trans hbel2).trans (((Below.refl _ _).alloc (by omega) _).trans hbel3)
        case measure => simp [intOf]; omega
      · have hje : j = 12 := by omega
        subst hje
        have hlen := Hkl.out
        have hall := hparts.all hown
        have hflat : upTo (cut60 lk) 12 = (cut60 lk).flatten := by
          have := upTo_all (cut60 lk)
          rw [cut60_len, ← hlen] at this
          exact this
        have htk : (cut60 lk).take 12 = cut60 lk := List.take_of_length_le (by rw [cut60_len, ← hlen]; exact Nat.le_refl _)
        rw [htk] at hall
        rw [hflat] at hwant
        obtain ⟨L, hL⟩ : ∃ L, L = cut60 lk := ⟨_, rfl⟩
        have hsm := cut60_small lk
        have hsmall : L.flatten.length ≤ 1000 := by rw [hL]; omega
        rw [← hL] at hwant hall
        obtain ⟨t, ht⟩ : ∃ t, t = L.flatten := ⟨_, rfl⟩
        obtain ⟨A2, c2, rfl, hall⟩ := hall.form
        obtain ⟨m, hm⟩ : ∃ m, m = L.length := ⟨_, rfl⟩
        have hb := bytes_any A2 m c2 L wr.drew wr.heap.size (by rw [hm]; exact hall.below (up_drew (Below.refl _ _))) (Nat.le_refl _) (by omega)
        rw [← ht] at hwant hb
        rw [← hm]
        obtain ⟨A3, c3, rfl, _, _, hr3⟩ := hwant.rd.bytes
        have he0 := run_string_kept (P := Try.prog) 22 9 5 Try.underlying22 Try.underlying5 Try.underlying9 hr3 (up_drew (Below.refl _ _))
        have Hr3 := Lib.hid hr3
        have Hb := Lib.hid hb
        clear hlen hflat htk hL hsm ht hm hb hall hr3 hwant hown hparts
        go_wp2_with fail
        go_region_law
          (first
          | (go_simp; go_at_call 14; refine Hb.out.mono ?_; rintro e w4 ⟨v4, rfl, hown4, hbel4⟩; have hs4 := run_string_rd (P := Try.prog) 22 9 5 Try.underlying22 Try.underlying5 Try.underlying9 hown4.rd; have hb4 := up (up_drew (Below.refl wr.heap.size wr)) hbel4; have he4 := run_string_kept (P := Try.prog) 22 9 5 Try.underlying22 Try.underlying5 Try.underlying9 Hr3.out hb4)
          | (go_simp; go_at_call 10; refine (lives_any _).mono ?_; rintro e w5 ⟨rfl, hbel5⟩; have hb5 := up hb4 hbel5))
        all_goals
          go_wp2_with fail
          go_ret
          exact ⟨rfl, up hbel hb5⟩
end Go.Proofs.Ytleechnebjhodaa
