/-
  Packets, whole, in plain words: which packet bytes are, which bytes a packet has, and what becomes of one that is spoilt.
  A packet of which one byte is another one that a sum looks at is none, unless it lost its sum by that.
-/
import Derived.Test.YtejppekcniehpaaSxMath
import Derived.Test.YtejppekcniehpaaSgMath
namespace Go.Proofs.Ytejppekcniehpaa
open Go.RowKit
/-- A flow; a packet. -/
structure Fl where
  src : Ad
  dst : Ad
  sport : Nat
  dport : Nat
  proto : UInt8
structure Pk where
  head : Hd
  sg : Sg
  flow : Fl
def Fl.zero : Fl := ⟨Ad.zero, Ad.zero, 0, 0, 0⟩
def Fl.back (f : Fl) : Fl := ⟨f.dst, f.src, f.dport, f.sport, f.proto⟩
def Fl.Wide (f : Fl) : Prop := f.src.Wide ∧ f.dst.Wide ∧ f.sport < 65536 ∧ f.dport < 65536
def Pk.none : Pk := ⟨Hd.zero, Sg.none, Fl.zero⟩
def pkHi (b : List UInt8) : Nat := (b.getD 0 0).toNat / 16
def pkE (b : List UInt8) : Nat := if pkHi b = 4 then ifErr b else sxErr b
def pkH (b : List UInt8) : Hd := if pkHi b = 4 then ifRead b else sxRead b
/-- What is wrong with a packet. -/
def pkBehind (e : Nat) (h : Hd) (b : List UInt8) : Nat := if e ≠ 0 then e else if h.part then 13 else sgErr h (b.drop h.pos.toNat)
def pkErr (b : List UInt8) : Nat := if b.length = 0 then 9 else if pkHi b ≠ 4 ∧ pkHi b ≠ 6 then 12 else pkBehind (pkE b) (pkH b) b
def pkSg (b : List UInt8) : Sg := sgRead (pkH b) (b.drop (pkH b).pos.toNat)
def pkRead (b : List UInt8) : Pk := if pkErr b = 0 then ⟨pkH b, pkSg b, ⟨(pkH b).src, (pkH b).dst, (pkSg b).src, (pkSg b).dst, (pkH b).proto⟩⟩ else Pk.none
/-- What a packet is built of. -/
def bdHd (f : Fl) (hops : UInt8) : Hd := ⟨f.src.six, f.proto, 0, f.src, f.dst, false, hops⟩
def bdSg (f : Fl) (flags : UInt8) : Sg := ⟨f.sport, f.dport, flags, 0, false, 0⟩
def bdSeg (f : Fl) (flags hops : UInt8) (data : List UInt8) : List UInt8 := sgBytes (bdHd f hops) (bdSg f flags) data
def pkBytes (f : Fl) (flags hops : UInt8) (data : List UInt8) : List UInt8 := if f.src.six then sxBytes (bdHd f hops) (bdSeg f flags hops data) else ifBytes (bdHd f hops) (bdSeg f flags hops data)
structure PkMay (f : Fl) (flags hops : UInt8) (data : List UInt8) : Prop where
  wide : f.Wide
  proto : f.proto = 6 ∨ f.proto = 17
  may : sgMay (bdHd f hops) (bdSg f flags) = true
  few : data.length ≤ 1900
  hops : hops ≠ 0
theorem PkMay.hd {f : Fl} {flags hops : UInt8} {data : List UInt8} (h : PkMay f flags hops data) : (bdHd f hops).Wide := ⟨h.wide.1, h.wide.2.1⟩
theorem PkMay.kind {f : Fl} {flags hops : UInt8} {data : List UInt8} (h : PkMay f flags hops data) : f.dst.six = f.src.six ∧ f.src.good = true ∧ f.dst.good = true := by
  obtain ⟨_, _, h1, h2, _, h3⟩ := sgMay_parts h.may
  exact ⟨h3, h1, h2⟩
theorem PkMay.four {f : Fl} {flags hops : UInt8} {data : List UInt8} (h : PkMay f flags hops data) (h6 : f.src.six = false) : (bdHd f hops).may = true := by
  obtain ⟨k1, k2, k3⟩ := h.kind
  have := h.hops
  unfold Hd.may is4 bdHd
  simp [h6, k1, k2, k3, this]
theorem PkMay.six {f : Fl} {flags hops : UInt8} {data : List UInt8} (h : PkMay f flags hops data) (h6 : f.src.six = true) : (bdHd f hops).may6 = true := by
  obtain ⟨k1, k2, k3⟩ := h.kind
  have := h.hops
  unfold Hd.may6 bdHd
  rcases h.proto with e | e <;> simp [h6, k1, this, e, stands]
theorem PkMay.seg_length {f : Fl} {flags hops : UInt8} {data : List UInt8} (_ : PkMay f flags hops data) : (bdSeg f flags hops data).length = (if f.proto = 6 then 20 else 8) + data.length := sgBytes_length ..
theorem PkMay.seg_le {f : Fl} {flags hops : UInt8} {data : List UInt8} (h : PkMay f flags hops data) : (bdSeg f flags hops data).length ≤ 1920 ∧ 8 ≤ (bdSeg f flags hops data).length := by
  have h1 := h.seg_length
  have h2 := h.few
  split at h1 <;> omega
/-- A segment's errors look at few things of a packet's head. -/
theorem sgOk_like {h h' : Hd} (e1 : h.six = h'.six) (e2 : h.proto = h'.proto) (e3 : h.src.own = h'.src.own) (e4 : h.dst.own = h'.dst.own) (b : List UInt8) : sgOk h b = sgOk h' b := by
  unfold sgOk sgPseudo
  rw [e1, e2, e3, e4]
theorem sgErr_like {h h' : Hd} (e1 : h.six = h'.six) (e2 : h.proto = h'.proto) (e3 : h.src.own = h'.src.own) (e4 : h.dst.own = h'.dst.own) (b : List UInt8) : sgErr h b = sgErr h' b := by
  unfold sgErr sgTcp sgUdp
  rw [sgOk_like e1 e2 e3 e4, e1, e2]
theorem sgRead_like {h h' : Hd} (e1 : h.six = h'.six) (e2 : h.proto = h'.proto) (e3 : h.src.own = h'.src.own) (e4 : h.dst.own = h'.dst.own) (b : List UInt8) : sgRead h b = sgRead h' b := by
  unfold sgRead sgHd
  rw [sgErr_like e1 e2 e3 e4, e2]
theorem ifBytes_drop {h : Hd} (hw : h.Wide) (hm : h.may = true) {data : List UInt8} (hd : data.length ≤ 2028) : (ifBytes h data).drop 20 = data ∧ (ifBytes h data).getD 0 0 = 69 ∧ (ifBytes h data).getD 6 0 = 0 := by
  obtain ⟨n, a, b, c, d, e, f, g, i, s, _, _, _, _, _, _, _, hb, _⟩ := ifBytes_form h hw hm data hd
  rw [hb]
  exact ⟨rfl, rfl, rfl⟩
theorem sxBytes_drop {h : Hd} (hw : h.Wide) (hm : h.may6 = true) {data : List UInt8} : (sxBytes h data).drop 40 = data ∧ (sxBytes h data).getD 0 0 = 96 := by
  obtain ⟨_, h2, h3, _⟩ := Hd.may6_parts hm
  have l1 : h.src.own.length = 16 := by rw [own_six h2]; exact hw.1
  have l2 : h.dst.own.length = 16 := by rw [own_six h3]; exact hw.2
  constructor
  · unfold sxBytes
    rw [List.drop_append, List.drop_of_length_le (by simp [sxHead, be_length])]
    have : (sxHead h data.length).length = 8 := by simp [sxHead, be_length]
    rw [this, List.nil_append, List.drop_append, List.drop_of_length_le (by omega), l1, List.nil_append, List.drop_append, List.drop_of_length_le (by omega), l2]
    rfl
  · rw [sxBytes_form h hm]; rfl
/-- Parse of Build. -/
def bdPk (f : Fl) (flags hops : UInt8) (data : List UInt8) : Pk := ⟨{ bdHd f hops with pos := if f.src.six then 40 else 20 }, sgBackHd (bdHd f hops) (bdSg f flags), f⟩
theorem sgBackHd_ports (h : Hd) (s : Sg) : (sgBackHd h s).src = s.src ∧ (sgBackHd h s).dst = s.dst := by unfold sgBackHd; split <;> exact ⟨rfl, rfl⟩
theorem pkBack {f : Fl} {flags hops : UInt8} {data : List UInt8} (hM : PkMay f flags hops data) : pkErr (pkBytes f flags hops data) = 0 ∧ pkRead (pkBytes f flags hops data) = bdPk f flags hops data := by
  have hw := hM.hd
  obtain ⟨s1, s2⟩ := hM.seg_le
  obtain ⟨b1, b2⟩ := sgBack (bdHd f hops) hw (bdSg f flags) ⟨hM.wide.2.2.1, hM.wide.2.2.2⟩ hM.proto hM.may data hM.few
  obtain ⟨q1, q2⟩ := sgBackHd_ports (bdHd f hops) (bdSg f flags)
  have key : ∀ (b : List UInt8) (p : Nat), b.length ≠ 0 → (pkHi b = 4 ∨ pkHi b = 6) → pkE b = 0 → pkH b = { bdHd f hops with pos := (p : Int) } → b.drop p = bdSeg f flags hops data → p = (if f.src.six then 40 else 20) → pkErr b = 0 ∧ pkRead b = bdPk f flags hops data := by
    intro b p h0 h1 h2 h3 h4 h5
    have e4 : b.drop ({ bdHd f hops with pos := (p : Int) } : Hd).pos.toNat = bdSeg f flags hops data := h4
    have hE : pkErr b = 0 := by
      unfold pkErr pkBehind
      rw [if_neg h0, if_neg (by omega), h2, if_neg (by omega), h3, e4]
      show (if false = true then 13 else _) = 0
      rw [if_neg (by decide)]
      refine (sgErr_like (h' := bdHd f hops) ?_ ?_ ?_ ?_ _).trans b1 <;> rfl
    have hS : pkSg b = sgBackHd (bdHd f hops) (bdSg f flags) := by
      unfold pkSg
      rw [h3, e4]
      refine (sgRead_like (h' := bdHd f hops) ?_ ?_ ?_ ?_ _).trans b2 <;> rfl
    refine ⟨hE, ?_⟩
    unfold pkRead
    rw [if_pos hE, hS, h3, q1, q2, h5]
    unfold bdPk
    congr 1
    congr 1
    split <;> rfl
  unfold pkBytes
  cases h6 : f.src.six with
  | true =>
    rw [if_pos rfl]
    have hm := hM.six h6
    obtain ⟨a1, a2⟩ := sxBack (bdHd f hops) hw hm (bdSeg f flags hops data) (by omega)
    obtain ⟨d1, d2⟩ := sxBytes_drop hw hm (data := bdSeg f flags hops data)
    have hi : pkHi (sxBytes (bdHd f hops) (bdSeg f flags hops data)) = 6 := by unfold pkHi; rw [d2]; rfl
    exact key _ 40 (by rw [sxBytes_length _ hw hm]; omega) (.inr hi) (by unfold pkE; rw [hi, if_neg (by decide)]; exact a1) (by unfold pkH; rw [hi, if_neg (by decide)]; exact a2) d1 (by rw [h6]; rfl)
  | false =>
    rw [if_neg (by decide)]
    have hm := hM.four h6
    obtain ⟨a1, a2⟩ := ifBack (bdHd f hops) hw hm (bdSeg f flags hops data) (by omega)
    obtain ⟨d1, d2, _⟩ := ifBytes_drop hw hm (data := bdSeg f flags hops data) (by omega)
    have hi : pkHi (ifBytes (bdHd f hops) (bdSeg f flags hops data)) = 4 := by unfold pkHi; rw [d2]; rfl
    exact key _ 20 (by rw [ifBytes_length _ hw hm _ (by omega)]; omega) (.inl hi) (by unfold pkE; rw [hi, if_pos rfl]; exact a1) (by unfold pkH; rw [hi, if_pos rfl]; exact a2) d1 (by rw [h6]; rfl)
theorem pkBytes_length {f : Fl} {flags hops : UInt8} {data : List UInt8} (hM : PkMay f flags hops data) : (pkBytes f flags hops data).length = (if f.src.six then 40 else 20) + (bdSeg f flags hops data).length := by
  unfold pkBytes
  obtain ⟨s1, s2⟩ := hM.seg_le
  cases h6 : f.src.six with
  | true => exact sxBytes_length _ hM.hd (hM.six h6) _
  | false => exact ifBytes_length _ hM.hd (hM.four h6) _ (by omega)
/-- A segment without a sum is told so: else its sum is good. -/
theorem sgErr_ok {h : Hd} {b : List UInt8} (he : sgErr h b = 0) : sgOk h b = true ∨ (sgRead h b).zero = true := by
  cases hok : sgOk h b with
  | true => exact .inl rfl
  | false =>
    refine .inr ?_
    have hbn : ¬ sgOk h b = true := by rw [hok]; decide
    unfold sgRead
    rw [if_pos he]
    unfold sgErr sgTcp sgUdp at he
    rw [if_neg hbn] at he
    unfold sgHd
    by_cases h6 : h.proto = 6
    · exfalso
      rw [if_pos h6] at he
      repeat' split at he
      all_goals omega
    · rw [if_neg h6] at he ⊢
      apply decide_eq_true
      by_cases h0 : num2 b 6 = 0
      · exact h0
      · exfalso
        rw [if_neg h0] at he
        repeat' split at he
        all_goals omega
/-- With a good sum of its own, what a segment adds to. -/
theorem sgOk_tot {h : Hd} {b : List UInt8} (hk : sgOk h b = true) : tot (sgPseudo h b.length ++ b) % 65535 = 0 := sumOf_good (of_decide_eq_true hk)
theorem pk_set0 {l : List UInt8} {k : Nat} {y : UInt8} {j : Nat} (h : k ≠ j) : (l.set k y).getD j 0 = l.getD j 0 := by
  simp only [List.getD_eq_getElem?_getD, List.getElem?_set_ne h]
theorem ad4_own {u : List UInt8} (h : u.length = 4) : (ad4 u).own = u := by
  show (List.replicate 12 (0 : UInt8) ++ u).drop 12 = u
  simp
theorem pkErr_parts {b : List UInt8} (h : pkErr b = 0) : (pkHi b = 4 ∨ pkHi b = 6) ∧ pkE b = 0 ∧ (pkH b).part = false ∧ sgErr (pkH b) (b.drop (pkH b).pos.toNat) = 0 := by
  unfold pkErr at h
  by_cases h0 : b.length = 0
  · rw [if_pos h0] at h; omega
  rw [if_neg h0] at h
  by_cases h1 : pkHi b ≠ 4 ∧ pkHi b ≠ 6
  · rw [if_pos h1] at h; omega
  rw [if_neg h1] at h
  unfold pkBehind at h
  by_cases h2 : pkE b = 0
  · rw [if_neg (by omega)] at h
    cases hp : (pkH b).part with
    | true => rw [hp, if_pos rfl] at h; omega
    | false =>
      rw [hp, if_neg (by decide)] at h
      exact ⟨by omega, h2, rfl, h⟩
  · rw [if_pos h2] at h; omega
theorem ifErr_parts {l : List UInt8} (h : ifErr l = 0) : ifE1 l = 0 ∧ ifE2 l (ifN l) = 0 ∧ ifE3 (l.take (ifN l)) = 0 := by
  unfold ifErr at h
  by_cases h1 : ifE1 l = 0
  · rw [if_neg (by omega)] at h
    by_cases h2 : ifE2 l (ifN l) = 0
    · rw [if_neg (by omega)] at h
      exact ⟨h1, h2, h⟩
    · rw [if_pos h2] at h; omega
  · rw [if_pos h1] at h; omega
theorem ifE3_sum {l : List UInt8} (h : ifE3 l = 0) : sumOf l = 0 := by
  unfold ifE3 at h
  by_cases h0 : sumOf l = 0
  · exact h0
  · rw [if_pos h0] at h; omega
/-- What a segment of IPv4 adds to. -/
theorem tot_pseudo4 {h : Hd} {u v : List UInt8} (h6 : h.six = false) (hu : h.src.own = u) (hv : h.dst.own = v) (lu : u.length = 4) (lv : v.length = 4) (n : Nat) (hn : n < 65536) (b : List UInt8) : tot (sgPseudo h n ++ b) = tot (u ++ v ++ [0, h.proto]) + n + tot b := by
  obtain ⟨M, hM⟩ : ∃ M, M = u ++ v ++ [0, h.proto] := ⟨_, rfl⟩
  have hl : M.length = 10 := by rw [hM]; simp [lu, lv]
  rw [← hM]
  have e : sgPseudo h n ++ b = M ++ (be 2 n ++ b) := by
    rw [hM]
    unfold sgPseudo
    rw [h6, hu, hv, if_neg (by decide)]
    simp only [List.append_assoc]
  rw [e, tot_append _ _ (by rw [hl]), tot_append _ _ (by rw [be_length]), tot_be2 n hn]
  omega
set_option maxRecDepth 20000 in
theorem pkSpoilt4 {f : Fl} {flags hops : UInt8} {data : List UInt8} (hM : PkMay f flags hops data) (h6 : f.src.six = false) (k : Nat) (x y : UInt8) (hx : (pkBytes f flags hops data)[k]? = some x) (hne : y ≠ x) (hE : pkErr ((pkBytes f flags hops data).set k y) = 0) :
    (pkSg ((pkBytes f flags hops data).set k y)).zero = true := by
  have hw := hM.hd
  have hm := hM.four h6
  obtain ⟨s1, s2⟩ := hM.seg_le
  have hbare : sgBare (bdHd f hops) (bdSg f flags) = false := by unfold sgBare bdSg; simp
  have hgood := sgBytes_good (bdHd f hops) hw (bdSg f flags) data hbare
  have hsp := sgSpoilt (bdHd f hops) hw (bdSg f flags) ⟨hM.wide.2.2.1, hM.wide.2.2.2⟩ rfl hM.proto hM.may data hM.few
  have hP : pkBytes f flags hops data = ifBytes (bdHd f hops) (bdSeg f flags hops data) := by unfold pkBytes; rw [h6]; rfl
  rw [hP] at hx hE ⊢
  change sumOf (sgPseudo (bdHd f hops) (bdSeg f flags hops data).length ++ bdSeg f flags hops data) = 0 at hgood
  change ∀ (k : Nat) (x y : UInt8), (bdSeg f flags hops data)[k]? = some x → y ≠ x → (sgErr (bdHd f hops) ((bdSeg f flags hops data).set k y) = 0 ↔ (sgRead (bdHd f hops) ((bdSeg f flags hops data).set k y)).zero = true) at hsp
  obtain ⟨seg, hseg⟩ : ∃ seg, seg = bdSeg f flags hops data := ⟨_, rfl⟩
  obtain ⟨h, hh⟩ : ∃ h, h = bdHd f hops := ⟨_, rfl⟩
  rw [← hseg, ← hh] at hgood hsp hx hE ⊢
  rw [← hseg] at s1 s2
  rw [← hh] at hw hm
  clear hP hbare hseg
  obtain ⟨n, a, b, c, d, e, g, i, j, s, hn, hs, h1, h2, h3, h4, h5, hb, hz⟩ := ifBytes_form h hw hm seg (by omega)
  obtain ⟨H, hH⟩ : ∃ H, H = [69, 0, UInt8.ofNat (n / 256), UInt8.ofNat n, 0, 0, 0, 0, h.hops, h.proto, UInt8.ofNat (s / 256), UInt8.ofNat (s % 256), a, b, c, d, e, g, i, j] := ⟨_, rfl⟩
  have lH : H.length = 20 := by rw [hH]; rfl
  have H0 : H.getD 0 0 = 69 := by rw [hH]; rfl
  rw [← hH] at hb hz
  have hl0 : (H ++ seg).getD 0 0 = 69 := by rw [hH]; rfl
  rw [hb] at hx hE ⊢
  obtain ⟨p1, p2, p3, p4⟩ := pkErr_parts hE
  rcases p1 with p1 | p1
  · -- read as IPv4
    have q2 : ifErr ((H ++ seg).set k y) = 0 := by unfold pkE at p2; rwa [p1, if_pos rfl] at p2
    obtain ⟨e1, e2, e3⟩ := ifErr_parts q2
    obtain ⟨g1, g2, g3, g4, g5, g6⟩ := ifE1_no e1
    have hr : pkH ((H ++ seg).set k y) = ifHd (((H ++ seg).set k y).take (ifN ((H ++ seg).set k y))) := by
      unfold pkH ifRead
      rw [p1, if_pos rfl, if_pos q2]
    have hsum := ifE3_sum e3
    by_cases hk20 : 20 ≤ k
    · have e0 : ((H ++ seg).set k y) = H ++ seg.set (k - 20) y := by rw [List.set_append_right _ _ (by omega), lH]
      have hx' : seg[k - 20]? = some x := by rw [List.getElem?_append_right (by omega), lH] at hx; exact hx
      have hN : ifN ((H ++ seg).set k y) = 20 := by
        unfold ifN
        rw [pk_set0 (by omega), hl0]
        rfl
      have hT : ((H ++ seg).set k y).take 20 = H := by rw [e0, List.take_append_of_le_length (by omega), List.take_of_length_le (by omega)]
      have hD : ((H ++ seg).set k y).drop 20 = seg.set (k - 20) y := by rw [e0, List.drop_append_of_le_length (by omega), List.drop_of_length_le (by omega)]; rfl
      rw [hN, hT] at hr
      have hF : ifHd H = { h with pos := 20 } := by
        rw [hH]
        obtain ⟨t1, t2, t3, t4, t5, t6, t7⟩ := h
        dsimp only at h1 h2 h3 h4 h5
        subst h1 h2 h4 h5
        simp [ifHd, num2]
      rw [hF] at hr
      have hpos : (pkH ((H ++ seg).set k y)).pos.toNat = 20 := by rw [hr]; rfl
      have p5 := p4
      rw [hpos, hD, hr] at p5
      have p6 : sgErr h (seg.set (k - 20) y) = 0 := by
        refine Eq.trans (sgErr_like ?_ ?_ ?_ ?_ _) p5 <;> rfl
      have := (hsp (k - 20) x y hx' hne).1 p6
      unfold pkSg
      rw [hpos, hD, hr]
      refine Eq.trans (congrArg Sg.zero (sgRead_like (h' := h) ?_ ?_ ?_ ?_ _)) this <;> rfl
    · by_cases hk0 : k = 0
      · subst hk0
        have hx0 : x = 69 := by
          rw [hH] at hx
          simpa using hx.symm
        subst hx0
        obtain ⟨q, hq⟩ : ∃ q, q = y.toNat % 16 - 5 := ⟨_, rfl⟩
        have hy0 : ((H ++ seg).set 0 y).getD 0 0 = y := by rw [hH]; rfl
        have hN : ifN ((H ++ seg).set 0 y) = 20 + 4 * q := by
          unfold ifN at g4 ⊢
          rw [hy0] at g4 ⊢
          omega
        have hyv : y.toNat = 69 + q := by
          unfold ifN at g4
          rw [hy0] at g3 g4
          omega
        have hq0 : q ≠ 0 := fun e => hne (UInt8.toNat_inj.1 (by rw [hyv, e]; rfl))
        have hql : q ≤ 10 := by have := y.toNat_lt; omega
        have hlen : ((H ++ seg).set 0 y).length = 20 + seg.length := by rw [List.length_set, List.length_append, lH]
        rw [hN] at g5
        have hq4 : 4 * q ≤ seg.length := by omega
        have e0 : (H ++ seg).set 0 y = H.set 0 y ++ seg := by rw [List.set_append_left _ _ (by omega)]
        have lH' : (H.set 0 y).length = 20 := by rw [List.length_set]; exact lH
        have hT : ((H ++ seg).set 0 y).take (20 + 4 * q) = H.set 0 y ++ seg.take (4 * q) := by
          rw [e0, List.take_append, lH', List.take_of_length_le (by omega), Nat.add_sub_cancel_left]
        have hD : ((H ++ seg).set 0 y).drop (20 + 4 * q) = seg.drop (4 * q) := by
          rw [e0, List.drop_append, lH', List.drop_of_length_le (by omega), Nat.add_sub_cancel_left]
          rfl
        rw [hN, hT] at hsum hr
        have t1 := sumOf_good hsum
        have t2 := sumOf_good hz
        have t3 := tot_set H 0 69 y (by rw [hH]; rfl)
        rw [tot_append _ _ (by omega)] at t1
        have hlt : (seg.take (4 * q)).length = 4 * q := by rw [List.length_take]; omega
        have hpos : (pkH ((H ++ seg).set 0 y)).pos.toNat = 20 + 4 * q := by
          rw [hr]
          show ((((H.set 0 y ++ seg.take (4 * q)).length : Nat) : Int)).toNat = _
          rw [List.length_append, lH', hlt]
          omega
        have r1 : (pkH ((H ++ seg).set 0 y)).six = false := by rw [hr]; rfl
        have r2 : (pkH ((H ++ seg).set 0 y)).proto = h.proto := by rw [hr, hH]; rfl
        have r3 : (pkH ((H ++ seg).set 0 y)).src = ad4 [a, b, c, d] := by rw [hr, hH]; rfl
        have r4 : (pkH ((H ++ seg).set 0 y)).dst = ad4 [e, g, i, j] := by rw [hr, hH]; rfl
        rw [hpos, hD] at p4
        unfold pkSg
        rw [hpos, hD]
        rcases sgErr_ok p4 with o | o
        · exfalso
          have t4 := sgOk_tot o
          have t5 := sumOf_good hgood
          have ld : (seg.drop (4 * q)).length = seg.length - 4 * q := List.length_drop ..
          rw [ld, tot_pseudo4 (u := [a, b, c, d]) (v := [e, g, i, j]) r1 (by rw [r3]; rfl) (by rw [r4]; rfl) rfl rfl _ (by omega), r2] at t4
          rw [tot_pseudo4 (u := [a, b, c, d]) (v := [e, g, i, j]) h1 (by rw [h4]; rfl) (by rw [h5]; rfl) rfl rfl _ (by omega)] at t5
          have t6 : tot seg = tot (seg.take (4 * q)) + tot (seg.drop (4 * q)) := by
            rw [← tot_append _ _ (by omega), List.take_append_drop]
          have t7 : (69 : UInt8).toNat = 69 := rfl
          have t8 : 2 ^ (8 - 8 * (0 % 2)) = 256 := rfl
          rw [t7, t8, hyv] at t3
          generalize tot ([a, b, c, d] ++ [e, g, i, j] ++ [0, h.proto]) = A at t4 t5
          generalize tot (seg.take (4 * q)) = T at *
          generalize tot (seg.drop (4 * q)) = D at *
          generalize tot (H.set 0 y) = U at *
          generalize tot H = V at *
          generalize tot seg = Z at *
          generalize seg.length = m at *
          omega
        · exact o
      · exfalso
        have hN : ifN ((H ++ seg).set k y) = 20 := by
          unfold ifN
          rw [pk_set0 hk0, hl0]
          rfl
        rw [hN, List.take_set, List.take_append_of_le_length (by omega), List.take_of_length_le (by omega)] at hsum
        refine sumOf_set H k x y ?_ hne hz hsum
        rw [List.getElem?_append_left (by omega)] at hx
        exact hx
  · -- read as IPv6: its size would be none
    exfalso
    have hk0 : k = 0 := by
      by_cases hk0 : k = 0
      · exact hk0
      · unfold pkHi at p1
        rw [pk_set0 hk0, hl0] at p1
        exact absurd p1 (by decide)
    subst hk0
    have q2 : sxErr ((H ++ seg).set 0 y) = 0 := by unfold pkE at p2; rwa [p1, if_neg (by decide)] at p2
    have q3 : sxE1 ((H ++ seg).set 0 y) = 0 := by
      by_cases e : sxE1 ((H ++ seg).set 0 y) = 0
      · exact e
      · rw [sxErr_one e] at q2; omega
    obtain ⟨g1, g2, g3, g4, g5⟩ := sxE1_no q3
    have n4 : num2 ((H ++ seg).set 0 y) 4 = 0 := by rw [num2_set (by omega) (by omega), hH]; rfl
    rw [n4] at g4
    rw [sxErr_two q3] at q2
    have hp0 : (sxFirst ((H ++ seg).set 0 y)).proto = 0 := by
      show ((H ++ seg).set 0 y).getD 6 0 = 0
      rw [pk_set0 (by omega), hH]
      rfl
    have hd0 : ((H ++ seg).set 0 y).drop 40 = [] := List.drop_of_length_le (by omega)
    rw [hd0] at q2
    unfold sxWalk at q2
    rw [hp0] at q2
    revert q2
    simp [stands, sxPassE]
theorem sxErr_parts {l : List UInt8} (h : sxErr l = 0) : sxE1 l = 0 := by
  by_cases e : sxE1 l = 0
  · exact e
  · rw [sxErr_one e] at h; omega
set_option maxRecDepth 20000 in
theorem pkSpoilt6 {f : Fl} {flags hops : UInt8} {data : List UInt8} (hM : PkMay f flags hops data) (h6 : f.src.six = true) (k : Nat) (hk : ¬ (k < 4 ∨ k = 6 ∨ k = 7)) (x y : UInt8) (hx : (pkBytes f flags hops data)[k]? = some x) (hne : y ≠ x) (hE : pkErr ((pkBytes f flags hops data).set k y) = 0) :
    (pkSg ((pkBytes f flags hops data).set k y)).zero = true := by
  have hw := hM.hd
  have hm := hM.six h6
  obtain ⟨s1, s2⟩ := hM.seg_le
  have hbare : sgBare (bdHd f hops) (bdSg f flags) = false := by unfold sgBare bdSg; simp
  have hgood := sgBytes_good (bdHd f hops) hw (bdSg f flags) data hbare
  have hsp := sgSpoilt (bdHd f hops) hw (bdSg f flags) ⟨hM.wide.2.2.1, hM.wide.2.2.2⟩ rfl hM.proto hM.may data hM.few
  have hP : pkBytes f flags hops data = sxBytes (bdHd f hops) (bdSeg f flags hops data) := by unfold pkBytes; rw [h6]; rfl
  rw [hP] at hx hE ⊢
  change sumOf (sgPseudo (bdHd f hops) (bdSeg f flags hops data).length ++ bdSeg f flags hops data) = 0 at hgood
  change ∀ (k : Nat) (x y : UInt8), (bdSeg f flags hops data)[k]? = some x → y ≠ x → (sgErr (bdHd f hops) ((bdSeg f flags hops data).set k y) = 0 ↔ (sgRead (bdHd f hops) ((bdSeg f flags hops data).set k y)).zero = true) at hsp
  obtain ⟨seg, hseg⟩ : ∃ seg, seg = bdSeg f flags hops data := ⟨_, rfl⟩
  obtain ⟨h, hh⟩ : ∃ h, h = bdHd f hops := ⟨_, rfl⟩
  rw [← hseg, ← hh] at hgood hsp hx hE ⊢
  rw [← hseg] at s1 s2
  rw [← hh] at hw hm
  clear hP hbare hseg
  obtain ⟨m1, m2, m3, m4, m5, m6⟩ := Hd.may6_parts hm
  have l1 : h.src.b.length = 16 := hw.1
  have l2 : h.dst.b.length = 16 := hw.2
  have hb := sxBytes_form h hm seg
  obtain ⟨H, hH⟩ : ∃ H, H = [96, 0, 0, 0, UInt8.ofNat (seg.length / 256), UInt8.ofNat seg.length, h.proto, h.hops] := ⟨_, rfl⟩
  have lH : H.length = 8 := by rw [hH]; rfl
  rw [← hH] at hb
  have hl0 : (sxBytes h seg).getD 0 0 = 96 := by rw [hb, hH]; rfl
  have hl6 : (sxBytes h seg).getD 6 0 = h.proto := by rw [hb, hH]; rfl
  have hl7 : (sxBytes h seg).getD 7 0 = h.hops := by rw [hb, hH]; rfl
  have hl4 : num2 (sxBytes h seg) 4 = seg.length := by
    rw [hb, hH]
    exact num2_be _ (by omega)
  have hlen : ((sxBytes h seg).set k y).length = 40 + seg.length := by rw [List.length_set]; exact sxBytes_length h hw hm seg
  obtain ⟨p1, p2, p3, p4⟩ := pkErr_parts hE
  have hi : pkHi ((sxBytes h seg).set k y) = 6 := by
    unfold pkHi
    rw [pk_set0 (by omega), hl0]
    rfl
  have q2 : sxErr ((sxBytes h seg).set k y) = 0 := by unfold pkE at p2; rwa [hi, if_neg (by decide)] at p2
  obtain ⟨_, _, _, g4, _⟩ := sxE1_no (sxErr_parts q2)
  have hfp : (sxFirst ((sxBytes h seg).set k y)).proto = h.proto := by
    show ((sxBytes h seg).set k y).getD 6 0 = h.proto
    rw [pk_set0 (by omega), hl6]
  have hr : pkH ((sxBytes h seg).set k y) = sxFirst ((sxBytes h seg).set k y) := by
    unfold pkH sxRead
    rw [hi, if_neg (by decide), if_pos q2, sxWalk_no (by rw [hfp]; exact m6)]
  have hpos : (pkH ((sxBytes h seg).set k y)).pos.toNat = 40 := by rw [hr]; rfl
  by_cases hk8 : k < 8
  · exfalso
    have := num2_spoilt (j := 4) hx hne (by omega)
    omega
  -- the two addresses, and the rest
  have e8 : (sxBytes h seg).set k y = H ++ (h.src.b ++ (h.dst.b ++ seg)).set (k - 8) y := by rw [hb, List.set_append_right _ _ (by omega), lH]
  have hx8 : (h.src.b ++ (h.dst.b ++ seg))[k - 8]? = some x := by rw [hb, List.getElem?_append_right (by omega), lH] at hx; exact hx
  have hsrc : (pkH ((sxBytes h seg).set k y)).src = ad6 (((h.src.b ++ (h.dst.b ++ seg)).set (k - 8) y).take 16) := by
    rw [hr]
    show ad6 ((((sxBytes h seg).set k y).drop 8).take 16) = _
    rw [e8, List.drop_append_of_le_length (by omega), List.drop_of_length_le (by omega)]
    rfl
  have hdst : (pkH ((sxBytes h seg).set k y)).dst = ad6 ((((h.src.b ++ (h.dst.b ++ seg)).set (k - 8) y).drop 16).take 16) := by
    rw [hr]
    show ad6 ((((sxBytes h seg).set k y).drop 24).take 16) = _
    rw [e8, List.drop_append, List.drop_of_length_le (by omega), lH]
    rfl
  have hD : ((sxBytes h seg).set k y).drop 40 = ((h.src.b ++ (h.dst.b ++ seg)).set (k - 8) y).drop 32 := by
    rw [e8, List.drop_append, List.drop_of_length_le (by omega), lH]
    rfl
  have hsix : (pkH ((sxBytes h seg).set k y)).six = true := by rw [hr]; rfl
  have hpro : (pkH ((sxBytes h seg).set k y)).proto = h.proto := by rw [hr]; exact hfp
  have own6 : ∀ u : List UInt8, (ad6 u).own = u := fun u => own_six (a := ad6 u) rfl
  have o1 : h.src.own = h.src.b := own_six m2
  have o2 : h.dst.own = h.dst.b := own_six m3
  rw [hpos, hD] at p4
  unfold pkSg
  rw [hpos, hD]
  generalize pkH ((sxBytes h seg).set k y) = h' at *
  have hps : ∀ n, sgPseudo h n = h.src.b ++ (h.dst.b ++ (be 4 n ++ [0, 0, 0, h.proto])) := fun n => by unfold sgPseudo; rw [m1, o1, o2]; rfl
  have hps' : ∀ n, sgPseudo h' n = ((h.src.b ++ (h.dst.b ++ seg)).set (k - 8) y).take 16 ++ ((((h.src.b ++ (h.dst.b ++ seg)).set (k - 8) y).drop 16).take 16 ++ (be 4 n ++ [0, 0, 0, h.proto])) := fun n => by unfold sgPseudo; rw [hsix, hsrc, hdst, own6, own6, hpro]; rfl
  by_cases hk40 : 40 ≤ k
  · have e1 : (h.src.b ++ (h.dst.b ++ seg)).set (k - 8) y = h.src.b ++ (h.dst.b ++ seg.set (k - 40) y) := by
      rw [List.set_append_right _ _ (by omega), l1, List.set_append_right _ _ (by omega), l2, show k - 8 - 16 - 16 = k - 40 by omega]
    have hx40 : seg[k - 40]? = some x := by
      rw [List.getElem?_append_right (by omega), l1, List.getElem?_append_right (by omega), l2, show k - 8 - 16 - 16 = k - 40 by omega] at hx8
      exact hx8
    have es : h'.src.own = h.src.own := by rw [hsrc, own6, e1, List.take_append_of_le_length (by omega), List.take_of_length_le (by omega), o1]
    have ed : h'.dst.own = h.dst.own := by
      rw [hdst, own6, e1, List.drop_append_of_le_length (by omega), List.drop_of_length_le (by omega), List.nil_append, List.take_append_of_le_length (by omega), List.take_of_length_le (by omega), o2]
    have e32 : ((h.src.b ++ (h.dst.b ++ seg)).set (k - 8) y).drop 32 = seg.set (k - 40) y := by
      rw [e1, List.drop_append, List.drop_of_length_le (by omega), l1, List.nil_append, List.drop_append, List.drop_of_length_le (by omega), l2]
      rfl
    rw [e32, sgErr_like (h' := h) (by rw [hsix, m1]) hpro es ed] at p4
    rw [e32, sgRead_like (h' := h) (by rw [hsix, m1]) hpro es ed]
    exact (hsp (k - 40) x y hx40 hne).1 p4
  · have e32 : ((h.src.b ++ (h.dst.b ++ seg)).set (k - 8) y).drop 32 = seg := by
      rw [List.drop_set, if_pos (by omega), List.drop_append, List.drop_of_length_le (by omega), l1, List.nil_append, List.drop_append, List.drop_of_length_le (by omega), l2]
      rfl
    rw [e32] at p4 ⊢
    rcases sgErr_ok p4 with o | o
    · exfalso
      have hset : sgPseudo h' seg.length ++ seg = (sgPseudo h seg.length ++ seg).set (k - 8) y := by
        rw [hps, hps']
        by_cases hk24 : k < 24
        · have e1 : (h.src.b ++ (h.dst.b ++ seg)).set (k - 8) y = h.src.b.set (k - 8) y ++ (h.dst.b ++ seg) := List.set_append_left _ _ (by omega)
          rw [e1, List.take_append_of_le_length (by rw [List.length_set]; omega), List.take_of_length_le (by rw [List.length_set]; omega), List.drop_append, List.drop_of_length_le (by rw [List.length_set]; omega), List.length_set, l1, List.nil_append]
          simp only [List.append_assoc]
          rw [List.set_append_left _ _ (by omega)]
          congr 1
          show (h.dst.b ++ seg).take 16 ++ _ = _
          rw [List.take_append_of_le_length (by omega), List.take_of_length_le (by omega)]
        · have e1 : (h.src.b ++ (h.dst.b ++ seg)).set (k - 8) y = h.src.b ++ (h.dst.b.set (k - 24) y ++ seg) := by
            rw [List.set_append_right _ _ (by omega), l1, List.set_append_left _ _ (by omega), show k - 8 - 16 = k - 24 by omega]
          rw [e1, List.take_append_of_le_length (by omega), List.take_of_length_le (by omega), List.drop_append, List.drop_of_length_le (by omega), l1, List.nil_append]
          simp only [List.append_assoc]
          rw [List.set_append_right _ _ (by omega), l1, List.set_append_left _ _ (by omega), show k - 8 - 16 = k - 24 by omega]
          congr 1
          show (h.dst.b.set (k - 24) y ++ seg).take 16 ++ _ = _
          rw [List.take_append_of_le_length (by rw [List.length_set]; omega), List.take_of_length_le (by rw [List.length_set]; omega)]
      have ho := of_decide_eq_true o
      rw [hset] at ho
      refine sumOf_set _ (k - 8) x y ?_ hne hgood ho
      rw [hps]
      by_cases hk24 : k < 24
      · rw [List.getElem?_append_left (by omega)] at hx8
        simp only [List.append_assoc]
        rw [List.getElem?_append_left (by omega)]
        exact hx8
      · rw [List.getElem?_append_right (by omega), l1, List.getElem?_append_left (by omega)] at hx8
        simp only [List.append_assoc]
        rw [List.getElem?_append_right (by omega), l1, List.getElem?_append_left (by omega)]
        exact hx8
    · exact o
end Go.Proofs.Ytejppekcniehpaa
