/-
  Pages as plain lists of bytes: what a page's bytes are, what any bytes say, why they are none; there and back; that bytes spoilt are none. No program is spoken of here (be and ofBe come from the text of num, the sum from that of crc).
-/
import Derived.Test.YtnbmcecmdokogaaNumB
import Derived.Test.YtnbmcecmdokogaaCrcFourMath
namespace Go.Proofs.Ytnbmcecmdokogaa

/-- The number that s bytes of b from a on say. -/
def fieldAt (b : List UInt8) (a s : Nat) : Nat := ofBe ((b.drop a).take s) 0
/-- The sum that a page's bytes should say. -/
def pgSum (b : List UInt8) : Nat := crcOf (b.take 20 ++ b.drop 24)
/-- All behind the Body is 0. -/
def pgTail (b : List UInt8) : Bool := (b.drop (24 + fieldAt b 6 2)).all (· == 0)
/-- Why b, read from sector no, is no page; 0 if it is one. -/
def pgErr (no : Int) (b : List UInt8) : Nat :=
  if b.length ≠ 256 then 9
  else if b.take 4 ≠ [83, 84, 78, 67] then 4
  else if fieldAt b 4 1 ≠ 1 then 12
  else if fieldAt b 20 4 ≠ pgSum b then 5
  else if fieldAt b 5 1 < 1 ∨ 4 < fieldAt b 5 1 ∨ 232 < fieldAt b 6 2 ∨ pgTail b = false then 4
  else if no < 0 ∨ 1599 < no ∨ (fieldAt b 8 4 : Int) ≠ no then 1
  else 0
/-- What follows from there being a page. -/
structure PgOk (no : Int) (b : List UInt8) : Prop where
  len : b.length = 256
  front : b.take 4 = [83, 84, 78, 67]
  ver : fieldAt b 4 1 = 1
  sum : fieldAt b 20 4 = pgSum b
  kind1 : 1 ≤ fieldAt b 5 1
  kind4 : fieldAt b 5 1 ≤ 4
  blen : fieldAt b 6 2 ≤ 232
  tail : pgTail b = true
  no0 : 0 ≤ no
  no1 : no ≤ 1599
  num : (fieldAt b 8 4 : Int) = no
theorem pgErr_ok (no : Int) (b : List UInt8) : pgErr no b = 0 ↔ PgOk no b := by
  unfold pgErr
  constructor
  · intro h
    split at h
    · cases h
    split at h
    · cases h
    split at h
    · cases h
    split at h
    · cases h
    split at h
    · cases h
    split at h
    · cases h
    rename_i h1 h2 h3 h4 h5 h6
    rw [not_or, not_or, not_or] at h5
    rw [not_or, not_or] at h6
    obtain ⟨a1, a2, a3, a4⟩ := h5
    obtain ⟨c1, c2, c3⟩ := h6
    exact ⟨Decidable.not_not.1 h1, Decidable.not_not.1 h2, Decidable.not_not.1 h3, Decidable.not_not.1 h4, by omega, by omega, by omega, by simpa using a4, by omega, by omega, Decidable.not_not.1 c3⟩
  · intro h
    rw [if_neg (by simpa using h.len), if_neg (by simpa using h.front), if_neg (by simpa using h.ver), if_neg (by simpa using h.sum), if_neg, if_neg]
    · have := h.no0; have := h.no1; have := h.num; omega
    · rw [h.tail]; have := h.kind1; have := h.kind4; have := h.blen; simp; omega

/-- The bytes of a page but those of the sum: those ahead of it, those behind. -/
def pgFront (kind len no gen : Nat) : List UInt8 := [83, 84, 78, 67] ++ (be 1 1 ++ (be 1 kind ++ (be 2 len ++ (be 4 no ++ be 8 gen))))
def pgRest (body : List UInt8) : List UInt8 := body ++ List.replicate (232 - body.length) 0
def pgBytes (kind no gen : Nat) (body : List UInt8) : List UInt8 := pgFront kind body.length no gen ++ (be 4 (crcOf (pgFront kind body.length no gen ++ pgRest body)) ++ pgRest body)
theorem pgFront_length (kind len no gen : Nat) : (pgFront kind len no gen).length = 20 := by simp [pgFront, be_length]
theorem pgRest_length (body : List UInt8) (h : body.length ≤ 232) : (pgRest body).length = 232 := by simp [pgRest]; omega
theorem pgBytes_length (kind no gen : Nat) (body : List UInt8) (h : body.length ≤ 232) : (pgBytes kind no gen body).length = 256 := by
  simp [pgBytes, pgFront_length, pgRest_length body h, be_length]

/-- Other bytes laid over l from a on. -/
def spl (l : List UInt8) (a : Nat) (m : List UInt8) : List UInt8 := l.take a ++ (m ++ l.drop (a + m.length))
theorem spl_length (l : List UInt8) (a : Nat) (m : List UInt8) (h : a + m.length ≤ l.length) : (spl l a m).length = l.length := by simp [spl]; omega
theorem spl_at (p x s m : List UInt8) (a : Nat) (h : p.length = a) (hx : x.length = m.length) : spl (p ++ (x ++ s)) a m = p ++ (m ++ s) := by
  subst h
  unfold spl
  rw [List.take_left, ← List.drop_drop, List.drop_left, ← hx, List.drop_left]
theorem replicate_split (a b : Nat) (x : UInt8) : List.replicate (a + b) x = List.replicate a x ++ List.replicate b x := (List.replicate_append_replicate).symm

/-- The bytes laid one behind the other, as the program lays them; the sum's place still 0. -/
def pgRaw (kind no gen : Nat) (body : List UInt8) : List UInt8 :=
  spl (spl (spl (spl (spl (spl (spl (List.replicate 256 0) 0 [83, 84, 78, 67]) 4 (be 1 1)) 5 (be 1 kind)) 6 (be 2 body.length)) 8 (be 4 no)) 12 (be 8 gen)) 24 body
theorem pgRaw_is (kind no gen : Nat) (body : List UInt8) (h : body.length ≤ 232) :
    pgRaw kind no gen body = pgFront kind body.length no gen ++ (List.replicate 4 0 ++ pgRest body) := by
  have e0 : (List.replicate 256 (0 : UInt8)) = [] ++ (List.replicate 4 0 ++ List.replicate 252 0) := by rw [List.nil_append, ← replicate_split]
  have e1 : (List.replicate 252 (0 : UInt8)) = List.replicate 1 0 ++ List.replicate 251 0 := by rw [← replicate_split]
  have e2 : (List.replicate 251 (0 : UInt8)) = List.replicate 1 0 ++ List.replicate 250 0 := by rw [← replicate_split]
  have e3 : (List.replicate 250 (0 : UInt8)) = List.replicate 2 0 ++ List.replicate 248 0 := by rw [← replicate_split]
  have e4 : (List.replicate 248 (0 : UInt8)) = List.replicate 4 0 ++ List.replicate 244 0 := by rw [← replicate_split]
  have e5 : (List.replicate 244 (0 : UInt8)) = List.replicate 8 0 ++ List.replicate 236 0 := by rw [← replicate_split]
  have e6 : (List.replicate 236 (0 : UInt8)) = List.replicate 4 0 ++ (List.replicate body.length 0 ++ List.replicate (232 - body.length) 0) := by
    rw [← replicate_split, ← replicate_split]; congr 1; omega
  unfold pgRaw
  rw [e0, spl_at _ _ _ _ 0 rfl (by simp), e1, List.nil_append]
  rw [spl_at _ _ _ _ 4 rfl (by simp [be_length]), e2, ← List.append_assoc]
  rw [spl_at _ _ _ _ 5 (by simp [be_length]) (by simp [be_length]), e3, ← List.append_assoc]
  rw [spl_at _ _ _ _ 6 (by simp [be_length]) (by simp [be_length]), e4, ← List.append_assoc]
  rw [spl_at _ _ _ _ 8 (by simp [be_length]) (by simp [be_length]), e5, ← List.append_assoc]
  rw [spl_at _ _ _ _ 12 (by simp [be_length]) (by simp [be_length]), e6, ← List.append_assoc, ← List.append_assoc]
  rw [spl_at _ _ _ _ 24 (by simp [be_length]) (by simp)]
  simp [pgFront, pgRest, List.append_assoc]
theorem pgSum_of (p x r : List UInt8) (hp : p.length = 20) (hx : x.length = 4) : pgSum (p ++ (x ++ r)) = crcOf (p ++ r) := by
  unfold pgSum
  have e1 : (p ++ (x ++ r)).take 20 = p := by rw [← hp, List.take_left]
  have e2 : (p ++ (x ++ r)).drop 24 = r := by
    rw [show (24 : Nat) = p.length + x.length by omega, ← List.drop_drop, List.drop_left, List.drop_left]
  rw [e1, e2]
theorem pgRaw_sum (kind no gen : Nat) (body : List UInt8) (h : body.length ≤ 232) :
    spl (pgRaw kind no gen body) 20 (be 4 (pgSum (pgRaw kind no gen body))) = pgBytes kind no gen body := by
  rw [pgRaw_is kind no gen body h, pgSum_of _ _ _ (pgFront_length ..) (by simp), spl_at _ _ _ _ 20 (pgFront_length ..) (by simp [be_length])]
  rfl

/-- A field of bytes that are known. -/
theorem fieldAt_be (p r : List UInt8) (s n a : Nat) (h : p.length = a) : fieldAt (p ++ (be s n ++ r)) a s = n % 256 ^ s := by
  subst h
  unfold fieldAt
  rw [List.drop_left, List.take_left' (be_length s n), ofBe_be]
  simp
theorem field_of {b : List UInt8} (p r : List UInt8) (s n a : Nat) (he : b = p ++ (be s n ++ r)) (h : p.length = a) (hn : n < 256 ^ s) : fieldAt b a s = n := by
  rw [he, fieldAt_be p r s n a h, Nat.mod_eq_of_lt hn]
section
variable (kind no gen : Nat) (body : List UInt8)
theorem pgBytes_ver : fieldAt (pgBytes kind no gen body) 4 1 = 1 :=
  field_of [83, 84, 78, 67] ((be 1 kind ++ (be 2 body.length ++ (be 4 no ++ be 8 gen))) ++ (be 4 (crcOf (pgFront kind body.length no gen ++ pgRest body)) ++ pgRest body)) 1 1 4 (by simp [pgBytes, pgFront, List.append_assoc]) rfl (by omega)
theorem pgBytes_kind (hk4 : kind ≤ 4) : fieldAt (pgBytes kind no gen body) 5 1 = kind :=
  field_of ([83, 84, 78, 67] ++ be 1 1) ((be 2 body.length ++ (be 4 no ++ be 8 gen)) ++ (be 4 (crcOf (pgFront kind body.length no gen ++ pgRest body)) ++ pgRest body)) 1 kind 5 (by simp [pgBytes, pgFront, List.append_assoc]) rfl (by omega)
theorem pgBytes_len (h : body.length ≤ 232) : fieldAt (pgBytes kind no gen body) 6 2 = body.length :=
  field_of ([83, 84, 78, 67] ++ (be 1 1 ++ be 1 kind)) ((be 4 no ++ be 8 gen) ++ (be 4 (crcOf (pgFront kind body.length no gen ++ pgRest body)) ++ pgRest body)) 2 body.length 6 (by simp [pgBytes, pgFront, List.append_assoc]) (by simp [be_length]) (by omega)
theorem pgBytes_num (hno : no ≤ 1599) : fieldAt (pgBytes kind no gen body) 8 4 = no :=
  field_of ([83, 84, 78, 67] ++ (be 1 1 ++ (be 1 kind ++ be 2 body.length))) (be 8 gen ++ (be 4 (crcOf (pgFront kind body.length no gen ++ pgRest body)) ++ pgRest body)) 4 no 8 (by simp [pgBytes, pgFront, List.append_assoc]) (by simp [be_length]) (by omega)
theorem pgBytes_gen (hg : gen < 18446744073709551616) : fieldAt (pgBytes kind no gen body) 12 8 = gen :=
  field_of ([83, 84, 78, 67] ++ (be 1 1 ++ (be 1 kind ++ (be 2 body.length ++ be 4 no)))) (be 4 (crcOf (pgFront kind body.length no gen ++ pgRest body)) ++ pgRest body) 8 gen 12 (by simp [pgBytes, pgFront, List.append_assoc]) (by simp [be_length]) (by omega)
theorem pgBytes_sum : fieldAt (pgBytes kind no gen body) 20 4 = crcOf (pgFront kind body.length no gen ++ pgRest body) :=
  field_of (pgFront kind body.length no gen) (pgRest body) 4 _ 20 rfl (pgFront_length ..) (by have := crcOf_lt (pgFront kind body.length no gen ++ pgRest body); omega)
end
theorem pgBytes_behind (kind no gen : Nat) (body : List UInt8) : (pgBytes kind no gen body).drop 24 = pgRest body := by
  unfold pgBytes
  rw [show 24 = (pgFront kind body.length no gen).length + (be 4 (crcOf (pgFront kind body.length no gen ++ pgRest body))).length by rw [pgFront_length, be_length]]
  rw [← List.drop_drop, List.drop_left, List.drop_left]
theorem pgBytes_ok (kind no gen : Nat) (body : List UInt8) (h : body.length ≤ 232) (hk1 : 1 ≤ kind) (hk4 : kind ≤ 4) (hno : no ≤ 1599) : PgOk (no : Int) (pgBytes kind no gen body) := by
  have hs := pgSum_of (pgFront kind body.length no gen) (be 4 (crcOf (pgFront kind body.length no gen ++ pgRest body))) (pgRest body) (pgFront_length ..) (be_length ..)
  have f6 := pgBytes_len kind no gen body h
  have f5 := pgBytes_kind kind no gen body hk4
  have f8 := pgBytes_num kind no gen body hno
  refine ⟨pgBytes_length kind no gen body h, ?_, pgBytes_ver kind no gen body, ?_, by omega, by omega, by omega, ?_, by omega, by omega, by omega⟩
  · simp [pgBytes, pgFront]
  · rw [pgBytes_sum]; exact hs.symm
  · unfold pgTail
    rw [f6, ← List.drop_drop, pgBytes_behind]
    unfold pgRest
    rw [List.drop_left]
    simp
/-- The Body that bytes say. -/
def pgBody (b : List UInt8) : List UInt8 := (b.drop 24).take (fieldAt b 6 2)
theorem pgBytes_body (kind no gen : Nat) (body : List UInt8) (h : body.length ≤ 232) : pgBody (pgBytes kind no gen body) = body := by
  unfold pgBody
  rw [pgBytes_len kind no gen body h, pgBytes_behind]
  unfold pgRest
  rw [List.take_left]

/-- Bytes come back from the number that they say. -/
theorem be_ofBe : ∀ (k : Nat) (l : List UInt8) (m : Nat), l.length = k → be k (ofBe l m) = l
  | 0, l, m, h => by rw [List.eq_nil_of_length_eq_zero h]; rfl
  | k + 1, l, m, h => by
    have hne : l ≠ [] := by intro e; rw [e] at h; cases h
    obtain ⟨l', x, rfl⟩ : ∃ l' x, l = l' ++ [x] := ⟨l.dropLast, l.getLast hne, (List.dropLast_concat_getLast hne).symm⟩
    have hl : l'.length = k := by simpa using h
    have hx := x.toNat_lt
    rw [be, ofBe_snoc, show (ofBe l' m * 256 + x.toNat) / 256 = ofBe l' m by omega, be_ofBe k l' m hl]
    congr 2
    apply UInt8.toNat_inj.1
    rw [UInt8.toNat_ofNat']
    omega
theorem be_fieldAt (b : List UInt8) (a s : Nat) (h : a + s ≤ b.length) : be s (fieldAt b a s) = (b.drop a).take s := be_ofBe _ _ _ (by simp; omega)
theorem cut_off (b : List UInt8) (a s : Nat) : b.drop a = (b.drop a).take s ++ b.drop (a + s) := by
  rw [← List.drop_drop]; exact (List.take_append_drop s (b.drop a)).symm
/-- Bytes that are a page are just that page's. -/
theorem pg_back {no : Int} {b : List UInt8} (h : PgOk no b) : pgBytes (fieldAt b 5 1) no.toNat (fieldAt b 12 8) (pgBody b) = b := by
  have hl := h.len
  have hb := h.blen
  have hbl : (pgBody b).length = fieldAt b 6 2 := by unfold pgBody; simp; omega
  have hno : no.toNat = fieldAt b 8 4 := by have := h.num; omega
  have hfront : pgFront (fieldAt b 5 1) (pgBody b).length no.toNat (fieldAt b 12 8) = b.take 20 := by
    rw [hbl, hno]
    unfold pgFront
    rw [be_fieldAt b 5 1 (by omega), be_fieldAt b 6 2 (by omega), be_fieldAt b 8 4 (by omega), be_fieldAt b 12 8 (by omega)]
    have e1 : be 1 1 = (b.drop 4).take 1 := by rw [← be_fieldAt b 4 1 (by omega), h.ver]
    rw [e1, ← h.front]
    have e : b.take 20 = b.take 4 ++ (b.drop 4).take 16 := by rw [← List.take_add]
    rw [e]
    congr 1
    have e2 : (b.drop 4).take 16 = (b.drop 4).take 1 ++ (b.drop 5).take 15 := by
      rw [show 16 = 1 + 15 from rfl, List.take_add, List.drop_drop]
    have e3 : (b.drop 5).take 15 = (b.drop 5).take 1 ++ (b.drop 6).take 14 := by
      rw [show 15 = 1 + 14 from rfl, List.take_add, List.drop_drop]
    have e4 : (b.drop 6).take 14 = (b.drop 6).take 2 ++ (b.drop 8).take 12 := by
      rw [show 14 = 2 + 12 from rfl, List.take_add, List.drop_drop]
    have e5 : (b.drop 8).take 12 = (b.drop 8).take 4 ++ (b.drop 12).take 8 := by
      rw [show 12 = 4 + 8 from rfl, List.take_add, List.drop_drop]
    rw [e2, e3, e4, e5]
  have hrest : pgRest (pgBody b) = b.drop 24 := by
    unfold pgRest
    rw [hbl]
    have et : b.drop (24 + fieldAt b 6 2) = List.replicate (232 - fieldAt b 6 2) 0 := by
      rw [List.eq_replicate_iff]
      refine ⟨by simp; omega, fun x hx => ?_⟩
      have := List.all_eq_true.1 h.tail x hx
      simpa using this
    rw [← et]
    exact (cut_off b 24 (fieldAt b 6 2)).symm
  unfold pgBytes
  rw [hfront, hrest]
  have hs : be 4 (crcOf (b.take 20 ++ b.drop 24)) = (b.drop 20).take 4 := by
    rw [← be_fieldAt b 20 4 (by omega), h.sum]; rfl
  rw [hs, ← cut_off b 20 4, List.take_append_drop]

/-- How many of four bytes from k on are all of the sum, or all none of it, and there. -/
def pgLim (k : Nat) : Nat := if k < 20 then 20 - k else if k < 24 then 24 - k else 256 - k
theorem pg_spoilt (no : Int) (b d : List UInt8) (k r : Nat) (h : PgOk no b) (hr : r ≤ 4) (hk : k < 256) (hl : r ≤ pgLim k) (hs : someOf d r = true) : pgErr no (bump b d k r) ≠ 0 := by
  intro hz
  have hc := (pgErr_ok _ _).1 hz
  have hlen := h.len
  have hkr : k + r ≤ b.length := by unfold pgLim at hl; split at hl <;> (try split at hl) <;> omega
  have hne : bump b d k r ≠ b := by
    intro e
    exact bump_unlike b d k r hkr hr hs (by rw [e])
  unfold pgLim at hl
  by_cases h20 : k < 20
  · rw [if_pos h20] at hl
    have ed : (bump b d k r).drop 20 = b.drop 20 := by
      have := bump_tail b d k r
      have e2 := congrArg (List.drop (20 - (k + r))) this
      rw [List.drop_drop, List.drop_drop, show k + r + (20 - (k + r)) = 20 by omega] at e2
      exact e2
    have e24 : (bump b d k r).drop 24 = b.drop 24 := by
      have e2 := congrArg (List.drop 4) ed
      rwa [List.drop_drop, List.drop_drop] at e2
    have hf : fieldAt (bump b d k r) 20 4 = fieldAt b 20 4 := by unfold fieldAt; rw [ed]
    have hsum : pgSum (bump b d k r) = pgSum b := by rw [← hc.sum, hf, h.sum]
    have eb : (bump b d k r).take 20 ++ b.drop 24 = bump (b.take 20 ++ b.drop 24) d k r := by
      apply List.ext_getElem
      · simp [bump]
      · intro j h1 h2
        simp only [bump, List.getElem_mapIdx, List.getElem_append, List.getElem_take, List.length_take, List.length_mapIdx]
        by_cases hj : j < min 20 b.length
        · simp only [hj, dif_pos]
        · simp only [hj, dif_neg, not_false_iff]
          rw [if_neg (by omega)]
    unfold pgSum at hsum
    rw [e24, eb] at hsum
    exact bump_unlike (b.take 20 ++ b.drop 24) d k r (by simp; omega) hr hs hsum.symm
  · rw [if_neg h20] at hl
    by_cases h24 : k < 24
    · rw [if_pos h24] at hl
      have ed : (bump b d k r).drop 24 = b.drop 24 := by
        have := bump_tail b d k r
        have e2 := congrArg (List.drop (24 - (k + r))) this
        rw [List.drop_drop, List.drop_drop, show k + r + (24 - (k + r)) = 24 by omega] at e2
        exact e2
      have et : (bump b d k r).take 20 = b.take 20 := by
        have e2 := congrArg (List.take 20) (bump_head b d k r)
        rw [List.take_take, List.take_take, Nat.min_eq_left (by omega)] at e2
        exact e2
      have hsum : pgSum (bump b d k r) = pgSum b := by unfold pgSum; rw [ed, et]
      have hf : fieldAt (bump b d k r) 20 4 = fieldAt b 20 4 := by rw [hc.sum, hsum, h.sum]
      have e4 : ((bump b d k r).drop 20).take 4 = (b.drop 20).take 4 := by
        rw [← be_fieldAt b 20 4 (by omega), ← be_fieldAt (bump b d k r) 20 4 (by rw [bump_length]; omega), hf]
      apply hne
      have a1 := List.take_append_drop 20 (bump b d k r)
      have a2 := List.take_append_drop 20 b
      rw [et, cut_off (bump b d k r) 20 4, e4, ed, ← cut_off b 20 4, a2] at a1
      exact a1.symm
    · rw [if_neg h24] at hl
      have et : (bump b d k r).take 24 = b.take 24 := by
        have e2 := congrArg (List.take 24) (bump_head b d k r)
        rw [List.take_take, List.take_take, Nat.min_eq_left (by omega)] at e2
        exact e2
      have e20 : (bump b d k r).take 20 = b.take 20 := by
        have e2 := congrArg (List.take 20) et
        rwa [List.take_take, List.take_take, Nat.min_eq_left (by omega)] at e2
      have hf : fieldAt (bump b d k r) 20 4 = fieldAt b 20 4 := by
        unfold fieldAt
        have e2 := congrArg (List.drop 20) et
        rw [List.drop_take, List.drop_take] at e2
        rw [e2]
      have hsum : pgSum (bump b d k r) = pgSum b := by rw [← hc.sum, hf, h.sum]
      have eb : b.take 20 ++ (bump b d k r).drop 24 = bump (b.take 20 ++ b.drop 24) d (k - 4) r := by
        apply List.ext_getElem
        · simp [bump]
        · intro j h1 h2
          simp only [bump, List.getElem_mapIdx, List.getElem_append, List.getElem_take, List.length_take, List.getElem_drop]
          by_cases hj : j < min 20 b.length
          · simp only [hj, dif_pos]
            rw [if_neg (by omega)]
          · simp only [hj, dif_neg, not_false_iff]
            by_cases hin : k - 4 ≤ j ∧ j < k - 4 + r
            · rw [if_pos (by omega), if_pos hin, show 24 + (j - min 20 b.length) - k = j - (k - 4) by omega]
            · rw [if_neg (by omega), if_neg hin]
      unfold pgSum at hsum
      rw [e20, eb] at hsum
      exact bump_unlike (b.take 20 ++ b.drop 24) d (k - 4) r (by simp; omega) hr hs hsum.symm
end Go.Proofs.Ytnbmcecmdokogaa
