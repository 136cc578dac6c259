/-
  The document's reader of heads of IPv4: Read, by contract.
-/
import Derived.Test.YtepibdjglfaniaaIfT
namespace Go.Proofs.Ytepibdjglfaniaa
open Go.RowKit
theorem rif_none {l : List UInt8} {k : Nat} (h : ifErr l = k) (hk : k ≠ 0) : ifRead l = Hd.zero := by unfold ifRead; rw [h, if_neg hk]
theorem rifRead_any {A : Option Addr} {c : Nat} {l : List UInt8} {w : World} (hr : Rd w w.heap.size (.slice A l.length c) (cellsB l)) :
    Calls Try.prog 8 #[.slice A l.length c] w fun e w' => e = .returned (.tuple #[hdV (ifRead l), .int .i64 ((ifErr l : Nat) : Int)]) ∧ Below w.heap.size w w' := by
  have hN : ifN l = (l.getD 0 0).toNat % 16 * 4 := rfl
  by_cases h1 : 2048 < l.length
  · have E1 : ifE1 l = 10 := by unfold ifE1; rw [if_pos h1]
    have he : ifErr l = 10 := by rw [ifErr_one (by rw [E1]; decide), E1]
    rw [he, rif_none he (by decide)]
    exact rifRead_w1 hr h1
  by_cases h2 : l.length < 20
  · have E1 : ifE1 l = 9 := by unfold ifE1; rw [if_neg h1, if_pos h2]
    have he : ifErr l = 9 := by rw [ifErr_one (by rw [E1]; decide), E1]
    rw [he, rif_none he (by decide)]
    exact rifRead_w2 hr h1 h2
  by_cases h3 : (l.getD 0 0).toNat / 16 ≠ 4
  · have E1 : ifE1 l = 12 := by unfold ifE1; rw [if_neg h1, if_neg h2, if_pos h3]
    have he : ifErr l = 12 := by rw [ifErr_one (by rw [E1]; decide), E1]
    rw [he, rif_none he (by decide)]
    exact rifRead_w3 hr h1 h2 h3
  have h3' : (l.getD 0 0).toNat / 16 = 4 := by omega
  by_cases h4 : ifN l < 20
  · have E1 : ifE1 l = 4 := by unfold ifE1; rw [if_neg h1, if_neg h2, if_neg h3, if_pos (by omega)]
    have he : ifErr l = 4 := by rw [ifErr_one (by rw [E1]; decide), E1]
    rw [he, rif_none he (by decide)]
    exact rifRead_w4 hr h1 h2 h3' h4
  by_cases h5 : l.length < ifN l
  · have E1 : ifE1 l = 9 := by unfold ifE1; rw [if_neg h1, if_neg h2, if_neg h3, if_neg (by omega), if_pos h5]
    have he : ifErr l = 9 := by rw [ifErr_one (by rw [E1]; decide), E1]
    rw [he, rif_none he (by decide)]
    exact rifRead_w5 hr h1 h2 h3' h4 h5
  have E1 : ifE1 l = 0 := by unfold ifE1; rw [if_neg h1, if_neg h2, if_neg h3, if_neg (by omega), if_neg h5]
  by_cases h6 : num2 l 2 < ifN l
  · have E2 : ifE2 l (ifN l) = 4 := by unfold ifE2; rw [if_pos h6]
    have he : ifErr l = 4 := by rw [ifErr_two E1 (by rw [E2]; decide), E2]
    rw [he, rif_none he (by decide)]
    exact rifRead_w6 hr h1 h2 h3' h4 h5 h6
  by_cases h7 : l.length < num2 l 2
  · have E2 : ifE2 l (ifN l) = 9 := by unfold ifE2; rw [if_neg h6, if_pos h7]
    have he : ifErr l = 9 := by rw [ifErr_two E1 (by rw [E2]; decide), E2]
    rw [he, rif_none he (by decide)]
    exact rifRead_w7 hr h1 h2 h3' h4 h5 h6 h7
  by_cases h8 : num2 l 2 < l.length
  · have E2 : ifE2 l (ifN l) = 10 := by unfold ifE2; rw [if_neg h6, if_neg h7, if_pos h8]
    have he : ifErr l = 10 := by rw [ifErr_two E1 (by rw [E2]; decide), E2]
    rw [he, rif_none he (by decide)]
    exact rifRead_w8 hr h1 h2 h3' h4 h5 h6 h7 h8
  have E2 : ifE2 l (ifN l) = 0 := by unfold ifE2; rw [if_neg h6, if_neg h7, if_neg h8]
  have hg : ∀ j, j < 20 → (l.take (ifN l)).getD j 0 = l.getD j 0 := fun j hj => by
    simp only [List.getD_eq_getElem?_getD, List.getElem?_take]
    rw [if_pos (by omega)]
  by_cases h9 : sumOf (l.take (ifN l)) = 0
  · by_cases h10 : (l.getD 8 0).toNat = 0
    · have E3 : ifE3 (l.take (ifN l)) = 4 := by unfold ifE3; rw [if_neg (by omega), hg 8 (by omega), if_pos (.inl h10)]
      have he : ifErr l = 4 := by rw [ifErr_three E1 E2, E3]
      rw [he, rif_none he (by decide)]
      exact rifRead_w10 hr h1 h2 h3' h4 h5 h6 h7 h8 h9 h10
    · by_cases h11 : 128 ≤ (l.getD 6 0).toNat
      · have E3 : ifE3 (l.take (ifN l)) = 4 := by unfold ifE3; rw [if_neg (by omega), hg 8 (by omega), hg 6 (by omega), if_pos (.inr h11)]
        have he : ifErr l = 4 := by rw [ifErr_three E1 E2, E3]
        rw [he, rif_none he (by decide)]
        exact rifRead_w11 hr h1 h2 h3' h4 h5 h6 h7 h8 h9 h10 h11
      · have E3 : ifE3 (l.take (ifN l)) = 0 := by unfold ifE3; rw [if_neg (by omega), hg 8 (by omega), hg 6 (by omega), if_neg (by omega)]
        have he : ifErr l = 0 := by rw [ifErr_three E1 E2, E3]
        have hrd : ifRead l = ifHd (l.take (ifN l)) := by unfold ifRead; rw [if_pos he]
        rw [he, hrd]
        exact rifRead_ok hr h1 h2 h3' h4 h5 h6 h7 h8 h9 h10 h11
  · have E3 : ifE3 (l.take (ifN l)) = 5 := by unfold ifE3; rw [if_pos h9]
    have he : ifErr l = 5 := by rw [ifErr_three E1 E2, E3]
    rw [he, rif_none he (by decide)]
    exact rifRead_w9 hr h1 h2 h3' h4 h5 h6 h7 h8 h9
end Go.Proofs.Ytepibdjglfaniaa
