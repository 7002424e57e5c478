/- Layer 9 (calendar): texts of dates have the dates' order (plain). -/
import Derived.Test.YtnbccbjhnlggaaaDoorIf
import Derived.Test.YtnbccbjhnlggaaaDoorFh
namespace Go.Proofs.YtnbccbjhnlggaaaDoor.Cal
open Go Go.RowKit
theorem bl_app : ∀ (p q x y : List UInt8), p.length = q.length → Op.bytesLess (p ++ x) (q ++ y) = (Op.bytesLess p q || (decide (p = q) && Op.bytesLess x y))
  | [], [], x, y, _ => by simp [Op.bytesLess]
  | [], _ :: _, _, _, h => by simp at h
  | _ :: _, [], _, _, h => by simp at h
  | a :: p, b :: q, x, y, h => by
    have ih := bl_app p q x y (by simpa using h)
    simp only [List.cons_append, Op.bytesLess, ih]
    by_cases h1 : a < b
    · simp [h1]
    · by_cases h2 : a = b
      · subst h2; simp [h1]
      · have h2b : (a == b) = false := by simpa using h2
        simp [h1, h2, h2b]
theorem bl_dig {a b : Nat} (ha : a < 100) (hb : b < 100) : Op.bytesLess (dig2 a) (dig2 b) = decide (a < b) ∧ decide (dig2 a = dig2 b) = decide (a = b) := by
  have key : ∀ a b : Fin 100, Op.bytesLess (dig2 a.1) (dig2 b.1) = decide (a.1 < b.1) ∧ decide (dig2 a.1 = dig2 b.1) = decide (a.1 = b.1) := by decide +kernel
  exact key ⟨a, ha⟩ ⟨b, hb⟩
theorem bl_two {a b : Nat} (ha : a < 100) (hb : b < 100) (x y : List UInt8) : Op.bytesLess (dig2 a ++ x) (dig2 b ++ y) = (decide (a < b) || (decide (a = b) && Op.bytesLess x y)) := by
  rw [bl_app (dig2 a) (dig2 b) x y rfl, (bl_dig ha hb).1, (bl_dig ha hb).2]
theorem bl_sign (c : UInt8) (x y : List UInt8) : Op.bytesLess ([c] ++ x) ([c] ++ y) = Op.bytesLess x y := by
  rw [bl_app [c] [c] x y rfl]; simp [Op.bytesLess]
theorem bl_four {a b : Nat} (ha : a < 10000) (hb : b < 10000) (x y : List UInt8) : Op.bytesLess (dig4 a ++ x) (dig4 b ++ y) = (decide (a < b) || (decide (a = b) && Op.bytesLess x y)) := by
  unfold dig4
  rw [List.append_assoc, List.append_assoc, bl_two (by omega) (by omega), bl_two (by omega) (by omega)]
  generalize Op.bytesLess x y = R
  rw [Bool.eq_iff_iff]
  simp only [Bool.or_eq_true, Bool.and_eq_true, decide_eq_true_eq]
  constructor
  · rintro (h | ⟨h1, h | ⟨h2, h3⟩⟩)
    · left; omega
    · left; omega
    · right; exact ⟨by omega, h3⟩
  · rintro (h | ⟨rfl, h⟩)
    · by_cases e : a / 100 < b / 100
      · exact .inl e
      · exact .inr ⟨by omega, .inl (by omega)⟩
    · exact .inr ⟨rfl, .inr ⟨rfl, h⟩⟩
theorem fmt_less {y k d h m s y' k' d' h' m' s' : Nat} (hy : y < 10000) (hk : k < 100) (hd : d < 100) (hh : h < 100) (hm : m < 100) (hs : s < 100) (hy' : y' < 10000) (hk' : k' < 100) (hd' : d' < 100) (hh' : h' < 100) (hm' : m' < 100) (hs' : s' < 100) :
    Op.bytesLess (fmtL y k d h m s) (fmtL y' k' d' h' m' s') = decide (lexF (six y k d h m s) (six y' k' d' h' m' s') 0 6 < 0) := by
  unfold fmtL
  simp only [List.append_assoc]
  rw [bl_four hy hy', bl_sign, bl_two hk hk', bl_sign, bl_two hd hd', bl_sign, bl_two hh hh', bl_sign, bl_two hm hm', bl_sign, (bl_dig hs hs').1, Bool.eq_iff_iff, decide_eq_true_iff, lex_lt]
  simp only [Bool.or_eq_true, Bool.and_eq_true, decide_eq_true_eq]
  omega
end Go.Proofs.YtnbccbjhnlggaaaDoor.Cal
