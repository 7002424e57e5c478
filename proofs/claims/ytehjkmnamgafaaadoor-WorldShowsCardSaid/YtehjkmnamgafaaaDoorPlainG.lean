/- Plain functions, continued: the second that belongs to a moment. -/
import Derived.Test.YtehjkmnamgafaaaDoorPlainF
namespace Go.Proofs.YtehjkmnamgafaaaDoor
open Go Go.RowKit
def afterS (a b c d : Int) : Bool := decide (c < a) || (a == c && decide (d < b))
/-- is a moment after what is read at a second? -/
def lateS (seed k : Int) (c : Clk) (r : Cham) (ms mf s : Int) : Bool := afterS (readSec s (shownS seed k c r s)) (readFs (shownS seed k c r s)) ms mf
def backFrom (late : Int → Bool) : Nat → Option Int
  | 0 => none
  | q + 1 => if late (q : Int) = false then some (q : Int) else backFrom late q
def capS (ms : Int) : Int := if ms ≤ 999999 then ms else 999999
def backOf (c : Clk) : Option Int → IntErr
  | some s => ⟨lastS c s, 0⟩
  | none => ⟨0, 4⟩
def backS (seed k : Int) (c : Clk) (r : Cham) (ms mf : Int) : IntErr := backOf c (backFrom (lateS seed k c r ms mf) (capS ms + 1 + 1).toNat)
def backErr (W : Wld) (k mf : Int) : Int := if findErr W k [] = 0 then (if inR mf 0 999999999999999 = true then 0 else 1) else findErr W k []
def backE (W : Wld) (k ms mf : Int) : IntErr := if backErr W k mf = 0 then backS W.seed k (clkOf W k) (roomOf W k) ms mf else ⟨0, backErr W k mf⟩
theorem backFrom_no {late : Int → Bool} {t : Int} (h0 : 0 ≤ t) (h : late t = true) : backFrom late (t + 1).toNat = backFrom late (t - 1 + 1).toNat := by
  obtain ⟨q, rfl⟩ := Int.eq_ofNat_of_zero_le h0
  rw [show ((q : Int) + 1).toNat = q + 1 by omega, show ((q : Int) - 1 + 1).toNat = q by omega]
  simp only [backFrom, h]; rfl
theorem backFrom_yes {late : Int → Bool} {t : Int} (h0 : 0 ≤ t) (h : late t = false) : backFrom late (t + 1).toNat = some t := by
  obtain ⟨q, rfl⟩ := Int.eq_ofNat_of_zero_le h0
  rw [show ((q : Int) + 1).toNat = q + 1 by omega]
  simp only [backFrom, h]; rfl
theorem backFrom_end {late : Int → Bool} {t : Int} (h : t < 0) : backFrom late (t + 1).toNat = none := by
  rw [show (t + 1).toNat = 0 by omega]; rfl
end Go.Proofs.YtehjkmnamgafaaaDoor
