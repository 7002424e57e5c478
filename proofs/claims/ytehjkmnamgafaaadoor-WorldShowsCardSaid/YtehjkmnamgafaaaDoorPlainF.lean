/- Plain functions, continued: the last second at which a clock runs. -/
import Derived.Test.YtehjkmnamgafaaaDoorPlainE
namespace Go.Proofs.YtehjkmnamgafaaaDoor
open Go Go.RowKit
abbrev EvtIn := { e : Evt // 1 ≤ e.sec ∧ e.sec ≤ 1000000 }
abbrev BEv := Int × EvtIn
def lastStep (c : Clk) (s : Int) (e : Evt) : Int := if e.sec ≤ s ∧ runsS c s = false then e.sec - 1 else s
def lastFrom (c : Clk) (s : Int) (l : List BEv) : Int := l.foldl (fun s x => lastStep c s x.2.1) s
def lastS (c : Clk) (s : Int) : Int := c.evs.reverse.foldl (lastStep c) s
theorem lastFrom_snoc (c : Clk) (s : Int) (l : List BEv) (x : BEv) : lastFrom c s (l ++ [x]) = lastStep c (lastFrom c s l) x.2.1 := by simp [lastFrom]
theorem lastFrom_all (c : Clk) (s : Int) (l : List BEv) (h : l.map (fun x => x.2.1) = c.evs.reverse) : lastFrom c s l = lastS c s := by
  unfold lastFrom lastS; rw [← h, List.foldl_map]
theorem lastStep_bd (c : Clk) (s : Int) (e : EvtIn) (h0 : 0 ≤ s) (h1 : s ≤ 1000000) : 0 ≤ lastStep c s e.1 ∧ lastStep c s e.1 ≤ 1000000 := by
  have := e.2
  unfold lastStep; split <;> omega
theorem foldLast_bd (c : Clk) : ∀ (l : List BEv) (s : Int), 0 ≤ s → s ≤ 1000000 → 0 ≤ l.foldl (fun s (x : BEv) => lastStep c s x.2.1) s ∧ l.foldl (fun s (x : BEv) => lastStep c s x.2.1) s ≤ 1000000
  | [], s, h0, h1 => ⟨h0, h1⟩
  | x :: r, s, h0, h1 => by
    have := lastStep_bd c s x.2 h0 h1
    exact foldLast_bd c r _ this.1 this.2
theorem lastFrom_bd (c : Clk) (s : Int) (l : List BEv) (h0 : 0 ≤ s) (h1 : s ≤ 1000000) : 0 ≤ lastFrom c s l ∧ lastFrom c s l ≤ 1000000 := foldLast_bd c l s h0 h1
theorem rev_take {α : Type} (l : List α) (q : Nat) (h : q < l.length) : l.reverse.take (l.length - q) = l.reverse.take (l.length - (q + 1)) ++ [l[q]] := by
  have e : l.length - q = l.length - (q + 1) + 1 := by omega
  have hk : l.length - (q + 1) < l.reverse.length := by simp; omega
  rw [e, List.take_succ_eq_append_getElem hk, List.getElem_reverse]
  congr 2
  congr 1
  omega
end Go.Proofs.YtehjkmnamgafaaaDoor
