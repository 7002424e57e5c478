/- Layer 9 (calendar): the program and the reference say the same of tables (tables). (by gen_ef.py) -/
import Derived.Test.YtjdpdabafbbfaaaDoorEa
import Derived.Test.YtjdpdabafbbfaaaDoorEe
import Derived.Test.YtjdpdabafbbfaaaDoorEfa
namespace Go.Proofs.YtjdpdabafbbfaaaDoor.Cal
open Go Go.RowKit
attribute [local go_sem] Oper.semAt_some
def TabV (b u : Int) (n c : Nat) (p : Option Addr) : Value := .agg #[.int .i64 b, .slice p n c, .int .i64 u]
/-- a function of the program and one of the reference say the same -/
def Pair (g r : FuncId) (b u : Int) (n : Nat) (f : Nat → Int × Int) (mk : Value → Array Value) (v : Value) : Prop :=
  (∀ (X : World) (c : Nat) (p : Option Addr), Mon X → LpIn X f n p → n ≤ c → c ≤ maxLen → Calls Tryd.prog g (mk (.agg #[.int .i64 b, .slice p n c, .int .i64 u])) X fun e w' => e = .returned v ∧ Below X.heap.size X w') ∧
  (∀ (X : World) (c : Nat) (p : Option Addr), LpIn X f n p → Calls Tryd.prog r (mk (.agg #[.int .i64 b, .slice p n c, .int .i64 u])) X fun e w' => e = .returned v ∧ Below X.heap.size X w')
theorem chk_pair (b u : Int) (n : Nat) (f : Nat → Int × Int) (hn : n ≤ 1000) : ∃ e, Pair 41 37 b u n f (fun t => #[t]) (.int .i64 e) :=
  ⟨_, fun X c p hX hl _ _ => Check_any b u n c p f X hX hl (by omega), fun X c p hl => rCheck_any b u n c p f X hl (by omega)⟩
end Go.Proofs.YtjdpdabafbbfaaaDoor.Cal
