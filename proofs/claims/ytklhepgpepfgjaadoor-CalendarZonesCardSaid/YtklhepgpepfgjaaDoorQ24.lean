/- Layer 9 (calendar): the day of a second that is known. -/
import Derived.Test.YtklhepgpepfgjaaDoorQ23
namespace Go.Proofs.YtklhepgpepfgjaaDoor.Cal
open Go Go.RowKit
attribute [local go_sem] Oper.semAt_some
theorem known_day {b u : Int} {n : Nat} {f : Nat → Int × Int} {s : Int} (hk : knownE b u n f s = 0) : ∃ D, IsDayOf u n f s D := by
  obtain ⟨ht, hi⟩ := knownE_zero hk
  have hb := inB_bd hi
  exact (tab_ok ht).day_exists hb.1 hb.2
end Go.Proofs.YtklhepgpepfgjaaDoor.Cal
