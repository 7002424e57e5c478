/- The law StabilityExchanged, whatever comes in. -/
import Derived.Test.YtbkcjhmemfndbaaLe
namespace Go.Proofs.Ytbkcjhmemfndbaa
open Go Go.RowKit Go.Shelf
set_option maxRecDepth 100000 in
set_option maxHeartbeats 2000000 in
theorem exchanged_empty (pa pb : Option Addr) (n1 n2 c1 c2 : Nat) (s : Int) (w : World) (h : n1 = 0 ∨ n2 = 0) (h1 : n1 ≤ c1) (h2 : n2 ≤ c2) (l1 : n1 ≤ maxLen) (l2 : n2 ≤ maxLen) (e1 : pa = none → n1 = 0) (e2 : pb = none → n2 = 0) :
    Calls Try.prog 11 #[.slice pa n1 c1, .slice pb n2 c2, .int .i16 s] w fun e w' => e = .returned (.bool true) ∧ Below w.heap.size w w' := by
  unfold maxLen at l1 l2
  obtain ⟨m1, hm1⟩ : ∃ n : Nat, n = min n1 6 := ⟨_, rfl⟩
  obtain ⟨m2, hm2⟩ : ∃ n : Nat, n = min n2 6 := ⟨_, rfl⟩
  have ea : min (n1 : Int) 6 = (m1 : Int) := by omega
  have eb : min (n2 : Int) 6 = (m2 : Int) := by omega
  have qa : (m1 : Int) ≤ (c1 : Int) := by omega
  have qb : (m2 : Int) ≤ (c2 : Int) := by omega
  have qa' : m1 ≤ c1 := by omega
  have qb' : m2 ≤ c2 := by omega
  have hz : m1 = 0 ∨ (m1 ≠ 0 ∧ m2 = 0) := by omega
  have za : pa = none → m1 = 0 := fun h => by have := e1 h; omega
  have zb : pb = none → m2 = 0 := fun h => by have := e2 h; omega
  clear hm1 hm2 h e1 e2
  rcases pa with _ | a <;> rcases pb with _ | b
  all_goals
    try have za := za rfl
    try have zb := zb rfl
    rcases hz with hz | ⟨hz, hz'⟩
  all_goals
    try (exact absurd za hz)
  all_goals
    first | have t1 : ((m1 : Int) == 0) = true := (by simp; omega)
          | (have t1 : ((m1 : Int) == 0) = false := (by simp; omega); have t2 : ((m2 : Int) == 0) = true := (by simp; omega))
    go_enter Try.func11, Try.ntmps11
    go_wp2
    go_quiet (fail)
    have hw0 := below_drewN (Below.refl w.heap.size w) nq
    generalize w.drewN nq = W0 at *
    have HW0 := Lib.hid hw0
    clear hw0
    go_wp2_with fail
    refine (awake_any _).mono ?_
    rintro e y5 ⟨rfl, hb5⟩
    have HW7 := Lib.hid (HW0.out.trans (hb5.mono HW0.out.size))
    clear hb5
    go_wp2
    go_ret
    exact ⟨rfl, HW7.out⟩
theorem exchanged_any (la lb : List Int) (pa pb : Option Addr) (ca cb : Nat) (s : Int) (w : World) (ha : I16In w la pa ca) (hb : I16In w lb pb cb) (hs : -32768 ≤ s ∧ s ≤ 32767) :
    Calls Try.prog 11 #[.slice pa la.length ca, .slice pb lb.length cb, .int .i16 s] w fun e w' => e = .returned (.bool true) ∧ Below w.heap.size w w' := by
  by_cases h : la.length = 0 ∨ lb.length = 0
  · refine exchanged_empty pa pb _ _ ca cb s w h ha.cap hb.cap ha.len hb.len (fun e => ?_) (fun e => ?_)
    · rcases ha.at_ with h0 | ⟨b, o, hp, _⟩
      · exact h0
      · rw [e] at hp; cases hp
    · rcases hb.at_ with h0 | ⟨b, o, hp, _⟩
      · exact h0
      · rw [e] at hp; cases hp
  · obtain ⟨b1, o1, rfl, _⟩ := ha.at_.resolve_left (by omega)
    obtain ⟨b2, o2, rfl, _⟩ := hb.at_.resolve_left (by omega)
    exact exchanged_main la lb b1 o1 b2 o2 ca cb s w ha hb (by omega) (by omega) hs
end Go.Proofs.Ytbkcjhmemfndbaa
