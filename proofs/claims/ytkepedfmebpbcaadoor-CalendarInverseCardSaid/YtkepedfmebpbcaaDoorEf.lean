/- Layer 9 (calendar): the program and the reference say the same of tables (tables). (by gen_ef.py) -/
import Derived.Test.YtkepedfmebpbcaaDoorEa
import Derived.Test.YtkepedfmebpbcaaDoorEe
namespace Go.Proofs.YtkepedfmebpbcaaDoor.Cal
open Go Go.RowKit
attribute [local go_sem] Oper.semAt_some
def TabV (b u : Int) (n c : Nat) (p : Option Addr) : Value := .agg #[.int .i64 b, .slice p n c, .int .i64 u]
/-- a function of the program and one of the reference say the same -/
def Pair (g r : FuncId) (b u : Int) (n : Nat) (f : Nat → Int × Int) (mk : Value → Array Value) (v : Value) : Prop :=
  (∀ (X : World) (c : Nat) (p : Option Addr), Mon X → LpIn X f n p → n ≤ c → c ≤ maxLen → Calls Tryd.prog g (mk (.agg #[.int .i64 b, .slice p n c, .int .i64 u])) X fun e w' => e = .returned v ∧ Below X.heap.size X w') ∧
  (∀ (X : World) (c : Nat) (p : Option Addr), LpIn X f n p → Calls Tryd.prog r (mk (.agg #[.int .i64 b, .slice p n c, .int .i64 u])) X fun e w' => e = .returned v ∧ Below X.heap.size X w')
theorem len_pair (b u d : Int) (n : Nat) (f : Nat → Int × Int) (hn : n ≤ 1000) : ∃ x e, Pair 30 31 b u n f (fun t => #[t, .int .i64 d]) (.tuple #[.int .i64 x, .int .i64 e]) :=
  ⟨_, _, fun X c p hX hl _ _ => Length_any b u d n c p f X hX hl (by omega), fun X c p hl => rLength_any b u d n c p f X hl (by omega)⟩
theorem off_pair (b u d : Int) (n : Nat) (f : Nat → Int × Int) (hn : n ≤ 1000) : ∃ x e, Pair 32 33 b u n f (fun t => #[t, .int .i64 d]) (.tuple #[.int .i64 x, .int .i64 e]) :=
  ⟨_, _, fun X c p hX hl h1 h2 => Offset_any b u d n c p f X hX hl (by omega) h1 h2, fun X c p hl => rOffset_any b u d n c p f X hl (by omega)⟩
theorem tot_pair (b u : Int) (n : Nat) (f : Nat → Int × Int) (hn : n ≤ 1000) : ∃ x e, Pair 11 34 b u n f (fun t => #[t]) (.tuple #[.int .i64 x, .int .i64 e]) :=
  ⟨_, _, fun X c p hX hl h1 h2 => Total_any b u n c p f X hX hl (by omega) h1 h2, fun X c p hl => rTotal_any b u n c p f X hl (by omega)⟩
theorem chk_pair (b u : Int) (n : Nat) (f : Nat → Int × Int) (hn : n ≤ 1000) : ∃ e, Pair 28 29 b u n f (fun t => #[t]) (.int .i64 e) :=
  ⟨_, fun X c p hX hl _ _ => Check_any b u n c p f X hX hl (by omega), fun X c p hl => rCheck_any b u n c p f X hl (by omega)⟩
theorem sec_pair (b u y m d h mi s : Int) (n : Nat) (f : Nat → Int × Int) (hn : n ≤ 1000) : ∃ x e, Pair 14 35 b u n f (fun t => #[t, .agg #[.int .i64 y, .int .i64 m, .int .i64 d, .int .i64 h, .int .i64 mi, .int .i64 s]]) (.tuple #[.int .i64 x, .int .i64 e]) := by
  by_cases ht : tabE b u n f = 0
  · cases hd : okDate y m d
    · have hm : momB y m d h mi s = false := by unfold momB; rw [hd]; rfl
      exact ⟨_, _, fun X c p hX hl _ _ => Seconds_mom ht y m d h mi s hm c p X hX hl, fun X c p hl => rSeconds_day ht y m d h mi s hd c p X hl⟩
    · obtain ⟨k, rfl, hdt⟩ := okDate_yes hd
      have hsame := sec_same (tab_ok ht) hdt.civ.n_bd.1 h mi s
      cases hb : secB u f n (dayN y k d) h mi s
      · rw [hb] at hsame
        by_cases hall : tB h = true ∧ miB mi = true ∧ sB s = true
        · obtain ⟨h1, h2, h3⟩ := hall
          rw [h1, h2, h3] at hsame
          exact ⟨_, _, fun X c p hX hl _ _ => Seconds_has ht hdt h mi s h1 h2 h3 (by simpa using hsame.symm) c p X hX hl, fun X c p hl => rSeconds_bad ht hdt h mi s hb c p X hl⟩
        · have hm : momB y (k : Int) d h mi s = false := by
            unfold momB
            rw [Bool.eq_false_iff]; intro hc
            simp only [Bool.and_eq_true] at hc
            exact hall ⟨hc.1.1.2, hc.1.2, hc.2⟩
          exact ⟨_, _, fun X c p hX hl _ _ => Seconds_mom ht y (k : Int) d h mi s hm c p X hX hl, fun X c p hl => rSeconds_bad ht hdt h mi s hb c p X hl⟩
      · rw [hb] at hsame
        have hsame := hsame.symm
        simp only [Bool.and_eq_true] at hsame
        obtain ⟨⟨⟨h1, h2⟩, h3⟩, h4⟩ := hsame
        obtain ⟨_, b2, b3, _, _⟩ := secB_true hb
        refine ⟨_, _, fun X c p hX hl h5 h6 => Seconds_ok ht hdt h mi s h1 h2 h3 h4 c p X hX hl h5 h6, fun X c p hl => ?_⟩
        rw [num_same f n b2 b3]
        exact rSeconds_good ht hdt h mi s hb c p X hl
  · exact ⟨_, _, fun X c p hX hl _ _ => Seconds_tab ht y m d h mi s c p X hX hl (by omega), fun X c p hl => rSeconds_tab ht y m d h mi s c p X hl (by omega)⟩
theorem known_day {b u : Int} {n : Nat} {f : Nat → Int × Int} {s : Int} (hk : knownE b u n f s = 0) : ∃ D, IsDayOf u n f s D := by
  obtain ⟨ht, hi⟩ := knownE_zero hk
  have hb := inB_bd hi
  exact (tab_ok ht).day_exists hb.1 hb.2
theorem dat_pair (b u s : Int) (n : Nat) (f : Nat → Int × Int) (hn : n ≤ 1000) : ∃ y m d h mi sc e, Pair 13 36 b u n f (fun t => #[t, .int .i64 s]) (.tuple #[.agg #[.int .i64 y, .int .i64 m, .int .i64 d, .int .i64 h, .int .i64 mi, .int .i64 sc], .int .i64 e]) := by
  by_cases hk : knownE b u n f s = 0
  · obtain ⟨D, hD⟩ := known_day hk
    have hci := civ_is D ⟨hD.d1, by have := hD.d2; have := (tab_ok (knownE_zero hk).1).u2; omega⟩
    exact ⟨_, _, _, _, _, _, _, fun X c p hX hl h1 h2 => Dates_ok hk hD hci c p X hX hl h1 h2, fun X c p hl => rDates_ok hk hD hci c p X hl⟩
  · exact ⟨_, _, _, _, _, _, _, fun X c p hX hl h1 h2 => Dates_no hk c p X hX hl (by omega) h1 h2, fun X c p hl => rDates_no hk c p X hl (by omega)⟩
theorem atm_pair (b u s : Int) (n : Nat) (f : Nat → Int × Int) (hn : n ≤ 1000) : ∃ x e, Pair 37 38 b u n f (fun t => #[t, .int .i64 s]) (.tuple #[.int .i64 x, .int .i64 e]) := by
  by_cases hk : knownE b u n f s = 0
  · exact ⟨_, _, fun X c p hX hl h1 h2 => Atomic_ok hk c p X hX hl h1 h2, fun X c p hl => rAtomic_ok hk c p X hl⟩
  · exact ⟨_, _, fun X c p hX hl h1 h2 => Atomic_no hk c p X hX hl (by omega) h1 h2, fun X c p hl => rAtomic_no hk c p X hl (by omega)⟩
theorem ann_pair (b u s : Int) (n : Nat) (f : Nat → Int × Int) (hn : n ≤ 1000) : ∃ x e, Pair 39 40 b u n f (fun t => #[t, .int .i64 s]) (.tuple #[.int .i64 x, .int .i64 e]) := by
  by_cases hk : knownE b u n f s = 0
  · obtain ⟨D, hD⟩ := known_day hk
    exact ⟨_, _, fun X c p hX hl h1 h2 => Announced_ok hk hD c p X hX hl h1 h2, fun X c p hl => rAnnounced_ok hk hD c p X hl⟩
  · exact ⟨_, _, fun X c p hX hl h1 h2 => Announced_no hk c p X hX hl (by omega) h1 h2, fun X c p hl => rAnnounced_no hk c p X hl (by omega)⟩
end Go.Proofs.YtkepedfmebpbcaaDoor.Cal
