/- Layer 9 (calendar): the first second of a day; a second of a table. -/
import Derived.Test.YtklhepgpepfgjaaDoorQ42
import Derived.Test.YtklhepgpepfgjaaDoorQ19
namespace Go.Proofs.YtklhepgpepfgjaaDoor.Cal
open Go Go.RowKit
attribute [local go_sem] Oper.semAt_some
/-- a result of six cells that the call has made, to be written -/
theorem civ_ex (n : Int) : ∃ y m d e : Int, ∀ X, Mon X → Calls Tryd.prog 73 #[.int .i64 n] X fun e' w' => e' = .returned (.tuple #[.int .i64 y, .int .i64 m, .int .i64 d, .int .i64 e]) ∧ X = w' := by
  cases h : (decide (41317 ≤ n) && decide (n ≤ 88068))
  · exact ⟨_, _, _, _, fun X _ => Civil_no n X h⟩
  · exact ⟨_, _, _, _, fun X hX => Civil_ok X hX (civ_is n (by simpa using h))⟩
theorem midnight_ex (n : Int) : ∃ y m d : Int, ∀ X, Mon X → Calls Tryd.prog 34 #[.int .i64 n] X fun e w' => e = .returned (.agg #[.int .i64 y, .int .i64 m, .int .i64 d, .int .i64 0, .int .i64 0, .int .i64 0]) ∧ Below X.heap.size X w' := by
  obtain ⟨y, m, d, e, h⟩ := civ_ex n
  refine ⟨y, m, d, fun w hw => ?_⟩
  have A0 := below_alloc (Below.refl w.heap.size w) (.cells #[.int .i64 0, .int .i64 0, .int .i64 0, .int .i64 0, .int .i64 0, .int .i64 0] 29)
  have HR : Res6 (w.alloc (.cells #[.int .i64 0, .int .i64 0, .int .i64 0, .int .i64 0, .int .i64 0, .int .i64 0] 29)) w.heap.size := ⟨⟨.int .i64 0, by simp⟩, ⟨.int .i64 0, by simp⟩, ⟨.int .i64 0, by simp⟩, ⟨.int .i64 0, by simp⟩, ⟨.int .i64 0, by simp⟩, ⟨.int .i64 0, by simp⟩, fun i => by simp⟩
  have HC := Lib.hid (h _ (hw.below A0))
  have HR := Lib.hid HR
  have A0 := Lib.hid A0
  clear h hw
  go_enter Tryd.func34, Tryd.ntmps34
  go_upto_region 1 with fail
  generalize w.alloc (.cells #[.int .i64 0, .int .i64 0, .int .i64 0, .int .i64 0, .int .i64 0, .int .i64 0] 29) = W1 at *
  obtain ⟨⟨u0, r0⟩, ⟨u1, r1⟩, ⟨u2, r2⟩, ⟨u3, r3⟩, ⟨u4, r4⟩, ⟨u5, r5⟩, rz⟩ := HR.out
  have z0 := rz 0
  have z1 := rz 1
  have z2 := rz 2
  have z3 := rz 3
  have z4 := rz 4
  have z5 := rz 5
  have zr := cell_lt r0
  clear rz
  go_wp2_with (go_at_call 73; refine HC.out.mono ?_; rintro e w' ⟨rfl, rfl⟩)
  refine bodyPost_ret (v := .agg #[.int .i64 y, .int .i64 m, .int .i64 d, .int .i64 0, .int .i64 0, .int .i64 0]) (by simp [results, Tryd.results34, go_sem, r0, r1, r2, r3, r4, r5]) rfl ⟨rfl, ?_⟩
  have st : ∀ (X : World) (a o : Nat) (v : Value), w.heap.size ≤ a → Below w.heap.size w X → Below w.heap.size w (X.setCell ⟨a, o, none⟩ v) := fun X a o v ha h => h.setCell (p := ⟨a, o, none⟩) ha _
  exact st _ _ _ _ (by omega) (st _ _ _ _ (by omega) (st _ _ _ _ (by omega) (st _ _ _ _ (by omega) (st _ _ _ _ (by omega) (st _ _ _ _ (by omega) A0.out)))))
theorem sec_ex {b u : Int} {n : Nat} {f : Nat → Int × Int} (ht : tabE b u n f = 0) (y m d : Int) : ∃ x e : Int, (0 ≤ x ∧ x ≤ 100000000000) ∧ ∀ X c p, Mon X → LpIn X f n p → n ≤ c → c ≤ maxLen → Calls Tryd.prog 28 #[.agg #[.int .i64 b, .slice p n c, .int .i64 u], .agg #[.int .i64 y, .int .i64 m, .int .i64 d, .int .i64 0, .int .i64 0, .int .i64 0]] X fun e' w' => e' = .returned (.tuple #[.int .i64 x, .int .i64 e]) ∧ Below X.heap.size X w' := by
  have HT := tab_ok ht
  cases hd : okDate y m d
  · have hm : momB y m d 0 0 0 = false := by unfold momB; rw [hd]; rfl
    exact ⟨0, 90, by decide, fun X c p hX hl _ _ => Seconds_mom ht y m d 0 0 0 hm c p X hX hl⟩
  · obtain ⟨k, rfl, hdt⟩ := okDate_yes hd
    cases hb : hasB u f n (1440 * dayN y k d + 60 * 0 + 0) 0
    · exact ⟨0, 90, by decide, fun X c p hX hl _ _ => Seconds_has ht hdt 0 0 0 rfl rfl rfl hb c p X hX hl⟩
    · refine ⟨_, _, ?_, fun X c p hX hl h1 h2 => Seconds_ok ht hdt 0 0 0 rfl rfl rfl hb c p X hX hl h1 h2⟩
      rw [num_same f n (by decide) (by decide)]
      have hn := hdt.civ.n_bd
      have h1 := HT.begin_mono hn.1
      rw [HT.begin_first] at h1
      have h2 := HT.grow_bd (dayN y k d)
      unfold beginS at *; omega
end Go.Proofs.YtklhepgpepfgjaaDoor.Cal
