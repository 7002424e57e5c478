/- Layer 9 (calendar): zones: the program and the reference say the same. -/
import Derived.Test.YtklhepgpepfgjaaDoorQ41
import Derived.Test.YtklhepgpepfgjaaDoorQ49
import Derived.Test.YtklhepgpepfgjaaDoorQ33
import Derived.Test.YtklhepgpepfgjaaDoorQ24
namespace Go.Proofs.YtklhepgpepfgjaaDoor.Cal
open Go Go.RowKit
theorem loc_pair (b u : Int) (n : Nat) (f : Nat → Int × Int) (hn : n ≤ 1000) (o : Int) (q : Nat) (g : Nat → Int × Int) (hq : q ≤ 1000) (hgt : ∀ i, i < q → (g i).1 ≤ 9223372036854775807) (x : Int) : ∃ y m d h mi sc of e : Int,
    (∀ X c p cz pz, Mon X → LpIn X f n p → LpIn X g q pz → n ≤ c → c ≤ maxLen → Calls Tryd.prog 11 #[.agg #[.int .i64 b, .slice p n c, .int .i64 u], .agg #[.int .i64 o, .slice pz q cz], .int .i64 x] X fun e' w' => e' = .returned (.tuple #[.agg #[.int .i64 y, .int .i64 m, .int .i64 d, .int .i64 h, .int .i64 mi, .int .i64 sc], .int .i64 of, .int .i64 e]) ∧ Below X.heap.size X w') ∧
    (∀ X c p cz pz, LpIn X f n p → LpIn X g q pz → Calls Tryd.prog 21 #[.agg #[.int .i64 b, .slice p n c, .int .i64 u], .agg #[.int .i64 o, .slice pz q cz], .int .i64 x] X fun e' w' => e' = .returned (.tuple #[.agg #[.int .i64 y, .int .i64 m, .int .i64 d, .int .i64 h, .int .i64 mi, .int .i64 sc], .int .i64 of, .int .i64 e]) ∧ Below X.heap.size X w') := by
  by_cases ht : tabE b u n f = 0
  · by_cases hz : zoneE o q g = 0
    · by_cases hin : inB x (beginS f n u) = true
      · obtain ⟨D, hD⟩ := known_day (known_mk ht hin)
        by_cases hc : 41317 ≤ (momM f n D x + offAt o g x (q + 1)) / 1440 ∧ (momM f n D x + offAt o g x (q + 1)) / 1440 ≤ 88068
        · obtain ⟨y, k, d, hci⟩ := civ_exists _ hc
          exact ⟨y, (k : Int), d, _, _, _, _, 0, fun X c p cz pz h1 h2 h3 h4 h5 => Local_ok x ht hz hgt hD hci rfl rfl rfl rfl rfl c p cz pz X h1 h2 h3 (by omega) (by omega) h4 h5,
            fun X c p cz pz h2 h3 => rLocal_ok x ht hz hD hci rfl rfl rfl rfl rfl c p cz pz X h2 h3 (by omega) (by omega)⟩
        · exact ⟨0, 0, 0, 0, 0, 0, 0, 90, fun X c p cz pz h1 h2 h3 h4 h5 => Local_date x ht hz hgt hD hc c p cz pz X h1 h2 h3 (by omega) (by omega) h4 h5,
            fun X c p cz pz h2 h3 => rLocal_date x ht hz hD hc c p cz pz X h2 h3 (by omega) (by omega)⟩
      · have hk : knownE b u n f x = 6 := by unfold knownE; rw [if_pos ht, if_neg hin]
        refine ⟨0, 0, 0, 0, 0, 0, 0, 6, fun X c p cz pz h1 h2 h3 h4 h5 => Local_rng x ht hz hgt (by simpa using hin) c p cz pz X h1 h2 h3 (by omega) (by omega) h4 h5, fun X c p cz pz h2 h3 => ?_⟩
        have := rLocal_rng x ht hz (by rw [hk]; decide) c p cz pz X h2 h3 (by omega) (by omega)
        rw [hk] at this
        exact this
    · have he : (if tabE b u n f = 0 then zoneE o q g else tabE b u n f) = zoneE o q g := if_pos ht
      refine ⟨0, 0, 0, 0, 0, 0, 0, zoneE o q g, fun X c p cz pz h1 h2 h3 h4 h5 => ?_, fun X c p cz pz h2 h3 => rLocal_zone x ht hz c p cz pz X h2 h3 (by omega) (by omega)⟩
      have := Local_no x (by rw [he]; exact hz) c p cz pz X h1 h2 h3 (by omega) (by omega) h4 h5
      rw [he] at this
      exact this
  · have he : (if tabE b u n f = 0 then zoneE o q g else tabE b u n f) = tabE b u n f := if_neg ht
    refine ⟨0, 0, 0, 0, 0, 0, 0, tabE b u n f, fun X c p cz pz h1 h2 h3 h4 h5 => ?_, fun X c p cz pz h2 h3 => rLocal_tab x ht c p cz pz X h2 h3 (by omega) (by omega)⟩
    have := Local_no x (by rw [he]; exact ht) c p cz pz X h1 h2 h3 (by omega) (by omega) h4 h5
    rw [he] at this
    exact this
/-- the answer of a function that gives a list, or none with an error -/
def ListR (fn : FuncId) (args : Array Value) (X : World) (L : List Int) (er : Int) : Prop :=
  Calls Tryd.prog fn args X fun e w' => (∃ r cr, e = .returned (.tuple #[.slice r L.length cr, .int .i64 er]) ∧ FnIn w' (atL L) L.length r) ∧ Below X.heap.size X w'
theorem ListR.none {fn : FuncId} {args : Array Value} {X : World} {er : Int} (h : Calls Tryd.prog fn args X fun e w' => e = .returned (.tuple #[.slice none 0 0, .int .i64 er]) ∧ Below X.heap.size X w') : ListR fn args X [] er :=
  h.mono fun _ _ ⟨h1, h2⟩ => ⟨⟨_, _, h1, .inl rfl⟩, h2⟩
theorem fl_pair (b u : Int) (n : Nat) (f : Nat → Int × Int) (hn : n ≤ 1000) (o : Int) (q : Nat) (g : Nat → Int × Int) (hq : q ≤ 1000) (hgt : ∀ i, i < q → (g i).1 ≤ 9223372036854775807) (y m d h mi s : Int) : ∃ (L : List Int) (er : Int), L.length ≤ 1000000 ∧
    (∀ X c p cz pz, Mon X → LpIn X f n p → LpIn X g q pz → n ≤ c → c ≤ maxLen → ListR 13 #[.agg #[.int .i64 b, .slice p n c, .int .i64 u], .agg #[.int .i64 o, .slice pz q cz], .agg #[.int .i64 y, .int .i64 m, .int .i64 d, .int .i64 h, .int .i64 mi, .int .i64 s]] X L er) ∧
    (∀ X c p cz pz, LpIn X f n p → LpIn X g q pz → ListR 22 #[.agg #[.int .i64 b, .slice p n c, .int .i64 u], .agg #[.int .i64 o, .slice pz q cz], .agg #[.int .i64 y, .int .i64 m, .int .i64 d, .int .i64 h, .int .i64 mi, .int .i64 s]] X L er) := by
  by_cases ht : tabE b u n f = 0
  · by_cases hz : zoneE o q g = 0
    · have bad : momB y m d h mi s = false → (∀ X c p cz pz, LpIn X f n p → LpIn X g q pz → Calls Tryd.prog 22 #[.agg #[.int .i64 b, .slice p n c, .int .i64 u], .agg #[.int .i64 o, .slice pz q cz], .agg #[.int .i64 y, .int .i64 m, .int .i64 d, .int .i64 h, .int .i64 mi, .int .i64 s]] X fun e w' => e = .returned (.tuple #[.slice none 0 0, .int .i64 90]) ∧ Below X.heap.size X w') → ∃ (L : List Int) (er : Int), L.length ≤ 1000000 ∧
          (∀ X c p cz pz, Mon X → LpIn X f n p → LpIn X g q pz → n ≤ c → c ≤ maxLen → ListR 13 #[.agg #[.int .i64 b, .slice p n c, .int .i64 u], .agg #[.int .i64 o, .slice pz q cz], .agg #[.int .i64 y, .int .i64 m, .int .i64 d, .int .i64 h, .int .i64 mi, .int .i64 s]] X L er) ∧
          (∀ X c p cz pz, LpIn X f n p → LpIn X g q pz → ListR 22 #[.agg #[.int .i64 b, .slice p n c, .int .i64 u], .agg #[.int .i64 o, .slice pz q cz], .agg #[.int .i64 y, .int .i64 m, .int .i64 d, .int .i64 h, .int .i64 mi, .int .i64 s]] X L er) := fun hm hr =>
        ⟨[], 90, Nat.zero_le _, fun X c p cz pz h1 h2 h3 _ _ => ListR.none (FromLocal_mom ht hz y m d h mi s hm c p cz pz X h1 h2 h3 (by omega) (by omega)), fun X c p cz pz h2 h3 => ListR.none (hr X c p cz pz h2 h3)⟩
      cases hd : okDate y m d
      · exact bad (by unfold momB; rw [hd]; rfl) (fun X c p cz pz h2 h3 => rFromLocal_day ht hz y m d h mi s hd c p cz pz X h2 h3 (by omega) (by omega))
      cases hA : (decide (0 ≤ h) && decide (h ≤ 23))
      · refine bad ?_ (fun X c p cz pz h2 h3 => rFromLocal_h ht hz y m d h mi s hd hA c p cz pz X h2 h3 (by omega) (by omega))
        unfold momB tB
        rw [show (decide (h ≤ 24 - 1)) = decide (h ≤ 23) from rfl, hA]; simp
      cases hB : (decide (0 ≤ mi) && decide (mi ≤ 59))
      · refine bad ?_ (fun X c p cz pz h2 h3 => rFromLocal_mi ht hz y m d h mi s hd hA hB c p cz pz X h2 h3 (by omega) (by omega))
        unfold momB miB
        rw [show (decide (mi ≤ 60 - 1)) = decide (mi ≤ 59) from rfl, hB]; simp
      cases hC : (decide (0 ≤ s) && decide (s ≤ 60))
      · refine bad ?_ (fun X c p cz pz h2 h3 => rFromLocal_s ht hz y m d h mi s hd hA hB hC c p cz pz X h2 h3 (by omega) (by omega))
        unfold momB sB
        rw [hC]; simp
      obtain ⟨k, rfl, hdt⟩ := okDate_yes hd
      have hT := tab_ok ht
      have hZ := zone_ok hz
      have hsame := rfound_same hT hZ (1440 * dayN y k d + 60 * h + mi) s
      have hA' := hA
      have hB' := hB
      have hC' := hC
      simp only [Bool.and_eq_true, decide_eq_true_eq] at hA' hB' hC'
      refine ⟨zfound u f n (1440 * dayN y k d + 60 * h + mi) s o q g (q + 1), (if zfound u f n (1440 * dayN y k d + 60 * h + mi) s o q g (q + 1) = [] then 4 else 0), by have := zfound_len u f n (1440 * dayN y k d + 60 * h + mi) s o q g (q + 1); omega,
        fun X c p cz pz h1 h2 h3 h4 h5 => FromLocal_ok ht hz hgt hdt h mi s hA hB hC c p cz pz X h1 h2 h3 h4 h5, fun X c p cz pz h2 h3 => ?_⟩
      have := rFromLocal_ok ht hz hdt h mi s hA' hB' hC' c p cz pz X h2 h3
      rw [hsame] at this
      exact this
    · exact ⟨[], zoneE o q g, Nat.zero_le _, fun X c p cz pz h1 h2 h3 _ _ => ListR.none (FromLocal_zone ht hz y m d h mi s c p cz pz X h1 h2 h3 (by omega) (by omega)),
        fun X c p cz pz h2 h3 => ListR.none (rFromLocal_zone ht hz y m d h mi s c p cz pz X h2 h3 (by omega) (by omega))⟩
  · exact ⟨[], tabE b u n f, Nat.zero_le _, fun X c p cz pz h1 h2 h3 _ _ => ListR.none (FromLocal_tab ht y m d h mi s c p cz pz X h1 h2 h3 (by omega) (by omega)),
      fun X c p cz pz h2 h3 => ListR.none (rFromLocal_tab ht y m d h mi s c p cz pz X h2 h3 (by omega) (by omega))⟩
end Go.Proofs.YtklhepgpepfgjaaDoor.Cal
