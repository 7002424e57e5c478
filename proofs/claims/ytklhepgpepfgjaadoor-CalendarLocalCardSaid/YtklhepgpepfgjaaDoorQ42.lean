/- Layer 9 (calendar): the day of a second that is known. · Layer 9 (calendar): what the law asks of any second: its local date, or none, and whether it is among those of a date. -/
import Derived.Test.YtklhepgpepfgjaaDoorQ27
import Derived.Test.YtklhepgpepfgjaaDoorQ41
import Derived.Test.YtklhepgpepfgjaaDoorQ19
import Derived.Test.YtklhepgpepfgjaaDoorQ28
namespace Go.Proofs.YtklhepgpepfgjaaDoor.Cal
open Go Go.RowKit
attribute [local go_sem] Oper.semAt_some
theorem known_day {b u : Int} {n : Nat} {f : Nat → Int × Int} {s : Int} (hk : knownE b u n f s = 0) : ∃ D, IsDayOf u n f s D := by
  obtain ⟨ht, hi⟩ := knownE_zero hk
  have hb := inB_bd hi
  exact (tab_ok ht).day_exists hb.1 hb.2
end Go.Proofs.YtklhepgpepfgjaaDoor.Cal
namespace Go.Proofs.YtklhepgpepfgjaaDoor.Cal
open Go Go.RowKit
theorem loc_ex {b u : Int} {n : Nat} {f : Nat → Int × Int} (ht : tabE b u n f = 0) {o : Int} {q : Nat} {g : Nat → Int × Int} (hze : zoneE o q g = 0) (hgt : ∀ i, i < q → (g i).1 ≤ 9223372036854775807) (x : Int) {lm Y : Int} {K : Nat} {E : Int} (ls : Int) (hci : IsCiv (lm / 1440) Y K E) :
    ∃ y m d h mi sc of e : Int, (∀ c p cz pz X, Mon X → LpIn X f n p → LpIn X g q pz → n ≤ c → c ≤ maxLen →
      Calls Tryd.prog 11 #[.agg #[.int .i64 b, .slice p n c, .int .i64 u], .agg #[.int .i64 o, .slice pz q cz], .int .i64 x] X fun e' w' => e' = .returned (.tuple #[.agg #[.int .i64 y, .int .i64 m, .int .i64 d, .int .i64 h, .int .i64 mi, .int .i64 sc], .int .i64 of, .int .i64 e]) ∧ Below X.heap.size X w') ∧
      (e ≠ 0 → x ∉ zfound u f n lm ls o q g (q + 1)) ∧
      (e = 0 → ((y = Y ∧ m = (K : Int) ∧ d = E ∧ h = lm % 1440 / 60 ∧ mi = lm % 1440 % 60 ∧ sc = ls) ↔ x ∈ zfound u f n lm ls o q g (q + 1))) := by
  have hT := tab_ok ht
  have hZ := zone_ok hze
  have hn := hT.n1
  have hq := hZ.q1
  by_cases hin : inB x (beginS f n u) = true
  · obtain ⟨D, hD⟩ := known_day (known_mk ht hin)
    have hiff := zfound_iff hT hZ lm ls hD
    by_cases hc : 41317 ≤ (momM f n D x + offAt o g x (q + 1)) / 1440 ∧ (momM f n D x + offAt o g x (q + 1)) / 1440 ≤ 88068
    · obtain ⟨y, k, d, hci2⟩ := civ_exists _ hc
      refine ⟨y, (k : Int), d, _, _, _, _, 0, fun c p cz pz X h1 h2 h3 h4 h5 => Local_ok x ht hze hgt hD hci2 rfl rfl rfl rfl rfl c p cz pz X h1 h2 h3 (by omega) (by omega) h4 h5, fun h => absurd rfl h, fun _ => ?_⟩
      rw [hiff]
      constructor
      · rintro ⟨rfl, hk, rfl, h4, h5, h6⟩
        obtain rfl : k = K := by omega
        have e1 := hci.n_
        rw [← hci2.n_] at e1
        exact ⟨by omega, h6⟩
      · rintro ⟨rfl, rfl⟩
        obtain ⟨rfl, rfl, rfl⟩ := hci2.uniq hci
        exact ⟨rfl, rfl, rfl, rfl, rfl, rfl⟩
    · refine ⟨0, 0, 0, 0, 0, 0, 0, 90, fun c p cz pz X h1 h2 h3 h4 h5 => Local_date x ht hze hgt hD hc c p cz pz X h1 h2 h3 (by omega) (by omega) h4 h5, fun _ => ?_, fun h => absurd h (by decide)⟩
      rw [hiff]
      rintro ⟨rfl, rfl⟩
      exact hc hci.n_bd
  · refine ⟨0, 0, 0, 0, 0, 0, 0, 6, fun c p cz pz X h1 h2 h3 h4 h5 => Local_rng x ht hze hgt (by simpa using hin) c p cz pz X h1 h2 h3 (by omega) (by omega) h4 h5, fun _ hx => ?_, fun h => absurd h (by decide)⟩
    obtain ⟨D, hD⟩ := zfound_day hT lm ls hx
    have hk := hT.begin_mono (show D + 1 ≤ u by have := hD.d2; omega)
    have h0 := hT.begin_mono hD.d1
    rw [hT.begin_first] at h0
    have h1 := hD.lo
    have h2 := hD.hi
    apply hin
    unfold inB
    simp only [Bool.and_eq_true, decide_eq_true_eq]
    omega
end Go.Proofs.YtklhepgpepfgjaaDoor.Cal
