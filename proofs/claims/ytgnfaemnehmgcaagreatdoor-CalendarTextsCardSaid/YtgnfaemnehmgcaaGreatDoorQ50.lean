/- Layer 9 (calendar): Extend of the program and of the reference answer the same. -/
import Derived.Test.YtgnfaemnehmgcaaGreatDoorQ45
import Derived.Test.YtgnfaemnehmgcaaGreatDoorQ49
namespace Go.Proofs.YtgnfaemnehmgcaaGreatDoor.Cal
open Go Go.RowKit
theorem eqF_all {f g : Nat → Int × Int} : ∀ n, eqF f g n = true → ∀ i, i < n → f i = g i
  | 0, _, i, hi => absurd hi (Nat.not_lt_zero i)
  | n + 1, h, i, hi => by
    rw [eqF, Bool.and_eq_true, Bool.and_eq_true, decide_eq_true_eq, decide_eq_true_eq] at h
    by_cases e : i = n
    · subst e
      exact Prod.ext h.2.1 h.2.2
    · exact eqF_all n h.1 i (by omega)
theorem eqF_of {f g : Nat → Int × Int} : ∀ n, (∀ i, i < n → f i = g i) → eqF f g n = true
  | 0, _ => rfl
  | n + 1, h => by
    rw [eqF, eqF_of n (fun i hi => h i (by omega)), h n (by omega)]
    simp
/-- how many of the first days lie before a day -/
theorem first_not (g : Nat → Int × Int) (u : Int) : ∀ n : Nat, ∃ k, k ≤ n ∧ (∀ j, j < k → (g j).1 < u) ∧ (k < n → u ≤ (g k).1)
  | 0 => ⟨0, Nat.le_refl _, fun j hj => absurd hj (Nat.not_lt_zero j), fun h => absurd h (Nat.lt_irrefl 0)⟩
  | n + 1 => by
    obtain ⟨k, hk, h1, h2⟩ := first_not g u n
    by_cases e : k < n
    · exact ⟨k, by omega, h1, fun _ => h2 e⟩
    · obtain rfl : k = n := by omega
      by_cases e2 : (g k).1 < u
      · exact ⟨k + 1, Nat.le_refl _, fun j hj => if e3 : j = k then e3 ▸ e2 else h1 j (by omega), fun h => absurd h (Nat.lt_irrefl _)⟩
      · exact ⟨k, by omega, h1, fun _ => by omega⟩
/-- what Extend of the program answers -/
def PExt (b1 u1 : Int) (n1 : Nat) (f : Nat → Int × Int) (b2 u2 : Int) (n2 : Nat) (g : Nat → Int × Int) (post : World → Ending → World → Prop) : Prop :=
  ∀ (c1 c2 : Nat) (p1 p2 : Option Addr) (w : World), Mon w → LpIn w f n1 p1 → LpIn w g n2 p2 → n1 ≤ c1 → n2 ≤ c2 → c2 ≤ maxLen → (p2 = none → n2 = 0) →
    Calls Tryz.prog 15 #[.agg #[.int .i64 b1, .slice p1 n1 c1, .int .i64 u1], .agg #[.int .i64 b2, .slice p2 n2 c2, .int .i64 u2]] w (post w)
/-- what the reference's Extend answers -/
def RExt (b1 u1 : Int) (n1 : Nat) (f : Nat → Int × Int) (b2 u2 : Int) (n2 : Nat) (g : Nat → Int × Int) (post : World → Ending → World → Prop) : Prop :=
  ∀ (c1 c2 : Nat) (p1 p2 : Option Addr) (w : World), LpIn w f n1 p1 → LpIn w g n2 p2 → (p2 = none → n2 = 0) →
    Calls Tryz.prog 16 #[.agg #[.int .i64 b1, .slice p1 n1 c1, .int .i64 u1], .agg #[.int .i64 b2, .slice p2 n2 c2, .int .i64 u2]] w (post w)
def extNo (E : Int) (w : World) (e : Ending) (w' : World) : Prop := e = .returned (.tuple #[.agg #[.int .i64 0, .slice none 0 0, .int .i64 0], .int .i64 E]) ∧ Below w.heap.size w w'
def extOwn (b u : Int) (n : Nat) (g : Nat → Int × Int) (w : World) (e : Ending) (w' : World) : Prop :=
  ∃ q cq, e = .returned (.tuple #[.agg #[.int .i64 b, .slice q n cq, .int .i64 u], .int .i64 0]) ∧ n ≤ cq ∧ cq ≤ maxLen ∧ LpIn w' g n q ∧ (∀ bl o, q = some ⟨bl, o, none⟩ → w.heap.size ≤ bl ∧ ∀ i, w'.frozen? ⟨bl, i, none⟩ = false) ∧ Below w.heap.size w w'
def extRef (b u : Int) (n : Nat) (g : Nat → Int × Int) (w : World) (e : Ending) (w' : World) : Prop :=
  ∃ q cq, e = .returned (.tuple #[.agg #[.int .i64 b, .slice q n cq, .int .i64 u], .int .i64 0]) ∧ LpIn w' g n q ∧ Below w.heap.size w w'
theorem ext_pair (b1 u1 : Int) (n1 : Nat) (f : Nat → Int × Int) (b2 u2 : Int) (n2 : Nat) (g : Nat → Int × Int) (hn1 : n1 ≤ 1000) (hn2 : n2 ≤ 1000) :
    (∃ E : Int, E ≠ 0 ∧ PExt b1 u1 n1 f b2 u2 n2 g (extNo E) ∧ RExt b1 u1 n1 f b2 u2 n2 g (extNo E)) ∨
    (n2 ≤ 100 ∧ PExt b1 u1 n1 f b2 u2 n2 g (extOwn b2 u2 n2 g) ∧ RExt b1 u1 n1 f b2 u2 n2 g (extRef b2 u2 n2 g)) := by
  obtain ⟨e1, h1⟩ : ∃ e, tabE b1 u1 n1 f = e := ⟨_, rfl⟩
  obtain ⟨e2, h2⟩ : ∃ e, tabE b2 u2 n2 g = e := ⟨_, rfl⟩
  by_cases z1 : e1 = 0
  · subst z1
    by_cases z2 : e2 = 0
    · subst z2
      by_cases hu : u2 < u1
      · exact .inl ⟨9, by decide, fun c1 c2 p1 p2 w hw hs1 hs2 hc1 hc2 hm hp => Extend_state h1 h2 hu w hw hs1 hs2 hc1 hc2 hm hp, fun c1 c2 p1 p2 w hs1 hs2 hp => rExt_state h1 h2 hu w hs1 hs2 hn1 hn2⟩
      · by_cases hb : b1 = b2
        · subst hb
          have T1 := tab_ok h1
          have T2 := tab_ok h2
          obtain ⟨k, hk, hlt, hge⟩ := first_not g u1 n2
          by_cases hnn : n2 < n1
          · exact .inl ⟨91, by decide, fun c1 c2 p1 p2 w hw hs1 hs2 hc1 hc2 hm hp => Extend_leap2 h1 h2 (by omega) k hk hlt hge (fun e => by omega) w hw hs1 hs2 hc1 hc2 hm hp, fun c1 c2 p1 p2 w hs1 hs2 hp => rExt_few h1 h2 (by omega) hnn w hs1 hs2 hn1 hn2⟩
          · by_cases hg : ∀ i, i < n2 → goodE u1 f g n1 i
            · have hlt' : ∀ j, j < n1 → (g j).1 < u1 := fun j hj => by
                rw [← (hg j (by omega)).1 hj]
                have := (T1.d1 j hj).2
                omega
              exact .inr ⟨T2.n1, fun c1 c2 p1 p2 w hw hs1 hs2 hc1 hc2 hm hp => Extend_own h1 h2 (by omega) n1 (by omega) hlt' (fun h => (hg n1 h).2 (Nat.le_refl _)) ⟨rfl, eqF_of n1 (fun i hi => (hg i (by omega)).1 hi)⟩ w hw hs1 hs2 hc1 hc2 hm hp,
                fun c1 c2 p1 p2 w hs1 hs2 hp => rExt_ok h1 h2 (by omega) (by omega) hp hg w hs1 hs2 hn1 hn2⟩
            · have hbad : ∃ i, i < n2 ∧ ¬ goodE u1 f g n1 i := Classical.byContradiction fun h => hg fun i hi => Classical.byContradiction fun h2 => h ⟨i, hi, h2⟩
              refine .inl ⟨91, by decide, fun c1 c2 p1 p2 w hw hs1 hs2 hc1 hc2 hm hp => Extend_leap2 h1 h2 (by omega) k hk hlt hge (fun e => ?_) w hw hs1 hs2 hc1 hc2 hm hp, fun c1 c2 p1 p2 w hs1 hs2 hp => rExt_leap h1 h2 (by omega) (by omega) hbad w hs1 hs2 hn1 hn2⟩
              subst e
              rw [Bool.eq_false_iff]
              intro he
              refine hg fun i hi => ⟨fun h => eqF_all _ he i h, fun h => ?_⟩
              have hk2 := hge (by omega)
              rcases Nat.eq_or_lt_of_le h with h | h
              · rw [← h]; exact hk2
              · have := T2.o n1 i h hi
                omega
        · exact .inl ⟨91, by decide, fun c1 c2 p1 p2 w hw hs1 hs2 hc1 hc2 hm hp => Extend_base h1 h2 (by omega) hb w hw hs1 hs2 hc1 hc2 hm hp, fun c1 c2 p1 p2 w hs1 hs2 hp => rExt_base h1 h2 (by omega) hb w hs1 hs2 hn1 hn2⟩
    · exact .inl ⟨e2, z2, fun c1 c2 p1 p2 w hw hs1 hs2 hc1 hc2 hm hp => Extend_bad h1 h2 hn1 hn2 (by simp [orF]) z2 w hw hs1 hs2 hc1 hc2 hm hp, fun c1 c2 p1 p2 w hs1 hs2 hp => rExt_bad2 h1 h2 z2 w hs1 hs2 hn1 hn2⟩
  · exact .inl ⟨e1, z1, fun c1 c2 p1 p2 w hw hs1 hs2 hc1 hc2 hm hp => Extend_bad h1 h2 hn1 hn2 (by simp [orF, z1]) z1 w hw hs1 hs2 hc1 hc2 hm hp, fun c1 c2 p1 p2 w hs1 hs2 hp => rExt_bad1 h1 h2 z1 w hs1 hs2 hn1 hn2⟩
end Go.Proofs.YtgnfaemnehmgcaaGreatDoor.Cal
