/- Layer 9 (calendar): dates keep the order of their seconds; plain. -/
import Derived.Test.YtnbccbjhnlggaaaDoorFha
import Derived.Test.YtnbccbjhnlggaaaDoorFg
namespace Go.Proofs.YtnbccbjhnlggaaaDoor.Cal
theorem lex_step (x y R : Int) : (if cmpI x y = 0 then R else cmpI x y) < 0 ↔ x < y ∨ (x = y ∧ R < 0) := by
  unfold cmpI
  by_cases h1 : x < y
  · rw [if_pos h1, if_neg (by decide)]
    constructor
    · intro _; exact .inl h1
    · intro _; decide
  · by_cases h2 : y < x
    · rw [if_neg h1, if_pos h2, if_neg (by decide)]
      constructor
      · intro h; exact absurd h (by decide)
      · rintro (h | h)
        · exact absurd h h1
        · omega
    · rw [if_neg h1, if_neg h2, if_pos rfl]
      constructor
      · intro h; exact .inr ⟨by omega, h⟩
      · rintro (h | h)
        · exact absurd h h1
        · exact h.2
theorem lex_lt (a b c d e f x y z s t u : Int) : lexF (six a b c d e f) (six x y z s t u) 0 6 < 0 ↔ a < x ∨ (a = x ∧ (b < y ∨ (b = y ∧ (c < z ∨ (c = z ∧ (d < s ∨ (d = s ∧ (e < t ∨ (e = t ∧ (f < u ∨ (f = u ∧ (0 : Int) < 0))))))))))) := by
  have h : lexF (six a b c d e f) (six x y z s t u) 0 6 = (if cmpI a x = 0 then (if cmpI b y = 0 then (if cmpI c z = 0 then (if cmpI d s = 0 then (if cmpI e t = 0 then (if cmpI f u = 0 then 0 else cmpI f u) else cmpI e t) else cmpI d s) else cmpI c z) else cmpI b y) else cmpI a x) := rfl
  rw [h, lex_step, lex_step, lex_step, lex_step, lex_step, lex_step]
theorem lex_same {b u : Int} {n : Nat} {f : Nat → Int × Int} (ht : TabOk b u n f) {s s' D D' : Int} (h : IsDayOf u n f s D) (h' : IsDayOf u n f s' D') {y y' : Int} {k k' : Nat} {d d' : Int} (hci : IsCiv D y k d) (hci' : IsCiv D' y' k' d') :
    decide (lexF (six y k d (hrS (s - beginS f n D)) (mnS (s - beginS f n D)) (scS (s - beginS f n D))) (six y' k' d' (hrS (s' - beginS f n D')) (mnS (s' - beginS f n D')) (scS (s' - beginS f n D'))) 0 6 < 0) = decide (s < s') := by
  rw [Bool.eq_iff_iff, decide_eq_true_iff, decide_eq_true_iff, lex_lt]
  have hr := day_rest ht h
  have hr' := day_rest ht h'
  have hs := stepAt_bd (f := f) D n ht.s
  have hs' := stepAt_bd (f := f) D' n ht.s
  rcases Int.lt_trichotomy D D' with hlt | heq | hgt
  · have h1 := civ_le hci hci' hlt
    have h2 := h.after ht hlt
    have h3 := h'.lo
    constructor
    · intro _; omega
    · intro _; omega
  · subst heq
    obtain ⟨e1, e2, e3⟩ := hci.uniq hci'
    subst e1 e2 e3
    obtain ⟨r, hrr⟩ : ∃ r, s - beginS f n D = r := ⟨_, rfl⟩
    obtain ⟨r', hrr'⟩ : ∃ r', s' - beginS f n D = r' := ⟨_, rfl⟩
    rw [hrr] at hr ⊢
    rw [hrr'] at hr' ⊢
    have hm := minS_bd r hr.1
    have hm' := minS_bd r' hr'.1
    have e3 : (minS r = 1439 ∧ 1439 ≤ r / 60) ∨ (minS r = r / 60 ∧ r / 60 < 1439) := by unfold minS; split <;> omega
    have e4 : (minS r' = 1439 ∧ 1439 ≤ r' / 60) ∨ (minS r' = r' / 60 ∧ r' / 60 < 1439) := by unfold minS; split <;> omega
    have hiff : s < s' ↔ r < r' := by omega
    rw [hiff]
    unfold hrS mnS scS
    generalize minS r = m at *
    generalize minS r' = m' at *
    constructor
    · intro _; omega
    · intro _; omega
  · have h1 := civ_le hci' hci hgt
    have h2 := h'.after ht hgt
    have h3 := h.lo
    constructor
    · intro _; omega
    · intro _; omega
end Go.Proofs.YtnbccbjhnlggaaaDoor.Cal
