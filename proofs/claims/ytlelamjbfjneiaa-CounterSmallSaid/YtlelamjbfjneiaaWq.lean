/- Plain facts on nets: if the rounds do not settle, what contradiction answers is a contradiction, and none without any of its uses. -/
import Derived.Test.YtlelamjbfjneiaaWp
namespace Go.Proofs.Ytlelamjbfjneiaa.Ct
open Go Go.RowKit
/-- what the rounds leave: when (T) and in which round (rd) each clock was lowered last -/
structure Ghost (l : List Bnd) (n r : Nat) (done : List (Nat × Bool)) (s : Ctr) (T rd : Nat → Nat) (now : Nat) : Prop where
  tn : ∀ k, T k ≤ now
  rr : ∀ k, rd k ≤ r
  both : ∀ k, 1 ≤ T k ↔ 1 ≤ rd k
  inj : ∀ k j, 1 ≤ T k → T k = T j → k = j
  cau : ∀ k, 1 ≤ T k → s.cause k ∈ useN l.length ∧ (kLim l (s.cause k)).f.toNat = k ∧ k < n
  lev : ∀ k, 1 ≤ T k → s.lev (backK l s k) + (kLim l (s.cause k)).m ≤ s.lev k
  strict : ∀ k, 1 ≤ T k → T k < T (backK l s k) → s.lev (backK l s k) + (kLim l (s.cause k)).m < s.lev k
  near : ∀ k, 1 ≤ T k → rd k ≤ rd (backK l s k) + 1
  all : ∀ d ∈ useN l.length, s.lev (kLim l d).f.toNat - s.lev (kLim l d).s.toNat ≤ (kLim l d).m ∨ r ≤ rd (kLim l d).s.toNat + 1
  new : ∀ d ∈ done, s.lev (kLim l d).f.toNat - s.lev (kLim l d).s.toNat ≤ (kLim l d).m ∨ r ≤ rd (kLim l d).s.toNat
  low : s.settled = false → rd s.low = r ∧ s.low < n
theorem Ghost.step {l : List Bnd} {W : Nat → Nat → Int} {n r : Nat} (E : Edges l W n) (hr : 1 ≤ r) {done : List (Nat × Bool)} {s : Ctr} {T rd : Nat → Nat} {now : Nat} (G : Ghost l n r done s T rd now) {d : Nat × Bool} (hd : d ∈ useN l.length) :
    ∃ T' rd' now', Ghost l n r (done ++ [d]) (stepK l s d) T' rd' now' := by
  by_cases hc : s.lev (kLim l d).f.toNat - s.lev (kLim l d).s.toNat ≤ (kLim l d).m
  · rw [show stepK l s d = s from if_pos hc]
    refine ⟨T, rd, now, G.tn, G.rr, G.both, G.inj, G.cau, G.lev, G.strict, G.near, G.all, fun e he => ?_, G.low⟩
    rcases List.mem_append.1 he with he | he
    · exact G.new e he
    · rw [List.mem_singleton.1 he]; exact .inl hc
  · have ft := E.fit d hd
    obtain ⟨k, hk⟩ : ∃ k, k = (kLim l d).f.toNat := ⟨_, rfl⟩
    obtain ⟨q, hq⟩ : ∃ q, q = (kLim l d).s.toNat := ⟨_, rfl⟩
    have hne : q ≠ k := by rw [hk, hq]; exact fun e => ft.ne e.symm
    have hkn : k < n := by rw [hk]; exact ft.f
    have es : stepK l s d = ⟨updN s.lev k (s.lev q + (kLim l d).m), updN s.cause k d, k, false⟩ := by rw [hk, hq]; exact if_neg hc
    rw [← hk, ← hq] at hc
    have hlow : s.lev q + (kLim l d).m < s.lev k := by omega
    rw [es]
    have lk : updN s.lev k (s.lev q + (kLim l d).m) k = s.lev q + (kLim l d).m := if_pos rfl
    have lo : ∀ j, j ≠ k → updN s.lev k (s.lev q + (kLim l d).m) j = s.lev j := fun j hj => if_neg hj
    have ll : ∀ j, updN s.lev k (s.lev q + (kLim l d).m) j ≤ s.lev j := fun j => by
      by_cases e : j = k
      · rw [e, lk]; omega
      · rw [lo j e]; exact Int.le_refl _
    have ck : updN s.cause k d k = d := if_pos rfl
    have co : ∀ j, j ≠ k → updN s.cause k d j = s.cause j := fun j hj => if_neg hj
    have tk : updN T k (now + 1) k = now + 1 := if_pos rfl
    have to_ : ∀ j, j ≠ k → updN T k (now + 1) j = T j := fun j hj => if_neg hj
    have rk : updN rd k r k = r := if_pos rfl
    have ro : ∀ j, j ≠ k → updN rd k r j = rd j := fun j hj => if_neg hj
    have rl : ∀ j, rd j ≤ updN rd k r j := fun j => by
      by_cases e : j = k
      · rw [e, rk]; exact G.rr k
      · rw [ro j e]; exact Nat.le_refl _
    have bk : backK l ⟨updN s.lev k (s.lev q + (kLim l d).m), updN s.cause k d, k, false⟩ k = q := by unfold backK; dsimp only; rw [ck, ← hq]
    have bo : ∀ j, j ≠ k → backK l ⟨updN s.lev k (s.lev q + (kLim l d).m), updN s.cause k d, k, false⟩ j = backK l s j := fun j hj => by unfold backK; dsimp only; rw [co j hj]
    refine ⟨updN T k (now + 1), updN rd k r, now + 1, fun j => ?_, fun j => ?_, fun j => ?_, fun i j h1 h2 => ?_, fun j hj => ?_, fun j hj => ?_, fun j hj ht => ?_, fun j hj => ?_, fun e he => ?_, fun e he => ?_, fun _ => ⟨rk, hkn⟩⟩
    · by_cases e : j = k
      · rw [e, tk]; exact Nat.le_refl _
      · rw [to_ j e]; have := G.tn j; omega
    · by_cases e : j = k
      · rw [e, rk]; exact Nat.le_refl _
      · rw [ro j e]; exact G.rr j
    · by_cases e : j = k
      · rw [e, tk, rk]; omega
      · rw [to_ j e, ro j e]; exact G.both j
    · by_cases e1 : i = k
      · by_cases e2 : j = k
        · rw [e1, e2]
        · rw [e1, tk, to_ j e2] at h2; have := G.tn j; omega
      · by_cases e2 : j = k
        · rw [e2, tk, to_ i e1] at h2; have := G.tn i; omega
        · rw [to_ i e1] at h1 h2; rw [to_ j e2] at h2; exact G.inj i j h1 h2
    · dsimp only
      by_cases e : j = k
      · rw [e, ck]; exact ⟨hd, hk.symm, hkn⟩
      · rw [to_ j e] at hj; rw [co j e]; exact G.cau j hj
    · dsimp only
      by_cases e : j = k
      · rw [e, bk, ck, lk, lo q hne]; exact Int.le_refl _
      · rw [to_ j e] at hj
        rw [bo j e, co j e, lo j e]
        have := G.lev j hj
        have := ll (backK l s j)
        omega
    · dsimp only
      by_cases e : j = k
      · rw [e, bk, tk, to_ q hne] at ht; have := G.tn q; omega
      · rw [to_ j e] at hj
        rw [bo j e, to_ j e] at ht
        rw [bo j e, co j e, lo j e]
        by_cases e2 : backK l s j = k
        · rw [e2, lk]
          have := G.lev j hj
          rw [e2] at this
          omega
        · rw [to_ _ e2] at ht
          rw [lo _ e2]
          exact G.strict j hj ht
    · by_cases e : j = k
      · rw [e, bk, rk, ro q hne]
        rcases G.all d hd with h | h
        · rw [← hk, ← hq] at h; omega
        · rw [← hq] at h; exact h
      · rw [to_ j e] at hj
        rw [bo j e, ro j e]
        have := G.near j hj
        have := rl (backK l s j)
        omega
    · dsimp only
      by_cases e2 : (kLim l e).s.toNat = k
      · rw [e2, rk]; exact .inr (by omega)
      · rcases G.all e he with h | h
        · have := ll (kLim l e).f.toNat
          rw [lo _ e2]
          exact .inl (by omega)
        · rw [ro _ e2]; exact .inr h
    · dsimp only
      by_cases e2 : (kLim l e).s.toNat = k
      · rw [e2, rk]; exact .inr (Nat.le_refl _)
      · rcases List.mem_append.1 he with he | he
        · rcases G.new e he with h | h
          · have := ll (kLim l e).f.toNat
            rw [lo _ e2]
            exact .inl (by omega)
          · rw [ro _ e2]; exact .inr h
        · rw [List.mem_singleton.1 he] at e2 ⊢
          rw [lo _ e2, ← hk, lk, ← hq]
          exact .inl (by omega)
theorem Ghost.fold {l : List Bnd} {W : Nat → Nat → Int} {n r : Nat} (E : Edges l W n) (hr : 1 ≤ r) : ∀ (us : List (Nat × Bool)) {done : List (Nat × Bool)} {s : Ctr} {T rd : Nat → Nat} {now : Nat}, (∀ d ∈ us, d ∈ useN l.length) → Ghost l n r done s T rd now → ∃ T' rd' now', Ghost l n r (done ++ us) (foldK l s us) T' rd' now'
  | [], done, s, T, rd, now, _, G => ⟨T, rd, now, by rw [List.append_nil]; exact G⟩
  | u :: us, done, s, T, rd, now, hu, G => by
    obtain ⟨T', rd', now', G'⟩ := G.step E hr (hu u (by simp))
    obtain ⟨T2, rd2, now2, G2⟩ := Ghost.fold E hr us (fun d hd => hu d (by simp [hd])) G'
    exact ⟨T2, rd2, now2, by rw [List.append_assoc] at G2; exact G2⟩
/-- after each round -/
theorem ghost_rounds {l : List Bnd} {W : Nat → Nat → Int} {n : Nat} (E : Edges l W n) : ∀ t, ∃ T rd now, Ghost l n (t + 1) (useN l.length) (roundsK l (t + 1)) T rd now
  | 0 => by
    obtain ⟨T, rd, now, G⟩ := Ghost.fold E (Nat.le_refl 1) (useN l.length) (done := []) (s := { ctr0 with settled := true }) (T := fun _ => 0) (rd := fun _ => 0) (now := 0) (fun _ h => h)
      ⟨fun _ => Nat.le_refl _, fun _ => Nat.zero_le _, fun _ => Iff.rfl, fun _ _ h => absurd h (by decide), fun _ h => absurd h (by decide), fun _ h => absurd h (by decide), fun _ h => absurd h (by decide), fun _ h => absurd h (by decide), fun _ _ => .inr (Nat.le_refl _), fun _ h => (by cases h), fun h => (by cases h)⟩
    exact ⟨T, rd, now, G⟩
  | t + 1 => by
    obtain ⟨T, rd, now, G⟩ := ghost_rounds E t
    obtain ⟨T', rd', now', G'⟩ := Ghost.fold E (r := t + 1 + 1) (by omega) (useN l.length) (done := []) (s := { roundsK l (t + 1) with settled := true }) (T := T) (rd := rd) (now := now) (fun _ h => h)
      ⟨G.tn, fun k => by have := G.rr k; omega, G.both, G.inj, G.cau, G.lev, G.strict, G.near, fun d hd => by
        rcases G.new d hd with h | h
        · exact .inl h
        · exact .inr (by omega), fun _ h => (by cases h), fun h => (by cases h)⟩
    exact ⟨T', rd', now', G'⟩
/-- the way back meets lowered clocks alone, once it is long enough -/
theorem way_low {l : List Bnd} {W : Nat → Nat → Int} {n : Nat} (E : Edges l W n) (hn : 1 ≤ n) {done : List (Nat × Bool)} {s : Ctr} {T rd : Nat → Nat} {now : Nat} (G : Ghost l n n done s T rd now) (hs : s.settled = false) :
    ∀ t, n ≤ t → 1 ≤ T (itN (backK l s) t s.low) := by
  obtain ⟨l1, l2⟩ := G.low hs
  have far : ∀ i, i ≤ n - 1 → n ≤ rd (itN (backK l s) i s.low) + i := by
    intro i
    induction i with
    | zero => intro _; show n ≤ rd s.low + 0; omega
    | succ i ih =>
      intro hi
      have h := ih (by omega)
      have := G.near _ ((G.both _).2 (show 1 ≤ rd (itN (backK l s) i s.low) by omega))
      show n ≤ rd (backK l s (itN (backK l s) i s.low)) + (i + 1)
      omega
  have lowd : ∀ i, i ≤ n - 1 → 1 ≤ T (itN (backK l s) i s.low) := fun i hi => (G.both _).2 (by have := far i hi; omega)
  have inn : ∀ i, i ≤ n → itN (backK l s) i s.low < n := by
    intro i hi
    match i with
    | 0 => exact l2
    | i + 1 => exact (E.fit _ (G.cau _ (lowd i (by omega))).1).s
  obtain ⟨i, j, hij, hj, heq⟩ := pigeon n (fun i => itN (backK l s) i s.low) (fun i hi => inn i hi)
  have cyc : ∀ t, i ≤ t → ∃ t', i ≤ t' ∧ t' < j ∧ itN (backK l s) t s.low = itN (backK l s) t' s.low := by
    intro t
    induction t with
    | zero => intro h; exact ⟨i, Nat.le_refl _, hij, by rw [show i = 0 by omega]⟩
    | succ t ih =>
      intro h
      by_cases he : i = t + 1
      · exact ⟨i, Nat.le_refl _, hij, by rw [he]⟩
      · obtain ⟨t', h1, h2, h3⟩ := ih (by omega)
        by_cases hl : t' + 1 < j
        · exact ⟨t' + 1, by omega, hl, by show backK l s (itN (backK l s) t s.low) = backK l s (itN (backK l s) t' s.low); rw [h3]⟩
        · refine ⟨i, Nat.le_refl _, hij, ?_⟩
          have e : t' + 1 = j := by omega
          have : itN (backK l s) (t + 1) s.low = itN (backK l s) (t' + 1) s.low := by show backK l s (itN (backK l s) t s.low) = backK l s (itN (backK l s) t' s.low); rw [h3]
          rw [this, e]; exact heq.symm
  intro t ht
  obtain ⟨t', h1, h2, h3⟩ := cyc t (by omega)
  rw [h3]
  exact lowd t' (by omega)
end Go.Proofs.Ytlelamjbfjneiaa.Ct
