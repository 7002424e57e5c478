/- Plain facts on nets: if there is a narrowest matrix, the rounds of contradiction settle. -/
import Derived.Test.YtlelamjbfjneiaaWo
namespace Go.Proofs.Ytlelamjbfjneiaa.Ct
open Go Go.RowKit
/-- a walk of e steps, none perhaps -/
structure WlkN (W : Nat → Nat → Int) (n : Nat) (f : Nat → Nat) (e : Nat) : Prop where
  lt : ∀ i, i ≤ e → f i < n
  fin : ∀ i, i < e → W (f i) (f (i + 1)) < openI
variable {W : Nat → Nat → Int} {n V : Nat} {D : Nat → Nat → Nat → Int}
theorem Rnds.shortN (R : Rnds W n n D) (hn : 1 ≤ n) : ∀ (e : Nat) (f : Nat → Nat), WlkN W n f e → ∃ g d, d ≤ n - 1 ∧ WlkN W n g d ∧ g 0 = f 0 ∧ wtW W g d ≤ wtW W f e := by
  intro e
  induction e using Nat.strongRecOn with
  | _ e ihe =>
    intro f h
    by_cases hs : e ≤ n - 1
    · exact ⟨f, e, hs, h, rfl, Int.le_refl _⟩
    · obtain ⟨i, j, hij, hj, heq⟩ := pigeon n f (fun i hi => h.lt i (by omega))
      have kc : IsW W n n (fun t => f (i + t)) (j - i) := ⟨by omega, fun t h1 h2 => h.lt (i + t) (by omega), fun t ht => h.lt (i + t) (by omega), fun t ht => h.fin (i + t) (by omega)⟩
      have hcl := R.le_walk n (Nat.le_refl n) (fun t => f (i + t)) (j - i) (by have := R.size; omega) kc
      rw [show i + (j - i) = j by omega, Nat.add_zero, ← heq] at hcl
      have hdg := R.diag n (Nat.le_refl n) (f i) (h.lt i (by omega))
      obtain ⟨F, hF⟩ : ∃ F : Nat → Nat, ∀ t, F t = if t ≤ i then f t else f (t + (j - i)) := ⟨_, fun _ => rfl⟩
      have c1 : ∀ t, t ≤ i → F t = f t := fun t ht => by rw [hF, if_pos ht]
      have c2 : ∀ t, F (i + t) = f (j + t) := fun t => by
        rw [hF]
        by_cases ht : t = 0
        · subst ht; rw [if_pos (by omega)]; exact heq
        · rw [if_neg (by omega), show i + t + (j - i) = j + t by omega]
      have k : WlkN W n F (e - (j - i)) := by
        refine ⟨fun t ht => ?_, fun t ht => ?_⟩
        · by_cases h3 : t ≤ i
          · rw [c1 t h3]; exact h.lt t (by omega)
          · rw [show t = i + (t - i) by omega, c2]; exact h.lt _ (by omega)
        · by_cases h3 : t < i
          · rw [c1 t (by omega), c1 (t + 1) (by omega)]; exact h.fin t (by omega)
          · rw [show t = i + (t - i) by omega, c2, show i + (t - i) + 1 = i + (t - i + 1) by omega, c2]
            exact h.fin (j + (t - i)) (by omega)
      obtain ⟨g, d, hd, hg, g0, gw⟩ := ihe (e - (j - i)) (by omega) F k
      refine ⟨g, d, hd, hg, by rw [g0, c1 0 (by omega)], ?_⟩
      have s1 := wtW_add W f i (e - i)
      have s2 := wtW_add W (fun t => f (i + t)) (j - i) (e - j)
      have s3 := wtW_add W F i (e - j)
      rw [show i + (e - i) = e by omega] at s1
      rw [show j - i + (e - j) = e - i by omega] at s2
      rw [show i + (e - j) = e - (j - i) by omega, wtW_congr (g := f) c1, wtW_congr (g := fun t => f (j + t)) (fun t _ => c2 t)] at s3
      rw [wtW_congr (f := fun t => f (i + (j - i + t))) (g := fun t => f (j + t)) (fun t _ => by rw [show i + (j - i + t) = j + t by omega])] at s2
      omega
theorem stepK_le (l : List Bnd) (s : Ctr) (d : Nat × Bool) : (∀ k, (stepK l s d).lev k ≤ s.lev k) ∧ (stepK l s d).lev (kLim l d).f.toNat ≤ s.lev (kLim l d).s.toNat + (kLim l d).m := by
  unfold stepK
  by_cases hc : s.lev (kLim l d).f.toNat - s.lev (kLim l d).s.toNat ≤ (kLim l d).m
  · rw [if_pos hc]
    exact ⟨fun k => Int.le_refl _, by omega⟩
  · rw [if_neg hc]
    dsimp only
    unfold updN
    refine ⟨fun k => ?_, ?_⟩
    · split
      · rename_i e; rw [e]; omega
      · exact Int.le_refl _
    · rw [if_pos rfl]; exact Int.le_refl _
theorem foldK_le (l : List Bnd) : ∀ (us : List (Nat × Bool)) (s : Ctr), (∀ k, (foldK l s us).lev k ≤ s.lev k) ∧ ∀ d ∈ us, (foldK l s us).lev (kLim l d).f.toNat ≤ s.lev (kLim l d).s.toNat + (kLim l d).m
  | [], s => ⟨fun k => Int.le_refl _, fun d hd => by cases hd⟩
  | u :: us, s => by
    obtain ⟨h1, h2⟩ := foldK_le l us (stepK l s u)
    obtain ⟨k1, k2⟩ := stepK_le l s u
    refine ⟨fun k => Int.le_trans (h1 k) (k1 k), fun d hd => ?_⟩
    show (foldK l (stepK l s u) us).lev _ ≤ _
    rcases List.mem_cons.1 hd with rfl | hd
    · exact Int.le_trans (h1 _) k2
    · have := h2 d hd
      have := k1 (kLim l d).s.toNat
      omega
/-- the first matrix of a net, as limits -/
structure Edges (l : List Bnd) (W : Nat → Nat → Int) (n : Nat) : Prop where
  le : ∀ d ∈ useN l.length, W (kLim l d).f.toNat (kLim l d).s.toNat ≤ (kLim l d).m
  fit : ∀ d ∈ useN l.length, LimFit n (kLim l d)
  from_ : ∀ a b, a < n → b < n → W a b < openI → (a = b ∧ 0 ≤ W a b) ∨ ∃ d ∈ useN l.length, a = (kLim l d).f.toNat ∧ b = (kLim l d).s.toNat ∧ W a b = (kLim l d).m
theorem edges_of {n : Nat} {l : List Bnd} (hn : n ≤ 16) (hl : LimsOk n l) : Edges l (getM (boundM n (limsL l))) n := by
  have hop : openI = 100000000000000000 := rfl
  have F0 : First n (diagM n n) := ⟨shape_diag n n, hn, fun a ha => by rw [diag_at n n (Nat.le_refl _) a a ha ha, if_pos ⟨rfl, ha⟩]; exact Int.le_refl _, fun a b ha hb => by rw [diag_at n n (Nat.le_refl _) a b ha hb]; split <;> omega, fun a b ha hb => by rw [diag_at n n (Nat.le_refl _) a b ha hb]; split <;> (intro _; omega), fun a b ha hb => by rw [diag_at n n (Nat.le_refl _) a b ha hb]; split <;> omega⟩
  have mem : ∀ d ∈ useN l.length, kLim l d ∈ limsL l := fun d hd => List.mem_map.2 ⟨d, hd, rfl⟩
  refine ⟨fun d hd => (fold_le (limsL l) F0 (fun x hx => lim_fit hl hx)).2 _ (mem d hd), fun d hd => lim_fit hl (mem d hd), fun a b ha hb hf => ?_⟩
  rcases fold_from (limsL l) F0 (fun x hx => lim_fit hl hx) a b with e | ⟨y, hy, e1, e2, e3⟩
  · change getM (boundM n (limsL l)) a b = _ at e
    rw [e, diag_at n n (Nat.le_refl _) a b ha hb] at hf ⊢
    by_cases hc : a = b ∧ a < n
    · exact .inl ⟨hc.1, by rw [if_pos hc]; exact Int.le_refl _⟩
    · rw [if_neg hc] at hf; omega
  · obtain ⟨d, hd, rfl⟩ := List.mem_map.1 hy
    exact .inr ⟨d, hd, e1, e2, e3⟩
/-- after t rounds a level is at most each walk of at most t steps -/
theorem lev_le {l : List Bnd} (E : Edges l W n) : ∀ (t : Nat) (g : Nat → Nat) (e : Nat), e ≤ t → WlkN W n g e → (roundsK l t).lev (g 0) ≤ wtW W g e
  | 0, g, e, he, _ => by
    obtain rfl : e = 0 := by omega
    exact Int.le_refl _
  | t + 1, g, e, he, h => by
    obtain ⟨k1, k2⟩ := foldK_le l (useN l.length) { roundsK l t with settled := true }
    have er : roundsK l (t + 1) = foldK l { roundsK l t with settled := true } (useN l.length) := rfl
    rw [er]
    by_cases he0 : e = 0
    · subst he0
      exact Int.le_trans (k1 _) (lev_le E t g 0 (by omega) h)
    · have ih := lev_le E t (fun i => g (1 + i)) (e - 1) (by omega) ⟨fun i hi => h.lt (1 + i) (by omega), fun i hi => h.fin (1 + i) (by omega)⟩
      have s := wtW_add W g 1 (e - 1)
      rw [show 1 + (e - 1) = e by omega] at s
      have w1 : wtW W g 1 = W (g 0) (g 1) := by show 0 + W (g 0) (g 1) = _; omega
      have ih' : (roundsK l t).lev (g 1) ≤ wtW W (fun i => g (1 + i)) (e - 1) := ih
      rcases E.from_ _ _ (h.lt 0 (by omega)) (h.lt 1 (by omega)) (h.fin 0 (by omega)) with ⟨e1, e2⟩ | ⟨d, hd, e1, e2, e3⟩
      · have := k1 (g 0)
        have e1' : g 0 = g 1 := e1
        have e2' : 0 ≤ W (g 0) (g 1) := e2
        have q : ({ roundsK l t with settled := true } : Ctr).lev (g 0) = (roundsK l t).lev (g 1) := by rw [e1']
        omega
      · have k3 : (foldK l { roundsK l t with settled := true } (useN l.length)).lev (kLim l d).f.toNat ≤ (roundsK l t).lev (kLim l d).s.toNat + (kLim l d).m := k2 d hd
        have e1' : g 0 = (kLim l d).f.toNat := e1
        have e2' : g 1 = (kLim l d).s.toNat := e2
        have e3' : W (g 0) (g 1) = (kLim l d).m := e3
        rw [← e1', ← e2', ← e3'] at k3
        omega
/-- each level is at least some walk -/
def AtWalk (W : Nat → Nat → Int) (n : Nat) (s : Ctr) : Prop := ∀ j, j < n → ∃ g e, WlkN W n g e ∧ g 0 = j ∧ wtW W g e ≤ s.lev j
theorem stepK_walk {l : List Bnd} (E : Edges l W n) {s : Ctr} (h : AtWalk W n s) {d : Nat × Bool} (hd : d ∈ useN l.length) : AtWalk W n (stepK l s d) := by
  intro j hj
  unfold stepK
  by_cases hc : s.lev (kLim l d).f.toNat - s.lev (kLim l d).s.toNat ≤ (kLim l d).m
  · rw [if_pos hc]; exact h j hj
  · rw [if_neg hc]
    dsimp only
    unfold updN
    by_cases hjf : j = (kLim l d).f.toNat
    · rw [if_pos hjf]
      have ft := E.fit d hd
      have hm := ft.m
      have hle := E.le d hd
      have hop : openI = 100000000000000000 := rfl
      obtain ⟨g, e, k, g0, gw⟩ := h _ ft.s
      obtain ⟨F, hF⟩ : ∃ F : Nat → Nat, ∀ t, F t = if t = 0 then j else g (t - 1) := ⟨_, fun _ => rfl⟩
      have c0 : F 0 = j := by rw [hF, if_pos rfl]
      have c1 : ∀ t, F (1 + t) = g t := fun t => by rw [hF, if_neg (by omega), show 1 + t - 1 = t by omega]
      refine ⟨F, 1 + e, ⟨fun t ht => ?_, fun t ht => ?_⟩, c0, ?_⟩
      · by_cases h0 : t = 0
        · subst h0; rw [c0]; exact hj
        · rw [show t = 1 + (t - 1) by omega, c1]; exact k.lt (t - 1) (by omega)
      · by_cases h0 : t = 0
        · subst h0; rw [c0, show 0 + 1 = 1 + 0 from rfl, c1, g0, hjf]; omega
        · rw [show t = 1 + (t - 1) by omega, c1, show 1 + (t - 1) + 1 = 1 + (t - 1 + 1) by omega, c1]; exact k.fin (t - 1) (by omega)
      · rw [wtW_add, wtW_congr (f := fun t => F (1 + t)) (g := g) (fun t _ => c1 t)]
        have : wtW W F 1 = W (kLim l d).f.toNat (kLim l d).s.toNat := by
          show 0 + W (F 0) (F (0 + 1)) = _
          rw [c0, show 0 + 1 = 1 + 0 from rfl, c1, g0, hjf]; omega
        omega
    · rw [if_neg hjf]; exact h j hj
theorem foldK_walk {l : List Bnd} (E : Edges l W n) : ∀ (us : List (Nat × Bool)) {s : Ctr}, (∀ d ∈ us, d ∈ useN l.length) → AtWalk W n s → AtWalk W n (foldK l s us)
  | [], _, _, h => h
  | u :: us, _, hu, h => foldK_walk E us (fun d hd => hu d (by simp [hd])) (stepK_walk E h (hu u (by simp)))
theorem roundsK_walk {l : List Bnd} (E : Edges l W n) : ∀ t, AtWalk W n (roundsK l t)
  | 0 => fun j hj => ⟨fun _ => j, 0, ⟨fun _ _ => hj, fun i hi => absurd hi (Nat.not_lt_zero i)⟩, rfl, Int.le_refl _⟩
  | t + 1 => foldK_walk E (useN l.length) (fun _ h => h) (show AtWalk W n { roundsK l t with settled := true } from roundsK_walk E t)
/-- the last of n rounds lowers none -/
theorem settles {l : List Bnd} (E : Edges l W n) (R : Rnds W n n D) (hn : 1 ≤ n) : (roundsK l (n - 1 + 1)).settled = true := by
  have all : ∀ d ∈ useN l.length, (roundsK l (n - 1)).lev (kLim l d).f.toNat - (roundsK l (n - 1)).lev (kLim l d).s.toNat ≤ (kLim l d).m := by
    intro d hd
    have ft := E.fit d hd
    have hm := ft.m
    have hle := E.le d hd
    have hop : openI = 100000000000000000 := rfl
    obtain ⟨g, e, k, g0, gw⟩ := roundsK_walk E (n - 1) _ ft.s
    obtain ⟨F, hF⟩ : ∃ F : Nat → Nat, ∀ t, F t = if t = 0 then (kLim l d).f.toNat else g (t - 1) := ⟨_, fun _ => rfl⟩
    have c0 : F 0 = (kLim l d).f.toNat := by rw [hF, if_pos rfl]
    have c1 : ∀ t, F (1 + t) = g t := fun t => by rw [hF, if_neg (by omega), show 1 + t - 1 = t by omega]
    have kF : WlkN W n F (1 + e) := by
      refine ⟨fun t ht => ?_, fun t ht => ?_⟩
      · by_cases h0 : t = 0
        · subst h0; rw [c0]; exact ft.f
        · rw [show t = 1 + (t - 1) by omega, c1]; exact k.lt (t - 1) (by omega)
      · by_cases h0 : t = 0
        · subst h0; rw [c0, show 0 + 1 = 1 + 0 from rfl, c1, g0]; omega
        · rw [show t = 1 + (t - 1) by omega, c1, show 1 + (t - 1) + 1 = 1 + (t - 1 + 1) by omega, c1]; exact k.fin (t - 1) (by omega)
    obtain ⟨g', d', hd', k', g0', gw'⟩ := R.shortN hn (1 + e) F kF
    have u := lev_le E (n - 1) g' d' hd' k'
    have s := wtW_add W F 1 e
    rw [wtW_congr (f := fun t => F (1 + t)) (g := g) (fun t _ => c1 t)] at s
    have w1 : wtW W F 1 = W (kLim l d).f.toNat (kLim l d).s.toNat := by
      show 0 + W (F 0) (F (0 + 1)) = _
      rw [c0, show 0 + 1 = 1 + 0 from rfl, c1, g0]; omega
    rw [g0', c0] at u
    omega
  have same : ∀ us : List (Nat × Bool), (∀ d ∈ us, d ∈ useN l.length) → foldK l { roundsK l (n - 1) with settled := true } us = { roundsK l (n - 1) with settled := true } := by
    intro us
    induction us with
    | nil => intro _; rfl
    | cons u us ih =>
      intro hu
      have e : stepK l { roundsK l (n - 1) with settled := true } u = { roundsK l (n - 1) with settled := true } := if_pos (all u (hu u (by simp)))
      show foldK l (stepK l _ u) us = _
      rw [e]
      exact ih (fun d hd => hu d (by simp [hd]))
  show (foldK l { roundsK l (n - 1) with settled := true } (useN l.length)).settled = true
  rw [same _ (fun _ h => h)]
/-- Narrow has a matrix just if contradiction's rounds settle -/
theorem narrow_iff {n : Nat} {l : List Bnd} (hn : 1 ≤ n ∧ n ≤ 16) (hl : LimsOk n l) : (narrowS n l).2 = true ↔ ∃ t, t < n ∧ (roundsK l (t + 1)).settled = true :=
  ⟨fun h => ⟨n - 1, by omega, settles (edges_of hn.2 hl) (via_R (bound_first hn.2 hl) (Nat.le_refl n) h) hn.1⟩, fun ⟨_, _, h⟩ => narrow_yes hn.2 hl (settled_solves h)⟩
end Go.Proofs.Ytlelamjbfjneiaa.Ct
