/- Plain facts on nets: if there is a narrowest matrix, the rounds of contradiction settle. · Plain facts on nets: if the rounds do not settle, what contradiction answers is a contradiction, and none without any of its uses. · Plain facts on nets: what contradiction answers is a contradiction, and none without any of its uses. -/
import Derived.Test.YtmfpnfdoidihcaaDoorVg
import Derived.Test.YtmfpnfdoidihcaaDoorNx
namespace Go.Proofs.YtmfpnfdoidihcaaDoor.Ct
open Go Go.RowKit
/-- a walk of e steps, none perhaps -/
structure WlkN (W : Nat → Nat → Int) (n : Nat) (f : Nat → Nat) (e : Nat) : Prop where
  lt : ∀ i, i ≤ e → f i < n
  fin : ∀ i, i < e → W (f i) (f (i + 1)) < openI
variable {W : Nat → Nat → Int} {n V : Nat} {D : Nat → Nat → Nat → Int}
theorem Rnds.shortN (R : Rnds W n n D) (hn : 1 ≤ n) : ∀ (e : Nat) (f : Nat → Nat), WlkN W n f e → ∃ g d, d ≤ n - 1 ∧ WlkN W n g d ∧ g 0 = f 0 ∧ wtW W g d ≤ wtW W f e := by
  intro e
  induction e using Nat.strongRecOn with
  | _ e ihe =>
    intro f h
    by_cases hs : e ≤ n - 1
    · exact ⟨f, e, hs, h, rfl, Int.le_refl _⟩
    · obtain ⟨i, j, hij, hj, heq⟩ := pigeon n f (fun i hi => h.lt i (by omega))
      have kc : IsW W n n (fun t => f (i + t)) (j - i) := ⟨by omega, fun t h1 h2 => h.lt (i + t) (by omega), fun t ht => h.lt (i + t) (by omega), fun t ht => h.fin (i + t) (by omega)⟩
      have hcl := R.le_walk n (Nat.le_refl n) (fun t => f (i + t)) (j - i) (by have := R.size; omega) kc
      rw [show i + (j - i) = j by omega, Nat.add_zero, ← heq] at hcl
      have hdg := R.diag n (Nat.le_refl n) (f i) (h.lt i (by omega))
      obtain ⟨F, hF⟩ : ∃ F : Nat → Nat, ∀ t, F t = if t ≤ i then f t else f (t + (j - i)) := ⟨_, fun _ => rfl⟩
      have c1 : ∀ t, t ≤ i → F t = f t := fun t ht => by rw [hF, if_pos ht]
      have c2 : ∀ t, F (i + t) = f (j + t) := fun t => by
        rw [hF]
        by_cases ht : t = 0
        · subst ht; rw [if_pos (by omega)]; exact heq
        · rw [if_neg (by omega), show i + t + (j - i) = j + t by omega]
      have k : WlkN W n F (e - (j - i)) := by
        refine ⟨fun t ht => ?_, fun t ht => ?_⟩
        · by_cases h3 : t ≤ i
          · rw [c1 t h3]; exact h.lt t (by omega)
          · rw [show t = i + (t - i) by omega, c2]; exact h.lt _ (by omega)
        · by_cases h3 : t < i
          · rw [c1 t (by omega), c1 (t + 1) (by omega)]; exact h.fin t (by omega)
          · rw [show t = i + (t - i) by omega, c2, show i + (t - i) + 1 = i + (t - i + 1) by omega, c2]
            exact h.fin (j + (t - i)) (by omega)
      obtain ⟨g, d, hd, hg, g0, gw⟩ := ihe (e - (j - i)) (by omega) F k
      refine ⟨g, d, hd, hg, by rw [g0, c1 0 (by omega)], ?_⟩
      have s1 := wtW_add W f i (e - i)
      have s2 := wtW_add W (fun t => f (i + t)) (j - i) (e - j)
      have s3 := wtW_add W F i (e - j)
      rw [show i + (e - i) = e by omega] at s1
      rw [show j - i + (e - j) = e - i by omega] at s2
      rw [show i + (e - j) = e - (j - i) by omega, wtW_congr (g := f) c1, wtW_congr (g := fun t => f (j + t)) (fun t _ => c2 t)] at s3
      rw [wtW_congr (f := fun t => f (i + (j - i + t))) (g := fun t => f (j + t)) (fun t _ => by rw [show i + (j - i + t) = j + t by omega])] at s2
      omega
theorem stepK_le (l : List Bnd) (s : Ctr) (d : Nat × Bool) : (∀ k, (stepK l s d).lev k ≤ s.lev k) ∧ (stepK l s d).lev (kLim l d).f.toNat ≤ s.lev (kLim l d).s.toNat + (kLim l d).m := by
  unfold stepK
  by_cases hc : s.lev (kLim l d).f.toNat - s.lev (kLim l d).s.toNat ≤ (kLim l d).m
  · rw [if_pos hc]
    exact ⟨fun k => Int.le_refl _, by omega⟩
  · rw [if_neg hc]
    dsimp only
    unfold updN
    refine ⟨fun k => ?_, ?_⟩
    · split
      · rename_i e; rw [e]; omega
      · exact Int.le_refl _
    · rw [if_pos rfl]; exact Int.le_refl _
theorem foldK_le (l : List Bnd) : ∀ (us : List (Nat × Bool)) (s : Ctr), (∀ k, (foldK l s us).lev k ≤ s.lev k) ∧ ∀ d ∈ us, (foldK l s us).lev (kLim l d).f.toNat ≤ s.lev (kLim l d).s.toNat + (kLim l d).m
  | [], s => ⟨fun k => Int.le_refl _, fun d hd => by cases hd⟩
  | u :: us, s => by
    obtain ⟨h1, h2⟩ := foldK_le l us (stepK l s u)
    obtain ⟨k1, k2⟩ := stepK_le l s u
    refine ⟨fun k => Int.le_trans (h1 k) (k1 k), fun d hd => ?_⟩
    show (foldK l (stepK l s u) us).lev _ ≤ _
    rcases List.mem_cons.1 hd with rfl | hd
    · exact Int.le_trans (h1 _) k2
    · have := h2 d hd
      have := k1 (kLim l d).s.toNat
      omega
/-- the first matrix of a net, as limits -/
structure Edges (l : List Bnd) (W : Nat → Nat → Int) (n : Nat) : Prop where
  le : ∀ d ∈ useN l.length, W (kLim l d).f.toNat (kLim l d).s.toNat ≤ (kLim l d).m
  fit : ∀ d ∈ useN l.length, LimFit n (kLim l d)
  from_ : ∀ a b, a < n → b < n → W a b < openI → (a = b ∧ 0 ≤ W a b) ∨ ∃ d ∈ useN l.length, a = (kLim l d).f.toNat ∧ b = (kLim l d).s.toNat ∧ W a b = (kLim l d).m
theorem edges_of {n : Nat} {l : List Bnd} (hn : n ≤ 16) (hl : LimsOk n l) : Edges l (getM (boundM n (limsL l))) n := by
  have hop : openI = 100000000000000000 := rfl
  have F0 : First n (diagM n n) := ⟨shape_diag n n, hn, fun a ha => by rw [diag_at n n (Nat.le_refl _) a a ha ha, if_pos ⟨rfl, ha⟩]; exact Int.le_refl _, fun a b ha hb => by rw [diag_at n n (Nat.le_refl _) a b ha hb]; split <;> omega, fun a b ha hb => by rw [diag_at n n (Nat.le_refl _) a b ha hb]; split <;> (intro _; omega), fun a b ha hb => by rw [diag_at n n (Nat.le_refl _) a b ha hb]; split <;> omega⟩
  have mem : ∀ d ∈ useN l.length, kLim l d ∈ limsL l := fun d hd => List.mem_map.2 ⟨d, hd, rfl⟩
  refine ⟨fun d hd => (fold_le (limsL l) F0 (fun x hx => lim_fit hl hx)).2 _ (mem d hd), fun d hd => lim_fit hl (mem d hd), fun a b ha hb hf => ?_⟩
  rcases fold_from (limsL l) F0 (fun x hx => lim_fit hl hx) a b with e | ⟨y, hy, e1, e2, e3⟩
  · change getM (boundM n (limsL l)) a b = _ at e
    rw [e, diag_at n n (Nat.le_refl _) a b ha hb] at hf ⊢
    by_cases hc : a = b ∧ a < n
    · exact .inl ⟨hc.1, by rw [if_pos hc]; exact Int.le_refl _⟩
    · rw [if_neg hc] at hf; omega
  · obtain ⟨d, hd, rfl⟩ := List.mem_map.1 hy
    exact .inr ⟨d, hd, e1, e2, e3⟩
/-- after t rounds a level is at most each walk of at most t steps -/
theorem lev_le {l : List Bnd} (E : Edges l W n) : ∀ (t : Nat) (g : Nat → Nat) (e : Nat), e ≤ t → WlkN W n g e → (roundsK l t).lev (g 0) ≤ wtW W g e
  | 0, g, e, he, _ => by
    obtain rfl : e = 0 := by omega
    exact Int.le_refl _
  | t + 1, g, e, he, h => by
    obtain ⟨k1, k2⟩ := foldK_le l (useN l.length) { roundsK l t with settled := true }
    have er : roundsK l (t + 1) = foldK l { roundsK l t with settled := true } (useN l.length) := rfl
    rw [er]
    by_cases he0 : e = 0
    · subst he0
      exact Int.le_trans (k1 _) (lev_le E t g 0 (by omega) h)
    · have ih := lev_le E t (fun i => g (1 + i)) (e - 1) (by omega) ⟨fun i hi => h.lt (1 + i) (by omega), fun i hi => h.fin (1 + i) (by omega)⟩
      have s := wtW_add W g 1 (e - 1)
      rw [show 1 + (e - 1) = e by omega] at s
      have w1 : wtW W g 1 = W (g 0) (g 1) := by show 0 + W (g 0) (g 1) = _; omega
      have ih' : (roundsK l t).lev (g 1) ≤ wtW W (fun i => g (1 + i)) (e - 1) := ih
      rcases E.from_ _ _ (h.lt 0 (by omega)) (h.lt 1 (by omega)) (h.fin 0 (by omega)) with ⟨e1, e2⟩ | ⟨d, hd, e1, e2, e3⟩
      · have := k1 (g 0)
        have e1' : g 0 = g 1 := e1
        have e2' : 0 ≤ W (g 0) (g 1) := e2
        have q : ({ roundsK l t with settled := true } : Ctr).lev (g 0) = (roundsK l t).lev (g 1) := by rw [e1']
        omega
      · have k3 : (foldK l { roundsK l t with settled := true } (useN l.length)).lev (kLim l d).f.toNat ≤ (roundsK l t).lev (kLim l d).s.toNat + (kLim l d).m := k2 d hd
        have e1' : g 0 = (kLim l d).f.toNat := e1
        have e2' : g 1 = (kLim l d).s.toNat := e2
        have e3' : W (g 0) (g 1) = (kLim l d).m := e3
        rw [← e1', ← e2', ← e3'] at k3
        omega
/-- each level is at least some walk -/
def AtWalk (W : Nat → Nat → Int) (n : Nat) (s : Ctr) : Prop := ∀ j, j < n → ∃ g e, WlkN W n g e ∧ g 0 = j ∧ wtW W g e ≤ s.lev j
theorem stepK_walk {l : List Bnd} (E : Edges l W n) {s : Ctr} (h : AtWalk W n s) {d : Nat × Bool} (hd : d ∈ useN l.length) : AtWalk W n (stepK l s d) := by
  intro j hj
  unfold stepK
  by_cases hc : s.lev (kLim l d).f.toNat - s.lev (kLim l d).s.toNat ≤ (kLim l d).m
  · rw [if_pos hc]; exact h j hj
  · rw [if_neg hc]
    dsimp only
    unfold updN
    by_cases hjf : j = (kLim l d).f.toNat
    · rw [if_pos hjf]
      have ft := E.fit d hd
      have hm := ft.m
      have hle := E.le d hd
      have hop : openI = 100000000000000000 := rfl
      obtain ⟨g, e, k, g0, gw⟩ := h _ ft.s
      obtain ⟨F, hF⟩ : ∃ F : Nat → Nat, ∀ t, F t = if t = 0 then j else g (t - 1) := ⟨_, fun _ => rfl⟩
      have c0 : F 0 = j := by rw [hF, if_pos rfl]
      have c1 : ∀ t, F (1 + t) = g t := fun t => by rw [hF, if_neg (by omega), show 1 + t - 1 = t by omega]
      refine ⟨F, 1 + e, ⟨fun t ht => ?_, fun t ht => ?_⟩, c0, ?_⟩
      · by_cases h0 : t = 0
        · subst h0; rw [c0]; exact hj
        · rw [show t = 1 + (t - 1) by omega, c1]; exact k.lt (t - 1) (by omega)
      · by_cases h0 : t = 0
        · subst h0; rw [c0, show 0 + 1 = 1 + 0 from rfl, c1, g0, hjf]; omega
        · rw [show t = 1 + (t - 1) by omega, c1, show 1 + (t - 1) + 1 = 1 + (t - 1 + 1) by omega, c1]; exact k.fin (t - 1) (by omega)
      · rw [wtW_add, wtW_congr (f := fun t => F (1 + t)) (g := g) (fun t _ => c1 t)]
        have : wtW W F 1 = W (kLim l d).f.toNat (kLim l d).s.toNat := by
          show 0 + W (F 0) (F (0 + 1)) = _
          rw [c0, show 0 + 1 = 1 + 0 from rfl, c1, g0, hjf]; omega
        omega
    · rw [if_neg hjf]; exact h j hj
theorem foldK_walk {l : List Bnd} (E : Edges l W n) : ∀ (us : List (Nat × Bool)) {s : Ctr}, (∀ d ∈ us, d ∈ useN l.length) → AtWalk W n s → AtWalk W n (foldK l s us)
  | [], _, _, h => h
  | u :: us, _, hu, h => foldK_walk E us (fun d hd => hu d (by simp [hd])) (stepK_walk E h (hu u (by simp)))
theorem roundsK_walk {l : List Bnd} (E : Edges l W n) : ∀ t, AtWalk W n (roundsK l t)
  | 0 => fun j hj => ⟨fun _ => j, 0, ⟨fun _ _ => hj, fun i hi => absurd hi (Nat.not_lt_zero i)⟩, rfl, Int.le_refl _⟩
  | t + 1 => foldK_walk E (useN l.length) (fun _ h => h) (show AtWalk W n { roundsK l t with settled := true } from roundsK_walk E t)
/-- the last of n rounds lowers none -/
theorem settles {l : List Bnd} (E : Edges l W n) (R : Rnds W n n D) (hn : 1 ≤ n) : (roundsK l (n - 1 + 1)).settled = true := by
  have all : ∀ d ∈ useN l.length, (roundsK l (n - 1)).lev (kLim l d).f.toNat - (roundsK l (n - 1)).lev (kLim l d).s.toNat ≤ (kLim l d).m := by
    intro d hd
    have ft := E.fit d hd
    have hm := ft.m
    have hle := E.le d hd
    have hop : openI = 100000000000000000 := rfl
    obtain ⟨g, e, k, g0, gw⟩ := roundsK_walk E (n - 1) _ ft.s
    obtain ⟨F, hF⟩ : ∃ F : Nat → Nat, ∀ t, F t = if t = 0 then (kLim l d).f.toNat else g (t - 1) := ⟨_, fun _ => rfl⟩
    have c0 : F 0 = (kLim l d).f.toNat := by rw [hF, if_pos rfl]
    have c1 : ∀ t, F (1 + t) = g t := fun t => by rw [hF, if_neg (by omega), show 1 + t - 1 = t by omega]
    have kF : WlkN W n F (1 + e) := by
      refine ⟨fun t ht => ?_, fun t ht => ?_⟩
      · by_cases h0 : t = 0
        · subst h0; rw [c0]; exact ft.f
        · rw [show t = 1 + (t - 1) by omega, c1]; exact k.lt (t - 1) (by omega)
      · by_cases h0 : t = 0
        · subst h0; rw [c0, show 0 + 1 = 1 + 0 from rfl, c1, g0]; omega
        · rw [show t = 1 + (t - 1) by omega, c1, show 1 + (t - 1) + 1 = 1 + (t - 1 + 1) by omega, c1]; exact k.fin (t - 1) (by omega)
    obtain ⟨g', d', hd', k', g0', gw'⟩ := R.shortN hn (1 + e) F kF
    have u := lev_le E (n - 1) g' d' hd' k'
    have s := wtW_add W F 1 e
    rw [wtW_congr (f := fun t => F (1 + t)) (g := g) (fun t _ => c1 t)] at s
    have w1 : wtW W F 1 = W (kLim l d).f.toNat (kLim l d).s.toNat := by
      show 0 + W (F 0) (F (0 + 1)) = _
      rw [c0, show 0 + 1 = 1 + 0 from rfl, c1, g0]; omega
    rw [g0', c0] at u
    omega
  have same : ∀ us : List (Nat × Bool), (∀ d ∈ us, d ∈ useN l.length) → foldK l { roundsK l (n - 1) with settled := true } us = { roundsK l (n - 1) with settled := true } := by
    intro us
    induction us with
    | nil => intro _; rfl
    | cons u us ih =>
      intro hu
      have e : stepK l { roundsK l (n - 1) with settled := true } u = { roundsK l (n - 1) with settled := true } := if_pos (all u (hu u (by simp)))
      show foldK l (stepK l _ u) us = _
      rw [e]
      exact ih (fun d hd => hu d (by simp [hd]))
  show (foldK l { roundsK l (n - 1) with settled := true } (useN l.length)).settled = true
  rw [same _ (fun _ h => h)]
/-- Narrow has a matrix just if contradiction's rounds settle -/
theorem narrow_iff {n : Nat} {l : List Bnd} (hn : 1 ≤ n ∧ n ≤ 16) (hl : LimsOk n l) : (narrowS n l).2 = true ↔ ∃ t, t < n ∧ (roundsK l (t + 1)).settled = true :=
  ⟨fun h => ⟨n - 1, by omega, settles (edges_of hn.2 hl) (via_R (bound_first hn.2 hl) (Nat.le_refl n) h) hn.1⟩, fun ⟨_, _, h⟩ => narrow_yes hn.2 hl (settled_solves h)⟩
end Go.Proofs.YtmfpnfdoidihcaaDoor.Ct
namespace Go.Proofs.YtmfpnfdoidihcaaDoor.Ct
open Go Go.RowKit
/-- what the rounds leave: when (T) and in which round (rd) each clock was lowered last -/
structure Ghost (l : List Bnd) (n r : Nat) (done : List (Nat × Bool)) (s : Ctr) (T rd : Nat → Nat) (now : Nat) : Prop where
  tn : ∀ k, T k ≤ now
  rr : ∀ k, rd k ≤ r
  both : ∀ k, 1 ≤ T k ↔ 1 ≤ rd k
  inj : ∀ k j, 1 ≤ T k → T k = T j → k = j
  cau : ∀ k, 1 ≤ T k → s.cause k ∈ useN l.length ∧ (kLim l (s.cause k)).f.toNat = k ∧ k < n
  lev : ∀ k, 1 ≤ T k → s.lev (backK l s k) + (kLim l (s.cause k)).m ≤ s.lev k
  strict : ∀ k, 1 ≤ T k → T k < T (backK l s k) → s.lev (backK l s k) + (kLim l (s.cause k)).m < s.lev k
  near : ∀ k, 1 ≤ T k → rd k ≤ rd (backK l s k) + 1
  all : ∀ d ∈ useN l.length, s.lev (kLim l d).f.toNat - s.lev (kLim l d).s.toNat ≤ (kLim l d).m ∨ r ≤ rd (kLim l d).s.toNat + 1
  new : ∀ d ∈ done, s.lev (kLim l d).f.toNat - s.lev (kLim l d).s.toNat ≤ (kLim l d).m ∨ r ≤ rd (kLim l d).s.toNat
  low : s.settled = false → rd s.low = r ∧ s.low < n
theorem Ghost.step {l : List Bnd} {W : Nat → Nat → Int} {n r : Nat} (E : Edges l W n) (hr : 1 ≤ r) {done : List (Nat × Bool)} {s : Ctr} {T rd : Nat → Nat} {now : Nat} (G : Ghost l n r done s T rd now) {d : Nat × Bool} (hd : d ∈ useN l.length) :
    ∃ T' rd' now', Ghost l n r (done ++ [d]) (stepK l s d) T' rd' now' := by
  by_cases hc : s.lev (kLim l d).f.toNat - s.lev (kLim l d).s.toNat ≤ (kLim l d).m
  · rw [show stepK l s d = s from if_pos hc]
    refine ⟨T, rd, now, G.tn, G.rr, G.both, G.inj, G.cau, G.lev, G.strict, G.near, G.all, fun e he => ?_, G.low⟩
    rcases List.mem_append.1 he with he | he
    · exact G.new e he
    · rw [List.mem_singleton.1 he]; exact .inl hc
  · have ft := E.fit d hd
    obtain ⟨k, hk⟩ : ∃ k, k = (kLim l d).f.toNat := ⟨_, rfl⟩
    obtain ⟨q, hq⟩ : ∃ q, q = (kLim l d).s.toNat := ⟨_, rfl⟩
    have hne : q ≠ k := by rw [hk, hq]; exact fun e => ft.ne e.symm
    have hkn : k < n := by rw [hk]; exact ft.f
    have es : stepK l s d = ⟨updN s.lev k (s.lev q + (kLim l d).m), updN s.cause k d, k, false⟩ := by rw [hk, hq]; exact if_neg hc
    rw [← hk, ← hq] at hc
    have hlow : s.lev q + (kLim l d).m < s.lev k := by omega
    rw [es]
    have lk : updN s.lev k (s.lev q + (kLim l d).m) k = s.lev q + (kLim l d).m := if_pos rfl
    have lo : ∀ j, j ≠ k → updN s.lev k (s.lev q + (kLim l d).m) j = s.lev j := fun j hj => if_neg hj
    have ll : ∀ j, updN s.lev k (s.lev q + (kLim l d).m) j ≤ s.lev j := fun j => by
      by_cases e : j = k
      · rw [e, lk]; omega
      · rw [lo j e]; exact Int.le_refl _
    have ck : updN s.cause k d k = d := if_pos rfl
    have co : ∀ j, j ≠ k → updN s.cause k d j = s.cause j := fun j hj => if_neg hj
    have tk : updN T k (now + 1) k = now + 1 := if_pos rfl
    have to_ : ∀ j, j ≠ k → updN T k (now + 1) j = T j := fun j hj => if_neg hj
    have rk : updN rd k r k = r := if_pos rfl
    have ro : ∀ j, j ≠ k → updN rd k r j = rd j := fun j hj => if_neg hj
    have rl : ∀ j, rd j ≤ updN rd k r j := fun j => by
      by_cases e : j = k
      · rw [e, rk]; exact G.rr k
      · rw [ro j e]; exact Nat.le_refl _
    have bk : backK l ⟨updN s.lev k (s.lev q + (kLim l d).m), updN s.cause k d, k, false⟩ k = q := by unfold backK; dsimp only; rw [ck, ← hq]
    have bo : ∀ j, j ≠ k → backK l ⟨updN s.lev k (s.lev q + (kLim l d).m), updN s.cause k d, k, false⟩ j = backK l s j := fun j hj => by unfold backK; dsimp only; rw [co j hj]
    refine ⟨updN T k (now + 1), updN rd k r, now + 1, fun j => ?_, fun j => ?_, fun j => ?_, fun i j h1 h2 => ?_, fun j hj => ?_, fun j hj => ?_, fun j hj ht => ?_, fun j hj => ?_, fun e he => ?_, fun e he => ?_, fun _ => ⟨rk, hkn⟩⟩
    · by_cases e : j = k
      · rw [e, tk]; exact Nat.le_refl _
      · rw [to_ j e]; have := G.tn j; omega
    · by_cases e : j = k
      · rw [e, rk]; exact Nat.le_refl _
      · rw [ro j e]; exact G.rr j
    · by_cases e : j = k
      · rw [e, tk, rk]; omega
      · rw [to_ j e, ro j e]; exact G.both j
    · by_cases e1 : i = k
      · by_cases e2 : j = k
        · rw [e1, e2]
        · rw [e1, tk, to_ j e2] at h2; have := G.tn j; omega
      · by_cases e2 : j = k
        · rw [e2, tk, to_ i e1] at h2; have := G.tn i; omega
        · rw [to_ i e1] at h1 h2; rw [to_ j e2] at h2; exact G.inj i j h1 h2
    · dsimp only
      by_cases e : j = k
      · rw [e, ck]; exact ⟨hd, hk.symm, hkn⟩
      · rw [to_ j e] at hj; rw [co j e]; exact G.cau j hj
    · dsimp only
      by_cases e : j = k
      · rw [e, bk, ck, lk, lo q hne]; exact Int.le_refl _
      · rw [to_ j e] at hj
        rw [bo j e, co j e, lo j e]
        have := G.lev j hj
        have := ll (backK l s j)
        omega
    · dsimp only
      by_cases e : j = k
      · rw [e, bk, tk, to_ q hne] at ht; have := G.tn q; omega
      · rw [to_ j e] at hj
        rw [bo j e, to_ j e] at ht
        rw [bo j e, co j e, lo j e]
        by_cases e2 : backK l s j = k
        · rw [e2, lk]
          have := G.lev j hj
          rw [e2] at this
          omega
        · rw [to_ _ e2] at ht
          rw [lo _ e2]
          exact G.strict j hj ht
    · by_cases e : j = k
      · rw [e, bk, rk, ro q hne]
        rcases G.all d hd with h | h
        · rw [← hk, ← hq] at h; omega
        · rw [← hq] at h; exact h
      · rw [to_ j e] at hj
        rw [bo j e, ro j e]
        have := G.near j hj
        have := rl (backK l s j)
        omega
    · dsimp only
      by_cases e2 : (kLim l e).s.toNat = k
      · rw [e2, rk]; exact .inr (by omega)
      · rcases G.all e he with h | h
        · have := ll (kLim l e).f.toNat
          rw [lo _ e2]
          exact .inl (by omega)
        · rw [ro _ e2]; exact .inr h
    · dsimp only
      by_cases e2 : (kLim l e).s.toNat = k
      · rw [e2, rk]; exact .inr (Nat.le_refl _)
      · rcases List.mem_append.1 he with he | he
        · rcases G.new e he with h | h
          · have := ll (kLim l e).f.toNat
            rw [lo _ e2]
            exact .inl (by omega)
          · rw [ro _ e2]; exact .inr h
        · rw [List.mem_singleton.1 he] at e2 ⊢
          rw [lo _ e2, ← hk, lk, ← hq]
          exact .inl (by omega)
theorem Ghost.fold {l : List Bnd} {W : Nat → Nat → Int} {n r : Nat} (E : Edges l W n) (hr : 1 ≤ r) : ∀ (us : List (Nat × Bool)) {done : List (Nat × Bool)} {s : Ctr} {T rd : Nat → Nat} {now : Nat}, (∀ d ∈ us, d ∈ useN l.length) → Ghost l n r done s T rd now → ∃ T' rd' now', Ghost l n r (done ++ us) (foldK l s us) T' rd' now'
  | [], done, s, T, rd, now, _, G => ⟨T, rd, now, by rw [List.append_nil]; exact G⟩
  | u :: us, done, s, T, rd, now, hu, G => by
    obtain ⟨T', rd', now', G'⟩ := G.step E hr (hu u (by simp))
    obtain ⟨T2, rd2, now2, G2⟩ := Ghost.fold E hr us (fun d hd => hu d (by simp [hd])) G'
    exact ⟨T2, rd2, now2, by rw [List.append_assoc] at G2; exact G2⟩
/-- after each round -/
theorem ghost_rounds {l : List Bnd} {W : Nat → Nat → Int} {n : Nat} (E : Edges l W n) : ∀ t, ∃ T rd now, Ghost l n (t + 1) (useN l.length) (roundsK l (t + 1)) T rd now
  | 0 => by
    obtain ⟨T, rd, now, G⟩ := Ghost.fold E (Nat.le_refl 1) (useN l.length) (done := []) (s := { ctr0 with settled := true }) (T := fun _ => 0) (rd := fun _ => 0) (now := 0) (fun _ h => h)
      ⟨fun _ => Nat.le_refl _, fun _ => Nat.zero_le _, fun _ => Iff.rfl, fun _ _ h => absurd h (by decide), fun _ h => absurd h (by decide), fun _ h => absurd h (by decide), fun _ h => absurd h (by decide), fun _ h => absurd h (by decide), fun _ _ => .inr (Nat.le_refl _), fun _ h => (by cases h), fun h => (by cases h)⟩
    exact ⟨T, rd, now, G⟩
  | t + 1 => by
    obtain ⟨T, rd, now, G⟩ := ghost_rounds E t
    obtain ⟨T', rd', now', G'⟩ := Ghost.fold E (r := t + 1 + 1) (by omega) (useN l.length) (done := []) (s := { roundsK l (t + 1) with settled := true }) (T := T) (rd := rd) (now := now) (fun _ h => h)
      ⟨G.tn, fun k => by have := G.rr k; omega, G.both, G.inj, G.cau, G.lev, G.strict, G.near, fun d hd => by
        rcases G.new d hd with h | h
        · exact .inl h
        · exact .inr (by omega), fun _ h => (by cases h), fun h => (by cases h)⟩
    exact ⟨T', rd', now', G'⟩
/-- the way back meets lowered clocks alone, once it is long enough -/
theorem way_low {l : List Bnd} {W : Nat → Nat → Int} {n : Nat} (E : Edges l W n) (hn : 1 ≤ n) {done : List (Nat × Bool)} {s : Ctr} {T rd : Nat → Nat} {now : Nat} (G : Ghost l n n done s T rd now) (hs : s.settled = false) :
    ∀ t, n ≤ t → 1 ≤ T (itN (backK l s) t s.low) := by
  obtain ⟨l1, l2⟩ := G.low hs
  have far : ∀ i, i ≤ n - 1 → n ≤ rd (itN (backK l s) i s.low) + i := by
    intro i
    induction i with
    | zero => intro _; show n ≤ rd s.low + 0; omega
    | succ i ih =>
      intro hi
      have h := ih (by omega)
      have := G.near _ ((G.both _).2 (show 1 ≤ rd (itN (backK l s) i s.low) by omega))
      show n ≤ rd (backK l s (itN (backK l s) i s.low)) + (i + 1)
      omega
  have lowd : ∀ i, i ≤ n - 1 → 1 ≤ T (itN (backK l s) i s.low) := fun i hi => (G.both _).2 (by have := far i hi; omega)
  have inn : ∀ i, i ≤ n → itN (backK l s) i s.low < n := by
    intro i hi
    match i with
    | 0 => exact l2
    | i + 1 => exact (E.fit _ (G.cau _ (lowd i (by omega))).1).s
  obtain ⟨i, j, hij, hj, heq⟩ := pigeon n (fun i => itN (backK l s) i s.low) (fun i hi => inn i hi)
  have cyc : ∀ t, i ≤ t → ∃ t', i ≤ t' ∧ t' < j ∧ itN (backK l s) t s.low = itN (backK l s) t' s.low := by
    intro t
    induction t with
    | zero => intro h; exact ⟨i, Nat.le_refl _, hij, by rw [show i = 0 by omega]⟩
    | succ t ih =>
      intro h
      by_cases he : i = t + 1
      · exact ⟨i, Nat.le_refl _, hij, by rw [he]⟩
      · obtain ⟨t', h1, h2, h3⟩ := ih (by omega)
        by_cases hl : t' + 1 < j
        · exact ⟨t' + 1, by omega, hl, by show backK l s (itN (backK l s) t s.low) = backK l s (itN (backK l s) t' s.low); rw [h3]⟩
        · refine ⟨i, Nat.le_refl _, hij, ?_⟩
          have e : t' + 1 = j := by omega
          have : itN (backK l s) (t + 1) s.low = itN (backK l s) (t' + 1) s.low := by show backK l s (itN (backK l s) t s.low) = backK l s (itN (backK l s) t' s.low); rw [h3]
          rw [this, e]; exact heq.symm
  intro t ht
  obtain ⟨t', h1, h2, h3⟩ := cyc t (by omega)
  rw [h3]
  exact lowd t' (by omega)
end Go.Proofs.YtmfpnfdoidihcaaDoor.Ct
namespace Go.Proofs.YtmfpnfdoidihcaaDoor.Ct
open Go Go.RowKit
/-- a cycle of causes -/
structure CycIs (l : List Bnd) (n : Nat) (s : Ctr) (K : Nat → Nat) (c : Nat) (T : Nat → Nat) : Prop where
  one : 1 ≤ c
  le : c ≤ n
  per : K c = K 0
  next : ∀ i, K (i + 1) = backK l s (K i)
  mem : ∀ i, s.cause (K i) ∈ useN l.length
  f : ∀ i, (kLim l (s.cause (K i))).f = (K i : Int)
  s_ : ∀ i, (kLim l (s.cause (K i))).s = (K (i + 1) : Int)
  ne : ∀ i, K i ≠ K (i + 1)
  lev : ∀ i, s.lev (K (i + 1)) + (kLim l (s.cause (K i))).m ≤ s.lev (K i)
  str : ∀ i, T (K i) < T (K (i + 1)) → s.lev (K (i + 1)) + (kLim l (s.cause (K i))).m < s.lev (K i)
  inj : ∀ i j, T (K i) = T (K j) → K i = K j
theorem con_cyc {n : Nat} {l : List Bnd} (hn : 1 ≤ n ∧ n ≤ 16) (hl : LimsOk n l) {u : List (Int × Bool)} (h : ConOf n l u) (hu : u ≠ []) : ∃ K c T, CycIs l n (roundsK l n) K c T ∧ u = (List.range c).map fun i => ((((roundsK l n).cause (K i)).1 : Int), ((roundsK l n).cause (K i)).2) := by
  rcases h with ⟨e, -⟩ | ⟨h1, k, c, hk, c1, c2, c3, -, rfl⟩
  · exact absurd e hu
  · have E := edges_of hn.2 hl
    obtain ⟨T, rd, now, G⟩ := ghost_rounds E (n - 1)
    rw [show n - 1 + 1 = n by omega] at G
    have hs : (roundsK l n).settled = false := by have := h1 (n - 1) (by omega); rwa [show n - 1 + 1 = n by omega] at this
    have low := way_low E hn.1 G hs
    have hK : ∀ i, 1 ≤ T (itN (backK l (roundsK l n)) i k) := fun i => by
      rw [hk, ← itN_add]
      exact low (i + n) (by omega)
    refine ⟨fun i => itN (backK l (roundsK l n)) i k, c, T, ⟨c1, c2, c3, fun i => rfl, fun i => (G.cau _ (hK i)).1, fun i => ?_, fun i => ?_, fun i e => ?_, fun i => G.lev _ (hK i), fun i ht => G.strict _ (hK i) ht, fun i j e => G.inj _ _ (hK i) e⟩, rfl⟩
    · have g := G.cau _ (hK i)
      have p := (kLim_pos hl _ (useN_lt _ _ g.1)).2
      rw [← p, g.2.1]
    · have g := G.cau _ (hK i)
      have p := (kLim_pos hl _ (useN_lt _ _ g.1)).1
      rw [← p]; rfl
    · have g := G.cau _ (hK i)
      have ft := E.fit _ g.1
      apply ft.ne
      rw [g.2.1]
      exact e
variable {l : List Bnd} {n : Nat} {s : Ctr} {K : Nat → Nat} {c : Nat} {T : Nat → Nat}
def cycU (s : Ctr) (K : Nat → Nat) (c : Nat) : List (Int × Bool) := (List.range c).map fun i => (((s.cause (K i)).1 : Int), (s.cause (K i)).2)
theorem cycU_len : (cycU s K c).length = c := by simp [cycU]
theorem cycU_at {i : Nat} (hi : i < c) : useAt (cycU s K c) i = (((s.cause (K i)).1 : Int), (s.cause (K i)).2) := by simp [useAt, cycU, hi]
theorem CycIs.lim (_H : CycIs l n s K c T) {i : Nat} (hi : i < c) : useLim l (cycU s K c) i = kLim l (s.cause (K i)) := by
  unfold useLim kLim
  rw [cycU_at hi]
  rfl
theorem CycIs.total (H : CycIs l n s K c T) : ∀ t, t ≤ c → totalS l (cycU s K c) t ≤ s.lev (K 0) - s.lev (K t) ∧ ((∃ i, i < t ∧ T (K i) < T (K (i + 1))) → totalS l (cycU s K c) t < s.lev (K 0) - s.lev (K t))
  | 0, _ => ⟨by show (0 : Int) ≤ _; omega, fun ⟨i, hi, _⟩ => absurd hi (Nat.not_lt_zero i)⟩
  | t + 1, ht => by
    obtain ⟨i1, i2⟩ := H.total t (by omega)
    have hl := H.lev t
    have hm : totalS l (cycU s K c) (t + 1) = totalS l (cycU s K c) t + (kLim l (s.cause (K t))).m := by
      show totalS l (cycU s K c) t + (useLim l (cycU s K c) t).m = _
      rw [H.lim (by omega)]
    rw [hm]
    refine ⟨by omega, fun ⟨i, hi, hT⟩ => ?_⟩
    by_cases e : i = t
    · subst e
      have := H.str i hT
      omega
    · have := i2 ⟨i, by omega, hT⟩
      omega
theorem CycIs.rises (H : CycIs l n s K c T) : ∃ i, i < c ∧ T (K i) < T (K (i + 1)) := by
  by_cases h : ∃ i, i < c ∧ T (K i) < T (K (i + 1))
  · exact h
  · have mono : ∀ t, t ≤ c → 1 ≤ t → T (K t) ≤ T (K 1) := by
      intro t
      induction t with
      | zero => intro _ h; omega
      | succ t ih =>
        intro h1 _
        by_cases e : t = 0
        · subst e; exact Nat.le_refl _
        · have a := ih (by omega) (by omega)
          have b : ¬ T (K t) < T (K (t + 1)) := fun hh => h ⟨t, by omega, hh⟩
          omega
    have a := mono c (Nat.le_refl c) H.one
    rw [H.per] at a
    have b : ¬ T (K 0) < T (K (0 + 1)) := fun hh => h ⟨0, H.one, hh⟩
    have b' : ¬ T (K 0) < T (K 1) := b
    exact absurd (H.inj 0 1 (by omega)) (H.ne 0)
theorem CycIs.idx (H : CycIs l n s K c T) {i : Nat} (hi : i < c) : (i + 1) % c < c ∧ K ((i + 1) % c) = K (i + 1) := by
  have h1 := H.one
  by_cases e : i + 1 < c
  · rw [Nat.mod_eq_of_lt e]; exact ⟨e, rfl⟩
  · have e2 : i + 1 = c := by omega
    rw [e2, Nat.mod_self]
    exact ⟨by omega, H.per.symm⟩
theorem CycIs.cut (H : CycIs l n s K c T) : cutB l (cycU s K c) = true := by
  have i1 : ∀ j, j < (cycU s K c).length → inB l (cycU s K c) j = true := fun j hj => by
    rw [cycU_len] at hj
    have := useN_lt _ _ (H.mem j)
    unfold inB
    rw [cycU_at hj]
    simp only [Bool.and_eq_true, decide_eq_true_eq]
    omega
  have i2 : ∀ j, j < (cycU s K c).length → linkB l (cycU s K c) j = true := fun j hj => by
    rw [cycU_len] at hj
    obtain ⟨x1, x2⟩ := H.idx hj
    unfold linkB
    rw [cycU_len, H.lim hj, H.lim x1, H.s_ j, H.f, x2]
    simp
  rw [cut_all i1 i2, cycU_len, decide_eq_true_eq]
  have := (H.total c (Nat.le_refl c)).2 H.rises
  rw [H.per] at this
  omega
/-- a list without one of its elements -/
def rmU (u : List (Int × Bool)) (i : Nat) : List (Int × Bool) := u.take i ++ u.drop (i + 1)
theorem rmU_len {u : List (Int × Bool)} {i : Nat} (hi : i < u.length) : (rmU u i).length = u.length - 1 := by simp [rmU]; omega
theorem rmU_at {u : List (Int × Bool)} {i : Nat} (hi : i < u.length) (j : Nat) : useAt (rmU u i) j = if j < i then useAt u j else useAt u (j + 1) := by
  unfold useAt rmU
  by_cases h : j < i
  · rw [if_pos h, List.getElem?_append_left (by simp; omega), List.getElem?_take_of_lt h]
  · rw [if_neg h, List.getElem?_append_right (by simp; omega), List.getElem?_drop]
    have : i + 1 + (j - (u.take i).length) = j + 1 := by rw [List.length_take]; omega
    rw [this]
theorem CycIs.less (H : CycIs l n s K c T) {i : Nat} (hi : i < c) (hc : 1 < c) : cutB l (rmU (cycU s K c) i) = false := by
  have hi' : i < (cycU s K c).length := by rw [cycU_len]; exact hi
  have hln : (rmU (cycU s K c) i).length = c - 1 := by rw [rmU_len hi', cycU_len]
  have hne := H.ne i
  -- the element ahead of the one left out, and the one behind it
  have at_ : ∀ j, useLim l (rmU (cycU s K c) i) j = if j < i then useLim l (cycU s K c) j else useLim l (cycU s K c) (j + 1) := fun j => by
    unfold useLim
    rw [rmU_at hi']
    split <;> rfl
  by_cases h0 : i = 0
  · subst h0
    refine cut_link (i := c - 2) (by omega) ?_
    unfold linkB
    rw [hln, show c - 2 + 1 = c - 1 by omega, Nat.mod_self, at_, at_, if_neg (by omega), if_neg (by omega), show c - 2 + 1 = c - 1 by omega, H.lim (by omega), H.lim (by omega), H.s_, H.f, show c - 1 + 1 = c by omega, H.per]
    simp only [decide_eq_false_iff_not]
    intro e
    exact hne (by have : K 0 = K (0 + 1) := by exact_mod_cast e
                  exact this)
  · refine cut_link (i := i - 1) (by omega) ?_
    unfold linkB
    rw [hln, show i - 1 + 1 = i by omega, at_, if_pos (by omega), H.lim (by omega), H.s_, show i - 1 + 1 = i by omega]
    simp only [decide_eq_false_iff_not]
    by_cases e : i < c - 1
    · rw [Nat.mod_eq_of_lt e, at_, if_neg (by omega), H.lim (by omega), H.f]
      intro e2
      exact hne (by exact_mod_cast e2)
    · have e1 : i = c - 1 := by omega
      rw [show i % (c - 1) = 0 by rw [e1, Nat.mod_self], at_, if_pos (by omega), H.lim (by omega), H.f, ← H.per, show c = i + 1 by omega]
      intro e2
      exact hne (by exact_mod_cast e2)
/-- what Contradict answers where there is no matrix -/
theorem con_all {n : Nat} {l : List Bnd} (hn : 1 ≤ n ∧ n ≤ 16) (hl : LimsOk n l) {u : List (Int × Bool)} (h : ConOf n l u) (hu : u ≠ []) : u.length ≤ 16 ∧ cutB l u = true ∧ ∀ i, i < u.length → 1 < u.length → cutB l (rmU u i) = false := by
  obtain ⟨K, c, T, H, rfl⟩ := con_cyc hn hl h hu
  have e : (List.range c).map (fun i => ((((roundsK l n).cause (K i)).1 : Int), ((roundsK l n).cause (K i)).2)) = cycU (roundsK l n) K c := rfl
  rw [e]
  refine ⟨by rw [cycU_len]; have := H.le; omega, H.cut, fun i hi hc => ?_⟩
  rw [cycU_len] at hi hc
  exact H.less hi hc
theorem con_iff {n : Nat} {l : List Bnd} (hn : 1 ≤ n ∧ n ≤ 16) (hl : LimsOk n l) {u : List (Int × Bool)} (h : ConOf n l u) : u = [] ↔ (narrowS n l).2 = true := by
  rw [narrow_iff hn hl]
  rcases h with ⟨e, h⟩ | ⟨h1, k, c, hk, c1, c2, c3, -, e⟩
  · exact ⟨fun _ => h, fun _ => e⟩
  · refine ⟨fun h => ?_, fun ⟨t, ht, hs⟩ => ?_⟩
    · rw [e] at h
      have := congrArg List.length h
      rw [cycK_len] at this
      simp at this; omega
    · rw [h1 t ht] at hs; cases hs
end Go.Proofs.YtmfpnfdoidihcaaDoor.Ct
