/- Plain facts on nets: the narrowest matrix row by row, by rounds of one more use each (the reference's way). -/
import Derived.Test.YtlelamjbfjneiaaWr
namespace Go.Proofs.Ytlelamjbfjneiaa.Ct
open Go Go.RowKit
def lowR (q : Nat → Int) (j : Nat) (x : Int) : Nat → Int := fun i => if i = j then min (q i) x else q i
def useR (r q : Nat → Int) (y : Lim) : Nat → Int := if r y.f.toNat < openI then lowR q y.s.toNat (r y.f.toNat + y.m) else q
/-- the next row, after k bounds -/
def nextR (l : List Bnd) (r : Nat → Int) : Nat → Nat → Int
  | 0 => r
  | k + 1 => useR r (useR r (nextR l r k) (kLim l (k, true))) (kLim l (k, false))
def rowR (l : List Bnd) (a : Nat) : Nat → Nat → Int
  | 0 => fun b => if b = a then 0 else openI
  | t + 1 => nextR l (rowR l a t) l.length
theorem lowR_le (q : Nat → Int) (j : Nat) (x : Int) (i : Nat) : lowR q j x i ≤ q i := by unfold lowR; split <;> omega
theorem useR_le (r q : Nat → Int) (y : Lim) (i : Nat) : useR r q y i ≤ q i := by
  unfold useR; split
  · exact lowR_le _ _ _ _
  · exact Int.le_refl _
theorem useR_to (r q : Nat → Int) (y : Lim) (h : r y.f.toNat < openI) : useR r q y y.s.toNat ≤ r y.f.toNat + y.m := by
  unfold useR lowR; rw [if_pos h, if_pos rfl]; omega
theorem useR_ge {r q : Nat → Int} {y : Lim} {L : Nat → Int} (h1 : ∀ i, L i ≤ q i) (h2 : r y.f.toNat < openI → L y.s.toNat ≤ r y.f.toNat + y.m) (i : Nat) : L i ≤ useR r q y i := by
  unfold useR lowR
  by_cases h : r y.f.toNat < openI
  · rw [if_pos h]
    have a := h1 i
    have b := h2 h
    try dsimp only
    by_cases e : i = y.s.toNat
    · subst e; rw [if_pos rfl]; omega
    · rw [if_neg e]; exact a
  · rw [if_neg h]; exact h1 i
theorem nextR_le (l : List Bnd) (r : Nat → Int) : ∀ k i, nextR l r k i ≤ r i
  | 0, _ => Int.le_refl _
  | k + 1, i => Int.le_trans (useR_le _ _ _ _) (Int.le_trans (useR_le _ _ _ _) (nextR_le l r k i))
theorem nextR_to (l : List Bnd) (r : Nat → Int) : ∀ (k : Nat) (d : Nat × Bool), d ∈ useN k → r (kLim l d).f.toNat < openI → nextR l r k (kLim l d).s.toNat ≤ r (kLim l d).f.toNat + (kLim l d).m
  | 0, d, h, _ => by cases h
  | k + 1, d, h, hr => by
    rcases List.mem_append.1 h with h | h
    · exact Int.le_trans (useR_le _ _ _ _) (Int.le_trans (useR_le _ _ _ _) (nextR_to l r k d h hr))
    · rcases List.mem_cons.1 h with rfl | h
      · exact Int.le_trans (useR_le _ _ _ _) (useR_to _ _ _ hr)
      · rw [List.mem_singleton.1 h] at hr ⊢
        exact useR_to _ _ _ hr
theorem nextR_ge {l : List Bnd} {r L : Nat → Int} (h1 : ∀ i, L i ≤ r i) : ∀ k, (∀ d ∈ useN k, r (kLim l d).f.toNat < openI → L (kLim l d).s.toNat ≤ r (kLim l d).f.toNat + (kLim l d).m) → ∀ i, L i ≤ nextR l r k i
  | 0, _, i => h1 i
  | k + 1, h2, i => useR_ge (fun j => useR_ge (fun j => nextR_ge h1 k (fun d hd => h2 d (List.mem_append_left _ hd)) j) (h2 (k, true) (List.mem_append_right _ (by simp))) j) (h2 (k, false) (List.mem_append_right _ (by simp))) i
/-- rows keep to numbers -/
theorem rowR_hi (l : List Bnd) (a : Nat) : ∀ t i, rowR l a t i ≤ openI
  | 0, i => by show (if i = a then (0 : Int) else openI) ≤ openI; split <;> decide
  | t + 1, i => Int.le_trans (nextR_le l _ _ i) (rowR_hi l a t i)
theorem rowR_lo {l : List Bnd} {n : Nat} {W : Nat → Nat → Int} (E : Edges l W n) (a : Nat) : ∀ (t i : Nat), -(1000000000000000 * (t : Int)) ≤ rowR l a t i
  | 0, i => by
    have hop : openI = 100000000000000000 := rfl
    show _ ≤ (if i = a then (0 : Int) else openI)
    split <;> omega
  | t + 1, i => by
    refine nextR_ge (L := fun _ => -(1000000000000000 * ((t + 1 : Nat) : Int))) (fun j => ?_) l.length (fun d hd _ => ?_) i
    · have := rowR_lo E a t j
      show -(1000000000000000 * ((t + 1 : Nat) : Int)) ≤ _
      push_cast; omega
    · have h1 := rowR_lo E a t (kLim l d).f.toNat
      have h2 := (E.fit d hd).m
      show -(1000000000000000 * ((t + 1 : Nat) : Int)) ≤ _
      push_cast; omega
/-- a row while it is made -/
theorem nextR_bd {l : List Bnd} {n : Nat} {W : Nat → Nat → Int} (E : Edges l W n) (a t : Nat) (ht : t ≤ 16) {k : Nat} (hk : k ≤ l.length) (i : Nat) : (-17000000000000000 ≤ nextR l (rowR l a t) k i ∧ nextR l (rowR l a t) k i ≤ openI) ∧ (-16000000000000000 ≤ rowR l a t i ∧ rowR l a t i ≤ openI) := by
  have hlo := fun j => rowR_lo E a t j
  have hhi := rowR_hi l a t
  have mem : ∀ d ∈ useN k, d ∈ useN l.length := by
    have mono : ∀ (N M : Nat), N ≤ M → ∀ d ∈ useN N, d ∈ useN M := by
      intro N M h
      induction M with
      | zero => obtain rfl : N = 0 := by omega
                exact fun d h => h
      | succ M ih =>
        by_cases e : N = M + 1
        · subst e; exact fun d h => h
        · exact fun d hd => List.mem_append_left _ (ih (by omega) d hd)
    exact mono k l.length hk
  refine ⟨⟨nextR_ge (L := fun _ => -17000000000000000) (fun j => ?_) k (fun d hd _ => ?_) i, Int.le_trans (nextR_le l _ _ i) (hhi i)⟩, ?_, hhi i⟩
  · have := hlo j; show (-17000000000000000 : Int) ≤ _; omega
  · have h1 := hlo (kLim l d).f.toNat
    have h2 := (E.fit d (mem d hd)).m
    show (-17000000000000000 : Int) ≤ _
    omega
  · have := hlo i; omega
variable {W : Nat → Nat → Int} {n V : Nat} {D : Nat → Nat → Nat → Int}
/-- after t rounds the row is at most each walk of at most t steps -/
theorem rowR_le {l : List Bnd} (E : Edges l W n) (R : Rnds W n V D) (a : Nat) : ∀ (t : Nat) (g : Nat → Nat) (e : Nat), e ≤ t → t ≤ 40 → WlkN W n g e → g 0 = a → rowR l a t (g e) ≤ wtW W g e
  | 0, g, e, he, _, _, h0 => by
    obtain rfl : e = 0 := by omega
    show (if g 0 = a then (0 : Int) else openI) ≤ 0
    rw [if_pos h0]; exact Int.le_refl _
  | t + 1, g, e, he, ht, h, h0 => by
    have hop : openI = 100000000000000000 := rfl
    by_cases he0 : e = 0
    · subst he0
      exact Int.le_trans (nextR_le l _ _ _) (rowR_le E R a t g 0 (by omega) (by omega) h h0)
    · obtain ⟨j, rfl⟩ : ∃ j, e = j + 1 := ⟨e - 1, by omega⟩
      have ih := rowR_le E R a t g j (by omega) (by omega) ⟨fun i hi => h.lt i (by omega), fun i hi => h.fin i (by omega)⟩ h0
      have wb := R.wt_hi (v := 0) (f := g) (e := j) (fun i hi => h.lt i (by omega)) (fun i hi => h.fin i (by omega))
      show rowR l a (t + 1) (g (j + 1)) ≤ wtW W g j + W (g j) (g (j + 1))
      rcases E.from_ _ _ (h.lt j (by omega)) (h.lt (j + 1) (by omega)) (h.fin j (by omega)) with ⟨e1, e2⟩ | ⟨d, hd, e1, e2, e3⟩
      · have q := nextR_le l (rowR l a t) l.length (g (j + 1))
        have q' : rowR l a (t + 1) (g (j + 1)) ≤ rowR l a t (g (j + 1)) := q
        rw [← e1] at q' ⊢
        rw [← e1] at e2
        omega
      · have q := nextR_to l (rowR l a t) l.length d hd (by rw [← e1]; omega)
        rw [← e1, ← e2, ← e3] at q
        have q' : rowR l a (t + 1) (g (j + 1)) ≤ rowR l a t (g j) + W (g j) (g (j + 1)) := q
        omega
theorem least_pos {P : Nat → Prop} : ∀ {c : Nat}, 1 ≤ c → P c → ∃ d, 1 ≤ d ∧ d ≤ c ∧ P d ∧ ∀ i, 1 ≤ i → i < d → ¬ P i := by
  intro c
  induction c using Nat.strongRecOn with
  | _ c ih =>
    intro h1 h
    by_cases hx : ∃ i, 1 ≤ i ∧ i < c ∧ P i
    · obtain ⟨i, i1, i2, i3⟩ := hx
      obtain ⟨d, d1, d2, d3, d4⟩ := ih i i2 i1 i3
      exact ⟨d, d1, by omega, d3, d4⟩
    · exact ⟨c, h1, Nat.le_refl c, h, fun i i1 i2 i3 => hx ⟨i, i1, i2, i3⟩⟩
/-- there is always what contradiction answers -/
theorem con_any {n : Nat} {l : List Bnd} (hn : 1 ≤ n ∧ n ≤ 16) (hl : LimsOk n l) (h : (narrowS n l).2 = false) : ∃ u, ConOf n l u := by
  have hno : ∀ t, t < n → (roundsK l (t + 1)).settled = false := fun t ht => by
    cases hs : (roundsK l (t + 1)).settled with
    | false => rfl
    | true =>
      have := (narrow_iff hn hl).2 ⟨t, ht, hs⟩
      rw [h] at this; cases this
  by_cases h0 : 0 < l.length
  · have hin := roundsK_in hl hn.1 h0 n
    obtain ⟨C, hC1, hC2, hC3⟩ := itN_comes (fun k _ => backK_lt hl hin k) hin.1
    obtain ⟨d, d1, d2, d3, d4⟩ := least_pos (P := fun c => itN (backK l (roundsK l n)) c (itN (backK l (roundsK l n)) n (roundsK l n).low) = itN (backK l (roundsK l n)) n (roundsK l n).low) hC1 hC3
    exact ⟨_, .inr ⟨hno, _, d, rfl, d1, by omega, d3, d4, rfl⟩⟩
  · have e : l = [] := List.eq_nil_of_length_eq_zero (by omega)
    subst e
    have := hno 0 (by omega)
    cases this
theorem Rnds.shortE (R : Rnds W n n D) (hn : 1 ≤ n) : ∀ (e : Nat) (f : Nat → Nat), WlkN W n f e → ∃ g d, d ≤ n - 1 ∧ WlkN W n g d ∧ g 0 = f 0 ∧ g d = f e ∧ wtW W g d ≤ wtW W f e := by
  intro e
  induction e using Nat.strongRecOn with
  | _ e ihe =>
    intro f h
    by_cases hs : e ≤ n - 1
    · exact ⟨f, e, hs, h, rfl, rfl, Int.le_refl _⟩
    · obtain ⟨i, j, hij, hj, heq⟩ := pigeon n f (fun i hi => h.lt i (by omega))
      have kc : IsW W n n (fun t => f (i + t)) (j - i) := ⟨by omega, fun t h1 h2 => h.lt (i + t) (by omega), fun t ht => h.lt (i + t) (by omega), fun t ht => h.fin (i + t) (by omega)⟩
      have hcl := R.le_walk n (Nat.le_refl n) (fun t => f (i + t)) (j - i) (by have := R.size; omega) kc
      rw [show i + (j - i) = j by omega, Nat.add_zero, ← heq] at hcl
      have hdg := R.diag n (Nat.le_refl n) (f i) (h.lt i (by omega))
      obtain ⟨F, hF⟩ : ∃ F : Nat → Nat, ∀ t, F t = if t ≤ i then f t else f (t + (j - i)) := ⟨_, fun _ => rfl⟩
      have c1 : ∀ t, t ≤ i → F t = f t := fun t ht => by rw [hF, if_pos ht]
      have c2 : ∀ t, F (i + t) = f (j + t) := fun t => by
        rw [hF]
        by_cases ht : t = 0
        · subst ht; rw [if_pos (by omega)]; exact heq
        · rw [if_neg (by omega), show i + t + (j - i) = j + t by omega]
      have k : WlkN W n F (e - (j - i)) := by
        refine ⟨fun t ht => ?_, fun t ht => ?_⟩
        · by_cases h3 : t ≤ i
          · rw [c1 t h3]; exact h.lt t (by omega)
          · rw [show t = i + (t - i) by omega, c2]; exact h.lt _ (by omega)
        · by_cases h3 : t < i
          · rw [c1 t (by omega), c1 (t + 1) (by omega)]; exact h.fin t (by omega)
          · rw [show t = i + (t - i) by omega, c2, show i + (t - i) + 1 = i + (t - i + 1) by omega, c2]
            exact h.fin (j + (t - i)) (by omega)
      obtain ⟨g, d, hd, hg, g0, ge, gw⟩ := ihe (e - (j - i)) (by omega) F k
      have ce := c2 (e - j)
      rw [show i + (e - j) = e - (j - i) by omega, show j + (e - j) = e by omega] at ce
      refine ⟨g, d, hd, hg, by rw [g0, c1 0 (by omega)], by rw [ge, ce], ?_⟩
      have s1 := wtW_add W f i (e - i)
      have s2 := wtW_add W (fun t => f (i + t)) (j - i) (e - j)
      have s3 := wtW_add W F i (e - j)
      rw [show i + (e - i) = e by omega] at s1
      rw [show j - i + (e - j) = e - i by omega] at s2
      rw [show i + (e - j) = e - (j - i) by omega, wtW_congr (g := f) c1, wtW_congr (g := fun t => f (j + t)) (fun t _ => c2 t)] at s3
      rw [wtW_congr (f := fun t => f (i + (j - i + t))) (g := fun t => f (j + t)) (fun t _ => by rw [show i + (j - i + t) = j + t by omega])] at s2
      omega
theorem zero_rnds {n : Nat} {l : List Bnd} (hn : n ≤ 16) (hl : LimsOk n l) : Rnds (getM (boundM n (limsL l))) n 0 (fun v a b => getM (viaM n (boundM n (limsL l)) v).1 a b) :=
  via_R (bound_first hn hl) (Nat.zero_le n) rfl
/-- the rows of a net that has a narrowest matrix -/
theorem rows_yes {n : Nat} {l : List Bnd} (hn : 1 ≤ n ∧ n ≤ 16) (hl : LimsOk n l) (h : (narrowS n l).2 = true) {a : Nat} (ha : a < n) {b : Nat} (hb : b < n) : rowR l a n b = getM (narrowS n l).1 a b := by
  have hop : openI = 100000000000000000 := rfl
  have E := edges_of hn.2 hl
  have F := bound_first hn.2 hl
  have N := narr_of hn.2 hl h
  unfold narrowS at h N ⊢
  have R := via_R F (Nat.le_refl n) h
  generalize hM : (viaM n (boundM n (limsL l)) n).1 = M at *
  have edge : ∀ d ∈ useN l.length, getM M (kLim l d).f.toNat (kLim l d).s.toNat ≤ (kLim l d).m := fun d hd => by
    have f := E.fit d hd
    have a1 := R.le_zero f.f f.s n (Nat.le_refl n)
    have b1 := E.le d hd
    try dsimp only at a1
    rw [hM] at a1
    exact Int.le_trans a1 b1
  have low : ∀ t i, (if i < n then getM M a i else -1000000000000000000) ≤ rowR l a t i := by
    intro t
    induction t with
    | zero =>
      intro i
      show _ ≤ (if i = a then (0 : Int) else openI)
      by_cases hi : i < n
      · rw [if_pos hi]
        by_cases e : i = a
        · subst e; rw [if_pos rfl, N.diag i hi]; exact Int.le_refl _
        · rw [if_neg e]; exact N.op a i ha hi
      · rw [if_neg hi]; split <;> omega
    | succ t ih =>
      intro i
      refine nextR_ge (L := fun i => if i < n then getM M a i else -1000000000000000000) ih l.length (fun d hd hr => ?_) i
      have f := E.fit d hd
      have i1 := ih (kLim l d).f.toNat
      have e1 := edge d hd
      have m1 := f.m
      try dsimp only
      rw [if_pos f.f] at i1
      rw [if_pos f.s]
      have t1 := N.tri a _ _ ha f.f f.s (show getM M a (kLim l d).f.toNat < openI by omega) (show _ < openI by omega)
      omega
  have l1 := low n b
  rw [if_pos hb] at l1
  have u1 := rowR_hi l a n b
  by_cases hf : getM M a b < openI
  · obtain ⟨f, e, hw, h0, he, hwt⟩ := R.walk n (Nat.le_refl n) a b ha hb (by rw [hM]; exact hf)
    obtain ⟨g, d, hd, hg, g0, ge, gw⟩ := R.shortE hn.1 e f ⟨hw.lt, hw.fin⟩
    have := rowR_le E R a n g d (by omega) (by omega) hg (by rw [g0, h0])
    try dsimp only at hwt
    rw [hM] at hwt
    rw [ge, he] at this
    omega
  · have := N.op a b ha hb
    omega
/-- the rows of a net that has none: one goes below 0 at its own clock -/
theorem rows_no {n : Nat} {l : List Bnd} (hn : 1 ≤ n ∧ n ≤ 16) (hl : LimsOk n l) (h : (narrowS n l).2 = false) : ∃ a, a < n ∧ rowR l a n a < 0 := by
  have E := edges_of hn.2 hl
  have R := zero_rnds hn.2 hl
  obtain ⟨u, hu⟩ := con_any hn hl h
  have hne : u ≠ [] := fun e => by
    have := (con_iff hn hl hu).1 e
    rw [h] at this; cases this
  obtain ⟨K, c, T, H, -⟩ := con_cyc hn hl hu hne
  have hd : ∀ i, LimFit n (kLim l ((roundsK l n).cause (K i))) := fun i => E.fit _ (H.mem i)
  have pf : ∀ i, (kLim l ((roundsK l n).cause (K i))).f.toNat = K i := fun i => by rw [H.f]; rfl
  have ps : ∀ i, (kLim l ((roundsK l n).cause (K i))).s.toNat = K (i + 1) := fun i => by rw [H.s_]; rfl
  have hop : openI = 100000000000000000 := rfl
  have wk : WlkN (getM (boundM n (limsL l))) n K c := ⟨fun i _ => by rw [← pf]; exact (hd i).f, fun i _ => by
    have a1 := E.le _ (H.mem i)
    have m1 := (hd i).m
    rw [pf, ps] at a1
    omega⟩
  have hK0 : K 0 < n := wk.lt 0 (Nat.zero_le _)
  have hle := rowR_le E R (K 0) n K c H.le (by omega) wk rfl
  have wt : ∀ t, t ≤ c → wtW (getM (boundM n (limsL l))) K t ≤ totalS l (cycU (roundsK l n) K c) t := by
    intro t
    induction t with
    | zero => intro _; exact Int.le_refl _
    | succ t ih =>
      intro ht
      have i1 := ih (by omega)
      have a1 := E.le _ (H.mem t)
      rw [pf, ps] at a1
      show wtW _ K t + getM _ (K t) (K (t + 1)) ≤ totalS l (cycU (roundsK l n) K c) t + (useLim l (cycU (roundsK l n) K c) t).m
      rw [H.lim (by omega)]
      omega
  have w1 := wt c (Nat.le_refl c)
  have w2 := (H.total c (Nat.le_refl c)).2 H.rises
  rw [H.per] at hle w2
  exact ⟨K 0, hK0, by omega⟩
end Go.Proofs.Ytlelamjbfjneiaa.Ct
