/- Contracts of layer 2: contradiction, its rounds told plainly. -/
import Derived.Test.YtlelamjbfjneiaaNq
namespace Go.Proofs.Ytlelamjbfjneiaa.Ct
open Go Go.RowKit Go.Shelf
/-- what the rounds hold: the levels, the causes, the clock lowered last, and whether this round lowered none -/
structure Ctr where
  lev : Nat → Int
  cause : Nat → Nat × Bool
  low : Nat
  settled : Bool
def updN {α : Type} (f : Nat → α) (k : Nat) (x : α) : Nat → α := fun i => if i = k then x else f i
def kLim (l : List Bnd) (d : Nat × Bool) : Lim := limOf (bndAt l d.1) d.2
def stepK (l : List Bnd) (s : Ctr) (d : Nat × Bool) : Ctr :=
  if s.lev (kLim l d).f.toNat - s.lev (kLim l d).s.toNat ≤ (kLim l d).m then s
  else ⟨updN s.lev (kLim l d).f.toNat (s.lev (kLim l d).s.toNat + (kLim l d).m), updN s.cause (kLim l d).f.toNat d, (kLim l d).f.toNat, false⟩
def foldK (l : List Bnd) (s : Ctr) (us : List (Nat × Bool)) : Ctr := us.foldl (stepK l) s
def ctr0 : Ctr := ⟨fun _ => 0, fun _ => (0, false), 0, true⟩
def roundK (l : List Bnd) (s : Ctr) : Ctr := foldK l { s with settled := true } (useN l.length)
def roundsK (l : List Bnd) : Nat → Ctr
  | 0 => ctr0
  | t + 1 => roundK l (roundsK l t)
theorem foldK_snoc (l : List Bnd) (s : Ctr) (us : List (Nat × Bool)) (d : Nat × Bool) : foldK l s (us ++ [d]) = stepK l (foldK l s us) d := by
  unfold foldK; rw [List.foldl_append]; rfl
def LevBd (T : Int) (s : Ctr) : Prop := ∀ i, -T ≤ s.lev i ∧ s.lev i ≤ 0
theorem kLim_m {n : Nat} {l : List Bnd} (hl : LimsOk n l) (d : Nat × Bool) (hd : d.1 < l.length) : -1000000000000000 ≤ (kLim l d).m ∧ (kLim l d).m ≤ 1000000000000000 := by
  have h := hl.ok d.1 hd
  have h1 := h.lo
  have h2 := h.hi
  have h3 := h.le
  unfold kLim limOf
  split
  · unfold limUp; dsimp only; omega
  · unfold limDn; dsimp only; omega
theorem stepK_bd {n : Nat} {l : List Bnd} (hl : LimsOk n l) {s : Ctr} {T : Int} (h : LevBd T s) (_hT : 0 ≤ T) (d : Nat × Bool) (hd : d.1 < l.length) : LevBd (T + 1000000000000000) (stepK l s d) := by
  have hm := kLim_m hl d hd
  intro i
  unfold stepK
  have h1 := h (kLim l d).f.toNat
  have h2 := h (kLim l d).s.toNat
  split
  · have := h i; omega
  · dsimp only
    unfold updN
    split
    · omega
    · have := h i; omega
theorem foldK_bd {n : Nat} {l : List Bnd} (hl : LimsOk n l) : ∀ (us : List (Nat × Bool)) (s : Ctr) (T : Int), (∀ d ∈ us, d.1 < l.length) → 0 ≤ T → LevBd T s → LevBd (T + us.length * 1000000000000000) (foldK l s us)
  | [], s, T, _, _, h => by
    intro i
    have := h i
    simp only [foldK, List.foldl_nil, List.length_nil]
    omega
  | d :: us, s, T, hu, hT, h => by
    have h1 := stepK_bd hl h hT d (hu d (by simp))
    have h2 := foldK_bd hl us (stepK l s d) (T + 1000000000000000) (fun e he => hu e (by simp [he])) (by omega) h1
    intro i
    have := h2 i
    have e : foldK l s (d :: us) = foldK l (stepK l s d) us := rfl
    rw [e]
    simp only [List.length_cons]
    push_cast
    omega
theorem useN_lt : ∀ (k : Nat) (d : Nat × Bool), d ∈ useN k → d.1 < k
  | k + 1, d, h => by
    unfold useN at h
    rcases List.mem_append.1 h with h | h
    · have := useN_lt k d h; omega
    · simp at h
      rcases h with rfl | rfl <;> simp
theorem useN_len : ∀ k, (useN k).length = 2 * k
  | 0 => rfl
  | k + 1 => by
    unfold useN
    rw [List.length_append, useN_len k]
    simp; omega
theorem roundsK_bd {n : Nat} {l : List Bnd} (hl : LimsOk n l) : ∀ t : Nat, LevBd (t * (480 * 1000000000000000)) (roundsK l t)
  | 0 => by intro i; simp [roundsK, ctr0]
  | t + 1 => by
    have h := roundsK_bd hl t
    have h1 := foldK_bd hl (useN l.length) { roundsK l t with settled := true } (t * (480 * 1000000000000000)) (fun d hd => useN_lt _ d hd) (by omega) h
    intro i
    have h2 := h1 i
    have hln := hl.len
    rw [useN_len] at h2
    have e : roundsK l (t + 1) = foldK l { roundsK l t with settled := true } (useN l.length) := rfl
    rw [e]
    push_cast at h2 ⊢
    omega
end Go.Proofs.Ytlelamjbfjneiaa.Ct
