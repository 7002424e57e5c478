/- Contracts of layer 2: contradiction, its ends: a step that lowers, and that going back comes round (a list of n + 1 numbers below n has two that are the same). -/
import Derived.Test.YtlelamjbfjneiaaNt
namespace Go.Proofs.Ytlelamjbfjneiaa.Ct
open Go Go.RowKit Go.Shelf
theorem pigeon : ∀ (n : Nat) (f : Nat → Nat), (∀ i, i ≤ n → f i < n) → ∃ i j, i < j ∧ j ≤ n ∧ f i = f j
  | 0, f, h => absurd (h 0 (Nat.le_refl 0)) (by omega)
  | n + 1, f, h => by
    by_cases he : ∃ i, i ≤ n ∧ f i = f (n + 1)
    · obtain ⟨i, hi, e⟩ := he
      exact ⟨i, n + 1, by omega, Nat.le_refl _, e⟩
    · have hne : ∀ i, i ≤ n → f i ≠ f (n + 1) := fun i hi e => he ⟨i, hi, e⟩
      have hv := h (n + 1) (Nat.le_refl _)
      obtain ⟨i, j, hij, hj, e⟩ := pigeon n (fun i => if f i < f (n + 1) then f i else f i - 1) (fun i hi => by
        have h1 := h i (by omega)
        have h2 := hne i hi
        split <;> omega)
      have h1 := hne i (by omega)
      have h2 := hne j hj
      refine ⟨i, j, hij, by omega, ?_⟩
      split at e <;> split at e <;> omega
def itN (f : Nat → Nat) : Nat → Nat → Nat
  | 0, x => x
  | m + 1, x => f (itN f m x)
theorem itN_add (f : Nat → Nat) (x : Nat) (b : Nat) : ∀ a, itN f (a + b) x = itN f a (itN f b x)
  | 0 => by rw [Nat.zero_add]; rfl
  | a + 1 => by rw [Nat.succ_add]; show f (itN f (a + b) x) = f (itN f a (itN f b x)); rw [itN_add f x b a]
theorem itN_lt {f : Nat → Nat} {n : Nat} (hf : ∀ k, k < n → f k < n) {x : Nat} (hx : x < n) : ∀ m, itN f m x < n
  | 0 => hx
  | m + 1 => hf _ (itN_lt hf hx m)
theorem itN_comes {f : Nat → Nat} {n : Nat} (hf : ∀ k, k < n → f k < n) {x : Nat} (hx : x < n) : ∃ c, 1 ≤ c ∧ c ≤ n ∧ itN f c (itN f n x) = itN f n x := by
  obtain ⟨i, j, hij, hj, e⟩ := pigeon n (fun i => itN f i x) (fun i _ => itN_lt hf hx i)
  refine ⟨j - i, by omega, by omega, ?_⟩
  rw [← itN_add, show j - i + n = (n - i) + j by omega, itN_add, ← e, ← itN_add, show n - i + i = n by omega]
theorem low_all {w Y W' : World} {RS : Nat} {q : CtB} {n : Nat} {l : List Bnd} {p : Option Addr} {cap : Nat} {S : Ctr} {d : Nat × Bool} {x : Nat} {v : Int} {Ds : List Nat} {f : Nat → Prop}
    (hI : CtrAt Y q n l p cap S) (hkf : KeepsFrom RS W' (lowW Y q x v d)) (hst : StayC f W' Y) (hf : ∀ i, f i → i ≠ q.gl ∧ i ≠ q.gc ∧ i ≠ q.b7 ∧ i ≠ q.b8)
    (hB : Below w.heap.size w Y) (hq : w.heap.size ≤ q.gl) (hS : RS ≤ Y.heap.size) (hM : ∀ D, D ∈ Ds → Y.heap[D]? = some (.deferred (some [])))
    (hx : (kLim l d).f.toNat = x) (hxn : x < n) (hv : S.lev (kLim l d).s.toNat + (kLim l d).m = v) (hgt : ¬ S.lev (kLim l d).f.toNat - S.lev (kLim l d).s.toNat ≤ (kLim l d).m) :
    KeepsFrom RS W' (lowW Y q x v d) ∧ StayC f W' (lowW Y q x v d) ∧ CtrAt (lowW Y q x v d) q n l p cap (stepK l S d) ∧ Below w.heap.size w (lowW Y q x v d) ∧ RS ≤ (lowW Y q x v d).heap.size ∧ ∀ D, D ∈ Ds → (lowW Y q x v d).heap[D]? = some (.deferred (some [])) := by
  have hg := hI.gt
  have ne : ∀ {b o : Nat} {u : Value}, Y.cell? ⟨b, o, none⟩ = some u → ∀ D, D ∈ Ds → D ≠ b := by
    intro b o u hc D hD e
    subst e
    obtain ⟨ob, h1, h2⟩ := cells_of_cell hc
    rw [hM D hD] at h1
    cases h1
    cases h2
  have n1 := ne (hI.lev x hxn).1
  have n2 := ne (hI.cau x hxn).1.1
  have n3 := ne hI.low.1
  have n4 := ne hI.set_.1
  have hsz : (lowW Y q x v d).heap.size = Y.heap.size := by simp [lowW]
  refine ⟨hkf, hst.trans (low_stay Y q x v d hf), ?_, low_below hB q x v d hq (by omega) (by omega) (by omega), by omega, fun D hD => ?_⟩
  · have := hI.step d (by omega) hgt
    rwa [hx, hv] at this
  · unfold lowW
    rw [Below.heap_setCell _ _ _ _ (n4 D hD), Below.heap_setCell _ _ _ _ (n3 D hD), Below.heap_setCell _ _ _ _ (n2 D hD), Below.heap_setCell _ _ _ _ (n2 D hD), Below.heap_setCell _ _ _ _ (n1 D hD)]
    exact hM D hD
theorem kLim_in {n : Nat} {l : List Bnd} (hl : LimsOk n l) (d : Nat × Bool) (hd : d.1 < l.length) : (kLim l d).f.toNat < n ∧ (kLim l d).s.toNat < n := by
  obtain ⟨x, y, mm, hxy, hx, hy⟩ := uix_bd hl ⟨d, hd⟩
  have e : kLim l d = uixLim l ⟨d, hd⟩ := rfl
  rw [e, hxy]
  exact ⟨by simpa using hx, by simpa using hy⟩
/-- the clock that a clock was lowered by -/
def backK (l : List Bnd) (s : Ctr) (k : Nat) : Nat := (kLim l (s.cause k)).s.toNat
/-- the causes that are met going back c times -/
def cycK (l : List Bnd) (s : Ctr) (k c : Nat) : List (Int × Bool) := (List.range c).map fun i => (((s.cause (itN (backK l s) i k)).1 : Int), (s.cause (itN (backK l s) i k)).2)
theorem cycK_len (l : List Bnd) (s : Ctr) (k c : Nat) : (cycK l s k c).length = c := by simp [cycK]
theorem cycK_at (l : List Bnd) (s : Ctr) (k c : Nat) {i : Nat} (hi : i < c) : useAt (cycK l s k c) i = (((s.cause (itN (backK l s) i k)).1 : Int), (s.cause (itN (backK l s) i k)).2) := by
  simp [useAt, cycK, hi]
/-- what contradiction answers -/
def ConOf (n : Nat) (l : List Bnd) (u : List (Int × Bool)) : Prop :=
  (u = [] ∧ ∃ t, t < n ∧ (roundsK l (t + 1)).settled = true) ∨
  ((∀ t, t < n → (roundsK l (t + 1)).settled = false) ∧ ∃ k c, k = itN (backK l (roundsK l n)) n (roundsK l n).low ∧ 1 ≤ c ∧ c ≤ n ∧ itN (backK l (roundsK l n)) c k = k ∧ (∀ i, 1 ≤ i → i < c → itN (backK l (roundsK l n)) i k ≠ k) ∧ u = cycK l (roundsK l n) k c)
/-- causes and the clock lowered last are such as there are -/
def CauIn (n N : Nat) (s : Ctr) : Prop := s.low < n ∧ ∀ k, (s.cause k).1 < N
theorem stepK_in {n : Nat} {l : List Bnd} (hl : LimsOk n l) {s : Ctr} (h : CauIn n l.length s) (d : Nat × Bool) (hd : d.1 < l.length) : CauIn n l.length (stepK l s d) := by
  unfold stepK
  split
  · exact h
  · refine ⟨?_, fun k => ?_⟩
    · have := kLim_in hl d hd
      exact this.1
    · dsimp only
      unfold updN
      split
      · exact hd
      · exact h.2 k
theorem foldK_in {n : Nat} {l : List Bnd} (hl : LimsOk n l) : ∀ (us : List (Nat × Bool)) (s : Ctr), (∀ d ∈ us, d.1 < l.length) → CauIn n l.length s → CauIn n l.length (foldK l s us)
  | [], _, _, h => h
  | d :: us, s, hu, h => foldK_in hl us (stepK l s d) (fun e he => hu e (by simp [he])) (stepK_in hl h d (hu d (by simp)))
theorem roundsK_in {n : Nat} {l : List Bnd} (hl : LimsOk n l) (hn : 1 ≤ n) (h0 : 0 < l.length) : ∀ t : Nat, CauIn n l.length (roundsK l t)
  | 0 => ⟨hn, fun _ => h0⟩
  | t + 1 => foldK_in hl (useN l.length) { roundsK l t with settled := true } (fun d hd => useN_lt _ d hd) (roundsK_in hl hn h0 t)
theorem backK_lt {n : Nat} {l : List Bnd} (hl : LimsOk n l) {s : Ctr} (h : CauIn n l.length s) (k : Nat) : backK l s k < n := (kLim_in hl _ (h.2 k)).2
end Go.Proofs.Ytlelamjbfjneiaa.Ct
