/- Plain: a net of bounds, its narrowest matrix, its contradictions, as the program computes them. · A REGION THAT DRAWS ITS ORDER INSIDE A FENCE, ITS FIRST c OPERATIONS ONLY READ, AND THE REST WAITS FOR THEM ALL: the reads are walked once, in the order of the text; the rest goes as ever. Our own text. · slices.Repeat of one number. · A matrix of numbers in memory: a slice of rows, each with a block of its own. · Contracts of the kit: lists of numbers, and lists of lists, that are the same. · A region that draws its order and whose first operations only read, IN ANY FENCE (in a round, too): it is asked only that nothing is deferred in it. -/
import Derived.Test.YtlelamjbfjneiaaGreatDoorQ01
import Derived.Sort.QuietTacIn
import Derived.OwnWalk
import Derived.OwnWalkIn
import Derived.Laws.EntriesVeiled
import Derived.Laws.OwnMore
import Derived.Laws.CopyOwn
import Derived.Laws.Bits64b
import Derived.Test.YtlelamjbfjneiaaGreatDoorQ07
namespace Go.Proofs.YtlelamjbfjneiaaGreatDoor.Ct
open Go Go.RowKit
/-- a bound of two clocks -/
structure Bnd where
  a : Int
  b : Int
  lo : Int
  hi : Int
/-- what a use of it says -/
structure Lim where
  f : Int
  s : Int
  m : Int
def noBnd : Bnd := ⟨0, 0, 0, 0⟩
def bndAt (l : List Bnd) (i : Nat) : Bnd := (l[i]?).getD noBnd
theorem bndAt_get {l : List Bnd} {i : Nat} (h : i < l.length) : l[i] = bndAt l i := by simp [bndAt, h]
def bndOk (n : Int) (x : Bnd) : Bool :=
  decide (0 ≤ x.a ∧ x.a ≤ n - 1) && decide (0 ≤ x.b ∧ x.b ≤ n - 1) && decide (x.a ≠ x.b) && decide (-1000000000000000 ≤ x.lo ∧ x.lo ≤ 1000000000000000) && decide (-1000000000000000 ≤ x.hi ∧ x.hi ≤ 1000000000000000) && decide (x.lo ≤ x.hi)
structure BndIn (n : Int) (x : Bnd) : Prop where
  a : 0 ≤ x.a ∧ x.a ≤ n - 1
  b : 0 ≤ x.b ∧ x.b ≤ n - 1
  ne : x.a ≠ x.b
  lo : -1000000000000000 ≤ x.lo ∧ x.lo ≤ 1000000000000000
  hi : -1000000000000000 ≤ x.hi ∧ x.hi ≤ 1000000000000000
  le : x.lo ≤ x.hi
theorem bndOk_iff {n : Int} {x : Bnd} : bndOk n x = true ↔ BndIn n x := by
  unfold bndOk
  simp only [Bool.and_eq_true, decide_eq_true_eq]
  exact ⟨fun ⟨⟨⟨⟨⟨h1, h2⟩, h3⟩, h4⟩, h5⟩, h6⟩ => ⟨h1, h2, h3, h4, h5, h6⟩, fun ⟨h1, h2, h3, h4, h5, h6⟩ => ⟨⟨⟨⟨⟨h1, h2⟩, h3⟩, h4⟩, h5⟩, h6⟩⟩
def netErr (n : Int) (l : List Bnd) : Int := if 1 ≤ n ∧ n ≤ 16 then (if l.length ≤ 240 then (if l.all (bndOk n) = true then 0 else 6) else 2) else 1
def limUp (x : Bnd) : Lim := ⟨x.a, x.b, x.hi⟩
def limDn (x : Bnd) : Lim := ⟨x.b, x.a, -x.lo⟩
def limOf (x : Bnd) (up : Bool) : Lim := if up = true then limUp x else limDn x
/-! the matrix -/
def openI : Int := 100000000000000000
def getM (M : List (List Int)) (i j : Nat) : Int := (((M[i]?).getD [])[j]?).getD 0
def putM (M : List (List Int)) (i j : Nat) (x : Int) : List (List Int) := M.set i (((M[i]?).getD []).set j x)
def lowM (M : List (List Int)) (i j : Nat) (x : Int) : List (List Int) := putM M i j (min (getM M i j) x)
def fillM (n : Nat) : List (List Int) := List.replicate n (List.replicate n openI)
def diagM (n : Nat) : Nat → List (List Int)
  | 0 => fillM n
  | k + 1 => lowM (diagM n k) k k 0
def useM (M : List (List Int)) (x : Lim) : List (List Int) := lowM M x.f.toNat x.s.toNat x.m
def useN : Nat → List (Nat × Bool)
  | 0 => []
  | k + 1 => useN k ++ [(k, true), (k, false)]
def limsL (l : List Bnd) : List Lim := (useN l.length).map fun q => limOf (bndAt l q.1) q.2
def boundM (n : Nat) (l : List Lim) : List (List Int) := l.foldl useM (diagM n n)
def relaxM (M : List (List Int)) (v a b : Nat) : List (List Int) := if getM M a v < openI ∧ getM M v b < openI then lowM M a b (getM M a v + getM M v b) else M
def rowM (M : List (List Int)) (v a : Nat) : Nat → List (List Int)
  | 0 => M
  | b + 1 => relaxM (rowM M v a b) v a b
def colM (n : Nat) (M : List (List Int)) (v : Nat) : Nat → List (List Int) × Bool
  | 0 => (M, true)
  | a + 1 => if (colM n M v a).2 = true then (rowM (colM n M v a).1 v a n, decide (0 ≤ getM (rowM (colM n M v a).1 v a n) a a)) else colM n M v a
def viaM (n : Nat) (M : List (List Int)) : Nat → List (List Int) × Bool
  | 0 => (M, true)
  | v + 1 => if (viaM n M v).2 = true then colM n (viaM n M v).1 v n else viaM n M v
def narrowS (n : Nat) (l : List Bnd) : List (List Int) × Bool := viaM n (boundM n (limsL l)) n
/-- no sum of two entries that is asked for leaves the numbers -/
def calmB (M : List (List Int)) : Bool := M.all fun r => r.all fun x => decide (-1000000000000000000 ≤ x) && decide (x ≤ openI)
structure Shape (n : Nat) (M : List (List Int)) : Prop where
  rows : M.length = n
  cols : ∀ i, i < n → ((M[i]?).getD []).length = n
theorem Shape.put {n : Nat} {M : List (List Int)} (h : Shape n M) (i j : Nat) (x : Int) : Shape n (putM M i j x) := by
  refine ⟨by simp [putM, h.rows], fun k hk => ?_⟩
  have hi := h.rows
  by_cases e : i = k
  · subst e
    have h2 := h.cols i hk
    simp only [putM]
    rw [List.getElem?_set_self (by omega), Option.getD_some, List.length_set]
    exact h2
  · have := h.cols k hk
    simp only [putM, List.getElem?_set_ne e]
    exact this
theorem getM_put {n : Nat} {M : List (List Int)} (h : Shape n M) {i j : Nat} (hi : i < n) (hj : j < n) (x : Int) (a b : Nat) : getM (putM M i j x) a b = if a = i ∧ b = j then x else getM M a b := by
  have hr := h.rows
  have hc := h.cols i hi
  unfold getM putM
  by_cases ea : a = i
  · subst ea
    rw [List.getElem?_set_self (by omega), Option.getD_some]
    by_cases eb : b = j
    · subst eb
      rw [List.getElem?_set_self (by omega), if_pos ⟨rfl, rfl⟩]; rfl
    · rw [List.getElem?_set_ne (fun e => eb e.symm), if_neg (fun e => eb e.2)]
  · rw [List.getElem?_set_ne (fun e => ea e.symm), if_neg (fun e => ea e.1)]
theorem Shape.low {n : Nat} {M : List (List Int)} (h : Shape n M) (i j : Nat) (x : Int) : Shape n (lowM M i j x) := h.put i j _
theorem shape_fill (n : Nat) : Shape n (fillM n) := ⟨by simp [fillM], fun i hi => by simp [fillM, hi]⟩
theorem shape_diag (n : Nat) : ∀ k, Shape n (diagM n k)
  | 0 => shape_fill n
  | k + 1 => (shape_diag n k).low k k 0
theorem shape_use {n : Nat} : ∀ (l : List Lim) {M : List (List Int)}, Shape n M → Shape n (l.foldl useM M)
  | [], _, h => h
  | _ :: l, _, h => shape_use l (h.low _ _ _)
theorem shape_bound (n : Nat) (l : List Lim) : Shape n (boundM n l) := shape_use l (shape_diag n n)
theorem Shape.relax {n : Nat} {M : List (List Int)} (h : Shape n M) (v a b : Nat) : Shape n (relaxM M v a b) := by
  unfold relaxM
  split
  · exact h.low _ _ _
  · exact h
theorem Shape.row {n : Nat} {M : List (List Int)} (h : Shape n M) (v a : Nat) : ∀ b, Shape n (rowM M v a b)
  | 0 => h
  | b + 1 => (h.row v a b).relax v a b
theorem Shape.col {n : Nat} {M : List (List Int)} (h : Shape n M) (v : Nat) : ∀ a, Shape n (colM n M v a).1
  | 0 => h
  | a + 1 => by
    unfold colM
    split
    · exact (h.col v a).row v a n
    · exact h.col v a
theorem Shape.via {n : Nat} {M : List (List Int)} (h : Shape n M) : ∀ v, Shape n (viaM n M v).1
  | 0 => h
  | v + 1 => by
    unfold viaM
    split
    · exact (h.via v).col v n
    · exact h.via v
/-- all numbers stay numbers in each round, as far as there is one -/
def calmRow (M : List (List Int)) (v a : Nat) (n : Nat) : Bool := (List.range n).all fun b => calmB (rowM M v a b)
def calmCol (n : Nat) (M : List (List Int)) (v : Nat) : Bool := (List.range n).all fun a => !(colM n M v a).2 || calmRow (colM n M v a).1 v a n
def calmAll (n : Nat) (l : List Bnd) : Bool := (List.range n).all fun v => !(viaM n (boundM n (limsL l)) v).2 || calmCol n (viaM n (boundM n (limsL l)) v).1 v
end Go.Proofs.YtlelamjbfjneiaaGreatDoor.Ct
namespace Go

section
variable {F : Fence} {n : Nat} {P : Program} {ops : Array Oper} {md : Region.Mode} {C : World → Prop} {c : Nat}

def Region.pre (md : Region.Mode) (ops : Array Oper) (c : Nat) (listed : Array Bool) : List Nat := (Region.ready md ops listed).filter (fun i => decide (i < c))

theorem mem_pre {j : Nat} {listed : Array Bool} : j ∈ Region.pre md ops c listed ↔ j ∈ Region.ready md ops listed ∧ j < c := by
  unfold Region.pre; rw [List.mem_filter]; simp

theorem pre_mono {i j : Nat} {listed : Array Bool} (hj : j ∈ Region.pre md ops c listed) (hne : j ≠ i) : j ∈ Region.pre md ops c (listed.setIfInBounds i true) := by
  rw [mem_pre] at *; exact ⟨ready_mono hj.1 hne, hj.2⟩

def wpAnyPIn (F : Fence) (n : Nat) (P : Program) (md : Region.Mode) (ops : Array Oper) (C : World → Prop) (c : Nat) (K : Act → Prop) : Nat → Array Bool → Act → Prop
  | 0, listed, a => Region.pre md ops c listed = [] ∧ K a
  | fuel + 1, listed, a =>
    (Region.pre md ops c listed = [] → K a) ∧
    ∀ i ∈ Region.pre md ops c listed, qOpIn F n P ops C i (wpAnyPIn F n P md ops C c K fuel (listed.setIfInBounds i true)) a

theorem wpAnyPIn_first {K : Act → Prop} {i : Nat} {oi : Oper} {v : Value} (hi : ops[i]? = some oi) (hsel : ∀ (j : Nat) (o : Oper) cs b, ops[j]? = some o → o.op ≠ .select cs b) :
    ∀ (fuel : Nat) (listed : Array Bool) (a : Act),
      (∀ j oj, ops[j]? = some oj → j ≠ i → listed.getD j true = false → (∀ e ∈ oj.after, Region.binds md e = true → e.on ≠ i) → oi.apart ops oj = true) →
      i ∈ Region.pre md ops c listed → YieldsQuiet F n P ops C oi v a →
      wpAnyPIn F n P md ops C c K fuel (listed.setIfInBounds i true) (a.put oi.dst v) → wpAnyPIn F n P md ops C c K (fuel + 1) listed a := by
  intro fuel
  induction fuel with
  | zero =>
    intro listed a _ hr hy H
    refine ⟨fun h => (by rw [h] at hr; cases hr), fun j hj => ?_⟩
    by_cases hji : j = i
    · subst hji; exact hy.qOpIn hi H
    · have := pre_mono hj hji
      rw [H.1] at this
      cases this
  | succ fuel ih =>
    intro listed a hfree hr hy H
    refine ⟨fun h => (by rw [h] at hr; cases hr), fun j hj => ?_⟩
    by_cases hji : j = i
    · subst hji; exact hy.qOpIn hi H
    · have h1 := H.2 j (pre_mono hj hji)
      obtain ⟨hjun, oj, hoj, hall⟩ := mem_ready.1 (mem_pre.1 hj).1
      have hnot : ∀ e ∈ oj.after, Region.binds md e = true → e.on ≠ i := fun e he hb heq => by
        have h1 := hall e he hb
        have h0 := (mem_ready.1 (mem_pre.1 hr).1).1
        rw [heq] at h1
        rcases Nat.lt_or_ge i listed.size with h' | h'
        · simp [h'] at h0 h1; rw [h0] at h1; cases h1
        · simp [Array.getElem?_eq_none h'] at h1
      have h2 := qOpIn_put hoj (hfree j oj hoj hji hjun hnot) (fun cs b => hsel i oi cs b hi) (fun cs b => hsel j oj cs b hoj) hy h1
      have hfree' : ∀ k ok, ops[k]? = some ok → k ≠ i → (listed.setIfInBounds j true).getD k true = false →
          (∀ e ∈ ok.after, Region.binds md e = true → e.on ≠ i) → oi.apart ops ok = true := fun k ok hk hki hun hno => by
        refine hfree k ok hk hki ?_ hno
        by_cases hjk : j = k
        · subst hjk; exact hjun
        · rw [getD_set_ne true hjk] at hun; exact hun
      refine qOpIn_mono (fun a' h3 => ih (listed.setIfInBounds j true) a' hfree' (pre_mono hr (Ne.symm hji)) h3.1 ?_) h2
      rw [Array.setIfInBounds_comm _ _ hji]
      exact h3.2

def Region.lexFromP (md : Region.Mode) (ops : Array Oper) (c : Nat) : Nat → Nat → Array Bool → Bool
  | 0, _, listed => (Region.pre md ops c listed).isEmpty
  | fuel + 1, k, listed => (Region.pre md ops c listed).contains k && Region.free md ops listed k && Region.lexFromP md ops c fuel (k + 1) (listed.setIfInBounds k true)

theorem wpAnyPIn_lex {K : Act → Prop} (hs : Region.noSelect ops = true) : ∀ (l : List Oper) (k : Nat) (listed : Array Bool) (a : Act), (∀ j, j < l.length → l[j]? = ops[k + j]?) →
    Region.lexFromP md ops c l.length k listed = true → wpQuietIn F n P ops C K l a → wpAnyPIn F n P md ops C c K l.length listed a
  | [], _, _, _, _, hB, h => ⟨by simpa [Region.lexFromP] using hB, h⟩
  | o :: l, k, listed, a, hl, hB, h => by
    have h0 : ops[k]? = some o := by simpa using (hl 0 (by simp)).symm
    simp only [List.length_cons, Region.lexFromP, Bool.and_eq_true] at hB
    obtain ⟨⟨hr, hf⟩, hB'⟩ := hB
    have hst : qOpIn F n P ops C k (wpQuietIn F n P ops C K l) a := by unfold qOpIn; simp only [h0]; exact h
    obtain ⟨v, hy, hK⟩ := yieldsQuiet_of_qOpIn h0 hst
    exact wpAnyPIn_first h0 (Region.noSelect_spec hs) l.length listed a (Region.free_spec h0 hf) (by simpa using hr) hy
      (wpAnyPIn_lex hs l (k + 1) _ _ (fun j hj => by have := hl (j + 1) (by simpa using hj); simpa [Nat.add_assoc, Nat.add_comm 1 j] using this) hB' hK)

/-! ### The gate: the operation at c waits for all before it, what follows waits for c or what follows it -/

structure Gate (md : Region.Mode) (ops : Array Oper) (c : Nat) : Prop where
  le : c ≤ ops.size
  back : ∀ k o, ops[k]? = some o → ∀ e ∈ o.after, Region.binds md e = true → e.on < k
  gate : ∀ k, k < c → ∃ m o, k < m ∧ m ≤ c ∧ ops[m]? = some o ∧ ∃ e ∈ o.after, Region.binds md e = true ∧ e.on = k
  past : ∀ j o, c < j → ops[j]? = some o → ∃ e ∈ o.after, Region.binds md e = true ∧ c ≤ e.on

structure Inv (md : Region.Mode) (ops : Array Oper) (c : Nat) (listed : Array Bool) : Prop where
  size : listed.size = ops.size
  hi : ∀ j, c ≤ j → listed.getD j false = false
  closed : ∀ i o, ops[i]? = some o → listed.getD i false = true → ∀ e ∈ o.after, Region.binds md e = true → listed.getD e.on false = true

theorem getD_lt {l : Array Bool} {i : Nat} (h : i < l.size) (d d' : Bool) : l.getD i d = l.getD i d' := by
  simp [Array.getD, h]

theorem Inv.gate {listed : Array Bool} (I : Inv md ops c listed) (G : Gate md ops c) : ∀ d k, c - k ≤ d → k < c → listed.getD k false = false →
    ∃ o, ops[c]? = some o ∧ ∃ e ∈ o.after, Region.binds md e = true ∧ listed.getD e.on false = false := by
  intro d
  induction d with
  | zero => intro k h1 h2 _; omega
  | succ d ih =>
    intro k h1 h2 h3
    obtain ⟨m, o, hkm, hmc, ho, e, he, hb, hon⟩ := G.gate k h2
    by_cases hm : m = c
    · subst hm; exact ⟨o, ho, e, he, hb, by rw [hon]; exact h3⟩
    · refine ih m (by omega) (by omega) ?_
      cases hl : listed.getD m false with
      | false => rfl
      | true =>
        have := I.closed m o ho hl e he hb
        rw [hon, h3] at this
        cases this

theorem Inv.some {listed : Array Bool} (I : Inv md ops c listed) (G : Gate md ops c) : ∀ k, k < c → listed.getD k false = false → Region.pre md ops c listed ≠ [] := by
  intro k
  induction k using Nat.strongRecOn with
  | _ k ih =>
    intro hk hu
    have hlt : k < ops.size := by have := G.le; omega
    by_cases hall : ∀ e ∈ (ops[k]'hlt).after, Region.binds md e = true → listed.getD e.on false = true
    · have : k ∈ Region.pre md ops c listed := mem_pre.2 ⟨mem_ready.2 ⟨by rw [getD_lt (by rw [I.size]; exact hlt) true false]; exact hu, _, Array.getElem?_eq_getElem hlt, hall⟩, hk⟩
      intro h0; rw [h0] at this; cases this
    · simp only [Classical.not_forall] at hall
      obtain ⟨e, he, hb, hno⟩ := hall
      have hlt' := G.back k _ (Array.getElem?_eq_getElem hlt) e he hb
      exact ih e.on hlt' (by omega) (by simpa using hno)

theorem Inv.below {listed : Array Bool} (I : Inv md ops c listed) (G : Gate md ops c) {k : Nat} (hk : k < c) (hu : listed.getD k false = false) {j : Nat} (hj : j ∈ Region.ready md ops listed) : j < c := by
  rcases Nat.lt_or_ge j c with h | h
  · exact h
  · obtain ⟨_, o, ho, hall⟩ := mem_ready.1 hj
    rcases Nat.lt_or_eq_of_le h with h | h
    · obtain ⟨e, he, hb, hon⟩ := G.past j o h ho
      have h1 := hall e he hb
      rw [I.hi e.on hon] at h1
      cases h1
    · subst h
      obtain ⟨o', ho', e, he, hb, hun⟩ := I.gate G _ k (Nat.le_refl _) hk hu
      rw [ho] at ho'
      cases ho'
      have h1 := hall e he hb
      rw [hun] at h1
      cases h1

theorem Inv.set {listed : Array Bool} (I : Inv md ops c listed) {i : Nat} (hi : i ∈ Region.ready md ops listed) (hic : i < c) : Inv md ops c (listed.setIfInBounds i true) := by
  refine ⟨by simpa using I.size, fun j hj => ?_, fun k o ho hk e he hb => ?_⟩
  · rw [getD_set_ne false (by omega)]; exact I.hi j hj
  · by_cases hki : i = k
    · subst hki
      obtain ⟨_, o', ho', hall⟩ := mem_ready.1 hi
      rw [ho] at ho'
      cases ho'
      exact getD_set_true (hall e he hb)
    · rw [getD_set_ne false hki] at hk
      exact getD_set_true (I.closed k o ho hk e he hb)

theorem wpAnyIn_more {Q : Exit → Act → World → Prop} : ∀ (m : Nat) (listed : Array Bool) (a : Act) (w : World), wpAnyIn F n P md ops Q m listed a w → wpAnyIn F n P md ops Q (m + 1) listed a w := by
  intro m
  induction m with
  | zero => intro listed a w h; exact ⟨fun _ => h.2, by rw [h.1]; simp⟩
  | succ m ih => intro listed a w h; exact ⟨h.1, fun i hi => wpOpIn_mono (fun a' w' => ih _ a' w') (h.2 i hi)⟩

theorem wpAnyIn_adds {Q : Exit → Act → World → Prop} {m : Nat} {listed : Array Bool} {a : Act} {w : World} (h : wpAnyIn F n P md ops Q m listed a w) : ∀ f, wpAnyIn F n P md ops Q (f + m) listed a w
  | 0 => by simpa using h
  | f + 1 => by have := wpAnyIn_more _ _ _ _ (wpAnyIn_adds h f); rwa [show f + 1 + m = f + m + 1 by omega]

theorem wpAnyIn_of_pre {K : Act → Prop} {Q : Exit → Act → World → Prop} {L : Array Bool} {m : Nat} (hro : F.round = none) (G : Gate md ops c)
    (hL : ∀ listed : Array Bool, listed.size = ops.size → (∀ k, k < c → listed.getD k false = true) → (∀ j, c ≤ j → listed.getD j false = false) → listed = L)
    (hK : ∀ a w, C w → K a → wpAnyIn F n P md ops Q m L a w) : ∀ (f : Nat) (listed : Array Bool) (a : Act) (w : World), C w → Inv md ops c listed →
    wpAnyPIn F n P md ops C c K f listed a → wpAnyIn F n P md ops Q (f + m) listed a w := by
  intro f
  induction f with
  | zero =>
    intro listed a w hw I h
    have hall : ∀ k, k < c → listed.getD k false = true := fun k hk => by
      cases hl : listed.getD k false with
      | true => rfl
      | false => exact absurd h.1 (I.some G k hk hl)
    rw [hL listed I.size hall I.hi]
    simpa using hK a w hw h.2
  | succ f ih =>
    intro listed a w hw I h
    by_cases hall : ∀ k, k < c → listed.getD k false = true
    · have hnil : Region.pre md ops c listed = [] := by
        cases hp : Region.pre md ops c listed with
        | nil => rfl
        | cons j js =>
          have hj : j ∈ Region.pre md ops c listed := by rw [hp]; simp
          obtain ⟨hr, hjc⟩ := mem_pre.1 hj
          have h1 := hall j hjc
          have h2 := (mem_ready.1 hr).1
          rw [getD_lt (by rw [I.size]; have := G.le; omega) true false, h1] at h2
          cases h2
      rw [hL listed I.size hall I.hi]
      exact wpAnyIn_adds (hK a w hw (h.1 hnil)) (f + 1)
    · simp only [Classical.not_forall] at hall
      obtain ⟨k, hk, hno⟩ := hall
      have hu : listed.getD k false = false := by simpa using hno
      rw [show f + 1 + m = (f + m) + 1 by omega]
      refine ⟨fun h0 => ?_, fun i hi => ?_⟩
      · have := I.some G k hk hu
        unfold Region.pre at this
        rw [h0] at this
        exact absurd rfl this
      · have hic := I.below G hk hu hi
        exact wpOpIn_of_qOpIn hro hw (fun a' w' hw' h3 => ih _ a' w' hw' (I.set hi hic) h3) (h.2 i (mem_pre.2 ⟨hi, hic⟩))

/-- The gate as a Bool. -/
def Region.gateB (md : Region.Mode) (ops : Array Oper) (c : Nat) : Bool :=
  decide (c ≤ ops.size) &&
  ((List.range ops.size).all fun k => match ops[k]? with | some o => o.after.all fun e => !Region.binds md e || decide (e.on < k) | none => true) &&
  ((List.range c).all fun k => (List.range (c + 1)).any fun m => decide (k < m) && match ops[m]? with | some o => o.after.any fun e => Region.binds md e && e.on == k | none => false) &&
  ((List.range ops.size).all fun j => !decide (c < j) || match ops[j]? with | some o => o.after.any fun e => Region.binds md e && decide (c ≤ e.on) | none => true)

theorem Gate.of (h : Region.gateB md ops c = true) : Gate md ops c := by
  simp only [Region.gateB, Bool.and_eq_true, decide_eq_true_eq, List.all_eq_true, List.mem_range, List.any_eq_true] at h
  obtain ⟨⟨⟨h1, h2⟩, h3⟩, h4⟩ := h
  refine ⟨h1, fun k o ho e he hb => ?_, fun k hk => ?_, fun j o hj ho => ?_⟩
  · have := h2 k (Array.getElem?_eq_some_iff.1 ho).1
    rw [ho] at this
    have := (Array.all_eq_true_iff_forall_mem.1 this) e he
    simpa [hb] using this
  · obtain ⟨m, hm, hkm, h⟩ := h3 k hk
    cases ho : ops[m]? with
    | none => rw [ho] at h; cases h
    | some o =>
      rw [ho] at h
      rw [Array.any_eq_true] at h
      obtain ⟨i, hi, he⟩ := h
      simp only [Bool.and_eq_true, beq_iff_eq] at he
      exact ⟨m, o, hkm, by omega, ho, _, Array.getElem_mem hi, he.1, he.2⟩
  · have := h4 j (Array.getElem?_eq_some_iff.1 ho).1
    rw [ho] at this
    simp only [Bool.or_eq_true, Bool.not_eq_true', decide_eq_false_iff_not] at this
    have h := this.resolve_left (by simpa using hj)
    rw [Array.any_eq_true] at h
    obtain ⟨i, hi, he⟩ := h
    simp only [Bool.and_eq_true, decide_eq_true_eq] at he
    exact ⟨_, Array.getElem_mem hi, he.1, he.2⟩

/-- THE LAW. -/
theorem wpIn_region_pre_lit {id : Nat} {Q : Exit → Act → World → Prop} {a : Act} {w : World} {l : List Oper} (c m : Nat) (hro : F.round = none) (hm : P.follows .mixedOrders = true)
    (hs : Region.noSelect l.toArray = true) (hG : Region.gateB .any l.toArray c = true) (hB : Region.lexFromP .any l.toArray c c 0 (Array.replicate l.length false) = true)
    (hlm : l.length = c + m)
    (h : wpQuietIn F n P l.toArray (fun w' => ∃ n, w' = w.drewN n) (fun a' => ∀ w', (∃ n, w' = w.drewN n) → wpAnyIn F n P .any l.toArray Q m (List.replicate c true ++ List.replicate m false).toArray a' w') (l.take c) a) : (Code.region id l.toArray true).wpIn F n P Q a w := by
  have G := Gate.of hG
  have hle : c ≤ l.length := by simpa using G.le
  have hlen : (l.take c).length = c := by simp [hle]
  refine wpIn_region_any hm ?_
  have hp := wpAnyPIn_lex (F := F) (n := n) (P := P) (C := fun w' => ∃ n, w' = w.drewN n) (md := .any) (c := c) hs (l.take c) 0 (Array.replicate l.length false) a
    (fun j hj => by simp [List.getElem?_take]; omega) (by rw [hlen]; exact hB) h
  have := wpAnyIn_of_pre (Q := Q) (L := (List.replicate c true ++ List.replicate m false).toArray) (m := m) hro G (fun listed h1 h2 h3 => ?_) (fun a w hw hk => hk w hw) _ _ a { w with drawn := w.drawn + 1 } ⟨1, rfl⟩ ?_ hp
  · rw [hlen] at this
    simpa [← hlm] using this
  · apply Array.ext
    · simp at h1 ⊢; omega
    · intro i hi hi'
      have e : listed[i] = listed.getD i false := by simp [Array.getD, hi]
      rw [e]
      rcases Nat.lt_or_ge i c with hc | hc
      · rw [h2 i hc]; simp [hc]
      · rw [h3 i hc]; simp [List.getElem_append, Nat.not_lt.2 hc]
  · refine ⟨by simp, fun j _ => ?_, fun i o _ hi => ?_⟩
    · simp [Array.getD]
    · simp [Array.getD] at hi

end

end Go
namespace Go.Proofs.YtlelamjbfjneiaaGreatDoor.Ct
open Go Go.RowKit Go.Lib
set_option maxRecDepth 100000 in
set_option maxHeartbeats 1000000 in
theorem mul64_one (c : Nat) (hc : c ≤ 100000) (w : World) :
    Calls Tryz.prog 135 #[.int .u64 1, .int .u64 c] w fun e w' => e = .returned (.tuple #[.int .u64 0, .int .u64 c]) ∧ w = w' := by
  have k1 : bits .and .u64 (c : Int) 4294967295 = (c : Int) := by
    have h := bits_and_u64_nat c 4294967295 (by omega) (by omega)
    have e : c &&& 4294967295 = c % 4294967296 := Nat.and_two_pow_sub_one_eq_mod c 32
    rw [e, Nat.mod_eq_of_lt (by omega)] at h
    exact h
  have k2 : (c : Int) / 4294967296 = 0 := by omega
  have k3 : bits .and .u64 1 4294967295 = 1 := by decide
  have k4 : bits .and .u64 0 4294967295 = 0 := by decide
  have k5 : IntKind.u64.wrap (c : Int) = (c : Int) := by rw [IntKind.wrap_u64]; omega
  go_enter Tryz.func135, Tryz.ntmps135
  go_wp2
  go_ret2
  exact ⟨rfl, rfl⟩
theorem mul_one (c : Nat) (hc : c ≤ 100000) (w : World) :
    Calls Tryz.prog 117 #[.int .u64 1, .int .u64 c] w fun e w' => e = .returned (.tuple #[.int .u64 0, .int .u64 c]) ∧ w = w' := by
  have HM := Lib.hid (fun W => mul64_one c hc W)
  go_enter Tryz.func117, Tryz.ntmps117
  go_wp2_with (go_at_call 135; refine (HM.out _).mono ?_; rintro e w1 ⟨rfl, rfl⟩)
  go_ret2
  exact ⟨rfl, rfl⟩
theorem infoInt' : (Tryz.prog.info? 3).map (fun i => (i.zero, i.size, i.bytes)) = some (some (.int .i64 0), 1, 8) := by kernel_rfl
theorem sizeInt : (Tryz.prog.info? 3).map (·.size) = some 1 := by kernel_rfl
/-- q numbers are there, the others are still 0 -/
def repL (x : Int) (q n : Nat) : List Value := List.replicate q (.int .i64 x) ++ List.replicate (n - q) (.int .i64 0)
theorem repL_len (x : Int) {q n : Nat} (h : q ≤ n) : (repL x q n).length = n := by simp [repL]; omega
theorem repL_all (x : Int) (n : Nat) : repL x n n = List.replicate n (.int .i64 x) := by simp [repL]
theorem repL_none (x : Int) (n : Nat) : repL x 0 n = List.replicate n (.int .i64 0) := by simp [repL]
theorem repL_splice (x : Int) (q r n : Nat) : splice (repL x q n) q (List.replicate r (.int .i64 x)) = repL x (q + r) n := by
  unfold splice repL
  rw [List.length_replicate, List.take_left' (by simp), List.drop_append, List.length_replicate, List.drop_eq_nil_of_le (by simp), List.nil_append, show q + r - q = r by omega, List.drop_replicate, ← List.append_assoc, List.replicate_append_replicate]
  congr 2
  omega
/-- the row that is filled -/
structure RepAt (w X : World) (g : Nat) (x : Int) (q n : Nat) : Prop where
  row : X.heap[g]? = some (.cells (repL x q n).toArray 3 (0, 0))
  bel : Below w.heap.size w X
  ge : w.heap.size ≤ g
theorem RepAt.cell {w X : World} {g q n : Nat} {x : Int} (h : RepAt w X g x q n) (i : Nat) (hi : i < q) : X.cell? ⟨g, i, none⟩ = some (.int .i64 x) := by
  simp [World.cell?, h.row, repL, List.getElem?_append, hi]
theorem copy_rep {w X Y : World} {g q r n : Nat} {x : Int} (h : RepAt w X g x q n) (hr : Y.heap[g]? = some (.cells (splice (repL x q n) q (List.replicate r (.int .i64 x))).toArray 3 (0, 0))) (hb : Below w.heap.size w Y) : RepAt w Y g x (q + r) n := by
  rw [repL_splice] at hr
  exact ⟨hr, hb, h.ge⟩
theorem wpIn_copy_row {F : Fence} {m : Nat} {P : Program} (w : World) {o : Oper} {a : Act} {K : Act → World → Prop} {Q : Exit → Act → World → Prop} (d s : Operand) (dT sT : TypeId)
    (ho : o.op = .call { callee := .builtin .copy, args := #[d, s], argTypes := #[dT, sT] }) (elem : TypeId) (hu : P.underlying dT = some (.slice elem)) (hsz : (P.info? elem).map (·.size) = some 1)
    (g off dLen dCap : Nat) (ad : Addr) (sLen sCap : Nat) (hd : a.eval d = .slice (some ⟨g, off, none⟩) dLen dCap) (hs : a.eval s = .slice (some ad) sLen sCap)
    (cur : List Value) (t : TypeId) (hg : w.heap[g]? = some (.cells cur.toArray t (0, 0))) (cs : List Value) (hn : cs.length = Nat.min sLen dLen)
    (hsrc : ∀ j v, cs[j]? = some v → w.cell? (ad.add j) = some v) (hfit : off + cs.length ≤ cur.length) (h1 : ∀ v ∈ cs, v.oneCell' = true) (B : Nat) (w0 : World) (hb : Below B w0 w) (hBg : B ≤ g)
    (h : ∀ w', Hid (w'.heap[g]? = some (.cells (splice cur off cs).toArray t (0, 0))) → Below B w0 w' → K (a.put o.dst (goInt cs.length)) w') : Oper.wpIn F m P o a w K Q := by
  have hrun := run_copy_row (P := P) w dT sT o.type elem g off dLen dCap ad sLen sCap cur.toArray t cs hu hsz hg hn hsrc (by simpa using hfit) h1
  unfold Oper.wpIn
  refine ⟨?_, ?_⟩
  · simp [Oper.about, ho, resolve, Target.leads, Sem.run_pure]
  · rw [Oper.semAt_plain F _ _ (by rw [ho]; intro c hc'; cases hc')]
    simp [execOp, ho, resolve, invoke, builtin, hd, hs, hrun, Result.andThen]
    exact h _ (show _ = _ by simpa [splice] using setRow_heap w g _ _ t _ hg) (below_setRow hb hBg _)
theorem made_row {w X : World} {B g n : Nat} {x : Int} (h : X.ownsRow B 3 1 (.slice (some ⟨g, 0, none⟩) n n) n (List.replicate n (.int .i64 0))) (hb : Below w.heap.size w X) (hg : w.heap.size ≤ g) : RepAt w X g x 0 n := by
  refine ⟨?_, hb, hg⟩
  rcases h.2 with ⟨e, _⟩ | ⟨g', cap', cur, e, _, hgb, _, _, hs, ht⟩
  · cases e
  · cases e
    rw [hgb, repL_none, ← ht, List.take_of_length_le (by simp [hs])]
theorem rep_src {X : World} {ad : Addr} {x : Int} {r : Nat} (h : ∀ j, j < r → X.cell? (ad.add j) = some (.int .i64 x)) : ∀ j v, (List.replicate r (Value.int .i64 x))[j]? = some v → X.cell? (ad.add j) = some v := fun j v hj => by
  rw [List.getElem?_replicate] at hj
  split at hj
  · rename_i hlt
    cases hj
    exact h j hlt
  · cases hj
theorem rep_one (r : Nat) (x : Int) : ∀ v ∈ List.replicate r (Value.int .i64 x), v.oneCell' = true := fun v hv => by
  rw [List.eq_of_mem_replicate hv]; rfl
theorem add_at (g o j : Nat) : (⟨g, o, none⟩ : Addr).add j = ⟨g, o + j, none⟩ := by unfold Addr.add; split <;> simp_all
theorem rep_pos {X : World} {g b o n : Nat} {x : Int} (hx : X.cell? ⟨b, o, none⟩ = some (.int .i64 x)) : 0 < (List.replicate (min 1 n) (Value.int .i64 x)).length → (some ⟨g, 0, none⟩ : Option Addr) = some ⟨g, 0, none⟩ ∧ ∃ ad, (some ⟨b, o, none⟩ : Option Addr) = some ad ∧ ∀ j v, (List.replicate (min 1 n) (Value.int .i64 x))[j]? = some v → X.cell? (ad.add j) = some v :=
  fun _ => ⟨rfl, _, rfl, rep_src fun j hj => by
    obtain rfl : j = 0 := by omega
    rw [add_at]
    exact hx⟩
theorem rep_copy {w X : World} {g q r n : Nat} {x : Int} (h : RepAt w X g x q n) (hqn : q ≤ n) (hr : r = min q (n - q)) :
    ∃ Y, RepAt w Y g x (q + r) n ∧ (Builtin.copy_ #[29, 29] 3 #[.slice (some ⟨g, q, none⟩) (n - q) (n - q), .slice (some ⟨g, 0, none⟩) q n]).run Tryz.prog X = .ok (.int .i64 (r : Int)) Y := by
  have hrun := run_copy_row (P := Tryz.prog) X 29 29 3 3 g q (n - q) (n - q) ⟨g, 0, none⟩ q n (repL x q n).toArray 3 (List.replicate r (.int .i64 x)) Tryz.underlying29 sizeInt h.row (by rw [List.length_replicate, hr])
    (rep_src fun j hj => by rw [add_at, Nat.zero_add]; exact h.cell j (by omega)) (by rw [List.length_replicate, List.size_toArray, repL_len x hqn]; omega) (rep_one _ _)
  refine ⟨_, ?_, by rw [hrun, List.length_replicate]; rfl⟩
  refine copy_rep h ?_ (below_setRow h.bel h.ge _)
  have h2 := setRow_heap X g (repL x q n).toArray ((repL x q n).take q ++ (List.replicate r (Value.int .i64 x) ++ (repL x q n).drop (q + r))).toArray 3 (0, 0) h.row
  simpa [splice] using h2
def RepRet (x : Int) (n : Nat) (w : World) (e : Ending) (w' : World) : Prop := ∃ g, e = .returned (.slice (some ⟨g, 0, none⟩) n n) ∧ RepAt w w' g x n n
set_option maxRecDepth 100000 in
set_option maxHeartbeats 4000000 in
theorem repeat_any (x : Int) (b o cx n : Nat) (w : World) (hn : n ≤ 10000) (hx : w.cell? ⟨b, o, none⟩ = some (.int .i64 x)) :
    Calls Tryz.prog 106 #[.slice (some ⟨b, o, none⟩) 1 cx, .int .i64 n] w (RepRet x n w) := by
  obtain ⟨i0, hi0, hz0, hz1, hz2⟩ := info_parts infoInt'
  have HM := Lib.hid (fun W => mul_one n (by omega) W)
  have k1 : IntKind.u64.wrap (n : Int) = (n : Int) := by rw [IntKind.wrap_u64]; omega
  have k2 : IntKind.i64.wrap (n : Int) = (n : Int) := IntWalk.i64_in _ (by omega)
  have k3 : ¬ ((9223372036854775807 : Int) < (n : Int)) := by omega
  have k4 : ¬ ((n : Int) < 0) := by omega
  have HX := Lib.hid hx
  clear hx
  go_enter Tryz.func106, Tryz.ntmps106
  have HXX := Lib.hid (fun (X : World) (hX : Below w.heap.size w X) => cell_below hX HX.out)
  go_wp2_with (first | (go_at_call 117; refine (HM.out _).mono ?_; rintro e w1 ⟨rfl, rfl⟩) | (at_make; refine wpList_make_full _ rfl _ _ 29 rfl w.heap.size 3 i0 (.int .i64 0) 1 Tryz.underlying29 hi0 hz0 hz1 .i64 .i64 _ _ n rfl rfl rfl rfl (by rw [hz2]; omega) (by unfold maxLen; omega) (Nat.le_refl _) ?_; intro w0 hown0 hgrow0; have HR0 : Hid (RepAt w w0 w.heap.size x 0 n) := Lib.hid (made_row (by rw [Nat.mul_one, show (Value.int .i64 0).cells = #[.int .i64 0] from rfl, toList_madeCells_one] at hown0; exact hown0) ((Below.refl _ _).grown hgrow0 (Nat.le_refl _) (fun k hk => by cases hk)) (Nat.le_refl _)); clear hown0 hgrow0) |
    (refine wpList_copy_splice (o := ⟨some 33, _, _, _, _, _⟩) rfl (.tmp 31) (.tmp 32) 29 29 rfl 3 Tryz.underlying29 sizeInt (some ⟨w.heap.size, 0, none⟩) (some ⟨b, o, none⟩) n n 1 cx rfl rfl w.heap.size 0 (repL x 0 n) 3 HR0.out.row (List.replicate (min 1 n) (.int .i64 x)) (by rw [List.length_replicate]) (rep_pos (HXX.out _ HR0.out.bel)) (by rw [List.length_replicate, repL_len x (Nat.zero_le _)]; omega) (rep_one _ _) w.heap.size w HR0.out.bel (Nat.le_refl _) ?_; intro w2 hrow2 hb2; have HR1 := Lib.hid (copy_rep HR0.out hrow2.out hb2); clear hrow2 hb2))
  clear HXX HR0 HX HM
  go_loopw [8] (fun s wr => ∃ q : Nat, (q ≤ n ∧ (1 ≤ q ∨ n = 0)) ∧ s = .int .i64 (q : Int) ∧ Hid (RepAt w wr w.heap.size x q n)) (fun s _ => n - (intOf s).toNat)
  case atStart => exact ⟨0 + min 1 n, by omega, by simp, HR1⟩
  case round =>
    obtain ⟨q, ⟨hq1, hq2⟩, rfl, HE⟩ := hrel
    by_cases hlt : q < n
    · have hqi : (q : Int) < (n : Int) := by omega
      have hqi2 : (q : Int) ≤ (n : Int) := by omega
      have hqn : q ≤ n := by omega
      obtain ⟨r, hr⟩ : ∃ r, r = min q (n - q) := ⟨_, rfl⟩
      have hr1 : 1 ≤ r ∧ q + r ≤ n := by omega
      have v1 : IntKind.i64.wrap ((q : Int) + (r : Int)) = ((q + r : Nat) : Int) := by rw [IntWalk.i64_in _ (by omega)]; omega
      have HR := Lib.hid hr
      have HQ := Lib.hid hr1
      clear hr hr1
      have hnq : ¬ n = q := by omega
      have hq0 : q ≤ n - q ∨ n - q ≤ q := by omega
      obtain ⟨Y, hY, hrun⟩ := rep_copy (X := wr.drew) (g := w.heap.size) (x := x) (r := r) ⟨HE.out.row, HE.out.bel.drew, Nat.le_refl _⟩ hqn HR.out
      have HY := Lib.hid hY
      have HM2 := Lib.hid (show n - (q + r) < n - q by have := HQ.out; omega)
      have hqr := HQ.out
      clear hY hq0 hqr
      go_wp2
      go_region
      go_wp2
      go_roundw
      case rel => exact ⟨q + r, by have := HQ.out; omega, by simp, HY⟩
      case measure => have := HQ.out; simp [intOf]; omega
    · obtain rfl : q = n := by omega
      have HF := Lib.hid (show RepRet x q w (.returned (.slice (some ⟨w.heap.size, 0, none⟩) q q)) wr from ⟨_, rfl, HE.out⟩)
      go_wp2
      go_ret
      exact HF.out
end Go.Proofs.YtlelamjbfjneiaaGreatDoor.Ct
namespace Go.Proofs.YtlelamjbfjneiaaGreatDoor.Ct
open Go Go.RowKit
structure MatAt (w X : World) (n g : Nat) (bs : Nat → Nat) (M : List (List Int)) : Prop where
  rows : ∀ i, i < n → X.cell? ⟨g, i, none⟩ = some (.slice (some ⟨bs i, 0, none⟩) n n)
  at_ : ∀ i j, i < n → j < n → X.cell? ⟨bs i, j, none⟩ = some (.int .i64 (getM M i j)) ∧ X.frozen? ⟨bs i, j, none⟩ = false
  inj : ∀ i j, i < n → j < n → bs i = bs j → i = j
  ne : ∀ i, i < n → bs i ≠ g
  ge : ∀ i, i < n → w.heap.size ≤ bs i
  bel : Below w.heap.size w X
variable {w X Y : World} {n g : Nat} {bs : Nat → Nat} {M : List (List Int)}
theorem MatAt.below (h : MatAt w X n g bs M) (hb : Below X.heap.size X Y) : MatAt w Y n g bs M :=
  ⟨fun i hi => cell_below hb (h.rows i hi), fun i j hi hj => ⟨cell_below hb (h.at_ i j hi hj).1, (hb.frozen (p := ⟨bs i, j, none⟩) (cell_lt (h.at_ i j hi hj).1)).trans (h.at_ i j hi hj).2⟩, h.inj, h.ne, h.ge, h.bel.trans (hb.mono h.bel.size)⟩
theorem MatAt.put (h : MatAt w X n g bs M) (sh : Shape n M) {i j : Nat} (hi : i < n) (hj : j < n) (x : Int) : MatAt w (X.setCell ⟨bs i, j, none⟩ (.int .i64 x)) n g bs (putM M i j x) := by
  refine ⟨fun k hk => ?_, fun a b ha hb => ⟨?_, ?_⟩, h.inj, h.ne, h.ge, h.bel.setCell (p := ⟨bs i, j, none⟩) (h.ge i hi) _⟩
  · rw [World.cell?_setCell_far _ _ _ _ (h.ne i hi)]; exact h.rows k hk
  · rw [getM_put sh hi hj]
    by_cases e : a = i
    · subst e
      by_cases e2 : b = j
      · subst e2
        rw [if_pos ⟨rfl, rfl⟩]; exact World.cell?_setCell_same _ _ _ (h.at_ a b ha hb).1
      · rw [if_neg (fun q => e2 q.2), World.cell?_setCell_other _ ⟨bs a, j, none⟩ ⟨bs a, b, none⟩ _ (fun q => by cases q; exact e2 rfl)]
        exact (h.at_ a b ha hb).1
    · rw [if_neg (fun q => e q.1), World.cell?_setCell_far _ _ _ _ (fun q => e (h.inj _ _ hi ha q).symm)]
      exact (h.at_ a b ha hb).1
  · rw [World.frozen?_setCell]; exact (h.at_ a b ha hb).2
theorem MatAt.low (h : MatAt w X n g bs M) (sh : Shape n M) {i j : Nat} (hi : i < n) (hj : j < n) (x : Int) : MatAt w (X.setCell ⟨bs i, j, none⟩ (.int .i64 (min (getM M i j) x))) n g bs (lowM M i j x) := h.put sh hi hj _
end Go.Proofs.YtlelamjbfjneiaaGreatDoor.Ct
namespace Go.Proofs.YtlelamjbfjneiaaGreatDoor.Ct
open Go Go.RowKit
attribute [local go_sem] Oper.semAt_some
set_option maxRecDepth 100000 in
set_option maxHeartbeats 2000000 in
theorem sameInts_yes (m : Nat → Int) (n : Nat) (p1 p2 : Option Addr) (c1 c2 : Nat) (w : World) (hn : n ≤ maxLen) (h1 : FnIn w m n p1) (h2 : FnIn w m n p2) :
    Calls Tryz.prog 12 #[.slice p1 n c1, .slice p2 n c2] w fun e w' => e = .returned (.bool true) ∧ Below w.heap.size w w' := by
  unfold maxLen at hn
  have H1 := Lib.hid h1
  have H2 := Lib.hid h2
  clear h1 h2
  go_enter Tryz.func12, Tryz.ntmps12
  go_wp2_with fail
  go_loopw [4, 5] (fun s i wr => ∃ (k : Nat) (v : Value), k ≤ n ∧ s = v ∧ i = .int .i64 (k : Int) ∧ Hid (Below w.heap.size w wr)) (fun _ i _ => n - (intOf i).toNat)
  case atStart => exact ⟨0, _, Nat.zero_le _, rfl, rfl, Lib.hid (Below.refl _ _)⟩
  case round =>
    obtain ⟨k, v, hk, rfl, rfl, HB⟩ := hrel
    by_cases hlt : k < n
    · have hki : (k : Int) < n := by omega
      have HK := Lib.hid hlt
      obtain ⟨b1, o1, rfl, x1⟩ := (H1.out.below HB.out).resolve_left (by omega)
      obtain ⟨b2, o2, rfl, x2⟩ := (H2.out.below HB.out).resolve_left (by omega)
      have y1 := x1 k hlt
      have y2 := x2 k hlt
      have z1 := cell_lt y1
      have z2 := cell_lt y2
      have w1 : IntKind.i64.wrap ((k : Int) + 1) = (k : Int) + 1 := IntWalk.i64_in _ (by omega)
      generalize m k = mk at *
      clear x1 x2 hlt
      go_upto_region 6 with fail
      go_quiet (fail)
      go_wp2_with fail
      go_roundw
      case rel => exact ⟨k + 1, _, HK.out, rfl, by simp, Lib.hid (below_drewN HB.out _)⟩
      case measure => have := HK.out; simp [intOf]; omega
    · have hki : ¬ ((k : Int) < n) := by omega
      go_wp2_with fail
      go_ret
      exact ⟨rfl, HB.out⟩
theorem sameList_yes (m : Nat → Int) (n : Nat) (p1 p2 : Option Addr) (c1 c2 : Nat) (w : World) (hn : n ≤ maxLen) (h1 : FnIn w m n p1) (h2 : FnIn w m n p2) :
    Calls Tryz.prog 51 #[.slice p1 n c1, .slice p2 n c2] w fun e w' => e = .returned (.bool true) ∧ Below w.heap.size w w' := by
  have H := Lib.hid (sameInts_yes m n p1 p2 c1 c2 w hn h1 h2)
  clear h1 h2
  go_enter Tryz.func51, Tryz.ntmps51
  go_wp2_with (go_at_call 12; refine H.out.mono ?_; rintro e w1 ⟨rfl, hb⟩; have HB := Lib.hid hb; clear hb)
  go_ret
  exact ⟨rfl, HB.out⟩
/-- n lists that lie in memory -/
def RowsIn (X : World) (m : Nat → Nat → Int) (len : Nat → Nat) (n : Nat) (b o : Nat) : Prop := ∀ i, i < n → ∃ p c, X.cell? ⟨b, o + i, none⟩ = some (.slice p (len i) c) ∧ FnIn X (m i) (len i) p ∧ len i ≤ maxLen
theorem RowsIn.below {X Y : World} {m : Nat → Nat → Int} {len : Nat → Nat} {n b o : Nat} (h : RowsIn X m len n b o) (hb : Below X.heap.size X Y) : RowsIn Y m len n b o := fun i hi => by
  obtain ⟨p, c, h1, h2, h3⟩ := h i hi
  exact ⟨p, c, cell_below hb h1, h2.below hb, h3⟩
set_option maxRecDepth 100000 in
set_option maxHeartbeats 2000000 in
theorem sameLists_yes (m : Nat → Nat → Int) (len : Nat → Nat) (n b1 o1 b2 o2 c1 c2 : Nat) (w : World) (hn : n ≤ maxLen) (h1 : RowsIn w m len n b1 o1) (h2 : RowsIn w m len n b2 o2) :
    Calls Tryz.prog 22 #[.slice (some ⟨b1, o1, none⟩) n c1, .slice (some ⟨b2, o2, none⟩) n c2] w fun e w' => e = .returned (.bool true) ∧ Below w.heap.size w w' := by
  unfold maxLen at hn
  have H1 := Lib.hid h1
  have H2 := Lib.hid h2
  clear h1 h2
  go_enter Tryz.func22, Tryz.ntmps22
  go_wp2_with fail
  go_loopw [4, 5] (fun s i wr => ∃ (k : Nat) (v : Value), k ≤ n ∧ s = v ∧ i = .int .i64 (k : Int) ∧ Hid (Below w.heap.size w wr)) (fun _ i _ => n - (intOf i).toNat)
  case atStart => exact ⟨0, _, Nat.zero_le _, rfl, rfl, Lib.hid (Below.refl _ _)⟩
  case round =>
    obtain ⟨k, v, hk, rfl, rfl, HB⟩ := hrel
    by_cases hlt : k < n
    · have hki : (k : Int) < n := by omega
      have HK := Lib.hid hlt
      obtain ⟨p1, q1, y1, f1, hlen⟩ := (H1.out.below HB.out) k hlt
      obtain ⟨p2, q2, y2, f2, -⟩ := (H2.out.below HB.out) k hlt
      have z1 := cell_lt y1
      have z2 := cell_lt y2
      have w1 : IntKind.i64.wrap ((k : Int) + 1) = (k : Int) + 1 := IntWalk.i64_in _ (by omega)
      have HC := Lib.hid (fun j => sameList_yes (m k) (len k) p1 p2 q1 q2 (wr.drewN j) hlen f1 f2)
      generalize len k = lk at *
      clear f1 f2 hlt
      go_upto_region 6 with fail
      refine (wpIn_wide (n := 9)).1 ?_
      refine wpIn_region_pre_lit 8 2 rfl (by kernel_rfl) (by kernel_rfl) (by kernel_rfl) (by kernel_rfl) rfl ?_
      simp only [List.take_succ_cons, List.take_zero]
      repeat (refine wpQuietIn_step (by first | exact fun _ _ _ _ => trivial | quiet_asked_in) (fun KQ hKQ => ?_); go_simp; first | (refine hKQ _ ?_; clear hKQ KQ) | (apply Exists.intro; refine ⟨fun _ => ?_, hKQ _ ?_⟩; (fail); clear hKQ KQ))
      refine wpQuietIn_nil ?_
      intro _ hwq1
      obtain ⟨nq, hwq2⟩ := hwq1
      subst hwq2
      simp only [List.replicate_succ, List.replicate_zero, List.cons_append, List.nil_append]
      refine wpAnyIn_ready (rs := [8]) (by kernel_rfl) (by simp) (AllReadyIn.cons rfl (fun K' hKK => ?_) AllReadyIn.nil)
      go_simp
      refine ⟨trivial, (callsIn_wide.2 (HC.out nq)).mono ?_⟩
      rintro e w2 ⟨rfl, hb2⟩
      have HB2 := Lib.hid (HB.out.trans (((below_drewN (Below.refl wr.heap.size wr) nq).trans hb2).mono HB.out.size))
      go_simp
      refine hKK _ _ ?_
      clear hKK hb2
      refine wpAnyIn_ready (rs := [9]) (by kernel_rfl) (by simp) (AllReadyIn.cons rfl (fun K' hKK => ?_) AllReadyIn.nil)
      go_simp
      refine hKK _ _ ?_
      clear hKK
      refine wpAnyIn_done (by kernel_rfl) ?_ _
      go_wp2_with fail
      go_roundw
      case rel => exact ⟨k + 1, _, HK.out, rfl, by simp, HB2⟩
      case measure => have := HK.out; simp [intOf]; omega
    · have hki : ¬ ((k : Int) < n) := by omega
      go_wp2_with fail
      go_ret
      exact ⟨rfl, HB.out⟩
end Go.Proofs.YtlelamjbfjneiaaGreatDoor.Ct
namespace Go
section
variable {F : Fence} {n : Nat} {P : Program} {ops : Array Oper} {md : Region.Mode} {C : World → Prop} {c : Nat}
def Oper.noDefer (o : Oper) : Bool := match o.op with | .defer _ => false | _ => true
theorem noDefer_ne {o : Oper} (h : o.noDefer = true) : ∀ c, o.op ≠ .defer c := fun c e => by
  unfold Oper.noDefer at h
  rw [e] at h
  cases h
theorem noDefer_all {l : List Oper} (h : l.all Oper.noDefer = true) : ∀ (i : Nat) (o : Oper), l.toArray[i]? = some o → ∀ c, o.op ≠ .defer c := fun i o ho =>
  noDefer_ne (List.all_eq_true.1 h o (List.mem_of_getElem? (by simpa using ho)))
theorem Oper.wpIn_of_quiet_nd {o : Oper} {a : Act} {K : Act → Prop} {K' : Act → World → Prop} {Q' : Exit → Act → World → Prop} {w : World} (hnd : ∀ c, o.op ≠ .defer c) (hw : C w) (h : ∀ a w', C w' → K a → K' a w')
    (ha : o.askedIn F P a C) (hh : o.quietIn F n P a C K) : o.wpIn F n P a w K' Q' := by
  obtain ⟨v, h1, h2⟩ := hh
  have h3 := h1 w hw
  unfold Oper.quietAtIn at h3
  unfold Oper.wpIn
  refine ⟨ha w hw, ?_⟩
  rw [Oper.semAt_eq _ _ _ hnd]
  generalize (execOp a.eval o).run P w = r at *
  cases r with
  | ok x w' =>
    cases x <;> simp only [Oper.quietUponIn] at h3 <;> simp only [Oper.uponIn]
    case value u =>
      obtain ⟨e1, e2⟩ := h3
      rw [e1, e2]
      exact h _ _ hw h2
    case skip =>
      obtain ⟨e1, e2⟩ := h3
      rw [e1, ← e2]
      exact h _ _ hw h2
    case enter f args =>
      obtain ⟨e1, hd, hc⟩ := h3
      rw [e1]
      exact ⟨hd, hc.mono fun e w'' ⟨he, hw''⟩ => by subst he; exact h _ _ hw'' h2⟩
  | halt x w' => simp only [Oper.quietUponIn] at h3
theorem wpOpIn_of_qOpIn_nd {i : Nat} {a : Act} {K : Act → Prop} {K' : Act → World → Prop} {Q' : Exit → Act → World → Prop} {w : World} (hnd : ∀ (i : Nat) (o : Oper), ops[i]? = some o → ∀ c, o.op ≠ .defer c) (hC : C w) (h : ∀ a w', C w' → K a → K' a w')
    (hh : qOpIn F n P ops C i K a) : wpOpIn F n P ops Q' i K' a w := by
  unfold qOpIn at hh
  unfold wpOpIn
  split
  · rename_i ho; simp only [ho] at hh; exact h _ _ hC hh
  · rename_i o ho
    simp only [ho] at hh
    obtain ⟨ha, hh⟩ := hh
    split
    · rename_i hw; simp only [hw, if_true] at hh; exact Oper.wpIn_of_quiet_nd (hnd i o ho) hC h ha hh
    · rename_i hw; simp only [hw] at hh; exact ⟨ha w hC, h _ _ hC hh⟩
theorem wpAnyIn_of_pre_nd {K : Act → Prop} {Q : Exit → Act → World → Prop} {L : Array Bool} {m : Nat} (hnd : ∀ (i : Nat) (o : Oper), ops[i]? = some o → ∀ c, o.op ≠ .defer c) (G : Gate md ops c)
    (hL : ∀ listed : Array Bool, listed.size = ops.size → (∀ k, k < c → listed.getD k false = true) → (∀ j, c ≤ j → listed.getD j false = false) → listed = L)
    (hK : ∀ a w, C w → K a → wpAnyIn F n P md ops Q m L a w) : ∀ (f : Nat) (listed : Array Bool) (a : Act) (w : World), C w → Inv md ops c listed →
    wpAnyPIn F n P md ops C c K f listed a → wpAnyIn F n P md ops Q (f + m) listed a w := by
  intro f
  induction f with
  | zero =>
    intro listed a w hw I h
    have hall : ∀ k, k < c → listed.getD k false = true := fun k hk => by
      cases hl : listed.getD k false with
      | true => rfl
      | false => exact absurd h.1 (I.some G k hk hl)
    rw [hL listed I.size hall I.hi]
    simpa using hK a w hw h.2
  | succ f ih =>
    intro listed a w hw I h
    by_cases hall : ∀ k, k < c → listed.getD k false = true
    · have hnil : Region.pre md ops c listed = [] := by
        cases hp : Region.pre md ops c listed with
        | nil => rfl
        | cons j js =>
          have hj : j ∈ Region.pre md ops c listed := by rw [hp]; simp
          obtain ⟨hr, hjc⟩ := mem_pre.1 hj
          have h1 := hall j hjc
          have h2 := (mem_ready.1 hr).1
          rw [getD_lt (by rw [I.size]; have := G.le; omega) true false, h1] at h2
          cases h2
      rw [hL listed I.size hall I.hi]
      exact wpAnyIn_adds (hK a w hw (h.1 hnil)) (f + 1)
    · simp only [Classical.not_forall] at hall
      obtain ⟨k, hk, hno⟩ := hall
      have hu : listed.getD k false = false := by simpa using hno
      rw [show f + 1 + m = (f + m) + 1 by omega]
      refine ⟨fun h0 => ?_, fun i hi => ?_⟩
      · have := I.some G k hk hu
        unfold Region.pre at this
        rw [h0] at this
        exact absurd rfl this
      · have hic := I.below G hk hu hi
        exact wpOpIn_of_qOpIn_nd hnd hw (fun a' w' hw' h3 => ih _ a' w' hw' (I.set hi hic) h3) (h.2 i (mem_pre.2 ⟨hi, hic⟩))

theorem wpIn_region_pre_nd {id : Nat} {Q : Exit → Act → World → Prop} {a : Act} {w : World} {l : List Oper} (c m : Nat) (hnb : l.all Oper.noDefer = true) (hm : P.follows .mixedOrders = true)
    (hs : Region.noSelect l.toArray = true) (hG : Region.gateB .any l.toArray c = true) (hB : Region.lexFromP .any l.toArray c c 0 (Array.replicate l.length false) = true)
    (hlm : l.length = c + m)
    (h : wpQuietIn F n P l.toArray (fun w' => ∃ n, w' = w.drewN n) (fun a' => ∀ w', (∃ n, w' = w.drewN n) → wpAnyIn F n P .any l.toArray Q m (List.replicate c true ++ List.replicate m false).toArray a' w') (l.take c) a) : (Code.region id l.toArray true).wpIn F n P Q a w := by
  have G := Gate.of hG
  have hle : c ≤ l.length := by simpa using G.le
  have hlen : (l.take c).length = c := by simp [hle]
  refine wpIn_region_any hm ?_
  have hp := wpAnyPIn_lex (F := F) (n := n) (P := P) (C := fun w' => ∃ n, w' = w.drewN n) (md := .any) (c := c) hs (l.take c) 0 (Array.replicate l.length false) a
    (fun j hj => by simp [List.getElem?_take]; omega) (by rw [hlen]; exact hB) h
  have := wpAnyIn_of_pre_nd (Q := Q) (L := (List.replicate c true ++ List.replicate m false).toArray) (m := m) (noDefer_all hnb) G (fun listed h1 h2 h3 => ?_) (fun a w hw hk => hk w hw) _ _ a { w with drawn := w.drawn + 1 } ⟨1, rfl⟩ ?_ hp
  · rw [hlen] at this
    simpa [← hlm] using this
  · apply Array.ext
    · simp at h1 ⊢; omega
    · intro i hi hi'
      have e : listed[i] = listed.getD i false := by simp [Array.getD, hi]
      rw [e]
      rcases Nat.lt_or_ge i c with hc | hc
      · rw [h2 i hc]; simp [hc]
      · rw [h3 i hc]; simp [List.getElem_append, Nat.not_lt.2 hc]
  · refine ⟨by simp, fun j _ => ?_, fun i o _ hi => ?_⟩
    · simp [Array.getD]
    · simp [Array.getD] at hi

end
end Go
