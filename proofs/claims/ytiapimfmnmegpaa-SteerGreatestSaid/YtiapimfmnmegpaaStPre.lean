/- A REGION THAT DRAWS ITS ORDER INSIDE A FENCE, ITS FIRST c OPERATIONS ONLY READ, AND THE REST WAITS FOR THEM ALL: the reads are walked once, in the order of the text; the rest goes as ever. Our own text. -/
import Derived.Sort.QuietTacIn
namespace Go

section
variable {F : Fence} {n : Nat} {P : Program} {ops : Array Oper} {md : Region.Mode} {C : World → Prop} {c : Nat}

def Region.pre (md : Region.Mode) (ops : Array Oper) (c : Nat) (listed : Array Bool) : List Nat := (Region.ready md ops listed).filter (fun i => decide (i < c))

theorem mem_pre {j : Nat} {listed : Array Bool} : j ∈ Region.pre md ops c listed ↔ j ∈ Region.ready md ops listed ∧ j < c := by
  unfold Region.pre; rw [List.mem_filter]; simp

theorem pre_mono {i j : Nat} {listed : Array Bool} (hj : j ∈ Region.pre md ops c listed) (hne : j ≠ i) : j ∈ Region.pre md ops c (listed.setIfInBounds i true) := by
  rw [mem_pre] at *; exact ⟨ready_mono hj.1 hne, hj.2⟩

def wpAnyPIn (F : Fence) (n : Nat) (P : Program) (md : Region.Mode) (ops : Array Oper) (C : World → Prop) (c : Nat) (K : Act → Prop) : Nat → Array Bool → Act → Prop
  | 0, listed, a => Region.pre md ops c listed = [] ∧ K a
  | fuel + 1, listed, a =>
    (Region.pre md ops c listed = [] → K a) ∧
    ∀ i ∈ Region.pre md ops c listed, qOpIn F n P ops C i (wpAnyPIn F n P md ops C c K fuel (listed.setIfInBounds i true)) a

theorem wpAnyPIn_first {K : Act → Prop} {i : Nat} {oi : Oper} {v : Value} (hi : ops[i]? = some oi) (hsel : ∀ (j : Nat) (o : Oper) cs b, ops[j]? = some o → o.op ≠ .select cs b) :
    ∀ (fuel : Nat) (listed : Array Bool) (a : Act),
      (∀ j oj, ops[j]? = some oj → j ≠ i → listed.getD j true = false → (∀ e ∈ oj.after, Region.binds md e = true → e.on ≠ i) → oi.apart ops oj = true) →
      i ∈ Region.pre md ops c listed → YieldsQuiet F n P ops C oi v a →
      wpAnyPIn F n P md ops C c K fuel (listed.setIfInBounds i true) (a.put oi.dst v) → wpAnyPIn F n P md ops C c K (fuel + 1) listed a := by
  intro fuel
  induction fuel with
  | zero =>
    intro listed a _ hr hy H
    refine ⟨fun h => (by rw [h] at hr; cases hr), fun j hj => ?_⟩
    by_cases hji : j = i
    · subst hji; exact hy.qOpIn hi H
    · have := pre_mono hj hji
      rw [H.1] at this
      cases this
  | succ fuel ih =>
    intro listed a hfree hr hy H
    refine ⟨fun h => (by rw [h] at hr; cases hr), fun j hj => ?_⟩
    by_cases hji : j = i
    · subst hji; exact hy.qOpIn hi H
    · have h1 := H.2 j (pre_mono hj hji)
      obtain ⟨hjun, oj, hoj, hall⟩ := mem_ready.1 (mem_pre.1 hj).1
      have hnot : ∀ e ∈ oj.after, Region.binds md e = true → e.on ≠ i := fun e he hb heq => by
        have h1 := hall e he hb
        have h0 := (mem_ready.1 (mem_pre.1 hr).1).1
        rw [heq] at h1
        rcases Nat.lt_or_ge i listed.size with h' | h'
        · simp [h'] at h0 h1; rw [h0] at h1; cases h1
        · simp [Array.getElem?_eq_none h'] at h1
      have h2 := qOpIn_put hoj (hfree j oj hoj hji hjun hnot) (fun cs b => hsel i oi cs b hi) (fun cs b => hsel j oj cs b hoj) hy h1
      have hfree' : ∀ k ok, ops[k]? = some ok → k ≠ i → (listed.setIfInBounds j true).getD k true = false →
          (∀ e ∈ ok.after, Region.binds md e = true → e.on ≠ i) → oi.apart ops ok = true := fun k ok hk hki hun hno => by
        refine hfree k ok hk hki ?_ hno
        by_cases hjk : j = k
        · subst hjk; exact hjun
        · rw [getD_set_ne true hjk] at hun; exact hun
      refine qOpIn_mono (fun a' h3 => ih (listed.setIfInBounds j true) a' hfree' (pre_mono hr (Ne.symm hji)) h3.1 ?_) h2
      rw [Array.setIfInBounds_comm _ _ hji]
      exact h3.2

def Region.lexFromP (md : Region.Mode) (ops : Array Oper) (c : Nat) : Nat → Nat → Array Bool → Bool
  | 0, _, listed => (Region.pre md ops c listed).isEmpty
  | fuel + 1, k, listed => (Region.pre md ops c listed).contains k && Region.free md ops listed k && Region.lexFromP md ops c fuel (k + 1) (listed.setIfInBounds k true)

theorem wpAnyPIn_lex {K : Act → Prop} (hs : Region.noSelect ops = true) : ∀ (l : List Oper) (k : Nat) (listed : Array Bool) (a : Act), (∀ j, j < l.length → l[j]? = ops[k + j]?) →
    Region.lexFromP md ops c l.length k listed = true → wpQuietIn F n P ops C K l a → wpAnyPIn F n P md ops C c K l.length listed a
  | [], _, _, _, _, hB, h => ⟨by simpa [Region.lexFromP] using hB, h⟩
  | o :: l, k, listed, a, hl, hB, h => by
    have h0 : ops[k]? = some o := by simpa using (hl 0 (by simp)).symm
    simp only [List.length_cons, Region.lexFromP, Bool.and_eq_true] at hB
    obtain ⟨⟨hr, hf⟩, hB'⟩ := hB
    have hst : qOpIn F n P ops C k (wpQuietIn F n P ops C K l) a := by unfold qOpIn; simp only [h0]; exact h
    obtain ⟨v, hy, hK⟩ := yieldsQuiet_of_qOpIn h0 hst
    exact wpAnyPIn_first h0 (Region.noSelect_spec hs) l.length listed a (Region.free_spec h0 hf) (by simpa using hr) hy
      (wpAnyPIn_lex hs l (k + 1) _ _ (fun j hj => by have := hl (j + 1) (by simpa using hj); simpa [Nat.add_assoc, Nat.add_comm 1 j] using this) hB' hK)

/-! ### The gate: the operation at c waits for all before it, what follows waits for c or what follows it -/

structure Gate (md : Region.Mode) (ops : Array Oper) (c : Nat) : Prop where
  le : c ≤ ops.size
  back : ∀ k o, ops[k]? = some o → ∀ e ∈ o.after, Region.binds md e = true → e.on < k
  gate : ∀ k, k < c → ∃ m o, k < m ∧ m ≤ c ∧ ops[m]? = some o ∧ ∃ e ∈ o.after, Region.binds md e = true ∧ e.on = k
  past : ∀ j o, c < j → ops[j]? = some o → ∃ e ∈ o.after, Region.binds md e = true ∧ c ≤ e.on

structure Inv (md : Region.Mode) (ops : Array Oper) (c : Nat) (listed : Array Bool) : Prop where
  size : listed.size = ops.size
  hi : ∀ j, c ≤ j → listed.getD j false = false
  closed : ∀ i o, ops[i]? = some o → listed.getD i false = true → ∀ e ∈ o.after, Region.binds md e = true → listed.getD e.on false = true

theorem getD_lt {l : Array Bool} {i : Nat} (h : i < l.size) (d d' : Bool) : l.getD i d = l.getD i d' := by
  simp [Array.getD, h]

theorem Inv.gate {listed : Array Bool} (I : Inv md ops c listed) (G : Gate md ops c) : ∀ d k, c - k ≤ d → k < c → listed.getD k false = false →
    ∃ o, ops[c]? = some o ∧ ∃ e ∈ o.after, Region.binds md e = true ∧ listed.getD e.on false = false := by
  intro d
  induction d with
  | zero => intro k h1 h2 _; omega
  | succ d ih =>
    intro k h1 h2 h3
    obtain ⟨m, o, hkm, hmc, ho, e, he, hb, hon⟩ := G.gate k h2
    by_cases hm : m = c
    · subst hm; exact ⟨o, ho, e, he, hb, by rw [hon]; exact h3⟩
    · refine ih m (by omega) (by omega) ?_
      cases hl : listed.getD m false with
      | false => rfl
      | true =>
        have := I.closed m o ho hl e he hb
        rw [hon, h3] at this
        cases this

theorem Inv.some {listed : Array Bool} (I : Inv md ops c listed) (G : Gate md ops c) : ∀ k, k < c → listed.getD k false = false → Region.pre md ops c listed ≠ [] := by
  intro k
  induction k using Nat.strongRecOn with
  | _ k ih =>
    intro hk hu
    have hlt : k < ops.size := by have := G.le; omega
    by_cases hall : ∀ e ∈ (ops[k]'hlt).after, Region.binds md e = true → listed.getD e.on false = true
    · have : k ∈ Region.pre md ops c listed := mem_pre.2 ⟨mem_ready.2 ⟨by rw [getD_lt (by rw [I.size]; exact hlt) true false]; exact hu, _, Array.getElem?_eq_getElem hlt, hall⟩, hk⟩
      intro h0; rw [h0] at this; cases this
    · simp only [Classical.not_forall] at hall
      obtain ⟨e, he, hb, hno⟩ := hall
      have hlt' := G.back k _ (Array.getElem?_eq_getElem hlt) e he hb
      exact ih e.on hlt' (by omega) (by simpa using hno)

theorem Inv.below {listed : Array Bool} (I : Inv md ops c listed) (G : Gate md ops c) {k : Nat} (hk : k < c) (hu : listed.getD k false = false) {j : Nat} (hj : j ∈ Region.ready md ops listed) : j < c := by
  rcases Nat.lt_or_ge j c with h | h
  · exact h
  · obtain ⟨_, o, ho, hall⟩ := mem_ready.1 hj
    rcases Nat.lt_or_eq_of_le h with h | h
    · obtain ⟨e, he, hb, hon⟩ := G.past j o h ho
      have h1 := hall e he hb
      rw [I.hi e.on hon] at h1
      cases h1
    · subst h
      obtain ⟨o', ho', e, he, hb, hun⟩ := I.gate G _ k (Nat.le_refl _) hk hu
      rw [ho] at ho'
      cases ho'
      have h1 := hall e he hb
      rw [hun] at h1
      cases h1

theorem Inv.set {listed : Array Bool} (I : Inv md ops c listed) {i : Nat} (hi : i ∈ Region.ready md ops listed) (hic : i < c) : Inv md ops c (listed.setIfInBounds i true) := by
  refine ⟨by simpa using I.size, fun j hj => ?_, fun k o ho hk e he hb => ?_⟩
  · rw [getD_set_ne false (by omega)]; exact I.hi j hj
  · by_cases hki : i = k
    · subst hki
      obtain ⟨_, o', ho', hall⟩ := mem_ready.1 hi
      rw [ho] at ho'
      cases ho'
      exact getD_set_true (hall e he hb)
    · rw [getD_set_ne false hki] at hk
      exact getD_set_true (I.closed k o ho hk e he hb)

theorem wpAnyIn_more {Q : Exit → Act → World → Prop} : ∀ (m : Nat) (listed : Array Bool) (a : Act) (w : World), wpAnyIn F n P md ops Q m listed a w → wpAnyIn F n P md ops Q (m + 1) listed a w := by
  intro m
  induction m with
  | zero => intro listed a w h; exact ⟨fun _ => h.2, by rw [h.1]; simp⟩
  | succ m ih => intro listed a w h; exact ⟨h.1, fun i hi => wpOpIn_mono (fun a' w' => ih _ a' w') (h.2 i hi)⟩

theorem wpAnyIn_adds {Q : Exit → Act → World → Prop} {m : Nat} {listed : Array Bool} {a : Act} {w : World} (h : wpAnyIn F n P md ops Q m listed a w) : ∀ f, wpAnyIn F n P md ops Q (f + m) listed a w
  | 0 => by simpa using h
  | f + 1 => by have := wpAnyIn_more _ _ _ _ (wpAnyIn_adds h f); rwa [show f + 1 + m = f + m + 1 by omega]

theorem wpAnyIn_of_pre {K : Act → Prop} {Q : Exit → Act → World → Prop} {L : Array Bool} {m : Nat} (hro : F.round = none) (G : Gate md ops c)
    (hL : ∀ listed : Array Bool, listed.size = ops.size → (∀ k, k < c → listed.getD k false = true) → (∀ j, c ≤ j → listed.getD j false = false) → listed = L)
    (hK : ∀ a w, C w → K a → wpAnyIn F n P md ops Q m L a w) : ∀ (f : Nat) (listed : Array Bool) (a : Act) (w : World), C w → Inv md ops c listed →
    wpAnyPIn F n P md ops C c K f listed a → wpAnyIn F n P md ops Q (f + m) listed a w := by
  intro f
  induction f with
  | zero =>
    intro listed a w hw I h
    have hall : ∀ k, k < c → listed.getD k false = true := fun k hk => by
      cases hl : listed.getD k false with
      | true => rfl
      | false => exact absurd h.1 (I.some G k hk hl)
    rw [hL listed I.size hall I.hi]
    simpa using hK a w hw h.2
  | succ f ih =>
    intro listed a w hw I h
    by_cases hall : ∀ k, k < c → listed.getD k false = true
    · have hnil : Region.pre md ops c listed = [] := by
        cases hp : Region.pre md ops c listed with
        | nil => rfl
        | cons j js =>
          have hj : j ∈ Region.pre md ops c listed := by rw [hp]; simp
          obtain ⟨hr, hjc⟩ := mem_pre.1 hj
          have h1 := hall j hjc
          have h2 := (mem_ready.1 hr).1
          rw [getD_lt (by rw [I.size]; have := G.le; omega) true false, h1] at h2
          cases h2
      rw [hL listed I.size hall I.hi]
      exact wpAnyIn_adds (hK a w hw (h.1 hnil)) (f + 1)
    · simp only [Classical.not_forall] at hall
      obtain ⟨k, hk, hno⟩ := hall
      have hu : listed.getD k false = false := by simpa using hno
      rw [show f + 1 + m = (f + m) + 1 by omega]
      refine ⟨fun h0 => ?_, fun i hi => ?_⟩
      · have := I.some G k hk hu
        unfold Region.pre at this
        rw [h0] at this
        exact absurd rfl this
      · have hic := I.below G hk hu hi
        exact wpOpIn_of_qOpIn hro hw (fun a' w' hw' h3 => ih _ a' w' hw' (I.set hi hic) h3) (h.2 i (mem_pre.2 ⟨hi, hic⟩))

/-- The gate as a Bool. -/
def Region.gateB (md : Region.Mode) (ops : Array Oper) (c : Nat) : Bool :=
  decide (c ≤ ops.size) &&
  ((List.range ops.size).all fun k => match ops[k]? with | some o => o.after.all fun e => !Region.binds md e || decide (e.on < k) | none => true) &&
  ((List.range c).all fun k => (List.range (c + 1)).any fun m => decide (k < m) && match ops[m]? with | some o => o.after.any fun e => Region.binds md e && e.on == k | none => false) &&
  ((List.range ops.size).all fun j => !decide (c < j) || match ops[j]? with | some o => o.after.any fun e => Region.binds md e && decide (c ≤ e.on) | none => true)

theorem Gate.of (h : Region.gateB md ops c = true) : Gate md ops c := by
  simp only [Region.gateB, Bool.and_eq_true, decide_eq_true_eq, List.all_eq_true, List.mem_range, List.any_eq_true] at h
  obtain ⟨⟨⟨h1, h2⟩, h3⟩, h4⟩ := h
  refine ⟨h1, fun k o ho e he hb => ?_, fun k hk => ?_, fun j o hj ho => ?_⟩
  · have := h2 k (Array.getElem?_eq_some_iff.1 ho).1
    rw [ho] at this
    have := (Array.all_eq_true_iff_forall_mem.1 this) e he
    simpa [hb] using this
  · obtain ⟨m, hm, hkm, h⟩ := h3 k hk
    cases ho : ops[m]? with
    | none => rw [ho] at h; cases h
    | some o =>
      rw [ho] at h
      rw [Array.any_eq_true] at h
      obtain ⟨i, hi, he⟩ := h
      simp only [Bool.and_eq_true, beq_iff_eq] at he
      exact ⟨m, o, hkm, by omega, ho, _, Array.getElem_mem hi, he.1, he.2⟩
  · have := h4 j (Array.getElem?_eq_some_iff.1 ho).1
    rw [ho] at this
    simp only [Bool.or_eq_true, Bool.not_eq_true', decide_eq_false_iff_not] at this
    have h := this.resolve_left (by simpa using hj)
    rw [Array.any_eq_true] at h
    obtain ⟨i, hi, he⟩ := h
    simp only [Bool.and_eq_true, decide_eq_true_eq] at he
    exact ⟨_, Array.getElem_mem hi, he.1, he.2⟩

/-- THE LAW. -/
theorem wpIn_region_pre_lit {id : Nat} {Q : Exit → Act → World → Prop} {a : Act} {w : World} {l : List Oper} (c m : Nat) (hro : F.round = none) (hm : P.follows .mixedOrders = true)
    (hs : Region.noSelect l.toArray = true) (hG : Region.gateB .any l.toArray c = true) (hB : Region.lexFromP .any l.toArray c c 0 (Array.replicate l.length false) = true)
    (hlm : l.length = c + m)
    (h : wpQuietIn F n P l.toArray (fun w' => ∃ n, w' = w.drewN n) (fun a' => ∀ w', (∃ n, w' = w.drewN n) → wpAnyIn F n P .any l.toArray Q m (List.replicate c true ++ List.replicate m false).toArray a' w') (l.take c) a) : (Code.region id l.toArray true).wpIn F n P Q a w := by
  have G := Gate.of hG
  have hle : c ≤ l.length := by simpa using G.le
  have hlen : (l.take c).length = c := by simp [hle]
  refine wpIn_region_any hm ?_
  have hp := wpAnyPIn_lex (F := F) (n := n) (P := P) (C := fun w' => ∃ n, w' = w.drewN n) (md := .any) (c := c) hs (l.take c) 0 (Array.replicate l.length false) a
    (fun j hj => by simp [List.getElem?_take]; omega) (by rw [hlen]; exact hB) h
  have := wpAnyIn_of_pre (Q := Q) (L := (List.replicate c true ++ List.replicate m false).toArray) (m := m) hro G (fun listed h1 h2 h3 => ?_) (fun a w hw hk => hk w hw) _ _ a { w with drawn := w.drawn + 1 } ⟨1, rfl⟩ ?_ hp
  · rw [hlen] at this
    simpa [← hlm] using this
  · apply Array.ext
    · simp at h1 ⊢; omega
    · intro i hi hi'
      have e : listed[i] = listed.getD i false := by simp [Array.getD, hi]
      rw [e]
      rcases Nat.lt_or_ge i c with hc | hc
      · rw [h2 i hc]; simp [hc]
      · rw [h3 i hc]; simp [List.getElem_append, Nat.not_lt.2 hc]
  · refine ⟨by simp, fun j _ => ?_, fun i o _ hi => ?_⟩
    · simp [Array.getD]
    · simp [Array.getD] at hi

end

end Go
