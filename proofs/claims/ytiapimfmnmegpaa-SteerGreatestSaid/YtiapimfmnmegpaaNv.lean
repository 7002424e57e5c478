/- A region that draws its order and whose first operations only read, IN ANY FENCE (in a round, too): it is asked only that nothing is deferred in it. -/
import Derived.Test.YtiapimfmnmegpaaStPre
namespace Go
section
variable {F : Fence} {n : Nat} {P : Program} {ops : Array Oper} {md : Region.Mode} {C : World → Prop} {c : Nat}
def Oper.noDefer (o : Oper) : Bool := match o.op with | .defer _ => false | _ => true
theorem noDefer_ne {o : Oper} (h : o.noDefer = true) : ∀ c, o.op ≠ .defer c := fun c e => by
  unfold Oper.noDefer at h
  rw [e] at h
  cases h
theorem noDefer_all {l : List Oper} (h : l.all Oper.noDefer = true) : ∀ (i : Nat) (o : Oper), l.toArray[i]? = some o → ∀ c, o.op ≠ .defer c := fun i o ho =>
  noDefer_ne (List.all_eq_true.1 h o (List.mem_of_getElem? (by simpa using ho)))
theorem Oper.wpIn_of_quiet_nd {o : Oper} {a : Act} {K : Act → Prop} {K' : Act → World → Prop} {Q' : Exit → Act → World → Prop} {w : World} (hnd : ∀ c, o.op ≠ .defer c) (hw : C w) (h : ∀ a w', C w' → K a → K' a w')
    (ha : o.askedIn F P a C) (hh : o.quietIn F n P a C K) : o.wpIn F n P a w K' Q' := by
  obtain ⟨v, h1, h2⟩ := hh
  have h3 := h1 w hw
  unfold Oper.quietAtIn at h3
  unfold Oper.wpIn
  refine ⟨ha w hw, ?_⟩
  rw [Oper.semAt_eq _ _ _ hnd]
  generalize (execOp a.eval o).run P w = r at *
  cases r with
  | ok x w' =>
    cases x <;> simp only [Oper.quietUponIn] at h3 <;> simp only [Oper.uponIn]
    case value u =>
      obtain ⟨e1, e2⟩ := h3
      rw [e1, e2]
      exact h _ _ hw h2
    case skip =>
      obtain ⟨e1, e2⟩ := h3
      rw [e1, ← e2]
      exact h _ _ hw h2
    case enter f args =>
      obtain ⟨e1, hd, hc⟩ := h3
      rw [e1]
      exact ⟨hd, hc.mono fun e w'' ⟨he, hw''⟩ => by subst he; exact h _ _ hw'' h2⟩
  | halt x w' => simp only [Oper.quietUponIn] at h3
theorem wpOpIn_of_qOpIn_nd {i : Nat} {a : Act} {K : Act → Prop} {K' : Act → World → Prop} {Q' : Exit → Act → World → Prop} {w : World} (hnd : ∀ (i : Nat) (o : Oper), ops[i]? = some o → ∀ c, o.op ≠ .defer c) (hC : C w) (h : ∀ a w', C w' → K a → K' a w')
    (hh : qOpIn F n P ops C i K a) : wpOpIn F n P ops Q' i K' a w := by
  unfold qOpIn at hh
  unfold wpOpIn
  split
  · rename_i ho; simp only [ho] at hh; exact h _ _ hC hh
  · rename_i o ho
    simp only [ho] at hh
    obtain ⟨ha, hh⟩ := hh
    split
    · rename_i hw; simp only [hw, if_true] at hh; exact Oper.wpIn_of_quiet_nd (hnd i o ho) hC h ha hh
    · rename_i hw; simp only [hw] at hh; exact ⟨ha w hC, h _ _ hC hh⟩
theorem wpAnyIn_of_pre_nd {K : Act → Prop} {Q : Exit → Act → World → Prop} {L : Array Bool} {m : Nat} (hnd : ∀ (i : Nat) (o : Oper), ops[i]? = some o → ∀ c, o.op ≠ .defer c) (G : Gate md ops c)
    (hL : ∀ listed : Array Bool, listed.size = ops.size → (∀ k, k < c → listed.getD k false = true) → (∀ j, c ≤ j → listed.getD j false = false) → listed = L)
    (hK : ∀ a w, C w → K a → wpAnyIn F n P md ops Q m L a w) : ∀ (f : Nat) (listed : Array Bool) (a : Act) (w : World), C w → Inv md ops c listed →
    wpAnyPIn F n P md ops C c K f listed a → wpAnyIn F n P md ops Q (f + m) listed a w := by
  intro f
  induction f with
  | zero =>
    intro listed a w hw I h
    have hall : ∀ k, k < c → listed.getD k false = true := fun k hk => by
      cases hl : listed.getD k false with
      | true => rfl
      | false => exact absurd h.1 (I.some G k hk hl)
    rw [hL listed I.size hall I.hi]
    simpa using hK a w hw h.2
  | succ f ih =>
    intro listed a w hw I h
    by_cases hall : ∀ k, k < c → listed.getD k false = true
    · have hnil : Region.pre md ops c listed = [] := by
        cases hp : Region.pre md ops c listed with
        | nil => rfl
        | cons j js =>
          have hj : j ∈ Region.pre md ops c listed := by rw [hp]; simp
          obtain ⟨hr, hjc⟩ := mem_pre.1 hj
          have h1 := hall j hjc
          have h2 := (mem_ready.1 hr).1
          rw [getD_lt (by rw [I.size]; have := G.le; omega) true false, h1] at h2
          cases h2
      rw [hL listed I.size hall I.hi]
      exact wpAnyIn_adds (hK a w hw (h.1 hnil)) (f + 1)
    · simp only [Classical.not_forall] at hall
      obtain ⟨k, hk, hno⟩ := hall
      have hu : listed.getD k false = false := by simpa using hno
      rw [show f + 1 + m = (f + m) + 1 by omega]
      refine ⟨fun h0 => ?_, fun i hi => ?_⟩
      · have := I.some G k hk hu
        unfold Region.pre at this
        rw [h0] at this
        exact absurd rfl this
      · have hic := I.below G hk hu hi
        exact wpOpIn_of_qOpIn_nd hnd hw (fun a' w' hw' h3 => ih _ a' w' hw' (I.set hi hic) h3) (h.2 i (mem_pre.2 ⟨hi, hic⟩))

theorem wpIn_region_pre_nd {id : Nat} {Q : Exit → Act → World → Prop} {a : Act} {w : World} {l : List Oper} (c m : Nat) (hnb : l.all Oper.noDefer = true) (hm : P.follows .mixedOrders = true)
    (hs : Region.noSelect l.toArray = true) (hG : Region.gateB .any l.toArray c = true) (hB : Region.lexFromP .any l.toArray c c 0 (Array.replicate l.length false) = true)
    (hlm : l.length = c + m)
    (h : wpQuietIn F n P l.toArray (fun w' => ∃ n, w' = w.drewN n) (fun a' => ∀ w', (∃ n, w' = w.drewN n) → wpAnyIn F n P .any l.toArray Q m (List.replicate c true ++ List.replicate m false).toArray a' w') (l.take c) a) : (Code.region id l.toArray true).wpIn F n P Q a w := by
  have G := Gate.of hG
  have hle : c ≤ l.length := by simpa using G.le
  have hlen : (l.take c).length = c := by simp [hle]
  refine wpIn_region_any hm ?_
  have hp := wpAnyPIn_lex (F := F) (n := n) (P := P) (C := fun w' => ∃ n, w' = w.drewN n) (md := .any) (c := c) hs (l.take c) 0 (Array.replicate l.length false) a
    (fun j hj => by simp [List.getElem?_take]; omega) (by rw [hlen]; exact hB) h
  have := wpAnyIn_of_pre_nd (Q := Q) (L := (List.replicate c true ++ List.replicate m false).toArray) (m := m) (noDefer_all hnb) G (fun listed h1 h2 h3 => ?_) (fun a w hw hk => hk w hw) _ _ a { w with drawn := w.drawn + 1 } ⟨1, rfl⟩ ?_ hp
  · rw [hlen] at this
    simpa [← hlm] using this
  · apply Array.ext
    · simp at h1 ⊢; omega
    · intro i hi hi'
      have e : listed[i] = listed.getD i false := by simp [Array.getD, hi]
      rw [e]
      rcases Nat.lt_or_ge i c with hc | hc
      · rw [h2 i hc]; simp [hc]
      · rw [h3 i hc]; simp [List.getElem_append, Nat.not_lt.2 hc]
  · refine ⟨by simp, fun j _ => ?_, fun i o _ hi => ?_⟩
    · simp [Array.getD]
    · simp [Array.getD] at hi

end
end Go
