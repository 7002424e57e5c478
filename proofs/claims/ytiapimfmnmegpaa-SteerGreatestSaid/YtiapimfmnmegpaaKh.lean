/- A region that draws its order, IN ANY FENCE, whose first c operations give one value in a class of worlds and keep to it (they may call functions that only make memory). -/
import Derived.Test.YtiapimfmnmegpaaNv
namespace Go
section
variable {F : Fence} {n : Nat} {P : Program}
theorem wpIn_region_cls {id : Nat} {Q : Exit → Act → World → Prop} {a : Act} {w : World} {l : List Oper} (C : World → Prop) (c m : Nat) (hC : C w.drew) (hnb : l.all Oper.noDefer = true) (hm : P.follows .mixedOrders = true)
    (hs : Region.noSelect l.toArray = true) (hG : Region.gateB .any l.toArray c = true) (hB : Region.lexFromP .any l.toArray c c 0 (Array.replicate l.length false) = true)
    (hlm : l.length = c + m)
    (h : wpQuietIn F n P l.toArray C (fun a' => ∀ w', C w' → wpAnyIn F n P .any l.toArray Q m (List.replicate c true ++ List.replicate m false).toArray a' w') (l.take c) a) : (Code.region id l.toArray true).wpIn F n P Q a w := by
  have G := Gate.of hG
  have hle : c ≤ l.length := by simpa using G.le
  have hlen : (l.take c).length = c := by simp [hle]
  refine wpIn_region_any hm ?_
  have hp := wpAnyPIn_lex (F := F) (n := n) (P := P) (C := C) (md := .any) (c := c) hs (l.take c) 0 (Array.replicate l.length false) a
    (fun j hj => by simp [List.getElem?_take]; omega) (by rw [hlen]; exact hB) h
  have := wpAnyIn_of_pre_nd (Q := Q) (L := (List.replicate c true ++ List.replicate m false).toArray) (m := m) (noDefer_all hnb) G (fun listed h1 h2 h3 => ?_) (fun a w hw hk => hk w hw) _ _ a { w with drawn := w.drawn + 1 } hC ?_ hp
  · rw [hlen] at this
    simpa [← hlm] using this
  · apply Array.ext
    · simp at h1 ⊢; omega
    · intro i hi hi'
      have e : listed[i] = listed.getD i false := by simp [Array.getD, hi]
      rw [e]
      rcases Nat.lt_or_ge i c with hc | hc
      · rw [h2 i hc]; simp [hc]
      · rw [h3 i hc]; simp [List.getElem_append, Nat.not_lt.2 hc]
  · refine ⟨by simp, fun j _ => ?_, fun i o _ hi => ?_⟩
    · simp [Array.getD]
    · simp [Array.getD] at hi
end
end Go
