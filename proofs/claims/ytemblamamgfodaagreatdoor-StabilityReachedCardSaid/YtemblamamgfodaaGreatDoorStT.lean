/- Contracts of layer 3: slices.Clone. -/
import Derived.Test.YtemblamamgfodaaGreatDoorStH
import Derived.Lib.SliceRun
namespace Go.Proofs.YtemblamamgfodaaGreatDoor
open Go Go.RowKit Go.Shelf
theorem eql_nil (w : World) (a : Option Addr) (n c n' c' : Nat) : (binOp .eql 38 (.slice a n c) (.slice none n' c')).run Tryz.prog w = .ok (.bool a.isNone) w := Lib.run_eql_slice_nil w _ _ a n c n' c' Tryz.underlying38
attribute [local go_sem] eql_nil
set_option maxRecDepth 100000 in
theorem clone_nil (cap : Nat) (w : World) :
    Calls Tryz.prog 86 #[.slice none 0 cap] w fun e w' => e = .returned (.slice none 0 0) ∧ w = w' := by
  go_enter Tryz.func86, Tryz.ntmps86
  go_wp2
  go_ret
  exact ⟨rfl, rfl⟩
theorem empty_own (w : World) : (w.alloc (.cells #[] 3)).ownsRow w.heap.size 3 1 (.slice (some ⟨w.heap.size, 0, none⟩) 0 0) 0 [] :=
  ⟨rfl, .inr ⟨w.heap.size, 0, #[], rfl, Nat.le_refl _, World.alloc_heap_new w _, Nat.le_refl _, Nat.zero_le _, rfl, rfl⟩⟩
set_option maxRecDepth 100000 in
set_option maxHeartbeats 1000000 in
theorem clone_some (l : List Int) (b o cap : Nat) (w : World) (hl : l.length ≤ 1000000) (hi : IntsAt w l b o) :
    Calls Tryz.prog 86 #[.slice (some ⟨b, o, none⟩) l.length cap] w fun e w' => ∃ v, e = .returned v ∧ w'.ownsRow w.heap.size 3 1 v l.length (l.map (Value.int .i64)) ∧ Below w.heap.size w w' := by
  refine (callsIn_wide (n := 9)).1 ?_
  have hro : Fence.wide.round = none := rfl
  obtain ⟨i0, hi0, hz0, hz1, hz2⟩ := info_parts infoInt
  have hml : 0 + l.length ≤ maxLen := by unfold maxLen; omega
  have hE := empty_own w
  have hcell : ∀ j u, (l.map (Value.int .i64))[j]? = some u → (w.alloc (.cells #[] 3)).cell? ((⟨b, o, none⟩ : Addr).add j) = some u := fun j u h => by
    rw [List.getElem?_map] at h
    obtain ⟨x, hx, rfl⟩ := Option.map_eq_some_iff.1 h
    obtain ⟨hj, rfl⟩ := List.getElem?_eq_some_iff.1 hx
    have := cell_below (below_alloc (Below.refl w.heap.size w) (.cells #[] 3)) (hi j hj)
    rw [show (⟨b, o, none⟩ : Addr).add j = ⟨b, o + j, none⟩ by simp only [Addr.add]; split <;> simp_all]
    exact this
  refine callsIn_of_wp Tryz.func86 rfl trivial ?_ hro
  simp only [Tryz.ntmps86, List.size_toArray, List.length_cons, List.length_nil, Nat.reduceAdd, Nat.reduceSub, Array.replicate_succ, Array.replicate_zero, List.push_toArray, List.append_toArray, List.nil_append, List.cons_append]
  gi_wp2_with (gi_at_builtin; refine wpListIn_append_own _ rfl _ _ 38 rfl w.heap.size 3 i0 (.int .i64 0) 1 8 Tryz.underlying38 hi0 hz0 hz1 hz2 rfl (by decide) _ 0 [] rfl hE ⟨b, o, none⟩ l.length cap (l.map (Value.int .i64)) rfl (by simp) hcell (by intro u hu; obtain ⟨x, _, rfl⟩ := List.mem_map.1 hu; rfl) hml (by omega) (by simp) ?_; intro v' w1 hown' hgrow _)
  have hB := (below_alloc (Below.refl w.heap.size w) (.cells #[] 3)).grown hgrow (by simp) (fun k hk => by
    have e : (some w.heap.size : Option Nat) = some k := hk
    cases e
    exact Nat.le_refl _)
  go_ret
  exact ⟨v', rfl, by simpa using hown', hB⟩
end Go.Proofs.YtemblamamgfodaaGreatDoor
