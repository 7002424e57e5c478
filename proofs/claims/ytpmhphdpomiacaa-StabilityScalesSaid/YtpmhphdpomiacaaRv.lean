/- Contracts of layer 3's laws: slices.Reverse of a slice that the call owns. -/
import Derived.Test.YtpmhphdpomiacaaStV
import Derived.Shelf.SlicesG.Reverse
import Derived.Ground.SlgnProg
namespace Go.Proofs
open Go Go.RowKit Go.Shelf Go.Sort
def Try.revL_ren : Go.Shelf.Ren := ⟨fun | 35 => 22 | n => n, fun | 22 => 22 | 23 => 3 | 3 => 3 | 4 => 4 | 0 => 0 | n => n, fun | n => n⟩
theorem Try.revL : Go.Proofs.SlLaysN.n35 Try.prog Try.revL_ren := {
  mixed := by kernel_rfl
  f35 := ⟨Try.f22.name, by decide, Try.func22.trans (congrArg some (by kernel_rfl))⟩
  t0 := Try.underlying0
  a0 := Try.isAgg0
  z0 := Try.sizeOf0
  v0 := Try.zeroValue0
  t3 := Try.underlying3
  a3 := Try.isAgg3
  z3 := Try.sizeOf3
  v3 := Try.zeroValue3
  t4 := Try.underlying4
  a4 := Try.isAgg4
  z4 := Try.sizeOf4
  v4 := Try.zeroValue4
  t22 := Try.underlying22
  a22 := Try.isAgg22
  z22 := Try.sizeOf22
  v22 := Try.zeroValue22
  t23 := Try.underlying3
  a23 := Try.isAgg3
  z23 := Try.sizeOf3
  v23 := Try.zeroValue3 }
end Go.Proofs
namespace Go.Proofs.Ytpmhphdpomiacaa
open Go Go.RowKit Go.Shelf Go.Sort
theorem rev_any (blk off cap : Nat) (zs : List Int) (w : World) (hH : Holds (Value.int .i64) w blk off zs.toArray) (hsz : zs.length ≤ 9223372036854775807) :
    Calls Try.prog 22 #[.slice (some ⟨blk, off, none⟩) zs.length cap] w fun e w' => e = .returned (.tuple #[]) ∧ ∃ n, w' = putRow (Value.int .i64) (Go.Sort.ahead w n) blk off zs.reverse.toArray :=
  AnyG.slices_Reverse_int Try.revL blk off cap zs w hH hsz
theorem rev_empty (a : Option Addr) (cap : Nat) (w : World) : Calls Try.prog 22 #[.slice a 0 cap] w fun e w' => e = .returned (.tuple #[]) ∧ w' = w :=
  AnyG.slices_Reverse_int_empty Try.revL a cap w
/-- a slice that the call owns, turned -/
theorem rev_grow (l : List Int) (v : Value) (base : Nat) (w : World) (h : w.ownsRow base 3 1 v l.length (l.map (Value.int .i64))) (hl : l.length ≤ 1000000) (hb : base ≤ w.heap.size) :
    Calls Try.prog 22 #[v] w fun e w' => e = .returned (.tuple #[]) ∧ w'.ownsRow base 3 1 v l.length (l.reverse.map (Value.int .i64)) ∧ Below base w w' ∧ w.grownBy w' v.ownBlock := by
  rcases h.2 with ⟨rfl, h0⟩ | ⟨g, cap, cur, rfl, hg, hgb, h1, h2, h3, h4⟩
  · refine (rev_empty none 0 w).mono ?_
    rintro e w' ⟨rfl, rfl⟩
    have hl0 : l = [] := List.eq_nil_of_length_eq_zero h0
    subst hl0
    exact ⟨rfl, h, Below.refl _ _, ⟨rfl, rfl, rfl, Nat.le_refl _, fun _ _ _ => rfl⟩⟩
  · have hlt : g < w.heap.size := (Array.getElem?_eq_some_iff.1 hgb).1
    refine (rev_any g 0 cap l w (holds_of_blockI hgb (by rw [Nat.mul_one] at h4; exact h4)) (by omega)).mono ?_
    rintro e w' ⟨rfl, n, rfl⟩
    have hr := ownsRow_sortedI (n := n) (os := #[]) (ss := l) (ts := l.reverse) (List.length_reverse) hg hgb h1 h2 h3
    have hgr := grownBy_sortedI (w := w) (g := g) (n := n) (os := #[]) l.reverse.toArray
    rw [grow_empty] at hr hgr
    exact ⟨rfl, hr, (Below.refl base w).grown hgr hb (fun k e => by cases e; exact hg), hgr⟩
theorem rev_own (l : List Int) (v : Value) (base : Nat) (w : World) (h : w.ownsRow base 3 1 v l.length (l.map (Value.int .i64))) (hl : l.length ≤ 1000000) (hb : base ≤ w.heap.size) :
    Calls Try.prog 22 #[v] w fun e w' => e = .returned (.tuple #[]) ∧ w'.ownsRow base 3 1 v l.length (l.reverse.map (Value.int .i64)) ∧ Below base w w' :=
  (rev_grow l v base w h hl hb).mono fun _ _ ⟨h1, h2, h3, _⟩ => ⟨h1, h2, h3⟩
end Go.Proofs.Ytpmhphdpomiacaa
