/- Layer 9 (calendar): FromLocal where all is right. -/
import Derived.Test.YtklhepgpepfgjaaDoorQ43
import Derived.Test.YtklhepgpepfgjaaDoorQ14
import Derived.Test.YtklhepgpepfgjaaDoorQ09
import Derived.Test.YtklhepgpepfgjaaDoorQ10
import Derived.Maps.AppendAt
namespace Go.Proofs.YtklhepgpepfgjaaDoor.Cal
open Go Go.RowKit Go.Shelf
attribute [local go_sem] Oper.semAt_some
def takeZ (f : Nat → Int × Int) (n : Nat) (lm ls o : Int) (q : Nat) (g : Nat → Int × Int) (d : Kx q) : List Int := if inB2 q g d.1 (candX f n lm ls o g d.1) = true then [candX f n lm ls o g d.1] else []
def fz (f : Nat → Int × Int) (n : Nat) (lm ls o : Int) (q : Nat) (g : Nat → Int × Int) (l : List (Kx q)) : List Int := l.flatMap (takeZ f n lm ls o q g)
theorem fz_snoc (f : Nat → Int × Int) (n : Nat) (lm ls o : Int) (q : Nat) (g : Nat → Int × Int) (l : List (Kx q)) (d : Kx q) : fz f n lm ls o q g (l ++ [d]) = fz f n lm ls o q g l ++ takeZ f n lm ls o q g d := by simp [fz]
theorem fz_len (f : Nat → Int × Int) (n : Nat) (lm ls o : Int) (q : Nat) (g : Nat → Int × Int) : ∀ l, (fz f n lm ls o q g l).length ≤ l.length
  | [] => Nat.le_refl _
  | d :: l => by
    have := fz_len f n lm ls o q g l
    unfold fz at this ⊢
    rw [List.flatMap_cons, List.length_append, List.length_cons]
    have h1 : (takeZ f n lm ls o q g d).length ≤ 1 := by unfold takeZ; split <;> simp
    omega
theorem fz_all (u : Int) (f : Nat → Int × Int) (n : Nat) (lm ls o : Int) (q : Nat) (g : Nat → Int × Int) : ∀ k h, fz f n lm ls o q g ((kxL q k h).filter fun d => candB u f n lm ls o g d.1) = zfound u f n lm ls o q g k
  | 0, _ => rfl
  | k + 1, h => by
    have ih := fz_all u f n lm ls o q g k (Nat.le_of_succ_le h)
    rw [kxL, List.filter_append, zfound, ← ih]
    cases hc : candB u f n lm ls o g k
    · have e : ∀ d : Kx q, candB u f n lm ls o g d.1 = false → ([d].filter fun d => candB u f n lm ls o g d.1) = [] := fun d h => by simp [h]
      rw [e (kx q k (Nat.le_of_succ_le_succ h)) hc, List.append_nil, if_neg (by decide), List.append_nil]
    · have e : ∀ d : Kx q, candB u f n lm ls o g d.1 = true → ([d].filter fun d => candB u f n lm ls o g d.1) = [d] := fun d h => by simp [h]
      rw [e (kx q k (Nat.le_of_succ_le_succ h)) hc, fz_snoc, if_pos rfl]
      rfl
/-- the iterator is made -/
theorem candidates_any (b u : Int) (n c : Nat) (p : Option Addr) (mb : Nat) (o : Int) (q cz : Nat) (pz : Option Addr) (lm ls : Int) (w : World) :
    Calls Tryd.prog 47 #[.agg #[.int .i64 b, .slice p n c, .int .i64 u, .map (some mb)], .agg #[.int .i64 o, .slice pz q cz], .agg #[.int .i64 lm, .int .i64 ls]] w fun e w' =>
      e = .returned (.func (.func 79) #[] #[.pointer (some ⟨w.heap.size + 1, 0, none⟩), .pointer (some ⟨w.heap.size + 1 + 1, 0, none⟩), .pointer (some ⟨w.heap.size, 0, none⟩)]) ∧
      ((w.alloc (.cells #[.int .i64 b, .slice p n c, .int .i64 u, .map (some mb)] 95)).alloc (.cells #[.int .i64 o, .slice pz q cz] 27)).alloc (.cells #[.int .i64 lm, .int .i64 ls] 88) = w' := by
  go_enter Tryd.func47, Tryd.ntmps47
  go_wp2_with fail
  go_ret
  exact ⟨by simp, rfl⟩
theorem cand1_ad (m N B Bw Bz Bm : Nat) (b u : Int) (n c : Nat) (p : Option Addr) (mb : Nat) (f : Nat → Int × Int) (lm ls o : Int) (q cz : Nat) (pz : Option Addr) (g : Nat → Int × Int) (ht : TabOk b u n f) (hz : ZoneOk o q g) (hgt : ∀ i, i < q → (g i).1 ≤ 9223372036854775807)
    (hc : n ≤ c) (hcm : c ≤ maxLen) (hlm : -2000000000 ≤ lm ∧ lm ≤ 2000000000) (hls : 0 ≤ ls ∧ ls ≤ 1000000) (h1 : mb < N) (h2 : mb ≠ B) (hp : LowIn N B n p) (hpz : LowIn N B q pz) (hm : 5 ≤ m) (w : World) (hN : N ≤ w.heap.size) (hD : CAt w Bw Bz Bm b u n c p mb f lm ls o q cz pz g) :
    SeqAd m Tryd.prog 79 #[.pointer (some ⟨Bz, 0, none⟩), .pointer (some ⟨Bm, 0, none⟩), .pointer (some ⟨Bw, 0, none⟩)] (encC f n lm ls o q g) (fun l X Y => KpN N B X Y ∧ KeepsFrom (l + 1) X Y)
      ((kxL q (q + 1) (Nat.le_refl _)).filter fun d => candB u f n lm ls o g d.1) (q + 1) w := by
  intro l J W hW hl hJ hY hJ0
  exact cand1_in m l N B Bw Bz Bm b u n c p mb f lm ls o q cz pz g ht hz hgt hc hcm hlm hls h1 h2 hp hpz hm J W (Nat.le_trans hN hW.size) hl hY hJ (hD.below hW) hJ0
theorem own_base {X : World} {A M : Nat} {e : TypeId} {s k : Nat} {v : Value} {xs : List Value} (h : X.ownsRow A e s v k xs) (hM : M ≤ A) : X.ownsRow M e s v k xs :=
  ⟨h.1, h.2.imp id (fun ⟨g, cap, cur, e, hb, r⟩ => ⟨g, cap, cur, e, Nat.le_trans hM hb, r⟩)⟩
/-- what is found is put behind what was found -/
theorem kp_append {N B : Nat} {X w1 : World} {v v' : Value} {k : Nat} {xs : List Value} {tmp : Obj} (hv : Boxed X B 44 v) (hrow : X.ownsRow N 3 1 v k xs) (hgrow : (X.alloc tmp).grownBy w1 v.ownBlock) : KpN N B X (w1.setCell ⟨B, 0, none⟩ v') := by
  have hA := below_alloc (Below.refl X.heap.size X) tmp
  have hne : ∀ j, some j = v.ownBlock → N ≤ j ∧ ∃ cur, X.heap[j]? = some (.cells cur 3) := fun j ej => by
    rcases hrow.2 with ⟨rfl, _⟩ | ⟨g, cap, cur, rfl, hb, hg, _⟩
    · simp [Value.ownBlock] at ej
    · obtain rfl : j = g := by simpa [Value.ownBlock] using ej
      exact ⟨hb, _, hg⟩
  have hs1 := hgrow.size
  have hs2 := hA.size
  refine ⟨by simp; omega, fun j ob h1 h2 h3 => ?_, fun j a t h1 h2 h3 => ?_⟩
  · have hlt := (Array.getElem?_eq_some_iff.1 h3).1
    rw [Below.heap_setCell _ _ _ _ (fun e => h2 e), hgrow.block j (by omega) (fun e => by have := (hne j e).1; omega), hA.block j hlt]
    exact h3
  · have hlt := (Array.getElem?_eq_some_iff.1 h3).1
    rw [Below.heap_setCell _ _ _ _ (fun e => ?_), hgrow.block j (by omega) (fun e => ?_), hA.block j hlt]
    · exact h3
    · obtain ⟨cur, hcur⟩ := (hne j e).2
      rw [h3] at hcur; cases hcur; exact h1 rfl
    · have e' : j = B := e
      rw [e', show X.heap[B]? = _ from hv] at h3
      cases h3; exact h2 rfl
end Go.Proofs.YtklhepgpepfgjaaDoor.Cal
