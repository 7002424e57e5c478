/- Plain facts: a list sorted by exchanges; what Median answers. · Contracts of the reference of layer 3: Median. -/
import Derived.Test.YthkndjkgokojmaaPd
import Derived.Test.YthkndjkgokojmaaQc
import Derived.Test.YthkndjkgokojmaaStY
import Derived.Test.YthkndjkgokojmaaRp
import Derived.Test.YthkndjkgokojmaaRa
import Derived.Test.YthkndjkgokojmaaSu
import Derived.BigQuiet
namespace Go.Proofs.Ythkndjkgokojmaa
section
open Go Go.RowKit
/-- two places exchanged -/
def swapL (S : List Int) (i k : Nat) : List Int := (S.set i (atL S k)).set k (atL S i)
theorem swap_len (S : List Int) (i k : Nat) : (swapL S i k).length = S.length := by simp [swapL]
theorem swap_perm (S : List Int) (i k : Nat) (hi : i < S.length) (hk : k < S.length) : (swapL S i k).Perm S := by
  have h := @List.set_set_perm _ S i k hi hk
  rw [atL_get S k hk, atL_get S i hi] at h
  exact h
theorem swap_at (S : List Int) (i k j : Nat) (hi : i < S.length) (hk : k < S.length) : atL (swapL S i k) j = if j = k then atL S i else if j = i then atL S k else atL S j := by
  unfold swapL
  unfold atL
  rw [List.getElem?_set]
  by_cases h1 : k = j
  · subst h1
    rw [if_pos rfl, if_pos (by simpa using hk), if_pos rfl]; rfl
  · rw [if_neg h1, if_neg (fun e => h1 e.symm), List.getElem?_set]
    by_cases h2 : i = j
    · subst h2
      rw [if_pos rfl, if_pos hi, if_pos rfl]; rfl
    · rw [if_neg h2, if_neg (fun e => h2 e.symm)]
/-- the first i places hold the least numbers, in order -/
structure SortTo (l S : List Int) (i : Nat) : Prop where
  perm : S.Perm l
  le : ∀ a b, a < i → a < b → b < l.length → atL S a ≤ atL S b
def LeastTo (S : List Int) (i k : Nat) : Prop := ∀ b, i < b → b < k → atL S i ≤ atL S b
theorem SortTo.len {l S : List Int} {i : Nat} (h : SortTo l S i) : S.length = l.length := h.perm.length_eq
theorem SortTo.start (l : List Int) : SortTo l l 0 := ⟨List.Perm.refl _, fun a _ h => absurd h (Nat.not_lt_zero a)⟩
theorem SortTo.swap {l S : List Int} {i k : Nat} (h : SortTo l S i) (hm : LeastTo S i k) (hik : i < k) (hk : k < l.length) (hlt : atL S k < atL S i) : SortTo l (swapL S i k) i ∧ LeastTo (swapL S i k) i (k + 1) := by
  have hl := h.len
  have hat := fun j => swap_at S i k j (by omega) (by omega)
  refine ⟨⟨(swap_perm S i k (by omega) (by omega)).trans h.perm, fun a b ha hab hb => ?_⟩, fun b hib hbk => ?_⟩
  · rw [hat, hat, if_neg (by omega), if_neg (by omega)]
    by_cases h1 : b = k
    · rw [if_pos h1]; exact h.le a i ha ha (by omega)
    · rw [if_neg h1]
      by_cases h2 : b = i
      · rw [if_pos h2]; exact h.le a k ha (by omega) hk
      · rw [if_neg h2]; exact h.le a b ha hab hb
  · rw [hat, hat, if_neg (by omega), if_pos rfl]
    by_cases h1 : b = k
    · rw [if_pos h1]; omega
    · rw [if_neg h1, if_neg (by omega)]
      have := hm b hib (by omega)
      omega
theorem LeastTo.keep {S : List Int} {i k : Nat} (hm : LeastTo S i k) (hge : atL S i ≤ atL S k) : LeastTo S i (k + 1) := fun b h1 h2 => by
  by_cases e : b = k
  · subst e; exact hge
  · exact hm b h1 (by omega)
theorem SortTo.next {l S : List Int} {i : Nat} (h : SortTo l S i) (hm : LeastTo S i l.length) : SortTo l S (i + 1) :=
  ⟨h.perm, fun a b ha hab hb => by
    by_cases e : a = i
    · subst e; exact hm b hab hb
    · exact h.le a b (by omega) hab hb⟩
theorem SortTo.done {l S : List Int} (h : SortTo l S l.length) : S = sortL l := by
  have h1 : S.Pairwise (· ≤ ·) := by
    rw [List.pairwise_iff_getElem]
    intro i j hi hj hij
    rw [atL_get, atL_get]
    exact h.le i j (by have := h.len; omega) hij (by have := h.len; omega)
  exact (h.perm.trans (List.mergeSort_perm l _).symm).eq_of_pairwise (fun a b _ _ h1 h2 => Int.le_antisymm h1 h2) h1 (sortL_pair l)
/-- what Median answers -/
structure MedE where
  (lo hi n d e : Int)
def medE (l : List Int) (N D : Int) : MedE :=
  if (2 ≤ l.length ∧ l.length ≤ 40) ∧ partB N D = true then
    (if medFind l.length N D (l.length / 2) = 0 then ⟨0, 0, 0, 0, 4⟩ else
      ⟨atL (sortL l) (medFind l.length N D (l.length / 2) - 1), atL (sortL l) (l.length - medFind l.length N D (l.length / 2)), mN l.length (medFind l.length N D (l.length / 2)), mD l.length (medFind l.length N D (l.length / 2)), 0⟩)
  else ⟨0, 0, 0, 0, 1⟩
def medVal (v : MedE) : Value := .tuple #[.agg #[.int .i64 v.lo, .int .i64 v.hi, .int .i64 v.n, .int .i64 v.d], .int .i64 v.e]
theorem omedian_any (l : List Int) (p : Option Addr) (cap : Nat) (N D : Int) (w : World) (hs : SliceIn p l.length (IntsAt w l)) (hN : I64 N) (hD : I64 D) :
    Calls Try.prog 18 #[.slice p l.length cap, .agg #[.int .i64 N, .int .i64 D]] w fun e w' => e = .returned (medVal (medE l N D)) ∧ Below w.heap.size w w' := by
  unfold medE
  by_cases hl : 2 ≤ l.length ∧ l.length ≤ 40
  · by_cases hp : partB N D = true
    · rw [if_pos ⟨hl, hp⟩]
      obtain ⟨b, o, rfl, hi⟩ := hs.resolve_left (by omega)
      refine (median_ok l b o cap N D w hl hi hN hD hp).mono fun e w' h => ⟨?_, h.2⟩
      rw [h.1]
      by_cases h0 : medFind l.length N D (l.length / 2) = 0
      · rw [if_pos h0, if_pos h0]; rfl
      · rw [if_neg h0, if_neg h0]; rfl
    · rw [if_neg (fun h => hp h.2)]
      exact median_part p l.length cap N D w hl hN hD (by simpa using hp)
  · rw [if_neg (fun h => hl h.1)]
    exact median_size p l.length cap N D w hl
/-- the greatest of the first q that serve -/
theorem medFind_succ (n : Nat) (N D : Int) (q : Nat) : medFind n N D (q + 1) = if N * mD n (q + 1) ≤ mN n (q + 1) * D then q + 1 else medFind n N D q := rfl
theorem medFind_le (n : Nat) (N D : Int) : ∀ q, medFind n N D q ≤ q
  | 0 => Nat.le_refl _
  | q + 1 => by
    rw [medFind_succ]
    have := medFind_le n N D q
    split <;> omega
end
section
open Go Go.RowKit Go.Shelf
theorem Four.far {X : World} {b b' o : Nat} {v : Value} (h : Four X b) (hne : b' ≠ b) : Four (X.setCell ⟨b', o, none⟩ v) b :=
  ⟨by rw [World.cell?_setCell_far _ _ _ _ hne]; exact h.c0, by rw [World.cell?_setCell_far _ _ _ _ hne]; exact h.c1, by rw [World.cell?_setCell_far _ _ _ _ hne]; exact h.c2, by rw [World.cell?_setCell_far _ _ _ _ hne]; exact h.c3,
    by rw [World.frozen?_setCell]; exact h.f0, by rw [World.frozen?_setCell]; exact h.f1, by rw [World.frozen?_setCell]; exact h.f2, by rw [World.frozen?_setCell]; exact h.f3⟩
/-- what lies about the loops of Median -/
structure MsAt (w W : World) (N D : Int) (g : Nat) (S : List Int) : Prop where
  n0 : W.cell? ⟨w.heap.size, 0, none⟩ = some (.int .i64 N)
  d0 : W.cell? ⟨w.heap.size, 1, none⟩ = some (.int .i64 D)
  four : Four W (w.heap.size + 1)
  ints : IntBox W g S
  bel : Below w.heap.size w W
  gt : w.heap.size + 1 < g
variable {w W Y : World} {N D : Int} {g h : Nat} {S l : List Int}
theorem MsAt.below (H : MsAt w W N D g S) (hb : Below W.heap.size W Y) : MsAt w Y N D g S :=
  ⟨cell_below hb H.n0, cell_below hb H.d0, H.four.below hb, H.ints.below hb, H.bel.trans (hb.mono H.bel.size), H.gt⟩
theorem MsAt.put (H : MsAt w W N D g S) (j : Nat) (hj : j < S.length) (x : Int) : MsAt w (W.setCell ⟨g, j, none⟩ (.int .i64 x)) N D g (S.set j x) := by
  have h1 := H.gt
  have h2 : g ≠ w.heap.size := by omega
  exact ⟨by rw [World.cell?_setCell_far _ _ _ _ h2]; exact H.n0, by rw [World.cell?_setCell_far _ _ _ _ h2]; exact H.d0, H.four.far (by omega), H.ints.set j x hj, H.bel.setCell (by show w.heap.size ≤ g; omega) _, H.gt⟩
theorem MsAt.far (H : MsAt w W N D g S) {o : Nat} {v : Value} (h1 : w.heap.size + 1 < h) (h2 : h ≠ g) : MsAt w (W.setCell ⟨h, o, none⟩ v) N D g S :=
  have h3 : h ≠ w.heap.size := by omega
  ⟨by rw [World.cell?_setCell_far _ _ _ _ h3]; exact H.n0, by rw [World.cell?_setCell_far _ _ _ _ h3]; exact H.d0, H.four.far (by omega), H.ints.far h2, H.bel.setCell (by show w.heap.size ≤ h; omega) _, H.gt⟩
theorem MsAt.reads (H : MsAt w W N D g S) {i : Nat} (hi : i < S.length) : W.cell? ⟨g, i, none⟩ = some (.int .i64 (atL S i)) ∧ W.frozen? ⟨g, i, none⟩ = false := by
  have := H.ints i hi
  rwa [atL_get] at this
theorem MsAt.swap (H : MsAt w W N D g S) {i k : Nat} (hi : i < S.length) (hk : k < S.length) : MsAt w ((W.setCell ⟨g, i, none⟩ (.int .i64 (atL S k))).setCell ⟨g, k, none⟩ (.int .i64 (atL S i))) N D g (swapL S i k) :=
  (H.put i hi _).put k (by simpa using hk) _
/-- the cover with a number, 0 for none -/
def bestOf (S : List Int) (n R : Nat) : MedE := if R = 0 then ⟨0, 0, 0, 0, 4⟩ else ⟨atL S (R - 1), atL S (n - R), mN n R, mD n R, 0⟩
theorem medE_best {l : List Int} {N D : Int} (hl : 2 ≤ l.length ∧ l.length ≤ 40) (hp : partB N D = true) : medE l N D = bestOf (sortL l) l.length (medFind l.length N D (l.length / 2)) := by
  unfold medE bestOf
  rw [if_pos ⟨hl, hp⟩]
structure BestAt (w W : World) (N D : Int) (g h : Nat) (S : List Int) (v : MedE) : Prop where
  m : MsAt w W N D g S
  q : QBox W h v.lo v.hi v.n v.d
  h1 : w.heap.size + 1 < h
  h2 : h ≠ g
theorem BestAt.below {v : MedE} (H : BestAt w W N D g h S v) (hb : Below W.heap.size W Y) : BestAt w Y N D g h S v := ⟨H.m.below hb, H.q.below hb, H.h1, H.h2⟩
theorem BestAt.store {v : MedE} (H : BestAt w W N D g h S v) (v' : MedE) : BestAt w (store4 W h v'.lo v'.hi v'.n v'.d) N D g h S v' :=
  ⟨(((H.m.far H.h1 H.h2).far H.h1 H.h2).far H.h1 H.h2).far H.h1 H.h2, H.q.store _ _ _ _, H.h1, H.h2⟩
set_option maxRecDepth 100000 in
set_option maxHeartbeats 4000000 in
theorem rmedian_size (p : Option Addr) (n cap : Nat) (N D : Int) (w : World) (hn : ¬ (2 ≤ n ∧ n ≤ 40)) :
    Calls Try.prog 19 #[.slice p n cap, .agg #[.int .i64 N, .int .i64 D]] w fun e w' => e = .returned medNo ∧ Below w.heap.size w w' := by
  have a0 := below_alloc (below_alloc (Below.refl w.heap.size w) (.cells #[.int .i64 N, .int .i64 D] 24)) (.cells #[.int .i64 0, .int .i64 0, .int .i64 0, .int .i64 0] 54)
  have A0 := Lib.hid a0
  have HW := Lib.hid (fun W => rin_no (n : Int) 2 40 W (by omega))
  clear a0 hn
  go_enter Try.func19, Try.ntmps19
  go_wp2_with (go_at_call 58; refine (HW.out _).mono ?_; rintro e w1 ⟨rfl, rfl⟩)
  exact bodyPost_ret (v := medNo) (by simp [results, Try.results19, go_sem, medNo]) rfl ⟨rfl, A0.out⟩
theorem part_cases {N D : Int} (h : partB N D = false) : ¬ (1 ≤ D ∧ D ≤ 1000000) ∨ ((1 ≤ D ∧ D ≤ 1000000) ∧ ¬ (0 ≤ N ∧ N ≤ D)) ∨ ((1 ≤ D ∧ D ≤ 1000000) ∧ (0 ≤ N ∧ N ≤ D) ∧ gcdS N D ≠ 1) := by
  by_cases h1 : 1 ≤ D ∧ D ≤ 1000000
  · by_cases h2 : 0 ≤ N ∧ N ≤ D
    · refine .inr (.inr ⟨h1, h2, fun hg => ?_⟩)
      simp [partB, lowB, h1, h2, hg] at h
    · exact .inr (.inl ⟨h1, h2⟩)
  · exact .inl h1
theorem part_yes {N D : Int} (h : partB N D = true) : (1 ≤ D ∧ D ≤ 1000000) ∧ (0 ≤ N ∧ N ≤ D) ∧ gcdS N D = 1 := by
  simp only [partB, lowB, Bool.and_eq_true, decide_eq_true_eq] at h
  exact ⟨⟨h.1.1.1, h.1.2⟩, h.2, h.1.1.2⟩
set_option maxRecDepth 100000 in
set_option maxHeartbeats 4000000 in
theorem rmedian_part (p : Option Addr) (n cap : Nat) (N D : Int) (w : World) (hn : 2 ≤ n ∧ n ≤ 40) (hp : partB N D = false) :
    Calls Try.prog 19 #[.slice p n cap, .agg #[.int .i64 N, .int .i64 D]] w fun e w' => e = .returned medNo ∧ Below w.heap.size w w' := by
  have a0 := below_alloc (below_alloc (Below.refl w.heap.size w) (.cells #[.int .i64 N, .int .i64 D] 24)) (.cells #[.int .i64 0, .int .i64 0, .int .i64 0, .int .i64 0] 54)
  have A0 := Lib.hid a0
  have HW1 := Lib.hid (fun W => rin_yes (n : Int) 2 40 W (by omega))
  clear a0
  rcases part_cases hp with h1 | ⟨h1, h2⟩ | ⟨h1, h2, h3⟩
  · have HW2 := Lib.hid (fun W => rin_no D 1 1000000 W h1)
    clear hp h1
    go_enter Try.func19, Try.ntmps19
    go_wp2_with (first | (go_at_call 58; refine (HW1.out _).mono ?_; clear HW1; rintro e w1 ⟨rfl, rfl⟩) | (go_at_call 58; refine (HW2.out _).mono ?_; clear HW2; rintro e w1 ⟨rfl, rfl⟩))
    exact bodyPost_ret (v := medNo) (by simp [results, Try.results19, go_sem, medNo]) rfl ⟨rfl, A0.out⟩
  · have HW2 := Lib.hid (fun W => rin_yes D 1 1000000 W h1)
    have HW3 := Lib.hid (fun W => rin_no N 0 D W h2)
    clear hp h1 h2
    go_enter Try.func19, Try.ntmps19
    go_wp2_with (first | (go_at_call 58; refine (HW1.out _).mono ?_; clear HW1; rintro e w1 ⟨rfl, rfl⟩) | (go_at_call 58; refine (HW2.out _).mono ?_; clear HW2; rintro e w1 ⟨rfl, rfl⟩) | (go_at_call 58; refine (HW3.out _).mono ?_; clear HW3; rintro e w1 ⟨rfl, rfl⟩))
    exact bodyPost_ret (v := medNo) (by simp [results, Try.results19, go_sem, medNo]) rfl ⟨rfl, A0.out⟩
  · have HW2 := Lib.hid (fun W => rin_yes D 1 1000000 W h1)
    have HW3 := Lib.hid (fun W => rin_yes N 0 D W h2)
    have HG := Lib.hid (fun W => rgcd_any N D W (by omega) (by omega))
    have hne : (gcdS N D != 1) = true := by simpa using h3
    generalize gcdS N D = gv at *
    clear hp h1 h2 h3
    go_enter Try.func19, Try.ntmps19
    go_wp2_with (first | (go_at_call 58; refine (HW1.out _).mono ?_; clear HW1; rintro e w1 ⟨rfl, rfl⟩) | (go_at_call 58; refine (HW2.out _).mono ?_; clear HW2; rintro e w1 ⟨rfl, rfl⟩) | (go_at_call 58; refine (HW3.out _).mono ?_; clear HW3; rintro e w1 ⟨rfl, rfl⟩) | (go_at_call 63; refine (HG.out _).mono ?_; rintro e w1 ⟨rfl, rfl⟩))
    exact bodyPost_ret (v := medNo) (by simp [results, Try.results19, go_sem, medNo]) rfl ⟨rfl, A0.out⟩
theorem MsAt.start {w X : World} {B cap : Nat} {p : Option Addr} {l : List Int} (h1 : 1 ≤ l.length) (hown : OwnI B X (.slice p l.length cap) l) (hB : w.heap.size + 2 ≤ B) (n0 : X.cell? ⟨w.heap.size, 0, none⟩ = some (.int .i64 N)) (d0 : X.cell? ⟨w.heap.size, 1, none⟩ = some (.int .i64 D))
    (hf : Four X (w.heap.size + 1)) (hb : Below w.heap.size w X) : ∃ g, p = some ⟨g, 0, none⟩ ∧ MsAt w X N D g l := by
  obtain ⟨g, hg, hi, hp⟩ := hown.box
  exact ⟨g, (hp h1).1, n0, d0, hf, hi, hb, by omega⟩
set_option maxRecDepth 100000 in
set_option maxHeartbeats 8000000 in
theorem rmedian_ok (l : List Int) (b o cap : Nat) (N D : Int) (w : World) (hl : 2 ≤ l.length ∧ l.length ≤ 40) (hi : IntsAt w l b o) (hp : partB N D = true) :
    Calls Try.prog 19 #[.slice (some ⟨b, o, none⟩) l.length cap, .agg #[.int .i64 N, .int .i64 D]] w fun e w' => e = .returned (medVal (medE l N D)) ∧ Below w.heap.size w w' := by
  obtain ⟨i0, hi0, hz0, hz1, hz2⟩ := info_parts infoInt
  rw [medE_best hl hp]
  obtain ⟨V, hV⟩ : ∃ V, V = bestOf (sortL l) l.length (medFind l.length N D (l.length / 2)) := ⟨_, rfl⟩
  rw [← hV]
  have HV := Lib.hid hV
  clear hV
  obtain ⟨hD, hN, hG⟩ := part_yes hp
  have HW1 := Lib.hid (fun W => rin_yes (l.length : Int) 2 40 W (by omega))
  have HW2 := Lib.hid (fun W => rin_yes D 1 1000000 W hD)
  have HW3 := Lib.hid (fun W => rin_yes N 0 D W hN)
  have HG := Lib.hid (fun W => rgcd_any N D W (by omega) (by omega))
  rw [hG] at HG
  have a0 := below_alloc (below_alloc (Below.refl w.heap.size w) (.cells #[.int .i64 N, .int .i64 D] 24)) (.cells #[.int .i64 0, .int .i64 0, .int .i64 0, .int .i64 0] 54)
  have a1 := below_alloc a0 (.cells #[] 3)
  have HA1 := Lib.hid (ints_cells (hi.below a1))
  have HPO := Lib.hid (show ∀ u ∈ l.map (Value.int .i64), u.oneCell' = true from by intro u hu; obtain ⟨x, _, rfl⟩ := List.mem_map.1 hu; rfl)
  have HEO := Lib.hid (show (((w.alloc (.cells #[.int .i64 N, .int .i64 D] 24)).alloc (.cells #[.int .i64 0, .int .i64 0, .int .i64 0, .int .i64 0] 54)).alloc (.cells #[] 3)).ownsRow (w.heap.size + 1 + 1) 3 1 (.slice (some ⟨w.heap.size + 1 + 1, 0, none⟩) 0 0) 0 [] from by
    have h := empty_own ((w.alloc (.cells #[.int .i64 N, .int .i64 D] 24)).alloc (.cells #[.int .i64 0, .int .i64 0, .int .i64 0, .int .i64 0] 54))
    simpa using h)
  have hsz : ((w.alloc (.cells #[.int .i64 N, .int .i64 D] 24)).alloc (.cells #[.int .i64 0, .int .i64 0, .int .i64 0, .int .i64 0] 54)).heap.size = w.heap.size + 1 + 1 := by simp
  have HSZ := Lib.hid hsz
  have HF0 := Lib.hid (show Four ((w.alloc (.cells #[.int .i64 N, .int .i64 D] 24)).alloc (.cells #[.int .i64 0, .int .i64 0, .int .i64 0, .int .i64 0] 54)) (w.heap.size + 1) from ⟨by simp, by simp, by simp, by simp, by simp, by simp, by simp, by simp⟩)
  have HN0 := Lib.hid (show ((w.alloc (.cells #[.int .i64 N, .int .i64 D] 24)).alloc (.cells #[.int .i64 0, .int .i64 0, .int .i64 0, .int .i64 0] 54)).cell? ⟨w.heap.size, 0, none⟩ = some (.int .i64 N) from by simp)
  have HD0 := Lib.hid (show ((w.alloc (.cells #[.int .i64 N, .int .i64 D] 24)).alloc (.cells #[.int .i64 0, .int .i64 0, .int .i64 0, .int .i64 0] 54)).cell? ⟨w.heap.size, 1, none⟩ = some (.int .i64 D) from by simp)
  have A0 := Lib.hid a0
  have hq : IntKind.i64.wrap ((l.length : Int).tdiv 2) = ((l.length / 2 : Nat) : Int) := by rw [IntWalk.i64_quo _ _ (by omega)]; omega
  clear a0 a1 hi hsz hG hp hq
  go_enter Try.func19, Try.ntmps19
  go_wp2_with (first | (go_at_call 58; refine (HW1.out _).mono ?_; clear HW1; rintro e w1 ⟨rfl, rfl⟩) | (go_at_call 58; refine (HW2.out _).mono ?_; clear HW2; rintro e w1 ⟨rfl, rfl⟩) | (go_at_call 58; refine (HW3.out _).mono ?_; clear HW3; rintro e w1 ⟨rfl, rfl⟩) | (go_at_call 63; refine (HG.out _).mono ?_; rintro e w1 ⟨rfl, rfl⟩) | (at_builtin; refine wpList_append_own_at _ rfl (.tmp 41) (.tmp 42) _ rfl (w.heap.size + 1 + 1) 3 i0 (.int .i64 0) 1 8 Try.underlying22 hi0 hz0 hz1 hz2 rfl (by decide) _ 0 [] rfl HEO.out ⟨b, o, none⟩ l.length cap (l.map (Value.int .i64)) rfl (by simp) HA1.out HPO.out (by unfold maxLen; omega) (by omega) (by rw [← HSZ.out]; simp) ?_; intro v1 x1 hown1 hg1 _ _))
  have hb1 : Below (w.heap.size + 1 + 1) (((w.alloc (.cells #[.int .i64 N, .int .i64 D] 24)).alloc (.cells #[.int .i64 0, .int .i64 0, .int .i64 0, .int .i64 0] 54)).alloc (.cells #[] 3)) x1 := (Below.refl _ _).grown hg1 (by rw [← HSZ.out]; simp) (own_base_le HEO.out)
  have HOW : Hid (OwnI (w.heap.size + 1 + 1) x1 v1 l) := Lib.hid (by
    have h : x1.ownsRow (w.heap.size + 1 + 1) 3 1 v1 l.length (ints l) := by simpa [ints] using hown1
    exact h)
  have hb2 := (below_alloc (Below.refl ((w.alloc (.cells #[.int .i64 N, .int .i64 D] 24)).alloc (.cells #[.int .i64 0, .int .i64 0, .int .i64 0, .int .i64 0] 54)).heap.size _) (.cells #[] 3)).trans (by rw [HSZ.out]; exact hb1)
  obtain ⟨p1, cap1, rfl, -⟩ := HOW.out.ser
  obtain ⟨g, rfl, hm⟩ := MsAt.start (w := w) (by omega) HOW.out (Nat.le_refl _) (cell_below hb2 HN0.out) (cell_below hb2 HD0.out) (HF0.out.below hb2) (A0.out.trans (hb2.mono A0.out.size))
  have HM := Lib.hid hm
  clear hb1 hb2 hown1 hg1 hm HOW HEO HF0 HN0 HD0 A0 HA1 HPO HSZ
  generalize x1 = X1 at *
  go_loopw [7] (fun i wr => ∃ (q : Nat) (S : List Int), q ≤ l.length ∧ i = .int .i64 (q : Int) ∧ Hid (SortTo l S q) ∧ Hid (MsAt w wr N D g S)) (fun i _ => l.length - (intOf i).toNat)
  case atStart => exact ⟨0, l, Nat.zero_le _, rfl, Lib.hid (SortTo.start l), HM⟩
  case round =>
    obtain ⟨q, S, hq, rfl, HS, HE⟩ := hrel
    by_cases hlt : q < l.length
    · have hqi : (q : Int) < (l.length : Int) := by omega
      have v0 : IntKind.i64.wrap ((q : Int) + 1) = ((q + 1 : Nat) : Int) := by rw [IntWalk.i64_in _ (by omega)]; simp
      go_wp2
      clear v0
      go_loopw [8] (fun k wx => ∃ (t : Nat) (S' : List Int), (q + 1 ≤ t ∧ t ≤ l.length) ∧ k = .int .i64 (t : Int) ∧ Hid (SortTo l S' q ∧ LeastTo S' q t) ∧ Hid (MsAt w wx N D g S')) (fun k _ => l.length - (intOf k).toNat)
      case atStart => exact ⟨q + 1, S, ⟨Nat.le_refl _, hlt⟩, by simp, Lib.hid ⟨HS.out, fun b h1 h2 => absurd h2 (by omega)⟩, HE⟩
      case round =>
        obtain ⟨t, S', ⟨ht1, ht2⟩, rfl, HS', HE'⟩ := hrel
        by_cases htl : t < l.length
        · have hti : (t : Int) < (l.length : Int) := by omega
          have hSl : S'.length = l.length := HS'.out.1.len
          obtain ⟨xq, fq⟩ := HE'.out.reads (i := q) (by omega)
          obtain ⟨xt, ft⟩ := HE'.out.reads (i := t) (by omega)
          have hz := cell_lt xq
          have v1 : IntKind.i64.wrap ((t : Int) + 1) = (t : Int) + 1 := IntWalk.i64_in _ (by omega)
          by_cases hc : atL S' t < atL S' q
          · have HSW := Lib.hid (fun m => (HE'.out.below (below_drewN (Below.refl _ _) m)).swap (i := q) (k := t) (by omega) (by omega))
            have HSO := Lib.hid (HS'.out.1.swap HS'.out.2 (by omega) htl hc)
            obtain ⟨uq, huq⟩ : ∃ u, u = atL S' q := ⟨_, rfl⟩
            obtain ⟨ut, hut⟩ : ∃ u, u = atL S' t := ⟨_, rfl⟩
            rw [← huq, ← hut] at HSW hc
            rw [← huq] at xq
            rw [← hut] at xt
            clear hSl huq hut
            go_wp2
            go_quiet (fail)
            go_wp2
            go_region
            go_wp2
            go_roundw
            case rel => exact ⟨t + 1, swapL S' q t, ⟨by omega, by omega⟩, by simp, HSO, Lib.hid (HSW.out _)⟩
            case measure => simp [intOf]; omega
          · have HSO := Lib.hid (HS'.out.2.keep (by omega))
            have HSW := Lib.hid (fun m => HE'.out.below (below_drewN (Below.refl _ _) m))
            obtain ⟨uq, huq⟩ : ∃ u, u = atL S' q := ⟨_, rfl⟩
            obtain ⟨ut, hut⟩ : ∃ u, u = atL S' t := ⟨_, rfl⟩
            rw [← huq, ← hut] at hc
            rw [← huq] at xq
            rw [← hut] at xt
            clear hSl huq hut
            go_wp2
            go_quiet (fail)
            go_wp2
            go_roundw
            case rel => exact ⟨t + 1, S', ⟨by omega, by omega⟩, by simp, Lib.hid ⟨HS'.out.1, HSO.out⟩, Lib.hid (HSW.out _)⟩
            case measure => simp [intOf]; omega
        · obtain rfl : t = l.length := by omega
          have HSN := Lib.hid (HS'.out.1.next HS'.out.2)
          have v1 : IntKind.i64.wrap ((q : Int) + 1) = (q : Int) + 1 := IntWalk.i64_in _ (by omega)
          go_wp2
          go_roundw
          case rel => exact ⟨q + 1, S', by omega, by simp, HSN, HE'⟩
          case measure => simp [intOf]; omega
    · obtain rfl : q = l.length := by omega
      have hSS := HS.out.done
      subst hSS
      obtain ⟨n, hn⟩ : ∃ n, n = l.length := ⟨_, rfl⟩
      have HSL := Lib.hid (show (sortL l).length = n by rw [hn]; exact sortL_len l)
      have hVV := HV.out
      rw [← hn] at hl hVV ⊢
      have HNL := Lib.hid hn
      generalize sortL l = S at *
      have HVS := Lib.hid hVV
      have HB0 : Hid (BestAt w (wr.alloc (.cells #[.int .i64 0, .int .i64 0, .int .i64 0, .int .i64 0] 54)) N D g wr.heap.size S (bestOf S n 0)) := Lib.hid
        ⟨HE.out.below (below_alloc (Below.refl _ _) _), QBox.new _ _ _ _ _ _, by have := cell_lt HE.out.four.c0; exact this, by
          have := (HE.out.reads (i := 0) (by rw [HSL.out]; omega)).1
          have := cell_lt this
          omega⟩
      obtain ⟨h2, hh2⟩ : ∃ h2, h2 = n / 2 := ⟨_, rfl⟩
      rw [← hh2] at HVS
      have h22 : 2 * h2 ≤ n ∧ n ≤ 2 * h2 + 1 := by omega
      clear hn hVV HV hh2
      go_wp2
      generalize wr.alloc (.cells #[.int .i64 0, .int .i64 0, .int .i64 0, .int .i64 0] 54) = W3 at *
      generalize wr.heap.size = gh at *
      go_loopw [10, 11] (fun f k wy => ∃ (q R : Nat) (fv : Bool), (1 ≤ q ∧ q ≤ h2 + 1) ∧ k = .int .i64 (q : Int) ∧ f = .bool fv ∧ Hid (fv = decide (R ≠ 0)) ∧ Hid (R = medFind n N D (q - 1)) ∧ Hid (BestAt w wy N D g gh S (bestOf S n R))) (fun _ k _ => n + 2 - (intOf k).toNat)
      case atStart => exact ⟨1, 0, false, ⟨Nat.le_refl _, by omega⟩, rfl, rfl, Lib.hid rfl, Lib.hid rfl, HB0⟩
      case round =>
        obtain ⟨q, R, fv, ⟨hq1, hq2⟩, rfl, rfl, HFV, HR, HB⟩ := hrel
        have v2 : IntKind.i64.wrap (2 * (q : Int)) = 2 * (q : Int) := IntWalk.i64_in _ (by omega)
        by_cases hqh : q ≤ h2
        · have hqi : 2 * (q : Int) ≤ (n : Int) := by omega
          have hbd := m_bd (n := n) (q := q) (by omega) (by omega)
          have hm1 := mul_bd2 (x := mN n q) (y := D) (a := 1099511627776) (b := 1000000) hbd.1 (by omega)
          have hm2 := mul_bd2 (x := N) (y := mD n q) (a := 1000000) (b := 1099511627776) (by omega) (by omega)
          have HC := Lib.hid (show Calls Try.prog 16 #[.int .i64 n, .int .i64 q] wr fun e w' => e = .returned (.tuple #[.agg #[.int .i64 (mN n q), .int .i64 (mD n q)], .int .i64 0]) ∧ Below wr.heap.size wr w' from rchance_ok n q wr hl (by omega))
          have w1' : IntKind.i64.wrap (mN n q * D) = mN n q * D := IntWalk.i64_in _ (by omega)
          have w2' : IntKind.i64.wrap (N * mD n q) = N * mD n q := IntWalk.i64_in _ (by omega)
          have v1 : IntKind.i64.wrap ((q : Int) + 1) = (q : Int) + 1 := IntWalk.i64_in _ (by omega)
          have hstep : medFind n N D q = if N * mD n q ≤ mN n q * D then q else medFind n N D (q - 1) := by
            obtain ⟨r, rfl⟩ : ∃ r, q = r + 1 := ⟨q - 1, by omega⟩
            rfl
          have HQ1 := Lib.hid (show q + 1 - 1 = q by omega)
          by_cases hc : N * mD n q ≤ mN n q * D
          · have HRN := Lib.hid (show q = medFind n N D q by rw [hstep, if_pos hc])
            have HBN := Lib.hid (show bestOf S n q = ⟨atL S (q - 1), atL S (n - q), mN n q, mD n q, 0⟩ from if_neg (by omega))
            obtain ⟨u1, hu1⟩ : ∃ u, u = q - 1 := ⟨_, rfl⟩
            obtain ⟨u2, hu2⟩ : ∃ u, u = n - q := ⟨_, rfl⟩
            have w3' : IntKind.i64.wrap ((q : Int) - 1) = (u1 : Int) := by rw [IntWalk.i64_in _ (by omega)]; omega
            have w4' : IntKind.i64.wrap ((n : Int) - q) = (u2 : Int) := by rw [IntWalk.i64_in _ (by omega)]; omega
            have l1 : (u1 : Int) < n := by omega
            have l2 : (u2 : Int) < n := by omega
            have HU := Lib.hid (show u1 < S.length ∧ u2 < S.length by rw [HSL.out]; omega)
            rw [← hu1, ← hu2] at HBN
            clear hstep hu1 hu2 hm1 hm2 hbd
            generalize mN n q = cn at *
            generalize mD n q = cd at *
            go_wp2_with fail
            refine HC.out.mono ?_
            rintro e w5 ⟨rfl, hb5⟩
            have HE5 := Lib.hid (HB.out.below (hb5.trans ((below_alloc (Below.refl w5.heap.size w5) (.cells #[.int .i64 cn, .int .i64 cd] 24)).mono hb5.size)))
            have HRC : Hid (RBox (w5.alloc (.cells #[.int .i64 cn, .int .i64 cd] 24)) w5.heap.size cn cd) := Lib.hid (RBox.new _ _ _ _)
            clear hb5 HC
            go_upto_region 18 with fail
            generalize w5.alloc (.cells #[.int .i64 cn, .int .i64 cd] 24) = W5 at *
            generalize w5.heap.size = gc at *
            have n0 := HE5.out.m.n0
            have d0 := HE5.out.m.d0
            obtain ⟨r0, r1, -, -⟩ := HRC.out
            have z0 := cell_lt n0
            have z3 := cell_lt r0
            go_upto_region 19 with fail
            obtain ⟨x1, -⟩ := HE5.out.m.reads HU.out.1
            obtain ⟨x2, -⟩ := HE5.out.m.reads HU.out.2
            have z1 := cell_lt x1
            obtain ⟨y0, y1, y2, y3, f0, f1, f2, f3⟩ := id HE5.out.q
            have z2 := cell_lt y0
            refine (wpIn_wide (n := 9)).1 ?_
            refine wpIn_region_pre_lit 13 2 rfl (by kernel_rfl) (by kernel_rfl) (by kernel_rfl) (by kernel_rfl) rfl ?_
            simp only [List.take_succ_cons, List.take_zero]
            repeat (refine wpQuietIn_step (by first | exact fun _ _ _ _ => trivial | quiet_asked_in) (fun KQ hKQ => ?_); go_simp; first | (refine hKQ _ ?_; clear hKQ KQ) | (apply Exists.intro; refine ⟨fun _ => ?_, hKQ _ ?_⟩; (fail); clear hKQ KQ))
            refine wpQuietIn_nil ?_
            intro _ hwq1
            obtain ⟨nq, hwq2⟩ := hwq1
            subst hwq2
            simp only [List.replicate_succ, List.replicate_zero, List.cons_append, List.nil_append]
            have H6 : Hid (BestAt w (store4 (W5.drewN nq) gh (atL S u1) (atL S u2) cn cd) N D g gh S (bestOf S n q)) := Lib.hid (by rw [HBN.out]; exact (HE5.out.below (below_drewN (Below.refl _ W5) nq)).store ⟨atL S u1, atL S u2, cn, cd, 0⟩)
            refine wpAnyIn_ready (rs := [13]) (by kernel_rfl) (by simp) (AllReadyIn.cons rfl (fun K' hKK => ?_) AllReadyIn.nil)
            go_simp
            refine hKK _ _ ?_
            clear hKK
            refine wpAnyIn_ready (rs := [14]) (by kernel_rfl) (by simp) (AllReadyIn.cons rfl (fun K' hKK => ?_) AllReadyIn.nil)
            go_simp
            refine hKK _ _ ?_
            clear hKK
            refine wpAnyIn_done (by kernel_rfl) ?_ _
            go_wp2
            go_roundw
            case rel => exact ⟨q + 1, q, true, ⟨by omega, by omega⟩, by simp, rfl, Lib.hid (by simp; omega), Lib.hid (by rw [HQ1.out]; exact HRN.out), H6⟩
            case measure => simp [intOf]; omega
          · have HRN := Lib.hid (show R = medFind n N D q by rw [hstep, if_neg hc]; exact HR.out)
            have hci : mN n q * D < N * mD n q := by omega
            clear hstep hm1 hm2 hbd hc
            generalize mN n q = cn at *
            generalize mD n q = cd at *
            go_wp2_with fail
            refine HC.out.mono ?_
            rintro e w5 ⟨rfl, hb5⟩
            have HE5 := Lib.hid (HB.out.below (hb5.trans ((below_alloc (Below.refl w5.heap.size w5) (.cells #[.int .i64 cn, .int .i64 cd] 24)).mono hb5.size)))
            have HRC : Hid (RBox (w5.alloc (.cells #[.int .i64 cn, .int .i64 cd] 24)) w5.heap.size cn cd) := Lib.hid (RBox.new _ _ _ _)
            clear hb5 HC
            go_upto_region 18 with fail
            generalize w5.alloc (.cells #[.int .i64 cn, .int .i64 cd] 24) = W5 at *
            generalize w5.heap.size = gc at *
            have n0 := HE5.out.m.n0
            have d0 := HE5.out.m.d0
            obtain ⟨r0, r1, -, -⟩ := HRC.out
            have z0 := cell_lt n0
            have z3 := cell_lt r0
            go_wp2
            go_roundw
            case rel => exact ⟨q + 1, R, fv, ⟨by omega, by omega⟩, by simp, rfl, HFV, Lib.hid (by rw [HQ1.out]; exact HRN.out), HE5⟩
            case measure => simp [intOf]; omega
        · have hqi : ¬ (2 * (q : Int) ≤ (n : Int)) := by omega
          have hRR : R = medFind n N D h2 := by rw [HR.out, show q - 1 = h2 by omega]
          have HVR := Lib.hid (show V = bestOf S n R by rw [HVS.out, hRR])
          obtain ⟨y0, y1, y2, y3, -, -, -, -⟩ := HB.out.q
          have hfour := HB.out.m.four
          have z2 := cell_lt y0
          have HFF := Lib.hid hfour
          obtain ⟨x0, x1, x2, x3, f0, f1, f2, f3⟩ := hfour
          clear hRR
          by_cases hR0 : R = 0
          · have hfv : fv = false := by rw [HFV.out]; simp [hR0]
            subst hfv
            have HVE := Lib.hid (show medVal V = .tuple #[.agg #[.int .i64 0, .int .i64 0, .int .i64 0, .int .i64 0], .int .i64 4] by rw [HVR.out, hR0]; rfl)
            have c0 := HFF.out.s0 (.int .i64 0)
            have c1 := HFF.out.s1 (.int .i64 0) (.int .i64 0)
            have c2 := HFF.out.s2 (.int .i64 0) (.int .i64 0) (.int .i64 0)
            have c3 := HFF.out.s3 (.int .i64 0) (.int .i64 0) (.int .i64 0) (.int .i64 0)
            have HB6 := Lib.hid (below4 (.int .i64 0) (.int .i64 0) (.int .i64 0) (.int .i64 0) HB.out.m.bel (show w.heap.size ≤ w.heap.size + 1 by omega))
            clear hR0 y0 y1 y2 y3
            go_wp2
            refine bodyPost_ret (v := .tuple #[.agg #[.int .i64 0, .int .i64 0, .int .i64 0, .int .i64 0], .int .i64 4]) (by simp [results, Try.results19, go_sem, c0, c1, c2, c3]) rfl ?_
            exact ⟨by rw [HVE.out], HB6.out⟩
          · have hfv : fv = true := by rw [HFV.out]; simp [hR0]
            subst hfv
            have hve : (bestOf S n R).e = 0 := by unfold bestOf; rw [if_neg hR0]
            obtain ⟨⟨vlo, vhi, vn, vd, ve⟩, hBV⟩ : ∃ B, B = bestOf S n R := ⟨_, rfl⟩
            rw [← hBV] at hve y0 y1 y2 y3
            obtain rfl : ve = 0 := hve
            have HVE := Lib.hid (show medVal V = .tuple #[.agg #[.int .i64 vlo, .int .i64 vhi, .int .i64 vn, .int .i64 vd], .int .i64 0] by rw [HVR.out, ← hBV]; rfl)
            have c0 := HFF.out.s0 (.int .i64 vlo)
            have c1 := HFF.out.s1 (.int .i64 vlo) (.int .i64 vhi)
            have c2 := HFF.out.s2 (.int .i64 vlo) (.int .i64 vhi) (.int .i64 vn)
            have c3 := HFF.out.s3 (.int .i64 vlo) (.int .i64 vhi) (.int .i64 vn) (.int .i64 vd)
            have HB6 := Lib.hid (below4 (.int .i64 vlo) (.int .i64 vhi) (.int .i64 vn) (.int .i64 vd) HB.out.m.bel (show w.heap.size ≤ w.heap.size + 1 by omega))
            clear hR0 hBV
            go_wp2
            refine bodyPost_ret (v := .tuple #[.agg #[.int .i64 vlo, .int .i64 vhi, .int .i64 vn, .int .i64 vd], .int .i64 0]) (by simp [results, Try.results19, go_sem, c0, c1, c2, c3]) rfl ?_
            exact ⟨by rw [HVE.out], HB6.out⟩
theorem rmedian_any (l : List Int) (p : Option Addr) (cap : Nat) (N D : Int) (w : World) (hs : SliceIn p l.length (IntsAt w l)) :
    Calls Try.prog 19 #[.slice p l.length cap, .agg #[.int .i64 N, .int .i64 D]] w fun e w' => e = .returned (medVal (medE l N D)) ∧ Below w.heap.size w w' := by
  by_cases hl : 2 ≤ l.length ∧ l.length ≤ 40
  · by_cases hp : partB N D = true
    · obtain ⟨b, o, rfl, hi⟩ := hs.resolve_left (by omega)
      exact rmedian_ok l b o cap N D w hl hi hp
    · unfold medE
      rw [if_neg (fun h => hp h.2)]
      exact rmedian_part p l.length cap N D w hl (by simpa using hp)
  · unfold medE
    rw [if_neg (fun h => hl h.1)]
    exact rmedian_size p l.length cap N D w hl
end
end Go.Proofs.Ythkndjkgokojmaa
