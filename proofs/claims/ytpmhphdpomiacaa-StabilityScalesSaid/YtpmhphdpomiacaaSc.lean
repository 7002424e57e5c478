/- Two series in boxes, whose phases grow side by side. -/
import Derived.Test.YtpmhphdpomiacaaAl
namespace Go.Proofs.Ytpmhphdpomiacaa
open Go Go.RowKit Go.Shelf
structure SBox2 (w X : World) (b1 b2 : Nat) (tau : Int) (v1 v2 : Value) (l1 l2 : List Int) : Prop where
  s1 : SBox w X b1 tau v1 l1
  s2 : SBox w X b2 tau v2 l2
  d : Apart v1 v2
  n12 : v1.ownBlock ≠ some b2
  n21 : v2.ownBlock ≠ some b1
  ne : b1 ≠ b2
variable {w X Y : World} {b1 b2 : Nat} {tau x : Int} {v1 v2 v1' : Value} {l1 l2 : List Int} {o : Obj}
theorem SBox2.symm (h : SBox2 w X b1 b2 tau v1 v2 l1 l2) : SBox2 w X b2 b1 tau v2 v1 l2 l1 := ⟨h.s2, h.s1, h.d.symm, h.n21, h.n12, h.ne.symm⟩
theorem SBox.drew {bx : Nat} {v : Value} {l : List Int} (h : SBox w X bx tau v l) : SBox w X.drew bx tau v l := ⟨h.own, h.c0, h.c1, h.f1, h.ne, h.ge, h.bel.drew⟩
theorem SBox2.drew (h : SBox2 w X b1 b2 tau v1 v2 l1 l2) : SBox2 w X.drew b1 b2 tau v1 v2 l1 l2 := ⟨h.s1.drew, h.s2.drew, h.d, h.n12, h.n21, h.ne⟩
/-- behind an append to the first series and the store: the second one reads as it did -/
theorem SBox2.step (h : SBox2 w X b1 b2 tau v1 v2 l1 l2) (hown : Y.ownsRow w.heap.size 3 1 v1' (l1.length + 1) (ints l1 ++ [.int .i64 x])) (hg : (X.alloc o).grownBy Y v1.ownBlock)
    (hb : v1'.ownBlock = v1.ownBlock ∨ v1'.ownBlock = some (X.alloc o).heap.size) : SBox2 w (Y.setCell ⟨b1, 1, none⟩ v1') b1 b2 tau v1' v2 (l1 ++ [x]) l2 := by
  obtain ⟨p2, q2⟩ := h.s2.own.other h.d.symm hg hb
  have hl2 := cell_lt h.s2.c0
  refine ⟨(h.s1.grow hown hg hb).store, ⟨?_, ?_, ?_, ?_, h.s2.ne, h.s2.ge, ?_⟩, q2.symm, ?_, h.n21, h.ne⟩
  · exact p2.kept (grownBy_set Y b1 1 v1') (.inr h.n21)
  · rw [World.cell?_setCell_far _ _ _ _ h.ne]; exact grown_cell hg h.n12 h.s2.c0
  · rw [World.cell?_setCell_far _ _ _ _ h.ne]; exact grown_cell hg h.n12 h.s2.c1
  · rw [World.frozen?_setCell]; exact (grown_frozen hl2 hg h.n12).trans h.s2.f1
  · exact (h.s1.grow hown hg hb).store.bel
  · rcases hb with hb | hb
    · rw [hb]; exact h.n12
    · rw [hb]; intro e; cases e; simp at hl2; omega
theorem SBox2.start (w : World) (tau : Int) (t : TypeId) : SBox2 w ((w.alloc (.cells #[.int .i64 tau, .slice none 0 0] t)).alloc (.cells #[.int .i64 tau, .slice none 0 0] t)) w.heap.size (w.heap.size + 1) tau (.slice none 0 0) (.slice none 0 0) [] [] := by
  refine ⟨⟨World.ownsRow_nil _ _ _ _, by simp [go_sem], by simp [go_sem], by simp [go_sem], by simp [Value.ownBlock], Nat.le_refl _, below_alloc (below_alloc (Below.refl _ _) _) _⟩,
    ⟨World.ownsRow_nil _ _ _ _, by simp [go_sem], by simp [go_sem], by simp [go_sem], by simp [Value.ownBlock], by omega, below_alloc (below_alloc (Below.refl _ _) _) _⟩, .inl rfl, by simp [Value.ownBlock], by simp [Value.ownBlock], by omega⟩
/-! what the law makes of the phases -/
def addL (l : List Int) (a b : Int) (k : Nat) : List Int := (List.range k).map fun (i : Nat) => atL l i + a + b * i
def curL (l : List Int) (a b c : Int) (k : Nat) : List Int := (List.range k).map fun (i : Nat) => atL l i + a + b * i + c * i * i
theorem addL_succ (l : List Int) (a b : Int) (k : Nat) : addL l a b (k + 1) = addL l a b k ++ [atL l k + a + b * k] := by simp [addL, List.range_succ]
theorem curL_succ (l : List Int) (a b c : Int) (k : Nat) : curL l a b c (k + 1) = curL l a b c k ++ [atL l k + a + b * k + c * k * k] := by simp [curL, List.range_succ]
theorem addL_len (l : List Int) (a b : Int) (k : Nat) : (addL l a b k).length = k := by simp [addL]
theorem curL_len (l : List Int) (a b c : Int) (k : Nat) : (curL l a b c k).length = k := by simp [curL]
theorem range_ok {k : Nat} {f : Nat → Int} (h : ∀ i : Nat, i < k → -1000000 ≤ f i ∧ f i ≤ 1000000) : phasesOk ((List.range k).map f) = true := by
  unfold phasesOk
  refine List.all_eq_true.2 fun x hx => ?_
  obtain ⟨i, hi, rfl⟩ := List.mem_map.1 hx
  have := h i (by simpa using hi)
  simp only [Bool.and_eq_true, decide_eq_true_eq]
  exact this
theorem mul_nat_bd (b B : Int) (k : Nat) (h : -B ≤ b ∧ b ≤ B) : -(B * k) ≤ b * k ∧ b * k ≤ B * k := by
  have h1 := Int.mul_le_mul_of_nonneg_right h.1 (show (0 : Int) ≤ k by omega)
  have h2 := Int.mul_le_mul_of_nonneg_right h.2 (show (0 : Int) ≤ k by omega)
  rw [Int.neg_mul] at h1
  exact ⟨h1, h2⟩
/-- the numbers that the law adds are small -/
structure AddOk (L : List Int) (a b c : Int) (k : Nat) : Prop where
  bk : -500000 ≤ b * k ∧ b * k ≤ 500000
  y : -600000 ≤ atL L k + a + b * k ∧ atL L k + a + b * k ≤ 600000
  ck : -3000 ≤ c * k ∧ c * k ≤ 3000
  ckk : -300000 ≤ c * k * k ∧ c * k * k ≤ 300000
theorem addOk {L : List Int} {a b c : Int} (hx : ∀ i, -32768 ≤ atL L i ∧ atL L i ≤ 32767) (hA : -32768 ≤ a ∧ a ≤ 32767) (hB : -4999 ≤ b ∧ b ≤ 4999) (hC : -29 ≤ c ∧ c ≤ 29) (k : Nat) (hk : k < 100) : AddOk L a b c k := by
  have h1 := mul_nat_bd b 4999 k hB
  have h2 := mul_nat_bd c 29 k hC
  have h3 := mul_nat_bd (c * k) 2900 k (by omega)
  have := hx k
  exact ⟨by omega, by omega, by omega, by omega⟩
end Go.Proofs.Ytpmhphdpomiacaa
