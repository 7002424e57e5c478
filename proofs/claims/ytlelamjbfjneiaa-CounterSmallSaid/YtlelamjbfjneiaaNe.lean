/- Contracts of layer 2: an entry of a matrix is lowered; a matrix is filled. -/
import Derived.Test.YtlelamjbfjneiaaNc
namespace Go.Proofs.Ytlelamjbfjneiaa.Ct
open Go Go.RowKit Go.Shelf
attribute [local go_sem] Oper.semAt_some
set_option maxRecDepth 100000 in
set_option maxHeartbeats 2000000 in
theorem lower_any (x : Int) (w X : World) (n g a b : Nat) (bs : Nat → Nat) (M : List (List Int)) (h : MatAt w X n g bs M) (ha : a < n) (hb : b < n) :
    Calls Try.prog 45 #[.slice (some ⟨g, 0, none⟩) n n, .int .i64 a, .int .i64 b, .int .i64 x] X fun e w' => e = .returned (.tuple #[]) ∧ ∃ k, (X.setCell ⟨bs a, b, none⟩ (.int .i64 (min (getM M a b) x))).drewN k = w' := by
  have x0 := h.rows a ha
  obtain ⟨x1, x2⟩ := h.at_ a b ha hb
  have hz0 := cell_lt x0
  have hz1 := cell_lt x1
  have ha' : (a : Int) < n := by omega
  have hb' : (b : Int) < n := by omega
  generalize getM M a b = y at *
  clear h ha hb
  go_enter Try.func45, Try.ntmps45
  go_region
  go_end0
  rw [show min y x = if x < y then x else y by split <;> omega]
  exact ⟨rfl, 1, rfl⟩
/-- a matrix that is being filled: k rows are there -/
structure FillAt (w X : World) (n g : Nat) (bs : Nat → Nat) (x : Int) (k : Nat) : Prop where
  rows : ∀ i, i < k → X.cell? ⟨g, i, none⟩ = some (.slice (some ⟨bs i, 0, none⟩) n n)
  at_ : ∀ i j, i < k → j < n → X.cell? ⟨bs i, j, none⟩ = some (.int .i64 x) ∧ X.frozen? ⟨bs i, j, none⟩ = false
  inj : ∀ i j, i < k → j < k → bs i = bs j → i = j
  ne : ∀ i, i < k → g < bs i ∧ bs i < X.heap.size
  cells : ∀ i, i < n → (∃ v, X.cell? ⟨g, i, none⟩ = some v) ∧ X.frozen? ⟨g, i, none⟩ = false
  ge : w.heap.size ≤ g
  lt : g < X.heap.size
  bel : Below w.heap.size w X
theorem FillAt.below {w X Y : World} {n g : Nat} {bs : Nat → Nat} {x : Int} {k : Nat} (h : FillAt w X n g bs x k) (hb : Below X.heap.size X Y) : FillAt w Y n g bs x k :=
  ⟨fun i hi => cell_below hb (h.rows i hi), fun i j hi hj => ⟨cell_below hb (h.at_ i j hi hj).1, (hb.frozen (p := ⟨bs i, j, none⟩) (cell_lt (h.at_ i j hi hj).1)).trans (h.at_ i j hi hj).2⟩, h.inj,
    fun i hi => ⟨(h.ne i hi).1, Nat.lt_of_lt_of_le (h.ne i hi).2 hb.size⟩,
    fun i hi => by
      obtain ⟨⟨v, hv⟩, hf⟩ := h.cells i hi
      exact ⟨⟨v, cell_below hb hv⟩, (hb.frozen (p := ⟨g, i, none⟩) h.lt).trans hf⟩,
    h.ge, Nat.lt_of_lt_of_le h.lt hb.size, h.bel.trans (hb.mono h.bel.size)⟩
/-- one row more -/
theorem FillAt.put {w X Y : World} {n g : Nat} {bs : Nat → Nat} {x : Int} {k b : Nat} (h : FillAt w X n g bs x k) (hk : k < n) (hb : Below X.heap.size X Y) (hr : RepAt X Y b x n n) (hlt : b < Y.heap.size) :
    FillAt w (Y.setCell ⟨g, k, none⟩ (.slice (some ⟨b, 0, none⟩) n n)) n g (fun i => if i = k then b else bs i) x (k + 1) := by
  have hY := h.below hb
  have hge := hr.ge
  have hg := h.lt
  have hgb : g ≠ b := by omega
  have row : ∀ j, j < n → Y.cell? ⟨b, j, none⟩ = some (.int .i64 x) ∧ Y.frozen? ⟨b, j, none⟩ = false := fun j hj => ⟨hr.cell j hj, by simp [World.frozen?, hr.row]⟩
  refine ⟨fun i hi => ?_, fun i j hi hj => ?_, fun i j hi hj e => ?_, fun i hi => ?_, fun i hi => ?_, h.ge, by simpa using hY.lt, hY.bel.setCell (p := ⟨g, k, none⟩) h.ge _⟩
  · by_cases e : i = k
    · subst e
      rw [if_pos rfl]
      obtain ⟨⟨v, hv⟩, -⟩ := hY.cells i hk
      exact World.cell?_setCell_same _ _ _ hv
    · rw [if_neg e, World.cell?_setCell_other _ ⟨g, k, none⟩ ⟨g, i, none⟩ _ (fun q => e (by cases q; rfl))]
      exact hY.rows i (by omega)
  · by_cases e : i = k
    · subst e
      rw [if_pos rfl, World.frozen?_setCell, World.cell?_setCell_far _ _ _ _ hgb]
      exact row j hj
    · rw [if_neg e, World.frozen?_setCell, World.cell?_setCell_far _ _ _ _ (Nat.ne_of_lt (hY.ne i (by omega)).1)]
      exact hY.at_ i j (by omega) hj
  · by_cases ei : i = k
    · by_cases ej : j = k
      · omega
      · have := (h.ne j (by omega)).2
        simp only [ei, ej, if_true, if_false] at e
        omega
    · by_cases ej : j = k
      · have := (h.ne i (by omega)).2
        simp only [ei, ej, if_true, if_false] at e
        omega
      · simp only [ei, ej, if_false] at e
        exact h.inj i j (by omega) (by omega) e
  · by_cases e : i = k
    · simp only [e, if_true]
      refine ⟨by omega, by simpa using hlt⟩
    · simp only [e, if_false]
      refine ⟨(hY.ne i (by omega)).1, by simpa using (hY.ne i (by omega)).2⟩
  · obtain ⟨⟨v, hv⟩, hf⟩ := hY.cells i hi
    refine ⟨?_, by rw [World.frozen?_setCell]; exact hf⟩
    by_cases e : i = k
    · subst e; exact ⟨_, World.cell?_setCell_same _ _ _ hv⟩
    · exact ⟨v, by rw [World.cell?_setCell_other _ ⟨g, k, none⟩ ⟨g, i, none⟩ _ (fun q => e (by cases q; rfl))]; exact hv⟩
theorem FillAt.mat {w X : World} {n g : Nat} {bs : Nat → Nat} (h : FillAt w X n g bs openI n) : MatAt w X n g bs (fillM n) :=
  ⟨h.rows, fun i j hi hj => by
    have e : getM (fillM n) i j = openI := by simp [getM, fillM, hi, hj]
    rw [e]; exact h.at_ i j hi hj, h.inj, fun i hi e => by have := (h.ne i hi).1; omega, fun i hi => by have := (h.ne i hi).1; have := h.ge; omega, h.bel⟩
theorem infoRow : (Try.prog.info? 52).map (fun i => (i.zero, i.size, i.bytes)) = some (some (.slice none 0 0), 1, 24) := by kernel_rfl
theorem made_rows {X : World} {B g n cap : Nat} (h : X.ownsRow B 52 1 (.slice (some ⟨g, 0, none⟩) n cap) n (List.replicate n (.slice none 0 0))) : ∀ i, i < n → (∃ v, X.cell? ⟨g, i, none⟩ = some v) ∧ X.frozen? ⟨g, i, none⟩ = false := fun i hi => by
  refine ⟨⟨.slice none 0 0, ?_⟩, ?_⟩
  · have := World.ownsRow.cells h (g := g) rfl i (.slice none 0 0) (by simp [hi])
    rwa [show (⟨g, 0, none⟩ : Addr).add i = ⟨g, i, none⟩ by unfold Addr.add; split <;> simp_all] at this
  · rcases h.2 with ⟨e, _⟩ | ⟨g', cap', cur, e, hg, hgb, _⟩
    · cases e
    · cases e
      simp [World.frozen?, hgb]
/-- a matrix of which all entries are open -/
def MatRet (n : Nat) (M : List (List Int)) (w : World) (e : Ending) (w' : World) : Prop := ∃ g bs, e = .returned (.slice (some ⟨g, 0, none⟩) n n) ∧ MatAt w w' n g bs M ∧ w.heap.size ≤ g ∧ g < w'.heap.size
set_option maxRecDepth 100000 in
set_option maxHeartbeats 4000000 in
theorem filled_any (n : Nat) (w : World) (hn : 1 ≤ n ∧ n ≤ 16) :
    Calls Try.prog 44 #[.int .i64 n, .int .i64 openI] w (MatRet n (fillM n) w) := by
  obtain ⟨i0, hi0, hz0, hz1, hz2⟩ := info_parts infoRow
  have HN := Lib.hid hn
  clear hn
  go_enter Try.func44, Try.ntmps44
  go_wp2_with (at_make; refine wpList_make_full _ rfl _ _ 68 rfl w.heap.size 52 i0 (.slice none 0 0) 1 Try.underlying68 hi0 hz0 hz1 .i64 .i64 _ _ n rfl rfl rfl rfl (by have := HN.out; rw [hz2]; omega) (by have := HN.out; unfold maxLen; omega) (Nat.le_refl _) ?_; intro w0 hown0 hgrow0)
  have hb0 : Below w.heap.size w w0 := (Below.refl _ _).grown hgrow0 (Nat.le_refl _) (fun k hk => by cases hk)
  have hlt0 : w.heap.size < w0.heap.size := by
    rw [Nat.mul_one, show (Value.slice none 0 0).cells = #[.slice none 0 0] from rfl, toList_madeCells_one] at hown0
    obtain ⟨⟨v, hv⟩, -⟩ := made_rows hown0 0 (by have := HN.out; omega)
    exact cell_lt hv
  have HF : Hid (FillAt w w0 n w.heap.size (fun _ => 0) openI 0) := Lib.hid ⟨fun i hi => absurd hi (Nat.not_lt_zero i), fun i _ hi => absurd hi (Nat.not_lt_zero i), fun i _ hi => absurd hi (Nat.not_lt_zero i), fun i hi => absurd hi (Nat.not_lt_zero i), made_rows (by
    rw [Nat.mul_one, show (Value.slice none 0 0).cells = #[.slice none 0 0] from rfl, toList_madeCells_one] at hown0
    exact hown0), Nat.le_refl _, hlt0, hb0⟩
  clear hown0 hgrow0 hb0 hlt0 hz0 hz1 hz2 hi0
  generalize hgg : w.heap.size = g at *
  have HG := Lib.hid hgg
  clear hgg
  go_loopw [6, 11] (fun s i wr => ∃ (k : Nat) (bs : Nat → Nat) (v : Value), k ≤ n ∧ s = v ∧ i = .int .i64 (k : Int) ∧ Hid (FillAt w wr n g bs openI k)) (fun _ i _ => n - (intOf i).toNat)
  case atStart => exact ⟨0, _, _, Nat.zero_le _, rfl, rfl, HF⟩
  case round =>
    obtain ⟨k, bs, v, hk, rfl, rfl, HE⟩ := hrel
    by_cases hlt : k < n
    · have hki : (k : Int) < (n : Int) := by omega
      have HK := Lib.hid hlt
      go_wp2_with fail
      have hx : (wr.alloc (.cells #[.int .i64 openI] 3)).cell? ⟨wr.heap.size, 0, none⟩ = some (.int .i64 openI) := by simp
      refine (repeat_any openI _ 0 1 n _ (by have := HN.out; omega) hx).mono ?_
      rintro e wR ⟨b, rfl, hrep⟩
      have hb1 : Below wr.heap.size wr wR := (below_alloc (Below.refl _ _) _).trans (hrep.bel.mono (by simp))
      have hrep2 : RepAt wr wR b openI n n := ⟨hrep.row, hb1, by have := hrep.ge; simp at this; omega⟩
      have hbl : b < wR.heap.size := by
        have := hrep.row
        exact cell_lt (hrep.cell 0 (by have := HN.out; omega))
      obtain ⟨⟨v0, hv0⟩, hf0⟩ := (HE.out.below hb1).cells k hlt
      have hz := cell_lt hv0
      have HP := Lib.hid (HE.out.put hlt hb1 hrep2 hbl)
      have w1 : IntKind.i64.wrap ((k : Int) + 1) = (k : Int) + 1 := IntWalk.i64_in _ (by have := HN.out; omega)
      clear hrep hrep2 hb1 hbl hx
      go_wp2
      go_roundw
      case rel => exact ⟨k + 1, _, _, by have := HK.out; omega, rfl, by simp, HP⟩
      case measure => have := HK.out; simp [intOf]; omega
    · obtain rfl : k = n := by omega
      have HM := Lib.hid HE.out.mat
      have HL := Lib.hid HE.out.lt
      go_wp2
      go_ret
      exact ⟨g, bs, rfl, HM.out, by rw [HG.out]; exact Nat.le_refl _, HL.out⟩
end Go.Proofs.Ytlelamjbfjneiaa.Ct
