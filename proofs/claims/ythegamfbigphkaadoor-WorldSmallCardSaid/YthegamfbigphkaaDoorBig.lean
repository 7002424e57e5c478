/- Contract: Big, which says whether a world is more than a law looks at. -/
import Derived.Test.YthegamfbigphkaaDoorOpen
import Derived.LoopTactic
namespace Go.Proofs.YthegamfbigphkaaDoor
open Go Go.RowKit
def manyEvs (l : List Clk) : Bool := l.any fun c => decide (40 < c.evs.length)
def bigS (W : Wld) : Bool := decide (40 < W.chs.length) || (decide (40 < W.cls.length) || manyEvs W.cls)
theorem manyEvs_snoc (l : List Clk) (k : Nat) (h : k < l.length) : manyEvs (l.take (k + 1)) = (manyEvs (l.take k) || decide (40 < l[k].evs.length)) := by
  unfold manyEvs; rw [List.take_succ_eq_append_getElem h, List.any_append]; simp
theorem manyEvs_at (l : List Clk) (k : Nat) (h : k < l.length) (h40 : 40 < l[k].evs.length) : manyEvs l = true := by
  unfold manyEvs; rw [List.any_eq_true]; exact ⟨l[k], List.getElem_mem h, by simpa using h40⟩
theorem bigS_no {W : Wld} (h : bigS W = false) : W.chs.length ≤ 40 ∧ W.cls.length ≤ 40 ∧ ∀ k, (hk : k < W.cls.length) → W.cls[k].evs.length ≤ 40 := by
  simp only [bigS, Bool.or_eq_false_iff, decide_eq_false_iff_not] at h
  refine ⟨by omega, by omega, fun k hk => ?_⟩
  by_cases h40 : 40 < W.cls[k].evs.length
  · have := manyEvs_at _ k hk h40; rw [h.2.2] at this; cases this
  · omega
set_option maxRecDepth 100000 in
set_option maxHeartbeats 1000000 in
theorem big_loop (W : Wld) (p1 p2 : Option Addr) (c1 c2 : Nat) (w : World) (hW : WldIn w W p1 p2) (h1 : ¬ (40 : Int) < W.chs.length) (h2 : ¬ (40 : Int) < W.cls.length) :
    Calls Tryd.prog 10 #[.agg #[.int .u64 W.seed, .slice p1 W.chs.length c1, .slice p2 W.cls.length c2]] w fun e w' => e = .returned (.bool (manyEvs W.cls)) ∧ Below w.heap.size w w' := by
  have hm2 := hW.2.1
  unfold maxLen at hm2
  have hS := hW.2.2.2.imp fun _ _ h => h.below ((Below.refl _ w).alloc (Nat.le_refl _) (.cells #[.int .u64 W.seed, .slice p1 W.chs.length c1, .slice p2 W.cls.length c2] 26))
  clear hW
  rcases hS with h0 | ⟨b, o, rfl, hS⟩
  · have hn : W.cls = [] := List.eq_nil_of_length_eq_zero h0
    have hle : (W.cls.length : Int) ≤ 0 := by omega
    have H0 := Lib.hid hn
    clear hn h0
    go_enter Tryd.func10, Tryd.ntmps10
    go_wp2
    go_loop [3] (fun i => i = .int .i64 0) (fun i => (5 : Nat) - (intOf i).toNat)
    case atStart => rfl
    case round =>
      subst hrel
      go_wp2
      go_ret
      exact ⟨ret_bool (by rw [H0.out]; rfl), by go_grown⟩
  · have HS := Lib.hid hS
    clear hS
    go_enter Tryd.func10, Tryd.ntmps10
    go_wp2
    go_loop [3] (fun i => ∃ k : Nat, k ≤ W.cls.length ∧ i = .int .i64 k ∧ manyEvs (W.cls.take k) = false) (fun i => W.cls.length - (intOf i).toNat)
    case atStart => exact ⟨0, Nat.zero_le _, rfl, rfl⟩
    case round =>
      obtain ⟨k, hk, rfl, hq⟩ := hrel
      by_cases hlt : k < W.cls.length
      · obtain ⟨-, v, y8, p, cap, rfl, hml, -⟩ := HS.out k hlt
        unfold maxLen at hml
        have hsn := manyEvs_snoc W.cls k hlt
        rw [hq, Bool.false_or] at hsn
        have HSN := Lib.hid hsn
        have HAT := Lib.hid (manyEvs_at W.cls k hlt)
        clear hsn hq
        have hkl : (k : Int) < (W.cls.length : Int) := by omega
        by_cases h40 : (40 : Int) < (W.cls[k].evs.length : Int)
        · go_wp2
          go_ret
          exact ⟨ret_bool (by rw [HAT.out (by omega)]), by go_grown⟩
        · go_wp2
          go_round
          case rel => exact ⟨k + 1, by omega, by go_num, by rw [HSN.out]; simp; omega⟩
          case measure => simp [intOf]; omega
      · have hkl : ¬ (k : Int) < (W.cls.length : Int) := by omega
        have hfin : false = manyEvs W.cls := by rw [← hq, List.take_of_length_le (by omega)]
        have HF := Lib.hid hfin
        clear hfin hq
        go_wp2
        go_ret
        exact ⟨ret_bool HF.out, by go_grown⟩
set_option maxRecDepth 100000 in
theorem big_any (W : Wld) (p1 p2 : Option Addr) (c1 c2 : Nat) (w : World) (hW : WldIn w W p1 p2) :
    Calls Tryd.prog 10 #[.agg #[.int .u64 W.seed, .slice p1 W.chs.length c1, .slice p2 W.cls.length c2]] w fun e w' => e = .returned (.bool (bigS W)) ∧ Below w.heap.size w w' := by
  by_cases h1 : (40 : Int) < W.chs.length
  · have hb : true = bigS W := by simp only [bigS]; rw [show decide (40 < W.chs.length) = true by simp; omega]; rfl
    have HB := Lib.hid hb
    clear hb hW
    go_enter Tryd.func10, Tryd.ntmps10
    go_wp2
    go_ret
    exact ⟨ret_bool HB.out, by go_grown⟩
  · by_cases h2 : (40 : Int) < W.cls.length
    · have hb : true = bigS W := by simp only [bigS]; rw [show decide (40 < W.cls.length) = true by simp; omega]; simp
      have HB := Lib.hid hb
      clear hb hW
      go_enter Tryd.func10, Tryd.ntmps10
      go_wp2
      go_ret
      exact ⟨ret_bool HB.out, by go_grown⟩
    · have hb : bigS W = manyEvs W.cls := by
        simp only [bigS]
        rw [show decide (40 < W.chs.length) = false by simp; omega, show decide (40 < W.cls.length) = false by simp; omega]; rfl
      rw [hb]
      exact big_loop W p1 p2 c1 c2 w hW h1 h2
end Go.Proofs.YthegamfbigphkaaDoor
