/- Contracts of the reference of layer 3: Pascal, Chance. -/
import Derived.Test.YthkndjkgokojmaaRf
import Derived.Test.YthkndjkgokojmaaStU
import Derived.Test.YthkndjkgokojmaaSb
import Derived.Test.YthkndjkgokojmaaQc
import Derived.Deep.CutRange
import Derived.Deep.AppendLies
namespace Go.Proofs.Ythkndjkgokojmaa
open Go Go.RowKit Go.Shelf
/-- the next row, of which k numbers are there behind the first one -/
def pasNext (row : List Int) : Nat → List Int
  | 0 => [1]
  | k + 1 => pasNext row k ++ [atL row k + atL row (k + 1)]
def pasRow : Nat → List Int
  | 0 => [1]
  | n + 1 => pasNext (pasRow n) n ++ [1]
theorem pasNext_len (row : List Int) : ∀ k, (pasNext row k).length = k + 1
  | 0 => rfl
  | k + 1 => by show (pasNext row k ++ [_]).length = _; rw [List.length_append, pasNext_len row k]; rfl
theorem pasRow_len : ∀ n, (pasRow n).length = n + 1
  | 0 => rfl
  | n + 1 => by show (pasNext (pasRow n) n ++ [1]).length = _; rw [List.length_append, pasNext_len]; rfl
theorem pas_all : (List.range 41).all (fun n => (pasRow n).all fun x => decide (0 ≤ x) && decide (x ≤ 200000000000)) = true := by decide +kernel
theorem pas_bd {n : Nat} (hn : n ≤ 40) (i : Nat) : 0 ≤ atL (pasRow n) i ∧ atL (pasRow n) i ≤ 200000000000 := by
  have h := List.all_eq_true.1 pas_all n (by simp; omega)
  by_cases hi : i < (pasRow n).length
  · have := List.all_eq_true.1 h _ (List.getElem_mem hi)
    rw [atL_get] at this
    simpa using this
  · have : atL (pasRow n) i = 0 := by simp [atL, show (pasRow n)[i]? = none from List.getElem?_eq_none (by omega)]
    omega
def allS (n i : Nat) : Int := sumF (atL (pasRow n)) i
def insS (n k i : Nat) : Int := sumF (fun j => if k ≤ j ∧ j + k ≤ n then atL (pasRow n) j else 0) i
theorem sums_all : (List.range 41).all (fun n => decide (allS n (n + 1) = 2 ^ n) && (List.range 21).all fun k => decide (k = 0) || decide (n < 2 * k) || decide (insS n k (n + 1) = chN n k)) = true := by decide +kernel
theorem sums_eq {n k : Nat} (hn : n ≤ 40) (hk : 1 ≤ k) (h2 : 2 * k ≤ n) : allS n (n + 1) = 2 ^ n ∧ insS n k (n + 1) = chN n k := by
  have h := List.all_eq_true.1 sums_all n (by simp; omega)
  simp only [Bool.and_eq_true, decide_eq_true_eq] at h
  have h3 := List.all_eq_true.1 h.2 k (by simp; omega)
  simp only [Bool.or_eq_true, decide_eq_true_eq] at h3
  refine ⟨h.1, ?_⟩
  rcases h3 with (h3 | h3) | h3
  · omega
  · omega
  · exact h3
theorem allS_bd {n : Nat} (hn : n ≤ 40) (i : Nat) (hi : i ≤ 41) : 0 ≤ allS n i ∧ allS n i ≤ 9000000000000 := by
  refine ⟨sumF_nonneg _ _ fun j _ => (pas_bd hn j).1, ?_⟩
  have := (sumF_bd (atL (pasRow n)) 200000000000 i fun j _ => by have := pas_bd hn j; omega).2
  unfold allS; omega
theorem insS_bd {n : Nat} (hn : n ≤ 40) (k i : Nat) (hi : i ≤ 41) : 0 ≤ insS n k i ∧ insS n k i ≤ 9000000000000 := by
  have h : ∀ j, 0 ≤ (if k ≤ j ∧ j + k ≤ n then atL (pasRow n) j else 0) ∧ (if k ≤ j ∧ j + k ≤ n then atL (pasRow n) j else 0) ≤ 200000000000 := fun j => by
    have := pas_bd hn j
    split <;> omega
  refine ⟨sumF_nonneg _ _ fun j _ => (h j).1, ?_⟩
  have := (sumF_bd (fun j => if k ≤ j ∧ j + k ≤ n then atL (pasRow n) j else 0) 200000000000 i fun j _ => by have := h j; omega).2
  unfold insS; omega
theorem one_own (w : World) (x : Int) : OwnI w.heap.size (w.alloc (.cells #[.int .i64 x] 3)) (.slice (some ⟨w.heap.size, 0, none⟩) 1 1) [x] :=
  ⟨rfl, .inr ⟨w.heap.size, 1, #[.int .i64 x], rfl, Nat.le_refl _, World.alloc_heap_new w _, Nat.le_refl _, by decide, rfl, rfl⟩⟩
/-- a row that is there, and the next one, which grows -/
structure PasAt (w W : World) (u v : Value) (row nxt : List Int) : Prop where
  o1 : OwnI w.heap.size W u row
  o2 : OwnI w.heap.size W v nxt
  d : Apart u v
  bel : Below w.heap.size w W
variable {w W Y : World} {u v v' : Value} {row nxt : List Int} {x : Int} {o : Obj}
theorem PasAt.start (h : OwnI w.heap.size W u row) (hb : Below w.heap.size w W) : PasAt w (W.alloc (.cells #[.int .i64 1] 3)) u (.slice (some ⟨W.heap.size, 0, none⟩) 1 1) row [1] := by
  refine ⟨h.alloc _, own_low (one_own W 1) hb.size, ?_, hb.alloc hb.size _⟩
  cases e : u.ownBlock with
  | none => exact .inl e
  | some k =>
    refine .inr (.inr ?_)
    rw [e]
    have := (World.ownsRow.lt h k e).2
    intro hk
    simp [Value.ownBlock] at hk
    omega
theorem PasAt.step (h : PasAt w W u v row nxt) (hown : Y.ownsRow w.heap.size 3 1 v' (nxt.length + 1) (ints nxt ++ [.int .i64 x])) (hg : (W.alloc o).grownBy Y v.ownBlock)
    (hb : v'.ownBlock = v.ownBlock ∨ v'.ownBlock = some (W.alloc o).heap.size) : PasAt w Y u v' row (nxt ++ [x]) := by
  obtain ⟨p1, q1⟩ := h.o1.other h.d hg hb
  exact ⟨p1, OwnI.snoc hown, q1, own_grown_below h.o2 h.bel h.bel.size hg⟩
theorem PasAt.below (h : PasAt w W u v row nxt) (hb : Below W.heap.size W Y) : PasAt w Y u v row nxt := ⟨own_of_below h.o1 hb, own_of_below h.o2 hb, h.d, h.bel.trans (hb.mono h.bel.size)⟩
theorem PasAt.lies {g cap : Nat} (h : PasAt w W u v row nxt) (hown : Y.ownsRow w.heap.size 3 1 (.slice (some ⟨g, 0, none⟩) (nxt.length + 1) cap) (nxt.length + 1) (ints nxt ++ [.int .i64 x])) (hg : (W.alloc o).grownBy Y v.ownBlock)
    (hat : v.ownBlock = some g ∨ g = (W.alloc o).heap.size) : PasAt w Y u (.slice (some ⟨g, 0, none⟩) (nxt.length + 1) cap) row (nxt ++ [x]) :=
  h.step hown hg (by
    rcases hat with h | h
    · exact .inl (by rw [h]; simp [Value.ownBlock])
    · exact .inr (by rw [h]; simp [Value.ownBlock]))
theorem PasAt.reads {b n c : Nat} (h : PasAt w W (.slice (some ⟨b, 0, none⟩) n c) v row nxt) (hn : 1 ≤ row.length) : IntsAt W row b 0 := by
  obtain ⟨b', c', e, hI⟩ := h.o1.ints hn
  cases e
  exact hI
theorem atL_at {W : World} {row : List Int} {b i : Nat} (h : IntsAt W row b 0) (hi : i < row.length) : W.cell? ⟨b, i, none⟩ = some (.int .i64 (atL row i)) := by
  have := h i hi
  rw [atL_get, Nat.zero_add] at this
  exact this
set_option maxRecDepth 100000 in
set_option maxHeartbeats 4000000 in
theorem pascal_any (n : Nat) (w : World) (hn : n ≤ 40) :
    Calls Try.prog 59 #[.int .i64 n] w fun e w' => ∃ p c, e = .returned (.slice p (pasRow n).length c) ∧ SliceIn p (pasRow n).length (IntsAt w' (pasRow n)) ∧ Below w.heap.size w w' := by
  obtain ⟨i0, hi0, hz0, hz1, hz2⟩ := info_parts infoInt
  have HO0 := Lib.hid (one_own w 1)
  have B0 := Lib.hid (below_alloc (Below.refl w.heap.size w) (.cells #[.int .i64 1] 3))
  go_enter Try.func59, Try.ntmps59
  go_upto_region 2 with fail
  generalize w.alloc (.cells #[.int .i64 1] 3) = W0 at *
  go_wp2
  go_loopw [3, 4] (fun s i wr => ∃ (r : Nat) (v : Value), r ≤ n ∧ s = v ∧ i = .int .i64 (r : Int) ∧ Hid (OwnI w.heap.size wr v (pasRow r)) ∧ Hid (Below w.heap.size w wr)) (fun _ i _ => n - (intOf i).toNat)
  case atStart => exact ⟨0, _, Nat.zero_le _, rfl, rfl, HO0, B0⟩
  case round =>
    obtain ⟨r, v, hr, rfl, rfl, HO, HB⟩ := hrel
    have hlr := pasRow_len r
    by_cases hlt : r < n
    · have hrn : (r : Int) < (n : Int) := by omega
      obtain ⟨b, c, rfl, hI⟩ := HO.out.ints (by omega)
      have HP := Lib.hid (PasAt.start HO.out HB.out)
      have HLR := Lib.hid hlr
      have w0 : IntKind.i64.wrap ((r : Int) + 1) = (r : Int) + 1 := IntWalk.i64_in _ (by omega)
      clear hI hlr
      go_upto_region 6 with fail
      generalize wr.alloc (.cells #[.int .i64 1] 3) = X1 at *
      go_wp2
      go_loopw [5, 6] (fun s i wx => ∃ (q t : Nat) (v : Value), q ≤ r ∧ t = q + 1 ∧ s = v ∧ i = .int .i64 (t : Int) ∧ Hid (PasAt w wx (.slice (some ⟨b, 0, none⟩) (pasRow r).length c) v (pasRow r) (pasNext (pasRow r) q))) (fun _ i _ => 100 - (intOf i).toNat)
      case atStart => exact ⟨0, 1, _, Nat.zero_le _, rfl, rfl, rfl, HP⟩
      case round =>
        obtain ⟨q, t, v, hq, ht, rfl, rfl, HT⟩ := hrel
        by_cases hqr : q < r
        · have htl' : (t : Int) < ((pasRow r).length : Int) := by have := HLR.out; omega
          have hql' : (q : Int) < ((pasRow r).length : Int) := by have := HLR.out; omega
          have hI := HT.out.reads (by have := HLR.out; omega)
          have hqn : q < (pasRow r).length := by have := HLR.out; omega
          have htn : t < (pasRow r).length := by have := HLR.out; omega
          have y0 := atL_at hI hqn
          have y1 := atL_at hI htn
          have hz := cell_lt y0
          have b0 := pas_bd (n := r) (by omega) q
          have b1 := pas_bd (n := r) (by omega) t
          have hL : pasNext (pasRow r) (q + 1) = pasNext (pasRow r) q ++ [atL (pasRow r) q + atL (pasRow r) t] := by rw [ht]; rfl
          have hnl := pasNext_len (pasRow r) q
          have v1 : IntKind.i64.wrap ((t : Int) - 1) = (q : Int) := by rw [IntWalk.i64_in _ (by omega)]; omega
          have v2 : IntKind.i64.wrap ((t : Int) + 1) = (t : Int) + 1 := IntWalk.i64_in _ (by omega)
          obtain ⟨x0, hx0⟩ : ∃ x0, x0 = atL (pasRow r) q := ⟨_, rfl⟩
          obtain ⟨x1, hx1⟩ : ∃ x1, x1 = atL (pasRow r) t := ⟨_, rfl⟩
          rw [← hx0] at y0 b0 hL
          rw [← hx1] at y1 b1 hL
          have HL := Lib.hid hL
          have HX0 := Lib.hid hx0
          have HX1 := Lib.hid hx1
          have HTQ := Lib.hid ht
          have t41 : t ≤ 41 := by omega
          have v3 : IntKind.i64.wrap (x0 + x1) = x0 + x1 := IntWalk.i64_in _ (by omega)
          have hB0 : Below wr.heap.size wr wr.drew := Below.drew (Below.refl _ _)
          clear hI ht b0 b1 hx0 hx1 hL
          go_upto_region 9 with fail
          go_region_held3 (fun w' => w'.cell? ⟨b, q, none⟩ = some (.int .i64 x0) ∧ w'.cell? ⟨b, t, none⟩ = some (.int .i64 x1))
            (first | exact ⟨y0, y1⟩ | exact ⟨hk0, hk1⟩ | exact ⟨cell_below (below_alloc hB0 _) y0, cell_below (below_alloc hB0 _) y1⟩)
            (first | (refine step_append_lies _ rfl (.tmp 20) (.tmp 31) _ rfl w.heap.size 3 i0 (.int .i64 0) 1 8 Try.underlying22 hi0 hz0 hz1 hz2 rfl (by decide) _ _ _ rfl ((HT.out.below hB0).o2.alloc _) ⟨_, 0, none⟩ 1 1 [.int .i64 (x0 + x1)] rfl rfl (cell_one_new _ _ _) (by simp [Value.oneCell']) (by decide) (by rw [hnl]; unfold maxLen; omega) (by rw [hnl]; omega) (by have := HT.out.bel.size; simp; omega) _ rfl ?_; intro gn cn z1 hown hg hat _; have HT3 := Lib.hid ((HT.out.below hB0).lies hown hg hat); have hr3 := HT3.out.reads (by have := HLR.out; omega); have hk0 : z1.cell? ⟨b, q, none⟩ = some (.int .i64 x0) := (by rw [HX0.out]; exact atL_at hr3 hqn); have hk1 : z1.cell? ⟨b, t, none⟩ = some (.int .i64 x1) := (by rw [HX1.out]; exact atL_at hr3 htn); clear hown hg hat hr3))
          go_wp2_with fail
          rw [← HL.out, hnl] at HT3
          go_roundw
          case rel => exact ⟨q + 1, t + 1, _, by omega, by rw [HTQ.out], rfl, by simp, HT3⟩
          case measure => simp [intOf]; omega
        · obtain rfl : q = r := by omega
          have htl : ¬ ((t : Int) < ((pasRow q).length : Int)) := by have := HLR.out; omega
          have hnl := pasNext_len (pasRow q) q
          have HL := Lib.hid (show pasRow (q + 1) = pasNext (pasRow q) q ++ [1] from rfl)
          clear ht
          go_wp2_with (at_builtin; refine wpList_append_own_at _ rfl (.tmp 33) (.tmp 34) _ rfl w.heap.size 3 i0 (.int .i64 0) 1 8 Try.underlying22 hi0 hz0 hz1 hz2 rfl (by decide) _ _ _ rfl (HT.out.o2.alloc _) ⟨_, 0, none⟩ 1 1 [.int .i64 1] rfl rfl (cell_one_new _ _ _) (by simp [Value.oneCell']) (by rw [hnl]; unfold maxLen; omega) (by rw [hnl]; omega) (by have := HT.out.bel.size; simp; omega) ?_; intro v' z1 hown hg _ hb; have HT3 := Lib.hid (HT.out.step hown hg hb); clear hown hg hb)
          rw [← HL.out] at HT3
          go_roundw
          case rel => exact ⟨q + 1, _, by omega, rfl, by simp, Lib.hid HT3.out.o2, Lib.hid HT3.out.bel⟩
          case measure => simp [intOf]; omega
    · obtain rfl : r = n := by omega
      obtain ⟨p, c, rfl, hs, -⟩ := HO.out.ser
      have HSL := Lib.hid hs
      clear hs hlr
      go_wp2
      go_ret
      first
        | exact ⟨p, ⟨c, rfl⟩, HSL.out, HB.out⟩
        | exact ⟨p, c, rfl, HSL.out, HB.out⟩
theorem ins_succ (n k i : Nat) : insS n k (i + 1) = insS n k i + (if k ≤ i ∧ i + k ≤ n then atL (pasRow n) i else 0) := rfl
theorem all_succ (n i : Nat) : allS n (i + 1) = allS n i + atL (pasRow n) i := rfl
set_option maxRecDepth 100000 in
set_option maxHeartbeats 4000000 in
theorem rchance_ok (N K : Nat) (w : World) (hn : 2 ≤ N ∧ N ≤ 40) (hk : 1 ≤ K ∧ 2 * K ≤ N) :
    Calls Try.prog 16 #[.int .i64 N, .int .i64 K] w fun e w' => e = .returned (.tuple #[.agg #[.int .i64 (lowN (chN N K) (2 ^ N)), .int .i64 (lowD (chN N K) (2 ^ N))], .int .i64 0]) ∧ Below w.heap.size w w' := by
  have a0 := below_alloc (Below.refl w.heap.size w) (.cells #[.int .i64 0, .int .i64 0] 24)
  have HP := Lib.hid (fun W => pascal_any N W hn.2)
  have HB0 := Lib.hid a0
  have HRB : Hid (RBox (w.alloc (.cells #[.int .i64 0, .int .i64 0] 24)) w.heap.size 0 0) := Lib.hid (RBox.new _ _ _ _)
  obtain ⟨e1, e2⟩ := sums_eq hn.2 hk.1 hk.2
  have hpw := pow_bd hn.2
  have hib := insS_bd hn.2 K (N + 1) (by omega)
  rw [e2] at hib
  have HFR := Lib.hid (fun W => rfrac_any (chN N K) (2 ^ N) W (by omega) (by omega))
  have E1 := Lib.hid e1
  have E2 := Lib.hid e2
  have hq : IntKind.i64.wrap ((N : Int).tdiv 2) = (N : Int) / 2 := IntWalk.i64_quo (N : Int) 2 (by omega)
  have w3 : IntKind.i64.wrap ((N : Int) - (K : Int)) = ((N - K : Nat) : Int) := by rw [IntWalk.i64_in _ (by omega)]; omega
  have HW1 := Lib.hid (fun W => rin_yes (N : Int) 2 40 W (by omega))
  have HW2 := Lib.hid (fun W => rin_yes (K : Int) 1 ((N : Int) / 2) W (by omega))
  have HPB := Lib.hid (fun i => pas_bd hn.2 i)
  have HAB := Lib.hid (fun i hi => allS_bd hn.2 i hi)
  have HNB := Lib.hid (fun i hi => insS_bd hn.2 K i hi)
  have hlr := pasRow_len N
  clear a0 e1 e2 hpw hib
  obtain ⟨NK, hNK⟩ : ∃ NK : Nat, NK = N - K := ⟨_, rfl⟩
  rw [← hNK] at w3
  have HNK := Lib.hid hNK
  have HLR := Lib.hid hlr
  clear hNK hlr
  go_enter Try.func16, Try.ntmps16
  go_wp2_with (first | (go_at_call 58; refine (HW1.out _).mono ?_; clear HW1; rintro e w1 ⟨rfl, rfl⟩) | (go_at_call 58; refine (HW2.out _).mono ?_; clear HW2; rintro e w1 ⟨rfl, rfl⟩))
  refine (HP.out _).mono ?_
  rintro e w1' ⟨p, c, rfl, hI, hb⟩
  have HRB1 := Lib.hid (HRB.out.below hb)
  have HB1 := Lib.hid (HB0.out.trans (hb.mono HB0.out.size))
  have HI := Lib.hid hI
  clear hb hI HP
  go_wp2
  go_loop [7, 8, 9] (fun a b i => ∃ k : Nat, k ≤ N + 1 ∧ i = .int .i64 (k : Int) ∧ a = .int .i64 (insS N K k) ∧ b = .int .i64 (allS N k)) (fun _ _ i => 100 - (intOf i).toNat)
  case atStart => exact ⟨0, Nat.zero_le _, rfl, rfl, rfl⟩
  case round =>
    obtain ⟨i, hi, rfl, rfl, rfl⟩ := hrel
    by_cases hlt : i ≤ N
    · have hil : (i : Int) ≤ (N : Int) := by omega
      have hil2 : i < (pasRow N).length := by have := HLR.out; omega
      have hil3 : (i : Int) < ((pasRow N).length : Int) := by omega
      obtain ⟨b, o, rfl, hcc⟩ := HI.out.resolve_left (by omega)
      have c0 := hcc i hil2
      rw [atL_get] at c0
      have hx := HPB.out i
      have b1 := HAB.out i (by omega)
      have b2 := HNB.out i (by omega)
      have v1 : IntKind.i64.wrap ((i : Int) + 1) = (i : Int) + 1 := IntWalk.i64_in _ (by omega)
      have v2 : IntKind.i64.wrap (allS N i + atL (pasRow N) i) = allS N (i + 1) := by rw [all_succ]; exact IntWalk.i64_in _ (by omega)
      by_cases h1 : K ≤ i
      · have h1i : (K : Int) ≤ (i : Int) := by omega
        by_cases h2 : i + K ≤ N
        · have h2i : (i : Int) ≤ (NK : Int) := by have := HNK.out; omega
          have v3 : IntKind.i64.wrap (insS N K i + atL (pasRow N) i) = insS N K (i + 1) := by rw [ins_succ, if_pos ⟨h1, h2⟩]; exact IntWalk.i64_in _ (by omega)
          clear hcc hx b1 b2
          go_wp2
          go_round
          case rel => exact ⟨i + 1, by omega, by simp, rfl, rfl⟩
          case measure => simp [intOf]; omega
        · have h2i : ¬ ((i : Int) ≤ (NK : Int)) := by have := HNK.out; omega
          have HE := Lib.hid (show insS N K (i + 1) = insS N K i by rw [ins_succ, if_neg (fun h => h2 h.2)]; omega)
          clear hcc hx b1 b2
          go_wp2
          go_round
          case rel => exact ⟨i + 1, by omega, by simp, by rw [HE.out], rfl⟩
          case measure => simp [intOf]; omega
      · have h1i : ¬ ((K : Int) ≤ (i : Int)) := by omega
        have HE := Lib.hid (show insS N K (i + 1) = insS N K i by rw [ins_succ, if_neg (fun h => h1 h.1)]; omega)
        clear hcc hx b1 b2
        go_wp2
        go_round
        case rel => exact ⟨i + 1, by omega, by simp, by rw [HE.out], rfl⟩
        case measure => simp [intOf]; omega
    · obtain rfl : i = N + 1 := by omega
      rw [E1.out, E2.out]
      go_wp2_with fail
      refine (HFR.out _).mono ?_
      rintro e z ⟨rfl, hb⟩
      have HRB2 := Lib.hid (HRB1.out.below hb)
      have HB2 := Lib.hid (HB1.out.trans (hb.mono HB1.out.size))
      obtain ⟨b0, b1, f0, f1⟩ := HRB2.out
      have hz := cell_lt b0
      obtain ⟨r0, r1⟩ := set2 (.int .i64 (lowN (chN N K) (2 ^ N))) (.int .i64 (lowD (chN N K) (2 ^ N))) b0 b1
      clear hb
      go_wp2
      exact bodyPost_ret (v := .tuple #[.agg #[.int .i64 (lowN (chN N K) (2 ^ N)), .int .i64 (lowD (chN N K) (2 ^ N))], .int .i64 0]) (by simp [results, Try.results16, go_sem, r0, r1]) rfl ⟨rfl, below2 _ _ HB2.out (Nat.le_refl _)⟩
set_option maxRecDepth 100000 in
set_option maxHeartbeats 1000000 in
theorem rChance_any (n k : Int) (w : World) :
    Calls Try.prog 16 #[.int .i64 n, .int .i64 k] w fun e w' => e = .returned (varVal (chanceE n k)) ∧ Below w.heap.size w w' := by
  have HB := Lib.hid (below_alloc (Below.refl w.heap.size w) (.cells #[.int .i64 0, .int .i64 0] 24))
  by_cases hn : 2 ≤ n ∧ n ≤ 40
  · have hq : IntKind.i64.wrap (n.tdiv 2) = n / 2 := IntWalk.i64_quo n 2 (by omega)
    by_cases hk : 1 ≤ k ∧ k ≤ n / 2
    · obtain ⟨N, rfl⟩ : ∃ N : Nat, n = N := ⟨n.toNat, by omega⟩
      obtain ⟨K, rfl⟩ : ∃ K : Nat, k = K := ⟨k.toNat, by omega⟩
      have hE : chanceE N K = ⟨lowN (chN N K) (2 ^ N), lowD (chN N K) (2 ^ N), 0⟩ := if_pos ⟨hn, hk⟩
      rw [hE]
      exact rchance_ok N K w (by omega) (by omega)
    · have HE := Lib.hid (show chanceE n k = ⟨0, 0, 1⟩ from if_neg (fun h => hk h.2))
      have HW1 := Lib.hid (fun W => rin_yes n 2 40 W hn)
      have HW2 := Lib.hid (fun W => rin_no k 1 (n / 2) W hk)
      rw [HE.out]
      clear hk
      go_enter Try.func16, Try.ntmps16
      go_wp2_with (first | (go_at_call 58; refine (HW1.out _).mono ?_; clear HW1; rintro e w1 ⟨rfl, rfl⟩) | (go_at_call 58; refine (HW2.out _).mono ?_; clear HW2; rintro e w1 ⟨rfl, rfl⟩))
      exact bodyPost_ret (v := .tuple #[.agg #[.int .i64 0, .int .i64 0], .int .i64 1]) (by simp [results, Try.results16, go_sem]) rfl ⟨rfl, HB.out⟩
  · have HE := Lib.hid (show chanceE n k = ⟨0, 0, 1⟩ from if_neg (fun h => hn h.1))
    have HW1 := Lib.hid (fun W => rin_no n 2 40 W hn)
    rw [HE.out]
    clear hn
    go_enter Try.func16, Try.ntmps16
    go_wp2_with (go_at_call 58; refine (HW1.out _).mono ?_; rintro e w1 ⟨rfl, rfl⟩)
    exact bodyPost_ret (v := .tuple #[.agg #[.int .i64 0, .int .i64 0], .int .i64 1]) (by simp [results, Try.results16, go_sem]) rfl ⟨rfl, HB.out⟩
end Go.Proofs.Ythkndjkgokojmaa
