/- Contracts of the reference of layer 3: Second, mean. -/
import Derived.Test.YthkndjkgokojmaaRa
namespace Go.Proofs.Ythkndjkgokojmaa
open Go Go.RowKit Go.Shelf
set_option maxRecDepth 100000 in
set_option maxHeartbeats 1000000 in
theorem rsecond_any (tau : Int) (l : List Int) (p : Option Addr) (cap M i : Nat) (w : World) (hs : SerIn w l p) (hp : phasesOk l = true) (h128 : l.length ≤ 128) (h : i + 2 * M < l.length) :
    Calls Try.prog 68 #[.agg #[.int .i64 tau, .slice p l.length cap], .int .i64 M, .int .i64 i] w fun e w' => e = .returned (.int .i64 (secAt l M i)) ∧ Below w.heap.size w w' := by
  obtain ⟨b, o, rfl, hi⟩ := hs.2.resolve_left (by omega)
  have a0 := below_alloc (Below.refl w.heap.size w) (.cells #[.int .i64 tau, .slice (some ⟨b, o, none⟩) l.length cap] 63)
  have x1 : (w.alloc (.cells #[.int .i64 tau, .slice (some ⟨b, o, none⟩) l.length cap] 63)).cell? ⟨w.heap.size, 1, none⟩ = some (.slice (some ⟨b, o, none⟩) l.length cap) := by simp
  obtain ⟨u, hu⟩ : ∃ u : Nat, u = i + 2 * M := ⟨_, rfl⟩
  obtain ⟨v, hv⟩ : ∃ v : Nat, v = i + M := ⟨_, rfl⟩
  have hu2 : u < l.length := by omega
  have hv2 : v < l.length := by omega
  have hi2 : i < l.length := by omega
  have c0 := cell_below a0 (hi u hu2)
  have c1 := cell_below a0 (hi v hv2)
  have c2 := cell_below a0 (hi i hi2)
  rw [atL_get] at c0 c1 c2
  have b0 := atL_bd hp u
  have b1 := atL_bd hp v
  have b2 := atL_bd hp i
  have HR := Lib.hid (show atL l u - atL l v - (atL l v - atL l i) = secAt l M i by unfold secAt; rw [hu, hv]; omega)
  have A0 := Lib.hid a0
  have w1 : IntKind.i64.wrap (2 * (M : Int)) = 2 * (M : Int) := IntWalk.i64_in _ (by omega)
  have w2 : IntKind.i64.wrap ((i : Int) + 2 * (M : Int)) = (u : Int) := by rw [IntWalk.i64_in _ (by omega)]; omega
  have w3 : IntKind.i64.wrap ((i : Int) + (M : Int)) = (v : Int) := by rw [IntWalk.i64_in _ (by omega)]; omega
  have l0 : (u : Int) < (l.length : Int) := by omega
  have l1 : (v : Int) < (l.length : Int) := by omega
  have l2 : (i : Int) < (l.length : Int) := by omega
  clear hi hs a0 hu hv h
  generalize atL l u = x at *
  generalize atL l v = y at *
  generalize atL l i = z at *
  have w4 : IntKind.i64.wrap (x - y) = x - y := IntWalk.i64_in _ (by omega)
  have w5 : IntKind.i64.wrap (y - z) = y - z := IntWalk.i64_in _ (by omega)
  have w6 : IntKind.i64.wrap (x - y - (y - z)) = x - y - (y - z) := IntWalk.i64_in _ (by omega)
  go_enter Try.func68, Try.ntmps68
  go_wp2
  go_quiet (fail)
  go_wp2
  go_ret
  exact ⟨ret_i64 HR.out, below_drewN A0.out _⟩
theorem sqSum_take (xs : List SInt) (k : Nat) (h : k < xs.length) : sqSum (xs.take (k + 1)) = sqSum (xs.take k) + xs[k].1 * xs[k].1 := by
  rw [← sqSum_snoc, List.take_succ_eq_append_getElem h]
set_option maxRecDepth 100000 in
set_option maxHeartbeats 1000000 in
theorem rmean_any (xs : List SInt) (p : Option Addr) (cap : Nat) (dv : Int) (w : World) (hs : SliceIn p xs.length (IntsAt w (xs.map fun d => d.1))) (h128 : xs.length ≤ 128) (hd : 1 ≤ dv ∧ dv ≤ 10000000000000000) :
    Calls Try.prog 69 #[.slice p xs.length cap, .int .i64 dv] w fun e w' => e = .returned (varVal (varE xs dv)) ∧ Below w.heap.size w w' := by
  have a0 := below_alloc (Below.refl w.heap.size w) (.cells #[.int .i64 0, .int .i64 0] 24)
  have A0 := Lib.hid a0
  have x0 : Hid ((w.alloc (.cells #[.int .i64 0, .int .i64 0] 24)).cell? ⟨w.heap.size, 0, none⟩ = some (.int .i64 0)) := Lib.hid (by simp)
  have x1 : Hid ((w.alloc (.cells #[.int .i64 0, .int .i64 0] 24)).cell? ⟨w.heap.size, 1, none⟩ = some (.int .i64 0)) := Lib.hid (by simp)
  have g0 : Hid ((w.alloc (.cells #[.int .i64 0, .int .i64 0] 24)).frozen? ⟨w.heap.size, 0, none⟩ = false) := Lib.hid (by simp)
  have g1 : Hid ((w.alloc (.cells #[.int .i64 0, .int .i64 0] 24)).frozen? ⟨w.heap.size, 1, none⟩ = false) := Lib.hid (by simp)
  have HS := Lib.hid (hs.imp fun _ _ h => h.below a0)
  have hml : (xs.map fun d : SInt => d.1).length = xs.length := List.length_map _
  by_cases hx : xs = []
  · subst hx
    have HE : Hid (varVal (varE [] dv) = .tuple #[.agg #[.int .i64 0, .int .i64 0], .int .i64 4]) := Lib.hid rfl
    have HB := Lib.hid ((a0.setCell (p := ⟨w.heap.size, 0, none⟩) (Nat.le_refl _) (.int .i64 0)).setCell (p := ⟨w.heap.size, 1, none⟩) (Nat.le_refl _) (.int .i64 0))
    have e0 := x0.out
    have e1 := x1.out
    have e2 := g0.out
    have e3 := g1.out
    clear hs a0 hml
    show Calls Try.prog 69 #[.slice p 0 cap, .int .i64 dv] w _
    rw [HE.out]
    go_enter Try.func69, Try.ntmps69
    go_wp2
    exact bodyPost_ret (v := .tuple #[.agg #[.int .i64 0, .int .i64 0], .int .i64 4]) (by simp [results, Try.results69, go_sem]) rfl ⟨rfl, by first | exact A0.out | exact HB.out⟩
  · have hne : ((xs.length : Int) == 0) = false := by have := List.length_pos_iff.2 hx; simp; omega
    have hn0 : ¬ ((xs.length : Int) = 0) := by have := List.length_pos_iff.2 hx; omega
    have hn1 : 1 ≤ xs.length := List.length_pos_iff.2 hx
    have hE : varVal (varE xs dv) = .tuple #[.agg #[.int .i64 (lowN (sqSum xs) (xs.length * dv)), .int .i64 (lowD (sqSum xs) (xs.length * dv))], .int .i64 0] := by unfold varE; rw [if_neg hx]; rfl
    have hmb := mul_bd2 (x := (xs.length : Int)) (y := dv) (a := 128) (b := 10000000000000000) (by omega) (by omega)
    have hD1 : 1 ≤ (xs.length : Int) * dv := by have := Int.mul_pos (show (0 : Int) < xs.length by omega) (show 0 < dv by omega); omega
    have wD : IntKind.i64.wrap (dv * (xs.length : Int)) = (xs.length : Int) * dv := by rw [Int.mul_comm]; exact IntWalk.i64_in _ (by omega)
    have HBD := Lib.hid (fun ys : List SInt => sqSum_bd ys)
    have HD := Lib.hid (show 1 ≤ (xs.length : Int) * dv ∧ (xs.length : Int) * dv ≤ 9223372036854775807 by omega)
    rw [hE]
    clear hs a0 hE hmb hD1
    generalize (xs.length : Int) * dv = D at *
    go_enter Try.func69, Try.ntmps69
    go_wp2
    generalize w.alloc (.cells #[.int .i64 0, .int .i64 0] 24) = W1 at *
    go_loopw [6, 7] (fun t i wr => ∃ k : Nat, k ≤ xs.length ∧ i = .int .i64 (k : Int) ∧ t = .int .i64 (sqSum (xs.take k)) ∧ Hid (Below W1.heap.size W1 wr)) (fun _ i _ => xs.length - (intOf i).toNat)
    case atStart => exact ⟨0, Nat.zero_le _, rfl, rfl, Lib.hid (Below.refl _ _)⟩
    case round =>
      obtain ⟨k, hk, rfl, rfl, HB⟩ := hrel
      by_cases hlt : k < xs.length
      · have hkl : (k : Int) < (xs.length : Int) := by omega
        obtain ⟨b, o, rfl, hi⟩ := HS.out.resolve_left (by omega)
        have c0 := cell_below HB.out (hi k (by rw [hml]; exact hlt))
        rw [List.getElem_map] at c0
        have hsq := sq_bd xs[k]
        have ht := HBD.out (xs.take k)
        have ht2 : (xs.take k).length ≤ 128 := by simp; omega
        have HTK := Lib.hid (sqSum_take xs k hlt)
        clear hi
        generalize xs[k].1 = x at *
        have w1 : IntKind.i64.wrap (x * x) = x * x := IntWalk.i64_in _ (by omega)
        have w2 : IntKind.i64.wrap (sqSum (xs.take k) + x * x) = sqSum (xs.take k) + x * x := IntWalk.i64_in _ (by omega)
        have w3 : IntKind.i64.wrap ((k : Int) + 1) = (k : Int) + 1 := IntWalk.i64_in _ (by omega)
        clear hsq ht ht2
        go_wp2
        go_quiet (fail)
        go_wp2
        go_roundw
        case rel => exact ⟨k + 1, by omega, by go_num, by rw [HTK.out], Lib.hid (below_drewN HB.out _)⟩
        case measure => simp [intOf]; omega
      · obtain rfl : k = xs.length := by omega
        rw [List.take_length]
        have ht := HBD.out xs
        have HFR := Lib.hid (rfrac_any (sqSum xs) D wr (by omega) HD.out)
        have HB2 := Lib.hid (A0.out.trans (HB.out.mono A0.out.size))
        have e0 := cell_below HB.out x0.out
        have e1 := cell_below HB.out x1.out
        have e2 := (HB.out.frozen (p := ⟨w.heap.size, 0, none⟩) (cell_lt x0.out)).trans g0.out
        have e3 := (HB.out.frozen (p := ⟨w.heap.size, 1, none⟩) (cell_lt x1.out)).trans g1.out
        clear ht
        go_wp2_with fail
        refine HFR.out.mono ?_
        rintro e w2 ⟨rfl, hb⟩
        have d0 := cell_below hb e0
        have d1 := cell_below hb e1
        have d2 := (hb.frozen (p := ⟨w.heap.size, 0, none⟩) (cell_lt e0)).trans e2
        have d3 := (hb.frozen (p := ⟨w.heap.size, 1, none⟩) (cell_lt e1)).trans e3
        have hz := cell_lt d0
        have HF := Lib.hid (((HB2.out.trans (hb.mono HB2.out.size)).setCell (p := ⟨w.heap.size, 0, none⟩) (Nat.le_refl _) (.int .i64 (lowN (sqSum xs) D))).setCell (p := ⟨w.heap.size, 1, none⟩) (Nat.le_refl _) (.int .i64 (lowD (sqSum xs) D)))
        have f0 := two_c0 (.int .i64 (lowN (sqSum xs) D)) d0
        have f1 := two_c1 (.int .i64 (lowN (sqSum xs) D)) (.int .i64 (lowD (sqSum xs) D)) d1
        clear hb e0 e1 e2 e3
        go_wp2
        exact bodyPost_ret (v := .tuple #[.agg #[.int .i64 (lowN (sqSum xs) D), .int .i64 (lowD (sqSum xs) D)], .int .i64 0]) (by simp [results, Try.results69, go_sem, f0, f1]) rfl ⟨rfl, HF.out⟩
end Go.Proofs.Ythkndjkgokojmaa
