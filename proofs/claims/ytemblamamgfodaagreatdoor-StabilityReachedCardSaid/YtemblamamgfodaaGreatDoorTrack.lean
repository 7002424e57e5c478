/- Contracts: what a clock shows at several seconds. -/
import Derived.Test.YtemblamamgfodaaGreatDoorPlain
import Derived.Test.YtemblamamgfodaaGreatDoorPairs
import Derived.Test.YtemblamamgfodaaGreatDoorOpen
import Derived.Deep.AppendLies
import Derived.Maps.AppendAt
import Derived.Deep.RegionHeld3
import Derived.OwnWalk
import Derived.Laws.Pointers
namespace Go.Proofs.YtemblamamgfodaaGreatDoor.Wd
open Go Go.RowKit
theorem below_grown {row : Option Nat} {X Y Z : World} (h : Below X.heap.size X Y) (hg : Y.grownBy Z row) (hr : ∀ g, row = some g → X.heap.size ≤ g) : Below X.heap.size X Z := h.grown hg h.size (fun g hx => hr g hx)
theorem own_below {w w' : World} {b s n : Nat} {e : TypeId} {v : Value} {xs : List Value} {B : Nat} (h : w.ownsRow b e s v n xs) (hb : Below B w w') (hB : w.heap.size ≤ B) : w'.ownsRow b e s v n xs := by
  refine ⟨h.1, ?_⟩
  rcases h.2 with hn | ⟨g, cap, cur, hv, hbg, hg, rest⟩
  · exact .inl hn
  · exact .inr ⟨g, cap, cur, hv, hbg, (hb.block g (by have := heap_lt hg; omega)).trans hg, rest⟩
theorem below_alloc' {X Y : World} (h : Below X.heap.size X Y) (o : Obj) : Below X.heap.size X (Y.alloc o) := h.alloc h.size o
theorem infoInt : (Tryz.prog.info? 3).map (fun i => (i.zero, i.size, i.bytes)) = some (some (.int .i64 0), 1, 8) := by kernel_rfl
def ints (l : List Int) : List Value := l.map (Value.int .i64)
theorem ints_snoc (l : List Int) (x : Int) : ints (l ++ [x]) = ints l ++ [.int .i64 x] := by simp [ints]
/-- a slice of numbers, as it lies in memory -/
def IntRow (w : World) (v : Value) (l : List Int) : Prop := ∃ p cap, v = .slice p l.length cap ∧ l.length ≤ maxLen ∧ SliceIn p l.length (IntsAt w l)
theorem IntRow.below {w w' : World} {v : Value} {l : List Int} (h : IntRow w v l) (hb : Below w.heap.size w w') : IntRow w' v l := by
  obtain ⟨p, cap, rfl, hm, hs⟩ := h
  exact ⟨p, cap, rfl, hm, hs.imp fun b o h => h.below hb⟩
theorem intRow_nil (w : World) : IntRow w (.slice none 0 0) [] := ⟨none, 0, rfl, by simp [maxLen], .inl rfl⟩
theorem intRow_of_own {w : World} {b : Nat} {e : TypeId} {v : Value} {n : Nat} {l : List Int} (h : w.ownsRow b e 1 v n (ints l)) (hm : l.length ≤ maxLen) : IntRow w v l := by
  have hn : n = l.length := by have := h.1; simp [ints] at this; omega
  subst hn
  rcases h.2 with ⟨rfl, h0⟩ | ⟨g, cap, cur, rfl, hbg, hg, hrest⟩
  · refine ⟨none, 0, by rw [h0], hm, .inl h0⟩
  · refine ⟨_, cap, rfl, hm, .inr ⟨g, 0, rfl, fun i hi => ?_⟩⟩
    have := h.cells (g := g) rfl i (.int .i64 l[i]) (by simp [ints, hi])
    rw [add_plain] at this
    exact this
theorem own_ge {w : World} {b : Nat} {e : TypeId} {v : Value} {n k : Nat} {xs : List Value} (h : w.ownsRow b e 1 v n xs) (hk : v.ownBlock = some k) : b ≤ k := by
  rcases h.2 with ⟨rfl, h0⟩ | ⟨g, cap, cur, rfl, hbg, hg, hrest⟩
  · simp [Value.ownBlock] at hk
  · simp [Value.ownBlock] at hk
    omega
/-- what a track answers -/
def TrackRet (g : ListErr) (w : World) (e : Ending) (w' : World) : Prop := ∃ v, e = .returned (.tuple #[v, .int .i64 g.e]) ∧ (IntRow w' v g.l ∧ ∀ k, v.ownBlock = some k → w.heap.size ≤ k) ∧ Below w.heap.size w w'
theorem trackRet_nil {g : ListErr} {k : Int} {w w' : World} (hg : g = ⟨[], k⟩) (hb : Below w.heap.size w w') : TrackRet g w (.returned (.tuple #[.slice none 0 0, .int .i64 k])) w' := by
  subst hg; exact ⟨_, rfl, ⟨intRow_nil _, fun k h => by simp [Value.ownBlock] at h⟩, hb⟩
theorem trackRet_of {g g' : ListErr} {w w' : World} {v : Value} (hg : g = g') (hr : IntRow w' v g'.l ∧ ∀ k, v.ownBlock = some k → w.heap.size ≤ k) (hb : Below w.heap.size w w') : TrackRet g w (.returned (.tuple #[v, .int .i64 g'.e])) w' := by
  subst hg; exact ⟨v, rfl, hr, hb⟩
def beforeOf (x st : Int) : Nat → Int
  | 0 => 0
  | q + 1 => x + (q : Int) * st
theorem beforeOf_bd {x st n : Int} {q : Nat} (h1 : 1 ≤ st) (h2 : 0 ≤ x ∧ x ≤ 1000000) (h3 : n ≤ 1 ∨ st * (n - 1) ≤ 1000000 - x) (hq : (q : Int) < n) : 0 ≤ beforeOf x st q ∧ beforeOf x st q ≤ x + (q : Int) * st := by
  cases q with
  | zero => simp [beforeOf]; omega
  | succ q =>
    have h := track_sec (i := q) h1 h2 h3 (by omega)
    show 0 ≤ x + (q : Int) * st ∧ x + (q : Int) * st ≤ x + ((q + 1 : Nat) : Int) * st
    have e : ((q + 1 : Nat) : Int) * st = (q : Int) * st + st := by rw [Int.natCast_add, Int.add_mul]; simp
    rw [e]; omega
def trackOf (seed k : Int) (c : Clk) (r : Cham) (x st : Int) (n : Nat) : ListErr := if trackRuns c x st n = true then ⟨trackL seed k c r x st n, 0⟩ else ⟨[], 22⟩
set_option maxRecDepth 100000 in
set_option maxHeartbeats 4000000 in
theorem track_at {a m : Nat} {c : Clk} {seed k : Int} {r : Cham} {v : Value} (x st : Int) (n : Nat) (w : World) (h : AtWork w a m c seed k r v) (hc : ClkIn c) (hr : chamOk r = true) (hk : 0 ≤ k ∧ k ≤ 16)
    (h1 : 1 ≤ st ∧ st ≤ 9223372036854775807) (h2 : 0 ≤ x ∧ x ≤ 1000000) (hn : n ≤ 20000) (h3 : (n : Int) ≤ 1 ∨ st * ((n : Int) - 1) ≤ 1000000 - x) :
    Calls Tryz.prog 51 #[.pointer (some ⟨a, 0, none⟩), .int .i64 x, .int .i64 st, .int .i64 n] w (TrackRet (trackOf seed k c r x st n) w) := by
  obtain ⟨i0, hi0, hz0, hz1, hz2⟩ := info_parts infoInt
  have H := Lib.hid h
  have HC := Lib.hid hc
  have HR := Lib.hid hr
  have H3 := Lib.hid h3
  clear h hc hr h3
  go_enter Tryz.func51, Tryz.ntmps51
  go_wp2_with (at_make; refine wpList_make_own _ rfl _ _ 38 rfl w.heap.size 3 i0 (.int .i64 0) 1 Tryz.underlying38 hi0 hz0 hz1 .i64 .i64 _ n rfl rfl rfl (by rw [hz2]; omega) (by unfold maxLen; omega) (Nat.le_refl _) ?_; intro w0 hown0 hgrow0; have HO0 := Lib.hid hown0; have HB0 := Lib.hid (below_grown (Below.refl w.heap.size w) hgrow0 (fun g hg => by cases hg)); clear hown0 hgrow0)
  go_loopw [10, 11, 12, 18] (fun l b f i wr => ∃ q : Nat, q ≤ n ∧ i = .int .i64 q ∧ b = .int .i64 (beforeOf x st q) ∧ f = .int .i64 (walkedS seed k c.walk 0 (beforeOf x st q)) ∧ Hid (trackRuns c x st q = true) ∧ Hid (wr.ownsRow w.heap.size 3 1 l q (ints (trackL seed k c r x st q))) ∧ Hid (Below w.heap.size w wr)) (fun _ _ _ i _ => n - (intOf i).toNat)
  case atStart => exact ⟨0, Nat.zero_le _, rfl, rfl, (by simp [walkedS, sumDraws, beforeOf]), Lib.hid rfl, HO0, HB0⟩
  case round =>
    obtain ⟨q, hq, rfl, rfl, rfl, HRN, HO, HB⟩ := hrel
    by_cases hlt : q < n
    · obtain ⟨⟨m0, m1⟩, s0, s1⟩ := track_sec (i := q) h1.1 h2 H3.out (by omega)
      obtain ⟨b0, b1⟩ := beforeOf_bd (q := q) h1.1 h2 H3.out (by omega)
      have hwb := walked_bd seed k c.walk 0 (beforeOf x st q) HC.out.walk.1 (Int.le_refl 0) b0
      have hsb := stray_bd HC.out 0 (beforeOf x st q) (Int.le_refl 0) b0 (by omega)
      have hwc := walked_bd seed k c.walk (beforeOf x st q) (x + (q : Int) * st) HC.out.walk.1 b0 b1
      have hsc := stray_bd HC.out (beforeOf x st q) (x + (q : Int) * st) b0 b1 s1
      have w1 : -10000000000000 ≤ walkedS seed k c.walk 0 (beforeOf x st q) ∧ walkedS seed k c.walk 0 (beforeOf x st q) ≤ 10000000000000 := by omega
      have w2 : -10000000000000 ≤ walkedS seed k c.walk (beforeOf x st q) (x + (q : Int) * st) ∧ walkedS seed k c.walk (beforeOf x st q) (x + (q : Int) * st) ≤ 10000000000000 := by omega
      have hfb := fixed_bd HC.out HR.out (x + (q : Int) * st) s0 s1
      have hwh := white_bd seed k HC.out (x + (q : Int) * st)
      have hcw := HC.out.white
      have w3 : -1000000000000 ≤ whiteS seed k c (x + (q : Int) * st) ∧ whiteS seed k c (x + (q : Int) * st) ≤ 1000000000000 := by omega
      have HADD := Lib.hid (walked_add seed k c.walk (beforeOf x st q) (x + (q : Int) * st) b0 b1)
      clear hwb hsb hwc hsc hwh hcw
      cases hrn : runsS c (x + (q : Int) * st)
      · have hst : (!(pastS (x + (q : Int) * st) c.evs).stopped) = false := hrn
        have HF := Lib.hid (show trackOf seed k c r x st n = ⟨[], 22⟩ by unfold trackOf; rw [trackRuns_no c x st q hrn n hlt]; rfl)
        clear hrn
        go_wp2_with (go_at_call 73; refine (runs_at _ _ (H.out.below HB.out) HC.out.evs s0 s1).mono ?_; rintro e w2 ⟨rfl, hb2⟩; have HB2 := Lib.hid hb2; clear hb2)
        go_ret2
        exact trackRet_nil HF.out (HB.out.trans (HB2.out.mono HB.out.size))
      · have hst : (!(pastS (x + (q : Int) * st) c.evs).stopped) = true := hrn
        have HRN2 := Lib.hid (show trackRuns c x st (q + 1) = true by unfold trackRuns; rw [HRN.out, hrn]; rfl)
        clear hrn
        go_wp2_with (go_at_call 73; refine (runs_at _ _ (H.out.below HB.out) HC.out.evs s0 s1).mono ?_; rintro e y2 ⟨rfl, hb2⟩; have HB2 := Lib.hid (HB.out.trans (hb2.mono HB.out.size)); have HO2 := Lib.hid (own_below HO.out hb2 (Nat.le_refl _)); clear hb2)
        refine (walked_at _ _ _ (H.out.below HB2.out) HC.out hk b0 b1 s1).mono ?_
        rintro e y3 ⟨rfl, hb3⟩
        have HB3 := Lib.hid (HB2.out.trans (hb3.mono HB2.out.size))
        have HO3 := Lib.hid (own_below HO2.out hb3 (Nat.le_refl _))
        clear hb3 HO2 HO HB2
        go_wp2_with fail
        refine (fixed_at _ _ (H.out.below HB3.out) HC.out HR.out s0 s1).mono ?_
        rintro e y4 ⟨rfl, hb4⟩
        have HB4 := Lib.hid (HB3.out.trans (hb4.mono HB3.out.size))
        have HO4 := Lib.hid (own_below HO3.out hb4 (Nat.le_refl _))
        clear hb4 HO3 HB3
        go_wp2_with fail
        refine (white_at _ _ (H.out.below HB4.out) HC.out s0 s1 hk).mono ?_
        rintro e y5 ⟨rfl, hb5⟩
        have HB5 := Lib.hid (HB4.out.trans (hb5.mono HB4.out.size))
        have HO5 := Lib.hid (own_below HO4.out hb5 (Nat.le_refl _))
        clear hb5 HO4 HB4
        have HV := Lib.hid (show fixedS c r (x + (q : Int) * st) + (walkedS seed k c.walk 0 (beforeOf x st q) + walkedS seed k c.walk (beforeOf x st q) (x + (q : Int) * st)) + whiteS seed k c (x + (q : Int) * st) = shownS seed k c r (x + (q : Int) * st) by
          unfold shownS phaseS; rw [HADD.out])
        have HW := Lib.hid (show walkedS seed k c.walk 0 (beforeOf x st q) + walkedS seed k c.walk (beforeOf x st q) (x + (q : Int) * st) = walkedS seed k c.walk 0 (beforeOf x st (q + 1)) from HADD.out.symm)
        have hszz := HB5.out.size
        go_wp2_with (at_builtin; refine wpList_append_lies _ rfl (.tmp 37) (.tmp 47) _ rfl w.heap.size 3 i0 (.int .i64 0) 1 8 Tryz.underlying38 hi0 hz0 hz1 hz2 rfl (by omega) _ q _ rfl (HO5.out.alloc _) ⟨y5.heap.size, 0, none⟩ 1 1 [_] rfl rfl (cell_one_new _ _ _) (by simp [Value.oneCell']) (by omega) (by unfold maxLen; omega) (by omega) (by simp; omega) _ rfl ?_; intro gg cap z1 hown1 hgrow _ _; have HO6 := Lib.hid hown1; have HB6 := Lib.hid (below_grown (below_alloc HB5.out _) hgrow (fun g hg => (HO5.out.lt g hg).1)); clear hown1 hgrow)
        go_roundw
        case rel => exact ⟨q + 1, by omega, by go_num, rfl, by rw [HW.out], HRN2, Lib.hid (by rw [HV.out] at HO6; show World.ownsRow _ _ _ _ _ _ (ints (trackL seed k c r x st q ++ [_])); rw [ints_snoc]; exact HO6.out), HB6⟩
        case measure => simp [intOf]; omega
    · obtain rfl : q = n := by omega
      have HF := Lib.hid (show trackOf seed k c r x st q = ⟨trackL seed k c r x st q, 0⟩ by unfold trackOf; rw [HRN.out]; rfl)
      go_wp2
      go_ret2
      exact trackRet_of HF.out ⟨intRow_of_own HO.out (by rw [trackL_len]; unfold maxLen; omega), fun k hk => own_ge HO.out hk⟩ HB.out
theorem trackE_err {W : Wld} {k x st n e : Int} (h : trackErr W k x st n = e) (he : e ≠ 0) : trackE W k x st n = ⟨[], e⟩ := by
  unfold trackE; rw [h, if_neg he]
theorem trackE_ok {W : Wld} {k x st n : Int} (h : trackErr W k x st n = 0) : trackE W k x st n = trackOf W.seed k (clkOf W k) (roomOf W k) x st n.toNat := by
  unfold trackE trackOf; rw [if_pos h]
set_option maxRecDepth 100000 in
set_option maxHeartbeats 2000000 in
theorem Track_any (W : Wld) (k x st n : Int) (p1 p2 : Option Addr) (k1 k2 : Nat) (w : World) (ht : Tabs w) (hW : WldIn w W p1 p2) (hst : st ≤ 9223372036854775807) :
    Calls Tryz.prog 14 #[wldVal W p1 p2 k1 k2, .int .i64 k, .int .i64 x, .int .i64 st, .int .i64 n] w (TrackRet (trackE W k x st n) w) := by
  have a0 : Below w.heap.size w (w.alloc (wldObj W p1 p2 k1 k2)) := below_alloc (Below.refl _ _) _
  have HT := Lib.hid ht
  have HW := Lib.hid hW
  have A0 := Lib.hid a0
  by_cases he : findErr W k [] = 0
  · have hall := allowed_find he
    have HE := Lib.hid he
    have HA := Lib.hid hall
    have hte : trackErr W k x st n = (if 1 ≤ st ∧ (0 ≤ n ∧ n ≤ 20000) then (if (0 ≤ x ∧ x ≤ 1000000) ∧ (n ≤ 1 ∨ st * (n - 1) ≤ 1000000 - x) then 0 else 21) else 1) := if_pos he
    have HTE := Lib.hid hte
    clear he hall hte ht hW a0
    by_cases h1 : st < 1
    · have d1 : decide (st < 1) = true := by simpa using h1
      have HF := Lib.hid (trackE_err (HTE.out.trans (if_neg (by omega))) (show (1 : Int) ≠ 0 by decide))
      unfold wldVal
      go_enter Tryz.func14, Tryz.ntmps14
      go_wp2_with fail
      refine (find_ok W k [] p1 p2 _ k1 k2 0 (w.alloc (wldObj W p1 p2 k1 k2)) _ (Below.refl _ _) (HT.out.below A0.out) (HW.out.below A0.out) (secs_nil _) HE.out).mono ?_
      rintro e w1 ⟨a, m, v, rfl, hat, hb, hage⟩
      have HAT := Lib.hid hat
      have HB := Lib.hid (A0.out.trans (hb.mono A0.out.size))
      clear hat hb hage
      go_wp2_with (first | (go_at_call 27; refine (within_any _ _ _ _).mono ?_; rintro e w' ⟨rfl, rfl⟩) | (go_at_call 50; refine (isSecond_any _ _).mono ?_; rintro e w' ⟨rfl, rfl⟩))
      go_ret2
      exact trackRet_nil HF.out HB.out
    cases hn : inR n 0 20000
    · have h2 := inR_false hn
      have HF := Lib.hid (trackE_err (HTE.out.trans (if_neg (by omega))) (show (1 : Int) ≠ 0 by decide))
      unfold wldVal
      go_enter Tryz.func14, Tryz.ntmps14
      go_wp2_with fail
      refine (find_ok W k [] p1 p2 _ k1 k2 0 (w.alloc (wldObj W p1 p2 k1 k2)) _ (Below.refl _ _) (HT.out.below A0.out) (HW.out.below A0.out) (secs_nil _) HE.out).mono ?_
      rintro e w1 ⟨a, m, v, rfl, hat, hb, hage⟩
      have HAT := Lib.hid hat
      have HB := Lib.hid (A0.out.trans (hb.mono A0.out.size))
      clear hat hb hage
      go_wp2_with (first | (go_at_call 27; refine (within_any _ _ _ _).mono ?_; rintro e w' ⟨rfl, rfl⟩) | (go_at_call 50; refine (isSecond_any _ _).mono ?_; rintro e w' ⟨rfl, rfl⟩))
      go_ret2
      exact trackRet_nil HF.out HB.out
    have h2 := inR_true hn
    cases hx : inR x 0 1000000
    · have h3 := inR_false hx
      have HF := Lib.hid (trackE_err (HTE.out.trans ((if_pos (by omega)).trans (if_neg (by omega)))) (show (21 : Int) ≠ 0 by decide))
      unfold wldVal
      go_enter Tryz.func14, Tryz.ntmps14
      go_wp2_with fail
      refine (find_ok W k [] p1 p2 _ k1 k2 0 (w.alloc (wldObj W p1 p2 k1 k2)) _ (Below.refl _ _) (HT.out.below A0.out) (HW.out.below A0.out) (secs_nil _) HE.out).mono ?_
      rintro e w1 ⟨a, m, v, rfl, hat, hb, hage⟩
      have HAT := Lib.hid hat
      have HB := Lib.hid (A0.out.trans (hb.mono A0.out.size))
      clear hat hb hage
      go_wp2_with (first | (go_at_call 27; refine (within_any _ _ _ _).mono ?_; rintro e w' ⟨rfl, rfl⟩) | (go_at_call 50; refine (isSecond_any _ _).mono ?_; rintro e w' ⟨rfl, rfl⟩))
      go_ret2
      exact trackRet_nil HF.out HB.out
    have h3 := inR_true hx
    obtain ⟨n, rfl⟩ : ∃ m : Nat, n = m := ⟨n.toNat, by omega⟩
    by_cases h4 : (n : Int) ≤ 1
    · have H3 := Lib.hid (show (n : Int) ≤ 1 ∨ st * ((n : Int) - 1) ≤ 1000000 - x from .inl h4)
      have HF := Lib.hid (trackE_ok (HTE.out.trans ((if_pos (by omega)).trans (if_pos ⟨h3, .inl h4⟩))))
      unfold wldVal
      go_enter Tryz.func14, Tryz.ntmps14
      go_wp2_with fail
      refine (find_ok W k [] p1 p2 _ k1 k2 0 (w.alloc (wldObj W p1 p2 k1 k2)) _ (Below.refl _ _) (HT.out.below A0.out) (HW.out.below A0.out) (secs_nil _) HE.out).mono ?_
      rintro e w1 ⟨a, m, v, rfl, hat, hb, hage⟩
      have HAT := Lib.hid hat
      have HB := Lib.hid (A0.out.trans (hb.mono A0.out.size))
      clear hat hb hage
      go_wp2_with (first | (go_at_call 27; refine (within_any _ _ _ _).mono ?_; rintro e w' ⟨rfl, rfl⟩) | (go_at_call 50; refine (isSecond_any _ _).mono ?_; rintro e w' ⟨rfl, rfl⟩))
      refine (track_at x st n w1 HAT.out HA.out.cin HA.out.rok HA.out.k16 ⟨by omega, hst⟩ (by omega) (by omega) H3.out).mono ?_
      rintro e w2 ⟨u, rfl, hrow, hb2⟩
      rw [show ((n : Int)).toNat = n by omega] at HF
      have HB2 := Lib.hid (HB.out.trans (hb2.mono HB.out.size))
      have HROW := Lib.hid (And.intro hrow.1 (fun k hk => Nat.le_trans HB.out.size (hrow.2 k hk)))
      clear hb2 hrow
      obtain ⟨pu, cu, rfl, hlen, -⟩ := HROW.out.1
      go_wp2
      go_ret2
      exact trackRet_of HF.out HROW.out HB2.out
    have hdv := Int.le_ediv_iff_mul_le (a := st) (b := 1000000 - x) (c := (n : Int) - 1) (by omega)
    by_cases h5 : st * ((n : Int) - 1) ≤ 1000000 - x
    · have d5 : decide ((1000000 - x) / ((n : Int) - 1) < st) = false := by have := hdv.2 h5; simp; omega
      have H3 := Lib.hid (show (n : Int) ≤ 1 ∨ st * ((n : Int) - 1) ≤ 1000000 - x from .inr h5)
      have HF := Lib.hid (trackE_ok (HTE.out.trans ((if_pos (by omega)).trans (if_pos ⟨h3, .inr h5⟩))))
      clear hdv h5
      unfold wldVal
      go_enter Tryz.func14, Tryz.ntmps14
      go_wp2_with fail
      refine (find_ok W k [] p1 p2 _ k1 k2 0 (w.alloc (wldObj W p1 p2 k1 k2)) _ (Below.refl _ _) (HT.out.below A0.out) (HW.out.below A0.out) (secs_nil _) HE.out).mono ?_
      rintro e w1 ⟨a, m, v, rfl, hat, hb, hage⟩
      have HAT := Lib.hid hat
      have HB := Lib.hid (A0.out.trans (hb.mono A0.out.size))
      clear hat hb hage
      go_wp2_with (first | (go_at_call 27; refine (within_any _ _ _ _).mono ?_; rintro e w' ⟨rfl, rfl⟩) | (go_at_call 50; refine (isSecond_any _ _).mono ?_; rintro e w' ⟨rfl, rfl⟩))
      refine (track_at x st n w1 HAT.out HA.out.cin HA.out.rok HA.out.k16 ⟨by omega, hst⟩ (by omega) (by omega) H3.out).mono ?_
      rintro e w2 ⟨u, rfl, hrow, hb2⟩
      rw [show ((n : Int)).toNat = n by omega] at HF
      have HB2 := Lib.hid (HB.out.trans (hb2.mono HB.out.size))
      have HROW := Lib.hid (And.intro hrow.1 (fun k hk => Nat.le_trans HB.out.size (hrow.2 k hk)))
      clear hb2 hrow
      obtain ⟨pu, cu, rfl, hlen, -⟩ := HROW.out.1
      go_wp2
      go_ret2
      exact trackRet_of HF.out HROW.out HB2.out
    · have d5 : decide ((1000000 - x) / ((n : Int) - 1) < st) = true := by
        have : ¬ st ≤ (1000000 - x) / ((n : Int) - 1) := fun h => h5 (hdv.1 h)
        simp; omega
      have HF := Lib.hid (trackE_err (HTE.out.trans ((if_pos (by omega)).trans (if_neg (fun h => h.2.elim h4 h5)))) (show (21 : Int) ≠ 0 by decide))
      clear hdv h5
      unfold wldVal
      go_enter Tryz.func14, Tryz.ntmps14
      go_wp2_with fail
      refine (find_ok W k [] p1 p2 _ k1 k2 0 (w.alloc (wldObj W p1 p2 k1 k2)) _ (Below.refl _ _) (HT.out.below A0.out) (HW.out.below A0.out) (secs_nil _) HE.out).mono ?_
      rintro e w1 ⟨a, m, v, rfl, hat, hb, hage⟩
      have HAT := Lib.hid hat
      have HB := Lib.hid (A0.out.trans (hb.mono A0.out.size))
      clear hat hb hage
      go_wp2_with (first | (go_at_call 27; refine (within_any _ _ _ _).mono ?_; rintro e w' ⟨rfl, rfl⟩) | (go_at_call 50; refine (isSecond_any _ _).mono ?_; rintro e w' ⟨rfl, rfl⟩))
      go_ret2
      exact trackRet_nil HF.out HB.out
  · have HF := Lib.hid (trackE_err (show trackErr W k x st n = findErr W k [] from if_neg he) he)
    have hne : (findErr W k [] != 0) = true := by simpa using he
    have HE := Lib.hid he
    clear he ht hW a0
    unfold wldVal
    go_enter Tryz.func14, Tryz.ntmps14
    go_wp2_with fail
    refine (find_no W k [] p1 p2 _ k1 k2 0 w _ A0.out HT.out HW.out (secs_nil _) HE.out).mono ?_
    rintro e w1 ⟨rfl, hb⟩
    have HB := Lib.hid hb
    clear hb
    go_wp2
    go_ret2
    exact trackRet_nil HF.out HB.out
end Go.Proofs.YtemblamamgfodaaGreatDoor.Wd
