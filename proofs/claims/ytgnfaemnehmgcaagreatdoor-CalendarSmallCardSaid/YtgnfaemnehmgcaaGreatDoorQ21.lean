/-  -/
import Derived.Test.YtgnfaemnehmgcaaGreatDoorQ20
import Derived.Test.YtgnfaemnehmgcaaGreatDoorQ07
import Derived.Test.YtgnfaemnehmgcaaGreatDoorQ17
namespace Go.Proofs.YtgnfaemnehmgcaaGreatDoor.Cal
open Go Go.RowKit
attribute [local go_sem] Oper.semAt_some
set_option maxHeartbeats 1000000 in
theorem rFromUnix_tab {b u : Int} {n : Nat} {f : Nat → Int × Int} (ht : tabE b u n f ≠ 0) (x : Int) (c : Nat) (p : Option Addr) (w : World) (hs : LpIn w f n p) (hn : n ≤ 1000000000000) :
    Calls Tryz.prog 50 #[.agg #[.int .i64 b, .slice p n c, .int .i64 u], .int .i64 x] w fun e w' => e = .returned (.tuple #[.slice none 0 0, .int .i64 (tabE b u n f)]) ∧ Below w.heap.size w w' := by
  have A0 := below_alloc (Below.refl w.heap.size w) (.cells #[.int .i64 b, .slice p n c, .int .i64 u] 55)
  obtain ⟨x0, x1, x2⟩ := TBox.new w b u n c p 55
  have HCK := Lib.hid (rCheck_any b u n c p f _ (hs.below A0) hn)
  have A0 := Lib.hid A0
  obtain ⟨er, her⟩ : ∃ er, tabE b u n f = er := ⟨_, rfl⟩
  rw [her] at ht HCK ⊢
  have hne : (er == 0) = false := by simpa using ht
  clear hs her
  go_enter Tryz.func50, Tryz.ntmps50
  go_upto_region 1 with fail
  generalize w.alloc (.cells #[.int .i64 b, .slice p n c, .int .i64 u] 55) = W1 at *
  have zx := cell_lt x0
  go_wp2_with (go_at_call 34; refine HCK.out.mono ?_; rintro e w2 ⟨rfl, hb2⟩; have HB2 := Lib.hid hb2; clear hb2)
  go_ret2
  exact ⟨rfl, bt A0.out HB2.out⟩
set_option maxHeartbeats 1000000 in
theorem rFromUnix_out {b u : Int} {n : Nat} {f : Nat → Int × Int} (ht : tabE b u n f = 0) (x : Int) (hx : ¬ (0 ≤ x ∧ x ≤ 10000000000)) (c : Nat) (p : Option Addr) (w : World) (hs : LpIn w f n p) :
    Calls Tryz.prog 50 #[.agg #[.int .i64 b, .slice p n c, .int .i64 u], .int .i64 x] w fun e w' => e = .returned (.tuple #[.slice none 0 0, .int .i64 4]) ∧ Below w.heap.size w w' := by
  have A0 := below_alloc (Below.refl w.heap.size w) (.cells #[.int .i64 b, .slice p n c, .int .i64 u] 55)
  obtain ⟨x0, x1, x2⟩ := TBox.new w b u n c p 55
  have HCK := Lib.hid (rCheck_any b u n c p f _ (hs.below A0) (by have := (tab_ok ht).n1; omega))
  rw [ht] at HCK
  have A0 := Lib.hid A0
  have HIN := Lib.hid (fun X => in_any x 0 10000000000 X)
  rw [show (decide (0 ≤ x) && decide (x ≤ 10000000000)) = false by simp; omega] at HIN
  clear hs ht hx
  go_enter Tryz.func50, Tryz.ntmps50
  go_upto_region 1 with fail
  generalize w.alloc (.cells #[.int .i64 b, .slice p n c, .int .i64 u] 55) = W1 at *
  have zx := cell_lt x0
  go_wp2_with (first | (go_at_call 34; refine HCK.out.mono ?_; rintro e w2 ⟨rfl, hb2⟩; have HB2 := Lib.hid hb2; clear hb2) | (go_at_call 90; refine (HIN.out _).mono ?_; rintro e w' ⟨rfl, rfl⟩))
  go_ret2
  exact ⟨rfl, bt A0.out HB2.out⟩
def PairL (g r : FuncId) (b u : Int) (n : Nat) (f : Nat → Int × Int) (mk : Value → Array Value) (L : List Int) (e : Int) : Prop :=
  (∀ (X : World) (c : Nat) (p : Option Addr), Mon X → LpIn X f n p → n ≤ c → c ≤ maxLen → Calls Tryz.prog g (mk (.agg #[.int .i64 b, .slice p n c, .int .i64 u])) X fun e' w' => ∃ q cq, e' = .returned (.tuple #[.slice q L.length cq, .int .i64 e]) ∧ FnIn w' (atL L) L.length q ∧ Below X.heap.size X w') ∧
  (∀ (X : World) (c : Nat) (p : Option Addr), LpIn X f n p → Calls Tryz.prog r (mk (.agg #[.int .i64 b, .slice p n c, .int .i64 u])) X fun e' w' => ∃ q cq, e' = .returned (.tuple #[.slice q L.length cq, .int .i64 e]) ∧ FnIn w' (atL L) L.length q ∧ Below X.heap.size X w')
theorem fnil (w : World) : FnIn w (atL []) ([] : List Int).length none := .inl rfl
theorem fu_pair (b u U : Int) (hU : -9223372036854775808 ≤ U ∧ U ≤ 9223372036854775807) (n : Nat) (f : Nat → Int × Int) (hn : n ≤ 1000) : ∃ L e, L.length ≤ 2 ∧ PairL 26 50 b u n f (fun t => #[t, .int .i64 U]) L e := by
  by_cases ht : tabE b u n f = 0
  · have HT := tab_ok ht
    by_cases hz : (foundL u f n (58445280 + U / 60) (U % 60) 2).length = 0
    · refine ⟨[], 4, by simp, fun X c p hX hl h1 h2 => (FromUnix_none ht U hU c p X hX hl h1 h2 hz).mono fun e' w' ⟨h, hb⟩ => ⟨none, 0, h, fnil w', hb⟩, fun X c p hl => ?_⟩
      by_cases hr : 0 ≤ U ∧ U ≤ 10000000000
      · refine (rFromUnix_in ht U hr c p X hl).mono fun e' w' ⟨q, cq, h, hf, hb⟩ => ⟨q, cq, ?_, .inl rfl, hb⟩
        rw [if_pos hz, hz] at h
        exact h
      · exact (rFromUnix_out ht U hr c p X hl).mono fun e' w' ⟨h, hb⟩ => ⟨none, 0, h, fnil w', hb⟩
    · refine ⟨(foundL u f n (58445280 + U / 60) (U % 60) 2), 0, foundL_len u f n _ _ 2, fun X c p hX hl h1 h2 => FromUnix_big ht U hU c p X hX hl h1 h2 (by omega), fun X c p hl => ?_⟩
      have hr : 0 ≤ U ∧ U ≤ 10000000000 := by
        cases hL : (foundL u f n (58445280 + U / 60) (U % 60) 2) with
        | nil => rw [hL] at hz; exact absurd rfl hz
        | cons a l => exact (found_near HT (x := a) (by rw [hL]; simp)).2.2
      refine (rFromUnix_in ht U hr c p X hl).mono fun e' w' ⟨q, cq, h, hf, hb⟩ => ⟨q, cq, ?_, hf, hb⟩
      rw [if_neg hz] at h
      exact h
  · exact ⟨[], tabE b u n f, by simp, fun X c p hX hl h1 h2 => (FromUnix_tab ht U c p X hX hl (by omega)).mono fun e' w' ⟨h, hb⟩ => ⟨none, 0, h, fnil w', hb⟩, fun X c p hl => (rFromUnix_tab ht U c p X hl (by omega)).mono fun e' w' ⟨h, hb⟩ => ⟨none, 0, h, fnil w', hb⟩⟩
set_option maxHeartbeats 2000000 in
theorem FromNtp_tab {b u : Int} {n : Nat} {f : Nat → Int × Int} (E S : Int) (ht : tabE b u n f ≠ 0) (c : Nat) (p : Option Addr) (w : World) (hw : Mon w) (hs : LpIn w f n p) (hn : n ≤ 1000) :
    Calls Tryz.prog 53 #[.agg #[.int .i64 b, .slice p n c, .int .i64 u], .agg #[.int .i64 E, .int .i64 S]] w fun e w' => e = .returned (.tuple #[.slice none 0 0, .int .i64 (tabE b u n f)]) ∧ Below w.heap.size w w' := by
  have B1 := below_alloc (Below.refl w.heap.size w) (.cells #[.int .i64 b, .slice p n c, .int .i64 u] 24)
  have A0 := below_alloc B1 (.cells #[.int .i64 E, .int .i64 S] 42)
  have HX := Lib.hid ((TBox.new w b u n c p 24).below (below_alloc (Below.refl _ _) (.cells #[.int .i64 E, .int .i64 S] 42)))
  have e1 : (w.alloc (.cells #[.int .i64 b, .slice p n c, .int .i64 u] 24)).heap.size = w.heap.size + 1 := by simp
  have hN := two_cells (w.alloc (.cells #[.int .i64 b, .slice p n c, .int .i64 u] 24)) (.int .i64 E) (.int .i64 S) 42
  rw [e1] at hN
  have HN := Lib.hid hN
  have HCK := Lib.hid (Check_any b u n c p f _ (hw.below A0) (hs.below A0) (by omega))
  have HW := Lib.hid (hw.below A0)
  have HS := Lib.hid (hs.below A0)
  have A0 := Lib.hid A0
  obtain ⟨er, her⟩ : ∃ er, tabE b u n f = er := ⟨_, rfl⟩
  rw [her] at ht HCK ⊢
  have hne : (er == 0) = false := by simpa using ht
  clear hs B1 e1 hN hw her
  go_enter Tryz.func53, Tryz.ntmps53
  go_upto_region 1 with fail
  generalize (w.alloc (.cells #[.int .i64 b, .slice p n c, .int .i64 u] 24)).alloc (.cells #[.int .i64 E, .int .i64 S] 42) = W1 at *
  obtain ⟨x0, x1, x2⟩ := HX.out
  have zx := cell_lt x0
  go_wp2_with (go_at_call 33; refine HCK.out.mono ?_; rintro e w2 ⟨rfl, hb2⟩; have HB2 := Lib.hid hb2; clear hb2)
  go_ret2
  exact ⟨rfl, bt A0.out HB2.out⟩
set_option maxHeartbeats 2000000 in
theorem FromNtp_r1 {b u : Int} {n : Nat} {f : Nat → Int × Int} (E S : Int) (ht : tabE b u n f = 0) (h1 : ¬ (0 ≤ S ∧ S ≤ 4294967295)) (c : Nat) (p : Option Addr) (w : World) (hw : Mon w) (hs : LpIn w f n p) (hn : n ≤ 1000) :
    Calls Tryz.prog 53 #[.agg #[.int .i64 b, .slice p n c, .int .i64 u], .agg #[.int .i64 E, .int .i64 S]] w fun e w' => e = .returned (.tuple #[.slice none 0 0, .int .i64 6]) ∧ Below w.heap.size w w' := by
  have B1 := below_alloc (Below.refl w.heap.size w) (.cells #[.int .i64 b, .slice p n c, .int .i64 u] 24)
  have A0 := below_alloc B1 (.cells #[.int .i64 E, .int .i64 S] 42)
  have HX := Lib.hid ((TBox.new w b u n c p 24).below (below_alloc (Below.refl _ _) (.cells #[.int .i64 E, .int .i64 S] 42)))
  have e1 : (w.alloc (.cells #[.int .i64 b, .slice p n c, .int .i64 u] 24)).heap.size = w.heap.size + 1 := by simp
  have hN := two_cells (w.alloc (.cells #[.int .i64 b, .slice p n c, .int .i64 u] 24)) (.int .i64 E) (.int .i64 S) 42
  rw [e1] at hN
  have HN := Lib.hid hN
  have HCK := Lib.hid (Check_any b u n c p f _ (hw.below A0) (hs.below A0) (by omega))
  have HW := Lib.hid (hw.below A0)
  have HS := Lib.hid (hs.below A0)
  have A0 := Lib.hid A0
  rw [ht] at HCK
  have HI1 := Lib.hid (fun X => index_any S 4294967296 X (by omega))
  have HI2 := Lib.hid (fun X => within_any E 0 1000 X)
  rw [show (decide (0 ≤ S) && decide (S ≤ 4294967296 - 1)) = false by simp; omega] at HI1
  clear hs B1 e1 hN hw ht h1
  go_enter Tryz.func53, Tryz.ntmps53
  go_upto_region 1 with fail
  generalize (w.alloc (.cells #[.int .i64 b, .slice p n c, .int .i64 u] 24)).alloc (.cells #[.int .i64 E, .int .i64 S] 42) = W1 at *
  obtain ⟨x0, x1, x2⟩ := HX.out
  have zx := cell_lt x0
  go_upto_region 2 with (go_at_call 33; refine HCK.out.mono ?_; rintro e w2 ⟨rfl, hb2⟩; have HB2 := Lib.hid hb2; clear hb2)
  clear x0 x1 x2 zx
  obtain ⟨y0, y1⟩ := HN.out
  have y0 := cell_below HB2.out y0
  have y1 := cell_below HB2.out y1
  have zy := cell_lt y0
  go_wp2_with (go_at_call 111; refine (HI1.out _).mono ?_; rintro e w' ⟨rfl, rfl⟩)
  go_ret2
  exact ⟨rfl, bt A0.out HB2.out⟩
set_option maxHeartbeats 2000000 in
theorem FromNtp_r2 {b u : Int} {n : Nat} {f : Nat → Int × Int} (E S : Int) (ht : tabE b u n f = 0) (h1 : 0 ≤ S ∧ S ≤ 4294967295) (h2 : ¬ (0 ≤ E ∧ E ≤ 1000)) (c : Nat) (p : Option Addr) (w : World) (hw : Mon w) (hs : LpIn w f n p) (hn : n ≤ 1000) :
    Calls Tryz.prog 53 #[.agg #[.int .i64 b, .slice p n c, .int .i64 u], .agg #[.int .i64 E, .int .i64 S]] w fun e w' => e = .returned (.tuple #[.slice none 0 0, .int .i64 6]) ∧ Below w.heap.size w w' := by
  have B1 := below_alloc (Below.refl w.heap.size w) (.cells #[.int .i64 b, .slice p n c, .int .i64 u] 24)
  have A0 := below_alloc B1 (.cells #[.int .i64 E, .int .i64 S] 42)
  have HX := Lib.hid ((TBox.new w b u n c p 24).below (below_alloc (Below.refl _ _) (.cells #[.int .i64 E, .int .i64 S] 42)))
  have e1 : (w.alloc (.cells #[.int .i64 b, .slice p n c, .int .i64 u] 24)).heap.size = w.heap.size + 1 := by simp
  have hN := two_cells (w.alloc (.cells #[.int .i64 b, .slice p n c, .int .i64 u] 24)) (.int .i64 E) (.int .i64 S) 42
  rw [e1] at hN
  have HN := Lib.hid hN
  have HCK := Lib.hid (Check_any b u n c p f _ (hw.below A0) (hs.below A0) (by omega))
  have HW := Lib.hid (hw.below A0)
  have HS := Lib.hid (hs.below A0)
  have A0 := Lib.hid A0
  rw [ht] at HCK
  have HI1 := Lib.hid (fun X => index_any S 4294967296 X (by omega))
  have HI2 := Lib.hid (fun X => within_any E 0 1000 X)
  rw [show (decide (0 ≤ S) && decide (S ≤ 4294967296 - 1)) = true by simp; omega] at HI1
  rw [show (decide (0 ≤ E) && decide (E ≤ 1000)) = false by simp; omega] at HI2
  clear hs B1 e1 hN hw ht h1 h2
  go_enter Tryz.func53, Tryz.ntmps53
  go_upto_region 1 with fail
  generalize (w.alloc (.cells #[.int .i64 b, .slice p n c, .int .i64 u] 24)).alloc (.cells #[.int .i64 E, .int .i64 S] 42) = W1 at *
  obtain ⟨x0, x1, x2⟩ := HX.out
  have zx := cell_lt x0
  go_upto_region 2 with (go_at_call 33; refine HCK.out.mono ?_; rintro e w2 ⟨rfl, hb2⟩; have HB2 := Lib.hid hb2; clear hb2)
  clear x0 x1 x2 zx
  obtain ⟨y0, y1⟩ := HN.out
  have y0 := cell_below HB2.out y0
  have y1 := cell_below HB2.out y1
  have zy := cell_lt y0
  go_wp2_with (first | (go_at_call 111; refine (HI1.out _).mono ?_; rintro e w' ⟨rfl, rfl⟩) | (go_at_call 67; refine (HI2.out _).mono ?_; rintro e w' ⟨rfl, rfl⟩))
  go_ret2
  exact ⟨rfl, bt A0.out HB2.out⟩
set_option maxHeartbeats 2000000 in
theorem FromNtp_all {b u : Int} {n : Nat} {f : Nat → Int × Int} (E S : Int) (ht : tabE b u n f = 0) (U : Int) (h1 : 0 ≤ S ∧ S ≤ 4294967295) (h2 : 0 ≤ E ∧ E ≤ 1000) (hU : E * 4294967296 + S - 2208988800 = U) (L : List Int) (er : Int) (hP : PairL 26 50 b u n f (fun t => #[t, .int .i64 U]) L er) (c : Nat) (hc : n ≤ c) (hcm : c ≤ maxLen) (p : Option Addr) (w : World) (hw : Mon w) (hs : LpIn w f n p) (hn : n ≤ 1000) :
    Calls Tryz.prog 53 #[.agg #[.int .i64 b, .slice p n c, .int .i64 u], .agg #[.int .i64 E, .int .i64 S]] w fun e w' => ∃ q cq, e = .returned (.tuple #[.slice q L.length cq, .int .i64 er]) ∧ FnIn w' (atL L) L.length q ∧ Below w.heap.size w w' := by
  have B1 := below_alloc (Below.refl w.heap.size w) (.cells #[.int .i64 b, .slice p n c, .int .i64 u] 24)
  have A0 := below_alloc B1 (.cells #[.int .i64 E, .int .i64 S] 42)
  have HX := Lib.hid ((TBox.new w b u n c p 24).below (below_alloc (Below.refl _ _) (.cells #[.int .i64 E, .int .i64 S] 42)))
  have e1 : (w.alloc (.cells #[.int .i64 b, .slice p n c, .int .i64 u] 24)).heap.size = w.heap.size + 1 := by simp
  have hN := two_cells (w.alloc (.cells #[.int .i64 b, .slice p n c, .int .i64 u] 24)) (.int .i64 E) (.int .i64 S) 42
  rw [e1] at hN
  have HN := Lib.hid hN
  have HCK := Lib.hid (Check_any b u n c p f _ (hw.below A0) (hs.below A0) (by omega))
  have HW := Lib.hid (hw.below A0)
  have HS := Lib.hid (hs.below A0)
  have A0 := Lib.hid A0
  rw [ht] at HCK
  have HI1 := Lib.hid (fun X => index_any S 4294967296 X (by omega))
  have HI2 := Lib.hid (fun X => within_any E 0 1000 X)
  rw [show (decide (0 ≤ S) && decide (S ≤ 4294967296 - 1)) = true by simp; omega] at HI1
  rw [show (decide (0 ≤ E) && decide (E ≤ 1000)) = true by simp; omega] at HI2
  have v1 : IntKind.i64.wrap (E * 4294967296) = E * 4294967296 := IntWalk.i64_in _ (by omega)
  have v2 : IntKind.i64.wrap (E * 4294967296 + S) = E * 4294967296 + S := IntWalk.i64_in _ (by omega)
  have v3 : IntKind.i64.wrap (E * 4294967296 + S - 2208988800) = U := by rw [IntWalk.i64_in _ (by omega)]; omega
  have HU := Lib.hid hP.1
  clear hs B1 e1 hN hw ht h1 h2 hU hP
  go_enter Tryz.func53, Tryz.ntmps53
  go_upto_region 1 with fail
  generalize (w.alloc (.cells #[.int .i64 b, .slice p n c, .int .i64 u] 24)).alloc (.cells #[.int .i64 E, .int .i64 S] 42) = W1 at *
  obtain ⟨x0, x1, x2⟩ := HX.out
  have zx := cell_lt x0
  go_upto_region 2 with (go_at_call 33; refine HCK.out.mono ?_; rintro e w2 ⟨rfl, hb2⟩; have HB2 := Lib.hid hb2; clear hb2)
  clear x0 x1 x2 zx
  obtain ⟨y0, y1⟩ := HN.out
  have y0 := cell_below HB2.out y0
  have y1 := cell_below HB2.out y1
  have zy := cell_lt y0
  go_upto_region 6 with (first | (go_at_call 111; refine (HI1.out _).mono ?_; rintro e w' ⟨rfl, rfl⟩) | (go_at_call 67; refine (HI2.out _).mono ?_; rintro e w' ⟨rfl, rfl⟩))
  obtain ⟨x0, x1, x2⟩ := HX.out.below HB2.out
  have zx := cell_lt x0
  go_wp2_with (go_at_call 26; refine (HU.out _ c p (HW.out.below HB2.out) (HS.out.below HB2.out) hc hcm).mono ?_; rintro e w3 ⟨q, cq, rfl, hf, hb3⟩; have HF := Lib.hid hf; have HB3 := Lib.hid hb3; clear hf hb3)
  go_ret2
  exact ⟨q, cq, rfl, HF.out, bt (bt A0.out HB2.out) HB3.out⟩
set_option maxHeartbeats 2000000 in
theorem rFromNtp_tab {b u : Int} {n : Nat} {f : Nat → Int × Int} (E S : Int) (ht : tabE b u n f ≠ 0) (c : Nat) (p : Option Addr) (w : World) (hs : LpIn w f n p) (hn : n ≤ 1000) :
    Calls Tryz.prog 54 #[.agg #[.int .i64 b, .slice p n c, .int .i64 u], .agg #[.int .i64 E, .int .i64 S]] w fun e w' => e = .returned (.tuple #[.slice none 0 0, .int .i64 (tabE b u n f)]) ∧ Below w.heap.size w w' := by
  have B1 := below_alloc (Below.refl w.heap.size w) (.cells #[.int .i64 b, .slice p n c, .int .i64 u] 55)
  have A0 := below_alloc B1 (.cells #[.int .i64 E, .int .i64 S] 94)
  have HX := Lib.hid ((TBox.new w b u n c p 55).below (below_alloc (Below.refl _ _) (.cells #[.int .i64 E, .int .i64 S] 94)))
  have e1 : (w.alloc (.cells #[.int .i64 b, .slice p n c, .int .i64 u] 55)).heap.size = w.heap.size + 1 := by simp
  have hN := two_cells (w.alloc (.cells #[.int .i64 b, .slice p n c, .int .i64 u] 55)) (.int .i64 E) (.int .i64 S) 94
  rw [e1] at hN
  have HN := Lib.hid hN
  have HCK := Lib.hid (rCheck_any b u n c p f _ (hs.below A0) (by omega))
  have HS := Lib.hid (hs.below A0)
  have A0 := Lib.hid A0
  obtain ⟨er, her⟩ : ∃ er, tabE b u n f = er := ⟨_, rfl⟩
  rw [her] at ht HCK ⊢
  have hne : (er == 0) = false := by simpa using ht
  clear hs B1 e1 hN her
  go_enter Tryz.func54, Tryz.ntmps54
  go_upto_region 1 with fail
  generalize (w.alloc (.cells #[.int .i64 b, .slice p n c, .int .i64 u] 55)).alloc (.cells #[.int .i64 E, .int .i64 S] 94) = W1 at *
  obtain ⟨x0, x1, x2⟩ := HX.out
  have zx := cell_lt x0
  go_wp2_with (go_at_call 34; refine HCK.out.mono ?_; rintro e w2 ⟨rfl, hb2⟩; have HB2 := Lib.hid hb2; clear hb2)
  go_ret2
  exact ⟨rfl, bt A0.out HB2.out⟩
set_option maxHeartbeats 2000000 in
theorem rFromNtp_r1 {b u : Int} {n : Nat} {f : Nat → Int × Int} (E S : Int) (ht : tabE b u n f = 0) (h1 : ¬ (0 ≤ S ∧ S ≤ 4294967295)) (c : Nat) (p : Option Addr) (w : World) (hs : LpIn w f n p) (hn : n ≤ 1000) :
    Calls Tryz.prog 54 #[.agg #[.int .i64 b, .slice p n c, .int .i64 u], .agg #[.int .i64 E, .int .i64 S]] w fun e w' => e = .returned (.tuple #[.slice none 0 0, .int .i64 6]) ∧ Below w.heap.size w w' := by
  have B1 := below_alloc (Below.refl w.heap.size w) (.cells #[.int .i64 b, .slice p n c, .int .i64 u] 55)
  have A0 := below_alloc B1 (.cells #[.int .i64 E, .int .i64 S] 94)
  have HX := Lib.hid ((TBox.new w b u n c p 55).below (below_alloc (Below.refl _ _) (.cells #[.int .i64 E, .int .i64 S] 94)))
  have e1 : (w.alloc (.cells #[.int .i64 b, .slice p n c, .int .i64 u] 55)).heap.size = w.heap.size + 1 := by simp
  have hN := two_cells (w.alloc (.cells #[.int .i64 b, .slice p n c, .int .i64 u] 55)) (.int .i64 E) (.int .i64 S) 94
  rw [e1] at hN
  have HN := Lib.hid hN
  have HCK := Lib.hid (rCheck_any b u n c p f _ (hs.below A0) (by omega))
  have HS := Lib.hid (hs.below A0)
  have A0 := Lib.hid A0
  rw [ht] at HCK
  have HC1 := Lib.hid (show (decide (0 ≤ S) && decide (S ≤ 4294967295)) = false by simp; omega)
  clear hs B1 e1 hN ht h1
  go_enter Tryz.func54, Tryz.ntmps54
  go_upto_region 1 with fail
  generalize (w.alloc (.cells #[.int .i64 b, .slice p n c, .int .i64 u] 55)).alloc (.cells #[.int .i64 E, .int .i64 S] 94) = W1 at *
  obtain ⟨x0, x1, x2⟩ := HX.out
  have zx := cell_lt x0
  go_upto_region 2 with (go_at_call 34; refine HCK.out.mono ?_; rintro e w2 ⟨rfl, hb2⟩; have HB2 := Lib.hid hb2; clear hb2)
  clear x0 x1 x2 zx
  obtain ⟨y0, y1⟩ := HN.out
  have y0 := cell_below HB2.out y0
  have y1 := cell_below HB2.out y1
  have zy := cell_lt y0
  go_wp2_with (go_at_call 90; refine (in_any _ _ _ _).mono ?_; rintro e w' ⟨rfl, rfl⟩; first | rw [HC1.out])
  go_ret2
  exact ⟨rfl, bt A0.out HB2.out⟩
set_option maxHeartbeats 2000000 in
theorem rFromNtp_r2 {b u : Int} {n : Nat} {f : Nat → Int × Int} (E S : Int) (ht : tabE b u n f = 0) (h1 : 0 ≤ S ∧ S ≤ 4294967295) (h2 : ¬ (0 ≤ E ∧ E ≤ 1000)) (c : Nat) (p : Option Addr) (w : World) (hs : LpIn w f n p) (hn : n ≤ 1000) :
    Calls Tryz.prog 54 #[.agg #[.int .i64 b, .slice p n c, .int .i64 u], .agg #[.int .i64 E, .int .i64 S]] w fun e w' => e = .returned (.tuple #[.slice none 0 0, .int .i64 6]) ∧ Below w.heap.size w w' := by
  have B1 := below_alloc (Below.refl w.heap.size w) (.cells #[.int .i64 b, .slice p n c, .int .i64 u] 55)
  have A0 := below_alloc B1 (.cells #[.int .i64 E, .int .i64 S] 94)
  have HX := Lib.hid ((TBox.new w b u n c p 55).below (below_alloc (Below.refl _ _) (.cells #[.int .i64 E, .int .i64 S] 94)))
  have e1 : (w.alloc (.cells #[.int .i64 b, .slice p n c, .int .i64 u] 55)).heap.size = w.heap.size + 1 := by simp
  have hN := two_cells (w.alloc (.cells #[.int .i64 b, .slice p n c, .int .i64 u] 55)) (.int .i64 E) (.int .i64 S) 94
  rw [e1] at hN
  have HN := Lib.hid hN
  have HCK := Lib.hid (rCheck_any b u n c p f _ (hs.below A0) (by omega))
  have HS := Lib.hid (hs.below A0)
  have A0 := Lib.hid A0
  rw [ht] at HCK
  have HC1 := Lib.hid (show (decide (0 ≤ S) && decide (S ≤ 4294967295)) = true by simp; omega)
  have HC2 := Lib.hid (show (decide (0 ≤ E) && decide (E ≤ 1000)) = false by simp; omega)
  clear hs B1 e1 hN ht h1 h2
  go_enter Tryz.func54, Tryz.ntmps54
  go_upto_region 1 with fail
  generalize (w.alloc (.cells #[.int .i64 b, .slice p n c, .int .i64 u] 55)).alloc (.cells #[.int .i64 E, .int .i64 S] 94) = W1 at *
  obtain ⟨x0, x1, x2⟩ := HX.out
  have zx := cell_lt x0
  go_upto_region 2 with (go_at_call 34; refine HCK.out.mono ?_; rintro e w2 ⟨rfl, hb2⟩; have HB2 := Lib.hid hb2; clear hb2)
  clear x0 x1 x2 zx
  obtain ⟨y0, y1⟩ := HN.out
  have y0 := cell_below HB2.out y0
  have y1 := cell_below HB2.out y1
  have zy := cell_lt y0
  go_wp2_with (first | (go_at_call 90; refine (in_any _ _ _ _).mono ?_; rintro e w' ⟨rfl, rfl⟩; first | rw [HC1.out] | rw [HC2.out]) | (go_at_call 90; refine (in_any _ _ _ _).mono ?_; rintro e w' ⟨rfl, rfl⟩; first | rw [HC1.out] | rw [HC2.out]))
  go_ret2
  exact ⟨rfl, bt A0.out HB2.out⟩
set_option maxHeartbeats 2000000 in
theorem rFromNtp_ok {b u : Int} {n : Nat} {f : Nat → Int × Int} (E S : Int) (ht : tabE b u n f = 0) (U : Int) (h1 : 0 ≤ S ∧ S ≤ 4294967295) (h2 : 0 ≤ E ∧ E ≤ 1000) (hU : E * 4294967296 + S - 2208988800 = U) (L : List Int) (er : Int) (hP : PairL 26 50 b u n f (fun t => #[t, .int .i64 U]) L er) (c : Nat) (p : Option Addr) (w : World) (hs : LpIn w f n p) (hn : n ≤ 1000) :
    Calls Tryz.prog 54 #[.agg #[.int .i64 b, .slice p n c, .int .i64 u], .agg #[.int .i64 E, .int .i64 S]] w fun e w' => ∃ q cq, e = .returned (.tuple #[.slice q L.length cq, .int .i64 er]) ∧ FnIn w' (atL L) L.length q ∧ Below w.heap.size w w' := by
  have B1 := below_alloc (Below.refl w.heap.size w) (.cells #[.int .i64 b, .slice p n c, .int .i64 u] 55)
  have A0 := below_alloc B1 (.cells #[.int .i64 E, .int .i64 S] 94)
  have HX := Lib.hid ((TBox.new w b u n c p 55).below (below_alloc (Below.refl _ _) (.cells #[.int .i64 E, .int .i64 S] 94)))
  have e1 : (w.alloc (.cells #[.int .i64 b, .slice p n c, .int .i64 u] 55)).heap.size = w.heap.size + 1 := by simp
  have hN := two_cells (w.alloc (.cells #[.int .i64 b, .slice p n c, .int .i64 u] 55)) (.int .i64 E) (.int .i64 S) 94
  rw [e1] at hN
  have HN := Lib.hid hN
  have HCK := Lib.hid (rCheck_any b u n c p f _ (hs.below A0) (by omega))
  have HS := Lib.hid (hs.below A0)
  have A0 := Lib.hid A0
  rw [ht] at HCK
  have HC1 := Lib.hid (show (decide (0 ≤ S) && decide (S ≤ 4294967295)) = true by simp; omega)
  have HC2 := Lib.hid (show (decide (0 ≤ E) && decide (E ≤ 1000)) = true by simp; omega)
  have v1 : IntKind.i64.wrap (4294967296 * E) = 4294967296 * E := IntWalk.i64_in _ (by omega)
  have v2 : IntKind.i64.wrap (4294967296 * E + S) = 4294967296 * E + S := IntWalk.i64_in _ (by omega)
  have v3 : IntKind.i64.wrap (4294967296 * E + S - 2208988800) = U := by rw [IntWalk.i64_in _ (by omega)]; omega
  have HU := Lib.hid hP.2
  clear hs B1 e1 hN ht h1 h2 hU hP
  go_enter Tryz.func54, Tryz.ntmps54
  go_upto_region 1 with fail
  generalize (w.alloc (.cells #[.int .i64 b, .slice p n c, .int .i64 u] 55)).alloc (.cells #[.int .i64 E, .int .i64 S] 94) = W1 at *
  obtain ⟨x0, x1, x2⟩ := HX.out
  have zx := cell_lt x0
  go_upto_region 2 with (go_at_call 34; refine HCK.out.mono ?_; rintro e w2 ⟨rfl, hb2⟩; have HB2 := Lib.hid hb2; clear hb2)
  clear x0 x1 x2 zx
  obtain ⟨y0, y1⟩ := HN.out
  have y0 := cell_below HB2.out y0
  have y1 := cell_below HB2.out y1
  have zy := cell_lt y0
  go_upto_region 6 with (first | (go_at_call 90; refine (in_any _ _ _ _).mono ?_; rintro e w' ⟨rfl, rfl⟩; first | rw [HC1.out] | rw [HC2.out]) | (go_at_call 90; refine (in_any _ _ _ _).mono ?_; rintro e w' ⟨rfl, rfl⟩; first | rw [HC1.out] | rw [HC2.out]))
  obtain ⟨x0, x1, x2⟩ := HX.out.below HB2.out
  have zx := cell_lt x0
  go_wp2_with (go_at_call 50; refine (HU.out _ c p (HS.out.below HB2.out)).mono ?_; rintro e w3 ⟨q, cq, rfl, hf, hb3⟩; have HF := Lib.hid hf; have HB3 := Lib.hid hb3; clear hf hb3)
  go_ret2
  exact ⟨q, cq, rfl, HF.out, bt (bt A0.out HB2.out) HB3.out⟩
theorem fn_pair (b u E S : Int) (n : Nat) (f : Nat → Int × Int) (hn : n ≤ 1000) : ∃ L e, L.length ≤ 2 ∧ PairL 53 54 b u n f (fun t => #[t, .agg #[.int .i64 E, .int .i64 S]]) L e := by
  by_cases ht : tabE b u n f = 0
  · by_cases h1 : 0 ≤ S ∧ S ≤ 4294967295
    · by_cases h2 : 0 ≤ E ∧ E ≤ 1000
      · obtain ⟨L, er, hL, hP⟩ := fu_pair b u (E * 4294967296 + S - 2208988800) (by omega) n f hn
        exact ⟨L, er, hL, fun X c p hX hl hc hcm => FromNtp_all E S ht _ h1 h2 rfl L er hP c hc hcm p X hX hl hn, fun X c p hl => rFromNtp_ok E S ht _ h1 h2 rfl L er hP c p X hl hn⟩
      · exact ⟨[], 6, by simp, fun X c p hX hl _ _ => (FromNtp_r2 E S ht h1 h2 c p X hX hl hn).mono fun e' w' ⟨h, hb⟩ => ⟨none, 0, h, fnil w', hb⟩, fun X c p hl => (rFromNtp_r2 E S ht h1 h2 c p X hl hn).mono fun e' w' ⟨h, hb⟩ => ⟨none, 0, h, fnil w', hb⟩⟩
    · exact ⟨[], 6, by simp, fun X c p hX hl _ _ => (FromNtp_r1 E S ht h1 c p X hX hl hn).mono fun e' w' ⟨h, hb⟩ => ⟨none, 0, h, fnil w', hb⟩, fun X c p hl => (rFromNtp_r1 E S ht h1 c p X hl hn).mono fun e' w' ⟨h, hb⟩ => ⟨none, 0, h, fnil w', hb⟩⟩
  · exact ⟨[], tabE b u n f, by simp, fun X c p hX hl _ _ => (FromNtp_tab E S ht c p X hX hl hn).mono fun e' w' ⟨h, hb⟩ => ⟨none, 0, h, fnil w', hb⟩, fun X c p hl => (rFromNtp_tab E S ht c p X hl hn).mono fun e' w' ⟨h, hb⟩ => ⟨none, 0, h, fnil w', hb⟩⟩
end Go.Proofs.YtgnfaemnehmgcaaGreatDoor.Cal
