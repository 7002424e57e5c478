/- Contracts: Check. -/
import Derived.Test.YtlelamjbfjneiaaGreatDoorQ22
import Derived.Laws.EntriesVeiled
namespace Go.Proofs.YtlelamjbfjneiaaGreatDoor.Wd
open Go Go.RowKit
/-- the box of a world that Check's closures share -/
def BoxOf (w : World) (bw : Nat) (p1 p2 : Option Addr) (n1 k1 n2 k2 : Nat) : Prop :=
  w.cell? ⟨bw, 1, none⟩ = some (.slice p1 n1 k1) ∧ w.cell? ⟨bw, 2, none⟩ = some (.slice p2 n2 k2)
theorem BoxOf.below {w w' : World} {bw : Nat} {p1 p2 : Option Addr} {n1 k1 n2 k2 : Nat} (h : BoxOf w bw p1 p2 n1 k1 n2 k2) (hb : Below w.heap.size w w') : BoxOf w' bw p1 p2 n1 k1 n2 k2 :=
  ⟨cell_below hb h.1, cell_below hb h.2⟩
theorem chkMany_any (bw : Nat) (p1 p2 : Option Addr) (n1 k1 n2 k2 : Nat) (w : World) (hx : BoxOf w bw p1 p2 n1 k1 n2 k2) :
    Calls Tryz.prog 118 #[.pointer (some ⟨bw, 0, none⟩)] w fun e w' => e = .returned (.bool (inR n1 1 8 && inR n2 1 16)) ∧ w = w' := by
  obtain ⟨h1, h2⟩ := hx
  cases hr : inR n1 1 8
  all_goals
    go_enter Tryz.func118, Tryz.ntmps118
    go_wp2_with (go_at_call 30; refine (within_any _ _ _ _).mono ?_; rintro e w' ⟨rfl, rfl⟩)
    all_goals go_ret
    all_goals exact ⟨ret_bool (by simp), rfl⟩
theorem chkChams_any (bw : Nat) (cs : List Cham) (p1 p2 : Option Addr) (k1 n2 k2 : Nat) (w : World) (hx : BoxOf w bw p1 p2 cs.length k1 n2 k2) (hm : cs.length ≤ maxLen) (hc : SliceIn p1 cs.length (ChamsAt w cs)) :
    Calls Tryz.prog 119 #[.pointer (some ⟨bw, 0, none⟩)] w fun e w' => e = .returned (.bool (cs.all chamOk)) ∧ Below w.heap.size w w' := by
  obtain ⟨h1, h2⟩ := hx
  have HC := Lib.hid hc; clear hc
  go_enter Tryz.func119, Tryz.ntmps119
  go_wp2_with (go_at_call 120; refine (allCham_any _ _ cs _ hm HC.out).mono ?_; rintro e w' ⟨rfl, hb⟩)
  go_ret
  exact ⟨rfl, hb⟩
theorem chkClks_any (bw : Nat) (cs : List Clk) (p1 p2 : Option Addr) (n1 k1 k2 : Nat) (w : World) (ht : Tabs w) (hn : n1 ≤ maxLen) (hx : BoxOf w bw p1 p2 n1 k1 cs.length k2) (hm : cs.length ≤ maxLen) (hc : SliceIn p2 cs.length (ClksAt w cs)) :
    Calls Tryz.prog 122 #[.pointer (some ⟨bw, 0, none⟩)] w fun e w' => e = .returned (.bool (cs.all (clkOk n1))) ∧ Below w.heap.size w w' := by
  obtain ⟨h1, h2⟩ := hx
  have HC := Lib.hid hc; clear hc
  have HT := Lib.hid ht; clear ht
  go_enter Tryz.func122, Tryz.ntmps122
  go_wp2_with (go_at_call 123; refine (allClkOk_any _ _ cs n1 k1 bw p1 _ HT.out hn h1 hm HC.out).mono ?_; rintro e w' ⟨rfl, hb⟩)
  go_ret
  exact ⟨rfl, hb⟩
theorem chkEvs_any (bw : Nat) (cs : List Clk) (p1 p2 : Option Addr) (n1 k1 k2 : Nat) (w : World) (ht : Tabs w) (hx : BoxOf w bw p1 p2 n1 k1 cs.length k2) (hm : cs.length ≤ maxLen) (hc : SliceIn p2 cs.length (ClksAt w cs)) :
    Calls Tryz.prog 126 #[.pointer (some ⟨bw, 0, none⟩)] w fun e w' => e = .returned (.bool (cs.all evsOf)) ∧ Below w.heap.size w w' := by
  obtain ⟨h1, h2⟩ := hx
  have HC := Lib.hid hc; clear hc
  have HT := Lib.hid ht; clear ht
  go_enter Tryz.func126, Tryz.ntmps126
  go_wp2_with (go_at_call 123; refine (allClkEv_any _ _ cs _ HT.out hm HC.out).mono ?_; rintro e w' ⟨rfl, hb⟩)
  go_ret
  exact ⟨rfl, hb⟩
def wldVal (W : Wld) (p1 p2 : Option Addr) (k1 k2 : Nat) : Value := .agg #[.int .u64 W.seed, .slice p1 W.chs.length k1, .slice p2 W.cls.length k2]
theorem chk_index0 (bw : Nat) (w : World) : (Instr.index 177 (.agg #[.int .i64 2, .func (.func 118) #[] #[.pointer (some ⟨bw, 0, none⟩)], .int .i64 6, .func (.func 119) #[] #[.pointer (some ⟨bw, 0, none⟩)], .int .i64 20, .func (.func 122) #[] #[.pointer (some ⟨bw, 0, none⟩)], .int .i64 21, .func (.func 126) #[] #[.pointer (some ⟨bw, 0, none⟩)]]) (.int .i64 0)).run Tryz.prog w = .ok (.agg #[.int .i64 2, .func (.func 118) #[] #[.pointer (some ⟨bw, 0, none⟩)]]) w := by kernel_rfl
theorem chk_index1 (bw : Nat) (w : World) : (Instr.index 177 (.agg #[.int .i64 2, .func (.func 118) #[] #[.pointer (some ⟨bw, 0, none⟩)], .int .i64 6, .func (.func 119) #[] #[.pointer (some ⟨bw, 0, none⟩)], .int .i64 20, .func (.func 122) #[] #[.pointer (some ⟨bw, 0, none⟩)], .int .i64 21, .func (.func 126) #[] #[.pointer (some ⟨bw, 0, none⟩)]]) (.int .i64 1)).run Tryz.prog w = .ok (.agg #[.int .i64 6, .func (.func 119) #[] #[.pointer (some ⟨bw, 0, none⟩)]]) w := by kernel_rfl
theorem chk_index2 (bw : Nat) (w : World) : (Instr.index 177 (.agg #[.int .i64 2, .func (.func 118) #[] #[.pointer (some ⟨bw, 0, none⟩)], .int .i64 6, .func (.func 119) #[] #[.pointer (some ⟨bw, 0, none⟩)], .int .i64 20, .func (.func 122) #[] #[.pointer (some ⟨bw, 0, none⟩)], .int .i64 21, .func (.func 126) #[] #[.pointer (some ⟨bw, 0, none⟩)]]) (.int .i64 2)).run Tryz.prog w = .ok (.agg #[.int .i64 20, .func (.func 122) #[] #[.pointer (some ⟨bw, 0, none⟩)]]) w := by kernel_rfl
theorem chk_index3 (bw : Nat) (w : World) : (Instr.index 177 (.agg #[.int .i64 2, .func (.func 118) #[] #[.pointer (some ⟨bw, 0, none⟩)], .int .i64 6, .func (.func 119) #[] #[.pointer (some ⟨bw, 0, none⟩)], .int .i64 20, .func (.func 122) #[] #[.pointer (some ⟨bw, 0, none⟩)], .int .i64 21, .func (.func 126) #[] #[.pointer (some ⟨bw, 0, none⟩)]]) (.int .i64 3)).run Tryz.prog w = .ok (.agg #[.int .i64 21, .func (.func 126) #[] #[.pointer (some ⟨bw, 0, none⟩)]]) w := by kernel_rfl
set_option maxRecDepth 100000 in
set_option maxHeartbeats 4000000 in
theorem check_any (W : Wld) (p1 p2 : Option Addr) (k1 k2 : Nat) (w : World) (ht : Tabs w) (hW : WldIn w W p1 p2) :
    Calls Tryz.prog 108 #[wldVal W p1 p2 k1 k2] w fun e w' => e = .returned (.int .i64 (checkS W)) ∧ Below w.heap.size w w' := by
  obtain ⟨sd, chs, cls⟩ := W
  unfold wldVal
  dsimp only
  have HW := Lib.hid hW; clear hW
  have HT := Lib.hid ht; clear ht
  have hm1 := HW.out.1
  have hm2 := HW.out.2.1
  dsimp only at hm1 hm2
  have j0 := chk_index0 w.heap.size
  have j1 := chk_index1 w.heap.size
  have j2 := chk_index2 w.heap.size
  have j3 := chk_index3 w.heap.size
  have hen : checkS ⟨sd, chs, cls⟩ = if (inR chs.length 1 8 && inR cls.length 1 16) = false then 2 else if chs.all chamOk = false then 6 else if cls.all (clkOk chs.length) = false then 20 else if cls.all evsOf = false then 21 else 0 := rfl
  cases h1 : (inR chs.length 1 8 && inR cls.length 1 16)
  · have he : checkS ⟨sd, chs, cls⟩ = 2 := by rw [hen]; simp only [h1, if_true]
    have HE := Lib.hid he
    clear he hen
    go_enter Tryz.func108, Tryz.ntmps108
    go_wp2
    refine wp_loop_rounds 5 ?_
    have b0 : BoxOf ((w.alloc (.cells #[.int .u64 sd, .slice p1 chs.length k1, .slice p2 cls.length k2] 38)).alloc (.cells #[.int .i64 2, .func (.func 118) #[] #[.pointer (some ⟨w.heap.size, 0, none⟩)], .int .i64 6, .func (.func 119) #[] #[.pointer (some ⟨w.heap.size, 0, none⟩)], .int .i64 20, .func (.func 122) #[] #[.pointer (some ⟨w.heap.size, 0, none⟩)], .int .i64 21, .func (.func 126) #[] #[.pointer (some ⟨w.heap.size, 0, none⟩)]] 177)) w.heap.size p1 p2 chs.length k1 cls.length k2 := ⟨by simp [go_sem], by simp [go_sem]⟩
    have f0 : Below w.heap.size w ((w.alloc (.cells #[.int .u64 sd, .slice p1 chs.length k1, .slice p2 cls.length k2] 38)).alloc (.cells #[.int .i64 2, .func (.func 118) #[] #[.pointer (some ⟨w.heap.size, 0, none⟩)], .int .i64 6, .func (.func 119) #[] #[.pointer (some ⟨w.heap.size, 0, none⟩)], .int .i64 20, .func (.func 122) #[] #[.pointer (some ⟨w.heap.size, 0, none⟩)], .int .i64 21, .func (.func 126) #[] #[.pointer (some ⟨w.heap.size, 0, none⟩)]] 177)) := by go_grown
    generalize hg : ((w.alloc (.cells #[.int .u64 sd, .slice p1 chs.length k1, .slice p2 cls.length k2] 38)).alloc (.cells #[.int .i64 2, .func (.func 118) #[] #[.pointer (some ⟨w.heap.size, 0, none⟩)], .int .i64 6, .func (.func 119) #[] #[.pointer (some ⟨w.heap.size, 0, none⟩)], .int .i64 20, .func (.func 122) #[] #[.pointer (some ⟨w.heap.size, 0, none⟩)], .int .i64 21, .func (.func 126) #[] #[.pointer (some ⟨w.heap.size, 0, none⟩)]] 177)) = W0 at *
    clear hg
    rw [rounds_succ]
    go_wp2_with fail
    have a0 : Below W0.heap.size W0 (W0.alloc (.cells #[.int .i64 2, .func (.func 118) #[] #[.pointer (some ⟨w.heap.size, 0, none⟩)]] 172)) := (Below.refl _ _).alloc (Nat.le_refl _) _
    have HX := Lib.hid ((HW.out.below f0).below a0)
    have TX := Lib.hid ((HT.out.below f0).below a0)
    have BX := Lib.hid (b0.below a0)
    have y0 : (W0.alloc (.cells #[.int .i64 2, .func (.func 118) #[] #[.pointer (some ⟨w.heap.size, 0, none⟩)]] 172)).cell? ⟨W0.heap.size, 0, none⟩ = some (.int .i64 2) := by simp
    refine (chkMany_any w.heap.size p1 p2 _ k1 _ k2 _ BX.out).mono ?_
    rintro e w1 ⟨rfl, rfl⟩
    have g0 := y0
    have c0 := Below.refl (W0.alloc (.cells #[.int .i64 2, .func (.func 118) #[] #[.pointer (some ⟨w.heap.size, 0, none⟩)]] 172)).heap.size (W0.alloc (.cells #[.int .i64 2, .func (.func 118) #[] #[.pointer (some ⟨w.heap.size, 0, none⟩)]] 172))
    have f1 : Below w.heap.size w (W0.alloc (.cells #[.int .i64 2, .func (.func 118) #[] #[.pointer (some ⟨w.heap.size, 0, none⟩)]] 172)) := f0.trans ((a0.trans (c0.mono (by simp))).mono (by have := f0.size; omega))
    have b1 : BoxOf (W0.alloc (.cells #[.int .i64 2, .func (.func 118) #[] #[.pointer (some ⟨w.heap.size, 0, none⟩)]] 172)) w.heap.size p1 p2 chs.length k1 cls.length k2 := BX.out.below c0
    clear HX TX BX y0 a0 c0 b0
    generalize (W0.alloc (.cells #[.int .i64 2, .func (.func 118) #[] #[.pointer (some ⟨w.heap.size, 0, none⟩)]] 172)) = w1 at *
    have F1 := Lib.hid f1
    have B1 := Lib.hid b1
    clear f1 b1 f0
    go_wp2
    go_ret
    exact ⟨ret_i64 HE.out.symm, F1.out⟩
  · cases h2 : (chs.all chamOk)
    · have he : checkS ⟨sd, chs, cls⟩ = 6 := by rw [hen]; simp only [h1, h2, if_true, Bool.true_eq_false, if_false]
      have HE := Lib.hid he
      clear he hen
      go_enter Tryz.func108, Tryz.ntmps108
      go_wp2
      refine wp_loop_rounds 5 ?_
      have b0 : BoxOf ((w.alloc (.cells #[.int .u64 sd, .slice p1 chs.length k1, .slice p2 cls.length k2] 38)).alloc (.cells #[.int .i64 2, .func (.func 118) #[] #[.pointer (some ⟨w.heap.size, 0, none⟩)], .int .i64 6, .func (.func 119) #[] #[.pointer (some ⟨w.heap.size, 0, none⟩)], .int .i64 20, .func (.func 122) #[] #[.pointer (some ⟨w.heap.size, 0, none⟩)], .int .i64 21, .func (.func 126) #[] #[.pointer (some ⟨w.heap.size, 0, none⟩)]] 177)) w.heap.size p1 p2 chs.length k1 cls.length k2 := ⟨by simp [go_sem], by simp [go_sem]⟩
      have f0 : Below w.heap.size w ((w.alloc (.cells #[.int .u64 sd, .slice p1 chs.length k1, .slice p2 cls.length k2] 38)).alloc (.cells #[.int .i64 2, .func (.func 118) #[] #[.pointer (some ⟨w.heap.size, 0, none⟩)], .int .i64 6, .func (.func 119) #[] #[.pointer (some ⟨w.heap.size, 0, none⟩)], .int .i64 20, .func (.func 122) #[] #[.pointer (some ⟨w.heap.size, 0, none⟩)], .int .i64 21, .func (.func 126) #[] #[.pointer (some ⟨w.heap.size, 0, none⟩)]] 177)) := by go_grown
      generalize hg : ((w.alloc (.cells #[.int .u64 sd, .slice p1 chs.length k1, .slice p2 cls.length k2] 38)).alloc (.cells #[.int .i64 2, .func (.func 118) #[] #[.pointer (some ⟨w.heap.size, 0, none⟩)], .int .i64 6, .func (.func 119) #[] #[.pointer (some ⟨w.heap.size, 0, none⟩)], .int .i64 20, .func (.func 122) #[] #[.pointer (some ⟨w.heap.size, 0, none⟩)], .int .i64 21, .func (.func 126) #[] #[.pointer (some ⟨w.heap.size, 0, none⟩)]] 177)) = W0 at *
      clear hg
      rw [rounds_succ]
      go_wp2_with fail
      have a0 : Below W0.heap.size W0 (W0.alloc (.cells #[.int .i64 2, .func (.func 118) #[] #[.pointer (some ⟨w.heap.size, 0, none⟩)]] 172)) := (Below.refl _ _).alloc (Nat.le_refl _) _
      have HX := Lib.hid ((HW.out.below f0).below a0)
      have TX := Lib.hid ((HT.out.below f0).below a0)
      have BX := Lib.hid (b0.below a0)
      have y0 : (W0.alloc (.cells #[.int .i64 2, .func (.func 118) #[] #[.pointer (some ⟨w.heap.size, 0, none⟩)]] 172)).cell? ⟨W0.heap.size, 0, none⟩ = some (.int .i64 2) := by simp
      refine (chkMany_any w.heap.size p1 p2 _ k1 _ k2 _ BX.out).mono ?_
      rintro e w1 ⟨rfl, rfl⟩
      have g0 := y0
      have c0 := Below.refl (W0.alloc (.cells #[.int .i64 2, .func (.func 118) #[] #[.pointer (some ⟨w.heap.size, 0, none⟩)]] 172)).heap.size (W0.alloc (.cells #[.int .i64 2, .func (.func 118) #[] #[.pointer (some ⟨w.heap.size, 0, none⟩)]] 172))
      have f1 : Below w.heap.size w (W0.alloc (.cells #[.int .i64 2, .func (.func 118) #[] #[.pointer (some ⟨w.heap.size, 0, none⟩)]] 172)) := f0.trans ((a0.trans (c0.mono (by simp))).mono (by have := f0.size; omega))
      have b1 : BoxOf (W0.alloc (.cells #[.int .i64 2, .func (.func 118) #[] #[.pointer (some ⟨w.heap.size, 0, none⟩)]] 172)) w.heap.size p1 p2 chs.length k1 cls.length k2 := BX.out.below c0
      clear HX TX BX y0 a0 c0 b0
      generalize (W0.alloc (.cells #[.int .i64 2, .func (.func 118) #[] #[.pointer (some ⟨w.heap.size, 0, none⟩)]] 172)) = w1 at *
      have F1 := Lib.hid f1
      have B1 := Lib.hid b1
      clear f1 b1 f0
      go_wp2_with fail
      have f1 := F1.out
      have b1 := B1.out
      clear F1 B1
      rw [rounds_succ]
      go_wp2_with fail
      have a1 : Below w1.heap.size w1 (w1.alloc (.cells #[.int .i64 6, .func (.func 119) #[] #[.pointer (some ⟨w.heap.size, 0, none⟩)]] 172)) := (Below.refl _ _).alloc (Nat.le_refl _) _
      have HX := Lib.hid ((HW.out.below f1).below a1)
      have TX := Lib.hid ((HT.out.below f1).below a1)
      have BX := Lib.hid (b1.below a1)
      have y1 : (w1.alloc (.cells #[.int .i64 6, .func (.func 119) #[] #[.pointer (some ⟨w.heap.size, 0, none⟩)]] 172)).cell? ⟨w1.heap.size, 0, none⟩ = some (.int .i64 6) := by simp
      refine (chkChams_any w.heap.size chs p1 p2 k1 _ k2 _ BX.out hm1 HX.out.2.2.1).mono ?_
      rintro e v2 ⟨rfl, c1⟩
      have g1 : v2.cell? ⟨w1.heap.size, 0, none⟩ = some (.int .i64 6) := (c1.cell (p := ⟨w1.heap.size, 0, none⟩) (by simp)).trans y1
      have f2 : Below w.heap.size w v2 := f1.trans ((a1.trans (c1.mono (by simp))).mono (by have := f1.size; omega))
      have b2 : BoxOf v2 w.heap.size p1 p2 chs.length k1 cls.length k2 := BX.out.below c1
      clear HX TX BX y1 a1 c1 b1
      generalize v2 = w2 at *
      have F2 := Lib.hid f2
      have B2 := Lib.hid b2
      clear f2 b2 f1
      go_wp2
      go_ret
      exact ⟨ret_i64 HE.out.symm, F2.out⟩
    · cases h3 : (cls.all (clkOk chs.length))
      · have he : checkS ⟨sd, chs, cls⟩ = 20 := by rw [hen]; simp only [h1, h2, h3, if_true, Bool.true_eq_false, if_false]
        have HE := Lib.hid he
        clear he hen
        go_enter Tryz.func108, Tryz.ntmps108
        go_wp2
        refine wp_loop_rounds 5 ?_
        have b0 : BoxOf ((w.alloc (.cells #[.int .u64 sd, .slice p1 chs.length k1, .slice p2 cls.length k2] 38)).alloc (.cells #[.int .i64 2, .func (.func 118) #[] #[.pointer (some ⟨w.heap.size, 0, none⟩)], .int .i64 6, .func (.func 119) #[] #[.pointer (some ⟨w.heap.size, 0, none⟩)], .int .i64 20, .func (.func 122) #[] #[.pointer (some ⟨w.heap.size, 0, none⟩)], .int .i64 21, .func (.func 126) #[] #[.pointer (some ⟨w.heap.size, 0, none⟩)]] 177)) w.heap.size p1 p2 chs.length k1 cls.length k2 := ⟨by simp [go_sem], by simp [go_sem]⟩
        have f0 : Below w.heap.size w ((w.alloc (.cells #[.int .u64 sd, .slice p1 chs.length k1, .slice p2 cls.length k2] 38)).alloc (.cells #[.int .i64 2, .func (.func 118) #[] #[.pointer (some ⟨w.heap.size, 0, none⟩)], .int .i64 6, .func (.func 119) #[] #[.pointer (some ⟨w.heap.size, 0, none⟩)], .int .i64 20, .func (.func 122) #[] #[.pointer (some ⟨w.heap.size, 0, none⟩)], .int .i64 21, .func (.func 126) #[] #[.pointer (some ⟨w.heap.size, 0, none⟩)]] 177)) := by go_grown
        generalize hg : ((w.alloc (.cells #[.int .u64 sd, .slice p1 chs.length k1, .slice p2 cls.length k2] 38)).alloc (.cells #[.int .i64 2, .func (.func 118) #[] #[.pointer (some ⟨w.heap.size, 0, none⟩)], .int .i64 6, .func (.func 119) #[] #[.pointer (some ⟨w.heap.size, 0, none⟩)], .int .i64 20, .func (.func 122) #[] #[.pointer (some ⟨w.heap.size, 0, none⟩)], .int .i64 21, .func (.func 126) #[] #[.pointer (some ⟨w.heap.size, 0, none⟩)]] 177)) = W0 at *
        clear hg
        rw [rounds_succ]
        go_wp2_with fail
        have a0 : Below W0.heap.size W0 (W0.alloc (.cells #[.int .i64 2, .func (.func 118) #[] #[.pointer (some ⟨w.heap.size, 0, none⟩)]] 172)) := (Below.refl _ _).alloc (Nat.le_refl _) _
        have HX := Lib.hid ((HW.out.below f0).below a0)
        have TX := Lib.hid ((HT.out.below f0).below a0)
        have BX := Lib.hid (b0.below a0)
        have y0 : (W0.alloc (.cells #[.int .i64 2, .func (.func 118) #[] #[.pointer (some ⟨w.heap.size, 0, none⟩)]] 172)).cell? ⟨W0.heap.size, 0, none⟩ = some (.int .i64 2) := by simp
        refine (chkMany_any w.heap.size p1 p2 _ k1 _ k2 _ BX.out).mono ?_
        rintro e w1 ⟨rfl, rfl⟩
        have g0 := y0
        have c0 := Below.refl (W0.alloc (.cells #[.int .i64 2, .func (.func 118) #[] #[.pointer (some ⟨w.heap.size, 0, none⟩)]] 172)).heap.size (W0.alloc (.cells #[.int .i64 2, .func (.func 118) #[] #[.pointer (some ⟨w.heap.size, 0, none⟩)]] 172))
        have f1 : Below w.heap.size w (W0.alloc (.cells #[.int .i64 2, .func (.func 118) #[] #[.pointer (some ⟨w.heap.size, 0, none⟩)]] 172)) := f0.trans ((a0.trans (c0.mono (by simp))).mono (by have := f0.size; omega))
        have b1 : BoxOf (W0.alloc (.cells #[.int .i64 2, .func (.func 118) #[] #[.pointer (some ⟨w.heap.size, 0, none⟩)]] 172)) w.heap.size p1 p2 chs.length k1 cls.length k2 := BX.out.below c0
        clear HX TX BX y0 a0 c0 b0
        generalize (W0.alloc (.cells #[.int .i64 2, .func (.func 118) #[] #[.pointer (some ⟨w.heap.size, 0, none⟩)]] 172)) = w1 at *
        have F1 := Lib.hid f1
        have B1 := Lib.hid b1
        clear f1 b1 f0
        go_wp2_with fail
        have f1 := F1.out
        have b1 := B1.out
        clear F1 B1
        rw [rounds_succ]
        go_wp2_with fail
        have a1 : Below w1.heap.size w1 (w1.alloc (.cells #[.int .i64 6, .func (.func 119) #[] #[.pointer (some ⟨w.heap.size, 0, none⟩)]] 172)) := (Below.refl _ _).alloc (Nat.le_refl _) _
        have HX := Lib.hid ((HW.out.below f1).below a1)
        have TX := Lib.hid ((HT.out.below f1).below a1)
        have BX := Lib.hid (b1.below a1)
        have y1 : (w1.alloc (.cells #[.int .i64 6, .func (.func 119) #[] #[.pointer (some ⟨w.heap.size, 0, none⟩)]] 172)).cell? ⟨w1.heap.size, 0, none⟩ = some (.int .i64 6) := by simp
        refine (chkChams_any w.heap.size chs p1 p2 k1 _ k2 _ BX.out hm1 HX.out.2.2.1).mono ?_
        rintro e v2 ⟨rfl, c1⟩
        have g1 : v2.cell? ⟨w1.heap.size, 0, none⟩ = some (.int .i64 6) := (c1.cell (p := ⟨w1.heap.size, 0, none⟩) (by simp)).trans y1
        have f2 : Below w.heap.size w v2 := f1.trans ((a1.trans (c1.mono (by simp))).mono (by have := f1.size; omega))
        have b2 : BoxOf v2 w.heap.size p1 p2 chs.length k1 cls.length k2 := BX.out.below c1
        clear HX TX BX y1 a1 c1 b1
        generalize v2 = w2 at *
        have F2 := Lib.hid f2
        have B2 := Lib.hid b2
        clear f2 b2 f1
        go_wp2_with fail
        have f2 := F2.out
        have b2 := B2.out
        clear F2 B2
        rw [rounds_succ]
        go_wp2_with fail
        have a2 : Below w2.heap.size w2 (w2.alloc (.cells #[.int .i64 20, .func (.func 122) #[] #[.pointer (some ⟨w.heap.size, 0, none⟩)]] 172)) := (Below.refl _ _).alloc (Nat.le_refl _) _
        have HX := Lib.hid ((HW.out.below f2).below a2)
        have TX := Lib.hid ((HT.out.below f2).below a2)
        have BX := Lib.hid (b2.below a2)
        have y2 : (w2.alloc (.cells #[.int .i64 20, .func (.func 122) #[] #[.pointer (some ⟨w.heap.size, 0, none⟩)]] 172)).cell? ⟨w2.heap.size, 0, none⟩ = some (.int .i64 20) := by simp
        refine (chkClks_any w.heap.size cls p1 p2 _ k1 k2 _ TX.out hm1 BX.out hm2 HX.out.2.2.2).mono ?_
        rintro e v3 ⟨rfl, c2⟩
        have g2 : v3.cell? ⟨w2.heap.size, 0, none⟩ = some (.int .i64 20) := (c2.cell (p := ⟨w2.heap.size, 0, none⟩) (by simp)).trans y2
        have f3 : Below w.heap.size w v3 := f2.trans ((a2.trans (c2.mono (by simp))).mono (by have := f2.size; omega))
        have b3 : BoxOf v3 w.heap.size p1 p2 chs.length k1 cls.length k2 := BX.out.below c2
        clear HX TX BX y2 a2 c2 b2
        generalize v3 = w3 at *
        have F3 := Lib.hid f3
        have B3 := Lib.hid b3
        clear f3 b3 f2
        go_wp2
        go_ret
        exact ⟨ret_i64 HE.out.symm, F3.out⟩
      · cases h4 : (cls.all evsOf)
        · have he : checkS ⟨sd, chs, cls⟩ = 21 := by rw [hen]; simp only [h1, h2, h3, h4, if_true, Bool.true_eq_false, if_false]
          have HE := Lib.hid he
          clear he hen
          go_enter Tryz.func108, Tryz.ntmps108
          go_wp2
          refine wp_loop_rounds 5 ?_
          have b0 : BoxOf ((w.alloc (.cells #[.int .u64 sd, .slice p1 chs.length k1, .slice p2 cls.length k2] 38)).alloc (.cells #[.int .i64 2, .func (.func 118) #[] #[.pointer (some ⟨w.heap.size, 0, none⟩)], .int .i64 6, .func (.func 119) #[] #[.pointer (some ⟨w.heap.size, 0, none⟩)], .int .i64 20, .func (.func 122) #[] #[.pointer (some ⟨w.heap.size, 0, none⟩)], .int .i64 21, .func (.func 126) #[] #[.pointer (some ⟨w.heap.size, 0, none⟩)]] 177)) w.heap.size p1 p2 chs.length k1 cls.length k2 := ⟨by simp [go_sem], by simp [go_sem]⟩
          have f0 : Below w.heap.size w ((w.alloc (.cells #[.int .u64 sd, .slice p1 chs.length k1, .slice p2 cls.length k2] 38)).alloc (.cells #[.int .i64 2, .func (.func 118) #[] #[.pointer (some ⟨w.heap.size, 0, none⟩)], .int .i64 6, .func (.func 119) #[] #[.pointer (some ⟨w.heap.size, 0, none⟩)], .int .i64 20, .func (.func 122) #[] #[.pointer (some ⟨w.heap.size, 0, none⟩)], .int .i64 21, .func (.func 126) #[] #[.pointer (some ⟨w.heap.size, 0, none⟩)]] 177)) := by go_grown
          generalize hg : ((w.alloc (.cells #[.int .u64 sd, .slice p1 chs.length k1, .slice p2 cls.length k2] 38)).alloc (.cells #[.int .i64 2, .func (.func 118) #[] #[.pointer (some ⟨w.heap.size, 0, none⟩)], .int .i64 6, .func (.func 119) #[] #[.pointer (some ⟨w.heap.size, 0, none⟩)], .int .i64 20, .func (.func 122) #[] #[.pointer (some ⟨w.heap.size, 0, none⟩)], .int .i64 21, .func (.func 126) #[] #[.pointer (some ⟨w.heap.size, 0, none⟩)]] 177)) = W0 at *
          clear hg
          rw [rounds_succ]
          go_wp2_with fail
          have a0 : Below W0.heap.size W0 (W0.alloc (.cells #[.int .i64 2, .func (.func 118) #[] #[.pointer (some ⟨w.heap.size, 0, none⟩)]] 172)) := (Below.refl _ _).alloc (Nat.le_refl _) _
          have HX := Lib.hid ((HW.out.below f0).below a0)
          have TX := Lib.hid ((HT.out.below f0).below a0)
          have BX := Lib.hid (b0.below a0)
          have y0 : (W0.alloc (.cells #[.int .i64 2, .func (.func 118) #[] #[.pointer (some ⟨w.heap.size, 0, none⟩)]] 172)).cell? ⟨W0.heap.size, 0, none⟩ = some (.int .i64 2) := by simp
          refine (chkMany_any w.heap.size p1 p2 _ k1 _ k2 _ BX.out).mono ?_
          rintro e w1 ⟨rfl, rfl⟩
          have g0 := y0
          have c0 := Below.refl (W0.alloc (.cells #[.int .i64 2, .func (.func 118) #[] #[.pointer (some ⟨w.heap.size, 0, none⟩)]] 172)).heap.size (W0.alloc (.cells #[.int .i64 2, .func (.func 118) #[] #[.pointer (some ⟨w.heap.size, 0, none⟩)]] 172))
          have f1 : Below w.heap.size w (W0.alloc (.cells #[.int .i64 2, .func (.func 118) #[] #[.pointer (some ⟨w.heap.size, 0, none⟩)]] 172)) := f0.trans ((a0.trans (c0.mono (by simp))).mono (by have := f0.size; omega))
          have b1 : BoxOf (W0.alloc (.cells #[.int .i64 2, .func (.func 118) #[] #[.pointer (some ⟨w.heap.size, 0, none⟩)]] 172)) w.heap.size p1 p2 chs.length k1 cls.length k2 := BX.out.below c0
          clear HX TX BX y0 a0 c0 b0
          generalize (W0.alloc (.cells #[.int .i64 2, .func (.func 118) #[] #[.pointer (some ⟨w.heap.size, 0, none⟩)]] 172)) = w1 at *
          have F1 := Lib.hid f1
          have B1 := Lib.hid b1
          clear f1 b1 f0
          go_wp2_with fail
          have f1 := F1.out
          have b1 := B1.out
          clear F1 B1
          rw [rounds_succ]
          go_wp2_with fail
          have a1 : Below w1.heap.size w1 (w1.alloc (.cells #[.int .i64 6, .func (.func 119) #[] #[.pointer (some ⟨w.heap.size, 0, none⟩)]] 172)) := (Below.refl _ _).alloc (Nat.le_refl _) _
          have HX := Lib.hid ((HW.out.below f1).below a1)
          have TX := Lib.hid ((HT.out.below f1).below a1)
          have BX := Lib.hid (b1.below a1)
          have y1 : (w1.alloc (.cells #[.int .i64 6, .func (.func 119) #[] #[.pointer (some ⟨w.heap.size, 0, none⟩)]] 172)).cell? ⟨w1.heap.size, 0, none⟩ = some (.int .i64 6) := by simp
          refine (chkChams_any w.heap.size chs p1 p2 k1 _ k2 _ BX.out hm1 HX.out.2.2.1).mono ?_
          rintro e v2 ⟨rfl, c1⟩
          have g1 : v2.cell? ⟨w1.heap.size, 0, none⟩ = some (.int .i64 6) := (c1.cell (p := ⟨w1.heap.size, 0, none⟩) (by simp)).trans y1
          have f2 : Below w.heap.size w v2 := f1.trans ((a1.trans (c1.mono (by simp))).mono (by have := f1.size; omega))
          have b2 : BoxOf v2 w.heap.size p1 p2 chs.length k1 cls.length k2 := BX.out.below c1
          clear HX TX BX y1 a1 c1 b1
          generalize v2 = w2 at *
          have F2 := Lib.hid f2
          have B2 := Lib.hid b2
          clear f2 b2 f1
          go_wp2_with fail
          have f2 := F2.out
          have b2 := B2.out
          clear F2 B2
          rw [rounds_succ]
          go_wp2_with fail
          have a2 : Below w2.heap.size w2 (w2.alloc (.cells #[.int .i64 20, .func (.func 122) #[] #[.pointer (some ⟨w.heap.size, 0, none⟩)]] 172)) := (Below.refl _ _).alloc (Nat.le_refl _) _
          have HX := Lib.hid ((HW.out.below f2).below a2)
          have TX := Lib.hid ((HT.out.below f2).below a2)
          have BX := Lib.hid (b2.below a2)
          have y2 : (w2.alloc (.cells #[.int .i64 20, .func (.func 122) #[] #[.pointer (some ⟨w.heap.size, 0, none⟩)]] 172)).cell? ⟨w2.heap.size, 0, none⟩ = some (.int .i64 20) := by simp
          refine (chkClks_any w.heap.size cls p1 p2 _ k1 k2 _ TX.out hm1 BX.out hm2 HX.out.2.2.2).mono ?_
          rintro e v3 ⟨rfl, c2⟩
          have g2 : v3.cell? ⟨w2.heap.size, 0, none⟩ = some (.int .i64 20) := (c2.cell (p := ⟨w2.heap.size, 0, none⟩) (by simp)).trans y2
          have f3 : Below w.heap.size w v3 := f2.trans ((a2.trans (c2.mono (by simp))).mono (by have := f2.size; omega))
          have b3 : BoxOf v3 w.heap.size p1 p2 chs.length k1 cls.length k2 := BX.out.below c2
          clear HX TX BX y2 a2 c2 b2
          generalize v3 = w3 at *
          have F3 := Lib.hid f3
          have B3 := Lib.hid b3
          clear f3 b3 f2
          go_wp2_with fail
          have f3 := F3.out
          have b3 := B3.out
          clear F3 B3
          rw [rounds_succ]
          go_wp2_with fail
          have a3 : Below w3.heap.size w3 (w3.alloc (.cells #[.int .i64 21, .func (.func 126) #[] #[.pointer (some ⟨w.heap.size, 0, none⟩)]] 172)) := (Below.refl _ _).alloc (Nat.le_refl _) _
          have HX := Lib.hid ((HW.out.below f3).below a3)
          have TX := Lib.hid ((HT.out.below f3).below a3)
          have BX := Lib.hid (b3.below a3)
          have y3 : (w3.alloc (.cells #[.int .i64 21, .func (.func 126) #[] #[.pointer (some ⟨w.heap.size, 0, none⟩)]] 172)).cell? ⟨w3.heap.size, 0, none⟩ = some (.int .i64 21) := by simp
          refine (chkEvs_any w.heap.size cls p1 p2 _ k1 k2 _ TX.out BX.out hm2 HX.out.2.2.2).mono ?_
          rintro e v4 ⟨rfl, c3⟩
          have g3 : v4.cell? ⟨w3.heap.size, 0, none⟩ = some (.int .i64 21) := (c3.cell (p := ⟨w3.heap.size, 0, none⟩) (by simp)).trans y3
          have f4 : Below w.heap.size w v4 := f3.trans ((a3.trans (c3.mono (by simp))).mono (by have := f3.size; omega))
          have b4 : BoxOf v4 w.heap.size p1 p2 chs.length k1 cls.length k2 := BX.out.below c3
          clear HX TX BX y3 a3 c3 b3
          generalize v4 = w4 at *
          have F4 := Lib.hid f4
          have B4 := Lib.hid b4
          clear f4 b4 f3
          go_wp2
          go_ret
          exact ⟨ret_i64 HE.out.symm, F4.out⟩
        · have he : checkS ⟨sd, chs, cls⟩ = 0 := by rw [hen]; simp only [h1, h2, h3, h4, Bool.true_eq_false, if_false]
          have HE := Lib.hid he
          clear he hen
          go_enter Tryz.func108, Tryz.ntmps108
          go_wp2
          refine wp_loop_rounds 5 ?_
          have b0 : BoxOf ((w.alloc (.cells #[.int .u64 sd, .slice p1 chs.length k1, .slice p2 cls.length k2] 38)).alloc (.cells #[.int .i64 2, .func (.func 118) #[] #[.pointer (some ⟨w.heap.size, 0, none⟩)], .int .i64 6, .func (.func 119) #[] #[.pointer (some ⟨w.heap.size, 0, none⟩)], .int .i64 20, .func (.func 122) #[] #[.pointer (some ⟨w.heap.size, 0, none⟩)], .int .i64 21, .func (.func 126) #[] #[.pointer (some ⟨w.heap.size, 0, none⟩)]] 177)) w.heap.size p1 p2 chs.length k1 cls.length k2 := ⟨by simp [go_sem], by simp [go_sem]⟩
          have f0 : Below w.heap.size w ((w.alloc (.cells #[.int .u64 sd, .slice p1 chs.length k1, .slice p2 cls.length k2] 38)).alloc (.cells #[.int .i64 2, .func (.func 118) #[] #[.pointer (some ⟨w.heap.size, 0, none⟩)], .int .i64 6, .func (.func 119) #[] #[.pointer (some ⟨w.heap.size, 0, none⟩)], .int .i64 20, .func (.func 122) #[] #[.pointer (some ⟨w.heap.size, 0, none⟩)], .int .i64 21, .func (.func 126) #[] #[.pointer (some ⟨w.heap.size, 0, none⟩)]] 177)) := by go_grown
          generalize hg : ((w.alloc (.cells #[.int .u64 sd, .slice p1 chs.length k1, .slice p2 cls.length k2] 38)).alloc (.cells #[.int .i64 2, .func (.func 118) #[] #[.pointer (some ⟨w.heap.size, 0, none⟩)], .int .i64 6, .func (.func 119) #[] #[.pointer (some ⟨w.heap.size, 0, none⟩)], .int .i64 20, .func (.func 122) #[] #[.pointer (some ⟨w.heap.size, 0, none⟩)], .int .i64 21, .func (.func 126) #[] #[.pointer (some ⟨w.heap.size, 0, none⟩)]] 177)) = W0 at *
          clear hg
          rw [rounds_succ]
          go_wp2_with fail
          have a0 : Below W0.heap.size W0 (W0.alloc (.cells #[.int .i64 2, .func (.func 118) #[] #[.pointer (some ⟨w.heap.size, 0, none⟩)]] 172)) := (Below.refl _ _).alloc (Nat.le_refl _) _
          have HX := Lib.hid ((HW.out.below f0).below a0)
          have TX := Lib.hid ((HT.out.below f0).below a0)
          have BX := Lib.hid (b0.below a0)
          have y0 : (W0.alloc (.cells #[.int .i64 2, .func (.func 118) #[] #[.pointer (some ⟨w.heap.size, 0, none⟩)]] 172)).cell? ⟨W0.heap.size, 0, none⟩ = some (.int .i64 2) := by simp
          refine (chkMany_any w.heap.size p1 p2 _ k1 _ k2 _ BX.out).mono ?_
          rintro e w1 ⟨rfl, rfl⟩
          have g0 := y0
          have c0 := Below.refl (W0.alloc (.cells #[.int .i64 2, .func (.func 118) #[] #[.pointer (some ⟨w.heap.size, 0, none⟩)]] 172)).heap.size (W0.alloc (.cells #[.int .i64 2, .func (.func 118) #[] #[.pointer (some ⟨w.heap.size, 0, none⟩)]] 172))
          have f1 : Below w.heap.size w (W0.alloc (.cells #[.int .i64 2, .func (.func 118) #[] #[.pointer (some ⟨w.heap.size, 0, none⟩)]] 172)) := f0.trans ((a0.trans (c0.mono (by simp))).mono (by have := f0.size; omega))
          have b1 : BoxOf (W0.alloc (.cells #[.int .i64 2, .func (.func 118) #[] #[.pointer (some ⟨w.heap.size, 0, none⟩)]] 172)) w.heap.size p1 p2 chs.length k1 cls.length k2 := BX.out.below c0
          clear HX TX BX y0 a0 c0 b0
          generalize (W0.alloc (.cells #[.int .i64 2, .func (.func 118) #[] #[.pointer (some ⟨w.heap.size, 0, none⟩)]] 172)) = w1 at *
          have F1 := Lib.hid f1
          have B1 := Lib.hid b1
          clear f1 b1 f0
          go_wp2_with fail
          have f1 := F1.out
          have b1 := B1.out
          clear F1 B1
          rw [rounds_succ]
          go_wp2_with fail
          have a1 : Below w1.heap.size w1 (w1.alloc (.cells #[.int .i64 6, .func (.func 119) #[] #[.pointer (some ⟨w.heap.size, 0, none⟩)]] 172)) := (Below.refl _ _).alloc (Nat.le_refl _) _
          have HX := Lib.hid ((HW.out.below f1).below a1)
          have TX := Lib.hid ((HT.out.below f1).below a1)
          have BX := Lib.hid (b1.below a1)
          have y1 : (w1.alloc (.cells #[.int .i64 6, .func (.func 119) #[] #[.pointer (some ⟨w.heap.size, 0, none⟩)]] 172)).cell? ⟨w1.heap.size, 0, none⟩ = some (.int .i64 6) := by simp
          refine (chkChams_any w.heap.size chs p1 p2 k1 _ k2 _ BX.out hm1 HX.out.2.2.1).mono ?_
          rintro e v2 ⟨rfl, c1⟩
          have g1 : v2.cell? ⟨w1.heap.size, 0, none⟩ = some (.int .i64 6) := (c1.cell (p := ⟨w1.heap.size, 0, none⟩) (by simp)).trans y1
          have f2 : Below w.heap.size w v2 := f1.trans ((a1.trans (c1.mono (by simp))).mono (by have := f1.size; omega))
          have b2 : BoxOf v2 w.heap.size p1 p2 chs.length k1 cls.length k2 := BX.out.below c1
          clear HX TX BX y1 a1 c1 b1
          generalize v2 = w2 at *
          have F2 := Lib.hid f2
          have B2 := Lib.hid b2
          clear f2 b2 f1
          go_wp2_with fail
          have f2 := F2.out
          have b2 := B2.out
          clear F2 B2
          rw [rounds_succ]
          go_wp2_with fail
          have a2 : Below w2.heap.size w2 (w2.alloc (.cells #[.int .i64 20, .func (.func 122) #[] #[.pointer (some ⟨w.heap.size, 0, none⟩)]] 172)) := (Below.refl _ _).alloc (Nat.le_refl _) _
          have HX := Lib.hid ((HW.out.below f2).below a2)
          have TX := Lib.hid ((HT.out.below f2).below a2)
          have BX := Lib.hid (b2.below a2)
          have y2 : (w2.alloc (.cells #[.int .i64 20, .func (.func 122) #[] #[.pointer (some ⟨w.heap.size, 0, none⟩)]] 172)).cell? ⟨w2.heap.size, 0, none⟩ = some (.int .i64 20) := by simp
          refine (chkClks_any w.heap.size cls p1 p2 _ k1 k2 _ TX.out hm1 BX.out hm2 HX.out.2.2.2).mono ?_
          rintro e v3 ⟨rfl, c2⟩
          have g2 : v3.cell? ⟨w2.heap.size, 0, none⟩ = some (.int .i64 20) := (c2.cell (p := ⟨w2.heap.size, 0, none⟩) (by simp)).trans y2
          have f3 : Below w.heap.size w v3 := f2.trans ((a2.trans (c2.mono (by simp))).mono (by have := f2.size; omega))
          have b3 : BoxOf v3 w.heap.size p1 p2 chs.length k1 cls.length k2 := BX.out.below c2
          clear HX TX BX y2 a2 c2 b2
          generalize v3 = w3 at *
          have F3 := Lib.hid f3
          have B3 := Lib.hid b3
          clear f3 b3 f2
          go_wp2_with fail
          have f3 := F3.out
          have b3 := B3.out
          clear F3 B3
          rw [rounds_succ]
          go_wp2_with fail
          have a3 : Below w3.heap.size w3 (w3.alloc (.cells #[.int .i64 21, .func (.func 126) #[] #[.pointer (some ⟨w.heap.size, 0, none⟩)]] 172)) := (Below.refl _ _).alloc (Nat.le_refl _) _
          have HX := Lib.hid ((HW.out.below f3).below a3)
          have TX := Lib.hid ((HT.out.below f3).below a3)
          have BX := Lib.hid (b3.below a3)
          have y3 : (w3.alloc (.cells #[.int .i64 21, .func (.func 126) #[] #[.pointer (some ⟨w.heap.size, 0, none⟩)]] 172)).cell? ⟨w3.heap.size, 0, none⟩ = some (.int .i64 21) := by simp
          refine (chkEvs_any w.heap.size cls p1 p2 _ k1 k2 _ TX.out BX.out hm2 HX.out.2.2.2).mono ?_
          rintro e v4 ⟨rfl, c3⟩
          have g3 : v4.cell? ⟨w3.heap.size, 0, none⟩ = some (.int .i64 21) := (c3.cell (p := ⟨w3.heap.size, 0, none⟩) (by simp)).trans y3
          have f4 : Below w.heap.size w v4 := f3.trans ((a3.trans (c3.mono (by simp))).mono (by have := f3.size; omega))
          have b4 : BoxOf v4 w.heap.size p1 p2 chs.length k1 cls.length k2 := BX.out.below c3
          clear HX TX BX y3 a3 c3 b3
          generalize v4 = w4 at *
          have F4 := Lib.hid f4
          have B4 := Lib.hid b4
          clear f4 b4 f3
          go_wp2_with fail
          rw [rounds_succ]
          go_wp2
          go_ret
          exact ⟨ret_i64 HE.out.symm, F4.out⟩
end Go.Proofs.YtlelamjbfjneiaaGreatDoor.Wd
