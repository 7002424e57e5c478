/- The law StabilityCounted. -/
import Derived.Test.YthkndjkgokojmaaCk
import Derived.Test.YthkndjkgokojmaaAw
import Derived.Test.YthkndjkgokojmaaRc
namespace Go.Proofs.Ythkndjkgokojmaa.Ct
open Go Go.RowKit Go.Shelf
/-- the counter of the law -/
def lawC (off jit grid R : Int) : Cnt := ⟨1, off, jit, 1 + grid, R, 1, 0⟩
theorem law_of {off jit grid R t : Int} (ho : -32768 ≤ off ∧ off ≤ 32767) (hj : 0 ≤ jit ∧ jit ≤ 255) (hg : 0 ≤ grid ∧ grid ≤ 255) (ht : R = 2 * (1 + grid) * t) (hR : 20000 ≤ R ∧ R ≤ 40000) : Law (lawC off jit grid R) :=
  ⟨⟨by simp [lawC], by simp only [lawC]; omega, by simp only [lawC]; omega, by simp only [lawC]; omega, by simp only [lawC]; omega, by simp only [lawC]; rw [ht]; exact Int.mul_emod_right _ _, by simp [lawC], by simp [lawC]⟩, rfl, by simp only [lawC]; omega, by simp only [lawC]; omega, by simp only [lawC]; omega⟩
/-- the box of the law's counter -/
structure LBox (X : World) (b : Nat) (c : Cnt) : Prop where
  cb : CBox X b c
  f4 : X.frozen? ⟨b, 4, none⟩ = false
theorem LBox.below {X Y : World} {b : Nat} {c : Cnt} (h : LBox X b c) (hb : Below X.heap.size X Y) : LBox Y b c := ⟨h.cb.below hb, (hb.frozen (p := ⟨b, 4, none⟩) (cell_lt h.cb.c4)).trans h.f4⟩
theorem LBox.put {X : World} {b : Nat} {off jit grid R : Int} (h : LBox X b (lawC off jit grid R)) (R' : Int) : LBox (X.setCell ⟨b, 4, none⟩ (.int .i64 R')) b (lawC off jit grid R') := by
  obtain ⟨⟨c0, c1, c2, c3, c4, c5, c6⟩, f4⟩ := h
  have oth : ∀ {o : Nat} {v : Value}, o ≠ 4 → X.cell? ⟨b, o, none⟩ = some v → (X.setCell ⟨b, 4, none⟩ (.int .i64 R')).cell? ⟨b, o, none⟩ = some v := fun hne hv => by
    rw [World.cell?_setCell_other _ _ _ _ (by simp)]; exact hv
  exact ⟨⟨oth (by decide) c0, oth (by decide) c1, oth (by decide) c2, oth (by decide) c3, World.cell?_setCell_same _ _ _ c4, oth (by decide) c5, oth (by decide) c6⟩, by rw [World.frozen?_setCell]; exact f4⟩
theorem show_law {off jit grid R : Int} (h : Law (lawC off jit grid R)) (seed d : Int) (k : Nat) (W : World) (hk : k ≤ 1000) (hd : -1000000 ≤ d ∧ d ≤ 1000000) :
    Calls Try.prog 12 #[.agg #[.int .i64 1, .int .i64 off, .int .i64 jit, .int .i64 (1 + grid), .int .i64 R, .int .i64 1, .int .i64 0], .int .u64 seed, .int .i64 k, .int .i64 d] W fun e w' => e = .returned (.tuple #[.int .i64 (wrapS (lawC off jit grid R) (roundS (lawC off jit grid R) (rawS (lawC off jit grid R) seed k d))), .int .i64 0]) ∧ Below W.heap.size W w' := by
  have hm : meetB (lawC off jit grid R) k = true := by
    simp [meetB, lawC]
    omega
  have hE : showErr (lawC off jit grid R) k d = 0 := by
    unfold showErr
    rw [if_pos (cntB_of h.i), if_pos hm, if_pos (by omega)]
  have hh := show_any (lawC off jit grid R) seed k d W
  rw [hE, if_pos rfl] at hh
  exact hh
theorem fnin_of {X : World} {p : Option Addr} {n : Nat} {L : List Int} (f : Nat → Int) (hL : L = (List.range n).map f) (h : SliceIn p L.length (IntsAt X L)) : FnIn X f n p := by
  subst hL
  rcases h with h | ⟨b, o, e, hi⟩
  · exact .inl (by simpa using h)
  · refine .inr ⟨b, o, e, fun i hi' => ?_⟩
    have := hi i (by simpa using hi')
    simpa using this
/-- the two lists of the law -/
structure CtAt (w W3 X : World) (c : Cnt) (u v : Value) (L1 L2 : List Int) : Prop where
  o1 : OwnI W3.heap.size X u L1
  o2 : OwnI W3.heap.size X v L2
  d : Apart u v
  cb : CBox X w.heap.size c
  bel : Below W3.heap.size W3 X
  lt : w.heap.size < W3.heap.size
variable {w W3 X Y : World} {c : Cnt} {u v u' v' : Value} {L1 L2 : List Int} {x : Int} {o : Obj}
theorem CtAt.below (h : CtAt w W3 X c u v L1 L2) (hb : Below X.heap.size X Y) : CtAt w W3 Y c u v L1 L2 :=
  ⟨own_of_below h.o1 hb, own_of_below h.o2 hb, h.d, h.cb.below hb, h.bel.trans (hb.mono h.bel.size), h.lt⟩
theorem CtAt.old (h : CtAt w W3 X c u v L1 L2) (hY : Below W3.heap.size W3 Y) : CBox Y w.heap.size c := by
  have hlt := h.lt
  obtain ⟨c0, c1, c2, c3, c4, c5, c6⟩ := h.cb
  have k : ∀ {o : Nat} {v : Value}, X.cell? ⟨w.heap.size, o, none⟩ = some v → Y.cell? ⟨w.heap.size, o, none⟩ = some v := fun {o v} hv =>
    (hY.cell (p := ⟨w.heap.size, o, none⟩) hlt).trans ((h.bel.cell (p := ⟨w.heap.size, o, none⟩) hlt).symm.trans hv)
  exact ⟨k c0, k c1, k c2, k c3, k c4, k c5, k c6⟩
theorem CtAt.first (h : CtAt w W3 X c u v L1 L2) (hown : Y.ownsRow W3.heap.size 3 1 u' (L1.length + 1) (ints L1 ++ [.int .i64 x])) (hg : (X.alloc o).grownBy Y u.ownBlock) (hb : u'.ownBlock = u.ownBlock ∨ u'.ownBlock = some (X.alloc o).heap.size) : CtAt w W3 Y c u' v (L1 ++ [x]) L2 := by
  have hbel := own_grown_below h.o1 h.bel h.bel.size hg
  obtain ⟨p2, q2⟩ := h.o2.other h.d.symm hg hb
  exact ⟨OwnI.snoc hown, p2, q2.symm, h.old hbel, hbel, h.lt⟩
theorem CtAt.second (h : CtAt w W3 X c u v L1 L2) (hown : Y.ownsRow W3.heap.size 3 1 v' (L2.length + 1) (ints L2 ++ [.int .i64 x])) (hg : (X.alloc o).grownBy Y v.ownBlock) (hb : v'.ownBlock = v.ownBlock ∨ v'.ownBlock = some (X.alloc o).heap.size) : CtAt w W3 Y c u v' L1 (L2 ++ [x]) := by
  have hbel := own_grown_below h.o2 h.bel h.bel.size hg
  obtain ⟨p1, q1⟩ := h.o1.other h.d hg hb
  exact ⟨p1, OwnI.snoc hown, q1, h.old hbel, hbel, h.lt⟩
theorem unwrap_law {off jit grid R : Int} (h : Law (lawC off jit grid R)) (f : Nat → Int) (k : Nat) (p : Option Addr) (cap : Nat) (W : World) (hk : k ≤ 60) (hs : FnIn W (fun j => wrapS (lawC off jit grid R) (f j)) k p) :
    Calls Try.prog 13 #[.agg #[.int .i64 1, .int .i64 off, .int .i64 jit, .int .i64 (1 + grid), .int .i64 R, .int .i64 1, .int .i64 0], .slice p k cap, .int .i64 2000] W (UnwRet2 (lawC off jit grid R) (fun j => wrapS (lawC off jit grid R) (f j)) k W) := by
  have he := even_r h
  have hf := h.fault
  have hr := h.r
  refine Unwrap_ok (lawC off jit grid R) _ k p cap 2000 W h.i (by omega) (fun i _ => ?_) (by omega) (by rw [h.f]; omega) hs
  have hw := wrapS_bd h.i (f i)
  simp only [showB, Bool.and_eq_true, decide_eq_true_eq]
  omega
/-- the unwrapped numbers and the true ones -/
structure UtAt (w X : World) (U T : Nat → Int) (k g : Nat) (pt : Option Addr) : Prop where
  u : FnAt X U k g 0
  t : FnIn X T k pt
  bel : Below w.heap.size w X
theorem UtAt.below {w X Y : World} {U T : Nat → Int} {k g : Nat} {pt : Option Addr} (h : UtAt w X U T k g pt) (hb : Below X.heap.size X Y) : UtAt w Y U T k g pt := ⟨h.u.below hb, h.t.below hb, h.bel.trans (hb.mono h.bel.size)⟩
theorem ser_of {X : World} {U : Nat → Int} {k g : Nat} (h : FnAt X U k g 0) (hk : k ≤ 1000) : SerIn X (lstF U k) (some ⟨g, 0, none⟩) := by
  refine ⟨by rw [lstF_len]; unfold maxLen; omega, .inr ⟨g, 0, rfl, fun i hi => ?_⟩⟩
  rw [atL_get, lstF_at U k i (by rwa [lstF_len] at hi)]
  exact h i (by rwa [lstF_len] at hi)
theorem over_at (U : Nat → Int) (k b g cap : Nat) (X : World) (hk : k ≤ 1000) (h : FnAt X U k g 0) (V : VarE) (hV : overlappingE 1 (lstF U k) b = V) :
    Calls Try.prog 14 #[.agg #[.int .i64 1, .slice (some ⟨g, 0, none⟩) k cap], .int .i64 b] X fun e w' => e = .returned (.tuple #[.agg #[.int .i64 V.n, .int .i64 V.d], .int .i64 V.e]) ∧ Below X.heap.size X w' := by
  subst hV
  have hh := overlapping_any 1 (lstF U k) (some ⟨g, 0, none⟩) cap b X (ser_of h hk)
  rw [lstF_len] at hh
  exact hh
theorem max3_run {P : Program} {W : World} (ts : Array TypeId) (t : TypeId) (k k' k'' : IntKind) (x y z : Int) : (Builtin.max_ ts t #[.int k x, .int k' y, .int k'' z]).run P W = .ok (.int k (max (max x y) z)) W := by
  have e : max (max x y) z = if z > (if y > x then y else x) then z else (if y > x then y else x) := by
    by_cases h1 : y > x
    · rw [if_pos h1]
      by_cases h2 : z > y
      · rw [if_pos h2]; omega
      · rw [if_neg h2]; omega
    · rw [if_neg h1]
      by_cases h2 : z > x
      · rw [if_pos h2]; omega
      · rw [if_neg h2]; omega
  rw [e]
  simp [Builtin.max_, Builtin.max2]
attribute [local go_sem] max3_run
set_option maxRecDepth 100000 in
set_option maxHeartbeats 8000000 in
theorem counted_any (seed off jit grid m : Int) (l : List Int) (p : Option Addr) (cap : Nat) (w : World) (ha : I16In w l p cap) (ho : -32768 ≤ off ∧ off ≤ 32767) (hj : 0 ≤ jit ∧ jit ≤ 255) (hg : 0 ≤ grid ∧ grid ≤ 255) (hm : 0 ≤ m ∧ m ≤ 255) :
    Calls Try.prog 5 #[.int .u64 seed, .int .i16 off, .int .u8 jit, .int .u8 grid, .int .u8 m, .slice p l.length cap] w fun e w' => e = .returned (.bool true) ∧ Below w.heap.size w w' := by
  obtain ⟨i0, hi0, hz0, hz1, hz2⟩ := info_parts infoInt
  have hla := ha.len
  unfold maxLen at hla
  have hca := ha.cap
  obtain ⟨n, hn⟩ : ∃ n : Nat, n = min l.length 60 := ⟨_, rfl⟩
  have ea : min (l.length : Int) 60 = (n : Int) := by omega
  have qa : (n : Int) ≤ (cap : Int) := by omega
  have qa' : n ≤ cap := by omega
  have hnl : n ≤ l.length := by omega
  have hn60 : n ≤ 60 := by omega
  have w1 : IntKind.i64.wrap off = off := IntWalk.i64_in _ (by omega)
  have w2 : IntKind.i64.wrap jit = jit := IntWalk.i64_in _ (by omega)
  have w3 : IntKind.i64.wrap grid = grid := IntWalk.i64_in _ (by omega)
  have w4 : IntKind.i64.wrap (1 + grid) = 1 + grid := IntWalk.i64_in _ (by omega)
  have w5 : IntKind.i64.wrap (2 * (1 + grid)) = 2 * (1 + grid) := IntWalk.i64_in _ (by omega)
  have w6 : IntKind.i64.wrap (2 * (1 + grid) * 40) = 2 * (1 + grid) * 40 := IntWalk.i64_in _ (by omega)
  have a0 := below_alloc (Below.refl w.heap.size w) (.cells #[.int .i64 1, .int .i64 off, .int .i64 jit, .int .i64 (1 + grid), .int .i64 0, .int .i64 1, .int .i64 0] 39)
  have HA := Lib.hid (ha.below a0)
  have A0 := Lib.hid a0
  have HLB : Hid (LBox (w.alloc (.cells #[.int .i64 1, .int .i64 off, .int .i64 jit, .int .i64 (1 + grid), .int .i64 0, .int .i64 1, .int .i64 0] 39)) w.heap.size (lawC off jit grid 0)) := Lib.hid ⟨⟨by simp [lawC], by simp [lawC], by simp [lawC], by simp [lawC], by simp [lawC], by simp [lawC], by simp [lawC]⟩, by simp⟩
  have HO := Lib.hid ho
  have HJ := Lib.hid hj
  have HG := Lib.hid hg
  have HM := Lib.hid hm
  have HNN := Lib.hid hn
  have HA0 := Lib.hid ha
  clear a0 ha hla hca hn ho hm
  go_enter Try.func5, Try.ntmps5
  go_upto_region 2 with fail
  generalize w.alloc (.cells #[.int .i64 1, .int .i64 off, .int .i64 jit, .int .i64 (1 + grid), .int .i64 0, .int .i64 1, .int .i64 0] 39) = W1 at *
  have HLB2 := Lib.hid (HLB.out.put (2 * (1 + grid) * 40))
  obtain ⟨⟨x0, x1, x2, x3, x4, x5, x6⟩, f4⟩ := HLB.out
  simp only [lawC] at x0 x1 x2 x3 x4 x5 x6
  have hz := cell_lt x0
  go_wp2
  have HB1 := Lib.hid (A0.out.setCell (p := ⟨w.heap.size, 4, none⟩) (Nat.le_refl _) (.int .i64 (2 * (1 + grid) * 40)))
  have HA1 : Hid (I16In (W1.setCell ⟨w.heap.size, 4, none⟩ (.int .i64 (2 * (1 + grid) * 40))) l p cap) := Lib.hid (HA0.out.below HB1.out)
  clear x0 x1 x2 x3 x4 x5 x6 f4 hz HLB A0 HA w4 w5 w6
  generalize W1.setCell ⟨w.heap.size, 4, none⟩ (.int .i64 (2 * (1 + grid) * 40)) = W2 at *
  go_loopw [48] (fun s wr => ∃ (v : Value) (R t : Int), s = v ∧ (80 ≤ R ∧ R ≤ 40000) ∧ Hid (R = 2 * (1 + grid) * t) ∧ Hid (LBox wr w.heap.size (lawC off jit grid R)) ∧ Hid (Below w.heap.size w wr)) (fun _ wr => (40000 - intOf ((wr.cell? ⟨w.heap.size, 4, none⟩).getD undef)).toNat)
  case atStart => exact ⟨_, 2 * (1 + grid) * 40, 40, rfl, by omega, Lib.hid rfl, HLB2, HB1⟩
  case round =>
    obtain ⟨sv, R, t, rfl, hR, HT, HE, HBr⟩ := hrel
    have hx4 := HE.out.cb.c4
    obtain ⟨⟨x0, x1, x2, x3, x4, x5, x6⟩, f4⟩ := HE.out
    simp only [lawC] at x0 x1 x2 x3 x4 x5 x6
    have hz := cell_lt x4
    by_cases hlt : R < 20000
    · have v1 : IntKind.i64.wrap (R * 2) = R * 2 := IntWalk.i64_in _ (by omega)
      have HPU := Lib.hid (HE.out.put (R * 2))
      have HBN := Lib.hid (HBr.out.setCell (p := ⟨w.heap.size, 4, none⟩) (Nat.le_refl _) (.int .i64 (R * 2)))
      have HTN := Lib.hid (show R * 2 = 2 * (1 + grid) * (t * 2) by rw [HT.out]; grind)
      have HX := Lib.hid x4
      clear hx4
      go_wp2
      go_roundw
      case rel => exact ⟨_, R * 2, t * 2, rfl, by omega, HTN, HPU, HBN⟩
      case measure =>
        rw [World.cell?_setCell_same _ _ _ HX.out, HX.out]
        simp [intOf]; omega
    · have HLAW : Hid (Law (lawC off jit grid R)) := Lib.hid (law_of HO.out HJ.out HG.out HT.out (by omega))
      obtain ⟨c, hcc⟩ : ∃ c, c = lawC off jit grid R := ⟨_, rfl⟩
      have hfa : faultS c = jit + (1 + grid) / 2 := by rw [hcc]; rfl
      have hjj := HJ.out
      have hgg := HG.out
      have v1 : IntKind.i64.wrap ((1 + grid).tdiv 2) = (1 + grid) / 2 := IntWalk.i64_quo (1 + grid) 2 (by omega)
      obtain ⟨fa, hfa2⟩ : ∃ fa, fa = faultS c := ⟨_, rfl⟩
      have v2 : IntKind.i64.wrap (jit + (1 + grid) / 2) = fa := by rw [hfa2, hfa]; exact IntWalk.i64_in _ (by omega)
      have HFA := Lib.hid hfa2
      have HCC := Lib.hid hcc
      have HSHO := Lib.hid (fun (d : Int) (k : Nat) (W : World) hk hd => show_law HLAW.out seed d k W hk hd)
      rw [← hcc] at HLAW HSHO
      have HC3 : Hid (CtAt w wr wr c (.slice none 0 0) (.slice none 0 0) [] []) := Lib.hid ⟨World.ownsRow_nil _ _ _ _, World.ownsRow_nil _ _ _ _, .inl rfl, by rw [hcc]; exact HE.out.cb, Below.refl _ _, cell_lt hx4⟩
      have HA3 := Lib.hid (HA0.out.below HBr.out)
      have hjj2 : 0 ≤ jit ∧ jit ≤ 255 := hjj
      clear hx4 hfa hfa2 hcc hjj hgg hR HT HA1 HLB2 HB1 HA0
      go_upto_region 9 with fail
      clear x0 x1 x2 x3 x4 x5 x6 f4 hz v1 v2 hlt HE
      generalize wr = W3 at *
      go_loopw [15, 16, 17, 62] (fun su sv sd i wx => ∃ (k : Nat) (u v : Value), k ≤ n ∧ su = u ∧ sv = v ∧ sd = .int .i64 (dS l k) ∧ i = .int .i64 (k : Int) ∧ Hid (CtAt w W3 wx c u v (lstF (trueS l) k) (lstF (fun j => wrapS c (rouS c seed l j)) k))) (fun _ _ _ i _ => n - (intOf i).toNat)
      case atStart => exact ⟨0, _, _, Nat.zero_le _, rfl, rfl, rfl, rfl, HC3⟩
      case round =>
        obtain ⟨k, u, v, hk, rfl, rfl, rfl, rfl, HT⟩ := hrel
        by_cases hlt : k < n
        · have hki : (k : Int) < (n : Int) := by omega
          have hAx := HA3.out.below HT.out.bel
          obtain ⟨b1, o1, rfl, hi1⟩ := hAx.at_.resolve_left (by omega)
          have x9 := hi1 k (by omega)
          rw [atL_get] at x9
          have hz9 := cell_lt x9
          have hxb := hAx.bd k
          have hdb := dS_far l 0 k
          have hds := dS_step l k
          rw [Nat.zero_add] at hdb
          have hd0 : dS l 0 = 0 := rfl
          have htm := tmod_bd (atL l k) 2001 (by decide)
          have v0 : IntKind.i64.wrap (atL l k) = atL l k := IntWalk.i64_in _ (by omega)
          have v1 : IntKind.i64.wrap ((atL l k).tmod 2001) = (atL l k).tmod 2001 := IntWalk.i64_in _ (by omega)
          have hdd : dS l (k + 1) = dS l k + (atL l k).tmod 2001 := rfl
          have v2 : IntKind.i64.wrap (dS l k + (atL l k).tmod 2001) = dS l (k + 1) := by rw [hdd]; exact IntWalk.i64_in _ (by omega)
          have v3 : IntKind.i64.wrap ((k : Int) + 1) = (k : Int) + 1 := IntWalk.i64_in _ (by omega)
          have HSH := Lib.hid (fun W => HSHO.out (dS l (k + 1)) k W (by omega) (by omega))
          obtain ⟨mk, hmk⟩ : ∃ mk, mk = wrapS c (rouS c seed l k) := ⟨_, rfl⟩
          have HSH2 : Hid (∀ W, Calls Try.prog 12 #[.agg #[.int .i64 1, .int .i64 off, .int .i64 jit, .int .i64 (1 + grid), .int .i64 R, .int .i64 1, .int .i64 0], .int .u64 seed, .int .i64 k, .int .i64 (dS l (k + 1))] W fun e w' => e = .returned (.tuple #[.int .i64 mk, .int .i64 0]) ∧ Below W.heap.size W w') := Lib.hid (fun W => by rw [hmk]; exact HSH.out W)
          have hlu : (lstF (trueS l) k).length = k := lstF_len _ _
          have hlv : (lstF (fun j => wrapS c (rouS c seed l j)) k).length = k := lstF_len _ _
          have HL1 := Lib.hid (show lstF (trueS l) (k + 1) = lstF (trueS l) k ++ [dS l (k + 1)] from lstF_succ _ _)
          have HL2 := Lib.hid (show lstF (fun j => wrapS c (rouS c seed l j)) (k + 1) = lstF (fun j => wrapS c (rouS c seed l j)) k ++ [mk] by rw [hmk]; exact lstF_succ _ _)
          have HLU := Lib.hid hlu
          have HLV := Lib.hid hlv
          have hkk : k ≤ 1000 := by omega
          have hcb := HT.out.cb
          rw [HCC.out] at hcb
          obtain ⟨c0, c1, c2, c3, c4, c5, c6⟩ := hcb
          simp only [lawC] at c0 c1 c2 c3 c4 c5 c6
          have hz := cell_lt c0
          clear hAx hi1 hxb hdb hds hd0 htm hdd HSH hmk hlu hlv
          obtain ⟨xk, hxk⟩ : ∃ xk, xk = atL l k := ⟨_, rfl⟩
          rw [← hxk] at x9 v0 v1 v2
          clear hxk
          go_wp2_with fail
          refine (HSH2.out _).mono ?_
          rintro e wS ⟨rfl, hb⟩
          have HTS := Lib.hid (HT.out.below hb)
          clear hb c0 c1 c2 c3 c4 c5 c6 hz x9 hz9 HT HSH2 v0 v1 v2
          obtain ⟨dk, hdk⟩ : ∃ dk, dk = dS l (k + 1) := ⟨_, rfl⟩
          rw [← hdk] at HL1 ⊢
          have HDK := Lib.hid hdk
          clear hdk
          have hbb := HTS.out.bel.size
          go_wp2_with (first | (at_builtin; refine wpList_append_own_at _ rfl (.tmp 82) (.tmp 84) _ rfl W3.heap.size 3 i0 (.int .i64 0) 1 8 Try.underlying22 hi0 hz0 hz1 hz2 rfl (by decide) _ (lstF (trueS l) k).length _ rfl (HTS.out.o1.alloc _) ⟨wS.heap.size, 0, none⟩ 1 1 [.int .i64 dk] rfl rfl (cell_one_new _ _ _) (by simp [Value.oneCell']) (by rw [HLU.out]; unfold maxLen; omega) (by rw [HLU.out]; omega) (by simp; omega) ?_; intro u' z1 hown hg _ hb; have HT1 := Lib.hid (HTS.out.first hown hg hb); have hbb1 := HT1.out.bel.size; clear hown hg hb) | (at_builtin; refine wpList_append_own_at _ rfl (.tmp 86) (.tmp 88) _ rfl W3.heap.size 3 i0 (.int .i64 0) 1 8 Try.underlying22 hi0 hz0 hz1 hz2 rfl (by decide) _ (lstF (fun j => wrapS c (rouS c seed l j)) k).length _ rfl (HT1.out.o2.alloc _) ⟨z1.heap.size, 0, none⟩ 1 1 [.int .i64 mk] rfl rfl (cell_one_new _ _ _) (by simp [Value.oneCell']) (by rw [HLV.out]; unfold maxLen; omega) (by rw [HLV.out]; omega) (by simp; omega) ?_; intro v' z2 hown hg _ hb; have HT2 := Lib.hid (HT1.out.second hown hg hb); clear hown hg hb))
          rw [← HL1.out, ← HL2.out] at HT2
          go_roundw
          case rel => exact ⟨k + 1, u', v', by omega, rfl, rfl, by rw [HDK.out], by simp, HT2⟩
          case measure => simp [intOf]; omega
        · obtain rfl : k = n := by omega
          obtain ⟨pu, cu, rfl, hsu, -⟩ := HT.out.o1.ser
          obtain ⟨pv, cv, rfl, hsv, -⟩ := HT.out.o2.ser
          have hsu2 := fnin_of (trueS l) rfl hsu
          have hsv2 := fnin_of (fun j => wrapS c (rouS c seed l j)) rfl hsv
          rw [lstF_len, lstF_len]
          have HSU := Lib.hid hsu2
          have HUN := Lib.hid (fun (cap : Nat) (W : World) (hs : FnIn W (fun j => wrapS (lawC off jit grid R) (rouS c seed l j)) k pv) => unwrap_law (by rw [← HCC.out]; exact HLAW.out) (rouS c seed l) k pv cap W hn60 hs)
          have hcb := HT.out.cb
          rw [HCC.out] at hcb
          obtain ⟨c0, c1, c2, c3, c4, c5, c6⟩ := hcb
          simp only [lawC] at c0 c1 c2 c3 c4 c5 c6
          have hz := cell_lt c0
          have HBX := Lib.hid (HBr.out.trans (HT.out.bel.mono HBr.out.size))
          obtain ⟨b, hb⟩ : ∃ b : Nat, 1 + m % 4 = (b : Int) := ⟨(1 + m % 4).toNat, by omega⟩
          have hmm := HM.out
          have w1m : IntKind.i64.wrap m = m := IntWalk.i64_in _ (by omega)
          have w2m : IntKind.i64.wrap (1 + m % 4) = (b : Int) := by rw [hb]; exact IntWalk.i64_in _ (by omega)
          have w3m : IntKind.i64.wrap (m.tmod 4) = m.tmod 4 := IntWalk.i64_in _ (by rw [Int.tmod_eq_emod_of_nonneg hmm.1]; omega)
          have w4m : IntKind.i64.wrap (1 + m.tmod 4) = (b : Int) := by rw [Int.tmod_eq_emod_of_nonneg hmm.1]; exact w2m
          have hbb : 1 ≤ b ∧ b ≤ 4 := by omega
          have HSV : Hid (FnIn wr (fun j => wrapS (lawC off jit grid R) (rouS c seed l j)) k pv) := Lib.hid (by rw [← HCC.out]; exact hsv2)
          clear hsu hsv hsu2 hsv2 hlt hb HC3 hmm
          go_wp2_with fail
          refine (HUN.out _ _ HSV.out).mono ?_
          rintro e wU ⟨g, rfl, hun, hgt, hbU⟩
          have HU : Hid (UtAt w wU (uS c seed l) (trueS l) k g pu) := Lib.hid ⟨by
            have e : unwS (lawC off jit grid R) (fun j => wrapS (lawC off jit grid R) (rouS c seed l j)) = uS c seed l := by rw [← HCC.out]; rfl
            rw [← e]; exact hun, HSU.out.below hbU, HBX.out.trans (hbU.mono HBX.out.size)⟩
          clear hun hgt hbU c0 c1 c2 c3 c4 c5 c6 hz HT HSU HSV HUN
          go_wp2
          clear w1m w2m w3m w4m
          obtain ⟨U, hU⟩ : ∃ U, U = uS c seed l := ⟨_, rfl⟩
          obtain ⟨T, hT⟩ : ∃ T, T = trueS l := ⟨_, rfl⟩
          rw [← hU, ← hT] at HU
          have HUU := Lib.hid hU
          have HTT := Lib.hid hT
          clear hU hT
          go_loopw [25, 26] (fun sm si wx => ∃ i : Nat, i ≤ k - 2 * b ∧ si = .int .i64 (i : Int) ∧ sm = .int .i64 (mostS (secS T b) i) ∧ Hid (UtAt w wx U T k g pu)) (fun _ si _ => k - (intOf si).toNat)
          case atStart => exact ⟨0, Nat.zero_le _, rfl, rfl, HU⟩
          case round =>
            obtain ⟨i, hi, rfl, rfl, HE⟩ := hrel
            have w2b : IntKind.i64.wrap (2 * (b : Int)) = 2 * (b : Int) := IntWalk.i64_in _ (by omega)
            obtain ⟨i2, hi2⟩ : ∃ i2, i2 = i + 2 * b := ⟨_, rfl⟩
            have w2i : IntKind.i64.wrap ((i : Int) + 2 * (b : Int)) = (i2 : Int) := by rw [IntWalk.i64_in _ (by omega)]; omega
            by_cases hlt : i2 < k
            · have h2i : (i2 : Int) < (k : Int) := by omega
              have h0i : (i : Int) < (k : Int) := by omega
              obtain ⟨i1, hi1⟩ : ∃ i1, i1 = i + b := ⟨_, rfl⟩
              have w1i : IntKind.i64.wrap ((i : Int) + (b : Int)) = (i1 : Int) := by rw [IntWalk.i64_in _ (by omega)]; omega
              have h1i : (i1 : Int) < (k : Int) := by omega
              have w3i : IntKind.i64.wrap ((i : Int) + 1) = (i : Int) + 1 := IntWalk.i64_in _ (by omega)
              obtain ⟨bt, ot, rfl, ht⟩ := HE.out.t.resolve_left (by omega)
              have y0 := HE.out.u i (by omega)
              have y1 := HE.out.u i1 (by omega)
              have y2 := HE.out.u i2 (by omega)
              rw [Nat.zero_add] at y0 y1 y2
              have z0 := ht i (by omega)
              have z1 := ht i1 (by omega)
              have z2 := ht i2 (by omega)
              have hzu := cell_lt y0
              have hzt := cell_lt z0
              have hsec := HLAW.out.sec seed l b i
              have htr := true_sec l b i hbb.2
              have hfa := HLAW.out.fault
              rw [← HUU.out, ← HTT.out, ← HFA.out] at hsec
              rw [← HTT.out] at htr
              rw [← HFA.out] at hfa
              have hu0 := HLAW.out.u_bd seed l i (by omega)
              have hu1 := HLAW.out.u_bd seed l i1 (by omega)
              have hu2 := HLAW.out.u_bd seed l i2 (by omega)
              rw [← HUU.out] at hu0 hu1 hu2
              have ht0 := dS_far l 0 (i + 1)
              have ht1 := dS_far l 0 (i1 + 1)
              have ht2 := dS_far l 0 (i2 + 1)
              rw [Nat.zero_add, show dS l (i + 1) = T i by rw [HTT.out]; rfl, show dS l 0 = 0 from rfl] at ht0
              rw [Nat.zero_add, show dS l (i1 + 1) = T i1 by rw [HTT.out]; rfl, show dS l 0 = 0 from rfl] at ht1
              rw [Nat.zero_add, show dS l (i2 + 1) = T i2 by rw [HTT.out]; rfl, show dS l 0 = 0 from rfl] at ht2
              have hPe : secS U b i = U i2 - 2 * U i1 + U i := by unfold secS; rw [hi2, hi1]
              have hQe : secS T b i = T i2 - 2 * T i1 + T i := by unfold secS; rw [hi2, hi1]
              have hmo := mostS_bd (secS T b) 16000 (by decide) i fun j _ => by rw [HTT.out]; exact true_sec l b j hbb.2
              have hMe : mostS (secS T b) (i + 1) = max (max (mostS (secS T b) i) (secS T b i)) (-(secS T b i)) := rfl
              generalize secS U b i = PP at *
              generalize secS T b i = QQ at *
              generalize U i = u0 at *
              generalize U i1 = u1 at *
              generalize U i2 = u2 at *
              generalize T i = t0 at *
              generalize T i1 = t1 at *
              generalize T i2 = t2 at *
              generalize mostS (secS T b) i = M0 at *
              generalize hM1 : mostS (secS T b) (i + 1) = M1 at *
              have HM1 := Lib.hid hM1
              have k1 : IntKind.i64.wrap (2 * u1) = 2 * u1 := IntWalk.i64_in _ (by omega)
              have k2 : IntKind.i64.wrap (u2 - 2 * u1) = u2 - 2 * u1 := IntWalk.i64_in _ (by omega)
              have k3 : IntKind.i64.wrap (u2 - 2 * u1 + u0) = PP := by rw [IntWalk.i64_in _ (by omega)]; omega
              have k4 : IntKind.i64.wrap (2 * t1) = 2 * t1 := IntWalk.i64_in _ (by omega)
              have k5 : IntKind.i64.wrap (t2 - 2 * t1) = t2 - 2 * t1 := IntWalk.i64_in _ (by omega)
              have k6 : IntKind.i64.wrap (t2 - 2 * t1 + t0) = QQ := by rw [IntWalk.i64_in _ (by omega)]; omega
              have k7 : IntKind.i64.wrap (PP - QQ) = PP - QQ := IntWalk.i64_in _ (by omega)
              have k8 : IntKind.i64.wrap (QQ - PP) = QQ - PP := IntWalk.i64_in _ (by omega)
              have k9 : IntKind.i64.wrap (4 * fa) = 4 * fa := IntWalk.i64_in _ (by omega)
              have k10 : IntKind.i64.wrap (-QQ) = -QQ := IntWalk.i64_in _ (by omega)
              obtain ⟨mx, hmx⟩ : ∃ mx, max (PP - QQ) (QQ - PP) = mx := ⟨_, rfl⟩
              have hmx4 : ¬ (4 * fa < mx) := by omega
              have hM1' : max (max M0 QQ) (-QQ) = M1 := hMe.symm
              have HI2 := Lib.hid hi2
              have HI1 := Lib.hid hi1
              have HEN := Lib.hid (fun n => HE.out.below (below_drewN (Below.refl _ _) n))
              clear hsec htr hfa hu0 hu1 hu2 ht0 ht1 ht2 hPe hQe hmo hMe hM1 hi2 hi1 ht
              go_upto_region 24 with fail
              go_quiet (fail)
              go_upto_region 25 with fail
              go_quiet (fail)
              go_wp2
              go_roundw
              case rel => exact ⟨i + 1, by have := HI2.out; omega, by simp, by rw [HM1.out], Lib.hid (HEN.out _)⟩
              case measure => simp [intOf]; omega
            · have h2i : ¬ ((i2 : Int) < (k : Int)) := by omega
              obtain rfl : i = k - 2 * b := by omega
              have HUa := HE.out.u
              have HBa := Lib.hid HE.out.bel
              by_cases hkb : k ≤ 2 * b
              · have hV := HLAW.out.none seed l k b hn60 hbb hkb
                have HOV := Lib.hid (fun cap => over_at U k b g cap wr (by omega) HUa ⟨0, 0, 4⟩ (by rw [HUU.out]; exact hV))
                have hge : (k : Int) ≤ 2 * (b : Int) := by omega
                clear hV HUa hi hi2 hkb
                go_wp2_with fail
                refine (HOV.out _).mono ?_
                rintro e wV ⟨rfl, hb⟩
                have HBV := Lib.hid (HBa.out.trans (hb.mono HBa.out.size))
                clear hb
                go_wp2_with fail
                refine (awake_any _).mono ?_
                rintro e wA ⟨rfl, hb⟩
                have hb2 := (below_alloc (Below.refl wV.heap.size wV) (.cells #[.int .i64 0, .int .i64 0] 24)).trans (hb.mono (by simp))
                have HF := Lib.hid (HBV.out.trans (hb2.mono HBV.out.size))
                clear hb hb2
                go_wp2
                go_ret
                exact ⟨rfl, HF.out⟩
              · obtain ⟨hV, hOK⟩ := HLAW.out.some seed l k b hn60 hbb (by omega)
                rw [← HUU.out] at hV hOK
                obtain ⟨⟨vn, vd, ve⟩, hVV⟩ : ∃ V, V = overlappingE 1 (lstF U k) b := ⟨_, rfl⟩
                rw [← hVV] at hV hOK
                obtain rfl : ve = 0 := hV
                have hOK2 : VarOk b (topS c l k b) vn vd := hOK
                have hMM : topS c l k b = mostS (secS T b) (k - 2 * b) + 4 * fa := by unfold topS; rw [HTT.out, HFA.out]
                rw [hMM] at hOK2
                have HOV := Lib.hid (fun cap => over_at U k b g cap wr (by omega) HUa ⟨vn, vd, 0⟩ hVV.symm)
                obtain ⟨⟨hn0, hn1⟩, ⟨hd0, hd1⟩, ⟨hm0, hm1⟩, hle⟩ := hOK2
                generalize mostS (secS T b) (k - 2 * b) = M0 at *
                have hfa := HLAW.out.fault
                rw [← HFA.out] at hfa
                have hb4 : (2 : Int) * b * b * vn ≤ 32 * 100000000000 ∧ 0 ≤ (2 : Int) * b * b * vn := by
                  have : b = 1 ∨ b = 2 ∨ b = 3 ∨ b = 4 := by omega
                  rcases this with rfl | rfl | rfl | rfl <;> omega
                have hb5 : (2 : Int) * b * b ≤ 32 ∧ 0 ≤ (2 : Int) * b * b := by
                  have : b = 1 ∨ b = 2 ∨ b = 3 ∨ b = 4 := by omega
                  rcases this with rfl | rfl | rfl | rfl <;> omega
                have hq1 : 0 ≤ (M0 + 4 * fa) * (M0 + 4 * fa) ∧ (M0 + 4 * fa) * (M0 + 4 * fa) ≤ 400000000 := by
                  refine ⟨Int.mul_nonneg hm0 hm0, ?_⟩
                  have : (M0 + 4 * fa) * (M0 + 4 * fa) ≤ 20000 * 20000 := Int.mul_le_mul hm1 hm1 hm0 (by decide)
                  omega
                have hq2 : 0 ≤ (M0 + 4 * fa) * (M0 + 4 * fa) * vd ∧ (M0 + 4 * fa) * (M0 + 4 * fa) * vd ≤ 4000000000000 := by
                  refine ⟨Int.mul_nonneg hq1.1 (by omega), ?_⟩
                  have : (M0 + 4 * fa) * (M0 + 4 * fa) * vd ≤ 400000000 * 10000 := Int.mul_le_mul hq1.2 hd1 (by omega) (by decide)
                  omega
                have k1 : IntKind.i64.wrap (2 * (b : Int) * b) = 2 * (b : Int) * b := IntWalk.i64_in _ (by omega)
                have k2 : IntKind.i64.wrap (2 * (b : Int) * b * vn) = 2 * (b : Int) * b * vn := IntWalk.i64_in _ (by omega)
                have k3 : IntKind.i64.wrap (4 * fa) = 4 * fa := IntWalk.i64_in _ (by omega)
                have k4 : IntKind.i64.wrap (M0 + 4 * fa) = M0 + 4 * fa := IntWalk.i64_in _ (by omega)
                have k5 : IntKind.i64.wrap ((M0 + 4 * fa) * (M0 + 4 * fa)) = (M0 + 4 * fa) * (M0 + 4 * fa) := IntWalk.i64_in _ (by omega)
                have k6 : IntKind.i64.wrap ((M0 + 4 * fa) * (M0 + 4 * fa) * vd) = (M0 + 4 * fa) * (M0 + 4 * fa) * vd := IntWalk.i64_in _ (by omega)
                clear hMM hOK hVV HUa hi hi2 hkb hn0 hn1 hd0 hd1 hm0 hm1 hfa hb4 hb5 hq1 hq2
                go_wp2_with fail
                refine (HOV.out _).mono ?_
                rintro e wV ⟨rfl, hb⟩
                have HBV := Lib.hid (HBa.out.trans (hb.mono HBa.out.size))
                clear hb
                have hr0 : (wV.alloc (.cells #[.int .i64 vn, .int .i64 vd] 24)).cell? ⟨wV.heap.size, 0, none⟩ = some (.int .i64 vn) := by simp
                have hr1 : (wV.alloc (.cells #[.int .i64 vn, .int .i64 vd] 24)).cell? ⟨wV.heap.size, 1, none⟩ = some (.int .i64 vd) := by simp
                go_wp2_with fail
                refine (awake_any _).mono ?_
                rintro e wA ⟨rfl, hb⟩
                have hb2 := (below_alloc (Below.refl wV.heap.size wV) (.cells #[.int .i64 vn, .int .i64 vd] 24)).trans (hb.mono (by simp))
                have HF := Lib.hid (HBV.out.trans (hb2.mono HBV.out.size))
                clear hb hb2 hr0 hr1
                go_wp2
                go_ret
                exact ⟨rfl, HF.out⟩
end Go.Proofs.Ythkndjkgokojmaa.Ct
