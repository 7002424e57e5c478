/- The walk over the law StabilityBest. -/
import Derived.Test.YtbkcjhmemfndbaaQb
import Derived.Test.YtbkcjhmemfndbaaPb
namespace Go.Proofs.Ytbkcjhmemfndbaa
open Go Go.RowKit Go.Shelf
theorem fitErr_ok {L : List Int} (hp : phasesOk L = true) (h : L.length ≤ 128) : fitErr 1 L = if L.length < 2 then 4 else 0 := by
  unfold fitErr
  have hc : checkSt 1 L = 0 := by
    unfold checkSt
    rw [if_neg (by omega), if_pos ⟨by decide, hp⟩]
  rw [if_pos hc]
/-- a series in a box, as it is read -/
def SRead (X : World) (b : Nat) (tau : Int) (v : Value) : Prop := X.cell? ⟨b, 0, none⟩ = some (.int .i64 tau) ∧ X.cell? ⟨b, 1, none⟩ = some v
theorem SRead.below {X Y : World} {b : Nat} {tau : Int} {v : Value} (h : SRead X b tau v) (hb : Below X.heap.size X Y) : SRead Y b tau v := ⟨cell_below hb h.1, cell_below hb h.2⟩
theorem SRead.new (X : World) (tau : Int) (v : Value) (t : TypeId) : SRead (X.alloc (.cells #[.int .i64 tau, v] t)) X.heap.size tau v := ⟨by simp, by simp⟩
/-- the phases of a line -/
def lineL (a b : Int) (k : Nat) : List Int := (List.range k).map fun (i : Nat) => a + b * i
theorem lineL_succ (a b : Int) (k : Nat) : lineL a b (k + 1) = lineL a b k ++ [a + b * k] := by simp [lineL, List.range_succ]
theorem lineL_len (a b : Int) (k : Nat) : (lineL a b k).length = k := by simp [lineL]
theorem lineL_at (a b : Int) (k i : Nat) (h : i < k) : atL (lineL a b k) i = a + b * i := by simp [atL, lineL, h]
theorem lineL_on (a b : Int) (k : Nat) : OnLine a b (lineL a b k) := ⟨fun i hi => lineL_at a b k i (by rwa [lineL_len] at hi)⟩
theorem lineL_ok (a b : Int) (k : Nat) (h : ∀ i : Nat, i < k → -1000000 ≤ a + b * i ∧ a + b * i ≤ 1000000) : phasesOk (lineL a b k) = true := by
  unfold phasesOk
  refine List.all_eq_true.2 fun x hx => ?_
  obtain ⟨i, hi, rfl⟩ := List.mem_map.1 hx
  have := h i (by simpa using hi)
  simp only [Bool.and_eq_true, decide_eq_true_eq]
  exact this
theorem leaves_bd (x : Nat → Int) (a b : Int) (k : Nat) (h : ∀ i, i < k → -1000000 ≤ x i - (a + b * i) ∧ x i - (a + b * i) ≤ 1000000) : 0 ≤ leaves x a b k ∧ leaves x a b k ≤ 1000000000000 * k := by
  refine ⟨leaves_nonneg x a b k, ?_⟩
  have := sumF_bd (fun i => (x i - (a + b * i)) * (x i - (a + b * i))) 1000000000000 k (fun i hi => by
    have h1 := h i hi
    have h2 := sq_nonneg (x i - (a + b * i))
    have h3 := Int.mul_nonneg (show 0 ≤ 1000000 - (x i - (a + b * i)) by omega) (show 0 ≤ 1000000 + (x i - (a + b * i)) by omega)
    rw [show (1000000 - (x i - (a + b * i))) * (1000000 + (x i - (a + b * i))) = 1000000000000 - (x i - (a + b * i)) * (x i - (a + b * i)) by grind] at h3
    omega)
  exact this.2
theorem restD_le (n : Nat) (h : n ≤ 48) : restD n ≤ 200000 := by
  have h1 : (List.range 49).all (fun n => decide (restD (n : Int) ≤ 200000)) = true := by decide +kernel
  have h2 := List.all_eq_true.1 h1 n (by simp; omega)
  simpa using h2
set_option maxRecDepth 100000 in
set_option maxHeartbeats 4000000 in
theorem best_any (l : List Int) (p : Option Addr) (cap : Nat) (a b : Int) (w : World) (ha : I16In w l p cap) (hA : -32768 ≤ a ∧ a ≤ 32767) (hB : -32768 ≤ b ∧ b ≤ 32767) :
    Calls Try.prog 9 #[.slice p l.length cap, .int .i16 a, .int .i16 b] w fun e w' => e = .returned (.bool true) ∧ Below w.heap.size w w' := by
  have hla := ha.len
  unfold maxLen at hla
  have hca := ha.cap
  obtain ⟨n, hn⟩ : ∃ n : Nat, n = min l.length 48 := ⟨_, rfl⟩
  have ea : min (l.length : Int) 48 = (n : Int) := by omega
  have qa : (n : Int) ≤ (cap : Int) := by omega
  have qa' : n ≤ cap := by omega
  have hnl : n ≤ l.length := by omega
  have hn48 : n ≤ 48 := by omega
  obtain ⟨i0, hi0, hz0, hz1, hz2⟩ := info_parts infoInt
  have HI := ha.take n hnl
  obtain ⟨L, hL⟩ : ∃ L, L = l.take n := ⟨_, rfl⟩
  rw [← hL] at HI
  have hLn : L.length = n := by rw [hL]; simp; omega
  have hcase : (((l.length : Int) ≤ 48 ∧ l.length = n) ∧ min (n : Int) 48 = (n : Int)) ∨ (((48 < (l.length : Int) ∧ (48 : Int) = (n : Int)) ∧ 48 = n) ∧ min (l.length : Int) (n : Int) = (n : Int)) := by omega
  have HN := Lib.hid hLn
  have HPH := Lib.hid (phases_of HI)
  have HBX := Lib.hid HI.bd
  have HP := Lib.hid (phased_at L n hLn (by omega) p cap 0 1 rfl w HI (by decide))
  have hnone : p = none → l.length = 0 := fun e => by
    rcases ha.at_ with h0 | ⟨b, o, hp, _⟩
    · exact h0
    · rw [e] at hp; cases hp
  clear ha hla hca hn hL HI hLn
  rcases p with _ | ad
  · have hl0 := hnone rfl
    obtain rfl : l = [] := List.eq_nil_of_length_eq_zero hl0
    obtain rfl : n = 0 := by simp at hnl; exact hnl
    go_enter Try.func9, Try.ntmps9
    go_wp2_with fail
    refine HP.out.mono ?_
    rintro e w1 ⟨q, qc, rfl, hs, hb⟩
    have hbx : Below w1.heap.size w1 (w1.alloc (.cells #[.int .i64 1, .slice q 0 qc] 24)) := below_alloc (Below.refl _ _) _
    have B1 := Lib.hid (hb.trans (hbx.mono hb.size))
    have HS1 := Lib.hid (hs.below hbx)
    have HR1 := Lib.hid (SRead.new w1 1 (.slice q 0 qc) 24)
    clear hb hs HP hbx hcase
    go_wp2_with fail
    generalize w1.alloc (.cells #[.int .i64 1, .slice q 0 qc] 24) = X1 at *
    refine (fit_at 1 L 0 HN.out q qc _ HS1.out).mono ?_
    rintro e w2 ⟨fa, fb, fc, fd, fe, rfl, HF, hb⟩
    obtain ⟨c0, c1⟩ := HR1.out.below hb
    have hz := cell_lt c0
    have hbx : Below w2.heap.size w2 (w2.alloc (.cells #[.int .i64 fa, .int .i64 fb, .int .i64 fc, .int .i64 fd] 53)) := below_alloc (Below.refl _ _) _
    have B2 := Lib.hid ((B1.out.trans (hb.mono B1.out.size)).trans (hbx.mono (B1.out.trans (hb.mono B1.out.size)).size))
    have HS2 := Lib.hid ((HS1.out.below hb).below hbx)
    have HR2 := Lib.hid ((HR1.out.below hb).below hbx)
    clear hb hbx B1 HS1 HR1
    go_wp2_with fail
    clear c0 c1 hz
    generalize w2.alloc (.cells #[.int .i64 fa, .int .i64 fb, .int .i64 fc, .int .i64 fd] 53) = X2 at *
    refine (rest_at 1 L 0 HN.out q qc _ HS2.out).mono ?_
    rintro e w3 ⟨rn, rd, re, rfl, HG, hb⟩
    obtain ⟨c0, c1⟩ := HR2.out.below hb
    have hz := cell_lt c0
    have B3 := Lib.hid (B2.out.trans (hb.mono B2.out.size))
    clear hb B2 HS2 HR2
    have hff : fitErr 1 L = 4 := by rw [fitErr_ok HPH.out (by have := HN.out; omega), HN.out]; rfl
    have hfe : fe = 4 := by
      have h1 := HF.out
      unfold fitE at h1
      rw [hff, if_neg (by decide)] at h1
      exact (congrArg LineE.e h1).symm
    have hre : re = 4 := by
      have h1 := HG.out
      have e1 : restErr 1 L = 4 := by unfold restErr; rw [hff]; rfl
      unfold restE at h1
      rw [e1, if_neg (by decide)] at h1
      exact (congrArg FracE.e h1).symm
    clear hff
    subst hfe hre
    have HB3 := Lib.hid (below_alloc B3.out (.cells #[.int .i64 rn, .int .i64 rd] 28))
    go_wp2_with fail
    refine (awake_any _).mono ?_
    rintro e w4 ⟨rfl, hb4⟩
    have HB4 := Lib.hid (HB3.out.trans (hb4.mono HB3.out.size))
    clear hb4
    go_wp2
    go_ret
    exact ⟨rfl, HB4.out⟩
  · clear hnone
    rcases hcase with ⟨⟨hle, hnn⟩, hmin⟩ | ⟨⟨⟨hgt, hni⟩, hnn⟩, hmin⟩
    all_goals
      go_enter Try.func9, Try.ntmps9
      go_wp2_with fail
      try simp only [hmin, Int.toNat_natCast]
      refine HP.out.mono ?_
      rintro e w1 ⟨q, qc, rfl, hs, hb⟩
      have hbx : Below w1.heap.size w1 (w1.alloc (.cells #[.int .i64 1, .slice q n qc] 24)) := below_alloc (Below.refl _ _) _
      have B1 := Lib.hid (hb.trans (hbx.mono hb.size))
      have HS1 := Lib.hid (hs.below hbx)
      have HR1 := Lib.hid (SRead.new w1 1 (.slice q n qc) 24)
      clear hb hs HP hbx hnn hmin
      try clear hle
      try clear hgt
      try clear hni
      go_wp2_with fail
      generalize w1.alloc (.cells #[.int .i64 1, .slice q n qc] 24) = X1 at *
      refine (fit_at 1 L n HN.out q qc _ HS1.out).mono ?_
      rintro e w2 ⟨fa, fb, fc, fd, fe, rfl, HF, hb⟩
      obtain ⟨c0, c1⟩ := HR1.out.below hb
      have hz := cell_lt c0
      have hbx : Below w2.heap.size w2 (w2.alloc (.cells #[.int .i64 fa, .int .i64 fb, .int .i64 fc, .int .i64 fd] 53)) := below_alloc (Below.refl _ _) _
      have B2 := Lib.hid ((B1.out.trans (hb.mono B1.out.size)).trans (hbx.mono (B1.out.trans (hb.mono B1.out.size)).size))
      have HS2 := Lib.hid ((HS1.out.below hb).below hbx)
      have HR2 := Lib.hid ((HR1.out.below hb).below hbx)
      have HQ2 := Lib.hid (QBox.new w2 fa fb fc fd 53)
      have HLT : Hid (w.heap.size ≤ w2.heap.size) := Lib.hid (B1.out.trans (hb.mono B1.out.size)).size
      clear hb hbx B1 HS1 HR1
      go_wp2_with fail
      clear c0 c1 hz
      generalize w2.alloc (.cells #[.int .i64 fa, .int .i64 fb, .int .i64 fc, .int .i64 fd] 53) = X2 at *
      refine (rest_at 1 L n HN.out q qc _ HS2.out).mono ?_
      rintro e w3 ⟨rn, rd, re, rfl, HG, hb⟩
      obtain ⟨c0, c1⟩ := HR2.out.below hb
      have hz := cell_lt c0
      have B3 := Lib.hid (B2.out.trans (hb.mono B2.out.size))
      have HS3 := Lib.hid (HS2.out.below hb)
      have HQ3 := Lib.hid (HQ2.out.below hb)
      clear hb B2 HS2 HR2 HQ2
      have hfe := fitErr_ok HPH.out (by have := HN.out; omega)
      have HFE := Lib.hid hfe
      clear hfe
      by_cases h2 : n < 2
      · have h2i : (n : Int) < 2 := by omega
        have hfe : fe = 4 := by
          have h1 := HF.out
          unfold fitE at h1
          rw [HFE.out, HN.out, if_pos h2, if_neg (by decide)] at h1
          exact (congrArg LineE.e h1).symm
        have hre : re = 4 := by
          have h1 := HG.out
          have e1 : restErr 1 L = 4 := by unfold restErr; rw [HFE.out, HN.out, if_pos h2]; rfl
          unfold restE at h1
          rw [e1, if_neg (by decide)] at h1
          exact (congrArg FracE.e h1).symm
        subst hfe hre
        have HB3 := Lib.hid (below_alloc B3.out (.cells #[.int .i64 rn, .int .i64 rd] 28))
        go_wp2_with fail
        refine (awake_any _).mono ?_
        rintro e w4 ⟨rfl, hb4⟩
        have HB4 := Lib.hid (HB3.out.trans (hb4.mono HB3.out.size))
        clear hb4
        go_wp2
        go_ret
        exact ⟨rfl, HB4.out⟩
      · have h2i : ¬ ((n : Int) < 2) := by omega
        have h2n : 2 ≤ L.length := by rw [HN.out]; omega
        have hf0 : fitErr 1 L = 0 := by rw [HFE.out, HN.out, if_neg h2]
        have hr0 : restErr 1 L = 0 := by unfold restErr; rw [if_pos hf0, if_neg (by rw [HN.out]; omega)]
        have hbd := tmod_lt b 9000 (by decide)
        have hbd' : -9000 < b.tmod 9000 ∧ b.tmod 9000 < 9000 := by simpa using hbd
        obtain ⟨N, hN⟩ : ∃ N, N = leaves (atL L) a (b.tmod 9000) L.length := ⟨_, rfl⟩
        have hlaw := rest_law h2n hr0 N hN.symm (a := a) (b := b.tmod 9000)
        rw [HG.out] at hlaw
        have hre : re = 0 := by
          have h1 := HG.out
          unfold restE at h1
          rw [if_pos hr0] at h1
          exact (congrArg FracE.e h1).symm
        have hfe : fe = 0 := by
          have h1 := HF.out
          unfold fitE at h1
          rw [if_pos hf0] at h1
          exact (congrArg LineE.e h1).symm
        have hfd : 1 ≤ fd := by
          have h1 := HF.out
          unfold fitE at h1
          rw [if_pos hf0] at h1
          have h3 := congrArg LineE.d h1
          dsimp only at h3
          rw [← h3]
          exact lowD_pos _ _ (lineNums L.length h2n (by have := HN.out; omega)).det.1
        have hrdu : rd ≤ 200000 := by
          have h1 := HG.out
          unfold restE at h1
          rw [if_pos hr0] at h1
          have h3 := congrArg FracE.d h1
          dsimp only at h3
          rw [← h3]
          refine Int.le_trans (Int.ediv_le_self _ ?_) (restD_le L.length (by have := HN.out; omega))
          have := restD_pos L.length h2n
          omega
        have HRU := Lib.hid hrdu
        clear hrdu
        subst hre hfe
        obtain ⟨hrd, hrn, hrl⟩ := hlaw
        dsimp only at hrd hrn hrl
        have wb : IntKind.i64.wrap b = b := IntWalk.i64_in _ (by omega)
        have wa : IntKind.i64.wrap a = a := IntWalk.i64_in _ (by omega)
        have wr' : IntKind.i64.wrap (b.tmod 9000) = b.tmod 9000 := IntWalk.i64_in _ (by omega)
        have HB' := Lib.hid hbd'
        have HNN := Lib.hid hN
        have HLAW := Lib.hid (show (1 ≤ rd ∧ 0 ≤ rn ∧ rn ≤ rd * N) ∧ 1 ≤ fd from ⟨⟨hrd, hrn, hrl⟩, hfd⟩)
        have HE := Lib.hid (show fitErr 1 L = 0 ∧ 2 ≤ L.length from ⟨hf0, h2n⟩)
        have hby : Below w3.heap.size w3 (w3.alloc (.cells #[.int .i64 rn, .int .i64 rd] 28)) := below_alloc (Below.refl _ _) _
        have B5 := Lib.hid (B3.out.trans (hby.mono B3.out.size))
        obtain ⟨qb, qo, rfl, hi⟩ := (HS3.out.below hby).2.resolve_left (by omega)
        have HI5 := Lib.hid hi
        have HQ5 := Lib.hid (HQ3.out.below hby)
        have HR5 := Lib.hid (RBox.new w3 rn rd 28)
        have hz5 : (w3.alloc (.cells #[.int .i64 rn, .int .i64 rd] 28)).heap.size = w3.heap.size + 1 := by simp
        have HSB := Lib.hid (SBox.start (w3.alloc (.cells #[.int .i64 rn, .int .i64 rd] 28)) 1 24)
        rw [hz5] at HSB
        have HZ5 := Lib.hid hz5
        have HL2 : Hid (w2.heap.size < w3.heap.size) := Lib.hid (cell_lt HQ3.out.c0)
        clear hf0 hr0 hbd hbd' hN hrd hrn hrl hfd hby hi hz5 B3 HS3 HQ3 HF HG HFE h2n
        go_wp2
        generalize w3.alloc (.cells #[.int .i64 rn, .int .i64 rd] 28) = X5 at *
        clear c0 c1 hz
        go_loopw [12, 50] (fun s i wr => ∃ (k : Nat) (v : Value), k ≤ n ∧ i = .int .i64 (k : Int) ∧ s = .int .i64 (leaves (atL L) a (b.tmod 9000) k) ∧ Hid (SBox X5 wr (w3.heap.size + 1) 1 v (lineL a (b.tmod 9000) k))) (fun _ i _ => n - (intOf i).toNat)
        case atStart => exact ⟨0, _, Nat.zero_le _, rfl, rfl, HSB⟩
        case round =>
          obtain ⟨k, v, hk, rfl, rfl, HT⟩ := hrel
          by_cases hlt : k < n
          · have hkl : (k : Int) < (n : Int) := by omega
            have hkL : k < L.length := by rw [HN.out]; exact hlt
            have x0 := cell_below HT.out.bel (HI5.out k hkL)
            rw [atL_get L k hkL] at x0
            have hb := HB'.out
            have hpos : ∀ i : Nat, i < n → -1000000 ≤ atL L i - (a + b.tmod 9000 * i) ∧ atL L i - (a + b.tmod 9000 * i) ≤ 1000000 := fun i hi => by
              have h1 := HBX.out i
              have h2 : -9000 * (i : Int) ≤ b.tmod 9000 * i ∧ b.tmod 9000 * i ≤ 9000 * (i : Int) := ⟨Int.mul_le_mul_of_nonneg_right (by omega) (by omega), Int.mul_le_mul_of_nonneg_right (by omega) (by omega)⟩
              omega
            have hbk : -9000 * (k : Int) ≤ b.tmod 9000 * k ∧ b.tmod 9000 * k ≤ 9000 * (k : Int) := ⟨Int.mul_le_mul_of_nonneg_right (by omega) (by omega), Int.mul_le_mul_of_nonneg_right (by omega) (by omega)⟩
            have hx := HBX.out k
            have hL0 := leaves_bd (atL L) a (b.tmod 9000) k (fun i hi => hpos i (by omega))
            have hL1 := leaves_bd (atL L) a (b.tmod 9000) (k + 1) (fun i hi => hpos i (by omega))
            have hLs : leaves (atL L) a (b.tmod 9000) (k + 1) = leaves (atL L) a (b.tmod 9000) k + (atL L k - (a + b.tmod 9000 * k)) * (atL L k - (a + b.tmod 9000 * k)) := rfl
            have wm : IntKind.i64.wrap (b.tmod 9000 * (k : Int)) = b.tmod 9000 * k := IntWalk.i64_in _ (by omega)
            have wy : IntKind.i64.wrap (a + b.tmod 9000 * (k : Int)) = a + b.tmod 9000 * k := IntWalk.i64_in _ (by omega)
            have hy := hpos k hlt
            have wd : IntKind.i64.wrap (atL L k - (a + b.tmod 9000 * (k : Int))) = atL L k - (a + b.tmod 9000 * k) := IntWalk.i64_in _ (by omega)
            have wq : IntKind.i64.wrap ((atL L k - (a + b.tmod 9000 * (k : Int))) * (atL L k - (a + b.tmod 9000 * (k : Int)))) = (atL L k - (a + b.tmod 9000 * k)) * (atL L k - (a + b.tmod 9000 * k)) := IntWalk.i64_in _ (by omega)
            have ws : IntKind.i64.wrap (leaves (atL L) a (b.tmod 9000) k + (atL L k - (a + b.tmod 9000 * (k : Int))) * (atL L k - (a + b.tmod 9000 * (k : Int)))) = leaves (atL L) a (b.tmod 9000) (k + 1) := by rw [hLs]; exact IntWalk.i64_in _ (by omega)
            have hlen : (lineL a (b.tmod 9000) k).length = k := lineL_len a (b.tmod 9000) k
            have HLS := Lib.hid (lineL_succ a (b.tmod 9000) k)
            have d1 := HT.out.c1
            have hz := cell_lt d1
            clear hpos hbk hx hL0 hL1 hLs hy hb
            go_wp2_with (at_builtin; refine wpList_append_own_at _ rfl (.tmp 73) (.tmp 75) _ rfl X5.heap.size 3 i0 (.int .i64 0) 1 8 Try.underlying22 hi0 hz0 hz1 hz2 rfl (by decide) _ _ _ rfl (HT.out.own.alloc _) ⟨wr.heap.size, 0, none⟩ 1 1 [.int .i64 (a + b.tmod 9000 * (k : Int))] rfl rfl (cell_one_new _ _ _) (by simp [Value.oneCell']) (by rw [hlen]; unfold maxLen; omega) (by rw [hlen]; omega) (by have := HT.out.bel.size; simp; omega) ?_; intro v' z1 hown hg _ hb; obtain ⟨gn, cn, rfl⟩ := ownsRow_succ hown; have HGR := Lib.hid (HT.out.grow hown hg hb); obtain ⟨u, d2⟩ := HGR.out.c1; have d3 := HGR.out.f1; have hz' := cell_lt d2; clear hown hg hb d1)
            have HS2 := HGR.out.store
            rw [← HLS.out, hlen] at HS2
            go_roundw
            case rel => exact ⟨k + 1, _, by omega, by go_num, rfl, Lib.hid HS2⟩
            case measure => simp [intOf]; omega
          · obtain rfl : k = n := by omega
            obtain ⟨⟨hrd, hrn, hrl⟩, hfd⟩ := HLAW.out
            obtain ⟨q2, c2, rfl, hs2, hqb⟩ := HT.out.own.ser
            have hlen : (lineL a (b.tmod 9000) k).length = k := lineL_len _ _ _
            rw [hlen] at hs2
            have HS6 := Lib.hid (show SerIn wr (lineL a (b.tmod 9000) k) q2 from ⟨by rw [hlen]; unfold maxLen; omega, by rw [hlen]; exact hs2⟩)
            have HQB := Lib.hid (show ∀ j o, q2 = some ⟨j, o, none⟩ → w2.heap.size < j ∧ w3.heap.size < j from fun j o e => by have := hqb j o e; have := HL2.out; have := HZ5.out; omega)
            have HR6 := Lib.hid (HR5.out.below HT.out.bel)
            have HQ6 := Lib.hid (HQ5.out.below HT.out.bel)
            have B6 := Lib.hid (B5.out.trans (HT.out.bel.mono B5.out.size))
            have HNk := Lib.hid (show N = leaves (atL L) a (b.tmod 9000) k by rw [HNN.out, HN.out])
            have HLEN := Lib.hid hlen
            have hN0 := leaves_bd (atL L) a (b.tmod 9000) k (fun i hi => by
              have h1 := HBX.out i
              have hb := HB'.out
              have h2 : -9000 * (i : Int) ≤ b.tmod 9000 * i ∧ b.tmod 9000 * i ≤ 9000 * (i : Int) := ⟨Int.mul_le_mul_of_nonneg_right (by omega) (by omega), Int.mul_le_mul_of_nonneg_right (by omega) (by omega)⟩
              omega)
            rw [← HNk.out] at hN0
            have hok : phasesOk (lineL a (b.tmod 9000) k) = true := lineL_ok _ _ _ (fun i hi => by
              have hb := HB'.out
              have h2 : -9000 * (i : Int) ≤ b.tmod 9000 * i ∧ b.tmod 9000 * i ≤ 9000 * (i : Int) := ⟨Int.mul_le_mul_of_nonneg_right (by omega) (by omega), Int.mul_le_mul_of_nonneg_right (by omega) (by omega)⟩
              omega)
            have hf0 : fitErr 1 (lineL a (b.tmod 9000) k) = 0 := by rw [fitErr_ok hok (by omega), hlen, if_neg (by omega)]
            have hr0 : restErr 1 (lineL a (b.tmod 9000) k) = 0 := by unfold restErr; rw [if_pos hf0, if_neg (by omega)]
            have HFIT := Lib.hid (on_fit (lineL_on a (b.tmod 9000) k) (by omega) hf0)
            have HREST := Lib.hid (on_rest (lineL_on a (b.tmod 9000) k) (by omega) hr0)
            have hQ : rn.tdiv rd = rn / rd := Int.tdiv_eq_ediv_of_nonneg hrn
            have hQ0 : 0 ≤ rn / rd := Int.ediv_nonneg hrn (by omega)
            have hQN : rn / rd ≤ N := Int.ediv_le_of_le_mul (by omega) (by rw [Int.mul_comm]; exact hrl)
            have hmod : rn.tmod rd = rn % rd := Int.tmod_eq_emod_of_nonneg hrn
            have hm0 := Int.emod_nonneg rn (show rd ≠ 0 by omega)
            have hm1 := Int.emod_lt_of_pos rn (show 0 < rd by omega)
            have hde := Int.mul_ediv_add_emod rn rd
            have hrd9 : rd ≤ 200000 := HRU.out
            have g1 : ¬ (rd < 1) := by omega
            have g2 : ¬ (rn < 0) := by omega
            have g3 : ¬ (fd < 1) := by omega
            have g4 : ¬ (rd = 0) := by omega
            have g5 : (rd == 0) = false := beq_eq_false_iff_ne.2 g4
            have k1 : IntKind.i64.wrap (rn.tdiv rd) = rn.tdiv rd := IntWalk.i64_in _ (by omega)
            have k2 : IntKind.i64.wrap (rn.tmod rd) = rn.tmod rd := IntWalk.i64_in _ (by omega)
            have k3 : IntKind.i64.wrap (leaves (atL L) a (b.tmod 9000) k) = leaves (atL L) a (b.tmod 9000) k := by rw [← HNk.out]; exact IntWalk.i64_in _ (by omega)
            have g6 : ¬ (leaves (atL L) a (b.tmod 9000) k < rn.tdiv rd) := by rw [← HNk.out]; omega
            have g7 : rn.tdiv rd = leaves (atL L) a (b.tmod 9000) k → rn.tmod rd = 0 := fun e => by
              rw [← HNk.out, hQ] at e
              rw [e] at hde
              omega
            obtain ⟨r0, r1, rf0, rf1⟩ := HR6.out
            obtain ⟨u0, u1, u2, u3, uf0, uf1, uf2, uf3⟩ := HQ6.out
            have v0 := HT.out.c0
            have v1 := HT.out.c1
            have z1 := cell_lt r0
            have z2 := cell_lt u0
            have z3 := cell_lt v0
            clear hs2 hqb hrl hQ hQ0 hQN hmod hm0 hm1 hde hN0 hrd9 hok hf0 hr0 hlen hrd hrn hfd
            rw [HLEN.out] at v1
            have hqq : (rn.tdiv rd = leaves (atL L) a (b.tmod 9000) k ∧ rn.tmod rd = 0) ∨ ¬ (rn.tdiv rd = leaves (atL L) a (b.tmod 9000) k) := by
              by_cases hq : rn.tdiv rd = leaves (atL L) a (b.tmod 9000) k
              · exact .inl ⟨hq, g7 hq⟩
              · exact .inr hq
            clear g7
            rcases hqq with ⟨hq, hq0⟩ | hq
            all_goals
              go_wp2_with fail
              try clear hq0
              refine (fit_at 1 (lineL a (b.tmod 9000) k) k HLEN.out q2 c2 _ HS6.out).mono ?_
              rintro e w6 ⟨ga, gb, gc, gd, ge, rfl, HF2, hb6⟩
              have hf2 := HF2.out
              rw [HFIT.out] at hf2
              cases hf2
              have HR7 := Lib.hid (HR6.out.below hb6)
              have HQ7 := Lib.hid (HQ6.out.below hb6)
              obtain ⟨u0, u1, u2, u3, uf0, uf1, uf2, uf3⟩ := HQ7.out
              have v0 := cell_below hb6 HT.out.c0
              have v1 := cell_below hb6 HT.out.c1
              rw [HLEN.out] at v1
              have V0 := Lib.hid v0
              have V1 := Lib.hid v1
              have z1 := cell_lt HR7.out.c0
              have z2 := cell_lt u0
              have z3 := cell_lt v0
              have B7 := Lib.hid (B6.out.trans (hb6.mono B6.out.size))
              have HS7 := Lib.hid (HS6.out.below hb6)
              clear hb6 HF2
              go_upto_region 18 with fail
              have hne : w2.heap.size ≠ w3.heap.size + 1 := by have := HL2.out; omega
              have HR8 : Hid (RBox ((((w6.setCell ⟨w2.heap.size, 0, none⟩ (.int .i64 a)).setCell ⟨w2.heap.size, 1, none⟩ (.int .i64 1)).setCell ⟨w2.heap.size, 2, none⟩ (.int .i64 (b.tmod 9000))).setCell ⟨w2.heap.size, 3, none⟩ (.int .i64 1)) w3.heap.size rn rd) := Lib.hid (store4_rbox HR7.out (by have := HL2.out; omega))
              have HQ8 : Hid (QBox ((((w6.setCell ⟨w2.heap.size, 0, none⟩ (.int .i64 a)).setCell ⟨w2.heap.size, 1, none⟩ (.int .i64 1)).setCell ⟨w2.heap.size, 2, none⟩ (.int .i64 (b.tmod 9000))).setCell ⟨w2.heap.size, 3, none⟩ (.int .i64 1)) w2.heap.size a 1 (b.tmod 9000) 1) := Lib.hid (HQ7.out.store a 1 (b.tmod 9000) 1)
              have y0 : ((((w6.setCell ⟨w2.heap.size, 0, none⟩ (.int .i64 a)).setCell ⟨w2.heap.size, 1, none⟩ (.int .i64 1)).setCell ⟨w2.heap.size, 2, none⟩ (.int .i64 (b.tmod 9000))).setCell ⟨w2.heap.size, 3, none⟩ (.int .i64 1)).cell? ⟨w3.heap.size + 1, 0, none⟩ = some (.int .i64 1) := (store4_cell hne).trans V0.out
              have y1 : ((((w6.setCell ⟨w2.heap.size, 0, none⟩ (.int .i64 a)).setCell ⟨w2.heap.size, 1, none⟩ (.int .i64 1)).setCell ⟨w2.heap.size, 2, none⟩ (.int .i64 (b.tmod 9000))).setCell ⟨w2.heap.size, 3, none⟩ (.int .i64 1)).cell? ⟨w3.heap.size + 1, 1, none⟩ = some (.slice q2 k c2) := (store4_cell hne).trans V1.out
              have B8 : Hid (Below w.heap.size w ((((w6.setCell ⟨w2.heap.size, 0, none⟩ (.int .i64 a)).setCell ⟨w2.heap.size, 1, none⟩ (.int .i64 1)).setCell ⟨w2.heap.size, 2, none⟩ (.int .i64 (b.tmod 9000))).setCell ⟨w2.heap.size, 3, none⟩ (.int .i64 1))) := Lib.hid (store4_below B7.out HLT.out)
              have HS8 : Hid (SerIn ((((w6.setCell ⟨w2.heap.size, 0, none⟩ (.int .i64 a)).setCell ⟨w2.heap.size, 1, none⟩ (.int .i64 1)).setCell ⟨w2.heap.size, 2, none⟩ (.int .i64 (b.tmod 9000))).setCell ⟨w2.heap.size, 3, none⟩ (.int .i64 1)) (lineL a (b.tmod 9000) k) q2) := Lib.hid ⟨HS7.out.1, (((HS7.out.2.set fun j o e => (HQB.out j o e).1).set fun j o e => (HQB.out j o e).1).set fun j o e => (HQB.out j o e).1).set fun j o e => (HQB.out j o e).1⟩
              clear u0 u1 u2 u3 uf0 uf1 uf2 uf3 v0 v1 z1 z2 z3 HR7 HQ7 V0 V1 B7 HS7 hne
              generalize ((((w6.setCell ⟨w2.heap.size, 0, none⟩ (.int .i64 a)).setCell ⟨w2.heap.size, 1, none⟩ (.int .i64 1)).setCell ⟨w2.heap.size, 2, none⟩ (.int .i64 (b.tmod 9000))).setCell ⟨w2.heap.size, 3, none⟩ (.int .i64 1)) = Y at *
              have z3 := cell_lt y0
              go_wp2_with fail
              refine (rest_at 1 (lineL a (b.tmod 9000) k) k HLEN.out q2 c2 _ HS8.out).mono ?_
              rintro e w7 ⟨gn, gd, ge, rfl, HG2, hb7⟩
              have hg2 := HG2.out
              rw [HREST.out] at hg2
              cases hg2
              have HR9 := Lib.hid (HR8.out.below hb7)
              have HQ9 := Lib.hid (HQ8.out.below hb7)
              obtain ⟨r0, r1, rf0, rf1⟩ := HR9.out
              have z1 := cell_lt r0
              have B9 := Lib.hid (B8.out.trans (hb7.mono B8.out.size))
              clear hb7 HG2 HR8 HQ8 B8 HS8 y0 y1 z3
              go_upto_region 19 with fail
              have HRX : Hid (RBox ((w7.setCell ⟨w3.heap.size, 0, none⟩ (.int .i64 0)).setCell ⟨w3.heap.size, 1, none⟩ (.int .i64 1)) w3.heap.size 0 1) := Lib.hid (HR9.out.store 0 1)
              have HQX : Hid (QBox ((w7.setCell ⟨w3.heap.size, 0, none⟩ (.int .i64 0)).setCell ⟨w3.heap.size, 1, none⟩ (.int .i64 1)) w2.heap.size a 1 (b.tmod 9000) 1) := Lib.hid ((HQ9.out.far (by have := HL2.out; omega)).far (by have := HL2.out; omega))
              have BX : Hid (Below w.heap.size w ((w7.setCell ⟨w3.heap.size, 0, none⟩ (.int .i64 0)).setCell ⟨w3.heap.size, 1, none⟩ (.int .i64 1))) := Lib.hid ((B9.out.setCell (p := ⟨w3.heap.size, 0, none⟩) (by show w.heap.size ≤ w3.heap.size; have := HL2.out; have := HLT.out; omega) _).setCell (p := ⟨w3.heap.size, 1, none⟩) (by show w.heap.size ≤ w3.heap.size; have := HL2.out; have := HLT.out; omega) _)
              clear r0 r1 rf0 rf1 z1 HR9 HQ9 B9
              generalize ((w7.setCell ⟨w3.heap.size, 0, none⟩ (.int .i64 0)).setCell ⟨w3.heap.size, 1, none⟩ (.int .i64 1)) = Z at *
              obtain ⟨r0, r1, -, -⟩ := HRX.out
              obtain ⟨u0, u1, u2, u3, -, -, -, -⟩ := HQX.out
              have z1 := cell_lt r0
              have z2 := cell_lt u0
              go_wp2_with fail
              refine (awake_any _).mono ?_
              rintro e w8 ⟨rfl, hb8⟩
              have BY := Lib.hid (BX.out.trans (hb8.mono BX.out.size))
              clear hb8
              go_wp2
              go_ret
              exact ⟨rfl, BY.out⟩
end Go.Proofs.Ytbkcjhmemfndbaa
