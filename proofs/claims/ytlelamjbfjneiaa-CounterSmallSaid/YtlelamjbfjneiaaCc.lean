/- Contracts of layer 2: which counters are right. -/
import Derived.Test.YtlelamjbfjneiaaCb
namespace Go.Proofs.Ytlelamjbfjneiaa.Ct
open Go Go.RowKit
def ruleV (c : Cnt) : Nat → Int
  | 0 => c.f | 1 => c.o | 2 => c.j | 3 => c.g | 4 => c.r | 5 => c.r % (2 * c.g) | 6 => c.d | _ => c.i
def ruleLo : Nat → Int
  | 0 => 1 | 1 => -1000000000000 | 2 => 0 | 3 => 1 | 4 => 1 | 5 => 0 | 6 => 1 | _ => 0
def ruleHi : Nat → Int
  | 0 => 1000 | 1 => 1000000000000 | 2 => 1000000000 | 3 => 1000000000 | 4 => 1000000000000000 | 5 => 0 | 6 => 100000 | _ => 1000000
def ruleF : Nat → Nat
  | 0 => 57 | 1 => 58 | 2 => 59 | 3 => 60 | 4 => 61 | 5 => 62 | 6 => 63 | _ => 64
def ruleB (c : Cnt) (k : Nat) : Bool := decide (ruleLo k ≤ ruleV c k) && decide (ruleV c k ≤ ruleHi k)
def cntB (c : Cnt) : Bool := (List.range 8).all (ruleB c)
def checkC (c : Cnt) : Int := if cntB c = true then 0 else 30
theorem cntB_in {c : Cnt} (h : cntB c = true) : CntIn c := by
  have h' : ∀ k, k < 8 → ruleLo k ≤ ruleV c k ∧ ruleV c k ≤ ruleHi k := fun k hk => by
    have := List.all_eq_true.1 h k (by simpa using hk)
    simpa [ruleB] using this
  have h0 := h' 0 (by decide); have h1 := h' 1 (by decide); have h2 := h' 2 (by decide); have h3 := h' 3 (by decide)
  have h4 := h' 4 (by decide); have h5 := h' 5 (by decide); have h6 := h' 6 (by decide); have h7 := h' 7 (by decide)
  simp only [ruleLo, ruleV, ruleHi] at h0 h1 h2 h3 h4 h5 h6 h7
  exact ⟨h0, h1, h2, h3, h4, by omega, h6, h7⟩
theorem cntB_of {c : Cnt} (h : CntIn c) : cntB c = true := by
  refine List.all_eq_true.2 fun k hk => ?_
  have hk8 : k < 8 := by simpa using hk
  obtain ⟨h0, h1, h2, h3, h4, h5, h6, h7⟩ := h
  simp only [ruleB, Bool.and_eq_true, decide_eq_true_eq]
  match k, hk8 with
  | 0, _ => exact h0
  | 1, _ => exact h1
  | 2, _ => exact h2
  | 3, _ => exact h3
  | 4, _ => exact h4
  | 5, _ => simp only [ruleLo, ruleV, ruleHi]; omega
  | 6, _ => exact h6
  | 7, _ => exact h7
/-- what a rule's function asks of what stood before it -/
def ruleP (c : Cnt) (k : Nat) : Prop := k = 5 → (1 ≤ c.g ∧ c.g ≤ 1000000000) ∧ (1 ≤ c.r ∧ c.r ≤ 1000000000000000)
set_option maxRecDepth 100000 in
set_option maxHeartbeats 1000000 in
theorem rule_any (c : Cnt) (k : Nat) (hk : k < 8) (hp : ruleP c k) (w : World) :
    Calls Try.prog (ruleF k) #[cntVal c] w fun e w' => e = .returned (.int .i64 (ruleV c k)) ∧ Below w.heap.size w w' := by
  have A0 := Lib.hid (below_alloc (Below.refl w.heap.size w) (cntObj c))
  obtain ⟨c0, c1, c2, c3, c4, c5, c6⟩ := CBox.new w c
  have hz := cell_lt c4
  unfold cntObj at A0 c0 c1 c2 c3 c4 c5 c6 hz
  unfold cntVal
  have HP := Lib.hid hp
  clear hp
  match k, hk with
  | 0, _ =>
    show Calls Try.prog 57 _ _ _
    go_enter Try.func57, Try.ntmps57
    go_wp2
    go_ret
    exact ⟨rfl, A0.out⟩
  | 1, _ =>
    show Calls Try.prog 58 _ _ _
    go_enter Try.func58, Try.ntmps58
    go_wp2
    go_ret
    exact ⟨rfl, A0.out⟩
  | 2, _ =>
    show Calls Try.prog 59 _ _ _
    go_enter Try.func59, Try.ntmps59
    go_wp2
    go_ret
    exact ⟨rfl, A0.out⟩
  | 3, _ =>
    show Calls Try.prog 60 _ _ _
    go_enter Try.func60, Try.ntmps60
    go_wp2
    go_ret
    exact ⟨rfl, A0.out⟩
  | 4, _ =>
    show Calls Try.prog 61 _ _ _
    go_enter Try.func61, Try.ntmps61
    go_wp2
    go_ret
    exact ⟨rfl, A0.out⟩
  | 5, _ =>
    show Calls Try.prog 62 _ _ _
    obtain ⟨hg, hr⟩ := HP.out rfl
    have k1 : IntKind.i64.wrap (2 * c.g) = 2 * c.g := IntWalk.i64_in _ (by omega)
    have hne : (2 * c.g == 0) = false := by simp; omega
    have hnz : ¬ 2 * c.g = 0 := by omega
    go_enter Try.func62, Try.ntmps62
    go_wp2
    go_ret
    exact ⟨rfl, A0.out⟩
  | 6, _ =>
    show Calls Try.prog 63 _ _ _
    go_enter Try.func63, Try.ntmps63
    go_wp2
    go_ret
    exact ⟨rfl, A0.out⟩
  | 7, _ =>
    show Calls Try.prog 64 _ _ _
    go_enter Try.func64, Try.ntmps64
    go_wp2
    go_ret
    exact ⟨rfl, A0.out⟩
/-- the table of the rules -/
def RulesAt (X : World) (g : Nat) : Prop := ∀ k, k < 8 → X.cell? ⟨g, k * 3, none⟩ = some (.func (.func (ruleF k)) #[] #[]) ∧ X.cell? ⟨g, k * 3 + 1, none⟩ = some (.int .i64 (ruleLo k)) ∧ X.cell? ⟨g, k * 3 + 2, none⟩ = some (.int .i64 (ruleHi k))
theorem RulesAt.below {X Y : World} {g : Nat} (h : RulesAt X g) (hb : Below X.heap.size X Y) : RulesAt Y g := fun k hk =>
  ⟨cell_below hb (h k hk).1, cell_below hb (h k hk).2.1, cell_below hb (h k hk).2.2⟩
def RulesRet (w : World) (e : Ending) (w' : World) : Prop := ∃ g, e = .returned (.slice (some ⟨g, 0, none⟩) 8 8) ∧ RulesAt w' g ∧ Below w.heap.size w w'
set_option maxRecDepth 100000 in
set_option maxHeartbeats 1000000 in
theorem rules_any (w : World) : Calls Try.prog 32 #[] w (RulesRet w) := by
  go_enter Try.func32, Try.ntmps32
  go_wp2
  go_ret
  refine ⟨w.heap.size, rfl, fun k hk => ?_, below_alloc (Below.refl _ _) _⟩
  match k, hk with
  | 0, _ => exact ⟨by simp [ruleF], by simp [ruleLo], by simp [ruleHi]⟩
  | 1, _ => exact ⟨by simp [ruleF], by simp [ruleLo], by simp [ruleHi]⟩
  | 2, _ => exact ⟨by simp [ruleF], by simp [ruleLo], by simp [ruleHi]⟩
  | 3, _ => exact ⟨by simp [ruleF], by simp [ruleLo], by simp [ruleHi]⟩
  | 4, _ => exact ⟨by simp [ruleF], by simp [ruleLo], by simp [ruleHi]⟩
  | 5, _ => exact ⟨by simp [ruleF], by simp [ruleLo], by simp [ruleHi]⟩
  | 6, _ => exact ⟨by simp [ruleF], by simp [ruleLo], by simp [ruleHi]⟩
  | 7, _ => exact ⟨by simp [ruleF], by simp [ruleLo], by simp [ruleHi]⟩
/-- what lies about Check's loop -/
structure ChkAt (w W : World) (g : Nat) (c : Cnt) : Prop where
  b : CBox W w.heap.size c
  r : RulesAt W g
  bel : Below w.heap.size w W
theorem ChkAt.below {w W Y : World} {g : Nat} {c : Cnt} (h : ChkAt w W g c) (hb : Below W.heap.size W Y) : ChkAt w Y g c := ⟨h.b.below hb, h.r.below hb, h.bel.trans (hb.mono h.bel.size)⟩
set_option maxRecDepth 100000 in
set_option maxHeartbeats 4000000 in
theorem check_any (c : Cnt) (w : World) :
    Calls Try.prog 15 #[cntVal c] w fun e w' => e = .returned (.int .i64 (checkC c)) ∧ Below w.heap.size w w' := by
  have A0 := Lib.hid (below_alloc (Below.refl w.heap.size w) (cntObj c))
  have HB := Lib.hid (CBox.new w c)
  unfold cntObj at A0 HB
  unfold cntVal
  obtain ⟨V, hV⟩ : ∃ V, V = checkC c := ⟨_, rfl⟩
  rw [← hV]
  have HV := Lib.hid hV
  clear hV
  go_enter Try.func15, Try.ntmps15
  go_wp2_with fail
  refine (rules_any _).mono ?_
  rintro e w1 ⟨g, rfl, hr, hb⟩
  have HC := Lib.hid (show ChkAt w w1 g c from ⟨HB.out.below hb, hr, A0.out.trans (hb.mono A0.out.size)⟩)
  clear hr hb HB A0
  go_wp2
  go_loopw [7] (fun i wr => ∃ k : Nat, k ≤ 8 ∧ i = .int .i64 (k : Int) ∧ Hid (∀ j, j < k → ruleB c j = true) ∧ Hid (ChkAt w wr g c)) (fun i _ => 8 - (intOf i).toNat)
  case atStart => exact ⟨0, Nat.zero_le _, rfl, Lib.hid (fun j h => absurd h (Nat.not_lt_zero j)), HC⟩
  case round =>
    obtain ⟨k, hk, rfl, HP, HE⟩ := hrel
    have h8 : k = 0 ∨ k = 1 ∨ k = 2 ∨ k = 3 ∨ k = 4 ∨ k = 5 ∨ k = 6 ∨ k = 7 ∨ k = 8 := by omega
    rcases h8 with rfl | rfl | rfl | rfl | rfl | rfl | rfl | rfl | rfl
    · have HR := Lib.hid (fun W => rule_any c 0 (by decide) (by rintro h; omega) W)
      have r0 : wr.cell? ⟨g, 0, none⟩ = some (.func (.func 57) #[] #[]) := (HE.out.r 0 (by decide)).1
      have r1 : wr.cell? ⟨g, 1, none⟩ = some (.int .i64 1) := (HE.out.r 0 (by decide)).2.1
      have r2 : wr.cell? ⟨g, 2, none⟩ = some (.int .i64 1000) := (HE.out.r 0 (by decide)).2.2
      have hz := cell_lt r0
      obtain ⟨vk, hvk⟩ : ∃ vk, vk = ruleV c 0 := ⟨_, rfl⟩
      rw [← hvk] at HR
      have HRB := Lib.hid (show ruleB c 0 = (decide (1 ≤ vk) && decide (vk ≤ 1000)) by rw [hvk]; rfl)
      unfold cntVal at HR
      clear hvk hk
      go_upto_region 4 with fail
      have HK := Lib.hid (fun W (hb : Below (wr.alloc (.cells #[.func (.func 57) #[] #[], .int .i64 1, .int .i64 1000] 84)).heap.size (wr.alloc (.cells #[.func (.func 57) #[] #[], .int .i64 1, .int .i64 1000] 84)) W) => (show (W.cell? ⟨wr.heap.size, 0, none⟩ = some (.func (.func 57) #[] #[]) ∧ W.cell? ⟨wr.heap.size, 1, none⟩ = some (.int .i64 1) ∧ W.cell? ⟨wr.heap.size, 2, none⟩ = some (.int .i64 1000)) ∧ W.cell? ⟨w.heap.size, 0, none⟩ = some (.int .i64 c.f) ∧ W.cell? ⟨w.heap.size, 1, none⟩ = some (.int .i64 c.o) ∧ W.cell? ⟨w.heap.size, 2, none⟩ = some (.int .i64 c.j) ∧ W.cell? ⟨w.heap.size, 3, none⟩ = some (.int .i64 c.g) ∧ W.cell? ⟨w.heap.size, 4, none⟩ = some (.int .i64 c.r) ∧ W.cell? ⟨w.heap.size, 5, none⟩ = some (.int .i64 c.d) ∧ W.cell? ⟨w.heap.size, 6, none⟩ = some (.int .i64 c.i) from by
          have h := (HE.out.below (below_alloc (Below.refl _ _) (.cells #[.func (.func 57) #[] #[], .int .i64 1, .int .i64 1000] 84))).below hb
          exact ⟨⟨cell_below hb (by simp), cell_below hb (by simp), cell_below hb (by simp)⟩, h.b.c0, h.b.c1, h.b.c2, h.b.c3, h.b.c4, h.b.c5, h.b.c6⟩))
      have HEX := Lib.hid (fun W (hb : Below (wr.alloc (.cells #[.func (.func 57) #[] #[], .int .i64 1, .int .i64 1000] 84)).heap.size (wr.alloc (.cells #[.func (.func 57) #[] #[], .int .i64 1, .int .i64 1000] 84)) W) => (HE.out.below (below_alloc (Below.refl _ _) (.cells #[.func (.func 57) #[] #[], .int .i64 1, .int .i64 1000] 84))).below hb)
      clear r0 r1 r2 hz
      generalize wr.alloc (.cells #[.func (.func 57) #[] #[], .int .i64 1, .int .i64 1000] 84) = X at *
      generalize wr.heap.size = rb at *
      have HRK := Lib.hid (fun W (hb : Below X.heap.size X W) => (HR.out W).mono fun _ _ h => And.intro h.1 (hb.trans (h.2.mono hb.size)))
      have hB0 : Below X.heap.size X X.drew := Below.drew (Below.refl _ _)
      by_cases hin : 1 ≤ vk ∧ vk ≤ 1000
      · have HW := Lib.hid (fun W => within_yes vk 1 1000 W hin)
        have HNX := Lib.hid (show ∀ j, j < 1 → ruleB c j = true from fun j hj => by
          by_cases e : j = 0
          · subst e; rw [HRB.out]; simp [hin]
          · exact HP.out j (by omega))
        clear hin
        go_region_held3 (fun w' => (w'.cell? ⟨rb, 0, none⟩ = some (.func (.func 57) #[] #[]) ∧ w'.cell? ⟨rb, 1, none⟩ = some (.int .i64 1) ∧ w'.cell? ⟨rb, 2, none⟩ = some (.int .i64 1000)) ∧ w'.cell? ⟨w.heap.size, 0, none⟩ = some (.int .i64 c.f) ∧ w'.cell? ⟨w.heap.size, 1, none⟩ = some (.int .i64 c.o) ∧ w'.cell? ⟨w.heap.size, 2, none⟩ = some (.int .i64 c.j) ∧ w'.cell? ⟨w.heap.size, 3, none⟩ = some (.int .i64 c.g) ∧ w'.cell? ⟨w.heap.size, 4, none⟩ = some (.int .i64 c.r) ∧ w'.cell? ⟨w.heap.size, 5, none⟩ = some (.int .i64 c.d) ∧ w'.cell? ⟨w.heap.size, 6, none⟩ = some (.int .i64 c.i))
          (first | exact HK.out _ hbA | exact HK.out _ hB0 | exact HK.out _ (Below.refl _ _))
          (first | (go_at_call 33; refine (HW.out _).mono ?_; rintro e w2 ⟨rfl, rfl⟩) | (go_at_call 57; refine (HRK.out _ hB0).mono ?_; rintro e wA ⟨rfl, hbA⟩))
        go_wp2
        go_roundw
        case rel => exact ⟨1, by omega, rfl, HNX, Lib.hid (HEX.out _ hbA)⟩
        case measure => simp [intOf]
      · have HW := Lib.hid (fun W => within_no vk 1 1000 W hin)
        have HNV := Lib.hid (show V = 30 by
          rw [HV.out]
          unfold checkC
          rw [if_neg]
          intro hc
          have h := List.all_eq_true.1 hc 0 (by simp)
          rw [HRB.out] at h
          exact hin (by simpa using h))
        clear hin
        go_region_held3 (fun w' => (w'.cell? ⟨rb, 0, none⟩ = some (.func (.func 57) #[] #[]) ∧ w'.cell? ⟨rb, 1, none⟩ = some (.int .i64 1) ∧ w'.cell? ⟨rb, 2, none⟩ = some (.int .i64 1000)) ∧ w'.cell? ⟨w.heap.size, 0, none⟩ = some (.int .i64 c.f) ∧ w'.cell? ⟨w.heap.size, 1, none⟩ = some (.int .i64 c.o) ∧ w'.cell? ⟨w.heap.size, 2, none⟩ = some (.int .i64 c.j) ∧ w'.cell? ⟨w.heap.size, 3, none⟩ = some (.int .i64 c.g) ∧ w'.cell? ⟨w.heap.size, 4, none⟩ = some (.int .i64 c.r) ∧ w'.cell? ⟨w.heap.size, 5, none⟩ = some (.int .i64 c.d) ∧ w'.cell? ⟨w.heap.size, 6, none⟩ = some (.int .i64 c.i))
          (first | exact HK.out _ hbA | exact HK.out _ hB0 | exact HK.out _ (Below.refl _ _))
          (first | (go_at_call 33; refine (HW.out _).mono ?_; rintro e w2 ⟨rfl, rfl⟩) | (go_at_call 57; refine (HRK.out _ hB0).mono ?_; rintro e wA ⟨rfl, hbA⟩))
        have HFB := Lib.hid ((HEX.out _ hbA).bel)
        go_wp2
        go_ret
        exact ⟨by rw [HNV.out]; rfl, HFB.out⟩
    · have HR := Lib.hid (fun W => rule_any c 1 (by decide) (by rintro h; omega) W)
      have r0 : wr.cell? ⟨g, 3, none⟩ = some (.func (.func 58) #[] #[]) := (HE.out.r 1 (by decide)).1
      have r1 : wr.cell? ⟨g, 4, none⟩ = some (.int .i64 (-1000000000000)) := (HE.out.r 1 (by decide)).2.1
      have r2 : wr.cell? ⟨g, 5, none⟩ = some (.int .i64 1000000000000) := (HE.out.r 1 (by decide)).2.2
      have hz := cell_lt r0
      obtain ⟨vk, hvk⟩ : ∃ vk, vk = ruleV c 1 := ⟨_, rfl⟩
      rw [← hvk] at HR
      have HRB := Lib.hid (show ruleB c 1 = (decide ((-1000000000000) ≤ vk) && decide (vk ≤ 1000000000000)) by rw [hvk]; rfl)
      unfold cntVal at HR
      clear hvk hk
      go_upto_region 4 with fail
      have HK := Lib.hid (fun W (hb : Below (wr.alloc (.cells #[.func (.func 58) #[] #[], .int .i64 (-1000000000000), .int .i64 1000000000000] 84)).heap.size (wr.alloc (.cells #[.func (.func 58) #[] #[], .int .i64 (-1000000000000), .int .i64 1000000000000] 84)) W) => (show (W.cell? ⟨wr.heap.size, 0, none⟩ = some (.func (.func 58) #[] #[]) ∧ W.cell? ⟨wr.heap.size, 1, none⟩ = some (.int .i64 (-1000000000000)) ∧ W.cell? ⟨wr.heap.size, 2, none⟩ = some (.int .i64 1000000000000)) ∧ W.cell? ⟨w.heap.size, 0, none⟩ = some (.int .i64 c.f) ∧ W.cell? ⟨w.heap.size, 1, none⟩ = some (.int .i64 c.o) ∧ W.cell? ⟨w.heap.size, 2, none⟩ = some (.int .i64 c.j) ∧ W.cell? ⟨w.heap.size, 3, none⟩ = some (.int .i64 c.g) ∧ W.cell? ⟨w.heap.size, 4, none⟩ = some (.int .i64 c.r) ∧ W.cell? ⟨w.heap.size, 5, none⟩ = some (.int .i64 c.d) ∧ W.cell? ⟨w.heap.size, 6, none⟩ = some (.int .i64 c.i) from by
          have h := (HE.out.below (below_alloc (Below.refl _ _) (.cells #[.func (.func 58) #[] #[], .int .i64 (-1000000000000), .int .i64 1000000000000] 84))).below hb
          exact ⟨⟨cell_below hb (by simp), cell_below hb (by simp), cell_below hb (by simp)⟩, h.b.c0, h.b.c1, h.b.c2, h.b.c3, h.b.c4, h.b.c5, h.b.c6⟩))
      have HEX := Lib.hid (fun W (hb : Below (wr.alloc (.cells #[.func (.func 58) #[] #[], .int .i64 (-1000000000000), .int .i64 1000000000000] 84)).heap.size (wr.alloc (.cells #[.func (.func 58) #[] #[], .int .i64 (-1000000000000), .int .i64 1000000000000] 84)) W) => (HE.out.below (below_alloc (Below.refl _ _) (.cells #[.func (.func 58) #[] #[], .int .i64 (-1000000000000), .int .i64 1000000000000] 84))).below hb)
      clear r0 r1 r2 hz
      generalize wr.alloc (.cells #[.func (.func 58) #[] #[], .int .i64 (-1000000000000), .int .i64 1000000000000] 84) = X at *
      generalize wr.heap.size = rb at *
      have HRK := Lib.hid (fun W (hb : Below X.heap.size X W) => (HR.out W).mono fun _ _ h => And.intro h.1 (hb.trans (h.2.mono hb.size)))
      have hB0 : Below X.heap.size X X.drew := Below.drew (Below.refl _ _)
      by_cases hin : (-1000000000000) ≤ vk ∧ vk ≤ 1000000000000
      · have HW := Lib.hid (fun W => within_yes vk (-1000000000000) 1000000000000 W hin)
        have HNX := Lib.hid (show ∀ j, j < 2 → ruleB c j = true from fun j hj => by
          by_cases e : j = 1
          · subst e; rw [HRB.out]; simp [hin]
          · exact HP.out j (by omega))
        clear hin
        go_region_held3 (fun w' => (w'.cell? ⟨rb, 0, none⟩ = some (.func (.func 58) #[] #[]) ∧ w'.cell? ⟨rb, 1, none⟩ = some (.int .i64 (-1000000000000)) ∧ w'.cell? ⟨rb, 2, none⟩ = some (.int .i64 1000000000000)) ∧ w'.cell? ⟨w.heap.size, 0, none⟩ = some (.int .i64 c.f) ∧ w'.cell? ⟨w.heap.size, 1, none⟩ = some (.int .i64 c.o) ∧ w'.cell? ⟨w.heap.size, 2, none⟩ = some (.int .i64 c.j) ∧ w'.cell? ⟨w.heap.size, 3, none⟩ = some (.int .i64 c.g) ∧ w'.cell? ⟨w.heap.size, 4, none⟩ = some (.int .i64 c.r) ∧ w'.cell? ⟨w.heap.size, 5, none⟩ = some (.int .i64 c.d) ∧ w'.cell? ⟨w.heap.size, 6, none⟩ = some (.int .i64 c.i))
          (first | exact HK.out _ hbA | exact HK.out _ hB0 | exact HK.out _ (Below.refl _ _))
          (first | (go_at_call 33; refine (HW.out _).mono ?_; rintro e w2 ⟨rfl, rfl⟩) | (go_at_call 58; refine (HRK.out _ hB0).mono ?_; rintro e wA ⟨rfl, hbA⟩))
        go_wp2
        go_roundw
        case rel => exact ⟨2, by omega, rfl, HNX, Lib.hid (HEX.out _ hbA)⟩
        case measure => simp [intOf]
      · have HW := Lib.hid (fun W => within_no vk (-1000000000000) 1000000000000 W hin)
        have HNV := Lib.hid (show V = 30 by
          rw [HV.out]
          unfold checkC
          rw [if_neg]
          intro hc
          have h := List.all_eq_true.1 hc 1 (by simp)
          rw [HRB.out] at h
          exact hin (by simpa using h))
        clear hin
        go_region_held3 (fun w' => (w'.cell? ⟨rb, 0, none⟩ = some (.func (.func 58) #[] #[]) ∧ w'.cell? ⟨rb, 1, none⟩ = some (.int .i64 (-1000000000000)) ∧ w'.cell? ⟨rb, 2, none⟩ = some (.int .i64 1000000000000)) ∧ w'.cell? ⟨w.heap.size, 0, none⟩ = some (.int .i64 c.f) ∧ w'.cell? ⟨w.heap.size, 1, none⟩ = some (.int .i64 c.o) ∧ w'.cell? ⟨w.heap.size, 2, none⟩ = some (.int .i64 c.j) ∧ w'.cell? ⟨w.heap.size, 3, none⟩ = some (.int .i64 c.g) ∧ w'.cell? ⟨w.heap.size, 4, none⟩ = some (.int .i64 c.r) ∧ w'.cell? ⟨w.heap.size, 5, none⟩ = some (.int .i64 c.d) ∧ w'.cell? ⟨w.heap.size, 6, none⟩ = some (.int .i64 c.i))
          (first | exact HK.out _ hbA | exact HK.out _ hB0 | exact HK.out _ (Below.refl _ _))
          (first | (go_at_call 33; refine (HW.out _).mono ?_; rintro e w2 ⟨rfl, rfl⟩) | (go_at_call 58; refine (HRK.out _ hB0).mono ?_; rintro e wA ⟨rfl, hbA⟩))
        have HFB := Lib.hid ((HEX.out _ hbA).bel)
        go_wp2
        go_ret
        exact ⟨by rw [HNV.out]; rfl, HFB.out⟩
    · have HR := Lib.hid (fun W => rule_any c 2 (by decide) (by rintro h; omega) W)
      have r0 : wr.cell? ⟨g, 6, none⟩ = some (.func (.func 59) #[] #[]) := (HE.out.r 2 (by decide)).1
      have r1 : wr.cell? ⟨g, 7, none⟩ = some (.int .i64 0) := (HE.out.r 2 (by decide)).2.1
      have r2 : wr.cell? ⟨g, 8, none⟩ = some (.int .i64 1000000000) := (HE.out.r 2 (by decide)).2.2
      have hz := cell_lt r0
      obtain ⟨vk, hvk⟩ : ∃ vk, vk = ruleV c 2 := ⟨_, rfl⟩
      rw [← hvk] at HR
      have HRB := Lib.hid (show ruleB c 2 = (decide (0 ≤ vk) && decide (vk ≤ 1000000000)) by rw [hvk]; rfl)
      unfold cntVal at HR
      clear hvk hk
      go_upto_region 4 with fail
      have HK := Lib.hid (fun W (hb : Below (wr.alloc (.cells #[.func (.func 59) #[] #[], .int .i64 0, .int .i64 1000000000] 84)).heap.size (wr.alloc (.cells #[.func (.func 59) #[] #[], .int .i64 0, .int .i64 1000000000] 84)) W) => (show (W.cell? ⟨wr.heap.size, 0, none⟩ = some (.func (.func 59) #[] #[]) ∧ W.cell? ⟨wr.heap.size, 1, none⟩ = some (.int .i64 0) ∧ W.cell? ⟨wr.heap.size, 2, none⟩ = some (.int .i64 1000000000)) ∧ W.cell? ⟨w.heap.size, 0, none⟩ = some (.int .i64 c.f) ∧ W.cell? ⟨w.heap.size, 1, none⟩ = some (.int .i64 c.o) ∧ W.cell? ⟨w.heap.size, 2, none⟩ = some (.int .i64 c.j) ∧ W.cell? ⟨w.heap.size, 3, none⟩ = some (.int .i64 c.g) ∧ W.cell? ⟨w.heap.size, 4, none⟩ = some (.int .i64 c.r) ∧ W.cell? ⟨w.heap.size, 5, none⟩ = some (.int .i64 c.d) ∧ W.cell? ⟨w.heap.size, 6, none⟩ = some (.int .i64 c.i) from by
          have h := (HE.out.below (below_alloc (Below.refl _ _) (.cells #[.func (.func 59) #[] #[], .int .i64 0, .int .i64 1000000000] 84))).below hb
          exact ⟨⟨cell_below hb (by simp), cell_below hb (by simp), cell_below hb (by simp)⟩, h.b.c0, h.b.c1, h.b.c2, h.b.c3, h.b.c4, h.b.c5, h.b.c6⟩))
      have HEX := Lib.hid (fun W (hb : Below (wr.alloc (.cells #[.func (.func 59) #[] #[], .int .i64 0, .int .i64 1000000000] 84)).heap.size (wr.alloc (.cells #[.func (.func 59) #[] #[], .int .i64 0, .int .i64 1000000000] 84)) W) => (HE.out.below (below_alloc (Below.refl _ _) (.cells #[.func (.func 59) #[] #[], .int .i64 0, .int .i64 1000000000] 84))).below hb)
      clear r0 r1 r2 hz
      generalize wr.alloc (.cells #[.func (.func 59) #[] #[], .int .i64 0, .int .i64 1000000000] 84) = X at *
      generalize wr.heap.size = rb at *
      have HRK := Lib.hid (fun W (hb : Below X.heap.size X W) => (HR.out W).mono fun _ _ h => And.intro h.1 (hb.trans (h.2.mono hb.size)))
      have hB0 : Below X.heap.size X X.drew := Below.drew (Below.refl _ _)
      by_cases hin : 0 ≤ vk ∧ vk ≤ 1000000000
      · have HW := Lib.hid (fun W => within_yes vk 0 1000000000 W hin)
        have HNX := Lib.hid (show ∀ j, j < 3 → ruleB c j = true from fun j hj => by
          by_cases e : j = 2
          · subst e; rw [HRB.out]; simp [hin]
          · exact HP.out j (by omega))
        clear hin
        go_region_held3 (fun w' => (w'.cell? ⟨rb, 0, none⟩ = some (.func (.func 59) #[] #[]) ∧ w'.cell? ⟨rb, 1, none⟩ = some (.int .i64 0) ∧ w'.cell? ⟨rb, 2, none⟩ = some (.int .i64 1000000000)) ∧ w'.cell? ⟨w.heap.size, 0, none⟩ = some (.int .i64 c.f) ∧ w'.cell? ⟨w.heap.size, 1, none⟩ = some (.int .i64 c.o) ∧ w'.cell? ⟨w.heap.size, 2, none⟩ = some (.int .i64 c.j) ∧ w'.cell? ⟨w.heap.size, 3, none⟩ = some (.int .i64 c.g) ∧ w'.cell? ⟨w.heap.size, 4, none⟩ = some (.int .i64 c.r) ∧ w'.cell? ⟨w.heap.size, 5, none⟩ = some (.int .i64 c.d) ∧ w'.cell? ⟨w.heap.size, 6, none⟩ = some (.int .i64 c.i))
          (first | exact HK.out _ hbA | exact HK.out _ hB0 | exact HK.out _ (Below.refl _ _))
          (first | (go_at_call 33; refine (HW.out _).mono ?_; rintro e w2 ⟨rfl, rfl⟩) | (go_at_call 59; refine (HRK.out _ hB0).mono ?_; rintro e wA ⟨rfl, hbA⟩))
        go_wp2
        go_roundw
        case rel => exact ⟨3, by omega, rfl, HNX, Lib.hid (HEX.out _ hbA)⟩
        case measure => simp [intOf]
      · have HW := Lib.hid (fun W => within_no vk 0 1000000000 W hin)
        have HNV := Lib.hid (show V = 30 by
          rw [HV.out]
          unfold checkC
          rw [if_neg]
          intro hc
          have h := List.all_eq_true.1 hc 2 (by simp)
          rw [HRB.out] at h
          exact hin (by simpa using h))
        clear hin
        go_region_held3 (fun w' => (w'.cell? ⟨rb, 0, none⟩ = some (.func (.func 59) #[] #[]) ∧ w'.cell? ⟨rb, 1, none⟩ = some (.int .i64 0) ∧ w'.cell? ⟨rb, 2, none⟩ = some (.int .i64 1000000000)) ∧ w'.cell? ⟨w.heap.size, 0, none⟩ = some (.int .i64 c.f) ∧ w'.cell? ⟨w.heap.size, 1, none⟩ = some (.int .i64 c.o) ∧ w'.cell? ⟨w.heap.size, 2, none⟩ = some (.int .i64 c.j) ∧ w'.cell? ⟨w.heap.size, 3, none⟩ = some (.int .i64 c.g) ∧ w'.cell? ⟨w.heap.size, 4, none⟩ = some (.int .i64 c.r) ∧ w'.cell? ⟨w.heap.size, 5, none⟩ = some (.int .i64 c.d) ∧ w'.cell? ⟨w.heap.size, 6, none⟩ = some (.int .i64 c.i))
          (first | exact HK.out _ hbA | exact HK.out _ hB0 | exact HK.out _ (Below.refl _ _))
          (first | (go_at_call 33; refine (HW.out _).mono ?_; rintro e w2 ⟨rfl, rfl⟩) | (go_at_call 59; refine (HRK.out _ hB0).mono ?_; rintro e wA ⟨rfl, hbA⟩))
        have HFB := Lib.hid ((HEX.out _ hbA).bel)
        go_wp2
        go_ret
        exact ⟨by rw [HNV.out]; rfl, HFB.out⟩
    · have HR := Lib.hid (fun W => rule_any c 3 (by decide) (by rintro h; omega) W)
      have r0 : wr.cell? ⟨g, 9, none⟩ = some (.func (.func 60) #[] #[]) := (HE.out.r 3 (by decide)).1
      have r1 : wr.cell? ⟨g, 10, none⟩ = some (.int .i64 1) := (HE.out.r 3 (by decide)).2.1
      have r2 : wr.cell? ⟨g, 11, none⟩ = some (.int .i64 1000000000) := (HE.out.r 3 (by decide)).2.2
      have hz := cell_lt r0
      obtain ⟨vk, hvk⟩ : ∃ vk, vk = ruleV c 3 := ⟨_, rfl⟩
      rw [← hvk] at HR
      have HRB := Lib.hid (show ruleB c 3 = (decide (1 ≤ vk) && decide (vk ≤ 1000000000)) by rw [hvk]; rfl)
      unfold cntVal at HR
      clear hvk hk
      go_upto_region 4 with fail
      have HK := Lib.hid (fun W (hb : Below (wr.alloc (.cells #[.func (.func 60) #[] #[], .int .i64 1, .int .i64 1000000000] 84)).heap.size (wr.alloc (.cells #[.func (.func 60) #[] #[], .int .i64 1, .int .i64 1000000000] 84)) W) => (show (W.cell? ⟨wr.heap.size, 0, none⟩ = some (.func (.func 60) #[] #[]) ∧ W.cell? ⟨wr.heap.size, 1, none⟩ = some (.int .i64 1) ∧ W.cell? ⟨wr.heap.size, 2, none⟩ = some (.int .i64 1000000000)) ∧ W.cell? ⟨w.heap.size, 0, none⟩ = some (.int .i64 c.f) ∧ W.cell? ⟨w.heap.size, 1, none⟩ = some (.int .i64 c.o) ∧ W.cell? ⟨w.heap.size, 2, none⟩ = some (.int .i64 c.j) ∧ W.cell? ⟨w.heap.size, 3, none⟩ = some (.int .i64 c.g) ∧ W.cell? ⟨w.heap.size, 4, none⟩ = some (.int .i64 c.r) ∧ W.cell? ⟨w.heap.size, 5, none⟩ = some (.int .i64 c.d) ∧ W.cell? ⟨w.heap.size, 6, none⟩ = some (.int .i64 c.i) from by
          have h := (HE.out.below (below_alloc (Below.refl _ _) (.cells #[.func (.func 60) #[] #[], .int .i64 1, .int .i64 1000000000] 84))).below hb
          exact ⟨⟨cell_below hb (by simp), cell_below hb (by simp), cell_below hb (by simp)⟩, h.b.c0, h.b.c1, h.b.c2, h.b.c3, h.b.c4, h.b.c5, h.b.c6⟩))
      have HEX := Lib.hid (fun W (hb : Below (wr.alloc (.cells #[.func (.func 60) #[] #[], .int .i64 1, .int .i64 1000000000] 84)).heap.size (wr.alloc (.cells #[.func (.func 60) #[] #[], .int .i64 1, .int .i64 1000000000] 84)) W) => (HE.out.below (below_alloc (Below.refl _ _) (.cells #[.func (.func 60) #[] #[], .int .i64 1, .int .i64 1000000000] 84))).below hb)
      clear r0 r1 r2 hz
      generalize wr.alloc (.cells #[.func (.func 60) #[] #[], .int .i64 1, .int .i64 1000000000] 84) = X at *
      generalize wr.heap.size = rb at *
      have HRK := Lib.hid (fun W (hb : Below X.heap.size X W) => (HR.out W).mono fun _ _ h => And.intro h.1 (hb.trans (h.2.mono hb.size)))
      have hB0 : Below X.heap.size X X.drew := Below.drew (Below.refl _ _)
      by_cases hin : 1 ≤ vk ∧ vk ≤ 1000000000
      · have HW := Lib.hid (fun W => within_yes vk 1 1000000000 W hin)
        have HNX := Lib.hid (show ∀ j, j < 4 → ruleB c j = true from fun j hj => by
          by_cases e : j = 3
          · subst e; rw [HRB.out]; simp [hin]
          · exact HP.out j (by omega))
        clear hin
        go_region_held3 (fun w' => (w'.cell? ⟨rb, 0, none⟩ = some (.func (.func 60) #[] #[]) ∧ w'.cell? ⟨rb, 1, none⟩ = some (.int .i64 1) ∧ w'.cell? ⟨rb, 2, none⟩ = some (.int .i64 1000000000)) ∧ w'.cell? ⟨w.heap.size, 0, none⟩ = some (.int .i64 c.f) ∧ w'.cell? ⟨w.heap.size, 1, none⟩ = some (.int .i64 c.o) ∧ w'.cell? ⟨w.heap.size, 2, none⟩ = some (.int .i64 c.j) ∧ w'.cell? ⟨w.heap.size, 3, none⟩ = some (.int .i64 c.g) ∧ w'.cell? ⟨w.heap.size, 4, none⟩ = some (.int .i64 c.r) ∧ w'.cell? ⟨w.heap.size, 5, none⟩ = some (.int .i64 c.d) ∧ w'.cell? ⟨w.heap.size, 6, none⟩ = some (.int .i64 c.i))
          (first | exact HK.out _ hbA | exact HK.out _ hB0 | exact HK.out _ (Below.refl _ _))
          (first | (go_at_call 33; refine (HW.out _).mono ?_; rintro e w2 ⟨rfl, rfl⟩) | (go_at_call 60; refine (HRK.out _ hB0).mono ?_; rintro e wA ⟨rfl, hbA⟩))
        go_wp2
        go_roundw
        case rel => exact ⟨4, by omega, rfl, HNX, Lib.hid (HEX.out _ hbA)⟩
        case measure => simp [intOf]
      · have HW := Lib.hid (fun W => within_no vk 1 1000000000 W hin)
        have HNV := Lib.hid (show V = 30 by
          rw [HV.out]
          unfold checkC
          rw [if_neg]
          intro hc
          have h := List.all_eq_true.1 hc 3 (by simp)
          rw [HRB.out] at h
          exact hin (by simpa using h))
        clear hin
        go_region_held3 (fun w' => (w'.cell? ⟨rb, 0, none⟩ = some (.func (.func 60) #[] #[]) ∧ w'.cell? ⟨rb, 1, none⟩ = some (.int .i64 1) ∧ w'.cell? ⟨rb, 2, none⟩ = some (.int .i64 1000000000)) ∧ w'.cell? ⟨w.heap.size, 0, none⟩ = some (.int .i64 c.f) ∧ w'.cell? ⟨w.heap.size, 1, none⟩ = some (.int .i64 c.o) ∧ w'.cell? ⟨w.heap.size, 2, none⟩ = some (.int .i64 c.j) ∧ w'.cell? ⟨w.heap.size, 3, none⟩ = some (.int .i64 c.g) ∧ w'.cell? ⟨w.heap.size, 4, none⟩ = some (.int .i64 c.r) ∧ w'.cell? ⟨w.heap.size, 5, none⟩ = some (.int .i64 c.d) ∧ w'.cell? ⟨w.heap.size, 6, none⟩ = some (.int .i64 c.i))
          (first | exact HK.out _ hbA | exact HK.out _ hB0 | exact HK.out _ (Below.refl _ _))
          (first | (go_at_call 33; refine (HW.out _).mono ?_; rintro e w2 ⟨rfl, rfl⟩) | (go_at_call 60; refine (HRK.out _ hB0).mono ?_; rintro e wA ⟨rfl, hbA⟩))
        have HFB := Lib.hid ((HEX.out _ hbA).bel)
        go_wp2
        go_ret
        exact ⟨by rw [HNV.out]; rfl, HFB.out⟩
    · have HR := Lib.hid (fun W => rule_any c 4 (by decide) (by rintro h; omega) W)
      have r0 : wr.cell? ⟨g, 12, none⟩ = some (.func (.func 61) #[] #[]) := (HE.out.r 4 (by decide)).1
      have r1 : wr.cell? ⟨g, 13, none⟩ = some (.int .i64 1) := (HE.out.r 4 (by decide)).2.1
      have r2 : wr.cell? ⟨g, 14, none⟩ = some (.int .i64 1000000000000000) := (HE.out.r 4 (by decide)).2.2
      have hz := cell_lt r0
      obtain ⟨vk, hvk⟩ : ∃ vk, vk = ruleV c 4 := ⟨_, rfl⟩
      rw [← hvk] at HR
      have HRB := Lib.hid (show ruleB c 4 = (decide (1 ≤ vk) && decide (vk ≤ 1000000000000000)) by rw [hvk]; rfl)
      unfold cntVal at HR
      clear hvk hk
      go_upto_region 4 with fail
      have HK := Lib.hid (fun W (hb : Below (wr.alloc (.cells #[.func (.func 61) #[] #[], .int .i64 1, .int .i64 1000000000000000] 84)).heap.size (wr.alloc (.cells #[.func (.func 61) #[] #[], .int .i64 1, .int .i64 1000000000000000] 84)) W) => (show (W.cell? ⟨wr.heap.size, 0, none⟩ = some (.func (.func 61) #[] #[]) ∧ W.cell? ⟨wr.heap.size, 1, none⟩ = some (.int .i64 1) ∧ W.cell? ⟨wr.heap.size, 2, none⟩ = some (.int .i64 1000000000000000)) ∧ W.cell? ⟨w.heap.size, 0, none⟩ = some (.int .i64 c.f) ∧ W.cell? ⟨w.heap.size, 1, none⟩ = some (.int .i64 c.o) ∧ W.cell? ⟨w.heap.size, 2, none⟩ = some (.int .i64 c.j) ∧ W.cell? ⟨w.heap.size, 3, none⟩ = some (.int .i64 c.g) ∧ W.cell? ⟨w.heap.size, 4, none⟩ = some (.int .i64 c.r) ∧ W.cell? ⟨w.heap.size, 5, none⟩ = some (.int .i64 c.d) ∧ W.cell? ⟨w.heap.size, 6, none⟩ = some (.int .i64 c.i) from by
          have h := (HE.out.below (below_alloc (Below.refl _ _) (.cells #[.func (.func 61) #[] #[], .int .i64 1, .int .i64 1000000000000000] 84))).below hb
          exact ⟨⟨cell_below hb (by simp), cell_below hb (by simp), cell_below hb (by simp)⟩, h.b.c0, h.b.c1, h.b.c2, h.b.c3, h.b.c4, h.b.c5, h.b.c6⟩))
      have HEX := Lib.hid (fun W (hb : Below (wr.alloc (.cells #[.func (.func 61) #[] #[], .int .i64 1, .int .i64 1000000000000000] 84)).heap.size (wr.alloc (.cells #[.func (.func 61) #[] #[], .int .i64 1, .int .i64 1000000000000000] 84)) W) => (HE.out.below (below_alloc (Below.refl _ _) (.cells #[.func (.func 61) #[] #[], .int .i64 1, .int .i64 1000000000000000] 84))).below hb)
      clear r0 r1 r2 hz
      generalize wr.alloc (.cells #[.func (.func 61) #[] #[], .int .i64 1, .int .i64 1000000000000000] 84) = X at *
      generalize wr.heap.size = rb at *
      have HRK := Lib.hid (fun W (hb : Below X.heap.size X W) => (HR.out W).mono fun _ _ h => And.intro h.1 (hb.trans (h.2.mono hb.size)))
      have hB0 : Below X.heap.size X X.drew := Below.drew (Below.refl _ _)
      by_cases hin : 1 ≤ vk ∧ vk ≤ 1000000000000000
      · have HW := Lib.hid (fun W => within_yes vk 1 1000000000000000 W hin)
        have HNX := Lib.hid (show ∀ j, j < 5 → ruleB c j = true from fun j hj => by
          by_cases e : j = 4
          · subst e; rw [HRB.out]; simp [hin]
          · exact HP.out j (by omega))
        clear hin
        go_region_held3 (fun w' => (w'.cell? ⟨rb, 0, none⟩ = some (.func (.func 61) #[] #[]) ∧ w'.cell? ⟨rb, 1, none⟩ = some (.int .i64 1) ∧ w'.cell? ⟨rb, 2, none⟩ = some (.int .i64 1000000000000000)) ∧ w'.cell? ⟨w.heap.size, 0, none⟩ = some (.int .i64 c.f) ∧ w'.cell? ⟨w.heap.size, 1, none⟩ = some (.int .i64 c.o) ∧ w'.cell? ⟨w.heap.size, 2, none⟩ = some (.int .i64 c.j) ∧ w'.cell? ⟨w.heap.size, 3, none⟩ = some (.int .i64 c.g) ∧ w'.cell? ⟨w.heap.size, 4, none⟩ = some (.int .i64 c.r) ∧ w'.cell? ⟨w.heap.size, 5, none⟩ = some (.int .i64 c.d) ∧ w'.cell? ⟨w.heap.size, 6, none⟩ = some (.int .i64 c.i))
          (first | exact HK.out _ hbA | exact HK.out _ hB0 | exact HK.out _ (Below.refl _ _))
          (first | (go_at_call 33; refine (HW.out _).mono ?_; rintro e w2 ⟨rfl, rfl⟩) | (go_at_call 61; refine (HRK.out _ hB0).mono ?_; rintro e wA ⟨rfl, hbA⟩))
        go_wp2
        go_roundw
        case rel => exact ⟨5, by omega, rfl, HNX, Lib.hid (HEX.out _ hbA)⟩
        case measure => simp [intOf]
      · have HW := Lib.hid (fun W => within_no vk 1 1000000000000000 W hin)
        have HNV := Lib.hid (show V = 30 by
          rw [HV.out]
          unfold checkC
          rw [if_neg]
          intro hc
          have h := List.all_eq_true.1 hc 4 (by simp)
          rw [HRB.out] at h
          exact hin (by simpa using h))
        clear hin
        go_region_held3 (fun w' => (w'.cell? ⟨rb, 0, none⟩ = some (.func (.func 61) #[] #[]) ∧ w'.cell? ⟨rb, 1, none⟩ = some (.int .i64 1) ∧ w'.cell? ⟨rb, 2, none⟩ = some (.int .i64 1000000000000000)) ∧ w'.cell? ⟨w.heap.size, 0, none⟩ = some (.int .i64 c.f) ∧ w'.cell? ⟨w.heap.size, 1, none⟩ = some (.int .i64 c.o) ∧ w'.cell? ⟨w.heap.size, 2, none⟩ = some (.int .i64 c.j) ∧ w'.cell? ⟨w.heap.size, 3, none⟩ = some (.int .i64 c.g) ∧ w'.cell? ⟨w.heap.size, 4, none⟩ = some (.int .i64 c.r) ∧ w'.cell? ⟨w.heap.size, 5, none⟩ = some (.int .i64 c.d) ∧ w'.cell? ⟨w.heap.size, 6, none⟩ = some (.int .i64 c.i))
          (first | exact HK.out _ hbA | exact HK.out _ hB0 | exact HK.out _ (Below.refl _ _))
          (first | (go_at_call 33; refine (HW.out _).mono ?_; rintro e w2 ⟨rfl, rfl⟩) | (go_at_call 61; refine (HRK.out _ hB0).mono ?_; rintro e wA ⟨rfl, hbA⟩))
        have HFB := Lib.hid ((HEX.out _ hbA).bel)
        go_wp2
        go_ret
        exact ⟨by rw [HNV.out]; rfl, HFB.out⟩
    · have HR := Lib.hid (fun W => rule_any c 5 (by decide) (fun _ => by have h3 := HP.out 3 (by decide); have h4 := HP.out 4 (by decide); simp only [ruleB, ruleLo, ruleV, ruleHi, Bool.and_eq_true, decide_eq_true_eq] at h3 h4; exact ⟨h3, h4⟩) W)
      have r0 : wr.cell? ⟨g, 15, none⟩ = some (.func (.func 62) #[] #[]) := (HE.out.r 5 (by decide)).1
      have r1 : wr.cell? ⟨g, 16, none⟩ = some (.int .i64 0) := (HE.out.r 5 (by decide)).2.1
      have r2 : wr.cell? ⟨g, 17, none⟩ = some (.int .i64 0) := (HE.out.r 5 (by decide)).2.2
      have hz := cell_lt r0
      obtain ⟨vk, hvk⟩ : ∃ vk, vk = ruleV c 5 := ⟨_, rfl⟩
      rw [← hvk] at HR
      have HRB := Lib.hid (show ruleB c 5 = (decide (0 ≤ vk) && decide (vk ≤ 0)) by rw [hvk]; rfl)
      unfold cntVal at HR
      clear hvk hk
      go_upto_region 4 with fail
      have HK := Lib.hid (fun W (hb : Below (wr.alloc (.cells #[.func (.func 62) #[] #[], .int .i64 0, .int .i64 0] 84)).heap.size (wr.alloc (.cells #[.func (.func 62) #[] #[], .int .i64 0, .int .i64 0] 84)) W) => (show (W.cell? ⟨wr.heap.size, 0, none⟩ = some (.func (.func 62) #[] #[]) ∧ W.cell? ⟨wr.heap.size, 1, none⟩ = some (.int .i64 0) ∧ W.cell? ⟨wr.heap.size, 2, none⟩ = some (.int .i64 0)) ∧ W.cell? ⟨w.heap.size, 0, none⟩ = some (.int .i64 c.f) ∧ W.cell? ⟨w.heap.size, 1, none⟩ = some (.int .i64 c.o) ∧ W.cell? ⟨w.heap.size, 2, none⟩ = some (.int .i64 c.j) ∧ W.cell? ⟨w.heap.size, 3, none⟩ = some (.int .i64 c.g) ∧ W.cell? ⟨w.heap.size, 4, none⟩ = some (.int .i64 c.r) ∧ W.cell? ⟨w.heap.size, 5, none⟩ = some (.int .i64 c.d) ∧ W.cell? ⟨w.heap.size, 6, none⟩ = some (.int .i64 c.i) from by
          have h := (HE.out.below (below_alloc (Below.refl _ _) (.cells #[.func (.func 62) #[] #[], .int .i64 0, .int .i64 0] 84))).below hb
          exact ⟨⟨cell_below hb (by simp), cell_below hb (by simp), cell_below hb (by simp)⟩, h.b.c0, h.b.c1, h.b.c2, h.b.c3, h.b.c4, h.b.c5, h.b.c6⟩))
      have HEX := Lib.hid (fun W (hb : Below (wr.alloc (.cells #[.func (.func 62) #[] #[], .int .i64 0, .int .i64 0] 84)).heap.size (wr.alloc (.cells #[.func (.func 62) #[] #[], .int .i64 0, .int .i64 0] 84)) W) => (HE.out.below (below_alloc (Below.refl _ _) (.cells #[.func (.func 62) #[] #[], .int .i64 0, .int .i64 0] 84))).below hb)
      clear r0 r1 r2 hz
      generalize wr.alloc (.cells #[.func (.func 62) #[] #[], .int .i64 0, .int .i64 0] 84) = X at *
      generalize wr.heap.size = rb at *
      have HRK := Lib.hid (fun W (hb : Below X.heap.size X W) => (HR.out W).mono fun _ _ h => And.intro h.1 (hb.trans (h.2.mono hb.size)))
      have hB0 : Below X.heap.size X X.drew := Below.drew (Below.refl _ _)
      by_cases hin : 0 ≤ vk ∧ vk ≤ 0
      · have HW := Lib.hid (fun W => within_yes vk 0 0 W hin)
        have HNX := Lib.hid (show ∀ j, j < 6 → ruleB c j = true from fun j hj => by
          by_cases e : j = 5
          · subst e; rw [HRB.out]; simp [hin]
          · exact HP.out j (by omega))
        clear hin
        go_region_held3 (fun w' => (w'.cell? ⟨rb, 0, none⟩ = some (.func (.func 62) #[] #[]) ∧ w'.cell? ⟨rb, 1, none⟩ = some (.int .i64 0) ∧ w'.cell? ⟨rb, 2, none⟩ = some (.int .i64 0)) ∧ w'.cell? ⟨w.heap.size, 0, none⟩ = some (.int .i64 c.f) ∧ w'.cell? ⟨w.heap.size, 1, none⟩ = some (.int .i64 c.o) ∧ w'.cell? ⟨w.heap.size, 2, none⟩ = some (.int .i64 c.j) ∧ w'.cell? ⟨w.heap.size, 3, none⟩ = some (.int .i64 c.g) ∧ w'.cell? ⟨w.heap.size, 4, none⟩ = some (.int .i64 c.r) ∧ w'.cell? ⟨w.heap.size, 5, none⟩ = some (.int .i64 c.d) ∧ w'.cell? ⟨w.heap.size, 6, none⟩ = some (.int .i64 c.i))
          (first | exact HK.out _ hbA | exact HK.out _ hB0 | exact HK.out _ (Below.refl _ _))
          (first | (go_at_call 33; refine (HW.out _).mono ?_; rintro e w2 ⟨rfl, rfl⟩) | (go_at_call 62; refine (HRK.out _ hB0).mono ?_; rintro e wA ⟨rfl, hbA⟩))
        go_wp2
        go_roundw
        case rel => exact ⟨6, by omega, rfl, HNX, Lib.hid (HEX.out _ hbA)⟩
        case measure => simp [intOf]
      · have HW := Lib.hid (fun W => within_no vk 0 0 W hin)
        have HNV := Lib.hid (show V = 30 by
          rw [HV.out]
          unfold checkC
          rw [if_neg]
          intro hc
          have h := List.all_eq_true.1 hc 5 (by simp)
          rw [HRB.out] at h
          exact hin (by simpa using h))
        clear hin
        go_region_held3 (fun w' => (w'.cell? ⟨rb, 0, none⟩ = some (.func (.func 62) #[] #[]) ∧ w'.cell? ⟨rb, 1, none⟩ = some (.int .i64 0) ∧ w'.cell? ⟨rb, 2, none⟩ = some (.int .i64 0)) ∧ w'.cell? ⟨w.heap.size, 0, none⟩ = some (.int .i64 c.f) ∧ w'.cell? ⟨w.heap.size, 1, none⟩ = some (.int .i64 c.o) ∧ w'.cell? ⟨w.heap.size, 2, none⟩ = some (.int .i64 c.j) ∧ w'.cell? ⟨w.heap.size, 3, none⟩ = some (.int .i64 c.g) ∧ w'.cell? ⟨w.heap.size, 4, none⟩ = some (.int .i64 c.r) ∧ w'.cell? ⟨w.heap.size, 5, none⟩ = some (.int .i64 c.d) ∧ w'.cell? ⟨w.heap.size, 6, none⟩ = some (.int .i64 c.i))
          (first | exact HK.out _ hbA | exact HK.out _ hB0 | exact HK.out _ (Below.refl _ _))
          (first | (go_at_call 33; refine (HW.out _).mono ?_; rintro e w2 ⟨rfl, rfl⟩) | (go_at_call 62; refine (HRK.out _ hB0).mono ?_; rintro e wA ⟨rfl, hbA⟩))
        have HFB := Lib.hid ((HEX.out _ hbA).bel)
        go_wp2
        go_ret
        exact ⟨by rw [HNV.out]; rfl, HFB.out⟩
    · have HR := Lib.hid (fun W => rule_any c 6 (by decide) (by rintro h; omega) W)
      have r0 : wr.cell? ⟨g, 18, none⟩ = some (.func (.func 63) #[] #[]) := (HE.out.r 6 (by decide)).1
      have r1 : wr.cell? ⟨g, 19, none⟩ = some (.int .i64 1) := (HE.out.r 6 (by decide)).2.1
      have r2 : wr.cell? ⟨g, 20, none⟩ = some (.int .i64 100000) := (HE.out.r 6 (by decide)).2.2
      have hz := cell_lt r0
      obtain ⟨vk, hvk⟩ : ∃ vk, vk = ruleV c 6 := ⟨_, rfl⟩
      rw [← hvk] at HR
      have HRB := Lib.hid (show ruleB c 6 = (decide (1 ≤ vk) && decide (vk ≤ 100000)) by rw [hvk]; rfl)
      unfold cntVal at HR
      clear hvk hk
      go_upto_region 4 with fail
      have HK := Lib.hid (fun W (hb : Below (wr.alloc (.cells #[.func (.func 63) #[] #[], .int .i64 1, .int .i64 100000] 84)).heap.size (wr.alloc (.cells #[.func (.func 63) #[] #[], .int .i64 1, .int .i64 100000] 84)) W) => (show (W.cell? ⟨wr.heap.size, 0, none⟩ = some (.func (.func 63) #[] #[]) ∧ W.cell? ⟨wr.heap.size, 1, none⟩ = some (.int .i64 1) ∧ W.cell? ⟨wr.heap.size, 2, none⟩ = some (.int .i64 100000)) ∧ W.cell? ⟨w.heap.size, 0, none⟩ = some (.int .i64 c.f) ∧ W.cell? ⟨w.heap.size, 1, none⟩ = some (.int .i64 c.o) ∧ W.cell? ⟨w.heap.size, 2, none⟩ = some (.int .i64 c.j) ∧ W.cell? ⟨w.heap.size, 3, none⟩ = some (.int .i64 c.g) ∧ W.cell? ⟨w.heap.size, 4, none⟩ = some (.int .i64 c.r) ∧ W.cell? ⟨w.heap.size, 5, none⟩ = some (.int .i64 c.d) ∧ W.cell? ⟨w.heap.size, 6, none⟩ = some (.int .i64 c.i) from by
          have h := (HE.out.below (below_alloc (Below.refl _ _) (.cells #[.func (.func 63) #[] #[], .int .i64 1, .int .i64 100000] 84))).below hb
          exact ⟨⟨cell_below hb (by simp), cell_below hb (by simp), cell_below hb (by simp)⟩, h.b.c0, h.b.c1, h.b.c2, h.b.c3, h.b.c4, h.b.c5, h.b.c6⟩))
      have HEX := Lib.hid (fun W (hb : Below (wr.alloc (.cells #[.func (.func 63) #[] #[], .int .i64 1, .int .i64 100000] 84)).heap.size (wr.alloc (.cells #[.func (.func 63) #[] #[], .int .i64 1, .int .i64 100000] 84)) W) => (HE.out.below (below_alloc (Below.refl _ _) (.cells #[.func (.func 63) #[] #[], .int .i64 1, .int .i64 100000] 84))).below hb)
      clear r0 r1 r2 hz
      generalize wr.alloc (.cells #[.func (.func 63) #[] #[], .int .i64 1, .int .i64 100000] 84) = X at *
      generalize wr.heap.size = rb at *
      have HRK := Lib.hid (fun W (hb : Below X.heap.size X W) => (HR.out W).mono fun _ _ h => And.intro h.1 (hb.trans (h.2.mono hb.size)))
      have hB0 : Below X.heap.size X X.drew := Below.drew (Below.refl _ _)
      by_cases hin : 1 ≤ vk ∧ vk ≤ 100000
      · have HW := Lib.hid (fun W => within_yes vk 1 100000 W hin)
        have HNX := Lib.hid (show ∀ j, j < 7 → ruleB c j = true from fun j hj => by
          by_cases e : j = 6
          · subst e; rw [HRB.out]; simp [hin]
          · exact HP.out j (by omega))
        clear hin
        go_region_held3 (fun w' => (w'.cell? ⟨rb, 0, none⟩ = some (.func (.func 63) #[] #[]) ∧ w'.cell? ⟨rb, 1, none⟩ = some (.int .i64 1) ∧ w'.cell? ⟨rb, 2, none⟩ = some (.int .i64 100000)) ∧ w'.cell? ⟨w.heap.size, 0, none⟩ = some (.int .i64 c.f) ∧ w'.cell? ⟨w.heap.size, 1, none⟩ = some (.int .i64 c.o) ∧ w'.cell? ⟨w.heap.size, 2, none⟩ = some (.int .i64 c.j) ∧ w'.cell? ⟨w.heap.size, 3, none⟩ = some (.int .i64 c.g) ∧ w'.cell? ⟨w.heap.size, 4, none⟩ = some (.int .i64 c.r) ∧ w'.cell? ⟨w.heap.size, 5, none⟩ = some (.int .i64 c.d) ∧ w'.cell? ⟨w.heap.size, 6, none⟩ = some (.int .i64 c.i))
          (first | exact HK.out _ hbA | exact HK.out _ hB0 | exact HK.out _ (Below.refl _ _))
          (first | (go_at_call 33; refine (HW.out _).mono ?_; rintro e w2 ⟨rfl, rfl⟩) | (go_at_call 63; refine (HRK.out _ hB0).mono ?_; rintro e wA ⟨rfl, hbA⟩))
        go_wp2
        go_roundw
        case rel => exact ⟨7, by omega, rfl, HNX, Lib.hid (HEX.out _ hbA)⟩
        case measure => simp [intOf]
      · have HW := Lib.hid (fun W => within_no vk 1 100000 W hin)
        have HNV := Lib.hid (show V = 30 by
          rw [HV.out]
          unfold checkC
          rw [if_neg]
          intro hc
          have h := List.all_eq_true.1 hc 6 (by simp)
          rw [HRB.out] at h
          exact hin (by simpa using h))
        clear hin
        go_region_held3 (fun w' => (w'.cell? ⟨rb, 0, none⟩ = some (.func (.func 63) #[] #[]) ∧ w'.cell? ⟨rb, 1, none⟩ = some (.int .i64 1) ∧ w'.cell? ⟨rb, 2, none⟩ = some (.int .i64 100000)) ∧ w'.cell? ⟨w.heap.size, 0, none⟩ = some (.int .i64 c.f) ∧ w'.cell? ⟨w.heap.size, 1, none⟩ = some (.int .i64 c.o) ∧ w'.cell? ⟨w.heap.size, 2, none⟩ = some (.int .i64 c.j) ∧ w'.cell? ⟨w.heap.size, 3, none⟩ = some (.int .i64 c.g) ∧ w'.cell? ⟨w.heap.size, 4, none⟩ = some (.int .i64 c.r) ∧ w'.cell? ⟨w.heap.size, 5, none⟩ = some (.int .i64 c.d) ∧ w'.cell? ⟨w.heap.size, 6, none⟩ = some (.int .i64 c.i))
          (first | exact HK.out _ hbA | exact HK.out _ hB0 | exact HK.out _ (Below.refl _ _))
          (first | (go_at_call 33; refine (HW.out _).mono ?_; rintro e w2 ⟨rfl, rfl⟩) | (go_at_call 63; refine (HRK.out _ hB0).mono ?_; rintro e wA ⟨rfl, hbA⟩))
        have HFB := Lib.hid ((HEX.out _ hbA).bel)
        go_wp2
        go_ret
        exact ⟨by rw [HNV.out]; rfl, HFB.out⟩
    · have HR := Lib.hid (fun W => rule_any c 7 (by decide) (by rintro h; omega) W)
      have r0 : wr.cell? ⟨g, 21, none⟩ = some (.func (.func 64) #[] #[]) := (HE.out.r 7 (by decide)).1
      have r1 : wr.cell? ⟨g, 22, none⟩ = some (.int .i64 0) := (HE.out.r 7 (by decide)).2.1
      have r2 : wr.cell? ⟨g, 23, none⟩ = some (.int .i64 1000000) := (HE.out.r 7 (by decide)).2.2
      have hz := cell_lt r0
      obtain ⟨vk, hvk⟩ : ∃ vk, vk = ruleV c 7 := ⟨_, rfl⟩
      rw [← hvk] at HR
      have HRB := Lib.hid (show ruleB c 7 = (decide (0 ≤ vk) && decide (vk ≤ 1000000)) by rw [hvk]; rfl)
      unfold cntVal at HR
      clear hvk hk
      go_upto_region 4 with fail
      have HK := Lib.hid (fun W (hb : Below (wr.alloc (.cells #[.func (.func 64) #[] #[], .int .i64 0, .int .i64 1000000] 84)).heap.size (wr.alloc (.cells #[.func (.func 64) #[] #[], .int .i64 0, .int .i64 1000000] 84)) W) => (show (W.cell? ⟨wr.heap.size, 0, none⟩ = some (.func (.func 64) #[] #[]) ∧ W.cell? ⟨wr.heap.size, 1, none⟩ = some (.int .i64 0) ∧ W.cell? ⟨wr.heap.size, 2, none⟩ = some (.int .i64 1000000)) ∧ W.cell? ⟨w.heap.size, 0, none⟩ = some (.int .i64 c.f) ∧ W.cell? ⟨w.heap.size, 1, none⟩ = some (.int .i64 c.o) ∧ W.cell? ⟨w.heap.size, 2, none⟩ = some (.int .i64 c.j) ∧ W.cell? ⟨w.heap.size, 3, none⟩ = some (.int .i64 c.g) ∧ W.cell? ⟨w.heap.size, 4, none⟩ = some (.int .i64 c.r) ∧ W.cell? ⟨w.heap.size, 5, none⟩ = some (.int .i64 c.d) ∧ W.cell? ⟨w.heap.size, 6, none⟩ = some (.int .i64 c.i) from by
          have h := (HE.out.below (below_alloc (Below.refl _ _) (.cells #[.func (.func 64) #[] #[], .int .i64 0, .int .i64 1000000] 84))).below hb
          exact ⟨⟨cell_below hb (by simp), cell_below hb (by simp), cell_below hb (by simp)⟩, h.b.c0, h.b.c1, h.b.c2, h.b.c3, h.b.c4, h.b.c5, h.b.c6⟩))
      have HEX := Lib.hid (fun W (hb : Below (wr.alloc (.cells #[.func (.func 64) #[] #[], .int .i64 0, .int .i64 1000000] 84)).heap.size (wr.alloc (.cells #[.func (.func 64) #[] #[], .int .i64 0, .int .i64 1000000] 84)) W) => (HE.out.below (below_alloc (Below.refl _ _) (.cells #[.func (.func 64) #[] #[], .int .i64 0, .int .i64 1000000] 84))).below hb)
      clear r0 r1 r2 hz
      generalize wr.alloc (.cells #[.func (.func 64) #[] #[], .int .i64 0, .int .i64 1000000] 84) = X at *
      generalize wr.heap.size = rb at *
      have HRK := Lib.hid (fun W (hb : Below X.heap.size X W) => (HR.out W).mono fun _ _ h => And.intro h.1 (hb.trans (h.2.mono hb.size)))
      have hB0 : Below X.heap.size X X.drew := Below.drew (Below.refl _ _)
      by_cases hin : 0 ≤ vk ∧ vk ≤ 1000000
      · have HW := Lib.hid (fun W => within_yes vk 0 1000000 W hin)
        have HNX := Lib.hid (show ∀ j, j < 8 → ruleB c j = true from fun j hj => by
          by_cases e : j = 7
          · subst e; rw [HRB.out]; simp [hin]
          · exact HP.out j (by omega))
        clear hin
        go_region_held3 (fun w' => (w'.cell? ⟨rb, 0, none⟩ = some (.func (.func 64) #[] #[]) ∧ w'.cell? ⟨rb, 1, none⟩ = some (.int .i64 0) ∧ w'.cell? ⟨rb, 2, none⟩ = some (.int .i64 1000000)) ∧ w'.cell? ⟨w.heap.size, 0, none⟩ = some (.int .i64 c.f) ∧ w'.cell? ⟨w.heap.size, 1, none⟩ = some (.int .i64 c.o) ∧ w'.cell? ⟨w.heap.size, 2, none⟩ = some (.int .i64 c.j) ∧ w'.cell? ⟨w.heap.size, 3, none⟩ = some (.int .i64 c.g) ∧ w'.cell? ⟨w.heap.size, 4, none⟩ = some (.int .i64 c.r) ∧ w'.cell? ⟨w.heap.size, 5, none⟩ = some (.int .i64 c.d) ∧ w'.cell? ⟨w.heap.size, 6, none⟩ = some (.int .i64 c.i))
          (first | exact HK.out _ hbA | exact HK.out _ hB0 | exact HK.out _ (Below.refl _ _))
          (first | (go_at_call 33; refine (HW.out _).mono ?_; rintro e w2 ⟨rfl, rfl⟩) | (go_at_call 64; refine (HRK.out _ hB0).mono ?_; rintro e wA ⟨rfl, hbA⟩))
        go_wp2
        go_roundw
        case rel => exact ⟨8, by omega, rfl, HNX, Lib.hid (HEX.out _ hbA)⟩
        case measure => simp [intOf]
      · have HW := Lib.hid (fun W => within_no vk 0 1000000 W hin)
        have HNV := Lib.hid (show V = 30 by
          rw [HV.out]
          unfold checkC
          rw [if_neg]
          intro hc
          have h := List.all_eq_true.1 hc 7 (by simp)
          rw [HRB.out] at h
          exact hin (by simpa using h))
        clear hin
        go_region_held3 (fun w' => (w'.cell? ⟨rb, 0, none⟩ = some (.func (.func 64) #[] #[]) ∧ w'.cell? ⟨rb, 1, none⟩ = some (.int .i64 0) ∧ w'.cell? ⟨rb, 2, none⟩ = some (.int .i64 1000000)) ∧ w'.cell? ⟨w.heap.size, 0, none⟩ = some (.int .i64 c.f) ∧ w'.cell? ⟨w.heap.size, 1, none⟩ = some (.int .i64 c.o) ∧ w'.cell? ⟨w.heap.size, 2, none⟩ = some (.int .i64 c.j) ∧ w'.cell? ⟨w.heap.size, 3, none⟩ = some (.int .i64 c.g) ∧ w'.cell? ⟨w.heap.size, 4, none⟩ = some (.int .i64 c.r) ∧ w'.cell? ⟨w.heap.size, 5, none⟩ = some (.int .i64 c.d) ∧ w'.cell? ⟨w.heap.size, 6, none⟩ = some (.int .i64 c.i))
          (first | exact HK.out _ hbA | exact HK.out _ hB0 | exact HK.out _ (Below.refl _ _))
          (first | (go_at_call 33; refine (HW.out _).mono ?_; rintro e w2 ⟨rfl, rfl⟩) | (go_at_call 64; refine (HRK.out _ hB0).mono ?_; rintro e wA ⟨rfl, hbA⟩))
        have HFB := Lib.hid ((HEX.out _ hbA).bel)
        go_wp2
        go_ret
        exact ⟨by rw [HNV.out]; rfl, HFB.out⟩
    · have HNV := Lib.hid (show V = 0 by
        rw [HV.out]
        unfold checkC
        rw [if_pos]
        exact List.all_eq_true.2 fun j hj => HP.out j (by simpa using hj))
      have HFB := Lib.hid HE.out.bel
      clear hk
      go_wp2
      go_ret
      exact ⟨by rw [HNV.out]; rfl, HFB.out⟩
end Go.Proofs.Ytlelamjbfjneiaa.Ct
