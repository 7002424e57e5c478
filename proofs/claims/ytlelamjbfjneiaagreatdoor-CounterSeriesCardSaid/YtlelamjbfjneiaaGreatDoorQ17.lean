/- Contracts of layer 2: Resolve. · Plain facts of layer 2: what Resolve says of what Show shows; what is shown is near. · Layer 2, the reference (meridianref02): the small functions. · Layer 2, the reference: what its Resolve finds, told plainly. -/
import Derived.Test.YtlelamjbfjneiaaGreatDoorQ14
import Derived.Test.YtlelamjbfjneiaaGreatDoorQ16
namespace Go.Proofs.YtlelamjbfjneiaaGreatDoor.Ct
open Go Go.RowKit Go.Shelf
attribute [local go_sem] Oper.semAt_some
theorem showB_bd {c : Cnt} (h : CntIn c) {m : Int} (hs : showB c m = true) : -1000000000000000 ≤ m ∧ m ≤ 1000000000000000 := by
  unfold showB at hs
  simp only [Bool.and_eq_true, decide_eq_true_eq] at hs
  have hr := h.r
  omega
theorem resolve_any (c : Cnt) (m lo hi : Int) (w : World) (h : CntIn c) :
    Calls Tryz.prog 39 #[cntVal c, .int .i64 m, .agg #[.int .i64 lo, .int .i64 hi]] w fun e w' => e = .returned (resVal (resS c m lo hi)) ∧ Below w.heap.size w w' := by
  unfold resS
  by_cases hno : (showB c m && inDiff lo && inDiff hi) = true
  · have hall := hno
    simp only [Bool.and_eq_true] at hall
    obtain ⟨⟨hs, hl⟩, hh⟩ := hall
    rw [if_pos hno]
    by_cases hlt : hi < lo
    · rw [if_pos hlt]; exact resolve_arg c m lo hi w h hs hl hh hlt
    · rw [if_neg hlt]; exact resolve_yes c m lo hi w h hs hl hh hlt (showB_bd h hs)
  · rw [if_neg hno]; exact resolve_no c m lo hi w h (by simpa using hno)
def resolveS (c : Cnt) (m lo hi : Int) : (Int × Int) × Int := if cntB c = true then resS c m lo hi else ((0, 0), 30)
/-- the boxes of Resolve -/
structure RsvIn (X : World) (b : Nat) (c : Cnt) (lo hi : Int) : Prop where
  cb : CBox X b c
  s : SpBox X (b + 1) lo hi
  r : SpBox X (b + 1 + 1) 0 0
  f0 : X.frozen? ⟨b + 1 + 1, 0, none⟩ = false
  f1 : X.frozen? ⟨b + 1 + 1, 1, none⟩ = false
theorem RsvIn.below {X Y : World} {b : Nat} {c : Cnt} {lo hi : Int} (h : RsvIn X b c lo hi) (hb : Below X.heap.size X Y) : RsvIn Y b c lo hi :=
  ⟨h.cb.below hb, h.s.below hb, h.r.below hb, (hb.frozen (p := ⟨b + 1 + 1, 0, none⟩) (cell_lt h.r.1)).trans h.f0, (hb.frozen (p := ⟨b + 1 + 1, 1, none⟩) (cell_lt h.r.1)).trans h.f1⟩
def rsvW (w : World) (c : Cnt) (lo hi : Int) : World := ((w.alloc (cntObj c)).alloc (.cells #[.int .i64 lo, .int .i64 hi] 31)).alloc (.cells #[.int .i64 0, .int .i64 0] 31)
theorem rsvIn_new (w : World) (c : Cnt) (lo hi : Int) : RsvIn (rsvW w c lo hi) w.heap.size c lo hi ∧ Below w.heap.size w (rsvW w c lo hi) := by
  have e1 : (w.alloc (cntObj c)).heap.size = w.heap.size + 1 := by simp
  have e2 : ∀ v, ((w.alloc (cntObj c)).alloc v).heap.size = w.heap.size + 1 + 1 := by simp
  have k : ∀ (X : World) (x y : Int) (t : TypeId), (X.alloc (.cells #[.int .i64 x, .int .i64 y] t)).frozen? ⟨X.heap.size, 0, none⟩ = false ∧ (X.alloc (.cells #[.int .i64 x, .int .i64 y] t)).frozen? ⟨X.heap.size, 1, none⟩ = false := fun X x y t => ⟨by simp, by simp⟩
  have b1 := below_alloc (Below.refl (w.alloc (cntObj c)).heap.size _) (.cells #[.int .i64 lo, .int .i64 hi] 31)
  have b2 := fun v => below_alloc (Below.refl ((w.alloc (cntObj c)).alloc v).heap.size _) (.cells #[.int .i64 0, .int .i64 0] 31)
  have s1 := SpBox.new (w.alloc (cntObj c)) lo hi 31
  have s2 := fun v => SpBox.new ((w.alloc (cntObj c)).alloc v) 0 0 31
  have g2 := fun v => k ((w.alloc (cntObj c)).alloc v) 0 0 31
  rw [e1] at s1
  simp only [e2] at s2 g2
  refine ⟨⟨((CBox.new w c).below b1).below (b2 _), s1.below (b2 _), s2 _, (g2 _).1, (g2 _).2⟩, ?_⟩
  exact below_alloc (below_alloc (below_alloc (Below.refl _ _) _) _) _
theorem rsv_two {X : World} {tmps : Array Value} {b : Nat} {x y e : Int} (h6 : tmps.getD 6 undef = .pointer (some ⟨b, 0, none⟩)) (h7 : tmps.getD 7 undef = .int .i64 e) (hs : SpBox X b x y) :
    (results Tryz.f20 tmps).run Tryz.prog X = .ok (.tuple #[spVal (x, y), .int .i64 e]) X := by
  obtain ⟨s0, s1⟩ := hs
  simp only [results, show Tryz.f20.results = #[.cell 6 31, .tmp 7] from rfl]
  rw [Array.getD_eq_getD_getElem?] at h6 h7
  simp [Sem.run_bind, Result.andThen, h6, h7, go_sem, s0, s1, spVal]
theorem rsv_below {w X : World} (hB : Below w.heap.size w X) (x y : Value) : Below w.heap.size w ((X.setCell ⟨w.heap.size + 1 + 1, 0, none⟩ x).setCell ⟨w.heap.size + 1 + 1, 1, none⟩ y) :=
  (hB.setCell (p := ⟨w.heap.size + 1 + 1, 0, none⟩) (by show w.heap.size ≤ w.heap.size + 1 + 1; omega) _).setCell (p := ⟨w.heap.size + 1 + 1, 1, none⟩) (by show w.heap.size ≤ w.heap.size + 1 + 1; omega) _
set_option maxRecDepth 100000 in
set_option maxHeartbeats 8000000 in
theorem Resolve_any (c : Cnt) (m lo hi : Int) (w : World) :
    Calls Tryz.prog 20 #[cntVal c, .int .i64 m, .agg #[.int .i64 lo, .int .i64 hi]] w fun e w' => e = .returned (resVal (resolveS c m lo hi)) ∧ Below w.heap.size w w' := by
  have HCK := Lib.hid (fun W => check_any c W)
  have HRS := Lib.hid (fun (hc : cntB c = true) W => resolve_any c m lo hi W (cntB_in hc))
  obtain ⟨hR, hB⟩ := rsvIn_new w c lo hi
  have HR0 := Lib.hid hR
  have HB0 := Lib.hid hB
  obtain ⟨W, hW⟩ : ∃ W, W = rsvW w c lo hi := ⟨_, rfl⟩
  have hW' := hW
  rw [← hW] at HR0 HB0
  unfold rsvW cntObj at hW'
  clear hR hB hW
  unfold cntVal at *
  obtain ⟨⟨⟨x, y⟩, e0⟩, hx⟩ : ∃ r, r = resolveS c m lo hi := ⟨_, rfl⟩
  rw [← hx]
  unfold resolveS at hx
  go_enter Tryz.func20, Tryz.ntmps20
  go_upto_region 1 with fail
  rw [← hW']
  clear hW'
  obtain ⟨c0, c1, c2, c3, c4, c5, c6⟩ := HR0.out.cb
  have hz := cell_lt c0
  by_cases hc : cntB c = true
  · rw [show checkC c = 0 from if_pos hc] at HCK
    rw [if_pos hc] at hx
    have HRY := Lib.hid (HRS.out hc)
    rw [← hx] at HRY
    unfold resVal spVal at HRY
    dsimp only at HRY
    clear hx HRS hc
    go_wp2_with (first | (go_at_call 25; refine (HCK.out _).mono ?_; rintro e w1 ⟨rfl, hb1⟩; have hr1 := HR0.out.below hb1; obtain ⟨d0, d1, d2, d3, d4, d5, d6⟩ := hr1.cb; have hzd := cell_lt d0; obtain ⟨p0, p1⟩ := hr1.s; have hzp := cell_lt p0) |
      (go_at_call 39; refine (HRY.out _).mono ?_; rintro e w2 ⟨rfl, hb2⟩; have hr2 := hr1.below hb2; obtain ⟨q0, q1⟩ := hr2.r; have g0 := hr2.f0; have g1 := hr2.f1; have hzq := cell_lt q0))
    exact bodyPost_ret (rsv_two rfl rfl (SpBox.set hr2.r.1 hr2.r.2)) rfl ⟨rfl, rsv_below (below_go (below_go HB0.out hb1) hb2) _ _⟩
  · rw [show checkC c = 30 from if_neg hc] at HCK
    rw [if_neg hc] at hx
    cases hx
    clear HRS hc
    go_wp2_with (go_at_call 25; refine (HCK.out _).mono ?_; rintro e w1 ⟨rfl, hb1⟩; have hr1 := HR0.out.below hb1; obtain ⟨q0, q1⟩ := hr1.r; have g0 := hr1.f0; have g1 := hr1.f1; have hzq := cell_lt q0)
    exact bodyPost_ret (rsv_two rfl rfl (SpBox.set hr1.r.1 hr1.r.2)) rfl ⟨rfl, rsv_below (below_go HB0.out hb1) _ _⟩
end Go.Proofs.YtlelamjbfjneiaaGreatDoor.Ct
namespace Go.Proofs.YtlelamjbfjneiaaGreatDoor.Ct
open Go Go.RowKit
theorem r_even {c : Cnt} (h : CntIn c) : c.r % 2 = 0 ∧ 2 ≤ c.r := by
  have h1 := h.m
  have h2 := Int.emod_add_mul_ediv c.r (2 * c.g)
  rw [h1] at h2
  have h3 : 2 * c.g * (c.r / (2 * c.g)) = 2 * (c.g * (c.r / (2 * c.g))) := by grind
  have h4 := h.r
  omega
theorem shown_turn (c : Cnt) (x : Int) : ∃ k, x = wrapS c x + k * c.r := by
  refine ⟨(x + c.r / 2) / c.r, ?_⟩
  unfold wrapS
  have := Int.emod_add_mul_ediv (x + c.r / 2) c.r
  have e : c.r * ((x + c.r / 2) / c.r) = (x + c.r / 2) / c.r * c.r := Int.mul_comm _ _
  omega
theorem near_f {c : Cnt} (h : CntIn c) (seed s d : Int) : -faultS c ≤ roundS c (rawS c seed s d) - c.f * d - c.o ∧ roundS c (rawS c seed s d) - c.f * d - c.o ≤ faultS c := by
  have h1 := roundS_bd h (rawS c seed s d)
  have h2 := drawS_bd (sourceS seed 3 c.i) s c.j h.j.1
  have h3 : rawS c seed s d = c.f * d + c.o + drawS (sourceS seed 3 c.i) s c.j := rfl
  have := h.g
  unfold faultS
  omega
theorem shown_show {c : Cnt} (h : CntIn c) (seed s d : Int) : showB c (shownS c seed s d) = true := by
  have h1 := wrapS_bd h (roundS c (rawS c seed s d))
  have h2 := r_even h
  unfold showB shownS
  simp only [Bool.and_eq_true, decide_eq_true_eq]
  omega
theorem shown_grid {c : Cnt} (h : CntIn c) (seed s d : Int) : (shownS c seed s d).tmod c.g = 0 := by
  obtain ⟨k, hk⟩ := shown_turn c (roundS c (rawS c seed s d))
  have h2 := Int.emod_add_mul_ediv c.r (2 * c.g)
  rw [h.m] at h2
  apply Int.tmod_eq_zero_of_dvd
  refine ⟨(2 * rawS c seed s d + c.g) / (2 * c.g) - k * (2 * (c.r / (2 * c.g))), ?_⟩
  show wrapS c (roundS c (rawS c seed s d)) = _
  have e1 : roundS c (rawS c seed s d) = (2 * rawS c seed s d + c.g) / (2 * c.g) * c.g := rfl
  generalize wrapS c (roundS c (rawS c seed s d)) = m at *
  generalize (2 * rawS c seed s d + c.g) / (2 * c.g) = q at *
  generalize c.r / (2 * c.g) = t at *
  have e2 : m = q * c.g - k * (2 * c.g * t) := by
    have : k * c.r = k * (2 * c.g * t) := by rw [show c.r = 2 * c.g * t by omega]
    omega
  rw [e2]
  grind
theorem shown_far {c : Cnt} (h : CntIn c) (seed s d : Int) : ¬ (faultS c < (c.f * d + c.o - shownS c seed s d) % c.r ∧ faultS c < c.r - (c.f * d + c.o - shownS c seed s d) % c.r) := by
  obtain ⟨k, hk⟩ := shown_turn c (roundS c (rawS c seed s d))
  have hn := near_f h seed s d
  have hr := h.r
  have hb1 := Int.emod_nonneg (c.f * d + c.o - shownS c seed s d) (show c.r ≠ 0 by omega)
  have hb2 := Int.emod_lt_of_pos (c.f * d + c.o - shownS c seed s d) (show 0 < c.r by omega)
  have e : c.f * d + c.o - shownS c seed s d = (c.f * d + c.o - roundS c (rawS c seed s d)) + c.r * k := by
    have : shownS c seed s d = wrapS c (roundS c (rawS c seed s d)) := rfl
    have : k * c.r = c.r * k := Int.mul_comm _ _
    omega
  rw [e, Int.add_mul_emod_self_left] at hb1 hb2 ⊢
  have hd : -faultS c ≤ c.f * d + c.o - roundS c (rawS c seed s d) ∧ c.f * d + c.o - roundS c (rawS c seed s d) ≤ faultS c := by omega
  generalize c.f * d + c.o - roundS c (rawS c seed s d) = δ at *
  by_cases h1 : c.r ≤ faultS c
  · omega
  · by_cases h2 : 0 ≤ δ
    · rw [Int.emod_eq_of_lt h2 (by omega)]; omega
    · have e3 : δ % c.r = δ + c.r := by
        rw [show δ % c.r = (δ + c.r) % c.r by rw [Int.add_emod_right]]
        exact Int.emod_eq_of_lt (by omega) (by omega)
      rw [e3]; omega
theorem spanL_mem {c : Cnt} {mid lo hi first : Int} {j n : Nat} (hj : j < n) (hc : xLo c mid lo (first + j) ≤ xHi c mid hi (first + j)) : (xLo c mid lo (first + j), xHi c mid hi (first + j)) ∈ spanL c mid lo hi first n := by
  refine (spanL_prefix c mid lo hi first (show j + 1 ≤ n by omega)).subset ?_
  rw [spanL, if_pos hc]
  simp
theorem spanL_two {c : Cnt} {mid lo hi first : Int} {i j n : Nat} (hi' : i < j) (hj : j < n) (h1 : xLo c mid lo (first + i) ≤ xHi c mid hi (first + i)) (h2 : xLo c mid lo (first + j) ≤ xHi c mid hi (first + j)) : 2 ≤ (spanL c mid lo hi first n).length := by
  have a := (spanL_prefix c mid lo hi first (show j + 1 ≤ n by omega)).length_le
  rw [spanL, if_pos h2, List.length_append] at a
  have b := List.length_pos_of_mem (spanL_mem (c := c) (mid := mid) (lo := lo) (hi := hi) (first := first) hi' h1)
  simp at a
  omega
theorem pick_two {L : List (Int × Int)} (h : 2 ≤ L.length) : (pickS L).2 = 8 := by
  match L, h with
  | _ :: _ :: _, _ => rfl
theorem pick_mem {L : List (Int × Int)} {e : Int × Int} (h : e ∈ L) : (pickS L).2 = 8 ∨ pickS L = (e, 0) := by
  match L, h with
  | [x], h => exact .inr (by rw [List.mem_singleton.1 h]; rfl)
  | _ :: _ :: _, _ => exact .inl rfl
theorem holds_plain {c : Cnt} (h : CntIn c) (seed s d lo hi : Int) (hd : lo ≤ d ∧ d ≤ hi) (hlo : -1000000000000000 ≤ lo) (hhi : hi ≤ 1000000000000000) :
    (resS c (shownS c seed s d) lo hi).2 = 8 ∨ ∃ x y, resS c (shownS c seed s d) lo hi = ((x, y), 0) ∧ x ≤ d ∧ d ≤ y ∧ lo ≤ x ∧ y ≤ hi := by
  have hs := shown_show h seed s d
  unfold resS
  rw [hs, show inDiff lo = true by unfold inDiff; simp only [Bool.and_eq_true, decide_eq_true_eq]; omega, show inDiff hi = true by unfold inDiff; simp only [Bool.and_eq_true, decide_eq_true_eq]; omega, show (true && true && true) = true from rfl, if_pos rfl, if_neg (by omega)]
  obtain ⟨k, hk⟩ := shown_turn c (roundS c (rawS c seed s d))
  have hn := near_f h seed s d
  have hf := h.f
  have hr := h.r
  have em : midS c (shownS c seed s d) + k * c.r = roundS c (rawS c seed s d) - c.o := by
    have : midS c (shownS c seed s d) = wrapS c (roundS c (rawS c seed s d)) - c.o := rfl
    omega
  have f1 : c.f * lo ≤ c.f * d := Int.mul_le_mul_of_nonneg_left hd.1 (by omega)
  have f2 : c.f * d ≤ c.f * hi := Int.mul_le_mul_of_nonneg_left hd.2 (by omega)
  have fc : d * c.f = c.f * d := Int.mul_comm _ _
  -- a turn between has a number
  have any : ∀ j : Int, firstS c (shownS c seed s d) lo ≤ j → (∃ t : Int, 0 ≤ t ∧ k = j + c.f * t) → xLo c (midS c (shownS c seed s d)) lo j ≤ xHi c (midS c (shownS c seed s d)) hi j := by
    rintro j hj ⟨t, ht, hjt⟩
    have a1 := (ceil_iff _ _ _ hr.1).1 hj
    have e1 : k * c.r = j * c.r + c.f * (t * c.r) := by rw [hjt]; grind
    have e2 : 0 ≤ t * c.r := Int.mul_nonneg ht (by omega)
    have e3 : (d - t * c.r) * c.f = c.f * d - c.f * (t * c.r) := by grind
    have b1 : turnLo c (midS c (shownS c seed s d) + j * c.r) ≤ d - t * c.r := (ceil_iff _ _ _ hf.1).2 (by omega)
    have b2 : d - t * c.r ≤ turnHi c (midS c (shownS c seed s d) + j * c.r) := (Int.le_ediv_iff_mul_le (by omega)).2 (by omega)
    have b3 : lo ≤ turnHi c (midS c (shownS c seed s d) + j * c.r) := (Int.le_ediv_iff_mul_le (by omega)).2 (by have : lo * c.f = c.f * lo := Int.mul_comm _ _; omega)
    unfold xLo xHi
    omega
  have hfk : firstS c (shownS c seed s d) lo ≤ k := (ceil_iff _ _ _ hr.1).2 (by omega)
  have hkf : k ≤ farS c (shownS c seed s d) hi := (Int.le_ediv_iff_mul_le (by omega)).2 (by omega)
  unfold foundL
  by_cases hkl : k ≤ lastS c (shownS c seed s d) lo hi
  · have hx := any k hfk ⟨0, Int.le_refl _, by omega⟩
    obtain ⟨j, hj⟩ : ∃ j : Nat, k = firstS c (shownS c seed s d) lo + (j : Int) := ⟨(k - firstS c (shownS c seed s d) lo).toNat, by omega⟩
    have hjn : j < turnN c (shownS c seed s d) lo hi := by unfold turnN; omega
    rw [hj] at hx
    rcases pick_mem (spanL_mem hjn hx) with h8 | h0
    · exact .inl h8
    · refine .inr ⟨_, _, h0, ?_⟩
      have b1 : turnLo c (midS c (shownS c seed s d) + k * c.r) ≤ d := (ceil_iff _ _ _ hf.1).2 (by omega)
      have b2 : d ≤ turnHi c (midS c (shownS c seed s d) + k * c.r) := (Int.le_ediv_iff_mul_le (by omega)).2 (by omega)
      rw [← hj]
      unfold xLo xHi
      omega
  · have hlast : lastS c (shownS c seed s d) lo hi = firstS c (shownS c seed s d) lo + 2 * c.f - 1 := by unfold lastS at hkl ⊢; omega
    -- two turns before it
    have d1 := Int.emod_nonneg (k - firstS c (shownS c seed s d) lo) (show c.f ≠ 0 by omega)
    have d2 := Int.emod_lt_of_pos (k - firstS c (shownS c seed s d) lo) (show 0 < c.f by omega)
    have d3 := Int.emod_add_mul_ediv (k - firstS c (shownS c seed s d) lo) c.f
    have d4 : 2 ≤ (k - firstS c (shownS c seed s d) lo) / c.f := (Int.le_ediv_iff_mul_le (by omega)).2 (by omega)
    generalize (k - firstS c (shownS c seed s d) lo) / c.f = t at *
    obtain ⟨i, hi'⟩ : ∃ i : Nat, (k - firstS c (shownS c seed s d) lo) % c.f = (i : Int) := ⟨((k - firstS c (shownS c seed s d) lo) % c.f).toNat, by omega⟩
    rw [hi'] at d1 d2 d3
    obtain ⟨F, hF⟩ : ∃ F : Nat, c.f = (F : Int) := ⟨c.f.toNat, by omega⟩
    have x1 := any (firstS c (shownS c seed s d) lo + (i : Int)) (by omega) ⟨t, by omega, by omega⟩
    have x2 := any (firstS c (shownS c seed s d) lo + ((i + F : Nat) : Int)) (by push_cast; omega) ⟨t - 1, by omega, by
      have e : c.f * (t - 1) = c.f * t - c.f := by grind
      push_cast; omega⟩
    exact .inl (pick_two (spanL_two (show i < i + F by omega) (show i + F < turnN c (shownS c seed s d) lo hi by unfold turnN; omega) x1 x2))
end Go.Proofs.YtlelamjbfjneiaaGreatDoor.Ct
namespace Go.Proofs.YtlelamjbfjneiaaGreatDoor.Ct
open Go Go.RowKit Go.Shelf
attribute [local go_sem] Oper.semAt_some
theorem mixA_turn (x y : Int) : IntKind.u64.wrap (IntKind.u64.wrap (y * 11400714819323198485) + x) = mixA x y := by unfold mixA; rw [Int.add_comm]
theorem rmix_any (x y : Int) (w : World) :
    Calls Tryz.prog 96 #[.int .u64 x, .int .u64 y] w fun e w' => e = .returned (.int .u64 (mixS x y)) ∧ w = w' := by
  have H := Lib.hid (mixA_turn x y)
  go_enter Tryz.func96, Tryz.ntmps96
  go_wp2
  go_ret
  refine ⟨?_, rfl⟩
  show Ending.returned (Value.int .u64 (mixC (mixB (IntKind.u64.wrap (IntKind.u64.wrap (y * 11400714819323198485) + x))))) = _
  rw [H.out]
  rfl
theorem rdraw_ok (sd ki cl ix mo : Int) (w : World) (h1 : 0 ≤ ki ∧ ki ≤ 9223372036854775807) (h2 : 0 ≤ cl ∧ cl ≤ 9223372036854775807) (h3 : 0 ≤ ix ∧ ix ≤ 9223372036854775807) (h4 : 0 ≤ mo ∧ mo ≤ 1000000000000000) :
    Calls Tryz.prog 60 #[.int .u64 sd, .int .i64 ki, .int .i64 cl, .int .i64 ix, .int .i64 mo] w fun e w' => e = .returned (.tuple #[.int .i64 (drawS (sourceS sd ki cl) ix mo), .int .i64 0]) ∧ w = w' := by
  obtain ⟨a1, a2⟩ := h1
  obtain ⟨c1, c2⟩ := h2
  obtain ⟨i1, i2⟩ := h3
  obtain ⟨m1, m2⟩ := h4
  have g1 := mixS_bd (mixS (mixS sd ki) cl) ix
  obtain ⟨g1, g2⟩ := g1
  have g3 : 0 ≤ mixS (mixS (mixS sd ki) cl) ix % (1 + 2 * mo) := Int.emod_nonneg _ (by omega)
  have g4 : mixS (mixS (mixS sd ki) cl) ix % (1 + 2 * mo) ≤ 2 * mo := by have := Int.emod_lt_of_pos (mixS (mixS (mixS sd ki) cl) ix) (show 0 < 1 + 2 * mo by omega); omega
  go_enter Tryz.func60, Tryz.ntmps60
  go_wp2_with (go_at_call 96; refine (rmix_any _ _ _).mono ?_; rintro e w' ⟨rfl, rfl⟩)
  go_ret2
  exact ⟨by unfold drawS sourceS; rw [Int.add_comm 1 (2 * mo)]; rfl, rfl⟩
theorem rmodulo_any (a b : Int) (w : World) (hb : 1 ≤ b ∧ b ≤ 9223372036854775807) :
    Calls Tryz.prog 61 #[.int .i64 a, .int .i64 b] w fun e w' => e = .returned (.int .i64 (a % b)) ∧ w = w' := by
  have hm := tmod_bd a b hb.1
  have hne : (b == 0) = false := by simp; omega
  have hnz : ¬ b = 0 := by omega
  have k2 : IntKind.i64.wrap (a.tmod b) = a.tmod b := IntWalk.i64_in _ (by omega)
  by_cases h : a.tmod b < 0
  · have H := Lib.hid (modulo_neg a b hb.1 h)
    have k3 : IntKind.i64.wrap (a.tmod b + b) = a.tmod b + b := IntWalk.i64_in _ (by omega)
    clear hm
    go_enter Tryz.func61, Tryz.ntmps61
    go_wp2
    go_ret
    exact ⟨ret_i64 H.out, rfl⟩
  · have H := Lib.hid (modulo_pos a b hb.1 h)
    clear hm
    go_enter Tryz.func61, Tryz.ntmps61
    go_wp2
    go_ret
    exact ⟨ret_i64 H.out, rfl⟩
theorem rmod_quiet (a b r : Int) (hb : 1 ≤ b ∧ b ≤ 9223372036854775807) (hr : a % b = r) (W : World) : Calls Tryz.prog 61 #[.int .i64 a, .int .i64 b] W fun e w' => e = .returned (.int .i64 r) ∧ w' = W :=
  (rmodulo_any a b W hb).mono fun _ _ ⟨h1, h2⟩ => ⟨by rw [h1, hr], h2.symm⟩
def rcObj (c : Cnt) : Obj := .cells #[.int .i64 c.f, .int .i64 c.o, .int .i64 c.j, .int .i64 c.g, .int .i64 c.r, .int .i64 c.d, .int .i64 c.i] 23
theorem RBox.new (X : World) (c : Cnt) : CBox (X.alloc (rcObj c)) X.heap.size c := by
  unfold rcObj
  exact ⟨by simp, by simp, by simp, by simp, by simp, by simp, by simp⟩
set_option maxRecDepth 100000 in
set_option maxHeartbeats 1000000 in
theorem rwrap_any (c : Cnt) (n : Int) (w : World) (h : CntIn c) (hn : -4000000000000000000 ≤ n ∧ n ≤ 4000000000000000000) :
    Calls Tryz.prog 35 #[cntVal c, .int .i64 n] w fun e w' => e = .returned (.int .i64 (wrapS c n)) ∧ Below w.heap.size w w' := by
  have hr := h.r
  have A0 := Lib.hid (below_alloc (Below.refl w.heap.size w) (rcObj c))
  obtain ⟨-, -, -, -, c4, -, -⟩ := RBox.new w c
  have hz := cell_lt c4
  have k1 : IntKind.i64.wrap (c.r.tdiv 2) = c.r / 2 := IntWalk.i64_quo c.r 2 (by omega)
  have k2 : IntKind.i64.wrap (n + c.r / 2) = n + c.r / 2 := IntWalk.i64_in _ (by omega)
  have hb := wrapS_bd h n
  have k3 : IntKind.i64.wrap ((n + c.r / 2) % c.r - c.r / 2) = wrapS c n := IntWalk.i64_in _ (by unfold wrapS at hb; omega)
  have HM := Lib.hid (rmod_quiet (n + c.r / 2) c.r _ (by omega) rfl)
  clear hb
  unfold rcObj at A0 c4 hz
  unfold cntVal
  go_enter Tryz.func35, Tryz.ntmps35
  go_wp2
  go_quiet ((go_at_call 61; exact Calls.quiet_of_same (HM.out _)))
  go_wp2
  go_ret
  exact ⟨rfl, below_drewN A0.out _⟩
theorem rfault_any (c : Cnt) (w : World) (h : CntIn c) :
    Calls Tryz.prog 34 #[cntVal c] w fun e w' => e = .returned (.int .i64 (faultS c)) ∧ Below w.heap.size w w' := by
  have hg := h.g
  have hj := h.j
  have A0 := Lib.hid (below_alloc (Below.refl w.heap.size w) (rcObj c))
  obtain ⟨-, -, c2, c3, -, -, -⟩ := RBox.new w c
  have hz := cell_lt c3
  have k1 : IntKind.i64.wrap (c.g.tdiv 2) = c.g / 2 := IntWalk.i64_quo c.g 2 (by omega)
  have k2 : IntKind.i64.wrap (c.j + c.g / 2) = faultS c := IntWalk.i64_in _ (by omega)
  unfold rcObj at A0 c2 c3 hz
  unfold cntVal
  go_enter Tryz.func34, Tryz.ntmps34
  go_wp2
  go_ret
  exact ⟨ret_i64 rfl, A0.out⟩
theorem down_eq (a b : Int) (hb : 1 ≤ b) : (a - a % b).tdiv b = a / b := by
  have h := Int.emod_add_mul_ediv a b
  have e : a - a % b = a / b * b := by have := Int.mul_comm (a / b) b; omega
  rw [e]
  exact Int.mul_tdiv_cancel _ (by omega)
theorem up_eq (a b : Int) (hb : 1 ≤ b) : (a + -a % b).tdiv b = ceilS a b := by
  have h := Int.emod_add_mul_ediv (-a) b
  have e : a + -a % b = ceilS a b * b := by
    unfold ceilS
    have : -(-a / b) * b = -(b * (-a / b)) := by rw [Int.neg_mul, Int.mul_comm]
    omega
  rw [e]
  exact Int.mul_tdiv_cancel _ (by omega)
theorem rdown_any (a b : Int) (w : World) (ha : -4000000000000000000 ≤ a ∧ a ≤ 4000000000000000000) (hb : 1 ≤ b ∧ b ≤ 1000000000000000) :
    Calls Tryz.prog 70 #[.int .i64 a, .int .i64 b] w fun e w' => e = .returned (.int .i64 (a / b)) ∧ w = w' := by
  have h1 := Int.emod_nonneg a (show b ≠ 0 by omega)
  have h2 := Int.emod_lt_of_pos a (show 0 < b by omega)
  have hq := floorS_bd a b 4000000000000000000 hb.1 ha
  have hne : (b == 0) = false := by simp; omega
  have hnz : ¬ b = 0 := by omega
  have k1 : IntKind.i64.wrap (a - a % b) = a - a % b := IntWalk.i64_in _ (by omega)
  have k2 : IntKind.i64.wrap ((a - a % b).tdiv b) = a / b := by rw [down_eq a b hb.1]; exact IntWalk.i64_in _ (by omega)
  have HM := Lib.hid (rmodulo_any a b w (by omega))
  clear h1 h2 hq
  go_enter Tryz.func70, Tryz.ntmps70
  go_wp2_with (go_at_call 61; refine HM.out.mono ?_; rintro e w' ⟨rfl, rfl⟩)
  go_ret
  exact ⟨rfl, rfl⟩
theorem rup_any (a b : Int) (w : World) (ha : -4000000000000000000 ≤ a ∧ a ≤ 4000000000000000000) (hb : 1 ≤ b ∧ b ≤ 1000000000000000) :
    Calls Tryz.prog 69 #[.int .i64 a, .int .i64 b] w fun e w' => e = .returned (.int .i64 (ceilS a b)) ∧ w = w' := by
  have h1 := Int.emod_nonneg (-a) (show b ≠ 0 by omega)
  have h2 := Int.emod_lt_of_pos (-a) (show 0 < b by omega)
  have hq := ceilS_bd a b 4000000000000000000 hb.1 ha
  have hne : (b == 0) = false := by simp; omega
  have hnz : ¬ b = 0 := by omega
  have k0 : IntKind.i64.wrap (-a) = -a := IntWalk.i64_in _ (by omega)
  have k1 : IntKind.i64.wrap (a + -a % b) = a + -a % b := IntWalk.i64_in _ (by omega)
  have k2 : IntKind.i64.wrap ((a + -a % b).tdiv b) = ceilS a b := by rw [up_eq a b hb.1]; exact IntWalk.i64_in _ (by omega)
  have HM := Lib.hid (rmodulo_any (-a) b w (by omega))
  clear h1 h2 hq
  go_enter Tryz.func69, Tryz.ntmps69
  go_wp2_with (go_at_call 61; refine HM.out.mono ?_; rintro e w' ⟨rfl, rfl⟩)
  go_ret
  exact ⟨rfl, rfl⟩
theorem rready_any (c : Cnt) (s : Int) (w : World) (h : CntIn c) :
    Calls Tryz.prog 41 #[cntVal c, .int .i64 s] w fun e w' => e = .returned (.bool (meetB c s)) ∧ Below w.heap.size w w' := by
  have hd := h.d
  have A0 := Lib.hid (below_alloc (Below.refl w.heap.size w) (rcObj c))
  obtain ⟨-, -, -, -, -, c5, -⟩ := RBox.new w c
  have hz := cell_lt c5
  have hne : (c.d == 0) = false := by simp; omega
  have hnz : ¬ c.d = 0 := by omega
  unfold rcObj at A0 c5 hz
  unfold cntVal
  by_cases h1 : 0 ≤ s
  · by_cases h2 : s ≤ 1000000
    · have H := Lib.hid (show (decide (s % c.d = 0)) = meetB c s by unfold meetB; simp [h1, h2])
      go_enter Tryz.func41, Tryz.ntmps41
      go_wp2
      go_ret
      refine ⟨?_, A0.out⟩
      rw [← H.out]
      first | rfl | simp
    · have H := Lib.hid (show meetB c s = false by unfold meetB; simp [h2])
      go_enter Tryz.func41, Tryz.ntmps41
      go_wp2
      go_ret
      exact ⟨by rw [H.out]; rfl, A0.out⟩
  · have H := Lib.hid (show meetB c s = false by unfold meetB; simp [h1])
    go_enter Tryz.func41, Tryz.ntmps41
    go_wp2
    go_ret
    exact ⟨by rw [H.out]; rfl, A0.out⟩
end Go.Proofs.YtlelamjbfjneiaaGreatDoor.Ct
namespace Go.Proofs.YtlelamjbfjneiaaGreatDoor.Ct
open Go Go.RowKit
def refN (c : Cnt) (m lo hi : Int) : Nat := (min (farS c m hi) (firstS c m lo + 2499) + 1 - firstS c m lo).toNat
def refL (c : Cnt) (m lo hi : Int) : List (Int × Int) := spanL c (midS c m) lo hi (firstS c m lo) (refN c m lo hi)
theorem spanL_has {c : Cnt} {mid lo hi first : Int} : ∀ {n : Nat}, spanL c mid lo hi first n ≠ [] → ∃ j, j < n ∧ xLo c mid lo (first + j) ≤ xHi c mid hi (first + j)
  | 0, h => absurd rfl h
  | n + 1, h => by
    by_cases hc : xLo c mid lo (first + n) ≤ xHi c mid hi (first + n)
    · exact ⟨n, by omega, hc⟩
    · rw [spanL, if_neg hc] at h
      obtain ⟨j, hj, hx⟩ := spanL_has h
      exact ⟨j, by omega, hx⟩
theorem turn_shift {c : Cnt} (h : CntIn c) (x : Int) : turnLo c (x + c.f * c.r) = turnLo c x + c.r ∧ turnHi c (x + c.f * c.r) = turnHi c x + c.r := by
  have hf := h.f
  constructor
  · unfold turnLo ceilS
    have e0 : c.f * (-c.r) = -(c.f * c.r) := by grind
    have e : -(x + c.f * c.r - faultS c) = -(x - faultS c) + c.f * (-c.r) := by omega
    rw [e, Int.add_mul_ediv_left _ _ (show c.f ≠ 0 by omega)]
    omega
  · unfold turnHi
    rw [show x + c.f * c.r + faultS c = (x + faultS c) + c.f * c.r by omega, Int.add_mul_ediv_left _ _ (show c.f ≠ 0 by omega)]
theorem ref_same {c : Cnt} (h : CntIn c) (m lo hi : Int) (hlh : lo ≤ hi) : pickS (refL c m lo hi) = pickS (foundL c m lo hi) := by
  have hf := h.f
  have hr := h.r
  unfold refL foundL
  by_cases hfar : farS c m hi ≤ firstS c m lo + 2 * c.f - 1
  · have e : refN c m lo hi = turnN c m lo hi := by unfold refN turnN lastS; omega
    rw [e]
  · obtain ⟨F, hF⟩ : ∃ F : Nat, c.f = (F : Int) := ⟨c.f.toNat, by omega⟩
    have e1 : turnN c m lo hi = 2 * F := by unfold turnN lastS; omega
    have e2 : 2 * F ≤ refN c m lo hi := by unfold refN; omega
    have e3 : ∀ j : Nat, j < refN c m lo hi → firstS c m lo + j ≤ farS c m hi := fun j hj => by unfold refN at hj; omega
    have per : ∀ k : Int, firstS c m lo ≤ k → k ≤ farS c m hi → (xLo c (midS c m) lo k ≤ xHi c (midS c m) hi k ↔ turnLo c (midS c m + k * c.r) ≤ turnHi c (midS c m + k * c.r)) := by
      intro k h1 h2
      have a1 := (ceil_iff _ _ _ hr.1).1 h1
      have a2 : k * c.r ≤ c.f * hi - midS c m + faultS c := (Int.le_ediv_iff_mul_le (by omega)).1 h2
      have b1 : lo ≤ turnHi c (midS c m + k * c.r) := (Int.le_ediv_iff_mul_le (by omega)).2 (by have := Int.mul_comm lo c.f; omega)
      have b2 : turnLo c (midS c m + k * c.r) ≤ hi := (ceil_iff _ _ _ hf.1).2 (by have := Int.mul_comm hi c.f; omega)
      unfold xLo xHi
      omega
    have shift : ∀ k : Int, (turnLo c (midS c m + (k + c.f) * c.r) ≤ turnHi c (midS c m + (k + c.f) * c.r) ↔ turnLo c (midS c m + k * c.r) ≤ turnHi c (midS c m + k * c.r)) := by
      intro k
      obtain ⟨s1, s2⟩ := turn_shift h (midS c m + k * c.r)
      rw [show midS c m + (k + c.f) * c.r = midS c m + k * c.r + c.f * c.r by grind, s1, s2]
      omega
    have shiftN : ∀ (t : Nat) (k : Int), (turnLo c (midS c m + (k + c.f * t) * c.r) ≤ turnHi c (midS c m + (k + c.f * t) * c.r) ↔ turnLo c (midS c m + k * c.r) ≤ turnHi c (midS c m + k * c.r)) := by
      intro t
      induction t with
      | zero => intro k; simp
      | succ t ih =>
        intro k
        rw [show k + c.f * ((t + 1 : Nat) : Int) = (k + c.f * t) + c.f by push_cast; grind, shift, ih]
    rw [e1]
    by_cases hn : spanL c (midS c m) lo hi (firstS c m lo) (refN c m lo hi) = []
    · have hp := spanL_prefix c (midS c m) lo hi (firstS c m lo) e2
      rw [hn] at hp
      rw [hn, List.prefix_nil.1 hp]
    · obtain ⟨j, hj, hx⟩ := spanL_has hn
      have d1 := Nat.mod_lt j (show 0 < F by omega)
      have d2 := Nat.mod_add_div j F
      have hxj := (per _ (by omega) (e3 j hj)).1 hx
      have hx0 : turnLo c (midS c m + (firstS c m lo + ((j % F : Nat) : Int)) * c.r) ≤ turnHi c (midS c m + (firstS c m lo + ((j % F : Nat) : Int)) * c.r) := by
        refine (shiftN (j / F) _).1 ?_
        rw [show firstS c m lo + ((j % F : Nat) : Int) + c.f * ((j / F : Nat) : Int) = firstS c m lo + (j : Int) by
          have e : ((j % F : Nat) : Int) + (F : Int) * ((j / F : Nat) : Int) = (j : Int) := by rw [← Int.natCast_mul, ← Int.natCast_add, d2]
          rw [hF]; omega]
        exact hxj
      have hx1 := (shift _).2 hx0
      have l1 := (per (firstS c m lo + ((j % F : Nat) : Int)) (by omega) (e3 _ (by omega))).2 hx0
      have l2 := (per (firstS c m lo + ((j % F + F : Nat) : Int)) (by omega) (e3 _ (by omega))).2 (by rw [show firstS c m lo + ((j % F + F : Nat) : Int) = firstS c m lo + ((j % F : Nat) : Int) + c.f by rw [hF]; push_cast; omega]; exact hx1)
      have two := spanL_two (show j % F < j % F + F by omega) (show j % F + F < 2 * F by omega) l1 l2
      have two' := spanL_two (n := refN c m lo hi) (show j % F < j % F + F by omega) (show j % F + F < refN c m lo hi by omega) l1 l2
      have pk : ∀ L : List (Int × Int), 2 ≤ L.length → pickS L = ((0, 0), 8) := fun L hL => by
        match L, hL with
        | _ :: _ :: _, _ => rfl
      rw [pk _ two, pk _ two']
end Go.Proofs.YtlelamjbfjneiaaGreatDoor.Ct
