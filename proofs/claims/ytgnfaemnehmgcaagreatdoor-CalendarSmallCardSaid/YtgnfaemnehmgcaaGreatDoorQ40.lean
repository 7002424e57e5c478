/-  ·  -/
import Derived.Test.YtgnfaemnehmgcaaGreatDoorQ39
import Derived.Test.YtgnfaemnehmgcaaGreatDoorQ06
import Derived.Test.YtgnfaemnehmgcaaGreatDoorQ09
import Derived.Test.YtgnfaemnehmgcaaGreatDoorQ07
import Derived.Test.YtgnfaemnehmgcaaGreatDoorQ02
namespace Go.Proofs.YtgnfaemnehmgcaaGreatDoor.Cal
open Go Go.RowKit
def offK (o : Int) (g : Nat → Int × Int) (k : Nat) : Int := if k = 0 then o else (g (k - 1)).2
def fromK (g : Nat → Int × Int) (k : Nat) : Int := if k = 0 then 0 else (g (k - 1)).1
def hiK (q : Nat) (g : Nat → Int × Int) (k : Nat) : Int := if k < q then (g k).1 - 1 else 9223372036854775807
def offAt (o : Int) (g : Nat → Int × Int) (s : Int) : Nat → Int
  | 0 => o
  | k + 1 => if fromK g k ≤ s then offK o g k else offAt o g s k
structure ZoneOk (o : Int) (q : Nat) (g : Nat → Int × Int) : Prop where
  q1 : q ≤ 200
  o1 : -1440 ≤ o ∧ o ≤ 1440
  g1 : ∀ i, i < q → (-1440 ≤ (g i).2 ∧ (g i).2 ≤ 1440) ∧ 0 ≤ (g i).1
  lt : ∀ i, i + 1 < q → (g i).1 < (g (i + 1)).1
theorem firstE_back {h : Nat → Int} : ∀ n, firstE h n = 0 → ∀ k, k < n → h k = 0
  | 0, _, k, hk => absurd hk (Nat.not_lt_zero k)
  | n + 1, e, k, hk => by
    have e0 : firstE h n = 0 := by
      by_cases z : firstE h n = 0
      · exact z
      · rw [firstE, if_neg z] at e; exact e
    by_cases z : k = n
    · subst z; rw [firstE, if_pos e0] at e; exact e
    · exact firstE_back n e0 k (by omega)
theorem zone_ok {o : Int} {q : Nat} {g : Nat → Int × Int} (h : zoneE o q g = 0) : ZoneOk o q g := by
  unfold zoneE at h
  split at h
  · rename_i h1
    split at h
    · rename_i h2
      have hb : ∀ k, k < q → (-1440 ≤ (g k).2 ∧ (g k).2 ≤ 1440) ∧ 0 ≤ (g k).1 ∧ prevZ g k < (g k).1 := fun k hk => by
        have e := firstE_back q h k hk
        unfold chE at e
        split at e
        · rename_i a
          split at e
          · rename_i b
            split at e
            · rename_i c
              unfold offB at a
              simp only [Bool.and_eq_true, decide_eq_true_eq] at a
              exact ⟨a, b, c⟩
            · omega
          · omega
        · omega
      unfold offB at h2
      simp only [Bool.and_eq_true, decide_eq_true_eq] at h2
      exact ⟨h1, h2, fun i hi => ⟨(hb i hi).1, (hb i hi).2.1⟩, fun i hi => by
        have := (hb (i + 1) hi).2.2
        unfold prevZ at this
        rw [if_neg (by omega), Nat.add_sub_cancel] at this
        exact this⟩
    · omega
  · omega
theorem firstE_none {h : Nat → Int} : ∀ n, (∀ k, k < n → h k = 0) → firstE h n = 0
  | 0, _ => rfl
  | n + 1, e => by rw [firstE, if_pos (firstE_none n (fun k hk => e k (by omega)))]; exact e n (by omega)
theorem ZoneOk.zoneE {o : Int} {q : Nat} {g : Nat → Int × Int} (h : ZoneOk o q g) : zoneE o q g = 0 := by
  unfold Cal.zoneE
  rw [if_pos h.q1, if_pos (by unfold offB; simp only [Bool.and_eq_true, decide_eq_true_eq]; exact h.o1)]
  refine firstE_none q (fun k hk => ?_)
  unfold chE
  have h1 := h.g1 k hk
  rw [if_pos (by unfold offB; simp only [Bool.and_eq_true, decide_eq_true_eq]; exact h1.1), if_pos h1.2, if_pos]
  unfold prevZ
  split
  · omega
  · have := h.lt (k - 1) (by omega)
    rw [show k - 1 + 1 = k by omega] at this
    exact this
theorem ZoneOk.off {o : Int} {q : Nat} {g : Nat → Int × Int} (h : ZoneOk o q g) (k : Nat) (hk : k ≤ q) : -1440 ≤ offK o g k ∧ offK o g k ≤ 1440 := by
  unfold offK
  split
  · exact h.o1
  · exact (h.g1 (k - 1) (by omega)).1
theorem ZoneOk.step {o : Int} {q : Nat} {g : Nat → Int × Int} (_h : ZoneOk o q g) {k : Nat} (hk : k < q) : fromK g (k + 1) = hiK q g k + 1 := by
  unfold fromK hiK
  rw [if_neg (by omega), if_pos hk, Nat.add_sub_cancel]; omega
theorem ZoneOk.mono {o : Int} {q : Nat} {g : Nat → Int × Int} (h : ZoneOk o q g) {j : Nat} : ∀ k, j ≤ k → k ≤ q → fromK g j ≤ fromK g k
  | 0, hj, _ => by obtain rfl : j = 0 := by omega
                   exact Int.le_refl _
  | k + 1, hj, hk => by
    by_cases e : j = k + 1
    · rw [e]; exact Int.le_refl _
    · refine Int.le_trans (h.mono k (by omega) (by omega)) ?_
      unfold fromK
      rw [if_neg (show ¬ k + 1 = 0 by omega), Nat.add_sub_cancel]
      split
      · exact (h.g1 k (by omega)).2
      · have := h.lt (k - 1) (by omega)
        rw [show k - 1 + 1 = k by omega] at this
        omega
theorem ZoneOk.sep {o : Int} {q : Nat} {g : Nat → Int × Int} (h : ZoneOk o q g) {j k : Nat} (hj : j < k) (hk : k ≤ q) : hiK q g j < fromK g k := by
  have h1 := h.mono (j := j + 1) k hj hk
  have h2 := h.step (k := j) (by omega)
  omega
structure InK (q : Nat) (g : Nat → Int × Int) (k : Nat) (x : Int) : Prop where
  le : k ≤ q
  lo : fromK g k ≤ x
  hi : x ≤ hiK q g k
theorem ZoneOk.inK {o : Int} {q : Nat} {g : Nat → Int × Int} (h : ZoneOk o q g) {x : Int} (h0 : 0 ≤ x) (h1 : x ≤ 9223372036854775807) : ∃ k, InK q g k x := by
  have key : ∀ j, j ≤ q → x < fromK g j → ∃ k, InK q g k x := by
    intro j
    induction j with
    | zero => intro _ hx; have : fromK g 0 = 0 := rfl; omega
    | succ j ih =>
      intro hj hx
      by_cases e : fromK g j ≤ x
      · have := h.step (k := j) (by omega)
        exact ⟨j, by omega, e, by omega⟩
      · exact ih (by omega) (by omega)
  by_cases e : fromK g q ≤ x
  · exact ⟨q, Nat.le_refl _, e, by unfold hiK; rw [if_neg (Nat.lt_irrefl q)]; exact h1⟩
  · exact key q (Nat.le_refl _) (by omega)
theorem InK.off {o : Int} {q : Nat} {g : Nat → Int × Int} (h : ZoneOk o q g) {k : Nat} {x : Int} (hk : InK q g k x) : offAt o g x (q + 1) = offK o g k := by
  have key : ∀ m, k < m → m ≤ q + 1 → offAt o g x m = offK o g k := by
    intro m
    induction m with
    | zero => intro h1; omega
    | succ m ih =>
      intro h1 h2
      by_cases e : k = m
      · subst e; rw [offAt, if_pos hk.lo]
      · have := h.sep (j := k) (k := m) (by omega) (by omega)
        have := hk.hi
        rw [offAt, if_neg (by omega)]
        exact ih (by omega) (by omega)
  exact key (q + 1) (by have := hk.le; omega) (Nat.le_refl _)
theorem ZoneOk.offAt_bd {o : Int} {q : Nat} {g : Nat → Int × Int} (h : ZoneOk o q g) (x : Int) : ∀ m, m ≤ q + 1 → -1440 ≤ offAt o g x m ∧ offAt o g x m ≤ 1440
  | 0, _ => h.o1
  | m + 1, hm => by
    rw [offAt]
    split
    · exact h.off m (by omega)
    · exact h.offAt_bd x m (by omega)
theorem InK.uniq {o : Int} {q : Nat} {g : Nat → Int × Int} (h : ZoneOk o q g) {j k : Nat} {x : Int} (hj : InK q g j x) (hk : InK q g k x) : j = k := by
  rcases Nat.lt_trichotomy j k with e | e | e
  · have := h.sep e hk.le; have := hj.hi; have := hk.lo; omega
  · exact e
  · have := h.sep e hj.le; have := hk.hi; have := hj.lo; omega
def momM (f : Nat → Int × Int) (n : Nat) (D x : Int) : Int := 1440 * D + minS (x - beginS f n D)
def momS (f : Nat → Int × Int) (n : Nat) (D x : Int) : Int := x - beginS f n D - 60 * minS (x - beginS f n D)
structure MomOf (u : Int) (n : Nat) (f : Nat → Int × Int) (D x : Int) : Prop where
  has : hasB u f n (momM f n D x) (momS f n D x) = true
  num : numS f n (momM f n D x) (momS f n D x) = x
  day : momM f n D x / 1440 = D
  ofd : momM f n D x % 1440 = minS (x - beginS f n D)
  m0 : 0 ≤ minS (x - beginS f n D) ∧ minS (x - beginS f n D) ≤ 1439
  s0 : 0 ≤ momS f n D x ∧ momS f n D x ≤ 60
theorem mom_of {b u : Int} {n : Nat} {f : Nat → Int × Int} (ht : TabOk b u n f) {x D : Int} (h : IsDayOf u n f x D) : MomOf u n f D x := by
  have hb := ht.begin_succ D
  have hs := stepAt_bd (f := f) D n ht.s
  have hd1 := h.d1; have hd2 := h.d2
  have hlo := h.lo; have hhi := h.hi
  obtain ⟨r, hrr⟩ : ∃ r, x - beginS f n D = r := ⟨_, rfl⟩
  have hm := minS_bd r (by omega)
  have e1 : (1440 * D + minS r) / 1440 = D := by omega
  have e2 : (1440 * D + minS r) % 1440 = minS r := by omega
  have e3 : (minS r = 1439 ∧ 1439 ≤ r / 60) ∨ (minS r = r / 60 ∧ r / 60 < 1439) := by unfold minS; split <;> omega
  constructor <;> (try unfold momM) <;> (try unfold momS) <;> rw [hrr]
  · unfold hasB lenS dayK
    rw [e1, e2]
    simp only [Bool.and_eq_true, decide_eq_true_eq]
    refine ⟨⟨hd1, hd2⟩, by omega, ?_⟩
    split <;> omega
  · unfold numS; rw [e1, e2]; omega
  · exact e1
  · exact e2
  · exact hm
  · omega
theorem has_mom {b u : Int} {n : Nat} {f : Nat → Int × Int} (ht : TabOk b u n f) {m s : Int} (h : hasB u f n m s = true) : IsDayOf u n f (numS f n m s) (m / 1440) ∧ momM f n (m / 1440) (numS f n m s) = m ∧ momS f n (m / 1440) (numS f n m s) = s := by
  unfold hasB dayK at h
  simp only [Bool.and_eq_true, decide_eq_true_eq] at h
  obtain ⟨⟨h1, h2⟩, h3, h4⟩ := h
  have hb := ht.begin_succ (m / 1440)
  have hs := stepAt_bd (f := f) (m / 1440) n ht.s
  unfold lenS at h4
  have er : numS f n m s - beginS f n (m / 1440) = 60 * (m % 1440) + s := by unfold numS; omega
  have em : minS (60 * (m % 1440) + s) = m % 1440 := by unfold minS; split at h4 <;> split <;> omega
  refine ⟨⟨h1, h2, ?_, ?_⟩, ?_, ?_⟩
  · unfold numS; omega
  · unfold numS; rw [hb]; split at h4 <;> omega
  · unfold momM; rw [er, em]; omega
  · unfold momS; rw [er, em]; omega
theorem day_uniq {b u : Int} {n : Nat} {f : Nat → Int × Int} (ht : TabOk b u n f) {s D E : Int} (h : IsDayOf u n f s D) (k : IsDayOf u n f s E) : D = E := by
  rcases Int.lt_trichotomy D E with g | g | g
  · have := h.after ht g; have := k.lo; omega
  · exact g
  · have := k.after ht g; have := h.lo; omega
def candX (f : Nat → Int × Int) (n : Nat) (lm ls o : Int) (g : Nat → Int × Int) (k : Nat) : Int := numS f n (lm - offK o g k) ls
def candB (u : Int) (f : Nat → Int × Int) (n : Nat) (lm ls o : Int) (g : Nat → Int × Int) (k : Nat) : Bool := hasB u f n (lm - offK o g k) ls
def inB2 (q : Nat) (g : Nat → Int × Int) (k : Nat) (x : Int) : Bool := decide (fromK g k ≤ x) && decide (x ≤ hiK q g k)
def zfound (u : Int) (f : Nat → Int × Int) (n : Nat) (lm ls o : Int) (q : Nat) (g : Nat → Int × Int) : Nat → List Int
  | 0 => []
  | k + 1 => zfound u f n lm ls o q g k ++ (if candB u f n lm ls o g k = true then if inB2 q g k (candX f n lm ls o g k) = true then [candX f n lm ls o g k] else [] else [])
theorem zfound_len (u : Int) (f : Nat → Int × Int) (n : Nat) (lm ls o : Int) (q : Nat) (g : Nat → Int × Int) : ∀ k, (zfound u f n lm ls o q g k).length ≤ k
  | 0 => Nat.le_refl _
  | k + 1 => by
    have := zfound_len u f n lm ls o q g k
    rw [zfound, List.length_append]
    split
    · split <;> simp <;> omega
    · simp; omega
theorem mem_zfound (u : Int) (f : Nat → Int × Int) (n : Nat) (lm ls o : Int) (q : Nat) (g : Nat → Int × Int) (x : Int) : ∀ k, x ∈ zfound u f n lm ls o q g k ↔ ∃ j, j < k ∧ candB u f n lm ls o g j = true ∧ inB2 q g j (candX f n lm ls o g j) = true ∧ candX f n lm ls o g j = x
  | 0 => by simp [zfound]
  | k + 1 => by
    have ih := mem_zfound u f n lm ls o q g x k
    rw [zfound, List.mem_append, ih]
    constructor
    · rintro (⟨j, h1, h2⟩ | h)
      · exact ⟨j, by omega, h2⟩
      · split at h
        · rename_i c1
          split at h
          · rename_i c2
            simp at h
            exact ⟨k, by omega, c1, c2, h.symm⟩
          · simp at h
        · simp at h
    · rintro ⟨j, h1, h2, h3, h4⟩
      by_cases e : j = k
      · subst e; right; rw [if_pos h2, if_pos h3]; simp [h4]
      · exact .inl ⟨j, by omega, h2, h3, h4⟩
theorem zfound_iff {b u : Int} {n : Nat} {f : Nat → Int × Int} (ht : TabOk b u n f) {o : Int} {q : Nat} {g : Nat → Int × Int} (hz : ZoneOk o q g) (lm ls : Int) {x D : Int} (hD : IsDayOf u n f x D) :
    x ∈ zfound u f n lm ls o q g (q + 1) ↔ momM f n D x + offAt o g x (q + 1) = lm ∧ momS f n D x = ls := by
  rw [mem_zfound]
  constructor
  · rintro ⟨j, hj, hb, hi, rfl⟩
    unfold inB2 at hi
    simp only [Bool.and_eq_true, decide_eq_true_eq] at hi
    have hin : InK q g j (candX f n lm ls o g j) := ⟨by omega, hi.1, hi.2⟩
    rw [hin.off hz]
    obtain ⟨h1, h2, h3⟩ := has_mom ht hb
    unfold candX at hD ⊢
    obtain rfl := day_uniq ht hD h1
    rw [h2, h3]
    exact ⟨by omega, rfl⟩
  · rintro ⟨rfl, rfl⟩
    have hm := mom_of ht hD
    have htb := ht.total_bd
    have h1 := ht.begin_mono (show D + 1 ≤ u by have := hD.d2; omega)
    have h2 := ht.begin_mono hD.d1
    rw [ht.begin_first] at h2
    have hlo := hD.lo; have hhi := hD.hi
    obtain ⟨k, hk⟩ := hz.inK (x := x) (by omega) (by omega)
    have he := hk.off hz
    have e : momM f n D x + offAt o g x (q + 1) - offK o g k = momM f n D x := by omega
    refine ⟨k, by have := hk.le; omega, ?_, ?_, ?_⟩
    · unfold candB; rw [e]; exact hm.has
    · unfold candX inB2; rw [e, hm.num]; simp only [Bool.and_eq_true, decide_eq_true_eq]; exact ⟨hk.lo, hk.hi⟩
    · unfold candX; rw [e]; exact hm.num
theorem zfound_day {b u : Int} {n : Nat} {f : Nat → Int × Int} (ht : TabOk b u n f) {o : Int} {q : Nat} {g : Nat → Int × Int} (lm ls : Int) {x : Int} (h : x ∈ zfound u f n lm ls o q g (q + 1)) : ∃ D, IsDayOf u n f x D := by
  rw [mem_zfound] at h
  obtain ⟨j, hj, hb, hi, rfl⟩ := h
  exact ⟨_, (has_mom ht hb).1⟩
theorem zfound_lt {o : Int} {q : Nat} {g : Nat → Int × Int} (hz : ZoneOk o q g) (u : Int) (f : Nat → Int × Int) (n : Nat) (lm ls : Int) : ∀ k, k ≤ q + 1 → (zfound u f n lm ls o q g k).Pairwise (· < ·)
  | 0, _ => List.Pairwise.nil
  | k + 1, hk => by
    rw [zfound, List.pairwise_append]
    refine ⟨zfound_lt hz u f n lm ls k (by omega), ?_, ?_⟩
    · split
      · split
        · exact List.pairwise_singleton _ _
        · exact List.Pairwise.nil
      · exact List.Pairwise.nil
    · intro a ha c hc
      split at hc
      · split at hc
        · rename_i c2
          simp at hc
          subst hc
          rw [mem_zfound] at ha
          obtain ⟨j, hj, hb, hi, rfl⟩ := ha
          unfold inB2 at hi c2
          simp only [Bool.and_eq_true, decide_eq_true_eq] at hi c2
          have := hz.sep hj (by omega)
          omega
        · simp at hc
      · simp at hc
end Go.Proofs.YtgnfaemnehmgcaaGreatDoor.Cal
namespace Go.Proofs.YtgnfaemnehmgcaaGreatDoor.Cal
open Go Go.RowKit
attribute [local go_sem] Oper.semAt_some
set_option maxHeartbeats 1000000 in
theorem rCheckZone_any (o : Int) (n c : Nat) (p : Option Addr) (f : Nat → Int × Int) (w : World) (hs : LpIn w f n p) (hn : n ≤ 1000000000000) :
    Calls Tryz.prog 61 #[.agg #[.int .i64 o, .slice p n c]] w fun e w' => e = .returned (.int .i64 (zoneE o n f)) ∧ Below w.heap.size w w' := by
  have A0 := below_alloc (Below.refl w.heap.size w) (.cells #[.int .i64 o, .slice p n c] 109)
  obtain ⟨x0, x1⟩ := ZBox.new w o n c p 109
  have HBX := Lib.hid (ZBox.new w o n c p 109)
  have HS := Lib.hid (hs.below A0)
  have A0 := Lib.hid A0
  have HIN := Lib.hid (fun v X => show Calls Tryz.prog 90 #[.int .i64 v, .int .i64 (-1440), .int .i64 1440] X fun e w' => e = .returned (.bool (offB v)) ∧ X = w' from in_any v (-1440) 1440 X)
  clear hs
  by_cases h3 : n ≤ 200
  · have h3i : ¬ (200 : Int) < n := by omega
    cases h1 : offB o
    · have HV := Lib.hid (show zoneE o n f = 6 by unfold zoneE; rw [if_pos h3, h1]; rfl)
      have H1 := Lib.hid h1
      clear h1 h3
      rw [HV.out]
      go_enter Tryz.func61, Tryz.ntmps61
      go_wp2_with (go_at_call 90; refine (HIN.out _ _).mono ?_; rintro e w' ⟨rfl, rfl⟩; rw [H1.out])
      go_ret
      exact ⟨rfl, A0.out⟩
    · have HV := Lib.hid (show zoneE o n f = firstE (chE f) n by unfold zoneE; rw [if_pos h3, if_pos h1])
      have H1 := Lib.hid h1
      have H3 := Lib.hid h3
      clear h1 h3
      rw [HV.out]
      go_enter Tryz.func61, Tryz.ntmps61
      go_wp2_with (go_at_call 90; refine (HIN.out _ _).mono ?_; rintro e w' ⟨rfl, rfl⟩; rw [H1.out])
      generalize w.alloc (.cells #[.int .i64 o, .slice p n c] 109) = W0 at *
      go_loopw [2, 3, 4, 5] (fun s2 s3 s4 s5 wr => ∃ (k : Nat) (a5 : Value), k ≤ n ∧ s2 = .int .i64 0 ∧ s3 = .int .i64 (prevZ f k) ∧ s4 = .int .i64 (k : Int) ∧ s5 = a5 ∧ Hid (firstE (chE f) k = 0) ∧ Hid (Below W0.heap.size W0 wr)) (fun _ _ s _ _ => n - (intOf s).toNat)
      case atStart => exact ⟨0, _, Nat.zero_le _, rfl, rfl, rfl, rfl, Lib.hid rfl, Lib.hid (Below.refl _ _)⟩
      case round =>
        clear x0 x1
        obtain ⟨k, a5, hk, rfl, rfl, rfl, rfl, HL, HBW⟩ := hrel
        obtain ⟨x0, x1⟩ := HBX.out.below HBW.out
        have zx := cell_lt x0
        have hn3 := H3.out
        by_cases hlt : k < n
        · have hki : (k : Int) < n := by omega
          have vk : IntKind.i64.wrap ((k : Int) + 1) = (k : Int) + 1 := IntWalk.i64_in _ (by omega)
          obtain ⟨bb, oo, rfl, hsi⟩ := HS.out.resolve_left (by omega)
          obtain ⟨y0, y1⟩ := (hsi.below HBW.out) k hlt
          have zy := cell_lt y0
          have HEF : Hid (chE f k = if offB (f k).2 = true then if 0 ≤ (f k).1 then if prevZ f k < (f k).1 then 0 else 11 else 6 else 6) := Lib.hid rfl
          have HAT := Lib.hid (fun h => firstE_at (g := chE f) hlt HL.out h)
          have HSU := Lib.hid (show chE f k = 0 → firstE (chE f) (k + 1) = 0 from fun h => by rw [firstE, if_pos HL.out]; exact h)
          have HNX := Lib.hid (show (f k).1 = prevZ f (k + 1) by unfold prevZ; rw [if_neg (by omega), Nat.add_sub_cancel])
          have hb1 := below_alloc (Below.refl wr.heap.size wr) (.cells #[.int .i64 (f k).1, .int .i64 (f k).2] 110)
          have q0 : (wr.alloc (.cells #[.int .i64 (f k).1, .int .i64 (f k).2] 110)).cell? ⟨wr.heap.size, 0, none⟩ = some (.int .i64 (f k).1) := by simp
          have q1 : (wr.alloc (.cells #[.int .i64 (f k).1, .int .i64 (f k).2] 110)).cell? ⟨wr.heap.size, 1, none⟩ = some (.int .i64 (f k).2) := by simp
          have HB1 := Lib.hid hb1
          have HK := Lib.hid hlt
          clear hlt hsi hb1
          generalize (f k).1 = dk at *
          generalize (f k).2 = sk at *
          generalize prevZ f k = bk at *
          go_upto_region 10 with fail
          generalize wr.alloc (.cells #[.int .i64 dk, .int .i64 sk] 110) = W1 at *
          have zq := cell_lt q0
          clear y0 y1 zy
          clear x0 x1 zx
          cases cl : offB sk
          · have HE := Lib.hid (show (6 : Int) = firstE (chE f) n by
              have e : chE f k = 6 := by rw [HEF.out, cl]; rfl
              rw [HAT.out (by rw [e]; decide), e])
            have HCL := Lib.hid cl
            clear cl
            go_wp2_with (go_at_call 90; refine (HIN.out _ _).mono ?_; rintro e w' ⟨rfl, rfl⟩; rw [HCL.out])
            go_ret
            exact ⟨ret_i64 HE.out, bt (bt A0.out HBW.out) HB1.out⟩
          · have HCL := Lib.hid cl
            clear cl
            by_cases hz : dk < 0
            · have HE := Lib.hid (show (6 : Int) = firstE (chE f) n by
                have e : chE f k = 6 := by rw [HEF.out, HCL.out, if_pos rfl, if_neg (by omega)]
                rw [HAT.out (by rw [e]; decide), e])
              go_wp2_with (go_at_call 90; refine (HIN.out _ _).mono ?_; rintro e w' ⟨rfl, rfl⟩; rw [HCL.out])
              go_ret
              exact ⟨ret_i64 HE.out, bt (bt A0.out HBW.out) HB1.out⟩
            · by_cases ch : bk < dk
              · have HE := Lib.hid (show chE f k = 0 by rw [HEF.out, HCL.out, if_pos rfl, if_pos (by omega), if_pos ch])
                have hni : ¬ dk ≤ bk := by omega
                go_wp2_with (go_at_call 90; refine (HIN.out _ _).mono ?_; rintro e w' ⟨rfl, rfl⟩; rw [HCL.out])
                go_roundw
                case rel => exact ⟨k + 1, _, HK.out, rfl, by rw [← HNX.out], by simp, rfl, Lib.hid (HSU.out HE.out), Lib.hid (bt HBW.out HB1.out)⟩
                case measure => have := HK.out; simp [intOf]; omega
              · have HE := Lib.hid (show (11 : Int) = firstE (chE f) n by
                  have e : chE f k = 11 := by rw [HEF.out, HCL.out, if_pos rfl, if_pos (by omega), if_neg ch]
                  rw [HAT.out (by rw [e]; decide), e])
                have hni : dk ≤ bk := by omega
                go_wp2_with (go_at_call 90; refine (HIN.out _ _).mono ?_; rintro e w' ⟨rfl, rfl⟩; rw [HCL.out])
                go_ret
                exact ⟨ret_i64 HE.out, bt (bt A0.out HBW.out) HB1.out⟩
        · obtain rfl : k = n := by omega
          have hki : ¬ ((k : Int) < k) := by omega
          have HE := Lib.hid HL.out.symm
          generalize prevZ f k = bk at *
          go_wp2_with fail
          go_ret
          exact ⟨ret_i64 HE.out, bt A0.out HBW.out⟩
  · have h3i : (200 : Int) < n := by omega
    have HV := Lib.hid (show zoneE o n f = 2 by unfold zoneE; rw [if_neg h3])
    clear h3
    rw [HV.out]
    go_enter Tryz.func61, Tryz.ntmps61
    go_wp2_with fail
    go_ret
    exact ⟨rfl, A0.out⟩
theorem offAt_down (o : Int) (g : Nat → Int × Int) (x : Int) (k : Nat) : offAt o g x (k + 1 + 1) = if (g k).1 ≤ x then (g k).2 else offAt o g x (k + 1) := by
  have e1 : fromK g (k + 1) = (g k).1 := by unfold fromK; rw [if_neg (by omega), Nat.add_sub_cancel]
  have e2 : offK o g (k + 1) = (g k).2 := by unfold offK; rw [if_neg (by omega), Nat.add_sub_cancel]
  rw [offAt, e1, e2]
theorem offAt_one (o : Int) (g : Nat → Int × Int) (x : Int) : offAt o g x 1 = o := by
  rw [offAt, offAt]; unfold offK; simp
set_option maxHeartbeats 1000000 in
theorem holds_any (o : Int) (n c : Nat) (p : Option Addr) (f : Nat → Int × Int) (x : Int) (w : World) (hs : LpIn w f n p) (hn : n ≤ 1000000000000) :
    Calls Tryz.prog 124 #[.agg #[.int .i64 o, .slice p n c], .int .i64 x] w fun e w' => e = .returned (.int .i64 (offAt o f x (n + 1))) ∧ Below w.heap.size w w' := by
  have A0 := below_alloc (Below.refl w.heap.size w) (.cells #[.int .i64 o, .slice p n c] 109)
  obtain ⟨x0, x1⟩ := ZBox.new w o n c p 109
  have HS := Lib.hid (hs.below A0)
  have A0 := Lib.hid A0
  have v0 : IntKind.i64.wrap ((n : Int) - 1) = (n : Int) - 1 := IntWalk.i64_in _ (by omega)
  clear hs
  go_enter Tryz.func124, Tryz.ntmps124
  go_upto_region 1 with fail
  generalize w.alloc (.cells #[.int .i64 o, .slice p n c] 109) = W0 at *
  have zx := cell_lt x0
  go_wp2_with fail
  go_loopw [4, 5] (fun s4 s5 wr => ∃ (i : Int) (v : Value), -1 ≤ i ∧ i < (n : Int) ∧ s4 = v ∧ s5 = .int .i64 i ∧ W0 = wr ∧ Hid (offAt o f x (n + 1) = offAt o f x ((i + 1).toNat + 1))) (fun _ s _ => (intOf s + 1).toNat)
  case atStart => exact ⟨_, _, by omega, by omega, rfl, rfl, rfl, Lib.hid (by rw [show ((n : Int) - 1 + 1).toNat = n by omega])⟩
  case round =>
    obtain ⟨i, v, h1, h2, rfl, rfl, rfl, HO⟩ := hrel
    by_cases hz : 0 ≤ i
    · obtain ⟨k, rfl⟩ : ∃ k : Nat, i = (k : Int) := ⟨i.toNat, by omega⟩
      have hkn : k < n := by omega
      obtain ⟨bb, oo, rfl, hi⟩ := HS.out.resolve_left (by omega)
      obtain ⟨y0, y1⟩ := hi k hkn
      have zy := cell_lt y0
      have vk : IntKind.i64.wrap ((k : Int) - 1) = (k : Int) - 1 := IntWalk.i64_in _ (by omega)
      have HST := Lib.hid (offAt_down o f x k)
      rw [show ((k : Int) + 1).toNat = k + 1 by omega] at HO
      have HK := Lib.hid h2
      clear hi
      generalize (f k).1 = a at *
      generalize (f k).2 = bo at *
      by_cases hc : a ≤ x
      · have HE := Lib.hid (show bo = offAt o f x (n + 1) by rw [HO.out, HST.out, if_pos hc])
        go_wp2_with fail
        go_ret
        exact ⟨ret_i64 HE.out, A0.out⟩
      · have HE := Lib.hid (show offAt o f x (n + 1) = offAt o f x (k + 1) by rw [HO.out, HST.out, if_neg hc])
        go_wp2_with fail
        go_roundw
        case rel => exact ⟨_, _, by omega, by have := HK.out; omega, rfl, rfl, trivial, Lib.hid (by rw [HE.out, show ((k : Int) - 1 + 1).toNat = k by omega])⟩
        case measure => simp [intOf]
    · obtain rfl : i = -1 := by omega
      have HE := Lib.hid (show o = offAt o f x (n + 1) by rw [HO.out]; exact (offAt_one o f x).symm)
      go_wp2_with fail
      go_ret
      exact ⟨ret_i64 HE.out, A0.out⟩
end Go.Proofs.YtgnfaemnehmgcaaGreatDoor.Cal
