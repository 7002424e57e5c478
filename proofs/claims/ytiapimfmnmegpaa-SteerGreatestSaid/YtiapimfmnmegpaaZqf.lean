/- Stage 6 (steer): small functions of the program. -/
import Derived.Test.YtiapimfmnmegpaaZpl
namespace Go.Proofs.Ytiapimfmnmegpaa.St
open Go Go.RowKit Go.Shelf
attribute [local go_sem] Oper.semAt_some
theorem within_any (n lo hi : Int) (w : World) :
    Calls Try.prog 35 #[.int .i64 n, .int .i64 lo, .int .i64 hi] w fun e w' => e = .returned (.bool (decide (lo ≤ n) && decide (n ≤ hi))) ∧ w = w' := by
  by_cases h : lo ≤ n
  · have E := Lib.hid (show decide (n ≤ hi) = (decide (lo ≤ n) && decide (n ≤ hi)) by simp [h])
    go_enter Try.func35, Try.ntmps35
    go_wp2
    go_ret
    exact ⟨ret_bool E.out, rfl⟩
  · have E := Lib.hid (show false = (decide (lo ≤ n) && decide (n ≤ hi)) by simp [h])
    go_enter Try.func35, Try.ntmps35
    go_wp2
    go_ret
    exact ⟨ret_bool E.out, rfl⟩
/-- a plan's value, a state's -/
theorem size_any {l r s z : Int} (h : PlanOk l r s z) (w : World) :
    Calls Try.prog 37 #[.agg #[.int .i64 l, .int .i64 r, .int .i64 s, .int .i64 z]] w fun e w' => e = .returned (.int .i64 (sizP l r)) ∧ Below w.heap.size w w' := by
  have A0 := Lib.hid (below_alloc (Below.refl w.heap.size w) (.cells #[.int .i64 l, .int .i64 r, .int .i64 s, .int .i64 z] 27))
  have hb := siz_bd h
  have hE := Lib.hid (show sizP l r = (2 * l + 1) * (2 * r + 1) from rfl)
  have v5 : IntKind.i64.wrap ((2 * l + 1) * (2 * r + 1)) = (2 * l + 1) * (2 * r + 1) := by rw [← hE.out]; exact IntWalk.i64_in _ (by omega)
  obtain ⟨_, _, _, _, _, _, _, _⟩ := h
  have v1 : IntKind.i64.wrap (2 * l) = 2 * l := IntWalk.i64_in _ (by omega)
  have v2 : IntKind.i64.wrap (2 * l + 1) = 2 * l + 1 := IntWalk.i64_in _ (by omega)
  have v3 : IntKind.i64.wrap (2 * r) = 2 * r := IntWalk.i64_in _ (by omega)
  have v4 : IntKind.i64.wrap (2 * r + 1) = 2 * r + 1 := IntWalk.i64_in _ (by omega)
  rw [hE.out]
  clear hb
  go_enter Try.func37, Try.ntmps37
  go_wp2
  go_ret
  exact ⟨rfl, A0.out⟩
theorem two_below (w : World) (l r s z e q : Int) : Below w.heap.size w ((w.alloc (.cells #[.int .i64 l, .int .i64 r, .int .i64 s, .int .i64 z] 27)).alloc (.cells #[.int .i64 e, .int .i64 q] 56)) := below_alloc (below_alloc (Below.refl _ _) _) _
theorem index_any {l r s z e q : Int} (h : PlanOk l r s z) (hh : hasP l r e q = true) (w : World) :
    Calls Try.prog 30 #[.agg #[.int .i64 l, .int .i64 r, .int .i64 s, .int .i64 z], .agg #[.int .i64 e, .int .i64 q]] w fun x w' => x = .returned (.int .i64 (idxP l r e q)) ∧ Below w.heap.size w w' := by
  have A0 := Lib.hid (two_below w l r s z e q)
  have hb := idx_bd h hh
  have hb2 := siz_bd h
  have hE : idxP l r e q = (e + l) * (2 * r + 1) + q + r := rfl
  obtain ⟨⟨h1, h2⟩, h3, h4⟩ := has_iff.1 hh
  obtain ⟨_, _, _, _, _, _, _, _⟩ := h
  have v1 : IntKind.i64.wrap (e + l) = e + l := IntWalk.i64_in _ (by omega)
  have v3 : IntKind.i64.wrap (2 * r) = 2 * r := IntWalk.i64_in _ (by omega)
  have v4 : IntKind.i64.wrap (2 * r + 1) = 2 * r + 1 := IntWalk.i64_in _ (by omega)
  have v5 : IntKind.i64.wrap ((e + l) * (2 * r + 1)) = (e + l) * (2 * r + 1) := IntWalk.i64_in _ (by omega)
  have v6 : IntKind.i64.wrap ((e + l) * (2 * r + 1) + q) = (e + l) * (2 * r + 1) + q := IntWalk.i64_in _ (by omega)
  have v7 : IntKind.i64.wrap ((e + l) * (2 * r + 1) + q + r) = (e + l) * (2 * r + 1) + q + r := IntWalk.i64_in _ (by omega)
  rw [hE]
  clear hb hb2 hE hh
  go_enter Try.func30, Try.ntmps30
  go_wp2
  go_ret
  exact ⟨rfl, A0.out⟩
theorem has_any {l r s z e q : Int} (h : PlanOk l r s z) (w : World) :
    Calls Try.prog 45 #[.agg #[.int .i64 l, .int .i64 r, .int .i64 s, .int .i64 z], .agg #[.int .i64 e, .int .i64 q]] w fun x w' => x = .returned (.bool (hasP l r e q)) ∧ Below w.heap.size w w' := by
  have A0 := Lib.hid (two_below w l r s z e q)
  obtain ⟨_, _, _, _, _, _, _, _⟩ := h
  have v1 : IntKind.i64.wrap (-l) = -l := IntWalk.i64_in _ (by omega)
  have v2 : IntKind.i64.wrap (-r) = -r := IntWalk.i64_in _ (by omega)
  cases h0 : (decide (-l ≤ e) && decide (e ≤ l))
  · have HV := Lib.hid (show false = hasP l r e q by unfold hasP; rw [h0]; rfl)
    have H0 := Lib.hid h0
    clear h0
    go_enter Try.func45, Try.ntmps45
    go_wp2_with (go_at_call 35; refine (within_any _ _ _ _).mono ?_; rintro e w1 ⟨rfl, rfl⟩; first | rw [H0.out])
    go_ret
    exact ⟨ret_bool HV.out, A0.out⟩
  · have HV := Lib.hid (show (decide (-r ≤ q) && decide (q ≤ r)) = hasP l r e q by unfold hasP; rw [h0]; rfl)
    have H0 := Lib.hid h0
    clear h0
    go_enter Try.func45, Try.ntmps45
    go_wp2_with (go_at_call 35; refine (within_any _ _ _ _).mono ?_; rintro e w1 ⟨rfl, rfl⟩; first | rw [H0.out] | rw [HV.out])
    go_ret
    exact ⟨rfl, A0.out⟩
theorem allows_any {l r s z e g q : Int} (h : PlanOk l r s z) (hg : -r ≤ g ∧ g ≤ r) (w : World) :
    Calls Try.prog 43 #[.agg #[.int .i64 l, .int .i64 r, .int .i64 s, .int .i64 z], .agg #[.int .i64 e, .int .i64 g], .int .i64 q] w fun x w' => x = .returned (.bool (allP r s g q)) ∧ Below w.heap.size w w' := by
  have A0 := Lib.hid (two_below w l r s z e g)
  obtain ⟨_, _, _, _, _, _, _, _⟩ := h
  have v2 : IntKind.i64.wrap (-r) = -r := IntWalk.i64_in _ (by omega)
  have v3 : IntKind.i64.wrap (g - s) = g - s := IntWalk.i64_in _ (by omega)
  have v4 : IntKind.i64.wrap (g + s) = g + s := IntWalk.i64_in _ (by omega)
  obtain ⟨mx, hmx⟩ : ∃ mx, (if -r < g - s then g - s else -r) = mx := ⟨_, rfl⟩
  obtain ⟨mn, hmn⟩ : ∃ mn, (if g + s < r then g + s else r) = mn := ⟨_, rfl⟩
  have HV := Lib.hid (show (decide (mx ≤ q) && decide (q ≤ mn)) = allP r s g q by
    unfold allP
    rw [← hmx, ← hmn, Bool.eq_iff_iff]
    simp only [Bool.and_eq_true, decide_eq_true_eq]
    split <;> split <;> omega)
  go_enter Try.func43, Try.ntmps43
  go_wp2_with (go_at_call 35; refine (within_any _ _ _ _).mono ?_; rintro e w1 ⟨rfl, rfl⟩; rw [HV.out])
  go_ret
  exact ⟨rfl, A0.out⟩
/-- a block of two cells that may be written -/
structure Res2 (w : World) (b : Nat) : Prop where
  a0 : ∃ v, w.cell? ⟨b, 0, none⟩ = some v
  a1 : ∃ v, w.cell? ⟨b, 1, none⟩ = some v
  z : ∀ i, w.frozen? ⟨b, i, none⟩ = false
theorem Res2.new (w : World) (x y : Value) (t : TypeId) : Res2 (w.alloc (.cells #[x, y] t)) w.heap.size := ⟨⟨x, by simp⟩, ⟨y, by simp⟩, fun i => by simp⟩
theorem after_start (w : World) (e g : Int) : ((w.alloc (.cells #[.int .i64 e, .int .i64 g] 56)).alloc (.cells #[.int .i64 0, .int .i64 0] 56)).cell? ⟨w.heap.size, 0, none⟩ = some (.int .i64 e) ∧
    Res2 ((w.alloc (.cells #[.int .i64 e, .int .i64 g] 56)).alloc (.cells #[.int .i64 0, .int .i64 0] 56)) (w.heap.size + 1) ∧ Below w.heap.size w ((w.alloc (.cells #[.int .i64 e, .int .i64 g] 56)).alloc (.cells #[.int .i64 0, .int .i64 0] 56)) := by
  have b1 := below_alloc (Below.refl w.heap.size w) (.cells #[.int .i64 e, .int .i64 g] 56)
  have h1 : (w.alloc (.cells #[.int .i64 e, .int .i64 g] 56)).cell? ⟨w.heap.size, 0, none⟩ = some (.int .i64 e) := by simp
  have e1 : (w.alloc (.cells #[.int .i64 e, .int .i64 g] 56)).heap.size = w.heap.size + 1 := by simp
  generalize w.alloc (.cells #[.int .i64 e, .int .i64 g] 56) = W1 at *
  have b2 := below_alloc (Below.refl W1.heap.size W1) (.cells #[.int .i64 0, .int .i64 0] 56)
  have h2 := Res2.new W1 (.int .i64 0) (.int .i64 0) 56
  rw [e1] at h2
  exact ⟨cell_below b2 h1, h2, bt b1 b2⟩
theorem after_any {e g q d : Int} (h1 : -1000000 ≤ e + q ∧ e + q ≤ 1000000) (h2 : -1000000 ≤ e + q + d ∧ e + q + d ≤ 1000000) (w : World) :
    Calls Try.prog 41 #[.agg #[.int .i64 e, .int .i64 g], .int .i64 q, .int .i64 d] w fun x w' => x = .returned (.agg #[.int .i64 (e + q + d), .int .i64 q]) ∧ Below w.heap.size w w' := by
  have v1 : IntKind.i64.wrap (e + q) = e + q := IntWalk.i64_in _ (by omega)
  have v2 : IntKind.i64.wrap (e + q + d) = e + q + d := IntWalk.i64_in _ (by omega)
  obtain ⟨x0, H2, A0⟩ := after_start w e g
  have H2 := Lib.hid H2
  have A0 := Lib.hid A0
  clear h1 h2
  go_enter Try.func41, Try.ntmps41
  go_upto_region 1 with fail
  generalize (w.alloc (.cells #[.int .i64 e, .int .i64 g] 56)).alloc (.cells #[.int .i64 0, .int .i64 0] 56) = W1 at *
  have zx := cell_lt x0
  obtain ⟨⟨u0, r0⟩, ⟨u1, r1⟩, rz⟩ := H2.out
  have z0 := rz 0
  have z1 := rz 1
  have zr := cell_lt r0
  clear rz
  go_wp2
  refine bodyPost_ret (v := .agg #[.int .i64 (e + q + d), .int .i64 q]) (by simp [results, Try.results41, go_sem, r0, r1]) rfl ⟨rfl, ?_⟩
  exact ((A0.out).setCell (p := ⟨w.heap.size + 1, _, none⟩) (Nat.le_succ _) _).setCell (p := ⟨w.heap.size + 1, _, none⟩) (Nat.le_succ _) _
theorem magnitude_any {n : Int} (h : -1000000 ≤ n ∧ n ≤ 1000000) (w : World) :
    Calls Try.prog 54 #[.int .i64 n] w fun x w' => x = .returned (.int .i64 (n.natAbs : Int)) ∧ w = w' := by
  have v1 : IntKind.i64.wrap (-n) = -n := IntWalk.i64_in _ (by omega)
  obtain ⟨mx, hmx⟩ : ∃ mx, (if n < -n then -n else n) = mx := ⟨_, rfl⟩
  have HV := Lib.hid (show mx = (n.natAbs : Int) by rw [← hmx]; split <;> omega)
  go_enter Try.func54, Try.ntmps54
  go_wp2
  go_ret
  exact ⟨ret_i64 HV.out, rfl⟩
/-- a law in its box: its plan, its numbers -/
def CtlAt (W : World) (B : Nat) (l r s z : Int) (p : Option Addr) (N c : Nat) : Prop := W.heap[B]? = some (.cells #[.int .i64 l, .int .i64 r, .int .i64 s, .int .i64 z, .slice p N c] 68)
structure CtlC (W : World) (B : Nat) (l r s z : Int) (p : Option Addr) (N c : Nat) : Prop where
  c0 : W.cell? ⟨B, 0, none⟩ = some (.int .i64 l)
  c1 : W.cell? ⟨B, 1, none⟩ = some (.int .i64 r)
  c2 : W.cell? ⟨B, 2, none⟩ = some (.int .i64 s)
  c3 : W.cell? ⟨B, 3, none⟩ = some (.int .i64 z)
  c4 : W.cell? ⟨B, 4, none⟩ = some (.slice p N c)
theorem CtlAt.c {W : World} {B : Nat} {l r s z : Int} {p : Option Addr} {N c : Nat} (h : CtlAt W B l r s z p N c) : CtlC W B l r s z p N c := by
  unfold CtlAt at h
  constructor <;> simp [World.cell?, h]
theorem CtlAt.new (W : World) (l r s z : Int) (p : Option Addr) (N c : Nat) : CtlAt (W.alloc (.cells #[.int .i64 l, .int .i64 r, .int .i64 s, .int .i64 z, .slice p N c] 68)) W.heap.size l r s z p N c := World.alloc_heap_new W _
theorem CtlAt.below {W X : World} {B : Nat} {l r s z : Int} {p : Option Addr} {N c : Nat} (h : CtlAt W B l r s z p N c) (hb : Below W.heap.size W X) : CtlAt X B l r s z p N c := heap_below hb h
/-- a state in its box -/
def EntAt (W : World) (B : Nat) (e q : Int) : Prop := W.heap[B]? = some (.cells #[.int .i64 e, .int .i64 q] 56)
theorem EntAt.c0 {W : World} {B : Nat} {e q : Int} (h : EntAt W B e q) : W.cell? ⟨B, 0, none⟩ = some (.int .i64 e) := by unfold EntAt at h; simp [World.cell?, h]
theorem EntAt.c1 {W : World} {B : Nat} {e q : Int} (h : EntAt W B e q) : W.cell? ⟨B, 1, none⟩ = some (.int .i64 q) := by unfold EntAt at h; simp [World.cell?, h]
theorem EntAt.new (W : World) (e q : Int) : EntAt (W.alloc (.cells #[.int .i64 e, .int .i64 q] 56)) W.heap.size e q := World.alloc_heap_new W _
theorem EntAt.below {W X : World} {B : Nat} {e q : Int} (h : EntAt W B e q) (hb : Below W.heap.size W X) : EntAt X B e q := heap_below hb h
/-- a law and a state are put into boxes -/
theorem ctl_start (w : World) (l r s z : Int) (p : Option Addr) (N c : Nat) (e q : Int) :
    ∃ W0, (w.alloc (.cells #[.int .i64 l, .int .i64 r, .int .i64 s, .int .i64 z, .slice p N c] 68)).alloc (.cells #[.int .i64 e, .int .i64 q] 56) = W0 ∧
      CtlAt W0 w.heap.size l r s z p N c ∧ EntAt W0 (w.heap.size + 1) e q ∧ Below w.heap.size w W0 ∧ W0.heap.size = w.heap.size + 2 := by
  refine ⟨_, rfl, ?_⟩
  have b1 := below_alloc (Below.refl w.heap.size w) (.cells #[.int .i64 l, .int .i64 r, .int .i64 s, .int .i64 z, .slice p N c] 68)
  have h1 := CtlAt.new w l r s z p N c
  have e1 : (w.alloc (.cells #[.int .i64 l, .int .i64 r, .int .i64 s, .int .i64 z, .slice p N c] 68)).heap.size = w.heap.size + 1 := by simp
  generalize w.alloc (.cells #[.int .i64 l, .int .i64 r, .int .i64 s, .int .i64 z, .slice p N c] 68) = W1 at *
  have b2 := below_alloc (Below.refl W1.heap.size W1) (.cells #[.int .i64 e, .int .i64 q] 56)
  have h2 := EntAt.new W1 e q
  rw [e1] at h2
  exact ⟨h1.below b2, h2, bt b1 b2, by simp [e1]⟩
theorem at_any {l r s z e q : Int} (h : PlanOk l r s z) (f : Nat → Int) (p : Option Addr) (N c : Nat) (w : World) (hN : sizP l r = (N : Int)) (hn : NumIn w f N p) (_hc : N ≤ c) :
    Calls Try.prog 42 #[.agg #[.int .i64 l, .int .i64 r, .int .i64 s, .int .i64 z, .slice p N c], .agg #[.int .i64 e, .int .i64 q]] w fun x w' => x = .returned (.int .i64 (atP l r f e q)) ∧ Below w.heap.size w w' := by
  obtain ⟨W0, hW0, hC, hE, hB, hsz⟩ := ctl_start w l r s z p N c e q
  have HN := Lib.hid (hn.below hB)
  have HB := Lib.hid hB
  have HS := Lib.hid (siz_bd h)
  have HX := Lib.hid (show ∀ X, Below W0.heap.size W0 X → CtlC X w.heap.size l r s z p N c ∧ X.cell? ⟨w.heap.size + 1, 0, none⟩ = some (.int .i64 e) ∧ X.cell? ⟨w.heap.size + 1, 1, none⟩ = some (.int .i64 q) from
      fun X hX => ⟨(hC.below hX).c, (hE.below hX).c0, (hE.below hX).c1⟩)
  clear hn hC hE hsz hB
  cases hh : hasP l r e q
  · have HV := Lib.hid (at_not (f := f) hh)
    have HH := Lib.hid (fun W => has_any (e := e) (q := q) h W)
    rw [hh] at HH
    rw [HV.out]
    clear hh h
    go_enter Try.func42, Try.ntmps42
    go_upto_region 1 with fail
    clear hW0
    obtain ⟨⟨x0, x1, x2, x3, x4⟩, y0, y1⟩ := HX.out W0 (Below.refl _ _)
    have zx := cell_lt x0
    have zy := cell_lt y0
    go_wp2_with (go_at_call 45; refine (HH.out _).mono ?_; rintro e w1 ⟨rfl, hb1⟩; have HB1 := Lib.hid hb1; clear hb1 x0 x1 x2 x3 x4 y0 y1 zx zy)
    go_ret
    exact ⟨rfl, bt HB.out HB1.out⟩
  · have HV := Lib.hid (at_has (f := f) hh)
    have hi := idx_bd h hh
    have HH := Lib.hid (fun W => has_any (e := e) (q := q) h W)
    rw [hh] at HH
    have HI := Lib.hid (fun W => index_any h hh W)
    rw [HV.out]
    have hs := HS.out
    obtain ⟨k, hk⟩ : ∃ k : Nat, idxP l r e q = (k : Int) := ⟨(idxP l r e q).toNat, by omega⟩
    rw [hk] at HI hi ⊢
    have hkN : k < N := by omega
    have hkI : (k : Int) < N := by omega
    have hk0 : (0 : Int) ≤ k := by omega
    rw [Int.toNat_natCast]
    clear hh h hi hk hs hN
    go_enter Try.func42, Try.ntmps42
    go_upto_region 1 with fail
    clear hW0
    obtain ⟨⟨x0, x1, x2, x3, x4⟩, y0, y1⟩ := HX.out W0 (Below.refl _ _)
    have zx := cell_lt x0
    have zy := cell_lt y0
    go_upto_region 3 with (go_at_call 45; refine (HH.out _).mono ?_; rintro e w1 ⟨rfl, hb1⟩; have HB1 := Lib.hid hb1; clear hb1 x0 x1 x2 x3 x4 y0 y1 zx zy)
    obtain ⟨⟨x0, x1, x2, x3, x4⟩, y0, y1⟩ := HX.out _ HB1.out
    have zx := cell_lt x0
    have zy := cell_lt y0
    obtain ⟨b, o, rfl, hi⟩ := (HN.out.below HB1.out).resolve_left (by omega)
    have hz := hi k hkN
    have zz := cell_lt hz
    clear hi
    have HI2 := Lib.hid (fun X (hX : Below w1.heap.size w1 X) => Calls.bel hX (HI.out X))
    have HK := Lib.hid (show ∀ X, Below w1.heap.size w1 X → (fun w' => Below w1.heap.size w1 w' ∧ w'.cell? ⟨w.heap.size, 0, none⟩ = some (.int .i64 l) ∧ w'.cell? ⟨w.heap.size, 1, none⟩ = some (.int .i64 r) ∧ w'.cell? ⟨w.heap.size, 2, none⟩ = some (.int .i64 s) ∧ w'.cell? ⟨w.heap.size, 3, none⟩ = some (.int .i64 z) ∧ w'.cell? ⟨w.heap.size, 4, none⟩ = some (.slice (some ⟨b, o, none⟩) N c) ∧ w'.cell? ⟨w.heap.size + 1, 0, none⟩ = some (.int .i64 e) ∧ w'.cell? ⟨w.heap.size + 1, 1, none⟩ = some (.int .i64 q) ∧ w'.cell? ⟨b, o + k, none⟩ = some (.int .i64 (f k))) X from
      fun X hX => ⟨hX, cell_below hX x0, cell_below hX x1, cell_below hX x2, cell_below hX x3, cell_below hX x4, cell_below hX y0, cell_below hX y1, cell_below hX hz⟩)
    have HB0 := Lib.hid (Below.refl w1.heap.size w1)
    clear HI HH HX HN HV HS
    go_region_held3 (fun w' => Below w1.heap.size w1 w' ∧ w'.cell? ⟨w.heap.size, 0, none⟩ = some (.int .i64 l) ∧ w'.cell? ⟨w.heap.size, 1, none⟩ = some (.int .i64 r) ∧ w'.cell? ⟨w.heap.size, 2, none⟩ = some (.int .i64 s) ∧ w'.cell? ⟨w.heap.size, 3, none⟩ = some (.int .i64 z) ∧ w'.cell? ⟨w.heap.size, 4, none⟩ = some (.slice (some ⟨b, o, none⟩) N c) ∧ w'.cell? ⟨w.heap.size + 1, 0, none⟩ = some (.int .i64 e) ∧ w'.cell? ⟨w.heap.size + 1, 1, none⟩ = some (.int .i64 q) ∧ w'.cell? ⟨b, o + k, none⟩ = some (.int .i64 (f k)))
      (exact HK.out _ (by first | assumption | exact HB0.out | exact Below.drew HB0.out))
      (first | (go_at_call 30; refine (HI2.out _ (by first | assumption | exact HB0.out | exact Below.drew HB0.out)).mono ?_; rintro e w2 ⟨rfl, hb2⟩))
    have HB2 := Lib.hid hb2
    clear hb2
    go_wp2
    go_ret
    exact ⟨rfl, bt HB.out (bt HB1.out HB2.out)⟩
theorem meant_any {l r s z e q : Int} (h : PlanOk l r s z) (f : Nat → Int) (p : Option Addr) (N c : Nat) (w : World) (hN : sizP l r = (N : Int)) (hn : NumIn w f N p) (hc : N ≤ c) :
    Calls Try.prog 36 #[.agg #[.int .i64 l, .int .i64 r, .int .i64 s, .int .i64 z, .slice p N c], .agg #[.int .i64 e, .int .i64 q]] w fun x w' => x = .returned (.bool (meaP l r f e q)) ∧ Below w.heap.size w w' := by
  obtain ⟨W0, hW0, hC, hE, hB, hsz⟩ := ctl_start w l r s z p N c e q
  have HA := Lib.hid (at_any (e := e) (q := q) h f p N c W0 hN (hn.below hB) hc)
  have HB := Lib.hid hB
  have HV := Lib.hid (show meaP l r f e q = decide (atP l r f e q < 1000) from rfl)
  rw [HV.out]
  generalize atP l r f e q = v at *
  obtain ⟨x0, x1, x2, x3, x4⟩ := hC.c
  have y0 := hE.c0
  have y1 := hE.c1
  have zx := cell_lt x0
  have zy := cell_lt y0
  clear hn h hc hC hE hB hsz
  go_enter Try.func36, Try.ntmps36
  go_upto_region 1 with fail
  clear hW0
  go_wp2_with (go_at_call 42; refine HA.out.mono ?_; rintro e w1 ⟨rfl, hb1⟩; have HB1 := Lib.hid hb1; clear hb1 x0 x1 x2 x3 x4 y0 y1 zx zy)
  go_ret
  exact ⟨rfl, bt HB.out HB1.out⟩
end Go.Proofs.Ytiapimfmnmegpaa.St
