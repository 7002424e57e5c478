/-  -/
import Derived.Test.YtgnfaemnehmgcaaGreatDoorQ16
import Derived.Test.YtgnfaemnehmgcaaGreatDoorQ09
namespace Go.Proofs.YtgnfaemnehmgcaaGreatDoor.Cal
open Go Go.RowKit
attribute [local go_sem] Oper.semAt_some
theorem ExtB.newR (w : World) (b1 u1 : Int) (n1 c1 : Nat) (p1 : Option Addr) (b2 u2 : Int) (n2 c2 : Nat) (p2 : Option Addr) :
    ExtB (((w.alloc (.cells #[.int .i64 b1, .slice p1 n1 c1, .int .i64 u1] 55)).alloc (.cells #[.int .i64 b2, .slice p2 n2 c2, .int .i64 u2] 55)).alloc (.cells #[.int .i64 0, .slice none 0 0, .int .i64 0] 55)) w.heap.size b1 u1 n1 c1 p1 b2 u2 n2 c2 p2 := by
  have t1 := TBox.new w b1 u1 n1 c1 p1 55
  have b2' := below_alloc (Below.refl (w.alloc (.cells #[.int .i64 b1, .slice p1 n1 c1, .int .i64 u1] 55)).heap.size (w.alloc (.cells #[.int .i64 b1, .slice p1 n1 c1, .int .i64 u1] 55))) (.cells #[.int .i64 b2, .slice p2 n2 c2, .int .i64 u2] 55)
  have e1 : (w.alloc (.cells #[.int .i64 b1, .slice p1 n1 c1, .int .i64 u1] 55)).heap.size = w.heap.size + 1 := by simp
  have t2 := TBox.new (w.alloc (.cells #[.int .i64 b1, .slice p1 n1 c1, .int .i64 u1] 55)) b2 u2 n2 c2 p2 55
  have z2 : ∀ i, ((w.alloc (.cells #[.int .i64 b1, .slice p1 n1 c1, .int .i64 u1] 55)).alloc (.cells #[.int .i64 b2, .slice p2 n2 c2, .int .i64 u2] 55)).frozen? ⟨(w.alloc (.cells #[.int .i64 b1, .slice p1 n1 c1, .int .i64 u1] 55)).heap.size, i, none⟩ = false := fun i => by simp
  have t1' := t1.below b2'
  rw [e1] at t2 z2
  generalize hW : (w.alloc (.cells #[.int .i64 b1, .slice p1 n1 c1, .int .i64 u1] 55)).alloc (.cells #[.int .i64 b2, .slice p2 n2 c2, .int .i64 u2] 55) = W at *
  have e2 : W.heap.size = w.heap.size + 1 + 1 := by rw [← hW]; simp
  have b3 := below_alloc (Below.refl W.heap.size W) (.cells #[.int .i64 0, .slice none 0 0, .int .i64 0] 55)
  have r3 := Res3.new W (.int .i64 0) (.slice none 0 0) (.int .i64 0) 55
  rw [e2] at r3
  exact ⟨t1'.below b3, t2.below b3, fun i => (b3.frozen (p := ⟨w.heap.size + 1, i, none⟩) (cell_lt t2.c0)).trans (z2 i), r3⟩
def goodE (u1 : Int) (f g : Nat → Int × Int) (n1 i : Nat) : Prop := (i < n1 → f i = g i) ∧ (n1 ≤ i → u1 ≤ (g i).1)
set_option maxRecDepth 100000 in
set_option maxHeartbeats 4000000 in
theorem rExt_bad1 {b1 b2 e1 e2 u1 u2 : Int} {n1 n2 c1 c2 : Nat} {p1 p2 : Option Addr} {f g : Nat → Int × Int} (h1 : tabE b1 u1 n1 f = e1) (h2 : tabE b2 u2 n2 g = e2) (he : e1 ≠ 0)
    (w : World) (hs1 : LpIn w f n1 p1) (hs2 : LpIn w g n2 p2) (hm1 : n1 ≤ 1000) (hm2 : n2 ≤ 1000) :
    Calls Tryz.prog 16 #[.agg #[.int .i64 b1, .slice p1 n1 c1, .int .i64 u1], .agg #[.int .i64 b2, .slice p2 n2 c2, .int .i64 u2]] w fun e w' => e = .returned (.tuple #[.agg #[.int .i64 0, .slice none 0 0, .int .i64 0], .int .i64 e1]) ∧ Below w.heap.size w w' := by
  have A1 := below_alloc (Below.refl w.heap.size w) (.cells #[.int .i64 b1, .slice p1 n1 c1, .int .i64 u1] 55)
  have A2 := below_alloc A1 (.cells #[.int .i64 b2, .slice p2 n2 c2, .int .i64 u2] 55)
  have A3 := below_alloc A2 (.cells #[.int .i64 0, .slice none 0 0, .int .i64 0] 55)
  have HX0 := Lib.hid (ExtB.newR w b1 u1 n1 c1 p1 b2 u2 n2 c2 p2)
  have HS1 := Lib.hid (hs1.below A3)
  have HS2 := Lib.hid (hs2.below A3)
  have HM := Lib.hid (And.intro hm1 hm2)
  have HH := Lib.hid (And.intro h1 h2)
  have A3 := Lib.hid A3
  have heq : (e1 == 0) = false := by simpa using he
  clear A1 A2 h1 h2 hs1 hs2 hm1 hm2
  go_enter Tryz.func16, Tryz.ntmps16
  go_upto_region 1 with fail
  generalize ((w.alloc (.cells #[.int .i64 b1, .slice p1 n1 c1, .int .i64 u1] 55)).alloc (.cells #[.int .i64 b2, .slice p2 n2 c2, .int .i64 u2] 55)).alloc (.cells #[.int .i64 0, .slice none 0 0, .int .i64 0] 55) = W1 at *
  obtain ⟨a, ha⟩ : ∃ a, w.heap.size = a := ⟨_, rfl⟩
  have HAE := Lib.hid ha
  rw [ha] at HX0 ⊢
  clear ha
  have N1 := Lib.hid (show Calls Tryz.prog 34 #[.agg #[.int .i64 b1, .slice p1 n1 c1, .int .i64 u1]] W1 fun e w' => e = .returned (.int .i64 e1) ∧ Below W1.heap.size W1 w' by have := rCheck_any b1 u1 n1 c1 p1 f W1 HS1.out (by have := HM.out.1; omega); rwa [HH.out.1] at this)
  have N2 := Lib.hid (show ∀ X, Below W1.heap.size W1 X → Calls Tryz.prog 34 #[.agg #[.int .i64 b2, .slice p2 n2 c2, .int .i64 u2]] X fun e w' => e = .returned (.int .i64 e2) ∧ Below X.heap.size X w' from fun X hX => by have := rCheck_any b2 u2 n2 c2 p2 g X (HS2.out.below hX) (by have := HM.out.2; omega); rwa [HH.out.2] at this)
  obtain ⟨⟨x0, x1, x2⟩, ⟨y0, y1, y2⟩, bz, rr⟩ := HX0.out
  have zx := cell_lt x0
  have zy := cell_lt y0
  clear bz
  clear rr
  go_upto_region 2 with (go_at_call 34; refine N1.out.mono ?_; rintro e w3 ⟨rfl, hb3⟩; have HB3 := Lib.hid hb3; clear hb3)
  clear x0 x1 x2 y0 y1 y2 zx zy
  obtain ⟨⟨x0, x1, x2⟩, ⟨y0, y1, y2⟩, bz, rr⟩ := (HX0.out.below HB3.out)
  have zx := cell_lt x0
  have zy := cell_lt y0
  clear bz
  obtain ⟨⟨v0, r0⟩, ⟨v1, r1⟩, ⟨v2, r2⟩, rz⟩ := rr
  have z0 := rz 0
  have z1 := rz 1
  have z2 := rz 2
  have zr := cell_lt r0
  clear rz
  go_wp2_with fail
  refine bodyPost_ret (v := .tuple #[.agg #[.int .i64 0, .slice none 0 0, .int .i64 0], .int .i64 e1]) (by simp [results, Tryz.results16, go_sem, r0, r1, r2]) rfl ⟨rfl, ?_⟩
  have st : ∀ (X : World) (i o : Nat) (v : Value), a ≤ i → Below w.heap.size w X → Below w.heap.size w (X.setCell ⟨i, o, none⟩ v) := fun X i o v h hb => hb.setCell (p := ⟨i, o, none⟩) (by rw [HAE.out]; exact h) _
  exact st _ _ _ _ (by omega) (st _ _ _ _ (by omega) (st _ _ _ _ (by omega) (bt A3.out HB3.out)))
set_option maxRecDepth 100000 in
set_option maxHeartbeats 4000000 in
theorem rExt_bad2 {b1 b2 e2 u1 u2 : Int} {n1 n2 c1 c2 : Nat} {p1 p2 : Option Addr} {f g : Nat → Int × Int} (h1 : tabE b1 u1 n1 f = 0) (h2 : tabE b2 u2 n2 g = e2) (he : e2 ≠ 0)
    (w : World) (hs1 : LpIn w f n1 p1) (hs2 : LpIn w g n2 p2) (hm1 : n1 ≤ 1000) (hm2 : n2 ≤ 1000) :
    Calls Tryz.prog 16 #[.agg #[.int .i64 b1, .slice p1 n1 c1, .int .i64 u1], .agg #[.int .i64 b2, .slice p2 n2 c2, .int .i64 u2]] w fun e w' => e = .returned (.tuple #[.agg #[.int .i64 0, .slice none 0 0, .int .i64 0], .int .i64 e2]) ∧ Below w.heap.size w w' := by
  have A1 := below_alloc (Below.refl w.heap.size w) (.cells #[.int .i64 b1, .slice p1 n1 c1, .int .i64 u1] 55)
  have A2 := below_alloc A1 (.cells #[.int .i64 b2, .slice p2 n2 c2, .int .i64 u2] 55)
  have A3 := below_alloc A2 (.cells #[.int .i64 0, .slice none 0 0, .int .i64 0] 55)
  have HX0 := Lib.hid (ExtB.newR w b1 u1 n1 c1 p1 b2 u2 n2 c2 p2)
  have HS1 := Lib.hid (hs1.below A3)
  have HS2 := Lib.hid (hs2.below A3)
  have HM := Lib.hid (And.intro hm1 hm2)
  have HH := Lib.hid (And.intro h1 h2)
  have A3 := Lib.hid A3
  have heq : (e2 == 0) = false := by simpa using he
  clear A1 A2 h1 h2 hs1 hs2 hm1 hm2
  go_enter Tryz.func16, Tryz.ntmps16
  go_upto_region 1 with fail
  generalize ((w.alloc (.cells #[.int .i64 b1, .slice p1 n1 c1, .int .i64 u1] 55)).alloc (.cells #[.int .i64 b2, .slice p2 n2 c2, .int .i64 u2] 55)).alloc (.cells #[.int .i64 0, .slice none 0 0, .int .i64 0] 55) = W1 at *
  obtain ⟨a, ha⟩ : ∃ a, w.heap.size = a := ⟨_, rfl⟩
  have HAE := Lib.hid ha
  rw [ha] at HX0 ⊢
  clear ha
  have N1 := Lib.hid (show Calls Tryz.prog 34 #[.agg #[.int .i64 b1, .slice p1 n1 c1, .int .i64 u1]] W1 fun e w' => e = .returned (.int .i64 0) ∧ Below W1.heap.size W1 w' by have := rCheck_any b1 u1 n1 c1 p1 f W1 HS1.out (by have := HM.out.1; omega); rwa [HH.out.1] at this)
  have N2 := Lib.hid (show ∀ X, Below W1.heap.size W1 X → Calls Tryz.prog 34 #[.agg #[.int .i64 b2, .slice p2 n2 c2, .int .i64 u2]] X fun e w' => e = .returned (.int .i64 e2) ∧ Below X.heap.size X w' from fun X hX => by have := rCheck_any b2 u2 n2 c2 p2 g X (HS2.out.below hX) (by have := HM.out.2; omega); rwa [HH.out.2] at this)
  obtain ⟨⟨x0, x1, x2⟩, ⟨y0, y1, y2⟩, bz, rr⟩ := HX0.out
  have zx := cell_lt x0
  have zy := cell_lt y0
  clear bz
  clear rr
  go_upto_region 2 with (go_at_call 34; refine N1.out.mono ?_; rintro e w3 ⟨rfl, hb3⟩; have HB3 := Lib.hid hb3; clear hb3)
  clear x0 x1 x2 y0 y1 y2 zx zy
  obtain ⟨⟨x0, x1, x2⟩, ⟨y0, y1, y2⟩, bz, rr⟩ := (HX0.out.below HB3.out)
  have zx := cell_lt x0
  have zy := cell_lt y0
  clear bz
  clear rr
  go_upto_region 5 with (go_at_call 34; refine (N2.out _ HB3.out).mono ?_; rintro e w4 ⟨rfl, hb4⟩; have HB4 := Lib.hid (bt HB3.out hb4); clear hb4)
  clear x0 x1 x2 y0 y1 y2 zx zy
  obtain ⟨⟨x0, x1, x2⟩, ⟨y0, y1, y2⟩, bz, rr⟩ := (HX0.out.below HB4.out)
  have zx := cell_lt x0
  have zy := cell_lt y0
  clear bz
  obtain ⟨⟨v0, r0⟩, ⟨v1, r1⟩, ⟨v2, r2⟩, rz⟩ := rr
  have z0 := rz 0
  have z1 := rz 1
  have z2 := rz 2
  have zr := cell_lt r0
  clear rz
  go_wp2_with fail
  refine bodyPost_ret (v := .tuple #[.agg #[.int .i64 0, .slice none 0 0, .int .i64 0], .int .i64 e2]) (by simp [results, Tryz.results16, go_sem, r0, r1, r2]) rfl ⟨rfl, ?_⟩
  have st : ∀ (X : World) (i o : Nat) (v : Value), a ≤ i → Below w.heap.size w X → Below w.heap.size w (X.setCell ⟨i, o, none⟩ v) := fun X i o v h hb => hb.setCell (p := ⟨i, o, none⟩) (by rw [HAE.out]; exact h) _
  exact st _ _ _ _ (by omega) (st _ _ _ _ (by omega) (st _ _ _ _ (by omega) (bt A3.out HB4.out)))
set_option maxRecDepth 100000 in
set_option maxHeartbeats 4000000 in
theorem rExt_state {b1 b2 u1 u2 : Int} {n1 n2 c1 c2 : Nat} {p1 p2 : Option Addr} {f g : Nat → Int × Int} (h1 : tabE b1 u1 n1 f = 0) (h2 : tabE b2 u2 n2 g = 0) (hst : u2 < u1)
    (w : World) (hs1 : LpIn w f n1 p1) (hs2 : LpIn w g n2 p2) (hm1 : n1 ≤ 1000) (hm2 : n2 ≤ 1000) :
    Calls Tryz.prog 16 #[.agg #[.int .i64 b1, .slice p1 n1 c1, .int .i64 u1], .agg #[.int .i64 b2, .slice p2 n2 c2, .int .i64 u2]] w fun e w' => e = .returned (.tuple #[.agg #[.int .i64 0, .slice none 0 0, .int .i64 0], .int .i64 9]) ∧ Below w.heap.size w w' := by
  have A1 := below_alloc (Below.refl w.heap.size w) (.cells #[.int .i64 b1, .slice p1 n1 c1, .int .i64 u1] 55)
  have A2 := below_alloc A1 (.cells #[.int .i64 b2, .slice p2 n2 c2, .int .i64 u2] 55)
  have A3 := below_alloc A2 (.cells #[.int .i64 0, .slice none 0 0, .int .i64 0] 55)
  have HX0 := Lib.hid (ExtB.newR w b1 u1 n1 c1 p1 b2 u2 n2 c2 p2)
  have HS1 := Lib.hid (hs1.below A3)
  have HS2 := Lib.hid (hs2.below A3)
  have HM := Lib.hid (And.intro hm1 hm2)
  have HH := Lib.hid (And.intro h1 h2)
  have A3 := Lib.hid A3
  clear A1 A2 h1 h2 hs1 hs2 hm1 hm2
  go_enter Tryz.func16, Tryz.ntmps16
  go_upto_region 1 with fail
  generalize ((w.alloc (.cells #[.int .i64 b1, .slice p1 n1 c1, .int .i64 u1] 55)).alloc (.cells #[.int .i64 b2, .slice p2 n2 c2, .int .i64 u2] 55)).alloc (.cells #[.int .i64 0, .slice none 0 0, .int .i64 0] 55) = W1 at *
  obtain ⟨a, ha⟩ : ∃ a, w.heap.size = a := ⟨_, rfl⟩
  have HAE := Lib.hid ha
  rw [ha] at HX0 ⊢
  clear ha
  have N1 := Lib.hid (show Calls Tryz.prog 34 #[.agg #[.int .i64 b1, .slice p1 n1 c1, .int .i64 u1]] W1 fun e w' => e = .returned (.int .i64 0) ∧ Below W1.heap.size W1 w' by have := rCheck_any b1 u1 n1 c1 p1 f W1 HS1.out (by have := HM.out.1; omega); rwa [HH.out.1] at this)
  have N2 := Lib.hid (show ∀ X, Below W1.heap.size W1 X → Calls Tryz.prog 34 #[.agg #[.int .i64 b2, .slice p2 n2 c2, .int .i64 u2]] X fun e w' => e = .returned (.int .i64 0) ∧ Below X.heap.size X w' from fun X hX => by have := rCheck_any b2 u2 n2 c2 p2 g X (HS2.out.below hX) (by have := HM.out.2; omega); rwa [HH.out.2] at this)
  obtain ⟨⟨x0, x1, x2⟩, ⟨y0, y1, y2⟩, bz, rr⟩ := HX0.out
  have zx := cell_lt x0
  have zy := cell_lt y0
  clear bz
  clear rr
  go_upto_region 2 with (go_at_call 34; refine N1.out.mono ?_; rintro e w3 ⟨rfl, hb3⟩; have HB3 := Lib.hid hb3; clear hb3)
  clear x0 x1 x2 y0 y1 y2 zx zy
  obtain ⟨⟨x0, x1, x2⟩, ⟨y0, y1, y2⟩, bz, rr⟩ := (HX0.out.below HB3.out)
  have zx := cell_lt x0
  have zy := cell_lt y0
  clear bz
  clear rr
  go_upto_region 5 with (go_at_call 34; refine (N2.out _ HB3.out).mono ?_; rintro e w4 ⟨rfl, hb4⟩; have HB4 := Lib.hid (bt HB3.out hb4); clear hb4)
  clear x0 x1 x2 y0 y1 y2 zx zy
  obtain ⟨⟨x0, x1, x2⟩, ⟨y0, y1, y2⟩, bz, rr⟩ := (HX0.out.below HB4.out)
  have zx := cell_lt x0
  have zy := cell_lt y0
  clear bz
  obtain ⟨⟨v0, r0⟩, ⟨v1, r1⟩, ⟨v2, r2⟩, rz⟩ := rr
  have z0 := rz 0
  have z1 := rz 1
  have z2 := rz 2
  have zr := cell_lt r0
  clear rz
  go_wp2_with fail
  refine bodyPost_ret (v := .tuple #[.agg #[.int .i64 0, .slice none 0 0, .int .i64 0], .int .i64 9]) (by simp [results, Tryz.results16, go_sem, r0, r1, r2]) rfl ⟨rfl, ?_⟩
  have st : ∀ (X : World) (i o : Nat) (v : Value), a ≤ i → Below w.heap.size w X → Below w.heap.size w (X.setCell ⟨i, o, none⟩ v) := fun X i o v h hb => hb.setCell (p := ⟨i, o, none⟩) (by rw [HAE.out]; exact h) _
  exact st _ _ _ _ (by omega) (st _ _ _ _ (by omega) (st _ _ _ _ (by omega) (bt A3.out HB4.out)))
set_option maxRecDepth 100000 in
set_option maxHeartbeats 4000000 in
theorem rExt_base {b1 b2 u1 u2 : Int} {n1 n2 c1 c2 : Nat} {p1 p2 : Option Addr} {f g : Nat → Int × Int} (h1 : tabE b1 u1 n1 f = 0) (h2 : tabE b2 u2 n2 g = 0) (hu : u1 ≤ u2) (hbb : b1 ≠ b2)
    (w : World) (hs1 : LpIn w f n1 p1) (hs2 : LpIn w g n2 p2) (hm1 : n1 ≤ 1000) (hm2 : n2 ≤ 1000) :
    Calls Tryz.prog 16 #[.agg #[.int .i64 b1, .slice p1 n1 c1, .int .i64 u1], .agg #[.int .i64 b2, .slice p2 n2 c2, .int .i64 u2]] w fun e w' => e = .returned (.tuple #[.agg #[.int .i64 0, .slice none 0 0, .int .i64 0], .int .i64 91]) ∧ Below w.heap.size w w' := by
  have A1 := below_alloc (Below.refl w.heap.size w) (.cells #[.int .i64 b1, .slice p1 n1 c1, .int .i64 u1] 55)
  have A2 := below_alloc A1 (.cells #[.int .i64 b2, .slice p2 n2 c2, .int .i64 u2] 55)
  have A3 := below_alloc A2 (.cells #[.int .i64 0, .slice none 0 0, .int .i64 0] 55)
  have HX0 := Lib.hid (ExtB.newR w b1 u1 n1 c1 p1 b2 u2 n2 c2 p2)
  have HS1 := Lib.hid (hs1.below A3)
  have HS2 := Lib.hid (hs2.below A3)
  have HM := Lib.hid (And.intro hm1 hm2)
  have HH := Lib.hid (And.intro h1 h2)
  have A3 := Lib.hid A3
  have hbq : (b1 == b2) = false := by simpa using hbb
  have hnu : ¬ u2 < u1 := by omega
  clear A1 A2 h1 h2 hs1 hs2 hm1 hm2
  go_enter Tryz.func16, Tryz.ntmps16
  go_upto_region 1 with fail
  generalize ((w.alloc (.cells #[.int .i64 b1, .slice p1 n1 c1, .int .i64 u1] 55)).alloc (.cells #[.int .i64 b2, .slice p2 n2 c2, .int .i64 u2] 55)).alloc (.cells #[.int .i64 0, .slice none 0 0, .int .i64 0] 55) = W1 at *
  obtain ⟨a, ha⟩ : ∃ a, w.heap.size = a := ⟨_, rfl⟩
  have HAE := Lib.hid ha
  rw [ha] at HX0 ⊢
  clear ha
  have N1 := Lib.hid (show Calls Tryz.prog 34 #[.agg #[.int .i64 b1, .slice p1 n1 c1, .int .i64 u1]] W1 fun e w' => e = .returned (.int .i64 0) ∧ Below W1.heap.size W1 w' by have := rCheck_any b1 u1 n1 c1 p1 f W1 HS1.out (by have := HM.out.1; omega); rwa [HH.out.1] at this)
  have N2 := Lib.hid (show ∀ X, Below W1.heap.size W1 X → Calls Tryz.prog 34 #[.agg #[.int .i64 b2, .slice p2 n2 c2, .int .i64 u2]] X fun e w' => e = .returned (.int .i64 0) ∧ Below X.heap.size X w' from fun X hX => by have := rCheck_any b2 u2 n2 c2 p2 g X (HS2.out.below hX) (by have := HM.out.2; omega); rwa [HH.out.2] at this)
  obtain ⟨⟨x0, x1, x2⟩, ⟨y0, y1, y2⟩, bz, rr⟩ := HX0.out
  have zx := cell_lt x0
  have zy := cell_lt y0
  clear bz
  clear rr
  go_upto_region 2 with (go_at_call 34; refine N1.out.mono ?_; rintro e w3 ⟨rfl, hb3⟩; have HB3 := Lib.hid hb3; clear hb3)
  clear x0 x1 x2 y0 y1 y2 zx zy
  obtain ⟨⟨x0, x1, x2⟩, ⟨y0, y1, y2⟩, bz, rr⟩ := (HX0.out.below HB3.out)
  have zx := cell_lt x0
  have zy := cell_lt y0
  clear bz
  clear rr
  go_upto_region 5 with (go_at_call 34; refine (N2.out _ HB3.out).mono ?_; rintro e w4 ⟨rfl, hb4⟩; have HB4 := Lib.hid (bt HB3.out hb4); clear hb4)
  clear x0 x1 x2 y0 y1 y2 zx zy
  obtain ⟨⟨x0, x1, x2⟩, ⟨y0, y1, y2⟩, bz, rr⟩ := (HX0.out.below HB4.out)
  have zx := cell_lt x0
  have zy := cell_lt y0
  clear bz
  obtain ⟨⟨v0, r0⟩, ⟨v1, r1⟩, ⟨v2, r2⟩, rz⟩ := rr
  have z0 := rz 0
  have z1 := rz 1
  have z2 := rz 2
  have zr := cell_lt r0
  clear rz
  go_wp2_with fail
  refine bodyPost_ret (v := .tuple #[.agg #[.int .i64 0, .slice none 0 0, .int .i64 0], .int .i64 91]) (by simp [results, Tryz.results16, go_sem, r0, r1, r2]) rfl ⟨rfl, ?_⟩
  have st : ∀ (X : World) (i o : Nat) (v : Value), a ≤ i → Below w.heap.size w X → Below w.heap.size w (X.setCell ⟨i, o, none⟩ v) := fun X i o v h hb => hb.setCell (p := ⟨i, o, none⟩) (by rw [HAE.out]; exact h) _
  exact st _ _ _ _ (by omega) (st _ _ _ _ (by omega) (st _ _ _ _ (by omega) (bt A3.out HB4.out)))
set_option maxRecDepth 100000 in
set_option maxHeartbeats 4000000 in
theorem rExt_few {b u1 u2 : Int} {n1 n2 c1 c2 : Nat} {p1 p2 : Option Addr} {f g : Nat → Int × Int} (h1 : tabE b u1 n1 f = 0) (h2 : tabE b u2 n2 g = 0) (hu : u1 ≤ u2) (hnn : n2 < n1)
    (w : World) (hs1 : LpIn w f n1 p1) (hs2 : LpIn w g n2 p2) (hm1 : n1 ≤ 1000) (hm2 : n2 ≤ 1000) :
    Calls Tryz.prog 16 #[.agg #[.int .i64 b, .slice p1 n1 c1, .int .i64 u1], .agg #[.int .i64 b, .slice p2 n2 c2, .int .i64 u2]] w fun e w' => e = .returned (.tuple #[.agg #[.int .i64 0, .slice none 0 0, .int .i64 0], .int .i64 91]) ∧ Below w.heap.size w w' := by
  have A1 := below_alloc (Below.refl w.heap.size w) (.cells #[.int .i64 b, .slice p1 n1 c1, .int .i64 u1] 55)
  have A2 := below_alloc A1 (.cells #[.int .i64 b, .slice p2 n2 c2, .int .i64 u2] 55)
  have A3 := below_alloc A2 (.cells #[.int .i64 0, .slice none 0 0, .int .i64 0] 55)
  have HX0 := Lib.hid (ExtB.newR w b u1 n1 c1 p1 b u2 n2 c2 p2)
  have HS1 := Lib.hid (hs1.below A3)
  have HS2 := Lib.hid (hs2.below A3)
  have HM := Lib.hid (And.intro hm1 hm2)
  have HH := Lib.hid (And.intro h1 h2)
  have A3 := Lib.hid A3
  have hni : (n2 : Int) < n1 := by omega
  have hnu : ¬ u2 < u1 := by omega
  clear A1 A2 h1 h2 hs1 hs2 hm1 hm2
  go_enter Tryz.func16, Tryz.ntmps16
  go_upto_region 1 with fail
  generalize ((w.alloc (.cells #[.int .i64 b, .slice p1 n1 c1, .int .i64 u1] 55)).alloc (.cells #[.int .i64 b, .slice p2 n2 c2, .int .i64 u2] 55)).alloc (.cells #[.int .i64 0, .slice none 0 0, .int .i64 0] 55) = W1 at *
  obtain ⟨a, ha⟩ : ∃ a, w.heap.size = a := ⟨_, rfl⟩
  have HAE := Lib.hid ha
  rw [ha] at HX0 ⊢
  clear ha
  have N1 := Lib.hid (show Calls Tryz.prog 34 #[.agg #[.int .i64 b, .slice p1 n1 c1, .int .i64 u1]] W1 fun e w' => e = .returned (.int .i64 0) ∧ Below W1.heap.size W1 w' by have := rCheck_any b u1 n1 c1 p1 f W1 HS1.out (by have := HM.out.1; omega); rwa [HH.out.1] at this)
  have N2 := Lib.hid (show ∀ X, Below W1.heap.size W1 X → Calls Tryz.prog 34 #[.agg #[.int .i64 b, .slice p2 n2 c2, .int .i64 u2]] X fun e w' => e = .returned (.int .i64 0) ∧ Below X.heap.size X w' from fun X hX => by have := rCheck_any b u2 n2 c2 p2 g X (HS2.out.below hX) (by have := HM.out.2; omega); rwa [HH.out.2] at this)
  obtain ⟨⟨x0, x1, x2⟩, ⟨y0, y1, y2⟩, bz, rr⟩ := HX0.out
  have zx := cell_lt x0
  have zy := cell_lt y0
  clear bz
  clear rr
  go_upto_region 2 with (go_at_call 34; refine N1.out.mono ?_; rintro e w3 ⟨rfl, hb3⟩; have HB3 := Lib.hid hb3; clear hb3)
  clear x0 x1 x2 y0 y1 y2 zx zy
  obtain ⟨⟨x0, x1, x2⟩, ⟨y0, y1, y2⟩, bz, rr⟩ := (HX0.out.below HB3.out)
  have zx := cell_lt x0
  have zy := cell_lt y0
  clear bz
  clear rr
  go_upto_region 5 with (go_at_call 34; refine (N2.out _ HB3.out).mono ?_; rintro e w4 ⟨rfl, hb4⟩; have HB4 := Lib.hid (bt HB3.out hb4); clear hb4)
  clear x0 x1 x2 y0 y1 y2 zx zy
  obtain ⟨⟨x0, x1, x2⟩, ⟨y0, y1, y2⟩, bz, rr⟩ := (HX0.out.below HB4.out)
  have zx := cell_lt x0
  have zy := cell_lt y0
  clear bz
  obtain ⟨⟨v0, r0⟩, ⟨v1, r1⟩, ⟨v2, r2⟩, rz⟩ := rr
  have z0 := rz 0
  have z1 := rz 1
  have z2 := rz 2
  have zr := cell_lt r0
  clear rz
  go_wp2_with fail
  refine bodyPost_ret (v := .tuple #[.agg #[.int .i64 0, .slice none 0 0, .int .i64 0], .int .i64 91]) (by simp [results, Tryz.results16, go_sem, r0, r1, r2]) rfl ⟨rfl, ?_⟩
  have st : ∀ (X : World) (i o : Nat) (v : Value), a ≤ i → Below w.heap.size w X → Below w.heap.size w (X.setCell ⟨i, o, none⟩ v) := fun X i o v h hb => hb.setCell (p := ⟨i, o, none⟩) (by rw [HAE.out]; exact h) _
  exact st _ _ _ _ (by omega) (st _ _ _ _ (by omega) (st _ _ _ _ (by omega) (bt A3.out HB4.out)))
set_option maxRecDepth 100000 in
set_option maxHeartbeats 4000000 in
theorem rExt_leap {b u1 u2 : Int} {n1 n2 c1 c2 : Nat} {p1 p2 : Option Addr} {f g : Nat → Int × Int} (h1 : tabE b u1 n1 f = 0) (h2 : tabE b u2 n2 g = 0) (hu : u1 ≤ u2) (hnn : n1 ≤ n2) (hbad : ∃ i, i < n2 ∧ ¬ goodE u1 f g n1 i)
    (w : World) (hs1 : LpIn w f n1 p1) (hs2 : LpIn w g n2 p2) (hm1 : n1 ≤ 1000) (hm2 : n2 ≤ 1000) :
    Calls Tryz.prog 16 #[.agg #[.int .i64 b, .slice p1 n1 c1, .int .i64 u1], .agg #[.int .i64 b, .slice p2 n2 c2, .int .i64 u2]] w fun e w' => e = .returned (.tuple #[.agg #[.int .i64 0, .slice none 0 0, .int .i64 0], .int .i64 91]) ∧ Below w.heap.size w w' := by
  have A1 := below_alloc (Below.refl w.heap.size w) (.cells #[.int .i64 b, .slice p1 n1 c1, .int .i64 u1] 55)
  have A2 := below_alloc A1 (.cells #[.int .i64 b, .slice p2 n2 c2, .int .i64 u2] 55)
  have A3 := below_alloc A2 (.cells #[.int .i64 0, .slice none 0 0, .int .i64 0] 55)
  have HX0 := Lib.hid (ExtB.newR w b u1 n1 c1 p1 b u2 n2 c2 p2)
  have HS1 := Lib.hid (hs1.below A3)
  have HS2 := Lib.hid (hs2.below A3)
  have HM := Lib.hid (And.intro hm1 hm2)
  have HH := Lib.hid (And.intro h1 h2)
  have A3 := Lib.hid A3
  have hni : ¬ (n2 : Int) < n1 := by omega
  have hnd : decide (n2 < n1) = false := by simp; omega
  have hnl : ¬ n2 < n1 := by omega
  have hud : decide (u2 < u1) = false := by simp; omega
  have hnu : ¬ u2 < u1 := by omega
  have HBAD := Lib.hid hbad
  clear A1 A2 h1 h2 hs1 hs2 hm1 hm2 hbad
  go_enter Tryz.func16, Tryz.ntmps16
  go_upto_region 1 with fail
  generalize ((w.alloc (.cells #[.int .i64 b, .slice p1 n1 c1, .int .i64 u1] 55)).alloc (.cells #[.int .i64 b, .slice p2 n2 c2, .int .i64 u2] 55)).alloc (.cells #[.int .i64 0, .slice none 0 0, .int .i64 0] 55) = W1 at *
  obtain ⟨a, ha⟩ : ∃ a, w.heap.size = a := ⟨_, rfl⟩
  have HAE := Lib.hid ha
  rw [ha] at HX0 ⊢
  clear ha
  have N1 := Lib.hid (show Calls Tryz.prog 34 #[.agg #[.int .i64 b, .slice p1 n1 c1, .int .i64 u1]] W1 fun e w' => e = .returned (.int .i64 0) ∧ Below W1.heap.size W1 w' by have := rCheck_any b u1 n1 c1 p1 f W1 HS1.out (by have := HM.out.1; omega); rwa [HH.out.1] at this)
  have N2 := Lib.hid (show ∀ X, Below W1.heap.size W1 X → Calls Tryz.prog 34 #[.agg #[.int .i64 b, .slice p2 n2 c2, .int .i64 u2]] X fun e w' => e = .returned (.int .i64 0) ∧ Below X.heap.size X w' from fun X hX => by have := rCheck_any b u2 n2 c2 p2 g X (HS2.out.below hX) (by have := HM.out.2; omega); rwa [HH.out.2] at this)
  obtain ⟨⟨x0, x1, x2⟩, ⟨y0, y1, y2⟩, bz, rr⟩ := HX0.out
  have zx := cell_lt x0
  have zy := cell_lt y0
  clear bz
  clear rr
  go_upto_region 2 with (go_at_call 34; refine N1.out.mono ?_; rintro e w3 ⟨rfl, hb3⟩; have HB3 := Lib.hid hb3; clear hb3)
  clear x0 x1 x2 y0 y1 y2 zx zy
  obtain ⟨⟨x0, x1, x2⟩, ⟨y0, y1, y2⟩, bz, rr⟩ := (HX0.out.below HB3.out)
  have zx := cell_lt x0
  have zy := cell_lt y0
  clear bz
  clear rr
  go_upto_region 5 with (go_at_call 34; refine (N2.out _ HB3.out).mono ?_; rintro e w4 ⟨rfl, hb4⟩; have HB4 := Lib.hid (bt HB3.out hb4); clear hb4)
  clear x0 x1 x2 y0 y1 y2 zx zy
  obtain ⟨⟨x0, x1, x2⟩, ⟨y0, y1, y2⟩, bz, rr⟩ := (HX0.out.below HB4.out)
  have zx := cell_lt x0
  have zy := cell_lt y0
  clear bz
  go_wp2_with fail
  clear x0 x1 x2 y0 y1 y2 zx zy rr
  go_loopw [5, 8] (fun s5 s8 wr => ∃ (k : Nat), k ≤ n2 ∧ s5 = .int .i64 0 ∧ s8 = .int .i64 (k : Int) ∧ Hid (∀ i, i < k → goodE u1 f g n1 i) ∧ Hid (Below w4.heap.size w4 wr)) (fun _ s _ => n2 - (intOf s).toNat)
  case atStart => exact ⟨0, Nat.zero_le _, rfl, rfl, Lib.hid (fun i hi => absurd hi (Nat.not_lt_zero i)), Lib.hid (Below.refl _ _)⟩
  case round =>
    obtain ⟨k, hk, rfl, rfl, HO, HBW⟩ := hrel
    have hm2 := HM.out.2
    by_cases hlt : k < n2
    · have hki : (k : Int) < n2 := by omega
      have vk : IntKind.i64.wrap ((k : Int) + 1) = (k : Int) + 1 := IntWalk.i64_in _ (by omega)
      have HBA := Lib.hid (bt HB4.out HBW.out)
      obtain ⟨⟨x0, x1, x2⟩, ⟨y0, y1, y2⟩, bz, rr⟩ := HX0.out.below HBA.out
      have zx := cell_lt x0
      have zy := cell_lt y0
      clear bz
      obtain ⟨bg, og, rfl, hi2⟩ := HS2.out.resolve_left (by omega)
      obtain ⟨q0, q1⟩ := (hi2.below HBA.out) k hlt
      have zq := cell_lt q0
      have HK := Lib.hid hlt
      have HNX := Lib.hid (show goodE u1 f g n1 k → ∀ i, i < k + 1 → goodE u1 f g n1 i from fun h i hi => if e : i = k then e ▸ h else HO.out i (by omega))
      clear hi2 hlt
      by_cases hk1 : k < n1
      · have hq1 : (k : Int) < (n1 : Int) := by omega
        have hq2 : ¬ ((n1 : Int) ≤ (k : Int)) := by omega
        have hq3 : ¬ (n1 ≤ k) := by omega
        have hq4 : k < n1 := hk1
        have hd1 : decide (k < n1) = true := by simpa using hk1
        have hd2 : decide (n1 ≤ k) = false := by simp; omega
        obtain ⟨bf, of, rfl, hi1⟩ := HS1.out.resolve_left (by omega)
        obtain ⟨p0, p1⟩ := (hi1.below HBA.out) k hk1
        have zp := cell_lt p0
        have HGD := Lib.hid (show goodE u1 f g n1 k ↔ ((f k).1 = (g k).1 ∧ (f k).2 = (g k).2) from ⟨fun h => by rw [h.1 hk1]; exact ⟨rfl, rfl⟩, fun h => ⟨fun _ => Prod.ext h.1 h.2, fun h2 => absurd hk1 (by omega)⟩⟩)
        clear hi1 hk1
        generalize (f k).1 = dk at *
        generalize (f k).2 = sk at *
        generalize (g k).1 = ek at *
        generalize (g k).2 = tk at *
        by_cases e1 : dk = ek
        · by_cases e2 : sk = tk
          · subst e1
            subst e2
            have HNX := Lib.hid (HNX.out (HGD.out.2 ⟨rfl, rfl⟩))
            clear rr
            go_wp2_with fail
            go_quiet (fail)
            go_wp2_with fail
            go_roundw
            case rel => exact ⟨k + 1, HK.out, rfl, rfl, HNX, Lib.hid (below_drewN HBW.out _)⟩
            case measure => have := HK.out; simp [intOf]; omega
          · subst e1
            have e2b : (tk == sk) = false := beq_eq_false_iff_ne.2 (fun h => e2 h.symm)
            have HBG := Lib.hid (show ¬ goodE u1 f g n1 k from fun h => e2 (HGD.out.1 h).2)
            obtain ⟨⟨v0, r0⟩, ⟨v1, r1⟩, ⟨v2, r2⟩, rz⟩ := rr
            have z0 := rz 0
            have z1 := rz 1
            have z2 := rz 2
            have zr := cell_lt r0
            clear rz
            go_wp2_with fail
            go_quiet (fail)
            go_wp2_with fail
            refine bodyPost_ret (v := .tuple #[.agg #[.int .i64 0, .slice none 0 0, .int .i64 0], .int .i64 91]) (by simp [results, Tryz.results16, go_sem, r0, r1, r2]) rfl ⟨rfl, ?_⟩
            have st : ∀ (X : World) (i o : Nat) (v : Value), a ≤ i → Below w.heap.size w X → Below w.heap.size w (X.setCell ⟨i, o, none⟩ v) := fun X i o v h hb => hb.setCell (p := ⟨i, o, none⟩) (by rw [HAE.out]; exact h) _
            exact st _ _ _ _ (by omega) (st _ _ _ _ (by omega) (st _ _ _ _ (by omega) (bt A3.out (below_drewN HBA.out _))))
        · have e1b : (ek == dk) = false := beq_eq_false_iff_ne.2 (fun h => e1 h.symm)
          have HBG := Lib.hid (show ¬ goodE u1 f g n1 k from fun h => e1 (HGD.out.1 h).1)
          obtain ⟨⟨v0, r0⟩, ⟨v1, r1⟩, ⟨v2, r2⟩, rz⟩ := rr
          have z0 := rz 0
          have z1 := rz 1
          have z2 := rz 2
          have zr := cell_lt r0
          clear rz
          go_wp2_with fail
          go_quiet (fail)
          go_wp2_with fail
          refine bodyPost_ret (v := .tuple #[.agg #[.int .i64 0, .slice none 0 0, .int .i64 0], .int .i64 91]) (by simp [results, Tryz.results16, go_sem, r0, r1, r2]) rfl ⟨rfl, ?_⟩
          have st : ∀ (X : World) (i o : Nat) (v : Value), a ≤ i → Below w.heap.size w X → Below w.heap.size w (X.setCell ⟨i, o, none⟩ v) := fun X i o v h hb => hb.setCell (p := ⟨i, o, none⟩) (by rw [HAE.out]; exact h) _
          exact st _ _ _ _ (by omega) (st _ _ _ _ (by omega) (st _ _ _ _ (by omega) (bt A3.out (below_drewN HBA.out _))))
      · have hq1 : ¬ (k : Int) < (n1 : Int) := by omega
        have hq2 : (n1 : Int) ≤ (k : Int) := by omega
        have hq3 : n1 ≤ k := by omega
        have hq4 : ¬ k < n1 := hk1
        have hd1 : decide (k < n1) = false := by simp; omega
        have hd2 : decide (n1 ≤ k) = true := by simp; omega
        have HGD := Lib.hid (show goodE u1 f g n1 k ↔ u1 ≤ (g k).1 from ⟨fun h => h.2 (by omega), fun h => ⟨fun h2 => absurd h2 hk1, fun _ => h⟩⟩)
        clear hk1
        generalize (g k).1 = ek at *
        generalize (g k).2 = tk at *
        by_cases e1 : u1 ≤ ek
        · have hd3 : decide (ek < u1) = false := by simp; omega
          have HNX := Lib.hid (HNX.out (HGD.out.2 e1))
          clear rr e1
          go_wp2_with fail
          go_quiet (fail)
          go_wp2_with fail
          go_roundw
          case rel => exact ⟨k + 1, HK.out, rfl, rfl, HNX, Lib.hid (below_drewN HBW.out _)⟩
          case measure => have := HK.out; simp [intOf]; omega
        · have hd3 : decide (ek < u1) = true := by simp; omega
          have HBG := Lib.hid (show ¬ goodE u1 f g n1 k from fun h => e1 (HGD.out.1 h))
          clear e1
          obtain ⟨⟨v0, r0⟩, ⟨v1, r1⟩, ⟨v2, r2⟩, rz⟩ := rr
          have z0 := rz 0
          have z1 := rz 1
          have z2 := rz 2
          have zr := cell_lt r0
          clear rz
          go_wp2_with fail
          go_quiet (fail)
          go_wp2_with fail
          refine bodyPost_ret (v := .tuple #[.agg #[.int .i64 0, .slice none 0 0, .int .i64 0], .int .i64 91]) (by simp [results, Tryz.results16, go_sem, r0, r1, r2]) rfl ⟨rfl, ?_⟩
          have st : ∀ (X : World) (i o : Nat) (v : Value), a ≤ i → Below w.heap.size w X → Below w.heap.size w (X.setCell ⟨i, o, none⟩ v) := fun X i o v h hb => hb.setCell (p := ⟨i, o, none⟩) (by rw [HAE.out]; exact h) _
          exact st _ _ _ _ (by omega) (st _ _ _ _ (by omega) (st _ _ _ _ (by omega) (bt A3.out (below_drewN HBA.out _))))
    · obtain rfl : k = n2 := by omega
      have hki : ¬ ((k : Int) < k) := by omega
      exact absurd HO.out (by obtain ⟨i, hi, hb⟩ := HBAD.out; exact fun h => hb (h i hi))
set_option maxRecDepth 100000 in
set_option maxHeartbeats 4000000 in
theorem rExt_ok {b u1 u2 : Int} {n1 n2 c1 c2 : Nat} {p1 p2 : Option Addr} {f g : Nat → Int × Int} (h1 : tabE b u1 n1 f = 0) (h2 : tabE b u2 n2 g = 0) (hu : u1 ≤ u2) (hnn : n1 ≤ n2) (hp2 : p2 = none → n2 = 0) (hgood : ∀ i, i < n2 → goodE u1 f g n1 i)
    (w : World) (hs1 : LpIn w f n1 p1) (hs2 : LpIn w g n2 p2) (hm1 : n1 ≤ 1000) (hm2 : n2 ≤ 1000) :
    Calls Tryz.prog 16 #[.agg #[.int .i64 b, .slice p1 n1 c1, .int .i64 u1], .agg #[.int .i64 b, .slice p2 n2 c2, .int .i64 u2]] w fun e w' => ∃ q cq, e = .returned (.tuple #[.agg #[.int .i64 b, .slice q n2 cq, .int .i64 u2], .int .i64 0]) ∧ LpIn w' g n2 q ∧ Below w.heap.size w w' := by
  have A1 := below_alloc (Below.refl w.heap.size w) (.cells #[.int .i64 b, .slice p1 n1 c1, .int .i64 u1] 55)
  have A2 := below_alloc A1 (.cells #[.int .i64 b, .slice p2 n2 c2, .int .i64 u2] 55)
  have A3 := below_alloc A2 (.cells #[.int .i64 0, .slice none 0 0, .int .i64 0] 55)
  have HX0 := Lib.hid (ExtB.newR w b u1 n1 c1 p1 b u2 n2 c2 p2)
  have HS1 := Lib.hid (hs1.below A3)
  have HS2 := Lib.hid (hs2.below A3)
  have HM := Lib.hid (And.intro hm1 hm2)
  have HH := Lib.hid (And.intro h1 h2)
  have A3 := Lib.hid A3
  have hni : ¬ (n2 : Int) < n1 := by omega
  have hnd : decide (n2 < n1) = false := by simp; omega
  have hnl : ¬ n2 < n1 := by omega
  have hud : decide (u2 < u1) = false := by simp; omega
  have hnu : ¬ u2 < u1 := by omega
  have HGOOD := Lib.hid hgood
  have HP2 := Lib.hid hp2
  clear A1 A2 h1 h2 hs1 hs2 hm1 hm2 hgood hp2
  go_enter Tryz.func16, Tryz.ntmps16
  go_upto_region 1 with fail
  generalize ((w.alloc (.cells #[.int .i64 b, .slice p1 n1 c1, .int .i64 u1] 55)).alloc (.cells #[.int .i64 b, .slice p2 n2 c2, .int .i64 u2] 55)).alloc (.cells #[.int .i64 0, .slice none 0 0, .int .i64 0] 55) = W1 at *
  obtain ⟨a, ha⟩ : ∃ a, w.heap.size = a := ⟨_, rfl⟩
  have HAE := Lib.hid ha
  rw [ha] at HX0 ⊢
  clear ha
  have N1 := Lib.hid (show Calls Tryz.prog 34 #[.agg #[.int .i64 b, .slice p1 n1 c1, .int .i64 u1]] W1 fun e w' => e = .returned (.int .i64 0) ∧ Below W1.heap.size W1 w' by have := rCheck_any b u1 n1 c1 p1 f W1 HS1.out (by have := HM.out.1; omega); rwa [HH.out.1] at this)
  have N2 := Lib.hid (show ∀ X, Below W1.heap.size W1 X → Calls Tryz.prog 34 #[.agg #[.int .i64 b, .slice p2 n2 c2, .int .i64 u2]] X fun e w' => e = .returned (.int .i64 0) ∧ Below X.heap.size X w' from fun X hX => by have := rCheck_any b u2 n2 c2 p2 g X (HS2.out.below hX) (by have := HM.out.2; omega); rwa [HH.out.2] at this)
  obtain ⟨⟨x0, x1, x2⟩, ⟨y0, y1, y2⟩, bz, rr⟩ := HX0.out
  have zx := cell_lt x0
  have zy := cell_lt y0
  clear bz
  clear rr
  go_upto_region 2 with (go_at_call 34; refine N1.out.mono ?_; rintro e w3 ⟨rfl, hb3⟩; have HB3 := Lib.hid hb3; clear hb3)
  clear x0 x1 x2 y0 y1 y2 zx zy
  obtain ⟨⟨x0, x1, x2⟩, ⟨y0, y1, y2⟩, bz, rr⟩ := (HX0.out.below HB3.out)
  have zx := cell_lt x0
  have zy := cell_lt y0
  clear bz
  clear rr
  go_upto_region 5 with (go_at_call 34; refine (N2.out _ HB3.out).mono ?_; rintro e w4 ⟨rfl, hb4⟩; have HB4 := Lib.hid (bt HB3.out hb4); clear hb4)
  clear x0 x1 x2 y0 y1 y2 zx zy
  obtain ⟨⟨x0, x1, x2⟩, ⟨y0, y1, y2⟩, bz, rr⟩ := (HX0.out.below HB4.out)
  have zx := cell_lt x0
  have zy := cell_lt y0
  clear bz
  go_wp2_with fail
  clear x0 x1 x2 y0 y1 y2 zx zy rr
  go_loopw [5, 8] (fun s5 s8 wr => ∃ (k : Nat), k ≤ n2 ∧ s5 = .int .i64 0 ∧ s8 = .int .i64 (k : Int) ∧ Hid (∀ i, i < k → goodE u1 f g n1 i) ∧ Hid (Below w4.heap.size w4 wr)) (fun _ s _ => n2 - (intOf s).toNat)
  case atStart => exact ⟨0, Nat.zero_le _, rfl, rfl, Lib.hid (fun i hi => absurd hi (Nat.not_lt_zero i)), Lib.hid (Below.refl _ _)⟩
  case round =>
    obtain ⟨k, hk, rfl, rfl, HO, HBW⟩ := hrel
    have hm2 := HM.out.2
    by_cases hlt : k < n2
    · have hki : (k : Int) < n2 := by omega
      have vk : IntKind.i64.wrap ((k : Int) + 1) = (k : Int) + 1 := IntWalk.i64_in _ (by omega)
      have HBA := Lib.hid (bt HB4.out HBW.out)
      obtain ⟨⟨x0, x1, x2⟩, ⟨y0, y1, y2⟩, bz, rr⟩ := HX0.out.below HBA.out
      have zx := cell_lt x0
      have zy := cell_lt y0
      clear bz
      obtain ⟨bg, og, rfl, hi2⟩ := HS2.out.resolve_left (by omega)
      obtain ⟨q0, q1⟩ := (hi2.below HBA.out) k hlt
      have zq := cell_lt q0
      have HK := Lib.hid hlt
      have HNX := Lib.hid (show goodE u1 f g n1 k → ∀ i, i < k + 1 → goodE u1 f g n1 i from fun h i hi => if e : i = k then e ▸ h else HO.out i (by omega))
      clear hi2 hlt
      by_cases hk1 : k < n1
      · have hq1 : (k : Int) < (n1 : Int) := by omega
        have hq2 : ¬ ((n1 : Int) ≤ (k : Int)) := by omega
        have hq3 : ¬ (n1 ≤ k) := by omega
        have hq4 : k < n1 := hk1
        have hd1 : decide (k < n1) = true := by simpa using hk1
        have hd2 : decide (n1 ≤ k) = false := by simp; omega
        obtain ⟨bf, of, rfl, hi1⟩ := HS1.out.resolve_left (by omega)
        obtain ⟨p0, p1⟩ := (hi1.below HBA.out) k hk1
        have zp := cell_lt p0
        have HGD := Lib.hid (show goodE u1 f g n1 k ↔ ((f k).1 = (g k).1 ∧ (f k).2 = (g k).2) from ⟨fun h => by rw [h.1 hk1]; exact ⟨rfl, rfl⟩, fun h => ⟨fun _ => Prod.ext h.1 h.2, fun h2 => absurd hk1 (by omega)⟩⟩)
        clear hi1 hk1
        generalize (f k).1 = dk at *
        generalize (f k).2 = sk at *
        generalize (g k).1 = ek at *
        generalize (g k).2 = tk at *
        by_cases e1 : dk = ek
        · by_cases e2 : sk = tk
          · subst e1
            subst e2
            have HNX := Lib.hid (HNX.out (HGD.out.2 ⟨rfl, rfl⟩))
            clear rr
            go_wp2_with fail
            go_quiet (fail)
            go_wp2_with fail
            go_roundw
            case rel => exact ⟨k + 1, HK.out, rfl, rfl, HNX, Lib.hid (below_drewN HBW.out _)⟩
            case measure => have := HK.out; simp [intOf]; omega
          · subst e1
            have e2b : (tk == sk) = false := beq_eq_false_iff_ne.2 (fun h => e2 h.symm)
            have HBG := Lib.hid (show ¬ goodE u1 f g n1 k from fun h => e2 (HGD.out.1 h).2)
            exact absurd (HGOOD.out k HK.out) HBG.out
        · have e1b : (ek == dk) = false := beq_eq_false_iff_ne.2 (fun h => e1 h.symm)
          have HBG := Lib.hid (show ¬ goodE u1 f g n1 k from fun h => e1 (HGD.out.1 h).1)
          exact absurd (HGOOD.out k HK.out) HBG.out
      · have hq1 : ¬ (k : Int) < (n1 : Int) := by omega
        have hq2 : (n1 : Int) ≤ (k : Int) := by omega
        have hq3 : n1 ≤ k := by omega
        have hq4 : ¬ k < n1 := hk1
        have hd1 : decide (k < n1) = false := by simp; omega
        have hd2 : decide (n1 ≤ k) = true := by simp; omega
        have HGD := Lib.hid (show goodE u1 f g n1 k ↔ u1 ≤ (g k).1 from ⟨fun h => h.2 (by omega), fun h => ⟨fun h2 => absurd h2 hk1, fun _ => h⟩⟩)
        clear hk1
        generalize (g k).1 = ek at *
        generalize (g k).2 = tk at *
        by_cases e1 : u1 ≤ ek
        · have hd3 : decide (ek < u1) = false := by simp; omega
          have HNX := Lib.hid (HNX.out (HGD.out.2 e1))
          clear rr e1
          go_wp2_with fail
          go_quiet (fail)
          go_wp2_with fail
          go_roundw
          case rel => exact ⟨k + 1, HK.out, rfl, rfl, HNX, Lib.hid (below_drewN HBW.out _)⟩
          case measure => have := HK.out; simp [intOf]; omega
        · have hd3 : decide (ek < u1) = true := by simp; omega
          have HBG := Lib.hid (show ¬ goodE u1 f g n1 k from fun h => e1 (HGD.out.1 h))
          clear e1
          exact absurd (HGOOD.out k HK.out) HBG.out
    · obtain rfl : k = n2 := by omega
      have hki : ¬ ((k : Int) < k) := by omega
      clear hlt
      have HBA := Lib.hid (bt HB4.out HBW.out)
      obtain ⟨⟨x0, x1, x2⟩, ⟨y0, y1, y2⟩, bz, rr⟩ := HX0.out.below HBA.out
      have zx := cell_lt x0
      have zy := cell_lt y0
      clear bz rr
      go_upto_region 17 with fail
      clear x0 x1 x2 zx y0 y1 y2 zy
      obtain ⟨i0, hi0, hz0, hz1, hz2⟩ := info_parts infoLeapR
      have b1 := below_alloc (Below.refl wr.heap.size wr) (.cells #[.int .i64 b, .slice none 0 0, .int .i64 u2] 55)
      have o0 : (wr.alloc (.cells #[.int .i64 b, .slice none 0 0, .int .i64 u2] 55)).cell? ⟨wr.heap.size, 0, none⟩ = some (.int .i64 b) := by simp
      have o1 : (wr.alloc (.cells #[.int .i64 b, .slice none 0 0, .int .i64 u2] 55)).cell? ⟨wr.heap.size, 1, none⟩ = some (.slice none 0 0) := by simp
      have o2 : (wr.alloc (.cells #[.int .i64 b, .slice none 0 0, .int .i64 u2] 55)).cell? ⟨wr.heap.size, 2, none⟩ = some (.int .i64 u2) := by simp
      have oz : ∀ i, (wr.alloc (.cells #[.int .i64 b, .slice none 0 0, .int .i64 u2] 55)).frozen? ⟨wr.heap.size, i, none⟩ = false := fun i => by simp
      have hsz : (wr.alloc (.cells #[.int .i64 b, .slice none 0 0, .int .i64 u2] 55)).heap.size = wr.heap.size + 1 := by simp
      have har : a + 1 + 1 < wr.heap.size := (HX0.out.below HBA.out).r.lt
      have HAR := Lib.hid har
      generalize wr.alloc (.cells #[.int .i64 b, .slice none 0 0, .int .i64 u2] 55) = W5 at *
      have HB5 := Lib.hid (bt HBA.out b1)
      have HBR := Lib.hid b1
      have HX5 := Lib.hid (HX0.out.below HB5.out)
      have HOW := Lib.hid (show W5.ownsRow (wr.heap.size + 1) 63 2 (.slice none 0 0) 0 [] from ⟨rfl, .inl ⟨rfl, rfl⟩⟩)
      obtain ⟨x0, y0, bz, rr⟩ := HX5.out
      obtain ⟨y0, y1, y2⟩ := y0
      obtain ⟨⟨v0, r0⟩, ⟨v1, r1⟩, ⟨v2, r2⟩, rz⟩ := rr
      have z0 := rz 0
      have z1 := rz 1
      have z2 := rz 2
      have zr := cell_lt r0
      have zo := cell_lt o0
      have zo1 := oz 1
      have zy := cell_lt y0
      have hne1 : ¬ wr.heap.size = a + 1 + 1 := by omega
      have hne2 : ¬ a + 1 + 1 = wr.heap.size := by omega
      clear rz bz x0 oz b1 har
      have st : ∀ (X : World) (i o : Nat) (v : Value), w.heap.size ≤ i → Below w.heap.size w X → Below w.heap.size w (X.setCell ⟨i, o, none⟩ v) := fun X i o v h hb => hb.setCell (p := ⟨i, o, none⟩) h _
      have HST := Lib.hid st
      clear st
      cases p2 with
      | none =>
        obtain rfl : k = 0 := HP2.out rfl
        go_wp2_with fail
        refine bodyPost_ret (v := .tuple #[.agg #[.int .i64 b, .slice none 0 0, .int .i64 u2], .int .i64 0]) (by simp [results, Tryz.results16, go_sem, r0, r1, r2]) rfl ⟨none, ⟨0, rfl⟩, .inl rfl, ?_⟩
        have := HAE.out
        have := HAR.out
        exact HST.out _ _ _ _ (by omega) (HST.out _ _ _ _ (by omega) (HST.out _ _ _ _ (by omega) (HST.out _ _ _ _ (by omega) (bt A3.out HB5.out))))
      | some ad =>
        have hcell : ∀ j u, (lv g k)[j]? = some u → W5.cell? (ad.add j) = some u := fun j u hj => by
          have hl : j < k * 2 := by rw [← lv_len g k]; exact (List.getElem?_eq_some_iff.1 hj).1
          obtain ⟨bb, oo, e, hsi⟩ := HS2.out.resolve_left (by omega)
          cases e
          exact lv_cells (hsi.below HB5.out) j u hj
        have HCE := Lib.hid hcell
        clear hcell
        go_upto_region 18 with (at_builtin; refine wpList_append_own_at _ rfl (.tmp 93) (.tmp 95) _ rfl (wr.heap.size + 1) 63 i0 (.agg #[.int .i64 0, .int .i64 0]) 2 16 Tryz.underlying53 hi0 hz0 hz1 hz2 rfl (by decide) _ 0 [] rfl HOW.out ad k c2 (lv g k) rfl (by rw [lv_len]) HCE.out (lv_one g k) (by unfold maxLen; omega) (by omega) (by omega) ?_; intro v' w6 hown hg _ _; simp only [Nat.zero_add, List.nil_append] at hown; obtain ⟨q, cq, rfl, h1, h2, h3, h4⟩ := own_leaps hown; have HL6 := Lib.hid h3; have HN6 := Lib.hid h4; have HG := Lib.hid hg; have p0 := grownO_cell hg o0 (fun e => by cases e); have p1 := grownO_cell hg o1 (fun e => by cases e); have p2 := grownO_cell hg o2 (fun e => by cases e); have zp1 := grownO_frozen hg zo (fun e => by cases e) zo1; have zp := cell_lt p1; have r0 := grownO_cell hg r0 (fun e => by cases e); have r1 := grownO_cell hg r1 (fun e => by cases e); have r2 := grownO_cell hg r2 (fun e => by cases e); have z0 := grownO_frozen hg zr (fun e => by cases e) z0; have z1 := grownO_frozen hg zr (fun e => by cases e) z1; have z2 := grownO_frozen hg zr (fun e => by cases e) z2; have zr := cell_lt r0; clear hown hg h1 h2 h3 h4)
        have HB6 := Lib.hid (bt HB5.out (Below.grown (Below.refl W5.heap.size W5) HG.out (Nat.le_refl _) (fun k hk => by cases hk)))
        go_wp2_with fail
        refine bodyPost_ret (v := .tuple #[.agg #[.int .i64 b, .slice q k cq, .int .i64 u2], .int .i64 0]) (by simp [results, Tryz.results16, go_sem, r0, r1, r2]) rfl ⟨q, ⟨cq, rfl⟩, ?_, ?_⟩
        · have ne0 : ∀ b o, q = some ⟨b, o, none⟩ → b ≠ a + 1 + 1 := fun b o e => by have := HN6.out b o e; have := HAR.out; omega
          have ne1 : ∀ b o, q = some ⟨b, o, none⟩ → b ≠ wr.heap.size := fun b o e => by have := HN6.out b o e; omega
          exact (((HL6.out.set ne1).set ne0).set ne0).set ne0
        · have := HAE.out
          have := HAR.out
          exact HST.out _ _ _ _ (by omega) (HST.out _ _ _ _ (by omega) (HST.out _ _ _ _ (by omega) (HST.out _ _ _ _ (by omega) (bt A3.out HB6.out))))
end Go.Proofs.YtgnfaemnehmgcaaGreatDoor.Cal
