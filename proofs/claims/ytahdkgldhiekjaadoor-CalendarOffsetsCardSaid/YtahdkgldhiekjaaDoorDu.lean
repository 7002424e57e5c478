/- Layer 9 (calendar): ofDay; Length, Offset, Total. -/
import Derived.Test.YtahdkgldhiekjaaDoorDt
namespace Go.Proofs.YtahdkgldhiekjaaDoor.Cal
open Go Go.RowKit
attribute [local go_sem] Oper.semAt_some
theorem ofDay_tab (fv : Value) (b u d : Int) (n c : Nat) (p : Option Addr) (f : Nat → Int × Int) (w : World) (hw : Mon w) (hs : LpIn w f n p) (hn : n ≤ 1000000000000) (ht : tabE b u n f ≠ 0) :
    Calls Tryd.prog 37 #[.agg #[.int .i64 b, .slice p n c, .int .i64 u], .int .i64 d, fv] w fun e w' => e = .returned (.tuple #[.int .i64 0, .int .i64 (tabE b u n f)]) ∧ Below w.heap.size w w' := by
  have A0 := below_alloc (Below.refl w.heap.size w) (.cells #[.int .i64 b, .slice p n c, .int .i64 u] 25)
  obtain ⟨x0, x1, x2⟩ := TBox.new w b u n c p 25
  have HOP := Lib.hid (open_no b u n c p f _ (hw.below A0) (hs.below A0) hn ht)
  have A0 := Lib.hid A0
  obtain ⟨er, her⟩ : ∃ er, tabE b u n f = er := ⟨_, rfl⟩
  rw [her] at ht HOP ⊢
  have hne : (er == 0) = false := by simpa using ht
  clear hw hs her ht
  go_enter Tryd.func37, Tryd.ntmps37
  go_upto_region 1 with fail
  generalize w.alloc (.cells #[.int .i64 b, .slice p n c, .int .i64 u] 25) = W1 at *
  have zx := cell_lt x0
  go_upto_region 2 with (go_at_call 53; refine HOP.out.mono ?_; rintro e w2 ⟨rfl, hb2⟩; have HB2 := Lib.hid hb2; clear hb2)
  go_wp2
  go_ret2
  exact ⟨rfl, below_alloc (bt A0.out HB2.out) _⟩
theorem ofDay_day (fv : Value) (b u d : Int) (n c : Nat) (p : Option Addr) (f : Nat → Int × Int) (w : World) (hw : Mon w) (hs : LpIn w f n p) (ht : tabE b u n f = 0) (hd : dayK u d = false) :
    Calls Tryd.prog 37 #[.agg #[.int .i64 b, .slice p n c, .int .i64 u], .int .i64 d, fv] w fun e w' => e = .returned (.tuple #[.int .i64 0, .int .i64 6]) ∧ Below w.heap.size w w' := by
  have A0 := below_alloc (Below.refl w.heap.size w) (.cells #[.int .i64 b, .slice p n c, .int .i64 u] 25)
  obtain ⟨x0, x1, x2⟩ := TBox.new w b u n c p 25
  have HTO := Lib.hid (tab_ok ht)
  have HOP := Lib.hid (open_ok b u n c p f _ (hw.below A0) (hs.below A0) (by have := HTO.out.n1; omega) ht)
  have A0 := Lib.hid A0
  have HD := Lib.hid hd
  clear hw hs ht hd
  go_enter Tryd.func37, Tryd.ntmps37
  go_upto_region 1 with fail
  generalize w.alloc (.cells #[.int .i64 b, .slice p n c, .int .i64 u] 25) = W1 at *
  have zx := cell_lt x0
  go_upto_region 4 with (go_at_call 53; refine HOP.out.mono ?_; rintro e w2 ⟨mb, rfl, hM, hb2⟩; have HM := Lib.hid hM; have HB2 := Lib.hid hb2; clear hM hb2)
  clear x0 x1 x2 zx
  have HB3 := Lib.hid (below_alloc (bt A0.out HB2.out) (.cells #[.int .i64 b, .slice p n c, .int .i64 u, .map (some mb)] 75))
  obtain ⟨⟨x0, x1, x2⟩, x3⟩ := WBox.new w2 b u n c p mb
  generalize w2.alloc (.cells #[.int .i64 b, .slice p n c, .int .i64 u, .map (some mb)] 75) = W3 at *
  have zx := cell_lt x0
  have HKD := Lib.hid (knowsDay_any b u d n c p W3 (by have := HTO.out.u1; have := HTO.out.u2; omega))
  rw [HD.out] at HKD
  go_wp2_with (go_at_call 69; refine HKD.out.mono ?_; rintro e w4 ⟨rfl, hb4⟩; have HB4 := Lib.hid hb4; clear hb4)
  go_ret2
  exact ⟨rfl, bt HB3.out HB4.out⟩
theorem ofDay_len (b u d : Int) (n c : Nat) (p : Option Addr) (f : Nat → Int × Int) (w : World) (hw : Mon w) (hs : LpIn w f n p) (ht : tabE b u n f = 0) (hd : dayK u d = true) :
    Calls Tryd.prog 37 #[.agg #[.int .i64 b, .slice p n c, .int .i64 u], .int .i64 d, .func (.func 45) #[] #[]] w fun e w' => e = .returned (.tuple #[.int .i64 (86400 + stepAt f n d), .int .i64 0]) ∧ Below w.heap.size w w' := by
  have A0 := below_alloc (Below.refl w.heap.size w) (.cells #[.int .i64 b, .slice p n c, .int .i64 u] 25)
  obtain ⟨x0, x1, x2⟩ := TBox.new w b u n c p 25
  have HTO := Lib.hid (tab_ok ht)
  have HOP := Lib.hid (open_ok b u n c p f _ (hw.below A0) (hs.below A0) (by have := HTO.out.n1; omega) ht)
  have A0 := Lib.hid A0
  have HD := Lib.hid hd
  have HDB := Lib.hid (show -1000000000000 ≤ d ∧ d ≤ 1000000000000 by have := HTO.out.u2; unfold dayK at hd; simp at hd; omega)
  clear hw hs ht hd
  go_enter Tryd.func37, Tryd.ntmps37
  go_upto_region 1 with fail
  generalize w.alloc (.cells #[.int .i64 b, .slice p n c, .int .i64 u] 25) = W1 at *
  have zx := cell_lt x0
  go_upto_region 4 with (go_at_call 53; refine HOP.out.mono ?_; rintro e w2 ⟨mb, rfl, hM, hb2⟩; have HM := Lib.hid hM; have HB2 := Lib.hid hb2; clear hM hb2)
  clear x0 x1 x2 zx
  have hb3 := below_alloc (Below.refl w2.heap.size w2) (.cells #[.int .i64 b, .slice p n c, .int .i64 u, .map (some mb)] 75)
  have HB3 := Lib.hid (bt (bt A0.out HB2.out) hb3)
  have HX := Lib.hid (WBox.new w2 b u n c p mb)
  have HM3 := Lib.hid (HM.out.below hb3)
  clear hb3
  generalize w2.alloc (.cells #[.int .i64 b, .slice p n c, .int .i64 u, .map (some mb)] 75) = W3 at *
  obtain ⟨⟨x0, x1, x2⟩, x3⟩ := HX.out
  have zx := cell_lt x0
  have HKD := Lib.hid (knowsDay_any b u d n c p W3 (by have := HTO.out.u1; have := HTO.out.u2; omega))
  rw [HD.out] at HKD
  go_upto_region 6 with (go_at_call 69; refine HKD.out.mono ?_; rintro e w4 ⟨rfl, hb4⟩; have HB4 := Lib.hid hb4; clear hb4)
  clear x0 x1 x2 x3 zx
  obtain ⟨⟨x0, x1, x2⟩, x3⟩ := HX.out.below HB4.out
  have zx := cell_lt x0
  have HLE := Lib.hid (length_any HTO.out d HDB.out c p mb w4 (HM3.out.below HB4.out))
  go_wp2_with (go_at_call 45; refine HLE.out.mono ?_; rintro e w5 ⟨rfl, hb5⟩; have HB5 := Lib.hid hb5; clear hb5)
  go_ret2
  exact ⟨rfl, bt (bt HB3.out HB4.out) HB5.out⟩
theorem ofDay_off (b u d : Int) (n c : Nat) (p : Option Addr) (f : Nat → Int × Int) (w : World) (hw : Mon w) (hs : LpIn w f n p) (ht : tabE b u n f = 0) (hd : dayK u d = true) (hc : n ≤ c) (hcm : c ≤ maxLen) :
    Calls Tryd.prog 37 #[.agg #[.int .i64 b, .slice p n c, .int .i64 u], .int .i64 d, .func (.methodOf 75 "meridian/calendar.offset") #[] #[]] w fun e w' => e = .returned (.tuple #[.int .i64 (b + growS f n d), .int .i64 0]) ∧ Below w.heap.size w w' := by
  have A0 := below_alloc (Below.refl w.heap.size w) (.cells #[.int .i64 b, .slice p n c, .int .i64 u] 25)
  obtain ⟨x0, x1, x2⟩ := TBox.new w b u n c p 25
  have HTO := Lib.hid (tab_ok ht)
  have HOP := Lib.hid (open_ok b u n c p f _ (hw.below A0) (hs.below A0) (by have := HTO.out.n1; omega) ht)
  have HS := Lib.hid (hs.below A0)
  have A0 := Lib.hid A0
  have HD := Lib.hid hd
  clear hw hs ht hd
  go_enter Tryd.func37, Tryd.ntmps37
  go_upto_region 1 with fail
  generalize w.alloc (.cells #[.int .i64 b, .slice p n c, .int .i64 u] 25) = W1 at *
  have zx := cell_lt x0
  go_upto_region 4 with (go_at_call 53; refine HOP.out.mono ?_; rintro e w2 ⟨mb, rfl, hM, hb2⟩; have HB2 := Lib.hid hb2; clear hM hb2)
  clear x0 x1 x2 zx
  have hb3 := below_alloc (Below.refl w2.heap.size w2) (.cells #[.int .i64 b, .slice p n c, .int .i64 u, .map (some mb)] 75)
  have HB3 := Lib.hid (bt (bt A0.out HB2.out) hb3)
  have HX := Lib.hid (WBox.new w2 b u n c p mb)
  have HS3 := Lib.hid ((HS.out.below HB2.out).below hb3)
  clear hb3
  generalize w2.alloc (.cells #[.int .i64 b, .slice p n c, .int .i64 u, .map (some mb)] 75) = W3 at *
  obtain ⟨⟨x0, x1, x2⟩, x3⟩ := HX.out
  have zx := cell_lt x0
  have HKD := Lib.hid (knowsDay_any b u d n c p W3 (by have := HTO.out.u1; have := HTO.out.u2; omega))
  rw [HD.out] at HKD
  go_upto_region 6 with (go_at_call 69; refine HKD.out.mono ?_; rintro e w4 ⟨rfl, hb4⟩; have HB4 := Lib.hid hb4; clear hb4)
  clear x0 x1 x2 x3 zx
  obtain ⟨⟨x0, x1, x2⟩, x3⟩ := HX.out.below HB4.out
  have zx := cell_lt x0
  have HLE := Lib.hid (offset_any HTO.out d c p w4 (HS3.out.below HB4.out) hc hcm)
  go_wp2_with fail
  have key : ∀ (ar : Array Value) (R : Ending → World → Prop), ar = #[.int .i64 b, .slice p n c, .int .i64 u] → Calls Tryd.prog 38 #[.agg #[.int .i64 b, .slice p n c, .int .i64 u], .int .i64 d] w4 R → Calls Tryd.prog 38 #[.agg ar, .int .i64 d] w4 R := fun ar R e h => by rw [e]; exact h
  refine key _ _ (by kernel_rfl) ?_
  refine HLE.out.mono ?_
  rintro e w5 ⟨rfl, hb5⟩
  have HB5 := Lib.hid hb5
  clear hb5
  go_wp2
  go_ret2
  exact ⟨rfl, bt (bt HB3.out HB4.out) HB5.out⟩
/-- Length, Offset, Total -/
theorem Length_any (b u d : Int) (n c : Nat) (p : Option Addr) (f : Nat → Int × Int) (w : World) (hw : Mon w) (hs : LpIn w f n p) (hn : n ≤ 1000000000000) :
    Calls Tryd.prog 16 #[.agg #[.int .i64 b, .slice p n c, .int .i64 u], .int .i64 d] w fun e w' => e = .returned (.tuple #[.int .i64 (if tabE b u n f = 0 then if dayK u d = true then 86400 + stepAt f n d else 0 else 0), .int .i64 (if tabE b u n f = 0 then if dayK u d = true then 0 else 6 else tabE b u n f)]) ∧ Below w.heap.size w w' := by
  have A0 := below_alloc (Below.refl w.heap.size w) (.cells #[.int .i64 b, .slice p n c, .int .i64 u] 25)
  obtain ⟨x0, x1, x2⟩ := TBox.new w b u n c p 25
  have H : Calls Tryd.prog 37 #[.agg #[.int .i64 b, .slice p n c, .int .i64 u], .int .i64 d, .func (.func 45) #[] #[]] (w.alloc (.cells #[.int .i64 b, .slice p n c, .int .i64 u] 25)) fun e w' => e = .returned (.tuple #[.int .i64 (if tabE b u n f = 0 then if dayK u d = true then 86400 + stepAt f n d else 0 else 0), .int .i64 (if tabE b u n f = 0 then if dayK u d = true then 0 else 6 else tabE b u n f)]) ∧ Below (w.alloc (.cells #[.int .i64 b, .slice p n c, .int .i64 u] 25)).heap.size (w.alloc (.cells #[.int .i64 b, .slice p n c, .int .i64 u] 25)) w' := by
    by_cases ht : tabE b u n f = 0
    · rw [if_pos ht, if_pos ht]
      cases hd : dayK u d
      · simp only [Bool.false_eq_true, if_false]
        exact ofDay_day _ b u d n c p f _ (hw.below A0) (hs.below A0) ht hd
      · simp only [if_true]
        exact ofDay_len b u d n c p f _ (hw.below A0) (hs.below A0) ht hd
    · rw [if_neg ht, if_neg ht]
      exact ofDay_tab _ b u d n c p f _ (hw.below A0) (hs.below A0) hn ht
  generalize (if tabE b u n f = 0 then if dayK u d = true then 86400 + stepAt f n d else 0 else 0) = r0 at *
  generalize (if tabE b u n f = 0 then if dayK u d = true then 0 else 6 else tabE b u n f) = r1 at *
  have H := Lib.hid H
  have A0 := Lib.hid A0
  clear hw hs
  go_enter Tryd.func16, Tryd.ntmps16
  go_upto_region 1 with fail
  generalize w.alloc (.cells #[.int .i64 b, .slice p n c, .int .i64 u] 25) = W1 at *
  have zx := cell_lt x0
  go_wp2_with (go_at_call 37; refine H.out.mono ?_; rintro e w2 ⟨rfl, hb2⟩; have HB2 := Lib.hid hb2; clear hb2)
  go_ret2
  exact ⟨rfl, bt A0.out HB2.out⟩
theorem Offset_any (b u d : Int) (n c : Nat) (p : Option Addr) (f : Nat → Int × Int) (w : World) (hw : Mon w) (hs : LpIn w f n p) (hn : n ≤ 1000000000000) (hc : n ≤ c) (hcm : c ≤ maxLen) :
    Calls Tryd.prog 11 #[.agg #[.int .i64 b, .slice p n c, .int .i64 u], .int .i64 d] w fun e w' => e = .returned (.tuple #[.int .i64 (if tabE b u n f = 0 then if dayK u d = true then b + growS f n d else 0 else 0), .int .i64 (if tabE b u n f = 0 then if dayK u d = true then 0 else 6 else tabE b u n f)]) ∧ Below w.heap.size w w' := by
  have A0 := below_alloc (Below.refl w.heap.size w) (.cells #[.int .i64 b, .slice p n c, .int .i64 u] 25)
  obtain ⟨x0, x1, x2⟩ := TBox.new w b u n c p 25
  have H : Calls Tryd.prog 37 #[.agg #[.int .i64 b, .slice p n c, .int .i64 u], .int .i64 d, .func (.methodOf 75 "meridian/calendar.offset") #[] #[]] (w.alloc (.cells #[.int .i64 b, .slice p n c, .int .i64 u] 25)) fun e w' => e = .returned (.tuple #[.int .i64 (if tabE b u n f = 0 then if dayK u d = true then b + growS f n d else 0 else 0), .int .i64 (if tabE b u n f = 0 then if dayK u d = true then 0 else 6 else tabE b u n f)]) ∧ Below (w.alloc (.cells #[.int .i64 b, .slice p n c, .int .i64 u] 25)).heap.size (w.alloc (.cells #[.int .i64 b, .slice p n c, .int .i64 u] 25)) w' := by
    by_cases ht : tabE b u n f = 0
    · rw [if_pos ht, if_pos ht]
      cases hd : dayK u d
      · simp only [Bool.false_eq_true, if_false]
        exact ofDay_day _ b u d n c p f _ (hw.below A0) (hs.below A0) ht hd
      · simp only [if_true]
        exact ofDay_off b u d n c p f _ (hw.below A0) (hs.below A0) ht hd hc hcm
    · rw [if_neg ht, if_neg ht]
      exact ofDay_tab _ b u d n c p f _ (hw.below A0) (hs.below A0) hn ht
  generalize (if tabE b u n f = 0 then if dayK u d = true then b + growS f n d else 0 else 0) = r0 at *
  generalize (if tabE b u n f = 0 then if dayK u d = true then 0 else 6 else tabE b u n f) = r1 at *
  have H := Lib.hid H
  have A0 := Lib.hid A0
  clear hw hs
  go_enter Tryd.func11, Tryd.ntmps11
  go_upto_region 1 with fail
  generalize w.alloc (.cells #[.int .i64 b, .slice p n c, .int .i64 u] 25) = W1 at *
  have zx := cell_lt x0
  go_wp2_with (go_at_call 37; refine H.out.mono ?_; rintro e w2 ⟨rfl, hb2⟩; have HB2 := Lib.hid hb2; clear hb2)
  go_ret2
  exact ⟨rfl, bt A0.out HB2.out⟩
theorem Total_any (b u : Int) (n c : Nat) (p : Option Addr) (f : Nat → Int × Int) (w : World) (hw : Mon w) (hs : LpIn w f n p) (hn : n ≤ 1000000000000) (hc : n ≤ c) (hcm : c ≤ maxLen) :
    Calls Tryd.prog 7 #[.agg #[.int .i64 b, .slice p n c, .int .i64 u]] w fun e w' => e = .returned (.tuple #[.int .i64 (if tabE b u n f = 0 then beginS f n u else 0), .int .i64 (tabE b u n f)]) ∧ Below w.heap.size w w' := by
  have A0 := below_alloc (Below.refl w.heap.size w) (.cells #[.int .i64 b, .slice p n c, .int .i64 u] 25)
  have HX := Lib.hid (TBox.new w b u n c p 25)
  have HCK := Lib.hid (Check_any b u n c p f _ (hw.below A0) (hs.below A0) hn)
  have HS := Lib.hid (hs.below A0)
  have A0 := Lib.hid A0
  clear hw hs
  by_cases ht : tabE b u n f = 0
  · rw [if_pos ht, ht]
    rw [ht] at HCK
    have HTO := Lib.hid (tab_ok ht)
    clear ht
    go_enter Tryd.func7, Tryd.ntmps7
    go_upto_region 1 with fail
    generalize w.alloc (.cells #[.int .i64 b, .slice p n c, .int .i64 u] 25) = W1 at *
    obtain ⟨x0, x1, x2⟩ := HX.out
    have zx := cell_lt x0
    go_upto_region 4 with (go_at_call 28; refine HCK.out.mono ?_; rintro e w2 ⟨rfl, hb2⟩; have HB2 := Lib.hid hb2; clear hb2)
    clear x0 x1 x2 zx
    obtain ⟨x0, x1, x2⟩ := HX.out.below HB2.out
    have zx := cell_lt x0
    have HTL := Lib.hid (total_any HTO.out c p w2 (HS.out.below HB2.out) hc hcm)
    go_wp2_with (go_at_call 29; refine HTL.out.mono ?_; rintro e w3 ⟨rfl, hb3⟩; have HB3 := Lib.hid hb3; clear hb3)
    go_ret2
    exact ⟨rfl, bt (bt A0.out HB2.out) HB3.out⟩
  · rw [if_neg ht]
    obtain ⟨er, her⟩ : ∃ er, tabE b u n f = er := ⟨_, rfl⟩
    rw [her] at ht HCK ⊢
    have hne : (er == 0) = false := by simpa using ht
    clear her ht
    go_enter Tryd.func7, Tryd.ntmps7
    go_upto_region 1 with fail
    generalize w.alloc (.cells #[.int .i64 b, .slice p n c, .int .i64 u] 25) = W1 at *
    obtain ⟨x0, x1, x2⟩ := HX.out
    have zx := cell_lt x0
    go_wp2_with (go_at_call 28; refine HCK.out.mono ?_; rintro e w2 ⟨rfl, hb2⟩; have HB2 := Lib.hid hb2; clear hb2)
    go_ret2
    exact ⟨rfl, bt A0.out HB2.out⟩
end Go.Proofs.YtahdkgldhiekjaaDoor.Cal
