/- Layer 9 (calendar): what a table at work says of days and seconds. -/
import Derived.Test.YtklhepgpepfgjaaDoorQ19
namespace Go.Proofs.YtklhepgpepfgjaaDoor.Cal
open Go Go.RowKit
attribute [local go_sem] Oper.semAt_some
theorem total_any {b u : Int} {n : Nat} {f : Nat → Int × Int} (ht : TabOk b u n f) (c : Nat) (p : Option Addr) (w : World) (hs : LpIn w f n p) (hc : n ≤ c) (hcm : c ≤ maxLen) :
    Calls Tryd.prog 33 #[.agg #[.int .i64 b, .slice p n c, .int .i64 u]] w fun e w' => e = .returned (.int .i64 (beginS f n u)) ∧ Below w.heap.size w w' := by
  have A0 := below_alloc (Below.refl w.heap.size w) (.cells #[.int .i64 b, .slice p n c, .int .i64 u] 24)
  obtain ⟨x0, x1, x2⟩ := TBox.new w b u n c p 24
  have HBG := Lib.hid (begin_any ht u c p _ (hs.below A0) hc hcm (by have := ht.u1; have := ht.u2; omega))
  have A0 := Lib.hid A0
  clear hs ht
  go_enter Tryd.func33, Tryd.ntmps33
  go_upto_region 1 with fail
  generalize w.alloc (.cells #[.int .i64 b, .slice p n c, .int .i64 u] 24) = W1 at *
  have zx := cell_lt x0
  go_wp2_with (go_at_call 72; refine HBG.out.mono ?_; rintro e w2 ⟨rfl, hb2⟩; have HB2 := Lib.hid hb2; clear hb2)
  go_ret
  exact ⟨rfl, bt A0.out HB2.out⟩
theorem wd_start (w : World) (b u : Int) (n c : Nat) (p : Option Addr) (mb : Nat) : WBox ((w.alloc (.cells #[.int .i64 b, .slice p n c, .int .i64 u, .map (some mb)] 95)).alloc (.cells #[.int .i64 0, .int .i64 0, .int .i64 0, .int .i64 0, .int .i64 0, .int .i64 0] 29)) w.heap.size b u n c p mb ∧ Res6 ((w.alloc (.cells #[.int .i64 b, .slice p n c, .int .i64 u, .map (some mb)] 95)).alloc (.cells #[.int .i64 0, .int .i64 0, .int .i64 0, .int .i64 0, .int .i64 0, .int .i64 0] 29)) (w.heap.size + 1) ∧ Below w.heap.size w ((w.alloc (.cells #[.int .i64 b, .slice p n c, .int .i64 u, .map (some mb)] 95)).alloc (.cells #[.int .i64 0, .int .i64 0, .int .i64 0, .int .i64 0, .int .i64 0, .int .i64 0] 29)) := by
  have b1 := below_alloc (Below.refl w.heap.size w) (.cells #[.int .i64 b, .slice p n c, .int .i64 u, .map (some mb)] 95)
  have e : (w.alloc (.cells #[.int .i64 b, .slice p n c, .int .i64 u, .map (some mb)] 95)).heap.size = w.heap.size + 1 := by simp
  have h := Res6.new (w.alloc (.cells #[.int .i64 b, .slice p n c, .int .i64 u, .map (some mb)] 95)) (.int .i64 0) (.int .i64 0) (.int .i64 0) (.int .i64 0) (.int .i64 0) (.int .i64 0) 29
  rw [e] at h
  exact ⟨(WBox.new w b u n c p mb).below (below_alloc (Below.refl _ _) _), h, below_alloc b1 _⟩
def hrS (r : Int) : Int := minS r / 60
def mnS (r : Int) : Int := minS r % 60
def scS (r : Int) : Int := r - 60 * minS r
theorem wdate_any {b u : Int} {n : Nat} {f : Nat → Int × Int} (ht : TabOk b u n f) {s D : Int} (hD : IsDayOf u n f s D) {y : Int} {k : Nat} {d : Int} (hci : IsCiv D y k d) (c : Nat) (p : Option Addr) (mb : Nat) (w : World) (hw : Mon w) (hs : LpIn w f n p) (hc : n ≤ c) (hcm : c ≤ maxLen) :
    Calls Tryd.prog 44 #[.agg #[.int .i64 b, .slice p n c, .int .i64 u, .map (some mb)], .int .i64 s] w fun e w' => e = .returned (.agg #[.int .i64 y, .int .i64 (k : Int), .int .i64 d, .int .i64 (hrS (s - beginS f n D)), .int .i64 (mnS (s - beginS f n D)), .int .i64 (scS (s - beginS f n D))]) ∧ Below w.heap.size w w' := by
  obtain ⟨hx, hr, hb⟩ := wd_start w b u n c p mb
  have HX := Lib.hid hx
  have HR := Lib.hid hr
  have A0 := Lib.hid hb
  have HW := Lib.hid (hw.below hb)
  have HM := Lib.hid (wmoment_any ht hD c p mb _ (hs.below hb) hc hcm)
  have hrb := hD.rest_bd ht
  obtain ⟨e1, e2⟩ := mom_day D (s - beginS f n D) hrb.1
  have HMD := Lib.hid (fun X hX => mdate_any (s := s - beginS f n D - 60 * minS (s - beginS f n D)) e1 e2 hci X hX)
  change Hid (∀ X, Mon X → Calls Tryd.prog 42 _ X fun e w' => e = .returned (.agg #[.int .i64 y, .int .i64 (k : Int), .int .i64 d, .int .i64 (hrS (s - beginS f n D)), .int .i64 (mnS (s - beginS f n D)), .int .i64 (scS (s - beginS f n D))]) ∧ Below X.heap.size X w') at HMD
  clear hx hr hb hw hs hrb e1 e2 ht hD hci
  obtain ⟨r, hr⟩ : ∃ r, s - beginS f n D = r := ⟨_, rfl⟩
  rw [hr] at HM HMD ⊢
  clear hr
  generalize 1440 * D + minS r = mm at *
  generalize r - 60 * minS r = ss at *
  obtain ⟨hh, hhe⟩ : ∃ hh, hrS r = hh := ⟨_, rfl⟩
  obtain ⟨mi, hmi⟩ : ∃ mi, mnS r = mi := ⟨_, rfl⟩
  obtain ⟨sc, hsc⟩ : ∃ sc, scS r = sc := ⟨_, rfl⟩
  rw [hhe, hmi, hsc] at HMD ⊢
  clear hhe hmi hsc
  go_enter Tryd.func44, Tryd.ntmps44
  go_upto_region 1 with fail
  generalize (w.alloc (.cells #[.int .i64 b, .slice p n c, .int .i64 u, .map (some mb)] 95)).alloc (.cells #[.int .i64 0, .int .i64 0, .int .i64 0, .int .i64 0, .int .i64 0, .int .i64 0] 29) = W1 at *
  obtain ⟨⟨x0, x1, x2⟩, x3⟩ := HX.out
  have zx := cell_lt x0
  go_wp2_with fail
  refine HM.out.mono ?_
  rintro e w2 ⟨rfl, hb2⟩
  have HB2 := Lib.hid hb2
  clear hb2
  go_wp2_with fail
  refine (HMD.out w2 (HW.out.below HB2.out)).mono ?_
  rintro e w3 ⟨rfl, hb3⟩
  have HB3 := Lib.hid (bt HB2.out hb3)
  clear hb3 x0 x1 x2 x3 zx
  obtain ⟨⟨u0, r0⟩, ⟨u1, r1⟩, ⟨u2, r2⟩, ⟨u3, r3⟩, ⟨u4, r4⟩, ⟨u5, r5⟩, rz⟩ := HR.out.below HB3.out
  have z0 := rz 0
  have z1 := rz 1
  have z2 := rz 2
  have z3 := rz 3
  have z4 := rz 4
  have z5 := rz 5
  have zr := cell_lt r0
  clear rz
  go_wp2
  refine bodyPost_ret (v := .agg #[.int .i64 y, .int .i64 (k : Int), .int .i64 d, .int .i64 hh, .int .i64 mi, .int .i64 sc]) (by simp [results, Tryd.results44, go_sem, r0, r1, r2, r3, r4, r5]) rfl ⟨rfl, ?_⟩
  exact (((((((bt A0.out HB3.out).setCell (p := ⟨w.heap.size + 1, _, none⟩) (Nat.le_succ _) _).setCell (p := ⟨w.heap.size + 1, _, none⟩) (Nat.le_succ _) _).setCell (p := ⟨w.heap.size + 1, _, none⟩) (Nat.le_succ _) _).setCell (p := ⟨w.heap.size + 1, _, none⟩) (Nat.le_succ _) _).setCell (p := ⟨w.heap.size + 1, _, none⟩) (Nat.le_succ _) _).setCell (p := ⟨w.heap.size + 1, _, none⟩) (Nat.le_succ _) _)
end Go.Proofs.YtklhepgpepfgjaaDoor.Cal
