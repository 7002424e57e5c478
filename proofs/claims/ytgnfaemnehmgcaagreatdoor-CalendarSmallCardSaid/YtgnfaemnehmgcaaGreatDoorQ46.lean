/-  ·  -/
import Derived.Test.YtgnfaemnehmgcaaGreatDoorQ45
import Derived.Test.YtgnfaemnehmgcaaGreatDoorQ16
import Derived.Test.YtgnfaemnehmgcaaGreatDoorQ06
import Derived.Test.YtgnfaemnehmgcaaGreatDoorQ07
import Derived.Maps.AppendAt
namespace Go.Proofs.YtgnfaemnehmgcaaGreatDoor.Cal
open Go Go.RowKit Go.Shelf
attribute [local go_sem] Oper.semAt_some
def takeZ (f : Nat → Int × Int) (n : Nat) (lm ls o : Int) (q : Nat) (g : Nat → Int × Int) (d : Kx q) : List Int := if inB2 q g d.1 (candX f n lm ls o g d.1) = true then [candX f n lm ls o g d.1] else []
def fz (f : Nat → Int × Int) (n : Nat) (lm ls o : Int) (q : Nat) (g : Nat → Int × Int) (l : List (Kx q)) : List Int := l.flatMap (takeZ f n lm ls o q g)
theorem fz_snoc (f : Nat → Int × Int) (n : Nat) (lm ls o : Int) (q : Nat) (g : Nat → Int × Int) (l : List (Kx q)) (d : Kx q) : fz f n lm ls o q g (l ++ [d]) = fz f n lm ls o q g l ++ takeZ f n lm ls o q g d := by simp [fz]
theorem fz_len (f : Nat → Int × Int) (n : Nat) (lm ls o : Int) (q : Nat) (g : Nat → Int × Int) : ∀ l, (fz f n lm ls o q g l).length ≤ l.length
  | [] => Nat.le_refl _
  | d :: l => by
    have := fz_len f n lm ls o q g l
    unfold fz at this ⊢
    rw [List.flatMap_cons, List.length_append, List.length_cons]
    have h1 : (takeZ f n lm ls o q g d).length ≤ 1 := by unfold takeZ; split <;> simp
    omega
theorem fz_all (u : Int) (f : Nat → Int × Int) (n : Nat) (lm ls o : Int) (q : Nat) (g : Nat → Int × Int) : ∀ k h, fz f n lm ls o q g ((kxL q k h).filter fun d => candB u f n lm ls o g d.1) = zfound u f n lm ls o q g k
  | 0, _ => rfl
  | k + 1, h => by
    have ih := fz_all u f n lm ls o q g k (Nat.le_of_succ_le h)
    rw [kxL, List.filter_append, zfound, ← ih]
    cases hc : candB u f n lm ls o g k
    · have e : ∀ d : Kx q, candB u f n lm ls o g d.1 = false → ([d].filter fun d => candB u f n lm ls o g d.1) = [] := fun d h => by simp [h]
      rw [e (kx q k (Nat.le_of_succ_le_succ h)) hc, List.append_nil, if_neg (by decide), List.append_nil]
    · have e : ∀ d : Kx q, candB u f n lm ls o g d.1 = true → ([d].filter fun d => candB u f n lm ls o g d.1) = [d] := fun d h => by simp [h]
      rw [e (kx q k (Nat.le_of_succ_le_succ h)) hc, fz_snoc, if_pos rfl]
      rfl
theorem candidates_any (b u : Int) (n c : Nat) (p : Option Addr) (mb : Nat) (o : Int) (q cz : Nat) (pz : Option Addr) (lm ls : Int) (w : World) :
    Calls Tryz.prog 126 #[.agg #[.int .i64 b, .slice p n c, .int .i64 u, .map (some mb)], .agg #[.int .i64 o, .slice pz q cz], .agg #[.int .i64 lm, .int .i64 ls]] w fun e w' =>
      e = .returned (.func (.func 139) #[] #[.pointer (some ⟨w.heap.size + 1, 0, none⟩), .pointer (some ⟨w.heap.size + 1 + 1, 0, none⟩), .pointer (some ⟨w.heap.size, 0, none⟩)]) ∧
      ((w.alloc (.cells #[.int .i64 b, .slice p n c, .int .i64 u, .map (some mb)] 132)).alloc (.cells #[.int .i64 o, .slice pz q cz] 38)).alloc (.cells #[.int .i64 lm, .int .i64 ls] 136) = w' := by
  go_enter Tryz.func126, Tryz.ntmps126
  go_wp2_with fail
  go_ret
  exact ⟨by simp, rfl⟩
theorem cand1_ad (m N B Bw Bz Bm : Nat) (b u : Int) (n c : Nat) (p : Option Addr) (mb : Nat) (f : Nat → Int × Int) (lm ls o : Int) (q cz : Nat) (pz : Option Addr) (g : Nat → Int × Int) (ht : TabOk b u n f) (hz : ZoneOk o q g) (hgt : ∀ i, i < q → (g i).1 ≤ 9223372036854775807)
    (hc : n ≤ c) (hcm : c ≤ maxLen) (hlm : -2000000000 ≤ lm ∧ lm ≤ 2000000000) (hls : 0 ≤ ls ∧ ls ≤ 1000000) (h1 : mb < N) (h2 : mb ≠ B) (hp : LowIn N B n p) (hpz : LowIn N B q pz) (hm : 5 ≤ m) (w : World) (hN : N ≤ w.heap.size) (hD : CAt w Bw Bz Bm b u n c p mb f lm ls o q cz pz g) :
    SeqAd m Tryz.prog 139 #[.pointer (some ⟨Bz, 0, none⟩), .pointer (some ⟨Bm, 0, none⟩), .pointer (some ⟨Bw, 0, none⟩)] (encC f n lm ls o q g) (fun l X Y => KpN N B X Y ∧ KeepsFrom (l + 1) X Y)
      ((kxL q (q + 1) (Nat.le_refl _)).filter fun d => candB u f n lm ls o g d.1) (q + 1) w := by
  intro l J W hW hl hJ hY hJ0
  exact cand1_in m l N B Bw Bz Bm b u n c p mb f lm ls o q cz pz g ht hz hgt hc hcm hlm hls h1 h2 hp hpz hm J W (Nat.le_trans hN hW.size) hl hY hJ (hD.below hW) hJ0
theorem own_base {X : World} {A M : Nat} {e : TypeId} {s k : Nat} {v : Value} {xs : List Value} (h : X.ownsRow A e s v k xs) (hM : M ≤ A) : X.ownsRow M e s v k xs :=
  ⟨h.1, h.2.imp id (fun ⟨g, cap, cur, e, hb, r⟩ => ⟨g, cap, cur, e, Nat.le_trans hM hb, r⟩)⟩
theorem kp_append {N B : Nat} {X w1 : World} {v v' : Value} {k : Nat} {xs : List Value} {tmp : Obj} (hv : Boxed X B 30 v) (hrow : X.ownsRow N 3 1 v k xs) (hgrow : (X.alloc tmp).grownBy w1 v.ownBlock) : KpN N B X (w1.setCell ⟨B, 0, none⟩ v') := by
  have hA := below_alloc (Below.refl X.heap.size X) tmp
  have hne : ∀ j, some j = v.ownBlock → N ≤ j ∧ ∃ cur, X.heap[j]? = some (.cells cur 3) := fun j ej => by
    rcases hrow.2 with ⟨rfl, _⟩ | ⟨g, cap, cur, rfl, hb, hg, _⟩
    · simp [Value.ownBlock] at ej
    · obtain rfl : j = g := by simpa [Value.ownBlock] using ej
      exact ⟨hb, _, hg⟩
  have hs1 := hgrow.size
  have hs2 := hA.size
  refine ⟨by simp; omega, fun j ob h1 h2 h3 => ?_, fun j a t h1 h2 h3 => ?_⟩
  · have hlt := (Array.getElem?_eq_some_iff.1 h3).1
    rw [Below.heap_setCell _ _ _ _ (fun e => h2 e), hgrow.block j (by omega) (fun e => by have := (hne j e).1; omega), hA.block j hlt]
    exact h3
  · have hlt := (Array.getElem?_eq_some_iff.1 h3).1
    rw [Below.heap_setCell _ _ _ _ (fun e => ?_), hgrow.block j (by omega) (fun e => ?_), hA.block j hlt]
    · exact h3
    · obtain ⟨cur, hcur⟩ := (hne j e).2
      rw [h3] at hcur; cases hcur; exact h1 rfl
    · have e' : j = B := e
      rw [e', show X.heap[B]? = _ from hv] at h3
      cases h3; exact h2 rfl
end Go.Proofs.YtgnfaemnehmgcaaGreatDoor.Cal
namespace Go.Proofs.YtgnfaemnehmgcaaGreatDoor.Cal
open Go Go.RowKit Go.Shelf
attribute [local go_sem] Oper.semAt_some
theorem two_e (w : World) (x y : Int) (t : TypeId) : FnIn (w.alloc (.cells #[.int .i64 x, .int .i64 y] t)) (fun i => if i = 0 then x else y) 2 (some ⟨w.heap.size, 0, none⟩) :=
  .inr ⟨_, _, rfl, fun i hi => by
    rcases (by omega : i = 0 ∨ i = 1) with rfl | rfl
    · simp
    · simp⟩
theorem fl_start (w : World) (b u : Int) (n c : Nat) (p : Option Addr) (o : Int) (q cz : Nat) (pz : Option Addr) (y m d h mi s : Int) :
    ∃ W1, ((w.alloc (.cells #[.int .i64 b, .slice p n c, .int .i64 u] 24)).alloc (.cells #[.int .i64 o, .slice pz q cz] 38)).alloc (.cells #[.int .i64 y, .int .i64 m, .int .i64 d, .int .i64 h, .int .i64 mi, .int .i64 s] 26) = W1 ∧
      TBox W1 w.heap.size b u n c p ∧ ZBox W1 (w.heap.size + 1) o q cz pz ∧ DBox W1 (w.heap.size + 1 + 1) y m d h mi s ∧ Below w.heap.size w W1 ∧ W1.heap.size = w.heap.size + 3 := by
  refine ⟨_, rfl, ?_⟩
  have b1 := below_alloc (Below.refl w.heap.size w) (.cells #[.int .i64 b, .slice p n c, .int .i64 u] 24)
  have h1 := TBox.new w b u n c p 24
  have e1 : (w.alloc (.cells #[.int .i64 b, .slice p n c, .int .i64 u] 24)).heap.size = w.heap.size + 1 := by simp
  generalize w.alloc (.cells #[.int .i64 b, .slice p n c, .int .i64 u] 24) = W1 at *
  have b2 := below_alloc (Below.refl W1.heap.size W1) (.cells #[.int .i64 o, .slice pz q cz] 38)
  have h2 := ZBox.new W1 o q cz pz 38
  have e2 : (W1.alloc (.cells #[.int .i64 o, .slice pz q cz] 38)).heap.size = w.heap.size + 1 + 1 := by simp [e1]
  rw [e1] at h2
  have h1' := h1.below b2
  have b2' := bt b1 b2
  generalize W1.alloc (.cells #[.int .i64 o, .slice pz q cz] 38) = W2 at *
  have b3 := below_alloc (Below.refl W2.heap.size W2) (.cells #[.int .i64 y, .int .i64 m, .int .i64 d, .int .i64 h, .int .i64 mi, .int .i64 s] 26)
  have h3 := DBox.new W2 y m d h mi s
  rw [e2] at h3
  exact ⟨h1'.below b3, h2.below b3, h3, bt b2' b3, by simp [e2]⟩
set_option maxRecDepth 100000 in
set_option maxHeartbeats 8000000 in
theorem FromLocal_ok {b u : Int} {n : Nat} {f : Nat → Int × Int} (ht : tabE b u n f = 0) {o : Int} {q : Nat} {g : Nat → Int × Int} (hze : zoneE o q g = 0) (hgt : ∀ i, i < q → (g i).1 ≤ 9223372036854775807) {y : Int} {m : Nat} {d : Int} (hd : IsDate y m d) (h mi s : Int) (hh : tB h = true) (hmi : miB mi = true) (hsb : sB s = true)
    (c : Nat) (p : Option Addr) (cz : Nat) (pz : Option Addr) (w : World) (hw : Mon w) (hs : LpIn w f n p) (hs2 : LpIn w g q pz) (hc : n ≤ c) (hcm : c ≤ maxLen) :
    Calls Tryz.prog 64 #[.agg #[.int .i64 b, .slice p n c, .int .i64 u], .agg #[.int .i64 o, .slice pz q cz], .agg #[.int .i64 y, .int .i64 (m : Int), .int .i64 d, .int .i64 h, .int .i64 mi, .int .i64 s]] w fun e w' =>
      (∃ r cr, e = .returned (.tuple #[.slice r (zfound u f n (1440 * dayN y m d + 60 * h + mi) s o q g (q + 1)).length cr, .int .i64 (if zfound u f n (1440 * dayN y m d + 60 * h + mi) s o q g (q + 1) = [] then 4 else 0)]) ∧
        FnIn w' (atL (zfound u f n (1440 * dayN y m d + 60 * h + mi) s o q g (q + 1))) (zfound u f n (1440 * dayN y m d + 60 * h + mi) s o q g (q + 1)).length r) ∧ Below w.heap.size w w' := by
  obtain ⟨i0, hi0, hz0, hz1, hz2⟩ := info_parts infoInt
  obtain ⟨W1, hW1, hx, hy, hdb, A0, hsz1⟩ := fl_start w b u n c p o q cz pz y m d h mi s
  have HX := Lib.hid hx
  have HY := Lib.hid hy
  have HDB := Lib.hid hdb
  have A0 := Lib.hid A0
  have HT := Lib.hid ht
  have HTO := Lib.hid (tab_ok ht)
  have HZ := Lib.hid hze
  have HZO := Lib.hid (zone_ok hze)
  have HW := Lib.hid (hw.below A0.out)
  have HS := Lib.hid (hs.below A0.out)
  have HS2 := Lib.hid (hs2.below A0.out)
  have hnb := hd.civ.n_bd
  have HLM : Hid (-2000000000 ≤ 1440 * dayN y m d + 60 * h + mi ∧ 1440 * dayN y m d + 60 * h + mi ≤ 2000000000) := by
    unfold tB at hh; unfold miB at hmi
    simp only [Bool.and_eq_true, decide_eq_true_eq] at hh hmi
    exact Lib.hid (by omega)
  have HLS : Hid (0 ≤ s ∧ s ≤ 60) := by
    unfold sB at hsb
    simp only [Bool.and_eq_true, decide_eq_true_eq] at hsb
    exact Lib.hid hsb
  have HMO := Lib.hid (fun X (hX : Mon X) => dmoment_ok h mi s X hX hd hh hmi hsb)
  generalize 1440 * dayN y m d + 60 * h + mi = lm at *
  obtain ⟨L, hL⟩ : ∃ L, zfound u f n lm s o q g (q + 1) = L := ⟨_, rfl⟩
  rw [hL]
  have HL := Lib.hid hL
  clear hL
  obtain ⟨er, her⟩ : ∃ er, (if L = [] then (4 : Int) else 0) = er := ⟨_, rfl⟩
  rw [her]
  have HER := Lib.hid her
  clear her
  clear hx hy hdb ht hze hw hs hs2 hnb hd hh hmi hsb
  refine (callsIn_wide (n := 9)).1 ?_
  have hro : Fence.wide.round = none := rfl
  refine callsIn_of_wp_marks Tryz.func64 rfl trivial ?_ hro
  simp only [Tryz.ntmps64, List.size_toArray, List.length_cons, List.length_nil, Nat.reduceAdd, Nat.reduceSub, Array.replicate_succ, Array.replicate_zero, List.push_toArray, List.append_toArray, List.nil_append, List.cons_append]
  refine wpIn_wide.2 ?_
  go_upto_region 1 with fail
  clear hW1
  obtain ⟨x0, x1, x2⟩ := HX.out
  have zx := cell_lt x0
  have HOP := Lib.hid (open_ok b u n c p f W1 HW.out HS.out (by have := HTO.out.n1; omega) HT.out)
  go_upto_region 2 with (go_at_call 82; refine HOP.out.mono ?_; rintro e w2 ⟨mb, rfl, hM, hb2⟩; have HM := Lib.hid hM; have HB2 := Lib.hid hb2; clear hM hb2)
  clear x0 x1 x2 zx
  have hb3 := below_alloc (Below.refl w2.heap.size w2) (.cells #[.int .i64 b, .slice p n c, .int .i64 u, .map (some mb)] 132)
  have HX2 := Lib.hid (WBox.new w2 b u n c p mb)
  have HM3 := Lib.hid (HM.out.below hb3)
  have HB3 := Lib.hid (bt HB2.out hb3)
  clear hb3
  generalize w2.alloc (.cells #[.int .i64 b, .slice p n c, .int .i64 u, .map (some mb)] 132) = W3 at *
  generalize w2.heap.size = aw at *
  obtain ⟨y0, y1⟩ := HY.out.below HB3.out
  have zy := cell_lt y0
  have HCZ := Lib.hid (CheckZone_any o q cz pz g W3 (HS2.out.below HB3.out) (by have := HZO.out.q1; omega))
  rw [HZ.out] at HCZ
  have hor0 : orF (fun i => if i = 0 then (0 : Int) else 0) 2 = 0 := rfl
  have HOR := Lib.hid (fun X (hX : Below W3.heap.size W3 X) => by
    have := Calls.bel (bt hX (below_alloc (Below.refl X.heap.size X) (.cells #[.int .i64 0, .int .i64 0] 50))) (or_any _ 2 2 _ _ (by decide) (two_e X 0 0 50))
    rw [hor0] at this
    exact this)
  clear hor0
  go_upto_region 5 with (first | (go_at_call 60; refine HCZ.out.mono ?_; rintro e w4 ⟨rfl, hb4⟩; have HB4 := Lib.hid hb4) | (go_at_call 71; refine (HOR.out _ HB4.out).mono ?_; rintro e w5 ⟨rfl, hb5⟩; have HB5 := Lib.hid hb5))
  clear y0 y1 zy HCZ HOR hb4
  have HB6 := Lib.hid (bt HB3.out hb5)
  obtain ⟨y0, y1, y2, y3, y4, y5⟩ := HDB.out.below HB6.out
  have zy := cell_lt y0
  have HMO5 := Lib.hid (HMO.out _ (HW.out.below HB6.out))
  go_upto_region 8 with (go_at_call 83; refine HMO5.out.mono ?_; rintro e w6 ⟨rfl, hb6⟩; have HB7 := Lib.hid hb6)
  clear y0 y1 y2 y3 y4 y5 zy HMO5 HMO HB4 HB5
  have hba := below_alloc (Below.refl w6.heap.size w6) (.cells #[.int .i64 lm, .int .i64 s] 136)
  have HMB := Lib.hid (MBox.new w6 lm s)
  have HB8 := Lib.hid (bt (bt hb5 hb6) hba)
  clear hba hb5 hb6
  generalize w6.alloc (.cells #[.int .i64 lm, .int .i64 s] 136) = W7 at *
  generalize w6.heap.size = am at *
  go_upto_region 9 with fail
  have hbf := below_alloc (Below.refl W7.heap.size W7) (.cells #[.slice none 0 0] 30)
  have HBF := Lib.hid (Boxed.new W7 30 (.slice none 0 0))
  have HB9 := Lib.hid (bt HB8.out hbf)
  have HF8 := Lib.hid (show (W7.alloc (.cells #[.slice none 0 0] 30)).heap.size = W7.heap.size + 1 by simp)
  have HMB8 := Lib.hid (HMB.out.below hbf)
  clear hbf
  generalize W7.alloc (.cells #[.slice none 0 0] 30) = W8 at *
  obtain ⟨⟨x0, x1, x2⟩, x3⟩ := HX2.out.below HB9.out
  have zx := cell_lt x0
  obtain ⟨y0, y1⟩ := HY.out.below (bt HB3.out HB9.out)
  have zy := cell_lt y0
  obtain ⟨q0, q1⟩ := HMB8.out
  have zq := cell_lt q0
  go_wp2_with (go_at_call 126; refine (candidates_any b u n c p mb o q cz pz lm s W8).mono ?_; rintro e w9 ⟨rfl, hW9⟩)
  clear x0 x1 x2 x3 zx y0 y1 zy q0 q1 zq
  have hB9 : Below W8.heap.size W8 w9 := by
    rw [← hW9]
    exact below_alloc (below_alloc (below_alloc (Below.refl _ _) _) _) _
  have hs9 : w9.heap.size = W8.heap.size + 3 := by rw [← hW9]; simp
  have k1 : w9.heap[W8.heap.size]? = some (.cells #[.int .i64 b, .slice p n c, .int .i64 u, .map (some mb)] 132) := by
    rw [← hW9]
    exact heap_below (below_alloc (Below.refl _ _) _) (heap_below (below_alloc (Below.refl _ _) _) (World.alloc_heap_new _ _))
  have k2 : w9.heap[W8.heap.size + 1]? = some (.cells #[.int .i64 o, .slice pz q cz] 38) := by
    rw [← hW9]
    have := heap_below (below_alloc (Below.refl _ _) (.cells #[.int .i64 lm, .int .i64 s] 136)) (World.alloc_heap_new (W8.alloc (.cells #[.int .i64 b, .slice p n c, .int .i64 u, .map (some mb)] 132)) (.cells #[.int .i64 o, .slice pz q cz] 38))
    simpa using this
  have k3 : w9.heap[W8.heap.size + 1 + 1]? = some (.cells #[.int .i64 lm, .int .i64 s] 136) := by
    rw [← hW9]
    have := World.alloc_heap_new ((W8.alloc (.cells #[.int .i64 b, .slice p n c, .int .i64 u, .map (some mb)] 132)).alloc (.cells #[.int .i64 o, .slice pz q cz] 38)) (.cells #[.int .i64 lm, .int .i64 s] 136)
    simpa using this
  clear hW9
  have HB0 := Lib.hid (bt (bt (bt A0.out HB3.out) HB9.out) hB9)
  have hmlt : mb < W3.heap.size := by obtain ⟨D, h1, -⟩ := HM3.out; exact h1.lt
  have hs78 := HB9.out.size
  have hs13 := HB3.out.size
  have hf8 := HF8.out
  have hD : CAt w9 W8.heap.size (W8.heap.size + 1) (W8.heap.size + 1 + 1) b u n c p mb f lm s o q cz pz g :=
    ⟨k1, k2, k3, (HM3.out.below HB9.out).below hB9, (((HS.out.below HB3.out).below HB9.out).below hB9), (((HS2.out.below HB3.out).below HB9.out).below hB9)⟩
  have hs38 := HB8.out.size
  have hbf : Boxed w9 W7.heap.size 30 (.slice none 0 0) := heap_below hB9 HBF.out
  have hlo1 : LowIn w9.heap.size W7.heap.size n p := HS.out.low (by omega) (by omega)
  have hlo2 : LowIn w9.heap.size W7.heap.size q pz := HS2.out.low (by omega) (by omega)
  have HST := cand1_ad 8 w9.heap.size W7.heap.size W8.heap.size (W8.heap.size + 1) (W8.heap.size + 1 + 1) b u n c p mb f lm s o q cz pz g HTO.out HZO.out hgt hc hcm HLM.out (by have := HLS.out; omega) (by omega) (by omega) hlo1 hlo2 (by decide) w9 (Nat.le_refl _) hD
  have hq200 := HZO.out.q1
  have hWN : W7.heap.size < w9.heap.size := by omega
  have hwN : w.heap.size ≤ w9.heap.size := HB0.out.size
  have hwF : w.heap.size ≤ W7.heap.size := by have := A0.out.size; omega
  clear hf8 hs9 hs78 hs13 hs38 hmlt hsz1
  refine (wpIn_wide (n := 9)).1 ?_
  refine range_ad (by decide) (gf := 139) (lb := #[.pointer (some ⟨W8.heap.size + 1, 0, none⟩), .pointer (some ⟨W8.heap.size + 1 + 1, 0, none⟩), .pointer (some ⟨W8.heap.size, 0, none⟩)]) rfl (enters_of Tryz.func139 (by kernel_rfl) rfl)
    HST (fun h k => h.trans k) (fun X l ob ob' e1 e2 e3 => KpN.putObj (Nat.le_refl _) X l ob ob' e1 e2 e3) (fun _ => rfl)
    (fun pre X => (∃ v, Boxed X W7.heap.size 30 v ∧ X.ownsRow w9.heap.size 3 1 v (fz f n lm s o q g pre).length (ints (fz f n lm s o q g pre))) ∧ Below w.heap.size w X ∧ w9.heap.size ≤ X.heap.size)
    (fun pre X Y row hs hg hr => by
      obtain ⟨⟨v, e1, e2⟩, e3, e5⟩ := hs
      have hne : some W7.heap.size ≠ row := fun e => by have := (hr _ e.symm).1; omega
      refine ⟨⟨v, e1.kept hg hne, e2.kept hg ?_⟩, e3.grown hg e3.size (fun k e => by have := (hr k e).1; omega), Nat.le_trans e5 hg.size⟩
      rcases e2.2 with ⟨e4, _⟩ | ⟨g1, cap, cur, e4, _, hgb, _⟩
      · exact .inl (by rw [e4]; rfl)
      · refine .inr fun e' => ?_
        obtain ⟨-, ob, ho, hcc⟩ := hr g1 (by rw [← e', e4]; rfl)
        rw [hgb] at ho; cases ho; cases hcc)
    ⟨⟨_, hbf, World.ownsRow_nil _ _ _ _⟩, HB0.out, Nat.le_refl _⟩
    (fun dx a' X => ∃ Bh, Boxed2 X Bh 171 (.int .i64 (fromK g dx.1)) (.int .i64 (hiK q g dx.1)) ∧ a' = { tmps := #[.agg #[.int .i64 b, .slice p n c, .int .i64 u], .agg #[.int .i64 o, .slice pz q cz], .agg #[.int .i64 y, .int .i64 (m : Int), .int .i64 d, .int .i64 h, .int .i64 mi, .int .i64 s], .pointer (some ⟨w.heap.size, 0, none⟩), .pointer (some ⟨w.heap.size + 1, 0, none⟩), .pointer (some ⟨w.heap.size + 1 + 1, 0, none⟩), .slice none 0 0, .int .i64 0, .pointer (some ⟨aw, 0, none⟩), .int .i64 0, .pointer (some ⟨am, 0, none⟩), .pointer (some ⟨W7.heap.size, 0, none⟩), .int .i64 (candX f n lm s o g dx.1), .pointer (some ⟨Bh, 0, none⟩), .tuple #[.agg #[.int .i64 b, .slice p n c, .int .i64 u, .map (some mb)], .int .i64 0], .agg #[.int .i64 b, .slice p n c, .int .i64 u], .tuple #[.agg #[.int .i64 b, .slice p n c, .int .i64 u, .map (some mb)], .int .i64 0], .agg #[.int .i64 b, .slice p n c, .int .i64 u, .map (some mb)], .int .i64 0, .int .i64 0, .agg #[.int .i64 o, .slice pz q cz], .int .i64 0, .slice (some ⟨w4.heap.size, 0, none⟩) 2 2, .int .i64 0, .int .i64 0, .bool false, undef, .tuple #[.agg #[.int .i64 lm, .int .i64 s], .int .i64 0], .agg #[.int .i64 y, .int .i64 (m : Int), .int .i64 d, .int .i64 h, .int .i64 mi, .int .i64 s], .tuple #[.agg #[.int .i64 lm, .int .i64 s], .int .i64 0], .agg #[.int .i64 lm, .int .i64 s], .int .i64 0, .int .i64 0, .bool false, undef, .agg #[.int .i64 b, .slice p n c, .int .i64 u, .map (some mb)], .agg #[.int .i64 o, .slice pz q cz], .agg #[.int .i64 lm, .int .i64 s], .func (.func 139) #[] #[.pointer (some ⟨W8.heap.size + 1, 0, none⟩), .pointer (some ⟨W8.heap.size + 1 + 1, 0, none⟩), .pointer (some ⟨W8.heap.size, 0, none⟩)], .int .i64 (candX f n lm s o g dx.1), .agg #[.int .i64 (fromK g dx.1), .int .i64 (hiK q g dx.1)], undef, undef, undef, undef, undef, undef, undef, undef, undef, undef, undef, undef, undef, undef], defers := [] })
    (fun dx a' _ X Y row hs hg hr => by
      obtain ⟨Bh, e1, e2⟩ := hs
      exact ⟨Bh, e1.kept hg (fun e => by obtain ⟨_, o, ho, hc⟩ := hr Bh e.symm; rw [show X.heap[Bh]? = _ from e1] at ho; cases ho; cases hc), e2⟩) ?assign ?body ?done
  case assign =>
    rintro l pre dx X K ⟨⟨v, e1, e2⟩, e3, e5⟩ hK
    unfold encC
    gi_wp2
    have hb := below_alloc (Below.refl X.heap.size X) (.cells #[.int .i64 (fromK g dx.1), .int .i64 (hiK q g dx.1)] 171)
    exact hK _ _ (keeps_below hb) (KpN.of_below hb) ⟨⟨v, e1.alloc _, e2.alloc _⟩, bt e3 hb, Nat.le_trans e5 hb.size⟩ ⟨_, World.alloc_heap_new _ _, rfl⟩
  case body =>
    rintro l pre dx a' X ⟨⟨v, hv, hrow⟩, hB, hN9⟩ ⟨Bh, hBh, rfl⟩ hlen
    have hc0 := hv.cell
    have hpl := fz_len f n lm s o q g pre
    have s0 := hBh.c0
    have s1 := hBh.c1
    have zs := cell_lt s0
    have HXT := Lib.hid (show takeZ f n lm s o q g dx = if inB2 q g dx.1 (candX f n lm s o g dx.1) = true then [candX f n lm s o g dx.1] else [] from rfl)
    have HIN := Lib.hid (show inB2 q g dx.1 (candX f n lm s o g dx.1) = (decide (fromK g dx.1 ≤ candX f n lm s o g dx.1) && decide (candX f n lm s o g dx.1 ≤ hiK q g dx.1)) from rfl)
    have HWI := Lib.hid (fun Y => within_any (candX f n lm s o g dx.1) (fromK g dx.1) (hiK q g dx.1) Y)
    obtain ⟨xx, hxx⟩ : ∃ xx, candX f n lm s o g dx.1 = xx := ⟨_, rfl⟩
    obtain ⟨lo, hlo⟩ : ∃ lo, fromK g dx.1 = lo := ⟨_, rfl⟩
    obtain ⟨hi, hhi⟩ : ∃ hi, hiK q g dx.1 = hi := ⟨_, rfl⟩
    rw [hxx, hlo, hhi] at HIN
    rw [hxx] at HXT
    rw [hxx, hlo, hhi] at HWI
    rw [hlo] at s0
    rw [hhi] at s1
    rw [hxx, hlo, hhi]
    clear hxx hlo hhi hBh
    cases hin : inB2 q g dx.1 xx
    · rw [hin] at HIN HXT
      have HWI := Lib.hid (fun Y => by have := HWI.out Y; rw [← HIN.out] at this; exact this)
      gi_wp2_with (refine ⟨trivial, ?_⟩; gi_at_call 67; refine (CallsIn.inRound l (callsIn_wide.2 (HWI.out _))).mono ?_; rintro e w2 ⟨rfl, rfl⟩)
      refine ⟨KeepsFrom.refl _ _, KpN.of_below (Below.refl _ _), ⟨v, hv, ?_⟩, hB, hN9⟩
      rw [fz_snoc, HXT.out, if_neg (by decide), List.append_nil]
      exact hrow
    · rw [hin] at HIN HXT
      have HWI := Lib.hid (fun Y => by have := HWI.out Y; rw [← HIN.out] at this; exact this)
      gi_wp2_with (first | (refine ⟨trivial, ?_⟩; gi_at_call 67; refine (CallsIn.inRound l (callsIn_wide.2 (HWI.out _))).mono ?_; rintro e w2 ⟨rfl, rfl⟩) | (gi_at_builtin; refine wpListIn_append_own _ rfl _ _ 30 rfl w9.heap.size 3 i0 (.int .i64 0) 1 8 Tryz.underlying30 hi0 hz0 hz1 hz2 rfl (by decide) _ _ _ rfl (hrow.alloc _) ⟨X.heap.size, 0, none⟩ 1 1 [.int .i64 xx] rfl rfl (cell_one_new _ _ _) (by simp [Value.oneCell']) (by unfold maxLen; omega) (by omega) (by simp; omega) ?_; intro v' w1 hown' hgrow _; obtain ⟨g', cap', rfl⟩ := ownsRow_succ hown'; obtain ⟨hv1, hv2, -, hk2, hb2⟩ := hv.appended (by decide) (own_base hrow hwN) hB.size hwF (own_base hown' hwN) hgrow; have hr2 := hown'.kept (grownBy_setCell' w1 W7.heap.size (.slice (some ⟨g', 0, none⟩) ((fz f n lm s o q g pre).length + 1) cap')) (.inr (hv1.not_row (by decide) hown').symm); have hc1 := hv1.cell; have hf1 := hv1.frozen; have hkp := kp_append (v' := .slice (some ⟨g', 0, none⟩) ((fz f n lm s o q g pre).length + 1) cap') hv hrow hgrow))
      refine ⟨hk2.from _, hkp, ⟨_, hv2, ?_⟩, hB.trans hb2, ?_⟩
      · rw [fz_snoc, HXT.out, if_pos trivial]
        simpa [ints] using hr2
      · exact Nat.le_trans hN9 hkp.size
  case done =>
    rintro D X hDl ⟨⟨v, e1, e2⟩, e3, e5⟩ hK
    rw [fz_all, HL.out] at e2
    have hll := zfound_len u f n lm s o q g (q + 1)
    rw [HL.out] at hll
    obtain ⟨r, cr, rfl, -, -⟩ := OL.fn (A := w) (X := X) (l := L) ⟨own_base e2 hwN, e3⟩
    have c0 := e1.cell
    have z0 := cell_lt c0
    have HE := Lib.hid (show ∃ r' cr', (Value.slice r L.length cr) = .slice r' L.length cr' ∧ FnIn (X.putObj D (.deferred none)) (atL L) L.length r' from by
      obtain ⟨r', cr', e, -, h2⟩ := OL.fn (A := w) (X := X.putObj D (.deferred none)) (l := L) ⟨own_base (ownsRow_putObj e2 _ hK rfl) hwN, e3.trans (belowK_b (w := w) (Nat.le_refl _) X D _ _ (by omega) hK rfl rfl)⟩
      exact ⟨r', cr', e, h2⟩)
    have HB := Lib.hid (e3.trans (belowK_b (w := w) (Nat.le_refl _) X D (.deferred (some [])) (.deferred none) (by omega) hK rfl rfl))
    clear e1 e2
    by_cases h0 : L = []
    · subst h0
      have her := HER.out
      rw [if_pos rfl] at her
      have HER2 := Lib.hid her
      clear her
      go_wp2_with (go_at_call 88; refine (some_no _ _ _).mono ?_; rintro e w' ⟨rfl, rfl⟩)
      refine ⟨by simp, .inl ⟨_, _, rfl, run_takeDeferred hK, ?_⟩⟩
      refine ⟨_, results_tmp2 rfl _ _ _, ⟨none, 0, by rw [← HER2.out]; rfl, .inl rfl⟩, HB.out⟩
    · have h1 : 1 ≤ L.length := by
        cases L with
        | nil => exact absurd rfl h0
        | cons _ _ => simp
      have her := HER.out
      rw [if_neg h0] at her
      have HER2 := Lib.hid her
      clear her
      go_wp2_with (go_at_call 88; refine (some_ok _ _ _ _ h1 (by omega)).mono ?_; rintro e w' ⟨rfl, rfl⟩)
      refine ⟨by simp, .inl ⟨_, _, rfl, run_takeDeferred hK, ?_⟩⟩
      obtain ⟨r', cr', e, h2⟩ := HE.out
      cases e
      refine ⟨_, results_tmp2 rfl _ _ _, ⟨r, cr, by rw [← HER2.out]; rfl, h2⟩, HB.out⟩
end Go.Proofs.YtgnfaemnehmgcaaGreatDoor.Cal
