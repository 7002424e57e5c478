/-  ·  ·  -/
import Derived.Test.YtgnfaemnehmgcaaGreatDoorQ06
namespace Go.Proofs.YtgnfaemnehmgcaaGreatDoor.Cal
open Go Go.RowKit
attribute [local go_sem] Oper.semAt_some
theorem infoInt : (Tryz.prog.info? 3).map (fun i => (i.zero, i.size, i.bytes)) = some (some (.int .i64 0), 1, 8) := by kernel_rfl
def ints (l : List Int) : List Value := l.map fun x => .int .i64 x
structure OL (A X : World) (v : Value) (l : List Int) : Prop where
  own : X.ownsRow A.heap.size 3 1 v l.length (ints l)
  bel : Below A.heap.size A X
theorem OL.nil {A X : World} (h : Below A.heap.size A X) : OL A X (.slice none 0 0) [] := ⟨World.ownsRow_nil _ _ _ _, h⟩
theorem own_keep {w w' : World} {b s n : Nat} {e : TypeId} {v : Value} {xs : List Value} {B : Nat} (h : w.ownsRow b e s v n xs) (hb : Below B w w') (hB : w.heap.size ≤ B) : w'.ownsRow b e s v n xs := by
  refine ⟨h.1, h.2.imp id ?_⟩
  rintro ⟨g, cap, cur, e1, h1, h2, h3⟩
  exact ⟨g, cap, cur, e1, h1, (hb.block g (by have := (Array.getElem?_eq_some_iff.1 h2).1; omega)).trans h2, h3⟩
theorem OL.below {A X Y : World} {v : Value} {l : List Int} (h : OL A X v l) (hb : Below X.heap.size X Y) : OL A Y v l := ⟨own_keep h.own hb (Nat.le_refl _), bt h.bel hb⟩
theorem own_ge {w : World} {b : Nat} {e : TypeId} {v : Value} {n k : Nat} {xs : List Value} (h : w.ownsRow b e 1 v n xs) (hk : v.ownBlock = some k) : b ≤ k := by
  rcases h.2 with ⟨rfl, _⟩ | ⟨g, cap, cur, rfl, hg, _⟩
  · cases hk
  · obtain rfl : g = k := by simpa [Value.ownBlock] using hk
    exact hg
theorem OL.more {A X Y : World} {v v' : Value} {l : List Int} {x : Int} {o : Obj} (h : OL A X v l) (hown : Y.ownsRow A.heap.size 3 1 v' (l.length + 1) (ints l ++ [.int .i64 x])) (hg : (X.alloc o).grownBy Y v.ownBlock) : OL A Y v' (l ++ [x]) := by
  refine ⟨by simpa [ints] using hown, ?_⟩
  have hb := below_alloc h.bel o
  exact hb.grown hg hb.size (fun j hj => own_ge h.own hj)
def FnAt (w : World) (f : Nat → Int) (n b o : Nat) : Prop := ∀ i, i < n → w.cell? ⟨b, o + i, none⟩ = some (.int .i64 (f i))
def FnIn (w : World) (f : Nat → Int) (n : Nat) (p : Option Addr) : Prop := n = 0 ∨ ∃ b o, p = some ⟨b, o, none⟩ ∧ FnAt w f n b o
theorem FnIn.below {w w' : World} {f : Nat → Int} {n : Nat} {p : Option Addr} (h : FnIn w f n p) (hb : Below w.heap.size w w') : FnIn w' f n p := h.imp id fun ⟨b, o, e, hi⟩ => ⟨b, o, e, fun i hi' => cell_below hb (hi i hi')⟩
def atL (l : List Int) (i : Nat) : Int := l[i]?.getD 0
theorem OL.fn {A X : World} {v : Value} {l : List Int} (h : OL A X v l) : ∃ p c, v = .slice p l.length c ∧ l.length ≤ c ∧ FnIn X (atL l) l.length p := by
  rcases h.own.2 with ⟨rfl, h0⟩ | ⟨g, cap, cur, rfl, _, hg, hc, _, hs, ht⟩
  · rw [h0]; exact ⟨none, 0, rfl, Nat.le_refl _, .inl rfl⟩
  · refine ⟨some ⟨g, 0, none⟩, cap, rfl, hc, .inr ⟨g, 0, rfl, fun i hi => ?_⟩⟩
    have e : cur.toList[i]? = some (.int .i64 (atL l i)) := by
      have h1 : (cur.toList.take (l.length * 1))[i]? = cur.toList[i]? := by rw [List.getElem?_take, if_pos (by omega)]
      rw [← h1, ht]
      unfold ints atL
      rw [List.getElem?_map, List.getElem?_eq_getElem hi]; rfl
    have e2 : cur[i]? = some (.int .i64 (atL l i)) := by rw [← e]; simp
    rw [Nat.zero_add]
    simp [World.cell?, hg, e2]
theorem some_ok (p : Option Addr) (n c : Nat) (w : World) (hn : 1 ≤ n) (hm : n ≤ 1000000000) :
    Calls Tryz.prog 88 #[.slice p n c] w fun e w' => e = .returned (.tuple #[.slice p n c, .int .i64 0]) ∧ w = w' := by
  have h0 : ((n : Int) == 0) = false := by simp; omega
  have h1 : ¬ (n : Int) = 0 := by omega
  have h2 : ¬ n = 0 := by omega
  go_enter Tryz.func88, Tryz.ntmps88
  go_wp2
  go_ret2
  exact ⟨rfl, rfl⟩
theorem some_no (p : Option Addr) (c : Nat) (w : World) :
    Calls Tryz.prog 88 #[.slice p 0 c] w fun e w' => e = .returned (.tuple #[.slice none 0 0, .int .i64 4]) ∧ w = w' := by
  go_enter Tryz.func88, Tryz.ntmps88
  go_wp2
  go_ret2
  exact ⟨rfl, rfl⟩
theorem equal_yes (f : Nat → Int) (n c1 c2 : Nat) (p q : Option Addr) (w : World) (hn : n ≤ 1000000000) (h1 : FnIn w f n p) (h2 : FnIn w f n q) :
    Calls Tryz.prog 27 #[.slice p n c1, .slice q n c2] w fun e w' => e = .returned (.bool true) ∧ Below w.heap.size w w' := by
  have H1 := Lib.hid h1
  have H2 := Lib.hid h2
  clear h1 h2
  go_enter Tryz.func27, Tryz.ntmps27
  go_wp2_with fail
  go_loopw [4, 5, 13] (fun s4 s5 s13 wr => ∃ (k : Nat) (v5 : Value), k ≤ n ∧ s4 = .bool false ∧ s5 = v5 ∧ s13 = .int .i64 (k : Int) ∧ Hid (Below w.heap.size w wr)) (fun _ _ s _ => n - (intOf s).toNat)
  case atStart => exact ⟨0, _, Nat.zero_le _, rfl, rfl, rfl, Lib.hid (Below.refl _ _)⟩
  case round =>
    obtain ⟨k, v5, hk, rfl, rfl, rfl, HB⟩ := hrel
    by_cases hlt : k < n
    · have hki : (k : Int) < n := by omega
      have vk : IntKind.i64.wrap ((k : Int) + 1) = (k : Int) + 1 := IntWalk.i64_in _ (by omega)
      obtain ⟨b1, o1, rfl, hi1⟩ := H1.out.resolve_left (by omega)
      obtain ⟨b2, o2, rfl, hi2⟩ := H2.out.resolve_left (by omega)
      have x1 := cell_below HB.out (hi1 k hlt)
      have x2 := cell_below HB.out (hi2 k hlt)
      have z1 := cell_lt x1
      have z2 := cell_lt x2
      have HK := Lib.hid hlt
      clear hlt hi1 hi2
      generalize f k = fk at *
      go_wp2_with fail
      go_quiet (fail)
      go_wp2_with fail
      go_roundw
      case rel => exact ⟨k + 1, _, HK.out, rfl, rfl, by simp, Lib.hid (below_drewN HB.out _)⟩
      case measure => have := HK.out; simp [intOf]; omega
    · obtain rfl : k = n := by omega
      have hki : ¬ ((k : Int) < k) := by omega
      clear hlt
      go_wp2_with fail
      go_ret
      exact ⟨rfl, HB.out⟩
def candM (m : Int) (k : Nat) : Int := if k = 0 then m - 1 else m
def candS (s : Int) (k : Nat) : Int := if k = 0 then s + 60 else s
def foundL (u : Int) (f : Nat → Int × Int) (n : Nat) (m s : Int) : Nat → List Int
  | 0 => []
  | k + 1 => if hasB u f n (candM m k) (candS s k) = true then foundL u f n m s k ++ [numS f n (candM m k) (candS s k)] else foundL u f n m s k
theorem foundL_len (u : Int) (f : Nat → Int × Int) (n : Nat) (m s : Int) : ∀ k, (foundL u f n m s k).length ≤ k
  | 0 => Nat.le_refl _
  | k + 1 => by
    have := foundL_len u f n m s k
    rw [foundL]; split
    · simp; omega
    · omega
theorem cands_new (w : World) (m s : Int) : ∀ k, k < 2 → (w.alloc (.cells #[.int .i64 (m - 1), .int .i64 (s + 60), .int .i64 m, .int .i64 s] 136)).cell? ⟨w.heap.size, k * 2, none⟩ = some (.int .i64 (candM m k)) ∧ (w.alloc (.cells #[.int .i64 (m - 1), .int .i64 (s + 60), .int .i64 m, .int .i64 s] 136)).cell? ⟨w.heap.size, k * 2 + 1, none⟩ = some (.int .i64 (candS s k)) := by
  intro k hk
  have : k = 0 ∨ k = 1 := by omega
  rcases this with rfl | rfl <;> exact ⟨by simp [candM], by simp [candS]⟩
set_option maxRecDepth 100000 in
set_option maxHeartbeats 2000000 in
theorem FromUnix_ok {b u : Int} {n : Nat} {f : Nat → Int × Int} (ht : tabE b u n f = 0) (x : Int) (hx : -10000000000000 ≤ x ∧ x ≤ 10000000000000) (c : Nat) (p : Option Addr) (w : World) (hw : Mon w) (hs : LpIn w f n p) (hc : n ≤ c) (hcm : c ≤ maxLen) (hne : 1 ≤ (foundL u f n (58445280 + x / 60) (x % 60) 2).length) :
    Calls Tryz.prog 26 #[.agg #[.int .i64 b, .slice p n c, .int .i64 u], .int .i64 x] w fun e w' => ∃ q cq, e = .returned (.tuple #[.slice q (foundL u f n (58445280 + x / 60) (x % 60) 2).length cq, .int .i64 0]) ∧ FnIn w' (atL (foundL u f n (58445280 + x / 60) (x % 60) 2)) (foundL u f n (58445280 + x / 60) (x % 60) 2).length q ∧ Below w.heap.size w w' := by
  obtain ⟨i0, hi0, hz0, hz1, hz2⟩ := info_parts infoInt
  have A0 := below_alloc (Below.refl w.heap.size w) (.cells #[.int .i64 b, .slice p n c, .int .i64 u] 24)
  obtain ⟨x0, x1, x2⟩ := TBox.new w b u n c p 24
  have HT := Lib.hid ht
  have HTO := Lib.hid (tab_ok ht)
  have HW := Lib.hid (hw.below A0)
  have HS := Lib.hid (hs.below A0)
  have A0 := Lib.hid A0
  obtain ⟨m, hm⟩ : ∃ m, 58445280 + x / 60 = m := ⟨_, rfl⟩
  obtain ⟨s, hsd⟩ : ∃ s, x % 60 = s := ⟨_, rfl⟩
  rw [hm, hsd] at hne ⊢
  obtain ⟨FL, hfl⟩ : ∃ FL, foundL u f n m s 2 = FL := ⟨_, rfl⟩
  rw [hfl] at hne ⊢
  have HFLE := Lib.hid hfl
  clear hfl
  have hmb : -1000000000000 ≤ m - 1 ∧ m ≤ 1000000000000 := by omega
  have hsb : 0 ≤ s ∧ s ≤ 59 := by omega
  have v0 : IntKind.i64.wrap (58445280 + x / 60) = m := by rw [hm]; exact IntWalk.i64_in _ (by omega)
  have v1 : IntKind.i64.wrap (m - 1) = m - 1 := IntWalk.i64_in _ (by omega)
  have v2 : IntKind.i64.wrap (s + 60) = s + 60 := IntWalk.i64_in _ (by omega)
  have HNE := Lib.hid hne
  have HFL := Lib.hid (floor_any x 60 · (by omega) (by decide))
  have HMD := Lib.hid (modulo_any x 60 · (by decide))
  rw [hsd] at HMD
  clear ht hw hs hm hsd hne hx
  go_enter Tryz.func26, Tryz.ntmps26
  go_upto_region 1 with fail
  generalize w.alloc (.cells #[.int .i64 b, .slice p n c, .int .i64 u] 24) = W1 at *
  have zx := cell_lt x0
  have HOP := Lib.hid (open_ok b u n c p f W1 HW.out HS.out (by have := HTO.out.n1; omega) HT.out)
  go_upto_region 2 with (go_at_call 82; refine HOP.out.mono ?_; rintro e w2 ⟨mb, rfl, hM, hb2⟩; have HM := Lib.hid hM; have HB2 := Lib.hid hb2; clear hM hb2)
  clear x0 x1 x2 zx
  have hb3 := below_alloc (Below.refl w2.heap.size w2) (.cells #[.int .i64 b, .slice p n c, .int .i64 u, .map (some mb)] 132)
  have HX := Lib.hid (WBox.new w2 b u n c p mb)
  have HM3 := Lib.hid (HM.out.below hb3)
  have HB3 := Lib.hid (bt HB2.out hb3)
  clear hb3
  generalize w2.alloc (.cells #[.int .i64 b, .slice p n c, .int .i64 u, .map (some mb)] 132) = W3 at *
  generalize w2.heap.size = a6 at *
  go_upto_region 6 with (first | (go_at_call 86; refine (HFL.out _).mono ?_; rintro e w' ⟨rfl, rfl⟩) | (go_at_call 87; refine (HMD.out _).mono ?_; rintro e w' ⟨rfl, rfl⟩))
  clear v0 HFL HMD
  have hb4 := below_alloc (Below.refl W3.heap.size W3) (.cells #[.int .i64 m, .int .i64 s] 136)
  obtain ⟨y0, y1⟩ := MBox.new W3 m s
  have HX4 := Lib.hid (HX.out.below hb4)
  have HM4 := Lib.hid (HM3.out.below hb4)
  have HB4 := Lib.hid (bt HB3.out hb4)
  clear hb4
  generalize W3.alloc (.cells #[.int .i64 m, .int .i64 s] 136) = W4 at *
  have zy := cell_lt y0
  go_wp2_with fail
  clear y0 y1 zy v1 v2
  have hb5 := below_alloc (Below.refl W4.heap.size W4) (.cells #[.int .i64 (m - 1), .int .i64 (s + 60), .int .i64 m, .int .i64 s] 136)
  have HC5 := Lib.hid (cands_new W4 m s)
  have HX5 := Lib.hid (HX4.out.below hb5)
  have HM5 := Lib.hid (HM4.out.below hb5)
  have HB5 := Lib.hid (bt HB4.out hb5)
  clear hb5
  generalize W4.alloc (.cells #[.int .i64 (m - 1), .int .i64 (s + 60), .int .i64 m, .int .i64 s] 136) = W5 at *
  generalize W4.heap.size = ac at *
  go_loopw [8, 11, 36] (fun s8 s11 s36 wr => ∃ (k : Nat) (v8 v11 : Value), k ≤ 2 ∧ s8 = v8 ∧ s11 = v11 ∧ s36 = .int .i64 (k : Int) ∧ Hid (OL W5 wr v8 (foundL u f n m s k))) (fun _ _ s _ => 2 - (intOf s).toNat)
  case atStart => exact ⟨0, _, _, Nat.zero_le _, rfl, rfl, rfl, Lib.hid (OL.nil (Below.refl _ _))⟩
  case round =>
    obtain ⟨k, v8, v11, hk, rfl, rfl, rfl, HO⟩ := hrel
    by_cases hlt : k < 2
    · have hki : (k : Int) < 2 := by omega
      have vk : IntKind.i64.wrap ((k : Int) + 1) = (k : Int) + 1 := IntWalk.i64_in _ (by omega)
      obtain ⟨y0, y1⟩ := HC5.out k hlt
      have y0 := cell_below HO.out.bel y0
      have y1 := cell_below HO.out.bel y1
      have zy := cell_lt y0
      have hb1 := below_alloc (Below.refl wr.heap.size wr) (.cells #[.int .i64 (candM m k), .int .i64 (candS s k)] 136)
      have HYB := Lib.hid (MBox.new wr (candM m k) (candS s k))
      have HX6 := Lib.hid ((HX5.out.below HO.out.bel).below hb1)
      have HM6 := Lib.hid ((HM5.out.below HO.out.bel).below hb1)
      have HO6 := Lib.hid (HO.out.below hb1)
      have hcm1 : -1000000000000 ≤ candM m k ∧ candM m k ≤ 1000000000000 := by unfold candM; split <;> omega
      have hcs1 : -1000000000000 ≤ candS s k ∧ candS s k ≤ 1000000000000 := by unfold candS; split <;> omega
      have HLN := Lib.hid (foundL_len u f n m s k)
      have HST : Hid (foundL u f n m s (k + 1) = if hasB u f n (candM m k) (candS s k) = true then foundL u f n m s k ++ [numS f n (candM m k) (candS s k)] else foundL u f n m s k) := Lib.hid rfl
      have HK := Lib.hid hlt
      clear hb1 hlt hk
      generalize candM m k = cm1 at *
      generalize candS s k = cs1 at *
      generalize foundL u f n m s k = fl at *
      go_upto_region 9 with fail
      generalize wr.alloc (.cells #[.int .i64 cm1, .int .i64 cs1] 136) = W6 at *
      clear y0 y1 zy
      obtain ⟨⟨x0, x1, x2⟩, x3⟩ := HX6.out
      obtain ⟨y0, y1⟩ := HYB.out
      have zx := cell_lt x0
      have zy := cell_lt y0
      have HHC := Lib.hid (has_any HTO.out cm1 cs1 c p mb W6 HM6.out (by omega))
      cases hh : hasB u f n cm1 cs1
      · rw [hh] at HHC HST
        have HEQ := Lib.hid (show foundL u f n m s (k + 1) = fl by rw [HST.out]; rfl)
        clear hh
        go_wp2_with (go_at_call 84; refine HHC.out.mono ?_; rintro e w7 ⟨rfl, hb7⟩; have HO7 := Lib.hid (HO6.out.below hb7); clear hb7)
        go_roundw
        case rel => exact ⟨k + 1, _, _, HK.out, rfl, rfl, by simp, Lib.hid (by rw [HEQ.out]; exact HO7.out)⟩
        case measure => have := HK.out; simp [intOf]; omega
      · rw [hh] at HHC HST
        have HEQ := Lib.hid (show foundL u f n m s (k + 1) = fl ++ [numS f n cm1 cs1] by rw [HST.out]; rfl)
        clear hh
        go_upto_region 10 with (go_at_call 84; refine HHC.out.mono ?_; rintro e w7 ⟨rfl, hb7⟩; have HO7 := Lib.hid (HO6.out.below hb7); have HB7 := Lib.hid hb7; clear hb7)
        clear x0 x1 x2 x3 y0 y1 zx zy
        obtain ⟨⟨x0, x1, x2⟩, x3⟩ := HX6.out.below HB7.out
        obtain ⟨y0, y1⟩ := HYB.out.below HB7.out
        have zx := cell_lt x0
        have zy := cell_lt y0
        have HNC := Lib.hid (number_any HTO.out cm1 cs1 c p mb w7 (((HS.out.below HB5.out)).below HO7.out.bel) hc hcm hcm1 hcs1)
        generalize numS f n cm1 cs1 = nn at *
        go_wp2_with (first | (go_at_call 85; refine HNC.out.mono ?_; rintro e w8 ⟨rfl, hb8⟩; have HO8 := Lib.hid (HO7.out.below hb8); clear hb8) |
          (at_builtin; refine wpList_append_own_at _ rfl _ _ _ rfl W5.heap.size 3 i0 (.int .i64 0) 1 8 Tryz.underlying30 hi0 hz0 hz1 hz2 rfl (by decide) _ fl.length _ rfl (HO8.out.own.alloc _) ⟨w8.heap.size, 0, none⟩ 1 1 [.int .i64 nn] rfl rfl (cell_one_new _ _ _) (by simp [Value.oneCell']) (by have := HLN.out; have := HK.out; unfold maxLen; omega) (by have := HLN.out; have := HK.out; omega) (by have := HO8.out.bel.size; simp; omega) ?_; intro v9 w9 hown hg _ _; have HO9 := Lib.hid (HO8.out.more hown hg); clear hown hg))
        go_roundw
        case rel => exact ⟨k + 1, _, _, HK.out, rfl, rfl, by simp, Lib.hid (by rw [HEQ.out]; exact HO9.out)⟩
        case measure => have := HK.out; simp [intOf]; omega
    · obtain rfl : k = 2 := by omega
      have HLN := foundL_len u f n m s 2
      rw [HFLE.out] at HO HLN
      obtain ⟨q, cq, rfl, hlc, hfn⟩ := HO.out.fn
      have HFN := Lib.hid hfn
      have HB := Lib.hid (bt (bt A0.out HB5.out) HO.out.bel)
      have HSO := Lib.hid (some_ok q FL.length cq wr HNE.out (by omega))
      clear hlt hfn HLN
      go_wp2_with (go_at_call 88; refine HSO.out.mono ?_; rintro e w9 ⟨rfl, rfl⟩)
      go_ret2
      exact ⟨q, cq, rfl, HFN.out, HB.out⟩
end Go.Proofs.YtgnfaemnehmgcaaGreatDoor.Cal
namespace Go.Proofs.YtgnfaemnehmgcaaGreatDoor.Cal
open Go Go.RowKit
attribute [local go_sem] Oper.semAt_some
theorem floor60 (a : Int) (w : World) (h1 : -9223372036854775808 ≤ a ∧ a ≤ 9223372036854775807) :
    Calls Tryz.prog 86 #[.int .i64 a, .int .i64 60] w fun e w' => e = .returned (.int .i64 (a / 60)) ∧ w = w' := by
  have hd : -200000000000000000 ≤ a.tdiv 60 ∧ a.tdiv 60 ≤ 200000000000000000 := by
    rw [tdiv_eq_if]
    split <;> omega
  have hm := tmod_bd a 60 (by decide)
  have k1 : IntKind.i64.wrap (a.tdiv 60) = a.tdiv 60 := IntWalk.i64_in _ (by omega)
  have k2 : IntKind.i64.wrap (a.tmod 60) = a.tmod 60 := IntWalk.i64_in _ (by omega)
  have k3 : IntKind.i64.wrap (a.tdiv 60 - 1) = a.tdiv 60 - 1 := IntWalk.i64_in _ (by omega)
  by_cases h : a.tmod 60 < 0
  · have H := Lib.hid (floor_neg a 60 (by decide) h)
    clear hd hm
    go_enter Tryz.func86, Tryz.ntmps86
    go_wp2
    go_ret
    exact ⟨ret_i64 H.out, rfl⟩
  · have H := Lib.hid (floor_pos a 60 (by decide) h)
    clear hd hm
    go_enter Tryz.func86, Tryz.ntmps86
    go_wp2
    go_ret
    exact ⟨ret_i64 H.out, rfl⟩
theorem has_bd {u : Int} {f : Nat → Int × Int} {n : Nat} {m s : Int} (hu : u ≤ 88069) (h : hasB u f n m s = true) : -1000000000000 ≤ m ∧ m ≤ 1000000000000 := by
  unfold hasB dayK at h
  simp only [Bool.and_eq_true, decide_eq_true_eq] at h
  omega
set_option maxRecDepth 100000 in
set_option maxHeartbeats 4000000 in
theorem FromUnix_big {b u : Int} {n : Nat} {f : Nat → Int × Int} (ht : tabE b u n f = 0) (x : Int) (hx : -9223372036854775808 ≤ x ∧ x ≤ 9223372036854775807) (c : Nat) (p : Option Addr) (w : World) (hw : Mon w) (hs : LpIn w f n p) (hc : n ≤ c) (hcm : c ≤ maxLen) (hne : 1 ≤ (foundL u f n (58445280 + x / 60) (x % 60) 2).length) :
    Calls Tryz.prog 26 #[.agg #[.int .i64 b, .slice p n c, .int .i64 u], .int .i64 x] w fun e w' => ∃ q cq, e = .returned (.tuple #[.slice q (foundL u f n (58445280 + x / 60) (x % 60) 2).length cq, .int .i64 0]) ∧ FnIn w' (atL (foundL u f n (58445280 + x / 60) (x % 60) 2)) (foundL u f n (58445280 + x / 60) (x % 60) 2).length q ∧ Below w.heap.size w w' := by
  obtain ⟨i0, hi0, hz0, hz1, hz2⟩ := info_parts infoInt
  have A0 := below_alloc (Below.refl w.heap.size w) (.cells #[.int .i64 b, .slice p n c, .int .i64 u] 24)
  obtain ⟨x0, x1, x2⟩ := TBox.new w b u n c p 24
  have HT := Lib.hid ht
  have HTO := Lib.hid (tab_ok ht)
  have HW := Lib.hid (hw.below A0)
  have HS := Lib.hid (hs.below A0)
  have A0 := Lib.hid A0
  obtain ⟨m, hm⟩ : ∃ m, 58445280 + x / 60 = m := ⟨_, rfl⟩
  obtain ⟨s, hsd⟩ : ∃ s, x % 60 = s := ⟨_, rfl⟩
  rw [hm, hsd] at hne ⊢
  obtain ⟨FL, hfl⟩ : ∃ FL, foundL u f n m s 2 = FL := ⟨_, rfl⟩
  rw [hfl] at hne ⊢
  have HFLE := Lib.hid hfl
  clear hfl
  have hmb : -160000000000000000 ≤ m - 1 ∧ m ≤ 160000000000000000 := by omega
  have hsb : 0 ≤ s ∧ s ≤ 59 := by omega
  have v0 : IntKind.i64.wrap (58445280 + x / 60) = m := by rw [hm]; exact IntWalk.i64_in _ (by omega)
  have v1 : IntKind.i64.wrap (m - 1) = m - 1 := IntWalk.i64_in _ (by omega)
  have v2 : IntKind.i64.wrap (s + 60) = s + 60 := IntWalk.i64_in _ (by omega)
  have HNE := Lib.hid hne
  have HFL := Lib.hid (floor60 x · hx)
  have HMD := Lib.hid (modulo_any x 60 · (by decide))
  rw [hsd] at HMD
  clear ht hw hs hm hsd hne hx
  go_enter Tryz.func26, Tryz.ntmps26
  go_upto_region 1 with fail
  generalize w.alloc (.cells #[.int .i64 b, .slice p n c, .int .i64 u] 24) = W1 at *
  have zx := cell_lt x0
  have HOP := Lib.hid (open_ok b u n c p f W1 HW.out HS.out (by have := HTO.out.n1; omega) HT.out)
  go_upto_region 2 with (go_at_call 82; refine HOP.out.mono ?_; rintro e w2 ⟨mb, rfl, hM, hb2⟩; have HM := Lib.hid hM; have HB2 := Lib.hid hb2; clear hM hb2)
  clear x0 x1 x2 zx
  have hb3 := below_alloc (Below.refl w2.heap.size w2) (.cells #[.int .i64 b, .slice p n c, .int .i64 u, .map (some mb)] 132)
  have HX := Lib.hid (WBox.new w2 b u n c p mb)
  have HM3 := Lib.hid (HM.out.below hb3)
  have HB3 := Lib.hid (bt HB2.out hb3)
  clear hb3
  generalize w2.alloc (.cells #[.int .i64 b, .slice p n c, .int .i64 u, .map (some mb)] 132) = W3 at *
  generalize w2.heap.size = a6 at *
  go_upto_region 6 with (first | (go_at_call 86; refine (HFL.out _).mono ?_; rintro e w' ⟨rfl, rfl⟩) | (go_at_call 87; refine (HMD.out _).mono ?_; rintro e w' ⟨rfl, rfl⟩))
  clear v0 HFL HMD
  have hb4 := below_alloc (Below.refl W3.heap.size W3) (.cells #[.int .i64 m, .int .i64 s] 136)
  obtain ⟨y0, y1⟩ := MBox.new W3 m s
  have HX4 := Lib.hid (HX.out.below hb4)
  have HM4 := Lib.hid (HM3.out.below hb4)
  have HB4 := Lib.hid (bt HB3.out hb4)
  clear hb4
  generalize W3.alloc (.cells #[.int .i64 m, .int .i64 s] 136) = W4 at *
  have zy := cell_lt y0
  go_wp2_with fail
  clear y0 y1 zy v1 v2
  have hb5 := below_alloc (Below.refl W4.heap.size W4) (.cells #[.int .i64 (m - 1), .int .i64 (s + 60), .int .i64 m, .int .i64 s] 136)
  have HC5 := Lib.hid (cands_new W4 m s)
  have HX5 := Lib.hid (HX4.out.below hb5)
  have HM5 := Lib.hid (HM4.out.below hb5)
  have HB5 := Lib.hid (bt HB4.out hb5)
  clear hb5
  generalize W4.alloc (.cells #[.int .i64 (m - 1), .int .i64 (s + 60), .int .i64 m, .int .i64 s] 136) = W5 at *
  generalize W4.heap.size = ac at *
  go_loopw [8, 11, 36] (fun s8 s11 s36 wr => ∃ (k : Nat) (v8 v11 : Value), k ≤ 2 ∧ s8 = v8 ∧ s11 = v11 ∧ s36 = .int .i64 (k : Int) ∧ Hid (OL W5 wr v8 (foundL u f n m s k))) (fun _ _ s _ => 2 - (intOf s).toNat)
  case atStart => exact ⟨0, _, _, Nat.zero_le _, rfl, rfl, rfl, Lib.hid (OL.nil (Below.refl _ _))⟩
  case round =>
    obtain ⟨k, v8, v11, hk, rfl, rfl, rfl, HO⟩ := hrel
    by_cases hlt : k < 2
    · have hki : (k : Int) < 2 := by omega
      have vk : IntKind.i64.wrap ((k : Int) + 1) = (k : Int) + 1 := IntWalk.i64_in _ (by omega)
      obtain ⟨y0, y1⟩ := HC5.out k hlt
      have y0 := cell_below HO.out.bel y0
      have y1 := cell_below HO.out.bel y1
      have zy := cell_lt y0
      have hb1 := below_alloc (Below.refl wr.heap.size wr) (.cells #[.int .i64 (candM m k), .int .i64 (candS s k)] 136)
      have HYB := Lib.hid (MBox.new wr (candM m k) (candS s k))
      have HX6 := Lib.hid ((HX5.out.below HO.out.bel).below hb1)
      have HM6 := Lib.hid ((HM5.out.below HO.out.bel).below hb1)
      have HO6 := Lib.hid (HO.out.below hb1)
      have hcm1 : -160000000000000000 ≤ candM m k ∧ candM m k ≤ 160000000000000000 := by unfold candM; split <;> omega
      have hcs1 : -1000000000000 ≤ candS s k ∧ candS s k ≤ 1000000000000 := by unfold candS; split <;> omega
      have HLN := Lib.hid (foundL_len u f n m s k)
      have HST : Hid (foundL u f n m s (k + 1) = if hasB u f n (candM m k) (candS s k) = true then foundL u f n m s k ++ [numS f n (candM m k) (candS s k)] else foundL u f n m s k) := Lib.hid rfl
      have HK := Lib.hid hlt
      clear hb1 hlt hk
      generalize candM m k = cm1 at *
      generalize candS s k = cs1 at *
      generalize foundL u f n m s k = fl at *
      go_upto_region 9 with fail
      generalize wr.alloc (.cells #[.int .i64 cm1, .int .i64 cs1] 136) = W6 at *
      clear y0 y1 zy
      obtain ⟨⟨x0, x1, x2⟩, x3⟩ := HX6.out
      obtain ⟨y0, y1⟩ := HYB.out
      have zx := cell_lt x0
      have zy := cell_lt y0
      have HHC := Lib.hid (has_any HTO.out cm1 cs1 c p mb W6 HM6.out (by omega))
      cases hh : hasB u f n cm1 cs1
      · rw [hh] at HHC HST
        have HEQ := Lib.hid (show foundL u f n m s (k + 1) = fl by rw [HST.out]; rfl)
        clear hh
        go_wp2_with (go_at_call 84; refine HHC.out.mono ?_; rintro e w7 ⟨rfl, hb7⟩; have HO7 := Lib.hid (HO6.out.below hb7); clear hb7)
        go_roundw
        case rel => exact ⟨k + 1, _, _, HK.out, rfl, rfl, by simp, Lib.hid (by rw [HEQ.out]; exact HO7.out)⟩
        case measure => have := HK.out; simp [intOf]; omega
      · have hnb := has_bd HTO.out.u2 hh
        rw [hh] at HHC HST
        have HEQ := Lib.hid (show foundL u f n m s (k + 1) = fl ++ [numS f n cm1 cs1] by rw [HST.out]; rfl)
        clear hh
        go_upto_region 10 with (go_at_call 84; refine HHC.out.mono ?_; rintro e w7 ⟨rfl, hb7⟩; have HO7 := Lib.hid (HO6.out.below hb7); have HB7 := Lib.hid hb7; clear hb7)
        clear x0 x1 x2 x3 y0 y1 zx zy
        obtain ⟨⟨x0, x1, x2⟩, x3⟩ := HX6.out.below HB7.out
        obtain ⟨y0, y1⟩ := HYB.out.below HB7.out
        have zx := cell_lt x0
        have zy := cell_lt y0
        have HNC := Lib.hid (number_any HTO.out cm1 cs1 c p mb w7 (((HS.out.below HB5.out)).below HO7.out.bel) hc hcm hnb hcs1)
        generalize numS f n cm1 cs1 = nn at *
        go_wp2_with (first | (go_at_call 85; refine HNC.out.mono ?_; rintro e w8 ⟨rfl, hb8⟩; have HO8 := Lib.hid (HO7.out.below hb8); clear hb8) |
          (at_builtin; refine wpList_append_own_at _ rfl _ _ _ rfl W5.heap.size 3 i0 (.int .i64 0) 1 8 Tryz.underlying30 hi0 hz0 hz1 hz2 rfl (by decide) _ fl.length _ rfl (HO8.out.own.alloc _) ⟨w8.heap.size, 0, none⟩ 1 1 [.int .i64 nn] rfl rfl (cell_one_new _ _ _) (by simp [Value.oneCell']) (by have := HLN.out; have := HK.out; unfold maxLen; omega) (by have := HLN.out; have := HK.out; omega) (by have := HO8.out.bel.size; simp; omega) ?_; intro v9 w9 hown hg _ _; have HO9 := Lib.hid (HO8.out.more hown hg); clear hown hg))
        go_roundw
        case rel => exact ⟨k + 1, _, _, HK.out, rfl, rfl, by simp, Lib.hid (by rw [HEQ.out]; exact HO9.out)⟩
        case measure => have := HK.out; simp [intOf]; omega
    · obtain rfl : k = 2 := by omega
      have HLN := foundL_len u f n m s 2
      rw [HFLE.out] at HO HLN
      obtain ⟨q, cq, rfl, hlc, hfn⟩ := HO.out.fn
      have HFN := Lib.hid hfn
      have HB := Lib.hid (bt (bt A0.out HB5.out) HO.out.bel)
      have HSO := Lib.hid (some_ok q FL.length cq wr HNE.out (by omega))
      clear hlt hfn HLN
      go_wp2_with (go_at_call 88; refine HSO.out.mono ?_; rintro e w9 ⟨rfl, rfl⟩)
      go_ret2
      exact ⟨q, cq, rfl, HFN.out, HB.out⟩
set_option maxRecDepth 100000 in
set_option maxHeartbeats 4000000 in
theorem FromUnix_none {b u : Int} {n : Nat} {f : Nat → Int × Int} (ht : tabE b u n f = 0) (x : Int) (hx : -9223372036854775808 ≤ x ∧ x ≤ 9223372036854775807) (c : Nat) (p : Option Addr) (w : World) (hw : Mon w) (hs : LpIn w f n p) (hc : n ≤ c) (hcm : c ≤ maxLen) (hne : (foundL u f n (58445280 + x / 60) (x % 60) 2).length = 0) :
    Calls Tryz.prog 26 #[.agg #[.int .i64 b, .slice p n c, .int .i64 u], .int .i64 x] w fun e w' => e = .returned (.tuple #[.slice none 0 0, .int .i64 4]) ∧ Below w.heap.size w w' := by
  obtain ⟨i0, hi0, hz0, hz1, hz2⟩ := info_parts infoInt
  have A0 := below_alloc (Below.refl w.heap.size w) (.cells #[.int .i64 b, .slice p n c, .int .i64 u] 24)
  obtain ⟨x0, x1, x2⟩ := TBox.new w b u n c p 24
  have HT := Lib.hid ht
  have HTO := Lib.hid (tab_ok ht)
  have HW := Lib.hid (hw.below A0)
  have HS := Lib.hid (hs.below A0)
  have A0 := Lib.hid A0
  obtain ⟨m, hm⟩ : ∃ m, 58445280 + x / 60 = m := ⟨_, rfl⟩
  obtain ⟨s, hsd⟩ : ∃ s, x % 60 = s := ⟨_, rfl⟩
  rw [hm, hsd] at hne
  obtain ⟨FL, hfl⟩ : ∃ FL, foundL u f n m s 2 = FL := ⟨_, rfl⟩
  rw [hfl] at hne
  have HFLE := Lib.hid hfl
  clear hfl
  have hmb : -160000000000000000 ≤ m - 1 ∧ m ≤ 160000000000000000 := by omega
  have hsb : 0 ≤ s ∧ s ≤ 59 := by omega
  have v0 : IntKind.i64.wrap (58445280 + x / 60) = m := by rw [hm]; exact IntWalk.i64_in _ (by omega)
  have v1 : IntKind.i64.wrap (m - 1) = m - 1 := IntWalk.i64_in _ (by omega)
  have v2 : IntKind.i64.wrap (s + 60) = s + 60 := IntWalk.i64_in _ (by omega)
  have HNE := Lib.hid hne
  have HFL := Lib.hid (floor60 x · hx)
  have HMD := Lib.hid (modulo_any x 60 · (by decide))
  rw [hsd] at HMD
  clear ht hw hs hm hsd hne hx
  go_enter Tryz.func26, Tryz.ntmps26
  go_upto_region 1 with fail
  generalize w.alloc (.cells #[.int .i64 b, .slice p n c, .int .i64 u] 24) = W1 at *
  have zx := cell_lt x0
  have HOP := Lib.hid (open_ok b u n c p f W1 HW.out HS.out (by have := HTO.out.n1; omega) HT.out)
  go_upto_region 2 with (go_at_call 82; refine HOP.out.mono ?_; rintro e w2 ⟨mb, rfl, hM, hb2⟩; have HM := Lib.hid hM; have HB2 := Lib.hid hb2; clear hM hb2)
  clear x0 x1 x2 zx
  have hb3 := below_alloc (Below.refl w2.heap.size w2) (.cells #[.int .i64 b, .slice p n c, .int .i64 u, .map (some mb)] 132)
  have HX := Lib.hid (WBox.new w2 b u n c p mb)
  have HM3 := Lib.hid (HM.out.below hb3)
  have HB3 := Lib.hid (bt HB2.out hb3)
  clear hb3
  generalize w2.alloc (.cells #[.int .i64 b, .slice p n c, .int .i64 u, .map (some mb)] 132) = W3 at *
  generalize w2.heap.size = a6 at *
  go_upto_region 6 with (first | (go_at_call 86; refine (HFL.out _).mono ?_; rintro e w' ⟨rfl, rfl⟩) | (go_at_call 87; refine (HMD.out _).mono ?_; rintro e w' ⟨rfl, rfl⟩))
  clear v0 HFL HMD
  have hb4 := below_alloc (Below.refl W3.heap.size W3) (.cells #[.int .i64 m, .int .i64 s] 136)
  obtain ⟨y0, y1⟩ := MBox.new W3 m s
  have HX4 := Lib.hid (HX.out.below hb4)
  have HM4 := Lib.hid (HM3.out.below hb4)
  have HB4 := Lib.hid (bt HB3.out hb4)
  clear hb4
  generalize W3.alloc (.cells #[.int .i64 m, .int .i64 s] 136) = W4 at *
  have zy := cell_lt y0
  go_wp2_with fail
  clear y0 y1 zy v1 v2
  have hb5 := below_alloc (Below.refl W4.heap.size W4) (.cells #[.int .i64 (m - 1), .int .i64 (s + 60), .int .i64 m, .int .i64 s] 136)
  have HC5 := Lib.hid (cands_new W4 m s)
  have HX5 := Lib.hid (HX4.out.below hb5)
  have HM5 := Lib.hid (HM4.out.below hb5)
  have HB5 := Lib.hid (bt HB4.out hb5)
  clear hb5
  generalize W4.alloc (.cells #[.int .i64 (m - 1), .int .i64 (s + 60), .int .i64 m, .int .i64 s] 136) = W5 at *
  generalize W4.heap.size = ac at *
  go_loopw [8, 11, 36] (fun s8 s11 s36 wr => ∃ (k : Nat) (v8 v11 : Value), k ≤ 2 ∧ s8 = v8 ∧ s11 = v11 ∧ s36 = .int .i64 (k : Int) ∧ Hid (OL W5 wr v8 (foundL u f n m s k))) (fun _ _ s _ => 2 - (intOf s).toNat)
  case atStart => exact ⟨0, _, _, Nat.zero_le _, rfl, rfl, rfl, Lib.hid (OL.nil (Below.refl _ _))⟩
  case round =>
    obtain ⟨k, v8, v11, hk, rfl, rfl, rfl, HO⟩ := hrel
    by_cases hlt : k < 2
    · have hki : (k : Int) < 2 := by omega
      have vk : IntKind.i64.wrap ((k : Int) + 1) = (k : Int) + 1 := IntWalk.i64_in _ (by omega)
      obtain ⟨y0, y1⟩ := HC5.out k hlt
      have y0 := cell_below HO.out.bel y0
      have y1 := cell_below HO.out.bel y1
      have zy := cell_lt y0
      have hb1 := below_alloc (Below.refl wr.heap.size wr) (.cells #[.int .i64 (candM m k), .int .i64 (candS s k)] 136)
      have HYB := Lib.hid (MBox.new wr (candM m k) (candS s k))
      have HX6 := Lib.hid ((HX5.out.below HO.out.bel).below hb1)
      have HM6 := Lib.hid ((HM5.out.below HO.out.bel).below hb1)
      have HO6 := Lib.hid (HO.out.below hb1)
      have hcm1 : -160000000000000000 ≤ candM m k ∧ candM m k ≤ 160000000000000000 := by unfold candM; split <;> omega
      have hcs1 : -1000000000000 ≤ candS s k ∧ candS s k ≤ 1000000000000 := by unfold candS; split <;> omega
      have HLN := Lib.hid (foundL_len u f n m s k)
      have HST : Hid (foundL u f n m s (k + 1) = if hasB u f n (candM m k) (candS s k) = true then foundL u f n m s k ++ [numS f n (candM m k) (candS s k)] else foundL u f n m s k) := Lib.hid rfl
      have HK := Lib.hid hlt
      clear hb1 hlt hk
      generalize candM m k = cm1 at *
      generalize candS s k = cs1 at *
      generalize foundL u f n m s k = fl at *
      go_upto_region 9 with fail
      generalize wr.alloc (.cells #[.int .i64 cm1, .int .i64 cs1] 136) = W6 at *
      clear y0 y1 zy
      obtain ⟨⟨x0, x1, x2⟩, x3⟩ := HX6.out
      obtain ⟨y0, y1⟩ := HYB.out
      have zx := cell_lt x0
      have zy := cell_lt y0
      have HHC := Lib.hid (has_any HTO.out cm1 cs1 c p mb W6 HM6.out (by omega))
      cases hh : hasB u f n cm1 cs1
      · rw [hh] at HHC HST
        have HEQ := Lib.hid (show foundL u f n m s (k + 1) = fl by rw [HST.out]; rfl)
        clear hh
        go_wp2_with (go_at_call 84; refine HHC.out.mono ?_; rintro e w7 ⟨rfl, hb7⟩; have HO7 := Lib.hid (HO6.out.below hb7); clear hb7)
        go_roundw
        case rel => exact ⟨k + 1, _, _, HK.out, rfl, rfl, by simp, Lib.hid (by rw [HEQ.out]; exact HO7.out)⟩
        case measure => have := HK.out; simp [intOf]; omega
      · have hnb := has_bd HTO.out.u2 hh
        rw [hh] at HHC HST
        have HEQ := Lib.hid (show foundL u f n m s (k + 1) = fl ++ [numS f n cm1 cs1] by rw [HST.out]; rfl)
        clear hh
        go_upto_region 10 with (go_at_call 84; refine HHC.out.mono ?_; rintro e w7 ⟨rfl, hb7⟩; have HO7 := Lib.hid (HO6.out.below hb7); have HB7 := Lib.hid hb7; clear hb7)
        clear x0 x1 x2 x3 y0 y1 zx zy
        obtain ⟨⟨x0, x1, x2⟩, x3⟩ := HX6.out.below HB7.out
        obtain ⟨y0, y1⟩ := HYB.out.below HB7.out
        have zx := cell_lt x0
        have zy := cell_lt y0
        have HNC := Lib.hid (number_any HTO.out cm1 cs1 c p mb w7 (((HS.out.below HB5.out)).below HO7.out.bel) hc hcm hnb hcs1)
        generalize numS f n cm1 cs1 = nn at *
        go_wp2_with (first | (go_at_call 85; refine HNC.out.mono ?_; rintro e w8 ⟨rfl, hb8⟩; have HO8 := Lib.hid (HO7.out.below hb8); clear hb8) |
          (at_builtin; refine wpList_append_own_at _ rfl _ _ _ rfl W5.heap.size 3 i0 (.int .i64 0) 1 8 Tryz.underlying30 hi0 hz0 hz1 hz2 rfl (by decide) _ fl.length _ rfl (HO8.out.own.alloc _) ⟨w8.heap.size, 0, none⟩ 1 1 [.int .i64 nn] rfl rfl (cell_one_new _ _ _) (by simp [Value.oneCell']) (by have := HLN.out; have := HK.out; unfold maxLen; omega) (by have := HLN.out; have := HK.out; omega) (by have := HO8.out.bel.size; simp; omega) ?_; intro v9 w9 hown hg _ _; have HO9 := Lib.hid (HO8.out.more hown hg); clear hown hg))
        go_roundw
        case rel => exact ⟨k + 1, _, _, HK.out, rfl, rfl, by simp, Lib.hid (by rw [HEQ.out]; exact HO9.out)⟩
        case measure => have := HK.out; simp [intOf]; omega
    · obtain rfl : k = 2 := by omega
      have HLN := foundL_len u f n m s 2
      rw [HFLE.out] at HO HLN
      obtain ⟨q, cq, rfl, hlc, hfn⟩ := HO.out.fn
      have HFN := Lib.hid hfn
      have HB := Lib.hid (bt (bt A0.out HB5.out) HO.out.bel)
      rw [HNE.out] at hlc hfn ⊢
      have HSO := Lib.hid (some_no q cq wr)
      clear hlt hfn HLN
      go_wp2_with (go_at_call 88; refine HSO.out.mono ?_; rintro e w9 ⟨rfl, rfl⟩)
      go_ret2
      exact ⟨rfl, HB.out⟩
set_option maxHeartbeats 1000000 in
theorem FromUnix_tab {b u : Int} {n : Nat} {f : Nat → Int × Int} (ht : tabE b u n f ≠ 0) (x : Int) (c : Nat) (p : Option Addr) (w : World) (hw : Mon w) (hs : LpIn w f n p) (hn : n ≤ 1000000000000) :
    Calls Tryz.prog 26 #[.agg #[.int .i64 b, .slice p n c, .int .i64 u], .int .i64 x] w fun e w' => e = .returned (.tuple #[.slice none 0 0, .int .i64 (tabE b u n f)]) ∧ Below w.heap.size w w' := by
  have A0 := below_alloc (Below.refl w.heap.size w) (.cells #[.int .i64 b, .slice p n c, .int .i64 u] 24)
  obtain ⟨x0, x1, x2⟩ := TBox.new w b u n c p 24
  have HOP := Lib.hid (open_no b u n c p f _ (hw.below A0) (hs.below A0) hn ht)
  have A0 := Lib.hid A0
  obtain ⟨er, her⟩ : ∃ er, tabE b u n f = er := ⟨_, rfl⟩
  rw [her] at ht HOP ⊢
  have hne : (er == 0) = false := by simpa using ht
  clear hw hs her
  go_enter Tryz.func26, Tryz.ntmps26
  go_upto_region 1 with fail
  generalize w.alloc (.cells #[.int .i64 b, .slice p n c, .int .i64 u] 24) = W1 at *
  have zx := cell_lt x0
  go_upto_region 2 with (go_at_call 82; refine HOP.out.mono ?_; rintro e w2 ⟨rfl, hb2⟩; have HB2 := Lib.hid hb2; clear hb2)
  have HB3 := Lib.hid (below_alloc (Below.refl w2.heap.size w2) (.cells #[.int .i64 0, .slice none 0 0, .int .i64 0, .map none] 132))
  clear x0 x1 x2 zx
  go_wp2_with fail
  go_ret2
  exact ⟨rfl, bt (bt A0.out HB2.out) HB3.out⟩
end Go.Proofs.YtgnfaemnehmgcaaGreatDoor.Cal
namespace Go.Proofs.YtgnfaemnehmgcaaGreatDoor.Cal
open Go Go.RowKit
attribute [local go_sem] Oper.semAt_some
def hasF (f : Nat → Int) (n : Nat) (x : Int) : Prop := ∃ i, i < n ∧ f i = x
theorem has_at (l : List Int) (x : Int) : hasF (atL l) l.length x ↔ x ∈ l := by
  constructor
  · rintro ⟨i, hi, rfl⟩
    unfold atL
    rw [List.getElem?_eq_getElem hi]
    exact List.getElem_mem hi
  · intro h
    obtain ⟨i, hi, e⟩ := List.mem_iff_getElem.1 h
    exact ⟨i, hi, by unfold atL; rw [List.getElem?_eq_getElem hi]; exact e⟩
end Go.Proofs.YtgnfaemnehmgcaaGreatDoor.Cal
