/- WorldSmall, the closed statement: every number of a clock, a chamber and an event at its limits, and clocks of the greatest numbers. -/
import Derived.Test.YthegamfbigphkaaDoorSmallSet
import Derived.Test.YthegamfbigphkaaDoorShowsAll
import Derived.Test.YthegamfbigphkaaDoorTracksAll
namespace Go.Proofs.YthegamfbigphkaaDoor
open Go Go.RowKit
theorem set_any (n : Nat) (ki i v : Int) (X : World) (h : Duo0 X n ki) (hn : n + 4 ≤ X.heap.size) (h0 : 0 ≤ i) (h1 : i < 14) :
    Calls Tryd.prog 39 #[.pointer (some ⟨n + 3, 0, none⟩), .int .i64 i, .int .i64 v] X fun e Y => e = .returned (.tuple #[]) ∧ Turned n X Y := by
  have hi : i = 0 ∨ i = 1 ∨ i = 2 ∨ i = 3 ∨ i = 4 ∨ i = 5 ∨ i = 6 ∨ i = 7 ∨ i = 8 ∨ i = 9 ∨ i = 10 ∨ i = 11 ∨ i = 12 ∨ i = 13 := by omega
  rcases hi with rfl | rfl | rfl | rfl | rfl | rfl | rfl | rfl | rfl | rfl | rfl | rfl | rfl | rfl
  · exact set_0 n ki v X h
  · exact set_1 n ki v X h
  · exact set_2 n ki v X h
  · exact set_3 n ki v X h
  · exact set_4 n ki v X h
  · exact set_5 n ki v X h
  · exact set_6 n ki v X h
  · exact set_7 n ki v X h
  · exact set_8 n ki v X h
  · exact set_9 n ki v X h
  · exact set_10 n ki v X h
  · exact set_11 n ki v X h
  · exact set_12 n ki v X h
  · exact set_13 n ki v X h hn
/-- the numbers that are tried -/
def tryL : List Int := [0, 1, 2, 4, 5, 8, 100, 101, 1000, 1001, 10000, 10001, 100000, 100001, 1000000, 1000001, 10000000, 10000001, 1000000000, 1000000001, 10000000000, 10000000001, 1000000000000, 1000000000001, 10000000000000, 10000000000001, 100000000000000, 100000000000001]
theorem tryL_bd : ∀ k, (h : k < tryL.length) → 0 ≤ tryL[k] ∧ tryL[k] ≤ 100000000000001 := by decide
theorem duo0_new (X : World) (ki : Int) : Duo0 ((((X.alloc (.cells #[.int .i64 5, .int .i64 5, .int .i64 9] 70)).alloc (.cells #[.int .i64 2, .int .i64 3, .int .i64 0] 75)).alloc (.cells (duoCells ⟨1, 0, 0, 0, 0, 0, 0, 0, []⟩ ⟨ki, 0, 0, 0, 0, 0, 0, 0, []⟩ (.slice (some ⟨X.heap.size + 1, 0, none⟩) 1 1)) 73)).alloc (.cells #[.int .u64 0, .slice (some ⟨X.heap.size, 0, none⟩) 1 1, .slice (some ⟨X.heap.size + 2, 0, none⟩) 2 2] 26)) X.heap.size ki := by
  have b1 := heap_alloc_new (X.alloc (.cells #[.int .i64 5, .int .i64 5, .int .i64 9] 70)) (.cells #[.int .i64 2, .int .i64 3, .int .i64 0] 75)
  have b2 := heap_alloc_new ((X.alloc (.cells #[.int .i64 5, .int .i64 5, .int .i64 9] 70)).alloc (.cells #[.int .i64 2, .int .i64 3, .int .i64 0] 75)) (.cells (duoCells ⟨1, 0, 0, 0, 0, 0, 0, 0, []⟩ ⟨ki, 0, 0, 0, 0, 0, 0, 0, []⟩ (.slice (some ⟨X.heap.size + 1, 0, none⟩) 1 1)) 73)
  have b3 := heap_alloc_new (((X.alloc (.cells #[.int .i64 5, .int .i64 5, .int .i64 9] 70)).alloc (.cells #[.int .i64 2, .int .i64 3, .int .i64 0] 75)).alloc (.cells (duoCells ⟨1, 0, 0, 0, 0, 0, 0, 0, []⟩ ⟨ki, 0, 0, 0, 0, 0, 0, 0, []⟩ (.slice (some ⟨X.heap.size + 1, 0, none⟩) 1 1)) 73)) (.cells #[.int .u64 0, .slice (some ⟨X.heap.size, 0, none⟩) 1 1, .slice (some ⟨X.heap.size + 2, 0, none⟩) 2 2] 26)
  simp only [World.size_alloc] at b1 b2 b3
  have hb := blk_alloc (blk_alloc b1 (.cells (duoCells ⟨1, 0, 0, 0, 0, 0, 0, 0, []⟩ ⟨ki, 0, 0, 0, 0, 0, 0, 0, []⟩ (.slice (some ⟨X.heap.size + 1, 0, none⟩) 1 1)) 73)) (.cells #[.int .u64 0, .slice (some ⟨X.heap.size, 0, none⟩) 1 1, .slice (some ⟨X.heap.size + 2, 0, none⟩) 2 2] 26)
  refine ⟨⟨blk_alloc (blk_alloc (blk_alloc (heap_alloc_new X _) _) _) _, blk_alloc b2 _, b3, ⟨rfl, .inr ⟨X.heap.size + 1, 1, _, rfl, by omega, hb, Nat.le_refl _, by simp [maxLen], rfl, rfl⟩⟩, rfl⟩, hb⟩
theorem own_keep (z : World) (W : Wld) (p1 p2 : Option Addr) (c1 c2 : Nat) (X : World) (hb : Below z.heap.size z X) (hW : WldIn z W p1 p2) (hg : bigS W = false) :
    Calls Tryd.prog 12 #[.agg #[.int .u64 W.seed, .slice p1 W.chs.length c1, .slice p2 W.cls.length c2]] X fun e Y => ∃ q1 q2 d1 d2, e = .returned (.agg #[.int .u64 W.seed, .slice q1 W.chs.length d1, .slice q2 W.cls.length d2]) ∧ WldIn Y W q1 q2 ∧ Below z.heap.size z Y :=
  (own_any W p1 p2 c1 c2 X (hW.below hb) hg).mono fun _ _ ⟨q1, q2, d1, d2, x, y, b⟩ => ⟨q1, q2, d1, d2, x, y, hb.trans (b.mono hb.size)⟩
theorem rcheck_keep2 (z : World) (W : Wld) (p1 p2 : Option Addr) (k1 k2 : Nat) (X : World) (hb : Below z.heap.size z X) (hW : WldIn z W p1 p2) :
    Calls Tryd.prog 16 #[.agg #[.int .u64 W.seed, .slice p1 W.chs.length k1, .slice p2 W.cls.length k2]] X fun e Y => e = .returned (.int .i64 (checkS W)) ∧ Below z.heap.size z Y ∧ Below X.heap.size X Y :=
  (rcheck_any W p1 p2 k1 k2 X (hW.below hb)).mono fun _ _ ⟨a, b⟩ => ⟨a, hb.trans (b.mono hb.size), b⟩
theorem check_keep2 (z : World) (W : Wld) (p1 p2 : Option Addr) (k1 k2 : Nat) (X : World) (hb : Below z.heap.size z X) (ht : Tabs z) (hW : WldIn X W p1 p2) :
    Calls Tryd.prog 15 #[.agg #[.int .u64 W.seed, .slice p1 W.chs.length k1, .slice p2 W.cls.length k2]] X fun e Y => e = .returned (.int .i64 (checkS W)) ∧ Below z.heap.size z Y :=
  (check_any W p1 p2 k1 k2 X (ht.below hb) hW).mono fun _ _ ⟨a, b⟩ => ⟨a, hb.trans (b.mono hb.size)⟩
/-- a clock in a box of its own, with the events made so far -/
structure One (X : World) (m : Nat) (c : Clk) (v : Value) : Prop where
  rc : X.heap[m]? = some (.cells (clkCells c v).toArray 73 (0, 0))
  re : X.ownsRow m 75 3 v c.evs.length (evRow c.evs)
theorem One.far {X : World} {m : Nat} {c : Clk} {v : Value} (h : One X m c v) : v.ownBlock ≠ some m := own_far h.re h.rc (by decide)
theorem One.boxed {X w1 : World} {o1 o2 : Obj} {m : Nat} {c : Clk} {v : Value} (h : One X m c v) (hg : ((X.alloc o1).alloc o2).grownBy w1 v.ownBlock) : w1.cell? ⟨m, 8, none⟩ = some v ∧ w1.frozen? ⟨m, 8, none⟩ = false := by
  have e := blk_grown (blk_alloc (blk_alloc h.rc o1) o2) hg h.far
  exact ⟨blk_cell e 8 _ rfl, blk_free e 8⟩
theorem One.next {X w1 : World} {o1 o2 : Obj} {m : Nat} {c : Clk} {v v' : Value} {ev : Evt} (h : One X m c v) (hg : ((X.alloc o1).alloc o2).grownBy w1 v.ownBlock)
    (hown : w1.ownsRow m 75 3 v' (c.evs.length + 1) (evRow c.evs ++ evCells ev)) : One (w1.setCell ⟨m, 8, none⟩ v') m { c with evs := c.evs ++ [ev] } v' := by
  have ec := blk_grown (blk_alloc (blk_alloc h.rc o1) o2) hg h.far
  refine ⟨?_, ?_⟩
  · have := blk_set 8 v' ec; exact this
  · have e1 : evRow (c.evs ++ [ev]) = evRow c.evs ++ evCells ev := by simp [evRow]
    have e2 : (c.evs ++ [ev]).length = c.evs.length + 1 := by simp
    show World.ownsRow _ _ _ _ _ (c.evs ++ [ev]).length (evRow (c.evs ++ [ev]))
    rw [e1, e2]
    exact own_set hown _ (own_far hown ec (by decide))
def secL : List Int := [-1, 0, 1, 499999, 500000, 1000000, 1000001]
theorem secL_bd : ∀ k, (h : k < secL.length) → -1 ≤ secL[k] ∧ secL[k] ≤ 1000001 := by decide
/-- a world of one clock, in blocks of its own, and the seconds that are tried -/
structure Solo (X : World) (n : Nat) (c : Clk) (v : Value) : Prop where
  ra : X.heap[n]? = some (.cells #[.int .i64 7, .int .i64 100000, .int .i64 1000000] 70 (0, 0))
  rc : X.heap[n + 1]? = some (.cells (clkCells c v).toArray 73 (0, 0))
  rd : X.heap[n + 2]? = some (.cells #[.int .u64 99, .slice (some ⟨n, 0, none⟩) 1 1, .slice (some ⟨n + 1, 0, none⟩) 1 1] 26 (0, 0))
  rl : X.heap[n + 3]? = some (.cells (ints secL).toArray 3 (0, 0))
  re : EvSlice X c.evs v
theorem Solo.below {X Y : World} {n : Nat} {c : Clk} {v : Value} (h : Solo X n c v) (hb : Below X.heap.size X Y) : Solo Y n c v :=
  ⟨blk_below h.ra hb (heap_lt h.ra), blk_below h.rc hb (heap_lt h.rc), blk_below h.rd hb (heap_lt h.rd), blk_below h.rl hb (heap_lt h.rl), h.re.below hb⟩
def soloW (c : Clk) : Wld := ⟨99, [⟨7, 100000, 1000000⟩], [c]⟩
theorem Solo.wld {X : World} {n : Nat} {c : Clk} {v : Value} (h : Solo X n c v) : WldIn X (soloW c) (some ⟨n, 0, none⟩) (some ⟨n + 1, 0, none⟩) := by
  have cc := fun (i : Nat) (u : Value) (hu : (clkCells c v).toArray[i]? = some u) => blk_cell h.rc i u hu
  refine ⟨by simp [soloW, maxLen], by simp [soloW, maxLen], .inr ⟨n, 0, rfl, fun i hi => ?_⟩, .inr ⟨n + 1, 0, rfl, fun i hi => ?_⟩⟩
  · obtain rfl : i = 0 := by simp [soloW] at hi; omega
    exact ⟨blk_cell h.ra 0 _ rfl, blk_cell h.ra 1 _ rfl, blk_cell h.ra 2 _ rfl⟩
  · obtain rfl : i = 0 := by simp [soloW] at hi; omega
    exact ⟨⟨cc 0 _ rfl, cc 1 _ rfl, cc 2 _ rfl, cc 3 _ rfl, cc 4 _ rfl, cc 5 _ rfl, cc 6 _ rfl, cc 7 _ rfl⟩, _, cc 8 _ rfl, h.re⟩
theorem solo_new (X : World) (c : Clk) (v : Value) (he : EvSlice X c.evs v) :
    Solo ((((X.alloc (.cells #[.int .i64 7, .int .i64 100000, .int .i64 1000000] 70)).alloc (.cells (clkCells c v).toArray 73)).alloc (.cells #[.int .u64 99, .slice (some ⟨X.heap.size, 0, none⟩) 1 1, .slice (some ⟨X.heap.size + 1, 0, none⟩) 1 1] 26)).alloc (.cells (ints secL).toArray 3)) X.heap.size c v := by
  have b1 := heap_alloc_new (X.alloc (.cells #[.int .i64 7, .int .i64 100000, .int .i64 1000000] 70)) (.cells (clkCells c v).toArray 73)
  have b2 := heap_alloc_new ((X.alloc (.cells #[.int .i64 7, .int .i64 100000, .int .i64 1000000] 70)).alloc (.cells (clkCells c v).toArray 73)) (.cells #[.int .u64 99, .slice (some ⟨X.heap.size, 0, none⟩) 1 1, .slice (some ⟨X.heap.size + 1, 0, none⟩) 1 1] 26)
  have b3 := heap_alloc_new (((X.alloc (.cells #[.int .i64 7, .int .i64 100000, .int .i64 1000000] 70)).alloc (.cells (clkCells c v).toArray 73)).alloc (.cells #[.int .u64 99, .slice (some ⟨X.heap.size, 0, none⟩) 1 1, .slice (some ⟨X.heap.size + 1, 0, none⟩) 1 1] 26)) (.cells (ints secL).toArray 3)
  simp only [World.size_alloc] at b1 b2 b3
  exact ⟨blk_alloc (blk_alloc (blk_alloc (heap_alloc_new X _) _) _) _, blk_alloc (blk_alloc b1 _) _, blk_alloc b2 _, b3, he.below (below_alloc' (below_alloc' (below_alloc' (below_alloc' (Below.refl X.heap.size X) _) _) _) _)⟩
theorem duo_small {ch : Cham} {c0 c1 : Clk} (h0 : c0.evs = []) (h1 : c1.evs.length ≤ 21) : bigS (duoW ch c0 c1) = false := by
  unfold bigS manyEvs duoW
  simp [h0]; omega
set_option maxRecDepth 100000 in
set_option maxHeartbeats 8000000 in
theorem small_law (w : World) (ht : Tabs w) :
    Calls Tryd.prog 5 #[] w fun e w' => e = .returned (.bool true) ∧ Below w.heap.size w w' := by
  have HT := Lib.hid ht
  clear ht
  go_enter Tryd.func5, Tryd.ntmps5
  go_wp2
  go_loopw [1] (fun i wr => ∃ a : Int, i = .int .i64 a ∧ -1 ≤ a ∧ a ≤ 8 ∧ Hid (Below w.heap.size w wr)) (fun i _ => (8 - intOf i).toNat)
  case atStart => exact ⟨-1, rfl, by omega, by omega, Lib.hid (Below.refl _ _)⟩
  case round =>
    obtain ⟨wA, rfl⟩ : ∃ wA : World, wA = wr := ⟨_, rfl⟩
    obtain ⟨a, rfl, a0, a1, HA⟩ := hrel
    by_cases ha : a < 8
    · go_wp2
      go_loopw [2] (fun i wr => ∃ b : Int, i = .int .i64 b ∧ 0 ≤ b ∧ b ≤ 14 ∧ Hid (Below w.heap.size w wr)) (fun i _ => (14 - intOf i).toNat)
      case atStart => exact ⟨0, rfl, by omega, by omega, HA⟩
      case round =>
        obtain ⟨wB, rfl⟩ : ∃ wB : World, wB = wr := ⟨_, rfl⟩
        obtain ⟨b, rfl, b0, b1, HB⟩ := hrel
        by_cases hb : b < 14
        · go_wp2
          go_loopw [24] (fun i wr => ∃ k : Nat, k ≤ 28 ∧ i = .int .i64 k ∧ Hid (wr.heap[wB.heap.size]? = some (.cells (ints tryL).toArray 3 (0, 0))) ∧ Hid (Below w.heap.size w wr)) (fun i _ => 28 - (intOf i).toNat)
          case atStart => exact ⟨0, by omega, rfl, Lib.hid (heap_alloc_new wB _), Lib.hid (HB.out.alloc HB.out.size _)⟩
          case round =>
            obtain ⟨wC, rfl⟩ : ∃ wC : World, wC = wr := ⟨_, rfl⟩
            obtain ⟨k, hk, rfl, HL, HC⟩ := hrel
            by_cases hk28 : k < 28
            · have x0 : wC.cell? ⟨wB.heap.size, k, none⟩ = some (.int .i64 (tryL[k]'hk28)) := blk_cell HL.out k _ (by simp only [ints]; rw [List.getElem?_toArray, List.getElem?_map, List.getElem?_eq_getElem hk28]; rfl)
              have hvb := tryL_bd k hk28
              have hzl := cell_lt x0
              have hk0 : (0 : Int) ≤ (k : Int) := by omega
              have hki : (k : Int) < 28 := by omega
              generalize tryL[k]'hk28 = v at *
              go_wp2
              clear x0 hzl
              go_loopw [5] (fun i wr => ∃ s : Int, i = .int .i64 s ∧ (s = -1 ∨ s = 1 ∨ s = 3) ∧ Hid (wr.heap[wB.heap.size]? = some (.cells (ints tryL).toArray 3 (0, 0))) ∧ Hid (Below w.heap.size w wr)) (fun i _ => (3 - intOf i).toNat)
              case atStart => exact ⟨-1, rfl, .inl rfl, HL, HC⟩
              case round =>
                obtain ⟨wD, rfl⟩ : ∃ wD : World, wD = wr := ⟨_, rfl⟩
                obtain ⟨s, rfl, hs, HL2, HD⟩ := hrel
                by_cases h3 : s < 2
                · have hs2 : s = -1 ∨ s = 1 := by omega
                  clear hs
                  have hms : -100000000000001 ≤ v * s ∧ v * s ≤ 100000000000001 := by rcases hs2 with rfl | rfl <;> omega
                  go_wp2_with fail
                  refine (set_any wD.heap.size a b (v * s) _ (duo0_new wD a) (by simp) b0 hb).mono ?_
                  rintro e z ⟨rfl, ch, c0, c1, vv, hduo, hlen, hbz⟩
                  have hbd := (below_alloc' (below_alloc' (below_alloc' (below_alloc' (Below.refl wD.heap.size wD) _) _) _) _).trans hbz
                  have HBZ := Lib.hid (HD.out.trans (hbd.mono HD.out.size))
                  have HL3 := Lib.hid (blk_below HL2.out hbd (heap_lt HL2.out))
                  have HWZ := Lib.hid (hduo.wld (by omega))
                  have HG := Lib.hid (duo_small (ch := ch) hduo.e0 hlen)
                  have HTZ := Lib.hid (HT.out.below HBZ.out)
                  have d0 : z.cell? ⟨wD.heap.size + 1 + 1 + 1, 0, none⟩ = some (.int .u64 0) := blk_cell hduo.d 0 _ rfl
                  have d1 : z.cell? ⟨wD.heap.size + 1 + 1 + 1, 1, none⟩ = some (.slice (some ⟨wD.heap.size, 0, none⟩) 1 1) := blk_cell hduo.d 1 _ rfl
                  have d2 : z.cell? ⟨wD.heap.size + 1 + 1 + 1, 2, none⟩ = some (.slice (some ⟨wD.heap.size + 1 + 1, 0, none⟩) 2 2) := blk_cell hduo.d 2 _ rfl
                  have hzd := cell_lt d0
                  have tt : (checkS (duoW ch c0 c1) != checkS (duoW ch c0 c1)) = false := by simp
                  clear hduo hbz hbd
                  go_wp2_with fail
                  go_region_held3 (fun w' => Below z.heap.size z w' ∧ w'.cell? ⟨wD.heap.size + 1 + 1 + 1, 0, none⟩ = some (.int .u64 0) ∧ w'.cell? ⟨wD.heap.size + 1 + 1 + 1, 1, none⟩ = some (.slice (some ⟨wD.heap.size, 0, none⟩) 1 1) ∧ w'.cell? ⟨wD.heap.size + 1 + 1 + 1, 2, none⟩ = some (.slice (some ⟨wD.heap.size + 1 + 1, 0, none⟩) 2 2))
                    (first | exact ⟨Below.drew (Below.refl _ _), d0, d1, d2⟩ | exact ⟨(by assumption), cell_below (by assumption) d0, cell_below (by assumption) d1, cell_below (by assumption) d2⟩)
                    (first | (go_at_call 12; refine (own_keep z (duoW ch c0 c1) (some ⟨wD.heap.size, 0, none⟩) (some ⟨wD.heap.size + 1 + 1, 0, none⟩) 1 2 _ (by first | assumption | exact Below.drew (Below.refl _ _)) HWZ.out HG.out).mono ?_; rintro e wo ⟨q1, q2, e1, e2, rfl, hWo, hbo⟩) |
                      (go_at_call 16; refine (rcheck_keep2 z (duoW ch c0 c1) (some ⟨wD.heap.size, 0, none⟩) (some ⟨wD.heap.size + 1 + 1, 0, none⟩) 1 2 _ (by first | assumption | exact Below.drew (Below.refl _ _)) HWZ.out).mono ?_; rintro e wc ⟨rfl, hbc, hbx⟩) |
                      (go_at_call 15; refine (check_keep2 z (duoW ch c0 c1) _ _ _ _ _ (by first | assumption | exact Below.drew (Below.refl _ _)) HTZ.out (by first | exact hWo | exact hWo.below hbx)).mono ?_; rintro e wk ⟨rfl, hbk⟩))
                  all_goals
                    go_wp2
                    go_roundw
                    case rel => exact ⟨s + 2, rfl, by omega, Lib.hid (by first | exact blk_below HL3.out hbk (heap_lt HL3.out) | exact blk_below HL3.out hbc (heap_lt HL3.out)), Lib.hid (by first | exact HBZ.out.trans (hbk.mono HBZ.out.size) | exact HBZ.out.trans (hbc.mono HBZ.out.size))⟩
                    case measure => simp [intOf]; omega
                · go_wp2
                  go_roundw
                  case rel => exact ⟨k + 1, by omega, by go_num, HL2, HD⟩
                  case measure => simp [intOf]; omega
            · go_wp2
              go_roundw
              case rel => exact ⟨b + 1, rfl, by omega, by omega, HC⟩
              case measure => simp [intOf]; omega
        · go_wp2
          go_roundw
          case rel => exact ⟨a + 1, rfl, by omega, by omega, HB⟩
          case measure => simp [intOf]; omega
    · go_wp2
      obtain ⟨i0, hi0, hz0, hz1, hz2⟩ := info_parts infoEvR
      go_loopw [7] (fun i wr => ∃ s : Int, i = .int .i64 s ∧ (s = -1 ∨ s = 1 ∨ s = 3) ∧ Hid (Below w.heap.size w wr)) (fun i _ => (3 - intOf i).toNat)
      case atStart => exact ⟨-1, rfl, .inl rfl, HA⟩
      case round =>
        obtain ⟨wE, rfl⟩ : ∃ wE : World, wE = wr := ⟨_, rfl⟩
        obtain ⟨s, rfl, hs, HE⟩ := hrel
        by_cases h3 : s < 2
        · have hs2 : -1 ≤ s ∧ s ≤ 1 := by omega
          have HS := Lib.hid hs
          clear hs
          go_wp2
          go_loopw [9] (fun i wr => ∃ (q : Nat) (vv : Value) (es : List Evt), q ≤ 8 ∧ i = .int .i64 q ∧ es.length = q ∧ wE.heap.size + 1 ≤ wr.heap.size ∧ Hid (One wr wE.heap.size ⟨5, 100000000000000 * s, 10000000000 * s, 10000000 * s, 1000000000000, 1000000000, 1000000000 * s, 0, es⟩ vv) ∧ Hid (Below wE.heap.size wE wr)) (fun i _ => 8 - (intOf i).toNat)
          case atStart => exact ⟨0, .slice none 0 0, [], by omega, rfl, rfl, by simp, Lib.hid ⟨heap_alloc_new wE _, World.ownsRow_nil _ _ _ _⟩, Lib.hid (below_alloc' (Below.refl _ _) _)⟩
          case round =>
            obtain ⟨wF, rfl⟩ : ∃ wF : World, wF = wr := ⟨_, rfl⟩
            obtain ⟨q, vv, es, hq, rfl, hes, hnz, HO, HF⟩ := hrel
            have HES := Lib.hid hes
            clear hes
            by_cases h8 : q < 8
            · have x8 : wF.cell? ⟨wE.heap.size, 8, none⟩ = some vv := blk_cell HO.out.rc 8 _ rfl
              have hzx := cell_lt x8
              have HROW := Lib.hid HO.out.re
              by_cases h2 : (q : Int) % 2 = 0
              · have hp : (q : Int) % 2 = 0 := h2
                go_wp2_with (at_builtin; refine wpList_append_lies _ rfl (.tmp 72) (.tmp 86) _ rfl wE.heap.size 75 i0 _ 3 24 Tryd.underlying71 hi0 hz0 hz1 hz2 rfl (by omega) vv es.length _ rfl ((HROW.out.alloc _).alloc _) ⟨wF.heap.size + 1, 0, none⟩ 1 1 (evCells ⟨1, 1 + (q : Int), 10000000000000 * s⟩) rfl rfl (World.news_of_block (cs := (evCells ⟨1, 1 + (q : Int), 10000000000000 * s⟩).toArray) (t := 75) (fr := (0, 0)) (by have := heap_alloc_new (wF.alloc (.cells #[.int .i64 10000000000000, .int .i64 10000000000] 3)) (.cells (evCells ⟨1, 1 + (q : Int), 10000000000000 * s⟩).toArray 75); simp only [World.size_alloc] at this; exact this)) (by simp [Value.oneCell', evCells]) (by omega) (by have := HES.out; unfold maxLen; omega) (by have := HES.out; omega) (by simp; omega) _ rfl ?_; intro gg cap w1 hown1 hgrow _ _; obtain ⟨st1, st2⟩ := HO.out.boxed hgrow; have HND := Lib.hid (HO.out.next hgrow hown1); have HB2 := Lib.hid (below_grown (below_alloc' (below_alloc' HF.out _) _) hgrow (fun g hx => (HROW.out.lt g hx).1)); have hsz := hgrow.size; simp only [World.size_alloc] at hsz; clear hown1 hgrow)
                go_roundw
                case rel => exact ⟨q + 1, _, _, by omega, by go_num, by rw [List.length_append, HES.out]; rfl, by simp; omega, HND, Lib.hid (HB2.out.setCell (by dsimp only; omega) _)⟩
                case measure => simp [intOf]; omega
              · have hp : (q : Int) % 2 = 1 := by omega
                go_wp2_with (at_builtin; refine wpList_append_lies _ rfl (.tmp 72) (.tmp 86) _ rfl wE.heap.size 75 i0 _ 3 24 Tryd.underlying71 hi0 hz0 hz1 hz2 rfl (by omega) vv es.length _ rfl ((HROW.out.alloc _).alloc _) ⟨wF.heap.size + 1, 0, none⟩ 1 1 (evCells ⟨2, 1 + (q : Int), 10000000000 * s⟩) rfl rfl (World.news_of_block (cs := (evCells ⟨2, 1 + (q : Int), 10000000000 * s⟩).toArray) (t := 75) (fr := (0, 0)) (by have := heap_alloc_new (wF.alloc (.cells #[.int .i64 10000000000000, .int .i64 10000000000] 3)) (.cells (evCells ⟨2, 1 + (q : Int), 10000000000 * s⟩).toArray 75); simp only [World.size_alloc] at this; exact this)) (by simp [Value.oneCell', evCells]) (by omega) (by have := HES.out; unfold maxLen; omega) (by have := HES.out; omega) (by simp; omega) _ rfl ?_; intro gg cap w1 hown1 hgrow _ _; obtain ⟨st1, st2⟩ := HO.out.boxed hgrow; have HND := Lib.hid (HO.out.next hgrow hown1); have HB2 := Lib.hid (below_grown (below_alloc' (below_alloc' HF.out _) _) hgrow (fun g hx => (HROW.out.lt g hx).1)); have hsz := hgrow.size; simp only [World.size_alloc] at hsz; clear hown1 hgrow)
                go_roundw
                case rel => exact ⟨q + 1, _, _, by omega, by go_num, by rw [List.length_append, HES.out]; rfl, by simp; omega, HND, Lib.hid (HB2.out.setCell (by dsimp only; omega) _)⟩
                case measure => simp [intOf]; omega
            · obtain rfl : q = 8 := by omega
              have hev := evtsR_own (by have := HES.out; show es.length ≤ maxLen; unfold maxLen; omega) HO.out.re
              have HEV := Lib.hid hev
              obtain ⟨pv, cv, rfl, -, -⟩ := hev
              have q0 : wF.cell? ⟨wE.heap.size, 0, none⟩ = some (.int .i64 5) := blk_cell HO.out.rc 0 _ rfl
              have q1 : wF.cell? ⟨wE.heap.size, 1, none⟩ = some (.int .i64 (100000000000000 * s)) := blk_cell HO.out.rc 1 _ rfl
              have q2 : wF.cell? ⟨wE.heap.size, 2, none⟩ = some (.int .i64 (10000000000 * s)) := blk_cell HO.out.rc 2 _ rfl
              have q3 : wF.cell? ⟨wE.heap.size, 3, none⟩ = some (.int .i64 (10000000 * s)) := blk_cell HO.out.rc 3 _ rfl
              have q4 : wF.cell? ⟨wE.heap.size, 4, none⟩ = some (.int .i64 1000000000000) := blk_cell HO.out.rc 4 _ rfl
              have q5 : wF.cell? ⟨wE.heap.size, 5, none⟩ = some (.int .i64 1000000000) := blk_cell HO.out.rc 5 _ rfl
              have q6 : wF.cell? ⟨wE.heap.size, 6, none⟩ = some (.int .i64 (1000000000 * s)) := blk_cell HO.out.rc 6 _ rfl
              have q7 : wF.cell? ⟨wE.heap.size, 7, none⟩ = some (.int .i64 0) := blk_cell HO.out.rc 7 _ rfl
              have q8 : wF.cell? ⟨wE.heap.size, 8, none⟩ = some (.slice pv es.length cv) := blk_cell HO.out.rc 8 _ rfl
              have hzq := cell_lt q0
              have HWF := Lib.hid (HE.out.trans (HF.out.mono HE.out.size))
              go_wp2
              clear q0 q1 q2 q3 q4 q5 q6 q7 q8 hzq
              go_loopw [96] (fun i wr => ∃ k : Nat, k ≤ 7 ∧ i = .int .i64 k ∧ Hid (Solo wr wF.heap.size ⟨5, 100000000000000 * s, 10000000000 * s, 10000000 * s, 1000000000000, 1000000000, 1000000000 * s, 0, es⟩ (.slice pv es.length cv)) ∧ Hid (Below w.heap.size w wr)) (fun i _ => 7 - (intOf i).toNat)
              case atStart => exact ⟨0, by omega, rfl, Lib.hid (solo_new wF ⟨5, 100000000000000 * s, 10000000000 * s, 10000000 * s, 1000000000000, 1000000000, 1000000000 * s, 0, es⟩ (.slice pv es.length cv) HEV.out), Lib.hid (below_alloc' (below_alloc' (below_alloc' (below_alloc' HWF.out _) _) _) _)⟩
              case round =>
                obtain ⟨wG, rfl⟩ : ∃ wG : World, wG = wr := ⟨_, rfl⟩
                obtain ⟨k, hk, rfl, HSO, HG⟩ := hrel
                by_cases hk7 : k < 7
                · have x0 : wG.cell? ⟨wF.heap.size + 1 + 1 + 1, k, none⟩ = some (.int .i64 (secL[k]'hk7)) := blk_cell HSO.out.rl k _ (by simp only [ints]; rw [List.getElem?_toArray, List.getElem?_map, List.getElem?_eq_getElem hk7]; rfl)
                  have hvb := secL_bd k hk7
                  generalize secL[k]'hk7 = sv at *
                  have d0 : wG.cell? ⟨wF.heap.size + 1 + 1, 0, none⟩ = some (.int .u64 99) := blk_cell HSO.out.rd 0 _ rfl
                  have d1 : wG.cell? ⟨wF.heap.size + 1 + 1, 1, none⟩ = some (.slice (some ⟨wF.heap.size, 0, none⟩) 1 1) := blk_cell HSO.out.rd 1 _ rfl
                  have d2 : wG.cell? ⟨wF.heap.size + 1 + 1, 2, none⟩ = some (.slice (some ⟨wF.heap.size + 1, 0, none⟩) 1 1) := blk_cell HSO.out.rd 2 _ rfl
                  have hzl := cell_lt x0
                  have hzd := cell_lt d0
                  have hk0 : (0 : Int) ≤ (k : Int) := by omega
                  have hki : (k : Int) < 7 := by omega
                  go_wp2_with fail
                  clear x0 d0 d1 d2 hzl hzd
                  refine (worldShows_any (soloW ⟨5, 100000000000000 * s, 10000000000 * s, 10000000 * s, 1000000000000, 1000000000, 1000000000 * s, 0, es⟩) 0 sv (some ⟨wF.heap.size, 0, none⟩) (some ⟨wF.heap.size + 1, 0, none⟩) 1 1 _ HSO.out.wld (HT.out.below HG.out)).mono ?_
                  rintro e z1 ⟨rfl, hb1⟩
                  have HSO1 := Lib.hid (HSO.out.below hb1)
                  have HG1 := Lib.hid (HG.out.trans (hb1.mono HG.out.size))
                  clear hb1 HSO HG
                  have d0 : z1.cell? ⟨wF.heap.size + 1 + 1, 0, none⟩ = some (.int .u64 99) := blk_cell HSO1.out.rd 0 _ rfl
                  have d1 : z1.cell? ⟨wF.heap.size + 1 + 1, 1, none⟩ = some (.slice (some ⟨wF.heap.size, 0, none⟩) 1 1) := blk_cell HSO1.out.rd 1 _ rfl
                  have d2 : z1.cell? ⟨wF.heap.size + 1 + 1, 2, none⟩ = some (.slice (some ⟨wF.heap.size + 1, 0, none⟩) 1 1) := blk_cell HSO1.out.rd 2 _ rfl
                  have hzd := cell_lt d0
                  go_wp2_with fail
                  clear d0 d1 d2 hzd
                  refine (worldTracks_any (soloW ⟨5, 100000000000000 * s, 10000000000 * s, 10000000 * s, 1000000000000, 1000000000, 1000000000 * s, 0, es⟩) 0 sv 500000 2 sv 5 (some ⟨wF.heap.size, 0, none⟩) (some ⟨wF.heap.size + 1, 0, none⟩) 1 1 _ HSO1.out.wld (HT.out.below HG1.out) (by omega) (by omega) (by omega) (by omega)).mono ?_
                  rintro e z2 ⟨rfl, hb2⟩
                  have HSO2 := Lib.hid (HSO1.out.below hb2)
                  have HG2 := Lib.hid (HG1.out.trans (hb2.mono HG1.out.size))
                  clear hb2 HSO1 HG1
                  go_wp2
                  go_roundw
                  case rel => exact ⟨k + 1, by omega, by go_num, HSO2, HG2⟩
                  case measure => simp [intOf]; omega
                · go_wp2
                  go_roundw
                  case rel => exact ⟨s + 2, rfl, by have := HS.out; omega, HG⟩
                  case measure => simp [intOf]; omega
        · go_wp2_with fail
          refine (awake_any _ (HT.out.below HE.out)).mono ?_
          rintro e z ⟨rfl, hbz⟩
          have HZ := Lib.hid (HE.out.trans (hbz.mono HE.out.size))
          clear hbz
          go_wp2
          go_ret
          exact ⟨rfl, HZ.out⟩
end Go.Proofs.YthegamfbigphkaaDoor
