/- CounterSmall, the closed statement: the law returns true. No condition. (Beside it in this text: plain facts of the net of the greatest size; too many clocks, a series that is too long, a net that grows; the walk of the law.) -/
import Derived.Test.YtlelamjbfjneiaaWt
import Derived.Test.YtlelamjbfjneiaaNar
import Derived.Test.YtlelamjbfjneiaaSe
import Derived.Test.YtlelamjbfjneiaaBn
import Derived.Test.YtlelamjbfjneiaaUa
import Derived.Test.YtlelamjbfjneiaaNh
import Derived.Test.YtlelamjbfjneiaaNy
import Derived.Test.YtlelamjbfjneiaaSf
import Derived.Test.YtlelamjbfjneiaaAk
import Derived.Test.YtlelamjbfjneiaaRows
import Derived.Test.YtlelamjbfjneiaaFrame
import Derived.Deep.DeepHandedRow
import Derived.OpenShut
import Derived.Lib.LaidTab
namespace Go.Proofs.Ytlelamjbfjneiaa.Ct
open Go Go.RowKit
def smallB (i : Nat) : Bnd := ⟨((i % 16 : Nat) : Int), (((i + 1) % 16 : Nat) : Int), -1000000000000000, 1000000000000000 - (i : Int)⟩
def smallL : List Bnd := (List.range 240).map smallB
theorem smallL_len : smallL.length = 240 := by simp [smallL]
theorem smallL_at {i : Nat} (hi : i < 240) : bndAt smallL i = smallB i := by simp [bndAt, smallL, hi]
theorem smallL_err : netErr 16 smallL = 0 := by decide +kernel
theorem smallL_more : netErr 16 (smallL ++ [smallB 0]) = 2 := by decide +kernel
def smallX : Nat → Int := fun i => if i = 0 then 999999999999776 else 0
theorem smallL_lims : LimsOk 16 smallL := (lims_of (n := 16) smallL_err).2
theorem smallL_solves : Solves smallL smallX := by
  intro y hy
  obtain ⟨d, hd, rfl⟩ := List.mem_map.1 hy
  have hl := useN_lt _ _ hd
  rw [smallL_len] at hl
  obtain ⟨i, up⟩ := d
  dsimp only at hl ⊢
  rw [smallL_at hl]
  have h1 : i % 16 < 16 := Nat.mod_lt _ (by decide)
  have h2 : (i + 1) % 16 < 16 := Nat.mod_lt _ (by decide)
  have h3 : i % 16 = 0 → i ≤ 224 := fun h => by omega
  cases up with
  | true =>
    show smallX ((i % 16 : Nat) : Int).toNat - smallX (((i + 1) % 16 : Nat) : Int).toNat ≤ 1000000000000000 - (i : Int)
    rw [Int.toNat_natCast, Int.toNat_natCast]
    unfold smallX
    by_cases e1 : i % 16 = 0
    · have := h3 e1
      rw [if_pos e1, if_neg (by omega)]; omega
    · rw [if_neg e1]
      split <;> omega
  | false =>
    show smallX (((i + 1) % 16 : Nat) : Int).toNat - smallX ((i % 16 : Nat) : Int).toNat ≤ -(-1000000000000000)
    rw [Int.toNat_natCast, Int.toNat_natCast]
    unfold smallX
    split <;> split <;> omega
theorem smallL_yes : (narrowS 16 smallL).2 = true := (narrow_pot (n := 16) (by decide) smallL_lims smallL_solves).1
theorem small_01 : getM (narrowS 16 smallL).1 0 1 = 999999999999776 := by
  have hp := (narrow_pot (n := 16) (by decide) smallL_lims smallL_solves).2
  have hop : openI = 100000000000000000 := rfl
  have E := edges_of (n := 16) (by decide) smallL_lims
  have F := bound_first (n := 16) (by decide) smallL_lims
  have h := smallL_yes
  have R := via_R F (Nat.le_refl 16) (by unfold narrowS at h; exact h)
  have mem : ((224, true) : Nat × Bool) ∈ useN smallL.length := by rw [smallL_len]; decide +kernel
  have e1 := E.le _ mem
  have e2 := R.le_zero (a := 0) (b := 1) (by decide) (by decide) 16 (Nat.le_refl 16)
  have e3 : kLim smallL (224, true) = ⟨0, 1, 999999999999776⟩ := by
    unfold kLim
    rw [smallL_at (by decide)]; rfl
  rw [e3] at e1
  have e1' : getM (boundM 16 (limsL smallL)) 0 1 ≤ 999999999999776 := e1
  have e2' : getM (narrowS 16 smallL).1 0 1 ≤ getM (boundM 16 (limsL smallL)) 0 1 := e2
  have lo := hp 0 1 (by decide) (by decide) (by omega)
  have lo' : (999999999999776 : Int) - 0 ≤ getM (narrowS 16 smallL).1 0 1 := lo
  omega
/-- three concrete priors -/
def smallC : Cnt := ⟨1000, 0, 0, 1, 2, 1, 0⟩
theorem small_r1 : (resolveS smallC (-1) (-1000000000000000) 1000000000000000).2 = 12 := by rw [← refRes_same]; decide +kernel
theorem small_r2 : (resolveS smallC 0 (-1000000000000000) 1000000000000000).2 = 8 := by rw [← refRes_same]; decide +kernel
theorem small_r3 : resolveS smallC 0 1000000000000000 1000000000000000 = ((1000000000000000, 1000000000000000), 0) := by rw [← refRes_same]; decide +kernel
end Go.Proofs.Ytlelamjbfjneiaa.Ct
namespace Go.Proofs.Ytlelamjbfjneiaa.Ct
open Go Go.RowKit Go.Shelf
attribute [local go_sem] Oper.semAt_some
set_option maxRecDepth 100000 in
theorem checkNet_big (p : Option Addr) (m cap : Nat) (w : World) :
    Calls Try.prog 21 #[.int .i64 17, .slice p m cap] w fun e w' => e = .returned (.int .i64 1) ∧ Below w.heap.size w w' := by
  have HW := Lib.hid (fun W => within_any 17 1 16 W)
  have hw : (decide ((1 : Int) ≤ 17) && decide ((17 : Int) ≤ 16)) = false := by decide
  rw [hw] at HW
  go_enter Try.func21, Try.ntmps21
  go_wp2_with (go_at_call 33; refine (HW.out _).mono ?_; rintro e w1 ⟨rfl, rfl⟩)
  go_ret
  exact ⟨rfl, Below.refl _ _⟩
theorem contradict_big (p : Option Addr) (m cap : Nat) (w : World) :
    Calls Try.prog 13 #[.int .i64 17, .slice p m cap] w fun e w' => e = .returned (.tuple #[.slice none 0 0, .int .i64 1]) ∧ Below w.heap.size w w' := by
  have HC := Lib.hid (checkNet_big p m cap w)
  go_enter Try.func13, Try.ntmps13
  go_wp2_with (go_at_call 21; refine HC.out.mono ?_; rintro e w1 ⟨rfl, hb⟩; have HB := Lib.hid hb; clear hb)
  go_ret2
  exact ⟨rfl, HB.out⟩
theorem unwrap_big (p : Option Addr) (cap : Nat) (w : World) (h : FnIn w (fun _ => 0) 2001 p) :
    Calls Try.prog 18 #[.agg #[.int .i64 1000, .int .i64 0, .int .i64 0, .int .i64 1, .int .i64 2, .int .i64 1, .int .i64 0], .slice p 2001 cap, .int .i64 0] w fun e w' => e = .returned (.tuple #[.slice none 0 0, .int .i64 2]) ∧ Below w.heap.size w w' :=
  Unwrap_err smallC (fun _ => 0) 2001 p cap 0 2 w h (.inr ⟨by decide, .inl ⟨by decide, rfl⟩⟩)
theorem narrow_small (p : Option Addr) (cap : Nat) (w : World) (hs : BndsIn w smallL p) :
    Calls Try.prog 7 #[.int .i64 16, .slice p 240 cap] w fun e w' => ∃ g bs, e = .returned (.tuple #[.slice (some ⟨g, 0, none⟩) 16 16, .int .i64 0]) ∧ MatAt w w' 16 g bs (narrowS 16 smallL).1 := by
  have h := narrow_ok 16 smallL p cap w hs smallL_err (calm_all (by decide) smallL_lims) smallL_yes
  rw [smallL_len] at h
  exact h
theorem narrow_more (p : Option Addr) (cap : Nat) (w : World) (hs : BndsIn w (smallL ++ [smallB 0]) p) :
    Calls Try.prog 7 #[.int .i64 16, .slice p 241 cap] w fun e w' => e = .returned (.tuple #[.slice none 0 0, .int .i64 2]) ∧ Below w.heap.size w w' := by
  have hl : (smallL ++ [smallB 0]).length = 241 := by rw [List.length_append, smallL_len]; rfl
  have h := narrow_err 16 (smallL ++ [smallB 0]) p cap w (by rw [hl]; decide) hs (by rw [smallL_more]; decide)
  rw [smallL_more, hl] at h
  exact h
end Go.Proofs.Ytlelamjbfjneiaa.Ct
namespace Go.Proofs.Ytlelamjbfjneiaa.Ct
open Go Go.RowKit Go.Shelf
attribute [local go_sem] Oper.semAt_some
def nums : List Int := [-1, 0, 1, 2, 3, 4, 1000, 1001, 100000, 100001, 1000000, 1000001, 1000000000, 1000000001, 1000000000000, 1000000000001, 1000000000000000, 1000000000000002]
theorem nums_cells (X : World) (t : TypeId) : ∀ i : Nat, i < 18 → ∃ x : Int, (-4000000000000000 ≤ x ∧ x ≤ 4000000000000000) ∧ (X.alloc (.cells #[.int .i64 (-1), .int .i64 0, .int .i64 1, .int .i64 2, .int .i64 3, .int .i64 4, .int .i64 1000, .int .i64 1001, .int .i64 100000, .int .i64 100001, .int .i64 1000000, .int .i64 1000001, .int .i64 1000000000, .int .i64 1000000001, .int .i64 1000000000000, .int .i64 1000000000001, .int .i64 1000000000000000, .int .i64 1000000000000002] t)).cell? ⟨X.heap.size, i, none⟩ = some (.int .i64 x) := by
  intro i hi
  have h : i = 0 ∨ i = 1 ∨ i = 2 ∨ i = 3 ∨ i = 4 ∨ i = 5 ∨ i = 6 ∨ i = 7 ∨ i = 8 ∨ i = 9 ∨ i = 10 ∨ i = 11 ∨ i = 12 ∨ i = 13 ∨ i = 14 ∨ i = 15 ∨ i = 16 ∨ i = 17 := by omega
  rcases h with rfl | rfl | rfl | rfl | rfl | rfl | rfl | rfl | rfl | rfl | rfl | rfl | rfl | rfl | rfl | rfl | rfl | rfl
  · exact ⟨(-1), by decide, by simp⟩
  · exact ⟨0, by decide, by simp⟩
  · exact ⟨1, by decide, by simp⟩
  · exact ⟨2, by decide, by simp⟩
  · exact ⟨3, by decide, by simp⟩
  · exact ⟨4, by decide, by simp⟩
  · exact ⟨1000, by decide, by simp⟩
  · exact ⟨1001, by decide, by simp⟩
  · exact ⟨100000, by decide, by simp⟩
  · exact ⟨100001, by decide, by simp⟩
  · exact ⟨1000000, by decide, by simp⟩
  · exact ⟨1000001, by decide, by simp⟩
  · exact ⟨1000000000, by decide, by simp⟩
  · exact ⟨1000000001, by decide, by simp⟩
  · exact ⟨1000000000000, by decide, by simp⟩
  · exact ⟨1000000000001, by decide, by simp⟩
  · exact ⟨1000000000000000, by decide, by simp⟩
  · exact ⟨1000000000000002, by decide, by simp⟩
/-- what is left to look at in the end: the matrix, the counter -/
structure SmD (w X : World) (g b0 b13 : Nat) : Prop where
  d0 : X.cell? ⟨g, 0, none⟩ = some (.slice (some ⟨b0, 0, none⟩) 16 16)
  d1 : X.cell? ⟨b0, 1, none⟩ = some (.int .i64 999999999999776)
  x : CBox X b13 smallC
  bel : Below w.heap.size w X
theorem SmD.below {w X Y : World} {g b0 b13 : Nat} (h : SmD w X g b0 b13) (hb : Below X.heap.size X Y) : SmD w Y g b0 b13 :=
  ⟨cell_below hb h.d0, cell_below hb h.d1, h.x.below hb, h.bel.trans (hb.mono h.bel.size)⟩
theorem SmD.grown {w W X Y : World} {o : Obj} {b g b0 b13 : Nat} (h : SmD w X g b0 b13) (hg : (X.alloc o).grownBy Y (some b)) (h1 : g ≠ b) (h2 : b0 ≠ b) (hx : CBox W b13 smallC) (hW : Below W.heap.size W Y) (hwW : Below w.heap.size w W) : SmD w Y g b0 b13 := by
  have keep : ∀ {q j : Nat} {u : Value}, q ≠ b → X.cell? ⟨q, j, none⟩ = some u → Y.cell? ⟨q, j, none⟩ = some u := fun {q j u} hq hc => by
    have h1 : (X.alloc o).cell? ⟨q, j, none⟩ = some u := cell_below (below_alloc (Below.refl _ _) _) hc
    rw [← h1]
    exact World.cell?_of_block (w := X.alloc o) (a := ⟨q, j, none⟩) (hg.block q (cell_lt h1) (fun e => hq (Option.some.inj e)))
  exact ⟨keep h1 h.d0, keep h2 h.d1, hx.below hW, hwW.trans (hW.mono hwW.size)⟩
def bigCs : Array Value := madeCells (Value.int .i64 0).cells (Int.toNat 2001 * 1)
theorem cells_new (X : World) (cs : Array Value) (t : TypeId) (i : Nat) (v : Value) (h : cs[i]? = some v) : (X.alloc (.cells cs t)).cell? ⟨X.heap.size, i, none⟩ = some v := by
  simp [h]
theorem bigCs_list : bigCs.toList = List.replicate 2001 (.int .i64 0) := by
  unfold bigCs
  rw [show (Value.int .i64 0).cells = #[.int .i64 0] from rfl, show Int.toNat 2001 * 1 = 2001 from rfl]
  exact toList_madeCells_one _ _
theorem bigCs_at (i : Nat) (hi : i < 2001) : bigCs[i]? = some (.int .i64 0) := by
  have h2 : bigCs[i]? = bigCs.toList[i]? := Array.getElem?_toList.symm
  rw [h2, bigCs_list, List.getElem?_replicate, if_pos hi]
theorem made_big (X : World) : FnIn (X.alloc (.cells bigCs 3)) (fun _ => 0) 2001 (some ⟨X.heap.size, 0, none⟩) :=
  .inr ⟨X.heap.size, 0, rfl, fun i hi => by rw [Nat.zero_add]; exact cells_new X bigCs _ i _ (bigCs_at i hi)⟩
set_option maxRecDepth 100000 in
set_option maxHeartbeats 16000000 in
theorem small2_any (w : World) :
    Calls Try.prog 4 #[] w fun e w' => e = .returned (.bool true) ∧ Below w.heap.size w w' := by
  have HSH := Lib.hid (fun c seed s d m lo hi W => shows_law c seed s d m lo hi W)
  unfold cntVal at HSH
  go_enter Try.func4, Try.ntmps4
  go_wp2_with fail
  go_loopw [0, 1, 2, 3, 4, 5, 6] (fun s0 s1 s2 s3 s4 s5 s6 wr => ∃ (a : Int) (v2 v3 v4 v5 v6 : Value), (1 ≤ a ∧ a ≤ 5) ∧ s0 = .bool false ∧ s1 = .int .i64 a ∧ s2 = v2 ∧ s3 = v3 ∧ s4 = v4 ∧ s5 = v5 ∧ s6 = v6 ∧ Hid (Below w.heap.size w wr)) (fun _ i _ _ _ _ _ _ => (5 - intOf i).toNat)
  case atStart => exact ⟨1, _, _, _, _, _, ⟨by decide, by decide⟩, rfl, rfl, rfl, rfl, rfl, rfl, rfl, Lib.hid (Below.refl _ _)⟩
  case round =>
    obtain ⟨a, v2, v3, v4, v5, v6, ha, rfl, rfl, rfl, rfl, rfl, rfl, rfl, HB⟩ := hrel
    by_cases hlt : a < 5
    · have HA := Lib.hid ha
      have va : IntKind.i64.wrap (a + 1) = a + 1 := IntWalk.i64_in _ (by omega)
      clear ha
      go_wp2_with fail
      go_loopw [0, 2, 3, 4, 5, 6] (fun s0 s2 s3 s4 s5 s6 wr => ∃ (b : Int) (v3 v4 v5 v6 : Value), (1 ≤ b ∧ b ≤ 4) ∧ s0 = .bool false ∧ s2 = .int .i64 b ∧ s3 = v3 ∧ s4 = v4 ∧ s5 = v5 ∧ s6 = v6 ∧ Hid (Below w.heap.size w wr)) (fun _ i _ _ _ _ _ => (4 - intOf i).toNat)
      case atStart => exact ⟨1, _, _, _, _, ⟨by decide, by decide⟩, rfl, rfl, rfl, rfl, rfl, rfl, HB⟩
      case round =>
        clear HB
        obtain ⟨b, v3, v4, v5, v6, hb, rfl, rfl, rfl, rfl, rfl, rfl, HB⟩ := hrel
        by_cases hblt : b < 4
        · have HBI := Lib.hid hb
          have vb : IntKind.i64.wrap (b + 1) = b + 1 := IntWalk.i64_in _ (by omega)
          have vb2 : IntKind.i64.wrap (b - 2) = b - 2 := IntWalk.i64_in _ (by omega)
          have vb3 : IntKind.i64.wrap (2 * b) = 2 * b := IntWalk.i64_in _ (by omega)
          clear hb
          go_wp2_with fail
          go_loopw [0, 3, 4, 5, 6] (fun s0 s3 s4 s5 s6 wr => ∃ (c : Int) (v4 v5 v6 : Value), (1 ≤ c ∧ c ≤ 4) ∧ s0 = .bool false ∧ s3 = .int .i64 c ∧ s4 = v4 ∧ s5 = v5 ∧ s6 = v6 ∧ Hid (Below w.heap.size w wr)) (fun _ i _ _ _ _ => (4 - intOf i).toNat)
          case atStart => exact ⟨1, _, _, _, ⟨by decide, by decide⟩, rfl, rfl, rfl, rfl, rfl, HB⟩
          case round =>
            clear HB
            obtain ⟨c, v4, v5, v6, hc, rfl, rfl, rfl, rfl, rfl, HB⟩ := hrel
            by_cases hclt : c < 4
            · have HCI := Lib.hid hc
              have vc : IntKind.i64.wrap (c + 1) = c + 1 := IntWalk.i64_in _ (by omega)
              have vc1 : IntKind.i64.wrap (c - 1) = c - 1 := IntWalk.i64_in _ (by omega)
              obtain ⟨R, hR⟩ : ∃ R, IntKind.i64.wrap (2 * b * c) = R := ⟨_, rfl⟩
              clear hc
              generalize hwr : wr = W2 at *
              clear hwr
              go_upto_region 11 with fail
              have hbx := below_alloc (Below.refl W2.heap.size W2) (.cells #[.int .i64 a, .int .i64 (b - 2), .int .i64 (c - 1), .int .i64 b, .int .i64 R, .int .i64 1, .int .i64 0] 49)
              have HB3 := Lib.hid (HB.out.trans (hbx.mono HB.out.size))
              have HX3 : Hid (CBox (W2.alloc (.cells #[.int .i64 a, .int .i64 (b - 2), .int .i64 (c - 1), .int .i64 b, .int .i64 R, .int .i64 1, .int .i64 0] 49)) W2.heap.size ⟨a, b - 2, c - 1, b, R, 1, 0⟩) := Lib.hid ⟨by simp, by simp, by simp, by simp, by simp, by simp, by simp⟩
              clear hbx hR vc1 HB
              generalize W2.alloc (.cells #[.int .i64 a, .int .i64 (b - 2), .int .i64 (c - 1), .int .i64 b, .int .i64 R, .int .i64 1, .int .i64 0] 49) = W3 at *
              generalize W2.heap.size = b4 at *
              go_wp2_with fail
              go_loopw [0, 5, 6] (fun s0 s5 s6 wr => ∃ (d : Int) (v6 : Value), (-12 ≤ d ∧ d ≤ 13) ∧ s0 = .bool false ∧ s5 = .int .i64 d ∧ s6 = v6 ∧ Hid (Below W3.heap.size W3 wr)) (fun _ i _ _ => (13 - intOf i).toNat)
              case atStart => exact ⟨-12, _, ⟨by decide, by decide⟩, rfl, rfl, rfl, Lib.hid (Below.refl _ _)⟩
              case round =>
                obtain ⟨d, v6, hd, rfl, rfl, rfl, HB4⟩ := hrel
                by_cases hdlt : d < 13
                · have HDI := Lib.hid hd
                  have vd : IntKind.i64.wrap (d + 1) = d + 1 := IntWalk.i64_in _ (by omega)
                  clear hd
                  go_wp2_with fail
                  go_loopw [0, 6] (fun s0 s6 wr => ∃ (f : Int), (0 ≤ f ∧ f ≤ 10) ∧ s0 = .bool false ∧ s6 = .int .i64 f ∧ Hid (Below W3.heap.size W3 wr)) (fun _ i _ => (11 - intOf i).toNat)
                  case atStart => exact ⟨0, ⟨by decide, by decide⟩, rfl, rfl, HB4⟩
                  case round =>
                    clear HB4
                    obtain ⟨f, hf, rfl, rfl, HB4⟩ := hrel
                    by_cases hflt : f < 9
                    · have HFI := Lib.hid hf
                      have vf : IntKind.i64.wrap (f + 2) = f + 2 := IntWalk.i64_in _ (by omega)
                      have hgz : (2 * b == 0) = false := by have := HBI.out; simp; omega
                      have hgn : ¬ 2 * b = 0 := by have := HBI.out; omega
                      have HX4 := Lib.hid (HX3.out.below HB4.out)
                      clear hf
                      generalize hwr : wr = W4 at *
                      clear hwr
                      obtain ⟨x0, x1, x2, x3, x4, x5, x6⟩ := HX4.out
                      dsimp only at x0 x1 x2 x3 x4 x5 x6
                      have hz := cell_lt x0
                      go_upto_region 17 with fail
                      refine (wpIn_wide (n := 9)).1 ?_
                      refine wpIn_region_pre_lit 19 2 rfl (by kernel_rfl) (by kernel_rfl) (by kernel_rfl) (by kernel_rfl) rfl ?_
                      simp only [List.take_succ_cons, List.take_zero]
                      repeat (refine wpQuietIn_step (by first | exact fun _ _ _ _ => trivial | quiet_asked_in) (fun KQ hKQ => ?_); go_simp; first | (refine hKQ _ ?_; clear hKQ KQ) | (apply Exists.intro; refine ⟨fun _ => ?_, hKQ _ ?_⟩; (fail); clear hKQ KQ))
                      refine wpQuietIn_nil ?_
                      intro _ hwq1
                      obtain ⟨nq, hwq2⟩ := hwq1
                      subst hwq2
                      simp only [List.replicate_succ, List.replicate_zero, List.cons_append, List.nil_append]
                      clear x0 x1 x2 x3 x4 x5 x6 hz
                      have HBN := Lib.hid (Below.trans HB4.out ((below_drewN (Below.refl W4.heap.size W4) nq).mono HB4.out.size))
                      refine wpAnyIn_ready (rs := [19]) (by kernel_rfl) (by simp) (AllReadyIn.cons rfl (fun K' hKK => ?_) AllReadyIn.nil)
                      go_simp
                      refine ⟨trivial, (callsIn_wide.2 (HSH.out ⟨a, b - 2, c - 1, b, R, 1, 0⟩ _ _ _ _ _ _ _)).mono ?_⟩
                      rintro e w5 ⟨rfl, hb5⟩
                      have HB5 := Lib.hid (Below.trans HBN.out (hb5.mono HBN.out.size))
                      go_simp
                      refine hKK _ _ ?_
                      clear hKK hb5
                      refine wpAnyIn_ready (rs := [20]) (by kernel_rfl) (by simp) (AllReadyIn.cons rfl (fun K' hKK => ?_) AllReadyIn.nil)
                      go_simp
                      refine hKK _ _ ?_
                      clear hKK
                      refine wpAnyIn_done (by kernel_rfl) ?_ _
                      go_wp2_with fail
                      go_roundw
                      case rel => exact ⟨f + 2, by have := HFI.out; omega, rfl, rfl, HB5⟩
                      case measure => have := HFI.out; simp [intOf]; omega
                    · have hfe : ¬ f < 9 := hflt
                      go_wp2_with fail
                      go_roundw
                      case rel => exact ⟨d + 1, _, by have := HDI.out; omega, rfl, rfl, rfl, HB4⟩
                      case measure => have := HDI.out; simp [intOf]; omega
                · clear hd
                  have HB5 := Lib.hid (HB3.out.trans (HB4.out.mono HB3.out.size))
                  go_wp2_with fail
                  go_roundw
                  case rel => exact ⟨c + 1, _, _, _, by have := HCI.out; omega, rfl, rfl, rfl, rfl, rfl, HB5⟩
                  case measure => have := HCI.out; simp [intOf]; omega
            · clear hc
              go_wp2_with fail
              go_roundw
              case rel => exact ⟨b + 1, _, _, _, _, by have := HBI.out; omega, rfl, rfl, rfl, rfl, rfl, rfl, HB⟩
              case measure => have := HBI.out; simp [intOf]; omega
        · clear hb
          go_wp2_with fail
          go_roundw
          case rel => exact ⟨a + 1, _, _, _, _, _, by have := HA.out; omega, rfl, rfl, rfl, rfl, rfl, rfl, rfl, HB⟩
          case measure => have := HA.out; simp [intOf]; omega
    · clear ha
      go_wp2_with fail
      clear hlt
      go_loopw [0, 7, 9, 10, 11, 12] (fun s0 s7 s9 s10 s11 s12 wr => ∃ (n : Nat) (v9 v10 v11 v12 : Value), n ≤ 7 ∧ s0 = .bool false ∧ s7 = .int .i64 (n : Int) ∧ s9 = v9 ∧ s10 = v10 ∧ s11 = v11 ∧ s12 = v12 ∧ Hid (Below w.heap.size w wr)) (fun _ i _ _ _ _ _ => 7 - (intOf i).toNat)
      case atStart => exact ⟨0, _, _, _, _, by decide, rfl, rfl, rfl, rfl, rfl, rfl, HB⟩
      case round =>
        clear HB
        obtain ⟨n, v9, v10, v11, v12, hn, rfl, rfl, rfl, rfl, rfl, rfl, HB⟩ := hrel
        by_cases hlt : n < 7
        · have hni : (n : Int) < 7 := by omega
          have HN := Lib.hid hlt
          have vn : IntKind.i64.wrap ((n : Int) + 1) = (n : Int) + 1 := IntWalk.i64_in _ (by omega)
          clear hn hlt
          generalize hwr : wr = W4 at *
          clear hwr
          go_upto_region 23 with fail
          have hbx := below_alloc (Below.refl W4.heap.size W4) (.cells #[.int .i64 (-1), .int .i64 0, .int .i64 1, .int .i64 2, .int .i64 3, .int .i64 4, .int .i64 1000, .int .i64 1001, .int .i64 100000, .int .i64 100001, .int .i64 1000000, .int .i64 1000001, .int .i64 1000000000, .int .i64 1000000001, .int .i64 1000000000000, .int .i64 1000000000001, .int .i64 1000000000000000, .int .i64 1000000000000002] 3)
          have HB5 := Lib.hid (HB.out.trans (hbx.mono HB.out.size))
          have HNU := Lib.hid (nums_cells W4 3)
          clear hbx HB
          generalize W4.alloc (.cells #[.int .i64 (-1), .int .i64 0, .int .i64 1, .int .i64 2, .int .i64 3, .int .i64 4, .int .i64 1000, .int .i64 1001, .int .i64 100000, .int .i64 100001, .int .i64 1000000, .int .i64 1000001, .int .i64 1000000000, .int .i64 1000000001, .int .i64 1000000000000, .int .i64 1000000000001, .int .i64 1000000000000000, .int .i64 1000000000000002] 3) = W5 at *
          generalize W4.heap.size = bn at *
          go_loopw [0, 9, 10, 11, 12, 83] (fun s0 s9 s10 s11 s12 s83 wr => ∃ (i : Nat) (v9 v10 v11 v12 : Value), i ≤ 18 ∧ s0 = .bool false ∧ s9 = v9 ∧ s10 = v10 ∧ s11 = v11 ∧ s12 = v12 ∧ s83 = .int .i64 (i : Int) ∧ Hid (Below W5.heap.size W5 wr)) (fun _ _ _ _ _ i _ => 18 - (intOf i).toNat)
          case atStart => exact ⟨0, _, _, _, _, by decide, rfl, rfl, rfl, rfl, rfl, rfl, Lib.hid (Below.refl _ _)⟩
          case round =>
            obtain ⟨i, v9, v10, v11, v12, hi, rfl, rfl, rfl, rfl, rfl, rfl, HB6⟩ := hrel
            by_cases hlt : i < 18
            · have hii : (i : Int) < 18 := by omega
              have HI := Lib.hid hlt
              have vi : IntKind.i64.wrap ((i : Int) + 1) = (i : Int) + 1 := IntWalk.i64_in _ (by omega)
              obtain ⟨x, hxb, hx⟩ := HNU.out i hlt
              have HXB := Lib.hid hxb
              have xc := cell_below HB6.out hx
              have zc := cell_lt xc
              clear hi hlt hx hxb
              go_wp2_with fail
              clear xc zc
              go_loopw [0, 10, 11, 12] (fun s0 s10 s11 s12 wr => ∃ (sg : Int) (v11 v12 : Value), (sg = -1 ∨ sg = 1 ∨ sg = 3) ∧ s0 = .bool false ∧ s10 = .int .i64 sg ∧ s11 = v11 ∧ s12 = v12 ∧ Hid (Below W5.heap.size W5 wr)) (fun _ i _ _ _ => (4 - intOf i).toNat)
              case atStart => exact ⟨-1, _, _, .inl rfl, rfl, rfl, rfl, rfl, HB6⟩
              case round =>
                clear HB6
                obtain ⟨sg, v11, v12, hsg, rfl, rfl, rfl, rfl, HB6⟩ := hrel
                by_cases hlt : sg < 2
                · have HSG := Lib.hid hsg
                  have vs : IntKind.i64.wrap (sg + 2) = sg + 2 := IntWalk.i64_in _ (by omega)
                  obtain ⟨y, hy⟩ : ∃ y, IntKind.i64.wrap (sg * x) = y := ⟨_, rfl⟩
                  have h7 : n = 0 ∨ n = 1 ∨ n = 2 ∨ n = 3 ∨ n = 4 ∨ n = 5 ∨ n = 6 := by have := HN.out; omega
                  clear hsg
                  generalize hwr : wr = W7 at *
                  clear hwr
                  rcases h7 with rfl | rfl | rfl | rfl | rfl | rfl | rfl
                  · go_upto_region 31 with fail
                    have hbx := below_alloc (below_alloc (Below.refl W7.heap.size W7) (.cells #[.int .i64 y, .int .i64 0, .int .i64 0, .int .i64 1, .int .i64 2, .int .i64 1, .int .i64 0] 49)) (.cells #[.pointer (some ⟨W7.heap.size, 0, none⟩), .pointer (some ⟨W7.heap.size, 1, none⟩), .pointer (some ⟨W7.heap.size, 2, none⟩), .pointer (some ⟨W7.heap.size, 3, none⟩), .pointer (some ⟨W7.heap.size, 4, none⟩), .pointer (some ⟨W7.heap.size, 5, none⟩), .pointer (some ⟨W7.heap.size, 6, none⟩)] 53)
                    have HB8 := Lib.hid (HB6.out.trans (hbx.mono HB6.out.size))
                    have HX8 : Hid (CBox ((W7.alloc (.cells #[.int .i64 y, .int .i64 0, .int .i64 0, .int .i64 1, .int .i64 2, .int .i64 1, .int .i64 0] 49)).alloc (.cells #[.pointer (some ⟨W7.heap.size, 0, none⟩), .pointer (some ⟨W7.heap.size, 1, none⟩), .pointer (some ⟨W7.heap.size, 2, none⟩), .pointer (some ⟨W7.heap.size, 3, none⟩), .pointer (some ⟨W7.heap.size, 4, none⟩), .pointer (some ⟨W7.heap.size, 5, none⟩), .pointer (some ⟨W7.heap.size, 6, none⟩)] 53)) W7.heap.size ⟨y, 0, 0, 1, 2, 1, 0⟩) := Lib.hid ⟨by simp [go_sem], by simp [go_sem], by simp [go_sem], by simp [go_sem], by simp [go_sem], by simp [go_sem], by simp [go_sem]⟩
                    clear hbx hy
                    have HC1 := Lib.hid (fun W => check_any ⟨y, 0, 0, 1, 2, 1, 0⟩ W)
                    have HC2 := Lib.hid (fun W => rcheck_any ⟨y, 0, 0, 1, 2, 1, 0⟩ W)
                    unfold cntVal at HC1 HC2
                    dsimp only at HC1 HC2
                    generalize checkC ⟨y, 0, 0, 1, 2, 1, 0⟩ = ck at *
                    generalize ((W7.alloc (.cells #[.int .i64 y, .int .i64 0, .int .i64 0, .int .i64 1, .int .i64 2, .int .i64 1, .int .i64 0] 49)).alloc (.cells #[.pointer (some ⟨W7.heap.size, 0, none⟩), .pointer (some ⟨W7.heap.size, 1, none⟩), .pointer (some ⟨W7.heap.size, 2, none⟩), .pointer (some ⟨W7.heap.size, 3, none⟩), .pointer (some ⟨W7.heap.size, 4, none⟩), .pointer (some ⟨W7.heap.size, 5, none⟩), .pointer (some ⟨W7.heap.size, 6, none⟩)] 53)) = W8 at *
                    generalize W7.heap.size = b11 at *
                    have hne3 : (ck != ck) = false := by simp
                    obtain ⟨x0, x1, x2, x3, x4, x5, x6⟩ := HX8.out
                    dsimp only at x0 x1 x2 x3 x4 x5 x6
                    have zx := cell_lt x0
                    go_cut [112] from 108 to 112 (fun s112 wx => s112 = .bool false ∧ Hid (Below W8.heap.size W8 wx))
                    case first =>
                      have hB0 : Below W8.heap.size W8 W8.drew := Below.drew (Below.refl _ _)
                      have HK1 := Lib.hid (fun W (hb : Below W8.heap.size W8 W) => (HC1.out W).mono fun _ _ h => And.intro h.1 (hb.trans (h.2.mono hb.size)))
                      have HK2 := Lib.hid (fun W (hb : Below W8.heap.size W8 W) => (HC2.out W).mono fun _ _ h => And.intro h.1 (hb.trans (h.2.mono hb.size)))
                      have HKP := Lib.hid (fun W (hb : Below W8.heap.size W8 W) => show (fun w' => Below W8.heap.size W8 w' ∧ w'.cell? ⟨b11, 0, none⟩ = some (.int .i64 y) ∧ w'.cell? ⟨b11, 1, none⟩ = some (.int .i64 0) ∧ w'.cell? ⟨b11, 2, none⟩ = some (.int .i64 0) ∧ w'.cell? ⟨b11, 3, none⟩ = some (.int .i64 1) ∧ w'.cell? ⟨b11, 4, none⟩ = some (.int .i64 2) ∧ w'.cell? ⟨b11, 5, none⟩ = some (.int .i64 1) ∧ w'.cell? ⟨b11, 6, none⟩ = some (.int .i64 0)) W from ⟨hb, (HX8.out.below hb).c0, (HX8.out.below hb).c1, (HX8.out.below hb).c2, (HX8.out.below hb).c3, (HX8.out.below hb).c4, (HX8.out.below hb).c5, (HX8.out.below hb).c6⟩)
                      clear x0 x1 x2 x3 x4 x5 x6 zx
                      go_region_held3 (fun w' => Below W8.heap.size W8 w' ∧ w'.cell? ⟨b11, 0, none⟩ = some (.int .i64 y) ∧ w'.cell? ⟨b11, 1, none⟩ = some (.int .i64 0) ∧ w'.cell? ⟨b11, 2, none⟩ = some (.int .i64 0) ∧ w'.cell? ⟨b11, 3, none⟩ = some (.int .i64 1) ∧ w'.cell? ⟨b11, 4, none⟩ = some (.int .i64 2) ∧ w'.cell? ⟨b11, 5, none⟩ = some (.int .i64 1) ∧ w'.cell? ⟨b11, 6, none⟩ = some (.int .i64 0))
                        (first | exact HKP.out _ hbB | exact HKP.out _ hbA | exact HKP.out _ hB0 | exact HKP.out _ (Below.refl _ _))
                        (first | (go_at_call 15; refine (HK1.out _ hB0).mono ?_; rintro e wA ⟨rfl, hbA⟩) | (go_at_call 16; refine (HK2.out _ hbA).mono ?_; rintro e wB ⟨rfl, hbB⟩))
                      all_goals
                        go_wp2_with fail
                        go_meet
                        exact ⟨rfl, Lib.hid hbB⟩
                    case rest =>
                      obtain ⟨rfl, HBC⟩ := hcut
                      clear x0 x1 x2 x3 x4 x5 x6 zx
                      have HB9 := Lib.hid (Below.trans HB8.out (HBC.out.mono HB8.out.size))
                      go_wp2_with fail
                      go_roundw
                      case rel => exact ⟨sg + 2, _, _, by have := HSG.out; omega, rfl, rfl, rfl, rfl, HB9⟩
                      case measure => have := HSG.out; simp [intOf]; omega
                  · go_upto_region 31 with fail
                    have hbx := below_alloc (below_alloc (Below.refl W7.heap.size W7) (.cells #[.int .i64 1, .int .i64 y, .int .i64 0, .int .i64 1, .int .i64 2, .int .i64 1, .int .i64 0] 49)) (.cells #[.pointer (some ⟨W7.heap.size, 0, none⟩), .pointer (some ⟨W7.heap.size, 1, none⟩), .pointer (some ⟨W7.heap.size, 2, none⟩), .pointer (some ⟨W7.heap.size, 3, none⟩), .pointer (some ⟨W7.heap.size, 4, none⟩), .pointer (some ⟨W7.heap.size, 5, none⟩), .pointer (some ⟨W7.heap.size, 6, none⟩)] 53)
                    have HB8 := Lib.hid (HB6.out.trans (hbx.mono HB6.out.size))
                    have HX8 : Hid (CBox ((W7.alloc (.cells #[.int .i64 1, .int .i64 y, .int .i64 0, .int .i64 1, .int .i64 2, .int .i64 1, .int .i64 0] 49)).alloc (.cells #[.pointer (some ⟨W7.heap.size, 0, none⟩), .pointer (some ⟨W7.heap.size, 1, none⟩), .pointer (some ⟨W7.heap.size, 2, none⟩), .pointer (some ⟨W7.heap.size, 3, none⟩), .pointer (some ⟨W7.heap.size, 4, none⟩), .pointer (some ⟨W7.heap.size, 5, none⟩), .pointer (some ⟨W7.heap.size, 6, none⟩)] 53)) W7.heap.size ⟨1, y, 0, 1, 2, 1, 0⟩) := Lib.hid ⟨by simp [go_sem], by simp [go_sem], by simp [go_sem], by simp [go_sem], by simp [go_sem], by simp [go_sem], by simp [go_sem]⟩
                    clear hbx hy
                    have HC1 := Lib.hid (fun W => check_any ⟨1, y, 0, 1, 2, 1, 0⟩ W)
                    have HC2 := Lib.hid (fun W => rcheck_any ⟨1, y, 0, 1, 2, 1, 0⟩ W)
                    unfold cntVal at HC1 HC2
                    dsimp only at HC1 HC2
                    generalize checkC ⟨1, y, 0, 1, 2, 1, 0⟩ = ck at *
                    generalize ((W7.alloc (.cells #[.int .i64 1, .int .i64 y, .int .i64 0, .int .i64 1, .int .i64 2, .int .i64 1, .int .i64 0] 49)).alloc (.cells #[.pointer (some ⟨W7.heap.size, 0, none⟩), .pointer (some ⟨W7.heap.size, 1, none⟩), .pointer (some ⟨W7.heap.size, 2, none⟩), .pointer (some ⟨W7.heap.size, 3, none⟩), .pointer (some ⟨W7.heap.size, 4, none⟩), .pointer (some ⟨W7.heap.size, 5, none⟩), .pointer (some ⟨W7.heap.size, 6, none⟩)] 53)) = W8 at *
                    generalize W7.heap.size = b11 at *
                    have hne3 : (ck != ck) = false := by simp
                    obtain ⟨x0, x1, x2, x3, x4, x5, x6⟩ := HX8.out
                    dsimp only at x0 x1 x2 x3 x4 x5 x6
                    have zx := cell_lt x0
                    go_cut [112] from 108 to 112 (fun s112 wx => s112 = .bool false ∧ Hid (Below W8.heap.size W8 wx))
                    case first =>
                      have hB0 : Below W8.heap.size W8 W8.drew := Below.drew (Below.refl _ _)
                      have HK1 := Lib.hid (fun W (hb : Below W8.heap.size W8 W) => (HC1.out W).mono fun _ _ h => And.intro h.1 (hb.trans (h.2.mono hb.size)))
                      have HK2 := Lib.hid (fun W (hb : Below W8.heap.size W8 W) => (HC2.out W).mono fun _ _ h => And.intro h.1 (hb.trans (h.2.mono hb.size)))
                      have HKP := Lib.hid (fun W (hb : Below W8.heap.size W8 W) => show (fun w' => Below W8.heap.size W8 w' ∧ w'.cell? ⟨b11, 0, none⟩ = some (.int .i64 1) ∧ w'.cell? ⟨b11, 1, none⟩ = some (.int .i64 y) ∧ w'.cell? ⟨b11, 2, none⟩ = some (.int .i64 0) ∧ w'.cell? ⟨b11, 3, none⟩ = some (.int .i64 1) ∧ w'.cell? ⟨b11, 4, none⟩ = some (.int .i64 2) ∧ w'.cell? ⟨b11, 5, none⟩ = some (.int .i64 1) ∧ w'.cell? ⟨b11, 6, none⟩ = some (.int .i64 0)) W from ⟨hb, (HX8.out.below hb).c0, (HX8.out.below hb).c1, (HX8.out.below hb).c2, (HX8.out.below hb).c3, (HX8.out.below hb).c4, (HX8.out.below hb).c5, (HX8.out.below hb).c6⟩)
                      clear x0 x1 x2 x3 x4 x5 x6 zx
                      go_region_held3 (fun w' => Below W8.heap.size W8 w' ∧ w'.cell? ⟨b11, 0, none⟩ = some (.int .i64 1) ∧ w'.cell? ⟨b11, 1, none⟩ = some (.int .i64 y) ∧ w'.cell? ⟨b11, 2, none⟩ = some (.int .i64 0) ∧ w'.cell? ⟨b11, 3, none⟩ = some (.int .i64 1) ∧ w'.cell? ⟨b11, 4, none⟩ = some (.int .i64 2) ∧ w'.cell? ⟨b11, 5, none⟩ = some (.int .i64 1) ∧ w'.cell? ⟨b11, 6, none⟩ = some (.int .i64 0))
                        (first | exact HKP.out _ hbB | exact HKP.out _ hbA | exact HKP.out _ hB0 | exact HKP.out _ (Below.refl _ _))
                        (first | (go_at_call 15; refine (HK1.out _ hB0).mono ?_; rintro e wA ⟨rfl, hbA⟩) | (go_at_call 16; refine (HK2.out _ hbA).mono ?_; rintro e wB ⟨rfl, hbB⟩))
                      all_goals
                        go_wp2_with fail
                        go_meet
                        exact ⟨rfl, Lib.hid hbB⟩
                    case rest =>
                      obtain ⟨rfl, HBC⟩ := hcut
                      clear x0 x1 x2 x3 x4 x5 x6 zx
                      have HB9 := Lib.hid (Below.trans HB8.out (HBC.out.mono HB8.out.size))
                      go_wp2_with fail
                      go_roundw
                      case rel => exact ⟨sg + 2, _, _, by have := HSG.out; omega, rfl, rfl, rfl, rfl, HB9⟩
                      case measure => have := HSG.out; simp [intOf]; omega
                  · go_upto_region 31 with fail
                    have hbx := below_alloc (below_alloc (Below.refl W7.heap.size W7) (.cells #[.int .i64 1, .int .i64 0, .int .i64 y, .int .i64 1, .int .i64 2, .int .i64 1, .int .i64 0] 49)) (.cells #[.pointer (some ⟨W7.heap.size, 0, none⟩), .pointer (some ⟨W7.heap.size, 1, none⟩), .pointer (some ⟨W7.heap.size, 2, none⟩), .pointer (some ⟨W7.heap.size, 3, none⟩), .pointer (some ⟨W7.heap.size, 4, none⟩), .pointer (some ⟨W7.heap.size, 5, none⟩), .pointer (some ⟨W7.heap.size, 6, none⟩)] 53)
                    have HB8 := Lib.hid (HB6.out.trans (hbx.mono HB6.out.size))
                    have HX8 : Hid (CBox ((W7.alloc (.cells #[.int .i64 1, .int .i64 0, .int .i64 y, .int .i64 1, .int .i64 2, .int .i64 1, .int .i64 0] 49)).alloc (.cells #[.pointer (some ⟨W7.heap.size, 0, none⟩), .pointer (some ⟨W7.heap.size, 1, none⟩), .pointer (some ⟨W7.heap.size, 2, none⟩), .pointer (some ⟨W7.heap.size, 3, none⟩), .pointer (some ⟨W7.heap.size, 4, none⟩), .pointer (some ⟨W7.heap.size, 5, none⟩), .pointer (some ⟨W7.heap.size, 6, none⟩)] 53)) W7.heap.size ⟨1, 0, y, 1, 2, 1, 0⟩) := Lib.hid ⟨by simp [go_sem], by simp [go_sem], by simp [go_sem], by simp [go_sem], by simp [go_sem], by simp [go_sem], by simp [go_sem]⟩
                    clear hbx hy
                    have HC1 := Lib.hid (fun W => check_any ⟨1, 0, y, 1, 2, 1, 0⟩ W)
                    have HC2 := Lib.hid (fun W => rcheck_any ⟨1, 0, y, 1, 2, 1, 0⟩ W)
                    unfold cntVal at HC1 HC2
                    dsimp only at HC1 HC2
                    generalize checkC ⟨1, 0, y, 1, 2, 1, 0⟩ = ck at *
                    generalize ((W7.alloc (.cells #[.int .i64 1, .int .i64 0, .int .i64 y, .int .i64 1, .int .i64 2, .int .i64 1, .int .i64 0] 49)).alloc (.cells #[.pointer (some ⟨W7.heap.size, 0, none⟩), .pointer (some ⟨W7.heap.size, 1, none⟩), .pointer (some ⟨W7.heap.size, 2, none⟩), .pointer (some ⟨W7.heap.size, 3, none⟩), .pointer (some ⟨W7.heap.size, 4, none⟩), .pointer (some ⟨W7.heap.size, 5, none⟩), .pointer (some ⟨W7.heap.size, 6, none⟩)] 53)) = W8 at *
                    generalize W7.heap.size = b11 at *
                    have hne3 : (ck != ck) = false := by simp
                    obtain ⟨x0, x1, x2, x3, x4, x5, x6⟩ := HX8.out
                    dsimp only at x0 x1 x2 x3 x4 x5 x6
                    have zx := cell_lt x0
                    go_cut [112] from 108 to 112 (fun s112 wx => s112 = .bool false ∧ Hid (Below W8.heap.size W8 wx))
                    case first =>
                      have hB0 : Below W8.heap.size W8 W8.drew := Below.drew (Below.refl _ _)
                      have HK1 := Lib.hid (fun W (hb : Below W8.heap.size W8 W) => (HC1.out W).mono fun _ _ h => And.intro h.1 (hb.trans (h.2.mono hb.size)))
                      have HK2 := Lib.hid (fun W (hb : Below W8.heap.size W8 W) => (HC2.out W).mono fun _ _ h => And.intro h.1 (hb.trans (h.2.mono hb.size)))
                      have HKP := Lib.hid (fun W (hb : Below W8.heap.size W8 W) => show (fun w' => Below W8.heap.size W8 w' ∧ w'.cell? ⟨b11, 0, none⟩ = some (.int .i64 1) ∧ w'.cell? ⟨b11, 1, none⟩ = some (.int .i64 0) ∧ w'.cell? ⟨b11, 2, none⟩ = some (.int .i64 y) ∧ w'.cell? ⟨b11, 3, none⟩ = some (.int .i64 1) ∧ w'.cell? ⟨b11, 4, none⟩ = some (.int .i64 2) ∧ w'.cell? ⟨b11, 5, none⟩ = some (.int .i64 1) ∧ w'.cell? ⟨b11, 6, none⟩ = some (.int .i64 0)) W from ⟨hb, (HX8.out.below hb).c0, (HX8.out.below hb).c1, (HX8.out.below hb).c2, (HX8.out.below hb).c3, (HX8.out.below hb).c4, (HX8.out.below hb).c5, (HX8.out.below hb).c6⟩)
                      clear x0 x1 x2 x3 x4 x5 x6 zx
                      go_region_held3 (fun w' => Below W8.heap.size W8 w' ∧ w'.cell? ⟨b11, 0, none⟩ = some (.int .i64 1) ∧ w'.cell? ⟨b11, 1, none⟩ = some (.int .i64 0) ∧ w'.cell? ⟨b11, 2, none⟩ = some (.int .i64 y) ∧ w'.cell? ⟨b11, 3, none⟩ = some (.int .i64 1) ∧ w'.cell? ⟨b11, 4, none⟩ = some (.int .i64 2) ∧ w'.cell? ⟨b11, 5, none⟩ = some (.int .i64 1) ∧ w'.cell? ⟨b11, 6, none⟩ = some (.int .i64 0))
                        (first | exact HKP.out _ hbB | exact HKP.out _ hbA | exact HKP.out _ hB0 | exact HKP.out _ (Below.refl _ _))
                        (first | (go_at_call 15; refine (HK1.out _ hB0).mono ?_; rintro e wA ⟨rfl, hbA⟩) | (go_at_call 16; refine (HK2.out _ hbA).mono ?_; rintro e wB ⟨rfl, hbB⟩))
                      all_goals
                        go_wp2_with fail
                        go_meet
                        exact ⟨rfl, Lib.hid hbB⟩
                    case rest =>
                      obtain ⟨rfl, HBC⟩ := hcut
                      clear x0 x1 x2 x3 x4 x5 x6 zx
                      have HB9 := Lib.hid (Below.trans HB8.out (HBC.out.mono HB8.out.size))
                      go_wp2_with fail
                      go_roundw
                      case rel => exact ⟨sg + 2, _, _, by have := HSG.out; omega, rfl, rfl, rfl, rfl, HB9⟩
                      case measure => have := HSG.out; simp [intOf]; omega
                  · go_upto_region 31 with fail
                    have hbx := below_alloc (below_alloc (Below.refl W7.heap.size W7) (.cells #[.int .i64 1, .int .i64 0, .int .i64 0, .int .i64 y, .int .i64 2, .int .i64 1, .int .i64 0] 49)) (.cells #[.pointer (some ⟨W7.heap.size, 0, none⟩), .pointer (some ⟨W7.heap.size, 1, none⟩), .pointer (some ⟨W7.heap.size, 2, none⟩), .pointer (some ⟨W7.heap.size, 3, none⟩), .pointer (some ⟨W7.heap.size, 4, none⟩), .pointer (some ⟨W7.heap.size, 5, none⟩), .pointer (some ⟨W7.heap.size, 6, none⟩)] 53)
                    have HB8 := Lib.hid (HB6.out.trans (hbx.mono HB6.out.size))
                    have HX8 : Hid (CBox ((W7.alloc (.cells #[.int .i64 1, .int .i64 0, .int .i64 0, .int .i64 y, .int .i64 2, .int .i64 1, .int .i64 0] 49)).alloc (.cells #[.pointer (some ⟨W7.heap.size, 0, none⟩), .pointer (some ⟨W7.heap.size, 1, none⟩), .pointer (some ⟨W7.heap.size, 2, none⟩), .pointer (some ⟨W7.heap.size, 3, none⟩), .pointer (some ⟨W7.heap.size, 4, none⟩), .pointer (some ⟨W7.heap.size, 5, none⟩), .pointer (some ⟨W7.heap.size, 6, none⟩)] 53)) W7.heap.size ⟨1, 0, 0, y, 2, 1, 0⟩) := Lib.hid ⟨by simp [go_sem], by simp [go_sem], by simp [go_sem], by simp [go_sem], by simp [go_sem], by simp [go_sem], by simp [go_sem]⟩
                    clear hbx hy
                    have HC1 := Lib.hid (fun W => check_any ⟨1, 0, 0, y, 2, 1, 0⟩ W)
                    have HC2 := Lib.hid (fun W => rcheck_any ⟨1, 0, 0, y, 2, 1, 0⟩ W)
                    unfold cntVal at HC1 HC2
                    dsimp only at HC1 HC2
                    generalize checkC ⟨1, 0, 0, y, 2, 1, 0⟩ = ck at *
                    generalize ((W7.alloc (.cells #[.int .i64 1, .int .i64 0, .int .i64 0, .int .i64 y, .int .i64 2, .int .i64 1, .int .i64 0] 49)).alloc (.cells #[.pointer (some ⟨W7.heap.size, 0, none⟩), .pointer (some ⟨W7.heap.size, 1, none⟩), .pointer (some ⟨W7.heap.size, 2, none⟩), .pointer (some ⟨W7.heap.size, 3, none⟩), .pointer (some ⟨W7.heap.size, 4, none⟩), .pointer (some ⟨W7.heap.size, 5, none⟩), .pointer (some ⟨W7.heap.size, 6, none⟩)] 53)) = W8 at *
                    generalize W7.heap.size = b11 at *
                    have hne3 : (ck != ck) = false := by simp
                    obtain ⟨x0, x1, x2, x3, x4, x5, x6⟩ := HX8.out
                    dsimp only at x0 x1 x2 x3 x4 x5 x6
                    have zx := cell_lt x0
                    go_cut [112] from 108 to 112 (fun s112 wx => s112 = .bool false ∧ Hid (Below W8.heap.size W8 wx))
                    case first =>
                      have hB0 : Below W8.heap.size W8 W8.drew := Below.drew (Below.refl _ _)
                      have HK1 := Lib.hid (fun W (hb : Below W8.heap.size W8 W) => (HC1.out W).mono fun _ _ h => And.intro h.1 (hb.trans (h.2.mono hb.size)))
                      have HK2 := Lib.hid (fun W (hb : Below W8.heap.size W8 W) => (HC2.out W).mono fun _ _ h => And.intro h.1 (hb.trans (h.2.mono hb.size)))
                      have HKP := Lib.hid (fun W (hb : Below W8.heap.size W8 W) => show (fun w' => Below W8.heap.size W8 w' ∧ w'.cell? ⟨b11, 0, none⟩ = some (.int .i64 1) ∧ w'.cell? ⟨b11, 1, none⟩ = some (.int .i64 0) ∧ w'.cell? ⟨b11, 2, none⟩ = some (.int .i64 0) ∧ w'.cell? ⟨b11, 3, none⟩ = some (.int .i64 y) ∧ w'.cell? ⟨b11, 4, none⟩ = some (.int .i64 2) ∧ w'.cell? ⟨b11, 5, none⟩ = some (.int .i64 1) ∧ w'.cell? ⟨b11, 6, none⟩ = some (.int .i64 0)) W from ⟨hb, (HX8.out.below hb).c0, (HX8.out.below hb).c1, (HX8.out.below hb).c2, (HX8.out.below hb).c3, (HX8.out.below hb).c4, (HX8.out.below hb).c5, (HX8.out.below hb).c6⟩)
                      clear x0 x1 x2 x3 x4 x5 x6 zx
                      go_region_held3 (fun w' => Below W8.heap.size W8 w' ∧ w'.cell? ⟨b11, 0, none⟩ = some (.int .i64 1) ∧ w'.cell? ⟨b11, 1, none⟩ = some (.int .i64 0) ∧ w'.cell? ⟨b11, 2, none⟩ = some (.int .i64 0) ∧ w'.cell? ⟨b11, 3, none⟩ = some (.int .i64 y) ∧ w'.cell? ⟨b11, 4, none⟩ = some (.int .i64 2) ∧ w'.cell? ⟨b11, 5, none⟩ = some (.int .i64 1) ∧ w'.cell? ⟨b11, 6, none⟩ = some (.int .i64 0))
                        (first | exact HKP.out _ hbB | exact HKP.out _ hbA | exact HKP.out _ hB0 | exact HKP.out _ (Below.refl _ _))
                        (first | (go_at_call 15; refine (HK1.out _ hB0).mono ?_; rintro e wA ⟨rfl, hbA⟩) | (go_at_call 16; refine (HK2.out _ hbA).mono ?_; rintro e wB ⟨rfl, hbB⟩))
                      all_goals
                        go_wp2_with fail
                        go_meet
                        exact ⟨rfl, Lib.hid hbB⟩
                    case rest =>
                      obtain ⟨rfl, HBC⟩ := hcut
                      clear x0 x1 x2 x3 x4 x5 x6 zx
                      have HB9 := Lib.hid (Below.trans HB8.out (HBC.out.mono HB8.out.size))
                      go_wp2_with fail
                      go_roundw
                      case rel => exact ⟨sg + 2, _, _, by have := HSG.out; omega, rfl, rfl, rfl, rfl, HB9⟩
                      case measure => have := HSG.out; simp [intOf]; omega
                  · go_upto_region 31 with fail
                    have hbx := below_alloc (below_alloc (Below.refl W7.heap.size W7) (.cells #[.int .i64 1, .int .i64 0, .int .i64 0, .int .i64 1, .int .i64 y, .int .i64 1, .int .i64 0] 49)) (.cells #[.pointer (some ⟨W7.heap.size, 0, none⟩), .pointer (some ⟨W7.heap.size, 1, none⟩), .pointer (some ⟨W7.heap.size, 2, none⟩), .pointer (some ⟨W7.heap.size, 3, none⟩), .pointer (some ⟨W7.heap.size, 4, none⟩), .pointer (some ⟨W7.heap.size, 5, none⟩), .pointer (some ⟨W7.heap.size, 6, none⟩)] 53)
                    have HB8 := Lib.hid (HB6.out.trans (hbx.mono HB6.out.size))
                    have HX8 : Hid (CBox ((W7.alloc (.cells #[.int .i64 1, .int .i64 0, .int .i64 0, .int .i64 1, .int .i64 y, .int .i64 1, .int .i64 0] 49)).alloc (.cells #[.pointer (some ⟨W7.heap.size, 0, none⟩), .pointer (some ⟨W7.heap.size, 1, none⟩), .pointer (some ⟨W7.heap.size, 2, none⟩), .pointer (some ⟨W7.heap.size, 3, none⟩), .pointer (some ⟨W7.heap.size, 4, none⟩), .pointer (some ⟨W7.heap.size, 5, none⟩), .pointer (some ⟨W7.heap.size, 6, none⟩)] 53)) W7.heap.size ⟨1, 0, 0, 1, y, 1, 0⟩) := Lib.hid ⟨by simp [go_sem], by simp [go_sem], by simp [go_sem], by simp [go_sem], by simp [go_sem], by simp [go_sem], by simp [go_sem]⟩
                    clear hbx hy
                    have HC1 := Lib.hid (fun W => check_any ⟨1, 0, 0, 1, y, 1, 0⟩ W)
                    have HC2 := Lib.hid (fun W => rcheck_any ⟨1, 0, 0, 1, y, 1, 0⟩ W)
                    unfold cntVal at HC1 HC2
                    dsimp only at HC1 HC2
                    generalize checkC ⟨1, 0, 0, 1, y, 1, 0⟩ = ck at *
                    generalize ((W7.alloc (.cells #[.int .i64 1, .int .i64 0, .int .i64 0, .int .i64 1, .int .i64 y, .int .i64 1, .int .i64 0] 49)).alloc (.cells #[.pointer (some ⟨W7.heap.size, 0, none⟩), .pointer (some ⟨W7.heap.size, 1, none⟩), .pointer (some ⟨W7.heap.size, 2, none⟩), .pointer (some ⟨W7.heap.size, 3, none⟩), .pointer (some ⟨W7.heap.size, 4, none⟩), .pointer (some ⟨W7.heap.size, 5, none⟩), .pointer (some ⟨W7.heap.size, 6, none⟩)] 53)) = W8 at *
                    generalize W7.heap.size = b11 at *
                    have hne3 : (ck != ck) = false := by simp
                    obtain ⟨x0, x1, x2, x3, x4, x5, x6⟩ := HX8.out
                    dsimp only at x0 x1 x2 x3 x4 x5 x6
                    have zx := cell_lt x0
                    go_cut [112] from 108 to 112 (fun s112 wx => s112 = .bool false ∧ Hid (Below W8.heap.size W8 wx))
                    case first =>
                      have hB0 : Below W8.heap.size W8 W8.drew := Below.drew (Below.refl _ _)
                      have HK1 := Lib.hid (fun W (hb : Below W8.heap.size W8 W) => (HC1.out W).mono fun _ _ h => And.intro h.1 (hb.trans (h.2.mono hb.size)))
                      have HK2 := Lib.hid (fun W (hb : Below W8.heap.size W8 W) => (HC2.out W).mono fun _ _ h => And.intro h.1 (hb.trans (h.2.mono hb.size)))
                      have HKP := Lib.hid (fun W (hb : Below W8.heap.size W8 W) => show (fun w' => Below W8.heap.size W8 w' ∧ w'.cell? ⟨b11, 0, none⟩ = some (.int .i64 1) ∧ w'.cell? ⟨b11, 1, none⟩ = some (.int .i64 0) ∧ w'.cell? ⟨b11, 2, none⟩ = some (.int .i64 0) ∧ w'.cell? ⟨b11, 3, none⟩ = some (.int .i64 1) ∧ w'.cell? ⟨b11, 4, none⟩ = some (.int .i64 y) ∧ w'.cell? ⟨b11, 5, none⟩ = some (.int .i64 1) ∧ w'.cell? ⟨b11, 6, none⟩ = some (.int .i64 0)) W from ⟨hb, (HX8.out.below hb).c0, (HX8.out.below hb).c1, (HX8.out.below hb).c2, (HX8.out.below hb).c3, (HX8.out.below hb).c4, (HX8.out.below hb).c5, (HX8.out.below hb).c6⟩)
                      clear x0 x1 x2 x3 x4 x5 x6 zx
                      go_region_held3 (fun w' => Below W8.heap.size W8 w' ∧ w'.cell? ⟨b11, 0, none⟩ = some (.int .i64 1) ∧ w'.cell? ⟨b11, 1, none⟩ = some (.int .i64 0) ∧ w'.cell? ⟨b11, 2, none⟩ = some (.int .i64 0) ∧ w'.cell? ⟨b11, 3, none⟩ = some (.int .i64 1) ∧ w'.cell? ⟨b11, 4, none⟩ = some (.int .i64 y) ∧ w'.cell? ⟨b11, 5, none⟩ = some (.int .i64 1) ∧ w'.cell? ⟨b11, 6, none⟩ = some (.int .i64 0))
                        (first | exact HKP.out _ hbB | exact HKP.out _ hbA | exact HKP.out _ hB0 | exact HKP.out _ (Below.refl _ _))
                        (first | (go_at_call 15; refine (HK1.out _ hB0).mono ?_; rintro e wA ⟨rfl, hbA⟩) | (go_at_call 16; refine (HK2.out _ hbA).mono ?_; rintro e wB ⟨rfl, hbB⟩))
                      all_goals
                        go_wp2_with fail
                        go_meet
                        exact ⟨rfl, Lib.hid hbB⟩
                    case rest =>
                      obtain ⟨rfl, HBC⟩ := hcut
                      clear x0 x1 x2 x3 x4 x5 x6 zx
                      have HB9 := Lib.hid (Below.trans HB8.out (HBC.out.mono HB8.out.size))
                      go_wp2_with fail
                      go_roundw
                      case rel => exact ⟨sg + 2, _, _, by have := HSG.out; omega, rfl, rfl, rfl, rfl, HB9⟩
                      case measure => have := HSG.out; simp [intOf]; omega
                  · go_upto_region 31 with fail
                    have hbx := below_alloc (below_alloc (Below.refl W7.heap.size W7) (.cells #[.int .i64 1, .int .i64 0, .int .i64 0, .int .i64 1, .int .i64 2, .int .i64 y, .int .i64 0] 49)) (.cells #[.pointer (some ⟨W7.heap.size, 0, none⟩), .pointer (some ⟨W7.heap.size, 1, none⟩), .pointer (some ⟨W7.heap.size, 2, none⟩), .pointer (some ⟨W7.heap.size, 3, none⟩), .pointer (some ⟨W7.heap.size, 4, none⟩), .pointer (some ⟨W7.heap.size, 5, none⟩), .pointer (some ⟨W7.heap.size, 6, none⟩)] 53)
                    have HB8 := Lib.hid (HB6.out.trans (hbx.mono HB6.out.size))
                    have HX8 : Hid (CBox ((W7.alloc (.cells #[.int .i64 1, .int .i64 0, .int .i64 0, .int .i64 1, .int .i64 2, .int .i64 y, .int .i64 0] 49)).alloc (.cells #[.pointer (some ⟨W7.heap.size, 0, none⟩), .pointer (some ⟨W7.heap.size, 1, none⟩), .pointer (some ⟨W7.heap.size, 2, none⟩), .pointer (some ⟨W7.heap.size, 3, none⟩), .pointer (some ⟨W7.heap.size, 4, none⟩), .pointer (some ⟨W7.heap.size, 5, none⟩), .pointer (some ⟨W7.heap.size, 6, none⟩)] 53)) W7.heap.size ⟨1, 0, 0, 1, 2, y, 0⟩) := Lib.hid ⟨by simp [go_sem], by simp [go_sem], by simp [go_sem], by simp [go_sem], by simp [go_sem], by simp [go_sem], by simp [go_sem]⟩
                    clear hbx hy
                    have HC1 := Lib.hid (fun W => check_any ⟨1, 0, 0, 1, 2, y, 0⟩ W)
                    have HC2 := Lib.hid (fun W => rcheck_any ⟨1, 0, 0, 1, 2, y, 0⟩ W)
                    unfold cntVal at HC1 HC2
                    dsimp only at HC1 HC2
                    generalize checkC ⟨1, 0, 0, 1, 2, y, 0⟩ = ck at *
                    generalize ((W7.alloc (.cells #[.int .i64 1, .int .i64 0, .int .i64 0, .int .i64 1, .int .i64 2, .int .i64 y, .int .i64 0] 49)).alloc (.cells #[.pointer (some ⟨W7.heap.size, 0, none⟩), .pointer (some ⟨W7.heap.size, 1, none⟩), .pointer (some ⟨W7.heap.size, 2, none⟩), .pointer (some ⟨W7.heap.size, 3, none⟩), .pointer (some ⟨W7.heap.size, 4, none⟩), .pointer (some ⟨W7.heap.size, 5, none⟩), .pointer (some ⟨W7.heap.size, 6, none⟩)] 53)) = W8 at *
                    generalize W7.heap.size = b11 at *
                    have hne3 : (ck != ck) = false := by simp
                    obtain ⟨x0, x1, x2, x3, x4, x5, x6⟩ := HX8.out
                    dsimp only at x0 x1 x2 x3 x4 x5 x6
                    have zx := cell_lt x0
                    go_cut [112] from 108 to 112 (fun s112 wx => s112 = .bool false ∧ Hid (Below W8.heap.size W8 wx))
                    case first =>
                      have hB0 : Below W8.heap.size W8 W8.drew := Below.drew (Below.refl _ _)
                      have HK1 := Lib.hid (fun W (hb : Below W8.heap.size W8 W) => (HC1.out W).mono fun _ _ h => And.intro h.1 (hb.trans (h.2.mono hb.size)))
                      have HK2 := Lib.hid (fun W (hb : Below W8.heap.size W8 W) => (HC2.out W).mono fun _ _ h => And.intro h.1 (hb.trans (h.2.mono hb.size)))
                      have HKP := Lib.hid (fun W (hb : Below W8.heap.size W8 W) => show (fun w' => Below W8.heap.size W8 w' ∧ w'.cell? ⟨b11, 0, none⟩ = some (.int .i64 1) ∧ w'.cell? ⟨b11, 1, none⟩ = some (.int .i64 0) ∧ w'.cell? ⟨b11, 2, none⟩ = some (.int .i64 0) ∧ w'.cell? ⟨b11, 3, none⟩ = some (.int .i64 1) ∧ w'.cell? ⟨b11, 4, none⟩ = some (.int .i64 2) ∧ w'.cell? ⟨b11, 5, none⟩ = some (.int .i64 y) ∧ w'.cell? ⟨b11, 6, none⟩ = some (.int .i64 0)) W from ⟨hb, (HX8.out.below hb).c0, (HX8.out.below hb).c1, (HX8.out.below hb).c2, (HX8.out.below hb).c3, (HX8.out.below hb).c4, (HX8.out.below hb).c5, (HX8.out.below hb).c6⟩)
                      clear x0 x1 x2 x3 x4 x5 x6 zx
                      go_region_held3 (fun w' => Below W8.heap.size W8 w' ∧ w'.cell? ⟨b11, 0, none⟩ = some (.int .i64 1) ∧ w'.cell? ⟨b11, 1, none⟩ = some (.int .i64 0) ∧ w'.cell? ⟨b11, 2, none⟩ = some (.int .i64 0) ∧ w'.cell? ⟨b11, 3, none⟩ = some (.int .i64 1) ∧ w'.cell? ⟨b11, 4, none⟩ = some (.int .i64 2) ∧ w'.cell? ⟨b11, 5, none⟩ = some (.int .i64 y) ∧ w'.cell? ⟨b11, 6, none⟩ = some (.int .i64 0))
                        (first | exact HKP.out _ hbB | exact HKP.out _ hbA | exact HKP.out _ hB0 | exact HKP.out _ (Below.refl _ _))
                        (first | (go_at_call 15; refine (HK1.out _ hB0).mono ?_; rintro e wA ⟨rfl, hbA⟩) | (go_at_call 16; refine (HK2.out _ hbA).mono ?_; rintro e wB ⟨rfl, hbB⟩))
                      all_goals
                        go_wp2_with fail
                        go_meet
                        exact ⟨rfl, Lib.hid hbB⟩
                    case rest =>
                      obtain ⟨rfl, HBC⟩ := hcut
                      clear x0 x1 x2 x3 x4 x5 x6 zx
                      have HB9 := Lib.hid (Below.trans HB8.out (HBC.out.mono HB8.out.size))
                      go_wp2_with fail
                      go_roundw
                      case rel => exact ⟨sg + 2, _, _, by have := HSG.out; omega, rfl, rfl, rfl, rfl, HB9⟩
                      case measure => have := HSG.out; simp [intOf]; omega
                  · go_upto_region 31 with fail
                    have hbx := below_alloc (below_alloc (Below.refl W7.heap.size W7) (.cells #[.int .i64 1, .int .i64 0, .int .i64 0, .int .i64 1, .int .i64 2, .int .i64 1, .int .i64 y] 49)) (.cells #[.pointer (some ⟨W7.heap.size, 0, none⟩), .pointer (some ⟨W7.heap.size, 1, none⟩), .pointer (some ⟨W7.heap.size, 2, none⟩), .pointer (some ⟨W7.heap.size, 3, none⟩), .pointer (some ⟨W7.heap.size, 4, none⟩), .pointer (some ⟨W7.heap.size, 5, none⟩), .pointer (some ⟨W7.heap.size, 6, none⟩)] 53)
                    have HB8 := Lib.hid (HB6.out.trans (hbx.mono HB6.out.size))
                    have HX8 : Hid (CBox ((W7.alloc (.cells #[.int .i64 1, .int .i64 0, .int .i64 0, .int .i64 1, .int .i64 2, .int .i64 1, .int .i64 y] 49)).alloc (.cells #[.pointer (some ⟨W7.heap.size, 0, none⟩), .pointer (some ⟨W7.heap.size, 1, none⟩), .pointer (some ⟨W7.heap.size, 2, none⟩), .pointer (some ⟨W7.heap.size, 3, none⟩), .pointer (some ⟨W7.heap.size, 4, none⟩), .pointer (some ⟨W7.heap.size, 5, none⟩), .pointer (some ⟨W7.heap.size, 6, none⟩)] 53)) W7.heap.size ⟨1, 0, 0, 1, 2, 1, y⟩) := Lib.hid ⟨by simp [go_sem], by simp [go_sem], by simp [go_sem], by simp [go_sem], by simp [go_sem], by simp [go_sem], by simp [go_sem]⟩
                    clear hbx hy
                    have HC1 := Lib.hid (fun W => check_any ⟨1, 0, 0, 1, 2, 1, y⟩ W)
                    have HC2 := Lib.hid (fun W => rcheck_any ⟨1, 0, 0, 1, 2, 1, y⟩ W)
                    unfold cntVal at HC1 HC2
                    dsimp only at HC1 HC2
                    generalize checkC ⟨1, 0, 0, 1, 2, 1, y⟩ = ck at *
                    generalize ((W7.alloc (.cells #[.int .i64 1, .int .i64 0, .int .i64 0, .int .i64 1, .int .i64 2, .int .i64 1, .int .i64 y] 49)).alloc (.cells #[.pointer (some ⟨W7.heap.size, 0, none⟩), .pointer (some ⟨W7.heap.size, 1, none⟩), .pointer (some ⟨W7.heap.size, 2, none⟩), .pointer (some ⟨W7.heap.size, 3, none⟩), .pointer (some ⟨W7.heap.size, 4, none⟩), .pointer (some ⟨W7.heap.size, 5, none⟩), .pointer (some ⟨W7.heap.size, 6, none⟩)] 53)) = W8 at *
                    generalize W7.heap.size = b11 at *
                    have hne3 : (ck != ck) = false := by simp
                    obtain ⟨x0, x1, x2, x3, x4, x5, x6⟩ := HX8.out
                    dsimp only at x0 x1 x2 x3 x4 x5 x6
                    have zx := cell_lt x0
                    go_cut [112] from 108 to 112 (fun s112 wx => s112 = .bool false ∧ Hid (Below W8.heap.size W8 wx))
                    case first =>
                      have hB0 : Below W8.heap.size W8 W8.drew := Below.drew (Below.refl _ _)
                      have HK1 := Lib.hid (fun W (hb : Below W8.heap.size W8 W) => (HC1.out W).mono fun _ _ h => And.intro h.1 (hb.trans (h.2.mono hb.size)))
                      have HK2 := Lib.hid (fun W (hb : Below W8.heap.size W8 W) => (HC2.out W).mono fun _ _ h => And.intro h.1 (hb.trans (h.2.mono hb.size)))
                      have HKP := Lib.hid (fun W (hb : Below W8.heap.size W8 W) => show (fun w' => Below W8.heap.size W8 w' ∧ w'.cell? ⟨b11, 0, none⟩ = some (.int .i64 1) ∧ w'.cell? ⟨b11, 1, none⟩ = some (.int .i64 0) ∧ w'.cell? ⟨b11, 2, none⟩ = some (.int .i64 0) ∧ w'.cell? ⟨b11, 3, none⟩ = some (.int .i64 1) ∧ w'.cell? ⟨b11, 4, none⟩ = some (.int .i64 2) ∧ w'.cell? ⟨b11, 5, none⟩ = some (.int .i64 1) ∧ w'.cell? ⟨b11, 6, none⟩ = some (.int .i64 y)) W from ⟨hb, (HX8.out.below hb).c0, (HX8.out.below hb).c1, (HX8.out.below hb).c2, (HX8.out.below hb).c3, (HX8.out.below hb).c4, (HX8.out.below hb).c5, (HX8.out.below hb).c6⟩)
                      clear x0 x1 x2 x3 x4 x5 x6 zx
                      go_region_held3 (fun w' => Below W8.heap.size W8 w' ∧ w'.cell? ⟨b11, 0, none⟩ = some (.int .i64 1) ∧ w'.cell? ⟨b11, 1, none⟩ = some (.int .i64 0) ∧ w'.cell? ⟨b11, 2, none⟩ = some (.int .i64 0) ∧ w'.cell? ⟨b11, 3, none⟩ = some (.int .i64 1) ∧ w'.cell? ⟨b11, 4, none⟩ = some (.int .i64 2) ∧ w'.cell? ⟨b11, 5, none⟩ = some (.int .i64 1) ∧ w'.cell? ⟨b11, 6, none⟩ = some (.int .i64 y))
                        (first | exact HKP.out _ hbB | exact HKP.out _ hbA | exact HKP.out _ hB0 | exact HKP.out _ (Below.refl _ _))
                        (first | (go_at_call 15; refine (HK1.out _ hB0).mono ?_; rintro e wA ⟨rfl, hbA⟩) | (go_at_call 16; refine (HK2.out _ hbA).mono ?_; rintro e wB ⟨rfl, hbB⟩))
                      all_goals
                        go_wp2_with fail
                        go_meet
                        exact ⟨rfl, Lib.hid hbB⟩
                    case rest =>
                      obtain ⟨rfl, HBC⟩ := hcut
                      clear x0 x1 x2 x3 x4 x5 x6 zx
                      have HB9 := Lib.hid (Below.trans HB8.out (HBC.out.mono HB8.out.size))
                      go_wp2_with fail
                      go_roundw
                      case rel => exact ⟨sg + 2, _, _, by have := HSG.out; omega, rfl, rfl, rfl, rfl, HB9⟩
                      case measure => have := HSG.out; simp [intOf]; omega
                · clear hsg
                  go_wp2_with fail
                  go_roundw
                  case rel => exact ⟨i + 1, _, _, _, _, HI.out, rfl, rfl, rfl, rfl, rfl, by simp, HB6⟩
                  case measure => have := HI.out; simp [intOf]; omega
            · have HB7 := Lib.hid (HB5.out.trans (HB6.out.mono HB5.out.size))
              obtain rfl : i = 18 := by omega
              clear hi
              go_wp2_with fail
              go_roundw
              case rel => exact ⟨n + 1, _, _, _, _, HN.out, rfl, by simp, rfl, rfl, rfl, rfl, HB7⟩
              case measure => have := HN.out; simp [intOf]; omega
        · obtain rfl : n = 7 := by omega
          clear hn hlt
          generalize hwr : wr = W4 at *
          clear hwr
          obtain ⟨i0, hi0, hz0, hz1, hz2⟩ := info_parts infoBound
          obtain ⟨i1, hi1, hy0, hy1, hy2⟩ := info_parts infoInt
          go_upto_region 35 with fail
          have hbx := below_alloc (Below.refl W4.heap.size W4) (.cells #[.int .i64 1000, .int .i64 0, .int .i64 0, .int .i64 1, .int .i64 2, .int .i64 1, .int .i64 0] 56)
          have HB5 := Lib.hid (HB.out.trans (hbx.mono HB.out.size))
          have HX5 : Hid (CBox (W4.alloc (.cells #[.int .i64 1000, .int .i64 0, .int .i64 0, .int .i64 1, .int .i64 2, .int .i64 1, .int .i64 0] 56)) W4.heap.size smallC) := Lib.hid ⟨by simp [smallC], by simp [smallC], by simp [smallC], by simp [smallC], by simp [smallC], by simp [smallC], by simp [smallC]⟩
          clear hbx HB
          generalize W4.alloc (.cells #[.int .i64 1000, .int .i64 0, .int .i64 0, .int .i64 1, .int .i64 2, .int .i64 1, .int .i64 0] 56) = W5 at *
          generalize W4.heap.size = b13 at *
          obtain ⟨⟨⟨p1, q1⟩, e1⟩, hr1⟩ : ∃ r, r = resolveS smallC (-1) (-1000000000000000) 1000000000000000 := ⟨_, rfl⟩
          obtain ⟨⟨⟨p2, q2⟩, e2⟩, hr2⟩ : ∃ r, r = resolveS smallC 0 (-1000000000000000) 1000000000000000 := ⟨_, rfl⟩
          obtain rfl : e1 = 12 := by have h := small_r1; rw [← hr1] at h; exact h
          obtain rfl : e2 = 8 := by have h := small_r2; rw [← hr2] at h; exact h
          have HR1 := Lib.hid (fun W => Resolve_any smallC (-1) (-1000000000000000) 1000000000000000 W)
          have HR2 := Lib.hid (fun W => Resolve_any smallC 0 (-1000000000000000) 1000000000000000 W)
          have HR3 := Lib.hid (fun W => Resolve_any smallC 0 1000000000000000 1000000000000000 W)
          rw [← hr1] at HR1
          rw [← hr2] at HR2
          rw [small_r3] at HR3
          unfold resVal spVal cntVal smallC at HR1 HR2 HR3
          dsimp only at HR1 HR2 HR3
          clear hr1 hr2
          obtain ⟨x0, x1, x2, x3, x4, x5, x6⟩ := HX5.out
          unfold smallC at x0 x1 x2 x3 x4 x5 x6
          dsimp only at x0 x1 x2 x3 x4 x5 x6
          have zx := cell_lt x0
          go_upto_region 36 with (go_at_call 17; refine (HR1.out _).mono ?_; rintro e w6 ⟨rfl, hb6⟩; have HB6 := Lib.hid (HB5.out.trans (hb6.mono HB5.out.size)); have HX6 := Lib.hid (HX5.out.below hb6); clear hb6)
          clear x0 x1 x2 x3 x4 x5 x6 zx HX5 HB5
          have hbx := below_alloc (Below.refl w6.heap.size w6) (.cells #[.int .i64 p1, .int .i64 q1] 43)
          have HB7 := Lib.hid (HB6.out.trans (hbx.mono HB6.out.size))
          have HX7 := Lib.hid (HX6.out.below hbx)
          clear hbx HB6 HX6
          generalize w6.alloc (.cells #[.int .i64 p1, .int .i64 q1] 43) = W7 at *
          generalize w6.heap.size = b14 at *
          obtain ⟨x0, x1, x2, x3, x4, x5, x6⟩ := HX7.out
          unfold smallC at x0 x1 x2 x3 x4 x5 x6
          dsimp only at x0 x1 x2 x3 x4 x5 x6
          have zx := cell_lt x0
          go_upto_region 37 with (go_at_call 17; refine (HR2.out _).mono ?_; rintro e w8 ⟨rfl, hb8⟩; have HB8 := Lib.hid (HB7.out.trans (hb8.mono HB7.out.size)); have HX8 := Lib.hid (HX7.out.below hb8); clear hb8)
          clear x0 x1 x2 x3 x4 x5 x6 zx HX7 HB7
          have hbx := below_alloc (Below.refl w8.heap.size w8) (.cells #[.int .i64 p2, .int .i64 q2] 43)
          have HB9 := Lib.hid (HB8.out.trans (hbx.mono HB8.out.size))
          have HX9 := Lib.hid (HX8.out.below hbx)
          clear hbx HB8 HX8
          generalize w8.alloc (.cells #[.int .i64 p2, .int .i64 q2] 43) = W9 at *
          generalize w8.heap.size = b16 at *
          obtain ⟨x0, x1, x2, x3, x4, x5, x6⟩ := HX9.out
          unfold smallC at x0 x1 x2 x3 x4 x5 x6
          dsimp only at x0 x1 x2 x3 x4 x5 x6
          have zx := cell_lt x0
          go_upto_region 38 with (go_at_call 17; refine (HR3.out _).mono ?_; rintro e w10 ⟨rfl, hb10⟩; have HB10 := Lib.hid (HB9.out.trans (hb10.mono HB9.out.size)); have HX10 := Lib.hid (HX9.out.below hb10); clear hb10)
          clear x0 x1 x2 x3 x4 x5 x6 zx HX9 HB9 HR1 HR2 HR3
          have hbx := below_alloc (Below.refl w10.heap.size w10) (.cells #[.int .i64 1000000000000000, .int .i64 1000000000000000] 43)
          have HB11 := Lib.hid (HB10.out.trans (hbx.mono HB10.out.size))
          have HX11 := Lib.hid (HX10.out.below hbx)
          have HS11 := Lib.hid (SpBox.new w10 1000000000000000 1000000000000000 43)
          clear hbx HB10 HX10
          generalize w10.alloc (.cells #[.int .i64 1000000000000000, .int .i64 1000000000000000] 43) = W11 at *
          generalize w10.heap.size = b18 at *
          obtain ⟨s0, s1⟩ := HS11.out
          have zs := cell_lt s0
          go_upto_region 40 with fail
          clear s0 s1 zs HS11
          go_wp2_with fail
          go_loopw [20, 21] (fun s20 s21 wr => ∃ (k : Nat) (v : Value), k ≤ 240 ∧ v = s20 ∧ s21 = .int .i64 (k : Int) ∧ Hid (BoAt W11 wr v smallL k)) (fun _ i _ => 240 - (intOf i).toNat)
          case atStart => exact ⟨0, _, by decide, rfl, rfl, Lib.hid ⟨World.ownsRow_nil _ _ _ _, Below.refl _ _⟩⟩
          case round =>
            obtain ⟨k, v, hk, rfl, rfl, HO⟩ := hrel
            by_cases hlt : k < 240
            · have hki : (k : Int) < 240 := by omega
              have HK := Lib.hid hlt
              have vk : IntKind.i64.wrap ((k : Int) + 1) = (k : Int) + 1 := IntWalk.i64_in _ (by omega)
              obtain ⟨A, hA⟩ : ∃ A, (k : Int) % 16 = A := ⟨_, rfl⟩
              obtain ⟨B, hB⟩ : ∃ B, ((k : Int) + 1) % 16 = B := ⟨_, rfl⟩
              obtain ⟨Hh, hH⟩ : ∃ Hh, IntKind.i64.wrap (1000000000000000 - (k : Int)) = Hh := ⟨_, rfl⟩
              have hAt : (k : Int).tmod 16 = A := by rw [← hA]; exact Int.tmod_eq_emod_of_nonneg (by omega)
              have hBt : ((k : Int) + 1).tmod 16 = B := by rw [← hB]; exact Int.tmod_eq_emod_of_nonneg (by omega)
              have hAw : IntKind.i64.wrap A = A := IntWalk.i64_in _ (by omega)
              have hBw : IntKind.i64.wrap B = B := IntWalk.i64_in _ (by omega)
              have HBK : Hid (bndAt smallL k = ⟨A, B, -1000000000000000, Hh⟩) := Lib.hid (by
                rw [smallL_at hlt]; unfold smallB
                rw [← hA, ← hB, ← hH, IntWalk.i64_in _ (by omega)]
                simp)
              clear hk hlt
              go_wp2_with (at_builtin; refine wpList_append_own_at _ rfl (.tmp 159) (.tmp 169) _ rfl W11.heap.size 46 i0 (.agg #[.int .i64 0, .int .i64 0, .int .i64 0, .int .i64 0]) 4 32 Try.underlying25 hi0 hz0 hz1 hz2 rfl (by decide) _ k _ rfl (World.ownsRow.alloc HO.out.own _) ⟨wr.heap.size, 0, none⟩ 1 1 [.int .i64 A, .int .i64 B, .int .i64 (-1000000000000000), .int .i64 Hh] rfl rfl (four_new _ _ _ _ _ _) (by simp [Value.oneCell']) (by have := HK.out; unfold maxLen; omega) (by have := HK.out; omega) (by have := HO.out.bel.size; simp; omega) ?_; intro v' z1 hown hg _ _; have HO2 := Lib.hid (HO.out.more (by rw [HBK.out]; exact hown) hg); clear hown hg)
              go_roundw
              case rel => exact ⟨k + 1, v', HK.out, rfl, by simp, HO2⟩
              case measure => have := HK.out; simp [intOf]; omega
            · obtain rfl : k = 240 := by omega
              clear hk hlt
              have HXL := Lib.hid (HX11.out.below HO.out.bel)
              have HBL := Lib.hid (HB11.out.trans (HO.out.bel.mono HB11.out.size))
              generalize hwr : wr = W12 at *
              clear hwr
              have HOW := Lib.hid (show BoAt W11 W12 v smallL smallL.length by rw [smallL_len]; exact HO.out)
              obtain ⟨pl, cl, hv, hbi⟩ := HOW.out.in_
              rw [smallL_len] at hv
              subst hv
              have HBI := Lib.hid hbi
              have HXK := HX11
              have HBK := HB11
              clear hbi HO HX11 HB11
              have HN1 := Lib.hid (narrow_small pl cl W12 HBI.out)
              go_upto_region 46 with (go_at_call 7; refine HN1.out.mono ?_; rintro e w13 ⟨g, bs, rfl, hm⟩; have HM := Lib.hid hm; clear hm)
              clear HN1
              have HO13 := Lib.hid (HOW.out.below HM.out.bel)
              have HI13 := Lib.hid (HBI.out.below HM.out.bel)
              have HD13 : Hid (SmD w w13 g (bs 0) b13) := Lib.hid ⟨HM.out.rows 0 (by decide), by have h := (HM.out.at_ 0 1 (by decide) (by decide)).1; rw [small_01] at h; exact h, HXL.out.below HM.out.bel, HBL.out.trans (HM.out.bel.mono HBL.out.size)⟩
              obtain ⟨lb, lo_, rfl, hcell⟩ := HI13.out.resolve_left (by rw [smallL_len]; decide)
              obtain ⟨⟨y0, y1⟩, y2, y3⟩ := hcell 0 (by rw [smallL_len]; decide)
              rw [smallL_at (by decide)] at y0 y1 y2 y3
              simp only [Nat.zero_mul, Nat.add_zero] at y0 y1 y2 y3
              have y0 : w13.cell? ⟨lb, lo_, none⟩ = some (.int .i64 0) := y0
              have y1 : w13.cell? ⟨lb, lo_ + 1, none⟩ = some (.int .i64 1) := y1
              have y2 : w13.cell? ⟨lb, lo_ + 2, none⟩ = some (.int .i64 (-1000000000000000)) := y2
              have y3 : w13.cell? ⟨lb, lo_ + 3, none⟩ = some (.int .i64 1000000000000000) := y3
              have hzl := cell_lt y0
              have HNG := Lib.hid (show g ≠ lb from fun e => by
                have h0 := HM.out.rows 0 (by decide)
                have hc0 := (HBI.out.resolve_left (by rw [smallL_len]; decide))
                obtain ⟨lb', lo', e', hc'⟩ := hc0
                cases e'
                have h1 := cell_below HM.out.bel (hc' 0 (by rw [smallL_len]; decide)).1.1
                subst e
                rcases HO13.out.own.2 with ⟨h2, -⟩ | ⟨gg, cc, cur, h2, -⟩
                · cases h2
                · cases h2
                  simp only [Nat.zero_mul, Nat.add_zero] at h1
                  rw [h1] at h0; cases h0)
              have HNB := Lib.hid (show bs 0 ≠ lb from fun e => by
                have h1 := HM.out.ge 0 (by decide)
                obtain ⟨lb', lo', e', hc'⟩ := (HBI.out.resolve_left (by rw [smallL_len]; decide))
                cases e'
                have h2 := cell_lt (hc' 0 (by rw [smallL_len]; decide)).1.1
                omega)
              have HOK : Hid (w13.ownsRow W11.heap.size 46 4 (.slice (some ⟨lb, lo_, none⟩) 240 cl) 240 (bndV smallL 240)) := Lib.hid (by have h := HO13.out.own; rw [smallL_len] at h; exact h)
              generalize bs 0 = b0 at *
              clear hcell HM HI13 HOW HBI HXL HBL
              go_upto_region 47 with (first
                | (at_builtin; refine wpList_append_own_at _ rfl (.tmp 177) (.tmp 181) _ rfl W11.heap.size 46 i0 (.agg #[.int .i64 0, .int .i64 0, .int .i64 0, .int .i64 0]) 4 32 Try.underlying25 hi0 hz0 hz1 hz2 rfl (by decide) _ 240 _ rfl (World.ownsRow.alloc HOK.out _) ⟨w13.heap.size, 0, none⟩ 1 1 [.int .i64 0, .int .i64 1, .int .i64 (-1000000000000000), .int .i64 1000000000000000] rfl rfl (four_new _ _ _ _ _ _) (by simp [Value.oneCell']) (by decide) (by decide) (by have := HO13.out.bel.size; simp; omega) ?_; intro v' z1 hown hg _ _; have HO14 := Lib.hid (HO13.out.snoc (y := smallB 0) (by rw [smallL_len]; exact hown) (o := .cells #[.int .i64 0, .int .i64 1, .int .i64 (-1000000000000000), .int .i64 1000000000000000] 46) hg); have HD14 := Lib.hid (HD13.out.grown hg HNG.out HNB.out HXK.out HO14.out.bel HBK.out); clear hown hg y0 y1 y2 y3 hzl; obtain ⟨pm, cm, hv2, hbm⟩ := HO14.out.in_; have HN2 := Lib.hid (narrow_more pm cm z1 hbm); have hlm : (smallL ++ [smallB 0]).length = 241 := by rw [List.length_append, smallL_len]; rfl
                   rw [hlm] at hv2; subst hv2; clear hbm hlm)
                | (go_at_call 7; refine HN2.out.mono ?_; rintro e w15 ⟨rfl, hb15⟩; have HD15 := Lib.hid (HD14.out.below hb15); clear hb15))
              clear HO13 HOK HNG HNB HD13 HD14 HO14 HN2 HXK HBK
              go_upto_region 48 with (go_at_call 13; refine (contradict_big _ _ _ _).mono ?_; rintro e w16 ⟨rfl, hb16⟩; have HD16 := Lib.hid (HD15.out.below hb16); clear hb16)
              clear HD15
              generalize w16 = W16 at *
              have hm2001 : ∀ W : World, (Instr.makeSlice 52 (.int .i64 2001) (.int .i64 2001)).run Try.prog W = .ok (.slice (some ⟨W.heap.size, 0, none⟩) 2001 2001) (W.alloc (.cells bigCs 3)) := fun W => by
                have h := run_make (P := Try.prog) W 52 3 i1 (.int .i64 0) Try.underlying52 hi1 hy0 .i64 .i64 2001 2001 (by decide) (by decide) (by rw [hy2]; decide) (by decide)
                rw [hy1] at h
                exact h
              obtain ⟨x0, x1, x2, x3, x4, x5, x6⟩ := HD16.out.x
              unfold smallC at x0 x1 x2 x3 x4 x5 x6
              dsimp only at x0 x1 x2 x3 x4 x5 x6
              have zx := cell_lt x0
              go_cut [23, 24] from 192 to 196 (fun s23 s24 wx => ∃ v23 : Value, s23 = v23 ∧ s24 = .int .i64 2 ∧ Hid (Below W16.heap.size W16 wx))
              case first =>
                have hB0 : Below W16.heap.size W16 W16.drew := Below.drew (Below.refl _ _)
                have HMB := Lib.hid (fun W => made_big W)
                have HKP := Lib.hid (fun W (hb : Below W16.heap.size W16 W) => show (fun w' => Below W16.heap.size W16 w' ∧ w'.cell? ⟨b13, 0, none⟩ = some (.int .i64 1000) ∧ w'.cell? ⟨b13, 1, none⟩ = some (.int .i64 0) ∧ w'.cell? ⟨b13, 2, none⟩ = some (.int .i64 0) ∧ w'.cell? ⟨b13, 3, none⟩ = some (.int .i64 1) ∧ w'.cell? ⟨b13, 4, none⟩ = some (.int .i64 2) ∧ w'.cell? ⟨b13, 5, none⟩ = some (.int .i64 1) ∧ w'.cell? ⟨b13, 6, none⟩ = some (.int .i64 0)) W from ⟨hb, (HD16.out.x.below hb).c0, (HD16.out.x.below hb).c1, (HD16.out.x.below hb).c2, (HD16.out.x.below hb).c3, (HD16.out.x.below hb).c4, (HD16.out.x.below hb).c5, (HD16.out.x.below hb).c6⟩)
                clear x0 x1 x2 x3 x4 x5 x6 zx
                go_region_held3 (fun w' => Below W16.heap.size W16 w' ∧ w'.cell? ⟨b13, 0, none⟩ = some (.int .i64 1000) ∧ w'.cell? ⟨b13, 1, none⟩ = some (.int .i64 0) ∧ w'.cell? ⟨b13, 2, none⟩ = some (.int .i64 0) ∧ w'.cell? ⟨b13, 3, none⟩ = some (.int .i64 1) ∧ w'.cell? ⟨b13, 4, none⟩ = some (.int .i64 2) ∧ w'.cell? ⟨b13, 5, none⟩ = some (.int .i64 1) ∧ w'.cell? ⟨b13, 6, none⟩ = some (.int .i64 0))
                  (first | exact HKP.out _ HBA.out | exact HKP.out _ (below_alloc hB0 _) | exact HKP.out _ hB0 | exact HKP.out _ (Below.refl _ _))
                  (first | (go_at_call 18; refine (unwrap_big _ _ _ ((HMB.out W16).below (Below.drew (Below.refl _ _)))).mono ?_; rintro e wA ⟨rfl, hbA⟩; have HBA := Lib.hid ((Below.drew (below_alloc (Below.refl W16.heap.size W16) (.cells bigCs 3))).trans (hbA.mono (by simp))); clear hbA))
                all_goals
                  go_wp2_with fail
                  go_meet
                  exact ⟨_, rfl, rfl, HBA⟩
              case rest =>
                obtain ⟨v23, rfl, rfl, HBC⟩ := hcut
                clear x0 x1 x2 x3 x4 x5 x6 zx hm2001
                have HD17 := Lib.hid (HD16.out.below HBC.out)
                have d0 := HD17.out.d0
                have d1 := HD17.out.d1
                have zd0 := cell_lt d0
                have zd1 := cell_lt d1
                go_wp2_with (go_at_call 5; refine (awake2_any _).mono ?_; rintro e w18 ⟨rfl, hb18⟩; have HB18 := Lib.hid (HD17.out.bel.trans (hb18.mono HD17.out.bel.size)); clear hb18)
                go_ret
                exact ⟨rfl, HB18.out⟩
end Go.Proofs.Ytlelamjbfjneiaa.Ct
namespace Go.Proofs.Ytlelamjbfjneiaa.lawCounterSmall
open Go Go.RowKit Go.WideShapes Go.ChangeShapes Go.ChangeAt

theorem own : ownKnob Try.prog.godebug = none := by kernel_rfl
theorem laidOut : laidOutB Try.prog = true := by kernel_rfl
theorem types : Try.f4.params.toList.all (fun t => Try.prog.readableRec t && decide (t < Try.prog.types.size)) = true := by kernel_rfl

set_option maxRecDepth 100000 in
theorem contract (H : Type) (enc : TypeId × Value → H) (W : World) (base : Nat) (args : Array Value) (ds gs : List (DataW H)) (before : List MemPlace)
    (hval : ∀ (j : Nat) t v, Try.f4.params[j]? = some t → args[j]? = some v → Value.okWide Try.prog W .any base t v)
    (hW : DataW.Whole enc Try.prog Try.f4.params.toList Rows.counterSmallSpec.vars false W args.toList ds gs before) :
    Calls Try.prog 4 args W fun e W' => ∃ v, e = .returned v ∧ Rows.counterSmallSpec.post enc Try.prog Try.f4 false true false false W args v W' := by
  have hW' := hW
  obtain ⟨p, q, hA0, hV, hpq, hfz, hnd⟩ := hW
  have hA : DataW.TrodAll enc Try.prog W 0 (fun _ => true) true Try.f4.params.toList args.toList ds p := hA0
  obtain ⟨rfl, rfl, rfl⟩ := trodAll_none hA
  obtain ⟨rfl, rfl⟩ := trodVars_none hV
  refine (Ct.small2_any W).mono fun e W' ⟨he, hb⟩ => ?_
  exact ⟨_, he, law_post laidOut types rfl rfl Try.underlying4 rfl hW' hb⟩

def wargs : Array Value := #[]
noncomputable def laidWorld (os : Os) : World := World.holding Try.prog os ⟨#[], #[], []⟩
theorem laid_met (os : Os) : laidMet Try.prog Rows.counterSmallRow.laid ((laidWorld os).forCall (fun _ _ => 0) ⟨#[], wargs, []⟩).memory :=
  laidMet_of_run' 8 (by kernel_rfl) (by kernel_rfl)
theorem reads (os : Os) {H : Type} (enc : TypeId × Value → H) : ∃ places, DataW.whole enc Try.prog ((laidWorld os).forCall (fun _ _ => 0) ⟨#[], wargs, []⟩).memory Try.f4.params.toList Rows.counterSmallSpec.vars false wargs.toList 8 = some ([], [], places) :=
  ⟨[], by kernel_rfl⟩
set_option maxRecDepth 100000 in
theorem lifted (os : Os) (started : os.Started) (H : Type) (enc : TypeId × Value → H) (F : Stop.Interp) :
    ReturnsInHanded {} Try.checked os 4 .any ((OpenSpec.ofChange Rows.counterSmallSpec).preRow enc Try.prog Try.f4 Rows.counterSmallRow.domain false Rows.counterSmallRow.laid) (((OpenSpec.ofChange Rows.counterSmallSpec).at F).post enc Try.prog Try.f4 false true false false) := by
  obtain ⟨places, hx⟩ := reads os enc
  refine returnsInHanded_of_row (C := Try.checked) (s := OpenSpec.ofChange Rows.counterSmallSpec) own started (by kernel_rfl) Try.func4
    (witness_row_at (enc := enc) (C := Try.checked) false (laidWorld os) wargs rfl (by kernel_rfl) (by kernel_rfl) (by kernel_rfl)
      (OpenSpec.preRow_of_cond 8 hx (by kernel_rfl) (fun k hk => by cases hk) (by kernel_rfl) (laid_met os))) ?_
  intro W base args ds gs before hval hW _ _ _ _ _ _
  exact contract H enc W base args ds gs before hval hW
theorem said : Rows.CounterSmallSaid :=
  OpenClaim.holds_of_cond 4 Try.f4 rfl rfl rfl rfl rfl rfl rfl ⟨rfl, rfl, rfl, rfl, rfl⟩ rfl rfl rfl rfl rfl (by kernel_rfl) Try.func4 (by kernel_rfl)
    (of_decide_eq_true (by kernel_rfl)) (by unfold Func.isWrapper; rw [if_neg (of_decide_eq_false (by kernel_rfl))]; exact ⟨rfl, rfl⟩)
    (fun os started H enc _ F => by rw [OpenClaim.pre_eq_preRow]; exact lifted os started H enc F)
end Go.Proofs.Ytlelamjbfjneiaa.lawCounterSmall
