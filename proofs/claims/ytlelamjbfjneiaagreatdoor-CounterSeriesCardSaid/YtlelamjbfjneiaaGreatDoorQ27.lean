/- Contract: Own, of a world with chambers and clocks. -/
import Derived.Test.YtlelamjbfjneiaaGreatDoorQ04
namespace Go.Proofs.YtlelamjbfjneiaaGreatDoor.Wd
open Go Go.RowKit
set_option maxRecDepth 100000 in
set_option maxHeartbeats 4000000 in
theorem own_both (W : Wld) (b1 o1 b2 o2 : Nat) (c1 c2 : Nat) (w : World) (h1 : ChamsAt w W.chs b1 o1) (h2 : ClksAt w W.cls b2 o2) (n1 : W.chs.length ≤ 40) (n2 : W.cls.length ≤ 40) (n3 : ∀ k, (hk : k < W.cls.length) → W.cls[k].evs.length ≤ 40) :
    Calls Tryz.prog 6 #[.agg #[.int .u64 W.seed, .slice (some ⟨b1, o1, none⟩) W.chs.length c1, .slice (some ⟨b2, o2, none⟩) W.cls.length c2]] w (OwnedF w W) := by
  obtain ⟨i0, hi0, hz0, hz1, hz2⟩ := info_parts infoCh
  obtain ⟨i1, hi1, hy0, hy1, hy2⟩ := info_parts infoCl
  obtain ⟨i2, hi2, hx0, hx1, hx2⟩ := info_parts infoEv
  have H1 := Lib.hid h1
  have H2 := Lib.hid h2
  have H3 := Lib.hid n3
  clear h1 h2 n3
  have hst := own1_start w W (some ⟨b1, o1, none⟩) (some ⟨b2, o2, none⟩) c1 c2
  have HST := Lib.hid hst
  clear hst
  go_enter Tryz.func6, Tryz.ntmps6
  go_wp2
  go_loopw [4] (fun i wr => ∃ (k : Nat) (v1 : Value), k ≤ W.chs.length ∧ i = .int .i64 k ∧ Hid (Own1 w wr W (some ⟨b1, o1, none⟩) (some ⟨b2, o2, none⟩) c1 c2 k v1)) (fun i _ => W.chs.length - (intOf i).toNat)
  case atStart => exact ⟨0, _, Nat.zero_le _, rfl, HST⟩
  case round =>
    obtain ⟨k, v1, hk, rfl, HS⟩ := hrel
    have par1 : wr.cell? ⟨w.heap.size, 1, none⟩ = some (.slice (some ⟨b1, o1, none⟩) W.chs.length c1) := blk_cell HS.out.at_.par 1 _ rfl
    by_cases hlt : k < W.chs.length
    · obtain ⟨r0, r1, r2⟩ := (H1.out k hlt).below HS.out.at_.bel
      have out1 : wr.cell? ⟨w.heap.size + 1 + 1, 1, none⟩ = some v1 := blk_cell HS.out.at_.out 1 _ rfl
      have hrow := HS.out.row
      have hkl : (k : Int) < (W.chs.length : Int) := by omega
      have hb3 := HS.out.at_.big
      generalize hch : W.chs[k] = ch at *
      have HCH := Lib.hid hch
      clear hch
      have HROW := Lib.hid hrow
      clear hrow
      go_wp2_with (at_builtin; refine wpList_append_lies _ rfl (.tmp 24) (.tmp 30) _ rfl (w.heap.size + 3) 80 i0 _ 3 24 Tryz.underlying35 hi0 hz0 hz1 hz2 rfl (by omega) v1 k _ rfl (HROW.out.alloc _) ⟨wr.heap.size, 0, none⟩ 1 1 (chCells ch) rfl rfl (World.news_of_block (cs := (chCells ch).toArray) (t := 80) (fr := (0, 0)) (heap_alloc_new wr _)) (by simp [Value.oneCell', chCells]) (by omega) (by unfold maxLen; omega) (by omega) (by simp; omega) _ rfl ?_; intro gg cap w1 hown1 hgrow _ _; obtain ⟨⟨st1, st2⟩, -⟩ := HS.out.at_.boxed hgrow (fun g hx => (HROW.out.lt g hx).1); have HOWN := Lib.hid hown1; have HGROW := Lib.hid hgrow; clear hown1 hgrow)
      go_roundw
      case rel => exact ⟨k + 1, _, by omega, by go_num, Lib.hid (HS.out.next hlt (by rw [HCH.out]; exact HOWN.out) HGROW.out)⟩
      case measure => simp [intOf]; omega
    · have hkl : ¬ (k : Int) < (W.chs.length : Int) := by omega
      obtain rfl : k = W.chs.length := by omega
      have HS2 := Lib.hid HS.out.start2
      clear HS hk hlt
      go_wp2
      go_loopw [6] (fun i wq => ∃ (k : Nat) (v2 : Value) (l : List (Clk × Value)), k ≤ W.cls.length ∧ i = .int .i64 k ∧ Hid (Own2 w wq W (some ⟨b1, o1, none⟩) (some ⟨b2, o2, none⟩) c1 c2 k v1 v2 l)) (fun i _ => W.cls.length - (intOf i).toNat)
      case atStart => exact ⟨0, _, _, Nat.zero_le _, rfl, HS2⟩
      case round =>
        obtain ⟨wq, rfl⟩ : ∃ wq : World, wq = wr := ⟨_, rfl⟩
        obtain ⟨k, v2, l, hk, rfl, HS⟩ := hrel
        have par2 : wq.cell? ⟨w.heap.size, 2, none⟩ = some (.slice (some ⟨b2, o2, none⟩) W.cls.length c2) := blk_cell HS.out.at_.par 2 _ rfl
        by_cases hlt : k < W.cls.length
        · obtain ⟨⟨y0, y1, y2, y3, y4, y5, y6, y7⟩, u, y8, hev⟩ := (H2.out k hlt).below HS.out.at_.bel
          have hkl : (k : Int) < (W.cls.length : Int) := by omega
          have hb3 := HS.out.at_.big
          have he40 := H3.out k hlt
          generalize hcl : W.cls[k] = c at *
          have HCL := Lib.hid hcl
          clear hcl
          obtain ⟨pe, ce, rfl, hml, hse⟩ := hev
          unfold maxLen at hml
          rcases hse with h0 | ⟨be, oe, rfl, hse⟩
          · have he0 : c.evs.length ≤ 0 := by omega
            clear h0
            have HT0 := Lib.hid (own3_start wq c (.slice pe c.evs.length ce))
            go_wp2
            go_loopw [9] (fun i wz => ∃ (j : Nat) (v3 : Value), j ≤ c.evs.length ∧ i = .int .i64 j ∧ Hid (Own3 wq wz c (.slice pe c.evs.length ce) j v3)) (fun i _ => c.evs.length - (intOf i).toNat)
            case atStart => exact ⟨0, _, Nat.zero_le _, rfl, HT0⟩
            case round =>
              obtain ⟨wz, rfl⟩ : ∃ wz : World, wz = wr := ⟨_, rfl⟩
              clear HT0 y0 y1 y2 y3 y4 y5 y6 y7 y8 par2
              obtain ⟨j, v3, hj, rfl, HT⟩ := hrel
              have x8 : wz.cell? ⟨wq.heap.size, 8, none⟩ = some (.slice pe c.evs.length ce) := blk_cell HT.out.xbox 8 _ rfl
              have k8 : wz.cell? ⟨wq.heap.size + 1, 8, none⟩ = some v3 := blk_cell HT.out.cbox 8 _ rfl
              have hbt := HT.out.big
              by_cases hjl : j < c.evs.length
              · exfalso; omega
              · have hjli : ¬ (j : Int) < (c.evs.length : Int) := by omega
                obtain rfl : j = c.evs.length := by omega
                clear x8 k8
                have x8 : wz.cell? ⟨wq.heap.size, 8, none⟩ = some (.slice pe c.evs.length ce) := blk_cell HT.out.xbox 8 _ rfl
                have HS2 := Lib.hid (HS.out.below HT.out.bel)
                have HEV := Lib.hid HT.out.done
                have ob2 : wz.cell? ⟨w.heap.size + 1 + 1, 2, none⟩ = some v2 := blk_cell HS2.out.at_.out 2 _ rfl
                have q0 : wz.cell? ⟨wq.heap.size + 1, 0, none⟩ = some (.int .i64 c.kind) := blk_cell HT.out.cbox 0 _ rfl
                have q1 : wz.cell? ⟨wq.heap.size + 1, 1, none⟩ = some (.int .i64 c.phase) := blk_cell HT.out.cbox 1 _ rfl
                have q2 : wz.cell? ⟨wq.heap.size + 1, 2, none⟩ = some (.int .i64 c.rate) := blk_cell HT.out.cbox 2 _ rfl
                have q3 : wz.cell? ⟨wq.heap.size + 1, 3, none⟩ = some (.int .i64 c.drift) := blk_cell HT.out.cbox 3 _ rfl
                have q4 : wz.cell? ⟨wq.heap.size + 1, 4, none⟩ = some (.int .i64 c.white) := blk_cell HT.out.cbox 4 _ rfl
                have q5 : wz.cell? ⟨wq.heap.size + 1, 5, none⟩ = some (.int .i64 c.walk) := blk_cell HT.out.cbox 5 _ rfl
                have q6 : wz.cell? ⟨wq.heap.size + 1, 6, none⟩ = some (.int .i64 c.heat) := blk_cell HT.out.cbox 6 _ rfl
                have q7 : wz.cell? ⟨wq.heap.size + 1, 7, none⟩ = some (.int .i64 c.room) := blk_cell HT.out.cbox 7 _ rfl
                have q8 : wz.cell? ⟨wq.heap.size + 1, 8, none⟩ = some v3 := blk_cell HT.out.cbox 8 _ rfl
                have HONE := Lib.hid (own_one HEV.out)
                go_wp2_with (at_builtin; refine wpList_append_lies _ rfl (.tmp 96) (.tmp 98) _ rfl (w.heap.size + 3) 85 i1 _ 9 88 Tryz.underlying36 hi1 hy0 hy1 hy2 rfl (by omega) v2 k _ rfl (HS2.out.row2.alloc _) ⟨wz.heap.size, 0, none⟩ 1 1 (clkCells c v3) rfl rfl (World.news_of_block (cs := (clkCells c v3).toArray) (t := 85) (fr := (0, 0)) (heap_alloc_new wz _)) (by simp [Value.oneCell', clkCells]; exact HONE.out) (by omega) (by unfold maxLen; omega) (by omega) (by simp; omega) _ rfl ?_; intro gg cap w1 hown1 hgrow _ _; obtain ⟨-, st1, st2⟩ := HS2.out.at_.boxed hgrow (fun g hx => (HS2.out.row2.lt g hx).1); have HOWN := Lib.hid hown1; have HGROW := Lib.hid hgrow; clear hown1 hgrow)
                go_roundw
                case rel =>
                  refine ⟨k + 1, .slice (some ⟨gg, 0, none⟩) (k + 1) cap, l ++ [(c, v3)], by omega, by go_num, Lib.hid ?_⟩
                  have hn := HS2.out.next hlt (v3 := v3) (by rw [HCL.out]; exact own_base HEV.out (by omega)) (by rw [HCL.out]; exact HOWN.out) HGROW.out
                  rw [HCL.out] at hn
                  exact hn
                case measure => simp [intOf]; omega
          · have HSE := Lib.hid hse
            clear hse
            have HT0 := Lib.hid (own3_start wq c (.slice (some ⟨be, oe, none⟩) c.evs.length ce))
            go_wp2
            go_loopw [9] (fun i wz => ∃ (j : Nat) (v3 : Value), j ≤ c.evs.length ∧ i = .int .i64 j ∧ Hid (Own3 wq wz c (.slice (some ⟨be, oe, none⟩) c.evs.length ce) j v3)) (fun i _ => c.evs.length - (intOf i).toNat)
            case atStart => exact ⟨0, _, Nat.zero_le _, rfl, HT0⟩
            case round =>
              obtain ⟨wz, rfl⟩ : ∃ wz : World, wz = wr := ⟨_, rfl⟩
              clear HT0 y0 y1 y2 y3 y4 y5 y6 y7 y8 par2
              obtain ⟨j, v3, hj, rfl, HT⟩ := hrel
              have x8 : wz.cell? ⟨wq.heap.size, 8, none⟩ = some (.slice (some ⟨be, oe, none⟩) c.evs.length ce) := blk_cell HT.out.xbox 8 _ rfl
              have k8 : wz.cell? ⟨wq.heap.size + 1, 8, none⟩ = some v3 := blk_cell HT.out.cbox 8 _ rfl
              have hbt := HT.out.big
              by_cases hjl : j < c.evs.length
              · obtain ⟨e0, e1, e2⟩ := (HSE.out j hjl).below HT.out.bel
                have hbe : be < wq.heap.size := cell_lt (HSE.out j hjl).1
                have hjli : (j : Int) < (c.evs.length : Int) := by omega
                generalize hev : c.evs[j] = ev at *
                have HEV := Lib.hid hev
                clear hev
                have HROW := Lib.hid HT.out.row
                have ag := HT.out.far (g := wq.heap.size) (by omega)
                have ae := HT.out.far (g := be) (by omega)
                have HAG := Lib.hid ag
                have HAE := Lib.hid ae
                clear ag ae
                go_wp2_with fail
                go_region_held3 (fun w' => w'.cell? ⟨wq.heap.size, 8, none⟩ = some (.slice (some ⟨be, oe, none⟩) c.evs.length ce) ∧ w'.cell? ⟨be, oe + j * 3, none⟩ = some (.int .i64 ev.what) ∧ w'.cell? ⟨be, oe + j * 3 + 1, none⟩ = some (.int .i64 ev.sec) ∧ w'.cell? ⟨be, oe + j * 3 + 2, none⟩ = some (.int .i64 ev.size))
                  (first
                    | (go_split_ands
                       refine ⟨set_far ?_ ?_, set_far ?_ ?_, set_far ?_ ?_, set_far ?_ ?_⟩
                       all_goals first | assumption | omega)
                    | (go_split_ands
                       refine ⟨?_, ?_, ?_, ?_⟩
                       · (rw [HGROW.out.cell_far _ (by simp; omega) (Ne.symm HAG.out)]; assumption)
                       · (rw [HGROW.out.cell_far _ (by simp; omega) (Ne.symm HAE.out)]; assumption)
                       · (rw [HGROW.out.cell_far _ (by simp; omega) (Ne.symm HAE.out)]; assumption)
                       · (rw [HGROW.out.cell_far _ (by simp; omega) (Ne.symm HAE.out)]; assumption))
                    | go_keep)
                  ((refine step_append_lies _ (by rfl) _ _ _ (by rfl) (wq.heap.size + 2) 90 i2 _ 3 24 Tryz.underlying83 hi2 hx0 hx1 hx2 rfl (by omega) v3 j _ (by rfl) ((HROW.out.alloc _).drew) ⟨wz.heap.size, 0, none⟩ 1 1 (evCells ev) (by rfl) (by rfl)
                      (World.news_of_block (cs := (evCells ev).toArray) (t := 90) (fr := (0, 0)) (heap_alloc_new wz _)) (by simp [Value.oneCell', evCells]) (by omega) (by unfold maxLen; omega) (by omega) (by simp; omega) (wz.heap.size + 1) (by simp) ?_
                    intro gg cap w1 hown1 hgrow _ _
                    obtain ⟨st1, st2⟩ := HT.out.boxed (n := 1) hgrow
                    have HOWN := Lib.hid hown1
                    have HGROW := Lib.hid hgrow
                    clear hown1 hgrow))
                go_wp2
                go_roundw
                case rel => exact ⟨j + 1, _, by omega, by go_num, Lib.hid (HT.out.next (n := 1) hjl (by rw [HEV.out]; exact HOWN.out) HGROW.out)⟩
                case measure => simp [intOf]; omega
              · have hjli : ¬ (j : Int) < (c.evs.length : Int) := by omega
                obtain rfl : j = c.evs.length := by omega
                clear x8 k8
                have x8 : wz.cell? ⟨wq.heap.size, 8, none⟩ = some (.slice (some ⟨be, oe, none⟩) c.evs.length ce) := blk_cell HT.out.xbox 8 _ rfl
                have HS2 := Lib.hid (HS.out.below HT.out.bel)
                have HEV := Lib.hid HT.out.done
                have ob2 : wz.cell? ⟨w.heap.size + 1 + 1, 2, none⟩ = some v2 := blk_cell HS2.out.at_.out 2 _ rfl
                have q0 : wz.cell? ⟨wq.heap.size + 1, 0, none⟩ = some (.int .i64 c.kind) := blk_cell HT.out.cbox 0 _ rfl
                have q1 : wz.cell? ⟨wq.heap.size + 1, 1, none⟩ = some (.int .i64 c.phase) := blk_cell HT.out.cbox 1 _ rfl
                have q2 : wz.cell? ⟨wq.heap.size + 1, 2, none⟩ = some (.int .i64 c.rate) := blk_cell HT.out.cbox 2 _ rfl
                have q3 : wz.cell? ⟨wq.heap.size + 1, 3, none⟩ = some (.int .i64 c.drift) := blk_cell HT.out.cbox 3 _ rfl
                have q4 : wz.cell? ⟨wq.heap.size + 1, 4, none⟩ = some (.int .i64 c.white) := blk_cell HT.out.cbox 4 _ rfl
                have q5 : wz.cell? ⟨wq.heap.size + 1, 5, none⟩ = some (.int .i64 c.walk) := blk_cell HT.out.cbox 5 _ rfl
                have q6 : wz.cell? ⟨wq.heap.size + 1, 6, none⟩ = some (.int .i64 c.heat) := blk_cell HT.out.cbox 6 _ rfl
                have q7 : wz.cell? ⟨wq.heap.size + 1, 7, none⟩ = some (.int .i64 c.room) := blk_cell HT.out.cbox 7 _ rfl
                have q8 : wz.cell? ⟨wq.heap.size + 1, 8, none⟩ = some v3 := blk_cell HT.out.cbox 8 _ rfl
                have HONE := Lib.hid (own_one HEV.out)
                go_wp2_with (at_builtin; refine wpList_append_lies _ rfl (.tmp 96) (.tmp 98) _ rfl (w.heap.size + 3) 85 i1 _ 9 88 Tryz.underlying36 hi1 hy0 hy1 hy2 rfl (by omega) v2 k _ rfl (HS2.out.row2.alloc _) ⟨wz.heap.size, 0, none⟩ 1 1 (clkCells c v3) rfl rfl (World.news_of_block (cs := (clkCells c v3).toArray) (t := 85) (fr := (0, 0)) (heap_alloc_new wz _)) (by simp [Value.oneCell', clkCells]; exact HONE.out) (by omega) (by unfold maxLen; omega) (by omega) (by simp; omega) _ rfl ?_; intro gg cap w1 hown1 hgrow _ _; obtain ⟨-, st1, st2⟩ := HS2.out.at_.boxed hgrow (fun g hx => (HS2.out.row2.lt g hx).1); have HOWN := Lib.hid hown1; have HGROW := Lib.hid hgrow; clear hown1 hgrow)
                go_roundw
                case rel =>
                  refine ⟨k + 1, .slice (some ⟨gg, 0, none⟩) (k + 1) cap, l ++ [(c, v3)], by omega, by go_num, Lib.hid ?_⟩
                  have hn := HS2.out.next hlt (v3 := v3) (by rw [HCL.out]; exact own_base HEV.out (by omega)) (by rw [HCL.out]; exact HOWN.out) HGROW.out
                  rw [HCL.out] at hn
                  exact hn
                case measure => simp [intOf]; omega
        · have hkl : ¬ (k : Int) < (W.cls.length : Int) := by omega
          obtain rfl : k = W.cls.length := by omega
          have r0 : wq.cell? ⟨w.heap.size + 1 + 1, 0, none⟩ = some (.int .u64 W.seed) := blk_cell HS.out.at_.out 0 _ rfl
          have r1 : wq.cell? ⟨w.heap.size + 1 + 1, 1, none⟩ = some v1 := blk_cell HS.out.at_.out 1 _ rfl
          have r2 : wq.cell? ⟨w.heap.size + 1 + 1, 2, none⟩ = some v2 := blk_cell HS.out.at_.out 2 _ rfl
          have t0 : wq.cell? ⟨w.heap.size + 1, 0, none⟩ = some (.int .u64 0) := blk_cell HS.out.at_.res 0 _ rfl
          have t1 : wq.cell? ⟨w.heap.size + 1, 1, none⟩ = some (.slice none 0 0) := blk_cell HS.out.at_.res 1 _ rfl
          have t2 : wq.cell? ⟨w.heap.size + 1, 2, none⟩ = some (.slice none 0 0) := blk_cell HS.out.at_.res 2 _ rfl
          have f0 := blk_free HS.out.at_.res 0
          have f1 := blk_free HS.out.at_.res 1
          have f2 := blk_free HS.out.at_.res 2
          obtain ⟨e1, e2, d1, d2, rfl, rfl, hfin⟩ := HS.out.world (.int .u64 W.seed) v1 v2 (by unfold maxLen; omega) (by unfold maxLen; omega) (fun k hk => by have := H3.out k hk; unfold maxLen; omega)
          have hbig := HS.out.at_.big
          have hblk := blk_set 2 (.slice e2 W.cls.length d2) (blk_set 1 (.slice e1 W.chs.length d1) (blk_set 0 (.int .u64 W.seed) HS.out.at_.res))
          have x0 := blk_cell hblk 0 (.int .u64 W.seed) rfl
          have x1 := blk_cell hblk 1 (.slice e1 W.chs.length d1) rfl
          have x2 := blk_cell hblk 2 (.slice e2 W.cls.length d2) rfl
          have X0 := Lib.hid x0
          have X1 := Lib.hid x1
          have X2 := Lib.hid x2
          have HFIN := Lib.hid hfin
          have hbel : Below w.heap.size w (((wq.setCell ⟨w.heap.size + 1, 0, none⟩ (.int .u64 W.seed)).setCell ⟨w.heap.size + 1, 1, none⟩ (.slice e1 W.chs.length d1)).setCell ⟨w.heap.size + 1, 2, none⟩ (.slice e2 W.cls.length d2)) := ((HS.out.at_.bel.setCell (by dsimp only; omega) _).setCell (by dsimp only; omega) _).setCell (by dsimp only; omega) _
          have HBEL := Lib.hid hbel
          clear hbel hfin hblk x0 x1 x2
          go_wp2
          refine bodyPost_ret (v := .agg #[.int .u64 W.seed, .slice e1 W.chs.length d1, .slice e2 W.cls.length d2]) (by simp [results, Tryz.results6, go_sem, X0.out, X1.out, X2.out]) rfl ?_
          exact ⟨_, _, _, _, rfl, HFIN.out, HBEL.out⟩
end Go.Proofs.YtlelamjbfjneiaaGreatDoor.Wd
