/- Contract: Own, which makes a world of the program out of the law's. -/
import Derived.Test.YtlelamjbfjneiaaGreatDoorQ27
import Derived.Test.YtlelamjbfjneiaaGreatDoorQ28
namespace Go.Proofs.YtlelamjbfjneiaaGreatDoor.Wd
open Go Go.RowKit
set_option maxRecDepth 100000 in
set_option maxHeartbeats 4000000 in
theorem own_chams (W : Wld) (b1 o1 : Nat) (p2 : Option Addr) (c1 c2 : Nat) (w : World) (h1 : ChamsAt w W.chs b1 o1) (h2 : W.cls.length ≤ 0) (n1 : W.chs.length ≤ 40) (_n2 : W.cls.length ≤ 40) (n3 : ∀ k, (hk : k < W.cls.length) → W.cls[k].evs.length ≤ 40) :
    Calls Tryz.prog 6 #[.agg #[.int .u64 W.seed, .slice (some ⟨b1, o1, none⟩) W.chs.length c1, .slice p2 W.cls.length c2]] w (OwnedF w W) := by
  obtain ⟨i0, hi0, hz0, hz1, hz2⟩ := info_parts infoCh
  have H1 := Lib.hid h1
  have H3 := Lib.hid n3
  clear h1 n3
  have hst := own1_start w W (some ⟨b1, o1, none⟩) p2 c1 c2
  have HST := Lib.hid hst
  clear hst
  go_enter Tryz.func6, Tryz.ntmps6
  go_wp2
  go_loopw [4] (fun i wr => ∃ (k : Nat) (v1 : Value), k ≤ W.chs.length ∧ i = .int .i64 k ∧ Hid (Own1 w wr W (some ⟨b1, o1, none⟩) p2 c1 c2 k v1)) (fun i _ => W.chs.length - (intOf i).toNat)
  case atStart => exact ⟨0, _, Nat.zero_le _, rfl, HST⟩
  case round =>
    obtain ⟨k, v1, hk, rfl, HS⟩ := hrel
    have par1 : wr.cell? ⟨w.heap.size, 1, none⟩ = some (.slice (some ⟨b1, o1, none⟩) W.chs.length c1) := blk_cell HS.out.at_.par 1 _ rfl
    by_cases hlt : k < W.chs.length
    · obtain ⟨r0, r1, r2⟩ := (H1.out k hlt).below HS.out.at_.bel
      have out1 : wr.cell? ⟨w.heap.size + 1 + 1, 1, none⟩ = some v1 := blk_cell HS.out.at_.out 1 _ rfl
      have hrow := HS.out.row
      have hkl : (k : Int) < (W.chs.length : Int) := by omega
      have hb3 := HS.out.at_.big
      generalize hch : W.chs[k] = ch at *
      have HCH := Lib.hid hch
      clear hch
      have HROW := Lib.hid hrow
      clear hrow
      go_wp2_with (at_builtin; refine wpList_append_lies _ rfl (.tmp 24) (.tmp 30) _ rfl (w.heap.size + 3) 80 i0 _ 3 24 Tryz.underlying35 hi0 hz0 hz1 hz2 rfl (by omega) v1 k _ rfl (HROW.out.alloc _) ⟨wr.heap.size, 0, none⟩ 1 1 (chCells ch) rfl rfl (World.news_of_block (cs := (chCells ch).toArray) (t := 80) (fr := (0, 0)) (heap_alloc_new wr _)) (by simp [Value.oneCell', chCells]) (by omega) (by unfold maxLen; omega) (by omega) (by simp; omega) _ rfl ?_; intro gg cap w1 hown1 hgrow _ _; obtain ⟨⟨st1, st2⟩, -⟩ := HS.out.at_.boxed hgrow (fun g hx => (HROW.out.lt g hx).1); have HOWN := Lib.hid hown1; have HGROW := Lib.hid hgrow; clear hown1 hgrow)
      go_roundw
      case rel => exact ⟨k + 1, _, by omega, by go_num, Lib.hid (HS.out.next hlt (by rw [HCH.out]; exact HOWN.out) HGROW.out)⟩
      case measure => simp [intOf]; omega
    · have hkl : ¬ (k : Int) < (W.chs.length : Int) := by omega
      obtain rfl : k = W.chs.length := by omega
      have HS2 := Lib.hid HS.out.start2
      clear HS hk hlt
      go_wp2
      go_loopw [6] (fun i wq => ∃ (k : Nat) (v2 : Value) (l : List (Clk × Value)), k ≤ W.cls.length ∧ i = .int .i64 k ∧ Hid (Own2 w wq W (some ⟨b1, o1, none⟩) p2 c1 c2 k v1 v2 l)) (fun i _ => W.cls.length - (intOf i).toNat)
      case atStart => exact ⟨0, _, _, Nat.zero_le _, rfl, HS2⟩
      case round =>
        obtain ⟨wq, rfl⟩ : ∃ wq : World, wq = wr := ⟨_, rfl⟩
        obtain ⟨k, v2, l, hk, rfl, HS⟩ := hrel
        have par2 : wq.cell? ⟨w.heap.size, 2, none⟩ = some (.slice p2 W.cls.length c2) := blk_cell HS.out.at_.par 2 _ rfl
        by_cases hlt : k < W.cls.length
        · exfalso; omega
        · have hkl : ¬ (k : Int) < (W.cls.length : Int) := by omega
          obtain rfl : k = W.cls.length := by omega
          have r0 : wq.cell? ⟨w.heap.size + 1 + 1, 0, none⟩ = some (.int .u64 W.seed) := blk_cell HS.out.at_.out 0 _ rfl
          have r1 : wq.cell? ⟨w.heap.size + 1 + 1, 1, none⟩ = some v1 := blk_cell HS.out.at_.out 1 _ rfl
          have r2 : wq.cell? ⟨w.heap.size + 1 + 1, 2, none⟩ = some v2 := blk_cell HS.out.at_.out 2 _ rfl
          have t0 : wq.cell? ⟨w.heap.size + 1, 0, none⟩ = some (.int .u64 0) := blk_cell HS.out.at_.res 0 _ rfl
          have t1 : wq.cell? ⟨w.heap.size + 1, 1, none⟩ = some (.slice none 0 0) := blk_cell HS.out.at_.res 1 _ rfl
          have t2 : wq.cell? ⟨w.heap.size + 1, 2, none⟩ = some (.slice none 0 0) := blk_cell HS.out.at_.res 2 _ rfl
          have f0 := blk_free HS.out.at_.res 0
          have f1 := blk_free HS.out.at_.res 1
          have f2 := blk_free HS.out.at_.res 2
          obtain ⟨e1, e2, d1, d2, rfl, rfl, hfin⟩ := HS.out.world (.int .u64 W.seed) v1 v2 (by unfold maxLen; omega) (by unfold maxLen; omega) (fun k hk => by have := H3.out k hk; unfold maxLen; omega)
          have hbig := HS.out.at_.big
          have hblk := blk_set 2 (.slice e2 W.cls.length d2) (blk_set 1 (.slice e1 W.chs.length d1) (blk_set 0 (.int .u64 W.seed) HS.out.at_.res))
          have x0 := blk_cell hblk 0 (.int .u64 W.seed) rfl
          have x1 := blk_cell hblk 1 (.slice e1 W.chs.length d1) rfl
          have x2 := blk_cell hblk 2 (.slice e2 W.cls.length d2) rfl
          have X0 := Lib.hid x0
          have X1 := Lib.hid x1
          have X2 := Lib.hid x2
          have HFIN := Lib.hid hfin
          have hbel : Below w.heap.size w (((wq.setCell ⟨w.heap.size + 1, 0, none⟩ (.int .u64 W.seed)).setCell ⟨w.heap.size + 1, 1, none⟩ (.slice e1 W.chs.length d1)).setCell ⟨w.heap.size + 1, 2, none⟩ (.slice e2 W.cls.length d2)) := ((HS.out.at_.bel.setCell (by dsimp only; omega) _).setCell (by dsimp only; omega) _).setCell (by dsimp only; omega) _
          have HBEL := Lib.hid hbel
          clear hbel hfin hblk x0 x1 x2
          go_wp2
          refine bodyPost_ret (v := .agg #[.int .u64 W.seed, .slice e1 W.chs.length d1, .slice e2 W.cls.length d2]) (by simp [results, Tryz.results6, go_sem, X0.out, X1.out, X2.out]) rfl ?_
          exact ⟨_, _, _, _, rfl, HFIN.out, HBEL.out⟩
set_option maxRecDepth 100000 in
set_option maxHeartbeats 4000000 in
theorem own_none (W : Wld) (p1 : Option Addr) (p2 : Option Addr) (c1 c2 : Nat) (w : World) (h1 : W.chs.length ≤ 0) (h2 : W.cls.length ≤ 0) (_n1 : W.chs.length ≤ 40) (_n2 : W.cls.length ≤ 40) (n3 : ∀ k, (hk : k < W.cls.length) → W.cls[k].evs.length ≤ 40) :
    Calls Tryz.prog 6 #[.agg #[.int .u64 W.seed, .slice p1 W.chs.length c1, .slice p2 W.cls.length c2]] w (OwnedF w W) := by
  have H3 := Lib.hid n3
  clear n3
  have hst := own1_start w W p1 p2 c1 c2
  have HST := Lib.hid hst
  clear hst
  go_enter Tryz.func6, Tryz.ntmps6
  go_wp2
  go_loopw [4] (fun i wr => ∃ (k : Nat) (v1 : Value), k ≤ W.chs.length ∧ i = .int .i64 k ∧ Hid (Own1 w wr W p1 p2 c1 c2 k v1)) (fun i _ => W.chs.length - (intOf i).toNat)
  case atStart => exact ⟨0, _, Nat.zero_le _, rfl, HST⟩
  case round =>
    obtain ⟨k, v1, hk, rfl, HS⟩ := hrel
    have par1 : wr.cell? ⟨w.heap.size, 1, none⟩ = some (.slice p1 W.chs.length c1) := blk_cell HS.out.at_.par 1 _ rfl
    by_cases hlt : k < W.chs.length
    · exfalso; omega
    · have hkl : ¬ (k : Int) < (W.chs.length : Int) := by omega
      obtain rfl : k = W.chs.length := by omega
      have HS2 := Lib.hid HS.out.start2
      clear HS hk hlt
      go_wp2
      go_loopw [6] (fun i wq => ∃ (k : Nat) (v2 : Value) (l : List (Clk × Value)), k ≤ W.cls.length ∧ i = .int .i64 k ∧ Hid (Own2 w wq W p1 p2 c1 c2 k v1 v2 l)) (fun i _ => W.cls.length - (intOf i).toNat)
      case atStart => exact ⟨0, _, _, Nat.zero_le _, rfl, HS2⟩
      case round =>
        obtain ⟨wq, rfl⟩ : ∃ wq : World, wq = wr := ⟨_, rfl⟩
        obtain ⟨k, v2, l, hk, rfl, HS⟩ := hrel
        have par2 : wq.cell? ⟨w.heap.size, 2, none⟩ = some (.slice p2 W.cls.length c2) := blk_cell HS.out.at_.par 2 _ rfl
        by_cases hlt : k < W.cls.length
        · exfalso; omega
        · have hkl : ¬ (k : Int) < (W.cls.length : Int) := by omega
          obtain rfl : k = W.cls.length := by omega
          have r0 : wq.cell? ⟨w.heap.size + 1 + 1, 0, none⟩ = some (.int .u64 W.seed) := blk_cell HS.out.at_.out 0 _ rfl
          have r1 : wq.cell? ⟨w.heap.size + 1 + 1, 1, none⟩ = some v1 := blk_cell HS.out.at_.out 1 _ rfl
          have r2 : wq.cell? ⟨w.heap.size + 1 + 1, 2, none⟩ = some v2 := blk_cell HS.out.at_.out 2 _ rfl
          have t0 : wq.cell? ⟨w.heap.size + 1, 0, none⟩ = some (.int .u64 0) := blk_cell HS.out.at_.res 0 _ rfl
          have t1 : wq.cell? ⟨w.heap.size + 1, 1, none⟩ = some (.slice none 0 0) := blk_cell HS.out.at_.res 1 _ rfl
          have t2 : wq.cell? ⟨w.heap.size + 1, 2, none⟩ = some (.slice none 0 0) := blk_cell HS.out.at_.res 2 _ rfl
          have f0 := blk_free HS.out.at_.res 0
          have f1 := blk_free HS.out.at_.res 1
          have f2 := blk_free HS.out.at_.res 2
          obtain ⟨e1, e2, d1, d2, rfl, rfl, hfin⟩ := HS.out.world (.int .u64 W.seed) v1 v2 (by unfold maxLen; omega) (by unfold maxLen; omega) (fun k hk => by have := H3.out k hk; unfold maxLen; omega)
          have hbig := HS.out.at_.big
          have hblk := blk_set 2 (.slice e2 W.cls.length d2) (blk_set 1 (.slice e1 W.chs.length d1) (blk_set 0 (.int .u64 W.seed) HS.out.at_.res))
          have x0 := blk_cell hblk 0 (.int .u64 W.seed) rfl
          have x1 := blk_cell hblk 1 (.slice e1 W.chs.length d1) rfl
          have x2 := blk_cell hblk 2 (.slice e2 W.cls.length d2) rfl
          have X0 := Lib.hid x0
          have X1 := Lib.hid x1
          have X2 := Lib.hid x2
          have HFIN := Lib.hid hfin
          have hbel : Below w.heap.size w (((wq.setCell ⟨w.heap.size + 1, 0, none⟩ (.int .u64 W.seed)).setCell ⟨w.heap.size + 1, 1, none⟩ (.slice e1 W.chs.length d1)).setCell ⟨w.heap.size + 1, 2, none⟩ (.slice e2 W.cls.length d2)) := ((HS.out.at_.bel.setCell (by dsimp only; omega) _).setCell (by dsimp only; omega) _).setCell (by dsimp only; omega) _
          have HBEL := Lib.hid hbel
          clear hbel hfin hblk x0 x1 x2
          go_wp2
          refine bodyPost_ret (v := .agg #[.int .u64 W.seed, .slice e1 W.chs.length d1, .slice e2 W.cls.length d2]) (by simp [results, Tryz.results6, go_sem, X0.out, X1.out, X2.out]) rfl ?_
          exact ⟨_, _, _, _, rfl, HFIN.out, HBEL.out⟩
theorem own_fresh (W : Wld) (p1 p2 : Option Addr) (c1 c2 : Nat) (w : World) (hW : WldIn w W p1 p2) (hb : bigS W = false) :
    Calls Tryz.prog 6 #[.agg #[.int .u64 W.seed, .slice p1 W.chs.length c1, .slice p2 W.cls.length c2]] w (OwnedF w W) := by
  obtain ⟨n1, n2, n3⟩ := bigS_no hb
  obtain ⟨-, -, h1, h2⟩ := hW
  rcases h1 with h1 | ⟨b1, o1, rfl, h1⟩
  · rcases h2 with h2 | ⟨b2, o2, rfl, h2⟩
    · exact own_none W p1 p2 c1 c2 w (by omega) (by omega) n1 n2 n3
    · exact own_clks W p1 b2 o2 c1 c2 w (by omega) h2 n1 n2 n3
  · rcases h2 with h2 | ⟨b2, o2, rfl, h2⟩
    · exact own_chams W b1 o1 p2 c1 c2 w h1 (by omega) n1 n2 n3
    · exact own_both W b1 o1 b2 o2 c1 c2 w h1 h2 n1 n2 n3
theorem own_any (W : Wld) (p1 p2 : Option Addr) (c1 c2 : Nat) (w : World) (hW : WldIn w W p1 p2) (hb : bigS W = false) :
    Calls Tryz.prog 6 #[.agg #[.int .u64 W.seed, .slice p1 W.chs.length c1, .slice p2 W.cls.length c2]] w (Owned w W) :=
  (own_fresh W p1 p2 c1 c2 w hW hb).mono fun _ _ ⟨q1, q2, d1, d2, h1, h2, h3⟩ => ⟨q1, q2, d1, d2, h1, h2.in_, h3⟩
end Go.Proofs.YtlelamjbfjneiaaGreatDoor.Wd
