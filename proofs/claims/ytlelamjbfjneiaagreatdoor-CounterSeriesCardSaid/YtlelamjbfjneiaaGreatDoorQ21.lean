/- What the events of a clock have done until a second. -/
import Derived.Test.YtlelamjbfjneiaaGreatDoorQ04
namespace Go.Proofs.YtlelamjbfjneiaaGreatDoor.Wd
open Go Go.RowKit
/-- a look-up among the effects -/
theorem fx_look (w : World) (m : Nat) (h : w.heap[m]? = some fxMap) :
    (Instr.lookup 159 (.map (some m)) (.int .i64 1) false).run Tryz.prog w = .ok (.func (.func 128) #[] #[]) w ∧
    (Instr.lookup 159 (.map (some m)) (.int .i64 2) false).run Tryz.prog w = .ok (.func (.func 129) #[] #[]) w ∧
    (Instr.lookup 159 (.map (some m)) (.int .i64 3) false).run Tryz.prog w = .ok (.func (.func 130) #[] #[]) w ∧
    (Instr.lookup 159 (.map (some m)) (.int .i64 4) false).run Tryz.prog w = .ok (.func (.func 131) #[] #[]) w :=
  ⟨run_lookup_found w _ _ _ m _ 4 .i64 1 0 _ Tryz.underlying159 Tryz.underlying86 h rfl, run_lookup_found w _ _ _ m _ 4 .i64 2 1 _ Tryz.underlying159 Tryz.underlying86 h rfl,
   run_lookup_found w _ _ _ m _ 4 .i64 3 2 _ Tryz.underlying159 Tryz.underlying86 h rfl, run_lookup_found w _ _ _ m _ 4 .i64 4 3 _ Tryz.underlying159 Tryz.underlying86 h rfl⟩
/-- the cells of what has been done -/
def PastCells (w : World) (bp : Nat) (p : Past) : Prop :=
  (w.cell? ⟨bp, 0, none⟩ = some (.int .i64 p.jumped) ∧ w.cell? ⟨bp, 1, none⟩ = some (.int .i64 p.kicked) ∧ w.cell? ⟨bp, 2, none⟩ = some (.bool p.stopped)) ∧
  (w.frozen? ⟨bp, 0, none⟩ = false ∧ w.frozen? ⟨bp, 1, none⟩ = false ∧ w.frozen? ⟨bp, 2, none⟩ = false)
theorem PastCells.below {w w' : World} {bp B : Nat} {p : Past} (h : PastCells w bp p) (hb : Below B w w') (hlt : bp < B) : PastCells w' bp p := by
  obtain ⟨⟨p0, p1, p2⟩, f0, f1, f2⟩ := h
  exact ⟨⟨(hb.cell (p := ⟨bp, 0, none⟩) hlt).trans p0, (hb.cell (p := ⟨bp, 1, none⟩) hlt).trans p1, (hb.cell (p := ⟨bp, 2, none⟩) hlt).trans p2⟩,
    (hb.frozen (p := ⟨bp, 0, none⟩) hlt).trans f0, (hb.frozen (p := ⟨bp, 1, none⟩) hlt).trans f1, (hb.frozen (p := ⟨bp, 2, none⟩) hlt).trans f2⟩
theorem PastCells.jump {w : World} {bp : Nat} {p : Past} (h : PastCells w bp p) (n : Int) : PastCells (w.setCell ⟨bp, 0, none⟩ (.int .i64 n)) bp { p with jumped := n } := by
  obtain ⟨⟨p0, p1, p2⟩, f0, f1, f2⟩ := h
  refine ⟨⟨World.cell?_setCell_same _ _ _ p0, ?_, ?_⟩, ?_, ?_, ?_⟩
  · rw [World.cell?_setCell_other]; exact p1; simp
  · rw [World.cell?_setCell_other]; exact p2; simp
  all_goals (rw [World.frozen?_setCell]; assumption)
theorem PastCells.kick {w : World} {bp : Nat} {p : Past} (h : PastCells w bp p) (n : Int) : PastCells (w.setCell ⟨bp, 1, none⟩ (.int .i64 n)) bp { p with kicked := n } := by
  obtain ⟨⟨p0, p1, p2⟩, f0, f1, f2⟩ := h
  refine ⟨⟨?_, World.cell?_setCell_same _ _ _ p1, ?_⟩, ?_, ?_, ?_⟩
  · rw [World.cell?_setCell_other]; exact p0; simp
  · rw [World.cell?_setCell_other]; exact p2; simp
  all_goals (rw [World.frozen?_setCell]; assumption)
theorem PastCells.stop {w : World} {bp : Nat} {p : Past} (h : PastCells w bp p) (n : Bool) : PastCells (w.setCell ⟨bp, 2, none⟩ (.bool n)) bp { p with stopped := n } := by
  obtain ⟨⟨p0, p1, p2⟩, f0, f1, f2⟩ := h
  refine ⟨⟨?_, ?_, World.cell?_setCell_same _ _ _ p2⟩, ?_, ?_, ?_⟩
  · rw [World.cell?_setCell_other]; exact p0; simp
  · rw [World.cell?_setCell_other]; exact p1; simp
  all_goals (rw [World.frozen?_setCell]; assumption)
theorem bear_1 (p : Past) (s se sz : Int) (h : se ≤ s) : p.bear s ⟨1, se, sz⟩ = { p with jumped := p.jumped + sz } := by simp [Past.bear, h]
theorem bear_2 (p : Past) (s se sz : Int) (h : se ≤ s) : p.bear s ⟨2, se, sz⟩ = { p with kicked := p.kicked + sz * (s - se) } := by simp [Past.bear, h]
theorem bear_3 (p : Past) (s se sz : Int) (h : se ≤ s) : p.bear s ⟨3, se, sz⟩ = { p with stopped := true } := by simp [Past.bear, h]
theorem bear_4 (p : Past) (s se sz : Int) (h : se ≤ s) : p.bear s ⟨4, se, sz⟩ = { p with stopped := false } := by simp [Past.bear, h]
set_option maxRecDepth 100000 in
set_option maxHeartbeats 1000000 in
theorem past_any (a m : Nat) (cap : Nat) (es : List Evt) (s : Int) (w : World) (b o : Nat) (hlen : es.length ≤ 8) (hok : ∀ e ∈ es, evOk e = true) (h0 : 0 ≤ s) (h1 : s ≤ 1000000)
    (he : w.cell? ⟨a, 8, none⟩ = some (.slice (some ⟨b, o, none⟩) es.length cap)) (hc : EvtsAt w es b o) (hm : w.cell? ⟨a, 14, none⟩ = some (.map (some m))) (hfx : w.heap[m]? = some fxMap) :
    Calls Tryz.prog 112 #[.pointer (some ⟨a, 0, none⟩), .int .i64 s] w fun e w' => e = .returned (.agg #[.int .i64 (pastS s es).jumped, .int .i64 (pastS s es).kicked, .bool (pastS s es).stopped]) ∧ Below w.heap.size w w' := by
  have hza := cell_lt he
  have HC := Lib.hid hc; clear hc
  have HOK := Lib.hid hok; clear hok
  have HFX := Lib.hid hfx; clear hfx
  go_enter Tryz.func112, Tryz.ntmps112
  go_wp2
  go_loopw [14] (fun i wr => ∃ k : Nat, k ≤ es.length ∧ i = .int .i64 k ∧ Below (w.heap.size + 1) (w.alloc (.cells #[.int .i64 0, .int .i64 0, .bool false] 164)) wr ∧ w.heap.size + 2 ≤ wr.heap.size ∧ PastCells wr (w.heap.size + 1) (pastS s (es.take k))) (fun i _ => es.length - (intOf i).toNat)
  case atStart =>
    refine ⟨0, Nat.zero_le _, rfl, ?_, by simp, ?_⟩
    · exact (Below.refl _ _).alloc (by simp) _
    · simp [PastCells, pastS, pastFrom]
  case round =>
    obtain ⟨k, hk, rfl, hb, hz, hp⟩ := hrel
    have hbw : Below w.heap.size w wr := ((Below.refl _ w).alloc (Nat.le_refl _) _).trans (hb.mono (by omega))
    by_cases hlt : k < es.length
    · have hsn := pastFrom_snoc s ⟨0, 0, false⟩ es k hlt
      have hev := HOK.out es[k] (List.getElem_mem _)
      have hbd := past_bound s es HOK.out h0 h1 k hk
      have hcs := (HC.out k hlt).below hbw
      have hsn' : pastS s (es.take (k + 1)) = (pastS s (es.take k)).bear s es[k] := hsn
      have HSN := Lib.hid hsn'
      clear hsn hsn'
      generalize hge : es[k] = e at *
      generalize hgp : pastS s (es.take k) = p at *
      clear hge hgp
      obtain ⟨wh, se, sz⟩ := e
      obtain ⟨ju, ki, st⟩ := p
      obtain ⟨⟨p0, p1, p2⟩, f0, f1, f2⟩ := hp
      obtain ⟨c0, c1, c2⟩ := hcs
      obtain ⟨⟨b1, b2⟩, b3, b4⟩ := hbd
      dsimp only at b1 b2 b3 b4 p0 p1 p2 c0 c1 c2
      have hzb := cell_lt c0
      have hme : wr.cell? ⟨a, 14, none⟩ = some (.map (some m)) := cell_below hbw hm
      have hza' : a < wr.heap.size := by omega
      obtain ⟨⟨w1, w2⟩, ⟨s1, s2⟩, z1, z2⟩ := evOk_parts hev
      have hzo := sizeOf_bd wh
      dsimp only at w1 w2 s1 s2 z1 z2
      by_cases hle : se ≤ s
      · have hwh : wh = 1 ∨ wh = 2 ∨ wh = 3 ∨ wh = 4 := by omega
        have hk2 : wh = 2 → sz ≤ 10000000000 ∧ -10000000000 ≤ sz := fun h => by rw [sizeOf_kick _ h] at z1 z2; omega
        clear w1 w2
        obtain ⟨l1, l2, l3, l4⟩ := fx_look (wr.alloc (.cells #[.int .i64 wh, .int .i64 se, .int .i64 sz] 90)).drew m ((Below.heap_alloc wr _ m (by have := heap_lt HFX.out; have := hbw.size; omega)).trans ((hbw.block _ (heap_lt HFX.out)).trans HFX.out))
        have hb1 : Below wr.heap.size wr (wr.alloc (.cells #[.int .i64 wh, .int .i64 se, .int .i64 sz] 90)) := (Below.refl _ wr).alloc (Nat.le_refl _) _
        have x14 : (wr.alloc (.cells #[.int .i64 wh, .int .i64 se, .int .i64 sz] 90)).cell? ⟨a, 14, none⟩ = some (.map (some m)) := (hb1.cell (p := ⟨a, 14, none⟩) hza').trans hme
        have y0 : (wr.alloc (.cells #[.int .i64 wh, .int .i64 se, .int .i64 sz] 90)).cell? ⟨wr.heap.size, 0, none⟩ = some (.int .i64 wh) := by simp
        have y1 : (wr.alloc (.cells #[.int .i64 wh, .int .i64 se, .int .i64 sz] 90)).cell? ⟨wr.heap.size, 1, none⟩ = some (.int .i64 se) := by simp
        have y2 : (wr.alloc (.cells #[.int .i64 wh, .int .i64 se, .int .i64 sz] 90)).cell? ⟨wr.heap.size, 2, none⟩ = some (.int .i64 sz) := by simp
        have hp1 := PastCells.below (B := wr.heap.size) (bp := w.heap.size + 1) (p := ⟨ju, ki, st⟩) ⟨⟨p0, p1, p2⟩, f0, f1, f2⟩ hb1 (by omega)
        rcases hwh with rfl | rfl | rfl | rfl
        · clear l2 l3 l4
          have bear := bear_1 ⟨ju, ki, st⟩ s se sz hle
          have BEAR := Lib.hid bear; clear bear
          go_wp2_with fail
          generalize hW : wr.alloc (.cells #[.int .i64 1, .int .i64 se, .int .i64 sz] 90) = W1 at *
          clear hW
          go_still_tail 13, (by kernel_rfl)
          change wpList _ _ _ _ _ W1.drew
          have hW2 := below_drewN (Below.refl wr.heap.size W1) 1
          change Below wr.heap.size W1 W1.drew at hW2
          have hp2 := hp1.below hW2 (by omega)
          generalize W1.drew = W2 at *
          have hp3 := hp2.jump (ju + sz)
          have HP3 := Lib.hid hp3; clear hp3
          obtain ⟨⟨r0, r1, r2⟩, q0, q1, q2⟩ := hp2
          dsimp only at r0 r1 r2
          have hb3 : Below (w.heap.size + 1) (w.alloc (.cells #[.int .i64 0, .int .i64 0, .bool false] 164)) W2 := hb.trans ((hb1.trans hW2).mono (by omega))
          have hz3 : wr.heap.size ≤ W2.heap.size := (hb1.trans hW2).size
          clear hb1 hW2 l1 p0 p1 p2 f0 f1 f2 c0 c1 c2 hme x14 y0 y1 y2
          go_wp2_with (go_at_call 128; refine (step_any _ ju _ _ _ r0 q0 (by omega) (by omega)).mono ?_; rintro e w' ⟨rfl, rfl⟩)
          go_roundw
          case rel =>
            refine ⟨k + 1, by omega, by go_num, hb3.setCell (by simp) _, by simp; omega, ?_⟩
            rw [HSN.out, BEAR.out]
            exact HP3.out
          case measure => simp [intOf]; omega
        · clear l1 l3 l4
          have bear := bear_2 ⟨ju, ki, st⟩ s se sz hle
          have BEAR := Lib.hid bear; clear bear
          have hz2 := hk2 rfl
          have hmm := mul_bd sz (s - se) 10000000000 1000000 (by omega) (by omega)
          go_wp2_with fail
          generalize hW : wr.alloc (.cells #[.int .i64 2, .int .i64 se, .int .i64 sz] 90) = W1 at *
          clear hW
          go_still_tail 13, (by kernel_rfl)
          change wpList _ _ _ _ _ W1.drew
          have hW2 := below_drewN (Below.refl wr.heap.size W1) 1
          change Below wr.heap.size W1 W1.drew at hW2
          have hp2 := hp1.below hW2 (by omega)
          generalize W1.drew = W2 at *
          have hp3 := hp2.kick (ki + sz * (s - se))
          have HP3 := Lib.hid hp3; clear hp3
          obtain ⟨⟨r0, r1, r2⟩, q0, q1, q2⟩ := hp2
          dsimp only at r0 r1 r2
          have hb3 : Below (w.heap.size + 1) (w.alloc (.cells #[.int .i64 0, .int .i64 0, .bool false] 164)) W2 := hb.trans ((hb1.trans hW2).mono (by omega))
          have hz3 : wr.heap.size ≤ W2.heap.size := (hb1.trans hW2).size
          clear hb1 hW2 l2 p0 p1 p2 f0 f1 f2 c0 c1 c2 hme x14 y0 y1 y2
          go_wp2_with (go_at_call 129; refine (kick_any _ ki _ _ _ r1 q1 (by omega) (by omega)).mono ?_; rintro e w' ⟨rfl, rfl⟩)
          go_roundw
          case rel =>
            refine ⟨k + 1, by omega, by go_num, hb3.setCell (by simp) _, by simp; omega, ?_⟩
            rw [HSN.out, BEAR.out]
            exact HP3.out
          case measure => simp [intOf]; omega
        · clear l1 l2 l4
          have bear := bear_3 ⟨ju, ki, st⟩ s se sz hle
          have BEAR := Lib.hid bear; clear bear
          go_wp2_with fail
          generalize hW : wr.alloc (.cells #[.int .i64 3, .int .i64 se, .int .i64 sz] 90) = W1 at *
          clear hW
          go_still_tail 13, (by kernel_rfl)
          change wpList _ _ _ _ _ W1.drew
          have hW2 := below_drewN (Below.refl wr.heap.size W1) 1
          change Below wr.heap.size W1 W1.drew at hW2
          have hp2 := hp1.below hW2 (by omega)
          generalize W1.drew = W2 at *
          have hp3 := hp2.stop true
          have HP3 := Lib.hid hp3; clear hp3
          obtain ⟨⟨r0, r1, r2⟩, q0, q1, q2⟩ := hp2
          dsimp only at r0 r1 r2
          have hb3 : Below (w.heap.size + 1) (w.alloc (.cells #[.int .i64 0, .int .i64 0, .bool false] 164)) W2 := hb.trans ((hb1.trans hW2).mono (by omega))
          have hz3 : wr.heap.size ≤ W2.heap.size := (hb1.trans hW2).size
          clear hb1 hW2 l3 p0 p1 p2 f0 f1 f2 c0 c1 c2 hme x14 y0 y1 y2
          go_wp2_with (go_at_call 130; refine (stop_any _ st _ _ _ r2 q2).mono ?_; rintro e w' ⟨rfl, rfl⟩)
          go_roundw
          case rel =>
            refine ⟨k + 1, by omega, by go_num, hb3.setCell (by simp) _, by simp; omega, ?_⟩
            rw [HSN.out, BEAR.out]
            exact HP3.out
          case measure => simp [intOf]; omega
        · clear l1 l2 l3
          have bear := bear_4 ⟨ju, ki, st⟩ s se sz hle
          have BEAR := Lib.hid bear; clear bear
          go_wp2_with fail
          generalize hW : wr.alloc (.cells #[.int .i64 4, .int .i64 se, .int .i64 sz] 90) = W1 at *
          clear hW
          go_still_tail 13, (by kernel_rfl)
          change wpList _ _ _ _ _ W1.drew
          have hW2 := below_drewN (Below.refl wr.heap.size W1) 1
          change Below wr.heap.size W1 W1.drew at hW2
          have hp2 := hp1.below hW2 (by omega)
          generalize W1.drew = W2 at *
          have hp3 := hp2.stop false
          have HP3 := Lib.hid hp3; clear hp3
          obtain ⟨⟨r0, r1, r2⟩, q0, q1, q2⟩ := hp2
          dsimp only at r0 r1 r2
          have hb3 : Below (w.heap.size + 1) (w.alloc (.cells #[.int .i64 0, .int .i64 0, .bool false] 164)) W2 := hb.trans ((hb1.trans hW2).mono (by omega))
          have hz3 : wr.heap.size ≤ W2.heap.size := (hb1.trans hW2).size
          clear hb1 hW2 l4 p0 p1 p2 f0 f1 f2 c0 c1 c2 hme x14 y0 y1 y2
          go_wp2_with (go_at_call 131; refine (start_any _ st _ _ _ r2 q2).mono ?_; rintro e w' ⟨rfl, rfl⟩)
          go_roundw
          case rel =>
            refine ⟨k + 1, by omega, by go_num, hb3.setCell (by simp) _, by simp; omega, ?_⟩
            rw [HSN.out, BEAR.out]
            exact HP3.out
          case measure => simp [intOf]; omega
      · go_wp2
        go_roundw
        case rel => 
          refine ⟨k + 1, by omega, by go_num, hb.alloc (by omega) _, by simp; omega, ?_⟩
          rw [HSN.out, show Past.bear ⟨ju, ki, st⟩ s ⟨wh, se, sz⟩ = ⟨ju, ki, st⟩ from if_neg hle]
          exact PastCells.below (B := wr.heap.size) ⟨⟨p0, p1, p2⟩, f0, f1, f2⟩ ((Below.refl _ wr).alloc (Nat.le_refl _) _) (by omega)
        case measure => simp [intOf]; omega
    · obtain rfl : k = es.length := by omega
      have e : es.take es.length = es := List.take_length
      rw [e] at hp
      obtain ⟨⟨p0, p1, p2⟩, f0, f1, f2⟩ := hp
      have g0 : wr.cell? ⟨w.heap.size, 0, none⟩ = some (.int .i64 0) := (hb.cell (p := ⟨w.heap.size, 0, none⟩) (by simp)).trans (by simp)
      have g1 : wr.cell? ⟨w.heap.size, 1, none⟩ = some (.int .i64 0) := (hb.cell (p := ⟨w.heap.size, 1, none⟩) (by simp)).trans (by simp)
      have g2 : wr.cell? ⟨w.heap.size, 2, none⟩ = some (.bool false) := (hb.cell (p := ⟨w.heap.size, 2, none⟩) (by simp)).trans (by simp)
      have q0 : wr.frozen? ⟨w.heap.size, 0, none⟩ = false := (hb.frozen (p := ⟨w.heap.size, 0, none⟩) (by simp)).trans (by simp)
      have q1 : wr.frozen? ⟨w.heap.size, 1, none⟩ = false := (hb.frozen (p := ⟨w.heap.size, 1, none⟩) (by simp)).trans (by simp)
      have q2 : wr.frozen? ⟨w.heap.size, 2, none⟩ = false := (hb.frozen (p := ⟨w.heap.size, 2, none⟩) (by simp)).trans (by simp)
      clear e
      have c00 : (wr.setCell ⟨w.heap.size, 0, none⟩ (.int .i64 (pastS s es).jumped)).cell? ⟨w.heap.size, 0, none⟩ = some (.int .i64 (pastS s es).jumped) := World.cell?_setCell_same _ _ _ g0
      have c11 : ((wr.setCell ⟨w.heap.size, 0, none⟩ (.int .i64 (pastS s es).jumped)).setCell ⟨w.heap.size, 1, none⟩ (.int .i64 (pastS s es).kicked)).cell? ⟨w.heap.size, 1, none⟩ = some (.int .i64 (pastS s es).kicked) := World.cell?_setCell_same _ _ _ (u := .int .i64 0) (by rw [World.cell?_setCell_other]; exact g1; simp)
      have c22 : (((wr.setCell ⟨w.heap.size, 0, none⟩ (.int .i64 (pastS s es).jumped)).setCell ⟨w.heap.size, 1, none⟩ (.int .i64 (pastS s es).kicked)).setCell ⟨w.heap.size, 2, none⟩ (.bool (pastS s es).stopped)).cell? ⟨w.heap.size, 2, none⟩ = some (.bool (pastS s es).stopped) := World.cell?_setCell_same _ _ _ (u := .bool false) (by rw [World.cell?_setCell_other, World.cell?_setCell_other]; exact g2; simp; simp)
      go_wp2
      refine bodyPost_ret (v := .agg #[.int .i64 (pastS s es).jumped, .int .i64 (pastS s es).kicked, .bool (pastS s es).stopped]) (by simp [results, Tryz.results112, go_sem, c00, c11, c22]) rfl ?_
      exact ⟨rfl, (hbw.setCell (by simp) _).setCell (by simp) _ |>.setCell (by simp) _⟩
end Go.Proofs.YtlelamjbfjneiaaGreatDoor.Wd
