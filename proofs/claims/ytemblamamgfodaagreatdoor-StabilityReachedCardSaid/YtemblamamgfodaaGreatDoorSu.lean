/- Contracts of layer 3: slices.Concat of two slices. -/
import Derived.Test.YtemblamamgfodaaGreatDoorStZ
namespace Go.Proofs.YtemblamamgfodaaGreatDoor
open Go Go.RowKit Go.Shelf
theorem own_base_le {w : World} {b : Nat} {e : TypeId} {s : Nat} {v : Value} {n : Nat} {xs : List Value} (h : w.ownsRow b e s v n xs) : ∀ k, v.ownBlock = some k → b ≤ k := by
  intro k hk
  rcases h.2 with ⟨rfl, _⟩ | ⟨g, cap, cur, rfl, hg, r⟩
  · simp [Value.ownBlock] at hk
  · have e : g = k := by simpa [Value.ownBlock] using hk
    omega
def TwoAt (W : World) (B : Nat) (a b : List Int) (ba oa ca bb ob cb : Nat) : Prop :=
  W.cell? ⟨B, 0, none⟩ = some (.slice (some ⟨ba, oa, none⟩) a.length ca) ∧ W.cell? ⟨B, 1, none⟩ = some (.slice (some ⟨bb, ob, none⟩) b.length cb) ∧ IntsAt W a ba oa ∧ IntsAt W b bb ob
theorem TwoAt.below {W W' : World} {B : Nat} {a b : List Int} {ba oa ca bb ob cb : Nat} (h : TwoAt W B a b ba oa ca bb ob cb) (hb : Below W.heap.size W W') : TwoAt W' B a b ba oa ca bb ob cb :=
  ⟨cell_below hb h.1, cell_below hb h.2.1, h.2.2.1.below hb, h.2.2.2.below hb⟩
theorem TwoAt.of_below {n₀ : Nat} {W W' : World} {B : Nat} {a b : List Int} {ba oa ca bb ob cb : Nat} (h : TwoAt W B a b ba oa ca bb ob cb) (hb : Below n₀ W W') (hB : B < n₀) (ha : ba < n₀) (hbb : bb < n₀) : TwoAt W' B a b ba oa ca bb ob cb :=
  ⟨(hb.cell (p := ⟨B, 0, none⟩) hB).trans h.1, (hb.cell (p := ⟨B, 1, none⟩) hB).trans h.2.1, fun i hi => (hb.cell (p := ⟨ba, oa + i, none⟩) ha).trans (h.2.2.1 i hi), fun i hi => (hb.cell (p := ⟨bb, ob + i, none⟩) hbb).trans (h.2.2.2 i hi)⟩
theorem ints_cells {W : World} {l : List Int} {b o : Nat} (hi : IntsAt W l b o) : ∀ j u, (l.map (Value.int .i64))[j]? = some u → W.cell? ((⟨b, o, none⟩ : Addr).add j) = some u := fun j u h => by
  rw [List.getElem?_map] at h
  obtain ⟨x, hx, rfl⟩ := Option.map_eq_some_iff.1 h
  obtain ⟨hj, rfl⟩ := List.getElem?_eq_some_iff.1 hx
  rw [show (⟨b, o, none⟩ : Addr).add j = ⟨b, o + j, none⟩ by simp only [Addr.add]; split <;> simp_all]
  exact hi j hj
set_option maxRecDepth 100000 in
set_option maxHeartbeats 2000000 in
theorem concat_any (B ba oa ca bb ob cb : Nat) (a b : List Int) (w : World) (ha : 1 ≤ a.length) (hb : 1 ≤ b.length) (h16 : a.length + b.length ≤ 16) (hT : TwoAt w B a b ba oa ca bb ob cb) :
    Calls Tryz.prog 89 #[.slice (some ⟨B, 0, none⟩) 2 2] w fun e w' => ∃ v, e = .returned v ∧ w'.ownsRow w.heap.size 3 1 v (a.length + b.length) ((a ++ b).map (Value.int .i64)) ∧ Below w.heap.size w w' := by
  refine (callsIn_wide (n := 9)).1 ?_
  have hro : Fence.wide.round = none := rfl
  obtain ⟨i0, hi0, hz0, hz1, hz2⟩ := info_parts infoInt
  have HT := Lib.hid hT
  have hml : a.length + b.length ≤ maxLen := by unfold maxLen; omega
  have HG := Lib.hid (fun W => grow_any (a.length + b.length) W (by omega))
  obtain ⟨c0, c1, -, -⟩ := id hT
  have hba : 0 + a.length ≤ maxLen := by omega
  have hlB := cell_lt c0
  have hlA := cell_lt (hT.2.2.1 0 ha)
  have hlb := cell_lt (hT.2.2.2 0 hb)
  clear hT
  refine callsIn_of_wp Tryz.func89 rfl trivial ?_ hro
  simp only [Tryz.ntmps89, List.size_toArray, List.length_cons, List.length_nil, Nat.reduceAdd, Nat.reduceSub, Array.replicate_succ, Array.replicate_zero, List.push_toArray, List.append_toArray, List.nil_append, List.cons_append]
  gi_wp2
  gi_loopw [3, 11] (fun s i wr => w = wr ∧ ((i = .int .i64 0 ∧ s = .int .i64 0) ∨ (i = .int .i64 1 ∧ s = .int .i64 a.length) ∨ (i = .int .i64 2 ∧ s = .int .i64 (a.length + b.length : Nat)))) (fun _ i _ => (2 - intOf i).toNat)
  case atStart => exact ⟨rfl, .inl ⟨rfl, rfl⟩⟩
  case round =>
    obtain ⟨rfl, ⟨rfl, rfl⟩ | ⟨rfl, rfl⟩ | ⟨rfl, rfl⟩⟩ := hrel
    · gi_wp2
      go_roundw
      case rel => exact ⟨trivial, .inr (.inl ⟨by simp, by simp⟩)⟩
      case measure => simp [intOf]
    · gi_wp2
      go_roundw
      case rel => exact ⟨trivial, .inr (.inr ⟨by simp, by simp⟩)⟩
      case measure => simp [intOf]
    · have HGw := Lib.hid (HG.out w)
      rw [show ((a.length + b.length : Nat) : Int) = (a.length : Int) + b.length by omega] at HGw
      gi_wp2
      refine ⟨trivial, (callsIn_wide.2 HGw.out).mono ?_⟩
      rintro e w1 ⟨v0, rfl, hrow0, hb0⟩
      have HT1 := Lib.hid (HT.out.below hb0)
      have HB1 := Lib.hid hb0
      have HR1 := Lib.hid hrow0
      clear hrow0 hb0 HGw HG c0 c1
      gi_wp2
      gi_loopw [6, 27] (fun v i wr => Hid (TwoAt wr B a b ba oa ca bb ob cb) ∧ Hid (Below w.heap.size w wr) ∧ ((i = .int .i64 0 ∧ Hid (wr.ownsRow w.heap.size 3 1 v 0 [])) ∨ (i = .int .i64 1 ∧ Hid (wr.ownsRow w.heap.size 3 1 v a.length (a.map (Value.int .i64)))) ∨ (i = .int .i64 2 ∧ Hid (wr.ownsRow w.heap.size 3 1 v (a.length + b.length) ((a ++ b).map (Value.int .i64)))))) (fun _ i _ => (2 - intOf i).toNat)
      case atStart => exact ⟨HT1, HB1, .inl ⟨rfl, HR1⟩⟩
      case round =>
        obtain ⟨hTw, hBw, ⟨rfl, hrow⟩ | ⟨rfl, hrow⟩ | ⟨rfl, hrow⟩⟩ := hrel
        · obtain ⟨c0, c1, hints, -⟩ := id hTw.out
          gi_wp2_with (gi_at_builtin; refine wpListIn_append_own _ rfl _ _ 38 rfl w.heap.size 3 i0 (.int .i64 0) 1 8 Tryz.underlying38 hi0 hz0 hz1 hz2 rfl (by decide) _ 0 [] rfl hrow.out ⟨ba, oa, none⟩ a.length ca (a.map (Value.int .i64)) rfl (by simp) (ints_cells hints) (by intro u hu; obtain ⟨x, _, rfl⟩ := List.mem_map.1 hu; rfl) (by first | exact hba | exact hml) (by omega) hBw.out.size ?_; intro v' w3 hown' hgrow _)
          have hbw : Below w.heap.size wr w3 := (Below.refl _ wr).grown hgrow hBw.out.size (own_base_le hrow.out)
          have HT3 := Lib.hid (hTw.out.of_below hbw hlB hlA hlb)
          have HB3 := Lib.hid (hBw.out.trans hbw)
          have HR3 := Lib.hid (show w3.ownsRow w.heap.size 3 1 v' a.length (a.map (Value.int .i64)) by simpa using hown')
          clear hgrow hown' hbw hints
          gi_wp2
          go_roundw
          case rel => exact ⟨HT3, HB3, .inr (.inl ⟨by simp, HR3⟩)⟩
          case measure => simp [intOf]
        · obtain ⟨c0, c1, -, hints⟩ := id hTw.out
          gi_wp2_with (gi_at_builtin; refine wpListIn_append_own _ rfl _ _ 38 rfl w.heap.size 3 i0 (.int .i64 0) 1 8 Tryz.underlying38 hi0 hz0 hz1 hz2 rfl (by decide) _ a.length (a.map (Value.int .i64)) rfl hrow.out ⟨bb, ob, none⟩ b.length cb (b.map (Value.int .i64)) rfl (by simp) (ints_cells hints) (by intro u hu; obtain ⟨x, _, rfl⟩ := List.mem_map.1 hu; rfl) (by first | exact hba | exact hml) (by omega) hBw.out.size ?_; intro v' w3 hown' hgrow _)
          have hbw : Below w.heap.size wr w3 := (Below.refl _ wr).grown hgrow hBw.out.size (own_base_le hrow.out)
          have HT3 := Lib.hid (hTw.out.of_below hbw hlB hlA hlb)
          have HB3 := Lib.hid (hBw.out.trans hbw)
          have HR3 := Lib.hid (show w3.ownsRow w.heap.size 3 1 v' (a.length + b.length) ((a ++ b).map (Value.int .i64)) by simpa using hown')
          clear hgrow hown' hbw hints
          gi_wp2
          go_roundw
          case rel => exact ⟨HT3, HB3, .inr (.inr ⟨by simp, HR3⟩)⟩
          case measure => simp [intOf]
        · gi_wp2
          go_ret
          exact ⟨_, rfl, hrow.out, hBw.out⟩
end Go.Proofs.YtemblamamgfodaaGreatDoor
