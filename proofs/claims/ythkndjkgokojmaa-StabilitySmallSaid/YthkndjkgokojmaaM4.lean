/- Contracts of layer 3: slices.Concat of two lists, which may be empty. · The law StabilitySmall. -/
import Derived.Test.YthkndjkgokojmaaSu
import Derived.Test.YthkndjkgokojmaaRu
import Derived.Test.YthkndjkgokojmaaM3
import Derived.Test.YthkndjkgokojmaaM5
namespace Go.Proofs.Ythkndjkgokojmaa
open Go Go.RowKit Go.Shelf
theorem grow_zero (w : World) :
    Calls Try.prog 43 #[.slice none 0 0, .int .i64 0] w fun e w' => e = .returned (.slice none 0 0) ∧ w = w' := by
  go_enter Try.func43, Try.ntmps43
  go_wp2
  go_ret
  exact ⟨rfl, rfl⟩
theorem grow_all (n : Nat) (w : World) (hn : n ≤ 1000) :
    Calls Try.prog 43 #[.slice none 0 0, .int .i64 n] w fun e w' => ∃ v, e = .returned v ∧ w'.ownsRow w.heap.size 3 1 v 0 [] ∧ Below w.heap.size w w' := by
  by_cases h : 1 ≤ n
  · exact grow_any n w ⟨h, hn⟩
  · obtain rfl : n = 0 := by omega
    refine (grow_zero w).mono fun e w' ⟨h1, h2⟩ => ?_
    subst h2
    exact ⟨_, h1, World.ownsRow_nil _ _ _ _, Below.refl _ _⟩
set_option maxRecDepth 100000 in
set_option maxHeartbeats 2000000 in
theorem concat_two (B ba oa ca bb ob cb : Nat) (a b : List Int) (w : World) (hlA : ba < w.heap.size) (hlb : bb < w.heap.size) (h16 : a.length + b.length ≤ 1000) (hT : TwoAt w B a b ba oa ca bb ob cb) :
    Calls Try.prog 10 #[.slice (some ⟨B, 0, none⟩) 2 2] w fun e w' => ∃ v, e = .returned v ∧ w'.ownsRow w.heap.size 3 1 v (a.length + b.length) ((a ++ b).map (Value.int .i64)) ∧ Below w.heap.size w w' := by
  refine (callsIn_wide (n := 9)).1 ?_
  have hro : Fence.wide.round = none := rfl
  obtain ⟨i0, hi0, hz0, hz1, hz2⟩ := info_parts infoInt
  have HT := Lib.hid hT
  have hml : a.length + b.length ≤ maxLen := by unfold maxLen; omega
  have HG := Lib.hid (fun W => grow_all (a.length + b.length) W (by omega))
  obtain ⟨c0, c1, -, -⟩ := id hT
  have hba : 0 + a.length ≤ maxLen := by omega
  have hlB := cell_lt c0
  clear hT
  refine callsIn_of_wp Try.func10 rfl trivial ?_ hro
  simp only [Try.ntmps10, List.size_toArray, List.length_cons, List.length_nil, Nat.reduceAdd, Nat.reduceSub, Array.replicate_succ, Array.replicate_zero, List.push_toArray, List.append_toArray, List.nil_append, List.cons_append]
  gi_wp2
  gi_loopw [3, 11] (fun s i wr => w = wr ∧ ((i = .int .i64 0 ∧ s = .int .i64 0) ∨ (i = .int .i64 1 ∧ s = .int .i64 a.length) ∨ (i = .int .i64 2 ∧ s = .int .i64 (a.length + b.length : Nat)))) (fun _ i _ => (2 - intOf i).toNat)
  case atStart => exact ⟨rfl, .inl ⟨rfl, rfl⟩⟩
  case round =>
    obtain ⟨rfl, ⟨rfl, rfl⟩ | ⟨rfl, rfl⟩ | ⟨rfl, rfl⟩⟩ := hrel
    · gi_wp2
      go_roundw
      case rel => exact ⟨trivial, .inr (.inl ⟨by simp, by simp⟩)⟩
      case measure => simp [intOf]
    · gi_wp2
      go_roundw
      case rel => exact ⟨trivial, .inr (.inr ⟨by simp, by simp⟩)⟩
      case measure => simp [intOf]
    · have HGw := Lib.hid (HG.out w)
      rw [show ((a.length + b.length : Nat) : Int) = (a.length : Int) + b.length by omega] at HGw
      gi_wp2
      refine ⟨trivial, (callsIn_wide.2 HGw.out).mono ?_⟩
      rintro e w1 ⟨v0, rfl, hrow0, hb0⟩
      have HT1 := Lib.hid (HT.out.below hb0)
      have HB1 := Lib.hid hb0
      have HR1 := Lib.hid hrow0
      clear hrow0 hb0 HGw HG c0 c1
      gi_wp2
      gi_loopw [6, 27] (fun v i wr => Hid (TwoAt wr B a b ba oa ca bb ob cb) ∧ Hid (Below w.heap.size w wr) ∧ ((i = .int .i64 0 ∧ Hid (wr.ownsRow w.heap.size 3 1 v 0 [])) ∨ (i = .int .i64 1 ∧ Hid (wr.ownsRow w.heap.size 3 1 v a.length (a.map (Value.int .i64)))) ∨ (i = .int .i64 2 ∧ Hid (wr.ownsRow w.heap.size 3 1 v (a.length + b.length) ((a ++ b).map (Value.int .i64)))))) (fun _ i _ => (2 - intOf i).toNat)
      case atStart => exact ⟨HT1, HB1, .inl ⟨rfl, HR1⟩⟩
      case round =>
        obtain ⟨hTw, hBw, ⟨rfl, hrow⟩ | ⟨rfl, hrow⟩ | ⟨rfl, hrow⟩⟩ := hrel
        · obtain ⟨c0, c1, hints, -⟩ := id hTw.out
          gi_wp2_with (gi_at_builtin; refine wpListIn_append_own _ rfl _ _ 22 rfl w.heap.size 3 i0 (.int .i64 0) 1 8 Try.underlying22 hi0 hz0 hz1 hz2 rfl (by decide) _ 0 [] rfl hrow.out ⟨ba, oa, none⟩ a.length ca (a.map (Value.int .i64)) rfl (by simp) (ints_cells hints) (by intro u hu; obtain ⟨x, _, rfl⟩ := List.mem_map.1 hu; rfl) (by first | exact hba | exact hml) (by omega) hBw.out.size ?_; intro v' w3 hown' hgrow _)
          have hbw : Below w.heap.size wr w3 := (Below.refl _ wr).grown hgrow hBw.out.size (own_base_le hrow.out)
          have HT3 := Lib.hid (hTw.out.of_below hbw hlB hlA hlb)
          have HB3 := Lib.hid (hBw.out.trans hbw)
          have HR3 := Lib.hid (show w3.ownsRow w.heap.size 3 1 v' a.length (a.map (Value.int .i64)) by simpa using hown')
          clear hgrow hown' hbw hints
          gi_wp2
          go_roundw
          case rel => exact ⟨HT3, HB3, .inr (.inl ⟨by simp, HR3⟩)⟩
          case measure => simp [intOf]
        · obtain ⟨c0, c1, -, hints⟩ := id hTw.out
          gi_wp2_with (gi_at_builtin; refine wpListIn_append_own _ rfl _ _ 22 rfl w.heap.size 3 i0 (.int .i64 0) 1 8 Try.underlying22 hi0 hz0 hz1 hz2 rfl (by decide) _ a.length (a.map (Value.int .i64)) rfl hrow.out ⟨bb, ob, none⟩ b.length cb (b.map (Value.int .i64)) rfl (by simp) (ints_cells hints) (by intro u hu; obtain ⟨x, _, rfl⟩ := List.mem_map.1 hu; rfl) (by first | exact hba | exact hml) (by omega) hBw.out.size ?_; intro v' w3 hown' hgrow _)
          have hbw : Below w.heap.size wr w3 := (Below.refl _ wr).grown hgrow hBw.out.size (own_base_le hrow.out)
          have HT3 := Lib.hid (hTw.out.of_below hbw hlB hlA hlb)
          have HB3 := Lib.hid (hBw.out.trans hbw)
          have HR3 := Lib.hid (show w3.ownsRow w.heap.size 3 1 v' (a.length + b.length) ((a ++ b).map (Value.int .i64)) by simpa using hown')
          clear hgrow hown' hbw hints
          gi_wp2
          go_roundw
          case rel => exact ⟨HT3, HB3, .inr (.inr ⟨by simp, HR3⟩)⟩
          case measure => simp [intOf]
        · gi_wp2
          go_ret
          exact ⟨_, rfl, hrow.out, hBw.out⟩
end Go.Proofs.Ythkndjkgokojmaa
namespace Go.Proofs.Ythkndjkgokojmaa
open Go Go.RowKit Go.Shelf
theorem vlaw_keep (z : World) (tau : Int) (l : List Int) (p : Option Addr) (cap : Nat) (m : Int) (w : World) (hz : Below z.heap.size z w) (hs : SerIn w l p) (h : l.length ≤ 200) :
    Calls Try.prog 8 #[.agg #[.int .i64 tau, .slice p l.length cap], .int .i64 m] w fun e w' => e = .returned (.bool true) ∧ Below w.heap.size w w' ∧ Below z.heap.size z w' :=
  (variances_law tau l p cap m w hs h).mono fun _ _ ⟨h1, h2⟩ => ⟨h1, h2, hz.trans (h2.mono hz.size)⟩
theorem flaw_keep (z : World) (tau : Int) (l : List Int) (p : Option Addr) (cap : Nat) (m : Int) (w : World) (hz : Below z.heap.size z w) (hs : SerIn w l p) (h : l.length ≤ 200) :
    Calls Try.prog 9 #[.agg #[.int .i64 tau, .slice p l.length cap], .int .i64 m] w fun e w' => e = .returned (.bool true) ∧ Below w.heap.size w w' ∧ Below z.heap.size z w' :=
  (fits_law tau l p cap m w hs h).mono fun _ _ ⟨h1, h2⟩ => ⟨h1, h2, hz.trans (h2.mono hz.size)⟩
theorem three_bd {j : Nat} (h : j ≤ 7) : 3 ^ j ≤ 2187 := Nat.le_trans (Nat.pow_le_pow_right (by decide) h) (by decide)
/-- two lists that grow side by side -/
structure PairAt (w X : World) (u v : Value) (L1 L2 : List Int) : Prop where
  o1 : OwnI w.heap.size X u L1
  o2 : OwnI w.heap.size X v L2
  d : Apart u v
  bel : Below w.heap.size w X
section
variable {w X Y : World} {u v u' v' : Value} {L1 L2 : List Int} {x : Int} {o : Obj}
theorem PairAt.start (w : World) : PairAt w w (.slice none 0 0) (.slice none 0 0) [] [] := ⟨World.ownsRow_nil _ _ _ _, World.ownsRow_nil _ _ _ _, .inl rfl, Below.refl _ _⟩
theorem PairAt.first (h : PairAt w X u v L1 L2) (hown : Y.ownsRow w.heap.size 3 1 u' (L1.length + 1) (ints L1 ++ [.int .i64 x])) (hg : (X.alloc o).grownBy Y u.ownBlock) (hb : u'.ownBlock = u.ownBlock ∨ u'.ownBlock = some (X.alloc o).heap.size) : PairAt w Y u' v (L1 ++ [x]) L2 := by
  obtain ⟨p2, q2⟩ := h.o2.other h.d.symm hg hb
  exact ⟨OwnI.snoc hown, p2, q2.symm, own_grown_below h.o1 h.bel h.bel.size hg⟩
theorem PairAt.second (h : PairAt w X u v L1 L2) (hown : Y.ownsRow w.heap.size 3 1 v' (L2.length + 1) (ints L2 ++ [.int .i64 x])) (hg : (X.alloc o).grownBy Y v.ownBlock) (hb : v'.ownBlock = v.ownBlock ∨ v'.ownBlock = some (X.alloc o).heap.size) : PairAt w Y u v' L1 (L2 ++ [x]) := by
  obtain ⟨p1, q1⟩ := h.o1.other h.d hg hb
  exact ⟨p1, OwnI.snoc hown, q1, own_grown_below h.o2 h.bel h.bel.size hg⟩
end
def lits17 : List Int := [0, 1, 2, 3, 4, 47, 48, 49, 64, 65, 66, 95, 96, 97, 127, 128, 129]
def lits10 : List Int := [-1, 0, 1, 2, 3, 16, 21, 31, 32, 33]
theorem lits17_bd (k : Nat) (h : k < 17) : ∃ N : Nat, atL lits17 k = (N : Int) ∧ N ≤ 129 := by
  have : (List.range 17).all (fun k => decide (0 ≤ atL lits17 k) && decide (atL lits17 k ≤ 129)) = true := by decide
  have := List.all_eq_true.1 this k (by simp; omega)
  simp only [Bool.and_eq_true, decide_eq_true_eq] at this
  exact ⟨(atL lits17 k).toNat, by omega, by omega⟩
theorem lits_new (X : World) (l : List Int) (t : TypeId) : IntsAt (X.alloc (.cells (l.map (Value.int .i64)).toArray t)) l X.heap.size 0 := fun i hi => by rw [Nat.zero_add]; exact (IntBox.new X l t i hi).1
/-- lists that lie in a row of their own -/
def Rows3 (X : World) (g : Nat) : Prop := ∀ j, j < 3 → ∃ (l : List Int) (p : Option Addr) (cap : Nat), X.cell? ⟨g, j, none⟩ = some (.slice p l.length cap) ∧ SerIn X l p ∧ l.length ≤ 200
theorem Rows3.below {X Y : World} {g : Nat} (h : Rows3 X g) (hb : Below X.heap.size X Y) : Rows3 Y g := fun j hj => by
  obtain ⟨l, p, cap, h1, h2, h3⟩ := h j hj
  exact ⟨l, p, cap, cell_below hb h1, h2.below hb, h3⟩
theorem rep_ints {w X : World} {g n : Nat} {x : Int} (h : Ct.RepAt w X g x n n) : IntsAt X (List.replicate n x) g 0 := fun i hi => by
  rw [Nat.zero_add]
  have := h.cell i (by simpa using hi)
  simpa using this
theorem rep_full {w X : World} {g n : Nat} (h : Ct.RepAt w X g 0 0 n) : Ct.RepAt w X g 0 n n := ⟨by rw [Ct.repL_all, ← Ct.repL_none 0]; exact h.row, h.bel, h.ge⟩
theorem rep_lt {w X : World} {g n : Nat} {x : Int} (h : Ct.RepAt w X g x n n) : g < X.heap.size := (Array.getElem?_eq_some_iff.1 h.row).1
theorem repeat_keep (x : Int) (b o cx n : Nat) (w : World) (hn : n ≤ 10000) (hx : w.cell? ⟨b, o, none⟩ = some (.int .i64 x)) :
    Calls Try.prog 11 #[.slice (some ⟨b, o, none⟩) 1 cx, .int .i64 n] w (Ct.RepRet x n w) := Ct.repeat_any x b o cx n w hn hx
theorem claw_keep (z : World) (n k : Int) (l a b : List Int) (pl pa pb : Option Addr) (cl ca cb : Nat) (N D : Int) (w : World) (hz : Below z.heap.size z w) (hl : SliceIn pl l.length (IntsAt w l)) (ha : SliceIn pa a.length (IntsAt w a)) (hb : SliceIn pb b.length (IntsAt w b))
    (hN : I64 N) (hD : I64 D) (h1 : l.length ≤ 1000) (h2 : a.length + b.length ≤ 1000) :
    Calls Try.prog 6 #[.int .i64 n, .int .i64 k, .slice pl l.length cl, .agg #[.int .i64 N, .int .i64 D], .slice pa a.length ca, .slice pb b.length cb] w fun e w' => e = .returned (.bool true) ∧ Below w.heap.size w w' ∧ Below z.heap.size z w' :=
  (covers_law n k l a b pl pa pb cl ca cb N D w hl ha hb hN hD h1 h2).mono fun _ _ ⟨h1, h2⟩ => ⟨h1, h2, hz.trans (h2.mono hz.size)⟩
def lits3W (X : World) (l a b : List Int) : World := ((X.alloc (.cells (l.map (Value.int .i64)).toArray 3)).alloc (.cells (a.map (Value.int .i64)).toArray 3)).alloc (.cells (b.map (Value.int .i64)).toArray 3)
theorem claw_lits (z X : World) (n k : Int) (l a b : List Int) (cl ca cb : Nat) (N D : Int) (hz : Below z.heap.size z X) (hN : I64 N) (hD : I64 D) (h1 : l.length ≤ 1000) (h2 : a.length + b.length ≤ 1000) :
    Calls Try.prog 6 #[.int .i64 n, .int .i64 k, .slice (some ⟨X.heap.size, 0, none⟩) l.length cl, .agg #[.int .i64 N, .int .i64 D], .slice (some ⟨X.heap.size + 1, 0, none⟩) a.length ca, .slice (some ⟨X.heap.size + 1 + 1, 0, none⟩) b.length cb] (lits3W X l a b) fun e w' => e = .returned (.bool true) ∧ Below z.heap.size z w' := by
  have e1 : (X.alloc (.cells (l.map (Value.int .i64)).toArray 3)).heap.size = X.heap.size + 1 := by simp
  have e2 : ((X.alloc (.cells (l.map (Value.int .i64)).toArray 3)).alloc (.cells (a.map (Value.int .i64)).toArray 3)).heap.size = X.heap.size + 1 + 1 := by simp
  have i1 := lits_new X l 3
  have i2 := lits_new (X.alloc (.cells (l.map (Value.int .i64)).toArray 3)) a 3
  have i3 := lits_new ((X.alloc (.cells (l.map (Value.int .i64)).toArray 3)).alloc (.cells (a.map (Value.int .i64)).toArray 3)) b 3
  have b1 := below_alloc (Below.refl X.heap.size X) (.cells (l.map (Value.int .i64)).toArray 3)
  have b2 := below_alloc (Below.refl (X.alloc (.cells (l.map (Value.int .i64)).toArray 3)).heap.size (X.alloc (.cells (l.map (Value.int .i64)).toArray 3))) (.cells (a.map (Value.int .i64)).toArray 3)
  have b3 := below_alloc (Below.refl ((X.alloc (.cells (l.map (Value.int .i64)).toArray 3)).alloc (.cells (a.map (Value.int .i64)).toArray 3)).heap.size ((X.alloc (.cells (l.map (Value.int .i64)).toArray 3)).alloc (.cells (a.map (Value.int .i64)).toArray 3))) (.cells (b.map (Value.int .i64)).toArray 3)
  rw [e1] at i2; rw [e2] at i3
  refine (covers_law n k l a b _ _ _ cl ca cb N D _ (.inr ⟨_, 0, rfl, (i1.below b2).below b3⟩) (.inr ⟨_, 0, rfl, i2.below b3⟩) (.inr ⟨_, 0, rfl, i3⟩) hN hD h1 h2).mono fun _ _ ⟨h1, h2⟩ => ⟨h1, (hz.trans ((b1.trans ((b2.trans (b3.mono b2.size)).mono b1.size)).mono hz.size)).trans (h2.mono (Nat.le_trans hz.size (Nat.le_trans b1.size (Nat.le_trans b2.size b3.size))))⟩
theorem claw_zero (z w : World) (g n : Nat) (j : Int) (hr : Ct.RepAt z w g 0 n n) (hn : n ≤ 1000) (hj : I64 j) :
    Calls Try.prog 6 #[.int .i64 n, .int .i64 j, .slice (some ⟨g, 0, none⟩) n n, .agg #[.int .i64 j, .int .i64 22], .slice none 0 0, .slice none 0 0] w fun e w' => e = .returned (.bool true) ∧ Below z.heap.size z w' := by
  have h := claw_keep z n j (List.replicate n 0) [] [] (some ⟨g, 0, none⟩) none none n 0 0 j 22 w hr.bel (.inr ⟨_, 0, rfl, rep_ints hr⟩) (.inl rfl) (.inl rfl) hj (by unfold I64; omega) (by simp; omega) (by simp)
  rw [List.length_replicate] at h
  exact h.mono fun _ _ ⟨h1, _, h3⟩ => ⟨h1, h3⟩
theorem claw_five (z X : World) (a0 a1 a2 a3 a4 N D : Int) (p : Option Addr) (q r cb nq : Nat) (hq : q + r = 5) (hp : r = 0 ∨ p = some ⟨X.heap.size, q, none⟩) (hz : Below z.heap.size z X) (hN : I64 N) (hD : I64 D) :
    Calls Try.prog 6 #[.int .i64 5, .int .i64 2, .slice (some ⟨X.heap.size, 0, none⟩) 5 5, .agg #[.int .i64 N, .int .i64 D], .slice (some ⟨X.heap.size, 0, none⟩) q 5, .slice p r cb] ((X.alloc (.cells #[.int .i64 a0, .int .i64 a1, .int .i64 a2, .int .i64 a3, .int .i64 a4] 3)).drewN nq) fun e w' => e = .returned (.bool true) ∧ Below z.heap.size z w' := by
  have hL : IntsAt (X.alloc (.cells #[.int .i64 a0, .int .i64 a1, .int .i64 a2, .int .i64 a3, .int .i64 a4] 3)) [a0, a1, a2, a3, a4] X.heap.size 0 := lits_new X [a0, a1, a2, a3, a4] 3
  have b1 := below_alloc (Below.refl X.heap.size X) (.cells #[.int .i64 a0, .int .i64 a1, .int .i64 a2, .int .i64 a3, .int .i64 a4] 3)
  have b2 := below_drewN (Below.refl _ (X.alloc (.cells #[.int .i64 a0, .int .i64 a1, .int .i64 a2, .int .i64 a3, .int .i64 a4] 3))) nq
  have hL2 := hL.below b2
  have hT : IntsAt ((X.alloc (.cells #[.int .i64 a0, .int .i64 a1, .int .i64 a2, .int .i64 a3, .int .i64 a4] 3)).drewN nq) ([a0, a1, a2, a3, a4].take q) X.heap.size 0 := fun i hi => by
    have hi' : i < 5 := by simp at hi; omega
    have h := hL2 i (by simpa using hi')
    rwa [List.getElem_take]
  have hD2 : IntsAt ((X.alloc (.cells #[.int .i64 a0, .int .i64 a1, .int .i64 a2, .int .i64 a3, .int .i64 a4] 3)).drewN nq) ([a0, a1, a2, a3, a4].drop q) X.heap.size q := fun i hi => by
    have hi' : q + i < 5 := by simp at hi; omega
    have h := hL2 (q + i) (by simpa using hi')
    rw [Nat.zero_add] at h
    rwa [List.getElem_drop]
  have h := claw_keep z 5 2 [a0, a1, a2, a3, a4] ([a0, a1, a2, a3, a4].take q) ([a0, a1, a2, a3, a4].drop q) (some ⟨X.heap.size, 0, none⟩) (some ⟨X.heap.size, 0, none⟩) p 5 5 cb N D _ (hz.trans ((b1.trans (b2.mono b1.size)).mono hz.size)) (.inr ⟨_, 0, rfl, hL2⟩) (.inr ⟨_, 0, rfl, hT⟩) (by
    rcases hp with h | rfl
    · exact .inl (by simp; omega)
    · exact .inr ⟨_, q, rfl, hD2⟩) hN hD (by simp) (by simp; omega)
  rw [List.length_take, List.length_drop, show min q [a0, a1, a2, a3, a4].length = q by simp; omega, show [a0, a1, a2, a3, a4].length - q = r by simp; omega] at h
  exact h.mono fun _ _ ⟨h1, _, h3⟩ => ⟨h1, h3⟩
theorem claw_98 (z X : World) (hz : Below z.heap.size z X) :
    Calls Try.prog 6 #[.int .i64 1, .int .i64 1, .slice none 0 0, .agg #[.int .i64 0, .int .i64 1], .slice (some ⟨X.heap.size, 0, none⟩) 9 9, .slice (some ⟨X.heap.size + 1, 0, none⟩) 8 8] (((X.alloc (.cells #[.int .i64 0, .int .i64 0, .int .i64 0, .int .i64 0, .int .i64 0, .int .i64 0, .int .i64 0, .int .i64 0, .int .i64 0] 3)).alloc (.cells #[.int .i64 0, .int .i64 0, .int .i64 0, .int .i64 0, .int .i64 0, .int .i64 0, .int .i64 0, .int .i64 0] 3)).drew) fun e w' => e = .returned (.bool true) ∧ Below z.heap.size z w' := by
  have b1 := below_alloc (Below.refl X.heap.size X) (.cells #[.int .i64 0, .int .i64 0, .int .i64 0, .int .i64 0, .int .i64 0, .int .i64 0, .int .i64 0, .int .i64 0, .int .i64 0] 3)
  have b2 := below_alloc (Below.refl (X.alloc (.cells #[.int .i64 0, .int .i64 0, .int .i64 0, .int .i64 0, .int .i64 0, .int .i64 0, .int .i64 0, .int .i64 0, .int .i64 0] 3)).heap.size (X.alloc (.cells #[.int .i64 0, .int .i64 0, .int .i64 0, .int .i64 0, .int .i64 0, .int .i64 0, .int .i64 0, .int .i64 0, .int .i64 0] 3))) (.cells #[.int .i64 0, .int .i64 0, .int .i64 0, .int .i64 0, .int .i64 0, .int .i64 0, .int .i64 0, .int .i64 0] 3)
  have b3 := Below.drew (Below.refl ((X.alloc (.cells #[.int .i64 0, .int .i64 0, .int .i64 0, .int .i64 0, .int .i64 0, .int .i64 0, .int .i64 0, .int .i64 0, .int .i64 0] 3)).alloc (.cells #[.int .i64 0, .int .i64 0, .int .i64 0, .int .i64 0, .int .i64 0, .int .i64 0, .int .i64 0, .int .i64 0] 3)).heap.size ((X.alloc (.cells #[.int .i64 0, .int .i64 0, .int .i64 0, .int .i64 0, .int .i64 0, .int .i64 0, .int .i64 0, .int .i64 0, .int .i64 0] 3)).alloc (.cells #[.int .i64 0, .int .i64 0, .int .i64 0, .int .i64 0, .int .i64 0, .int .i64 0, .int .i64 0, .int .i64 0] 3)))
  have i1 : IntsAt (X.alloc (.cells #[.int .i64 0, .int .i64 0, .int .i64 0, .int .i64 0, .int .i64 0, .int .i64 0, .int .i64 0, .int .i64 0, .int .i64 0] 3)) (List.replicate 9 0) X.heap.size 0 := lits_new X (List.replicate 9 0) 3
  have i2 : IntsAt ((X.alloc (.cells #[.int .i64 0, .int .i64 0, .int .i64 0, .int .i64 0, .int .i64 0, .int .i64 0, .int .i64 0, .int .i64 0, .int .i64 0] 3)).alloc (.cells #[.int .i64 0, .int .i64 0, .int .i64 0, .int .i64 0, .int .i64 0, .int .i64 0, .int .i64 0, .int .i64 0] 3)) (List.replicate 8 0) (X.alloc (.cells #[.int .i64 0, .int .i64 0, .int .i64 0, .int .i64 0, .int .i64 0, .int .i64 0, .int .i64 0, .int .i64 0, .int .i64 0] 3)).heap.size 0 := lits_new (X.alloc (.cells #[.int .i64 0, .int .i64 0, .int .i64 0, .int .i64 0, .int .i64 0, .int .i64 0, .int .i64 0, .int .i64 0, .int .i64 0] 3)) (List.replicate 8 0) 3
  rw [show (X.alloc (.cells #[.int .i64 0, .int .i64 0, .int .i64 0, .int .i64 0, .int .i64 0, .int .i64 0, .int .i64 0, .int .i64 0, .int .i64 0] 3)).heap.size = X.heap.size + 1 by simp] at i2
  have j1 := (i1.below b2).below b3
  have j2 := i2.below b3
  exact (claw_keep z 1 1 [] (List.replicate 9 0) (List.replicate 8 0) none (some ⟨X.heap.size, 0, none⟩) (some ⟨X.heap.size + 1, 0, none⟩) 0 9 8 0 1 _ (hz.trans ((b1.trans ((b2.trans (b3.mono b2.size)).mono b1.size)).mono hz.size)) (.inl rfl) (.inr ⟨_, 0, rfl, j1⟩) (.inr ⟨_, 0, rfl, j2⟩) (by unfold I64; omega) (by unfold I64; omega) (by simp) (by simp)).mono fun _ _ ⟨h1, _, h3⟩ => ⟨h1, h3⟩
theorem claw_89 (z X : World) (hz : Below z.heap.size z X) :
    Calls Try.prog 6 #[.int .i64 1, .int .i64 1, .slice none 0 0, .agg #[.int .i64 0, .int .i64 1], .slice (some ⟨X.heap.size + 1, 0, none⟩) 9 9, .slice (some ⟨X.heap.size, 0, none⟩) 8 8] (((X.alloc (.cells #[.int .i64 0, .int .i64 0, .int .i64 0, .int .i64 0, .int .i64 0, .int .i64 0, .int .i64 0, .int .i64 0] 3)).alloc (.cells #[.int .i64 0, .int .i64 0, .int .i64 0, .int .i64 0, .int .i64 0, .int .i64 0, .int .i64 0, .int .i64 0, .int .i64 0] 3)).drew) fun e w' => e = .returned (.bool true) ∧ Below z.heap.size z w' := by
  have b1 := below_alloc (Below.refl X.heap.size X) (.cells #[.int .i64 0, .int .i64 0, .int .i64 0, .int .i64 0, .int .i64 0, .int .i64 0, .int .i64 0, .int .i64 0] 3)
  have b2 := below_alloc (Below.refl (X.alloc (.cells #[.int .i64 0, .int .i64 0, .int .i64 0, .int .i64 0, .int .i64 0, .int .i64 0, .int .i64 0, .int .i64 0] 3)).heap.size (X.alloc (.cells #[.int .i64 0, .int .i64 0, .int .i64 0, .int .i64 0, .int .i64 0, .int .i64 0, .int .i64 0, .int .i64 0] 3))) (.cells #[.int .i64 0, .int .i64 0, .int .i64 0, .int .i64 0, .int .i64 0, .int .i64 0, .int .i64 0, .int .i64 0, .int .i64 0] 3)
  have b3 := Below.drew (Below.refl ((X.alloc (.cells #[.int .i64 0, .int .i64 0, .int .i64 0, .int .i64 0, .int .i64 0, .int .i64 0, .int .i64 0, .int .i64 0] 3)).alloc (.cells #[.int .i64 0, .int .i64 0, .int .i64 0, .int .i64 0, .int .i64 0, .int .i64 0, .int .i64 0, .int .i64 0, .int .i64 0] 3)).heap.size ((X.alloc (.cells #[.int .i64 0, .int .i64 0, .int .i64 0, .int .i64 0, .int .i64 0, .int .i64 0, .int .i64 0, .int .i64 0] 3)).alloc (.cells #[.int .i64 0, .int .i64 0, .int .i64 0, .int .i64 0, .int .i64 0, .int .i64 0, .int .i64 0, .int .i64 0, .int .i64 0] 3)))
  have i1 : IntsAt (X.alloc (.cells #[.int .i64 0, .int .i64 0, .int .i64 0, .int .i64 0, .int .i64 0, .int .i64 0, .int .i64 0, .int .i64 0] 3)) (List.replicate 8 0) X.heap.size 0 := lits_new X (List.replicate 8 0) 3
  have i2 : IntsAt ((X.alloc (.cells #[.int .i64 0, .int .i64 0, .int .i64 0, .int .i64 0, .int .i64 0, .int .i64 0, .int .i64 0, .int .i64 0] 3)).alloc (.cells #[.int .i64 0, .int .i64 0, .int .i64 0, .int .i64 0, .int .i64 0, .int .i64 0, .int .i64 0, .int .i64 0, .int .i64 0] 3)) (List.replicate 9 0) (X.alloc (.cells #[.int .i64 0, .int .i64 0, .int .i64 0, .int .i64 0, .int .i64 0, .int .i64 0, .int .i64 0, .int .i64 0] 3)).heap.size 0 := lits_new (X.alloc (.cells #[.int .i64 0, .int .i64 0, .int .i64 0, .int .i64 0, .int .i64 0, .int .i64 0, .int .i64 0, .int .i64 0] 3)) (List.replicate 9 0) 3
  rw [show (X.alloc (.cells #[.int .i64 0, .int .i64 0, .int .i64 0, .int .i64 0, .int .i64 0, .int .i64 0, .int .i64 0, .int .i64 0] 3)).heap.size = X.heap.size + 1 by simp] at i2
  have j1 := (i1.below b2).below b3
  have j2 := i2.below b3
  exact (claw_keep z 1 1 [] (List.replicate 9 0) (List.replicate 8 0) none (some ⟨X.heap.size + 1, 0, none⟩) (some ⟨X.heap.size, 0, none⟩) 0 9 8 0 1 _ (hz.trans ((b1.trans ((b2.trans (b3.mono b2.size)).mono b1.size)).mono hz.size)) (.inl rfl) (.inr ⟨_, 0, rfl, j2⟩) (.inr ⟨_, 0, rfl, j1⟩) (by unfold I64; omega) (by unfold I64; omega) (by simp) (by simp)).mono fun _ _ ⟨h1, _, h3⟩ => ⟨h1, h3⟩
theorem claw_order (z X Y : World) (g1 g2 : Nat) (h : (g1 = X.heap.size ∧ g2 = X.heap.size + 1 ∧ Y = ((X.alloc (.cells #[.int .i64 0, .int .i64 0, .int .i64 0, .int .i64 0, .int .i64 0, .int .i64 0, .int .i64 0, .int .i64 0, .int .i64 0] 3)).alloc (.cells #[.int .i64 0, .int .i64 0, .int .i64 0, .int .i64 0, .int .i64 0, .int .i64 0, .int .i64 0, .int .i64 0] 3)).drew) ∨ (g1 = X.heap.size + 1 ∧ g2 = X.heap.size ∧ Y = ((X.alloc (.cells #[.int .i64 0, .int .i64 0, .int .i64 0, .int .i64 0, .int .i64 0, .int .i64 0, .int .i64 0, .int .i64 0] 3)).alloc (.cells #[.int .i64 0, .int .i64 0, .int .i64 0, .int .i64 0, .int .i64 0, .int .i64 0, .int .i64 0, .int .i64 0, .int .i64 0] 3)).drew)) (hz : Below z.heap.size z X) :
    Calls Try.prog 6 #[.int .i64 1, .int .i64 1, .slice none 0 0, .agg #[.int .i64 0, .int .i64 1], .slice (some ⟨g1, 0, none⟩) 9 9, .slice (some ⟨g2, 0, none⟩) 8 8] Y fun e w' => e = .returned (.bool true) ∧ Below z.heap.size z w' := by
  rcases h with ⟨rfl, rfl, rfl⟩ | ⟨rfl, rfl, rfl⟩
  · exact claw_98 z X hz
  · exact claw_89 z X hz
theorem awake_keep (z w : World) (hz : Below z.heap.size z w) : Calls Try.prog 7 #[] w fun e w' => e = .returned (.bool true) ∧ Below z.heap.size z w' :=
  (awake_any w).mono fun _ _ ⟨h1, h2⟩ => ⟨h1, hz.trans (h2.mono hz.size)⟩
def lits12 : List Int := [-1, 0, 1, 999, 1000, 1001, 1000000, 1000001, -1000000, -1000001, -9223372036854775808, 9223372036854775807]
theorem lits12_bd (k : Nat) (h : k < 12) : I64 (atL lits12 k) := by
  have : (List.range 12).all (fun k => decide (-9223372036854775808 ≤ atL lits12 k) && decide (atL lits12 k ≤ 9223372036854775807)) = true := by decide
  have := List.all_eq_true.1 this k (by simp; omega)
  simpa [I64] using this
set_option maxRecDepth 100000 in
set_option maxHeartbeats 16000000 in
theorem small_any (w : World) :
    Calls Try.prog 4 #[] w fun e w' => e = .returned (.bool true) ∧ Below w.heap.size w w' := by
  obtain ⟨i0, hi0, hz0, hz1, hz2⟩ := info_parts infoInt
  go_enter Try.func4, Try.ntmps4
  go_wp2
  go_loopw [25] (fun i wr => ∃ k : Nat, k ≤ 7 ∧ i = .int .i64 (k : Int) ∧ Hid (Below w.heap.size w wr)) (fun i _ => 7 - (intOf i).toNat)
  case atStart => exact ⟨0, Nat.zero_le _, rfl, Lib.hid (Below.refl _ _)⟩
  case round =>
    obtain ⟨k, hk, rfl, HB⟩ := hrel
    by_cases hlt : k < 7
    · have hki : (k : Int) < 7 := by omega
      have u1 : IntKind.i64.wrap ((k : Int) + 1) = (k : Int) + 1 := IntWalk.i64_in _ (by omega)
      generalize wr = W1 at *
      go_wp2
      go_loopw [2, 29] (fun s i wx => ∃ j : Nat, j ≤ k ∧ i = .int .i64 (j : Int) ∧ s = .int .i64 ((3 ^ j : Nat) : Int) ∧ W1 = wx) (fun _ i _ => k - (intOf i).toNat)
      case atStart => exact ⟨0, Nat.zero_le _, rfl, rfl, rfl⟩
      case round =>
        obtain ⟨j, hj, rfl, rfl, rfl⟩ := hrel
        by_cases hjl : j < k
        · have hji : (j : Int) < (k : Int) := by omega
          have u3 : IntKind.i64.wrap ((j : Int) + 1) = (j : Int) + 1 := IntWalk.i64_in _ (by omega)
          obtain ⟨C, hC⟩ : ∃ C, C = 3 ^ j := ⟨_, rfl⟩
          obtain ⟨C1, hC1⟩ : ∃ C1, C1 = 3 ^ (j + 1) := ⟨_, rfl⟩
          have h3 : C1 ≤ 2187 := by rw [hC1]; exact three_bd (by omega)
          have h3' : C1 = C * 3 := by rw [hC1, hC, Nat.pow_succ]
          have u2 : IntKind.i64.wrap ((C : Int) * 3) = (C1 : Int) := by rw [IntWalk.i64_in _ (by omega)]; omega
          rw [← hC]
          have HC1 := Lib.hid hC1
          clear h3 h3' hC hC1
          go_wp2
          go_roundw
          case rel => exact ⟨j + 1, by omega, by simp, by rw [HC1.out], trivial⟩
          case measure => simp [intOf]; omega
        · obtain rfl : j = k := by omega
          obtain ⟨C, hC⟩ : ∃ C, C = 3 ^ j := ⟨_, rfl⟩
          have hC2 : C ≤ 2187 := by rw [hC]; exact three_bd (by omega)
          rw [← hC]
          clear hC
          go_wp2
          go_loopw [35] (fun i wx => ∃ q : Nat, q ≤ C ∧ i = .int .i64 (q : Int) ∧ Hid (Below w.heap.size w wx)) (fun i _ => C - (intOf i).toNat)
          case atStart => exact ⟨0, Nat.zero_le _, rfl, HB⟩
          case round =>
            obtain ⟨q, hq, rfl, HBq⟩ := hrel
            by_cases hql : q < C
            · have hqi : (q : Int) < (C : Int) := by omega
              have u4 : IntKind.i64.wrap ((q : Int) + 1) = (q : Int) + 1 := IntWalk.i64_in _ (by omega)
              obtain ⟨t, ht⟩ : ∃ t, t = 1 + (q : Int) % 3 := ⟨_, rfl⟩
              obtain ⟨m1, hm1⟩ : ∃ m1, m1 = 1 + (q : Int) % 2 := ⟨_, rfl⟩
              obtain ⟨m2, hm2⟩ : ∃ m2, m2 = 1 + (q : Int) % 4 := ⟨_, rfl⟩
              have u5 : IntKind.i64.wrap (1 + (q : Int) % 3) = t := by rw [ht]; exact IntWalk.i64_in _ (by omega)
              have u6 : IntKind.i64.wrap (1 + (q : Int) % 2) = m1 := by rw [hm1]; exact IntWalk.i64_in _ (by omega)
              have u7 : IntKind.i64.wrap (1 + (q : Int) % 4) = m2 := by rw [hm2]; exact IntWalk.i64_in _ (by omega)
              clear ht hm1 hm2
              generalize wr = W2 at *
              have HS0 : Hid (SBox W2 (W2.alloc (.cells #[.int .i64 t, .slice none 0 0] 28)) W2.heap.size t (.slice none 0 0) []) := Lib.hid (SBox.start _ _ _)
              go_wp2
              generalize W2.alloc (.cells #[.int .i64 t, .slice none 0 0] 28) = W3 at *
              go_loopw [5, 6] (fun s i wx => ∃ (n x : Nat) (v : Value) (L : List Int), n ≤ j ∧ x ≤ 3000 ∧ s = .int .i64 (n : Int) ∧ i = .int .i64 (x : Int) ∧ Hid (L.length = n) ∧ Hid (SBox W2 wx W2.heap.size t v L)) (fun s _ _ => j - (intOf s).toNat)
              case atStart => exact ⟨0, q, _, [], Nat.zero_le _, by omega, rfl, rfl, Lib.hid rfl, HS0⟩
              case round =>
                obtain ⟨n, x, v, L, hn, hx, rfl, rfl, HLN, HT⟩ := hrel
                have c1 := HT.out.c1
                have c0 := HT.out.c0
                have hz := cell_lt c1
                by_cases hnl : n < j
                · have hni : (n : Int) < (j : Int) := by omega
                  have k1 : IntKind.i64.wrap ((n : Int) + 1) = (n : Int) + 1 := IntWalk.i64_in _ (by omega)
                  obtain ⟨y, hy⟩ : ∃ y, y = (x : Int) % 3 - 1 := ⟨_, rfl⟩
                  obtain ⟨x3, hx3⟩ : ∃ x3 : Nat, x3 = x / 3 := ⟨_, rfl⟩
                  have k2 : IntKind.i64.wrap ((x : Int) % 3 - 1) = y := by rw [hy]; exact IntWalk.i64_in _ (by omega)
                  have k3 : (x : Int) / 3 = (x3 : Int) := by omega
                  have hx4 : x3 ≤ 3000 := by omega
                  clear hy hx3 c0
                  go_wp2_with (at_builtin; refine wpList_append_own_at _ rfl (.tmp 49) (.tmp 53) _ rfl W2.heap.size 3 i0 (.int .i64 0) 1 8 Try.underlying22 hi0 hz0 hz1 hz2 rfl (by decide) _ L.length _ rfl (HT.out.own.alloc _) ⟨wr.heap.size, 0, none⟩ 1 1 [.int .i64 y] rfl rfl (cell_one_new _ _ _) (by simp [Value.oneCell']) (by rw [HLN.out]; unfold maxLen; omega) (by rw [HLN.out]; omega) (by have := HT.out.bel.size; simp; omega) ?_; intro v' z1 hown hg _ hb; obtain ⟨gn, cn, rfl⟩ := ownsRow_succ hown; have HG := Lib.hid (HT.out.grow hown hg hb); obtain ⟨u, d1⟩ := HG.out.c1; have d2 := HG.out.f1; have hz' := cell_lt d1; clear hown hg hb c1)
                  have HS2 := Lib.hid HG.out.store
                  go_roundw
                  case rel => exact ⟨n + 1, x3, _, L ++ [y], by omega, hx4, by simp, rfl, Lib.hid (by rw [List.length_append, HLN.out]; rfl), HS2⟩
                  case measure => simp [intOf]; omega
                · obtain rfl : n = j := by omega
                  obtain ⟨pp, cc, rfl, hs, -⟩ := HT.out.own.ser
                  have HSR : Hid (SerIn wr L pp) := Lib.hid ⟨by rw [HLN.out]; unfold maxLen; omega, hs⟩
                  have HBW := Lib.hid (HBq.out.trans (HT.out.bel.mono HBq.out.size))
                  have HL2 : Hid (L.length ≤ 200) := Lib.hid (by rw [HLN.out]; omega)
                  have C0 := Lib.hid c0
                  have C1 := Lib.hid c1
                  clear hs
                  go_wp2_with fail
                  refine (vlaw_keep w t L pp cc m1 _ HBW.out HSR.out HL2.out).mono ?_
                  rintro e wA ⟨rfl, hb, hbw⟩
                  have HSA := Lib.hid (HSR.out.below hb)
                  have HBA := Lib.hid hbw
                  have d0 := cell_below hb C0.out
                  have d1 := cell_below hb C1.out
                  clear hb hbw c0 c1 hz
                  have hz := cell_lt d0
                  go_wp2_with fail
                  refine (flaw_keep w t L pp cc m2 _ HBA.out HSA.out HL2.out).mono ?_
                  rintro e wB ⟨rfl, hb, hbw⟩
                  have HBB := Lib.hid hbw
                  clear hb hbw d0 d1 hz
                  go_wp2
                  go_roundw
                  case rel => exact ⟨q + 1, by omega, by simp, HBB⟩
                  case measure => simp [intOf]; omega
            · obtain rfl : q = C := by omega
              go_wp2
              go_roundw
              case rel => exact ⟨j + 1, by omega, by simp, HBq⟩
              case measure => simp [intOf]; omega
    · obtain rfl : k = 7 := by omega
      generalize wr = W4 at *
      have HL17 := Lib.hid (lits_new W4 lits17 3)
      have HB5 := Lib.hid (HB.out.trans ((below_alloc (Below.refl W4.heap.size W4) (.cells (lits17.map (Value.int .i64)).toArray 3)).mono HB.out.size))
      simp only [lits17, List.map_cons, List.map_nil] at HL17 HB5
      go_wp2
      generalize W4.alloc (.cells #[.int .i64 0, .int .i64 1, .int .i64 2, .int .i64 3, .int .i64 4, .int .i64 47, .int .i64 48, .int .i64 49, .int .i64 64, .int .i64 65, .int .i64 66, .int .i64 95, .int .i64 96, .int .i64 97, .int .i64 127, .int .i64 128, .int .i64 129] 3) = W5 at *
      generalize W4.heap.size = g5 at *
      have HL17' : Hid (IntsAt W5 lits17 g5 0) := HL17
      clear HL17
      go_loopw [76] (fun i wr => ∃ k : Nat, k ≤ 17 ∧ i = .int .i64 (k : Int) ∧ Hid (IntsAt wr lits17 g5 0) ∧ Hid (Below w.heap.size w wr)) (fun i _ => 17 - (intOf i).toNat)
      case atStart => exact ⟨0, Nat.zero_le _, rfl, HL17', HB5⟩
      case round =>
        obtain ⟨k, hk, rfl, HI, HB6⟩ := hrel
        by_cases hlt : k < 17
        · have hki : (k : Int) < 17 := by omega
          have u1 : IntKind.i64.wrap ((k : Int) + 1) = (k : Int) + 1 := IntWalk.i64_in _ (by omega)
          have x0 := HI.out k (by simpa [lits17] using hlt)
          rw [atL_get, Nat.zero_add] at x0
          obtain ⟨N, hN, hN9⟩ := lits17_bd k hlt
          rw [hN] at x0
          have hz := cell_lt x0
          clear hN
          generalize wr = W6 at *
          have HP0 := Lib.hid (PairAt.start W6)
          go_wp2
          go_loopw [9, 10, 81] (fun s9 s10 i wx => ∃ (n : Nat) (u v : Value) (L1 L2 : List Int), n ≤ N ∧ s9 = u ∧ s10 = v ∧ i = .int .i64 (n : Int) ∧ Hid (L1.length = n ∧ L2.length = n) ∧ Hid (PairAt W6 wx u v L1 L2)) (fun _ _ i _ => N - (intOf i).toNat)
          case atStart => exact ⟨0, _, _, [], [], Nat.zero_le _, rfl, rfl, rfl, Lib.hid ⟨rfl, rfl⟩, HP0⟩
          case round =>
            obtain ⟨n, u, v, L1, L2, hn, rfl, rfl, rfl, HLN, HT⟩ := hrel
            by_cases hnl : n < N
            · have hni : (n : Int) < (N : Int) := by omega
              have u2 : IntKind.i64.wrap ((n : Int) + 1) = (n : Int) + 1 := IntWalk.i64_in _ (by omega)
              have hsq := mul_bd2 (x := (n : Int)) (y := (n : Int)) (a := 200) (b := 200) (by omega) (by omega)
              obtain ⟨sq, hsq2⟩ : ∃ sq, sq = (n : Int) * (n : Int) := ⟨_, rfl⟩
              rw [← hsq2] at hsq
              have f1 : IntKind.i64.wrap ((n : Int) * (n : Int)) = sq := by rw [← hsq2]; exact IntWalk.i64_in _ (by omega)
              obtain ⟨r7, hr7⟩ : ∃ r7, sq % 7 = r7 := ⟨_, rfl⟩
              have f3 : IntKind.i64.wrap (r7 * 100) = r7 * 100 := IntWalk.i64_in _ (by omega)
              obtain ⟨y1, hy1⟩ : ∃ y1, y1 = r7 * 100 - (n : Int) := ⟨_, rfl⟩
              have f4 : IntKind.i64.wrap (r7 * 100 - (n : Int)) = y1 := by rw [hy1]; exact IntWalk.i64_in _ (by omega)
              obtain ⟨r2, hr2⟩ : ∃ r2, (n : Int) % 2 = r2 := ⟨_, rfl⟩
              have f6 : IntKind.i64.wrap (2000000 * r2) = 2000000 * r2 := IntWalk.i64_in _ (by omega)
              obtain ⟨y2, hy2⟩ : ∃ y2, y2 = 1000000 - 2000000 * r2 := ⟨_, rfl⟩
              have f7 : IntKind.i64.wrap (1000000 - 2000000 * r2) = y2 := by rw [hy2]; exact IntWalk.i64_in _ (by omega)
              have hbb := HT.out.bel.size
              clear hsq2 hy1 hy2
              go_wp2_with (first | (at_builtin; refine wpList_append_own_at _ rfl (.tmp 84) (.tmp 92) _ rfl W6.heap.size 3 i0 (.int .i64 0) 1 8 Try.underlying22 hi0 hz0 hz1 hz2 rfl (by decide) _ L1.length _ rfl (HT.out.o1.alloc _) ⟨wr.heap.size, 0, none⟩ 1 1 [.int .i64 y1] rfl rfl (cell_one_new _ _ _) (by simp [Value.oneCell']) (by rw [HLN.out.1]; unfold maxLen; omega) (by rw [HLN.out.1]; omega) (by simp; omega) ?_; intro u' z1 hown hg _ hb; have HT1 := Lib.hid (HT.out.first hown hg hb); have hbb1 := HT1.out.bel.size; clear hown hg hb) | (at_builtin; refine wpList_append_own_at _ rfl (.tmp 94) (.tmp 99) _ rfl W6.heap.size 3 i0 (.int .i64 0) 1 8 Try.underlying22 hi0 hz0 hz1 hz2 rfl (by decide) _ L2.length _ rfl (HT1.out.o2.alloc _) ⟨z1.heap.size, 0, none⟩ 1 1 [.int .i64 y2] rfl rfl (cell_one_new _ _ _) (by simp [Value.oneCell']) (by rw [HLN.out.2]; unfold maxLen; omega) (by rw [HLN.out.2]; omega) (by simp; omega) ?_; intro v' z2 hown hg _ hb; have HT2 := Lib.hid (HT1.out.second hown hg hb); clear hown hg hb))
              go_roundw
              case rel =>
                repeat apply Exists.intro
                exact ⟨⟨n + 1, u', v', L1 ++ [y1], L2 ++ [y2], by omega, rfl, rfl, by simp, Lib.hid (by rw [List.length_append, List.length_append, HLN.out.1, HLN.out.2]; exact ⟨rfl, rfl⟩), HT2⟩, rfl⟩
              case measure => simp [intOf]; omega
            · obtain rfl : n = N := by omega
              obtain ⟨pu, cu, rfl, hsu, -⟩ := HT.out.o1.ser
              obtain ⟨pv, cv, rfl, hsv, -⟩ := HT.out.o2.ser
              have HSU : Hid (SerIn wr L1 pu ∧ L1.length ≤ 200) := Lib.hid ⟨⟨by rw [HLN.out.1]; unfold maxLen; omega, hsu⟩, by rw [HLN.out.1]; omega⟩
              have HSV : Hid (SerIn wr L2 pv ∧ L2.length ≤ 200) := Lib.hid ⟨⟨by rw [HLN.out.2]; unfold maxLen; omega, hsv⟩, by rw [HLN.out.2]; omega⟩
              have HBx := Lib.hid (HB6.out.trans (HT.out.bel.mono HB6.out.size))
              have HIx := Lib.hid (HI.out.below HT.out.bel)
              obtain ⟨h, hh⟩ : ∃ h : Nat, (n : Int) / 2 = (h : Int) := ⟨n / 2, by omega⟩
              obtain ⟨h2, hh2⟩ : ∃ h2 : Nat, h2 = n - h := ⟨_, rfl⟩
              have f1 : IntKind.i64.wrap ((n : Int) - (h : Int)) = (h2 : Int) := by rw [IntWalk.i64_in _ (by omega)]; omega
              have hhb : h ≤ 129 ∧ h2 ≤ 129 ∧ h + h2 ≤ 200 := by omega
              clear hsu hsv HT hnl hh2 HP0 x0 hz
              generalize wr = W7 at *
              have HXA : Hid ((W7.alloc (.cells #[.int .i64 (-1000000)] 3)).cell? ⟨W7.heap.size, 0, none⟩ = some (.int .i64 (-1000000))) := Lib.hid (by simp)
              have hb8 := below_alloc (Below.refl W7.heap.size W7) (.cells #[.int .i64 (-1000000)] 3)
              have HB8 := Lib.hid hb8
              clear hb8
              go_wp2_with fail
              refine (repeat_keep (-1000000) _ 0 1 h _ (by omega) HXA.out).mono ?_
              rintro e wA ⟨ga, rfl, hra⟩
              have HRA := Lib.hid hra
              have HBA := Lib.hid (HB8.out.trans (hra.bel.mono HB8.out.size))
              have HXB : Hid ((wA.alloc (.cells #[.int .i64 1000000] 3)).cell? ⟨wA.heap.size, 0, none⟩ = some (.int .i64 1000000)) := Lib.hid (by simp)
              clear hra HXA HB8
              go_wp2_with fail
              refine (repeat_keep 1000000 _ 0 1 h2 _ (by omega) HXB.out).mono ?_
              rintro e wB ⟨gb, rfl, hrb⟩
              have hb9 := (below_alloc (Below.refl wA.heap.size wA) (.cells #[.int .i64 1000000] 3)).trans (hrb.bel.mono (by simp))
              have hba := rep_ints HRA.out
              have hla := rep_lt HRA.out
              have HIA := Lib.hid (hba.below hb9)
              have HIB := Lib.hid (rep_ints hrb)
              have HLA := Lib.hid (Nat.lt_of_lt_of_le hla hb9.size)
              have HLB := Lib.hid (rep_lt hrb)
              have HBB := Lib.hid (HBA.out.trans (hb9.mono HBA.out.size))
              clear hrb hb9 hba hla HRA HBA HXB
              generalize hra : List.replicate h (-1000000 : Int) = ra at *
              generalize hrb : List.replicate h2 (1000000 : Int) = rb at *
              have hlra : ra.length = h := by rw [← hra]; simp
              have hlrb : rb.length = h2 := by rw [← hrb]; simp
              have HLR := Lib.hid (show ra.length = h ∧ rb.length = h2 from ⟨hlra, hlrb⟩)
              have hbz := below_alloc (Below.refl wB.heap.size wB) (.cells #[.slice (some ⟨ga, 0, none⟩) ra.length h, .slice (some ⟨gb, 0, none⟩) rb.length h2] 22)
              have HTW : Hid (TwoAt (wB.alloc (.cells #[.slice (some ⟨ga, 0, none⟩) ra.length h, .slice (some ⟨gb, 0, none⟩) rb.length h2] 22)) wB.heap.size ra rb ga 0 h gb 0 h2) := Lib.hid ⟨by simp, by simp, HIA.out.below hbz, HIB.out.below hbz⟩
              have HCC := Lib.hid (concat_two _ _ _ _ _ _ _ ra rb _ (by have := HLA.out; simp; omega) (by have := HLB.out; simp; omega) (by rw [hlra, hlrb]; omega) HTW.out)
              have HBZ := Lib.hid hbz
              rw [hlra, hlrb] at HCC HBZ
              clear hra hrb hlra hlrb hbz HTW HIA HIB HLA HLB
              go_wp2_with fail
              refine HCC.out.mono ?_
              rintro e wC ⟨vc, rfl, hrow, hbc⟩
              have hrow' : wC.ownsRow ((wB.alloc (.cells #[.slice (some ⟨ga, 0, none⟩) h h, .slice (some ⟨gb, 0, none⟩) h2 h2] 22)).heap.size) 3 1 vc (ra ++ rb).length ((ra ++ rb).map (Value.int .i64)) := by
                rw [List.length_append]; simpa [HLR.out.1, HLR.out.2] using hrow
              obtain ⟨pc, cc, rfl, hsc, -⟩ := ints_own hrow'
              have hlc : (ra ++ rb).length ≤ 200 := by rw [List.length_append, HLR.out.1, HLR.out.2]; omega
              have HSC : Hid (SerIn wC (ra ++ rb) pc ∧ (ra ++ rb).length ≤ 200) := Lib.hid ⟨⟨by unfold maxLen; omega, hsc⟩, hlc⟩
              have hbC := HBZ.out.trans (hbc.mono HBZ.out.size)
              have HBC := Lib.hid (HBB.out.trans (hbC.mono HBB.out.size))
              generalize ra ++ rb = L3 at *
              have HS1 : Hid (SerIn wC L1 pu ∧ L1.length ≤ 200) := Lib.hid ⟨HSU.out.1.below HBC.out, HSU.out.2⟩
              have HS2 : Hid (SerIn wC L2 pv ∧ L2.length ≤ 200) := Lib.hid ⟨HSV.out.1.below HBC.out, HSV.out.2⟩
              have HI7 := Lib.hid (HIx.out.below HBC.out)
              have HB7 := Lib.hid (HBx.out.trans (HBC.out.mono HBx.out.size))
              clear hrow hrow' hbc hbC hsc hlc HSU HSV HIx HBx HBC HCC HBZ HLR HBB f1 hh hhb
              have HL10 := Lib.hid (lits_new wC lits10 3)
              have hbl := below_alloc (Below.refl wC.heap.size wC) (.cells (lits10.map (Value.int .i64)).toArray 3)
              have HS1' : Hid (SerIn (wC.alloc (.cells (lits10.map (Value.int .i64)).toArray 3)) L1 pu ∧ L1.length ≤ 200) := Lib.hid ⟨HS1.out.1.below hbl, HS1.out.2⟩
              have HS2' : Hid (SerIn (wC.alloc (.cells (lits10.map (Value.int .i64)).toArray 3)) L2 pv ∧ L2.length ≤ 200) := Lib.hid ⟨HS2.out.1.below hbl, HS2.out.2⟩
              have HS3' : Hid (SerIn (wC.alloc (.cells (lits10.map (Value.int .i64)).toArray 3)) L3 pc ∧ L3.length ≤ 200) := Lib.hid ⟨HSC.out.1.below hbl, HSC.out.2⟩
              have HI8 := Lib.hid (HI7.out.below hbl)
              have HB8 := Lib.hid (HB7.out.trans (hbl.mono HB7.out.size))
              clear hbl HS1 HS2 HSC HI7 HB7
              simp only [lits10, List.map_cons, List.map_nil] at HL10 HS1' HS2' HS3' HI8 HB8
              go_wp2
              generalize wC.alloc (.cells #[.int .i64 (-1), .int .i64 0, .int .i64 1, .int .i64 2, .int .i64 3, .int .i64 16, .int .i64 21, .int .i64 31, .int .i64 32, .int .i64 33] 3) = W9 at *
              generalize wC.heap.size = g9 at *
              have HL10' : Hid (IntsAt W9 lits10 g9 0) := HL10
              clear HL10
              go_loopw [116] (fun i wx => ∃ a : Nat, a ≤ 10 ∧ i = .int .i64 (a : Int) ∧ Hid ((SerIn wx L1 pu ∧ L1.length ≤ 200) ∧ (SerIn wx L2 pv ∧ L2.length ≤ 200) ∧ (SerIn wx L3 pc ∧ L3.length ≤ 200)) ∧ Hid (IntsAt wx lits10 g9 0) ∧ Hid (IntsAt wx lits17 g5 0) ∧ Hid (Below w.heap.size w wx)) (fun i _ => 10 - (intOf i).toNat)
              case atStart => exact ⟨0, Nat.zero_le _, rfl, Lib.hid ⟨HS1'.out, HS2'.out, HS3'.out⟩, HL10', HI8, HB8⟩
              case round =>
                obtain ⟨a, ha, rfl, HSS, HLa, HIa, HBa⟩ := hrel
                by_cases hal : a < 10
                · have hai : (a : Int) < 10 := by omega
                  have u5 : IntKind.i64.wrap ((a : Int) + 1) = (a : Int) + 1 := IntWalk.i64_in _ (by omega)
                  have x0 := HLa.out a (by simpa [lits10] using hal)
                  rw [atL_get, Nat.zero_add] at x0
                  have hz := cell_lt x0
                  generalize atL lits10 a = ma at *
                  generalize wr = Wa at *
                  have hbr := below_alloc (Below.refl Wa.heap.size Wa) (.cells #[.slice pu L1.length cu, .slice pv L2.length cv, .slice pc L3.length cc] 22)
                  have HR3 : Hid (Rows3 (Wa.alloc (.cells #[.slice pu L1.length cu, .slice pv L2.length cv, .slice pc L3.length cc] 22)) Wa.heap.size) := Lib.hid (fun j hj => by
                    have : j = 0 ∨ j = 1 ∨ j = 2 := by omega
                    rcases this with rfl | rfl | rfl
                    · exact ⟨L1, pu, cu, by simp, HSS.out.1.1.below hbr, HSS.out.1.2⟩
                    · exact ⟨L2, pv, cv, by simp, HSS.out.2.1.1.below hbr, HSS.out.2.1.2⟩
                    · exact ⟨L3, pc, cc, by simp, HSS.out.2.2.1.below hbr, HSS.out.2.2.2⟩)
                  have HSS1 : Hid ((SerIn (Wa.alloc (.cells #[.slice pu L1.length cu, .slice pv L2.length cv, .slice pc L3.length cc] 22)) L1 pu ∧ L1.length ≤ 200) ∧ (SerIn (Wa.alloc (.cells #[.slice pu L1.length cu, .slice pv L2.length cv, .slice pc L3.length cc] 22)) L2 pv ∧ L2.length ≤ 200) ∧ (SerIn (Wa.alloc (.cells #[.slice pu L1.length cu, .slice pv L2.length cv, .slice pc L3.length cc] 22)) L3 pc ∧ L3.length ≤ 200)) :=
                    Lib.hid ⟨⟨HSS.out.1.1.below hbr, HSS.out.1.2⟩, ⟨HSS.out.2.1.1.below hbr, HSS.out.2.1.2⟩, ⟨HSS.out.2.2.1.below hbr, HSS.out.2.2.2⟩⟩
                  have HLa1 := Lib.hid (HLa.out.below hbr)
                  have HIa1 := Lib.hid (HIa.out.below hbr)
                  have HBa1 := Lib.hid (HBa.out.trans (hbr.mono HBa.out.size))
                  clear hbr HSS HLa HIa HBa
                  go_wp2
                  generalize Wa.alloc (.cells #[.slice pu L1.length cu, .slice pv L2.length cv, .slice pc L3.length cc] 22) = Wb at *
                  generalize Wa.heap.size = gr at *
                  clear x0 hz
                  go_loopw [125] (fun i wx => ∃ j : Nat, j ≤ 3 ∧ i = .int .i64 (j : Int) ∧ Hid (Rows3 wx gr) ∧ Hid ((SerIn wx L1 pu ∧ L1.length ≤ 200) ∧ (SerIn wx L2 pv ∧ L2.length ≤ 200) ∧ (SerIn wx L3 pc ∧ L3.length ≤ 200)) ∧ Hid (IntsAt wx lits10 g9 0) ∧ Hid (IntsAt wx lits17 g5 0) ∧ Hid (Below w.heap.size w wx)) (fun i _ => 3 - (intOf i).toNat)
                  case atStart => exact ⟨0, Nat.zero_le _, rfl, HR3, HSS1, HLa1, HIa1, HBa1⟩
                  case round =>
                    obtain ⟨j, hj, rfl, HR, HSS, HLa, HIa, HBa⟩ := hrel
                    by_cases hjl : j < 3
                    · have hji : (j : Int) < 3 := by omega
                      have u6 : IntKind.i64.wrap ((j : Int) + 1) = (j : Int) + 1 := IntWalk.i64_in _ (by omega)
                      obtain ⟨lj, pj, cj, y0, hsj, hlj⟩ := HR.out j hjl
                      have hz := cell_lt y0
                      have HSJ := Lib.hid hsj
                      have HLJ := Lib.hid hlj
                      clear hsj hlj
                      go_wp2_with fail
                      refine (vlaw_keep wr 30 lj pj cj ma _ (Below.refl _ _) HSJ.out HLJ.out).mono ?_
                      rintro e wV ⟨rfl, hb, -⟩
                      have HSJ2 := Lib.hid (HSJ.out.below hb)
                      have HBV := Lib.hid hb
                      clear hb y0 hz
                      go_wp2_with fail
                      refine (flaw_keep wr 31 lj pj cj ma _ HBV.out HSJ2.out HLJ.out).mono ?_
                      rintro e wF ⟨rfl, -, hb⟩
                      have HR4 := Lib.hid (HR.out.below hb)
                      have HS4 : Hid ((SerIn wF L1 pu ∧ L1.length ≤ 200) ∧ (SerIn wF L2 pv ∧ L2.length ≤ 200) ∧ (SerIn wF L3 pc ∧ L3.length ≤ 200)) :=
                        Lib.hid ⟨⟨HSS.out.1.1.below hb, HSS.out.1.2⟩, ⟨HSS.out.2.1.1.below hb, HSS.out.2.1.2⟩, ⟨HSS.out.2.2.1.below hb, HSS.out.2.2.2⟩⟩
                      have HL4 := Lib.hid (HLa.out.below hb)
                      have HI4 := Lib.hid (HIa.out.below hb)
                      have HB4 := Lib.hid (HBa.out.trans (hb.mono HBa.out.size))
                      clear hb
                      go_wp2
                      go_roundw
                      case rel =>
                        first
                          | exact ⟨j + 1, by omega, by simp, HR4, HS4, HL4, HI4, HB4⟩
                          | ((repeat apply Exists.intro); exact ⟨⟨j + 1, by omega, by simp, HR4, HS4, HL4, HI4, HB4⟩, rfl⟩)
                      case measure => simp [intOf]; omega
                    · obtain rfl : j = 3 := by omega
                      go_wp2
                      go_roundw
                      case rel =>
                        first
                          | exact ⟨a + 1, by omega, by simp, HSS, HLa, HIa, HBa⟩
                          | ((repeat apply Exists.intro); exact ⟨⟨a + 1, by omega, by simp, HSS, HLa, HIa, HBa⟩, rfl⟩)
                      case measure => simp [intOf]; omega
                · obtain rfl : a = 10 := by omega
                  go_wp2
                  go_roundw
                  case rel =>
                    first
                      | exact ⟨k + 1, by omega, by simp, HIa, HBa⟩
                      | ((repeat apply Exists.intro); exact ⟨⟨k + 1, by omega, by simp, HIa, HBa⟩, rfl⟩)
                  case measure => simp [intOf]; omega
        · obtain rfl : k = 17 := by omega
          generalize wr = Wc at *
          have HL12 := Lib.hid (lits_new Wc lits12 3)
          have HBd := Lib.hid (HB6.out.trans ((below_alloc (Below.refl Wc.heap.size Wc) (.cells (lits12.map (Value.int .i64)).toArray 3)).mono HB6.out.size))
          simp only [lits12, List.map_cons, List.map_nil] at HL12 HBd
          go_wp2
          generalize Wc.alloc (.cells #[.int .i64 (-1), .int .i64 0, .int .i64 1, .int .i64 999, .int .i64 1000, .int .i64 1001, .int .i64 1000000, .int .i64 1000001, .int .i64 (-1000000), .int .i64 (-1000001), .int .i64 (-9223372036854775808), .int .i64 9223372036854775807] 3) = Wd at *
          generalize Wc.heap.size = gd at *
          have HL12' : Hid (IntsAt Wd lits12 gd 0) := HL12
          clear HL12 HI HB6
          go_loopw [146] (fun i wr => ∃ k : Nat, k ≤ 12 ∧ i = .int .i64 (k : Int) ∧ Hid (IntsAt wr lits12 gd 0) ∧ Hid (Below w.heap.size w wr)) (fun i _ => 12 - (intOf i).toNat)
          case atStart => exact ⟨0, Nat.zero_le _, rfl, HL12', HBd⟩
          case round =>
            obtain ⟨k, hk, rfl, HI, HB6⟩ := hrel
            by_cases hlt : k < 12
            · have hki : (k : Int) < 12 := by omega
              have u1 : IntKind.i64.wrap ((k : Int) + 1) = (k : Int) + 1 := IntWalk.i64_in _ (by omega)
              have x0 := HI.out k (by simpa [lits12] using hlt)
              rw [atL_get, Nat.zero_add] at x0
              have hnv := lits12_bd k hlt
              generalize atL lits12 k = nv at *
              have HNV := Lib.hid hnv
              have hz := cell_lt x0
              generalize wr = We at *
              clear hnv
              go_wp2
              clear x0 hz
              go_loopw [150] (fun i wr => ∃ j : Nat, j ≤ 2 ∧ i = .int .i64 (j : Int) ∧ Hid (IntsAt wr lits12 gd 0) ∧ Hid (Below w.heap.size w wr)) (fun i _ => 2 - (intOf i).toNat)
              case atStart => exact ⟨0, Nat.zero_le _, rfl, HI, HB6⟩
              case round =>
                obtain ⟨j, hj, rfl, HIj, HBj⟩ := hrel
                generalize wr = Wf at *
                have hjc : j = 0 ∨ j = 1 ∨ j = 2 := by omega
                rcases hjc with rfl | rfl | rfl
                · go_wp2_with fail
                  have hL0 : IntsAt (Wf.alloc (.cells #[.int .i64 1, .int .i64 2, .int .i64 4, .int .i64 7, .int .i64 5] 3)) [1, 2, 4, 7, 5] Wf.heap.size 0 := lits_new Wf [1, 2, 4, 7, 5] 3
                  have hb1 := below_alloc (below_alloc (Below.refl (Wf.alloc (.cells #[.int .i64 1, .int .i64 2, .int .i64 4, .int .i64 7, .int .i64 5] 3)).heap.size (Wf.alloc (.cells #[.int .i64 1, .int .i64 2, .int .i64 4, .int .i64 7, .int .i64 5] 3))) (.cells #[.int .i64 nv, .slice (some ⟨Wf.heap.size, 0, none⟩) 5 5] 28)) (.cells #[.pointer (some ⟨Wf.heap.size + 1, 0, none⟩), .pointer (some ⟨Wf.heap.size, 3, none⟩)] 33)
                  have hb2 := (below_alloc (Below.refl Wf.heap.size Wf) (.cells #[.int .i64 1, .int .i64 2, .int .i64 4, .int .i64 7, .int .i64 5] 3)).trans (hb1.mono (by simp))
                  have HSR : Hid (SerIn (((Wf.alloc (.cells #[.int .i64 1, .int .i64 2, .int .i64 4, .int .i64 7, .int .i64 5] 3)).alloc (.cells #[.int .i64 nv, .slice (some ⟨Wf.heap.size, 0, none⟩) 5 5] 28)).alloc (.cells #[.pointer (some ⟨Wf.heap.size + 1, 0, none⟩), .pointer (some ⟨Wf.heap.size, 3, none⟩)] 33)) [1, 2, 4, 7, 5] (some ⟨Wf.heap.size, 0, none⟩)) := Lib.hid ⟨by simp [maxLen], .inr ⟨_, 0, rfl, hL0.below hb1⟩⟩
                  have HIg := Lib.hid (HIj.out.below hb2)
                  have HBg := Lib.hid (HBj.out.trans (hb2.mono HBj.out.size))
                  have d0 : (((Wf.alloc (.cells #[.int .i64 1, .int .i64 2, .int .i64 4, .int .i64 7, .int .i64 5] 3)).alloc (.cells #[.int .i64 nv, .slice (some ⟨Wf.heap.size, 0, none⟩) 5 5] 28)).alloc (.cells #[.pointer (some ⟨Wf.heap.size + 1, 0, none⟩), .pointer (some ⟨Wf.heap.size, 3, none⟩)] 33)).cell? ⟨Wf.heap.size + 1, 0, none⟩ = some (.int .i64 nv) := by simp [go_sem]
                  have d1 : (((Wf.alloc (.cells #[.int .i64 1, .int .i64 2, .int .i64 4, .int .i64 7, .int .i64 5] 3)).alloc (.cells #[.int .i64 nv, .slice (some ⟨Wf.heap.size, 0, none⟩) 5 5] 28)).alloc (.cells #[.pointer (some ⟨Wf.heap.size + 1, 0, none⟩), .pointer (some ⟨Wf.heap.size, 3, none⟩)] 33)).cell? ⟨Wf.heap.size + 1, 1, none⟩ = some (.slice (some ⟨Wf.heap.size, 0, none⟩) 5 5) := by simp [go_sem]
                  have D0 := Lib.hid d0
                  have D1 := Lib.hid d1
                  clear hL0 hb1 hb2 d0 d1
                  generalize (((Wf.alloc (.cells #[.int .i64 1, .int .i64 2, .int .i64 4, .int .i64 7, .int .i64 5] 3)).alloc (.cells #[.int .i64 nv, .slice (some ⟨Wf.heap.size, 0, none⟩) 5 5] 28)).alloc (.cells #[.pointer (some ⟨Wf.heap.size + 1, 0, none⟩), .pointer (some ⟨Wf.heap.size, 3, none⟩)] 33)) = Wg at *
                  refine (vlaw_keep Wg nv [1, 2, 4, 7, 5] (some ⟨Wf.heap.size, 0, none⟩) 5 1 _ (Below.refl _ _) HSR.out (by simp)).mono ?_
                  rintro e wV ⟨rfl, hb, -⟩
                  have HSR2 := Lib.hid (HSR.out.below hb)
                  have HBV := Lib.hid hb
                  have d0 := cell_below hb D0.out
                  have d1 := cell_below hb D1.out
                  clear hb
                  have hz := cell_lt d0
                  go_wp2_with fail
                  refine (flaw_keep Wg nv [1, 2, 4, 7, 5] (some ⟨Wf.heap.size, 0, none⟩) 5 2 _ HBV.out HSR2.out (by simp)).mono ?_
                  rintro e wF ⟨rfl, -, hb⟩
                  have HI4 := Lib.hid (HIg.out.below hb)
                  have HB4 := Lib.hid (HBg.out.trans (hb.mono HBg.out.size))
                  clear hb d0 d1 hz
                  go_wp2
                  go_roundw
                  case rel =>
                    first
                      | exact ⟨1, by omega, rfl, HI4, HB4⟩
                      | ((repeat apply Exists.intro); exact ⟨⟨1, by omega, rfl, HI4, HB4⟩, rfl⟩)
                  case measure => simp [intOf]
                · go_wp2_with fail
                  have hL0 : IntsAt (Wf.alloc (.cells #[.int .i64 1, .int .i64 2, .int .i64 4, .int .i64 nv, .int .i64 5] 3)) [1, 2, 4, nv, 5] Wf.heap.size 0 := lits_new Wf [1, 2, 4, nv, 5] 3
                  have hb1 := below_alloc (below_alloc (Below.refl (Wf.alloc (.cells #[.int .i64 1, .int .i64 2, .int .i64 4, .int .i64 nv, .int .i64 5] 3)).heap.size (Wf.alloc (.cells #[.int .i64 1, .int .i64 2, .int .i64 4, .int .i64 nv, .int .i64 5] 3))) (.cells #[.int .i64 10, .slice (some ⟨Wf.heap.size, 0, none⟩) 5 5] 28)) (.cells #[.pointer (some ⟨Wf.heap.size + 1, 0, none⟩), .pointer (some ⟨Wf.heap.size, 3, none⟩)] 33)
                  have hb2 := (below_alloc (Below.refl Wf.heap.size Wf) (.cells #[.int .i64 1, .int .i64 2, .int .i64 4, .int .i64 nv, .int .i64 5] 3)).trans (hb1.mono (by simp))
                  have HSR : Hid (SerIn (((Wf.alloc (.cells #[.int .i64 1, .int .i64 2, .int .i64 4, .int .i64 nv, .int .i64 5] 3)).alloc (.cells #[.int .i64 10, .slice (some ⟨Wf.heap.size, 0, none⟩) 5 5] 28)).alloc (.cells #[.pointer (some ⟨Wf.heap.size + 1, 0, none⟩), .pointer (some ⟨Wf.heap.size, 3, none⟩)] 33)) [1, 2, 4, nv, 5] (some ⟨Wf.heap.size, 0, none⟩)) := Lib.hid ⟨by simp [maxLen], .inr ⟨_, 0, rfl, hL0.below hb1⟩⟩
                  have HIg := Lib.hid (HIj.out.below hb2)
                  have HBg := Lib.hid (HBj.out.trans (hb2.mono HBj.out.size))
                  have d0 : (((Wf.alloc (.cells #[.int .i64 1, .int .i64 2, .int .i64 4, .int .i64 nv, .int .i64 5] 3)).alloc (.cells #[.int .i64 10, .slice (some ⟨Wf.heap.size, 0, none⟩) 5 5] 28)).alloc (.cells #[.pointer (some ⟨Wf.heap.size + 1, 0, none⟩), .pointer (some ⟨Wf.heap.size, 3, none⟩)] 33)).cell? ⟨Wf.heap.size + 1, 0, none⟩ = some (.int .i64 10) := by simp [go_sem]
                  have d1 : (((Wf.alloc (.cells #[.int .i64 1, .int .i64 2, .int .i64 4, .int .i64 nv, .int .i64 5] 3)).alloc (.cells #[.int .i64 10, .slice (some ⟨Wf.heap.size, 0, none⟩) 5 5] 28)).alloc (.cells #[.pointer (some ⟨Wf.heap.size + 1, 0, none⟩), .pointer (some ⟨Wf.heap.size, 3, none⟩)] 33)).cell? ⟨Wf.heap.size + 1, 1, none⟩ = some (.slice (some ⟨Wf.heap.size, 0, none⟩) 5 5) := by simp [go_sem]
                  have D0 := Lib.hid d0
                  have D1 := Lib.hid d1
                  clear hL0 hb1 hb2 d0 d1
                  generalize (((Wf.alloc (.cells #[.int .i64 1, .int .i64 2, .int .i64 4, .int .i64 nv, .int .i64 5] 3)).alloc (.cells #[.int .i64 10, .slice (some ⟨Wf.heap.size, 0, none⟩) 5 5] 28)).alloc (.cells #[.pointer (some ⟨Wf.heap.size + 1, 0, none⟩), .pointer (some ⟨Wf.heap.size, 3, none⟩)] 33)) = Wg at *
                  refine (vlaw_keep Wg 10 [1, 2, 4, nv, 5] (some ⟨Wf.heap.size, 0, none⟩) 5 1 _ (Below.refl _ _) HSR.out (by simp)).mono ?_
                  rintro e wV ⟨rfl, hb, -⟩
                  have HSR2 := Lib.hid (HSR.out.below hb)
                  have HBV := Lib.hid hb
                  have d0 := cell_below hb D0.out
                  have d1 := cell_below hb D1.out
                  clear hb
                  have hz := cell_lt d0
                  go_wp2_with fail
                  refine (flaw_keep Wg 10 [1, 2, 4, nv, 5] (some ⟨Wf.heap.size, 0, none⟩) 5 2 _ HBV.out HSR2.out (by simp)).mono ?_
                  rintro e wF ⟨rfl, -, hb⟩
                  have HI4 := Lib.hid (HIg.out.below hb)
                  have HB4 := Lib.hid (HBg.out.trans (hb.mono HBg.out.size))
                  clear hb d0 d1 hz
                  go_wp2
                  go_roundw
                  case rel =>
                    first
                      | exact ⟨2, by omega, rfl, HI4, HB4⟩
                      | ((repeat apply Exists.intro); exact ⟨⟨2, by omega, rfl, HI4, HB4⟩, rfl⟩)
                  case measure => simp [intOf]
                · go_wp2_with fail
                  refine (claw_lits Wf Wf nv 1 [4, 1, 3] [nv] [2] 3 1 1 nv 1000000 (Below.refl _ _) HNV.out (by unfold I64; omega) (by simp) (by simp)).mono ?_
                  rintro e wV ⟨rfl, hb⟩
                  have HBV := Lib.hid hb
                  clear hb
                  go_wp2_with fail
                  refine (claw_lits Wf wV 5 nv [4, 1, 3] [_] [_] 3 1 1 1 nv HBV.out (by unfold I64; omega) HNV.out (by simp) (by simp)).mono ?_
                  rintro e wF ⟨rfl, hb⟩
                  have HI4 := Lib.hid (HIj.out.below hb)
                  have HB4 := Lib.hid (HBj.out.trans (hb.mono HBj.out.size))
                  clear hb
                  go_wp2
                  go_roundw
                  case rel =>
                    first
                      | exact ⟨k + 1, by omega, by simp, HI4, HB4⟩
                      | ((repeat apply Exists.intro); exact ⟨⟨k + 1, by omega, by simp, HI4, HB4⟩, rfl⟩)
                  case measure => simp [intOf]; omega
            · obtain rfl : k = 12 := by omega
              clear HI
              go_wp2
              go_loopw [200] (fun i wr => ∃ k : Nat, k ≤ 43 ∧ i = .int .i64 (k : Int) ∧ Hid (Below w.heap.size w wr)) (fun i _ => 43 - (intOf i).toNat)
              case atStart => exact ⟨0, Nat.zero_le _, rfl, HB6⟩
              case round =>
                obtain ⟨k, hk, rfl, HB7⟩ := hrel
                by_cases hlt : k < 43
                · have hki : (k : Int) < 43 := by omega
                  have u1 : IntKind.i64.wrap ((k : Int) + 1) = (k : Int) + 1 := IntWalk.i64_in _ (by omega)
                  generalize wr = Wg at *
                  go_wp2
                  go_loopw [203] (fun i wr => ∃ j : Nat, j ≤ 23 ∧ i = .int .i64 (j : Int) ∧ Hid (Below w.heap.size w wr)) (fun i _ => 23 - (intOf i).toNat)
                  case atStart => exact ⟨0, Nat.zero_le _, rfl, HB7⟩
                  case round =>
                    obtain ⟨j, hj, rfl, HB8⟩ := hrel
                    by_cases hjl : j < 23
                    · have hji : (j : Int) < 23 := by omega
                      have u2 : IntKind.i64.wrap ((j : Int) + 1) = (j : Int) + 1 := IntWalk.i64_in _ (by omega)
                      go_wp2_with (at_make; refine wpList_make_full _ rfl _ _ 22 rfl wr.heap.size 3 i0 (.int .i64 0) 1 Try.underlying22 hi0 hz0 hz1 .i64 .i64 _ _ k rfl rfl rfl rfl (by rw [hz2]; omega) (by unfold maxLen; omega) (Nat.le_refl _) ?_; intro w0 hown0 hgrow0; have HR0 : Hid (Ct.RepAt wr w0 wr.heap.size 0 k k) := Lib.hid (rep_full (Ct.made_row (x := 0) (by rw [Nat.mul_one, show (Value.int .i64 0).cells = #[.int .i64 0] from rfl, toList_madeCells_one] at hown0; exact hown0) ((Below.refl _ _).grown hgrow0 (Nat.le_refl _) (fun k hk => by cases hk)) (Nat.le_refl _))); clear hown0 hgrow0)
                      refine (claw_zero wr w0 _ k j HR0.out (by omega) (by unfold I64; omega)).mono ?_
                      rintro e wF ⟨rfl, hb⟩
                      have HB9 := Lib.hid (HB8.out.trans (hb.mono HB8.out.size))
                      clear hb HR0
                      go_wp2
                      go_roundw
                      case rel =>
                        first
                          | exact ⟨j + 1, by omega, by simp, HB9⟩
                          | ((repeat apply Exists.intro); exact ⟨⟨j + 1, by omega, by simp, HB9⟩, rfl⟩)
                      case measure => simp [intOf]; omega
                    · obtain rfl : j = 23 := by omega
                      go_wp2
                      go_roundw
                      case rel =>
                        first
                          | exact ⟨k + 1, by omega, by simp, HB8⟩
                          | ((repeat apply Exists.intro); exact ⟨⟨k + 1, by omega, by simp, HB8⟩, rfl⟩)
                      case measure => simp [intOf]; omega
                · obtain rfl : k = 43 := by omega
                  clear hlt hk
                  go_wp2
                  go_loopw [216] (fun i wr => ∃ k : Nat, k ≤ 243 ∧ i = .int .i64 (k : Int) ∧ Hid (Below w.heap.size w wr)) (fun i _ => 243 - (intOf i).toNat)
                  case atStart => exact ⟨0, Nat.zero_le _, rfl, HB7⟩
                  case round =>
                    obtain ⟨k, hk, rfl, HB8⟩ := hrel
                    by_cases hlt : k < 243
                    · have hki : (k : Int) < 243 := by omega
                      have u1 : IntKind.i64.wrap ((k : Int) + 1) = (k : Int) + 1 := IntWalk.i64_in _ (by omega)
                      obtain ⟨a0, ha0⟩ : ∃ a0, (k : Int) % 3 = a0 := ⟨_, rfl⟩
                      obtain ⟨a1, ha1⟩ : ∃ a1, (k : Int) / 3 % 3 = a1 := ⟨_, rfl⟩
                      obtain ⟨a2, ha2⟩ : ∃ a2, (k : Int) / 9 % 3 = a2 := ⟨_, rfl⟩
                      obtain ⟨a3, ha3⟩ : ∃ a3, (k : Int) / 27 % 3 = a3 := ⟨_, rfl⟩
                      obtain ⟨a4, ha4⟩ : ∃ a4, (k : Int) / 81 = a4 := ⟨_, rfl⟩
                      have hab : 0 ≤ a0 ∧ a0 ≤ 2 := by omega
                      have u2 : IntKind.i64.wrap (1 + a0) = 1 + a0 := IntWalk.i64_in _ (by omega)
                      generalize wr = Wh at *
                      go_upto_region 72 with fail
                      have t3 : (k : Int).tmod 3 = a0 := by rw [Int.tmod_eq_emod_of_nonneg (by omega)]; exact ha0
                      have hqc : (k : Int).tmod 6 = 0 ∨ (k : Int).tmod 6 = 1 ∨ (k : Int).tmod 6 = 2 ∨ (k : Int).tmod 6 = 3 ∨ (k : Int).tmod 6 = 4 ∨ (k : Int).tmod 6 = 5 := by rw [Int.tmod_eq_emod_of_nonneg (by omega)]; omega
                      have hAI : I64 a0 ∧ I64 (1 + a0) := by unfold I64; omega
                      have HA := Lib.hid hAI
                      have HK := Lib.hid hlt
                      clear hab hAI hlt hk ha0 ha1 ha2 ha3 ha4
                      rcases hqc with t6 | t6 | t6 | t6 | t6 | t6
                      all_goals
                        refine (wpIn_wide (n := 9)).1 ?_
                        refine wpIn_region_pre_lit 15 2 rfl (by kernel_rfl) (by kernel_rfl) (by kernel_rfl) (by kernel_rfl) rfl ?_
                        simp only [List.take_succ_cons, List.take_zero]
                        repeat (refine wpQuietIn_step (by first | exact fun _ _ _ _ => trivial | quiet_asked_in) (fun KQ hKQ => ?_); go_simp; first | (refine hKQ _ ?_; clear hKQ KQ) | (apply Exists.intro; refine ⟨fun _ => ?_, hKQ _ ?_⟩; (fail); clear hKQ KQ))
                        refine wpQuietIn_nil ?_
                        intro _ hwq1
                        obtain ⟨nq, hwq2⟩ := hwq1
                        subst hwq2
                        simp only [List.replicate_succ, List.replicate_zero, List.cons_append, List.nil_append]
                        refine wpAnyIn_ready (rs := [15]) (by kernel_rfl) (by simp) (AllReadyIn.cons rfl (fun K' hKK => ?_) AllReadyIn.nil)
                        go_simp
                        refine ⟨trivial, (callsIn_wide.2 (claw_five Wh Wh a0 a1 a2 a3 a4 a0 (1 + a0) _ _ _ _ nq (by rfl) (by first | exact .inl rfl | exact .inr rfl) (Below.refl _ _) HA.out.1 HA.out.2)).mono ?_⟩
                        rintro e wF ⟨rfl, hb⟩
                        have HB9 := Lib.hid (HB8.out.trans (hb.mono HB8.out.size))
                        clear hb
                        go_simp
                        refine hKK _ _ ?_
                        clear hKK
                        refine wpAnyIn_ready (rs := [16]) (by kernel_rfl) (by simp) (AllReadyIn.cons rfl (fun K' hKK => ?_) AllReadyIn.nil)
                        go_simp
                        refine hKK _ _ ?_
                        clear hKK
                        refine wpAnyIn_done (by kernel_rfl) ?_ _
                        go_wp2
                        have hlt := HK.out
                        go_roundw
                        case rel =>
                          first
                            | exact ⟨k + 1, by omega, by simp, HB9⟩
                            | ((repeat apply Exists.intro); exact ⟨⟨k + 1, by omega, by simp, HB9⟩, rfl⟩)
                        case measure => simp [intOf]; omega
                    · obtain rfl : k = 243 := by omega
                      clear hlt hk
                      have hm9 : ∀ W : World, (Instr.makeSlice 22 (.int .i64 9) (.int .i64 9)).run Try.prog W = .ok (.slice (some ⟨W.heap.size, 0, none⟩) 9 9) (W.alloc (.cells #[.int .i64 0, .int .i64 0, .int .i64 0, .int .i64 0, .int .i64 0, .int .i64 0, .int .i64 0, .int .i64 0, .int .i64 0] 3)) := fun W => by
                        have h := run_make (P := Try.prog) W 22 3 i0 (.int .i64 0) Try.underlying22 hi0 hz0 .i64 .i64 9 9 (by decide) (by decide) (by rw [hz2]; decide) (by decide)
                        rw [hz1, show madeCells (Value.int .i64 0).cells (Int.toNat 9 * 1) = #[.int .i64 0, .int .i64 0, .int .i64 0, .int .i64 0, .int .i64 0, .int .i64 0, .int .i64 0, .int .i64 0, .int .i64 0] from by kernel_rfl] at h; exact h
                      have hm8 : ∀ W : World, (Instr.makeSlice 22 (.int .i64 8) (.int .i64 8)).run Try.prog W = .ok (.slice (some ⟨W.heap.size, 0, none⟩) 8 8) (W.alloc (.cells #[.int .i64 0, .int .i64 0, .int .i64 0, .int .i64 0, .int .i64 0, .int .i64 0, .int .i64 0, .int .i64 0] 3)) := fun W => by
                        have h := run_make (P := Try.prog) W 22 3 i0 (.int .i64 0) Try.underlying22 hi0 hz0 .i64 .i64 8 8 (by decide) (by decide) (by rw [hz2]; decide) (by decide)
                        rw [hz1, show madeCells (Value.int .i64 0).cells (Int.toNat 8 * 1) = #[.int .i64 0, .int .i64 0, .int .i64 0, .int .i64 0, .int .i64 0, .int .i64 0, .int .i64 0, .int .i64 0] from by kernel_rfl] at h; exact h
                      go_upto_region 75 with fail
                      go_region_held3 (fun w' => Below wr.heap.size wr w') (first | assumption | exact Below.drew (by assumption) | exact Below.drew (Below.refl _ _) | exact below_alloc (Below.refl _ _) _ | exact Below.drew (below_alloc (Below.refl _ _) _) | exact below_alloc (below_alloc (Below.refl _ _) _) _ | exact Below.drew (below_alloc (below_alloc (Below.refl _ _) _) _))
                        (first | (go_at_call 6; refine (claw_order wr wr _ _ _ (by first | exact .inl ⟨rfl, rfl, rfl⟩ | exact .inr ⟨rfl, rfl, rfl⟩) (Below.refl _ _)).mono ?_; rintro e w2 ⟨rfl, hb2⟩) |
                          (go_at_call 7; refine (awake_keep wr _ (by first | assumption | exact Below.drew (by assumption))).mono ?_; rintro e w3 ⟨rfl, hb3⟩))
                      all_goals
                        have HB9 := Lib.hid (HB8.out.trans (hb3.mono HB8.out.size))
                        clear hb2 hb3
                        go_wp2
                        go_ret
                        exact ⟨rfl, HB9.out⟩
end Go.Proofs.Ythkndjkgokojmaa
