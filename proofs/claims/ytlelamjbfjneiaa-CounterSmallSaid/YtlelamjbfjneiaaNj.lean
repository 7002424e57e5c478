/- Contracts of layer 2: Refute. -/
import Derived.Test.YtlelamjbfjneiaaNg
import Derived.Deep.RegionHeld3
import Derived.Deep.CutRange
namespace Go.Proofs.Ytlelamjbfjneiaa.Ct
open Go Go.RowKit Go.Shelf
attribute [local go_sem] Oper.semAt_some
/-- a use: the index of a bound, and which side -/
def useAt (u : List (Int × Bool)) (i : Nat) : Int × Bool := (u[i]?).getD (0, false)
def UsesIn (w : World) (u : List (Int × Bool)) (p : Option Addr) : Prop := u.length = 0 ∨ ∃ b o, p = some ⟨b, o, none⟩ ∧ ∀ i, i < u.length → w.cell? ⟨b, o + i * 2, none⟩ = some (.int .i64 (useAt u i).1) ∧ w.cell? ⟨b, o + i * 2 + 1, none⟩ = some (.bool (useAt u i).2)
theorem UsesIn.below {w w' : World} {u : List (Int × Bool)} {p : Option Addr} (h : UsesIn w u p) (hb : Below w.heap.size w w') : UsesIn w' u p :=
  h.imp id fun ⟨b, o, e, hi⟩ => ⟨b, o, e, fun i h' => ⟨cell_below hb (hi i h').1, cell_below hb (hi i h').2⟩⟩
/-- what use i says -/
def useLim (l : List Bnd) (u : List (Int × Bool)) (i : Nat) : Lim := limOf (bndAt l (useAt u i).1.toNat) (useAt u i).2
def inB (l : List Bnd) (u : List (Int × Bool)) (i : Nat) : Bool := decide (0 ≤ (useAt u i).1) && decide ((useAt u i).1 ≤ (l.length : Int) - 1)
def linkB (l : List Bnd) (u : List (Int × Bool)) (i : Nat) : Bool := decide ((useLim l u i).s = (useLim l u ((i + 1) % u.length)).f)
def totalS (l : List Bnd) (u : List (Int × Bool)) : Nat → Int
  | 0 => 0
  | k + 1 => totalS l u k + (useLim l u k).m
def cutB (l : List Bnd) (u : List (Int × Bool)) : Bool := (List.range u.length).all (inB l u) && (List.range u.length).all (linkB l u) && decide (totalS l u u.length < 0)
theorem inB_lt {l : List Bnd} {u : List (Int × Bool)} {i : Nat} (h : inB l u i = true) : 0 ≤ (useAt u i).1 ∧ (useAt u i).1.toNat < l.length := by
  unfold inB at h
  simp only [Bool.and_eq_true, decide_eq_true_eq] at h
  omega
theorem useLim_bd {n : Nat} {l : List Bnd} {u : List (Int × Bool)} {i : Nat} (hl : LimsOk n l) (h : inB l u i = true) : -1000000000000000 ≤ (useLim l u i).m ∧ (useLim l u i).m ≤ 1000000000000000 := by
  have hb := hl.ok _ (inB_lt h).2
  have h1 := hb.lo
  have h2 := hb.hi
  unfold useLim limOf
  cases (useAt u i).2
  · simp only [Bool.false_eq_true, if_false, limDn]; omega
  · simp only [if_true, limUp]; omega
theorem totalS_bd {n : Nat} {l : List Bnd} {u : List (Int × Bool)} (hl : LimsOk n l) : ∀ k : Nat, (∀ j, j < k → inB l u j = true) → -(1000000000000000 * (k : Int)) ≤ totalS l u k ∧ totalS l u k ≤ 1000000000000000 * (k : Int)
  | 0, _ => by simp [totalS]
  | k + 1, h => by
    have h1 := totalS_bd hl k fun j hj => h j (by omega)
    have h2 := useLim_bd hl (h k (by omega))
    simp only [totalS]
    omega
theorem cut_in {l : List Bnd} {u : List (Int × Bool)} {i : Nat} (hi : i < u.length) (h : inB l u i = false) : cutB l u = false := by
  have : (List.range u.length).all (inB l u) = false := by
    rw [List.all_eq_false]
    exact ⟨i, List.mem_range.2 hi, by simp [h]⟩
  unfold cutB; rw [this]; rfl
theorem cut_link {l : List Bnd} {u : List (Int × Bool)} {i : Nat} (hi : i < u.length) (h : linkB l u i = false) : cutB l u = false := by
  have : (List.range u.length).all (linkB l u) = false := by
    rw [List.all_eq_false]
    exact ⟨i, List.mem_range.2 hi, by simp [h]⟩
  unfold cutB; rw [this, Bool.and_false]; rfl
theorem cut_all {l : List Bnd} {u : List (Int × Bool)} (h1 : ∀ j, j < u.length → inB l u j = true) (h2 : ∀ j, j < u.length → linkB l u j = true) : cutB l u = decide (totalS l u u.length < 0) := by
  unfold cutB
  rw [List.all_eq_true.2 (fun j hj => h1 j (List.mem_range.1 hj)), List.all_eq_true.2 (fun j hj => h2 j (List.mem_range.1 hj))]
  simp
/-- a bound that lies in a list, as a value -/
theorem bnd_cells {w : World} {l : List Bnd} {p : Option Addr} (h : BndsIn w l p) {i : Nat} (hi : i < l.length) : ∃ b o, p = some ⟨b, o, none⟩ ∧ BndCells w b (o + i * 4) (bndAt l i) := by
  obtain ⟨b, o, e, hh⟩ := h.resolve_left (by omega)
  exact ⟨b, o, e, hh i hi⟩
theorem limit_f0 (a b c : Int) (w : World) : (Instr.field 98 (.agg #[.int .i64 a, .int .i64 b, .int .i64 c]) 0).run Try.prog w = .ok (.int .i64 a) w := by kernel_rfl
theorem limit_f1 (a b c : Int) (w : World) : (Instr.field 98 (.agg #[.int .i64 a, .int .i64 b, .int .i64 c]) 1).run Try.prog w = .ok (.int .i64 b) w := by kernel_rfl
attribute [local go_sem] limit_f0 limit_f1
theorem box3_new (X : World) (t : TypeId) : ((X.alloc (.cells #[.int .i64 0, .int .i64 0, .int .i64 0] t)).cell? ⟨X.heap.size, 0, none⟩ = some (.int .i64 0) ∧ (X.alloc (.cells #[.int .i64 0, .int .i64 0, .int .i64 0] t)).cell? ⟨X.heap.size, 1, none⟩ = some (.int .i64 0) ∧ (X.alloc (.cells #[.int .i64 0, .int .i64 0, .int .i64 0] t)).cell? ⟨X.heap.size, 2, none⟩ = some (.int .i64 0)) ∧
    (X.alloc (.cells #[.int .i64 0, .int .i64 0, .int .i64 0] t)).frozen? ⟨X.heap.size, 0, none⟩ = false ∧ (X.alloc (.cells #[.int .i64 0, .int .i64 0, .int .i64 0] t)).frozen? ⟨X.heap.size, 1, none⟩ = false ∧ (X.alloc (.cells #[.int .i64 0, .int .i64 0, .int .i64 0] t)).frozen? ⟨X.heap.size, 2, none⟩ = false :=
  ⟨⟨by simp, by simp, by simp⟩, by simp, by simp, by simp⟩
theorem limit_bare (X : World) (x : Bnd) (up : Bool) (f s m : Int) (hy : limOf x up = ⟨f, s, m⟩) (hlo : -1000000000000000 ≤ x.lo ∧ x.lo ≤ 1000000000000000) :
    Calls Try.prog 48 #[bndVal x, .bool up] X.drew fun e w' => e = .returned (.agg #[.int .i64 f, .int .i64 s, .int .i64 m]) ∧ Below X.heap.size X w' := by
  have hb0 : Below X.heap.size X X.drew := Below.drew (Below.refl _ _)
  exact (limit_any x up X.drew hlo).mono fun e w' h => ⟨by rw [h.1, hy]; rfl, hb0.trans (h.2.mono hb0.size)⟩
theorem limit_box (X : World) (x : Bnd) (up : Bool) (f s m : Int) (t : TypeId) (hy : limOf x up = ⟨f, s, m⟩) (hlo : -1000000000000000 ≤ x.lo ∧ x.lo ≤ 1000000000000000) :
    Calls Try.prog 48 #[bndVal x, .bool up] (X.drew.alloc (.cells #[.int .i64 0, .int .i64 0, .int .i64 0] t)) fun e w' => e = .returned (.agg #[.int .i64 f, .int .i64 s, .int .i64 m]) ∧ Below X.heap.size X w' ∧
      (w'.cell? ⟨X.heap.size, 0, none⟩ = some (.int .i64 0) ∧ w'.cell? ⟨X.heap.size, 1, none⟩ = some (.int .i64 0) ∧ w'.cell? ⟨X.heap.size, 2, none⟩ = some (.int .i64 0)) ∧
      (w'.frozen? ⟨X.heap.size, 0, none⟩ = false ∧ w'.frozen? ⟨X.heap.size, 1, none⟩ = false ∧ w'.frozen? ⟨X.heap.size, 2, none⟩ = false) ∧ X.heap.size < w'.heap.size := by
  have hb0 : Below X.heap.size X (X.drew.alloc (.cells #[.int .i64 0, .int .i64 0, .int .i64 0] t)) := below_alloc (Below.drew (Below.refl _ _)) _
  obtain ⟨⟨k0, k1, k2⟩, f0, f1, f2⟩ := box3_new X.drew t
  refine (limit_any x up _ hlo).mono ?_
  rintro e w' ⟨rfl, hb⟩
  have hz : X.heap.size < (X.drew.alloc (.cells #[.int .i64 0, .int .i64 0, .int .i64 0] t)).heap.size := cell_lt k0
  exact ⟨by rw [hy]; rfl, hb0.trans (hb.mono hb0.size), ⟨cell_below hb k0, cell_below hb k1, cell_below hb k2⟩,
    ⟨(hb.frozen (p := ⟨X.heap.size, 0, none⟩) hz).trans f0, (hb.frozen (p := ⟨X.heap.size, 1, none⟩) hz).trans f1, (hb.frozen (p := ⟨X.heap.size, 2, none⟩) hz).trans f2⟩, Nat.lt_of_lt_of_le hz hb.size⟩
theorem limBox_of {W : World} {b : Nat} {x : Lim} {u0 u1 u2 : Value} (h0 : W.cell? ⟨b, 0, none⟩ = some u0) (h1 : W.cell? ⟨b, 1, none⟩ = some u1) (h2 : W.cell? ⟨b, 2, none⟩ = some u2) :
    LimBox (((W.setCell ⟨b, 0, none⟩ (.int .i64 x.f)).setCell ⟨b, 1, none⟩ (.int .i64 x.s)).setCell ⟨b, 2, none⟩ (.int .i64 x.m)) b x := by
  have oth : ∀ {Z : World} {i j : Nat} {v v' : Value}, i ≠ j → Z.cell? ⟨b, j, none⟩ = some v → (Z.setCell ⟨b, i, none⟩ v').cell? ⟨b, j, none⟩ = some v := fun {Z i j v v'} hne hv => by
    rw [World.cell?_setCell_other Z ⟨b, i, none⟩ ⟨b, j, none⟩ _ (fun e => hne (by cases e; rfl))]; exact hv
  refine ⟨oth (by decide) (oth (by decide) (World.cell?_setCell_same _ _ _ h0)), oth (by decide) (World.cell?_setCell_same _ _ _ (oth (by decide) h1)), World.cell?_setCell_same _ _ _ (oth (by decide) (oth (by decide) h2))⟩
theorem limBox_new (W : World) (x : Lim) (t : TypeId) : LimBox (W.alloc (.cells #[.int .i64 x.f, .int .i64 x.s, .int .i64 x.m] t)) W.heap.size x := ⟨by simp, by simp, by simp⟩
theorem LimBox.below {X Y : World} {b : Nat} {x : Lim} (h : LimBox X b x) (hb : Below X.heap.size X Y) : LimBox Y b x := ⟨cell_below hb h.c0, cell_below hb h.c1, cell_below hb h.c2⟩
/-- a use in a box, and the bound that it names -/
structure UseAt (X : World) (b i : Nat) (up : Bool) (pb po : Nat) (xa xb xlo xhi : Int) : Prop where
  c0 : X.cell? ⟨b, 0, none⟩ = some (.int .i64 (i : Int))
  c1 : X.cell? ⟨b, 1, none⟩ = some (.bool up)
  d0 : X.cell? ⟨pb, po + i * 4, none⟩ = some (.int .i64 xa)
  d1 : X.cell? ⟨pb, po + i * 4 + 1, none⟩ = some (.int .i64 xb)
  d2 : X.cell? ⟨pb, po + i * 4 + 2, none⟩ = some (.int .i64 xlo)
  d3 : X.cell? ⟨pb, po + i * 4 + 3, none⟩ = some (.int .i64 xhi)
theorem UseAt.below {X Y : World} {b i pb po : Nat} {up : Bool} {xa xb xlo xhi : Int} (h : UseAt X b i up pb po xa xb xlo xhi) (hb : Below X.heap.size X Y) : UseAt Y b i up pb po xa xb xlo xhi := ⟨cell_below hb h.c0, cell_below hb h.c1, cell_below hb h.d0, cell_below hb h.d1, cell_below hb h.d2, cell_below hb h.d3⟩
theorem UseAt.keep {X Y : World} {b i pb po : Nat} {up : Bool} {xa xb xlo xhi : Int} (h : UseAt X b i up pb po xa xb xlo xhi) (hb : Below X.heap.size X Y) : Below X.heap.size X Y ∧ Y.cell? ⟨b, 0, none⟩ = some (.int .i64 (i : Int)) ∧ Y.cell? ⟨b, 1, none⟩ = some (.bool up) ∧ Y.cell? ⟨pb, po + i * 4, none⟩ = some (.int .i64 xa) ∧ Y.cell? ⟨pb, po + i * 4 + 1, none⟩ = some (.int .i64 xb) ∧ Y.cell? ⟨pb, po + i * 4 + 2, none⟩ = some (.int .i64 xlo) ∧ Y.cell? ⟨pb, po + i * 4 + 3, none⟩ = some (.int .i64 xhi) := by
  obtain ⟨c0, c1, d0, d1, d2, d3⟩ := h.below hb
  exact ⟨hb, c0, c1, d0, d1, d2, d3⟩
theorem UseAt.keepL {X Y : World} {b i pb po bl ol : Nat} {up : Bool} {xa xb xlo xhi : Int} {v : Value} (h : UseAt X b i up pb po xa xb xlo xhi) (hc : X.cell? ⟨bl, ol, none⟩ = some v) (hb : Below X.heap.size X Y) : Below X.heap.size X Y ∧ Y.cell? ⟨b, 0, none⟩ = some (.int .i64 (i : Int)) ∧ Y.cell? ⟨b, 1, none⟩ = some (.bool up) ∧ Y.cell? ⟨pb, po + i * 4, none⟩ = some (.int .i64 xa) ∧ Y.cell? ⟨pb, po + i * 4 + 1, none⟩ = some (.int .i64 xb) ∧ Y.cell? ⟨pb, po + i * 4 + 2, none⟩ = some (.int .i64 xlo) ∧ Y.cell? ⟨pb, po + i * 4 + 3, none⟩ = some (.int .i64 xhi) ∧ Y.cell? ⟨bl, ol, none⟩ = some v := by
  obtain ⟨c0, c1, d0, d1, d2, d3⟩ := h.below hb
  exact ⟨hb, c0, c1, d0, d1, d2, d3, cell_below hb hc⟩
set_option maxRecDepth 100000 in
set_option maxHeartbeats 8000000 in
theorem contradicts_any (n : Nat) (l : List Bnd) (u : List (Int × Bool)) (p q : Option Addr) (cp cq : Nat) (w : World) (hl : LimsOk n l) (hu : u.length ≤ 240) (hs : BndsIn w l p) (hq : UsesIn w u q) :
    Calls Try.prog 25 #[.slice p l.length cp, .slice q u.length cq] w fun e w' => e = .returned (.bool (cutB l u)) ∧ Below w.heap.size w w' := by
  have HL := Lib.hid hl
  have HS := Lib.hid hs
  have HQ := Lib.hid hq
  have h240 := hl.len
  clear hl hs hq
  go_enter Try.func25, Try.ntmps25
  go_wp2_with fail
  go_loopw [4, 6, 14] (fun s4 s6 i wr => ∃ (k : Nat) (v v4 : Value), k ≤ u.length ∧ s4 = v4 ∧ s6 = v ∧ i = .int .i64 (k : Int) ∧ Hid (∀ j, j < k → inB l u j = true) ∧ Hid (Below w.heap.size w wr)) (fun _ _ i _ => u.length - (intOf i).toNat)
  case atStart => exact ⟨0, _, _, Nat.zero_le _, rfl, rfl, rfl, Lib.hid (fun j hj => absurd hj (Nat.not_lt_zero j)), Lib.hid (Below.refl _ _)⟩
  case round =>
    obtain ⟨k, v, v4, hk, rfl, rfl, rfl, HA, HB⟩ := hrel
    by_cases hlt : k < u.length
    · have hki : (k : Int) < u.length := by omega
      have HK := Lib.hid hlt
      obtain ⟨b, o, rfl, hi2⟩ := (HQ.out.below HB.out).resolve_left (by omega)
      obtain ⟨x0, x1⟩ := hi2 k hlt
      have hz := cell_lt x0
      have HI := Lib.hid (fun W => isIndex_any (useAt u k).1 (l.length : Int) W (by omega))
      have B1 := Lib.hid (HB.out.trans ((below_alloc (Below.refl wr.heap.size wr) (.cells #[.int .i64 (useAt u k).1, .bool (useAt u k).2] 41)).mono HB.out.size))
      have HIN : Hid ((decide (0 ≤ (useAt u k).1) && decide ((useAt u k).1 ≤ (l.length : Int) - 1)) = inB l u k) := Lib.hid rfl
      rw [HIN.out] at HI
      have w1 : IntKind.i64.wrap ((k : Int) + 1) = (k : Int) + 1 := IntWalk.i64_in _ (by omega)
      clear hi2 hlt
      cases hin : inB l u k
      · have HC := Lib.hid (cut_in HK.out hin)
        rw [hin] at HI
        clear hin HIN
        go_wp2_with (go_at_call 47; refine (HI.out _).mono ?_; rintro e w1 ⟨rfl, rfl⟩)
        go_ret
        exact ⟨by rw [HC.out]; rfl, B1.out⟩
      · have HA2 : Hid (∀ j, j < k + 1 → inB l u j = true) := Lib.hid fun j hj => by
          by_cases e : j = k
          · subst e; exact hin
          · exact HA.out j (by omega)
        rw [hin] at HI
        clear hin HIN
        go_wp2_with (go_at_call 47; refine (HI.out _).mono ?_; rintro e w1 ⟨rfl, rfl⟩)
        go_roundw
        case rel => exact ⟨k + 1, _, _, HK.out, rfl, rfl, by simp, HA2, B1⟩
        case measure => have := HK.out; simp [intOf]; omega
    · have hki : ¬ ((k : Int) < u.length) := by omega
      obtain rfl : k = u.length := by omega
      clear hlt hki
      go_wp2_with fail
      go_loopw [4, 7, 8, 9, 10, 11, 27] (fun s4 s7 s8 s9 s10 s11 i wx => ∃ (k : Nat) (v4 v8 v9 v10 v11 : Value), k ≤ u.length ∧ s4 = v4 ∧ s7 = .int .i64 (totalS l u k) ∧ s8 = v8 ∧ s9 = v9 ∧ s10 = v10 ∧ s11 = v11 ∧ i = .int .i64 (k : Int) ∧ Hid (∀ j, j < k → linkB l u j = true) ∧ Hid (Below w.heap.size w wx)) (fun _ _ _ _ _ _ i _ => u.length - (intOf i).toNat)
      case atStart => exact ⟨0, _, _, _, _, _, Nat.zero_le _, rfl, rfl, rfl, rfl, rfl, rfl, rfl, Lib.hid (fun j hj => absurd hj (Nat.not_lt_zero j)), HB⟩
      case round =>
        obtain ⟨k, v4, v8, v9, v10, v11, hk, rfl, rfl, rfl, rfl, rfl, rfl, rfl, HK2, HB2⟩ := hrel
        by_cases hlt : k < u.length
        · have hki : (k : Int) < u.length := by omega
          have HK := Lib.hid hlt
          obtain ⟨b, o, rfl, hi2⟩ := (HQ.out.below HB2.out).resolve_left (by omega)
          obtain ⟨x0, x1⟩ := hi2 k hlt
          obtain ⟨k2, hk2⟩ : ∃ k2, k2 = (k + 1) % u.length := ⟨_, rfl⟩
          have hk2l : k2 < u.length := by rw [hk2]; exact Nat.mod_lt _ (by omega)
          obtain ⟨y0, y1⟩ := hi2 k2 hk2l
          have hz := cell_lt x0
          have w1 : IntKind.i64.wrap ((k : Int) + 1) = (k : Int) + 1 := IntWalk.i64_in _ (by omega)
          have w2 : IntKind.i64.wrap (((k : Int) + 1).tmod (u.length : Int)) = (k2 : Int) := by
            rw [Int.tmod_eq_emod_of_nonneg (by omega), show ((k : Int) + 1) % (u.length : Int) = (k2 : Int) by rw [hk2]; simp, IntWalk.i64_in _ (by omega)]
          have w2' : ((k : Int) + 1) % (u.length : Int) = (k2 : Int) := by rw [hk2]; simp
          have w3 : ((u.length : Int) == 0) = false := by have : (u.length : Int) ≠ 0 := by omega
                                                          simpa using this
          have w3' : ¬ ((u.length : Int) = 0) := by omega
          have hk2i : (k2 : Int) < u.length := by omega
          have HK2X := Lib.hid hk2
          have i1 := inB_lt (HA.out k hlt)
          have i2 := inB_lt (HA.out k2 hk2l)
          obtain ⟨pb, po, rfl, hbc1⟩ := bnd_cells (HS.out.below HB2.out) i1.2
          obtain ⟨pb', po', hpe, hbc2⟩ := bnd_cells (HS.out.below HB2.out) i2.2
          cases hpe
          have HLO1 := Lib.hid (HL.out.ok _ i1.2).lo
          have HLO2 := Lib.hid (HL.out.ok _ i2.2).lo
          have HLM := Lib.hid (useLim_bd HL.out (HA.out k hlt))
          have HTB := Lib.hid (totalS_bd (l := l) (u := u) HL.out k (fun j hj => HA.out j (by omega)))
          have HTS := Lib.hid (show totalS l u (k + 1) = totalS l u k + (useLim l u k).m from rfl)
          have HLK := Lib.hid (show linkB l u k = decide ((useLim l u k).s = (useLim l u k2).f) by unfold linkB; rw [← hk2])
          have HU1 : Hid (useLim l u k = limOf (bndAt l (useAt u k).1.toNat) (useAt u k).2) := Lib.hid rfl
          have HU2 : Hid (useLim l u k2 = limOf (bndAt l (useAt u k2).1.toNat) (useAt u k2).2) := Lib.hid rfl
          obtain ⟨j1, hj1⟩ : ∃ j1 : Nat, (useAt u k).1 = (j1 : Int) := ⟨(useAt u k).1.toNat, by omega⟩
          obtain ⟨j2, hj2⟩ : ∃ j2 : Nat, (useAt u k2).1 = (j2 : Int) := ⟨(useAt u k2).1.toNat, by omega⟩
          rw [hj1] at x0 i1 hbc1 HLO1 HU1
          rw [hj2] at y0 i2 hbc2 HLO2 HU2
          simp only [Int.toNat_natCast] at hbc1 hbc2 HLO1 HLO2 HU1 HU2 i1 i2
          generalize (useAt u k).2 = up1 at *
          generalize (useAt u k2).2 = up2 at *
          have HJ1 := Lib.hid hj1
          have hj1i : (j1 : Int) < l.length := by omega
          have hj2i : (j2 : Int) < l.length := by omega
          generalize bndAt l j1 = X1 at *
          generalize bndAt l j2 = X2 at *
          obtain ⟨a1, b1, lo1, hi1⟩ := X1
          obtain ⟨a2, b2, lo2, hi2'⟩ := X2
          obtain ⟨⟨d0, d1⟩, d2, d3⟩ := hbc1
          obtain ⟨⟨e0, e1⟩, e2, e3⟩ := hbc2
          dsimp only at d0 d1 d2 d3 e0 e1 e2 e3
          have BB := below_alloc (below_alloc (Below.refl wr.heap.size wr) (.cells #[.int .i64 (j1 : Int), .bool up1] 41)) (.cells #[.int .i64 (j2 : Int), .bool up2] 41)
          have HUA : Hid (UseAt ((wr.alloc (.cells #[.int .i64 (j1 : Int), .bool up1] 41)).alloc (.cells #[.int .i64 (j2 : Int), .bool up2] 41)) wr.heap.size j1 up1 pb po a1 b1 lo1 hi1) := Lib.hid ⟨by simp, by simp, cell_below BB d0, cell_below BB d1, cell_below BB d2, cell_below BB d3⟩
          have HUB : Hid (UseAt ((wr.alloc (.cells #[.int .i64 (j1 : Int), .bool up1] 41)).alloc (.cells #[.int .i64 (j2 : Int), .bool up2] 41)) (wr.heap.size + 1) j2 up2 pb po a2 b2 lo2 hi2') := Lib.hid ⟨by simp, by simp, cell_below BB e0, cell_below BB e1, cell_below BB e2, cell_below BB e3⟩
          have HB4 := Lib.hid (HB2.out.trans (BB.mono HB2.out.size))
          clear hi2 hlt hk2 hj1 hj2 BB
          go_upto_region 12 with fail
          generalize (wr.alloc (.cells #[.int .i64 (j1 : Int), .bool up1] 41)).alloc (.cells #[.int .i64 (j2 : Int), .bool up2] 41) = Y at *
          clear x0 x1 y0 y1 hz d0 d1 d2 d3 e0 e1 e2 e3
          try rw [w2']
          clear w2 w2' w3 w3'
          obtain ⟨c0, c1, d0, d1, d2, d3⟩ := HUA.out
          have hz := cell_lt c0
          have hzd := cell_lt d0
          obtain ⟨⟨lf, ls, lm⟩, hY1⟩ : ∃ y, limOf ⟨a1, b1, lo1, hi1⟩ up1 = y := ⟨_, rfl⟩
          rw [hY1] at HU1
          have HY1 := Lib.hid hY1
          clear hY1
          go_cut [11] from 40 to 47 (fun sb wx => ∃ b, sb = .pointer (some ⟨b, 0, none⟩) ∧ Hid (LimBox wx b ⟨lf, ls, lm⟩) ∧ Hid (Below Y.heap.size Y wx))
          case first =>
            have hB0 : Below Y.heap.size Y Y.drew := Below.drew (Below.refl _ _)
            go_region_held3 (fun w' => Below Y.heap.size Y w' ∧ w'.cell? ⟨wr.heap.size, 0, none⟩ = some (.int .i64 (j1 : Int)) ∧ w'.cell? ⟨wr.heap.size, 1, none⟩ = some (.bool up1) ∧ w'.cell? ⟨pb, po + j1 * 4, none⟩ = some (.int .i64 a1) ∧ w'.cell? ⟨pb, po + j1 * 4 + 1, none⟩ = some (.int .i64 b1) ∧ w'.cell? ⟨pb, po + j1 * 4 + 2, none⟩ = some (.int .i64 lo1) ∧ w'.cell? ⟨pb, po + j1 * 4 + 3, none⟩ = some (.int .i64 hi1))
              (first | exact HUA.out.keep hB0 | exact HUA.out.keep (below_alloc hB0 _) | exact HUA.out.keep hb2 | exact HUA.out.keep (below_alloc hb2 _) | exact HUA.out.keep (((hb2.setCell (Nat.le_refl _) _).setCell (Nat.le_refl _) _).setCell (Nat.le_refl _) _) | exact HUA.out.keep ((((below_alloc hb2 _).setCell hb2.size _).setCell hb2.size _).setCell hb2.size _))
              (first | (go_at_call 48; refine (limit_bare Y ⟨a1, b1, lo1, hi1⟩ up1 lf ls lm HY1.out HLO1.out).mono ?_; rintro e w2 ⟨rfl, hb2⟩) |
                (go_at_call 48; refine (limit_box Y ⟨a1, b1, lo1, hi1⟩ up1 lf ls lm 98 HY1.out HLO1.out).mono ?_; rintro e w2 ⟨rfl, hb2, ⟨k0, k1, k2⟩, ⟨f0, f1, f2⟩, hz2⟩))
            all_goals
              go_wp2_with fail
              go_meet
            · refine ⟨w2.heap.size, rfl, Lib.hid ?_, Lib.hid ?_⟩
              · exact limBox_new w2 ⟨lf, ls, lm⟩ 98
              · exact below_alloc hb2 _
            · refine ⟨Y.heap.size, rfl, Lib.hid ?_, Lib.hid ?_⟩
              · exact limBox_of (x := ⟨lf, ls, lm⟩) k0 k1 k2
              · exact ((hb2.setCell (p := ⟨Y.heap.size, 0, none⟩) (Nat.le_refl _) _).setCell (p := ⟨Y.heap.size, 1, none⟩) (Nat.le_refl _) _).setCell (p := ⟨Y.heap.size, 2, none⟩) (Nat.le_refl _) _
          case rest =>
            obtain ⟨bl, rfl, HLB, HYB⟩ := hcut
            clear c0 c1 d0 d1 d2 d3 hz hzd HUA
            obtain ⟨⟨mf, ms, mm⟩, hY2⟩ : ∃ y, limOf ⟨a2, b2, lo2, hi2'⟩ up2 = y := ⟨_, rfl⟩
            rw [hY2] at HU2
            have HY2 := Lib.hid hY2
            obtain ⟨g0, g1, g2⟩ := HLB.out
            dsimp only at g0 g1 g2
            obtain ⟨e0, e1, d0, d1, d2, d3⟩ := HUB.out.below HYB.out
            have hzl := cell_lt g0
            have hze := cell_lt e0
            have hzd := cell_lt d0
            have HLI := Lib.hid (fun W => limit_any ⟨a2, b2, lo2, hi2'⟩ up2 W HLO2.out)
            rw [hY2] at HLI
            unfold limVal at HLI
            have HB5 := Lib.hid (HB4.out.trans (HYB.out.mono HB4.out.size))
            have hlm := HLM.out
            have htb := HTB.out
            have hts := HTS.out
            have hlk := HLK.out
            rw [HU1.out] at hlm hts hlk
            rw [HU2.out] at hlk
            dsimp only at hlm hts hlk
            have HTS2 := Lib.hid hts
            have HLK2 := Lib.hid hlk
            generalize totalS l u k = T at *
            have w5 : IntKind.i64.wrap (T + lm) = T + lm := IntWalk.i64_in _ (by omega)
            clear hY2 hlm htb hts hlk
            go_upto_region 13 with fail
            have hB0 : Below wc.heap.size wc wc.drew := Below.drew (Below.refl _ _)
            have HUB2 := Lib.hid (HUB.out.below HYB.out)
            have HLB2 := Lib.hid HLB.out
            go_region_held3 (fun w' => Below wc.heap.size wc w' ∧ w'.cell? ⟨wr.heap.size + 1, 0, none⟩ = some (.int .i64 (j2 : Int)) ∧ w'.cell? ⟨wr.heap.size + 1, 1, none⟩ = some (.bool up2) ∧ w'.cell? ⟨pb, po + j2 * 4, none⟩ = some (.int .i64 a2) ∧ w'.cell? ⟨pb, po + j2 * 4 + 1, none⟩ = some (.int .i64 b2) ∧ w'.cell? ⟨pb, po + j2 * 4 + 2, none⟩ = some (.int .i64 lo2) ∧ w'.cell? ⟨pb, po + j2 * 4 + 3, none⟩ = some (.int .i64 hi2') ∧ w'.cell? ⟨bl, 1, none⟩ = some (.int .i64 ls))
              (first | exact HUB2.out.keepL g1 hB0 | exact HUB2.out.keepL g1 hb2)
              ((go_at_call 48; refine (limit_bare wc ⟨a2, b2, lo2, hi2'⟩ up2 mf ms mm HY2.out HLO2.out).mono ?_; rintro e w2 ⟨rfl, hb2⟩))
            have HB6 := Lib.hid (HB5.out.trans (hb2.mono HB5.out.size))
            have h2' : w2.cell? ⟨bl, 2, none⟩ = some (.int .i64 lm) := cell_below hb2 g2
            have hzl2 := cell_lt h2'
            clear e0 e1 d0 d1 d2 d3 hzl hze hzd g0 g1 g2 hb2 hB0
            by_cases hls : ls = mf
            · have hb' : (ls != mf) = false := by simp [hls]
              have HK3 : Hid (∀ j, j < k + 1 → linkB l u j = true) := Lib.hid fun j hj => by
                by_cases e : j = k
                · subst e; rw [HLK2.out]; simpa using hls
                · exact HK2.out j (by omega)
              clear hls
              go_wp2_with fail
              go_roundw
              case rel => exact ⟨k + 1, _, _, _, _, _, HK.out, rfl, by rw [HTS2.out], rfl, rfl, rfl, rfl, by simp, HK3, HB6⟩
              case measure => have := HK.out; simp [intOf]; omega
            · have hb' : (ls != mf) = true := by simpa using hls
              have HC := Lib.hid (cut_link HK.out (show linkB l u k = false by rw [HLK2.out]; simpa using hls))
              clear hls
              go_wp2_with fail
              go_ret
              exact ⟨by rw [HC.out]; rfl, HB6.out⟩
        · have hki : ¬ ((k : Int) < u.length) := by omega
          obtain rfl : k = u.length := by omega
          have HC := Lib.hid (cut_all HA.out HK2.out)
          go_wp2_with fail
          go_ret
          exact ⟨by rw [HC.out]; rfl, HB2.out⟩
theorem refute_any (n : Nat) (l : List Bnd) (u : List (Int × Bool)) (p q : Option Addr) (cp cq : Nat) (w : World) (he : netErr n l = 0) (hu : u.length ≤ 240) (hs : BndsIn w l p) (hq : UsesIn w u q) :
    Calls Try.prog 10 #[.int .i64 n, .slice p l.length cp, .slice q u.length cq] w fun e w' => e = .returned (.int .i64 (if cutB l u = true then 0 else 7)) ∧ Below w.heap.size w w' := by
  obtain ⟨hn, hl⟩ := lims_of he
  have HC := Lib.hid (checkNet_any n l p cp w (by have := hl.len; unfold maxLen; omega) hs)
  rw [he] at HC
  have HN := Lib.hid (fun W (hb : Below w.heap.size w W) => contradicts_any n l u p q cp cq W hl hu (hs.below hb) (hq.below hb))
  have hui : ¬ (240 < (u.length : Int)) := by omega
  clear hs hq he hl
  obtain ⟨c, hc⟩ : ∃ c, cutB l u = c := ⟨_, rfl⟩
  rw [hc] at HN ⊢
  clear hc
  cases c
  · go_enter Try.func10, Try.ntmps10
    go_wp2_with (first | (go_at_call 21; refine HC.out.mono ?_; rintro e w1 ⟨rfl, hb⟩; have HB := Lib.hid hb; clear hb) | (go_at_call 25; refine (HN.out _ HB.out).mono ?_; rintro e w2 ⟨rfl, hm⟩; have HM := Lib.hid hm; clear hm))
    go_ret
    exact ⟨rfl, HB.out.trans (HM.out.mono HB.out.size)⟩
  · go_enter Try.func10, Try.ntmps10
    go_wp2_with (first | (go_at_call 21; refine HC.out.mono ?_; rintro e w1 ⟨rfl, hb⟩; have HB := Lib.hid hb; clear hb) | (go_at_call 25; refine (HN.out _ HB.out).mono ?_; rintro e w2 ⟨rfl, hm⟩; have HM := Lib.hid hm; clear hm))
    go_ret
    exact ⟨rfl, HB.out.trans (HM.out.mono HB.out.size)⟩
end Go.Proofs.Ytlelamjbfjneiaa.Ct
