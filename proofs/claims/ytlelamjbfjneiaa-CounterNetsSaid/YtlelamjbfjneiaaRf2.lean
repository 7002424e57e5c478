/- The reference's Refute, whatever it is asked; the program's refusals. -/
import Derived.Test.YtlelamjbfjneiaaRk
namespace Go.Proofs.Ytlelamjbfjneiaa.Ct
open Go Go.RowKit Go.Shelf
attribute [local go_sem] Oper.semAt_some
theorem btR {A B C : World} (h : Below A.heap.size A B) (k : Below B.heap.size B C) : Below A.heap.size A C := h.trans (k.mono h.size)
/-- what Refute answers -/
def refErr (n : Int) (l : List Bnd) (u : List (Int × Bool)) : Int := if netErr n l = 0 then (if u.length ≤ 240 then (if cutB l u = true then 0 else 7) else 2) else netErr n l
set_option maxRecDepth 100000 in
set_option maxHeartbeats 2000000 in
theorem refute_all (n : Int) (l : List Bnd) (u : List (Int × Bool)) (p q : Option Addr) (cp cq : Nat) (w : World) (hl : l.length ≤ maxLen) (hs : BndsIn w l p) (hq : UsesIn w u q) :
    Calls Try.prog 10 #[.int .i64 n, .slice p l.length cp, .slice q u.length cq] w fun e w' => e = .returned (.int .i64 (refErr n l u)) ∧ Below w.heap.size w w' := by
  unfold refErr
  have HC := Lib.hid (checkNet_any n l p cp w hl hs)
  by_cases he : netErr n l = 0
  · rw [if_pos he]
    by_cases hu : u.length ≤ 240
    · rw [if_pos hu]
      have hn : 1 ≤ n ∧ n ≤ 16 := by
        by_cases h : 1 ≤ n ∧ n ≤ 16
        · exact h
        · unfold netErr at he; rw [if_neg h] at he; cases he
      obtain ⟨N, rfl⟩ : ∃ N : Nat, n = (N : Int) := ⟨n.toNat, by omega⟩
      exact refute_any N l u p q cp cq w he hu hs hq
    · rw [if_neg hu]
      rw [he] at HC
      have hui : 240 < (u.length : Int) := by omega
      clear hs hq he hu hl
      go_enter Try.func10, Try.ntmps10
      go_wp2_with (go_at_call 21; refine HC.out.mono ?_; rintro e w1 ⟨rfl, hb⟩; have HB := Lib.hid hb; clear hb)
      go_ret
      exact ⟨rfl, HB.out⟩
  · rw [if_neg he]
    generalize netErr n l = ne at *
    have hne : (ne != 0) = true := by simpa using he
    clear hs hq hl
    go_enter Try.func10, Try.ntmps10
    go_wp2_with (go_at_call 21; refine HC.out.mono ?_; rintro e w1 ⟨rfl, hb⟩; have HB := Lib.hid hb; clear hb)
    go_ret
    exact ⟨rfl, HB.out⟩
/-- the use before use i -/
def befU (u : List (Int × Bool)) (i : Nat) : Nat := if i = 0 then u.length - 1 else i - 1
theorem link_bef {l : List Bnd} {u : List (Int × Bool)} : (∀ i, i < u.length → linkB l u i = true) ↔ ∀ i, i < u.length → (useLim l u i).f = (useLim l u (befU u i)).s := by
  have key : ∀ i, i < u.length → befU u i < u.length ∧ (befU u i + 1) % u.length = i := fun i hi => by
    unfold befU
    by_cases h : i = 0
    · subst h
      rw [if_pos rfl, show u.length - 1 + 1 = u.length by omega, Nat.mod_self]
      exact ⟨by omega, rfl⟩
    · rw [if_neg h, show i - 1 + 1 = i by omega, Nat.mod_eq_of_lt hi]
      exact ⟨by omega, rfl⟩
  constructor
  · intro h i hi
    obtain ⟨h1, h2⟩ := key i hi
    have := h _ h1
    unfold linkB at this
    rw [h2, decide_eq_true_eq] at this
    exact this.symm
  · intro h i hi
    unfold linkB
    rw [decide_eq_true_eq]
    have hj : (i + 1) % u.length < u.length := Nat.mod_lt _ (by omega)
    have := h _ hj
    have e : befU u ((i + 1) % u.length) = i := by
      unfold befU
      by_cases hl : i + 1 < u.length
      · rw [Nat.mod_eq_of_lt hl, if_neg (by omega)]; omega
      · rw [show i + 1 = u.length by omega, Nat.mod_self, if_pos rfl]; omega
    rw [e] at this
    exact this.symm
set_option maxRecDepth 100000 in
set_option maxHeartbeats 8000000 in
theorem rrefute_all (n : Int) (l : List Bnd) (u : List (Int × Bool)) (p q : Option Addr) (cp cq : Nat) (w : World) (hl : l.length ≤ maxLen) (hul : u.length ≤ maxLen) (hs : BndsIn w l p) (hq : UsesIn w u q) :
    Calls Try.prog 12 #[.int .i64 n, .slice p l.length cp, .slice q u.length cq] w fun e w' => e = .returned (.int .i64 (refErr n l u)) ∧ Below w.heap.size w w' := by
  have HC := Lib.hid (rchecked_any n l p cp w hl hs)
  obtain ⟨r, hr⟩ : ∃ r, r = refErr n l u := ⟨_, rfl⟩
  rw [← hr]
  unfold refErr at hr
  unfold maxLen at hul
  by_cases he : netErr n l = 0
  · rw [if_pos he] at hr
    rw [he] at HC
    obtain ⟨hn, hlo⟩ : (1 ≤ n ∧ n ≤ 16) ∧ LimsOk n.toNat l := by
      have hn : 1 ≤ n ∧ n ≤ 16 := by
        by_cases h : 1 ≤ n ∧ n ≤ 16
        · exact h
        · unfold netErr at he; rw [if_neg h] at he; cases he
      obtain ⟨N, rfl⟩ : ∃ N : Nat, n = (N : Int) := ⟨n.toNat, by omega⟩
      exact ⟨hn, (lims_of he).2⟩
    have HLO := Lib.hid hlo
    have HR := Lib.hid hr
    have HS := Lib.hid hs
    have HQ := Lib.hid hq
    by_cases hu : u.length ≤ 240
    · have hui : ¬ 240 < (u.length : Int) := by omega
      have HU := Lib.hid hu
      have HRE := Lib.hid (fun i up f s m W (hb : Below w.heap.size w W) (hi : i < l.length) (hlm : limOf (bndAt l i) up = ⟨f, s, m⟩) => rends_any l i up p cp W f s m (by have := HLO.out.len; omega) hi (HLO.out.ok i hi).lo (HS.out.below hb) hlm)
      clear hs hq he hr hlo hn hl hul
      go_enter Try.func12, Try.ntmps12
      go_wp2_with (go_at_call 23; refine HC.out.mono ?_; rintro e w1 ⟨rfl, hb⟩; have HB := Lib.hid hb; clear hb)
      clear hui hu HC
      go_loopw [6, 9] (fun s6 s9 wr => ∃ (k : Nat), k ≤ u.length ∧ s6 = .int .i64 0 ∧ s9 = .int .i64 (k : Int) ∧ Hid (∀ j, j < k → inB l u j = true) ∧ Hid (Below w.heap.size w wr)) (fun _ i _ => u.length - (intOf i).toNat)
      case atStart => exact ⟨0, Nat.zero_le _, rfl, rfl, Lib.hid (fun j hj => absurd hj (Nat.not_lt_zero j)), HB⟩
      case round =>
        clear HB
        obtain ⟨k, hk, rfl, rfl, HA, HB⟩ := hrel
        by_cases hlt : k < u.length
        · have hki : (k : Int) < u.length := by omega
          have HK := Lib.hid hlt
          obtain ⟨b, o, rfl, hi2⟩ := (HQ.out.below HB.out).resolve_left (by omega)
          obtain ⟨x0, x1⟩ := hi2 k hlt
          have hz := cell_lt x0
          have w1 : IntKind.i64.wrap ((k : Int) + 1) = (k : Int) + 1 := IntWalk.i64_in _ (by have := HU.out; omega)
          have HIN : Hid (inB l u k = (decide (0 ≤ (useAt u k).1) && decide ((useAt u k).1 ≤ (l.length : Int) - 1))) := Lib.hid rfl
          have HNO : Hid (inB l u k = false → r = 7) := Lib.hid fun h => by
            rw [HR.out, if_pos HU.out, if_neg (by rw [cut_in HK.out h]; decide)]
          clear hi2 hlt hk
          generalize (useAt u k).1 = xi at *
          by_cases g1 : xi < 0
          · have HRR := Lib.hid (HNO.out (by rw [HIN.out]; simp; omega))
            go_wp2_with fail
            go_ret
            exact ⟨by rw [HRR.out]; rfl, HB.out⟩
          · by_cases g2 : (l.length : Int) ≤ xi
            · have HRR := Lib.hid (HNO.out (by rw [HIN.out]; simp; omega))
              go_wp2_with fail
              go_ret
              exact ⟨by rw [HRR.out]; rfl, HB.out⟩
            · have HYE := Lib.hid (show inB l u k = true by rw [HIN.out]; simp; omega)
              go_wp2_with fail
              go_roundw
              case rel => exact ⟨k + 1, HK.out, rfl, by simp, Lib.hid (fun j hj => (by
                by_cases e : j = k
                · rw [e]; exact HYE.out
                · exact HA.out j (by omega))), HB⟩
              case measure => have := HK.out; simp [intOf]; omega
        · have hki : ¬ ((k : Int) < u.length) := by omega
          obtain rfl : k = u.length := by omega
          clear hlt hk
          go_wp2_with fail
          clear hki
          generalize wr = W4 at *
          go_loopw [6, 8, 10, 11, 12, 13, 14, 15, 16, 17] (fun s6 s8 s10 s11 s12 s13 s14 s15 s16 s17 wr => ∃ (k : Nat) (v11 v12 v13 v14 v15 v16 v17 : Value), k ≤ u.length ∧ s6 = .int .i64 0 ∧ s8 = .int .i64 (totalS l u k) ∧ s10 = .int .i64 (k : Int) ∧ s11 = v11 ∧ s12 = v12 ∧ s13 = v13 ∧ s14 = v14 ∧ s15 = v15 ∧ s16 = v16 ∧ s17 = v17 ∧ Hid (∀ j, j < k → (useLim l u j).f = (useLim l u (befU u j)).s) ∧ Hid (Below w.heap.size w wr)) (fun _ _ i _ _ _ _ _ _ _ _ => u.length - (intOf i).toNat)
          case atStart => exact ⟨0, _, _, _, _, _, _, _, Nat.zero_le _, rfl, rfl, rfl, rfl, rfl, rfl, rfl, rfl, rfl, rfl, Lib.hid (fun j hj => absurd hj (Nat.not_lt_zero j)), HB⟩
          case round =>
            clear HB
            obtain ⟨k, v11, v12, v13, v14, v15, v16, v17, hk, rfl, rfl, rfl, rfl, rfl, rfl, rfl, rfl, rfl, rfl, HLK, HB⟩ := hrel
            by_cases hlt : k < u.length
            · have hki : (k : Int) < u.length := by omega
              have HK := Lib.hid hlt
              have hun := HU.out
              have w1 : IntKind.i64.wrap ((k : Int) + 1) = (k : Int) + 1 := IntWalk.i64_in _ (by omega)
              have w2 : IntKind.i64.wrap ((u.length : Int) - 1) = (u.length : Int) - 1 := IntWalk.i64_in _ (by omega)
              obtain ⟨L1, hL1⟩ : ∃ L1 : Nat, u.length = L1 + 1 := ⟨u.length - 1, by omega⟩
              obtain ⟨b, o, rfl, hi2⟩ := (HQ.out.below HB.out).resolve_left (by omega)
              have HI2 := Lib.hid hi2
              obtain ⟨⟨y0, y1⟩, hye⟩ : ∃ r, r = useAt u L1 := ⟨_, rfl⟩
              obtain ⟨x0, x1⟩ := hi2 L1 (by omega)
              rw [← hye] at x0 x1
              dsimp only at x0 x1
              have hz := cell_lt x0
              have HYE := Lib.hid hye
              have HL1 := Lib.hid hL1
              have hL1i : (0 : Int) < (u.length : Int) := by omega
              have w3 : (u.length : Int) - 1 = (L1 : Int) := by omega
              have w2b : IntKind.i64.wrap ((u.length : Int) - 1) = (L1 : Int) := by rw [w2]; omega
              have hL1l : (L1 : Int) < (u.length : Int) := by omega
              have hL10 : (0 : Int) ≤ (L1 : Int) := by omega
              clear hye hL1 w2 w3
              go_upto_region 16 with fail
              clear w2b hL1i hL1l hL10
              have hbx := below_alloc (Below.refl wr.heap.size wr) (.cells #[.int .i64 y0, .bool y1] 40)
              have HB5 := Lib.hid (btR HB.out hbx)
              have HBV := Lib.hid hbx
              have HC0 : Hid ((wr.alloc (.cells #[.int .i64 y0, .bool y1] 40)).cell? ⟨wr.heap.size, 0, none⟩ = some (.int .i64 y0)) := Lib.hid (by simp)
              have HC1 : Hid ((wr.alloc (.cells #[.int .i64 y0, .bool y1] 40)).cell? ⟨wr.heap.size, 1, none⟩ = some (.bool y1)) := Lib.hid (by simp)
              have HF0 : Hid ((wr.alloc (.cells #[.int .i64 y0, .bool y1] 40)).frozen? ⟨wr.heap.size, 0, none⟩ = false) := Lib.hid (by simp)
              have HF1 : Hid ((wr.alloc (.cells #[.int .i64 y0, .bool y1] 40)).frozen? ⟨wr.heap.size, 1, none⟩ = false) := Lib.hid (by simp)
              have HGE := Lib.hid (show w.heap.size ≤ wr.heap.size from HB.out.size)
              clear hbx x0 x1 hz hun hi2
              generalize wr.alloc (.cells #[.int .i64 y0, .bool y1] 40) = W5 at *
              generalize hbb : wr.heap.size = b11 at *
              cases k with
              | zero =>
                have HBE : Hid (useAt u (befU u 0) = (y0, y1)) := Lib.hid (by unfold befU; rw [if_pos rfl, HL1.out, Nat.add_sub_cancel, ← HYE.out])
                have HBW : Hid (Below wr.heap.size wr W5) := Lib.hid (by rw [hbb]; exact HBV.out)
                have HB6 := HB5
                clear HYE HL1 hbb HF0 HF1 HGE HBV HB
                generalize W5 = W6 at *
                generalize y0 = bi at *
                generalize y1 = bu at *
                obtain ⟨⟨z0, z1⟩, hze⟩ : ∃ r, r = useAt u 0 := ⟨_, rfl⟩
                obtain ⟨z0c, z1c⟩ := HI2.out 0 (by have := HK.out; omega)
                have z0c := cell_below HBW.out z0c
                have z1c := cell_below HBW.out z1c
                rw [← hze] at z0c z1c
                dsimp only at z0c z1c
                simp only [Nat.zero_mul, Nat.add_zero] at z0c z1c
                have hin := inB_lt (HA.out 0 HK.out)
                have hib := inB_lt (HA.out (befU u 0) (by have := HK.out; unfold befU; split <;> omega))
                rw [← hze] at hin
                rw [HBE.out] at hib
                dsimp only at hin hib
                obtain ⟨iz, rfl⟩ : ∃ iz : Nat, z0 = (iz : Int) := ⟨z0.toNat, by omega⟩
                obtain ⟨ib, rfl⟩ : ∃ ib : Nat, bi = (ib : Int) := ⟨bi.toNat, by omega⟩
                rw [Int.toNat_natCast] at hin hib
                obtain ⟨⟨f, s, m⟩, hlm⟩ : ∃ r, r = limOf (bndAt l iz) z1 := ⟨_, rfl⟩
                obtain ⟨⟨f', s', m'⟩, hlm'⟩ : ∃ r, r = limOf (bndAt l ib) bu := ⟨_, rfl⟩
                have HUK : Hid (useLim l u 0 = ⟨f, s, m⟩) := Lib.hid (by unfold useLim; rw [← hze]; dsimp only; rw [Int.toNat_natCast]; exact hlm.symm)
                have HUB : Hid (useLim l u (befU u 0) = ⟨f', s', m'⟩) := Lib.hid (by unfold useLim; rw [HBE.out]; dsimp only; rw [Int.toNat_natCast]; exact hlm'.symm)
                have HE1 := Lib.hid (HRE.out iz z1 f s m W6 HB6.out hin.2 hlm.symm)
                have HE2 := Lib.hid (fun W hb => HRE.out ib bu f' s' m' W hb hib.2 hlm'.symm)
                have htb := totalS_bd HLO.out (0 + 1) (fun j hj => HA.out j (by have := HK.out; omega))
                have HTS : Hid (totalS l u (0 + 1) = totalS l u 0 + m) := Lib.hid (by show totalS l u 0 + (useLim l u 0).m = _; rw [HUK.out])
                rw [HTS.out] at htb
                have k5 : IntKind.i64.wrap (totalS l u 0 + m) = totalS l u 0 + m := IntWalk.i64_in _ (by have := HK.out; have := HU.out; omega)
                clear hze hin hib hlm hlm' htb
                generalize totalS l u 0 = tk at *
                have zz := cell_lt z0c
                go_upto_region 19 with (go_at_call 26; refine HE1.out.mono ?_; rintro e w7 ⟨rfl, hb7⟩; have HB7 := Lib.hid (btR HB6.out hb7); have HC07 := Lib.hid (cell_below hb7 HC0.out); have HC17 := Lib.hid (cell_below hb7 HC1.out); clear hb7)
                clear z0c z1c zz
                have c0 := HC07.out
                have c1 := HC17.out
                have zc := cell_lt c0
                go_upto_region 20 with (go_at_call 26; refine (HE2.out _ HB7.out).mono ?_; rintro e w8 ⟨rfl, hb8⟩; have HB8 := Lib.hid (btR HB7.out hb8); clear hb8)
                clear c0 c1 zc HC0 HC1
                by_cases hfs : f = s'
                · subst hfs
                  have HLN : Hid (∀ j, j < 0 + 1 → (useLim l u j).f = (useLim l u (befU u j)).s) := Lib.hid fun j hj => by
                    by_cases e : j = 0
                    · rw [e, HUK.out, HUB.out]
                    · exact HLK.out j (by omega)
                  go_wp2_with fail
                  go_roundw
                  case rel => exact ⟨0 + 1, _, _, _, _, _, _, _, HK.out, rfl, by rw [HTS.out], by simp, rfl, rfl, rfl, rfl, rfl, rfl, rfl, HLN, HB8⟩
                  case measure => have := HK.out; simp [intOf]; omega
                · have HRR := Lib.hid (show r = 7 by
                    rw [HR.out, if_pos HU.out, if_neg]
                    intro hc
                    have hl : ∀ i, i < u.length → linkB l u i = true := fun i hi => by
                      cases hb : linkB l u i with
                      | true => rfl
                      | false => rw [cut_link hi hb] at hc; cases hc
                    have := link_bef.1 hl 0 HK.out
                    rw [HUK.out, HUB.out] at this
                    exact hfs this)
                  have hfb : (f != s') = true := by simpa using hfs
                  clear hfs
                  go_wp2_with fail
                  go_ret
                  exact ⟨by rw [HRR.out]; rfl, HB8.out⟩
              | succ q =>
                have hq0 : (0 : Int) < (q : Int) + 1 := by omega
                have j4b : IntKind.i64.wrap ((q : Int) + 1 - 1) = (q : Int) := by rw [IntWalk.i64_in _ (by have := HK.out; have := HU.out; omega)]; omega
                have j4c : IntKind.i64.wrap (q : Int) = (q : Int) := IntWalk.i64_in _ (by have := HK.out; have := HU.out; omega)
                have hq00 : (0 : Int) ≤ (q : Int) := by omega
                have hqn : (q : Int) < (u.length : Int) := by have := HK.out; omega
                obtain ⟨⟨p0, p1⟩, hpe⟩ : ∃ r, r = useAt u q := ⟨_, rfl⟩
                obtain ⟨q0, q1⟩ := HI2.out q (by have := HK.out; omega)
                have q0 := cell_below (show Below wr.heap.size wr W5 by rw [hbb]; exact HBV.out) q0
                have q1 := cell_below (show Below wr.heap.size wr W5 by rw [hbb]; exact HBV.out) q1
                rw [← hpe] at q0 q1
                dsimp only at q0 q1
                have HBE : Hid (useAt u (befU u (q + 1)) = (p0, p1)) := Lib.hid (by unfold befU; rw [if_neg (by omega), Nat.add_sub_cancel, ← hpe])
                have c0 := HC0.out
                have c1 := HC1.out
                have f0 := HF0.out
                have f1 := HF1.out
                have zc := cell_lt c0
                have zq := cell_lt q0
                clear hpe HYE HL1
                go_upto_region 18 with fail
                clear c0 c1 f0 f1 zc zq q0 q1
                have HSB := Lib.hid (show Below b11 wr ((W5.setCell ⟨b11, 0, none⟩ (.int .i64 p0)).setCell ⟨b11, 1, none⟩ (.bool p1)) from (HBV.out.setCell (p := ⟨b11, 0, none⟩) (Nat.le_refl _) _).setCell (p := ⟨b11, 1, none⟩) (Nat.le_refl _) _)
                have HB6 : Hid (Below w.heap.size w ((W5.setCell ⟨b11, 0, none⟩ (.int .i64 p0)).setCell ⟨b11, 1, none⟩ (.bool p1))) := Lib.hid (HB.out.trans (HSB.out.mono HGE.out))
                have HBW : Hid (Below wr.heap.size wr ((W5.setCell ⟨b11, 0, none⟩ (.int .i64 p0)).setCell ⟨b11, 1, none⟩ (.bool p1))) := Lib.hid (by rw [hbb]; exact HSB.out)
                have HD0 : Hid (((W5.setCell ⟨b11, 0, none⟩ (.int .i64 p0)).setCell ⟨b11, 1, none⟩ (.bool p1)).cell? ⟨b11, 0, none⟩ = some (.int .i64 p0)) := Lib.hid (by rw [World.cell?_setCell_other _ _ _ _ (by simp)]; exact World.cell?_setCell_same _ _ _ HC0.out)
                have HD1 : Hid (((W5.setCell ⟨b11, 0, none⟩ (.int .i64 p0)).setCell ⟨b11, 1, none⟩ (.bool p1)).cell? ⟨b11, 1, none⟩ = some (.bool p1)) := Lib.hid (World.cell?_setCell_same _ _ _ (by rw [World.cell?_setCell_other _ _ _ _ (by simp)]; exact HC1.out))
                clear hbb HF0 HF1 HGE HBV HB HSB HC0 HC1 HB5
                have HC0 := HD0
                have HC1 := HD1
                clear HD0 HD1
                generalize (W5.setCell ⟨b11, 0, none⟩ (.int .i64 p0)).setCell ⟨b11, 1, none⟩ (.bool p1) = W6 at *
                generalize p0 = bi at *
                generalize p1 = bu at *
                obtain ⟨⟨z0, z1⟩, hze⟩ : ∃ r, r = useAt u (q + 1) := ⟨_, rfl⟩
                obtain ⟨z0c, z1c⟩ := HI2.out (q + 1) (by have := HK.out; omega)
                have z0c := cell_below HBW.out z0c
                have z1c := cell_below HBW.out z1c
                rw [← hze] at z0c z1c
                dsimp only at z0c z1c
                have hin := inB_lt (HA.out (q + 1) HK.out)
                have hib := inB_lt (HA.out (befU u (q + 1)) (by have := HK.out; unfold befU; split <;> omega))
                rw [← hze] at hin
                rw [HBE.out] at hib
                dsimp only at hin hib
                obtain ⟨iz, rfl⟩ : ∃ iz : Nat, z0 = (iz : Int) := ⟨z0.toNat, by omega⟩
                obtain ⟨ib, rfl⟩ : ∃ ib : Nat, bi = (ib : Int) := ⟨bi.toNat, by omega⟩
                rw [Int.toNat_natCast] at hin hib
                obtain ⟨⟨f, s, m⟩, hlm⟩ : ∃ r, r = limOf (bndAt l iz) z1 := ⟨_, rfl⟩
                obtain ⟨⟨f', s', m'⟩, hlm'⟩ : ∃ r, r = limOf (bndAt l ib) bu := ⟨_, rfl⟩
                have HUK : Hid (useLim l u (q + 1) = ⟨f, s, m⟩) := Lib.hid (by unfold useLim; rw [← hze]; dsimp only; rw [Int.toNat_natCast]; exact hlm.symm)
                have HUB : Hid (useLim l u (befU u (q + 1)) = ⟨f', s', m'⟩) := Lib.hid (by unfold useLim; rw [HBE.out]; dsimp only; rw [Int.toNat_natCast]; exact hlm'.symm)
                have HE1 := Lib.hid (HRE.out iz z1 f s m W6 HB6.out hin.2 hlm.symm)
                have HE2 := Lib.hid (fun W hb => HRE.out ib bu f' s' m' W hb hib.2 hlm'.symm)
                have htb := totalS_bd HLO.out (q + 1 + 1) (fun j hj => HA.out j (by have := HK.out; omega))
                have HTS : Hid (totalS l u (q + 1 + 1) = totalS l u (q + 1) + m) := Lib.hid (by show totalS l u (q + 1) + (useLim l u (q + 1)).m = _; rw [HUK.out])
                rw [HTS.out] at htb
                have k5 : IntKind.i64.wrap (totalS l u (q + 1) + m) = totalS l u (q + 1) + m := IntWalk.i64_in _ (by have := HK.out; have := HU.out; omega)
                clear hze hin hib hlm hlm' htb
                generalize totalS l u (q + 1) = tk at *
                have zz := cell_lt z0c
                go_upto_region 19 with (go_at_call 26; refine HE1.out.mono ?_; rintro e w7 ⟨rfl, hb7⟩; have HB7 := Lib.hid (btR HB6.out hb7); have HC07 := Lib.hid (cell_below hb7 HC0.out); have HC17 := Lib.hid (cell_below hb7 HC1.out); clear hb7)
                clear z0c z1c zz
                have c0 := HC07.out
                have c1 := HC17.out
                have zc := cell_lt c0
                go_upto_region 20 with (go_at_call 26; refine (HE2.out _ HB7.out).mono ?_; rintro e w8 ⟨rfl, hb8⟩; have HB8 := Lib.hid (btR HB7.out hb8); clear hb8)
                clear c0 c1 zc HC0 HC1
                by_cases hfs : f = s'
                · subst hfs
                  have HLN : Hid (∀ j, j < q + 1 + 1 → (useLim l u j).f = (useLim l u (befU u j)).s) := Lib.hid fun j hj => by
                    by_cases e : j = (q + 1)
                    · rw [e, HUK.out, HUB.out]
                    · exact HLK.out j (by omega)
                  go_wp2_with fail
                  go_roundw
                  case rel => exact ⟨q + 1 + 1, _, _, _, _, _, _, _, HK.out, rfl, by rw [HTS.out], by simp, rfl, rfl, rfl, rfl, rfl, rfl, rfl, HLN, HB8⟩
                  case measure => have := HK.out; simp [intOf]; omega
                · have HRR := Lib.hid (show r = 7 by
                    rw [HR.out, if_pos HU.out, if_neg]
                    intro hc
                    have hl : ∀ i, i < u.length → linkB l u i = true := fun i hi => by
                      cases hb : linkB l u i with
                      | true => rfl
                      | false => rw [cut_link hi hb] at hc; cases hc
                    have := link_bef.1 hl (q + 1) HK.out
                    rw [HUK.out, HUB.out] at this
                    exact hfs this)
                  have hfb : (f != s') = true := by simpa using hfs
                  clear hfs
                  go_wp2_with fail
                  go_ret
                  exact ⟨by rw [HRR.out]; rfl, HB8.out⟩
            · have hki : ¬ ((k : Int) < u.length) := by omega
              obtain rfl : k = u.length := by omega
              have HCA := Lib.hid (cut_all HA.out (link_bef.2 HLK.out))
              clear hlt hk
              have HRT : Hid (r = if totalS l u u.length < 0 then 0 else 7) := Lib.hid (by
                rw [HR.out, if_pos HU.out, HCA.out]
                by_cases h : totalS l u u.length < 0
                · rw [if_pos h, if_pos (by simpa using h)]
                · rw [if_neg h, if_neg (by simpa using h)])
              generalize totalS l u u.length = tk at *
              by_cases h0 : 0 ≤ tk
              · have HRR := Lib.hid (show r = 7 by rw [HRT.out, if_neg (by omega)])
                go_wp2_with fail
                go_ret
                exact ⟨by rw [HRR.out]; rfl, HB.out⟩
              · have HRR := Lib.hid (show r = 0 by rw [HRT.out, if_pos (by omega)])
                go_wp2_with fail
                go_ret
                exact ⟨by rw [HRR.out]; rfl, HB.out⟩
    · have hui : 240 < (u.length : Int) := by omega
      rw [if_neg hu] at hr
      have HRR := Lib.hid hr
      clear hs hq he hr hlo hn hl hul hu HR
      go_enter Try.func12, Try.ntmps12
      go_wp2_with (go_at_call 23; refine HC.out.mono ?_; rintro e w1 ⟨rfl, hb⟩; have HB := Lib.hid hb; clear hb)
      go_ret
      exact ⟨by rw [HRR.out]; rfl, HB.out⟩
  · rw [if_neg he] at hr
    rw [← hr] at HC he
    have hne : (r != 0) = true := by simpa using he
    clear hs hq hl he hr
    go_enter Try.func12, Try.ntmps12
    go_wp2_with (go_at_call 23; refine HC.out.mono ?_; rintro e w1 ⟨rfl, hb⟩; have HB := Lib.hid hb; clear hb)
    go_ret
    exact ⟨rfl, HB.out⟩
end Go.Proofs.Ytlelamjbfjneiaa.Ct
