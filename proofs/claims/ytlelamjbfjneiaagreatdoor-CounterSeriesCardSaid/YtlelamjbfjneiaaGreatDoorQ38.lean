/- Contract of the reference: events that are not allowed. -/
import Derived.Test.YtlelamjbfjneiaaGreatDoorQ37
import Derived.Test.YtlelamjbfjneiaaGreatDoorQ04
namespace Go.Proofs.YtlelamjbfjneiaaGreatDoor.Wd
open Go Go.RowKit
/-- the second of the event before -/
def prevSec (l : List Evt) (k : Nat) : Int := if k = 0 then 0 else ((l[k - 1]?).map (·.sec)).getD 0
theorem prevSec_succ (l : List Evt) (k : Nat) (h : k < l.length) : prevSec l (k + 1) = l[k].sec := by simp [prevSec, h]
theorem evs_bad1 {l : List Evt} {k : Nat} (h : k < l.length) (he : evsFrom 0 l = evsFrom (prevSec l k) (l.drop k)) (hb : evOk l[k] = false) : true = !evsOk l := by
  rw [evsFrom_no1 h hb] at he
  simp [evsOk, he]
theorem evs_bad2 {l : List Evt} {k : Nat} (h : k < l.length) (he : evsFrom 0 l = evsFrom (prevSec l k) (l.drop k)) (hb : l[k].sec ≤ prevSec l k) : true = !evsOk l := by
  rw [evsFrom_no2 h hb] at he
  simp [evsOk, he]
theorem evs_good {l : List Evt} {k : Nat} (h : k < l.length) (he : evsFrom 0 l = evsFrom (prevSec l k) (l.drop k)) (hb : evOk l[k] = true) (hs : prevSec l k < l[k].sec) : evsFrom 0 l = evsFrom (prevSec l (k + 1)) (l.drop (k + 1)) := by
  rw [he, evsFrom_yes h hb (by omega), prevSec_succ l k h]
theorem evs_end {l : List Evt} (he : evsFrom 0 l = evsFrom (prevSec l l.length) (l.drop l.length)) : decide (8 < (l.length : Int)) = !evsOk l := by
  rw [List.drop_length] at he
  rw [evsOk, he, show evsFrom (prevSec l l.length) [] = true from rfl, Bool.and_true, Bool.eq_iff_iff]
  simp
  omega
theorem evOk_parts_no {e : Evt} (h : (e.what < 1 ∨ 4 < e.what) ∨ (e.sec < 1 ∨ 1000000 < e.sec) ∨ inR e.size (-sizeOf e.what) (sizeOf e.what) = false) : evOk e = false := by
  unfold evOk
  rcases h with h | h | h
  · have : inR e.what 1 4 = false := by simp [inR]; omega
    simp [this]
  · have : inR e.sec 1 1000000 = false := by simp [inR]; omega
    simp [this]
  · simp [h]
theorem evOk_yes {e : Evt} (h1 : 1 ≤ e.what ∧ e.what ≤ 4) (h2 : 1 ≤ e.sec ∧ e.sec ≤ 1000000) (h3 : inR e.size (-sizeOf e.what) (sizeOf e.what) = true) : evOk e = true := by
  unfold evOk
  rw [(inR_iff _ _ _).2 h1, (inR_iff _ _ _).2 h2, h3]; rfl
set_option maxRecDepth 100000 in
set_option maxHeartbeats 1000000 in
theorem wrongEvents_any (ki ph ra dr wh wa he ro : Int) (l : List Evt) (v : Value) (w : World) (hv : EvSlice w l v) :
    Calls Tryz.prog 115 #[.agg #[.int .i64 ki, .int .i64 ph, .int .i64 ra, .int .i64 dr, .int .i64 wh, .int .i64 wa, .int .i64 he, .int .i64 ro, v]] w fun e w' => e = .returned (.bool (!evsOk l)) ∧ Below w.heap.size w w' := by
  obtain ⟨p, cap, rfl, hm, hs⟩ := hv
  unfold maxLen at hm
  rcases hs with h0 | ⟨b, o, rfl, hs⟩
  · have hl : l = [] := List.eq_nil_of_length_eq_zero h0
    have hle : (l.length : Int) ≤ 0 := by omega
    have hf : decide (8 < (l.length : Int)) = !evsOk l := by rw [hl]; rfl
    have HF := Lib.hid hf
    clear hl h0 hf
    go_enter Tryz.func115, Tryz.ntmps115
    go_wp2
    go_loop [3] (fun i => i = .int .i64 0) (fun i => (5 : Nat) - (intOf i).toNat)
    case atStart => rfl
    case round =>
      subst hrel
      go_wp2
      go_ret
      exact ⟨ret_bool HF.out, by go_grown⟩
  · have HS := Lib.hid hs
    clear hs
    have hB0 := (Below.refl w.heap.size w).alloc (Nat.le_refl _) (.cells #[.int .i64 ki, .int .i64 ph, .int .i64 ra, .int .i64 dr, .int .i64 wh, .int .i64 wa, .int .i64 he, .int .i64 ro, .slice (some ⟨b, o, none⟩) l.length cap] 61)
    have x8 : (w.alloc (.cells #[.int .i64 ki, .int .i64 ph, .int .i64 ra, .int .i64 dr, .int .i64 wh, .int .i64 wa, .int .i64 he, .int .i64 ro, .slice (some ⟨b, o, none⟩) l.length cap] 61)).cell? ⟨w.heap.size, 8, none⟩ = some (.slice (some ⟨b, o, none⟩) l.length cap) := by simp
    have X8 := Lib.hid x8
    have HB0 := Lib.hid hB0
    clear x8 hB0
    go_enter Tryz.func115, Tryz.ntmps115
    go_wp2
    generalize w.alloc (.cells #[.int .i64 ki, .int .i64 ph, .int .i64 ra, .int .i64 dr, .int .i64 wh, .int .i64 wa, .int .i64 he, .int .i64 ro, .slice (some ⟨b, o, none⟩) l.length cap] 61) = W1 at *
    go_loopw [3] (fun i wr => ∃ k : Nat, k ≤ l.length ∧ i = .int .i64 k ∧ evsFrom 0 l = evsFrom (prevSec l k) (l.drop k) ∧ Hid (Below W1.heap.size W1 wr)) (fun i _ => l.length - (intOf i).toNat)
    case atStart => exact ⟨0, Nat.zero_le _, rfl, rfl, Lib.hid (Below.refl _ _)⟩
    case round =>
      obtain ⟨k, hk, rfl, hq, HB⟩ := hrel
      have HQ := Lib.hid hq
      clear hq
      have hBW := HB0.out.trans (HB.out.mono HB0.out.size)
      have HBW := Lib.hid hBW
      clear hBW
      have c8 := cell_below HB.out X8.out
      have hz8 := cell_lt c8
      by_cases hlt : k < l.length
      · obtain ⟨e0, e1, e2⟩ := (HS.out k hlt).below HBW.out
        have hze := cell_lt e0
        have hkl : (k : Int) < (l.length : Int) := by omega
        have hb1 := evs_bad1 hlt HQ.out
        have hb2 := evs_bad2 hlt HQ.out
        have hgd := evs_good hlt HQ.out
        have hpr : 0 < k → wr.cell? ⟨b, o + (k - 1) * 3 + 1, none⟩ = some (.int .i64 (prevSec l k)) := fun h0 => by
          have e := ((HS.out (k - 1) (by omega)).below HBW.out).2.1
          rw [e]
          have : k - 1 < l.length := by omega
          simp [prevSec, show k ≠ 0 by omega, this]
        have hp0 : k = 0 → prevSec l k = 0 := fun h => by subst h; rfl
        generalize prevSec l k = pv at *
        generalize hev : l[k] = ev at *
        have HEV := Lib.hid hev
        clear hev
        obtain ⟨wt, se, sz⟩ := ev
        dsimp only at e0 e1 e2 hb1 hb2 hgd
        have HB1 := Lib.hid hb1
        have HB2 := Lib.hid hb2
        have HGD := Lib.hid hgd
        clear hb1 hb2 hgd
        have HPR := Lib.hid hpr
        have HP0 := Lib.hid hp0
        clear hpr hp0
        by_cases hw1 : wt < 1
        · have q1 : (wt == 1) = false := by rw [beq_eq_false_iff_ne]; omega
          have q2 : (wt == 2) = false := by rw [beq_eq_false_iff_ne]; omega
          have d1 : decide (wt < 1) = true := by simp; omega
          go_wp2
          go_quiet ((go_at_call 133; exact Calls.quiet_of_same ((rwithin_any _ _ _ (by decide)).mono fun _ _ ⟨h1, h2⟩ => ⟨h1, h2.symm⟩)))
          go_wp2
          go_ret
          exact ⟨ret_bool (HB1.out (evOk_parts_no (.inl (.inl hw1)))), below_drewN (below_alloc' HBW.out _) _⟩
        · by_cases hw4 : 4 < wt
          · have q1 : (wt == 1) = false := by rw [beq_eq_false_iff_ne]; omega
            have q2 : (wt == 2) = false := by rw [beq_eq_false_iff_ne]; omega
            have d1 : decide (wt < 1) = false := by simp; omega
            have d2 : decide (4 < wt) = true := by simp; omega
            go_wp2
            go_quiet ((go_at_call 133; exact Calls.quiet_of_same ((rwithin_any _ _ _ (by decide)).mono fun _ _ ⟨h1, h2⟩ => ⟨h1, h2.symm⟩)))
            go_wp2
            go_ret
            exact ⟨ret_bool (HB1.out (evOk_parts_no (.inl (.inr hw4)))), below_drewN (below_alloc' HBW.out _) _⟩
          · have hw : wt = 1 ∨ wt = 2 ∨ wt = 3 ∨ wt = 4 := by omega
            clear hw1 hw4
            rcases hw with rfl | rfl | rfl | rfl
            · by_cases hs1 : se < 1
              · have d3 : decide (se < 1) = true := by simp; omega
                go_wp2
                go_quiet ((go_at_call 133; exact Calls.quiet_of_same ((rwithin_any _ _ _ (by decide)).mono fun _ _ ⟨h1, h2⟩ => ⟨h1, h2.symm⟩)))
                go_wp2
                go_ret
                exact ⟨ret_bool (HB1.out (evOk_parts_no (.inr (.inl (.inl hs1))))), below_drewN (below_alloc' HBW.out _) _⟩
              · have d3 : decide (se < 1) = false := by simp; omega
                by_cases hs2 : 1000000 < se
                · have d4 : decide (1000000 < se) = true := by simp; omega
                  go_wp2
                  go_quiet ((go_at_call 133; exact Calls.quiet_of_same ((rwithin_any _ _ _ (by decide)).mono fun _ _ ⟨h1, h2⟩ => ⟨h1, h2.symm⟩)))
                  go_wp2
                  go_ret
                  exact ⟨ret_bool (HB1.out (evOk_parts_no (.inr (.inl (.inr hs2))))), below_drewN (below_alloc' HBW.out _) _⟩
                · have d4 : decide (1000000 < se) = false := by simp; omega
                  cases hz : inR sz (-10000000000000) 10000000000000
                  · have hzz := show inR sz (-sizeOf 1) (sizeOf 1) = false from hz
                    go_wp2
                    go_quiet ((go_at_call 133; exact Calls.quiet_of_same ((rwithin_any _ _ _ (by decide)).mono fun _ _ ⟨h1, h2⟩ => ⟨h1, h2.symm⟩)))
                    go_wp2
                    go_ret
                    exact ⟨ret_bool (HB1.out (evOk_parts_no (.inr (.inr hzz)))), below_drewN (below_alloc' HBW.out _) _⟩
                  · have hgo := evOk_yes (e := ⟨1, se, sz⟩) (by dsimp only; omega) (by dsimp only; omega) (show inR sz (-sizeOf 1) (sizeOf 1) = true from hz)
                    by_cases hk0 : k = 0
                    · have hps : pv < se := by have := HP0.out hk0; omega
                      have hgd2 := HGD.out hgo hps
                      have HG2 := Lib.hid hgd2
                      have hk1 : (k : Int) ≤ 0 := by omega
                      have d5 : decide (0 < (k : Int)) = false := by simp; omega
                      have d7 : decide (0 < k) = false := by simp; omega
                      clear hgd2 hgo hk0
                      go_wp2
                      go_quiet ((go_at_call 133; exact Calls.quiet_of_same ((rwithin_any _ _ _ (by decide)).mono fun _ _ ⟨h1, h2⟩ => ⟨h1, h2.symm⟩)))
                      go_wp2
                      go_roundw
                      case rel => exact ⟨k + 1, by omega, by go_num, HG2.out, Lib.hid (below_drewN (below_alloc' HB.out _) _)⟩
                      case measure => simp [intOf]; omega
                    · have pc := HPR.out (by omega)
                      have d5 : decide (0 < (k : Int)) = true := by simp; omega
                      have d7 : decide (0 < k) = true := by simp; omega
                      have hk1 : 1 ≤ (k : Int) := by omega
                      have hk2 : (k : Int) - 1 < (l.length : Int) := by omega
                      by_cases hps : se ≤ pv
                      · have hb2 := HB2.out hps
                        have HB3 := Lib.hid hb2
                        have d6 : decide (se ≤ pv) = true := by simp; omega
                        clear hb2 hgo hk0
                        go_wp2
                        have s1 : IntKind.i64.wrap ((k : Int) - 1) = (k : Int) - 1 := IntWalk.i64_in _ (by omega)
                        have s4 : ((k : Int) - 1).toNat = k - 1 := by omega
                        go_quiet ((go_at_call 133; exact Calls.quiet_of_same ((rwithin_any _ _ _ (by decide)).mono fun _ _ ⟨h1, h2⟩ => ⟨h1, h2.symm⟩)))
                        clear s1 s4
                        go_wp2
                        go_ret
                        exact ⟨ret_bool HB3.out, below_drewN (below_alloc' HBW.out _) _⟩
                      · have hgd2 := HGD.out hgo (by omega)
                        have HG2 := Lib.hid hgd2
                        have d6 : decide (se ≤ pv) = false := by simp; omega
                        clear hgd2 hgo hk0
                        go_wp2
                        have s1 : IntKind.i64.wrap ((k : Int) - 1) = (k : Int) - 1 := IntWalk.i64_in _ (by omega)
                        have s4 : ((k : Int) - 1).toNat = k - 1 := by omega
                        go_quiet ((go_at_call 133; exact Calls.quiet_of_same ((rwithin_any _ _ _ (by decide)).mono fun _ _ ⟨h1, h2⟩ => ⟨h1, h2.symm⟩)))
                        clear s1 s4
                        go_wp2
                        go_roundw
                        case rel => exact ⟨k + 1, by omega, by go_num, HG2.out, Lib.hid (below_drewN (below_alloc' HB.out _) _)⟩
                        case measure => simp [intOf]; omega
            · by_cases hs1 : se < 1
              · have d3 : decide (se < 1) = true := by simp; omega
                go_wp2
                go_quiet ((go_at_call 133; exact Calls.quiet_of_same ((rwithin_any _ _ _ (by decide)).mono fun _ _ ⟨h1, h2⟩ => ⟨h1, h2.symm⟩)))
                go_wp2
                go_ret
                exact ⟨ret_bool (HB1.out (evOk_parts_no (.inr (.inl (.inl hs1))))), below_drewN (below_alloc' HBW.out _) _⟩
              · have d3 : decide (se < 1) = false := by simp; omega
                by_cases hs2 : 1000000 < se
                · have d4 : decide (1000000 < se) = true := by simp; omega
                  go_wp2
                  go_quiet ((go_at_call 133; exact Calls.quiet_of_same ((rwithin_any _ _ _ (by decide)).mono fun _ _ ⟨h1, h2⟩ => ⟨h1, h2.symm⟩)))
                  go_wp2
                  go_ret
                  exact ⟨ret_bool (HB1.out (evOk_parts_no (.inr (.inl (.inr hs2))))), below_drewN (below_alloc' HBW.out _) _⟩
                · have d4 : decide (1000000 < se) = false := by simp; omega
                  cases hz : inR sz (-10000000000) 10000000000
                  · have hzz := show inR sz (-sizeOf 2) (sizeOf 2) = false from hz
                    go_wp2
                    go_quiet ((go_at_call 133; exact Calls.quiet_of_same ((rwithin_any _ _ _ (by decide)).mono fun _ _ ⟨h1, h2⟩ => ⟨h1, h2.symm⟩)))
                    go_wp2
                    go_ret
                    exact ⟨ret_bool (HB1.out (evOk_parts_no (.inr (.inr hzz)))), below_drewN (below_alloc' HBW.out _) _⟩
                  · have hgo := evOk_yes (e := ⟨2, se, sz⟩) (by dsimp only; omega) (by dsimp only; omega) (show inR sz (-sizeOf 2) (sizeOf 2) = true from hz)
                    by_cases hk0 : k = 0
                    · have hps : pv < se := by have := HP0.out hk0; omega
                      have hgd2 := HGD.out hgo hps
                      have HG2 := Lib.hid hgd2
                      have hk1 : (k : Int) ≤ 0 := by omega
                      have d5 : decide (0 < (k : Int)) = false := by simp; omega
                      have d7 : decide (0 < k) = false := by simp; omega
                      clear hgd2 hgo hk0
                      go_wp2
                      go_quiet ((go_at_call 133; exact Calls.quiet_of_same ((rwithin_any _ _ _ (by decide)).mono fun _ _ ⟨h1, h2⟩ => ⟨h1, h2.symm⟩)))
                      go_wp2
                      go_roundw
                      case rel => exact ⟨k + 1, by omega, by go_num, HG2.out, Lib.hid (below_drewN (below_alloc' HB.out _) _)⟩
                      case measure => simp [intOf]; omega
                    · have pc := HPR.out (by omega)
                      have d5 : decide (0 < (k : Int)) = true := by simp; omega
                      have d7 : decide (0 < k) = true := by simp; omega
                      have hk1 : 1 ≤ (k : Int) := by omega
                      have hk2 : (k : Int) - 1 < (l.length : Int) := by omega
                      by_cases hps : se ≤ pv
                      · have hb2 := HB2.out hps
                        have HB3 := Lib.hid hb2
                        have d6 : decide (se ≤ pv) = true := by simp; omega
                        clear hb2 hgo hk0
                        go_wp2
                        have s1 : IntKind.i64.wrap ((k : Int) - 1) = (k : Int) - 1 := IntWalk.i64_in _ (by omega)
                        have s4 : ((k : Int) - 1).toNat = k - 1 := by omega
                        go_quiet ((go_at_call 133; exact Calls.quiet_of_same ((rwithin_any _ _ _ (by decide)).mono fun _ _ ⟨h1, h2⟩ => ⟨h1, h2.symm⟩)))
                        clear s1 s4
                        go_wp2
                        go_ret
                        exact ⟨ret_bool HB3.out, below_drewN (below_alloc' HBW.out _) _⟩
                      · have hgd2 := HGD.out hgo (by omega)
                        have HG2 := Lib.hid hgd2
                        have d6 : decide (se ≤ pv) = false := by simp; omega
                        clear hgd2 hgo hk0
                        go_wp2
                        have s1 : IntKind.i64.wrap ((k : Int) - 1) = (k : Int) - 1 := IntWalk.i64_in _ (by omega)
                        have s4 : ((k : Int) - 1).toNat = k - 1 := by omega
                        go_quiet ((go_at_call 133; exact Calls.quiet_of_same ((rwithin_any _ _ _ (by decide)).mono fun _ _ ⟨h1, h2⟩ => ⟨h1, h2.symm⟩)))
                        clear s1 s4
                        go_wp2
                        go_roundw
                        case rel => exact ⟨k + 1, by omega, by go_num, HG2.out, Lib.hid (below_drewN (below_alloc' HB.out _) _)⟩
                        case measure => simp [intOf]; omega
            · by_cases hs1 : se < 1
              · have d3 : decide (se < 1) = true := by simp; omega
                go_wp2
                go_quiet ((go_at_call 133; exact Calls.quiet_of_same ((rwithin_any _ _ _ (by decide)).mono fun _ _ ⟨h1, h2⟩ => ⟨h1, h2.symm⟩)))
                go_wp2
                go_ret
                exact ⟨ret_bool (HB1.out (evOk_parts_no (.inr (.inl (.inl hs1))))), below_drewN (below_alloc' HBW.out _) _⟩
              · have d3 : decide (se < 1) = false := by simp; omega
                by_cases hs2 : 1000000 < se
                · have d4 : decide (1000000 < se) = true := by simp; omega
                  go_wp2
                  go_quiet ((go_at_call 133; exact Calls.quiet_of_same ((rwithin_any _ _ _ (by decide)).mono fun _ _ ⟨h1, h2⟩ => ⟨h1, h2.symm⟩)))
                  go_wp2
                  go_ret
                  exact ⟨ret_bool (HB1.out (evOk_parts_no (.inr (.inl (.inr hs2))))), below_drewN (below_alloc' HBW.out _) _⟩
                · have d4 : decide (1000000 < se) = false := by simp; omega
                  cases hz : inR sz 0 0
                  · have hzz := show inR sz (-sizeOf 3) (sizeOf 3) = false from hz
                    go_wp2
                    go_quiet ((go_at_call 133; exact Calls.quiet_of_same ((rwithin_any _ _ _ (by decide)).mono fun _ _ ⟨h1, h2⟩ => ⟨h1, h2.symm⟩)))
                    go_wp2
                    go_ret
                    exact ⟨ret_bool (HB1.out (evOk_parts_no (.inr (.inr hzz)))), below_drewN (below_alloc' HBW.out _) _⟩
                  · have hgo := evOk_yes (e := ⟨3, se, sz⟩) (by dsimp only; omega) (by dsimp only; omega) (show inR sz (-sizeOf 3) (sizeOf 3) = true from hz)
                    by_cases hk0 : k = 0
                    · have hps : pv < se := by have := HP0.out hk0; omega
                      have hgd2 := HGD.out hgo hps
                      have HG2 := Lib.hid hgd2
                      have hk1 : (k : Int) ≤ 0 := by omega
                      have d5 : decide (0 < (k : Int)) = false := by simp; omega
                      have d7 : decide (0 < k) = false := by simp; omega
                      clear hgd2 hgo hk0
                      go_wp2
                      go_quiet ((go_at_call 133; exact Calls.quiet_of_same ((rwithin_any _ _ _ (by decide)).mono fun _ _ ⟨h1, h2⟩ => ⟨h1, h2.symm⟩)))
                      go_wp2
                      go_roundw
                      case rel => exact ⟨k + 1, by omega, by go_num, HG2.out, Lib.hid (below_drewN (below_alloc' HB.out _) _)⟩
                      case measure => simp [intOf]; omega
                    · have pc := HPR.out (by omega)
                      have d5 : decide (0 < (k : Int)) = true := by simp; omega
                      have d7 : decide (0 < k) = true := by simp; omega
                      have hk1 : 1 ≤ (k : Int) := by omega
                      have hk2 : (k : Int) - 1 < (l.length : Int) := by omega
                      by_cases hps : se ≤ pv
                      · have hb2 := HB2.out hps
                        have HB3 := Lib.hid hb2
                        have d6 : decide (se ≤ pv) = true := by simp; omega
                        clear hb2 hgo hk0
                        go_wp2
                        have s1 : IntKind.i64.wrap ((k : Int) - 1) = (k : Int) - 1 := IntWalk.i64_in _ (by omega)
                        have s4 : ((k : Int) - 1).toNat = k - 1 := by omega
                        go_quiet ((go_at_call 133; exact Calls.quiet_of_same ((rwithin_any _ _ _ (by decide)).mono fun _ _ ⟨h1, h2⟩ => ⟨h1, h2.symm⟩)))
                        clear s1 s4
                        go_wp2
                        go_ret
                        exact ⟨ret_bool HB3.out, below_drewN (below_alloc' HBW.out _) _⟩
                      · have hgd2 := HGD.out hgo (by omega)
                        have HG2 := Lib.hid hgd2
                        have d6 : decide (se ≤ pv) = false := by simp; omega
                        clear hgd2 hgo hk0
                        go_wp2
                        have s1 : IntKind.i64.wrap ((k : Int) - 1) = (k : Int) - 1 := IntWalk.i64_in _ (by omega)
                        have s4 : ((k : Int) - 1).toNat = k - 1 := by omega
                        go_quiet ((go_at_call 133; exact Calls.quiet_of_same ((rwithin_any _ _ _ (by decide)).mono fun _ _ ⟨h1, h2⟩ => ⟨h1, h2.symm⟩)))
                        clear s1 s4
                        go_wp2
                        go_roundw
                        case rel => exact ⟨k + 1, by omega, by go_num, HG2.out, Lib.hid (below_drewN (below_alloc' HB.out _) _)⟩
                        case measure => simp [intOf]; omega
            · by_cases hs1 : se < 1
              · have d3 : decide (se < 1) = true := by simp; omega
                go_wp2
                go_quiet ((go_at_call 133; exact Calls.quiet_of_same ((rwithin_any _ _ _ (by decide)).mono fun _ _ ⟨h1, h2⟩ => ⟨h1, h2.symm⟩)))
                go_wp2
                go_ret
                exact ⟨ret_bool (HB1.out (evOk_parts_no (.inr (.inl (.inl hs1))))), below_drewN (below_alloc' HBW.out _) _⟩
              · have d3 : decide (se < 1) = false := by simp; omega
                by_cases hs2 : 1000000 < se
                · have d4 : decide (1000000 < se) = true := by simp; omega
                  go_wp2
                  go_quiet ((go_at_call 133; exact Calls.quiet_of_same ((rwithin_any _ _ _ (by decide)).mono fun _ _ ⟨h1, h2⟩ => ⟨h1, h2.symm⟩)))
                  go_wp2
                  go_ret
                  exact ⟨ret_bool (HB1.out (evOk_parts_no (.inr (.inl (.inr hs2))))), below_drewN (below_alloc' HBW.out _) _⟩
                · have d4 : decide (1000000 < se) = false := by simp; omega
                  cases hz : inR sz 0 0
                  · have hzz := show inR sz (-sizeOf 4) (sizeOf 4) = false from hz
                    go_wp2
                    go_quiet ((go_at_call 133; exact Calls.quiet_of_same ((rwithin_any _ _ _ (by decide)).mono fun _ _ ⟨h1, h2⟩ => ⟨h1, h2.symm⟩)))
                    go_wp2
                    go_ret
                    exact ⟨ret_bool (HB1.out (evOk_parts_no (.inr (.inr hzz)))), below_drewN (below_alloc' HBW.out _) _⟩
                  · have hgo := evOk_yes (e := ⟨4, se, sz⟩) (by dsimp only; omega) (by dsimp only; omega) (show inR sz (-sizeOf 4) (sizeOf 4) = true from hz)
                    by_cases hk0 : k = 0
                    · have hps : pv < se := by have := HP0.out hk0; omega
                      have hgd2 := HGD.out hgo hps
                      have HG2 := Lib.hid hgd2
                      have hk1 : (k : Int) ≤ 0 := by omega
                      have d5 : decide (0 < (k : Int)) = false := by simp; omega
                      have d7 : decide (0 < k) = false := by simp; omega
                      clear hgd2 hgo hk0
                      go_wp2
                      go_quiet ((go_at_call 133; exact Calls.quiet_of_same ((rwithin_any _ _ _ (by decide)).mono fun _ _ ⟨h1, h2⟩ => ⟨h1, h2.symm⟩)))
                      go_wp2
                      go_roundw
                      case rel => exact ⟨k + 1, by omega, by go_num, HG2.out, Lib.hid (below_drewN (below_alloc' HB.out _) _)⟩
                      case measure => simp [intOf]; omega
                    · have pc := HPR.out (by omega)
                      have d5 : decide (0 < (k : Int)) = true := by simp; omega
                      have d7 : decide (0 < k) = true := by simp; omega
                      have hk1 : 1 ≤ (k : Int) := by omega
                      have hk2 : (k : Int) - 1 < (l.length : Int) := by omega
                      by_cases hps : se ≤ pv
                      · have hb2 := HB2.out hps
                        have HB3 := Lib.hid hb2
                        have d6 : decide (se ≤ pv) = true := by simp; omega
                        clear hb2 hgo hk0
                        go_wp2
                        have s1 : IntKind.i64.wrap ((k : Int) - 1) = (k : Int) - 1 := IntWalk.i64_in _ (by omega)
                        have s4 : ((k : Int) - 1).toNat = k - 1 := by omega
                        go_quiet ((go_at_call 133; exact Calls.quiet_of_same ((rwithin_any _ _ _ (by decide)).mono fun _ _ ⟨h1, h2⟩ => ⟨h1, h2.symm⟩)))
                        clear s1 s4
                        go_wp2
                        go_ret
                        exact ⟨ret_bool HB3.out, below_drewN (below_alloc' HBW.out _) _⟩
                      · have hgd2 := HGD.out hgo (by omega)
                        have HG2 := Lib.hid hgd2
                        have d6 : decide (se ≤ pv) = false := by simp; omega
                        clear hgd2 hgo hk0
                        go_wp2
                        have s1 : IntKind.i64.wrap ((k : Int) - 1) = (k : Int) - 1 := IntWalk.i64_in _ (by omega)
                        have s4 : ((k : Int) - 1).toNat = k - 1 := by omega
                        go_quiet ((go_at_call 133; exact Calls.quiet_of_same ((rwithin_any _ _ _ (by decide)).mono fun _ _ ⟨h1, h2⟩ => ⟨h1, h2.symm⟩)))
                        clear s1 s4
                        go_wp2
                        go_roundw
                        case rel => exact ⟨k + 1, by omega, by go_num, HG2.out, Lib.hid (below_drewN (below_alloc' HB.out _) _)⟩
                        case measure => simp [intOf]; omega
      · have hkl : ¬ (k : Int) < (l.length : Int) := by omega
        obtain rfl : k = l.length := by omega
        have HE := Lib.hid (evs_end HQ.out)
        go_wp2
        go_ret
        exact ⟨ret_bool HE.out, HBW.out⟩
end Go.Proofs.YtlelamjbfjneiaaGreatDoor.Wd
