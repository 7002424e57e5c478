/- Contracts: what Check looks at, list by list. · Contracts: Check, and the clock at work that find makes. -/
import Derived.Test.YtlelamjbfjneiaaGreatDoorQ21
import Derived.Test.YtlelamjbfjneiaaGreatDoorQ02
namespace Go.Proofs.YtlelamjbfjneiaaGreatDoor.Wd
section
open Go Go.RowKit
theorem chamAllowed_at (c : Cham) (w : World) :
    Calls Tryz.prog 121 #[.agg #[.int .i64 c.base, .int .i64 c.swing, .int .i64 c.period]] w fun e w' => e = .returned (.bool (chamOk c)) ∧ Below w.heap.size w w' :=
  chamAllowed_any _ _ _ _
theorem evAllowed_at (c : Evt) (w : World) (ht : Tabs w) :
    Calls Tryz.prog 136 #[.agg #[.int .i64 c.what, .int .i64 c.sec, .int .i64 c.size]] w fun e w' => e = .returned (.bool (evOk c)) ∧ Below w.heap.size w w' :=
  evAllowed_any _ _ _ _ ht
theorem allCham_nil (p : Option Addr) (cap : Nat) (w : World) :
    Calls Tryz.prog 120 #[.slice p 0 cap, .func (.func 121) #[] #[]] w fun e w' => e = .returned (.bool true) ∧ w = w' := by
  go_enter Tryz.func120, Tryz.ntmps120
  go_wp2
  go_rounds 1
  go_ret
  exact ⟨rfl, rfl⟩
theorem allCham_at (b o : Nat) (cap : Nat) (cs : List Cham) (w : World) (hm : cs.length ≤ maxLen) (hc : ChamsAt w cs b o) :
    Calls Tryz.prog 120 #[.slice (some ⟨b, o, none⟩) cs.length cap, .func (.func 121) #[] #[]] w fun e w' => e = .returned (.bool (cs.all chamOk)) ∧ Below w.heap.size w w' := by
  unfold maxLen at hm
  have HC := Lib.hid hc; clear hc
  go_enter Tryz.func120, Tryz.ntmps120
  go_wp2
  go_loopw [9] (fun i wr => ∃ k : Nat, k ≤ cs.length ∧ i = .int .i64 k ∧ (cs.take k).all chamOk = true ∧ Below w.heap.size w wr) (fun i _ => cs.length - (intOf i).toNat)
  case atStart => exact ⟨0, Nat.zero_le _, rfl, rfl, Below.refl _ _⟩
  case round =>
    obtain ⟨k, hk, rfl, ha, hb⟩ := hrel
    by_cases hlt : k < cs.length
    · obtain ⟨c1, c2, c3⟩ := (HC.out k hlt).below hb
      have hz := cell_lt c1
      have hw := hb.size
      cases hok : chamOk cs[k]
      · go_wp2_with (go_at_call 121; refine (chamAllowed_at cs[k] _).mono ?_; rintro e w1 ⟨rfl, hb1⟩)
        go_ret
        exact ⟨ret_bool (all_no _ _ _ hlt hok), (hb.alloc (by omega) _).trans (hb1.mono (by simp; omega))⟩
      · go_wp2_with (go_at_call 121; refine (chamAllowed_at cs[k] _).mono ?_; rintro e w1 ⟨rfl, hb1⟩)
        go_roundw
        case rel => exact ⟨k + 1, by omega, by go_num, take_all_snoc _ _ _ hlt ha hok, (hb.alloc (by omega) _).trans (hb1.mono (by simp; omega))⟩
        case measure => simp [intOf]; omega
    · go_wp2
      go_ret
      exact ⟨ret_bool (all_yes _ _ _ (by omega) ha), hb⟩
theorem allCham_any (p : Option Addr) (cap : Nat) (cs : List Cham) (w : World) (hm : cs.length ≤ maxLen) (hc : SliceIn p cs.length (ChamsAt w cs)) :
    Calls Tryz.prog 120 #[.slice p cs.length cap, .func (.func 121) #[] #[]] w fun e w' => e = .returned (.bool (cs.all chamOk)) ∧ Below w.heap.size w w' := by
  rcases hc with h | ⟨b, o, rfl, hc⟩
  · obtain rfl := List.eq_nil_of_length_eq_zero h
    exact (allCham_nil p cap w).mono fun _ _ ⟨h, e⟩ => ⟨h, e ▸ Below.refl _ _⟩
  · exact allCham_at b o cap cs w hm hc
theorem allInt_nil (p : Option Addr) (cap : Nat) (w : World) :
    Calls Tryz.prog 109 #[.slice p 0 cap, .func (.func 110) #[] #[]] w fun e w' => e = .returned (.bool true) ∧ w = w' := by
  go_enter Tryz.func109, Tryz.ntmps109
  go_wp2
  go_rounds 1
  go_ret
  exact ⟨rfl, rfl⟩
def IntsAt (w : World) (l : List Int) (b o : Nat) : Prop := ∀ i (h : i < l.length), w.cell? ⟨b, o + i, none⟩ = some (.int .i64 l[i])
theorem allInt_at (b o : Nat) (cap : Nat) (l : List Int) (w : World) (hm : l.length ≤ maxLen) (hc : IntsAt w l b o) :
    Calls Tryz.prog 109 #[.slice (some ⟨b, o, none⟩) l.length cap, .func (.func 110) #[] #[]] w fun e w' => e = .returned (.bool (secsOk l)) ∧ w = w' := by
  unfold maxLen at hm
  have HC := Lib.hid hc; clear hc
  go_enter Tryz.func109, Tryz.ntmps109
  go_wp2
  go_loop [9] (fun i => ∃ k : Nat, k ≤ l.length ∧ i = .int .i64 k ∧ (l.take k).all (fun s => inR s 0 1000000) = true) (fun i => l.length - (intOf i).toNat)
  case atStart => exact ⟨0, Nat.zero_le _, rfl, rfl⟩
  case round =>
    obtain ⟨k, hk, rfl, ha⟩ := hrel
    by_cases hlt : k < l.length
    · have c1 := HC.out k hlt
      cases hok : inR l[k] 0 1000000
      · go_wp2_with (go_at_call 110; refine (isSecond_any l[k] _).mono ?_; rintro e w1 ⟨rfl, rfl⟩)
        go_ret
        exact ⟨ret_bool (all_no _ _ _ hlt hok), rfl⟩
      · go_wp2_with (go_at_call 110; refine (isSecond_any l[k] _).mono ?_; rintro e w1 ⟨rfl, rfl⟩)
        go_round
        case rel => exact ⟨k + 1, by omega, by go_num, take_all_snoc _ _ _ hlt ha hok⟩
        case measure => simp [intOf]; omega
    · go_wp2
      go_ret
      exact ⟨ret_bool (all_yes _ _ _ (by omega) ha), rfl⟩
theorem allInt_any (p : Option Addr) (cap : Nat) (l : List Int) (w : World) (hm : l.length ≤ maxLen) (hc : SliceIn p l.length (IntsAt w l)) :
    Calls Tryz.prog 109 #[.slice p l.length cap, .func (.func 110) #[] #[]] w fun e w' => e = .returned (.bool (secsOk l)) ∧ w = w' := by
  rcases hc with h | ⟨b, o, rfl, hc⟩
  · obtain rfl := List.eq_nil_of_length_eq_zero h
    exact allInt_nil p cap w
  · exact allInt_at b o cap l w hm hc
theorem evsOk_many {l : List Evt} (h : ¬ l.length ≤ 8) : false = evsOk l := by simp [evsOk, h]
theorem evsOk_few {l : List Evt} (h : l.length ≤ 8) : evsOk l = evsFrom 0 l := by simp [evsOk, h]
theorem evsFrom_end {last : Int} {l : List Evt} {k : Nat} (h : l.length ≤ k) : evsFrom last (l.drop k) = true := by rw [List.drop_of_length_le h]; rfl
set_option maxRecDepth 100000 in
set_option maxHeartbeats 1000000 in
theorem evsAllowed_at (c : Clk) (b o cap : Nat) (w : World) (ht : Tabs w) (hm : c.evs.length ≤ maxLen) (hc : EvtsAt w c.evs b o) :
    Calls Tryz.prog 127 #[clkVal c (.slice (some ⟨b, o, none⟩) c.evs.length cap)] w fun e w' => e = .returned (.bool (evsOk c.evs)) ∧ Below w.heap.size w w' := by
  obtain ⟨ki, ph, ra, dr, wh, wa, he, ro, es⟩ := c
  dsimp only [clkVal] at hm hc ⊢
  unfold maxLen at hm
  have HC := Lib.hid hc; clear hc
  have HT := Lib.hid ht; clear ht
  by_cases h8 : es.length ≤ 8
  · rw [evsOk_few h8]
    go_enter Tryz.func127, Tryz.ntmps127
    go_wp2
    go_loopw [3, 13] (fun la i wr => ∃ (k : Nat) (last : Int), k ≤ es.length ∧ i = .int .i64 k ∧ la = .int .i64 last ∧ evsFrom 0 es = evsFrom last (es.drop k) ∧ Below w.heap.size w wr) (fun _ i _ => es.length - (intOf i).toNat)
    case atStart => exact ⟨0, 0, Nat.zero_le _, rfl, rfl, rfl, by go_grown⟩
    case round =>
      obtain ⟨k, last, hk, rfl, rfl, ha, hb⟩ := hrel
      by_cases hlt : k < es.length
      · obtain ⟨c1, c2, c3⟩ := (HC.out k hlt).below hb
        have hz := cell_lt c1
        have hw := hb.size
        have HA := Lib.hid ha; clear ha
        cases hok : evOk es[k]
        · have e1 := evsFrom_no1 (last := last) hlt hok
          have E1 := Lib.hid e1; clear e1
          go_wp2_with (go_at_call 136; refine (evAllowed_at es[k] _ ((HT.out.below hb).below ((Below.refl _ _).alloc (Nat.le_refl _) _))).mono ?_; rintro e w1 ⟨rfl, hb1⟩)
          go_ret
          exact ⟨ret_bool (by rw [HA.out, E1.out]), (hb.alloc (by omega) _).trans (hb1.mono (by simp; omega))⟩
        · by_cases hse : es[k].sec ≤ last
          · have e1 := evsFrom_no2 (last := last) hlt hse
            have E1 := Lib.hid e1; clear e1
            go_wp2_with (go_at_call 136; refine (evAllowed_at es[k] _ ((HT.out.below hb).below ((Below.refl _ _).alloc (Nat.le_refl _) _))).mono ?_; rintro e w1 ⟨rfl, hb1⟩; have y1 : w1.cell? ⟨wr.heap.size, 1, none⟩ = some (.int .i64 es[k].sec) := (hb1.cell (p := ⟨wr.heap.size, 1, none⟩) (by simp)).trans (by simp))
            go_ret
            exact ⟨ret_bool (by rw [HA.out, E1.out]), (hb.alloc (by omega) _).trans (hb1.mono (by simp; omega))⟩
          · have e1 := evsFrom_yes (last := last) hlt hok hse
            have E1 := Lib.hid e1; clear e1
            go_wp2_with (go_at_call 136; refine (evAllowed_at es[k] _ ((HT.out.below hb).below ((Below.refl _ _).alloc (Nat.le_refl _) _))).mono ?_; rintro e w1 ⟨rfl, hb1⟩; have y1 : w1.cell? ⟨wr.heap.size, 1, none⟩ = some (.int .i64 es[k].sec) := (hb1.cell (p := ⟨wr.heap.size, 1, none⟩) (by simp)).trans (by simp))
            go_roundw
            case rel => exact ⟨k + 1, es[k].sec, by omega, by go_num, rfl, by rw [HA.out, E1.out], (hb.alloc (by omega) _).trans (hb1.mono (by simp; omega))⟩
            case measure => simp [intOf]; omega
      · go_wp2
        go_ret
        exact ⟨ret_bool (by rw [ha, evsFrom_end (by omega)]), hb⟩
  · have H8 := Lib.hid (evsOk_many h8)
    have h9 : (8 : Int) < (es.length : Int) := by omega
    clear h8
    go_enter Tryz.func127, Tryz.ntmps127
    go_wp2
    go_ret
    exact ⟨ret_bool H8.out, by go_grown⟩
theorem evsAllowed_nil (c : Clk) (p : Option Addr) (cap : Nat) (w : World) :
    Calls Tryz.prog 127 #[clkVal c (.slice p 0 cap)] w fun e w' => e = .returned (.bool true) ∧ Below w.heap.size w w' := by
  obtain ⟨ki, ph, ra, dr, wh, wa, he, ro, es⟩ := c
  dsimp only [clkVal]
  go_enter Tryz.func127, Tryz.ntmps127
  go_wp2
  go_rounds 1
  go_ret
  exact ⟨rfl, by go_grown⟩
theorem evsAllowed_any (c : Clk) (v : Value) (w : World) (ht : Tabs w) (hv : EvSlice w c.evs v) :
    Calls Tryz.prog 127 #[clkVal c v] w fun e w' => e = .returned (.bool (evsOk c.evs)) ∧ Below w.heap.size w w' := by
  obtain ⟨p, cap, rfl, hm, h | ⟨b, o, rfl, hc⟩⟩ := hv
  · rw [h, List.eq_nil_of_length_eq_zero h]
    exact evsAllowed_nil c p cap w
  · exact evsAllowed_at c b o cap w ht hm hc
theorem clkAllowed_at (c : Clk) (n : Int) (v : Value) (w : World) (ht : Tabs w) (hn : 0 ≤ n) (hn' : n ≤ 9223372036854775807) (hv : EvSlice w c.evs v) :
    Calls Tryz.prog 125 #[clkVal c v, .int .i64 n] w fun e w' => e = .returned (.bool (clkOk n c)) ∧ Below w.heap.size w w' := by
  obtain ⟨p, cap, rfl, hm, _⟩ := hv
  exact clkAllowed_any _ _ _ _ _ _ _ _ n c.evs p _ cap w ht hn hn'
/-- the closure that asks of a clock whether it is allowed -/
theorem clkAllowed_in (c : Clk) (n cap1 bw : Nat) (p1 p : Option Addr) (cap : Nat) (w : World) (ht : Tabs w) (hn' : n ≤ maxLen) (hs : SliceIn p c.evs.length (EvtsAt w c.evs)) (hm : c.evs.length ≤ maxLen) (hw : w.cell? ⟨bw, 1, none⟩ = some (.slice p1 n cap1)) :
    Calls Tryz.prog 124 #[clkVal c (.slice p c.evs.length cap), .pointer (some ⟨bw, 0, none⟩)] w fun e w' => e = .returned (.bool (clkOk n c)) ∧ Below w.heap.size w w' := by
  have hz := cell_lt hw
  unfold maxLen at hn'
  have hv : EvSlice w c.evs (.slice p c.evs.length cap) := ⟨p, cap, rfl, hm, hs⟩
  have HV := Lib.hid hv
  have HT := Lib.hid ht
  clear hv hs ht
  unfold clkVal
  go_enter Tryz.func124, Tryz.ntmps124
  go_wp2_with (go_at_call 125; refine (clkAllowed_at c n _ _ (HT.out.below ((Below.refl _ _).alloc (Nat.le_refl _) _)) (by omega) (by omega) (HV.out.below ((Below.refl _ _).alloc (Nat.le_refl _) _))).mono ?_; rintro e w1 ⟨rfl, hb1⟩)
  go_ret
  exact ⟨rfl, ((Below.refl _ w).alloc (Nat.le_refl _) _).trans (hb1.mono (by simp))⟩
end
section
open Go Go.RowKit
theorem evsAllowed_of (c : Clk) (v : Value) (w : World) (ht : Tabs w) (hv : EvSlice w c.evs v) :
    Calls Tryz.prog 127 #[clkVal c v] w fun e w' => e = .returned (.bool (evsOf c)) ∧ Below w.heap.size w w' := evsAllowed_any c v w ht hv
theorem allClk_nil (p : Option Addr) (cap : Nat) (f : Value) (w : World) :
    Calls Tryz.prog 123 #[.slice p 0 cap, f] w fun e w' => e = .returned (.bool true) ∧ w = w' := by
  go_enter Tryz.func123, Tryz.ntmps123
  go_wp2
  go_rounds 1
  go_ret
  exact ⟨rfl, rfl⟩
set_option maxRecDepth 100000 in
set_option maxHeartbeats 1000000 in
theorem allClkEv_at (b o cap : Nat) (cs : List Clk) (w : World) (ht : Tabs w) (hm : cs.length ≤ maxLen) (hc : ClksAt w cs b o) :
    Calls Tryz.prog 123 #[.slice (some ⟨b, o, none⟩) cs.length cap, .func (.func 127) #[] #[]] w fun e w' => e = .returned (.bool (cs.all evsOf)) ∧ Below w.heap.size w w' := by
  unfold maxLen at hm
  have HC := Lib.hid hc; clear hc
  have HT := Lib.hid ht; clear ht
  go_enter Tryz.func123, Tryz.ntmps123
  go_wp2
  go_loopw [9] (fun i wr => ∃ k : Nat, k ≤ cs.length ∧ i = .int .i64 k ∧ (cs.take k).all evsOf = true ∧ Below w.heap.size w wr) (fun i _ => cs.length - (intOf i).toNat)
  case atStart => exact ⟨0, Nat.zero_le _, rfl, rfl, Below.refl _ _⟩
  case round =>
    obtain ⟨k, hk, rfl, ha, hb⟩ := hrel
    by_cases hlt : k < cs.length
    · obtain ⟨⟨c0, c1, c2, c3, c4, c5, c6, c7⟩, v, c8, hv⟩ := (HC.out k hlt).below hb
      have hv' := hv
      obtain ⟨p, cap', rfl, hme, hsl⟩ := hv
      have HV := Lib.hid hv'
      have HSL := Lib.hid hsl
      clear hv' hsl
      have hz := cell_lt c0
      have hw := hb.size
      cases hok : evsOf cs[k]
      · go_wp2_with (go_at_call 127; refine (evsAllowed_of cs[k] _ _ ((HT.out.below hb).below ((Below.refl _ _).alloc (Nat.le_refl _) _)) (HV.out.below ((Below.refl _ _).alloc (Nat.le_refl _) _))).mono ?_; rintro e w1 ⟨rfl, hb1⟩)
        go_ret
        exact ⟨ret_bool (all_no _ _ _ hlt hok), (hb.alloc (by omega) _).trans (hb1.mono (by simp; omega))⟩
      · go_wp2_with (go_at_call 127; refine (evsAllowed_of cs[k] _ _ ((HT.out.below hb).below ((Below.refl _ _).alloc (Nat.le_refl _) _)) (HV.out.below ((Below.refl _ _).alloc (Nat.le_refl _) _))).mono ?_; rintro e w1 ⟨rfl, hb1⟩)
        go_roundw
        case rel => exact ⟨k + 1, by omega, by go_num, take_all_snoc _ _ _ hlt ha hok, (hb.alloc (by omega) _).trans (hb1.mono (by simp; omega))⟩
        case measure => simp [intOf]; omega
    · go_wp2
      go_ret
      exact ⟨ret_bool (all_yes _ _ _ (by omega) ha), hb⟩
set_option maxRecDepth 100000 in
set_option maxHeartbeats 1000000 in
theorem allClkOk_at (b o cap : Nat) (cs : List Clk) (n cap1 bw : Nat) (p1 : Option Addr) (w : World) (ht : Tabs w) (hn : n ≤ maxLen) (hw1 : w.cell? ⟨bw, 1, none⟩ = some (.slice p1 n cap1)) (hm : cs.length ≤ maxLen) (hc : ClksAt w cs b o) :
    Calls Tryz.prog 123 #[.slice (some ⟨b, o, none⟩) cs.length cap, .func (.func 124) #[] #[.pointer (some ⟨bw, 0, none⟩)]] w fun e w' => e = .returned (.bool (cs.all (clkOk n))) ∧ Below w.heap.size w w' := by
  unfold maxLen at hm
  have HC := Lib.hid hc; clear hc
  have HT := Lib.hid ht; clear ht
  have HW := Lib.hid hw1; clear hw1
  go_enter Tryz.func123, Tryz.ntmps123
  go_wp2
  go_loopw [9] (fun i wr => ∃ k : Nat, k ≤ cs.length ∧ i = .int .i64 k ∧ (cs.take k).all (clkOk n) = true ∧ Below w.heap.size w wr) (fun i _ => cs.length - (intOf i).toNat)
  case atStart => exact ⟨0, Nat.zero_le _, rfl, rfl, Below.refl _ _⟩
  case round =>
    obtain ⟨k, hk, rfl, ha, hb⟩ := hrel
    by_cases hlt : k < cs.length
    · obtain ⟨⟨c0, c1, c2, c3, c4, c5, c6, c7⟩, v, c8, hv⟩ := (HC.out k hlt).below hb
      have hv' := hv
      obtain ⟨p, cap', rfl, hme, hsl⟩ := hv
      have HV := Lib.hid hv'
      have HSL := Lib.hid hsl
      clear hv' hsl
      have hz := cell_lt c0
      have hw := hb.size
      cases hok : (clkOk n) cs[k]
      · go_wp2_with (go_at_call 124; refine (clkAllowed_in cs[k] n cap1 bw p1 _ _ _ ((HT.out.below hb).below ((Below.refl _ _).alloc (Nat.le_refl _) _)) hn (HSL.out.imp fun _ _ h => h.below ((Below.refl _ _).alloc (Nat.le_refl _) _)) hme (cell_below ((Below.refl _ _).alloc (Nat.le_refl _) _) (cell_below hb HW.out))).mono ?_; rintro e w1 ⟨rfl, hb1⟩)
        go_ret
        exact ⟨ret_bool (all_no _ _ _ hlt hok), (hb.alloc (by omega) _).trans (hb1.mono (by simp; omega))⟩
      · go_wp2_with (go_at_call 124; refine (clkAllowed_in cs[k] n cap1 bw p1 _ _ _ ((HT.out.below hb).below ((Below.refl _ _).alloc (Nat.le_refl _) _)) hn (HSL.out.imp fun _ _ h => h.below ((Below.refl _ _).alloc (Nat.le_refl _) _)) hme (cell_below ((Below.refl _ _).alloc (Nat.le_refl _) _) (cell_below hb HW.out))).mono ?_; rintro e w1 ⟨rfl, hb1⟩)
        go_roundw
        case rel => exact ⟨k + 1, by omega, by go_num, take_all_snoc _ _ _ hlt ha hok, (hb.alloc (by omega) _).trans (hb1.mono (by simp; omega))⟩
        case measure => simp [intOf]; omega
    · go_wp2
      go_ret
      exact ⟨ret_bool (all_yes _ _ _ (by omega) ha), hb⟩
theorem allClkEv_any (p : Option Addr) (cap : Nat) (cs : List Clk) (w : World) (ht : Tabs w) (hm : cs.length ≤ maxLen) (hc : SliceIn p cs.length (ClksAt w cs)) :
    Calls Tryz.prog 123 #[.slice p cs.length cap, .func (.func 127) #[] #[]] w fun e w' => e = .returned (.bool (cs.all evsOf)) ∧ Below w.heap.size w w' := by
  rcases hc with h | ⟨b, o, rfl, hc⟩
  · obtain rfl := List.eq_nil_of_length_eq_zero h
    exact (allClk_nil p cap _ w).mono fun _ _ ⟨h, e⟩ => ⟨h, e ▸ Below.refl _ _⟩
  · exact allClkEv_at b o cap cs w ht hm hc
theorem allClkOk_any (p : Option Addr) (cap : Nat) (cs : List Clk) (n cap1 bw : Nat) (p1 : Option Addr) (w : World) (ht : Tabs w) (hn : n ≤ maxLen) (hw : w.cell? ⟨bw, 1, none⟩ = some (.slice p1 n cap1)) (hm : cs.length ≤ maxLen) (hc : SliceIn p cs.length (ClksAt w cs)) :
    Calls Tryz.prog 123 #[.slice p cs.length cap, .func (.func 124) #[] #[.pointer (some ⟨bw, 0, none⟩)]] w fun e w' => e = .returned (.bool (cs.all (clkOk n))) ∧ Below w.heap.size w w' := by
  rcases hc with h | ⟨b, o, rfl, hc⟩
  · obtain rfl := List.eq_nil_of_length_eq_zero h
    exact (allClk_nil p cap _ w).mono fun _ _ ⟨h, e⟩ => ⟨h, e ▸ Below.refl _ _⟩
  · exact allClkOk_at b o cap cs n cap1 bw p1 w ht hn hw hm hc
end
end Go.Proofs.YtlelamjbfjneiaaGreatDoor.Wd
