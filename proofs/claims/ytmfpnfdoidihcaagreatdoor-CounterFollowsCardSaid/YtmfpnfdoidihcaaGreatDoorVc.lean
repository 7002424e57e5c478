/- Contracts: what Check looks at, list by list. · Contracts: Check, and the clock at work that find makes. · Contracts: Check. -/
import Derived.Test.YtmfpnfdoidihcaaGreatDoorVb
import Derived.Test.YtmfpnfdoidihcaaGreatDoorVa
import Derived.Laws.EntriesVeiled
namespace Go.Proofs.YtmfpnfdoidihcaaGreatDoor.Wd
section
open Go Go.RowKit
theorem chamAllowed_at (c : Cham) (w : World) :
    Calls Tryz.prog 122 #[.agg #[.int .i64 c.base, .int .i64 c.swing, .int .i64 c.period]] w fun e w' => e = .returned (.bool (chamOk c)) ∧ Below w.heap.size w w' :=
  chamAllowed_any _ _ _ _
theorem evAllowed_at (c : Evt) (w : World) (ht : Tabs w) :
    Calls Tryz.prog 136 #[.agg #[.int .i64 c.what, .int .i64 c.sec, .int .i64 c.size]] w fun e w' => e = .returned (.bool (evOk c)) ∧ Below w.heap.size w w' :=
  evAllowed_any _ _ _ _ ht
theorem allCham_nil (p : Option Addr) (cap : Nat) (w : World) :
    Calls Tryz.prog 121 #[.slice p 0 cap, .func (.func 122) #[] #[]] w fun e w' => e = .returned (.bool true) ∧ w = w' := by
  go_enter Tryz.func121, Tryz.ntmps121
  go_wp2
  go_rounds 1
  go_ret
  exact ⟨rfl, rfl⟩
theorem allCham_at (b o : Nat) (cap : Nat) (cs : List Cham) (w : World) (hm : cs.length ≤ maxLen) (hc : ChamsAt w cs b o) :
    Calls Tryz.prog 121 #[.slice (some ⟨b, o, none⟩) cs.length cap, .func (.func 122) #[] #[]] w fun e w' => e = .returned (.bool (cs.all chamOk)) ∧ Below w.heap.size w w' := by
  unfold maxLen at hm
  have HC := Lib.hid hc; clear hc
  go_enter Tryz.func121, Tryz.ntmps121
  go_wp2
  go_loopw [9] (fun i wr => ∃ k : Nat, k ≤ cs.length ∧ i = .int .i64 k ∧ (cs.take k).all chamOk = true ∧ Below w.heap.size w wr) (fun i _ => cs.length - (intOf i).toNat)
  case atStart => exact ⟨0, Nat.zero_le _, rfl, rfl, Below.refl _ _⟩
  case round =>
    obtain ⟨k, hk, rfl, ha, hb⟩ := hrel
    by_cases hlt : k < cs.length
    · obtain ⟨c1, c2, c3⟩ := (HC.out k hlt).below hb
      have hz := cell_lt c1
      have hw := hb.size
      cases hok : chamOk cs[k]
      · go_wp2_with (go_at_call 122; refine (chamAllowed_at cs[k] _).mono ?_; rintro e w1 ⟨rfl, hb1⟩)
        go_ret
        exact ⟨ret_bool (all_no _ _ _ hlt hok), (hb.alloc (by omega) _).trans (hb1.mono (by simp; omega))⟩
      · go_wp2_with (go_at_call 122; refine (chamAllowed_at cs[k] _).mono ?_; rintro e w1 ⟨rfl, hb1⟩)
        go_roundw
        case rel => exact ⟨k + 1, by omega, by go_num, take_all_snoc _ _ _ hlt ha hok, (hb.alloc (by omega) _).trans (hb1.mono (by simp; omega))⟩
        case measure => simp [intOf]; omega
    · go_wp2
      go_ret
      exact ⟨ret_bool (all_yes _ _ _ (by omega) ha), hb⟩
theorem allCham_any (p : Option Addr) (cap : Nat) (cs : List Cham) (w : World) (hm : cs.length ≤ maxLen) (hc : SliceIn p cs.length (ChamsAt w cs)) :
    Calls Tryz.prog 121 #[.slice p cs.length cap, .func (.func 122) #[] #[]] w fun e w' => e = .returned (.bool (cs.all chamOk)) ∧ Below w.heap.size w w' := by
  rcases hc with h | ⟨b, o, rfl, hc⟩
  · obtain rfl := List.eq_nil_of_length_eq_zero h
    exact (allCham_nil p cap w).mono fun _ _ ⟨h, e⟩ => ⟨h, e ▸ Below.refl _ _⟩
  · exact allCham_at b o cap cs w hm hc
theorem allInt_nil (p : Option Addr) (cap : Nat) (w : World) :
    Calls Tryz.prog 108 #[.slice p 0 cap, .func (.func 109) #[] #[]] w fun e w' => e = .returned (.bool true) ∧ w = w' := by
  go_enter Tryz.func108, Tryz.ntmps108
  go_wp2
  go_rounds 1
  go_ret
  exact ⟨rfl, rfl⟩
def IntsAt (w : World) (l : List Int) (b o : Nat) : Prop := ∀ i (h : i < l.length), w.cell? ⟨b, o + i, none⟩ = some (.int .i64 l[i])
theorem allInt_at (b o : Nat) (cap : Nat) (l : List Int) (w : World) (hm : l.length ≤ maxLen) (hc : IntsAt w l b o) :
    Calls Tryz.prog 108 #[.slice (some ⟨b, o, none⟩) l.length cap, .func (.func 109) #[] #[]] w fun e w' => e = .returned (.bool (secsOk l)) ∧ w = w' := by
  unfold maxLen at hm
  have HC := Lib.hid hc; clear hc
  go_enter Tryz.func108, Tryz.ntmps108
  go_wp2
  go_loop [9] (fun i => ∃ k : Nat, k ≤ l.length ∧ i = .int .i64 k ∧ (l.take k).all (fun s => inR s 0 1000000) = true) (fun i => l.length - (intOf i).toNat)
  case atStart => exact ⟨0, Nat.zero_le _, rfl, rfl⟩
  case round =>
    obtain ⟨k, hk, rfl, ha⟩ := hrel
    by_cases hlt : k < l.length
    · have c1 := HC.out k hlt
      cases hok : inR l[k] 0 1000000
      · go_wp2_with (go_at_call 109; refine (isSecond_any l[k] _).mono ?_; rintro e w1 ⟨rfl, rfl⟩)
        go_ret
        exact ⟨ret_bool (all_no _ _ _ hlt hok), rfl⟩
      · go_wp2_with (go_at_call 109; refine (isSecond_any l[k] _).mono ?_; rintro e w1 ⟨rfl, rfl⟩)
        go_round
        case rel => exact ⟨k + 1, by omega, by go_num, take_all_snoc _ _ _ hlt ha hok⟩
        case measure => simp [intOf]; omega
    · go_wp2
      go_ret
      exact ⟨ret_bool (all_yes _ _ _ (by omega) ha), rfl⟩
theorem allInt_any (p : Option Addr) (cap : Nat) (l : List Int) (w : World) (hm : l.length ≤ maxLen) (hc : SliceIn p l.length (IntsAt w l)) :
    Calls Tryz.prog 108 #[.slice p l.length cap, .func (.func 109) #[] #[]] w fun e w' => e = .returned (.bool (secsOk l)) ∧ w = w' := by
  rcases hc with h | ⟨b, o, rfl, hc⟩
  · obtain rfl := List.eq_nil_of_length_eq_zero h
    exact allInt_nil p cap w
  · exact allInt_at b o cap l w hm hc
theorem evsOk_many {l : List Evt} (h : ¬ l.length ≤ 8) : false = evsOk l := by simp [evsOk, h]
theorem evsOk_few {l : List Evt} (h : l.length ≤ 8) : evsOk l = evsFrom 0 l := by simp [evsOk, h]
theorem evsFrom_end {last : Int} {l : List Evt} {k : Nat} (h : l.length ≤ k) : evsFrom last (l.drop k) = true := by rw [List.drop_of_length_le h]; rfl
set_option maxRecDepth 100000 in
set_option maxHeartbeats 1000000 in
theorem evsAllowed_at (c : Clk) (b o cap : Nat) (w : World) (ht : Tabs w) (hm : c.evs.length ≤ maxLen) (hc : EvtsAt w c.evs b o) :
    Calls Tryz.prog 128 #[clkVal c (.slice (some ⟨b, o, none⟩) c.evs.length cap)] w fun e w' => e = .returned (.bool (evsOk c.evs)) ∧ Below w.heap.size w w' := by
  obtain ⟨ki, ph, ra, dr, wh, wa, he, ro, es⟩ := c
  dsimp only [clkVal] at hm hc ⊢
  unfold maxLen at hm
  have HC := Lib.hid hc; clear hc
  have HT := Lib.hid ht; clear ht
  by_cases h8 : es.length ≤ 8
  · rw [evsOk_few h8]
    go_enter Tryz.func128, Tryz.ntmps128
    go_wp2
    go_loopw [3, 13] (fun la i wr => ∃ (k : Nat) (last : Int), k ≤ es.length ∧ i = .int .i64 k ∧ la = .int .i64 last ∧ evsFrom 0 es = evsFrom last (es.drop k) ∧ Below w.heap.size w wr) (fun _ i _ => es.length - (intOf i).toNat)
    case atStart => exact ⟨0, 0, Nat.zero_le _, rfl, rfl, rfl, by go_grown⟩
    case round =>
      obtain ⟨k, last, hk, rfl, rfl, ha, hb⟩ := hrel
      by_cases hlt : k < es.length
      · obtain ⟨c1, c2, c3⟩ := (HC.out k hlt).below hb
        have hz := cell_lt c1
        have hw := hb.size
        have HA := Lib.hid ha; clear ha
        cases hok : evOk es[k]
        · have e1 := evsFrom_no1 (last := last) hlt hok
          have E1 := Lib.hid e1; clear e1
          go_wp2_with (go_at_call 136; refine (evAllowed_at es[k] _ ((HT.out.below hb).below ((Below.refl _ _).alloc (Nat.le_refl _) _))).mono ?_; rintro e w1 ⟨rfl, hb1⟩)
          go_ret
          exact ⟨ret_bool (by rw [HA.out, E1.out]), (hb.alloc (by omega) _).trans (hb1.mono (by simp; omega))⟩
        · by_cases hse : es[k].sec ≤ last
          · have e1 := evsFrom_no2 (last := last) hlt hse
            have E1 := Lib.hid e1; clear e1
            go_wp2_with (go_at_call 136; refine (evAllowed_at es[k] _ ((HT.out.below hb).below ((Below.refl _ _).alloc (Nat.le_refl _) _))).mono ?_; rintro e w1 ⟨rfl, hb1⟩; have y1 : w1.cell? ⟨wr.heap.size, 1, none⟩ = some (.int .i64 es[k].sec) := (hb1.cell (p := ⟨wr.heap.size, 1, none⟩) (by simp)).trans (by simp))
            go_ret
            exact ⟨ret_bool (by rw [HA.out, E1.out]), (hb.alloc (by omega) _).trans (hb1.mono (by simp; omega))⟩
          · have e1 := evsFrom_yes (last := last) hlt hok hse
            have E1 := Lib.hid e1; clear e1
            go_wp2_with (go_at_call 136; refine (evAllowed_at es[k] _ ((HT.out.below hb).below ((Below.refl _ _).alloc (Nat.le_refl _) _))).mono ?_; rintro e w1 ⟨rfl, hb1⟩; have y1 : w1.cell? ⟨wr.heap.size, 1, none⟩ = some (.int .i64 es[k].sec) := (hb1.cell (p := ⟨wr.heap.size, 1, none⟩) (by simp)).trans (by simp))
            go_roundw
            case rel => exact ⟨k + 1, es[k].sec, by omega, by go_num, rfl, by rw [HA.out, E1.out], (hb.alloc (by omega) _).trans (hb1.mono (by simp; omega))⟩
            case measure => simp [intOf]; omega
      · go_wp2
        go_ret
        exact ⟨ret_bool (by rw [ha, evsFrom_end (by omega)]), hb⟩
  · have H8 := Lib.hid (evsOk_many h8)
    have h9 : (8 : Int) < (es.length : Int) := by omega
    clear h8
    go_enter Tryz.func128, Tryz.ntmps128
    go_wp2
    go_ret
    exact ⟨ret_bool H8.out, by go_grown⟩
theorem evsAllowed_nil (c : Clk) (p : Option Addr) (cap : Nat) (w : World) :
    Calls Tryz.prog 128 #[clkVal c (.slice p 0 cap)] w fun e w' => e = .returned (.bool true) ∧ Below w.heap.size w w' := by
  obtain ⟨ki, ph, ra, dr, wh, wa, he, ro, es⟩ := c
  dsimp only [clkVal]
  go_enter Tryz.func128, Tryz.ntmps128
  go_wp2
  go_rounds 1
  go_ret
  exact ⟨rfl, by go_grown⟩
theorem evsAllowed_any (c : Clk) (v : Value) (w : World) (ht : Tabs w) (hv : EvSlice w c.evs v) :
    Calls Tryz.prog 128 #[clkVal c v] w fun e w' => e = .returned (.bool (evsOk c.evs)) ∧ Below w.heap.size w w' := by
  obtain ⟨p, cap, rfl, hm, h | ⟨b, o, rfl, hc⟩⟩ := hv
  · rw [h, List.eq_nil_of_length_eq_zero h]
    exact evsAllowed_nil c p cap w
  · exact evsAllowed_at c b o cap w ht hm hc
theorem clkAllowed_at (c : Clk) (n : Int) (v : Value) (w : World) (ht : Tabs w) (hn : 0 ≤ n) (hn' : n ≤ 9223372036854775807) (hv : EvSlice w c.evs v) :
    Calls Tryz.prog 126 #[clkVal c v, .int .i64 n] w fun e w' => e = .returned (.bool (clkOk n c)) ∧ Below w.heap.size w w' := by
  obtain ⟨p, cap, rfl, hm, _⟩ := hv
  exact clkAllowed_any _ _ _ _ _ _ _ _ n c.evs p _ cap w ht hn hn'
/-- the closure that asks of a clock whether it is allowed -/
theorem clkAllowed_in (c : Clk) (n cap1 bw : Nat) (p1 p : Option Addr) (cap : Nat) (w : World) (ht : Tabs w) (hn' : n ≤ maxLen) (hs : SliceIn p c.evs.length (EvtsAt w c.evs)) (hm : c.evs.length ≤ maxLen) (hw : w.cell? ⟨bw, 1, none⟩ = some (.slice p1 n cap1)) :
    Calls Tryz.prog 125 #[clkVal c (.slice p c.evs.length cap), .pointer (some ⟨bw, 0, none⟩)] w fun e w' => e = .returned (.bool (clkOk n c)) ∧ Below w.heap.size w w' := by
  have hz := cell_lt hw
  unfold maxLen at hn'
  have hv : EvSlice w c.evs (.slice p c.evs.length cap) := ⟨p, cap, rfl, hm, hs⟩
  have HV := Lib.hid hv
  have HT := Lib.hid ht
  clear hv hs ht
  unfold clkVal
  go_enter Tryz.func125, Tryz.ntmps125
  go_wp2_with (go_at_call 126; refine (clkAllowed_at c n _ _ (HT.out.below ((Below.refl _ _).alloc (Nat.le_refl _) _)) (by omega) (by omega) (HV.out.below ((Below.refl _ _).alloc (Nat.le_refl _) _))).mono ?_; rintro e w1 ⟨rfl, hb1⟩)
  go_ret
  exact ⟨rfl, ((Below.refl _ w).alloc (Nat.le_refl _) _).trans (hb1.mono (by simp))⟩
end
section
open Go Go.RowKit
theorem evsAllowed_of (c : Clk) (v : Value) (w : World) (ht : Tabs w) (hv : EvSlice w c.evs v) :
    Calls Tryz.prog 128 #[clkVal c v] w fun e w' => e = .returned (.bool (evsOf c)) ∧ Below w.heap.size w w' := evsAllowed_any c v w ht hv
theorem allClk_nil (p : Option Addr) (cap : Nat) (f : Value) (w : World) :
    Calls Tryz.prog 124 #[.slice p 0 cap, f] w fun e w' => e = .returned (.bool true) ∧ w = w' := by
  go_enter Tryz.func124, Tryz.ntmps124
  go_wp2
  go_rounds 1
  go_ret
  exact ⟨rfl, rfl⟩
set_option maxRecDepth 100000 in
set_option maxHeartbeats 1000000 in
theorem allClkEv_at (b o cap : Nat) (cs : List Clk) (w : World) (ht : Tabs w) (hm : cs.length ≤ maxLen) (hc : ClksAt w cs b o) :
    Calls Tryz.prog 124 #[.slice (some ⟨b, o, none⟩) cs.length cap, .func (.func 128) #[] #[]] w fun e w' => e = .returned (.bool (cs.all evsOf)) ∧ Below w.heap.size w w' := by
  unfold maxLen at hm
  have HC := Lib.hid hc; clear hc
  have HT := Lib.hid ht; clear ht
  go_enter Tryz.func124, Tryz.ntmps124
  go_wp2
  go_loopw [9] (fun i wr => ∃ k : Nat, k ≤ cs.length ∧ i = .int .i64 k ∧ (cs.take k).all evsOf = true ∧ Below w.heap.size w wr) (fun i _ => cs.length - (intOf i).toNat)
  case atStart => exact ⟨0, Nat.zero_le _, rfl, rfl, Below.refl _ _⟩
  case round =>
    obtain ⟨k, hk, rfl, ha, hb⟩ := hrel
    by_cases hlt : k < cs.length
    · obtain ⟨⟨c0, c1, c2, c3, c4, c5, c6, c7⟩, v, c8, hv⟩ := (HC.out k hlt).below hb
      have hv' := hv
      obtain ⟨p, cap', rfl, hme, hsl⟩ := hv
      have HV := Lib.hid hv'
      have HSL := Lib.hid hsl
      clear hv' hsl
      have hz := cell_lt c0
      have hw := hb.size
      cases hok : evsOf cs[k]
      · go_wp2_with (go_at_call 128; refine (evsAllowed_of cs[k] _ _ ((HT.out.below hb).below ((Below.refl _ _).alloc (Nat.le_refl _) _)) (HV.out.below ((Below.refl _ _).alloc (Nat.le_refl _) _))).mono ?_; rintro e w1 ⟨rfl, hb1⟩)
        go_ret
        exact ⟨ret_bool (all_no _ _ _ hlt hok), (hb.alloc (by omega) _).trans (hb1.mono (by simp; omega))⟩
      · go_wp2_with (go_at_call 128; refine (evsAllowed_of cs[k] _ _ ((HT.out.below hb).below ((Below.refl _ _).alloc (Nat.le_refl _) _)) (HV.out.below ((Below.refl _ _).alloc (Nat.le_refl _) _))).mono ?_; rintro e w1 ⟨rfl, hb1⟩)
        go_roundw
        case rel => exact ⟨k + 1, by omega, by go_num, take_all_snoc _ _ _ hlt ha hok, (hb.alloc (by omega) _).trans (hb1.mono (by simp; omega))⟩
        case measure => simp [intOf]; omega
    · go_wp2
      go_ret
      exact ⟨ret_bool (all_yes _ _ _ (by omega) ha), hb⟩
set_option maxRecDepth 100000 in
set_option maxHeartbeats 1000000 in
theorem allClkOk_at (b o cap : Nat) (cs : List Clk) (n cap1 bw : Nat) (p1 : Option Addr) (w : World) (ht : Tabs w) (hn : n ≤ maxLen) (hw1 : w.cell? ⟨bw, 1, none⟩ = some (.slice p1 n cap1)) (hm : cs.length ≤ maxLen) (hc : ClksAt w cs b o) :
    Calls Tryz.prog 124 #[.slice (some ⟨b, o, none⟩) cs.length cap, .func (.func 125) #[] #[.pointer (some ⟨bw, 0, none⟩)]] w fun e w' => e = .returned (.bool (cs.all (clkOk n))) ∧ Below w.heap.size w w' := by
  unfold maxLen at hm
  have HC := Lib.hid hc; clear hc
  have HT := Lib.hid ht; clear ht
  have HW := Lib.hid hw1; clear hw1
  go_enter Tryz.func124, Tryz.ntmps124
  go_wp2
  go_loopw [9] (fun i wr => ∃ k : Nat, k ≤ cs.length ∧ i = .int .i64 k ∧ (cs.take k).all (clkOk n) = true ∧ Below w.heap.size w wr) (fun i _ => cs.length - (intOf i).toNat)
  case atStart => exact ⟨0, Nat.zero_le _, rfl, rfl, Below.refl _ _⟩
  case round =>
    obtain ⟨k, hk, rfl, ha, hb⟩ := hrel
    by_cases hlt : k < cs.length
    · obtain ⟨⟨c0, c1, c2, c3, c4, c5, c6, c7⟩, v, c8, hv⟩ := (HC.out k hlt).below hb
      have hv' := hv
      obtain ⟨p, cap', rfl, hme, hsl⟩ := hv
      have HV := Lib.hid hv'
      have HSL := Lib.hid hsl
      clear hv' hsl
      have hz := cell_lt c0
      have hw := hb.size
      cases hok : (clkOk n) cs[k]
      · go_wp2_with (go_at_call 125; refine (clkAllowed_in cs[k] n cap1 bw p1 _ _ _ ((HT.out.below hb).below ((Below.refl _ _).alloc (Nat.le_refl _) _)) hn (HSL.out.imp fun _ _ h => h.below ((Below.refl _ _).alloc (Nat.le_refl _) _)) hme (cell_below ((Below.refl _ _).alloc (Nat.le_refl _) _) (cell_below hb HW.out))).mono ?_; rintro e w1 ⟨rfl, hb1⟩)
        go_ret
        exact ⟨ret_bool (all_no _ _ _ hlt hok), (hb.alloc (by omega) _).trans (hb1.mono (by simp; omega))⟩
      · go_wp2_with (go_at_call 125; refine (clkAllowed_in cs[k] n cap1 bw p1 _ _ _ ((HT.out.below hb).below ((Below.refl _ _).alloc (Nat.le_refl _) _)) hn (HSL.out.imp fun _ _ h => h.below ((Below.refl _ _).alloc (Nat.le_refl _) _)) hme (cell_below ((Below.refl _ _).alloc (Nat.le_refl _) _) (cell_below hb HW.out))).mono ?_; rintro e w1 ⟨rfl, hb1⟩)
        go_roundw
        case rel => exact ⟨k + 1, by omega, by go_num, take_all_snoc _ _ _ hlt ha hok, (hb.alloc (by omega) _).trans (hb1.mono (by simp; omega))⟩
        case measure => simp [intOf]; omega
    · go_wp2
      go_ret
      exact ⟨ret_bool (all_yes _ _ _ (by omega) ha), hb⟩
theorem allClkEv_any (p : Option Addr) (cap : Nat) (cs : List Clk) (w : World) (ht : Tabs w) (hm : cs.length ≤ maxLen) (hc : SliceIn p cs.length (ClksAt w cs)) :
    Calls Tryz.prog 124 #[.slice p cs.length cap, .func (.func 128) #[] #[]] w fun e w' => e = .returned (.bool (cs.all evsOf)) ∧ Below w.heap.size w w' := by
  rcases hc with h | ⟨b, o, rfl, hc⟩
  · obtain rfl := List.eq_nil_of_length_eq_zero h
    exact (allClk_nil p cap _ w).mono fun _ _ ⟨h, e⟩ => ⟨h, e ▸ Below.refl _ _⟩
  · exact allClkEv_at b o cap cs w ht hm hc
theorem allClkOk_any (p : Option Addr) (cap : Nat) (cs : List Clk) (n cap1 bw : Nat) (p1 : Option Addr) (w : World) (ht : Tabs w) (hn : n ≤ maxLen) (hw : w.cell? ⟨bw, 1, none⟩ = some (.slice p1 n cap1)) (hm : cs.length ≤ maxLen) (hc : SliceIn p cs.length (ClksAt w cs)) :
    Calls Tryz.prog 124 #[.slice p cs.length cap, .func (.func 125) #[] #[.pointer (some ⟨bw, 0, none⟩)]] w fun e w' => e = .returned (.bool (cs.all (clkOk n))) ∧ Below w.heap.size w w' := by
  rcases hc with h | ⟨b, o, rfl, hc⟩
  · obtain rfl := List.eq_nil_of_length_eq_zero h
    exact (allClk_nil p cap _ w).mono fun _ _ ⟨h, e⟩ => ⟨h, e ▸ Below.refl _ _⟩
  · exact allClkOk_at b o cap cs n cap1 bw p1 w ht hn hw hm hc
end
end Go.Proofs.YtmfpnfdoidihcaaGreatDoor.Wd
namespace Go.Proofs.YtmfpnfdoidihcaaGreatDoor.Wd
open Go Go.RowKit
/-- the box of a world that Check's closures share -/
def BoxOf (w : World) (bw : Nat) (p1 p2 : Option Addr) (n1 k1 n2 k2 : Nat) : Prop :=
  w.cell? ⟨bw, 1, none⟩ = some (.slice p1 n1 k1) ∧ w.cell? ⟨bw, 2, none⟩ = some (.slice p2 n2 k2)
theorem BoxOf.below {w w' : World} {bw : Nat} {p1 p2 : Option Addr} {n1 k1 n2 k2 : Nat} (h : BoxOf w bw p1 p2 n1 k1 n2 k2) (hb : Below w.heap.size w w') : BoxOf w' bw p1 p2 n1 k1 n2 k2 :=
  ⟨cell_below hb h.1, cell_below hb h.2⟩
theorem chkMany_any (bw : Nat) (p1 p2 : Option Addr) (n1 k1 n2 k2 : Nat) (w : World) (hx : BoxOf w bw p1 p2 n1 k1 n2 k2) :
    Calls Tryz.prog 119 #[.pointer (some ⟨bw, 0, none⟩)] w fun e w' => e = .returned (.bool (inR n1 1 8 && inR n2 1 16)) ∧ w = w' := by
  obtain ⟨h1, h2⟩ := hx
  cases hr : inR n1 1 8
  all_goals
    go_enter Tryz.func119, Tryz.ntmps119
    go_wp2_with (go_at_call 32; refine (within_any _ _ _ _).mono ?_; rintro e w' ⟨rfl, rfl⟩)
    all_goals go_ret
    all_goals exact ⟨ret_bool (by simp), rfl⟩
theorem chkChams_any (bw : Nat) (cs : List Cham) (p1 p2 : Option Addr) (k1 n2 k2 : Nat) (w : World) (hx : BoxOf w bw p1 p2 cs.length k1 n2 k2) (hm : cs.length ≤ maxLen) (hc : SliceIn p1 cs.length (ChamsAt w cs)) :
    Calls Tryz.prog 120 #[.pointer (some ⟨bw, 0, none⟩)] w fun e w' => e = .returned (.bool (cs.all chamOk)) ∧ Below w.heap.size w w' := by
  obtain ⟨h1, h2⟩ := hx
  have HC := Lib.hid hc; clear hc
  go_enter Tryz.func120, Tryz.ntmps120
  go_wp2_with (go_at_call 121; refine (allCham_any _ _ cs _ hm HC.out).mono ?_; rintro e w' ⟨rfl, hb⟩)
  go_ret
  exact ⟨rfl, hb⟩
theorem chkClks_any (bw : Nat) (cs : List Clk) (p1 p2 : Option Addr) (n1 k1 k2 : Nat) (w : World) (ht : Tabs w) (hn : n1 ≤ maxLen) (hx : BoxOf w bw p1 p2 n1 k1 cs.length k2) (hm : cs.length ≤ maxLen) (hc : SliceIn p2 cs.length (ClksAt w cs)) :
    Calls Tryz.prog 123 #[.pointer (some ⟨bw, 0, none⟩)] w fun e w' => e = .returned (.bool (cs.all (clkOk n1))) ∧ Below w.heap.size w w' := by
  obtain ⟨h1, h2⟩ := hx
  have HC := Lib.hid hc; clear hc
  have HT := Lib.hid ht; clear ht
  go_enter Tryz.func123, Tryz.ntmps123
  go_wp2_with (go_at_call 124; refine (allClkOk_any _ _ cs n1 k1 bw p1 _ HT.out hn h1 hm HC.out).mono ?_; rintro e w' ⟨rfl, hb⟩)
  go_ret
  exact ⟨rfl, hb⟩
theorem chkEvs_any (bw : Nat) (cs : List Clk) (p1 p2 : Option Addr) (n1 k1 k2 : Nat) (w : World) (ht : Tabs w) (hx : BoxOf w bw p1 p2 n1 k1 cs.length k2) (hm : cs.length ≤ maxLen) (hc : SliceIn p2 cs.length (ClksAt w cs)) :
    Calls Tryz.prog 127 #[.pointer (some ⟨bw, 0, none⟩)] w fun e w' => e = .returned (.bool (cs.all evsOf)) ∧ Below w.heap.size w w' := by
  obtain ⟨h1, h2⟩ := hx
  have HC := Lib.hid hc; clear hc
  have HT := Lib.hid ht; clear ht
  go_enter Tryz.func127, Tryz.ntmps127
  go_wp2_with (go_at_call 124; refine (allClkEv_any _ _ cs _ HT.out hm HC.out).mono ?_; rintro e w' ⟨rfl, hb⟩)
  go_ret
  exact ⟨rfl, hb⟩
def wldVal (W : Wld) (p1 p2 : Option Addr) (k1 k2 : Nat) : Value := .agg #[.int .u64 W.seed, .slice p1 W.chs.length k1, .slice p2 W.cls.length k2]
theorem chk_index0 (bw : Nat) (w : World) : (Instr.index 176 (.agg #[.int .i64 2, .func (.func 119) #[] #[.pointer (some ⟨bw, 0, none⟩)], .int .i64 6, .func (.func 120) #[] #[.pointer (some ⟨bw, 0, none⟩)], .int .i64 20, .func (.func 123) #[] #[.pointer (some ⟨bw, 0, none⟩)], .int .i64 21, .func (.func 127) #[] #[.pointer (some ⟨bw, 0, none⟩)]]) (.int .i64 0)).run Tryz.prog w = .ok (.agg #[.int .i64 2, .func (.func 119) #[] #[.pointer (some ⟨bw, 0, none⟩)]]) w := by kernel_rfl
theorem chk_index1 (bw : Nat) (w : World) : (Instr.index 176 (.agg #[.int .i64 2, .func (.func 119) #[] #[.pointer (some ⟨bw, 0, none⟩)], .int .i64 6, .func (.func 120) #[] #[.pointer (some ⟨bw, 0, none⟩)], .int .i64 20, .func (.func 123) #[] #[.pointer (some ⟨bw, 0, none⟩)], .int .i64 21, .func (.func 127) #[] #[.pointer (some ⟨bw, 0, none⟩)]]) (.int .i64 1)).run Tryz.prog w = .ok (.agg #[.int .i64 6, .func (.func 120) #[] #[.pointer (some ⟨bw, 0, none⟩)]]) w := by kernel_rfl
theorem chk_index2 (bw : Nat) (w : World) : (Instr.index 176 (.agg #[.int .i64 2, .func (.func 119) #[] #[.pointer (some ⟨bw, 0, none⟩)], .int .i64 6, .func (.func 120) #[] #[.pointer (some ⟨bw, 0, none⟩)], .int .i64 20, .func (.func 123) #[] #[.pointer (some ⟨bw, 0, none⟩)], .int .i64 21, .func (.func 127) #[] #[.pointer (some ⟨bw, 0, none⟩)]]) (.int .i64 2)).run Tryz.prog w = .ok (.agg #[.int .i64 20, .func (.func 123) #[] #[.pointer (some ⟨bw, 0, none⟩)]]) w := by kernel_rfl
theorem chk_index3 (bw : Nat) (w : World) : (Instr.index 176 (.agg #[.int .i64 2, .func (.func 119) #[] #[.pointer (some ⟨bw, 0, none⟩)], .int .i64 6, .func (.func 120) #[] #[.pointer (some ⟨bw, 0, none⟩)], .int .i64 20, .func (.func 123) #[] #[.pointer (some ⟨bw, 0, none⟩)], .int .i64 21, .func (.func 127) #[] #[.pointer (some ⟨bw, 0, none⟩)]]) (.int .i64 3)).run Tryz.prog w = .ok (.agg #[.int .i64 21, .func (.func 127) #[] #[.pointer (some ⟨bw, 0, none⟩)]]) w := by kernel_rfl
set_option maxRecDepth 100000 in
set_option maxHeartbeats 4000000 in
theorem check_any (W : Wld) (p1 p2 : Option Addr) (k1 k2 : Nat) (w : World) (ht : Tabs w) (hW : WldIn w W p1 p2) :
    Calls Tryz.prog 107 #[wldVal W p1 p2 k1 k2] w fun e w' => e = .returned (.int .i64 (checkS W)) ∧ Below w.heap.size w w' := by
  obtain ⟨sd, chs, cls⟩ := W
  unfold wldVal
  dsimp only
  have HW := Lib.hid hW; clear hW
  have HT := Lib.hid ht; clear ht
  have hm1 := HW.out.1
  have hm2 := HW.out.2.1
  dsimp only at hm1 hm2
  have j0 := chk_index0 w.heap.size
  have j1 := chk_index1 w.heap.size
  have j2 := chk_index2 w.heap.size
  have j3 := chk_index3 w.heap.size
  have hen : checkS ⟨sd, chs, cls⟩ = if (inR chs.length 1 8 && inR cls.length 1 16) = false then 2 else if chs.all chamOk = false then 6 else if cls.all (clkOk chs.length) = false then 20 else if cls.all evsOf = false then 21 else 0 := rfl
  cases h1 : (inR chs.length 1 8 && inR cls.length 1 16)
  · have he : checkS ⟨sd, chs, cls⟩ = 2 := by rw [hen]; simp only [h1, if_true]
    have HE := Lib.hid he
    clear he hen
    go_enter Tryz.func107, Tryz.ntmps107
    go_wp2
    refine wp_loop_rounds 5 ?_
    have b0 : BoxOf ((w.alloc (.cells #[.int .u64 sd, .slice p1 chs.length k1, .slice p2 cls.length k2] 38)).alloc (.cells #[.int .i64 2, .func (.func 119) #[] #[.pointer (some ⟨w.heap.size, 0, none⟩)], .int .i64 6, .func (.func 120) #[] #[.pointer (some ⟨w.heap.size, 0, none⟩)], .int .i64 20, .func (.func 123) #[] #[.pointer (some ⟨w.heap.size, 0, none⟩)], .int .i64 21, .func (.func 127) #[] #[.pointer (some ⟨w.heap.size, 0, none⟩)]] 176)) w.heap.size p1 p2 chs.length k1 cls.length k2 := ⟨by simp [go_sem], by simp [go_sem]⟩
    have f0 : Below w.heap.size w ((w.alloc (.cells #[.int .u64 sd, .slice p1 chs.length k1, .slice p2 cls.length k2] 38)).alloc (.cells #[.int .i64 2, .func (.func 119) #[] #[.pointer (some ⟨w.heap.size, 0, none⟩)], .int .i64 6, .func (.func 120) #[] #[.pointer (some ⟨w.heap.size, 0, none⟩)], .int .i64 20, .func (.func 123) #[] #[.pointer (some ⟨w.heap.size, 0, none⟩)], .int .i64 21, .func (.func 127) #[] #[.pointer (some ⟨w.heap.size, 0, none⟩)]] 176)) := by go_grown
    generalize hg : ((w.alloc (.cells #[.int .u64 sd, .slice p1 chs.length k1, .slice p2 cls.length k2] 38)).alloc (.cells #[.int .i64 2, .func (.func 119) #[] #[.pointer (some ⟨w.heap.size, 0, none⟩)], .int .i64 6, .func (.func 120) #[] #[.pointer (some ⟨w.heap.size, 0, none⟩)], .int .i64 20, .func (.func 123) #[] #[.pointer (some ⟨w.heap.size, 0, none⟩)], .int .i64 21, .func (.func 127) #[] #[.pointer (some ⟨w.heap.size, 0, none⟩)]] 176)) = W0 at *
    clear hg
    rw [rounds_succ]
    go_wp2_with fail
    have a0 : Below W0.heap.size W0 (W0.alloc (.cells #[.int .i64 2, .func (.func 119) #[] #[.pointer (some ⟨w.heap.size, 0, none⟩)]] 171)) := (Below.refl _ _).alloc (Nat.le_refl _) _
    have HX := Lib.hid ((HW.out.below f0).below a0)
    have TX := Lib.hid ((HT.out.below f0).below a0)
    have BX := Lib.hid (b0.below a0)
    have y0 : (W0.alloc (.cells #[.int .i64 2, .func (.func 119) #[] #[.pointer (some ⟨w.heap.size, 0, none⟩)]] 171)).cell? ⟨W0.heap.size, 0, none⟩ = some (.int .i64 2) := by simp
    refine (chkMany_any w.heap.size p1 p2 _ k1 _ k2 _ BX.out).mono ?_
    rintro e w1 ⟨rfl, rfl⟩
    have g0 := y0
    have c0 := Below.refl (W0.alloc (.cells #[.int .i64 2, .func (.func 119) #[] #[.pointer (some ⟨w.heap.size, 0, none⟩)]] 171)).heap.size (W0.alloc (.cells #[.int .i64 2, .func (.func 119) #[] #[.pointer (some ⟨w.heap.size, 0, none⟩)]] 171))
    have f1 : Below w.heap.size w (W0.alloc (.cells #[.int .i64 2, .func (.func 119) #[] #[.pointer (some ⟨w.heap.size, 0, none⟩)]] 171)) := f0.trans ((a0.trans (c0.mono (by simp))).mono (by have := f0.size; omega))
    have b1 : BoxOf (W0.alloc (.cells #[.int .i64 2, .func (.func 119) #[] #[.pointer (some ⟨w.heap.size, 0, none⟩)]] 171)) w.heap.size p1 p2 chs.length k1 cls.length k2 := BX.out.below c0
    clear HX TX BX y0 a0 c0 b0
    generalize (W0.alloc (.cells #[.int .i64 2, .func (.func 119) #[] #[.pointer (some ⟨w.heap.size, 0, none⟩)]] 171)) = w1 at *
    have F1 := Lib.hid f1
    have B1 := Lib.hid b1
    clear f1 b1 f0
    go_wp2
    go_ret
    exact ⟨ret_i64 HE.out.symm, F1.out⟩
  · cases h2 : (chs.all chamOk)
    · have he : checkS ⟨sd, chs, cls⟩ = 6 := by rw [hen]; simp only [h1, h2, if_true, Bool.true_eq_false, if_false]
      have HE := Lib.hid he
      clear he hen
      go_enter Tryz.func107, Tryz.ntmps107
      go_wp2
      refine wp_loop_rounds 5 ?_
      have b0 : BoxOf ((w.alloc (.cells #[.int .u64 sd, .slice p1 chs.length k1, .slice p2 cls.length k2] 38)).alloc (.cells #[.int .i64 2, .func (.func 119) #[] #[.pointer (some ⟨w.heap.size, 0, none⟩)], .int .i64 6, .func (.func 120) #[] #[.pointer (some ⟨w.heap.size, 0, none⟩)], .int .i64 20, .func (.func 123) #[] #[.pointer (some ⟨w.heap.size, 0, none⟩)], .int .i64 21, .func (.func 127) #[] #[.pointer (some ⟨w.heap.size, 0, none⟩)]] 176)) w.heap.size p1 p2 chs.length k1 cls.length k2 := ⟨by simp [go_sem], by simp [go_sem]⟩
      have f0 : Below w.heap.size w ((w.alloc (.cells #[.int .u64 sd, .slice p1 chs.length k1, .slice p2 cls.length k2] 38)).alloc (.cells #[.int .i64 2, .func (.func 119) #[] #[.pointer (some ⟨w.heap.size, 0, none⟩)], .int .i64 6, .func (.func 120) #[] #[.pointer (some ⟨w.heap.size, 0, none⟩)], .int .i64 20, .func (.func 123) #[] #[.pointer (some ⟨w.heap.size, 0, none⟩)], .int .i64 21, .func (.func 127) #[] #[.pointer (some ⟨w.heap.size, 0, none⟩)]] 176)) := by go_grown
      generalize hg : ((w.alloc (.cells #[.int .u64 sd, .slice p1 chs.length k1, .slice p2 cls.length k2] 38)).alloc (.cells #[.int .i64 2, .func (.func 119) #[] #[.pointer (some ⟨w.heap.size, 0, none⟩)], .int .i64 6, .func (.func 120) #[] #[.pointer (some ⟨w.heap.size, 0, none⟩)], .int .i64 20, .func (.func 123) #[] #[.pointer (some ⟨w.heap.size, 0, none⟩)], .int .i64 21, .func (.func 127) #[] #[.pointer (some ⟨w.heap.size, 0, none⟩)]] 176)) = W0 at *
      clear hg
      rw [rounds_succ]
      go_wp2_with fail
      have a0 : Below W0.heap.size W0 (W0.alloc (.cells #[.int .i64 2, .func (.func 119) #[] #[.pointer (some ⟨w.heap.size, 0, none⟩)]] 171)) := (Below.refl _ _).alloc (Nat.le_refl _) _
      have HX := Lib.hid ((HW.out.below f0).below a0)
      have TX := Lib.hid ((HT.out.below f0).below a0)
      have BX := Lib.hid (b0.below a0)
      have y0 : (W0.alloc (.cells #[.int .i64 2, .func (.func 119) #[] #[.pointer (some ⟨w.heap.size, 0, none⟩)]] 171)).cell? ⟨W0.heap.size, 0, none⟩ = some (.int .i64 2) := by simp
      refine (chkMany_any w.heap.size p1 p2 _ k1 _ k2 _ BX.out).mono ?_
      rintro e w1 ⟨rfl, rfl⟩
      have g0 := y0
      have c0 := Below.refl (W0.alloc (.cells #[.int .i64 2, .func (.func 119) #[] #[.pointer (some ⟨w.heap.size, 0, none⟩)]] 171)).heap.size (W0.alloc (.cells #[.int .i64 2, .func (.func 119) #[] #[.pointer (some ⟨w.heap.size, 0, none⟩)]] 171))
      have f1 : Below w.heap.size w (W0.alloc (.cells #[.int .i64 2, .func (.func 119) #[] #[.pointer (some ⟨w.heap.size, 0, none⟩)]] 171)) := f0.trans ((a0.trans (c0.mono (by simp))).mono (by have := f0.size; omega))
      have b1 : BoxOf (W0.alloc (.cells #[.int .i64 2, .func (.func 119) #[] #[.pointer (some ⟨w.heap.size, 0, none⟩)]] 171)) w.heap.size p1 p2 chs.length k1 cls.length k2 := BX.out.below c0
      clear HX TX BX y0 a0 c0 b0
      generalize (W0.alloc (.cells #[.int .i64 2, .func (.func 119) #[] #[.pointer (some ⟨w.heap.size, 0, none⟩)]] 171)) = w1 at *
      have F1 := Lib.hid f1
      have B1 := Lib.hid b1
      clear f1 b1 f0
      go_wp2_with fail
      have f1 := F1.out
      have b1 := B1.out
      clear F1 B1
      rw [rounds_succ]
      go_wp2_with fail
      have a1 : Below w1.heap.size w1 (w1.alloc (.cells #[.int .i64 6, .func (.func 120) #[] #[.pointer (some ⟨w.heap.size, 0, none⟩)]] 171)) := (Below.refl _ _).alloc (Nat.le_refl _) _
      have HX := Lib.hid ((HW.out.below f1).below a1)
      have TX := Lib.hid ((HT.out.below f1).below a1)
      have BX := Lib.hid (b1.below a1)
      have y1 : (w1.alloc (.cells #[.int .i64 6, .func (.func 120) #[] #[.pointer (some ⟨w.heap.size, 0, none⟩)]] 171)).cell? ⟨w1.heap.size, 0, none⟩ = some (.int .i64 6) := by simp
      refine (chkChams_any w.heap.size chs p1 p2 k1 _ k2 _ BX.out hm1 HX.out.2.2.1).mono ?_
      rintro e v2 ⟨rfl, c1⟩
      have g1 : v2.cell? ⟨w1.heap.size, 0, none⟩ = some (.int .i64 6) := (c1.cell (p := ⟨w1.heap.size, 0, none⟩) (by simp)).trans y1
      have f2 : Below w.heap.size w v2 := f1.trans ((a1.trans (c1.mono (by simp))).mono (by have := f1.size; omega))
      have b2 : BoxOf v2 w.heap.size p1 p2 chs.length k1 cls.length k2 := BX.out.below c1
      clear HX TX BX y1 a1 c1 b1
      generalize v2 = w2 at *
      have F2 := Lib.hid f2
      have B2 := Lib.hid b2
      clear f2 b2 f1
      go_wp2
      go_ret
      exact ⟨ret_i64 HE.out.symm, F2.out⟩
    · cases h3 : (cls.all (clkOk chs.length))
      · have he : checkS ⟨sd, chs, cls⟩ = 20 := by rw [hen]; simp only [h1, h2, h3, if_true, Bool.true_eq_false, if_false]
        have HE := Lib.hid he
        clear he hen
        go_enter Tryz.func107, Tryz.ntmps107
        go_wp2
        refine wp_loop_rounds 5 ?_
        have b0 : BoxOf ((w.alloc (.cells #[.int .u64 sd, .slice p1 chs.length k1, .slice p2 cls.length k2] 38)).alloc (.cells #[.int .i64 2, .func (.func 119) #[] #[.pointer (some ⟨w.heap.size, 0, none⟩)], .int .i64 6, .func (.func 120) #[] #[.pointer (some ⟨w.heap.size, 0, none⟩)], .int .i64 20, .func (.func 123) #[] #[.pointer (some ⟨w.heap.size, 0, none⟩)], .int .i64 21, .func (.func 127) #[] #[.pointer (some ⟨w.heap.size, 0, none⟩)]] 176)) w.heap.size p1 p2 chs.length k1 cls.length k2 := ⟨by simp [go_sem], by simp [go_sem]⟩
        have f0 : Below w.heap.size w ((w.alloc (.cells #[.int .u64 sd, .slice p1 chs.length k1, .slice p2 cls.length k2] 38)).alloc (.cells #[.int .i64 2, .func (.func 119) #[] #[.pointer (some ⟨w.heap.size, 0, none⟩)], .int .i64 6, .func (.func 120) #[] #[.pointer (some ⟨w.heap.size, 0, none⟩)], .int .i64 20, .func (.func 123) #[] #[.pointer (some ⟨w.heap.size, 0, none⟩)], .int .i64 21, .func (.func 127) #[] #[.pointer (some ⟨w.heap.size, 0, none⟩)]] 176)) := by go_grown
        generalize hg : ((w.alloc (.cells #[.int .u64 sd, .slice p1 chs.length k1, .slice p2 cls.length k2] 38)).alloc (.cells #[.int .i64 2, .func (.func 119) #[] #[.pointer (some ⟨w.heap.size, 0, none⟩)], .int .i64 6, .func (.func 120) #[] #[.pointer (some ⟨w.heap.size, 0, none⟩)], .int .i64 20, .func (.func 123) #[] #[.pointer (some ⟨w.heap.size, 0, none⟩)], .int .i64 21, .func (.func 127) #[] #[.pointer (some ⟨w.heap.size, 0, none⟩)]] 176)) = W0 at *
        clear hg
        rw [rounds_succ]
        go_wp2_with fail
        have a0 : Below W0.heap.size W0 (W0.alloc (.cells #[.int .i64 2, .func (.func 119) #[] #[.pointer (some ⟨w.heap.size, 0, none⟩)]] 171)) := (Below.refl _ _).alloc (Nat.le_refl _) _
        have HX := Lib.hid ((HW.out.below f0).below a0)
        have TX := Lib.hid ((HT.out.below f0).below a0)
        have BX := Lib.hid (b0.below a0)
        have y0 : (W0.alloc (.cells #[.int .i64 2, .func (.func 119) #[] #[.pointer (some ⟨w.heap.size, 0, none⟩)]] 171)).cell? ⟨W0.heap.size, 0, none⟩ = some (.int .i64 2) := by simp
        refine (chkMany_any w.heap.size p1 p2 _ k1 _ k2 _ BX.out).mono ?_
        rintro e w1 ⟨rfl, rfl⟩
        have g0 := y0
        have c0 := Below.refl (W0.alloc (.cells #[.int .i64 2, .func (.func 119) #[] #[.pointer (some ⟨w.heap.size, 0, none⟩)]] 171)).heap.size (W0.alloc (.cells #[.int .i64 2, .func (.func 119) #[] #[.pointer (some ⟨w.heap.size, 0, none⟩)]] 171))
        have f1 : Below w.heap.size w (W0.alloc (.cells #[.int .i64 2, .func (.func 119) #[] #[.pointer (some ⟨w.heap.size, 0, none⟩)]] 171)) := f0.trans ((a0.trans (c0.mono (by simp))).mono (by have := f0.size; omega))
        have b1 : BoxOf (W0.alloc (.cells #[.int .i64 2, .func (.func 119) #[] #[.pointer (some ⟨w.heap.size, 0, none⟩)]] 171)) w.heap.size p1 p2 chs.length k1 cls.length k2 := BX.out.below c0
        clear HX TX BX y0 a0 c0 b0
        generalize (W0.alloc (.cells #[.int .i64 2, .func (.func 119) #[] #[.pointer (some ⟨w.heap.size, 0, none⟩)]] 171)) = w1 at *
        have F1 := Lib.hid f1
        have B1 := Lib.hid b1
        clear f1 b1 f0
        go_wp2_with fail
        have f1 := F1.out
        have b1 := B1.out
        clear F1 B1
        rw [rounds_succ]
        go_wp2_with fail
        have a1 : Below w1.heap.size w1 (w1.alloc (.cells #[.int .i64 6, .func (.func 120) #[] #[.pointer (some ⟨w.heap.size, 0, none⟩)]] 171)) := (Below.refl _ _).alloc (Nat.le_refl _) _
        have HX := Lib.hid ((HW.out.below f1).below a1)
        have TX := Lib.hid ((HT.out.below f1).below a1)
        have BX := Lib.hid (b1.below a1)
        have y1 : (w1.alloc (.cells #[.int .i64 6, .func (.func 120) #[] #[.pointer (some ⟨w.heap.size, 0, none⟩)]] 171)).cell? ⟨w1.heap.size, 0, none⟩ = some (.int .i64 6) := by simp
        refine (chkChams_any w.heap.size chs p1 p2 k1 _ k2 _ BX.out hm1 HX.out.2.2.1).mono ?_
        rintro e v2 ⟨rfl, c1⟩
        have g1 : v2.cell? ⟨w1.heap.size, 0, none⟩ = some (.int .i64 6) := (c1.cell (p := ⟨w1.heap.size, 0, none⟩) (by simp)).trans y1
        have f2 : Below w.heap.size w v2 := f1.trans ((a1.trans (c1.mono (by simp))).mono (by have := f1.size; omega))
        have b2 : BoxOf v2 w.heap.size p1 p2 chs.length k1 cls.length k2 := BX.out.below c1
        clear HX TX BX y1 a1 c1 b1
        generalize v2 = w2 at *
        have F2 := Lib.hid f2
        have B2 := Lib.hid b2
        clear f2 b2 f1
        go_wp2_with fail
        have f2 := F2.out
        have b2 := B2.out
        clear F2 B2
        rw [rounds_succ]
        go_wp2_with fail
        have a2 : Below w2.heap.size w2 (w2.alloc (.cells #[.int .i64 20, .func (.func 123) #[] #[.pointer (some ⟨w.heap.size, 0, none⟩)]] 171)) := (Below.refl _ _).alloc (Nat.le_refl _) _
        have HX := Lib.hid ((HW.out.below f2).below a2)
        have TX := Lib.hid ((HT.out.below f2).below a2)
        have BX := Lib.hid (b2.below a2)
        have y2 : (w2.alloc (.cells #[.int .i64 20, .func (.func 123) #[] #[.pointer (some ⟨w.heap.size, 0, none⟩)]] 171)).cell? ⟨w2.heap.size, 0, none⟩ = some (.int .i64 20) := by simp
        refine (chkClks_any w.heap.size cls p1 p2 _ k1 k2 _ TX.out hm1 BX.out hm2 HX.out.2.2.2).mono ?_
        rintro e v3 ⟨rfl, c2⟩
        have g2 : v3.cell? ⟨w2.heap.size, 0, none⟩ = some (.int .i64 20) := (c2.cell (p := ⟨w2.heap.size, 0, none⟩) (by simp)).trans y2
        have f3 : Below w.heap.size w v3 := f2.trans ((a2.trans (c2.mono (by simp))).mono (by have := f2.size; omega))
        have b3 : BoxOf v3 w.heap.size p1 p2 chs.length k1 cls.length k2 := BX.out.below c2
        clear HX TX BX y2 a2 c2 b2
        generalize v3 = w3 at *
        have F3 := Lib.hid f3
        have B3 := Lib.hid b3
        clear f3 b3 f2
        go_wp2
        go_ret
        exact ⟨ret_i64 HE.out.symm, F3.out⟩
      · cases h4 : (cls.all evsOf)
        · have he : checkS ⟨sd, chs, cls⟩ = 21 := by rw [hen]; simp only [h1, h2, h3, h4, if_true, Bool.true_eq_false, if_false]
          have HE := Lib.hid he
          clear he hen
          go_enter Tryz.func107, Tryz.ntmps107
          go_wp2
          refine wp_loop_rounds 5 ?_
          have b0 : BoxOf ((w.alloc (.cells #[.int .u64 sd, .slice p1 chs.length k1, .slice p2 cls.length k2] 38)).alloc (.cells #[.int .i64 2, .func (.func 119) #[] #[.pointer (some ⟨w.heap.size, 0, none⟩)], .int .i64 6, .func (.func 120) #[] #[.pointer (some ⟨w.heap.size, 0, none⟩)], .int .i64 20, .func (.func 123) #[] #[.pointer (some ⟨w.heap.size, 0, none⟩)], .int .i64 21, .func (.func 127) #[] #[.pointer (some ⟨w.heap.size, 0, none⟩)]] 176)) w.heap.size p1 p2 chs.length k1 cls.length k2 := ⟨by simp [go_sem], by simp [go_sem]⟩
          have f0 : Below w.heap.size w ((w.alloc (.cells #[.int .u64 sd, .slice p1 chs.length k1, .slice p2 cls.length k2] 38)).alloc (.cells #[.int .i64 2, .func (.func 119) #[] #[.pointer (some ⟨w.heap.size, 0, none⟩)], .int .i64 6, .func (.func 120) #[] #[.pointer (some ⟨w.heap.size, 0, none⟩)], .int .i64 20, .func (.func 123) #[] #[.pointer (some ⟨w.heap.size, 0, none⟩)], .int .i64 21, .func (.func 127) #[] #[.pointer (some ⟨w.heap.size, 0, none⟩)]] 176)) := by go_grown
          generalize hg : ((w.alloc (.cells #[.int .u64 sd, .slice p1 chs.length k1, .slice p2 cls.length k2] 38)).alloc (.cells #[.int .i64 2, .func (.func 119) #[] #[.pointer (some ⟨w.heap.size, 0, none⟩)], .int .i64 6, .func (.func 120) #[] #[.pointer (some ⟨w.heap.size, 0, none⟩)], .int .i64 20, .func (.func 123) #[] #[.pointer (some ⟨w.heap.size, 0, none⟩)], .int .i64 21, .func (.func 127) #[] #[.pointer (some ⟨w.heap.size, 0, none⟩)]] 176)) = W0 at *
          clear hg
          rw [rounds_succ]
          go_wp2_with fail
          have a0 : Below W0.heap.size W0 (W0.alloc (.cells #[.int .i64 2, .func (.func 119) #[] #[.pointer (some ⟨w.heap.size, 0, none⟩)]] 171)) := (Below.refl _ _).alloc (Nat.le_refl _) _
          have HX := Lib.hid ((HW.out.below f0).below a0)
          have TX := Lib.hid ((HT.out.below f0).below a0)
          have BX := Lib.hid (b0.below a0)
          have y0 : (W0.alloc (.cells #[.int .i64 2, .func (.func 119) #[] #[.pointer (some ⟨w.heap.size, 0, none⟩)]] 171)).cell? ⟨W0.heap.size, 0, none⟩ = some (.int .i64 2) := by simp
          refine (chkMany_any w.heap.size p1 p2 _ k1 _ k2 _ BX.out).mono ?_
          rintro e w1 ⟨rfl, rfl⟩
          have g0 := y0
          have c0 := Below.refl (W0.alloc (.cells #[.int .i64 2, .func (.func 119) #[] #[.pointer (some ⟨w.heap.size, 0, none⟩)]] 171)).heap.size (W0.alloc (.cells #[.int .i64 2, .func (.func 119) #[] #[.pointer (some ⟨w.heap.size, 0, none⟩)]] 171))
          have f1 : Below w.heap.size w (W0.alloc (.cells #[.int .i64 2, .func (.func 119) #[] #[.pointer (some ⟨w.heap.size, 0, none⟩)]] 171)) := f0.trans ((a0.trans (c0.mono (by simp))).mono (by have := f0.size; omega))
          have b1 : BoxOf (W0.alloc (.cells #[.int .i64 2, .func (.func 119) #[] #[.pointer (some ⟨w.heap.size, 0, none⟩)]] 171)) w.heap.size p1 p2 chs.length k1 cls.length k2 := BX.out.below c0
          clear HX TX BX y0 a0 c0 b0
          generalize (W0.alloc (.cells #[.int .i64 2, .func (.func 119) #[] #[.pointer (some ⟨w.heap.size, 0, none⟩)]] 171)) = w1 at *
          have F1 := Lib.hid f1
          have B1 := Lib.hid b1
          clear f1 b1 f0
          go_wp2_with fail
          have f1 := F1.out
          have b1 := B1.out
          clear F1 B1
          rw [rounds_succ]
          go_wp2_with fail
          have a1 : Below w1.heap.size w1 (w1.alloc (.cells #[.int .i64 6, .func (.func 120) #[] #[.pointer (some ⟨w.heap.size, 0, none⟩)]] 171)) := (Below.refl _ _).alloc (Nat.le_refl _) _
          have HX := Lib.hid ((HW.out.below f1).below a1)
          have TX := Lib.hid ((HT.out.below f1).below a1)
          have BX := Lib.hid (b1.below a1)
          have y1 : (w1.alloc (.cells #[.int .i64 6, .func (.func 120) #[] #[.pointer (some ⟨w.heap.size, 0, none⟩)]] 171)).cell? ⟨w1.heap.size, 0, none⟩ = some (.int .i64 6) := by simp
          refine (chkChams_any w.heap.size chs p1 p2 k1 _ k2 _ BX.out hm1 HX.out.2.2.1).mono ?_
          rintro e v2 ⟨rfl, c1⟩
          have g1 : v2.cell? ⟨w1.heap.size, 0, none⟩ = some (.int .i64 6) := (c1.cell (p := ⟨w1.heap.size, 0, none⟩) (by simp)).trans y1
          have f2 : Below w.heap.size w v2 := f1.trans ((a1.trans (c1.mono (by simp))).mono (by have := f1.size; omega))
          have b2 : BoxOf v2 w.heap.size p1 p2 chs.length k1 cls.length k2 := BX.out.below c1
          clear HX TX BX y1 a1 c1 b1
          generalize v2 = w2 at *
          have F2 := Lib.hid f2
          have B2 := Lib.hid b2
          clear f2 b2 f1
          go_wp2_with fail
          have f2 := F2.out
          have b2 := B2.out
          clear F2 B2
          rw [rounds_succ]
          go_wp2_with fail
          have a2 : Below w2.heap.size w2 (w2.alloc (.cells #[.int .i64 20, .func (.func 123) #[] #[.pointer (some ⟨w.heap.size, 0, none⟩)]] 171)) := (Below.refl _ _).alloc (Nat.le_refl _) _
          have HX := Lib.hid ((HW.out.below f2).below a2)
          have TX := Lib.hid ((HT.out.below f2).below a2)
          have BX := Lib.hid (b2.below a2)
          have y2 : (w2.alloc (.cells #[.int .i64 20, .func (.func 123) #[] #[.pointer (some ⟨w.heap.size, 0, none⟩)]] 171)).cell? ⟨w2.heap.size, 0, none⟩ = some (.int .i64 20) := by simp
          refine (chkClks_any w.heap.size cls p1 p2 _ k1 k2 _ TX.out hm1 BX.out hm2 HX.out.2.2.2).mono ?_
          rintro e v3 ⟨rfl, c2⟩
          have g2 : v3.cell? ⟨w2.heap.size, 0, none⟩ = some (.int .i64 20) := (c2.cell (p := ⟨w2.heap.size, 0, none⟩) (by simp)).trans y2
          have f3 : Below w.heap.size w v3 := f2.trans ((a2.trans (c2.mono (by simp))).mono (by have := f2.size; omega))
          have b3 : BoxOf v3 w.heap.size p1 p2 chs.length k1 cls.length k2 := BX.out.below c2
          clear HX TX BX y2 a2 c2 b2
          generalize v3 = w3 at *
          have F3 := Lib.hid f3
          have B3 := Lib.hid b3
          clear f3 b3 f2
          go_wp2_with fail
          have f3 := F3.out
          have b3 := B3.out
          clear F3 B3
          rw [rounds_succ]
          go_wp2_with fail
          have a3 : Below w3.heap.size w3 (w3.alloc (.cells #[.int .i64 21, .func (.func 127) #[] #[.pointer (some ⟨w.heap.size, 0, none⟩)]] 171)) := (Below.refl _ _).alloc (Nat.le_refl _) _
          have HX := Lib.hid ((HW.out.below f3).below a3)
          have TX := Lib.hid ((HT.out.below f3).below a3)
          have BX := Lib.hid (b3.below a3)
          have y3 : (w3.alloc (.cells #[.int .i64 21, .func (.func 127) #[] #[.pointer (some ⟨w.heap.size, 0, none⟩)]] 171)).cell? ⟨w3.heap.size, 0, none⟩ = some (.int .i64 21) := by simp
          refine (chkEvs_any w.heap.size cls p1 p2 _ k1 k2 _ TX.out BX.out hm2 HX.out.2.2.2).mono ?_
          rintro e v4 ⟨rfl, c3⟩
          have g3 : v4.cell? ⟨w3.heap.size, 0, none⟩ = some (.int .i64 21) := (c3.cell (p := ⟨w3.heap.size, 0, none⟩) (by simp)).trans y3
          have f4 : Below w.heap.size w v4 := f3.trans ((a3.trans (c3.mono (by simp))).mono (by have := f3.size; omega))
          have b4 : BoxOf v4 w.heap.size p1 p2 chs.length k1 cls.length k2 := BX.out.below c3
          clear HX TX BX y3 a3 c3 b3
          generalize v4 = w4 at *
          have F4 := Lib.hid f4
          have B4 := Lib.hid b4
          clear f4 b4 f3
          go_wp2
          go_ret
          exact ⟨ret_i64 HE.out.symm, F4.out⟩
        · have he : checkS ⟨sd, chs, cls⟩ = 0 := by rw [hen]; simp only [h1, h2, h3, h4, Bool.true_eq_false, if_false]
          have HE := Lib.hid he
          clear he hen
          go_enter Tryz.func107, Tryz.ntmps107
          go_wp2
          refine wp_loop_rounds 5 ?_
          have b0 : BoxOf ((w.alloc (.cells #[.int .u64 sd, .slice p1 chs.length k1, .slice p2 cls.length k2] 38)).alloc (.cells #[.int .i64 2, .func (.func 119) #[] #[.pointer (some ⟨w.heap.size, 0, none⟩)], .int .i64 6, .func (.func 120) #[] #[.pointer (some ⟨w.heap.size, 0, none⟩)], .int .i64 20, .func (.func 123) #[] #[.pointer (some ⟨w.heap.size, 0, none⟩)], .int .i64 21, .func (.func 127) #[] #[.pointer (some ⟨w.heap.size, 0, none⟩)]] 176)) w.heap.size p1 p2 chs.length k1 cls.length k2 := ⟨by simp [go_sem], by simp [go_sem]⟩
          have f0 : Below w.heap.size w ((w.alloc (.cells #[.int .u64 sd, .slice p1 chs.length k1, .slice p2 cls.length k2] 38)).alloc (.cells #[.int .i64 2, .func (.func 119) #[] #[.pointer (some ⟨w.heap.size, 0, none⟩)], .int .i64 6, .func (.func 120) #[] #[.pointer (some ⟨w.heap.size, 0, none⟩)], .int .i64 20, .func (.func 123) #[] #[.pointer (some ⟨w.heap.size, 0, none⟩)], .int .i64 21, .func (.func 127) #[] #[.pointer (some ⟨w.heap.size, 0, none⟩)]] 176)) := by go_grown
          generalize hg : ((w.alloc (.cells #[.int .u64 sd, .slice p1 chs.length k1, .slice p2 cls.length k2] 38)).alloc (.cells #[.int .i64 2, .func (.func 119) #[] #[.pointer (some ⟨w.heap.size, 0, none⟩)], .int .i64 6, .func (.func 120) #[] #[.pointer (some ⟨w.heap.size, 0, none⟩)], .int .i64 20, .func (.func 123) #[] #[.pointer (some ⟨w.heap.size, 0, none⟩)], .int .i64 21, .func (.func 127) #[] #[.pointer (some ⟨w.heap.size, 0, none⟩)]] 176)) = W0 at *
          clear hg
          rw [rounds_succ]
          go_wp2_with fail
          have a0 : Below W0.heap.size W0 (W0.alloc (.cells #[.int .i64 2, .func (.func 119) #[] #[.pointer (some ⟨w.heap.size, 0, none⟩)]] 171)) := (Below.refl _ _).alloc (Nat.le_refl _) _
          have HX := Lib.hid ((HW.out.below f0).below a0)
          have TX := Lib.hid ((HT.out.below f0).below a0)
          have BX := Lib.hid (b0.below a0)
          have y0 : (W0.alloc (.cells #[.int .i64 2, .func (.func 119) #[] #[.pointer (some ⟨w.heap.size, 0, none⟩)]] 171)).cell? ⟨W0.heap.size, 0, none⟩ = some (.int .i64 2) := by simp
          refine (chkMany_any w.heap.size p1 p2 _ k1 _ k2 _ BX.out).mono ?_
          rintro e w1 ⟨rfl, rfl⟩
          have g0 := y0
          have c0 := Below.refl (W0.alloc (.cells #[.int .i64 2, .func (.func 119) #[] #[.pointer (some ⟨w.heap.size, 0, none⟩)]] 171)).heap.size (W0.alloc (.cells #[.int .i64 2, .func (.func 119) #[] #[.pointer (some ⟨w.heap.size, 0, none⟩)]] 171))
          have f1 : Below w.heap.size w (W0.alloc (.cells #[.int .i64 2, .func (.func 119) #[] #[.pointer (some ⟨w.heap.size, 0, none⟩)]] 171)) := f0.trans ((a0.trans (c0.mono (by simp))).mono (by have := f0.size; omega))
          have b1 : BoxOf (W0.alloc (.cells #[.int .i64 2, .func (.func 119) #[] #[.pointer (some ⟨w.heap.size, 0, none⟩)]] 171)) w.heap.size p1 p2 chs.length k1 cls.length k2 := BX.out.below c0
          clear HX TX BX y0 a0 c0 b0
          generalize (W0.alloc (.cells #[.int .i64 2, .func (.func 119) #[] #[.pointer (some ⟨w.heap.size, 0, none⟩)]] 171)) = w1 at *
          have F1 := Lib.hid f1
          have B1 := Lib.hid b1
          clear f1 b1 f0
          go_wp2_with fail
          have f1 := F1.out
          have b1 := B1.out
          clear F1 B1
          rw [rounds_succ]
          go_wp2_with fail
          have a1 : Below w1.heap.size w1 (w1.alloc (.cells #[.int .i64 6, .func (.func 120) #[] #[.pointer (some ⟨w.heap.size, 0, none⟩)]] 171)) := (Below.refl _ _).alloc (Nat.le_refl _) _
          have HX := Lib.hid ((HW.out.below f1).below a1)
          have TX := Lib.hid ((HT.out.below f1).below a1)
          have BX := Lib.hid (b1.below a1)
          have y1 : (w1.alloc (.cells #[.int .i64 6, .func (.func 120) #[] #[.pointer (some ⟨w.heap.size, 0, none⟩)]] 171)).cell? ⟨w1.heap.size, 0, none⟩ = some (.int .i64 6) := by simp
          refine (chkChams_any w.heap.size chs p1 p2 k1 _ k2 _ BX.out hm1 HX.out.2.2.1).mono ?_
          rintro e v2 ⟨rfl, c1⟩
          have g1 : v2.cell? ⟨w1.heap.size, 0, none⟩ = some (.int .i64 6) := (c1.cell (p := ⟨w1.heap.size, 0, none⟩) (by simp)).trans y1
          have f2 : Below w.heap.size w v2 := f1.trans ((a1.trans (c1.mono (by simp))).mono (by have := f1.size; omega))
          have b2 : BoxOf v2 w.heap.size p1 p2 chs.length k1 cls.length k2 := BX.out.below c1
          clear HX TX BX y1 a1 c1 b1
          generalize v2 = w2 at *
          have F2 := Lib.hid f2
          have B2 := Lib.hid b2
          clear f2 b2 f1
          go_wp2_with fail
          have f2 := F2.out
          have b2 := B2.out
          clear F2 B2
          rw [rounds_succ]
          go_wp2_with fail
          have a2 : Below w2.heap.size w2 (w2.alloc (.cells #[.int .i64 20, .func (.func 123) #[] #[.pointer (some ⟨w.heap.size, 0, none⟩)]] 171)) := (Below.refl _ _).alloc (Nat.le_refl _) _
          have HX := Lib.hid ((HW.out.below f2).below a2)
          have TX := Lib.hid ((HT.out.below f2).below a2)
          have BX := Lib.hid (b2.below a2)
          have y2 : (w2.alloc (.cells #[.int .i64 20, .func (.func 123) #[] #[.pointer (some ⟨w.heap.size, 0, none⟩)]] 171)).cell? ⟨w2.heap.size, 0, none⟩ = some (.int .i64 20) := by simp
          refine (chkClks_any w.heap.size cls p1 p2 _ k1 k2 _ TX.out hm1 BX.out hm2 HX.out.2.2.2).mono ?_
          rintro e v3 ⟨rfl, c2⟩
          have g2 : v3.cell? ⟨w2.heap.size, 0, none⟩ = some (.int .i64 20) := (c2.cell (p := ⟨w2.heap.size, 0, none⟩) (by simp)).trans y2
          have f3 : Below w.heap.size w v3 := f2.trans ((a2.trans (c2.mono (by simp))).mono (by have := f2.size; omega))
          have b3 : BoxOf v3 w.heap.size p1 p2 chs.length k1 cls.length k2 := BX.out.below c2
          clear HX TX BX y2 a2 c2 b2
          generalize v3 = w3 at *
          have F3 := Lib.hid f3
          have B3 := Lib.hid b3
          clear f3 b3 f2
          go_wp2_with fail
          have f3 := F3.out
          have b3 := B3.out
          clear F3 B3
          rw [rounds_succ]
          go_wp2_with fail
          have a3 : Below w3.heap.size w3 (w3.alloc (.cells #[.int .i64 21, .func (.func 127) #[] #[.pointer (some ⟨w.heap.size, 0, none⟩)]] 171)) := (Below.refl _ _).alloc (Nat.le_refl _) _
          have HX := Lib.hid ((HW.out.below f3).below a3)
          have TX := Lib.hid ((HT.out.below f3).below a3)
          have BX := Lib.hid (b3.below a3)
          have y3 : (w3.alloc (.cells #[.int .i64 21, .func (.func 127) #[] #[.pointer (some ⟨w.heap.size, 0, none⟩)]] 171)).cell? ⟨w3.heap.size, 0, none⟩ = some (.int .i64 21) := by simp
          refine (chkEvs_any w.heap.size cls p1 p2 _ k1 k2 _ TX.out BX.out hm2 HX.out.2.2.2).mono ?_
          rintro e v4 ⟨rfl, c3⟩
          have g3 : v4.cell? ⟨w3.heap.size, 0, none⟩ = some (.int .i64 21) := (c3.cell (p := ⟨w3.heap.size, 0, none⟩) (by simp)).trans y3
          have f4 : Below w.heap.size w v4 := f3.trans ((a3.trans (c3.mono (by simp))).mono (by have := f3.size; omega))
          have b4 : BoxOf v4 w.heap.size p1 p2 chs.length k1 cls.length k2 := BX.out.below c3
          clear HX TX BX y3 a3 c3 b3
          generalize v4 = w4 at *
          have F4 := Lib.hid f4
          have B4 := Lib.hid b4
          clear f4 b4 f3
          go_wp2_with fail
          rw [rounds_succ]
          go_wp2
          go_ret
          exact ⟨ret_i64 HE.out.symm, F4.out⟩
end Go.Proofs.YtmfpnfdoidihcaaGreatDoor.Wd
