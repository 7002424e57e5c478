/- Contracts: what Check looks at, list by list. · Contracts: Check, and the clock at work that find makes. · Contracts: Check. · Contracts: find, which makes a clock at work. · Contracts: phases, what is shown, readings; the calls that hand back one number. -/
import Derived.Test.YtmfpnfdoidihcaaDoorVb
import Derived.Test.YtmfpnfdoidihcaaDoorVa
import Derived.Laws.EntriesVeiled
namespace Go.Proofs.YtmfpnfdoidihcaaDoor.Wd
section
open Go Go.RowKit
theorem chamAllowed_at (c : Cham) (w : World) :
    Calls Tryd.prog 66 #[.agg #[.int .i64 c.base, .int .i64 c.swing, .int .i64 c.period]] w fun e w' => e = .returned (.bool (chamOk c)) ∧ Below w.heap.size w w' :=
  chamAllowed_any _ _ _ _
theorem evAllowed_at (c : Evt) (w : World) (ht : Tabs w) :
    Calls Tryd.prog 93 #[.agg #[.int .i64 c.what, .int .i64 c.sec, .int .i64 c.size]] w fun e w' => e = .returned (.bool (evOk c)) ∧ Below w.heap.size w w' :=
  evAllowed_any _ _ _ _ ht
theorem allCham_nil (p : Option Addr) (cap : Nat) (w : World) :
    Calls Tryd.prog 65 #[.slice p 0 cap, .func (.func 66) #[] #[]] w fun e w' => e = .returned (.bool true) ∧ w = w' := by
  go_enter Tryd.func65, Tryd.ntmps65
  go_wp2
  go_rounds 1
  go_ret
  exact ⟨rfl, rfl⟩
theorem allCham_at (b o : Nat) (cap : Nat) (cs : List Cham) (w : World) (hm : cs.length ≤ maxLen) (hc : ChamsAt w cs b o) :
    Calls Tryd.prog 65 #[.slice (some ⟨b, o, none⟩) cs.length cap, .func (.func 66) #[] #[]] w fun e w' => e = .returned (.bool (cs.all chamOk)) ∧ Below w.heap.size w w' := by
  unfold maxLen at hm
  have HC := Lib.hid hc; clear hc
  go_enter Tryd.func65, Tryd.ntmps65
  go_wp2
  go_loopw [9] (fun i wr => ∃ k : Nat, k ≤ cs.length ∧ i = .int .i64 k ∧ (cs.take k).all chamOk = true ∧ Below w.heap.size w wr) (fun i _ => cs.length - (intOf i).toNat)
  case atStart => exact ⟨0, Nat.zero_le _, rfl, rfl, Below.refl _ _⟩
  case round =>
    obtain ⟨k, hk, rfl, ha, hb⟩ := hrel
    by_cases hlt : k < cs.length
    · obtain ⟨c1, c2, c3⟩ := (HC.out k hlt).below hb
      have hz := cell_lt c1
      have hw := hb.size
      cases hok : chamOk cs[k]
      · go_wp2_with (go_at_call 66; refine (chamAllowed_at cs[k] _).mono ?_; rintro e w1 ⟨rfl, hb1⟩)
        go_ret
        exact ⟨ret_bool (all_no _ _ _ hlt hok), (hb.alloc (by omega) _).trans (hb1.mono (by simp; omega))⟩
      · go_wp2_with (go_at_call 66; refine (chamAllowed_at cs[k] _).mono ?_; rintro e w1 ⟨rfl, hb1⟩)
        go_roundw
        case rel => exact ⟨k + 1, by omega, by go_num, take_all_snoc _ _ _ hlt ha hok, (hb.alloc (by omega) _).trans (hb1.mono (by simp; omega))⟩
        case measure => simp [intOf]; omega
    · go_wp2
      go_ret
      exact ⟨ret_bool (all_yes _ _ _ (by omega) ha), hb⟩
theorem allCham_any (p : Option Addr) (cap : Nat) (cs : List Cham) (w : World) (hm : cs.length ≤ maxLen) (hc : SliceIn p cs.length (ChamsAt w cs)) :
    Calls Tryd.prog 65 #[.slice p cs.length cap, .func (.func 66) #[] #[]] w fun e w' => e = .returned (.bool (cs.all chamOk)) ∧ Below w.heap.size w w' := by
  rcases hc with h | ⟨b, o, rfl, hc⟩
  · obtain rfl := List.eq_nil_of_length_eq_zero h
    exact (allCham_nil p cap w).mono fun _ _ ⟨h, e⟩ => ⟨h, e ▸ Below.refl _ _⟩
  · exact allCham_at b o cap cs w hm hc
theorem allInt_nil (p : Option Addr) (cap : Nat) (w : World) :
    Calls Tryd.prog 44 #[.slice p 0 cap, .func (.func 45) #[] #[]] w fun e w' => e = .returned (.bool true) ∧ w = w' := by
  go_enter Tryd.func44, Tryd.ntmps44
  go_wp2
  go_rounds 1
  go_ret
  exact ⟨rfl, rfl⟩
def IntsAt (w : World) (l : List Int) (b o : Nat) : Prop := ∀ i (h : i < l.length), w.cell? ⟨b, o + i, none⟩ = some (.int .i64 l[i])
theorem allInt_at (b o : Nat) (cap : Nat) (l : List Int) (w : World) (hm : l.length ≤ maxLen) (hc : IntsAt w l b o) :
    Calls Tryd.prog 44 #[.slice (some ⟨b, o, none⟩) l.length cap, .func (.func 45) #[] #[]] w fun e w' => e = .returned (.bool (secsOk l)) ∧ w = w' := by
  unfold maxLen at hm
  have HC := Lib.hid hc; clear hc
  go_enter Tryd.func44, Tryd.ntmps44
  go_wp2
  go_loop [9] (fun i => ∃ k : Nat, k ≤ l.length ∧ i = .int .i64 k ∧ (l.take k).all (fun s => inR s 0 1000000) = true) (fun i => l.length - (intOf i).toNat)
  case atStart => exact ⟨0, Nat.zero_le _, rfl, rfl⟩
  case round =>
    obtain ⟨k, hk, rfl, ha⟩ := hrel
    by_cases hlt : k < l.length
    · have c1 := HC.out k hlt
      cases hok : inR l[k] 0 1000000
      · go_wp2_with (go_at_call 45; refine (isSecond_any l[k] _).mono ?_; rintro e w1 ⟨rfl, rfl⟩)
        go_ret
        exact ⟨ret_bool (all_no _ _ _ hlt hok), rfl⟩
      · go_wp2_with (go_at_call 45; refine (isSecond_any l[k] _).mono ?_; rintro e w1 ⟨rfl, rfl⟩)
        go_round
        case rel => exact ⟨k + 1, by omega, by go_num, take_all_snoc _ _ _ hlt ha hok⟩
        case measure => simp [intOf]; omega
    · go_wp2
      go_ret
      exact ⟨ret_bool (all_yes _ _ _ (by omega) ha), rfl⟩
theorem allInt_any (p : Option Addr) (cap : Nat) (l : List Int) (w : World) (hm : l.length ≤ maxLen) (hc : SliceIn p l.length (IntsAt w l)) :
    Calls Tryd.prog 44 #[.slice p l.length cap, .func (.func 45) #[] #[]] w fun e w' => e = .returned (.bool (secsOk l)) ∧ w = w' := by
  rcases hc with h | ⟨b, o, rfl, hc⟩
  · obtain rfl := List.eq_nil_of_length_eq_zero h
    exact allInt_nil p cap w
  · exact allInt_at b o cap l w hm hc
theorem evsOk_many {l : List Evt} (h : ¬ l.length ≤ 8) : false = evsOk l := by simp [evsOk, h]
theorem evsOk_few {l : List Evt} (h : l.length ≤ 8) : evsOk l = evsFrom 0 l := by simp [evsOk, h]
theorem evsFrom_end {last : Int} {l : List Evt} {k : Nat} (h : l.length ≤ k) : evsFrom last (l.drop k) = true := by rw [List.drop_of_length_le h]; rfl
set_option maxRecDepth 100000 in
set_option maxHeartbeats 1000000 in
theorem evsAllowed_at (c : Clk) (b o cap : Nat) (w : World) (ht : Tabs w) (hm : c.evs.length ≤ maxLen) (hc : EvtsAt w c.evs b o) :
    Calls Tryd.prog 72 #[clkVal c (.slice (some ⟨b, o, none⟩) c.evs.length cap)] w fun e w' => e = .returned (.bool (evsOk c.evs)) ∧ Below w.heap.size w w' := by
  obtain ⟨ki, ph, ra, dr, wh, wa, he, ro, es⟩ := c
  dsimp only [clkVal] at hm hc ⊢
  unfold maxLen at hm
  have HC := Lib.hid hc; clear hc
  have HT := Lib.hid ht; clear ht
  by_cases h8 : es.length ≤ 8
  · rw [evsOk_few h8]
    go_enter Tryd.func72, Tryd.ntmps72
    go_wp2
    go_loopw [3, 13] (fun la i wr => ∃ (k : Nat) (last : Int), k ≤ es.length ∧ i = .int .i64 k ∧ la = .int .i64 last ∧ evsFrom 0 es = evsFrom last (es.drop k) ∧ Below w.heap.size w wr) (fun _ i _ => es.length - (intOf i).toNat)
    case atStart => exact ⟨0, 0, Nat.zero_le _, rfl, rfl, rfl, by go_grown⟩
    case round =>
      obtain ⟨k, last, hk, rfl, rfl, ha, hb⟩ := hrel
      by_cases hlt : k < es.length
      · obtain ⟨c1, c2, c3⟩ := (HC.out k hlt).below hb
        have hz := cell_lt c1
        have hw := hb.size
        have HA := Lib.hid ha; clear ha
        cases hok : evOk es[k]
        · have e1 := evsFrom_no1 (last := last) hlt hok
          have E1 := Lib.hid e1; clear e1
          go_wp2_with (go_at_call 93; refine (evAllowed_at es[k] _ ((HT.out.below hb).below ((Below.refl _ _).alloc (Nat.le_refl _) _))).mono ?_; rintro e w1 ⟨rfl, hb1⟩)
          go_ret
          exact ⟨ret_bool (by rw [HA.out, E1.out]), (hb.alloc (by omega) _).trans (hb1.mono (by simp; omega))⟩
        · by_cases hse : es[k].sec ≤ last
          · have e1 := evsFrom_no2 (last := last) hlt hse
            have E1 := Lib.hid e1; clear e1
            go_wp2_with (go_at_call 93; refine (evAllowed_at es[k] _ ((HT.out.below hb).below ((Below.refl _ _).alloc (Nat.le_refl _) _))).mono ?_; rintro e w1 ⟨rfl, hb1⟩; have y1 : w1.cell? ⟨wr.heap.size, 1, none⟩ = some (.int .i64 es[k].sec) := (hb1.cell (p := ⟨wr.heap.size, 1, none⟩) (by simp)).trans (by simp))
            go_ret
            exact ⟨ret_bool (by rw [HA.out, E1.out]), (hb.alloc (by omega) _).trans (hb1.mono (by simp; omega))⟩
          · have e1 := evsFrom_yes (last := last) hlt hok hse
            have E1 := Lib.hid e1; clear e1
            go_wp2_with (go_at_call 93; refine (evAllowed_at es[k] _ ((HT.out.below hb).below ((Below.refl _ _).alloc (Nat.le_refl _) _))).mono ?_; rintro e w1 ⟨rfl, hb1⟩; have y1 : w1.cell? ⟨wr.heap.size, 1, none⟩ = some (.int .i64 es[k].sec) := (hb1.cell (p := ⟨wr.heap.size, 1, none⟩) (by simp)).trans (by simp))
            go_roundw
            case rel => exact ⟨k + 1, es[k].sec, by omega, by go_num, rfl, by rw [HA.out, E1.out], (hb.alloc (by omega) _).trans (hb1.mono (by simp; omega))⟩
            case measure => simp [intOf]; omega
      · go_wp2
        go_ret
        exact ⟨ret_bool (by rw [ha, evsFrom_end (by omega)]), hb⟩
  · have H8 := Lib.hid (evsOk_many h8)
    have h9 : (8 : Int) < (es.length : Int) := by omega
    clear h8
    go_enter Tryd.func72, Tryd.ntmps72
    go_wp2
    go_ret
    exact ⟨ret_bool H8.out, by go_grown⟩
theorem evsAllowed_nil (c : Clk) (p : Option Addr) (cap : Nat) (w : World) :
    Calls Tryd.prog 72 #[clkVal c (.slice p 0 cap)] w fun e w' => e = .returned (.bool true) ∧ Below w.heap.size w w' := by
  obtain ⟨ki, ph, ra, dr, wh, wa, he, ro, es⟩ := c
  dsimp only [clkVal]
  go_enter Tryd.func72, Tryd.ntmps72
  go_wp2
  go_rounds 1
  go_ret
  exact ⟨rfl, by go_grown⟩
theorem evsAllowed_any (c : Clk) (v : Value) (w : World) (ht : Tabs w) (hv : EvSlice w c.evs v) :
    Calls Tryd.prog 72 #[clkVal c v] w fun e w' => e = .returned (.bool (evsOk c.evs)) ∧ Below w.heap.size w w' := by
  obtain ⟨p, cap, rfl, hm, h | ⟨b, o, rfl, hc⟩⟩ := hv
  · rw [h, List.eq_nil_of_length_eq_zero h]
    exact evsAllowed_nil c p cap w
  · exact evsAllowed_at c b o cap w ht hm hc
theorem clkAllowed_at (c : Clk) (n : Int) (v : Value) (w : World) (ht : Tabs w) (hn : 0 ≤ n) (hn' : n ≤ 9223372036854775807) (hv : EvSlice w c.evs v) :
    Calls Tryd.prog 70 #[clkVal c v, .int .i64 n] w fun e w' => e = .returned (.bool (clkOk n c)) ∧ Below w.heap.size w w' := by
  obtain ⟨p, cap, rfl, hm, _⟩ := hv
  exact clkAllowed_any _ _ _ _ _ _ _ _ n c.evs p _ cap w ht hn hn'
/-- the closure that asks of a clock whether it is allowed -/
theorem clkAllowed_in (c : Clk) (n cap1 bw : Nat) (p1 p : Option Addr) (cap : Nat) (w : World) (ht : Tabs w) (hn' : n ≤ maxLen) (hs : SliceIn p c.evs.length (EvtsAt w c.evs)) (hm : c.evs.length ≤ maxLen) (hw : w.cell? ⟨bw, 1, none⟩ = some (.slice p1 n cap1)) :
    Calls Tryd.prog 69 #[clkVal c (.slice p c.evs.length cap), .pointer (some ⟨bw, 0, none⟩)] w fun e w' => e = .returned (.bool (clkOk n c)) ∧ Below w.heap.size w w' := by
  have hz := cell_lt hw
  unfold maxLen at hn'
  have hv : EvSlice w c.evs (.slice p c.evs.length cap) := ⟨p, cap, rfl, hm, hs⟩
  have HV := Lib.hid hv
  have HT := Lib.hid ht
  clear hv hs ht
  unfold clkVal
  go_enter Tryd.func69, Tryd.ntmps69
  go_wp2_with (go_at_call 70; refine (clkAllowed_at c n _ _ (HT.out.below ((Below.refl _ _).alloc (Nat.le_refl _) _)) (by omega) (by omega) (HV.out.below ((Below.refl _ _).alloc (Nat.le_refl _) _))).mono ?_; rintro e w1 ⟨rfl, hb1⟩)
  go_ret
  exact ⟨rfl, ((Below.refl _ w).alloc (Nat.le_refl _) _).trans (hb1.mono (by simp))⟩
end
section
open Go Go.RowKit
theorem evsAllowed_of (c : Clk) (v : Value) (w : World) (ht : Tabs w) (hv : EvSlice w c.evs v) :
    Calls Tryd.prog 72 #[clkVal c v] w fun e w' => e = .returned (.bool (evsOf c)) ∧ Below w.heap.size w w' := evsAllowed_any c v w ht hv
theorem allClk_nil (p : Option Addr) (cap : Nat) (f : Value) (w : World) :
    Calls Tryd.prog 68 #[.slice p 0 cap, f] w fun e w' => e = .returned (.bool true) ∧ w = w' := by
  go_enter Tryd.func68, Tryd.ntmps68
  go_wp2
  go_rounds 1
  go_ret
  exact ⟨rfl, rfl⟩
set_option maxRecDepth 100000 in
set_option maxHeartbeats 1000000 in
theorem allClkEv_at (b o cap : Nat) (cs : List Clk) (w : World) (ht : Tabs w) (hm : cs.length ≤ maxLen) (hc : ClksAt w cs b o) :
    Calls Tryd.prog 68 #[.slice (some ⟨b, o, none⟩) cs.length cap, .func (.func 72) #[] #[]] w fun e w' => e = .returned (.bool (cs.all evsOf)) ∧ Below w.heap.size w w' := by
  unfold maxLen at hm
  have HC := Lib.hid hc; clear hc
  have HT := Lib.hid ht; clear ht
  go_enter Tryd.func68, Tryd.ntmps68
  go_wp2
  go_loopw [9] (fun i wr => ∃ k : Nat, k ≤ cs.length ∧ i = .int .i64 k ∧ (cs.take k).all evsOf = true ∧ Below w.heap.size w wr) (fun i _ => cs.length - (intOf i).toNat)
  case atStart => exact ⟨0, Nat.zero_le _, rfl, rfl, Below.refl _ _⟩
  case round =>
    obtain ⟨k, hk, rfl, ha, hb⟩ := hrel
    by_cases hlt : k < cs.length
    · obtain ⟨⟨c0, c1, c2, c3, c4, c5, c6, c7⟩, v, c8, hv⟩ := (HC.out k hlt).below hb
      have hv' := hv
      obtain ⟨p, cap', rfl, hme, hsl⟩ := hv
      have HV := Lib.hid hv'
      have HSL := Lib.hid hsl
      clear hv' hsl
      have hz := cell_lt c0
      have hw := hb.size
      cases hok : evsOf cs[k]
      · go_wp2_with (go_at_call 72; refine (evsAllowed_of cs[k] _ _ ((HT.out.below hb).below ((Below.refl _ _).alloc (Nat.le_refl _) _)) (HV.out.below ((Below.refl _ _).alloc (Nat.le_refl _) _))).mono ?_; rintro e w1 ⟨rfl, hb1⟩)
        go_ret
        exact ⟨ret_bool (all_no _ _ _ hlt hok), (hb.alloc (by omega) _).trans (hb1.mono (by simp; omega))⟩
      · go_wp2_with (go_at_call 72; refine (evsAllowed_of cs[k] _ _ ((HT.out.below hb).below ((Below.refl _ _).alloc (Nat.le_refl _) _)) (HV.out.below ((Below.refl _ _).alloc (Nat.le_refl _) _))).mono ?_; rintro e w1 ⟨rfl, hb1⟩)
        go_roundw
        case rel => exact ⟨k + 1, by omega, by go_num, take_all_snoc _ _ _ hlt ha hok, (hb.alloc (by omega) _).trans (hb1.mono (by simp; omega))⟩
        case measure => simp [intOf]; omega
    · go_wp2
      go_ret
      exact ⟨ret_bool (all_yes _ _ _ (by omega) ha), hb⟩
set_option maxRecDepth 100000 in
set_option maxHeartbeats 1000000 in
theorem allClkOk_at (b o cap : Nat) (cs : List Clk) (n cap1 bw : Nat) (p1 : Option Addr) (w : World) (ht : Tabs w) (hn : n ≤ maxLen) (hw1 : w.cell? ⟨bw, 1, none⟩ = some (.slice p1 n cap1)) (hm : cs.length ≤ maxLen) (hc : ClksAt w cs b o) :
    Calls Tryd.prog 68 #[.slice (some ⟨b, o, none⟩) cs.length cap, .func (.func 69) #[] #[.pointer (some ⟨bw, 0, none⟩)]] w fun e w' => e = .returned (.bool (cs.all (clkOk n))) ∧ Below w.heap.size w w' := by
  unfold maxLen at hm
  have HC := Lib.hid hc; clear hc
  have HT := Lib.hid ht; clear ht
  have HW := Lib.hid hw1; clear hw1
  go_enter Tryd.func68, Tryd.ntmps68
  go_wp2
  go_loopw [9] (fun i wr => ∃ k : Nat, k ≤ cs.length ∧ i = .int .i64 k ∧ (cs.take k).all (clkOk n) = true ∧ Below w.heap.size w wr) (fun i _ => cs.length - (intOf i).toNat)
  case atStart => exact ⟨0, Nat.zero_le _, rfl, rfl, Below.refl _ _⟩
  case round =>
    obtain ⟨k, hk, rfl, ha, hb⟩ := hrel
    by_cases hlt : k < cs.length
    · obtain ⟨⟨c0, c1, c2, c3, c4, c5, c6, c7⟩, v, c8, hv⟩ := (HC.out k hlt).below hb
      have hv' := hv
      obtain ⟨p, cap', rfl, hme, hsl⟩ := hv
      have HV := Lib.hid hv'
      have HSL := Lib.hid hsl
      clear hv' hsl
      have hz := cell_lt c0
      have hw := hb.size
      cases hok : (clkOk n) cs[k]
      · go_wp2_with (go_at_call 69; refine (clkAllowed_in cs[k] n cap1 bw p1 _ _ _ ((HT.out.below hb).below ((Below.refl _ _).alloc (Nat.le_refl _) _)) hn (HSL.out.imp fun _ _ h => h.below ((Below.refl _ _).alloc (Nat.le_refl _) _)) hme (cell_below ((Below.refl _ _).alloc (Nat.le_refl _) _) (cell_below hb HW.out))).mono ?_; rintro e w1 ⟨rfl, hb1⟩)
        go_ret
        exact ⟨ret_bool (all_no _ _ _ hlt hok), (hb.alloc (by omega) _).trans (hb1.mono (by simp; omega))⟩
      · go_wp2_with (go_at_call 69; refine (clkAllowed_in cs[k] n cap1 bw p1 _ _ _ ((HT.out.below hb).below ((Below.refl _ _).alloc (Nat.le_refl _) _)) hn (HSL.out.imp fun _ _ h => h.below ((Below.refl _ _).alloc (Nat.le_refl _) _)) hme (cell_below ((Below.refl _ _).alloc (Nat.le_refl _) _) (cell_below hb HW.out))).mono ?_; rintro e w1 ⟨rfl, hb1⟩)
        go_roundw
        case rel => exact ⟨k + 1, by omega, by go_num, take_all_snoc _ _ _ hlt ha hok, (hb.alloc (by omega) _).trans (hb1.mono (by simp; omega))⟩
        case measure => simp [intOf]; omega
    · go_wp2
      go_ret
      exact ⟨ret_bool (all_yes _ _ _ (by omega) ha), hb⟩
theorem allClkEv_any (p : Option Addr) (cap : Nat) (cs : List Clk) (w : World) (ht : Tabs w) (hm : cs.length ≤ maxLen) (hc : SliceIn p cs.length (ClksAt w cs)) :
    Calls Tryd.prog 68 #[.slice p cs.length cap, .func (.func 72) #[] #[]] w fun e w' => e = .returned (.bool (cs.all evsOf)) ∧ Below w.heap.size w w' := by
  rcases hc with h | ⟨b, o, rfl, hc⟩
  · obtain rfl := List.eq_nil_of_length_eq_zero h
    exact (allClk_nil p cap _ w).mono fun _ _ ⟨h, e⟩ => ⟨h, e ▸ Below.refl _ _⟩
  · exact allClkEv_at b o cap cs w ht hm hc
theorem allClkOk_any (p : Option Addr) (cap : Nat) (cs : List Clk) (n cap1 bw : Nat) (p1 : Option Addr) (w : World) (ht : Tabs w) (hn : n ≤ maxLen) (hw : w.cell? ⟨bw, 1, none⟩ = some (.slice p1 n cap1)) (hm : cs.length ≤ maxLen) (hc : SliceIn p cs.length (ClksAt w cs)) :
    Calls Tryd.prog 68 #[.slice p cs.length cap, .func (.func 69) #[] #[.pointer (some ⟨bw, 0, none⟩)]] w fun e w' => e = .returned (.bool (cs.all (clkOk n))) ∧ Below w.heap.size w w' := by
  rcases hc with h | ⟨b, o, rfl, hc⟩
  · obtain rfl := List.eq_nil_of_length_eq_zero h
    exact (allClk_nil p cap _ w).mono fun _ _ ⟨h, e⟩ => ⟨h, e ▸ Below.refl _ _⟩
  · exact allClkOk_at b o cap cs n cap1 bw p1 w ht hn hw hm hc
end
end Go.Proofs.YtmfpnfdoidihcaaDoor.Wd
namespace Go.Proofs.YtmfpnfdoidihcaaDoor.Wd
open Go Go.RowKit
/-- the box of a world that Check's closures share -/
def BoxOf (w : World) (bw : Nat) (p1 p2 : Option Addr) (n1 k1 n2 k2 : Nat) : Prop :=
  w.cell? ⟨bw, 1, none⟩ = some (.slice p1 n1 k1) ∧ w.cell? ⟨bw, 2, none⟩ = some (.slice p2 n2 k2)
theorem BoxOf.below {w w' : World} {bw : Nat} {p1 p2 : Option Addr} {n1 k1 n2 k2 : Nat} (h : BoxOf w bw p1 p2 n1 k1 n2 k2) (hb : Below w.heap.size w w') : BoxOf w' bw p1 p2 n1 k1 n2 k2 :=
  ⟨cell_below hb h.1, cell_below hb h.2⟩
theorem chkMany_any (bw : Nat) (p1 p2 : Option Addr) (n1 k1 n2 k2 : Nat) (w : World) (hx : BoxOf w bw p1 p2 n1 k1 n2 k2) :
    Calls Tryd.prog 63 #[.pointer (some ⟨bw, 0, none⟩)] w fun e w' => e = .returned (.bool (inR n1 1 8 && inR n2 1 16)) ∧ w = w' := by
  obtain ⟨h1, h2⟩ := hx
  cases hr : inR n1 1 8
  all_goals
    go_enter Tryd.func63, Tryd.ntmps63
    go_wp2_with (go_at_call 51; refine (within_any _ _ _ _).mono ?_; rintro e w' ⟨rfl, rfl⟩)
    all_goals go_ret
    all_goals exact ⟨ret_bool (by simp), rfl⟩
theorem chkChams_any (bw : Nat) (cs : List Cham) (p1 p2 : Option Addr) (k1 n2 k2 : Nat) (w : World) (hx : BoxOf w bw p1 p2 cs.length k1 n2 k2) (hm : cs.length ≤ maxLen) (hc : SliceIn p1 cs.length (ChamsAt w cs)) :
    Calls Tryd.prog 64 #[.pointer (some ⟨bw, 0, none⟩)] w fun e w' => e = .returned (.bool (cs.all chamOk)) ∧ Below w.heap.size w w' := by
  obtain ⟨h1, h2⟩ := hx
  have HC := Lib.hid hc; clear hc
  go_enter Tryd.func64, Tryd.ntmps64
  go_wp2_with (go_at_call 65; refine (allCham_any _ _ cs _ hm HC.out).mono ?_; rintro e w' ⟨rfl, hb⟩)
  go_ret
  exact ⟨rfl, hb⟩
theorem chkClks_any (bw : Nat) (cs : List Clk) (p1 p2 : Option Addr) (n1 k1 k2 : Nat) (w : World) (ht : Tabs w) (hn : n1 ≤ maxLen) (hx : BoxOf w bw p1 p2 n1 k1 cs.length k2) (hm : cs.length ≤ maxLen) (hc : SliceIn p2 cs.length (ClksAt w cs)) :
    Calls Tryd.prog 67 #[.pointer (some ⟨bw, 0, none⟩)] w fun e w' => e = .returned (.bool (cs.all (clkOk n1))) ∧ Below w.heap.size w w' := by
  obtain ⟨h1, h2⟩ := hx
  have HC := Lib.hid hc; clear hc
  have HT := Lib.hid ht; clear ht
  go_enter Tryd.func67, Tryd.ntmps67
  go_wp2_with (go_at_call 68; refine (allClkOk_any _ _ cs n1 k1 bw p1 _ HT.out hn h1 hm HC.out).mono ?_; rintro e w' ⟨rfl, hb⟩)
  go_ret
  exact ⟨rfl, hb⟩
theorem chkEvs_any (bw : Nat) (cs : List Clk) (p1 p2 : Option Addr) (n1 k1 k2 : Nat) (w : World) (ht : Tabs w) (hx : BoxOf w bw p1 p2 n1 k1 cs.length k2) (hm : cs.length ≤ maxLen) (hc : SliceIn p2 cs.length (ClksAt w cs)) :
    Calls Tryd.prog 71 #[.pointer (some ⟨bw, 0, none⟩)] w fun e w' => e = .returned (.bool (cs.all evsOf)) ∧ Below w.heap.size w w' := by
  obtain ⟨h1, h2⟩ := hx
  have HC := Lib.hid hc; clear hc
  have HT := Lib.hid ht; clear ht
  go_enter Tryd.func71, Tryd.ntmps71
  go_wp2_with (go_at_call 68; refine (allClkEv_any _ _ cs _ HT.out hm HC.out).mono ?_; rintro e w' ⟨rfl, hb⟩)
  go_ret
  exact ⟨rfl, hb⟩
def wldVal (W : Wld) (p1 p2 : Option Addr) (k1 k2 : Nat) : Value := .agg #[.int .u64 W.seed, .slice p1 W.chs.length k1, .slice p2 W.cls.length k2]
theorem chk_index0 (bw : Nat) (w : World) : (Instr.index 137 (.agg #[.int .i64 2, .func (.func 63) #[] #[.pointer (some ⟨bw, 0, none⟩)], .int .i64 6, .func (.func 64) #[] #[.pointer (some ⟨bw, 0, none⟩)], .int .i64 20, .func (.func 67) #[] #[.pointer (some ⟨bw, 0, none⟩)], .int .i64 21, .func (.func 71) #[] #[.pointer (some ⟨bw, 0, none⟩)]]) (.int .i64 0)).run Tryd.prog w = .ok (.agg #[.int .i64 2, .func (.func 63) #[] #[.pointer (some ⟨bw, 0, none⟩)]]) w := by kernel_rfl
theorem chk_index1 (bw : Nat) (w : World) : (Instr.index 137 (.agg #[.int .i64 2, .func (.func 63) #[] #[.pointer (some ⟨bw, 0, none⟩)], .int .i64 6, .func (.func 64) #[] #[.pointer (some ⟨bw, 0, none⟩)], .int .i64 20, .func (.func 67) #[] #[.pointer (some ⟨bw, 0, none⟩)], .int .i64 21, .func (.func 71) #[] #[.pointer (some ⟨bw, 0, none⟩)]]) (.int .i64 1)).run Tryd.prog w = .ok (.agg #[.int .i64 6, .func (.func 64) #[] #[.pointer (some ⟨bw, 0, none⟩)]]) w := by kernel_rfl
theorem chk_index2 (bw : Nat) (w : World) : (Instr.index 137 (.agg #[.int .i64 2, .func (.func 63) #[] #[.pointer (some ⟨bw, 0, none⟩)], .int .i64 6, .func (.func 64) #[] #[.pointer (some ⟨bw, 0, none⟩)], .int .i64 20, .func (.func 67) #[] #[.pointer (some ⟨bw, 0, none⟩)], .int .i64 21, .func (.func 71) #[] #[.pointer (some ⟨bw, 0, none⟩)]]) (.int .i64 2)).run Tryd.prog w = .ok (.agg #[.int .i64 20, .func (.func 67) #[] #[.pointer (some ⟨bw, 0, none⟩)]]) w := by kernel_rfl
theorem chk_index3 (bw : Nat) (w : World) : (Instr.index 137 (.agg #[.int .i64 2, .func (.func 63) #[] #[.pointer (some ⟨bw, 0, none⟩)], .int .i64 6, .func (.func 64) #[] #[.pointer (some ⟨bw, 0, none⟩)], .int .i64 20, .func (.func 67) #[] #[.pointer (some ⟨bw, 0, none⟩)], .int .i64 21, .func (.func 71) #[] #[.pointer (some ⟨bw, 0, none⟩)]]) (.int .i64 3)).run Tryd.prog w = .ok (.agg #[.int .i64 21, .func (.func 71) #[] #[.pointer (some ⟨bw, 0, none⟩)]]) w := by kernel_rfl
set_option maxRecDepth 100000 in
set_option maxHeartbeats 4000000 in
theorem check_any (W : Wld) (p1 p2 : Option Addr) (k1 k2 : Nat) (w : World) (ht : Tabs w) (hW : WldIn w W p1 p2) :
    Calls Tryd.prog 42 #[wldVal W p1 p2 k1 k2] w fun e w' => e = .returned (.int .i64 (checkS W)) ∧ Below w.heap.size w w' := by
  obtain ⟨sd, chs, cls⟩ := W
  unfold wldVal
  dsimp only
  have HW := Lib.hid hW; clear hW
  have HT := Lib.hid ht; clear ht
  have hm1 := HW.out.1
  have hm2 := HW.out.2.1
  dsimp only at hm1 hm2
  have j0 := chk_index0 w.heap.size
  have j1 := chk_index1 w.heap.size
  have j2 := chk_index2 w.heap.size
  have j3 := chk_index3 w.heap.size
  have hen : checkS ⟨sd, chs, cls⟩ = if (inR chs.length 1 8 && inR cls.length 1 16) = false then 2 else if chs.all chamOk = false then 6 else if cls.all (clkOk chs.length) = false then 20 else if cls.all evsOf = false then 21 else 0 := rfl
  cases h1 : (inR chs.length 1 8 && inR cls.length 1 16)
  · have he : checkS ⟨sd, chs, cls⟩ = 2 := by rw [hen]; simp only [h1, if_true]
    have HE := Lib.hid he
    clear he hen
    go_enter Tryd.func42, Tryd.ntmps42
    go_wp2
    refine wp_loop_rounds 5 ?_
    have b0 : BoxOf ((w.alloc (.cells #[.int .u64 sd, .slice p1 chs.length k1, .slice p2 cls.length k2] 35)).alloc (.cells #[.int .i64 2, .func (.func 63) #[] #[.pointer (some ⟨w.heap.size, 0, none⟩)], .int .i64 6, .func (.func 64) #[] #[.pointer (some ⟨w.heap.size, 0, none⟩)], .int .i64 20, .func (.func 67) #[] #[.pointer (some ⟨w.heap.size, 0, none⟩)], .int .i64 21, .func (.func 71) #[] #[.pointer (some ⟨w.heap.size, 0, none⟩)]] 137)) w.heap.size p1 p2 chs.length k1 cls.length k2 := ⟨by simp [go_sem], by simp [go_sem]⟩
    have f0 : Below w.heap.size w ((w.alloc (.cells #[.int .u64 sd, .slice p1 chs.length k1, .slice p2 cls.length k2] 35)).alloc (.cells #[.int .i64 2, .func (.func 63) #[] #[.pointer (some ⟨w.heap.size, 0, none⟩)], .int .i64 6, .func (.func 64) #[] #[.pointer (some ⟨w.heap.size, 0, none⟩)], .int .i64 20, .func (.func 67) #[] #[.pointer (some ⟨w.heap.size, 0, none⟩)], .int .i64 21, .func (.func 71) #[] #[.pointer (some ⟨w.heap.size, 0, none⟩)]] 137)) := by go_grown
    generalize hg : ((w.alloc (.cells #[.int .u64 sd, .slice p1 chs.length k1, .slice p2 cls.length k2] 35)).alloc (.cells #[.int .i64 2, .func (.func 63) #[] #[.pointer (some ⟨w.heap.size, 0, none⟩)], .int .i64 6, .func (.func 64) #[] #[.pointer (some ⟨w.heap.size, 0, none⟩)], .int .i64 20, .func (.func 67) #[] #[.pointer (some ⟨w.heap.size, 0, none⟩)], .int .i64 21, .func (.func 71) #[] #[.pointer (some ⟨w.heap.size, 0, none⟩)]] 137)) = W0 at *
    clear hg
    rw [rounds_succ]
    go_wp2_with fail
    have a0 : Below W0.heap.size W0 (W0.alloc (.cells #[.int .i64 2, .func (.func 63) #[] #[.pointer (some ⟨w.heap.size, 0, none⟩)]] 132)) := (Below.refl _ _).alloc (Nat.le_refl _) _
    have HX := Lib.hid ((HW.out.below f0).below a0)
    have TX := Lib.hid ((HT.out.below f0).below a0)
    have BX := Lib.hid (b0.below a0)
    have y0 : (W0.alloc (.cells #[.int .i64 2, .func (.func 63) #[] #[.pointer (some ⟨w.heap.size, 0, none⟩)]] 132)).cell? ⟨W0.heap.size, 0, none⟩ = some (.int .i64 2) := by simp
    refine (chkMany_any w.heap.size p1 p2 _ k1 _ k2 _ BX.out).mono ?_
    rintro e w1 ⟨rfl, rfl⟩
    have g0 := y0
    have c0 := Below.refl (W0.alloc (.cells #[.int .i64 2, .func (.func 63) #[] #[.pointer (some ⟨w.heap.size, 0, none⟩)]] 132)).heap.size (W0.alloc (.cells #[.int .i64 2, .func (.func 63) #[] #[.pointer (some ⟨w.heap.size, 0, none⟩)]] 132))
    have f1 : Below w.heap.size w (W0.alloc (.cells #[.int .i64 2, .func (.func 63) #[] #[.pointer (some ⟨w.heap.size, 0, none⟩)]] 132)) := f0.trans ((a0.trans (c0.mono (by simp))).mono (by have := f0.size; omega))
    have b1 : BoxOf (W0.alloc (.cells #[.int .i64 2, .func (.func 63) #[] #[.pointer (some ⟨w.heap.size, 0, none⟩)]] 132)) w.heap.size p1 p2 chs.length k1 cls.length k2 := BX.out.below c0
    clear HX TX BX y0 a0 c0 b0
    generalize (W0.alloc (.cells #[.int .i64 2, .func (.func 63) #[] #[.pointer (some ⟨w.heap.size, 0, none⟩)]] 132)) = w1 at *
    have F1 := Lib.hid f1
    have B1 := Lib.hid b1
    clear f1 b1 f0
    go_wp2
    go_ret
    exact ⟨ret_i64 HE.out.symm, F1.out⟩
  · cases h2 : (chs.all chamOk)
    · have he : checkS ⟨sd, chs, cls⟩ = 6 := by rw [hen]; simp only [h1, h2, if_true, Bool.true_eq_false, if_false]
      have HE := Lib.hid he
      clear he hen
      go_enter Tryd.func42, Tryd.ntmps42
      go_wp2
      refine wp_loop_rounds 5 ?_
      have b0 : BoxOf ((w.alloc (.cells #[.int .u64 sd, .slice p1 chs.length k1, .slice p2 cls.length k2] 35)).alloc (.cells #[.int .i64 2, .func (.func 63) #[] #[.pointer (some ⟨w.heap.size, 0, none⟩)], .int .i64 6, .func (.func 64) #[] #[.pointer (some ⟨w.heap.size, 0, none⟩)], .int .i64 20, .func (.func 67) #[] #[.pointer (some ⟨w.heap.size, 0, none⟩)], .int .i64 21, .func (.func 71) #[] #[.pointer (some ⟨w.heap.size, 0, none⟩)]] 137)) w.heap.size p1 p2 chs.length k1 cls.length k2 := ⟨by simp [go_sem], by simp [go_sem]⟩
      have f0 : Below w.heap.size w ((w.alloc (.cells #[.int .u64 sd, .slice p1 chs.length k1, .slice p2 cls.length k2] 35)).alloc (.cells #[.int .i64 2, .func (.func 63) #[] #[.pointer (some ⟨w.heap.size, 0, none⟩)], .int .i64 6, .func (.func 64) #[] #[.pointer (some ⟨w.heap.size, 0, none⟩)], .int .i64 20, .func (.func 67) #[] #[.pointer (some ⟨w.heap.size, 0, none⟩)], .int .i64 21, .func (.func 71) #[] #[.pointer (some ⟨w.heap.size, 0, none⟩)]] 137)) := by go_grown
      generalize hg : ((w.alloc (.cells #[.int .u64 sd, .slice p1 chs.length k1, .slice p2 cls.length k2] 35)).alloc (.cells #[.int .i64 2, .func (.func 63) #[] #[.pointer (some ⟨w.heap.size, 0, none⟩)], .int .i64 6, .func (.func 64) #[] #[.pointer (some ⟨w.heap.size, 0, none⟩)], .int .i64 20, .func (.func 67) #[] #[.pointer (some ⟨w.heap.size, 0, none⟩)], .int .i64 21, .func (.func 71) #[] #[.pointer (some ⟨w.heap.size, 0, none⟩)]] 137)) = W0 at *
      clear hg
      rw [rounds_succ]
      go_wp2_with fail
      have a0 : Below W0.heap.size W0 (W0.alloc (.cells #[.int .i64 2, .func (.func 63) #[] #[.pointer (some ⟨w.heap.size, 0, none⟩)]] 132)) := (Below.refl _ _).alloc (Nat.le_refl _) _
      have HX := Lib.hid ((HW.out.below f0).below a0)
      have TX := Lib.hid ((HT.out.below f0).below a0)
      have BX := Lib.hid (b0.below a0)
      have y0 : (W0.alloc (.cells #[.int .i64 2, .func (.func 63) #[] #[.pointer (some ⟨w.heap.size, 0, none⟩)]] 132)).cell? ⟨W0.heap.size, 0, none⟩ = some (.int .i64 2) := by simp
      refine (chkMany_any w.heap.size p1 p2 _ k1 _ k2 _ BX.out).mono ?_
      rintro e w1 ⟨rfl, rfl⟩
      have g0 := y0
      have c0 := Below.refl (W0.alloc (.cells #[.int .i64 2, .func (.func 63) #[] #[.pointer (some ⟨w.heap.size, 0, none⟩)]] 132)).heap.size (W0.alloc (.cells #[.int .i64 2, .func (.func 63) #[] #[.pointer (some ⟨w.heap.size, 0, none⟩)]] 132))
      have f1 : Below w.heap.size w (W0.alloc (.cells #[.int .i64 2, .func (.func 63) #[] #[.pointer (some ⟨w.heap.size, 0, none⟩)]] 132)) := f0.trans ((a0.trans (c0.mono (by simp))).mono (by have := f0.size; omega))
      have b1 : BoxOf (W0.alloc (.cells #[.int .i64 2, .func (.func 63) #[] #[.pointer (some ⟨w.heap.size, 0, none⟩)]] 132)) w.heap.size p1 p2 chs.length k1 cls.length k2 := BX.out.below c0
      clear HX TX BX y0 a0 c0 b0
      generalize (W0.alloc (.cells #[.int .i64 2, .func (.func 63) #[] #[.pointer (some ⟨w.heap.size, 0, none⟩)]] 132)) = w1 at *
      have F1 := Lib.hid f1
      have B1 := Lib.hid b1
      clear f1 b1 f0
      go_wp2_with fail
      have f1 := F1.out
      have b1 := B1.out
      clear F1 B1
      rw [rounds_succ]
      go_wp2_with fail
      have a1 : Below w1.heap.size w1 (w1.alloc (.cells #[.int .i64 6, .func (.func 64) #[] #[.pointer (some ⟨w.heap.size, 0, none⟩)]] 132)) := (Below.refl _ _).alloc (Nat.le_refl _) _
      have HX := Lib.hid ((HW.out.below f1).below a1)
      have TX := Lib.hid ((HT.out.below f1).below a1)
      have BX := Lib.hid (b1.below a1)
      have y1 : (w1.alloc (.cells #[.int .i64 6, .func (.func 64) #[] #[.pointer (some ⟨w.heap.size, 0, none⟩)]] 132)).cell? ⟨w1.heap.size, 0, none⟩ = some (.int .i64 6) := by simp
      refine (chkChams_any w.heap.size chs p1 p2 k1 _ k2 _ BX.out hm1 HX.out.2.2.1).mono ?_
      rintro e v2 ⟨rfl, c1⟩
      have g1 : v2.cell? ⟨w1.heap.size, 0, none⟩ = some (.int .i64 6) := (c1.cell (p := ⟨w1.heap.size, 0, none⟩) (by simp)).trans y1
      have f2 : Below w.heap.size w v2 := f1.trans ((a1.trans (c1.mono (by simp))).mono (by have := f1.size; omega))
      have b2 : BoxOf v2 w.heap.size p1 p2 chs.length k1 cls.length k2 := BX.out.below c1
      clear HX TX BX y1 a1 c1 b1
      generalize v2 = w2 at *
      have F2 := Lib.hid f2
      have B2 := Lib.hid b2
      clear f2 b2 f1
      go_wp2
      go_ret
      exact ⟨ret_i64 HE.out.symm, F2.out⟩
    · cases h3 : (cls.all (clkOk chs.length))
      · have he : checkS ⟨sd, chs, cls⟩ = 20 := by rw [hen]; simp only [h1, h2, h3, if_true, Bool.true_eq_false, if_false]
        have HE := Lib.hid he
        clear he hen
        go_enter Tryd.func42, Tryd.ntmps42
        go_wp2
        refine wp_loop_rounds 5 ?_
        have b0 : BoxOf ((w.alloc (.cells #[.int .u64 sd, .slice p1 chs.length k1, .slice p2 cls.length k2] 35)).alloc (.cells #[.int .i64 2, .func (.func 63) #[] #[.pointer (some ⟨w.heap.size, 0, none⟩)], .int .i64 6, .func (.func 64) #[] #[.pointer (some ⟨w.heap.size, 0, none⟩)], .int .i64 20, .func (.func 67) #[] #[.pointer (some ⟨w.heap.size, 0, none⟩)], .int .i64 21, .func (.func 71) #[] #[.pointer (some ⟨w.heap.size, 0, none⟩)]] 137)) w.heap.size p1 p2 chs.length k1 cls.length k2 := ⟨by simp [go_sem], by simp [go_sem]⟩
        have f0 : Below w.heap.size w ((w.alloc (.cells #[.int .u64 sd, .slice p1 chs.length k1, .slice p2 cls.length k2] 35)).alloc (.cells #[.int .i64 2, .func (.func 63) #[] #[.pointer (some ⟨w.heap.size, 0, none⟩)], .int .i64 6, .func (.func 64) #[] #[.pointer (some ⟨w.heap.size, 0, none⟩)], .int .i64 20, .func (.func 67) #[] #[.pointer (some ⟨w.heap.size, 0, none⟩)], .int .i64 21, .func (.func 71) #[] #[.pointer (some ⟨w.heap.size, 0, none⟩)]] 137)) := by go_grown
        generalize hg : ((w.alloc (.cells #[.int .u64 sd, .slice p1 chs.length k1, .slice p2 cls.length k2] 35)).alloc (.cells #[.int .i64 2, .func (.func 63) #[] #[.pointer (some ⟨w.heap.size, 0, none⟩)], .int .i64 6, .func (.func 64) #[] #[.pointer (some ⟨w.heap.size, 0, none⟩)], .int .i64 20, .func (.func 67) #[] #[.pointer (some ⟨w.heap.size, 0, none⟩)], .int .i64 21, .func (.func 71) #[] #[.pointer (some ⟨w.heap.size, 0, none⟩)]] 137)) = W0 at *
        clear hg
        rw [rounds_succ]
        go_wp2_with fail
        have a0 : Below W0.heap.size W0 (W0.alloc (.cells #[.int .i64 2, .func (.func 63) #[] #[.pointer (some ⟨w.heap.size, 0, none⟩)]] 132)) := (Below.refl _ _).alloc (Nat.le_refl _) _
        have HX := Lib.hid ((HW.out.below f0).below a0)
        have TX := Lib.hid ((HT.out.below f0).below a0)
        have BX := Lib.hid (b0.below a0)
        have y0 : (W0.alloc (.cells #[.int .i64 2, .func (.func 63) #[] #[.pointer (some ⟨w.heap.size, 0, none⟩)]] 132)).cell? ⟨W0.heap.size, 0, none⟩ = some (.int .i64 2) := by simp
        refine (chkMany_any w.heap.size p1 p2 _ k1 _ k2 _ BX.out).mono ?_
        rintro e w1 ⟨rfl, rfl⟩
        have g0 := y0
        have c0 := Below.refl (W0.alloc (.cells #[.int .i64 2, .func (.func 63) #[] #[.pointer (some ⟨w.heap.size, 0, none⟩)]] 132)).heap.size (W0.alloc (.cells #[.int .i64 2, .func (.func 63) #[] #[.pointer (some ⟨w.heap.size, 0, none⟩)]] 132))
        have f1 : Below w.heap.size w (W0.alloc (.cells #[.int .i64 2, .func (.func 63) #[] #[.pointer (some ⟨w.heap.size, 0, none⟩)]] 132)) := f0.trans ((a0.trans (c0.mono (by simp))).mono (by have := f0.size; omega))
        have b1 : BoxOf (W0.alloc (.cells #[.int .i64 2, .func (.func 63) #[] #[.pointer (some ⟨w.heap.size, 0, none⟩)]] 132)) w.heap.size p1 p2 chs.length k1 cls.length k2 := BX.out.below c0
        clear HX TX BX y0 a0 c0 b0
        generalize (W0.alloc (.cells #[.int .i64 2, .func (.func 63) #[] #[.pointer (some ⟨w.heap.size, 0, none⟩)]] 132)) = w1 at *
        have F1 := Lib.hid f1
        have B1 := Lib.hid b1
        clear f1 b1 f0
        go_wp2_with fail
        have f1 := F1.out
        have b1 := B1.out
        clear F1 B1
        rw [rounds_succ]
        go_wp2_with fail
        have a1 : Below w1.heap.size w1 (w1.alloc (.cells #[.int .i64 6, .func (.func 64) #[] #[.pointer (some ⟨w.heap.size, 0, none⟩)]] 132)) := (Below.refl _ _).alloc (Nat.le_refl _) _
        have HX := Lib.hid ((HW.out.below f1).below a1)
        have TX := Lib.hid ((HT.out.below f1).below a1)
        have BX := Lib.hid (b1.below a1)
        have y1 : (w1.alloc (.cells #[.int .i64 6, .func (.func 64) #[] #[.pointer (some ⟨w.heap.size, 0, none⟩)]] 132)).cell? ⟨w1.heap.size, 0, none⟩ = some (.int .i64 6) := by simp
        refine (chkChams_any w.heap.size chs p1 p2 k1 _ k2 _ BX.out hm1 HX.out.2.2.1).mono ?_
        rintro e v2 ⟨rfl, c1⟩
        have g1 : v2.cell? ⟨w1.heap.size, 0, none⟩ = some (.int .i64 6) := (c1.cell (p := ⟨w1.heap.size, 0, none⟩) (by simp)).trans y1
        have f2 : Below w.heap.size w v2 := f1.trans ((a1.trans (c1.mono (by simp))).mono (by have := f1.size; omega))
        have b2 : BoxOf v2 w.heap.size p1 p2 chs.length k1 cls.length k2 := BX.out.below c1
        clear HX TX BX y1 a1 c1 b1
        generalize v2 = w2 at *
        have F2 := Lib.hid f2
        have B2 := Lib.hid b2
        clear f2 b2 f1
        go_wp2_with fail
        have f2 := F2.out
        have b2 := B2.out
        clear F2 B2
        rw [rounds_succ]
        go_wp2_with fail
        have a2 : Below w2.heap.size w2 (w2.alloc (.cells #[.int .i64 20, .func (.func 67) #[] #[.pointer (some ⟨w.heap.size, 0, none⟩)]] 132)) := (Below.refl _ _).alloc (Nat.le_refl _) _
        have HX := Lib.hid ((HW.out.below f2).below a2)
        have TX := Lib.hid ((HT.out.below f2).below a2)
        have BX := Lib.hid (b2.below a2)
        have y2 : (w2.alloc (.cells #[.int .i64 20, .func (.func 67) #[] #[.pointer (some ⟨w.heap.size, 0, none⟩)]] 132)).cell? ⟨w2.heap.size, 0, none⟩ = some (.int .i64 20) := by simp
        refine (chkClks_any w.heap.size cls p1 p2 _ k1 k2 _ TX.out hm1 BX.out hm2 HX.out.2.2.2).mono ?_
        rintro e v3 ⟨rfl, c2⟩
        have g2 : v3.cell? ⟨w2.heap.size, 0, none⟩ = some (.int .i64 20) := (c2.cell (p := ⟨w2.heap.size, 0, none⟩) (by simp)).trans y2
        have f3 : Below w.heap.size w v3 := f2.trans ((a2.trans (c2.mono (by simp))).mono (by have := f2.size; omega))
        have b3 : BoxOf v3 w.heap.size p1 p2 chs.length k1 cls.length k2 := BX.out.below c2
        clear HX TX BX y2 a2 c2 b2
        generalize v3 = w3 at *
        have F3 := Lib.hid f3
        have B3 := Lib.hid b3
        clear f3 b3 f2
        go_wp2
        go_ret
        exact ⟨ret_i64 HE.out.symm, F3.out⟩
      · cases h4 : (cls.all evsOf)
        · have he : checkS ⟨sd, chs, cls⟩ = 21 := by rw [hen]; simp only [h1, h2, h3, h4, if_true, Bool.true_eq_false, if_false]
          have HE := Lib.hid he
          clear he hen
          go_enter Tryd.func42, Tryd.ntmps42
          go_wp2
          refine wp_loop_rounds 5 ?_
          have b0 : BoxOf ((w.alloc (.cells #[.int .u64 sd, .slice p1 chs.length k1, .slice p2 cls.length k2] 35)).alloc (.cells #[.int .i64 2, .func (.func 63) #[] #[.pointer (some ⟨w.heap.size, 0, none⟩)], .int .i64 6, .func (.func 64) #[] #[.pointer (some ⟨w.heap.size, 0, none⟩)], .int .i64 20, .func (.func 67) #[] #[.pointer (some ⟨w.heap.size, 0, none⟩)], .int .i64 21, .func (.func 71) #[] #[.pointer (some ⟨w.heap.size, 0, none⟩)]] 137)) w.heap.size p1 p2 chs.length k1 cls.length k2 := ⟨by simp [go_sem], by simp [go_sem]⟩
          have f0 : Below w.heap.size w ((w.alloc (.cells #[.int .u64 sd, .slice p1 chs.length k1, .slice p2 cls.length k2] 35)).alloc (.cells #[.int .i64 2, .func (.func 63) #[] #[.pointer (some ⟨w.heap.size, 0, none⟩)], .int .i64 6, .func (.func 64) #[] #[.pointer (some ⟨w.heap.size, 0, none⟩)], .int .i64 20, .func (.func 67) #[] #[.pointer (some ⟨w.heap.size, 0, none⟩)], .int .i64 21, .func (.func 71) #[] #[.pointer (some ⟨w.heap.size, 0, none⟩)]] 137)) := by go_grown
          generalize hg : ((w.alloc (.cells #[.int .u64 sd, .slice p1 chs.length k1, .slice p2 cls.length k2] 35)).alloc (.cells #[.int .i64 2, .func (.func 63) #[] #[.pointer (some ⟨w.heap.size, 0, none⟩)], .int .i64 6, .func (.func 64) #[] #[.pointer (some ⟨w.heap.size, 0, none⟩)], .int .i64 20, .func (.func 67) #[] #[.pointer (some ⟨w.heap.size, 0, none⟩)], .int .i64 21, .func (.func 71) #[] #[.pointer (some ⟨w.heap.size, 0, none⟩)]] 137)) = W0 at *
          clear hg
          rw [rounds_succ]
          go_wp2_with fail
          have a0 : Below W0.heap.size W0 (W0.alloc (.cells #[.int .i64 2, .func (.func 63) #[] #[.pointer (some ⟨w.heap.size, 0, none⟩)]] 132)) := (Below.refl _ _).alloc (Nat.le_refl _) _
          have HX := Lib.hid ((HW.out.below f0).below a0)
          have TX := Lib.hid ((HT.out.below f0).below a0)
          have BX := Lib.hid (b0.below a0)
          have y0 : (W0.alloc (.cells #[.int .i64 2, .func (.func 63) #[] #[.pointer (some ⟨w.heap.size, 0, none⟩)]] 132)).cell? ⟨W0.heap.size, 0, none⟩ = some (.int .i64 2) := by simp
          refine (chkMany_any w.heap.size p1 p2 _ k1 _ k2 _ BX.out).mono ?_
          rintro e w1 ⟨rfl, rfl⟩
          have g0 := y0
          have c0 := Below.refl (W0.alloc (.cells #[.int .i64 2, .func (.func 63) #[] #[.pointer (some ⟨w.heap.size, 0, none⟩)]] 132)).heap.size (W0.alloc (.cells #[.int .i64 2, .func (.func 63) #[] #[.pointer (some ⟨w.heap.size, 0, none⟩)]] 132))
          have f1 : Below w.heap.size w (W0.alloc (.cells #[.int .i64 2, .func (.func 63) #[] #[.pointer (some ⟨w.heap.size, 0, none⟩)]] 132)) := f0.trans ((a0.trans (c0.mono (by simp))).mono (by have := f0.size; omega))
          have b1 : BoxOf (W0.alloc (.cells #[.int .i64 2, .func (.func 63) #[] #[.pointer (some ⟨w.heap.size, 0, none⟩)]] 132)) w.heap.size p1 p2 chs.length k1 cls.length k2 := BX.out.below c0
          clear HX TX BX y0 a0 c0 b0
          generalize (W0.alloc (.cells #[.int .i64 2, .func (.func 63) #[] #[.pointer (some ⟨w.heap.size, 0, none⟩)]] 132)) = w1 at *
          have F1 := Lib.hid f1
          have B1 := Lib.hid b1
          clear f1 b1 f0
          go_wp2_with fail
          have f1 := F1.out
          have b1 := B1.out
          clear F1 B1
          rw [rounds_succ]
          go_wp2_with fail
          have a1 : Below w1.heap.size w1 (w1.alloc (.cells #[.int .i64 6, .func (.func 64) #[] #[.pointer (some ⟨w.heap.size, 0, none⟩)]] 132)) := (Below.refl _ _).alloc (Nat.le_refl _) _
          have HX := Lib.hid ((HW.out.below f1).below a1)
          have TX := Lib.hid ((HT.out.below f1).below a1)
          have BX := Lib.hid (b1.below a1)
          have y1 : (w1.alloc (.cells #[.int .i64 6, .func (.func 64) #[] #[.pointer (some ⟨w.heap.size, 0, none⟩)]] 132)).cell? ⟨w1.heap.size, 0, none⟩ = some (.int .i64 6) := by simp
          refine (chkChams_any w.heap.size chs p1 p2 k1 _ k2 _ BX.out hm1 HX.out.2.2.1).mono ?_
          rintro e v2 ⟨rfl, c1⟩
          have g1 : v2.cell? ⟨w1.heap.size, 0, none⟩ = some (.int .i64 6) := (c1.cell (p := ⟨w1.heap.size, 0, none⟩) (by simp)).trans y1
          have f2 : Below w.heap.size w v2 := f1.trans ((a1.trans (c1.mono (by simp))).mono (by have := f1.size; omega))
          have b2 : BoxOf v2 w.heap.size p1 p2 chs.length k1 cls.length k2 := BX.out.below c1
          clear HX TX BX y1 a1 c1 b1
          generalize v2 = w2 at *
          have F2 := Lib.hid f2
          have B2 := Lib.hid b2
          clear f2 b2 f1
          go_wp2_with fail
          have f2 := F2.out
          have b2 := B2.out
          clear F2 B2
          rw [rounds_succ]
          go_wp2_with fail
          have a2 : Below w2.heap.size w2 (w2.alloc (.cells #[.int .i64 20, .func (.func 67) #[] #[.pointer (some ⟨w.heap.size, 0, none⟩)]] 132)) := (Below.refl _ _).alloc (Nat.le_refl _) _
          have HX := Lib.hid ((HW.out.below f2).below a2)
          have TX := Lib.hid ((HT.out.below f2).below a2)
          have BX := Lib.hid (b2.below a2)
          have y2 : (w2.alloc (.cells #[.int .i64 20, .func (.func 67) #[] #[.pointer (some ⟨w.heap.size, 0, none⟩)]] 132)).cell? ⟨w2.heap.size, 0, none⟩ = some (.int .i64 20) := by simp
          refine (chkClks_any w.heap.size cls p1 p2 _ k1 k2 _ TX.out hm1 BX.out hm2 HX.out.2.2.2).mono ?_
          rintro e v3 ⟨rfl, c2⟩
          have g2 : v3.cell? ⟨w2.heap.size, 0, none⟩ = some (.int .i64 20) := (c2.cell (p := ⟨w2.heap.size, 0, none⟩) (by simp)).trans y2
          have f3 : Below w.heap.size w v3 := f2.trans ((a2.trans (c2.mono (by simp))).mono (by have := f2.size; omega))
          have b3 : BoxOf v3 w.heap.size p1 p2 chs.length k1 cls.length k2 := BX.out.below c2
          clear HX TX BX y2 a2 c2 b2
          generalize v3 = w3 at *
          have F3 := Lib.hid f3
          have B3 := Lib.hid b3
          clear f3 b3 f2
          go_wp2_with fail
          have f3 := F3.out
          have b3 := B3.out
          clear F3 B3
          rw [rounds_succ]
          go_wp2_with fail
          have a3 : Below w3.heap.size w3 (w3.alloc (.cells #[.int .i64 21, .func (.func 71) #[] #[.pointer (some ⟨w.heap.size, 0, none⟩)]] 132)) := (Below.refl _ _).alloc (Nat.le_refl _) _
          have HX := Lib.hid ((HW.out.below f3).below a3)
          have TX := Lib.hid ((HT.out.below f3).below a3)
          have BX := Lib.hid (b3.below a3)
          have y3 : (w3.alloc (.cells #[.int .i64 21, .func (.func 71) #[] #[.pointer (some ⟨w.heap.size, 0, none⟩)]] 132)).cell? ⟨w3.heap.size, 0, none⟩ = some (.int .i64 21) := by simp
          refine (chkEvs_any w.heap.size cls p1 p2 _ k1 k2 _ TX.out BX.out hm2 HX.out.2.2.2).mono ?_
          rintro e v4 ⟨rfl, c3⟩
          have g3 : v4.cell? ⟨w3.heap.size, 0, none⟩ = some (.int .i64 21) := (c3.cell (p := ⟨w3.heap.size, 0, none⟩) (by simp)).trans y3
          have f4 : Below w.heap.size w v4 := f3.trans ((a3.trans (c3.mono (by simp))).mono (by have := f3.size; omega))
          have b4 : BoxOf v4 w.heap.size p1 p2 chs.length k1 cls.length k2 := BX.out.below c3
          clear HX TX BX y3 a3 c3 b3
          generalize v4 = w4 at *
          have F4 := Lib.hid f4
          have B4 := Lib.hid b4
          clear f4 b4 f3
          go_wp2
          go_ret
          exact ⟨ret_i64 HE.out.symm, F4.out⟩
        · have he : checkS ⟨sd, chs, cls⟩ = 0 := by rw [hen]; simp only [h1, h2, h3, h4, Bool.true_eq_false, if_false]
          have HE := Lib.hid he
          clear he hen
          go_enter Tryd.func42, Tryd.ntmps42
          go_wp2
          refine wp_loop_rounds 5 ?_
          have b0 : BoxOf ((w.alloc (.cells #[.int .u64 sd, .slice p1 chs.length k1, .slice p2 cls.length k2] 35)).alloc (.cells #[.int .i64 2, .func (.func 63) #[] #[.pointer (some ⟨w.heap.size, 0, none⟩)], .int .i64 6, .func (.func 64) #[] #[.pointer (some ⟨w.heap.size, 0, none⟩)], .int .i64 20, .func (.func 67) #[] #[.pointer (some ⟨w.heap.size, 0, none⟩)], .int .i64 21, .func (.func 71) #[] #[.pointer (some ⟨w.heap.size, 0, none⟩)]] 137)) w.heap.size p1 p2 chs.length k1 cls.length k2 := ⟨by simp [go_sem], by simp [go_sem]⟩
          have f0 : Below w.heap.size w ((w.alloc (.cells #[.int .u64 sd, .slice p1 chs.length k1, .slice p2 cls.length k2] 35)).alloc (.cells #[.int .i64 2, .func (.func 63) #[] #[.pointer (some ⟨w.heap.size, 0, none⟩)], .int .i64 6, .func (.func 64) #[] #[.pointer (some ⟨w.heap.size, 0, none⟩)], .int .i64 20, .func (.func 67) #[] #[.pointer (some ⟨w.heap.size, 0, none⟩)], .int .i64 21, .func (.func 71) #[] #[.pointer (some ⟨w.heap.size, 0, none⟩)]] 137)) := by go_grown
          generalize hg : ((w.alloc (.cells #[.int .u64 sd, .slice p1 chs.length k1, .slice p2 cls.length k2] 35)).alloc (.cells #[.int .i64 2, .func (.func 63) #[] #[.pointer (some ⟨w.heap.size, 0, none⟩)], .int .i64 6, .func (.func 64) #[] #[.pointer (some ⟨w.heap.size, 0, none⟩)], .int .i64 20, .func (.func 67) #[] #[.pointer (some ⟨w.heap.size, 0, none⟩)], .int .i64 21, .func (.func 71) #[] #[.pointer (some ⟨w.heap.size, 0, none⟩)]] 137)) = W0 at *
          clear hg
          rw [rounds_succ]
          go_wp2_with fail
          have a0 : Below W0.heap.size W0 (W0.alloc (.cells #[.int .i64 2, .func (.func 63) #[] #[.pointer (some ⟨w.heap.size, 0, none⟩)]] 132)) := (Below.refl _ _).alloc (Nat.le_refl _) _
          have HX := Lib.hid ((HW.out.below f0).below a0)
          have TX := Lib.hid ((HT.out.below f0).below a0)
          have BX := Lib.hid (b0.below a0)
          have y0 : (W0.alloc (.cells #[.int .i64 2, .func (.func 63) #[] #[.pointer (some ⟨w.heap.size, 0, none⟩)]] 132)).cell? ⟨W0.heap.size, 0, none⟩ = some (.int .i64 2) := by simp
          refine (chkMany_any w.heap.size p1 p2 _ k1 _ k2 _ BX.out).mono ?_
          rintro e w1 ⟨rfl, rfl⟩
          have g0 := y0
          have c0 := Below.refl (W0.alloc (.cells #[.int .i64 2, .func (.func 63) #[] #[.pointer (some ⟨w.heap.size, 0, none⟩)]] 132)).heap.size (W0.alloc (.cells #[.int .i64 2, .func (.func 63) #[] #[.pointer (some ⟨w.heap.size, 0, none⟩)]] 132))
          have f1 : Below w.heap.size w (W0.alloc (.cells #[.int .i64 2, .func (.func 63) #[] #[.pointer (some ⟨w.heap.size, 0, none⟩)]] 132)) := f0.trans ((a0.trans (c0.mono (by simp))).mono (by have := f0.size; omega))
          have b1 : BoxOf (W0.alloc (.cells #[.int .i64 2, .func (.func 63) #[] #[.pointer (some ⟨w.heap.size, 0, none⟩)]] 132)) w.heap.size p1 p2 chs.length k1 cls.length k2 := BX.out.below c0
          clear HX TX BX y0 a0 c0 b0
          generalize (W0.alloc (.cells #[.int .i64 2, .func (.func 63) #[] #[.pointer (some ⟨w.heap.size, 0, none⟩)]] 132)) = w1 at *
          have F1 := Lib.hid f1
          have B1 := Lib.hid b1
          clear f1 b1 f0
          go_wp2_with fail
          have f1 := F1.out
          have b1 := B1.out
          clear F1 B1
          rw [rounds_succ]
          go_wp2_with fail
          have a1 : Below w1.heap.size w1 (w1.alloc (.cells #[.int .i64 6, .func (.func 64) #[] #[.pointer (some ⟨w.heap.size, 0, none⟩)]] 132)) := (Below.refl _ _).alloc (Nat.le_refl _) _
          have HX := Lib.hid ((HW.out.below f1).below a1)
          have TX := Lib.hid ((HT.out.below f1).below a1)
          have BX := Lib.hid (b1.below a1)
          have y1 : (w1.alloc (.cells #[.int .i64 6, .func (.func 64) #[] #[.pointer (some ⟨w.heap.size, 0, none⟩)]] 132)).cell? ⟨w1.heap.size, 0, none⟩ = some (.int .i64 6) := by simp
          refine (chkChams_any w.heap.size chs p1 p2 k1 _ k2 _ BX.out hm1 HX.out.2.2.1).mono ?_
          rintro e v2 ⟨rfl, c1⟩
          have g1 : v2.cell? ⟨w1.heap.size, 0, none⟩ = some (.int .i64 6) := (c1.cell (p := ⟨w1.heap.size, 0, none⟩) (by simp)).trans y1
          have f2 : Below w.heap.size w v2 := f1.trans ((a1.trans (c1.mono (by simp))).mono (by have := f1.size; omega))
          have b2 : BoxOf v2 w.heap.size p1 p2 chs.length k1 cls.length k2 := BX.out.below c1
          clear HX TX BX y1 a1 c1 b1
          generalize v2 = w2 at *
          have F2 := Lib.hid f2
          have B2 := Lib.hid b2
          clear f2 b2 f1
          go_wp2_with fail
          have f2 := F2.out
          have b2 := B2.out
          clear F2 B2
          rw [rounds_succ]
          go_wp2_with fail
          have a2 : Below w2.heap.size w2 (w2.alloc (.cells #[.int .i64 20, .func (.func 67) #[] #[.pointer (some ⟨w.heap.size, 0, none⟩)]] 132)) := (Below.refl _ _).alloc (Nat.le_refl _) _
          have HX := Lib.hid ((HW.out.below f2).below a2)
          have TX := Lib.hid ((HT.out.below f2).below a2)
          have BX := Lib.hid (b2.below a2)
          have y2 : (w2.alloc (.cells #[.int .i64 20, .func (.func 67) #[] #[.pointer (some ⟨w.heap.size, 0, none⟩)]] 132)).cell? ⟨w2.heap.size, 0, none⟩ = some (.int .i64 20) := by simp
          refine (chkClks_any w.heap.size cls p1 p2 _ k1 k2 _ TX.out hm1 BX.out hm2 HX.out.2.2.2).mono ?_
          rintro e v3 ⟨rfl, c2⟩
          have g2 : v3.cell? ⟨w2.heap.size, 0, none⟩ = some (.int .i64 20) := (c2.cell (p := ⟨w2.heap.size, 0, none⟩) (by simp)).trans y2
          have f3 : Below w.heap.size w v3 := f2.trans ((a2.trans (c2.mono (by simp))).mono (by have := f2.size; omega))
          have b3 : BoxOf v3 w.heap.size p1 p2 chs.length k1 cls.length k2 := BX.out.below c2
          clear HX TX BX y2 a2 c2 b2
          generalize v3 = w3 at *
          have F3 := Lib.hid f3
          have B3 := Lib.hid b3
          clear f3 b3 f2
          go_wp2_with fail
          have f3 := F3.out
          have b3 := B3.out
          clear F3 B3
          rw [rounds_succ]
          go_wp2_with fail
          have a3 : Below w3.heap.size w3 (w3.alloc (.cells #[.int .i64 21, .func (.func 71) #[] #[.pointer (some ⟨w.heap.size, 0, none⟩)]] 132)) := (Below.refl _ _).alloc (Nat.le_refl _) _
          have HX := Lib.hid ((HW.out.below f3).below a3)
          have TX := Lib.hid ((HT.out.below f3).below a3)
          have BX := Lib.hid (b3.below a3)
          have y3 : (w3.alloc (.cells #[.int .i64 21, .func (.func 71) #[] #[.pointer (some ⟨w.heap.size, 0, none⟩)]] 132)).cell? ⟨w3.heap.size, 0, none⟩ = some (.int .i64 21) := by simp
          refine (chkEvs_any w.heap.size cls p1 p2 _ k1 k2 _ TX.out BX.out hm2 HX.out.2.2.2).mono ?_
          rintro e v4 ⟨rfl, c3⟩
          have g3 : v4.cell? ⟨w3.heap.size, 0, none⟩ = some (.int .i64 21) := (c3.cell (p := ⟨w3.heap.size, 0, none⟩) (by simp)).trans y3
          have f4 : Below w.heap.size w v4 := f3.trans ((a3.trans (c3.mono (by simp))).mono (by have := f3.size; omega))
          have b4 : BoxOf v4 w.heap.size p1 p2 chs.length k1 cls.length k2 := BX.out.below c3
          clear HX TX BX y3 a3 c3 b3
          generalize v4 = w4 at *
          have F4 := Lib.hid f4
          have B4 := Lib.hid b4
          clear f4 b4 f3
          go_wp2_with fail
          rw [rounds_succ]
          go_wp2
          go_ret
          exact ⟨ret_i64 HE.out.symm, F4.out⟩
end Go.Proofs.YtmfpnfdoidihcaaDoor.Wd
namespace Go.Proofs.YtmfpnfdoidihcaaDoor.Wd
open Go Go.RowKit
/-- a slice of seconds -/
def SecsIn (w : World) (l : List Int) (p : Option Addr) : Prop := l.length ≤ maxLen ∧ SliceIn p l.length (IntsAt w l)
theorem IntsAt.below {w w' : World} {b o : Nat} {l : List Int} (h : IntsAt w l b o) (hb : Below w.heap.size w w') : IntsAt w' l b o := fun i hi => cell_below hb (h i hi)
theorem checkS_vals (W : Wld) : checkS W = 0 ∨ checkS W = 2 ∨ checkS W = 6 ∨ checkS W = 20 ∨ checkS W = 21 := by
  unfold checkS; repeat (split; omega); omega
set_option maxRecDepth 100000 in
set_option maxHeartbeats 1000000 in
theorem find_bad (W : Wld) (k : Int) (l : List Int) (p1 p2 p3 : Option Addr) (k1 k2 k3 : Nat) (w : World) (ht : Tabs w) (hW : WldIn w W p1 p2) (hs : SecsIn w l p3) (he : findErr W k l ≠ 0) :
    Calls Tryd.prog 20 #[wldVal W p1 p2 k1 k2, .int .i64 k, .slice p3 l.length k3] w fun e w' => e = .returned (.tuple #[.pointer none, .int .i64 (findErr W k l)]) ∧ Below w.heap.size w w' := by
  have hm2 := hW.2.1
  unfold maxLen at hm2
  have a0 : Below w.heap.size w (w.alloc (.cells #[.int .u64 W.seed, .slice p1 W.chs.length k1, .slice p2 W.cls.length k2] 35)) := (Below.refl _ _).alloc (Nat.le_refl _) _
  have hc := check_any W p1 p2 k1 k2 _ (ht.below a0) (hW.below a0)
  have x2 : (w.alloc (.cells #[.int .u64 W.seed, .slice p1 W.chs.length k1, .slice p2 W.cls.length k2] 35)).cell? ⟨w.heap.size, 2, none⟩ = some (.slice p2 W.cls.length k2) := by simp
  unfold wldVal at hc ⊢
  have HC := Lib.hid hc
  have HS := Lib.hid hs
  have HE := Lib.hid he
  clear hc hW ht hs he
  by_cases h0 : checkS W = 0
  · have he2 : findErr W k l = if inR k 0 (W.cls.length - 1) = true then (if secsOk l = true then 0 else 21) else 20 := if_pos h0
    rw [h0] at HC
    cases h1 : inR k 0 (W.cls.length - 1)
    · rw [h1, if_neg (by decide)] at he2
      have H2 := Lib.hid he2
      clear he2 h0
      go_enter Tryd.func20, Tryd.ntmps20
      go_wp2_with fail
      refine HC.out.mono ?_
      rintro e w1 ⟨rfl, b1⟩
      have y2 := cell_below b1 x2
      have hz := cell_lt y2
      go_wp2_with (go_at_call 43; refine (isIndex_any _ _ _ (by omega) (by omega)).mono ?_; rintro e w' ⟨rfl, rfl⟩)
      go_ret2
      exact ⟨by rw [H2.out]; rfl, a0.trans (b1.mono (by simp))⟩
    · rw [h1, if_pos rfl] at he2
      cases h2 : secsOk l
      · rw [h2, if_neg (by decide)] at he2
        have H2 := Lib.hid he2
        clear he2 h0
        go_enter Tryd.func20, Tryd.ntmps20
        go_wp2_with fail
        refine HC.out.mono ?_
        rintro e w1 ⟨rfl, b1⟩
        have y2 := cell_below b1 x2
        have hz := cell_lt y2
        have b2 : Below w.heap.size w w1 := a0.trans (b1.mono (by simp))
        have B2 := Lib.hid b2
        clear b2
        go_wp2_with (first | (go_at_call 43; refine (isIndex_any _ _ _ (by omega) (by omega)).mono ?_; rintro e w' ⟨rfl, rfl⟩) |
          (go_at_call 44; refine (allInt_any _ _ l _ HS.out.1 (HS.out.2.imp fun _ _ h => h.below B2.out)).mono ?_; rintro e w' ⟨rfl, rfl⟩))
        go_ret2
        exact ⟨by rw [H2.out]; rfl, B2.out⟩
      · rw [h2, if_pos rfl] at he2
        exact absurd he2 HE.out
  · have he2 : findErr W k l = checkS W := if_neg h0
    have h3 : (checkS W != 0) = true := by simpa using h0
    have H2 := Lib.hid he2
    clear he2 h0
    go_enter Tryd.func20, Tryd.ntmps20
    go_wp2_with fail
    refine HC.out.mono ?_
    rintro e w1 ⟨rfl, b1⟩
    go_wp2
    go_ret2
    exact ⟨by rw [H2.out]; rfl, a0.trans (b1.mono (by simp))⟩
theorem effects_keep (W0 : World) (w : World) (hb : Below W0.heap.size W0 w) :
    Calls Tryd.prog 46 #[] w fun e w' => ∃ m, e = .returned (.map (some m)) ∧ w'.heap[m]? = some fxMap ∧ Below W0.heap.size W0 w' :=
  (effects_any w).mono fun _ _ ⟨a, b⟩ => ⟨_, a, by rw [b]; exact (MapKept.heap_alloc w _).1, by rw [b]; exact hb.alloc hb.size _⟩
theorem below_alloc {W0 w : World} (h : Below W0.heap.size W0 w) (o : Obj) : Below W0.heap.size W0 (w.alloc o) := h.alloc h.size o
/-- what find hands back where it hands back a clock -/
def Found (W : Wld) (k : Int) (B : Nat) (w : World) (e : Ending) (w' : World) : Prop :=
  ∃ a m v, e = .returned (.tuple #[.pointer (some ⟨a, 0, none⟩), .int .i64 0]) ∧ AtWork w' a m (clkOf W k) W.seed k (roomOf W k) v ∧ Below B w w' ∧ B ≤ a
set_option maxRecDepth 100000 in
set_option maxHeartbeats 2000000 in
theorem find_okA (W : Wld) (k : Int) (j i : Nat) (c : Clk) (r : Cham) (l : List Int) (p1 p2 p3 : Option Addr) (k1 k2 k3 : Nat) (w : World) (ht : Tabs w) (hW : WldIn w W p1 p2) (hs : SecsIn w l p3) (h0 : checkS W = 0) (h1 : inR k 0 (W.cls.length - 1) = true) (h2 : secsOk l = true) (hk : k = (j : Int)) (hj : j < W.cls.length) (hjc : W.cls[j] = c) (hi : i < W.chs.length) (hroom : c.room = (i : Int)) (hir : W.chs[i] = r) :
    Calls Tryd.prog 20 #[wldVal W p1 p2 k1 k2, .int .i64 k, .slice p3 l.length k3] w (fun e w' => ∃ a m v, e = .returned (.tuple #[.pointer (some ⟨a, 0, none⟩), .int .i64 0]) ∧ AtWork w' a m c W.seed k r v ∧ Below w.heap.size w w' ∧ w.heap.size ≤ a) := by
  have hm2 := hW.2.1
  unfold maxLen at hm2
  have a0 : Below w.heap.size w (w.alloc (.cells #[.int .u64 W.seed, .slice p1 W.chs.length k1, .slice p2 W.cls.length k2] 35)) := (Below.refl _ _).alloc (Nat.le_refl _) _
  have hc := check_any W p1 p2 k1 k2 _ (ht.below a0) (hW.below a0)
  rw [h0] at hc
  have x0 : (w.alloc (.cells #[.int .u64 W.seed, .slice p1 W.chs.length k1, .slice p2 W.cls.length k2] 35)).cell? ⟨w.heap.size, 0, none⟩ = some (.int .u64 W.seed) := by simp
  have x1 : (w.alloc (.cells #[.int .u64 W.seed, .slice p1 W.chs.length k1, .slice p2 W.cls.length k2] 35)).cell? ⟨w.heap.size, 1, none⟩ = some (.slice p1 W.chs.length k1) := by simp
  have x2 : (w.alloc (.cells #[.int .u64 W.seed, .slice p1 W.chs.length k1, .slice p2 W.cls.length k2] 35)).cell? ⟨w.heap.size, 2, none⟩ = some (.slice p2 W.cls.length k2) := by simp
  obtain ⟨q1, o1, rfl, hq1⟩ := hW.2.2.1.resolve_left (by omega)
  obtain ⟨q2, o2, rfl, hq2⟩ := hW.2.2.2.resolve_left (by omega)
  subst hk
  have hcc := hq2 j hj
  have hrr := hq1 i hi
  rw [hjc] at hcc
  rw [hir] at hrr
  have hjlt : (j : Int) < (W.cls.length : Int) := by omega
  have hilt : (i : Int) < (W.chs.length : Int) := by omega
  have hm1 := hW.1
  unfold maxLen at hm1
  unfold wldVal at hc ⊢
  have HC := Lib.hid hc
  have HS := Lib.hid hs
  have H1 := Lib.hid h1
  have H2 := Lib.hid h2
  have HCC := Lib.hid hcc
  have HRR := Lib.hid hrr
  have HRO := Lib.hid hroom
  clear hc hW ht hs h0 h1 h2 hcc hrr hq1 hq2 hroom hj hi hjc hir
  go_enter Tryd.func20, Tryd.ntmps20
  go_wp2_with fail
  refine HC.out.mono ?_
  rintro e w1 ⟨rfl, b1⟩
  have y0 := cell_below b1 x0
  have y1 := cell_below b1 x1
  have y2 := cell_below b1 x2
  have hz := cell_lt y2
  have b2 : Below w.heap.size w w1 := a0.trans (b1.mono (by simp))
  have B2 := Lib.hid b2
  obtain ⟨⟨c0, c1, c2, c3, c4, c5, c6, c7⟩, v, c8, hv⟩ := HCC.out.below b2
  obtain ⟨r0, r1, r2⟩ := HRR.out.below b2
  have HV := Lib.hid hv
  obtain ⟨pv, capv, rfl, hmv, -⟩ := hv
  rw [HRO.out] at c7
  have hz1 := cell_lt c0
  have hz2 := cell_lt r0
  clear x0 x1 x2 b1 b2 a0
  have h1' := H1.out
  have h2' := H2.out
  go_wp2_with (first | (go_at_call 43; refine (isIndex_any _ _ _ (by omega) (by omega)).mono ?_; rintro e w' ⟨rfl, rfl⟩) |
    (go_at_call 44; refine (allInt_any _ _ l _ HS.out.1 (HS.out.2.imp fun _ _ h => h.below B2.out)).mono ?_; rintro e w' ⟨rfl, rfl⟩))
  obtain ⟨W0, hW0⟩ : ∃ W0, W0 = (w1.alloc (.cells #[.int .i64 c.kind, .int .i64 c.phase, .int .i64 c.rate, .int .i64 c.drift, .int .i64 c.white, .int .i64 c.walk, .int .i64 c.heat, .int .i64 (i : Int), .slice pv c.evs.length capv] 76)) := ⟨_, rfl⟩
  rw [← hW0]
  have hbw : Below w1.heap.size w1 W0 := by rw [hW0]; exact (Below.refl _ _).alloc (Nat.le_refl _) _
  have g0 : W0.cell? ⟨w1.heap.size, 0, none⟩ = some (.int .i64 c.kind) := by rw [hW0]; simp
  have g1 : W0.cell? ⟨w1.heap.size, 1, none⟩ = some (.int .i64 c.phase) := by rw [hW0]; simp
  have g2 : W0.cell? ⟨w1.heap.size, 2, none⟩ = some (.int .i64 c.rate) := by rw [hW0]; simp
  have g3 : W0.cell? ⟨w1.heap.size, 3, none⟩ = some (.int .i64 c.drift) := by rw [hW0]; simp
  have g4 : W0.cell? ⟨w1.heap.size, 4, none⟩ = some (.int .i64 c.white) := by rw [hW0]; simp
  have g5 : W0.cell? ⟨w1.heap.size, 5, none⟩ = some (.int .i64 c.walk) := by rw [hW0]; simp
  have g6 : W0.cell? ⟨w1.heap.size, 6, none⟩ = some (.int .i64 c.heat) := by rw [hW0]; simp
  have g7 : W0.cell? ⟨w1.heap.size, 7, none⟩ = some (.int .i64 (i : Int)) := by rw [hW0]; simp
  have g8 : W0.cell? ⟨w1.heap.size, 8, none⟩ = some (.slice pv c.evs.length capv) := by rw [hW0]; simp
  have d0 := cell_below hbw y0
  have d1 := cell_below hbw y1
  have s0 := cell_below hbw r0
  have s1 := cell_below hbw r1
  have s2 := cell_below hbw r2
  have hz3 := hbw.size
  clear hW0 y0 y1 y2 r0 r1 r2 c0 c1 c2 c3 c4 c5 c6 c7 c8 h1' h2'
  have HBW := Lib.hid hbw
  clear hbw
  have hk : ∀ X, Below W0.heap.size W0 X → (fun w' => Below W0.heap.size W0 w' ∧ w'.cell? ⟨w1.heap.size, 0, none⟩ = some (.int .i64 c.kind) ∧ w'.cell? ⟨w1.heap.size, 1, none⟩ = some (.int .i64 c.phase) ∧ w'.cell? ⟨w1.heap.size, 2, none⟩ = some (.int .i64 c.rate) ∧ w'.cell? ⟨w1.heap.size, 3, none⟩ = some (.int .i64 c.drift) ∧ w'.cell? ⟨w1.heap.size, 4, none⟩ = some (.int .i64 c.white) ∧ w'.cell? ⟨w1.heap.size, 5, none⟩ = some (.int .i64 c.walk) ∧ w'.cell? ⟨w1.heap.size, 6, none⟩ = some (.int .i64 c.heat) ∧ w'.cell? ⟨w1.heap.size, 7, none⟩ = some (.int .i64 (i : Int)) ∧ w'.cell? ⟨w1.heap.size, 8, none⟩ = some (.slice pv c.evs.length capv) ∧ w'.cell? ⟨w.heap.size, 0, none⟩ = some (.int .u64 W.seed) ∧ w'.cell? ⟨w.heap.size, 1, none⟩ = some (.slice (some ⟨q1, o1, none⟩) W.chs.length k1) ∧  w'.cell? ⟨q1, o1 + i * 3, none⟩ = some (.int .i64 r.base) ∧ w'.cell? ⟨q1, o1 + i * 3 + 1, none⟩ = some (.int .i64 r.swing) ∧ w'.cell? ⟨q1, o1 + i * 3 + 2, none⟩ = some (.int .i64 r.period)) X := fun X h => ⟨h, cell_below h g0, cell_below h g1, cell_below h g2, cell_below h g3, cell_below h g4, cell_below h g5, cell_below h g6, cell_below h g7, cell_below h g8, cell_below h d0, cell_below h d1, cell_below h s0, cell_below h s1, cell_below h s2⟩
  have HK := Lib.hid hk
  clear hk
  go_region_held3 (fun w' => Below W0.heap.size W0 w' ∧ w'.cell? ⟨w1.heap.size, 0, none⟩ = some (.int .i64 c.kind) ∧ w'.cell? ⟨w1.heap.size, 1, none⟩ = some (.int .i64 c.phase) ∧ w'.cell? ⟨w1.heap.size, 2, none⟩ = some (.int .i64 c.rate) ∧ w'.cell? ⟨w1.heap.size, 3, none⟩ = some (.int .i64 c.drift) ∧ w'.cell? ⟨w1.heap.size, 4, none⟩ = some (.int .i64 c.white) ∧ w'.cell? ⟨w1.heap.size, 5, none⟩ = some (.int .i64 c.walk) ∧ w'.cell? ⟨w1.heap.size, 6, none⟩ = some (.int .i64 c.heat) ∧ w'.cell? ⟨w1.heap.size, 7, none⟩ = some (.int .i64 (i : Int)) ∧ w'.cell? ⟨w1.heap.size, 8, none⟩ = some (.slice pv c.evs.length capv) ∧ w'.cell? ⟨w.heap.size, 0, none⟩ = some (.int .u64 W.seed) ∧ w'.cell? ⟨w.heap.size, 1, none⟩ = some (.slice (some ⟨q1, o1, none⟩) W.chs.length k1) ∧  w'.cell? ⟨q1, o1 + i * 3, none⟩ = some (.int .i64 r.base) ∧ w'.cell? ⟨q1, o1 + i * 3 + 1, none⟩ = some (.int .i64 r.swing) ∧ w'.cell? ⟨q1, o1 + i * 3 + 2, none⟩ = some (.int .i64 r.period))
    (exact HK.out _ (by first | assumption | exact below_drewN (Below.refl _ _) _ | exact Below.drew (below_drewN (Below.refl _ _) _) | exact Below.drew (Below.refl _ _) | exact below_alloc (by assumption) _))
    (first | (go_at_call 46; refine (effects_keep W0 _ (by first | assumption | exact Below.drew (Below.refl _ _) | exact below_drewN (Below.refl _ _) _ | exact Below.drew (below_drewN (Below.refl _ _) _))).mono ?_; rintro e w2 ⟨m, rfl, hfx, hb2⟩))
  go_wp2_with fail
  go_ret2
  have hb3 := below_alloc hb2 (.cells #[.int .i64 c.kind, .int .i64 c.phase, .int .i64 c.rate, .int .i64 c.drift, .int .i64 c.white, .int .i64 c.walk, .int .i64 c.heat, .int .i64 (i : Int), .slice pv c.evs.length capv, .int .u64 W.seed, .int .i64 (j : Int), .int .i64 r.base, .int .i64 r.swing, .int .i64 r.period, .map (some m)] 91)
  have hm : m < w2.heap.size := heap_lt hfx
  have hroom := HRO.out
  refine ⟨w2.heap.size, m, .slice pv c.evs.length capv, rfl, ⟨⟨by simp, by simp, by simp, by simp, by simp, by simp, by simp, by simp [hroom]⟩, by simp, (HV.out.below HBW.out).below hb3, by simp, by simp, ⟨by simp, by simp, by simp⟩, by simp, (Below.heap_alloc _ _ _ hm).trans hfx⟩, ?_, ?_⟩
  · exact B2.out.trans ((HBW.out.trans (hb3.mono HBW.out.size)).mono B2.out.size)
  · have := B2.out.size; have := HBW.out.size; have := hb2.size; omega
theorem find_ok (W : Wld) (k : Int) (l : List Int) (p1 p2 p3 : Option Addr) (k1 k2 k3 : Nat) (w X : World) (hb : Below w.heap.size w X) (ht : Tabs w) (hW : WldIn w W p1 p2) (hs : SecsIn X l p3) (he : findErr W k l = 0) :
    Calls Tryd.prog 20 #[wldVal W p1 p2 k1 k2, .int .i64 k, .slice p3 l.length k3] X (Found W k w.heap.size w) := by
  obtain ⟨h0, h1, h2⟩ := findErr_zero he
  have hA := allowed_of h0 h1
  have hk := inR_true h1
  have hjc : W.cls[k.toNat]'hA.hk = clkOf W k := by have := hA.hc; rw [List.getElem?_eq_getElem hA.hk] at this; exact Option.some.inj this
  have hir : W.chs[(clkOf W k).room.toNat]'hA.hi = roomOf W k := by have := hA.hr; rw [List.getElem?_eq_getElem hA.hi] at this; exact Option.some.inj this
  exact (find_okA W k k.toNat (clkOf W k).room.toNat (clkOf W k) (roomOf W k) l p1 p2 p3 k1 k2 k3 X (ht.below hb) (hW.below hb) hs h0 h1 h2 (by omega) hA.hk hjc hA.hi (by have := hA.room; omega) hir).mono
    fun e w' ⟨a, m, v, h1, h2, h3, h4⟩ => ⟨a, m, v, h1, h2, hb.trans (h3.mono hb.size), Nat.le_trans hb.size h4⟩
theorem find_no (W : Wld) (k : Int) (l : List Int) (p1 p2 p3 : Option Addr) (k1 k2 k3 : Nat) (w X : World) (hb : Below w.heap.size w X) (ht : Tabs w) (hW : WldIn w W p1 p2) (hs : SecsIn X l p3) (he : findErr W k l ≠ 0) :
    Calls Tryd.prog 20 #[wldVal W p1 p2 k1 k2, .int .i64 k, .slice p3 l.length k3] X fun e w' => e = .returned (.tuple #[.pointer none, .int .i64 (findErr W k l)]) ∧ Below w.heap.size w w' :=
  (find_bad W k l p1 p2 p3 k1 k2 k3 X (ht.below hb) (hW.below hb) hs he).mono fun _ _ ⟨a, b⟩ => ⟨a, hb.trans (b.mono hb.size)⟩
theorem secs_nil (X : World) : SecsIn X [] none := ⟨by simp [maxLen], .inl rfl⟩
theorem secs_one {X : World} {b : Nat} {s : Int} (h : X.cell? ⟨b, 0, none⟩ = some (.int .i64 s)) : SecsIn X [s] (some ⟨b, 0, none⟩) :=
  ⟨by simp [maxLen], .inr ⟨b, 0, rfl, fun i hi => by
    obtain rfl : i = 0 := by simp at hi; omega
    exact h⟩⟩
theorem secs_two {X : World} {b : Nat} {s t : Int} (h : X.cell? ⟨b, 0, none⟩ = some (.int .i64 s)) (h' : X.cell? ⟨b, 1, none⟩ = some (.int .i64 t)) : SecsIn X [s, t] (some ⟨b, 0, none⟩) :=
  ⟨by simp [maxLen], .inr ⟨b, 0, rfl, fun i hi => by
    have : i = 0 ∨ i = 1 := by simp at hi; omega
    rcases this with rfl | rfl
    · exact h
    · exact h'⟩⟩
end Go.Proofs.YtmfpnfdoidihcaaDoor.Wd
namespace Go.Proofs.YtmfpnfdoidihcaaDoor.Wd
open Go Go.RowKit
theorem phase_at {a m : Nat} {c : Clk} {seed k : Int} {r : Cham} {v : Value} (s : Int) (w : World) (h : AtWork w a m c seed k r v) (hc : ClkIn c) (hr : chamOk r = true) (hk : 0 ≤ k ∧ k ≤ 16) (h0 : 0 ≤ s) (h1 : s ≤ 1000000) :
    Calls Tryd.prog 40 #[.pointer (some ⟨a, 0, none⟩), .int .i64 s] w fun e w' => e = .returned (.int .i64 (phaseS seed k c r s)) ∧ Below w.heap.size w w' := by
  have b1 := fixed_bd hc hr s h0 h1
  have b2 := walked_bd seed k c.walk 0 s hc.walk.1 (Int.le_refl 0) h0
  have b3 := stray_bd hc 0 s (Int.le_refl 0) h0 h1
  have b4 : -10000000000000 ≤ walkedS seed k c.walk 0 s ∧ walkedS seed k c.walk 0 s ≤ 10000000000000 := by omega
  clear b2 b3
  have H := Lib.hid h
  have HC := Lib.hid hc
  have HR := Lib.hid hr
  clear h hc hr
  go_enter Tryd.func40, Tryd.ntmps40
  go_wp2_with fail
  refine (fixed_at s _ H.out HC.out HR.out h0 h1).mono ?_
  rintro e w1 ⟨rfl, hb1⟩
  have HB := Lib.hid hb1
  clear hb1
  go_wp2_with fail
  refine (walked_at 0 s _ (H.out.below HB.out) HC.out hk (Int.le_refl 0) h0 h1).mono ?_
  rintro e w2 ⟨rfl, hb2⟩
  have HB2 := Lib.hid hb2
  clear hb2
  go_wp2
  go_ret
  exact ⟨rfl, HB.out.trans (HB2.out.mono HB.out.size)⟩
theorem shown_at {a m : Nat} {c : Clk} {seed k : Int} {r : Cham} {v : Value} (s : Int) (w : World) (h : AtWork w a m c seed k r v) (hc : ClkIn c) (hr : chamOk r = true) (hk : 0 ≤ k ∧ k ≤ 16) (h0 : 0 ≤ s) (h1 : s ≤ 1000000) :
    Calls Tryd.prog 19 #[.pointer (some ⟨a, 0, none⟩), .int .i64 s] w fun e w' => e = .returned (.int .i64 (shownS seed k c r s)) ∧ Below w.heap.size w w' := by
  have b1 := phase_bd seed k hc hr s h0 h1
  have b2 := white_bd seed k hc s
  have b3 := hc.white
  have b4 : -1000000000000 ≤ whiteS seed k c s ∧ whiteS seed k c s ≤ 1000000000000 := by omega
  clear b2 b3
  have H := Lib.hid h
  have HC := Lib.hid hc
  have HR := Lib.hid hr
  clear h hc hr
  go_enter Tryd.func19, Tryd.ntmps19
  go_wp2_with fail
  refine (phase_at s _ H.out HC.out HR.out hk h0 h1).mono ?_
  rintro e w1 ⟨rfl, hb1⟩
  have HB := Lib.hid hb1
  clear hb1
  go_wp2_with fail
  refine (white_at s _ (H.out.below HB.out) HC.out h0 h1 hk).mono ?_
  rintro e w2 ⟨rfl, hb2⟩
  have HB2 := Lib.hid hb2
  clear hb2
  go_wp2
  go_ret
  exact ⟨rfl, HB.out.trans (HB2.out.mono HB.out.size)⟩
def momVal (a b : Int) : Value := .agg #[.int .i64 a, .int .i64 b]
end Go.Proofs.YtmfpnfdoidihcaaDoor.Wd
