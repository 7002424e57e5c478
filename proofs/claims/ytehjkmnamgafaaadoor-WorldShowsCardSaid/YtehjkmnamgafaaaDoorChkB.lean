/- Contracts: Check, and the clock at work that find makes. -/
import Derived.Test.YtehjkmnamgafaaaDoorChk
namespace Go.Proofs.YtehjkmnamgafaaaDoor
open Go Go.RowKit
theorem evsAllowed_of (c : Clk) (v : Value) (w : World) (ht : Tabs w) (hv : EvSlice w c.evs v) :
    Calls Tryd.prog 61 #[clkVal c v] w fun e w' => e = .returned (.bool (evsOf c)) ∧ Below w.heap.size w w' := evsAllowed_any c v w ht hv
theorem allClk_nil (p : Option Addr) (cap : Nat) (f : Value) (w : World) :
    Calls Tryd.prog 57 #[.slice p 0 cap, f] w fun e w' => e = .returned (.bool true) ∧ w = w' := by
  go_enter Tryd.func57, Tryd.ntmps57
  go_wp2
  go_rounds 1
  go_ret
  exact ⟨rfl, rfl⟩
set_option maxRecDepth 100000 in
set_option maxHeartbeats 1000000 in
theorem allClkEv_at (b o cap : Nat) (cs : List Clk) (w : World) (ht : Tabs w) (hm : cs.length ≤ maxLen) (hc : ClksAt w cs b o) :
    Calls Tryd.prog 57 #[.slice (some ⟨b, o, none⟩) cs.length cap, .func (.func 61) #[] #[]] w fun e w' => e = .returned (.bool (cs.all evsOf)) ∧ Below w.heap.size w w' := by
  unfold maxLen at hm
  have HC := Lib.hid hc; clear hc
  have HT := Lib.hid ht; clear ht
  go_enter Tryd.func57, Tryd.ntmps57
  go_wp2
  go_loopw [9] (fun i wr => ∃ k : Nat, k ≤ cs.length ∧ i = .int .i64 k ∧ (cs.take k).all evsOf = true ∧ Below w.heap.size w wr) (fun i _ => cs.length - (intOf i).toNat)
  case atStart => exact ⟨0, Nat.zero_le _, rfl, rfl, Below.refl _ _⟩
  case round =>
    obtain ⟨k, hk, rfl, ha, hb⟩ := hrel
    by_cases hlt : k < cs.length
    · obtain ⟨⟨c0, c1, c2, c3, c4, c5, c6, c7⟩, v, c8, hv⟩ := (HC.out k hlt).below hb
      have hv' := hv
      obtain ⟨p, cap', rfl, hme, hsl⟩ := hv
      have HV := Lib.hid hv'
      have HSL := Lib.hid hsl
      clear hv' hsl
      have hz := cell_lt c0
      have hw := hb.size
      cases hok : evsOf cs[k]
      · go_wp2_with (go_at_call 61; refine (evsAllowed_of cs[k] _ _ ((HT.out.below hb).below ((Below.refl _ _).alloc (Nat.le_refl _) _)) (HV.out.below ((Below.refl _ _).alloc (Nat.le_refl _) _))).mono ?_; rintro e w1 ⟨rfl, hb1⟩)
        go_ret
        exact ⟨ret_bool (all_no _ _ _ hlt hok), (hb.alloc (by omega) _).trans (hb1.mono (by simp; omega))⟩
      · go_wp2_with (go_at_call 61; refine (evsAllowed_of cs[k] _ _ ((HT.out.below hb).below ((Below.refl _ _).alloc (Nat.le_refl _) _)) (HV.out.below ((Below.refl _ _).alloc (Nat.le_refl _) _))).mono ?_; rintro e w1 ⟨rfl, hb1⟩)
        go_roundw
        case rel => exact ⟨k + 1, by omega, by go_num, take_all_snoc _ _ _ hlt ha hok, (hb.alloc (by omega) _).trans (hb1.mono (by simp; omega))⟩
        case measure => simp [intOf]; omega
    · go_wp2
      go_ret
      exact ⟨ret_bool (all_yes _ _ _ (by omega) ha), hb⟩
set_option maxRecDepth 100000 in
set_option maxHeartbeats 1000000 in
theorem allClkOk_at (b o cap : Nat) (cs : List Clk) (n cap1 bw : Nat) (p1 : Option Addr) (w : World) (ht : Tabs w) (hn : n ≤ maxLen) (hw1 : w.cell? ⟨bw, 1, none⟩ = some (.slice p1 n cap1)) (hm : cs.length ≤ maxLen) (hc : ClksAt w cs b o) :
    Calls Tryd.prog 57 #[.slice (some ⟨b, o, none⟩) cs.length cap, .func (.func 58) #[] #[.pointer (some ⟨bw, 0, none⟩)]] w fun e w' => e = .returned (.bool (cs.all (clkOk n))) ∧ Below w.heap.size w w' := by
  unfold maxLen at hm
  have HC := Lib.hid hc; clear hc
  have HT := Lib.hid ht; clear ht
  have HW := Lib.hid hw1; clear hw1
  go_enter Tryd.func57, Tryd.ntmps57
  go_wp2
  go_loopw [9] (fun i wr => ∃ k : Nat, k ≤ cs.length ∧ i = .int .i64 k ∧ (cs.take k).all (clkOk n) = true ∧ Below w.heap.size w wr) (fun i _ => cs.length - (intOf i).toNat)
  case atStart => exact ⟨0, Nat.zero_le _, rfl, rfl, Below.refl _ _⟩
  case round =>
    obtain ⟨k, hk, rfl, ha, hb⟩ := hrel
    by_cases hlt : k < cs.length
    · obtain ⟨⟨c0, c1, c2, c3, c4, c5, c6, c7⟩, v, c8, hv⟩ := (HC.out k hlt).below hb
      have hv' := hv
      obtain ⟨p, cap', rfl, hme, hsl⟩ := hv
      have HV := Lib.hid hv'
      have HSL := Lib.hid hsl
      clear hv' hsl
      have hz := cell_lt c0
      have hw := hb.size
      cases hok : (clkOk n) cs[k]
      · go_wp2_with (go_at_call 58; refine (clkAllowed_in cs[k] n cap1 bw p1 _ _ _ ((HT.out.below hb).below ((Below.refl _ _).alloc (Nat.le_refl _) _)) hn (HSL.out.imp fun _ _ h => h.below ((Below.refl _ _).alloc (Nat.le_refl _) _)) hme (cell_below ((Below.refl _ _).alloc (Nat.le_refl _) _) (cell_below hb HW.out))).mono ?_; rintro e w1 ⟨rfl, hb1⟩)
        go_ret
        exact ⟨ret_bool (all_no _ _ _ hlt hok), (hb.alloc (by omega) _).trans (hb1.mono (by simp; omega))⟩
      · go_wp2_with (go_at_call 58; refine (clkAllowed_in cs[k] n cap1 bw p1 _ _ _ ((HT.out.below hb).below ((Below.refl _ _).alloc (Nat.le_refl _) _)) hn (HSL.out.imp fun _ _ h => h.below ((Below.refl _ _).alloc (Nat.le_refl _) _)) hme (cell_below ((Below.refl _ _).alloc (Nat.le_refl _) _) (cell_below hb HW.out))).mono ?_; rintro e w1 ⟨rfl, hb1⟩)
        go_roundw
        case rel => exact ⟨k + 1, by omega, by go_num, take_all_snoc _ _ _ hlt ha hok, (hb.alloc (by omega) _).trans (hb1.mono (by simp; omega))⟩
        case measure => simp [intOf]; omega
    · go_wp2
      go_ret
      exact ⟨ret_bool (all_yes _ _ _ (by omega) ha), hb⟩
theorem allClkEv_any (p : Option Addr) (cap : Nat) (cs : List Clk) (w : World) (ht : Tabs w) (hm : cs.length ≤ maxLen) (hc : SliceIn p cs.length (ClksAt w cs)) :
    Calls Tryd.prog 57 #[.slice p cs.length cap, .func (.func 61) #[] #[]] w fun e w' => e = .returned (.bool (cs.all evsOf)) ∧ Below w.heap.size w w' := by
  rcases hc with h | ⟨b, o, rfl, hc⟩
  · obtain rfl := List.eq_nil_of_length_eq_zero h
    exact (allClk_nil p cap _ w).mono fun _ _ ⟨h, e⟩ => ⟨h, e ▸ Below.refl _ _⟩
  · exact allClkEv_at b o cap cs w ht hm hc
theorem allClkOk_any (p : Option Addr) (cap : Nat) (cs : List Clk) (n cap1 bw : Nat) (p1 : Option Addr) (w : World) (ht : Tabs w) (hn : n ≤ maxLen) (hw : w.cell? ⟨bw, 1, none⟩ = some (.slice p1 n cap1)) (hm : cs.length ≤ maxLen) (hc : SliceIn p cs.length (ClksAt w cs)) :
    Calls Tryd.prog 57 #[.slice p cs.length cap, .func (.func 58) #[] #[.pointer (some ⟨bw, 0, none⟩)]] w fun e w' => e = .returned (.bool (cs.all (clkOk n))) ∧ Below w.heap.size w w' := by
  rcases hc with h | ⟨b, o, rfl, hc⟩
  · obtain rfl := List.eq_nil_of_length_eq_zero h
    exact (allClk_nil p cap _ w).mono fun _ _ ⟨h, e⟩ => ⟨h, e ▸ Below.refl _ _⟩
  · exact allClkOk_at b o cap cs n cap1 bw p1 w ht hn hw hm hc
end Go.Proofs.YtehjkmnamgafaaaDoor
